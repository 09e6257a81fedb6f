/-
  PLAIN MATHEMATICS FOR LAYER 1 (sha): the state of eight words, the rounds, the state behind a block. No program is named.
-/
import Derived.Test.YtpnhklefoafgkaaDoorPlain
namespace Go.Proofs.YtpnhklefoafgkaaDoor.Sha
open Go

/-- The eight words of a state. -/
structure St where
  a : BitVec 32
  b : BitVec 32
  c : BitVec 32
  d : BitVec 32
  e : BitVec 32
  f : BitVec 32
  g : BitVec 32
  h : BitVec 32
def St.list (s : St) : List (BitVec 32) := [s.a, s.b, s.c, s.d, s.e, s.f, s.g, s.h]
def t1Of (s : St) (k x : BitVec 32) : BitVec 32 := s.h + S1 s.e + ch s.e s.f s.g + k + x
def t2Of (s : St) : BitVec 32 := S0 s.a + maj s.a s.b s.c
/-- One round: k the round's constant, x the schedule's word. -/
def rnd (s : St) (k x : BitVec 32) : St := ⟨t1Of s k x + t2Of s, s.a, s.b, s.c, s.d + t1Of s k x, s.e, s.f, s.g⟩
/-- The rounds' constants (FIPS 180-4, 4.2.2). -/
def kWords : List (BitVec 32) := [1116352408, 1899447441, 3049323471, 3921009573, 961987163, 1508970993, 2453635748, 2870763221, 3624381080, 310598401, 607225278, 1426881987, 1925078388, 2162078206, 2614888103, 3248222580, 3835390401, 4022224774, 264347078, 604807628, 770255983, 1249150122, 1555081692, 1996064986, 2554220882, 2821834349, 2952996808, 3210313671, 3336571891, 3584528711, 113926993, 338241895, 666307205, 773529912, 1294757372, 1396182291, 1695183700, 1986661051, 2177026350, 2456956037, 2730485921, 2820302411, 3259730800, 3345764771, 3516065817, 3600352804, 4094571909, 275423344, 430227734, 506948616, 659060556, 883997877, 958139571, 1322822218, 1537002063, 1747873779, 1955562222, 2024104815, 2227730452, 2361852424, 2428436474, 2756734187, 3204031479, 3329325298]
def roundsTo (ws : List (BitVec 32)) (s : St) : Nat → St
  | 0 => s
  | n + 1 => rnd (roundsTo ws s n) (kWords.getD n 0) (ws.getD n 0)
def St.plus (s r : St) : St := ⟨s.a + r.a, s.b + r.b, s.c + r.c, s.d + r.d, s.e + r.e, s.f + r.f, s.g + r.g, s.h + r.h⟩
/-- The state behind a block. -/
def mix (s : St) (bs : List UInt8) : St := s.plus (roundsTo (sched bs) s 64)
def first : St := ⟨1779033703, 3144134277, 1013904242, 2773480762, 1359893119, 2600822924, 528734635, 1541459225⟩
end Go.Proofs.YtpnhklefoafgkaaDoor.Sha
