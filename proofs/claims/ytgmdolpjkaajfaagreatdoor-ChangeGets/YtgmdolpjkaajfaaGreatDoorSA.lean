/-
  SHA (stemma/sha): the schedule, the rounds, the ending.
-/
import Derived.Test.YtgmdolpjkaajfaaGreatDoorRows
import Derived.WalkKit
import Derived.WalkSpells
import Derived.WalkLawsBesides
import Derived.Deep.RegionHeld3
namespace Go.Proofs.YtgmdolpjkaajfaaGreatDoor.SH.Sha
open Go

/-- A word of 32 bits as the model's integer. -/
def n32 (x : BitVec 32) : Int := (x.toNat : Int)
theorem n32_lo (x : BitVec 32) : 0 ≤ n32 x := by unfold n32; omega
theorem n32_hi (x : BitVec 32) : n32 x < 4294967296 := by have := x.isLt; unfold n32; omega
theorem ofInt_n32 (x : BitVec 32) : BitVec.ofInt 32 (n32 x) = x := by
  apply BitVec.eq_of_toNat_eq; unfold n32; simp
theorem wrap_n32 (x : BitVec 32) : IntKind.u32.wrap (n32 x) = n32 x := by
  have h1 := n32_lo x; have h2 := n32_hi x
  simp [IntKind.wrap, IntKind.bits, IntKind.signed]; omega
theorem bits_and (x y : BitVec 32) : bits .and .u32 (n32 x) (n32 y) = n32 (x &&& y) := by
  show IntKind.u32.wrap (((BitVec.ofInt 32 (n32 x) &&& BitVec.ofInt 32 (n32 y)).toNat : Nat) : Int) = _
  rw [ofInt_n32, ofInt_n32]; exact wrap_n32 _
theorem bits_or (x y : BitVec 32) : bits .or .u32 (n32 x) (n32 y) = n32 (x ||| y) := by
  show IntKind.u32.wrap (((BitVec.ofInt 32 (n32 x) ||| BitVec.ofInt 32 (n32 y)).toNat : Nat) : Int) = _
  rw [ofInt_n32, ofInt_n32]; exact wrap_n32 _
theorem bits_xor (x y : BitVec 32) : bits .xor .u32 (n32 x) (n32 y) = n32 (x ^^^ y) := by
  show IntKind.u32.wrap (((BitVec.ofInt 32 (n32 x) ^^^ BitVec.ofInt 32 (n32 y)).toNat : Nat) : Int) = _
  rw [ofInt_n32, ofInt_n32]; exact wrap_n32 _
theorem max32 : IntKind.u32.max = n32 (BitVec.allOnes 32) := by decide
theorem bits_not (x : BitVec 32) : bits .xor .u32 IntKind.u32.max (n32 x) = n32 (~~~x) := by
  rw [max32, bits_xor, BitVec.allOnes_xor]
theorem wrap_add (x y : BitVec 32) : IntKind.u32.wrap (n32 x + n32 y) = n32 (x + y) := by
  simp [IntKind.wrap, IntKind.bits, IntKind.signed, n32, BitVec.toNat_add]
theorem mod_add (x y : BitVec 32) : (n32 x + n32 y) % 4294967296 = n32 (x + y) := by
  simp [n32, BitVec.toNat_add]
theorem mod_shl (x : BitVec 32) (s : Nat) : n32 x * 2 ^ s % 4294967296 = n32 (x <<< s) := by
  simp [n32, BitVec.toNat_shiftLeft, Nat.shiftLeft_eq]
theorem wrap_shl (x : BitVec 32) (s : Nat) : IntKind.u32.wrap (n32 x * 2 ^ s) = n32 (x <<< s) := by
  simp [IntKind.wrap, IntKind.bits, IntKind.signed, n32, BitVec.toNat_shiftLeft, Nat.shiftLeft_eq]
theorem shr_n32 (x : BitVec 32) (s : Nat) : n32 x / 2 ^ s = n32 (x >>> s) := by
  simp [n32, BitVec.toNat_ushiftRight, Nat.shiftRight_eq_div_pow]

/-- A word turned to the right. -/
def rotr (x : BitVec 32) (n : Nat) : BitVec 32 := x <<< (32 - n) ||| x >>> n
def ch (x y z : BitVec 32) : BitVec 32 := (x &&& y) ^^^ (~~~x &&& z)
def maj (x y z : BitVec 32) : BitVec 32 := (x &&& y) ^^^ (x &&& z) ^^^ (y &&& z)
def S0 (x : BitVec 32) : BitVec 32 := rotr x 2 ^^^ rotr x 13 ^^^ rotr x 22
def S1 (x : BitVec 32) : BitVec 32 := rotr x 6 ^^^ rotr x 11 ^^^ rotr x 25
def s0 (x : BitVec 32) : BitVec 32 := rotr x 7 ^^^ rotr x 18 ^^^ x >>> 3
def s1 (x : BitVec 32) : BitVec 32 := rotr x 17 ^^^ rotr x 19 ^^^ x >>> 10
theorem count_of (n : Nat) (h0 : 0 < n) (h1 : n < 32) : bits .and .u64 (IntKind.u64.wrap (-(n : Int))) 31 = 32 - (n : Int) := by
  have all : ∀ m : Fin 32, 0 < m.val → bits .and .u64 (IntKind.u64.wrap (-(m.val : Int))) 31 = 32 - (m.val : Int) := by decide +kernel
  exact all ⟨n, h1⟩ h0
/-- Bytes as cells, words as cells. -/
def c8 (l : List UInt8) : List Value := l.map fun b => .int .u8 (b.toNat : Int)
def c32 (l : List (BitVec 32)) : List Value := l.map fun b => .int .u32 (n32 b)
theorem c8_len (l : List UInt8) : (c8 l).length = l.length := by simp [c8]
theorem c32_len (l : List (BitVec 32)) : (c32 l).length = l.length := by simp [c32]
theorem c8_get (l : List UInt8) (j : Nat) (h : j < l.length) : (c8 l)[j]? = some (.int .u8 ((l.getD j 0).toNat : Int)) := by
  simp [c8, h]
theorem c32_get (l : List (BitVec 32)) (j : Nat) (h : j < l.length) : (c32 l)[j]? = some (.int .u32 (n32 (l.getD j 0))) := by
  simp [c32, h]
theorem c8_one (l : List UInt8) : ∀ v ∈ c8 l, v.oneCell' = true := by
  intro v hv; simp only [c8, List.mem_map] at hv; obtain ⟨b, _, rfl⟩ := hv; rfl
theorem c32_one (l : List (BitVec 32)) : ∀ v ∈ c32 l, v.oneCell' = true := by
  intro v hv; simp only [c32, List.mem_map] at hv; obtain ⟨b, _, rfl⟩ := hv; rfl
theorem c8_set (l : List UInt8) (j : Nat) (b : UInt8) : (c8 l).set j (.int .u8 (b.toNat : Int)) = c8 (l.set j b) := by
  simp [c8, List.map_set]
theorem c32_set (l : List (BitVec 32)) (j : Nat) (b : BitVec 32) : (c32 l).set j (.int .u32 (n32 b)) = c32 (l.set j b) := by
  simp [c32, List.map_set]

/-- A byte as a word. -/
def w8 (b : UInt8) : BitVec 32 := BitVec.ofNat 32 b.toNat
theorem wrap_w8 (b : UInt8) : IntKind.u32.wrap (b.toNat : Int) = n32 (w8 b) := by
  have := b.toNat_lt
  simp [IntKind.wrap, IntKind.bits, IntKind.signed, n32, w8]; omega
/-- The four bytes at place t of a block, as a word. -/
def word4 (a b c d : UInt8) : BitVec 32 := w8 a <<< 24 ||| w8 b <<< 16 ||| w8 c <<< 8 ||| w8 d
def word (bs : List UInt8) (t : Nat) : BitVec 32 := word4 (bs.getD (4 * t) 0) (bs.getD (4 * t + 1) 0) (bs.getD (4 * t + 2) 0) (bs.getD (4 * t + 3) 0)
/-- The next word of the schedule, behind those of l. -/
def nextW (bs : List UInt8) (l : List (BitVec 32)) : BitVec 32 :=
  if l.length < 16 then word bs l.length
  else l.getD (l.length - 16) 0 + s0 (l.getD (l.length - 15) 0) + l.getD (l.length - 7) 0 + s1 (l.getD (l.length - 2) 0)
def schedTo (bs : List UInt8) : Nat → List (BitVec 32)
  | 0 => []
  | k + 1 => schedTo bs k ++ [nextW bs (schedTo bs k)]
theorem schedTo_len (bs : List UInt8) : ∀ k, (schedTo bs k).length = k
  | 0 => rfl
  | k + 1 => by simp [schedTo, schedTo_len bs k]
/-- The words' array behind k rounds. -/
def rowTo (bs : List UInt8) (k : Nat) : List (BitVec 32) := schedTo bs k ++ List.replicate (64 - k) 0
theorem rowTo_len (bs : List UInt8) (k : Nat) (h : k ≤ 64) : (rowTo bs k).length = 64 := by simp [rowTo, schedTo_len]; omega
theorem rowTo_set (bs : List UInt8) (k : Nat) (h : k < 64) : (rowTo bs k).set k (nextW bs (schedTo bs k)) = rowTo bs (k + 1) := by
  have hl := schedTo_len bs k
  have e : 64 - k = (64 - (k + 1)) + 1 := by omega
  unfold rowTo
  rw [e, List.replicate_succ, List.set_append_right _ _ (by omega), hl, Nat.sub_self, List.set_cons_zero]
  simp [schedTo]
theorem rowTo_get (bs : List UInt8) (k j : Nat) (h : j < k) : (rowTo bs k).getD j 0 = (schedTo bs k).getD j 0 := by
  have hl := schedTo_len bs k
  simp [rowTo, List.getD_eq_getElem?_getD, List.getElem?_append_left (by omega : j < (schedTo bs k).length)]
def sched (bs : List UInt8) : List (BitVec 32) := schedTo bs 64
theorem rowTo_64 (bs : List UInt8) : rowTo bs 64 = sched bs := by simp [rowTo, sched]
end Go.Proofs.YtgmdolpjkaajfaaGreatDoor.SH.Sha
namespace Go.Proofs.YtgmdolpjkaajfaaGreatDoor.SH.Sha
open Go

/-- The eight words of a state. -/
structure St where
  a : BitVec 32
  b : BitVec 32
  c : BitVec 32
  d : BitVec 32
  e : BitVec 32
  f : BitVec 32
  g : BitVec 32
  h : BitVec 32
def St.list (s : St) : List (BitVec 32) := [s.a, s.b, s.c, s.d, s.e, s.f, s.g, s.h]
def t1Of (s : St) (k x : BitVec 32) : BitVec 32 := s.h + S1 s.e + ch s.e s.f s.g + k + x
def t2Of (s : St) : BitVec 32 := S0 s.a + maj s.a s.b s.c
/-- One round: k the round's constant, x the schedule's word. -/
def rnd (s : St) (k x : BitVec 32) : St := ⟨t1Of s k x + t2Of s, s.a, s.b, s.c, s.d + t1Of s k x, s.e, s.f, s.g⟩
/-- The rounds' constants (FIPS 180-4, 4.2.2). -/
def kWords : List (BitVec 32) := [1116352408, 1899447441, 3049323471, 3921009573, 961987163, 1508970993, 2453635748, 2870763221, 3624381080, 310598401, 607225278, 1426881987, 1925078388, 2162078206, 2614888103, 3248222580, 3835390401, 4022224774, 264347078, 604807628, 770255983, 1249150122, 1555081692, 1996064986, 2554220882, 2821834349, 2952996808, 3210313671, 3336571891, 3584528711, 113926993, 338241895, 666307205, 773529912, 1294757372, 1396182291, 1695183700, 1986661051, 2177026350, 2456956037, 2730485921, 2820302411, 3259730800, 3345764771, 3516065817, 3600352804, 4094571909, 275423344, 430227734, 506948616, 659060556, 883997877, 958139571, 1322822218, 1537002063, 1747873779, 1955562222, 2024104815, 2227730452, 2361852424, 2428436474, 2756734187, 3204031479, 3329325298]
def roundsTo (ws : List (BitVec 32)) (s : St) : Nat → St
  | 0 => s
  | n + 1 => rnd (roundsTo ws s n) (kWords.getD n 0) (ws.getD n 0)
def St.plus (s r : St) : St := ⟨s.a + r.a, s.b + r.b, s.c + r.c, s.d + r.d, s.e + r.e, s.f + r.f, s.g + r.g, s.h + r.h⟩
/-- The state behind a block. -/
def mix (s : St) (bs : List UInt8) : St := s.plus (roundsTo (sched bs) s 64)
def first : St := ⟨1779033703, 3144134277, 1013904242, 2773480762, 1359893119, 2600822924, 528734635, 1541459225⟩
end Go.Proofs.YtgmdolpjkaajfaaGreatDoor.SH.Sha
namespace Go.Proofs.YtgmdolpjkaajfaaGreatDoor.SH.Sha
open Go
structure Hs where
  st : St
  part : List UInt8
  n : Nat
def hcs (h : Hs) : List Value := c32 h.st.list ++ (c8 h.part ++ [.int .i64 (h.n : Int)])
theorem list_len (s : St) : s.list.length = 8 := rfl
theorem hcs_len (h : Hs) (hp : h.part.length = 64) : (hcs h).length = 73 := by simp [hcs, c32_len, c8_len, list_len, hp]
theorem hcs_n (h : Hs) (hp : h.part.length = 64) : (hcs h)[72]? = some (.int .i64 (h.n : Int)) := by
  unfold hcs
  rw [List.getElem?_append_right (by simp [c32_len, list_len]), List.getElem?_append_right (by simp [c32_len, c8_len, list_len, hp])]
  simp [c32_len, c8_len, list_len, hp]
def chunk (part : List UInt8) (off : Nat) (xs : List UInt8) : List UInt8 := part.take off ++ xs ++ part.drop (off + xs.length)
theorem chunk_len (part : List UInt8) (off : Nat) (xs : List UInt8) (h : off + xs.length ≤ part.length) : (chunk part off xs).length = part.length := by
  simp [chunk]; omega
theorem chunk_nil (part : List UInt8) (off : Nat) : chunk part off [] = part := by simp [chunk]
theorem chunk_cons (part : List UInt8) (off : Nat) (x : UInt8) (xs : List UInt8) (h : off < part.length) : chunk (part.set off x) (off + 1) xs = chunk part off (x :: xs) := by
  unfold chunk
  rw [List.take_set, List.drop_set_of_lt (by omega)]
  have e : (List.take (off + 1) part).set off x = List.take off part ++ [x] := by
    apply List.ext_getElem?
    intro i
    rw [List.getElem?_set]
    by_cases h1 : off = i
    · subst h1
      rw [if_pos rfl, if_pos (by simp; omega), List.getElem?_append_right (by simp; omega)]
      simp [Nat.min_eq_left (Nat.le_of_lt h)]
    · rw [if_neg h1]
      rcases Nat.lt_or_ge i off with h2 | h2
      · rw [List.getElem?_append_left (by simp; omega), List.getElem?_take, List.getElem?_take, if_pos (by omega), if_pos h2]
      · rw [List.getElem?_append_right (by simp; omega), List.getElem?_take, if_neg (by omega), List.getElem?_eq_none (by simp; omega)]
  rw [e]
  simp [Nat.add_comm, Nat.add_left_comm]
/-- One byte more. -/
def put (h : Hs) (b : UInt8) : Hs := ⟨if (h.n + 1) % 64 = 0 then mix h.st (h.part.set (h.n % 64) b) else h.st, h.part.set (h.n % 64) b, h.n + 1⟩
def feed (h : Hs) (l : List UInt8) : Hs := l.foldl put h
theorem feed_append (h : Hs) (a b : List UInt8) : feed h (a ++ b) = feed (feed h a) b := by simp [feed]
theorem feed_n (l : List UInt8) : ∀ h : Hs, (feed h l).n = h.n + l.length := by
  induction l with
  | nil => intro h; rfl
  | cons x xs ih => intro h; show (feed (put h x) xs).n = _; rw [ih]; simp [put]; omega
theorem feed_part (l : List UInt8) : ∀ h : Hs, (feed h l).part.length = h.part.length := by
  induction l with
  | nil => intro h; rfl
  | cons x xs ih => intro h; show (feed (put h x) xs).part.length = _; rw [ih]; simp [put]
theorem feed_chunk (xs : List UInt8) : ∀ h : Hs, h.part.length = 64 → xs ≠ [] → xs.length ≤ 64 - h.n % 64 →
    feed h xs = ⟨if (h.n + xs.length) % 64 = 0 then mix h.st (chunk h.part (h.n % 64) xs) else h.st, chunk h.part (h.n % 64) xs, h.n + xs.length⟩ := by
  induction xs with
  | nil => intro h _ hne; exact absurd rfl hne
  | cons x xs ih =>
    intro h hp _ hl
    have hoff : h.n % 64 < h.part.length := by rw [hp]; omega
    have hc := chunk_cons h.part (h.n % 64) x xs hoff
    show feed (put h x) xs = _
    cases xs with
    | nil =>
      rw [chunk_nil] at hc
      rw [← hc]; rfl
    | cons y ys =>
      simp only [List.length_cons] at hl
      have h1 : ¬ (h.n + 1) % 64 = 0 := by omega
      have e : put h x = ⟨h.st, h.part.set (h.n % 64) x, h.n + 1⟩ := by unfold put; rw [if_neg h1]
      rw [e, ih _ (by simpa using hp) (by simp) (by simp only [List.length_cons]; omega)]
      have h2 : (h.n + 1) % 64 = h.n % 64 + 1 := by omega
      simp only [h2, hc, List.length_cons, show h.n + 1 + (ys.length + 1) = h.n + (ys.length + 1 + 1) by omega]
end Go.Proofs.YtgmdolpjkaajfaaGreatDoor.SH.Sha
namespace Go.Proofs.YtgmdolpjkaajfaaGreatDoor.SH
open Go.RowKit Sha
set_option maxHeartbeats 400000 in
theorem rot_any (x : BitVec 32) (n : Nat) (h0 : 0 < n) (h1 : n < 32) (w : World) :
    Calls Tryz.prog 148 #[.int .u32 (n32 x), .int .i64 (-(n : Int))] w fun e w' => e = .returned (.int .u32 (n32 (rotr x n))) ∧ w' = w := by
  have hc := count_of n h0 h1
  have hs : ((32 : Int) - n).toNat = 32 - n := by omega
  have hn : ((32 : Int) - (32 - n)).toNat = n := by omega
  go_enter Tryz.func148, Tryz.ntmps148
  go_wp2
  go_ret
  simp only [mod_shl, shr_n32, bits_or]
  exact ⟨rfl, trivial⟩
set_option maxHeartbeats 400000 in
theorem right_any (x : BitVec 32) (n : Int) (h0 : 0 < n) (h1 : n < 32) (w : World) :
    Calls Tryz.prog 143 #[.int .u32 (n32 x), .int .i64 n] w fun e w' => e = .returned (.int .u32 (n32 (rotr x n.toNat))) ∧ w' = w := by
  obtain ⟨m, rfl⟩ := Int.eq_ofNat_of_zero_le (Int.le_of_lt h0)
  rw [Int.toNat_natCast]
  go_enter Tryz.func143, Tryz.ntmps143
  go_wp2_with (go_at_call 148; refine (rot_any _ _ (by omega) (by omega) _).mono ?_; rintro e w' ⟨rfl, rfl⟩)
  go_ret
  exact ⟨rfl, rfl⟩
set_option maxHeartbeats 400000 in
theorem chosen_any (x y z : BitVec 32) (w : World) :
    Calls Tryz.prog 124 #[.int .u32 (n32 x), .int .u32 (n32 y), .int .u32 (n32 z)] w fun e w' => e = .returned (.int .u32 (n32 (ch x y z))) ∧ w' = w := by
  have hu : IntKind.u32.signed = false := rfl
  go_enter Tryz.func124, Tryz.ntmps124
  go_wp2
  go_ret
  simp only [bits_and, bits_xor, bits_not]
  exact ⟨rfl, trivial⟩
set_option maxHeartbeats 400000 in
theorem maj_any (x y z : BitVec 32) (w : World) :
    Calls Tryz.prog 126 #[.int .u32 (n32 x), .int .u32 (n32 y), .int .u32 (n32 z)] w fun e w' => e = .returned (.int .u32 (n32 (maj x y z))) ∧ w' = w := by
  go_enter Tryz.func126, Tryz.ntmps126
  go_wp2
  go_ret
  simp only [bits_and, bits_xor]
  exact ⟨rfl, trivial⟩
set_option maxHeartbeats 400000 in
theorem hs1_any (x : BitVec 32) (w : World) :
    Calls Tryz.prog 123 #[.int .u32 (n32 x)] w fun e w' => e = .returned (.int .u32 (n32 (S1 x))) ∧ w' = w := by
  go_enter Tryz.func123, Tryz.ntmps123
  go_wp2_with (go_at_call 143; refine (right_any _ _ (by omega) (by omega) _).mono ?_; rintro e w' ⟨rfl, rfl⟩)
  go_ret
  simp only [bits_xor]
  exact ⟨rfl, trivial⟩
set_option maxHeartbeats 400000 in
theorem hs0_any (x : BitVec 32) (w : World) :
    Calls Tryz.prog 125 #[.int .u32 (n32 x)] w fun e w' => e = .returned (.int .u32 (n32 (S0 x))) ∧ w' = w := by
  go_enter Tryz.func125, Tryz.ntmps125
  go_wp2_with (go_at_call 143; refine (right_any _ _ (by omega) (by omega) _).mono ?_; rintro e w' ⟨rfl, rfl⟩)
  go_ret
  simp only [bits_xor]
  exact ⟨rfl, trivial⟩
set_option maxHeartbeats 400000 in
theorem ls0_any (x : BitVec 32) (w : World) :
    Calls Tryz.prog 141 #[.int .u32 (n32 x)] w fun e w' => e = .returned (.int .u32 (n32 (s0 x))) ∧ w' = w := by
  go_enter Tryz.func141, Tryz.ntmps141
  go_wp2_with (go_at_call 143; refine (right_any _ _ (by omega) (by omega) _).mono ?_; rintro e w' ⟨rfl, rfl⟩)
  go_ret
  simp only [show (8 : Int) = 2 ^ 3 from rfl, shr_n32, bits_xor]
  exact ⟨rfl, trivial⟩
set_option maxHeartbeats 400000 in
theorem ls1_any (x : BitVec 32) (w : World) :
    Calls Tryz.prog 142 #[.int .u32 (n32 x)] w fun e w' => e = .returned (.int .u32 (n32 (s1 x))) ∧ w' = w := by
  go_enter Tryz.func142, Tryz.ntmps142
  go_wp2_with (go_at_call 143; refine (right_any _ _ (by omega) (by omega) _).mono ?_; rintro e w' ⟨rfl, rfl⟩)
  go_ret
  simp only [show (1024 : Int) = 2 ^ 10 from rfl, shr_n32, bits_xor]
  exact ⟨rfl, trivial⟩
end Go.Proofs.YtgmdolpjkaajfaaGreatDoor.SH
namespace Go.Proofs.YtgmdolpjkaajfaaGreatDoor.SH
open Go.RowKit Sha
/-- Block g holds the cells cs, of type t; nothing of it is frozen. -/
def RowIs (w : World) (g : Nat) (t : TypeId) (cs : List Value) : Prop := w.heap[g]? = some (.cells cs.toArray t (0, 0))
theorem RowIs.lt {w : World} {g : Nat} {t : TypeId} {cs : List Value} (h : RowIs w g t cs) : g < w.heap.size := by
  unfold RowIs at h; exact (Array.getElem?_eq_some_iff.1 h).1
theorem RowIs.cell {w : World} {g : Nat} {t : TypeId} {cs : List Value} (h : RowIs w g t cs) {j : Nat} {v : Value} (hj : cs[j]? = some v) : w.cell? ⟨g, j, none⟩ = some v := by
  rw [cell_of_row w g j _ t _ h]; simpa using hj
theorem RowIs.frozen {w : World} {g : Nat} {t : TypeId} {cs : List Value} (h : RowIs w g t cs) (j : Nat) : w.frozen? ⟨g, j, none⟩ = false := frozen_of_row w g j _ t h
theorem RowIs.drew {w : World} {g : Nat} {t : TypeId} {cs : List Value} (h : RowIs w g t cs) : RowIs w.drew g t cs := h
theorem RowIs.set {w : World} {g : Nat} {t : TypeId} {cs : List Value} (h : RowIs w g t cs) (j : Nat) (v : Value) : RowIs (w.setCell ⟨g, j, none⟩ v) g t (cs.set j v) := by
  unfold RowIs; rw [heap_setCell_same w g j _ t v h]; simp
theorem RowIs.other {w : World} {g : Nat} {t : TypeId} {cs : List Value} (h : RowIs w g t cs) (a : Addr) (v : Value) (hg : g ≠ a.block) : RowIs (w.setCell a v) g t cs := by
  unfold RowIs; rw [heap_setCell_other w a g v hg]; exact h
theorem RowIs.alloc {w : World} {g : Nat} {t : TypeId} {cs : List Value} (h : RowIs w g t cs) (o : Obj) : RowIs (w.alloc o) g t cs := by
  have := h.lt; unfold RowIs; rw [Below.heap_alloc w o g this]; exact h
theorem RowIs.new (w : World) (t : TypeId) (cs : List Value) : RowIs (w.alloc (.cells cs.toArray t)) w.heap.size t cs := by
  unfold RowIs; show (w.heap.push _)[w.heap.size]? = _; simp
theorem RowIs.setRow {w : World} {g : Nat} {t : TypeId} {cs : List Value} (h : RowIs w g t cs) (cs' : List Value) : RowIs (w.setRow g cs'.toArray) g t cs' := setRow_heap w g _ _ t _ h
theorem RowIs.setRow_other {w : World} {g g' : Nat} {t : TypeId} {cs : List Value} (h : RowIs w g t cs) (cs' : Array Value) (hg : g ≠ g') : RowIs (w.setRow g' cs') g t cs := by
  unfold RowIs; rw [Go.setRow_other w g' g cs' hg]; exact h
theorem RowIs.below {w w' : World} {B g : Nat} {t : TypeId} {cs : List Value} (h : RowIs w g t cs) (hb : Below B w w') (hg : g < B) : RowIs w' g t cs := by
  unfold RowIs; rw [hb.block g hg]; exact h
theorem Below.row {B : Nat} {a w : World} (h : Below B a w) {g : Nat} (hg : B ≤ g) (cs : Array Value) : Below B a (w.setRow g cs) :=
  ⟨h.os, h.tape, h.output, by have := h.size; simpa using this, fun k hk => by rw [Go.setRow_other w g k cs (by omega)]; exact h.block k hk⟩
theorem cell_set_drew {W : World} {g g' k m : Nat} {v x : Value} (h : g ≠ g' ∨ m ≠ k) (hc : W.cell? ⟨g, m, none⟩ = some x) : ((W.setCell ⟨g', k, none⟩ v).drew).cell? ⟨g, m, none⟩ = some x := by
  simp only [World.cell?_drew]
  rw [World.cell?_setCell_other _ _ _ _ (by intro e; injection e with e1 e2; rcases h with h | h; exact h e1.symm; exact h e2.symm)]; exact hc
theorem wrap_i64 (x : Int) (h0 : -9223372036854775808 ≤ x) (h1 : x ≤ 9223372036854775807) : IntKind.i64.wrap x = x := by
  simp [IntKind.wrap, IntKind.bits, IntKind.signed]; split <;> omega
end Go.Proofs.YtgmdolpjkaajfaaGreatDoor.SH
namespace Go.Proofs.YtgmdolpjkaajfaaGreatDoor.SH
open Go.RowKit Sha
theorem size64 : (Tryz.prog.info? 126).map (·.size) = some 64 := by kernel_rfl
def zero64 : List Value := c32 (List.replicate 64 0)
theorem step_word (bs : List UInt8) (k : Nat) (h : k < 16) : nextW bs (schedTo bs k) = word bs k := by
  unfold nextW; rw [schedTo_len, if_pos h]
theorem step_mix (bs : List UInt8) (k : Nat) (h : 16 ≤ k) : nextW bs (schedTo bs k) = (rowTo bs k).getD (k - 16) 0 + s0 ((rowTo bs k).getD (k - 15) 0) + (rowTo bs k).getD (k - 7) 0 + s1 ((rowTo bs k).getD (k - 2) 0) := by
  rw [rowTo_get bs k _ (by omega), rowTo_get bs k _ (by omega), rowTo_get bs k _ (by omega), rowTo_get bs k _ (by omega)]
  unfold nextW; rw [schedTo_len, if_neg (by omega)]
theorem word4_bits (a b c d : UInt8) : bits .or .u32 (bits .or .u32 (bits .or .u32 (IntKind.u32.wrap (IntKind.u32.wrap (a.toNat : Int) * 16777216)) (IntKind.u32.wrap (IntKind.u32.wrap (b.toNat : Int) * 65536))) (IntKind.u32.wrap (IntKind.u32.wrap (c.toNat : Int) * 256))) (IntKind.u32.wrap (d.toNat : Int)) = n32 (word4 a b c d) := by
  rw [wrap_w8, wrap_w8, wrap_w8, wrap_w8, show (16777216 : Int) = 2 ^ 24 from rfl, show (65536 : Int) = 2 ^ 16 from rfl, show (256 : Int) = 2 ^ 8 from rfl, wrap_shl, wrap_shl, wrap_shl, bits_or, bits_or, bits_or]; rfl
def SchRel (bs : List UInt8) (w : World) (k : Nat) (wr : World) : Prop :=
  Below w.heap.size w wr ∧ RowIs wr w.heap.size 114 (c8 bs) ∧ RowIs wr (w.heap.size + 1) 126 zero64 ∧ RowIs wr (w.heap.size + 1 + 1) 126 (c32 (rowTo bs k))
theorem SchRel.next {bs : List UInt8} {w wr : World} {k : Nat} (h : SchRel bs w k wr) (hk : k < 64) : SchRel bs w (k + 1) ((wr.setCell ⟨w.heap.size + 1 + 1, k, none⟩ (.int .u32 (n32 (nextW bs (schedTo bs k))))).drew) := by
  obtain ⟨hb, r0, r1, r2⟩ := h
  refine ⟨(hb.setCell (by show w.heap.size ≤ w.heap.size + 1 + 1; omega) _).drew, (r0.other _ _ (by show w.heap.size ≠ w.heap.size + 1 + 1; omega)).drew, (r1.other _ _ (by show w.heap.size + 1 ≠ w.heap.size + 1 + 1; omega)).drew, ?_⟩
  have := (r2.set k (.int .u32 (n32 (nextW bs (schedTo bs k))))).drew
  rwa [c32_set, rowTo_set bs k hk] at this
theorem SchRel.start (bs : List UInt8) (w : World) : SchRel bs w 0 (((w.alloc (.cells (c8 bs).toArray 114)).alloc (.cells zero64.toArray 126)).alloc (.cells zero64.toArray 126)) := by
  refine ⟨(((Below.refl _ _).alloc (Nat.le_refl _) _).alloc (by simp) _).alloc (by simp; omega) _, ((RowIs.new w 114 _).alloc _).alloc _, ?_, ?_⟩
  · have := (RowIs.new (w.alloc (.cells (c8 bs).toArray 114)) 126 zero64).alloc (.cells zero64.toArray 126)
    simpa using this
  · have := RowIs.new ((w.alloc (.cells (c8 bs).toArray 114)).alloc (.cells zero64.toArray 126)) 126 zero64
    simpa [rowTo, schedTo, zero64] using this
set_option maxRecDepth 100000 in
set_option maxHeartbeats 400000 in
theorem schedule_any (bs : List UInt8) (hl : bs.length = 64) (w : World) :
    Calls Tryz.prog 122 #[.agg (c8 bs).toArray] w fun e w' => e = .returned (.agg (c32 (sched bs)).toArray) ∧ Below w.heap.size w w' := by
  go_enter Tryz.func122, Tryz.ntmps122
  go_wp2
  go_loopw [6] (fun i wr => ∃ k : Nat, k ≤ 16 ∧ i = .int .i64 k ∧ SchRel bs w k wr) (fun i _ => 16 - (intOf i).toNat)
  case atStart => exact ⟨0, by omega, rfl, SchRel.start bs w⟩
  case round =>
    obtain ⟨k, hk, rfl, hR⟩ := hrel
    by_cases hlt : k < 16
    · obtain ⟨m, w0, H0⟩ : ∃ m : Nat, IntKind.i64.wrap (4 * (k : Int)) = (m : Int) ∧ Hid (m = 4 * k) := ⟨4 * k, by rw [wrap_i64 _ (by omega) (by omega)]; omega, rfl⟩
      have q0 := H0.out
      obtain ⟨m1, w1, H1⟩ : ∃ m1 : Nat, IntKind.i64.wrap ((m : Int) + 1) = (m1 : Int) ∧ Hid (m1 = 4 * k + 1) := ⟨4 * k + 1, by rw [wrap_i64 _ (by omega) (by omega)]; omega, rfl⟩
      obtain ⟨m2, w2, H2⟩ : ∃ m2 : Nat, IntKind.i64.wrap ((m : Int) + 2) = (m2 : Int) ∧ Hid (m2 = 4 * k + 2) := ⟨4 * k + 2, by rw [wrap_i64 _ (by omega) (by omega)]; omega, rfl⟩
      obtain ⟨m3, w3, H3⟩ : ∃ m3 : Nat, IntKind.i64.wrap ((m : Int) + 3) = (m3 : Int) ∧ Hid (m3 = 4 * k + 3) := ⟨4 * k + 3, by rw [wrap_i64 _ (by omega) (by omega)]; omega, rfl⟩
      have q1 := H1.out
      have q2 := H2.out
      have q3 := H3.out
      obtain ⟨v0, V0, e0⟩ : ∃ v : UInt8, Hid (v = bs.getD m 0) ∧ wr.cell? ⟨w.heap.size, m, none⟩ = some (.int .u8 (v.toNat : Int)) := ⟨_, rfl, hR.2.1.cell (c8_get bs m (by omega))⟩
      obtain ⟨v1, V1, e1⟩ : ∃ v : UInt8, Hid (v = bs.getD m1 0) ∧ wr.cell? ⟨w.heap.size, m1, none⟩ = some (.int .u8 (v.toNat : Int)) := ⟨_, rfl, hR.2.1.cell (c8_get bs m1 (by omega))⟩
      obtain ⟨v2, V2, e2⟩ : ∃ v : UInt8, Hid (v = bs.getD m2 0) ∧ wr.cell? ⟨w.heap.size, m2, none⟩ = some (.int .u8 (v.toNat : Int)) := ⟨_, rfl, hR.2.1.cell (c8_get bs m2 (by omega))⟩
      obtain ⟨v3, V3, e3⟩ : ∃ v : UInt8, Hid (v = bs.getD m3 0) ∧ wr.cell? ⟨w.heap.size, m3, none⟩ = some (.int .u8 (v.toNat : Int)) := ⟨_, rfl, hR.2.1.cell (c8_get bs m3 (by omega))⟩
      have HW : Hid (word4 v0 v1 v2 v3 = nextW bs (schedTo bs k)) := by
        rw [step_word bs k hlt]; unfold word; rw [V0.out, V1.out, V2.out, V3.out, H0.out, H1.out, H2.out, H3.out]; rfl
      have b0 : (m : Int) < 64 := by omega
      have b1 : (m1 : Int) < 64 := by omega
      have b2 : (m2 : Int) < 64 := by omega
      have b3 : (m3 : Int) < 64 := by omega
      have bk : (k : Int) < 64 := by omega
      have cz := hR.2.2.2.cell (c32_get (rowTo bs k) k (by rw [rowTo_len bs k (by omega)]; omega))
      have fz := hR.2.2.2.frozen k
      have hv := word4_bits v0 v1 v2 v3
      have HR : Hid (SchRel bs w k wr) := hR
      clear q0 q1 q2 q3 V0 V1 V2 V3 H0 H1 H2 H3 hR
      go_wp2
      go_region_held3 (fun w' => w'.cell? ⟨w.heap.size, m, none⟩ = some (.int .u8 (v0.toNat : Int)) ∧ w'.cell? ⟨w.heap.size, m1, none⟩ = some (.int .u8 (v1.toNat : Int)) ∧ w'.cell? ⟨w.heap.size, m2, none⟩ = some (.int .u8 (v2.toNat : Int)) ∧ w'.cell? ⟨w.heap.size, m3, none⟩ = some (.int .u8 (v3.toNat : Int))) (first | (go_keep; done) | exact ⟨cell_set_drew (by omega) e0, cell_set_drew (by omega) e1, cell_set_drew (by omega) e2, cell_set_drew (by omega) e3⟩) (fail)
      go_wp2
      go_roundw
      case rel => exact ⟨k + 1, by omega, by go_num, by have := SchRel.next HR.out (by omega); rw [← HW.out] at this; exact this⟩
      case measure => simp [intOf]; omega
    · obtain rfl : k = 16 := by omega
      have HR0 : Hid (SchRel bs w 16 wr) := hR
      clear hR
      go_wp2
      go_loopw [5] (fun i wr => ∃ k : Nat, 16 ≤ k ∧ k ≤ 64 ∧ i = .int .i64 k ∧ SchRel bs w k wr) (fun i _ => 64 - (intOf i).toNat)
      case atStart => exact ⟨16, by omega, by omega, rfl, HR0.out⟩
      case round =>
        clear HR0
        obtain ⟨k, hk0, hk, rfl, hR⟩ := hrel
        by_cases hlt : k < 64
        · have hrl := rowTo_len bs k hk
          obtain ⟨a, w0, H0⟩ : ∃ m : Nat, IntKind.i64.wrap ((k : Int) - 16) = (m : Int) ∧ Hid (m = k - 16) := ⟨k - 16, by rw [wrap_i64 _ (by omega) (by omega)]; omega, rfl⟩
          obtain ⟨b, w1, H1⟩ : ∃ m : Nat, IntKind.i64.wrap ((k : Int) - 15) = (m : Int) ∧ Hid (m = k - 15) := ⟨k - 15, by rw [wrap_i64 _ (by omega) (by omega)]; omega, rfl⟩
          obtain ⟨c, w2, H2⟩ : ∃ m : Nat, IntKind.i64.wrap ((k : Int) - 7) = (m : Int) ∧ Hid (m = k - 7) := ⟨k - 7, by rw [wrap_i64 _ (by omega) (by omega)]; omega, rfl⟩
          obtain ⟨d, w3, H3⟩ : ∃ m : Nat, IntKind.i64.wrap ((k : Int) - 2) = (m : Int) ∧ Hid (m = k - 2) := ⟨k - 2, by rw [wrap_i64 _ (by omega) (by omega)]; omega, rfl⟩
          have q0 := H0.out
          have q1 := H1.out
          have q2 := H2.out
          have q3 := H3.out
          obtain ⟨v0, V0, e0⟩ : ∃ v : BitVec 32, Hid (v = (rowTo bs k).getD a 0) ∧ wr.cell? ⟨w.heap.size + 1 + 1, a, none⟩ = some (.int .u32 (n32 v)) := ⟨_, rfl, hR.2.2.2.cell (c32_get _ a (by omega))⟩
          obtain ⟨v1, V1, e1⟩ : ∃ v : BitVec 32, Hid (v = (rowTo bs k).getD b 0) ∧ wr.cell? ⟨w.heap.size + 1 + 1, b, none⟩ = some (.int .u32 (n32 v)) := ⟨_, rfl, hR.2.2.2.cell (c32_get _ b (by omega))⟩
          obtain ⟨v2, V2, e2⟩ : ∃ v : BitVec 32, Hid (v = (rowTo bs k).getD c 0) ∧ wr.cell? ⟨w.heap.size + 1 + 1, c, none⟩ = some (.int .u32 (n32 v)) := ⟨_, rfl, hR.2.2.2.cell (c32_get _ c (by omega))⟩
          obtain ⟨v3, V3, e3⟩ : ∃ v : BitVec 32, Hid (v = (rowTo bs k).getD d 0) ∧ wr.cell? ⟨w.heap.size + 1 + 1, d, none⟩ = some (.int .u32 (n32 v)) := ⟨_, rfl, hR.2.2.2.cell (c32_get _ d (by omega))⟩
          have HW : Hid (v0 + s0 v1 + v2 + s1 v3 = nextW bs (schedTo bs k)) := by
            rw [step_mix bs k hk0, V0.out, V1.out, V2.out, V3.out, H0.out, H1.out, H2.out, H3.out]; rfl
          have b0 : (a : Int) < 64 := by omega
          have b1 : (b : Int) < 64 := by omega
          have b2 : (c : Int) < 64 := by omega
          have b3 : (d : Int) < 64 := by omega
          have bk : (k : Int) < 64 := by omega
          have na : a ≠ k := by omega
          have nb : b ≠ k := by omega
          have nc : c ≠ k := by omega
          have nd : d ≠ k := by omega
          have cz := hR.2.2.2.cell (c32_get (rowTo bs k) k (by omega))
          have fz := hR.2.2.2.frozen k
          have p1 := wrap_add v0 (s0 v1)
          have p2 := wrap_add (v0 + s0 v1) v2
          have p3 := wrap_add (v0 + s0 v1 + v2) (s1 v3)
          have HR : Hid (SchRel bs w k wr) := hR
          clear q0 q1 q2 q3 V0 V1 V2 V3 H0 H1 H2 H3 hR hrl
          go_wp2
          go_region_held3 (fun w' => w'.cell? ⟨w.heap.size + 1 + 1, a, none⟩ = some (.int .u32 (n32 v0)) ∧ w'.cell? ⟨w.heap.size + 1 + 1, b, none⟩ = some (.int .u32 (n32 v1)) ∧ w'.cell? ⟨w.heap.size + 1 + 1, c, none⟩ = some (.int .u32 (n32 v2)) ∧ w'.cell? ⟨w.heap.size + 1 + 1, d, none⟩ = some (.int .u32 (n32 v3))) (first | (go_keep; done) | exact ⟨cell_set_drew (Or.inr na) e0, cell_set_drew (Or.inr nb) e1, cell_set_drew (Or.inr nc) e2, cell_set_drew (Or.inr nd) e3⟩) (first | (go_at_call 141; refine (ls0_any _ _).mono ?_; rintro e w' ⟨rfl, rfl⟩) | (go_at_call 142; refine (ls1_any _ _).mono ?_; rintro e w' ⟨rfl, rfl⟩))
          go_wp2
          go_roundw
          case rel =>
            have hn := SchRel.next HR.out (by omega)
            rw [← HW.out] at hn
            (repeat apply Exists.intro); exact ⟨⟨k + 1, by omega, by omega, by go_num, hn⟩, rfl⟩
          case measure => simp [intOf]; omega
        · obtain rfl : k = 64 := by omega
          rw [show SchRel bs w 64 wr = (Below w.heap.size w wr ∧ RowIs wr w.heap.size 114 (c8 bs) ∧ RowIs wr (w.heap.size + 1) 126 zero64 ∧ RowIs wr (w.heap.size + 1 + 1) 126 (c32 (sched bs))) by unfold SchRel; rw [rowTo_64]] at hR
          obtain ⟨hb, _, r1, r2⟩ := hR
          have hsz : (c32 (sched bs)).toArray.size = 64 := by simp [c32_len, sched, schedTo_len]
          go_wp2_with (first
            | (refine wpList_load_row rfl 126 _ rfl (w.heap.size + 1 + 1) rfl 126 _ (0, 0) _ r2 Tryz.underlying126 rfl (by rw [hsz]; exact size64) ?_)
            | (refine wpList_store_row rfl 126 _ _ rfl (w.heap.size + 1) _ rfl rfl 126 _ r1 (by rw [hsz]; exact size64) (by rw [hsz]; rfl) (all_oneCell_toArray (c32_one _)) ?_))
          refine bodyPost_ret (v := .agg (c32 (sched bs)).toArray) (results_cell_row Tryz.results122 _ _ (w.heap.size + 1) 126 _ (0, 0) _ rfl (RowIs.setRow r1 _) Tryz.underlying126 rfl (by rw [hsz]; exact size64)) rfl ⟨rfl, Below.row hb (by omega) _⟩
end Go.Proofs.YtgmdolpjkaajfaaGreatDoor.SH
namespace Go.Proofs.YtgmdolpjkaajfaaGreatDoor.SH
open Go.RowKit Sha
theorem size54 : (Tryz.prog.info? 114).map (·.size) = some 64 := by kernel_rfl
theorem size51 : (Tryz.prog.info? 111).map (·.size) = some 8 := by kernel_rfl
/-- The table of the rounds' constants lies in block 0. -/
def Tab (w : World) : Prop := 0 < w.heap.size ∧ ∀ j, j < 64 → w.cell? ⟨0, j, none⟩ = some (.int .u32 (n32 (kWords.getD j 0)))
theorem Tab.below {w w' : World} {B : Nat} (h : Tab w) (hb : Below B w w') (hB : 0 < B) : Tab w' :=
  ⟨Nat.lt_of_lt_of_le h.1 hb.size, fun j hj => by rw [hb.cell (p := ⟨0, j, none⟩) hB]; exact h.2 j hj⟩
def zero8 : List Value := c32 (List.replicate 8 0)
theorem with_world {p : World → Prop} {W : World} (F : World → Prop) (h : F W) (k : ∀ W', F W' → p W') : p W := k W h
def MixRel (s : St) (bs : List UInt8) (w : World) (g : Nat) (wr : World) : Prop :=
  Below w.heap.size w wr ∧ Tab wr ∧ RowIs wr w.heap.size 111 (c32 s.list) ∧ RowIs wr (w.heap.size + 1 + 1) 111 zero8 ∧ RowIs wr g 126 (c32 (sched bs))
theorem MixRel.drew {s : St} {bs : List UInt8} {w wr : World} {g : Nat} (h : MixRel s bs w g wr) : MixRel s bs w g wr.drew := ⟨h.1.drew, ⟨h.2.1.1, h.2.1.2⟩, h.2.2.1, h.2.2.2.1, h.2.2.2.2⟩
theorem MixRel.start (s : St) (bs : List UInt8) (w w1 : World) (ht : Tab w) (hb : Below (((w.alloc (.cells (c32 s.list).toArray 111)).alloc (.cells (c8 bs).toArray 114)).alloc (.cells zero8.toArray 111)).heap.size (((w.alloc (.cells (c32 s.list).toArray 111)).alloc (.cells (c8 bs).toArray 114)).alloc (.cells zero8.toArray 111)) w1) :
    MixRel s bs w w1.heap.size ((w1.alloc (.cells zero64.toArray 126)).setRow w1.heap.size (c32 (sched bs)).toArray) := by
  have hs : w.heap.size + 1 + 1 + 1 ≤ w1.heap.size := by have := hb.size; simpa using this
  have hpos := ht.1
  have h0 : Below w.heap.size w (((w.alloc (.cells (c32 s.list).toArray 111)).alloc (.cells (c8 bs).toArray 114)).alloc (.cells zero8.toArray 111)) :=
    (((Below.refl _ _).alloc (Nat.le_refl _) _).alloc (by simp) _).alloc (by simp; omega) _
  have h1 : Below w.heap.size w w1 := h0.trans (hb.mono (by simp; omega))
  have h2 : Below w.heap.size w ((w1.alloc (.cells zero64.toArray 126)).setRow w1.heap.size (c32 (sched bs)).toArray) := Below.row (h1.alloc (by omega) _) (by omega) _
  refine ⟨h2, ht.below h2 hpos, ?_, ?_, (RowIs.new w1 126 zero64).setRow _⟩
  · exact (((((RowIs.new w 111 _).alloc _).alloc _).below hb (by simp; omega)).alloc _).setRow_other _ (by omega)
  · refine ((RowIs.below ?_ hb (by simp)).alloc _).setRow_other _ (by omega)
    simpa using RowIs.new ((w.alloc (.cells (c32 s.list).toArray 111)).alloc (.cells (c8 bs).toArray 114)) 111 zero8
set_option maxRecDepth 100000 in
set_option maxHeartbeats 400000 in
theorem mixed_any (s : St) (bs : List UInt8) (hl : bs.length = 64) (w : World) (ht : Tab w) :
    Calls Tryz.prog 88 #[.agg (c32 s.list).toArray, .agg (c8 bs).toArray] w fun e w' => e = .returned (.agg (c32 (mix s bs).list).toArray) ∧ Below w.heap.size w w' := by
  have HT : Hid (Tab w) := ht
  clear ht
  have hsb : (c8 bs).toArray.size = 64 := by simp [c8_len, hl]
  have r54 : RowIs (((w.alloc (.cells (c32 s.list).toArray 111)).alloc (.cells (c8 bs).toArray 114)).alloc (.cells zero8.toArray 111)) (w.heap.size + 1) 114 (c8 bs) := RowIs.alloc (by simpa using RowIs.new (w.alloc (.cells (c32 s.list).toArray 111)) 114 (c8 bs)) _
  have hsz : (c32 (sched bs)).toArray.size = 64 := by simp [c32_len, sched, schedTo_len]
  go_enter Tryz.func88, Tryz.ntmps88
  go_wp2_with (first
    | (refine wpList_load_row rfl 114 _ rfl (w.heap.size + 1) rfl 114 (c8 bs).toArray (0, 0) _ r54 Tryz.underlying114 rfl (by rw [hsb]; exact size54) ?_)
    | (go_at_call 122; refine (schedule_any bs hl _).mono ?_; rintro e w1 ⟨rfl, hb1⟩)
    | (refine wpList_store_row rfl 126 _ _ rfl w1.heap.size _ rfl rfl 126 zero64.toArray (RowIs.new w1 126 zero64) (by rw [hsz]; exact size64) (by rw [hsz]; rfl) (all_oneCell_toArray (c32_one _)) ?_))
  refine with_world (p := fun W => Code.wp _ _ _ _ W) (fun W => MixRel s bs w w1.heap.size W) (MixRel.start s bs w w1 HT.out hb1) ?_
  clear hb1 r54
  generalize w1.heap.size = g
  intro W2 hR
  obtain ⟨x0, x1, x2, x3, x4, x5, x6, x7⟩ := s
  have e0 : W2.cell? ⟨w.heap.size, 0, none⟩ = some (.int .u32 (n32 x0)) := hR.2.2.1.cell rfl
  have e1 : W2.cell? ⟨w.heap.size, 1, none⟩ = some (.int .u32 (n32 x1)) := hR.2.2.1.cell rfl
  have e2 : W2.cell? ⟨w.heap.size, 2, none⟩ = some (.int .u32 (n32 x2)) := hR.2.2.1.cell rfl
  have e3 : W2.cell? ⟨w.heap.size, 3, none⟩ = some (.int .u32 (n32 x3)) := hR.2.2.1.cell rfl
  have e4 : W2.cell? ⟨w.heap.size, 4, none⟩ = some (.int .u32 (n32 x4)) := hR.2.2.1.cell rfl
  have e5 : W2.cell? ⟨w.heap.size, 5, none⟩ = some (.int .u32 (n32 x5)) := hR.2.2.1.cell rfl
  have e6 : W2.cell? ⟨w.heap.size, 6, none⟩ = some (.int .u32 (n32 x6)) := hR.2.2.1.cell rfl
  have e7 : W2.cell? ⟨w.heap.size, 7, none⟩ = some (.int .u32 (n32 x7)) := hR.2.2.1.cell rfl
  have HR : Hid (MixRel ⟨x0, x1, x2, x3, x4, x5, x6, x7⟩ bs w g W2) := hR
  clear hR
  go_region_held3 (fun w' => w'.cell? ⟨w.heap.size, 0, none⟩ = some (.int .u32 (n32 x0)) ∧ w'.cell? ⟨w.heap.size, 1, none⟩ = some (.int .u32 (n32 x1)) ∧ w'.cell? ⟨w.heap.size, 2, none⟩ = some (.int .u32 (n32 x2)) ∧ w'.cell? ⟨w.heap.size, 3, none⟩ = some (.int .u32 (n32 x3)) ∧ w'.cell? ⟨w.heap.size, 4, none⟩ = some (.int .u32 (n32 x4)) ∧ w'.cell? ⟨w.heap.size, 5, none⟩ = some (.int .u32 (n32 x5)) ∧ w'.cell? ⟨w.heap.size, 6, none⟩ = some (.int .u32 (n32 x6)) ∧ w'.cell? ⟨w.heap.size, 7, none⟩ = some (.int .u32 (n32 x7))) (go_keep) (fail)
  clear e0 e1 e2 e3 e4 e5 e6 e7
  go_wp2
  go_loopw [6, 7, 8, 9, 10, 11, 12, 13, 35] (fun y0 y1 y2 y3 y4 y5 y6 y7 i wr => ∃ (k : Nat) (z0 z1 z2 z3 z4 z5 z6 z7 : BitVec 32), k ≤ 64 ∧ i = .int .i64 k ∧ y0 = .int .u32 (n32 z0) ∧ y1 = .int .u32 (n32 z1) ∧ y2 = .int .u32 (n32 z2) ∧ y3 = .int .u32 (n32 z3) ∧ y4 = .int .u32 (n32 z4) ∧ y5 = .int .u32 (n32 z5) ∧ y6 = .int .u32 (n32 z6) ∧ y7 = .int .u32 (n32 z7) ∧ Hid (St.mk z0 z1 z2 z3 z4 z5 z6 z7 = roundsTo (sched bs) ⟨x0, x1, x2, x3, x4, x5, x6, x7⟩ k) ∧ MixRel ⟨x0, x1, x2, x3, x4, x5, x6, x7⟩ bs w g wr) (fun _ _ _ _ _ _ _ _ i _ => 64 - (intOf i).toNat)
  case atStart => exact ⟨0, x0, x1, x2, x3, x4, x5, x6, x7, by omega, rfl, rfl, rfl, rfl, rfl, rfl, rfl, rfl, rfl, rfl, HR.out.drew⟩
  case round =>
    clear HR HT
    obtain ⟨k, z0, z1, z2, z3, z4, z5, z6, z7, hk, rfl, rfl, rfl, rfl, rfl, rfl, rfl, rfl, rfl, HZ, hR⟩ := hrel
    by_cases hlt : k < 64
    · have bk : (k : Int) < 64 := by omega
      obtain ⟨kk, VK, ek⟩ : ∃ v : BitVec 32, Hid (v = kWords.getD k 0) ∧ wr.cell? ⟨0, k, none⟩ = some (.int .u32 (n32 v)) := ⟨_, rfl, hR.2.1.2 k hlt⟩
      obtain ⟨xx, VX, ex⟩ : ∃ v : BitVec 32, Hid (v = (sched bs).getD k 0) ∧ wr.cell? ⟨g, k, none⟩ = some (.int .u32 (n32 v)) := ⟨_, rfl, hR.2.2.2.2.cell (c32_get _ k (by simp [sched, schedTo_len, hlt]))⟩
      obtain ⟨T1, VT, p4⟩ : ∃ v : BitVec 32, Hid (v = t1Of ⟨z0, z1, z2, z3, z4, z5, z6, z7⟩ kk xx) ∧ IntKind.u32.wrap (n32 (z7 + S1 z4 + ch z4 z5 z6 + kk) + n32 xx) = n32 v := ⟨_, rfl, wrap_add _ _⟩
      have p1 := wrap_add z7 (S1 z4)
      have p2 := wrap_add (z7 + S1 z4) (ch z4 z5 z6)
      have p3 := wrap_add (z7 + S1 z4 + ch z4 z5 z6) kk
      obtain ⟨T2, VU, q1⟩ : ∃ v : BitVec 32, Hid (v = t2Of ⟨z0, z1, z2, z3, z4, z5, z6, z7⟩) ∧ (n32 (S0 z0) + n32 (maj z0 z1 z2)) % 4294967296 = n32 v := ⟨_, rfl, mod_add _ _⟩
      have q2 := mod_add z3 T1
      have q3 := mod_add T1 T2
      have HN : Hid (St.mk (T1 + T2) z0 z1 z2 (z3 + T1) z4 z5 z6 = roundsTo (sched bs) ⟨x0, x1, x2, x3, x4, x5, x6, x7⟩ (k + 1)) := by
        unfold Hid; rw [roundsTo, ← HZ.out, ← VK.out, ← VX.out, rnd, VT.out, VU.out]
      have HR : Hid (MixRel ⟨x0, x1, x2, x3, x4, x5, x6, x7⟩ bs w g wr) := hR
      clear hR VK VX VT VU HZ
      go_wp2
      go_region_held3 (fun w' => w'.cell? ⟨0, k, none⟩ = some (.int .u32 (n32 kk)) ∧ w'.cell? ⟨g, k, none⟩ = some (.int .u32 (n32 xx))) (go_keep) (first | (go_at_call 123; refine (hs1_any _ _).mono ?_; rintro e w' ⟨rfl, rfl⟩) | (go_at_call 124; refine (chosen_any _ _ _ _).mono ?_; rintro e w' ⟨rfl, rfl⟩))
      go_wp2_with (first | (go_at_call 125; refine (hs0_any _ _).mono ?_; rintro e w' ⟨rfl, rfl⟩) | (go_at_call 126; refine (maj_any _ _ _ _).mono ?_; rintro e w' ⟨rfl, rfl⟩))
      go_roundw
      case rel => exact ⟨k + 1, _, _, _, _, _, _, _, _, by omega, by go_num, rfl, rfl, rfl, rfl, rfl, rfl, rfl, rfl, HN, HR.out.drew⟩
      case measure => simp [intOf]; omega
    · obtain rfl : k = 64 := by omega
      obtain ⟨hb', hx1, r0, r1', hx2⟩ := hR
      have hb : Hid (Below w.heap.size w wr) := hb'
      have r1 : Hid (RowIs wr (w.heap.size + 1 + 1) 111 zero8) := r1'
      clear hb' r1' hx1 hx2
      have e0 : wr.cell? ⟨w.heap.size, 0, none⟩ = some (.int .u32 (n32 x0)) := r0.cell rfl
      have p0 := mod_add x0 z0
      have e1 : wr.cell? ⟨w.heap.size, 1, none⟩ = some (.int .u32 (n32 x1)) := r0.cell rfl
      have p1 := mod_add x1 z1
      have e2 : wr.cell? ⟨w.heap.size, 2, none⟩ = some (.int .u32 (n32 x2)) := r0.cell rfl
      have p2 := mod_add x2 z2
      have e3 : wr.cell? ⟨w.heap.size, 3, none⟩ = some (.int .u32 (n32 x3)) := r0.cell rfl
      have p3 := mod_add x3 z3
      have e4 : wr.cell? ⟨w.heap.size, 4, none⟩ = some (.int .u32 (n32 x4)) := r0.cell rfl
      have p4 := mod_add x4 z4
      have e5 : wr.cell? ⟨w.heap.size, 5, none⟩ = some (.int .u32 (n32 x5)) := r0.cell rfl
      have p5 := mod_add x5 z5
      have e6 : wr.cell? ⟨w.heap.size, 6, none⟩ = some (.int .u32 (n32 x6)) := r0.cell rfl
      have p6 := mod_add x6 z6
      have e7 : wr.cell? ⟨w.heap.size, 7, none⟩ = some (.int .u32 (n32 x7)) := r0.cell rfl
      have p7 := mod_add x7 z7
      have HM : Hid ([x0 + z0, x1 + z1, x2 + z2, x3 + z3, x4 + z4, x5 + z5, x6 + z6, x7 + z7] = (mix ⟨x0, x1, x2, x3, x4, x5, x6, x7⟩ bs).list) := by
        unfold Hid mix; rw [← HZ.out]; rfl
      clear HZ r0 hlt hk
      go_wp2_with (refine wpList_store_row rfl 111 (.tmp 4) (.tmp 107) rfl (w.heap.size + 1 + 1) (c32 [x0 + z0, x1 + z1, x2 + z2, x3 + z3, x4 + z4, x5 + z5, x6 + z6, x7 + z7]).toArray rfl rfl 111 zero8.toArray r1.out size51 rfl (all_oneCell_toArray (c32_one _)) ?_)
      refine bodyPost_ret (v := .agg (c32 [x0 + z0, x1 + z1, x2 + z2, x3 + z3, x4 + z4, x5 + z5, x6 + z6, x7 + z7]).toArray) (results_cell_row Tryz.results88 _ _ (w.heap.size + 1 + 1) 111 _ (0, 0) _ rfl (RowIs.setRow r1.out _) Tryz.underlying111 rfl size51) rfl ⟨?_, Below.row hb.out (by omega) _⟩
      rw [HM.out]
end Go.Proofs.YtgmdolpjkaajfaaGreatDoor.SH
namespace Go.Proofs.YtgmdolpjkaajfaaGreatDoor.SH
open Go.RowKit Sha
theorem size24 : (Tryz.prog.info? 38).map (·.size) = some 32 := by kernel_rfl
theorem info46 : (Tryz.prog.info? 88).map (·.size) = some 1 := by kernel_rfl
theorem info5 : (Tryz.prog.info? 5).map (·.size) = some 1 := by kernel_rfl
theorem idx51 (ws : List (BitVec 32)) (h : ws.length = 8) (k : Nat) (hk : k < 8) (w : World) :
    (Instr.index 111 (.agg (c32 ws).toArray) (.int .i64 (k : Int))).run Tryz.prog w = .ok (.int .u32 (n32 (ws.getD k 0))) w := by
  have hc := c32_get ws k (by omega)
  cases hq : Tryz.prog.info? 88 with
  | none => have := info46; simp [hq] at this
  | some i =>
    have hi : i.size = 1 := by have := info46; simpa [hq] using this
    simp [Instr.index, asIntOf, run_underlying Tryz.underlying111, sizeOf, typeInfo, hq, hi, part, hc]
    intro h8; omega
/-- The byte of a word that is shifted by s bits. -/
def byt (x : BitVec 32) (s : Nat) : UInt8 := UInt8.ofNat (x.toNat / 2 ^ s)
theorem byt_mod (x : BitVec 32) (s : Nat) : n32 x / 2 ^ s % 256 = ((byt x s).toNat : Int) := by
  unfold byt n32; simp [UInt8.toNat_ofNat']
def outTo (ws : List (BitVec 32)) : Nat → List UInt8
  | 0 => List.replicate 32 0
  | k + 1 => ((((outTo ws k).set (4 * k) (byt (ws.getD k 0) 24)).set (4 * k + 1) (byt (ws.getD k 0) 16)).set (4 * k + 2) (byt (ws.getD k 0) 8)).set (4 * k + 3) (byt (ws.getD k 0) 0)
theorem outTo_len (ws : List (BitVec 32)) : ∀ k, (outTo ws k).length = 32
  | 0 => by simp [outTo]
  | k + 1 => by simp [outTo, outTo_len ws k]
def HashRel (ws : List (BitVec 32)) (w : World) (k : Nat) (wr : World) : Prop :=
  Below w.heap.size w wr ∧ RowIs wr (w.heap.size + 1) 38 (c8 (List.replicate 32 0)) ∧ RowIs wr (w.heap.size + 1 + 1) 38 (c8 (outTo ws k))
theorem HashRel.start (ws : List (BitVec 32)) (w : World) : HashRel ws w 0 (((w.alloc (.cells (c32 ws).toArray 111)).alloc (.cells (c8 (List.replicate 32 0)).toArray 38)).alloc (.cells (c8 (List.replicate 32 0)).toArray 38)) := by
  refine ⟨(((Below.refl _ _).alloc (Nat.le_refl _) _).alloc (by simp) _).alloc (by simp; omega) _, RowIs.alloc ?_ _, ?_⟩
  · simpa using RowIs.new (w.alloc (.cells (c32 ws).toArray 111)) 38 (c8 (List.replicate 32 0))
  · simpa [outTo] using RowIs.new ((w.alloc (.cells (c32 ws).toArray 111)).alloc (.cells (c8 (List.replicate 32 0)).toArray 38)) 38 (c8 (List.replicate 32 0))
theorem HashRel.next {ws : List (BitVec 32)} {w wr : World} {k : Nat} (h : HashRel ws w k wr) : HashRel ws w (k + 1)
    ((((wr.setCell ⟨w.heap.size + 1 + 1, 4 * k, none⟩ (.int .u8 ((byt (ws.getD k 0) 24).toNat : Int))).setCell ⟨w.heap.size + 1 + 1, 4 * k + 1, none⟩ (.int .u8 ((byt (ws.getD k 0) 16).toNat : Int))).setCell ⟨w.heap.size + 1 + 1, 4 * k + 2, none⟩ (.int .u8 ((byt (ws.getD k 0) 8).toNat : Int))).setCell ⟨w.heap.size + 1 + 1, 4 * k + 3, none⟩ (.int .u8 ((byt (ws.getD k 0) 0).toNat : Int))) := by
  obtain ⟨hb, r1, r2⟩ := h
  have hp : w.heap.size ≤ w.heap.size + 1 + 1 := by omega
  have hq : w.heap.size + 1 ≠ w.heap.size + 1 + 1 := by omega
  refine ⟨(((hb.setCell hp _).setCell hp _).setCell hp _).setCell hp _, (((r1.other _ _ hq).other _ _ hq).other _ _ hq).other _ _ hq, ?_⟩
  have := (((r2.set (4 * k) (.int .u8 ((byt (ws.getD k 0) 24).toNat : Int))).set (4 * k + 1) (.int .u8 ((byt (ws.getD k 0) 16).toNat : Int))).set (4 * k + 2) (.int .u8 ((byt (ws.getD k 0) 8).toNat : Int))).set (4 * k + 3) (.int .u8 ((byt (ws.getD k 0) 0).toNat : Int))
  rw [c8_set, c8_set, c8_set, c8_set] at this
  exact this
set_option maxRecDepth 100000 in
set_option maxHeartbeats 400000 in
theorem hashOf_any (ws : List (BitVec 32)) (hl : ws.length = 8) (w : World) :
    Calls Tryz.prog 90 #[.agg (c32 ws).toArray] w fun e w' => e = .returned (.agg (c8 (outTo ws 8)).toArray) ∧ Below w.heap.size w w' := by
  have hsw : (c32 ws).toArray.size = 8 := by simp [c32_len, hl]
  have r0 : RowIs (((w.alloc (.cells (c32 ws).toArray 111)).alloc (.cells (c8 (List.replicate 32 0)).toArray 38)).alloc (.cells (c8 (List.replicate 32 0)).toArray 38)) w.heap.size 111 (c32 ws) := ((RowIs.new w 111 _).alloc _).alloc _
  go_enter Tryz.func90, Tryz.ntmps90
  go_wp2_with (refine wpList_load_row rfl 111 _ rfl w.heap.size rfl 111 (c32 ws).toArray (0, 0) _ r0 Tryz.underlying111 rfl (by rw [hsw]; exact size51) ?_)
  clear r0
  go_loopw [7] (fun i wr => ∃ k : Nat, k ≤ 8 ∧ i = .int .i64 k ∧ HashRel ws w k wr) (fun i _ => 8 - (intOf i).toNat)
  case atStart => exact ⟨0, by omega, rfl, HashRel.start ws w⟩
  case round =>
    obtain ⟨k, hk, rfl, hR⟩ := hrel
    by_cases hlt : k < 8
    · have hix := fun W => idx51 ws hl k hlt W
      obtain ⟨x, X, hx⟩ : ∃ x : BitVec 32, Hid (x = ws.getD k 0) ∧ ∀ W, (Instr.index 111 (.agg (c32 ws).toArray) (.int .i64 (k : Int))).run Tryz.prog W = .ok (.int .u32 (n32 x)) W := ⟨_, rfl, hix⟩
      clear hix
      obtain ⟨m, hm, hm4⟩ : ∃ m : Nat, 4 * (k : Int) = (m : Int) ∧ 4 * k = m := ⟨4 * k, by omega, rfl⟩
      have hlen := outTo_len ws k
      have e0 := hR.2.2.cell (c8_get _ m (by omega))
      have e1 := hR.2.2.cell (c8_get _ (m + 1) (by omega))
      have e2 := hR.2.2.cell (c8_get _ (m + 2) (by omega))
      have e3 := hR.2.2.cell (c8_get _ (m + 3) (by omega))
      have f0 := hR.2.2.frozen m
      have f1 := hR.2.2.frozen (m + 1)
      have f2 := hR.2.2.frozen (m + 2)
      have f3 := hR.2.2.frozen (m + 3)
      have b0 : m + 3 < 32 := by omega
      have t1 : ((m : Int) + 1).toNat = m + 1 := by omega
      have t2 : ((m : Int) + 2).toNat = m + 2 := by omega
      have t3 : ((m : Int) + 3).toNat = m + 3 := by omega
      have v3 : n32 x / 16777216 % 256 = ((byt x 24).toNat : Int) := byt_mod x 24
      have v2 : n32 x / 65536 % 256 = ((byt x 16).toNat : Int) := byt_mod x 16
      have v1 : n32 x / 256 % 256 = ((byt x 8).toNat : Int) := byt_mod x 8
      have v0 : n32 x % 256 = ((byt x 0).toNat : Int) := by have := byt_mod x 0; simpa using this
      have HM : Hid (4 * k = m) := hm4
      have HR : Hid (HashRel ws w k wr) := hR
      clear hm4 hR hlen
      go_wp2
      go_roundw
      case rel => exact ⟨k + 1, by omega, by go_num, by have := HashRel.next HR.out; rw [HM.out, ← X.out] at this; exact this⟩
      case measure => simp [intOf]; omega
    · obtain rfl : k = 8 := by omega
      obtain ⟨hb', r1', r2'⟩ := hR
      have hb : Hid (Below w.heap.size w wr) := hb'
      have r1 : Hid (RowIs wr (w.heap.size + 1) 38 (c8 (List.replicate 32 0))) := r1'
      have r2 : Hid (RowIs wr (w.heap.size + 1 + 1) 38 (c8 (outTo ws 8))) := r2'
      have hsz : (c8 (outTo ws 8)).toArray.size = 32 := by simp [c8_len, outTo_len]
      clear hb' r1' r2'
      go_wp2_with (first
        | (refine wpList_load_row rfl 38 _ rfl (w.heap.size + 1 + 1) rfl 38 _ (0, 0) _ r2.out Tryz.underlying38 rfl (by rw [hsz]; exact size24) ?_)
        | (refine wpList_store_row rfl 38 _ _ rfl (w.heap.size + 1) _ rfl rfl 38 _ r1.out (by rw [hsz]; exact size24) (by rw [hsz]; rfl) (all_oneCell_toArray (c8_one _)) ?_))
      refine bodyPost_ret (v := .agg (c8 (outTo ws 8)).toArray) (results_cell_row Tryz.results90 _ _ (w.heap.size + 1) 38 _ (0, 0) _ rfl (RowIs.setRow r1.out _) Tryz.underlying38 rfl (by rw [hsz]; exact size24)) rfl ⟨rfl, Below.row hb.out (by omega) _⟩
set_option maxRecDepth 100000 in
set_option maxHeartbeats 400000 in
theorem firstState_any (w : World) :
    Calls Tryz.prog 87 #[] w fun e w' => e = .returned (.agg (c32 first.list).toArray) ∧ Below w.heap.size w w' := by
  go_enter Tryz.func87, Tryz.ntmps87
  go_wp2_with (refine wpList_store_row rfl 111 (.tmp 0) (.tmp 1) rfl w.heap.size (c32 first.list).toArray rfl rfl 111 zero8.toArray (RowIs.new w 111 zero8) size51 rfl (all_oneCell_toArray (c32_one _)) ?_)
  exact bodyPost_ret (v := .agg (c32 first.list).toArray) (results_cell_row Tryz.results87 _ _ w.heap.size 111 _ (0, 0) _ rfl (RowIs.setRow (RowIs.new w 111 zero8) _) Tryz.underlying111 rfl size51) rfl ⟨rfl, Below.row ((Below.refl _ _).alloc (Nat.le_refl _) _) (Nat.le_refl _) _⟩
end Go.Proofs.YtgmdolpjkaajfaaGreatDoor.SH
namespace Go.Proofs.YtgmdolpjkaajfaaGreatDoor.SH
open Go.RowKit Sha
theorem bytes5 : (Tryz.prog.info? 5).map (fun i => (i.zero, i.size, i.bytes)) = some (some (.int .u8 0), 1, 1) := by kernel_rfl
theorem made_zero (c : Nat) : madeCells (Value.cells (.int .u8 0)) c = (c8 (List.replicate c 0)).toArray := by
  apply Array.ext_getElem?
  intro i
  simp only [madeCells, c8, List.map_replicate]
  by_cases h : i < c
  · simp [h, Value.cells, Nat.mod_one]
  · simp [h]
theorem make_bytes (W : World) (l c : Nat) (hlc : l ≤ c) (hc : c ≤ 281474976710656) :
    (Instr.makeSlice 32 (.int .i64 (l : Int)) (.int .i64 (c : Int))).run Tryz.prog W = .ok (.slice (some ⟨W.heap.size, 0, none⟩) l c) (W.alloc (.cells (c8 (List.replicate c 0)).toArray 5)) := by
  obtain ⟨i, hi, hz⟩ := Option.map_eq_some_iff.1 bytes5
  simp only [Prod.mk.injEq] at hz
  obtain ⟨hz, hs, hb⟩ := hz
  have := run_make (P := Tryz.prog) W 32 5 i (.int .u8 0) Tryz.underlying32 hi hz .i64 .i64 l c (by omega) (by omega) (by rw [hb]; omega) (by omega)
  rw [this, hs, Nat.mul_one, Int.toNat_natCast, Int.toNat_natCast, made_zero]
theorem setCells_one (w : World) (b o : Nat) (v : Value) : w.setCells b o [v] = w.setCell ⟨b, o, none⟩ v := rfl
/-- append of one byte within the capacity, the row known whole. -/
theorem wpList_append_byte {w : World} {ops : Array Oper} {rest : List Oper} {o : Oper} {a : Act} {Q : Exit → Act → World → Prop}
    (hg : o.guard = none) (s x : Operand) (hop : o.op = Op.call { callee := Callee.builtin Builtin.append, args := #[s, x], argTypes := #[32, 32] })
    (g n cap : Nat) (cs : List Value) (hr : RowIs w g 5 cs) (hcs : cs.length = cap) (hs : a.eval s = .slice (some ⟨g, 0, none⟩) n cap)
    (b c : Nat) (v : Value) (hx : a.eval x = .slice (some ⟨b, 0, none⟩) 1 c) (hv : w.cell? ⟨b, 0, none⟩ = some v) (h1 : v.oneCell' = true) (hroom : n < cap)
    (hK : wpList Tryz.prog ops Q rest (a.put o.dst (.slice (some ⟨g, 0, none⟩) (n + 1) cap)) (w.setCell ⟨g, n, none⟩ v)) :
    wpList Tryz.prog ops Q (o :: rest) a w := by
  refine wpList_plain hg fun K hK' => ?_
  obtain ⟨i, hi, hz⟩ := Option.map_eq_some_iff.1 bytes5
  simp only [Prod.mk.injEq] at hz
  obtain ⟨_, hsz, _⟩ := hz
  have hcell : w.cell? ⟨g, n, none⟩ = some cs[n] := hr.cell (by simp [hcs, hroom])
  have hrun := run_append_room_cells (P := Tryz.prog) w 32 o.type 5 i Tryz.underlying32 hi g 0 n cap ⟨b, 0, none⟩ 1 c [v] (by simp [hsz])
    (fun j u hu => by
      cases j with
      | zero => simp at hu; subst hu; simpa [Addr.add] using hv
      | succ j => simp at hu)
    (fun u hu => by simp at hu; subst hu; exact h1) (by omega)
    (fun j hj => by simp at hj; subst hj; simp [hsz, hcell])
    (fun j hj => by simp at hj; subst hj; simp only [hsz, Nat.mul_one, Nat.zero_add, Nat.add_zero]; exact hr.frozen n)
  rw [hsz, Nat.mul_one, Nat.zero_add, setCells_one] at hrun
  unfold Oper.wp
  simp [execOp, hop, resolve, invoke, builtin, hs, hx, hrun, Result.andThen]
  exact hK' _ _ hK
/-- How many noughts stand behind the mark. -/
def noughts (n : Nat) : Nat := (119 - n % 64) % 64
def lb (n k : Nat) : UInt8 := UInt8.ofNat (8 * n / 2 ^ (56 - 8 * k))
def endTo (n : Nat) : Nat → List UInt8
  | 0 => 128 :: List.replicate (noughts n + 8) 0
  | k + 1 => (endTo n k).set (1 + noughts n + k) (lb n k)
theorem endTo_len (n : Nat) : ∀ k, (endTo n k).length = 9 + noughts n
  | 0 => by simp [endTo]; omega
  | k + 1 => by simp [endTo, endTo_len n k]
theorem lb_mod (n k : Nat) : (8 * (n : Int)) / 2 ^ (56 - 8 * k) % 256 = ((lb n k).toNat : Int) := by
  unfold lb; simp [UInt8.toNat_ofNat']
def EndRel (n : Nat) (w : World) (k : Nat) (wr : World) : Prop := Below w.heap.size w wr ∧ RowIs wr w.heap.size 5 (c8 (endTo n k))
theorem EndRel.start (n z : Nat) (w : World) (hz : noughts n = z) : EndRel n w 0 (w.alloc (.cells ((c8 (List.replicate (1 + z + 8) 0)).set 0 (.int .u8 128)).toArray 5)) := by
  refine ⟨(Below.refl _ _).alloc (Nat.le_refl _) _, ?_⟩
  have := RowIs.new w 5 ((c8 (List.replicate (1 + z + 8) 0)).set 0 (.int .u8 128))
  rw [show (Value.int .u8 128) = .int .u8 (((128 : UInt8).toNat : Nat) : Int) from rfl, c8_set] at this
  rw [show endTo n 0 = (List.replicate (1 + z + 8) (0 : UInt8)).set 0 128 by simp [endTo, hz, show 1 + z + 8 = (z + 8) + 1 by omega, List.replicate_succ]]
  exact this
theorem EndRel.next {n k : Nat} {w wr : World} (h : EndRel n w k wr) : EndRel n w (k + 1) ((wr.alloc (.cells #[.int .u8 ((lb n k).toNat : Int)] 5)).setCell ⟨w.heap.size, 1 + noughts n + k, none⟩ (.int .u8 ((lb n k).toNat : Int))) := by
  obtain ⟨hb, r⟩ := h
  refine ⟨(hb.alloc (hb.size) _).setCell (Nat.le_refl _) _, ?_⟩
  have := (r.alloc (.cells #[.int .u8 ((lb n k).toNat : Int)] 5)).set (1 + noughts n + k) (.int .u8 ((lb n k).toNat : Int))
  rw [c8_set] at this
  exact this
set_option maxRecDepth 100000 in
set_option maxHeartbeats 400000 in
theorem ending_any (n : Nat) (hn : n < 1152921504606846976) (w : World) :
    Calls Tryz.prog 89 #[.int .i64 n] w fun e w' => e = .returned (.slice (some ⟨w.heap.size, 0, none⟩) (9 + noughts n) (9 + noughts n)) ∧ Below w.heap.size w w' ∧ RowIs w' w.heap.size 5 (c8 (endTo n 8)) := by
  obtain ⟨z, hz, hz64⟩ : ∃ z : Nat, noughts n = z ∧ z < 64 := ⟨_, rfl, by unfold noughts; omega⟩
  have HZ : Hid (noughts n = z) := hz
  have hzi : (55 - (n : Int)) % 64 = (z : Int) := by unfold noughts at hz; omega
  have hmk : ∀ W : World, (Instr.makeSlice 32 (.int .i64 (1 + (z : Int))) (.int .i64 (1 + (z : Int) + 8))).run Tryz.prog W = .ok (.slice (some ⟨W.heap.size, 0, none⟩) (1 + z) (1 + z + 8)) (W.alloc (.cells (c8 (List.replicate (1 + z + 8) 0)).toArray 5)) := fun W => by
    have := make_bytes W (1 + z) (1 + z + 8) (by omega) (by omega)
    rw [show ((1 + z : Nat) : Int) = 1 + (z : Int) by omega, show ((1 + z + 8 : Nat) : Int) = 1 + (z : Int) + 8 by omega] at this
    exact this
  clear hz
  go_enter Tryz.func89, Tryz.ntmps89
  go_wp2
  clear hmk hzi
  go_loopw [4, 6] (fun v i wr => ∃ k : Nat, k ≤ 8 ∧ v = .slice (some ⟨w.heap.size, 0, none⟩) (1 + z + k) (1 + z + 8) ∧ i = .int .i64 (56 - 8 * (k : Int)) ∧ EndRel n w k wr) (fun _ i _ => (intOf i + 8).toNat)
  case atStart => exact ⟨0, by omega, rfl, rfl, EndRel.start n z w HZ.out⟩
  case round =>
    obtain ⟨k, hk, rfl, rfl, hR⟩ := hrel
    by_cases hlt : k < 8
    · have s0 : (0 : Int) ≤ 56 - 8 * (k : Int) := by omega
      have s1 : 56 - 8 * (k : Int) ≤ 64 := by omega
      have s2 : (56 - 8 * (k : Int)).toNat = 56 - 8 * k := by omega
      have hv : (n : Int) * 8 / 2 ^ (56 - 8 * k) % 256 = ((lb n k).toNat : Int) := by rw [Int.mul_comm]; exact lb_mod n k
      have r0 : Hid (RowIs (wr.alloc (.cells #[.int .u8 ((lb n k).toNat : Int)] 5)) w.heap.size 5 (c8 (endTo n k))) := hR.2.alloc _
      have c0 : Hid ((wr.alloc (.cells #[.int .u8 ((lb n k).toNat : Int)] 5)).cell? ⟨wr.heap.size, 0, none⟩ = some (.int .u8 ((lb n k).toNat : Int))) := (RowIs.new wr 5 [.int .u8 ((lb n k).toNat : Int)]).cell rfl
      have hlen : (c8 (endTo n k)).length = 1 + z + 8 := by rw [c8_len, endTo_len, HZ.out]; omega
      have HL := show Hid _ from hlen
      have HR : Hid (EndRel n w k wr) := hR
      clear hR hlen
      go_wp2_with (at_builtin; refine wpList_append_byte rfl _ _ rfl w.heap.size (1 + z + k) (1 + z + 8) (c8 (endTo n k)) r0.out HL.out rfl wr.heap.size 1 (.int .u8 ((lb n k).toNat : Int)) rfl c0.out rfl (by omega) ?_)
      go_roundw
      case rel => exact ⟨k + 1, by omega, by rw [Nat.add_assoc], by go_num, by have := EndRel.next HR.out; rw [HZ.out] at this; exact this⟩
      case measure => simp [intOf]; omega
    · obtain rfl : k = 8 := by omega
      have HR : Hid (EndRel n w 8 wr) := hR
      clear hR
      go_wp2
      go_ret
      refine ⟨?_, HR.out.1, HR.out.2⟩
      rw [HZ.out, show 9 + z = 1 + z + 8 by omega]
      rfl
end Go.Proofs.YtgmdolpjkaajfaaGreatDoor.SH
