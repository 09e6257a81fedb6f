/-
  stemmalaw04.FrameTurned for whatever is turned, by nothing or by something.
-/
import Derived.Test.YtjmjianilcdphaaTurnedWalk
namespace Go.Proofs.Ytjmjianilcdphaa
open Go.RowKit Leb
theorem turned_any (ao ax : Option Addr) (cap cx : Nat) (ps : List (UInt8 × List UInt8)) (hn : ps.length ≤ 1048576) (hps : ∀ p ∈ ps, p.2.length ≤ 1048576) (kx : UInt8) (D : List UInt8) (hbig : (laidB ps).length + D.length ≤ 3145800) (hD : D.length ≤ 1048570) (t0 t1 : Nat) (ht0 : t0 ≤ 65535) (w : World) (hat : PiecesIn w ao ps) (hax : BytesAt w ax D) :
    Calls Try.prog 7 #[.slice ao ps.length cap, .agg #[.int .u8 (kx.toNat : Int), .slice ax D.length cx], .agg #[.int .u16 (t0 : Int), .int .u16 (t1 : Int)]] w fun e w' => e = .returned (.bool true) ∧ Below w.heap.size w w' := by
  by_cases h : t1 % 256 = 0
  · exact turned_zero ao ax cap cx ps hn hps (by omega) kx D (by omega) t0 t1 (by omega) w hat hax
  · have hb : (UInt8.ofNat (t1 % 256)).toNat = t1 % 256 := by simp
    refine turned_some ao ax cap cx ps hn hps kx D hbig hD t0 ht0 t1 (UInt8.ofNat (t1 % 256)) ?_ ?_ w hat hax
    · rw [hb]; omega
    · intro h0; apply h; rw [← hb, h0]; rfl
end Go.Proofs.Ytjmjianilcdphaa
