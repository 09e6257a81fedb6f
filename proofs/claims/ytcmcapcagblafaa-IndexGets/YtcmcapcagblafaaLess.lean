/-
  TWO HASHES COMPARED WITH ==; THE WALKS OF sha.Less AND stemmaref01.Less.
-/
import Derived.Test.YtcmcapcagblafaaBase
namespace Go.Proofs.Ytcmcapcagblafaa
open Go.RowKit
theorem size24 : (Try.prog.info? 43).map (·.size) = some 32 := by kernel_rfl
set_option maxRecDepth 100000 in
theorem eq24 (a b : List UInt8) (ha : a.length = 32) (hb : b.length = 32) (w : World) : (Op.equalIn 10000 43 (.agg (c8 a).toArray) (.agg (c8 b).toArray)).run Try.prog w = .ok (decide (a = b)) w := by
  obtain ⟨i, hi, hz⟩ := Option.map_eq_some_iff.1 info5
  have h := run_equalIn_array (P := Try.prog) w 9999 (c8 a).toArray (c8 b).toArray Try.underlying43 hi
  rw [cells5', eqItems5 9998 a b w (List.range 32) (fun i hi => by simp at hi; omega)] at h
  rw [show (10000 : Nat) = 9999 + 1 from rfl, h]
  congr 1
  rw [Bool.eq_iff_iff, decide_eq_true_iff, List.all_eq_true]
  constructor
  · intro hall
    apply List.ext_getElem (by omega)
    intro i h1 h2
    have := hall i (by simp; omega)
    simp [h1, h2] at this
    exact this
  · intro he; subst he; simp

/-- Ahead, at the first byte that differs. -/
def ltB : List UInt8 → List UInt8 → Bool
  | x :: xs, y :: ys => if x = y then ltB xs ys else decide (x < y)
  | _, _ => false
theorem ltB_self : ∀ a : List UInt8, ltB a a = false
  | [] => rfl
  | x :: xs => by simp [ltB, ltB_self xs]
theorem ltB_at : ∀ (a b : List UInt8) (k : Nat), k < a.length → k < b.length → (∀ j, j < k → a.getD j 0 = b.getD j 0) → a.getD k 0 ≠ b.getD k 0 → ltB a b = decide (a.getD k 0 < b.getD k 0)
  | [], _, _, h, _, _, _ => by simp at h
  | _ :: _, [], _, _, h, _, _ => by simp at h
  | x :: xs, y :: ys, 0, _, _, _, hn => by simp at hn; simp [ltB, hn]
  | x :: xs, y :: ys, k + 1, h1, h2, hj, hn => by
    have h0 : x = y := by simpa using hj 0 (by omega)
    have ih := ltB_at xs ys k (by simpa using h1) (by simpa using h2) (fun j hjk => by simpa using hj (j + 1) (by omega)) (by simpa using hn)
    simp [ltB, h0, ih]
theorem all_eq {a b : List UInt8} (ha : a.length = 32) (hb : b.length = 32) (h : ∀ j, j < 32 → a.getD j 0 = b.getD j 0) : a = b := by
  apply List.ext_getElem (by omega)
  intro i h1 h2
  have := h i (by omega)
  simpa [h1, h2] using this
theorem lt_nat (x y : UInt8) : decide (x.toNat < y.toNat) = decide (x < y) := by
  rw [Bool.eq_iff_iff, decide_eq_true_iff, decide_eq_true_iff, UInt8.lt_iff_toNat_lt]
def LessRel (a b : List UInt8) (w : World) (wr : World) : Prop := Below w.heap.size w wr ∧ RowIs wr w.heap.size 43 (c8 a) ∧ RowIs wr (w.heap.size + 1) 43 (c8 b)
theorem LessRel.start (a b : List UInt8) (w : World) : LessRel a b w ((w.alloc (.cells (c8 a).toArray 43)).alloc (.cells (c8 b).toArray 43)) := by
  refine ⟨((Below.refl _ _).alloc (Nat.le_refl _) _).alloc (by simp) _, (RowIs.new w 43 _).alloc _, ?_⟩
  have := RowIs.new (w.alloc (.cells (c8 a).toArray 43)) 43 (c8 b)
  rw [show (w.alloc (.cells (c8 a).toArray 43)).heap.size = w.heap.size + 1 by simp] at this
  exact this
theorem LessRel.drew {a b : List UInt8} {w wr : World} (h : LessRel a b w wr) : LessRel a b w wr.drew := ⟨h.1.drew, h.2.1, h.2.2⟩
theorem eqb_true {x y : UInt8} (h : x = y) : ((x.toNat : Int) == (y.toNat : Int)) = true := by rw [beq_iff_eq, h]
theorem eqb_false {x y : UInt8} (h : ¬ x = y) : ((x.toNat : Int) == (y.toNat : Int)) = false := by
  rw [beq_eq_false_iff_ne]; intro e; exact h (UInt8.toNat_inj.1 (by omega))
theorem neb_false {x y : UInt8} (h : x = y) : ((x.toNat : Int) != (y.toNat : Int)) = false := by simp [h]
theorem neb_true {x y : UInt8} (h : ¬ x = y) : ((x.toNat : Int) != (y.toNat : Int)) = true := by
  rw [bne_iff_ne]; intro e; exact h (UInt8.toNat_inj.1 (by omega))
end Go.Proofs.Ytcmcapcagblafaa
