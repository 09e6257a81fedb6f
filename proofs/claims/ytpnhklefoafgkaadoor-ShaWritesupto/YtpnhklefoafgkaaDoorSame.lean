/-
  TWO HASHES COMPARED WITH ==.
-/
import Derived.Test.YtpnhklefoafgkaaDoorAwake
import Derived.ChangeKeysEq
namespace Go.Proofs.YtpnhklefoafgkaaDoor
open Go.RowKit Sha
theorem part5 (cs : List Value) (j : Nat) (v : Value) (hv : cs[j]? = some v) (w : World) : (part 5 cs.toArray (j * 1)).run Tryd.prog w = .ok v w := by
  have hag : (isAgg 5).run Tryd.prog w = .ok false w := by
    unfold isAgg; rw [Sem.run_bind, run_underlying Tryd.underlying5 w]; rfl
  simp [part, hag, hv]
theorem eqItems5 (d : Nat) (a b : List UInt8) (w : World) : ∀ is : List Nat, (∀ i ∈ is, i < a.length ∧ i < b.length) →
    (Op.eqItems (d + 1) 5 1 (c8 a).toArray (c8 b).toArray is).run Tryd.prog w = .ok (is.all fun i => a.getD i 0 == b.getD i 0) w
  | [], _ => by simp [Op.eqItems]
  | i :: is, h => by
    obtain ⟨h1, h2⟩ := h i (by simp)
    have ih := eqItems5 d a b w is (fun j hj => h j (by simp [hj]))
    have e : (((a.getD i 0).toNat : Int) == ((b.getD i 0).toNat : Int)) = (a.getD i 0 == b.getD i 0) := by
      rw [Bool.eq_iff_iff, beq_iff_eq, beq_iff_eq, Int.ofNat_inj, UInt8.toNat_inj]
    simp only [Op.eqItems, Sem.run_bind, part5 _ i _ (c8_get a i h1), part5 _ i _ (c8_get b i h2), Result.andThen_ok, run_equalIn_int w d 5 .u8 .u8 _ _ Tryd.underlying5, e, List.all_cons]
    cases (a.getD i 0 == b.getD i 0)
    · simp
    · simpa using ih
theorem eq24 (a b : List UInt8) (ha : a.length = 32) (hb : b.length = 32) (w : World) : (Op.equalIn 10000 24 (.agg (c8 a).toArray) (.agg (c8 b).toArray)).run Tryd.prog w = .ok (decide (a = b)) w := by
  obtain ⟨i, hi, hz⟩ := Option.map_eq_some_iff.1 info5
  have h := run_equalIn_array (P := Tryd.prog) w 9999 (c8 a).toArray (c8 b).toArray Tryd.underlying24 hi
  rw [cells5, eqItems5 9998 a b w (List.range 32) (fun i hi => by simp at hi; omega)] at h
  rw [show (10000 : Nat) = 9999 + 1 from rfl, h]
  congr 1
  rw [Bool.eq_iff_iff, decide_eq_true_iff, List.all_eq_true]
  constructor
  · intro hall
    apply List.ext_getElem (by omega)
    intro i h1 h2
    have := hall i (by simp; omega)
    simp [h1, h2] at this
    exact this
  · intro he; subst he; simp
end Go.Proofs.YtpnhklefoafgkaaDoor
