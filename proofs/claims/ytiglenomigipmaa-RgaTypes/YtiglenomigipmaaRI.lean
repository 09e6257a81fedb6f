/-
  Two ids compared with ==.
-/
import Derived.Test.YtiglenomigipmaaRH
namespace Go.Proofs.Ytiglenomigipmaa
open Go.RowKit Go.Maps Go.WideMaps Go.WideAt Mp
set_option maxRecDepth 100000 in
theorem eq35d (a b : List UInt8) (ha : a.length = 32) (hb : b.length = 32) (w : World) : (Op.equalIn 9999 35 (.agg (c8 a).toArray) (.agg (c8 b).toArray)).run Try.prog w = .ok (decide (a = b)) w := by
  obtain ⟨i, hi, hz⟩ := Option.map_eq_some_iff.1 info5
  have h := run_equalIn_array (P := Try.prog) w 9998 (c8 a).toArray (c8 b).toArray Try.underlying35 hi
  rw [cells5', eqItems5 9997 a b w (List.range 32) (fun i hi => by simp at hi; omega)] at h
  rw [show (9999 : Nat) = 9998 + 1 from rfl, h]
  congr 1
  rw [Bool.eq_iff_iff, decide_eq_true_iff, List.all_eq_true]
  constructor
  · intro hall
    apply List.ext_getElem (by omega)
    intro i h1 h2
    have := hall i (by simp; omega)
    simp [h1, h2] at this
    exact this
  · intro he; subst he; simp
set_option maxRecDepth 100000 in
theorem eqId (x y : Idn) (hx : x.Ok) (hy : y.Ok) (w : World) : (Op.equalIn 10000 37 (idv x) (idv y)).run Try.prog w = .ok (decide (x = y)) w := by
  have u3 := Try.underlying3
  have hS : Try.prog.underlying 37 = some (.struct (Try.prog.fieldsOf 37)) := by kernel_rfl
  have hp : Try.prog.stoodInHeld 37 = false := by kernel_rfl
  have a3 : ∀ w, (isAgg 3).run Try.prog w = .ok false w := fun w => by unfold isAgg; rw [Sem.run_bind, run_underlying u3 w]; rfl
  have h35 := eq35d x.b y.b hx.len hy.len w
  unfold idv
  rw [show (10000 : Nat) = 9999 + 1 from rfl, run_equalIn_agg w 9999 37 _ _ hS hp]
  simp only [Program.fieldsOf, Try.underlying37]
  have t1 : List.take 32 (idc x).tail = c8 x.b := by rw [show (idc x).tail = c8 x.b from rfl, List.take_of_length_le (by rw [c8_len, hx.len]; omega)]
  have t2 : List.take 32 (idc y).tail = c8 y.b := by rw [show (idc y).tail = c8 y.b from rfl, List.take_of_length_le (by rw [c8_len, hy.len]; omega)]
  have z1 : (idc x)[0]? = some (.int .i64 x.c) := rfl
  have z2 : (idc y)[0]? = some (.int .i64 y.c) := rfl
  go_simp
  have e : (x = y) ↔ (x.c = y.c ∧ x.b = y.b) := by
    constructor
    · intro h; subst h; exact ⟨rfl, rfl⟩
    · rintro ⟨h1, h2⟩; cases x; cases y; simp_all
  by_cases h1 : x.c = y.c <;> by_cases h2 : x.b = y.b <;> simp [e, h1, h2]
section
variable {a : Act} {w : World} {oi : Oper}
theorem x_neId {x y : Operand} {h k : Idn} (hh : h.Ok) (hk : k.Ok) (hop : oi.op = .binOp .neq 37 x y 37) (hx : a.eval x = idv h) (hy : a.eval y = idv k) : (execOp a.eval oi).run Try.prog w = .ok (.value (.bool (!decide (h = k)))) w := by
  have he := eqId h k hh hk w
  have hm : Try.prog.eqGuardType Try.prog.depth 37 = false := by kernel_rfl
  unfold idv at he hx hy
  unfold execOp
  simp only [hop, hx, hy, Sem.run_bind, run_eqGuard_agg w .neq 37 x y _ _ hm, run_neq_struct, he, Result.andThen_ok]
  rfl
end
/-- What Insert tells. -/
def insE (st : List Stm) (af id : Idn) : Nat := if id.c < 1 ∨ id.c ≤ af.c then 2 else if (plc st id).isSome then 23 else if af ≠ zId ∧ (plc st af).isSome = false then 22 else 0
end Go.Proofs.Ytiglenomigipmaa
