/-
  MORE FOR REGIONS THAT ARE WALKED BY HAND: words of 32 bits; calls that leave what is there.
-/
import Derived.Test.YtpnhklefoafgkaaDoorHand
import Derived.Test.YtpnhklefoafgkaaDoorOwnKit
namespace Go.Proofs.YtpnhklefoafgkaaDoor
open Go.RowKit Sha
theorem turnH {P : Program} {md : Region.Mode} {ops : Array Oper} {Q : Exit → Act → World → Prop} {S T : World → Prop} (h : ∀ w, T w → S w) :
    ∀ (fuel : Nat) (listed : Array Bool) (a : Act) (w : World), wpAnyH P md ops Q T fuel listed a w → wpAnyH P md ops Q S fuel listed a w
  | 0, _, _, _, k => k
  | fuel + 1, _, _, _, k => ⟨k.1, fun i hi => wpOp_mono (fun a' w' k' => ⟨h _ k'.1, turnH h fuel _ a' w' k'.2⟩) (k.2 i hi)⟩
section
variable {ops : Array Oper} {Q : Exit → Act → World → Prop} {S : World → Prop} {fuel : Nat} {listed : Array Bool} {a : Act} {w W : World} {oi : Oper}
/-- Number i is a call, by its contract; nothing else may come up; from then on the world behind it is kept. -/
theorem tkCallA (i d : Nat) (f : FuncId) (args : Array Value) (R : Value → World → Prop) (hi : ops[i]? = some oi) (hd : oi.dst = some d) (hr : Region.ready .any ops listed = [i])
    (hw : Region.wanted oi (yielded ops a.tmps) = true) (hrun : ∀ w, (execOp a.eval oi).run Tryd.prog w = .ok (.enter f args) w) (hS : After W w)
    (hc : Calls Tryd.prog f args w fun e w' => ∃ v, e = .returned v ∧ R v w' ∧ Below w.heap.size w w')
    (h : ∀ v w', R v w' → After w w' → wpAnyH Tryd.prog .any ops Q (After w') fuel (listed.setIfInBounds i true) (a.put (some d) v) w') : wpAnyH Tryd.prog .any ops Q (After W) (fuel + 1) listed a w :=
  wpAnyH_all hr (by simp) (fun j hj => by
    obtain rfl : j = i := by simpa using hj
    refine wpOp_step hi (fun K' hK => ?_)
    rw [if_pos hw]
    unfold Oper.wp
    rw [hrun, Oper.upon_enter]
    refine hc.mono (fun e w' ⟨v, he, hr, hb⟩ => ?_)
    subst he
    rw [hd]
    exact hK _ _ ⟨hS.trans hb, turnH (fun w hw => (hS.trans hb).trans hw) _ _ _ _ (h v w' hr hb)⟩)
/-- Number i, which alone may come up, stores a whole row. -/
theorem tkStore (i : Nat) (g : Nat) (ty : TypeId) (x y : Operand) (cells old : Array Value) (t : TypeId) (hi : ops[i]? = some oi) (hd : oi.dst = none) (ho : oi.op = .store ty x y) (hr : Region.ready .any ops listed = [i])
    (hw : Region.wanted oi (yielded ops a.tmps) = true) (hx : a.eval x = .pointer (some ⟨g, 0, none⟩)) (hy : a.eval y = .agg cells) (hg : w.heap[g]? = some (.cells old t (0, 0))) (hz : (Tryd.prog.info? ty).map (·.size) = some cells.size)
    (hold : old.size = cells.size) (h1 : cells.all (·.oneCell') = true) (hS : S (w.setRow g cells))
    (h : wpAnyH Tryd.prog .any ops Q S fuel (listed.setIfInBounds i true) (a.put none undef) (w.setRow g cells)) : wpAnyH Tryd.prog .any ops Q S (fuel + 1) listed a w :=
  wpAnyH_all hr (by simp) (fun j hj => by
    obtain rfl : j = i := by simpa using hj
    refine wpOp_step hi (fun K' hK => ?_)
    rw [if_pos hw]
    refine wp_store_row ty x y ho g cells hx hy t old hg hz hold h1 ?_
    rw [hd]
    exact hK _ _ ⟨hS, h⟩)
/-- Number i, which alone may come up, is a call, by its contract. -/
theorem tkCallS (i d : Nat) (f : FuncId) (args : Array Value) (R : Value → World → Prop) (hi : ops[i]? = some oi) (hd : oi.dst = some d) (hr : Region.ready .any ops listed = [i])
    (hw : Region.wanted oi (yielded ops a.tmps) = true) (hrun : ∀ w, (execOp a.eval oi).run Tryd.prog w = .ok (.enter f args) w)
    (hc : Calls Tryd.prog f args w fun e w' => ∃ v, e = .returned v ∧ R v w') (hS : ∀ v w', R v w' → S w')
    (h : ∀ v w', R v w' → wpAnyH Tryd.prog .any ops Q S fuel (listed.setIfInBounds i true) (a.put (some d) v) w') : wpAnyH Tryd.prog .any ops Q S (fuel + 1) listed a w :=
  wpAnyH_all hr (by simp) (fun j hj => by
    obtain rfl : j = i := by simpa using hj
    refine wpOp_step hi (fun K' hK => ?_)
    rw [if_pos hw]
    unfold Oper.wp
    rw [hrun, Oper.upon_enter]
    refine hc.mono (fun e w' ⟨v, he, hr⟩ => ?_)
    subst he
    rw [hd]
    exact hK _ _ ⟨hS v w' hr, h v w' hr⟩)
end
section
variable {o : Oper} {a : Act} {x y : Operand} {w : World} {p q : BitVec 32}
theorem x_xor (hop : o.op = .binOp .xor 46 x y 46) (hx : a.eval x = .int .u32 (n32 p)) (hy : a.eval y = .int .u32 (n32 q)) : (execOp a.eval o).run Tryd.prog w = .ok (.value (.int .u32 (n32 (p ^^^ q)))) w := by
  unfold execOp
  simp only [hop, hx, hy]
  simp [go_sem, bits_xor]
theorem x_and (hop : o.op = .binOp .and 46 x y 46) (hx : a.eval x = .int .u32 (n32 p)) (hy : a.eval y = .int .u32 (n32 q)) : (execOp a.eval o).run Tryd.prog w = .ok (.value (.int .u32 (n32 (p &&& q)))) w := by
  unfold execOp
  simp only [hop, hx, hy]
  simp [go_sem, bits_and]
theorem x_add (hop : o.op = .binOp .add 46 x y 46) (hx : a.eval x = .int .u32 (n32 p)) (hy : a.eval y = .int .u32 (n32 q)) : (execOp a.eval o).run Tryd.prog w = .ok (.value (.int .u32 (n32 (p + q)))) w := by
  unfold execOp
  simp only [hop, hx, hy]
  rw [← wrap_add]
  simp [go_sem]
theorem x_not (hop : o.op = .unOp .xor 46 x) (hx : a.eval x = .int .u32 (n32 p)) : (execOp a.eval o).run Tryd.prog w = .ok (.value (.int .u32 (n32 (~~~p)))) w := by
  unfold execOp
  simp only [hop, hx]
  rw [← bits_not]
  simp [go_sem]
  rfl
theorem x_load46 {g j : Nat} {v : Value} (hop : o.op = .load 46 x) (hx : a.eval x = .pointer (some ⟨g, j, none⟩)) (h : w.cell? ⟨g, j, none⟩ = some v) : (execOp a.eval o).run Tryd.prog w = .ok (.value v) w := by
  have hag : (isAgg 46).run Tryd.prog w = .ok false w := by
    unfold isAgg; rw [Sem.run_bind, run_underlying Tryd.underlying46 w]; rfl
  unfold execOp
  simp only [hop, hx, Instr.loadAt, Instr.sureAddr, Sem.run_bind, Sem.run_pure, Result.andThen_ok, loadVar, hag]
  simp [h, go_sem]
theorem x_index64 {g k : Nat} (hop : o.op = .indexAddr 64 x y) (hx : a.eval x = .pointer (some ⟨g, 0, none⟩)) (hy : a.eval y = .int .i64 (k : Int)) (hk : k < 64) :
    (execOp a.eval o).run Tryd.prog w = .ok (.value (.pointer (some ⟨g, k, none⟩))) w := by
  obtain ⟨i, hi, hz⟩ := Option.map_eq_some_iff.1 (show (Tryd.prog.info? 46).map (·.size) = some 1 by kernel_rfl)
  unfold execOp
  simp only [hop, hx, hy]
  simp [Instr.indexAt, run_underlying Tryd.underlying64, Instr.sureAddr, asIntOf, sizeOf, typeInfo, hi, hz, Addr.add_mid, go_sem]
  intro h; omega
end
end Go.Proofs.YtpnhklefoafgkaaDoor
