/-
  A REGION THAT DRAWS ITS ORDER, WALKED BY HAND: each operation by its number, its slot and its value; behind each call the world at hand is the one that is kept.
-/
import Derived.Test.YtgcgblecendijaaLKit
namespace Go.Proofs.Ytgcgblecendijaa.LB
open Go.RowKit Leb
/-- Nothing of W has turned. -/
def After (W w : World) : Prop := Below W.heap.size W w
theorem After.refl (W : World) : After W W := Below.refl _ _
theorem After.trans {a b c : World} (h : After a b) (k : After b c) : After a c := Below.trans h (Below.mono k h.size)
theorem After.drew {a b : World} (h : After a b) : After a b.drew := Below.drew h
theorem turnH {P : Program} {md : Region.Mode} {ops : Array Oper} {Q : Exit → Act → World → Prop} {S T : World → Prop} (h : ∀ w, T w → S w) :
    ∀ (fuel : Nat) (listed : Array Bool) (a : Act) (w : World), wpAnyH P md ops Q T fuel listed a w → wpAnyH P md ops Q S fuel listed a w
  | 0, _, _, _, k => k
  | fuel + 1, _, _, _, k => ⟨k.1, fun i hi => wpOp_mono (fun a' w' k' => ⟨h _ k'.1, turnH h fuel _ a' w' k'.2⟩) (k.2 i hi)⟩
section
variable {ops : Array Oper} {Q : Exit → Act → World → Prop} {S : World → Prop} {fuel : Nat} {listed : Array Bool} {a : Act} {w W : World} {oi : Oper}
/-- Number i is taken first: it yields v, into slot d. -/
theorem tk (i d : Nat) (v : Value) (hi : ops[i]? = some oi) (hd : oi.dst = some d) (hs : Region.noSelect ops = true) (hf : Region.free .any ops listed i = true) (hr : (Region.ready .any ops listed).contains i = true)
    (hQ : ∀ c a w, Q (.panic c) a w → False) (hw : Region.wanted oi (yielded ops a.tmps) = true) (hx : ∀ w, S w → (execOp a.eval oi).run Try.prog w = .ok (.value v) w) (hS : S w)
    (h : wpAnyH Try.prog .any ops Q S fuel (listed.setIfInBounds i true) (a.put (some d) v) w) : wpAnyH Try.prog .any ops Q S (fuel + 1) listed a w :=
  wpAnyH_take hi hs hf hr (fun c a w h => (hQ c _ w h).elim) (.inl ⟨hw, hx⟩) hS (by rw [hd]; exact h)
/-- Number i's guard says no. -/
theorem tkSkip (i d : Nat) (hi : ops[i]? = some oi) (hd : oi.dst = some d) (hs : Region.noSelect ops = true) (hf : Region.free .any ops listed i = true) (hr : (Region.ready .any ops listed).contains i = true)
    (hQ : ∀ c a w, Q (.panic c) a w → False) (hw : Region.wanted oi (yielded ops a.tmps) = false) (hS : S w)
    (h : wpAnyH Try.prog .any ops Q S fuel (listed.setIfInBounds i true) (a.put (some d) undef) w) : wpAnyH Try.prog .any ops Q S (fuel + 1) listed a w :=
  wpAnyH_take hi hs hf hr (fun c a w h => (hQ c _ w h).elim) (.inr ⟨hw, rfl⟩) hS (by rw [hd]; exact h)
/-- Number i is a call, by its contract; nothing else may come up; from then on the world behind it is kept. -/
theorem tkCall (i d : Nat) (f : FuncId) (args : Array Value) (R : Value → World → Prop) (hi : ops[i]? = some oi) (hd : oi.dst = some d) (hr : Region.ready .any ops listed = [i])
    (hw : Region.wanted oi (yielded ops a.tmps) = true) (hrun : ∀ w, (execOp a.eval oi).run Try.prog w = .ok (.enter f args) w) (hS : After W w)
    (hc : Calls Try.prog f args w fun e w' => ∃ v, e = .returned v ∧ R v w' ∧ Below w.heap.size w w')
    (h : ∀ v w', R v w' → After w w' → wpAnyH Try.prog .any ops Q (After w') fuel (listed.setIfInBounds i true) (a.put (some d) v) w') : wpAnyH Try.prog .any ops Q (After W) (fuel + 1) listed a w :=
  wpAnyH_all hr (by simp) (fun j hj => by
    obtain rfl : j = i := by simpa using hj
    refine wpOp_step hi (fun K' hK => ?_)
    rw [if_pos hw]
    unfold Oper.wp
    rw [hrun, Oper.upon_enter]
    refine hc.mono (fun e w' ⟨v, he, hr, hb⟩ => ?_)
    subst he
    rw [hd]
    exact hK _ _ ⟨hS.trans hb, turnH (fun w hw => (hS.trans hb).trans hw) _ _ _ _ (h v w' hr hb)⟩)
theorem noPanic_false {Q : Exit → Act → World → Prop} : ∀ c a w, NoPanic Q (.panic c) a w → False := fun _ _ _ h => h
theorem x_conv {o : Oper} {a : Act} {x : Operand} {v : Value} {s : ByteArray} {w : World} (hop : o.op = .convert 26 9 x) (hx : a.eval x = v) (h : (convert 26 9 v).run Try.prog w = .ok (.string s) w) : (execOp a.eval o).run Try.prog w = .ok (.value (.string s)) w := by
  unfold execOp
  simp only [hop, hx, Sem.run_bind, h, Result.andThen_ok]
  rfl
theorem x_streq {o : Oper} {a : Act} {x y : Operand} {s t : ByteArray} {w : World} (hop : o.op = .binOp .eql 9 x y 9) (hx : a.eval x = .string s) (hy : a.eval y = .string t) (h : s = t) : (execOp a.eval o).run Try.prog w = .ok (.value (.bool true)) w := by
  subst h
  unfold execOp
  simp only [hop, hx, hy]
  simp [go_sem]
end
end Go.Proofs.Ytgcgblecendijaa.LB
