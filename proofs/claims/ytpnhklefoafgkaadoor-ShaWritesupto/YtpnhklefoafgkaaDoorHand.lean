/-
  A REGION THAT DRAWS ITS ORDER, WALKED BY HAND: each operation by its number, its slot and its value; the frame stays small.
-/
import Derived.Test.YtpnhklefoafgkaaDoorSame
namespace Go.Proofs.YtpnhklefoafgkaaDoor
open Go.RowKit Sha
section
variable {ops : Array Oper} {Q : Exit → Act → World → Prop} {S : World → Prop} {fuel : Nat} {listed : Array Bool} {a : Act} {w : World} {oi : Oper}
/-- Number i is taken first: it yields v, into slot d. -/
theorem tk (i d : Nat) (v : Value) (hi : ops[i]? = some oi) (hd : oi.dst = some d) (hs : Region.noSelect ops = true) (hf : Region.free .any ops listed i = true) (hr : (Region.ready .any ops listed).contains i = true)
    (hQ : ∀ c a w, Q (.panic c) a w → False) (hw : Region.wanted oi (yielded ops a.tmps) = true) (hx : ∀ w, S w → (execOp a.eval oi).run Tryd.prog w = .ok (.value v) w) (hS : S w)
    (h : wpAnyH Tryd.prog .any ops Q S fuel (listed.setIfInBounds i true) (a.put (some d) v) w) : wpAnyH Tryd.prog .any ops Q S (fuel + 1) listed a w :=
  wpAnyH_take hi hs hf hr (fun c a w h => (hQ c _ w h).elim) (.inl ⟨hw, hx⟩) hS (by rw [hd]; exact h)
/-- Number i is a whole array's load. -/
theorem tkLoad (i d : Nat) (ty : TypeId) (x : Operand) (b off : Nat) (cs : List Value) (hi : ops[i]? = some oi) (hd : oi.dst = some d) (hop : oi.op = .load ty x) (hs : Region.noSelect ops = true) (hf : Region.free .any ops listed i = true) (hr : (Region.ready .any ops listed).contains i = true)
    (hQ : ∀ c a w, Q (.panic c) a w → False) (hw : Region.wanted oi (yielded ops a.tmps) = true) (hx : a.eval x = .pointer (some ⟨b, off, none⟩)) (ds : TypeDesc) (hr2 : ∀ w, S w → w.rangeAt b off cs)
    (hu : Tryd.prog.underlying ty = some ds) (hds : ds.isRow = true) (hz : (Tryd.prog.info? ty).map (·.size) = some cs.length) (hS : S w)
    (h : wpAnyH Tryd.prog .any ops Q S fuel (listed.setIfInBounds i true) (a.put (some d) (.agg cs.toArray)) w) : wpAnyH Tryd.prog .any ops Q S (fuel + 1) listed a w :=
  wpAnyH_take hi hs hf hr (fun c a w h => (hQ c _ w h).elim) (yieldsIf_load_mid hw ty x hop b off hx cs ds hr2 hu hds hz) hS (by rw [hd]; exact h)
/-- Number i's guard says no. -/
theorem tkSkip (i d : Nat) (hi : ops[i]? = some oi) (hd : oi.dst = some d) (hs : Region.noSelect ops = true) (hf : Region.free .any ops listed i = true) (hr : (Region.ready .any ops listed).contains i = true)
    (hQ : ∀ c a w, Q (.panic c) a w → False) (hw : Region.wanted oi (yielded ops a.tmps) = false) (hS : S w)
    (h : wpAnyH Tryd.prog .any ops Q S fuel (listed.setIfInBounds i true) (a.put (some d) undef) w) : wpAnyH Tryd.prog .any ops Q S (fuel + 1) listed a w :=
  wpAnyH_take hi hs hf hr (fun c a w h => (hQ c _ w h).elim) (.inr ⟨hw, rfl⟩) hS (by rw [hd]; exact h)
/-- Number i is a call, by its contract; nothing else may come up. -/
theorem tkCall (i d : Nat) (f : FuncId) (args : Array Value) (v : Value) (R : World → Prop) (hi : ops[i]? = some oi) (hd : oi.dst = some d) (hr : Region.ready .any ops listed = [i])
    (hw : Region.wanted oi (yielded ops a.tmps) = true) (hrun : ∀ w, (execOp a.eval oi).run Tryd.prog w = .ok (.enter f args) w) (hc : Calls Tryd.prog f args w fun e w' => e = .returned v ∧ R w')
    (h : ∀ w', R w' → S w' ∧ wpAnyH Tryd.prog .any ops Q S fuel (listed.setIfInBounds i true) (a.put (some d) v) w') : wpAnyH Tryd.prog .any ops Q S (fuel + 1) listed a w :=
  wpAnyH_all hr (by simp) (fun j hj => by
    obtain rfl : j = i := by simpa using hj
    exact op_call hi hw f args v R (hrun w) hc (fun w' hw' => by rw [hd]; exact h w' hw'))
theorem noPanic_false {Q : Exit → Act → World → Prop} : ∀ c a w, NoPanic Q (.panic c) a w → False := fun _ _ _ h => h
/-- Two bools that are one, compared. -/
theorem eql_same {o : Oper} {a : Act} (x y : Operand) (c : Bool) (hop : o.op = .binOp .eql 4 x y 4) (hx : a.eval x = .bool c) (hy : a.eval y = .bool c) (w : World) : (execOp a.eval o).run Tryd.prog w = .ok (.value (.bool true)) w := by
  unfold execOp
  simp only [hop, hx, hy]
  simp [go_sem]
end
end Go.Proofs.YtpnhklefoafgkaaDoor
