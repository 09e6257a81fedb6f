/-
  HELPERS for regions that draw; ids, and which is the lesser one (19, 20).
-/
import Derived.Test.YtcmcapcagblafaaLess
import Derived.Deep.RegionHeld3
import Derived.Deep.Upon
namespace Go.Proofs.Ytcmcapcagblafaa
open Go.RowKit
section
variable {ops : Array Oper} {Q : Exit → Act → World → Prop} {S : World → Prop} {K : Act → World → Prop} {fuel : Nat} {listed : Array Bool} {a : Act} {w : World} {oi : Oper}
theorem tkRunS (i d : Nat) (v : Value) (w' : World) (hi : ops[i]? = some oi) (hd : oi.dst = some d) (hr : Region.ready .any ops listed = [i]) (hw : Region.wanted oi (yielded ops a.tmps) = true) (hrun : (execOp a.eval oi).run Try.prog w = .ok (.value v) w') (hS : S w')
    (h : wpAnyH Try.prog .any ops Q S fuel (listed.setIfInBounds i true) (a.put (some d) v) w') : wpAnyH Try.prog .any ops Q S (fuel + 1) listed a w :=
  wpAnyH_all hr (by simp) (fun j hj => by
    obtain rfl : j = i := by simpa using hj
    refine wpOp_step hi (fun K' hK => ?_)
    rw [if_pos hw]
    unfold Oper.wp
    rw [hrun, Oper.upon_value, hd]
    exact hK _ _ ⟨hS, h⟩)
theorem tkCallZ (i d : Nat) (f : FuncId) (args : Array Value) (R : Value → World → Prop) (hi : ops[i]? = some oi) (hd : oi.dst = some d) (hr : Region.ready .any ops listed = [i]) (hw : Region.wanted oi (yielded ops a.tmps) = true) (hrun : ∀ w, (execOp a.eval oi).run Try.prog w = .ok (.enter f args) w)
    (hc : Calls Try.prog f args w fun e w' => ∃ v, e = .returned v ∧ R v w')
    (h : ∀ v w', R v w' → S w' ∧ wpAnyH Try.prog .any ops Q S fuel (listed.setIfInBounds i true) (a.put (some d) v) w') : wpAnyH Try.prog .any ops Q S (fuel + 1) listed a w :=
  wpAnyH_all hr (by simp) (fun j hj => by
    obtain rfl : j = i := by simpa using hj
    refine wpOp_step hi (fun K' hK => ?_)
    rw [if_pos hw]
    unfold Oper.wp
    rw [hrun, Oper.upon_enter]
    refine hc.mono (fun e w' ⟨v, he, hr⟩ => ?_)
    subst he
    rw [hd]
    exact hK _ _ (h v w' hr))
theorem tkStoreS (i : Nat) (w' : World) (hi : ops[i]? = some oi) (hd : oi.dst = none) (hr : Region.ready .any ops listed = [i]) (hw : Region.wanted oi (yielded ops a.tmps) = true) (hrun : (execOp a.eval oi).run Try.prog w = .ok .skip w') (hS : S w')
    (h : wpAnyH Try.prog .any ops Q S fuel (listed.setIfInBounds i true) (a.put none undef) w') : wpAnyH Try.prog .any ops Q S (fuel + 1) listed a w :=
  wpAnyH_all hr (by simp) (fun j hj => by
    obtain rfl : j = i := by simpa using hj
    refine wpOp_step hi (fun K' hK => ?_)
    rw [if_pos hw]
    unfold Oper.wp
    rw [hrun, Oper.upon_skip, hd]
    exact hK _ _ ⟨hS, h⟩)
theorem tkStoreM (i : Nat) (ty : TypeId) (x y : Operand) (b o : Nat) (cells : Array Value) (hi : ops[i]? = some oi) (hd : oi.dst = none) (hop : oi.op = .store ty x y) (hr : Region.ready .any ops listed = [i]) (hw : Region.wanted oi (yielded ops a.tmps) = true)
    (hx : a.eval x = .pointer (some ⟨b, o, none⟩)) (hy : a.eval y = .agg cells) (ht : w.there b o cells.size) (hsz : (Try.prog.info? ty).map (·.size) = some cells.size) (h1 : cells.all (·.oneCell') = true)
    (hS : S (w.setCells b o cells.toList)) (h : wpAnyH Try.prog .any ops Q S fuel (listed.setIfInBounds i true) (a.put none undef) (w.setCells b o cells.toList)) : wpAnyH Try.prog .any ops Q S (fuel + 1) listed a w :=
  wpAnyH_all hr (by simp) (fun j hj => by
    obtain rfl : j = i := by simpa using hj
    refine wpOp_step hi (fun K' hK => ?_)
    rw [if_pos hw]
    refine wp_store_mid ty x y hop b o cells hx hy ht hsz h1 ?_
    have hh := hK (a.put none undef) _ ⟨hS, h⟩
    rw [← hd] at hh
    exact hh)
theorem opCallK (i d : Nat) (f : FuncId) (args : Array Value) (R : Value → World → Prop) (hi : ops[i]? = some oi) (hd : oi.dst = some d) (hw : Region.wanted oi (yielded ops a.tmps) = true) (hrun : ∀ w, (execOp a.eval oi).run Try.prog w = .ok (.enter f args) w)
    (hc : Calls Try.prog f args w fun e w' => ∃ v, e = .returned v ∧ R v w') (h : ∀ v w', R v w' → K (a.put (some d) v) w') : wpOp Try.prog ops Q i K a w := by
  refine wpOp_step hi (fun K' hK => ?_)
  rw [if_pos hw]
  unfold Oper.wp
  rw [hrun, Oper.upon_enter]
  refine hc.mono (fun e w' ⟨v, he, hr⟩ => ?_)
  subst he
  rw [hd]
  exact hK _ _ (h v w' hr)
theorem opVal (i d : Nat) (v : Value) (w' : World) (hi : ops[i]? = some oi) (hd : oi.dst = some d) (hw : Region.wanted oi (yielded ops a.tmps) = true)
    (hrun : (execOp a.eval oi).run Try.prog w = .ok (.value v) w') (h : K (a.put (some d) v) w') : wpOp Try.prog ops Q i K a w := by
  refine wpOp_step hi (fun K' hK => ?_)
  rw [if_pos hw]
  unfold Oper.wp
  rw [hrun]
  rw [← hd] at h
  exact hK _ _ h
end
theorem wpList_of_run {w w' : World} {ops : Array Oper} {rest : List Oper} {o : Oper} {a : Act} {Q : Exit → Act → World → Prop} {v : Value} (hg : o.guard = none) (hr : (execOp a.eval o).run Try.prog w = .ok (.value v) w') (h : wpList Try.prog ops Q rest (a.put o.dst v) w') : wpList Try.prog ops Q (o :: rest) a w :=
  wpList_plain hg fun K hK => by unfold Oper.wp; rw [hr]; exact hK _ _ h
section
variable {ops : Array Oper} {rest : List Oper} {Q : Exit → Act → World → Prop} {a : Act} {w : World} {o : Oper}
theorem wpListG_of_run {w' : World} {v : Value} (hw : Region.wanted o (yielded ops a.tmps) = true) (hr : (execOp a.eval o).run Try.prog w = .ok (.value v) w') (h : wpList Try.prog ops Q rest (a.put o.dst v) w') : wpList Try.prog ops Q (o :: rest) a w :=
  wpList_step fun K hK => by rw [if_pos hw]; unfold Oper.wp; rw [hr]; exact hK _ _ h
end
theorem x_loadT {o : Oper} {a : Act} {x : Operand} {t : TypeId} {ds : TypeDesc} {g j : Nat} {v : Value} {w : World} (hu : Try.prog.underlying t = some ds) (hd : ds.isRow = false) (hop : o.op = .load t x) (hx : a.eval x = .pointer (some ⟨g, j, none⟩)) (h : w.cell? ⟨g, j, none⟩ = some v) : (execOp a.eval o).run Try.prog w = .ok (.value v) w := by
  have hag : (isAgg t).run Try.prog w = .ok false w := by
    unfold isAgg; rw [Sem.run_bind, run_underlying hu w]
    cases ds <;> first | rfl | simp [TypeDesc.isRow] at hd
  unfold execOp
  simp only [hop, hx, Instr.loadAt, Instr.sureAddr, Sem.run_bind, Sem.run_pure, Result.andThen_ok, loadVar, hag]
  simp [h, go_sem]
theorem range_after {w w' : World} {b o : Nat} {cs : List Value} (h : w.rangeAt b o cs) (ha : After w w') : w'.rangeAt b o cs := fun j v hv => (Below.cell ha (p := ⟨b, o + j, none⟩) (World.block_lt_of_cell? w _ (h j v hv))).trans (h j v hv)
abbrev H := List UInt8
/-- An id: its number and its hash. -/
structure Idn where
  c : Int
  b : H
  deriving DecidableEq
structure Idn.Ok (x : Idn) : Prop where
  lo : -9223372036854775808 ≤ x.c
  hi : x.c ≤ 9223372036854775807
  len : x.b.length = 32
def idc (x : Idn) : List Value := .int .i64 x.c :: c8 x.b
def idv (x : Idn) : Value := .agg (idc x).toArray
theorem idc_len {x : Idn} (h : x.Ok) : (idc x).length = 33 := by simp [idc, c8_len, h.len]
theorem idc_one (x : Idn) : ∀ u ∈ idc x, u.oneCell' = true := fun u hu => by
  rcases List.mem_cons.1 hu with h | h
  · subst h; rfl
  · exact c8_one _ u h
/-- Which of two ids is the lesser one. -/
def ltI (x y : Idn) : Bool := if x.c ≠ y.c then decide (x.c < y.c) else ltB x.b y.b
theorem size35 {h : H} (hh : h.length = 32) : (Try.prog.info? 43).map (·.size) = some (c8 h).length := by rw [size24]; simp [c8_len, hh]
/-- The hash within an id's box. -/
theorem id_hash {w : World} {g : Nat} {t : TypeId} {x : Idn} (h : RowIs w g t (idc x)) : w.rangeAt g 1 (c8 x.b) := fun j v hv => by
  have := h.cell (j := 1 + j) (v := v) (by rw [idc, Nat.add_comm 1 j, List.getElem?_cons_succ]; exact hv)
  exact this

theorem x_ld35 {o : Oper} {a : Act} {x : Operand} {w : World} {g p : Nat} {h : H} (h32 : h.length = 32) (hop : o.op = .load 43 x) (hx : a.eval x = .pointer (some ⟨g, p, none⟩)) (hc : w.rangeAt g p (c8 h)) : (execOp a.eval o).run Try.prog w = .ok (.value (.agg (c8 h).toArray)) w := by
  unfold execOp
  simp only [hop, hx, Instr.loadAt, Instr.sureAddr, Sem.run_bind, Sem.run_pure, Result.andThen_ok, run_loadVar_mid w g p 43 (c8 h) _ hc Try.underlying43 rfl (size35 h32)]
theorem two_boxes (a b : Idn) (t : TypeId) (w W0 : World) (hW : (w.alloc (.cells (idc a).toArray t)).alloc (.cells (idc b).toArray t) = W0) : RowIs W0 w.heap.size t (idc a) ∧ RowIs W0 (w.heap.size + 1) t (idc b) ∧ After w W0 := by
  refine ⟨?_, ?_, ?_⟩
  · rw [← hW]; exact (RowIs.new w t (idc a)).alloc _
  · rw [← hW]; have := RowIs.new (w.alloc (.cells (idc a).toArray t)) t (idc b); rwa [World.size_alloc] at this
  · rw [← hW]; exact after_alloc (after_alloc (After.refl w) _) _

end Go.Proofs.Ytcmcapcagblafaa