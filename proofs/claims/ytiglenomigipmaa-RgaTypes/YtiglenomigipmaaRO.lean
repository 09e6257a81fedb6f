/-
  slices.Clone of a row of places (40); a row of places that is cut and grows.
-/
import Derived.Test.YtiglenomigipmaaRK
namespace Go.Proofs.Ytiglenomigipmaa
open Go.RowKit Go.Maps Go.WideMaps Go.WideAt Mp
theorem info3 : (Try.prog.info? 3).map (fun i => (i.zero, i.size, i.bytes)) = some (some (.int .i64 0), 1, 8) := by kernel_rfl
/-- A row of places with others behind it. -/
theorem run_appN {w : World} {base : Nat} {v : Value} {l : List Nat} (ty : TypeId) (h : OwnI w base v l) {ad : Addr} {k c : Nat} {news : List Nat} (hk : news.length = k) (hn : ∀ j u, (ci news)[j]? = some u → w.cell? (ad.add j) = some u) (hlen : l.length + k ≤ 1000000000) (hb : base ≤ w.heap.size) :
    ∃ v' w', (Builtin.append_ #[86, 86] ty #[v, .slice (some ad) k c]).run Try.prog w = .ok v' w' ∧ OwnI w' base v' (l ++ news) ∧ w.grownBy w' v.ownBlock ∧ (v'.ownBlock = v.ownBlock ∨ v'.ownBlock = some w.heap.size) := by
  obtain ⟨i, hi, hz⟩ := Option.map_eq_some_iff.1 info3
  simp only [Prod.mk.injEq] at hz
  obtain ⟨hz, hsz, hby⟩ := hz
  subst hk
  obtain ⟨v', w', h1, h2, h3, _, h5⟩ := run_append_own_at (P := Try.prog) w base 86 ty 3 i (.int .i64 0) 1 8 Try.underlying86 hi hz hsz hby rfl (by omega) v l.length (ci l) h ad news.length c (ci news) (by rw [ci_len, Nat.mul_one]) hn (ci_one news) (by unfold maxLen; omega) (by omega) hb
  exact ⟨v', w', h1, by unfold OwnI; rw [List.length_append, show ci (l ++ news) = ci l ++ ci news by simp [ci]]; exact h2, h3, h5⟩
theorem run_appN0 {w : World} {base : Nat} {v : Value} {l : List Nat} (ty : TypeId) (h : OwnI w base v l) : (Builtin.append_ #[86, 86] ty #[v, .slice none 0 0]).run Try.prog w = .ok v w := by
  obtain ⟨i, hi, hz⟩ := Option.map_eq_some_iff.1 info3
  obtain ⟨ao', cap', hv, hle⟩ : ∃ ao' cap', v = .slice ao' l.length cap' ∧ l.length ≤ cap' := by
    rcases own_row h with ⟨hv, h0, _⟩ | ⟨g, cap, cs, hv, _, _, hnc, _⟩
    · exact ⟨none, 0, by rw [hv, h0], by omega⟩
    · exact ⟨_, cap, hv, hnc⟩
  have hr := run_append_nothing (P := Try.prog) w 86 86 ty 3 i Try.underlying86 hi ao' l.length cap' hle (.slice none 0 0) (Src.ofNil w Try.underlying86 0)
  rw [hv]; exact hr
theorem x_app86 {oi : Oper} {a : Act} {w : World} {s x : Operand} {v u v' : Value} {w' : World} (hop : oi.op = .call { callee := .builtin .append, args := #[s, x], argTypes := #[86, 86] }) (hs : a.eval s = v) (hx : a.eval x = u) (hr : (Builtin.append_ #[86, 86] oi.type #[v, u]).run Try.prog w = .ok v' w') : (execOp a.eval oi).run Try.prog w = .ok (.value v') w' := by
  unfold execOp
  simp only [hop, resolve, invoke, builtin, Sem.run_bind, Sem.run_pure, Result.andThen_ok, List.map_toArray, List.map_cons, List.map_nil, hs, hx, hr]
theorem x_bs86e {oi : Oper} {a : Act} {w : World} (hop : oi.op = .buildSlice 86 0 #[]) : (execOp a.eval oi).run Try.prog w = .ok (.value (.slice (some ⟨w.heap.size, 0, none⟩) 0 0)) (w.alloc (.cells #[] 3)) := by
  have hb : (Instr.buildSlice 86 0 #[]).run Try.prog w = .ok (.slice (some ⟨w.heap.size, 0, none⟩) 0 0) (w.alloc (.cells #[] 3)) := by kernel_rfl
  unfold execOp
  simp [hop, hb]
theorem OwnI.fresh (w : World) : OwnI (w.alloc (.cells #[] 3)) w.heap.size (.slice (some ⟨w.heap.size, 0, none⟩) 0 0) [] :=
  row_own (cs := []) (Nat.le_refl _) (RowIs.new w 3 []) (Nat.le_refl _) (by decide) rfl rfl
theorem OwnI.mono {w : World} {base base' : Nat} {v : Value} {l : List Nat} (h : OwnI w base v l) (hb : base' ≤ base) : OwnI w base' v l := own_mono h hb
theorem OwnI.after {w w' : World} {base : Nat} {v : Value} {l : List Nat} (h : OwnI w base v l) (ha : After w w') : OwnI w' base v l := h.same (fun b hb => ha.block b (own_lt h hb).2.1)
/-- The first ones of a row of places. -/
theorem OwnI.take {w : World} {base g n cap : Nat} {l : List Nat} (h : OwnI w base (.slice (some ⟨g, 0, none⟩) n cap) l) {k : Nat} (hk : k ≤ l.length) : OwnI w base (.slice (some ⟨g, 0, none⟩) k cap) (l.take k) := by
  rcases own_row h with ⟨hv, _, _⟩ | ⟨g', cap', cs, hv, hb, hr, hnc, hcm, hcl, ht⟩
  · cases hv
  · cases hv
    have := row_own (n := k) (size := 1) (xs := ci (l.take k)) hb hr (by omega) hcm hcl (by
      rw [Nat.mul_one] at ht ⊢
      have h1 : (cs.take l.length).take k = cs.take k := by rw [List.take_take, Nat.min_eq_left hk]
      rw [← h1, ht]; simp [ci, List.map_take])
    unfold OwnI
    rw [List.length_take, Nat.min_eq_left hk]
    exact this
set_option maxRecDepth 100000 in
set_option maxHeartbeats 1600000 in
theorem clone_any {w : World} {base : Nat} {v : Value} {l : List Nat} (h : OwnI w base v l) (hlen : l.length ≤ 1000000) : Calls Try.prog 40 #[v] w fun e w' => ∃ v', e = .returned v' ∧ OwnI w' w.heap.size v' l ∧ After w w' := by
  rcases own_row h with ⟨rfl, h0, _⟩ | ⟨g, cap, cs, rfl, hb, hr, hnc, hcm, hcl, ht⟩
  · obtain rfl : l = [] := List.eq_nil_of_length_eq_zero h0
    have hnil : ∀ w, Sem.run Try.prog (binOp .eql 86 (.slice none 0 0) (.slice none 0 0)) w = .ok (.bool true) w := fun w => by kernel_rfl
    go_enter Try.func40, Try.ntmps40
    go_wp2_with fail
    go_ret
    exact ⟨_, rfl, OwnI.nil _ _, After.refl w⟩
  · have ha1 : After w (w.alloc (.cells #[] 3)) := after_alloc (After.refl w) _
    obtain ⟨v', w', h1, h2, h3, _⟩ := run_appN (w := w.alloc (.cells #[] 3)) (base := w.heap.size) (c := cap) 86 (OwnI.fresh w) (ad := ⟨g, 0, none⟩) (news := l) rfl (fun j u hu => by
      rw [Addr.add_lit]
      have hj := (List.getElem?_eq_some_iff.1 hu).1
      rw [← ht, List.getElem?_take] at hu
      split at hu
      · exact (hr.alloc _).cellsAt j u hu
      · cases hu) (by simp; omega) (by simp)
    have HE : Hid ((Builtin.append_ #[86, 86] 86 #[.slice (some ⟨w.heap.size, 0, none⟩) 0 0, .slice (some ⟨g, 0, none⟩) l.length cap]).run Try.prog (w.alloc (.cells #[] 3)) = .ok v' w') := h1
    have HF : Hid (OwnI w' w.heap.size v' l ∧ After w w') := ⟨by simpa using h2, after_grown ha1 h3 (Nat.le_refl _) (fun k hk => by cases hk; exact Nat.le_refl _)⟩
    clear h1 h2 h3 ha1 hr ht hcl h
    have hnil : ∀ w, Sem.run Try.prog (binOp .eql 86 (.slice (some ⟨g, 0, none⟩) l.length cap) (.slice none 0 0)) w = .ok (.bool false) w := fun w => by kernel_rfl
    go_enter Try.func40, Try.ntmps40
    go_wp2_with (first
      | (refine wpList_of_run rfl (x_bs86e rfl) ?_)
      | (refine wpList_of_run rfl (x_app86 (s := .tmp 5) (x := .tmp 6) rfl rfl rfl HE.out) ?_))
    go_ret
    exact ⟨_, rfl, HF.out⟩
end Go.Proofs.Ytiglenomigipmaa
