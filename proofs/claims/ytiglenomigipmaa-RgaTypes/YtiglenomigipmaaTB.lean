/-
  Cells (24): all cells in order, in new memory.
-/
import Derived.Test.YtiglenomigipmaaTA
namespace Go.Proofs.Ytiglenomigipmaa
open Go.RowKit Go.Shelf Go.Maps Go.WideMaps Go.WideAt Mp
attribute [local go_sem] Oper.semAt_some
theorem MapAt.size {W : World} {b : Nat} {st : List Stm} (h : MapAt W b st) (ty : TypeId) : (Builtin.len_ #[73] ty #[.map (some b)]).run Try.prog W = .ok (.int .i64 ((st.length - 1 : Nat) : Int)) W := by
  obtain ⟨l, h1, _, h3, _⟩ := h.ex
  have := h1.len (t := 73) (e := 3) Try.underlying73 ty
  rw [this]
  have e : Maps.size (.map (toE l) : DataW Value) = st.length - 1 := by
    show (toE l).length = _
    unfold toE
    rw [List.length_map]; omega
  rw [e]
section
variable {oi : Oper} {a : Act} {w : World}
theorem x_len73 {x : Operand} {b : Nat} {st : List Stm} (hop : oi.op = .call { callee := .builtin .len, args := #[x], argTypes := #[73] }) (hx : a.eval x = .map (some b)) (h : MapAt w b st) : (execOp a.eval oi).run Try.prog w = .ok (.value (.int .i64 ((st.length - 1 : Nat) : Int))) w := by
  unfold execOp
  simp only [hop, resolve, invoke, builtin, Sem.run_bind, Sem.run_pure, Result.andThen_ok, List.map_toArray, List.map_cons, List.map_nil, hx, h.size]
theorem made63 (W : World) (n : Nat) (hn : n ≤ 1000000) : ∃ cs : List Value, cs.length = n * 35 ∧ (Instr.makeSlice 54 (.int .i64 0) (.int .i64 (n : Int))).run Try.prog W = .ok (.slice (some ⟨W.heap.size, 0, none⟩) 0 n) (W.alloc (.cells cs.toArray 63)) := by
  obtain ⟨i, z, hi, hz, hsz, hby, hzc⟩ := info63
  have := run_make (P := Try.prog) W 54 63 i z Try.underlying54 hi hz .i64 .i64 0 (n : Int) (by omega) (by omega) (by rw [hby]; omega) (by omega)
  refine ⟨(madeCells z.cells (n * 35)).toList, by simp [madeCells], ?_⟩
  rw [hsz] at this
  simpa using this
theorem x_mk54 {y : Operand} {n : Nat} {cs : List Value} (hop : oi.op = .makeSlice 54 (.const (.int .i64 0)) y) (hy : a.eval y = .int .i64 (n : Int)) (hm : (Instr.makeSlice 54 (.int .i64 0) (.int .i64 (n : Int))).run Try.prog w = .ok (.slice (some ⟨w.heap.size, 0, none⟩) 0 n) (w.alloc (.cells cs.toArray 63))) : (execOp a.eval oi).run Try.prog w = .ok (.value (.slice (some ⟨w.heap.size, 0, none⟩) 0 n)) (w.alloc (.cells cs.toArray 63)) := by
  have hk : a.eval (.const (.int .i64 0)) = .int .i64 0 := rfl
  unfold execOp
  simp only [hop, hy, hk, Sem.run_bind, hm, Result.andThen_ok]
  rfl
end
theorem own_made {W : World} {cs : List Value} {n B : Nat} (hl : cs.length = n * 35) (hn : n ≤ 1000000) (hB : B ≤ W.heap.size) : OwnL (W.alloc (.cells cs.toArray 63)) B 63 35 (.slice (some ⟨W.heap.size, 0, none⟩) 0 n) [] :=
  ⟨fun _ h => by simp at h, row_own hB (RowIs.new W 63 cs) (Nat.zero_le _) (by unfold maxLen; omega) hl (by simp)⟩
set_option maxRecDepth 100000 in
set_option maxHeartbeats 3200000 in
theorem Cells_any {w : World} {base g : Nat} {st : List Stm} {D : RwD} (h : RowAt w base g st D) (hw : Wf st) (hsm : st.length ≤ 100000) :
    Calls Try.prog 24 #[.pointer (some ⟨g, 0, none⟩)] w fun e w' => ∃ v U, e = .returned v ∧ Reach st U [] ∧ OwnL w' w.heap.size 63 35 v (U.map (cOf st)) ∧ After w w' := by
  have HB : Hid (RowIs w g 75 [D.sv, .map (some D.gm)]) := h.box
  have HM : Hid (MapAt w D.gm st) := h.mp
  have HR : Hid (RowAt w base g st D) := h
  obtain ⟨n, hn⟩ : ∃ n, st.length - 1 = n := ⟨_, rfl⟩
  have HN : Hid (st.length - 1 = n) := hn
  have HL : Hid (n ≤ 1000000 ∧ st.length ≤ 1000000) := ⟨by omega, by omega⟩
  have HRF : Hid ((∀ V T, Reach st V T → V.length + T.length ≤ st.length) ∧ (∀ V T, Reach st V T → ∀ t ∈ T, t < st.length)) := ⟨fun V T h => hw.few h, fun V T h => hw.in h⟩
  clear h hw hsm hn
  go_enter Try.func24, Try.ntmps24
  go_wp2_with fail
  refine wp_region_noPanic ?_
  refine wp_region_held_drew (S := After w) (by kernel_rfl) (After.drew (After.refl _)) ?_
  intro hS0
  refine tk 0 5 (.pointer (some ⟨g, 0, none⟩)) (fuel := 9) rfl (by kernel_rfl) (by kernel_rfl) (by kernel_rfl) (by kernel_rfl) noPanic_false (by kernel_rfl) (fun _ _ => by kernel_rfl) hS0 ?_
  refine tk 1 6 (.pointer (some ⟨g, 0, none⟩)) (fuel := 8) rfl (by kernel_rfl) (by kernel_rfl) (by kernel_rfl) (by kernel_rfl) noPanic_false (by kernel_rfl) (fun _ _ => by kernel_rfl) hS0 ?_
  refine tk 2 7 (.pointer (some ⟨g, 1, none⟩)) (fuel := 7) rfl (by kernel_rfl) (by kernel_rfl) (by kernel_rfl) (by kernel_rfl) noPanic_false (by kernel_rfl) (fun _ _ => by kernel_rfl) hS0 ?_
  refine tk 3 8 (.map (some D.gm)) (fuel := 6) rfl (by kernel_rfl) (by kernel_rfl) (by kernel_rfl) (by kernel_rfl) noPanic_false (by kernel_rfl) (fun W hW => x_loadT (x := .tmp 7) (t := 73) (g := g) (j := 1) Try.underlying73 rfl (by kernel_rfl) (by kernel_rfl) ((HB.out.below hW HB.out.lt).cell (j := 1) rfl)) hS0 ?_
  refine tk 4 9 (.int .i64 (n : Int)) (fuel := 5) rfl (by kernel_rfl) (by kernel_rfl) (by kernel_rfl) (by kernel_rfl) noPanic_false (by kernel_rfl) (fun W hW => (x_len73 (x := .tmp 8) (by kernel_rfl) (by kernel_rfl) (HM.out.same (hW.block _ HM.out.lt))).trans (by rw [HN.out])) hS0 ?_
  refine tk 6 11 (.pointer (some ⟨g, 0, none⟩)) (fuel := 4) rfl (by kernel_rfl) (by kernel_rfl) (by kernel_rfl) (by kernel_rfl) noPanic_false (by kernel_rfl) (fun _ _ => by kernel_rfl) hS0 ?_
  refine wpAnyH_all (rs := [5, 7]) (by kernel_rfl) (by simp) (fun ii hi => ?_)
  have hi2 : ii = 5 ∨ ii = 7 := by simpa using hi
  clear hi
  rcases hi2 with rfl | rfl
  · obtain ⟨cs, hcl, hmk⟩ := made63 w.drew n HL.out.1
    have ha1 : After w (w.drew.alloc (.cells cs.toArray 63)) := after_alloc hS0 _
    have ho1 := own_made (W := w.drew) (B := w.heap.size) hcl HL.out.1 hS0.size
    refine opVal 5 10 (.slice (some ⟨w.drew.heap.size, 0, none⟩) 0 n) (w.drew.alloc (.cells cs.toArray 63)) rfl (by kernel_rfl) (by kernel_rfl) (x_mk54 (y := .tmp 9) (by kernel_rfl) (by kernel_rfl) hmk) ⟨ha1, ?_⟩
    generalize w.drew.alloc (.cells cs.toArray 63) = W1 at ha1 ho1 ⊢
    refine tkCallZ 7 12 44 #[.pointer (some ⟨g, 0, none⟩)] (fun v w' => v = .func (.func 51) #[] #[.pointer (some ⟨W1.heap.size, 0, none⟩)] ∧ RowIs w' W1.heap.size 25 [.pointer (some ⟨g, 0, none⟩)] ∧ After W1 w') (fuel := 2) rfl (by kernel_rfl) (by kernel_rfl) (by kernel_rfl) (fun _ => by kernel_rfl) (Calls.mono (inOrder_any (some ⟨g, 0, none⟩) W1) (fun e w' ⟨he, h1, h2⟩ => ⟨_, he, rfl, h1, h2⟩)) ?_
    intro v2 w2 ⟨hv2, hr2, ha2⟩
    subst hv2
    refine ⟨ha1.trans ha2, ?_⟩
    have ho2 := ho1.same (w' := w2) (fun b hb => ha2.block b (own_lt ho1.2 hb).2.1)
    generalize W1.heap.size = gr at hr2 ⊢
    have ha3 := ha1.trans ha2
    refine tkCallZ 8 13 43 #[.slice (some ⟨w.drew.heap.size, 0, none⟩) 0 n, .func (.func 51) #[] #[.pointer (some ⟨gr, 0, none⟩)]] (fun v w' => ∃ U, Reach st U [] ∧ OwnL w' w.heap.size 63 35 v (U.map (cOf st)) ∧ KeptF (fun b => (Value.slice (some ⟨w.drew.heap.size, 0, none⟩) 0 n).ownBlock = some b) w2 w') (fuel := 1) rfl (by kernel_rfl) (by kernel_rfl) (by kernel_rfl) (fun _ => by kernel_rfl) (Calls.mono (AppSeq_any (N := st.length) (HR.out.after ha3) hr2 ho2 ha3.size HRF.out.1 HRF.out.2 HL.out.2) (fun e w' ⟨v, U, he, h1, h2, h3⟩ => ⟨_, he, U, h1, h2, h3⟩)) ?_
    intro v3 w3 ⟨U, hU, ho3, hk3⟩
    have ha4 : After w w3 := Below.trans ha3 (hk3.below ha3.size (fun x hx => (own_lt ho2.2 hx).1))
    refine ⟨ha4, ?_⟩
    refine tk 9 2 v3 (fuel := 0) rfl (by kernel_rfl) (by kernel_rfl) (by kernel_rfl) (by kernel_rfl) noPanic_false (by kernel_rfl) (fun _ _ => by kernel_rfl) ha4 ?_
    refine wpAnyH_done (by kernel_rfl) (NoPanic.normal ?_) _
    have HF := show Hid (Reach st U [] ∧ OwnL w3 w.heap.size 63 35 v3 (U.map (cOf st)) ∧ After w w3) from ⟨hU, ho3, ha4⟩
    clear hU ho3 ha4 hk3 ha3 ho2 hr2 ha2 hS0
    go_simp
    go_wp2_with fail
    go_ret
    exact ⟨_, U, rfl, HF.out.1, HF.out.2.1, HF.out.2.2⟩
  · refine opCallK 7 12 44 #[.pointer (some ⟨g, 0, none⟩)] (fun v w' => v = .func (.func 51) #[] #[.pointer (some ⟨w.drew.heap.size, 0, none⟩)] ∧ RowIs w' w.drew.heap.size 25 [.pointer (some ⟨g, 0, none⟩)] ∧ After w.drew w') rfl (by kernel_rfl) (by kernel_rfl) (fun _ => by kernel_rfl) (Calls.mono (inOrder_any (some ⟨g, 0, none⟩) w.drew) (fun e w' ⟨he, h1, h2⟩ => ⟨_, he, rfl, h1, h2⟩)) ?_
    intro v1 w1 ⟨hv1, hr1, ha1⟩
    subst hv1
    refine ⟨hS0.trans ha1, ?_⟩
    obtain ⟨cs, hcl, hmk⟩ := made63 w1 n HL.out.1
    have ha2' : After w1 (w1.alloc (.cells cs.toArray 63)) := after_alloc (After.refl w1) _
    have ho2 := own_made (W := w1) (B := w.heap.size) hcl HL.out.1 (hS0.trans ha1).size
    refine tkRunS 5 10 (.slice (some ⟨w1.heap.size, 0, none⟩) 0 n) (w1.alloc (.cells cs.toArray 63)) (fuel := 2) rfl (by kernel_rfl) (by kernel_rfl) (by kernel_rfl) (x_mk54 (y := .tmp 9) (by kernel_rfl) (by kernel_rfl) hmk) ((hS0.trans ha1).trans ha2') ?_
    have hr2 := hr1.below ha2' hr1.lt
    have ha1 := hS0.trans ha1
    have ha2 := ha2'
    clear ha2' hr1 hmk
    generalize w1.alloc (.cells cs.toArray 63) = w2 at hr2 ho2 ha2 ⊢
    generalize w.drew.heap.size = gr at hr2 ⊢
    have ha3 := ha1.trans ha2
    refine tkCallZ 8 13 43 #[.slice (some ⟨w1.heap.size, 0, none⟩) 0 n, .func (.func 51) #[] #[.pointer (some ⟨gr, 0, none⟩)]] (fun v w' => ∃ U, Reach st U [] ∧ OwnL w' w.heap.size 63 35 v (U.map (cOf st)) ∧ KeptF (fun b => (Value.slice (some ⟨w1.heap.size, 0, none⟩) 0 n).ownBlock = some b) w2 w') (fuel := 1) rfl (by kernel_rfl) (by kernel_rfl) (by kernel_rfl) (fun _ => by kernel_rfl) (Calls.mono (AppSeq_any (N := st.length) (HR.out.after ha3) hr2 ho2 ha3.size HRF.out.1 HRF.out.2 HL.out.2) (fun e w' ⟨v, U, he, h1, h2, h3⟩ => ⟨_, he, U, h1, h2, h3⟩)) ?_
    intro v3 w3 ⟨U, hU, ho3, hk3⟩
    have ha4 : After w w3 := Below.trans ha3 (hk3.below ha3.size (fun x hx => (own_lt ho2.2 hx).1))
    refine ⟨ha4, ?_⟩
    refine tk 9 2 v3 (fuel := 0) rfl (by kernel_rfl) (by kernel_rfl) (by kernel_rfl) (by kernel_rfl) noPanic_false (by kernel_rfl) (fun _ _ => by kernel_rfl) ha4 ?_
    refine wpAnyH_done (by kernel_rfl) (NoPanic.normal ?_) _
    have HF := show Hid (Reach st U [] ∧ OwnL w3 w.heap.size 63 35 v3 (U.map (cOf st)) ∧ After w w3) from ⟨hU, ho3, ha4⟩
    clear hU ho3 ha4 hk3 ha3 ho2 hr2 ha2 hS0
    go_simp
    go_wp2_with fail
    go_ret
    exact ⟨_, U, rfl, HF.out.1, HF.out.2.1, HF.out.2.2⟩
end Go.Proofs.Ytiglenomigipmaa
