/-
  Len (26): how many are not gone; At (15): which one stands at a place.
-/
import Derived.Test.YtiglenomigipmaaRZ
import Derived.Test.YtiglenomigipmaaRX
namespace Go.Proofs.Ytiglenomigipmaa
open Go.RowKit Go.Shelf
attribute [local go_sem] Oper.semAt_some
section
variable {oi : Oper} {a : Act} {w : World}
theorem x_add1 {x : Operand} {k : Nat} (hk : k ≤ 1000000) (hop : oi.op = .binOp .add 3 x (.const (.int .i64 1)) 3) (hx : a.eval x = pv k) : (execOp a.eval oi).run Try.prog w = .ok (.value (pv (k + 1))) w := by
  have hy : a.eval (.const (.int .i64 1)) = .int .i64 1 := rfl
  have hw : IntKind.i64.wrap ((k : Int) + 1) = (k : Int) + 1 := by rw [IntKind.wrap_i64]; omega
  unfold execOp
  simp only [hop, hx, hy, pv]
  simp [go_sem, hw]
theorem x_st3 {x y : Operand} {g p : Nat} {z : Int} {u : Value} (hop : oi.op = .store 3 x y) (hx : a.eval x = .pointer (some ⟨g, p, none⟩)) (hy : a.eval y = .int .i64 z) (hc : w.cell? ⟨g, p, none⟩ = some u) (hf : w.frozen? ⟨g, p, none⟩ = false) : (execOp a.eval oi).run Try.prog w = .ok .skip (w.setCell ⟨g, p, none⟩ (.int .i64 z)) := by
  unfold execOp
  simp only [hop, hx, hy]
  simp [go_sem, hc, hf, Instr.storeAt, Instr.sureAddr]
end
/-- The count so far, in its box; the loop's record. -/
def NJ (T0 gt l1 D1 : Nat) (r : Loop) (V : List Nat) (F : Nat → Prop) (X : World) : Prop :=
  RowIs X gt 3 [pv V.length] ∧ (∀ b, F b ↔ b = gt ∨ b = l1) ∧ X.heap[l1]? = some (.loop r) ∧ X.heap[D1]? = some (.deferred (some [])) ∧ T0 ≤ X.heap.size
theorem NJ.ok {T0 gt l1 D1 : Nat} {r : Loop} (h1 : gt < T0) (h2 : l1 < T0) (h3 : D1 < T0) : Jok T0 (NJ T0 gt l1 D1 r) := by
  refine ⟨fun V F A B ⟨hr, hf, hl, hd, hs⟩ hk => ?_, fun V F A ⟨hr, hf, hl, hd, hs⟩ b hb => ?_⟩
  · refine ⟨hk.row hr (fun h => by omega), hf, ?_, ?_, Nat.le_trans hs hk.size⟩
    · rw [hk.block l1 (Array.getElem?_eq_some_iff.1 hl).1 (fun h => by omega)]; exact hl
    · rw [hk.block D1 (Array.getElem?_eq_some_iff.1 hd).1 (fun h => by omega)]; exact hd
  · rcases (hf b).1 hb with e | e
    · rw [e]; exact hr.lt
    · rw [e]; exact (Array.getElem?_eq_some_iff.1 hl).1
set_option maxRecDepth 100000 in
set_option maxHeartbeats 6400000 in
theorem Len_any {w : World} {base g : Nat} {st : List Stm} {D : RwD} (h : RowAt w base g st D) (hw : Wf st) (hsm : st.length ≤ 100000) :
    Calls Try.prog 26 #[.pointer (some ⟨g, 0, none⟩)] w fun e w' => ∃ U, Reach st U [] ∧ e = .returned (pv (U.filter (live st)).length) ∧ After w w' := by
  refine (callsIn_wide (n := 7)).1 ?_
  obtain ⟨W0, hW0⟩ : ∃ W0, (w.alloc (.cells #[.int .i64 0] 3)).setCell ⟨w.heap.size, 0, none⟩ (.int .i64 0) = W0 := ⟨_, rfl⟩
  have HA0 : Hid (After w W0 ∧ True) := ⟨by rw [← hW0]; exact Below.setCell (after_alloc (After.refl w) _) (p := ⟨w.heap.size, 0, none⟩) (Nat.le_refl _) _, trivial⟩
  have HB : Hid (RowIs W0 w.heap.size 3 [pv 0]) := by rw [← hW0]; exact (RowIs.new w 3 [.int .i64 0]).set 0 _
  have HR : Hid (RowAt w base g st D) := h
  have HRN : Hid ((∀ V T, Reach st V T → V.length + T.length ≤ st.length) ∧ (∀ V T, Reach st V T → ∀ t ∈ T, t < st.length) ∧ st.length ≤ 100000 ∧ Wf st) := ⟨fun V T => hw.few, fun V T => hw.in, hsm, hw⟩
  clear h hw hsm
  refine callsIn_of_wp_marks Try.func26 rfl trivial ?_ rfl
  simp only [Try.ntmps26, List.size_toArray, List.length_cons, List.length_nil, Nat.reduceAdd, Nat.reduceSub, Array.replicate_succ, Array.replicate_zero, List.push_toArray, List.append_toArray, List.nil_append, List.cons_append]
  gi_wp2_with (first
    | (rw [hW0])
    | (refine wpListIn_run rfl (fun _ => trivial) (fun _ h => by cases h) (x_al37 rfl) ?_)
    | (refine ⟨trivial, ?_⟩; gi_at_call 33; refine (callsIn_wide.2 (left_any (some ⟨g, 0, none⟩) W0)).mono ?_; rintro e w2 ⟨rfl, hr2, ha2⟩; have H2 := show Hid (RowIs w2 W0.heap.size 25 [.pointer (some ⟨g, 0, none⟩)] ∧ After W0 w2) from ⟨hr2, ha2⟩; clear hr2 ha2))
  refine rf_enter (n := 7) rfl (by omega) (gf := 45) (lb := #[.pointer (some ⟨W0.heap.size, 0, none⟩)]) rfl trivial (enters_of Try.func45 (by kernel_rfl) rfl) ?_
  intro fn _ r hr
  have hrst : r.state = .ready := by rw [hr]
  have hrp : r.pending = none := by rw [hr]
  have hrps : r.params = #[6] := by rw [hr]
  have hra := congrArg Loop.assign hr
  have hrb := congrArg Loop.body hr
  have hrt := congrArg Loop.tmps hr
  dsimp only at hra hrb hrt
  clear hr
  have hreq : rdy r = r := by unfold rdy; cases r; simp_all
  obtain ⟨W3, hW3⟩ : ∃ W3, (w2.alloc (.deferred (some []))).alloc (.loop r) = W3 := ⟨_, rfl⟩
  obtain ⟨D2, hD2⟩ : ∃ D2, w2.heap.size = D2 := ⟨_, rfl⟩
  have hs3 : W3.heap.size = D2 + 2 := by rw [← hW3, ← hD2]; simp
  have ha3 : After w2 W3 := by rw [← hW3]; exact after_alloc (after_alloc (After.refl w2) _) _
  have hl3 : W3.heap[D2 + 1]? = some (.loop r) := by
    rw [← hW3, ← hD2]; have := World.alloc_heap_new (w2.alloc (.deferred (some []))) (.loop r); rwa [World.size_alloc] at this
  have hd3 : W3.heap[D2]? = some (.deferred (some [])) := by
    rw [← hW3, ← hD2]; exact (Below.heap_alloc _ _ _ (by simp)).trans (World.alloc_heap_new w2 _)
  have hA3 : After w W3 := (HA0.out.1.trans H2.out.2).trans ha3
  have hA03 : After W0 W3 := H2.out.2.trans ha3
  have hlt2 : W0.heap.size < D2 := by
    have h1 := H2.out.1.lt
    rw [hD2] at h1
    exact h1
  have hg3 : RowIs W3 W0.heap.size 25 [.pointer (some ⟨g, 0, none⟩)] := H2.out.1.below ha3 H2.out.1.lt
  rw [hW3, hD2]
  clear hW3 hD2 ha3
  have hgl : w.heap.size < W0.heap.size := HB.out.lt
  have hmain := left_in (D2 + 1) W0.heap.size (N := st.length) (NJ (D2 + 2) w.heap.size (D2 + 1) D2 r) (fun _ _ _ => False) (W := W3) (F0 := fun b => b = w.heap.size ∨ b = D2 + 1)
    (by rw [hs3]; exact NJ.ok (by omega) (by omega) (by omega)) ⟨fun _ _ _ _ h _ => h, fun _ _ _ h => h.elim⟩ (fun V F t s X _ _ hTJ hKX hVN _ _ hs hgn => by
      obtain ⟨hrt3, hf, hl, hd, hsz⟩ := hTJ
      refine rf_round hl hrst (by rw [hrps]; rfl) trivial ?_
      rw [hra, hrt, hrps]
      refine wpIn_skip ?_
      refine ⟨hl, ?_⟩
      rw [hrb]
      obtain ⟨X2, hX2⟩ : ∃ X2, X.putObj (D2 + 1) (.loop (bz r)) = X2 := ⟨_, rfl⟩
      have K2 : KeptF (fun b => b = D2 + 1) X X2 := by rw [← hX2]; exact putObj_kept (F := fun b => b = D2 + 1) X (D2 + 1) _ rfl
      have hb2 : X2.heap[D2 + 1]? = some (.loop (bz r)) := by rw [← hX2]; exact World.putObj_heap_same (Array.getElem?_eq_some_iff.1 hl).1
      have hd2 : X2.heap[D2]? = some (.deferred (some [])) := (K2.block D2 (Array.getElem?_eq_some_iff.1 hd).1 (by omega)).trans hd
      have ht2 : RowIs X2 w.heap.size 3 [pv V.length] := K2.row hrt3 (by omega)
      rw [hX2]
      refine wpIn_block ?_
      refine wpIn_region_lit ?_
      refine wpListIn_run rfl (fun _ => trivial) (fun _ h => by cases h) (x_loadT (x := .tmp 3) (t := 3) (g := w.heap.size) (j := 0) Try.underlying3 rfl (by kernel_rfl) (by kernel_rfl) (ht2.cell (j := 0) rfl)) ?_
      refine wpListIn_run rfl (fun _ => trivial) (fun _ h => by cases h) (x_add1 (x := .tmp 7) (k := V.length) (by have := HRN.out.2.2.1; omega) (by kernel_rfl) (by kernel_rfl)) ?_
      refine wpListIn_st rfl rfl (fun _ => trivial) (fun _ h => by cases h) (x_st3 (x := .tmp 3) (y := .tmp 8) (g := w.heap.size) (p := 0) (z := ((V.length + 1 : Nat) : Int)) (by kernel_rfl) (by kernel_rfl) (by kernel_rfl) (ht2.cell (j := 0) rfl) (ht2.frozen 0)) ?_
      refine wpListIn_nil ?_
      show _ ∧ _
      rw [hreq]
      have hl6 : (X2.setCell ⟨w.heap.size, 0, none⟩ (.int .i64 ((V.length + 1 : Nat) : Int))).heap[D2 + 1]? = some (.loop (bz r)) := (Below.heap_setCell X2 ⟨w.heap.size, 0, none⟩ _ (D2 + 1) (by show D2 + 1 ≠ w.heap.size; omega)).trans hb2
      have hlt6 := (Array.getElem?_eq_some_iff.1 hl6).1
      refine ⟨hl6, .inl ⟨rfl, F, ⟨?_, hf, World.putObj_heap_same hlt6, ?_, ?_⟩, ?_, fun b hb => .inl hb⟩⟩
      · unfold RowIs; rw [World.putObj_heap_other (by omega), List.length_append]; exact ht2.set 0 _
      · exact (World.putObj_heap_other (by omega)).trans ((Below.heap_setCell X2 ⟨w.heap.size, 0, none⟩ _ D2 (by show D2 ≠ w.heap.size; omega)).trans hd2)
      · have h2 : (X2.setCell ⟨w.heap.size, 0, none⟩ (.int .i64 ((V.length + 1 : Nat) : Int))).heap.size = X2.heap.size := by show (X2.heap.modify _ _).size = _; rw [Array.size_modify]
        have h3 : ((X2.setCell ⟨w.heap.size, 0, none⟩ (.int .i64 ((V.length + 1 : Nat) : Int))).putObj (D2 + 1) (.loop r)).heap.size = (X2.setCell ⟨w.heap.size, 0, none⟩ (.int .i64 ((V.length + 1 : Nat) : Int))).heap.size := by simp [World.putObj]
        have := K2.size
        omega
      · exact ((K2.mono (fun x _ hx => (hf x).2 (.inr hx))).trans (KeptF.set (F := F) X2 ⟨w.heap.size, 0, none⟩ _ ((hf _).2 (.inl rfl))) (fun _ _ h => h)).trans (putObj_kept (F := F) _ (D2 + 1) _ ((hf _).2 (.inr rfl))) (fun _ _ h => h))
    HRN.out.1 HRN.out.2.1 (by have := HRN.out.2.2.1; omega) (HR.out.after hA3) hg3 (fun b hb h => by
      have := (HR.out.foot hb).2
      rcases h with e | e
      · omega
      · omega) ⟨HB.out.below hA03 HB.out.lt, fun b => Iff.rfl, hl3, hd3, by omega⟩
  refine hmain.mono ?_
  rintro e W4 ⟨hv, V, F, hor, hk4, hn4⟩
  refine ⟨hv, ?_⟩
  rcases hor with ⟨⟨U, hre, hVU⟩, hrt4, hf, hl, hd, hsz⟩ | hx
  · refine ⟨r, hl, by rw [hrst]; simp, ?_⟩
    have HX := show Hid (Reach st U [] ∧ V.length = (U.filter (live st)).length ∧ (∀ o1 o2 : Obj, After w ((W4.putObj (D2 + 1) o1).putObj D2 o2))) from ⟨hre, by rw [hVU], fun o1 o2 => by
      have k1 : KeptF (fun b => w.heap.size ≤ b) w W4 := (KeptF.of_after hA3).trans (hk4.mono (G := fun b => w.heap.size ≤ b) (fun x _ h => by rcases h with e | e <;> (show w.heap.size ≤ x; omega))) (fun _ _ h => h)
      have k2 : KeptF (fun b => w.heap.size ≤ b) w ((W4.putObj (D2 + 1) o1).putObj D2 o2) := (k1.trans (putObj_kept (F := fun b => w.heap.size ≤ b) W4 (D2 + 1) o1 (by show w.heap.size ≤ D2 + 1; omega)) (fun _ _ h => h)).trans (putObj_kept (F := fun b => w.heap.size ≤ b) _ D2 o2 (by show w.heap.size ≤ D2; omega)) (fun _ _ h => h)
      exact k2.below (Nat.le_refl _) (fun _ h => h)⟩
    rw [hrp]
    generalize hob : Obj.loop _ = ob
    have hK1 : (W4.putObj (D2 + 1) ob).heap[D2]? = some (.deferred (some [])) := (World.putObj_heap_other (by omega)).trans hd
    have cT1 : (W4.putObj (D2 + 1) ob).cell? ⟨w.heap.size, 0, none⟩ = some (.int .i64 (V.length : Int)) := by
      have h1 : RowIs (W4.putObj (D2 + 1) ob) w.heap.size 3 [pv V.length] := by unfold RowIs; rw [World.putObj_heap_other (by omega)]; exact hrt4
      exact h1.cell rfl
    clear hmain hl hd hk4 hn4 hre hVU hrt4 hf hsz hob
    generalize hW5 : W4.putObj (D2 + 1) ob = W5 at cT1 hK1 ⊢
    have HX2 := show Hid (∀ o2 : Obj, After w (W5.putObj D2 o2)) from fun o2 => by rw [← hW5]; exact HX.out.2.2 ob o2
    clear hW5
    gi_wp2
    refine ⟨by simp, .inl ⟨_, _, rfl, run_takeDeferred hK1, ?_⟩⟩
    exact ⟨_, results_tmp rfl _ _ _, U, HX.out.1, by rw [← HX.out.2.1]; rfl, HX2.out _⟩
  · exact hx.elim
end Go.Proofs.Ytiglenomigipmaa
