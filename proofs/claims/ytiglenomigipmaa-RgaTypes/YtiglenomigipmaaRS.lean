/-
  inOrder (44), left (33), and left's closure (45): the cells that are not gone, for whatever loop body.
-/
import Derived.Test.YtiglenomigipmaaRQ
namespace Go.Proofs.Ytiglenomigipmaa
open Go.RowKit Go.Shelf
attribute [local go_sem] Oper.semAt_some
theorem inOrder_any (p : Option Addr) (w : World) : Calls Try.prog 44 #[.pointer p] w fun e w' => e = .returned (.func (.func 51) #[] #[.pointer (some ⟨w.heap.size, 0, none⟩)]) ∧ RowIs w' w.heap.size 25 [.pointer p] ∧ After w w' := by
  have HR : Hid (RowIs (w.alloc (.cells #[.pointer p] 25)) w.heap.size 25 [.pointer p]) := RowIs.new w 25 _
  have HA : Hid (After w (w.alloc (.cells #[.pointer p] 25))) := after_alloc (After.refl w) _
  go_enter Try.func44, Try.ntmps44
  go_wp2_with fail
  go_ret
  exact ⟨rfl, HR.out, HA.out⟩
theorem left_any (p : Option Addr) (w : World) : Calls Try.prog 33 #[.pointer p] w fun e w' => e = .returned (.func (.func 45) #[] #[.pointer (some ⟨w.heap.size, 0, none⟩)]) ∧ RowIs w' w.heap.size 25 [.pointer p] ∧ After w w' := by
  have HR : Hid (RowIs (w.alloc (.cells #[.pointer p] 25)) w.heap.size 25 [.pointer p]) := RowIs.new w 25 _
  have HA : Hid (After w (w.alloc (.cells #[.pointer p] 25))) := after_alloc (After.refl w) _
  go_enter Try.func33, Try.ntmps33
  go_wp2_with fail
  go_ret
  exact ⟨rfl, HR.out, HA.out⟩
/-- Is the cell at a place there to be seen? -/
def live (st : List Stm) (t : Nat) : Bool := match st[t]? with | some s => !s.gone | none => false
theorem live_of {st : List Stm} {t : Nat} {s : Stm} (h : st[t]? = some s) : live st t = !s.gone := by unfold live; rw [h]
def zc63 : List Value := ccell zId 0 false
section
variable {oi : Oper} {a : Act} {w : World}
theorem x_al63 (hop : oi.op = .alloc 63) : (execOp a.eval oi).run Try.prog w = .ok (.value (.pointer (some ⟨w.heap.size, 0, none⟩))) (w.alloc (.cells zc63.toArray 63)) := by
  have hz : (zeroValue 63).run Try.prog w = .ok (.agg zc63.toArray) w := by kernel_rfl
  unfold execOp
  simp only [hop]
  simp [go_sem, hz, Value.cells]
theorem ccell_one (id : Idn) (ch : UInt8) (g : Bool) : ∀ u ∈ ccell id ch g, u.oneCell' = true := fun u hu => by
  rcases List.mem_append.1 hu with h | h
  · exact idc_one _ u h
  · simp only [List.mem_cons, List.not_mem_nil, or_false] at h
    rcases h with h | h <;> subst h <;> rfl
theorem x_st63 {x y : Operand} {g : Nat} {s : Stm} {cs : List Value} (hs : s.id.Ok) (hl : cs.length = 35) (hop : oi.op = .store 63 x y) (hx : a.eval x = .pointer (some ⟨g, 0, none⟩)) (hy : a.eval y = .agg (ccell s.id s.ch s.gone).toArray) (hr : RowIs w g 63 cs) : (execOp a.eval oi).run Try.prog w = .ok .skip (w.setRow g (ccell s.id s.ch s.gone).toArray) := by
  have e : (Try.prog.info? 63).map (·.size) = some 35 := by kernel_rfl
  unfold execOp
  have := run_storeVar_row (P := Try.prog) w g 63 63 cs.toArray (ccell s.id s.ch s.gone).toArray hr (by rw [e]; simp [ccell_len hs]) (by simp [ccell_len hs, hl]) (by simpa using ccell_one s.id s.ch s.gone)
  simp only [hop, hx, hy, Instr.storeAt, Instr.sureAddr, Sem.run_bind, Sem.run_pure, Result.andThen_ok, this]
end
theorem RowIs.range0 {w : World} {g : Nat} {t : TypeId} {cs : List Value} (h : RowIs w g t cs) : w.rangeAt g 0 cs := fun j u hu => by rw [Nat.zero_add]; exact h.cell hu
theorem x_ld63c {oi : Oper} {a : Act} {w : World} {x : Operand} {g p : Nat} {id : Idn} {ch : UInt8} {gn : Bool} (hs : id.Ok) (hop : oi.op = .load 63 x) (hx : a.eval x = .pointer (some ⟨g, p, none⟩)) (hc : w.rangeAt g p (ccell id ch gn)) : (execOp a.eval oi).run Try.prog w = .ok (.value (.agg (ccell id ch gn).toArray)) w := x_ld63 (s := ⟨id, ch, gn, []⟩) hs hop hx hc
theorem putObj_kept {F : Nat → Prop} (W : World) (l : Nat) (o : Obj) (h : F l) : KeptF F W (W.putObj l o) :=
  ⟨rfl, rfl, rfl, by simp [World.putObj], fun b _ hb => World.putObj_heap_other (fun e => hb (by rw [e]; exact h))⟩
/-- The inner loop's invariant, out of the outer one's. -/
def LJ (st : List Stm) (J : List Nat → (Nat → Prop) → World → Prop) (F0 : Nat → Prop) (T3 l2 D2 gy : Nat) (yv : Value) (r : Loop) (U : List Nat) (F2 : Nat → Prop) (X : World) : Prop :=
  ∃ F, J (U.filter (live st)) F X ∧ (∀ b, F2 b ↔ F b ∨ b = l2) ∧ (∀ b, F b → F0 b ∨ T3 ≤ b) ∧ X.heap[l2]? = some (.loop r) ∧ X.heap[D2]? = some (.deferred (some [])) ∧ RowIs X gy 94 [yv]
theorem LJ.ok {st : List Stm} {J : List Nat → (Nat → Prop) → World → Prop} {F0 : Nat → Prop} {T T3 l2 D2 gy : Nat} {yv : Value} {r : Loop} (h : Jok T J) (hT : T ≤ T3) (h1 : l2 < T3) (h2 : D2 < T3) (h3 : gy < T3) : Jok T3 (LJ st J F0 T3 l2 D2 gy yv r) := by
  refine ⟨fun U F2 A B ⟨F, hj, hf, hn, hl, hd, hy⟩ hk => ?_, fun U F2 A ⟨F, hj, hf, hn, hl, hd, hy⟩ b hb => ?_⟩
  · have same : ∀ b, b < T3 → b < A.heap.size → B.heap[b]? = A.heap[b]? := fun b hb ha => hk.block b ha (fun h => by omega)
    refine ⟨F, h.keep _ _ _ _ hj (hk.mono (fun x _ hx => ⟨by omega, fun hF => hx.2 ((hf x).2 (.inl hF))⟩)), hf, hn, ?_, ?_, ?_⟩
    · rw [same l2 h1 (Array.getElem?_eq_some_iff.1 hl).1]; exact hl
    · rw [same D2 h2 (Array.getElem?_eq_some_iff.1 hd).1]; exact hd
    · unfold RowIs; rw [same gy h3 hy.lt]; exact hy
  · rcases (hf b).1 hb with hb | hb
    · exact h.lt _ _ _ hj b hb
    · rw [hb]; exact (Array.getElem?_eq_some_iff.1 hl).1
theorem fil_snoc {st : List Stm} (U : List Nat) {t : Nat} {s : Stm} (hs : st[t]? = some s) : (U ++ [t]).filter (live st) = if s.gone then U.filter (live st) else U.filter (live st) ++ [t] := by
  rw [List.filter_append]
  cases hg : s.gone with
  | true => simp [live_of hs, hg]
  | false => simp [live_of hs, hg]
set_option maxRecDepth 100000 in
set_option maxHeartbeats 6400000 in
theorem left_in (lp gr : Nat) {base g N : Nat} {st : List Stm} {D : RwD} (J Jx : List Nat → (Nat → Prop) → World → Prop) {W : World} {F0 : Nat → Prop} (hJ : Jok W.heap.size J) (hJx : Jok W.heap.size Jx)
    (hY : ∀ V F t s W1 U T, J V F W1 → KeptF F0 W W1 → V.length < N → Reach st U (T ++ [t]) → V = U.filter (live st) → st[t]? = some s → s.gone = false → YieldAt Fence.wide 5 Try.prog lp #[.agg (ccell s.id s.ch s.gone).toArray] W1 (YR J Jx (V ++ [t]) F W1))
    (hN : ∀ V T, Reach st V T → V.length + T.length ≤ N) (hin : ∀ V T, Reach st V T → ∀ t ∈ T, t < st.length) (hsm : N ≤ 1000000)
    (hR : RowAt W base g st D) (hG : RowIs W gr 25 [.pointer (some ⟨g, 0, none⟩)]) (hF : ∀ b, Foot g D b → ¬ F0 b) (h0 : J [] F0 W) :
    CallsIn Fence.wide 6 Try.prog 45 #[.func (.yield lp) #[] #[], .pointer (some ⟨gr, 0, none⟩)] W fun e W' => (∃ v, e = .returned v) ∧ ∃ V F', (((∃ U, Reach st U [] ∧ V = U.filter (live st)) ∧ J V F' W') ∨ Jx V F' W') ∧ KeptF F0 W W' ∧ ∀ b, F' b → F0 b ∨ W.heap.size ≤ b := by
  obtain ⟨W0, hW0⟩ : ∃ W0, W.alloc (.cells #[.func (.yield lp) #[] #[]] 94) = W0 := ⟨_, rfl⟩
  have HA0 : Hid (After W W0 ∧ RowIs W0 W.heap.size 94 [.func (.yield lp) #[] #[]] ∧ W0.heap.size = W.heap.size + 1) := by
    rw [← hW0]; exact ⟨after_alloc (After.refl W) _, RowIs.new W 94 _, by simp⟩
  have cG : W0.cell? ⟨gr, 0, none⟩ = some (.pointer (some ⟨g, 0, none⟩)) := (hG.below HA0.out.1 hG.lt).cell rfl
  have HJ : Hid (Jok W.heap.size J ∧ Jok W.heap.size Jx ∧ J [] F0 W) := ⟨hJ, hJx, h0⟩
  have HY : Hid (∀ V F t s W1 U T, J V F W1 → KeptF F0 W W1 → V.length < N → Reach st U (T ++ [t]) → V = U.filter (live st) → st[t]? = some s → s.gone = false → YieldAt Fence.wide 5 Try.prog lp #[.agg (ccell s.id s.ch s.gone).toArray] W1 (YR J Jx (V ++ [t]) F W1)) := hY
  have HRN : Hid ((∀ V T, Reach st V T → V.length + T.length ≤ N) ∧ (∀ V T, Reach st V T → ∀ t ∈ T, t < st.length) ∧ N ≤ 1000000) := ⟨hN, hin, hsm⟩
  have HR : Hid (RowAt W base g st D ∧ ∀ b, Foot g D b → ¬ F0 b) := ⟨hR, hF⟩
  clear hJ hJx hY hN hin hsm hR hG hF h0
  refine callsIn_of_wp_marks Try.func45 rfl trivial ?_ rfl
  simp only [Try.ntmps45, List.size_toArray, List.length_cons, List.length_nil, Nat.reduceAdd, Nat.reduceSub, Array.replicate_succ, Array.replicate_zero, List.push_toArray, List.append_toArray, List.nil_append, List.cons_append]
  gi_wp2_with (first
    | (rw [hW0])
    | (refine ⟨trivial, ?_⟩; gi_at_call 44; refine (callsIn_wide.2 (inOrder_any (some ⟨g, 0, none⟩) W0)).mono ?_; rintro e w2 ⟨rfl, hr2, ha2⟩; have H2 := show Hid (RowIs w2 W0.heap.size 25 [.pointer (some ⟨g, 0, none⟩)] ∧ After W0 w2) from ⟨hr2, ha2⟩; clear hr2 ha2))
  refine rf_enter (n := 6) rfl (by omega) (gf := 51) (lb := #[.pointer (some ⟨W0.heap.size, 0, none⟩)]) rfl trivial (enters_of Try.func51 (by kernel_rfl) rfl) ?_
  intro fn _ r hr
  have hrst : r.state = .ready := by rw [hr]
  have hrp : r.pending = none := by rw [hr]
  have hrps : r.params = #[6] := by rw [hr]
  have hra := congrArg Loop.assign hr
  have hrb := congrArg Loop.body hr
  have hrt := congrArg Loop.tmps hr
  dsimp only at hra hrb hrt
  clear hr
  have hreq : rdy r = r := by unfold rdy; cases r; simp_all
  obtain ⟨W3, hW3⟩ : ∃ W3, (w2.alloc (.deferred (some []))).alloc (.loop r) = W3 := ⟨_, rfl⟩
  obtain ⟨D2, hD2⟩ : ∃ D2, w2.heap.size = D2 := ⟨_, rfl⟩
  have hs3 : W3.heap.size = D2 + 2 := by rw [← hW3, ← hD2]; simp
  have ha3 : After w2 W3 := by rw [← hW3]; exact after_alloc (after_alloc (After.refl w2) _) _
  have hl3 : W3.heap[D2 + 1]? = some (.loop r) := by
    rw [← hW3, ← hD2]; have := World.alloc_heap_new (w2.alloc (.deferred (some []))) (.loop r); rwa [World.size_alloc] at this
  have hd3 : W3.heap[D2]? = some (.deferred (some [])) := by
    rw [← hW3, ← hD2]; exact (Below.heap_alloc _ _ _ (by simp)).trans (World.alloc_heap_new w2 _)
  have hA3 : After W W3 := (HA0.out.1.trans H2.out.2).trans ha3
  have hlt2 : W.heap.size + 1 < D2 := by
    have h1 := H2.out.1.lt
    rw [HA0.out.2.2, hD2] at h1
    exact h1
  have hy3 : RowIs W3 W.heap.size 94 [.func (.yield lp) #[] #[]] := HA0.out.2.1.below (H2.out.2.trans ha3) HA0.out.2.1.lt
  have hg3 : RowIs W3 W0.heap.size 25 [.pointer (some ⟨g, 0, none⟩)] := H2.out.1.below ha3 H2.out.1.lt
  have hF0 : ∀ b, F0 b → b < W.heap.size := HJ.out.1.lt _ _ _ HJ.out.2.2
  rw [hW3, hD2]
  clear hW3 hD2 ha3
  have hmain := ord_in (D2 + 1) W0.heap.size 4 (LJ st J F0 (D2 + 2) (D2 + 1) D2 W.heap.size (.func (.yield lp) #[] #[]) r) (LJ st Jx F0 (D2 + 2) (D2 + 1) D2 W.heap.size (.func (.yield lp) #[] #[]) (dn r)) (W := W3) (F0 := fun b => F0 b ∨ b = D2 + 1)
    (by rw [hs3]; exact LJ.ok HJ.out.1 (by omega) (by omega) (by omega) (by omega)) (fun U F2 t s X T hLJ hKX hUN hUT hs => by
      obtain ⟨F, hj, hf2, hfn, hl, hd, hy⟩ := hLJ
      have nl : ¬ F (D2 + 1) := fun h => (hfn _ h).elim (fun h => by have := hF0 _ h; omega) (fun h => by omega)
      have nd : ¬ F D2 := fun h => (hfn _ h).elim (fun h => by have := hF0 _ h; omega) (fun h => by omega)
      have ng : ¬ F W.heap.size := fun h => (hfn _ h).elim (fun h => by have := hF0 _ h; omega) (fun h => by omega)
      have hXs := hKX.size
      have hok := HR.out.1.ok s (List.mem_of_getElem? hs)
      have hKW : KeptF F0 W X := (KeptF.of_after hA3).trans hKX (fun x hx h => h.elim id (fun e => by omega))
      have HWA := show Hid (RowIs ((X.alloc (.cells zc63.toArray 63)).setRow X.heap.size (ccell s.id s.ch s.gone).toArray) X.heap.size 63 (ccell s.id s.ch s.gone) ∧ After X ((X.alloc (.cells zc63.toArray 63)).setRow X.heap.size (ccell s.id s.ch s.gone).toArray)) from ⟨setRow_heap _ _ _ _ 63 _ (heap_alloc_new X _), Below.row (after_alloc (After.refl X) _) (Nat.le_refl _) _⟩
      refine rf_round hl hrst (by rw [hrps]; rfl) trivial ?_
      rw [hra, hrt, hrps]
      refine wpIn_region_lit ?_
      refine wpListIn_run rfl (fun _ => trivial) (fun _ h => by cases h) (x_al63 rfl) ?_
      refine wpListIn_st (w' := (X.alloc (.cells zc63.toArray 63)).setRow X.heap.size (ccell s.id s.ch s.gone).toArray) rfl rfl (fun _ => trivial) (fun _ h => by cases h) (x_st63 (x := .tmp 3) (y := .tmp 6) (g := X.heap.size) (s := s) (cs := zc63) hok (ccell_len zId_ok 0 false) (by kernel_rfl) (by kernel_rfl) (by kernel_rfl) (RowIs.new X 63 zc63)) ?_
      refine wpListIn_nil ?_
      obtain ⟨Wa, hWa⟩ : ∃ Wa, (X.alloc (.cells zc63.toArray 63)).setRow X.heap.size (ccell s.id s.ch s.gone).toArray = Wa := ⟨_, rfl⟩
      rw [hWa] at HWA ⊢
      clear hWa
      have hlX := (Array.getElem?_eq_some_iff.1 hl).1
      have hlW : Wa.heap[D2 + 1]? = some (.loop r) := (HWA.out.2.block _ hlX).trans hl
      refine ⟨hlW, ?_⟩
      rw [hrb]
      obtain ⟨X2, hX2⟩ : ∃ X2, Wa.putObj (D2 + 1) (.loop (bz r)) = X2 := ⟨_, rfl⟩
      have K2 : KeptF (fun b => b = D2 + 1) X X2 := by rw [← hX2]; exact (KeptF.of_after (F := fun b => b = D2 + 1) HWA.out.2).trans (putObj_kept (F := fun b => b = D2 + 1) Wa (D2 + 1) _ rfl) (fun _ _ h => h)
      have hb2 : X2.heap[D2 + 1]? = some (.loop (bz r)) := by rw [← hX2]; exact World.putObj_heap_same (Array.getElem?_eq_some_iff.1 hlW).1
      have hdX := (Array.getElem?_eq_some_iff.1 hd).1
      have hd2 : X2.heap[D2]? = some (.deferred (some [])) := (K2.block D2 hdX (by omega)).trans hd
      have hy2 : RowIs X2 W.heap.size 94 [.func (.yield lp) #[] #[]] := K2.row hy (by omega)
      have hc2 : RowIs X2 X.heap.size 63 (ccell s.id s.ch s.gone) := by rw [← hX2]; unfold RowIs; rw [World.putObj_heap_other (by omega)]; exact HWA.out.1
      have hj2 : J (U.filter (live st)) F X2 := HJ.out.1.keep _ _ _ _ hj (K2.mono (fun x _ hx => by rw [hx]; exact ⟨by omega, nl⟩))
      have hKW2 : KeptF F0 W X2 := hKW.trans K2 (fun x hx h => by omega)
      have hgc : (ccell s.id s.ch s.gone)[34]? = some (.bool s.gone) := by unfold ccell; rw [List.getElem?_append_right (by rw [idc_len hok]; omega), idc_len hok]; rfl
      have cgone : X2.cell? ⟨X.heap.size, 34, none⟩ = some (.bool s.gone) := hc2.cell hgc
      have cyl : X2.cell? ⟨W.heap.size, 0, none⟩ = some (.func (.yield lp) #[] #[]) := hy2.cell rfl
      have wrapup : Hid (∀ (K : List Nat → (Nat → Prop) → World → Prop) (rr : Loop) (V' : List Nat) (F' : Nat → Prop) (W' : World), Jok W.heap.size K → K V' F' W' → V' = (U ++ [t]).filter (live st) → KeptF F X2 W' → (∀ b, F' b → F b ∨ X2.heap.size ≤ b) →
          W'.heap[D2 + 1]? = some (.loop (bz r)) ∧ LJ st K F0 (D2 + 2) (D2 + 1) D2 W.heap.size (.func (.yield lp) #[] #[]) rr (U ++ [t]) (fun b => F' b ∨ b = D2 + 1) (W'.putObj (D2 + 1) (.loop rr)) ∧ KeptF F2 X (W'.putObj (D2 + 1) (.loop rr)) ∧ (∀ b, (F' b ∨ b = D2 + 1) → F2 b ∨ X.heap.size ≤ b)) := fun K rr V' F' W' hK hv hV hkp hnew => by
        have hX2s := K2.size
        have hl2s : D2 + 1 < X2.heap.size := (Array.getElem?_eq_some_iff.1 hb2).1
        have hlW' : W'.heap[D2 + 1]? = some (.loop (bz r)) := (hkp.block _ hl2s nl).trans hb2
        have nl' : ¬ F' (D2 + 1) := fun h => (hnew _ h).elim nl (fun h => by omega)
        have hlt' := (Array.getElem?_eq_some_iff.1 hlW').1
        refine ⟨hlW', ⟨F', ?_, fun b => Iff.rfl, fun b hb => (hnew b hb).elim (hfn b) (fun h => .inr (by omega)), World.putObj_heap_same hlt', ?_, ?_⟩, ?_, fun b hb => hb.elim (fun h => (hnew b h).elim (fun h => .inl ((hf2 b).2 (.inl h))) (fun h => .inr (by omega))) (fun e => .inl ((hf2 b).2 (.inr e)))⟩
        · rw [← hV]; exact hK.keep _ _ _ _ hv (putObj_kept W' (D2 + 1) _ ⟨by omega, nl'⟩)
        · exact (World.putObj_heap_other (by omega)).trans ((hkp.block _ (Array.getElem?_eq_some_iff.1 hd2).1 nd).trans hd2)
        · unfold RowIs; rw [World.putObj_heap_other (by omega)]; exact hkp.row hy2 ng
        · exact ((K2.mono (fun x _ hx => (hf2 x).2 (.inr hx))).trans hkp (fun x _ hx => (hf2 x).2 (.inl hx))).trans (putObj_kept W' (D2 + 1) _ ((hf2 _).2 (.inr rfl))) (fun _ _ h => h)
      have HC2 : Hid (RowIs X2 X.heap.size 63 (ccell s.id s.ch s.gone)) := hc2
      have HYY : Hid (J (U.filter (live st)) F X2 ∧ KeptF F0 W X2) := ⟨hj2, hKW2⟩
      have HFS : Hid ((U ++ [t]).filter (live st) = if s.gone then U.filter (live st) else U.filter (live st) ++ [t]) := fil_snoc U hs
      have HOKS : Hid s.id.Ok := hok
      rw [hX2]
      clear hX2 HWA K2 hb2 hdX hd2 hy2 hc2 hj2 hKW2 hgc hlX hlW hKW hXs nl nd ng hj hf2 hfn hl hd hy hKX hok
      cases hgn : s.gone with
      | true =>
        rw [hgn] at cgone HFS
        have hw := wrapup.out J r _ F X2 HJ.out.1 HYY.out.1 (by rw [HFS.out]; rfl) (KeptF.refl F X2) (fun b hb => .inl hb)
        have HW := show Hid _ from hw
        clear hw wrapup
        go_simp
        gi_wp2
        refine ⟨fun _ h => (by cases h), ?_⟩
        gi_wp2
        show _ ∧ _
        rw [hreq]
        exact ⟨HW.out.1, .inl ⟨rfl, _, HW.out.2.1, HW.out.2.2.1, HW.out.2.2.2⟩⟩
      | false =>
        obtain ⟨fn', tm', as', bd', hy, hR⟩ := yieldAt_any 3 (HY.out _ _ t s X2 U T HYY.out.1 HYY.out.2 (Nat.lt_of_le_of_lt (List.length_filter_le _ _) hUN) hUT rfl hs hgn)
        rw [hgn] at cgone HFS HC2 hy
        go_simp
        gi_wp2_with (refine wpListIn_runG (by kernel_rfl) (fun _ => trivial) (fun _ h => by cases h) (x_ld63c (x := .tmp 3) (g := X.heap.size) (p := 0) (id := s.id) (ch := s.ch) (gn := false) HOKS.out rfl rfl HC2.out.range0) ?_)
        refine RoundIn.mono (show RoundIn (Fence.wide.inRound (D2 + 1)) 3 Try.prog lp fn' tm' as' bd' X2 _ from hR) ?_
        rintro e W' (⟨rfl, F', hj', hk', hn'⟩ | ⟨rfl, F', hx', hk', hn'⟩)
        · have hw := wrapup.out J r _ F' W' HJ.out.1 hj' (by rw [HFS.out]; rfl) hk' hn'
          have HW := show Hid _ from hw
          clear hw wrapup hj' hk' hn' hR hy
          gi_wp2
          show _ ∧ _
          rw [hreq]
          exact ⟨HW.out.1, .inl ⟨rfl, _, HW.out.2.1, HW.out.2.2.1, HW.out.2.2.2⟩⟩
        · have hw := wrapup.out Jx (dn r) _ F' W' HJ.out.2.1 hx' (by rw [HFS.out]; rfl) hk' hn'
          have HW := show Hid _ from hw
          clear hw wrapup hx' hk' hn' hR hy
          gi_wp2
          show _ ∧ _
          exact ⟨HW.out.1, .inr ⟨rfl, _, HW.out.2.1, HW.out.2.2.1, HW.out.2.2.2⟩⟩)
    HRN.out.1 HRN.out.2.1 HRN.out.2.2 (HR.out.1.after hA3) hg3 (fun b hb h => h.elim (HR.out.2 b hb) (fun e => by have := (HR.out.1.foot hb).2; omega)) (fun h => h.elim (fun h => by have := hF0 _ h; have := HA0.out.2.2; omega) (fun e => by have := HA0.out.2.2; omega))
    ⟨F0, HJ.out.1.keep _ _ _ _ HJ.out.2.2 (KeptF.of_after hA3), fun b => Iff.rfl, fun b hb => .inl hb, hl3, hd3, hy3⟩
  refine hmain.mono ?_
  rintro e W4 ⟨hv, U, F2, hor, hk4, hn4⟩
  refine ⟨hv, ?_⟩
  have hkW : KeptF F0 W W4 := (KeptF.of_after hA3).trans hk4 (fun x hx h => h.elim id (fun e => by omega))
  have hs34 := hk4.size
  have fin : ∀ (K : List Nat → (Nat → Prop) → World → Prop) (V : List Nat) (F : Nat → Prop) (o1 o2 : Obj), Jok W.heap.size K → K V F W4 → (∀ b, F b → F0 b ∨ D2 + 2 ≤ b) → K V F ((W4.putObj (D2 + 1) o1).putObj D2 o2) ∧ KeptF F0 W ((W4.putObj (D2 + 1) o1).putObj D2 o2) ∧ ∀ b, F b → F0 b ∨ W.heap.size ≤ b := fun K V F o1 o2 hK hv hfn => by
    have nl : ¬ F (D2 + 1) := fun h => (hfn _ h).elim (fun h => by have := hF0 _ h; omega) (fun h => by omega)
    have nd : ¬ F D2 := fun h => (hfn _ h).elim (fun h => by have := hF0 _ h; omega) (fun h => by omega)
    refine ⟨hK.keep _ _ _ _ (hK.keep _ _ _ _ hv (putObj_kept W4 (D2 + 1) _ ⟨by omega, nl⟩)) (putObj_kept _ D2 _ ⟨by omega, nd⟩), ?_, fun b hb => (hfn b hb).imp id (fun h => by omega)⟩
    exact (hkW.trans (putObj_kept (F := fun b => b = D2 + 1) W4 (D2 + 1) o1 rfl) (fun x hx h => by omega)).trans (putObj_kept (F := fun b => b = D2) _ D2 o2 rfl) (fun x hx h => by omega)
  rcases hor with ⟨hre, F, hj, hf2, hfn, hl, hd, hy⟩ | ⟨F, hj, hf2, hfn, hl, hd, hy⟩
  · refine ⟨r, hl, by rw [hrst]; simp, ?_⟩
    have HFN := show Hid (∀ o1 o2, J (U.filter (live st)) F ((W4.putObj (D2 + 1) o1).putObj D2 o2) ∧ KeptF F0 W ((W4.putObj (D2 + 1) o1).putObj D2 o2) ∧ ∀ b, F b → F0 b ∨ W.heap.size ≤ b) from fun o1 o2 => fin J _ F o1 o2 HJ.out.1 hj hfn
    have HRE : Hid (Reach st U []) := hre
    have hK : ∀ o1 : Obj, (W4.putObj (D2 + 1) o1).heap[D2]? = some (.deferred (some [])) := fun o1 => (World.putObj_heap_other (by omega)).trans hd
    rw [hrp]
    clear hmain fin hj hf2 hfn hl hd hy hk4 hn4 hkW hs34 hre
    generalize hob : Obj.loop _ = ob
    gi_wp2
    refine ⟨by simp, .inl ⟨_, _, rfl, run_takeDeferred (hK ob), ?_⟩⟩
    exact ⟨_, results_none rfl _ _ _, ⟨_, rfl⟩, _, F, .inl ⟨⟨U, HRE.out, rfl⟩, (HFN.out _ _).1⟩, (HFN.out _ _).2⟩
  · refine ⟨dn r, hl, by unfold dn; simp, ?_⟩
    have HFN := show Hid (∀ o1 o2, Jx (U.filter (live st)) F ((W4.putObj (D2 + 1) o1).putObj D2 o2) ∧ KeptF F0 W ((W4.putObj (D2 + 1) o1).putObj D2 o2) ∧ ∀ b, F b → F0 b ∨ W.heap.size ≤ b) from fun o1 o2 => fin Jx _ F o1 o2 HJ.out.2.1 hj hfn
    have hK : ∀ o1 : Obj, (W4.putObj (D2 + 1) o1).heap[D2]? = some (.deferred (some [])) := fun o1 => (World.putObj_heap_other (by omega)).trans hd
    rw [show (dn r).pending = some .ret from rfl]
    clear hmain fin hj hf2 hfn hl hd hy hk4 hn4 hkW hs34
    generalize hob : Obj.loop _ = ob
    gi_wp2
    refine ⟨by simp, .inl ⟨_, _, rfl, run_takeDeferred (hK ob), ?_⟩⟩
    exact ⟨_, results_none rfl _ _ _, ⟨_, rfl⟩, _, F, .inr (HFN.out _ _).1, (HFN.out _ _).2⟩
end Go.Proofs.Ytiglenomigipmaa
