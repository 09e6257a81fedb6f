/-
  Text (25): the characters that are not gone.
-/
import Derived.Test.YtiglenomigipmaaRS
namespace Go.Proofs.Ytiglenomigipmaa
open Go.RowKit Go.Shelf
attribute [local go_sem] Oper.semAt_some
def chAt (st : List Stm) (t : Nat) : UInt8 := match st[t]? with | some s => s.ch | none => 0
theorem chAt_of {st : List Stm} {t : Nat} {s : Stm} (h : st[t]? = some s) : chAt st t = s.ch := by unfold chAt; rw [h]
theorem run_app56 {w : World} {base : Nat} {v : Value} {bs : List UInt8} (ty : TypeId) (h : w.ownsRow base 5 1 v bs.length (c8 bs)) {g : Nat} {b : UInt8} (hr : RowIs w g 5 [.int .u8 (b.toNat : Int)]) (hl : bs.length ≤ 1000000000) (hb : base ≤ w.heap.size) :
    ∃ va m vc w', (Builtin.append_ #[56, 56] ty #[v, .slice (some ⟨g, 0, none⟩) 1 1]).run Try.prog w = .ok (.slice va m vc) w' ∧ w'.ownsRow base 5 1 (.slice va m vc) (bs ++ [b]).length (c8 (bs ++ [b])) ∧ w.grownBy w' v.ownBlock ∧ ((Value.slice va m vc).ownBlock = v.ownBlock ∨ (Value.slice va m vc).ownBlock = some w.heap.size) := by
  obtain ⟨i, hi, hz⟩ := Option.map_eq_some_iff.1 bytes5
  simp only [Prod.mk.injEq] at hz
  obtain ⟨hz, hsz, hby⟩ := hz
  obtain ⟨v', w', h1, h2, h3, _, h5⟩ := run_append_own_at (P := Try.prog) w base 56 ty 5 i (.int .u8 0) 1 1 Try.underlying56 hi hz hsz hby rfl (by omega) v bs.length (c8 bs) h ⟨g, 0, none⟩ 1 1 (c8 [b]) rfl (fun j u hu => by rw [Addr.add_lit]; exact hr.cellsAt j u hu) (c8_one [b]) (by unfold maxLen; omega) (by omega) hb
  have h2' : w'.ownsRow base 5 1 v' (bs ++ [b]).length (c8 (bs ++ [b])) := by rw [List.length_append, c8_append]; exact h2
  rcases own_row h2' with ⟨hv, _, _⟩ | ⟨g2, cap2, cs2, hv, _⟩
  · subst hv; exact ⟨_, _, _, w', h1, h2', h3, h5⟩
  · subst hv; exact ⟨_, _, _, w', h1, h2', h3, h5⟩
section
variable {oi : Oper} {a : Act} {w : World}
theorem x_bs56 {x : Operand} {b : UInt8} (hop : oi.op = .buildSlice 56 1 #[(0, x)]) (hx : a.eval x = .int .u8 (b.toNat : Int)) : (execOp a.eval oi).run Try.prog w = .ok (.value (.slice (some ⟨w.heap.size, 0, none⟩) 1 1)) (w.alloc (.cells #[.int .u8 (b.toNat : Int)] 5)) := by
  obtain ⟨i, hi, hz⟩ := Option.map_eq_some_iff.1 bytes5
  simp only [Prod.mk.injEq] at hz
  have := run_buildSlice (P := Try.prog) w 56 5 1 #[(0, .int .u8 (b.toNat : Int))] #[.int .u8 (b.toNat : Int)] i (.int .u8 0) Try.underlying56 hi hz.1 (by rw [hz.2.1]; omega) (by rw [hz.2.1]; omega) (by rw [hz.2.1]; kernel_rfl)
  unfold execOp
  simp [hop, hx, this]
theorem x_app56 {s x : Operand} {v u v' : Value} {w' : World} (hop : oi.op = .call { callee := .builtin .append, args := #[s, x], argTypes := #[56, 56] }) (hs : a.eval s = v) (hx : a.eval x = u) (hr : (Builtin.append_ #[56, 56] oi.type #[v, u]).run Try.prog w = .ok v' w') : (execOp a.eval oi).run Try.prog w = .ok (.value v') w' := by
  unfold execOp
  simp only [hop, resolve, invoke, builtin, Sem.run_bind, Sem.run_pure, Result.andThen_ok, List.map_toArray, List.map_cons, List.map_nil, hs, hx, hr]
theorem x_st56 {x y : Operand} {g p : Nat} {va : Option Addr} {m c : Nat} {u : Value} (hop : oi.op = .store 56 x y) (hx : a.eval x = .pointer (some ⟨g, p, none⟩)) (hy : a.eval y = .slice va m c) (hc : w.cell? ⟨g, p, none⟩ = some u) (hf : w.frozen? ⟨g, p, none⟩ = false) : (execOp a.eval oi).run Try.prog w = .ok .skip (w.setCell ⟨g, p, none⟩ (.slice va m c)) := by
  unfold execOp
  simp only [hop, hx, hy]
  simp [go_sem, hc, hf, Instr.storeAt, Instr.sureAddr]
end
/-- The text so far, in its box; the loop's record. -/
def TJ (st : List Stm) (T0 gt l1 D1 : Nat) (r : Loop) (V : List Nat) (F : Nat → Prop) (X : World) : Prop :=
  ∃ va m vc, RowIs X gt 56 [.slice va m vc] ∧ X.ownsRow T0 5 1 (.slice va m vc) (V.map (chAt st)).length (c8 (V.map (chAt st))) ∧ (∀ b, F b ↔ b = gt ∨ b = l1 ∨ (Value.slice va m vc).ownBlock = some b) ∧ X.heap[l1]? = some (.loop r) ∧ X.heap[D1]? = some (.deferred (some [])) ∧ T0 ≤ X.heap.size
theorem own_same {w w' : World} {base : Nat} {e : TypeId} {size : Nat} {v : Value} {n : Nat} {xs : List Value} (h : w.ownsRow base e size v n xs) (hs : ∀ b, v.ownBlock = some b → w'.heap[b]? = w.heap[b]?) : w'.ownsRow base e size v n xs := by
  refine ⟨h.1, ?_⟩
  rcases h.2 with h0 | ⟨g, cap, cur, hv, hb, hg, rest⟩
  · exact .inl h0
  · exact .inr ⟨g, cap, cur, hv, hb, by rw [hs g (by rw [hv]; rfl)]; exact hg, rest⟩
theorem TJ.ok {st : List Stm} {T0 gt l1 D1 : Nat} {r : Loop} (h1 : gt < T0) (h2 : l1 < T0) (h3 : D1 < T0) : Jok T0 (TJ st T0 gt l1 D1 r) := by
  refine ⟨fun V F A B ⟨va, m, vc, hr, ho, hf, hl, hd, hs⟩ hk => ?_, fun V F A ⟨va, m, vc, hr, ho, hf, hl, hd, hs⟩ b hb => ?_⟩
  · refine ⟨va, m, vc, hk.row hr (fun h => by omega), own_same ho (fun b hb => hk.block b (own_lt ho hb).2.1 (fun h => h.2 ((hf b).2 (.inr (.inr hb))))), hf, ?_, ?_, Nat.le_trans hs hk.size⟩
    · rw [hk.block l1 (Array.getElem?_eq_some_iff.1 hl).1 (fun h => by omega)]; exact hl
    · rw [hk.block D1 (Array.getElem?_eq_some_iff.1 hd).1 (fun h => by omega)]; exact hd
  · rcases (hf b).1 hb with e | e | e
    · rw [e]; exact hr.lt
    · rw [e]; exact (Array.getElem?_eq_some_iff.1 hl).1
    · exact (own_lt ho e).2.1
/-- The text of a row, by the order. -/
def textOf (st : List Stm) (U : List Nat) : List UInt8 := (U.filter (live st)).map (chAt st)
set_option maxRecDepth 100000 in
set_option maxHeartbeats 6400000 in
theorem Text_any {w : World} {base g N : Nat} {st : List Stm} {D : RwD} (h : RowAt w base g st D) (hN : ∀ V T, Reach st V T → V.length + T.length ≤ N) (hin : ∀ V T, Reach st V T → ∀ t ∈ T, t < st.length) (hsm : N ≤ 1000000) :
    Calls Try.prog 25 #[.pointer (some ⟨g, 0, none⟩)] w fun e w' => ∃ v U, e = .returned v ∧ Reach st U [] ∧ Own w' w.heap.size v (textOf st U) ∧ After w w' := by
  refine (callsIn_wide (n := 7)).1 ?_
  obtain ⟨W0, hW0⟩ : ∃ W0, w.alloc (.cells #[.slice none 0 0] 56) = W0 := ⟨_, rfl⟩
  have HA0 : Hid (After w W0 ∧ RowIs W0 w.heap.size 56 [.slice none 0 0] ∧ W0.heap.size = w.heap.size + 1) := by
    rw [← hW0]; exact ⟨after_alloc (After.refl w) _, RowIs.new w 56 _, by simp⟩
  have HR : Hid (RowAt w base g st D) := h
  have HRN : Hid ((∀ V T, Reach st V T → V.length + T.length ≤ N) ∧ (∀ V T, Reach st V T → ∀ t ∈ T, t < st.length) ∧ N ≤ 1000000) := ⟨hN, hin, hsm⟩
  clear h hN hin hsm
  refine callsIn_of_wp_marks Try.func25 rfl trivial ?_ rfl
  simp only [Try.ntmps25, List.size_toArray, List.length_cons, List.length_nil, Nat.reduceAdd, Nat.reduceSub, Array.replicate_succ, Array.replicate_zero, List.push_toArray, List.append_toArray, List.nil_append, List.cons_append]
  gi_wp2_with (first
    | (rw [hW0])
    | (refine ⟨trivial, ?_⟩; gi_at_call 33; refine (callsIn_wide.2 (left_any (some ⟨g, 0, none⟩) W0)).mono ?_; rintro e w2 ⟨rfl, hr2, ha2⟩; have H2 := show Hid (RowIs w2 W0.heap.size 25 [.pointer (some ⟨g, 0, none⟩)] ∧ After W0 w2) from ⟨hr2, ha2⟩; clear hr2 ha2))
  refine rf_enter (n := 7) rfl (by omega) (gf := 45) (lb := #[.pointer (some ⟨W0.heap.size, 0, none⟩)]) rfl trivial (enters_of Try.func45 (by kernel_rfl) rfl) ?_
  intro fn _ r hr
  have hrst : r.state = .ready := by rw [hr]
  have hrp : r.pending = none := by rw [hr]
  have hrps : r.params = #[7] := by rw [hr]
  have hra := congrArg Loop.assign hr
  have hrb := congrArg Loop.body hr
  have hrt := congrArg Loop.tmps hr
  dsimp only at hra hrb hrt
  clear hr
  have hreq : rdy r = r := by unfold rdy; cases r; simp_all
  obtain ⟨W3, hW3⟩ : ∃ W3, (w2.alloc (.deferred (some []))).alloc (.loop r) = W3 := ⟨_, rfl⟩
  obtain ⟨D2, hD2⟩ : ∃ D2, w2.heap.size = D2 := ⟨_, rfl⟩
  have hs3 : W3.heap.size = D2 + 2 := by rw [← hW3, ← hD2]; simp
  have ha3 : After w2 W3 := by rw [← hW3]; exact after_alloc (after_alloc (After.refl w2) _) _
  have hl3 : W3.heap[D2 + 1]? = some (.loop r) := by
    rw [← hW3, ← hD2]; have := World.alloc_heap_new (w2.alloc (.deferred (some []))) (.loop r); rwa [World.size_alloc] at this
  have hd3 : W3.heap[D2]? = some (.deferred (some [])) := by
    rw [← hW3, ← hD2]; exact (Below.heap_alloc _ _ _ (by simp)).trans (World.alloc_heap_new w2 _)
  have hA3 : After w W3 := (HA0.out.1.trans H2.out.2).trans ha3
  have hlt2 : w.heap.size + 1 < D2 := by
    have h1 := H2.out.1.lt
    rw [HA0.out.2.2, hD2] at h1
    exact h1
  have hy3 : RowIs W3 w.heap.size 56 [.slice none 0 0] := HA0.out.2.1.below (H2.out.2.trans ha3) HA0.out.2.1.lt
  have hg3 : RowIs W3 W0.heap.size 25 [.pointer (some ⟨g, 0, none⟩)] := H2.out.1.below ha3 H2.out.1.lt
  rw [hW3, hD2]
  clear hW3 hD2 ha3
  have hmain := left_in (D2 + 1) W0.heap.size (N := N) (TJ st (D2 + 2) w.heap.size (D2 + 1) D2 r) (fun _ _ _ => False) (W := W3) (F0 := fun b => b = w.heap.size ∨ b = D2 + 1 ∨ (Value.slice none 0 0).ownBlock = some b)
    (by rw [hs3]; exact TJ.ok (by omega) (by omega) (by omega)) ⟨fun _ _ _ _ h _ => h, fun _ _ _ h => h.elim⟩ (fun V F t s X _ _ hTJ hKX hVN _ _ hs hgn => by
      obtain ⟨va, m, vc, hrt3, ho, hf, hl, hd, hsz⟩ := hTJ
      have hok := HR.out.ok s (List.mem_of_getElem? hs)
      have HWA := show Hid (RowIs ((X.alloc (.cells zc63.toArray 63)).setRow X.heap.size (ccell s.id s.ch s.gone).toArray) X.heap.size 63 (ccell s.id s.ch s.gone) ∧ After X ((X.alloc (.cells zc63.toArray 63)).setRow X.heap.size (ccell s.id s.ch s.gone).toArray)) from ⟨setRow_heap _ _ _ _ 63 _ (heap_alloc_new X _), Below.row (after_alloc (After.refl X) _) (Nat.le_refl _) _⟩
      refine rf_round hl hrst (by rw [hrps]; rfl) trivial ?_
      rw [hra, hrt, hrps]
      refine wpIn_region_lit ?_
      refine wpListIn_run rfl (fun _ => trivial) (fun _ h => by cases h) (x_al63 rfl) ?_
      refine wpListIn_st (w' := (X.alloc (.cells zc63.toArray 63)).setRow X.heap.size (ccell s.id s.ch s.gone).toArray) rfl rfl (fun _ => trivial) (fun _ h => by cases h) (x_st63 (x := .tmp 4) (y := .tmp 7) (g := X.heap.size) (s := s) (cs := zc63) hok (ccell_len zId_ok 0 false) (by kernel_rfl) (by kernel_rfl) (by kernel_rfl) (RowIs.new X 63 zc63)) ?_
      refine wpListIn_nil ?_
      obtain ⟨Wa, hWa⟩ : ∃ Wa, (X.alloc (.cells zc63.toArray 63)).setRow X.heap.size (ccell s.id s.ch s.gone).toArray = Wa := ⟨_, rfl⟩
      rw [hWa] at HWA ⊢
      clear hWa
      have hlX := (Array.getElem?_eq_some_iff.1 hl).1
      have hlW : Wa.heap[D2 + 1]? = some (.loop r) := (HWA.out.2.block _ hlX).trans hl
      refine ⟨hlW, ?_⟩
      rw [hrb]
      obtain ⟨X2, hX2⟩ : ∃ X2, Wa.putObj (D2 + 1) (.loop (bz r)) = X2 := ⟨_, rfl⟩
      have K2 : KeptF (fun b => b = D2 + 1) X X2 := by rw [← hX2]; exact (KeptF.of_after (F := fun b => b = D2 + 1) HWA.out.2).trans (putObj_kept (F := fun b => b = D2 + 1) Wa (D2 + 1) _ rfl) (fun _ _ h => h)
      have hb2 : X2.heap[D2 + 1]? = some (.loop (bz r)) := by rw [← hX2]; exact World.putObj_heap_same (Array.getElem?_eq_some_iff.1 hlW).1
      have hd2 : X2.heap[D2]? = some (.deferred (some [])) := (K2.block D2 (Array.getElem?_eq_some_iff.1 hd).1 (by omega)).trans hd
      have ht2 : RowIs X2 w.heap.size 56 [.slice va m vc] := K2.row hrt3 (by omega)
      have hc2 : RowIs X2 X.heap.size 63 (ccell s.id s.ch s.gone) := by rw [← hX2]; unfold RowIs; rw [World.putObj_heap_other (by omega)]; exact HWA.out.1
      have hbne : ∀ b, (Value.slice va m vc).ownBlock = some b → b ≠ D2 + 1 := fun b hb => by have := (own_lt ho hb).1; omega
      have ho2 : X2.ownsRow (D2 + 2) 5 1 (.slice va m vc) (V.map (chAt st)).length (c8 (V.map (chAt st))) := own_same ho (fun b hb => K2.block b (own_lt ho hb).2.1 (hbne b hb))
      have hsz2 : D2 + 2 ≤ X2.heap.size := Nat.le_trans hsz K2.size
      have hgc : (ccell s.id s.ch s.gone)[33]? = some (.int .u8 (s.ch.toNat : Int)) := by unfold ccell; rw [List.getElem?_append_right (by rw [idc_len hok]; omega), idc_len hok]; rfl
      obtain ⟨va2, m2, vc2, w5, hr5, ho5, hg5, hl5⟩ := run_app56 (w := X2.alloc (.cells #[.int .u8 (s.ch.toNat : Int)] 5)) (base := D2 + 2) (b := s.ch) 56 (own_same ho2 (fun b hb => Below.heap_alloc X2 _ b (own_lt ho2 hb).2.1)) (g := X2.heap.size) (RowIs.new X2 5 _) (by rw [List.length_map]; have := HRN.out.2.2; omega) (by rw [World.size_alloc]; omega)
      have hg1 : X2.grownBy w5 (Value.slice va m vc).ownBlock := World.grownBy.trans (grown_alloc X2 _ _) hg5
      have hglt : w.heap.size < X2.heap.size := ht2.lt
      have htb : some w.heap.size ≠ (Value.slice va m vc).ownBlock := fun e => by have := (own_lt ho e.symm).1; omega
      have ht5 : RowIs w5 w.heap.size 56 [.slice va m vc] := by unfold RowIs; rw [hg1.block _ hglt htb]; exact ht2
      have hloc : ∀ b, (Value.slice va2 m2 vc2).ownBlock = some b → (Value.slice va m vc).ownBlock = some b ∨ X2.heap.size + 1 ≤ b := fun b hb => by
        rcases hl5 with e | e
        · rw [e] at hb; exact .inl hb
        · rw [e, World.size_alloc] at hb; cases hb; exact .inr (Nat.le_refl _)
      rw [hX2]
      refine wpIn_block ?_
      refine wpIn_region_lit ?_
      refine wpListIn_run rfl (fun _ => trivial) (fun _ h => by cases h) (x_loadT (x := .tmp 3) (t := 56) (g := w.heap.size) (j := 0) Try.underlying56 rfl (by kernel_rfl) (by kernel_rfl) (ht2.cell (j := 0) rfl)) ?_
      refine wpListIn_run (v := .pointer (some ⟨X.heap.size, 33, none⟩)) (w' := X2) rfl (fun _ => trivial) (fun _ h => by cases h) (by kernel_rfl) ?_
      refine wpListIn_run rfl (fun _ => trivial) (fun _ h => by cases h) (x_loadT (x := .tmp 9) (t := 5) (g := X.heap.size) (j := 33) Try.underlying5 rfl (by kernel_rfl) (by kernel_rfl) (hc2.cell hgc)) ?_
      refine wpListIn_run rfl (fun _ => trivial) (fun _ h => by cases h) (x_bs56 (x := .tmp 10) (b := s.ch) (by kernel_rfl) (by kernel_rfl)) ?_
      refine wpListIn_run rfl (fun _ => trivial) (fun _ h => by cases h) (x_app56 (s := .tmp 8) (x := .tmp 11) (by kernel_rfl) (by kernel_rfl) (by kernel_rfl) hr5) ?_
      refine wpListIn_st rfl rfl (fun _ => trivial) (fun _ h => by cases h) (x_st56 (x := .tmp 3) (y := .tmp 12) (g := w.heap.size) (p := 0) (va := va2) (m := m2) (c := vc2) (by kernel_rfl) (by kernel_rfl) (by kernel_rfl) (ht5.cell (j := 0) rfl) (ht5.frozen 0)) ?_
      refine wpListIn_nil ?_
      show _ ∧ _
      rw [hreq]
      have nl : (Value.slice va m vc).ownBlock ≠ some (D2 + 1) := fun e => hbne _ e rfl
      have nd : (Value.slice va m vc).ownBlock ≠ some D2 := fun e => by have := (own_lt ho e).1; omega
      have hl2s : D2 + 1 < X2.heap.size := (Array.getElem?_eq_some_iff.1 hb2).1
      have hl5' : w5.heap[D2 + 1]? = some (.loop (bz r)) := (hg1.block _ hl2s (fun e => nl e.symm)).trans hb2
      have hl6 : (w5.setCell ⟨w.heap.size, 0, none⟩ (.slice va2 m2 vc2)).heap[D2 + 1]? = some (.loop (bz r)) := (Below.heap_setCell w5 ⟨w.heap.size, 0, none⟩ _ (D2 + 1) (by show D2 + 1 ≠ w.heap.size; omega)).trans hl5'
      have hlt6 := (Array.getElem?_eq_some_iff.1 hl6).1
      refine ⟨hl6, .inl ⟨rfl, fun b => b = w.heap.size ∨ b = D2 + 1 ∨ (Value.slice va2 m2 vc2).ownBlock = some b, ⟨va2, m2, vc2, ?_, ?_, fun b => Iff.rfl, World.putObj_heap_same hlt6, ?_, ?_⟩, ?_, ?_⟩⟩
      · unfold RowIs; rw [World.putObj_heap_other (by omega)]; exact ht5.set 0 _
      · have e1 : (V ++ [t]).map (chAt st) = V.map (chAt st) ++ [s.ch] := by rw [List.map_append, List.map_singleton, chAt_of hs]
        rw [e1]
        refine own_same ho5 (fun b hb => ?_)
        have hb1 := (own_lt ho5 hb).1
        exact (World.putObj_heap_other (by omega)).trans (Below.heap_setCell w5 ⟨w.heap.size, 0, none⟩ _ b (by show b ≠ w.heap.size; omega))
      · refine (World.putObj_heap_other (by omega)).trans ?_
        refine (Below.heap_setCell w5 ⟨w.heap.size, 0, none⟩ _ D2 (by show D2 ≠ w.heap.size; omega)).trans ?_
        exact (hg1.block _ (Array.getElem?_eq_some_iff.1 hd2).1 (fun e => nd e.symm)).trans hd2
      · have h1 := hg1.size
        have h2 : (w5.setCell ⟨w.heap.size, 0, none⟩ (.slice va2 m2 vc2)).heap.size = w5.heap.size := by show (w5.heap.modify _ _).size = _; rw [Array.size_modify]
        have h3 : ((w5.setCell ⟨w.heap.size, 0, none⟩ (.slice va2 m2 vc2)).putObj (D2 + 1) (.loop r)).heap.size = (w5.setCell ⟨w.heap.size, 0, none⟩ (.slice va2 m2 vc2)).heap.size := by simp [World.putObj]
        omega
      · exact (((K2.mono (fun x _ hx => (hf x).2 (.inr (.inl hx)))).trans (KeptF.of_grown (F := F) hg1 (fun b hb => (hf b).2 (.inr (.inr hb)))) (fun _ _ h => h)).trans (KeptF.set (F := F) w5 ⟨w.heap.size, 0, none⟩ _ ((hf _).2 (.inl rfl))) (fun _ _ h => h)).trans (putObj_kept (F := F) _ (D2 + 1) _ ((hf _).2 (.inr (.inl rfl)))) (fun _ _ h => h)
      · rintro b (e | e | e)
        · exact .inl ((hf b).2 (.inl e))
        · exact .inl ((hf b).2 (.inr (.inl e)))
        · rcases hloc b e with h | h
          · exact .inl ((hf b).2 (.inr (.inr h)))
          · have := K2.size; exact .inr (by omega))
    HRN.out.1 HRN.out.2.1 HRN.out.2.2 (HR.out.after hA3) hg3 (fun b hb h => by
      have := (HR.out.foot hb).2
      rcases h with e | e | e
      · omega
      · omega
      · cases e) ⟨none, 0, 0, hy3, World.ownsRow_nil W3 (D2 + 2) 5 1, fun b => Iff.rfl, hl3, hd3, by omega⟩
  refine hmain.mono ?_
  rintro e W4 ⟨hv, V, F, hor, hk4, hn4⟩
  refine ⟨hv, ?_⟩
  rcases hor with ⟨⟨U, hre, hVU⟩, va, m, vc, hrt4, ho, hf, hl, hd, hsz⟩ | hx
  · refine ⟨r, hl, by rw [hrst]; simp, ?_⟩
    have hbne : ∀ b, (Value.slice va m vc).ownBlock = some b → b ≠ D2 + 1 ∧ b ≠ D2 := fun b hb => by have := (own_lt ho hb).1; omega
    have HX := show Hid (Reach st U [] ∧ (∀ o1 o2 : Obj, Own ((W4.putObj (D2 + 1) o1).putObj D2 o2) w.heap.size (.slice va m vc) (textOf st U) ∧ After w ((W4.putObj (D2 + 1) o1).putObj D2 o2))) from ⟨hre, fun o1 o2 => ⟨by
      have := own_mono (own_same (w' := (W4.putObj (D2 + 1) o1).putObj D2 o2) ho (fun b hb => (World.putObj_heap_other (hbne b hb).2).trans (World.putObj_heap_other (hbne b hb).1))) (show w.heap.size ≤ D2 + 2 by omega)
      rw [hVU] at this
      exact this, by
      have k1 : KeptF (fun b => w.heap.size ≤ b) w W4 := (KeptF.of_after hA3).trans (hk4.mono (G := fun b => w.heap.size ≤ b) (fun x _ h => by rcases h with e | e | e; (show w.heap.size ≤ x; omega); (show w.heap.size ≤ x; omega); cases e)) (fun _ _ h => h)
      have k2 : KeptF (fun b => w.heap.size ≤ b) w ((W4.putObj (D2 + 1) o1).putObj D2 o2) := (k1.trans (putObj_kept (F := fun b => w.heap.size ≤ b) W4 (D2 + 1) o1 (by show w.heap.size ≤ D2 + 1; omega)) (fun _ _ h => h)).trans (putObj_kept (F := fun b => w.heap.size ≤ b) _ D2 o2 (by show w.heap.size ≤ D2; omega)) (fun _ _ h => h)
      exact k2.below (Nat.le_refl _) (fun _ h => h)⟩⟩
    have hK : ∀ o1 : Obj, (W4.putObj (D2 + 1) o1).heap[D2]? = some (.deferred (some [])) := fun o1 => (World.putObj_heap_other (by omega)).trans hd
    have cT : ∀ o1 : Obj, (W4.putObj (D2 + 1) o1).cell? ⟨w.heap.size, 0, none⟩ = some (.slice va m vc) := fun o1 => by
      have h1 : RowIs (W4.putObj (D2 + 1) o1) w.heap.size 56 [.slice va m vc] := by unfold RowIs; rw [World.putObj_heap_other (by omega)]; exact hrt4
      exact h1.cell rfl
    rw [hrp]
    generalize hob : Obj.loop _ = ob
    have cT1 := cT ob
    have hK1 := hK ob
    clear hmain hl hd hk4 hn4 hre hVU hrt4 ho hf hsz hbne cT hK hob
    generalize hW5 : W4.putObj (D2 + 1) ob = W5 at cT1 hK1 ⊢
    have HX2 := show Hid (∀ o2 : Obj, Own (W5.putObj D2 o2) w.heap.size (.slice va m vc) (textOf st U) ∧ After w (W5.putObj D2 o2)) from fun o2 => by rw [← hW5]; exact HX.out.2 ob o2
    clear hW5
    gi_wp2
    refine ⟨by simp, .inl ⟨_, _, rfl, run_takeDeferred hK1, ?_⟩⟩
    exact ⟨_, results_tmp rfl _ _ _, _, U, rfl, HX.out.1, HX2.out _⟩
  · exact hx.elim
end Go.Proofs.Ytiglenomigipmaa
