/-
  slices.AppendSeq (43), over the order: all cells, in new memory.
-/
import Derived.Test.YtiglenomigipmaaSG
namespace Go.Proofs.Ytiglenomigipmaa
open Go.RowKit Go.Shelf
attribute [local go_sem] Oper.semAt_some
/-- The cell at a place, as it is told. -/
def cOf (st : List Stm) (t : Nat) : List Value := ccell (stAt st t).id (stAt st t).ch (stAt st t).gone
theorem cOf_of {st : List Stm} {t : Nat} {s : Stm} (h : st[t]? = some s) : cOf st t = ccell s.id s.ch s.gone := by unfold cOf; rw [stAt_of h]
theorem info63 : ∃ i z, Try.prog.info? 63 = some i ∧ i.zero = some z ∧ i.size = 35 ∧ i.bytes = 48 ∧ z.cells = zc63.toArray := by
  have h : (Try.prog.info? 63).map (fun i => (i.zero.map (·.cells), i.size, i.bytes)) = some (some zc63.toArray, 35, 48) := by kernel_rfl
  obtain ⟨i, hi, hz⟩ := Option.map_eq_some_iff.1 h
  simp only [Prod.mk.injEq] at hz
  obtain ⟨hz, hs, hb⟩ := hz
  obtain ⟨z, hz1, hz2⟩ := Option.map_eq_some_iff.1 hz
  exact ⟨i, z, hi, hz1, hs, hb, hz2⟩
theorem zc63_len : zc63.length = 35 := ccell_len zId_ok 0 false
theorem run_app54 {w : World} {base : Nat} {v : Value} {L : List (List Value)} (ty : TypeId) (h : OwnL w base 63 35 v L) {g : Nat} {cs : List Value} (h35 : cs.length = 35) (h1 : ∀ u ∈ cs, u.oneCell' = true) (hr : RowIs w g 63 cs) (hl : L.length ≤ 1000000) (hb : base ≤ w.heap.size) :
    ∃ va m vc w', (Builtin.append_ #[54, 54] ty #[v, .slice (some ⟨g, 0, none⟩) 1 1]).run Try.prog w = .ok (.slice va m vc) w' ∧ OwnL w' base 63 35 (.slice va m vc) (L ++ [cs]) ∧ w.grownBy w' v.ownBlock ∧ ((Value.slice va m vc).ownBlock = v.ownBlock ∨ (Value.slice va m vc).ownBlock = some w.heap.size) := by
  obtain ⟨i, z, hi, hz, hsz, hby, hzc⟩ := info63
  have hzs : z.cells.size = 35 := by rw [hzc]; simp [zc63_len]
  obtain ⟨v', w', k1, k2, k3, _, k5⟩ := run_append_own_at (P := Try.prog) w base 54 ty 63 i z 35 48 Try.underlying54 hi hz hsz hby hzs (by omega) v L.length L.flatten h.2 ⟨g, 0, none⟩ 1 1 cs (by omega) (fun j u hu => by rw [Addr.add_lit]; exact hr.cellsAt j u hu) h1 (by unfold maxLen; omega) (by omega) hb
  have k2' : OwnL w' base 63 35 v' (L ++ [cs]) := ⟨h.1.snoc h35, by rw [List.length_append, List.flatten_append]; simpa using k2⟩
  rcases own_row k2'.2 with ⟨hv, _, _⟩ | ⟨g2, cap2, cs2, hv, _⟩
  · subst hv; exact ⟨_, _, _, w', k1, k2', k3, k5⟩
  · subst hv; exact ⟨_, _, _, w', k1, k2', k3, k5⟩
section
variable {oi : Oper} {a : Act} {w : World}
set_option maxRecDepth 100000 in
theorem x_bs54 {x : Operand} {cs : List Value} (hl : cs.length = 35) (hop : oi.op = .buildSlice 54 1 #[(0, x)]) (hx : a.eval x = .agg cs.toArray) : (execOp a.eval oi).run Try.prog w = .ok (.value (.slice (some ⟨w.heap.size, 0, none⟩) 1 1)) (w.alloc (.cells cs.toArray 63)) := by
  obtain ⟨i, z, hi, hz, hsz, hby, hzc⟩ := info63
  have hzs : z.cells.size = 35 := by rw [hzc]; simp [zc63_len]
  have hb : (Instr.buildSlice 54 1 #[(0, .agg cs.toArray)]).run Try.prog w = .ok (.slice (some ⟨w.heap.size, 0, none⟩) 1 1) (w.alloc (.cells cs.toArray 63)) := by
    refine run_buildSlice (P := Try.prog) w 54 63 1 #[(0, .agg cs.toArray)] cs.toArray i z Try.underlying54 hi hz (by rw [hsz]; omega) (by rw [hsz]; omega) ?_
    rw [hsz]
    have := Great.fill_whole (s := 35) (by omega) [Value.agg cs.toArray] ((Array.range (1 * 35)).map (z.cells[· % z.cells.size]!)) (fun v hv' => by rw [List.mem_singleton] at hv'; subst hv'; simp [Value.cells, hl]) (by simp)
    refine Eq.trans this ?_
    simp [Value.cells]
  unfold execOp
  simp [hop, hx, hb]
theorem x_app54 {s x : Operand} {v u v' : Value} {w' : World} (hop : oi.op = .call { callee := .builtin .append, args := #[s, x], argTypes := #[54, 54] }) (hs : a.eval s = v) (hx : a.eval x = u) (hr : (Builtin.append_ #[54, 54] oi.type #[v, u]).run Try.prog w = .ok v' w') : (execOp a.eval oi).run Try.prog w = .ok (.value v') w' := by
  unfold execOp
  simp only [hop, resolve, invoke, builtin, Sem.run_bind, Sem.run_pure, Result.andThen_ok, List.map_toArray, List.map_cons, List.map_nil, hs, hx, hr]
theorem x_st54 {x y : Operand} {g p : Nat} {va : Option Addr} {m c : Nat} {u : Value} (hop : oi.op = .store 54 x y) (hx : a.eval x = .pointer (some ⟨g, p, none⟩)) (hy : a.eval y = .slice va m c) (hc : w.cell? ⟨g, p, none⟩ = some u) (hf : w.frozen? ⟨g, p, none⟩ = false) : (execOp a.eval oi).run Try.prog w = .ok .skip (w.setCell ⟨g, p, none⟩ (.slice va m c)) := by
  unfold execOp
  simp only [hop, hx, hy]
  simp [go_sem, hc, hf, Instr.storeAt, Instr.sureAddr]
end
/-- The cells so far, in their box; the loop's record. -/
def CJ (st : List Stm) (B T0 gt l1 D1 : Nat) (r : Loop) (V : List Nat) (F : Nat → Prop) (X : World) : Prop :=
  ∃ va m vc, RowIs X gt 54 [.slice va m vc] ∧ OwnL X B 63 35 (.slice va m vc) (V.map (cOf st)) ∧ (∀ b, F b ↔ b = gt ∨ b = l1 ∨ (Value.slice va m vc).ownBlock = some b) ∧ X.heap[l1]? = some (.loop r) ∧ X.heap[D1]? = some (.deferred (some [])) ∧ T0 ≤ X.heap.size
theorem CJ.ok {st : List Stm} {B T0 gt l1 D1 : Nat} {r : Loop} (h1 : gt < T0) (h2 : l1 < T0) (h3 : D1 < T0) : Jok T0 (CJ st B T0 gt l1 D1 r) := by
  refine ⟨fun V F A B ⟨va, m, vc, hr, ho, hf, hl, hd, hs⟩ hk => ?_, fun V F A ⟨va, m, vc, hr, ho, hf, hl, hd, hs⟩ b hb => ?_⟩
  · refine ⟨va, m, vc, hk.row hr (fun h => by omega), ho.same (fun b hb => hk.block b (own_lt ho.2 hb).2.1 (fun h => h.2 ((hf b).2 (.inr (.inr hb))))), hf, ?_, ?_, Nat.le_trans hs hk.size⟩
    · rw [hk.block l1 (Array.getElem?_eq_some_iff.1 hl).1 (fun h => by omega)]; exact hl
    · rw [hk.block D1 (Array.getElem?_eq_some_iff.1 hd).1 (fun h => by omega)]; exact hd
  · rcases (hf b).1 hb with e | e | e
    · rw [e]; exact hr.lt
    · rw [e]; exact (Array.getElem?_eq_some_iff.1 hl).1
    · exact (own_lt ho.2 e).2.1
theorem ne_obj {X : World} {b k : Nat} {t : TypeId} {cs : List Value} {ob : Obj} (hr : RowIs X b t cs) (ho : X.heap[k]? = some ob) (hn : ∀ c t u, ob ≠ .cells c t u) : b ≠ k := fun e => by
  subst e
  unfold RowIs at hr
  rw [hr] at ho
  exact hn _ _ _ (Option.some.inj ho).symm
theorem ne_own {X : World} {B b k : Nat} {t : TypeId} {sz : Nat} {v : Value} {L : List (List Value)} {cs : List Value} {t' : TypeId} (h : OwnL X B t sz v L) (hb : v.ownBlock = some b) (hr : RowIs X k t' cs) (hn : t ≠ t') : b ≠ k := fun e => by
  subst e
  obtain ⟨_, _, cs', hc⟩ := own_lt h.2 hb
  exact hn (hc.ty hr).1
set_option maxRecDepth 100000 in
set_option maxHeartbeats 6400000 in
theorem AppSeq_any {w : World} {base g gr B N : Nat} {st : List Stm} {D : RwD} {va0 : Option Addr} {n0 c0 : Nat} (h : RowAt w base g st D) (hG : RowIs w gr 25 [.pointer (some ⟨g, 0, none⟩)]) (hO : OwnL w B 63 35 (.slice va0 n0 c0) []) (hB : B ≤ w.heap.size) (hN : ∀ V T, Reach st V T → V.length + T.length ≤ N) (hin : ∀ V T, Reach st V T → ∀ t ∈ T, t < st.length) (hsm : N ≤ 1000000) :
    Calls Try.prog 43 #[.slice va0 n0 c0, .func (.func 51) #[] #[.pointer (some ⟨gr, 0, none⟩)]] w fun e w' => ∃ v U, e = .returned v ∧ Reach st U [] ∧ OwnL w' B 63 35 v (U.map (cOf st)) ∧ KeptF (fun b => (Value.slice va0 n0 c0).ownBlock = some b) w w' := by
  refine (callsIn_wide (n := 7)).1 ?_
  obtain ⟨W0, hW0⟩ : ∃ W0, w.alloc (.cells #[.slice va0 n0 c0] 54) = W0 := ⟨_, rfl⟩
  have HA0 : Hid (After w W0 ∧ RowIs W0 w.heap.size 54 [.slice va0 n0 c0] ∧ W0.heap.size = w.heap.size + 1) := by
    rw [← hW0]; exact ⟨after_alloc (After.refl w) _, RowIs.new w 54 _, by simp⟩
  have HR : Hid (RowAt w base g st D) := h
  have HGO : Hid (RowIs w gr 25 [.pointer (some ⟨g, 0, none⟩)] ∧ OwnL w B 63 35 (.slice va0 n0 c0) [] ∧ B ≤ w.heap.size) := ⟨hG, hO, hB⟩
  have HRN : Hid ((∀ V T, Reach st V T → V.length + T.length ≤ N) ∧ (∀ V T, Reach st V T → ∀ t ∈ T, t < st.length) ∧ N ≤ 1000000) := ⟨hN, hin, hsm⟩
  clear h hN hin hsm hG hO hB
  refine callsIn_of_wp_marks Try.func43 rfl trivial ?_ rfl
  simp only [Try.ntmps43, List.size_toArray, List.length_cons, List.length_nil, Nat.reduceAdd, Nat.reduceSub, Array.replicate_succ, Array.replicate_zero, List.push_toArray, List.append_toArray, List.nil_append, List.cons_append]
  gi_wp2_with (rw [hW0])
  refine rf_enter (n := 7) rfl (by omega) (gf := 51) (lb := #[.pointer (some ⟨gr, 0, none⟩)]) rfl trivial (enters_of Try.func51 (by kernel_rfl) rfl) ?_
  intro fn _ r hr
  have hrst : r.state = .ready := by rw [hr]
  have hrp : r.pending = none := by rw [hr]
  have hrps : r.params = #[7] := by rw [hr]
  have hra := congrArg Loop.assign hr
  have hrb := congrArg Loop.body hr
  have hrt := congrArg Loop.tmps hr
  dsimp only at hra hrb hrt
  clear hr
  have hreq : rdy r = r := by unfold rdy; cases r; simp_all
  obtain ⟨W3, hW3⟩ : ∃ W3, (W0.alloc (.deferred (some []))).alloc (.loop r) = W3 := ⟨_, rfl⟩
  obtain ⟨D2, hD2⟩ : ∃ D2, W0.heap.size = D2 := ⟨_, rfl⟩
  have hs3 : W3.heap.size = D2 + 2 := by rw [← hW3, ← hD2]; simp
  have ha3 : After W0 W3 := by rw [← hW3]; exact after_alloc (after_alloc (After.refl W0) _) _
  have hl3 : W3.heap[D2 + 1]? = some (.loop r) := by
    rw [← hW3, ← hD2]; have := World.alloc_heap_new (W0.alloc (.deferred (some []))) (.loop r); rwa [World.size_alloc] at this
  have hd3 : W3.heap[D2]? = some (.deferred (some [])) := by
    rw [← hW3, ← hD2]; exact (Below.heap_alloc _ _ _ (by simp)).trans (World.alloc_heap_new W0 _)
  have hA3 : After w W3 := HA0.out.1.trans ha3
  have hlt2 : w.heap.size + 1 = D2 := by rw [← hD2]; exact HA0.out.2.2.symm
  have hy3 : RowIs W3 w.heap.size 54 [.slice va0 n0 c0] := HA0.out.2.1.below ha3 HA0.out.2.1.lt
  have hg3 : RowIs W3 gr 25 [.pointer (some ⟨g, 0, none⟩)] := HGO.out.1.below hA3 HGO.out.1.lt
  have ho3 : OwnL W3 B 63 35 (.slice va0 n0 c0) [] := HGO.out.2.1.same (fun b hb => hA3.block b (own_lt HGO.out.2.1.2 hb).2.1)
  rw [hW3, hD2]
  clear hW3 hD2 ha3
  have hmain := ord_in (D2 + 1) gr 5 (N := N) (CJ st B (D2 + 2) w.heap.size (D2 + 1) D2 r) (fun _ _ _ => False) (W := W3) (F0 := fun b => b = w.heap.size ∨ b = D2 + 1 ∨ (Value.slice va0 n0 c0).ownBlock = some b)
    (by rw [hs3]; exact CJ.ok (by omega) (by omega) (by omega)) (fun V F t s X T hTJ hKX hVN hre hs => by
      obtain ⟨va, m, vc, hrt3, ho, hf, hl, hd, hsz⟩ := hTJ
      have hok := HR.out.ok s (List.mem_of_getElem? hs)
      have HWA := show Hid (RowIs ((X.alloc (.cells zc63.toArray 63)).setRow X.heap.size (ccell s.id s.ch s.gone).toArray) X.heap.size 63 (ccell s.id s.ch s.gone) ∧ After X ((X.alloc (.cells zc63.toArray 63)).setRow X.heap.size (ccell s.id s.ch s.gone).toArray)) from ⟨setRow_heap _ _ _ _ 63 _ (heap_alloc_new X _), Below.row (after_alloc (After.refl X) _) (Nat.le_refl _) _⟩
      refine rf_round hl hrst (by rw [hrps]; rfl) trivial ?_
      rw [hra, hrt, hrps]
      refine wpIn_region_lit ?_
      refine wpListIn_run rfl (fun _ => trivial) (fun _ h => by cases h) (x_al63 rfl) ?_
      refine wpListIn_st (w' := (X.alloc (.cells zc63.toArray 63)).setRow X.heap.size (ccell s.id s.ch s.gone).toArray) rfl rfl (fun _ => trivial) (fun _ h => by cases h) (x_st63 (x := .tmp 5) (y := .tmp 7) (g := X.heap.size) (s := s) (cs := zc63) hok (ccell_len zId_ok 0 false) (by kernel_rfl) (by kernel_rfl) (by kernel_rfl) (RowIs.new X 63 zc63)) ?_
      refine wpListIn_nil ?_
      obtain ⟨Wa, hWa⟩ : ∃ Wa, (X.alloc (.cells zc63.toArray 63)).setRow X.heap.size (ccell s.id s.ch s.gone).toArray = Wa := ⟨_, rfl⟩
      rw [hWa] at HWA ⊢
      clear hWa
      have hlX := (Array.getElem?_eq_some_iff.1 hl).1
      have hlW : Wa.heap[D2 + 1]? = some (.loop r) := (HWA.out.2.block _ hlX).trans hl
      refine ⟨hlW, ?_⟩
      rw [hrb]
      obtain ⟨X2, hX2⟩ : ∃ X2, Wa.putObj (D2 + 1) (.loop (bz r)) = X2 := ⟨_, rfl⟩
      have K2 : KeptF (fun b => b = D2 + 1) X X2 := by rw [← hX2]; exact (KeptF.of_after (F := fun b => b = D2 + 1) HWA.out.2).trans (putObj_kept (F := fun b => b = D2 + 1) Wa (D2 + 1) _ rfl) (fun _ _ h => h)
      have hb2 : X2.heap[D2 + 1]? = some (.loop (bz r)) := by rw [← hX2]; exact World.putObj_heap_same (Array.getElem?_eq_some_iff.1 hlW).1
      have hd2 : X2.heap[D2]? = some (.deferred (some [])) := (K2.block D2 (Array.getElem?_eq_some_iff.1 hd).1 (by omega)).trans hd
      have ht2 : RowIs X2 w.heap.size 54 [.slice va m vc] := K2.row hrt3 (by omega)
      have hc2 : RowIs X2 X.heap.size 63 (ccell s.id s.ch s.gone) := by rw [← hX2]; unfold RowIs; rw [World.putObj_heap_other (by omega)]; exact HWA.out.1
      have hbne : ∀ b, (Value.slice va m vc).ownBlock = some b → b ≠ D2 + 1 ∧ b ≠ D2 ∧ b ≠ w.heap.size := fun b hb => by
        obtain ⟨_, _, cs', hc'⟩ := own_lt ho.2 hb
        exact ⟨ne_obj hc' hl (fun _ _ _ e => by cases e), ne_obj hc' hd (fun _ _ _ e => by cases e), ne_own ho hb hrt3 (by decide)⟩
      have ho2 : OwnL X2 B 63 35 (.slice va m vc) (V.map (cOf st)) := ho.same (fun b hb => K2.block b (own_lt ho.2 hb).2.1 (hbne b hb).1)
      have hsz2 : D2 + 2 ≤ X2.heap.size := Nat.le_trans hsz K2.size
      obtain ⟨va2, m2, vc2, w5, hr5, ho5, hg5, hl5⟩ := run_app54 (w := X2.alloc (.cells (ccell s.id s.ch s.gone).toArray 63)) (base := B) 54 (ho2.same (fun b hb => Below.heap_alloc X2 _ b (own_lt ho2.2 hb).2.1)) (g := X2.heap.size) (cs := ccell s.id s.ch s.gone) (ccell_len hok s.ch s.gone) (ccell_one s.id s.ch s.gone) (RowIs.new X2 63 _) (by rw [List.length_map]; have := HRN.out.2.2; omega) (by rw [World.size_alloc]; have := HGO.out.2.2; omega)
      have hg1 : X2.grownBy w5 (Value.slice va m vc).ownBlock := World.grownBy.trans (grown_alloc X2 _ _) hg5
      have hglt : w.heap.size < X2.heap.size := ht2.lt
      have htb : some w.heap.size ≠ (Value.slice va m vc).ownBlock := fun e => (hbne _ e.symm).2.2 rfl
      have ht5 : RowIs w5 w.heap.size 54 [.slice va m vc] := by unfold RowIs; rw [hg1.block _ hglt htb]; exact ht2
      have hloc : ∀ b, (Value.slice va2 m2 vc2).ownBlock = some b → (Value.slice va m vc).ownBlock = some b ∨ X2.heap.size + 1 ≤ b := fun b hb => by
        rcases hl5 with e | e
        · rw [e] at hb; exact .inl hb
        · rw [e, World.size_alloc] at hb; cases hb; exact .inr (Nat.le_refl _)
      have hbne2 : ∀ b, (Value.slice va2 m2 vc2).ownBlock = some b → b ≠ D2 + 1 ∧ b ≠ D2 ∧ b ≠ w.heap.size := fun b hb => by
        rcases hloc b hb with e | e
        · exact hbne b e
        · exact ⟨by omega, by omega, by omega⟩
      rw [hX2]
      refine wpIn_block ?_
      refine wpIn_region_lit ?_
      refine wpListIn_run rfl (fun _ => trivial) (fun _ h => by cases h) (x_loadT (x := .tmp 2) (t := 54) (g := w.heap.size) (j := 0) Try.underlying54 rfl (by kernel_rfl) (by kernel_rfl) (ht2.cell (j := 0) rfl)) ?_
      refine wpListIn_run rfl (fun _ => trivial) (fun _ h => by cases h) (x_ld63c (x := .tmp 5) (g := X.heap.size) (p := 0) hok (by kernel_rfl) (by kernel_rfl) hc2.range0) ?_
      refine wpListIn_run rfl (fun _ => trivial) (fun _ h => by cases h) (x_bs54 (x := .tmp 9) (cs := ccell s.id s.ch s.gone) (ccell_len hok s.ch s.gone) (by kernel_rfl) (by kernel_rfl)) ?_
      refine wpListIn_run rfl (fun _ => trivial) (fun _ h => by cases h) (x_app54 (s := .tmp 8) (x := .tmp 10) (by kernel_rfl) (by kernel_rfl) (by kernel_rfl) hr5) ?_
      refine wpListIn_st rfl rfl (fun _ => trivial) (fun _ h => by cases h) (x_st54 (x := .tmp 2) (y := .tmp 11) (g := w.heap.size) (p := 0) (va := va2) (m := m2) (c := vc2) (by kernel_rfl) (by kernel_rfl) (by kernel_rfl) (ht5.cell (j := 0) rfl) (ht5.frozen 0)) ?_
      refine wpListIn_nil ?_
      show _ ∧ _
      rw [hreq]
      have nl : (Value.slice va m vc).ownBlock ≠ some (D2 + 1) := fun e => (hbne _ e).1 rfl
      have nd : (Value.slice va m vc).ownBlock ≠ some D2 := fun e => (hbne _ e).2.1 rfl
      have hl2s : D2 + 1 < X2.heap.size := (Array.getElem?_eq_some_iff.1 hb2).1
      have hl5' : w5.heap[D2 + 1]? = some (.loop (bz r)) := (hg1.block _ hl2s (fun e => nl e.symm)).trans hb2
      have hl6 : (w5.setCell ⟨w.heap.size, 0, none⟩ (.slice va2 m2 vc2)).heap[D2 + 1]? = some (.loop (bz r)) := (Below.heap_setCell w5 ⟨w.heap.size, 0, none⟩ _ (D2 + 1) (by show D2 + 1 ≠ w.heap.size; omega)).trans hl5'
      have hlt6 := (Array.getElem?_eq_some_iff.1 hl6).1
      refine ⟨hl6, .inl ⟨rfl, fun b => b = w.heap.size ∨ b = D2 + 1 ∨ (Value.slice va2 m2 vc2).ownBlock = some b, ⟨va2, m2, vc2, ?_, ?_, fun b => Iff.rfl, World.putObj_heap_same hlt6, ?_, ?_⟩, ?_, ?_⟩⟩
      · unfold RowIs; rw [World.putObj_heap_other (by omega)]; exact ht5.set 0 _
      · have e1 : (V ++ [t]).map (cOf st) = V.map (cOf st) ++ [ccell s.id s.ch s.gone] := by rw [List.map_append, List.map_singleton, cOf_of hs]
        rw [e1]
        refine ho5.same (fun b hb => ?_)
        have hb1 := hbne2 b hb
        exact (World.putObj_heap_other hb1.1).trans (Below.heap_setCell w5 ⟨w.heap.size, 0, none⟩ _ b hb1.2.2)
      · refine (World.putObj_heap_other (by omega)).trans ?_
        refine (Below.heap_setCell w5 ⟨w.heap.size, 0, none⟩ _ D2 (by show D2 ≠ w.heap.size; omega)).trans ?_
        exact (hg1.block _ (Array.getElem?_eq_some_iff.1 hd2).1 (fun e => nd e.symm)).trans hd2
      · have h1 := hg1.size
        have h2 : (w5.setCell ⟨w.heap.size, 0, none⟩ (.slice va2 m2 vc2)).heap.size = w5.heap.size := by show (w5.heap.modify _ _).size = _; rw [Array.size_modify]
        have h3 : ((w5.setCell ⟨w.heap.size, 0, none⟩ (.slice va2 m2 vc2)).putObj (D2 + 1) (.loop r)).heap.size = (w5.setCell ⟨w.heap.size, 0, none⟩ (.slice va2 m2 vc2)).heap.size := by simp [World.putObj]
        omega
      · exact (((K2.mono (fun x _ hx => (hf x).2 (.inr (.inl hx)))).trans (KeptF.of_grown (F := F) hg1 (fun b hb => (hf b).2 (.inr (.inr hb)))) (fun _ _ h => h)).trans (KeptF.set (F := F) w5 ⟨w.heap.size, 0, none⟩ _ ((hf _).2 (.inl rfl))) (fun _ _ h => h)).trans (putObj_kept (F := F) _ (D2 + 1) _ ((hf _).2 (.inr (.inl rfl)))) (fun _ _ h => h)
      · rintro b (e | e | e)
        · exact .inl ((hf b).2 (.inl e))
        · exact .inl ((hf b).2 (.inr (.inl e)))
        · rcases hloc b e with h | h
          · exact .inl ((hf b).2 (.inr (.inr h)))
          · have := K2.size; exact .inr (by omega))
    HRN.out.1 HRN.out.2.1 HRN.out.2.2 (HR.out.after hA3) hg3 (fun b hb h => by
      have hlt := (HR.out.foot hb).2
      rcases h with e | e | e
      · omega
      · omega
      · obtain ⟨_, _, cs', hc'⟩ := own_lt HGO.out.2.1.2 e
        exact HR.out.other hc' (by decide) (by decide) (by decide) hb) (fun h => by
      have hlt := HGO.out.1.lt
      rcases h with e | e | e
      · omega
      · omega
      · exact ne_own HGO.out.2.1 e HGO.out.1 (by decide) rfl) ⟨va0, n0, c0, hy3, ho3, fun b => Iff.rfl, hl3, hd3, by omega⟩
  refine hmain.mono ?_
  rintro e W4 ⟨hv, V, F, hor, hk4, hn4⟩
  refine ⟨hv, ?_⟩
  rcases hor with ⟨hre, va, m, vc, hrt4, ho, hf, hl, hd, hsz⟩ | hx
  · refine ⟨r, hl, by rw [hrst]; simp, ?_⟩
    have hbne : ∀ b, (Value.slice va m vc).ownBlock = some b → b ≠ D2 + 1 ∧ b ≠ D2 := fun b hb => by
      obtain ⟨_, _, cs', hc'⟩ := own_lt ho.2 hb
      exact ⟨ne_obj hc' hl (fun _ _ _ e => by cases e), ne_obj hc' hd (fun _ _ _ e => by cases e)⟩
    have HX := show Hid (Reach st V [] ∧ (∀ o1 o2 : Obj, OwnL ((W4.putObj (D2 + 1) o1).putObj D2 o2) B 63 35 (.slice va m vc) (V.map (cOf st)) ∧ KeptF (fun b => (Value.slice va0 n0 c0).ownBlock = some b) w ((W4.putObj (D2 + 1) o1).putObj D2 o2))) from ⟨hre, fun o1 o2 => ⟨ho.same (fun b hb => (World.putObj_heap_other (hbne b hb).2).trans (World.putObj_heap_other (hbne b hb).1)), by
      have k1 : KeptF (fun b => (Value.slice va0 n0 c0).ownBlock = some b) w W4 := (KeptF.of_after hA3).trans hk4 (fun x hx h => by rcases h with e | e | e; omega; omega; exact e)
      exact (k1.trans (putObj_kept (F := fun b => b = D2 + 1) W4 (D2 + 1) o1 rfl) (fun x hx e => by have e : x = D2 + 1 := e; omega)).trans (putObj_kept (F := fun b => b = D2) _ D2 o2 rfl) (fun x hx e => by have e : x = D2 := e; omega)⟩⟩
    have hK : ∀ o1 : Obj, (W4.putObj (D2 + 1) o1).heap[D2]? = some (.deferred (some [])) := fun o1 => (World.putObj_heap_other (by omega)).trans hd
    have cT : ∀ o1 : Obj, (W4.putObj (D2 + 1) o1).cell? ⟨w.heap.size, 0, none⟩ = some (.slice va m vc) := fun o1 => by
      have h1 : RowIs (W4.putObj (D2 + 1) o1) w.heap.size 54 [.slice va m vc] := by unfold RowIs; rw [World.putObj_heap_other (by omega)]; exact hrt4
      exact h1.cell rfl
    rw [hrp]
    generalize hob : Obj.loop _ = ob
    have cT1 := cT ob
    have hK1 := hK ob
    clear hmain hl hd hk4 hn4 hre hrt4 ho hf hsz hbne cT hK hob
    generalize hW5 : W4.putObj (D2 + 1) ob = W5 at cT1 hK1 ⊢
    have HX2 := show Hid (∀ o2 : Obj, OwnL (W5.putObj D2 o2) B 63 35 (.slice va m vc) (V.map (cOf st)) ∧ KeptF (fun b => (Value.slice va0 n0 c0).ownBlock = some b) w (W5.putObj D2 o2)) from fun o2 => by rw [← hW5]; exact HX.out.2 ob o2
    clear hW5
    gi_wp2
    refine ⟨by simp, .inl ⟨_, _, rfl, run_takeDeferred hK1, ?_⟩⟩
    exact ⟨_, results_tmp rfl _ _ _, _, V, rfl, HX.out.1, HX2.out _⟩
  · exact hx.elim
end Go.Proofs.Ytiglenomigipmaa
