/-
  PROVED: for every two slices of puts that a call of stemmalaw11.RgaForks is handed, the call returns true and what was handed in reads afterwards as it read before: a fork is as the row is, and what becomes of one changes nothing of the other. CONDITIONS: none; no input is left out.
-/
import Derived.Test.YtiglenomigipmaaSG
import Derived.Test.YtiglenomigipmaaSW
import Derived.Test.YtiglenomigipmaaSY
import Derived.Shelf.SlMaps.Clone
namespace Go.Proofs.Ytiglenomigipmaa
open Go.RowKit Go.Shelf
attribute [local go_sem] Oper.semAt_some
/-- The cell at a place, as it is told. -/
def cOf (st : List Stm) (t : Nat) : List Value := ccell (stAt st t).id (stAt st t).ch (stAt st t).gone
theorem cOf_of {st : List Stm} {t : Nat} {s : Stm} (h : st[t]? = some s) : cOf st t = ccell s.id s.ch s.gone := by unfold cOf; rw [stAt_of h]
theorem info63 : ∃ i z, Try.prog.info? 63 = some i ∧ i.zero = some z ∧ i.size = 35 ∧ i.bytes = 48 ∧ z.cells = zc63.toArray := by
  have h : (Try.prog.info? 63).map (fun i => (i.zero.map (·.cells), i.size, i.bytes)) = some (some zc63.toArray, 35, 48) := by kernel_rfl
  obtain ⟨i, hi, hz⟩ := Option.map_eq_some_iff.1 h
  simp only [Prod.mk.injEq] at hz
  obtain ⟨hz, hs, hb⟩ := hz
  obtain ⟨z, hz1, hz2⟩ := Option.map_eq_some_iff.1 hz
  exact ⟨i, z, hi, hz1, hs, hb, hz2⟩
theorem zc63_len : zc63.length = 35 := ccell_len zId_ok 0 false
theorem run_app54 {w : World} {base : Nat} {v : Value} {L : List (List Value)} (ty : TypeId) (h : OwnL w base 63 35 v L) {g : Nat} {cs : List Value} (h35 : cs.length = 35) (h1 : ∀ u ∈ cs, u.oneCell' = true) (hr : RowIs w g 63 cs) (hl : L.length ≤ 1000000) (hb : base ≤ w.heap.size) :
    ∃ va m vc w', (Builtin.append_ #[54, 54] ty #[v, .slice (some ⟨g, 0, none⟩) 1 1]).run Try.prog w = .ok (.slice va m vc) w' ∧ OwnL w' base 63 35 (.slice va m vc) (L ++ [cs]) ∧ w.grownBy w' v.ownBlock ∧ ((Value.slice va m vc).ownBlock = v.ownBlock ∨ (Value.slice va m vc).ownBlock = some w.heap.size) := by
  obtain ⟨i, z, hi, hz, hsz, hby, hzc⟩ := info63
  have hzs : z.cells.size = 35 := by rw [hzc]; simp [zc63_len]
  obtain ⟨v', w', k1, k2, k3, _, k5⟩ := run_append_own_at (P := Try.prog) w base 54 ty 63 i z 35 48 Try.underlying54 hi hz hsz hby hzs (by omega) v L.length L.flatten h.2 ⟨g, 0, none⟩ 1 1 cs (by omega) (fun j u hu => by rw [Addr.add_lit]; exact hr.cellsAt j u hu) h1 (by unfold maxLen; omega) (by omega) hb
  have k2' : OwnL w' base 63 35 v' (L ++ [cs]) := ⟨h.1.snoc h35, by rw [List.length_append, List.flatten_append]; simpa using k2⟩
  rcases own_row k2'.2 with ⟨hv, _, _⟩ | ⟨g2, cap2, cs2, hv, _⟩
  · subst hv; exact ⟨_, _, _, w', k1, k2', k3, k5⟩
  · subst hv; exact ⟨_, _, _, w', k1, k2', k3, k5⟩
section
variable {oi : Oper} {a : Act} {w : World}
set_option maxRecDepth 100000 in
theorem x_bs54 {x : Operand} {cs : List Value} (hl : cs.length = 35) (hop : oi.op = .buildSlice 54 1 #[(0, x)]) (hx : a.eval x = .agg cs.toArray) : (execOp a.eval oi).run Try.prog w = .ok (.value (.slice (some ⟨w.heap.size, 0, none⟩) 1 1)) (w.alloc (.cells cs.toArray 63)) := by
  obtain ⟨i, z, hi, hz, hsz, hby, hzc⟩ := info63
  have hzs : z.cells.size = 35 := by rw [hzc]; simp [zc63_len]
  have hb : (Instr.buildSlice 54 1 #[(0, .agg cs.toArray)]).run Try.prog w = .ok (.slice (some ⟨w.heap.size, 0, none⟩) 1 1) (w.alloc (.cells cs.toArray 63)) := by
    refine run_buildSlice (P := Try.prog) w 54 63 1 #[(0, .agg cs.toArray)] cs.toArray i z Try.underlying54 hi hz (by rw [hsz]; omega) (by rw [hsz]; omega) ?_
    rw [hsz]
    have := Great.fill_whole (s := 35) (by omega) [Value.agg cs.toArray] ((Array.range (1 * 35)).map (z.cells[· % z.cells.size]!)) (fun v hv' => by rw [List.mem_singleton] at hv'; subst hv'; simp [Value.cells, hl]) (by simp)
    refine Eq.trans this ?_
    simp [Value.cells]
  unfold execOp
  simp [hop, hx, hb]
theorem x_app54 {s x : Operand} {v u v' : Value} {w' : World} (hop : oi.op = .call { callee := .builtin .append, args := #[s, x], argTypes := #[54, 54] }) (hs : a.eval s = v) (hx : a.eval x = u) (hr : (Builtin.append_ #[54, 54] oi.type #[v, u]).run Try.prog w = .ok v' w') : (execOp a.eval oi).run Try.prog w = .ok (.value v') w' := by
  unfold execOp
  simp only [hop, resolve, invoke, builtin, Sem.run_bind, Sem.run_pure, Result.andThen_ok, List.map_toArray, List.map_cons, List.map_nil, hs, hx, hr]
theorem x_st54 {x y : Operand} {g p : Nat} {va : Option Addr} {m c : Nat} {u : Value} (hop : oi.op = .store 54 x y) (hx : a.eval x = .pointer (some ⟨g, p, none⟩)) (hy : a.eval y = .slice va m c) (hc : w.cell? ⟨g, p, none⟩ = some u) (hf : w.frozen? ⟨g, p, none⟩ = false) : (execOp a.eval oi).run Try.prog w = .ok .skip (w.setCell ⟨g, p, none⟩ (.slice va m c)) := by
  unfold execOp
  simp only [hop, hx, hy]
  simp [go_sem, hc, hf, Instr.storeAt, Instr.sureAddr]
end
/-- The cells so far, in their box; the loop's record. -/
def CJ (st : List Stm) (B T0 gt l1 D1 : Nat) (r : Loop) (V : List Nat) (F : Nat → Prop) (X : World) : Prop :=
  ∃ va m vc, RowIs X gt 54 [.slice va m vc] ∧ OwnL X B 63 35 (.slice va m vc) (V.map (cOf st)) ∧ (∀ b, F b ↔ b = gt ∨ b = l1 ∨ (Value.slice va m vc).ownBlock = some b) ∧ X.heap[l1]? = some (.loop r) ∧ X.heap[D1]? = some (.deferred (some [])) ∧ T0 ≤ X.heap.size
theorem CJ.ok {st : List Stm} {B T0 gt l1 D1 : Nat} {r : Loop} (h1 : gt < T0) (h2 : l1 < T0) (h3 : D1 < T0) : Jok T0 (CJ st B T0 gt l1 D1 r) := by
  refine ⟨fun V F A B ⟨va, m, vc, hr, ho, hf, hl, hd, hs⟩ hk => ?_, fun V F A ⟨va, m, vc, hr, ho, hf, hl, hd, hs⟩ b hb => ?_⟩
  · refine ⟨va, m, vc, hk.row hr (fun h => by omega), ho.same (fun b hb => hk.block b (own_lt ho.2 hb).2.1 (fun h => h.2 ((hf b).2 (.inr (.inr hb))))), hf, ?_, ?_, Nat.le_trans hs hk.size⟩
    · rw [hk.block l1 (Array.getElem?_eq_some_iff.1 hl).1 (fun h => by omega)]; exact hl
    · rw [hk.block D1 (Array.getElem?_eq_some_iff.1 hd).1 (fun h => by omega)]; exact hd
  · rcases (hf b).1 hb with e | e | e
    · rw [e]; exact hr.lt
    · rw [e]; exact (Array.getElem?_eq_some_iff.1 hl).1
    · exact (own_lt ho.2 e).2.1
theorem ne_obj {X : World} {b k : Nat} {t : TypeId} {cs : List Value} {ob : Obj} (hr : RowIs X b t cs) (ho : X.heap[k]? = some ob) (hn : ∀ c t u, ob ≠ .cells c t u) : b ≠ k := fun e => by
  subst e
  unfold RowIs at hr
  rw [hr] at ho
  exact hn _ _ _ (Option.some.inj ho).symm
theorem ne_own {X : World} {B b k : Nat} {t : TypeId} {sz : Nat} {v : Value} {L : List (List Value)} {cs : List Value} {t' : TypeId} (h : OwnL X B t sz v L) (hb : v.ownBlock = some b) (hr : RowIs X k t' cs) (hn : t ≠ t') : b ≠ k := fun e => by
  subst e
  obtain ⟨_, _, cs', hc⟩ := own_lt h.2 hb
  exact hn (hc.ty hr).1
set_option maxRecDepth 100000 in
set_option maxHeartbeats 6400000 in
theorem AppSeq_any {w : World} {base g gr B N : Nat} {st : List Stm} {D : RwD} {va0 : Option Addr} {n0 c0 : Nat} (h : RowAt w base g st D) (hG : RowIs w gr 25 [.pointer (some ⟨g, 0, none⟩)]) (hO : OwnL w B 63 35 (.slice va0 n0 c0) []) (hB : B ≤ w.heap.size) (hN : ∀ V T, Reach st V T → V.length + T.length ≤ N) (hin : ∀ V T, Reach st V T → ∀ t ∈ T, t < st.length) (hsm : N ≤ 1000000) :
    Calls Try.prog 43 #[.slice va0 n0 c0, .func (.func 51) #[] #[.pointer (some ⟨gr, 0, none⟩)]] w fun e w' => ∃ v U, e = .returned v ∧ Reach st U [] ∧ OwnL w' B 63 35 v (U.map (cOf st)) ∧ KeptF (fun b => (Value.slice va0 n0 c0).ownBlock = some b) w w' := by
  refine (callsIn_wide (n := 7)).1 ?_
  obtain ⟨W0, hW0⟩ : ∃ W0, w.alloc (.cells #[.slice va0 n0 c0] 54) = W0 := ⟨_, rfl⟩
  have HA0 : Hid (After w W0 ∧ RowIs W0 w.heap.size 54 [.slice va0 n0 c0] ∧ W0.heap.size = w.heap.size + 1) := by
    rw [← hW0]; exact ⟨after_alloc (After.refl w) _, RowIs.new w 54 _, by simp⟩
  have HR : Hid (RowAt w base g st D) := h
  have HGO : Hid (RowIs w gr 25 [.pointer (some ⟨g, 0, none⟩)] ∧ OwnL w B 63 35 (.slice va0 n0 c0) [] ∧ B ≤ w.heap.size) := ⟨hG, hO, hB⟩
  have HRN : Hid ((∀ V T, Reach st V T → V.length + T.length ≤ N) ∧ (∀ V T, Reach st V T → ∀ t ∈ T, t < st.length) ∧ N ≤ 1000000) := ⟨hN, hin, hsm⟩
  clear h hN hin hsm hG hO hB
  refine callsIn_of_wp_marks Try.func43 rfl trivial ?_ rfl
  simp only [Try.ntmps43, List.size_toArray, List.length_cons, List.length_nil, Nat.reduceAdd, Nat.reduceSub, Array.replicate_succ, Array.replicate_zero, List.push_toArray, List.append_toArray, List.nil_append, List.cons_append]
  gi_wp2_with (rw [hW0])
  refine rf_enter (n := 7) rfl (by omega) (gf := 51) (lb := #[.pointer (some ⟨gr, 0, none⟩)]) rfl trivial (enters_of Try.func51 (by kernel_rfl) rfl) ?_
  intro fn _ r hr
  have hrst : r.state = .ready := by rw [hr]
  have hrp : r.pending = none := by rw [hr]
  have hrps : r.params = #[7] := by rw [hr]
  have hra := congrArg Loop.assign hr
  have hrb := congrArg Loop.body hr
  have hrt := congrArg Loop.tmps hr
  dsimp only at hra hrb hrt
  clear hr
  have hreq : rdy r = r := by unfold rdy; cases r; simp_all
  obtain ⟨W3, hW3⟩ : ∃ W3, (W0.alloc (.deferred (some []))).alloc (.loop r) = W3 := ⟨_, rfl⟩
  obtain ⟨D2, hD2⟩ : ∃ D2, W0.heap.size = D2 := ⟨_, rfl⟩
  have hs3 : W3.heap.size = D2 + 2 := by rw [← hW3, ← hD2]; simp
  have ha3 : After W0 W3 := by rw [← hW3]; exact after_alloc (after_alloc (After.refl W0) _) _
  have hl3 : W3.heap[D2 + 1]? = some (.loop r) := by
    rw [← hW3, ← hD2]; have := World.alloc_heap_new (W0.alloc (.deferred (some []))) (.loop r); rwa [World.size_alloc] at this
  have hd3 : W3.heap[D2]? = some (.deferred (some [])) := by
    rw [← hW3, ← hD2]; exact (Below.heap_alloc _ _ _ (by simp)).trans (World.alloc_heap_new W0 _)
  have hA3 : After w W3 := HA0.out.1.trans ha3
  have hlt2 : w.heap.size + 1 = D2 := by rw [← hD2]; exact HA0.out.2.2.symm
  have hy3 : RowIs W3 w.heap.size 54 [.slice va0 n0 c0] := HA0.out.2.1.below ha3 HA0.out.2.1.lt
  have hg3 : RowIs W3 gr 25 [.pointer (some ⟨g, 0, none⟩)] := HGO.out.1.below hA3 HGO.out.1.lt
  have ho3 : OwnL W3 B 63 35 (.slice va0 n0 c0) [] := HGO.out.2.1.same (fun b hb => hA3.block b (own_lt HGO.out.2.1.2 hb).2.1)
  rw [hW3, hD2]
  clear hW3 hD2 ha3
  have hmain := ord_in (D2 + 1) gr 5 (N := N) (CJ st B (D2 + 2) w.heap.size (D2 + 1) D2 r) (fun _ _ _ => False) (W := W3) (F0 := fun b => b = w.heap.size ∨ b = D2 + 1 ∨ (Value.slice va0 n0 c0).ownBlock = some b)
    (by rw [hs3]; exact CJ.ok (by omega) (by omega) (by omega)) (fun V F t s X T hTJ hKX hVN hre hs => by
      obtain ⟨va, m, vc, hrt3, ho, hf, hl, hd, hsz⟩ := hTJ
      have hok := HR.out.ok s (List.mem_of_getElem? hs)
      have HWA := show Hid (RowIs ((X.alloc (.cells zc63.toArray 63)).setRow X.heap.size (ccell s.id s.ch s.gone).toArray) X.heap.size 63 (ccell s.id s.ch s.gone) ∧ After X ((X.alloc (.cells zc63.toArray 63)).setRow X.heap.size (ccell s.id s.ch s.gone).toArray)) from ⟨setRow_heap _ _ _ _ 63 _ (heap_alloc_new X _), Below.row (after_alloc (After.refl X) _) (Nat.le_refl _) _⟩
      refine rf_round hl hrst (by rw [hrps]; rfl) trivial ?_
      rw [hra, hrt, hrps]
      refine wpIn_region_lit ?_
      refine wpListIn_run rfl (fun _ => trivial) (fun _ h => by cases h) (x_al63 rfl) ?_
      refine wpListIn_st (w' := (X.alloc (.cells zc63.toArray 63)).setRow X.heap.size (ccell s.id s.ch s.gone).toArray) rfl rfl (fun _ => trivial) (fun _ h => by cases h) (x_st63 (x := .tmp 5) (y := .tmp 7) (g := X.heap.size) (s := s) (cs := zc63) hok (ccell_len zId_ok 0 false) (by kernel_rfl) (by kernel_rfl) (by kernel_rfl) (RowIs.new X 63 zc63)) ?_
      refine wpListIn_nil ?_
      obtain ⟨Wa, hWa⟩ : ∃ Wa, (X.alloc (.cells zc63.toArray 63)).setRow X.heap.size (ccell s.id s.ch s.gone).toArray = Wa := ⟨_, rfl⟩
      rw [hWa] at HWA ⊢
      clear hWa
      have hlX := (Array.getElem?_eq_some_iff.1 hl).1
      have hlW : Wa.heap[D2 + 1]? = some (.loop r) := (HWA.out.2.block _ hlX).trans hl
      refine ⟨hlW, ?_⟩
      rw [hrb]
      obtain ⟨X2, hX2⟩ : ∃ X2, Wa.putObj (D2 + 1) (.loop (bz r)) = X2 := ⟨_, rfl⟩
      have K2 : KeptF (fun b => b = D2 + 1) X X2 := by rw [← hX2]; exact (KeptF.of_after (F := fun b => b = D2 + 1) HWA.out.2).trans (putObj_kept (F := fun b => b = D2 + 1) Wa (D2 + 1) _ rfl) (fun _ _ h => h)
      have hb2 : X2.heap[D2 + 1]? = some (.loop (bz r)) := by rw [← hX2]; exact World.putObj_heap_same (Array.getElem?_eq_some_iff.1 hlW).1
      have hd2 : X2.heap[D2]? = some (.deferred (some [])) := (K2.block D2 (Array.getElem?_eq_some_iff.1 hd).1 (by omega)).trans hd
      have ht2 : RowIs X2 w.heap.size 54 [.slice va m vc] := K2.row hrt3 (by omega)
      have hc2 : RowIs X2 X.heap.size 63 (ccell s.id s.ch s.gone) := by rw [← hX2]; unfold RowIs; rw [World.putObj_heap_other (by omega)]; exact HWA.out.1
      have hbne : ∀ b, (Value.slice va m vc).ownBlock = some b → b ≠ D2 + 1 ∧ b ≠ D2 ∧ b ≠ w.heap.size := fun b hb => by
        obtain ⟨_, _, cs', hc'⟩ := own_lt ho.2 hb
        exact ⟨ne_obj hc' hl (fun _ _ _ e => by cases e), ne_obj hc' hd (fun _ _ _ e => by cases e), ne_own ho hb hrt3 (by decide)⟩
      have ho2 : OwnL X2 B 63 35 (.slice va m vc) (V.map (cOf st)) := ho.same (fun b hb => K2.block b (own_lt ho.2 hb).2.1 (hbne b hb).1)
      have hsz2 : D2 + 2 ≤ X2.heap.size := Nat.le_trans hsz K2.size
      obtain ⟨va2, m2, vc2, w5, hr5, ho5, hg5, hl5⟩ := run_app54 (w := X2.alloc (.cells (ccell s.id s.ch s.gone).toArray 63)) (base := B) 54 (ho2.same (fun b hb => Below.heap_alloc X2 _ b (own_lt ho2.2 hb).2.1)) (g := X2.heap.size) (cs := ccell s.id s.ch s.gone) (ccell_len hok s.ch s.gone) (ccell_one s.id s.ch s.gone) (RowIs.new X2 63 _) (by rw [List.length_map]; have := HRN.out.2.2; omega) (by rw [World.size_alloc]; have := HGO.out.2.2; omega)
      have hg1 : X2.grownBy w5 (Value.slice va m vc).ownBlock := World.grownBy.trans (grown_alloc X2 _ _) hg5
      have hglt : w.heap.size < X2.heap.size := ht2.lt
      have htb : some w.heap.size ≠ (Value.slice va m vc).ownBlock := fun e => (hbne _ e.symm).2.2 rfl
      have ht5 : RowIs w5 w.heap.size 54 [.slice va m vc] := by unfold RowIs; rw [hg1.block _ hglt htb]; exact ht2
      have hloc : ∀ b, (Value.slice va2 m2 vc2).ownBlock = some b → (Value.slice va m vc).ownBlock = some b ∨ X2.heap.size + 1 ≤ b := fun b hb => by
        rcases hl5 with e | e
        · rw [e] at hb; exact .inl hb
        · rw [e, World.size_alloc] at hb; cases hb; exact .inr (Nat.le_refl _)
      have hbne2 : ∀ b, (Value.slice va2 m2 vc2).ownBlock = some b → b ≠ D2 + 1 ∧ b ≠ D2 ∧ b ≠ w.heap.size := fun b hb => by
        rcases hloc b hb with e | e
        · exact hbne b e
        · exact ⟨by omega, by omega, by omega⟩
      rw [hX2]
      refine wpIn_block ?_
      refine wpIn_region_lit ?_
      refine wpListIn_run rfl (fun _ => trivial) (fun _ h => by cases h) (x_loadT (x := .tmp 2) (t := 54) (g := w.heap.size) (j := 0) Try.underlying54 rfl (by kernel_rfl) (by kernel_rfl) (ht2.cell (j := 0) rfl)) ?_
      refine wpListIn_run rfl (fun _ => trivial) (fun _ h => by cases h) (x_ld63c (x := .tmp 5) (g := X.heap.size) (p := 0) hok (by kernel_rfl) (by kernel_rfl) hc2.range0) ?_
      refine wpListIn_run rfl (fun _ => trivial) (fun _ h => by cases h) (x_bs54 (x := .tmp 9) (cs := ccell s.id s.ch s.gone) (ccell_len hok s.ch s.gone) (by kernel_rfl) (by kernel_rfl)) ?_
      refine wpListIn_run rfl (fun _ => trivial) (fun _ h => by cases h) (x_app54 (s := .tmp 8) (x := .tmp 10) (by kernel_rfl) (by kernel_rfl) (by kernel_rfl) hr5) ?_
      refine wpListIn_st rfl rfl (fun _ => trivial) (fun _ h => by cases h) (x_st54 (x := .tmp 2) (y := .tmp 11) (g := w.heap.size) (p := 0) (va := va2) (m := m2) (c := vc2) (by kernel_rfl) (by kernel_rfl) (by kernel_rfl) (ht5.cell (j := 0) rfl) (ht5.frozen 0)) ?_
      refine wpListIn_nil ?_
      show _ ∧ _
      rw [hreq]
      have nl : (Value.slice va m vc).ownBlock ≠ some (D2 + 1) := fun e => (hbne _ e).1 rfl
      have nd : (Value.slice va m vc).ownBlock ≠ some D2 := fun e => (hbne _ e).2.1 rfl
      have hl2s : D2 + 1 < X2.heap.size := (Array.getElem?_eq_some_iff.1 hb2).1
      have hl5' : w5.heap[D2 + 1]? = some (.loop (bz r)) := (hg1.block _ hl2s (fun e => nl e.symm)).trans hb2
      have hl6 : (w5.setCell ⟨w.heap.size, 0, none⟩ (.slice va2 m2 vc2)).heap[D2 + 1]? = some (.loop (bz r)) := (Below.heap_setCell w5 ⟨w.heap.size, 0, none⟩ _ (D2 + 1) (by show D2 + 1 ≠ w.heap.size; omega)).trans hl5'
      have hlt6 := (Array.getElem?_eq_some_iff.1 hl6).1
      refine ⟨hl6, .inl ⟨rfl, fun b => b = w.heap.size ∨ b = D2 + 1 ∨ (Value.slice va2 m2 vc2).ownBlock = some b, ⟨va2, m2, vc2, ?_, ?_, fun b => Iff.rfl, World.putObj_heap_same hlt6, ?_, ?_⟩, ?_, ?_⟩⟩
      · unfold RowIs; rw [World.putObj_heap_other (by omega)]; exact ht5.set 0 _
      · have e1 : (V ++ [t]).map (cOf st) = V.map (cOf st) ++ [ccell s.id s.ch s.gone] := by rw [List.map_append, List.map_singleton, cOf_of hs]
        rw [e1]
        refine ho5.same (fun b hb => ?_)
        have hb1 := hbne2 b hb
        exact (World.putObj_heap_other hb1.1).trans (Below.heap_setCell w5 ⟨w.heap.size, 0, none⟩ _ b hb1.2.2)
      · refine (World.putObj_heap_other (by omega)).trans ?_
        refine (Below.heap_setCell w5 ⟨w.heap.size, 0, none⟩ _ D2 (by show D2 ≠ w.heap.size; omega)).trans ?_
        exact (hg1.block _ (Array.getElem?_eq_some_iff.1 hd2).1 (fun e => nd e.symm)).trans hd2
      · have h1 := hg1.size
        have h2 : (w5.setCell ⟨w.heap.size, 0, none⟩ (.slice va2 m2 vc2)).heap.size = w5.heap.size := by show (w5.heap.modify _ _).size = _; rw [Array.size_modify]
        have h3 : ((w5.setCell ⟨w.heap.size, 0, none⟩ (.slice va2 m2 vc2)).putObj (D2 + 1) (.loop r)).heap.size = (w5.setCell ⟨w.heap.size, 0, none⟩ (.slice va2 m2 vc2)).heap.size := by simp [World.putObj]
        omega
      · exact (((K2.mono (fun x _ hx => (hf x).2 (.inr (.inl hx)))).trans (KeptF.of_grown (F := F) hg1 (fun b hb => (hf b).2 (.inr (.inr hb)))) (fun _ _ h => h)).trans (KeptF.set (F := F) w5 ⟨w.heap.size, 0, none⟩ _ ((hf _).2 (.inl rfl))) (fun _ _ h => h)).trans (putObj_kept (F := F) _ (D2 + 1) _ ((hf _).2 (.inr (.inl rfl)))) (fun _ _ h => h)
      · rintro b (e | e | e)
        · exact .inl ((hf b).2 (.inl e))
        · exact .inl ((hf b).2 (.inr (.inl e)))
        · rcases hloc b e with h | h
          · exact .inl ((hf b).2 (.inr (.inr h)))
          · have := K2.size; exact .inr (by omega))
    HRN.out.1 HRN.out.2.1 HRN.out.2.2 (HR.out.after hA3) hg3 (fun b hb h => by
      have hlt := (HR.out.foot hb).2
      rcases h with e | e | e
      · omega
      · omega
      · obtain ⟨_, _, cs', hc'⟩ := own_lt HGO.out.2.1.2 e
        exact HR.out.other hc' (by decide) (by decide) (by decide) hb) (fun h => by
      have hlt := HGO.out.1.lt
      rcases h with e | e | e
      · omega
      · omega
      · exact ne_own HGO.out.2.1 e HGO.out.1 (by decide) rfl) ⟨va0, n0, c0, hy3, ho3, fun b => Iff.rfl, hl3, hd3, by omega⟩
  refine hmain.mono ?_
  rintro e W4 ⟨hv, V, F, hor, hk4, hn4⟩
  refine ⟨hv, ?_⟩
  rcases hor with ⟨hre, va, m, vc, hrt4, ho, hf, hl, hd, hsz⟩ | hx
  · refine ⟨r, hl, by rw [hrst]; simp, ?_⟩
    have hbne : ∀ b, (Value.slice va m vc).ownBlock = some b → b ≠ D2 + 1 ∧ b ≠ D2 := fun b hb => by
      obtain ⟨_, _, cs', hc'⟩ := own_lt ho.2 hb
      exact ⟨ne_obj hc' hl (fun _ _ _ e => by cases e), ne_obj hc' hd (fun _ _ _ e => by cases e)⟩
    have HX := show Hid (Reach st V [] ∧ (∀ o1 o2 : Obj, OwnL ((W4.putObj (D2 + 1) o1).putObj D2 o2) B 63 35 (.slice va m vc) (V.map (cOf st)) ∧ KeptF (fun b => (Value.slice va0 n0 c0).ownBlock = some b) w ((W4.putObj (D2 + 1) o1).putObj D2 o2))) from ⟨hre, fun o1 o2 => ⟨ho.same (fun b hb => (World.putObj_heap_other (hbne b hb).2).trans (World.putObj_heap_other (hbne b hb).1)), by
      have k1 : KeptF (fun b => (Value.slice va0 n0 c0).ownBlock = some b) w W4 := (KeptF.of_after hA3).trans hk4 (fun x hx h => by rcases h with e | e | e; omega; omega; exact e)
      exact (k1.trans (putObj_kept (F := fun b => b = D2 + 1) W4 (D2 + 1) o1 rfl) (fun x hx e => by have e : x = D2 + 1 := e; omega)).trans (putObj_kept (F := fun b => b = D2) _ D2 o2 rfl) (fun x hx e => by have e : x = D2 := e; omega)⟩⟩
    have hK : ∀ o1 : Obj, (W4.putObj (D2 + 1) o1).heap[D2]? = some (.deferred (some [])) := fun o1 => (World.putObj_heap_other (by omega)).trans hd
    have cT : ∀ o1 : Obj, (W4.putObj (D2 + 1) o1).cell? ⟨w.heap.size, 0, none⟩ = some (.slice va m vc) := fun o1 => by
      have h1 : RowIs (W4.putObj (D2 + 1) o1) w.heap.size 54 [.slice va m vc] := by unfold RowIs; rw [World.putObj_heap_other (by omega)]; exact hrt4
      exact h1.cell rfl
    rw [hrp]
    generalize hob : Obj.loop _ = ob
    have cT1 := cT ob
    have hK1 := hK ob
    clear hmain hl hd hk4 hn4 hre hrt4 ho hf hsz hbne cT hK hob
    generalize hW5 : W4.putObj (D2 + 1) ob = W5 at cT1 hK1 ⊢
    have HX2 := show Hid (∀ o2 : Obj, OwnL (W5.putObj D2 o2) B 63 35 (.slice va m vc) (V.map (cOf st)) ∧ KeptF (fun b => (Value.slice va0 n0 c0).ownBlock = some b) w (W5.putObj D2 o2)) from fun o2 => by rw [← hW5]; exact HX.out.2 ob o2
    clear hW5
    gi_wp2
    refine ⟨by simp, .inl ⟨_, _, rfl, run_takeDeferred hK1, ?_⟩⟩
    exact ⟨_, results_tmp rfl _ _ _, _, V, rfl, HX.out.1, HX2.out _⟩
  · exact hx.elim
end Go.Proofs.Ytiglenomigipmaa

namespace Go.Proofs.Ytiglenomigipmaa
open Go.RowKit Go.Shelf Go.Maps Go.WideMaps Go.WideAt Mp
attribute [local go_sem] Oper.semAt_some
theorem MapAt.size {W : World} {b : Nat} {st : List Stm} (h : MapAt W b st) (ty : TypeId) : (Builtin.len_ #[73] ty #[.map (some b)]).run Try.prog W = .ok (.int .i64 ((st.length - 1 : Nat) : Int)) W := by
  obtain ⟨l, h1, _, h3, _⟩ := h.ex
  have := h1.len (t := 73) (e := 3) Try.underlying73 ty
  rw [this]
  have e : Maps.size (.map (toE l) : DataW Value) = st.length - 1 := by
    show (toE l).length = _
    unfold toE
    rw [List.length_map]; omega
  rw [e]
section
variable {oi : Oper} {a : Act} {w : World}
theorem x_len73 {x : Operand} {b : Nat} {st : List Stm} (hop : oi.op = .call { callee := .builtin .len, args := #[x], argTypes := #[73] }) (hx : a.eval x = .map (some b)) (h : MapAt w b st) : (execOp a.eval oi).run Try.prog w = .ok (.value (.int .i64 ((st.length - 1 : Nat) : Int))) w := by
  unfold execOp
  simp only [hop, resolve, invoke, builtin, Sem.run_bind, Sem.run_pure, Result.andThen_ok, List.map_toArray, List.map_cons, List.map_nil, hx, h.size]
theorem made63 (W : World) (n : Nat) (hn : n ≤ 1000000) : ∃ cs : List Value, cs.length = n * 35 ∧ (Instr.makeSlice 54 (.int .i64 0) (.int .i64 (n : Int))).run Try.prog W = .ok (.slice (some ⟨W.heap.size, 0, none⟩) 0 n) (W.alloc (.cells cs.toArray 63)) := by
  obtain ⟨i, z, hi, hz, hsz, hby, hzc⟩ := info63
  have := run_make (P := Try.prog) W 54 63 i z Try.underlying54 hi hz .i64 .i64 0 (n : Int) (by omega) (by omega) (by rw [hby]; omega) (by omega)
  refine ⟨(madeCells z.cells (n * 35)).toList, by simp [madeCells], ?_⟩
  rw [hsz] at this
  simpa using this
theorem x_mk54 {y : Operand} {n : Nat} {cs : List Value} (hop : oi.op = .makeSlice 54 (.const (.int .i64 0)) y) (hy : a.eval y = .int .i64 (n : Int)) (hm : (Instr.makeSlice 54 (.int .i64 0) (.int .i64 (n : Int))).run Try.prog w = .ok (.slice (some ⟨w.heap.size, 0, none⟩) 0 n) (w.alloc (.cells cs.toArray 63))) : (execOp a.eval oi).run Try.prog w = .ok (.value (.slice (some ⟨w.heap.size, 0, none⟩) 0 n)) (w.alloc (.cells cs.toArray 63)) := by
  have hk : a.eval (.const (.int .i64 0)) = .int .i64 0 := rfl
  unfold execOp
  simp only [hop, hy, hk, Sem.run_bind, hm, Result.andThen_ok]
  rfl
end
theorem own_made {W : World} {cs : List Value} {n B : Nat} (hl : cs.length = n * 35) (hn : n ≤ 1000000) (hB : B ≤ W.heap.size) : OwnL (W.alloc (.cells cs.toArray 63)) B 63 35 (.slice (some ⟨W.heap.size, 0, none⟩) 0 n) [] :=
  ⟨fun _ h => by simp at h, row_own hB (RowIs.new W 63 cs) (Nat.zero_le _) (by unfold maxLen; omega) hl (by simp)⟩
set_option maxRecDepth 100000 in
set_option maxHeartbeats 3200000 in
theorem Cells_any {w : World} {base g : Nat} {st : List Stm} {D : RwD} (h : RowAt w base g st D) (hw : Wf st) (hsm : st.length ≤ 100000) :
    Calls Try.prog 24 #[.pointer (some ⟨g, 0, none⟩)] w fun e w' => ∃ v U, e = .returned v ∧ Reach st U [] ∧ OwnL w' w.heap.size 63 35 v (U.map (cOf st)) ∧ After w w' := by
  have HB : Hid (RowIs w g 75 [D.sv, .map (some D.gm)]) := h.box
  have HM : Hid (MapAt w D.gm st) := h.mp
  have HR : Hid (RowAt w base g st D) := h
  obtain ⟨n, hn⟩ : ∃ n, st.length - 1 = n := ⟨_, rfl⟩
  have HN : Hid (st.length - 1 = n) := hn
  have HL : Hid (n ≤ 1000000 ∧ st.length ≤ 1000000) := ⟨by omega, by omega⟩
  have HRF : Hid ((∀ V T, Reach st V T → V.length + T.length ≤ st.length) ∧ (∀ V T, Reach st V T → ∀ t ∈ T, t < st.length)) := ⟨fun V T h => hw.few h, fun V T h => hw.in h⟩
  clear h hw hsm hn
  go_enter Try.func24, Try.ntmps24
  go_wp2_with fail
  refine wp_region_noPanic ?_
  refine wp_region_held_drew (S := After w) (by kernel_rfl) (After.drew (After.refl _)) ?_
  intro hS0
  refine tk 0 5 (.pointer (some ⟨g, 0, none⟩)) (fuel := 9) rfl (by kernel_rfl) (by kernel_rfl) (by kernel_rfl) (by kernel_rfl) noPanic_false (by kernel_rfl) (fun _ _ => by kernel_rfl) hS0 ?_
  refine tk 1 6 (.pointer (some ⟨g, 0, none⟩)) (fuel := 8) rfl (by kernel_rfl) (by kernel_rfl) (by kernel_rfl) (by kernel_rfl) noPanic_false (by kernel_rfl) (fun _ _ => by kernel_rfl) hS0 ?_
  refine tk 2 7 (.pointer (some ⟨g, 1, none⟩)) (fuel := 7) rfl (by kernel_rfl) (by kernel_rfl) (by kernel_rfl) (by kernel_rfl) noPanic_false (by kernel_rfl) (fun _ _ => by kernel_rfl) hS0 ?_
  refine tk 3 8 (.map (some D.gm)) (fuel := 6) rfl (by kernel_rfl) (by kernel_rfl) (by kernel_rfl) (by kernel_rfl) noPanic_false (by kernel_rfl) (fun W hW => x_loadT (x := .tmp 7) (t := 73) (g := g) (j := 1) Try.underlying73 rfl (by kernel_rfl) (by kernel_rfl) ((HB.out.below hW HB.out.lt).cell (j := 1) rfl)) hS0 ?_
  refine tk 4 9 (.int .i64 (n : Int)) (fuel := 5) rfl (by kernel_rfl) (by kernel_rfl) (by kernel_rfl) (by kernel_rfl) noPanic_false (by kernel_rfl) (fun W hW => (x_len73 (x := .tmp 8) (by kernel_rfl) (by kernel_rfl) (HM.out.same (hW.block _ HM.out.lt))).trans (by rw [HN.out])) hS0 ?_
  refine tk 6 11 (.pointer (some ⟨g, 0, none⟩)) (fuel := 4) rfl (by kernel_rfl) (by kernel_rfl) (by kernel_rfl) (by kernel_rfl) noPanic_false (by kernel_rfl) (fun _ _ => by kernel_rfl) hS0 ?_
  refine wpAnyH_all (rs := [5, 7]) (by kernel_rfl) (by simp) (fun ii hi => ?_)
  have hi2 : ii = 5 ∨ ii = 7 := by simpa using hi
  clear hi
  rcases hi2 with rfl | rfl
  · obtain ⟨cs, hcl, hmk⟩ := made63 w.drew n HL.out.1
    have ha1 : After w (w.drew.alloc (.cells cs.toArray 63)) := after_alloc hS0 _
    have ho1 := own_made (W := w.drew) (B := w.heap.size) hcl HL.out.1 hS0.size
    refine opVal 5 10 (.slice (some ⟨w.drew.heap.size, 0, none⟩) 0 n) (w.drew.alloc (.cells cs.toArray 63)) rfl (by kernel_rfl) (by kernel_rfl) (x_mk54 (y := .tmp 9) (by kernel_rfl) (by kernel_rfl) hmk) ⟨ha1, ?_⟩
    generalize w.drew.alloc (.cells cs.toArray 63) = W1 at ha1 ho1 ⊢
    refine tkCallZ 7 12 44 #[.pointer (some ⟨g, 0, none⟩)] (fun v w' => v = .func (.func 51) #[] #[.pointer (some ⟨W1.heap.size, 0, none⟩)] ∧ RowIs w' W1.heap.size 25 [.pointer (some ⟨g, 0, none⟩)] ∧ After W1 w') (fuel := 2) rfl (by kernel_rfl) (by kernel_rfl) (by kernel_rfl) (fun _ => by kernel_rfl) (Calls.mono (inOrder_any (some ⟨g, 0, none⟩) W1) (fun e w' ⟨he, h1, h2⟩ => ⟨_, he, rfl, h1, h2⟩)) ?_
    intro v2 w2 ⟨hv2, hr2, ha2⟩
    subst hv2
    refine ⟨ha1.trans ha2, ?_⟩
    have ho2 := ho1.same (w' := w2) (fun b hb => ha2.block b (own_lt ho1.2 hb).2.1)
    generalize W1.heap.size = gr at hr2 ⊢
    have ha3 := ha1.trans ha2
    refine tkCallZ 8 13 43 #[.slice (some ⟨w.drew.heap.size, 0, none⟩) 0 n, .func (.func 51) #[] #[.pointer (some ⟨gr, 0, none⟩)]] (fun v w' => ∃ U, Reach st U [] ∧ OwnL w' w.heap.size 63 35 v (U.map (cOf st)) ∧ KeptF (fun b => (Value.slice (some ⟨w.drew.heap.size, 0, none⟩) 0 n).ownBlock = some b) w2 w') (fuel := 1) rfl (by kernel_rfl) (by kernel_rfl) (by kernel_rfl) (fun _ => by kernel_rfl) (Calls.mono (AppSeq_any (N := st.length) (HR.out.after ha3) hr2 ho2 ha3.size HRF.out.1 HRF.out.2 HL.out.2) (fun e w' ⟨v, U, he, h1, h2, h3⟩ => ⟨_, he, U, h1, h2, h3⟩)) ?_
    intro v3 w3 ⟨U, hU, ho3, hk3⟩
    have ha4 : After w w3 := Below.trans ha3 (hk3.below ha3.size (fun x hx => (own_lt ho2.2 hx).1))
    refine ⟨ha4, ?_⟩
    refine tk 9 2 v3 (fuel := 0) rfl (by kernel_rfl) (by kernel_rfl) (by kernel_rfl) (by kernel_rfl) noPanic_false (by kernel_rfl) (fun _ _ => by kernel_rfl) ha4 ?_
    refine wpAnyH_done (by kernel_rfl) (NoPanic.normal ?_) _
    have HF := show Hid (Reach st U [] ∧ OwnL w3 w.heap.size 63 35 v3 (U.map (cOf st)) ∧ After w w3) from ⟨hU, ho3, ha4⟩
    clear hU ho3 ha4 hk3 ha3 ho2 hr2 ha2 hS0
    go_simp
    go_wp2_with fail
    go_ret
    exact ⟨_, U, rfl, HF.out.1, HF.out.2.1, HF.out.2.2⟩
  · refine opCallK 7 12 44 #[.pointer (some ⟨g, 0, none⟩)] (fun v w' => v = .func (.func 51) #[] #[.pointer (some ⟨w.drew.heap.size, 0, none⟩)] ∧ RowIs w' w.drew.heap.size 25 [.pointer (some ⟨g, 0, none⟩)] ∧ After w.drew w') rfl (by kernel_rfl) (by kernel_rfl) (fun _ => by kernel_rfl) (Calls.mono (inOrder_any (some ⟨g, 0, none⟩) w.drew) (fun e w' ⟨he, h1, h2⟩ => ⟨_, he, rfl, h1, h2⟩)) ?_
    intro v1 w1 ⟨hv1, hr1, ha1⟩
    subst hv1
    refine ⟨hS0.trans ha1, ?_⟩
    obtain ⟨cs, hcl, hmk⟩ := made63 w1 n HL.out.1
    have ha2' : After w1 (w1.alloc (.cells cs.toArray 63)) := after_alloc (After.refl w1) _
    have ho2 := own_made (W := w1) (B := w.heap.size) hcl HL.out.1 (hS0.trans ha1).size
    refine tkRunS 5 10 (.slice (some ⟨w1.heap.size, 0, none⟩) 0 n) (w1.alloc (.cells cs.toArray 63)) (fuel := 2) rfl (by kernel_rfl) (by kernel_rfl) (by kernel_rfl) (x_mk54 (y := .tmp 9) (by kernel_rfl) (by kernel_rfl) hmk) ((hS0.trans ha1).trans ha2') ?_
    have hr2 := hr1.below ha2' hr1.lt
    have ha1 := hS0.trans ha1
    have ha2 := ha2'
    clear ha2' hr1 hmk
    generalize w1.alloc (.cells cs.toArray 63) = w2 at hr2 ho2 ha2 ⊢
    generalize w.drew.heap.size = gr at hr2 ⊢
    have ha3 := ha1.trans ha2
    refine tkCallZ 8 13 43 #[.slice (some ⟨w1.heap.size, 0, none⟩) 0 n, .func (.func 51) #[] #[.pointer (some ⟨gr, 0, none⟩)]] (fun v w' => ∃ U, Reach st U [] ∧ OwnL w' w.heap.size 63 35 v (U.map (cOf st)) ∧ KeptF (fun b => (Value.slice (some ⟨w1.heap.size, 0, none⟩) 0 n).ownBlock = some b) w2 w') (fuel := 1) rfl (by kernel_rfl) (by kernel_rfl) (by kernel_rfl) (fun _ => by kernel_rfl) (Calls.mono (AppSeq_any (N := st.length) (HR.out.after ha3) hr2 ho2 ha3.size HRF.out.1 HRF.out.2 HL.out.2) (fun e w' ⟨v, U, he, h1, h2, h3⟩ => ⟨_, he, U, h1, h2, h3⟩)) ?_
    intro v3 w3 ⟨U, hU, ho3, hk3⟩
    have ha4 : After w w3 := Below.trans ha3 (hk3.below ha3.size (fun x hx => (own_lt ho2.2 hx).1))
    refine ⟨ha4, ?_⟩
    refine tk 9 2 v3 (fuel := 0) rfl (by kernel_rfl) (by kernel_rfl) (by kernel_rfl) (by kernel_rfl) noPanic_false (by kernel_rfl) (fun _ _ => by kernel_rfl) ha4 ?_
    refine wpAnyH_done (by kernel_rfl) (NoPanic.normal ?_) _
    have HF := show Hid (Reach st U [] ∧ OwnL w3 w.heap.size 63 35 v3 (U.map (cOf st)) ∧ After w w3) from ⟨hU, ho3, ha4⟩
    clear hU ho3 ha4 hk3 ha3 ho2 hr2 ha2 hS0
    go_simp
    go_wp2_with fail
    go_ret
    exact ⟨_, U, rfl, HF.out.1, HF.out.2.1, HF.out.2.2⟩
end Go.Proofs.Ytiglenomigipmaa

namespace Go.Proofs.Ytiglenomigipmaa
open Go.RowKit Go.Shelf
attribute [local go_sem] Oper.semAt_some
def rtext (L : List RC) : List UInt8 := (stays L).map (·.ch)
theorem rtext_snoc {L : List RC} {i : Nat} {c : RC} (hc : L[i]? = some c) : rtext (L.take (i + 1)) = if c.gone then rtext (L.take i) else rtext (L.take i) ++ [c.ch] := by
  have : L.take (i + 1) = L.take i ++ [c] := by rw [List.take_add_one, hc]; rfl
  unfold rtext stays
  rw [this, List.filter_append]
  cases hg : c.gone <;> simp [hg]
theorem RowR.ccell {w : World} {base g n cap : Nat} {l : List RC} (h : RowR w base (.slice (some ⟨g, 0, none⟩) n cap) l) {i : Nat} {c : RC} (hc : l[i]? = some c) : w.cell? ⟨g, i * 68 + 66, none⟩ = some (.int .u8 (c.ch.toNat : Int)) := by
  have hok := h.1 c (List.mem_of_getElem? hc)
  obtain ⟨g', hg, _, hr⟩ := h.at hc
  cases hg
  have := hr 66 (.int .u8 (c.ch.toNat : Int)) (by unfold rcell; rw [List.getElem?_append_right (by rw [idc_len hok.id]; omega), idc_len hok.id, List.getElem?_append_right (by rw [idc_len hok.af]; omega), idc_len hok.af]; rfl)
  rwa [Nat.zero_add] at this
theorem app56 {w1 W : World} {v : Value} {bs : List UInt8} (ha : After w1 W) (h : Own W w1.heap.size v bs) (b : UInt8) (hl : bs.length ≤ 1000000) : ∃ va m vc w', (Builtin.append_ #[56, 56] 56 #[v, .slice (some ⟨W.heap.size, 0, none⟩) 1 1]).run Try.prog (W.alloc (.cells #[.int .u8 (b.toNat : Int)] 5)) = .ok (.slice va m vc) w' ∧ Own w' w1.heap.size (.slice va m vc) (bs ++ [b]) ∧ After w1 w' := by
  have ha2 : After w1 (W.alloc (.cells #[.int .u8 (b.toNat : Int)] 5)) := after_alloc ha _
  obtain ⟨va, m, vc, w5, hr5, ho5, hg5, _⟩ := run_app56 (w := W.alloc (.cells #[.int .u8 (b.toNat : Int)] 5)) (base := w1.heap.size) (b := b) 56 (own_same h (fun k hk => Below.heap_alloc W _ k (own_lt h hk).2.1)) (g := W.heap.size) (RowIs.new W 5 _) (by omega) ha2.size
  refine ⟨va, m, vc, w5, hr5, ho5, ?_⟩
  refine ⟨hg5.os.trans ha2.os, hg5.tape.trans ha2.tape, hg5.output.trans ha2.output, Nat.le_trans ha2.size hg5.size, fun k hk => ?_⟩
  refine (hg5.block k (Nat.lt_of_lt_of_le hk ha2.size) (fun e => ?_)).trans (ha2.block k hk)
  have := (own_lt h e.symm).1
  omega
set_option maxRecDepth 100000 in
set_option maxHeartbeats 3200000 in
theorem rText_any {w : World} {v : Value} {L : List RC}
    (hC : ∀ w1, After w w1 → Calls Try.prog 34 #[.agg #[v]] w1 fun e w' => ∃ v', e = .returned v' ∧ RowR w' w1.heap.size v' L ∧ After w1 w') (hl : L.length ≤ 100000) :
    Calls Try.prog 35 #[.agg #[v]] w fun e w' => e = .returned (.string (strOf (rtext L))) ∧ After w w' := by
  obtain ⟨W0, hW0⟩ : ∃ W0, w.alloc (.cells #[v] 29) = W0 := ⟨_, rfl⟩
  have HA : Hid (After w W0 ∧ RowIs W0 w.heap.size 29 [v]) := by
    rw [← hW0]
    exact ⟨after_alloc (After.refl w) _, RowIs.new w 29 [v]⟩
  have HC : Hid (Calls Try.prog 34 #[.agg #[v]] W0 fun e w' => ∃ v', e = .returned v' ∧ RowR w' W0.heap.size v' L ∧ After W0 w') := hC W0 HA.out.1
  have HL : Hid (L.length ≤ 100000) := hl
  clear hC hl
  go_enter Try.func35, Try.ntmps35
  go_wp2_with (first
    | (rw [hW0])
    | (refine wpList_load_row rfl 29 (.tmp 1) rfl w.heap.size rfl 29 #[v] (0, 0) _ HA.out.2 Try.underlying29 rfl (size29 _) ?_)
    | (go_at_call 34; refine Calls.mono HC.out ?_; clear HC; rintro e w1 ⟨v1, rfl, hr1, hw1⟩; obtain ⟨va, cap, hv1⟩ := hr1.sl; obtain ⟨n, hn⟩ : ∃ n, L.length = n := ⟨_, rfl⟩; rw [hn] at hv1; subst hv1; have H1 := show Hid (RowR w1 W0.heap.size (.slice va n cap) L ∧ After w w1 ∧ L.length = n) from ⟨hr1, HA.out.1.trans hw1, hn⟩; clear hr1 hw1 hn))
  clear hW0
  go_loopw [4, 5] (fun vo vi wr => ∃ (i : Nat) (oa : Option Addr) (q oc : Nat), vo = .slice oa q oc ∧ vi = .int .i64 (i : Int) ∧ i ≤ n ∧ Hid (Own wr w1.heap.size (.slice oa q oc) (rtext (L.take i)) ∧ After w1 wr ∧ (rtext (L.take i)).length ≤ i)) (fun _ vi _ => n - (intOf vi).toNat)
  case atStart => exact ⟨0, none, 0, 0, rfl, rfl, Nat.zero_le _, Own.nil _ _, After.refl w1, Nat.le_refl _⟩
  case round =>
    obtain ⟨i, oa, q, oc, rfl, rfl, hin, HJ⟩ := hrel
    have hb6 : n ≤ 100000 := by have := HL.out; have := H1.out.2.2; omega
    by_cases hlt : i < n
    · have hii : (i : Int) < (n : Int) := by omega
      obtain ⟨c, hc⟩ : ∃ c, L[i]? = some c := ⟨_, List.getElem?_eq_getElem (by have := H1.out.2.2; omega)⟩
      have HRW : Hid (RowR wr W0.heap.size (.slice va n cap) L) := H1.out.1.after HJ.out.2.1
      obtain ⟨gs, hva, -, -⟩ := H1.out.1.at hc
      subst hva
      have cg := (HRW.out.gcell hc).1
      have cc := HRW.out.ccell hc
      have hsn := rtext_snoc hc
      clear hc
      cases hgn : c.gone with
      | true =>
        rw [hgn] at cg hsn
        have HS : Hid (rtext (L.take (i + 1)) = rtext (L.take i)) := hsn
        clear hgn cc hsn
        go_wp2_with fail
        go_roundw
        case rel => exact ⟨i + 1, oa, q, oc, rfl, by go_num, by omega, by rw [HS.out]; exact ⟨HJ.out.1, HJ.out.2.1, by have := HJ.out.2.2; omega⟩⟩
        case measure => simp [intOf]; omega
      | false =>
        rw [hgn] at cg hsn
        have HS : Hid (rtext (L.take (i + 1)) = rtext (L.take i) ++ [c.ch]) := hsn
        clear hgn hsn
        obtain ⟨va2, m2, vc2, w5, hr5, ho5, ha5⟩ := app56 HJ.out.2.1 HJ.out.1 c.ch (by have := HJ.out.2.2; omega)
        have H5 := show Hid _ from hr5
        have H6 := show Hid (Own w5 w1.heap.size (.slice va2 m2 vc2) (rtext (L.take i) ++ [c.ch]) ∧ After w1 w5) from ⟨ho5, ha5⟩
        clear hr5 ho5 ha5
        go_wp2_with (first
          | (refine wpList_of_run rfl (x_bs56 (x := .tmp 25) (b := c.ch) rfl (by kernel_rfl)) ?_)
          | (refine wpList_of_run rfl (x_app56 (s := .tmp 20) (x := .tmp 26) (v := .slice oa q oc) (u := .slice (some ⟨wr.heap.size, 0, none⟩) 1 1) rfl (by kernel_rfl) (by kernel_rfl) H5.out) ?_))
        go_roundw
        case rel => exact ⟨i + 1, va2, m2, vc2, rfl, by go_num, by omega, by rw [HS.out]; exact ⟨H6.out.1, H6.out.2, by have := HJ.out.2.2; rw [List.length_append]; simp; omega⟩⟩
        case measure => simp [intOf]; omega
    · obtain rfl : i = n := by omega
      have hii : ¬ (i : Int) < (i : Int) := by omega
      have HF : Hid (Own wr w1.heap.size (.slice oa q oc) (rtext L)) := by
        have := HJ.out.1
        rwa [List.take_of_length_le (by have := H1.out.2.2; omega)] at this
      go_wp2_with (first
        | (refine wpList_of_run rfl (x_conv (x := .tmp 28) rfl rfl HF.out.conv) ?_))
      go_ret
      exact ⟨rfl, H1.out.2.1.trans HJ.out.2.1⟩
theorem rText_all {w : World} {base : Nat} {v : Value} {st : List Stm} {l : List RC} (h : RowR w base v l) (hA : Alike st l) (hs : st.length ≤ 1000) :
    Calls Try.prog 35 #[.agg #[v]] w fun e w' => e = .returned (.string (strOf (rtext (bl l st.length zId)))) ∧ After w w' := by
  have hlen := hA.lnk.len
  exact rText_any (fun w1 hw1 => rCells_any (h.after hw1) hA.kid.lt (hA.bound hs) (by omega) (by omega)) (hA.bound hs _ _ (by have := cnt_le l zId; omega))
/-- Both tell the same text. -/
theorem Alike.text {st : List Stm} {l : List RC} (h : Alike st l) {U : List Nat} (hU : Reach st U []) : rtext (bl l st.length zId) = textOf st U := by
  rw [bl_top h.wf h.lnk h.kid hU (Nat.le_refl _)]
  unfold rtext textOf stays
  have hin : ∀ b ∈ U, ∃ u d, st[b]? = some u ∧ l[b - 1]? = some d ∧ d.ch = u.ch ∧ d.gone = u.gone := fun b hb => by
    obtain ⟨hb0, hbl, _⟩ := (hU.inv h.wf).par b (by simpa using hb)
    obtain ⟨u, hu⟩ : ∃ u, st[b]? = some u := ⟨_, List.getElem?_eq_getElem hbl⟩
    obtain ⟨d, hd, _, h4, h5⟩ := h.lnk.cl hb0 hu
    exact ⟨u, d, hu, hd, h4, h5⟩
  rw [filter_map' (fun b => cl l (b - 1)) (fun c => !c.gone) (p := live st) (fun b hb => by
    obtain ⟨u, d, hu, hd, _, h5⟩ := hin b hb
    rw [cl_of hd, live_of hu, h5]), List.map_map]
  refine List.map_congr_left (fun b hb => ?_)
  obtain ⟨u, d, hu, hd, h4, _⟩ := hin b (List.mem_filter.1 hb).1
  show (cl l (b - 1)).ch = chAt st b
  rw [cl_of hd, chAt_of hu, h4]
/-- Both tell the same cells. -/
theorem Alike.cells {st : List Stm} {l : List RC} (h : Alike st l) {U : List Nat} (hU : Reach st U []) {i : Nat} {c : RC} (hc : (bl l st.length zId)[i]? = some c) : (U.map (cOf st))[i]? = some (ccell c.id c.ch c.gone) := by
  rw [bl_top h.wf h.lnk h.kid hU (Nat.le_refl _), List.getElem?_map] at hc
  obtain ⟨b, hb, rfl⟩ := Option.map_eq_some_iff.1 hc
  obtain ⟨hb0, hbl, _⟩ := (hU.inv h.wf).par b (by have := List.mem_of_getElem? hb; simpa using this)
  obtain ⟨u, hu⟩ : ∃ u, st[b]? = some u := ⟨_, List.getElem?_eq_getElem hbl⟩
  obtain ⟨d, hd, h3, h4, h5⟩ := h.lnk.cl hb0 hu
  rw [List.getElem?_map, hb, cl_of hd, h3, h4, h5]
  exact congrArg some (cOf_of hu)
theorem Alike.count {st : List Stm} {l : List RC} (h : Alike st l) {U : List Nat} (hU : Reach st U []) : (bl l st.length zId).length = (U.map (cOf st)).length := by
  rw [bl_top h.wf h.lnk h.kid hU (Nat.le_refl _), List.length_map, List.length_map]
end Go.Proofs.Ytiglenomigipmaa

namespace Go.Proofs.Ytiglenomigipmaa
open Go.RowKit Go.Shelf
attribute [local go_sem] Oper.semAt_some
section
variable {oi : Oper} {a : Act} {w : World}
theorem x_len9 {x : Operand} {bs : List UInt8} (hop : oi.op = .call { callee := .builtin .len, args := #[x], argTypes := #[9] }) (hx : a.eval x = .string (strOf bs)) : (execOp a.eval oi).run Try.prog w = .ok (.value (.int .i64 (bs.length : Int))) w := by
  have hl : (Builtin.len_ #[9] oi.type #[.string (strOf bs)]).run Try.prog w = .ok (.int .i64 (bs.length : Int)) w := by
    have := strOf_size bs
    simp [go_sem, Builtin.len_, this]
  unfold execOp
  simp only [hop, resolve, invoke, builtin, Sem.run_bind, Sem.run_pure, Result.andThen_ok, List.map_toArray, List.map_cons, List.map_nil, hx, hl]
theorem x_ne3 {x y : Operand} {n : Nat} (hop : oi.op = .binOp .neq 3 x y 3) (hx : a.eval x = .int .i64 (n : Int)) (hy : a.eval y = .int .i64 (n : Int)) : (execOp a.eval oi).run Try.prog w = .ok (.value (.bool false)) w := by
  unfold execOp; simp only [hop, hx, hy]
  simp [go_sem]
theorem x_ne5 {x y : Operand} {n : Int} (hop : oi.op = .binOp .neq 5 x y 5) (hx : a.eval x = .int .u8 n) (hy : a.eval y = .int .u8 n) : (execOp a.eval oi).run Try.prog w = .ok (.value (.bool false)) w := by
  unfold execOp; simp only [hop, hx, hy]
  simp [go_sem]
theorem x_idx54 {x y : Operand} {b n c k : Nat} (hop : oi.op = .indexAddr 54 x y) (hx : a.eval x = .slice (some ⟨b, 0, none⟩) n c) (hy : a.eval y = .int .i64 (k : Int)) (hk : k < n) : (execOp a.eval oi).run Try.prog w = .ok (.value (.pointer (some ⟨b, k * 35, none⟩))) w := by
  have hk' : (k : Int) < (n : Int) := by omega
  have hz0 : (Try.prog.info? 63).map (·.size) = some 35 := by kernel_rfl
  obtain ⟨i, hi, hz⟩ := Option.map_eq_some_iff.1 hz0
  unfold execOp; simp only [hop, hx, hy]; simp [go_sem, hk', hi, hz, sizeOf, typeInfo]
theorem x_st5 {x y : Operand} {g p : Nat} {z : Int} {u : Value} (hop : oi.op = .store 5 x y) (hx : a.eval x = .pointer (some ⟨g, p, none⟩)) (hy : a.eval y = .int .u8 z) (hc : w.cell? ⟨g, p, none⟩ = some u) (hf : w.frozen? ⟨g, p, none⟩ = false) : (execOp a.eval oi).run Try.prog w = .ok .skip (w.setCell ⟨g, p, none⟩ (.int .u8 z)) := by
  unfold execOp
  simp only [hop, hx, hy]
  simp [go_sem, hc, hf, Instr.storeAt, Instr.sureAddr]
end
section
variable {ops : Array Oper} {Q : Exit → Act → World → Prop} {S : World → Prop} {fuel : Nat} {listed : Array Bool} {a : Act} {w : World} {oi oj : Oper}
/-- Two are ready: a value, and a call. -/
theorem tkVC (i d : Nat) (v : Value) (w1 : World) (j e : Nat) (f : FuncId) (args : Array Value) (R : Value → World → Prop) (hr : Region.ready .any ops listed = [i, j]) (hi : ops[i]? = some oi) (hd : oi.dst = some d) (hw : Region.wanted oi (yielded ops a.tmps) = true) (hrun : (execOp a.eval oi).run Try.prog w = .ok (.value v) w1) (hj : ops[j]? = some oj) (he : oj.dst = some e) (hwj : Region.wanted oj (yielded ops a.tmps) = true) (hrunj : ∀ w, (execOp a.eval oj).run Try.prog w = .ok (.enter f args) w) (hc : Calls Try.prog f args w fun e w' => ∃ v, e = .returned v ∧ R v w')
    (hA : S w1 ∧ wpAnyH Try.prog .any ops Q S fuel (listed.setIfInBounds i true) (a.put (some d) v) w1) (hB : ∀ v w', R v w' → S w' ∧ wpAnyH Try.prog .any ops Q S fuel (listed.setIfInBounds j true) (a.put (some e) v) w') : wpAnyH Try.prog .any ops Q S (fuel + 1) listed a w :=
  wpAnyH_all hr (by simp) (fun ii hii => by
    have h2 : ii = i ∨ ii = j := by simpa using hii
    rcases h2 with rfl | rfl
    · exact opVal ii d v w1 hi hd hw hrun hA
    · exact opCallK ii e f args R hj he hwj hrunj hc hB)
end
theorem own_sl {w : World} {base : Nat} {t : TypeId} {k : Nat} {v : Value} {L : List (List Value)} (h : OwnL w base t k v L) : ∃ va c, v = .slice va L.length c := by
  rcases own_row h.2 with ⟨hv, h0, _⟩ | ⟨g, cap, cs, hv, _⟩
  · rw [h0]; exact ⟨none, 0, hv⟩
  · exact ⟨_, _, hv⟩
theorem own_cell {w : World} {base : Nat} {va : Option Addr} {n c : Nat} {L : List (List Value)} {i : Nat} {id : Idn} {ch : UInt8} {gn : Bool} (h : OwnL w base 63 35 (.slice va n c) L) (hi : L[i]? = some (ccell id ch gn)) (hok : id.Ok) : ∃ g, va = some ⟨g, 0, none⟩ ∧ i < n ∧ w.rangeAt g (i * 35) (idc id) ∧ w.cell? ⟨g, i * 35 + 33, none⟩ = some (.int .u8 (ch.toNat : Int)) ∧ w.cell? ⟨g, i * 35 + 34, none⟩ = some (.bool gn) ∧ w.frozen? ⟨g, i * 35 + 33, none⟩ = false := by
  obtain ⟨g, cap, cs, he, _, hr, _⟩ := h.row (fun e => by rw [e] at hi; simp at hi)
  cases he
  have hrg := h.range hi
  refine ⟨g, rfl, (List.getElem?_eq_some_iff.1 hi).1, fun j u hu => hrg j u (by unfold ccell; rw [List.getElem?_append_left (List.getElem?_eq_some_iff.1 hu).1]; exact hu), ?_, ?_, hr.frozen _⟩
  · exact hrg 33 _ (by unfold ccell; rw [List.getElem?_append_right (by rw [idc_len hok]; omega), idc_len hok]; rfl)
  · exact hrg 34 _ (by unfold ccell; rw [List.getElem?_append_right (by rw [idc_len hok]; omega), idc_len hok]; rfl)
set_option maxRecDepth 100000 in
set_option maxHeartbeats 12800000 in
theorem same_any {w : World} {base g : Nat} {st : List Stm} {D : RwD} {v : Value} {l : List RC} (h : RowAt w base g st D) (hr : RowR w base v l) (hA : Alike st l) (hs : st.length ≤ 1000) :
    Calls Try.prog 17 #[.pointer (some ⟨g, 0, none⟩), .agg #[v]] w fun e w' => e = .returned (.bool true) ∧ After w w' := by
  obtain ⟨W0, hW0⟩ : ∃ W0, w.alloc (.cells #[v] 29) = W0 := ⟨_, rfl⟩
  have HA : Hid (After w W0 ∧ RowIs W0 w.heap.size 29 [v] ∧ True) := by
    rw [← hW0]
    exact ⟨after_alloc (After.refl w) _, RowIs.new w 29 [v], trivial⟩
  have HR : Hid (RowAt W0 base g st D ∧ RowR W0 base v l) := ⟨h.after HA.out.1, hr.after HA.out.1⟩
  have HL : Hid (Alike st l ∧ st.length ≤ 1000) := ⟨hA, hs⟩
  have HC : Hid (∀ w1, After w w1 → Calls Try.prog 34 #[.agg #[v]] w1 fun e w' => ∃ v', e = .returned v' ∧ RowR w' w1.heap.size v' (bl l st.length zId) ∧ After w1 w') := fun w1 hw1 => rCells_any (hr.after hw1) hA.kid.lt (hA.bound hs) (by have := hA.lnk.len; omega) (by have := hA.lnk.len; omega)
  clear h hr hA hs
  go_enter Try.func17, Try.ntmps17
  go_wp2_with (rw [hW0])
  clear hW0
  refine wp_region_noPanic ?_
  refine wp_region_held_drew (S := After W0) (by kernel_rfl) (After.drew (After.refl _)) ?_
  intro hS0
  refine tk 0 8 (.pointer (some ⟨g, 0, none⟩)) (fuel := 5) rfl (by kernel_rfl) (by kernel_rfl) (by kernel_rfl) (by kernel_rfl) noPanic_false (by kernel_rfl) (fun _ _ => by kernel_rfl) hS0 ?_
  refine tk 2 10 (.agg #[v]) (fuel := 4) rfl (by kernel_rfl) (by kernel_rfl) (by kernel_rfl) (by kernel_rfl) noPanic_false (by kernel_rfl) (fun W hW => x_ld29 (x := .tmp 3) (g := w.heap.size) (by kernel_rfl) (by kernel_rfl) (HA.out.2.1.below hW HA.out.2.1.lt)) hS0 ?_
  refine tkCallZ 1 9 24 #[.pointer (some ⟨g, 0, none⟩)] (fun v w' => ∃ U, Reach st U [] ∧ OwnL w' W0.heap.size 63 35 v (U.map (cOf st)) ∧ After W0 w') (fuel := 3) rfl (by kernel_rfl) (by kernel_rfl) (by kernel_rfl) (fun _ => by kernel_rfl) (Calls.mono (Cells_any (HR.out.1.after hS0) HL.out.1.wf (by have := HL.out.2; omega)) (fun e w' ⟨v, U, he, h1, h2, h3⟩ => ⟨_, he, U, h1, h2, hS0.trans h3⟩)) ?_
  intro x1 w1 ⟨U, hU, hx1, ha1⟩
  refine ⟨ha1, ?_⟩
  obtain ⟨xa, xc, hxv⟩ := own_sl hx1
  rw [← HL.out.1.count hU] at hxv
  subst hxv
  have hC := HC.out w1 ((HA.out.1).trans ha1)
  refine tkCallZ 3 11 34 #[.agg #[v]] (fun y w' => RowR w' w1.heap.size y (bl l st.length zId) ∧ After w1 w') (fuel := 2) rfl (by kernel_rfl) (by kernel_rfl) (by kernel_rfl) (fun _ => by kernel_rfl) (Calls.mono hC (fun e w' ⟨v', he, h1, h2⟩ => ⟨_, he, h1, h2⟩)) ?_
  intro y2 w2 ⟨hy2, ha2⟩
  have ha3 := ha1.trans ha2
  refine ⟨ha3, ?_⟩
  obtain ⟨ya, yc, hyv⟩ := hy2.sl
  subst hyv
  refine tk 4 5 (.slice xa (bl l st.length zId).length xc) (fuel := 1) rfl (by kernel_rfl) (by kernel_rfl) (by kernel_rfl) (by kernel_rfl) noPanic_false (by kernel_rfl) (fun _ _ => by kernel_rfl) ha3 ?_
  refine tk 5 6 (.slice ya (bl l st.length zId).length yc) (fuel := 0) rfl (by kernel_rfl) (by kernel_rfl) (by kernel_rfl) (by kernel_rfl) noPanic_false (by kernel_rfl) (fun _ _ => by kernel_rfl) ha3 ?_
  refine wpAnyH_done (by kernel_rfl) (NoPanic.normal ?_) _
  obtain ⟨L, hL⟩ : ∃ L, bl l st.length zId = L := ⟨_, rfl⟩
  obtain ⟨n, hn⟩ : ∃ n, L.length = n := ⟨_, rfl⟩
  have HN : Hid (bl l st.length zId = L ∧ L.length = n ∧ n ≤ 100000) := ⟨hL, hn, by rw [← hn, ← hL]; exact HL.out.1.bound HL.out.2 _ _ (by have := cnt_le l zId; have := HL.out.1.lnk.len; omega)⟩
  have HU : Hid (Reach st U [] ∧ (∀ (i : Nat) (c : RC), L[i]? = some c → (U.map (cOf st))[i]? = some (ccell c.id c.ch c.gone)) ∧ (U.map (cOf st)).length = n) := ⟨hU, fun i c hc => HL.out.1.cells hU (by rw [hL]; exact hc), by rw [← HL.out.1.count hU, hL, hn]⟩
  rw [hL, hn]
  rw [hL] at hx1 hy2
  rw [hn] at hx1 hy2
  have H2 : Hid (OwnL w2 W0.heap.size 63 35 (.slice xa n xc) (U.map (cOf st)) ∧ RowR w2 W0.heap.size (.slice ya n yc) L ∧ After W0 w2) := ⟨hx1.same (fun b hb => ha2.block b (own_lt hx1.2 hb).2.1), hy2.mono ha1.size, ha3⟩
  have HB2 : Hid (RowIs w2 w.heap.size 29 [v] ∧ RowAt w2 base g st D ∧ RowR w2 base v l) := ⟨HA.out.2.1.below ha3 HA.out.2.1.lt, HR.out.1.after ha3, HR.out.2.after ha3⟩
  obtain ⟨T, hT⟩ : ∃ T, textOf st U = T := ⟨_, rfl⟩
  have HT : Hid (textOf st U = T ∧ rtext (bl l st.length zId) = T ∧ (U.filter (live st)).length = T.length) := ⟨hT, by rw [HL.out.1.text hU]; exact hT, by rw [← hT]; unfold textOf; rw [List.length_map]⟩
  clear hU hx1 ha1 hC hy2 ha2 ha3 hS0 hL hn hT
  go_simp
  go_wp2_with fail
  refine wp_region_noPanic ?_
  refine wp_region_held_drew (S := After w2) (by kernel_rfl) (After.drew (After.refl _)) ?_
  intro hS0
  refine tk 0 12 (.slice xa n xc) (fuel := 20) rfl (by kernel_rfl) (by kernel_rfl) (by kernel_rfl) (by kernel_rfl) noPanic_false (by kernel_rfl) (fun _ _ => by kernel_rfl) hS0 ?_
  refine tk 1 13 (.int .i64 (n : Int)) (fuel := 19) rfl (by kernel_rfl) (by kernel_rfl) (by kernel_rfl) (by kernel_rfl) noPanic_false (by kernel_rfl) (fun _ _ => by kernel_rfl) hS0 ?_
  refine tk 2 14 (.slice ya n yc) (fuel := 18) rfl (by kernel_rfl) (by kernel_rfl) (by kernel_rfl) (by kernel_rfl) noPanic_false (by kernel_rfl) (fun _ _ => by kernel_rfl) hS0 ?_
  refine tk 3 15 (.int .i64 (n : Int)) (fuel := 17) rfl (by kernel_rfl) (by kernel_rfl) (by kernel_rfl) (by kernel_rfl) noPanic_false (by kernel_rfl) (fun _ _ => by kernel_rfl) hS0 ?_
  refine tk 4 16 (.bool false) (fuel := 16) rfl (by kernel_rfl) (by kernel_rfl) (by kernel_rfl) (by kernel_rfl) noPanic_false (by kernel_rfl) (fun W _ => x_ne3 (x := .tmp 13) (y := .tmp 15) (n := n) (by kernel_rfl) (by kernel_rfl) (by kernel_rfl)) hS0 ?_
  refine tk 5 17 (.bool false) (fuel := 15) rfl (by kernel_rfl) (by kernel_rfl) (by kernel_rfl) (by kernel_rfl) noPanic_false (by kernel_rfl) (fun _ _ => by kernel_rfl) hS0 ?_
  refine tk 6 18 (.pointer (some ⟨g, 0, none⟩)) (fuel := 14) rfl (by kernel_rfl) (by kernel_rfl) (by kernel_rfl) (by kernel_rfl) noPanic_false (by kernel_rfl) (fun _ _ => by kernel_rfl) hS0 ?_
  refine tk 9 21 (.agg #[v]) (fuel := 13) rfl (by kernel_rfl) (by kernel_rfl) (by kernel_rfl) (by kernel_rfl) noPanic_false (by kernel_rfl) (fun W hW => x_ld29 (x := .tmp 3) (g := w.heap.size) (by kernel_rfl) (by kernel_rfl) (HB2.out.1.below hW HB2.out.1.lt)) hS0 ?_
  refine tkCallZ 7 19 25 #[.pointer (some ⟨g, 0, none⟩)] (fun v w' => Own w' w2.heap.size v T ∧ After w2 w') (fuel := 12) rfl (by kernel_rfl) (by kernel_rfl) (by kernel_rfl) (fun _ => by kernel_rfl) (Calls.mono (Text_any (N := st.length) (HB2.out.2.1.after hS0) (fun V T h => HL.out.1.wf.few h) (fun V T h => HL.out.1.wf.in h) (by have := HL.out.2; omega)) (fun e w' ⟨v, U', he, h1, h2, h3⟩ => ⟨_, he, by rw [h1.uniq HU.out.1, HT.out.1] at h2; exact h2, hS0.trans h3⟩)) ?_
  intro v7 w7 ⟨hv7, ha7⟩
  refine ⟨ha7, ?_⟩
  refine tkVC 8 20 (.string (strOf T)) w7 10 22 35 #[.agg #[v]] (fun v w' => v = .string (strOf T) ∧ After w7 w') (fuel := 11) (by kernel_rfl) rfl (by kernel_rfl) (by kernel_rfl) (x_conv (x := .tmp 19) (by kernel_rfl) (by kernel_rfl) hv7.conv) rfl (by kernel_rfl) (by kernel_rfl) (fun _ => by kernel_rfl) (Calls.mono (rText_all (HB2.out.2.2.after ha7) HL.out.1 HL.out.2) (fun e w' ⟨he, ha⟩ => ⟨_, he, by rw [HT.out.2.1], ha⟩)) ⟨ha7, ?_⟩ ?_
  · refine tkCallZ 10 22 35 #[.agg #[v]] (fun v w' => v = .string (strOf T) ∧ After w2 w') (fuel := 10) rfl (by kernel_rfl) (by kernel_rfl) (by kernel_rfl) (fun _ => by kernel_rfl) (Calls.mono (rText_all (HB2.out.2.2.after ha7) HL.out.1 HL.out.2) (fun e w' ⟨he, ha⟩ => ⟨_, he, by rw [HT.out.2.1], ha7.trans ha⟩)) ?_
    intro v4 w4 ⟨hv4, ha4⟩
    subst hv4
    refine ⟨ha4, ?_⟩
    refine tk 11 23 (.bool false) (fuel := 9) rfl (by kernel_rfl) (by kernel_rfl) (by kernel_rfl) (by kernel_rfl) noPanic_false (by kernel_rfl) (fun W _ => x_streqf (x := .tmp 20) (y := .tmp 22) (s := strOf T) (t := strOf T) (by kernel_rfl) (by kernel_rfl) (by kernel_rfl) rfl) ha4 ?_
    refine tk 12 24 (.bool false) (fuel := 8) rfl (by kernel_rfl) (by kernel_rfl) (by kernel_rfl) (by kernel_rfl) noPanic_false (by kernel_rfl) (fun _ _ => by kernel_rfl) ha4 ?_
    refine tk 13 25 (.bool false) (fuel := 7) rfl (by kernel_rfl) (by kernel_rfl) (by kernel_rfl) (by kernel_rfl) noPanic_false (by kernel_rfl) (fun _ _ => by kernel_rfl) ha4 ?_
    refine tk 14 26 (.pointer (some ⟨g, 0, none⟩)) (fuel := 6) rfl (by kernel_rfl) (by kernel_rfl) (by kernel_rfl) (by kernel_rfl) noPanic_false (by kernel_rfl) (fun _ _ => by kernel_rfl) ha4 ?_
    refine tk 16 28 (.agg #[v]) (fuel := 5) rfl (by kernel_rfl) (by kernel_rfl) (by kernel_rfl) (by kernel_rfl) noPanic_false (by kernel_rfl) (fun W hW => x_ld29 (x := .tmp 3) (g := w.heap.size) (by kernel_rfl) (by kernel_rfl) (HB2.out.1.below hW HB2.out.1.lt)) ha4 ?_
    refine tkCallZ 15 27 26 #[.pointer (some ⟨g, 0, none⟩)] (fun v w' => v = .int .i64 (T.length : Int) ∧ After w2 w') (fuel := 4) rfl (by kernel_rfl) (by kernel_rfl) (by kernel_rfl) (fun _ => by kernel_rfl) (Calls.mono (Len_any (HB2.out.2.1.after ha4) HL.out.1.wf (by have := HL.out.2; omega)) (fun e w' ⟨U', h1, he, h3⟩ => ⟨_, he, by rw [h1.uniq HU.out.1, HT.out.2.2], ha4.trans h3⟩)) ?_
    intro v8 w8 ⟨hv8, ha8⟩
    subst hv8
    refine ⟨ha8, ?_⟩
    refine tkCallZ 17 29 35 #[.agg #[v]] (fun v w' => v = .string (strOf T) ∧ After w2 w') (fuel := 3) rfl (by kernel_rfl) (by kernel_rfl) (by kernel_rfl) (fun _ => by kernel_rfl) (Calls.mono (rText_all (HB2.out.2.2.after ha8) HL.out.1 HL.out.2) (fun e w' ⟨he, ha⟩ => ⟨_, he, by rw [HT.out.2.1], ha8.trans ha⟩)) ?_
    intro v9 w9 ⟨hv9, ha9⟩
    subst hv9
    refine ⟨ha9, ?_⟩
    refine tk 18 30 (.int .i64 (T.length : Int)) (fuel := 2) rfl (by kernel_rfl) (by kernel_rfl) (by kernel_rfl) (by kernel_rfl) noPanic_false (by kernel_rfl) (fun W _ => x_len9 (x := .tmp 29) (bs := T) (by kernel_rfl) (by kernel_rfl)) ha9 ?_
    refine tk 19 31 (.bool false) (fuel := 1) rfl (by kernel_rfl) (by kernel_rfl) (by kernel_rfl) (by kernel_rfl) noPanic_false (by kernel_rfl) (fun W _ => x_ne3 (x := .tmp 27) (y := .tmp 30) (n := T.length) (by kernel_rfl) (by kernel_rfl) (by kernel_rfl)) ha9 ?_
    refine tk 20 32 (.bool false) (fuel := 0) rfl (by kernel_rfl) (by kernel_rfl) (by kernel_rfl) (by kernel_rfl) noPanic_false (by kernel_rfl) (fun _ _ => by kernel_rfl) ha9 ?_
    refine wpAnyH_done (by kernel_rfl) (NoPanic.normal ?_) _
    have H9 := show Hid (After w2 w9) from ha9
    clear ha9 ha8 ha4 hS0 hv7 ha7
    go_simp
    go_wp2_with fail
    have H3 : Hid (OwnL w9 W0.heap.size 63 35 (.slice xa n xc) (U.map (cOf st)) ∧ RowR w9 W0.heap.size (.slice ya n yc) L ∧ After W0 w9) := ⟨H2.out.1.same (fun b hb => H9.out.block b (own_lt H2.out.1.2 hb).2.1), H2.out.2.1.after H9.out, H2.out.2.2.trans H9.out⟩
    clear H9
    go_loopw [7] (fun vi wr => ∃ i : Nat, vi = .int .i64 (i : Int) ∧ i ≤ n ∧ ∃ C : List (List Value), Hid (OwnL wr W0.heap.size 63 35 (.slice xa n xc) C ∧ (∀ j, i ≤ j → C[j]? = (U.map (cOf st))[j]?) ∧ RowR wr W0.heap.size (.slice ya n yc) L ∧ After W0 wr)) (fun vi _ => n - (intOf vi).toNat)
    case atStart => exact ⟨0, rfl, Nat.zero_le _, _, H3.out.1, fun _ _ => rfl, H3.out.2.1, H3.out.2.2⟩
    case round =>
      obtain ⟨i, rfl, hin, C, HJ⟩ := hrel
      have hb6 : n ≤ 100000 := HN.out.2.2
      by_cases hlt : i < n
      · have hii : (i : Int) < (n : Int) := by omega
        obtain ⟨c, hc⟩ : ∃ c, L[i]? = some c := ⟨_, List.getElem?_eq_getElem (by rw [HN.out.2.1]; exact hlt)⟩
        have hci : C[i]? = some (ccell c.id c.ch c.gone) := (HJ.out.2.1 i (Nat.le_refl _)).trans (HU.out.2.1 i c hc)
        have hok := HJ.out.2.2.1.1 c (List.mem_of_getElem? hc)
        obtain ⟨gx, hxa, -, hx1, hx2, hx3, hx4⟩ := own_cell HJ.out.1 hci hok.id
        subst hxa
        obtain ⟨gy, hya, -, hy1⟩ := HJ.out.2.2.1.at hc
        subst hya
        rw [Nat.zero_add] at hy1
        have HX : Hid (wr.rangeAt gx (i * 35) (idc c.id) ∧ wr.cell? ⟨gx, i * 35 + 33, none⟩ = some (.int .u8 (c.ch.toNat : Int)) ∧ wr.cell? ⟨gx, i * 35 + 34, none⟩ = some (.bool c.gone)) := ⟨hx1, hx2, hx3⟩
        have HY : Hid (wr.rangeAt gy (i * 68) (idc c.id) ∧ wr.cell? ⟨gy, i * 68 + 66, none⟩ = some (.int .u8 (c.ch.toNat : Int)) ∧ wr.cell? ⟨gy, i * 68 + 67, none⟩ = some (.bool c.gone)) := ⟨range_rid hy1, HJ.out.2.2.1.ccell hc, (HJ.out.2.2.1.gcell hc).1⟩
        have HI : Hid (i < n ∧ c.id.Ok ∧ C[i]? = some (ccell c.id c.ch c.gone)) := ⟨hlt, hok.id, hci⟩
        clear hx1 hx2 hx3 hx4 hy1 hc hci hok
        go_wp2_with fail
        refine wp_region_noPanic ?_
        refine wp_region_held_drew (S := After wr) (by kernel_rfl) (After.drew (After.refl _)) ?_
        intro hS0
        refine tk 0 39 (.slice (some ⟨gx, 0, none⟩) n xc) (fuel := 37) rfl (by kernel_rfl) (by kernel_rfl) (by kernel_rfl) (by kernel_rfl) noPanic_false (by kernel_rfl) (fun _ _ => by kernel_rfl) hS0 ?_
        refine tk 1 40 (.int .i64 (i : Int)) (fuel := 36) rfl (by kernel_rfl) (by kernel_rfl) (by kernel_rfl) (by kernel_rfl) noPanic_false (by kernel_rfl) (fun _ _ => by kernel_rfl) hS0 ?_
        refine tk 2 41 (.pointer (some ⟨gx, i * 35, none⟩)) (fuel := 35) rfl (by kernel_rfl) (by kernel_rfl) (by kernel_rfl) (by kernel_rfl) noPanic_false (by kernel_rfl) (fun W _ => x_idx54 (x := .tmp 39) (y := .tmp 40) (b := gx) (n := n) (c := xc) (k := i) (by kernel_rfl) (by kernel_rfl) (by kernel_rfl) HI.out.1) hS0 ?_
        refine tk 3 42 (.pointer (some ⟨gx, i * 35, none⟩)) (fuel := 34) rfl (by kernel_rfl) (by kernel_rfl) (by kernel_rfl) (by kernel_rfl) noPanic_false (by kernel_rfl) (fun _ _ => by kernel_rfl) hS0 ?_
        refine tk 4 43 (idv c.id) (fuel := 33) rfl (by kernel_rfl) (by kernel_rfl) (by kernel_rfl) (by kernel_rfl) noPanic_false (by kernel_rfl) (fun W hW => x_ld37m (x := .tmp 42) (g := gx) (p := i * 35) HI.out.2.1 (by kernel_rfl) (by kernel_rfl) (range_after HX.out.1 hW)) hS0 ?_
        refine tk 5 44 (.slice (some ⟨gy, 0, none⟩) n yc) (fuel := 32) rfl (by kernel_rfl) (by kernel_rfl) (by kernel_rfl) (by kernel_rfl) noPanic_false (by kernel_rfl) (fun _ _ => by kernel_rfl) hS0 ?_
        refine tk 6 45 (.int .i64 (i : Int)) (fuel := 31) rfl (by kernel_rfl) (by kernel_rfl) (by kernel_rfl) (by kernel_rfl) noPanic_false (by kernel_rfl) (fun _ _ => by kernel_rfl) hS0 ?_
        refine tk 7 46 (.pointer (some ⟨gy, i * 68, none⟩)) (fuel := 30) rfl (by kernel_rfl) (by kernel_rfl) (by kernel_rfl) (by kernel_rfl) noPanic_false (by kernel_rfl) (fun W _ => (x_idx27 (x := .tmp 44) (y := .tmp 45) (b := gy) (f := 0) (n := n) (c := yc) (k := i) (by kernel_rfl) (by kernel_rfl) (by kernel_rfl) HI.out.1).trans (by rw [Nat.zero_add])) hS0 ?_
        refine tk 8 47 (.pointer (some ⟨gy, i * 68, none⟩)) (fuel := 29) rfl (by kernel_rfl) (by kernel_rfl) (by kernel_rfl) (by kernel_rfl) noPanic_false (by kernel_rfl) (fun _ _ => by kernel_rfl) hS0 ?_
        refine tk 9 48 (idv c.id) (fuel := 28) rfl (by kernel_rfl) (by kernel_rfl) (by kernel_rfl) (by kernel_rfl) noPanic_false (by kernel_rfl) (fun W hW => x_ld40m (x := .tmp 47) (g := gy) (p := i * 68) HI.out.2.1 (by kernel_rfl) (by kernel_rfl) (range_after HY.out.1 hW)) hS0 ?_
        refine tkCallZ 10 49 18 #[idv c.id] (fun v w' => v = idv c.id ∧ After wr w') (fuel := 27) rfl (by kernel_rfl) (by kernel_rfl) (by kernel_rfl) (fun _ => by kernel_rfl) (Calls.mono (own_any HI.out.2.1 _) (fun e w' ⟨he, ha⟩ => ⟨_, he, rfl, hS0.trans ha⟩)) ?_
        intro v5 w5 ⟨hv5, ha5⟩
        subst hv5
        refine ⟨ha5, ?_⟩
        refine tk 11 50 (.bool false) (fuel := 26) rfl (by kernel_rfl) (by kernel_rfl) (by kernel_rfl) (by kernel_rfl) noPanic_false (by kernel_rfl) (fun W hW => (x_neId (x := .tmp 43) (y := .tmp 49) (h := c.id) (k := c.id) HI.out.2.1 HI.out.2.1 (by kernel_rfl) (by kernel_rfl) (by kernel_rfl)).trans (by simp)) ha5 ?_
        refine tk 12 51 (.bool false) (fuel := 25) rfl (by kernel_rfl) (by kernel_rfl) (by kernel_rfl) (by kernel_rfl) noPanic_false (by kernel_rfl) (fun _ _ => by kernel_rfl) ha5 ?_
        refine tk 13 52 (.slice (some ⟨gx, 0, none⟩) n xc) (fuel := 24) rfl (by kernel_rfl) (by kernel_rfl) (by kernel_rfl) (by kernel_rfl) noPanic_false (by kernel_rfl) (fun _ _ => by kernel_rfl) ha5 ?_
        refine tk 14 53 (.int .i64 (i : Int)) (fuel := 23) rfl (by kernel_rfl) (by kernel_rfl) (by kernel_rfl) (by kernel_rfl) noPanic_false (by kernel_rfl) (fun _ _ => by kernel_rfl) ha5 ?_
        refine tk 15 54 (.pointer (some ⟨gx, i * 35, none⟩)) (fuel := 22) rfl (by kernel_rfl) (by kernel_rfl) (by kernel_rfl) (by kernel_rfl) noPanic_false (by kernel_rfl) (fun W _ => x_idx54 (x := .tmp 52) (y := .tmp 53) (b := gx) (n := n) (c := xc) (k := i) (by kernel_rfl) (by kernel_rfl) (by kernel_rfl) HI.out.1) ha5 ?_
        refine tk 16 55 (.pointer (some ⟨gx, i * 35 + 33, none⟩)) (fuel := 21) rfl (by kernel_rfl) (by kernel_rfl) (by kernel_rfl) (by kernel_rfl) noPanic_false (by kernel_rfl) (fun _ _ => by kernel_rfl) ha5 ?_
        refine tk 17 56 (.int .u8 (c.ch.toNat : Int)) (fuel := 20) rfl (by kernel_rfl) (by kernel_rfl) (by kernel_rfl) (by kernel_rfl) noPanic_false (by kernel_rfl) (fun W hW => x_loadT (x := .tmp 55) (t := 5) (g := gx) (j := i * 35 + 33) Try.underlying5 rfl (by kernel_rfl) (by kernel_rfl) ((World.cell?_of_block (hW.block gx (World.block_lt_of_cell? wr _ HX.out.2.1))).trans HX.out.2.1)) ha5 ?_
        refine tk 18 57 (.slice (some ⟨gy, 0, none⟩) n yc) (fuel := 19) rfl (by kernel_rfl) (by kernel_rfl) (by kernel_rfl) (by kernel_rfl) noPanic_false (by kernel_rfl) (fun _ _ => by kernel_rfl) ha5 ?_
        refine tk 19 58 (.int .i64 (i : Int)) (fuel := 18) rfl (by kernel_rfl) (by kernel_rfl) (by kernel_rfl) (by kernel_rfl) noPanic_false (by kernel_rfl) (fun _ _ => by kernel_rfl) ha5 ?_
        refine tk 20 59 (.pointer (some ⟨gy, i * 68, none⟩)) (fuel := 17) rfl (by kernel_rfl) (by kernel_rfl) (by kernel_rfl) (by kernel_rfl) noPanic_false (by kernel_rfl) (fun W _ => (x_idx27 (x := .tmp 57) (y := .tmp 58) (b := gy) (f := 0) (n := n) (c := yc) (k := i) (by kernel_rfl) (by kernel_rfl) (by kernel_rfl) HI.out.1).trans (by rw [Nat.zero_add])) ha5 ?_
        refine tk 21 60 (.pointer (some ⟨gy, i * 68 + 66, none⟩)) (fuel := 16) rfl (by kernel_rfl) (by kernel_rfl) (by kernel_rfl) (by kernel_rfl) noPanic_false (by kernel_rfl) (fun _ _ => by kernel_rfl) ha5 ?_
        refine tk 22 61 (.int .u8 (c.ch.toNat : Int)) (fuel := 15) rfl (by kernel_rfl) (by kernel_rfl) (by kernel_rfl) (by kernel_rfl) noPanic_false (by kernel_rfl) (fun W hW => x_loadT (x := .tmp 60) (t := 5) (g := gy) (j := i * 68 + 66) Try.underlying5 rfl (by kernel_rfl) (by kernel_rfl) ((World.cell?_of_block (hW.block gy (World.block_lt_of_cell? wr _ HY.out.2.1))).trans HY.out.2.1)) ha5 ?_
        refine tk 23 62 (.bool false) (fuel := 14) rfl (by kernel_rfl) (by kernel_rfl) (by kernel_rfl) (by kernel_rfl) noPanic_false (by kernel_rfl) (fun W _ => x_ne5 (x := .tmp 56) (y := .tmp 61) (n := (c.ch.toNat : Int)) (by kernel_rfl) (by kernel_rfl) (by kernel_rfl)) ha5 ?_
        refine tk 24 63 (.bool false) (fuel := 13) rfl (by kernel_rfl) (by kernel_rfl) (by kernel_rfl) (by kernel_rfl) noPanic_false (by kernel_rfl) (fun _ _ => by kernel_rfl) ha5 ?_
        refine tk 25 64 (.bool false) (fuel := 12) rfl (by kernel_rfl) (by kernel_rfl) (by kernel_rfl) (by kernel_rfl) noPanic_false (by kernel_rfl) (fun _ _ => by kernel_rfl) ha5 ?_
        refine tk 26 65 (.slice (some ⟨gx, 0, none⟩) n xc) (fuel := 11) rfl (by kernel_rfl) (by kernel_rfl) (by kernel_rfl) (by kernel_rfl) noPanic_false (by kernel_rfl) (fun _ _ => by kernel_rfl) ha5 ?_
        refine tk 27 66 (.int .i64 (i : Int)) (fuel := 10) rfl (by kernel_rfl) (by kernel_rfl) (by kernel_rfl) (by kernel_rfl) noPanic_false (by kernel_rfl) (fun _ _ => by kernel_rfl) ha5 ?_
        refine tk 28 67 (.pointer (some ⟨gx, i * 35, none⟩)) (fuel := 9) rfl (by kernel_rfl) (by kernel_rfl) (by kernel_rfl) (by kernel_rfl) noPanic_false (by kernel_rfl) (fun W _ => x_idx54 (x := .tmp 65) (y := .tmp 66) (b := gx) (n := n) (c := xc) (k := i) (by kernel_rfl) (by kernel_rfl) (by kernel_rfl) HI.out.1) ha5 ?_
        refine tk 29 68 (.pointer (some ⟨gx, i * 35 + 34, none⟩)) (fuel := 8) rfl (by kernel_rfl) (by kernel_rfl) (by kernel_rfl) (by kernel_rfl) noPanic_false (by kernel_rfl) (fun _ _ => by kernel_rfl) ha5 ?_
        refine tk 30 69 (.bool c.gone) (fuel := 7) rfl (by kernel_rfl) (by kernel_rfl) (by kernel_rfl) (by kernel_rfl) noPanic_false (by kernel_rfl) (fun W hW => x_loadT (x := .tmp 68) (t := 4) (g := gx) (j := i * 35 + 34) Try.underlying4 rfl (by kernel_rfl) (by kernel_rfl) ((World.cell?_of_block (hW.block gx (World.block_lt_of_cell? wr _ HX.out.2.2))).trans HX.out.2.2)) ha5 ?_
        refine tk 31 70 (.slice (some ⟨gy, 0, none⟩) n yc) (fuel := 6) rfl (by kernel_rfl) (by kernel_rfl) (by kernel_rfl) (by kernel_rfl) noPanic_false (by kernel_rfl) (fun _ _ => by kernel_rfl) ha5 ?_
        refine tk 32 71 (.int .i64 (i : Int)) (fuel := 5) rfl (by kernel_rfl) (by kernel_rfl) (by kernel_rfl) (by kernel_rfl) noPanic_false (by kernel_rfl) (fun _ _ => by kernel_rfl) ha5 ?_
        refine tk 33 72 (.pointer (some ⟨gy, i * 68, none⟩)) (fuel := 4) rfl (by kernel_rfl) (by kernel_rfl) (by kernel_rfl) (by kernel_rfl) noPanic_false (by kernel_rfl) (fun W _ => (x_idx27 (x := .tmp 70) (y := .tmp 71) (b := gy) (f := 0) (n := n) (c := yc) (k := i) (by kernel_rfl) (by kernel_rfl) (by kernel_rfl) HI.out.1).trans (by rw [Nat.zero_add])) ha5 ?_
        refine tk 34 73 (.pointer (some ⟨gy, i * 68 + 67, none⟩)) (fuel := 3) rfl (by kernel_rfl) (by kernel_rfl) (by kernel_rfl) (by kernel_rfl) noPanic_false (by kernel_rfl) (fun _ _ => by kernel_rfl) ha5 ?_
        refine tk 35 74 (.bool c.gone) (fuel := 2) rfl (by kernel_rfl) (by kernel_rfl) (by kernel_rfl) (by kernel_rfl) noPanic_false (by kernel_rfl) (fun W hW => x_loadT (x := .tmp 73) (t := 4) (g := gy) (j := i * 68 + 67) Try.underlying4 rfl (by kernel_rfl) (by kernel_rfl) ((World.cell?_of_block (hW.block gy (World.block_lt_of_cell? wr _ HY.out.2.2))).trans HY.out.2.2)) ha5 ?_
        refine tk 36 75 (.bool false) (fuel := 1) rfl (by kernel_rfl) (by kernel_rfl) (by kernel_rfl) (by kernel_rfl) noPanic_false (by kernel_rfl) (fun W _ => x_neb (x := .tmp 69) (y := .tmp 74) (b := c.gone) (by kernel_rfl) (by kernel_rfl) (by kernel_rfl)) ha5 ?_
        refine tk 37 76 (.bool false) (fuel := 0) rfl (by kernel_rfl) (by kernel_rfl) (by kernel_rfl) (by kernel_rfl) noPanic_false (by kernel_rfl) (fun _ _ => by kernel_rfl) ha5 ?_
        refine wpAnyH_done (by kernel_rfl) (NoPanic.normal ?_) _
        have hxr := HJ.out.1.same (w' := w5) (fun b hb => ha5.block b (own_lt HJ.out.1.2 hb).2.1)
        obtain ⟨gx', hgx', -, -, cx, -, fx⟩ := own_cell hxr HI.out.2.2 HI.out.2.1
        cases hgx'
        have HS5 : Hid (∀ u, OwnL (w5.setCell ⟨gx, i * 35 + 33, none⟩ u) W0.heap.size 63 35 (.slice (some ⟨gx, 0, none⟩) n xc) (C.set i ((ccell c.id c.ch c.gone).set 33 u)) ∧ RowR (w5.setCell ⟨gx, i * 35 + 33, none⟩ u) W0.heap.size (.slice (some ⟨gy, 0, none⟩) n yc) L ∧ After W0 (w5.setCell ⟨gx, i * 35 + 33, none⟩ u)) := fun u => by
          have hyr := HJ.out.2.2.1.after ha5
          obtain ⟨hbx, hltx, csx, hrx⟩ := own_lt hxr.2 (b := gx) rfl
          refine ⟨hxr.set HI.out.2.2 (by omega) u, hyr.same (fun b hb => ?_), Below.setCell (HJ.out.2.2.2.trans ha5) (p := ⟨gx, i * 35 + 33, none⟩) hbx _⟩
          obtain ⟨_, _, csy, hry⟩ := own_lt hyr.2.2 hb
          exact Below.heap_setCell w5 ⟨gx, i * 35 + 33, none⟩ _ _ (fun e => by rw [e] at hry; exact absurd (hry.ty hrx).1 (by decide))
        have HCX := show Hid (w5.cell? ⟨gx, i * 35 + 33, none⟩ = some (.int .u8 (c.ch.toNat : Int)) ∧ w5.frozen? ⟨gx, i * 35 + 33, none⟩ = false) from ⟨cx, fx⟩
        clear hxr ha5 hS0 fx
        go_simp
        go_wp2_with (first
          | (refine wpList_of_run rfl (x_idx54 (x := .tmp 77) (y := .tmp 78) (b := gx) (n := n) (c := xc) (k := i) rfl (by kernel_rfl) (by kernel_rfl) HI.out.1) ?_)
          | (refine wpList_st rfl (x_st5 (x := .tmp 84) (y := .tmp 82) (g := gx) (p := i * 35 + 33) rfl (by kernel_rfl) rfl HCX.out.1 HCX.out.2) ?_))
        go_roundw
        case rel => exact ⟨i + 1, by go_num, by omega, _, (HS5.out _).1, fun j hj => (by rw [List.getElem?_set, if_neg (by omega)]; exact HJ.out.2.1 j (by omega)), (HS5.out _).2.1, (HS5.out _).2.2⟩
        case measure => simp [intOf]; omega
      · obtain rfl : i = n := by omega
        have hii : ¬ (i : Int) < (i : Int) := by omega
        go_wp2_with fail
        go_ret
        exact ⟨rfl, HA.out.1.trans HJ.out.2.2.2⟩
  · intro v4 w4 ⟨hv4, ha47⟩
    subst hv4
    have ha4 := ha7.trans ha47
    refine ⟨ha4, ?_⟩
    refine tkRunS 8 20 (.string (strOf T)) w4 (fuel := 10) rfl (by kernel_rfl) (by kernel_rfl) (by kernel_rfl) (x_conv (x := .tmp 19) (by kernel_rfl) (by kernel_rfl) (hv7.convA ha47)) ha4 ?_
    refine tk 11 23 (.bool false) (fuel := 9) rfl (by kernel_rfl) (by kernel_rfl) (by kernel_rfl) (by kernel_rfl) noPanic_false (by kernel_rfl) (fun W _ => x_streqf (x := .tmp 20) (y := .tmp 22) (s := strOf T) (t := strOf T) (by kernel_rfl) (by kernel_rfl) (by kernel_rfl) rfl) ha4 ?_
    refine tk 12 24 (.bool false) (fuel := 8) rfl (by kernel_rfl) (by kernel_rfl) (by kernel_rfl) (by kernel_rfl) noPanic_false (by kernel_rfl) (fun _ _ => by kernel_rfl) ha4 ?_
    refine tk 13 25 (.bool false) (fuel := 7) rfl (by kernel_rfl) (by kernel_rfl) (by kernel_rfl) (by kernel_rfl) noPanic_false (by kernel_rfl) (fun _ _ => by kernel_rfl) ha4 ?_
    refine tk 14 26 (.pointer (some ⟨g, 0, none⟩)) (fuel := 6) rfl (by kernel_rfl) (by kernel_rfl) (by kernel_rfl) (by kernel_rfl) noPanic_false (by kernel_rfl) (fun _ _ => by kernel_rfl) ha4 ?_
    refine tk 16 28 (.agg #[v]) (fuel := 5) rfl (by kernel_rfl) (by kernel_rfl) (by kernel_rfl) (by kernel_rfl) noPanic_false (by kernel_rfl) (fun W hW => x_ld29 (x := .tmp 3) (g := w.heap.size) (by kernel_rfl) (by kernel_rfl) (HB2.out.1.below hW HB2.out.1.lt)) ha4 ?_
    refine tkCallZ 15 27 26 #[.pointer (some ⟨g, 0, none⟩)] (fun v w' => v = .int .i64 (T.length : Int) ∧ After w2 w') (fuel := 4) rfl (by kernel_rfl) (by kernel_rfl) (by kernel_rfl) (fun _ => by kernel_rfl) (Calls.mono (Len_any (HB2.out.2.1.after ha4) HL.out.1.wf (by have := HL.out.2; omega)) (fun e w' ⟨U', h1, he, h3⟩ => ⟨_, he, by rw [h1.uniq HU.out.1, HT.out.2.2], ha4.trans h3⟩)) ?_
    intro v8 w8 ⟨hv8, ha8⟩
    subst hv8
    refine ⟨ha8, ?_⟩
    refine tkCallZ 17 29 35 #[.agg #[v]] (fun v w' => v = .string (strOf T) ∧ After w2 w') (fuel := 3) rfl (by kernel_rfl) (by kernel_rfl) (by kernel_rfl) (fun _ => by kernel_rfl) (Calls.mono (rText_all (HB2.out.2.2.after ha8) HL.out.1 HL.out.2) (fun e w' ⟨he, ha⟩ => ⟨_, he, by rw [HT.out.2.1], ha8.trans ha⟩)) ?_
    intro v9 w9 ⟨hv9, ha9⟩
    subst hv9
    refine ⟨ha9, ?_⟩
    refine tk 18 30 (.int .i64 (T.length : Int)) (fuel := 2) rfl (by kernel_rfl) (by kernel_rfl) (by kernel_rfl) (by kernel_rfl) noPanic_false (by kernel_rfl) (fun W _ => x_len9 (x := .tmp 29) (bs := T) (by kernel_rfl) (by kernel_rfl)) ha9 ?_
    refine tk 19 31 (.bool false) (fuel := 1) rfl (by kernel_rfl) (by kernel_rfl) (by kernel_rfl) (by kernel_rfl) noPanic_false (by kernel_rfl) (fun W _ => x_ne3 (x := .tmp 27) (y := .tmp 30) (n := T.length) (by kernel_rfl) (by kernel_rfl) (by kernel_rfl)) ha9 ?_
    refine tk 20 32 (.bool false) (fuel := 0) rfl (by kernel_rfl) (by kernel_rfl) (by kernel_rfl) (by kernel_rfl) noPanic_false (by kernel_rfl) (fun _ _ => by kernel_rfl) ha9 ?_
    refine wpAnyH_done (by kernel_rfl) (NoPanic.normal ?_) _
    have H9 := show Hid (After w2 w9) from ha9
    clear ha9 ha8 ha4 hS0 hv7 ha7 ha47
    go_simp
    go_wp2_with fail
    have H3 : Hid (OwnL w9 W0.heap.size 63 35 (.slice xa n xc) (U.map (cOf st)) ∧ RowR w9 W0.heap.size (.slice ya n yc) L ∧ After W0 w9) := ⟨H2.out.1.same (fun b hb => H9.out.block b (own_lt H2.out.1.2 hb).2.1), H2.out.2.1.after H9.out, H2.out.2.2.trans H9.out⟩
    clear H9
    go_loopw [7] (fun vi wr => ∃ i : Nat, vi = .int .i64 (i : Int) ∧ i ≤ n ∧ ∃ C : List (List Value), Hid (OwnL wr W0.heap.size 63 35 (.slice xa n xc) C ∧ (∀ j, i ≤ j → C[j]? = (U.map (cOf st))[j]?) ∧ RowR wr W0.heap.size (.slice ya n yc) L ∧ After W0 wr)) (fun vi _ => n - (intOf vi).toNat)
    case atStart => exact ⟨0, rfl, Nat.zero_le _, _, H3.out.1, fun _ _ => rfl, H3.out.2.1, H3.out.2.2⟩
    case round =>
      obtain ⟨i, rfl, hin, C, HJ⟩ := hrel
      have hb6 : n ≤ 100000 := HN.out.2.2
      by_cases hlt : i < n
      · have hii : (i : Int) < (n : Int) := by omega
        obtain ⟨c, hc⟩ : ∃ c, L[i]? = some c := ⟨_, List.getElem?_eq_getElem (by rw [HN.out.2.1]; exact hlt)⟩
        have hci : C[i]? = some (ccell c.id c.ch c.gone) := (HJ.out.2.1 i (Nat.le_refl _)).trans (HU.out.2.1 i c hc)
        have hok := HJ.out.2.2.1.1 c (List.mem_of_getElem? hc)
        obtain ⟨gx, hxa, -, hx1, hx2, hx3, hx4⟩ := own_cell HJ.out.1 hci hok.id
        subst hxa
        obtain ⟨gy, hya, -, hy1⟩ := HJ.out.2.2.1.at hc
        subst hya
        rw [Nat.zero_add] at hy1
        have HX : Hid (wr.rangeAt gx (i * 35) (idc c.id) ∧ wr.cell? ⟨gx, i * 35 + 33, none⟩ = some (.int .u8 (c.ch.toNat : Int)) ∧ wr.cell? ⟨gx, i * 35 + 34, none⟩ = some (.bool c.gone)) := ⟨hx1, hx2, hx3⟩
        have HY : Hid (wr.rangeAt gy (i * 68) (idc c.id) ∧ wr.cell? ⟨gy, i * 68 + 66, none⟩ = some (.int .u8 (c.ch.toNat : Int)) ∧ wr.cell? ⟨gy, i * 68 + 67, none⟩ = some (.bool c.gone)) := ⟨range_rid hy1, HJ.out.2.2.1.ccell hc, (HJ.out.2.2.1.gcell hc).1⟩
        have HI : Hid (i < n ∧ c.id.Ok ∧ C[i]? = some (ccell c.id c.ch c.gone)) := ⟨hlt, hok.id, hci⟩
        clear hx1 hx2 hx3 hx4 hy1 hc hci hok
        go_wp2_with fail
        refine wp_region_noPanic ?_
        refine wp_region_held_drew (S := After wr) (by kernel_rfl) (After.drew (After.refl _)) ?_
        intro hS0
        refine tk 0 39 (.slice (some ⟨gx, 0, none⟩) n xc) (fuel := 37) rfl (by kernel_rfl) (by kernel_rfl) (by kernel_rfl) (by kernel_rfl) noPanic_false (by kernel_rfl) (fun _ _ => by kernel_rfl) hS0 ?_
        refine tk 1 40 (.int .i64 (i : Int)) (fuel := 36) rfl (by kernel_rfl) (by kernel_rfl) (by kernel_rfl) (by kernel_rfl) noPanic_false (by kernel_rfl) (fun _ _ => by kernel_rfl) hS0 ?_
        refine tk 2 41 (.pointer (some ⟨gx, i * 35, none⟩)) (fuel := 35) rfl (by kernel_rfl) (by kernel_rfl) (by kernel_rfl) (by kernel_rfl) noPanic_false (by kernel_rfl) (fun W _ => x_idx54 (x := .tmp 39) (y := .tmp 40) (b := gx) (n := n) (c := xc) (k := i) (by kernel_rfl) (by kernel_rfl) (by kernel_rfl) HI.out.1) hS0 ?_
        refine tk 3 42 (.pointer (some ⟨gx, i * 35, none⟩)) (fuel := 34) rfl (by kernel_rfl) (by kernel_rfl) (by kernel_rfl) (by kernel_rfl) noPanic_false (by kernel_rfl) (fun _ _ => by kernel_rfl) hS0 ?_
        refine tk 4 43 (idv c.id) (fuel := 33) rfl (by kernel_rfl) (by kernel_rfl) (by kernel_rfl) (by kernel_rfl) noPanic_false (by kernel_rfl) (fun W hW => x_ld37m (x := .tmp 42) (g := gx) (p := i * 35) HI.out.2.1 (by kernel_rfl) (by kernel_rfl) (range_after HX.out.1 hW)) hS0 ?_
        refine tk 5 44 (.slice (some ⟨gy, 0, none⟩) n yc) (fuel := 32) rfl (by kernel_rfl) (by kernel_rfl) (by kernel_rfl) (by kernel_rfl) noPanic_false (by kernel_rfl) (fun _ _ => by kernel_rfl) hS0 ?_
        refine tk 6 45 (.int .i64 (i : Int)) (fuel := 31) rfl (by kernel_rfl) (by kernel_rfl) (by kernel_rfl) (by kernel_rfl) noPanic_false (by kernel_rfl) (fun _ _ => by kernel_rfl) hS0 ?_
        refine tk 7 46 (.pointer (some ⟨gy, i * 68, none⟩)) (fuel := 30) rfl (by kernel_rfl) (by kernel_rfl) (by kernel_rfl) (by kernel_rfl) noPanic_false (by kernel_rfl) (fun W _ => (x_idx27 (x := .tmp 44) (y := .tmp 45) (b := gy) (f := 0) (n := n) (c := yc) (k := i) (by kernel_rfl) (by kernel_rfl) (by kernel_rfl) HI.out.1).trans (by rw [Nat.zero_add])) hS0 ?_
        refine tk 8 47 (.pointer (some ⟨gy, i * 68, none⟩)) (fuel := 29) rfl (by kernel_rfl) (by kernel_rfl) (by kernel_rfl) (by kernel_rfl) noPanic_false (by kernel_rfl) (fun _ _ => by kernel_rfl) hS0 ?_
        refine tk 9 48 (idv c.id) (fuel := 28) rfl (by kernel_rfl) (by kernel_rfl) (by kernel_rfl) (by kernel_rfl) noPanic_false (by kernel_rfl) (fun W hW => x_ld40m (x := .tmp 47) (g := gy) (p := i * 68) HI.out.2.1 (by kernel_rfl) (by kernel_rfl) (range_after HY.out.1 hW)) hS0 ?_
        refine tkCallZ 10 49 18 #[idv c.id] (fun v w' => v = idv c.id ∧ After wr w') (fuel := 27) rfl (by kernel_rfl) (by kernel_rfl) (by kernel_rfl) (fun _ => by kernel_rfl) (Calls.mono (own_any HI.out.2.1 _) (fun e w' ⟨he, ha⟩ => ⟨_, he, rfl, hS0.trans ha⟩)) ?_
        intro v5 w5 ⟨hv5, ha5⟩
        subst hv5
        refine ⟨ha5, ?_⟩
        refine tk 11 50 (.bool false) (fuel := 26) rfl (by kernel_rfl) (by kernel_rfl) (by kernel_rfl) (by kernel_rfl) noPanic_false (by kernel_rfl) (fun W hW => (x_neId (x := .tmp 43) (y := .tmp 49) (h := c.id) (k := c.id) HI.out.2.1 HI.out.2.1 (by kernel_rfl) (by kernel_rfl) (by kernel_rfl)).trans (by simp)) ha5 ?_
        refine tk 12 51 (.bool false) (fuel := 25) rfl (by kernel_rfl) (by kernel_rfl) (by kernel_rfl) (by kernel_rfl) noPanic_false (by kernel_rfl) (fun _ _ => by kernel_rfl) ha5 ?_
        refine tk 13 52 (.slice (some ⟨gx, 0, none⟩) n xc) (fuel := 24) rfl (by kernel_rfl) (by kernel_rfl) (by kernel_rfl) (by kernel_rfl) noPanic_false (by kernel_rfl) (fun _ _ => by kernel_rfl) ha5 ?_
        refine tk 14 53 (.int .i64 (i : Int)) (fuel := 23) rfl (by kernel_rfl) (by kernel_rfl) (by kernel_rfl) (by kernel_rfl) noPanic_false (by kernel_rfl) (fun _ _ => by kernel_rfl) ha5 ?_
        refine tk 15 54 (.pointer (some ⟨gx, i * 35, none⟩)) (fuel := 22) rfl (by kernel_rfl) (by kernel_rfl) (by kernel_rfl) (by kernel_rfl) noPanic_false (by kernel_rfl) (fun W _ => x_idx54 (x := .tmp 52) (y := .tmp 53) (b := gx) (n := n) (c := xc) (k := i) (by kernel_rfl) (by kernel_rfl) (by kernel_rfl) HI.out.1) ha5 ?_
        refine tk 16 55 (.pointer (some ⟨gx, i * 35 + 33, none⟩)) (fuel := 21) rfl (by kernel_rfl) (by kernel_rfl) (by kernel_rfl) (by kernel_rfl) noPanic_false (by kernel_rfl) (fun _ _ => by kernel_rfl) ha5 ?_
        refine tk 17 56 (.int .u8 (c.ch.toNat : Int)) (fuel := 20) rfl (by kernel_rfl) (by kernel_rfl) (by kernel_rfl) (by kernel_rfl) noPanic_false (by kernel_rfl) (fun W hW => x_loadT (x := .tmp 55) (t := 5) (g := gx) (j := i * 35 + 33) Try.underlying5 rfl (by kernel_rfl) (by kernel_rfl) ((World.cell?_of_block (hW.block gx (World.block_lt_of_cell? wr _ HX.out.2.1))).trans HX.out.2.1)) ha5 ?_
        refine tk 18 57 (.slice (some ⟨gy, 0, none⟩) n yc) (fuel := 19) rfl (by kernel_rfl) (by kernel_rfl) (by kernel_rfl) (by kernel_rfl) noPanic_false (by kernel_rfl) (fun _ _ => by kernel_rfl) ha5 ?_
        refine tk 19 58 (.int .i64 (i : Int)) (fuel := 18) rfl (by kernel_rfl) (by kernel_rfl) (by kernel_rfl) (by kernel_rfl) noPanic_false (by kernel_rfl) (fun _ _ => by kernel_rfl) ha5 ?_
        refine tk 20 59 (.pointer (some ⟨gy, i * 68, none⟩)) (fuel := 17) rfl (by kernel_rfl) (by kernel_rfl) (by kernel_rfl) (by kernel_rfl) noPanic_false (by kernel_rfl) (fun W _ => (x_idx27 (x := .tmp 57) (y := .tmp 58) (b := gy) (f := 0) (n := n) (c := yc) (k := i) (by kernel_rfl) (by kernel_rfl) (by kernel_rfl) HI.out.1).trans (by rw [Nat.zero_add])) ha5 ?_
        refine tk 21 60 (.pointer (some ⟨gy, i * 68 + 66, none⟩)) (fuel := 16) rfl (by kernel_rfl) (by kernel_rfl) (by kernel_rfl) (by kernel_rfl) noPanic_false (by kernel_rfl) (fun _ _ => by kernel_rfl) ha5 ?_
        refine tk 22 61 (.int .u8 (c.ch.toNat : Int)) (fuel := 15) rfl (by kernel_rfl) (by kernel_rfl) (by kernel_rfl) (by kernel_rfl) noPanic_false (by kernel_rfl) (fun W hW => x_loadT (x := .tmp 60) (t := 5) (g := gy) (j := i * 68 + 66) Try.underlying5 rfl (by kernel_rfl) (by kernel_rfl) ((World.cell?_of_block (hW.block gy (World.block_lt_of_cell? wr _ HY.out.2.1))).trans HY.out.2.1)) ha5 ?_
        refine tk 23 62 (.bool false) (fuel := 14) rfl (by kernel_rfl) (by kernel_rfl) (by kernel_rfl) (by kernel_rfl) noPanic_false (by kernel_rfl) (fun W _ => x_ne5 (x := .tmp 56) (y := .tmp 61) (n := (c.ch.toNat : Int)) (by kernel_rfl) (by kernel_rfl) (by kernel_rfl)) ha5 ?_
        refine tk 24 63 (.bool false) (fuel := 13) rfl (by kernel_rfl) (by kernel_rfl) (by kernel_rfl) (by kernel_rfl) noPanic_false (by kernel_rfl) (fun _ _ => by kernel_rfl) ha5 ?_
        refine tk 25 64 (.bool false) (fuel := 12) rfl (by kernel_rfl) (by kernel_rfl) (by kernel_rfl) (by kernel_rfl) noPanic_false (by kernel_rfl) (fun _ _ => by kernel_rfl) ha5 ?_
        refine tk 26 65 (.slice (some ⟨gx, 0, none⟩) n xc) (fuel := 11) rfl (by kernel_rfl) (by kernel_rfl) (by kernel_rfl) (by kernel_rfl) noPanic_false (by kernel_rfl) (fun _ _ => by kernel_rfl) ha5 ?_
        refine tk 27 66 (.int .i64 (i : Int)) (fuel := 10) rfl (by kernel_rfl) (by kernel_rfl) (by kernel_rfl) (by kernel_rfl) noPanic_false (by kernel_rfl) (fun _ _ => by kernel_rfl) ha5 ?_
        refine tk 28 67 (.pointer (some ⟨gx, i * 35, none⟩)) (fuel := 9) rfl (by kernel_rfl) (by kernel_rfl) (by kernel_rfl) (by kernel_rfl) noPanic_false (by kernel_rfl) (fun W _ => x_idx54 (x := .tmp 65) (y := .tmp 66) (b := gx) (n := n) (c := xc) (k := i) (by kernel_rfl) (by kernel_rfl) (by kernel_rfl) HI.out.1) ha5 ?_
        refine tk 29 68 (.pointer (some ⟨gx, i * 35 + 34, none⟩)) (fuel := 8) rfl (by kernel_rfl) (by kernel_rfl) (by kernel_rfl) (by kernel_rfl) noPanic_false (by kernel_rfl) (fun _ _ => by kernel_rfl) ha5 ?_
        refine tk 30 69 (.bool c.gone) (fuel := 7) rfl (by kernel_rfl) (by kernel_rfl) (by kernel_rfl) (by kernel_rfl) noPanic_false (by kernel_rfl) (fun W hW => x_loadT (x := .tmp 68) (t := 4) (g := gx) (j := i * 35 + 34) Try.underlying4 rfl (by kernel_rfl) (by kernel_rfl) ((World.cell?_of_block (hW.block gx (World.block_lt_of_cell? wr _ HX.out.2.2))).trans HX.out.2.2)) ha5 ?_
        refine tk 31 70 (.slice (some ⟨gy, 0, none⟩) n yc) (fuel := 6) rfl (by kernel_rfl) (by kernel_rfl) (by kernel_rfl) (by kernel_rfl) noPanic_false (by kernel_rfl) (fun _ _ => by kernel_rfl) ha5 ?_
        refine tk 32 71 (.int .i64 (i : Int)) (fuel := 5) rfl (by kernel_rfl) (by kernel_rfl) (by kernel_rfl) (by kernel_rfl) noPanic_false (by kernel_rfl) (fun _ _ => by kernel_rfl) ha5 ?_
        refine tk 33 72 (.pointer (some ⟨gy, i * 68, none⟩)) (fuel := 4) rfl (by kernel_rfl) (by kernel_rfl) (by kernel_rfl) (by kernel_rfl) noPanic_false (by kernel_rfl) (fun W _ => (x_idx27 (x := .tmp 70) (y := .tmp 71) (b := gy) (f := 0) (n := n) (c := yc) (k := i) (by kernel_rfl) (by kernel_rfl) (by kernel_rfl) HI.out.1).trans (by rw [Nat.zero_add])) ha5 ?_
        refine tk 34 73 (.pointer (some ⟨gy, i * 68 + 67, none⟩)) (fuel := 3) rfl (by kernel_rfl) (by kernel_rfl) (by kernel_rfl) (by kernel_rfl) noPanic_false (by kernel_rfl) (fun _ _ => by kernel_rfl) ha5 ?_
        refine tk 35 74 (.bool c.gone) (fuel := 2) rfl (by kernel_rfl) (by kernel_rfl) (by kernel_rfl) (by kernel_rfl) noPanic_false (by kernel_rfl) (fun W hW => x_loadT (x := .tmp 73) (t := 4) (g := gy) (j := i * 68 + 67) Try.underlying4 rfl (by kernel_rfl) (by kernel_rfl) ((World.cell?_of_block (hW.block gy (World.block_lt_of_cell? wr _ HY.out.2.2))).trans HY.out.2.2)) ha5 ?_
        refine tk 36 75 (.bool false) (fuel := 1) rfl (by kernel_rfl) (by kernel_rfl) (by kernel_rfl) (by kernel_rfl) noPanic_false (by kernel_rfl) (fun W _ => x_neb (x := .tmp 69) (y := .tmp 74) (b := c.gone) (by kernel_rfl) (by kernel_rfl) (by kernel_rfl)) ha5 ?_
        refine tk 37 76 (.bool false) (fuel := 0) rfl (by kernel_rfl) (by kernel_rfl) (by kernel_rfl) (by kernel_rfl) noPanic_false (by kernel_rfl) (fun _ _ => by kernel_rfl) ha5 ?_
        refine wpAnyH_done (by kernel_rfl) (NoPanic.normal ?_) _
        have hxr := HJ.out.1.same (w' := w5) (fun b hb => ha5.block b (own_lt HJ.out.1.2 hb).2.1)
        obtain ⟨gx', hgx', -, -, cx, -, fx⟩ := own_cell hxr HI.out.2.2 HI.out.2.1
        cases hgx'
        have HS5 : Hid (∀ u, OwnL (w5.setCell ⟨gx, i * 35 + 33, none⟩ u) W0.heap.size 63 35 (.slice (some ⟨gx, 0, none⟩) n xc) (C.set i ((ccell c.id c.ch c.gone).set 33 u)) ∧ RowR (w5.setCell ⟨gx, i * 35 + 33, none⟩ u) W0.heap.size (.slice (some ⟨gy, 0, none⟩) n yc) L ∧ After W0 (w5.setCell ⟨gx, i * 35 + 33, none⟩ u)) := fun u => by
          have hyr := HJ.out.2.2.1.after ha5
          obtain ⟨hbx, hltx, csx, hrx⟩ := own_lt hxr.2 (b := gx) rfl
          refine ⟨hxr.set HI.out.2.2 (by omega) u, hyr.same (fun b hb => ?_), Below.setCell (HJ.out.2.2.2.trans ha5) (p := ⟨gx, i * 35 + 33, none⟩) hbx _⟩
          obtain ⟨_, _, csy, hry⟩ := own_lt hyr.2.2 hb
          exact Below.heap_setCell w5 ⟨gx, i * 35 + 33, none⟩ _ _ (fun e => by rw [e] at hry; exact absurd (hry.ty hrx).1 (by decide))
        have HCX := show Hid (w5.cell? ⟨gx, i * 35 + 33, none⟩ = some (.int .u8 (c.ch.toNat : Int)) ∧ w5.frozen? ⟨gx, i * 35 + 33, none⟩ = false) from ⟨cx, fx⟩
        clear hxr ha5 hS0 fx
        go_simp
        go_wp2_with (first
          | (refine wpList_of_run rfl (x_idx54 (x := .tmp 77) (y := .tmp 78) (b := gx) (n := n) (c := xc) (k := i) rfl (by kernel_rfl) (by kernel_rfl) HI.out.1) ?_)
          | (refine wpList_st rfl (x_st5 (x := .tmp 84) (y := .tmp 82) (g := gx) (p := i * 35 + 33) rfl (by kernel_rfl) rfl HCX.out.1 HCX.out.2) ?_))
        go_roundw
        case rel => exact ⟨i + 1, by go_num, by omega, _, (HS5.out _).1, fun j hj => (by rw [List.getElem?_set, if_neg (by omega)]; exact HJ.out.2.1 j (by omega)), (HS5.out _).2.1, (HS5.out _).2.2⟩
        case measure => simp [intOf]; omega
      · obtain rfl : i = n := by omega
        have hii : ¬ (i : Int) < (i : Int) := by omega
        go_wp2_with fail
        go_ret
        exact ⟨rfl, HA.out.1.trans HJ.out.2.2.2⟩
end Go.Proofs.Ytiglenomigipmaa

namespace Go.Proofs.Ytiglenomigipmaa
open Go.RowKit Go.Shelf Go.Maps Go.WideMaps Go.WideAt Mp
attribute [local go_sem] Oper.semAt_some
theorem stems_one {st : List Stm} {vs : List Value} (h : ∀ v ∈ vs, v.oneCell' = true) : ∀ u ∈ (stems st vs).flatten, u.oneCell' = true := fun u hu => by
  obtain ⟨x, hx, hux⟩ := List.mem_flatten.1 hu
  unfold stems at hx
  obtain ⟨s, v, hs, hv, rfl⟩ : ∃ s v, s ∈ st ∧ v ∈ vs ∧ scell s v = x := by
    clear hu hux
    induction st generalizing vs with
    | nil => simp at hx
    | cons a t ih =>
      cases vs with
      | nil => simp at hx
      | cons b r =>
        simp only [List.zipWith_cons_cons, List.mem_cons] at hx
        rcases hx with rfl | hx
        · exact ⟨a, b, by simp, by simp, rfl⟩
        · obtain ⟨s, v, h1, h2, h3⟩ := ih (fun v hv => h v (by simp [hv])) hx
          exact ⟨s, v, by simp [h1], by simp [h2], h3⟩
  exact scell_one s v (h v hv) u hux
theorem x_bs72e {oi : Oper} {a : Act} {w : World} (hop : oi.op = .buildSlice 72 0 #[]) : (execOp a.eval oi).run Try.prog w = .ok (.value (.slice (some ⟨w.heap.size, 0, none⟩) 0 0)) (w.alloc (.cells #[] 88)) := by
  have hb : (Instr.buildSlice 72 0 #[]).run Try.prog w = .ok (.slice (some ⟨w.heap.size, 0, none⟩) 0 0) (w.alloc (.cells #[] 88)) := by kernel_rfl
  unfold execOp
  simp [hop, hb]
set_option maxRecDepth 100000 in
set_option maxHeartbeats 3200000 in
theorem cloneS_any {w : World} {base : Nat} {gs n cap : Nat} {st : List Stm} {vs : List Value} (h : OwnL w base 88 36 (.slice (some ⟨gs, 0, none⟩) n cap) (stems st vs)) (hn : stems st vs ≠ []) (h1 : ∀ v ∈ vs, v.oneCell' = true) (hl : (stems st vs).length ≤ 100000) :
    Calls Try.prog 38 #[.slice (some ⟨gs, 0, none⟩) n cap] w fun e w' => ∃ g' c', e = .returned (.slice (some ⟨g', 0, none⟩) n c') ∧ OwnL w' w.heap.size 88 36 (.slice (some ⟨g', 0, none⟩) n c') (stems st vs) ∧ After w w' := by
  have ha1 : After w (w.alloc (.cells #[] 88)) := after_alloc (After.refl w) _
  obtain ⟨i, z, hi, hz, hsz, hby, hzc⟩ := info88
  have hzs : z.cells.size = 36 := by rw [hzc]; simp [scell_len (s := root) zId_ok]
  have hf : OwnL (w.alloc (.cells #[] 88)) w.heap.size 88 36 (.slice (some ⟨w.heap.size, 0, none⟩) 0 0) [] := ⟨fun _ h => by simp at h, row_own (cs := []) (Nat.le_refl _) (RowIs.new w 88 []) (Nat.le_refl _) (by decide) rfl rfl⟩
  obtain ⟨gs', cap', cs, he, hb, hr, hnc, hcm, hcl, ht⟩ := h.row hn
  cases he
  have hfl := fl_len h.1
  obtain ⟨v', w', k1, k2, k3, _, k5⟩ := run_append_own_at (P := Try.prog) (w.alloc (.cells #[] 88)) w.heap.size 72 72 88 i z 36 72 Try.underlying72 hi hz hsz hby hzs (by omega) (.slice (some ⟨w.heap.size, 0, none⟩) 0 0) 0 [] hf.2 ⟨gs, 0, none⟩ (stems st vs).length cap (stems st vs).flatten hfl (fun j u hu => by
      rw [Addr.add_lit]
      rw [← ht, List.getElem?_take] at hu
      split at hu
      · exact (hr.alloc _).cellsAt j u hu
      · cases hu) (stems_one h1) (by unfold maxLen; omega) (by omega) (by simp)
  have k2' : OwnL w' w.heap.size 88 36 v' (stems st vs) := ⟨h.1, by simpa using k2⟩
  obtain ⟨g2, cap2, cs2, he2, _⟩ := k2'.row hn
  subst he2
  have HE : Hid ((Builtin.append_ #[72, 72] 72 #[.slice (some ⟨w.heap.size, 0, none⟩) 0 0, .slice (some ⟨gs, 0, none⟩) (stems st vs).length cap]).run Try.prog (w.alloc (.cells #[] 88)) = .ok (.slice (some ⟨g2, 0, none⟩) (stems st vs).length cap2) w') := k1
  have HF : Hid (OwnL w' w.heap.size 88 36 (.slice (some ⟨g2, 0, none⟩) (stems st vs).length cap2) (stems st vs) ∧ After w w') := ⟨k2', after_grown ha1 k3 (Nat.le_refl _) (fun k hk => by cases hk; exact Nat.le_refl _)⟩
  obtain ⟨m, hm⟩ : ∃ m, (stems st vs).length = m := ⟨_, rfl⟩
  rw [hm] at HE HF ⊢
  clear k1 k2 k3 k5 ha1 hr ht hcl h hf hfl hn h1 hl hm k2'
  have hnil : ∀ w, Sem.run Try.prog (binOp .eql 72 (.slice (some ⟨gs, 0, none⟩) m cap) (.slice none 0 0)) w = .ok (.bool false) w := fun w => by kernel_rfl
  go_enter Try.func38, Try.ntmps38
  go_wp2_with (first
    | (refine wpList_of_run rfl (x_bs72e rfl) ?_)
    | (refine wpList_of_run rfl (x_app72 (s := .tmp 5) (x := .tmp 6) rfl rfl rfl HE.out) ?_))
  go_ret
  exact ⟨_, _, rfl, HF.out⟩
set_option maxRecDepth 100000 in
set_option maxHeartbeats 3200000 in
theorem mclone_any {w : World} {b : Nat} {st : List Stm} (h : MapAt w b st) : Calls Try.prog 39 #[.map (some b)] w fun e w' => e = .returned (.map (some w.heap.size)) ∧ MapAt w' w.heap.size st ∧ After w w' := by
  obtain ⟨l, hown, h2, h3, h4⟩ := h.ex
  obtain ⟨es, clock, hb, F, hs, hD⟩ := hown
  have HF : Hid (MapAt (w.alloc (.map es clock)) w.heap.size st ∧ After w (w.alloc (.map es clock))) := ⟨⟨l, ⟨es, clock, (MapKept.heap_alloc w _).1, F, hs, hD⟩, h2, h3, h4⟩, after_alloc (After.refl w) _⟩
  have HB : Hid (w.heap[b]? = some (.map es clock)) := hb
  clear h h2 h3 h4 hD hs hb
  have hq := fun w => run_eql_map_nil_sl (P := Try.prog) w 73 37 3 (some b) Try.underlying73
  go_enter Try.func39, Try.ntmps39
  go_wp2
  rw [run_callFunc_extern Try.func47 (by kernel_rfl) (by kernel_rfl) (by kernel_rfl) (e := Extern.MapsClone.clone) (by kernel_rfl), run_maps_clone_sl w 73 HB.out]
  simp only [Result.andThen]
  rw [Oper.upon_value]
  go_wp2
  rw [run_typeAssert_map_sl _ 73 20 37 3 _ Try.underlying73]
  simp only [Result.andThen]
  rw [Oper.upon_value]
  go_wp2
  go_ret
  exact ⟨rfl, HF.out⟩
end Go.Proofs.Ytiglenomigipmaa

namespace Go.Proofs.Ytiglenomigipmaa
open Go.RowKit Go.Shelf Go.Maps Go.WideMaps Go.WideAt Mp
attribute [local go_sem] Oper.semAt_some
theorem x_box75 {oi : Oper} {a : Act} {w : World} {x : Operand} {u v : Value} (hop : oi.op = .box 75 x) (hx : a.eval x = .agg #[u, v]) : (execOp a.eval oi).run Try.prog w = .ok (.value (.pointer (some ⟨w.heap.size, 0, none⟩))) (w.alloc (.cells #[u, v] 75)) := by
  unfold execOp
  simp only [hop, hx]
  simp [go_sem, Value.cells]
theorem own_form {w : World} {base : Nat} {v : Value} {l : List Nat} (h : OwnI w base v l) : ∃ va c, v = .slice va l.length c := by
  rcases own_row h with ⟨hv, h0, _⟩ | ⟨g, cap, cs, hv, _⟩
  · rw [h0]; exact ⟨none, 0, hv⟩
  · exact ⟨_, _, hv⟩
theorem own_one {w : World} {base : Nat} {v : Value} {l : List Nat} (h : OwnI w base v l) : v.oneCell' = true := by
  obtain ⟨va, c, rfl⟩ := own_form h
  rfl
/-- A fork, of which the first k have their own places below. -/
structure FkAt (w0 w : World) (base g' gs' gm' c' : Nat) (st : List Stm) (D : RwD) (k : Nat) (us : List Value) : Prop where
  box : RowIs w g' 75 [.slice (some ⟨gs', 0, none⟩) st.length c', .map (some gm')]
  row : OwnL w w0.heap.size 88 36 (.slice (some ⟨gs', 0, none⟩) st.length c') (stems st us)
  ul : us.length = st.length
  old : ∀ i, k ≤ i → us[i]? = D.vs[i]?
  own : ∀ (i : Nat) (s : Stm) (v : Value), i < k → st[i]? = some s → us[i]? = some v → OwnI w w0.heap.size v s.below
  apart : ∀ (i j : Nat) (u v : Value) (b : Nat), i < k → j < k → us[i]? = some u → us[j]? = some v → u.ownBlock = some b → v.ownBlock = some b → i = j
  mp : MapAt w gm' st
  gb : w0.heap.size ≤ g'
  mb : w0.heap.size ≤ gm'
  aft : After w0 w
theorem FkAt.after {w0 w w' : World} {base g' gs' gm' c' : Nat} {st : List Stm} {D : RwD} {k : Nat} {us : List Value} (h : FkAt w0 w base g' gs' gm' c' st D k us) (ha : After w w') : FkAt w0 w' base g' gs' gm' c' st D k us :=
  ⟨h.box.below ha h.box.lt, h.row.same (fun b hb => ha.block b (own_lt h.row.2 hb).2.1), h.ul, h.old, fun i s v hi hs hv => (h.own i s v hi hs hv).after ha, h.apart, h.mp.same (ha.block _ h.mp.lt), h.gb, h.mb, h.aft.trans ha⟩
theorem FkAt.next {w0 w w1 : World} {base g' gs' gm' c' : Nat} {st : List Stm} {D : RwD} {k : Nat} {us : List Value} (h : FkAt w0 w base g' gs' gm' c' st D k us) (ha : After w w1) {s : Stm} {u v : Value} (hs : st[k]? = some s) (hu : us[k]? = some u) (hok : s.id.Ok) (hv : OwnI w1 w.heap.size v s.below) : FkAt w0 (w1.setCell ⟨gs', k * 36 + 35, none⟩ v) base g' gs' gm' c' st D (k + 1) (us.set k v) := by
  have h1 := h.after ha
  have hkl := (List.getElem?_eq_some_iff.1 hu).1
  have hsl := (List.getElem?_eq_some_iff.1 hs).1
  obtain ⟨hbs, hlts, css, hrs⟩ := own_lt h1.row.2 (b := gs') rfl
  have nes : ∀ (x : Nat) (t : TypeId) (cs : List Value), RowIs w1 x t cs → t ≠ 88 → (w1.setCell ⟨gs', k * 36 + 35, none⟩ v).heap[x]? = w1.heap[x]? := fun x t cs hx ht => Below.heap_setCell w1 ⟨gs', k * 36 + 35, none⟩ _ _ (fun e => by rw [e] at hx; exact ht (hx.ty hrs).1)
  have keepI : ∀ {B : Nat} {x : Value} {l : List Nat}, OwnI w1 B x l → OwnI (w1.setCell ⟨gs', k * 36 + 35, none⟩ v) B x l := fun hx => hx.same (fun b hb => by
    obtain ⟨_, _, cs, hc⟩ := own_lt hx hb
    exact nes b 3 cs hc (by decide))
  refine ⟨?_, ?_, by rw [List.length_set]; exact h.ul, fun i hi => ?_, fun i t x hi ht hx => ?_, fun i j x y b hi hj hx hy hbx hby => ?_, ?_, h.gb, h.mb, ?_⟩
  · unfold RowIs; rw [nes g' 75 _ h1.box (by decide)]; exact h1.box
  · have h2 := h1.row.set (stems_get hs hu) (j := 35) (by omega) v
    rw [scell_set hok u v s.below, stems_set] at h2
    have e : st.set k { s with below := s.below } = st := by
      obtain ⟨hk, rfl⟩ := List.getElem?_eq_some_iff.1 hs
      exact List.set_getElem_self hk
    rw [e] at h2
    exact h2
  · rw [List.getElem?_set, if_neg (by omega)]; exact h.old i (by omega)
  · rw [List.getElem?_set] at hx
    by_cases e : k = i
    · subst e
      rw [if_pos rfl, if_pos hkl] at hx
      cases hx
      rw [hs] at ht; cases ht
      exact (keepI hv).mono h.aft.size
    · rw [if_neg e] at hx
      exact keepI (h1.own i t x (by omega) ht hx)
  · have new : ∀ (i : Nat) (x : Value), i < k → us[i]? = some x → x.ownBlock = some b → b < w.heap.size := fun i x hi hx hb => by
      obtain ⟨t, ht⟩ : ∃ t, st[i]? = some t := ⟨_, List.getElem?_eq_getElem (by omega)⟩
      exact (own_lt (h.own i t x hi ht hx) hb).2.1
    rw [List.getElem?_set] at hx hy
    by_cases ei : k = i
    · by_cases ej : k = j
      · omega
      · rw [if_neg ej] at hy
        have l1 := new j y (by omega) hy hby
        rw [if_pos ei, if_pos (by omega)] at hx
        cases hx
        have := (own_lt hv hbx).1
        omega
    · rw [if_neg ei] at hx
      by_cases ej : k = j
      · have l1 := new i x (by omega) hx hbx
        rw [if_pos ej, if_pos (by omega)] at hy
        cases hy
        have := (own_lt hv hby).1
        omega
      · rw [if_neg ej] at hy
        exact h.apart i j x y b (by omega) (by omega) hx hy hbx hby
  · refine h1.mp.same (Below.heap_setCell w1 ⟨gs', k * 36 + 35, none⟩ _ _ (fun e => ?_))
    exact h1.mp.ne hrs (by rw [show gs' = gm' from e.symm])
  · exact Below.setCell h1.aft (p := ⟨gs', k * 36 + 35, none⟩) hbs _
theorem FkAt.row' {w0 w : World} {base g g' gs' gm' c' : Nat} {st : List Stm} {D : RwD} {k : Nat} {us : List Value} (h : FkAt w0 w base g' gs' gm' c' st D k us) (hR : RowAt w0 base g st D) (hk : st.length ≤ k) : RowAt w w0.heap.size g' st ⟨.slice (some ⟨gs', 0, none⟩) st.length c', gm', us⟩ :=
  ⟨h.box, h.row, h.ul, fun i s v hs hv => h.own i s v (by have := (List.getElem?_eq_some_iff.1 hs).1; omega) hs hv, fun i j u v b hu hv => h.apart i j u v b (by have q : i < us.length := (List.getElem?_eq_some_iff.1 hu).1; have e := h.ul; omega) (by have q : j < us.length := (List.getElem?_eq_some_iff.1 hv).1; have e := h.ul; omega) hu hv, h.mp, hR.ok, hR.pos, h.gb, h.mb, h.aft.size⟩
set_option maxRecDepth 100000 in
set_option maxHeartbeats 3200000 in
theorem Fork_any {w : World} {base g : Nat} {st : List Stm} {D : RwD} (h : RowAt w base g st D) (hw : Wf st) (hsm : st.length ≤ 100000) :
    Calls Try.prog 21 #[.pointer (some ⟨g, 0, none⟩)] w fun e w' => ∃ g' D', e = .returned (.pointer (some ⟨g', 0, none⟩)) ∧ RowAt w' w.heap.size g' st D' ∧ After w w' := by
  obtain ⟨gs, cap, hsv, hcap, hst⟩ := h.sv
  obtain ⟨n, hn⟩ : ∃ n, st.length = n := ⟨_, rfl⟩
  have HR : Hid (RowAt w base g st D) := h
  have HB : Hid (RowIs w g 75 [.slice (some ⟨gs, 0, none⟩) n cap, .map (some D.gm)]) := by have := h.box; rw [hsv, hn] at this; exact this
  have HM : Hid (MapAt w D.gm st) := h.mp
  have HN : Hid (st.length = n ∧ n ≤ 100000) := ⟨hn, by omega⟩
  have HCS : Hid (∀ W, After w W → Calls Try.prog 38 #[.slice (some ⟨gs, 0, none⟩) n cap] W fun e w' => ∃ g' c', e = .returned (.slice (some ⟨g', 0, none⟩) n c') ∧ OwnL w' W.heap.size 88 36 (.slice (some ⟨g', 0, none⟩) n c') (stems st D.vs) ∧ After W w') := fun W hW => by
    have hr := h.row
    rw [hsv, hn] at hr
    refine cloneS_any (hr.same (fun b hb => hW.block b (own_lt hr.2 hb).2.1)) (fun e => h.pos (List.eq_nil_of_length_eq_zero (by rw [← stems_len h.vl, e]; rfl))) (fun v hv => ?_) (by rw [stems_len h.vl]; omega)
    obtain ⟨i, hi⟩ := List.getElem?_of_mem hv
    have hl := (List.getElem?_eq_some_iff.1 hi).1
    rw [h.vl] at hl
    exact own_one (h.bel i _ v (List.getElem?_eq_getElem hl) hi)
  have HBL : Hid (∀ (i : Nat) (s : Stm), st[i]? = some s → s.below.length ≤ 1000000) := fun i s hs => by
    have := nodup_len _ (hw.nod hs) (fun b hb => (hw.bel i s hs b hb).2)
    omega
  clear h hw hsm hsv hcap hst hn
  go_enter Try.func21, Try.ntmps21
  go_wp2_with fail
  refine wp_region_noPanic ?_
  refine wp_region_held_drew (S := After w) (by kernel_rfl) (After.drew (After.refl _)) ?_
  intro hS0
  refine tk 0 7 (.pointer (some ⟨g, 0, none⟩)) (fuel := 12) rfl (by kernel_rfl) (by kernel_rfl) (by kernel_rfl) (by kernel_rfl) noPanic_false (by kernel_rfl) (fun _ _ => by kernel_rfl) hS0 ?_
  refine tk 1 8 (.pointer (some ⟨g, 0, none⟩)) (fuel := 11) rfl (by kernel_rfl) (by kernel_rfl) (by kernel_rfl) (by kernel_rfl) noPanic_false (by kernel_rfl) (fun _ _ => by kernel_rfl) hS0 ?_
  refine tk 2 9 (.pointer (some ⟨g, 0, none⟩)) (fuel := 10) rfl (by kernel_rfl) (by kernel_rfl) (by kernel_rfl) (by kernel_rfl) noPanic_false (by kernel_rfl) (fun _ _ => by kernel_rfl) hS0 ?_
  refine tk 3 10 (.slice (some ⟨gs, 0, none⟩) n cap) (fuel := 9) rfl (by kernel_rfl) (by kernel_rfl) (by kernel_rfl) (by kernel_rfl) noPanic_false (by kernel_rfl) (fun W hW => x_loadT (x := .tmp 9) (t := 72) (g := g) (j := 0) Try.underlying72 rfl (by kernel_rfl) (by kernel_rfl) ((HB.out.below hW HB.out.lt).cell (j := 0) rfl)) hS0 ?_
  refine tk 5 12 (.pointer (some ⟨g, 0, none⟩)) (fuel := 8) rfl (by kernel_rfl) (by kernel_rfl) (by kernel_rfl) (by kernel_rfl) noPanic_false (by kernel_rfl) (fun _ _ => by kernel_rfl) hS0 ?_
  refine tk 6 13 (.pointer (some ⟨g, 0, none⟩)) (fuel := 7) rfl (by kernel_rfl) (by kernel_rfl) (by kernel_rfl) (by kernel_rfl) noPanic_false (by kernel_rfl) (fun _ _ => by kernel_rfl) hS0 ?_
  refine tk 7 14 (.pointer (some ⟨g, 1, none⟩)) (fuel := 6) rfl (by kernel_rfl) (by kernel_rfl) (by kernel_rfl) (by kernel_rfl) noPanic_false (by kernel_rfl) (fun _ _ => by kernel_rfl) hS0 ?_
  refine tk 8 15 (.map (some D.gm)) (fuel := 5) rfl (by kernel_rfl) (by kernel_rfl) (by kernel_rfl) (by kernel_rfl) noPanic_false (by kernel_rfl) (fun W hW => x_loadT (x := .tmp 14) (t := 73) (g := g) (j := 1) Try.underlying73 rfl (by kernel_rfl) (by kernel_rfl) ((HB.out.below hW HB.out.lt).cell (j := 1) rfl)) hS0 ?_
  refine tkCallZ 4 11 38 #[.slice (some ⟨gs, 0, none⟩) n cap] (fun v w' => ∃ g' c', v = .slice (some ⟨g', 0, none⟩) n c' ∧ OwnL w' w.heap.size 88 36 (.slice (some ⟨g', 0, none⟩) n c') (stems st D.vs) ∧ After w w') (fuel := 4) rfl (by kernel_rfl) (by kernel_rfl) (by kernel_rfl) (fun _ => by kernel_rfl) (Calls.mono (HCS.out _ hS0) (fun e w' ⟨g', c', he, h1, h2⟩ => ⟨_, he, g', c', rfl, h1.1 |> fun _ => ⟨h1.1, own_mono h1.2 hS0.size⟩, hS0.trans h2⟩)) ?_
  intro v1 w1 ⟨gs', c', hv1, hr1, ha1⟩
  subst hv1
  refine ⟨ha1, ?_⟩
  refine tkCallZ 9 16 39 #[.map (some D.gm)] (fun v w' => v = .map (some w1.heap.size) ∧ MapAt w' w1.heap.size st ∧ After w1 w') (fuel := 3) rfl (by kernel_rfl) (by kernel_rfl) (by kernel_rfl) (fun _ => by kernel_rfl) (Calls.mono (mclone_any (HM.out.same (ha1.block _ HM.out.lt))) (fun e w' ⟨he, h1, h2⟩ => ⟨_, he, rfl, h1, h2⟩)) ?_
  intro v2 w2 ⟨hv2, hm2, ha2⟩
  subst hv2
  have ha12 := ha1.trans ha2
  refine ⟨ha12, ?_⟩
  refine tk 10 17 (.agg #[.slice (some ⟨gs', 0, none⟩) n c', .map (some w1.heap.size)]) (fuel := 2) rfl (by kernel_rfl) (by kernel_rfl) (by kernel_rfl) (by kernel_rfl) noPanic_false (by kernel_rfl) (fun _ _ => by kernel_rfl) ha12 ?_
  have ha3 : After w (w2.alloc (.cells #[.slice (some ⟨gs', 0, none⟩) n c', .map (some w1.heap.size)] 75)) := after_alloc ha12 _
  refine tkRunS 11 18 (.pointer (some ⟨w2.heap.size, 0, none⟩)) (w2.alloc (.cells #[.slice (some ⟨gs', 0, none⟩) n c', .map (some w1.heap.size)] 75)) (fuel := 1) rfl (by kernel_rfl) (by kernel_rfl) (by kernel_rfl) (x_box75 (x := .tmp 17) (by kernel_rfl) (by kernel_rfl)) (ha3) ?_
  refine tk 12 3 (.pointer (some ⟨w2.heap.size, 0, none⟩)) (fuel := 0) rfl (by kernel_rfl) (by kernel_rfl) (by kernel_rfl) (by kernel_rfl) noPanic_false (by kernel_rfl) (fun _ _ => by kernel_rfl) ha3 ?_
  refine wpAnyH_done (by kernel_rfl) (NoPanic.normal ?_) _
  have HF : Hid (FkAt w (w2.alloc (.cells #[.slice (some ⟨gs', 0, none⟩) n c', .map (some w1.heap.size)] 75)) base w2.heap.size gs' w1.heap.size c' st D 0 D.vs) := by
    have hx : After w2 (w2.alloc (.cells #[.slice (some ⟨gs', 0, none⟩) n c', .map (some w1.heap.size)] 75)) := after_alloc (After.refl w2) _
    have hl := HN.out.1
    subst hl
    refine ⟨RowIs.new w2 75 _, hr1.same (fun b hb => (ha2.trans hx).block b (own_lt hr1.2 hb).2.1), HR.out.vl, fun _ _ => rfl, fun i _ _ hi => absurd hi (Nat.not_lt_zero _), fun i _ _ _ _ hi => absurd hi (Nat.not_lt_zero _), hm2.same (hx.block _ hm2.lt), ha12.size, ha1.size, ha3⟩
  obtain ⟨W3, hW3⟩ : ∃ W3, w2.alloc (.cells #[.slice (some ⟨gs', 0, none⟩) n c', .map (some w1.heap.size)] 75) = W3 := ⟨_, rfl⟩
  rw [hW3] at HF ⊢
  generalize w2.heap.size = g' at HF ⊢
  generalize w1.heap.size = gm' at HF
  clear hW3 ha3 ha12 ha2 ha1 hr1 hm2 hS0
  have cB3 : W3.cell? ⟨g', 0, none⟩ = some (.slice (some ⟨gs', 0, none⟩) n c') := by have := HF.out.box.cell (j := 0) rfl; rw [HN.out.1] at this; exact this
  go_simp
  go_wp2_with fail
  clear cB3
  go_loopw [24] (fun vi wr => ∃ i : Nat, vi = .int .i64 (i : Int) ∧ i ≤ n ∧ ∃ us, Hid (FkAt w wr base g' gs' gm' c' st D i us ∧ True)) (fun vi _ => n - (intOf vi).toNat)
  case atStart => exact ⟨0, rfl, Nat.zero_le _, _, HF.out, trivial⟩
  case round =>
    obtain ⟨i, rfl, hin, us, HK⟩ := hrel
    have hb6 : n ≤ 100000 := HN.out.2
    by_cases hlt : i < n
    · have hii : (i : Int) < (n : Int) := by omega
      obtain ⟨s, hs⟩ : ∃ s, st[i]? = some s := ⟨_, List.getElem?_eq_getElem (by rw [HN.out.1]; exact hlt)⟩
      obtain ⟨u, hu, hou⟩ := HR.out.v hs
      have huu : us[i]? = some u := (HK.out.1.old i (Nat.le_refl _)).trans hu
      obtain ⟨ua, uc, hue⟩ := own_form hou
      subst hue
      have HOI : Hid (OwnI wr base (.slice ua s.below.length uc) s.below) := hou.after HK.out.1.aft
      have HI : Hid (i < n ∧ st[i]? = some s ∧ s.id.Ok ∧ s.below.length ≤ 1000000) := ⟨hlt, hs, HR.out.ok s (List.mem_of_getElem? hs), HBL.out i s hs⟩
      have HUI : Hid (us[i]? = some (.slice ua s.below.length uc)) := huu
      have HC4 : Hid (wr.cell? ⟨gs', i * 36 + 35, none⟩ = some (.slice ua s.below.length uc)) := by
        have hrg := HK.out.1.row.range (stems_get hs huu)
        exact hrg 35 _ (by unfold scell; rw [List.getElem?_append_right (by rw [idc_len HI.out.2.2.1]; omega), idc_len HI.out.2.2.1]; rfl)
      have HC5 : Hid (wr.drew.cell? ⟨gs', i * 36 + 35, none⟩ = some (.slice ua s.below.length uc)) := HC4.out
      have HNE : Hid (¬ g' = gs') := fun e => by
        obtain ⟨_, _, css, hrs⟩ := own_lt HK.out.1.row.2 (b := gs') rfl
        rw [← e] at hrs
        exact absurd (HK.out.1.box.ty hrs).1 (by decide)
      obtain ⟨um, hum⟩ : ∃ um, s.below.length = um := ⟨_, rfl⟩
      have HBX : Hid (RowIs wr g' 75 [.slice (some ⟨gs', 0, none⟩) n c', .map (some gm')]) := by have := HK.out.1.box; rw [HN.out.1] at this; exact this
      rw [hum] at HC4 HC5 HUI HOI
      clear hs hu hou huu hum
      go_wp2_with fail
      refine wp_region_noPanic ?_
      refine wp_region_held_drew (S := KeptF (fun b => b = gs') wr) (by kernel_rfl) (KeptF.of_after (After.drew (After.refl _))) ?_
      intro hS0
      refine tk 0 27 (.pointer (some ⟨g', 0, none⟩)) (fuel := 16) rfl (by kernel_rfl) (by kernel_rfl) (by kernel_rfl) (by kernel_rfl) noPanic_false (by kernel_rfl) (fun _ _ => by kernel_rfl) hS0 ?_
      refine tk 1 28 (.pointer (some ⟨g', 0, none⟩)) (fuel := 15) rfl (by kernel_rfl) (by kernel_rfl) (by kernel_rfl) (by kernel_rfl) noPanic_false (by kernel_rfl) (fun _ _ => by kernel_rfl) hS0 ?_
      refine tk 2 29 (.pointer (some ⟨g', 0, none⟩)) (fuel := 14) rfl (by kernel_rfl) (by kernel_rfl) (by kernel_rfl) (by kernel_rfl) noPanic_false (by kernel_rfl) (fun _ _ => by kernel_rfl) hS0 ?_
      refine tk 3 30 (.slice (some ⟨gs', 0, none⟩) n c') (fuel := 13) rfl (by kernel_rfl) (by kernel_rfl) (by kernel_rfl) (by kernel_rfl) noPanic_false (by kernel_rfl) (fun W hW => x_loadT (x := .tmp 29) (t := 72) (g := g') (j := 0) Try.underlying72 rfl (by kernel_rfl) (by kernel_rfl) ((hW.row HBX.out HNE.out).cell (j := 0) rfl)) hS0 ?_
      refine tk 4 31 (.int .i64 (i : Int)) (fuel := 12) rfl (by kernel_rfl) (by kernel_rfl) (by kernel_rfl) (by kernel_rfl) noPanic_false (by kernel_rfl) (fun _ _ => by kernel_rfl) hS0 ?_
      refine tk 5 32 (.pointer (some ⟨g', 0, none⟩)) (fuel := 11) rfl (by kernel_rfl) (by kernel_rfl) (by kernel_rfl) (by kernel_rfl) noPanic_false (by kernel_rfl) (fun _ _ => by kernel_rfl) hS0 ?_
      refine tk 6 33 (.pointer (some ⟨g', 0, none⟩)) (fuel := 10) rfl (by kernel_rfl) (by kernel_rfl) (by kernel_rfl) (by kernel_rfl) noPanic_false (by kernel_rfl) (fun _ _ => by kernel_rfl) hS0 ?_
      refine tk 7 34 (.pointer (some ⟨g', 0, none⟩)) (fuel := 9) rfl (by kernel_rfl) (by kernel_rfl) (by kernel_rfl) (by kernel_rfl) noPanic_false (by kernel_rfl) (fun _ _ => by kernel_rfl) hS0 ?_
      refine tk 8 35 (.slice (some ⟨gs', 0, none⟩) n c') (fuel := 8) rfl (by kernel_rfl) (by kernel_rfl) (by kernel_rfl) (by kernel_rfl) noPanic_false (by kernel_rfl) (fun W hW => x_loadT (x := .tmp 34) (t := 72) (g := g') (j := 0) Try.underlying72 rfl (by kernel_rfl) (by kernel_rfl) ((hW.row HBX.out HNE.out).cell (j := 0) rfl)) hS0 ?_
      refine tk 9 36 (.int .i64 (i : Int)) (fuel := 7) rfl (by kernel_rfl) (by kernel_rfl) (by kernel_rfl) (by kernel_rfl) noPanic_false (by kernel_rfl) (fun _ _ => by kernel_rfl) hS0 ?_
      refine tk 10 37 (.pointer (some ⟨gs', i * 36, none⟩)) (fuel := 6) rfl (by kernel_rfl) (by kernel_rfl) (by kernel_rfl) (by kernel_rfl) noPanic_false (by kernel_rfl) (fun W _ => x_idx72z (x := .tmp 35) (y := .tmp 36) (b := gs') (n := n) (c := c') (k := i) (by kernel_rfl) (by kernel_rfl) (by kernel_rfl) HI.out.1) hS0 ?_
      refine tk 11 38 (.pointer (some ⟨gs', i * 36 + 35, none⟩)) (fuel := 5) rfl (by kernel_rfl) (by kernel_rfl) (by kernel_rfl) (by kernel_rfl) noPanic_false (by kernel_rfl) (fun _ _ => by kernel_rfl) hS0 ?_
      have hd0 : After wr wr.drew := After.drew (After.refl wr)
      refine tkRunS 12 39 (.slice ua um uc) (wr.drew) (fuel := 4) rfl (by kernel_rfl) (by kernel_rfl) (by kernel_rfl) (x_loadT (x := .tmp 38) (t := 86) (g := gs') (j := i * 36 + 35) Try.underlying86 rfl (by kernel_rfl) (by kernel_rfl) HC5.out) (hS0) ?_
      refine tkCallZ 13 40 40 #[.slice ua um uc] (fun v w' => ∃ va m c, v = .slice va m c ∧ OwnI w' wr.heap.size (.slice va m c) s.below ∧ After wr w') (fuel := 3) rfl (by kernel_rfl) (by kernel_rfl) (by kernel_rfl) (fun _ => by kernel_rfl) (Calls.mono (clone_any (HOI.out.after hd0) HI.out.2.2.2) (fun e w' ⟨v', he, h1, h2⟩ => by obtain ⟨va, c, hv⟩ := own_form h1; subst hv; exact ⟨_, he, va, _, c, rfl, h1, hd0.trans h2⟩)) ?_
      intro v5 w5 ⟨va5, m5, c5, hv5, ho5, ha5⟩
      subst hv5
      have hk5 : KeptF (fun b => b = gs') wr w5 := KeptF.of_after ha5
      refine ⟨hk5, ?_⟩
      have hN := HK.out.1.next ha5 HI.out.2.1 HUI.out HI.out.2.2.1 ho5
      have hx5 := HK.out.1.after ha5
      obtain ⟨_, _, css, hrs⟩ := own_lt hx5.row.2 (b := gs') rfl
      have hc5 : w5.cell? ⟨gs', i * 36 + 35, none⟩ = some (.slice ua um uc) := (Below.cell ha5 (p := ⟨gs', i * 36 + 35, none⟩) (World.block_lt_of_cell? wr _ HC4.out)).trans HC4.out
      refine tk 14 41 (.pointer (some ⟨gs', i * 36, none⟩)) (fuel := 2) rfl (by kernel_rfl) (by kernel_rfl) (by kernel_rfl) (by kernel_rfl) noPanic_false (by kernel_rfl) (fun W _ => x_idx72z (x := .tmp 30) (y := .tmp 31) (b := gs') (n := n) (c := c') (k := i) (by kernel_rfl) (by kernel_rfl) (by kernel_rfl) HI.out.1) hk5 ?_
      refine tk 15 42 (.pointer (some ⟨gs', i * 36 + 35, none⟩)) (fuel := 1) rfl (by kernel_rfl) (by kernel_rfl) (by kernel_rfl) (by kernel_rfl) noPanic_false (by kernel_rfl) (fun _ _ => by kernel_rfl) hk5 ?_
      refine tkStoreS 16 (w5.setCell ⟨gs', i * 36 + 35, none⟩ (.slice va5 m5 c5)) (fuel := 0) rfl (by kernel_rfl) (by kernel_rfl) (by kernel_rfl) (x_st86 (x := .tmp 42) (y := .tmp 40) (g := gs') (p := i * 36 + 35) (va := va5) (m := m5) (c := c5) (by kernel_rfl) (by kernel_rfl) (by kernel_rfl) hc5 (hrs.frozen _)) (hk5.trans (KeptF.set (F := fun b => b = gs') w5 ⟨gs', i * 36 + 35, none⟩ _ rfl) (fun _ _ h => h)) ?_
      refine wpAnyH_done (by kernel_rfl) (NoPanic.normal ?_) _
      have H9 := show Hid (FkAt w (w5.setCell ⟨gs', i * 36 + 35, none⟩ (.slice va5 m5 c5)) base g' gs' gm' c' st D (i + 1) (us.set i (.slice va5 m5 c5)) ∧ True) from ⟨hN, trivial⟩
      obtain ⟨W9, hW9⟩ : ∃ W9, w5.setCell ⟨gs', i * 36 + 35, none⟩ (.slice va5 m5 c5) = W9 := ⟨_, rfl⟩
      rw [hW9] at H9 ⊢
      clear hW9 hN hx5 hc5 hk5 ho5 ha5 hrs hS0 hd0
      go_simp
      go_wp2_with fail
      go_roundw
      case rel => exact ⟨i + 1, by go_num, by omega, _, H9⟩
      case measure => simp [intOf]; omega
    · obtain rfl : i = n := by omega
      have hii : ¬ (i : Int) < (i : Int) := by omega
      go_wp2_with fail
      go_ret
      exact ⟨_, rfl, ⟨_, HK.out.1.row' HR.out (by rw [HN.out.1]; exact Nat.le_refl _)⟩, HK.out.1.aft⟩
end Go.Proofs.Ytiglenomigipmaa

namespace Go.Proofs.Ytiglenomigipmaa
open Go.RowKit Go.Shelf
attribute [local go_sem] Oper.semAt_some
theorem RowAt.mono {W : World} {base base' g : Nat} {st : List Stm} {D : RwD} (h : RowAt W base g st D) (hb : base' ≤ base) : RowAt W base' g st D :=
  ⟨h.box, ⟨h.row.1, own_mono h.row.2 hb⟩, h.vl, fun i s v hs hv => (h.bel i s v hs hv).mono hb, h.apart, h.mp, h.ok, h.pos, Nat.le_trans hb h.gb, Nat.le_trans hb h.mb, Nat.le_trans hb h.bs⟩
theorem do_both2 {w : World} {base g gb N : Nat} {st : List Stm} {l : List RC} {D : RwD} {va : Option Addr} {n c : Nat} (h : BothAt w base g gb N st l D va n c) (hN : N ≤ 1000) (hb : base ≤ w.heap.size) {p : Put} (hp : p.Ok) :
    Calls Try.prog 14 #[.pointer (some ⟨g, 0, none⟩), .agg #[.slice va n c], .agg (pcell p).toArray] w fun e w' => ∃ va' n' c' D', e = .returned (.tuple #[.agg #[.slice va' n' c'], .bool true]) ∧ RowAt w' base g (stN st l p) D' ∧ RowR w' base (.slice va' n' c') (rlN l p) ∧ (∀ k, Foot g D' k → Foot g D k ∨ w.heap.size ≤ k) ∧ KeptF (Foot g D) w w' := by
  have h1 := h.few
  have h2 := h.ali.lnk.len
  refine Calls.mono (do_any h.row h.ref hb h.ali.wf h.ali.lnk (by omega) (by omega) hp) (fun e w' ⟨v', D', he, hr, hv, hf, hk⟩ => ?_)
  obtain ⟨va', c', rfl⟩ := hv.sl
  exact ⟨va', _, c', D', he, hr, hv, hf, hk⟩
set_option maxRecDepth 100000 in
set_option maxHeartbeats 6400000 in
theorem forks_any {w : World} {va va2 : Option Addr} {n cap n2 cap2 : Nat} {ps qs : List Put} (hn : ps.length = n) (hok : ∀ p ∈ ps, p.Ok) (hin : PutsIn w va ps) (hn2 : qs.length = n2) (hok2 : ∀ p ∈ qs, p.Ok) (hin2 : PutsIn w va2 qs) :
    Calls Try.prog 6 #[.slice va n cap, .slice va2 n2 cap2] w fun e w' => e = .returned (.bool true) ∧ After w w' := by
  by_cases h120 : n ≤ 120
  · by_cases k120 : n2 ≤ 120
    · have HD : Hid (decide (n ≤ 120) = true ∧ decide (n2 ≤ 120) = true) := ⟨decide_eq_true h120, decide_eq_true k120⟩
      have HIN : Hid (ps.length = n ∧ (∀ p ∈ ps, p.Ok) ∧ PutsIn w va ps) := ⟨hn, hok, hin⟩
      have HIN2 : Hid (qs.length = n2 ∧ (∀ p ∈ qs, p.Ok) ∧ PutsIn w va2 qs) := ⟨hn2, hok2, hin2⟩
      clear hn hok hin hn2 hok2 hin2
      go_enter Try.func6, Try.ntmps6
      go_wp2_with (first
        | (go_at_call 11; refine Calls.mono (few_any va n cap) ?_; rintro e w0 ⟨rfl, rfl⟩; rw [HD.out.1])
        | (go_at_call 11; refine Calls.mono (few_any va2 n2 cap2) ?_; rintro e w00 ⟨rfl, rfl⟩; rw [HD.out.2])
        | (go_at_call 13; refine Calls.mono (New_any _) ?_; rintro e w1 ⟨g, D0, rfl, hr1, ha1⟩; have H1 := show Hid (RowAt w1 w00.heap.size g [root] D0 ∧ After w00 w1) from ⟨hr1, ha1⟩; clear hr1 ha1)
        | (refine wpList_of_run rfl (x_al29 rfl) ?_))
      obtain ⟨w, hw⟩ : ∃ w, w = w00 := ⟨_, rfl⟩
      subst hw
      obtain ⟨W2, hW2⟩ : ∃ W2, w1.alloc (.cells #[.slice none 0 0] 29) = W2 := ⟨_, rfl⟩
      obtain ⟨gb, hgb⟩ : ∃ gb, w1.heap.size = gb := ⟨_, rfl⟩
      have H2 : Hid (BothAt W2 w.heap.size g gb 1 [root] [] D0 none 0 0 ∧ After w W2) := by
        rw [← hW2, ← hgb]
        have hx := after_alloc (After.refl w1) (.cells #[.slice none 0 0] 29)
        exact ⟨⟨H1.out.1.after hx, RowIs.new w1 29 _, RowR.nil _ _, alike_nil, Nat.le_refl _⟩, H1.out.2.trans hx⟩
      have HGB : Hid (w.heap.size ≤ gb) := by rw [← hgb]; exact H1.out.2.size
      rw [hW2, hgb]
      clear hW2 hgb H1
      go_wp2_with fail
      go_loopw [7] (fun vi wr => ∃ i : Nat, vi = .int .i64 (i : Int) ∧ i ≤ n ∧ ∃ st l D ra rn rc, Hid (BothAt wr w.heap.size g gb (i + 1) st l D ra rn rc ∧ After w wr)) (fun vi _ => n - (intOf vi).toNat)
      case atStart => exact ⟨0, rfl, Nat.zero_le _, _, _, _, _, _, _, H2⟩
      case round =>
        obtain ⟨i, rfl, hin, st, l, D, ra, rn, rc, HJ⟩ := hrel
        by_cases hlt : i < n
        · have hii : (i : Int) < (n : Int) := by omega
          obtain ⟨p, hp⟩ : ∃ p, ps[i]? = some p := ⟨_, List.getElem?_eq_getElem (by rw [HIN.out.1]; exact hlt)⟩
          obtain ⟨pb, po, hva, hpr⟩ := HIN.out.2.2 (fun e => by rw [e] at hp; simp at hp)
          subst hva
          have HP : Hid (p.Ok ∧ i < n ∧ w.rangeAt pb (po + i * 8) (pcell p)) := ⟨HIN.out.2.1 p (List.mem_of_getElem? hp), hlt, hpr i p hp⟩
          clear hp hpr
          go_wp2_with fail
          refine wp_region_noPanic ?_
          refine wp_region_held_drew (S := After w) (by kernel_rfl) (HJ.out.2.trans (After.drew (After.refl _))) ?_
          intro hS0
          refine tk 0 28 (.pointer (some ⟨g, 0, none⟩)) (fuel := 10) rfl (by kernel_rfl) (by kernel_rfl) (by kernel_rfl) (by kernel_rfl) noPanic_false (by kernel_rfl) (fun _ _ => by kernel_rfl) hS0 ?_
          refine tk 2 30 (.slice (some ⟨pb, po, none⟩) n cap) (fuel := 9) rfl (by kernel_rfl) (by kernel_rfl) (by kernel_rfl) (by kernel_rfl) noPanic_false (by kernel_rfl) (fun _ _ => by kernel_rfl) hS0 ?_
          refine tk 3 31 (.int .i64 (i : Int)) (fuel := 8) rfl (by kernel_rfl) (by kernel_rfl) (by kernel_rfl) (by kernel_rfl) noPanic_false (by kernel_rfl) (fun _ _ => by kernel_rfl) hS0 ?_
          refine tk 4 32 (.pointer (some ⟨pb, po + i * 8, none⟩)) (fuel := 7) rfl (by kernel_rfl) (by kernel_rfl) (by kernel_rfl) (by kernel_rfl) noPanic_false (by kernel_rfl) (fun W hW => x_idx22 (x := .tmp 30) (y := .tmp 31) (b := pb) (f := po) (n := n) (c := cap) (k := i) (by kernel_rfl) (by kernel_rfl) (by kernel_rfl) HP.out.2.1) hS0 ?_
          refine tk 5 33 (.agg (pcell p).toArray) (fuel := 6) rfl (by kernel_rfl) (by kernel_rfl) (by kernel_rfl) (by kernel_rfl) noPanic_false (by kernel_rfl) (fun W hW => x_ld33m (x := .tmp 32) (g := pb) (q := po + i * 8) (by kernel_rfl) (by kernel_rfl) (range_after HP.out.2.2 hW)) hS0 ?_
          have hB0 := HJ.out.1.after (After.drew (After.refl wr))
          refine tkRunS 1 29 (.agg #[.slice ra rn rc]) (wr.drew) (fuel := 5) rfl (by kernel_rfl) (by kernel_rfl) (by kernel_rfl) (x_ld29 (x := .tmp 6) (g := gb) (by kernel_rfl) (by kernel_rfl) hB0.box) (hS0) ?_
          refine tkCallZ 6 34 14 #[.pointer (some ⟨g, 0, none⟩), .agg #[.slice ra rn rc], .agg (pcell p).toArray] (fun v w' => ∃ va' n' c' D', v = .tuple #[.agg #[.slice va' n' c'], .bool true] ∧ RowAt w' w.heap.size g (stN st l p) D' ∧ RowR w' w.heap.size (.slice va' n' c') (rlN l p) ∧ KeptF (Foot g D) wr.drew w') (fuel := 4) rfl (by kernel_rfl) (by kernel_rfl) (by kernel_rfl) (fun _ => by kernel_rfl) (Calls.mono (do_both hB0 (by omega) hS0.size HP.out.1) (fun e w' ⟨va', n', c', D', he, h1, h2, h3⟩ => ⟨_, he, va', n', c', D', rfl, h1, h2, h3⟩)) ?_
          intro v6 w6 ⟨ra6, rn6, rc6, D6, hv6, hr6, hx6, hk6⟩
          subst hv6
          have ha6 : After w w6 := kept_after hB0.row hS0 hk6
          have hb6 := hB0.row.box29 hk6 hB0.box
          refine ⟨ha6, ?_⟩
          refine tk 7 27 (.tuple #[.agg #[.slice ra6 rn6 rc6], .bool true]) (fuel := 3) rfl (by kernel_rfl) (by kernel_rfl) (by kernel_rfl) (by kernel_rfl) noPanic_false (by kernel_rfl) (fun _ _ => by kernel_rfl) ha6 ?_
          refine tk 8 35 (.agg #[.slice ra6 rn6 rc6]) (fuel := 2) rfl (by kernel_rfl) (by kernel_rfl) (by kernel_rfl) (by kernel_rfl) noPanic_false (by kernel_rfl) (fun _ _ => by kernel_rfl) ha6 ?_
          refine tk 9 36 (.bool true) (fuel := 1) rfl (by kernel_rfl) (by kernel_rfl) (by kernel_rfl) (by kernel_rfl) noPanic_false (by kernel_rfl) (fun _ _ => by kernel_rfl) ha6 ?_
          have ha7 : After w (w6.setRow gb #[.slice ra6 rn6 rc6]) := Below.row ha6 HGB.out _
          refine tkStoreS 10 (w6.setRow gb #[.slice ra6 rn6 rc6]) (fuel := 0) rfl (by kernel_rfl) (by kernel_rfl) (by kernel_rfl) (x_st29 (x := .tmp 6) (y := .tmp 35) (g := gb) (by kernel_rfl) (by kernel_rfl) (by kernel_rfl) hb6) (ha7) ?_
          refine wpAnyH_done (by kernel_rfl) (NoPanic.normal ?_) _
          have H7 := show Hid (BothAt (w6.setRow gb #[.slice ra6 rn6 rc6]) w.heap.size g gb (i + 1 + 1) (stN st l p) (rlN l p) D6 ra6 rn6 rc6 ∧ After w (w6.setRow gb #[.slice ra6 rn6 rc6])) from ⟨hB0.put HP.out.1 hr6 hx6 hk6, ha7⟩
          obtain ⟨W7, hW7⟩ : ∃ W7, w6.setRow gb #[.slice ra6 rn6 rc6] = W7 := ⟨_, rfl⟩
          rw [hW7] at H7 ⊢
          clear hW7 ha7 hb6 ha6 hr6 hx6 hk6 hB0 hS0
          go_simp
          go_wp2_with fail
          go_roundw
          case rel => exact ⟨i + 1, by go_num, by omega, _, _, _, _, _, _, H7⟩
          case measure => simp [intOf]; omega
        · obtain rfl : i = n := by omega
          have hii : ¬ (i : Int) < (i : Int) := by omega
          obtain ⟨wX, hwX⟩ : ∃ wX, wX = wr := ⟨_, rfl⟩
          subst hwX
          obtain ⟨n, hnn⟩ : ∃ n, n = i := ⟨_, rfl⟩
          subst hnn
          go_wp2_with (first
            | (go_at_call 21; refine Calls.mono (Fork_any HJ.out.1.row HJ.out.1.ali.wf (by have := HJ.out.1.few; omega)) ?_; rintro e w3 ⟨g2, D3, rfl, hr3, ha3⟩; obtain ⟨W4, hW4⟩ : ∃ W4, (w3.alloc (.cells #[.slice none 0 0] 29)).setRow w3.heap.size #[.slice ra rn rc] = W4 := ⟨_, rfl⟩; have HG4 := show Hid _ from hW4; have HZ4 := show Hid (RowIs (w3.alloc (.cells #[.slice none 0 0] 29)) w3.heap.size 29 [.slice none 0 0]) from RowIs.new w3 29 _; have HB3 := show Hid (RowIs w3 gb 29 [.slice ra rn rc]) from (HJ.out.1.after ha3).box; have H4 := show Hid (RowAt W4 wX.heap.size g2 st D3 ∧ RowIs W4 w3.heap.size 29 [.slice ra rn rc] ∧ After wX W4 ∧ wX.heap.size ≤ w3.heap.size) from (fun hx : After w3 W4 => ⟨hr3.after hx, by rw [← hW4]; exact HZ4.out.setRow _, ha3.trans hx, ha3.size⟩) (by rw [← hW4]; exact Below.row (after_alloc (After.refl w3) _) (Nat.le_refl _) _); clear ha3 hr3 hW4)
            | (refine wpList_load_row rfl 29 (.tmp 6) rfl gb rfl 29 #[.slice ra rn rc] (0, 0) _ HB3.out Try.underlying29 rfl (size29 _) ?_)
            | (refine wpList_of_run rfl (x_al29 rfl) ?_)
            | (refine wpList_store_row rfl 29 (.tmp 9) (.tmp 41) rfl w3.heap.size #[.slice ra rn rc] rfl rfl 29 _ HZ4.out (size29 _) rfl (by simp [Value.oneCell']) ?_; rw [HG4.out]))
          obtain ⟨gb2, hgb2⟩ : ∃ gb2, w3.heap.size = gb2 := ⟨_, rfl⟩
          rw [hgb2] at H4 ⊢
          have HGB2 : Hid (wX.heap.size ≤ gb2) := H4.out.2.2.2
          have H5 : Hid (BothAt W4 w.heap.size g2 gb2 (n + 1 + 0) st l D3 ra rn rc ∧ (∀ k, Foot g2 D3 k → wX.heap.size ≤ k) ∧ After wX W4) := ⟨⟨H4.out.1.mono HJ.out.2.size, H4.out.2.1, (HJ.out.1.after H4.out.2.2.1).ref, HJ.out.1.ali, HJ.out.1.few⟩, fun k hk => (H4.out.1.foot hk).1, H4.out.2.2.1⟩
          clear hgb2 H4 HZ4 HG4 HB3
          go_loopw [10] (fun vi wr => ∃ j : Nat, vi = .int .i64 (j : Int) ∧ j ≤ n2 ∧ ∃ st2 l2 D2 sa sn sc, Hid (BothAt wr w.heap.size g2 gb2 (n + 1 + j) st2 l2 D2 sa sn sc ∧ (∀ k, Foot g2 D2 k → wX.heap.size ≤ k) ∧ After wX wr)) (fun vi _ => n2 - (intOf vi).toNat)
          case atStart => exact ⟨0, rfl, Nat.zero_le _, _, _, _, _, _, _, H5⟩
          case round =>
            obtain ⟨j, rfl, hjn, st2, l2, D2, sa, sn, sc, HJ2⟩ := hrel
            by_cases hjlt : j < n2
            · have hjj : (j : Int) < (n2 : Int) := by omega
              obtain ⟨p, hp⟩ : ∃ p, qs[j]? = some p := ⟨_, List.getElem?_eq_getElem (by rw [HIN2.out.1]; exact hjlt)⟩
              obtain ⟨qb, qo, hva2, hpr⟩ := HIN2.out.2.2 (fun e => by rw [e] at hp; simp at hp)
              subst hva2
              have HP2 : Hid (p.Ok ∧ j < n2 ∧ w.rangeAt qb (qo + j * 8) (pcell p)) := ⟨HIN2.out.2.1 p (List.mem_of_getElem? hp), hjlt, hpr j p hp⟩
              clear hp hpr
              go_wp2_with fail
              refine wp_region_noPanic ?_
              refine wp_region_held_drew (S := After wX) (by kernel_rfl) (HJ2.out.2.2.trans (After.drew (After.refl _))) ?_
              intro hS0
              refine tk 0 49 (.pointer (some ⟨g2, 0, none⟩)) (fuel := 10) rfl (by kernel_rfl) (by kernel_rfl) (by kernel_rfl) (by kernel_rfl) noPanic_false (by kernel_rfl) (fun _ _ => by kernel_rfl) hS0 ?_
              refine tk 2 51 (.slice (some ⟨qb, qo, none⟩) n2 cap2) (fuel := 9) rfl (by kernel_rfl) (by kernel_rfl) (by kernel_rfl) (by kernel_rfl) noPanic_false (by kernel_rfl) (fun _ _ => by kernel_rfl) hS0 ?_
              refine tk 3 52 (.int .i64 (j : Int)) (fuel := 8) rfl (by kernel_rfl) (by kernel_rfl) (by kernel_rfl) (by kernel_rfl) noPanic_false (by kernel_rfl) (fun _ _ => by kernel_rfl) hS0 ?_
              refine tk 4 53 (.pointer (some ⟨qb, qo + j * 8, none⟩)) (fuel := 7) rfl (by kernel_rfl) (by kernel_rfl) (by kernel_rfl) (by kernel_rfl) noPanic_false (by kernel_rfl) (fun W hW => x_idx22 (x := .tmp 51) (y := .tmp 52) (b := qb) (f := qo) (n := n2) (c := cap2) (k := j) (by kernel_rfl) (by kernel_rfl) (by kernel_rfl) HP2.out.2.1) hS0 ?_
              refine tk 5 54 (.agg (pcell p).toArray) (fuel := 6) rfl (by kernel_rfl) (by kernel_rfl) (by kernel_rfl) (by kernel_rfl) noPanic_false (by kernel_rfl) (fun W hW => x_ld33m (x := .tmp 53) (g := qb) (q := qo + j * 8) (by kernel_rfl) (by kernel_rfl) (range_after HP2.out.2.2 (HJ.out.2.trans hW))) hS0 ?_
              have hB0 := HJ2.out.1.after (After.drew (After.refl wr))
              refine tkRunS 1 50 (.agg #[.slice sa sn sc]) (wr.drew) (fuel := 5) rfl (by kernel_rfl) (by kernel_rfl) (by kernel_rfl) (x_ld29 (x := .tmp 9) (g := gb2) (by kernel_rfl) (by kernel_rfl) hB0.box) (hS0) ?_
              refine tkCallZ 6 55 14 #[.pointer (some ⟨g2, 0, none⟩), .agg #[.slice sa sn sc], .agg (pcell p).toArray] (fun v w' => ∃ va' n' c' D', v = .tuple #[.agg #[.slice va' n' c'], .bool true] ∧ RowAt w' w.heap.size g2 (stN st2 l2 p) D' ∧ RowR w' w.heap.size (.slice va' n' c') (rlN l2 p) ∧ (∀ k, Foot g2 D' k → Foot g2 D2 k ∨ wr.drew.heap.size ≤ k) ∧ KeptF (Foot g2 D2) wr.drew w') (fuel := 4) rfl (by kernel_rfl) (by kernel_rfl) (by kernel_rfl) (fun _ => by kernel_rfl) (Calls.mono (do_both2 hB0 (by omega) (HJ.out.2.trans hS0).size HP2.out.1) (fun e w' ⟨va', n', c', D', he, h1, h2, h3, h4⟩ => ⟨_, he, va', n', c', D', rfl, h1, h2, h3, h4⟩)) ?_
              intro v6 w6 ⟨ra6, rn6, rc6, D6, hv6, hr6, hx6, hf6, hk6⟩
              subst hv6
              have ha6 : After wX w6 := Below.trans hS0 (hk6.below hS0.size (fun x hx => HJ2.out.2.1 x hx))
              have hb6 := hB0.row.box29 hk6 hB0.box
              refine ⟨ha6, ?_⟩
              refine tk 7 48 (.tuple #[.agg #[.slice ra6 rn6 rc6], .bool true]) (fuel := 3) rfl (by kernel_rfl) (by kernel_rfl) (by kernel_rfl) (by kernel_rfl) noPanic_false (by kernel_rfl) (fun _ _ => by kernel_rfl) ha6 ?_
              refine tk 8 56 (.agg #[.slice ra6 rn6 rc6]) (fuel := 2) rfl (by kernel_rfl) (by kernel_rfl) (by kernel_rfl) (by kernel_rfl) noPanic_false (by kernel_rfl) (fun _ _ => by kernel_rfl) ha6 ?_
              refine tk 9 57 (.bool true) (fuel := 1) rfl (by kernel_rfl) (by kernel_rfl) (by kernel_rfl) (by kernel_rfl) noPanic_false (by kernel_rfl) (fun _ _ => by kernel_rfl) ha6 ?_
              have ha7 : After wX (w6.setRow gb2 #[.slice ra6 rn6 rc6]) := Below.row ha6 HGB2.out _
              refine tkStoreS 10 (w6.setRow gb2 #[.slice ra6 rn6 rc6]) (fuel := 0) rfl (by kernel_rfl) (by kernel_rfl) (by kernel_rfl) (x_st29 (x := .tmp 9) (y := .tmp 56) (g := gb2) (by kernel_rfl) (by kernel_rfl) (by kernel_rfl) hb6) (ha7) ?_
              refine wpAnyH_done (by kernel_rfl) (NoPanic.normal ?_) _
              have H7 := show Hid (BothAt (w6.setRow gb2 #[.slice ra6 rn6 rc6]) w.heap.size g2 gb2 (n + 1 + j + 1) (stN st2 l2 p) (rlN l2 p) D6 ra6 rn6 rc6 ∧ (∀ k, Foot g2 D6 k → wX.heap.size ≤ k) ∧ After wX (w6.setRow gb2 #[.slice ra6 rn6 rc6])) from ⟨hB0.put HP2.out.1 hr6 hx6 hk6, fun k hk => (hf6 k hk).elim (fun h => HJ2.out.2.1 k h) (fun h => Nat.le_trans hS0.size h), ha7⟩
              obtain ⟨W7, hW7⟩ : ∃ W7, w6.setRow gb2 #[.slice ra6 rn6 rc6] = W7 := ⟨_, rfl⟩
              rw [hW7] at H7 ⊢
              clear hW7 ha7 hb6 ha6 hr6 hx6 hf6 hk6 hB0 hS0
              go_simp
              go_wp2_with fail
              go_roundw
              case rel => exact ⟨j + 1, by go_num, by omega, _, _, _, _, _, _, H7⟩
              case measure => simp [intOf]; omega
            · obtain rfl : j = n2 := by omega
              have hjj : ¬ (j : Int) < (j : Int) := by omega
              obtain ⟨wY, hwY⟩ : ∃ wY, wY = wr := ⟨_, rfl⟩
              subst hwY
              have HB1 : Hid (BothAt wY w.heap.size g gb (n + 1) st l D ra rn rc) := HJ.out.1.after HJ2.out.2.2
              go_wp2_with (first
                | (refine wpList_load_row rfl 29 (.tmp 9) rfl gb2 rfl 29 #[.slice sa sn sc] (0, 0) _ HJ2.out.1.box Try.underlying29 rfl (size29 _) ?_)
                | (go_at_call 17; refine Calls.mono (same_any HJ2.out.1.row HJ2.out.1.ref HJ2.out.1.ali (by have := HJ2.out.1.few; omega)) ?_; rintro e w5 ⟨rfl, ha5⟩; have H5b := show Hid (BothAt w5 w.heap.size g gb (n + 1) st l D ra rn rc ∧ After wY w5) from ⟨HB1.out.after ha5, ha5⟩; clear ha5)
                | (refine wpListG_of_run (by kernel_rfl) (x_ld29 (x := .tmp 6) (g := gb) rfl (by kernel_rfl) H5b.out.1.box) ?_)
                | (go_at_call 17; refine Calls.mono (same_any H5b.out.1.row H5b.out.1.ref H5b.out.1.ali (by have := H5b.out.1.few; omega)) ?_; rintro e w6 ⟨rfl, ha6⟩; have H6 := show Hid (After wY w6) from H5b.out.2.trans ha6; clear ha6)
                | (go_at_call 12; refine Calls.mono (awake_any _) ?_; rintro e w8 ⟨rfl, ha8⟩; have H8 := show Hid (After w w8) from ((HJ.out.2.trans HJ2.out.2.2).trans H6.out).trans ha8; clear ha8))
              go_ret
              exact ⟨rfl, H8.out⟩
    · have HD : Hid (decide (n ≤ 120) = true ∧ decide (n2 ≤ 120) = false) := ⟨decide_eq_true h120, decide_eq_false k120⟩
      clear hn hok hin hn2 hok2 hin2
      go_enter Try.func6, Try.ntmps6
      go_wp2_with (first
        | (go_at_call 11; refine Calls.mono (few_any va n cap) ?_; rintro e w0 ⟨rfl, rfl⟩; rw [HD.out.1])
        | (go_at_call 11; refine Calls.mono (few_any va2 n2 cap2) ?_; rintro e w00 ⟨rfl, rfl⟩; rw [HD.out.2])
        | (go_at_call 12; refine Calls.mono (awake_any _) ?_; rintro e w8 ⟨rfl, ha8⟩; have H8 := show Hid (After w00 w8) from ha8; clear ha8))
      go_ret
      exact ⟨rfl, H8.out⟩
  · have HD : Hid (decide (n ≤ 120) = false) := decide_eq_false h120
    clear hn hok hin hn2 hok2 hin2
    go_enter Try.func6, Try.ntmps6
    go_wp2_with (first
      | (go_at_call 11; refine Calls.mono (few_any va n cap) ?_; rintro e w0 ⟨rfl, rfl⟩; rw [HD.out])
      | (go_at_call 12; refine Calls.mono (awake_any _) ?_; rintro e w8 ⟨rfl, ha8⟩; have H8 := show Hid (After w0 w8) from ha8; clear ha8))
    go_ret
    exact ⟨rfl, H8.out⟩
end Go.Proofs.Ytiglenomigipmaa

namespace Go.Proofs.Ytiglenomigipmaa.RgaForks
open Go.ChangeShapes Go.WideShapes Go.ChangeAt Go.RowKit 
open Go.ChangeMaps (open_string)

set_option maxRecDepth 100000 in
/-- What the walk gives, for every argument and every world. -/
theorem contract (H : Type) (enc : TypeId × Value → H) (W : World) (base : Nat) (args : Array Value) (ds gs : List (DataW H)) (before : List MemPlace)
    (hval : ∀ (j : Nat) t v, Try.f6.params[j]? = some t → args[j]? = some v → Value.okWide Try.prog W .any base t v)
    (hW : DataW.Whole enc Try.prog Try.f6.params.toList Rows.rgaForksSpec.vars false W args.toList ds gs before)
    (hsz : (DataW.weightsEach Try.prog (Try.f6.params.toList ++ (OpenSpec.ofChange Rows.rgaForksSpec).bare.plain.varTypes Try.prog) (ds ++ gs)).all (· ≤ reachBytes) = true) :
    Calls Try.prog 6 args W fun e W' => ∃ v, e = .returned v ∧ Rows.rgaForksSpec.post enc Try.prog Try.f6 false true false false W args v W' := by
  have hW' := hW
  obtain ⟨p, q, hA0, hV, rfl, hfz, hnd⟩ := hW
  have hA : DataW.TrodAll enc Try.prog W 0 (fun _ => true) true Try.f6.params.toList args.toList ds p := hA0
  rw [Try.params6] at hA hval hsz
  obtain ⟨v0, vs0, d0, ds0, p0, q0, hargs, rfl, rfl, h0, r0⟩ := trodAll_cons hA
  obtain ⟨v1, vs1, d1, ds1, p1, q1, rfl, rfl, rfl, h1, r1⟩ := trodAll_cons r0
  obtain ⟨rfl, rfl, rfl⟩ := trodAll_nil r1
  obtain rfl : args = #[v0, v1] := by cases args; simp_all
  obtain ⟨rfl, rfl⟩ := trodVars_none hV
  have k0 := h0
  have lt0 : ∀ x ∈ p0, x.block < W.heap.size := by obtain ⟨m, hm⟩ := k0; exact DataW.trod_lt m _ _ _ hm
  have k1 := h1
  have lt1 : ∀ x ∈ p1, x.block < W.heap.size := by obtain ⟨m, hm⟩ := k1; exact DataW.trod_lt m _ _ _ hm
  obtain ⟨a0, len0, cap0, rfl⟩ := okWide_slice Try.underlying22 (hval 0 22 v0 rfl rfl)
  obtain ⟨l0, hl0, hk0, hi0⟩ := open_puts (hval 0 22 _ rfl rfl) h0
  obtain ⟨a1, len1, cap1, rfl⟩ := okWide_slice Try.underlying22 (hval 1 22 v1 rfl rfl)
  obtain ⟨l1, hl1, hk1, hi1⟩ := open_puts (hval 1 22 _ rfl rfl) h1
  clear hA0 hA
  refine (forks_any (w := W) (va := a0) (va2 := a1) (cap := cap0) (cap2 := cap1) hl0 hk0 hi0 hl1 hk1 hi1).mono fun e W' ⟨he, bel⟩ => ?_
  subst he
  exact ⟨_, rfl, _, _, _, [], _, [], hW', trodAll_mk1 (shut_bool Try.underlying4 _), (trodAll_cons_mk (Below.trod laidOut (by kernel_rfl) (of_decide_eq_true (by kernel_rfl)) k0 bel lt0) (trodAll_cons_mk (Below.trod laidOut (by kernel_rfl) (of_decide_eq_true (by kernel_rfl)) k1 bel lt1) (trodAll_mk0))), rfl, bel.frame _, fun h => by cases h⟩

set_option maxRecDepth 100000 in
/-- A world for the witness: the settled one. -/
theorem witness (os : Os) {H : Type} (enc : TypeId × Value → H) : ∃ (w : World) (tape : Tape) (i : Input), w.os = os ∧ (w.forCall tape i).Shaped Try.checked.prog ∧ i.vars = [] ∧ Input.okWide Try.checked.prog (w.forCall tape i) .any w.heap.size 6 i ∧
      (OpenSpec.ofChange Rows.rgaForksSpec).preRow enc Try.checked.prog Try.f6 Rows.rgaForksRow.domain false Rows.rgaForksRow.laid (w.forCall tape i).memory i.args ∧ ({} : Assume).holds Try.checked.prog (lone (Frame.enter Try.checked.prog 6 i.args .normal) [] (w.forCall tape i)) :=
  witness_row_at (enc := enc) (C := Try.checked) false (World.holding Try.prog os ⟨#[], #[], []⟩) #[.slice none 0 0, .slice none 0 0] rfl (by kernel_rfl) (by kernel_rfl) (by kernel_rfl)
    (OpenSpec.preRow_of_cond 8 (x := ([.nil, .nil], [], [])) (by kernel_rfl) (by kernel_rfl) (fun k hk => by cases hk) (by kernel_rfl) (laidMet_nil _ _))

set_option maxRecDepth 100000 in
theorem lifted (os : Os) (started : os.Started) (H : Type) (enc : TypeId × Value → H) (F : Stop.Interp) :
    ReturnsInHanded {} Try.checked os 6 .any ((OpenSpec.ofChange Rows.rgaForksSpec).preRow enc Try.prog Try.f6 Rows.rgaForksRow.domain false Rows.rgaForksRow.laid) (((OpenSpec.ofChange Rows.rgaForksSpec).at F).post enc Try.prog Try.f6 false true false false) := by
  refine returnsInHanded_of_row (C := Try.checked) (s := OpenSpec.ofChange Rows.rgaForksSpec) own started (by kernel_rfl) Try.func6 (witness os enc) ?_
  intro W base args ds gs before hval hW _ _ hsz _ _ _
  exact contract H enc W base args ds gs before hval hW hsz

set_option maxRecDepth 100000 in
theorem said : Rows.RgaForksSaid :=
  OpenClaim.holds_of_cond 6 Try.f6 rfl rfl rfl rfl rfl rfl rfl ⟨rfl, rfl, rfl, rfl, rfl⟩ rfl rfl rfl rfl rfl (by kernel_rfl) Try.func6 (by kernel_rfl)
    (of_decide_eq_true (by kernel_rfl)) (by unfold Func.isWrapper; first | (rw [if_pos (by decide +kernel)]; kernel_rfl) | (rw [if_neg (by decide +kernel)]; exact ⟨rfl, rfl⟩))
    (fun os started H enc _ F => by rw [OpenClaim.pre_eq_preRow]; exact lifted os started H enc F)
end Go.Proofs.Ytiglenomigipmaa.RgaForks
namespace Go.Proofs.Ytiglenomigipmaa
theorem rgaForks_holds : Rows.RgaForksSaid := RgaForks.said
end Go.Proofs.Ytiglenomigipmaa
