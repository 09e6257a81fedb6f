/-
  At (15): which one stands at a place.
-/
import Derived.Test.YtiglenomigipmaaSA
namespace Go.Proofs.Ytiglenomigipmaa
open Go.RowKit Go.Shelf
attribute [local go_sem] Oper.semAt_some
theorem Reach.prefix {st : List Stm} {V T U : List Nat} (h : Reach st V T) (hU : Reach st U []) : V = U.take V.length := by
  by_cases h1 : V.length < U.length
  · obtain ⟨T', h2, -⟩ := hU.pre _ h1
    exact (h.det h2 (by rw [List.length_take]; omega)).1
  · by_cases h2 : U.length < V.length
    · obtain ⟨T', h3, h4⟩ := h.pre _ h2
      exact absurd ((h3.det hU (by rw [List.length_take]; omega)).2) h4
    · have e : V.length = U.length := by omega
      rw [e, List.take_length]
      exact (h.det hU e).1
/-- Which one stands at a place among these. -/
def atL (l : List Nat) (n : Int) : Option Nat := if n < 0 then none else l[n.toNat]?
def atId (st : List Stm) (l : List Nat) (n : Int) : Idn := match atL l n with | some t => idAt st t | none => zId
theorem atL_none {l : List Nat} {n : Int} (h : ∀ k : Nat, k < l.length → (k : Int) ≠ n) : atL l n = none := by
  unfold atL
  split
  · rfl
  · rw [List.getElem?_eq_none_iff]
    by_cases h1 : n.toNat < l.length
    · exact absurd (Int.toNat_of_nonneg (by omega)) (h _ h1)
    · omega
theorem atL_some {st : List Stm} {U V T : List Nat} {t : Nat} {s : Stm} {n : Int} (hU : Reach st U []) (h : Reach st V (T ++ [t])) (hs : st[t]? = some s) (hg : s.gone = false) (hn : ((V.filter (live st)).length : Int) = n) : atL (U.filter (live st)) n = some t := by
  have h1 := (Reach.step h hs).prefix hU
  have hl : live st t = true := by have := fil_snoc [] hs; rw [hg] at this; simp at this; exact this
  have e : U = (V ++ [t]) ++ U.drop (V ++ [t]).length := by
    conv => lhs; rw [← List.take_append_drop (V ++ [t]).length U]
    rw [← h1]
  unfold atL
  rw [if_neg (by omega), ← hn, e, List.filter_append, List.filter_append]
  rw [List.getElem?_append_left (by simp [hl])]
  rw [List.getElem?_append_right (by simp)]
  simp [hl]
theorem x_eq3 {oi : Oper} {a : Act} {w : World} {x y : Operand} {p q : Int} (hop : oi.op = .binOp .eql 3 x y 3) (hx : a.eval x = .int .i64 p) (hy : a.eval y = .int .i64 q) : (execOp a.eval oi).run Try.prog w = .ok (.value (.bool (decide (p = q)))) w := by
  unfold execOp
  simp only [hop, hx, hy]
  simp [go_sem]
  rw [Bool.eq_iff_iff]; simp
theorem KeptF.setRow {F : Nat → Prop} (w : World) (g : Nat) (cs : Array Value) (h : F g) : KeptF F w (w.setRow g cs) :=
  ⟨rfl, rfl, rfl, by simp, fun b hb hF => Go.setRow_other w g b cs (fun e => hF (by rw [e]; exact h))⟩
/-- What the boxes hold, none yet found; and once it is found. -/
def AJ (n : Int) (T0 gp l1 D1 : Nat) (r : Loop) (V : List Nat) (F : Nat → Prop) (X : World) : Prop :=
  (RowIs X gp 3 [.int .i64 n] ∧ RowIs X (gp + 1) 37 (idc zId) ∧ RowIs X (gp + 1 + 1) 4 [.bool false] ∧ RowIs X (gp + 1 + 1 + 1) 3 [pv V.length]) ∧ (∀ k : Nat, k < V.length → (k : Int) ≠ n) ∧
    (∀ b, F b ↔ b = gp + 1 ∨ b = gp + 1 + 1 ∨ b = gp + 1 + 1 + 1 ∨ b = l1) ∧ X.heap[l1]? = some (.loop r) ∧ X.heap[D1]? = some (.deferred (some [])) ∧ T0 ≤ X.heap.size
def AX (st : List Stm) (n : Int) (T0 gp l1 D1 : Nat) (r : Loop) (_ : List Nat) (F : Nat → Prop) (X : World) : Prop :=
  (∃ (t : Nat) (s : Stm) (U T : List Nat), Reach st U (T ++ [t]) ∧ st[t]? = some s ∧ s.gone = false ∧ ((U.filter (live st)).length : Int) = n ∧ RowIs X (gp + 1) 37 (idc s.id) ∧ RowIs X (gp + 1 + 1) 4 [.bool true]) ∧
    (∀ b, F b ↔ b = gp + 1 ∨ b = gp + 1 + 1 ∨ b = gp + 1 + 1 + 1 ∨ b = l1) ∧ X.heap[l1]? = some (.loop (dn r)) ∧ X.heap[D1]? = some (.deferred (some [])) ∧ T0 ≤ X.heap.size ∧ gp + 1 + 1 + 1 < X.heap.size
theorem AJ.ok {n : Int} {T0 gp l1 D1 : Nat} {r : Loop} (h1 : gp + 1 + 1 + 1 < T0) (h2 : l1 < T0) (h3 : D1 < T0) : Jok T0 (AJ n T0 gp l1 D1 r) := by
  refine ⟨fun V F A B ⟨⟨r1, r2, r3, r4⟩, hm, hf, hl, hd, hs⟩ hk => ?_, fun V F A ⟨⟨r1, r2, r3, r4⟩, hm, hf, hl, hd, hs⟩ b hb => ?_⟩
  · refine ⟨⟨hk.row r1 (fun h => by omega), hk.row r2 (fun h => by omega), hk.row r3 (fun h => by omega), hk.row r4 (fun h => by omega)⟩, hm, hf, ?_, ?_, Nat.le_trans hs hk.size⟩
    · rw [hk.block l1 (Array.getElem?_eq_some_iff.1 hl).1 (fun h => by omega)]; exact hl
    · rw [hk.block D1 (Array.getElem?_eq_some_iff.1 hd).1 (fun h => by omega)]; exact hd
  · rcases (hf b).1 hb with e | e | e | e
    · rw [e]; exact r2.lt
    · rw [e]; exact r3.lt
    · rw [e]; exact r4.lt
    · rw [e]; exact (Array.getElem?_eq_some_iff.1 hl).1
theorem AX.ok {st : List Stm} {n : Int} {T0 gp l1 D1 : Nat} {r : Loop} (h1 : gp + 1 + 1 + 1 < T0) (h2 : l1 < T0) (h3 : D1 < T0) : Jok T0 (AX st n T0 gp l1 D1 r) := by
  refine ⟨fun V F A B ⟨⟨t, s, U, T, x1, x2, x3, x4, r2, r3⟩, hf, hl, hd, hs, hz⟩ hk => ?_, fun V F A ⟨⟨t, s, U, T, x1, x2, x3, x4, r2, r3⟩, hf, hl, hd, hs, hz⟩ b hb => ?_⟩
  · refine ⟨⟨t, s, U, T, x1, x2, x3, x4, hk.row r2 (fun h => by omega), hk.row r3 (fun h => by omega)⟩, hf, ?_, ?_, Nat.le_trans hs hk.size, Nat.lt_of_lt_of_le hz hk.size⟩
    · rw [hk.block l1 (Array.getElem?_eq_some_iff.1 hl).1 (fun h => by omega)]; exact hl
    · rw [hk.block D1 (Array.getElem?_eq_some_iff.1 hd).1 (fun h => by omega)]; exact hd
  · rcases (hf b).1 hb with e | e | e | e
    · rw [e]; exact r2.lt
    · rw [e]; exact r3.lt
    · rw [e]; exact hz
    · rw [e]; exact (Array.getElem?_eq_some_iff.1 hl).1
set_option maxRecDepth 100000 in
set_option maxHeartbeats 6400000 in
theorem At_any {w : World} {base g : Nat} {st : List Stm} {D : RwD} (h : RowAt w base g st D) (hw : Wf st) (hsm : st.length ≤ 100000) (n : Int) :
    Calls Try.prog 15 #[.pointer (some ⟨g, 0, none⟩), .int .i64 n] w fun e w' => ∃ U, Reach st U [] ∧ e = .returned (.tuple #[idv (atId st (U.filter (live st)) n), .bool (atL (U.filter (live st)) n).isSome]) ∧ After w w' := by
  refine (callsIn_wide (n := 7)).1 ?_
  obtain ⟨W0, hW0⟩ : ∃ W0, ((((w.alloc (.cells #[.int .i64 n] 3)).alloc (.cells (idc zId).toArray 37)).alloc (.cells #[.bool false] 4)).alloc (.cells #[.int .i64 0] 3)).setCell ⟨w.heap.size + 1 + 1 + 1, 0, none⟩ (.int .i64 0) = W0 := ⟨_, rfl⟩
  have HA0 : Hid (After w W0 ∧ True) := ⟨by rw [← hW0]; exact Below.setCell (after_alloc (after_alloc (after_alloc (after_alloc (After.refl w) _) _) _) _) (p := ⟨w.heap.size + 1 + 1 + 1, 0, none⟩) (by show w.heap.size ≤ w.heap.size + 1 + 1 + 1; omega) _, trivial⟩
  have HB : Hid ((RowIs W0 w.heap.size 3 [.int .i64 n] ∧ RowIs W0 (w.heap.size + 1) 37 (idc zId) ∧ RowIs W0 (w.heap.size + 1 + 1) 4 [.bool false] ∧ RowIs W0 (w.heap.size + 1 + 1 + 1) 3 [pv 0]) ∧ W0.heap.size = w.heap.size + 1 + 1 + 1 + 1) := by
    rw [← hW0]
    refine ⟨⟨?_, ?_, ?_, ?_⟩, ?_⟩
    · exact ((((RowIs.new w 3 [.int .i64 n]).alloc _).alloc _).alloc _).other _ _ (by show ¬ w.heap.size = w.heap.size + 1 + 1 + 1; omega)
    · have := RowIs.new (w.alloc (.cells #[.int .i64 n] 3)) 37 (idc zId)
      rw [World.size_alloc] at this
      exact ((this.alloc _).alloc _).other _ _ (by show ¬ w.heap.size + 1 = w.heap.size + 1 + 1 + 1; omega)
    · have := RowIs.new ((w.alloc (.cells #[.int .i64 n] 3)).alloc (.cells (idc zId).toArray 37)) 4 [.bool false]
      rw [World.size_alloc, World.size_alloc] at this
      exact (this.alloc _).other _ _ (by show ¬ w.heap.size + 1 + 1 = w.heap.size + 1 + 1 + 1; omega)
    · have := RowIs.new (((w.alloc (.cells #[.int .i64 n] 3)).alloc (.cells (idc zId).toArray 37)).alloc (.cells #[.bool false] 4)) 3 [.int .i64 0]
      rw [World.size_alloc, World.size_alloc, World.size_alloc] at this
      exact this.set 0 _
    · show (Array.modify _ _ _).size = _
      rw [Array.size_modify]
      simp
  have HR : Hid (RowAt w base g st D) := h
  have HRN : Hid ((∀ V T, Reach st V T → V.length + T.length ≤ st.length) ∧ (∀ V T, Reach st V T → ∀ t ∈ T, t < st.length) ∧ st.length ≤ 100000 ∧ Wf st) := ⟨fun V T => hw.few, fun V T => hw.in, hsm, hw⟩
  clear h hw hsm
  refine callsIn_of_wp_marks Try.func15 rfl trivial ?_ rfl
  simp only [Try.ntmps15, List.size_toArray, List.length_cons, List.length_nil, Nat.reduceAdd, Nat.reduceSub, Array.replicate_succ, Array.replicate_zero, List.push_toArray, List.append_toArray, List.nil_append, List.cons_append]
  gi_wp2_with (first
    | (rw [hW0])
    | (refine wpListIn_run rfl (fun _ => trivial) (fun _ h => by cases h) (x_al37 rfl) ?_)
    | (refine ⟨trivial, ?_⟩; gi_at_call 33; refine (callsIn_wide.2 (left_any (some ⟨g, 0, none⟩) W0)).mono ?_; rintro e w2 ⟨rfl, hr2, ha2⟩; have H2 := show Hid (RowIs w2 W0.heap.size 25 [.pointer (some ⟨g, 0, none⟩)] ∧ After W0 w2) from ⟨hr2, ha2⟩; clear hr2 ha2))
  refine rf_enter (n := 7) rfl (by omega) (gf := 45) (lb := #[.pointer (some ⟨W0.heap.size, 0, none⟩)]) rfl trivial (enters_of Try.func45 (by kernel_rfl) rfl) ?_
  intro fn _ r hr
  have hrst : r.state = .ready := by rw [hr]
  have hrp : r.pending = none := by rw [hr]
  have hrps : r.params = #[10] := by rw [hr]
  have hra := congrArg Loop.assign hr
  have hrb := congrArg Loop.body hr
  have hrt := congrArg Loop.tmps hr
  dsimp only at hra hrb hrt
  clear hr
  have hreq : rdy r = r := by unfold rdy; cases r; simp_all
  obtain ⟨W3, hW3⟩ : ∃ W3, (w2.alloc (.deferred (some []))).alloc (.loop r) = W3 := ⟨_, rfl⟩
  obtain ⟨D2, hD2⟩ : ∃ D2, w2.heap.size = D2 := ⟨_, rfl⟩
  have hs3 : W3.heap.size = D2 + 2 := by rw [← hW3, ← hD2]; simp
  have ha3 : After w2 W3 := by rw [← hW3]; exact after_alloc (after_alloc (After.refl w2) _) _
  have hl3 : W3.heap[D2 + 1]? = some (.loop r) := by
    rw [← hW3, ← hD2]; have := World.alloc_heap_new (w2.alloc (.deferred (some []))) (.loop r); rwa [World.size_alloc] at this
  have hd3 : W3.heap[D2]? = some (.deferred (some [])) := by
    rw [← hW3, ← hD2]; exact (Below.heap_alloc _ _ _ (by simp)).trans (World.alloc_heap_new w2 _)
  have hA3 : After w W3 := (HA0.out.1.trans H2.out.2).trans ha3
  have hA03 : After W0 W3 := H2.out.2.trans ha3
  have hlt2 : W0.heap.size < D2 := by
    have h1 := H2.out.1.lt
    rw [hD2] at h1
    exact h1
  have hg3 : RowIs W3 W0.heap.size 25 [.pointer (some ⟨g, 0, none⟩)] := H2.out.1.below ha3 H2.out.1.lt
  rw [hW3, hD2]
  clear hW3 hD2 ha3
  have hgl : w.heap.size + 1 + 1 + 1 < W0.heap.size := HB.out.1.2.2.2.lt
  have hmain := left_in (D2 + 1) W0.heap.size (N := st.length) (AJ n (D2 + 2) w.heap.size (D2 + 1) D2 r) (AX st n (D2 + 2) w.heap.size (D2 + 1) D2 r) (W := W3) (F0 := fun b => b = w.heap.size + 1 ∨ b = w.heap.size + 1 + 1 ∨ b = w.heap.size + 1 + 1 + 1 ∨ b = D2 + 1)
    (by rw [hs3]; exact AJ.ok (by omega) (by omega) (by omega)) (by rw [hs3]; exact AX.ok (by omega) (by omega) (by omega)) (fun V F t s X U T hAJ hKX hVN hUT hVU hs hgn => by
      obtain ⟨⟨r1, r2, r3, r4⟩, hm, hf, hl, hd, hsz⟩ := hAJ
      have hok := HR.out.ok s (List.mem_of_getElem? hs)
      have HWA := show Hid (RowIs ((X.alloc (.cells zc63.toArray 63)).setRow X.heap.size (ccell s.id s.ch s.gone).toArray) X.heap.size 63 (ccell s.id s.ch s.gone) ∧ After X ((X.alloc (.cells zc63.toArray 63)).setRow X.heap.size (ccell s.id s.ch s.gone).toArray)) from ⟨setRow_heap _ _ _ _ 63 _ (heap_alloc_new X _), Below.row (after_alloc (After.refl X) _) (Nat.le_refl _) _⟩
      refine rf_round hl hrst (by rw [hrps]; rfl) trivial ?_
      rw [hra, hrt, hrps]
      refine wpIn_region_lit ?_
      refine wpListIn_run rfl (fun _ => trivial) (fun _ h => by cases h) (x_al63 rfl) ?_
      refine wpListIn_st (w' := (X.alloc (.cells zc63.toArray 63)).setRow X.heap.size (ccell s.id s.ch s.gone).toArray) rfl rfl (fun _ => trivial) (fun _ h => by cases h) (x_st63 (x := .tmp 7) (y := .tmp 10) (g := X.heap.size) (s := s) (cs := zc63) hok (ccell_len zId_ok 0 false) (by kernel_rfl) (by kernel_rfl) (by kernel_rfl) (RowIs.new X 63 zc63)) ?_
      refine wpListIn_nil ?_
      obtain ⟨Wa, hWa⟩ : ∃ Wa, (X.alloc (.cells zc63.toArray 63)).setRow X.heap.size (ccell s.id s.ch s.gone).toArray = Wa := ⟨_, rfl⟩
      rw [hWa] at HWA ⊢
      clear hWa
      have hlX := (Array.getElem?_eq_some_iff.1 hl).1
      have hlW : Wa.heap[D2 + 1]? = some (.loop r) := (HWA.out.2.block _ hlX).trans hl
      refine ⟨hlW, ?_⟩
      rw [hrb]
      obtain ⟨X2, hX2⟩ : ∃ X2, Wa.putObj (D2 + 1) (.loop (bz r)) = X2 := ⟨_, rfl⟩
      have K2 : KeptF (fun b => b = D2 + 1) X X2 := by rw [← hX2]; exact (KeptF.of_after (F := fun b => b = D2 + 1) HWA.out.2).trans (putObj_kept (F := fun b => b = D2 + 1) Wa (D2 + 1) _ rfl) (fun _ _ h => h)
      have hb2 : X2.heap[D2 + 1]? = some (.loop (bz r)) := by rw [← hX2]; exact World.putObj_heap_same (Array.getElem?_eq_some_iff.1 hlW).1
      have hd2 : X2.heap[D2]? = some (.deferred (some [])) := (K2.block D2 (Array.getElem?_eq_some_iff.1 hd).1 (by omega)).trans hd
      have q1 := K2.row r1 (by omega)
      have q2 := K2.row r2 (by omega)
      have q3 := K2.row r3 (by omega)
      have q4 := K2.row r4 (by omega)
      have hc2 : RowIs X2 X.heap.size 63 (ccell s.id s.ch s.gone) := by rw [← hX2]; unfold RowIs; rw [World.putObj_heap_other (by omega)]; exact HWA.out.1
      have hcid : X2.rangeAt X.heap.size 0 (idc s.id) := fun j u hu => hc2.range0 j u (by unfold ccell; rw [List.getElem?_append_left (List.getElem?_eq_some_iff.1 hu).1]; exact hu)
      rw [hX2]
      refine wpIn_block ?_
      refine wpIn_seq ?_
      refine wpIn_seq ?_
      refine wpIn_region_lit ?_
      refine wpListIn_run rfl (fun _ => trivial) (fun _ h => by cases h) (x_loadT (x := .tmp 6) (t := 3) (g := w.heap.size + 1 + 1 + 1) (j := 0) Try.underlying3 rfl (by kernel_rfl) (by kernel_rfl) (q4.cell (j := 0) rfl)) ?_
      refine wpListIn_run rfl (fun _ => trivial) (fun _ h => by cases h) (x_loadT (x := .tmp 3) (t := 3) (g := w.heap.size) (j := 0) Try.underlying3 rfl (by kernel_rfl) (by kernel_rfl) (q1.cell (j := 0) rfl)) ?_
      refine wpListIn_run rfl (fun _ => trivial) (fun _ h => by cases h) (x_eq3 (x := .tmp 11) (y := .tmp 12) (p := (V.length : Int)) (q := n) (by kernel_rfl) (by kernel_rfl) (by kernel_rfl)) ?_
      refine wpListIn_nil ?_
      show Code.wpIn _ _ _ _ _ _ _
      by_cases hE : (V.length : Int) = n
      · refine wpIn_cond (t := true) (by rw [show decide ((V.length : Int) = n) = true from decide_eq_true hE]; kernel_rfl) ?_
        show Code.wpIn _ _ _ _ _ _ _
        refine wpIn_seq ?_
        refine wpIn_region_lit ?_
        refine wpListIn_run (v := .pointer (some ⟨X.heap.size, 0, none⟩)) (w' := X2) rfl (fun _ => trivial) (fun _ h => by cases h) (by kernel_rfl) ?_
        refine wpListIn_run rfl (fun _ => trivial) (fun _ h => by cases h) (x_ld37m (x := .tmp 14) (g := X.heap.size) (p := 0) (y := s.id) hok (by kernel_rfl) (by kernel_rfl) hcid) ?_
        refine wpListIn_st (w' := X2.setRow (w.heap.size + 1) (idc s.id).toArray) rfl rfl (fun _ => trivial) (fun _ h => by cases h) (x_st37 (x := .tmp 4) (y := .tmp 15) (g := w.heap.size + 1) (z := s.id) (z0 := zId) hok zId_ok (by kernel_rfl) (by kernel_rfl) (by kernel_rfl) q2) ?_
        have p2 : RowIs (X2.setRow (w.heap.size + 1) (idc s.id).toArray) (w.heap.size + 1) 37 (idc s.id) := q2.setRow _
        have p3 : RowIs (X2.setRow (w.heap.size + 1) (idc s.id).toArray) (w.heap.size + 1 + 1) 4 [.bool false] := q3.setRow_other _ (by omega)
        refine wpListIn_st rfl rfl (fun _ => trivial) (fun _ h => by cases h) (x_st4 (x := .tmp 5) (g := w.heap.size + 1 + 1) (p := 0) (b := true) (by kernel_rfl) (by kernel_rfl) (p3.cell (j := 0) rfl) (p3.frozen 0)) ?_
        refine wpListIn_nil ?_
        show Code.wpIn _ _ _ _ _ _ _
        refine wpIn_ret ?_
        show _ ∧ _
        have hl5 : (X2.setRow (w.heap.size + 1) (idc s.id).toArray).heap[D2 + 1]? = some (.loop (bz r)) := (Go.setRow_other X2 (w.heap.size + 1) (D2 + 1) _ (by omega)).trans hb2
        have hd5 : (X2.setRow (w.heap.size + 1) (idc s.id).toArray).heap[D2]? = some (.deferred (some [])) := (Go.setRow_other X2 (w.heap.size + 1) D2 _ (by omega)).trans hd2
        have K5 : KeptF F X2 (X2.setRow (w.heap.size + 1) (idc s.id).toArray) := KeptF.setRow _ _ _ ((hf _).2 (.inl rfl))
        obtain ⟨X5, hX5⟩ : ∃ X5, X2.setRow (w.heap.size + 1) (idc s.id).toArray = X5 := ⟨_, rfl⟩
        rw [hX5] at p2 p3 hl5 hd5 K5 ⊢
        have hl6 : (X5.setCell ⟨w.heap.size + 1 + 1, 0, none⟩ (.bool true)).heap[D2 + 1]? = some (.loop (bz r)) := (Below.heap_setCell X5 ⟨w.heap.size + 1 + 1, 0, none⟩ _ (D2 + 1) (by show D2 + 1 ≠ w.heap.size + 1 + 1; omega)).trans hl5
        have hlt6 := (Array.getElem?_eq_some_iff.1 hl6).1
        have hzz : ((X5.setCell ⟨w.heap.size + 1 + 1, 0, none⟩ (.bool true)).putObj (D2 + 1) (.loop (dn r))).heap.size = X5.heap.size := by
          have h2 : (X5.setCell ⟨w.heap.size + 1 + 1, 0, none⟩ (.bool true)).heap.size = X5.heap.size := by show (X5.heap.modify _ _).size = _; rw [Array.size_modify]
          rw [← h2]; simp [World.putObj]
        have hs5 := K5.size
        have hs2 := K2.size
        refine ⟨hl6, .inr ⟨rfl, F, ⟨⟨t, s, U, T, hUT, hs, hgn, by rw [← hVU]; exact hE, ?_, ?_⟩, hf, World.putObj_heap_same hlt6, ?_, by omega, by have := r4.lt; omega⟩, ?_, fun b hb => .inl hb⟩⟩
        · unfold RowIs; rw [World.putObj_heap_other (by omega)]; exact p2.other _ _ (by show ¬ w.heap.size + 1 = w.heap.size + 1 + 1; omega)
        · unfold RowIs; rw [World.putObj_heap_other (by omega)]; exact p3.set 0 _
        · exact (World.putObj_heap_other (by omega)).trans ((Below.heap_setCell X5 ⟨w.heap.size + 1 + 1, 0, none⟩ _ D2 (by show D2 ≠ w.heap.size + 1 + 1; omega)).trans hd5)
        · exact (((K2.mono (fun x _ hx => (hf x).2 (.inr (.inr (.inr hx))))).trans K5 (fun _ _ h => h)).trans (KeptF.set (F := F) X5 ⟨w.heap.size + 1 + 1, 0, none⟩ _ ((hf _).2 (.inr (.inl rfl)))) (fun _ _ h => h)).trans (putObj_kept (F := F) _ (D2 + 1) _ ((hf _).2 (.inr (.inr (.inr rfl))))) (fun _ _ h => h)
      · refine wpIn_cond (t := false) (by rw [show decide ((V.length : Int) = n) = false from decide_eq_false hE]; kernel_rfl) ?_
        show Code.wpIn _ _ _ _ _ _ _
        refine wpIn_skip ?_
        show Code.wpIn _ _ _ _ _ _ _
        refine wpIn_region_lit ?_
        refine wpListIn_run rfl (fun _ => trivial) (fun _ h => by cases h) (x_loadT (x := .tmp 6) (t := 3) (g := w.heap.size + 1 + 1 + 1) (j := 0) Try.underlying3 rfl (by kernel_rfl) (by kernel_rfl) (q4.cell (j := 0) rfl)) ?_
        refine wpListIn_run rfl (fun _ => trivial) (fun _ h => by cases h) (x_add1 (x := .tmp 16) (k := V.length) (by have := HRN.out.2.2.1; omega) (by kernel_rfl) (by kernel_rfl)) ?_
        refine wpListIn_st rfl rfl (fun _ => trivial) (fun _ h => by cases h) (x_st3 (x := .tmp 6) (y := .tmp 17) (g := w.heap.size + 1 + 1 + 1) (p := 0) (z := ((V.length + 1 : Nat) : Int)) (by kernel_rfl) (by kernel_rfl) (by kernel_rfl) (q4.cell (j := 0) rfl) (q4.frozen 0)) ?_
        refine wpListIn_nil ?_
        show _ ∧ _
        rw [hreq]
        have hl6 : (X2.setCell ⟨w.heap.size + 1 + 1 + 1, 0, none⟩ (.int .i64 ((V.length + 1 : Nat) : Int))).heap[D2 + 1]? = some (.loop (bz r)) := (Below.heap_setCell X2 ⟨w.heap.size + 1 + 1 + 1, 0, none⟩ _ (D2 + 1) (by show D2 + 1 ≠ w.heap.size + 1 + 1 + 1; omega)).trans hb2
        have hlt6 := (Array.getElem?_eq_some_iff.1 hl6).1
        refine ⟨hl6, .inl ⟨rfl, F, ⟨⟨?_, ?_, ?_, ?_⟩, ?_, hf, World.putObj_heap_same hlt6, ?_, ?_⟩, ?_, fun b hb => .inl hb⟩⟩
        · unfold RowIs; rw [World.putObj_heap_other (by omega)]; exact q1.other _ _ (by show ¬ w.heap.size = w.heap.size + 1 + 1 + 1; omega)
        · unfold RowIs; rw [World.putObj_heap_other (by omega)]; exact q2.other _ _ (by show ¬ w.heap.size + 1 = w.heap.size + 1 + 1 + 1; omega)
        · unfold RowIs; rw [World.putObj_heap_other (by omega)]; exact q3.other _ _ (by show ¬ w.heap.size + 1 + 1 = w.heap.size + 1 + 1 + 1; omega)
        · unfold RowIs; rw [World.putObj_heap_other (by omega), List.length_append]; exact q4.set 0 _
        · intro k hk
          rw [List.length_append, List.length_singleton] at hk
          by_cases e : k = V.length
          · rw [e]; exact hE
          · exact hm k (by omega)
        · exact (World.putObj_heap_other (by omega)).trans ((Below.heap_setCell X2 ⟨w.heap.size + 1 + 1 + 1, 0, none⟩ _ D2 (by show D2 ≠ w.heap.size + 1 + 1 + 1; omega)).trans hd2)
        · have h2 : (X2.setCell ⟨w.heap.size + 1 + 1 + 1, 0, none⟩ (.int .i64 ((V.length + 1 : Nat) : Int))).heap.size = X2.heap.size := by show (X2.heap.modify _ _).size = _; rw [Array.size_modify]
          have h3 : ((X2.setCell ⟨w.heap.size + 1 + 1 + 1, 0, none⟩ (.int .i64 ((V.length + 1 : Nat) : Int))).putObj (D2 + 1) (.loop r)).heap.size = (X2.setCell ⟨w.heap.size + 1 + 1 + 1, 0, none⟩ (.int .i64 ((V.length + 1 : Nat) : Int))).heap.size := by simp [World.putObj]
          have := K2.size
          omega
        · exact ((K2.mono (fun x _ hx => (hf x).2 (.inr (.inr (.inr hx))))).trans (KeptF.set (F := F) X2 ⟨w.heap.size + 1 + 1 + 1, 0, none⟩ _ ((hf _).2 (.inr (.inr (.inl rfl))))) (fun _ _ h => h)).trans (putObj_kept (F := F) _ (D2 + 1) _ ((hf _).2 (.inr (.inr (.inr rfl))))) (fun _ _ h => h))
    HRN.out.1 HRN.out.2.1 (by have := HRN.out.2.2.1; omega) (HR.out.after hA3) hg3 (fun b hb h => by
      have := (HR.out.foot hb).2
      rcases h with e | e | e | e <;> omega)
      ⟨⟨HB.out.1.1.below hA03 HB.out.1.1.lt, HB.out.1.2.1.below hA03 HB.out.1.2.1.lt, HB.out.1.2.2.1.below hA03 HB.out.1.2.2.1.lt, HB.out.1.2.2.2.below hA03 HB.out.1.2.2.2.lt⟩, fun k hk => absurd hk (Nat.not_lt_zero k), fun b => Iff.rfl, hl3, hd3, by omega⟩
  refine hmain.mono ?_
  rintro e W4 ⟨hv, V, F, hor, hk4, hn4⟩
  refine ⟨hv, ?_⟩
  have HK4 : Hid (∀ (o1 : Obj), KeptF (fun b => w.heap.size ≤ b) w (W4.putObj (D2 + 1) o1)) := fun o1 => by
    have k1 : KeptF (fun b => w.heap.size ≤ b) w W4 := (KeptF.of_after hA3).trans (hk4.mono (G := fun b => w.heap.size ≤ b) (fun x _ h => by rcases h with e | e | e | e <;> (show w.heap.size ≤ x; omega))) (fun _ _ h => h)
    exact k1.trans (putObj_kept (F := fun b => w.heap.size ≤ b) W4 (D2 + 1) o1 (by show w.heap.size ≤ D2 + 1; omega)) (fun _ _ h => h)
  rcases hor with ⟨⟨U, hre, hVU⟩, ⟨r1, r2, r3, r4⟩, hm, hf, hl, hd, hsz⟩ | ⟨⟨t, s, U, T, x1, x2, x3, x4, r2, r3⟩, hf, hl, hd, hsz, hzz⟩
  · refine ⟨r, hl, by rw [hrst]; simp, ?_⟩
    have hat : atL (U.filter (live st)) n = none := by rw [← hVU]; exact atL_none hm
    have HX := show Hid (Reach st U [] ∧ atL (U.filter (live st)) n = none) from ⟨hre, hat⟩
    rw [hrp]
    generalize hob : Obj.loop _ = ob
    have hK1 : (W4.putObj (D2 + 1) ob).heap[D2]? = some (.deferred (some [])) := (World.putObj_heap_other (by omega)).trans hd
    have B37 : RowIs (W4.putObj (D2 + 1) ob) (w.heap.size + 1) 37 (idc zId) := by unfold RowIs; rw [World.putObj_heap_other (by omega)]; exact r2
    have B4 : RowIs (W4.putObj (D2 + 1) ob) (w.heap.size + 1 + 1) 4 [.bool false] := by unfold RowIs; rw [World.putObj_heap_other (by omega)]; exact r3
    have HA5 : Hid (KeptF (fun b => w.heap.size ≤ b) w (W4.putObj (D2 + 1) ob)) := HK4.out ob
    clear hmain hl hd hk4 hn4 hre hVU r1 r2 r3 r4 hf hsz hob hm HK4 hat
    obtain ⟨W5, hW5⟩ : ∃ W5, W4.putObj (D2 + 1) ob = W5 := ⟨_, rfl⟩
    rw [hW5] at hK1 B37 B4 HA5 ⊢
    clear hW5
    obtain ⟨W6, hW6⟩ : ∃ W6, W5.setRow (w.heap.size + 1) (idc zId).toArray = W6 := ⟨_, rfl⟩
    have HST : Hid (∀ (oi : Oper) (a : Act), oi.op = .store 37 (.tmp 4) (.tmp 18) → a.eval (.tmp 4) = .pointer (some ⟨w.heap.size + 1, 0, none⟩) → a.eval (.tmp 18) = idv zId → (execOp a.eval oi).run Try.prog W5 = .ok .skip W6) := fun oi a h1 h2 h3 => by rw [← hW6]; exact x_st37 zId_ok zId_ok h1 h2 h3 B37
    have C37 : RowIs W6 (w.heap.size + 1) 37 (idc zId) := by rw [← hW6]; exact B37.setRow _
    have C4 : RowIs W6 (w.heap.size + 1 + 1) 4 [.bool false] := by rw [← hW6]; exact B4.setRow_other _ (by omega)
    have hA6 : KeptF (fun b => w.heap.size ≤ b) w W6 := by rw [← hW6]; exact HA5.out.trans (KeptF.setRow (F := fun b => w.heap.size ≤ b) _ _ _ (by show w.heap.size ≤ w.heap.size + 1; omega)) (fun _ _ h => h)
    have hK6 : W6.heap[D2]? = some (.deferred (some [])) := by
      rw [← hW6]
      exact (Go.setRow_other W5 (w.heap.size + 1) D2 _ (by omega)).trans hK1
    have c4 : W6.cell? ⟨w.heap.size + 1 + 1, 0, none⟩ = some (.bool false) := C4.cell rfl
    have f4 : W6.frozen? ⟨w.heap.size + 1 + 1, 0, none⟩ = false := C4.frozen 0
    have HC : Hid (RowIs W6 (w.heap.size + 1) 37 (idc zId) ∧ RowIs W6 (w.heap.size + 1 + 1) 4 [.bool false] ∧ KeptF (fun b => w.heap.size ≤ b) w W6 ∧ W6.heap[D2]? = some (.deferred (some []))) := ⟨C37, C4, hA6, hK6⟩
    clear hW6 C37 C4 hA6 hK6 B37 B4
    gi_wp2_with (first
      | (refine wpListIn_run rfl (fun _ => trivial) (fun _ h => by cases h) (x_zb37 rfl) ?_)
      | (refine wpListIn_st rfl rfl (fun _ => trivial) (fun _ h => by cases h) (HST.out _ _ rfl rfl rfl) ?_))
    have hK7 : (W6.setCell ⟨w.heap.size + 1 + 1, 0, none⟩ (.bool false)).heap[D2]? = some (.deferred (some [])) := (Below.heap_setCell W6 ⟨w.heap.size + 1 + 1, 0, none⟩ _ D2 (by show D2 ≠ w.heap.size + 1 + 1; omega)).trans HC.out.2.2.2
    refine ⟨by simp, .inl ⟨_, _, rfl, run_takeDeferred hK7, ?_⟩⟩
    have r37 : RowIs ((W6.setCell ⟨w.heap.size + 1 + 1, 0, none⟩ (.bool false)).putObj D2 (.deferred none)) (w.heap.size + 1) 37 (idc zId) := (World.putObj_heap_other (by omega)).trans (HC.out.1.other _ _ (by show ¬ w.heap.size + 1 = w.heap.size + 1 + 1; omega))
    have r4 : RowIs ((W6.setCell ⟨w.heap.size + 1 + 1, 0, none⟩ (.bool false)).putObj D2 (.deferred none)) (w.heap.size + 1 + 1) 4 [.bool false] := (World.putObj_heap_other (by omega)).trans (HC.out.2.1.set 0 _)
    refine ⟨_, ret374 Try.results15 _ _ (w.heap.size + 1) (w.heap.size + 1 + 1) zId zId_ok false rfl r37 rfl r4, U, HX.out.1, by unfold atId; rw [HX.out.2]; rfl, ?_⟩
    exact ((HC.out.2.2.1.trans (KeptF.set (F := fun b => w.heap.size ≤ b) W6 ⟨w.heap.size + 1 + 1, 0, none⟩ _ (by show w.heap.size ≤ w.heap.size + 1 + 1; omega)) (fun _ _ h => h)).trans (putObj_kept (F := fun b => w.heap.size ≤ b) _ D2 (.deferred none) (by show w.heap.size ≤ D2; omega)) (fun _ _ h => h)).below (Nat.le_refl _) (fun _ h => h)
  · refine ⟨dn r, hl, by unfold dn; simp, ?_⟩
    obtain ⟨U', hU'⟩ := HRN.out.2.2.2.order
    have hat : atL (U'.filter (live st)) n = some t := atL_some hU' x1 x2 x3 x4
    have HX := show Hid (Reach st U' [] ∧ atL (U'.filter (live st)) n = some t ∧ st[t]? = some s ∧ s.id.Ok) from ⟨hU', hat, x2, HR.out.ok s (List.mem_of_getElem? x2)⟩
    rw [show (dn r).pending = some .ret from rfl]
    generalize hob : Obj.loop _ = ob
    have hK1 : (W4.putObj (D2 + 1) ob).heap[D2]? = some (.deferred (some [])) := (World.putObj_heap_other (by omega)).trans hd
    have HC := show Hid (RowIs (W4.putObj (D2 + 1) ob) (w.heap.size + 1) 37 (idc s.id) ∧ RowIs (W4.putObj (D2 + 1) ob) (w.heap.size + 1 + 1) 4 [.bool true] ∧ KeptF (fun b => w.heap.size ≤ b) w (W4.putObj (D2 + 1) ob)) from ⟨by unfold RowIs; rw [World.putObj_heap_other (by omega)]; exact r2, by unfold RowIs; rw [World.putObj_heap_other (by omega)]; exact r3, HK4.out ob⟩
    clear hmain hl hd hk4 hn4 r2 r3 hf hsz hob HK4 hat x1 x2 x3 x4 hU'
    obtain ⟨W5, hW5⟩ : ∃ W5, W4.putObj (D2 + 1) ob = W5 := ⟨_, rfl⟩
    rw [hW5] at hK1 HC ⊢
    clear hW5
    gi_wp2
    refine ⟨by simp, .inl ⟨_, _, rfl, run_takeDeferred hK1, ?_⟩⟩
    have r37 : RowIs (W5.putObj D2 (.deferred none)) (w.heap.size + 1) 37 (idc s.id) := (World.putObj_heap_other (by omega)).trans HC.out.1
    have r4 : RowIs (W5.putObj D2 (.deferred none)) (w.heap.size + 1 + 1) 4 [.bool true] := (World.putObj_heap_other (by omega)).trans HC.out.2.1
    refine ⟨_, ret374 Try.results15 _ _ (w.heap.size + 1) (w.heap.size + 1 + 1) s.id HX.out.2.2.2 true rfl r37 rfl r4, U', HX.out.1, by unfold atId; rw [HX.out.2.1]; show _ = Ending.returned (.tuple #[idv (idAt st t), .bool true]); rw [idAt_of HX.out.2.2.1], ?_⟩
    exact (HC.out.2.2.trans (putObj_kept (F := fun b => w.heap.size ≤ b) _ D2 (.deferred none) (by show w.heap.size ≤ D2; omega)) (fun _ _ h => h)).below (Nat.le_refl _) (fun _ h => h)
end Go.Proofs.Ytiglenomigipmaa
