/-
  hang (42): a cell's place is laid among those below another one.
-/
import Derived.Test.YtiglenomigipmaaRG
import Derived.Great.BuildSlice
namespace Go.Proofs.Ytiglenomigipmaa
open Go.RowKit Go.Maps Go.WideMaps Go.WideAt Mp
theorem ltB_trans : ∀ {a b c : H}, ltB a b = true → ltB b c = true → ltB a c = true
  | [], _, _, h, _ => by simp [ltB] at h
  | _ :: _, [], _, h, _ => by simp [ltB] at h
  | _ :: _, _ :: _, [], _, h => by simp [ltB] at h
  | x :: a, y :: b, z :: c, h1, h2 => by
    simp only [ltB] at h1 h2 ⊢
    by_cases e1 : x = y
    · subst e1
      by_cases e2 : x = z
      · subst e2
        simp only [if_true] at h1 h2 ⊢
        exact ltB_trans h1 h2
      · rw [if_neg e2] at h2 ⊢; exact h2
    · rw [if_neg e1] at h1
      have h3 : x < y := by simpa using h1
      by_cases e2 : y = z
      · subst e2
        rw [if_neg e1]; exact h1
      · rw [if_neg e2] at h2
        have h4 : y < z := by simpa using h2
        have h5 : x < z := UInt8.lt_trans h3 h4
        rw [if_neg (fun e => by subst e; exact absurd h5 (UInt8.lt_irrefl _))]
        simpa using h5
theorem ltI_trans {a b c : Idn} (h1 : ltI a b = true) (h2 : ltI b c = true) : ltI a c = true := by
  unfold ltI at h1 h2 ⊢
  by_cases e1 : a.c = b.c
  · by_cases e2 : b.c = c.c
    · rw [if_neg (by simp [e1])] at h1; rw [if_neg (by simp [e2])] at h2; rw [if_neg (by simp [e1, e2])]; exact ltB_trans h1 h2
    · rw [if_pos e2] at h2; rw [if_pos (by omega)]; simp at h2 ⊢; omega
  · rw [if_pos e1] at h1
    by_cases e2 : b.c = c.c
    · rw [if_pos (by omega)]; simp at h1 ⊢; omega
    · rw [if_pos e2] at h2; simp at h1 h2; rw [if_pos (by omega)]; simp; omega
def idAt (st : List Stm) (b : Nat) : Idn := match st[b]? with | some s => s.id | none => zId
theorem idAt_of {st : List Stm} {b : Nat} {s : Stm} (h : st[b]? = some s) : idAt st b = s.id := by unfold idAt; rw [h]
/-- A place is put in ahead of the first one that is greater. -/
def sIns (f : Nat → Bool) (p : Nat) : List Nat → List Nat
  | [] => [p]
  | b :: l => if f b then p :: b :: l else b :: sIns f p l
theorem sIns_eq {f : Nat → Bool} {p : Nat} : ∀ {l : List Nat} {k : Nat}, k ≤ l.length → (∀ j, j < k → f (l.getD j 0) = false) → (k < l.length → f (l.getD k 0) = true) → l.take k ++ p :: l.drop k = sIns f p l
  | [], k, hk, _, _ => by
    obtain rfl : k = 0 := by simpa using hk
    rfl
  | b :: l, 0, _, _, h2 => by
    have : f b = true := by simpa using h2 (by simp)
    simp [sIns, this]
  | b :: l, k + 1, hk, h1, h2 => by
    have h0 : f b = false := by simpa using h1 0 (by omega)
    have ih := sIns_eq (f := f) (p := p) (l := l) (k := k) (by simpa using hk) (fun j hj => by simpa using h1 (j + 1) (by omega)) (fun hlt => by simpa using h2 (by simpa using hlt))
    simp [sIns, h0, ih]
theorem sl_form {w : World} {base : Nat} {v : Value} {l : List Nat} (h : OwnI w base v l) : ∃ va vc, v = .slice va l.length vc := by
  rcases own_row h with ⟨hv, h0, _⟩ | ⟨g, cap, cs, hv, _⟩
  · exact ⟨none, 0, by rw [hv, h0]⟩
  · exact ⟨_, cap, hv⟩
section
variable {oi : Oper} {a : Act} {w : World}
theorem x_idx72z {x y : Operand} {b n c k : Nat} (hop : oi.op = .indexAddr 72 x y) (hx : a.eval x = .slice (some ⟨b, 0, none⟩) n c) (hy : a.eval y = .int .i64 (k : Int)) (hk : k < n) : (execOp a.eval oi).run Try.prog w = .ok (.value (.pointer (some ⟨b, k * 36, none⟩))) w := by
  have := x_idx72 (w := w) hop hx hy hk
  rwa [Nat.zero_add] at this
theorem x_al37 (hop : oi.op = .alloc 37) : (execOp a.eval oi).run Try.prog w = .ok (.value (.pointer (some ⟨w.heap.size, 0, none⟩))) (w.alloc (.cells (idc zId).toArray 37)) := by
  have hz : (zeroValue 37).run Try.prog w = .ok (.agg (idc zId).toArray) w := by kernel_rfl
  unfold execOp
  simp only [hop]
  simp [go_sem, hz, Value.cells]
theorem x_al86 (hop : oi.op = .alloc 86) : (execOp a.eval oi).run Try.prog w = .ok (.value (.pointer (some ⟨w.heap.size, 0, none⟩))) (w.alloc (.cells #[.slice none 0 0] 86)) := by
  have hz : (zeroValue 86).run Try.prog w = .ok (.slice none 0 0) w := by kernel_rfl
  unfold execOp
  simp only [hop]
  simp [go_sem, hz, Value.cells]
theorem x_st37 {x y : Operand} {g : Nat} {z z0 : Idn} (hz : z.Ok) (h0 : z0.Ok) (hop : oi.op = .store 37 x y) (hx : a.eval x = .pointer (some ⟨g, 0, none⟩)) (hy : a.eval y = idv z) (hr : RowIs w g 37 (idc z0)) : (execOp a.eval oi).run Try.prog w = .ok .skip (w.setRow g (idc z).toArray) := by
  unfold execOp
  have := run_storeVar_row (P := Try.prog) w g 37 37 (idc z0).toArray (idc z).toArray hr (size37 hz) (by simp [idc_len hz, idc_len h0]) (by simpa using idc_one z)
  simp only [hop, hx, hy, idv, Instr.storeAt, Instr.sureAddr, Sem.run_bind, Sem.run_pure, Result.andThen_ok, this]
theorem x_st86 {x y : Operand} {g p : Nat} {va : Option Addr} {m c : Nat} {u : Value} (hop : oi.op = .store 86 x y) (hx : a.eval x = .pointer (some ⟨g, p, none⟩)) (hy : a.eval y = .slice va m c) (hc : w.cell? ⟨g, p, none⟩ = some u) (hf : w.frozen? ⟨g, p, none⟩ = false) : (execOp a.eval oi).run Try.prog w = .ok .skip (w.setCell ⟨g, p, none⟩ (.slice va m c)) := by
  unfold execOp
  simp only [hop, hx, hy]
  simp [go_sem, hc, hf, Instr.storeAt, Instr.sureAddr]
theorem x_bs86 {x : Operand} {p : Nat} (hop : oi.op = .buildSlice 86 1 #[(0, x)]) (hx : a.eval x = pv p) : (execOp a.eval oi).run Try.prog w = .ok (.value (.slice (some ⟨w.heap.size, 0, none⟩) 1 1)) (w.alloc (.cells #[pv p] 3)) := by
  have hz0 : (Try.prog.info? 3).map (fun i => (i.zero, i.size)) = some (some (.int .i64 0), 1) := by kernel_rfl
  obtain ⟨i, hi, hz⟩ := Option.map_eq_some_iff.1 hz0
  simp only [Prod.mk.injEq] at hz
  have := run_buildSlice (P := Try.prog) w 86 3 1 #[(0, pv p)] #[pv p] i (.int .i64 0) Try.underlying86 hi hz.1 (by rw [hz.2]; omega) (by rw [hz.2]; omega) (by rw [hz.2]; kernel_rfl)
  unfold execOp
  simp [hop, hx, this]
end
set_option maxRecDepth 100000 in
set_option maxHeartbeats 3200000 in
theorem hang_any {w : World} {base g : Nat} {st : List Stm} {D : RwD} (h : RowAt w base g st D) {p q : Nat} {s t : Stm} (hp : st[p]? = some t) (hq : st[q]? = some s) (hbl : ∀ b ∈ s.below, b < st.length)
    (hup : ∀ i j, i ≤ j → j < s.below.length → ltI t.id (idAt st (s.below.getD i 0)) = true → ltI t.id (idAt st (s.below.getD j 0)) = true) (hsm : s.below.length ≤ 1000000) :
    Calls Try.prog 42 #[.pointer (some ⟨g, 0, none⟩), pv p, pv q] w fun e w' => (∃ v, e = .returned v) ∧ ∃ D', RowAt w' base g (st.set q { s with below := sIns (fun b => ltI t.id (idAt st b)) p s.below }) D' ∧ (∀ k, Foot g D' k → Foot g D k ∨ w.heap.size ≤ k) ∧ KeptF (FootS D) w w' := by
  obtain ⟨W0, hW0⟩ : ∃ W0, w.alloc (.cells #[.pointer (some ⟨g, 0, none⟩)] 25) = W0 := ⟨_, rfl⟩
  have HA : Hid (After w W0) := by rw [← hW0]; exact after_alloc (After.refl w) _
  have HG : Hid (RowIs W0 w.heap.size 25 [.pointer (some ⟨g, 0, none⟩)]) := by rw [← hW0]; exact RowIs.new w 25 _
  have HR : Hid (RowAt W0 base g st D) := h.after HA.out
  obtain ⟨gs, cap, hsv, hcap, hst⟩ := HR.out.sv
  obtain ⟨v, hv, hvo⟩ := HR.out.v hq
  obtain ⟨va, vc, hvf⟩ := sl_form hvo
  obtain ⟨tv, htv, _⟩ := HR.out.v hp
  have hR := hst p t tv hp htv
  have hV := hst q s v hq hv
  have hB := HR.out.box
  rw [hsv] at hB
  obtain ⟨n, hn⟩ : ∃ n, st.length = n := ⟨_, rfl⟩
  obtain ⟨m, hm⟩ : ∃ n, s.below.length = n := ⟨_, rfl⟩
  rw [hn] at hB hsv
  rw [hm] at hvf
  subst hvf
  have HSV : Hid (D.sv = .slice (some ⟨gs, 0, none⟩) n cap) := hsv
  have HO : Hid t.id.Ok := h.ok t (List.mem_of_getElem? hp)
  have HOQ : Hid s.id.Ok := h.ok s (List.mem_of_getElem? hq)
  have HB : Hid (RowIs W0 g 75 [.slice (some ⟨gs, 0, none⟩) n cap, .map (some D.gm)]) := hB
  have HN : Hid (p < n ∧ q < n) := ⟨by rw [← hn]; exact (List.getElem?_eq_some_iff.1 hp).1, by rw [← hn]; exact (List.getElem?_eq_some_iff.1 hq).1⟩
  have HM : Hid (s.below.length = m ∧ m ≤ 1000000) := ⟨hm, by rw [← hm]; exact hsm⟩
  have HMN : Hid (∀ i j, i ≤ j → j < m → ltI t.id (idAt st (s.below.getD i 0)) = true → ltI t.id (idAt st (s.below.getD j 0)) = true) := by rw [← hm]; exact hup
  have HBL : Hid (∀ b ∈ s.below, b < st.length) := hbl
  have HQ : Hid (st[q]? = some s ∧ D.vs[q]? = some (.slice va m vc)) := ⟨hq, hv⟩
  have HS : Hid (∀ W, After W0 W → W.rangeAt gs (p * 36) (idc t.id)) := fun W hW => range_after (range_id hR) hW
  have HV : Hid (∀ W, After W0 W → W.cell? ⟨gs, q * 36 + 35, none⟩ = some (.slice va m vc)) := fun W hW => range_after hV hW 35 _ (by unfold scell; rw [List.getElem?_append_right (by rw [idc_len HOQ.out]; omega), idc_len HOQ.out]; rfl)
  clear h hp hq hbl hup hsm hsv hcap hst hv hvo htv hR hV hB hn hm
  go_enter Try.func42, Try.ntmps42
  go_wp2_with (rw [hW0])
  refine wp_region_noPanic ?_
  refine wp_region_held_drew (S := After W0) (by kernel_rfl) (After.drew (After.refl _)) ?_
  intro hS0
  refine tk 0 9 (.pointer (some ⟨g, 0, none⟩)) (fuel := 20) rfl (by kernel_rfl) (by kernel_rfl) (by kernel_rfl) (by kernel_rfl) noPanic_false (by kernel_rfl) (fun W hW => x_loadT (x := .tmp 3) (t := 25) (g := w.heap.size) (j := 0) Try.underlying25 rfl (by kernel_rfl) (by kernel_rfl) ((HG.out.below hW HG.out.lt).cell (j := 0) rfl)) hS0 ?_
  refine tk 1 10 (.pointer (some ⟨g, 0, none⟩)) (fuel := 19) rfl (by kernel_rfl) (by kernel_rfl) (by kernel_rfl) (by kernel_rfl) noPanic_false (by kernel_rfl) (fun _ _ => by kernel_rfl) hS0 ?_
  refine tk 2 11 (.pointer (some ⟨g, 0, none⟩)) (fuel := 18) rfl (by kernel_rfl) (by kernel_rfl) (by kernel_rfl) (by kernel_rfl) noPanic_false (by kernel_rfl) (fun _ _ => by kernel_rfl) hS0 ?_
  refine tk 3 12 (.slice (some ⟨gs, 0, none⟩) n cap) (fuel := 17) rfl (by kernel_rfl) (by kernel_rfl) (by kernel_rfl) (by kernel_rfl) noPanic_false (by kernel_rfl) (fun W hW => x_loadT (x := .tmp 11) (t := 72) (g := g) (j := 0) Try.underlying72 rfl (by kernel_rfl) (by kernel_rfl) ((HB.out.below hW HB.out.lt).cell (j := 0) rfl)) hS0 ?_
  refine tk 4 13 (pv p) (fuel := 16) rfl (by kernel_rfl) (by kernel_rfl) (by kernel_rfl) (by kernel_rfl) noPanic_false (by kernel_rfl) (fun _ _ => by kernel_rfl) hS0 ?_
  refine tk 5 14 (.pointer (some ⟨gs, p * 36, none⟩)) (fuel := 15) rfl (by kernel_rfl) (by kernel_rfl) (by kernel_rfl) (by kernel_rfl) noPanic_false (by kernel_rfl) (fun W hW => x_idx72z (x := .tmp 12) (y := .tmp 13) (b := gs) (n := n) (c := cap) (k := p) (by kernel_rfl) (by kernel_rfl) (by kernel_rfl) HN.out.1) hS0 ?_
  refine tk 6 15 (.pointer (some ⟨gs, p * 36, none⟩)) (fuel := 14) rfl (by kernel_rfl) (by kernel_rfl) (by kernel_rfl) (by kernel_rfl) noPanic_false (by kernel_rfl) (fun _ _ => by kernel_rfl) hS0 ?_
  refine tk 7 16 (.pointer (some ⟨gs, p * 36, none⟩)) (fuel := 13) rfl (by kernel_rfl) (by kernel_rfl) (by kernel_rfl) (by kernel_rfl) noPanic_false (by kernel_rfl) (fun _ _ => by kernel_rfl) hS0 ?_
  refine tk 8 17 (idv t.id) (fuel := 12) rfl (by kernel_rfl) (by kernel_rfl) (by kernel_rfl) (by kernel_rfl) noPanic_false (by kernel_rfl) (fun W hW => x_ld37m (x := .tmp 16) (g := gs) (p := p * 36) HO.out (by kernel_rfl) (by kernel_rfl) (HS.out W hW)) hS0 ?_
  refine tk 9 18 (.pointer (some ⟨g, 0, none⟩)) (fuel := 11) rfl (by kernel_rfl) (by kernel_rfl) (by kernel_rfl) (by kernel_rfl) noPanic_false (by kernel_rfl) (fun W hW => x_loadT (x := .tmp 3) (t := 25) (g := w.heap.size) (j := 0) Try.underlying25 rfl (by kernel_rfl) (by kernel_rfl) ((HG.out.below hW HG.out.lt).cell (j := 0) rfl)) hS0 ?_
  refine tk 10 19 (.pointer (some ⟨g, 0, none⟩)) (fuel := 10) rfl (by kernel_rfl) (by kernel_rfl) (by kernel_rfl) (by kernel_rfl) noPanic_false (by kernel_rfl) (fun _ _ => by kernel_rfl) hS0 ?_
  refine tk 11 20 (.pointer (some ⟨g, 0, none⟩)) (fuel := 9) rfl (by kernel_rfl) (by kernel_rfl) (by kernel_rfl) (by kernel_rfl) noPanic_false (by kernel_rfl) (fun _ _ => by kernel_rfl) hS0 ?_
  refine tk 12 21 (.slice (some ⟨gs, 0, none⟩) n cap) (fuel := 8) rfl (by kernel_rfl) (by kernel_rfl) (by kernel_rfl) (by kernel_rfl) noPanic_false (by kernel_rfl) (fun W hW => x_loadT (x := .tmp 20) (t := 72) (g := g) (j := 0) Try.underlying72 rfl (by kernel_rfl) (by kernel_rfl) ((HB.out.below hW HB.out.lt).cell (j := 0) rfl)) hS0 ?_
  refine tk 13 22 (pv q) (fuel := 7) rfl (by kernel_rfl) (by kernel_rfl) (by kernel_rfl) (by kernel_rfl) noPanic_false (by kernel_rfl) (fun _ _ => by kernel_rfl) hS0 ?_
  refine tk 14 23 (.pointer (some ⟨gs, q * 36, none⟩)) (fuel := 6) rfl (by kernel_rfl) (by kernel_rfl) (by kernel_rfl) (by kernel_rfl) noPanic_false (by kernel_rfl) (fun W hW => x_idx72z (x := .tmp 21) (y := .tmp 22) (b := gs) (n := n) (c := cap) (k := q) (by kernel_rfl) (by kernel_rfl) (by kernel_rfl) HN.out.2) hS0 ?_
  refine tk 15 24 (.pointer (some ⟨gs, q * 36 + 35, none⟩)) (fuel := 5) rfl (by kernel_rfl) (by kernel_rfl) (by kernel_rfl) (by kernel_rfl) noPanic_false (by kernel_rfl) (fun _ _ => by kernel_rfl) hS0 ?_
  refine tk 16 25 (.slice va m vc) (fuel := 4) rfl (by kernel_rfl) (by kernel_rfl) (by kernel_rfl) (by kernel_rfl) noPanic_false (by kernel_rfl) (fun W hW => x_loadT (x := .tmp 24) (t := 86) (g := gs) (j := q * 36 + 35) Try.underlying86 rfl (by kernel_rfl) (by kernel_rfl) (HV.out W hW)) hS0 ?_
  refine wpAnyH_all (rs := [17, 18]) (by kernel_rfl) (by simp) (fun ii hi => ?_)
  have hi2 : ii = 17 ∨ ii = 18 := by simpa using hi
  clear hi
  rcases hi2 with rfl | rfl
  · refine opVal 17 6 (.pointer (some ⟨W0.drew.heap.size, 0, none⟩)) (W0.drew.alloc (.cells (idc zId).toArray 37)) rfl (by kernel_rfl) (by kernel_rfl) (x_al37 (by kernel_rfl)) ?_
    refine ⟨after_alloc hS0 _, ?_⟩
    refine tkRunS 18 7 (.pointer (some ⟨W0.drew.heap.size + 1, 0, none⟩)) ((W0.drew.alloc (.cells (idc zId).toArray 37)).alloc (.cells #[.slice none 0 0] 86)) (fuel := 2) rfl (by kernel_rfl) (by kernel_rfl) (by kernel_rfl) ((x_al86 (w := (W0.drew.alloc (.cells (idc zId).toArray 37))) (by kernel_rfl)).trans (by rw [World.size_alloc])) (after_alloc (after_alloc hS0 _) _) ?_
    have R37 : RowIs ((W0.drew.alloc (.cells (idc zId).toArray 37)).alloc (.cells #[.slice none 0 0] 86)) (W0.drew.heap.size) 37 (idc zId) := (RowIs.new W0.drew 37 (idc zId)).alloc _
    have R86 : RowIs ((W0.drew.alloc (.cells (idc zId).toArray 37)).alloc (.cells #[.slice none 0 0] 86)) (W0.drew.heap.size + 1) 86 [.slice none 0 0] := by have h := RowIs.new (W0.drew.alloc (.cells (idc zId).toArray 37)) 86 [.slice none 0 0]; rwa [World.size_alloc] at h
    have A2 : After W0 ((W0.drew.alloc (.cells (idc zId).toArray 37)).alloc (.cells #[.slice none 0 0] 86)) := after_alloc (after_alloc hS0 _) _
    generalize hW2 : ((W0.drew.alloc (.cells (idc zId).toArray 37)).alloc (.cells #[.slice none 0 0] 86)) = W2 at R37 R86 A2 ⊢
    clear hW2
    have A3 : After W0 (W2.setRow (W0.drew.heap.size) (idc t.id).toArray) := Below.row A2 (by show W0.heap.size ≤ W0.heap.size; omega) _
    refine tkStoreS 19 (W2.setRow (W0.drew.heap.size) (idc t.id).toArray) (fuel := 1) rfl (by kernel_rfl) (by kernel_rfl) (by kernel_rfl) (x_st37 (x := .tmp 6) (y := .tmp 17) HO.out zId_ok (by kernel_rfl) (by kernel_rfl) (by kernel_rfl) R37) A3 ?_
    have R37b : RowIs (W2.setRow (W0.drew.heap.size) (idc t.id).toArray) (W0.drew.heap.size) 37 (idc t.id) := R37.setRow _
    have R86b : RowIs (W2.setRow (W0.drew.heap.size) (idc t.id).toArray) (W0.drew.heap.size + 1) 86 [.slice none 0 0] := R86.setRow_other _ (by omega)
    generalize hW3 : W2.setRow (W0.drew.heap.size) (idc t.id).toArray = W3 at R37b R86b A3 ⊢
    clear hW3 R37 R86 A2
    have A4 : After W0 (W3.setCell ⟨W0.drew.heap.size + 1, 0, none⟩ (.slice va m vc)) := Below.setCell A3 (p := ⟨W0.drew.heap.size + 1, 0, none⟩) (by show W0.heap.size ≤ W0.heap.size + 1; omega) _
    refine tkStoreS 20 (W3.setCell ⟨W0.drew.heap.size + 1, 0, none⟩ (.slice va m vc)) (fuel := 0) rfl (by kernel_rfl) (by kernel_rfl) (by kernel_rfl) (x_st86 (x := .tmp 7) (y := .tmp 25) (by kernel_rfl) (by kernel_rfl) (by kernel_rfl) (R86b.cell (j := 0) rfl) (R86b.frozen 0)) A4 ?_
    refine wpAnyH_done (by kernel_rfl) (NoPanic.normal ?_) _
    have F37 : RowIs (W3.setCell ⟨W0.drew.heap.size + 1, 0, none⟩ (.slice va m vc)) (W0.drew.heap.size) 37 (idc t.id) := R37b.other _ _ (by show ¬ W0.drew.heap.size = W0.drew.heap.size + 1; omega)
    have F86 : RowIs (W3.setCell ⟨W0.drew.heap.size + 1, 0, none⟩ (.slice va m vc)) (W0.drew.heap.size + 1) 86 [.slice va m vc] := R86b.set 0 _
    generalize hW4 : W3.setCell ⟨W0.drew.heap.size + 1, 0, none⟩ (.slice va m vc) = W4 at F37 F86 A4 ⊢
    clear hW4 R37b R86b A3 hS0
    generalize W0.drew.heap.size + 1 = gb at F37 F86 ⊢
    generalize W0.drew.heap.size = gi at F37 F86 ⊢
    have HF := show Hid (RowIs W4 gi 37 (idc t.id) ∧ RowIs W4 gb 86 [.slice va m vc] ∧ After W0 W4) from ⟨F37, F86, A4⟩
    have cV : W4.cell? ⟨gb, 0, none⟩ = some (.slice va m vc) := F86.cell rfl
    clear F37 F86 A4
    have HR4 : Hid (RowAt W4 base g st D) := (HR.out).after HF.out.2.2
    have HG4 : Hid (RowIs W4 w.heap.size 25 [.pointer (some ⟨g, 0, none⟩)]) := HG.out.below HF.out.2.2 HG.out.lt
    have HSE : Hid (Calls Try.prog 48 #[pv m, .func (.func 49) #[] #[.pointer (some ⟨gi, 0, none⟩), .pointer (some ⟨w.heap.size, 0, none⟩), .pointer (some ⟨gb, 0, none⟩)]] W4 fun e w' => ∃ k : Nat, e = .returned (pv k) ∧ k ≤ m ∧ (∀ j, j < k → ltI t.id (idAt st (s.below.getD j 0)) = false) ∧ (∀ j, k ≤ j → j < m → ltI t.id (idAt st (s.below.getD j 0)) = true) ∧ After W4 w') :=
      search_any (p := fun i => ltI t.id (idAt st (s.below.getD i 0))) HM.out.2 (fun W i hW hi => by
        have hi1 : s.below[i]? = some (s.below.getD i 0) := by rw [List.getD_eq_getElem?_getD, List.getElem?_eq_getElem (by rw [HM.out.1]; exact hi)]; rfl
        obtain ⟨y, hy⟩ : ∃ y, st[s.below.getD i 0]? = some y := ⟨_, List.getElem?_eq_getElem (HBL.out _ (List.mem_of_getElem? hi1))⟩
        have := hangc_any (HR4.out.after hW) HO.out (HF.out.1.below hW HF.out.1.lt) (HG4.out.below hW HG4.out.lt) (HF.out.2.1.below hW HF.out.2.1.lt) ((HR4.out.after hW).bel q s _ HQ.out.1 HQ.out.2) hi1 hy
        rw [idAt_of hy]
        exact this) HMN.out
    go_simp
    go_wp2_with (go_at_call 48; refine Calls.mono HSE.out ?_; rintro e w5 ⟨k, rfl, hk, hk1, hk2, ha5⟩; have HK := show Hid (k ≤ m ∧ (∀ j, j < k → ltI t.id (idAt st (s.below.getD j 0)) = false) ∧ (∀ j, k ≤ j → j < m → ltI t.id (idAt st (s.below.getD j 0)) = true) ∧ After W4 w5) from ⟨hk, hk1, hk2, ha5⟩; clear hk hk1 hk2 ha5)
    have HR5 : Hid (RowAt w5 base g st D) := HR4.out.after HK.out.2.2.2
    have HG5 : Hid (RowIs w5 w.heap.size 25 [.pointer (some ⟨g, 0, none⟩)]) := HG4.out.below HK.out.2.2.2 HG4.out.lt
    have HB5 : Hid (RowIs w5 g 75 [.slice (some ⟨gs, 0, none⟩) n cap, .map (some D.gm)]) := by have := HR5.out.box; rw [HSV.out] at this; exact this
    have HV5 : Hid (RowIs w5 gb 86 [.slice va m vc]) := HF.out.2.1.below HK.out.2.2.2 HF.out.2.1.lt
    have HOI : Hid (OwnI w5 base (.slice va m vc) s.below) := HR5.out.bel q s _ HQ.out.1 HQ.out.2
    have HSR : Hid ((Value.slice va m vc).ownBlock ≠ some gs ∧ gs < w5.heap.size ∧ ∃ scs, RowIs w5 gs 88 scs) := by
      obtain ⟨_, h2, cs, hc⟩ := own_lt HR5.out.row.2 (b := gs) (by rw [HSV.out]; rfl)
      refine ⟨fun e => ?_, h2, cs, hc⟩
      obtain ⟨_, _, cs', hc'⟩ := own_lt HOI.out e
      exact absurd (hc'.ty hc).1 (by decide)
    have HNF : Hid (¬ ((Value.slice va m vc).ownBlock = some w.heap.size ∨ w.heap.size = gs) ∧ ¬ ((Value.slice va m vc).ownBlock = some g ∨ g = gs) ∧ ¬ ((Value.slice va m vc).ownBlock = some gb ∨ gb = gs)) := by
      have key : ∀ b t' cs', RowIs w5 b t' cs' → t' ≠ 3 → t' ≠ 88 → ¬ ((Value.slice va m vc).ownBlock = some b ∨ b = gs) := fun b t' cs' hr h1 h2 => by
        rintro (e | e)
        · obtain ⟨_, _, cs2, hc2⟩ := own_lt HOI.out e; exact h1 (hr.ty hc2).1
        · subst e; obtain ⟨cs2, hc2⟩ := HSR.out.2.2; exact h2 (hr.ty hc2).1
      exact ⟨key _ _ _ HG5.out (by decide) (by decide), key _ _ _ HB5.out (by decide) (by decide), key _ _ _ HV5.out (by decide) (by decide)⟩
    have HC5 : Hid ((w5.drew.alloc (.cells #[pv p] 3)).cell? ⟨gs, q * 36 + 35, none⟩ = some (.slice va m vc)) := by
      obtain ⟨gs2, cap2, he2, _, hrg⟩ := HR5.out.sv
      rw [HSV.out] at he2
      cases he2
      have h1 := hrg q s _ HQ.out.1 HQ.out.2 35 (.slice va m vc) (by unfold scell; rw [List.getElem?_append_right (by rw [idc_len HOQ.out]; omega), idc_len HOQ.out]; rfl)
      exact (World.cell?_of_block (Below.heap_alloc w5.drew _ gs HSR.out.2.1)).trans h1
    have HC6 : Hid (Calls Try.prog 50 #[.slice va m vc, pv k, .slice (some ⟨w5.drew.heap.size, 0, none⟩) 1 1] (w5.drew.alloc (.cells #[pv p] 3)) fun e w' => ∃ v', e = .returned v' ∧ ∃ va' m' vc', v' = .slice va' m' vc' ∧ OwnI w' base v' (s.below.take k ++ p :: s.below.drop k) ∧ (w5.drew.alloc (.cells #[pv p] 3)).grownBy w' (Value.slice va m vc).ownBlock ∧ (v'.ownBlock = (Value.slice va m vc).ownBlock ∨ ∃ nb, v'.ownBlock = some nb ∧ (w5.drew.alloc (.cells #[pv p] 3)).heap.size ≤ nb)) := by
      have hoi : OwnI (w5.drew.alloc (.cells #[pv p] 3)) base (.slice va m vc) s.below := HOI.out.same (fun b hb => Below.heap_alloc w5.drew _ b (own_lt HOI.out hb).2.1)
      refine Calls.mono (ins_any hoi (i := k) (p := p) (vb := w5.drew.heap.size) (by rw [HM.out.1]; exact HK.out.1) (RowIs.new w5.drew 3 [pv p]) (fun e => by have := (own_lt HOI.out e).2.1; exact absurd this (Nat.lt_irrefl _)) (by rw [HM.out.1]; exact HM.out.2) (Nat.le_trans HR5.out.bs (by rw [World.size_alloc]; exact Nat.le_succ w5.heap.size))) (fun e w' ⟨v', he, h1, h2, h3⟩ => ?_)
      obtain ⟨va', vc', hv'⟩ := sl_form h1
      exact ⟨v', he, va', _, vc', hv', h1, h2, h3.imp id (fun h => ⟨_, h, Nat.le_refl _⟩)⟩
    clear cV
    refine wp_region_noPanic ?_
    refine wp_region_held_drew (S := KeptF (fun b => (Value.slice va m vc).ownBlock = some b ∨ b = gs) w5) (by kernel_rfl) (KeptF.of_after (After.drew (After.refl _))) ?_
    intro hS0
    refine tk 0 30 (.pointer (some ⟨g, 0, none⟩)) (fuel := 12) rfl (by kernel_rfl) (by kernel_rfl) (by kernel_rfl) (by kernel_rfl) noPanic_false (by kernel_rfl) (fun W hW => x_loadT (x := .tmp 3) (t := 25) (g := w.heap.size) (j := 0) Try.underlying25 rfl (by kernel_rfl) (by kernel_rfl) ((hW.row HG5.out HNF.out.1).cell (j := 0) rfl)) hS0 ?_
    refine tk 1 31 (.pointer (some ⟨g, 0, none⟩)) (fuel := 11) rfl (by kernel_rfl) (by kernel_rfl) (by kernel_rfl) (by kernel_rfl) noPanic_false (by kernel_rfl) (fun _ _ => by kernel_rfl) hS0 ?_
    refine tk 2 32 (.pointer (some ⟨g, 0, none⟩)) (fuel := 10) rfl (by kernel_rfl) (by kernel_rfl) (by kernel_rfl) (by kernel_rfl) noPanic_false (by kernel_rfl) (fun _ _ => by kernel_rfl) hS0 ?_
    refine tk 3 33 (.slice (some ⟨gs, 0, none⟩) n cap) (fuel := 9) rfl (by kernel_rfl) (by kernel_rfl) (by kernel_rfl) (by kernel_rfl) noPanic_false (by kernel_rfl) (fun W hW => x_loadT (x := .tmp 32) (t := 72) (g := g) (j := 0) Try.underlying72 rfl (by kernel_rfl) (by kernel_rfl) ((hW.row HB5.out HNF.out.2.1).cell (j := 0) rfl)) hS0 ?_
    refine tk 4 34 (pv q) (fuel := 8) rfl (by kernel_rfl) (by kernel_rfl) (by kernel_rfl) (by kernel_rfl) noPanic_false (by kernel_rfl) (fun _ _ => by kernel_rfl) hS0 ?_
    refine tk 5 35 (.slice va m vc) (fuel := 7) rfl (by kernel_rfl) (by kernel_rfl) (by kernel_rfl) (by kernel_rfl) noPanic_false (by kernel_rfl) (fun W hW => x_loadT (x := .tmp 7) (t := 86) (g := gb) (j := 0) Try.underlying86 rfl (by kernel_rfl) (by kernel_rfl) ((hW.row HV5.out HNF.out.2.2).cell (j := 0) rfl)) hS0 ?_
    refine tk 6 36 (pv k) (fuel := 6) rfl (by kernel_rfl) (by kernel_rfl) (by kernel_rfl) (by kernel_rfl) noPanic_false (by kernel_rfl) (fun _ _ => by kernel_rfl) hS0 ?_
    refine tk 7 37 (pv p) (fuel := 5) rfl (by kernel_rfl) (by kernel_rfl) (by kernel_rfl) (by kernel_rfl) noPanic_false (by kernel_rfl) (fun _ _ => by kernel_rfl) hS0 ?_
    refine tkRunS 8 38 (.slice (some ⟨w5.drew.heap.size, 0, none⟩) 1 1) (w5.drew.alloc (.cells #[pv p] 3)) (fuel := 4) rfl (by kernel_rfl) (by kernel_rfl) (by kernel_rfl) (x_bs86 (x := .tmp 37) (by kernel_rfl) (by kernel_rfl)) (KeptF.of_after (after_alloc (After.drew (After.refl w5)) _)) ?_
    refine tkCallZ 9 39 50 #[.slice va m vc, pv k, .slice (some ⟨w5.drew.heap.size, 0, none⟩) 1 1] (fun v' w' => ∃ va' m' vc', v' = .slice va' m' vc' ∧ OwnI w' base v' (s.below.take k ++ p :: s.below.drop k) ∧ (w5.drew.alloc (.cells #[pv p] 3)).grownBy w' (Value.slice va m vc).ownBlock ∧ (v'.ownBlock = (Value.slice va m vc).ownBlock ∨ ∃ nb, v'.ownBlock = some nb ∧ (w5.drew.alloc (.cells #[pv p] 3)).heap.size ≤ nb)) (fuel := 3) rfl (by kernel_rfl) (by kernel_rfl) (by kernel_rfl) (fun _ => by kernel_rfl) (HC6.out) ?_
    intro v7 w7 ⟨va7, m7, vc7, hv7, ho7, hg7, hl7⟩
    subst hv7
    have hk7 : KeptF (fun b => (Value.slice va m vc).ownBlock = some b ∨ b = gs) w5 w7 := (KeptF.of_after (after_alloc (After.drew (After.refl w5)) _)).trans (KeptF.of_grown (F := fun b => (Value.slice va m vc).ownBlock = some b ∨ b = gs) hg7 (fun b hb => .inl hb)) (fun _ _ h => h)
    refine ⟨hk7, ?_⟩
    refine tk 10 40 (.pointer (some ⟨gs, q * 36, none⟩)) (fuel := 2) rfl (by kernel_rfl) (by kernel_rfl) (by kernel_rfl) (by kernel_rfl) noPanic_false (by kernel_rfl) (fun W hW => x_idx72z (x := .tmp 33) (y := .tmp 34) (b := gs) (n := n) (c := cap) (k := q) (by kernel_rfl) (by kernel_rfl) (by kernel_rfl) HN.out.2) hk7 ?_
    refine tk 11 41 (.pointer (some ⟨gs, q * 36 + 35, none⟩)) (fuel := 1) rfl (by kernel_rfl) (by kernel_rfl) (by kernel_rfl) (by kernel_rfl) noPanic_false (by kernel_rfl) (fun _ _ => by kernel_rfl) hk7 ?_
    have hgs7 : w7.heap[gs]? = (w5.drew.alloc (.cells #[pv p] 3)).heap[gs]? := hg7.block gs (by rw [World.size_alloc]; exact Nat.lt_succ_of_lt HSR.out.2.1) (fun e => HSR.out.1 e.symm)
    obtain ⟨scs, hscs⟩ := HSR.out.2.2
    have hr7 : RowIs w7 gs 88 scs := by unfold RowIs; rw [hgs7]; exact hscs.alloc _
    have hc7 : w7.cell? ⟨gs, q * 36 + 35, none⟩ = some (.slice va m vc) := (World.cell?_of_block hgs7).trans (HC5.out)
    refine tkStoreS 12 (w7.setCell ⟨gs, q * 36 + 35, none⟩ (.slice va7 m7 vc7)) (fuel := 0) rfl (by kernel_rfl) (by kernel_rfl) (by kernel_rfl) (x_st86 (x := .tmp 41) (y := .tmp 39) (by kernel_rfl) (by kernel_rfl) (by kernel_rfl) hc7 (hr7.frozen _)) (hk7.trans (KeptF.set (F := fun b => (Value.slice va m vc).ownBlock = some b ∨ b = gs) w7 ⟨gs, q * 36 + 35, none⟩ _ (.inr rfl)) (fun _ _ h => h)) ?_
    refine wpAnyH_done (by kernel_rfl) (NoPanic.normal ?_) _
    have HR6 : RowAt (w5.drew.alloc (.cells #[pv p] 3)) base g st D := HR5.out.after (after_alloc (After.drew (After.refl w5)) _)
    have HFIN := HR6.hang HQ.out.1 HQ.out.2 hg7 ho7 hl7 HSV.out
    have HALL := show Hid (After w w5) from (HA.out.trans HF.out.2.2).trans HK.out.2.2.2
    have HEQ : Hid (s.below.take k ++ p :: s.below.drop k = sIns (fun b => ltI t.id (idAt st b)) p s.below) := sIns_eq (by rw [HM.out.1]; exact HK.out.1) HK.out.2.1 (fun hlt => HK.out.2.2.1 k (Nat.le_refl _) (by rw [← HM.out.1]; exact hlt))
    have HF2 := show Hid (RowAt (w7.setCell ⟨gs, q * 36 + 35, none⟩ (.slice va7 m7 vc7)) base g (st.set q { s with below := sIns (fun b => ltI t.id (idAt st b)) p s.below }) { D with vs := D.vs.set q (.slice va7 m7 vc7) } ∧ (∀ k, Foot g { D with vs := D.vs.set q (.slice va7 m7 vc7) } k → Foot g D k ∨ w.heap.size ≤ k) ∧ KeptF (FootS D) w (w7.setCell ⟨gs, q * 36 + 35, none⟩ (.slice va7 m7 vc7))) from by
      rw [← HEQ.out]
      refine ⟨HFIN.1, fun k hk => (HFIN.2.1 k hk).imp id (fun h => Nat.le_trans HALL.out.size (Nat.le_trans (by rw [World.size_alloc]; exact Nat.le_succ w5.heap.size) h)), ?_⟩
      exact (KeptF.of_after (F := FootS D) (HALL.out.trans (after_alloc (After.drew (After.refl w5)) _))).trans HFIN.2.2 (fun _ _ h => h)
    clear HFIN HR6 hk7 hgs7 hr7 hc7 hscs ho7 hg7 hl7
    go_simp
    go_wp2_with fail
    go_end0
    exact ⟨⟨_, rfl⟩, _, HF2.out⟩
  · refine opVal 18 7 (.pointer (some ⟨W0.drew.heap.size, 0, none⟩)) (W0.drew.alloc (.cells #[.slice none 0 0] 86)) rfl (by kernel_rfl) (by kernel_rfl) (x_al86 (by kernel_rfl)) ?_
    refine ⟨after_alloc hS0 _, ?_⟩
    refine tkRunS 17 6 (.pointer (some ⟨W0.drew.heap.size + 1, 0, none⟩)) ((W0.drew.alloc (.cells #[.slice none 0 0] 86)).alloc (.cells (idc zId).toArray 37)) (fuel := 2) rfl (by kernel_rfl) (by kernel_rfl) (by kernel_rfl) ((x_al37 (w := (W0.drew.alloc (.cells #[.slice none 0 0] 86))) (by kernel_rfl)).trans (by rw [World.size_alloc])) (after_alloc (after_alloc hS0 _) _) ?_
    have R86 : RowIs ((W0.drew.alloc (.cells #[.slice none 0 0] 86)).alloc (.cells (idc zId).toArray 37)) (W0.drew.heap.size) 86 [.slice none 0 0] := (RowIs.new W0.drew 86 [.slice none 0 0]).alloc _
    have R37 : RowIs ((W0.drew.alloc (.cells #[.slice none 0 0] 86)).alloc (.cells (idc zId).toArray 37)) (W0.drew.heap.size + 1) 37 (idc zId) := by have h := RowIs.new (W0.drew.alloc (.cells #[.slice none 0 0] 86)) 37 (idc zId); rwa [World.size_alloc] at h
    have A2 : After W0 ((W0.drew.alloc (.cells #[.slice none 0 0] 86)).alloc (.cells (idc zId).toArray 37)) := after_alloc (after_alloc hS0 _) _
    generalize hW2 : ((W0.drew.alloc (.cells #[.slice none 0 0] 86)).alloc (.cells (idc zId).toArray 37)) = W2 at R37 R86 A2 ⊢
    clear hW2
    have A3 : After W0 (W2.setRow (W0.drew.heap.size + 1) (idc t.id).toArray) := Below.row A2 (by show W0.heap.size ≤ W0.heap.size + 1; omega) _
    refine tkStoreS 19 (W2.setRow (W0.drew.heap.size + 1) (idc t.id).toArray) (fuel := 1) rfl (by kernel_rfl) (by kernel_rfl) (by kernel_rfl) (x_st37 (x := .tmp 6) (y := .tmp 17) HO.out zId_ok (by kernel_rfl) (by kernel_rfl) (by kernel_rfl) R37) A3 ?_
    have R37b : RowIs (W2.setRow (W0.drew.heap.size + 1) (idc t.id).toArray) (W0.drew.heap.size + 1) 37 (idc t.id) := R37.setRow _
    have R86b : RowIs (W2.setRow (W0.drew.heap.size + 1) (idc t.id).toArray) (W0.drew.heap.size) 86 [.slice none 0 0] := R86.setRow_other _ (by omega)
    generalize hW3 : W2.setRow (W0.drew.heap.size + 1) (idc t.id).toArray = W3 at R37b R86b A3 ⊢
    clear hW3 R37 R86 A2
    have A4 : After W0 (W3.setCell ⟨W0.drew.heap.size, 0, none⟩ (.slice va m vc)) := Below.setCell A3 (p := ⟨W0.drew.heap.size, 0, none⟩) (by show W0.heap.size ≤ W0.heap.size; omega) _
    refine tkStoreS 20 (W3.setCell ⟨W0.drew.heap.size, 0, none⟩ (.slice va m vc)) (fuel := 0) rfl (by kernel_rfl) (by kernel_rfl) (by kernel_rfl) (x_st86 (x := .tmp 7) (y := .tmp 25) (by kernel_rfl) (by kernel_rfl) (by kernel_rfl) (R86b.cell (j := 0) rfl) (R86b.frozen 0)) A4 ?_
    refine wpAnyH_done (by kernel_rfl) (NoPanic.normal ?_) _
    have F37 : RowIs (W3.setCell ⟨W0.drew.heap.size, 0, none⟩ (.slice va m vc)) (W0.drew.heap.size + 1) 37 (idc t.id) := R37b.other _ _ (by show ¬ W0.drew.heap.size + 1 = W0.drew.heap.size; omega)
    have F86 : RowIs (W3.setCell ⟨W0.drew.heap.size, 0, none⟩ (.slice va m vc)) (W0.drew.heap.size) 86 [.slice va m vc] := R86b.set 0 _
    generalize hW4 : W3.setCell ⟨W0.drew.heap.size, 0, none⟩ (.slice va m vc) = W4 at F37 F86 A4 ⊢
    clear hW4 R37b R86b A3 hS0
    generalize W0.drew.heap.size + 1 = gi at F37 F86 ⊢
    generalize W0.drew.heap.size = gb at F37 F86 ⊢
    have HF := show Hid (RowIs W4 gi 37 (idc t.id) ∧ RowIs W4 gb 86 [.slice va m vc] ∧ After W0 W4) from ⟨F37, F86, A4⟩
    have cV : W4.cell? ⟨gb, 0, none⟩ = some (.slice va m vc) := F86.cell rfl
    clear F37 F86 A4
    have HR4 : Hid (RowAt W4 base g st D) := (HR.out).after HF.out.2.2
    have HG4 : Hid (RowIs W4 w.heap.size 25 [.pointer (some ⟨g, 0, none⟩)]) := HG.out.below HF.out.2.2 HG.out.lt
    have HSE : Hid (Calls Try.prog 48 #[pv m, .func (.func 49) #[] #[.pointer (some ⟨gi, 0, none⟩), .pointer (some ⟨w.heap.size, 0, none⟩), .pointer (some ⟨gb, 0, none⟩)]] W4 fun e w' => ∃ k : Nat, e = .returned (pv k) ∧ k ≤ m ∧ (∀ j, j < k → ltI t.id (idAt st (s.below.getD j 0)) = false) ∧ (∀ j, k ≤ j → j < m → ltI t.id (idAt st (s.below.getD j 0)) = true) ∧ After W4 w') :=
      search_any (p := fun i => ltI t.id (idAt st (s.below.getD i 0))) HM.out.2 (fun W i hW hi => by
        have hi1 : s.below[i]? = some (s.below.getD i 0) := by rw [List.getD_eq_getElem?_getD, List.getElem?_eq_getElem (by rw [HM.out.1]; exact hi)]; rfl
        obtain ⟨y, hy⟩ : ∃ y, st[s.below.getD i 0]? = some y := ⟨_, List.getElem?_eq_getElem (HBL.out _ (List.mem_of_getElem? hi1))⟩
        have := hangc_any (HR4.out.after hW) HO.out (HF.out.1.below hW HF.out.1.lt) (HG4.out.below hW HG4.out.lt) (HF.out.2.1.below hW HF.out.2.1.lt) ((HR4.out.after hW).bel q s _ HQ.out.1 HQ.out.2) hi1 hy
        rw [idAt_of hy]
        exact this) HMN.out
    go_simp
    go_wp2_with (go_at_call 48; refine Calls.mono HSE.out ?_; rintro e w5 ⟨k, rfl, hk, hk1, hk2, ha5⟩; have HK := show Hid (k ≤ m ∧ (∀ j, j < k → ltI t.id (idAt st (s.below.getD j 0)) = false) ∧ (∀ j, k ≤ j → j < m → ltI t.id (idAt st (s.below.getD j 0)) = true) ∧ After W4 w5) from ⟨hk, hk1, hk2, ha5⟩; clear hk hk1 hk2 ha5)
    have HR5 : Hid (RowAt w5 base g st D) := HR4.out.after HK.out.2.2.2
    have HG5 : Hid (RowIs w5 w.heap.size 25 [.pointer (some ⟨g, 0, none⟩)]) := HG4.out.below HK.out.2.2.2 HG4.out.lt
    have HB5 : Hid (RowIs w5 g 75 [.slice (some ⟨gs, 0, none⟩) n cap, .map (some D.gm)]) := by have := HR5.out.box; rw [HSV.out] at this; exact this
    have HV5 : Hid (RowIs w5 gb 86 [.slice va m vc]) := HF.out.2.1.below HK.out.2.2.2 HF.out.2.1.lt
    have HOI : Hid (OwnI w5 base (.slice va m vc) s.below) := HR5.out.bel q s _ HQ.out.1 HQ.out.2
    have HSR : Hid ((Value.slice va m vc).ownBlock ≠ some gs ∧ gs < w5.heap.size ∧ ∃ scs, RowIs w5 gs 88 scs) := by
      obtain ⟨_, h2, cs, hc⟩ := own_lt HR5.out.row.2 (b := gs) (by rw [HSV.out]; rfl)
      refine ⟨fun e => ?_, h2, cs, hc⟩
      obtain ⟨_, _, cs', hc'⟩ := own_lt HOI.out e
      exact absurd (hc'.ty hc).1 (by decide)
    have HNF : Hid (¬ ((Value.slice va m vc).ownBlock = some w.heap.size ∨ w.heap.size = gs) ∧ ¬ ((Value.slice va m vc).ownBlock = some g ∨ g = gs) ∧ ¬ ((Value.slice va m vc).ownBlock = some gb ∨ gb = gs)) := by
      have key : ∀ b t' cs', RowIs w5 b t' cs' → t' ≠ 3 → t' ≠ 88 → ¬ ((Value.slice va m vc).ownBlock = some b ∨ b = gs) := fun b t' cs' hr h1 h2 => by
        rintro (e | e)
        · obtain ⟨_, _, cs2, hc2⟩ := own_lt HOI.out e; exact h1 (hr.ty hc2).1
        · subst e; obtain ⟨cs2, hc2⟩ := HSR.out.2.2; exact h2 (hr.ty hc2).1
      exact ⟨key _ _ _ HG5.out (by decide) (by decide), key _ _ _ HB5.out (by decide) (by decide), key _ _ _ HV5.out (by decide) (by decide)⟩
    have HC5 : Hid ((w5.drew.alloc (.cells #[pv p] 3)).cell? ⟨gs, q * 36 + 35, none⟩ = some (.slice va m vc)) := by
      obtain ⟨gs2, cap2, he2, _, hrg⟩ := HR5.out.sv
      rw [HSV.out] at he2
      cases he2
      have h1 := hrg q s _ HQ.out.1 HQ.out.2 35 (.slice va m vc) (by unfold scell; rw [List.getElem?_append_right (by rw [idc_len HOQ.out]; omega), idc_len HOQ.out]; rfl)
      exact (World.cell?_of_block (Below.heap_alloc w5.drew _ gs HSR.out.2.1)).trans h1
    have HC6 : Hid (Calls Try.prog 50 #[.slice va m vc, pv k, .slice (some ⟨w5.drew.heap.size, 0, none⟩) 1 1] (w5.drew.alloc (.cells #[pv p] 3)) fun e w' => ∃ v', e = .returned v' ∧ ∃ va' m' vc', v' = .slice va' m' vc' ∧ OwnI w' base v' (s.below.take k ++ p :: s.below.drop k) ∧ (w5.drew.alloc (.cells #[pv p] 3)).grownBy w' (Value.slice va m vc).ownBlock ∧ (v'.ownBlock = (Value.slice va m vc).ownBlock ∨ ∃ nb, v'.ownBlock = some nb ∧ (w5.drew.alloc (.cells #[pv p] 3)).heap.size ≤ nb)) := by
      have hoi : OwnI (w5.drew.alloc (.cells #[pv p] 3)) base (.slice va m vc) s.below := HOI.out.same (fun b hb => Below.heap_alloc w5.drew _ b (own_lt HOI.out hb).2.1)
      refine Calls.mono (ins_any hoi (i := k) (p := p) (vb := w5.drew.heap.size) (by rw [HM.out.1]; exact HK.out.1) (RowIs.new w5.drew 3 [pv p]) (fun e => by have := (own_lt HOI.out e).2.1; exact absurd this (Nat.lt_irrefl _)) (by rw [HM.out.1]; exact HM.out.2) (Nat.le_trans HR5.out.bs (by rw [World.size_alloc]; exact Nat.le_succ w5.heap.size))) (fun e w' ⟨v', he, h1, h2, h3⟩ => ?_)
      obtain ⟨va', vc', hv'⟩ := sl_form h1
      exact ⟨v', he, va', _, vc', hv', h1, h2, h3.imp id (fun h => ⟨_, h, Nat.le_refl _⟩)⟩
    clear cV
    refine wp_region_noPanic ?_
    refine wp_region_held_drew (S := KeptF (fun b => (Value.slice va m vc).ownBlock = some b ∨ b = gs) w5) (by kernel_rfl) (KeptF.of_after (After.drew (After.refl _))) ?_
    intro hS0
    refine tk 0 30 (.pointer (some ⟨g, 0, none⟩)) (fuel := 12) rfl (by kernel_rfl) (by kernel_rfl) (by kernel_rfl) (by kernel_rfl) noPanic_false (by kernel_rfl) (fun W hW => x_loadT (x := .tmp 3) (t := 25) (g := w.heap.size) (j := 0) Try.underlying25 rfl (by kernel_rfl) (by kernel_rfl) ((hW.row HG5.out HNF.out.1).cell (j := 0) rfl)) hS0 ?_
    refine tk 1 31 (.pointer (some ⟨g, 0, none⟩)) (fuel := 11) rfl (by kernel_rfl) (by kernel_rfl) (by kernel_rfl) (by kernel_rfl) noPanic_false (by kernel_rfl) (fun _ _ => by kernel_rfl) hS0 ?_
    refine tk 2 32 (.pointer (some ⟨g, 0, none⟩)) (fuel := 10) rfl (by kernel_rfl) (by kernel_rfl) (by kernel_rfl) (by kernel_rfl) noPanic_false (by kernel_rfl) (fun _ _ => by kernel_rfl) hS0 ?_
    refine tk 3 33 (.slice (some ⟨gs, 0, none⟩) n cap) (fuel := 9) rfl (by kernel_rfl) (by kernel_rfl) (by kernel_rfl) (by kernel_rfl) noPanic_false (by kernel_rfl) (fun W hW => x_loadT (x := .tmp 32) (t := 72) (g := g) (j := 0) Try.underlying72 rfl (by kernel_rfl) (by kernel_rfl) ((hW.row HB5.out HNF.out.2.1).cell (j := 0) rfl)) hS0 ?_
    refine tk 4 34 (pv q) (fuel := 8) rfl (by kernel_rfl) (by kernel_rfl) (by kernel_rfl) (by kernel_rfl) noPanic_false (by kernel_rfl) (fun _ _ => by kernel_rfl) hS0 ?_
    refine tk 5 35 (.slice va m vc) (fuel := 7) rfl (by kernel_rfl) (by kernel_rfl) (by kernel_rfl) (by kernel_rfl) noPanic_false (by kernel_rfl) (fun W hW => x_loadT (x := .tmp 7) (t := 86) (g := gb) (j := 0) Try.underlying86 rfl (by kernel_rfl) (by kernel_rfl) ((hW.row HV5.out HNF.out.2.2).cell (j := 0) rfl)) hS0 ?_
    refine tk 6 36 (pv k) (fuel := 6) rfl (by kernel_rfl) (by kernel_rfl) (by kernel_rfl) (by kernel_rfl) noPanic_false (by kernel_rfl) (fun _ _ => by kernel_rfl) hS0 ?_
    refine tk 7 37 (pv p) (fuel := 5) rfl (by kernel_rfl) (by kernel_rfl) (by kernel_rfl) (by kernel_rfl) noPanic_false (by kernel_rfl) (fun _ _ => by kernel_rfl) hS0 ?_
    refine tkRunS 8 38 (.slice (some ⟨w5.drew.heap.size, 0, none⟩) 1 1) (w5.drew.alloc (.cells #[pv p] 3)) (fuel := 4) rfl (by kernel_rfl) (by kernel_rfl) (by kernel_rfl) (x_bs86 (x := .tmp 37) (by kernel_rfl) (by kernel_rfl)) (KeptF.of_after (after_alloc (After.drew (After.refl w5)) _)) ?_
    refine tkCallZ 9 39 50 #[.slice va m vc, pv k, .slice (some ⟨w5.drew.heap.size, 0, none⟩) 1 1] (fun v' w' => ∃ va' m' vc', v' = .slice va' m' vc' ∧ OwnI w' base v' (s.below.take k ++ p :: s.below.drop k) ∧ (w5.drew.alloc (.cells #[pv p] 3)).grownBy w' (Value.slice va m vc).ownBlock ∧ (v'.ownBlock = (Value.slice va m vc).ownBlock ∨ ∃ nb, v'.ownBlock = some nb ∧ (w5.drew.alloc (.cells #[pv p] 3)).heap.size ≤ nb)) (fuel := 3) rfl (by kernel_rfl) (by kernel_rfl) (by kernel_rfl) (fun _ => by kernel_rfl) (HC6.out) ?_
    intro v7 w7 ⟨va7, m7, vc7, hv7, ho7, hg7, hl7⟩
    subst hv7
    have hk7 : KeptF (fun b => (Value.slice va m vc).ownBlock = some b ∨ b = gs) w5 w7 := (KeptF.of_after (after_alloc (After.drew (After.refl w5)) _)).trans (KeptF.of_grown (F := fun b => (Value.slice va m vc).ownBlock = some b ∨ b = gs) hg7 (fun b hb => .inl hb)) (fun _ _ h => h)
    refine ⟨hk7, ?_⟩
    refine tk 10 40 (.pointer (some ⟨gs, q * 36, none⟩)) (fuel := 2) rfl (by kernel_rfl) (by kernel_rfl) (by kernel_rfl) (by kernel_rfl) noPanic_false (by kernel_rfl) (fun W hW => x_idx72z (x := .tmp 33) (y := .tmp 34) (b := gs) (n := n) (c := cap) (k := q) (by kernel_rfl) (by kernel_rfl) (by kernel_rfl) HN.out.2) hk7 ?_
    refine tk 11 41 (.pointer (some ⟨gs, q * 36 + 35, none⟩)) (fuel := 1) rfl (by kernel_rfl) (by kernel_rfl) (by kernel_rfl) (by kernel_rfl) noPanic_false (by kernel_rfl) (fun _ _ => by kernel_rfl) hk7 ?_
    have hgs7 : w7.heap[gs]? = (w5.drew.alloc (.cells #[pv p] 3)).heap[gs]? := hg7.block gs (by rw [World.size_alloc]; exact Nat.lt_succ_of_lt HSR.out.2.1) (fun e => HSR.out.1 e.symm)
    obtain ⟨scs, hscs⟩ := HSR.out.2.2
    have hr7 : RowIs w7 gs 88 scs := by unfold RowIs; rw [hgs7]; exact hscs.alloc _
    have hc7 : w7.cell? ⟨gs, q * 36 + 35, none⟩ = some (.slice va m vc) := (World.cell?_of_block hgs7).trans (HC5.out)
    refine tkStoreS 12 (w7.setCell ⟨gs, q * 36 + 35, none⟩ (.slice va7 m7 vc7)) (fuel := 0) rfl (by kernel_rfl) (by kernel_rfl) (by kernel_rfl) (x_st86 (x := .tmp 41) (y := .tmp 39) (by kernel_rfl) (by kernel_rfl) (by kernel_rfl) hc7 (hr7.frozen _)) (hk7.trans (KeptF.set (F := fun b => (Value.slice va m vc).ownBlock = some b ∨ b = gs) w7 ⟨gs, q * 36 + 35, none⟩ _ (.inr rfl)) (fun _ _ h => h)) ?_
    refine wpAnyH_done (by kernel_rfl) (NoPanic.normal ?_) _
    have HR6 : RowAt (w5.drew.alloc (.cells #[pv p] 3)) base g st D := HR5.out.after (after_alloc (After.drew (After.refl w5)) _)
    have HFIN := HR6.hang HQ.out.1 HQ.out.2 hg7 ho7 hl7 HSV.out
    have HALL := show Hid (After w w5) from (HA.out.trans HF.out.2.2).trans HK.out.2.2.2
    have HEQ : Hid (s.below.take k ++ p :: s.below.drop k = sIns (fun b => ltI t.id (idAt st b)) p s.below) := sIns_eq (by rw [HM.out.1]; exact HK.out.1) HK.out.2.1 (fun hlt => HK.out.2.2.1 k (Nat.le_refl _) (by rw [← HM.out.1]; exact hlt))
    have HF2 := show Hid (RowAt (w7.setCell ⟨gs, q * 36 + 35, none⟩ (.slice va7 m7 vc7)) base g (st.set q { s with below := sIns (fun b => ltI t.id (idAt st b)) p s.below }) { D with vs := D.vs.set q (.slice va7 m7 vc7) } ∧ (∀ k, Foot g { D with vs := D.vs.set q (.slice va7 m7 vc7) } k → Foot g D k ∨ w.heap.size ≤ k) ∧ KeptF (FootS D) w (w7.setCell ⟨gs, q * 36 + 35, none⟩ (.slice va7 m7 vc7))) from by
      rw [← HEQ.out]
      refine ⟨HFIN.1, fun k hk => (HFIN.2.1 k hk).imp id (fun h => Nat.le_trans HALL.out.size (Nat.le_trans (by rw [World.size_alloc]; exact Nat.le_succ w5.heap.size) h)), ?_⟩
      exact (KeptF.of_after (F := FootS D) (HALL.out.trans (after_alloc (After.drew (After.refl w5)) _))).trans HFIN.2.2 (fun _ _ h => h)
    clear HFIN HR6 hk7 hgs7 hr7 hc7 hscs ho7 hg7 hl7
    go_simp
    go_wp2_with fail
    go_end0
    exact ⟨⟨_, rfl⟩, _, HF2.out⟩
end Go.Proofs.Ytiglenomigipmaa
