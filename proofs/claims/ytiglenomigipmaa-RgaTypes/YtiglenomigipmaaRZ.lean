/-
  Insert and Remove, whatever the row: in one contract each.
-/
import Derived.Test.YtiglenomigipmaaRY
namespace Go.Proofs.Ytiglenomigipmaa
open Go.RowKit Go.Shelf
def stAt (st : List Stm) (i : Nat) : Stm := match st[i]? with | some s => s | none => root
theorem stAt_of {st : List Stm} {i : Nat} {s : Stm} (h : st[i]? = some s) : stAt st i = s := by unfold stAt; rw [h]
/-- The row behind an Insert. -/
def insF (st : List Stm) (af id : Idn) (c : UInt8) : List Stm := if insE st af id = 0 then insS st ((plc st af).getD 0) (stAt st ((plc st af).getD 0)) id c else st
theorem plc_at {st : List Stm} {x : Idn} {k : Nat} (h : plc st x = some k) : 0 < k ∧ ∃ s, st[k]? = some s ∧ s.id = x := by
  unfold plc at h
  obtain ⟨j, hj, rfl⟩ := Option.map_eq_some_iff.1 h
  obtain ⟨hlt, he, _⟩ := List.findIdx?_eq_some_iff_getElem.1 hj
  refine ⟨by omega, ?_⟩
  have h1 : (st.map Stm.id).tail[j]? = some x := by
    rw [List.getElem?_eq_getElem hlt]
    have : (st.map Stm.id).tail[j] = x := by simpa using he
    rw [this]
  rw [List.getElem?_tail, List.getElem?_map] at h1
  obtain ⟨s, hs, e⟩ := Option.map_eq_some_iff.1 h1
  exact ⟨s, hs, e⟩
theorem insE_facts {st : List Stm} {af id : Idn} (h : insE st af id = 0) : 1 ≤ id.c ∧ plc st id = none := by
  unfold insE at h
  have h1 : ¬ (id.c < 1 ∨ id.c ≤ af.c) := fun hh => by rw [if_pos hh] at h; cases h
  rw [if_neg h1] at h
  have h2 : ¬ (plc st id).isSome = true := fun hh => by rw [if_pos hh] at h; cases h
  exact ⟨by omega, by simpa using h2⟩
theorem Wf.place {st : List Stm} (hw : Wf st) (af : Idn) : ∃ s, st[(plc st af).getD 0]? = some s := by
  cases hp : plc st af with
  | none => obtain ⟨s, hs, _⟩ := hw.root; exact ⟨s, hs⟩
  | some k => obtain ⟨_, s, hs, _⟩ := plc_at hp; exact ⟨s, hs⟩
theorem Wf.insF {st : List Stm} (hw : Wf st) {af id : Idn} (hid : id.Ok) (c : UInt8) : Wf (insF st af id c) := by
  unfold Go.Proofs.Ytiglenomigipmaa.insF
  split
  · rename_i he
    obtain ⟨s, hs⟩ := hw.place af
    rw [stAt_of hs]
    exact hw.ins hs hid (insE_facts he).1 (insE_facts he).2
  · exact hw
theorem insF_len {st : List Stm} {af id : Idn} {c : UInt8} : (insF st af id c).length ≤ st.length + 1 := by
  unfold insF
  split
  · rw [ins_len]; exact Nat.le_refl _
  · omega
theorem Insert_any {w : World} {base g : Nat} {st : List Stm} {D : RwD} (h : RowAt w base g st D) (hw : Wf st) (hsm : st.length ≤ 100000) {af id : Idn} (ha : af.Ok) (hi : id.Ok) (c : UInt8) :
    Calls Try.prog 22 #[.pointer (some ⟨g, 0, none⟩), idv af, idv id, .int .u8 (c.toNat : Int)] w fun e w' => e = .returned (pv (insE st af id)) ∧ ∃ D', RowAt w' base g (insF st af id c) D' ∧ (∀ k, Foot g D' k → Foot g D k ∨ w.heap.size ≤ k) ∧ KeptF (Foot g D) w w' := by
  by_cases he : insE st af id = 0
  · obtain ⟨s, hs⟩ := hw.place af
    have hbl := hw.bel _ s hs
    have hlen : s.below.length ≤ st.length := nodup_len _ (hw.nod hs) (fun b hb => (hbl b hb).2)
    have hup : ∀ i j, i ≤ j → j < s.below.length → ltI id (idAt st (s.below.getD i 0)) = true → ltI id (idAt st (s.below.getD j 0)) = true := fun i j hij hj hh => by
      rcases Nat.lt_or_eq_of_le hij with hlt | e
      · refine ltI_trans hh ?_
        have := List.pairwise_iff_getElem.1 (hw.srt _ s hs) i j (by omega) hj hlt
        rw [List.getD_eq_getElem?_getD, List.getElem?_eq_getElem (by omega), List.getD_eq_getElem?_getD, List.getElem?_eq_getElem hj]
        exact this
      · subst e; exact hh
    have := Insert_ok h ha hi c he rfl hs (fun b hb => (hbl b hb).2) hup (by omega) (by omega)
    rw [he]
    unfold insF
    rw [if_pos he, stAt_of hs]
    exact this
  · refine Calls.mono (Insert_bad h ha hi c rfl he) (fun e w' ⟨h1, h2⟩ => ⟨h1, D, ?_, fun k hk => .inl hk, KeptF.of_after h2⟩)
    unfold insF
    rw [if_neg he]
    exact h.after h2
/-- What Remove tells; the row behind it. -/
def remE (st : List Stm) (x : Idn) : Nat := if (plc st x).isSome then 0 else 22
def remF (st : List Stm) (x : Idn) : List Stm := match plc st x with | some k => st.set k { stAt st k with gone := true } | none => st
theorem scell_gone {s : Stm} (h : s.id.Ok) (v : Value) : (scell s v).set 34 (.bool true) = scell { s with gone := true } v := by
  have h33 := idc_len h
  unfold scell
  rw [List.set_append_right _ _ (by omega), h33]
  rfl
theorem RowAt.rem {W : World} {base g : Nat} {st : List Stm} {D : RwD} (h : RowAt W base g st D) {k gs n cap : Nat} {s : Stm} (hs : st[k]? = some s) (hsv : D.sv = .slice (some ⟨gs, 0, none⟩) n cap) :
    RowAt (W.setCell ⟨gs, k * 36 + 34, none⟩ (.bool true)) base g (st.set k { s with gone := true }) D ∧ KeptF (fun b => b = gs) W (W.setCell ⟨gs, k * 36 + 34, none⟩ (.bool true)) := by
  have hbs : D.sv.ownBlock = some gs := by rw [hsv]; rfl
  obtain ⟨_, hgs, scs, hsr⟩ := own_lt h.row.2 hbs
  have hok := h.ok s (List.mem_of_getElem? hs)
  obtain ⟨v, hv, _⟩ := h.v hs
  have hk : KeptF (fun b => b = gs) W (W.setCell ⟨gs, k * 36 + 34, none⟩ (.bool true)) := KeptF.set (F := fun b => b = gs) W ⟨gs, k * 36 + 34, none⟩ _ rfl
  have hvs : (stems st D.vs).set k (scell { s with gone := true } v) = stems (st.set k { s with gone := true }) D.vs := by
    rw [stems_set]
    congr 1
    apply List.ext_getElem?
    intro i
    rw [List.getElem?_set]
    by_cases e : k = i
    · subst e; rw [if_pos rfl, if_pos (List.getElem?_eq_some_iff.1 hv).1, hv]
    · rw [if_neg e]
  refine ⟨⟨hk.row h.box (fun e => by subst e; exact absurd (h.box.ty hsr).1 (by decide)), ?_, by simp [h.vl], ?_, h.apart, ?_, ?_, ?_, h.gb, h.mb, Nat.le_trans h.bs hk.size⟩, hk⟩
  · have h1 := h.row
    rw [hsv] at h1
    have h2 := h1.set (stems_get hs hv) (j := 34) (by omega) (.bool true)
    rw [scell_gone hok v, hvs] at h2
    show OwnL _ base 88 36 D.sv _
    rw [hsv]
    exact h2
  · intro i t u ht hu
    obtain ⟨t', ht', hb⟩ : ∃ t', st[i]? = some t' ∧ t'.below = t.below := by
      rw [List.getElem?_set] at ht
      by_cases e : k = i
      · subst e
        rw [if_pos rfl, if_pos (List.getElem?_eq_some_iff.1 hs).1] at ht
        cases ht
        exact ⟨s, hs, rfl⟩
      · rw [if_neg e] at ht; exact ⟨t, ht, rfl⟩
    rw [← hb]
    refine (h.bel i t' u ht' hu).same (fun b hb => hk.block b (own_lt (h.bel i t' u ht' hu) hb).2.1 (fun e => ?_))
    subst e
    obtain ⟨_, _, cs, hc⟩ := own_lt (h.bel i t' u ht' hu) hb
    exact absurd (hc.ty hsr).1 (by decide)
  · exact (h.mp.same (hk.block _ h.mp.lt (fun e => h.mp.ne hsr e.symm))).ids (ids_set hs rfl)
  · intro t ht
    rcases List.mem_or_eq_of_mem_set ht with ht | ht
    · exact h.ok t ht
    · rw [ht]; exact hok
  · intro e
    have := congrArg List.length e
    rw [List.length_set] at this
    exact h.pos (List.eq_nil_of_length_eq_zero this)
theorem x_st4 {oi : Oper} {a : Act} {w : World} {x : Operand} {g p : Nat} {b : Bool} {u : Value} (hop : oi.op = .store 4 x (.const (.bool b))) (hx : a.eval x = .pointer (some ⟨g, p, none⟩)) (hc : w.cell? ⟨g, p, none⟩ = some u) (hf : w.frozen? ⟨g, p, none⟩ = false) : (execOp a.eval oi).run Try.prog w = .ok .skip (w.setCell ⟨g, p, none⟩ (.bool b)) := by
  have hy : a.eval (.const (.bool b)) = .bool b := rfl
  unfold execOp
  simp only [hop, hx, hy]
  simp [go_sem, hc, hf, Instr.storeAt, Instr.sureAddr]
set_option maxRecDepth 100000 in
set_option maxHeartbeats 6400000 in
theorem Remove_any {w : World} {base g : Nat} {st : List Stm} {D : RwD} (h : RowAt w base g st D) {x : Idn} (hx : x.Ok) :
    Calls Try.prog 23 #[.pointer (some ⟨g, 0, none⟩), idv x] w fun e w' => e = .returned (pv (remE st x)) ∧ ∃ D', RowAt w' base g (remF st x) D' ∧ (∀ k, Foot g D' k → Foot g D k ∨ w.heap.size ≤ k) ∧ KeptF (Foot g D) w w' := by
  obtain ⟨W0, hW⟩ : ∃ W0, w.alloc (.cells (idc x).toArray 37) = W0 := ⟨_, rfl⟩
  have HR0 : Hid (RowIs W0 w.heap.size 37 (idc x) ∧ After w W0) := by rw [← hW]; exact ⟨RowIs.new w 37 _, after_alloc (After.refl w) _⟩
  have HRA : Hid (RowAt W0 base g st D) := h.after HR0.out.2
  have HX : Hid x.Ok := hx
  clear h hx
  cases hp : plc st x with
  | none =>
    have HC : Hid (Calls Try.prog 41 #[.pointer (some ⟨g, 0, none⟩), .agg (idc x).toArray] W0 fun e w' => e = .returned (.bool false) ∧ After W0 w') := has_any HRA.out HX.out (by rw [hp]; rfl)
    have HE : Hid (remE st x = 22 ∧ remF st x = st) := ⟨by unfold remE; rw [hp]; rfl, by unfold remF; rw [hp]⟩
    clear hp
    unfold idv
    go_enter Try.func23, Try.ntmps23
    go_wp2_with (first
      | (rw [hW])
      | (refine wpList_load_row rfl 37 (.tmp 3) rfl w.heap.size rfl 37 (idc x).toArray (0, 0) _ HR0.out.1 Try.underlying37 rfl (size37 HX.out) ?_)
      | (go_at_call 41; refine Calls.mono HC.out ?_; rintro e w1 ⟨rfl, hw1⟩; have H1 := show Hid (After W0 w1) from hw1; clear hw1))
    go_ret
    exact ⟨by rw [HE.out.1]; rfl, D, by rw [HE.out.2]; exact HRA.out.after H1.out, fun k hk => .inl hk, KeptF.of_after (HR0.out.2.trans H1.out)⟩
  | some k =>
    have HC : Hid (Calls Try.prog 41 #[.pointer (some ⟨g, 0, none⟩), .agg (idc x).toArray] W0 fun e w' => e = .returned (.bool true) ∧ After W0 w') := has_any HRA.out HX.out (by rw [hp]; rfl)
    obtain ⟨_, s, hs, _⟩ := plc_at hp
    have HE : Hid (remE st x = 0 ∧ remF st x = st.set k { s with gone := true } ∧ st[k]? = some s ∧ (plc st x).getD 0 = k) := ⟨by unfold remE; rw [hp]; rfl, by unfold remF; rw [hp]; simp only [stAt_of hs], hs, by rw [hp]; rfl⟩
    obtain ⟨gs, cap, hsv, _, _⟩ := HRA.out.sv
    obtain ⟨n, hn⟩ : ∃ n, st.length = n := ⟨_, rfl⟩
    rw [hn] at hsv
    have HSV : Hid (D.sv = .slice (some ⟨gs, 0, none⟩) n cap) := hsv
    have HLN : Hid (st.length = n) := hn
    clear hp hs hsv hn
    unfold idv
    go_enter Try.func23, Try.ntmps23
    go_wp2_with (first
      | (rw [hW])
      | (refine wpList_load_row rfl 37 (.tmp 3) rfl w.heap.size rfl 37 (idc x).toArray (0, 0) _ HR0.out.1 Try.underlying37 rfl (size37 HX.out) ?_)
      | (go_at_call 41; refine Calls.mono HC.out ?_; rintro e w1 ⟨rfl, hw1⟩; have H1 := show Hid (After W0 w1) from hw1; clear hw1))
    have HRW : Hid (RowAt w1 base g st D) := HRA.out.after H1.out
    have HR1 : Hid (RowIs w1 w.heap.size 37 (idc x)) := HR0.out.1.below H1.out HR0.out.1.lt
    have HB1 : Hid (RowIs w1 g 75 [.slice (some ⟨gs, 0, none⟩) n cap, .map (some D.gm)]) := by have := HRW.out.box; rw [HSV.out] at this; exact this
    obtain ⟨_, hgs, scs, hsr⟩ := own_lt HRW.out.row.2 (b := gs) (by rw [HSV.out]; rfl)
    have HNG : Hid (¬ g = gs ∧ ¬ w.heap.size = gs ∧ ¬ D.gm = gs) := ⟨fun e => by subst e; exact absurd (HRW.out.box.ty hsr).1 (by decide), fun e => by rw [← e] at hsr; exact absurd (HR1.out.ty hsr).1 (by decide), fun e => HRW.out.mp.ne hsr e.symm⟩
    have HK : Hid ((plc st x).getD 0 = k ∧ k < n ∧ st[k]? = some s ∧ w1.drew.cell? ⟨gs, k * 36 + 34, none⟩ = some (.bool s.gone) ∧ w1.drew.frozen? ⟨gs, k * 36 + 34, none⟩ = false) := by
      obtain ⟨gs2, cap2, he2, _, hrg⟩ := HRW.out.sv
      rw [HSV.out] at he2
      cases he2
      obtain ⟨v, hv, _⟩ := HRW.out.v HE.out.2.2.1
      have hok := HRW.out.ok s (List.mem_of_getElem? HE.out.2.2.1)
      exact ⟨HE.out.2.2.2, by rw [← HLN.out]; exact (List.getElem?_eq_some_iff.1 HE.out.2.2.1).1, HE.out.2.2.1, hrg k s v HE.out.2.2.1 hv 34 _ (by unfold scell; rw [List.getElem?_append_right (by rw [idc_len hok]; omega), idc_len hok]; rfl), hsr.frozen _⟩
    clear hgs hsr
    refine wp_region_noPanic ?_
    refine wp_region_held_drew (S := KeptF (fun b => b = gs) w1) (by kernel_rfl) (KeptF.of_after (After.drew (After.refl _))) ?_
    intro hS0
    refine tk 0 11 (.pointer (some ⟨g, 0, none⟩)) (fuel := 13) rfl (by kernel_rfl) (by kernel_rfl) (by kernel_rfl) (by kernel_rfl) noPanic_false (by kernel_rfl) (fun _ _ => by kernel_rfl) hS0 ?_
    refine tk 1 12 (.pointer (some ⟨g, 0, none⟩)) (fuel := 12) rfl (by kernel_rfl) (by kernel_rfl) (by kernel_rfl) (by kernel_rfl) noPanic_false (by kernel_rfl) (fun _ _ => by kernel_rfl) hS0 ?_
    refine tk 2 13 (.pointer (some ⟨g, 0, none⟩)) (fuel := 11) rfl (by kernel_rfl) (by kernel_rfl) (by kernel_rfl) (by kernel_rfl) noPanic_false (by kernel_rfl) (fun _ _ => by kernel_rfl) hS0 ?_
    refine tk 3 14 (.slice (some ⟨gs, 0, none⟩) n cap) (fuel := 10) rfl (by kernel_rfl) (by kernel_rfl) (by kernel_rfl) (by kernel_rfl) noPanic_false (by kernel_rfl) (fun W hW => x_loadT (x := .tmp 13) (t := 72) (g := g) (j := 0) Try.underlying72 rfl (by kernel_rfl) (by kernel_rfl) ((hW.row HB1.out HNG.out.1).cell (j := 0) rfl)) hS0 ?_
    refine tk 4 15 (.pointer (some ⟨g, 0, none⟩)) (fuel := 9) rfl (by kernel_rfl) (by kernel_rfl) (by kernel_rfl) (by kernel_rfl) noPanic_false (by kernel_rfl) (fun _ _ => by kernel_rfl) hS0 ?_
    refine tk 5 16 (.pointer (some ⟨g, 0, none⟩)) (fuel := 8) rfl (by kernel_rfl) (by kernel_rfl) (by kernel_rfl) (by kernel_rfl) noPanic_false (by kernel_rfl) (fun _ _ => by kernel_rfl) hS0 ?_
    refine tk 6 17 (.pointer (some ⟨g, 1, none⟩)) (fuel := 7) rfl (by kernel_rfl) (by kernel_rfl) (by kernel_rfl) (by kernel_rfl) noPanic_false (by kernel_rfl) (fun _ _ => by kernel_rfl) hS0 ?_
    refine tk 7 18 (.map (some D.gm)) (fuel := 6) rfl (by kernel_rfl) (by kernel_rfl) (by kernel_rfl) (by kernel_rfl) noPanic_false (by kernel_rfl) (fun W hW => x_loadT (x := .tmp 17) (t := 73) (g := g) (j := 1) Try.underlying73 rfl (by kernel_rfl) (by kernel_rfl) ((hW.row HB1.out HNG.out.1).cell (j := 1) rfl)) hS0 ?_
    refine tk 8 19 (idv x) (fuel := 5) rfl (by kernel_rfl) (by kernel_rfl) (by kernel_rfl) (by kernel_rfl) noPanic_false (by kernel_rfl) (fun W hW => x_ldid (x := .tmp 3) (g := w.heap.size) HX.out (by kernel_rfl) (by kernel_rfl) (hW.row HR1.out HNG.out.2.1)) hS0 ?_
    refine tk 9 20 (pv k) (fuel := 4) rfl (by kernel_rfl) (by kernel_rfl) (by kernel_rfl) (by kernel_rfl) noPanic_false (by kernel_rfl) (fun W hW => by rw [← HK.out.1]; exact x_look (m := .tmp 18) (x := .tmp 19) (b := D.gm) HX.out (by kernel_rfl) (by kernel_rfl) (by kernel_rfl) (HRW.out.mp.same (hW.block _ HRW.out.mp.lt HNG.out.2.2))) hS0 ?_
    refine tk 10 21 (.pointer (some ⟨gs, k * 36, none⟩)) (fuel := 3) rfl (by kernel_rfl) (by kernel_rfl) (by kernel_rfl) (by kernel_rfl) noPanic_false (by kernel_rfl) (fun W hW => x_idx72z (x := .tmp 14) (y := .tmp 20) (b := gs) (n := n) (c := cap) (k := k) (by kernel_rfl) (by kernel_rfl) (by kernel_rfl) HK.out.2.1) hS0 ?_
    refine tk 11 22 (.pointer (some ⟨gs, k * 36, none⟩)) (fuel := 2) rfl (by kernel_rfl) (by kernel_rfl) (by kernel_rfl) (by kernel_rfl) noPanic_false (by kernel_rfl) (fun _ _ => by kernel_rfl) hS0 ?_
    refine tk 12 23 (.pointer (some ⟨gs, k * 36 + 34, none⟩)) (fuel := 1) rfl (by kernel_rfl) (by kernel_rfl) (by kernel_rfl) (by kernel_rfl) noPanic_false (by kernel_rfl) (fun _ _ => by kernel_rfl) hS0 ?_
    have hR2 : RowAt w1.drew base g st D := HRW.out.after (After.drew (After.refl w1))
    have hrem := hR2.rem HK.out.2.2.1 HSV.out
    refine tkStoreS 13 (w1.drew.setCell ⟨gs, k * 36 + 34, none⟩ (.bool true)) (fuel := 0) rfl (by kernel_rfl) (by kernel_rfl) (by kernel_rfl) (x_st4 (x := .tmp 23) (by kernel_rfl) (by kernel_rfl) HK.out.2.2.2.1 HK.out.2.2.2.2) ((KeptF.of_after (F := fun b => b = gs) (After.drew (After.refl w1))).trans hrem.2 (fun _ _ h => h)) ?_
    refine wpAnyH_done (by kernel_rfl) (NoPanic.normal ?_) _
    have H2 := show Hid (RowAt (w1.drew.setCell ⟨gs, k * 36 + 34, none⟩ (.bool true)) base g (remF st x) D ∧ KeptF (Foot g D) w (w1.drew.setCell ⟨gs, k * 36 + 34, none⟩ (.bool true))) from by
      refine ⟨by rw [HE.out.2.1]; exact hrem.1, ?_⟩
      exact (KeptF.of_after (F := Foot g D) ((HR0.out.2.trans H1.out).trans (After.drew (After.refl w1)))).trans hrem.2 (fun b _ hb => .inr (.inl (by rw [hb, HSV.out]; rfl)))
    clear hS0 hrem hR2
    go_simp
    go_wp2_with fail
    go_ret
    exact ⟨by rw [HE.out.1]; rfl, D, H2.out.1, fun k hk => .inl hk, H2.out.2⟩
end Go.Proofs.Ytiglenomigipmaa
