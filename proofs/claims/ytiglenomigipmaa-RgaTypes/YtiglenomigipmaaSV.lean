/-
  do (14): a put, on both.
-/
import Derived.Test.YtiglenomigipmaaST
namespace Go.Proofs.Ytiglenomigipmaa
open Go.RowKit Go.Shelf
attribute [local go_sem] Oper.semAt_some
/-- The row behind a put; the reference's. -/
def stN (st : List Stm) (l : List RC) (p : Put) : List Stm := if p.cut then remF st (pAf l p) else insF st (pAf l p) (pId l p) p.ch
def rlN (l : List RC) (p : Put) : List RC := if p.cut then rRem l (pAf l p) else rIns l (pAf l p) (pId l p) p.ch
theorem size33 (p : Put) : (Try.prog.info? 33).map (·.size) = some (pcell p).toArray.size := by show _ = some 8; kernel_rfl
/-- A box that the row has not. -/
theorem RowAt.box29 {W W' : World} {base g k : Nat} {st : List Stm} {D : RwD} {v : Value} (h : RowAt W base g st D) (hk : KeptF (Foot g D) W W') (hr : RowIs W k 29 [v]) : RowIs W' k 29 [v] := hk.row hr (h.other hr (by decide) (by decide) (by decide))
theorem RowAt.box33 {W W' : World} {base g k : Nat} {st : List Stm} {D : RwD} {cs : List Value} (h : RowAt W base g st D) (hk : KeptF (Foot g D) W W') (hr : RowIs W k 33 cs) : RowIs W' k 33 cs := hk.row hr (h.other hr (by decide) (by decide) (by decide))
theorem RowAt.box40 {W W' : World} {base g k : Nat} {st : List Stm} {D : RwD} {cs : List Value} (h : RowAt W base g st D) (hk : KeptF (Foot g D) W W') (hr : RowIs W k 40 cs) : RowIs W' k 40 cs := hk.row hr (h.other hr (by decide) (by decide) (by decide))
theorem RowAt.put29 {W : World} {base g k : Nat} {st : List Stm} {D : RwD} {u : Value} (h : RowAt W base g st D) (hr : RowIs W k 29 [u]) (cs : Array Value) : RowAt (W.setRow k cs) base g st D := h.same (fun j hj => Go.setRow_other W k j cs (fun e => h.other hr (by decide) (by decide) (by decide) (e ▸ hj))) (by simp)
theorem RowR.put29 {W : World} {base k : Nat} {v : Value} {l : List RC} {u : Value} (h : RowR W base v l) (hr : RowIs W k 29 [u]) (cs : Array Value) : RowR (W.setRow k cs) base v l := h.same (fun b hb => by
  obtain ⟨_, _, cs', hc⟩ := own_lt h.2.2 hb
  exact Go.setRow_other W k b cs (fun e => by rw [e] at hc; exact absurd (hr.ty hc).1 (by decide)))
theorem RowAt.refrow {W W' : World} {base g b2 : Nat} {st : List Stm} {D : RwD} {v : Value} {l : List RC} (h : RowAt W base g st D) (hk : KeptF (Foot g D) W W') (hr : RowR W b2 v l) : RowR W' b2 v l := hr.same (fun b hb => by
  obtain ⟨_, h2, cs, hc⟩ := own_lt hr.2.2 hb
  exact hk.block b h2 (h.other hc (by decide) (by decide) (by decide)))
theorem do_boxes {w1 W2 : World} {af id : Idn} (hW2 : (((w1.alloc (.cells (idc zId).toArray 40)).alloc (.cells (idc zId).toArray 40)).setRow w1.heap.size (idc af).toArray).setRow (w1.heap.size + 1) (idc id).toArray = W2) :
    RowIs ((w1.alloc (.cells (idc zId).toArray 40)).alloc (.cells (idc zId).toArray 40)) w1.heap.size 40 (idc zId) ∧ RowIs (((w1.alloc (.cells (idc zId).toArray 40)).alloc (.cells (idc zId).toArray 40)).setRow w1.heap.size (idc af).toArray) (w1.heap.size + 1) 40 (idc zId) ∧ RowIs W2 w1.heap.size 40 (idc af) ∧ RowIs W2 (w1.heap.size + 1) 40 (idc id) ∧ After w1 W2 := by
  have h1 : RowIs ((w1.alloc (.cells (idc zId).toArray 40)).alloc (.cells (idc zId).toArray 40)) w1.heap.size 40 (idc zId) := (RowIs.new w1 40 (idc zId)).alloc _
  have h2 : RowIs ((w1.alloc (.cells (idc zId).toArray 40)).alloc (.cells (idc zId).toArray 40)) (w1.heap.size + 1) 40 (idc zId) := by
    have := RowIs.new (w1.alloc (.cells (idc zId).toArray 40)) 40 (idc zId)
    rwa [World.size_alloc] at this
  have h3 : RowIs (((w1.alloc (.cells (idc zId).toArray 40)).alloc (.cells (idc zId).toArray 40)).setRow w1.heap.size (idc af).toArray) (w1.heap.size + 1) 40 (idc zId) := h2.setRow_other _ (by omega)
  refine ⟨h1, h3, ?_, ?_, ?_⟩
  · rw [← hW2]; exact (h1.setRow _).setRow_other _ (by omega)
  · rw [← hW2]; exact h3.setRow _
  · rw [← hW2]; exact Below.row (Below.row (after_alloc (after_alloc (After.refl w1) _) _) (Nat.le_refl _) _) (by omega) _
set_option maxRecDepth 100000 in
set_option maxHeartbeats 3200000 in
theorem do_cut {w : World} {base g : Nat} {st : List Stm} {D : RwD} {v : Value} {l : List RC} (h : RowAt w base g st D) (hr : RowR w base v l) (hb : base ≤ w.heap.size) (hw : Wf st) (hL : Lnk st l) (hsm : st.length ≤ 100000) (hl : l.length ≤ 100000) {p : Put} (hp : p.Ok) (hcut : p.cut = true) :
    Calls Try.prog 14 #[.pointer (some ⟨g, 0, none⟩), .agg #[v], .agg (pcell p).toArray] w fun e w' => ∃ v' D', e = .returned (.tuple #[.agg #[v'], .bool true]) ∧ RowAt w' base g (stN st l p) D' ∧ RowR w' base v' (rlN l p) ∧ (∀ k, Foot g D' k → Foot g D k ∨ w.heap.size ≤ k) ∧ KeptF (Foot g D) w w' := by
  obtain ⟨W0, hW0⟩ : ∃ W0, ((w.alloc (.cells #[v] 29)).alloc (.cells (pcell p).toArray 33)).alloc (.cells #[.slice none 0 0] 29) = W0 := ⟨_, rfl⟩
  have HA : Hid (After w W0 ∧ RowIs W0 (w.heap.size) 29 [v] ∧ RowIs W0 (w.heap.size + 1) 33 (pcell p) ∧ RowIs W0 (w.heap.size + 1 + 1) 29 [.slice none 0 0]) := by
    rw [← hW0]
    refine ⟨after_alloc (after_alloc (after_alloc (After.refl w) _) _) _, ((RowIs.new w 29 [v]).alloc _).alloc _, ?_, ?_⟩
    · have := RowIs.new (w.alloc (.cells #[v] 29)) 33 (pcell p)
      rw [World.size_alloc] at this
      exact this.alloc _
    · have := RowIs.new ((w.alloc (.cells #[v] 29)).alloc (.cells (pcell p).toArray 33)) 29 [.slice none 0 0]
      rwa [World.size_alloc, World.size_alloc] at this
  obtain ⟨af, haf⟩ : ∃ af, pAf l p = af := ⟨_, rfl⟩
  obtain ⟨id, hid⟩ : ∃ id, pId l p = id := ⟨_, rfl⟩
  have HOK : Hid (af.Ok ∧ id.Ok) := ⟨by rw [← haf]; exact pAf_ok hr.1 hp, by rw [← hid]; exact pId_ok hr.1 hp⟩
  have HW : Hid (RowAt W0 base g st D ∧ RowR W0 base v l ∧ base ≤ w.heap.size) := ⟨h.after HA.out.1, hr.after HA.out.1, hb⟩
  have HI : Hid (Calls Try.prog 29 #[.agg #[v], .agg (pcell p).toArray] W0 fun e w' => e = .returned (.tuple #[idv af, idv id]) ∧ After W0 w') := by
    have := ids_any HW.out.2.1 hp hl
    rw [haf, hid] at this; exact this
  have HST : Hid (stN st l p = remF st af ∧ rlN l p = rRem l af) := by
    unfold Hid stN rlN; rw [hcut, haf, hid]; exact ⟨rfl, rfl⟩
  have HL : Hid (l.length ≤ 100000 ∧ st.length ≤ 100000 ∧ Wf st ∧ Lnk st l) := ⟨hl, hsm, hw, hL⟩
  rw [HST.out.1, HST.out.2]
  clear h hr hb hp hl hsm hw hL haf hid HST
  obtain ⟨e0, he0⟩ : ∃ e0 : Int, rRemE l af = e0 := ⟨_, rfl⟩
  have HRM : Hid (∀ W D, RowAt W base g st D → Calls Try.prog 23 #[.pointer (some ⟨g, 0, none⟩), .agg (idc af).toArray] W fun e w' => e = .returned (.int .i64 e0) ∧ ∃ D', RowAt w' base g (remF st af) D' ∧ (∀ k, Foot g D' k → Foot g D k ∨ W.heap.size ≤ k) ∧ KeptF (Foot g D) W w') := fun W D h => by
    have e : (pv (remE st af) : Value) = .int .i64 e0 := by rw [← he0, ← HL.out.2.2.2.remE]
    rw [← e]; exact Remove_any h HOK.out.1
  have HRR : Hid (∀ W, base ≤ W.heap.size → RowR W base v l → Calls Try.prog 31 #[.agg #[v], .agg (idc af).toArray] W fun e w' => ∃ v', e = .returned (.tuple #[.agg #[v'], .int .i64 e0]) ∧ RowR w' base v' (rRem l af) ∧ After W w') := fun W hb h => by
    rw [← he0]; exact rRemove_any h HOK.out.1 HL.out.1 hb
  clear he0
  go_enter Try.func14, Try.ntmps14
  go_wp2_with (first
    | (rw [hW0])
    | (refine wpList_of_run rfl ((x_al29 rfl).trans (by rw [hW0])) ?_)
    | (refine wpList_load_row rfl 29 (.tmp 4) rfl (w.heap.size) rfl 29 #[v] (0, 0) _ HA.out.2.1 Try.underlying29 rfl (size29 _) ?_)
    | (refine wpList_load_row rfl 33 (.tmp 5) rfl (w.heap.size + 1) rfl 33 (pcell p).toArray (0, 0) _ HA.out.2.2.1 Try.underlying33 rfl (size33 p) ?_)
    | (go_at_call 29; refine Calls.mono HI.out ?_; clear HI; rintro e w1 ⟨rfl, hw1⟩; obtain ⟨W2, hW2⟩ : ∃ W2, (((w1.alloc (.cells (idc zId).toArray 40)).alloc (.cells (idc zId).toArray 40)).setRow w1.heap.size (idc af).toArray).setRow (w1.heap.size + 1) (idc id).toArray = W2 := ⟨_, rfl⟩; have HB2 := show Hid _ from do_boxes hW2; have HG2 := show Hid _ from hW2; have H2 := show Hid (After W0 W2 ∧ RowIs W2 (w.heap.size) 29 [v] ∧ RowIs W2 (w.heap.size + 1) 33 (pcell p) ∧ RowIs W2 (w.heap.size + 1 + 1) 29 [.slice none 0 0] ∧ RowAt W2 base g st D ∧ RowR W2 base v l) from (fun ha => ⟨ha, HA.out.2.1.below ha HA.out.2.1.lt, HA.out.2.2.1.below ha HA.out.2.2.1.lt, HA.out.2.2.2.below ha HA.out.2.2.2.lt, HW.out.1.after ha, HW.out.2.1.after ha⟩) (hw1.trans HB2.out.2.2.2.2); have cc : W2.cell? ⟨w.heap.size + 1, 4, none⟩ = some (.bool true) := by { have := H2.out.2.2.1.cell (j := 4) (v := .bool p.cut) rfl; rwa [hcut] at this }; clear hw1 hW2)
    | (refine wpList_of_run rfl ((x_al40 rfl).trans (by rw [World.size_alloc])) ?_)
    | (refine wpList_of_run rfl (x_al40 rfl) ?_)
    | (refine wpList_store_row rfl 40 (.tmp 8) (.tmp 19) rfl w1.heap.size (idc af).toArray rfl rfl 40 _ HB2.out.1 (size40 HOK.out.1) (by simp [idc_len HOK.out.1, idc_len zId_ok]) (by simpa using idc_one af) ?_)
    | (refine wpList_store_row rfl 40 (.tmp 9) (.tmp 20) rfl (w1.heap.size + 1) (idc id).toArray rfl rfl 40 _ HB2.out.2.1 (size40 HOK.out.2) (by simp [idc_len HOK.out.2, idc_len zId_ok]) (by simpa using idc_one id) ?_; rw [HG2.out])
    | (refine wpList_load_row rfl 40 (.tmp 8) rfl w1.heap.size rfl 40 (idc af).toArray (0, 0) _ HB2.out.2.2.1 Try.underlying40 rfl (size40 HOK.out.1) ?_)
    | (go_at_call 18; refine Calls.mono (own_any HOK.out.1 W2) ?_; rintro e w3 ⟨rfl, hw3⟩; have H3 := show Hid (After W2 w3) from hw3; clear hw3)
    | (go_at_call 23; refine Calls.mono (HRM.out w3 D (H2.out.2.2.2.2.1.after H3.out)) ?_; rintro e w4 ⟨rfl, D4, h41, h42, h43⟩; have H4 := show Hid (RowAt w4 base g (remF st af) D4 ∧ (∀ k, Foot g D4 k → Foot g D k ∨ w3.heap.size ≤ k) ∧ KeptF (Foot g D) w3 w4 ∧ KeptF (Foot g D) w w4 ∧ base ≤ w4.heap.size ∧ RowR w4 base v l) from (fun hka => ⟨h41, h42, h43, hka, Nat.le_trans HW.out.2.2 hka.size, (H2.out.2.2.2.2.1.after H3.out).refrow h43 (H2.out.2.2.2.2.2.after H3.out)⟩) ((KeptF.of_after (F := Foot g D) ((HA.out.1.trans H2.out.1).trans H3.out)).trans h43 (fun _ _ h => h)); have HB4 := show Hid (RowIs w4 (w.heap.size) 29 [v] ∧ RowIs w4 (w.heap.size + 1 + 1) 29 [.slice none 0 0] ∧ RowIs w4 w1.heap.size 40 (idc af)) from (fun hx => ⟨hx.box29 h43 (H2.out.2.1.below H3.out H2.out.2.1.lt), hx.box29 h43 (H2.out.2.2.2.1.below H3.out H2.out.2.2.2.1.lt), hx.box40 h43 (HB2.out.2.2.1.below H3.out HB2.out.2.2.1.lt)⟩) (H2.out.2.2.2.2.1.after H3.out); clear h41 h42 h43)
    | (refine wpList_load_row rfl 29 (.tmp 4) rfl (w.heap.size) rfl 29 #[v] (0, 0) _ HB4.out.1 Try.underlying29 rfl (size29 _) ?_)
    | (refine wpList_load_row rfl 40 (.tmp 8) rfl w1.heap.size rfl 40 (idc af).toArray (0, 0) _ HB4.out.2.2 Try.underlying40 rfl (size40 HOK.out.1) ?_)
    | (go_at_call 31; refine Calls.mono (HRR.out w4 H4.out.2.2.2.2.1 H4.out.2.2.2.2.2) ?_; rintro e w5 ⟨v5, rfl, h51, h52⟩; obtain ⟨W6, hW6⟩ : ∃ W6, (w5.alloc (.cells #[.slice none 0 0] 29)).setRow w5.heap.size #[v5] = W6 := ⟨_, rfl⟩; have HG6 := show Hid _ from hW6; have HZ6 := show Hid (RowIs (w5.alloc (.cells #[.slice none 0 0] 29)) w5.heap.size 29 [.slice none 0 0]) from RowIs.new w5 29 _; have H6 := show Hid (RowIs W6 w5.heap.size 29 [v5] ∧ After w4 W6 ∧ RowIs W6 (w.heap.size + 1 + 1) 29 [.slice none 0 0] ∧ RowR W6 base v5 (rRem l af)) from (fun hx : After w5 W6 => ⟨by rw [← hW6]; exact HZ6.out.setRow _, h52.trans hx, HB4.out.2.1.below (h52.trans hx) HB4.out.2.1.lt, h51.after hx⟩) (by rw [← hW6]; exact Below.row (after_alloc (After.refl w5) _) (Nat.le_refl _) _); obtain ⟨va5, n5, c5, hv5⟩ : ∃ va n c, v5 = .slice va n c := (fun ⟨a, b, c⟩ => ⟨a, _, b, c⟩) h51.sl; subst hv5; clear h51 h52 hW6)
    | (refine wpList_of_run rfl (x_al29 rfl) ?_)
    | (refine wpList_store_row rfl 29 (.tmp 11) (.tmp 31) rfl w5.heap.size #[.slice va5 n5 c5] rfl rfl 29 _ HZ6.out (size29 _) rfl (by simp [Value.oneCell']) ?_; rw [HG6.out])
    | (refine wpList_load_row rfl 29 (.tmp 11) rfl w5.heap.size rfl 29 #[.slice va5 n5 c5] (0, 0) _ H6.out.1 Try.underlying29 rfl (size29 _) ?_)
    | (refine wpList_store_row rfl 29 (.tmp 6) (.tmp 33) rfl (w.heap.size + 1 + 1) #[.slice va5 n5 c5] rfl rfl 29 _ H6.out.2.2.1 (size29 _) rfl (by simp [Value.oneCell']) ?_))
  have hg : RowIs (W6.setRow (w.heap.size + 1 + 1) #[.slice va5 n5 c5]) (w.heap.size + 1 + 1) 29 [.slice va5 n5 c5] := H6.out.2.2.1.setRow _
  refine ⟨rfl, _, ret29 Try.results14 _ _ (w.heap.size + 1 + 1) (.slice va5 n5 c5) (.bool true) rfl hg (by simp), _, D4, rfl, ?_, ?_, ?_, ?_⟩
  · exact (H4.out.1.after H6.out.2.1).put29 H6.out.2.2.1 _
  · exact H6.out.2.2.2.put29 H6.out.2.2.1 _
  · exact fun k hk => (H4.out.2.1 k hk).imp (fun h => h) (fun h => Nat.le_trans ((HA.out.1.trans H2.out.1).trans H3.out).size h)
  · exact (H4.out.2.2.2.1.trans (KeptF.of_after (F := Foot g D) H6.out.2.1) (fun _ _ h => h)).trans (KeptF.setRow (F := fun b => b = w.heap.size + 1 + 1) _ _ _ rfl) (fun x hx e => by have e : x = w.heap.size + 1 + 1 := e; omega)
set_option maxRecDepth 100000 in
set_option maxHeartbeats 3200000 in
theorem do_ins {w : World} {base g : Nat} {st : List Stm} {D : RwD} {v : Value} {l : List RC} (h : RowAt w base g st D) (hr : RowR w base v l) (hb : base ≤ w.heap.size) (hw : Wf st) (hL : Lnk st l) (hsm : st.length ≤ 100000) (hl : l.length ≤ 100000) {p : Put} (hp : p.Ok) (hcut : p.cut = false) :
    Calls Try.prog 14 #[.pointer (some ⟨g, 0, none⟩), .agg #[v], .agg (pcell p).toArray] w fun e w' => ∃ v' D', e = .returned (.tuple #[.agg #[v'], .bool true]) ∧ RowAt w' base g (stN st l p) D' ∧ RowR w' base v' (rlN l p) ∧ (∀ k, Foot g D' k → Foot g D k ∨ w.heap.size ≤ k) ∧ KeptF (Foot g D) w w' := by
  obtain ⟨W0, hW0⟩ : ∃ W0, ((w.alloc (.cells #[v] 29)).alloc (.cells (pcell p).toArray 33)).alloc (.cells #[.slice none 0 0] 29) = W0 := ⟨_, rfl⟩
  have HA : Hid (After w W0 ∧ RowIs W0 (w.heap.size) 29 [v] ∧ RowIs W0 (w.heap.size + 1) 33 (pcell p) ∧ RowIs W0 (w.heap.size + 1 + 1) 29 [.slice none 0 0]) := by
    rw [← hW0]
    refine ⟨after_alloc (after_alloc (after_alloc (After.refl w) _) _) _, ((RowIs.new w 29 [v]).alloc _).alloc _, ?_, ?_⟩
    · have := RowIs.new (w.alloc (.cells #[v] 29)) 33 (pcell p)
      rw [World.size_alloc] at this
      exact this.alloc _
    · have := RowIs.new ((w.alloc (.cells #[v] 29)).alloc (.cells (pcell p).toArray 33)) 29 [.slice none 0 0]
      rwa [World.size_alloc, World.size_alloc] at this
  obtain ⟨af, haf⟩ : ∃ af, pAf l p = af := ⟨_, rfl⟩
  obtain ⟨id, hid⟩ : ∃ id, pId l p = id := ⟨_, rfl⟩
  have HOK : Hid (af.Ok ∧ id.Ok) := ⟨by rw [← haf]; exact pAf_ok hr.1 hp, by rw [← hid]; exact pId_ok hr.1 hp⟩
  have HW : Hid (RowAt W0 base g st D ∧ RowR W0 base v l ∧ base ≤ w.heap.size) := ⟨h.after HA.out.1, hr.after HA.out.1, hb⟩
  have HI : Hid (Calls Try.prog 29 #[.agg #[v], .agg (pcell p).toArray] W0 fun e w' => e = .returned (.tuple #[idv af, idv id]) ∧ After W0 w') := by
    have := ids_any HW.out.2.1 hp hl
    rw [haf, hid] at this; exact this
  have HST : Hid (stN st l p = insF st af id p.ch ∧ rlN l p = rIns l af id p.ch) := by
    unfold Hid stN rlN; rw [hcut, haf, hid]; exact ⟨rfl, rfl⟩
  have HL : Hid (l.length ≤ 100000 ∧ st.length ≤ 100000 ∧ Wf st ∧ Lnk st l) := ⟨hl, hsm, hw, hL⟩
  rw [HST.out.1, HST.out.2]
  clear h hr hb hp hl hsm hw hL haf hid HST
  obtain ⟨e0, he0⟩ : ∃ e0 : Int, ((rInsE l af id : Nat) : Int) = e0 := ⟨_, rfl⟩
  have HIN : Hid (∀ W D, RowAt W base g st D → Calls Try.prog 22 #[.pointer (some ⟨g, 0, none⟩), idv af, idv id, .int .u8 (p.ch.toNat : Int)] W fun e w' => e = .returned (.int .i64 e0) ∧ ∃ D', RowAt w' base g (insF st af id p.ch) D' ∧ (∀ k, Foot g D' k → Foot g D k ∨ W.heap.size ≤ k) ∧ KeptF (Foot g D) W w') := fun W D h => by
    have e : (pv (insE st af id) : Value) = .int .i64 e0 := by rw [← he0, ← HL.out.2.2.2.insE]
    rw [← e]; exact Insert_any h HL.out.2.2.1 HL.out.2.1 HOK.out.1 HOK.out.2 p.ch
  have HRI : Hid (∀ W, base ≤ W.heap.size → RowR W base v l → Calls Try.prog 32 #[.agg #[v], .agg (idc af).toArray, .agg (idc id).toArray, .int .u8 (p.ch.toNat : Int)] W fun e w' => ∃ v', e = .returned (.tuple #[.agg #[v'], .int .i64 e0]) ∧ RowR w' base v' (rIns l af id p.ch) ∧ After W w') := fun W hb h => by
    rw [← he0]; exact rInsert_any h HOK.out.1 HOK.out.2 p.ch HL.out.1 hb
  clear he0
  go_enter Try.func14, Try.ntmps14
  go_wp2_with (first
    | (rw [hW0])
    | (refine wpList_of_run rfl ((x_al29 rfl).trans (by rw [hW0])) ?_)
    | (refine wpList_load_row rfl 29 (.tmp 4) rfl (w.heap.size) rfl 29 #[v] (0, 0) _ HA.out.2.1 Try.underlying29 rfl (size29 _) ?_)
    | (refine wpList_load_row rfl 33 (.tmp 5) rfl (w.heap.size + 1) rfl 33 (pcell p).toArray (0, 0) _ HA.out.2.2.1 Try.underlying33 rfl (size33 p) ?_)
    | (go_at_call 29; refine Calls.mono HI.out ?_; clear HI; rintro e w1 ⟨rfl, hw1⟩; obtain ⟨W2, hW2⟩ : ∃ W2, (((w1.alloc (.cells (idc zId).toArray 40)).alloc (.cells (idc zId).toArray 40)).setRow w1.heap.size (idc af).toArray).setRow (w1.heap.size + 1) (idc id).toArray = W2 := ⟨_, rfl⟩; have HB2 := show Hid _ from do_boxes hW2; have HG2 := show Hid _ from hW2; have H2 := show Hid (After W0 W2 ∧ RowIs W2 (w.heap.size) 29 [v] ∧ RowIs W2 (w.heap.size + 1) 33 (pcell p) ∧ RowIs W2 (w.heap.size + 1 + 1) 29 [.slice none 0 0] ∧ RowAt W2 base g st D ∧ RowR W2 base v l) from (fun ha => ⟨ha, HA.out.2.1.below ha HA.out.2.1.lt, HA.out.2.2.1.below ha HA.out.2.2.1.lt, HA.out.2.2.2.below ha HA.out.2.2.2.lt, HW.out.1.after ha, HW.out.2.1.after ha⟩) (hw1.trans HB2.out.2.2.2.2); have cc : W2.cell? ⟨w.heap.size + 1, 4, none⟩ = some (.bool false) := by { have := H2.out.2.2.1.cell (j := 4) (v := .bool p.cut) rfl; rwa [hcut] at this }; clear hw1 hW2)
    | (refine wpList_of_run rfl ((x_al40 rfl).trans (by rw [World.size_alloc])) ?_)
    | (refine wpList_of_run rfl (x_al40 rfl) ?_)
    | (refine wpList_store_row rfl 40 (.tmp 8) (.tmp 19) rfl w1.heap.size (idc af).toArray rfl rfl 40 _ HB2.out.1 (size40 HOK.out.1) (by simp [idc_len HOK.out.1, idc_len zId_ok]) (by simpa using idc_one af) ?_)
    | (refine wpList_store_row rfl 40 (.tmp 9) (.tmp 20) rfl (w1.heap.size + 1) (idc id).toArray rfl rfl 40 _ HB2.out.2.1 (size40 HOK.out.2) (by simp [idc_len HOK.out.2, idc_len zId_ok]) (by simpa using idc_one id) ?_; rw [HG2.out]))
  refine wp_region_noPanic ?_
  refine wp_region_held_drew (S := KeptF (Foot g D) W2) (by kernel_rfl) (KeptF.of_after (After.drew (After.refl _))) ?_
  intro hS0
  refine tk 0 37 (.pointer (some ⟨g, 0, none⟩)) (fuel := 8) rfl (by kernel_rfl) (by kernel_rfl) (by kernel_rfl) (by kernel_rfl) noPanic_false (by kernel_rfl) (fun _ _ => by kernel_rfl) hS0 ?_
  refine tk 1 38 (idv af) (fuel := 7) rfl (by kernel_rfl) (by kernel_rfl) (by kernel_rfl) (by kernel_rfl) noPanic_false (by kernel_rfl) (fun W hW => x_ld40m (x := .tmp 8) (g := w1.heap.size) (p := 0) HOK.out.1 (by kernel_rfl) (by kernel_rfl) (H2.out.2.2.2.2.1.box40 hW HB2.out.2.2.1).range0) hS0 ?_
  refine tk 3 40 (idv id) (fuel := 6) rfl (by kernel_rfl) (by kernel_rfl) (by kernel_rfl) (by kernel_rfl) noPanic_false (by kernel_rfl) (fun W hW => x_ld40m (x := .tmp 9) (g := w1.heap.size + 1) (p := 0) HOK.out.2 (by kernel_rfl) (by kernel_rfl) (H2.out.2.2.2.2.1.box40 hW HB2.out.2.2.2.1).range0) hS0 ?_
  refine tk 5 42 (.pointer (some ⟨w.heap.size + 1, 3, none⟩)) (fuel := 5) rfl (by kernel_rfl) (by kernel_rfl) (by kernel_rfl) (by kernel_rfl) noPanic_false (by kernel_rfl) (fun _ _ => by kernel_rfl) hS0 ?_
  refine tk 6 43 (.int .u8 (p.ch.toNat : Int)) (fuel := 4) rfl (by kernel_rfl) (by kernel_rfl) (by kernel_rfl) (by kernel_rfl) noPanic_false (by kernel_rfl) (fun W hW => x_loadT (x := .tmp 42) (t := 5) (g := w.heap.size + 1) (j := 3) Try.underlying5 rfl (by kernel_rfl) (by kernel_rfl) ((H2.out.2.2.2.2.1.box33 hW H2.out.2.2.1).cell (j := 3) rfl)) hS0 ?_
  refine tkCallZ 2 39 18 #[idv af] (fun v w' => v = idv af ∧ After W2 w') (fuel := 3) rfl (by kernel_rfl) (by kernel_rfl) (by kernel_rfl) (fun _ => by kernel_rfl) (Calls.mono (own_any HOK.out.1 _) (fun e w' ⟨he, ha⟩ => ⟨_, he, rfl, (After.drew (After.refl W2)).trans ha⟩)) ?_
  intro v3 w3 ⟨hv3, ha3⟩
  subst hv3
  refine ⟨KeptF.of_after ha3, ?_⟩
  refine tkCallZ 4 41 18 #[idv id] (fun v w' => v = idv id ∧ After W2 w') (fuel := 2) rfl (by kernel_rfl) (by kernel_rfl) (by kernel_rfl) (fun _ => by kernel_rfl) (Calls.mono (own_any HOK.out.2 _) (fun e w' ⟨he, ha⟩ => ⟨_, he, rfl, ha3.trans ha⟩)) ?_
  intro v4 w4 ⟨hv4, ha4⟩
  subst hv4
  refine ⟨KeptF.of_after ha4, ?_⟩
  refine tkCallZ 7 44 22 #[.pointer (some ⟨g, 0, none⟩), idv af, idv id, .int .u8 (p.ch.toNat : Int)] (fun v w' => v = .int .i64 e0 ∧ ∃ D', RowAt w' base g (insF st af id p.ch) D' ∧ (∀ k, Foot g D' k → Foot g D k ∨ w4.heap.size ≤ k) ∧ KeptF (Foot g D) w4 w') (fuel := 1) rfl (by kernel_rfl) (by kernel_rfl) (by kernel_rfl) (fun _ => by kernel_rfl) (Calls.mono (HIN.out w4 D (H2.out.2.2.2.2.1.after ha4)) (fun e w' ⟨he, hx⟩ => ⟨_, he, rfl, hx⟩)) ?_
  intro v5 w5 ⟨hv5, D5, h51, h52, h53⟩
  subst hv5
  have hk5 : KeptF (Foot g D) W2 w5 := (KeptF.of_after ha4).trans h53 (fun _ _ h => h)
  refine ⟨hk5, ?_⟩
  refine tk 8 13 (.int .i64 e0) (fuel := 0) rfl (by kernel_rfl) (by kernel_rfl) (by kernel_rfl) (by kernel_rfl) noPanic_false (by kernel_rfl) (fun _ _ => by kernel_rfl) hk5 ?_
  refine wpAnyH_done (by kernel_rfl) (NoPanic.normal ?_) _
  have H5 := show Hid (RowAt w5 base g (insF st af id p.ch) D5 ∧ (∀ k, Foot g D5 k → Foot g D k ∨ w4.heap.size ≤ k) ∧ KeptF (Foot g D) w w5 ∧ base ≤ w5.heap.size ∧ RowR w5 base v l ∧ W2.heap.size ≤ w4.heap.size) from (fun hka => ⟨h51, h52, hka, Nat.le_trans HW.out.2.2 hka.size, H2.out.2.2.2.2.1.refrow hk5 H2.out.2.2.2.2.2, ha4.size⟩) ((KeptF.of_after (F := Foot g D) (HA.out.1.trans H2.out.1)).trans hk5 (fun _ _ h => h))
  have HB5 := show Hid (RowIs w5 (w.heap.size) 29 [v] ∧ RowIs w5 (w.heap.size + 1 + 1) 29 [.slice none 0 0] ∧ RowIs w5 w1.heap.size 40 (idc af) ∧ RowIs w5 (w1.heap.size + 1) 40 (idc id)) from ⟨H2.out.2.2.2.2.1.box29 hk5 H2.out.2.1, H2.out.2.2.2.2.1.box29 hk5 H2.out.2.2.2.1, H2.out.2.2.2.2.1.box40 hk5 HB2.out.2.2.1, H2.out.2.2.2.2.1.box40 hk5 HB2.out.2.2.2.1⟩
  have c5 : w5.cell? ⟨w.heap.size + 1, 3, none⟩ = some (.int .u8 (p.ch.toNat : Int)) := (H2.out.2.2.2.2.1.box33 hk5 H2.out.2.2.1).cell rfl
  clear hk5 h51 h52 h53 ha3 ha4 hS0 cc
  go_simp
  go_wp2_with (first
    | (refine wpList_load_row rfl 29 (.tmp 4) rfl (w.heap.size) rfl 29 #[v] (0, 0) _ HB5.out.1 Try.underlying29 rfl (size29 _) ?_)
    | (refine wpList_load_row rfl 40 (.tmp 8) rfl w1.heap.size rfl 40 (idc af).toArray (0, 0) _ HB5.out.2.2.1 Try.underlying40 rfl (size40 HOK.out.1) ?_)
    | (refine wpList_load_row rfl 40 (.tmp 9) rfl (w1.heap.size + 1) rfl 40 (idc id).toArray (0, 0) _ HB5.out.2.2.2 Try.underlying40 rfl (size40 HOK.out.2) ?_)
    | (go_at_call 32; refine Calls.mono (HRI.out w5 H5.out.2.2.2.1 H5.out.2.2.2.2.1) ?_; rintro e w6 ⟨v6, rfl, h61, h62⟩; obtain ⟨W7, hW7⟩ : ∃ W7, w6.setRow (w.heap.size) #[v6] = W7 := ⟨_, rfl⟩; have HG7 := show Hid _ from hW7; have H6 := show Hid (RowIs w6 (w.heap.size) 29 [v] ∧ RowAt w6 base g (insF st af id p.ch) D5 ∧ RowIs w6 (w.heap.size + 1 + 1) 29 [.slice none 0 0] ∧ RowR w6 base v6 (rIns l af id p.ch) ∧ KeptF (Foot g D) w w6) from ⟨HB5.out.1.below h62 HB5.out.1.lt, H5.out.1.after h62, HB5.out.2.1.below h62 HB5.out.2.1.lt, h61, H5.out.2.2.1.trans (KeptF.of_after (F := Foot g D) h62) (fun _ _ h => h)⟩; have H7 := show Hid (RowIs W7 (w.heap.size) 29 [v6] ∧ RowAt W7 base g (insF st af id p.ch) D5 ∧ RowIs W7 (w.heap.size + 1 + 1) 29 [.slice none 0 0] ∧ RowR W7 base v6 (rIns l af id p.ch) ∧ KeptF (Foot g D) w W7) from (by { rw [← hW7]; exact ⟨H6.out.1.setRow _, H6.out.2.1.put29 H6.out.1 _, H6.out.2.2.1.setRow_other _ (by omega), H6.out.2.2.2.1.put29 H6.out.1 _, H6.out.2.2.2.2.trans (KeptF.setRow (F := fun b => b = w.heap.size) _ _ _ rfl) (fun x hx e => by { have e : x = w.heap.size := e; omega })⟩ }); obtain ⟨va6, n6, c6, hv6⟩ : ∃ va n c, v6 = .slice va n c := (fun ⟨a, b, c⟩ => ⟨a, _, b, c⟩) h61.sl; subst hv6; clear h61 h62 hW7)
    | (refine wpList_store_row rfl 29 (.tmp 4) (.tmp 52) rfl (w.heap.size) #[.slice va6 n6 c6] rfl rfl 29 _ H6.out.1 (size29 _) rfl (by simp [Value.oneCell']) ?_; rw [HG7.out])
    | (refine wpList_load_row rfl 29 (.tmp 4) rfl (w.heap.size) rfl 29 #[.slice va6 n6 c6] (0, 0) _ H7.out.1 Try.underlying29 rfl (size29 _) ?_)
    | (refine wpList_store_row rfl 29 (.tmp 6) (.tmp 54) rfl (w.heap.size + 1 + 1) #[.slice va6 n6 c6] rfl rfl 29 _ H7.out.2.2.1 (size29 _) rfl (by simp [Value.oneCell']) ?_))
  have hg : RowIs (W7.setRow (w.heap.size + 1 + 1) #[.slice va6 n6 c6]) (w.heap.size + 1 + 1) 29 [.slice va6 n6 c6] := H7.out.2.2.1.setRow _
  refine ⟨rfl, _, ret29 Try.results14 _ _ (w.heap.size + 1 + 1) (.slice va6 n6 c6) (.bool true) rfl hg (by simp), _, D5, rfl, ?_, ?_, ?_, ?_⟩
  · exact H7.out.2.1.put29 H7.out.2.2.1 _
  · exact H7.out.2.2.2.1.put29 H7.out.2.2.1 _
  · exact fun k hk => (H5.out.2.1 k hk).imp (fun h => h) (fun h => Nat.le_trans (Nat.le_trans (HA.out.1.trans H2.out.1).size H5.out.2.2.2.2.2) h)
  · exact H7.out.2.2.2.2.trans (KeptF.setRow (F := fun b => b = w.heap.size + 1 + 1) _ _ _ rfl) (fun x hx e => by have e : x = w.heap.size + 1 + 1 := e; omega)
theorem do_any {w : World} {base g : Nat} {st : List Stm} {D : RwD} {v : Value} {l : List RC} (h : RowAt w base g st D) (hr : RowR w base v l) (hb : base ≤ w.heap.size) (hw : Wf st) (hL : Lnk st l) (hsm : st.length ≤ 100000) (hl : l.length ≤ 100000) {p : Put} (hp : p.Ok) :
    Calls Try.prog 14 #[.pointer (some ⟨g, 0, none⟩), .agg #[v], .agg (pcell p).toArray] w fun e w' => ∃ v' D', e = .returned (.tuple #[.agg #[v'], .bool true]) ∧ RowAt w' base g (stN st l p) D' ∧ RowR w' base v' (rlN l p) ∧ (∀ k, Foot g D' k → Foot g D k ∨ w.heap.size ≤ k) ∧ KeptF (Foot g D) w w' := by
  cases hc : p.cut with
  | true => exact do_cut h hr hb hw hL hsm hl hp hc
  | false => exact do_ins h hr hb hw hL hsm hl hp hc
end Go.Proofs.Ytiglenomigipmaa
