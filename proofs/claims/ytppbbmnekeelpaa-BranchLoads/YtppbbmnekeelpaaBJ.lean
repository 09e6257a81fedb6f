/-
  THE REFERENCE'S CALLS: Create (25), Move (26), Delete (27), Heads (13).
-/
import Derived.Test.YtppbbmnekeelpaaBI
namespace Go.Proofs.Ytppbbmnekeelpaa
open Go.RowKit Dsk
attribute [local go_sem] Oper.semAt_some
section
variable {oi : Oper} {a : Act} {w : World}
theorem x_stR {x y : Operand} {g : Nat} {t ty : TypeId} {old : List Value} {cells : Array Value} (hop : oi.op = .store ty x y) (hx : a.eval x = .pointer (some ⟨g, 0, none⟩)) (hy : a.eval y = .agg cells) (hg : RowIs w g t old) (hi : (Try.prog.info? ty).map (·.size) = some cells.size) (hold : old.toArray.size = cells.size) (h1 : cells.all (·.oneCell') = true) : (execOp a.eval oi).run Try.prog w = .ok .skip (w.setRow g cells) := by
  unfold execOp
  simp only [hop, hx, hy, Instr.storeAt, Instr.sureAddr, Sem.run_bind, Sem.run_pure, Result.andThen_ok, run_storeVar_row w g t ty old.toArray cells hg hi hold h1]
theorem x_ld27 {x : Operand} {g n c : Nat} {b : Option Addr} (hop : oi.op = .load 27 x) (hx : a.eval x = .pointer (some ⟨g, 0, none⟩)) (hr : RowIs w g 27 [.slice b n c]) : (execOp a.eval oi).run Try.prog w = .ok (.value (.agg #[.slice b n c])) w := by
  unfold execOp
  simp only [hop, hx, Instr.loadAt, Instr.sureAddr, Sem.run_bind, Sem.run_pure, Result.andThen_ok, run_loadVar_row w g 27 27 #[.slice b n c] (0, 0) _ hr Try.underlying27 rfl (size27 b n c)]
end
theorem two27 {w W1 : World} {g0 n c : Nat} {a : Option Addr} (hg : w.heap.size = g0) (hW : (w.alloc (.cells #[.slice a n c] 27)).alloc (.cells #[.slice none 0 0] 27) = W1) : RowIs W1 g0 27 [.slice a n c] ∧ RowIs W1 (g0 + 1) 27 [.slice none 0 0] ∧ After w W1 := by
  refine ⟨?_, ?_, ?_⟩
  · rw [← hW, ← hg]; exact (RowIs.new w 27 [.slice a n c]).alloc _
  · rw [← hW, ← hg]; have := RowIs.new (w.alloc (.cells #[.slice a n c] 27)) 27 [.slice none 0 0]; rwa [World.size_alloc] at this
  · rw [← hW]; exact after_alloc (after_alloc (After.refl w) _) _
theorem fin27 {w W1 W : World} {g0 : Nat} (hg : w.heap.size = g0) (h2 : RowIs W1 (g0 + 1) 27 [.slice none 0 0] ∧ After w W1) (hb : After W1 W) (v : Value) : RowIs W (g0 + 1) 27 [.slice none 0 0] ∧ RowIs (W.setRow (g0 + 1) #[v]) (g0 + 1) 27 [v] ∧ After w (W.setRow (g0 + 1) #[v]) := by
  have h1 := h2.1.below hb h2.1.lt
  exact ⟨h1, h1.setRow _, Below.row (h2.2.trans hb) (by omega) _⟩
theorem bof_take (X : List Bx) (k : Nat) : bof (X.take k) = (bof X).take k := by simp [bof, List.map_take]
theorem bof_drop (X : List Bx) (k : Nat) : bof (X.drop k) = (bof X).drop k := by simp [bof, List.map_drop]
theorem bof_app (X Y : List Bx) : bof (X ++ Y) = bof X ++ bof Y := by simp [bof]
theorem RT.setRow {w W : World} {a : Option Addr} {n c g : Nat} {X : List Bx} {cs : Array Value} (h : RT w a n c X) (hg : w.heap.size ≤ g) (ha : After w W) : RT (W.setRow g cs) a n c X := h.after (Below.row ha hg _)
theorem rt_fin {w w6 : World} {g n' c' : Nat} {a' : Option Addr} {cs : Array Value} {Z : List Bx} (h : RT w6 a' n' c' Z) (hrow : ∀ ad, a' = some ad → g < ad.block) (hel : ∀ x ∈ Z, BxAt w x ∨ ∀ ad, x.a = some ad → g < ad.block) (hA : After w (w6.setRow g cs)) : RT (w6.setRow g cs) a' n' c' Z := by
  refine ⟨h.at_.same (fun ad e => setRow_other _ _ _ _ (by have := hrow ad e; omega)) (fun x hx => ?_), h.len, h.cap, h.z⟩
  rcases hel x hx with hb | hb
  · exact hb.after hA
  · have := h.at_.each x hx
    exact ⟨this.sl.same (fun ad e => setRow_other _ _ _ _ (by have := hb ad e; omega)), this.l32, this.z, this.fit⟩
theorem three_el {w : World} {a : Option Addr} {n c g i r : Nat} {X : List Bx} {y : Bx} (h : RT w a n c X) (hy : ∀ ad, y.a = some ad → g < ad.block) : ∀ x ∈ X.take i ++ [y] ++ X.drop r, BxAt w x ∨ ∀ ad, x.a = some ad → g < ad.block := fun x hx => by
  rcases List.mem_append.1 hx with hx | hx
  · rcases List.mem_append.1 hx with hx | hx
    · exact .inl (h.at_.each x (List.mem_of_mem_take hx))
    · rw [List.mem_singleton] at hx; subst hx; exact .inr hy
  · exact .inl (h.at_.each x (List.mem_of_mem_drop hx))
/-- Nothing of it lies in block g. -/
def NT (g : Nat) (a : Option Addr) (X : List Bx) : Prop := (∀ ad, a = some ad → X ≠ [] → ad.block ≠ g) ∧ ∀ x ∈ X, ∀ ad, x.a = some ad → x.l ≠ [] → ad.block ≠ g
theorem nt_three {g i r : Nat} {a a' : Option Addr} {X : List Bx} {y : Bx} (h : NT g a X) (hy : ∀ ad, y.a = some ad → g < ad.block) (hrow : ∀ ad, a' = some ad → g < ad.block) : NT g a' (X.take i ++ [y] ++ X.drop r) := by
  refine ⟨fun ad e _ => by have := hrow ad e; omega, fun x hx ad e hl => ?_⟩
  rcases List.mem_append.1 hx with hx | hx
  · rcases List.mem_append.1 hx with hx | hx
    · exact h.2 x (List.mem_of_mem_take hx) ad e hl
    · rw [List.mem_singleton] at hx; subst hx; have := hy ad e; omega
  · exact h.2 x (List.mem_of_mem_drop hx) ad e hl
theorem nt_cut {g i r : Nat} {a a' : Option Addr} {X : List Bx} (h : NT g a X) (hrow : ∀ ad, a' = some ad → g < ad.block) : NT g a' (X.take i ++ [] ++ X.drop r) := by
  refine ⟨fun ad e _ => by have := hrow ad e; omega, fun x hx ad e hl => ?_⟩
  rcases List.mem_append.1 hx with hx | hx
  · exact h.2 x (List.mem_of_mem_take (by simpa using hx)) ad e hl
  · exact h.2 x (List.mem_of_mem_drop hx) ad e hl
theorem RT.nt {W : World} {a : Option Addr} {n c g : Nat} {X : List Bx} (h : RT W a n c X) (hg : W.heap.size ≤ g) : NT g a X := by
  refine ⟨fun ad e hn e2 => ?_, fun x hx ad e hl e2 => ?_⟩
  · obtain ⟨b, o, e', hr⟩ := h.at_.sl.2 (fun e => hn (by cases X with | nil => rfl | cons x X => simp [bsL] at e))
    rw [e'] at e; cases e
    have := range_lt hr (fun e3 => by
      have h1 := fl_len (uni_bs X)
      rw [e3, bs_len] at h1
      exact hn (List.eq_nil_of_length_eq_zero (by simp at h1; omega)))
    simp only at e2
    omega
  · have hb := h.at_.each x hx
    obtain ⟨b, o, e', hr⟩ := hb.sl.2 (fun e3 => hl (by simpa [hsL] using e3))
    rw [e'] at e; cases e
    have := range_lt hr (fun e3 => by
      have h1 := fl_len hb.sl.1
      rw [e3, hs_len] at h1
      exact hl (List.eq_nil_of_length_eq_zero (by simp at h1; omega)))
    simp only at e2
    omega
set_option maxRecDepth 100000 in
set_option maxHeartbeats 6400000 in
theorem rcreate25 {nm : Dsk.Nm} (hl : nm.length ≤ maxLen) {a : Option Addr} {n c : Nat} {X : List Bx} (hX : TOk (bof X)) {ao : Option Addr} {ca m : Nat} {l : List H} (h32 : All32 l) (hm : l.length = m) {w : World} (hT : RT w a n c X) (hz : ao = none → ca = 0) (hA : SlAt w 32 ao (hsL l)) :
    Calls Try.prog 25 #[.agg #[.slice a n c], .string (strOf nm), .slice ao m ca] w fun e w' => ∃ a' n' c' X', e = .returned (.tuple #[.agg #[.slice a' n' c'], .int .i64 (crE (bof X) nm l : Int)]) ∧ RT w' a' n' c' X' ∧ bof X' = crS (bof X) nm l ∧ After w w' ∧ (∀ g, g < w.heap.size → NT g a X → NT g a' X') := by
  obtain ⟨g0, hg0⟩ : ∃ g0, w.heap.size = g0 := ⟨_, rfl⟩
  obtain ⟨W1, hW1⟩ : ∃ W1, (w.alloc (.cells #[.slice a n c] 27)).alloc (.cells #[.slice none 0 0] 27) = W1 := ⟨_, rfl⟩
  have HW := show Hid _ from two27 hg0 hW1
  have HG0 : Hid (w.heap.size = g0) := hg0
  have HR : Hid (∀ W, After W1 W → RowIs W g0 27 [.slice a n c]) := fun W hW => HW.out.1.below hW HW.out.1.lt
  have hn64 : n ≤ 64 := by have := hX.few; rw [bof_len, hT.len] at this; exact this
  have HT : Hid (RT w a n c X ∧ TOk (bof X) ∧ n ≤ 64 ∧ nm.length ≤ maxLen) := ⟨hT, hX, hn64, hl⟩
  have C31 := show Hid _ from place31 (nm := nm) (ca := c) hX.ris hT.len hn64 (hT.at_.after HW.out.2.2)
  obtain ⟨bh, hbh⟩ : ∃ b, fhas nm (bof X) = b := ⟨_, rfl⟩
  obtain ⟨pl, hpl⟩ : ∃ k, plc nm (bof X) = k := ⟨_, rfl⟩
  have HP : Hid (fhas nm (bof X) = bh ∧ plc nm (bof X) = pl ∧ pl ≤ n) := ⟨hbh, hpl, by have := plc_le nm (bof X); rw [bof_len, hT.len, hpl] at this; exact this⟩
  rw [hbh, hpl] at C31
  have HA : Hid (SlAt w 32 ao (hsL l) ∧ All32 l ∧ l.length = m ∧ (ao = none → ca = 0)) := ⟨hA, h32, hm, hz⟩
  have C34 : Hid (∀ W, After w W → Calls Try.prog 34 #[.slice ao m ca] W fun e w' => e = .returned (.bool (mayB l)) ∧ After W w') := fun W hW => may34 h32 hm (hA.after hW)
  obtain ⟨bm, hbm⟩ : ∃ b, mayB l = b := ⟨_, rfl⟩
  have HM : Hid (mayB l = bm) := hbm
  rw [hbm] at C34
  have C33 : Hid (∀ W, Calls Try.prog 33 #[.string (strOf nm)] W fun e w' => e = .returned (.bool (nmB nm)) ∧ W = w') := fun W => (rname33 hl W).mono (fun e w' ⟨h1, h2⟩ => ⟨h1, h2.symm⟩)
  obtain ⟨bn, hbn⟩ : ∃ b, nmB nm = b := ⟨_, rfl⟩
  have HNM : Hid (nmB nm = bn) := hbn
  rw [hbn] at C33
  clear hT hX hl hA h32 hm hz hbh hpl hbm hbn hn64
  cases bn
  · have HE : Hid (crE (bof X) nm l = 30 ∧ crS (bof X) nm l = bof X) := by
      have : crE (bof X) nm l = 30 := by simp [crE, HNM.out]
      exact ⟨this, by unfold crS; rw [this]; rfl⟩
    go_enter Try.func25, Try.ntmps25
    go_wp2_with (first
      | (rw [hW1]; rw [hg0])
      | (go_at_call 31; refine Calls.mono C31.out ?_; rintro e w2 ⟨rfl, h2⟩; have H2 := show Hid (After W1 w2) from h2; clear h2)
      | (go_at_call 33; refine Calls.mono (C33.out w2) ?_; rintro e w3 ⟨rfl, rfl⟩)
      | (refine wpList_load_row rfl 27 (.tmp 3) rfl g0 (by kernel_rfl) 27 #[.slice a n c] (0, 0) _ (HR.out _ (by first | exact After.refl _ | exact H2.out | exact H4.out)) Try.underlying27 rfl (size27 a n c) ?_)
      | (refine wpList_store_row rfl 27 (.tmp 6) (.tmp 20) rfl (g0 + 1) #[.slice a n c] (by kernel_rfl) (by kernel_rfl) 27 _ (fin27 HG0.out HW.out.2 H2.out (.slice a n c)).1 (size27 a n c) rfl (one27 a n c) ?_))
    refine bodyPost_ret (ret27t Try.results25 _ _ (g0 + 1) (.slice a n c) (.int .i64 30) (by kernel_rfl) (fin27 HG0.out HW.out.2 H2.out (.slice a n c)).2.1 (by kernel_rfl)) rfl ?_
    exact ⟨_, _, _, X, by rw [HE.out.1]; rfl, HT.out.1.after (fin27 HG0.out HW.out.2 H2.out (.slice a n c)).2.2, HE.out.2.symm, (fin27 HG0.out HW.out.2 H2.out (.slice a n c)).2.2, fun _ _ h => h⟩
  cases bm
  · have HE : Hid (crE (bof X) nm l = 41 ∧ crS (bof X) nm l = bof X) := by
      have : crE (bof X) nm l = 41 := by simp [crE, HNM.out, HM.out]
      exact ⟨this, by unfold crS; rw [this]; rfl⟩
    go_enter Try.func25, Try.ntmps25
    go_wp2_with (first
      | (rw [hW1]; rw [hg0])
      | (go_at_call 31; refine Calls.mono C31.out ?_; rintro e w2 ⟨rfl, h2⟩; have H2 := show Hid (After W1 w2) from h2; clear h2)
      | (go_at_call 33; refine Calls.mono (C33.out w2) ?_; rintro e w3 ⟨rfl, rfl⟩)
      | (go_at_call 34; refine Calls.mono (C34.out w2 (HW.out.2.2.trans H2.out)) ?_; rintro e w4 ⟨rfl, h4⟩; have H4 := show Hid (After W1 w4) from H2.out.trans h4; clear h4)
      | (refine wpList_load_row rfl 27 (.tmp 3) rfl g0 (by kernel_rfl) 27 #[.slice a n c] (0, 0) _ (HR.out _ (by first | exact After.refl _ | exact H2.out | exact H4.out)) Try.underlying27 rfl (size27 a n c) ?_)
      | (refine wpList_store_row rfl 27 (.tmp 6) (.tmp 25) rfl (g0 + 1) #[.slice a n c] (by kernel_rfl) (by kernel_rfl) 27 _ (fin27 HG0.out HW.out.2 H4.out (.slice a n c)).1 (size27 a n c) rfl (one27 a n c) ?_))
    refine bodyPost_ret (ret27t Try.results25 _ _ (g0 + 1) (.slice a n c) (.int .i64 41) (by kernel_rfl) (fin27 HG0.out HW.out.2 H4.out (.slice a n c)).2.1 (by kernel_rfl)) rfl ?_
    exact ⟨_, _, _, X, by rw [HE.out.1]; rfl, HT.out.1.after (fin27 HG0.out HW.out.2 H4.out (.slice a n c)).2.2, HE.out.2.symm, (fin27 HG0.out HW.out.2 H4.out (.slice a n c)).2.2, fun _ _ h => h⟩
  cases bh
  rotate_left
  · have HE : Hid (crE (bof X) nm l = 23 ∧ crS (bof X) nm l = bof X) := by
      have : crE (bof X) nm l = 23 := by simp [crE, HNM.out, HM.out, HP.out.1]
      exact ⟨this, by unfold crS; rw [this]; rfl⟩
    go_enter Try.func25, Try.ntmps25
    go_wp2_with (first
      | (rw [hW1]; rw [hg0])
      | (go_at_call 31; refine Calls.mono C31.out ?_; rintro e w2 ⟨rfl, h2⟩; have H2 := show Hid (After W1 w2) from h2; clear h2)
      | (go_at_call 33; refine Calls.mono (C33.out w2) ?_; rintro e w3 ⟨rfl, rfl⟩)
      | (go_at_call 34; refine Calls.mono (C34.out w2 (HW.out.2.2.trans H2.out)) ?_; rintro e w4 ⟨rfl, h4⟩; have H4 := show Hid (After W1 w4) from H2.out.trans h4; clear h4)
      | (refine wpList_load_row rfl 27 (.tmp 3) rfl g0 (by kernel_rfl) 27 #[.slice a n c] (0, 0) _ (HR.out _ (by first | exact After.refl _ | exact H2.out | exact H4.out)) Try.underlying27 rfl (size27 a n c) ?_)
      | (refine wpList_store_row rfl 27 (.tmp 6) (.tmp 28) rfl (g0 + 1) #[.slice a n c] (by kernel_rfl) (by kernel_rfl) 27 _ (fin27 HG0.out HW.out.2 H4.out (.slice a n c)).1 (size27 a n c) rfl (one27 a n c) ?_))
    refine bodyPost_ret (ret27t Try.results25 _ _ (g0 + 1) (.slice a n c) (.int .i64 23) (by kernel_rfl) (fin27 HG0.out HW.out.2 H4.out (.slice a n c)).2.1 (by kernel_rfl)) rfl ?_
    exact ⟨_, _, _, X, by rw [HE.out.1]; rfl, HT.out.1.after (fin27 HG0.out HW.out.2 H4.out (.slice a n c)).2.2, HE.out.2.symm, (fin27 HG0.out HW.out.2 H4.out (.slice a n c)).2.2, fun _ _ h => h⟩
  have HLN : Hid ((bof X).length = n) := by rw [bof_len]; exact HT.out.1.len
  by_cases h64 : 64 ≤ n
  · have h64' : (64 : Int) ≤ (n : Int) := by omega
    have c4 : ∀ W, After W1 W → W.cell? ⟨g0, 0, none⟩ = some (.slice a n c) := fun W hW => (HR.out W hW).cell (j := 0) rfl
    have HC4 := show Hid _ from c4
    clear c4
    have HE : Hid (crE (bof X) nm l = 21 ∧ crS (bof X) nm l = bof X) := by
      have : crE (bof X) nm l = 21 := by simp [crE, HNM.out, HM.out, HP.out.1, HLN.out, h64]
      exact ⟨this, by unfold crS; rw [this]; rfl⟩
    go_enter Try.func25, Try.ntmps25
    go_wp2_with (first
      | (rw [hW1]; rw [hg0])
      | (go_at_call 31; refine Calls.mono C31.out ?_; rintro e w2 ⟨rfl, h2⟩; have H2 := show Hid (After W1 w2) from h2; clear h2)
      | (go_at_call 33; refine Calls.mono (C33.out w2) ?_; rintro e w3 ⟨rfl, rfl⟩)
      | (go_at_call 34; refine Calls.mono (C34.out w2 (HW.out.2.2.trans H2.out)) ?_; rintro e w4 ⟨rfl, h4⟩; have H4 := show Hid (After W1 w4) from H2.out.trans h4; have c4 := HC4.out w4 H4.out; clear h4)
      | (refine wpList_load_row rfl 27 (.tmp 3) rfl g0 (by kernel_rfl) 27 #[.slice a n c] (0, 0) _ (HR.out _ (by first | exact After.refl _ | exact H2.out | exact H4.out)) Try.underlying27 rfl (size27 a n c) ?_)
      | (refine wpList_store_row rfl 27 (.tmp 6) (.tmp 34) rfl (g0 + 1) #[.slice a n c] (by kernel_rfl) (by kernel_rfl) 27 _ (fin27 HG0.out HW.out.2 H4.out (.slice a n c)).1 (size27 a n c) rfl (one27 a n c) ?_))
    refine bodyPost_ret (ret27t Try.results25 _ _ (g0 + 1) (.slice a n c) (.int .i64 21) (by kernel_rfl) (fin27 HG0.out HW.out.2 H4.out (.slice a n c)).2.1 (by kernel_rfl)) rfl ?_
    exact ⟨_, _, _, X, by rw [HE.out.1]; rfl, HT.out.1.after (fin27 HG0.out HW.out.2 H4.out (.slice a n c)).2.2, HE.out.2.symm, (fin27 HG0.out HW.out.2 H4.out (.slice a n c)).2.2, fun _ _ h => h⟩
  · have h64' : ¬ (64 : Int) ≤ (n : Int) := by omega
    have HE : Hid (crE (bof X) nm l = 0 ∧ crS (bof X) nm l = fput nm l (bof X)) := by
      have : crE (bof X) nm l = 0 := by simp [crE, HNM.out, HM.out, HP.out.1, HLN.out]; omega
      exact ⟨this, by unfold crS; rw [this]; rfl⟩
    have HE2 : Hid ((bof X).take pl ++ (nm, l) :: (bof X).drop pl = fput nm l (bof X)) := by rw [← HP.out.2.1]; exact (plc_split nm l HT.out.2.1.ris).2.1 HP.out.1
    have HQ : Hid (pl ≤ n) := HP.out.2.2
    have HM16 : Hid (m ≤ 16) := by have := mayB_len HM.out; rw [HA.out.2.2.1] at this; exact this
    have c4 : ∀ W, After W1 W → W.cell? ⟨g0, 0, none⟩ = some (.slice a n c) := fun W hW => (HR.out W hW).cell (j := 0) rfl
    have HC4 := show Hid _ from c4
    clear c4
    go_enter Try.func25, Try.ntmps25
    go_wp2_with (first
      | (rw [hW1]; rw [hg0])
      | (go_at_call 31; refine Calls.mono C31.out ?_; rintro e w2 ⟨rfl, h2⟩; have H2 := show Hid (After W1 w2) from h2; clear h2)
      | (go_at_call 33; refine Calls.mono (C33.out w2) ?_; rintro e w3 ⟨rfl, rfl⟩)
      | (go_at_call 34; refine Calls.mono (C34.out w2 (HW.out.2.2.trans H2.out)) ?_; rintro e w4 ⟨rfl, h4⟩; have H4 := show Hid (After W1 w4) from H2.out.trans h4; have c4 := HC4.out w4 H4.out; clear h4)
      | (refine wpList_load_row rfl 27 (.tmp 3) rfl g0 (by kernel_rfl) 27 #[.slice a n c] (0, 0) _ (HR.out _ (by first | exact After.refl _ | exact H2.out | exact H4.out)) Try.underlying27 rfl (size27 a n c) ?_))
    have HB : Hid (After w w4) := HW.out.2.2.trans H4.out
    have HN : Hid (g0 + 1 < w4.heap.size) := Nat.lt_of_lt_of_le HW.out.2.1.lt H4.out.size
    have C32 : Hid (∀ W, After w W → Calls Try.prog 32 #[.string (strOf nm), .slice ao m ca] W fun e w' => ∃ g a' c', e = .returned (.slice (some ⟨g, 0, none⟩) 1 1) ∧ OwnB w' W.heap.size (.slice (some ⟨g, 0, none⟩) 1 1) [⟨nm, a', c', l⟩] ∧ After W w') := fun W hW => own32 HA.out.2.1 HA.out.2.2.1 (by have := HM16.out; omega) HA.out.2.2.2 (HA.out.1.after hW)
    refine wp_region_noPanic ?_
    refine wp_region_held_drew (S := Below (g0 + 1) w4) (by kernel_rfl) ((Below.refl _ _).drew) ?_
    intro hS0
    refine tk 0 35 (.agg #[.slice a n c]) (fuel := 7) rfl (by kernel_rfl) (by kernel_rfl) (by kernel_rfl) (by kernel_rfl) noPanic_false (by kernel_rfl) (fun W hW => x_ld27 (x := .tmp 3) (by kernel_rfl) (by kernel_rfl) ((HR.out w4 H4.out).below hW (by have := (HR.out w4 H4.out); omega))) hS0 ?_
    refine tk 1 36 (.int .i64 (pl : Int)) (fuel := 6) rfl (by kernel_rfl) (by kernel_rfl) (by kernel_rfl) (by kernel_rfl) noPanic_false (by kernel_rfl) (fun _ _ => by kernel_rfl) hS0 ?_
    refine tk 2 37 (.string (strOf nm)) (fuel := 5) rfl (by kernel_rfl) (by kernel_rfl) (by kernel_rfl) (by kernel_rfl) noPanic_false (by kernel_rfl) (fun _ _ => by kernel_rfl) hS0 ?_
    refine tk 3 38 (.slice ao m ca) (fuel := 4) rfl (by kernel_rfl) (by kernel_rfl) (by kernel_rfl) (by kernel_rfl) noPanic_false (by kernel_rfl) (fun _ _ => by kernel_rfl) hS0 ?_
    refine tkCallZ 4 39 32 #[.string (strOf nm), .slice ao m ca] (fun v w' => ∃ g a' c', v = .slice (some ⟨g, 0, none⟩) 1 1 ∧ OwnB w' w4.heap.size (.slice (some ⟨g, 0, none⟩) 1 1) [⟨nm, a', c', l⟩] ∧ After w4 w') (fuel := 3) rfl (by kernel_rfl) (by kernel_rfl) (by kernel_rfl) (fun _ => by kernel_rfl) ((C32.out w4.drew (HB.out.drew)).mono (fun e w' ⟨g, a', c', he, ho, ha⟩ => ⟨_, he, g, a', c', rfl, ho, (After.refl w4).drew.trans ha⟩)) ?_
    intro v5 w5 ⟨g5, a5, c5, hv5, ho5, ha5⟩
    subst hv5
    have hk5 : Below (g0 + 1) w4 w5 := Below.mono ha5 (by have := HB.out.size; have := HG0.out; have := HN.out; omega)
    refine ⟨hk5, ?_⟩
    obtain ⟨ay, cy, ey, hy⟩ := ho5.at
    simp only [List.length_singleton] at ey
    injection ey with ey1 _ ey3
    subst ey1 ey3
    have hW5 : After w w5 := HB.out.trans ha5
    refine tkCallZ 5 40 43 #[.agg #[.slice a n c], .int .i64 (pl : Int), .int .i64 0, .slice (some ⟨g5, 0, none⟩) 1 1] (fun v w' => ∃ a' n' c', v = .agg #[.slice a' n' c'] ∧ RT w' a' n' c' (X.take pl ++ [⟨nm, a5, c5, l⟩] ++ X.drop (pl + 0)) ∧ After w5 w' ∧ (∀ ad, a' = some ad → w5.heap.size ≤ ad.block)) (fuel := 2) rfl (by kernel_rfl) (by kernel_rfl) (by kernel_rfl) (fun _ => by kernel_rfl) ((put43 (k := 0) (HT.out.1.after hW5) rfl (by have := HQ.out; omega) hy (m := 1) rfl (fun e => by cases e) (show (n + 1) * 40 ≤ 140737488355328 by have := HT.out.2.2.1; omega)).mono (fun e w' ⟨a', n', c', he, h⟩ => ⟨_, he, a', n', c', rfl, h⟩)) ?_
    intro v6 w6 ⟨a6, n6, c6, hv6, hRT6, ha6, hge6⟩
    subst hv6
    have hk6 : Below (g0 + 1) w4 w6 := hk5.trans (Below.mono ha6 (by have := hW5.size; have := HN.out; have := ha5.size; omega))
    refine ⟨hk6, ?_⟩
    have hF := fin27 HG0.out HW.out.2 ((H4.out.trans ha5).trans ha6) (.slice a6 n6 c6)
    refine tkStoreS 6 (w6.setRow (g0 + 1) #[.slice a6 n6 c6]) (fuel := 1) rfl (by kernel_rfl) (by kernel_rfl) (by kernel_rfl) (x_stR (x := .tmp 6) (y := .tmp 40) (g := g0 + 1) (cells := #[.slice a6 n6 c6]) (by kernel_rfl) (by kernel_rfl) (by kernel_rfl) hF.1 (size27 a6 n6 c6) rfl (one27 a6 n6 c6)) (hk6.trans (Below.row (Below.refl _ _) (Nat.le_refl _) _)) ?_
    refine tk 7 7 (.int .i64 0) (fuel := 0) rfl (by kernel_rfl) (by kernel_rfl) (by kernel_rfl) (by kernel_rfl) noPanic_false (by kernel_rfl) (fun _ _ => by kernel_rfl) (hk6.trans (Below.row (Below.refl _ _) (Nat.le_refl _) _)) ?_
    refine wpAnyH_done (by kernel_rfl) (NoPanic.normal ?_) _
    have HF : Hid (RowIs (w6.setRow (g0 + 1) #[.slice a6 n6 c6]) (g0 + 1) 27 [.slice a6 n6 c6] ∧ RT (w6.setRow (g0 + 1) #[.slice a6 n6 c6]) a6 n6 c6 (X.take pl ++ [⟨nm, a5, c5, l⟩] ++ X.drop (pl + 0)) ∧ After w (w6.setRow (g0 + 1) #[.slice a6 n6 c6]) ∧ (∀ g, g < w.heap.size → NT g a X → NT g a6 (X.take pl ++ [⟨nm, a5, c5, l⟩] ++ X.drop (pl + 0)))) := ⟨hF.2.1, rt_fin hRT6 (fun ad e => by have := hge6 ad e; have := ha5.size; have := HN.out; omega) (three_el HT.out.1 (fun ad e => by have := (ho5.ge _ (by simp) ad e).1; have := HN.out; omega)) hF.2.2, hF.2.2, fun g hg h => nt_three h (fun ad e => by have := (ho5.ge _ (by simp) ad e).1; have := HN.out; have := HG0.out; omega) (fun ad e => by have := hge6 ad e; have := ha5.size; have := HN.out; have := HG0.out; omega)⟩
    clear hS0 hk5 hy hW5 ho5 ha5 hRT6 ha6 hge6 hk6 hF
    go_simp
    go_wp2
    refine bodyPost_ret (ret27t Try.results25 _ _ (g0 + 1) (.slice a6 n6 c6) (.int .i64 0) (by kernel_rfl) HF.out.1 (by kernel_rfl)) rfl ?_
    exact ⟨_, _, _, by rw [HE.out.1]; rfl, _, HF.out.2.1, by rw [HE.out.2, bof_app, bof_app, bof_take, bof_drop]; rw [← HE2.out]; simp [bof], HF.out.2.2.1, fun g hg => HF.out.2.2.2 g (by have := HG0.out; omega)⟩
end Go.Proofs.Ytppbbmnekeelpaa
