/-
  THE REFERENCE'S Move (26), Delete (27), Heads (13).
-/
import Derived.Test.YtppbbmnekeelpaaBJ
namespace Go.Proofs.Ytppbbmnekeelpaa
open Go.RowKit Dsk
attribute [local go_sem] Oper.semAt_some
theorem plc_lt {S : Tb} {nm : Dsk.Nm} {pl n : Nat} (hr : rising S) (hh : fhas nm S = true) (hp : plc nm S = pl) (hl : S.length = n) : pl + 1 ≤ n := by
  have h1 := (plc_split nm ([] : List H) hr).1
  rw [hh, hp] at h1
  cases hg : S[pl]? with
  | none => rw [hg] at h1; cases h1
  | some p => have := (List.getElem?_eq_some_iff.1 hg).1; omega
set_option maxRecDepth 100000 in
set_option maxHeartbeats 6400000 in
theorem rmove26 {nm : Dsk.Nm} (hl : nm.length ≤ maxLen) {a : Option Addr} {n c : Nat} {X : List Bx} (hX : TOk (bof X)) {ao : Option Addr} {ca m : Nat} {l : List H} (h32 : All32 l) (hm : l.length = m) {w : World} (hT : RT w a n c X) (hz : ao = none → ca = 0) (hA : SlAt w 32 ao (hsL l)) :
    Calls Try.prog 26 #[.agg #[.slice a n c], .string (strOf nm), .slice ao m ca] w fun e w' => ∃ a' n' c' X', e = .returned (.tuple #[.agg #[.slice a' n' c'], .int .i64 (mvE (bof X) nm l : Int)]) ∧ RT w' a' n' c' X' ∧ bof X' = mvS (bof X) nm l ∧ After w w' ∧ (∀ g, g < w.heap.size → NT g a X → NT g a' X') := by
  obtain ⟨g0, hg0⟩ : ∃ g0, w.heap.size = g0 := ⟨_, rfl⟩
  obtain ⟨W1, hW1⟩ : ∃ W1, (w.alloc (.cells #[.slice a n c] 27)).alloc (.cells #[.slice none 0 0] 27) = W1 := ⟨_, rfl⟩
  have HW := show Hid _ from two27 hg0 hW1
  have HG0 : Hid (w.heap.size = g0) := hg0
  have HR : Hid (∀ W, After W1 W → RowIs W g0 27 [.slice a n c]) := fun W hW => HW.out.1.below hW HW.out.1.lt
  have hn64 : n ≤ 64 := by have := hX.few; rw [bof_len, hT.len] at this; exact this
  have HT : Hid (RT w a n c X ∧ TOk (bof X) ∧ n ≤ 64 ∧ nm.length ≤ maxLen) := ⟨hT, hX, hn64, hl⟩
  have C31 := show Hid _ from place31 (nm := nm) (ca := c) hX.ris hT.len hn64 (hT.at_.after HW.out.2.2)
  obtain ⟨bh, hbh⟩ : ∃ b, fhas nm (bof X) = b := ⟨_, rfl⟩
  obtain ⟨pl, hpl⟩ : ∃ k, plc nm (bof X) = k := ⟨_, rfl⟩
  have HP : Hid (fhas nm (bof X) = bh ∧ plc nm (bof X) = pl ∧ pl ≤ n) := ⟨hbh, hpl, by have := plc_le nm (bof X); rw [bof_len, hT.len, hpl] at this; exact this⟩
  rw [hbh, hpl] at C31
  have HA : Hid (SlAt w 32 ao (hsL l) ∧ All32 l ∧ l.length = m ∧ (ao = none → ca = 0)) := ⟨hA, h32, hm, hz⟩
  have C34 : Hid (∀ W, After w W → Calls Try.prog 34 #[.slice ao m ca] W fun e w' => e = .returned (.bool (mayB l)) ∧ After W w') := fun W hW => may34 h32 hm (hA.after hW)
  obtain ⟨bm, hbm⟩ : ∃ b, mayB l = b := ⟨_, rfl⟩
  have HM : Hid (mayB l = bm) := hbm
  rw [hbm] at C34
  clear hT hX hl hA h32 hm hz hbh hpl hbm hn64
  have HLN : Hid ((bof X).length = n) := by rw [bof_len]; exact HT.out.1.len
  cases bh
  · have HE : Hid (mvE (bof X) nm l = 45 ∧ mvS (bof X) nm l = bof X) := by
      have : mvE (bof X) nm l = 45 := by simp [mvE, HP.out.1]
      exact ⟨this, by unfold mvS; rw [this]; rfl⟩
    go_enter Try.func26, Try.ntmps26
    go_wp2_with (first
      | (rw [hW1]; rw [hg0])
      | (go_at_call 31; refine Calls.mono C31.out ?_; rintro e w2 ⟨rfl, h2⟩; have H2 := show Hid (After W1 w2) from h2; clear h2)
      | (refine wpList_load_row rfl 27 (.tmp 3) rfl g0 (by kernel_rfl) 27 #[.slice a n c] (0, 0) _ (HR.out _ (by first | exact After.refl _ | exact H2.out | exact H4.out)) Try.underlying27 rfl (size27 a n c) ?_)
      | (refine wpList_store_row rfl 27 (.tmp 6) (.tmp 19) rfl (g0 + 1) #[.slice a n c] (by kernel_rfl) (by kernel_rfl) 27 _ (fin27 HG0.out HW.out.2 H2.out (.slice a n c)).1 (size27 a n c) rfl (one27 a n c) ?_))
    refine bodyPost_ret (ret27t Try.results26 _ _ (g0 + 1) (.slice a n c) (.int .i64 45) (by kernel_rfl) (fin27 HG0.out HW.out.2 H2.out (.slice a n c)).2.1 (by kernel_rfl)) rfl ?_
    exact ⟨_, _, _, X, by rw [HE.out.1]; rfl, HT.out.1.after (fin27 HG0.out HW.out.2 H2.out (.slice a n c)).2.2, HE.out.2.symm, (fin27 HG0.out HW.out.2 H2.out (.slice a n c)).2.2, fun _ _ h => h⟩
  cases bm
  · have HE : Hid (mvE (bof X) nm l = 41 ∧ mvS (bof X) nm l = bof X) := by
      have : mvE (bof X) nm l = 41 := by simp [mvE, HP.out.1, HM.out]
      exact ⟨this, by unfold mvS; rw [this]; rfl⟩
    go_enter Try.func26, Try.ntmps26
    go_wp2_with (first
      | (rw [hW1]; rw [hg0])
      | (go_at_call 31; refine Calls.mono C31.out ?_; rintro e w2 ⟨rfl, h2⟩; have H2 := show Hid (After W1 w2) from h2; clear h2)
      | (go_at_call 34; refine Calls.mono (C34.out w2 (HW.out.2.2.trans H2.out)) ?_; rintro e w4 ⟨rfl, h4⟩; have H4 := show Hid (After W1 w4) from H2.out.trans h4; clear h4)
      | (refine wpList_load_row rfl 27 (.tmp 3) rfl g0 (by kernel_rfl) 27 #[.slice a n c] (0, 0) _ (HR.out _ (by first | exact After.refl _ | exact H2.out | exact H4.out)) Try.underlying27 rfl (size27 a n c) ?_)
      | (refine wpList_store_row rfl 27 (.tmp 6) (.tmp 24) rfl (g0 + 1) #[.slice a n c] (by kernel_rfl) (by kernel_rfl) 27 _ (fin27 HG0.out HW.out.2 H4.out (.slice a n c)).1 (size27 a n c) rfl (one27 a n c) ?_))
    refine bodyPost_ret (ret27t Try.results26 _ _ (g0 + 1) (.slice a n c) (.int .i64 41) (by kernel_rfl) (fin27 HG0.out HW.out.2 H4.out (.slice a n c)).2.1 (by kernel_rfl)) rfl ?_
    exact ⟨_, _, _, X, by rw [HE.out.1]; rfl, HT.out.1.after (fin27 HG0.out HW.out.2 H4.out (.slice a n c)).2.2, HE.out.2.symm, (fin27 HG0.out HW.out.2 H4.out (.slice a n c)).2.2, fun _ _ h => h⟩
  · have HE : Hid (mvE (bof X) nm l = 0 ∧ mvS (bof X) nm l = fput nm l (bof X)) := by
      have : mvE (bof X) nm l = 0 := by simp [mvE, HM.out, HP.out.1]
      exact ⟨this, by unfold mvS; rw [this]; rfl⟩
    have HE2 : Hid ((bof X).take pl ++ (nm, l) :: (bof X).drop (pl + 1) = fput nm l (bof X)) := by rw [← HP.out.2.1]; exact ((plc_split nm l HT.out.2.1.ris).2.2 HP.out.1).1
    have HQ : Hid (pl + 1 ≤ n) := plc_lt HT.out.2.1.ris HP.out.1 HP.out.2.1 HLN.out
    have HM16 : Hid (m ≤ 16) := by have := mayB_len HM.out; rw [HA.out.2.2.1] at this; exact this
    go_enter Try.func26, Try.ntmps26
    go_wp2_with (first
      | (rw [hW1]; rw [hg0])
      | (go_at_call 31; refine Calls.mono C31.out ?_; rintro e w2 ⟨rfl, h2⟩; have H2 := show Hid (After W1 w2) from h2; clear h2)
      | (go_at_call 34; refine Calls.mono (C34.out w2 (HW.out.2.2.trans H2.out)) ?_; rintro e w4 ⟨rfl, h4⟩; have H4 := show Hid (After W1 w4) from H2.out.trans h4; clear h4)
      | (refine wpList_load_row rfl 27 (.tmp 3) rfl g0 (by kernel_rfl) 27 #[.slice a n c] (0, 0) _ (HR.out _ (by first | exact After.refl _ | exact H2.out | exact H4.out)) Try.underlying27 rfl (size27 a n c) ?_))
    have HB : Hid (After w w4) := HW.out.2.2.trans H4.out
    have HN : Hid (g0 + 1 < w4.heap.size) := Nat.lt_of_lt_of_le HW.out.2.1.lt H4.out.size
    have C32 : Hid (∀ W, After w W → Calls Try.prog 32 #[.string (strOf nm), .slice ao m ca] W fun e w' => ∃ g a' c', e = .returned (.slice (some ⟨g, 0, none⟩) 1 1) ∧ OwnB w' W.heap.size (.slice (some ⟨g, 0, none⟩) 1 1) [⟨nm, a', c', l⟩] ∧ After W w') := fun W hW => own32 HA.out.2.1 HA.out.2.2.1 (by have := HM16.out; omega) HA.out.2.2.2 (HA.out.1.after hW)
    refine wp_region_noPanic ?_
    refine wp_region_held_drew (S := Below (g0 + 1) w4) (by kernel_rfl) ((Below.refl _ _).drew) ?_
    intro hS0
    refine tk 0 25 (.agg #[.slice a n c]) (fuel := 7) rfl (by kernel_rfl) (by kernel_rfl) (by kernel_rfl) (by kernel_rfl) noPanic_false (by kernel_rfl) (fun W hW => x_ld27 (x := .tmp 3) (by kernel_rfl) (by kernel_rfl) ((HR.out w4 H4.out).below hW (by have := (HR.out w4 H4.out); omega))) hS0 ?_
    refine tk 1 26 (.int .i64 (pl : Int)) (fuel := 6) rfl (by kernel_rfl) (by kernel_rfl) (by kernel_rfl) (by kernel_rfl) noPanic_false (by kernel_rfl) (fun _ _ => by kernel_rfl) hS0 ?_
    refine tk 2 27 (.string (strOf nm)) (fuel := 5) rfl (by kernel_rfl) (by kernel_rfl) (by kernel_rfl) (by kernel_rfl) noPanic_false (by kernel_rfl) (fun _ _ => by kernel_rfl) hS0 ?_
    refine tk 3 28 (.slice ao m ca) (fuel := 4) rfl (by kernel_rfl) (by kernel_rfl) (by kernel_rfl) (by kernel_rfl) noPanic_false (by kernel_rfl) (fun _ _ => by kernel_rfl) hS0 ?_
    refine tkCallZ 4 29 32 #[.string (strOf nm), .slice ao m ca] (fun v w' => ∃ g a' c', v = .slice (some ⟨g, 0, none⟩) 1 1 ∧ OwnB w' w4.heap.size (.slice (some ⟨g, 0, none⟩) 1 1) [⟨nm, a', c', l⟩] ∧ After w4 w') (fuel := 3) rfl (by kernel_rfl) (by kernel_rfl) (by kernel_rfl) (fun _ => by kernel_rfl) ((C32.out w4.drew (HB.out.drew)).mono (fun e w' ⟨g, a', c', he, ho, ha⟩ => ⟨_, he, g, a', c', rfl, ho, (After.refl w4).drew.trans ha⟩)) ?_
    intro v5 w5 ⟨g5, a5, c5, hv5, ho5, ha5⟩
    subst hv5
    have hk5 : Below (g0 + 1) w4 w5 := Below.mono ha5 (by have := HB.out.size; have := HG0.out; have := HN.out; omega)
    refine ⟨hk5, ?_⟩
    obtain ⟨ay, cy, ey, hy⟩ := ho5.at
    simp only [List.length_singleton] at ey
    injection ey with ey1 _ ey3
    subst ey1 ey3
    have hW5 : After w w5 := HB.out.trans ha5
    refine tkCallZ 5 30 43 #[.agg #[.slice a n c], .int .i64 (pl : Int), .int .i64 1, .slice (some ⟨g5, 0, none⟩) 1 1] (fun v w' => ∃ a' n' c', v = .agg #[.slice a' n' c'] ∧ RT w' a' n' c' (X.take pl ++ [⟨nm, a5, c5, l⟩] ++ X.drop (pl + 1)) ∧ After w5 w' ∧ (∀ ad, a' = some ad → w5.heap.size ≤ ad.block)) (fuel := 2) rfl (by kernel_rfl) (by kernel_rfl) (by kernel_rfl) (fun _ => by kernel_rfl) ((put43 (k := 1) (HT.out.1.after hW5) rfl (by have := HQ.out; omega) hy (m := 1) rfl (fun e => by cases e) (show (n + 1) * 40 ≤ 140737488355328 by have := HT.out.2.2.1; omega)).mono (fun e w' ⟨a', n', c', he, h⟩ => ⟨_, he, a', n', c', rfl, h⟩)) ?_
    intro v6 w6 ⟨a6, n6, c6, hv6, hRT6, ha6, hge6⟩
    subst hv6
    have hk6 : Below (g0 + 1) w4 w6 := hk5.trans (Below.mono ha6 (by have := hW5.size; have := HN.out; have := ha5.size; omega))
    refine ⟨hk6, ?_⟩
    have hF := fin27 HG0.out HW.out.2 ((H4.out.trans ha5).trans ha6) (.slice a6 n6 c6)
    refine tkStoreS 6 (w6.setRow (g0 + 1) #[.slice a6 n6 c6]) (fuel := 1) rfl (by kernel_rfl) (by kernel_rfl) (by kernel_rfl) (x_stR (x := .tmp 6) (y := .tmp 30) (g := g0 + 1) (cells := #[.slice a6 n6 c6]) (by kernel_rfl) (by kernel_rfl) (by kernel_rfl) hF.1 (size27 a6 n6 c6) rfl (one27 a6 n6 c6)) (hk6.trans (Below.row (Below.refl _ _) (Nat.le_refl _) _)) ?_
    refine tk 7 7 (.int .i64 0) (fuel := 0) rfl (by kernel_rfl) (by kernel_rfl) (by kernel_rfl) (by kernel_rfl) noPanic_false (by kernel_rfl) (fun _ _ => by kernel_rfl) (hk6.trans (Below.row (Below.refl _ _) (Nat.le_refl _) _)) ?_
    refine wpAnyH_done (by kernel_rfl) (NoPanic.normal ?_) _
    have HF : Hid (RowIs (w6.setRow (g0 + 1) #[.slice a6 n6 c6]) (g0 + 1) 27 [.slice a6 n6 c6] ∧ RT (w6.setRow (g0 + 1) #[.slice a6 n6 c6]) a6 n6 c6 (X.take pl ++ [⟨nm, a5, c5, l⟩] ++ X.drop (pl + 1)) ∧ After w (w6.setRow (g0 + 1) #[.slice a6 n6 c6]) ∧ (∀ g, g < w.heap.size → NT g a X → NT g a6 (X.take pl ++ [⟨nm, a5, c5, l⟩] ++ X.drop (pl + 1)))) := ⟨hF.2.1, rt_fin hRT6 (fun ad e => by have := hge6 ad e; have := ha5.size; have := HN.out; omega) (three_el HT.out.1 (fun ad e => by have := (ho5.ge _ (by simp) ad e).1; have := HN.out; omega)) hF.2.2, hF.2.2, fun g hg h => nt_three h (fun ad e => by have := (ho5.ge _ (by simp) ad e).1; have := HN.out; have := HG0.out; omega) (fun ad e => by have := hge6 ad e; have := ha5.size; have := HN.out; have := HG0.out; omega)⟩
    clear hS0 hk5 hy hW5 ho5 ha5 hRT6 ha6 hge6 hk6 hF
    go_simp
    go_wp2
    refine bodyPost_ret (ret27t Try.results26 _ _ (g0 + 1) (.slice a6 n6 c6) (.int .i64 0) (by kernel_rfl) HF.out.1 (by kernel_rfl)) rfl ?_
    exact ⟨_, _, _, by rw [HE.out.1]; rfl, _, HF.out.2.1, by rw [HE.out.2, bof_app, bof_app, bof_take, bof_drop]; rw [← HE2.out]; simp [bof], HF.out.2.2.1, fun g hg => HF.out.2.2.2 g (by have := HG0.out; omega)⟩
set_option maxRecDepth 100000 in
set_option maxHeartbeats 6400000 in
theorem rdelete27 {nm : Dsk.Nm} (hl : nm.length ≤ maxLen) {a : Option Addr} {n c : Nat} {X : List Bx} (hX : TOk (bof X)) {w : World} (hT : RT w a n c X) :
    Calls Try.prog 27 #[.agg #[.slice a n c], .string (strOf nm)] w fun e w' => ∃ a' n' c' X', e = .returned (.tuple #[.agg #[.slice a' n' c'], .int .i64 (dlE (bof X) nm : Int)]) ∧ RT w' a' n' c' X' ∧ bof X' = dlS (bof X) nm ∧ After w w' ∧ (∀ g, g < w.heap.size → NT g a X → NT g a' X') := by
  obtain ⟨g0, hg0⟩ : ∃ g0, w.heap.size = g0 := ⟨_, rfl⟩
  obtain ⟨W1, hW1⟩ : ∃ W1, (w.alloc (.cells #[.slice a n c] 27)).alloc (.cells #[.slice none 0 0] 27) = W1 := ⟨_, rfl⟩
  have HW := show Hid _ from two27 hg0 hW1
  have HG0 : Hid (w.heap.size = g0) := hg0
  have HR : Hid (∀ W, After W1 W → RowIs W g0 27 [.slice a n c]) := fun W hW => HW.out.1.below hW HW.out.1.lt
  have hn64 : n ≤ 64 := by have := hX.few; rw [bof_len, hT.len] at this; exact this
  have HT : Hid (RT w a n c X ∧ TOk (bof X) ∧ n ≤ 64 ∧ nm.length ≤ maxLen) := ⟨hT, hX, hn64, hl⟩
  have C31 := show Hid _ from place31 (nm := nm) (ca := c) hX.ris hT.len hn64 (hT.at_.after HW.out.2.2)
  obtain ⟨bh, hbh⟩ : ∃ b, fhas nm (bof X) = b := ⟨_, rfl⟩
  obtain ⟨pl, hpl⟩ : ∃ k, plc nm (bof X) = k := ⟨_, rfl⟩
  have HP : Hid (fhas nm (bof X) = bh ∧ plc nm (bof X) = pl ∧ pl ≤ n) := ⟨hbh, hpl, by have := plc_le nm (bof X); rw [bof_len, hT.len, hpl] at this; exact this⟩
  rw [hbh, hpl] at C31
  clear hT hX hl hbh hpl hn64
  have HLN : Hid ((bof X).length = n) := by rw [bof_len]; exact HT.out.1.len
  cases bh
  · have HE : Hid (dlE (bof X) nm = 45 ∧ dlS (bof X) nm = bof X) := by
      have : dlE (bof X) nm = 45 := by simp [dlE, HP.out.1]
      exact ⟨this, by unfold dlS; rw [this]; rfl⟩
    go_enter Try.func27, Try.ntmps27
    go_wp2_with (first
      | (rw [hW1]; rw [hg0])
      | (go_at_call 31; refine Calls.mono C31.out ?_; rintro e w2 ⟨rfl, h2⟩; have H2 := show Hid (After W1 w2) from h2; clear h2)
      | (refine wpList_load_row rfl 27 (.tmp 2) rfl g0 (by kernel_rfl) 27 #[.slice a n c] (0, 0) _ (HR.out _ (by first | exact After.refl _ | exact H2.out | exact H4.out)) Try.underlying27 rfl (size27 a n c) ?_)
      | (refine wpList_store_row rfl 27 (.tmp 4) (.tmp 16) rfl (g0 + 1) #[.slice a n c] (by kernel_rfl) (by kernel_rfl) 27 _ (fin27 HG0.out HW.out.2 H2.out (.slice a n c)).1 (size27 a n c) rfl (one27 a n c) ?_))
    refine bodyPost_ret (ret27t Try.results27 _ _ (g0 + 1) (.slice a n c) (.int .i64 45) (by kernel_rfl) (fin27 HG0.out HW.out.2 H2.out (.slice a n c)).2.1 (by kernel_rfl)) rfl ?_
    exact ⟨_, _, _, X, by rw [HE.out.1]; rfl, HT.out.1.after (fin27 HG0.out HW.out.2 H2.out (.slice a n c)).2.2, HE.out.2.symm, (fin27 HG0.out HW.out.2 H2.out (.slice a n c)).2.2, fun _ _ h => h⟩
  · have HE : Hid (dlE (bof X) nm = 0 ∧ dlS (bof X) nm = fdel nm (bof X)) := by
      have : dlE (bof X) nm = 0 := by simp [dlE, HP.out.1]
      exact ⟨this, by unfold dlS; rw [this]; rfl⟩
    have HE2 : Hid ((bof X).take pl ++ (bof X).drop (pl + 1) = fdel nm (bof X)) := by rw [← HP.out.2.1]; exact ((plc_split nm ([] : List H) HT.out.2.1.ris).2.2 HP.out.1).2
    have HQ : Hid (pl + 1 ≤ n) := plc_lt HT.out.2.1.ris HP.out.1 HP.out.2.1 HLN.out
    have C43 : Hid (∀ W, After w W → Calls Try.prog 43 #[.agg #[.slice a n c], .int .i64 (pl : Int), .int .i64 1, .slice none 0 0] W fun e w' => ∃ a' n' c', e = .returned (.agg #[.slice a' n' c']) ∧ RT w' a' n' c' (X.take pl ++ [] ++ X.drop (pl + 1)) ∧ After W w' ∧ (∀ ad, a' = some ad → W.heap.size ≤ ad.block)) := fun W hW => put43 (k := 1) (HT.out.1.after hW) rfl HQ.out (BsAt.nil _ _) (m := 0) rfl (fun _ => rfl) (show (n + 0) * 40 ≤ 140737488355328 by have := HT.out.2.2.1; omega)
    have HB2 : Hid (∀ W, After W1 W → After w W) := fun W hW => HW.out.2.2.trans hW
    go_enter Try.func27, Try.ntmps27
    go_wp2_with (first
      | (rw [hW1]; rw [hg0])
      | (go_at_call 31; refine Calls.mono C31.out ?_; rintro e w2 ⟨rfl, h2⟩; have H2 := show Hid (After W1 w2) from h2; clear h2)
      | (refine wpList_load_row rfl 27 (.tmp 2) rfl g0 (by kernel_rfl) 27 #[.slice a n c] (0, 0) _ (HR.out _ (by first | exact After.refl _ | exact H2.out | exact H4.out)) Try.underlying27 rfl (size27 a n c) ?_)
      | (go_at_call 43; refine Calls.mono (C43.out w2 (HB2.out _ H2.out)) ?_; rintro e w6 ⟨a6, n6, c6, rfl, hRT6, ha6, hge6⟩; have hF := fin27 HG0.out HW.out.2 (H2.out.trans ha6) (.slice a6 n6 c6); have HF : Hid (RowIs w6 (g0 + 1) 27 [.slice none 0 0] ∧ RowIs (w6.setRow (g0 + 1) #[.slice a6 n6 c6]) (g0 + 1) 27 [.slice a6 n6 c6] ∧ RT (w6.setRow (g0 + 1) #[.slice a6 n6 c6]) a6 n6 c6 (X.take pl ++ [] ++ X.drop (pl + 1)) ∧ After w (w6.setRow (g0 + 1) #[.slice a6 n6 c6]) ∧ (∀ g, g < w.heap.size → NT g a X → NT g a6 (X.take pl ++ [] ++ X.drop (pl + 1)))) := ⟨hF.1, hF.2.1, rt_fin hRT6 (fun ad e => by have := hge6 ad e; have := Nat.lt_of_lt_of_le HW.out.2.1.lt H2.out.size; omega) (fun x hx => .inl (HT.out.1.at_.each x (by rcases List.mem_append.1 hx with hx | hx; exact List.mem_of_mem_take (by simpa using hx); exact List.mem_of_mem_drop hx))) hF.2.2, hF.2.2, fun g hg h => nt_cut h (fun ad e => by have := hge6 ad e; have := Nat.lt_of_lt_of_le HW.out.2.1.lt H2.out.size; have := HG0.out; omega)⟩; clear hRT6 ha6 hge6 hF)
      | (refine wpList_store_row rfl 27 (.tmp 4) (.tmp 19) rfl (g0 + 1) #[.slice a6 n6 c6] (by kernel_rfl) (by kernel_rfl) 27 _ HF.out.1 (size27 a6 n6 c6) rfl (one27 a6 n6 c6) ?_))
    refine bodyPost_ret (ret27t Try.results27 _ _ (g0 + 1) (.slice a6 n6 c6) (.int .i64 0) (by kernel_rfl) HF.out.2.1 (by kernel_rfl)) rfl ?_
    exact ⟨_, _, _, _, by rw [HE.out.1]; rfl, HF.out.2.2.1, by rw [HE.out.2, bof_app, bof_app, bof_take, bof_drop]; rw [← HE2.out]; simp [bof], HF.out.2.2.2.1, fun g hg => HF.out.2.2.2.2 g (by have := HG0.out; omega)⟩
set_option maxRecDepth 100000 in
set_option maxHeartbeats 6400000 in
theorem rheads13 {nm : Dsk.Nm} {a : Option Addr} {n c : Nat} {X : List Bx} (hX : TOk (bof X)) {w : World} (hT : RT w a n c X) :
    Calls Try.prog 13 #[.agg #[.slice a n c], .string (strOf nm)] w fun e w' => ∃ a' n' c', e = .returned (.tuple #[.slice a' n' c', .int .i64 (dlE (bof X) nm : Int)]) ∧ n' = ((fget nm (bof X)).getD []).length ∧ SlAt w' 32 a' (hsL ((fget nm (bof X)).getD [])) ∧ After w w' := by
  obtain ⟨g0, hg0⟩ : ∃ g0, w.heap.size = g0 := ⟨_, rfl⟩
  obtain ⟨W1, hW1⟩ : ∃ W1, w.alloc (.cells #[.slice a n c] 27) = W1 := ⟨_, rfl⟩
  have HW : Hid (RowIs W1 g0 27 [.slice a n c] ∧ After w W1) := by rw [← hW1, ← hg0]; exact ⟨RowIs.new w 27 _, after_alloc (After.refl w) _⟩
  have hn64 : n ≤ 64 := by have := hX.few; rw [bof_len, hT.len] at this; exact this
  have HT : Hid (RT w a n c X ∧ TOk (bof X) ∧ n ≤ 64) := ⟨hT, hX, hn64⟩
  have C31 := show Hid _ from place31 (nm := nm) (ca := c) hX.ris hT.len hn64 (hT.at_.after HW.out.2)
  obtain ⟨bh, hbh⟩ : ∃ b, fhas nm (bof X) = b := ⟨_, rfl⟩
  obtain ⟨pl, hpl⟩ : ∃ k, plc nm (bof X) = k := ⟨_, rfl⟩
  have HP : Hid (fhas nm (bof X) = bh ∧ plc nm (bof X) = pl) := ⟨hbh, hpl⟩
  rw [hbh, hpl] at C31
  clear hT hX hbh hpl hn64
  cases bh
  · have HE : Hid (dlE (bof X) nm = 45 ∧ fget nm (bof X) = none) := ⟨by simp [dlE, HP.out.1], fget_none.2 HP.out.1⟩
    go_enter Try.func13, Try.ntmps13
    go_wp2_with (first
      | (rw [hW1]; rw [hg0])
      | (go_at_call 31; refine Calls.mono C31.out ?_; rintro e w2 ⟨rfl, h2⟩; have H2 := show Hid (After W1 w2) from h2; clear h2)
      | (refine wpList_load_row rfl 27 (.tmp 2) rfl g0 (by kernel_rfl) 27 #[.slice a n c] (0, 0) _ HW.out.1 Try.underlying27 rfl (size27 a n c) ?_))
    refine bodyPost_ret (v := .tuple #[.slice none 0 0, .int .i64 45]) (by simp [results, Try.results13, go_sem]) rfl ?_
    exact ⟨none, 0, 0, by rw [HE.out.1]; rfl, by rw [HE.out.2]; rfl, by rw [HE.out.2]; exact SlAt.nil _ _ _, HW.out.2.trans H2.out⟩
  · have hq := plc_lt (n := n) HT.out.2.1.ris HP.out.1 HP.out.2 (by rw [bof_len]; exact HT.out.1.len)
    obtain ⟨x, hx⟩ : ∃ x, X[pl]? = some x := ⟨_, List.getElem?_eq_getElem (by rw [HT.out.1.len]; omega)⟩
    have hg : fget nm (bof X) = some x.l := by
      have h1 := (plc_split nm ([] : List H) HT.out.2.1.ris).1
      rw [HP.out.1, HP.out.2, bof_get hx] at h1
      simp only at h1
      have h2 : x.nm = nm := beq_iff_eq.1 h1.symm
      have h3 := rising_get HT.out.2.1.ris (List.mem_of_getElem? (bof_get hx))
      rw [← h2]; exact h3
    obtain ⟨xb, xo, hxa, hxr⟩ := HT.out.1.at_.sl.at (bs_get hx)
    subst hxa
    obtain ⟨p, hp⟩ : ∃ p, x.l.length = p := ⟨_, rfl⟩
    have HX : Hid (w.rangeAt xb (xo + pl * 2) [.string (strOf x.nm), .slice x.a p x.c] ∧ pl < n ∧ BxAt w x) := ⟨by rw [← hp]; exact hxr, by omega, HT.out.1.at_.each x (List.mem_of_getElem? hx)⟩
    have HE : Hid (dlE (bof X) nm = 0 ∧ fget nm (bof X) = some x.l ∧ p = x.l.length) := ⟨by simp [dlE, HP.out.1], hg, hp.symm⟩
    clear hx hg hxr hp hq
    go_enter Try.func13, Try.ntmps13
    go_wp2_with (first
      | (rw [hW1]; rw [hg0])
      | (go_at_call 31; refine Calls.mono C31.out ?_; rintro e w2 ⟨rfl, h2⟩; have H2 := show Hid (After W1 w2) from h2; have c2 := (HW.out.1.below h2 HW.out.1.lt).cell (j := 0) rfl; have HC : Hid (w2.cell? ⟨xb, xo + pl * 2 + 1, none⟩ = some (.slice x.a p x.c)) := range_after HX.out.1 (HW.out.2.trans h2) 1 _ rfl; clear h2)
      | (refine wpList_load_row rfl 27 (.tmp 2) rfl g0 (by kernel_rfl) 27 #[.slice (some ⟨xb, xo, none⟩) n c] (0, 0) _ HW.out.1 Try.underlying27 rfl (size27 _ n c) ?_)
      | (refine wpList_of_run rfl (x_idx25 (x := .tmp 17) (y := .tmp 18) (b := xb) (f := xo) (n := n) (c := c) (i := pl) rfl (by kernel_rfl) (by kernel_rfl) HX.out.2.1) ?_)
      | (refine wpList_of_run rfl (x_loadT (x := .tmp 20) (t := 30) (g := xb) (j := xo + pl * 2 + 1) Try.underlying30 rfl rfl (by kernel_rfl) HC.out) ?_))
    refine bodyPost_ret (v := .tuple #[.slice x.a p x.c, .int .i64 0]) (by simp [results, Try.results13, go_sem]) rfl ?_
    exact ⟨x.a, p, x.c, by rw [HE.out.1]; rfl, by rw [HE.out.2.1]; exact HE.out.2.2, by rw [HE.out.2.1]; exact (HX.out.2.2.after (HW.out.2.trans H2.out)).sl, HW.out.2.trans H2.out⟩
end Go.Proofs.Ytppbbmnekeelpaa
