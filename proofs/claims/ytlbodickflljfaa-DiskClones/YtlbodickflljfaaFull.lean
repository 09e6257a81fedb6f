/-
  THE WALK OF stemmalaw05.DiskFull.
-/
import Derived.Test.YtlbodickflljfaaPlayed
namespace Go.Proofs.Ytlbodickflljfaa
open Go.RowKit Go.Maps Dsk
theorem stay_find {S : Dk} (hS : Ok S) (hd : S.down = false) {nm : Nm} (h : fhas nm S.files = true) : findE S nm = 0 := by
  obtain ⟨f, hf⟩ := fhas_some h
  have hn := hS.named _ (fget_mem hf)
  simp only at hn
  simp [findE, refuse, hn, hd, h]
theorem full_yes {S : Dk} (hS : Ok S) (hd : S.down = false) {nm : Nm} (h : fhas nm S.files = true) {p : List UInt8} (hp : S.most - used S.files < p.length) : appendE S nm p = 21 ∧ appendS S nm p = S := by
  unfold appendE appendS
  rw [stay_find hS hd h, if_pos rfl, if_pos rfl, if_pos hp, if_pos hp]
  exact ⟨rfl, rfl⟩
theorem full_no {S : Dk} (hS : Ok S) (hd : S.down = false) (hn : S.said = false) {nm : Nm} (h : fhas nm S.files = true) {p : List UInt8} (hp : ¬ S.most - used S.files < p.length) : appendE S nm p = 0 ∧ used (appendS S nm p).files = used S.files + p.length := by
  have hf := stay_find hS hd h
  unfold appendE appendS
  rw [hf, if_pos rfl, if_pos rfl, if_neg hp, if_neg hp]
  have hnow : now S = false := by simp [now, hn]
  refine ⟨by simp [stepE, hnow], ?_⟩
  have := used_put nm (⟨(getF S nm).data ++ p, (getF S nm).safe⟩ : Fl) hS.ris (getF_of hf)
  simp only [stepS, hnow, Bool.false_eq_true, if_false]
  simp only [List.length_append] at this
  omega
set_option maxRecDepth 100000 in
set_option maxHeartbeats 3200000 in
theorem full_any (most : Nat) (hm : most ≤ 65535) (ao : Option Addr) (c : Nat) (l : List Act5) (hn : l.length ≤ 140737488355328) (pa : Option Addr) (pc : Nat) (p : List UInt8) (hpb : p.length ≤ 140737488355328) (w : World) (hat : ActsAt w ao l) (hpa : BytesAt w pa p) :
    Calls Try.prog 9 #[.int .u16 (most : Int), .slice ao l.length c, .slice pa p.length pc] w fun e w' => e = .returned (.bool true) ∧ Below w.heap.size w w' := by
  have HPA : Hid (BytesAt w pa p) := hpa
  have C21 := show Hid _ from played_any (most : Int) ao c l hn w hat
  have hmost : (playS (newS (most : Int)) l).most = most := by rw [playS_most]; simp [newS]; omega
  obtain ⟨S, hS⟩ : ∃ S, playS (newS (most : Int)) l = S := ⟨_, rfl⟩
  rw [hS] at C21 hmost
  obtain ⟨n, hln⟩ : ∃ n, l.length = n := ⟨_, rfl⟩
  rw [hln] at C21 hn ⊢
  obtain ⟨pn, hpn⟩ : ∃ pn, p.length = pn := ⟨_, rfl⟩
  have HPN : Hid (p.length = pn) := hpn
  rw [hpn] at hpb ⊢
  have HPF : Hid (p ≠ [] → ∀ (L : Nat) a, pa = some a → a.block < w.heap.size ∨ L ≤ a.block) := fun hne L a ha => by
    obtain ⟨b, o, e1, hc⟩ := HPA.out hne
    rw [e1] at ha
    cases ha
    exact Or.inl (block_lt_of_cell (hc 0 (by cases p with | nil => exact absurd rfl hne | cons _ _ => simp)))
  clear hat hpa hln hS hpn
  obtain ⟨T, hT⟩ : ∃ T, startS S [] = T := ⟨_, rfl⟩
  have HT : Hid (startS S [] = T) := hT
  have hTd : T.down = false := by rw [← hT]; rfl
  have hTs : T.said = false := by rw [← hT]; rfl
  have hTm : T.most = most := by rw [← hT]; exact hmost
  have hTt : T.steps = S.steps := by rw [← hT]; rfl
  have HTF := show Hid _ from (⟨hTd, hTs, hTm, hTt⟩ : T.down = false ∧ T.said = false ∧ T.most = most ∧ T.steps = S.steps)
  clear hT hTd hTs hTm hTt hmost
  obtain ⟨u, hu⟩ : ∃ u, used T.files = u := ⟨_, rfl⟩
  have HU : Hid (used T.files = u) := hu
  clear hu
  by_cases hemp : T.files = []
  · have HE : Hid (T.files = []) := hemp
    have hu0 : u = 0 := by rw [← HU.out, HE.out]; rfl
    clear hemp
    subst hu0
    go_enter Try.func9, Try.ntmps9
    go_wp2_with (first
      | (go_at_call 21; refine Calls.mono C21.out ?_; rintro e w1 ⟨rfl, h1, hs1⟩; have H1 := show Hid (Live _ _ _ _ _) from h1; clear h1)
      | (go_at_call 19; refine (live_start H1.out none 0 0 [] rfl (Nat.le_refl _) (fun h => absurd rfl h) (fun h => absurd rfl h)).mono ?_; rintro e w2 ⟨rfl, h2⟩; rw [HT.out] at h2; have H2 := show Hid (Live _ _ _ _ _) from h2; clear h2)
      | (go_at_call 26; refine (live_used H2.out).mono ?_; rw [HU.out]; rintro e w3 ⟨rfl, h3⟩; have H3 := show Hid (Live _ _ _ _ _) from H2.out.after h3; clear h3)
      | (go_at_call 25; refine (live_list H3.out).mono ?_; rw [HE.out]; rintro e w4 ⟨v, rfl, hv, h4⟩; have H4 := show Hid (Live _ _ _ _ _) from H3.out.after h4; obtain ⟨na, nc, hv2, _, _⟩ := hv.at; have hv3 : v = .slice na 0 nc := hv2; subst hv3; clear h4 hv hv2)
      | (go_at_call 15; refine (awake_any w4).mono ?_; rintro e w5 ⟨rfl, h5⟩; have A5 : Hid (After w w5) := After.trans H4.out.aft h5; clear h5))
    go_ret
    exact ⟨rfl, A5.out⟩
  · obtain ⟨q, rest, hq⟩ : ∃ q rest, T.files = q :: rest := by
      cases hh : T.files with
      | nil => exact absurd hh hemp
      | cons q rest => exact ⟨q, rest, rfl⟩
    obtain ⟨nm, f⟩ := q
    have HQ : Hid (T.files = (nm, f) :: rest) := hq
    obtain ⟨N, hN⟩ : ∃ N, (T.files.map (·.1)).length = N := ⟨_, rfl⟩
    have hNp : 0 < N := by rw [← hN, hq]; simp
    have HNN : Hid ((T.files.map (·.1)).length = N) := hN
    have hhas : fhas nm T.files = true := by rw [hq]; simp [fhas]
    have HH : Hid (fhas nm T.files = true) := hhas
    clear hemp hq hN hhas
    have hNi : ¬ (N : Int) = 0 := by omega
    have LISTF : Hid (∀ (w4 : World) (L : Nat) (v : Value), OwnS w4 L v (T.files.map (·.1)) → ∃ nb no nc, v = .slice (some ⟨nb, no, none⟩) N nc ∧ w4.cell? ⟨nb, no, none⟩ = some (.string (strOf nm))) := fun w4 L v hv => by
      obtain ⟨na, nc, e1, hat, _⟩ := hv.at
      obtain ⟨b, o, e2, hc⟩ := hat (by rw [HQ.out]; simp)
      refine ⟨b, o, nc, by rw [e1, e2, HNN.out], ?_⟩
      have := hc 0 (by rw [HNN.out]; exact hNp)
      rw [HQ.out] at this
      exact this
    have tok : True := trivial
    by_cases hfull : most - u < pn
    · have hfi : (most : Int) - (u : Int) < (pn : Int) := by omega
      have FY : Hid (Ok T → T.most - used T.files < p.length) := fun _ => by rw [HU.out, HTF.out.2.2.1, HPN.out]; exact hfull
      have FN := show Hid (∀ h : Ok T, appendE T nm p = 21 ∧ appendS T nm p = T) from fun h => full_yes h HTF.out.1 HH.out (FY.out h)
      clear hfull
      go_enter Try.func9, Try.ntmps9
      go_wp2_with (first
        | (go_at_call 21; refine Calls.mono C21.out ?_; rintro e w1 ⟨rfl, h1, hs1⟩; have H1 := show Hid (Live _ _ _ _ _) from h1; have HS1 : Hid (S.steps ≤ n) := hs1; clear h1 hs1)
        | (go_at_call 19; refine (live_start H1.out none 0 0 [] rfl (Nat.le_refl _) (fun h => absurd rfl h) (fun h => absurd rfl h)).mono ?_; rintro e w2 ⟨rfl, h2⟩; rw [HT.out] at h2; have H2 := show Hid (Live _ _ _ _ _) from h2; have hum : u ≤ most := (by have := h2.ok.used; rw [HU.out, HTF.out.2.2.1] at this; exact this); clear h2)
        | (go_at_call 26; have _t := tok; refine (live_used H2.out).mono ?_; rw [HU.out]; rintro e w3 ⟨rfl, h3⟩; have H3 := show Hid (Live _ _ _ _ _) from H2.out.after h3; clear h3 tok)
        | (go_at_call 25; refine (live_list H3.out).mono ?_; rintro e w4 ⟨v, rfl, hv, h4⟩; have H4 := show Hid (Live _ _ _ _ _) from H3.out.after h4; obtain ⟨nb, no, nc, hv2, hc4⟩ := LISTF.out w4 _ v hv; subst hv2; clear h4 hv)
        | (go_at_call 24; refine (live_append H4.out (by have := HS1.out; have := HTF.out.2.2.2; omega) nm (by have := (named_len (H4.out.ok.named (nm, f) (by rw [HQ.out]; simp))).2; simp only at this; unfold maxLen; omega) pa pn pc p HPN.out (HPA.out.after H4.out.aft) (fun hne a ha => HPF.out hne _ a ha)).mono ?_; rw [(FN.out H4.out.ok).1]; rintro e w5 ⟨rfl, h5⟩; have H5 := show Hid (Live _ _ _ _ _) from h5; clear h5)
        | (go_at_call 26; refine (live_used H5.out).mono ?_; rw [(FN.out H4.out.ok).2, HU.out]; rintro e w6 ⟨rfl, h6⟩; have H6 := show Hid (Live _ _ _ _ _) from H5.out.after h6; clear h6)
        | (go_at_call 15; refine (awake_any w6).mono ?_; rintro e w7 ⟨rfl, h7⟩; have A7 : Hid (After w w7) := After.trans H6.out.aft h7; clear h7))
      go_ret
      exact ⟨rfl, A7.out⟩
    · have FN := show Hid (∀ h : Ok T, appendE T nm p = 0 ∧ used (appendS T nm p).files = used T.files + p.length) from fun h => full_no h HTF.out.1 HTF.out.2.1 HH.out (by rw [HU.out, HTF.out.2.2.1, HPN.out]; exact hfull)
      have hfi : ¬ (most : Int) - (u : Int) < (pn : Int) ∨ most < u := by omega
      obtain ⟨u2, hu2⟩ : ∃ u2, u + pn = u2 := ⟨_, rfl⟩
      have hu3 : (u : Int) + (pn : Int) = (u2 : Int) := by omega
      have HU2 : Hid (u + pn = u2) := hu2
      clear hu2
      go_enter Try.func9, Try.ntmps9
      go_wp2_with (first
        | (go_at_call 21; refine Calls.mono C21.out ?_; rintro e w1 ⟨rfl, h1, hs1⟩; have H1 := show Hid (Live _ _ _ _ _) from h1; have HS1 : Hid (S.steps ≤ n) := hs1; clear h1 hs1)
        | (go_at_call 19; refine (live_start H1.out none 0 0 [] rfl (Nat.le_refl _) (fun h => absurd rfl h) (fun h => absurd rfl h)).mono ?_; rintro e w2 ⟨rfl, h2⟩; rw [HT.out] at h2; have H2 := show Hid (Live _ _ _ _ _) from h2; have hum : u ≤ most := (by have := h2.ok.used; rw [HU.out, HTF.out.2.2.1] at this; exact this); clear h2)
        | (go_at_call 26; have _t := tok; refine (live_used H2.out).mono ?_; rw [HU.out]; rintro e w3 ⟨rfl, h3⟩; have H3 := show Hid (Live _ _ _ _ _) from H2.out.after h3; clear h3 tok)
        | (go_at_call 25; refine (live_list H3.out).mono ?_; rintro e w4 ⟨v, rfl, hv, h4⟩; have H4 := show Hid (Live _ _ _ _ _) from H3.out.after h4; obtain ⟨nb, no, nc, hv2, hc4⟩ := LISTF.out w4 _ v hv; subst hv2; clear h4 hv)
        | (go_at_call 24; refine (live_append H4.out (by have := HS1.out; have := HTF.out.2.2.2; omega) nm (by have := (named_len (H4.out.ok.named (nm, f) (by rw [HQ.out]; simp))).2; simp only at this; unfold maxLen; omega) pa pn pc p HPN.out (HPA.out.after H4.out.aft) (fun hne a ha => HPF.out hne _ a ha)).mono ?_; rw [(FN.out H4.out.ok).1]; rintro e w5 ⟨rfl, h5⟩; have H5 := show Hid (Live _ _ _ _ _) from h5; clear h5)
        | (go_at_call 26; refine (live_used H5.out).mono ?_; rw [(FN.out H4.out.ok).2, HU.out, HPN.out, HU2.out]; rintro e w6 ⟨rfl, h6⟩; have H6 := show Hid (Live _ _ _ _ _) from H5.out.after h6; clear h6)
        | (go_at_call 15; refine (awake_any w6).mono ?_; rintro e w7 ⟨rfl, h7⟩; have A7 : Hid (After w w7) := After.trans H6.out.aft h7; clear h7))
      go_ret
      exact ⟨rfl, A7.out⟩
end Go.Proofs.Ytlbodickflljfaa
