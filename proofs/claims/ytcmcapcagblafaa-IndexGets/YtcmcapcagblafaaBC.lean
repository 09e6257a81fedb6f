/-
  THE CALLS OF A TABLE: Create (20), Move (21), Delete (22), Heads (12).
-/
import Derived.Test.YtcmcapcagblafaaBL
namespace Go.Proofs.Ytcmcapcagblafaa
open Go.RowKit Go.Maps Dsk
attribute [local go_sem] Oper.semAt_some
theorem more_of (F : Nat → Prop) (w w' : World) : ∀ b, F b → more F w w' b := fun _ h => .inl h
theorem name36 {nm : Dsk.Nm} (hl : nm.length ≤ maxLen) (w : World) : Calls Try.prog 69 #[.string (strOf nm)] w fun e w' => e = .returned (.bool (nmB nm)) ∧ w' = w := by
  have := name_one (strOf nm) w (by rw [strOf_size]; exact hl)
  simpa [strOf] using this
theorem rname33 {nm : Dsk.Nm} (hl : nm.length ≤ maxLen) (w : World) : Calls Try.prog 48 #[.string (strOf nm)] w fun e w' => e = .returned (.bool (nmB nm)) ∧ w' = w := by
  have := refName_one (strOf nm) w (by rw [strOf_size]; exact hl)
  simpa [strOf] using this
theorem more_sub (F : Nat → Prop) {w w1 w2 : World} (h : w.heap.size ≤ w1.heap.size) : ∀ b, more F w1 w2 b → more F w w2 b := fun b hb => by
  rcases hb with hb | hb
  · exact .inl hb
  · exact .inr ⟨by omega, hb.2⟩
theorem x_len60 {oi : Oper} {a : Act} {w : World} {m : Operand} {mb : Nat} {cs : List Ent} (hop : oi.op = .call { callee := .builtin .len, args := #[m], argTypes := #[153] }) (hm : a.eval m = .map (some mb)) (hown : w.ownsMap Try.prog 9 Rv mb cs.length (.map (toE (vals cs)))) : (execOp a.eval oi).run Try.prog w = .ok (.value (.int .i64 (cs.length : Int))) w := by
  have h := hown.len (t := 153) Try.underlying153 oi.type
  rw [size_E, vals_len] at h
  unfold execOp
  simp only [hop, resolve, invoke, builtin, Sem.run_bind, Sem.run_pure, Result.andThen_ok, List.map_toArray, List.map_cons, List.map_nil, hm, h]
set_option maxRecDepth 100000 in
set_option maxHeartbeats 1600000 in
theorem create20 {F : Nat → Prop} {tb mb : Nat} {cs : List Ent} {nm : Dsk.Nm} (hl : nm.length ≤ maxLen) (hcs : TOk (fls cs)) {ao : Option Addr} {ca n : Nat} {l : List H} (h32 : All32 l) (hln : l.length = n) {w : World} (hz : ao = none → ca = 0) (hA : SlAt w 32 ao (hsL l)) (hT : TbA w F tb mb cs) :
    Calls Try.prog 87 #[.pointer (some ⟨tb, 0, none⟩), .string (strOf nm), .slice ao n ca] w fun e w' => e = .returned (.int .i64 (crE (fls cs) nm l : Int)) ∧ ∃ cs', fls cs' = crS (fls cs) nm l ∧ TbA w' (more F w w') tb mb cs' ∧ KeptF (fun b => b = mb) w w' := by
  have HT : Hid (TbA w F tb mb cs) := hT
  have HA : Hid (SlAt w 32 ao (hsL l) ∧ All32 l ∧ l.length = n ∧ (ao = none → ca = 0)) := ⟨hA, h32, hln, hz⟩
  have HL : Hid (nm.length ≤ maxLen ∧ TOk (fls cs)) := ⟨hl, hcs⟩
  have C37 : Hid (∀ W, After w W → Calls Try.prog 110 #[.slice ao n ca] W fun e w' => e = .returned (.bool (mayB l)) ∧ After W w') := fun W hW => may37 h32 hln (hA.after hW)
  have C29 : Hid (∀ W, After w W → Calls Try.prog 111 #[.pointer (some ⟨tb, 0, none⟩), .string (strOf nm)] W fun e w' => e = .returned (.bool (fhas nm (fls cs))) ∧ W = w') := fun W hW => (has29 hl (hT.after hW)).mono (fun e w' ⟨h1, h2⟩ => ⟨h1, h2.symm⟩)
  obtain ⟨bm, hbm⟩ : ∃ b, mayB l = b := ⟨_, rfl⟩
  obtain ⟨bh, hbh⟩ : ∃ b, fhas nm (fls cs) = b := ⟨_, rfl⟩
  have HB : Hid (mayB l = bm ∧ fhas nm (fls cs) = bh) := ⟨hbm, hbh⟩
  rw [hbm] at C37
  rw [hbh] at C29
  have C36 : Hid (Calls Try.prog 69 #[.string (strOf nm)] w fun e w' => e = .returned (.bool (nmB nm)) ∧ w = w') := (name36 hl w).mono (fun e w' ⟨h1, h2⟩ => ⟨h1, h2.symm⟩)
  obtain ⟨bn, hbn⟩ : ∃ b, nmB nm = b := ⟨_, rfl⟩
  have HN : Hid (nmB nm = bn) := hbn
  rw [hbn] at C36
  clear hT hA h32 hln hz hl hcs hbm hbh hbn
  cases bn
  · have HE : Hid (crE (fls cs) nm l = 30 ∧ crS (fls cs) nm l = fls cs) := by
      have : crE (fls cs) nm l = 30 := by simp [crE, HN.out]
      exact ⟨this, by unfold crS; rw [this]; rfl⟩
    go_enter Try.func87, Try.ntmps87
    go_wp2_with (go_at_call 69; refine Calls.mono C36.out ?_; rintro e w1 ⟨rfl, rfl⟩)
    go_ret
    exact ⟨by rw [HE.out.1]; rfl, cs, HE.out.2.symm, HT.out.mono (more_of F _ _), KeptF.refl _ _⟩
  cases bm
  · have HE : Hid (crE (fls cs) nm l = 41 ∧ crS (fls cs) nm l = fls cs) := by
      have : crE (fls cs) nm l = 41 := by simp [crE, HN.out, HB.out]
      exact ⟨this, by unfold crS; rw [this]; rfl⟩
    go_enter Try.func87, Try.ntmps87
    go_wp2_with (first | (go_at_call 69; refine Calls.mono C36.out ?_; rintro e w1 ⟨rfl, rfl⟩) | (go_at_call 110; refine Calls.mono (C37.out _ (After.refl _)) ?_; rintro e w2 ⟨rfl, h2⟩; have H2 := show Hid (After w w2) from h2; have c2 := (HT.out.after h2).row.cell (j := 0) rfl; clear h2))
    go_ret
    exact ⟨by rw [HE.out.1]; rfl, cs, HE.out.2.symm, (HT.out.after H2.out).mono (more_of F _ _), KeptF.of_after H2.out⟩
  cases bh
  rotate_left
  · have HE : Hid (crE (fls cs) nm l = 23 ∧ crS (fls cs) nm l = fls cs) := by
      have : crE (fls cs) nm l = 23 := by simp [crE, HN.out, HB.out]
      exact ⟨this, by unfold crS; rw [this]; rfl⟩
    go_enter Try.func87, Try.ntmps87
    go_wp2_with (first | (go_at_call 69; refine Calls.mono C36.out ?_; rintro e w1 ⟨rfl, rfl⟩) | (go_at_call 110; refine Calls.mono (C37.out _ (After.refl _)) ?_; rintro e w2 ⟨rfl, h2⟩; have H2 := show Hid (After w w2) from h2; have c2 := (HT.out.after h2).row.cell (j := 0) rfl; clear h2) | (go_at_call 111; refine Calls.mono (C29.out _ (by first | exact H2.out | exact After.refl _)) ?_; rintro e w3 ⟨rfl, rfl⟩))
    go_ret
    exact ⟨by rw [HE.out.1]; rfl, cs, HE.out.2.symm, (HT.out.after H2.out).mono (more_of F _ _), KeptF.of_after H2.out⟩
  by_cases h64 : 64 ≤ cs.length
  · have HE : Hid (crE (fls cs) nm l = 21 ∧ crS (fls cs) nm l = fls cs) := by
      have : crE (fls cs) nm l = 21 := by simp [crE, HN.out, HB.out, fls_len, h64]
      exact ⟨this, by unfold crS; rw [this]; rfl⟩
    have h64' : (64 : Int) ≤ (cs.length : Int) := by omega
    go_enter Try.func87, Try.ntmps87
    go_wp2_with (first | (go_at_call 69; refine Calls.mono C36.out ?_; rintro e w1 ⟨rfl, rfl⟩) | (go_at_call 110; refine Calls.mono (C37.out _ (After.refl _)) ?_; rintro e w2 ⟨rfl, h2⟩; have H2 := show Hid (After w w2) from h2; have c2 := (HT.out.after h2).row.cell (j := 0) rfl; clear h2) | (go_at_call 111; refine Calls.mono (C29.out _ (by first | exact H2.out | exact After.refl _)) ?_; rintro e w3 ⟨rfl, rfl⟩) | (refine wpList_of_run rfl (x_len60 (m := .tmp 26) (mb := mb) (cs := cs) rfl rfl (HT.out.after H2.out).own) ?_))
    go_ret
    exact ⟨by rw [HE.out.1]; rfl, cs, HE.out.2.symm, (HT.out.after H2.out).mono (more_of F _ _), KeptF.of_after H2.out⟩
  · have HE : Hid (crE (fls cs) nm l = 0 ∧ crS (fls cs) nm l = fput nm l (fls cs)) := by
      have : crE (fls cs) nm l = 0 := by simp [crE, HN.out, HB.out, fls_len]; omega
      exact ⟨this, by unfold crS; rw [this]; rfl⟩
    have h64' : ¬ (64 : Int) ≤ (cs.length : Int) := by omega
    have hn16 : n ≤ 16 := by have := mayB_len HB.out.1; rw [HA.out.2.2.1] at this; exact this
    have H16 : Hid (n ≤ 16 ∧ cs.length ≤ 64) := ⟨hn16, by omega⟩
    clear hn16
    go_enter Try.func87, Try.ntmps87
    go_wp2_with (first | (go_at_call 69; refine Calls.mono C36.out ?_; rintro e w1 ⟨rfl, rfl⟩) | (go_at_call 110; refine Calls.mono (C37.out _ (After.refl _)) ?_; rintro e w2 ⟨rfl, h2⟩; have H2 := show Hid (After w w2) from h2; have c2 := (HT.out.after h2).row.cell (j := 0) rfl; clear h2) | (go_at_call 111; refine Calls.mono (C29.out _ (by first | exact H2.out | exact After.refl _)) ?_; rintro e w3 ⟨rfl, rfl⟩) | (refine wpList_of_run rfl (x_len60 (m := .tmp 26) (mb := mb) (cs := cs) rfl rfl (HT.out.after H2.out).own) ?_) | (go_at_call 112; refine Calls.mono (lay35 (nm := nm) (nmB_len HN.out) H16.out.2 HA.out.2.1 HA.out.2.2.1 H16.out.1 HA.out.2.2.2 (HA.out.1.after H2.out) (HT.out.after H2.out)) ?_; rintro e w4 ⟨rfl, v, hT4, hK4⟩; have H4 := show Hid (TbA w4 (more F w2 w4) tb mb (fput nm (v, l) cs) ∧ KeptF (fun b => b = mb) w2 w4) from ⟨hT4, hK4⟩; clear hT4 hK4))
    go_ret
    exact ⟨by rw [HE.out.1]; rfl, _, by rw [HE.out.2, fls_put], H4.out.1.mono (more_sub F H2.out.size), (KeptF.of_after H2.out).trans H4.out.2 (fun _ _ h => h)⟩
end Go.Proofs.Ytcmcapcagblafaa
