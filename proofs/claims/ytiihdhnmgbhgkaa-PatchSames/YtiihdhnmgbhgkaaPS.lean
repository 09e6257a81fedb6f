/-
  PatchSames (4): the law's walk.
-/
import Derived.Test.YtiihdhnmgbhgkaaPR
namespace Go.Proofs.Ytiihdhnmgbhgkaa
open Go.RowKit Go.Maps Go.Sort Dsk
attribute [local go_sem] Oper.semAt_some
set_option maxRecDepth 100000 in
set_option maxHeartbeats 12800000 in
theorem sames4 {w : World} {ao bo : Option Addr} {ca cb n m : Nat} {la lb : List Px} (hla : la.length = n) (hlb : lb.length = m) (hbig : n * 120 ≤ 140737488355328) (hbigm : m ≤ 9223372036854775807) (hnz : ∀ x ∈ la, (x.va = none → x.vc = 0) ∧ (x.fa = none → x.fc = 0)) (hA : PsAt w ao la) (hB : PsAt w bo lb) :
    Calls Try.prog 4 #[.slice ao n ca, .slice bo m cb] w fun e w' => e = .returned (.bool true) ∧ After w w' := by
  have hbig' : n ≤ 9223372036854775807 := by omega
  have HLA : Hid (la.length = n ∧ PsAt w ao la) := ⟨hla, hA⟩
  have H6 : Hid (∀ W, After w W → Calls Try.prog 6 #[.slice ao n ca] W fun e w' => ∃ oa oc, e = .returned (.slice oa n oc) ∧ ∃ ys, CpI W w' la n (.slice oa n oc) ys) := fun W hW => copy6 hla hbig hnz (hA.after hW)
  by_cases he : pts la = pts lb
  · skip
    have H14 : Hid (∀ W, After w W → Calls Try.prog 14 #[.slice ao n ca, .slice bo m cb] W fun e w' => e = .returned (.bool true) ∧ After W w') := fun W hW => by
      have := same14 (ca := ca) (cb := cb) hla hlb hbig' (hA.after hW) (hB.after hW)
      rw [decide_eq_true he] at this; exact this
    have H12 : Hid (∀ W, After w W → Calls Try.prog 12 #[.slice ao n ca, .slice bo m cb] W fun e w' => e = .returned (.bool true) ∧ After W w') := fun W hW => by
      have := rsame12 (ca := ca) (cb := cb) hla hlb hbig' (hA.after hW) (hB.after hW)
      rw [decide_eq_true he] at this; exact this
    have H14b : Hid (∀ W, After w W → Calls Try.prog 14 #[.slice bo m cb, .slice ao n ca] W fun e w' => e = .returned (.bool true) ∧ After W w') := fun W hW => by
      have := same14 (ca := cb) (cb := ca) hlb hla hbigm (hB.after hW) (hA.after hW)
      rw [decide_eq_true (he.symm)] at this; exact this
    clear he
    have HT : Hid (∀ W oa oc (ys : List Px), PsAt W ao la → PsAt W oa ys → pts ys = pts la → ys.length = n → Calls Try.prog 14 #[.slice ao n ca, .slice oa n oc] W fun e w' => e = .returned (.bool true) ∧ After W w') := fun W oa oc ys h1 h2 h3 h4 => by
      have := same14 (ca := ca) (cb := oc) hla h4 hbig' h1 h2
      rw [h3, decide_eq_true rfl] at this
      exact this
    clear hla hlb hA hB hbig hbig' hbigm hnz
    go_enter Try.func4, Try.ntmps4
    go_wp2_with (first
      | (go_at_call 14; refine Calls.mono (H14.out w (After.refl w)) ?_; rintro e w1 ⟨rfl, h1⟩; have A1 := show Hid (After w w1) from h1; clear h1)
      | (go_at_call 12; refine Calls.mono (H12.out w1 A1.out) ?_; rintro e w2 ⟨rfl, h2⟩; have A2 := show Hid (After w w2) from A1.out.trans h2; clear h2)
      | (go_at_call 14; refine Calls.mono (H14b.out w2 A2.out) ?_; rintro e w3 ⟨rfl, h3⟩; have A3 := show Hid (After w w3) from A2.out.trans h3; clear h3)
      | (go_at_call 12; refine Calls.mono (H12.out w3 A3.out) ?_; rintro e w4 ⟨rfl, h4⟩; have A4 := show Hid (After w w4) from A3.out.trans h4; clear h4)
      | (go_at_call 6; refine Calls.mono (H6.out w4 A4.out) ?_; rintro e w5 ⟨oa, oc, rfl, ys, h5⟩; have A5 := show Hid (After w w5 ∧ PsAt w5 oa ys ∧ pts ys = pts la ∧ ys.length = n) from (by { have hy := congrArg List.length h5.same; unfold pts at hy; rw [List.length_map, List.length_take, List.length_map, HLA.out.1] at hy; have hy2 : ys.length = n := (by omega); obtain ⟨a', c', e', hs'⟩ := h5.own.sl; injection e' with e1 _ _; refine ⟨A4.out.trans h5.aft, ⟨by rw [e1]; exact hs', fun y hy => (h5.each y hy).at⟩, ?_, hy2⟩; rw [h5.same]; unfold pts; exact List.take_of_length_le (by rw [List.length_map, HLA.out.1]; exact Nat.le_refl _) }); clear h5)
      | (go_at_call 14; refine Calls.mono (HT.out w5 oa oc ys (HLA.out.2.after A5.out.1) A5.out.2.1 A5.out.2.2.1 A5.out.2.2.2) ?_; rintro e w6 ⟨rfl, h6⟩; have A6 := show Hid (After w w6) from A5.out.1.trans h6; clear h6)
      | (go_at_call 13; refine Calls.mono (awake13 _) ?_; rintro e w7 ⟨rfl, h7⟩; have A7 := show Hid (After w w7) from A6.out.trans h7; clear h7))
    go_ret
    exact ⟨rfl, A7.out⟩
  · skip
    have H14 : Hid (∀ W, After w W → Calls Try.prog 14 #[.slice ao n ca, .slice bo m cb] W fun e w' => e = .returned (.bool false) ∧ After W w') := fun W hW => by
      have := same14 (ca := ca) (cb := cb) hla hlb hbig' (hA.after hW) (hB.after hW)
      rw [decide_eq_false he] at this; exact this
    have H12 : Hid (∀ W, After w W → Calls Try.prog 12 #[.slice ao n ca, .slice bo m cb] W fun e w' => e = .returned (.bool false) ∧ After W w') := fun W hW => by
      have := rsame12 (ca := ca) (cb := cb) hla hlb hbig' (hA.after hW) (hB.after hW)
      rw [decide_eq_false he] at this; exact this
    have H14b : Hid (∀ W, After w W → Calls Try.prog 14 #[.slice bo m cb, .slice ao n ca] W fun e w' => e = .returned (.bool false) ∧ After W w') := fun W hW => by
      have := same14 (ca := cb) (cb := ca) hlb hla hbigm (hB.after hW) (hA.after hW)
      rw [decide_eq_false (fun q => he q.symm)] at this; exact this
    clear he
    have HT : Hid (∀ W oa oc (ys : List Px), PsAt W ao la → PsAt W oa ys → pts ys = pts la → ys.length = n → Calls Try.prog 14 #[.slice ao n ca, .slice oa n oc] W fun e w' => e = .returned (.bool true) ∧ After W w') := fun W oa oc ys h1 h2 h3 h4 => by
      have := same14 (ca := ca) (cb := oc) hla h4 hbig' h1 h2
      rw [h3, decide_eq_true rfl] at this
      exact this
    clear hla hlb hA hB hbig hbig' hbigm hnz
    go_enter Try.func4, Try.ntmps4
    go_wp2_with (first
      | (go_at_call 14; refine Calls.mono (H14.out w (After.refl w)) ?_; rintro e w1 ⟨rfl, h1⟩; have A1 := show Hid (After w w1) from h1; clear h1)
      | (go_at_call 12; refine Calls.mono (H12.out w1 A1.out) ?_; rintro e w2 ⟨rfl, h2⟩; have A2 := show Hid (After w w2) from A1.out.trans h2; clear h2)
      | (go_at_call 14; refine Calls.mono (H14b.out w2 A2.out) ?_; rintro e w3 ⟨rfl, h3⟩; have A3 := show Hid (After w w3) from A2.out.trans h3; clear h3)
      | (go_at_call 12; refine Calls.mono (H12.out w3 A3.out) ?_; rintro e w4 ⟨rfl, h4⟩; have A4 := show Hid (After w w4) from A3.out.trans h4; clear h4)
      | (go_at_call 6; refine Calls.mono (H6.out w4 A4.out) ?_; rintro e w5 ⟨oa, oc, rfl, ys, h5⟩; have A5 := show Hid (After w w5 ∧ PsAt w5 oa ys ∧ pts ys = pts la ∧ ys.length = n) from (by { have hy := congrArg List.length h5.same; unfold pts at hy; rw [List.length_map, List.length_take, List.length_map, HLA.out.1] at hy; have hy2 : ys.length = n := (by omega); obtain ⟨a', c', e', hs'⟩ := h5.own.sl; injection e' with e1 _ _; refine ⟨A4.out.trans h5.aft, ⟨by rw [e1]; exact hs', fun y hy => (h5.each y hy).at⟩, ?_, hy2⟩; rw [h5.same]; unfold pts; exact List.take_of_length_le (by rw [List.length_map, HLA.out.1]; exact Nat.le_refl _) }); clear h5)
      | (go_at_call 14; refine Calls.mono (HT.out w5 oa oc ys (HLA.out.2.after A5.out.1) A5.out.2.1 A5.out.2.2.1 A5.out.2.2.2) ?_; rintro e w6 ⟨rfl, h6⟩; have A6 := show Hid (After w w6) from A5.out.1.trans h6; clear h6)
      | (go_at_call 13; refine Calls.mono (awake13 _) ?_; rintro e w7 ⟨rfl, h7⟩; have A7 := show Hid (After w w7) from A6.out.trans h7; clear h7))
    go_ret
    exact ⟨rfl, A7.out⟩
end Go.Proofs.Ytiihdhnmgbhgkaa
