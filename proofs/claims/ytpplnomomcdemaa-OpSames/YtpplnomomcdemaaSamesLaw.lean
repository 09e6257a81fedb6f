/-
  THE WALK OF stemmalaw07.OpSames.
-/
import Derived.Test.YtpplnomomcdemaaAwake
namespace Go.Proofs.Ytpplnomomcdemaa
open Go.RowKit Leb
set_option maxRecDepth 100000 in
set_option maxHeartbeats 1200000 in
theorem sames_any (ao bo : Option Addr) (ca cb : Nat) (la lb : List Opn) (n m : Nat) (hla : la.length = n) (hlb : lb.length = m) (hbn : n ≤ 1152921504606846976) (hbm : m ≤ 1152921504606846976) (w : World) (hA : OpsAt w ao la) (hB : OpsAt w bo lb) :
    Calls Try.prog 6 #[.slice ao n ca, .slice bo m cb] w fun e w' => e = .returned (.bool true) ∧ After w w' := by
  have HF : Hid (la.length = n ∧ lb.length = m ∧ OpsAt w ao la ∧ OpsAt w bo lb) := ⟨hla, hlb, hA, hB⟩
  obtain ⟨q, hq⟩ : ∃ q, decide (la = lb) = q := ⟨_, rfl⟩
  have HQ : Hid (decide (la = lb) = q ∧ decide (lb = la) = q) := ⟨hq, by rw [← hq]; exact decide_eq_decide.2 eq_comm⟩
  clear hla hlb hA hB hq
  have HT0 : Hid True := trivial
  go_enter Try.func6, Try.ntmps6
  go_wp2_with (first
    | (go_at_call 13; refine Calls.mono (awake_any w5) ?_; rintro e w6 ⟨rfl, ha⟩; have H6 := show Hid (After w w6) from After.trans H5.out ha; clear ha)
    | (go_at_call 19; have _u := H4.out; clear _u; refine Calls.mono (same19 ao ao ca ca la la n n HF.out.1 HF.out.1 hbn w4 (HF.out.2.2.1.after H4.out) (HF.out.2.2.1.after H4.out)) ?_; rw [decide_eq_true rfl]; rintro e w5 ⟨rfl, ha⟩; have H5 := show Hid (After w w5) from After.trans H4.out ha; clear ha)
    | (go_at_call 16; have _u := H3.out; clear _u; refine Calls.mono (rsame16 ao bo ca cb la lb n m HF.out.1 HF.out.2.1 hbn w3 (HF.out.2.2.1.after H3.out) (HF.out.2.2.2.after H3.out)) ?_; rw [HQ.out.1]; rintro e w4 ⟨rfl, ha⟩; have H4 := show Hid (After w w4) from After.trans H3.out ha; clear ha)
    | (go_at_call 19; have _u := H2.out; clear _u; refine Calls.mono (same19 bo ao cb ca lb la m n HF.out.2.1 HF.out.1 hbm w2 (HF.out.2.2.2.after H2.out) (HF.out.2.2.1.after H2.out)) ?_; rw [HQ.out.2]; rintro e w3 ⟨rfl, ha⟩; have H3 := show Hid (After w w3) from After.trans H2.out ha; clear ha)
    | (go_at_call 16; have _u := H1.out; clear _u; refine Calls.mono (rsame16 ao bo ca cb la lb n m HF.out.1 HF.out.2.1 hbn w1 (HF.out.2.2.1.after H1.out) (HF.out.2.2.2.after H1.out)) ?_; rw [HQ.out.1]; rintro e w2 ⟨rfl, ha⟩; have H2 := show Hid (After w w2) from After.trans H1.out ha; clear ha)
    | (go_at_call 19; refine Calls.mono (same19 ao bo ca cb la lb n m HF.out.1 HF.out.2.1 hbn w HF.out.2.2.1 HF.out.2.2.2) ?_; rw [HQ.out.1]; rintro e w1 ⟨rfl, ha⟩; have H1 := show Hid (After w w1) from ha; clear ha))
  go_ret
  exact ⟨rfl, H6.out⟩
end Go.Proofs.Ytpplnomomcdemaa
