/-
  THE WALKS OF stemmaref09.Check, Many AND stemmalaw09.BloomChecks.
-/
import Derived.Test.YtgcgblecendijaaRQ
namespace Go.Proofs.Ytgcgblecendijaa
open Go.RowKit Leb

set_option maxRecDepth 100000 in
set_option maxHeartbeats 4000000 in
theorem rcheck_true (ao : Option Addr) (n cap : Nat) (bs : List UInt8) (hl : bs.length = n) (hcap : n ≤ cap) (hbig : n ≤ 1152921504606846976) (w : World) (hat : BytesAt w ao bs) (hb : okB bs = true) :
    Calls Try.prog 14 #[.slice ao n cap] w fun e w' => e = .returned (.int .i64 0) ∧ After w w' := by
  have HC := show Hid _ from parts_any ao n cap bs hl hcap hbig w hat
  unfold PtPost at HC
  rw [hb] at HC
  obtain ⟨m, hm⟩ : ∃ m, (rdP bs).many = m := ⟨_, rfl⟩
  obtain ⟨s, hs⟩ : ∃ m, (rdP bs).seed = m := ⟨_, rfl⟩
  rw [hm, hs] at HC
  clear hl hcap hbig hat hb hm hs
  go_enter Try.func14, Try.ntmps14
  go_wp2_with (go_at_call 27; refine Calls.mono HC.out ?_; rintro e w1 ⟨a, k, c, rfl, _, _, _, ha⟩; have H1 := show Hid (After w w1) from ha; clear ha)
  go_ret
  exact ⟨rfl, H1.out⟩

set_option maxRecDepth 100000 in
set_option maxHeartbeats 4000000 in
theorem rcheck_false (ao : Option Addr) (n cap : Nat) (bs : List UInt8) (hl : bs.length = n) (hcap : n ≤ cap) (hbig : n ≤ 1152921504606846976) (w : World) (hat : BytesAt w ao bs) (hb : okB bs = false) :
    Calls Try.prog 14 #[.slice ao n cap] w fun e w' => e = .returned (.int .i64 4) ∧ After w w' := by
  have HC := show Hid _ from parts_any ao n cap bs hl hcap hbig w hat
  unfold PtPost at HC
  rw [hb] at HC
  obtain ⟨m, hm⟩ : ∃ m, (rdP bs).many = m := ⟨_, rfl⟩
  obtain ⟨s, hs⟩ : ∃ m, (rdP bs).seed = m := ⟨_, rfl⟩
  rw [hm, hs] at HC
  clear hl hcap hbig hat hb hm hs
  go_enter Try.func14, Try.ntmps14
  go_wp2_with (go_at_call 27; refine Calls.mono HC.out ?_; rintro e w1 ⟨a, k, c, rfl, _, _, _, ha⟩; have H1 := show Hid (After w w1) from ha; clear ha)
  go_ret
  exact ⟨rfl, H1.out⟩

theorem rcheck_any (ao : Option Addr) (n cap : Nat) (bs : List UInt8) (hl : bs.length = n) (hcap : n ≤ cap) (hbig : n ≤ 1152921504606846976) (w : World) (hat : BytesAt w ao bs) :
    Calls Try.prog 14 #[.slice ao n cap] w fun e w' => e = .returned (.int .i64 (ckE bs : Int)) ∧ After w w' := by
  by_cases h : rdOk bs
  · have hc : ckE bs = 0 := by unfold ckE; rw [if_pos h]
    rw [hc]
    exact rcheck_true ao n cap bs hl hcap hbig w hat (okB_yes h)
  · have hc : ckE bs = 4 := by unfold ckE; rw [if_neg h]
    rw [hc]
    exact rcheck_false ao n cap bs hl hcap hbig w hat (okB_no h)

set_option maxRecDepth 100000 in
set_option maxHeartbeats 4000000 in
theorem rmany_any (ao : Option Addr) (n cap : Nat) (bs : List UInt8) (hl : bs.length = n) (hcap : n ≤ cap) (hbig : n ≤ 1152921504606846976) (w : World) (hat : BytesAt w ao bs) :
    Calls Try.prog 16 #[.slice ao n cap] w fun e w' => e = .returned (.int .i64 ((rdP bs).many : Int)) ∧ After w w' := by
  have HC := show Hid _ from parts_any ao n cap bs hl hcap hbig w hat
  unfold PtPost at HC
  obtain ⟨m, hm⟩ : ∃ m, (rdP bs).many = m := ⟨_, rfl⟩
  obtain ⟨s, hs⟩ : ∃ m, (rdP bs).seed = m := ⟨_, rfl⟩
  obtain ⟨b, hb⟩ : ∃ m, okB bs = m := ⟨_, rfl⟩
  rw [hm, hs, hb] at HC
  rw [hm]
  clear hl hcap hbig hat hb hm hs
  go_enter Try.func16, Try.ntmps16
  go_wp2_with (go_at_call 27; refine Calls.mono HC.out ?_; rintro e w1 ⟨a, k, c, rfl, _, _, _, ha⟩; have H1 := show Hid (After w w1) from ha; clear ha)
  go_ret
  exact ⟨rfl, H1.out⟩

set_option maxRecDepth 100000 in
set_option maxHeartbeats 4000000 in
theorem checks_any (ao : Option Addr) (n cap : Nat) (bs : List UInt8) (hl : bs.length = n) (hcap : n ≤ cap) (hbig : n ≤ 1152921504606846976) (w : World) (hat : BytesAt w ao bs) :
    Calls Try.prog 4 #[.slice ao n cap] w fun e w' => e = .returned (.bool true) ∧ After w w' := by
  obtain ⟨q, hq⟩ : ∃ q, ckE bs = q := ⟨_, rfl⟩
  obtain ⟨m, hm⟩ : ∃ m, (rdP bs).many = m := ⟨_, rfl⟩
  have HV : Hid (ckE bs = q ∧ (rdP bs).many = m ∧ bs.length = n ∧ n ≤ cap ∧ n ≤ 1152921504606846976 ∧ BytesAt w ao bs) := ⟨hq, hm, hl, hcap, hbig, hat⟩
  clear hq hm hl hcap hbig hat
  go_enter Try.func4, Try.ntmps4
  go_wp2_with (first
    | (go_at_call 13; refine Calls.mono (bcheck_any ao n cap bs HV.out.2.2.1 HV.out.2.2.2.1 HV.out.2.2.2.2.1 w HV.out.2.2.2.2.2) ?_; rintro e w1 ⟨rfl, ha⟩; rw [HV.out.1]; have H1 := show Hid (After w w1) from ha; clear ha)
    | (go_at_call 14; refine Calls.mono (rcheck_any ao n cap bs HV.out.2.2.1 HV.out.2.2.2.1 HV.out.2.2.2.2.1 w1 (HV.out.2.2.2.2.2.after H1.out)) ?_; rintro e w2 ⟨rfl, ha⟩; rw [HV.out.1]; have H2 := show Hid (After w w2) from H1.out.trans ha; clear ha)
    | (go_at_call 15; refine Calls.mono (bmany_any ao n cap bs HV.out.2.2.1 HV.out.2.2.2.1 HV.out.2.2.2.2.1 w2 (HV.out.2.2.2.2.2.after H2.out)) ?_; rintro e w3 ⟨rfl, ha⟩; rw [HV.out.2.1]; have H3 := show Hid (After w w3) from H2.out.trans ha; clear ha)
    | (go_at_call 16; refine Calls.mono (rmany_any ao n cap bs HV.out.2.2.1 HV.out.2.2.2.1 HV.out.2.2.2.2.1 w3 (HV.out.2.2.2.2.2.after H3.out)) ?_; rintro e w4 ⟨rfl, ha⟩; rw [HV.out.2.1]; have H4 := show Hid (After w w4) from H3.out.trans ha; clear ha)
    | (go_at_call 10; refine Calls.mono (awake_any w4) ?_; rintro e w5 ⟨rfl, ha⟩; have H5 := show Hid (After w w5) from H4.out.trans ha; clear ha))
  go_ret
  exact ⟨rfl, H5.out⟩
end Go.Proofs.Ytgcgblecendijaa
