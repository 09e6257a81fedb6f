/-
  THE WALK OF awake.
-/
import Derived.Test.YtedghldjpkabmaaNames
namespace Go.Proofs.Ytedghldjpkabmaa
open Go.RowKit Go.Sort
def hOf (c : UInt8) : Hs := c :: List.replicate 31 0
theorem hOf_len (c : UInt8) : (hOf c).length = 32 := by simp [hOf]
theorem b24_1 (W : World) : (Instr.build 24 #[(0, .int .u8 1)]).run Try.prog W = .ok (hv (hOf 1)) W := by kernel_rfl
theorem b24_2 (W : World) : (Instr.build 24 #[(0, .int .u8 2)]).run Try.prog W = .ok (hv (hOf 2)) W := by kernel_rfl
theorem HsAt.made (w : World) (ls : List Hs) : HsAt (w.alloc (.cells (c8 ls.flatten).toArray 24)) (some ⟨w.heap.size, 0, none⟩) ls := fun _ =>
  ⟨w.heap.size, 0, rfl, fun j hj => by
    have hr := RowIs.new w 24 (c8 ls.flatten)
    rw [Nat.zero_add]; exact hr.cell (c8_get _ j hj)⟩
theorem up12 : Up [hOf 1, hOf 2] := by
  refine List.Pairwise.cons (fun y hy => ?_) (List.Pairwise.cons (fun y hy => by simp at hy) List.Pairwise.nil)
  simp at hy; subst hy
  decide
theorem name_ab (w : World) : Calls Try.prog 32 #[.string ⟨#[97, 46, 98]⟩] w fun e w' => e = .returned (.bool true) ∧ w' = w := by
  have := name_one ⟨#[97, 46, 98]⟩ w (by decide)
  exact this.mono (fun e w' ⟨he, hw⟩ => ⟨by rw [he]; rfl, hw⟩)
set_option maxRecDepth 100000 in
set_option maxHeartbeats 3200000 in
theorem awake_any (w : World) : Calls Try.prog 11 #[] w fun e w' => e = .returned (.bool true) ∧ After w w' := by
  have a3 : All32 [hOf 2, hOf 1, hOf 2] := All32.cons (hOf_len 2) (All32.cons (hOf_len 1) (All32.cons (hOf_len 2) All32.nil))
  have a2 : All32 [hOf 1, hOf 2] := All32.cons (hOf_len 1) (All32.cons (hOf_len 2) All32.nil)
  have HF : Hid (All32 [hOf 2, hOf 1, hOf 2] ∧ All32 [hOf 1, hOf 2]) := ⟨a3, a2⟩
  have HS : Hid (∀ w : World, Calls Try.prog 12 #[.slice (some ⟨w.heap.size, 0, none⟩) 3 3] (w.alloc (.cells (c8 [hOf 2, hOf 1, hOf 2].flatten).toArray 24)) fun e w' => ∃ ao cap, e = .returned (.slice ao 2 cap) ∧ HsAt w' ao [hOf 1, hOf 2] ∧ After w w') := fun w => by
    refine Calls.mono (sort12 sortOK12 (some ⟨w.heap.size, 0, none⟩) 3 [hOf 2, hOf 1, hOf 2] a3 3 rfl (by omega) (by omega) _ (HsAt.made w _)) ?_
    rintro e w1 ⟨v, s, rfl, h1, h2, h3, h4, h5, h6⟩
    have hse : s = [hOf 1, hOf 2] := Up.unique h3 up12 (fun h => by rw [h4 h]; simp; exact fun q => Or.inr q)
    rw [hse] at h1
    obtain ⟨ao, cap, rfl, hat, _⟩ := h1.at
    exact ⟨ao, cap, rfl, hat, After.trans (after_alloc (After.refl w) _) h6⟩
  clear a3 a2
  go_enter Try.func11, Try.ntmps11
  go_wp2_with (first
    | (go_at_call 12; refine Calls.mono (HS.out w) ?_
       rintro e w1 ⟨ao, cap, rfl, hat, ha1⟩
       have HAT := show Hid (HsAt w1 ao [hOf 1, hOf 2]) from hat
       have HA1 := show Hid (After w w1) from ha1
       clear hat ha1)
    | (go_at_call 13; refine Calls.mono (same13 ao (some ⟨w1.heap.size, 0, none⟩) cap 2 [hOf 1, hOf 2] [hOf 1, hOf 2] HF.out.2 HF.out.2 2 2 rfl rfl (by omega) (w1.alloc (.cells (c8 [hOf 1, hOf 2].flatten).toArray 24)) (HAT.out.after (after_alloc (After.refl _) _)) (HsAt.made w1 _)) ?_
       rw [decide_eq_true rfl]
       rintro e w2 ⟨rfl, ha2⟩
       have HA2 := show Hid (After w1 w2) from After.trans (after_alloc (After.refl w1) _) ha2
       clear ha2)
    | (go_at_call 15; refine Calls.mono (rising15 ao cap [hOf 1, hOf 2] HF.out.2 2 rfl (by omega) w2 (HAT.out.after HA2.out)) ?_
       rw [Up.upB up12 HF.out.2]
       rintro e w3 ⟨rfl, ha3⟩
       have HA3 := show Hid (After w1 w3) from After.trans HA2.out ha3
       clear ha3)
    | (go_at_call 18; refine Calls.mono (has18 ao cap [hOf 1, hOf 2] (hOf 2) (hOf_len 2) HF.out.2 2 rfl (by omega) w3 (HAT.out.after HA3.out)) ?_
       rw [decide_eq_true (show hOf 2 ∈ [hOf 1, hOf 2] by simp)]
       rintro e w4 ⟨rfl, ha4⟩
       have HA4 := show Hid (After w1 w4) from After.trans HA3.out ha4
       clear ha4)
    | (go_at_call 32; refine Calls.mono (name_ab w4) ?_
       rintro e w5 ⟨rfl, hw5⟩
       subst hw5))
  go_ret
  exact ⟨rfl, After.trans HA1.out HA4.out⟩
end Go.Proofs.Ytedghldjpkabmaa
