/-
  THE WALKS OF sort.siftDown_func, heapSort_func, reverseRange_func.
-/
import Derived.Test.YtgcgblecendijaaSortJ
import Derived.Sort.WalkB2
import Derived.Sort.LotB
namespace Go.Proofs.Ytgcgblecendijaa
open Go.RowKit Go.Sort Go.Lib
/-- The comparison at two places, in whatever world. -/
theorem lessAt {w0 : World} {g cap Bs B n : Nat} {dk : Array Hs} {i j : Nat} {v : Bool} (hi : i < n) (hj : j < n) (hv : ltStr dk[i]! dk[j]! = v) (W : World) (h : SB w0 g cap Bs B n dk W) :
    Calls Try.prog 39 #[.int .i64 (i : Int), .int .i64 (j : Int), .pointer (some ⟨Bs, 0, none⟩)] W fun e w' => e = .returned (.bool v) ∧ SB w0 g cap Bs B n dk w' := by
  have := h.less hi hj
  rw [hv] at this
  exact this

set_option maxRecDepth 100000 in
set_option maxHeartbeats 6400000 in
theorem sift87 {w0 : World} {g cap Bs n : Nat} {d : Array Hs} {w : World} (h : SW w0 g cap Bs d w) (hn : d.size = n) (lo hi first : Nat) (hlo : lo ≤ hi) (hb : first + hi ≤ n) (hsz : n < 1152921504606846976) :
    Calls Try.prog 71 #[.agg #[lessV Bs, swapV (typeHandle Try.prog 29) g cap n], .int .i64 (lo : Int), .int .i64 (hi : Int), .int .i64 (first : Int)] w fun e w' => e = .returned (.tuple #[]) ∧ SW w0 g cap Bs (siftDown ltStr hi first lo d) w' := by
  have HS0 := show Hid (SB _ _ _ _ _ _ _ _) from SB.start h hn
  obtain ⟨B, hB⟩ : ∃ B, w.heap.size = B := ⟨_, rfl⟩
  have e51 : ∀ args w, (callFunc 39 args).run Try.prog w = .ok (.enter 39 args) w := enters_of Try.func39 (by kernel_rfl) rfl
  clear h hn
  unfold lessV swapV at HS0 ⊢
  go_enter Try.func71, Try.ntmps71
  go_wp2_with fail
  rw [hB] at HS0
  obtain ⟨w1, hw1⟩ : ∃ w1, w.alloc (.cells #[.func (.func 39) #[] #[.pointer (some ⟨Bs, 0, none⟩)], .func (.func 60) #[] #[.slice (some ⟨g, 0, none⟩) n cap, typeHandle Try.prog 29]] 91) = w1 := ⟨_, rfl⟩
  rw [hw1] at HS0 ⊢
  clear hw1 hB
  go_loopw [8] (fun v wr => ∃ (rt : Nat) (dk : Array Hs), v = .int .i64 (rt : Int) ∧ rt ≤ hi ∧ Hid (SB w0 g cap Bs B n dk wr ∧ siftDown ltStr hi first rt dk = siftDown ltStr hi first lo d)) (fun v _ => hi - (intOf v).toNat)
  case atStart => exact ⟨lo, d, rfl, hlo, HS0.out, rfl⟩
  case round =>
    obtain ⟨rt, dk, rfl, hrh, HI⟩ := hrel
    have r0 := HI.out.1.row.cell (j := 0) rfl
    have r1 := HI.out.1.row.cell (j := 1) rfl
    unfold lessV at r0
    unfold swapV at r1
    obtain ⟨ch, hch⟩ : ∃ ch, 2 * rt + 1 = ch := ⟨_, rfl⟩
    have hchi : 2 * (rt : Int) + 1 = (ch : Int) := by omega
    have HCH : Hid (2 * rt + 1 = ch) := hch
    have hrc : rt < ch := by omega
    clear hch
    by_cases hge : hi ≤ ch
    · have hgi : (hi : Int) ≤ (ch : Int) := by omega
      go_wp2
      go_end0
      have hg := sd_end (lt := ltStr) (hi := hi) (F := first) (root := rt) dk (by rw [HCH.out]; exact hge)
      exact ⟨rfl, by rw [← HI.out.2, hg]; exact HI.out.1.sw⟩
    · have hgi : ¬ (hi : Int) ≤ (ch : Int) := by omega
      obtain ⟨f0, hf0⟩ : ∃ f0, first + rt = f0 := ⟨_, rfl⟩
      have hf0i : (first : Int) + (rt : Int) = (f0 : Int) := by omega
      obtain ⟨f1, hf1⟩ : ∃ f1, first + ch = f1 := ⟨_, rfl⟩
      have hf1i : (first : Int) + (ch : Int) = (f1 : Int) := by omega
      obtain ⟨c2, hc2⟩ : ∃ c2, ch + 1 = c2 := ⟨_, rfl⟩
      have hc2i : (ch : Int) + 1 = (c2 : Int) := by omega
      obtain ⟨f2, hf2⟩ : ∃ f2, first + c2 = f2 := ⟨_, rfl⟩
      have hf2i : (first : Int) + (c2 : Int) = (f2 : Int) := by omega
      have hf3i : (f1 : Int) + 1 = (f2 : Int) := by omega
      have HF : Hid (first + rt = f0 ∧ first + ch = f1 ∧ ch + 1 = c2 ∧ first + c2 = f2) := ⟨hf0, hf1, hc2, hf2⟩
      have b0 : f0 < n := by omega
      have b1 : f1 < n := by omega
      have hc2h : c2 ≤ hi := by omega
      have hrc2 : rt < c2 := by omega
      have HE1 : Hid (first + (2 * rt + 1) = f1) := by have := HCH.out; unfold Hid; omega
      have HE2 : Hid (first + (2 * rt + 2) = f2) := by have := HCH.out; unfold Hid; omega
      have HE3 : Hid (2 * rt + 2 = c2) := by have := HCH.out; unfold Hid; omega
      by_cases hrt : c2 < hi
      · have hrti : (c2 : Int) < (hi : Int) := by omega
        have b2 : f2 < n := by omega
        clear hf0 hf1 hc2 hf2
        cases v1 : ltStr dk[f1]! dk[f2]! with
        | true =>
          have C1 := show Hid _ from fun W h => lessAt (w0 := w0) (g := g) (cap := cap) (Bs := Bs) (B := B) b1 b2 v1 W h
          have V1 := show Hid _ from v1
          clear v1
          cases v2 : ltStr dk[f0]! dk[f2]! with
          | true =>
            have C2 := show Hid _ from fun W h => lessAt (w0 := w0) (g := g) (cap := cap) (Bs := Bs) (B := B) b0 b2 v2 W h
            have V2 := show Hid _ from v2
            clear v2
            have HS1 := show Hid (SB _ _ _ _ _ _ _ _) from HI.out.1
            go_wp2_with (first
              | (go_at_fn 39; refine Calls.mono (C2.out w2 HS2.out) ?_; rintro e w3 ⟨rfl, h3⟩; have HS3 := show Hid (SB _ _ _ _ _ _ _ _) from h3; have k0_3 := h3.row.cell (j := 0) rfl; have k1_3 := h3.row.cell (j := 1) rfl; unfold lessV at k0_3; unfold swapV at k1_3; obtain ⟨w9, hsw3, h9⟩ := h3.swap (i := f0) (j := f2) (by omega) (by omega); have HS9 := show Hid (SB _ _ _ _ _ _ _ _) from h9; have k0_9 := h9.row.cell (j := 0) rfl; have k1_9 := h9.row.cell (j := 1) rfl; unfold lessV at k0_9; unfold swapV at k1_9; clear h9; clear h3)
              | (go_at_fn 39; refine Calls.mono (C1.out wr HS1.out) ?_; rintro e w2 ⟨rfl, h2⟩; have HS2 := show Hid (SB _ _ _ _ _ _ _ _) from h2; have k0_2 := h2.row.cell (j := 0) rfl; have k1_2 := h2.row.cell (j := 1) rfl; unfold lessV at k0_2; unfold swapV at k1_2; clear h2))
            refine ⟨⟨c2, swp dk f0 f2, rfl, by omega, HS9.out, ?_⟩, by simp [intOf]; omega⟩
            have hg := sd_right_go (lt := ltStr) (hi := hi) (F := first) (root := rt) dk (by rw [HE3.out]; exact hrt) (by rw [HE1.out, HE2.out]; exact V1.out) (by rw [HE2.out, HF.out.1]; exact V2.out)
            rw [HE2.out, HE3.out, HF.out.1] at hg
            rw [← HI.out.2, hg]
          | false =>
            have C2 := show Hid _ from fun W h => lessAt (w0 := w0) (g := g) (cap := cap) (Bs := Bs) (B := B) b0 b2 v2 W h
            have V2 := show Hid _ from v2
            clear v2
            have HS1 := show Hid (SB _ _ _ _ _ _ _ _) from HI.out.1
            go_wp2_with (first
              | (go_at_fn 39; refine Calls.mono (C2.out w2 HS2.out) ?_; rintro e w3 ⟨rfl, h3⟩; have HS3 := show Hid (SB _ _ _ _ _ _ _ _) from h3; have k0_3 := h3.row.cell (j := 0) rfl; have k1_3 := h3.row.cell (j := 1) rfl; unfold lessV at k0_3; unfold swapV at k1_3; clear h3)
              | (go_at_fn 39; refine Calls.mono (C1.out wr HS1.out) ?_; rintro e w2 ⟨rfl, h2⟩; have HS2 := show Hid (SB _ _ _ _ _ _ _ _) from h2; have k0_2 := h2.row.cell (j := 0) rfl; have k1_2 := h2.row.cell (j := 1) rfl; unfold lessV at k0_2; unfold swapV at k1_2; clear h2))
            try simp only [Exit.inBlock, Exit.then]
            refine bodyPost_ret (results_none rfl _ _ _) rfl ⟨rfl, ?_⟩
            have hg := sd_right_stop (lt := ltStr) (hi := hi) (F := first) (root := rt) dk (by rw [HE3.out]; exact hrt) (by rw [HE1.out, HE2.out]; exact V1.out) (by rw [HE2.out, HF.out.1]; exact V2.out)
            rw [← HI.out.2, hg]; exact HS3.out.sw
        | false =>
          have C1 := show Hid _ from fun W h => lessAt (w0 := w0) (g := g) (cap := cap) (Bs := Bs) (B := B) b1 b2 v1 W h
          have V1 := show Hid _ from v1
          clear v1
          cases v2 : ltStr dk[f0]! dk[f1]! with
          | true =>
            have C2 := show Hid _ from fun W h => lessAt (w0 := w0) (g := g) (cap := cap) (Bs := Bs) (B := B) b0 b1 v2 W h
            have V2 := show Hid _ from v2
            clear v2
            have HS1 := show Hid (SB _ _ _ _ _ _ _ _) from HI.out.1
            go_wp2_with (first
              | (go_at_fn 39; refine Calls.mono (C2.out w2 HS2.out) ?_; rintro e w3 ⟨rfl, h3⟩; have HS3 := show Hid (SB _ _ _ _ _ _ _ _) from h3; have k0_3 := h3.row.cell (j := 0) rfl; have k1_3 := h3.row.cell (j := 1) rfl; unfold lessV at k0_3; unfold swapV at k1_3; obtain ⟨w9, hsw3, h9⟩ := h3.swap (i := f0) (j := f1) (by omega) (by omega); have HS9 := show Hid (SB _ _ _ _ _ _ _ _) from h9; have k0_9 := h9.row.cell (j := 0) rfl; have k1_9 := h9.row.cell (j := 1) rfl; unfold lessV at k0_9; unfold swapV at k1_9; clear h9; clear h3)
              | (go_at_fn 39; refine Calls.mono (C1.out wr HS1.out) ?_; rintro e w2 ⟨rfl, h2⟩; have HS2 := show Hid (SB _ _ _ _ _ _ _ _) from h2; have k0_2 := h2.row.cell (j := 0) rfl; have k1_2 := h2.row.cell (j := 1) rfl; unfold lessV at k0_2; unfold swapV at k1_2; clear h2))
            refine ⟨⟨ch, swp dk f0 f1, rfl, by omega, HS9.out, ?_⟩, by simp [intOf]; omega⟩
            have hg := sd_left_go (lt := ltStr) (hi := hi) (F := first) (root := rt) dk (by rw [HCH.out]; omega) (fun _ => by rw [HE1.out, HE2.out]; exact V1.out) (by rw [HE1.out, HF.out.1]; exact V2.out)
            rw [HE1.out, HCH.out, HF.out.1] at hg
            rw [← HI.out.2, hg]
          | false =>
            have C2 := show Hid _ from fun W h => lessAt (w0 := w0) (g := g) (cap := cap) (Bs := Bs) (B := B) b0 b1 v2 W h
            have V2 := show Hid _ from v2
            clear v2
            have HS1 := show Hid (SB _ _ _ _ _ _ _ _) from HI.out.1
            go_wp2_with (first
              | (go_at_fn 39; refine Calls.mono (C2.out w2 HS2.out) ?_; rintro e w3 ⟨rfl, h3⟩; have HS3 := show Hid (SB _ _ _ _ _ _ _ _) from h3; have k0_3 := h3.row.cell (j := 0) rfl; have k1_3 := h3.row.cell (j := 1) rfl; unfold lessV at k0_3; unfold swapV at k1_3; clear h3)
              | (go_at_fn 39; refine Calls.mono (C1.out wr HS1.out) ?_; rintro e w2 ⟨rfl, h2⟩; have HS2 := show Hid (SB _ _ _ _ _ _ _ _) from h2; have k0_2 := h2.row.cell (j := 0) rfl; have k1_2 := h2.row.cell (j := 1) rfl; unfold lessV at k0_2; unfold swapV at k1_2; clear h2))
            try simp only [Exit.inBlock, Exit.then]
            refine bodyPost_ret (results_none rfl _ _ _) rfl ⟨rfl, ?_⟩
            have hg := sd_left_stop (lt := ltStr) (hi := hi) (F := first) (root := rt) dk (by rw [HCH.out]; omega) (fun _ => by rw [HE1.out, HE2.out]; exact V1.out) (by rw [HE1.out, HF.out.1]; exact V2.out)
            rw [← HI.out.2, hg]; exact HS3.out.sw
      · have hrti : ¬ (c2 : Int) < (hi : Int) := by omega
        clear hf0 hf1 hc2 hf2
        cases v2 : ltStr dk[f0]! dk[f1]! with
        | true =>
          have C2 := show Hid _ from fun W h => lessAt (w0 := w0) (g := g) (cap := cap) (Bs := Bs) (B := B) b0 b1 v2 W h
          have V2 := show Hid _ from v2
          clear v2
          have HS1 := show Hid (SB _ _ _ _ _ _ _ _) from HI.out.1
          go_wp2_with (go_at_fn 39; refine Calls.mono (C2.out wr HS1.out) ?_; rintro e w3 ⟨rfl, h3⟩; have HS3 := show Hid (SB _ _ _ _ _ _ _ _) from h3; have k0_3 := h3.row.cell (j := 0) rfl; have k1_3 := h3.row.cell (j := 1) rfl; unfold lessV at k0_3; unfold swapV at k1_3; obtain ⟨w9, hsw3, h9⟩ := h3.swap (i := f0) (j := f1) (by omega) (by omega); have HS9 := show Hid (SB _ _ _ _ _ _ _ _) from h9; have k0_9 := h9.row.cell (j := 0) rfl; have k1_9 := h9.row.cell (j := 1) rfl; unfold lessV at k0_9; unfold swapV at k1_9; clear h9; clear h3)
          refine ⟨⟨ch, swp dk f0 f1, rfl, by omega, HS9.out, ?_⟩, by simp [intOf]; omega⟩
          have hg := sd_left_go (lt := ltStr) (hi := hi) (F := first) (root := rt) dk (by rw [HCH.out]; omega) (fun h => absurd h (by rw [HE3.out]; exact hrt)) (by rw [HE1.out, HF.out.1]; exact V2.out)
          rw [HE1.out, HCH.out, HF.out.1] at hg
          rw [← HI.out.2, hg]
        | false =>
          have C2 := show Hid _ from fun W h => lessAt (w0 := w0) (g := g) (cap := cap) (Bs := Bs) (B := B) b0 b1 v2 W h
          have V2 := show Hid _ from v2
          clear v2
          have HS1 := show Hid (SB _ _ _ _ _ _ _ _) from HI.out.1
          go_wp2_with (go_at_fn 39; refine Calls.mono (C2.out wr HS1.out) ?_; rintro e w3 ⟨rfl, h3⟩; have HS3 := show Hid (SB _ _ _ _ _ _ _ _) from h3; have k0_3 := h3.row.cell (j := 0) rfl; have k1_3 := h3.row.cell (j := 1) rfl; unfold lessV at k0_3; unfold swapV at k1_3; clear h3)
          try simp only [Exit.inBlock, Exit.then]
          refine bodyPost_ret (results_none rfl _ _ _) rfl ⟨rfl, ?_⟩
          have hg := sd_left_stop (lt := ltStr) (hi := hi) (F := first) (root := rt) dk (by rw [HCH.out]; omega) (fun h => absurd h (by rw [HE3.out]; exact hrt)) (by rw [HE1.out, HF.out.1]; exact V2.out)
          rw [← HI.out.2, hg]; exact HS3.out.sw

set_option maxRecDepth 100000 in
set_option maxHeartbeats 6400000 in
theorem rev81 {w0 : World} {g cap Bs n : Nat} {d : Array Hs} {w : World} (h : SW w0 g cap Bs d w) (hn : d.size = n) (a b : Nat) (hb : b ≤ n) (hsz : n < 1152921504606846976) (hab : a < b) :
    Calls Try.prog 67 #[.agg #[lessV Bs, swapV (typeHandle Try.prog 29) g cap n], .int .i64 (a : Int), .int .i64 (b : Int)] w fun e w' => e = .returned (.tuple #[]) ∧ SW w0 g cap Bs (reverseRange d a b) w' := by
  have HS0 := show Hid (SB _ _ _ _ _ _ _ _) from SB.start h hn
  obtain ⟨B, hB⟩ : ∃ B, w.heap.size = B := ⟨_, rfl⟩
  have e51 : ∀ args w, (callFunc 39 args).run Try.prog w = .ok (.enter 39 args) w := enters_of Try.func39 (by kernel_rfl) rfl
  clear h hn
  unfold lessV swapV at HS0 ⊢
  go_enter Try.func67, Try.ntmps67
  go_wp2_with fail
  rw [hB] at HS0
  obtain ⟨w1, hw1⟩ : ∃ w1, w.alloc (.cells #[.func (.func 39) #[] #[.pointer (some ⟨Bs, 0, none⟩)], .func (.func 60) #[] #[.slice (some ⟨g, 0, none⟩) n cap, typeHandle Try.prog 29]] 91) = w1 := ⟨_, rfl⟩
  rw [hw1] at HS0 ⊢
  clear hw1 hB
  go_loopw [6, 7] (fun vi vj wr => ∃ (i j : Nat) (dk : Array Hs), vi = .int .i64 (i : Int) ∧ vj = .int .i64 (j : Int) ∧ i ≤ j + 1 ∧ j < n ∧ Hid (SB w0 g cap Bs B n dk wr ∧ reverseLoop i j dk = reverseLoop a (b - 1) d)) (fun _ vj _ => (intOf vj).toNat)
  case atStart => exact ⟨a, b - 1, d, rfl, by go_num, by omega, by omega, HS0.out, rfl⟩
  case round =>
    obtain ⟨i, j, dk, rfl, rfl, hij, hjn, HI⟩ := hrel
    have r0 := HI.out.1.row.cell (j := 0) rfl
    have r1 := HI.out.1.row.cell (j := 1) rfl
    unfold lessV at r0
    unfold swapV at r1
    by_cases hlt : i < j
    · have hlti : (i : Int) < (j : Int) := by omega
      obtain ⟨w3, hsw, h3⟩ := HI.out.1.swap (i := i) (j := j) (by omega) hjn
      have HS3 := show Hid (SB _ _ _ _ _ _ _ _) from h3
      clear h3
      go_wp2
      go_roundw
      case rel => exact ⟨i + 1, j - 1, swp dk i j, by go_num, by go_num, by omega, by omega, HS3.out, by rw [← HI.out.2]; conv => rhs; rw [reverseLoop, if_pos hlt]⟩
      case measure => simp [intOf]; omega
    · have hlti : ¬ (i : Int) < (j : Int) := by omega
      go_wp2
      go_end0
      exact ⟨rfl, by unfold reverseRange; rw [← HI.out.2]; rw [reverseLoop, if_neg hlt]; exact HI.out.1.sw⟩

end Go.Proofs.Ytgcgblecendijaa
