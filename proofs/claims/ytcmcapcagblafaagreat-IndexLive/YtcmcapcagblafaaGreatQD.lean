/-
  hashes: Heap Small Rising Easy (of its own seat, carried over).
-/
import Derived.Test.YtcmcapcagblafaaGreatQC
import Derived.Sort.WalkB2
import Derived.Sort.LotB
import Derived.Shelf.GgSortFunc.Tiny
namespace Go.Proofs.YtcmcapcagblafaaGreat
section
open Go.RowKit Go.Lib Go.Sort
/-- The comparison at two places, in whatever world. -/
theorem lessAt {w0 : World} {g cap Bs B n : Nat} {dk : Array Hs} {i j : Nat} {v : Bool} (hi : i < n) (hj : j < n) (hv : ltStr dk[i]! dk[j]! = v) (W : World) (h : SB w0 g cap Bs B n dk W) :
    Calls Tryz.prog 49 #[.int .i64 (i : Int), .int .i64 (j : Int), .pointer (some ⟨Bs, 0, none⟩)] W fun e w' => e = .returned (.bool v) ∧ SB w0 g cap Bs B n dk w' := by
  have := h.less hi hj
  rw [hv] at this
  exact this

set_option maxRecDepth 100000 in
set_option maxHeartbeats 6400000 in
theorem sift87 {w0 : World} {g cap Bs n : Nat} {d : Array Hs} {w : World} (h : SW w0 g cap Bs d w) (hn : d.size = n) (lo hi first : Nat) (hlo : lo ≤ hi) (hb : first + hi ≤ n) (hsz : n < 1152921504606846976) :
    Calls Tryz.prog 96 #[.agg #[lessV Bs, swapV (typeHandle Tryz.prog 40) g cap n], .int .i64 (lo : Int), .int .i64 (hi : Int), .int .i64 (first : Int)] w fun e w' => e = .returned (.tuple #[]) ∧ SW w0 g cap Bs (siftDown ltStr hi first lo d) w' := by
  have HS0 := show Hid (SB _ _ _ _ _ _ _ _) from SB.start h hn
  obtain ⟨B, hB⟩ : ∃ B, w.heap.size = B := ⟨_, rfl⟩
  have e51 : ∀ args w, (callFunc 49 args).run Tryz.prog w = .ok (.enter 49 args) w := enters_of Tryz.func49 (by kernel_rfl) rfl
  clear h hn
  unfold lessV swapV at HS0 ⊢
  go_enter Tryz.func96, Tryz.ntmps96
  go_wp2_with fail
  rw [hB] at HS0
  obtain ⟨w1, hw1⟩ : ∃ w1, w.alloc (.cells #[.func (.func 49) #[] #[.pointer (some ⟨Bs, 0, none⟩)], .func (.func 80) #[] #[.slice (some ⟨g, 0, none⟩) n cap, typeHandle Tryz.prog 40]] 105) = w1 := ⟨_, rfl⟩
  rw [hw1] at HS0 ⊢
  clear hw1 hB
  go_loopw [8] (fun v wr => ∃ (rt : Nat) (dk : Array Hs), v = .int .i64 (rt : Int) ∧ rt ≤ hi ∧ Hid (SB w0 g cap Bs B n dk wr ∧ siftDown ltStr hi first rt dk = siftDown ltStr hi first lo d)) (fun v _ => hi - (intOf v).toNat)
  case atStart => exact ⟨lo, d, rfl, hlo, HS0.out, rfl⟩
  case round =>
    obtain ⟨rt, dk, rfl, hrh, HI⟩ := hrel
    have r0 := HI.out.1.row.cell (j := 0) rfl
    have r1 := HI.out.1.row.cell (j := 1) rfl
    unfold lessV at r0
    unfold swapV at r1
    obtain ⟨ch, hch⟩ : ∃ ch, 2 * rt + 1 = ch := ⟨_, rfl⟩
    have hchi : 2 * (rt : Int) + 1 = (ch : Int) := by omega
    have HCH : Hid (2 * rt + 1 = ch) := hch
    have hrc : rt < ch := by omega
    clear hch
    by_cases hge : hi ≤ ch
    · have hgi : (hi : Int) ≤ (ch : Int) := by omega
      go_wp2
      go_end0
      have hg := sd_end (lt := ltStr) (hi := hi) (F := first) (root := rt) dk (by rw [HCH.out]; exact hge)
      exact ⟨rfl, by rw [← HI.out.2, hg]; exact HI.out.1.sw⟩
    · have hgi : ¬ (hi : Int) ≤ (ch : Int) := by omega
      obtain ⟨f0, hf0⟩ : ∃ f0, first + rt = f0 := ⟨_, rfl⟩
      have hf0i : (first : Int) + (rt : Int) = (f0 : Int) := by omega
      obtain ⟨f1, hf1⟩ : ∃ f1, first + ch = f1 := ⟨_, rfl⟩
      have hf1i : (first : Int) + (ch : Int) = (f1 : Int) := by omega
      obtain ⟨c2, hc2⟩ : ∃ c2, ch + 1 = c2 := ⟨_, rfl⟩
      have hc2i : (ch : Int) + 1 = (c2 : Int) := by omega
      obtain ⟨f2, hf2⟩ : ∃ f2, first + c2 = f2 := ⟨_, rfl⟩
      have hf2i : (first : Int) + (c2 : Int) = (f2 : Int) := by omega
      have hf3i : (f1 : Int) + 1 = (f2 : Int) := by omega
      have HF : Hid (first + rt = f0 ∧ first + ch = f1 ∧ ch + 1 = c2 ∧ first + c2 = f2) := ⟨hf0, hf1, hc2, hf2⟩
      have b0 : f0 < n := by omega
      have b1 : f1 < n := by omega
      have hc2h : c2 ≤ hi := by omega
      have hrc2 : rt < c2 := by omega
      have HE1 : Hid (first + (2 * rt + 1) = f1) := by have := HCH.out; unfold Hid; omega
      have HE2 : Hid (first + (2 * rt + 2) = f2) := by have := HCH.out; unfold Hid; omega
      have HE3 : Hid (2 * rt + 2 = c2) := by have := HCH.out; unfold Hid; omega
      by_cases hrt : c2 < hi
      · have hrti : (c2 : Int) < (hi : Int) := by omega
        have b2 : f2 < n := by omega
        clear hf0 hf1 hc2 hf2
        cases v1 : ltStr dk[f1]! dk[f2]! with
        | true =>
          have C1 := show Hid _ from fun W h => lessAt (w0 := w0) (g := g) (cap := cap) (Bs := Bs) (B := B) b1 b2 v1 W h
          have V1 := show Hid _ from v1
          clear v1
          cases v2 : ltStr dk[f0]! dk[f2]! with
          | true =>
            have C2 := show Hid _ from fun W h => lessAt (w0 := w0) (g := g) (cap := cap) (Bs := Bs) (B := B) b0 b2 v2 W h
            have V2 := show Hid _ from v2
            clear v2
            have HS1 := show Hid (SB _ _ _ _ _ _ _ _) from HI.out.1
            go_wp2_with (first
              | (go_at_fn 49; refine Calls.mono (C2.out w2 HS2.out) ?_; rintro e w3 ⟨rfl, h3⟩; have HS3 := show Hid (SB _ _ _ _ _ _ _ _) from h3; have k0_3 := h3.row.cell (j := 0) rfl; have k1_3 := h3.row.cell (j := 1) rfl; unfold lessV at k0_3; unfold swapV at k1_3; obtain ⟨w9, hsw3, h9⟩ := h3.swap (i := f0) (j := f2) (by omega) (by omega); have HS9 := show Hid (SB _ _ _ _ _ _ _ _) from h9; have k0_9 := h9.row.cell (j := 0) rfl; have k1_9 := h9.row.cell (j := 1) rfl; unfold lessV at k0_9; unfold swapV at k1_9; clear h9; clear h3)
              | (go_at_fn 49; refine Calls.mono (C1.out wr HS1.out) ?_; rintro e w2 ⟨rfl, h2⟩; have HS2 := show Hid (SB _ _ _ _ _ _ _ _) from h2; have k0_2 := h2.row.cell (j := 0) rfl; have k1_2 := h2.row.cell (j := 1) rfl; unfold lessV at k0_2; unfold swapV at k1_2; clear h2))
            refine ⟨⟨c2, swp dk f0 f2, rfl, by omega, HS9.out, ?_⟩, by simp [intOf]; omega⟩
            have hg := sd_right_go (lt := ltStr) (hi := hi) (F := first) (root := rt) dk (by rw [HE3.out]; exact hrt) (by rw [HE1.out, HE2.out]; exact V1.out) (by rw [HE2.out, HF.out.1]; exact V2.out)
            rw [HE2.out, HE3.out, HF.out.1] at hg
            rw [← HI.out.2, hg]
          | false =>
            have C2 := show Hid _ from fun W h => lessAt (w0 := w0) (g := g) (cap := cap) (Bs := Bs) (B := B) b0 b2 v2 W h
            have V2 := show Hid _ from v2
            clear v2
            have HS1 := show Hid (SB _ _ _ _ _ _ _ _) from HI.out.1
            go_wp2_with (first
              | (go_at_fn 49; refine Calls.mono (C2.out w2 HS2.out) ?_; rintro e w3 ⟨rfl, h3⟩; have HS3 := show Hid (SB _ _ _ _ _ _ _ _) from h3; have k0_3 := h3.row.cell (j := 0) rfl; have k1_3 := h3.row.cell (j := 1) rfl; unfold lessV at k0_3; unfold swapV at k1_3; clear h3)
              | (go_at_fn 49; refine Calls.mono (C1.out wr HS1.out) ?_; rintro e w2 ⟨rfl, h2⟩; have HS2 := show Hid (SB _ _ _ _ _ _ _ _) from h2; have k0_2 := h2.row.cell (j := 0) rfl; have k1_2 := h2.row.cell (j := 1) rfl; unfold lessV at k0_2; unfold swapV at k1_2; clear h2))
            try simp only [Exit.inBlock, Exit.then]
            refine bodyPost_ret (results_none rfl _ _ _) rfl ⟨rfl, ?_⟩
            have hg := sd_right_stop (lt := ltStr) (hi := hi) (F := first) (root := rt) dk (by rw [HE3.out]; exact hrt) (by rw [HE1.out, HE2.out]; exact V1.out) (by rw [HE2.out, HF.out.1]; exact V2.out)
            rw [← HI.out.2, hg]; exact HS3.out.sw
        | false =>
          have C1 := show Hid _ from fun W h => lessAt (w0 := w0) (g := g) (cap := cap) (Bs := Bs) (B := B) b1 b2 v1 W h
          have V1 := show Hid _ from v1
          clear v1
          cases v2 : ltStr dk[f0]! dk[f1]! with
          | true =>
            have C2 := show Hid _ from fun W h => lessAt (w0 := w0) (g := g) (cap := cap) (Bs := Bs) (B := B) b0 b1 v2 W h
            have V2 := show Hid _ from v2
            clear v2
            have HS1 := show Hid (SB _ _ _ _ _ _ _ _) from HI.out.1
            go_wp2_with (first
              | (go_at_fn 49; refine Calls.mono (C2.out w2 HS2.out) ?_; rintro e w3 ⟨rfl, h3⟩; have HS3 := show Hid (SB _ _ _ _ _ _ _ _) from h3; have k0_3 := h3.row.cell (j := 0) rfl; have k1_3 := h3.row.cell (j := 1) rfl; unfold lessV at k0_3; unfold swapV at k1_3; obtain ⟨w9, hsw3, h9⟩ := h3.swap (i := f0) (j := f1) (by omega) (by omega); have HS9 := show Hid (SB _ _ _ _ _ _ _ _) from h9; have k0_9 := h9.row.cell (j := 0) rfl; have k1_9 := h9.row.cell (j := 1) rfl; unfold lessV at k0_9; unfold swapV at k1_9; clear h9; clear h3)
              | (go_at_fn 49; refine Calls.mono (C1.out wr HS1.out) ?_; rintro e w2 ⟨rfl, h2⟩; have HS2 := show Hid (SB _ _ _ _ _ _ _ _) from h2; have k0_2 := h2.row.cell (j := 0) rfl; have k1_2 := h2.row.cell (j := 1) rfl; unfold lessV at k0_2; unfold swapV at k1_2; clear h2))
            refine ⟨⟨ch, swp dk f0 f1, rfl, by omega, HS9.out, ?_⟩, by simp [intOf]; omega⟩
            have hg := sd_left_go (lt := ltStr) (hi := hi) (F := first) (root := rt) dk (by rw [HCH.out]; omega) (fun _ => by rw [HE1.out, HE2.out]; exact V1.out) (by rw [HE1.out, HF.out.1]; exact V2.out)
            rw [HE1.out, HCH.out, HF.out.1] at hg
            rw [← HI.out.2, hg]
          | false =>
            have C2 := show Hid _ from fun W h => lessAt (w0 := w0) (g := g) (cap := cap) (Bs := Bs) (B := B) b0 b1 v2 W h
            have V2 := show Hid _ from v2
            clear v2
            have HS1 := show Hid (SB _ _ _ _ _ _ _ _) from HI.out.1
            go_wp2_with (first
              | (go_at_fn 49; refine Calls.mono (C2.out w2 HS2.out) ?_; rintro e w3 ⟨rfl, h3⟩; have HS3 := show Hid (SB _ _ _ _ _ _ _ _) from h3; have k0_3 := h3.row.cell (j := 0) rfl; have k1_3 := h3.row.cell (j := 1) rfl; unfold lessV at k0_3; unfold swapV at k1_3; clear h3)
              | (go_at_fn 49; refine Calls.mono (C1.out wr HS1.out) ?_; rintro e w2 ⟨rfl, h2⟩; have HS2 := show Hid (SB _ _ _ _ _ _ _ _) from h2; have k0_2 := h2.row.cell (j := 0) rfl; have k1_2 := h2.row.cell (j := 1) rfl; unfold lessV at k0_2; unfold swapV at k1_2; clear h2))
            try simp only [Exit.inBlock, Exit.then]
            refine bodyPost_ret (results_none rfl _ _ _) rfl ⟨rfl, ?_⟩
            have hg := sd_left_stop (lt := ltStr) (hi := hi) (F := first) (root := rt) dk (by rw [HCH.out]; omega) (fun _ => by rw [HE1.out, HE2.out]; exact V1.out) (by rw [HE1.out, HF.out.1]; exact V2.out)
            rw [← HI.out.2, hg]; exact HS3.out.sw
      · have hrti : ¬ (c2 : Int) < (hi : Int) := by omega
        clear hf0 hf1 hc2 hf2
        cases v2 : ltStr dk[f0]! dk[f1]! with
        | true =>
          have C2 := show Hid _ from fun W h => lessAt (w0 := w0) (g := g) (cap := cap) (Bs := Bs) (B := B) b0 b1 v2 W h
          have V2 := show Hid _ from v2
          clear v2
          have HS1 := show Hid (SB _ _ _ _ _ _ _ _) from HI.out.1
          go_wp2_with (go_at_fn 49; refine Calls.mono (C2.out wr HS1.out) ?_; rintro e w3 ⟨rfl, h3⟩; have HS3 := show Hid (SB _ _ _ _ _ _ _ _) from h3; have k0_3 := h3.row.cell (j := 0) rfl; have k1_3 := h3.row.cell (j := 1) rfl; unfold lessV at k0_3; unfold swapV at k1_3; obtain ⟨w9, hsw3, h9⟩ := h3.swap (i := f0) (j := f1) (by omega) (by omega); have HS9 := show Hid (SB _ _ _ _ _ _ _ _) from h9; have k0_9 := h9.row.cell (j := 0) rfl; have k1_9 := h9.row.cell (j := 1) rfl; unfold lessV at k0_9; unfold swapV at k1_9; clear h9; clear h3)
          refine ⟨⟨ch, swp dk f0 f1, rfl, by omega, HS9.out, ?_⟩, by simp [intOf]; omega⟩
          have hg := sd_left_go (lt := ltStr) (hi := hi) (F := first) (root := rt) dk (by rw [HCH.out]; omega) (fun h => absurd h (by rw [HE3.out]; exact hrt)) (by rw [HE1.out, HF.out.1]; exact V2.out)
          rw [HE1.out, HCH.out, HF.out.1] at hg
          rw [← HI.out.2, hg]
        | false =>
          have C2 := show Hid _ from fun W h => lessAt (w0 := w0) (g := g) (cap := cap) (Bs := Bs) (B := B) b0 b1 v2 W h
          have V2 := show Hid _ from v2
          clear v2
          have HS1 := show Hid (SB _ _ _ _ _ _ _ _) from HI.out.1
          go_wp2_with (go_at_fn 49; refine Calls.mono (C2.out wr HS1.out) ?_; rintro e w3 ⟨rfl, h3⟩; have HS3 := show Hid (SB _ _ _ _ _ _ _ _) from h3; have k0_3 := h3.row.cell (j := 0) rfl; have k1_3 := h3.row.cell (j := 1) rfl; unfold lessV at k0_3; unfold swapV at k1_3; clear h3)
          try simp only [Exit.inBlock, Exit.then]
          refine bodyPost_ret (results_none rfl _ _ _) rfl ⟨rfl, ?_⟩
          have hg := sd_left_stop (lt := ltStr) (hi := hi) (F := first) (root := rt) dk (by rw [HCH.out]; omega) (fun h => absurd h (by rw [HE3.out]; exact hrt)) (by rw [HE1.out, HF.out.1]; exact V2.out)
          rw [← HI.out.2, hg]; exact HS3.out.sw

set_option maxRecDepth 100000 in
set_option maxHeartbeats 6400000 in
theorem rev81 {w0 : World} {g cap Bs n : Nat} {d : Array Hs} {w : World} (h : SW w0 g cap Bs d w) (hn : d.size = n) (a b : Nat) (hb : b ≤ n) (hsz : n < 1152921504606846976) (hab : a < b) :
    Calls Tryz.prog 87 #[.agg #[lessV Bs, swapV (typeHandle Tryz.prog 40) g cap n], .int .i64 (a : Int), .int .i64 (b : Int)] w fun e w' => e = .returned (.tuple #[]) ∧ SW w0 g cap Bs (reverseRange d a b) w' := by
  have HS0 := show Hid (SB _ _ _ _ _ _ _ _) from SB.start h hn
  obtain ⟨B, hB⟩ : ∃ B, w.heap.size = B := ⟨_, rfl⟩
  have e51 : ∀ args w, (callFunc 49 args).run Tryz.prog w = .ok (.enter 49 args) w := enters_of Tryz.func49 (by kernel_rfl) rfl
  clear h hn
  unfold lessV swapV at HS0 ⊢
  go_enter Tryz.func87, Tryz.ntmps87
  go_wp2_with fail
  rw [hB] at HS0
  obtain ⟨w1, hw1⟩ : ∃ w1, w.alloc (.cells #[.func (.func 49) #[] #[.pointer (some ⟨Bs, 0, none⟩)], .func (.func 80) #[] #[.slice (some ⟨g, 0, none⟩) n cap, typeHandle Tryz.prog 40]] 105) = w1 := ⟨_, rfl⟩
  rw [hw1] at HS0 ⊢
  clear hw1 hB
  go_loopw [6, 7] (fun vi vj wr => ∃ (i j : Nat) (dk : Array Hs), vi = .int .i64 (i : Int) ∧ vj = .int .i64 (j : Int) ∧ i ≤ j + 1 ∧ j < n ∧ Hid (SB w0 g cap Bs B n dk wr ∧ reverseLoop i j dk = reverseLoop a (b - 1) d)) (fun _ vj _ => (intOf vj).toNat)
  case atStart => exact ⟨a, b - 1, d, rfl, by go_num, by omega, by omega, HS0.out, rfl⟩
  case round =>
    obtain ⟨i, j, dk, rfl, rfl, hij, hjn, HI⟩ := hrel
    have r0 := HI.out.1.row.cell (j := 0) rfl
    have r1 := HI.out.1.row.cell (j := 1) rfl
    unfold lessV at r0
    unfold swapV at r1
    by_cases hlt : i < j
    · have hlti : (i : Int) < (j : Int) := by omega
      obtain ⟨w3, hsw, h3⟩ := HI.out.1.swap (i := i) (j := j) (by omega) hjn
      have HS3 := show Hid (SB _ _ _ _ _ _ _ _) from h3
      clear h3
      go_wp2
      go_roundw
      case rel => exact ⟨i + 1, j - 1, swp dk i j, by go_num, by go_num, by omega, by omega, HS3.out, by rw [← HI.out.2]; conv => rhs; rw [reverseLoop, if_pos hlt]⟩
      case measure => simp [intOf]; omega
    · have hlti : ¬ (i : Int) < (j : Int) := by omega
      go_wp2
      go_end0
      exact ⟨rfl, by unfold reverseRange; rw [← HI.out.2]; rw [reverseLoop, if_neg hlt]; exact HI.out.1.sw⟩
end
section
open Go.RowKit Go.Lib Go.Sort
theorem SB.data {w0 : World} {g cap Bs B n : Nat} {d : Array Hs} {W : World} (h : SB w0 g cap Bs B n d W) : W.heap[B]? = some (.cells #[.func (.func 49) #[] #[.pointer (some ⟨Bs, 0, none⟩)], .func (.func 80) #[] #[.slice (some ⟨g, 0, none⟩) n cap, typeHandle Tryz.prog 40]] 105 (0, 0)) := h.row

set_option maxRecDepth 100000 in
set_option maxHeartbeats 6400000 in
theorem pdq63_few {w0 : World} {g cap Bs n : Nat} {d : Array Hs} {w : World} (h : SW w0 g cap Bs d w) (hn : d.size = n) (a b lim : Nat) (hab : a ≤ b) (hb : b ≤ n) (hsz : n < 1152921504606846976) (hf : b - a ≤ 12) :
    Calls Tryz.prog 65 #[.agg #[lessV Bs, swapV (typeHandle Tryz.prog 40) g cap n], .int .i64 (a : Int), .int .i64 (b : Int), .int .i64 (lim : Int)] w fun e w' => e = .returned (.tuple #[]) ∧ SW w0 g cap Bs (insertionSort ltStr d a b) w' := by
  have HN : Hid (d.size = n) := hn
  have HS0 := show Hid (SB _ _ _ _ _ _ _ _) from SB.start h hn
  obtain ⟨B, hB⟩ : ∃ B, w.heap.size = B := ⟨_, rfl⟩
  have e51 : ∀ args w, (callFunc 49 args).run Tryz.prog w = .ok (.enter 49 args) w := enters_of Tryz.func49 (by kernel_rfl) rfl
  clear h hn
  unfold lessV swapV at HS0 ⊢
  have hbi : (b : Int) - (a : Int) ≤ 12 := by omega
  go_enter Tryz.func65, Tryz.ntmps65
  go_wp2_with fail
  rw [hB] at HS0
  obtain ⟨w1, hw1⟩ : ∃ w1, w.alloc (.cells #[.func (.func 49) #[] #[.pointer (some ⟨Bs, 0, none⟩)], .func (.func 80) #[] #[.slice (some ⟨g, 0, none⟩) n cap, typeHandle Tryz.prog 40]] 105) = w1 := ⟨_, rfl⟩
  rw [hw1] at HS0 ⊢
  clear hw1 hB
  go_loopw [1, 2] (fun va vb wr => va = .int .i64 (a : Int) ∧ vb = .int .i64 (b : Int) ∧ Hid (SB w0 g cap Bs B n d wr)) (fun _ _ _ => 0)
  case atStart => exact ⟨rfl, rfl, HS0.out⟩
  case round =>
    obtain ⟨rfl, rfl, HI⟩ := hrel
    have hs94 : (Tryz.prog.info? 105).map (·.size) = some 2 := by kernel_rfl
    have HD := show Hid _ from HI.out.data
    go_wp2_with (first
      | (refine wpList_load_row rfl 105 (.tmp 4) rfl B rfl 105 _ (0, 0) _ HD.out Tryz.underlying105 rfl (by kernel_rfl) ?_)
      | (go_at_call 83; refine (ins77 HI.out.sw HN.out a b hab hb (by omega)).mono ?_; rintro e w2 ⟨rfl, h2⟩; have HS2 := show Hid (SW _ _ _ _ _ _) from h2; clear h2))
    try simp only [Exit.inBlock, Exit.then]
    refine bodyPost_ret (results_none rfl _ _ _) rfl ⟨rfl, HS2.out⟩

/-- What sort.Slice does with a row of at most m hashes. -/
def SortOK (m : Nat) : Prop := ∀ (w0 : World) (g cap Bs : Nat) (d : Array Hs) (w : World), d.size ≤ m → SW w0 g cap Bs d w →
    Calls Tryz.prog 48 #[.iface 26 (.slice (some ⟨g, 0, none⟩) d.size cap), lessV Bs] w fun e w' => e = .returned (.tuple #[]) ∧ ∃ d', PermIn 0 d.size d d' ∧ SortedIn ltStr 0 d.size d' ∧ SW w0 g cap Bs d' w'
/-- What pdqsort_func does with it. -/
def PdqOK (m : Nat) : Prop := ∀ (w0 : World) (g cap Bs : Nat) (d : Array Hs) (w : World) (lim : Nat), d.size ≤ m → SW w0 g cap Bs d w →
    Calls Tryz.prog 65 #[.agg #[lessV Bs, swapV (typeHandle Tryz.prog 40) g cap d.size], .int .i64 0, .int .i64 (d.size : Int), .int .i64 (lim : Int)] w fun e w' => e = .returned (.tuple #[]) ∧ ∃ d', PermIn 0 d.size d d' ∧ SortedIn ltStr 0 d.size d' ∧ SW w0 g cap Bs d' w'
theorem pdqOK12 : PdqOK 12 := fun w0 g cap Bs d w lim hm h => by
  have h1 := insertionSort_holds (lt := ltStr) swo_ltStr d 0 d.size (Nat.zero_le _) (Nat.le_refl _)
  have := pdq63_few h rfl 0 d.size lim (Nat.zero_le _) (Nat.le_refl _) (by omega) (by omega)
  refine this.mono (fun e w' ⟨he, hs⟩ => ⟨he, _, h1.1, h1.2, hs⟩)
theorem grow_after (w : World) (os : Array Obj) : After w (grow w os) := by
  refine ⟨rfl, rfl, rfl, by simp [Go.Sort.grow], fun k hk => ?_⟩
  simp [Go.Sort.grow, Array.getElem?_append, hk]
theorem swapper9 {n : Nat} {ie : TypeInfo} (h2 : 2 ≤ n) (hp : ie.hasPointers = false) (hb : ie.bytes = 32) : swapperK n ie 17 = 9 := by
  have c : (n == 0) = false := by simp; omega
  have d : (n == 1) = false := by simp; omega
  simp [swapperK, hp, hb, c, d]
set_option maxRecDepth 100000 in
theorem sortOK_of {m : Nat} (hm : m < 1152921504606846976) (hp : PdqOK m) : SortOK m := fun w0 g cap Bs d w hd h => by
  obtain ⟨i22, hi22, hd22⟩ := Option.map_eq_some_iff.1 (show (Tryz.prog.info? 26).map (·.desc) = some (.slice 40) by kernel_rfl)
  obtain ⟨i24, hi24, hx⟩ := Option.map_eq_some_iff.1 (show (Tryz.prog.info? 40).map (fun i => (i.hasPointers, i.bytes)) = some (false, 32) by kernel_rfl)
  simp only [Prod.mk.injEq] at hx
  by_cases h2 : 2 ≤ d.size
  · have key := Any.sort_Slice_of_pdq sh_sl6 26 40 i22 i24 hi22 hd22 (by kernel_rfl) hi24 17 (fun _ => by kernel_rfl) (some ⟨g, 0, none⟩) d.size cap (by omega) 80 (by rw [swapper9 h2 hx.1 hx.2]; kernel_rfl) (.func 49) #[] #[.pointer (some ⟨Bs, 0, none⟩)] w
      (fun w' => ∃ d', PermIn 0 d.size d d' ∧ SortedIn ltStr 0 d.size d' ∧ SW w0 g cap Bs d' w') ?_
    · exact key
    · have hB : sliceBound Tryz.prog 40 i24 17 (some ⟨g, 0, none⟩) d.size cap = #[.slice (some ⟨g, 0, none⟩) d.size cap, typeHandle Tryz.prog 40] := by
        unfold sliceBound; rw [swapper9 h2 hx.1 hx.2]; rfl
      rw [hB]
      unfold sliceWorld
      exact hp w0 g cap Bs d _ _ hd (h.after (after_alloc (after_alloc (After.refl w) _) _))
  · have hK : swapperK d.size i24 17 = d.size + 1 := by
      rcases Nat.eq_zero_or_pos d.size with e | e
      · rw [e]; simp [swapperK]
      · rw [show d.size = 1 by omega]; simp [swapperK]
    have key := Any.sort_Slice_tiny sh_sl6 26 40 i22 i24 hi22 hd22 (by kernel_rfl) hi24 17 (fun _ => by kernel_rfl) (some ⟨g, 0, none⟩) d.size cap (by omega) (72 + d.size) (by
      rw [hK]
      rcases Nat.eq_zero_or_pos d.size with e | e
      · rw [e]; kernel_rfl
      · rw [show d.size = 1 by omega]; kernel_rfl) (.func 49) #[] #[.pointer (some ⟨Bs, 0, none⟩)] w
    refine Calls.mono key (fun e w' ⟨he, os, hw⟩ => ⟨he, d, permIn_refl _ _ _, fun i j _ h1 h3 => by omega, ?_⟩)
    rw [hw]; exact h.after (grow_after w os)
theorem sortOK12 : SortOK 12 := sortOK_of (by omega) pdqOK12
end
section
open Go.RowKit Go.Maps Go.Sort
def Up (s : List Hs) : Prop := s.Pairwise (fun x y => ltStr x y = true)
theorem ltStr_total {x y : Hs} (h : ltStr y x = false) (hne : x ≠ y) : ltStr x y = true := by
  simp only [ltStr, decide_eq_false_iff_not, List.not_lt, decide_eq_true_eq] at *
  exact Classical.byContradiction fun hn => hne (List.le_antisymm h (List.not_lt.1 hn))
/-- A strictly rising list is told by its members. -/
theorem Up.unique : ∀ {s t : List Hs}, Up s → Up t → (∀ h, h ∈ s ↔ h ∈ t) → s = t := by
  intro s
  induction s with
  | nil => intro t _ _ h; cases t with
    | nil => rfl
    | cons y t => have := (h y).2 (by simp); simp at this
  | cons x s ih =>
    intro t hs ht h
    cases t with
    | nil => have := (h x).1 (by simp); simp at this
    | cons y t =>
      have hx := List.pairwise_cons.1 hs
      have hy := List.pairwise_cons.1 ht
      have e : x = y := Classical.byContradiction fun hne => by
        have h1 := (h x).1 (by simp)
        have h2 := (h y).2 (by simp)
        rcases List.mem_cons.1 h1 with q | q
        · exact hne q
        · rcases List.mem_cons.1 h2 with p | p
          · exact hne p.symm
          · have a := hx.1 y p
            have b := hy.1 x q
            have := swo_ltStr.trans x y x a b
            rw [swo_ltStr.irrefl] at this; cases this
      subst e
      congr 1
      refine ih hx.2 hy.2 (fun z => ⟨fun hz => ?_, fun hz => ?_⟩)
      · rcases List.mem_cons.1 ((h z).1 (by simp [hz])) with q | q
        · subst q; have := hx.1 z hz; rw [swo_ltStr.irrefl] at this; cases this
        · exact q
      · rcases List.mem_cons.1 ((h z).2 (by simp [hz])) with q | q
        · subst q; have := hy.1 z hz; rw [swo_ltStr.irrefl] at this; cases this
        · exact q
theorem permIn_list {d d' : Array Hs} (h : PermIn 0 d.size d d') : d'.toList.Perm d.toList := by
  have h1 := h.2.2
  have h2 := h.1
  rw [show d'.extract 0 d.size = d' by rw [← h2]; simp, show d.extract 0 d.size = d by simp] at h1
  exact h1
theorem sorted_up {d : Array Hs} (h : SortedIn ltStr 0 d.size d) (hn : d.toList.Nodup) : Up d.toList := by
  unfold Up
  rw [List.pairwise_iff_getElem]
  intro i j hi hj hij
  have hi' : i < d.size := by simpa using hi
  have hj' : j < d.size := by simpa using hj
  have := h i j (Nat.zero_le _) hij hj'
  rw [getElem!_pos d i hi', getElem!_pos d j hj'] at this
  simp only [Array.getElem_toList]
  refine ltStr_total this (fun e => ?_)
  have := (List.nodup_iff_pairwise_ne.1 hn)
  rw [List.pairwise_iff_getElem] at this
  exact this i j hi hj hij (by simpa using e)
theorem OwnH.sm {w : World} {base : Nat} {v : Value} {l : List Hs} (h : OwnH w base v l) (hn : l ≠ []) : ∃ g cap, v = .slice (some ⟨g, 0, none⟩) l.length cap := by
  rcases h.2 with ⟨hv, h0⟩ | ⟨g, cap, cur, hv, _⟩
  · exact absurd (List.eq_nil_of_length_eq_zero h0) hn
  · exact ⟨g, cap, hv⟩
theorem c8_toArray_inj {x y : Hs} (h : hv x = hv y) : x = y := by
  unfold hv c8 at h
  simp only [Value.agg.injEq] at h
  have h2 := congrArg Array.toList h
  simp only at h2
  exact (List.map_inj_right (fun a b hab => by simp only [Value.int.injEq, true_and] at hab; exact UInt8.toNat_inj.1 (by omega))).1 h2
theorem sameKey_str (x y : Hs) : (Lit.string x).sameKey (.string y) = decide (x = y) := by
  by_cases e : x = y
  · subst e; simp [Lit.sameKey]
  · rw [sameKey_ne (by intro e2; exact e (by injection e2))]; simp [e]
section
variable {w : World} {ops : Array Oper} {rest : List Oper} {o : Oper} {a : Act} {Q : Exit → Act → World → Prop}
theorem wpList_next_hash (hg : o.guard = none) (it : Operand) (hop : o.op = Op.next it false) (b r n : Nat) (D : DataW Unit) (left : Lit → Bool) (cnt : Nat)
    (hit : a.eval it = .pointer (some ⟨r, 0, none⟩)) (h : w.ranges Tryz.prog 40 RU b r n D left cnt)
    (hDone : cnt = 0 → (∀ kl, left kl = false) → wpList Tryz.prog ops Q rest (a.put o.dst (.tuple #[.bool false])) w)
    (hMore : ∀ (x : Hs) (w' : World) (cnt' : Nat), x.length = 32 → left (.string x) = true → w'.ranges Tryz.prog 40 RU b r n D (fun z => left z && !z.sameKey (.string x)) cnt' → cnt' < cnt →
      w.grownBy w' (some r) → w'.heap.size = w.heap.size → (Instr.entry (.pointer (some ⟨r, 0, none⟩))).run Tryz.prog w' = .ok (.tuple #[hv x, .agg #[]]) w' → wpList Tryz.prog ops Q rest (a.put o.dst (.tuple #[.bool true, hv x, .agg #[]])) w') :
    wpList Tryz.prog ops Q (o :: rest) a w :=
  wpList_next_ranges w hg it hop 40 keyed24 RU hv (fun _ : Unit => .agg #[]) (fun key kl hk => by obtain ⟨h, _, e, _⟩ := keyOf24_inv hk; exact ⟨h, e⟩) (fun v y hv => ⟨(), (unitElem_inv hv).1⟩) b r n D left cnt hit h hDone
    (fun x c kl y w' cnt' hkey hlk hv hat hrg hlt hgr hsz hen => by
      obtain ⟨h, h32, e, rfl⟩ := keyOf24_inv hkey
      have hh := c8_toArray_inj e
      subst hh
      exact hMore x w' cnt' h32 hlk hrg hlt hgr hsz hen)
end
theorem OwnH.self {w : World} {base g n cap : Nat} {l : List Hs} (h : OwnH w base (.slice (some ⟨g, 0, none⟩) n cap) l) : OwnH w g (.slice (some ⟨g, 0, none⟩) n cap) l := by
  refine ⟨h.1, ?_⟩
  rcases h.2 with ⟨hv, _⟩ | ⟨g', cap', cur, hv, q1, rest⟩
  · cases hv
  · cases hv; exact .inr ⟨g, cap, cur, rfl, Nat.le_refl _, rest⟩
/-- What the loop of rising keeps. -/
structure RsI (w : World) (b r n Bb : Nat) (D : DataW Unit) (left : Lit → Bool) (cnt : Nat) (ss : List Hs) (v : Value) (wr : World) : Prop where
  rng : wr.ranges Tryz.prog 40 RU b r n D left cnt
  aft : After w wr
  own : OwnH wr w.heap.size v ss
  box : wr.heap[Bb]? = some (.cells #[v] 26 (0, 0))
  som : ∃ g cap, v = .slice (some ⟨g, 0, none⟩) ss.length cap
  nod : ss.Nodup
  a32 : All32 ss
  mem : ∀ h ∈ ss, Maps.has D (.string h) = true ∧ left (.string h) = false
  all : ∀ h, Maps.has D (.string h) = true → left (.string h) = true ∨ h ∈ ss
  sub : ∀ kl, left kl = true → Maps.has D kl = true
  cnt : ss.length + cnt ≤ n
theorem grown_none {w w' : World} (h : After w w') : w.grownBy w' none := ⟨h.os, h.tape, h.output, h.size, fun k hk _ => h.block k hk⟩
theorem rs_box {w w3 W5 w6 : World} {g k cap Bb : Nat} {ss : List Hs} (hb3 : w3.heap[Bb]? = some (.cells #[.slice (some ⟨g, 0, none⟩) k cap] 26 (0, 0))) (ho3 : OwnH w3 w.heap.size (.slice (some ⟨g, 0, none⟩) k cap) ss) (hW5 : After w3 W5) (hg6 : W5.grownBy w6 (some g)) : RowIs w6 Bb 26 [.slice (some ⟨g, 0, none⟩) k cap] := by
  have hlt := (Array.getElem?_eq_some_iff.1 hb3).1
  obtain ⟨cur, hcur, _⟩ := ho3.row
  have hne : Bb ≠ g := fun e => by rw [← e, hb3] at hcur; cases hcur
  unfold RowIs
  rw [hg6.block Bb (Nat.lt_of_lt_of_le hlt hW5.size) (by simpa using hne), hW5.block Bb hlt]
  exact hb3
theorem rs_next {w w3 W5 w6 wr : World} {b r n Bb g k cap cnt cnt3 : Nat} {D : DataW Unit} {left : Lit → Bool} {ss : List Hs} {v v' : Value} {x : Hs} (HX : RsI w b r n Bb D left cnt ss v wr)
    (hrg : w3.ranges Tryz.prog 40 RU b r n D (fun z => left z && !z.sameKey (.string x)) cnt3) (hA3 : After w w3) (hb3 : w3.heap[Bb]? = some (.cells #[.slice (some ⟨g, 0, none⟩) k cap] 26 (0, 0)))
    (ho3 : OwnH w3 w.heap.size (.slice (some ⟨g, 0, none⟩) k cap) ss) (hW5 : After w3 W5) (hg6 : W5.grownBy w6 (some g)) (ho6 : OwnH w6 w.heap.size v' (ss ++ [x])) (h32 : x.length = 32) (hlk : left (.string x) = true) (hlt : cnt3 < cnt) (hBb : w.heap.size ≤ Bb) :
    RsI w b r n Bb D (fun z => left z && !z.sameKey (.string x)) cnt3 (ss ++ [x]) v' (w6.setCell ⟨Bb, 0, none⟩ v') := by
  have hbox := rs_box hb3 ho3 hW5 hg6
  have hgb := (ho3.lt g rfl).1
  obtain ⟨cur, hcur, _⟩ := ho3.row
  have hgl := (ho3.lt g rfl).2
  obtain ⟨es, clock, since, seen, c0, hmb, _, _, _, hri, _⟩ := id hrg
  have hbg : b ≠ g := fun e => by rw [e, hcur] at hmb; cases hmb
  have hrg' : r ≠ g := fun e => by rw [e, hcur] at hri; cases hri
  have hbB : b ≠ Bb := fun e => by rw [e, hb3] at hmb; cases hmb
  have hrB : r ≠ Bb := fun e => by rw [e, hb3] at hri; cases hri
  obtain ⟨g', cap', rfl⟩ := ho6.sm (by simp)
  obtain ⟨cur', hcur', _⟩ := ho6.row
  have hgB : g' ≠ Bb := fun e => by unfold RowIs at hbox; rw [e, hbox] at hcur'; cases hcur'
  have hset : ∀ i, i ≠ Bb → (w6.setCell ⟨Bb, 0, none⟩ (.slice (some ⟨g', 0, none⟩) (ss ++ [x]).length cap')).heap[i]? = w6.heap[i]? := fun i hi => Below.heap_setCell w6 ⟨Bb, 0, none⟩ _ i hi
  have hbs : Below Bb w6 (w6.setCell ⟨Bb, 0, none⟩ (.slice (some ⟨g', 0, none⟩) (ss ++ [x]).length cap')) := Below.setCell (Below.refl Bb w6) (Nat.le_refl Bb) _
  have hgs : w6.grownBy (w6.setCell ⟨Bb, 0, none⟩ (.slice (some ⟨g', 0, none⟩) (ss ++ [x]).length cap')) (some Bb) := ⟨hbs.os, hbs.tape, hbs.output, hbs.size, fun i _ hne => hset i (by simpa using hne)⟩
  have hnx : x ∉ ss := fun hx => by have := (HX.mem x hx).2; rw [hlk] at this; cases this
  refine ⟨((hrg.kept (grown_none hW5) (by simp) (by simp)).kept hg6 (by simpa using hbg) (by simpa using hrg')).kept hgs (by simpa using hbB) (by simpa using hrB), ?_, ho6.same (fun i hi => by cases hi; exact hset g' hgB), hbox.set 0 _, ⟨g', cap', rfl⟩, ?_, HX.a32.app (All32.cons h32 All32.nil), fun h hh => ?_, fun h hh => ?_, fun kl hkl => HX.sub kl (by simp only [Bool.and_eq_true] at hkl; exact hkl.1), ?_⟩
  · exact Below.setCell (after_grown (After.trans hA3 hW5) hg6 hgb (fun i hi => by cases hi; exact Nat.le_refl _)) hBb _
  · rw [List.nodup_append]
    exact ⟨HX.nod, by simp, fun a ha b hb => by simp at hb; subst hb; exact fun e => hnx (e ▸ ha)⟩
  · rcases List.mem_append.1 hh with hh | hh
    · exact ⟨(HX.mem h hh).1, by simp [(HX.mem h hh).2]⟩
    · simp at hh; subst hh
      exact ⟨HX.sub _ hlk, by rw [sameKey_str]; simp⟩
  · by_cases e : h = x
    · right; simp [e]
    · rcases HX.all h hh with q | q
      · left; rw [sameKey_str]; simp [q, e]
      · right; simp [q]
  · have := HX.cnt
    rw [List.length_append]; simp only [List.length_cons, List.length_nil]; omega
theorem make_hashes (W : World) (c : Nat) (hc : c ≤ 4398046511104) :
    ∃ cs : Array Value, cs.size = c * 32 ∧ (Instr.makeSlice 26 (.int .i64 0) (.int .i64 (c : Int))).run Tryz.prog W = .ok (.slice (some ⟨W.heap.size, 0, none⟩) 0 c) (W.alloc (.cells cs 40)) := by
  obtain ⟨i, z, hi, hz, hsz, hby, hzs, _⟩ := info24
  have := run_make (P := Tryz.prog) W 26 40 i z Tryz.underlying26 hi hz .i64 .i64 0 c (by omega) (by omega) (by rw [hby]; omega) (by omega)
  refine ⟨madeCells z.cells (c * 32), by simp [madeCells], ?_⟩
  rw [this, hsz, Int.toNat_natCast]; rfl
set_option maxRecDepth 100000 in
set_option maxHeartbeats 3200000 in
theorem rising_any {m : Nat} (hm : SortOK m) (b n : Nat) (l : List Hs) (hn : n ≤ m) (hbig : n ≤ 4398046511104) (w : World) (hs : SetAt w b n l) :
    Calls Tryz.prog 28 #[.map (some b)] w fun e w' => ∃ v s, e = .returned v ∧ OwnH w' w.heap.size v s ∧ All32 s ∧ Up s ∧ (∀ h, h ∈ s ↔ h ∈ l) ∧ s.length ≤ n ∧ After w w' := by
  obtain ⟨D, hD, hl⟩ := hs.ex
  obtain ⟨N, hN⟩ : ∃ N, Maps.size D = N := ⟨_, rfl⟩
  have hNn : N ≤ n := by rw [← hN]; exact hD.size_le
  have hlen : (Builtin.len_ #[52] 3 #[.map (some b)]).run Tryz.prog w = .ok (.int .i64 (N : Int)) w := by
    have := hD.len Tryz.underlying52 3; rwa [hN] at this
  obtain ⟨cs, hcs, hmk⟩ := make_hashes w N (by omega)
  have HD : Hid (w.ownsMap Tryz.prog 40 RU b n D) := hD
  have HL : Hid (SetD D l) := hl
  have HM : Hid (SortOK m) := hm
  have HLE : Hid (N ≤ n ∧ n ≤ m ∧ n ≤ 4398046511104 ∧ Maps.size D = N) := ⟨hNn, hn, hbig, hN⟩
  obtain ⟨W1, hW1⟩ : ∃ W1, (w.alloc (.cells cs 40)).alloc (.cells #[.slice (some ⟨w.heap.size, 0, none⟩) 0 N] 26) = W1 := ⟨_, rfl⟩
  have HA1 : Hid (After w W1) := by rw [← hW1]; exact after_alloc (after_alloc (After.refl w) _) _
  have hs1 : W1.heap.size = w.heap.size + 2 := by rw [← hW1]; simp
  have HOW : Hid (OwnH W1 w.heap.size (.slice (some ⟨w.heap.size, 0, none⟩) 0 N) []) := by
    have h1 : OwnH (w.alloc (.cells cs 40)) w.heap.size (.slice (some ⟨w.heap.size, 0, none⟩) 0 N) [] := World.ownsRow_made w _ N (Nat.le_refl _) (by unfold maxLen; omega) hcs
    rw [← hW1]; exact h1.after (after_alloc (After.refl _) _)
  have HBX : Hid (W1.heap[w.heap.size + 1]? = some (.cells #[.slice (some ⟨w.heap.size, 0, none⟩) 0 N] 26 (0, 0))) := by
    have := heap_alloc_new (w.alloc (.cells cs 40)) (.cells #[.slice (some ⟨w.heap.size, 0, none⟩) 0 N] 26)
    rw [hW1] at this
    unfold Hid
    simpa using this
  have HOM : Hid (W1.ownsMap Tryz.prog 40 RU b n D) := ownsMap_sameU hD (HA1.out.block b hD.lt)
  have HW1 := show Hid (_ = W1) from hW1
  have HS1 := show Hid (W1.heap.size = w.heap.size + 2) from hs1
  clear hs hm hn hbig hD hl hNn hN hcs hW1 hs1
  go_enter Tryz.func28, Tryz.ntmps28
  go_wp2_with (first | (at_range; rw [HW1.out]; refine wpList_range_own _ rfl _ 52 rfl 40 78 keyed24 Tryz.underlying52 RU b n D rfl HOM.out ?_; intro w2 hrg0 hg0 hs2) | fail)
  go_frame
  rw [HS1.out]
  rw [HS1.out] at hrg0 hs2
  have HC0 : Hid (RsI w b (w.heap.size + 2) n (w.heap.size + 1) D (Maps.has D) (Maps.size D) [] (.slice (some ⟨w.heap.size, 0, none⟩) 0 N) w2) := by
    have hA2 : After W1 w2 := ⟨hg0.os, hg0.tape, hg0.output, hg0.size, fun k hk => hg0.block k hk (by simp)⟩
    exact ⟨hrg0, After.trans HA1.out hA2, HOW.out.after hA2, by rw [hA2.block _ (by rw [HS1.out]; omega)]; exact HBX.out, ⟨_, _, rfl⟩, List.nodup_nil, All32.nil, fun h hh => by simp at hh, fun h hh => Or.inl hh, fun kl h => h, by rw [HLE.out.2.2.2]; simpa using HLE.out.1⟩
  clear hrg0 hg0 hs2 hlen hmk
  go_loopw [] (fun wr => ∃ left cnt ss v, Hid (RsI w b (w.heap.size + 2) n (w.heap.size + 1) D left cnt ss v wr)) (fun wr => wr.rangeLeft b (w.heap.size + 2))
  case atStart => exact ⟨_, _, _, _, HC0⟩
  case round =>
    obtain ⟨left, cnt, ss, v, HX⟩ := hrel
    go_wp2_with (first | (at_next; refine wpList_next_hash rfl _ rfl b (w.heap.size + 2) n D left cnt rfl HX.out.rng ?_ ?_) | fail)
    · intro _ hl0
      have HL0 := show Hid (∀ kl, left kl = false) from hl0
      clear hl0
      obtain ⟨g, cap, rfl⟩ := HX.out.som
      have hcell : wr.cell? ⟨w.heap.size + 1, 0, none⟩ = some (.slice (some ⟨g, 0, none⟩) ss.length cap) := (show RowIs wr (w.heap.size + 1) 26 [.slice (some ⟨g, 0, none⟩) ss.length cap] from HX.out.box).cell (j := 0) rfl
      have hgb : w.heap.size ≤ g := (HX.out.own.lt g rfl).1
      have hne : w.heap.size + 1 ≠ g := fun e => by
        obtain ⟨cur, hcur, _⟩ := HX.out.own.row
        rw [← e, HX.out.box] at hcur; cases hcur
      have hss : ss.length ≤ m := by have h1 := HX.out.cnt; have h2 := HLE.out.2.1; omega
      have CS := HM.out wr g cap (w.heap.size + 1) ss.toArray wr (by simpa using hss) ⟨by simpa using HX.out.own.self, by simpa using hcell, hne, ⟨rfl, rfl, rfl, Nat.le_refl _, fun _ _ _ => rfl⟩, by simpa using HX.out.a32⟩
      have HCS := show Hid _ from CS
      have HGB : Hid (w.heap.size ≤ g) := hgb
      obtain ⟨k, hk⟩ : ∃ k, ss.length = k := ⟨_, rfl⟩
      have HK : Hid (ss.length = k) := hk
      rw [show ss.toArray.size = k by simpa using hk] at HCS
      unfold lessV at HCS
      rw [hk] at hcell
      clear hgb hne hss CS hk
      go_wp2_with (first
        | (go_at_call 48; refine Calls.mono HCS.out ?_; rintro e w4 ⟨rfl, d', hp, hso, hsw⟩; have HP := show Hid (PermIn _ _ _ _) from hp; have HSO := show Hid (SortedIn _ _ _ _) from hso; have HSW := show Hid (SW _ _ _ _ _ _) from hsw; have hbx := hsw.box; rw [show d'.size = k by rw [hp.1]; simpa using HK.out] at hbx; clear hp hso hsw))
      go_ret
      have hdk : d'.size = k := by rw [HP.out.1]; simpa using HK.out
      have hpl : d'.toList.Perm ss := by
        have := permIn_list (d := ss.toArray) (d' := d') (by rw [show ss.toArray.size = k by simpa using HK.out]; exact HP.out)
        simpa using this
      refine ⟨_, d'.toList, rfl, ?_, HSW.out.a32, sorted_up (by rw [hdk]; exact HSO.out) (hpl.nodup_iff.2 HX.out.nod), fun h => ?_, ?_, after_grown HX.out.aft HSW.out.grow HGB.out (fun i hi => by cases hi; exact Nat.le_refl _)⟩
      · have := HSW.out.own.mono HGB.out
        rwa [hdk] at this
      · rw [hpl.mem_iff, ← HL.out h]
        exact ⟨fun hh => (HX.out.mem h hh).1, fun hh => (HX.out.all h hh).resolve_left (by rw [HL0.out]; simp)⟩
      · have h1 := HX.out.cnt
        rw [hpl.length_eq]; omega
    · intro x w3 cnt3 h32 hlk hrg3 hlt3 hg3 hs3 hen
      obtain ⟨g, cap, rfl⟩ := HX.out.som
      have hrne : ∀ (i : Nat) (cur : Array Value) (t : TypeId), wr.heap[i]? = some (Obj.cells cur t (0, 0)) → w3.heap[i]? = wr.heap[i]? := fun i cur t hi => hg3.block i (Array.getElem?_eq_some_iff.1 hi).1 (fun e => by
        simp only [Option.some.injEq] at e
        subst e
        obtain ⟨_, _, _, _, _, _, _, _, _, hr, _⟩ := HX.out.rng
        rw [hr] at hi; cases hi)
      have hA3 : After w w3 := below_grown HX.out.aft hg3 (fun k hk => by cases hk; omega) HX.out.aft.size
      have hO3 : OwnH w3 w.heap.size (.slice (some ⟨g, 0, none⟩) ss.length cap) ss := HX.out.own.same (fun i hi => by
        obtain ⟨cur, hcur, _⟩ := HX.out.own.row
        cases hi; exact hrne _ _ _ hcur)
      have hB3 : w3.heap[w.heap.size + 1]? = some (.cells #[.slice (some ⟨g, 0, none⟩) ss.length cap] 26 (0, 0)) := by rw [hrne _ _ _ HX.out.box]; exact HX.out.box
      obtain ⟨cur, hcur, _⟩ := hO3.row
      have hne : w.heap.size + 1 ≠ g := fun e => by rw [← e, hB3] at hcur; cases hcur
      have HX3 : Hid (x.length = 32 ∧ left (.string x) = true ∧ cnt3 < cnt ∧ w.heap.size + 1 ≠ g) := ⟨h32, hlk, hlt3, hne⟩
      obtain ⟨k, hk⟩ : ∃ k, ss.length = k := ⟨_, rfl⟩
      have HK : Hid (ss.length = k) := hk
      rw [hk] at hB3 hO3
      have HFS : Hid (∀ cs : Array Value, ((w3.alloc (.cells cs 40)).setRow w3.heap.size (c8 x).toArray).heap[w3.heap.size]? = some (.cells (c8 x).toArray 40 (0, 0)) ∧ After w3 ((w3.alloc (.cells cs 40)).setRow w3.heap.size (c8 x).toArray) ∧ ((w3.alloc (.cells cs 40)).setRow w3.heap.size (c8 x).toArray).heap.size = w3.heap.size + 1) := fun cs => fresh_row w3 x cs
      have HB3 := show Hid (_ = some (Obj.cells _ 26 (0, 0))) from hB3
      have HO3 := show Hid (OwnH _ _ _ _) from hO3
      have HA3 := show Hid (After w w3) from hA3
      have HRG3 := show Hid (World.ranges _ _ _ _ _ _ _ _ _ _) from hrg3
      have H32 : Hid (x.length = 32) := h32
      have HKB : Hid ((ss.length + [x].length) * 32 ≤ 140737488355328) := by have h1 := HX.out.cnt; have h2 := HLE.out.2.2.1; unfold Hid; simp only [List.length_cons, List.length_nil]; omega
      clear h32 hlk hrg3 hlt3 hg3 hrne hA3 hO3 hB3 hcur hne hk hs3
      go_wp2_with (first
        | (refine wpList_store_row rfl 40 (.tmp 4) (.tmp 13) rfl w3.heap.size (c8 x).toArray rfl rfl 40 _ (heap_alloc_new w3 _) (size24a H32.out) (by simp [c8_len, H32.out]) (hs_oneH x) ?_)
        | (refine wpList_load_row rfl 40 (.tmp 4) rfl w3.heap.size rfl 40 (c8 x).toArray (0, 0) _ (HFS.out _).1 Tryz.underlying40 rfl (size24a H32.out) ?_)
        | (refine wpList_of_run rfl (x_ld22 (x := .tmp 3) (g := w.heap.size + 1) (p := 0) rfl rfl (cell_at (HFS.out _).2.1 ((show RowIs w3 (w.heap.size + 1) 26 [.slice (some ⟨g, 0, none⟩) k cap] from HB3.out).cell (j := 0) rfl))) ?_)
        | (refine wpList_bs22 rfl (.tmp 15) rfl H32.out rfl ?_)
        | (at_builtin; refine wpList_append_hashes rfl _ _ rfl w.heap.size (.slice (some ⟨g, 0, none⟩) k cap) ss rfl ((HO3.out.after (HFS.out _).2.1).after (after_alloc (After.refl _) _)) (some ⟨_, 0, none⟩) 1 [x] (All32.cons H32.out All32.nil) 1 rfl rfl (HsAt.one _ x) HKB.out (by simp [(HFS.out _).2.2]; have := HA3.out.size; omega) ?_
           intro v' w6 ho6 hg6
           have hrow := rs_box HB3.out HO3.out (after_alloc (HFS.out _).2.1 _) hg6
           have hfr := hrow.frozen 0
           have hrl := hrow.lt
           have hcl := hrow.cell (j := 0) rfl
           have HNX := show Hid (RsI _ _ _ _ _ _ _ _ _ _ _) from rs_next HX.out HRG3.out HA3.out HB3.out HO3.out (after_alloc (HFS.out _).2.1 _) hg6 ho6 H32.out HX3.out.2.1 HX3.out.2.2.1 (Nat.le_succ _)
           obtain ⟨g6, cap6, rfl⟩ := ho6.sm (by simp)
           obtain ⟨k6, hk6⟩ : ∃ k6, (ss ++ [x]).length = k6 := ⟨_, rfl⟩
           rw [hk6] at HNX ⊢
           clear ho6 hg6 hrow hk6))
      go_roundw
      case rel => exact ⟨_, _, _, _, HNX⟩
      case measure => rw [HNX.out.rng.left_eq, HX.out.rng.left_eq]; exact HX3.out.2.2.1
end
section
open Go.RowKit Go.Maps Go.Sort
section
variable {a : Act} {w : World} {oi : Oper}
end
theorem Up.upB {l : List Hs} (h : Up l) (h32 : All32 l) : upB l = true := upB_pre l (fun j x y hx hy => by
  obtain ⟨h1, e1⟩ := List.getElem?_eq_some_iff.1 hx
  obtain ⟨h2, e2⟩ := List.getElem?_eq_some_iff.1 hy
  have := (List.pairwise_iff_getElem.1 h) j (j + 1) h1 h2 (by omega)
  rw [e1, e2] at this
  rw [ltB_str x y (by rw [h32.at hx, h32.at hy])]; exact this)
theorem ListsAt.one (w : World) (ao : Option Addr) (n c : Nat) (l : List Hs) (h32 : All32 l) (hl : l.length = n) (hA : HsAt w ao l) : ListsAt (w.alloc (.cells #[.slice ao n c] 26)) (some ⟨w.heap.size, 0, none⟩) [⟨ao, n, c, l⟩] := fun _ => ⟨w.heap.size, 0, rfl, fun j x hj => by
  cases j with
  | zero =>
    simp at hj; subst hj
    exact ⟨(RowIs.new w 26 [.slice ao n c]).cell (j := 0) rfl, hA.after (after_alloc (After.refl w) _), hl, h32⟩
  | succ j => simp at hj⟩
set_option maxRecDepth 100000 in
set_option maxHeartbeats 3200000 in
theorem sort12 {m : Nat} (hm : SortOK m) (ao : Option Addr) (ca : Nat) (l : List Hs) (h32 : All32 l) (n : Nat) (hl : l.length = n) (hn : n ≤ m) (hbig : n ≤ 4398046511104) (w : World) (hA : HsAt w ao l) :
    Calls Tryz.prog 14 #[.slice ao n ca] w fun e w' => ∃ v s, e = .returned v ∧ OwnH w' w.heap.size v s ∧ All32 s ∧ Up s ∧ (∀ h, h ∈ s ↔ h ∈ l) ∧ s.length ≤ n ∧ After w w' := by
  have hcat : catL [⟨ao, n, ca, l⟩] = l := by simp [catL]
  have hC := setOf_any (some ⟨w.heap.size, 0, none⟩) 1 [⟨ao, n, ca, l⟩] (by simp) (by rw [hcat, hl]; exact hbig) (w.alloc (.cells #[.slice ao n ca] 26)) (ListsAt.one w ao n ca l h32 hl hA)
  rw [hcat, hl, show (w.alloc (.cells #[.slice ao n ca] 26)).heap.size = w.heap.size + 1 by simp] at hC
  have HC : Hid (Calls Tryz.prog 27 #[.slice (some ⟨w.heap.size, 0, none⟩) 1 1] (w.alloc (.cells #[.slice ao n ca] 26)) fun e w' => e = .returned (.map (some (w.heap.size + 1))) ∧ SetAt w' (w.heap.size + 1) n l ∧ After (w.alloc (.cells #[.slice ao n ca] 26)) w') := hC
  have HM : Hid (SortOK m ∧ n ≤ m ∧ n ≤ 4398046511104) := ⟨hm, hn, hbig⟩
  have HAL : Hid (After w (w.alloc (.cells #[.slice ao n ca] 26))) := after_alloc (After.refl w) _
  have hbs : (Instr.buildSlice 77 1 #[(0, .slice ao n ca)]).run Tryz.prog w = .ok (.slice (some ⟨w.heap.size, 0, none⟩) 1 1) (w.alloc (.cells #[.slice ao n ca] 26)) := by kernel_rfl
  clear hA h32 hl hn hm hC hcat
  go_enter Tryz.func14, Tryz.ntmps14
  go_wp2_with (first
    | (go_at_call 27; refine Calls.mono HC.out ?_; rintro e w2 ⟨rfl, hs2, ha2⟩; have HS2 := show Hid (SetAt _ _ _ _) from hs2; have HA2 := show Hid (After _ w2) from ha2; clear hs2 ha2)
    | (go_at_call 28; refine Calls.mono (rising_any HM.out.1 (w.heap.size + 1) n l HM.out.2.1 HM.out.2.2 w2 HS2.out) ?_; rintro e w3 ⟨v, s, rfl, h1, h2, h3, h4, h5, h6⟩; have HR := show Hid (OwnH w3 w2.heap.size v s ∧ All32 s ∧ Up s ∧ (∀ h, h ∈ s ↔ h ∈ l) ∧ s.length ≤ n ∧ After w2 w3) from ⟨h1, h2, h3, h4, h5, h6⟩; clear h1 h2 h3 h4 h5 h6))
  go_ret
  have hA2 := After.trans HAL.out HA2.out
  exact ⟨v, s, rfl, HR.out.1.mono hA2.size, HR.out.2.1, HR.out.2.2.1, HR.out.2.2.2.1, HR.out.2.2.2.2.1, After.trans hA2 HR.out.2.2.2.2.2⟩
end
end Go.Proofs.YtcmcapcagblafaaGreat
