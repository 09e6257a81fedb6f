/-
  THE WALK OF sort.partialInsertionSort_func.
-/
import Derived.Test.YtgcgblecendijaaHeap2
import Derived.Sort.WalkA6
namespace Go.Proofs.Ytgcgblecendijaa
open Go.RowKit Go.Sort Go.Lib
theorem lessP {w0 : World} {g cap Bs B n : Nat} {dk : Array Hs} {j : Nat} {v : Bool} (h1 : 1 ≤ j) (hj : j < n) (hv : ltStr dk[j]! dk[j - 1]! = v) (W : World) (h : SB w0 g cap Bs B n dk W) :
    Calls Try.prog 39 #[.int .i64 (j : Int), .int .i64 ((j : Int) - 1), .pointer (some ⟨Bs, 0, none⟩)] W fun e w' => e = .returned (.bool v) ∧ SB w0 g cap Bs B n dk w' := by
  have := lessAt (i := j) (j := j - 1) hj (by omega) hv W h
  rw [show ((j - 1 : Nat) : Int) = (j : Int) - 1 by omega] at this
  exact this
theorem SB.swapP {w0 : World} {g cap Bs B n : Nat} {d : Array Hs} {W : World} (h : SB w0 g cap Bs B n d W) {j : Nat} (h1 : 1 ≤ j) (hj : j < n) :
    ∃ W', (callFunc 60 #[.int .i64 (j : Int), .int .i64 ((j : Int) - 1), .slice (some ⟨g, 0, none⟩) n cap, typeHandle Try.prog 29]).run Try.prog W = .ok (.value (.tuple #[])) W' ∧ SB w0 g cap Bs B n (swp d j (j - 1)) W' := by
  have := h.swap (i := j) (j := j - 1) hj (by omega)
  rw [show ((j - 1 : Nat) : Int) = (j : Int) - 1 by omega] at this
  exact this

set_option maxRecDepth 100000 in
set_option maxHeartbeats 6400000 in
theorem pins82 {w0 : World} {g cap Bs n : Nat} {d : Array Hs} {w : World} (h : SW w0 g cap Bs d w) (hn : d.size = n) (a b : Nat) (hab : a < b) (hb : b ≤ n) (hsz : n < 1152921504606846976) :
    Calls Try.prog 68 #[.agg #[lessV Bs, swapV (typeHandle Try.prog 29) g cap n], .int .i64 (a : Int), .int .i64 (b : Int)] w fun e w' => e = .returned (.bool (partialInsertionSort ltStr d a b).2) ∧ SW w0 g cap Bs (partialInsertionSort ltStr d a b).1 w' := by
  have HS0 := show Hid (SB _ _ _ _ _ _ _ _) from SB.start h hn
  obtain ⟨B, hB⟩ : ∃ B, w.heap.size = B := ⟨_, rfl⟩
  have e51 : ∀ args w, (callFunc 39 args).run Try.prog w = .ok (.enter 39 args) w := enters_of Try.func39 (by kernel_rfl) rfl
  clear h hn
  unfold lessV swapV at HS0 ⊢
  go_enter Try.func68, Try.ntmps68
  go_wp2_with fail
  rw [hB] at HS0
  obtain ⟨w1, hw1⟩ : ∃ w1, w.alloc (.cells #[.func (.func 39) #[] #[.pointer (some ⟨Bs, 0, none⟩)], .func (.func 60) #[] #[.slice (some ⟨g, 0, none⟩) n cap, typeHandle Try.prog 29]] 91) = w1 := ⟨_, rfl⟩
  rw [hw1] at HS0 ⊢
  clear hw1 hB
  go_loopw [7, 8] (fun vi vs wr => ∃ (i s : Nat) (dk : Array Hs), vi = .int .i64 (i : Int) ∧ vs = .int .i64 (s : Int) ∧ s ≤ 5 ∧ a < i ∧ i ≤ b ∧ Hid (SB w0 g cap Bs B n dk wr ∧ partialIns ltStr a b (5 - s) i dk = partialIns ltStr a b 5 (a + 1) d)) (fun _ vs _ => 5 - (intOf vs).toNat)
  case atStart => exact ⟨a + 1, 0, d, by go_num, rfl, by omega, by omega, by omega, HS0.out, rfl⟩
  case round =>
    obtain ⟨i, s, dk, rfl, rfl, hs5, hai, hib, HO⟩ := hrel
    by_cases hs : s < 5
    · have hs5z : (s : Int) < 5 := by omega
      go_wp2_with fail
      go_loopw [7] (fun vi wr => ∃ k : Nat, vi = .int .i64 (k : Int) ∧ i ≤ k ∧ k ≤ b ∧ Hid (SB w0 g cap Bs B n dk wr ∧ scanSorted ltStr dk b k = scanSorted ltStr dk b i)) (fun vi _ => b - (intOf vi).toNat)
      case atStart => exact ⟨i, rfl, Nat.le_refl _, hib, HO.out.1, rfl⟩
      case round =>
        obtain ⟨k, rfl, hik, hkb, HSc⟩ := hrel
        have r0 := HSc.out.1.row.cell (j := 0) rfl
        have r1 := HSc.out.1.row.cell (j := 1) rfl
        unfold lessV at r0
        unfold swapV at r1
        by_cases hkb' : k < b
        · have hkz : (k : Int) < (b : Int) := by omega
          cases v1 : ltStr dk[k]! dk[k - 1]! with
          | false =>
            have C1 := show Hid _ from fun W h => lessP (w0 := w0) (g := g) (cap := cap) (Bs := Bs) (B := B) (n := n) (j := k) (by omega) (by omega) v1 W h
            have V1 := show Hid _ from v1
            clear v1
            have HS1 := show Hid (SB _ _ _ _ _ _ _ _) from HSc.out.1
            go_wp2_with (go_at_fn 39; refine Calls.mono (C1.out wr HS1.out) ?_; rintro e w3 ⟨rfl, h3⟩; have HS3 := show Hid (SB _ _ _ _ _ _ _ _) from h3; have k0_3 := h3.row.cell (j := 0) rfl; have k1_3 := h3.row.cell (j := 1) rfl; unfold lessV at k0_3; unfold swapV at k1_3; clear h3)
            go_roundw
            case rel => exact ⟨k + 1, by go_num, by omega, by omega, HS3.out, by rw [← HSc.out.2, scanSorted_go ltStr dk b k hkb' V1.out]⟩
            case measure => simp [intOf]; omega
          | true =>
            have C1 := show Hid _ from fun W h => lessP (w0 := w0) (g := g) (cap := cap) (Bs := Bs) (B := B) (n := n) (j := k) (by omega) (by omega) v1 W h
            have V1 := show Hid _ from v1
            clear v1
            have HS1 := show Hid (SB _ _ _ _ _ _ _ _) from HSc.out.1
            have HK : Hid (scanSorted ltStr dk b i = k) := by unfold Hid; rw [← HSc.out.2, scanSorted_stop ltStr dk b k (Or.inr V1.out)]
            have hkne : ((k : Int) == (b : Int)) = false := beq_eq_false_iff_ne.2 (by omega)
            by_cases h50 : b - a < 50
            · have h50z : (b : Int) - (a : Int) < 50 := by omega
              have HV : Hid (partialInsertionSort ltStr d a b = (dk, false)) := by
                unfold Hid partialInsertionSort; rw [← HO.out.2, pi_short ltStr a b s i dk hs (by rw [HK.out]; omega) h50]
              go_wp2_with (go_at_fn 39; refine Calls.mono (C1.out wr HS1.out) ?_; rintro e w3 ⟨rfl, h3⟩; have HS3 := show Hid (SB _ _ _ _ _ _ _ _) from h3; have k0_3 := h3.row.cell (j := 0) rfl; have k1_3 := h3.row.cell (j := 1) rfl; unfold lessV at k0_3; unfold swapV at k1_3; clear h3)
              go_ret
              rw [HV.out]
              exact ⟨rfl, HS3.out.sw⟩
            · have h50z : ¬ ((b : Int) - (a : Int) < 50) := by omega
              by_cases hka : k - a ≥ 2
              · have hkaz : (2 : Int) ≤ (k : Int) - (a : Int) := by omega
                go_wp2_with (go_at_fn 39; refine Calls.mono (C1.out wr HS1.out) ?_; rintro e w3 ⟨rfl, h3⟩; have HS3 := show Hid (SB _ _ _ _ _ _ _ _) from h3; have k0_3 := h3.row.cell (j := 0) rfl; have k1_3 := h3.row.cell (j := 1) rfl; unfold lessV at k0_3; unfold swapV at k1_3; obtain ⟨w4, hsw3, h4⟩ := h3.swapP (j := k) (by omega) (by omega); have HS4 := show Hid (SB _ _ _ _ _ _ _ _) from h4; have k0_4 := h4.row.cell (j := 0) rfl; have k1_4 := h4.row.cell (j := 1) rfl; unfold lessV at k0_4; unfold swapV at k1_4; clear h4; clear h3)
                go_loopw [9] (fun vj wr => ∃ (j : Nat) (dj : Array Hs), vj = .int .i64 (j : Int) ∧ j ≤ k - 1 ∧ Hid (SB w0 g cap Bs B n dj wr ∧ shiftDown ltStr j dj = shiftDown ltStr (k - 1) (swp dk k (k - 1)))) (fun vj _ => (intOf vj).toNat)
                case atStart => exact ⟨k - 1, swp dk k (k - 1), by congr 1; omega, Nat.le_refl _, HS4.out, rfl⟩
                case round =>
                  obtain ⟨j, dj, rfl, hjk, HDn⟩ := hrel
                  have q0 := HDn.out.1.row.cell (j := 0) rfl
                  have q1 := HDn.out.1.row.cell (j := 1) rfl
                  unfold lessV at q0
                  unfold swapV at q1
                  by_cases hj1 : 1 ≤ j
                  · have hj1z : (1 : Int) ≤ (j : Int) := by omega
                    cases v2 : ltStr dj[j]! dj[j - 1]! with
                    | true =>
                      have C2 := show Hid _ from fun W h => lessP (w0 := w0) (g := g) (cap := cap) (Bs := Bs) (B := B) (n := n) (j := j) (by omega) (by omega) v2 W h
                      have V2 := show Hid _ from v2
                      clear v2
                      have HS10 := show Hid (SB _ _ _ _ _ _ _ _) from HDn.out.1
                      go_wp2_with (go_at_fn 39; refine Calls.mono (C2.out wr HS10.out) ?_; rintro e w11 ⟨rfl, h11⟩; have HS11 := show Hid (SB _ _ _ _ _ _ _ _) from h11; have k0_11 := h11.row.cell (j := 0) rfl; have k1_11 := h11.row.cell (j := 1) rfl; unfold lessV at k0_11; unfold swapV at k1_11; obtain ⟨w12, hsw11, h12⟩ := h11.swapP (j := j) (by omega) (by omega); have HS12 := show Hid (SB _ _ _ _ _ _ _ _) from h12; have k0_12 := h12.row.cell (j := 0) rfl; have k1_12 := h12.row.cell (j := 1) rfl; unfold lessV at k0_12; unfold swapV at k1_12; clear h12; clear h11)
                      go_roundw
                      case rel => exact ⟨j - 1, swp dj j (j - 1), by congr 1; omega, by omega, HS12.out, by rw [← HDn.out.2, shiftDown_go ltStr j dj hj1 V2.out]⟩
                      case measure => simp [intOf]; omega
                    | false =>
                      have C2 := show Hid _ from fun W h => lessP (w0 := w0) (g := g) (cap := cap) (Bs := Bs) (B := B) (n := n) (j := j) (by omega) (by omega) v2 W h
                      have V2 := show Hid _ from v2
                      clear v2
                      have HS10 := show Hid (SB _ _ _ _ _ _ _ _) from HDn.out.1
                      have HD : Hid (fixDown ltStr a k (swp dk k (k - 1)) = dj) := by unfold Hid fixDown; rw [if_pos hka, ← HDn.out.2, shiftDown_stop ltStr j dj (Or.inr V2.out)]
                      by_cases hbk : b - k ≥ 2
                      · have hbkz : (2 : Int) ≤ (b : Int) - (k : Int) := by omega
                        go_wp2_with (go_at_fn 39; refine Calls.mono (C2.out wr HS10.out) ?_; rintro e w11 ⟨rfl, h11⟩; have HS11 := show Hid (SB _ _ _ _ _ _ _ _) from h11; have k0_11 := h11.row.cell (j := 0) rfl; have k1_11 := h11.row.cell (j := 1) rfl; unfold lessV at k0_11; unfold swapV at k1_11; clear h11)
                        go_loopw [10] (fun vj wr => ∃ (ju : Nat) (du : Array Hs), vj = .int .i64 (ju : Int) ∧ k + 1 ≤ ju ∧ ju ≤ b ∧ Hid (SB w0 g cap Bs B n du wr ∧ shiftUp ltStr b ju du = shiftUp ltStr b (k + 1) dj)) (fun vj _ => b - (intOf vj).toNat)
                        case atStart => exact ⟨k + 1, dj, by go_num, Nat.le_refl _, by omega, HS11.out, rfl⟩
                        case round =>
                          obtain ⟨ju, du, rfl, hkj, hjb, HU⟩ := hrel
                          have p0 := HU.out.1.row.cell (j := 0) rfl
                          have p1 := HU.out.1.row.cell (j := 1) rfl
                          unfold lessV at p0
                          unfold swapV at p1
                          by_cases hjb' : ju < b
                          · have hjz : (ju : Int) < (b : Int) := by omega
                            cases v3 : ltStr du[ju]! du[ju - 1]! with
                            | true =>
                              have C3 := show Hid _ from fun W h => lessP (w0 := w0) (g := g) (cap := cap) (Bs := Bs) (B := B) (n := n) (j := ju) (by omega) (by omega) v3 W h
                              have V3 := show Hid _ from v3
                              clear v3
                              have HS20 := show Hid (SB _ _ _ _ _ _ _ _) from HU.out.1
                              go_wp2_with (go_at_fn 39; refine Calls.mono (C3.out wr HS20.out) ?_; rintro e w21 ⟨rfl, h21⟩; have HS21 := show Hid (SB _ _ _ _ _ _ _ _) from h21; have k0_21 := h21.row.cell (j := 0) rfl; have k1_21 := h21.row.cell (j := 1) rfl; unfold lessV at k0_21; unfold swapV at k1_21; obtain ⟨w22, hsw21, h22⟩ := h21.swapP (j := ju) (by omega) (by omega); have HS22 := show Hid (SB _ _ _ _ _ _ _ _) from h22; have k0_22 := h22.row.cell (j := 0) rfl; have k1_22 := h22.row.cell (j := 1) rfl; unfold lessV at k0_22; unfold swapV at k1_22; clear h22; clear h21)
                              go_roundw
                              case rel => exact ⟨ju + 1, swp du ju (ju - 1), by go_num, by omega, by omega, HS22.out, by rw [← HU.out.2, shiftUp_go ltStr b ju du hjb' V3.out]⟩
                              case measure => simp [intOf]; omega
                            | false =>
                              have C3 := show Hid _ from fun W h => lessP (w0 := w0) (g := g) (cap := cap) (Bs := Bs) (B := B) (n := n) (j := ju) (by omega) (by omega) v3 W h
                              have V3 := show Hid _ from v3
                              clear v3
                              have HS20 := show Hid (SB _ _ _ _ _ _ _ _) from HU.out.1
                              have HF : Hid (fixUp ltStr b k dj = du) := by unfold Hid fixUp; rw [if_pos hbk, ← HU.out.2, shiftUp_stop ltStr b ju du (Or.inr V3.out)]
                              go_wp2_with (go_at_fn 39; refine Calls.mono (C3.out wr HS20.out) ?_; rintro e w21 ⟨rfl, h21⟩; have HS21 := show Hid (SB _ _ _ _ _ _ _ _) from h21; have k0_21 := h21.row.cell (j := 0) rfl; have k1_21 := h21.row.cell (j := 1) rfl; unfold lessV at k0_21; unfold swapV at k1_21; clear h21)
                              go_roundw
                              case rel => exact ⟨k, s + 1, du, rfl, by go_num, by omega, by omega, by omega, HS21.out, by rw [← HO.out.2, pi_go ltStr a b s i k dk hs HK.out (by omega) h50, HD.out, HF.out]⟩
                              case measure => simp [intOf]; omega
                          · have hjz : ¬ (ju : Int) < (b : Int) := by omega
                            have HF : Hid (fixUp ltStr b k dj = du) := by unfold Hid fixUp; rw [if_pos hbk, ← HU.out.2, shiftUp_stop ltStr b ju du (Or.inl hjb')]
                            have HS21 := show Hid (SB _ _ _ _ _ _ _ _) from HU.out.1
                            go_wp2
                            go_roundw
                            case rel => exact ⟨k, s + 1, du, rfl, by go_num, by omega, by omega, by omega, HS21.out, by rw [← HO.out.2, pi_go ltStr a b s i k dk hs HK.out (by omega) h50, HD.out, HF.out]⟩
                            case measure => simp [intOf]; omega
                      · have hbkz : ¬ (2 : Int) ≤ (b : Int) - (k : Int) := by omega
                        have HF : Hid (fixUp ltStr b k dj = dj) := by unfold Hid fixUp; rw [if_neg hbk]
                        go_wp2_with (go_at_fn 39; refine Calls.mono (C2.out wr HS10.out) ?_; rintro e w11 ⟨rfl, h11⟩; have HS11 := show Hid (SB _ _ _ _ _ _ _ _) from h11; have k0_11 := h11.row.cell (j := 0) rfl; have k1_11 := h11.row.cell (j := 1) rfl; unfold lessV at k0_11; unfold swapV at k1_11; clear h11)
                        go_roundw
                        case rel => exact ⟨k, s + 1, dj, rfl, by go_num, by omega, by omega, by omega, HS11.out, by rw [← HO.out.2, pi_go ltStr a b s i k dk hs HK.out (by omega) h50, HD.out, HF.out]⟩
                        case measure => simp [intOf]; omega
                  · have hj1z : ¬ (1 : Int) ≤ (j : Int) := by omega
                    have HD : Hid (fixDown ltStr a k (swp dk k (k - 1)) = dj) := by unfold Hid fixDown; rw [if_pos hka, ← HDn.out.2, shiftDown_stop ltStr j dj (Or.inl (by omega))]
                    have HS11 := show Hid (SB _ _ _ _ _ _ _ _) from HDn.out.1
                    by_cases hbk : b - k ≥ 2
                    · have hbkz : (2 : Int) ≤ (b : Int) - (k : Int) := by omega
                      go_wp2_with fail
                      go_loopw [10] (fun vj wr => ∃ (ju : Nat) (du : Array Hs), vj = .int .i64 (ju : Int) ∧ k + 1 ≤ ju ∧ ju ≤ b ∧ Hid (SB w0 g cap Bs B n du wr ∧ shiftUp ltStr b ju du = shiftUp ltStr b (k + 1) dj)) (fun vj _ => b - (intOf vj).toNat)
                      case atStart => exact ⟨k + 1, dj, by go_num, Nat.le_refl _, by omega, HS11.out, rfl⟩
                      case round =>
                        obtain ⟨ju, du, rfl, hkj, hjb, HU⟩ := hrel
                        have p0 := HU.out.1.row.cell (j := 0) rfl
                        have p1 := HU.out.1.row.cell (j := 1) rfl
                        unfold lessV at p0
                        unfold swapV at p1
                        by_cases hjb' : ju < b
                        · have hjz : (ju : Int) < (b : Int) := by omega
                          cases v3 : ltStr du[ju]! du[ju - 1]! with
                          | true =>
                            have C3 := show Hid _ from fun W h => lessP (w0 := w0) (g := g) (cap := cap) (Bs := Bs) (B := B) (n := n) (j := ju) (by omega) (by omega) v3 W h
                            have V3 := show Hid _ from v3
                            clear v3
                            have HS20 := show Hid (SB _ _ _ _ _ _ _ _) from HU.out.1
                            go_wp2_with (go_at_fn 39; refine Calls.mono (C3.out wr HS20.out) ?_; rintro e w21 ⟨rfl, h21⟩; have HS21 := show Hid (SB _ _ _ _ _ _ _ _) from h21; have k0_21 := h21.row.cell (j := 0) rfl; have k1_21 := h21.row.cell (j := 1) rfl; unfold lessV at k0_21; unfold swapV at k1_21; obtain ⟨w22, hsw21, h22⟩ := h21.swapP (j := ju) (by omega) (by omega); have HS22 := show Hid (SB _ _ _ _ _ _ _ _) from h22; have k0_22 := h22.row.cell (j := 0) rfl; have k1_22 := h22.row.cell (j := 1) rfl; unfold lessV at k0_22; unfold swapV at k1_22; clear h22; clear h21)
                            go_roundw
                            case rel => exact ⟨ju + 1, swp du ju (ju - 1), by go_num, by omega, by omega, HS22.out, by rw [← HU.out.2, shiftUp_go ltStr b ju du hjb' V3.out]⟩
                            case measure => simp [intOf]; omega
                          | false =>
                            have C3 := show Hid _ from fun W h => lessP (w0 := w0) (g := g) (cap := cap) (Bs := Bs) (B := B) (n := n) (j := ju) (by omega) (by omega) v3 W h
                            have V3 := show Hid _ from v3
                            clear v3
                            have HS20 := show Hid (SB _ _ _ _ _ _ _ _) from HU.out.1
                            have HF : Hid (fixUp ltStr b k dj = du) := by unfold Hid fixUp; rw [if_pos hbk, ← HU.out.2, shiftUp_stop ltStr b ju du (Or.inr V3.out)]
                            go_wp2_with (go_at_fn 39; refine Calls.mono (C3.out wr HS20.out) ?_; rintro e w21 ⟨rfl, h21⟩; have HS21 := show Hid (SB _ _ _ _ _ _ _ _) from h21; have k0_21 := h21.row.cell (j := 0) rfl; have k1_21 := h21.row.cell (j := 1) rfl; unfold lessV at k0_21; unfold swapV at k1_21; clear h21)
                            go_roundw
                            case rel => exact ⟨k, s + 1, du, rfl, by go_num, by omega, by omega, by omega, HS21.out, by rw [← HO.out.2, pi_go ltStr a b s i k dk hs HK.out (by omega) h50, HD.out, HF.out]⟩
                            case measure => simp [intOf]; omega
                        · have hjz : ¬ (ju : Int) < (b : Int) := by omega
                          have HF : Hid (fixUp ltStr b k dj = du) := by unfold Hid fixUp; rw [if_pos hbk, ← HU.out.2, shiftUp_stop ltStr b ju du (Or.inl hjb')]
                          have HS21 := show Hid (SB _ _ _ _ _ _ _ _) from HU.out.1
                          go_wp2
                          go_roundw
                          case rel => exact ⟨k, s + 1, du, rfl, by go_num, by omega, by omega, by omega, HS21.out, by rw [← HO.out.2, pi_go ltStr a b s i k dk hs HK.out (by omega) h50, HD.out, HF.out]⟩
                          case measure => simp [intOf]; omega
                    · have hbkz : ¬ (2 : Int) ≤ (b : Int) - (k : Int) := by omega
                      have HF : Hid (fixUp ltStr b k dj = dj) := by unfold Hid fixUp; rw [if_neg hbk]
                      go_wp2
                      go_roundw
                      case rel => exact ⟨k, s + 1, dj, rfl, by go_num, by omega, by omega, by omega, HS11.out, by rw [← HO.out.2, pi_go ltStr a b s i k dk hs HK.out (by omega) h50, HD.out, HF.out]⟩
                      case measure => simp [intOf]; omega
              · have hkaz : ¬ (2 : Int) ≤ (k : Int) - (a : Int) := by omega
                have HD : Hid (fixDown ltStr a k (swp dk k (k - 1)) = swp dk k (k - 1)) := by unfold Hid fixDown; rw [if_neg hka]
                by_cases hbk : b - k ≥ 2
                · have hbkz : (2 : Int) ≤ (b : Int) - (k : Int) := by omega
                  go_wp2_with (go_at_fn 39; refine Calls.mono (C1.out wr HS1.out) ?_; rintro e w3 ⟨rfl, h3⟩; have HS3 := show Hid (SB _ _ _ _ _ _ _ _) from h3; have k0_3 := h3.row.cell (j := 0) rfl; have k1_3 := h3.row.cell (j := 1) rfl; unfold lessV at k0_3; unfold swapV at k1_3; obtain ⟨w4, hsw3, h4⟩ := h3.swapP (j := k) (by omega) (by omega); have HS4 := show Hid (SB _ _ _ _ _ _ _ _) from h4; have k0_4 := h4.row.cell (j := 0) rfl; have k1_4 := h4.row.cell (j := 1) rfl; unfold lessV at k0_4; unfold swapV at k1_4; clear h4; clear h3)
                  go_loopw [10] (fun vj wr => ∃ (ju : Nat) (du : Array Hs), vj = .int .i64 (ju : Int) ∧ k + 1 ≤ ju ∧ ju ≤ b ∧ Hid (SB w0 g cap Bs B n du wr ∧ shiftUp ltStr b ju du = shiftUp ltStr b (k + 1) (swp dk k (k - 1)))) (fun vj _ => b - (intOf vj).toNat)
                  case atStart => exact ⟨k + 1, (swp dk k (k - 1)), by go_num, Nat.le_refl _, by omega, HS4.out, rfl⟩
                  case round =>
                    obtain ⟨ju, du, rfl, hkj, hjb, HU⟩ := hrel
                    have p0 := HU.out.1.row.cell (j := 0) rfl
                    have p1 := HU.out.1.row.cell (j := 1) rfl
                    unfold lessV at p0
                    unfold swapV at p1
                    by_cases hjb' : ju < b
                    · have hjz : (ju : Int) < (b : Int) := by omega
                      cases v3 : ltStr du[ju]! du[ju - 1]! with
                      | true =>
                        have C3 := show Hid _ from fun W h => lessP (w0 := w0) (g := g) (cap := cap) (Bs := Bs) (B := B) (n := n) (j := ju) (by omega) (by omega) v3 W h
                        have V3 := show Hid _ from v3
                        clear v3
                        have HS20 := show Hid (SB _ _ _ _ _ _ _ _) from HU.out.1
                        go_wp2_with (go_at_fn 39; refine Calls.mono (C3.out wr HS20.out) ?_; rintro e w21 ⟨rfl, h21⟩; have HS21 := show Hid (SB _ _ _ _ _ _ _ _) from h21; have k0_21 := h21.row.cell (j := 0) rfl; have k1_21 := h21.row.cell (j := 1) rfl; unfold lessV at k0_21; unfold swapV at k1_21; obtain ⟨w22, hsw21, h22⟩ := h21.swapP (j := ju) (by omega) (by omega); have HS22 := show Hid (SB _ _ _ _ _ _ _ _) from h22; have k0_22 := h22.row.cell (j := 0) rfl; have k1_22 := h22.row.cell (j := 1) rfl; unfold lessV at k0_22; unfold swapV at k1_22; clear h22; clear h21)
                        go_roundw
                        case rel => exact ⟨ju + 1, swp du ju (ju - 1), by go_num, by omega, by omega, HS22.out, by rw [← HU.out.2, shiftUp_go ltStr b ju du hjb' V3.out]⟩
                        case measure => simp [intOf]; omega
                      | false =>
                        have C3 := show Hid _ from fun W h => lessP (w0 := w0) (g := g) (cap := cap) (Bs := Bs) (B := B) (n := n) (j := ju) (by omega) (by omega) v3 W h
                        have V3 := show Hid _ from v3
                        clear v3
                        have HS20 := show Hid (SB _ _ _ _ _ _ _ _) from HU.out.1
                        have HF : Hid (fixUp ltStr b k (swp dk k (k - 1)) = du) := by unfold Hid fixUp; rw [if_pos hbk, ← HU.out.2, shiftUp_stop ltStr b ju du (Or.inr V3.out)]
                        go_wp2_with (go_at_fn 39; refine Calls.mono (C3.out wr HS20.out) ?_; rintro e w21 ⟨rfl, h21⟩; have HS21 := show Hid (SB _ _ _ _ _ _ _ _) from h21; have k0_21 := h21.row.cell (j := 0) rfl; have k1_21 := h21.row.cell (j := 1) rfl; unfold lessV at k0_21; unfold swapV at k1_21; clear h21)
                        go_roundw
                        case rel => exact ⟨k, s + 1, du, rfl, by go_num, by omega, by omega, by omega, HS21.out, by rw [← HO.out.2, pi_go ltStr a b s i k dk hs HK.out (by omega) h50, HD.out, HF.out]⟩
                        case measure => simp [intOf]; omega
                    · have hjz : ¬ (ju : Int) < (b : Int) := by omega
                      have HF : Hid (fixUp ltStr b k (swp dk k (k - 1)) = du) := by unfold Hid fixUp; rw [if_pos hbk, ← HU.out.2, shiftUp_stop ltStr b ju du (Or.inl hjb')]
                      have HS21 := show Hid (SB _ _ _ _ _ _ _ _) from HU.out.1
                      go_wp2
                      go_roundw
                      case rel => exact ⟨k, s + 1, du, rfl, by go_num, by omega, by omega, by omega, HS21.out, by rw [← HO.out.2, pi_go ltStr a b s i k dk hs HK.out (by omega) h50, HD.out, HF.out]⟩
                      case measure => simp [intOf]; omega
                · have hbkz : ¬ (2 : Int) ≤ (b : Int) - (k : Int) := by omega
                  have HF : Hid (fixUp ltStr b k (swp dk k (k - 1)) = (swp dk k (k - 1))) := by unfold Hid fixUp; rw [if_neg hbk]
                  exfalso; omega
        · obtain rfl : k = b := by omega
          have hkz : ¬ (k : Int) < (k : Int) := by omega
          have HV : Hid (partialInsertionSort ltStr d a k = (dk, true)) := by
            unfold Hid partialInsertionSort; rw [← HO.out.2, pi_true ltStr a k s i dk hs (by rw [← HSc.out.2, scanSorted_stop ltStr dk k k (Or.inl (by omega))])]
          go_wp2
          go_ret
          rw [HV.out]
          exact ⟨rfl, HSc.out.1.sw⟩
    · obtain rfl : s = 5 := by omega
      have HV : Hid (partialInsertionSort ltStr d a b = (dk, false)) := by
        unfold Hid partialInsertionSort; rw [← HO.out.2, pi_end]
      go_wp2
      go_ret
      rw [HV.out]
      exact ⟨rfl, HO.out.1.sw⟩

end Go.Proofs.Ytgcgblecendijaa
