/-
  THE WALK OF sort.partition_func.
-/
import Derived.Test.YtgcgblecendijaaHeap2
import Derived.Sort.WalkC
import Derived.Sort.WalkC4
namespace Go.Proofs.Ytgcgblecendijaa
open Go.RowKit Go.Sort Go.Lib

set_option maxRecDepth 100000 in
set_option maxHeartbeats 6400000 in
theorem part84 {w0 : World} {g cap Bs n : Nat} {d : Array Hs} {w : World} (h : SW w0 g cap Bs d w) (hn : d.size = n) (a b p : Nat) (hap : a ≤ p) (hpb : p < b) (hb : b ≤ n) (hsz : n < 1152921504606846976) :
    Calls Try.prog 70 #[.agg #[lessV Bs, swapV (typeHandle Try.prog 29) g cap n], .int .i64 (a : Int), .int .i64 (b : Int), .int .i64 (p : Int)] w fun e w' => e = .returned (.tuple #[.int .i64 ((partition ltStr d a b p).1 : Int), .bool (partition ltStr d a b p).2.1]) ∧ SW w0 g cap Bs (partition ltStr d a b p).2.2 w' := by
  have HS0 := show Hid (SB _ _ _ _ _ _ _ _) from SB.start h hn
  obtain ⟨B, hB⟩ : ∃ B, w.heap.size = B := ⟨_, rfl⟩
  have e51 : ∀ args w, (callFunc 39 args).run Try.prog w = .ok (.enter 39 args) w := enters_of Try.func39 (by kernel_rfl) rfl
  clear h hn
  unfold lessV swapV at HS0 ⊢
  obtain ⟨w2, hsw0, h2⟩ := HS0.out.swap (i := a) (j := p) (by omega) (by omega)
  have HS2 := show Hid (SB _ _ _ _ _ _ _ _) from h2
  clear h2 HS0
  obtain ⟨i0, hi0⟩ : ∃ i0, i0 = a + 1 := ⟨_, rfl⟩
  obtain ⟨j0, hj0⟩ : ∃ j0, j0 = b - 1 := ⟨_, rfl⟩
  have hi0z : (a : Int) + 1 = (i0 : Int) := by omega
  have hj0z : (b : Int) - 1 = (j0 : Int) := by omega
  have hai0 : a < i0 := by omega
  have hij0 : i0 ≤ j0 + 1 := by omega
  have hjb0 : j0 < b := by omega
  have HIJ : Hid (i0 = a + 1 ∧ j0 = b - 1) := ⟨hi0, hj0⟩
  clear hi0 hj0
  go_enter Try.func70, Try.ntmps70
  go_wp2_with fail
  rw [hB] at HS2
  try rw [hB]
  clear hsw0 hB
  obtain ⟨e0, he0⟩ : ∃ e0, swp d a p = e0 := ⟨_, rfl⟩
  have HE0 : Hid (swp d a p = e0) := he0
  rw [he0] at HS2
  clear he0
  skip
  go_loopw [10] (fun vi wr => ∃ i1A : Nat, vi = .int .i64 (i1A : Int) ∧ i0 ≤ i1A ∧ i1A ≤ j0 + 1 ∧ Hid (SB w0 g cap Bs B n e0 wr ∧ scanUp (fun x => ltStr x e0[a]!) e0 j0 i1A = scanUp (fun x => ltStr x e0[a]!) e0 j0 i0)) (fun vi _ => j0 + 1 - (intOf vi).toNat)
  case atStart => exact ⟨i0, by go_num, Nat.le_refl _, by omega, HS2.out, rfl⟩
  case round =>
    obtain ⟨i1A, rfl, hii1A, hi1jA, HI1A⟩ := hrel
    have rA0 := HI1A.out.1.row.cell (j := 0) rfl
    have rA1 := HI1A.out.1.row.cell (j := 1) rfl
    unfold lessV at rA0
    unfold swapV at rA1
    by_cases hleA : i1A ≤ j0
    · have hleiA : (i1A : Int) ≤ (j0 : Int) := by omega
      cases v1 : ltStr e0[i1A]! e0[a]! with
      | true =>
        have C1 := show Hid _ from fun W h => lessAt (w0 := w0) (g := g) (cap := cap) (Bs := Bs) (B := B) (n := n) (by omega) (by omega) v1 W h
        have V1 := show Hid _ from v1
        clear v1
        have HS1 := show Hid (SB _ _ _ _ _ _ _ _) from HI1A.out.1
        go_wp2_with (go_at_fn 39; refine Calls.mono (C1.out wr HS1.out) ?_; rintro e w3 ⟨rfl, h3⟩; have HS3 := show Hid (SB _ _ _ _ _ _ _ _) from h3; have k0_3 := h3.row.cell (j := 0) rfl; have k1_3 := h3.row.cell (j := 1) rfl; unfold lessV at k0_3; unfold swapV at k1_3; clear h3)
        go_roundw
        case rel => exact ⟨i1A + 1, by go_num, by omega, by omega, HS3.out, by rw [← HI1A.out.2]; exact (scanUp_go _ e0 j0 i1A hleA V1.out).symm⟩
        case measure => simp [intOf]; omega
      | false =>
        have C1 := show Hid _ from fun W h => lessAt (w0 := w0) (g := g) (cap := cap) (Bs := Bs) (B := B) (n := n) (by omega) (by omega) v1 W h
        have V1 := show Hid _ from v1
        clear v1
        have HS1 := show Hid (SB _ _ _ _ _ _ _ _) from HI1A.out.1
        have HUA : Hid (i1A = scanUp (fun x => ltStr x e0[a]!) e0 j0 i0) := by unfold Hid; rw [← HI1A.out.2]; exact (scanUp_end _ e0 j0 i1A (Or.inr V1.out)).symm
        go_wp2_with (go_at_fn 39; refine Calls.mono (C1.out wr HS1.out) ?_; rintro e w3 ⟨rfl, h3⟩; have HS3 := show Hid (SB _ _ _ _ _ _ _ _) from h3; have k0_3 := h3.row.cell (j := 0) rfl; have k1_3 := h3.row.cell (j := 1) rfl; unfold lessV at k0_3; unfold swapV at k1_3; clear h3)
        go_loopw [11] (fun vj wr => ∃ j1A : Nat, vj = .int .i64 (j1A : Int) ∧ j1A ≤ j0 ∧ i1A ≤ j1A + 1 ∧ Hid (SB w0 g cap Bs B n e0 wr ∧ scanDown (fun x => !ltStr x e0[a]!) e0 i1A j1A = scanDown (fun x => !ltStr x e0[a]!) e0 i1A j0)) (fun vj _ => (intOf vj).toNat)
        case atStart => exact ⟨j0, rfl, Nat.le_refl _, by omega, HS3.out, rfl⟩
        case round =>
          obtain ⟨j1A, rfl, hj1jA, hi1j1A, HJA⟩ := hrel
          have uA0 := HJA.out.1.row.cell (j := 0) rfl
          have uA1 := HJA.out.1.row.cell (j := 1) rfl
          unfold lessV at uA0
          unfold swapV at uA1
          by_cases hle2A : i1A ≤ j1A
          · have hle2iA : (i1A : Int) ≤ (j1A : Int) := by omega
            cases v2 : ltStr e0[j1A]! e0[a]! with
            | false =>
              have C2 := show Hid _ from fun W h => lessAt (w0 := w0) (g := g) (cap := cap) (Bs := Bs) (B := B) (n := n) (by omega) (by omega) v2 W h
              have V2 := show Hid _ from v2
              clear v2
              have HS5 := show Hid (SB _ _ _ _ _ _ _ _) from HJA.out.1
              go_wp2_with (go_at_fn 39; refine Calls.mono (C2.out wr HS5.out) ?_; rintro e w6 ⟨rfl, h6⟩; have HS6 := show Hid (SB _ _ _ _ _ _ _ _) from h6; have k0_6 := h6.row.cell (j := 0) rfl; have k1_6 := h6.row.cell (j := 1) rfl; unfold lessV at k0_6; unfold swapV at k1_6; clear h6)
              go_roundw
              case rel => exact ⟨j1A - 1, by go_num, by omega, by omega, HS6.out, by rw [← HJA.out.2]; exact (scanDown_go _ e0 i1A j1A hle2A (by omega) (by simp [V2.out])).symm⟩
              case measure => simp [intOf]; omega
            | true =>
              have C2 := show Hid _ from fun W h => lessAt (w0 := w0) (g := g) (cap := cap) (Bs := Bs) (B := B) (n := n) (by omega) (by omega) v2 W h
              have V2 := show Hid _ from v2
              clear v2
              have HS5 := show Hid (SB _ _ _ _ _ _ _ _) from HJA.out.1
              have HDN : Hid (j1A = scanDown (fun x => !ltStr x e0[a]!) e0 i1A j0) := by unfold Hid; rw [← HJA.out.2]; exact (scanDown_end _ e0 i1A j1A (Or.inr (by simp [V2.out]))).symm
              have hlt12A : i1A < j1A := part_scans_lt ltStr a i0 j0 e0 (by omega) HUA.out HDN.out hle2A
              have hgtiA : ¬ (j1A : Int) < (i1A : Int) := by omega
              have hgtbA : decide (j1A < i1A) = false := decide_eq_false (by omega)
              have HGO : Hid (partition ltStr d a b p = ((partLoop ltStr a (i1A + 1) (j1A - 1) (swp e0 i1A j1A)).1, false, swp (partLoop ltStr a (i1A + 1) (j1A - 1) (swp e0 i1A j1A)).2 (partLoop ltStr a (i1A + 1) (j1A - 1) (swp e0 i1A j1A)).1 a)) := part_first_go ltStr d a b p (i := i0) (j := j0) (dk := e0) HIJ.out.1 HIJ.out.2 HE0.out.symm HUA.out HDN.out (by omega)
              go_wp2_with (go_at_fn 39; refine Calls.mono (C2.out wr HS5.out) ?_; rintro e w6 ⟨rfl, h6⟩; have HS6 := show Hid (SB _ _ _ _ _ _ _ _) from h6; have k0_6 := h6.row.cell (j := 0) rfl; have k1_6 := h6.row.cell (j := 1) rfl; unfold lessV at k0_6; unfold swapV at k1_6; obtain ⟨w7, hsw6, h7⟩ := h6.swap (i := i1A) (j := j1A) (by omega) (by omega); have HS7 := show Hid (SB _ _ _ _ _ _ _ _) from h7; have k0_7 := h7.row.cell (j := 0) rfl; have k1_7 := h7.row.cell (j := 1) rfl; unfold lessV at k0_7; unfold swapV at k1_7; clear h7; clear h6)
              go_loopw [10, 11] (fun vi vj wr => ∃ (i j : Nat) (dk : Array Hs), vi = .int .i64 (i : Int) ∧ vj = .int .i64 (j : Int) ∧ a < i ∧ i ≤ j + 1 ∧ j < b ∧ Hid (SB w0 g cap Bs B n dk wr ∧ partLoop ltStr a i j dk = partLoop ltStr a (i1A + 1) (j1A - 1) (swp e0 i1A j1A))) (fun vi vj _ => (intOf vj).toNat + 1 - (intOf vi).toNat)
              case atStart => exact ⟨i1A + 1, j1A - 1, swp e0 i1A j1A, by go_num, by go_num, by omega, by omega, by omega, HS7.out, rfl⟩
              case round =>
                obtain ⟨i, j, dk, rfl, rfl, hai, hij, hjb, HI⟩ := hrel
                obtain ⟨wa, rfl⟩ : ∃ wa, wa = wr := ⟨_, rfl⟩
                go_wp2_with fail
                go_loopw [10] (fun vi wr => ∃ i1B : Nat, vi = .int .i64 (i1B : Int) ∧ i ≤ i1B ∧ i1B ≤ j + 1 ∧ Hid (SB w0 g cap Bs B n dk wr ∧ scanUp (fun x => ltStr x dk[a]!) dk j i1B = scanUp (fun x => ltStr x dk[a]!) dk j i)) (fun vi _ => j + 1 - (intOf vi).toNat)
                case atStart => exact ⟨i, rfl, Nat.le_refl _, by omega, HI.out.1, rfl⟩
                case round =>
                  obtain ⟨i1B, rfl, hii1B, hi1jB, HI1B⟩ := hrel
                  have rB0 := HI1B.out.1.row.cell (j := 0) rfl
                  have rB1 := HI1B.out.1.row.cell (j := 1) rfl
                  unfold lessV at rB0
                  unfold swapV at rB1
                  by_cases hleB : i1B ≤ j
                  · have hleiB : (i1B : Int) ≤ (j : Int) := by omega
                    cases v1 : ltStr dk[i1B]! dk[a]! with
                    | true =>
                      have C1 := show Hid _ from fun W h => lessAt (w0 := w0) (g := g) (cap := cap) (Bs := Bs) (B := B) (n := n) (by omega) (by omega) v1 W h
                      have V1 := show Hid _ from v1
                      clear v1
                      have HS1 := show Hid (SB _ _ _ _ _ _ _ _) from HI1B.out.1
                      go_wp2_with (go_at_fn 39; refine Calls.mono (C1.out wr HS1.out) ?_; rintro e w3 ⟨rfl, h3⟩; have HS3 := show Hid (SB _ _ _ _ _ _ _ _) from h3; have k0_3 := h3.row.cell (j := 0) rfl; have k1_3 := h3.row.cell (j := 1) rfl; unfold lessV at k0_3; unfold swapV at k1_3; clear h3)
                      go_roundw
                      case rel => exact ⟨i1B + 1, by go_num, by omega, by omega, HS3.out, by rw [← HI1B.out.2]; exact (scanUp_go _ dk j i1B hleB V1.out).symm⟩
                      case measure => simp [intOf]; omega
                    | false =>
                      have C1 := show Hid _ from fun W h => lessAt (w0 := w0) (g := g) (cap := cap) (Bs := Bs) (B := B) (n := n) (by omega) (by omega) v1 W h
                      have V1 := show Hid _ from v1
                      clear v1
                      have HS1 := show Hid (SB _ _ _ _ _ _ _ _) from HI1B.out.1
                      have HUB : Hid (i1B = scanUp (fun x => ltStr x dk[a]!) dk j i) := by unfold Hid; rw [← HI1B.out.2]; exact (scanUp_end _ dk j i1B (Or.inr V1.out)).symm
                      go_wp2_with (go_at_fn 39; refine Calls.mono (C1.out wr HS1.out) ?_; rintro e w3 ⟨rfl, h3⟩; have HS3 := show Hid (SB _ _ _ _ _ _ _ _) from h3; have k0_3 := h3.row.cell (j := 0) rfl; have k1_3 := h3.row.cell (j := 1) rfl; unfold lessV at k0_3; unfold swapV at k1_3; clear h3)
                      go_loopw [11] (fun vj wr => ∃ j1B : Nat, vj = .int .i64 (j1B : Int) ∧ j1B ≤ j ∧ i1B ≤ j1B + 1 ∧ Hid (SB w0 g cap Bs B n dk wr ∧ scanDown (fun x => !ltStr x dk[a]!) dk i1B j1B = scanDown (fun x => !ltStr x dk[a]!) dk i1B j)) (fun vj _ => (intOf vj).toNat)
                      case atStart => exact ⟨j, rfl, Nat.le_refl _, by omega, HS3.out, rfl⟩
                      case round =>
                        obtain ⟨j1B, rfl, hj1jB, hi1j1B, HJB⟩ := hrel
                        have uB0 := HJB.out.1.row.cell (j := 0) rfl
                        have uB1 := HJB.out.1.row.cell (j := 1) rfl
                        unfold lessV at uB0
                        unfold swapV at uB1
                        by_cases hle2B : i1B ≤ j1B
                        · have hle2iB : (i1B : Int) ≤ (j1B : Int) := by omega
                          cases v2 : ltStr dk[j1B]! dk[a]! with
                          | false =>
                            have C2 := show Hid _ from fun W h => lessAt (w0 := w0) (g := g) (cap := cap) (Bs := Bs) (B := B) (n := n) (by omega) (by omega) v2 W h
                            have V2 := show Hid _ from v2
                            clear v2
                            have HS5 := show Hid (SB _ _ _ _ _ _ _ _) from HJB.out.1
                            go_wp2_with (go_at_fn 39; refine Calls.mono (C2.out wr HS5.out) ?_; rintro e w6 ⟨rfl, h6⟩; have HS6 := show Hid (SB _ _ _ _ _ _ _ _) from h6; have k0_6 := h6.row.cell (j := 0) rfl; have k1_6 := h6.row.cell (j := 1) rfl; unfold lessV at k0_6; unfold swapV at k1_6; clear h6)
                            go_roundw
                            case rel => exact ⟨j1B - 1, by go_num, by omega, by omega, HS6.out, by rw [← HJB.out.2]; exact (scanDown_go _ dk i1B j1B hle2B (by omega) (by simp [V2.out])).symm⟩
                            case measure => simp [intOf]; omega
                          | true =>
                            have C2 := show Hid _ from fun W h => lessAt (w0 := w0) (g := g) (cap := cap) (Bs := Bs) (B := B) (n := n) (by omega) (by omega) v2 W h
                            have V2 := show Hid _ from v2
                            clear v2
                            have HS5 := show Hid (SB _ _ _ _ _ _ _ _) from HJB.out.1
                            have HDN : Hid (j1B = scanDown (fun x => !ltStr x dk[a]!) dk i1B j) := by unfold Hid; rw [← HJB.out.2]; exact (scanDown_end _ dk i1B j1B (Or.inr (by simp [V2.out]))).symm
                            have hlt12B : i1B < j1B := part_scans_lt ltStr a i j dk (by omega) HUB.out HDN.out hle2B
                            have hgtiB : ¬ (j1B : Int) < (i1B : Int) := by omega
                            have hgtbB : decide (j1B < i1B) = false := decide_eq_false (by omega)
                            have HGB : Hid (partLoop ltStr a i j dk = partLoop ltStr a (i1B + 1) (j1B - 1) (swp dk i1B j1B)) := part_go ltStr a i j dk HUB.out HDN.out (by omega)
                            go_wp2_with (go_at_fn 39; refine Calls.mono (C2.out wr HS5.out) ?_; rintro e w6 ⟨rfl, h6⟩; have HS6 := show Hid (SB _ _ _ _ _ _ _ _) from h6; have k0_6 := h6.row.cell (j := 0) rfl; have k1_6 := h6.row.cell (j := 1) rfl; unfold lessV at k0_6; unfold swapV at k1_6; obtain ⟨w7, hsw6, h7⟩ := h6.swap (i := i1B) (j := j1B) (by omega) (by omega); have HS7 := show Hid (SB _ _ _ _ _ _ _ _) from h7; have k0_7 := h7.row.cell (j := 0) rfl; have k1_7 := h7.row.cell (j := 1) rfl; unfold lessV at k0_7; unfold swapV at k1_7; clear h7; clear h6)
                            go_roundw
                            case rel => exact ⟨i1B + 1, j1B - 1, swp dk i1B j1B, by go_num, by go_num, by omega, by omega, by omega, HS7.out, by rw [← HGB.out]; exact HI.out.2⟩
                            case measure => simp [intOf]; omega
                        · have hle2iB : ¬ (i1B : Int) ≤ (j1B : Int) := by omega
                          have hgtiB : (j1B : Int) < (i1B : Int) := by omega
                          have HDN : Hid (j1B = scanDown (fun x => !ltStr x dk[a]!) dk i1B j) := by unfold Hid; rw [← HJB.out.2]; exact (scanDown_end _ dk i1B j1B (Or.inl hle2B)).symm
                          have HBR : Hid (partition ltStr d a b p = (j1B, false, swp dk j1B a)) := by
                            unfold Hid
                            rw [HGO.out, ← HI.out.2, part_break ltStr a i j dk HUB.out HDN.out (by omega)]
                          obtain ⟨w8, hsw8, h8⟩ := HJB.out.1.swap (i := j1B) (j := a) (by omega) (by omega)
                          have HS8 := show Hid (SB _ _ _ _ _ _ _ _) from h8
                          clear h8
                          go_wp2
                          go_ret2
                          rw [HBR.out]
                          exact ⟨rfl, HS8.out.sw⟩
                  · have hleiB : ¬ (i1B : Int) ≤ (j : Int) := by omega
                    have HUB : Hid (i1B = scanUp (fun x => ltStr x dk[a]!) dk j i) := by unfold Hid; rw [← HI1B.out.2]; exact (scanUp_end _ dk j i1B (Or.inl hleB)).symm
                    go_wp2_with fail
                    go_loopw [11] (fun vj wr => ∃ j1B : Nat, vj = .int .i64 (j1B : Int) ∧ j1B ≤ j ∧ i1B ≤ j1B + 1 ∧ Hid (SB w0 g cap Bs B n dk wr ∧ scanDown (fun x => !ltStr x dk[a]!) dk i1B j1B = scanDown (fun x => !ltStr x dk[a]!) dk i1B j)) (fun vj _ => (intOf vj).toNat)
                    case atStart => exact ⟨j, rfl, Nat.le_refl _, by omega, HI1B.out.1, rfl⟩
                    case round =>
                      obtain ⟨j1B, rfl, hj1jB, hi1j1B, HJB⟩ := hrel
                      have uB0 := HJB.out.1.row.cell (j := 0) rfl
                      have uB1 := HJB.out.1.row.cell (j := 1) rfl
                      unfold lessV at uB0
                      unfold swapV at uB1
                      by_cases hle2B : i1B ≤ j1B
                      · exact absurd hle2B (by omega)
                      · have hle2iB : ¬ (i1B : Int) ≤ (j1B : Int) := by omega
                        have hgtiB : (j1B : Int) < (i1B : Int) := by omega
                        have HDN : Hid (j1B = scanDown (fun x => !ltStr x dk[a]!) dk i1B j) := by unfold Hid; rw [← HJB.out.2]; exact (scanDown_end _ dk i1B j1B (Or.inl hle2B)).symm
                        have HBR : Hid (partition ltStr d a b p = (j1B, false, swp dk j1B a)) := by
                          unfold Hid
                          rw [HGO.out, ← HI.out.2, part_break ltStr a i j dk HUB.out HDN.out (by omega)]
                        obtain ⟨w8, hsw8, h8⟩ := HJB.out.1.swap (i := j1B) (j := a) (by omega) (by omega)
                        have HS8 := show Hid (SB _ _ _ _ _ _ _ _) from h8
                        clear h8
                        go_wp2
                        go_ret2
                        rw [HBR.out]
                        exact ⟨rfl, HS8.out.sw⟩
          · have hle2iA : ¬ (i1A : Int) ≤ (j1A : Int) := by omega
            have hgtiA : (j1A : Int) < (i1A : Int) := by omega
            have HDN : Hid (j1A = scanDown (fun x => !ltStr x e0[a]!) e0 i1A j0) := by unfold Hid; rw [← HJA.out.2]; exact (scanDown_end _ e0 i1A j1A (Or.inl hle2A)).symm
            have HBR : Hid (partition ltStr d a b p = (j1A, true, swp e0 j1A a)) := part_first_break ltStr d a b p (i := i0) (j := j0) (dk := e0) HIJ.out.1 HIJ.out.2 HE0.out.symm HUA.out HDN.out (by omega)
            obtain ⟨w8, hsw8, h8⟩ := HJA.out.1.swap (i := j1A) (j := a) (by omega) (by omega)
            have HS8 := show Hid (SB _ _ _ _ _ _ _ _) from h8
            clear h8
            go_wp2
            go_ret2
            rw [HBR.out]
            exact ⟨rfl, HS8.out.sw⟩
    · have hleiA : ¬ (i1A : Int) ≤ (j0 : Int) := by omega
      have HUA : Hid (i1A = scanUp (fun x => ltStr x e0[a]!) e0 j0 i0) := by unfold Hid; rw [← HI1A.out.2]; exact (scanUp_end _ e0 j0 i1A (Or.inl hleA)).symm
      go_wp2_with fail
      go_loopw [11] (fun vj wr => ∃ j1A : Nat, vj = .int .i64 (j1A : Int) ∧ j1A ≤ j0 ∧ i1A ≤ j1A + 1 ∧ Hid (SB w0 g cap Bs B n e0 wr ∧ scanDown (fun x => !ltStr x e0[a]!) e0 i1A j1A = scanDown (fun x => !ltStr x e0[a]!) e0 i1A j0)) (fun vj _ => (intOf vj).toNat)
      case atStart => exact ⟨j0, rfl, Nat.le_refl _, by omega, HI1A.out.1, rfl⟩
      case round =>
        obtain ⟨j1A, rfl, hj1jA, hi1j1A, HJA⟩ := hrel
        have uA0 := HJA.out.1.row.cell (j := 0) rfl
        have uA1 := HJA.out.1.row.cell (j := 1) rfl
        unfold lessV at uA0
        unfold swapV at uA1
        by_cases hle2A : i1A ≤ j1A
        · exact absurd hle2A (by omega)
        · have hle2iA : ¬ (i1A : Int) ≤ (j1A : Int) := by omega
          have hgtiA : (j1A : Int) < (i1A : Int) := by omega
          have HDN : Hid (j1A = scanDown (fun x => !ltStr x e0[a]!) e0 i1A j0) := by unfold Hid; rw [← HJA.out.2]; exact (scanDown_end _ e0 i1A j1A (Or.inl hle2A)).symm
          have HBR : Hid (partition ltStr d a b p = (j1A, true, swp e0 j1A a)) := part_first_break ltStr d a b p (i := i0) (j := j0) (dk := e0) HIJ.out.1 HIJ.out.2 HE0.out.symm HUA.out HDN.out (by omega)
          obtain ⟨w8, hsw8, h8⟩ := HJA.out.1.swap (i := j1A) (j := a) (by omega) (by omega)
          have HS8 := show Hid (SB _ _ _ _ _ _ _ _) from h8
          clear h8
          go_wp2
          go_ret2
          rw [HBR.out]
          exact ⟨rfl, HS8.out.sw⟩

end Go.Proofs.Ytgcgblecendijaa
