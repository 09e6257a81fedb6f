/-
  hashes: Part2 Ord Pivot Brk (of its own seat, carried over).
-/
import Derived.Test.YtcmcapcagblafaaGreatQE
import Derived.Sort.WalkC
import Derived.Sort.WalkC4
import Derived.Shelf.SlSortFunc.Xorshift
import Derived.Sort.LotD5
namespace Go.Proofs.YtcmcapcagblafaaGreat
section
open Go.RowKit Go.Lib Go.Sort

set_option maxRecDepth 100000 in
set_option maxHeartbeats 6400000 in
theorem part84 {w0 : World} {g cap Bs n : Nat} {d : Array Hs} {w : World} (h : SW w0 g cap Bs d w) (hn : d.size = n) (a b p : Nat) (hap : a ≤ p) (hpb : p < b) (hb : b ≤ n) (hsz : n < 1152921504606846976) :
    Calls Tryz.prog 90 #[.agg #[lessV Bs, swapV (typeHandle Tryz.prog 40) g cap n], .int .i64 (a : Int), .int .i64 (b : Int), .int .i64 (p : Int)] w fun e w' => e = .returned (.tuple #[.int .i64 ((partition ltStr d a b p).1 : Int), .bool (partition ltStr d a b p).2.1]) ∧ SW w0 g cap Bs (partition ltStr d a b p).2.2 w' := by
  have HS0 := show Hid (SB _ _ _ _ _ _ _ _) from SB.start h hn
  obtain ⟨B, hB⟩ : ∃ B, w.heap.size = B := ⟨_, rfl⟩
  have e51 : ∀ args w, (callFunc 49 args).run Tryz.prog w = .ok (.enter 49 args) w := enters_of Tryz.func49 (by kernel_rfl) rfl
  clear h hn
  unfold lessV swapV at HS0 ⊢
  obtain ⟨w2, hsw0, h2⟩ := HS0.out.swap (i := a) (j := p) (by omega) (by omega)
  have HS2 := show Hid (SB _ _ _ _ _ _ _ _) from h2
  clear h2 HS0
  obtain ⟨i0, hi0⟩ : ∃ i0, i0 = a + 1 := ⟨_, rfl⟩
  obtain ⟨j0, hj0⟩ : ∃ j0, j0 = b - 1 := ⟨_, rfl⟩
  have hi0z : (a : Int) + 1 = (i0 : Int) := by omega
  have hj0z : (b : Int) - 1 = (j0 : Int) := by omega
  have hai0 : a < i0 := by omega
  have hij0 : i0 ≤ j0 + 1 := by omega
  have hjb0 : j0 < b := by omega
  have HIJ : Hid (i0 = a + 1 ∧ j0 = b - 1) := ⟨hi0, hj0⟩
  clear hi0 hj0
  go_enter Tryz.func90, Tryz.ntmps90
  go_wp2_with fail
  rw [hB] at HS2
  try rw [hB]
  clear hsw0 hB
  obtain ⟨e0, he0⟩ : ∃ e0, swp d a p = e0 := ⟨_, rfl⟩
  have HE0 : Hid (swp d a p = e0) := he0
  rw [he0] at HS2
  clear he0
  skip
  go_loopw [10] (fun vi wr => ∃ i1A : Nat, vi = .int .i64 (i1A : Int) ∧ i0 ≤ i1A ∧ i1A ≤ j0 + 1 ∧ Hid (SB w0 g cap Bs B n e0 wr ∧ scanUp (fun x => ltStr x e0[a]!) e0 j0 i1A = scanUp (fun x => ltStr x e0[a]!) e0 j0 i0)) (fun vi _ => j0 + 1 - (intOf vi).toNat)
  case atStart => exact ⟨i0, by go_num, Nat.le_refl _, by omega, HS2.out, rfl⟩
  case round =>
    obtain ⟨i1A, rfl, hii1A, hi1jA, HI1A⟩ := hrel
    have rA0 := HI1A.out.1.row.cell (j := 0) rfl
    have rA1 := HI1A.out.1.row.cell (j := 1) rfl
    unfold lessV at rA0
    unfold swapV at rA1
    by_cases hleA : i1A ≤ j0
    · have hleiA : (i1A : Int) ≤ (j0 : Int) := by omega
      cases v1 : ltStr e0[i1A]! e0[a]! with
      | true =>
        have C1 := show Hid _ from fun W h => lessAt (w0 := w0) (g := g) (cap := cap) (Bs := Bs) (B := B) (n := n) (by omega) (by omega) v1 W h
        have V1 := show Hid _ from v1
        clear v1
        have HS1 := show Hid (SB _ _ _ _ _ _ _ _) from HI1A.out.1
        go_wp2_with (go_at_fn 49; refine Calls.mono (C1.out wr HS1.out) ?_; rintro e w3 ⟨rfl, h3⟩; have HS3 := show Hid (SB _ _ _ _ _ _ _ _) from h3; have k0_3 := h3.row.cell (j := 0) rfl; have k1_3 := h3.row.cell (j := 1) rfl; unfold lessV at k0_3; unfold swapV at k1_3; clear h3)
        go_roundw
        case rel => exact ⟨i1A + 1, by go_num, by omega, by omega, HS3.out, by rw [← HI1A.out.2]; exact (scanUp_go _ e0 j0 i1A hleA V1.out).symm⟩
        case measure => simp [intOf]; omega
      | false =>
        have C1 := show Hid _ from fun W h => lessAt (w0 := w0) (g := g) (cap := cap) (Bs := Bs) (B := B) (n := n) (by omega) (by omega) v1 W h
        have V1 := show Hid _ from v1
        clear v1
        have HS1 := show Hid (SB _ _ _ _ _ _ _ _) from HI1A.out.1
        have HUA : Hid (i1A = scanUp (fun x => ltStr x e0[a]!) e0 j0 i0) := by unfold Hid; rw [← HI1A.out.2]; exact (scanUp_end _ e0 j0 i1A (Or.inr V1.out)).symm
        go_wp2_with (go_at_fn 49; refine Calls.mono (C1.out wr HS1.out) ?_; rintro e w3 ⟨rfl, h3⟩; have HS3 := show Hid (SB _ _ _ _ _ _ _ _) from h3; have k0_3 := h3.row.cell (j := 0) rfl; have k1_3 := h3.row.cell (j := 1) rfl; unfold lessV at k0_3; unfold swapV at k1_3; clear h3)
        go_loopw [11] (fun vj wr => ∃ j1A : Nat, vj = .int .i64 (j1A : Int) ∧ j1A ≤ j0 ∧ i1A ≤ j1A + 1 ∧ Hid (SB w0 g cap Bs B n e0 wr ∧ scanDown (fun x => !ltStr x e0[a]!) e0 i1A j1A = scanDown (fun x => !ltStr x e0[a]!) e0 i1A j0)) (fun vj _ => (intOf vj).toNat)
        case atStart => exact ⟨j0, rfl, Nat.le_refl _, by omega, HS3.out, rfl⟩
        case round =>
          obtain ⟨j1A, rfl, hj1jA, hi1j1A, HJA⟩ := hrel
          have uA0 := HJA.out.1.row.cell (j := 0) rfl
          have uA1 := HJA.out.1.row.cell (j := 1) rfl
          unfold lessV at uA0
          unfold swapV at uA1
          by_cases hle2A : i1A ≤ j1A
          · have hle2iA : (i1A : Int) ≤ (j1A : Int) := by omega
            cases v2 : ltStr e0[j1A]! e0[a]! with
            | false =>
              have C2 := show Hid _ from fun W h => lessAt (w0 := w0) (g := g) (cap := cap) (Bs := Bs) (B := B) (n := n) (by omega) (by omega) v2 W h
              have V2 := show Hid _ from v2
              clear v2
              have HS5 := show Hid (SB _ _ _ _ _ _ _ _) from HJA.out.1
              go_wp2_with (go_at_fn 49; refine Calls.mono (C2.out wr HS5.out) ?_; rintro e w6 ⟨rfl, h6⟩; have HS6 := show Hid (SB _ _ _ _ _ _ _ _) from h6; have k0_6 := h6.row.cell (j := 0) rfl; have k1_6 := h6.row.cell (j := 1) rfl; unfold lessV at k0_6; unfold swapV at k1_6; clear h6)
              go_roundw
              case rel => exact ⟨j1A - 1, by go_num, by omega, by omega, HS6.out, by rw [← HJA.out.2]; exact (scanDown_go _ e0 i1A j1A hle2A (by omega) (by simp [V2.out])).symm⟩
              case measure => simp [intOf]; omega
            | true =>
              have C2 := show Hid _ from fun W h => lessAt (w0 := w0) (g := g) (cap := cap) (Bs := Bs) (B := B) (n := n) (by omega) (by omega) v2 W h
              have V2 := show Hid _ from v2
              clear v2
              have HS5 := show Hid (SB _ _ _ _ _ _ _ _) from HJA.out.1
              have HDN : Hid (j1A = scanDown (fun x => !ltStr x e0[a]!) e0 i1A j0) := by unfold Hid; rw [← HJA.out.2]; exact (scanDown_end _ e0 i1A j1A (Or.inr (by simp [V2.out]))).symm
              have hlt12A : i1A < j1A := part_scans_lt ltStr a i0 j0 e0 (by omega) HUA.out HDN.out hle2A
              have hgtiA : ¬ (j1A : Int) < (i1A : Int) := by omega
              have hgtbA : decide (j1A < i1A) = false := decide_eq_false (by omega)
              have HGO : Hid (partition ltStr d a b p = ((partLoop ltStr a (i1A + 1) (j1A - 1) (swp e0 i1A j1A)).1, false, swp (partLoop ltStr a (i1A + 1) (j1A - 1) (swp e0 i1A j1A)).2 (partLoop ltStr a (i1A + 1) (j1A - 1) (swp e0 i1A j1A)).1 a)) := part_first_go ltStr d a b p (i := i0) (j := j0) (dk := e0) HIJ.out.1 HIJ.out.2 HE0.out.symm HUA.out HDN.out (by omega)
              go_wp2_with (go_at_fn 49; refine Calls.mono (C2.out wr HS5.out) ?_; rintro e w6 ⟨rfl, h6⟩; have HS6 := show Hid (SB _ _ _ _ _ _ _ _) from h6; have k0_6 := h6.row.cell (j := 0) rfl; have k1_6 := h6.row.cell (j := 1) rfl; unfold lessV at k0_6; unfold swapV at k1_6; obtain ⟨w7, hsw6, h7⟩ := h6.swap (i := i1A) (j := j1A) (by omega) (by omega); have HS7 := show Hid (SB _ _ _ _ _ _ _ _) from h7; have k0_7 := h7.row.cell (j := 0) rfl; have k1_7 := h7.row.cell (j := 1) rfl; unfold lessV at k0_7; unfold swapV at k1_7; clear h7; clear h6)
              go_loopw [10, 11] (fun vi vj wr => ∃ (i j : Nat) (dk : Array Hs), vi = .int .i64 (i : Int) ∧ vj = .int .i64 (j : Int) ∧ a < i ∧ i ≤ j + 1 ∧ j < b ∧ Hid (SB w0 g cap Bs B n dk wr ∧ partLoop ltStr a i j dk = partLoop ltStr a (i1A + 1) (j1A - 1) (swp e0 i1A j1A))) (fun vi vj _ => (intOf vj).toNat + 1 - (intOf vi).toNat)
              case atStart => exact ⟨i1A + 1, j1A - 1, swp e0 i1A j1A, by go_num, by go_num, by omega, by omega, by omega, HS7.out, rfl⟩
              case round =>
                obtain ⟨i, j, dk, rfl, rfl, hai, hij, hjb, HI⟩ := hrel
                obtain ⟨wa, rfl⟩ : ∃ wa, wa = wr := ⟨_, rfl⟩
                go_wp2_with fail
                go_loopw [10] (fun vi wr => ∃ i1B : Nat, vi = .int .i64 (i1B : Int) ∧ i ≤ i1B ∧ i1B ≤ j + 1 ∧ Hid (SB w0 g cap Bs B n dk wr ∧ scanUp (fun x => ltStr x dk[a]!) dk j i1B = scanUp (fun x => ltStr x dk[a]!) dk j i)) (fun vi _ => j + 1 - (intOf vi).toNat)
                case atStart => exact ⟨i, rfl, Nat.le_refl _, by omega, HI.out.1, rfl⟩
                case round =>
                  obtain ⟨i1B, rfl, hii1B, hi1jB, HI1B⟩ := hrel
                  have rB0 := HI1B.out.1.row.cell (j := 0) rfl
                  have rB1 := HI1B.out.1.row.cell (j := 1) rfl
                  unfold lessV at rB0
                  unfold swapV at rB1
                  by_cases hleB : i1B ≤ j
                  · have hleiB : (i1B : Int) ≤ (j : Int) := by omega
                    cases v1 : ltStr dk[i1B]! dk[a]! with
                    | true =>
                      have C1 := show Hid _ from fun W h => lessAt (w0 := w0) (g := g) (cap := cap) (Bs := Bs) (B := B) (n := n) (by omega) (by omega) v1 W h
                      have V1 := show Hid _ from v1
                      clear v1
                      have HS1 := show Hid (SB _ _ _ _ _ _ _ _) from HI1B.out.1
                      go_wp2_with (go_at_fn 49; refine Calls.mono (C1.out wr HS1.out) ?_; rintro e w3 ⟨rfl, h3⟩; have HS3 := show Hid (SB _ _ _ _ _ _ _ _) from h3; have k0_3 := h3.row.cell (j := 0) rfl; have k1_3 := h3.row.cell (j := 1) rfl; unfold lessV at k0_3; unfold swapV at k1_3; clear h3)
                      go_roundw
                      case rel => exact ⟨i1B + 1, by go_num, by omega, by omega, HS3.out, by rw [← HI1B.out.2]; exact (scanUp_go _ dk j i1B hleB V1.out).symm⟩
                      case measure => simp [intOf]; omega
                    | false =>
                      have C1 := show Hid _ from fun W h => lessAt (w0 := w0) (g := g) (cap := cap) (Bs := Bs) (B := B) (n := n) (by omega) (by omega) v1 W h
                      have V1 := show Hid _ from v1
                      clear v1
                      have HS1 := show Hid (SB _ _ _ _ _ _ _ _) from HI1B.out.1
                      have HUB : Hid (i1B = scanUp (fun x => ltStr x dk[a]!) dk j i) := by unfold Hid; rw [← HI1B.out.2]; exact (scanUp_end _ dk j i1B (Or.inr V1.out)).symm
                      go_wp2_with (go_at_fn 49; refine Calls.mono (C1.out wr HS1.out) ?_; rintro e w3 ⟨rfl, h3⟩; have HS3 := show Hid (SB _ _ _ _ _ _ _ _) from h3; have k0_3 := h3.row.cell (j := 0) rfl; have k1_3 := h3.row.cell (j := 1) rfl; unfold lessV at k0_3; unfold swapV at k1_3; clear h3)
                      go_loopw [11] (fun vj wr => ∃ j1B : Nat, vj = .int .i64 (j1B : Int) ∧ j1B ≤ j ∧ i1B ≤ j1B + 1 ∧ Hid (SB w0 g cap Bs B n dk wr ∧ scanDown (fun x => !ltStr x dk[a]!) dk i1B j1B = scanDown (fun x => !ltStr x dk[a]!) dk i1B j)) (fun vj _ => (intOf vj).toNat)
                      case atStart => exact ⟨j, rfl, Nat.le_refl _, by omega, HS3.out, rfl⟩
                      case round =>
                        obtain ⟨j1B, rfl, hj1jB, hi1j1B, HJB⟩ := hrel
                        have uB0 := HJB.out.1.row.cell (j := 0) rfl
                        have uB1 := HJB.out.1.row.cell (j := 1) rfl
                        unfold lessV at uB0
                        unfold swapV at uB1
                        by_cases hle2B : i1B ≤ j1B
                        · have hle2iB : (i1B : Int) ≤ (j1B : Int) := by omega
                          cases v2 : ltStr dk[j1B]! dk[a]! with
                          | false =>
                            have C2 := show Hid _ from fun W h => lessAt (w0 := w0) (g := g) (cap := cap) (Bs := Bs) (B := B) (n := n) (by omega) (by omega) v2 W h
                            have V2 := show Hid _ from v2
                            clear v2
                            have HS5 := show Hid (SB _ _ _ _ _ _ _ _) from HJB.out.1
                            go_wp2_with (go_at_fn 49; refine Calls.mono (C2.out wr HS5.out) ?_; rintro e w6 ⟨rfl, h6⟩; have HS6 := show Hid (SB _ _ _ _ _ _ _ _) from h6; have k0_6 := h6.row.cell (j := 0) rfl; have k1_6 := h6.row.cell (j := 1) rfl; unfold lessV at k0_6; unfold swapV at k1_6; clear h6)
                            go_roundw
                            case rel => exact ⟨j1B - 1, by go_num, by omega, by omega, HS6.out, by rw [← HJB.out.2]; exact (scanDown_go _ dk i1B j1B hle2B (by omega) (by simp [V2.out])).symm⟩
                            case measure => simp [intOf]; omega
                          | true =>
                            have C2 := show Hid _ from fun W h => lessAt (w0 := w0) (g := g) (cap := cap) (Bs := Bs) (B := B) (n := n) (by omega) (by omega) v2 W h
                            have V2 := show Hid _ from v2
                            clear v2
                            have HS5 := show Hid (SB _ _ _ _ _ _ _ _) from HJB.out.1
                            have HDN : Hid (j1B = scanDown (fun x => !ltStr x dk[a]!) dk i1B j) := by unfold Hid; rw [← HJB.out.2]; exact (scanDown_end _ dk i1B j1B (Or.inr (by simp [V2.out]))).symm
                            have hlt12B : i1B < j1B := part_scans_lt ltStr a i j dk (by omega) HUB.out HDN.out hle2B
                            have hgtiB : ¬ (j1B : Int) < (i1B : Int) := by omega
                            have hgtbB : decide (j1B < i1B) = false := decide_eq_false (by omega)
                            have HGB : Hid (partLoop ltStr a i j dk = partLoop ltStr a (i1B + 1) (j1B - 1) (swp dk i1B j1B)) := part_go ltStr a i j dk HUB.out HDN.out (by omega)
                            go_wp2_with (go_at_fn 49; refine Calls.mono (C2.out wr HS5.out) ?_; rintro e w6 ⟨rfl, h6⟩; have HS6 := show Hid (SB _ _ _ _ _ _ _ _) from h6; have k0_6 := h6.row.cell (j := 0) rfl; have k1_6 := h6.row.cell (j := 1) rfl; unfold lessV at k0_6; unfold swapV at k1_6; obtain ⟨w7, hsw6, h7⟩ := h6.swap (i := i1B) (j := j1B) (by omega) (by omega); have HS7 := show Hid (SB _ _ _ _ _ _ _ _) from h7; have k0_7 := h7.row.cell (j := 0) rfl; have k1_7 := h7.row.cell (j := 1) rfl; unfold lessV at k0_7; unfold swapV at k1_7; clear h7; clear h6)
                            go_roundw
                            case rel => exact ⟨i1B + 1, j1B - 1, swp dk i1B j1B, by go_num, by go_num, by omega, by omega, by omega, HS7.out, by rw [← HGB.out]; exact HI.out.2⟩
                            case measure => simp [intOf]; omega
                        · have hle2iB : ¬ (i1B : Int) ≤ (j1B : Int) := by omega
                          have hgtiB : (j1B : Int) < (i1B : Int) := by omega
                          have HDN : Hid (j1B = scanDown (fun x => !ltStr x dk[a]!) dk i1B j) := by unfold Hid; rw [← HJB.out.2]; exact (scanDown_end _ dk i1B j1B (Or.inl hle2B)).symm
                          have HBR : Hid (partition ltStr d a b p = (j1B, false, swp dk j1B a)) := by
                            unfold Hid
                            rw [HGO.out, ← HI.out.2, part_break ltStr a i j dk HUB.out HDN.out (by omega)]
                          obtain ⟨w8, hsw8, h8⟩ := HJB.out.1.swap (i := j1B) (j := a) (by omega) (by omega)
                          have HS8 := show Hid (SB _ _ _ _ _ _ _ _) from h8
                          clear h8
                          go_wp2
                          go_ret2
                          rw [HBR.out]
                          exact ⟨rfl, HS8.out.sw⟩
                  · have hleiB : ¬ (i1B : Int) ≤ (j : Int) := by omega
                    have HUB : Hid (i1B = scanUp (fun x => ltStr x dk[a]!) dk j i) := by unfold Hid; rw [← HI1B.out.2]; exact (scanUp_end _ dk j i1B (Or.inl hleB)).symm
                    go_wp2_with fail
                    go_loopw [11] (fun vj wr => ∃ j1B : Nat, vj = .int .i64 (j1B : Int) ∧ j1B ≤ j ∧ i1B ≤ j1B + 1 ∧ Hid (SB w0 g cap Bs B n dk wr ∧ scanDown (fun x => !ltStr x dk[a]!) dk i1B j1B = scanDown (fun x => !ltStr x dk[a]!) dk i1B j)) (fun vj _ => (intOf vj).toNat)
                    case atStart => exact ⟨j, rfl, Nat.le_refl _, by omega, HI1B.out.1, rfl⟩
                    case round =>
                      obtain ⟨j1B, rfl, hj1jB, hi1j1B, HJB⟩ := hrel
                      have uB0 := HJB.out.1.row.cell (j := 0) rfl
                      have uB1 := HJB.out.1.row.cell (j := 1) rfl
                      unfold lessV at uB0
                      unfold swapV at uB1
                      by_cases hle2B : i1B ≤ j1B
                      · exact absurd hle2B (by omega)
                      · have hle2iB : ¬ (i1B : Int) ≤ (j1B : Int) := by omega
                        have hgtiB : (j1B : Int) < (i1B : Int) := by omega
                        have HDN : Hid (j1B = scanDown (fun x => !ltStr x dk[a]!) dk i1B j) := by unfold Hid; rw [← HJB.out.2]; exact (scanDown_end _ dk i1B j1B (Or.inl hle2B)).symm
                        have HBR : Hid (partition ltStr d a b p = (j1B, false, swp dk j1B a)) := by
                          unfold Hid
                          rw [HGO.out, ← HI.out.2, part_break ltStr a i j dk HUB.out HDN.out (by omega)]
                        obtain ⟨w8, hsw8, h8⟩ := HJB.out.1.swap (i := j1B) (j := a) (by omega) (by omega)
                        have HS8 := show Hid (SB _ _ _ _ _ _ _ _) from h8
                        clear h8
                        go_wp2
                        go_ret2
                        rw [HBR.out]
                        exact ⟨rfl, HS8.out.sw⟩
          · have hle2iA : ¬ (i1A : Int) ≤ (j1A : Int) := by omega
            have hgtiA : (j1A : Int) < (i1A : Int) := by omega
            have HDN : Hid (j1A = scanDown (fun x => !ltStr x e0[a]!) e0 i1A j0) := by unfold Hid; rw [← HJA.out.2]; exact (scanDown_end _ e0 i1A j1A (Or.inl hle2A)).symm
            have HBR : Hid (partition ltStr d a b p = (j1A, true, swp e0 j1A a)) := part_first_break ltStr d a b p (i := i0) (j := j0) (dk := e0) HIJ.out.1 HIJ.out.2 HE0.out.symm HUA.out HDN.out (by omega)
            obtain ⟨w8, hsw8, h8⟩ := HJA.out.1.swap (i := j1A) (j := a) (by omega) (by omega)
            have HS8 := show Hid (SB _ _ _ _ _ _ _ _) from h8
            clear h8
            go_wp2
            go_ret2
            rw [HBR.out]
            exact ⟨rfl, HS8.out.sw⟩
    · have hleiA : ¬ (i1A : Int) ≤ (j0 : Int) := by omega
      have HUA : Hid (i1A = scanUp (fun x => ltStr x e0[a]!) e0 j0 i0) := by unfold Hid; rw [← HI1A.out.2]; exact (scanUp_end _ e0 j0 i1A (Or.inl hleA)).symm
      go_wp2_with fail
      go_loopw [11] (fun vj wr => ∃ j1A : Nat, vj = .int .i64 (j1A : Int) ∧ j1A ≤ j0 ∧ i1A ≤ j1A + 1 ∧ Hid (SB w0 g cap Bs B n e0 wr ∧ scanDown (fun x => !ltStr x e0[a]!) e0 i1A j1A = scanDown (fun x => !ltStr x e0[a]!) e0 i1A j0)) (fun vj _ => (intOf vj).toNat)
      case atStart => exact ⟨j0, rfl, Nat.le_refl _, by omega, HI1A.out.1, rfl⟩
      case round =>
        obtain ⟨j1A, rfl, hj1jA, hi1j1A, HJA⟩ := hrel
        have uA0 := HJA.out.1.row.cell (j := 0) rfl
        have uA1 := HJA.out.1.row.cell (j := 1) rfl
        unfold lessV at uA0
        unfold swapV at uA1
        by_cases hle2A : i1A ≤ j1A
        · exact absurd hle2A (by omega)
        · have hle2iA : ¬ (i1A : Int) ≤ (j1A : Int) := by omega
          have hgtiA : (j1A : Int) < (i1A : Int) := by omega
          have HDN : Hid (j1A = scanDown (fun x => !ltStr x e0[a]!) e0 i1A j0) := by unfold Hid; rw [← HJA.out.2]; exact (scanDown_end _ e0 i1A j1A (Or.inl hle2A)).symm
          have HBR : Hid (partition ltStr d a b p = (j1A, true, swp e0 j1A a)) := part_first_break ltStr d a b p (i := i0) (j := j0) (dk := e0) HIJ.out.1 HIJ.out.2 HE0.out.symm HUA.out HDN.out (by omega)
          obtain ⟨w8, hsw8, h8⟩ := HJA.out.1.swap (i := j1A) (j := a) (by omega) (by omega)
          have HS8 := show Hid (SB _ _ _ _ _ _ _ _) from h8
          clear h8
          go_wp2
          go_ret2
          rw [HBR.out]
          exact ⟨rfl, HS8.out.sw⟩
end
section
open Go.RowKit Go.Lib Go.Sort
theorem SW.but {w0 : World} {g cap Bs cb : Nat} {d : Array Hs} {W W' : World} (h : SW w0 g cap Bs d W) (hb : But cb W W') (h0 : w0.heap.size ≤ cb) (hg : cb ≠ g) (hs : cb ≠ Bs) : SW w0 g cap Bs d W' := by
  refine ⟨?_, hb.cell (p := ⟨Bs, 0, none⟩) (Ne.symm hs) h.box, h.ne, ?_, h.a32⟩
  · refine ⟨h.own.1, ?_⟩
    rcases h.own.2 with ⟨e, _⟩ | ⟨g', cap', cur, e, h1, hrow, h3⟩
    · cases e
    · have e1 : g = g' := by injection e with e1; injection e1 with e1; injection e1
      subst e1
      exact .inr ⟨g, cap', cur, e, h1, (hb.block g (Array.getElem?_eq_some_iff.1 hrow).1 (Ne.symm hg)).trans hrow, h3⟩
  · have k := h.grow
    exact ⟨hb.os.trans k.os, hb.tape.trans k.tape, hb.output.trans k.output, Nat.le_trans k.size hb.size, fun j hj hne => (hb.block j (Nat.lt_of_lt_of_le hj k.size) (by omega)).trans (k.block j hj hne)⟩
/-- The row, and a counter of its own in block cb. -/
structure CW (w0 : World) (g cap Bs cb s : Nat) (d : Array Hs) (W : World) : Prop where
  sw : SW w0 g cap Bs d W
  cnt : RowIs W cb 3 [.int .i64 (s : Int)]
  new : w0.heap.size ≤ cb
  ne : cb ≠ g
  nb : cb ≠ Bs
theorem CW.after {w0 : World} {g cap Bs cb s : Nat} {d : Array Hs} {W W' : World} (h : CW w0 g cap Bs cb s d W) (ha : After W W') : CW w0 g cap Bs cb s d W' :=
  ⟨h.sw.after ha, h.cnt.below ha h.cnt.lt, h.new, h.ne, h.nb⟩
theorem CW.up {w0 : World} {g cap Bs cb s : Nat} {d : Array Hs} {W : World} (h : CW w0 g cap Bs cb s d W) (t : Nat) : CW w0 g cap Bs cb t d (W.setCell ⟨cb, 0, none⟩ (.int .i64 (t : Int))) :=
  ⟨h.sw.but ((But.refl cb W).setCell 0 _) h.new h.ne h.nb, h.cnt.set 0 _, h.new, h.ne, h.nb⟩

set_option maxRecDepth 100000 in
set_option maxHeartbeats 6400000 in
theorem ord92 {w0 : World} {g cap Bs cb s n : Nat} {d : Array Hs} {w : World} (h : CW w0 g cap Bs cb s d w) (hn : d.size = n) (x y : Nat) (hx : x < n) (hy : y < n) (hs : s < 1000) :
    Calls Tryz.prog 103 #[.agg #[lessV Bs, swapV (typeHandle Tryz.prog 40) g cap n], .int .i64 (x : Int), .int .i64 (y : Int), .pointer (some ⟨cb, 0, none⟩)] w fun e w' => ∃ x' y' s' : Nat, e = .returned (.tuple #[.int .i64 (x' : Int), .int .i64 (y' : Int)]) ∧ Hid (x' = x ∧ y' = y ∨ x' = y ∧ y' = x) ∧ s' ≤ s + 1 ∧ CW w0 g cap Bs cb s' d w' ∧ But cb w w' := by
  have e51 : ∀ args w, (callFunc 49 args).run Tryz.prog w = .ok (.enter 49 args) w := enters_of Tryz.func49 (by kernel_rfl) rfl
  unfold lessV swapV
  have h1 := h.after (after_alloc (After.refl w) (.cells #[.func (.func 49) #[] #[.pointer (some ⟨Bs, 0, none⟩)], .func (.func 80) #[] #[.slice (some ⟨g, 0, none⟩) n cap, typeHandle Tryz.prog 40]] 105))
  have HA1 : Hid (After w (w.alloc (.cells #[.func (.func 49) #[] #[.pointer (some ⟨Bs, 0, none⟩)], .func (.func 80) #[] #[.slice (some ⟨g, 0, none⟩) n cap, typeHandle Tryz.prog 40]] 105))) := after_alloc (After.refl w) _
  have HC1 : Hid (CW w0 g cap Bs cb s d (w.alloc (.cells #[.func (.func 49) #[] #[.pointer (some ⟨Bs, 0, none⟩)], .func (.func 80) #[] #[.slice (some ⟨g, 0, none⟩) n cap, typeHandle Tryz.prog 40]] 105))) := h1
  have C := show Hid _ from less51 h1.sw (i := y) (j := x) (by omega) (by omega)
  clear h h1 hn
  cases hl : ltB d[y]! d[x]! with
  | true =>
    rw [hl] at C
    go_enter Tryz.func103, Tryz.ntmps103
    go_wp2_with (go_at_fn 49; refine Calls.mono C.out ?_; rintro e w2 ⟨rfl, ha⟩; have HA2 := show Hid (After _ _) from ha; have hc2 := (HC1.out.after ha); have HC2 := show Hid (CW _ _ _ _ _ _ _ _) from hc2; have c2 := hc2.cnt.cell (j := 0) rfl; have f2 := hc2.cnt.frozen 0; clear ha hc2)
    go_ret2
    refine ⟨y, x, s + 1, rfl, Or.inr ⟨rfl, rfl⟩, Nat.le_refl _, ?_, ?_⟩
    · have := HC2.out.up (s + 1)
      simpa using this
    · exact (But.of_below (After.trans HA1.out HA2.out)).setCell 0 _
  | false =>
    rw [hl] at C
    go_enter Tryz.func103, Tryz.ntmps103
    go_wp2_with (go_at_fn 49; refine Calls.mono C.out ?_; rintro e w2 ⟨rfl, ha⟩; have HA2 := show Hid (After _ _) from ha; have hc2 := (HC1.out.after ha); have HC2 := show Hid (CW _ _ _ _ _ _ _ _) from hc2; clear ha hc2)
    go_ret2
    exact ⟨x, y, s, rfl, Or.inl ⟨rfl, rfl⟩, Nat.le_succ _, HC2.out, But.of_below (After.trans HA1.out HA2.out)⟩
end
section
open Go.RowKit Go.Lib Go.Sort
def Stop (p : Prop) : Prop := p
theorem of_stop {p : Prop} (h : Stop p) : p := h

set_option maxRecDepth 100000 in
set_option maxHeartbeats 6400000 in
theorem med91 {w0 : World} {g cap Bs cb s n : Nat} {d : Array Hs} {w : World} (h : CW w0 g cap Bs cb s d w) (hn : d.size = n) (x y z : Nat) (hx : x < n) (hy : y < n) (hz : z < n) (hs : s < 100) :
    Calls Tryz.prog 100 #[.agg #[lessV Bs, swapV (typeHandle Tryz.prog 40) g cap n], .int .i64 (x : Int), .int .i64 (y : Int), .int .i64 (z : Int), .pointer (some ⟨cb, 0, none⟩)] w fun e w' => ∃ m s' : Nat, e = .returned (.int .i64 (m : Int)) ∧ Hid (m = x ∨ m = y ∨ m = z) ∧ s' ≤ s + 3 ∧ CW w0 g cap Bs cb s' d w' ∧ But cb w w' := by
  have e92 : ∀ args w, (callFunc 103 args).run Tryz.prog w = .ok (.enter 103 args) w := enters_of Tryz.func103 (by kernel_rfl) rfl
  have e91 : ∀ args w, (callFunc 100 args).run Tryz.prog w = .ok (.enter 100 args) w := enters_of Tryz.func100 (by kernel_rfl) rfl
  have HS94 : Hid ((Tryz.prog.info? 105).map (·.size) = some 2) := by unfold Hid; kernel_rfl
  have HN : Hid (d.size = n) := hn
  have h1 := h.after (after_alloc (After.refl w) (.cells #[.func (.func 49) #[] #[.pointer (some ⟨Bs, 0, none⟩)], .func (.func 80) #[] #[.slice (some ⟨g, 0, none⟩) n cap, typeHandle Tryz.prog 40]] 105))
  have b1 := But.of_below (g := cb) (after_alloc (After.refl w) (.cells #[.func (.func 49) #[] #[.pointer (some ⟨Bs, 0, none⟩)], .func (.func 80) #[] #[.slice (some ⟨g, 0, none⟩) n cap, typeHandle Tryz.prog 40]] 105))
  have r1 := RowIs.new w 105 [lessV Bs, swapV (typeHandle Tryz.prog 40) g cap n]
  have hBc : w.heap.size ≠ cb := by have := h.cnt.lt; omega
  unfold lessV swapV at r1 ⊢
  have r1' : (w.alloc (.cells #[.func (.func 49) #[] #[.pointer (some ⟨Bs, 0, none⟩)], .func (.func 80) #[] #[.slice (some ⟨g, 0, none⟩) n cap, typeHandle Tryz.prog 40]] 105)).heap[w.heap.size]? = some (.cells #[.func (.func 49) #[] #[.pointer (some ⟨Bs, 0, none⟩)], .func (.func 80) #[] #[.slice (some ⟨g, 0, none⟩) n cap, typeHandle Tryz.prog 40]] 105 (0, 0)) := r1
  have HC1 := show Hid (CW _ _ _ _ _ _ _ _) from h1
  have HB1 := show Hid (But _ _ _) from b1
  have HR1 := show Hid _ from r1'
  clear h1 b1 r1 r1' h hn
  have C1 := show Hid _ from ord92 HC1.out HN.out x y hx hy (by omega)
  unfold lessV swapV at C1
  go_enter Tryz.func100, Tryz.ntmps100
  go_wp2_with (refine wpList_load_row rfl 105 (.tmp 5) rfl w.heap.size rfl 105 _ (0, 0) _ HR1.out Tryz.underlying105 rfl HS94.out ?_; apply of_stop)
  unfold Stop
  obtain ⟨B, hB⟩ : ∃ B, w.heap.size = B := ⟨_, rfl⟩
  rw [hB] at hBc HR1
  rw [hB]
  obtain ⟨w1, hw1⟩ : ∃ w1, w.alloc (.cells #[.func (.func 49) #[] #[.pointer (some ⟨Bs, 0, none⟩)], .func (.func 80) #[] #[.slice (some ⟨g, 0, none⟩) n cap, typeHandle Tryz.prog 40]] 105) = w1 := ⟨_, rfl⟩
  rw [hw1] at HC1 HB1 HR1 C1
  rw [hw1]
  clear hw1 hB
  go_wp2_with (first
    | (go_at_call 103; refine Calls.mono C3.out ?_; rintro e w4 ⟨x4, y4, s4, rfl, HX4, hs4, h4, b4⟩; have HC4 := show Hid (CW _ _ _ _ _ _ _ _) from h4; have HB4 := show Hid (But _ _ _) from But.trans HB3.out b4; have HR4 := show Hid _ from (b4.block B (Array.getElem?_eq_some_iff.1 HR3.out).1 hBc).trans HR3.out; clear h4 b4)
    | (refine wpList_load_row rfl 105 (.tmp 5) rfl B rfl 105 _ (0, 0) _ HR3.out Tryz.underlying105 rfl HS94.out ?_)
    | (go_at_call 103; refine Calls.mono C2.out ?_; rintro e w3 ⟨x3, y3, s3, rfl, HX3, hs3, h3, b3⟩; have HC3 := show Hid (CW _ _ _ _ _ _ _ _) from h3; have HB3 := show Hid (But _ _ _) from But.trans HB2.out b3; have HR3 := show Hid _ from (b3.block B (Array.getElem?_eq_some_iff.1 HR2.out).1 hBc).trans HR2.out; clear h3 b3; have C3 := show Hid _ from ord92 HC3.out HN.out x2 x3 (by have := HX2.out; omega) (by have := HX2.out; have := HX3.out; omega) (by omega); unfold lessV swapV at C3)
    | (refine wpList_load_row rfl 105 (.tmp 5) rfl B rfl 105 _ (0, 0) _ HR2.out Tryz.underlying105 rfl HS94.out ?_)
    | (go_at_call 103; refine Calls.mono C1.out ?_; rintro e w2 ⟨x2, y2, s2, rfl, HX2, hs2, h2, b2⟩; have HC2 := show Hid (CW _ _ _ _ _ _ _ _) from h2; have HB2 := show Hid (But _ _ _) from But.trans HB1.out b2; have HR2 := show Hid _ from (b2.block B (Array.getElem?_eq_some_iff.1 HR1.out).1 hBc).trans HR1.out; clear h2 b2; have C2 := show Hid _ from ord92 HC2.out HN.out y2 z (by have := HX2.out; omega) hz (by omega); unfold lessV swapV at C2))
  go_ret
  exact ⟨y4, s4, rfl, by have := HX2.out; have := HX3.out; have := HX4.out; unfold Hid; omega, by omega, HC4.out, HB4.out⟩

set_option maxRecDepth 100000 in
set_option maxHeartbeats 6400000 in
theorem adj90 {w0 : World} {g cap Bs cb s n : Nat} {d : Array Hs} {w : World} (h : CW w0 g cap Bs cb s d w) (hn : d.size = n) (x : Nat) (hx1 : 1 ≤ x) (hx : x + 1 < n) (hs : s < 100) (hsz : n < 1152921504606846976) :
    Calls Tryz.prog 99 #[.agg #[lessV Bs, swapV (typeHandle Tryz.prog 40) g cap n], .int .i64 (x : Int), .pointer (some ⟨cb, 0, none⟩)] w fun e w' => ∃ m s' : Nat, e = .returned (.int .i64 (m : Int)) ∧ x ≤ m + 1 ∧ m ≤ x + 1 ∧ s' ≤ s + 3 ∧ CW w0 g cap Bs cb s' d w' ∧ But cb w w' := by
  have e92 : ∀ args w, (callFunc 103 args).run Tryz.prog w = .ok (.enter 103 args) w := enters_of Tryz.func103 (by kernel_rfl) rfl
  have e91 : ∀ args w, (callFunc 100 args).run Tryz.prog w = .ok (.enter 100 args) w := enters_of Tryz.func100 (by kernel_rfl) rfl
  have HS94 : Hid ((Tryz.prog.info? 105).map (·.size) = some 2) := by unfold Hid; kernel_rfl
  have HN : Hid (d.size = n) := hn
  have h1 := h.after (after_alloc (After.refl w) (.cells #[.func (.func 49) #[] #[.pointer (some ⟨Bs, 0, none⟩)], .func (.func 80) #[] #[.slice (some ⟨g, 0, none⟩) n cap, typeHandle Tryz.prog 40]] 105))
  have b1 := But.of_below (g := cb) (after_alloc (After.refl w) (.cells #[.func (.func 49) #[] #[.pointer (some ⟨Bs, 0, none⟩)], .func (.func 80) #[] #[.slice (some ⟨g, 0, none⟩) n cap, typeHandle Tryz.prog 40]] 105))
  have r1 := RowIs.new w 105 [lessV Bs, swapV (typeHandle Tryz.prog 40) g cap n]
  have hBc : w.heap.size ≠ cb := by have := h.cnt.lt; omega
  unfold lessV swapV at r1 ⊢
  have r1' : (w.alloc (.cells #[.func (.func 49) #[] #[.pointer (some ⟨Bs, 0, none⟩)], .func (.func 80) #[] #[.slice (some ⟨g, 0, none⟩) n cap, typeHandle Tryz.prog 40]] 105)).heap[w.heap.size]? = some (.cells #[.func (.func 49) #[] #[.pointer (some ⟨Bs, 0, none⟩)], .func (.func 80) #[] #[.slice (some ⟨g, 0, none⟩) n cap, typeHandle Tryz.prog 40]] 105 (0, 0)) := r1
  have HC1 := show Hid (CW _ _ _ _ _ _ _ _) from h1
  have HB1 := show Hid (But _ _ _) from b1
  have HR1 := show Hid _ from r1'
  clear h1 b1 r1 r1' h hn
  have C1 := show Hid _ from med91 HC1.out HN.out (x - 1) x (x + 1) (by omega) (by omega) (by omega) (by omega)
  unfold lessV swapV at C1
  rw [show ((x - 1 : Nat) : Int) = (x : Int) - 1 by omega, show ((x + 1 : Nat) : Int) = (x : Int) + 1 by omega] at C1
  go_enter Tryz.func99, Tryz.ntmps99
  go_wp2_with (refine wpList_load_row rfl 105 (.tmp 3) rfl w.heap.size rfl 105 _ (0, 0) _ HR1.out Tryz.underlying105 rfl HS94.out ?_; apply of_stop)
  unfold Stop
  obtain ⟨B, hB⟩ : ∃ B, w.heap.size = B := ⟨_, rfl⟩
  rw [hB] at hBc HR1
  rw [hB]
  obtain ⟨w1, hw1⟩ : ∃ w1, w.alloc (.cells #[.func (.func 49) #[] #[.pointer (some ⟨Bs, 0, none⟩)], .func (.func 80) #[] #[.slice (some ⟨g, 0, none⟩) n cap, typeHandle Tryz.prog 40]] 105) = w1 := ⟨_, rfl⟩
  rw [hw1] at HC1 HB1 HR1 C1
  rw [hw1]
  clear hw1 hB
  go_wp2_with (first
    | (go_at_call 100; refine Calls.mono C1.out ?_; rintro e w2 ⟨m2, s2, rfl, HX2, hs2, h2, b2⟩; have HC2 := show Hid (CW _ _ _ _ _ _ _ _) from h2; have HB2 := show Hid (But _ _ _) from But.trans HB1.out b2; have HR2 := show Hid _ from (b2.block B (Array.getElem?_eq_some_iff.1 HR1.out).1 hBc).trans HR1.out; clear h2 b2))
  go_ret
  exact ⟨m2, s2, rfl, by have := HX2.out; omega, by have := HX2.out; omega, by omega, HC2.out, HB2.out⟩

set_option maxRecDepth 100000 in
set_option maxHeartbeats 6400000 in
theorem piv80 {w0 : World} {g cap Bs n : Nat} {d : Array Hs} {w : World} (h : SW w0 g cap Bs d w) (hn : d.size = n) (a b : Nat) (hab : 12 < b - a) (hb : b ≤ n) (hsz : n < 1152921504606846976) :
    Calls Tryz.prog 86 #[.agg #[lessV Bs, swapV (typeHandle Tryz.prog 40) g cap n], .int .i64 (a : Int), .int .i64 (b : Int)] w fun e w' => ∃ p hh : Nat, e = .returned (.tuple #[.int .i64 (p : Int), .int .i64 (hh : Int)]) ∧ a ≤ p ∧ p < b ∧ hh ≤ 2 ∧ SW w0 g cap Bs d w' := by
  have e90 : ∀ args w, (callFunc 99 args).run Tryz.prog w = .ok (.enter 99 args) w := enters_of Tryz.func99 (by kernel_rfl) rfl
  have e91 : ∀ args w, (callFunc 100 args).run Tryz.prog w = .ok (.enter 100 args) w := enters_of Tryz.func100 (by kernel_rfl) rfl
  have HS94 : Hid ((Tryz.prog.info? 105).map (·.size) = some 2) := by unfold Hid; kernel_rfl
  have HN : Hid (d.size = n) := hn
  have hg : g < w.heap.size := (World.ownsRow.lt h.own g rfl).2
  have hbs : Bs < w.heap.size := block_lt_of_cell h.box
  have h1 : CW w0 g cap Bs (w.heap.size + 1) 0 d ((w.alloc (.cells #[.func (.func 49) #[] #[.pointer (some ⟨Bs, 0, none⟩)], .func (.func 80) #[] #[.slice (some ⟨g, 0, none⟩) n cap, typeHandle Tryz.prog 40]] 105)).alloc (.cells #[.int .i64 0] 3)) := by
    refine ⟨h.after (after_alloc (after_alloc (After.refl w) _) _), ?_, by have := h.grow.size; omega, by omega, by omega⟩
    have := RowIs.new (w.alloc (.cells #[.func (.func 49) #[] #[.pointer (some ⟨Bs, 0, none⟩)], .func (.func 80) #[] #[.slice (some ⟨g, 0, none⟩) n cap, typeHandle Tryz.prog 40]] 105)) 3 [.int .i64 0]
    simpa using this
  have r1 := RowIs.alloc (RowIs.new w 105 [lessV Bs, swapV (typeHandle Tryz.prog 40) g cap n]) (.cells #[.int .i64 0] 3)
  have b1 := But.refl (w.heap.size + 1) ((w.alloc (.cells #[.func (.func 49) #[] #[.pointer (some ⟨Bs, 0, none⟩)], .func (.func 80) #[] #[.slice (some ⟨g, 0, none⟩) n cap, typeHandle Tryz.prog 40]] 105)).alloc (.cells #[.int .i64 0] 3))
  unfold lessV swapV at r1 ⊢
  have hBc : w.heap.size ≠ w.heap.size + 1 := by omega
  have r1' : ((w.alloc (.cells #[.func (.func 49) #[] #[.pointer (some ⟨Bs, 0, none⟩)], .func (.func 80) #[] #[.slice (some ⟨g, 0, none⟩) n cap, typeHandle Tryz.prog 40]] 105)).alloc (.cells #[.int .i64 0] 3)).heap[w.heap.size]? = some (.cells #[.func (.func 49) #[] #[.pointer (some ⟨Bs, 0, none⟩)], .func (.func 80) #[] #[.slice (some ⟨g, 0, none⟩) n cap, typeHandle Tryz.prog 40]] 105 (0, 0)) := r1
  obtain ⟨L, hL⟩ : ∃ L, b - a = L := ⟨_, rfl⟩
  have hLz : (b : Int) - (a : Int) = (L : Int) := by omega
  obtain ⟨q, hq⟩ : ∃ q, L / 4 = q := ⟨_, rfl⟩
  have hqz : (L : Int) / 4 = (q : Int) := by omega
  have hqt : (L : Int).tdiv 4 = (q : Int) := by rw [Int.tdiv_eq_ediv_of_nonneg (by omega)]; omega
  have hq1 : 3 ≤ q := by omega
  have hq4 : q * 4 ≤ L := by omega
  have hbL : b = a + L := by omega
  have HBL : Hid (b = a + L) := hbL
  have h8z : (8 : Int) ≤ (L : Int) := by omega
  have hL12 : 12 < L := by omega
  have hn4 : a + q * 4 ≤ n := by omega
  obtain ⟨i, hi⟩ : ∃ i, i = a + q := ⟨_, rfl⟩
  obtain ⟨j, hj⟩ : ∃ j, j = a + q * 2 := ⟨_, rfl⟩
  obtain ⟨k, hk⟩ : ∃ k, k = a + q * 3 := ⟨_, rfl⟩
  have hiz : (a : Int) + (q : Int) = (i : Int) := by omega
  have hjz : (a : Int) + (q : Int) * 2 = (j : Int) := by omega
  have hkz : (a : Int) + (q : Int) * 3 = (k : Int) := by omega
  have HIJK : Hid (i = a + q ∧ j = a + q * 2 ∧ k = a + q * 3) := ⟨hi, hj, hk⟩
  have hin : i + 1 < n ∧ 1 ≤ i ∧ j + 1 < n ∧ 1 ≤ j ∧ k + 1 < n ∧ 1 ≤ k := by omega
  have HR9 : Hid (a ≤ i ∧ i + 2 ≤ b ∧ a + 1 ≤ i ∧ i < j ∧ j < k ∧ k + 3 ≤ b) := by unfold Hid; omega
  clear hi hj hk hbL hL hq hab
  obtain ⟨hin1, hin2, hin3, hin4, hin5, hin6⟩ := hin
  go_enter Tryz.func86, Tryz.ntmps86
  by_cases h50 : 50 ≤ L
  · have h50z : (50 : Int) ≤ (L : Int) := by omega
    have HC1 := show Hid (CW _ _ _ _ _ _ _ _) from h1
    have HB1 := show Hid (But _ _ _) from b1
    have HR1 := show Hid _ from r1'
    clear h1 b1 r1 r1' h hn
    have C1 := show Hid _ from adj90 HC1.out HN.out i hin2 hin1 (by omega) hsz
    unfold lessV swapV at C1
    go_wp2_with (refine wpList_load_row rfl 105 (.tmp 3) rfl w.heap.size rfl 105 _ (0, 0) _ HR1.out Tryz.underlying105 rfl HS94.out ?_; apply of_stop)
    unfold Stop
    obtain ⟨B, hB⟩ : ∃ B, w.heap.size = B := ⟨_, rfl⟩
    rw [hB] at hBc HR1 HC1 HB1 C1 hg hbs
    rw [hB]
    obtain ⟨w1, hw1⟩ : ∃ w1, ((w.alloc (.cells #[.func (.func 49) #[] #[.pointer (some ⟨Bs, 0, none⟩)], .func (.func 80) #[] #[.slice (some ⟨g, 0, none⟩) n cap, typeHandle Tryz.prog 40]] 105)).alloc (.cells #[.int .i64 0] 3)) = w1 := ⟨_, rfl⟩
    rw [hw1] at HC1 HB1 HR1 C1
    rw [hw1]
    clear hw1 hB
    go_wp2_with (first
      | (go_at_call 100; refine Calls.mono C4.out ?_; rintro e w5 ⟨m5, s5, rfl, HX5, hs5, h5, b5⟩; have HC5 := show Hid (CW _ _ _ _ _ _ _ _) from h5; have HB5 := show Hid (But _ _ _) from But.trans HB4.out b5; have HR5 := show Hid _ from (b5.block B (Array.getElem?_eq_some_iff.1 HR4.out).1 hBc).trans HR4.out; clear h5 b5; have c9 := HC5.out.cnt.cell (j := 0) rfl)
      | (refine wpList_load_row rfl 105 (.tmp 3) rfl B rfl 105 _ (0, 0) _ HR4.out Tryz.underlying105 rfl HS94.out ?_)
      | (go_at_call 99; refine Calls.mono C3.out ?_; rintro e w4 ⟨m4, s4, rfl, hm4, hm4', hs4, h4, b4⟩; have HC4 := show Hid (CW _ _ _ _ _ _ _ _) from h4; have HB4 := show Hid (But _ _ _) from But.trans HB3.out b4; have HR4 := show Hid _ from (b4.block B (Array.getElem?_eq_some_iff.1 HR3.out).1 hBc).trans HR3.out; clear h4 b4; have C4 := show Hid _ from med91 HC4.out HN.out m2 m3 m4 (by omega) (by omega) (by omega) (by omega); unfold lessV swapV at C4)
      | (refine wpList_load_row rfl 105 (.tmp 3) rfl B rfl 105 _ (0, 0) _ HR3.out Tryz.underlying105 rfl HS94.out ?_)
      | (go_at_call 99; refine Calls.mono C2.out ?_; rintro e w3 ⟨m3, s3, rfl, hm3, hm3', hs3, h3, b3⟩; have HC3 := show Hid (CW _ _ _ _ _ _ _ _) from h3; have HB3 := show Hid (But _ _ _) from But.trans HB2.out b3; have HR3 := show Hid _ from (b3.block B (Array.getElem?_eq_some_iff.1 HR2.out).1 hBc).trans HR2.out; clear h3 b3; have C3 := show Hid _ from adj90 HC3.out HN.out k hin6 hin5 (by omega) hsz; unfold lessV swapV at C3)
      | (refine wpList_load_row rfl 105 (.tmp 3) rfl B rfl 105 _ (0, 0) _ HR2.out Tryz.underlying105 rfl HS94.out ?_)
      | (go_at_call 99; refine Calls.mono C1.out ?_; rintro e w2 ⟨m2, s2, rfl, hm2, hm2', hs2, h2, b2⟩; have HC2 := show Hid (CW _ _ _ _ _ _ _ _) from h2; have HB2 := show Hid (But _ _ _) from But.trans HB1.out b2; have HR2 := show Hid _ from (b2.block B (Array.getElem?_eq_some_iff.1 HR1.out).1 hBc).trans HR1.out; clear h2 b2; have C2 := show Hid _ from adj90 HC2.out HN.out j hin4 hin3 (by omega) hsz; unfold lessV swapV at C2))
    all_goals have HP : Hid (a ≤ m5 ∧ m5 < b) := by have := HX5.out; have := HR9.out; unfold Hid; omega
    all_goals first
      | (go_ret2; exact ⟨m5, 1, rfl, by have := HP.out; omega, by have := HP.out; omega, by omega, HC5.out.sw⟩)
      | (go_ret2; exact ⟨m5, 2, rfl, by have := HP.out; omega, by have := HP.out; omega, by omega, HC5.out.sw⟩)
      | (go_ret2; exact ⟨m5, 0, rfl, by have := HP.out; omega, by have := HP.out; omega, by omega, HC5.out.sw⟩)
  · have h50z : ¬ (50 : Int) ≤ (L : Int) := by omega
    have HC1 := show Hid (CW _ _ _ _ _ _ _ _) from h1
    have HB1 := show Hid (But _ _ _) from b1
    have HR1 := show Hid _ from r1'
    clear h1 b1 r1 r1' h hn
    have C1 := show Hid _ from med91 HC1.out HN.out i j k (by omega) (by omega) (by omega) (by omega)
    unfold lessV swapV at C1
    go_wp2_with (refine wpList_load_row rfl 105 (.tmp 3) rfl w.heap.size rfl 105 _ (0, 0) _ HR1.out Tryz.underlying105 rfl HS94.out ?_; apply of_stop)
    unfold Stop
    obtain ⟨B, hB⟩ : ∃ B, w.heap.size = B := ⟨_, rfl⟩
    rw [hB] at hBc HR1 HC1 HB1 C1 hg hbs
    rw [hB]
    obtain ⟨w1, hw1⟩ : ∃ w1, ((w.alloc (.cells #[.func (.func 49) #[] #[.pointer (some ⟨Bs, 0, none⟩)], .func (.func 80) #[] #[.slice (some ⟨g, 0, none⟩) n cap, typeHandle Tryz.prog 40]] 105)).alloc (.cells #[.int .i64 0] 3)) = w1 := ⟨_, rfl⟩
    rw [hw1] at HC1 HB1 HR1 C1
    rw [hw1]
    clear hw1 hB
    go_wp2_with (first
      | (go_at_call 100; refine Calls.mono C1.out ?_; rintro e w5 ⟨m5, s5, rfl, HX5, hs5, h5, b5⟩; have HC5 := show Hid (CW _ _ _ _ _ _ _ _) from h5; have HB5 := show Hid (But _ _ _) from But.trans HB1.out b5; have HR5 := show Hid _ from (b5.block B (Array.getElem?_eq_some_iff.1 HR1.out).1 hBc).trans HR1.out; clear h5 b5; have c9 := HC5.out.cnt.cell (j := 0) rfl))
    all_goals have HP : Hid (a ≤ m5 ∧ m5 < b) := by have := HX5.out; have := HR9.out; unfold Hid; omega
    all_goals first
      | (go_ret2; exact ⟨m5, 1, rfl, by have := HP.out; omega, by have := HP.out; omega, by omega, HC5.out.sw⟩)
      | (go_ret2; exact ⟨m5, 2, rfl, by have := HP.out; omega, by have := HP.out; omega, by omega, HC5.out.sw⟩)
      | (go_ret2; exact ⟨m5, 0, rfl, by have := HP.out; omega, by have := HP.out; omega, by omega, HC5.out.sw⟩)
end
section
open Go.RowKit Go.Lib Go.Sort
theorem SB.but {w0 : World} {g cap Bs B n cb : Nat} {d : Array Hs} {W W' : World} (h : SB w0 g cap Bs B n d W) (hb : But cb W W') (h0 : w0.heap.size ≤ cb) (hg : cb ≠ g) (hs : cb ≠ Bs) (hB : B ≠ cb) : SB w0 g cap Bs B n d W' :=
  ⟨h.sw.but hb h0 hg hs, h.sz, h.gB, hb.row h.row hB⟩
theorem but_setCells (g : Nat) (W : World) (o : Nat) (vs : List Value) : But g W (W.setCells g o vs) := by
  have hk := World.keptBut_setCells g (may := fun _ => True) vs o W (fun _ _ => trivial)
  refine ⟨hk.1, ?_, hk.2.1, hk.size, fun k hk' hne => World.heap_setCells_other W g o vs hk' hne⟩
  clear hk
  induction vs generalizing o W with
  | nil => rfl
  | cons v r ih => rw [World.setCells, ih]; rfl
theorem SB.swapB {w0 : World} {g cap Bs B n : Nat} {d : Array Hs} {W : World} (h : SB w0 g cap Bs B n d W) {i j : Nat} (hi : i < n) (hj : j < n) :
    ∃ W', (callFunc 80 #[.int .i64 (i : Int), .int .i64 (j : Int), .slice (some ⟨g, 0, none⟩) n cap, typeHandle Tryz.prog 40]).run Tryz.prog W = .ok (.value (.tuple #[])) W' ∧ SB w0 g cap Bs B n (swp d i j) W' ∧ But g W W' := by
  have := swap74 h.sw (i := i) (j := j) (by rw [h.sz]; exact hi) (by rw [h.sz]; exact hj)
  rw [h.sz] at this
  exact ⟨_, this, h.swapped hi hj, (but_setCells g _ _ _).trans (but_setCells g _ _ _)⟩

set_option maxRecDepth 100000 in
set_option maxHeartbeats 6400000 in
theorem brk79 {w0 : World} {g cap Bs n : Nat} {d : Array Hs} {w : World} (h : SW w0 g cap Bs d w) (hn : d.size = n) (a b : Nat) (hab : 12 < b - a) (hb : b ≤ n) (hsz : n < 1152921504606846976) :
    Calls Tryz.prog 85 #[.agg #[lessV Bs, swapV (typeHandle Tryz.prog 40) g cap n], .int .i64 (a : Int), .int .i64 (b : Int)] w fun e w' => e = .returned (.tuple #[]) ∧ ∃ d', PermIn a b d d' ∧ SW w0 g cap Bs d' w' := by
  have e88 : ∀ args w, (callFunc 97 args).run Tryz.prog w = .ok (.enter 97 args) w := enters_of Tryz.func97 (by kernel_rfl) rfl
  have e89 : ∀ args w, (callFunc 98 args).run Tryz.prog w = .ok (.enter 98 args) w := enters_of Tryz.func98 (by kernel_rfl) rfl
  obtain ⟨L, hL⟩ : ∃ L, b - a = L := ⟨_, rfl⟩
  have hLz : (b : Int) - (a : Int) = (L : Int) := by omega
  obtain ⟨q, hq⟩ : ∃ q, L / 4 = q := ⟨_, rfl⟩
  have hqz : (L : Int) / 4 = (q : Int) := by omega
  have hqt : (L : Int).tdiv 4 = (q : Int) := by rw [Int.tdiv_eq_ediv_of_nonneg (by omega)]; omega
  have h8z : (8 : Int) ≤ (L : Int) := by omega
  obtain ⟨M, hM⟩ : ∃ M : Nat, M = 1 <<< bitsLen L := ⟨_, rfl⟩
  have hM1 : 1 ≤ M := by rw [hM, Nat.one_shiftLeft]; exact Nat.two_pow_pos _
  have hM2 : M ≤ 2 * L := by rw [hM, Nat.one_shiftLeft]; exact two_pow_bitsLen_le (by omega)
  have HNP : Hid (∀ w, Calls Tryz.prog 97 #[.int .i64 (L : Int)] w fun e w' => e = .returned (.int .u64 (M : Int)) ∧ w' = w) := by
    unfold Hid; rw [hM]; exact fun w => Any.nextPowerOfTwo (ρ := sh_sl6_ren) { sh_sl6 with } L (by omega) w
  obtain ⟨i0, hi0⟩ : ∃ i0, i0 = a + q * 2 - 1 := ⟨_, rfl⟩
  have hi0z : (a : Int) + (q : Int) * 2 - 1 = (i0 : Int) := by omega
  have hi2z : (a : Int) + (q : Int) * 2 + 1 = (i0 : Int) + 2 := by omega
  have HK : Hid (a ≤ i0 ∧ i0 + 3 ≤ b ∧ b = a + L) := by unfold Hid; omega
  have hi0n : i0 + 3 ≤ n := by omega
  have haL : a + L ≤ n := by omega
  have hgw : g < w.heap.size := (World.ownsRow.lt h.own g rfl).2
  have hbw : Bs < w.heap.size := block_lt_of_cell h.box
  have h0w := h.grow.size
  have HS1 : Hid (SB w0 g cap Bs w.heap.size n d ((w.alloc (.cells #[.func (.func 49) #[] #[.pointer (some ⟨Bs, 0, none⟩)], .func (.func 80) #[] #[.slice (some ⟨g, 0, none⟩) n cap, typeHandle Tryz.prog 40]] 105)).alloc (.cells #[.int .u64 (L : Int)] 134))) := (SB.start h hn).after (after_alloc (After.refl _) _)
  have HR1 : Hid (RowIs ((w.alloc (.cells #[.func (.func 49) #[] #[.pointer (some ⟨Bs, 0, none⟩)], .func (.func 80) #[] #[.slice (some ⟨g, 0, none⟩) n cap, typeHandle Tryz.prog 40]] 105)).alloc (.cells #[.int .u64 (L : Int)] 134)) (w.heap.size + 1) 134 [.int .u64 (L : Int)]) := by
    have := RowIs.new (w.alloc (.cells #[.func (.func 49) #[] #[.pointer (some ⟨Bs, 0, none⟩)], .func (.func 80) #[] #[.slice (some ⟨g, 0, none⟩) n cap, typeHandle Tryz.prog 40]] 105)) 134 [.int .u64 (L : Int)]
    unfold Hid
    simpa using this
  clear hM hL hq hi0
  unfold lessV swapV
  go_enter Tryz.func85, Tryz.ntmps85
  go_wp2_with (go_at_call 97; refine Calls.mono (HNP.out _) ?_; rintro e w' ⟨rfl, rfl⟩)
  obtain ⟨B, hB⟩ : ∃ B, w.heap.size = B := ⟨_, rfl⟩
  rw [hB] at HS1 HR1 hgw hbw h0w
  rw [hB]
  obtain ⟨w1, hw1⟩ : ∃ w1, ((w.alloc (.cells #[.func (.func 49) #[] #[.pointer (some ⟨Bs, 0, none⟩)], .func (.func 80) #[] #[.slice (some ⟨g, 0, none⟩) n cap, typeHandle Tryz.prog 40]] 105)).alloc (.cells #[.int .u64 (L : Int)] 134)) = w1 := ⟨_, rfl⟩
  rw [hw1] at HS1 HR1
  rw [hw1]
  clear hw1 hB h hn
  go_loopw [9] (fun vi wr => ∃ (k X : Nat) (dk : Array Hs), vi = .int .i64 (k : Int) ∧ i0 ≤ k ∧ k ≤ i0 + 3 ∧ Hid (SB w0 g cap Bs B n dk wr ∧ PermIn a b d dk ∧ RowIs wr (B + 1) 134 [.int .u64 (X : Int)] ∧ X < 18446744073709551616)) (fun vi _ => i0 + 3 - (intOf vi).toNat)
  case atStart => exact ⟨i0, L, d, by go_num, Nat.le_refl _, by omega, HS1.out, permIn_refl d a b, HR1.out, by omega⟩
  case round =>
    obtain ⟨k, X, dk, rfl, hk0, hk3, HI⟩ := hrel
    by_cases hk : k ≤ i0 + 2
    · have hkz : (k : Int) ≤ (i0 : Int) + 2 := by omega
      obtain ⟨R', hR'⟩ : ∃ R' : Nat, R' = xorNextN X := ⟨_, rfl⟩
      have lR' : R' < 18446744073709551616 := by rw [hR']; exact xorNextN_lt X HI.out.2.2.2
      obtain ⟨O, hO⟩ : ∃ O : Nat, O = R' &&& (M - 1) := ⟨_, rfl⟩
      have lO : O ≤ M - 1 := by rw [hO]; exact Nat.and_le_right
      have eAnd : bits .and .u64 (R' : Int) ((M : Int) - 1) = (O : Int) := by
        rw [show ((M : Int) - 1) = ((M - 1 : Nat) : Int) by omega, bits_and_u64_nat _ _ lR' (by omega), hO]
      have HNX : Hid (Calls Tryz.prog 98 #[.pointer (some ⟨B + 1, 0, none⟩)] wr fun e w' => e = .returned (.int .u64 (R' : Int)) ∧ w' = (wr.setCell ⟨B + 1, 0, none⟩ (.int .u64 (R' : Int))).drewN 3) := by
        unfold Hid; rw [hR']; exact Any.xorshift_Next (ρ := sh_sl6_ren) { sh_sl6 with } _ _ X HI.out.2.2.2 wr (HI.out.2.2.1.cell (j := 0) rfl) (HI.out.2.2.1.frozen 0)
      clear hR' hO
      have b2 : But (B + 1) wr ((wr.setCell ⟨B + 1, 0, none⟩ (.int .u64 (R' : Int))).drewN 3) := ((But.refl (B + 1) wr).setCell 0 _).drew.drew.drew
      have h2 := HI.out.1.but b2 (by omega) (by omega) (by omega) (by omega)
      have r2 : RowIs ((wr.setCell ⟨B + 1, 0, none⟩ (.int .u64 (R' : Int))).drewN 3) (B + 1) 134 [.int .u64 (R' : Int)] := (HI.out.2.2.1.set 0 _).drew.drew.drew
      obtain ⟨w2, hw2⟩ : ∃ w2, (wr.setCell ⟨B + 1, 0, none⟩ (.int .u64 (R' : Int))).drewN 3 = w2 := ⟨_, rfl⟩
      rw [hw2] at HNX h2 r2
      have HS2 := show Hid (SB _ _ _ _ _ _ _ _) from h2
      have HR2 := show Hid _ from r2
      have p1 := h2.row.cell (j := 1) rfl
      unfold swapV at p1
      have hgr : B + 1 ≠ g := by omega
      clear b2 h2 r2 hw2
      by_cases hLO : L ≤ O
      · have hLOz : (L : Int) ≤ (O : Int) := by omega
        obtain ⟨jj, hjj⟩ : ∃ jj, jj = a + (O - L) := ⟨_, rfl⟩
        have hjz : (a : Int) + ((O : Int) - (L : Int)) = (jj : Int) := by omega
        have hj1 : a ≤ jj := by omega
        have hj2 : jj < a + L := by omega
        clear hjj
        obtain ⟨w3, hsw, h3, b3⟩ := HS2.out.swapB (i := k) (j := jj) (by omega) (by omega)
        have HS3 := show Hid _ from h3
        have HR3 := show Hid _ from b3.row HR2.out hgr
        clear h3 b3
        go_wp2_with (go_at_call 98; refine Calls.mono HNX.out ?_; rintro e w' ⟨rfl, rfl⟩)
        go_roundw
        case rel =>
          refine ⟨k + 1, R', swp dk k jj, by go_num, by omega, by omega, HS3.out, permIn_trans _ _ _ a b HI.out.2.1 (swp_permIn dk a b k jj (by have := HK.out; omega) (by have := HK.out; omega) (by have := HK.out; omega) (by have := HK.out; omega) (by rw [HI.out.1.sz]; exact hb)), HR3.out, lR'⟩
        case measure => simp [intOf]; omega
      · have hLOz : ¬ (L : Int) ≤ (O : Int) := by omega
        obtain ⟨jj, hjj⟩ : ∃ jj, jj = a + O := ⟨_, rfl⟩
        have hjz : (a : Int) + (O : Int) = (jj : Int) := by omega
        have hj1 : a ≤ jj := by omega
        have hj2 : jj < a + L := by omega
        clear hjj
        obtain ⟨w3, hsw, h3, b3⟩ := HS2.out.swapB (i := k) (j := jj) (by omega) (by omega)
        have HS3 := show Hid _ from h3
        have HR3 := show Hid _ from b3.row HR2.out hgr
        clear h3 b3
        go_wp2_with (go_at_call 98; refine Calls.mono HNX.out ?_; rintro e w' ⟨rfl, rfl⟩)
        go_roundw
        case rel =>
          refine ⟨k + 1, R', swp dk k jj, by go_num, by omega, by omega, HS3.out, permIn_trans _ _ _ a b HI.out.2.1 (swp_permIn dk a b k jj (by have := HK.out; omega) (by have := HK.out; omega) (by have := HK.out; omega) (by have := HK.out; omega) (by rw [HI.out.1.sz]; exact hb)), HR3.out, lR'⟩
        case measure => simp [intOf]; omega
    · have hkz : ¬ (k : Int) ≤ (i0 : Int) + 2 := by omega
      go_wp2
      go_end0
      exact ⟨rfl, dk, HI.out.2.1, HI.out.1.sw⟩
end
end Go.Proofs.YtcmcapcagblafaaGreat
