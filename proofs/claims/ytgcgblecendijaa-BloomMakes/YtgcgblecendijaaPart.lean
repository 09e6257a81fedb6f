/-
  THE WALK OF sort.partitionEqual_func.
-/
import Derived.Test.YtgcgblecendijaaHeap2
import Derived.Sort.WalkC4
namespace Go.Proofs.Ytgcgblecendijaa
open Go.RowKit Go.Sort Go.Lib

set_option maxRecDepth 100000 in
set_option maxHeartbeats 6400000 in
theorem peq83 {w0 : World} {g cap Bs n : Nat} {d : Array Hs} {w : World} (h : SW w0 g cap Bs d w) (hn : d.size = n) (a b p : Nat) (hap : a ≤ p) (hpb : p < b) (hb : b ≤ n) (hsz : n < 1152921504606846976) :
    Calls Try.prog 69 #[.agg #[lessV Bs, swapV (typeHandle Try.prog 29) g cap n], .int .i64 (a : Int), .int .i64 (b : Int), .int .i64 (p : Int)] w fun e w' => e = .returned (.int .i64 ((partitionEqual ltStr d a b p).1 : Int)) ∧ SW w0 g cap Bs (partitionEqual ltStr d a b p).2 w' := by
  have HS0 := show Hid (SB _ _ _ _ _ _ _ _) from SB.start h hn
  obtain ⟨B, hB⟩ : ∃ B, w.heap.size = B := ⟨_, rfl⟩
  have e51 : ∀ args w, (callFunc 39 args).run Try.prog w = .ok (.enter 39 args) w := enters_of Try.func39 (by kernel_rfl) rfl
  clear h hn
  unfold lessV swapV at HS0 ⊢
  obtain ⟨w2, hsw0, h2⟩ := HS0.out.swap (i := a) (j := p) (by omega) (by omega)
  have HS2 := show Hid (SB _ _ _ _ _ _ _ _) from h2
  clear h2 HS0
  go_enter Try.func69, Try.ntmps69
  go_wp2_with fail
  rw [hB] at HS2
  try rw [hB]
  clear hsw0 hB
  obtain ⟨e0, he0⟩ : ∃ e0, swp d a p = e0 := ⟨_, rfl⟩
  have HE0 : Hid (swp d a p = e0) := he0
  rw [he0] at HS2
  clear he0
  go_loopw [9, 10] (fun vi vj wr => ∃ (i j : Nat) (dk : Array Hs), vi = .int .i64 (i : Int) ∧ vj = .int .i64 (j : Int) ∧ a < i ∧ i ≤ j + 1 ∧ j < b ∧ Hid (SB w0 g cap Bs B n dk wr ∧ partEqLoop ltStr a i j dk = partEqLoop ltStr a (a + 1) (b - 1) e0)) (fun vi vj _ => (intOf vj).toNat + 1 - (intOf vi).toNat)
  case atStart => exact ⟨a + 1, b - 1, e0, by go_num, by go_num, by omega, by omega, by omega, HS2.out, rfl⟩
  case round =>
    obtain ⟨i, j, dk, rfl, rfl, hai, hij, hjb, HI⟩ := hrel
    obtain ⟨wa, rfl⟩ : ∃ wa, wa = wr := ⟨_, rfl⟩
    go_wp2_with fail
    go_loopw [9] (fun vi wr => ∃ i1 : Nat, vi = .int .i64 (i1 : Int) ∧ i ≤ i1 ∧ i1 ≤ j + 1 ∧ Hid (SB w0 g cap Bs B n dk wr ∧ scanUp (fun x => !ltStr dk[a]! x) dk j i1 = scanUp (fun x => !ltStr dk[a]! x) dk j i)) (fun vi _ => j + 1 - (intOf vi).toNat)
    case atStart => exact ⟨i, rfl, Nat.le_refl _, hij, HI.out.1, rfl⟩
    case round =>
      obtain ⟨i1, rfl, hii1, hi1j, HI1⟩ := hrel
      have r0 := HI1.out.1.row.cell (j := 0) rfl
      have r1 := HI1.out.1.row.cell (j := 1) rfl
      unfold lessV at r0
      unfold swapV at r1
      by_cases hle : i1 ≤ j
      · have hlei : (i1 : Int) ≤ (j : Int) := by omega
        cases v1 : ltStr dk[a]! dk[i1]! with
        | false =>
          have C1 := show Hid _ from fun W h => lessAt (w0 := w0) (g := g) (cap := cap) (Bs := Bs) (B := B) (n := n) (by omega) (by omega) v1 W h
          have V1 := show Hid _ from v1
          clear v1
          have HS1 := show Hid (SB _ _ _ _ _ _ _ _) from HI1.out.1
          go_wp2_with (go_at_fn 39; refine Calls.mono (C1.out wr HS1.out) ?_; rintro e w3 ⟨rfl, h3⟩; have HS3 := show Hid (SB _ _ _ _ _ _ _ _) from h3; have k0_3 := h3.row.cell (j := 0) rfl; have k1_3 := h3.row.cell (j := 1) rfl; unfold lessV at k0_3; unfold swapV at k1_3; clear h3)
          go_roundw
          case rel => exact ⟨i1 + 1, by go_num, by omega, by omega, HS3.out, by rw [← HI1.out.2]; exact (scanUp_go _ dk j i1 hle (by simp [V1.out])).symm⟩
          case measure => simp [intOf]; omega
        | true =>
          have C1 := show Hid _ from fun W h => lessAt (w0 := w0) (g := g) (cap := cap) (Bs := Bs) (B := B) (n := n) (by omega) (by omega) v1 W h
          have V1 := show Hid _ from v1
          clear v1
          have HS1 := show Hid (SB _ _ _ _ _ _ _ _) from HI1.out.1
          have HU : Hid (i1 = scanUp (fun x => !ltStr dk[a]! x) dk j i) := by unfold Hid; rw [← HI1.out.2]; exact (scanUp_end _ dk j i1 (Or.inr (by simp [V1.out]))).symm
          go_wp2_with (go_at_fn 39; refine Calls.mono (C1.out wr HS1.out) ?_; rintro e w3 ⟨rfl, h3⟩; have HS3 := show Hid (SB _ _ _ _ _ _ _ _) from h3; have k0_3 := h3.row.cell (j := 0) rfl; have k1_3 := h3.row.cell (j := 1) rfl; unfold lessV at k0_3; unfold swapV at k1_3; clear h3)
          go_loopw [10] (fun vj wr => ∃ j1 : Nat, vj = .int .i64 (j1 : Int) ∧ j1 ≤ j ∧ i1 ≤ j1 + 1 ∧ Hid (SB w0 g cap Bs B n dk wr ∧ scanDown (fun x => ltStr dk[a]! x) dk i1 j1 = scanDown (fun x => ltStr dk[a]! x) dk i1 j)) (fun vj _ => (intOf vj).toNat)
          case atStart => exact ⟨j, rfl, Nat.le_refl _, by omega, HS3.out, rfl⟩
          case round =>
            obtain ⟨j1, rfl, hj1j, hi1j1, HJ⟩ := hrel
            have u0 := HJ.out.1.row.cell (j := 0) rfl
            have u1 := HJ.out.1.row.cell (j := 1) rfl
            unfold lessV at u0
            unfold swapV at u1
            by_cases hle2 : i1 ≤ j1
            · have hle2i : (i1 : Int) ≤ (j1 : Int) := by omega
              cases v2 : ltStr dk[a]! dk[j1]! with
              | true =>
                have C2 := show Hid _ from fun W h => lessAt (w0 := w0) (g := g) (cap := cap) (Bs := Bs) (B := B) (n := n) (by omega) (by omega) v2 W h
                have V2 := show Hid _ from v2
                clear v2
                have HS5 := show Hid (SB _ _ _ _ _ _ _ _) from HJ.out.1
                go_wp2_with (go_at_fn 39; refine Calls.mono (C2.out wr HS5.out) ?_; rintro e w6 ⟨rfl, h6⟩; have HS6 := show Hid (SB _ _ _ _ _ _ _ _) from h6; have k0_6 := h6.row.cell (j := 0) rfl; have k1_6 := h6.row.cell (j := 1) rfl; unfold lessV at k0_6; unfold swapV at k1_6; clear h6)
                go_roundw
                case rel => exact ⟨j1 - 1, by go_num, by omega, by omega, HS6.out, by rw [← HJ.out.2]; exact (scanDown_go _ dk i1 j1 hle2 (by omega) V2.out).symm⟩
                case measure => simp [intOf]; omega
              | false =>
                have C2 := show Hid _ from fun W h => lessAt (w0 := w0) (g := g) (cap := cap) (Bs := Bs) (B := B) (n := n) (by omega) (by omega) v2 W h
                have V2 := show Hid _ from v2
                clear v2
                have HS5 := show Hid (SB _ _ _ _ _ _ _ _) from HJ.out.1
                have HDN : Hid (j1 = scanDown (fun x => ltStr dk[a]! x) dk i1 j) := by unfold Hid; rw [← HJ.out.2]; exact (scanDown_end _ dk i1 j1 (Or.inr V2.out)).symm
                have hlt12 : i1 < j1 := scans_lt ltStr a i j dk (by omega) HU.out HDN.out hle2
                have hgti : ¬ (j1 : Int) < (i1 : Int) := by omega
                have HGO : Hid (partEqLoop ltStr a i j dk = partEqLoop ltStr a (i1 + 1) (j1 - 1) (swp dk i1 j1)) := partEq_go ltStr a i j dk HU.out HDN.out (by omega)
                go_wp2_with (go_at_fn 39; refine Calls.mono (C2.out wr HS5.out) ?_; rintro e w6 ⟨rfl, h6⟩; have HS6 := show Hid (SB _ _ _ _ _ _ _ _) from h6; have k0_6 := h6.row.cell (j := 0) rfl; have k1_6 := h6.row.cell (j := 1) rfl; unfold lessV at k0_6; unfold swapV at k1_6; obtain ⟨w7, hsw6, h7⟩ := h6.swap (i := i1) (j := j1) (by omega) (by omega); have HS7 := show Hid (SB _ _ _ _ _ _ _ _) from h7; have k0_7 := h7.row.cell (j := 0) rfl; have k1_7 := h7.row.cell (j := 1) rfl; unfold lessV at k0_7; unfold swapV at k1_7; clear h7; clear h6)
                go_roundw
                case rel => exact ⟨i1 + 1, j1 - 1, swp dk i1 j1, by go_num, by go_num, by omega, by omega, by omega, HS7.out, by rw [← HGO.out]; exact HI.out.2⟩
                case measure => simp [intOf]; omega
            · have hle2i : ¬ (i1 : Int) ≤ (j1 : Int) := by omega
              have hgti : (j1 : Int) < (i1 : Int) := by omega
              have HDN : Hid (j1 = scanDown (fun x => ltStr dk[a]! x) dk i1 j) := by unfold Hid; rw [← HJ.out.2]; exact (scanDown_end _ dk i1 j1 (Or.inl hle2)).symm
              have HBR : Hid (partitionEqual ltStr d a b p = (i1, dk)) := by
                unfold Hid partitionEqual; rw [HE0.out, ← HI.out.2]; exact partEq_break ltStr a i j dk HU.out HDN.out (by omega)
              go_wp2
              go_ret
              rw [HBR.out]
              exact ⟨rfl, HJ.out.1.sw⟩
      · have hlei : ¬ (i1 : Int) ≤ (j : Int) := by omega
        have HU : Hid (i1 = scanUp (fun x => !ltStr dk[a]! x) dk j i) := by unfold Hid; rw [← HI1.out.2]; exact (scanUp_end _ dk j i1 (Or.inl hle)).symm
        go_wp2_with fail
        go_loopw [10] (fun vj wr => ∃ j1 : Nat, vj = .int .i64 (j1 : Int) ∧ j1 ≤ j ∧ i1 ≤ j1 + 1 ∧ Hid (SB w0 g cap Bs B n dk wr ∧ scanDown (fun x => ltStr dk[a]! x) dk i1 j1 = scanDown (fun x => ltStr dk[a]! x) dk i1 j)) (fun vj _ => (intOf vj).toNat)
        case atStart => exact ⟨j, rfl, Nat.le_refl _, by omega, HI1.out.1, rfl⟩
        case round =>
          obtain ⟨j1, rfl, hj1j, hi1j1, HJ⟩ := hrel
          have u0 := HJ.out.1.row.cell (j := 0) rfl
          have u1 := HJ.out.1.row.cell (j := 1) rfl
          unfold lessV at u0
          unfold swapV at u1
          by_cases hle2 : i1 ≤ j1
          · exact absurd hle2 (by omega)
          · have hle2i : ¬ (i1 : Int) ≤ (j1 : Int) := by omega
            have hgti : (j1 : Int) < (i1 : Int) := by omega
            have HDN : Hid (j1 = scanDown (fun x => ltStr dk[a]! x) dk i1 j) := by unfold Hid; rw [← HJ.out.2]; exact (scanDown_end _ dk i1 j1 (Or.inl hle2)).symm
            have HBR : Hid (partitionEqual ltStr d a b p = (i1, dk)) := by
              unfold Hid partitionEqual; rw [HE0.out, ← HI.out.2]; exact partEq_break ltStr a i j dk HU.out HDN.out (by omega)
            go_wp2
            go_ret
            rw [HBR.out]
            exact ⟨rfl, HJ.out.1.sw⟩

end Go.Proofs.Ytgcgblecendijaa
