/-
  hashes: Heap2 Part Pins (of its own seat, carried over).
-/
import Derived.Test.YtcmcapcagblafaaGreatQD
import Derived.Sort.WalkB3
import Derived.Sort.WalkC4
import Derived.Sort.WalkA6
namespace Go.Proofs.YtcmcapcagblafaaGreat
section
open Go.RowKit Go.Lib Go.Sort
/-- The sort's world, taken as its own beginning. -/
theorem SB.base {w0 : World} {g cap Bs B n : Nat} {d : Array Hs} {W : World} (h : SB w0 g cap Bs B n d W) : SW W g cap Bs d W :=
  ⟨h.sw.own, h.sw.box, h.sw.ne, ⟨rfl, rfl, rfl, Nat.le_refl _, fun _ _ _ => rfl⟩, h.sw.a32⟩
/-- Behind a call that sorts. -/
theorem SB.back {w0 : World} {g cap Bs B n : Nat} {d d' : Array Hs} {W W' : World} (h : SB w0 g cap Bs B n d W) (hs : d'.size = n) (h2 : SW W g cap Bs d' W') : SB w0 g cap Bs B n d' W' := by
  refine ⟨⟨h2.own, h2.box, h2.ne, ?_, h2.a32⟩, hs, h.gB, ?_⟩
  · have h1 := h.sw.grow
    have h3 := h2.grow
    exact ⟨h3.os.trans h1.os, h3.tape.trans h1.tape, h3.output.trans h1.output, Nat.le_trans h1.size h3.size, fun k hk hne => (h3.block k (Nat.lt_of_lt_of_le hk h1.size) hne).trans (h1.block k hk hne)⟩
  · unfold RowIs
    rw [h2.grow.block B h.row.lt (by simpa using Ne.symm h.gB)]
    exact h.row
theorem SB.data' {w0 : World} {g cap Bs B n : Nat} {d : Array Hs} {W : World} (h : SB w0 g cap Bs B n d W) : W.heap[B]? = some (.cells #[.func (.func 49) #[] #[.pointer (some ⟨Bs, 0, none⟩)], .func (.func 80) #[] #[.slice (some ⟨g, 0, none⟩) n cap, typeHandle Tryz.prog 40]] 105 (0, 0)) := h.row
theorem sift_back {w0 : World} {g cap Bs B n : Nat} {d : Array Hs} {W : World} (h : SB w0 g cap Bs B n d W) (lo hi first : Nat) (hlo : lo ≤ hi) (hb : first + hi ≤ n) (hsz : n < 1152921504606846976) :
    Calls Tryz.prog 96 #[.agg #[.func (.func 49) #[] #[.pointer (some ⟨Bs, 0, none⟩)], .func (.func 80) #[] #[.slice (some ⟨g, 0, none⟩) n cap, typeHandle Tryz.prog 40]], .int .i64 (lo : Int), .int .i64 (hi : Int), .int .i64 (first : Int)] W fun e w' => e = .returned (.tuple #[]) ∧ SB w0 g cap Bs B n (siftDown ltStr hi first lo d) w' :=
  (sift87 h.base h.sz lo hi first hlo hb hsz).mono (fun _ _ ⟨he, h2⟩ => ⟨he, h.back (by rw [size_siftDown ltStr hi first (hi - lo) lo d (Nat.le_refl _)]; exact h.sz) h2⟩)

set_option maxRecDepth 100000 in
set_option maxHeartbeats 6400000 in
theorem heap78 {w0 : World} {g cap Bs n : Nat} {d : Array Hs} {w : World} (h : SW w0 g cap Bs d w) (hn : d.size = n) (a b : Nat) (hab : a ≤ b) (hb : b ≤ n) (hsz : n < 1152921504606846976) :
    Calls Tryz.prog 84 #[.agg #[lessV Bs, swapV (typeHandle Tryz.prog 40) g cap n], .int .i64 (a : Int), .int .i64 (b : Int)] w fun e w' => e = .returned (.tuple #[]) ∧ SW w0 g cap Bs (heapSort ltStr d a b) w' := by
  obtain ⟨m, hm⟩ : ∃ m, b - a = m := ⟨_, rfl⟩
  have hmi : (b : Int) - (a : Int) = (m : Int) := by omega
  have ham : a + m ≤ n := by omega
  have HM : Hid (b - a = m) := hm
  obtain ⟨q, hq⟩ : ∃ q : Nat, (m - 1) / 2 = q := ⟨_, rfl⟩
  have hqi : ((m : Int) - 1).tdiv 2 = (q : Int) := by
    rcases Nat.eq_zero_or_pos m with e | e
    · subst e; subst hq; rfl
    · rw [Int.tdiv_eq_ediv_of_nonneg (by omega)]; omega
  have hqm : q ≤ m := by omega
  have HQ : Hid ((m - 1) / 2 = q) := hq
  have HS94 : Hid ((Tryz.prog.info? 105).map (·.size) = some 2) := by unfold Hid; kernel_rfl
  clear hm hq
  have HS0 := show Hid (SB _ _ _ _ _ _ _ _) from SB.start h hn
  obtain ⟨B, hB⟩ : ∃ B, w.heap.size = B := ⟨_, rfl⟩
  have e51 : ∀ args w, (callFunc 49 args).run Tryz.prog w = .ok (.enter 49 args) w := enters_of Tryz.func49 (by kernel_rfl) rfl
  clear h hn
  unfold lessV swapV at HS0 ⊢
  go_enter Tryz.func84, Tryz.ntmps84
  go_wp2_with fail
  rw [hB] at HS0
  obtain ⟨w1, hw1⟩ : ∃ w1, w.alloc (.cells #[.func (.func 49) #[] #[.pointer (some ⟨Bs, 0, none⟩)], .func (.func 80) #[] #[.slice (some ⟨g, 0, none⟩) n cap, typeHandle Tryz.prog 40]] 105) = w1 := ⟨_, rfl⟩
  rw [hw1] at HS0 ⊢
  clear hw1 hB
  clear hmi hqi
  go_loopw [9] (fun v wr => ∃ (k : Nat) (z : Int) (dk : Array Hs), v = .int .i64 z ∧ z = (k : Int) - 1 ∧ k ≤ q + 1 ∧ Hid (SB w0 g cap Bs B n dk wr ∧ heapBuild ltStr m a k dk = heapBuild ltStr m a (q + 1) d)) (fun v _ => (intOf v + 1).toNat)
  case atStart => exact ⟨q + 1, (q : Int), d, rfl, by omega, Nat.le_refl _, HS0.out, rfl⟩
  case round =>
    obtain ⟨k, z, dk, rfl, hz, hkq, HI⟩ := hrel
    cases k with
    | zero =>
      obtain rfl : z = -1 := by omega
      clear hz
      have HB1 : Hid (SB w0 g cap Bs B n (heapBuild ltStr m a (q + 1) d) wr) := by have h1 := HI.out.1; have h2 := HI.out.2; unfold heapBuild at h2; rw [h2] at h1; exact h1
      obtain ⟨e0, he0⟩ : ∃ e0, heapBuild ltStr m a (q + 1) d = e0 := ⟨_, rfl⟩
      have HE0 : Hid (heapBuild ltStr m a (q + 1) d = e0) := he0
      rw [he0] at HB1
      clear he0
      clear HI
      go_wp2_with fail
      go_loopw [10] (fun v wr => ∃ (k : Nat) (z : Int) (dk : Array Hs), v = .int .i64 z ∧ z = (k : Int) - 1 ∧ k ≤ m ∧ Hid (SB w0 g cap Bs B n dk wr ∧ heapPop ltStr a k dk = heapPop ltStr a m e0)) (fun v _ => (intOf v + 1).toNat)
      case atStart => exact ⟨m, (m : Int) - 1, e0, by go_num, rfl, Nat.le_refl _, HB1.out, rfl⟩
      case round =>
        obtain ⟨k, z, dk, rfl, hz, hkm, HI⟩ := hrel
        cases k with
        | zero =>
          obtain rfl : z = -1 := by omega
          clear hz
          go_wp2
          go_end0
          have h1 := HI.out.1
          have h2 : dk = heapPop ltStr a m e0 := HI.out.2
          unfold heapSort
          rw [HM.out, HQ.out, HE0.out, ← h2]
          exact ⟨rfl, h1.sw⟩
        | succ k =>
          obtain rfl : z = (k : Int) := by omega
          clear hz
          have hz0 : (0 : Int) ≤ (k : Int) := by omega
          obtain ⟨f, hf⟩ : ∃ f, a + k = f := ⟨_, rfl⟩
          have hfi : (a : Int) + (k : Int) = (f : Int) := by omega
          have HF : Hid (a + k = f) := hf
          obtain ⟨w3, hsw, h3⟩ := HI.out.1.swap (i := a) (j := f) (by omega) (by omega)
          have HS3 := show Hid (SB _ _ _ _ _ _ _ _) from h3
          have HD := show Hid _ from h3.data'
          have r0 := HI.out.1.row.cell (j := 0) rfl
          have r1 := HI.out.1.row.cell (j := 1) rfl
          unfold lessV at r0
          unfold swapV at r1
          clear h3 hf
          go_wp2_with (first
            | (refine wpList_load_row rfl 105 (.tmp 3) rfl B rfl 105 _ (0, 0) _ HD.out Tryz.underlying105 rfl HS94.out ?_)
            | (go_at_call 96; refine Calls.mono (sift_back HS3.out 0 k a (by omega) (by omega) hsz) ?_; rintro e w4 ⟨rfl, h4⟩; have HS4 := show Hid (SB _ _ _ _ _ _ _ _) from h4; clear h4))
          go_roundw
          case rel => exact ⟨k, (k : Int) - 1, siftDown ltStr k a 0 (swp dk a f), by go_num, rfl, by omega, HS4.out, by rw [← HI.out.2, ← HF.out]; rfl⟩
          case measure => simp [intOf]
    | succ k =>
      obtain rfl : z = (k : Int) := by omega
      clear hz
      have hz0 : (0 : Int) ≤ (k : Int) := by omega
      have HD := show Hid _ from HI.out.1.data'
      go_wp2_with (first
        | (refine wpList_load_row rfl 105 (.tmp 3) rfl B rfl 105 _ (0, 0) _ HD.out Tryz.underlying105 rfl HS94.out ?_)
        | (go_at_call 96; refine Calls.mono (sift_back HI.out.1 k m a (by omega) ham hsz) ?_; rintro e w2 ⟨rfl, h2⟩; have HS2 := show Hid (SB _ _ _ _ _ _ _ _) from h2; clear h2))
      go_roundw
      case rel => exact ⟨k, (k : Int) - 1, siftDown ltStr m a k dk, by go_num, rfl, by omega, HS2.out, by rw [← HI.out.2]; rfl⟩
      case measure => simp [intOf]
end
section
open Go.RowKit Go.Lib Go.Sort

set_option maxRecDepth 100000 in
set_option maxHeartbeats 6400000 in
theorem peq83 {w0 : World} {g cap Bs n : Nat} {d : Array Hs} {w : World} (h : SW w0 g cap Bs d w) (hn : d.size = n) (a b p : Nat) (hap : a ≤ p) (hpb : p < b) (hb : b ≤ n) (hsz : n < 1152921504606846976) :
    Calls Tryz.prog 89 #[.agg #[lessV Bs, swapV (typeHandle Tryz.prog 40) g cap n], .int .i64 (a : Int), .int .i64 (b : Int), .int .i64 (p : Int)] w fun e w' => e = .returned (.int .i64 ((partitionEqual ltStr d a b p).1 : Int)) ∧ SW w0 g cap Bs (partitionEqual ltStr d a b p).2 w' := by
  have HS0 := show Hid (SB _ _ _ _ _ _ _ _) from SB.start h hn
  obtain ⟨B, hB⟩ : ∃ B, w.heap.size = B := ⟨_, rfl⟩
  have e51 : ∀ args w, (callFunc 49 args).run Tryz.prog w = .ok (.enter 49 args) w := enters_of Tryz.func49 (by kernel_rfl) rfl
  clear h hn
  unfold lessV swapV at HS0 ⊢
  obtain ⟨w2, hsw0, h2⟩ := HS0.out.swap (i := a) (j := p) (by omega) (by omega)
  have HS2 := show Hid (SB _ _ _ _ _ _ _ _) from h2
  clear h2 HS0
  go_enter Tryz.func89, Tryz.ntmps89
  go_wp2_with fail
  rw [hB] at HS2
  try rw [hB]
  clear hsw0 hB
  obtain ⟨e0, he0⟩ : ∃ e0, swp d a p = e0 := ⟨_, rfl⟩
  have HE0 : Hid (swp d a p = e0) := he0
  rw [he0] at HS2
  clear he0
  go_loopw [9, 10] (fun vi vj wr => ∃ (i j : Nat) (dk : Array Hs), vi = .int .i64 (i : Int) ∧ vj = .int .i64 (j : Int) ∧ a < i ∧ i ≤ j + 1 ∧ j < b ∧ Hid (SB w0 g cap Bs B n dk wr ∧ partEqLoop ltStr a i j dk = partEqLoop ltStr a (a + 1) (b - 1) e0)) (fun vi vj _ => (intOf vj).toNat + 1 - (intOf vi).toNat)
  case atStart => exact ⟨a + 1, b - 1, e0, by go_num, by go_num, by omega, by omega, by omega, HS2.out, rfl⟩
  case round =>
    obtain ⟨i, j, dk, rfl, rfl, hai, hij, hjb, HI⟩ := hrel
    obtain ⟨wa, rfl⟩ : ∃ wa, wa = wr := ⟨_, rfl⟩
    go_wp2_with fail
    go_loopw [9] (fun vi wr => ∃ i1 : Nat, vi = .int .i64 (i1 : Int) ∧ i ≤ i1 ∧ i1 ≤ j + 1 ∧ Hid (SB w0 g cap Bs B n dk wr ∧ scanUp (fun x => !ltStr dk[a]! x) dk j i1 = scanUp (fun x => !ltStr dk[a]! x) dk j i)) (fun vi _ => j + 1 - (intOf vi).toNat)
    case atStart => exact ⟨i, rfl, Nat.le_refl _, hij, HI.out.1, rfl⟩
    case round =>
      obtain ⟨i1, rfl, hii1, hi1j, HI1⟩ := hrel
      have r0 := HI1.out.1.row.cell (j := 0) rfl
      have r1 := HI1.out.1.row.cell (j := 1) rfl
      unfold lessV at r0
      unfold swapV at r1
      by_cases hle : i1 ≤ j
      · have hlei : (i1 : Int) ≤ (j : Int) := by omega
        cases v1 : ltStr dk[a]! dk[i1]! with
        | false =>
          have C1 := show Hid _ from fun W h => lessAt (w0 := w0) (g := g) (cap := cap) (Bs := Bs) (B := B) (n := n) (by omega) (by omega) v1 W h
          have V1 := show Hid _ from v1
          clear v1
          have HS1 := show Hid (SB _ _ _ _ _ _ _ _) from HI1.out.1
          go_wp2_with (go_at_fn 49; refine Calls.mono (C1.out wr HS1.out) ?_; rintro e w3 ⟨rfl, h3⟩; have HS3 := show Hid (SB _ _ _ _ _ _ _ _) from h3; have k0_3 := h3.row.cell (j := 0) rfl; have k1_3 := h3.row.cell (j := 1) rfl; unfold lessV at k0_3; unfold swapV at k1_3; clear h3)
          go_roundw
          case rel => exact ⟨i1 + 1, by go_num, by omega, by omega, HS3.out, by rw [← HI1.out.2]; exact (scanUp_go _ dk j i1 hle (by simp [V1.out])).symm⟩
          case measure => simp [intOf]; omega
        | true =>
          have C1 := show Hid _ from fun W h => lessAt (w0 := w0) (g := g) (cap := cap) (Bs := Bs) (B := B) (n := n) (by omega) (by omega) v1 W h
          have V1 := show Hid _ from v1
          clear v1
          have HS1 := show Hid (SB _ _ _ _ _ _ _ _) from HI1.out.1
          have HU : Hid (i1 = scanUp (fun x => !ltStr dk[a]! x) dk j i) := by unfold Hid; rw [← HI1.out.2]; exact (scanUp_end _ dk j i1 (Or.inr (by simp [V1.out]))).symm
          go_wp2_with (go_at_fn 49; refine Calls.mono (C1.out wr HS1.out) ?_; rintro e w3 ⟨rfl, h3⟩; have HS3 := show Hid (SB _ _ _ _ _ _ _ _) from h3; have k0_3 := h3.row.cell (j := 0) rfl; have k1_3 := h3.row.cell (j := 1) rfl; unfold lessV at k0_3; unfold swapV at k1_3; clear h3)
          go_loopw [10] (fun vj wr => ∃ j1 : Nat, vj = .int .i64 (j1 : Int) ∧ j1 ≤ j ∧ i1 ≤ j1 + 1 ∧ Hid (SB w0 g cap Bs B n dk wr ∧ scanDown (fun x => ltStr dk[a]! x) dk i1 j1 = scanDown (fun x => ltStr dk[a]! x) dk i1 j)) (fun vj _ => (intOf vj).toNat)
          case atStart => exact ⟨j, rfl, Nat.le_refl _, by omega, HS3.out, rfl⟩
          case round =>
            obtain ⟨j1, rfl, hj1j, hi1j1, HJ⟩ := hrel
            have u0 := HJ.out.1.row.cell (j := 0) rfl
            have u1 := HJ.out.1.row.cell (j := 1) rfl
            unfold lessV at u0
            unfold swapV at u1
            by_cases hle2 : i1 ≤ j1
            · have hle2i : (i1 : Int) ≤ (j1 : Int) := by omega
              cases v2 : ltStr dk[a]! dk[j1]! with
              | true =>
                have C2 := show Hid _ from fun W h => lessAt (w0 := w0) (g := g) (cap := cap) (Bs := Bs) (B := B) (n := n) (by omega) (by omega) v2 W h
                have V2 := show Hid _ from v2
                clear v2
                have HS5 := show Hid (SB _ _ _ _ _ _ _ _) from HJ.out.1
                go_wp2_with (go_at_fn 49; refine Calls.mono (C2.out wr HS5.out) ?_; rintro e w6 ⟨rfl, h6⟩; have HS6 := show Hid (SB _ _ _ _ _ _ _ _) from h6; have k0_6 := h6.row.cell (j := 0) rfl; have k1_6 := h6.row.cell (j := 1) rfl; unfold lessV at k0_6; unfold swapV at k1_6; clear h6)
                go_roundw
                case rel => exact ⟨j1 - 1, by go_num, by omega, by omega, HS6.out, by rw [← HJ.out.2]; exact (scanDown_go _ dk i1 j1 hle2 (by omega) V2.out).symm⟩
                case measure => simp [intOf]; omega
              | false =>
                have C2 := show Hid _ from fun W h => lessAt (w0 := w0) (g := g) (cap := cap) (Bs := Bs) (B := B) (n := n) (by omega) (by omega) v2 W h
                have V2 := show Hid _ from v2
                clear v2
                have HS5 := show Hid (SB _ _ _ _ _ _ _ _) from HJ.out.1
                have HDN : Hid (j1 = scanDown (fun x => ltStr dk[a]! x) dk i1 j) := by unfold Hid; rw [← HJ.out.2]; exact (scanDown_end _ dk i1 j1 (Or.inr V2.out)).symm
                have hlt12 : i1 < j1 := scans_lt ltStr a i j dk (by omega) HU.out HDN.out hle2
                have hgti : ¬ (j1 : Int) < (i1 : Int) := by omega
                have HGO : Hid (partEqLoop ltStr a i j dk = partEqLoop ltStr a (i1 + 1) (j1 - 1) (swp dk i1 j1)) := partEq_go ltStr a i j dk HU.out HDN.out (by omega)
                go_wp2_with (go_at_fn 49; refine Calls.mono (C2.out wr HS5.out) ?_; rintro e w6 ⟨rfl, h6⟩; have HS6 := show Hid (SB _ _ _ _ _ _ _ _) from h6; have k0_6 := h6.row.cell (j := 0) rfl; have k1_6 := h6.row.cell (j := 1) rfl; unfold lessV at k0_6; unfold swapV at k1_6; obtain ⟨w7, hsw6, h7⟩ := h6.swap (i := i1) (j := j1) (by omega) (by omega); have HS7 := show Hid (SB _ _ _ _ _ _ _ _) from h7; have k0_7 := h7.row.cell (j := 0) rfl; have k1_7 := h7.row.cell (j := 1) rfl; unfold lessV at k0_7; unfold swapV at k1_7; clear h7; clear h6)
                go_roundw
                case rel => exact ⟨i1 + 1, j1 - 1, swp dk i1 j1, by go_num, by go_num, by omega, by omega, by omega, HS7.out, by rw [← HGO.out]; exact HI.out.2⟩
                case measure => simp [intOf]; omega
            · have hle2i : ¬ (i1 : Int) ≤ (j1 : Int) := by omega
              have hgti : (j1 : Int) < (i1 : Int) := by omega
              have HDN : Hid (j1 = scanDown (fun x => ltStr dk[a]! x) dk i1 j) := by unfold Hid; rw [← HJ.out.2]; exact (scanDown_end _ dk i1 j1 (Or.inl hle2)).symm
              have HBR : Hid (partitionEqual ltStr d a b p = (i1, dk)) := by
                unfold Hid partitionEqual; rw [HE0.out, ← HI.out.2]; exact partEq_break ltStr a i j dk HU.out HDN.out (by omega)
              go_wp2
              go_ret
              rw [HBR.out]
              exact ⟨rfl, HJ.out.1.sw⟩
      · have hlei : ¬ (i1 : Int) ≤ (j : Int) := by omega
        have HU : Hid (i1 = scanUp (fun x => !ltStr dk[a]! x) dk j i) := by unfold Hid; rw [← HI1.out.2]; exact (scanUp_end _ dk j i1 (Or.inl hle)).symm
        go_wp2_with fail
        go_loopw [10] (fun vj wr => ∃ j1 : Nat, vj = .int .i64 (j1 : Int) ∧ j1 ≤ j ∧ i1 ≤ j1 + 1 ∧ Hid (SB w0 g cap Bs B n dk wr ∧ scanDown (fun x => ltStr dk[a]! x) dk i1 j1 = scanDown (fun x => ltStr dk[a]! x) dk i1 j)) (fun vj _ => (intOf vj).toNat)
        case atStart => exact ⟨j, rfl, Nat.le_refl _, by omega, HI1.out.1, rfl⟩
        case round =>
          obtain ⟨j1, rfl, hj1j, hi1j1, HJ⟩ := hrel
          have u0 := HJ.out.1.row.cell (j := 0) rfl
          have u1 := HJ.out.1.row.cell (j := 1) rfl
          unfold lessV at u0
          unfold swapV at u1
          by_cases hle2 : i1 ≤ j1
          · exact absurd hle2 (by omega)
          · have hle2i : ¬ (i1 : Int) ≤ (j1 : Int) := by omega
            have hgti : (j1 : Int) < (i1 : Int) := by omega
            have HDN : Hid (j1 = scanDown (fun x => ltStr dk[a]! x) dk i1 j) := by unfold Hid; rw [← HJ.out.2]; exact (scanDown_end _ dk i1 j1 (Or.inl hle2)).symm
            have HBR : Hid (partitionEqual ltStr d a b p = (i1, dk)) := by
              unfold Hid partitionEqual; rw [HE0.out, ← HI.out.2]; exact partEq_break ltStr a i j dk HU.out HDN.out (by omega)
            go_wp2
            go_ret
            rw [HBR.out]
            exact ⟨rfl, HJ.out.1.sw⟩
end
section
open Go.RowKit Go.Lib Go.Sort
theorem lessP {w0 : World} {g cap Bs B n : Nat} {dk : Array Hs} {j : Nat} {v : Bool} (h1 : 1 ≤ j) (hj : j < n) (hv : ltStr dk[j]! dk[j - 1]! = v) (W : World) (h : SB w0 g cap Bs B n dk W) :
    Calls Tryz.prog 49 #[.int .i64 (j : Int), .int .i64 ((j : Int) - 1), .pointer (some ⟨Bs, 0, none⟩)] W fun e w' => e = .returned (.bool v) ∧ SB w0 g cap Bs B n dk w' := by
  have := lessAt (i := j) (j := j - 1) hj (by omega) hv W h
  rw [show ((j - 1 : Nat) : Int) = (j : Int) - 1 by omega] at this
  exact this
theorem SB.swapP {w0 : World} {g cap Bs B n : Nat} {d : Array Hs} {W : World} (h : SB w0 g cap Bs B n d W) {j : Nat} (h1 : 1 ≤ j) (hj : j < n) :
    ∃ W', (callFunc 80 #[.int .i64 (j : Int), .int .i64 ((j : Int) - 1), .slice (some ⟨g, 0, none⟩) n cap, typeHandle Tryz.prog 40]).run Tryz.prog W = .ok (.value (.tuple #[])) W' ∧ SB w0 g cap Bs B n (swp d j (j - 1)) W' := by
  have := h.swap (i := j) (j := j - 1) hj (by omega)
  rw [show ((j - 1 : Nat) : Int) = (j : Int) - 1 by omega] at this
  exact this

set_option maxRecDepth 100000 in
set_option maxHeartbeats 6400000 in
theorem pins82 {w0 : World} {g cap Bs n : Nat} {d : Array Hs} {w : World} (h : SW w0 g cap Bs d w) (hn : d.size = n) (a b : Nat) (hab : a < b) (hb : b ≤ n) (hsz : n < 1152921504606846976) :
    Calls Tryz.prog 88 #[.agg #[lessV Bs, swapV (typeHandle Tryz.prog 40) g cap n], .int .i64 (a : Int), .int .i64 (b : Int)] w fun e w' => e = .returned (.bool (partialInsertionSort ltStr d a b).2) ∧ SW w0 g cap Bs (partialInsertionSort ltStr d a b).1 w' := by
  have HS0 := show Hid (SB _ _ _ _ _ _ _ _) from SB.start h hn
  obtain ⟨B, hB⟩ : ∃ B, w.heap.size = B := ⟨_, rfl⟩
  have e51 : ∀ args w, (callFunc 49 args).run Tryz.prog w = .ok (.enter 49 args) w := enters_of Tryz.func49 (by kernel_rfl) rfl
  clear h hn
  unfold lessV swapV at HS0 ⊢
  go_enter Tryz.func88, Tryz.ntmps88
  go_wp2_with fail
  rw [hB] at HS0
  obtain ⟨w1, hw1⟩ : ∃ w1, w.alloc (.cells #[.func (.func 49) #[] #[.pointer (some ⟨Bs, 0, none⟩)], .func (.func 80) #[] #[.slice (some ⟨g, 0, none⟩) n cap, typeHandle Tryz.prog 40]] 105) = w1 := ⟨_, rfl⟩
  rw [hw1] at HS0 ⊢
  clear hw1 hB
  go_loopw [7, 8] (fun vi vs wr => ∃ (i s : Nat) (dk : Array Hs), vi = .int .i64 (i : Int) ∧ vs = .int .i64 (s : Int) ∧ s ≤ 5 ∧ a < i ∧ i ≤ b ∧ Hid (SB w0 g cap Bs B n dk wr ∧ partialIns ltStr a b (5 - s) i dk = partialIns ltStr a b 5 (a + 1) d)) (fun _ vs _ => 5 - (intOf vs).toNat)
  case atStart => exact ⟨a + 1, 0, d, by go_num, rfl, by omega, by omega, by omega, HS0.out, rfl⟩
  case round =>
    obtain ⟨i, s, dk, rfl, rfl, hs5, hai, hib, HO⟩ := hrel
    by_cases hs : s < 5
    · have hs5z : (s : Int) < 5 := by omega
      go_wp2_with fail
      go_loopw [7] (fun vi wr => ∃ k : Nat, vi = .int .i64 (k : Int) ∧ i ≤ k ∧ k ≤ b ∧ Hid (SB w0 g cap Bs B n dk wr ∧ scanSorted ltStr dk b k = scanSorted ltStr dk b i)) (fun vi _ => b - (intOf vi).toNat)
      case atStart => exact ⟨i, rfl, Nat.le_refl _, hib, HO.out.1, rfl⟩
      case round =>
        obtain ⟨k, rfl, hik, hkb, HSc⟩ := hrel
        have r0 := HSc.out.1.row.cell (j := 0) rfl
        have r1 := HSc.out.1.row.cell (j := 1) rfl
        unfold lessV at r0
        unfold swapV at r1
        by_cases hkb' : k < b
        · have hkz : (k : Int) < (b : Int) := by omega
          cases v1 : ltStr dk[k]! dk[k - 1]! with
          | false =>
            have C1 := show Hid _ from fun W h => lessP (w0 := w0) (g := g) (cap := cap) (Bs := Bs) (B := B) (n := n) (j := k) (by omega) (by omega) v1 W h
            have V1 := show Hid _ from v1
            clear v1
            have HS1 := show Hid (SB _ _ _ _ _ _ _ _) from HSc.out.1
            go_wp2_with (go_at_fn 49; refine Calls.mono (C1.out wr HS1.out) ?_; rintro e w3 ⟨rfl, h3⟩; have HS3 := show Hid (SB _ _ _ _ _ _ _ _) from h3; have k0_3 := h3.row.cell (j := 0) rfl; have k1_3 := h3.row.cell (j := 1) rfl; unfold lessV at k0_3; unfold swapV at k1_3; clear h3)
            go_roundw
            case rel => exact ⟨k + 1, by go_num, by omega, by omega, HS3.out, by rw [← HSc.out.2, scanSorted_go ltStr dk b k hkb' V1.out]⟩
            case measure => simp [intOf]; omega
          | true =>
            have C1 := show Hid _ from fun W h => lessP (w0 := w0) (g := g) (cap := cap) (Bs := Bs) (B := B) (n := n) (j := k) (by omega) (by omega) v1 W h
            have V1 := show Hid _ from v1
            clear v1
            have HS1 := show Hid (SB _ _ _ _ _ _ _ _) from HSc.out.1
            have HK : Hid (scanSorted ltStr dk b i = k) := by unfold Hid; rw [← HSc.out.2, scanSorted_stop ltStr dk b k (Or.inr V1.out)]
            have hkne : ((k : Int) == (b : Int)) = false := beq_eq_false_iff_ne.2 (by omega)
            by_cases h50 : b - a < 50
            · have h50z : (b : Int) - (a : Int) < 50 := by omega
              have HV : Hid (partialInsertionSort ltStr d a b = (dk, false)) := by
                unfold Hid partialInsertionSort; rw [← HO.out.2, pi_short ltStr a b s i dk hs (by rw [HK.out]; omega) h50]
              go_wp2_with (go_at_fn 49; refine Calls.mono (C1.out wr HS1.out) ?_; rintro e w3 ⟨rfl, h3⟩; have HS3 := show Hid (SB _ _ _ _ _ _ _ _) from h3; have k0_3 := h3.row.cell (j := 0) rfl; have k1_3 := h3.row.cell (j := 1) rfl; unfold lessV at k0_3; unfold swapV at k1_3; clear h3)
              go_ret
              rw [HV.out]
              exact ⟨rfl, HS3.out.sw⟩
            · have h50z : ¬ ((b : Int) - (a : Int) < 50) := by omega
              by_cases hka : k - a ≥ 2
              · have hkaz : (2 : Int) ≤ (k : Int) - (a : Int) := by omega
                go_wp2_with (go_at_fn 49; refine Calls.mono (C1.out wr HS1.out) ?_; rintro e w3 ⟨rfl, h3⟩; have HS3 := show Hid (SB _ _ _ _ _ _ _ _) from h3; have k0_3 := h3.row.cell (j := 0) rfl; have k1_3 := h3.row.cell (j := 1) rfl; unfold lessV at k0_3; unfold swapV at k1_3; obtain ⟨w4, hsw3, h4⟩ := h3.swapP (j := k) (by omega) (by omega); have HS4 := show Hid (SB _ _ _ _ _ _ _ _) from h4; have k0_4 := h4.row.cell (j := 0) rfl; have k1_4 := h4.row.cell (j := 1) rfl; unfold lessV at k0_4; unfold swapV at k1_4; clear h4; clear h3)
                go_loopw [9] (fun vj wr => ∃ (j : Nat) (dj : Array Hs), vj = .int .i64 (j : Int) ∧ j ≤ k - 1 ∧ Hid (SB w0 g cap Bs B n dj wr ∧ shiftDown ltStr j dj = shiftDown ltStr (k - 1) (swp dk k (k - 1)))) (fun vj _ => (intOf vj).toNat)
                case atStart => exact ⟨k - 1, swp dk k (k - 1), by congr 1; omega, Nat.le_refl _, HS4.out, rfl⟩
                case round =>
                  obtain ⟨j, dj, rfl, hjk, HDn⟩ := hrel
                  have q0 := HDn.out.1.row.cell (j := 0) rfl
                  have q1 := HDn.out.1.row.cell (j := 1) rfl
                  unfold lessV at q0
                  unfold swapV at q1
                  by_cases hj1 : 1 ≤ j
                  · have hj1z : (1 : Int) ≤ (j : Int) := by omega
                    cases v2 : ltStr dj[j]! dj[j - 1]! with
                    | true =>
                      have C2 := show Hid _ from fun W h => lessP (w0 := w0) (g := g) (cap := cap) (Bs := Bs) (B := B) (n := n) (j := j) (by omega) (by omega) v2 W h
                      have V2 := show Hid _ from v2
                      clear v2
                      have HS10 := show Hid (SB _ _ _ _ _ _ _ _) from HDn.out.1
                      go_wp2_with (go_at_fn 49; refine Calls.mono (C2.out wr HS10.out) ?_; rintro e w11 ⟨rfl, h11⟩; have HS11 := show Hid (SB _ _ _ _ _ _ _ _) from h11; have k0_11 := h11.row.cell (j := 0) rfl; have k1_11 := h11.row.cell (j := 1) rfl; unfold lessV at k0_11; unfold swapV at k1_11; obtain ⟨w12, hsw11, h12⟩ := h11.swapP (j := j) (by omega) (by omega); have HS12 := show Hid (SB _ _ _ _ _ _ _ _) from h12; have k0_12 := h12.row.cell (j := 0) rfl; have k1_12 := h12.row.cell (j := 1) rfl; unfold lessV at k0_12; unfold swapV at k1_12; clear h12; clear h11)
                      go_roundw
                      case rel => exact ⟨j - 1, swp dj j (j - 1), by congr 1; omega, by omega, HS12.out, by rw [← HDn.out.2, shiftDown_go ltStr j dj hj1 V2.out]⟩
                      case measure => simp [intOf]; omega
                    | false =>
                      have C2 := show Hid _ from fun W h => lessP (w0 := w0) (g := g) (cap := cap) (Bs := Bs) (B := B) (n := n) (j := j) (by omega) (by omega) v2 W h
                      have V2 := show Hid _ from v2
                      clear v2
                      have HS10 := show Hid (SB _ _ _ _ _ _ _ _) from HDn.out.1
                      have HD : Hid (fixDown ltStr a k (swp dk k (k - 1)) = dj) := by unfold Hid fixDown; rw [if_pos hka, ← HDn.out.2, shiftDown_stop ltStr j dj (Or.inr V2.out)]
                      by_cases hbk : b - k ≥ 2
                      · have hbkz : (2 : Int) ≤ (b : Int) - (k : Int) := by omega
                        go_wp2_with (go_at_fn 49; refine Calls.mono (C2.out wr HS10.out) ?_; rintro e w11 ⟨rfl, h11⟩; have HS11 := show Hid (SB _ _ _ _ _ _ _ _) from h11; have k0_11 := h11.row.cell (j := 0) rfl; have k1_11 := h11.row.cell (j := 1) rfl; unfold lessV at k0_11; unfold swapV at k1_11; clear h11)
                        go_loopw [10] (fun vj wr => ∃ (ju : Nat) (du : Array Hs), vj = .int .i64 (ju : Int) ∧ k + 1 ≤ ju ∧ ju ≤ b ∧ Hid (SB w0 g cap Bs B n du wr ∧ shiftUp ltStr b ju du = shiftUp ltStr b (k + 1) dj)) (fun vj _ => b - (intOf vj).toNat)
                        case atStart => exact ⟨k + 1, dj, by go_num, Nat.le_refl _, by omega, HS11.out, rfl⟩
                        case round =>
                          obtain ⟨ju, du, rfl, hkj, hjb, HU⟩ := hrel
                          have p0 := HU.out.1.row.cell (j := 0) rfl
                          have p1 := HU.out.1.row.cell (j := 1) rfl
                          unfold lessV at p0
                          unfold swapV at p1
                          by_cases hjb' : ju < b
                          · have hjz : (ju : Int) < (b : Int) := by omega
                            cases v3 : ltStr du[ju]! du[ju - 1]! with
                            | true =>
                              have C3 := show Hid _ from fun W h => lessP (w0 := w0) (g := g) (cap := cap) (Bs := Bs) (B := B) (n := n) (j := ju) (by omega) (by omega) v3 W h
                              have V3 := show Hid _ from v3
                              clear v3
                              have HS20 := show Hid (SB _ _ _ _ _ _ _ _) from HU.out.1
                              go_wp2_with (go_at_fn 49; refine Calls.mono (C3.out wr HS20.out) ?_; rintro e w21 ⟨rfl, h21⟩; have HS21 := show Hid (SB _ _ _ _ _ _ _ _) from h21; have k0_21 := h21.row.cell (j := 0) rfl; have k1_21 := h21.row.cell (j := 1) rfl; unfold lessV at k0_21; unfold swapV at k1_21; obtain ⟨w22, hsw21, h22⟩ := h21.swapP (j := ju) (by omega) (by omega); have HS22 := show Hid (SB _ _ _ _ _ _ _ _) from h22; have k0_22 := h22.row.cell (j := 0) rfl; have k1_22 := h22.row.cell (j := 1) rfl; unfold lessV at k0_22; unfold swapV at k1_22; clear h22; clear h21)
                              go_roundw
                              case rel => exact ⟨ju + 1, swp du ju (ju - 1), by go_num, by omega, by omega, HS22.out, by rw [← HU.out.2, shiftUp_go ltStr b ju du hjb' V3.out]⟩
                              case measure => simp [intOf]; omega
                            | false =>
                              have C3 := show Hid _ from fun W h => lessP (w0 := w0) (g := g) (cap := cap) (Bs := Bs) (B := B) (n := n) (j := ju) (by omega) (by omega) v3 W h
                              have V3 := show Hid _ from v3
                              clear v3
                              have HS20 := show Hid (SB _ _ _ _ _ _ _ _) from HU.out.1
                              have HF : Hid (fixUp ltStr b k dj = du) := by unfold Hid fixUp; rw [if_pos hbk, ← HU.out.2, shiftUp_stop ltStr b ju du (Or.inr V3.out)]
                              go_wp2_with (go_at_fn 49; refine Calls.mono (C3.out wr HS20.out) ?_; rintro e w21 ⟨rfl, h21⟩; have HS21 := show Hid (SB _ _ _ _ _ _ _ _) from h21; have k0_21 := h21.row.cell (j := 0) rfl; have k1_21 := h21.row.cell (j := 1) rfl; unfold lessV at k0_21; unfold swapV at k1_21; clear h21)
                              go_roundw
                              case rel => exact ⟨k, s + 1, du, rfl, by go_num, by omega, by omega, by omega, HS21.out, by rw [← HO.out.2, pi_go ltStr a b s i k dk hs HK.out (by omega) h50, HD.out, HF.out]⟩
                              case measure => simp [intOf]; omega
                          · have hjz : ¬ (ju : Int) < (b : Int) := by omega
                            have HF : Hid (fixUp ltStr b k dj = du) := by unfold Hid fixUp; rw [if_pos hbk, ← HU.out.2, shiftUp_stop ltStr b ju du (Or.inl hjb')]
                            have HS21 := show Hid (SB _ _ _ _ _ _ _ _) from HU.out.1
                            go_wp2
                            go_roundw
                            case rel => exact ⟨k, s + 1, du, rfl, by go_num, by omega, by omega, by omega, HS21.out, by rw [← HO.out.2, pi_go ltStr a b s i k dk hs HK.out (by omega) h50, HD.out, HF.out]⟩
                            case measure => simp [intOf]; omega
                      · have hbkz : ¬ (2 : Int) ≤ (b : Int) - (k : Int) := by omega
                        have HF : Hid (fixUp ltStr b k dj = dj) := by unfold Hid fixUp; rw [if_neg hbk]
                        go_wp2_with (go_at_fn 49; refine Calls.mono (C2.out wr HS10.out) ?_; rintro e w11 ⟨rfl, h11⟩; have HS11 := show Hid (SB _ _ _ _ _ _ _ _) from h11; have k0_11 := h11.row.cell (j := 0) rfl; have k1_11 := h11.row.cell (j := 1) rfl; unfold lessV at k0_11; unfold swapV at k1_11; clear h11)
                        go_roundw
                        case rel => exact ⟨k, s + 1, dj, rfl, by go_num, by omega, by omega, by omega, HS11.out, by rw [← HO.out.2, pi_go ltStr a b s i k dk hs HK.out (by omega) h50, HD.out, HF.out]⟩
                        case measure => simp [intOf]; omega
                  · have hj1z : ¬ (1 : Int) ≤ (j : Int) := by omega
                    have HD : Hid (fixDown ltStr a k (swp dk k (k - 1)) = dj) := by unfold Hid fixDown; rw [if_pos hka, ← HDn.out.2, shiftDown_stop ltStr j dj (Or.inl (by omega))]
                    have HS11 := show Hid (SB _ _ _ _ _ _ _ _) from HDn.out.1
                    by_cases hbk : b - k ≥ 2
                    · have hbkz : (2 : Int) ≤ (b : Int) - (k : Int) := by omega
                      go_wp2_with fail
                      go_loopw [10] (fun vj wr => ∃ (ju : Nat) (du : Array Hs), vj = .int .i64 (ju : Int) ∧ k + 1 ≤ ju ∧ ju ≤ b ∧ Hid (SB w0 g cap Bs B n du wr ∧ shiftUp ltStr b ju du = shiftUp ltStr b (k + 1) dj)) (fun vj _ => b - (intOf vj).toNat)
                      case atStart => exact ⟨k + 1, dj, by go_num, Nat.le_refl _, by omega, HS11.out, rfl⟩
                      case round =>
                        obtain ⟨ju, du, rfl, hkj, hjb, HU⟩ := hrel
                        have p0 := HU.out.1.row.cell (j := 0) rfl
                        have p1 := HU.out.1.row.cell (j := 1) rfl
                        unfold lessV at p0
                        unfold swapV at p1
                        by_cases hjb' : ju < b
                        · have hjz : (ju : Int) < (b : Int) := by omega
                          cases v3 : ltStr du[ju]! du[ju - 1]! with
                          | true =>
                            have C3 := show Hid _ from fun W h => lessP (w0 := w0) (g := g) (cap := cap) (Bs := Bs) (B := B) (n := n) (j := ju) (by omega) (by omega) v3 W h
                            have V3 := show Hid _ from v3
                            clear v3
                            have HS20 := show Hid (SB _ _ _ _ _ _ _ _) from HU.out.1
                            go_wp2_with (go_at_fn 49; refine Calls.mono (C3.out wr HS20.out) ?_; rintro e w21 ⟨rfl, h21⟩; have HS21 := show Hid (SB _ _ _ _ _ _ _ _) from h21; have k0_21 := h21.row.cell (j := 0) rfl; have k1_21 := h21.row.cell (j := 1) rfl; unfold lessV at k0_21; unfold swapV at k1_21; obtain ⟨w22, hsw21, h22⟩ := h21.swapP (j := ju) (by omega) (by omega); have HS22 := show Hid (SB _ _ _ _ _ _ _ _) from h22; have k0_22 := h22.row.cell (j := 0) rfl; have k1_22 := h22.row.cell (j := 1) rfl; unfold lessV at k0_22; unfold swapV at k1_22; clear h22; clear h21)
                            go_roundw
                            case rel => exact ⟨ju + 1, swp du ju (ju - 1), by go_num, by omega, by omega, HS22.out, by rw [← HU.out.2, shiftUp_go ltStr b ju du hjb' V3.out]⟩
                            case measure => simp [intOf]; omega
                          | false =>
                            have C3 := show Hid _ from fun W h => lessP (w0 := w0) (g := g) (cap := cap) (Bs := Bs) (B := B) (n := n) (j := ju) (by omega) (by omega) v3 W h
                            have V3 := show Hid _ from v3
                            clear v3
                            have HS20 := show Hid (SB _ _ _ _ _ _ _ _) from HU.out.1
                            have HF : Hid (fixUp ltStr b k dj = du) := by unfold Hid fixUp; rw [if_pos hbk, ← HU.out.2, shiftUp_stop ltStr b ju du (Or.inr V3.out)]
                            go_wp2_with (go_at_fn 49; refine Calls.mono (C3.out wr HS20.out) ?_; rintro e w21 ⟨rfl, h21⟩; have HS21 := show Hid (SB _ _ _ _ _ _ _ _) from h21; have k0_21 := h21.row.cell (j := 0) rfl; have k1_21 := h21.row.cell (j := 1) rfl; unfold lessV at k0_21; unfold swapV at k1_21; clear h21)
                            go_roundw
                            case rel => exact ⟨k, s + 1, du, rfl, by go_num, by omega, by omega, by omega, HS21.out, by rw [← HO.out.2, pi_go ltStr a b s i k dk hs HK.out (by omega) h50, HD.out, HF.out]⟩
                            case measure => simp [intOf]; omega
                        · have hjz : ¬ (ju : Int) < (b : Int) := by omega
                          have HF : Hid (fixUp ltStr b k dj = du) := by unfold Hid fixUp; rw [if_pos hbk, ← HU.out.2, shiftUp_stop ltStr b ju du (Or.inl hjb')]
                          have HS21 := show Hid (SB _ _ _ _ _ _ _ _) from HU.out.1
                          go_wp2
                          go_roundw
                          case rel => exact ⟨k, s + 1, du, rfl, by go_num, by omega, by omega, by omega, HS21.out, by rw [← HO.out.2, pi_go ltStr a b s i k dk hs HK.out (by omega) h50, HD.out, HF.out]⟩
                          case measure => simp [intOf]; omega
                    · have hbkz : ¬ (2 : Int) ≤ (b : Int) - (k : Int) := by omega
                      have HF : Hid (fixUp ltStr b k dj = dj) := by unfold Hid fixUp; rw [if_neg hbk]
                      go_wp2
                      go_roundw
                      case rel => exact ⟨k, s + 1, dj, rfl, by go_num, by omega, by omega, by omega, HS11.out, by rw [← HO.out.2, pi_go ltStr a b s i k dk hs HK.out (by omega) h50, HD.out, HF.out]⟩
                      case measure => simp [intOf]; omega
              · have hkaz : ¬ (2 : Int) ≤ (k : Int) - (a : Int) := by omega
                have HD : Hid (fixDown ltStr a k (swp dk k (k - 1)) = swp dk k (k - 1)) := by unfold Hid fixDown; rw [if_neg hka]
                by_cases hbk : b - k ≥ 2
                · have hbkz : (2 : Int) ≤ (b : Int) - (k : Int) := by omega
                  go_wp2_with (go_at_fn 49; refine Calls.mono (C1.out wr HS1.out) ?_; rintro e w3 ⟨rfl, h3⟩; have HS3 := show Hid (SB _ _ _ _ _ _ _ _) from h3; have k0_3 := h3.row.cell (j := 0) rfl; have k1_3 := h3.row.cell (j := 1) rfl; unfold lessV at k0_3; unfold swapV at k1_3; obtain ⟨w4, hsw3, h4⟩ := h3.swapP (j := k) (by omega) (by omega); have HS4 := show Hid (SB _ _ _ _ _ _ _ _) from h4; have k0_4 := h4.row.cell (j := 0) rfl; have k1_4 := h4.row.cell (j := 1) rfl; unfold lessV at k0_4; unfold swapV at k1_4; clear h4; clear h3)
                  go_loopw [10] (fun vj wr => ∃ (ju : Nat) (du : Array Hs), vj = .int .i64 (ju : Int) ∧ k + 1 ≤ ju ∧ ju ≤ b ∧ Hid (SB w0 g cap Bs B n du wr ∧ shiftUp ltStr b ju du = shiftUp ltStr b (k + 1) (swp dk k (k - 1)))) (fun vj _ => b - (intOf vj).toNat)
                  case atStart => exact ⟨k + 1, (swp dk k (k - 1)), by go_num, Nat.le_refl _, by omega, HS4.out, rfl⟩
                  case round =>
                    obtain ⟨ju, du, rfl, hkj, hjb, HU⟩ := hrel
                    have p0 := HU.out.1.row.cell (j := 0) rfl
                    have p1 := HU.out.1.row.cell (j := 1) rfl
                    unfold lessV at p0
                    unfold swapV at p1
                    by_cases hjb' : ju < b
                    · have hjz : (ju : Int) < (b : Int) := by omega
                      cases v3 : ltStr du[ju]! du[ju - 1]! with
                      | true =>
                        have C3 := show Hid _ from fun W h => lessP (w0 := w0) (g := g) (cap := cap) (Bs := Bs) (B := B) (n := n) (j := ju) (by omega) (by omega) v3 W h
                        have V3 := show Hid _ from v3
                        clear v3
                        have HS20 := show Hid (SB _ _ _ _ _ _ _ _) from HU.out.1
                        go_wp2_with (go_at_fn 49; refine Calls.mono (C3.out wr HS20.out) ?_; rintro e w21 ⟨rfl, h21⟩; have HS21 := show Hid (SB _ _ _ _ _ _ _ _) from h21; have k0_21 := h21.row.cell (j := 0) rfl; have k1_21 := h21.row.cell (j := 1) rfl; unfold lessV at k0_21; unfold swapV at k1_21; obtain ⟨w22, hsw21, h22⟩ := h21.swapP (j := ju) (by omega) (by omega); have HS22 := show Hid (SB _ _ _ _ _ _ _ _) from h22; have k0_22 := h22.row.cell (j := 0) rfl; have k1_22 := h22.row.cell (j := 1) rfl; unfold lessV at k0_22; unfold swapV at k1_22; clear h22; clear h21)
                        go_roundw
                        case rel => exact ⟨ju + 1, swp du ju (ju - 1), by go_num, by omega, by omega, HS22.out, by rw [← HU.out.2, shiftUp_go ltStr b ju du hjb' V3.out]⟩
                        case measure => simp [intOf]; omega
                      | false =>
                        have C3 := show Hid _ from fun W h => lessP (w0 := w0) (g := g) (cap := cap) (Bs := Bs) (B := B) (n := n) (j := ju) (by omega) (by omega) v3 W h
                        have V3 := show Hid _ from v3
                        clear v3
                        have HS20 := show Hid (SB _ _ _ _ _ _ _ _) from HU.out.1
                        have HF : Hid (fixUp ltStr b k (swp dk k (k - 1)) = du) := by unfold Hid fixUp; rw [if_pos hbk, ← HU.out.2, shiftUp_stop ltStr b ju du (Or.inr V3.out)]
                        go_wp2_with (go_at_fn 49; refine Calls.mono (C3.out wr HS20.out) ?_; rintro e w21 ⟨rfl, h21⟩; have HS21 := show Hid (SB _ _ _ _ _ _ _ _) from h21; have k0_21 := h21.row.cell (j := 0) rfl; have k1_21 := h21.row.cell (j := 1) rfl; unfold lessV at k0_21; unfold swapV at k1_21; clear h21)
                        go_roundw
                        case rel => exact ⟨k, s + 1, du, rfl, by go_num, by omega, by omega, by omega, HS21.out, by rw [← HO.out.2, pi_go ltStr a b s i k dk hs HK.out (by omega) h50, HD.out, HF.out]⟩
                        case measure => simp [intOf]; omega
                    · have hjz : ¬ (ju : Int) < (b : Int) := by omega
                      have HF : Hid (fixUp ltStr b k (swp dk k (k - 1)) = du) := by unfold Hid fixUp; rw [if_pos hbk, ← HU.out.2, shiftUp_stop ltStr b ju du (Or.inl hjb')]
                      have HS21 := show Hid (SB _ _ _ _ _ _ _ _) from HU.out.1
                      go_wp2
                      go_roundw
                      case rel => exact ⟨k, s + 1, du, rfl, by go_num, by omega, by omega, by omega, HS21.out, by rw [← HO.out.2, pi_go ltStr a b s i k dk hs HK.out (by omega) h50, HD.out, HF.out]⟩
                      case measure => simp [intOf]; omega
                · have hbkz : ¬ (2 : Int) ≤ (b : Int) - (k : Int) := by omega
                  have HF : Hid (fixUp ltStr b k (swp dk k (k - 1)) = (swp dk k (k - 1))) := by unfold Hid fixUp; rw [if_neg hbk]
                  exfalso; omega
        · obtain rfl : k = b := by omega
          have hkz : ¬ (k : Int) < (k : Int) := by omega
          have HV : Hid (partialInsertionSort ltStr d a k = (dk, true)) := by
            unfold Hid partialInsertionSort; rw [← HO.out.2, pi_true ltStr a k s i dk hs (by rw [← HSc.out.2, scanSorted_stop ltStr dk k k (Or.inl (by omega))])]
          go_wp2
          go_ret
          rw [HV.out]
          exact ⟨rfl, HSc.out.1.sw⟩
    · obtain rfl : s = 5 := by omega
      have HV : Hid (partialInsertionSort ltStr d a b = (dk, false)) := by
        unfold Hid partialInsertionSort; rw [← HO.out.2, pi_end]
      go_wp2
      go_ret
      rw [HV.out]
      exact ⟨rfl, HO.out.1.sw⟩
end
end Go.Proofs.YtcmcapcagblafaaGreat
