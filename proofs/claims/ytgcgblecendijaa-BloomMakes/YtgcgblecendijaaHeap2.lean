/-
  THE WALK OF sort.heapSort_func.
-/
import Derived.Test.YtgcgblecendijaaHeap
import Derived.Sort.WalkB3
namespace Go.Proofs.Ytgcgblecendijaa
open Go.RowKit Go.Sort Go.Lib
/-- The sort's world, taken as its own beginning. -/
theorem SB.base {w0 : World} {g cap Bs B n : Nat} {d : Array Hs} {W : World} (h : SB w0 g cap Bs B n d W) : SW W g cap Bs d W :=
  ⟨h.sw.own, h.sw.box, h.sw.ne, ⟨rfl, rfl, rfl, Nat.le_refl _, fun _ _ _ => rfl⟩, h.sw.a32⟩
/-- Behind a call that sorts. -/
theorem SB.back {w0 : World} {g cap Bs B n : Nat} {d d' : Array Hs} {W W' : World} (h : SB w0 g cap Bs B n d W) (hs : d'.size = n) (h2 : SW W g cap Bs d' W') : SB w0 g cap Bs B n d' W' := by
  refine ⟨⟨h2.own, h2.box, h2.ne, ?_, h2.a32⟩, hs, h.gB, ?_⟩
  · have h1 := h.sw.grow
    have h3 := h2.grow
    exact ⟨h3.os.trans h1.os, h3.tape.trans h1.tape, h3.output.trans h1.output, Nat.le_trans h1.size h3.size, fun k hk hne => (h3.block k (Nat.lt_of_lt_of_le hk h1.size) hne).trans (h1.block k hk hne)⟩
  · unfold RowIs
    rw [h2.grow.block B h.row.lt (by simpa using Ne.symm h.gB)]
    exact h.row
theorem SB.data' {w0 : World} {g cap Bs B n : Nat} {d : Array Hs} {W : World} (h : SB w0 g cap Bs B n d W) : W.heap[B]? = some (.cells #[.func (.func 39) #[] #[.pointer (some ⟨Bs, 0, none⟩)], .func (.func 60) #[] #[.slice (some ⟨g, 0, none⟩) n cap, typeHandle Try.prog 29]] 91 (0, 0)) := h.row
theorem sift_back {w0 : World} {g cap Bs B n : Nat} {d : Array Hs} {W : World} (h : SB w0 g cap Bs B n d W) (lo hi first : Nat) (hlo : lo ≤ hi) (hb : first + hi ≤ n) (hsz : n < 1152921504606846976) :
    Calls Try.prog 71 #[.agg #[.func (.func 39) #[] #[.pointer (some ⟨Bs, 0, none⟩)], .func (.func 60) #[] #[.slice (some ⟨g, 0, none⟩) n cap, typeHandle Try.prog 29]], .int .i64 (lo : Int), .int .i64 (hi : Int), .int .i64 (first : Int)] W fun e w' => e = .returned (.tuple #[]) ∧ SB w0 g cap Bs B n (siftDown ltStr hi first lo d) w' :=
  (sift87 h.base h.sz lo hi first hlo hb hsz).mono (fun _ _ ⟨he, h2⟩ => ⟨he, h.back (by rw [size_siftDown ltStr hi first (hi - lo) lo d (Nat.le_refl _)]; exact h.sz) h2⟩)

set_option maxRecDepth 100000 in
set_option maxHeartbeats 6400000 in
theorem heap78 {w0 : World} {g cap Bs n : Nat} {d : Array Hs} {w : World} (h : SW w0 g cap Bs d w) (hn : d.size = n) (a b : Nat) (hab : a ≤ b) (hb : b ≤ n) (hsz : n < 1152921504606846976) :
    Calls Try.prog 64 #[.agg #[lessV Bs, swapV (typeHandle Try.prog 29) g cap n], .int .i64 (a : Int), .int .i64 (b : Int)] w fun e w' => e = .returned (.tuple #[]) ∧ SW w0 g cap Bs (heapSort ltStr d a b) w' := by
  obtain ⟨m, hm⟩ : ∃ m, b - a = m := ⟨_, rfl⟩
  have hmi : (b : Int) - (a : Int) = (m : Int) := by omega
  have ham : a + m ≤ n := by omega
  have HM : Hid (b - a = m) := hm
  obtain ⟨q, hq⟩ : ∃ q : Nat, (m - 1) / 2 = q := ⟨_, rfl⟩
  have hqi : ((m : Int) - 1).tdiv 2 = (q : Int) := by
    rcases Nat.eq_zero_or_pos m with e | e
    · subst e; subst hq; rfl
    · rw [Int.tdiv_eq_ediv_of_nonneg (by omega)]; omega
  have hqm : q ≤ m := by omega
  have HQ : Hid ((m - 1) / 2 = q) := hq
  have HS94 : Hid ((Try.prog.info? 91).map (·.size) = some 2) := by unfold Hid; kernel_rfl
  clear hm hq
  have HS0 := show Hid (SB _ _ _ _ _ _ _ _) from SB.start h hn
  obtain ⟨B, hB⟩ : ∃ B, w.heap.size = B := ⟨_, rfl⟩
  have e51 : ∀ args w, (callFunc 39 args).run Try.prog w = .ok (.enter 39 args) w := enters_of Try.func39 (by kernel_rfl) rfl
  clear h hn
  unfold lessV swapV at HS0 ⊢
  go_enter Try.func64, Try.ntmps64
  go_wp2_with fail
  rw [hB] at HS0
  obtain ⟨w1, hw1⟩ : ∃ w1, w.alloc (.cells #[.func (.func 39) #[] #[.pointer (some ⟨Bs, 0, none⟩)], .func (.func 60) #[] #[.slice (some ⟨g, 0, none⟩) n cap, typeHandle Try.prog 29]] 91) = w1 := ⟨_, rfl⟩
  rw [hw1] at HS0 ⊢
  clear hw1 hB
  clear hmi hqi
  go_loopw [9] (fun v wr => ∃ (k : Nat) (z : Int) (dk : Array Hs), v = .int .i64 z ∧ z = (k : Int) - 1 ∧ k ≤ q + 1 ∧ Hid (SB w0 g cap Bs B n dk wr ∧ heapBuild ltStr m a k dk = heapBuild ltStr m a (q + 1) d)) (fun v _ => (intOf v + 1).toNat)
  case atStart => exact ⟨q + 1, (q : Int), d, rfl, by omega, Nat.le_refl _, HS0.out, rfl⟩
  case round =>
    obtain ⟨k, z, dk, rfl, hz, hkq, HI⟩ := hrel
    cases k with
    | zero =>
      obtain rfl : z = -1 := by omega
      clear hz
      have HB1 : Hid (SB w0 g cap Bs B n (heapBuild ltStr m a (q + 1) d) wr) := by have h1 := HI.out.1; have h2 := HI.out.2; unfold heapBuild at h2; rw [h2] at h1; exact h1
      obtain ⟨e0, he0⟩ : ∃ e0, heapBuild ltStr m a (q + 1) d = e0 := ⟨_, rfl⟩
      have HE0 : Hid (heapBuild ltStr m a (q + 1) d = e0) := he0
      rw [he0] at HB1
      clear he0
      clear HI
      go_wp2_with fail
      go_loopw [10] (fun v wr => ∃ (k : Nat) (z : Int) (dk : Array Hs), v = .int .i64 z ∧ z = (k : Int) - 1 ∧ k ≤ m ∧ Hid (SB w0 g cap Bs B n dk wr ∧ heapPop ltStr a k dk = heapPop ltStr a m e0)) (fun v _ => (intOf v + 1).toNat)
      case atStart => exact ⟨m, (m : Int) - 1, e0, by go_num, rfl, Nat.le_refl _, HB1.out, rfl⟩
      case round =>
        obtain ⟨k, z, dk, rfl, hz, hkm, HI⟩ := hrel
        cases k with
        | zero =>
          obtain rfl : z = -1 := by omega
          clear hz
          go_wp2
          go_end0
          have h1 := HI.out.1
          have h2 : dk = heapPop ltStr a m e0 := HI.out.2
          unfold heapSort
          rw [HM.out, HQ.out, HE0.out, ← h2]
          exact ⟨rfl, h1.sw⟩
        | succ k =>
          obtain rfl : z = (k : Int) := by omega
          clear hz
          have hz0 : (0 : Int) ≤ (k : Int) := by omega
          obtain ⟨f, hf⟩ : ∃ f, a + k = f := ⟨_, rfl⟩
          have hfi : (a : Int) + (k : Int) = (f : Int) := by omega
          have HF : Hid (a + k = f) := hf
          obtain ⟨w3, hsw, h3⟩ := HI.out.1.swap (i := a) (j := f) (by omega) (by omega)
          have HS3 := show Hid (SB _ _ _ _ _ _ _ _) from h3
          have HD := show Hid _ from h3.data'
          have r0 := HI.out.1.row.cell (j := 0) rfl
          have r1 := HI.out.1.row.cell (j := 1) rfl
          unfold lessV at r0
          unfold swapV at r1
          clear h3 hf
          go_wp2_with (first
            | (refine wpList_load_row rfl 91 (.tmp 3) rfl B rfl 91 _ (0, 0) _ HD.out Try.underlying91 rfl HS94.out ?_)
            | (go_at_call 71; refine Calls.mono (sift_back HS3.out 0 k a (by omega) (by omega) hsz) ?_; rintro e w4 ⟨rfl, h4⟩; have HS4 := show Hid (SB _ _ _ _ _ _ _ _) from h4; clear h4))
          go_roundw
          case rel => exact ⟨k, (k : Int) - 1, siftDown ltStr k a 0 (swp dk a f), by go_num, rfl, by omega, HS4.out, by rw [← HI.out.2, ← HF.out]; rfl⟩
          case measure => simp [intOf]
    | succ k =>
      obtain rfl : z = (k : Int) := by omega
      clear hz
      have hz0 : (0 : Int) ≤ (k : Int) := by omega
      have HD := show Hid _ from HI.out.1.data'
      go_wp2_with (first
        | (refine wpList_load_row rfl 91 (.tmp 3) rfl B rfl 91 _ (0, 0) _ HD.out Try.underlying91 rfl HS94.out ?_)
        | (go_at_call 71; refine Calls.mono (sift_back HI.out.1 k m a (by omega) ham hsz) ?_; rintro e w2 ⟨rfl, h2⟩; have HS2 := show Hid (SB _ _ _ _ _ _ _ _) from h2; clear h2))
      go_roundw
      case rel => exact ⟨k, (k : Int) - 1, siftDown ltStr m a k dk, by go_num, rfl, by omega, HS2.out, by rw [← HI.out.2]; rfl⟩
      case measure => simp [intOf]

end Go.Proofs.Ytgcgblecendijaa
