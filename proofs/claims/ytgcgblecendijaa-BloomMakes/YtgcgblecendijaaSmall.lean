/-
  sort.Slice OVER A ROW OF HASHES, AT FEW: the walk of sort.pdqsort_func where it sorts by insertion.
-/
import Derived.Test.YtgcgblecendijaaSortJ
import Derived.Shelf.GgSortFunc.Tiny
namespace Go.Proofs.Ytgcgblecendijaa
open Go.RowKit Go.Sort Go.Lib
theorem SB.data {w0 : World} {g cap Bs B n : Nat} {d : Array Hs} {W : World} (h : SB w0 g cap Bs B n d W) : W.heap[B]? = some (.cells #[.func (.func 39) #[] #[.pointer (some ⟨Bs, 0, none⟩)], .func (.func 60) #[] #[.slice (some ⟨g, 0, none⟩) n cap, typeHandle Try.prog 29]] 91 (0, 0)) := h.row

set_option maxRecDepth 100000 in
set_option maxHeartbeats 6400000 in
theorem pdq63_few {w0 : World} {g cap Bs n : Nat} {d : Array Hs} {w : World} (h : SW w0 g cap Bs d w) (hn : d.size = n) (a b lim : Nat) (hab : a ≤ b) (hb : b ≤ n) (hsz : n < 1152921504606846976) (hf : b - a ≤ 12) :
    Calls Try.prog 50 #[.agg #[lessV Bs, swapV (typeHandle Try.prog 29) g cap n], .int .i64 (a : Int), .int .i64 (b : Int), .int .i64 (lim : Int)] w fun e w' => e = .returned (.tuple #[]) ∧ SW w0 g cap Bs (insertionSort ltStr d a b) w' := by
  have HN : Hid (d.size = n) := hn
  have HS0 := show Hid (SB _ _ _ _ _ _ _ _) from SB.start h hn
  obtain ⟨B, hB⟩ : ∃ B, w.heap.size = B := ⟨_, rfl⟩
  have e51 : ∀ args w, (callFunc 39 args).run Try.prog w = .ok (.enter 39 args) w := enters_of Try.func39 (by kernel_rfl) rfl
  clear h hn
  unfold lessV swapV at HS0 ⊢
  have hbi : (b : Int) - (a : Int) ≤ 12 := by omega
  go_enter Try.func50, Try.ntmps50
  go_wp2_with fail
  rw [hB] at HS0
  obtain ⟨w1, hw1⟩ : ∃ w1, w.alloc (.cells #[.func (.func 39) #[] #[.pointer (some ⟨Bs, 0, none⟩)], .func (.func 60) #[] #[.slice (some ⟨g, 0, none⟩) n cap, typeHandle Try.prog 29]] 91) = w1 := ⟨_, rfl⟩
  rw [hw1] at HS0 ⊢
  clear hw1 hB
  go_loopw [1, 2] (fun va vb wr => va = .int .i64 (a : Int) ∧ vb = .int .i64 (b : Int) ∧ Hid (SB w0 g cap Bs B n d wr)) (fun _ _ _ => 0)
  case atStart => exact ⟨rfl, rfl, HS0.out⟩
  case round =>
    obtain ⟨rfl, rfl, HI⟩ := hrel
    have hs94 : (Try.prog.info? 91).map (·.size) = some 2 := by kernel_rfl
    have HD := show Hid _ from HI.out.data
    go_wp2_with (first
      | (refine wpList_load_row rfl 91 (.tmp 4) rfl B rfl 91 _ (0, 0) _ HD.out Try.underlying91 rfl (by kernel_rfl) ?_)
      | (go_at_call 63; refine (ins77 HI.out.sw HN.out a b hab hb (by omega)).mono ?_; rintro e w2 ⟨rfl, h2⟩; have HS2 := show Hid (SW _ _ _ _ _ _) from h2; clear h2))
    try simp only [Exit.inBlock, Exit.then]
    refine bodyPost_ret (results_none rfl _ _ _) rfl ⟨rfl, HS2.out⟩

/-- What sort.Slice does with a row of at most m hashes. -/
def SortOK (m : Nat) : Prop := ∀ (w0 : World) (g cap Bs : Nat) (d : Array Hs) (w : World), d.size ≤ m → SW w0 g cap Bs d w →
    Calls Try.prog 38 #[.iface 22 (.slice (some ⟨g, 0, none⟩) d.size cap), lessV Bs] w fun e w' => e = .returned (.tuple #[]) ∧ ∃ d', PermIn 0 d.size d d' ∧ SortedIn ltStr 0 d.size d' ∧ SW w0 g cap Bs d' w'
/-- What pdqsort_func does with it. -/
def PdqOK (m : Nat) : Prop := ∀ (w0 : World) (g cap Bs : Nat) (d : Array Hs) (w : World) (lim : Nat), d.size ≤ m → SW w0 g cap Bs d w →
    Calls Try.prog 50 #[.agg #[lessV Bs, swapV (typeHandle Try.prog 29) g cap d.size], .int .i64 0, .int .i64 (d.size : Int), .int .i64 (lim : Int)] w fun e w' => e = .returned (.tuple #[]) ∧ ∃ d', PermIn 0 d.size d d' ∧ SortedIn ltStr 0 d.size d' ∧ SW w0 g cap Bs d' w'
theorem pdqOK12 : PdqOK 12 := fun w0 g cap Bs d w lim hm h => by
  have h1 := insertionSort_holds (lt := ltStr) swo_ltStr d 0 d.size (Nat.zero_le _) (Nat.le_refl _)
  have := pdq63_few h rfl 0 d.size lim (Nat.zero_le _) (Nat.le_refl _) (by omega) (by omega)
  refine this.mono (fun e w' ⟨he, hs⟩ => ⟨he, _, h1.1, h1.2, hs⟩)
theorem grow_after (w : World) (os : Array Obj) : After w (grow w os) := by
  refine ⟨rfl, rfl, rfl, by simp [Go.Sort.grow], fun k hk => ?_⟩
  simp [Go.Sort.grow, Array.getElem?_append, hk]
theorem swapper9 {n : Nat} {ie : TypeInfo} (h2 : 2 ≤ n) (hp : ie.hasPointers = false) (hb : ie.bytes = 32) : swapperK n ie 17 = 9 := by
  have c : (n == 0) = false := by simp; omega
  have d : (n == 1) = false := by simp; omega
  simp [swapperK, hp, hb, c, d]
set_option maxRecDepth 100000 in
theorem sortOK_of {m : Nat} (hm : m < 1152921504606846976) (hp : PdqOK m) : SortOK m := fun w0 g cap Bs d w hd h => by
  obtain ⟨i22, hi22, hd22⟩ := Option.map_eq_some_iff.1 (show (Try.prog.info? 22).map (·.desc) = some (.slice 29) by kernel_rfl)
  obtain ⟨i24, hi24, hx⟩ := Option.map_eq_some_iff.1 (show (Try.prog.info? 29).map (fun i => (i.hasPointers, i.bytes)) = some (false, 32) by kernel_rfl)
  simp only [Prod.mk.injEq] at hx
  by_cases h2 : 2 ≤ d.size
  · have key := Any.sort_Slice_of_pdq sh_sl6 22 29 i22 i24 hi22 hd22 (by kernel_rfl) hi24 17 (fun _ => by kernel_rfl) (some ⟨g, 0, none⟩) d.size cap (by omega) 60 (by rw [swapper9 h2 hx.1 hx.2]; kernel_rfl) (.func 39) #[] #[.pointer (some ⟨Bs, 0, none⟩)] w
      (fun w' => ∃ d', PermIn 0 d.size d d' ∧ SortedIn ltStr 0 d.size d' ∧ SW w0 g cap Bs d' w') ?_
    · exact key
    · have hB : sliceBound Try.prog 29 i24 17 (some ⟨g, 0, none⟩) d.size cap = #[.slice (some ⟨g, 0, none⟩) d.size cap, typeHandle Try.prog 29] := by
        unfold sliceBound; rw [swapper9 h2 hx.1 hx.2]; rfl
      rw [hB]
      unfold sliceWorld
      exact hp w0 g cap Bs d _ _ hd (h.after (after_alloc (after_alloc (After.refl w) _) _))
  · have hK : swapperK d.size i24 17 = d.size + 1 := by
      rcases Nat.eq_zero_or_pos d.size with e | e
      · rw [e]; simp [swapperK]
      · rw [show d.size = 1 by omega]; simp [swapperK]
    have key := Any.sort_Slice_tiny sh_sl6 22 29 i22 i24 hi22 hd22 (by kernel_rfl) hi24 17 (fun _ => by kernel_rfl) (some ⟨g, 0, none⟩) d.size cap (by omega) (52 + d.size) (by
      rw [hK]
      rcases Nat.eq_zero_or_pos d.size with e | e
      · rw [e]; kernel_rfl
      · rw [show d.size = 1 by omega]; kernel_rfl) (.func 39) #[] #[.pointer (some ⟨Bs, 0, none⟩)] w
    refine Calls.mono key (fun e w' ⟨he, os, hw⟩ => ⟨he, d, permIn_refl _ _ _, fun i j _ h1 h3 => by omega, ?_⟩)
    rw [hw]; exact h.after (grow_after w os)
theorem sortOK12 : SortOK 12 := sortOK_of (by omega) pdqOK12
end Go.Proofs.Ytgcgblecendijaa
