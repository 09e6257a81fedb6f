/-
  THE WALKS OF sort.median_func, medianAdjacent_func AND choosePivot_func.
-/
import Derived.Test.YtgcgblecendijaaOrd
namespace Go.Proofs.Ytgcgblecendijaa
open Go.RowKit Go.Sort Go.Lib
def Stop (p : Prop) : Prop := p
theorem of_stop {p : Prop} (h : Stop p) : p := h

set_option maxRecDepth 100000 in
set_option maxHeartbeats 6400000 in
theorem med91 {w0 : World} {g cap Bs cb s n : Nat} {d : Array Hs} {w : World} (h : CW w0 g cap Bs cb s d w) (hn : d.size = n) (x y z : Nat) (hx : x < n) (hy : y < n) (hz : z < n) (hs : s < 100) :
    Calls Try.prog 75 #[.agg #[lessV Bs, swapV (typeHandle Try.prog 29) g cap n], .int .i64 (x : Int), .int .i64 (y : Int), .int .i64 (z : Int), .pointer (some ⟨cb, 0, none⟩)] w fun e w' => ∃ m s' : Nat, e = .returned (.int .i64 (m : Int)) ∧ Hid (m = x ∨ m = y ∨ m = z) ∧ s' ≤ s + 3 ∧ CW w0 g cap Bs cb s' d w' ∧ But cb w w' := by
  have e92 : ∀ args w, (callFunc 76 args).run Try.prog w = .ok (.enter 76 args) w := enters_of Try.func76 (by kernel_rfl) rfl
  have e91 : ∀ args w, (callFunc 75 args).run Try.prog w = .ok (.enter 75 args) w := enters_of Try.func75 (by kernel_rfl) rfl
  have HS94 : Hid ((Try.prog.info? 91).map (·.size) = some 2) := by unfold Hid; kernel_rfl
  have HN : Hid (d.size = n) := hn
  have h1 := h.after (after_alloc (After.refl w) (.cells #[.func (.func 39) #[] #[.pointer (some ⟨Bs, 0, none⟩)], .func (.func 60) #[] #[.slice (some ⟨g, 0, none⟩) n cap, typeHandle Try.prog 29]] 91))
  have b1 := But.of_below (g := cb) (after_alloc (After.refl w) (.cells #[.func (.func 39) #[] #[.pointer (some ⟨Bs, 0, none⟩)], .func (.func 60) #[] #[.slice (some ⟨g, 0, none⟩) n cap, typeHandle Try.prog 29]] 91))
  have r1 := RowIs.new w 91 [lessV Bs, swapV (typeHandle Try.prog 29) g cap n]
  have hBc : w.heap.size ≠ cb := by have := h.cnt.lt; omega
  unfold lessV swapV at r1 ⊢
  have r1' : (w.alloc (.cells #[.func (.func 39) #[] #[.pointer (some ⟨Bs, 0, none⟩)], .func (.func 60) #[] #[.slice (some ⟨g, 0, none⟩) n cap, typeHandle Try.prog 29]] 91)).heap[w.heap.size]? = some (.cells #[.func (.func 39) #[] #[.pointer (some ⟨Bs, 0, none⟩)], .func (.func 60) #[] #[.slice (some ⟨g, 0, none⟩) n cap, typeHandle Try.prog 29]] 91 (0, 0)) := r1
  have HC1 := show Hid (CW _ _ _ _ _ _ _ _) from h1
  have HB1 := show Hid (But _ _ _) from b1
  have HR1 := show Hid _ from r1'
  clear h1 b1 r1 r1' h hn
  have C1 := show Hid _ from ord92 HC1.out HN.out x y hx hy (by omega)
  unfold lessV swapV at C1
  go_enter Try.func75, Try.ntmps75
  go_wp2_with (refine wpList_load_row rfl 91 (.tmp 5) rfl w.heap.size rfl 91 _ (0, 0) _ HR1.out Try.underlying91 rfl HS94.out ?_; apply of_stop)
  unfold Stop
  obtain ⟨B, hB⟩ : ∃ B, w.heap.size = B := ⟨_, rfl⟩
  rw [hB] at hBc HR1
  rw [hB]
  obtain ⟨w1, hw1⟩ : ∃ w1, w.alloc (.cells #[.func (.func 39) #[] #[.pointer (some ⟨Bs, 0, none⟩)], .func (.func 60) #[] #[.slice (some ⟨g, 0, none⟩) n cap, typeHandle Try.prog 29]] 91) = w1 := ⟨_, rfl⟩
  rw [hw1] at HC1 HB1 HR1 C1
  rw [hw1]
  clear hw1 hB
  go_wp2_with (first
    | (go_at_call 76; refine Calls.mono C3.out ?_; rintro e w4 ⟨x4, y4, s4, rfl, HX4, hs4, h4, b4⟩; have HC4 := show Hid (CW _ _ _ _ _ _ _ _) from h4; have HB4 := show Hid (But _ _ _) from But.trans HB3.out b4; have HR4 := show Hid _ from (b4.block B (Array.getElem?_eq_some_iff.1 HR3.out).1 hBc).trans HR3.out; clear h4 b4)
    | (refine wpList_load_row rfl 91 (.tmp 5) rfl B rfl 91 _ (0, 0) _ HR3.out Try.underlying91 rfl HS94.out ?_)
    | (go_at_call 76; refine Calls.mono C2.out ?_; rintro e w3 ⟨x3, y3, s3, rfl, HX3, hs3, h3, b3⟩; have HC3 := show Hid (CW _ _ _ _ _ _ _ _) from h3; have HB3 := show Hid (But _ _ _) from But.trans HB2.out b3; have HR3 := show Hid _ from (b3.block B (Array.getElem?_eq_some_iff.1 HR2.out).1 hBc).trans HR2.out; clear h3 b3; have C3 := show Hid _ from ord92 HC3.out HN.out x2 x3 (by have := HX2.out; omega) (by have := HX2.out; have := HX3.out; omega) (by omega); unfold lessV swapV at C3)
    | (refine wpList_load_row rfl 91 (.tmp 5) rfl B rfl 91 _ (0, 0) _ HR2.out Try.underlying91 rfl HS94.out ?_)
    | (go_at_call 76; refine Calls.mono C1.out ?_; rintro e w2 ⟨x2, y2, s2, rfl, HX2, hs2, h2, b2⟩; have HC2 := show Hid (CW _ _ _ _ _ _ _ _) from h2; have HB2 := show Hid (But _ _ _) from But.trans HB1.out b2; have HR2 := show Hid _ from (b2.block B (Array.getElem?_eq_some_iff.1 HR1.out).1 hBc).trans HR1.out; clear h2 b2; have C2 := show Hid _ from ord92 HC2.out HN.out y2 z (by have := HX2.out; omega) hz (by omega); unfold lessV swapV at C2))
  go_ret
  exact ⟨y4, s4, rfl, by have := HX2.out; have := HX3.out; have := HX4.out; unfold Hid; omega, by omega, HC4.out, HB4.out⟩

set_option maxRecDepth 100000 in
set_option maxHeartbeats 6400000 in
theorem adj90 {w0 : World} {g cap Bs cb s n : Nat} {d : Array Hs} {w : World} (h : CW w0 g cap Bs cb s d w) (hn : d.size = n) (x : Nat) (hx1 : 1 ≤ x) (hx : x + 1 < n) (hs : s < 100) (hsz : n < 1152921504606846976) :
    Calls Try.prog 74 #[.agg #[lessV Bs, swapV (typeHandle Try.prog 29) g cap n], .int .i64 (x : Int), .pointer (some ⟨cb, 0, none⟩)] w fun e w' => ∃ m s' : Nat, e = .returned (.int .i64 (m : Int)) ∧ x ≤ m + 1 ∧ m ≤ x + 1 ∧ s' ≤ s + 3 ∧ CW w0 g cap Bs cb s' d w' ∧ But cb w w' := by
  have e92 : ∀ args w, (callFunc 76 args).run Try.prog w = .ok (.enter 76 args) w := enters_of Try.func76 (by kernel_rfl) rfl
  have e91 : ∀ args w, (callFunc 75 args).run Try.prog w = .ok (.enter 75 args) w := enters_of Try.func75 (by kernel_rfl) rfl
  have HS94 : Hid ((Try.prog.info? 91).map (·.size) = some 2) := by unfold Hid; kernel_rfl
  have HN : Hid (d.size = n) := hn
  have h1 := h.after (after_alloc (After.refl w) (.cells #[.func (.func 39) #[] #[.pointer (some ⟨Bs, 0, none⟩)], .func (.func 60) #[] #[.slice (some ⟨g, 0, none⟩) n cap, typeHandle Try.prog 29]] 91))
  have b1 := But.of_below (g := cb) (after_alloc (After.refl w) (.cells #[.func (.func 39) #[] #[.pointer (some ⟨Bs, 0, none⟩)], .func (.func 60) #[] #[.slice (some ⟨g, 0, none⟩) n cap, typeHandle Try.prog 29]] 91))
  have r1 := RowIs.new w 91 [lessV Bs, swapV (typeHandle Try.prog 29) g cap n]
  have hBc : w.heap.size ≠ cb := by have := h.cnt.lt; omega
  unfold lessV swapV at r1 ⊢
  have r1' : (w.alloc (.cells #[.func (.func 39) #[] #[.pointer (some ⟨Bs, 0, none⟩)], .func (.func 60) #[] #[.slice (some ⟨g, 0, none⟩) n cap, typeHandle Try.prog 29]] 91)).heap[w.heap.size]? = some (.cells #[.func (.func 39) #[] #[.pointer (some ⟨Bs, 0, none⟩)], .func (.func 60) #[] #[.slice (some ⟨g, 0, none⟩) n cap, typeHandle Try.prog 29]] 91 (0, 0)) := r1
  have HC1 := show Hid (CW _ _ _ _ _ _ _ _) from h1
  have HB1 := show Hid (But _ _ _) from b1
  have HR1 := show Hid _ from r1'
  clear h1 b1 r1 r1' h hn
  have C1 := show Hid _ from med91 HC1.out HN.out (x - 1) x (x + 1) (by omega) (by omega) (by omega) (by omega)
  unfold lessV swapV at C1
  rw [show ((x - 1 : Nat) : Int) = (x : Int) - 1 by omega, show ((x + 1 : Nat) : Int) = (x : Int) + 1 by omega] at C1
  go_enter Try.func74, Try.ntmps74
  go_wp2_with (refine wpList_load_row rfl 91 (.tmp 3) rfl w.heap.size rfl 91 _ (0, 0) _ HR1.out Try.underlying91 rfl HS94.out ?_; apply of_stop)
  unfold Stop
  obtain ⟨B, hB⟩ : ∃ B, w.heap.size = B := ⟨_, rfl⟩
  rw [hB] at hBc HR1
  rw [hB]
  obtain ⟨w1, hw1⟩ : ∃ w1, w.alloc (.cells #[.func (.func 39) #[] #[.pointer (some ⟨Bs, 0, none⟩)], .func (.func 60) #[] #[.slice (some ⟨g, 0, none⟩) n cap, typeHandle Try.prog 29]] 91) = w1 := ⟨_, rfl⟩
  rw [hw1] at HC1 HB1 HR1 C1
  rw [hw1]
  clear hw1 hB
  go_wp2_with (first
    | (go_at_call 75; refine Calls.mono C1.out ?_; rintro e w2 ⟨m2, s2, rfl, HX2, hs2, h2, b2⟩; have HC2 := show Hid (CW _ _ _ _ _ _ _ _) from h2; have HB2 := show Hid (But _ _ _) from But.trans HB1.out b2; have HR2 := show Hid _ from (b2.block B (Array.getElem?_eq_some_iff.1 HR1.out).1 hBc).trans HR1.out; clear h2 b2))
  go_ret
  exact ⟨m2, s2, rfl, by have := HX2.out; omega, by have := HX2.out; omega, by omega, HC2.out, HB2.out⟩

set_option maxRecDepth 100000 in
set_option maxHeartbeats 6400000 in
theorem piv80 {w0 : World} {g cap Bs n : Nat} {d : Array Hs} {w : World} (h : SW w0 g cap Bs d w) (hn : d.size = n) (a b : Nat) (hab : 12 < b - a) (hb : b ≤ n) (hsz : n < 1152921504606846976) :
    Calls Try.prog 66 #[.agg #[lessV Bs, swapV (typeHandle Try.prog 29) g cap n], .int .i64 (a : Int), .int .i64 (b : Int)] w fun e w' => ∃ p hh : Nat, e = .returned (.tuple #[.int .i64 (p : Int), .int .i64 (hh : Int)]) ∧ a ≤ p ∧ p < b ∧ hh ≤ 2 ∧ SW w0 g cap Bs d w' := by
  have e90 : ∀ args w, (callFunc 74 args).run Try.prog w = .ok (.enter 74 args) w := enters_of Try.func74 (by kernel_rfl) rfl
  have e91 : ∀ args w, (callFunc 75 args).run Try.prog w = .ok (.enter 75 args) w := enters_of Try.func75 (by kernel_rfl) rfl
  have HS94 : Hid ((Try.prog.info? 91).map (·.size) = some 2) := by unfold Hid; kernel_rfl
  have HN : Hid (d.size = n) := hn
  have hg : g < w.heap.size := (World.ownsRow.lt h.own g rfl).2
  have hbs : Bs < w.heap.size := block_lt_of_cell h.box
  have h1 : CW w0 g cap Bs (w.heap.size + 1) 0 d ((w.alloc (.cells #[.func (.func 39) #[] #[.pointer (some ⟨Bs, 0, none⟩)], .func (.func 60) #[] #[.slice (some ⟨g, 0, none⟩) n cap, typeHandle Try.prog 29]] 91)).alloc (.cells #[.int .i64 0] 3)) := by
    refine ⟨h.after (after_alloc (after_alloc (After.refl w) _) _), ?_, by have := h.grow.size; omega, by omega, by omega⟩
    have := RowIs.new (w.alloc (.cells #[.func (.func 39) #[] #[.pointer (some ⟨Bs, 0, none⟩)], .func (.func 60) #[] #[.slice (some ⟨g, 0, none⟩) n cap, typeHandle Try.prog 29]] 91)) 3 [.int .i64 0]
    simpa using this
  have r1 := RowIs.alloc (RowIs.new w 91 [lessV Bs, swapV (typeHandle Try.prog 29) g cap n]) (.cells #[.int .i64 0] 3)
  have b1 := But.refl (w.heap.size + 1) ((w.alloc (.cells #[.func (.func 39) #[] #[.pointer (some ⟨Bs, 0, none⟩)], .func (.func 60) #[] #[.slice (some ⟨g, 0, none⟩) n cap, typeHandle Try.prog 29]] 91)).alloc (.cells #[.int .i64 0] 3))
  unfold lessV swapV at r1 ⊢
  have hBc : w.heap.size ≠ w.heap.size + 1 := by omega
  have r1' : ((w.alloc (.cells #[.func (.func 39) #[] #[.pointer (some ⟨Bs, 0, none⟩)], .func (.func 60) #[] #[.slice (some ⟨g, 0, none⟩) n cap, typeHandle Try.prog 29]] 91)).alloc (.cells #[.int .i64 0] 3)).heap[w.heap.size]? = some (.cells #[.func (.func 39) #[] #[.pointer (some ⟨Bs, 0, none⟩)], .func (.func 60) #[] #[.slice (some ⟨g, 0, none⟩) n cap, typeHandle Try.prog 29]] 91 (0, 0)) := r1
  obtain ⟨L, hL⟩ : ∃ L, b - a = L := ⟨_, rfl⟩
  have hLz : (b : Int) - (a : Int) = (L : Int) := by omega
  obtain ⟨q, hq⟩ : ∃ q, L / 4 = q := ⟨_, rfl⟩
  have hqz : (L : Int) / 4 = (q : Int) := by omega
  have hqt : (L : Int).tdiv 4 = (q : Int) := by rw [Int.tdiv_eq_ediv_of_nonneg (by omega)]; omega
  have hq1 : 3 ≤ q := by omega
  have hq4 : q * 4 ≤ L := by omega
  have hbL : b = a + L := by omega
  have HBL : Hid (b = a + L) := hbL
  have h8z : (8 : Int) ≤ (L : Int) := by omega
  have hL12 : 12 < L := by omega
  have hn4 : a + q * 4 ≤ n := by omega
  obtain ⟨i, hi⟩ : ∃ i, i = a + q := ⟨_, rfl⟩
  obtain ⟨j, hj⟩ : ∃ j, j = a + q * 2 := ⟨_, rfl⟩
  obtain ⟨k, hk⟩ : ∃ k, k = a + q * 3 := ⟨_, rfl⟩
  have hiz : (a : Int) + (q : Int) = (i : Int) := by omega
  have hjz : (a : Int) + (q : Int) * 2 = (j : Int) := by omega
  have hkz : (a : Int) + (q : Int) * 3 = (k : Int) := by omega
  have HIJK : Hid (i = a + q ∧ j = a + q * 2 ∧ k = a + q * 3) := ⟨hi, hj, hk⟩
  have hin : i + 1 < n ∧ 1 ≤ i ∧ j + 1 < n ∧ 1 ≤ j ∧ k + 1 < n ∧ 1 ≤ k := by omega
  have HR9 : Hid (a ≤ i ∧ i + 2 ≤ b ∧ a + 1 ≤ i ∧ i < j ∧ j < k ∧ k + 3 ≤ b) := by unfold Hid; omega
  clear hi hj hk hbL hL hq hab
  obtain ⟨hin1, hin2, hin3, hin4, hin5, hin6⟩ := hin
  go_enter Try.func66, Try.ntmps66
  by_cases h50 : 50 ≤ L
  · have h50z : (50 : Int) ≤ (L : Int) := by omega
    have HC1 := show Hid (CW _ _ _ _ _ _ _ _) from h1
    have HB1 := show Hid (But _ _ _) from b1
    have HR1 := show Hid _ from r1'
    clear h1 b1 r1 r1' h hn
    have C1 := show Hid _ from adj90 HC1.out HN.out i hin2 hin1 (by omega) hsz
    unfold lessV swapV at C1
    go_wp2_with (refine wpList_load_row rfl 91 (.tmp 3) rfl w.heap.size rfl 91 _ (0, 0) _ HR1.out Try.underlying91 rfl HS94.out ?_; apply of_stop)
    unfold Stop
    obtain ⟨B, hB⟩ : ∃ B, w.heap.size = B := ⟨_, rfl⟩
    rw [hB] at hBc HR1 HC1 HB1 C1 hg hbs
    rw [hB]
    obtain ⟨w1, hw1⟩ : ∃ w1, ((w.alloc (.cells #[.func (.func 39) #[] #[.pointer (some ⟨Bs, 0, none⟩)], .func (.func 60) #[] #[.slice (some ⟨g, 0, none⟩) n cap, typeHandle Try.prog 29]] 91)).alloc (.cells #[.int .i64 0] 3)) = w1 := ⟨_, rfl⟩
    rw [hw1] at HC1 HB1 HR1 C1
    rw [hw1]
    clear hw1 hB
    go_wp2_with (first
      | (go_at_call 75; refine Calls.mono C4.out ?_; rintro e w5 ⟨m5, s5, rfl, HX5, hs5, h5, b5⟩; have HC5 := show Hid (CW _ _ _ _ _ _ _ _) from h5; have HB5 := show Hid (But _ _ _) from But.trans HB4.out b5; have HR5 := show Hid _ from (b5.block B (Array.getElem?_eq_some_iff.1 HR4.out).1 hBc).trans HR4.out; clear h5 b5; have c9 := HC5.out.cnt.cell (j := 0) rfl)
      | (refine wpList_load_row rfl 91 (.tmp 3) rfl B rfl 91 _ (0, 0) _ HR4.out Try.underlying91 rfl HS94.out ?_)
      | (go_at_call 74; refine Calls.mono C3.out ?_; rintro e w4 ⟨m4, s4, rfl, hm4, hm4', hs4, h4, b4⟩; have HC4 := show Hid (CW _ _ _ _ _ _ _ _) from h4; have HB4 := show Hid (But _ _ _) from But.trans HB3.out b4; have HR4 := show Hid _ from (b4.block B (Array.getElem?_eq_some_iff.1 HR3.out).1 hBc).trans HR3.out; clear h4 b4; have C4 := show Hid _ from med91 HC4.out HN.out m2 m3 m4 (by omega) (by omega) (by omega) (by omega); unfold lessV swapV at C4)
      | (refine wpList_load_row rfl 91 (.tmp 3) rfl B rfl 91 _ (0, 0) _ HR3.out Try.underlying91 rfl HS94.out ?_)
      | (go_at_call 74; refine Calls.mono C2.out ?_; rintro e w3 ⟨m3, s3, rfl, hm3, hm3', hs3, h3, b3⟩; have HC3 := show Hid (CW _ _ _ _ _ _ _ _) from h3; have HB3 := show Hid (But _ _ _) from But.trans HB2.out b3; have HR3 := show Hid _ from (b3.block B (Array.getElem?_eq_some_iff.1 HR2.out).1 hBc).trans HR2.out; clear h3 b3; have C3 := show Hid _ from adj90 HC3.out HN.out k hin6 hin5 (by omega) hsz; unfold lessV swapV at C3)
      | (refine wpList_load_row rfl 91 (.tmp 3) rfl B rfl 91 _ (0, 0) _ HR2.out Try.underlying91 rfl HS94.out ?_)
      | (go_at_call 74; refine Calls.mono C1.out ?_; rintro e w2 ⟨m2, s2, rfl, hm2, hm2', hs2, h2, b2⟩; have HC2 := show Hid (CW _ _ _ _ _ _ _ _) from h2; have HB2 := show Hid (But _ _ _) from But.trans HB1.out b2; have HR2 := show Hid _ from (b2.block B (Array.getElem?_eq_some_iff.1 HR1.out).1 hBc).trans HR1.out; clear h2 b2; have C2 := show Hid _ from adj90 HC2.out HN.out j hin4 hin3 (by omega) hsz; unfold lessV swapV at C2))
    all_goals have HP : Hid (a ≤ m5 ∧ m5 < b) := by have := HX5.out; have := HR9.out; unfold Hid; omega
    all_goals first
      | (go_ret2; exact ⟨m5, 1, rfl, by have := HP.out; omega, by have := HP.out; omega, by omega, HC5.out.sw⟩)
      | (go_ret2; exact ⟨m5, 2, rfl, by have := HP.out; omega, by have := HP.out; omega, by omega, HC5.out.sw⟩)
      | (go_ret2; exact ⟨m5, 0, rfl, by have := HP.out; omega, by have := HP.out; omega, by omega, HC5.out.sw⟩)
  · have h50z : ¬ (50 : Int) ≤ (L : Int) := by omega
    have HC1 := show Hid (CW _ _ _ _ _ _ _ _) from h1
    have HB1 := show Hid (But _ _ _) from b1
    have HR1 := show Hid _ from r1'
    clear h1 b1 r1 r1' h hn
    have C1 := show Hid _ from med91 HC1.out HN.out i j k (by omega) (by omega) (by omega) (by omega)
    unfold lessV swapV at C1
    go_wp2_with (refine wpList_load_row rfl 91 (.tmp 3) rfl w.heap.size rfl 91 _ (0, 0) _ HR1.out Try.underlying91 rfl HS94.out ?_; apply of_stop)
    unfold Stop
    obtain ⟨B, hB⟩ : ∃ B, w.heap.size = B := ⟨_, rfl⟩
    rw [hB] at hBc HR1 HC1 HB1 C1 hg hbs
    rw [hB]
    obtain ⟨w1, hw1⟩ : ∃ w1, ((w.alloc (.cells #[.func (.func 39) #[] #[.pointer (some ⟨Bs, 0, none⟩)], .func (.func 60) #[] #[.slice (some ⟨g, 0, none⟩) n cap, typeHandle Try.prog 29]] 91)).alloc (.cells #[.int .i64 0] 3)) = w1 := ⟨_, rfl⟩
    rw [hw1] at HC1 HB1 HR1 C1
    rw [hw1]
    clear hw1 hB
    go_wp2_with (first
      | (go_at_call 75; refine Calls.mono C1.out ?_; rintro e w5 ⟨m5, s5, rfl, HX5, hs5, h5, b5⟩; have HC5 := show Hid (CW _ _ _ _ _ _ _ _) from h5; have HB5 := show Hid (But _ _ _) from But.trans HB1.out b5; have HR5 := show Hid _ from (b5.block B (Array.getElem?_eq_some_iff.1 HR1.out).1 hBc).trans HR1.out; clear h5 b5; have c9 := HC5.out.cnt.cell (j := 0) rfl))
    all_goals have HP : Hid (a ≤ m5 ∧ m5 < b) := by have := HX5.out; have := HR9.out; unfold Hid; omega
    all_goals first
      | (go_ret2; exact ⟨m5, 1, rfl, by have := HP.out; omega, by have := HP.out; omega, by omega, HC5.out.sw⟩)
      | (go_ret2; exact ⟨m5, 2, rfl, by have := HP.out; omega, by have := HP.out; omega, by omega, HC5.out.sw⟩)
      | (go_ret2; exact ⟨m5, 0, rfl, by have := HP.out; omega, by have := HP.out; omega, by omega, HC5.out.sw⟩)

end Go.Proofs.Ytgcgblecendijaa
