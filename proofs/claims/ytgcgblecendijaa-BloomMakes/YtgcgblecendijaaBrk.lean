/-
  THE WALK OF sort.breakPatterns_func.
-/
import Derived.Test.YtgcgblecendijaaOrd
import Derived.Shelf.SlSortFunc.Xorshift
import Derived.Sort.LotD5
namespace Go.Proofs.Ytgcgblecendijaa
open Go.RowKit Go.Sort Go.Lib
theorem SB.but {w0 : World} {g cap Bs B n cb : Nat} {d : Array Hs} {W W' : World} (h : SB w0 g cap Bs B n d W) (hb : But cb W W') (h0 : w0.heap.size ≤ cb) (hg : cb ≠ g) (hs : cb ≠ Bs) (hB : B ≠ cb) : SB w0 g cap Bs B n d W' :=
  ⟨h.sw.but hb h0 hg hs, h.sz, h.gB, hb.row h.row hB⟩
theorem but_setCells (g : Nat) (W : World) (o : Nat) (vs : List Value) : But g W (W.setCells g o vs) := by
  have hk := World.keptBut_setCells g (may := fun _ => True) vs o W (fun _ _ => trivial)
  refine ⟨hk.1, ?_, hk.2.1, hk.size, fun k hk' hne => World.heap_setCells_other W g o vs hk' hne⟩
  clear hk
  induction vs generalizing o W with
  | nil => rfl
  | cons v r ih => rw [World.setCells, ih]; rfl
theorem SB.swapB {w0 : World} {g cap Bs B n : Nat} {d : Array Hs} {W : World} (h : SB w0 g cap Bs B n d W) {i j : Nat} (hi : i < n) (hj : j < n) :
    ∃ W', (callFunc 60 #[.int .i64 (i : Int), .int .i64 (j : Int), .slice (some ⟨g, 0, none⟩) n cap, typeHandle Try.prog 29]).run Try.prog W = .ok (.value (.tuple #[])) W' ∧ SB w0 g cap Bs B n (swp d i j) W' ∧ But g W W' := by
  have := swap74 h.sw (i := i) (j := j) (by rw [h.sz]; exact hi) (by rw [h.sz]; exact hj)
  rw [h.sz] at this
  exact ⟨_, this, h.swapped hi hj, (but_setCells g _ _ _).trans (but_setCells g _ _ _)⟩

set_option maxRecDepth 100000 in
set_option maxHeartbeats 6400000 in
theorem brk79 {w0 : World} {g cap Bs n : Nat} {d : Array Hs} {w : World} (h : SW w0 g cap Bs d w) (hn : d.size = n) (a b : Nat) (hab : 12 < b - a) (hb : b ≤ n) (hsz : n < 1152921504606846976) :
    Calls Try.prog 65 #[.agg #[lessV Bs, swapV (typeHandle Try.prog 29) g cap n], .int .i64 (a : Int), .int .i64 (b : Int)] w fun e w' => e = .returned (.tuple #[]) ∧ ∃ d', PermIn a b d d' ∧ SW w0 g cap Bs d' w' := by
  have e88 : ∀ args w, (callFunc 72 args).run Try.prog w = .ok (.enter 72 args) w := enters_of Try.func72 (by kernel_rfl) rfl
  have e89 : ∀ args w, (callFunc 73 args).run Try.prog w = .ok (.enter 73 args) w := enters_of Try.func73 (by kernel_rfl) rfl
  obtain ⟨L, hL⟩ : ∃ L, b - a = L := ⟨_, rfl⟩
  have hLz : (b : Int) - (a : Int) = (L : Int) := by omega
  obtain ⟨q, hq⟩ : ∃ q, L / 4 = q := ⟨_, rfl⟩
  have hqz : (L : Int) / 4 = (q : Int) := by omega
  have hqt : (L : Int).tdiv 4 = (q : Int) := by rw [Int.tdiv_eq_ediv_of_nonneg (by omega)]; omega
  have h8z : (8 : Int) ≤ (L : Int) := by omega
  obtain ⟨M, hM⟩ : ∃ M : Nat, M = 1 <<< bitsLen L := ⟨_, rfl⟩
  have hM1 : 1 ≤ M := by rw [hM, Nat.one_shiftLeft]; exact Nat.two_pow_pos _
  have hM2 : M ≤ 2 * L := by rw [hM, Nat.one_shiftLeft]; exact two_pow_bitsLen_le (by omega)
  have HNP : Hid (∀ w, Calls Try.prog 72 #[.int .i64 (L : Int)] w fun e w' => e = .returned (.int .u64 (M : Int)) ∧ w' = w) := by
    unfold Hid; rw [hM]; exact fun w => Any.nextPowerOfTwo (ρ := sh_sl6_ren) { sh_sl6 with } L (by omega) w
  obtain ⟨i0, hi0⟩ : ∃ i0, i0 = a + q * 2 - 1 := ⟨_, rfl⟩
  have hi0z : (a : Int) + (q : Int) * 2 - 1 = (i0 : Int) := by omega
  have hi2z : (a : Int) + (q : Int) * 2 + 1 = (i0 : Int) + 2 := by omega
  have HK : Hid (a ≤ i0 ∧ i0 + 3 ≤ b ∧ b = a + L) := by unfold Hid; omega
  have hi0n : i0 + 3 ≤ n := by omega
  have haL : a + L ≤ n := by omega
  have hgw : g < w.heap.size := (World.ownsRow.lt h.own g rfl).2
  have hbw : Bs < w.heap.size := block_lt_of_cell h.box
  have h0w := h.grow.size
  have HS1 : Hid (SB w0 g cap Bs w.heap.size n d ((w.alloc (.cells #[.func (.func 39) #[] #[.pointer (some ⟨Bs, 0, none⟩)], .func (.func 60) #[] #[.slice (some ⟨g, 0, none⟩) n cap, typeHandle Try.prog 29]] 91)).alloc (.cells #[.int .u64 (L : Int)] 107))) := (SB.start h hn).after (after_alloc (After.refl _) _)
  have HR1 : Hid (RowIs ((w.alloc (.cells #[.func (.func 39) #[] #[.pointer (some ⟨Bs, 0, none⟩)], .func (.func 60) #[] #[.slice (some ⟨g, 0, none⟩) n cap, typeHandle Try.prog 29]] 91)).alloc (.cells #[.int .u64 (L : Int)] 107)) (w.heap.size + 1) 107 [.int .u64 (L : Int)]) := by
    have := RowIs.new (w.alloc (.cells #[.func (.func 39) #[] #[.pointer (some ⟨Bs, 0, none⟩)], .func (.func 60) #[] #[.slice (some ⟨g, 0, none⟩) n cap, typeHandle Try.prog 29]] 91)) 107 [.int .u64 (L : Int)]
    unfold Hid
    simpa using this
  clear hM hL hq hi0
  unfold lessV swapV
  go_enter Try.func65, Try.ntmps65
  go_wp2_with (go_at_call 72; refine Calls.mono (HNP.out _) ?_; rintro e w' ⟨rfl, rfl⟩)
  obtain ⟨B, hB⟩ : ∃ B, w.heap.size = B := ⟨_, rfl⟩
  rw [hB] at HS1 HR1 hgw hbw h0w
  rw [hB]
  obtain ⟨w1, hw1⟩ : ∃ w1, ((w.alloc (.cells #[.func (.func 39) #[] #[.pointer (some ⟨Bs, 0, none⟩)], .func (.func 60) #[] #[.slice (some ⟨g, 0, none⟩) n cap, typeHandle Try.prog 29]] 91)).alloc (.cells #[.int .u64 (L : Int)] 107)) = w1 := ⟨_, rfl⟩
  rw [hw1] at HS1 HR1
  rw [hw1]
  clear hw1 hB h hn
  go_loopw [9] (fun vi wr => ∃ (k X : Nat) (dk : Array Hs), vi = .int .i64 (k : Int) ∧ i0 ≤ k ∧ k ≤ i0 + 3 ∧ Hid (SB w0 g cap Bs B n dk wr ∧ PermIn a b d dk ∧ RowIs wr (B + 1) 107 [.int .u64 (X : Int)] ∧ X < 18446744073709551616)) (fun vi _ => i0 + 3 - (intOf vi).toNat)
  case atStart => exact ⟨i0, L, d, by go_num, Nat.le_refl _, by omega, HS1.out, permIn_refl d a b, HR1.out, by omega⟩
  case round =>
    obtain ⟨k, X, dk, rfl, hk0, hk3, HI⟩ := hrel
    by_cases hk : k ≤ i0 + 2
    · have hkz : (k : Int) ≤ (i0 : Int) + 2 := by omega
      obtain ⟨R', hR'⟩ : ∃ R' : Nat, R' = xorNextN X := ⟨_, rfl⟩
      have lR' : R' < 18446744073709551616 := by rw [hR']; exact xorNextN_lt X HI.out.2.2.2
      obtain ⟨O, hO⟩ : ∃ O : Nat, O = R' &&& (M - 1) := ⟨_, rfl⟩
      have lO : O ≤ M - 1 := by rw [hO]; exact Nat.and_le_right
      have eAnd : bits .and .u64 (R' : Int) ((M : Int) - 1) = (O : Int) := by
        rw [show ((M : Int) - 1) = ((M - 1 : Nat) : Int) by omega, bits_and_u64_nat _ _ lR' (by omega), hO]
      have HNX : Hid (Calls Try.prog 73 #[.pointer (some ⟨B + 1, 0, none⟩)] wr fun e w' => e = .returned (.int .u64 (R' : Int)) ∧ w' = (wr.setCell ⟨B + 1, 0, none⟩ (.int .u64 (R' : Int))).drewN 3) := by
        unfold Hid; rw [hR']; exact Any.xorshift_Next (ρ := sh_sl6_ren) { sh_sl6 with } _ _ X HI.out.2.2.2 wr (HI.out.2.2.1.cell (j := 0) rfl) (HI.out.2.2.1.frozen 0)
      clear hR' hO
      have b2 : But (B + 1) wr ((wr.setCell ⟨B + 1, 0, none⟩ (.int .u64 (R' : Int))).drewN 3) := ((But.refl (B + 1) wr).setCell 0 _).drew.drew.drew
      have h2 := HI.out.1.but b2 (by omega) (by omega) (by omega) (by omega)
      have r2 : RowIs ((wr.setCell ⟨B + 1, 0, none⟩ (.int .u64 (R' : Int))).drewN 3) (B + 1) 107 [.int .u64 (R' : Int)] := (HI.out.2.2.1.set 0 _).drew.drew.drew
      obtain ⟨w2, hw2⟩ : ∃ w2, (wr.setCell ⟨B + 1, 0, none⟩ (.int .u64 (R' : Int))).drewN 3 = w2 := ⟨_, rfl⟩
      rw [hw2] at HNX h2 r2
      have HS2 := show Hid (SB _ _ _ _ _ _ _ _) from h2
      have HR2 := show Hid _ from r2
      have p1 := h2.row.cell (j := 1) rfl
      unfold swapV at p1
      have hgr : B + 1 ≠ g := by omega
      clear b2 h2 r2 hw2
      by_cases hLO : L ≤ O
      · have hLOz : (L : Int) ≤ (O : Int) := by omega
        obtain ⟨jj, hjj⟩ : ∃ jj, jj = a + (O - L) := ⟨_, rfl⟩
        have hjz : (a : Int) + ((O : Int) - (L : Int)) = (jj : Int) := by omega
        have hj1 : a ≤ jj := by omega
        have hj2 : jj < a + L := by omega
        clear hjj
        obtain ⟨w3, hsw, h3, b3⟩ := HS2.out.swapB (i := k) (j := jj) (by omega) (by omega)
        have HS3 := show Hid _ from h3
        have HR3 := show Hid _ from b3.row HR2.out hgr
        clear h3 b3
        go_wp2_with (go_at_call 73; refine Calls.mono HNX.out ?_; rintro e w' ⟨rfl, rfl⟩)
        go_roundw
        case rel =>
          refine ⟨k + 1, R', swp dk k jj, by go_num, by omega, by omega, HS3.out, permIn_trans _ _ _ a b HI.out.2.1 (swp_permIn dk a b k jj (by have := HK.out; omega) (by have := HK.out; omega) (by have := HK.out; omega) (by have := HK.out; omega) (by rw [HI.out.1.sz]; exact hb)), HR3.out, lR'⟩
        case measure => simp [intOf]; omega
      · have hLOz : ¬ (L : Int) ≤ (O : Int) := by omega
        obtain ⟨jj, hjj⟩ : ∃ jj, jj = a + O := ⟨_, rfl⟩
        have hjz : (a : Int) + (O : Int) = (jj : Int) := by omega
        have hj1 : a ≤ jj := by omega
        have hj2 : jj < a + L := by omega
        clear hjj
        obtain ⟨w3, hsw, h3, b3⟩ := HS2.out.swapB (i := k) (j := jj) (by omega) (by omega)
        have HS3 := show Hid _ from h3
        have HR3 := show Hid _ from b3.row HR2.out hgr
        clear h3 b3
        go_wp2_with (go_at_call 73; refine Calls.mono HNX.out ?_; rintro e w' ⟨rfl, rfl⟩)
        go_roundw
        case rel =>
          refine ⟨k + 1, R', swp dk k jj, by go_num, by omega, by omega, HS3.out, permIn_trans _ _ _ a b HI.out.2.1 (swp_permIn dk a b k jj (by have := HK.out; omega) (by have := HK.out; omega) (by have := HK.out; omega) (by have := HK.out; omega) (by rw [HI.out.1.sz]; exact hb)), HR3.out, lR'⟩
        case measure => simp [intOf]; omega
    · have hkz : ¬ (k : Int) ≤ (i0 : Int) + 2 := by omega
      go_wp2
      go_end0
      exact ⟨rfl, dk, HI.out.2.1, HI.out.1.sw⟩

end Go.Proofs.Ytgcgblecendijaa
