/-
  index.mayBe (22).
-/
import Derived.Test.YtcmcapcagblafaaXB
namespace Go.Proofs.Ytcmcapcagblafaa
open Go.RowKit Go.Maps Dsk
attribute [local go_sem] Oper.semAt_some
theorem size41 (x : Rx) : (Try.prog.info? 41).map (·.size) = some (rxc x).toArray.size := by show _ = some 3; kernel_rfl
def zrx : Rx := ⟨[], none, 0, [], none, 0, []⟩
section
variable {oi : Oper} {a : Act} {w : World}
theorem x_ld41 {x : Operand} {g p : Nat} {y : Rx} (hop : oi.op = .load 41 x) (hx : a.eval x = .pointer (some ⟨g, p, none⟩)) (hc : w.rangeAt g p (rxc y)) : (execOp a.eval oi).run Try.prog w = .ok (.value (.agg (rxc y).toArray)) w := by
  have hi : (Try.prog.info? 41).map (·.size) = some (rxc y).length := size41 y
  unfold execOp
  simp only [hop, hx, Instr.loadAt, Instr.sureAddr, Sem.run_bind, Sem.run_pure, Result.andThen_ok, run_loadVar_mid w g p 41 (rxc y) _ hc Try.underlying41 rfl hi]
theorem x_al41 (hop : oi.op = .alloc 41) : (execOp a.eval oi).run Try.prog w = .ok (.value (.pointer (some ⟨w.heap.size, 0, none⟩))) (w.alloc (.cells (rxc zrx).toArray 41)) := by
  have hz : (zeroValue 41).run Try.prog w = .ok (.agg (rxc zrx).toArray) w := by kernel_rfl
  unfold execOp
  simp only [hop]
  simp [go_sem, hz, Value.cells]
theorem x_ix22 {x y : Operand} {b f n c i : Nat} (hop : oi.op = .indexAddr 22 x y) (hx : a.eval x = .slice (some ⟨b, f, none⟩) n c) (hy : a.eval y = .int .i64 (i : Int)) (hk : i < n) : (execOp a.eval oi).run Try.prog w = .ok (.value (.pointer (some ⟨b, f + i * 3, none⟩))) w := x_idxT (e := 41) (k := 3) Try.underlying22 (by kernel_rfl) hop hx hy hk
end
theorem put41 {w : World} {x : Rx} {W : World} (h : (w.alloc (.cells (rxc zrx).toArray 41)).setRow w.heap.size (rxc x).toArray = W) : RowIs (w.alloc (.cells (rxc zrx).toArray 41)) w.heap.size 41 (rxc zrx) ∧ RowIs W w.heap.size 41 (rxc x) ∧ After w W := by
  have h1 := RowIs.new w 41 (rxc zrx)
  rw [← h]
  exact ⟨h1, h1.setRow _, Below.row (after_alloc (After.refl w) _) (Nat.le_refl _) _⟩
/-- All the first i may be, and rise. -/
def MOkT (X : List Rx) (i : Nat) : Prop := (∀ (j : Nat) (x : Rx), j < i → X[j]? = some x → ROk (rof x)) ∧ ∀ (j : Nat) (x y : Rx), j + 1 < i → X[j]? = some x → X[j + 1]? = some y → bytesBefore x.nm y.nm = true
theorem MOkT.zero (X : List Rx) : MOkT X 0 := ⟨fun j x h => by omega, fun j x y h => by omega⟩
theorem MOkT.next {X : List Rx} {i : Nat} {x : Rx} (h : MOkT X i) (hx : X[i]? = some x) (hr : ROk (rof x)) (ha : ∀ y, i ≠ 0 → X[i - 1]? = some y → bytesBefore y.nm x.nm = true) : MOkT X (i + 1) := by
  refine ⟨fun j y hj hy => ?_, fun j y z hj hy hz => ?_⟩
  · by_cases e : j = i
    · subst e; rw [hx] at hy; cases hy; exact hr
    · exact h.1 j y (by omega) hy
  · by_cases e : j + 1 = i
    · rw [e, hx] at hz; cases hz
      exact ha y (by omega) (by rw [show i - 1 = j by omega]; exact hy)
    · exact h.2 j y z (by omega) hy hz
theorem MOkT.whole {X : List Rx} {n : Nat} (hl : X.length = n) (hn : n ≤ 64) (h : MOkT X n) : MOk (rsof X) := by
  refine ⟨by rw [rsof_len, hl]; exact hn, fun r hr => ?_, fun i p q hp hq => ?_⟩
  · obtain ⟨x, hx, rfl⟩ := List.mem_map.1 hr
    obtain ⟨j, hj⟩ := List.getElem?_of_mem hx
    exact h.1 j x (by have := (List.getElem?_eq_some_iff.1 hj).1; omega) hj
  · unfold rsof at hp hq
    rw [List.getElem?_map] at hp hq
    obtain ⟨x, hx, rfl⟩ := Option.map_eq_some_iff.1 hp
    obtain ⟨y, hy, rfl⟩ := Option.map_eq_some_iff.1 hq
    exact h.2 i x y (by have := (List.getElem?_eq_some_iff.1 hy).1; omega) hx hy
theorem MOk.at' {X : List Rx} (h : MOk (rsof X)) {i : Nat} {x : Rx} (hx : X[i]? = some x) : ROk (rof x) := h.each _ (List.mem_of_getElem? (rsof_get hx))
theorem MOk.adj' {X : List Rx} (h : MOk (rsof X)) {i : Nat} {x y : Rx} (hi : i ≠ 0) (hx : X[i]? = some x) (hy : X[i - 1]? = some y) : bytesBefore y.nm x.nm = true := h.adj (i - 1) (rof y) (rof x) (rsof_get hy) (by rw [show i - 1 + 1 = i by omega]; exact rsof_get hx)
set_option maxRecDepth 100000 in
set_option maxHeartbeats 25600000 in
theorem maybe22 {la : Option Addr} {ca n : Nat} {X : List Rx} (hl : X.length = n) (hn : n * 72 ≤ 140737488355328) {w : World} (hA : RsAt w la X) : Calls Try.prog 22 #[.slice la n ca] w (BoolT (MOk (rsof X)) w) := by
  have HL : Hid (RsAt w la X ∧ X.length = n) := ⟨hA, hl⟩
  clear hA hl
  by_cases h64 : n ≤ 64
  · have h64' : ¬ (64 : Int) < (n : Int) := by omega
    go_enter Try.func22, Try.ntmps22
    go_wp2
    go_loopw [10] (fun iv wr => ∃ (i : Nat), i ≤ n ∧ iv = .int .i64 (i : Int) ∧ Hid (After w wr ∧ MOkT X i)) (fun iv _ => n - (intOf iv).toNat)
    case atStart => exact ⟨0, Nat.zero_le _, rfl, After.refl w, MOkT.zero X⟩
    case round =>
      obtain ⟨i, hin, rfl, HP⟩ := hrel
      by_cases hlt : i < n
      · have hii : (i : Int) < (n : Int) := by omega
        have HLT : Hid (i < n) := hlt
        obtain ⟨x, hx⟩ : ∃ x, X[i]? = some x := ⟨_, List.getElem?_eq_getElem (by rw [HL.out.2]; exact hlt)⟩
        have hxb := HL.out.1.each x (List.mem_of_getElem? hx)
        obtain ⟨xb, xo, hla, hlr⟩ := HL.out.1.sl.at (rs_get hx)
        subst hla
        have HX : Hid (wr.rangeAt xb (xo + i * 3) (rxc x)) := range_after hlr HP.out.1
        obtain ⟨k, hk⟩ : ∃ k, x.X.length = k := ⟨_, rfl⟩
        obtain ⟨p, hp⟩ : ∃ p, x.l.length = p := ⟨_, rfl⟩
        obtain ⟨w2, hw2⟩ : ∃ w2, (wr.alloc (.cells (rxc zrx).toArray 41)).setRow wr.heap.size (rxc x).toArray = w2 := ⟨_, rfl⟩
        have hbb := put41 hw2
        obtain ⟨gb, hgb⟩ : ∃ gb, wr.heap.size = gb := ⟨_, rfl⟩
        have HB := show Hid _ from hbb
        have HGW := show Hid _ from hw2
        rw [hgb] at HB HGW
        have HGA := show Hid (wr.heap.size = gb) from hgb
        have hb' := HB.out.2.1
        unfold rxc at hb'
        rw [hk, hp] at hb'
        have HBR : Hid (RowIs w2 gb 41 [.string (strOf x.nm), .slice x.ba k x.bc, .slice x.a p x.c]) := hb'
        have HW2 : Hid (After w w2) := HP.out.1.trans HB.out.2.2
        have HXA : Hid (RxAt w x ∧ x.X.length = k ∧ x.l.length = p ∧ X[i]? = some x) := ⟨hxb, hk, hp, hx⟩
        have HAG : Hid ((rxc x).toArray = #[.string (strOf x.nm), .slice x.ba k x.bc, .slice x.a p x.c]) := by unfold rxc Hid; rw [hk, hp]
        have HRM : Hid (∀ W, After w2 W → Calls Try.prog 42 #[.agg (rxc x).toArray] W (BoolT (ROk (rof x)) W)) := fun W hW => by
          rw [HAG.out]
          exact rmb42 (x := x) (w := W) HXA.out.2.1 HXA.out.2.2.1 (HXA.out.1.after (HW2.out.trans hW))
        have HLDX : Hid (w2.rangeAt gb 0 (rxc x)) := fun j v hv => by rw [Nat.zero_add]; exact HB.out.2.1.cell hv
        have HXOLD : Hid (xb < w.heap.size) := range_lt hlr (by simp [rxc])
        clear hx hxb hlr hk hp hw2 hbb hgb hb'
        by_cases hi0 : i = 0
        · have HI0 : Hid (decide (0 < i) = false) := by rw [hi0]; exact (rfl : decide (0 < 0) = false)
          have HBO : Hid (∀ y, i ≠ 0 → X[i - 1]? = some y → bytesBefore y.nm x.nm = true) := fun y h => absurd hi0 h
          clear hi0
          go_wp2_with (first
            | (refine wpList_of_run rfl (x_ix22 (x := .tmp 8) (y := .tmp 10) (b := xb) (f := xo) (n := n) (c := ca) (i := i) rfl (by kernel_rfl) (by kernel_rfl) HLT.out) ?_)
            | (refine wpList_of_run rfl (x_ld41 (x := .tmp 13) (g := xb) (p := xo + i * 3) (y := x) rfl (by kernel_rfl) HX.out) ?_)
            | (refine wpList_of_run rfl (x_al41 rfl) ?_; rw [HGA.out])
            | (refine wpList_store_row rfl 41 (.tmp 4) (.tmp 14) rfl gb (rxc x).toArray (by kernel_rfl) (by kernel_rfl) 41 _ HB.out.1 (size41 x) rfl (by simpa using rs_one [x] (rxc x) (by simp [rsL])) ?_; rw [HGW.out]))
          refine wp_region_noPanic ?_
          refine wp_region_held_drew (S := After w2) (by kernel_rfl) (After.drew (After.refl w2)) ?_
          intro hS0
          refine tk 0 15 (.int .i64 (i : Int)) (fuel := 17) rfl (by kernel_rfl) (by kernel_rfl) (by kernel_rfl) (by kernel_rfl) noPanic_false (by kernel_rfl) (fun _ _ => by kernel_rfl) hS0 ?_
          refine tk 1 16 (.bool false) (fuel := 16) rfl (by kernel_rfl) (by kernel_rfl) (by kernel_rfl) (by kernel_rfl) noPanic_false (by kernel_rfl) (fun W _ => (x_gtr0 (x := .tmp 15) (k := i) (by kernel_rfl) (by kernel_rfl)).trans (by rw [HI0.out])) hS0 ?_
          refine tk 2 17 (.bool false) (fuel := 15) rfl (by kernel_rfl) (by kernel_rfl) (by kernel_rfl) (by kernel_rfl) noPanic_false (by kernel_rfl) (fun _ _ => by kernel_rfl) hS0 ?_
          refine tkSkip 3 18 (fuel := 14) rfl (by kernel_rfl) (by kernel_rfl) (by kernel_rfl) (by kernel_rfl) noPanic_false (by kernel_rfl) hS0 ?_
          refine tkSkip 4 19 (fuel := 13) rfl (by kernel_rfl) (by kernel_rfl) (by kernel_rfl) (by kernel_rfl) noPanic_false (by kernel_rfl) hS0 ?_
          refine tkSkip 5 20 (fuel := 12) rfl (by kernel_rfl) (by kernel_rfl) (by kernel_rfl) (by kernel_rfl) noPanic_false (by kernel_rfl) hS0 ?_
          refine tkSkip 6 21 (fuel := 11) rfl (by kernel_rfl) (by kernel_rfl) (by kernel_rfl) (by kernel_rfl) noPanic_false (by kernel_rfl) hS0 ?_
          refine tkSkip 7 22 (fuel := 10) rfl (by kernel_rfl) (by kernel_rfl) (by kernel_rfl) (by kernel_rfl) noPanic_false (by kernel_rfl) hS0 ?_
          refine tkSkip 8 23 (fuel := 9) rfl (by kernel_rfl) (by kernel_rfl) (by kernel_rfl) (by kernel_rfl) noPanic_false (by kernel_rfl) hS0 ?_
          refine tkSkip 9 24 (fuel := 8) rfl (by kernel_rfl) (by kernel_rfl) (by kernel_rfl) (by kernel_rfl) noPanic_false (by kernel_rfl) hS0 ?_
          refine tkSkip 10 25 (fuel := 7) rfl (by kernel_rfl) (by kernel_rfl) (by kernel_rfl) (by kernel_rfl) noPanic_false (by kernel_rfl) hS0 ?_
          refine tkSkip 11 26 (fuel := 6) rfl (by kernel_rfl) (by kernel_rfl) (by kernel_rfl) (by kernel_rfl) noPanic_false (by kernel_rfl) hS0 ?_
          refine tk 12 27 (.bool false) (fuel := 5) rfl (by kernel_rfl) (by kernel_rfl) (by kernel_rfl) (by kernel_rfl) noPanic_false (by kernel_rfl) (fun _ _ => by kernel_rfl) hS0 ?_
          refine tk 13 28 (.bool false) (fuel := 4) rfl (by kernel_rfl) (by kernel_rfl) (by kernel_rfl) (by kernel_rfl) noPanic_false (by kernel_rfl) (fun _ _ => by kernel_rfl) hS0 ?_
          refine tk 14 29 (.agg (rxc x).toArray) (fuel := 3) rfl (by kernel_rfl) (by kernel_rfl) (by kernel_rfl) (by kernel_rfl) noPanic_false (by kernel_rfl) (fun W hW => x_ld41 (x := .tmp 4) (g := gb) (p := 0) (y := x) (by kernel_rfl) (by kernel_rfl) (range_after HLDX.out hW)) hS0 ?_
          refine tkCallZ 15 30 42 #[.agg (rxc x).toArray] (fun v w' => ∃ b : Bool, v = .bool b ∧ (b = true ↔ ROk (rof x)) ∧ After w2.drew w') (fuel := 2) rfl (by kernel_rfl) (by kernel_rfl) (by kernel_rfl) (fun _ => by kernel_rfl) ((HRM.out _ (After.drew (After.refl w2))).mono (fun e w' ⟨b, he, h1, h2⟩ => ⟨_, he, b, rfl, h1, h2⟩)) ?_
          intro v1 w1 ⟨b, hv1, k1, k2⟩
          subst hv1
          refine ⟨(After.drew (After.refl w2)).trans k2, ?_⟩
          refine tk 16 31 (.bool (!b)) (fuel := 1) rfl (by kernel_rfl) (by kernel_rfl) (by kernel_rfl) (by kernel_rfl) noPanic_false (by kernel_rfl) (fun _ _ => by kernel_rfl) ((After.drew (After.refl w2)).trans k2) ?_
          refine tk 17 32 (.bool (!b)) (fuel := 0) rfl (by kernel_rfl) (by kernel_rfl) (by kernel_rfl) (by kernel_rfl) noPanic_false (by kernel_rfl) (fun _ _ => by kernel_rfl) ((After.drew (After.refl w2)).trans k2) ?_
          refine wpAnyH_done (by kernel_rfl) (NoPanic.normal ?_) _
          have HFI : Hid (After w w1 ∧ (b = true ↔ ROk (rof x))) := ⟨HW2.out.trans ((After.drew (After.refl w2)).trans k2), k1⟩
          clear hS0 k1 k2
          go_simp
          cases b with
          | true =>
            have HN : Hid (After w w1 ∧ MOkT X (i + 1)) := ⟨HFI.out.1, HP.out.2.next HXA.out.2.2.2 (HFI.out.2.1 rfl) HBO.out⟩
            go_wp2
            go_roundw
            case rel => exact ⟨i + 1, by omega, by go_num, HN⟩
            case measure => simp [intOf]; omega
          | false =>
            have HBAD : Hid (¬ MOk (rsof X)) := fun hk => by
              have h9 := HFI.out.2.2 (hk.at' HXA.out.2.2.2)
              cases h9
            go_wp2
            refine bodyPost_ret (v := .bool false) (by simp [results, Try.results22, go_sem]) rfl ⟨false, rfl, ⟨fun h => (by cases h), fun h => absurd h HBAD.out⟩, HFI.out.1⟩
        · obtain ⟨j, hj⟩ : ∃ j, i = j + 1 := ⟨i - 1, by omega⟩
          have HI0 : Hid (decide (0 < i) = true) := decide_eq_true (by omega)
          have HJ : Hid (i = j + 1 ∧ i < 4611686018427387904 ∧ j < n) := ⟨hj, by omega, by omega⟩
          obtain ⟨y, hy⟩ : ∃ y, X[j]? = some y := ⟨_, List.getElem?_eq_getElem (by rw [HL.out.2]; omega)⟩
          obtain ⟨yb, yo, hya, hyr⟩ := HL.out.1.sl.at (rs_get hy)
          cases hya
          have HY : Hid (w2.rangeAt xb (xo + j * 3) (rxc y)) := range_after hyr HW2.out
          have HYO : Hid (X[j]? = some y) := hy
          clear hj hy hyr hi0
          by_cases hge : bytesBefore y.nm x.nm = true
          · have HGE : Hid (bytesBefore y.nm x.nm = true) := hge
            have HBO : Hid (∀ z, i ≠ 0 → X[i - 1]? = some z → bytesBefore z.nm x.nm = true) := fun z _ h => by rw [HJ.out.1, Nat.add_sub_cancel, HYO.out] at h; cases h; exact HGE.out
            clear hge
            go_wp2_with (first
              | (refine wpList_of_run rfl (x_ix22 (x := .tmp 8) (y := .tmp 10) (b := xb) (f := xo) (n := n) (c := ca) (i := i) rfl (by kernel_rfl) (by kernel_rfl) HLT.out) ?_)
              | (refine wpList_of_run rfl (x_ld41 (x := .tmp 13) (g := xb) (p := xo + i * 3) (y := x) rfl (by kernel_rfl) HX.out) ?_)
              | (refine wpList_of_run rfl (x_al41 rfl) ?_; rw [HGA.out])
              | (refine wpList_store_row rfl 41 (.tmp 4) (.tmp 14) rfl gb (rxc x).toArray (by kernel_rfl) (by kernel_rfl) 41 _ HB.out.1 (size41 x) rfl (by simpa using rs_one [x] (rxc x) (by simp [rsL])) ?_; rw [HGW.out]))
            refine wp_region_noPanic ?_
            refine wp_region_held_drew (S := After w2) (by kernel_rfl) (After.drew (After.refl w2)) ?_
            intro hS0
            refine tk 0 15 (.int .i64 (i : Int)) (fuel := 17) rfl (by kernel_rfl) (by kernel_rfl) (by kernel_rfl) (by kernel_rfl) noPanic_false (by kernel_rfl) (fun _ _ => by kernel_rfl) hS0 ?_
            refine tk 1 16 (.bool true) (fuel := 16) rfl (by kernel_rfl) (by kernel_rfl) (by kernel_rfl) (by kernel_rfl) noPanic_false (by kernel_rfl) (fun W _ => (x_gtr0 (x := .tmp 15) (k := i) (by kernel_rfl) (by kernel_rfl)).trans (by rw [HI0.out])) hS0 ?_
            refine tk 2 17 (.bool true) (fuel := 15) rfl (by kernel_rfl) (by kernel_rfl) (by kernel_rfl) (by kernel_rfl) noPanic_false (by kernel_rfl) (fun _ _ => by kernel_rfl) hS0 ?_
            refine tk 3 18 (.slice (some ⟨xb, xo, none⟩) n ca) (fuel := 14) rfl (by kernel_rfl) (by kernel_rfl) (by kernel_rfl) (by kernel_rfl) noPanic_false (by kernel_rfl) (fun _ _ => by kernel_rfl) hS0 ?_
            refine tk 4 19 (.int .i64 (i : Int)) (fuel := 13) rfl (by kernel_rfl) (by kernel_rfl) (by kernel_rfl) (by kernel_rfl) noPanic_false (by kernel_rfl) (fun _ _ => by kernel_rfl) hS0 ?_
            refine tk 5 20 (.int .i64 (j : Int)) (fuel := 12) rfl (by kernel_rfl) (by kernel_rfl) (by kernel_rfl) (by kernel_rfl) noPanic_false (by kernel_rfl) (fun W _ => x_sub1 (k := i) (i := j) (x := .tmp 19) (by kernel_rfl) (by kernel_rfl) HJ.out.1 HJ.out.2.1) hS0 ?_
            refine tk 6 21 (.pointer (some ⟨xb, xo + j * 3, none⟩)) (fuel := 11) rfl (by kernel_rfl) (by kernel_rfl) (by kernel_rfl) (by kernel_rfl) noPanic_false (by kernel_rfl) (fun W _ => x_ix22 (n := n) (c := ca) (x := .tmp 18) (y := .tmp 20) (by kernel_rfl) (by kernel_rfl) (by kernel_rfl) HJ.out.2.2) hS0 ?_
            refine tk 7 22 (.pointer (some ⟨xb, xo + j * 3, none⟩)) (fuel := 10) rfl (by kernel_rfl) (by kernel_rfl) (by kernel_rfl) (by kernel_rfl) noPanic_false (by kernel_rfl) (fun _ _ => by kernel_rfl) hS0 ?_
            refine tk 8 23 (.string (strOf y.nm)) (fuel := 9) rfl (by kernel_rfl) (by kernel_rfl) (by kernel_rfl) (by kernel_rfl) noPanic_false (by kernel_rfl) (fun W hW => x_loadT (x := .tmp 22) (t := 9) (g := xb) (j := xo + j * 3 + 0) Try.underlying9 rfl (by kernel_rfl) (by kernel_rfl) (range_after HY.out hW 0 _ rfl)) hS0 ?_
            refine tk 9 24 (.pointer (some ⟨gb, 0, none⟩)) (fuel := 8) rfl (by kernel_rfl) (by kernel_rfl) (by kernel_rfl) (by kernel_rfl) noPanic_false (by kernel_rfl) (fun _ _ => by kernel_rfl) hS0 ?_
            refine tk 10 25 (.string (strOf x.nm)) (fuel := 7) rfl (by kernel_rfl) (by kernel_rfl) (by kernel_rfl) (by kernel_rfl) noPanic_false (by kernel_rfl) (fun W hW => x_loadT (x := .tmp 24) (t := 9) (g := gb) (j := 0) Try.underlying9 rfl (by kernel_rfl) (by kernel_rfl) ((HBR.out.below hW HBR.out.lt).cell (j := 0) rfl)) hS0 ?_
            refine tk 11 26 (.bool false) (fuel := 6) rfl (by kernel_rfl) (by kernel_rfl) (by kernel_rfl) (by kernel_rfl) noPanic_false (by kernel_rfl) (fun W _ => (x_geq9 (s := y.nm) (t := x.nm) (x := .tmp 23) (y := .tmp 25) (by kernel_rfl) (by kernel_rfl) (by kernel_rfl)).trans (by rw [HGE.out]; rfl)) hS0 ?_
            refine tk 12 27 (.bool false) (fuel := 5) rfl (by kernel_rfl) (by kernel_rfl) (by kernel_rfl) (by kernel_rfl) noPanic_false (by kernel_rfl) (fun _ _ => by kernel_rfl) hS0 ?_
            refine tk 13 28 (.bool false) (fuel := 4) rfl (by kernel_rfl) (by kernel_rfl) (by kernel_rfl) (by kernel_rfl) noPanic_false (by kernel_rfl) (fun _ _ => by kernel_rfl) hS0 ?_
            refine tk 14 29 (.agg (rxc x).toArray) (fuel := 3) rfl (by kernel_rfl) (by kernel_rfl) (by kernel_rfl) (by kernel_rfl) noPanic_false (by kernel_rfl) (fun W hW => x_ld41 (x := .tmp 4) (g := gb) (p := 0) (y := x) (by kernel_rfl) (by kernel_rfl) (range_after HLDX.out hW)) hS0 ?_
            refine tkCallZ 15 30 42 #[.agg (rxc x).toArray] (fun v w' => ∃ b : Bool, v = .bool b ∧ (b = true ↔ ROk (rof x)) ∧ After w2.drew w') (fuel := 2) rfl (by kernel_rfl) (by kernel_rfl) (by kernel_rfl) (fun _ => by kernel_rfl) ((HRM.out _ (After.drew (After.refl w2))).mono (fun e w' ⟨b, he, h1, h2⟩ => ⟨_, he, b, rfl, h1, h2⟩)) ?_
            intro v1 w1 ⟨b, hv1, k1, k2⟩
            subst hv1
            refine ⟨(After.drew (After.refl w2)).trans k2, ?_⟩
            refine tk 16 31 (.bool (!b)) (fuel := 1) rfl (by kernel_rfl) (by kernel_rfl) (by kernel_rfl) (by kernel_rfl) noPanic_false (by kernel_rfl) (fun _ _ => by kernel_rfl) ((After.drew (After.refl w2)).trans k2) ?_
            refine tk 17 32 (.bool (!b)) (fuel := 0) rfl (by kernel_rfl) (by kernel_rfl) (by kernel_rfl) (by kernel_rfl) noPanic_false (by kernel_rfl) (fun _ _ => by kernel_rfl) ((After.drew (After.refl w2)).trans k2) ?_
            refine wpAnyH_done (by kernel_rfl) (NoPanic.normal ?_) _
            have HFI : Hid (After w w1 ∧ (b = true ↔ ROk (rof x))) := ⟨HW2.out.trans ((After.drew (After.refl w2)).trans k2), k1⟩
            clear hS0 k1 k2
            go_simp
            cases b with
            | true =>
              have HN : Hid (After w w1 ∧ MOkT X (i + 1)) := ⟨HFI.out.1, HP.out.2.next HXA.out.2.2.2 (HFI.out.2.1 rfl) HBO.out⟩
              go_wp2
              go_roundw
              case rel => exact ⟨i + 1, by omega, by go_num, HN⟩
              case measure => simp [intOf]; omega
            | false =>
              have HBAD : Hid (¬ MOk (rsof X)) := fun hk => by
                have h9 := HFI.out.2.2 (hk.at' HXA.out.2.2.2)
                cases h9
              go_wp2
              refine bodyPost_ret (v := .bool false) (by simp [results, Try.results22, go_sem]) rfl ⟨false, rfl, ⟨fun h => (by cases h), fun h => absurd h HBAD.out⟩, HFI.out.1⟩
          · have HGE : Hid (bytesBefore y.nm x.nm = false) := by have h9 : bytesBefore y.nm x.nm = false := by simpa using hge
                                                                 exact h9
            have HBAD : Hid (¬ MOk (rsof X)) := fun hk => by
              have h9 := hk.adj' (i := i) (by have := HJ.out.1; omega) HXA.out.2.2.2 (by rw [HJ.out.1, Nat.add_sub_cancel]; exact HYO.out)
              rw [HGE.out] at h9; cases h9
            clear hge
            go_wp2_with (first
              | (refine wpList_of_run rfl (x_ix22 (x := .tmp 8) (y := .tmp 10) (b := xb) (f := xo) (n := n) (c := ca) (i := i) rfl (by kernel_rfl) (by kernel_rfl) HLT.out) ?_)
              | (refine wpList_of_run rfl (x_ld41 (x := .tmp 13) (g := xb) (p := xo + i * 3) (y := x) rfl (by kernel_rfl) HX.out) ?_)
              | (refine wpList_of_run rfl (x_al41 rfl) ?_; rw [HGA.out])
              | (refine wpList_store_row rfl 41 (.tmp 4) (.tmp 14) rfl gb (rxc x).toArray (by kernel_rfl) (by kernel_rfl) 41 _ HB.out.1 (size41 x) rfl (by simpa using rs_one [x] (rxc x) (by simp [rsL])) ?_; rw [HGW.out]))
            refine wp_region_noPanic ?_
            refine wp_region_held_drew (S := After w2) (by kernel_rfl) (After.drew (After.refl w2)) ?_
            intro hS0
            refine tk 0 15 (.int .i64 (i : Int)) (fuel := 17) rfl (by kernel_rfl) (by kernel_rfl) (by kernel_rfl) (by kernel_rfl) noPanic_false (by kernel_rfl) (fun _ _ => by kernel_rfl) hS0 ?_
            refine tk 1 16 (.bool true) (fuel := 16) rfl (by kernel_rfl) (by kernel_rfl) (by kernel_rfl) (by kernel_rfl) noPanic_false (by kernel_rfl) (fun W _ => (x_gtr0 (x := .tmp 15) (k := i) (by kernel_rfl) (by kernel_rfl)).trans (by rw [HI0.out])) hS0 ?_
            refine tk 2 17 (.bool true) (fuel := 15) rfl (by kernel_rfl) (by kernel_rfl) (by kernel_rfl) (by kernel_rfl) noPanic_false (by kernel_rfl) (fun _ _ => by kernel_rfl) hS0 ?_
            refine tk 3 18 (.slice (some ⟨xb, xo, none⟩) n ca) (fuel := 14) rfl (by kernel_rfl) (by kernel_rfl) (by kernel_rfl) (by kernel_rfl) noPanic_false (by kernel_rfl) (fun _ _ => by kernel_rfl) hS0 ?_
            refine tk 4 19 (.int .i64 (i : Int)) (fuel := 13) rfl (by kernel_rfl) (by kernel_rfl) (by kernel_rfl) (by kernel_rfl) noPanic_false (by kernel_rfl) (fun _ _ => by kernel_rfl) hS0 ?_
            refine tk 5 20 (.int .i64 (j : Int)) (fuel := 12) rfl (by kernel_rfl) (by kernel_rfl) (by kernel_rfl) (by kernel_rfl) noPanic_false (by kernel_rfl) (fun W _ => x_sub1 (k := i) (i := j) (x := .tmp 19) (by kernel_rfl) (by kernel_rfl) HJ.out.1 HJ.out.2.1) hS0 ?_
            refine tk 6 21 (.pointer (some ⟨xb, xo + j * 3, none⟩)) (fuel := 11) rfl (by kernel_rfl) (by kernel_rfl) (by kernel_rfl) (by kernel_rfl) noPanic_false (by kernel_rfl) (fun W _ => x_ix22 (n := n) (c := ca) (x := .tmp 18) (y := .tmp 20) (by kernel_rfl) (by kernel_rfl) (by kernel_rfl) HJ.out.2.2) hS0 ?_
            refine tk 7 22 (.pointer (some ⟨xb, xo + j * 3, none⟩)) (fuel := 10) rfl (by kernel_rfl) (by kernel_rfl) (by kernel_rfl) (by kernel_rfl) noPanic_false (by kernel_rfl) (fun _ _ => by kernel_rfl) hS0 ?_
            refine tk 8 23 (.string (strOf y.nm)) (fuel := 9) rfl (by kernel_rfl) (by kernel_rfl) (by kernel_rfl) (by kernel_rfl) noPanic_false (by kernel_rfl) (fun W hW => x_loadT (x := .tmp 22) (t := 9) (g := xb) (j := xo + j * 3 + 0) Try.underlying9 rfl (by kernel_rfl) (by kernel_rfl) (range_after HY.out hW 0 _ rfl)) hS0 ?_
            refine tk 9 24 (.pointer (some ⟨gb, 0, none⟩)) (fuel := 8) rfl (by kernel_rfl) (by kernel_rfl) (by kernel_rfl) (by kernel_rfl) noPanic_false (by kernel_rfl) (fun _ _ => by kernel_rfl) hS0 ?_
            refine tk 10 25 (.string (strOf x.nm)) (fuel := 7) rfl (by kernel_rfl) (by kernel_rfl) (by kernel_rfl) (by kernel_rfl) noPanic_false (by kernel_rfl) (fun W hW => x_loadT (x := .tmp 24) (t := 9) (g := gb) (j := 0) Try.underlying9 rfl (by kernel_rfl) (by kernel_rfl) ((HBR.out.below hW HBR.out.lt).cell (j := 0) rfl)) hS0 ?_
            refine tk 11 26 (.bool true) (fuel := 6) rfl (by kernel_rfl) (by kernel_rfl) (by kernel_rfl) (by kernel_rfl) noPanic_false (by kernel_rfl) (fun W _ => (x_geq9 (s := y.nm) (t := x.nm) (x := .tmp 23) (y := .tmp 25) (by kernel_rfl) (by kernel_rfl) (by kernel_rfl)).trans (by rw [HGE.out]; rfl)) hS0 ?_
            refine tk 12 27 (.bool true) (fuel := 5) rfl (by kernel_rfl) (by kernel_rfl) (by kernel_rfl) (by kernel_rfl) noPanic_false (by kernel_rfl) (fun _ _ => by kernel_rfl) hS0 ?_
            refine tk 13 28 (.bool true) (fuel := 4) rfl (by kernel_rfl) (by kernel_rfl) (by kernel_rfl) (by kernel_rfl) noPanic_false (by kernel_rfl) (fun _ _ => by kernel_rfl) hS0 ?_
            refine tkSkip 14 29 (fuel := 3) rfl (by kernel_rfl) (by kernel_rfl) (by kernel_rfl) (by kernel_rfl) noPanic_false (by kernel_rfl) hS0 ?_
            refine tkSkip 15 30 (fuel := 2) rfl (by kernel_rfl) (by kernel_rfl) (by kernel_rfl) (by kernel_rfl) noPanic_false (by kernel_rfl) hS0 ?_
            refine tkSkip 16 31 (fuel := 1) rfl (by kernel_rfl) (by kernel_rfl) (by kernel_rfl) (by kernel_rfl) noPanic_false (by kernel_rfl) hS0 ?_
            refine tk 17 32 (.bool true) (fuel := 0) rfl (by kernel_rfl) (by kernel_rfl) (by kernel_rfl) (by kernel_rfl) noPanic_false (by kernel_rfl) (fun _ _ => by kernel_rfl) hS0 ?_
            refine wpAnyH_done (by kernel_rfl) (NoPanic.normal ?_) _
            have HFI : Hid (After w w2.drew) := HW2.out.trans (After.drew (After.refl w2))
            clear hS0
            go_simp
            go_wp2
            refine bodyPost_ret (v := .bool false) (by simp [results, Try.results22, go_sem]) rfl ⟨false, rfl, ⟨fun h => (by cases h), fun h => absurd h HBAD.out⟩, HFI.out⟩
      · have hii : ¬ (i : Int) < (n : Int) := by omega
        have HF : Hid (After w wr ∧ MOk (rsof X)) := ⟨HP.out.1, by
          have hie : i = n := by omega
          subst hie
          exact HP.out.2.whole HL.out.2 h64⟩
        go_wp2
        refine bodyPost_ret (v := .bool true) (by simp [results, Try.results22, go_sem]) rfl ⟨true, rfl, ⟨fun _ => HF.out.2, fun _ => rfl⟩, HF.out.1⟩
  · have h64' : (64 : Int) < (n : Int) := by omega
    have HBAD : Hid (¬ MOk (rsof X)) := fun h => by have := h.few; rw [rsof_len, HL.out.2] at this; exact h64 this
    clear h64
    go_enter Try.func22, Try.ntmps22
    go_wp2
    refine bodyPost_ret (v := .bool false) (by simp [results, Try.results22, go_sem]) rfl ⟨false, rfl, ⟨fun h => (by cases h), fun h => absurd h HBAD.out⟩, After.refl w⟩
end Go.Proofs.Ytcmcapcagblafaa
