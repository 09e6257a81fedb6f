/-
  slices.EqualFunc of patches (32), patch.Same (14).
-/
import Derived.Test.YtiihdhnmgbhgkaaPC
namespace Go.Proofs.Ytiihdhnmgbhgkaa
open Go.RowKit
attribute [local go_sem] Oper.semAt_some
theorem put46 {w : World} {x : Px} {W : World} (h : (w.alloc (.cells (pxc zpx).toArray 46)).setRow w.heap.size (pxc x).toArray = W) : RowIs (w.alloc (.cells (pxc zpx).toArray 46)) w.heap.size 46 (pxc zpx) ∧ RowIs W w.heap.size 46 (pxc x) ∧ After w W := by
  have h1 := RowIs.new w 46 (pxc zpx)
  rw [← h]
  exact ⟨h1, h1.setRow _, Below.row (after_alloc (After.refl w) _) (Nat.le_refl _) _⟩
theorem ps_get {xs : List Px} {i : Nat} {x : Px} (h : xs[i]? = some x) : (xs.map pxc)[i]? = some (pxc x) := by rw [List.getElem?_map, h]; rfl
def pts (xs : List Px) : List Pt := xs.map (·.p)
theorem pts_get {xs : List Px} {i : Nat} {x : Px} (h : xs[i]? = some x) : (pts xs)[i]? = some x.p := by unfold pts; rw [List.getElem?_map, h]; rfl
set_option maxRecDepth 100000 in
set_option maxHeartbeats 6400000 in
theorem equalF32 {ao bo : Option Addr} {ca cb : Nat} {la lb : List Px} {n m : Nat} (hla : la.length = n) (hlb : lb.length = m) (hbig : n ≤ 9223372036854775807) {w : World} (hA : PsAt w ao la) (hB : PsAt w bo lb) :
    Calls Try.prog 32 #[.slice ao n ca, .slice bo m cb, .func (.func 33) #[] #[]] w fun e w' => e = .returned (.bool (decide (pts la = pts lb))) ∧ After w w' := by
  have hpa : (pts la).length = n := by unfold pts; rw [List.length_map, hla]
  have hpb : (pts lb).length = m := by unfold pts; rw [List.length_map, hlb]
  by_cases hnm : n = m
  · subst hnm
    have HFA : Hid (PsAt w ao la ∧ la.length = n ∧ (pts la).length = n) := ⟨hA, hla, hpa⟩
    have HFB : Hid (PsAt w bo lb ∧ lb.length = n ∧ (pts lb).length = n) := ⟨hB, hlb, hpb⟩
    clear hA hB hla hlb hpa hpb
    go_enter Try.func32, Try.ntmps32
    go_wp2_with fail
    go_loopw [17] (fun iv wr => ∃ i : Nat, i ≤ n ∧ iv = .int .i64 (i : Int) ∧ Hid (SmI w (pts la) (pts lb) i wr)) (fun iv _ => n - (intOf iv).toNat)
    case atStart => exact ⟨0, Nat.zero_le _, rfl, After.refl w, fun j hj => by omega⟩
    case round =>
      obtain ⟨i, hin, rfl, HI⟩ := hrel
      by_cases hlt : i < n
      · have hii : (i : Int) < (n : Int) := by omega
        have HLT : Hid (i < n) := hlt
        obtain ⟨x, hx⟩ : ∃ x, la[i]? = some x := ⟨_, List.getElem?_eq_getElem (by rw [HFA.out.2.1]; exact hlt)⟩
        obtain ⟨y, hy⟩ : ∃ y, lb[i]? = some y := ⟨_, List.getElem?_eq_getElem (by rw [HFB.out.2.1]; exact hlt)⟩
        obtain ⟨xb, xo, hxa, hxr⟩ := HFA.out.1.1.at (ps_get hx)
        obtain ⟨yb, yo, hya, hyr⟩ := HFB.out.1.1.at (ps_get hy)
        subst hxa hya
        obtain ⟨W1, hW1⟩ : ∃ W1, (wr.alloc (.cells (pxc zpx).toArray 46)).setRow wr.heap.size (pxc x).toArray = W1 := ⟨_, rfl⟩
        obtain ⟨W2, hW2⟩ : ∃ W2, (W1.alloc (.cells (pxc zpx).toArray 46)).setRow W1.heap.size (pxc y).toArray = W2 := ⟨_, rfl⟩
        have HP1 := show Hid _ from put46 hW1
        have HP2 := show Hid _ from put46 hW2
        have HG1 := show Hid _ from hW1
        have HG2 := show Hid _ from hW2
        have HAA : Hid (After w W2 ∧ RowIs W2 wr.heap.size 46 (pxc x) ∧ RowIs W2 W1.heap.size 46 (pxc y)) := ⟨(HI.out.aft.trans HP1.out.2.2).trans HP2.out.2.2, HP1.out.2.1.below HP2.out.2.2 HP1.out.2.1.lt, HP2.out.2.1⟩
        have HX : Hid (wr.rangeAt xb (xo + i * 9) (pxc x)) := range_after hxr HI.out.aft
        have HY : Hid (W1.rangeAt yb (yo + i * 9) (pxc y)) := range_after hyr (HI.out.aft.trans HP1.out.2.2)
        have HC : Hid (Calls Try.prog 33 #[.agg (pxc x).toArray, .agg (pxc y).toArray] W2 fun e w' => e = .returned (.bool (decide (x.p = y.p))) ∧ After W2 w') := same33 ((HFA.out.1.2 x (List.mem_of_getElem? hx)).after HAA.out.1) ((HFB.out.1.2 y (List.mem_of_getElem? hy)).after HAA.out.1)
        have HXY : Hid ((pts la)[i]? = some x.p ∧ (pts lb)[i]? = some y.p) := ⟨pts_get hx, pts_get hy⟩
        clear hx hy hxr hyr hW1 hW2
        by_cases hxy : x.p = y.p
        · have HD : Hid (decide (x.p = y.p) = true) := decide_eq_true hxy
          go_wp2_with (first
            | (refine wpList_of_run rfl (x_idx27 (x := .tmp 15) (y := .tmp 17) (b := xb) (f := xo) (n := n) (c := ca) (k := i) rfl (by kernel_rfl) (by kernel_rfl) HLT.out) ?_)
            | (refine wpList_of_run rfl (x_ld46 (x := .tmp 20) (g := xb) (p := xo + i * 9) (y := x) rfl (by kernel_rfl) HX.out) ?_)
            | (refine wpList_of_run rfl (x_al46 rfl) ?_)
            | (refine wpList_store_row rfl 46 (.tmp 8) (.tmp 21) rfl wr.heap.size (pxc x).toArray rfl rfl 46 _ HP1.out.1 (size46 x) rfl (by simpa using pxc_one x) ?_; rw [HG1.out])
            | (refine wpList_of_run rfl (x_idx27 (x := .tmp 22) (y := .tmp 23) (b := yb) (f := yo) (n := n) (c := cb) (k := i) rfl (by kernel_rfl) (by kernel_rfl) HLT.out) ?_)
            | (refine wpList_of_run rfl (x_ld46 (x := .tmp 24) (g := yb) (p := yo + i * 9) (y := y) rfl (by kernel_rfl) HY.out) ?_)
            | (refine wpList_store_row rfl 46 (.tmp 9) (.tmp 25) rfl W1.heap.size (pxc y).toArray rfl rfl 46 _ HP2.out.1 (size46 y) rfl (by simpa using pxc_one y) ?_; rw [HG2.out])
            | (refine wpList_load_row rfl 46 (.tmp 8) rfl wr.heap.size rfl 46 (pxc x).toArray (0, 0) _ HAA.out.2.1 Try.underlying46 rfl (size46 x) ?_)
            | (refine wpList_load_row rfl 46 (.tmp 9) rfl W1.heap.size rfl 46 (pxc y).toArray (0, 0) _ HAA.out.2.2 Try.underlying46 rfl (size46 y) ?_)
            | (go_at_call 33; refine Calls.mono HC.out ?_; rintro e w3 ⟨rfl, ha3⟩; rw [HD.out]; have H3 := show Hid (After W2 w3) from ha3; clear ha3))
          go_roundw
          case rel => exact ⟨i + 1, by omega, by go_num, HAA.out.1.trans H3.out, fun j hj => by
            by_cases e : j = i
            · subst e; rw [HXY.out.1, HXY.out.2, hxy]
            · exact HI.out.pre j (by omega)⟩
          case measure => simp [intOf]; omega
        · have HD : Hid (decide (x.p = y.p) = false) := decide_eq_false hxy
          go_wp2_with (first
            | (refine wpList_of_run rfl (x_idx27 (x := .tmp 15) (y := .tmp 17) (b := xb) (f := xo) (n := n) (c := ca) (k := i) rfl (by kernel_rfl) (by kernel_rfl) HLT.out) ?_)
            | (refine wpList_of_run rfl (x_ld46 (x := .tmp 20) (g := xb) (p := xo + i * 9) (y := x) rfl (by kernel_rfl) HX.out) ?_)
            | (refine wpList_of_run rfl (x_al46 rfl) ?_)
            | (refine wpList_store_row rfl 46 (.tmp 8) (.tmp 21) rfl wr.heap.size (pxc x).toArray rfl rfl 46 _ HP1.out.1 (size46 x) rfl (by simpa using pxc_one x) ?_; rw [HG1.out])
            | (refine wpList_of_run rfl (x_idx27 (x := .tmp 22) (y := .tmp 23) (b := yb) (f := yo) (n := n) (c := cb) (k := i) rfl (by kernel_rfl) (by kernel_rfl) HLT.out) ?_)
            | (refine wpList_of_run rfl (x_ld46 (x := .tmp 24) (g := yb) (p := yo + i * 9) (y := y) rfl (by kernel_rfl) HY.out) ?_)
            | (refine wpList_store_row rfl 46 (.tmp 9) (.tmp 25) rfl W1.heap.size (pxc y).toArray rfl rfl 46 _ HP2.out.1 (size46 y) rfl (by simpa using pxc_one y) ?_; rw [HG2.out])
            | (refine wpList_load_row rfl 46 (.tmp 8) rfl wr.heap.size rfl 46 (pxc x).toArray (0, 0) _ HAA.out.2.1 Try.underlying46 rfl (size46 x) ?_)
            | (refine wpList_load_row rfl 46 (.tmp 9) rfl W1.heap.size rfl 46 (pxc y).toArray (0, 0) _ HAA.out.2.2 Try.underlying46 rfl (size46 y) ?_)
            | (go_at_call 33; refine Calls.mono HC.out ?_; rintro e w3 ⟨rfl, ha3⟩; rw [HD.out]; have H3 := show Hid (After W2 w3) from ha3; clear ha3))
          go_ret
          refine ⟨?_, HAA.out.1.trans H3.out⟩
          have : ¬ pts la = pts lb := fun e => by have h1 := HXY.out; rw [e] at h1; exact hxy (Option.some.inj (h1.1.symm.trans h1.2))
          simp [this]
      · have hii : ¬ (i : Int) < (n : Int) := by omega
        go_wp2
        go_ret
        refine ⟨?_, HI.out.aft⟩
        have : pts la = pts lb := eq_of_pre HFA.out.2.2 HFB.out.2.2 (fun j hj => HI.out.pre j (by omega))
        simp [this]
  · have hnmi : ¬ (n : Int) = (m : Int) := by omega
    have : ¬ pts la = pts lb := fun e => hnm (by rw [← hpa, ← hpb, e])
    go_enter Try.func32, Try.ntmps32
    go_wp2
    go_ret
    exact ⟨by simp [this], After.refl w⟩
set_option maxRecDepth 100000 in
set_option maxHeartbeats 6400000 in
theorem same14 {ao bo : Option Addr} {ca cb : Nat} {la lb : List Px} {n m : Nat} (hla : la.length = n) (hlb : lb.length = m) (hbig : n ≤ 9223372036854775807) {w : World} (hA : PsAt w ao la) (hB : PsAt w bo lb) :
    Calls Try.prog 14 #[.slice ao n ca, .slice bo m cb] w fun e w' => e = .returned (.bool (decide (pts la = pts lb))) ∧ After w w' := by
  have HC := show Hid _ from equalF32 (ca := ca) (cb := cb) hla hlb hbig hA hB
  clear hA hB hla hlb
  go_enter Try.func14, Try.ntmps14
  go_wp2_with (go_at_call 32; refine Calls.mono HC.out ?_; rintro e w2 ⟨rfl, ha2⟩; have HA2 := show Hid (After w w2) from ha2; clear ha2)
  go_ret
  exact ⟨rfl, HA2.out⟩
end Go.Proofs.Ytiihdhnmgbhgkaa
