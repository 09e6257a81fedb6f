/-
  THE WALKS OF slices.Equal, hashes.Same, ref.Has; (set).part; hashes.Union, Minus, Meet.
-/
import Derived.Test.YtedghldjpkabmaaEasy
namespace Go.Proofs.Ytedghldjpkabmaa
open Go.RowKit Go.Maps Go.Sort
set_option maxRecDepth 100000 in
set_option maxHeartbeats 3200000 in
theorem equal39 (ao bo : Option Addr) (ca cb : Nat) (la lb : List Hs) (ha32 : All32 la) (hb32 : All32 lb) (n m : Nat) (hla : la.length = n) (hlb : lb.length = m) (hbig : n ≤ 1152921504606846976) (w : World) (hA : HsAt w ao la) (hB : HsAt w bo lb) :
    Calls Try.prog 39 #[.slice ao n ca, .slice bo m cb] w fun e w' => e = .returned (.bool (decide (la = lb))) ∧ After w w' := by
  by_cases hnm : n = m
  · subst hnm
    have HFA : Hid (HsAt w ao la ∧ All32 la ∧ la.length = n) := ⟨hA, ha32, hla⟩
    have HFB : Hid (HsAt w bo lb ∧ All32 lb ∧ lb.length = n) := ⟨hB, hb32, hlb⟩
    clear hA hB ha32 hb32 hla hlb
    go_enter Try.func39, Try.ntmps39
    go_wp2_with fail
    go_loopw [13] (fun iv wr => ∃ i : Nat, i ≤ n ∧ iv = .int .i64 (i : Int) ∧ Hid (SmI w la lb i wr)) (fun iv _ => n - (intOf iv).toNat)
    case atStart => exact ⟨0, Nat.zero_le _, rfl, After.refl w, fun j hj => by omega⟩
    case round =>
      obtain ⟨i, hin, rfl, HI⟩ := hrel
      by_cases hlt : i < n
      · have hii : (i : Int) < (n : Int) := by omega
        obtain ⟨x, hx⟩ : ∃ x, la[i]? = some x := ⟨_, List.getElem?_eq_getElem (by rw [HFA.out.2.2]; exact hlt)⟩
        obtain ⟨y, hy⟩ : ∃ y, lb[i]? = some y := ⟨_, List.getElem?_eq_getElem (by rw [HFB.out.2.2]; exact hlt)⟩
        obtain ⟨xb, xo, hxa, hxr⟩ := HFA.out.1.get HFA.out.2.1 (by intro e; rw [e] at hx; simp at hx)
        obtain ⟨yb, yo, hya, hyr⟩ := HFB.out.1.get HFB.out.2.1 (by intro e; rw [e] at hy; simp at hy)
        subst hxa hya
        have HX : Hid (x.length = 32 ∧ wr.rangeAt xb (xo + i * 32) (c8 x)) := ⟨HFA.out.2.1.at hx, range_after (hxr i x hx) HI.out.aft⟩
        have HY : Hid (y.length = 32 ∧ wr.rangeAt yb (yo + i * 32) (c8 y)) := ⟨HFB.out.2.1.at hy, range_after (hyr i y hy) HI.out.aft⟩
        have HXY : Hid (la[i]? = some x ∧ lb[i]? = some y) := ⟨hx, hy⟩
        clear hx hy hxr hyr
        go_wp2_with fail
        refine wp_region_noPanic ?_
        refine wp_region_held_drew (S := After wr) (by kernel_rfl) (After.drew (After.refl wr)) ?_
        intro hS0
        refine tk 0 16 (.slice (some ⟨xb, xo, none⟩) n ca) (fuel := 8) rfl (by kernel_rfl) (by kernel_rfl) (by kernel_rfl) (by kernel_rfl) noPanic_false (by kernel_rfl) (fun _ _ => by kernel_rfl) hS0 ?_
        refine tk 1 17 (.int .i64 (i : Int)) (fuel := 7) rfl (by kernel_rfl) (by kernel_rfl) (by kernel_rfl) (by kernel_rfl) noPanic_false (by kernel_rfl) (fun _ _ => by kernel_rfl) hS0 ?_
        refine tk 2 18 (.pointer (some ⟨xb, xo + i * 32, none⟩)) (fuel := 6) rfl (by kernel_rfl) (by kernel_rfl) (by kernel_rfl) (by kernel_rfl) noPanic_false (by kernel_rfl) (fun W _ => x_idx22 (n := n) (c := ca) (x := .tmp 16) (y := .tmp 17) (by kernel_rfl) (by kernel_rfl) (by kernel_rfl) hlt) hS0 ?_
        refine tk 3 19 (hv x) (fuel := 5) rfl (by kernel_rfl) (by kernel_rfl) (by kernel_rfl) (by kernel_rfl) noPanic_false (by kernel_rfl) (fun W hW => x_ld24 HX.out.1 (x := .tmp 18) (g := xb) (p := xo + i * 32) (by kernel_rfl) (by kernel_rfl) (range_after HX.out.2 hW)) hS0 ?_
        refine tk 4 20 (.slice (some ⟨yb, yo, none⟩) n cb) (fuel := 4) rfl (by kernel_rfl) (by kernel_rfl) (by kernel_rfl) (by kernel_rfl) noPanic_false (by kernel_rfl) (fun _ _ => by kernel_rfl) hS0 ?_
        refine tk 5 21 (.int .i64 (i : Int)) (fuel := 3) rfl (by kernel_rfl) (by kernel_rfl) (by kernel_rfl) (by kernel_rfl) noPanic_false (by kernel_rfl) (fun _ _ => by kernel_rfl) hS0 ?_
        refine tk 6 22 (.pointer (some ⟨yb, yo + i * 32, none⟩)) (fuel := 2) rfl (by kernel_rfl) (by kernel_rfl) (by kernel_rfl) (by kernel_rfl) noPanic_false (by kernel_rfl) (fun W _ => x_idx22 (n := n) (c := cb) (x := .tmp 20) (y := .tmp 21) (by kernel_rfl) (by kernel_rfl) (by kernel_rfl) hlt) hS0 ?_
        refine tk 7 23 (hv y) (fuel := 1) rfl (by kernel_rfl) (by kernel_rfl) (by kernel_rfl) (by kernel_rfl) noPanic_false (by kernel_rfl) (fun W hW => x_ld24 HY.out.1 (x := .tmp 22) (g := yb) (p := yo + i * 32) (by kernel_rfl) (by kernel_rfl) (range_after HY.out.2 hW)) hS0 ?_
        refine tk 8 24 (.bool (!decide (x = y))) (fuel := 0) rfl (by kernel_rfl) (by kernel_rfl) (by kernel_rfl) (by kernel_rfl) noPanic_false (by kernel_rfl) (fun W hW => x_ne24 HX.out.1 HY.out.1 (x := .tmp 19) (y := .tmp 23) (by kernel_rfl) (by kernel_rfl) (by kernel_rfl)) hS0 ?_
        refine wpAnyH_done (by kernel_rfl) (NoPanic.normal ?_) _
        have HA1 : Hid (After w wr.drew) := After.trans HI.out.aft hS0
        clear hS0
        by_cases hxy : x = y
        · have hd : (!decide (x = y)) = false := by simp [hxy]
          rw [hd]
          go_simp
          go_wp2
          go_roundw
          case rel => exact ⟨i + 1, by omega, by go_num, HA1.out, fun j hj => by
            by_cases e : j = i
            · subst e; rw [HXY.out.1, HXY.out.2, hxy]
            · exact HI.out.pre j (by omega)⟩
          case measure => simp [intOf]; omega
        · have hd : (!decide (x = y)) = true := by simp [hxy]
          rw [hd]
          go_simp
          go_wp2
          go_ret
          refine ⟨?_, HA1.out⟩
          have : ¬ la = lb := fun e => by have h1 := HXY.out; rw [e] at h1; exact hxy (Option.some.inj (h1.1.symm.trans h1.2))
          simp [this]
      · have hii : ¬ (i : Int) < (n : Int) := by omega
        go_wp2
        go_ret
        refine ⟨?_, HI.out.aft⟩
        have : la = lb := eq_of_pre HFA.out.2.2 HFB.out.2.2 (fun j hj => HI.out.pre j (by omega))
        simp [this]
  · have hnmi : ¬ (n : Int) = (m : Int) := by omega
    have : ¬ la = lb := fun e => hnm (by rw [← hla, ← hlb, e])
    go_enter Try.func39, Try.ntmps39
    go_wp2
    go_ret
    exact ⟨by simp [this], After.refl w⟩
set_option maxRecDepth 100000 in
set_option maxHeartbeats 3200000 in
theorem same17 (ao bo : Option Addr) (ca cb : Nat) (la lb : List Hs) (ha32 : All32 la) (hb32 : All32 lb) (n m : Nat) (hla : la.length = n) (hlb : lb.length = m) (hbig : n ≤ 1152921504606846976) (w : World) (hA : HsAt w ao la) (hB : HsAt w bo lb) :
    Calls Try.prog 17 #[.slice ao n ca, .slice bo m cb] w fun e w' => e = .returned (.bool (decide (la = lb))) ∧ After w w' := by
  have HC := show Hid _ from equal39 ao bo ca cb la lb ha32 hb32 n m hla hlb hbig w hA hB
  clear hA hB ha32 hb32 hla hlb
  go_enter Try.func17, Try.ntmps17
  go_wp2_with (go_at_call 39; refine Calls.mono HC.out ?_; rintro e w2 ⟨rfl, ha2⟩; have HA2 := show Hid (After w w2) from ha2; clear ha2)
  go_ret
  exact ⟨rfl, HA2.out⟩
set_option maxRecDepth 100000 in
set_option maxHeartbeats 3200000 in
theorem rhas19 (ao : Option Addr) (ca : Nat) (l : List Hs) (h : Hs) (hh : h.length = 32) (h32 : All32 l) (n : Nat) (hl : l.length = n) (hbig : n ≤ 1152921504606846976) (w : World) (hA : HsAt w ao l) :
    Calls Try.prog 19 #[.slice ao n ca, hv h] w fun e w' => e = .returned (.bool (decide (h ∈ l))) ∧ After w w' := by
  have HFA : Hid (HsAt w ao l ∧ All32 l ∧ l.length = n ∧ h.length = 32) := ⟨hA, h32, hl, hh⟩
  have HI0 : Hid (IxI w h l 0 w.heap.size (w.alloc (.cells (c8 h).toArray 24))) := ⟨after_alloc (After.refl w) _, heap_alloc_new w _, fun j _ hj => by omega⟩
  clear hA h32 hl hh
  unfold hv
  go_enter Try.func19, Try.ntmps19
  go_wp2_with fail
  obtain ⟨w0, hw0⟩ : ∃ w0, w.alloc (.cells (c8 h).toArray 24) = w0 := ⟨_, rfl⟩
  rw [hw0] at HI0 ⊢
  clear hw0
  go_loopw [5] (fun iv wr => ∃ i : Nat, i ≤ n ∧ iv = .int .i64 (i : Int) ∧ Hid (IxI w h l i w.heap.size wr)) (fun iv _ => n - (intOf iv).toNat)
  case atStart => exact ⟨0, Nat.zero_le _, rfl, HI0.out⟩
  case round =>
    obtain ⟨i, hin, rfl, HI⟩ := hrel
    by_cases hlt : i < n
    · have hii : (i : Int) < (n : Int) := by omega
      obtain ⟨x, hx⟩ : ∃ x, l[i]? = some x := ⟨_, List.getElem?_eq_getElem (by rw [HFA.out.2.2.1]; omega)⟩
      obtain ⟨xb, xo, hxa, hxr⟩ := HFA.out.1.get HFA.out.2.1 (by intro e; rw [e] at hx; simp at hx)
      subst hxa
      have HX : Hid (x.length = 32 ∧ wr.rangeAt xb (xo + i * 32) (c8 x)) := ⟨HFA.out.2.1.at hx, range_after (hxr i x hx) HI.out.aft⟩
      have HH : Hid (wr.rangeAt w.heap.size 0 (c8 h)) := fun j v hj => by
        have := (show RowIs wr w.heap.size 24 (c8 h) from HI.out.row).cell hj
        rw [Nat.zero_add]; exact this
      have HXX : Hid (l[i]? = some x) := hx
      clear hx hxr
      go_wp2_with fail
      refine wp_region_noPanic ?_
      refine wp_region_held_drew (S := After wr) (by kernel_rfl) (After.drew (After.refl wr)) ?_
      intro hS0
      refine tk 0 12 (.slice (some ⟨xb, xo, none⟩) n ca) (fuel := 5) rfl (by kernel_rfl) (by kernel_rfl) (by kernel_rfl) (by kernel_rfl) noPanic_false (by kernel_rfl) (fun _ _ => by kernel_rfl) hS0 ?_
      refine tk 1 13 (.int .i64 (i : Int)) (fuel := 4) rfl (by kernel_rfl) (by kernel_rfl) (by kernel_rfl) (by kernel_rfl) noPanic_false (by kernel_rfl) (fun _ _ => by kernel_rfl) hS0 ?_
      refine tk 2 14 (.pointer (some ⟨xb, xo + i * 32, none⟩)) (fuel := 3) rfl (by kernel_rfl) (by kernel_rfl) (by kernel_rfl) (by kernel_rfl) noPanic_false (by kernel_rfl) (fun W _ => x_idx22 (n := n) (c := ca) (x := .tmp 12) (y := .tmp 13) (by kernel_rfl) (by kernel_rfl) (by kernel_rfl) hlt) hS0 ?_
      refine tk 3 15 (hv x) (fuel := 2) rfl (by kernel_rfl) (by kernel_rfl) (by kernel_rfl) (by kernel_rfl) noPanic_false (by kernel_rfl) (fun W hW => x_ld24 HX.out.1 (x := .tmp 14) (g := xb) (p := xo + i * 32) (by kernel_rfl) (by kernel_rfl) (range_after HX.out.2 hW)) hS0 ?_
      refine tk 4 16 (hv h) (fuel := 1) rfl (by kernel_rfl) (by kernel_rfl) (by kernel_rfl) (by kernel_rfl) noPanic_false (by kernel_rfl) (fun W hW => x_ld24 HFA.out.2.2.2 (x := .tmp 3) (g := w.heap.size) (p := 0) (by kernel_rfl) (by kernel_rfl) (range_after HH.out hW)) hS0 ?_
      refine tk 5 17 (.bool (decide (x = h))) (fuel := 0) rfl (by kernel_rfl) (by kernel_rfl) (by kernel_rfl) (by kernel_rfl) noPanic_false (by kernel_rfl) (fun W hW => x_eq24 HX.out.1 HFA.out.2.2.2 (x := .tmp 15) (y := .tmp 16) (by kernel_rfl) (by kernel_rfl) (by kernel_rfl)) hS0 ?_
      refine wpAnyH_done (by kernel_rfl) (NoPanic.normal ?_) _
      have HA1 : Hid (After w wr.drew) := After.trans HI.out.aft hS0
      have HR1 : Hid (wr.drew.heap[w.heap.size]? = some (.cells (c8 h).toArray 24 (0, 0))) := HI.out.row
      clear hS0
      by_cases hxy : h = x
      · have hd : decide (x = h) = true := by simp [hxy]
        rw [hd]
        have HXL : Hid (h = x) := hxy
        clear hxy hd
        go_simp
        go_wp2
        go_ret
        refine ⟨?_, HA1.out⟩
        have : h ∈ l := by rw [HXL.out]; exact List.mem_of_getElem? HXX.out
        rw [decide_eq_true this]; rfl
      · have hd : decide (x = h) = false := by simp [Ne.symm hxy]
        rw [hd]
        have HXL : Hid (¬ h = x) := hxy
        clear hxy hd
        go_simp
        go_wp2
        go_roundw
        case rel => exact ⟨i + 1, by omega, by go_num, HA1.out, HR1.out, fun j p hj hp => by
          by_cases e : j = i
          · subst e; rw [HXX.out] at hp; cases hp; exact HXL.out
          · exact HI.out.pre j p (by omega) hp⟩
        case measure => simp [intOf]; omega
    · have hii : ¬ (i : Int) < (n : Int) := by omega
      go_wp2
      go_ret
      refine ⟨?_, HI.out.aft⟩
      have : ¬ h ∈ l := fun e => by
        obtain ⟨j, hj⟩ := List.getElem?_of_mem e
        exact HI.out.pre j h (by have := (List.getElem?_eq_some_iff.1 hj).1; rw [HFA.out.2.2.1] at this; omega) hj rfl
      rw [decide_eq_false this]; rfl
end Go.Proofs.Ytedghldjpkabmaa
