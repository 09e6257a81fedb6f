/-
  TWO LISTS OF BRANCHES, as the reference holds them against each other (28).
-/
import Derived.Test.YtcmcapcagblafaaBF
namespace Go.Proofs.Ytcmcapcagblafaa
open Go.RowKit
attribute [local go_sem] Oper.semAt_some
set_option maxRecDepth 100000 in
set_option maxHeartbeats 6400000 in
theorem rsame28 {ao bo : Option Addr} {ca cb : Nat} {la lb : List Bx} {n m : Nat} (hla : la.length = n) (hlb : lb.length = m) (hbig : n ≤ 1152921504606846976) {w : World} (hA : BsAt w ao la) (hB : BsAt w bo lb) :
    Calls Try.prog 25 #[.slice ao n ca, .slice bo m cb] w fun e w' => e = .returned (.bool (decide (bof la = bof lb))) ∧ After w w' := by
  have hpa : (bof la).length = n := by rw [bof_len, hla]
  have hpb : (bof lb).length = m := by rw [bof_len, hlb]
  by_cases hnm : n = m
  · subst hnm
    have HFA : Hid (BsAt w ao la ∧ la.length = n ∧ (bof la).length = n) := ⟨hA, hla, hpa⟩
    have HFB : Hid (BsAt w bo lb ∧ lb.length = n ∧ (bof lb).length = n) := ⟨hB, hlb, hpb⟩
    clear hA hB hla hlb hpa hpb
    go_enter Try.func25, Try.ntmps25
    go_wp2_with fail
    go_loopw [5] (fun iv wr => ∃ i : Nat, i ≤ n ∧ iv = .int .i64 (i : Int) ∧ Hid (SmI w (bof la) (bof lb) i wr)) (fun iv _ => n - (intOf iv).toNat)
    case atStart => exact ⟨0, Nat.zero_le _, rfl, After.refl w, fun j hj => by omega⟩
    case round =>
      obtain ⟨i, hin, rfl, HI⟩ := hrel
      by_cases hlt : i < n
      · have hii : (i : Int) < (n : Int) := by omega
        have HLT : Hid (i < n) := hlt
        obtain ⟨x, hx⟩ : ∃ x, la[i]? = some x := ⟨_, List.getElem?_eq_getElem (by rw [HFA.out.2.1]; exact hlt)⟩
        obtain ⟨y, hy⟩ : ∃ y, lb[i]? = some y := ⟨_, List.getElem?_eq_getElem (by rw [HFB.out.2.1]; exact hlt)⟩
        obtain ⟨xb, xo, hxa, hxr⟩ := HFA.out.1.sl.at (bs_get hx)
        obtain ⟨yb, yo, hya, hyr⟩ := HFB.out.1.sl.at (bs_get hy)
        subst hxa hya
        obtain ⟨p, hp⟩ : ∃ p, x.l.length = p := ⟨_, rfl⟩
        obtain ⟨q, hq⟩ : ∃ q, y.l.length = q := ⟨_, rfl⟩
        have HX : Hid (wr.rangeAt xb (xo + i * 2) [.string (strOf x.nm), .slice x.a p x.c]) := by rw [← hp]; exact range_after hxr HI.out.aft
        have HY : Hid (wr.rangeAt yb (yo + i * 2) [.string (strOf y.nm), .slice y.a q y.c]) := by rw [← hq]; exact range_after hyr HI.out.aft
        have bx := (HFA.out.1.each x (List.mem_of_getElem? hx)).after HI.out.aft
        have bY := (HFB.out.1.each y (List.mem_of_getElem? hy)).after HI.out.aft
        have HC : Hid (∀ W, After wr W → Calls Try.prog 26 #[.slice x.a p x.c, .slice y.a q y.c] W fun e w' => e = .returned (.bool (decide (x.l = y.l))) ∧ After wr w') := fun W hW => (rsame31 (ca := x.c) (cb := y.c) bx.l32 bY.l32 hp hq (by have := bx.fit; omega) (bx.after hW).sl (bY.after hW).sl).mono (fun e w' ⟨h1, h2⟩ => ⟨h1, hW.trans h2⟩)
        have HXY : Hid ((bof la)[i]? = some (x.nm, x.l) ∧ (bof lb)[i]? = some (y.nm, y.l)) := ⟨bof_get hx, bof_get hy⟩
        clear hx hy hxr hyr hp hq bx bY
        go_wp2_with fail
        by_cases hnm : x.nm = y.nm
        · refine wp_region_noPanic ?_
          refine wp_region_held_drew (S := After wr) (by kernel_rfl) (After.drew (After.refl wr)) ?_
          intro hS0
          refine tk 0 17 (.slice (some ⟨xb, xo, none⟩) n ca) (fuel := 24) rfl (by kernel_rfl) (by kernel_rfl) (by kernel_rfl) (by kernel_rfl) noPanic_false (by kernel_rfl) (fun _ _ => by kernel_rfl) hS0 ?_
          refine tk 1 18 (.int .i64 (i : Int)) (fuel := 23) rfl (by kernel_rfl) (by kernel_rfl) (by kernel_rfl) (by kernel_rfl) noPanic_false (by kernel_rfl) (fun _ _ => by kernel_rfl) hS0 ?_
          refine tk 2 19 (.pointer (some ⟨xb, xo + i * 2, none⟩)) (fuel := 22) rfl (by kernel_rfl) (by kernel_rfl) (by kernel_rfl) (by kernel_rfl) noPanic_false (by kernel_rfl) (fun W _ => x_idx25 (n := n) (c := ca) (x := .tmp 17) (y := .tmp 18) (by kernel_rfl) (by kernel_rfl) (by kernel_rfl) HLT.out) hS0 ?_
          refine tk 3 20 (.pointer (some ⟨xb, xo + i * 2, none⟩)) (fuel := 21) rfl (by kernel_rfl) (by kernel_rfl) (by kernel_rfl) (by kernel_rfl) noPanic_false (by kernel_rfl) (fun _ _ => by kernel_rfl) hS0 ?_
          refine tk 4 21 (.string (strOf x.nm)) (fuel := 20) rfl (by kernel_rfl) (by kernel_rfl) (by kernel_rfl) (by kernel_rfl) noPanic_false (by kernel_rfl) (fun W hW => x_loadT (x := .tmp 20) (t := 9) (g := xb) (j := xo + i * 2 + 0) Try.underlying9 rfl (by kernel_rfl) (by kernel_rfl) (range_after HX.out hW 0 _ rfl)) hS0 ?_
          refine tk 5 22 (.slice (some ⟨yb, yo, none⟩) n cb) (fuel := 19) rfl (by kernel_rfl) (by kernel_rfl) (by kernel_rfl) (by kernel_rfl) noPanic_false (by kernel_rfl) (fun _ _ => by kernel_rfl) hS0 ?_
          refine tk 6 23 (.int .i64 (i : Int)) (fuel := 18) rfl (by kernel_rfl) (by kernel_rfl) (by kernel_rfl) (by kernel_rfl) noPanic_false (by kernel_rfl) (fun _ _ => by kernel_rfl) hS0 ?_
          refine tk 7 24 (.pointer (some ⟨yb, yo + i * 2, none⟩)) (fuel := 17) rfl (by kernel_rfl) (by kernel_rfl) (by kernel_rfl) (by kernel_rfl) noPanic_false (by kernel_rfl) (fun W _ => x_idx25 (n := n) (c := cb) (x := .tmp 22) (y := .tmp 23) (by kernel_rfl) (by kernel_rfl) (by kernel_rfl) HLT.out) hS0 ?_
          refine tk 8 25 (.pointer (some ⟨yb, yo + i * 2, none⟩)) (fuel := 16) rfl (by kernel_rfl) (by kernel_rfl) (by kernel_rfl) (by kernel_rfl) noPanic_false (by kernel_rfl) (fun _ _ => by kernel_rfl) hS0 ?_
          refine tk 9 26 (.string (strOf y.nm)) (fuel := 15) rfl (by kernel_rfl) (by kernel_rfl) (by kernel_rfl) (by kernel_rfl) noPanic_false (by kernel_rfl) (fun W hW => x_loadT (x := .tmp 25) (t := 9) (g := yb) (j := yo + i * 2 + 0) Try.underlying9 rfl (by kernel_rfl) (by kernel_rfl) (range_after HY.out hW 0 _ rfl)) hS0 ?_
          refine tk 10 27 (.bool false) (fuel := 14) rfl (by kernel_rfl) (by kernel_rfl) (by kernel_rfl) (by kernel_rfl) noPanic_false (by kernel_rfl) (fun W _ => (x_ne9 (s := x.nm) (t := y.nm) (x := .tmp 21) (y := .tmp 26) (by kernel_rfl) (by kernel_rfl) (by kernel_rfl)).trans (by rw [decide_eq_true hnm]; rfl)) hS0 ?_
          refine tk 11 28 (.bool false) (fuel := 13) rfl (by kernel_rfl) (by kernel_rfl) (by kernel_rfl) (by kernel_rfl) noPanic_false (by kernel_rfl) (fun _ _ => by kernel_rfl) hS0 ?_
          refine tk 12 29 (.slice (some ⟨xb, xo, none⟩) n ca) (fuel := 12) rfl (by kernel_rfl) (by kernel_rfl) (by kernel_rfl) (by kernel_rfl) noPanic_false (by kernel_rfl) (fun _ _ => by kernel_rfl) hS0 ?_
          refine tk 13 30 (.int .i64 (i : Int)) (fuel := 11) rfl (by kernel_rfl) (by kernel_rfl) (by kernel_rfl) (by kernel_rfl) noPanic_false (by kernel_rfl) (fun _ _ => by kernel_rfl) hS0 ?_
          refine tk 14 31 (.pointer (some ⟨xb, xo + i * 2, none⟩)) (fuel := 10) rfl (by kernel_rfl) (by kernel_rfl) (by kernel_rfl) (by kernel_rfl) noPanic_false (by kernel_rfl) (fun W _ => x_idx25 (n := n) (c := ca) (x := .tmp 29) (y := .tmp 30) (by kernel_rfl) (by kernel_rfl) (by kernel_rfl) HLT.out) hS0 ?_
          refine tk 15 32 (.pointer (some ⟨xb, xo + i * 2 + 1, none⟩)) (fuel := 9) rfl (by kernel_rfl) (by kernel_rfl) (by kernel_rfl) (by kernel_rfl) noPanic_false (by kernel_rfl) (fun _ _ => by kernel_rfl) hS0 ?_
          refine tk 16 33 (.slice x.a p x.c) (fuel := 8) rfl (by kernel_rfl) (by kernel_rfl) (by kernel_rfl) (by kernel_rfl) noPanic_false (by kernel_rfl) (fun W hW => x_loadT (x := .tmp 32) (t := 39) (g := xb) (j := xo + i * 2 + 1) Try.underlying39 rfl (by kernel_rfl) (by kernel_rfl) (range_after HX.out hW 1 _ rfl)) hS0 ?_
          refine tk 17 34 (.slice (some ⟨yb, yo, none⟩) n cb) (fuel := 7) rfl (by kernel_rfl) (by kernel_rfl) (by kernel_rfl) (by kernel_rfl) noPanic_false (by kernel_rfl) (fun _ _ => by kernel_rfl) hS0 ?_
          refine tk 18 35 (.int .i64 (i : Int)) (fuel := 6) rfl (by kernel_rfl) (by kernel_rfl) (by kernel_rfl) (by kernel_rfl) noPanic_false (by kernel_rfl) (fun _ _ => by kernel_rfl) hS0 ?_
          refine tk 19 36 (.pointer (some ⟨yb, yo + i * 2, none⟩)) (fuel := 5) rfl (by kernel_rfl) (by kernel_rfl) (by kernel_rfl) (by kernel_rfl) noPanic_false (by kernel_rfl) (fun W _ => x_idx25 (n := n) (c := cb) (x := .tmp 34) (y := .tmp 35) (by kernel_rfl) (by kernel_rfl) (by kernel_rfl) HLT.out) hS0 ?_
          refine tk 20 37 (.pointer (some ⟨yb, yo + i * 2 + 1, none⟩)) (fuel := 4) rfl (by kernel_rfl) (by kernel_rfl) (by kernel_rfl) (by kernel_rfl) noPanic_false (by kernel_rfl) (fun _ _ => by kernel_rfl) hS0 ?_
          refine tk 21 38 (.slice y.a q y.c) (fuel := 3) rfl (by kernel_rfl) (by kernel_rfl) (by kernel_rfl) (by kernel_rfl) noPanic_false (by kernel_rfl) (fun W hW => x_loadT (x := .tmp 37) (t := 39) (g := yb) (j := yo + i * 2 + 1) Try.underlying39 rfl (by kernel_rfl) (by kernel_rfl) (range_after HY.out hW 1 _ rfl)) hS0 ?_
          refine tkCallZ 22 39 26 #[.slice x.a p x.c, .slice y.a q y.c] (fun v w' => v = .bool (decide (x.l = y.l)) ∧ After wr w') (fuel := 2) rfl (by kernel_rfl) (by kernel_rfl) (by kernel_rfl) (fun _ => by kernel_rfl) ((HC.out _ (After.drew (After.refl wr))).mono (fun e w' ⟨he, ha⟩ => ⟨_, he, rfl, ha⟩)) ?_
          intro v1 w1 ⟨hv1, hA1⟩
          subst hv1
          refine ⟨hA1, ?_⟩
          refine tk 23 40 (.bool (!decide (x.l = y.l))) (fuel := 1) rfl (by kernel_rfl) (by kernel_rfl) (by kernel_rfl) (by kernel_rfl) noPanic_false (by kernel_rfl) (fun _ _ => by kernel_rfl) hA1 ?_
          refine tk 24 41 (.bool (!decide (x.l = y.l))) (fuel := 0) rfl (by kernel_rfl) (by kernel_rfl) (by kernel_rfl) (by kernel_rfl) noPanic_false (by kernel_rfl) (fun _ _ => by kernel_rfl) hA1 ?_
          refine wpAnyH_done (by kernel_rfl) (NoPanic.normal ?_) _
          have HA1 : Hid (After w w1) := After.trans HI.out.aft hA1
          clear hS0 hA1
          have HN : Hid (x.nm = y.nm) := hnm
          clear hnm
          by_cases hxy : x.l = y.l
          · have hd : (!decide (x.l = y.l)) = false := by simp [hxy]
            have HXL : Hid (x.l = y.l) := hxy
            rw [hd]
            clear hxy hd
            go_simp
            go_wp2
            go_roundw
            case rel => exact ⟨i + 1, by omega, by go_num, HA1.out, fun j hj => by
              by_cases e : j = i
              · subst e; rw [HXY.out.1, HXY.out.2, HN.out, HXL.out]
              · exact HI.out.pre j (by omega)⟩
            case measure => simp [intOf]; omega
          · have hd : (!decide (x.l = y.l)) = true := by simp [hxy]
            have HXL : Hid (¬ x.l = y.l) := hxy
            rw [hd]
            clear hxy hd
            go_simp
            go_wp2
            go_ret
            refine ⟨?_, HA1.out⟩
            have : ¬ bof la = bof lb := fun e => by have h1 := HXY.out; rw [e] at h1; exact HXL.out (Prod.mk.inj (Option.some.inj (h1.1.symm.trans h1.2))).2
            simp [this]
        · refine wp_region_noPanic ?_
          refine wp_region_held_drew (S := After wr) (by kernel_rfl) (After.drew (After.refl wr)) ?_
          intro hS0
          refine tk 0 17 (.slice (some ⟨xb, xo, none⟩) n ca) (fuel := 24) rfl (by kernel_rfl) (by kernel_rfl) (by kernel_rfl) (by kernel_rfl) noPanic_false (by kernel_rfl) (fun _ _ => by kernel_rfl) hS0 ?_
          refine tk 1 18 (.int .i64 (i : Int)) (fuel := 23) rfl (by kernel_rfl) (by kernel_rfl) (by kernel_rfl) (by kernel_rfl) noPanic_false (by kernel_rfl) (fun _ _ => by kernel_rfl) hS0 ?_
          refine tk 2 19 (.pointer (some ⟨xb, xo + i * 2, none⟩)) (fuel := 22) rfl (by kernel_rfl) (by kernel_rfl) (by kernel_rfl) (by kernel_rfl) noPanic_false (by kernel_rfl) (fun W _ => x_idx25 (n := n) (c := ca) (x := .tmp 17) (y := .tmp 18) (by kernel_rfl) (by kernel_rfl) (by kernel_rfl) HLT.out) hS0 ?_
          refine tk 3 20 (.pointer (some ⟨xb, xo + i * 2, none⟩)) (fuel := 21) rfl (by kernel_rfl) (by kernel_rfl) (by kernel_rfl) (by kernel_rfl) noPanic_false (by kernel_rfl) (fun _ _ => by kernel_rfl) hS0 ?_
          refine tk 4 21 (.string (strOf x.nm)) (fuel := 20) rfl (by kernel_rfl) (by kernel_rfl) (by kernel_rfl) (by kernel_rfl) noPanic_false (by kernel_rfl) (fun W hW => x_loadT (x := .tmp 20) (t := 9) (g := xb) (j := xo + i * 2 + 0) Try.underlying9 rfl (by kernel_rfl) (by kernel_rfl) (range_after HX.out hW 0 _ rfl)) hS0 ?_
          refine tk 5 22 (.slice (some ⟨yb, yo, none⟩) n cb) (fuel := 19) rfl (by kernel_rfl) (by kernel_rfl) (by kernel_rfl) (by kernel_rfl) noPanic_false (by kernel_rfl) (fun _ _ => by kernel_rfl) hS0 ?_
          refine tk 6 23 (.int .i64 (i : Int)) (fuel := 18) rfl (by kernel_rfl) (by kernel_rfl) (by kernel_rfl) (by kernel_rfl) noPanic_false (by kernel_rfl) (fun _ _ => by kernel_rfl) hS0 ?_
          refine tk 7 24 (.pointer (some ⟨yb, yo + i * 2, none⟩)) (fuel := 17) rfl (by kernel_rfl) (by kernel_rfl) (by kernel_rfl) (by kernel_rfl) noPanic_false (by kernel_rfl) (fun W _ => x_idx25 (n := n) (c := cb) (x := .tmp 22) (y := .tmp 23) (by kernel_rfl) (by kernel_rfl) (by kernel_rfl) HLT.out) hS0 ?_
          refine tk 8 25 (.pointer (some ⟨yb, yo + i * 2, none⟩)) (fuel := 16) rfl (by kernel_rfl) (by kernel_rfl) (by kernel_rfl) (by kernel_rfl) noPanic_false (by kernel_rfl) (fun _ _ => by kernel_rfl) hS0 ?_
          refine tk 9 26 (.string (strOf y.nm)) (fuel := 15) rfl (by kernel_rfl) (by kernel_rfl) (by kernel_rfl) (by kernel_rfl) noPanic_false (by kernel_rfl) (fun W hW => x_loadT (x := .tmp 25) (t := 9) (g := yb) (j := yo + i * 2 + 0) Try.underlying9 rfl (by kernel_rfl) (by kernel_rfl) (range_after HY.out hW 0 _ rfl)) hS0 ?_
          refine tk 10 27 (.bool true) (fuel := 14) rfl (by kernel_rfl) (by kernel_rfl) (by kernel_rfl) (by kernel_rfl) noPanic_false (by kernel_rfl) (fun W _ => (x_ne9 (s := x.nm) (t := y.nm) (x := .tmp 21) (y := .tmp 26) (by kernel_rfl) (by kernel_rfl) (by kernel_rfl)).trans (by rw [decide_eq_false hnm]; rfl)) hS0 ?_
          refine tk 11 28 (.bool true) (fuel := 13) rfl (by kernel_rfl) (by kernel_rfl) (by kernel_rfl) (by kernel_rfl) noPanic_false (by kernel_rfl) (fun _ _ => by kernel_rfl) hS0 ?_
          refine tkSkip 12 29 (fuel := 12) rfl (by kernel_rfl) (by kernel_rfl) (by kernel_rfl) (by kernel_rfl) noPanic_false (by kernel_rfl) hS0 ?_
          refine tkSkip 13 30 (fuel := 11) rfl (by kernel_rfl) (by kernel_rfl) (by kernel_rfl) (by kernel_rfl) noPanic_false (by kernel_rfl) hS0 ?_
          refine tkSkip 14 31 (fuel := 10) rfl (by kernel_rfl) (by kernel_rfl) (by kernel_rfl) (by kernel_rfl) noPanic_false (by kernel_rfl) hS0 ?_
          refine tkSkip 15 32 (fuel := 9) rfl (by kernel_rfl) (by kernel_rfl) (by kernel_rfl) (by kernel_rfl) noPanic_false (by kernel_rfl) hS0 ?_
          refine tkSkip 16 33 (fuel := 8) rfl (by kernel_rfl) (by kernel_rfl) (by kernel_rfl) (by kernel_rfl) noPanic_false (by kernel_rfl) hS0 ?_
          refine tkSkip 17 34 (fuel := 7) rfl (by kernel_rfl) (by kernel_rfl) (by kernel_rfl) (by kernel_rfl) noPanic_false (by kernel_rfl) hS0 ?_
          refine tkSkip 18 35 (fuel := 6) rfl (by kernel_rfl) (by kernel_rfl) (by kernel_rfl) (by kernel_rfl) noPanic_false (by kernel_rfl) hS0 ?_
          refine tkSkip 19 36 (fuel := 5) rfl (by kernel_rfl) (by kernel_rfl) (by kernel_rfl) (by kernel_rfl) noPanic_false (by kernel_rfl) hS0 ?_
          refine tkSkip 20 37 (fuel := 4) rfl (by kernel_rfl) (by kernel_rfl) (by kernel_rfl) (by kernel_rfl) noPanic_false (by kernel_rfl) hS0 ?_
          refine tkSkip 21 38 (fuel := 3) rfl (by kernel_rfl) (by kernel_rfl) (by kernel_rfl) (by kernel_rfl) noPanic_false (by kernel_rfl) hS0 ?_
          refine tkSkip 22 39 (fuel := 2) rfl (by kernel_rfl) (by kernel_rfl) (by kernel_rfl) (by kernel_rfl) noPanic_false (by kernel_rfl) hS0 ?_
          refine tkSkip 23 40 (fuel := 1) rfl (by kernel_rfl) (by kernel_rfl) (by kernel_rfl) (by kernel_rfl) noPanic_false (by kernel_rfl) hS0 ?_
          refine tk 24 41 (.bool true) (fuel := 0) rfl (by kernel_rfl) (by kernel_rfl) (by kernel_rfl) (by kernel_rfl) noPanic_false (by kernel_rfl) (fun _ _ => by kernel_rfl) hS0 ?_
          refine wpAnyH_done (by kernel_rfl) (NoPanic.normal ?_) _
          have HA1 : Hid (After w wr.drew) := After.trans HI.out.aft hS0
          have HN : Hid (¬ x.nm = y.nm) := hnm
          clear hS0 hnm
          go_simp
          go_wp2
          go_ret
          refine ⟨?_, HA1.out⟩
          have : ¬ bof la = bof lb := fun e => by have h1 := HXY.out; rw [e] at h1; exact HN.out (Prod.mk.inj (Option.some.inj (h1.1.symm.trans h1.2))).1
          simp [this]
      · have hii : ¬ (i : Int) < (n : Int) := by omega
        go_wp2
        go_ret
        refine ⟨?_, HI.out.aft⟩
        have : bof la = bof lb := eq_of_pre HFA.out.2.2 HFB.out.2.2 (fun j hj => HI.out.pre j (by omega))
        simp [this]
  · have hnmi : ¬ (n : Int) = (m : Int) := by omega
    have : ¬ bof la = bof lb := fun e => hnm (by rw [← hpa, ← hpb, e])
    go_enter Try.func25, Try.ntmps25
    go_wp2
    go_ret
    exact ⟨by simp [this], After.refl w⟩
end Go.Proofs.Ytcmcapcagblafaa
