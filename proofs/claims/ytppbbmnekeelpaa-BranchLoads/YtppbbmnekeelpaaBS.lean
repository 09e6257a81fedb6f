/-
  BranchForks (5).
-/
import Derived.Test.YtppbbmnekeelpaaBR
import Derived.Test.YtppbbmnekeelpaaBP
namespace Go.Proofs.Ytppbbmnekeelpaa
open Go.RowKit Dsk
attribute [local go_sem] Oper.semAt_some
theorem AcsAt.after {W W' : World} {a : Option Addr} {L : List Ac} (h : AcsAt W a L) (ha : After W W') : AcsAt W' a L := ⟨h.1.after ha, fun x hx => (h.2 x hx).ck (CK.of_after ha)⟩
set_option maxRecDepth 100000 in
set_option maxHeartbeats 12800000 in
theorem forks5 {la : Option Addr} {ca n : Nat} {l : List Ac} {la2 : Option Addr} {ca2 n2 : Nat} {l2 : List Ac} (hl : l.length = n) (hn : n * 48 ≤ 140737488355328) (hl2 : l2.length = n2) (hn2 : n2 * 48 ≤ 140737488355328) {w : World} (hA : AcsAt w la l) (hA2 : AcsAt w la2 l2) : Calls Try.prog 5 #[.slice la n ca, .slice la2 n2 ca2] w fun e w' => e = .returned (.bool true) ∧ After w w' := by
  have HL : Hid (AcsAt w la l ∧ l.length = n ∧ True) := ⟨hA, hl, trivial⟩
  have HM2 : Hid (AcsAt w la2 l2 ∧ l2.length = n2) := ⟨hA2, hl2⟩
  clear hA hl hA2 hl2
  obtain ⟨mb, hmb⟩ : ∃ mb, w.heap.size = mb := ⟨_, rfl⟩
  obtain ⟨tb, htb⟩ : ∃ tb, mb + 1 = tb := ⟨_, rfl⟩
  have HC9 := show Hid _ from new9 w
  have HN : Hid (w.heap.size = mb ∧ mb + 1 = tb) := ⟨hmb, htb⟩
  clear hmb htb
  go_enter Try.func5, Try.ntmps5
  go_wp2_with (first
    | (go_at_call 9; refine Calls.mono HC9.out ?_; rintro e w1 ⟨rfl, h1, h2⟩; have h3 := pl_start h1 h2; rw [HN.out.1, HN.out.2] at h3 ⊢; obtain ⟨F0, hF0⟩ : ∃ F0 : Nat → Prop, (fun b => mb ≤ b ∧ b < w1.heap.size) = F0 := ⟨_, rfl⟩; rw [hF0] at h3; clear hF0; obtain ⟨gr, hgr⟩ : ∃ gr, w1.heap.size = gr := ⟨_, rfl⟩; obtain ⟨w2, hw2⟩ : ∃ w2, w1.alloc (.cells #[.slice none 0 0] 27) = w2 := ⟨_, rfl⟩; rw [hgr, hw2] at h3; have H0 := show Hid (PlI w tb mb gr F0 none 0 0 [] [] w2) from h3; clear h1 h2 h3)
    | (rw [hw2]; rw [hgr]))
  clear hw2 hgr
  go_loopw [7] (fun iv wr => ∃ (i : Nat) (F : Nat → Prop) (ra : Option Addr) (rn rc : Nat) (cs : List Ent) (X : List Bx), i ≤ n ∧ iv = .int .i64 (i : Int) ∧ Hid (PlI w tb mb gr F ra rn rc cs X wr)) (fun iv _ => n - (intOf iv).toNat)
  case atStart => exact ⟨0, F0, none, 0, 0, [], [], Nat.zero_le _, rfl, H0⟩
  case round =>
    obtain ⟨i, F, ra, rn, rc, cs, X, hin, rfl, HP⟩ := hrel
    by_cases hlt : i < n
    · have hii : (i : Int) < (n : Int) := by omega
      have HLT : Hid (i < n) := hlt
      obtain ⟨x, hx⟩ : ∃ x, l[i]? = some x := ⟨_, List.getElem?_eq_getElem (by rw [HL.out.2.1]; exact hlt)⟩
      have hxm := HL.out.1.2 x (List.mem_of_getElem? hx)
      obtain ⟨ab, ao, hla, hlr⟩ := HL.out.1.1.at (i := i) (x := acv x) (by rw [List.getElem?_map, hx]; rfl)
      subst hla
      have HPD : Hid (PlI w tb mb gr F ra rn rc cs X wr.drew) := HP.out.after (After.drew (After.refl wr))
      have HX : Hid (wr.rangeAt ab (ao + i * 3) (acv x) ∧ ¬ (ab = mb ∨ ab = gr) ∧ AcAt wr.drew x) := by
        have hlt2 : ab < w.heap.size := range_lt hlr (by simp [acv])
        refine ⟨range_after hlr HP.out.aft, fun h => ?_, hxm.ck (CK.of_after (HP.out.aft.trans (After.drew (After.refl wr))))⟩
        rcases h with h | h
        · have := (HP.out.fs mb HP.out.tab.fmb).1; omega
        · have := HP.out.gge; omega
      clear hx hxm hlr

      go_wp2_with fail
      refine wp_region_noPanic ?_
      refine wp_region_held_drew (S := KeptF (fun b => b = mb ∨ b = gr) wr) (by kernel_rfl) (KeptF.of_after (After.drew (After.refl wr))) ?_
      intro hS0
      refine tk 0 20 (.pointer (some ⟨tb, 0, none⟩)) (fuel := 10) rfl (by kernel_rfl) (by kernel_rfl) (by kernel_rfl) (by kernel_rfl) noPanic_false (by kernel_rfl) (fun _ _ => by kernel_rfl) hS0 ?_
      refine tk 2 22 (.slice (some ⟨ab, ao, none⟩) n ca) (fuel := 9) rfl (by kernel_rfl) (by kernel_rfl) (by kernel_rfl) (by kernel_rfl) noPanic_false (by kernel_rfl) (fun _ _ => by kernel_rfl) hS0 ?_
      refine tk 3 23 (.int .i64 (i : Int)) (fuel := 8) rfl (by kernel_rfl) (by kernel_rfl) (by kernel_rfl) (by kernel_rfl) noPanic_false (by kernel_rfl) (fun _ _ => by kernel_rfl) hS0 ?_
      refine tk 4 24 (.pointer (some ⟨ab, ao + i * 3, none⟩)) (fuel := 7) rfl (by kernel_rfl) (by kernel_rfl) (by kernel_rfl) (by kernel_rfl) noPanic_false (by kernel_rfl) (fun W _ => x_idx22 (n := n) (c := ca) (x := .tmp 22) (y := .tmp 23) (by kernel_rfl) (by kernel_rfl) (by kernel_rfl) HLT.out) hS0 ?_
      refine tk 5 25 (.agg (acv x).toArray) (fuel := 6) rfl (by kernel_rfl) (by kernel_rfl) (by kernel_rfl) (by kernel_rfl) noPanic_false (by kernel_rfl) (fun W hW => x_ld32 (x := .tmp 24) (g := ab) (p := ao + i * 3) (by kernel_rfl) (by kernel_rfl) (range_kept HX.out.1 hW HX.out.2.1)) hS0 ?_
      refine tkRunS 1 21 (.agg #[.slice ra rn rc]) (wr.drew) (fuel := 5) rfl (by kernel_rfl) (by kernel_rfl) (by kernel_rfl) (x_ld27 (x := .tmp 6) (g := gr) (by kernel_rfl) (by kernel_rfl) HPD.out.box) (hS0) ?_
      refine tkCallZ 6 26 10 #[.pointer (some ⟨tb, 0, none⟩), .agg #[.slice ra rn rc], .agg (acv x).toArray] (fun v w' => ∃ a' n' c', v = .tuple #[.agg #[.slice a' n' c'], .bool true] ∧ DoP wr.drew F tb mb ra X (stS (fls cs) x) w' a' n' c') (fuel := 4) rfl (by kernel_rfl) (by kernel_rfl) (by kernel_rfl) (fun _ => by kernel_rfl) ((do10 (fun b hb => (HPD.out.fs b hb).2) HPD.out.tab HPD.out.ok HPD.out.ref HPD.out.eq HX.out.2.2).mono (fun e w' ⟨a', n', c', he, hD⟩ => ⟨_, he, a', n', c', rfl, hD⟩)) ?_
      intro v1 w1 ⟨a', n', c', hv1, hD⟩
      subst hv1
      obtain ⟨cs', X', hrow, hP', hk1, hk2, hfl⟩ := pl_step HPD.out HX.out.2.2.l32 hD
      have hk0 := hS0.trans hk1 (fun _ _ h => h)
      refine ⟨hk0, ?_⟩
      refine tk 7 19 (.tuple #[.agg #[.slice a' n' c'], .bool true]) (fuel := 3) rfl (by kernel_rfl) (by kernel_rfl) (by kernel_rfl) (by kernel_rfl) noPanic_false (by kernel_rfl) (fun _ _ => by kernel_rfl) hk0 ?_
      refine tk 8 27 (.agg #[.slice a' n' c']) (fuel := 2) rfl (by kernel_rfl) (by kernel_rfl) (by kernel_rfl) (by kernel_rfl) noPanic_false (by kernel_rfl) (fun _ _ => by kernel_rfl) hk0 ?_
      refine tk 9 28 (.bool true) (fuel := 1) rfl (by kernel_rfl) (by kernel_rfl) (by kernel_rfl) (by kernel_rfl) noPanic_false (by kernel_rfl) (fun _ _ => by kernel_rfl) hk0 ?_
      refine tkStoreS 10 (w1.setRow gr #[.slice a' n' c']) (fuel := 0) rfl (by kernel_rfl) (by kernel_rfl) (by kernel_rfl) (x_stR (x := .tmp 6) (y := .tmp 27) (g := gr) (cells := #[.slice a' n' c']) (by kernel_rfl) (by kernel_rfl) (by kernel_rfl) hrow (size27 a' n' c') rfl (one27 a' n' c')) (hS0.trans hk2 (fun _ _ h => h)) ?_
      refine wpAnyH_done (by kernel_rfl) (NoPanic.normal ?_) _
      have HP1 := show Hid (PlI w tb mb gr (more F wr.drew w1) a' n' c' cs' X' (w1.setRow gr #[.slice a' n' c'])) from hP'
      obtain ⟨wn, hwn⟩ : ∃ wn, w1.setRow gr #[.slice a' n' c'] = wn := ⟨_, rfl⟩
      rw [hwn] at HP1 ⊢
      have HFL := show Hid (fls cs' = stS (fls cs) x) from hfl
      clear hS0 hD hrow hP' hk1 hk2 hk0 hwn hfl
      go_simp
      go_wp2_with fail
      go_roundw
      case rel => exact ⟨i + 1, _, a', n', c', cs', X', by omega, by go_num, HP1⟩
      case measure => simp [intOf]; omega
    · have hii : ¬ (i : Int) < (n : Int) := by omega
      obtain ⟨wf, hwf⟩ : ∃ wf, wf = wr := ⟨_, rfl⟩
      subst hwf
      have HOLD : Hid (∀ W, After wf W → Calls Try.prog 11 #[.pointer (some ⟨tb, 0, none⟩), .agg #[.slice ra rn rc]] W fun e w' => e = .returned (.bool true) ∧ After W w') := fun W hW => (HP.out.after hW).same
      have HBOX : Hid (∀ W, After wf W → RowIs W gr 27 [.slice ra rn rc]) := fun W hW => HP.out.box.below hW HP.out.box.lt
      have CF := show Hid _ from fork19 HP.out.ok (fun b hb => (HP.out.fs b hb).2) HP.out.tab
      have HL2 : Hid (AcsAt wf la2 l2 ∧ l2.length = n2 ∧ True) := ⟨HM2.out.1.after HP.out.aft, HM2.out.2, trivial⟩
      have HAW : Hid (After w wf) := HP.out.aft
      have HPO : Hid (RT wf ra rn rc X ∧ bof X = fls cs ∧ TOk (fls cs)) := ⟨HP.out.ref, HP.out.eq, HP.out.ok⟩
      clear HP HL HM2 H0 hin
      go_wp2_with (first
        | (go_at_call 19; refine Calls.mono CF.out ?_; rintro e w3 ⟨tb2, mb2, F2, cs2, rfl, k1, k2, k3, k4⟩; have H3 := show Hid (TbA w3 F2 tb2 mb2 cs2 ∧ fls cs2 = fls cs ∧ (∀ b, F2 b → wf.heap.size ≤ b ∧ b < w3.heap.size) ∧ After wf w3) from ⟨k1, k2, k3, k4⟩; clear k1 k2 k3 k4; obtain ⟨gr2, hgr2⟩ : ∃ gr2, w3.heap.size = gr2 := ⟨_, rfl⟩; have HG2 := show Hid (w3.heap.size = gr2) from hgr2; clear hgr2)
        | (refine wpList_load_row rfl 27 (.tmp 6) rfl gr (by kernel_rfl) 27 #[.slice ra rn rc] (0, 0) _ (HBOX.out _ H3.out.2.2.2) Try.underlying27 rfl (size27 ra rn rc) ?_)
        | (refine wpList_of_run rfl (x_al27 rfl) ?_; rw [HG2.out]; have hr4 := RowIs.new w3 27 [.slice none 0 0]; rw [HG2.out] at hr4; have ha4 := after_alloc (After.refl w3) (.cells #[.slice none 0 0] 27); obtain ⟨w4, hw4⟩ : ∃ w4, w3.alloc (.cells #[.slice none 0 0] 27) = w4 := ⟨_, rfl⟩; rw [hw4] at hr4 ha4 ⊢; have H4 := show Hid (RowIs w4 gr2 27 [.slice none 0 0] ∧ After w3 w4) from ⟨hr4, ha4⟩; clear hr4 ha4 hw4)
        | (refine wpList_store_row rfl 27 (.tmp 9) (.tmp 33) rfl gr2 #[.slice ra rn rc] (by kernel_rfl) (by kernel_rfl) 27 _ H4.out.1 (size27 ra rn rc) rfl (one27 ra rn rc) ?_))
      obtain ⟨w5, hw5⟩ : ∃ w5, w4.setRow gr2 #[.slice ra rn rc] = w5 := ⟨_, rfl⟩
      rw [hw5]
      have k45 : KeptF (fun b => b = gr2) w4 w5 := by rw [← hw5]; exact ⟨rfl, rfl, rfl, by rw [size_setRow]; exact Nat.le_refl _, fun b _ hb => setRow_other _ _ _ _ hb⟩
      have hf4 := H3.out.2.2.2.trans H4.out.2
      have hg2 : wf.heap.size ≤ gr2 := by rw [← HG2.out]; exact H3.out.2.2.2.size
      have hf5 : After wf w5 := Below.trans hf4 (k45.below hf4.size (fun b hb => by rw [hb]; exact hg2))
      have hnt2 : NT gr2 ra X := HPO.out.1.nt hg2
      have H02 : Hid (PlI wf tb2 mb2 gr2 F2 ra rn rc cs2 X w5) := ⟨hf5, (H3.out.1.after H4.out.2).kept k45 (fun b _ hb e => by have := (H3.out.2.2.1 b hb).2; have := HG2.out; omega), HPO.out.1.after hf5, by rw [← hw5]; exact H4.out.1.setRow _, by rw [HPO.out.2.1, H3.out.2.1], by rw [H3.out.2.1]; exact HPO.out.2.2, fun b hb => ⟨(H3.out.2.2.1 b hb).1, by have := (H3.out.2.2.1 b hb).2; have := H4.out.2.size; have := k45.size; omega⟩, fun hb => by have := (H3.out.2.2.1 _ hb).2; have := HG2.out; omega, hg2, hnt2⟩
      clear hw5 k45 hf4 hg2 hf5 hnt2
      go_loopw [10, 11] (fun okv iv wr => ∃ (i : Nat) (F2 : Nat → Prop) (ra2 : Option Addr) (rn2 rc2 : Nat) (cs2 : List Ent) (X2 : List Bx), i ≤ n2 ∧ okv = .bool true ∧ iv = .int .i64 (i : Int) ∧ Hid (PlI wf tb2 mb2 gr2 F2 ra2 rn2 rc2 cs2 X2 wr)) (fun _ iv _ => n2 - (intOf iv).toNat)
      case atStart => exact ⟨0, F2, ra, rn, rc, cs2, X, Nat.zero_le _, rfl, rfl, H02⟩
      case round =>
        obtain ⟨i, F2, ra2, rn2, rc2, cs2, X2, hin, rfl, rfl, HP⟩ := hrel
        by_cases hlt : i < n2
        · have hii : (i : Int) < (n2 : Int) := by omega
          have HLT : Hid (i < n2) := hlt
          obtain ⟨x, hx⟩ : ∃ x, l2[i]? = some x := ⟨_, List.getElem?_eq_getElem (by rw [HL2.out.2.1]; exact hlt)⟩
          have hxm := HL2.out.1.2 x (List.mem_of_getElem? hx)
          obtain ⟨ab, ao, hla, hlr⟩ := HL2.out.1.1.at (i := i) (x := acv x) (by rw [List.getElem?_map, hx]; rfl)
          subst hla
          have HPD : Hid (PlI wf tb2 mb2 gr2 F2 ra2 rn2 rc2 cs2 X2 wr.drew) := HP.out.after (After.drew (After.refl wr))
          have HX : Hid (wr.rangeAt ab (ao + i * 3) (acv x) ∧ ¬ (ab = mb2 ∨ ab = gr2) ∧ AcAt wr.drew x) := by
            have hlt2 : ab < wf.heap.size := range_lt hlr (by simp [acv])
            refine ⟨range_after hlr HP.out.aft, fun h => ?_, hxm.ck (CK.of_after (HP.out.aft.trans (After.drew (After.refl wr))))⟩
            rcases h with h | h
            · have := (HP.out.fs mb2 HP.out.tab.fmb).1; omega
            · have := HP.out.gge; omega
          clear hx hxm hlr

          go_wp2_with fail
          refine wp_region_noPanic ?_
          refine wp_region_held_drew (S := KeptF (fun b => b = mb2 ∨ b = gr2) wr) (by kernel_rfl) (KeptF.of_after (After.drew (After.refl wr))) ?_
          intro hS0
          refine tk 0 41 (.pointer (some ⟨tb2, 0, none⟩)) (fuel := 11) rfl (by kernel_rfl) (by kernel_rfl) (by kernel_rfl) (by kernel_rfl) noPanic_false (by kernel_rfl) (fun _ _ => by kernel_rfl) hS0 ?_
          refine tk 2 43 (.slice (some ⟨ab, ao, none⟩) n2 ca2) (fuel := 10) rfl (by kernel_rfl) (by kernel_rfl) (by kernel_rfl) (by kernel_rfl) noPanic_false (by kernel_rfl) (fun _ _ => by kernel_rfl) hS0 ?_
          refine tk 3 44 (.int .i64 (i : Int)) (fuel := 9) rfl (by kernel_rfl) (by kernel_rfl) (by kernel_rfl) (by kernel_rfl) noPanic_false (by kernel_rfl) (fun _ _ => by kernel_rfl) hS0 ?_
          refine tk 4 45 (.pointer (some ⟨ab, ao + i * 3, none⟩)) (fuel := 8) rfl (by kernel_rfl) (by kernel_rfl) (by kernel_rfl) (by kernel_rfl) noPanic_false (by kernel_rfl) (fun W _ => x_idx22 (n := n2) (c := ca2) (x := .tmp 43) (y := .tmp 44) (by kernel_rfl) (by kernel_rfl) (by kernel_rfl) HLT.out) hS0 ?_
          refine tk 5 46 (.agg (acv x).toArray) (fuel := 7) rfl (by kernel_rfl) (by kernel_rfl) (by kernel_rfl) (by kernel_rfl) noPanic_false (by kernel_rfl) (fun W hW => x_ld32 (x := .tmp 45) (g := ab) (p := ao + i * 3) (by kernel_rfl) (by kernel_rfl) (range_kept HX.out.1 hW HX.out.2.1)) hS0 ?_
          refine tkRunS 1 42 (.agg #[.slice ra2 rn2 rc2]) (wr.drew) (fuel := 6) rfl (by kernel_rfl) (by kernel_rfl) (by kernel_rfl) (x_ld27 (x := .tmp 9) (g := gr2) (by kernel_rfl) (by kernel_rfl) HPD.out.box) (hS0) ?_
          refine tkCallZ 6 47 10 #[.pointer (some ⟨tb2, 0, none⟩), .agg #[.slice ra2 rn2 rc2], .agg (acv x).toArray] (fun v w' => ∃ a' n2' c', v = .tuple #[.agg #[.slice a' n2' c'], .bool true] ∧ DoP wr.drew F2 tb2 mb2 ra2 X2 (stS (fls cs2) x) w' a' n2' c') (fuel := 5) rfl (by kernel_rfl) (by kernel_rfl) (by kernel_rfl) (fun _ => by kernel_rfl) ((do10 (fun b hb => (HPD.out.fs b hb).2) HPD.out.tab HPD.out.ok HPD.out.ref HPD.out.eq HX.out.2.2).mono (fun e w' ⟨a', n2', c', he, hD⟩ => ⟨_, he, a', n2', c', rfl, hD⟩)) ?_
          intro v1 w1 ⟨a', n2', c', hv1, hD⟩
          subst hv1
          obtain ⟨cs2', X2', hrow, hP', hk1, hk2, hfl⟩ := pl_step HPD.out HX.out.2.2.l32 hD
          have hk0 := hS0.trans hk1 (fun _ _ h => h)
          refine ⟨hk0, ?_⟩
          refine tk 7 40 (.tuple #[.agg #[.slice a' n2' c'], .bool true]) (fuel := 4) rfl (by kernel_rfl) (by kernel_rfl) (by kernel_rfl) (by kernel_rfl) noPanic_false (by kernel_rfl) (fun _ _ => by kernel_rfl) hk0 ?_
          refine tk 8 48 (.agg #[.slice a' n2' c']) (fuel := 3) rfl (by kernel_rfl) (by kernel_rfl) (by kernel_rfl) (by kernel_rfl) noPanic_false (by kernel_rfl) (fun _ _ => by kernel_rfl) hk0 ?_
          refine tk 9 49 (.bool true) (fuel := 2) rfl (by kernel_rfl) (by kernel_rfl) (by kernel_rfl) (by kernel_rfl) noPanic_false (by kernel_rfl) (fun _ _ => by kernel_rfl) hk0 ?_
          refine tkStoreS 10 (w1.setRow gr2 #[.slice a' n2' c']) (fuel := 1) rfl (by kernel_rfl) (by kernel_rfl) (by kernel_rfl) (x_stR (x := .tmp 9) (y := .tmp 48) (g := gr2) (cells := #[.slice a' n2' c']) (by kernel_rfl) (by kernel_rfl) (by kernel_rfl) hrow (size27 a' n2' c') rfl (one27 a' n2' c')) (hS0.trans hk2 (fun _ _ h => h)) ?_
          refine tk 11 10 (.bool true) (fuel := 0) rfl (by kernel_rfl) (by kernel_rfl) (by kernel_rfl) (by kernel_rfl) noPanic_false (by kernel_rfl) (fun _ _ => by kernel_rfl) (hS0.trans hk2 (fun _ _ h => h)) ?_
          refine wpAnyH_done (by kernel_rfl) (NoPanic.normal ?_) _
          have HP1 := show Hid (PlI wf tb2 mb2 gr2 (more F2 wr.drew w1) a' n2' c' cs2' X2' (w1.setRow gr2 #[.slice a' n2' c'])) from hP'
          obtain ⟨wn, hwn⟩ : ∃ wn, w1.setRow gr2 #[.slice a' n2' c'] = wn := ⟨_, rfl⟩
          rw [hwn] at HP1 ⊢
          have HFL := show Hid (fls cs2' = stS (fls cs2) x) from hfl
          clear hS0 hD hrow hP' hk1 hk2 hk0 hwn hfl
          go_simp
          go_wp2_with fail
          go_roundw
          case rel => exact ⟨i + 1, _, a', n2', c', cs2', X2', by omega, rfl, by go_num, HP1⟩
          case measure => simp [intOf]; omega
        · have hii : ¬ (i : Int) < (n2 : Int) := by omega
          go_wp2_with (first
            | (refine wpList_load_row rfl 27 (.tmp 9) rfl gr2 (by kernel_rfl) 27 #[.slice ra2 rn2 rc2] (0, 0) _ HP.out.box Try.underlying27 rfl (size27 ra2 rn2 rc2) ?_)
            | (refine wpListG_of_run (by kernel_rfl) (x_ld27 (x := .tmp 6) (g := gr) rfl (by kernel_rfl) HB6.out) ?_)
            | (go_at_call 11; first | (refine Calls.mono C6.out ?_; rintro e w7 ⟨rfl, h7⟩; have H7 := show Hid (After wf w7) from H6.out.trans h7; clear h7) | (refine Calls.mono HP.out.same ?_; rintro e w6 ⟨rfl, h6⟩; have H6 := show Hid (After wf w6) from HP.out.aft.trans h6; have HB6 := show Hid (RowIs w6 gr 27 [.slice ra rn rc]) from HBOX.out w6 H6.out; have C6 := show Hid (Calls Try.prog 11 #[.pointer (some ⟨tb, 0, none⟩), .agg #[.slice ra rn rc]] w6 fun e w' => e = .returned (.bool true) ∧ After w6 w') from HOLD.out w6 H6.out; clear h6))
            | (go_at_call 15; refine Calls.mono (awake15 w7) ?_; rintro e w8 ⟨rfl, h8⟩; have H8 := show Hid (After w w8) from (HAW.out.trans H7.out).trans h8; clear h8))
          go_ret
          exact ⟨rfl, H8.out⟩
end Go.Proofs.Ytppbbmnekeelpaa
