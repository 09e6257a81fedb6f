/-
  BranchBack (8).
-/
import Derived.Test.YtppbbmnekeelpaaBV
namespace Go.Proofs.Ytppbbmnekeelpaa
open Go.RowKit Go.Maps Dsk
attribute [local go_sem] Oper.semAt_some
theorem x_nei {oi : Oper} {a : Act} {w : World} {x y : Operand} {k : Nat} (hop : oi.op = .binOp .neq 3 x y 3) (hx : a.eval x = .int .i64 (k : Int)) (hy : a.eval y = .int .i64 (k : Int)) : (execOp a.eval oi).run Try.prog w = .ok (.value (.bool false)) w := by
  unfold execOp
  simp only [hop, hx, hy]
  simp [go_sem]
theorem nm_len {X : List Bx} {S : Tb} (h : bof X = S) (ok : TOk S) : ∀ x ∈ X, x.nm.length ≤ maxLen := by
  intro x hx
  have h1 : (x.nm, x.l) ∈ S := by rw [← h]; exact List.mem_map.2 ⟨x, hx, rfl⟩
  have h2 := nmB_len (ok.nam _ h1)
  simp only at h2
  unfold maxLen
  omega
set_option maxRecDepth 100000 in
set_option maxHeartbeats 51200000 in
theorem back8 {la : Option Addr} {ca n : Nat} {l : List Ac} (hln : l.length = n) (hn : n * 48 ≤ 140737488355328) {w : World} (hA : AcsAt w la l) : Calls Try.prog 8 #[.slice la n ca] w fun e w' => e = .returned (.bool true) ∧ After w w' := by
  have HL : Hid (AcsAt w la l ∧ l.length = n) := ⟨hA, hln⟩
  clear hA hln
  obtain ⟨mb, hmb⟩ : ∃ mb, w.heap.size = mb := ⟨_, rfl⟩
  obtain ⟨tb, htb⟩ : ∃ tb, mb + 1 = tb := ⟨_, rfl⟩
  have HC9 := show Hid _ from new9 w
  have HN : Hid (w.heap.size = mb ∧ mb + 1 = tb) := ⟨hmb, htb⟩
  clear hmb htb
  go_enter Try.func8, Try.ntmps8
  go_wp2_with (go_at_call 9; refine Calls.mono HC9.out ?_; rintro e w1 ⟨rfl, h1, h2⟩; rw [HN.out.1, HN.out.2] at h1 ⊢; have H1 := show Hid (TbI w tb mb (fun b => mb ≤ b ∧ b < w1.heap.size) [] w1) from ⟨h2, h1, TOk.nil, fun b hb => ⟨by rw [HN.out.1]; exact hb.1, hb.2⟩⟩; clear h1 h2)
  go_loopw [4] (fun iv wr => ∃ (i : Nat) (F : Nat → Prop) (cs : List Ent), i ≤ n ∧ iv = .int .i64 (i : Int) ∧ Hid (TbI w tb mb F cs wr)) (fun iv _ => n - (intOf iv).toNat)
  case atStart => exact ⟨0, _, [], Nat.zero_le _, rfl, H1⟩
  case round =>
    obtain ⟨i, F, cs, hin, rfl, HP⟩ := hrel
    by_cases hlt : i < n
    · have hii : (i : Int) < (n : Int) := by omega
      have HLT : Hid (i < n) := hlt
      obtain ⟨x, hx⟩ : ∃ x, l[i]? = some x := ⟨_, List.getElem?_eq_getElem (by rw [HL.out.2]; exact hlt)⟩
      have hxm := HL.out.1.2 x (List.mem_of_getElem? hx)
      obtain ⟨ab, ao, hla, hlr⟩ := HL.out.1.1.at (i := i) (x := acv x) (by rw [List.getElem?_map, hx]; rfl)
      subst hla
      obtain ⟨p, hp⟩ : ∃ p, x.l.length = p := ⟨_, rfl⟩
      have hr1 : wr.rangeAt ab (ao + i * 3) [.int .u8 (x.k.toNat : Int), .string (strOf x.nm), .slice x.a p x.c] := by rw [← hp]; exact range_after hlr HP.out.aft
      have HX : Hid (wr.rangeAt ab (ao + i * 3) [.int .u8 (x.k.toNat : Int), .string (strOf x.nm), .slice x.a p x.c] ∧ AcAt w x ∧ x.l.length = p) := ⟨hr1, hxm, hp⟩
      have HC0 : Hid (wr.cell? ⟨ab, ao + i * 3 + 0, none⟩ = some (.int .u8 (x.k.toNat : Int))) := hr1 0 _ rfl
      have HC1 : Hid (wr.cell? ⟨ab, ao + i * 3 + 1, none⟩ = some (.string (strOf x.nm))) := hr1 1 _ rfl
      have HNE : Hid (¬ ab = mb) := fun e => by have h1 := range_lt hlr (by simp [acv]); have h2 := (HP.out.fs mb HP.out.tab.fmb).1; omega
      clear hx hxm hlr hp hr1
      have h4 : x.k.toNat % 4 = 0 ∨ x.k.toNat % 4 = 1 ∨ x.k.toNat % 4 = 2 ∨ x.k.toNat % 4 = 3 := by omega
      rcases h4 with h | h | h | h
      · have HK : Hid (x.k.toNat % 4 = 0) := h
        clear h
        go_wp2_with (first
          | (refine wpList_of_run rfl (x_idx22 (x := .tmp 18) (y := .tmp 19) (b := ab) (f := ao) (n := n) (c := ca) (i := i) rfl (by kernel_rfl) (by kernel_rfl) HLT.out) ?_)
          | (refine wpList_of_run rfl (x_loadT (x := .tmp 21) (t := 5) (g := ab) (j := ao + i * 3 + 0) Try.underlying5 rfl rfl (by kernel_rfl) HC0.out) ?_)
          | (refine wpList_of_run rfl (x_rem4 (x := .tmp 22) (k := x.k) (r := 0) HK.out rfl (by kernel_rfl)) ?_))
        refine wp_region_noPanic ?_
        refine wp_region_held_drew (S := KeptF (fun b => b = mb) wr) (by kernel_rfl) (KeptF.of_after (After.drew (After.refl wr))) ?_
        intro hS0
        refine tk 0 34 (.pointer (some ⟨tb, 0, none⟩)) (fuel := 11) rfl (by kernel_rfl) (by kernel_rfl) (by kernel_rfl) (by kernel_rfl) noPanic_false (by kernel_rfl) (fun _ _ => by kernel_rfl) hS0 ?_
        refine tk 1 35 (.slice (some ⟨ab, ao, none⟩) n ca) (fuel := 10) rfl (by kernel_rfl) (by kernel_rfl) (by kernel_rfl) (by kernel_rfl) noPanic_false (by kernel_rfl) (fun _ _ => by kernel_rfl) hS0 ?_
        refine tk 2 36 (.int .i64 (i : Int)) (fuel := 9) rfl (by kernel_rfl) (by kernel_rfl) (by kernel_rfl) (by kernel_rfl) noPanic_false (by kernel_rfl) (fun _ _ => by kernel_rfl) hS0 ?_
        refine tk 3 37 (.pointer (some ⟨ab, ao + i * 3, none⟩)) (fuel := 8) rfl (by kernel_rfl) (by kernel_rfl) (by kernel_rfl) (by kernel_rfl) noPanic_false (by kernel_rfl) (fun W _ => x_idx22 (n := n) (c := ca) (x := .tmp 35) (y := .tmp 36) (by kernel_rfl) (by kernel_rfl) (by kernel_rfl) HLT.out) hS0 ?_
        refine tk 4 38 (.pointer (some ⟨ab, ao + i * 3 + 1, none⟩)) (fuel := 7) rfl (by kernel_rfl) (by kernel_rfl) (by kernel_rfl) (by kernel_rfl) noPanic_false (by kernel_rfl) (fun _ _ => by kernel_rfl) hS0 ?_
        refine tk 5 39 (.string (strOf x.nm)) (fuel := 6) rfl (by kernel_rfl) (by kernel_rfl) (by kernel_rfl) (by kernel_rfl) noPanic_false (by kernel_rfl) (fun W hW => x_loadT (x := .tmp 38) (t := 9) (g := ab) (j := ao + i * 3 + 1) Try.underlying9 rfl (by kernel_rfl) (by kernel_rfl) (range_kept HX.out.1 hW HNE.out 1 _ rfl)) hS0 ?_
        refine tk 6 40 (.slice (some ⟨ab, ao, none⟩) n ca) (fuel := 5) rfl (by kernel_rfl) (by kernel_rfl) (by kernel_rfl) (by kernel_rfl) noPanic_false (by kernel_rfl) (fun _ _ => by kernel_rfl) hS0 ?_
        refine tk 7 41 (.int .i64 (i : Int)) (fuel := 4) rfl (by kernel_rfl) (by kernel_rfl) (by kernel_rfl) (by kernel_rfl) noPanic_false (by kernel_rfl) (fun _ _ => by kernel_rfl) hS0 ?_
        refine tk 8 42 (.pointer (some ⟨ab, ao + i * 3, none⟩)) (fuel := 3) rfl (by kernel_rfl) (by kernel_rfl) (by kernel_rfl) (by kernel_rfl) noPanic_false (by kernel_rfl) (fun W _ => x_idx22 (n := n) (c := ca) (x := .tmp 40) (y := .tmp 41) (by kernel_rfl) (by kernel_rfl) (by kernel_rfl) HLT.out) hS0 ?_
        refine tk 9 43 (.pointer (some ⟨ab, ao + i * 3 + 2, none⟩)) (fuel := 2) rfl (by kernel_rfl) (by kernel_rfl) (by kernel_rfl) (by kernel_rfl) noPanic_false (by kernel_rfl) (fun _ _ => by kernel_rfl) hS0 ?_
        refine tk 10 44 (.slice x.a p x.c) (fuel := 1) rfl (by kernel_rfl) (by kernel_rfl) (by kernel_rfl) (by kernel_rfl) noPanic_false (by kernel_rfl) (fun W hW => x_loadT (x := .tmp 43) (t := 30) (g := ab) (j := ao + i * 3 + 2) Try.underlying30 rfl (by kernel_rfl) (by kernel_rfl) (range_kept HX.out.1 hW HNE.out 2 _ rfl)) hS0 ?_
        refine tkCallZ 11 45 20 #[.pointer (some ⟨tb, 0, none⟩), .string (strOf x.nm), .slice x.a p x.c] (fun v w' => ∃ cs', fls cs' = crS (fls cs) x.nm x.l ∧ TbA w' (more F wr.drew w') tb mb cs' ∧ KeptF (fun b => b = mb) wr.drew w') (fuel := 0) rfl (by kernel_rfl) (by kernel_rfl) (by kernel_rfl) (fun _ => by kernel_rfl) ((create20 (nm := x.nm) HX.out.2.1.nl HP.out.ok HX.out.2.1.l32 HX.out.2.2 HX.out.2.1.z (HX.out.2.1.sl.after (HP.out.aft.trans (After.drew (After.refl wr)))) (HP.out.tab.after (After.drew (After.refl wr)))).mono (fun e w' ⟨he, h⟩ => ⟨_, he, h⟩)) ?_
        intro v1 w1 ⟨cs', k1, k2, k3⟩
        refine ⟨hS0.trans k3 (fun _ _ h => h), ?_⟩
        refine wpAnyH_done (by kernel_rfl) (NoPanic.normal ?_) _
        have HPN := show Hid _ from (HP.out.after (After.drew (After.refl wr))).call k2 k3 (by rw [k1]; exact HP.out.ok.cr _ _ HX.out.2.1.l32)
        clear hS0 k1 k2 k3
        go_simp
        go_wp2
        go_roundw
        case rel => exact ⟨i + 1, _, cs', by omega, by go_num, HPN⟩
        case measure => simp [intOf]; omega
      · have HK : Hid (x.k.toNat % 4 = 1) := h
        clear h
        go_wp2_with (first
          | (refine wpList_of_run rfl (x_idx22 (x := .tmp 18) (y := .tmp 19) (b := ab) (f := ao) (n := n) (c := ca) (i := i) rfl (by kernel_rfl) (by kernel_rfl) HLT.out) ?_)
          | (refine wpList_of_run rfl (x_loadT (x := .tmp 21) (t := 5) (g := ab) (j := ao + i * 3 + 0) Try.underlying5 rfl rfl (by kernel_rfl) HC0.out) ?_)
          | (refine wpList_of_run rfl (x_rem4 (x := .tmp 22) (k := x.k) (r := 1) HK.out rfl (by kernel_rfl)) ?_))
        refine wp_region_noPanic ?_
        refine wp_region_held_drew (S := KeptF (fun b => b = mb) wr) (by kernel_rfl) (KeptF.of_after (After.drew (After.refl wr))) ?_
        intro hS0
        refine tk 0 34 (.pointer (some ⟨tb, 0, none⟩)) (fuel := 11) rfl (by kernel_rfl) (by kernel_rfl) (by kernel_rfl) (by kernel_rfl) noPanic_false (by kernel_rfl) (fun _ _ => by kernel_rfl) hS0 ?_
        refine tk 1 35 (.slice (some ⟨ab, ao, none⟩) n ca) (fuel := 10) rfl (by kernel_rfl) (by kernel_rfl) (by kernel_rfl) (by kernel_rfl) noPanic_false (by kernel_rfl) (fun _ _ => by kernel_rfl) hS0 ?_
        refine tk 2 36 (.int .i64 (i : Int)) (fuel := 9) rfl (by kernel_rfl) (by kernel_rfl) (by kernel_rfl) (by kernel_rfl) noPanic_false (by kernel_rfl) (fun _ _ => by kernel_rfl) hS0 ?_
        refine tk 3 37 (.pointer (some ⟨ab, ao + i * 3, none⟩)) (fuel := 8) rfl (by kernel_rfl) (by kernel_rfl) (by kernel_rfl) (by kernel_rfl) noPanic_false (by kernel_rfl) (fun W _ => x_idx22 (n := n) (c := ca) (x := .tmp 35) (y := .tmp 36) (by kernel_rfl) (by kernel_rfl) (by kernel_rfl) HLT.out) hS0 ?_
        refine tk 4 38 (.pointer (some ⟨ab, ao + i * 3 + 1, none⟩)) (fuel := 7) rfl (by kernel_rfl) (by kernel_rfl) (by kernel_rfl) (by kernel_rfl) noPanic_false (by kernel_rfl) (fun _ _ => by kernel_rfl) hS0 ?_
        refine tk 5 39 (.string (strOf x.nm)) (fuel := 6) rfl (by kernel_rfl) (by kernel_rfl) (by kernel_rfl) (by kernel_rfl) noPanic_false (by kernel_rfl) (fun W hW => x_loadT (x := .tmp 38) (t := 9) (g := ab) (j := ao + i * 3 + 1) Try.underlying9 rfl (by kernel_rfl) (by kernel_rfl) (range_kept HX.out.1 hW HNE.out 1 _ rfl)) hS0 ?_
        refine tk 6 40 (.slice (some ⟨ab, ao, none⟩) n ca) (fuel := 5) rfl (by kernel_rfl) (by kernel_rfl) (by kernel_rfl) (by kernel_rfl) noPanic_false (by kernel_rfl) (fun _ _ => by kernel_rfl) hS0 ?_
        refine tk 7 41 (.int .i64 (i : Int)) (fuel := 4) rfl (by kernel_rfl) (by kernel_rfl) (by kernel_rfl) (by kernel_rfl) noPanic_false (by kernel_rfl) (fun _ _ => by kernel_rfl) hS0 ?_
        refine tk 8 42 (.pointer (some ⟨ab, ao + i * 3, none⟩)) (fuel := 3) rfl (by kernel_rfl) (by kernel_rfl) (by kernel_rfl) (by kernel_rfl) noPanic_false (by kernel_rfl) (fun W _ => x_idx22 (n := n) (c := ca) (x := .tmp 40) (y := .tmp 41) (by kernel_rfl) (by kernel_rfl) (by kernel_rfl) HLT.out) hS0 ?_
        refine tk 9 43 (.pointer (some ⟨ab, ao + i * 3 + 2, none⟩)) (fuel := 2) rfl (by kernel_rfl) (by kernel_rfl) (by kernel_rfl) (by kernel_rfl) noPanic_false (by kernel_rfl) (fun _ _ => by kernel_rfl) hS0 ?_
        refine tk 10 44 (.slice x.a p x.c) (fuel := 1) rfl (by kernel_rfl) (by kernel_rfl) (by kernel_rfl) (by kernel_rfl) noPanic_false (by kernel_rfl) (fun W hW => x_loadT (x := .tmp 43) (t := 30) (g := ab) (j := ao + i * 3 + 2) Try.underlying30 rfl (by kernel_rfl) (by kernel_rfl) (range_kept HX.out.1 hW HNE.out 2 _ rfl)) hS0 ?_
        refine tkCallZ 11 45 20 #[.pointer (some ⟨tb, 0, none⟩), .string (strOf x.nm), .slice x.a p x.c] (fun v w' => ∃ cs', fls cs' = crS (fls cs) x.nm x.l ∧ TbA w' (more F wr.drew w') tb mb cs' ∧ KeptF (fun b => b = mb) wr.drew w') (fuel := 0) rfl (by kernel_rfl) (by kernel_rfl) (by kernel_rfl) (fun _ => by kernel_rfl) ((create20 (nm := x.nm) HX.out.2.1.nl HP.out.ok HX.out.2.1.l32 HX.out.2.2 HX.out.2.1.z (HX.out.2.1.sl.after (HP.out.aft.trans (After.drew (After.refl wr)))) (HP.out.tab.after (After.drew (After.refl wr)))).mono (fun e w' ⟨he, h⟩ => ⟨_, he, h⟩)) ?_
        intro v1 w1 ⟨cs', k1, k2, k3⟩
        refine ⟨hS0.trans k3 (fun _ _ h => h), ?_⟩
        refine wpAnyH_done (by kernel_rfl) (NoPanic.normal ?_) _
        have HPN := show Hid _ from (HP.out.after (After.drew (After.refl wr))).call k2 k3 (by rw [k1]; exact HP.out.ok.cr _ _ HX.out.2.1.l32)
        clear hS0 k1 k2 k3
        go_simp
        go_wp2
        go_roundw
        case rel => exact ⟨i + 1, _, cs', by omega, by go_num, HPN⟩
        case measure => simp [intOf]; omega
      · have HK : Hid (x.k.toNat % 4 = 2) := h
        clear h
        go_wp2_with (first
          | (refine wpList_of_run rfl (x_idx22 (x := .tmp 18) (y := .tmp 19) (b := ab) (f := ao) (n := n) (c := ca) (i := i) rfl (by kernel_rfl) (by kernel_rfl) HLT.out) ?_)
          | (refine wpList_of_run rfl (x_loadT (x := .tmp 21) (t := 5) (g := ab) (j := ao + i * 3 + 0) Try.underlying5 rfl rfl (by kernel_rfl) HC0.out) ?_)
          | (refine wpList_of_run rfl (x_rem4 (x := .tmp 22) (k := x.k) (r := 2) HK.out rfl (by kernel_rfl)) ?_))
        refine wp_region_noPanic ?_
        refine wp_region_held_drew (S := KeptF (fun b => b = mb) wr) (by kernel_rfl) (KeptF.of_after (After.drew (After.refl wr))) ?_
        intro hS0
        refine tk 0 48 (.pointer (some ⟨tb, 0, none⟩)) (fuel := 11) rfl (by kernel_rfl) (by kernel_rfl) (by kernel_rfl) (by kernel_rfl) noPanic_false (by kernel_rfl) (fun _ _ => by kernel_rfl) hS0 ?_
        refine tk 1 49 (.slice (some ⟨ab, ao, none⟩) n ca) (fuel := 10) rfl (by kernel_rfl) (by kernel_rfl) (by kernel_rfl) (by kernel_rfl) noPanic_false (by kernel_rfl) (fun _ _ => by kernel_rfl) hS0 ?_
        refine tk 2 50 (.int .i64 (i : Int)) (fuel := 9) rfl (by kernel_rfl) (by kernel_rfl) (by kernel_rfl) (by kernel_rfl) noPanic_false (by kernel_rfl) (fun _ _ => by kernel_rfl) hS0 ?_
        refine tk 3 51 (.pointer (some ⟨ab, ao + i * 3, none⟩)) (fuel := 8) rfl (by kernel_rfl) (by kernel_rfl) (by kernel_rfl) (by kernel_rfl) noPanic_false (by kernel_rfl) (fun W _ => x_idx22 (n := n) (c := ca) (x := .tmp 49) (y := .tmp 50) (by kernel_rfl) (by kernel_rfl) (by kernel_rfl) HLT.out) hS0 ?_
        refine tk 4 52 (.pointer (some ⟨ab, ao + i * 3 + 1, none⟩)) (fuel := 7) rfl (by kernel_rfl) (by kernel_rfl) (by kernel_rfl) (by kernel_rfl) noPanic_false (by kernel_rfl) (fun _ _ => by kernel_rfl) hS0 ?_
        refine tk 5 53 (.string (strOf x.nm)) (fuel := 6) rfl (by kernel_rfl) (by kernel_rfl) (by kernel_rfl) (by kernel_rfl) noPanic_false (by kernel_rfl) (fun W hW => x_loadT (x := .tmp 52) (t := 9) (g := ab) (j := ao + i * 3 + 1) Try.underlying9 rfl (by kernel_rfl) (by kernel_rfl) (range_kept HX.out.1 hW HNE.out 1 _ rfl)) hS0 ?_
        refine tk 6 54 (.slice (some ⟨ab, ao, none⟩) n ca) (fuel := 5) rfl (by kernel_rfl) (by kernel_rfl) (by kernel_rfl) (by kernel_rfl) noPanic_false (by kernel_rfl) (fun _ _ => by kernel_rfl) hS0 ?_
        refine tk 7 55 (.int .i64 (i : Int)) (fuel := 4) rfl (by kernel_rfl) (by kernel_rfl) (by kernel_rfl) (by kernel_rfl) noPanic_false (by kernel_rfl) (fun _ _ => by kernel_rfl) hS0 ?_
        refine tk 8 56 (.pointer (some ⟨ab, ao + i * 3, none⟩)) (fuel := 3) rfl (by kernel_rfl) (by kernel_rfl) (by kernel_rfl) (by kernel_rfl) noPanic_false (by kernel_rfl) (fun W _ => x_idx22 (n := n) (c := ca) (x := .tmp 54) (y := .tmp 55) (by kernel_rfl) (by kernel_rfl) (by kernel_rfl) HLT.out) hS0 ?_
        refine tk 9 57 (.pointer (some ⟨ab, ao + i * 3 + 2, none⟩)) (fuel := 2) rfl (by kernel_rfl) (by kernel_rfl) (by kernel_rfl) (by kernel_rfl) noPanic_false (by kernel_rfl) (fun _ _ => by kernel_rfl) hS0 ?_
        refine tk 10 58 (.slice x.a p x.c) (fuel := 1) rfl (by kernel_rfl) (by kernel_rfl) (by kernel_rfl) (by kernel_rfl) noPanic_false (by kernel_rfl) (fun W hW => x_loadT (x := .tmp 57) (t := 30) (g := ab) (j := ao + i * 3 + 2) Try.underlying30 rfl (by kernel_rfl) (by kernel_rfl) (range_kept HX.out.1 hW HNE.out 2 _ rfl)) hS0 ?_
        refine tkCallZ 11 59 21 #[.pointer (some ⟨tb, 0, none⟩), .string (strOf x.nm), .slice x.a p x.c] (fun v w' => ∃ cs', fls cs' = mvS (fls cs) x.nm x.l ∧ TbA w' (more F wr.drew w') tb mb cs' ∧ KeptF (fun b => b = mb) wr.drew w') (fuel := 0) rfl (by kernel_rfl) (by kernel_rfl) (by kernel_rfl) (fun _ => by kernel_rfl) ((move21 (nm := x.nm) HX.out.2.1.nl HP.out.ok HX.out.2.1.l32 HX.out.2.2 HX.out.2.1.z (HX.out.2.1.sl.after (HP.out.aft.trans (After.drew (After.refl wr)))) (HP.out.tab.after (After.drew (After.refl wr)))).mono (fun e w' ⟨he, h⟩ => ⟨_, he, h⟩)) ?_
        intro v1 w1 ⟨cs', k1, k2, k3⟩
        refine ⟨hS0.trans k3 (fun _ _ h => h), ?_⟩
        refine wpAnyH_done (by kernel_rfl) (NoPanic.normal ?_) _
        have HPN := show Hid _ from (HP.out.after (After.drew (After.refl wr))).call k2 k3 (by rw [k1]; exact HP.out.ok.mv _ _ HX.out.2.1.l32)
        clear hS0 k1 k2 k3
        go_simp
        go_wp2
        go_roundw
        case rel => exact ⟨i + 1, _, cs', by omega, by go_num, HPN⟩
        case measure => simp [intOf]; omega
      · have HK : Hid (x.k.toNat % 4 = 3) := h
        clear h
        go_wp2_with (first
          | (refine wpList_of_run rfl (x_idx22 (x := .tmp 18) (y := .tmp 19) (b := ab) (f := ao) (n := n) (c := ca) (i := i) rfl (by kernel_rfl) (by kernel_rfl) HLT.out) ?_)
          | (refine wpList_of_run rfl (x_loadT (x := .tmp 21) (t := 5) (g := ab) (j := ao + i * 3 + 0) Try.underlying5 rfl rfl (by kernel_rfl) HC0.out) ?_)
          | (refine wpList_of_run rfl (x_rem4 (x := .tmp 22) (k := x.k) (r := 3) HK.out rfl (by kernel_rfl)) ?_)
          | (refine wpList_of_run rfl (x_idx22 (x := .tmp 25) (y := .tmp 26) (b := ab) (f := ao) (n := n) (c := ca) (i := i) rfl (by kernel_rfl) (by kernel_rfl) HLT.out) ?_)
          | (refine wpList_of_run rfl (x_loadT (x := .tmp 28) (t := 9) (g := ab) (j := ao + i * 3 + 1) Try.underlying9 rfl rfl (by kernel_rfl) HC1.out) ?_)
          | (go_at_call 22; refine Calls.mono (delete22 (nm := x.nm) HX.out.2.1.nl HP.out.tab) ?_; rintro e w4 ⟨rfl, cs', k1, k2, k3⟩; have HPN := show Hid _ from HP.out.call k2 k3 (by rw [k1]; exact HP.out.ok.dl _); clear k1 k2 k3))
        go_roundw
        case rel => exact ⟨i + 1, _, cs', by omega, by go_num, HPN⟩
        case measure => simp [intOf]; omega
    · have hii : ¬ (i : Int) < (n : Int) := by omega
      obtain ⟨N, hN⟩ : ∃ N, cs.length = N := ⟨_, rfl⟩
      have hN64 : N ≤ 64 := by have := HP.out.ok.few; rw [fls_len, hN] at this; exact this
      have CLI := show Hid _ from HP.out.list
      rw [hN] at CLI
      have hN64i : ¬ (N : Int) > 64 := by omega
      have HNN : Hid (cs.length = N) := hN
      clear hN
      go_wp2_with (first
        | (go_at_call 23; first | (refine Calls.mono CL2.out ?_; rintro e w5 ⟨qa, qc, Y, rfl, k1, k2, k3, k4⟩; have H5 := show Hid (BsAt w5 qa Y ∧ bof Y = fls cs ∧ Y.length = N ∧ After w4 w5) from ⟨k1, by rw [k2, H4.out.2], k3, k4⟩; clear k1 k2 k3 k4) | (refine Calls.mono CLI.out ?_; rintro e w3 ⟨pa, pc, X, rfl, k1, k2, k3, k4⟩; have H3 := show Hid (BsAt w3 pa X ∧ bof X = fls cs ∧ X.length = N ∧ After w w3) from ⟨k1, k2, k3, HP.out.aft.trans k4⟩; clear k1 k2 k3 k4))
        | (go_at_call 17; refine Calls.mono (load17 (n := N) H3.out.2.2.1 (by omega) (nm_len H3.out.2.1 HP.out.ok) H3.out.1) ?_
           rintro e w4 hld
           rw [H3.out.2.1] at hld
           rcases hld with ⟨_, tu, mu, Fu, cu, rfl, k1, k2⟩ | ⟨kbad, _⟩
           rotate_left
           · exact absurd HP.out.ok.lok kbad
           have H4 := show Hid (TbI w3 tu mu Fu cu w4 ∧ fls cu = fls cs) from ⟨k1, k2⟩
           have hcu : cu.length = N := (by rw [← fls_len, k2, fls_len]; exact HNN.out)
           have CL2 := show Hid _ from k1.list
           rw [hcu] at CL2
           clear k1 k2 hcu)
        | (go_at_call 24; refine Calls.mono (same24_self H5.out.1 ((H3.out.1.after H4.out.1.aft).after H5.out.2.2.2) (by rw [H5.out.2.1, H3.out.2.1]) H5.out.2.2.1 H3.out.2.2.1 (by omega)) ?_; rintro e w6 ⟨rfl, h6⟩; have H6 := show Hid (TbI w3 tu mu Fu cu w6) from (H4.out.1.after H5.out.2.2.2).after h6; clear h6))
      have HXX : Hid (BsAt w3 pa X ∧ bof X = fls cs ∧ X.length = N ∧ After w w3 ∧ TOk (fls cs) ∧ fls cu = fls cs) := ⟨H3.out.1, H3.out.2.1, H3.out.2.2.1, H3.out.2.2.2, HP.out.ok, H4.out.2⟩
      clear HP CLI H3 H4 H5 CL2 hin
      go_loopw [8] (fun iv wr => ∃ (i : Nat), i ≤ N ∧ iv = .int .i64 (i : Int) ∧ Hid (TbI w3 tu mu Fu cu wr)) (fun iv _ => N - (intOf iv).toNat)
      case atStart => exact ⟨0, Nat.zero_le _, rfl, H6⟩
      case round =>
        obtain ⟨i, hin, rfl, HP⟩ := hrel
        by_cases hlt : i < N
        · have hii : (i : Int) < (N : Int) := by omega
          have HLT : Hid (i < N) := hlt
          obtain ⟨x, hx⟩ : ∃ x, X[i]? = some x := ⟨_, List.getElem?_eq_getElem (by rw [HXX.out.2.2.1]; exact hlt)⟩
          obtain ⟨xb, xo, hla, hlr⟩ := HXX.out.1.sl.at (bs_get hx)
          subst hla
          obtain ⟨p, hp⟩ : ∃ p, x.l.length = p := ⟨_, rfl⟩
          have hr1 : wr.rangeAt xb (xo + i * 2) [.string (strOf x.nm), .slice x.a p x.c] := by rw [← hp]; exact range_after hlr HP.out.aft
          have hmem : (x.nm, x.l) ∈ fls cs := by rw [← HXX.out.2.1]; exact List.mem_of_getElem? (bof_get hx)
          have hget : fget x.nm (fls cu) = some x.l := by rw [HXX.out.2.2.2.2.2]; exact rising_get HXX.out.2.2.2.2.1.ris hmem
          have hnl : x.nm.length ≤ maxLen := by have h2 := nmB_len (HXX.out.2.2.2.2.1.nam _ hmem); simp only at h2; unfold maxLen; omega
          have C12 := show Hid _ from heads12 (nm := x.nm) hnl HP.out.ok HP.out.tab
          rw [hget, show dlE (fls cu) x.nm = 0 by unfold dlE; rw [fhas_get hget]; simp] at C12
          have HX : Hid (wr.rangeAt xb (xo + i * 2) [.string (strOf x.nm), .slice x.a p x.c] ∧ x.l.length = p) := ⟨hr1, hp⟩
          have HC0 : Hid (wr.cell? ⟨xb, xo + i * 2 + 0, none⟩ = some (.string (strOf x.nm))) := hr1 0 _ rfl
          have HXI : Hid ((bof X)[i]? = some (x.nm, x.l)) := bof_get hx
          clear hx hlr hp hr1 hmem hget hnl
          go_wp2_with (first
            | (refine wpList_of_run rfl (x_idx25 (x := .tmp 93) (y := .tmp 94) (b := xb) (f := xo) (n := N) (c := pc) (i := i) rfl (by kernel_rfl) (by kernel_rfl) HLT.out) ?_)
            | (refine wpList_of_run rfl (x_loadT (x := .tmp 96) (t := 9) (g := xb) (j := xo + i * 2 + 0) Try.underlying9 rfl rfl (by kernel_rfl) HC0.out) ?_)
            | (go_at_call 12; refine Calls.mono C12.out ?_; rintro e w7 ⟨ha, hn', hc, rfl, k1, _, k3, _⟩; simp only [Option.getD_some] at k1; rw [HX.out.2] at k1; have k1 := k1.symm; subst k1; have HP7 := show Hid _ from HP.out.after k3; have HA7 := show Hid (After wr w7) from k3; clear k3))
          by_cases hi0 : i = 0
          · have HI0 : Hid (decide (0 < i) = false) := by rw [hi0]; exact (rfl : decide (0 < 0) = false)
            clear hi0
            refine wp_region_noPanic ?_
            refine wp_region_held_drew (S := After w7) (by kernel_rfl) (After.drew (After.refl w7)) ?_
            intro hS0
            refine tk 0 101 (.int .i64 0) (fuel := 30) rfl (by kernel_rfl) (by kernel_rfl) (by kernel_rfl) (by kernel_rfl) noPanic_false (by kernel_rfl) (fun _ _ => by kernel_rfl) hS0 ?_
            refine tk 1 102 (.bool false) (fuel := 29) rfl (by kernel_rfl) (by kernel_rfl) (by kernel_rfl) (by kernel_rfl) noPanic_false (by kernel_rfl) (fun _ _ => by kernel_rfl) hS0 ?_
            refine tk 2 103 (.bool false) (fuel := 28) rfl (by kernel_rfl) (by kernel_rfl) (by kernel_rfl) (by kernel_rfl) noPanic_false (by kernel_rfl) (fun _ _ => by kernel_rfl) hS0 ?_
            refine tk 3 104 (.slice ha p hc) (fuel := 27) rfl (by kernel_rfl) (by kernel_rfl) (by kernel_rfl) (by kernel_rfl) noPanic_false (by kernel_rfl) (fun _ _ => by kernel_rfl) hS0 ?_
            refine tk 4 105 (.int .i64 (p : Int)) (fuel := 26) rfl (by kernel_rfl) (by kernel_rfl) (by kernel_rfl) (by kernel_rfl) noPanic_false (by kernel_rfl) (fun _ _ => by kernel_rfl) hS0 ?_
            refine tk 5 106 (.slice (some ⟨xb, xo, none⟩) N pc) (fuel := 25) rfl (by kernel_rfl) (by kernel_rfl) (by kernel_rfl) (by kernel_rfl) noPanic_false (by kernel_rfl) (fun _ _ => by kernel_rfl) hS0 ?_
            refine tk 6 107 (.int .i64 (i : Int)) (fuel := 24) rfl (by kernel_rfl) (by kernel_rfl) (by kernel_rfl) (by kernel_rfl) noPanic_false (by kernel_rfl) (fun _ _ => by kernel_rfl) hS0 ?_
            refine tk 7 108 (.pointer (some ⟨xb, xo + i * 2, none⟩)) (fuel := 23) rfl (by kernel_rfl) (by kernel_rfl) (by kernel_rfl) (by kernel_rfl) noPanic_false (by kernel_rfl) (fun W _ => x_idx25 (n := N) (c := pc) (x := .tmp 106) (y := .tmp 107) (by kernel_rfl) (by kernel_rfl) (by kernel_rfl) HLT.out) hS0 ?_
            refine tk 8 109 (.pointer (some ⟨xb, xo + i * 2 + 1, none⟩)) (fuel := 22) rfl (by kernel_rfl) (by kernel_rfl) (by kernel_rfl) (by kernel_rfl) noPanic_false (by kernel_rfl) (fun _ _ => by kernel_rfl) hS0 ?_
            refine tk 9 110 (.slice x.a p x.c) (fuel := 21) rfl (by kernel_rfl) (by kernel_rfl) (by kernel_rfl) (by kernel_rfl) noPanic_false (by kernel_rfl) (fun W hW => x_loadT (x := .tmp 109) (t := 30) (g := xb) (j := xo + i * 2 + 1) Try.underlying30 rfl (by kernel_rfl) (by kernel_rfl) (range_after (range_after HX.out.1 HA7.out) hW 1 _ rfl)) hS0 ?_
            refine tk 10 111 (.int .i64 (p : Int)) (fuel := 20) rfl (by kernel_rfl) (by kernel_rfl) (by kernel_rfl) (by kernel_rfl) noPanic_false (by kernel_rfl) (fun _ _ => by kernel_rfl) hS0 ?_
            refine tk 11 112 (.bool false) (fuel := 19) rfl (by kernel_rfl) (by kernel_rfl) (by kernel_rfl) (by kernel_rfl) noPanic_false (by kernel_rfl) (fun W _ => x_nei (k := p) (x := .tmp 105) (y := .tmp 111) (by kernel_rfl) (by kernel_rfl) (by kernel_rfl)) hS0 ?_
            refine tk 12 113 (.bool false) (fuel := 18) rfl (by kernel_rfl) (by kernel_rfl) (by kernel_rfl) (by kernel_rfl) noPanic_false (by kernel_rfl) (fun _ _ => by kernel_rfl) hS0 ?_
            refine tk 13 114 (.bool false) (fuel := 17) rfl (by kernel_rfl) (by kernel_rfl) (by kernel_rfl) (by kernel_rfl) noPanic_false (by kernel_rfl) (fun _ _ => by kernel_rfl) hS0 ?_
            refine tk 14 115 (.int .i64 (i : Int)) (fuel := 16) rfl (by kernel_rfl) (by kernel_rfl) (by kernel_rfl) (by kernel_rfl) noPanic_false (by kernel_rfl) (fun _ _ => by kernel_rfl) hS0 ?_
            refine tk 15 116 (.bool false) (fuel := 15) rfl (by kernel_rfl) (by kernel_rfl) (by kernel_rfl) (by kernel_rfl) noPanic_false (by kernel_rfl) (fun W _ => (x_gtr0 (x := .tmp 115) (k := i) (by kernel_rfl) (by kernel_rfl)).trans (by rw [HI0.out])) hS0 ?_
            refine tk 16 117 (.bool false) (fuel := 14) rfl (by kernel_rfl) (by kernel_rfl) (by kernel_rfl) (by kernel_rfl) noPanic_false (by kernel_rfl) (fun _ _ => by kernel_rfl) hS0 ?_
            refine tkSkip 17 118 (fuel := 13) rfl (by kernel_rfl) (by kernel_rfl) (by kernel_rfl) (by kernel_rfl) noPanic_false (by kernel_rfl) hS0 ?_
            refine tkSkip 18 119 (fuel := 12) rfl (by kernel_rfl) (by kernel_rfl) (by kernel_rfl) (by kernel_rfl) noPanic_false (by kernel_rfl) hS0 ?_
            refine tkSkip 19 120 (fuel := 11) rfl (by kernel_rfl) (by kernel_rfl) (by kernel_rfl) (by kernel_rfl) noPanic_false (by kernel_rfl) hS0 ?_
            refine tkSkip 20 121 (fuel := 10) rfl (by kernel_rfl) (by kernel_rfl) (by kernel_rfl) (by kernel_rfl) noPanic_false (by kernel_rfl) hS0 ?_
            refine tkSkip 21 122 (fuel := 9) rfl (by kernel_rfl) (by kernel_rfl) (by kernel_rfl) (by kernel_rfl) noPanic_false (by kernel_rfl) hS0 ?_
            refine tkSkip 22 123 (fuel := 8) rfl (by kernel_rfl) (by kernel_rfl) (by kernel_rfl) (by kernel_rfl) noPanic_false (by kernel_rfl) hS0 ?_
            refine tkSkip 23 124 (fuel := 7) rfl (by kernel_rfl) (by kernel_rfl) (by kernel_rfl) (by kernel_rfl) noPanic_false (by kernel_rfl) hS0 ?_
            refine tkSkip 24 125 (fuel := 6) rfl (by kernel_rfl) (by kernel_rfl) (by kernel_rfl) (by kernel_rfl) noPanic_false (by kernel_rfl) hS0 ?_
            refine tkSkip 25 126 (fuel := 5) rfl (by kernel_rfl) (by kernel_rfl) (by kernel_rfl) (by kernel_rfl) noPanic_false (by kernel_rfl) hS0 ?_
            refine tkSkip 26 127 (fuel := 4) rfl (by kernel_rfl) (by kernel_rfl) (by kernel_rfl) (by kernel_rfl) noPanic_false (by kernel_rfl) hS0 ?_
            refine tkSkip 27 128 (fuel := 3) rfl (by kernel_rfl) (by kernel_rfl) (by kernel_rfl) (by kernel_rfl) noPanic_false (by kernel_rfl) hS0 ?_
            refine tkSkip 28 129 (fuel := 2) rfl (by kernel_rfl) (by kernel_rfl) (by kernel_rfl) (by kernel_rfl) noPanic_false (by kernel_rfl) hS0 ?_
            refine tk 29 130 (.bool false) (fuel := 1) rfl (by kernel_rfl) (by kernel_rfl) (by kernel_rfl) (by kernel_rfl) noPanic_false (by kernel_rfl) (fun _ _ => by kernel_rfl) hS0 ?_
            refine tk 30 131 (.bool false) (fuel := 0) rfl (by kernel_rfl) (by kernel_rfl) (by kernel_rfl) (by kernel_rfl) noPanic_false (by kernel_rfl) (fun _ _ => by kernel_rfl) hS0 ?_
            refine wpAnyH_done (by kernel_rfl) (NoPanic.normal ?_) _
            have HPN := show Hid _ from HP7.out.after hS0
            clear hS0
            go_simp
            go_wp2
            go_roundw
            case rel => exact ⟨i + 1, by omega, by go_num, HPN⟩
            case measure => simp [intOf]; omega
          · obtain ⟨j, hj⟩ : ∃ j, i = j + 1 := ⟨i - 1, by omega⟩
            have HI0 : Hid (decide (0 < i) = true) := decide_eq_true (by omega)
            have HJ : Hid (i = j + 1 ∧ i < 4611686018427387904 ∧ j < N) := ⟨hj, by omega, by omega⟩
            obtain ⟨y, hy⟩ : ∃ y, X[j]? = some y := ⟨_, List.getElem?_eq_getElem (by rw [HXX.out.2.2.1]; omega)⟩
            obtain ⟨yb, yo, hya, hyr⟩ := HXX.out.1.sl.at (bs_get hy)
            cases hya
            have HY : Hid (w7.rangeAt xb (xo + j * 2) (brc y)) := range_after hyr HP7.out.aft
            have HBB : Hid (bytesBefore y.nm x.nm = true) := by
              have h2 := bof_get hy
              have h1 := HXI.out
              rw [HXX.out.2.1] at h1 h2
              obtain ⟨a1, e1⟩ := List.getElem?_eq_some_iff.1 h1
              obtain ⟨a2, e2⟩ := List.getElem?_eq_some_iff.1 h2
              have h3 := (List.pairwise_iff_getElem.1 HXX.out.2.2.2.2.1.ris) j i a2 a1 (by omega)
              rw [e1, e2] at h3
              exact h3
            clear hj hy hyr hi0
            refine wp_region_noPanic ?_
            refine wp_region_held_drew (S := After w7) (by kernel_rfl) (After.drew (After.refl w7)) ?_
            intro hS0
            refine tk 0 101 (.int .i64 0) (fuel := 30) rfl (by kernel_rfl) (by kernel_rfl) (by kernel_rfl) (by kernel_rfl) noPanic_false (by kernel_rfl) (fun _ _ => by kernel_rfl) hS0 ?_
            refine tk 1 102 (.bool false) (fuel := 29) rfl (by kernel_rfl) (by kernel_rfl) (by kernel_rfl) (by kernel_rfl) noPanic_false (by kernel_rfl) (fun _ _ => by kernel_rfl) hS0 ?_
            refine tk 2 103 (.bool false) (fuel := 28) rfl (by kernel_rfl) (by kernel_rfl) (by kernel_rfl) (by kernel_rfl) noPanic_false (by kernel_rfl) (fun _ _ => by kernel_rfl) hS0 ?_
            refine tk 3 104 (.slice ha p hc) (fuel := 27) rfl (by kernel_rfl) (by kernel_rfl) (by kernel_rfl) (by kernel_rfl) noPanic_false (by kernel_rfl) (fun _ _ => by kernel_rfl) hS0 ?_
            refine tk 4 105 (.int .i64 (p : Int)) (fuel := 26) rfl (by kernel_rfl) (by kernel_rfl) (by kernel_rfl) (by kernel_rfl) noPanic_false (by kernel_rfl) (fun _ _ => by kernel_rfl) hS0 ?_
            refine tk 5 106 (.slice (some ⟨xb, xo, none⟩) N pc) (fuel := 25) rfl (by kernel_rfl) (by kernel_rfl) (by kernel_rfl) (by kernel_rfl) noPanic_false (by kernel_rfl) (fun _ _ => by kernel_rfl) hS0 ?_
            refine tk 6 107 (.int .i64 (i : Int)) (fuel := 24) rfl (by kernel_rfl) (by kernel_rfl) (by kernel_rfl) (by kernel_rfl) noPanic_false (by kernel_rfl) (fun _ _ => by kernel_rfl) hS0 ?_
            refine tk 7 108 (.pointer (some ⟨xb, xo + i * 2, none⟩)) (fuel := 23) rfl (by kernel_rfl) (by kernel_rfl) (by kernel_rfl) (by kernel_rfl) noPanic_false (by kernel_rfl) (fun W _ => x_idx25 (n := N) (c := pc) (x := .tmp 106) (y := .tmp 107) (by kernel_rfl) (by kernel_rfl) (by kernel_rfl) HLT.out) hS0 ?_
            refine tk 8 109 (.pointer (some ⟨xb, xo + i * 2 + 1, none⟩)) (fuel := 22) rfl (by kernel_rfl) (by kernel_rfl) (by kernel_rfl) (by kernel_rfl) noPanic_false (by kernel_rfl) (fun _ _ => by kernel_rfl) hS0 ?_
            refine tk 9 110 (.slice x.a p x.c) (fuel := 21) rfl (by kernel_rfl) (by kernel_rfl) (by kernel_rfl) (by kernel_rfl) noPanic_false (by kernel_rfl) (fun W hW => x_loadT (x := .tmp 109) (t := 30) (g := xb) (j := xo + i * 2 + 1) Try.underlying30 rfl (by kernel_rfl) (by kernel_rfl) (range_after (range_after HX.out.1 HA7.out) hW 1 _ rfl)) hS0 ?_
            refine tk 10 111 (.int .i64 (p : Int)) (fuel := 20) rfl (by kernel_rfl) (by kernel_rfl) (by kernel_rfl) (by kernel_rfl) noPanic_false (by kernel_rfl) (fun _ _ => by kernel_rfl) hS0 ?_
            refine tk 11 112 (.bool false) (fuel := 19) rfl (by kernel_rfl) (by kernel_rfl) (by kernel_rfl) (by kernel_rfl) noPanic_false (by kernel_rfl) (fun W _ => x_nei (k := p) (x := .tmp 105) (y := .tmp 111) (by kernel_rfl) (by kernel_rfl) (by kernel_rfl)) hS0 ?_
            refine tk 12 113 (.bool false) (fuel := 18) rfl (by kernel_rfl) (by kernel_rfl) (by kernel_rfl) (by kernel_rfl) noPanic_false (by kernel_rfl) (fun _ _ => by kernel_rfl) hS0 ?_
            refine tk 13 114 (.bool false) (fuel := 17) rfl (by kernel_rfl) (by kernel_rfl) (by kernel_rfl) (by kernel_rfl) noPanic_false (by kernel_rfl) (fun _ _ => by kernel_rfl) hS0 ?_
            refine tk 14 115 (.int .i64 (i : Int)) (fuel := 16) rfl (by kernel_rfl) (by kernel_rfl) (by kernel_rfl) (by kernel_rfl) noPanic_false (by kernel_rfl) (fun _ _ => by kernel_rfl) hS0 ?_
            refine tk 15 116 (.bool true) (fuel := 15) rfl (by kernel_rfl) (by kernel_rfl) (by kernel_rfl) (by kernel_rfl) noPanic_false (by kernel_rfl) (fun W _ => (x_gtr0 (x := .tmp 115) (k := i) (by kernel_rfl) (by kernel_rfl)).trans (by rw [HI0.out])) hS0 ?_
            refine tk 16 117 (.bool true) (fuel := 14) rfl (by kernel_rfl) (by kernel_rfl) (by kernel_rfl) (by kernel_rfl) noPanic_false (by kernel_rfl) (fun _ _ => by kernel_rfl) hS0 ?_
            refine tk 17 118 (.slice (some ⟨xb, xo, none⟩) N pc) (fuel := 13) rfl (by kernel_rfl) (by kernel_rfl) (by kernel_rfl) (by kernel_rfl) noPanic_false (by kernel_rfl) (fun _ _ => by kernel_rfl) hS0 ?_
            refine tk 18 119 (.int .i64 (i : Int)) (fuel := 12) rfl (by kernel_rfl) (by kernel_rfl) (by kernel_rfl) (by kernel_rfl) noPanic_false (by kernel_rfl) (fun _ _ => by kernel_rfl) hS0 ?_
            refine tk 19 120 (.int .i64 (j : Int)) (fuel := 11) rfl (by kernel_rfl) (by kernel_rfl) (by kernel_rfl) (by kernel_rfl) noPanic_false (by kernel_rfl) (fun W _ => x_sub1 (k := i) (i := j) (x := .tmp 119) (by kernel_rfl) (by kernel_rfl) HJ.out.1 HJ.out.2.1) hS0 ?_
            refine tk 20 121 (.pointer (some ⟨xb, xo + j * 2, none⟩)) (fuel := 10) rfl (by kernel_rfl) (by kernel_rfl) (by kernel_rfl) (by kernel_rfl) noPanic_false (by kernel_rfl) (fun W _ => x_idx25 (n := N) (c := pc) (x := .tmp 118) (y := .tmp 120) (by kernel_rfl) (by kernel_rfl) (by kernel_rfl) HJ.out.2.2) hS0 ?_
            refine tk 21 122 (.pointer (some ⟨xb, xo + j * 2, none⟩)) (fuel := 9) rfl (by kernel_rfl) (by kernel_rfl) (by kernel_rfl) (by kernel_rfl) noPanic_false (by kernel_rfl) (fun _ _ => by kernel_rfl) hS0 ?_
            refine tk 22 123 (.string (strOf y.nm)) (fuel := 8) rfl (by kernel_rfl) (by kernel_rfl) (by kernel_rfl) (by kernel_rfl) noPanic_false (by kernel_rfl) (fun W hW => x_loadT (x := .tmp 122) (t := 9) (g := xb) (j := xo + j * 2 + 0) Try.underlying9 rfl (by kernel_rfl) (by kernel_rfl) (range_after HY.out hW 0 _ rfl)) hS0 ?_
            refine tk 23 124 (.slice (some ⟨xb, xo, none⟩) N pc) (fuel := 7) rfl (by kernel_rfl) (by kernel_rfl) (by kernel_rfl) (by kernel_rfl) noPanic_false (by kernel_rfl) (fun _ _ => by kernel_rfl) hS0 ?_
            refine tk 24 125 (.int .i64 (i : Int)) (fuel := 6) rfl (by kernel_rfl) (by kernel_rfl) (by kernel_rfl) (by kernel_rfl) noPanic_false (by kernel_rfl) (fun _ _ => by kernel_rfl) hS0 ?_
            refine tk 25 126 (.pointer (some ⟨xb, xo + i * 2, none⟩)) (fuel := 5) rfl (by kernel_rfl) (by kernel_rfl) (by kernel_rfl) (by kernel_rfl) noPanic_false (by kernel_rfl) (fun W _ => x_idx25 (n := N) (c := pc) (x := .tmp 124) (y := .tmp 125) (by kernel_rfl) (by kernel_rfl) (by kernel_rfl) HLT.out) hS0 ?_
            refine tk 26 127 (.pointer (some ⟨xb, xo + i * 2, none⟩)) (fuel := 4) rfl (by kernel_rfl) (by kernel_rfl) (by kernel_rfl) (by kernel_rfl) noPanic_false (by kernel_rfl) (fun _ _ => by kernel_rfl) hS0 ?_
            refine tk 27 128 (.string (strOf x.nm)) (fuel := 3) rfl (by kernel_rfl) (by kernel_rfl) (by kernel_rfl) (by kernel_rfl) noPanic_false (by kernel_rfl) (fun W hW => x_loadT (x := .tmp 127) (t := 9) (g := xb) (j := xo + i * 2 + 0) Try.underlying9 rfl (by kernel_rfl) (by kernel_rfl) (range_after (range_after HX.out.1 HA7.out) hW 0 _ rfl)) hS0 ?_
            refine tk 28 129 (.bool false) (fuel := 2) rfl (by kernel_rfl) (by kernel_rfl) (by kernel_rfl) (by kernel_rfl) noPanic_false (by kernel_rfl) (fun W _ => (x_geq9 (s := y.nm) (t := x.nm) (x := .tmp 123) (y := .tmp 128) (by kernel_rfl) (by kernel_rfl) (by kernel_rfl)).trans (by rw [HBB.out]; rfl)) hS0 ?_
            refine tk 29 130 (.bool false) (fuel := 1) rfl (by kernel_rfl) (by kernel_rfl) (by kernel_rfl) (by kernel_rfl) noPanic_false (by kernel_rfl) (fun _ _ => by kernel_rfl) hS0 ?_
            refine tk 30 131 (.bool false) (fuel := 0) rfl (by kernel_rfl) (by kernel_rfl) (by kernel_rfl) (by kernel_rfl) noPanic_false (by kernel_rfl) (fun _ _ => by kernel_rfl) hS0 ?_
            refine wpAnyH_done (by kernel_rfl) (NoPanic.normal ?_) _
            have HPN := show Hid _ from HP7.out.after hS0
            clear hS0
            go_simp
            go_wp2
            go_roundw
            case rel => exact ⟨i + 1, by omega, by go_num, HPN⟩
            case measure => simp [intOf]; omega
        · have hii : ¬ (i : Int) < (N : Int) := by omega
          go_wp2_with (go_at_call 15; refine Calls.mono (awake15 wr) ?_; rintro e w8 ⟨rfl, h8⟩; have H8 := show Hid (After w w8) from (HXX.out.2.2.2.1.trans HP.out.aft).trans h8; clear h8)
          go_ret
          exact ⟨rfl, H8.out⟩
end Go.Proofs.Ytppbbmnekeelpaa
