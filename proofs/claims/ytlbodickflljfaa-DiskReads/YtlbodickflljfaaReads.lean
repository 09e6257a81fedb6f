/-
  THE WALK OF stemmalaw05.DiskReads.
-/
import Derived.Test.YtlbodickflljfaaPlays
namespace Go.Proofs.Ytlbodickflljfaa
open Go.RowKit Go.Maps Dsk

set_option maxRecDepth 100000 in
set_option maxHeartbeats 3200000 in
theorem reads_any (ao : Option Addr) (c : Nat) (l : List Act5) (hn : l.length ≤ 140737488355328) (nm : Nm) (hnm : nm.length ≤ maxLen) (w : World) (hat : ActsAt w ao l) :
    Calls Try.prog 4 #[.slice ao l.length c, .string (strOf nm)] w fun e w' => e = .returned (.bool true) ∧ Below w.heap.size w w' := by
  have HNM : Hid (nm.length ≤ maxLen) := hnm
  clear hnm
  have HAT : Hid (ActsAt w ao l) := hat
  obtain ⟨n, hl⟩ : ∃ n, l.length = n := ⟨_, rfl⟩
  have HN : Hid (l.length = n) := hl
  rw [hl] at hn ⊢
  obtain ⟨S0, hS0⟩ : ∃ S0, newS 500 = S0 := ⟨_, rfl⟩
  have HS0 : Hid (newS 500 = S0) := hS0
  have HST0 : Hid (S0.steps = 0) := by rw [← hS0]; rfl
  clear hat hl hS0
  go_enter Try.func4, Try.ntmps4
  go_wp2_with (first
    | (go_at_call 11; refine (live_new 500 w).mono ?_; rw [HS0.out]; rintro e w1 ⟨rfl, h1⟩; have H1 := show Hid (Live _ _ _ _ _) from h1; clear h1)
    | (go_at_call 12; refine (rNew_any 500 w1).mono ?_; rw [HS0.out]; rintro e w2 ⟨v2, rfl, h2, ha2⟩; obtain ⟨F0, R0, hv2, h07, h01, hp0⟩ := PlI.start H1.out h2 ha2 HST0.out; subst hv2; have HP0 := show Hid (PlI _ _ _ _ _ _ _ _) from hp0; clear hp0 h2 ha2)
    | (refine wpList_store_row rfl 27 (.tmp 6) (.tmp 13) rfl w2.heap.size R0 rfl rfl 27 _ (row_last w2 _ rfl _) (by rw [h07]; kernel_rfl) (by rw [h07]; rfl) h01 ?_))
  obtain ⟨gr, hgr⟩ : ∃ gr, w2.heap.size = gr := ⟨_, rfl⟩
  rw [hgr] at HP0 ⊢
  obtain ⟨w3, hw3⟩ : ∃ w3, (w2.alloc (.cells #[.int .i64 0, .slice none 0 0, .int .i64 0, .bool false, .int .i64 0, .bool false, .bool false] 27)).setRow gr R0 = w3 := ⟨_, rfl⟩
  rw [hw3] at HP0 ⊢
  obtain ⟨sb, hsb⟩ : ∃ sb, w.heap.size + 1 = sb := ⟨_, rfl⟩
  rw [hsb] at HP0 ⊢
  clear hw3 hgr h07 h01 H1 hsb
  go_loopw [7] (fun iv wr => ∃ (j : Nat) (F : Nat → Prop) (R : Array Value), j ≤ n ∧ iv = .int .i64 (j : Int) ∧ Hid (PlI w (playS S0 (l.take j)) sb gr F R j wr)) (fun iv _ => n - (intOf iv).toNat)
  case atStart => exact ⟨0, F0, R0, Nat.zero_le _, rfl, by rw [List.take_zero]; exact HP0.out⟩
  case round =>
    obtain ⟨j, F, R, hjn, rfl, HI⟩ := hrel
    by_cases hlt : j < n
    · have hji : (j : Int) < (n : Int) := by omega
      obtain ⟨a, ha⟩ : ∃ a, l[j]? = some a := ⟨l[j]'(by rw [HN.out]; exact hlt), List.getElem?_eq_getElem _⟩
      obtain ⟨b, o, hao, hac⟩ := HAT.out (by intro h; have := HN.out; rw [h] at this; simp at this; omega)
      have HACT := show Hid (ActIs w _ _ _) from hac j a ha
      have HNX : Hid (playS S0 (l.take (j + 1)) = actS (playS S0 (l.take j)) a) := by
        unfold Hid; rw [List.take_add_one, ha]
        simp [playS, List.foldl_append]
      obtain ⟨S, hS⟩ : ∃ S, playS S0 (l.take j) = S := ⟨_, rfl⟩
      rw [hS] at HI HNX
      subst hao
      clear hac ha hS
      go_wp2_with fail
      refine wp_region_noPanic ?_
      refine wp_region_held_drew (S := (fun W => ActIs W b (o + j * 6) a)) (by kernel_rfl) (HACT.out.after (After.drew HI.out.jt.aft)) ?_
      intro hD0
      refine tk 0 21 (.pointer (some ⟨sb, 0, none⟩)) (fuel := 10) rfl (by kernel_rfl) (by kernel_rfl) (by kernel_rfl) (by kernel_rfl) noPanic_false (by kernel_rfl) (fun _ _ => by kernel_rfl) hD0 ?_
      refine tk 2 23 (.slice (some ⟨b, o, none⟩) n c) (fuel := 9) rfl (by kernel_rfl) (by kernel_rfl) (by kernel_rfl) (by kernel_rfl) noPanic_false (by kernel_rfl) (fun _ _ => by kernel_rfl) hD0 ?_
      refine tk 3 24 (.int .i64 (j : Int)) (fuel := 8) rfl (by kernel_rfl) (by kernel_rfl) (by kernel_rfl) (by kernel_rfl) noPanic_false (by kernel_rfl) (fun _ _ => by kernel_rfl) hD0 ?_
      refine tk 4 25 (.pointer (some ⟨b, o + j * 6, none⟩)) (fuel := 7) rfl (by kernel_rfl) (by kernel_rfl) (by kernel_rfl) (by kernel_rfl) noPanic_false (by kernel_rfl) (fun W _ => x_idx22 (n := n) (c := c) (x := .tmp 23) (y := .tmp 24) (by kernel_rfl) (by kernel_rfl) (by kernel_rfl) hlt) hD0 ?_
      refine tk 5 26 (.agg #[.int .u8 (a.kind.toNat : Int), .string (strOf a.name), .string (strOf a.now), .slice a.pa a.pn a.pc, .int .i64 a.n, .bool a.done]) (fuel := 6) rfl (by kernel_rfl) (by kernel_rfl) (by kernel_rfl) (by kernel_rfl) noPanic_false (by kernel_rfl) (fun W hW => x_ld33 (x := .tmp 25) (g := b) (p := o + j * 6) (q := a) (by kernel_rfl) (by kernel_rfl) hW) hD0 ?_
      refine tkVal 1 22 (.agg R) (fuel := 5) rfl (by kernel_rfl) (by kernel_rfl) (by kernel_rfl) (x_rowR (x := .tmp 6) (g := gr) (by kernel_rfl) (by kernel_rfl) (HI.out.after (After.drew (After.refl wr))).row HI.out.r7) hD0 ?_
      refine tkCallS 6 27 13 #[.pointer (some ⟨sb, 0, none⟩), .agg R, .agg #[.int .u8 (a.kind.toNat : Int), .string (strOf a.name), .string (strOf a.now), .slice a.pa a.pn a.pc, .int .i64 a.n, .bool a.done]] (fun v w' => ∃ v', v = .tuple #[v', .bool true] ∧ Joint w (more F wr.drew w') sb (actS S a) v' w' ∧ Turn F wr.drew w') (fuel := 4) rfl (by kernel_rfl) (by kernel_rfl) (by kernel_rfl) (fun _ => by kernel_rfl) ((do_any (HI.out.after (After.drew (After.refl wr))).jt (by have := HI.out.st; omega) a HACT.out.v).mono (fun e w' ⟨v', he, h1, h2, _⟩ => ⟨_, he, v', rfl, h1, h2⟩)) ?_
      intro v4 w4 h4
      obtain ⟨v5, hv4, hj4, ht4⟩ := h4
      subst hv4
      obtain ⟨hrow4, R', hv5, h57, h51, hpl⟩ := (HI.out.after (After.drew (After.refl wr))).next hj4 ht4
      subst hv5
      have hS4 := HACT.out.after hj4.aft
      refine ⟨hS4, ?_⟩
      refine tk 7 20 (.tuple #[.agg R', .bool true]) (fuel := 3) rfl (by kernel_rfl) (by kernel_rfl) (by kernel_rfl) (by kernel_rfl) noPanic_false (by kernel_rfl) (fun _ _ => by kernel_rfl) hS4 ?_
      refine tk 8 28 (.agg R') (fuel := 2) rfl (by kernel_rfl) (by kernel_rfl) (by kernel_rfl) (by kernel_rfl) noPanic_false (by kernel_rfl) (fun _ _ => by kernel_rfl) hS4 ?_
      refine tk 9 29 (.bool true) (fuel := 1) rfl (by kernel_rfl) (by kernel_rfl) (by kernel_rfl) (by kernel_rfl) noPanic_false (by kernel_rfl) (fun _ _ => by kernel_rfl) hS4 ?_
      have hS5 := HACT.out.after hpl.jt.aft
      refine tkStore 10 gr 27 (.tmp 6) (.tmp 28) R' R 27 (fuel := 0) rfl (by kernel_rfl) (by kernel_rfl) (by kernel_rfl) (by kernel_rfl) (by kernel_rfl) (by kernel_rfl) hrow4 (by rw [h57]; kernel_rfl) (by rw [h57]; exact HI.out.r7) h51 hS5 ?_
      refine wpAnyH_done (by kernel_rfl) (NoPanic.normal ?_) _
      have HPL := show Hid (PlI _ _ _ _ _ _ _ _) from hpl
      have HFE := show Hid (R'.size = 7 ∧ R'.all (·.oneCell') = true) from ⟨h57, h51⟩
      obtain ⟨F', hF'⟩ : ∃ F', more F wr.drew w4 = F' := ⟨_, rfl⟩
      rw [hF'] at HPL
      obtain ⟨w5, hw5⟩ : ∃ w5, w4.setRow gr R' = w5 := ⟨_, rfl⟩
      rw [hw5] at HPL ⊢
      clear hD0 hS4 hS5 hj4 ht4 hrow4 hpl hF' hw5
      go_simp
      go_wp2
      go_roundw
      case rel => exact ⟨j + 1, F', R', by omega, by go_num, by rw [HNX.out]; exact HPL.out⟩
      case measure => simp [intOf]; omega
    · obtain ⟨S, hS⟩ : ∃ S, playS S0 (l.take j) = S := ⟨_, rfl⟩
      rw [hS] at HI
      clear hS
      obtain ⟨B, hB⟩ : ∃ B, readB S nm = B := ⟨_, rfl⟩
      obtain ⟨E, hE⟩ : ∃ E, findE S nm = E := ⟨_, rfl⟩
      obtain ⟨m, hm⟩ : ∃ m, B.length = m := ⟨_, rfl⟩
      have HM : Hid (B.length = m) := hm
      have HBE : Hid (readB S nm = B ∧ findE S nm = E) := ⟨hB, hE⟩
      clear hB hE hm
      go_wp2_with (first
        | (go_at_call 16; refine (live_read HI.out.jt.live nm HNM.out).mono ?_; rw [HBE.out.1, HBE.out.2]; unfold RPost; rw [HM.out]; rintro e w4 ⟨ba, bc, rfl, hob, ha4⟩; have HOB := show Hid (Own _ _ _ _) from hob; have HP4 := show Hid (PlI _ _ _ _ _ _ _ _) from HI.out.after ha4; clear hob ha4)
        | (refine wpList_load_row rfl 27 (.tmp 6) rfl gr rfl 27 R (0, 0) _ HP4.out.row Try.underlying27 rfl (by rw [HI.out.r7]; kernel_rfl) ?_)
        | (go_at_call 17; refine (readR S HI.out.jt.ok nm HNM.out w4 _ HP4.out.jt.ref).mono ?_; rw [HBE.out.1, HBE.out.2]; rintro e w5 ⟨rfl, ha5⟩; have hcv := HOB.out.convA ha5; have HA5 : Hid (After w w5) := After.trans HP4.out.jt.aft ha5; clear ha5)
        | (go_at_call 15; refine (awake_any w5).mono ?_; rintro e w7 ⟨rfl, ha7⟩; have HA7 : Hid (After w w7) := After.trans HA5.out ha7; clear ha7))
      go_ret
      exact ⟨rfl, HA7.out⟩
end Go.Proofs.Ytlbodickflljfaa
