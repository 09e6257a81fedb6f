/-
  THE WALK OF stemmalaw05.DiskClones.
-/
import Derived.Test.YtlbodickflljfaaPlays
namespace Go.Proofs.Ytlbodickflljfaa
open Go.RowKit Go.Maps Dsk
theorem Lives.live {w0 : World} {G : Nat → Prop} {lo hi sb : Nat} {S : Dk} {W : World} (h : Lives w0 G lo hi sb S W) : Live w0 W.heap.size sb S W := by
  obtain ⟨F, hd, hF⟩ := h.disk
  exact ⟨h.ok, ⟨F, hd, fun i hi => ⟨(hF i hi).1, (hF i hi).2.1⟩⟩, Nat.le_refl _, h.aft⟩
theorem PlI.twin {w w1 : World} {S : Dk} {sb k : Nat} {R : Array Value} (h1 : Live w w1.heap.size sb S w1) (h2 : RefAt w1 (.agg R) S) (hs : S.steps ≤ k) (h7 : R.size = 7) (hr1 : R.all (·.oneCell') = true) :
    ∃ F, PlI w S sb w1.heap.size F R k ((w1.alloc (.cells #[.int .i64 0, .slice none 0 0, .int .i64 0, .bool false, .int .i64 0, .bool false, .bool false] 27)).setRow w1.heap.size R) := by
  obtain ⟨F, hd, hF⟩ := h1.ex
  have hj : Joint w F sb S (.agg R) w1 := ⟨h1.ok, hd, hF, h2, h1.aft⟩
  have hnf : ¬ F w1.heap.size := fun e => by have := (hF _ e).2; omega
  have hrow := row_last w1 _ rfl [.int .i64 0, .slice none 0 0, .int .i64 0, .bool false, .int .i64 0, .bool false, .bool false]
  exact ⟨F, (hj.after (after_alloc (After.refl w1) _)).setRow hrow (by decide) hnf hj.aft.size R, hnf, setRow_heap _ _ _ _ 27 _ hrow, h7, hr1, hs, hj.aft.size⟩

set_option maxRecDepth 100000 in
set_option maxHeartbeats 3200000 in
theorem clones_any (ao : Option Addr) (c : Nat) (l : List Act5) (hn : l.length ≤ 140737488355328) (ao2 : Option Addr) (c2 : Nat) (l2 : List Act5) (hn2 : l2.length ≤ 140737488355328) (ka : Option Addr) (kc : Nat) (keep : List UInt8) (hkc : keep.length ≤ kc) (hkb : keep.length ≤ 140737488355328) (w : World) (hat : ActsAt w ao l) (hat2 : ActsAt w ao2 l2) (hka : BytesAt w ka keep) :
    Calls Try.prog 5 #[.slice ao l.length c, .slice ao2 l2.length c2, .slice ka keep.length kc] w fun e w' => e = .returned (.bool true) ∧ Below w.heap.size w w' := by
  have HAT2 : Hid (ActsAt w ao2 l2) := hat2
  obtain ⟨n2, hl2⟩ : ∃ n2, l2.length = n2 := ⟨_, rfl⟩
  have HN2 : Hid (l2.length = n2) := hl2
  obtain ⟨kn, hkn⟩ : ∃ kn, keep.length = kn := ⟨_, rfl⟩
  rw [hkn] at hkc hkb
  have HKP : Hid (keep.length = kn ∧ kn ≤ kc ∧ BytesAt w ka keep) := ⟨hkn, hkc, hka⟩
  have HKF : Hid (keep ≠ [] → ∀ a, ka = some a → a.block < w.heap.size) := fun hne a ha => by
    obtain ⟨b, o, e1, hc⟩ := hka hne
    rw [e1] at ha
    cases ha
    exact block_lt_of_cell (hc 0 (by cases keep with | nil => exact absurd rfl hne | cons _ _ => simp))
  rw [hl2] at hn2 ⊢
  rw [hkn]
  clear hat2 hl2 hkn hkc hka
  have HAT : Hid (ActsAt w ao l) := hat
  obtain ⟨n, hl⟩ : ∃ n, l.length = n := ⟨_, rfl⟩
  have HN : Hid (l.length = n) := hl
  rw [hl] at hn ⊢
  obtain ⟨S0, hS0⟩ : ∃ S0, newS 500 = S0 := ⟨_, rfl⟩
  have HS0 : Hid (newS 500 = S0) := hS0
  have HST0 : Hid (S0.steps = 0) := by rw [← hS0]; rfl
  clear hat hl hS0
  go_enter Try.func5, Try.ntmps5
  go_wp2_with (first
    | (go_at_call 11; refine (live_new 500 w).mono ?_; rw [HS0.out]; rintro e w1 ⟨rfl, h1⟩; have H1 := show Hid (Live _ _ _ _ _) from h1; clear h1)
    | (go_at_call 12; refine (rNew_any 500 w1).mono ?_; rw [HS0.out]; rintro e w2 ⟨v2, rfl, h2, ha2⟩; obtain ⟨F0, R0, hv2, h07, h01, hp0⟩ := PlI.start H1.out h2 ha2 HST0.out; subst hv2; have HP0 := show Hid (PlI _ _ _ _ _ _ _ _) from hp0; clear hp0 h2 ha2)
    | (refine wpList_store_row rfl 27 (.tmp 8) (.tmp 15) rfl w2.heap.size R0 rfl rfl 27 _ (row_last w2 _ rfl _) (by rw [h07]; kernel_rfl) (by rw [h07]; rfl) h01 ?_))
  obtain ⟨gr, hgr⟩ : ∃ gr, w2.heap.size = gr := ⟨_, rfl⟩
  rw [hgr] at HP0 ⊢
  obtain ⟨w3, hw3⟩ : ∃ w3, (w2.alloc (.cells #[.int .i64 0, .slice none 0 0, .int .i64 0, .bool false, .int .i64 0, .bool false, .bool false] 27)).setRow gr R0 = w3 := ⟨_, rfl⟩
  rw [hw3] at HP0 ⊢
  obtain ⟨sb, hsb⟩ : ∃ sb, w.heap.size + 1 = sb := ⟨_, rfl⟩
  rw [hsb] at HP0 ⊢
  clear hw3 hgr h07 h01 H1 hsb
  go_loopw [9] (fun iv wr => ∃ (j : Nat) (F : Nat → Prop) (R : Array Value), j ≤ n ∧ iv = .int .i64 (j : Int) ∧ Hid (PlI w (playS S0 (l.take j)) sb gr F R j wr)) (fun iv _ => n - (intOf iv).toNat)
  case atStart => exact ⟨0, F0, R0, Nat.zero_le _, rfl, by rw [List.take_zero]; exact HP0.out⟩
  case round =>
    obtain ⟨j, F, R, hjn, rfl, HI⟩ := hrel
    by_cases hlt : j < n
    · have hji : (j : Int) < (n : Int) := by omega
      obtain ⟨a, ha⟩ : ∃ a, l[j]? = some a := ⟨l[j]'(by rw [HN.out]; exact hlt), List.getElem?_eq_getElem _⟩
      obtain ⟨b, o, hao, hac⟩ := HAT.out (by intro h; have := HN.out; rw [h] at this; simp at this; omega)
      have HACT := show Hid (ActIs w _ _ _) from hac j a ha
      have HNX : Hid (playS S0 (l.take (j + 1)) = actS (playS S0 (l.take j)) a) := by
        unfold Hid; rw [List.take_add_one, ha]
        simp [playS, List.foldl_append]
      obtain ⟨S, hS⟩ : ∃ S, playS S0 (l.take j) = S := ⟨_, rfl⟩
      rw [hS] at HI HNX
      subst hao
      clear hac ha hS
      go_wp2_with fail
      refine wp_region_noPanic ?_
      refine wp_region_held_drew (S := (fun W => ActIs W b (o + j * 6) a)) (by kernel_rfl) (HACT.out.after (After.drew HI.out.jt.aft)) ?_
      intro hD0
      refine tk 0 23 (.pointer (some ⟨sb, 0, none⟩)) (fuel := 10) rfl (by kernel_rfl) (by kernel_rfl) (by kernel_rfl) (by kernel_rfl) noPanic_false (by kernel_rfl) (fun _ _ => by kernel_rfl) hD0 ?_
      refine tk 2 25 (.slice (some ⟨b, o, none⟩) n c) (fuel := 9) rfl (by kernel_rfl) (by kernel_rfl) (by kernel_rfl) (by kernel_rfl) noPanic_false (by kernel_rfl) (fun _ _ => by kernel_rfl) hD0 ?_
      refine tk 3 26 (.int .i64 (j : Int)) (fuel := 8) rfl (by kernel_rfl) (by kernel_rfl) (by kernel_rfl) (by kernel_rfl) noPanic_false (by kernel_rfl) (fun _ _ => by kernel_rfl) hD0 ?_
      refine tk 4 27 (.pointer (some ⟨b, o + j * 6, none⟩)) (fuel := 7) rfl (by kernel_rfl) (by kernel_rfl) (by kernel_rfl) (by kernel_rfl) noPanic_false (by kernel_rfl) (fun W _ => x_idx22 (n := n) (c := c) (x := .tmp 25) (y := .tmp 26) (by kernel_rfl) (by kernel_rfl) (by kernel_rfl) hlt) hD0 ?_
      refine tk 5 28 (.agg #[.int .u8 (a.kind.toNat : Int), .string (strOf a.name), .string (strOf a.now), .slice a.pa a.pn a.pc, .int .i64 a.n, .bool a.done]) (fuel := 6) rfl (by kernel_rfl) (by kernel_rfl) (by kernel_rfl) (by kernel_rfl) noPanic_false (by kernel_rfl) (fun W hW => x_ld33 (x := .tmp 27) (g := b) (p := o + j * 6) (q := a) (by kernel_rfl) (by kernel_rfl) hW) hD0 ?_
      refine tkVal 1 24 (.agg R) (fuel := 5) rfl (by kernel_rfl) (by kernel_rfl) (by kernel_rfl) (x_rowR (x := .tmp 8) (g := gr) (by kernel_rfl) (by kernel_rfl) (HI.out.after (After.drew (After.refl wr))).row HI.out.r7) hD0 ?_
      refine tkCallS 6 29 13 #[.pointer (some ⟨sb, 0, none⟩), .agg R, .agg #[.int .u8 (a.kind.toNat : Int), .string (strOf a.name), .string (strOf a.now), .slice a.pa a.pn a.pc, .int .i64 a.n, .bool a.done]] (fun v w' => ∃ v', v = .tuple #[v', .bool true] ∧ Joint w (more F wr.drew w') sb (actS S a) v' w' ∧ Turn F wr.drew w') (fuel := 4) rfl (by kernel_rfl) (by kernel_rfl) (by kernel_rfl) (fun _ => by kernel_rfl) ((do_any (HI.out.after (After.drew (After.refl wr))).jt (by have := HI.out.st; omega) a HACT.out.v).mono (fun e w' ⟨v', he, h1, h2, _⟩ => ⟨_, he, v', rfl, h1, h2⟩)) ?_
      intro v4 w4 h4
      obtain ⟨v5, hv4, hj4, ht4⟩ := h4
      subst hv4
      obtain ⟨hrow4, R', hv5, h57, h51, hpl⟩ := (HI.out.after (After.drew (After.refl wr))).next hj4 ht4
      subst hv5
      have hS4 := HACT.out.after hj4.aft
      refine ⟨hS4, ?_⟩
      refine tk 7 22 (.tuple #[.agg R', .bool true]) (fuel := 3) rfl (by kernel_rfl) (by kernel_rfl) (by kernel_rfl) (by kernel_rfl) noPanic_false (by kernel_rfl) (fun _ _ => by kernel_rfl) hS4 ?_
      refine tk 8 30 (.agg R') (fuel := 2) rfl (by kernel_rfl) (by kernel_rfl) (by kernel_rfl) (by kernel_rfl) noPanic_false (by kernel_rfl) (fun _ _ => by kernel_rfl) hS4 ?_
      refine tk 9 31 (.bool true) (fuel := 1) rfl (by kernel_rfl) (by kernel_rfl) (by kernel_rfl) (by kernel_rfl) noPanic_false (by kernel_rfl) (fun _ _ => by kernel_rfl) hS4 ?_
      have hS5 := HACT.out.after hpl.jt.aft
      refine tkStore 10 gr 27 (.tmp 8) (.tmp 30) R' R 27 (fuel := 0) rfl (by kernel_rfl) (by kernel_rfl) (by kernel_rfl) (by kernel_rfl) (by kernel_rfl) (by kernel_rfl) hrow4 (by rw [h57]; kernel_rfl) (by rw [h57]; exact HI.out.r7) h51 hS5 ?_
      refine wpAnyH_done (by kernel_rfl) (NoPanic.normal ?_) _
      have HPL := show Hid (PlI _ _ _ _ _ _ _ _) from hpl
      have HFE := show Hid (R'.size = 7 ∧ R'.all (·.oneCell') = true) from ⟨h57, h51⟩
      obtain ⟨F', hF'⟩ : ∃ F', more F wr.drew w4 = F' := ⟨_, rfl⟩
      rw [hF'] at HPL
      obtain ⟨w5, hw5⟩ : ∃ w5, w4.setRow gr R' = w5 := ⟨_, rfl⟩
      rw [hw5] at HPL ⊢
      clear hD0 hS4 hS5 hj4 ht4 hrow4 hpl hF' hw5
      go_simp
      go_wp2
      go_roundw
      case rel => exact ⟨j + 1, F', R', by omega, by go_num, by rw [HNX.out]; exact HPL.out⟩
      case measure => simp [intOf]; omega
    · obtain ⟨S1, hS⟩ : ∃ S1, playS S0 (l.take j) = S1 := ⟨_, rfl⟩
      rw [hS] at HI
      clear hS
      obtain ⟨wc, rfl⟩ : ∃ wc, wc = wr := ⟨_, rfl⟩
      obtain ⟨R1, rfl⟩ : ∃ R1, R1 = R := ⟨_, rfl⟩
      go_wp2_with (first
        | (go_at_call 18; refine (live_twin HI.out.jt.live).mono ?_; rintro e w4 ⟨rfl, ha4, hl4⟩; have HP4 := show Hid (PlI _ _ _ _ _ _ _ _) from HI.out.after ha4; have HL4 := show Hid (Live _ _ _ _ _) from hl4; clear ha4 hl4)
        | (refine wpList_load_row rfl 27 (.tmp 8) rfl gr rfl 27 R1 (0, 0) _ HP4.out.row Try.underlying27 rfl (by rw [HI.out.r7]; kernel_rfl) ?_)
        | (refine wpList_store_row rfl 27 (.tmp 11) (.tmp 36) rfl w4.heap.size R1 rfl rfl 27 _ (row_last w4 _ rfl _) (by rw [HI.out.r7]; kernel_rfl) (by rw [HI.out.r7]; rfl) HI.out.r1 ?_))
      obtain ⟨F1, hp1⟩ := PlI.twin HL4.out HP4.out.jt.ref (show S1.steps ≤ n + 0 by have := HI.out.st; omega) HI.out.r7 HI.out.r1
      have HP1 := show Hid (PlI _ _ _ _ _ _ _ _) from hp1
      obtain ⟨gx, hgx⟩ : ∃ gx, w4.heap.size = gx := ⟨_, rfl⟩
      rw [hgx] at HP1 ⊢
      obtain ⟨w6, hw6⟩ : ∃ w6, (w4.alloc (.cells #[.int .i64 0, .slice none 0 0, .int .i64 0, .bool false, .int .i64 0, .bool false, .bool false] 27)).setRow gx R1 = w6 := ⟨_, rfl⟩
      rw [hw6] at HP1 ⊢
      obtain ⟨sc, hsc⟩ : ∃ sc, wc.heap.size = sc := ⟨_, rfl⟩
      rw [hsc] at HP1 ⊢
      have HI1 := HI
      clear HI hp1 hgx hw6 HL4 HP4
      go_loopw [12, 13] (fun kv iv wr => ∃ (j2 : Nat) (F : Nat → Prop) (R : Array Value), j2 ≤ n2 ∧ kv = .bool true ∧ iv = .int .i64 (j2 : Int) ∧ Hid (PlI wc (playS S1 (l2.take j2)) sc gx F R (n + j2) wr)) (fun _ iv _ => n2 - (intOf iv).toNat)
      case atStart => exact ⟨0, F1, R1, Nat.zero_le _, rfl, rfl, by rw [List.take_zero]; exact HP1.out⟩
      case round =>
        obtain ⟨j2, F2, R2, hjn2, rfl, rfl, HI2⟩ := hrel
        by_cases hlt2 : j2 < n2
        · have hji2 : (j2 : Int) < (n2 : Int) := by omega
          obtain ⟨a, ha⟩ : ∃ a, l2[j2]? = some a := ⟨l2[j2]'(by rw [HN2.out]; exact hlt2), List.getElem?_eq_getElem _⟩
          obtain ⟨b, o, hao, hac⟩ := (HAT2.out.after HI1.out.jt.aft) (by intro h; have := HN2.out; rw [h] at this; simp at this; omega)
          have HACT := show Hid (ActIs wc _ _ _) from hac j2 a ha
          have HNX : Hid (playS S1 (l2.take (j2 + 1)) = actS (playS S1 (l2.take j2)) a) := by
            unfold Hid; rw [List.take_add_one, ha]
            simp [playS, List.foldl_append]
          obtain ⟨S, hS⟩ : ∃ S, playS S1 (l2.take j2) = S := ⟨_, rfl⟩
          rw [hS] at HI2 HNX
          subst hao
          clear hac ha hS
          go_wp2_with fail
          refine wp_region_noPanic ?_
          refine wp_region_held_drew (S := (fun W => ActIs W b (o + j2 * 6) a)) (by kernel_rfl) (HACT.out.after (After.drew HI2.out.jt.aft)) ?_
          intro hD0
          refine tk 0 44 (.pointer (some ⟨sc, 0, none⟩)) (fuel := 11) rfl (by kernel_rfl) (by kernel_rfl) (by kernel_rfl) (by kernel_rfl) noPanic_false (by kernel_rfl) (fun _ _ => by kernel_rfl) hD0 ?_
          refine tk 2 46 (.slice (some ⟨b, o, none⟩) n2 c2) (fuel := 10) rfl (by kernel_rfl) (by kernel_rfl) (by kernel_rfl) (by kernel_rfl) noPanic_false (by kernel_rfl) (fun _ _ => by kernel_rfl) hD0 ?_
          refine tk 3 47 (.int .i64 (j2 : Int)) (fuel := 9) rfl (by kernel_rfl) (by kernel_rfl) (by kernel_rfl) (by kernel_rfl) noPanic_false (by kernel_rfl) (fun _ _ => by kernel_rfl) hD0 ?_
          refine tk 4 48 (.pointer (some ⟨b, o + j2 * 6, none⟩)) (fuel := 8) rfl (by kernel_rfl) (by kernel_rfl) (by kernel_rfl) (by kernel_rfl) noPanic_false (by kernel_rfl) (fun W _ => x_idx22 (n := n2) (c := c2) (x := .tmp 46) (y := .tmp 47) (by kernel_rfl) (by kernel_rfl) (by kernel_rfl) hlt2) hD0 ?_
          refine tk 5 49 (.agg #[.int .u8 (a.kind.toNat : Int), .string (strOf a.name), .string (strOf a.now), .slice a.pa a.pn a.pc, .int .i64 a.n, .bool a.done]) (fuel := 7) rfl (by kernel_rfl) (by kernel_rfl) (by kernel_rfl) (by kernel_rfl) noPanic_false (by kernel_rfl) (fun W hW => x_ld33 (x := .tmp 48) (g := b) (p := o + j2 * 6) (q := a) (by kernel_rfl) (by kernel_rfl) hW) hD0 ?_
          refine tkVal 1 45 (.agg R2) (fuel := 6) rfl (by kernel_rfl) (by kernel_rfl) (by kernel_rfl) (x_rowR (x := .tmp 11) (g := gx) (by kernel_rfl) (by kernel_rfl) (HI2.out.after (After.drew (After.refl wr))).row HI2.out.r7) hD0 ?_
          refine tkCallS 6 50 13 #[.pointer (some ⟨sc, 0, none⟩), .agg R2, .agg #[.int .u8 (a.kind.toNat : Int), .string (strOf a.name), .string (strOf a.now), .slice a.pa a.pn a.pc, .int .i64 a.n, .bool a.done]] (fun v w' => ∃ v', v = .tuple #[v', .bool true] ∧ Joint wc (more F2 wr.drew w') sc (actS S a) v' w' ∧ Turn F2 wr.drew w') (fuel := 5) rfl (by kernel_rfl) (by kernel_rfl) (by kernel_rfl) (fun _ => by kernel_rfl) ((do_any (HI2.out.after (After.drew (After.refl wr))).jt (by have := HI2.out.st; omega) a HACT.out.v).mono (fun e w' ⟨v', he, h1, h2, _⟩ => ⟨_, he, v', rfl, h1, h2⟩)) ?_
          intro v4 w4 h4
          obtain ⟨v5, hv4, hj4, ht4⟩ := h4
          subst hv4
          obtain ⟨hrow4, R2', hv5, h57, h51, hpl⟩ := (HI2.out.after (After.drew (After.refl wr))).next hj4 ht4
          subst hv5
          have hS4 := HACT.out.after hj4.aft
          refine ⟨hS4, ?_⟩
          refine tk 7 43 (.tuple #[.agg R2', .bool true]) (fuel := 4) rfl (by kernel_rfl) (by kernel_rfl) (by kernel_rfl) (by kernel_rfl) noPanic_false (by kernel_rfl) (fun _ _ => by kernel_rfl) hS4 ?_
          refine tk 8 51 (.agg R2') (fuel := 3) rfl (by kernel_rfl) (by kernel_rfl) (by kernel_rfl) (by kernel_rfl) noPanic_false (by kernel_rfl) (fun _ _ => by kernel_rfl) hS4 ?_
          refine tk 9 52 (.bool true) (fuel := 2) rfl (by kernel_rfl) (by kernel_rfl) (by kernel_rfl) (by kernel_rfl) noPanic_false (by kernel_rfl) (fun _ _ => by kernel_rfl) hS4 ?_
          have hS5 := HACT.out.after hpl.jt.aft
          refine tkStore 10 gx 27 (.tmp 11) (.tmp 51) R2' R2 27 (fuel := 1) rfl (by kernel_rfl) (by kernel_rfl) (by kernel_rfl) (by kernel_rfl) (by kernel_rfl) (by kernel_rfl) hrow4 (by rw [h57]; kernel_rfl) (by rw [h57]; exact HI2.out.r7) h51 hS5 ?_
          refine tk 11 12 (.bool true) (fuel := 0) rfl (by kernel_rfl) (by kernel_rfl) (by kernel_rfl) (by kernel_rfl) noPanic_false (by kernel_rfl) (fun _ _ => by kernel_rfl) hS5 ?_
          refine wpAnyH_done (by kernel_rfl) (NoPanic.normal ?_) _
          have HPL := show Hid (PlI _ _ _ _ _ _ _ _) from hpl
          have HFE := show Hid (R2'.size = 7 ∧ R2'.all (·.oneCell') = true) from ⟨h57, h51⟩
          obtain ⟨F2', hF'⟩ : ∃ F2', more F2 wr.drew w4 = F2' := ⟨_, rfl⟩
          rw [hF'] at HPL
          obtain ⟨w5, hw5⟩ : ∃ w5, w4.setRow gx R2' = w5 := ⟨_, rfl⟩
          rw [hw5] at HPL ⊢
          clear hD0 hS4 hS5 hj4 ht4 hrow4 hpl hF' hw5
          go_simp
          go_wp2
          go_roundw
          case rel => exact ⟨j2 + 1, F2', R2', by omega, rfl, by go_num, by rw [HNX.out]; exact HPL.out⟩
          case measure => simp [intOf]; omega
        · obtain ⟨S2, hS⟩ : ∃ S2, playS S1 (l2.take j2) = S2 := ⟨_, rfl⟩
          rw [hS] at HI2
          clear hS
          have HAW : Hid (After w wr) := After.trans HI1.out.jt.aft HI2.out.jt.aft
          have tok : True := trivial
          go_wp2_with (first
            | (go_at_call 19; refine (d_start HI2.out.jt.dat ka kn kc keep HKP.out.1 HKP.out.2.1 (HKP.out.2.2.after HAW.out) (fun hne a ha => Or.inl (by have := HKF.out hne a ha; have := HI1.out.jt.aft.size; omega))).mono ?_; rintro e w7 ⟨rfl, hp7⟩; have HP7 := show Hid (DPost _ _ _ _ _ _ _) from hp7; have HRW : Hid (w7.heap[gx]? = some (.cells R2 27 (0, 0))) := (by unfold Hid; rw [hp7.turn.block gx (heap_lt HI2.out.row) HI2.out.nf]; exact HI2.out.row); clear hp7)
            | (refine wpList_load_row rfl 27 (.tmp 11) rfl gx rfl 27 R2 (0, 0) _ HRW.out Try.underlying27 rfl (by rw [HI2.out.r7]; kernel_rfl) ?_)
            | (go_at_call 20; refine (startR S2 HI2.out.jt.ok ka kn kc keep HKP.out.1 HKP.out.2.1 hkb w7 _ (HP7.out.ref _ _ HI2.out.jt.ref) (HKP.out.2.2.after (After.trans HI1.out.jt.aft HP7.out.lives.aft))).mono ?_; rintro e w8 ⟨v8, rfl, hr8, ha8⟩; have HR8 := show Hid (RefAt w8 _ _) from hr8; have HA8 : Hid (After w7 w8) := ha8; clear hr8 ha8)
            | (go_at_call 14; have _t := tok; refine (same_any (HP7.out.lives.live.after HA8.out) _ HR8.out).mono ?_; rintro e w9 ⟨rfl, ha9⟩; have HA9 : Hid (After wc w9) := After.trans HP7.out.lives.aft (After.trans HA8.out ha9); have HP9 := show Hid (PlI _ _ _ _ _ _ _ _) from HI1.out.after HA9.out; clear ha9 tok)
            | (refine wpListG_load_str (by kernel_rfl) (.tmp 8) rfl gr rfl R1 HP9.out.row HP9.out.r7 ?_)
            | (go_at_call 14; refine (same_any HP9.out.jt.live _ HP9.out.jt.ref).mono ?_; rintro e w10 ⟨rfl, ha10⟩; have HA10 : Hid (After w w10) := After.trans HP9.out.jt.aft ha10; clear ha10)
            | (go_at_call 15; refine (awake_any w10).mono ?_; rintro e w11 ⟨rfl, ha11⟩; have HA11 : Hid (After w w11) := After.trans HA10.out ha11; clear ha11))
          go_ret
          exact ⟨rfl, HA11.out⟩
end Go.Proofs.Ytlbodickflljfaa
