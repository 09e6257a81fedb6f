/-
  THE WALK OF stemmalaw01.ShaBack: its other cases, and all of them.
-/
import Derived.Test.YtpnhklefoafgkaaDoorBackOne
namespace Go.Proofs.YtpnhklefoafgkaaDoor
open Go.RowKit Sha
set_option maxRecDepth 100000 in
set_option maxHeartbeats 800000 in
theorem back_Bt (a b l : List UInt8) (ha : a.length = 32) (hb : b.length = 32) (w : World) (ht : Tab w) (hpe : ¬ parseE l = 0) (hlab : ltB a b = true) :
    Calls Tryd.prog 8 #[.agg (c8 a).toArray, .agg (c8 b).toArray, .string (strOf l)] w fun e w' => e = .returned (.bool true) ∧ Below w.heap.size w w' := by
  have hdec0 := ltB_tri a b (by omega)
  rw [hlab] at hdec0
  have hdec : decide (a = b) = false := by rw [hdec0]; simp
  have HDEC := show Hid _ from hdec
  clear hdec0 hdec
  have hpa := parse_any l
  obtain ⟨pe, ph, hph, hne, hp, hz⟩ : ∃ (pe : Int) (ph : List UInt8), ph.length = 32 ∧ pe ≠ 0 ∧ (∀ W, Calls Tryd.prog 17 #[.string (strOf l)] W fun e w' => e = .returned (.tuple #[.agg (c8 ph).toArray, .int .i64 pe]) ∧ Below W.heap.size W w') ∧ ph = zHash :=
    ⟨parseE l, parseH l, parseH_len l, hpe, hpa, parseH_bad l hpe⟩
  have q1 : (pe == 0) = false := by rw [beq_eq_false_iff_ne]; exact hne
  have q2 : (pe != 0) = true := by rw [bne_iff_ne]; exact hne
  have hzz : ∀ W : World, (Op.equalIn 10000 24 (.agg (c8 ph).toArray) (.agg (c8 zHash).toArray)).run Tryd.prog W = .ok true W := fun W => by
    rw [hz, eq24 zHash zHash rfl rfl, decide_eq_true rfl]
  clear hz hne
  clear hpa hpe
  have HP := show Hid _ from hp
  have HZ := show Hid _ from hzz
  clear hp hzz
  have haa : ∀ W : World, (Op.equalIn 10000 24 (.agg (c8 a).toArray) (.agg (c8 a).toArray)).run Tryd.prog W = .ok true W := fun W => by
    rw [eq24 a a ha ha, decide_eq_true rfl]
  have HAA := show Hid _ from haa
  have HT : Hid (Tab w) := ht
  have r0 : Hid (LessRel a b w ((w.alloc (.cells (c8 a).toArray 24)).alloc (.cells (c8 b).toArray 24))) := LessRel.start a b w
  have sa : (Tryd.prog.info? 24).map (·.size) = some (c8 a).length := by rw [c8_len, ha]; exact size24
  have sb : (Tryd.prog.info? 24).map (·.size) = some (c8 b).length := by rw [c8_len, hb]; exact size24
  have sp : (Tryd.prog.info? 24).map (·.size) = some (c8 ph).length := by rw [c8_len, hph]; exact size24
  have hsa : (Tryd.prog.info? 24).map (·.size) = some (c8 a).toArray.size := by simpa using sa
  have hsp : (Tryd.prog.info? 24).map (·.size) = some (c8 ph).toArray.size := by simpa using sp
  have hz1 : (c8 zeroHash).toArray.size = (c8 a).toArray.size := by simp [c8_len, ha]; rfl
  have hz2 : (c8 zeroHash).toArray.size = (c8 ph).toArray.size := by simp [c8_len, hph]; rfl
  have HLAB := show Hid _ from hlab
  clear ht haa hlab
  go_enter Tryd.func8, Tryd.ntmps8
  go_wp2_with (first
    | (refine wpList_load_row rfl 24 (.tmp 3) rfl w.heap.size rfl 24 (c8 a).toArray (0, 0) _ r0.out.2.1 Tryd.underlying24 rfl hsa ?_)
    | (go_at_call 19; refine (hexL_any a ha _).mono ?_; rintro e w1 ⟨rfl, hb1⟩))
  refine (parse_back a ha _).mono ?_
  rintro e w2 ⟨rfl, hb2⟩
  go_wp2_with (first
    | (refine wpList_store_row rfl 24 (.tmp 7) (.tmp 15) rfl w2.heap.size (c8 a).toArray rfl rfl 24 (c8 zeroHash).toArray (RowIs.new w2 24 (c8 zeroHash)) hsa hz1 (all_oneCell_toArray (c8_one _)) ?_
       refine with_world (p := fun W => wpList _ _ _ _ _ W) (fun W => Back3 a b w w2.heap.size W) (Back3.start hb1 hb2) ?_
       intro W3 hB3
       have HB3 := show Hid _ from hB3
       clear hB3 hb1 hb2))
  generalize w2.heap.size = g7 at *
  refine (HP.out _).mono ?_
  rintro e w4 ⟨rfl, hb4⟩
  go_wp2_with (first
    | (refine wpList_store_row rfl 24 (.tmp 9) (.tmp 20) rfl w4.heap.size (c8 ph).toArray rfl rfl 24 (c8 zeroHash).toArray (RowIs.new w4 24 (c8 zeroHash)) hsp hz2 (all_oneCell_toArray (c8_one _)) ?_
       refine with_world (p := fun W => wpList _ _ _ _ _ W) (fun W => BackRel a b ph w g7 w4.heap.size W) (BackRel.start HB3.out hb4) ?_
       intro W5 hB5
       have HB5 := show Hid _ from hB5
       clear hB5 hb4
       have haa := HAA.out
       have hzz := HZ.out)
    | (refine wpListG_load_row rfl 24 (.tmp 7) rfl g7 rfl 24 (c8 a).toArray _ _ HB5.out.2.2.2.1 Tryd.underlying24 hsa ?_)
    | (refine wpListG_load_row rfl 24 (.tmp 3) rfl w.heap.size rfl 24 (c8 a).toArray _ _ HB5.out.2.1 Tryd.underlying24 hsa ?_)
    | (refine wpListG_load_row rfl 24 (.tmp 9) rfl w4.heap.size rfl 24 (c8 ph).toArray _ _ HB5.out.2.2.2.2 Tryd.underlying24 hsp ?_)
    | (refine wpListG_built rfl 24 #[] rfl (c8 zHash).toArray (by kernel_rfl) ?_))
  have HB : Hid (BackRel a b ph w g7 w4.heap.size W5) := HB5.out
  generalize w4.heap.size = g9 at *
  have hlab := HLAB.out
  have hdec := HDEC.out
  refine wp_region_noPanic ?_
  refine wp_region_held_drew (S := fun W => BackRel a b ph w g7 g9 W) (by kernel_rfl) (HB.out.drew) ?_
  intro hS0
  refine tkLoad 0 48 24 (.tmp 3) (w.heap.size) 0 (c8 a) (fuel := 28) rfl (by kernel_rfl) (by kernel_rfl) (by kernel_rfl) (by kernel_rfl) (by kernel_rfl) noPanic_false (by kernel_rfl) (by kernel_rfl) _ (fun _ h => RowIs.rangeAll h.2.1) Tryd.underlying24 rfl sa hS0 ?_
  refine tkLoad 1 49 24 (.tmp 4) (w.heap.size + 1) 0 (c8 b) (fuel := 27) rfl (by kernel_rfl) (by kernel_rfl) (by kernel_rfl) (by kernel_rfl) (by kernel_rfl) noPanic_false (by kernel_rfl) (by kernel_rfl) _ (fun _ h => RowIs.rangeAll h.2.2.1) Tryd.underlying24 rfl sb hS0 ?_
  refine tkLoad 3 51 24 (.tmp 3) (w.heap.size) 0 (c8 a) (fuel := 26) rfl (by kernel_rfl) (by kernel_rfl) (by kernel_rfl) (by kernel_rfl) (by kernel_rfl) noPanic_false (by kernel_rfl) (by kernel_rfl) _ (fun _ h => RowIs.rangeAll h.2.1) Tryd.underlying24 rfl sa hS0 ?_
  refine tkLoad 5 53 24 (.tmp 4) (w.heap.size + 1) 0 (c8 b) (fuel := 25) rfl (by kernel_rfl) (by kernel_rfl) (by kernel_rfl) (by kernel_rfl) (by kernel_rfl) noPanic_false (by kernel_rfl) (by kernel_rfl) _ (fun _ h => RowIs.rangeAll h.2.2.1) Tryd.underlying24 rfl sb hS0 ?_
  refine tkCall 2 50 21 #[.agg (c8 a).toArray, .agg (c8 b).toArray] (.bool true) _ (fuel := 24) rfl (by kernel_rfl) (by kernel_rfl) (by kernel_rfl) (fun _ => by kernel_rfl) (less_is a b ha hb _ _ hlab) ?_
  intro wc1 hb1
  have hS1 := BackRel.more hS0 hb1
  refine ⟨hS1, ?_⟩
  refine tkCall 4 52 19 #[.agg (c8 a).toArray] (.string (strOf (hexL a))) _ (fuel := 23) rfl (by kernel_rfl) (by kernel_rfl) (by kernel_rfl) (fun _ => by kernel_rfl) (hexL_any a ha _) ?_
  intro wc2 hb2
  have hS2 := BackRel.more hS1 hb2
  refine ⟨hS2, ?_⟩
  refine tkCall 6 54 19 #[.agg (c8 b).toArray] (.string (strOf (hexL b))) _ (fuel := 22) rfl (by kernel_rfl) (by kernel_rfl) (by kernel_rfl) (fun _ => by kernel_rfl) (hexL_any b hb _) ?_
  intro wc3 hb3
  have hS3 := BackRel.more hS2 hb3
  refine ⟨hS3, ?_⟩
  refine tk 7 55 (.bool true) (fuel := 21) rfl (by kernel_rfl) (by kernel_rfl) (by kernel_rfl) (by kernel_rfl) noPanic_false (by kernel_rfl) (fun w _ => lss_hex (.tmp 52) (.tmp 54) a b _ (by omega) hlab (by kernel_rfl) (by kernel_rfl) (by kernel_rfl) w) hS3 ?_
  refine tk 8 56 (.bool true) (fuel := 20) rfl (by kernel_rfl) (by kernel_rfl) (by kernel_rfl) (by kernel_rfl) noPanic_false (by kernel_rfl) (fun w _ => eql_same (.tmp 50) (.tmp 55) true (by kernel_rfl) (by kernel_rfl) (by kernel_rfl) w) hS3 ?_
  refine tk 9 57 (.bool true) (fuel := 19) rfl (by kernel_rfl) (by kernel_rfl) (by kernel_rfl) (by kernel_rfl) noPanic_false (by kernel_rfl) (fun _ _ => by kernel_rfl) hS3 ?_
  refine tkLoad 10 58 24 (.tmp 3) (w.heap.size) 0 (c8 a) (fuel := 18) rfl (by kernel_rfl) (by kernel_rfl) (by kernel_rfl) (by kernel_rfl) (by kernel_rfl) noPanic_false (by kernel_rfl) (by kernel_rfl) _ (fun _ h => RowIs.rangeAll h.2.1) Tryd.underlying24 rfl sa hS3 ?_
  refine tkLoad 11 59 24 (.tmp 4) (w.heap.size + 1) 0 (c8 b) (fuel := 17) rfl (by kernel_rfl) (by kernel_rfl) (by kernel_rfl) (by kernel_rfl) (by kernel_rfl) noPanic_false (by kernel_rfl) (by kernel_rfl) _ (fun _ h => RowIs.rangeAll h.2.2.1) Tryd.underlying24 rfl sb hS3 ?_
  refine tk 12 60 (.bool (decide (a = b))) (fuel := 16) rfl (by kernel_rfl) (by kernel_rfl) (by kernel_rfl) (by kernel_rfl) noPanic_false (by kernel_rfl) (fun w _ => eql_hash (.tmp 58) (.tmp 59) a b ha hb (by kernel_rfl) (by kernel_rfl) (by kernel_rfl) w) hS3 ?_
  refine tkLoad 13 61 24 (.tmp 3) (w.heap.size) 0 (c8 a) (fuel := 15) rfl (by kernel_rfl) (by kernel_rfl) (by kernel_rfl) (by kernel_rfl) (by kernel_rfl) noPanic_false (by kernel_rfl) (by kernel_rfl) _ (fun _ h => RowIs.rangeAll h.2.1) Tryd.underlying24 rfl sa hS3 ?_
  refine tkLoad 14 62 24 (.tmp 4) (w.heap.size + 1) 0 (c8 b) (fuel := 14) rfl (by kernel_rfl) (by kernel_rfl) (by kernel_rfl) (by kernel_rfl) (by kernel_rfl) noPanic_false (by kernel_rfl) (by kernel_rfl) _ (fun _ h => RowIs.rangeAll h.2.2.1) Tryd.underlying24 rfl sb hS3 ?_
  refine tkCall 15 63 21 #[.agg (c8 a).toArray, .agg (c8 b).toArray] (.bool true) _ (fuel := 13) rfl (by kernel_rfl) (by kernel_rfl) (by kernel_rfl) (fun _ => by kernel_rfl) (less_is a b ha hb _ _ hlab) ?_
  intro wc4 hb4
  have hS4 := BackRel.more hS3 hb4
  refine ⟨hS4, ?_⟩
  refine tk 16 64 (.bool false) (fuel := 12) rfl (by kernel_rfl) (by kernel_rfl) (by kernel_rfl) (by kernel_rfl) noPanic_false (by kernel_rfl) (fun _ _ => by kernel_rfl) hS4 ?_
  refine tk 17 65 (.bool false) (fuel := 11) rfl (by kernel_rfl) (by kernel_rfl) (by kernel_rfl) (by kernel_rfl) noPanic_false (by kernel_rfl) (fun _ _ => by kernel_rfl) hS4 ?_
  refine tkSkip 18 66 (fuel := 10) rfl (by kernel_rfl) (by kernel_rfl) (by kernel_rfl) (by kernel_rfl) noPanic_false (by kernel_rfl) hS4 ?_
  refine tkSkip 19 67 (fuel := 9) rfl (by kernel_rfl) (by kernel_rfl) (by kernel_rfl) (by kernel_rfl) noPanic_false (by kernel_rfl) hS4 ?_
  refine tkSkip 20 68 (fuel := 8) rfl (by kernel_rfl) (by kernel_rfl) (by kernel_rfl) (by kernel_rfl) noPanic_false (by kernel_rfl) hS4 ?_
  refine tkSkip 21 69 (fuel := 7) rfl (by kernel_rfl) (by kernel_rfl) (by kernel_rfl) (by kernel_rfl) noPanic_false (by kernel_rfl) hS4 ?_
  refine tk 22 70 (.bool false) (fuel := 6) rfl (by kernel_rfl) (by kernel_rfl) (by kernel_rfl) (by kernel_rfl) noPanic_false (by kernel_rfl) (fun _ _ => by kernel_rfl) hS4 ?_
  refine tk 23 71 (.bool true) (fuel := 5) rfl (by kernel_rfl) (by kernel_rfl) (by kernel_rfl) (by kernel_rfl) noPanic_false (by kernel_rfl) (fun w _ => eql_bools (.tmp 60) (.tmp 70) (decide (a = b)) false hdec (by kernel_rfl) (by kernel_rfl) (by kernel_rfl) w) hS4 ?_
  refine tk 24 72 (.bool true) (fuel := 4) rfl (by kernel_rfl) (by kernel_rfl) (by kernel_rfl) (by kernel_rfl) noPanic_false (by kernel_rfl) (fun _ _ => by kernel_rfl) hS4 ?_
  refine tk 25 73 (.bool true) (fuel := 3) rfl (by kernel_rfl) (by kernel_rfl) (by kernel_rfl) (by kernel_rfl) noPanic_false (by kernel_rfl) (fun _ _ => by kernel_rfl) hS4 ?_
  refine tkCall 26 74 12 #[] (.bool true) _ (fuel := 2) rfl (by kernel_rfl) (by kernel_rfl) (by kernel_rfl) (fun _ => by kernel_rfl) (awake_any _ (HT.out.below hS4.1 HT.out.1)) ?_
  intro wc5 hb5
  have hS5 := BackRel.more hS4 hb5
  refine ⟨hS5, ?_⟩
  refine tk 27 75 (.bool true) (fuel := 1) rfl (by kernel_rfl) (by kernel_rfl) (by kernel_rfl) (by kernel_rfl) noPanic_false (by kernel_rfl) (fun _ _ => by kernel_rfl) hS5 ?_
  refine tk 28 6 (.bool true) (fuel := 0) rfl (by kernel_rfl) (by kernel_rfl) (by kernel_rfl) (by kernel_rfl) noPanic_false (by kernel_rfl) (fun _ _ => by kernel_rfl) hS5 ?_
  refine wpAnyH_done (by kernel_rfl) (NoPanic.normal ?_) _
  clear hlab hdec
  go_simp
  go_wp2
  go_ret
  exact ⟨rfl, hS5.1⟩
set_option maxRecDepth 100000 in
set_option maxHeartbeats 800000 in
theorem back_Bf (a b l : List UInt8) (ha : a.length = 32) (hb : b.length = 32) (w : World) (ht : Tab w) (hpe : ¬ parseE l = 0) (hlab : ltB a b = false) :
    Calls Tryd.prog 8 #[.agg (c8 a).toArray, .agg (c8 b).toArray, .string (strOf l)] w fun e w' => e = .returned (.bool true) ∧ Below w.heap.size w w' := by
  have hdec0 := ltB_tri a b (by omega)
  rw [hlab] at hdec0
  have hdec : decide (a = b) = (!ltB b a) := by rw [hdec0]; simp
  have HDEC := show Hid _ from hdec
  clear hdec0 hdec
  have hpa := parse_any l
  obtain ⟨pe, ph, hph, hne, hp, hz⟩ : ∃ (pe : Int) (ph : List UInt8), ph.length = 32 ∧ pe ≠ 0 ∧ (∀ W, Calls Tryd.prog 17 #[.string (strOf l)] W fun e w' => e = .returned (.tuple #[.agg (c8 ph).toArray, .int .i64 pe]) ∧ Below W.heap.size W w') ∧ ph = zHash :=
    ⟨parseE l, parseH l, parseH_len l, hpe, hpa, parseH_bad l hpe⟩
  have q1 : (pe == 0) = false := by rw [beq_eq_false_iff_ne]; exact hne
  have q2 : (pe != 0) = true := by rw [bne_iff_ne]; exact hne
  have hzz : ∀ W : World, (Op.equalIn 10000 24 (.agg (c8 ph).toArray) (.agg (c8 zHash).toArray)).run Tryd.prog W = .ok true W := fun W => by
    rw [hz, eq24 zHash zHash rfl rfl, decide_eq_true rfl]
  clear hz hne
  clear hpa hpe
  have HP := show Hid _ from hp
  have HZ := show Hid _ from hzz
  clear hp hzz
  have haa : ∀ W : World, (Op.equalIn 10000 24 (.agg (c8 a).toArray) (.agg (c8 a).toArray)).run Tryd.prog W = .ok true W := fun W => by
    rw [eq24 a a ha ha, decide_eq_true rfl]
  have HAA := show Hid _ from haa
  have HT : Hid (Tab w) := ht
  have r0 : Hid (LessRel a b w ((w.alloc (.cells (c8 a).toArray 24)).alloc (.cells (c8 b).toArray 24))) := LessRel.start a b w
  have sa : (Tryd.prog.info? 24).map (·.size) = some (c8 a).length := by rw [c8_len, ha]; exact size24
  have sb : (Tryd.prog.info? 24).map (·.size) = some (c8 b).length := by rw [c8_len, hb]; exact size24
  have sp : (Tryd.prog.info? 24).map (·.size) = some (c8 ph).length := by rw [c8_len, hph]; exact size24
  have hsa : (Tryd.prog.info? 24).map (·.size) = some (c8 a).toArray.size := by simpa using sa
  have hsp : (Tryd.prog.info? 24).map (·.size) = some (c8 ph).toArray.size := by simpa using sp
  have hz1 : (c8 zeroHash).toArray.size = (c8 a).toArray.size := by simp [c8_len, ha]; rfl
  have hz2 : (c8 zeroHash).toArray.size = (c8 ph).toArray.size := by simp [c8_len, hph]; rfl
  have HLAB := show Hid _ from hlab
  clear ht haa hlab
  go_enter Tryd.func8, Tryd.ntmps8
  go_wp2_with (first
    | (refine wpList_load_row rfl 24 (.tmp 3) rfl w.heap.size rfl 24 (c8 a).toArray (0, 0) _ r0.out.2.1 Tryd.underlying24 rfl hsa ?_)
    | (go_at_call 19; refine (hexL_any a ha _).mono ?_; rintro e w1 ⟨rfl, hb1⟩))
  refine (parse_back a ha _).mono ?_
  rintro e w2 ⟨rfl, hb2⟩
  go_wp2_with (first
    | (refine wpList_store_row rfl 24 (.tmp 7) (.tmp 15) rfl w2.heap.size (c8 a).toArray rfl rfl 24 (c8 zeroHash).toArray (RowIs.new w2 24 (c8 zeroHash)) hsa hz1 (all_oneCell_toArray (c8_one _)) ?_
       refine with_world (p := fun W => wpList _ _ _ _ _ W) (fun W => Back3 a b w w2.heap.size W) (Back3.start hb1 hb2) ?_
       intro W3 hB3
       have HB3 := show Hid _ from hB3
       clear hB3 hb1 hb2))
  generalize w2.heap.size = g7 at *
  refine (HP.out _).mono ?_
  rintro e w4 ⟨rfl, hb4⟩
  go_wp2_with (first
    | (refine wpList_store_row rfl 24 (.tmp 9) (.tmp 20) rfl w4.heap.size (c8 ph).toArray rfl rfl 24 (c8 zeroHash).toArray (RowIs.new w4 24 (c8 zeroHash)) hsp hz2 (all_oneCell_toArray (c8_one _)) ?_
       refine with_world (p := fun W => wpList _ _ _ _ _ W) (fun W => BackRel a b ph w g7 w4.heap.size W) (BackRel.start HB3.out hb4) ?_
       intro W5 hB5
       have HB5 := show Hid _ from hB5
       clear hB5 hb4
       have haa := HAA.out
       have hzz := HZ.out)
    | (refine wpListG_load_row rfl 24 (.tmp 7) rfl g7 rfl 24 (c8 a).toArray _ _ HB5.out.2.2.2.1 Tryd.underlying24 hsa ?_)
    | (refine wpListG_load_row rfl 24 (.tmp 3) rfl w.heap.size rfl 24 (c8 a).toArray _ _ HB5.out.2.1 Tryd.underlying24 hsa ?_)
    | (refine wpListG_load_row rfl 24 (.tmp 9) rfl w4.heap.size rfl 24 (c8 ph).toArray _ _ HB5.out.2.2.2.2 Tryd.underlying24 hsp ?_)
    | (refine wpListG_built rfl 24 #[] rfl (c8 zHash).toArray (by kernel_rfl) ?_))
  have HB : Hid (BackRel a b ph w g7 w4.heap.size W5) := HB5.out
  generalize w4.heap.size = g9 at *
  have hlab := HLAB.out
  have hdec := HDEC.out
  refine wp_region_noPanic ?_
  refine wp_region_held_drew (S := fun W => BackRel a b ph w g7 g9 W) (by kernel_rfl) (HB.out.drew) ?_
  intro hS0
  refine tkLoad 0 48 24 (.tmp 3) (w.heap.size) 0 (c8 a) (fuel := 28) rfl (by kernel_rfl) (by kernel_rfl) (by kernel_rfl) (by kernel_rfl) (by kernel_rfl) noPanic_false (by kernel_rfl) (by kernel_rfl) _ (fun _ h => RowIs.rangeAll h.2.1) Tryd.underlying24 rfl sa hS0 ?_
  refine tkLoad 1 49 24 (.tmp 4) (w.heap.size + 1) 0 (c8 b) (fuel := 27) rfl (by kernel_rfl) (by kernel_rfl) (by kernel_rfl) (by kernel_rfl) (by kernel_rfl) noPanic_false (by kernel_rfl) (by kernel_rfl) _ (fun _ h => RowIs.rangeAll h.2.2.1) Tryd.underlying24 rfl sb hS0 ?_
  refine tkLoad 3 51 24 (.tmp 3) (w.heap.size) 0 (c8 a) (fuel := 26) rfl (by kernel_rfl) (by kernel_rfl) (by kernel_rfl) (by kernel_rfl) (by kernel_rfl) noPanic_false (by kernel_rfl) (by kernel_rfl) _ (fun _ h => RowIs.rangeAll h.2.1) Tryd.underlying24 rfl sa hS0 ?_
  refine tkLoad 5 53 24 (.tmp 4) (w.heap.size + 1) 0 (c8 b) (fuel := 25) rfl (by kernel_rfl) (by kernel_rfl) (by kernel_rfl) (by kernel_rfl) (by kernel_rfl) noPanic_false (by kernel_rfl) (by kernel_rfl) _ (fun _ h => RowIs.rangeAll h.2.2.1) Tryd.underlying24 rfl sb hS0 ?_
  refine tkCall 2 50 21 #[.agg (c8 a).toArray, .agg (c8 b).toArray] (.bool false) _ (fuel := 24) rfl (by kernel_rfl) (by kernel_rfl) (by kernel_rfl) (fun _ => by kernel_rfl) (less_is a b ha hb _ _ hlab) ?_
  intro wc1 hb1
  have hS1 := BackRel.more hS0 hb1
  refine ⟨hS1, ?_⟩
  refine tkCall 4 52 19 #[.agg (c8 a).toArray] (.string (strOf (hexL a))) _ (fuel := 23) rfl (by kernel_rfl) (by kernel_rfl) (by kernel_rfl) (fun _ => by kernel_rfl) (hexL_any a ha _) ?_
  intro wc2 hb2
  have hS2 := BackRel.more hS1 hb2
  refine ⟨hS2, ?_⟩
  refine tkCall 6 54 19 #[.agg (c8 b).toArray] (.string (strOf (hexL b))) _ (fuel := 22) rfl (by kernel_rfl) (by kernel_rfl) (by kernel_rfl) (fun _ => by kernel_rfl) (hexL_any b hb _) ?_
  intro wc3 hb3
  have hS3 := BackRel.more hS2 hb3
  refine ⟨hS3, ?_⟩
  refine tk 7 55 (.bool false) (fuel := 21) rfl (by kernel_rfl) (by kernel_rfl) (by kernel_rfl) (by kernel_rfl) noPanic_false (by kernel_rfl) (fun w _ => lss_hex (.tmp 52) (.tmp 54) a b _ (by omega) hlab (by kernel_rfl) (by kernel_rfl) (by kernel_rfl) w) hS3 ?_
  refine tk 8 56 (.bool true) (fuel := 20) rfl (by kernel_rfl) (by kernel_rfl) (by kernel_rfl) (by kernel_rfl) noPanic_false (by kernel_rfl) (fun w _ => eql_same (.tmp 50) (.tmp 55) false (by kernel_rfl) (by kernel_rfl) (by kernel_rfl) w) hS3 ?_
  refine tk 9 57 (.bool true) (fuel := 19) rfl (by kernel_rfl) (by kernel_rfl) (by kernel_rfl) (by kernel_rfl) noPanic_false (by kernel_rfl) (fun _ _ => by kernel_rfl) hS3 ?_
  refine tkLoad 10 58 24 (.tmp 3) (w.heap.size) 0 (c8 a) (fuel := 18) rfl (by kernel_rfl) (by kernel_rfl) (by kernel_rfl) (by kernel_rfl) (by kernel_rfl) noPanic_false (by kernel_rfl) (by kernel_rfl) _ (fun _ h => RowIs.rangeAll h.2.1) Tryd.underlying24 rfl sa hS3 ?_
  refine tkLoad 11 59 24 (.tmp 4) (w.heap.size + 1) 0 (c8 b) (fuel := 17) rfl (by kernel_rfl) (by kernel_rfl) (by kernel_rfl) (by kernel_rfl) (by kernel_rfl) noPanic_false (by kernel_rfl) (by kernel_rfl) _ (fun _ h => RowIs.rangeAll h.2.2.1) Tryd.underlying24 rfl sb hS3 ?_
  refine tk 12 60 (.bool (decide (a = b))) (fuel := 16) rfl (by kernel_rfl) (by kernel_rfl) (by kernel_rfl) (by kernel_rfl) noPanic_false (by kernel_rfl) (fun w _ => eql_hash (.tmp 58) (.tmp 59) a b ha hb (by kernel_rfl) (by kernel_rfl) (by kernel_rfl) w) hS3 ?_
  refine tkLoad 13 61 24 (.tmp 3) (w.heap.size) 0 (c8 a) (fuel := 15) rfl (by kernel_rfl) (by kernel_rfl) (by kernel_rfl) (by kernel_rfl) (by kernel_rfl) noPanic_false (by kernel_rfl) (by kernel_rfl) _ (fun _ h => RowIs.rangeAll h.2.1) Tryd.underlying24 rfl sa hS3 ?_
  refine tkLoad 14 62 24 (.tmp 4) (w.heap.size + 1) 0 (c8 b) (fuel := 14) rfl (by kernel_rfl) (by kernel_rfl) (by kernel_rfl) (by kernel_rfl) (by kernel_rfl) noPanic_false (by kernel_rfl) (by kernel_rfl) _ (fun _ h => RowIs.rangeAll h.2.2.1) Tryd.underlying24 rfl sb hS3 ?_
  refine tkCall 15 63 21 #[.agg (c8 a).toArray, .agg (c8 b).toArray] (.bool false) _ (fuel := 13) rfl (by kernel_rfl) (by kernel_rfl) (by kernel_rfl) (fun _ => by kernel_rfl) (less_is a b ha hb _ _ hlab) ?_
  intro wc4 hb4
  have hS4 := BackRel.more hS3 hb4
  refine ⟨hS4, ?_⟩
  refine tk 16 64 (.bool true) (fuel := 12) rfl (by kernel_rfl) (by kernel_rfl) (by kernel_rfl) (by kernel_rfl) noPanic_false (by kernel_rfl) (fun _ _ => by kernel_rfl) hS4 ?_
  refine tk 17 65 (.bool true) (fuel := 11) rfl (by kernel_rfl) (by kernel_rfl) (by kernel_rfl) (by kernel_rfl) noPanic_false (by kernel_rfl) (fun _ _ => by kernel_rfl) hS4 ?_
  refine tkLoad 18 66 24 (.tmp 4) (w.heap.size + 1) 0 (c8 b) (fuel := 10) rfl (by kernel_rfl) (by kernel_rfl) (by kernel_rfl) (by kernel_rfl) (by kernel_rfl) noPanic_false (by kernel_rfl) (by kernel_rfl) _ (fun _ h => RowIs.rangeAll h.2.2.1) Tryd.underlying24 rfl sb hS4 ?_
  refine tkLoad 19 67 24 (.tmp 3) (w.heap.size) 0 (c8 a) (fuel := 9) rfl (by kernel_rfl) (by kernel_rfl) (by kernel_rfl) (by kernel_rfl) (by kernel_rfl) noPanic_false (by kernel_rfl) (by kernel_rfl) _ (fun _ h => RowIs.rangeAll h.2.1) Tryd.underlying24 rfl sa hS4 ?_
  refine tkCall 20 68 21 #[.agg (c8 b).toArray, .agg (c8 a).toArray] (.bool (ltB b a)) _ (fuel := 8) rfl (by kernel_rfl) (by kernel_rfl) (by kernel_rfl) (fun _ => by kernel_rfl) (less_any b a hb ha _) ?_
  intro wc5 hb5
  have hS5 := BackRel.more hS4 hb5
  refine ⟨hS5, ?_⟩
  refine tk 21 69 (.bool (!ltB b a)) (fuel := 7) rfl (by kernel_rfl) (by kernel_rfl) (by kernel_rfl) (by kernel_rfl) noPanic_false (by kernel_rfl) (fun _ _ => by kernel_rfl) hS5 ?_
  refine tk 22 70 (.bool (!ltB b a)) (fuel := 6) rfl (by kernel_rfl) (by kernel_rfl) (by kernel_rfl) (by kernel_rfl) noPanic_false (by kernel_rfl) (fun _ _ => by kernel_rfl) hS5 ?_
  refine tk 23 71 (.bool true) (fuel := 5) rfl (by kernel_rfl) (by kernel_rfl) (by kernel_rfl) (by kernel_rfl) noPanic_false (by kernel_rfl) (fun w _ => eql_bools (.tmp 60) (.tmp 70) (decide (a = b)) (!ltB b a) hdec (by kernel_rfl) (by kernel_rfl) (by kernel_rfl) w) hS5 ?_
  refine tk 24 72 (.bool true) (fuel := 4) rfl (by kernel_rfl) (by kernel_rfl) (by kernel_rfl) (by kernel_rfl) noPanic_false (by kernel_rfl) (fun _ _ => by kernel_rfl) hS5 ?_
  refine tk 25 73 (.bool true) (fuel := 3) rfl (by kernel_rfl) (by kernel_rfl) (by kernel_rfl) (by kernel_rfl) noPanic_false (by kernel_rfl) (fun _ _ => by kernel_rfl) hS5 ?_
  refine tkCall 26 74 12 #[] (.bool true) _ (fuel := 2) rfl (by kernel_rfl) (by kernel_rfl) (by kernel_rfl) (fun _ => by kernel_rfl) (awake_any _ (HT.out.below hS5.1 HT.out.1)) ?_
  intro wc6 hb6
  have hS6 := BackRel.more hS5 hb6
  refine ⟨hS6, ?_⟩
  refine tk 27 75 (.bool true) (fuel := 1) rfl (by kernel_rfl) (by kernel_rfl) (by kernel_rfl) (by kernel_rfl) noPanic_false (by kernel_rfl) (fun _ _ => by kernel_rfl) hS6 ?_
  refine tk 28 6 (.bool true) (fuel := 0) rfl (by kernel_rfl) (by kernel_rfl) (by kernel_rfl) (by kernel_rfl) noPanic_false (by kernel_rfl) (fun _ _ => by kernel_rfl) hS6 ?_
  refine wpAnyH_done (by kernel_rfl) (NoPanic.normal ?_) _
  clear hlab hdec
  go_simp
  go_wp2
  go_ret
  exact ⟨rfl, hS6.1⟩
theorem back_any (a b l : List UInt8) (ha : a.length = 32) (hb : b.length = 32) (w : World) (ht : Tab w) :
    Calls Tryd.prog 8 #[.agg (c8 a).toArray, .agg (c8 b).toArray, .string (strOf l)] w fun e w' => e = .returned (.bool true) ∧ Below w.heap.size w w' := by
  by_cases hp : parseE l = 0
  · cases hl : ltB a b with
    | true => exact back_At a b l ha hb w ht hp hl
    | false => exact back_Af a b l ha hb w ht hp hl
  · cases hl : ltB a b with
    | true => exact back_Bt a b l ha hb w ht hp hl
    | false => exact back_Bf a b l ha hb w ht hp hl
end Go.Proofs.YtpnhklefoafgkaaDoor
