/-
  THE WALK OF stemmalaw01.ShaLess.
-/
import Derived.Test.YtpnhklefoafgkaaDoorOrder
import Derived.Test.YtpnhklefoafgkaaDoorHand
namespace Go.Proofs.YtpnhklefoafgkaaDoor
open Go.RowKit Sha
theorem RowIs.rangeAll {w : World} {g : Nat} {t : TypeId} {cs : List Value} (r : RowIs w g t cs) : w.rangeAt g 0 cs := fun j _ hv => by rw [Nat.zero_add]; exact r.cell hv
theorem LessRel.more {a b : List UInt8} {w W w1 : World} (h : LessRel a b w W) (hb : Below W.heap.size W w1) : LessRel a b w w1 :=
  ⟨h.1.trans (hb.mono h.1.size), h.2.1.below hb h.2.1.lt, h.2.2.below hb h.2.2.lt⟩
theorem less_self (a : List UInt8) (ha : a.length = 32) (w : World) : Calls Tryd.prog 21 #[.agg (c8 a).toArray, .agg (c8 a).toArray] w fun e w' => e = .returned (.bool false) ∧ Below w.heap.size w w' := by
  have := less_any a a ha ha w
  rw [ltB_self] at this
  exact this
set_option maxRecDepth 100000 in
set_option maxHeartbeats 800000 in
theorem lawLess_any (a b : List UInt8) (ha : a.length = 32) (hb : b.length = 32) (w : World) (ht : Tab w) :
    Calls Tryd.prog 6 #[.agg (c8 a).toArray, .agg (c8 b).toArray] w fun e w' => e = .returned (.bool true) ∧ Below w.heap.size w w' := by
  have r0 : Hid (LessRel a b w ((w.alloc (.cells (c8 a).toArray 24)).alloc (.cells (c8 b).toArray 24))) := LessRel.start a b w
  have HT : Hid (Tab w) := ht
  have sa : (Tryd.prog.info? 24).map (·.size) = some (c8 a).length := by rw [c8_len, ha]; exact size24
  have sb : (Tryd.prog.info? 24).map (·.size) = some (c8 b).length := by rw [c8_len, hb]; exact size24
  clear ht
  go_enter Tryd.func6, Tryd.ntmps6
  go_wp2
  refine wp_region_noPanic ?_
  refine wp_region_held_drew (S := fun w' => LessRel a b w w') (by kernel_rfl) (r0.out.drew) ?_
  intro hS0
  refine tkLoad 0 5 24 (.tmp 2) (w.heap.size) 0 (c8 a) (fuel := 25) rfl (by kernel_rfl) (by kernel_rfl) (by kernel_rfl) (by kernel_rfl) (by kernel_rfl) noPanic_false (by kernel_rfl) (by kernel_rfl) _ (fun _ h => RowIs.rangeAll h.2.1) Tryd.underlying24 rfl sa hS0 ?_
  refine tkLoad 1 6 24 (.tmp 3) (w.heap.size + 1) 0 (c8 b) (fuel := 24) rfl (by kernel_rfl) (by kernel_rfl) (by kernel_rfl) (by kernel_rfl) (by kernel_rfl) noPanic_false (by kernel_rfl) (by kernel_rfl) _ (fun _ h => RowIs.rangeAll h.2.2) Tryd.underlying24 rfl sb hS0 ?_
  refine tkLoad 3 8 24 (.tmp 2) (w.heap.size) 0 (c8 a) (fuel := 23) rfl (by kernel_rfl) (by kernel_rfl) (by kernel_rfl) (by kernel_rfl) (by kernel_rfl) noPanic_false (by kernel_rfl) (by kernel_rfl) _ (fun _ h => RowIs.rangeAll h.2.1) Tryd.underlying24 rfl sa hS0 ?_
  refine tkLoad 4 9 24 (.tmp 3) (w.heap.size + 1) 0 (c8 b) (fuel := 22) rfl (by kernel_rfl) (by kernel_rfl) (by kernel_rfl) (by kernel_rfl) (by kernel_rfl) noPanic_false (by kernel_rfl) (by kernel_rfl) _ (fun _ h => RowIs.rangeAll h.2.2) Tryd.underlying24 rfl sb hS0 ?_
  refine tkCall 2 7 21 #[.agg (c8 a).toArray, .agg (c8 b).toArray] (.bool (ltB a b)) _ (fuel := 21) rfl (by kernel_rfl) (by kernel_rfl) (by kernel_rfl) (fun _ => by kernel_rfl) (less_any a b ha hb _) ?_
  intro wc1 hb1
  have hS1 := LessRel.more hS0 hb1
  refine ⟨hS1, ?_⟩
  refine tkCall 5 10 22 #[.agg (c8 a).toArray, .agg (c8 b).toArray] (.bool (ltB a b)) _ (fuel := 20) rfl (by kernel_rfl) (by kernel_rfl) (by kernel_rfl) (fun _ => by kernel_rfl) (refLess_any a b ha hb _) ?_
  intro wc2 hb2
  have hS2 := LessRel.more hS1 hb2
  refine ⟨hS2, ?_⟩
  refine tk 6 11 (.bool true) (fuel := 19) rfl (by kernel_rfl) (by kernel_rfl) (by kernel_rfl) (by kernel_rfl) noPanic_false (by kernel_rfl) (fun w _ => eql_same (.tmp 7) (.tmp 10) (ltB a b) (by kernel_rfl) (by kernel_rfl) (by kernel_rfl) w) hS2 ?_
  refine tk 7 12 (.bool true) (fuel := 18) rfl (by kernel_rfl) (by kernel_rfl) (by kernel_rfl) (by kernel_rfl) noPanic_false (by kernel_rfl) (fun _ _ => by kernel_rfl) hS2 ?_
  refine tkLoad 8 13 24 (.tmp 3) (w.heap.size + 1) 0 (c8 b) (fuel := 17) rfl (by kernel_rfl) (by kernel_rfl) (by kernel_rfl) (by kernel_rfl) (by kernel_rfl) noPanic_false (by kernel_rfl) (by kernel_rfl) _ (fun _ h => RowIs.rangeAll h.2.2) Tryd.underlying24 rfl sb hS2 ?_
  refine tkLoad 9 14 24 (.tmp 2) (w.heap.size) 0 (c8 a) (fuel := 16) rfl (by kernel_rfl) (by kernel_rfl) (by kernel_rfl) (by kernel_rfl) (by kernel_rfl) noPanic_false (by kernel_rfl) (by kernel_rfl) _ (fun _ h => RowIs.rangeAll h.2.1) Tryd.underlying24 rfl sa hS2 ?_
  refine tkLoad 11 16 24 (.tmp 3) (w.heap.size + 1) 0 (c8 b) (fuel := 15) rfl (by kernel_rfl) (by kernel_rfl) (by kernel_rfl) (by kernel_rfl) (by kernel_rfl) noPanic_false (by kernel_rfl) (by kernel_rfl) _ (fun _ h => RowIs.rangeAll h.2.2) Tryd.underlying24 rfl sb hS2 ?_
  refine tkLoad 12 17 24 (.tmp 2) (w.heap.size) 0 (c8 a) (fuel := 14) rfl (by kernel_rfl) (by kernel_rfl) (by kernel_rfl) (by kernel_rfl) (by kernel_rfl) noPanic_false (by kernel_rfl) (by kernel_rfl) _ (fun _ h => RowIs.rangeAll h.2.1) Tryd.underlying24 rfl sa hS2 ?_
  refine tkCall 10 15 21 #[.agg (c8 b).toArray, .agg (c8 a).toArray] (.bool (ltB b a)) _ (fuel := 13) rfl (by kernel_rfl) (by kernel_rfl) (by kernel_rfl) (fun _ => by kernel_rfl) (less_any b a hb ha _) ?_
  intro wc3 hb3
  have hS3 := LessRel.more hS2 hb3
  refine ⟨hS3, ?_⟩
  refine tkCall 13 18 22 #[.agg (c8 b).toArray, .agg (c8 a).toArray] (.bool (ltB b a)) _ (fuel := 12) rfl (by kernel_rfl) (by kernel_rfl) (by kernel_rfl) (fun _ => by kernel_rfl) (refLess_any b a hb ha _) ?_
  intro wc4 hb4
  have hS4 := LessRel.more hS3 hb4
  refine ⟨hS4, ?_⟩
  refine tk 14 19 (.bool true) (fuel := 11) rfl (by kernel_rfl) (by kernel_rfl) (by kernel_rfl) (by kernel_rfl) noPanic_false (by kernel_rfl) (fun w _ => eql_same (.tmp 15) (.tmp 18) (ltB b a) (by kernel_rfl) (by kernel_rfl) (by kernel_rfl) w) hS4 ?_
  refine tk 15 20 (.bool true) (fuel := 10) rfl (by kernel_rfl) (by kernel_rfl) (by kernel_rfl) (by kernel_rfl) noPanic_false (by kernel_rfl) (fun _ _ => by kernel_rfl) hS4 ?_
  refine tk 16 21 (.bool true) (fuel := 9) rfl (by kernel_rfl) (by kernel_rfl) (by kernel_rfl) (by kernel_rfl) noPanic_false (by kernel_rfl) (fun _ _ => by kernel_rfl) hS4 ?_
  refine tkLoad 17 22 24 (.tmp 2) (w.heap.size) 0 (c8 a) (fuel := 8) rfl (by kernel_rfl) (by kernel_rfl) (by kernel_rfl) (by kernel_rfl) (by kernel_rfl) noPanic_false (by kernel_rfl) (by kernel_rfl) _ (fun _ h => RowIs.rangeAll h.2.1) Tryd.underlying24 rfl sa hS4 ?_
  refine tkLoad 18 23 24 (.tmp 2) (w.heap.size) 0 (c8 a) (fuel := 7) rfl (by kernel_rfl) (by kernel_rfl) (by kernel_rfl) (by kernel_rfl) (by kernel_rfl) noPanic_false (by kernel_rfl) (by kernel_rfl) _ (fun _ h => RowIs.rangeAll h.2.1) Tryd.underlying24 rfl sa hS4 ?_
  refine tkCall 19 24 21 #[.agg (c8 a).toArray, .agg (c8 a).toArray] (.bool false) _ (fuel := 6) rfl (by kernel_rfl) (by kernel_rfl) (by kernel_rfl) (fun _ => by kernel_rfl) (less_self a ha _) ?_
  intro wc5 hb5
  have hS5 := LessRel.more hS4 hb5
  refine ⟨hS5, ?_⟩
  refine tk 20 25 (.bool true) (fuel := 5) rfl (by kernel_rfl) (by kernel_rfl) (by kernel_rfl) (by kernel_rfl) noPanic_false (by kernel_rfl) (fun _ _ => by kernel_rfl) hS5 ?_
  refine tk 21 26 (.bool true) (fuel := 4) rfl (by kernel_rfl) (by kernel_rfl) (by kernel_rfl) (by kernel_rfl) noPanic_false (by kernel_rfl) (fun _ _ => by kernel_rfl) hS5 ?_
  refine tk 22 27 (.bool true) (fuel := 3) rfl (by kernel_rfl) (by kernel_rfl) (by kernel_rfl) (by kernel_rfl) noPanic_false (by kernel_rfl) (fun _ _ => by kernel_rfl) hS5 ?_
  refine tkCall 23 28 12 #[] (.bool true) _ (fuel := 2) rfl (by kernel_rfl) (by kernel_rfl) (by kernel_rfl) (fun _ => by kernel_rfl) (awake_any _ (HT.out.below hS5.1 HT.out.1)) ?_
  intro wc6 hb6
  have hS6 := LessRel.more hS5 hb6
  refine ⟨hS6, ?_⟩
  refine tk 24 29 (.bool true) (fuel := 1) rfl (by kernel_rfl) (by kernel_rfl) (by kernel_rfl) (by kernel_rfl) noPanic_false (by kernel_rfl) (fun _ _ => by kernel_rfl) hS6 ?_
  refine tk 25 4 (.bool true) (fuel := 0) rfl (by kernel_rfl) (by kernel_rfl) (by kernel_rfl) (by kernel_rfl) noPanic_false (by kernel_rfl) (fun _ _ => by kernel_rfl) hS6 ?_
  refine wpAnyH_done (by kernel_rfl) (NoPanic.normal ?_) _
  go_simp
  go_wp2
  go_ret
  exact ⟨rfl, hS6.1⟩
end Go.Proofs.YtpnhklefoafgkaaDoor
