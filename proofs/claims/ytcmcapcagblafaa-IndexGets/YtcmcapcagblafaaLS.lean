/-
  THE WALKS OF sha.Less (54) AND stemmaref01.Less (52).
-/
import Derived.Test.YtcmcapcagblafaaPB
namespace Go.Proofs.Ytcmcapcagblafaa
open Go.RowKit
set_option maxRecDepth 100000 in
set_option maxHeartbeats 800000 in
theorem less_any (a b : List UInt8) (ha : a.length = 32) (hb : b.length = 32) (w : World) :
    Calls Try.prog 40 #[.agg (c8 a).toArray, .agg (c8 b).toArray] w fun e w' => e = .returned (.bool (ltB a b)) ∧ Below w.heap.size w w' := by
  have hsa : (c8 a).toArray.size = 32 := by simp [c8_len, ha]
  have hsb : (c8 b).toArray.size = 32 := by simp [c8_len, hb]
  have r0 : Hid (LessRel a b w ((w.alloc (.cells (c8 a).toArray 43)).alloc (.cells (c8 b).toArray 43))) := LessRel.start a b w
  have heq := fun W => eq24 a b ha hb W
  by_cases hab : a = b
  · subst hab
    simp only [decide_true] at heq
    rw [ltB_self]
    go_enter Try.func40, Try.ntmps40
    go_wp2_with (first
      | (refine wpList_load_row rfl 43 (.tmp 2) rfl w.heap.size rfl 43 (c8 a).toArray (0, 0) _ r0.out.2.1 Try.underlying43 rfl (by rw [hsa]; exact size24) ?_)
      | (refine wpList_load_row rfl 43 (.tmp 3) rfl (w.heap.size + 1) rfl 43 (c8 a).toArray (0, 0) _ r0.out.2.2 Try.underlying43 rfl (by rw [hsa]; exact size24) ?_))
    go_ret
    exact ⟨rfl, r0.out.1⟩
  · have hf : decide (a = b) = false := decide_eq_false hab
    simp only [hf] at heq
    have HAB : Hid (¬ a = b) := hab
    clear hab hf
    go_enter Try.func40, Try.ntmps40
    go_wp2_with (first
      | (refine wpList_load_row rfl 43 (.tmp 2) rfl w.heap.size rfl 43 (c8 a).toArray (0, 0) _ r0.out.2.1 Try.underlying43 rfl (by rw [hsa]; exact size24) ?_)
      | (refine wpList_load_row rfl 43 (.tmp 3) rfl (w.heap.size + 1) rfl 43 (c8 b).toArray (0, 0) _ r0.out.2.2 Try.underlying43 rfl (by rw [hsb]; exact size24) ?_))
    go_loopw [5] (fun i wr => ∃ k : Nat, k < 32 ∧ i = .int .i64 k ∧ (∀ j, j < k → a.getD j 0 = b.getD j 0) ∧ LessRel a b w wr) (fun i _ => 32 - (intOf i).toNat)
    case atStart => exact ⟨0, by omega, rfl, fun j hj => absurd hj (Nat.not_lt_zero _), r0.out⟩
    case round =>
      clear r0 heq
      obtain ⟨k, hk, rfl, hall, hR⟩ := hrel
      have bk : (k : Int) < 32 := by omega
      obtain ⟨x, X, e0⟩ : ∃ x : UInt8, Hid (x = a.getD k 0) ∧ wr.cell? ⟨w.heap.size, k, none⟩ = some (.int .u8 (x.toNat : Int)) := ⟨_, rfl, hR.2.1.cell (c8_get _ k (by omega))⟩
      obtain ⟨y, Y, e1⟩ : ∃ y : UInt8, Hid (y = b.getD k 0) ∧ wr.cell? ⟨w.heap.size + 1, k, none⟩ = some (.int .u8 (y.toNat : Int)) := ⟨_, rfl, hR.2.2.cell (c8_get _ k (by omega))⟩
      have HALL := show Hid _ from hall
      have HR : Hid (LessRel a b w wr) := hR
      clear hall hR
      by_cases hxy : x = y
      · have hb1 := eqb_true hxy
        have HN : Hid (∀ j, j < k + 1 → a.getD j 0 = b.getD j 0) := fun j hj => by
          rcases Nat.lt_or_ge j k with h | h
          · exact HALL.out j h
          · obtain rfl : j = k := by omega
            rw [← X.out, ← Y.out]; exact hxy
        have hk1 : k + 1 < 32 := by
          rcases Nat.lt_or_ge (k + 1) 32 with h | h
          · exact h
          · exact absurd (all_eq ha hb (fun j hj => HN.out j (by omega))) HAB.out
        clear hxy
        go_wp2
        go_region_held3 (fun w' => w'.cell? ⟨w.heap.size, k, none⟩ = some (.int .u8 (x.toNat : Int)) ∧ w'.cell? ⟨w.heap.size + 1, k, none⟩ = some (.int .u8 (y.toNat : Int))) (go_keep) (fail)
        go_wp2
        go_roundw
        case rel => exact ⟨k + 1, hk1, by go_num, HN.out, HR.out.drew⟩
        case measure => simp [intOf]; omega
      · have hb1 := eqb_false hxy
        have HV : Hid (ltB a b = decide (x.toNat < y.toNat)) := by
          unfold Hid
          rw [lt_nat, X.out, Y.out]
          exact ltB_at a b k (by omega) (by omega) HALL.out (by rw [← X.out, ← Y.out]; exact hxy)
        clear hxy
        go_wp2
        go_region_held3 (fun w' => w'.cell? ⟨w.heap.size, k, none⟩ = some (.int .u8 (x.toNat : Int)) ∧ w'.cell? ⟨w.heap.size + 1, k, none⟩ = some (.int .u8 (y.toNat : Int))) (go_keep) (fail)
        go_wp2
        have e0' : wr.drew.cell? ⟨w.heap.size, k, none⟩ = some (.int .u8 (x.toNat : Int)) := e0
        have e1' : wr.drew.cell? ⟨w.heap.size + 1, k, none⟩ = some (.int .u8 (y.toNat : Int)) := e1
        go_region_held3 (fun w' => w'.cell? ⟨w.heap.size, k, none⟩ = some (.int .u8 (x.toNat : Int)) ∧ w'.cell? ⟨w.heap.size + 1, k, none⟩ = some (.int .u8 (y.toNat : Int))) (go_keep) (fail)
        go_wp2
        go_ret
        refine ⟨?_, HR.out.1.drew.drew⟩
        rw [HV.out]; rfl
set_option maxRecDepth 100000 in
set_option maxHeartbeats 800000 in
theorem refLess_any (a b : List UInt8) (ha : a.length = 32) (hb : b.length = 32) (w : World) :
    Calls Try.prog 72 #[.agg (c8 a).toArray, .agg (c8 b).toArray] w fun e w' => e = .returned (.bool (ltB a b)) ∧ Below w.heap.size w w' := by
  have r0 : Hid (LessRel a b w ((w.alloc (.cells (c8 a).toArray 43)).alloc (.cells (c8 b).toArray 43))) := LessRel.start a b w
  go_enter Try.func72, Try.ntmps72
  go_wp2
  go_loopw [5] (fun i wr => ∃ k : Nat, k ≤ 32 ∧ i = .int .i64 k ∧ (∀ j, j < k → a.getD j 0 = b.getD j 0) ∧ LessRel a b w wr) (fun i _ => 32 - (intOf i).toNat)
  case atStart => exact ⟨0, by omega, rfl, fun j hj => absurd hj (Nat.not_lt_zero _), r0.out⟩
  case round =>
    clear r0
    obtain ⟨k, hk, rfl, hall, hR⟩ := hrel
    by_cases hlt : k < 32
    · have bk : (k : Int) < 32 := by omega
      obtain ⟨x, X, e0⟩ : ∃ x : UInt8, Hid (x = a.getD k 0) ∧ wr.cell? ⟨w.heap.size, k, none⟩ = some (.int .u8 (x.toNat : Int)) := ⟨_, rfl, hR.2.1.cell (c8_get _ k (by omega))⟩
      obtain ⟨y, Y, e1⟩ : ∃ y : UInt8, Hid (y = b.getD k 0) ∧ wr.cell? ⟨w.heap.size + 1, k, none⟩ = some (.int .u8 (y.toNat : Int)) := ⟨_, rfl, hR.2.2.cell (c8_get _ k (by omega))⟩
      have HALL := show Hid _ from hall
      have HR : Hid (LessRel a b w wr) := hR
      clear hall hR
      by_cases hxy : x = y
      · have hb1 := neb_false hxy
        have HN : Hid (∀ j, j < k + 1 → a.getD j 0 = b.getD j 0) := fun j hj => by
          rcases Nat.lt_or_ge j k with h | h
          · exact HALL.out j h
          · obtain rfl : j = k := by omega
            rw [← X.out, ← Y.out]; exact hxy
        clear hxy
        go_wp2
        go_region_held3 (fun w' => w'.cell? ⟨w.heap.size, k, none⟩ = some (.int .u8 (x.toNat : Int)) ∧ w'.cell? ⟨w.heap.size + 1, k, none⟩ = some (.int .u8 (y.toNat : Int))) (go_keep) (fail)
        go_wp2
        go_roundw
        case rel => exact ⟨k + 1, by omega, by go_num, HN.out, HR.out.drew⟩
        case measure => simp [intOf]; omega
      · have hb1 := neb_true hxy
        have HV : Hid (ltB a b = decide (x.toNat < y.toNat)) := by
          unfold Hid
          rw [lt_nat, X.out, Y.out]
          exact ltB_at a b k (by omega) (by omega) HALL.out (by rw [← X.out, ← Y.out]; exact hxy)
        clear hxy
        go_wp2
        go_region_held3 (fun w' => w'.cell? ⟨w.heap.size, k, none⟩ = some (.int .u8 (x.toNat : Int)) ∧ w'.cell? ⟨w.heap.size + 1, k, none⟩ = some (.int .u8 (y.toNat : Int))) (go_keep) (fail)
        go_wp2
        have e0' : wr.drew.cell? ⟨w.heap.size, k, none⟩ = some (.int .u8 (x.toNat : Int)) := e0
        have e1' : wr.drew.cell? ⟨w.heap.size + 1, k, none⟩ = some (.int .u8 (y.toNat : Int)) := e1
        go_region_held3 (fun w' => w'.cell? ⟨w.heap.size, k, none⟩ = some (.int .u8 (x.toNat : Int)) ∧ w'.cell? ⟨w.heap.size + 1, k, none⟩ = some (.int .u8 (y.toNat : Int))) (go_keep) (fail)
        go_wp2
        go_ret
        refine ⟨?_, HR.out.1.drew.drew⟩
        rw [HV.out]; rfl
    · obtain rfl : k = 32 := by omega
      have HV : Hid (ltB a b = false) := by unfold Hid; rw [all_eq ha hb (fun j hj => hall j hj)]; exact ltB_self b
      have HR : Hid (LessRel a b w wr) := hR
      clear hall hR
      go_wp2
      go_ret
      refine ⟨?_, HR.out.1⟩
      rw [HV.out]; rfl
end Go.Proofs.Ytcmcapcagblafaa
