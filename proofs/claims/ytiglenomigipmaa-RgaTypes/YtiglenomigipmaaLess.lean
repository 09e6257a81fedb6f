/-
  TWO HASHES COMPARED WITH ==; THE WALKS OF sha.Less AND stemmaref01.Less.
-/
import Derived.Test.YtiglenomigipmaaBase
namespace Go.Proofs.Ytiglenomigipmaa
open Go.RowKit
theorem size24 : (Try.prog.info? 35).map (·.size) = some 32 := by kernel_rfl
set_option maxRecDepth 100000 in
theorem eq24 (a b : List UInt8) (ha : a.length = 32) (hb : b.length = 32) (w : World) : (Op.equalIn 10000 35 (.agg (c8 a).toArray) (.agg (c8 b).toArray)).run Try.prog w = .ok (decide (a = b)) w := by
  obtain ⟨i, hi, hz⟩ := Option.map_eq_some_iff.1 info5
  have h := run_equalIn_array (P := Try.prog) w 9999 (c8 a).toArray (c8 b).toArray Try.underlying35 hi
  rw [cells5', eqItems5 9998 a b w (List.range 32) (fun i hi => by simp at hi; omega)] at h
  rw [show (10000 : Nat) = 9999 + 1 from rfl, h]
  congr 1
  rw [Bool.eq_iff_iff, decide_eq_true_iff, List.all_eq_true]
  constructor
  · intro hall
    apply List.ext_getElem (by omega)
    intro i h1 h2
    have := hall i (by simp; omega)
    simp [h1, h2] at this
    exact this
  · intro he; subst he; simp

/-- Ahead, at the first byte that differs. -/
def ltB : List UInt8 → List UInt8 → Bool
  | x :: xs, y :: ys => if x = y then ltB xs ys else decide (x < y)
  | _, _ => false
theorem ltB_self : ∀ a : List UInt8, ltB a a = false
  | [] => rfl
  | x :: xs => by simp [ltB, ltB_self xs]
theorem ltB_at : ∀ (a b : List UInt8) (k : Nat), k < a.length → k < b.length → (∀ j, j < k → a.getD j 0 = b.getD j 0) → a.getD k 0 ≠ b.getD k 0 → ltB a b = decide (a.getD k 0 < b.getD k 0)
  | [], _, _, h, _, _, _ => by simp at h
  | _ :: _, [], _, _, h, _, _ => by simp at h
  | x :: xs, y :: ys, 0, _, _, _, hn => by simp at hn; simp [ltB, hn]
  | x :: xs, y :: ys, k + 1, h1, h2, hj, hn => by
    have h0 : x = y := by simpa using hj 0 (by omega)
    have ih := ltB_at xs ys k (by simpa using h1) (by simpa using h2) (fun j hjk => by simpa using hj (j + 1) (by omega)) (by simpa using hn)
    simp [ltB, h0, ih]
theorem all_eq {a b : List UInt8} (ha : a.length = 32) (hb : b.length = 32) (h : ∀ j, j < 32 → a.getD j 0 = b.getD j 0) : a = b := by
  apply List.ext_getElem (by omega)
  intro i h1 h2
  have := h i (by omega)
  simpa [h1, h2] using this
theorem lt_nat (x y : UInt8) : decide (x.toNat < y.toNat) = decide (x < y) := by
  rw [Bool.eq_iff_iff, decide_eq_true_iff, decide_eq_true_iff, UInt8.lt_iff_toNat_lt]
def LessRel (a b : List UInt8) (w : World) (wr : World) : Prop := Below w.heap.size w wr ∧ RowIs wr w.heap.size 35 (c8 a) ∧ RowIs wr (w.heap.size + 1) 35 (c8 b)
theorem LessRel.start (a b : List UInt8) (w : World) : LessRel a b w ((w.alloc (.cells (c8 a).toArray 35)).alloc (.cells (c8 b).toArray 35)) := by
  refine ⟨((Below.refl _ _).alloc (Nat.le_refl _) _).alloc (by simp) _, (RowIs.new w 35 _).alloc _, ?_⟩
  have := RowIs.new (w.alloc (.cells (c8 a).toArray 35)) 35 (c8 b)
  rw [show (w.alloc (.cells (c8 a).toArray 35)).heap.size = w.heap.size + 1 by simp] at this
  exact this
theorem LessRel.drew {a b : List UInt8} {w wr : World} (h : LessRel a b w wr) : LessRel a b w wr.drew := ⟨h.1.drew, h.2.1, h.2.2⟩
theorem eqb_true {x y : UInt8} (h : x = y) : ((x.toNat : Int) == (y.toNat : Int)) = true := by rw [beq_iff_eq, h]
theorem eqb_false {x y : UInt8} (h : ¬ x = y) : ((x.toNat : Int) == (y.toNat : Int)) = false := by
  rw [beq_eq_false_iff_ne]; intro e; exact h (UInt8.toNat_inj.1 (by omega))
theorem neb_false {x y : UInt8} (h : x = y) : ((x.toNat : Int) != (y.toNat : Int)) = false := by simp [h]
theorem neb_true {x y : UInt8} (h : ¬ x = y) : ((x.toNat : Int) != (y.toNat : Int)) = true := by
  rw [bne_iff_ne]; intro e; exact h (UInt8.toNat_inj.1 (by omega))
set_option maxRecDepth 100000 in
set_option maxHeartbeats 800000 in
theorem less_any (a b : List UInt8) (ha : a.length = 32) (hb : b.length = 32) (w : World) :
    Calls Try.prog 36 #[.agg (c8 a).toArray, .agg (c8 b).toArray] w fun e w' => e = .returned (.bool (ltB a b)) ∧ Below w.heap.size w w' := by
  have hsa : (c8 a).toArray.size = 32 := by simp [c8_len, ha]
  have hsb : (c8 b).toArray.size = 32 := by simp [c8_len, hb]
  have r0 : Hid (LessRel a b w ((w.alloc (.cells (c8 a).toArray 35)).alloc (.cells (c8 b).toArray 35))) := LessRel.start a b w
  have heq := fun W => eq24 a b ha hb W
  by_cases hab : a = b
  · subst hab
    simp only [decide_true] at heq
    rw [ltB_self]
    go_enter Try.func36, Try.ntmps36
    go_wp2_with (first
      | (refine wpList_load_row rfl 35 (.tmp 2) rfl w.heap.size rfl 35 (c8 a).toArray (0, 0) _ r0.out.2.1 Try.underlying35 rfl (by rw [hsa]; exact size24) ?_)
      | (refine wpList_load_row rfl 35 (.tmp 3) rfl (w.heap.size + 1) rfl 35 (c8 a).toArray (0, 0) _ r0.out.2.2 Try.underlying35 rfl (by rw [hsa]; exact size24) ?_))
    go_ret
    exact ⟨rfl, r0.out.1⟩
  · have hf : decide (a = b) = false := decide_eq_false hab
    simp only [hf] at heq
    have HAB : Hid (¬ a = b) := hab
    clear hab hf
    go_enter Try.func36, Try.ntmps36
    go_wp2_with (first
      | (refine wpList_load_row rfl 35 (.tmp 2) rfl w.heap.size rfl 35 (c8 a).toArray (0, 0) _ r0.out.2.1 Try.underlying35 rfl (by rw [hsa]; exact size24) ?_)
      | (refine wpList_load_row rfl 35 (.tmp 3) rfl (w.heap.size + 1) rfl 35 (c8 b).toArray (0, 0) _ r0.out.2.2 Try.underlying35 rfl (by rw [hsb]; exact size24) ?_))
    go_loopw [5] (fun i wr => ∃ k : Nat, k < 32 ∧ i = .int .i64 k ∧ (∀ j, j < k → a.getD j 0 = b.getD j 0) ∧ LessRel a b w wr) (fun i _ => 32 - (intOf i).toNat)
    case atStart => exact ⟨0, by omega, rfl, fun j hj => absurd hj (Nat.not_lt_zero _), r0.out⟩
    case round =>
      clear r0 heq
      obtain ⟨k, hk, rfl, hall, hR⟩ := hrel
      have bk : (k : Int) < 32 := by omega
      obtain ⟨x, X, e0⟩ : ∃ x : UInt8, Hid (x = a.getD k 0) ∧ wr.cell? ⟨w.heap.size, k, none⟩ = some (.int .u8 (x.toNat : Int)) := ⟨_, rfl, hR.2.1.cell (c8_get _ k (by omega))⟩
      obtain ⟨y, Y, e1⟩ : ∃ y : UInt8, Hid (y = b.getD k 0) ∧ wr.cell? ⟨w.heap.size + 1, k, none⟩ = some (.int .u8 (y.toNat : Int)) := ⟨_, rfl, hR.2.2.cell (c8_get _ k (by omega))⟩
      have HALL := show Hid _ from hall
      have HR : Hid (LessRel a b w wr) := hR
      clear hall hR
      by_cases hxy : x = y
      · have hb1 := eqb_true hxy
        have HN : Hid (∀ j, j < k + 1 → a.getD j 0 = b.getD j 0) := fun j hj => by
          rcases Nat.lt_or_ge j k with h | h
          · exact HALL.out j h
          · obtain rfl : j = k := by omega
            rw [← X.out, ← Y.out]; exact hxy
        have hk1 : k + 1 < 32 := by
          rcases Nat.lt_or_ge (k + 1) 32 with h | h
          · exact h
          · exact absurd (all_eq ha hb (fun j hj => HN.out j (by omega))) HAB.out
        clear hxy
        go_wp2
        go_region_held3 (fun w' => w'.cell? ⟨w.heap.size, k, none⟩ = some (.int .u8 (x.toNat : Int)) ∧ w'.cell? ⟨w.heap.size + 1, k, none⟩ = some (.int .u8 (y.toNat : Int))) (go_keep) (fail)
        go_wp2
        go_roundw
        case rel => exact ⟨k + 1, hk1, by go_num, HN.out, HR.out.drew⟩
        case measure => simp [intOf]; omega
      · have hb1 := eqb_false hxy
        have HV : Hid (ltB a b = decide (x.toNat < y.toNat)) := by
          unfold Hid
          rw [lt_nat, X.out, Y.out]
          exact ltB_at a b k (by omega) (by omega) HALL.out (by rw [← X.out, ← Y.out]; exact hxy)
        clear hxy
        go_wp2
        go_region_held3 (fun w' => w'.cell? ⟨w.heap.size, k, none⟩ = some (.int .u8 (x.toNat : Int)) ∧ w'.cell? ⟨w.heap.size + 1, k, none⟩ = some (.int .u8 (y.toNat : Int))) (go_keep) (fail)
        go_wp2
        have e0' : wr.drew.cell? ⟨w.heap.size, k, none⟩ = some (.int .u8 (x.toNat : Int)) := e0
        have e1' : wr.drew.cell? ⟨w.heap.size + 1, k, none⟩ = some (.int .u8 (y.toNat : Int)) := e1
        go_region_held3 (fun w' => w'.cell? ⟨w.heap.size, k, none⟩ = some (.int .u8 (x.toNat : Int)) ∧ w'.cell? ⟨w.heap.size + 1, k, none⟩ = some (.int .u8 (y.toNat : Int))) (go_keep) (fail)
        go_wp2
        go_ret
        refine ⟨?_, HR.out.1.drew.drew⟩
        rw [HV.out]; rfl
set_option maxRecDepth 100000 in
set_option maxHeartbeats 800000 in
theorem refLess_any (a b : List UInt8) (ha : a.length = 32) (hb : b.length = 32) (w : World) :
    Calls Try.prog 37 #[.agg (c8 a).toArray, .agg (c8 b).toArray] w fun e w' => e = .returned (.bool (ltB a b)) ∧ Below w.heap.size w w' := by
  have r0 : Hid (LessRel a b w ((w.alloc (.cells (c8 a).toArray 35)).alloc (.cells (c8 b).toArray 35))) := LessRel.start a b w
  go_enter Try.func37, Try.ntmps37
  go_wp2
  go_loopw [5] (fun i wr => ∃ k : Nat, k ≤ 32 ∧ i = .int .i64 k ∧ (∀ j, j < k → a.getD j 0 = b.getD j 0) ∧ LessRel a b w wr) (fun i _ => 32 - (intOf i).toNat)
  case atStart => exact ⟨0, by omega, rfl, fun j hj => absurd hj (Nat.not_lt_zero _), r0.out⟩
  case round =>
    clear r0
    obtain ⟨k, hk, rfl, hall, hR⟩ := hrel
    by_cases hlt : k < 32
    · have bk : (k : Int) < 32 := by omega
      obtain ⟨x, X, e0⟩ : ∃ x : UInt8, Hid (x = a.getD k 0) ∧ wr.cell? ⟨w.heap.size, k, none⟩ = some (.int .u8 (x.toNat : Int)) := ⟨_, rfl, hR.2.1.cell (c8_get _ k (by omega))⟩
      obtain ⟨y, Y, e1⟩ : ∃ y : UInt8, Hid (y = b.getD k 0) ∧ wr.cell? ⟨w.heap.size + 1, k, none⟩ = some (.int .u8 (y.toNat : Int)) := ⟨_, rfl, hR.2.2.cell (c8_get _ k (by omega))⟩
      have HALL := show Hid _ from hall
      have HR : Hid (LessRel a b w wr) := hR
      clear hall hR
      by_cases hxy : x = y
      · have hb1 := neb_false hxy
        have HN : Hid (∀ j, j < k + 1 → a.getD j 0 = b.getD j 0) := fun j hj => by
          rcases Nat.lt_or_ge j k with h | h
          · exact HALL.out j h
          · obtain rfl : j = k := by omega
            rw [← X.out, ← Y.out]; exact hxy
        clear hxy
        go_wp2
        go_region_held3 (fun w' => w'.cell? ⟨w.heap.size, k, none⟩ = some (.int .u8 (x.toNat : Int)) ∧ w'.cell? ⟨w.heap.size + 1, k, none⟩ = some (.int .u8 (y.toNat : Int))) (go_keep) (fail)
        go_wp2
        go_roundw
        case rel => exact ⟨k + 1, by omega, by go_num, HN.out, HR.out.drew⟩
        case measure => simp [intOf]; omega
      · have hb1 := neb_true hxy
        have HV : Hid (ltB a b = decide (x.toNat < y.toNat)) := by
          unfold Hid
          rw [lt_nat, X.out, Y.out]
          exact ltB_at a b k (by omega) (by omega) HALL.out (by rw [← X.out, ← Y.out]; exact hxy)
        clear hxy
        go_wp2
        go_region_held3 (fun w' => w'.cell? ⟨w.heap.size, k, none⟩ = some (.int .u8 (x.toNat : Int)) ∧ w'.cell? ⟨w.heap.size + 1, k, none⟩ = some (.int .u8 (y.toNat : Int))) (go_keep) (fail)
        go_wp2
        have e0' : wr.drew.cell? ⟨w.heap.size, k, none⟩ = some (.int .u8 (x.toNat : Int)) := e0
        have e1' : wr.drew.cell? ⟨w.heap.size + 1, k, none⟩ = some (.int .u8 (y.toNat : Int)) := e1
        go_region_held3 (fun w' => w'.cell? ⟨w.heap.size, k, none⟩ = some (.int .u8 (x.toNat : Int)) ∧ w'.cell? ⟨w.heap.size + 1, k, none⟩ = some (.int .u8 (y.toNat : Int))) (go_keep) (fail)
        go_wp2
        go_ret
        refine ⟨?_, HR.out.1.drew.drew⟩
        rw [HV.out]; rfl
    · obtain rfl : k = 32 := by omega
      have HV : Hid (ltB a b = false) := by unfold Hid; rw [all_eq ha hb (fun j hj => hall j hj)]; exact ltB_self b
      have HR : Hid (LessRel a b w wr) := hR
      clear hall hR
      go_wp2
      go_ret
      refine ⟨?_, HR.out.1⟩
      rw [HV.out]; rfl
end Go.Proofs.Ytiglenomigipmaa
