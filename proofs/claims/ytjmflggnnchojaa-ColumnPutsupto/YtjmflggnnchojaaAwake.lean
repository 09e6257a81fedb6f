/-
  THE WALK OF stemmalaw03.awake.
-/
import Derived.Test.YtjmflggnnchojaaGetDeltas
import Derived.Test.YtjmflggnnchojaaRunsWalk
import Derived.Test.YtjmflggnnchojaaFlagsWalk
namespace Go.Proofs.Ytjmflggnnchojaa
open Go.RowKit Leb
theorem uintB_0 : uintB 0 = [0] := by rw [uintB, if_pos (by omega)]; rfl
theorem uintB_1 : uintB 1 = [1] := by rw [uintB, if_pos (by omega)]; rfl
theorem uintB_2 : uintB 2 = [2] := by rw [uintB, if_pos (by omega)]; rfl
theorem uintB_3 : uintB 3 = [3] := by rw [uintB, if_pos (by omega)]; rfl
theorem intB_1 : intB 1 = [1] := by rw [intB, if_pos (by omega)]; decide
theorem intB_5 : intB 5 = [5] := by rw [intB, if_pos (by omega)]; decide
theorem intB_m1 : intB (-1) = [127] := by rw [intB, if_pos (by omega)]; decide
theorem runs5 : runsB [5, 5, 5, -1] = [2, 3, 5, 1, 127] := by
  have h : runs ([5, 5, 5, -1] : List Int) = [(5, 3), (-1, 1)] := by decide
  unfold runsB laidI
  rw [h]
  simp [uintB_1, uintB_2, uintB_3, intB_5, intB_m1]
theorem flags3 : flagsB [true, true, false] = [3, 0, 2, 1] := by
  have h : flagLens [true, true, false] = [0, 2, 1] := by decide
  unfold flagsB laidU
  rw [h]
  simp [uintB_0, uintB_1, uintB_2, uintB_3]
theorem get131 : getR [1, 3, 1] 9 = ([1, 1, 1], 3, 0) := by
  have h1 := gu_back 1 [3, 1] (by omega)
  have h2 := gu_back 3 [1] (by omega)
  have h3 := gi_back 1 [] (by omega) (by omega)
  rw [uintB_1] at h1
  rw [uintB_3] at h2
  rw [intB_1] at h3
  simp only [List.cons_append, List.nil_append, List.length_cons, List.length_nil, Nat.zero_add] at h1 h2 h3
  have hc : clampM 9 = 9 := by decide
  have e1 : suE [1, 3, 1] 0 9 = 0 := by simp [suE, ruE, h1]
  have e2 : suV [1, 3, 1] 0 9 = 1 := by simp [suV, ruV, ruE, h1]
  have e3 : suB [1, 3, 1] 0 9 = [3, 1] := by simp [suB, ruK, ruE, h1]
  have f1 : suE [3, 1] 0 9 = 0 := by simp [suE, ruE, h2]
  have f2 : suV [3, 1] 0 9 = 3 := by simp [suV, ruV, ruE, h2]
  have f3 : suB [3, 1] 0 9 = [1] := by simp [suB, ruK, ruE, h2]
  have g1 : siE [1] 0 = 0 := by simp [siE, h3]
  have g2 : siV [1] 0 = 1 := by simp [siV, h3]
  have g3 : siB [1] 0 = [] := by simp [siB, h3]
  have hr : readR [1, 3, 1] 9 = ([1, 1, 1], [], 0) := by
    unfold readR
    rw [if_pos e1, e2, e3]
    simp [rr, rlE, rlV, f1, f2, f3, g1, g2, g3, List.replicate]
  unfold getR
  rw [hc, hr]
  rfl
theorem sum123 : dsums [1, 1, 1] = [1, 2, 3] := by simp [dsums, dsum, List.range, List.range.loop, RowKit.wrap64]
theorem bytes131 (w : World) : BytesAt (w.alloc (.cells #[.int .u8 1, .int .u8 3, .int .u8 1] 5)) (some ⟨w.heap.size, 0, none⟩) [1, 3, 1] := fun _ =>
  ⟨w.heap.size, 0, rfl, fun j hj => by
    rw [cell_of_row _ _ _ _ _ _ (heap_alloc_new w _)]
    match j, hj with
    | 0, _ => rfl
    | 1, _ => rfl
    | 2, _ => rfl⟩
theorem ints123 (w : World) : IntsAt (w.alloc (.cells #[.int .i64 1, .int .i64 2, .int .i64 3] 2)) (some ⟨w.heap.size, 0, none⟩) [1, 2, 3] := fun _ =>
  ⟨w.heap.size, 0, rfl, fun j hj => by
    rw [cell_of_row _ _ _ _ _ _ (heap_alloc_new w _)]
    match j, hj with
    | 0, _ => rfl
    | 1, _ => rfl
    | 2, _ => rfl⟩
theorem ints5551 (w : World) : IntsAt (w.alloc (.cells #[.int .i64 5, .int .i64 5, .int .i64 5, .int .i64 (-1)] 2)) (some ⟨w.heap.size, 0, none⟩) [5, 5, 5, -1] := fun _ =>
  ⟨w.heap.size, 0, rfl, fun j hj => by
    rw [cell_of_row _ _ _ _ _ _ (heap_alloc_new w _)]
    match j, hj with
    | 0, _ => rfl
    | 1, _ => rfl
    | 2, _ => rfl
    | 3, _ => rfl⟩
theorem boolsTTF (w : World) : BoolsAt (w.alloc (.cells #[.bool true, .bool true, .bool false] 4)) (some ⟨w.heap.size, 0, none⟩) [true, true, false] := fun _ =>
  ⟨w.heap.size, 0, rfl, fun j hj => by
    rw [cell_of_row _ _ _ _ _ _ (heap_alloc_new w _)]
    match j, hj with
    | 0, _ => rfl
    | 1, _ => rfl
    | 2, _ => rfl⟩
theorem IntsAt.after {w W : World} {ao : Option Addr} {l : List Int} (h : IntsAt w ao l) (hA : After w W) : IntsAt W ao l := fun hne => by
  obtain ⟨b, o, rfl, hc⟩ := h hne
  exact ⟨b, o, rfl, fun j hj => by rw [Below.cell hA (p := ⟨b, o + j, none⟩) (block_lt_of_cell (hc j hj))]; exact hc j hj⟩
theorem deltas131 (w : World) : Calls Try.prog 22 #[.slice (some ⟨w.heap.size, 0, none⟩) 3 3, .int .i64 9] (w.alloc (.cells #[.int .u8 1, .int .u8 3, .int .u8 1] 5)) fun e w' =>
    ∃ a c, e = .returned (.tuple #[.slice a 3 c, .int .i64 3, .int .i64 0]) ∧ IntsAt w' a [1, 2, 3] ∧ After w w' := by
  refine (getDeltas_any (some ⟨w.heap.size, 0, none⟩) 3 [1, 3, 1] (by simp) 9 (by omega) (by omega) _ (bytes131 w)).mono ?_
  rintro e w' ⟨v, rfl, ho, hb⟩
  rw [get131] at ho
  simp only [sum123] at ho
  obtain ⟨a, c, rfl, hI, _⟩ := OwnI.at ho
  exact ⟨a, c, by rw [get131]; rfl, hI, After.trans (after_alloc (After.refl w) _) hb⟩
theorem runs5551 (w : World) : Calls Try.prog 10 #[.slice (some ⟨w.heap.size, 0, none⟩) 4 4] (w.alloc (.cells #[.int .i64 5, .int .i64 5, .int .i64 5, .int .i64 (-1)] 2)) fun e w' =>
    ∃ v, e = .returned v ∧ (convert 23 9 v).run Try.prog w' = .ok (.string ⟨#[2, 3, 5, 1, 127]⟩) w' ∧ After w w' := by
  refine (runs_any (some ⟨w.heap.size, 0, none⟩) 4 [5, 5, 5, -1] (by intro x hx; simp at hx; omega) (by simp) _ (ints5551 w) (by intro a ha _; cases ha; simp)).mono ?_
  rintro e w' ⟨v, he, ho, hb⟩
  have := ho.conv
  rw [runs5] at this
  exact ⟨v, he, this, After.trans (after_alloc (After.refl w) _) hb⟩
theorem flagsTTF (w : World) : Calls Try.prog 16 #[.slice (some ⟨w.heap.size, 0, none⟩) 3 3] (w.alloc (.cells #[.bool true, .bool true, .bool false] 4)) fun e w' =>
    ∃ v, e = .returned v ∧ (convert 23 9 v).run Try.prog w' = .ok (.string ⟨#[3, 0, 2, 1]⟩) w' ∧ After w w' := by
  refine (flags_any (some ⟨w.heap.size, 0, none⟩) 3 [true, true, false] (by simp) _ (boolsTTF w) (by intro a ha _; cases ha; simp)).mono ?_
  rintro e w' ⟨v, he, ho, hb⟩
  have := ho.conv
  rw [flags3] at this
  exact ⟨v, he, this, After.trans (after_alloc (After.refl w) _) hb⟩
set_option maxRecDepth 100000 in
set_option maxHeartbeats 800000 in
theorem awake_any (w : World) : Calls Try.prog 15 #[] w fun e w' => e = .returned (.bool true) ∧ Below w.heap.size w w' := by
  go_enter Try.func15, Try.ntmps15
  go_wp2_with (first
    | (go_at_call 22; refine (deltas131 _).mono ?_; rintro e w1 ⟨a1, c1, rfl, hI1, hb1⟩; have HI1 := show Hid (IntsAt w1 a1 [1, 2, 3]) from hI1; have HB1 := show Hid (After w w1) from hb1; clear hI1 hb1)
    | (go_at_call 10; refine (runs5551 _).mono ?_; rintro e w2 ⟨v2, rfl, hcv2, hb2⟩; have HB2 := show Hid (After w1 w2) from hb2; clear hb2)
    | (go_at_call 14; refine (same_any a1 (some ⟨w2.heap.size, 0, none⟩) c1 3 [1, 2, 3] [1, 2, 3] (by simp) _ ((HI1.out.after HB2.out).after (after_alloc (After.refl w2) _)) (ints123 w2)).mono ?_; rintro e w3 ⟨rfl, hb3⟩; have HB3 := show Hid (After w2 w3) from After.trans (after_alloc (After.refl w2) _) hb3; clear hb3; simp only [decide_true])
    | (go_at_call 16; refine (flagsTTF _).mono ?_; rintro e w4 ⟨v4, rfl, hcv4, hb4⟩; have HB4 := show Hid (After w3 w4) from hb4; clear hb4))
  go_ret
  exact ⟨rfl, After.trans (After.trans (After.trans HB1.out HB2.out) HB3.out) HB4.out⟩
end Go.Proofs.Ytjmflggnnchojaa
