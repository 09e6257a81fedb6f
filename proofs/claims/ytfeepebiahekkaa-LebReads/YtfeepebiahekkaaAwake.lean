/-
  THE WALKS OF awake, stemmalaw02.LebShort.
-/
import Derived.Test.YtfeepebiahekkaaGetsThree
namespace Go.Proofs.Ytfeepebiahekkaa
open Go.RowKit Leb
theorem uint128 : uintB 128 = [128, 1] := by rw [uintB, if_neg (by omega), uintB, if_pos (by omega)]; rfl
theorem intm65 : intB (-65) = [191, 127] := by rw [intB, if_neg (by omega), intB, if_pos (by omega)]; decide
theorem three : guE [128, 1, 9] = 0 ∧ guK [128, 1, 9] = 2 ∧ guV [128, 1, 9] = 128 := by
  have := gu_back 128 [9] (by omega)
  rw [uint128] at this
  exact this
theorem three_at (w : World) : BytesAt (w.alloc (.cells #[.int .u8 128, .int .u8 1, .int .u8 9] 5)) (some ⟨w.heap.size, 0, none⟩) [128, 1, 9] := fun _ =>
  ⟨w.heap.size, 0, rfl, fun j hj => by
    rw [cell_of_row _ _ _ _ _ _ (heap_alloc_new w _)]
    match j, hj with
    | 0, _ => rfl
    | 1, _ => rfl
    | 2, _ => rfl⟩
theorem getThree (w : World) : Calls Try.prog 18 #[.slice (some ⟨w.heap.size, 0, none⟩) 3 3] (w.alloc (.cells #[.int .u8 128, .int .u8 1, .int .u8 9] 5)) fun e w' =>
    e = .returned (.tuple #[.int .u64 128, .int .i64 2, .int .i64 0]) ∧ Below (w.alloc (.cells #[.int .u8 128, .int .u8 1, .int .u8 9] 5)).heap.size (w.alloc (.cells #[.int .u8 128, .int .u8 1, .int .u8 9] 5)) w' :=
  gu_0 (bs := [128, 1, 9]) (some ⟨w.heap.size, 0, none⟩) 3 (by simp) _ (three_at w) three.2.2 three.2.1 three.1
theorem intThere (w : World) : Calls Try.prog 13 #[.int .i64 (-65)] w fun e w' => ∃ v, e = .returned v ∧ (convert 23 9 v).run Try.prog w' = .ok (.string ⟨#[191, 127]⟩) w' ∧ Below w.heap.size w w' := by
  refine (int_any (-65) (by omega) (by omega) w).mono ?_
  rintro e w' ⟨v, he, ho, hb⟩
  refine ⟨v, he, ?_, hb⟩
  have := ho.conv
  rw [intm65] at this
  exact this
set_option maxRecDepth 100000 in
set_option maxHeartbeats 400000 in
theorem awake_any (w : World) : Calls Try.prog 17 #[] w fun e w' => e = .returned (.bool true) ∧ Below w.heap.size w w' := by
  go_enter Try.func17, Try.ntmps17
  go_wp2_with (first
    | (go_at_call 18; refine (getThree w).mono ?_; rintro e w1 ⟨rfl, hb1⟩)
    | (go_at_call 13; refine (intThere _).mono ?_; rintro e w2 ⟨v2, rfl, hcv, hb2⟩))
  go_ret
  refine ⟨rfl, ?_⟩
  have h0 : After w (w.alloc (.cells #[.int .u8 128, .int .u8 1, .int .u8 9] 5)) := (Below.refl _ _).alloc (Nat.le_refl _) _
  exact After.trans (After.trans h0 hb1) hb2
theorem uint_len (n k : Nat) (hn : n < 18446744073709551616) (hk : (uintB n).length = k) (w : World) :
    Calls Try.prog 11 #[.int .u64 n] w fun e w' => ∃ ao cap, e = .returned (.slice ao k cap) ∧ Below w.heap.size w w' := by
  refine (uint_any n hn w).mono ?_
  rintro e w' ⟨v, rfl, ho, hb⟩
  obtain ⟨ao, cap, rfl, _⟩ := ho.at
  exact ⟨ao, cap, by rw [hk], hb⟩
set_option maxRecDepth 100000 in
set_option maxHeartbeats 400000 in
theorem short_1 (n : Nat) (hn : n < 18446744073709551616) (hk : (uintB n).length = 1) (w : World) : Calls Try.prog 9 #[.int .u64 n] w fun e w' => e = .returned (.bool true) ∧ Below w.heap.size w w' := by
  have hhi : n < 128 := short_hi 0 n hk
  have HK : Hid ((uintB n).length = 1) := hk
  clear hk
  go_enter Try.func9, Try.ntmps9
  go_wp2_with (first
    | (go_at_call 11; refine (uint_len n 1 hn HK.out _).mono ?_; rintro e w1 ⟨ao, cap, rfl, hb1⟩)
    | (go_at_call 17; refine (awake_any _).mono ?_; rintro e w2 ⟨rfl, hb2⟩))
  go_ret
  exact ⟨rfl, After.trans hb1 hb2⟩
set_option maxRecDepth 100000 in
set_option maxHeartbeats 400000 in
theorem short_2 (n : Nat) (hn : n < 18446744073709551616) (hk : (uintB n).length = 2) (w : World) : Calls Try.prog 9 #[.int .u64 n] w fun e w' => e = .returned (.bool true) ∧ Below w.heap.size w w' := by
  have hlo : 128 ≤ n := short_lo 0 n hk
  have hhi : n < 16384 := short_hi 1 n hk
  have HK : Hid ((uintB n).length = 2) := hk
  clear hk
  go_enter Try.func9, Try.ntmps9
  go_wp2_with (first
    | (go_at_call 11; refine (uint_len n 2 hn HK.out _).mono ?_; rintro e w1 ⟨ao, cap, rfl, hb1⟩)
    | (go_at_call 17; refine (awake_any _).mono ?_; rintro e w2 ⟨rfl, hb2⟩))
  go_ret
  exact ⟨rfl, After.trans hb1 hb2⟩
set_option maxRecDepth 100000 in
set_option maxHeartbeats 400000 in
theorem short_3 (n : Nat) (hn : n < 18446744073709551616) (hk : (uintB n).length = 3) (w : World) : Calls Try.prog 9 #[.int .u64 n] w fun e w' => e = .returned (.bool true) ∧ Below w.heap.size w w' := by
  have hlo : 16384 ≤ n := short_lo 1 n hk
  have hhi : n < 2097152 := short_hi 2 n hk
  have HK : Hid ((uintB n).length = 3) := hk
  clear hk
  go_enter Try.func9, Try.ntmps9
  go_wp2_with (first
    | (go_at_call 11; refine (uint_len n 3 hn HK.out _).mono ?_; rintro e w1 ⟨ao, cap, rfl, hb1⟩)
    | (go_at_call 17; refine (awake_any _).mono ?_; rintro e w2 ⟨rfl, hb2⟩))
  go_ret
  exact ⟨rfl, After.trans hb1 hb2⟩
set_option maxRecDepth 100000 in
set_option maxHeartbeats 400000 in
theorem short_4 (n : Nat) (hn : n < 18446744073709551616) (hk : (uintB n).length = 4) (w : World) : Calls Try.prog 9 #[.int .u64 n] w fun e w' => e = .returned (.bool true) ∧ Below w.heap.size w w' := by
  have hlo : 2097152 ≤ n := short_lo 2 n hk
  have hhi : n < 268435456 := short_hi 3 n hk
  have HK : Hid ((uintB n).length = 4) := hk
  clear hk
  go_enter Try.func9, Try.ntmps9
  go_wp2_with (first
    | (go_at_call 11; refine (uint_len n 4 hn HK.out _).mono ?_; rintro e w1 ⟨ao, cap, rfl, hb1⟩)
    | (go_at_call 17; refine (awake_any _).mono ?_; rintro e w2 ⟨rfl, hb2⟩))
  go_ret
  exact ⟨rfl, After.trans hb1 hb2⟩
set_option maxRecDepth 100000 in
set_option maxHeartbeats 400000 in
theorem short_5 (n : Nat) (hn : n < 18446744073709551616) (hk : (uintB n).length = 5) (w : World) : Calls Try.prog 9 #[.int .u64 n] w fun e w' => e = .returned (.bool true) ∧ Below w.heap.size w w' := by
  have hlo : 268435456 ≤ n := short_lo 3 n hk
  have hhi : n < 34359738368 := short_hi 4 n hk
  have HK : Hid ((uintB n).length = 5) := hk
  clear hk
  go_enter Try.func9, Try.ntmps9
  go_wp2_with (first
    | (go_at_call 11; refine (uint_len n 5 hn HK.out _).mono ?_; rintro e w1 ⟨ao, cap, rfl, hb1⟩)
    | (go_at_call 17; refine (awake_any _).mono ?_; rintro e w2 ⟨rfl, hb2⟩))
  go_ret
  exact ⟨rfl, After.trans hb1 hb2⟩
set_option maxRecDepth 100000 in
set_option maxHeartbeats 400000 in
theorem short_6 (n : Nat) (hn : n < 18446744073709551616) (hk : (uintB n).length = 6) (w : World) : Calls Try.prog 9 #[.int .u64 n] w fun e w' => e = .returned (.bool true) ∧ Below w.heap.size w w' := by
  have hlo : 34359738368 ≤ n := short_lo 4 n hk
  have hhi : n < 4398046511104 := short_hi 5 n hk
  have HK : Hid ((uintB n).length = 6) := hk
  clear hk
  go_enter Try.func9, Try.ntmps9
  go_wp2_with (first
    | (go_at_call 11; refine (uint_len n 6 hn HK.out _).mono ?_; rintro e w1 ⟨ao, cap, rfl, hb1⟩)
    | (go_at_call 17; refine (awake_any _).mono ?_; rintro e w2 ⟨rfl, hb2⟩))
  go_ret
  exact ⟨rfl, After.trans hb1 hb2⟩
set_option maxRecDepth 100000 in
set_option maxHeartbeats 400000 in
theorem short_7 (n : Nat) (hn : n < 18446744073709551616) (hk : (uintB n).length = 7) (w : World) : Calls Try.prog 9 #[.int .u64 n] w fun e w' => e = .returned (.bool true) ∧ Below w.heap.size w w' := by
  have hlo : 4398046511104 ≤ n := short_lo 5 n hk
  have hhi : n < 562949953421312 := short_hi 6 n hk
  have HK : Hid ((uintB n).length = 7) := hk
  clear hk
  go_enter Try.func9, Try.ntmps9
  go_wp2_with (first
    | (go_at_call 11; refine (uint_len n 7 hn HK.out _).mono ?_; rintro e w1 ⟨ao, cap, rfl, hb1⟩)
    | (go_at_call 17; refine (awake_any _).mono ?_; rintro e w2 ⟨rfl, hb2⟩))
  go_ret
  exact ⟨rfl, After.trans hb1 hb2⟩
set_option maxRecDepth 100000 in
set_option maxHeartbeats 400000 in
theorem short_8 (n : Nat) (hn : n < 18446744073709551616) (hk : (uintB n).length = 8) (w : World) : Calls Try.prog 9 #[.int .u64 n] w fun e w' => e = .returned (.bool true) ∧ Below w.heap.size w w' := by
  have hlo : 562949953421312 ≤ n := short_lo 6 n hk
  have hhi : n < 72057594037927936 := short_hi 7 n hk
  have HK : Hid ((uintB n).length = 8) := hk
  clear hk
  go_enter Try.func9, Try.ntmps9
  go_wp2_with (first
    | (go_at_call 11; refine (uint_len n 8 hn HK.out _).mono ?_; rintro e w1 ⟨ao, cap, rfl, hb1⟩)
    | (go_at_call 17; refine (awake_any _).mono ?_; rintro e w2 ⟨rfl, hb2⟩))
  go_ret
  exact ⟨rfl, After.trans hb1 hb2⟩
set_option maxRecDepth 100000 in
set_option maxHeartbeats 400000 in
theorem short_9 (n : Nat) (hn : n < 18446744073709551616) (hk : (uintB n).length = 9) (w : World) : Calls Try.prog 9 #[.int .u64 n] w fun e w' => e = .returned (.bool true) ∧ Below w.heap.size w w' := by
  have hlo : 72057594037927936 ≤ n := short_lo 7 n hk
  have hhi : n < 9223372036854775808 := short_hi 8 n hk
  have HK : Hid ((uintB n).length = 9) := hk
  clear hk
  go_enter Try.func9, Try.ntmps9
  go_wp2_with (first
    | (go_at_call 11; refine (uint_len n 9 hn HK.out _).mono ?_; rintro e w1 ⟨ao, cap, rfl, hb1⟩)
    | (go_at_call 17; refine (awake_any _).mono ?_; rintro e w2 ⟨rfl, hb2⟩))
  go_ret
  exact ⟨rfl, After.trans hb1 hb2⟩
set_option maxRecDepth 100000 in
set_option maxHeartbeats 400000 in
theorem short_10 (n : Nat) (hn : n < 18446744073709551616) (hk : (uintB n).length = 10) (w : World) : Calls Try.prog 9 #[.int .u64 n] w fun e w' => e = .returned (.bool true) ∧ Below w.heap.size w w' := by
  have hlo : 9223372036854775808 ≤ n := short_lo 8 n hk
  have HK : Hid ((uintB n).length = 10) := hk
  clear hk
  go_enter Try.func9, Try.ntmps9
  go_wp2_with (first
    | (go_at_call 11; refine (uint_len n 10 hn HK.out _).mono ?_; rintro e w1 ⟨ao, cap, rfl, hb1⟩)
    | (go_at_call 17; refine (awake_any _).mono ?_; rintro e w2 ⟨rfl, hb2⟩))
  go_ret
  exact ⟨rfl, After.trans hb1 hb2⟩
theorem short_any (n : Nat) (hn : n < 18446744073709551616) (w : World) : Calls Try.prog 9 #[.int .u64 n] w fun e w' => e = .returned (.bool true) ∧ Below w.heap.size w w' := by
  have h0 : (uintB n).length ≠ 0 := fun h => uintB_ne n (List.length_eq_zero_iff.1 h)
  have h1 := uintB_len10 n hn
  match h : (uintB n).length, h0, h1 with
  | 1, _, _ => exact short_1 n hn h w
  | 2, _, _ => exact short_2 n hn h w
  | 3, _, _ => exact short_3 n hn h w
  | 4, _, _ => exact short_4 n hn h w
  | 5, _, _ => exact short_5 n hn h w
  | 6, _, _ => exact short_6 n hn h w
  | 7, _, _ => exact short_7 n hn h w
  | 8, _, _ => exact short_8 n hn h w
  | 9, _, _ => exact short_9 n hn h w
  | 10, _, _ => exact short_10 n hn h w
end Go.Proofs.Ytfeepebiahekkaa
