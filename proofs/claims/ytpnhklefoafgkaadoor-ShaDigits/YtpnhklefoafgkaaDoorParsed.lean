/-
  THE WALK OF sha.Parse.
-/
import Derived.Test.YtpnhklefoafgkaaDoorParse
namespace Go.Proofs.YtpnhklefoafgkaaDoor
open Go.RowKit Sha
set_option maxRecDepth 100000 in
set_option maxHeartbeats 800000 in
theorem parse_64 (l : List UInt8) (hl : l.length = 64) (w : World) :
    Calls Tryd.prog 17 #[.string (strOf l)] w fun e w' => e = .returned (.tuple #[.agg (c8 (parseH l)).toArray, .int .i64 (parseE l)]) ∧ Below w.heap.size w w' := by
  have hs : (strOf l).size = 64 := by rw [strOf_size, hl]
  have HL : Hid (l.length = 64) := hl
  clear hl
  go_enter Tryd.func17, Tryd.ntmps17
  go_wp2
  go_loopw [18] (fun i wr => ∃ k : Nat, k ≤ 32 ∧ i = .int .i64 k ∧ (∀ j, j < k → isDig (l.getD (2 * j) 0) = true ∧ isDig (l.getD (2 * j + 1) 0) = true) ∧ ParRel l w k wr) (fun i _ => 32 - (intOf i).toNat)
  case atStart => exact ⟨0, by omega, rfl, fun j hj => absurd hj (Nat.not_lt_zero _), ParRel.start l w⟩
  case round =>
    obtain ⟨k, hk, rfl, hall, hR⟩ := hrel
    by_cases hlt : k < 32
    · obtain ⟨m, hm, hm2⟩ : ∃ m : Nat, 2 * (k : Int) = (m : Int) ∧ 2 * k = m := ⟨2 * k, by omega, rfl⟩
      obtain ⟨x, X, hx⟩ : ∃ x : UInt8, Hid (x = l.getD m 0) ∧ ∀ W, (Instr.index 9 (.string (strOf l)) (.int .i64 (m : Int))).run Tryd.prog W = .ok (.int .u8 (x.toNat : Int)) W := ⟨_, rfl, fun W => idxStr l m (by have := HL.out; omega) W⟩
      obtain ⟨y, Y, hy⟩ : ∃ y : UInt8, Hid (y = l.getD (m + 1) 0) ∧ ∀ W, (Instr.index 9 (.string (strOf l)) (.int .i64 ((m : Int) + 1))).run Tryd.prog W = .ok (.int .u8 (y.toNat : Int)) W := ⟨_, rfl, fun W => idxStr l (m + 1) (by have := HL.out; omega) W⟩
      have HM : Hid (2 * k = m) := hm2
      have HALL := show Hid _ from hall
      have cz := hR.2.2.cell (c8_get (parseTo l k) k (by rw [parseTo_len]; exact hlt))
      have fz := hR.2.2.frozen k
      have hlx := digN_lt x
      have hv := hexByte_bits x y
      have HR : Hid (ParRel l w k wr) := hR
      clear hm2 hall hR
      cases hdx : isDig x with
      | false =>
        have HE : Hid (parseH l = zeroHash ∧ parseE l = 4) := by
          have hn := not_allDig l m (by have := HL.out; have := HM.out; omega) (by rw [← X.out]; exact hdx)
          unfold Hid parseH parseE
          rw [if_neg (by rw [hn]; simp), if_neg (by have := HL.out; omega), if_neg (by have := HL.out; omega), if_neg (by rw [hn]; simp)]
          exact ⟨rfl, rfl⟩
        go_wp2_with (first
          | (go_at_call 29; refine (digitOf_any _ _).mono ?_; rintro e w' ⟨rfl, rfl⟩)
          | (refine wpList_built rfl 24 #[] rfl (c8 zeroHash).toArray (by kernel_rfl) ?_)
          | (refine wpList_store_row rfl 24 (.tmp 2) (.tmp 44) rfl w.heap.size (c8 zeroHash).toArray rfl rfl 24 (c8 zeroHash).toArray HR.out.2.1 zsize rfl (all_oneCell_toArray (c8_one _)) ?_))
        refine bodyPost_ret (results_cell_tmp Tryd.results17 _ _ w.heap.size 24 _ (0, 0) _ _ rfl (RowIs.setRow HR.out.2.1 _) Tryd.underlying24 zsize _ rfl) rfl ⟨?_, Below.row HR.out.1 (Nat.le_refl _) _⟩
        rw [HE.out.1, HE.out.2]; rfl
      | true =>
        cases hdy : isDig y with
        | false =>
          have HE : Hid (parseH l = zeroHash ∧ parseE l = 4) := by
            have hn := not_allDig l (m + 1) (by have := HL.out; have := HM.out; omega) (by rw [← Y.out]; exact hdy)
            unfold Hid parseH parseE
            rw [if_neg (by rw [hn]; simp), if_neg (by have := HL.out; omega), if_neg (by have := HL.out; omega), if_neg (by rw [hn]; simp)]
            exact ⟨rfl, rfl⟩
          go_wp2_with (first
            | (go_at_call 29; refine (digitOf_any _ _).mono ?_; rintro e w' ⟨rfl, rfl⟩)
            | (refine wpList_built rfl 24 #[] rfl (c8 zeroHash).toArray (by kernel_rfl) ?_)
            | (refine wpList_store_row rfl 24 (.tmp 2) (.tmp 44) rfl w.heap.size (c8 zeroHash).toArray rfl rfl 24 (c8 zeroHash).toArray HR.out.2.1 zsize rfl (all_oneCell_toArray (c8_one _)) ?_))
          refine bodyPost_ret (results_cell_tmp Tryd.results17 _ _ w.heap.size 24 _ (0, 0) _ _ rfl (RowIs.setRow HR.out.2.1 _) Tryd.underlying24 zsize _ rfl) rfl ⟨?_, Below.row HR.out.1 (Nat.le_refl _) _⟩
          rw [HE.out.1, HE.out.2]; rfl
        | true =>
          have HN : Hid (∀ j, j < k + 1 → isDig (l.getD (2 * j) 0) = true ∧ isDig (l.getD (2 * j + 1) 0) = true) := fun j hj => by
            rcases Nat.lt_or_ge j k with h | h
            · exact HALL.out j h
            · obtain rfl : j = k := by omega
              rw [HM.out, ← X.out, ← Y.out]; exact ⟨hdx, hdy⟩
          go_wp2_with (go_at_call 29; refine (digitOf_any _ _).mono ?_; rintro e w' ⟨rfl, rfl⟩)
          go_roundw
          case rel => exact ⟨k + 1, by omega, by go_num, HN.out, by have := ParRel.next HR.out; rw [HM.out, ← X.out, ← Y.out] at this; exact this⟩
          case measure => simp [intOf]; omega
    · obtain rfl : k = 32 := by omega
      have HE : Hid (parseH l = parseTo l 32 ∧ parseE l = 0) := by
        have hn := allDig_of l HL.out hall
        unfold Hid parseH parseE
        rw [if_pos ⟨HL.out, hn⟩, if_neg (by have := HL.out; omega), if_neg (by have := HL.out; omega), if_pos hn]
        exact ⟨rfl, rfl⟩
      have hsz : (Tryd.prog.info? 24).map (·.size) = some (c8 (parseTo l 32)).toArray.size := by simp only [List.size_toArray, c8_len, parseTo_len]; exact size24
      have hsz2 : (c8 zeroHash).toArray.size = (c8 (parseTo l 32)).toArray.size := by simp only [List.size_toArray, c8_len, parseTo_len]; rfl
      have HS := show Hid _ from hsz
      have HS2 := show Hid _ from hsz2
      have HR : Hid (ParRel l w 32 wr) := hR
      clear hall hR hsz hsz2
      go_wp2_with (first
        | (refine wpList_load_row rfl 24 (.tmp 4) rfl (w.heap.size + 1) rfl 24 (c8 (parseTo l 32)).toArray (0, 0) _ HR.out.2.2 Tryd.underlying24 rfl HS.out ?_)
        | (refine wpList_store_row rfl 24 (.tmp 2) (.tmp 52) rfl w.heap.size (c8 (parseTo l 32)).toArray rfl rfl 24 (c8 zeroHash).toArray HR.out.2.1 HS.out HS2.out (all_oneCell_toArray (c8_one _)) ?_))
      refine bodyPost_ret (results_cell_tmp Tryd.results17 _ _ w.heap.size 24 _ (0, 0) _ _ rfl (RowIs.setRow HR.out.2.1 _) Tryd.underlying24 HS.out _ rfl) rfl ⟨?_, Below.row HR.out.1 (Nat.le_refl _) _⟩
      rw [HE.out.1, HE.out.2]; rfl
theorem parse_any (l : List UInt8) (w : World) :
    Calls Tryd.prog 17 #[.string (strOf l)] w fun e w' => e = .returned (.tuple #[.agg (c8 (parseH l)).toArray, .int .i64 (parseE l)]) ∧ Below w.heap.size w w' := by
  by_cases h : l.length = 64
  · exact parse_64 l h w
  · exact parse_short l h w
end Go.Proofs.YtpnhklefoafgkaaDoor
