/-
  THE WALKS OF stemmaref01.value AND stemmaref01.Parse.
-/
import Derived.Test.YtpnhklefoafgkaaDoorDigits
namespace Go.Proofs.YtpnhklefoafgkaaDoor
open Go.RowKit Sha
def valN (c : UInt8) : Int := if isDig c = true then ((digN c).toNat : Int) else -1
theorem dg_isDig (k : Nat) (h : k < 16) : isDig (dg k) = true ∧ (digN (dg k)).toNat = k := dg_facts ⟨k, h⟩
theorem eqb8_true {x y : UInt8} (h : x = y) : ((x.toNat : Int) == (y.toNat : Int)) = true := by rw [beq_iff_eq, h]
theorem eqb8_false {x y : UInt8} (h : ¬ x = y) : ((x.toNat : Int) == (y.toNat : Int)) = false := by
  rw [beq_eq_false_iff_ne]; intro e; exact h (UInt8.toNat_inj.1 (by omega))
set_option maxRecDepth 100000 in
set_option maxHeartbeats 400000 in
theorem value_any (c : UInt8) (w : World) : Calls Tryd.prog 30 #[.int .u8 (c.toNat : Int)] w fun e w' => e = .returned (.int .i64 (valN c)) ∧ w' = w := by
  go_enter Tryd.func30, Tryd.ntmps30
  go_wp2
  go_loop [3] (fun i => ∃ k : Nat, k ≤ 16 ∧ i = .int .i64 k ∧ ∀ j, j < k → ¬ dg j = c) (fun i => 16 - (intOf i).toNat)
  case atStart => exact ⟨0, by omega, rfl, fun j hj => absurd hj (Nat.not_lt_zero _)⟩
  case round =>
    obtain ⟨k, hk, rfl, hall⟩ := hrel
    have HALL := show Hid _ from hall
    clear hall
    by_cases hlt : k < 16
    · have hqi := fun W => idxDigit k hlt .i64 W
      obtain ⟨x, X, hx⟩ : ∃ x : UInt8, Hid (x = dg k) ∧ ∀ W, (Instr.index 9 (.string ⟨#[48, 49, 50, 51, 52, 53, 54, 55, 56, 57, 97, 98, 99, 100, 101, 102]⟩) (.int .i64 (k : Int))).run Tryd.prog W = .ok (.int .u8 (x.toNat : Int)) W := ⟨_, rfl, hqi⟩
      clear hqi
      by_cases hxc : x = c
      · have he := eqb8_true hxc
        have HV : Hid (valN c = (k : Int)) := by
          obtain ⟨h1, h2⟩ := dg_isDig k hlt
          unfold Hid valN
          rw [← hxc, X.out, if_pos h1, h2]
        clear hxc
        go_wp2
        go_ret
        refine ⟨?_, rfl⟩
        rw [HV.out]; rfl
      · have he := eqb8_false hxc
        have HN : Hid (∀ j, j < k + 1 → ¬ dg j = c) := fun j hj => by
          rcases Nat.lt_or_ge j k with h | h
          · exact HALL.out j h
          · obtain rfl : j = k := by omega
            rw [← X.out]; exact hxc
        clear hxc
        go_wp2
        go_round
        case rel => exact ⟨k + 1, by omega, by go_num, HN.out⟩
        case measure => simp [intOf]; omega
    · obtain rfl : k = 16 := by omega
      have HV : Hid (valN c = -1) := by
        unfold Hid valN
        rw [if_neg]
        intro hd
        exact HALL.out _ (digN_lt c) (dg_back c hd)
      go_wp2
      go_ret
      refine ⟨?_, rfl⟩
      rw [HV.out]; rfl
theorem valN_dig {c : UInt8} (h : isDig c = true) : valN c = ((digN c).toNat : Int) := by unfold valN; rw [if_pos h]
theorem valN_no {c : UInt8} (h : isDig c = false) : valN c = -1 := by unfold valN; rw [if_neg (by rw [h]; simp)]
theorem value_dig (c : UInt8) (h : isDig c = true) (w : World) : Calls Tryd.prog 30 #[.int .u8 (c.toNat : Int)] w fun e w' => e = .returned (.int .i64 ((digN c).toNat : Int)) ∧ w' = w := by
  have := value_any c w; rw [valN_dig h] at this; exact this
theorem value_no (c : UInt8) (h : isDig c = false) (w : World) : Calls Tryd.prog 30 #[.int .u8 (c.toNat : Int)] w fun e w' => e = .returned (.int .i64 (-1)) ∧ w' = w := by
  have := value_any c w; rw [valN_no h] at this; exact this
theorem hexByte_sum (a b : UInt8) : (16 * ((digN a).toNat : Int) + ((digN b).toNat : Int)) = ((hexByte a b).toNat : Int) := by
  have h1 := digN_lt a
  have h2 := digN_lt b
  unfold hexByte
  simp
  omega
theorem ParRel.setRow0 {l : List UInt8} {w wr : World} {k : Nat} (h : ParRel l w k wr) : Below w.heap.size w (wr.setRow w.heap.size (c8 zeroHash).toArray) := Below.row h.1 (Nat.le_refl _) _
theorem ParRel.drew {l : List UInt8} {w wr : World} {k : Nat} (h : ParRel l w k wr) : ParRel l w k wr.drew := ⟨h.1.drew, h.2.1, h.2.2⟩
set_option maxRecDepth 100000 in
set_option maxHeartbeats 800000 in
theorem refParse_short (l : List UInt8) (hl : ¬ l.length = 64) (w : World) :
    Calls Tryd.prog 18 #[.string (strOf l)] w fun e w' => e = .returned (.tuple #[.agg (c8 (parseH l)).toArray, .int .i64 (parseE l)]) ∧ Below w.heap.size w w' := by
  have hs := strOf_size l
  have e1 : parseH l = zeroHash := by unfold parseH; rw [if_neg (fun h => hl h.1)]
  rw [e1]
  clear e1
  have R : Hid (ParRel l w 0 ((w.alloc (.cells (c8 zeroHash).toArray 24)).alloc (.cells (c8 zeroHash).toArray 24))) := ParRel.start l w
  rcases Nat.lt_or_ge l.length 64 with h | h
  · have e2 : parseE l = 3 := by unfold parseE; rw [if_pos h]
    rw [e2]
    clear e2 hl
    go_enter Tryd.func18, Tryd.ntmps18
    go_wp2_with (first
      | (refine wpList_load_row rfl 24 (.tmp 4) rfl (w.heap.size + 1) rfl 24 (c8 zeroHash).toArray (0, 0) _ R.out.2.2 Tryd.underlying24 rfl zsize ?_)
      | (refine wpList_store_row rfl 24 (.tmp 2) (.tmp 11) rfl w.heap.size (c8 zeroHash).toArray rfl rfl 24 (c8 zeroHash).toArray R.out.2.1 zsize rfl (all_oneCell_toArray (c8_one _)) ?_))
    exact bodyPost_ret (results_cell_tmp Tryd.results18 _ _ w.heap.size 24 _ (0, 0) _ _ rfl (RowIs.setRow R.out.2.1 _) Tryd.underlying24 zsize _ rfl) rfl ⟨rfl, R.out.setRow0⟩
  · have h64 : 64 < l.length := by omega
    have e2 : parseE l = 7 := by unfold parseE; rw [if_neg (by omega), if_pos h64]
    rw [e2]
    clear e2 hl
    go_enter Tryd.func18, Tryd.ntmps18
    go_wp2_with (first
      | (refine wpList_load_row rfl 24 (.tmp 4) rfl (w.heap.size + 1) rfl 24 (c8 zeroHash).toArray (0, 0) _ R.out.2.2 Tryd.underlying24 rfl zsize ?_)
      | (refine wpList_store_row rfl 24 (.tmp 2) (.tmp 15) rfl w.heap.size (c8 zeroHash).toArray rfl rfl 24 (c8 zeroHash).toArray R.out.2.1 zsize rfl (all_oneCell_toArray (c8_one _)) ?_))
    exact bodyPost_ret (results_cell_tmp Tryd.results18 _ _ w.heap.size 24 _ (0, 0) _ _ rfl (RowIs.setRow R.out.2.1 _) Tryd.underlying24 zsize _ rfl) rfl ⟨rfl, R.out.setRow0⟩
set_option maxRecDepth 100000 in
set_option maxHeartbeats 1600000 in
theorem refParse_64 (l : List UInt8) (hl : l.length = 64) (w : World) :
    Calls Tryd.prog 18 #[.string (strOf l)] w fun e w' => e = .returned (.tuple #[.agg (c8 (parseH l)).toArray, .int .i64 (parseE l)]) ∧ Below w.heap.size w w' := by
  have hs : (strOf l).size = 64 := by rw [strOf_size, hl]
  have HL : Hid (l.length = 64) := hl
  clear hl
  go_enter Tryd.func18, Tryd.ntmps18
  go_wp2
  go_loopw [5] (fun i wr => ∃ k : Nat, k ≤ 32 ∧ i = .int .i64 k ∧ (∀ j, j < k → isDig (l.getD (2 * j) 0) = true ∧ isDig (l.getD (2 * j + 1) 0) = true) ∧ ParRel l w k wr) (fun i _ => 32 - (intOf i).toNat)
  case atStart => exact ⟨0, by omega, rfl, fun j hj => absurd hj (Nat.not_lt_zero _), ParRel.start l w⟩
  case round =>
    obtain ⟨k, hk, rfl, hall, hR⟩ := hrel
    by_cases hlt : k < 32
    · obtain ⟨m, hm, Hm⟩ : ∃ m : Nat, IntKind.i64.wrap (2 * (k : Int)) = (m : Int) ∧ Hid (2 * k = m) := ⟨2 * k, by rw [wrap_i64 _ (by omega) (by omega)]; omega, rfl⟩
      obtain ⟨m1, hm1, Hm1⟩ : ∃ m1 : Nat, IntKind.i64.wrap ((m : Int) + 1) = (m1 : Int) ∧ Hid (m1 = m + 1) := ⟨m + 1, by have := Hm.out; rw [wrap_i64 _ (by omega) (by omega)]; omega, rfl⟩
      obtain ⟨x, X, hx⟩ : ∃ x : UInt8, Hid (x = l.getD m 0) ∧ ∀ W, (Instr.index 9 (.string (strOf l)) (.int .i64 (m : Int))).run Tryd.prog W = .ok (.int .u8 (x.toNat : Int)) W := ⟨_, rfl, fun W => idxStr l m (by have := HL.out; have := Hm.out; omega) W⟩
      obtain ⟨y, Y, hy⟩ : ∃ y : UInt8, Hid (y = l.getD m1 0) ∧ ∀ W, (Instr.index 9 (.string (strOf l)) (.int .i64 (m1 : Int))).run Tryd.prog W = .ok (.int .u8 (y.toNat : Int)) W := ⟨_, rfl, fun W => idxStr l m1 (by have := HL.out; have := Hm.out; have := Hm1.out; omega) W⟩
      have HALL := show Hid _ from hall
      have cz := hR.2.2.cell (c8_get (parseTo l k) k (by rw [parseTo_len]; exact hlt))
      have fz := hR.2.2.frozen k
      have HR : Hid (ParRel l w k wr) := hR
      clear hall hR
      cases hdx : isDig x with
      | false =>
        have HE : Hid (parseH l = zeroHash ∧ parseE l = 4) := by
          have hn := not_allDig l m (by have := HL.out; have := Hm.out; omega) (by rw [← X.out]; exact hdx)
          unfold Hid parseH parseE
          rw [if_neg (by rw [hn]; simp), if_neg (by have := HL.out; omega), if_neg (by have := HL.out; omega), if_neg (by rw [hn]; simp)]
          exact ⟨rfl, rfl⟩
        obtain ⟨vy, hvy⟩ : ∃ vy : Int, ∀ W, Calls Tryd.prog 30 #[.int .u8 (y.toNat : Int)] W fun e w' => e = .returned (.int .i64 vy) ∧ w' = W := ⟨_, fun W => value_any y W⟩
        have hvx := fun W => value_no x hdx W
        have HX := show Hid _ from hvx
        have HY := show Hid _ from hvy
        clear hvx hvy
        go_wp2
        go_region_held3 (fun _ => True) (trivial) (first | (go_at_call_of 30 (x.toNat); refine (HX.out _).mono ?_; rintro e w' ⟨rfl, rfl⟩) | (go_at_call_of 30 (y.toNat); refine (HY.out _).mono ?_; rintro e w' ⟨rfl, rfl⟩))
        go_wp2_with (first
          | (refine wpList_built rfl 24 #[] rfl (c8 zeroHash).toArray (by kernel_rfl) ?_)
          | (refine wpList_store_row rfl 24 (.tmp 2) (.tmp 37) rfl w.heap.size (c8 zeroHash).toArray rfl rfl 24 (c8 zeroHash).toArray HR.out.drew.2.1 zsize rfl (all_oneCell_toArray (c8_one _)) ?_))
        all_goals
          all_goals
            refine bodyPost_ret (results_cell_tmp Tryd.results18 _ _ w.heap.size 24 _ (0, 0) _ _ rfl (RowIs.setRow HR.out.drew.2.1 _) Tryd.underlying24 zsize _ rfl) rfl ⟨?_, Below.row HR.out.drew.1 (Nat.le_refl _) _⟩
            rw [HE.out.1, HE.out.2]; rfl
      | true =>
        have bx := digN_lt x
        have hvx := fun W => value_dig x hdx W
        have HX := show Hid _ from hvx
        clear hvx
        cases hdy : isDig y with
        | false =>
          have HE : Hid (parseH l = zeroHash ∧ parseE l = 4) := by
            have hn := not_allDig l m1 (by have := HL.out; have := Hm.out; have := Hm1.out; omega) (by rw [← Y.out]; exact hdy)
            unfold Hid parseH parseE
            rw [if_neg (by rw [hn]; simp), if_neg (by have := HL.out; omega), if_neg (by have := HL.out; omega), if_neg (by rw [hn]; simp)]
            exact ⟨rfl, rfl⟩
          have hvy := fun W => value_no y hdy W
          have HY := show Hid _ from hvy
          clear hvy
          go_wp2
          go_region_held3 (fun _ => True) (trivial) (first | (go_at_call_of 30 (x.toNat); refine (HX.out _).mono ?_; rintro e w' ⟨rfl, rfl⟩) | (go_at_call_of 30 (y.toNat); refine (HY.out _).mono ?_; rintro e w' ⟨rfl, rfl⟩))
          go_wp2_with (first
            | (refine wpList_built rfl 24 #[] rfl (c8 zeroHash).toArray (by kernel_rfl) ?_)
            | (refine wpList_store_row rfl 24 (.tmp 2) (.tmp 37) rfl w.heap.size (c8 zeroHash).toArray rfl rfl 24 (c8 zeroHash).toArray HR.out.drew.2.1 zsize rfl (all_oneCell_toArray (c8_one _)) ?_))
          all_goals
            refine bodyPost_ret (results_cell_tmp Tryd.results18 _ _ w.heap.size 24 _ (0, 0) _ _ rfl (RowIs.setRow HR.out.drew.2.1 _) Tryd.underlying24 zsize _ rfl) rfl ⟨?_, Below.row HR.out.drew.1 (Nat.le_refl _) _⟩
            rw [HE.out.1, HE.out.2]; rfl
        | true =>
          have HN : Hid (∀ j, j < k + 1 → isDig (l.getD (2 * j) 0) = true ∧ isDig (l.getD (2 * j + 1) 0) = true) := fun j hj => by
            rcases Nat.lt_or_ge j k with h | h
            · exact HALL.out j h
            · obtain rfl : j = k := by omega
              rw [Hm.out, ← Hm1.out, ← X.out, ← Y.out]; exact ⟨hdx, hdy⟩
          have bk : (k : Int) < 32 := by omega
          have by' := digN_lt y
          have HV : Hid (16 * ((digN x).toNat : Int) + ((digN y).toNat : Int) = ((hexByte x y).toNat : Int)) := hexByte_sum x y
          have hvy := fun W => value_dig y hdy W
          have HY := show Hid _ from hvy
          clear hvy
          go_wp2
          go_region_held3 (fun _ => True) (trivial) (first | (go_at_call_of 30 (x.toNat); refine (HX.out _).mono ?_; rintro e w' ⟨rfl, rfl⟩) | (go_at_call_of 30 (y.toNat); refine (HY.out _).mono ?_; rintro e w' ⟨rfl, rfl⟩))
          go_wp2
          all_goals
            go_roundw
            case rel => exact ⟨k + 1, by omega, by go_num, HN.out, by have := (ParRel.next HR.out).drew; rw [Hm.out, ← Hm1.out, ← X.out, ← Y.out, ← HV.out] at this; exact this⟩
            case measure => simp [intOf]; omega
    · obtain rfl : k = 32 := by omega
      have HE : Hid (parseH l = parseTo l 32 ∧ parseE l = 0) := by
        have hn := allDig_of l HL.out hall
        unfold Hid parseH parseE
        rw [if_pos ⟨HL.out, hn⟩, if_neg (by have := HL.out; omega), if_neg (by have := HL.out; omega), if_pos hn]
        exact ⟨rfl, rfl⟩
      have hsz : (Tryd.prog.info? 24).map (·.size) = some (c8 (parseTo l 32)).toArray.size := by simp only [List.size_toArray, c8_len, parseTo_len]; exact size24
      have hsz2 : (c8 zeroHash).toArray.size = (c8 (parseTo l 32)).toArray.size := by simp only [List.size_toArray, c8_len, parseTo_len]; rfl
      have HS := show Hid _ from hsz
      have HS2 := show Hid _ from hsz2
      have HR : Hid (ParRel l w 32 wr) := hR
      clear hall hR hsz hsz2
      go_wp2_with (first
        | (refine wpList_load_row rfl 24 (.tmp 4) rfl (w.heap.size + 1) rfl 24 (c8 (parseTo l 32)).toArray (0, 0) _ HR.out.2.2 Tryd.underlying24 rfl HS.out ?_)
        | (refine wpList_store_row rfl 24 (.tmp 2) (.tmp 45) rfl w.heap.size (c8 (parseTo l 32)).toArray rfl rfl 24 (c8 zeroHash).toArray HR.out.2.1 HS.out HS2.out (all_oneCell_toArray (c8_one _)) ?_))
      refine bodyPost_ret (results_cell_tmp Tryd.results18 _ _ w.heap.size 24 _ (0, 0) _ _ rfl (RowIs.setRow HR.out.2.1 _) Tryd.underlying24 HS.out _ rfl) rfl ⟨?_, Below.row HR.out.1 (Nat.le_refl _) _⟩
      rw [HE.out.1, HE.out.2]; rfl
theorem refParse_any (l : List UInt8) (w : World) :
    Calls Tryd.prog 18 #[.string (strOf l)] w fun e w' => e = .returned (.tuple #[.agg (c8 (parseH l)).toArray, .int .i64 (parseE l)]) ∧ Below w.heap.size w w' := by
  by_cases h : l.length = 64
  · exact refParse_64 l h w
  · exact refParse_short l h w
end Go.Proofs.YtpnhklefoafgkaaDoor
