/-
  THE WALKS OF hashes.Name, hashes.ofName, ref.Name.
-/
import Derived.Test.YtcmcapcagblafaaBase
namespace Go.Proofs.Ytcmcapcagblafaa
open Go.RowKit
def nameC (c : UInt8) : Bool := (decide (97 ≤ c.toNat) && decide (c.toNat ≤ 122)) || (decide (65 ≤ c.toNat) && decide (c.toNat ≤ 90)) || (decide (48 ≤ c.toNat) && decide (c.toNat ≤ 57)) || decide (c.toNat = 46) || decide (c.toNat = 95) || decide (c.toNat = 45)
def nmB (s : List UInt8) : Bool := s.all nameC && decide (1 ≤ s.length) && decide (s.length ≤ 32) && decide (s ≠ [45])
theorem ret_bool {a b : Bool} (h : a = b) : Ending.returned (.bool a) = .returned (.bool b) := by rw [h]
theorem ofName_in (c : Nat) (b : Bool) (w : World) (hc : c ≤ 255) (hb : ((decide (97 ≤ c) && decide (c ≤ 122)) || (decide (65 ≤ c) && decide (c ≤ 90)) || (decide (48 ≤ c) && decide (c ≤ 57)) || decide (c = 46) || decide (c = 95) || decide (c = 45)) = b) :
    Calls Try.prog 85 #[.int .u8 (c : Int)] w fun e w' => e = .returned (.bool b) ∧ w' = w := by
  have HB : Hid _ := hb
  clear hb
  by_cases hhi : c ≤ 44
  · have f1 : ¬ (97 : Int) ≤ (c : Int) := by omega
    have f2 : ¬ (65 : Int) ≤ (c : Int) := by omega
    have f3 : ¬ (48 : Int) ≤ (c : Int) := by omega
    have f4 : (c : Int) ≤ (122 : Int) := by omega
    have f5 : (c : Int) ≤ (90 : Int) := by omega
    have f6 : (c : Int) ≤ (57 : Int) := by omega
    have f7 : ¬ (c : Int) = (46 : Int) := by omega
    have f8 : ¬ (c : Int) = (95 : Int) := by omega
    have f9 : ¬ (c : Int) = (45 : Int) := by omega
    go_enter Try.func85, Try.ntmps85
    go_wp2
    go_ret
    have hbb : b = false := by rw [← HB.out]; simp; omega
    first | exact ⟨by rw [hbb]; rfl, rfl⟩ | exact ⟨ret_bool (by rw [hbb]; simp; omega), rfl⟩
  by_cases hhi : c ≤ 45
  · have hlo : 45 ≤ c := by omega
    have f1 : ¬ (97 : Int) ≤ (c : Int) := by omega
    have f2 : ¬ (65 : Int) ≤ (c : Int) := by omega
    have f3 : ¬ (48 : Int) ≤ (c : Int) := by omega
    have f4 : (c : Int) ≤ (122 : Int) := by omega
    have f5 : (c : Int) ≤ (90 : Int) := by omega
    have f6 : (c : Int) ≤ (57 : Int) := by omega
    have f7 : ¬ (c : Int) = (46 : Int) := by omega
    have f8 : ¬ (c : Int) = (95 : Int) := by omega
    have f9 : (c : Int) = (45 : Int) := by omega
    go_enter Try.func85, Try.ntmps85
    go_wp2
    go_ret
    have hbb : b = true := by rw [← HB.out]; simp; omega
    first | exact ⟨by rw [hbb]; rfl, rfl⟩ | exact ⟨ret_bool (by rw [hbb]; simp; omega), rfl⟩
  by_cases hhi : c ≤ 46
  · have hlo : 46 ≤ c := by omega
    have f1 : ¬ (97 : Int) ≤ (c : Int) := by omega
    have f2 : ¬ (65 : Int) ≤ (c : Int) := by omega
    have f3 : ¬ (48 : Int) ≤ (c : Int) := by omega
    have f4 : (c : Int) ≤ (122 : Int) := by omega
    have f5 : (c : Int) ≤ (90 : Int) := by omega
    have f6 : (c : Int) ≤ (57 : Int) := by omega
    have f7 : (c : Int) = (46 : Int) := by omega
    have f8 : ¬ (c : Int) = (95 : Int) := by omega
    have f9 : ¬ (c : Int) = (45 : Int) := by omega
    go_enter Try.func85, Try.ntmps85
    go_wp2
    go_ret
    have hbb : b = true := by rw [← HB.out]; simp; omega
    first | exact ⟨by rw [hbb]; rfl, rfl⟩ | exact ⟨ret_bool (by rw [hbb]; simp; omega), rfl⟩
  by_cases hhi : c ≤ 47
  · have hlo : 47 ≤ c := by omega
    have f1 : ¬ (97 : Int) ≤ (c : Int) := by omega
    have f2 : ¬ (65 : Int) ≤ (c : Int) := by omega
    have f3 : ¬ (48 : Int) ≤ (c : Int) := by omega
    have f4 : (c : Int) ≤ (122 : Int) := by omega
    have f5 : (c : Int) ≤ (90 : Int) := by omega
    have f6 : (c : Int) ≤ (57 : Int) := by omega
    have f7 : ¬ (c : Int) = (46 : Int) := by omega
    have f8 : ¬ (c : Int) = (95 : Int) := by omega
    have f9 : ¬ (c : Int) = (45 : Int) := by omega
    go_enter Try.func85, Try.ntmps85
    go_wp2
    go_ret
    have hbb : b = false := by rw [← HB.out]; simp; omega
    first | exact ⟨by rw [hbb]; rfl, rfl⟩ | exact ⟨ret_bool (by rw [hbb]; simp; omega), rfl⟩
  by_cases hhi : c ≤ 57
  · have hlo : 48 ≤ c := by omega
    have f1 : ¬ (97 : Int) ≤ (c : Int) := by omega
    have f2 : ¬ (65 : Int) ≤ (c : Int) := by omega
    have f3 : (48 : Int) ≤ (c : Int) := by omega
    have f4 : (c : Int) ≤ (122 : Int) := by omega
    have f5 : (c : Int) ≤ (90 : Int) := by omega
    have f6 : (c : Int) ≤ (57 : Int) := by omega
    have f7 : ¬ (c : Int) = (46 : Int) := by omega
    have f8 : ¬ (c : Int) = (95 : Int) := by omega
    have f9 : ¬ (c : Int) = (45 : Int) := by omega
    go_enter Try.func85, Try.ntmps85
    go_wp2
    go_ret
    have hbb : b = true := by rw [← HB.out]; simp; omega
    first | exact ⟨by rw [hbb]; rfl, rfl⟩ | exact ⟨ret_bool (by rw [hbb]; simp; omega), rfl⟩
  by_cases hhi : c ≤ 64
  · have hlo : 58 ≤ c := by omega
    have f1 : ¬ (97 : Int) ≤ (c : Int) := by omega
    have f2 : ¬ (65 : Int) ≤ (c : Int) := by omega
    have f3 : (48 : Int) ≤ (c : Int) := by omega
    have f4 : (c : Int) ≤ (122 : Int) := by omega
    have f5 : (c : Int) ≤ (90 : Int) := by omega
    have f6 : ¬ (c : Int) ≤ (57 : Int) := by omega
    have f7 : ¬ (c : Int) = (46 : Int) := by omega
    have f8 : ¬ (c : Int) = (95 : Int) := by omega
    have f9 : ¬ (c : Int) = (45 : Int) := by omega
    go_enter Try.func85, Try.ntmps85
    go_wp2
    go_ret
    have hbb : b = false := by rw [← HB.out]; simp; omega
    first | exact ⟨by rw [hbb]; rfl, rfl⟩ | exact ⟨ret_bool (by rw [hbb]; simp; omega), rfl⟩
  by_cases hhi : c ≤ 90
  · have hlo : 65 ≤ c := by omega
    have f1 : ¬ (97 : Int) ≤ (c : Int) := by omega
    have f2 : (65 : Int) ≤ (c : Int) := by omega
    have f3 : (48 : Int) ≤ (c : Int) := by omega
    have f4 : (c : Int) ≤ (122 : Int) := by omega
    have f5 : (c : Int) ≤ (90 : Int) := by omega
    have f6 : ¬ (c : Int) ≤ (57 : Int) := by omega
    have f7 : ¬ (c : Int) = (46 : Int) := by omega
    have f8 : ¬ (c : Int) = (95 : Int) := by omega
    have f9 : ¬ (c : Int) = (45 : Int) := by omega
    go_enter Try.func85, Try.ntmps85
    go_wp2
    go_ret
    have hbb : b = true := by rw [← HB.out]; simp; omega
    first | exact ⟨by rw [hbb]; rfl, rfl⟩ | exact ⟨ret_bool (by rw [hbb]; simp; omega), rfl⟩
  by_cases hhi : c ≤ 94
  · have hlo : 91 ≤ c := by omega
    have f1 : ¬ (97 : Int) ≤ (c : Int) := by omega
    have f2 : (65 : Int) ≤ (c : Int) := by omega
    have f3 : (48 : Int) ≤ (c : Int) := by omega
    have f4 : (c : Int) ≤ (122 : Int) := by omega
    have f5 : ¬ (c : Int) ≤ (90 : Int) := by omega
    have f6 : ¬ (c : Int) ≤ (57 : Int) := by omega
    have f7 : ¬ (c : Int) = (46 : Int) := by omega
    have f8 : ¬ (c : Int) = (95 : Int) := by omega
    have f9 : ¬ (c : Int) = (45 : Int) := by omega
    go_enter Try.func85, Try.ntmps85
    go_wp2
    go_ret
    have hbb : b = false := by rw [← HB.out]; simp; omega
    first | exact ⟨by rw [hbb]; rfl, rfl⟩ | exact ⟨ret_bool (by rw [hbb]; simp; omega), rfl⟩
  by_cases hhi : c ≤ 95
  · have hlo : 95 ≤ c := by omega
    have f1 : ¬ (97 : Int) ≤ (c : Int) := by omega
    have f2 : (65 : Int) ≤ (c : Int) := by omega
    have f3 : (48 : Int) ≤ (c : Int) := by omega
    have f4 : (c : Int) ≤ (122 : Int) := by omega
    have f5 : ¬ (c : Int) ≤ (90 : Int) := by omega
    have f6 : ¬ (c : Int) ≤ (57 : Int) := by omega
    have f7 : ¬ (c : Int) = (46 : Int) := by omega
    have f8 : (c : Int) = (95 : Int) := by omega
    have f9 : ¬ (c : Int) = (45 : Int) := by omega
    go_enter Try.func85, Try.ntmps85
    go_wp2
    go_ret
    have hbb : b = true := by rw [← HB.out]; simp; omega
    first | exact ⟨by rw [hbb]; rfl, rfl⟩ | exact ⟨ret_bool (by rw [hbb]; simp; omega), rfl⟩
  by_cases hhi : c ≤ 96
  · have hlo : 96 ≤ c := by omega
    have f1 : ¬ (97 : Int) ≤ (c : Int) := by omega
    have f2 : (65 : Int) ≤ (c : Int) := by omega
    have f3 : (48 : Int) ≤ (c : Int) := by omega
    have f4 : (c : Int) ≤ (122 : Int) := by omega
    have f5 : ¬ (c : Int) ≤ (90 : Int) := by omega
    have f6 : ¬ (c : Int) ≤ (57 : Int) := by omega
    have f7 : ¬ (c : Int) = (46 : Int) := by omega
    have f8 : ¬ (c : Int) = (95 : Int) := by omega
    have f9 : ¬ (c : Int) = (45 : Int) := by omega
    go_enter Try.func85, Try.ntmps85
    go_wp2
    go_ret
    have hbb : b = false := by rw [← HB.out]; simp; omega
    first | exact ⟨by rw [hbb]; rfl, rfl⟩ | exact ⟨ret_bool (by rw [hbb]; simp; omega), rfl⟩
  by_cases hhi : c ≤ 122
  · have hlo : 97 ≤ c := by omega
    have f1 : (97 : Int) ≤ (c : Int) := by omega
    have f2 : (65 : Int) ≤ (c : Int) := by omega
    have f3 : (48 : Int) ≤ (c : Int) := by omega
    have f4 : (c : Int) ≤ (122 : Int) := by omega
    have f5 : ¬ (c : Int) ≤ (90 : Int) := by omega
    have f6 : ¬ (c : Int) ≤ (57 : Int) := by omega
    have f7 : ¬ (c : Int) = (46 : Int) := by omega
    have f8 : ¬ (c : Int) = (95 : Int) := by omega
    have f9 : ¬ (c : Int) = (45 : Int) := by omega
    go_enter Try.func85, Try.ntmps85
    go_wp2
    go_ret
    have hbb : b = true := by rw [← HB.out]; simp; omega
    first | exact ⟨by rw [hbb]; rfl, rfl⟩ | exact ⟨ret_bool (by rw [hbb]; simp; omega), rfl⟩
  have hlo : 123 ≤ c := by omega
  have f1 : (97 : Int) ≤ (c : Int) := by omega
  have f2 : (65 : Int) ≤ (c : Int) := by omega
  have f3 : (48 : Int) ≤ (c : Int) := by omega
  have f4 : ¬ (c : Int) ≤ (122 : Int) := by omega
  have f5 : ¬ (c : Int) ≤ (90 : Int) := by omega
  have f6 : ¬ (c : Int) ≤ (57 : Int) := by omega
  have f7 : ¬ (c : Int) = (46 : Int) := by omega
  have f8 : ¬ (c : Int) = (95 : Int) := by omega
  have f9 : ¬ (c : Int) = (45 : Int) := by omega
  go_enter Try.func85, Try.ntmps85
  go_wp2
  go_ret
  have hbb : b = false := by rw [← HB.out]; simp; omega
  first | exact ⟨by rw [hbb]; rfl, rfl⟩ | exact ⟨ret_bool (by rw [hbb]; simp; omega), rfl⟩
theorem ofName_any (c : UInt8) (w : World) : Calls Try.prog 85 #[.int .u8 (c.toNat : Int)] w fun e w' => e = .returned (.bool (nameC c)) ∧ w' = w := ofName_in c.toNat (nameC c) w (by have := c.toNat_lt; omega) rfl

theorem take_all (s : ByteArray) (k : Nat) (h : k < s.size) : (s.data.toList.take (k + 1)).all nameC = ((s.data.toList.take k).all nameC && nameC s[k]) := by
  rw [List.take_succ_eq_append_getElem (by simpa using h), List.all_append]; simp; rfl
theorem nm_bad {s : ByteArray} {k : Nat} (hlt : k < s.size) (h : nameC s[k] = false) : nmB s.data.toList = false := by
  have h : ¬ s.data.toList.all nameC = true := fun hh => by
    have := List.all_eq_true.1 hh s[k] (by have : s[k] = s.data.toList[k]'(by simpa using hlt) := rfl; rw [this]; exact List.getElem_mem _)
    rw [h] at this; cases this
  unfold nmB; simp only [Bool.and_eq_false_iff]; exact Or.inl (Or.inl (Or.inl (Bool.eq_false_iff.2 h)))
theorem toList_data (s : ByteArray) : s.toList = s.data.toList := by
  have : s = strOf s.data.toList := by simp [strOf]
  conv => lhs; rw [this]
  exact strOf_toList _
theorem dash_iff (s : ByteArray) : s.data.toList = [45] ↔ s = ⟨#[45]⟩ := by
  constructor
  · intro h
    have : s.data = #[45] := by rw [← Array.toList_inj]; exact h
    cases s; simp only at this; rw [this]
  · intro h; rw [h]
set_option maxRecDepth 100000 in
set_option maxHeartbeats 1600000 in
theorem name_one (s : ByteArray) (w : World) (hs : s.size ≤ maxLen) : Calls Try.prog 69 #[.string s] w fun e w' => e = .returned (.bool (nmB s.data.toList)) ∧ w' = w := by
  unfold maxLen at hs
  have hsz : s.data.toList.length = s.size := by simp
  by_cases h1 : s.size = 0
  · have HN : Hid (nmB s.data.toList = false) := by unfold nmB Hid; rw [hsz]; simp [h1]
    have hb0 : ((s.size : Int) == 0) = true := by simp [h1]
    clear hsz
    go_enter Try.func69, Try.ntmps69
    go_wp2
    go_ret
    exact ⟨ret_bool HN.out.symm, rfl⟩
  have hb0 : ((s.size : Int) == 0) = false := by rw [beq_eq_false_iff_ne]; omega
  by_cases h2 : 32 < s.size
  · have HN : Hid (nmB s.data.toList = false) := by
      have e2 : decide (s.size ≤ 32) = false := by simp; omega
      unfold nmB Hid; rw [hsz, e2]; simp
    have h2i : (32 : Int) < (s.size : Int) := by omega
    clear hsz
    go_enter Try.func69, Try.ntmps69
    go_wp2
    go_ret
    exact ⟨ret_bool HN.out.symm, rfl⟩
  have h2i : ¬ (32 : Int) < (s.size : Int) := by omega
  by_cases hd : s.data.toList = [45]
  · have h45 : (s.toList == [45]) = true := by rw [toList_data, hd]; rfl
    have HN : Hid (nmB s.data.toList = false) := by unfold nmB Hid; rw [hd]; rfl
    clear hsz hd
    go_enter Try.func69, Try.ntmps69
    go_wp2
    go_ret
    exact ⟨ret_bool HN.out.symm, rfl⟩
  have h45 : (s.toList == [45]) = false := by rw [toList_data]; simpa using hd
  have HN : Hid (nmB s.data.toList = s.data.toList.all nameC) := by
    unfold nmB Hid; rw [hsz]
    have e1 : decide (1 ≤ s.size) = true := by simp; omega
    have e2 : decide (s.size ≤ 32) = true := by simp; omega
    have e3 : decide (s.data.toList ≠ [45]) = true := by simpa using hd
    rw [e1, e2, e3]; simp
  clear hsz hd
  go_enter Try.func69, Try.ntmps69
  go_wp2
  go_loop [18] (fun i => ∃ k : Nat, k ≤ s.size ∧ i = .int .i64 k ∧ Hid ((s.data.toList.take k).all nameC = true)) (fun i => s.size - (intOf i).toNat)
  case atStart => exact ⟨0, Nat.zero_le _, rfl, by unfold Hid; simp⟩
  case round =>
    obtain ⟨k, hk, rfl, hall⟩ := hrel
    by_cases hlt : k < s.size
    · have HT : Hid ((s.data.toList.take (k + 1)).all nameC = ((s.data.toList.take k).all nameC && nameC s[k])) := take_all s k hlt
      by_cases hb : nameC s[k] = true
      · have hC := ofName_any s[k] w
        rw [hb] at hC
        have HC := show Hid _ from hC
        have HB : Hid (nameC s[k] = true) := hb
        clear hC hb
        go_wp2_with (go_at_call 85; refine Calls.mono HC.out ?_; rintro e w2 ⟨rfl, hw2⟩; subst hw2)
        go_round
        case rel => exact ⟨k + 1, by omega, by go_num, by
          unfold Hid; rw [HT.out, hall.out, HB.out]; rfl⟩
        case measure => simp [intOf]; omega
      · have hb' : nameC s[k] = false := Bool.eq_false_iff.2 hb
        have hC := ofName_any s[k] w
        rw [hb'] at hC
        have HC := show Hid _ from hC
        have HB : Hid (nmB s.data.toList = false) := nm_bad hlt hb'
        clear hC hb hb'
        go_wp2_with (go_at_call 85; refine Calls.mono HC.out ?_; rintro e w2 ⟨rfl, hw2⟩; subst hw2)
        go_ret
        exact ⟨ret_bool HB.out.symm, rfl⟩
    · have HAL : Hid (s.data.toList.all nameC = true) := by
        have := hall.out
        rw [List.take_of_length_le (by simp; omega)] at this
        exact this
      go_wp2
      go_ret
      exact ⟨ret_bool (by rw [HN.out, HAL.out]), rfl⟩
set_option maxRecDepth 100000 in
set_option maxHeartbeats 6400000 in
theorem refName_one (s : ByteArray) (w : World) (hs : s.size ≤ maxLen) : Calls Try.prog 48 #[.string s] w fun e w' => e = .returned (.bool (nmB s.data.toList)) ∧ w' = w := by
  unfold maxLen at hs
  have hsz : s.data.toList.length = s.size := by simp
  have HSZ : Hid (s.data.toList.length = s.size) := hsz
  clear hsz
  go_enter Try.func48, Try.ntmps48
  go_wp2
  go_loop [3] (fun i => ∃ k : Nat, k ≤ s.size ∧ i = .int .i64 k ∧ Hid ((s.data.toList.take k).all nameC = true)) (fun i => s.size - (intOf i).toNat)
  case atStart => exact ⟨0, Nat.zero_le _, rfl, by unfold Hid; simp⟩
  case round =>
    obtain ⟨k, hk, rfl, hall⟩ := hrel
    by_cases hlt : k < s.size
    · have HT : Hid ((s.data.toList.take (k + 1)).all nameC = ((s.data.toList.take k).all nameC && nameC s[k])) := take_all s k hlt
      have HBAD : Hid (nameC s[k] = false → nmB s.data.toList = false) := fun h => nm_bad hlt h
      have hc := s[k].toNat_lt

      by_cases hhi : s[k].toNat ≤ 44
      · have f1 : (s[k].toNat : Int) < (97 : Int) := by omega
        have f2 : (s[k].toNat : Int) < (65 : Int) := by omega
        have f3 : (s[k].toNat : Int) < (48 : Int) := by omega
        have f4 : ¬ (122 : Int) < (s[k].toNat : Int) := by omega
        have f5 : ¬ (90 : Int) < (s[k].toNat : Int) := by omega
        have f6 : ¬ (57 : Int) < (s[k].toNat : Int) := by omega
        have f7 : ((s[k].toNat : Int) != (46 : Int)) = true := by simp; omega
        have f8 : ((s[k].toNat : Int) != (95 : Int)) = true := by simp; omega
        have f9 : ((s[k].toNat : Int) != (45 : Int)) = true := by simp; omega
        have HB : Hid (nameC s[k] = false) := by unfold nameC Hid; simp; omega
        clear hhi hc
        go_wp2
        go_ret
        exact ⟨ret_bool (HBAD.out HB.out).symm, rfl⟩
      by_cases hhi : s[k].toNat ≤ 45
      · have hlo : 45 ≤ s[k].toNat := by omega
        have f1 : (s[k].toNat : Int) < (97 : Int) := by omega
        have f2 : (s[k].toNat : Int) < (65 : Int) := by omega
        have f3 : (s[k].toNat : Int) < (48 : Int) := by omega
        have f4 : ¬ (122 : Int) < (s[k].toNat : Int) := by omega
        have f5 : ¬ (90 : Int) < (s[k].toNat : Int) := by omega
        have f6 : ¬ (57 : Int) < (s[k].toNat : Int) := by omega
        have f7 : ((s[k].toNat : Int) != (46 : Int)) = true := by simp; omega
        have f8 : ((s[k].toNat : Int) != (95 : Int)) = true := by simp; omega
        have f9 : ((s[k].toNat : Int) != (45 : Int)) = false := by simp; omega
        have HB : Hid (nameC s[k] = true) := by unfold nameC Hid; simp; omega
        clear hlo hhi hc
        go_wp2
        go_round
        case rel => exact ⟨k + 1, by omega, by go_num, by unfold Hid; rw [HT.out, hall.out, HB.out]; rfl⟩
        case measure => simp [intOf]; omega
      by_cases hhi : s[k].toNat ≤ 46
      · have hlo : 46 ≤ s[k].toNat := by omega
        have f1 : (s[k].toNat : Int) < (97 : Int) := by omega
        have f2 : (s[k].toNat : Int) < (65 : Int) := by omega
        have f3 : (s[k].toNat : Int) < (48 : Int) := by omega
        have f4 : ¬ (122 : Int) < (s[k].toNat : Int) := by omega
        have f5 : ¬ (90 : Int) < (s[k].toNat : Int) := by omega
        have f6 : ¬ (57 : Int) < (s[k].toNat : Int) := by omega
        have f7 : ((s[k].toNat : Int) != (46 : Int)) = false := by simp; omega
        have f8 : ((s[k].toNat : Int) != (95 : Int)) = true := by simp; omega
        have f9 : ((s[k].toNat : Int) != (45 : Int)) = true := by simp; omega
        have HB : Hid (nameC s[k] = true) := by unfold nameC Hid; simp; omega
        clear hlo hhi hc
        go_wp2
        go_round
        case rel => exact ⟨k + 1, by omega, by go_num, by unfold Hid; rw [HT.out, hall.out, HB.out]; rfl⟩
        case measure => simp [intOf]; omega
      by_cases hhi : s[k].toNat ≤ 47
      · have hlo : 47 ≤ s[k].toNat := by omega
        have f1 : (s[k].toNat : Int) < (97 : Int) := by omega
        have f2 : (s[k].toNat : Int) < (65 : Int) := by omega
        have f3 : (s[k].toNat : Int) < (48 : Int) := by omega
        have f4 : ¬ (122 : Int) < (s[k].toNat : Int) := by omega
        have f5 : ¬ (90 : Int) < (s[k].toNat : Int) := by omega
        have f6 : ¬ (57 : Int) < (s[k].toNat : Int) := by omega
        have f7 : ((s[k].toNat : Int) != (46 : Int)) = true := by simp; omega
        have f8 : ((s[k].toNat : Int) != (95 : Int)) = true := by simp; omega
        have f9 : ((s[k].toNat : Int) != (45 : Int)) = true := by simp; omega
        have HB : Hid (nameC s[k] = false) := by unfold nameC Hid; simp; omega
        clear hlo hhi hc
        go_wp2
        go_ret
        exact ⟨ret_bool (HBAD.out HB.out).symm, rfl⟩
      by_cases hhi : s[k].toNat ≤ 57
      · have hlo : 48 ≤ s[k].toNat := by omega
        have f1 : (s[k].toNat : Int) < (97 : Int) := by omega
        have f2 : (s[k].toNat : Int) < (65 : Int) := by omega
        have f3 : ¬ (s[k].toNat : Int) < (48 : Int) := by omega
        have f4 : ¬ (122 : Int) < (s[k].toNat : Int) := by omega
        have f5 : ¬ (90 : Int) < (s[k].toNat : Int) := by omega
        have f6 : ¬ (57 : Int) < (s[k].toNat : Int) := by omega
        have f7 : ((s[k].toNat : Int) != (46 : Int)) = true := by simp; omega
        have f8 : ((s[k].toNat : Int) != (95 : Int)) = true := by simp; omega
        have f9 : ((s[k].toNat : Int) != (45 : Int)) = true := by simp; omega
        have HB : Hid (nameC s[k] = true) := by unfold nameC Hid; simp; omega
        clear hlo hhi hc
        go_wp2
        go_round
        case rel => exact ⟨k + 1, by omega, by go_num, by unfold Hid; rw [HT.out, hall.out, HB.out]; rfl⟩
        case measure => simp [intOf]; omega
      by_cases hhi : s[k].toNat ≤ 64
      · have hlo : 58 ≤ s[k].toNat := by omega
        have f1 : (s[k].toNat : Int) < (97 : Int) := by omega
        have f2 : (s[k].toNat : Int) < (65 : Int) := by omega
        have f3 : ¬ (s[k].toNat : Int) < (48 : Int) := by omega
        have f4 : ¬ (122 : Int) < (s[k].toNat : Int) := by omega
        have f5 : ¬ (90 : Int) < (s[k].toNat : Int) := by omega
        have f6 : (57 : Int) < (s[k].toNat : Int) := by omega
        have f7 : ((s[k].toNat : Int) != (46 : Int)) = true := by simp; omega
        have f8 : ((s[k].toNat : Int) != (95 : Int)) = true := by simp; omega
        have f9 : ((s[k].toNat : Int) != (45 : Int)) = true := by simp; omega
        have HB : Hid (nameC s[k] = false) := by unfold nameC Hid; simp; omega
        clear hlo hhi hc
        go_wp2
        go_ret
        exact ⟨ret_bool (HBAD.out HB.out).symm, rfl⟩
      by_cases hhi : s[k].toNat ≤ 90
      · have hlo : 65 ≤ s[k].toNat := by omega
        have f1 : (s[k].toNat : Int) < (97 : Int) := by omega
        have f2 : ¬ (s[k].toNat : Int) < (65 : Int) := by omega
        have f3 : ¬ (s[k].toNat : Int) < (48 : Int) := by omega
        have f4 : ¬ (122 : Int) < (s[k].toNat : Int) := by omega
        have f5 : ¬ (90 : Int) < (s[k].toNat : Int) := by omega
        have f6 : (57 : Int) < (s[k].toNat : Int) := by omega
        have f7 : ((s[k].toNat : Int) != (46 : Int)) = true := by simp; omega
        have f8 : ((s[k].toNat : Int) != (95 : Int)) = true := by simp; omega
        have f9 : ((s[k].toNat : Int) != (45 : Int)) = true := by simp; omega
        have HB : Hid (nameC s[k] = true) := by unfold nameC Hid; simp; omega
        clear hlo hhi hc
        go_wp2
        go_round
        case rel => exact ⟨k + 1, by omega, by go_num, by unfold Hid; rw [HT.out, hall.out, HB.out]; rfl⟩
        case measure => simp [intOf]; omega
      by_cases hhi : s[k].toNat ≤ 94
      · have hlo : 91 ≤ s[k].toNat := by omega
        have f1 : (s[k].toNat : Int) < (97 : Int) := by omega
        have f2 : ¬ (s[k].toNat : Int) < (65 : Int) := by omega
        have f3 : ¬ (s[k].toNat : Int) < (48 : Int) := by omega
        have f4 : ¬ (122 : Int) < (s[k].toNat : Int) := by omega
        have f5 : (90 : Int) < (s[k].toNat : Int) := by omega
        have f6 : (57 : Int) < (s[k].toNat : Int) := by omega
        have f7 : ((s[k].toNat : Int) != (46 : Int)) = true := by simp; omega
        have f8 : ((s[k].toNat : Int) != (95 : Int)) = true := by simp; omega
        have f9 : ((s[k].toNat : Int) != (45 : Int)) = true := by simp; omega
        have HB : Hid (nameC s[k] = false) := by unfold nameC Hid; simp; omega
        clear hlo hhi hc
        go_wp2
        go_ret
        exact ⟨ret_bool (HBAD.out HB.out).symm, rfl⟩
      by_cases hhi : s[k].toNat ≤ 95
      · have hlo : 95 ≤ s[k].toNat := by omega
        have f1 : (s[k].toNat : Int) < (97 : Int) := by omega
        have f2 : ¬ (s[k].toNat : Int) < (65 : Int) := by omega
        have f3 : ¬ (s[k].toNat : Int) < (48 : Int) := by omega
        have f4 : ¬ (122 : Int) < (s[k].toNat : Int) := by omega
        have f5 : (90 : Int) < (s[k].toNat : Int) := by omega
        have f6 : (57 : Int) < (s[k].toNat : Int) := by omega
        have f7 : ((s[k].toNat : Int) != (46 : Int)) = true := by simp; omega
        have f8 : ((s[k].toNat : Int) != (95 : Int)) = false := by simp; omega
        have f9 : ((s[k].toNat : Int) != (45 : Int)) = true := by simp; omega
        have HB : Hid (nameC s[k] = true) := by unfold nameC Hid; simp; omega
        clear hlo hhi hc
        go_wp2
        go_round
        case rel => exact ⟨k + 1, by omega, by go_num, by unfold Hid; rw [HT.out, hall.out, HB.out]; rfl⟩
        case measure => simp [intOf]; omega
      by_cases hhi : s[k].toNat ≤ 96
      · have hlo : 96 ≤ s[k].toNat := by omega
        have f1 : (s[k].toNat : Int) < (97 : Int) := by omega
        have f2 : ¬ (s[k].toNat : Int) < (65 : Int) := by omega
        have f3 : ¬ (s[k].toNat : Int) < (48 : Int) := by omega
        have f4 : ¬ (122 : Int) < (s[k].toNat : Int) := by omega
        have f5 : (90 : Int) < (s[k].toNat : Int) := by omega
        have f6 : (57 : Int) < (s[k].toNat : Int) := by omega
        have f7 : ((s[k].toNat : Int) != (46 : Int)) = true := by simp; omega
        have f8 : ((s[k].toNat : Int) != (95 : Int)) = true := by simp; omega
        have f9 : ((s[k].toNat : Int) != (45 : Int)) = true := by simp; omega
        have HB : Hid (nameC s[k] = false) := by unfold nameC Hid; simp; omega
        clear hlo hhi hc
        go_wp2
        go_ret
        exact ⟨ret_bool (HBAD.out HB.out).symm, rfl⟩
      by_cases hhi : s[k].toNat ≤ 122
      · have hlo : 97 ≤ s[k].toNat := by omega
        have f1 : ¬ (s[k].toNat : Int) < (97 : Int) := by omega
        have f2 : ¬ (s[k].toNat : Int) < (65 : Int) := by omega
        have f3 : ¬ (s[k].toNat : Int) < (48 : Int) := by omega
        have f4 : ¬ (122 : Int) < (s[k].toNat : Int) := by omega
        have f5 : (90 : Int) < (s[k].toNat : Int) := by omega
        have f6 : (57 : Int) < (s[k].toNat : Int) := by omega
        have f7 : ((s[k].toNat : Int) != (46 : Int)) = true := by simp; omega
        have f8 : ((s[k].toNat : Int) != (95 : Int)) = true := by simp; omega
        have f9 : ((s[k].toNat : Int) != (45 : Int)) = true := by simp; omega
        have HB : Hid (nameC s[k] = true) := by unfold nameC Hid; simp; omega
        clear hlo hhi hc
        go_wp2
        go_round
        case rel => exact ⟨k + 1, by omega, by go_num, by unfold Hid; rw [HT.out, hall.out, HB.out]; rfl⟩
        case measure => simp [intOf]; omega
      have hlo : 123 ≤ s[k].toNat := by omega
      have f1 : ¬ (s[k].toNat : Int) < (97 : Int) := by omega
      have f2 : ¬ (s[k].toNat : Int) < (65 : Int) := by omega
      have f3 : ¬ (s[k].toNat : Int) < (48 : Int) := by omega
      have f4 : (122 : Int) < (s[k].toNat : Int) := by omega
      have f5 : (90 : Int) < (s[k].toNat : Int) := by omega
      have f6 : (57 : Int) < (s[k].toNat : Int) := by omega
      have f7 : ((s[k].toNat : Int) != (46 : Int)) = true := by simp; omega
      have f8 : ((s[k].toNat : Int) != (95 : Int)) = true := by simp; omega
      have f9 : ((s[k].toNat : Int) != (45 : Int)) = true := by simp; omega
      have HB : Hid (nameC s[k] = false) := by unfold nameC Hid; simp; omega
      clear hlo hc
      go_wp2
      go_ret
      exact ⟨ret_bool (HBAD.out HB.out).symm, rfl⟩
    · have HAL : Hid (s.data.toList.all nameC = true) := by
        have := hall.out
        rw [List.take_of_length_le (by simp; omega)] at this
        exact this
      have HN : Hid (nmB s.data.toList = (decide (1 ≤ s.size) && decide (s.size ≤ 32) && !(s.toList == [45]))) := by
        unfold nmB Hid; rw [HAL.out, HSZ.out, toList_data]
        by_cases e : s.data.toList = [45] <;> simp [e]
      by_cases h1 : 1 ≤ s.size
      · by_cases h2 : s.size ≤ 32
        · by_cases h45 : (s.toList == [45]) = true
          · have f1 : (1 : Int) ≤ (s.size : Int) := by omega
            have f2 : (s.size : Int) ≤ 32 := by omega
            have f3 : (s.toList != [45]) = false := by simpa [bne] using h45
            go_wp2
            go_ret
            exact ⟨ret_bool (by rw [HN.out, h45]; simp [h1, h2]), rfl⟩
          · have h45' : (s.toList == [45]) = false := Bool.eq_false_iff.2 h45
            have f1 : (1 : Int) ≤ (s.size : Int) := by omega
            have f2 : (s.size : Int) ≤ 32 := by omega
            have f3 : (s.toList != [45]) = true := by simp [bne, h45']
            go_wp2
            go_ret
            exact ⟨ret_bool (by rw [HN.out, h45']; simp [h1, h2]), rfl⟩
        · have f1 : (1 : Int) ≤ (s.size : Int) := by omega
          have f2 : ¬ (s.size : Int) ≤ 32 := by omega
          go_wp2
          go_ret
          exact ⟨ret_bool (by rw [HN.out]; simp [h1, h2]), rfl⟩
      · have f1 : ¬ (1 : Int) ≤ (s.size : Int) := by omega
        go_wp2
        go_ret
        exact ⟨ret_bool (by rw [HN.out]; simp [h1]), rfl⟩

end Go.Proofs.Ytcmcapcagblafaa
