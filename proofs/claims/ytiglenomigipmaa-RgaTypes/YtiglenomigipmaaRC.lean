/-
  sort.Search (48) over the places below a cell, and slices.Clone of a row of places (40).
-/
import Derived.Test.YtiglenomigipmaaRB
namespace Go.Proofs.Ytiglenomigipmaa
open Go.RowKit
set_option maxRecDepth 100000 in
set_option maxHeartbeats 1600000 in
theorem search_any {n : Nat} (hn : n ≤ 1000000) {p : Nat → Bool} {c0 c1 c2 : Value} {w : World}
    (hf : ∀ W i, After w W → i < n → Calls Try.prog 49 #[pv i, c0, c1, c2] W fun e w' => e = .returned (.bool (p i)) ∧ After W w') (hmono : ∀ a b, a ≤ b → b < n → p a = true → p b = true) :
    Calls Try.prog 48 #[pv n, .func (.func 49) #[] #[c0, c1, c2]] w fun e w' => ∃ k : Nat, e = .returned (pv k) ∧ k ≤ n ∧ (∀ j, j < k → p j = false) ∧ (∀ j, k ≤ j → j < n → p j = true) ∧ After w w' := by
  have HF : Hid (∀ W i, After w W → i < n → Calls Try.prog 49 #[pv i, c0, c1, c2] W fun e w' => e = .returned (.bool (p i)) ∧ After W w') := hf
  have HM : Hid (∀ a b, a ≤ b → b < n → p a = true → p b = true) := hmono
  clear hf hmono
  go_enter Try.func48, Try.ntmps48
  go_wp2_with fail
  go_loopw [5, 6] (fun vi vj wr => ∃ i j : Nat, vi = .int .i64 (i : Int) ∧ vj = .int .i64 (j : Int) ∧ i ≤ j ∧ j ≤ n ∧ Hid ((∀ k, k < i → p k = false) ∧ (∀ k, j ≤ k → k < n → p k = true) ∧ After w wr)) (fun vi vj _ => (intOf vj).toNat - (intOf vi).toNat)
  case atStart => exact ⟨0, n, rfl, rfl, Nat.zero_le _, Nat.le_refl _, fun k hk => absurd hk (Nat.not_lt_zero _), fun k h1 h2 => absurd h1 (by omega), After.refl w⟩
  case round =>
    obtain ⟨i, j, rfl, rfl, hij, hjn, HI⟩ := hrel
    by_cases hlt : i < j
    · have hii : (i : Int) < (j : Int) := by omega
      obtain ⟨m, hm⟩ : ∃ m : Nat, (i + j) / 2 = m := ⟨_, rfl⟩
      have hmi : ((i : Int) + (j : Int)) / 2 = (m : Int) := by omega
      have HB : Hid (i ≤ m ∧ m < j ∧ m < n) := ⟨by omega, by omega, by omega⟩
      clear hm
      cases hq : p m with
      | false =>
        have HC : Hid (Calls Try.prog 49 #[.int .i64 (m : Int), c0, c1, c2] wr fun e w' => e = .returned (.bool false) ∧ After wr w') := by
          have := HF.out wr m HI.out.2.2 HB.out.2.2
          rw [hq] at this; exact this
        have HQ : Hid (p m = false) := hq
        clear hq
        go_wp2_with (go_at_call 49; refine Calls.mono HC.out ?_; rintro e w1 ⟨rfl, h1⟩; have H1 := show Hid (After wr w1) from h1; clear h1)
        go_roundw
        case rel => exact ⟨m + 1, j, by go_num, rfl, by have := HB.out; omega, hjn, fun k hk => by
          rcases Nat.lt_or_ge k i with h | h
          · exact HI.out.1 k h
          · cases hpk : p k with
            | false => rfl
            | true => exact absurd (HM.out k m (by omega) HB.out.2.2 hpk) (by rw [HQ.out]; simp), HI.out.2.1, HI.out.2.2.trans H1.out⟩
        case measure => have := HB.out; simp [intOf]; omega
      | true =>
        have HC : Hid (Calls Try.prog 49 #[.int .i64 (m : Int), c0, c1, c2] wr fun e w' => e = .returned (.bool true) ∧ After wr w') := by
          have := HF.out wr m HI.out.2.2 HB.out.2.2
          rw [hq] at this; exact this
        have HQ : Hid (p m = true) := hq
        clear hq
        go_wp2_with (go_at_call 49; refine Calls.mono HC.out ?_; rintro e w1 ⟨rfl, h1⟩; have H1 := show Hid (After wr w1) from h1; clear h1)
        go_roundw
        case rel => exact ⟨i, m, rfl, rfl, HB.out.1, by have := HB.out; omega, HI.out.1, fun k h1 h2 => HM.out m k h1 h2 HQ.out, HI.out.2.2.trans H1.out⟩
        case measure => have := HB.out; simp [intOf]; omega
    · have hii : ¬ (i : Int) < (j : Int) := by omega
      go_wp2_with fail
      go_ret
      exact ⟨i, rfl, by omega, HI.out.1, fun k h1 h2 => HI.out.2.1 k (by omega) h2, HI.out.2.2⟩
end Go.Proofs.Ytiglenomigipmaa
