/-
  A FRAME OF WHICH ONE BYTE WAS CHANGED IS NONE.
-/
import Derived.Test.YtjmjianilcdphaaBackLaw
namespace Leb
theorem xor_cancel {a b p : BitVec 32} (h : a ^^^ p = b ^^^ p) : a = b := by
  have := congrArg (· ^^^ p) h
  simpa [BitVec.xor_assoc] using this
theorem half_lt (a : BitVec 32) : (a >>> 1).toNat < 2147483648 := by
  have := a.isLt
  simp [BitVec.toNat_ushiftRight, Nat.shiftRight_eq_div_pow]
  omega
theorem poly_not (a b : BitVec 32) : (a >>> 1) ^^^ poly ≠ b >>> 1 := by
  intro h
  have h1 : poly = (a >>> 1) ^^^ (b >>> 1) := by
    rw [← h, ← BitVec.xor_assoc, BitVec.xor_self, BitVec.zero_xor]
  have h2 := congrArg BitVec.toNat h1
  rw [BitVec.toNat_xor] at h2
  have h3 := Nat.xor_lt_two_pow (n := 31) (half_lt a) (half_lt b)
  have h4 : poly.toNat = 3988292384 := by decide
  omega
theorem half_eq {a b : BitVec 32} (h : a >>> 1 = b >>> 1) (hp : a.toNat % 2 = b.toNat % 2) : a = b := by
  have := congrArg BitVec.toNat h
  simp [BitVec.toNat_ushiftRight, Nat.shiftRight_eq_div_pow] at this
  exact BitVec.eq_of_toNat_eq (by omega)
theorem cstep_inj {a b : BitVec 32} (h : cstep a = cstep b) : a = b := by
  by_cases ha : a.toNat % 2 = 1
  · by_cases hb : b.toNat % 2 = 1
    · rw [cstep_odd a ha, cstep_odd b hb] at h
      exact half_eq (xor_cancel h) (by omega)
    · rw [cstep_odd a ha, cstep_even b hb] at h
      exact absurd h (poly_not a b)
  · by_cases hb : b.toNat % 2 = 1
    · rw [cstep_even a ha, cstep_odd b hb] at h
      exact absurd h.symm (poly_not b a)
    · rw [cstep_even a ha, cstep_even b hb] at h
      exact half_eq h (by omega)
theorem cn_inj : ∀ (n : Nat) {a b : BitVec 32}, cn n a = cn n b → a = b
  | 0, _, _, h => h
  | n + 1, _, _, h => cn_inj n (cstep_inj h)
theorem bv_inj {a b : UInt8} (h : bv a = bv b) : a = b := by
  have := congrArg BitVec.toNat h
  unfold bv at this
  have h1 := a.toNat_lt
  have h2 := b.toNat_lt
  simp only [BitVec.toNat_ofNat] at this
  exact UInt8.toNat_inj.1 (by omega)
theorem cbyte_inj {a b : BitVec 32} {x : UInt8} (h : cbyte a x = cbyte b x) : a = b := xor_cancel (cn_inj 8 h)
theorem cbyte_other {a : BitVec 32} {x y : UInt8} (h : cbyte a x = cbyte a y) : x = y := by
  have := cn_inj 8 h
  rw [BitVec.xor_comm a, BitVec.xor_comm a] at this
  exact bv_inj (xor_cancel this)
theorem fold_inj : ∀ (l : List UInt8) {a b : BitVec 32}, l.foldl cbyte a = l.foldl cbyte b → a = b
  | [], _, _, h => h
  | _ :: l, _, _, h => cbyte_inj (fold_inj l h)
theorem fold_set : ∀ (l : List UInt8) (i : Nat) (v : UInt8) (s : BitVec 32), i < l.length → (l.set i v).foldl cbyte s = l.foldl cbyte s → l.getD i 0 = v
  | [], _, _, _, h, _ => by simp at h
  | x :: l, 0, v, s, _, h => by
    simp only [List.set_cons_zero, List.foldl_cons] at h
    have := cbyte_other (fold_inj l h)
    simpa using this.symm
  | x :: l, i + 1, v, s, hi, h => by
    simp only [List.set_cons_succ, List.foldl_cons] at h
    simpa using fold_set l i v _ (by simpa using hi) h
theorem crc_set (l : List UInt8) (i : Nat) (v : UInt8) (hi : i < l.length) (hv : l.getD i 0 ≠ v) : crc (l.set i v) ≠ crc l := by
  intro h
  unfold crc at h
  have h1 : cst (l.set i v) = cst l := by
    have := congrArg (~~~ ·) h
    simpa using this
  exact hv (fold_set l i v _ hi h1)
theorem le4_inj {a b : BitVec 32} (h : le4 a = le4 b) : a = b := by
  have h1 := a.isLt
  have h2 := b.isLt
  unfold le4 at h
  simp only [List.cons.injEq, and_true] at h
  obtain ⟨g0, g1, g2, g3⟩ := h
  have f : ∀ x y : Nat, UInt8.ofNat (x % 256) = UInt8.ofNat (y % 256) → x % 256 = y % 256 := fun x y h => by
    have := congrArg UInt8.toNat h
    simpa [UInt8.toNat_ofNat'] using this
  have e0 := f _ _ g0
  have e1 := f _ _ g1
  have e2 := f _ _ g2
  have e3 := f _ _ g3
  exact BitVec.eq_of_toNat_eq (by omega)
end Leb
namespace Go.Proofs.Ytjmjianilcdphaa
open Go.RowKit Leb
/-- What Open tells of a changed frame. -/
theorem opE_turned (k : UInt8) (b : List UInt8) (at' : Nat) (v : UInt8) (hk : k ≠ 0) (hl : b.length ≤ 1048576) (hat : at' = 0 ∨ 1 + (uintB b.length).length ≤ at') (hlt : at' < (frameB k b).length) (hv : (frameB k b).getD at' 0 ≠ v) :
    opE ((frameB k b).set at' v) = if at' = 0 ∧ v = 0 then 4 else 6 := by
  have hfl := frameB_len k b
  have hhl := headB_len k b
  have e : frameB k b = headB k b ++ le4 (crc (headB k b)) := rfl
  by_cases h00 : at' = 0 ∧ v = 0
  · rw [if_pos h00]
    obtain ⟨rfl, rfl⟩ := h00
    have : (frameB k b).set 0 0 = 0 :: (uintB b.length ++ b ++ le4 (crc (headB k b))) := by rw [e]; unfold headB; simp
    rw [this]
    exact opE_zero _
  · rw [if_neg h00]
    have hne : (frameB k b).set at' v ≠ [] := by intro h; have := congrArg List.length h; rw [List.length_set, List.length_nil] at this; omega
    have hkd : ((frameB k b).set at' v).getD 0 0 ≠ 0 := by
      rcases hat with h | h
      · subst h
        have h2 : v ≠ 0 := fun hv0 => h00 ⟨rfl, hv0⟩
        have : (frameB k b).set 0 v = v :: (uintB b.length ++ b ++ le4 (crc (headB k b))) := by rw [e]; unfold headB; simp
        rw [this]
        simpa using h2
      · obtain ⟨m, rfl⟩ : ∃ m, at' = m + 1 := ⟨at' - 1, by omega⟩
        have : (frameB k b).set (m + 1) v = k :: (uintB b.length ++ b ++ le4 (crc (headB k b))).set m v := by rw [e]; unfold headB; simp
        rw [this]
        simpa using hk
    have hd : ∃ t, ((frameB k b).set at' v).drop 1 = uintB b.length ++ t := by
      rcases hat with h | h
      · subst h
        refine ⟨b ++ le4 (crc (headB k b)), ?_⟩
        rw [e]; unfold headB; simp
      · obtain ⟨m, rfl⟩ : ∃ m, at' = m + 1 := ⟨at' - 1, by omega⟩
        refine ⟨(b ++ le4 (crc (headB k b))).set (m - (uintB b.length).length) v, ?_⟩
        have : (frameB k b).set (m + 1) v = k :: (uintB b.length ++ (b ++ le4 (crc (headB k b)))).set m v := by rw [e]; unfold headB; simp
        rw [this, List.drop_succ_cons, List.drop_zero, List.set_append_right _ _ (by omega)]
    obtain ⟨t, hd⟩ := hd
    have hg := gu_back b.length t (by omega)
    rw [← hd] at hg
    have h1 : opV ((frameB k b).set at' v) = b.length := hg.2.2
    have h2 : opK ((frameB k b).set at' v) = (uintB b.length).length := hg.2.1
    have h3 : opEnd ((frameB k b).set at' v) = (headB k b).length := by unfold opEnd; rw [h1, h2, hhl]
    have hsum : ¬ le4 (crc (((frameB k b).set at' v).take (headB k b).length)) = (((frameB k b).set at' v).drop (headB k b).length).take 4 := by
      by_cases hin : at' < (headB k b).length
      · have e1 : (frameB k b).set at' v = (headB k b).set at' v ++ le4 (crc (headB k b)) := by rw [e, List.set_append_left _ _ hin]
        have e2 : (headB k b).getD at' 0 ≠ v := by
          intro h
          apply hv
          rw [e, List.getD_eq_getElem?_getD, List.getElem?_append_left hin, ← List.getD_eq_getElem?_getD]
          exact h
        rw [e1, List.take_left' (by rw [List.length_set]), List.drop_left' (by rw [List.length_set]), List.take_of_length_le (by rw [le4_len]; omega)]
        exact fun h => crc_set _ _ _ hin e2 (le4_inj h)
      · have e1 : (frameB k b).set at' v = headB k b ++ (le4 (crc (headB k b))).set (at' - (headB k b).length) v := by rw [e, List.set_append_right _ _ (by omega)]
        rw [e1, List.take_left, List.drop_left, List.take_of_length_le (by rw [List.length_set, le4_len]; omega)]
        intro h
        apply hv
        have hi : at' - (headB k b).length < (le4 (crc (headB k b))).length := by rw [le4_len]; omega
        have := congrArg (fun l => l.getD (at' - (headB k b).length) 0) h
        simp only [List.getD_eq_getElem?_getD, List.getElem?_set_self hi, Option.getD_some] at this
        rw [e, List.getD_eq_getElem?_getD, List.getElem?_append_right (by omega)]
        exact this
    unfold opE
    rw [if_neg hne, if_neg hkd, if_neg (fun h => h hg.1), if_neg (by rw [h1]; omega), if_neg (by rw [h3, List.length_set, hfl, hhl]; omega), if_pos (by rw [h3]; exact hsum)]
/-- What Scan tells of frames with a changed one behind them. -/
theorem scan_turned (ps : List (UInt8 × List UInt8)) (hps : ∀ p ∈ ps, p.2.length ≤ 1048576) (k : UInt8) (b : List UInt8) (at' : Nat) (v : UInt8) (hk : k ≠ 0) (hl : b.length ≤ 1048576) (hat : at' = 0 ∨ 1 + (uintB b.length).length ≤ at') (hlt : at' < (frameB k b).length) (hv : (frameB k b).getD at' 0 ≠ v) :
    scan (laidB ps ++ (frameB k b).set at' v) = (norm ps, (laidB ps).length, if at' = 0 ∧ v = 0 then 4 else 6) := by
  have ho := opE_turned k b at' v hk hl hat hlt hv
  have h22 : opE ((frameB k b).set at' v) ≠ 22 := by rw [ho]; split <;> omega
  have h0 : opE ((frameB k b).set at' v) ≠ 0 := by rw [ho]; split <;> omega
  have hb := scan_bad _ h22 h0
  rw [ho] at hb
  have := scan_laid ps ((frameB k b).set at' v) hps
  rw [hb] at this
  simpa using this
end Go.Proofs.Ytjmjianilcdphaa
