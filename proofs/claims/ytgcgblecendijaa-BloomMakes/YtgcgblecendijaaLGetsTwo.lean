/-
  THE WALKS OF leb.GetInt AND leb.GetText.
-/
import Derived.Test.YtgcgblecendijaaLGets
namespace Go.Proofs.Ytgcgblecendijaa.LB
open Go.RowKit Leb
theorem sval_val : ∀ (l : List UInt8) (k : Nat), l.length = k + 1 → sval l = (val l : Int) - if 64 ≤ (l.getD k 0).toNat % 128 then 128 ^ (k + 1) else 0
  | [b], 0, _ => by simp only [sval, val, List.getD_cons_zero]; split <;> omega
  | b :: c :: l, k + 1, h => by
    have ih := sval_val (c :: l) k (by simpa using h)
    rw [sval_cons b (c :: l) (by simp), ih]
    simp only [val, List.getD_cons_succ]
    split
    · rw [Int.pow_succ 128 (k + 1)]; omega
    · omega
  | [b], k + 1, h => by simp at h
  | b :: c :: l, 0, h => by simp at h
theorem or_fill (k a : Nat) (h : k < 11) (ha : a < 128 ^ k) :
    bits .or .u64 ((a % 18446744073709551616 : Nat) : Int) (IntKind.u64.wrap (18446744073709551615 * 2 ^ (7 * k))) = (((a + 18446744073709551615 * 128 ^ k) % 18446744073709551616 : Nat) : Int) := by
  rcases Nat.lt_or_ge k 10 with h10 | h10
  · have := or_shift k a 18446744073709551615 h10 ha
    exact this
  · obtain rfl : k = 10 := by omega
    have e : IntKind.u64.wrap (18446744073709551615 * 2 ^ (7 * 10)) = ((0 : Nat) : Int) := by decide +kernel
    rw [e, bits_or_u64_nat _ _ (by omega) (by omega), Nat.or_zero]
    omega
theorem wrap_i64 (n : Nat) : IntKind.i64.wrap (n : Int) = Leb.wrap64 (n : Int) := by
  simp [IntKind.wrap, IntKind.bits, IntKind.signed, Leb.wrap64]; split <;> omega
theorem and64b (b : UInt8) : bits .and .u8 (b.toNat : Int) 64 = if 64 ≤ b.toNat % 128 then 64 else 0 := by
  have all : ∀ j : Fin 256, bits .and .u8 (j.val : Int) 64 = if 64 ≤ j.val % 128 then 64 else 0 := by decide +kernel
  exact all ⟨b.toNat, b.toNat_lt⟩
theorem giE_0 {bs : List UInt8} (h0 : (grp 10 bs).1 = 0) {k : Nat} (hk : (grp 10 bs).2 = k) {m : Int} (hm : giN bs = m) (hu : bs.take k = intB m) : giE bs = 0 ∧ giK bs = k ∧ giV bs = m := by
  have e1 : giE bs = 0 := by unfold giE; rw [if_pos h0, hm, hk, if_pos hu.symm]
  exact ⟨e1, by unfold giK; rw [if_pos e1, hk], by unfold giV; rw [if_pos e1, hm]⟩
theorem giE_4 {bs : List UInt8} (h0 : (grp 10 bs).1 = 0) {k : Nat} (hk : (grp 10 bs).2 = k) {m : Int} (hm : giN bs = m) (hu : ¬ bs.take k = intB m) : giE bs = 4 ∧ giK bs = 0 ∧ giV bs = 0 := by
  have e1 : giE bs = 4 := by unfold giE; rw [if_pos h0, hm, hk, if_neg (fun h => hu h.symm)]
  exact ⟨e1, by unfold giK; rw [e1]; rfl, by unfold giV; rw [e1]; rfl⟩
theorem giE_q {bs : List UInt8} (h0 : ¬ (grp 10 bs).1 = 0) {q : Nat} (hq : (grp 10 bs).1 = q) : giE bs = q ∧ giK bs = 0 ∧ giV bs = 0 := by
  have e1 : giE bs = q := by unfold giE; rw [if_neg h0, hq]
  have hq0 : ¬ q = 0 := hq ▸ h0
  exact ⟨e1, by unfold giK; rw [if_neg (by rw [e1]; exact hq0)], by unfold giV; rw [if_neg (by rw [e1]; exact hq0)]⟩
theorem sval_take (bs : List UInt8) (k : Nat) (hk : k < bs.length) : sval (bs.take (k + 1)) = (val (bs.take (k + 1)) : Int) - if 64 ≤ (bs.getD k 0).toNat % 128 then 128 ^ (k + 1) else 0 := by
  have := sval_val (bs.take (k + 1)) k (by simp; omega)
  rw [this]
  have e : (bs.take (k + 1)).getD k 0 = bs.getD k 0 := by simp [List.getD_eq_getElem?_getD]
  rw [e]
/-- Both ways of filling: what is read as a number below 0 or not. -/
theorem fill_pos (bs : List UInt8) (k : Nat) (hk : k < bs.length) (h0 : (grp 10 bs).2 = k + 1) (hs : ¬ 64 ≤ (bs.getD k 0).toNat % 128) : IntKind.i64.wrap ((guN bs : Nat) : Int) = giN bs := by
  rw [wrap_i64 _]
  unfold giN guN
  rw [h0, sval_take bs k hk, if_neg hs]
  unfold Leb.wrap64; omega
theorem fill_neg (bs : List UInt8) (k : Nat) (hk : k < bs.length) (h10 : k < 10) (h0 : (grp 10 bs).2 = k + 1) (hs : 64 ≤ (bs.getD k 0).toNat % 128) :
    ∃ n : Nat, n < 18446744073709551616 ∧ bits .or .u64 ((guN bs : Nat) : Int) (IntKind.u64.wrap (18446744073709551615 * 2 ^ (7 * (k + 1)))) = (n : Int) ∧ IntKind.i64.wrap (n : Int) = giN bs := by
  have hv : val (bs.take (k + 1)) < 128 ^ (k + 1) := by have := val_lt (bs.take (k + 1)); rwa [List.length_take, Nat.min_eq_left (by omega)] at this
  refine ⟨(val (bs.take (k + 1)) + 18446744073709551615 * 128 ^ (k + 1)) % 18446744073709551616, Nat.mod_lt _ (by omega), ?_, ?_⟩
  · unfold guN; rw [h0]; exact or_fill (k + 1) _ (by omega) hv
  · rw [wrap_i64 _]
    unfold giN
    rw [h0, sval_take bs k hk, if_pos hs]
    have e : (128 : Int) ^ (k + 1) = ((128 ^ (k + 1) : Nat) : Int) := by simp
    rw [e]
    unfold Leb.wrap64
    omega
theorem shift_fill (k : Nat) (s : Int) (hs : IntKind.u64.wrap (18446744073709551615 * 2 ^ (7 * (k + 1))) = s) (hk : k < 10) (W : World) : (Op.shift .shl .u64 18446744073709551615 .i64 (7 * ((k : Int) + 1))).run Try.prog W = .ok (.int .u64 s) W := by
  have h0 : ¬ (7 * ((k : Int) + 1)) < 0 := by omega
  have e : (7 * ((k : Int) + 1)).toNat = 7 * (k + 1) := by omega
  unfold Op.shift
  rw [if_neg h0, e]
  rcases Nat.lt_or_ge k 9 with h | h
  · rw [show min (7 * (k + 1)) IntKind.u64.bits = 7 * (k + 1) from Nat.min_eq_left (by simp [IntKind.bits]; omega), ← hs]
    rfl
  · obtain rfl : k = 9 := by omega
    rw [← hs]
    have e2 : IntKind.u64.wrap (18446744073709551615 * 2 ^ (min (7 * (9 + 1)) IntKind.u64.bits)) = IntKind.u64.wrap (18446744073709551615 * 2 ^ (7 * (9 + 1))) := by decide +kernel
    show Result.ok _ _ = _
    rw [e2]
end Go.Proofs.Ytgcgblecendijaa.LB
