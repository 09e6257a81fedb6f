/-
  LEB128, IN PLAIN MATHEMATICS: a number's groups, a text's bytes, what is taken off bytes.
-/
import Derived.Test.YtcmcapcagblafaaBase
namespace Leb
/-- A number's groups. -/
def uintB (n : Nat) : List UInt8 := if n < 128 then [UInt8.ofNat n] else UInt8.ofNat (n % 128 + 128) :: uintB (n / 128)
termination_by n
decreasing_by omega
def textB (s : List UInt8) : List UInt8 := uintB s.length ++ s
def val : List UInt8 → Nat
  | [] => 0
  | b :: bs => b.toNat % 128 + 128 * val bs
/-- The error, and how many groups. -/
def grp : Nat → List UInt8 → Nat × Nat
  | 0, _ => (4, 0)
  | _ + 1, [] => (3, 0)
  | f + 1, b :: bs => if b.toNat < 128 then (0, 1) else if (grp f bs).1 = 0 then (0, (grp f bs).2 + 1) else ((grp f bs).1, 0)
theorem grp_ok : ∀ (f : Nat) (bs : List UInt8) (i : Nat), i < f → i < bs.length → (∀ j, j < i → 128 ≤ (bs.getD j 0).toNat) → (bs.getD i 0).toNat < 128 → grp f bs = (0, i + 1)
  | 0, _, _, h, _, _, _ => by omega
  | _ + 1, [], _, _, h, _, _ => by simp at h
  | f + 1, b :: bs, 0, _, _, _, h => by simp at h; simp [grp, h]
  | f + 1, b :: bs, i + 1, h0, h1, h2, h3 => by
    have hb := h2 0 (by omega)
    simp at hb
    have ih := grp_ok f bs i (by omega) (by simpa using h1) (fun j hj => by simpa using h2 (j + 1) (by omega)) (by simpa using h3)
    simp [grp, ih]; omega
theorem grp_cut : ∀ (f : Nat) (bs : List UInt8), bs.length < f → (∀ j, j < bs.length → 128 ≤ (bs.getD j 0).toNat) → grp f bs = (3, 0)
  | 0, _, h, _ => by omega
  | _ + 1, [], _, _ => rfl
  | f + 1, b :: bs, h, h2 => by
    have hb := h2 0 (by simp)
    simp at hb
    have ih := grp_cut f bs (by simpa using h) (fun j hj => by simpa using h2 (j + 1) (by simpa using hj))
    simp [grp, ih]; omega
theorem grp_form : ∀ (f : Nat) (bs : List UInt8), f ≤ bs.length → (∀ j, j < f → 128 ≤ (bs.getD j 0).toNat) → grp f bs = (4, 0)
  | 0, _, _, _ => rfl
  | _ + 1, [], h, _ => by simp at h
  | f + 1, b :: bs, h, h2 => by
    have hb := h2 0 (by omega)
    simp at hb
    have ih := grp_form f bs (by simpa using h) (fun j hj => by simpa using h2 (j + 1) (by omega))
    simp [grp, ih]; omega
theorem grp_le : ∀ (f : Nat) (bs : List UInt8), (grp f bs).1 = 0 → (grp f bs).2 ≤ bs.length ∧ (grp f bs).2 ≤ f ∧ 0 < (grp f bs).2
  | 0, _, h => by simp [grp] at h
  | _ + 1, [], h => by simp [grp] at h
  | f + 1, b :: bs, h => by
    simp only [grp] at h ⊢
    split
    · simp
    · rename_i hb
      rw [if_neg hb] at h
      split
      · rename_i h0
        have := grp_le f bs h0
        simp; omega
      · rename_i h0
        rw [if_neg h0] at h
        exact absurd h h0
theorem uintB_ne (n : Nat) : uintB n ≠ [] := by rw [uintB]; split <;> simp
theorem b8 (n : Nat) (h : n < 256) : (UInt8.ofNat n).toNat = n := by simp [UInt8.toNat_ofNat']; omega
theorem val_uintB (n : Nat) : val (uintB n) = n := by
  induction n using Nat.strongRecOn with
  | _ n ih =>
    rw [uintB]
    split
    · rename_i h; simp only [val]; rw [b8 _ (by omega)]; omega
    · rename_i h; simp only [val]; rw [b8 _ (by omega), ih (n / 128) (by omega)]; omega
theorem grp_uintB : ∀ (f n : Nat) (t : List UInt8), n < 128 ^ (f + 1) → grp (f + 1) (uintB n ++ t) = (0, (uintB n).length)
  | f, n, t, h => by
    rw [uintB]
    split
    · simp [grp]; omega
    · rename_i h1
      cases f with
      | zero => simp at h; omega
      | succ f =>
        have ih := grp_uintB f (n / 128) t (by rw [Nat.pow_succ] at h; omega)
        have h2 : ¬ (UInt8.ofNat (n % 128 + 128)).toNat < 128 := by rw [b8 _ (by omega)]; omega
        rw [List.cons_append, grp, if_neg h2, ih]; simp
theorem uintB_len : ∀ (f n : Nat), n < 128 ^ (f + 1) → (uintB n).length ≤ f + 1
  | f, n, h => by
    rw [uintB]
    split
    · simp
    · rename_i h1
      cases f with
      | zero => simp at h; omega
      | succ f =>
        have ih := uintB_len f (n / 128) (by rw [Nat.pow_succ] at h; omega)
        simp; omega
theorem uintB_len10 (n : Nat) (h : n < 18446744073709551616) : (uintB n).length ≤ 10 := uintB_len 9 n (by omega)
theorem grp_uint (n : Nat) (t : List UInt8) (h : n < 18446744073709551616) : grp 10 (uintB n ++ t) = (0, (uintB n).length) := grp_uintB 9 n t (by omega)
/-- What GetUint answers: the number, how many bytes, the error. -/
def guN (bs : List UInt8) : Nat := val (bs.take (grp 10 bs).2) % 18446744073709551616
def guE (bs : List UInt8) : Nat := if (grp 10 bs).1 = 0 then (if uintB (guN bs) = bs.take (grp 10 bs).2 then 0 else 4) else (grp 10 bs).1
def guK (bs : List UInt8) : Nat := if guE bs = 0 then (grp 10 bs).2 else 0
def guV (bs : List UInt8) : Nat := if guE bs = 0 then guN bs else 0
def gtE (bs : List UInt8) (most : Int) : Nat := if guE bs = 0 then (if most < (guV bs : Int) then 5 else if bs.length < guK bs + guV bs then 3 else 0) else guE bs
def gtK (bs : List UInt8) (most : Int) : Nat := if gtE bs most = 0 then guK bs + guV bs else 0
def gtS (bs : List UInt8) (most : Int) : List UInt8 := if gtE bs most = 0 then (bs.drop (guK bs)).take (guV bs) else []
theorem guN_lt (bs : List UInt8) : guN bs < 18446744073709551616 := Nat.mod_lt _ (by omega)
theorem guV_lt (bs : List UInt8) : guV bs < 18446744073709551616 := by unfold guV; split; exact guN_lt bs; omega
theorem guK_le (bs : List UInt8) : guK bs ≤ bs.length := by
  unfold guK; split
  · rename_i h
    have : (grp 10 bs).1 = 0 := by unfold guE at h; split at h; assumption; assumption
    exact (grp_le 10 bs this).1
  · omega
theorem guE_cases (bs : List UInt8) : guE bs = 0 ∨ (guE bs ≠ 0 ∧ guK bs = 0 ∧ guV bs = 0) := by
  by_cases h : guE bs = 0
  · exact .inl h
  · exact .inr ⟨h, by simp [guK, h], by simp [guV, h]⟩
/-- Bytes that are taken off as a number are those that are laid for it. -/
theorem gu_only (bs : List UInt8) (h : guE bs = 0) : uintB (guV bs) = bs.take (guK bs) := by
  have h' := h
  unfold guE at h
  split at h
  · split at h
    · rename_i h2; simp [guV, guK, h', h2]
    · cases h
  · rename_i h1; exact absurd h h1
theorem gu_back (n : Nat) (t : List UInt8) (h : n < 18446744073709551616) : guE (uintB n ++ t) = 0 ∧ guK (uintB n ++ t) = (uintB n).length ∧ guV (uintB n ++ t) = n := by
  have hg := grp_uint n t h
  have hN : guN (uintB n ++ t) = n := by unfold guN; rw [hg]; simp [val_uintB]; omega
  have hE : guE (uintB n ++ t) = 0 := by unfold guE; rw [hN, hg]; simp
  exact ⟨hE, by unfold guK; rw [if_pos hE, hg], by unfold guV; rw [if_pos hE, hN]⟩
theorem gt_back (s t : List UInt8) (most : Int) (h : s.length < 18446744073709551616) (hm : (s.length : Int) ≤ most) : gtE (textB s ++ t) most = 0 ∧ gtK (textB s ++ t) most = (textB s).length ∧ gtS (textB s ++ t) most = s := by
  obtain ⟨h1, h2, h3⟩ := gu_back s.length (s ++ t) h
  rw [← List.append_assoc, show uintB s.length ++ s = textB s from rfl] at h1 h2 h3
  have hE : gtE (textB s ++ t) most = 0 := by
    unfold gtE; rw [if_pos h1, h3, h2, if_neg (by omega), if_neg (by simp [textB])]
  refine ⟨hE, by unfold gtK; rw [if_pos hE, h2, h3]; simp [textB], ?_⟩
  unfold gtS
  rw [if_pos hE, h2, h3]
  simp [textB]
theorem gtE_ok (bs : List UInt8) (most : Int) (h : gtE bs most = 0) : guE bs = 0 ∧ (guV bs : Int) ≤ most ∧ guK bs + guV bs ≤ bs.length := by
  unfold gtE at h
  split at h
  · rename_i h0
    split at h
    · cases h
    · rename_i h1
      split at h
      · cases h
      · rename_i h2; exact ⟨h0, by omega, by omega⟩
  · rename_i h0; exact absurd h h0
theorem gt_only (bs : List UInt8) (most : Int) (h : gtE bs most = 0) : gtK bs most ≤ bs.length ∧ textB (gtS bs most) = bs.take (gtK bs most) := by
  obtain ⟨h0, h1, h2⟩ := gtE_ok bs most h
  have hk : gtK bs most = guK bs + guV bs := by unfold gtK; rw [if_pos h]
  have hs : gtS bs most = (bs.drop (guK bs)).take (guV bs) := by unfold gtS; rw [if_pos h]
  refine ⟨by rw [hk]; exact h2, ?_⟩
  have hl : ((bs.drop (guK bs)).take (guV bs)).length = guV bs := by simp; omega
  rw [hk, hs, textB, hl, gu_only bs h0, List.take_add]
end Leb
