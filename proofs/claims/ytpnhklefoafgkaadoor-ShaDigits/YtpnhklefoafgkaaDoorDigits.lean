/-
  PLAIN MATHEMATICS OF THE DIGITS: Hex's digits are read by Parse as the hash, and back; the order of hashes is that of their digits.
-/
import Derived.Test.YtpnhklefoafgkaaDoorParsed
import Derived.Test.YtpnhklefoafgkaaDoorOrder
namespace Go.Proofs.YtpnhklefoafgkaaDoor
open Go.RowKit Sha
def dg (q : Nat) : UInt8 := hexDigits.getD q 0
def hexOf (b : UInt8) : List UInt8 := [dg (b.toNat / 16), dg (b.toNat % 16)]
def hexL (bs : List UInt8) : List UInt8 := bs.flatMap hexOf
theorem hexL_len (bs : List UInt8) : (hexL bs).length = 2 * bs.length := by
  induction bs with
  | nil => rfl
  | cons b bs ih => simp [hexL, hexOf] at ih ⊢; omega
theorem hexL_snoc (bs : List UInt8) (b : UInt8) : hexL (bs ++ [b]) = hexL bs ++ hexOf b := by simp [hexL]
theorem hexTo_eq (bs : List UInt8) : ∀ k, k ≤ 32 → k ≤ bs.length → hexTo bs k = hexL (bs.take k) ++ List.replicate (64 - 2 * k) 0
  | 0, _, _ => by simp [hexTo, hexL]
  | k + 1, h1, h2 => by
    have ih := hexTo_eq bs k (by omega) (by omega)
    have hl : (hexL (bs.take k)).length = 2 * k := by rw [hexL_len, List.length_take, Nat.min_eq_left (by omega)]
    have e : 64 - 2 * k = (64 - 2 * (k + 1)) + 1 + 1 := by omega
    have ht : bs.take (k + 1) = bs.take k ++ [bs.getD k 0] := by
      rw [List.take_succ_eq_append_getElem (by omega)]; simp [show k < bs.length by omega]
    unfold hexTo
    rw [ih, e, List.replicate_succ, List.replicate_succ, List.set_append_right _ _ (by omega), hl, Nat.sub_self, List.set_cons_zero,
      List.set_append_right _ _ (by omega), hl, show 2 * k + 1 - 2 * k = 1 by omega, List.set_cons_succ, List.set_cons_zero, ht, hexL_snoc]
    simp [hexOf, dg]
theorem hexTo_hexL (bs : List UInt8) (h : bs.length = 32) : hexTo bs 32 = hexL bs := by
  rw [hexTo_eq bs 32 (Nat.le_refl _) (by omega), List.take_of_length_le (by omega)]; simp
theorem dg_facts : ∀ q : Fin 16, isDig (dg q.val) = true ∧ (digN (dg q.val)).toNat = q.val := by decide +kernel
theorem dg_back (c : UInt8) (h : isDig c = true) : dg (digN c).toNat = c := by
  have all : ∀ q : Fin 256, isDig (UInt8.ofNat q.val) = true → dg (digN (UInt8.ofNat q.val)).toNat = UInt8.ofNat q.val := by decide +kernel
  have := all ⟨c.toNat, c.toNat_lt⟩
  simp only [UInt8.ofNat_toNat] at this
  exact this h
theorem dg_order : ∀ q r : Fin 16, (dg q.val < dg r.val ↔ q.val < r.val) ∧ (dg q.val = dg r.val ↔ q.val = r.val) := by decide +kernel
theorem hexByte_dg (b : UInt8) : hexByte (dg (b.toNat / 16)) (dg (b.toNat % 16)) = b := by
  have hb := b.toNat_lt
  have h1 := (dg_facts ⟨b.toNat / 16, by omega⟩).2
  have h2 := (dg_facts ⟨b.toNat % 16, by omega⟩).2
  simp only at h1 h2
  unfold hexByte
  rw [h1, h2, show b.toNat / 16 * 16 + b.toNat % 16 = b.toNat by omega]
  simp
theorem hexOf_hexByte (x y : UInt8) (hx : isDig x = true) (hy : isDig y = true) : hexOf (hexByte x y) = [x, y] := by
  have h1 := digN_lt x
  have h2 := digN_lt y
  have e : (hexByte x y).toNat = (digN x).toNat * 16 + (digN y).toNat := by unfold hexByte; simp; omega
  unfold hexOf
  rw [e, show ((digN x).toNat * 16 + (digN y).toNat) / 16 = (digN x).toNat by omega, show ((digN x).toNat * 16 + (digN y).toNat) % 16 = (digN y).toNat by omega, dg_back x hx, dg_back y hy]
theorem hexL_get : ∀ (bs : List UInt8) (j : Nat), j < bs.length → (hexL bs).getD (2 * j) 0 = dg ((bs.getD j 0).toNat / 16) ∧ (hexL bs).getD (2 * j + 1) 0 = dg ((bs.getD j 0).toNat % 16)
  | [], _, h => by simp at h
  | b :: bs, 0, _ => ⟨rfl, rfl⟩
  | b :: bs, j + 1, h => by
    have ih := hexL_get bs j (by simpa using h)
    have e : hexL (b :: bs) = dg (b.toNat / 16) :: dg (b.toNat % 16) :: hexL bs := rfl
    rw [e, show 2 * (j + 1) = 2 * j + 1 + 1 by omega]
    simpa using ih
def parseL (l : List UInt8) (k : Nat) : List UInt8 := (List.range k).map fun j => hexByte (l.getD (2 * j) 0) (l.getD (2 * j + 1) 0)
theorem parseTo_eq (l : List UInt8) : ∀ k, k ≤ 32 → parseTo l k = parseL l k ++ List.replicate (32 - k) 0
  | 0, _ => by simp [parseTo, parseL, zeroHash]
  | k + 1, h => by
    have ih := parseTo_eq l k (by omega)
    have hl : (parseL l k).length = k := by simp [parseL]
    unfold parseTo
    rw [ih, show 32 - k = (32 - (k + 1)) + 1 by omega, List.replicate_succ, List.set_append_right _ _ (by omega), hl, Nat.sub_self, List.set_cons_zero]
    simp [parseL, List.range_succ]
theorem parseTo_32 (l : List UInt8) : parseTo l 32 = parseL l 32 := by rw [parseTo_eq l 32 (Nat.le_refl _)]; simp
theorem parse_hex (a : List UInt8) (h : a.length = 32) : parseH (hexL a) = a ∧ parseE (hexL a) = 0 := by
  have hl : (hexL a).length = 64 := by rw [hexL_len, h]
  have hd : allDig (hexL a) = true := allDig_of _ hl (fun j hj => by
    obtain ⟨h1, h2⟩ := hexL_get a j (by omega)
    have hb := (a.getD j 0).toNat_lt
    rw [h1, h2]
    exact ⟨(dg_facts ⟨_, by omega⟩).1, (dg_facts ⟨_, by omega⟩).1⟩)
  unfold parseH parseE
  rw [if_pos ⟨hl, hd⟩, if_neg (by omega), if_neg (by omega), if_pos hd, parseTo_32]
  refine ⟨?_, rfl⟩
  apply List.ext_getElem
  · simp [parseL, h]
  · intro i h1 h2
    obtain ⟨g1, g2⟩ := hexL_get a i h2
    simp only [parseL, List.getElem_map, List.getElem_range]
    rw [g1, g2, hexByte_dg]
    simp [h2]
theorem hexL_parse (l : List UInt8) (h : parseE l = 0) : hexL (parseH l) = l := by
  have hl : l.length = 64 := by
    unfold parseE at h
    split at h
    · cases h
    · split at h
      · cases h
      · omega
  have hd : allDig l = true := by
    unfold parseE at h
    rw [if_neg (by omega), if_neg (by omega)] at h
    split at h
    · assumption
    · cases h
  unfold parseH
  rw [if_pos ⟨hl, hd⟩, parseTo_32]
  have hdig : ∀ j, j < 64 → isDig (l.getD j 0) = true := fun j hj => by
    unfold allDig at hd
    rw [List.all_eq_true] at hd
    have := hd l[j] (List.getElem_mem (by omega))
    simpa [show j < l.length by omega] using this
  have key : ∀ k, k ≤ 32 → hexL (parseL l k) = l.take (2 * k) := by
    intro k
    induction k with
    | zero => intro _; rfl
    | succ k ih =>
      intro hk
      have e : parseL l (k + 1) = parseL l k ++ [hexByte (l.getD (2 * k) 0) (l.getD (2 * k + 1) 0)] := by simp [parseL, List.range_succ]
      rw [e, hexL_snoc, ih (by omega), hexOf_hexByte _ _ (hdig _ (by omega)) (hdig _ (by omega)), show 2 * (k + 1) = 2 * k + 1 + 1 by omega,
        List.take_succ_eq_append_getElem (show 2 * k + 1 < l.length by omega), List.take_succ_eq_append_getElem (show 2 * k < l.length by omega)]
      simp only [List.getD_eq_getElem?_getD, List.getElem?_eq_getElem (show 2 * k < l.length by omega), List.getElem?_eq_getElem (show 2 * k + 1 < l.length by omega), Option.getD_some, List.append_assoc, List.cons_append, List.nil_append]
  rw [key 32 (Nat.le_refl _), List.take_of_length_le (by omega)]
theorem parseH_bad (l : List UInt8) (h : ¬ parseE l = 0) : parseH l = zeroHash := by
  unfold parseH
  split
  · rename_i hh
    exfalso; apply h
    unfold parseE
    rw [if_neg (by omega), if_neg (by omega), if_pos hh.2]
  · rfl
theorem bytesLess_hex : ∀ a b : List UInt8, a.length = b.length → Op.bytesLess (hexL a) (hexL b) = ltB a b
  | [], [], _ => by simp [hexL, ltB, Op.bytesLess]
  | [], _ :: _, h => by simp at h
  | _ :: _, [], h => by simp at h
  | x :: xs, y :: ys, h => by
    have ih := bytesLess_hex xs ys (by simpa using h)
    have e1 : hexL (x :: xs) = dg (x.toNat / 16) :: dg (x.toNat % 16) :: hexL xs := rfl
    have e2 : hexL (y :: ys) = dg (y.toNat / 16) :: dg (y.toNat % 16) :: hexL ys := rfl
    rw [e1, e2]
    have hx := x.toNat_lt
    have hy := y.toNat_lt
    obtain ⟨p1, p2⟩ := dg_order ⟨x.toNat / 16, by omega⟩ ⟨y.toNat / 16, by omega⟩
    obtain ⟨q1, q2⟩ := dg_order ⟨x.toNat % 16, by omega⟩ ⟨y.toNat % 16, by omega⟩
    simp only at p1 p2 q1 q2
    simp only [Op.bytesLess, ltB]
    by_cases hxy : x = y
    · subst hxy
      simp [ih]
    · have hn : x.toNat ≠ y.toNat := fun e => hxy (UInt8.toNat_inj.1 e)
      have hl : x < y ↔ x.toNat < y.toNat := UInt8.lt_iff_toNat_lt
      rw [if_neg hxy, Bool.eq_iff_iff, decide_eq_true_iff, hl]
      simp only [Bool.or_eq_true, Bool.and_eq_true, decide_eq_true_iff, beq_iff_eq, p1, p2, q1, q2]
      constructor
      · rintro (h1 | ⟨h1, h2 | ⟨h2, _⟩⟩) <;> omega
      · intro h1
        by_cases h2 : x.toNat / 16 < y.toNat / 16
        · exact Or.inl h2
        · exact Or.inr ⟨by omega, Or.inl (by omega)⟩
theorem ltB_tri : ∀ a b : List UInt8, a.length = b.length → decide (a = b) = (!ltB a b && !ltB b a)
  | [], [], _ => rfl
  | [], _ :: _, h => by simp at h
  | _ :: _, [], h => by simp at h
  | x :: xs, y :: ys, h => by
    have ih := ltB_tri xs ys (by simpa using h)
    simp only [ltB]
    by_cases hxy : x = y
    · subst hxy
      simp [← ih]
    · have hyx : ¬ y = x := fun e => hxy e.symm
      rw [if_neg hxy, if_neg hyx, decide_eq_false (by simp [hxy])]
      have hn : x.toNat ≠ y.toNat := fun e => hxy (UInt8.toNat_inj.1 e)
      rcases Nat.lt_or_gt_of_ne hn with h1 | h1
      · rw [decide_eq_true (UInt8.lt_iff_toNat_lt.2 h1)]; rfl
      · rw [decide_eq_true (UInt8.lt_iff_toNat_lt.2 h1)]; simp
end Go.Proofs.YtpnhklefoafgkaaDoor
