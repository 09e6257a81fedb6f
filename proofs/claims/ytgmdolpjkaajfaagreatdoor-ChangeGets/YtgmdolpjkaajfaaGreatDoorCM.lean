/-
  A CHANGE THAT IS LAID IS READ AS IT WAS: mathematics.
-/
import Derived.Test.YtgmdolpjkaajfaaGreatDoorCF
namespace Go.Proofs.YtgmdolpjkaajfaaGreatDoor
open Go.RowKit Leb
theorem su_back (n : Nat) (t : List UInt8) (most : Nat) (h : n < 18446744073709551616) (hm : n ≤ most) : suV (uintB n ++ t) 0 most = n ∧ suB (uintB n ++ t) 0 most = t ∧ suE (uintB n ++ t) 0 most = 0 := by
  obtain ⟨h1, h2, h3⟩ := gu_back n t h
  have hE : ruE (uintB n ++ t) most = 0 := by unfold ruE; rw [if_pos h1, h3, if_neg (by omega)]
  refine ⟨?_, ?_, ?_⟩
  · unfold suV ruV; rw [if_pos rfl, if_pos hE, h3]
  · unfold suB ruK; rw [if_pos rfl, if_pos hE, h2, List.drop_left]
  · unfold suE; rw [if_pos rfl, hE]
theorem stt_back (s t : List UInt8) (most : Nat) (h : s.length < 18446744073709551616) (hm : s.length ≤ most) : stS (textB s ++ t) 0 (most : Int) = s ∧ stB (textB s ++ t) 0 (most : Int) = t ∧ stE (textB s ++ t) 0 (most : Int) = 0 := by
  obtain ⟨h1, h2, h3⟩ := gt_back s t most h (by omega)
  refine ⟨?_, ?_, ?_⟩
  · unfold stS; rw [if_pos rfl, h3]
  · unfold stB; rw [if_pos rfl, h2, List.drop_left]
  · unfold stE; rw [if_pos rfl, h1]
theorem sh_back (h t : List UInt8) (hh : h.length = 32) : shH (h ++ t) 0 = h ∧ shB (h ++ t) 0 = t ∧ shE (h ++ t) 0 = 0 := by
  have hl : ¬ (h ++ t).length < 32 := by rw [List.length_append]; omega
  refine ⟨?_, ?_, ?_⟩
  · unfold shH ghH; rw [if_pos rfl, if_neg hl, ← hh, List.take_left]
  · unfold shB ghK; rw [if_pos rfl, if_neg hl, ← hh, List.drop_left]
  · unfold shE ghE; rw [if_pos rfl, if_neg hl]
theorem hsM_back (ds : List (List UInt8)) (t : List UInt8) (h32 : HS.All32 ds) : ∀ n, n ≤ ds.length → hsM n (ds.flatten ++ t) 0 = (ds.take n, (ds.drop n).flatten ++ t, 0)
  | 0, _ => by simp [hsM]
  | n + 1, hn => by
    have ih := hsM_back ds t h32 n (by omega)
    have hx : ds[n]? = some ds[n] := List.getElem?_eq_getElem (by omega)
    have hd : (ds.drop n).flatten ++ t = ds[n] ++ ((ds.drop (n + 1)).flatten ++ t) := by
      rw [List.drop_eq_getElem_cons (by omega), List.flatten_cons, List.append_assoc]
    obtain ⟨h1, h2, h3⟩ := sh_back ds[n] ((ds.drop (n + 1)).flatten ++ t) (h32 _ (List.getElem_mem _))
    show ((hsM n (ds.flatten ++ t) 0).1 ++ [_], _, _) = _
    rw [ih]
    simp only
    rw [hd, h1, h2, h3, List.take_add_one, hx]
    rfl
/-- A change's bytes but for its operations. -/
def headC (x : Chg) : List UInt8 := [[1], textB x.author, uintB x.seq.toNat, uintB x.start.toNat, putD x.deps, textB x.note].flatten
theorem layC_head (x : Chg) : layC x = headC x ++ layB x.ops := by
  unfold layC layX headC
  simp
theorem one_uint : ([1] : List UInt8) = uintB 1 := uintB_1.symm
theorem readX_head {x : Chg} (h0 : chE x 0 = 0) (h1 : chE x 1 = 0) (h2 : chE x 2 = 0) (h3 : chE x 3 = 0) (h4 : chE x 4 = 0) (h32 : HS.All32 x.deps) (R : List UInt8) :
    readX (headC x ++ R) = ⟨x.author, x.seq.toNat, x.start.toNat, x.deps, x.note, R, 0⟩ := by
  obtain ⟨sq, hsq, hsq1⟩ := num_of h1
  obtain ⟨st, hst, hst1⟩ := num_of h2
  have hau : x.author.length ≤ 32 := by
    have h : nmB x.author = true := eOf_zero (e := 30) (by omega) h0
    unfold nmB at h
    simp only [Bool.and_eq_true, decide_eq_true_eq] at h
    omega
  have hdn := deps_len h3
  have hnt := note_len h4
  have e : headC x ++ R = uintB 1 ++ (textB x.author ++ (uintB x.seq.toNat ++ (uintB x.start.toNat ++ (uintB x.deps.length ++ (x.deps.flatten ++ (textB x.note ++ R)))))) := by
    unfold headC putD
    rw [one_uint]
    simp [List.append_assoc]
  rw [e]
  obtain ⟨_, a2, a3⟩ := su_back 1 (textB x.author ++ (uintB x.seq.toNat ++ (uintB x.start.toNat ++ (uintB x.deps.length ++ (x.deps.flatten ++ (textB x.note ++ R)))))) 1 (by omega) (by omega)
  obtain ⟨b1, b2, b3⟩ := stt_back x.author (uintB x.seq.toNat ++ (uintB x.start.toNat ++ (uintB x.deps.length ++ (x.deps.flatten ++ (textB x.note ++ R))))) 32 (by omega) hau
  obtain ⟨c1, c2, c3⟩ := su_back x.seq.toNat (uintB x.start.toNat ++ (uintB x.deps.length ++ (x.deps.flatten ++ (textB x.note ++ R)))) MN (by omega) (by rw [hsq]; simpa using hsq1)
  obtain ⟨d1, d2, d3⟩ := su_back x.start.toNat (uintB x.deps.length ++ (x.deps.flatten ++ (textB x.note ++ R))) MN (by omega) (by rw [hst]; simpa using hst1)
  obtain ⟨f1, f2, f3⟩ := su_back x.deps.length (x.deps.flatten ++ (textB x.note ++ R)) 16 (by omega) hdn
  have g := hsM_back x.deps (textB x.note ++ R) h32 x.deps.length (Nat.le_refl _)
  rw [List.take_length, List.drop_length, List.flatten_nil, List.nil_append] at g
  obtain ⟨k1, k2, k3⟩ := stt_back x.note R 1024 (by omega) hnt
  unfold readX
  simp only [a2, a3, b1, b2, b3, c1, c2, c3, d1, d2, d3, f1, f2, f3, g, k1, k2, k3]
/-- A change that may be, as mathematics. -/
structure CGood (x : Chg) : Prop where
  e : ∀ j, j < 7 → chE x j = 0
  d32 : HS.All32 x.deps
  ok : ∀ y ∈ x.ops, y.Ok
theorem CGood.ops {x : Chg} (h : CGood x) : Good x.ops := (good_iff h.ok).1 (h.e 5 (by omega))
theorem CGood.read {x : Chg} (h : CGood x) (R : List UInt8) : readX (headC x ++ R) = ⟨x.author, x.seq.toNat, x.start.toNat, x.deps, x.note, R, 0⟩ :=
  readX_head (h.e 0 (by omega)) (h.e 1 (by omega)) (h.e 2 (by omega)) (h.e 3 (by omega)) (h.e 4 (by omega)) h.d32 R
theorem CGood.chg {x : Chg} (h : CGood x) : chgE x = 0 := chgE_zero.2 h.e
theorem CGood.len {x : Chg} (h : CGood x) : (layC x).length ≤ 65536 := of_decide_eq_true (eOf_zero (e := 5) (by omega) (h.e 6 (by omega)))
theorem readK_back {x : Chg} (h : CGood x) : readK (layC x) = some x := by
  obtain ⟨sq, hsq, _⟩ := num_of (h.e 1 (by omega))
  obtain ⟨st, hst, _⟩ := num_of (h.e 2 (by omega))
  rw [layC_head]
  unfold readK
  rw [h.read (layB x.ops), if_pos rfl]
  simp only
  rw [getM_back h.ops]
  obtain ⟨au, s, t, ds, nt, os⟩ := x
  simp only at hsq hst
  subst hsq hst
  rfl
theorem getC_back {x : Chg} (h : CGood x) : getC (layC x) = some x := by
  unfold getC
  rw [if_neg (by have := h.len; omega), readK_back h]
  show (if chgE x = 0 ∧ layC x = layC x then some x else none) = some x
  rw [if_pos ⟨h.chg, rfl⟩]
theorem getC_some {bs : List UInt8} {x : Chg} (h : getC bs = some x) : chgE x = 0 ∧ layC x = bs := by
  unfold getC at h
  split at h
  · cases h
  · cases hr : readK bs with
    | none => rw [hr] at h; cases h
    | some y =>
      rw [hr] at h
      have h2 : (if chgE y = 0 ∧ layC y = bs then some y else none) = some x := h
      split at h2
      · rename_i hc
        cases h2
        exact hc
      · cases h2
end Go.Proofs.YtgmdolpjkaajfaaGreatDoor
