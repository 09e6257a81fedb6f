/-
  CHANGES OF ONE OPERATION, TIMES AND TIMES: how long their bytes are, what is told of them (mathematics, for ChangeLong).
-/
import Derived.Test.YtgmdolpjkaajfaaGreatDoorCH
namespace Go.Proofs.YtgmdolpjkaajfaaGreatDoor
open Go.RowKit Leb
def op1 (t : List UInt8) : Opn := ⟨1, [107], 0, 0, t⟩
def ops1 (m : Nat) (t : List UInt8) : List Opn := List.replicate m (op1 t)
def withO (x : Chg) (os : List Opn) : Chg := { x with ops := os }
theorem op1_ok {t : List UInt8} (h : t.length ≤ 1024) : (op1 t).Ok := ⟨by simp [op1], by simp [op1], by simp [op1], by simp [op1], by simp [op1], by simp [op1], by unfold maxLen; simp [op1], by unfold maxLen; show t.length ≤ _; omega⟩
theorem op1_may {t : List UInt8} (h : t.length ≤ 1024) : mayB (op1 t) = true := by
  have h1 : nmB [107] = true := by decide
  have h2 : fitsB 1 0 0 t.length = true := by unfold fitsB; simp [h]
  show (nmB [107] && fitsB 1 0 0 t.length) = true
  rw [h1, h2]; rfl
theorem ops1_putE {m : Nat} {t : List UInt8} (hm : m ≤ 256) (h : t.length ≤ 1024) : putE (ops1 m t) = 0 := by
  unfold putE ops1
  rw [if_neg (by rw [List.length_replicate]; omega), if_pos (List.all_eq_true.2 fun y hy => by rw [(List.mem_replicate.1 hy).2]; exact op1_may h)]
theorem runsB_rep (v : Int) (hv : -64 ≤ v ∧ v ≤ 63) (m : Nat) (hm : m ≤ 256) : (runsB (List.replicate m v)).length ≤ 30 := by
  cases m with
  | zero => show (runsB []).length ≤ 30; rw [runs_nil]; simp
  | succ k =>
    unfold runsB laidI
    rw [runs_rep]
    have h1 := uintB_len10 1 (by omega)
    have h2 := uintB_len10 (k + 1) (by omega)
    have h3 := intB_len10 v (by omega) (by omega)
    simp only [List.flatMap_cons, List.flatMap_nil, List.append_nil, List.length_append, List.length_cons, List.length_nil]
    simp only [Nat.zero_add]
    omega
theorem map_rep {β : Type} (f : Opn → β) (m : Nat) (t : List UInt8) : (ops1 m t).map f = List.replicate m (f (op1 t)) := by unfold ops1; rw [List.map_replicate]
theorem diffs_rep0 (m : Nat) : diffs (List.replicate m (0 : Int)) = List.replicate m 0 := by
  refine List.eq_replicate_iff.2 ⟨by rw [diffs_len, List.length_replicate], fun y hy => ?_⟩
  unfold diffs at hy
  obtain ⟨k, _, rfl⟩ := List.mem_map.1 hy
  have g : ∀ j : Nat, ((List.replicate m (0 : Int))[j]?.getD 0) = 0 := fun j => by
    rw [List.getElem?_replicate]; split <;> rfl
  have hp : prev (List.replicate m (0 : Int)) k = 0 := by
    unfold prev
    first | exact g _ | (split <;> first | rfl | exact g _)
  unfold dif
  rw [g, hp]
  unfold RowKit.wrap64
  decide
theorem firsts_rep (t : List UInt8) : ∀ m, firsts (ops1 (m + 1) t) = [[107]]
  | 0 => by simp [firsts, ops1, op1, more]
  | m + 1 => by
    have h := firsts_rep t m
    unfold firsts ops1 at *
    rw [List.replicate_succ', List.foldl_append, h]
    simp [more, op1]
theorem texts_rep (t : List UInt8) : ∀ m, (textsB (ops1 m t)).length = m * (textB t).length
  | 0 => by simp [textsB, ops1]
  | m + 1 => by
    have h := texts_rep t m
    unfold textsB ops1 at *
    rw [List.replicate_succ, List.map_cons, List.flatten_cons, List.length_append, h, if_pos (by rfl), Nat.succ_mul, Nat.add_comm]
    rfl
theorem layB_rep {m : Nat} {t : List UInt8} (hm : m ≤ 256) (h : t.length ≤ 1024) : (layB (ops1 m t)).length ≤ 160 + m * (t.length + 2) ∧ m * t.length ≤ (layB (ops1 m t)).length := by
  have ht : t.length + 1 ≤ (textB t).length ∧ (textB t).length ≤ t.length + 2 := by
    unfold textB
    rw [List.length_append]
    have h1 := uintB_len 1 t.length (by omega)
    have h2 : 1 ≤ (uintB t.length).length := by rw [uintB]; split <;> simp
    omega
  have hT := texts_rep t m
  have hT1 : m * (textB t).length ≤ m * (t.length + 2) := Nat.mul_le_mul_left _ ht.2
  have hT2 : m * t.length ≤ m * (textB t).length := Nat.mul_le_mul_left _ (by omega)
  have hN : (layNB (ops1 m t)).length ≤ 60 := by
    unfold layNB
    rw [List.length_append, List.length_append]
    cases m with
    | zero =>
      have e : firsts (ops1 0 t) = [] := rfl
      have e2 : whichs [] (ops1 0 t) = [] := rfl
      rw [e, e2, runs_nil]
      have := uintB_len10 0 (by omega)
      simp only [namesB, List.map_nil, List.flatten_nil, List.length_nil, List.length_cons]
      omega
    | succ k =>
      rw [firsts_rep]
      have e2 : whichs [[107]] (ops1 (k + 1) t) = List.replicate (k + 1) 0 := by
        unfold whichs
        rw [map_rep]
        rfl
      rw [e2]
      have h1 := runsB_rep 0 (by omega) (k + 1) hm
      have h2 := uintB_len10 1 (by omega)
      have h3 : (namesB [[107]]).length ≤ 11 := by
        simp only [namesB, List.map_cons, List.map_nil, List.flatten_cons, List.flatten_nil, textB, List.append_nil, List.length_append, List.length_cons, List.length_nil]
        have := uintB_len10 (0 + 1) (by omega)
        omega
      simp only [List.length_cons, List.length_nil, Nat.zero_add]
      omega
  have hK := runsB_rep 1 (by omega) m hm
  have hZ := runsB_rep 0 (by omega) m hm
  have e1 : (ops1 m t).map (·.kind) = List.replicate m 1 := map_rep _ m t
  have e2 : (ops1 m t).map (·.pos) = List.replicate m 0 := map_rep _ m t
  have e3 : (ops1 m t).map (·.by_) = List.replicate m 0 := map_rep _ m t
  unfold layB
  rw [e1, e2, e3, diffs_rep0]
  simp only [List.length_append]
  omega
theorem long_more {x : Chg} {m : Nat} {t : List UInt8} (hm : m ≤ 256) (h : t.length ≤ 1024) : m * t.length < (layC (withO x (ops1 m t))).length := by
  rw [layC_head, List.length_append]
  have h1 := (layB_rep hm h).2
  have h2 : 1 ≤ (headC (withO x (ops1 m t))).length := by unfold headC; simp only [List.flatten_cons, List.length_append, List.length_cons, List.length_nil]; omega
  show _ < _ + (layB (ops1 m t)).length
  omega
theorem eOf_or (b : Bool) (e : Nat) : eOf b e = 0 ∨ eOf b e = e := by unfold eOf; cases b <;> simp
theorem long_other {x : Chg} {m : Nat} {t : List UInt8} {q : Nat} (hm : m ≤ 256) (h : t.length ≤ 1024) (hq : chgE (withO x (ops1 m t)) = q) (h0 : ¬ q = 0) (h5 : ¬ q = 5) : chgE (withO x []) = q := by
  have e5 : chE (withO x (ops1 m t)) 5 = 0 := ops1_putE hm h
  have e6 : chE (withO x (ops1 m t)) 6 = 0 ∨ chE (withO x (ops1 m t)) 6 = 5 := eOf_or _ _
  have a0 : chE (withO x []) 0 = chE (withO x (ops1 m t)) 0 := rfl
  have a1 : chE (withO x []) 1 = chE (withO x (ops1 m t)) 1 := rfl
  have a2 : chE (withO x []) 2 = chE (withO x (ops1 m t)) 2 := rfl
  have a3 : chE (withO x []) 3 = chE (withO x (ops1 m t)) 3 := rfl
  have a4 : chE (withO x []) 4 = chE (withO x (ops1 m t)) 4 := rfl
  unfold chgE at hq ⊢
  rw [a0, a1, a2, a3, a4]
  rw [e5] at hq
  repeat' split at hq
  all_goals simp_all
  all_goals omega
theorem long_bytes {x : Chg} {m : Nat} {t : List UInt8} (h32 : HS.All32 x.deps) (hm : m ≤ 256) (h : t.length ≤ 1024) (hq : chgE (withO x (ops1 m t)) = 5) : 1024 < x.note.length ∨ 63536 < m * (t.length + 2) := by
  have e5 : chE (withO x (ops1 m t)) 5 = 0 := ops1_putE hm h
  by_cases hn : x.note.length ≤ 1024
  case neg => exact Or.inl (by omega)
  refine Or.inr ?_
  have o0 := eOf_or (nmB x.author) 30
  have o1 := eOf_or (numB x.seq) 42
  have o2 := eOf_or (numB x.start) 43
  have o3 := eOf_or (depsB x.deps) 41
  have a0 : chE (withO x (ops1 m t)) 0 = eOf (nmB x.author) 30 := rfl
  have a1 : chE (withO x (ops1 m t)) 1 = eOf (numB x.seq) 42 := rfl
  have a2 : chE (withO x (ops1 m t)) 2 = eOf (numB x.start) 43 := rfl
  have a3 : chE (withO x (ops1 m t)) 3 = eOf (depsB x.deps) 41 := rfl
  have a4 : chE (withO x (ops1 m t)) 4 = 0 := by show eOf (decide (x.note.length ≤ 1024)) 5 = 0; rw [decide_eq_true hn]; rfl
  have a6 : chE (withO x (ops1 m t)) 6 = eOf (decide ((layC (withO x (ops1 m t))).length ≤ 65536)) 5 := rfl
  unfold chgE at hq
  rw [a0, a1, a2, a3, a4, e5, a6] at hq
  have z0 : eOf (nmB x.author) 30 = 0 := by rcases o0 with h | h; exact h; rw [h] at hq; simp at hq
  rw [if_pos z0] at hq
  have z1 : eOf (numB x.seq) 42 = 0 := by rcases o1 with h | h; exact h; rw [h] at hq; simp at hq
  rw [if_pos z1] at hq
  have z2 : eOf (numB x.start) 43 = 0 := by rcases o2 with h | h; exact h; rw [h] at hq; simp at hq
  rw [if_pos z2] at hq
  have z3 : eOf (depsB x.deps) 41 = 0 := by rcases o3 with h | h; exact h; rw [h] at hq; simp at hq
  rw [if_pos z3, if_pos rfl, if_pos rfl] at hq
  have hlen : ¬ (layC (withO x (ops1 m t))).length ≤ 65536 := fun hh => by rw [decide_eq_true hh] at hq; cases hq
  have b0 := eOf_zero (e := 30) (by omega) z0
  have b3 := eOf_zero (e := 41) (by omega) z3
  unfold nmB at b0
  unfold depsB at b3
  simp only [Bool.and_eq_true, decide_eq_true_eq] at b0 b3
  obtain ⟨sq, hsq, hsq'⟩ := num_of (e := 41) z1
  obtain ⟨st, hst, hst'⟩ := num_of (e := 42) z2
  have hd : x.deps.flatten.length = x.deps.length * 32 := HS.flat_len h32
  have hL := (layB_rep hm h).1
  rw [layC_head, List.length_append] at hlen
  have hh : (headC (withO x (ops1 m t))).length ≤ 1700 := by
    unfold headC textB putD
    have u1 := uintB_len10 x.author.length (by omega)
    have u2 := uintB_len10 x.seq.toNat (by rw [hsq]; simp; omega)
    have u3 := uintB_len10 x.start.toNat (by rw [hst]; simp; omega)
    have u4 := uintB_len10 x.deps.length (by omega)
    have u5 := uintB_len10 x.note.length (by omega)
    simp only [withO, List.flatten_cons, List.flatten_nil, List.length_append, List.length_cons, List.length_nil]
    omega
  have : (layB (withO x (ops1 m t)).ops).length = (layB (ops1 m t)).length := rfl
  omega
end Go.Proofs.YtgmdolpjkaajfaaGreatDoor
