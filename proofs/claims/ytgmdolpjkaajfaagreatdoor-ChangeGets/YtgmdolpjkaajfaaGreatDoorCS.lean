/-
  stemmaref08.laid OF ANY CHANGE, AND stemmaref08.Check.
-/
import Derived.Test.YtgmdolpjkaajfaaGreatDoorCH
import Derived.Test.YtgmdolpjkaajfaaGreatDoorCN
namespace Go.Proofs.YtgmdolpjkaajfaaGreatDoor
open Go.RowKit Leb
theorem chgB_no {x : Chg} {q : Nat} (h : chgE x = q) (h0 : ¬ q = 0) : chgB x = [] := by unfold chgB; rw [h, if_neg h0]
theorem laid_any (x : Chg) (d p : Sl) (w : World) (hx : ChAt w x d p) {q : Nat} {B : List UInt8} (hq : chgE x = q) (hB : chgB x = B) :
    Calls Tryz.prog 24 #[cV x d p] w (LdPost w q B) := by
  subst hq hB
  obtain ⟨au, sq, st, ds, nt, os⟩ := x
  have hdn : ds.length = d.n := hx.dn
  by_cases a0 : nmB au = true
  case neg =>
    have a0' : nmB au = false := by simpa using a0
    have e : chgE ⟨au, sq, st, ds, nt, os⟩ = 30 := chgE_at (j := 0) (by omega) (fun k hk => absurd hk (by omega)) (by show eOf (nmB au) 30 = 30; rw [a0']; rfl) (by omega)
    rw [chgB_no e (by omega), e]
    exact laid_e0 au sq st ds nt os d p w hx a0'
  have c0 : chE ⟨au, sq, st, ds, nt, os⟩ 0 = 0 := by show eOf (nmB au) 30 = 0; rw [a0]; rfl
  by_cases a1 : numB sq = true
  case neg =>
    have a1' : numB sq = false := by simpa using a1
    have e : chgE ⟨au, sq, st, ds, nt, os⟩ = 42 := chgE_at (j := 1) (by omega) (fun k hk => by
      obtain rfl : k = 0 := by omega
      exact c0) (by show eOf (numB sq) 42 = 42; rw [a1']; rfl) (by omega)
    rw [chgB_no e (by omega), e]
    by_cases h1 : sq < 1
    · exact laid_e1a au sq st ds nt os d p w hx a0 h1
    · refine laid_e1b au sq st ds nt os d p w hx a0 ?_
      unfold numB at a1
      simp only [Bool.and_eq_true, decide_eq_true_eq] at a1
      omega
  have c1 : chE ⟨au, sq, st, ds, nt, os⟩ 1 = 0 := by show eOf (numB sq) 42 = 0; rw [a1]; rfl
  have b1 : 1 ≤ sq ∧ sq ≤ 1099511627776 := by unfold numB at a1; simpa only [Bool.and_eq_true, decide_eq_true_eq] using a1
  by_cases a2 : numB st = true
  case neg =>
    have a2' : numB st = false := by simpa using a2
    have e : chgE ⟨au, sq, st, ds, nt, os⟩ = 43 := chgE_at (j := 2) (by omega) (fun k hk => by
      rcases k with _ | k
      · exact c0
      obtain rfl : k = 0 := by omega
      exact c1) (by show eOf (numB st) 43 = 43; rw [a2']; rfl) (by omega)
    rw [chgB_no e (by omega), e]
    by_cases h1 : st < 1
    · exact laid_e2a au sq st ds nt os d p w hx a0 b1.1 b1.2 h1
    · refine laid_e2b au sq st ds nt os d p w hx a0 b1.1 b1.2 ?_
      unfold numB at a2
      simp only [Bool.and_eq_true, decide_eq_true_eq] at a2
      omega
  have c2 : chE ⟨au, sq, st, ds, nt, os⟩ 2 = 0 := by show eOf (numB st) 43 = 0; rw [a2]; rfl
  have b2 : 1 ≤ st ∧ st ≤ 1099511627776 := by unfold numB at a2; simpa only [Bool.and_eq_true, decide_eq_true_eq] using a2
  by_cases a3 : depsB ds = true
  case neg =>
    have a3' : depsB ds = false := by simpa using a3
    have e : chgE ⟨au, sq, st, ds, nt, os⟩ = 41 := chgE_at (j := 3) (by omega) (fun k hk => by
      rcases k with _ | _ | k
      · exact c0
      · exact c1
      obtain rfl : k = 0 := by omega
      exact c2) (by show eOf (depsB ds) 41 = 41; rw [a3']; rfl) (by omega)
    rw [chgB_no e (by omega), e]
    by_cases h1 : d.n ≤ 16
    · refine laid_e3b au sq st ds nt os d p w hx a0 b1.1 b1.2 b2.1 b2.2 h1 ?_
      unfold depsB at a3
      rw [hdn, decide_eq_true h1, Bool.true_and] at a3
      simpa using a3
    · exact laid_e3a au sq st ds nt os d p w hx a0 b1.1 b1.2 b2.1 b2.2 (by omega)
  have c3 : chE ⟨au, sq, st, ds, nt, os⟩ 3 = 0 := by show eOf (depsB ds) 41 = 0; rw [a3]; rfl
  have b3 : d.n ≤ 16 ∧ HS.upB ds = true := by
    unfold depsB at a3
    rw [hdn] at a3
    simpa only [Bool.and_eq_true, decide_eq_true_eq] using a3
  by_cases a4 : nt.length ≤ 1024
  case neg =>
    have e : chgE ⟨au, sq, st, ds, nt, os⟩ = 5 := chgE_at (j := 4) (by omega) (fun k hk => by
      rcases k with _ | _ | _ | k
      · exact c0
      · exact c1
      · exact c2
      obtain rfl : k = 0 := by omega
      exact c3) (by show eOf (decide (nt.length ≤ 1024)) 5 = 5; rw [decide_eq_false a4]; rfl) (by omega)
    rw [chgB_no e (by omega), e]
    exact laid_e4 au sq st ds nt os d p w hx a0 b1.1 b1.2 b2.1 b2.2 b3.1 b3.2 (by omega)
  have c4 : chE ⟨au, sq, st, ds, nt, os⟩ 4 = 0 := by show eOf (decide (nt.length ≤ 1024)) 5 = 0; rw [decide_eq_true a4]; rfl
  by_cases a5 : putE os = 0
  case neg =>
    have e : chgE ⟨au, sq, st, ds, nt, os⟩ = putE os := chgE_at (j := 5) (by omega) (fun k hk => by
      rcases k with _ | _ | _ | _ | k
      · exact c0
      · exact c1
      · exact c2
      · exact c3
      obtain rfl : k = 0 := by omega
      exact c4) rfl a5
    rw [chgB_no e a5, e]
    exact laid_e5 au sq st ds nt os d p w hx a0 b1.1 b1.2 b2.1 b2.2 b3.1 b3.2 a4 rfl a5
  have c5 : chE ⟨au, sq, st, ds, nt, os⟩ 5 = 0 := a5
  have hk : ∀ k, k < 6 → chE ⟨au, sq, st, ds, nt, os⟩ k = 0 := fun k hk => by
    rcases k with _ | _ | _ | _ | _ | k
    · exact c0
    · exact c1
    · exact c2
    · exact c3
    · exact c4
    obtain rfl : k = 0 := by omega
    exact c5
  have hgd : Good os := (good_iff hx.ok).1 a5
  have hC : layX au sq.toNat st.toNat ds nt (layB os) = layC ⟨au, sq, st, ds, nt, os⟩ := rfl
  by_cases a6 : (layC ⟨au, sq, st, ds, nt, os⟩).length ≤ 65536
  · have c6 : chE ⟨au, sq, st, ds, nt, os⟩ 6 = 0 := by show eOf (decide ((layC ⟨au, sq, st, ds, nt, os⟩).length ≤ 65536)) 5 = 0; rw [decide_eq_true a6]; rfl
    have e : chgE ⟨au, sq, st, ds, nt, os⟩ = 0 := chgE_zero.2 (fun j hj => by
      by_cases h : j < 6
      · exact hk j h
      obtain rfl : j = 6 := by omega
      exact c6)
    have eB : chgB ⟨au, sq, st, ds, nt, os⟩ = layC ⟨au, sq, st, ds, nt, os⟩ := by unfold chgB; rw [if_pos e]
    rw [e, eB]
    exact laid_ok au sq st ds nt os d p w hx a0 b1.1 b1.2 b2.1 b2.2 b3.1 b3.2 a4 sq.toNat st.toNat (by omega) (by omega) (name_len c0) a5 (layB_len hgd) hC (by rw [decide_eq_true a6]; rfl) (by rw [if_pos a6])
  · have e : chgE ⟨au, sq, st, ds, nt, os⟩ = 5 := chgE_at (j := 6) (by omega) hk (by show eOf (decide ((layC ⟨au, sq, st, ds, nt, os⟩).length ≤ 65536)) 5 = 5; rw [decide_eq_false a6]; rfl) (by omega)
    rw [chgB_no e (by omega), e]
    exact laid_ok au sq st ds nt os d p w hx a0 b1.1 b1.2 b2.1 b2.2 b3.1 b3.2 a4 sq.toNat st.toNat (by omega) (by omega) (name_len c0) a5 (layB_len hgd) hC (by rw [decide_eq_false a6]; rfl) (by rw [if_neg a6])

end Go.Proofs.YtgmdolpjkaajfaaGreatDoor
