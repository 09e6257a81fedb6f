/-
  few (7): are records few enough?
-/
import Derived.Test.YtcmcapcagblafaaXC
namespace Go.Proofs.Ytcmcapcagblafaa
open Go.RowKit Go.Maps Dsk
attribute [local go_sem] Oper.semAt_some
/-- How many parts records have. -/
def prt (x : Rx) : Nat := 1 + (min x.l.length 600 + min x.X.length 600)
def prts (X : List Rx) : Nat := (X.map prt).sum
theorem prts_take {X : List Rx} {i : Nat} {x : Rx} (h : X[i]? = some x) : prts (X.take (i + 1)) = prts (X.take i) + prt x := by
  unfold prts; rw [List.take_add_one, h]; simp
theorem prts_le (X : List Rx) (i : Nat) : prts (X.take i) ≤ prts X := by
  have h : prts X = prts (X.take i) + prts (X.drop i) := by
    unfold prts; rw [← List.sum_append, ← List.map_append, List.take_append_drop]
  omega
theorem prts_len : ∀ X : List Rx, X.length ≤ prts X
  | [] => Nat.zero_le _
  | x :: X => by
    have h := prts_len X
    unfold prts at h ⊢
    simp only [List.map_cons, List.sum_cons, List.length_cons]
    have : 1 ≤ prt x := by unfold prt; omega
    omega
theorem x_min7 {o : Oper} {a : Act} {x : Operand} {w : World} {p : Nat} (hop : o.op = .call { callee := .builtin .min, args := #[x, .const (.int .i64 600)], argTypes := #[3, 3] }) (hx : a.eval x = .int .i64 (p : Int)) : (execOp a.eval o).run Try.prog w = .ok (.value (.int .i64 ((min p 600 : Nat) : Int))) w := by
  have e : (if (600 : Int) < (p : Int) then (600 : Int) else (p : Int)) = ((min p 600 : Nat) : Int) := by split <;> omega
  have hm := run_min_int2 (P := Try.prog) (w := w) #[3, 3] o.type .i64 .i64 p 600
  rw [e] at hm
  have hy : a.eval (.const (.int .i64 600)) = .int .i64 600 := rfl
  simp [execOp, hop, resolve, invoke, builtin, hx, hy, hm, Result.andThen]
set_option maxRecDepth 100000 in
set_option maxHeartbeats 12800000 in
theorem few7 {la : Option Addr} {ca n : Nat} {X : List Rx} (hl : X.length = n) (hn : n < 4611686018427387904) {w : World} (hA : RsAt w la X) : Calls Try.prog 7 #[.slice la n ca] w fun e w' => e = .returned (.bool (decide (prts X ≤ 600))) ∧ After w w' := by
  have HL : Hid (RsAt w la X ∧ X.length = n) := ⟨hA, hl⟩
  clear hA hl
  go_enter Try.func7, Try.ntmps7
  go_wp2
  go_loopw [3, 4] (fun sv iv wr => ∃ (i s : Nat), i ≤ n ∧ s ≤ 600 ∧ iv = .int .i64 (i : Int) ∧ sv = .int .i64 (s : Int) ∧ Hid (After w wr ∧ prts (X.take i) = s)) (fun _ iv _ => n - (intOf iv).toNat)
  case atStart => exact ⟨0, 0, Nat.zero_le _, Nat.zero_le _, rfl, rfl, After.refl w, by simp [prts]⟩
  case round =>
    obtain ⟨i, s, hin, hs6, rfl, rfl, HP⟩ := hrel
    by_cases hlt : i < n
    · have hii : (i : Int) < (n : Int) := by omega
      have HLT : Hid (i < n) := hlt
      obtain ⟨x, hx⟩ : ∃ x, X[i]? = some x := ⟨_, List.getElem?_eq_getElem (by rw [HL.out.2]; exact hlt)⟩
      obtain ⟨xb, xo, hla, hlr⟩ := HL.out.1.sl.at (rs_get hx)
      subst hla
      obtain ⟨k, hk⟩ : ∃ k, x.X.length = k := ⟨_, rfl⟩
      obtain ⟨p, hp⟩ : ∃ p, x.l.length = p := ⟨_, rfl⟩
      have HX : Hid (wr.rangeAt xb (xo + i * 3) [.string (strOf x.nm), .slice x.ba k x.bc, .slice x.a p x.c]) := by have := range_after hlr HP.out.1; unfold rxc at this; rw [hk, hp] at this; exact this
      obtain ⟨q, hq⟩ : ∃ q, min p 600 = q := ⟨_, rfl⟩
      obtain ⟨r, hr⟩ : ∃ r, min k 600 = r := ⟨_, rfl⟩
      have HQ : Hid (min p 600 = q ∧ min k 600 = r ∧ s + (1 + (q + r)) < 4611686018427387904 ∧ q ≤ 600 ∧ r ≤ 600) := ⟨hq, hr, by omega, by omega, by omega⟩
      have HNX : Hid (prts (X.take (i + 1)) = s + (1 + (q + r))) := by
        unfold Hid
        rw [prts_take hx, HP.out.2]
        unfold prt
        rw [hk, hp, hq, hr]
      obtain ⟨u, hu⟩ : ∃ u, s + (1 + (q + r)) = u := ⟨_, rfl⟩
      have HU : Hid (s + (1 + (q + r)) = u) := hu
      clear hx hlr hk hp hq hr hu
      go_wp2
      refine wp_region_noPanic ?_
      refine wp_region_held_drew (S := After wr) (by kernel_rfl) (After.drew (After.refl wr)) ?_
      intro hS0
      refine tk 0 11 (.int .i64 (s : Int)) (fuel := 18) rfl (by kernel_rfl) (by kernel_rfl) (by kernel_rfl) (by kernel_rfl) noPanic_false (by kernel_rfl) (fun _ _ => by kernel_rfl) hS0 ?_
      refine tk 1 12 (.slice (some ⟨xb, xo, none⟩) n ca) (fuel := 17) rfl (by kernel_rfl) (by kernel_rfl) (by kernel_rfl) (by kernel_rfl) noPanic_false (by kernel_rfl) (fun _ _ => by kernel_rfl) hS0 ?_
      refine tk 2 13 (.int .i64 (i : Int)) (fuel := 16) rfl (by kernel_rfl) (by kernel_rfl) (by kernel_rfl) (by kernel_rfl) noPanic_false (by kernel_rfl) (fun _ _ => by kernel_rfl) hS0 ?_
      refine tk 3 14 (.pointer (some ⟨xb, xo + i * 3, none⟩)) (fuel := 15) rfl (by kernel_rfl) (by kernel_rfl) (by kernel_rfl) (by kernel_rfl) noPanic_false (by kernel_rfl) (fun W _ => x_ix22 (n := n) (c := ca) (x := .tmp 12) (y := .tmp 13) (by kernel_rfl) (by kernel_rfl) (by kernel_rfl) HLT.out) hS0 ?_
      refine tk 4 15 (.pointer (some ⟨xb, xo + i * 3 + 2, none⟩)) (fuel := 14) rfl (by kernel_rfl) (by kernel_rfl) (by kernel_rfl) (by kernel_rfl) noPanic_false (by kernel_rfl) (fun _ _ => by kernel_rfl) hS0 ?_
      refine tk 5 16 (.slice x.a p x.c) (fuel := 13) rfl (by kernel_rfl) (by kernel_rfl) (by kernel_rfl) (by kernel_rfl) noPanic_false (by kernel_rfl) (fun W hW => x_loadT (x := .tmp 15) (t := 39) (g := xb) (j := xo + i * 3 + 2) Try.underlying39 rfl (by kernel_rfl) (by kernel_rfl) (range_after HX.out hW 2 _ rfl)) hS0 ?_
      refine tk 6 17 (.int .i64 (p : Int)) (fuel := 12) rfl (by kernel_rfl) (by kernel_rfl) (by kernel_rfl) (by kernel_rfl) noPanic_false (by kernel_rfl) (fun _ _ => by kernel_rfl) hS0 ?_
      refine tk 7 18 (.int .i64 (q : Int)) (fuel := 11) rfl (by kernel_rfl) (by kernel_rfl) (by kernel_rfl) (by kernel_rfl) noPanic_false (by kernel_rfl) (fun W _ => (x_min7 (x := .tmp 17) (p := p) (by kernel_rfl) (by kernel_rfl)).trans (by rw [HQ.out.1])) hS0 ?_
      refine tk 8 19 (.int .i64 ((1 + q : Nat) : Int)) (fuel := 10) rfl (by kernel_rfl) (by kernel_rfl) (by kernel_rfl) (by kernel_rfl) noPanic_false (by kernel_rfl) (fun W _ => x_add3 (x := .const (.int .i64 1)) (y := .tmp 18) (p := 1) (q := q) (by kernel_rfl) (by kernel_rfl) (by kernel_rfl) rfl (by have := HQ.out; omega)) hS0 ?_
      refine tk 9 20 (.slice (some ⟨xb, xo, none⟩) n ca) (fuel := 9) rfl (by kernel_rfl) (by kernel_rfl) (by kernel_rfl) (by kernel_rfl) noPanic_false (by kernel_rfl) (fun _ _ => by kernel_rfl) hS0 ?_
      refine tk 10 21 (.int .i64 (i : Int)) (fuel := 8) rfl (by kernel_rfl) (by kernel_rfl) (by kernel_rfl) (by kernel_rfl) noPanic_false (by kernel_rfl) (fun _ _ => by kernel_rfl) hS0 ?_
      refine tk 11 22 (.pointer (some ⟨xb, xo + i * 3, none⟩)) (fuel := 7) rfl (by kernel_rfl) (by kernel_rfl) (by kernel_rfl) (by kernel_rfl) noPanic_false (by kernel_rfl) (fun W _ => x_ix22 (n := n) (c := ca) (x := .tmp 20) (y := .tmp 21) (by kernel_rfl) (by kernel_rfl) (by kernel_rfl) HLT.out) hS0 ?_
      refine tk 12 23 (.pointer (some ⟨xb, xo + i * 3 + 1, none⟩)) (fuel := 6) rfl (by kernel_rfl) (by kernel_rfl) (by kernel_rfl) (by kernel_rfl) noPanic_false (by kernel_rfl) (fun _ _ => by kernel_rfl) hS0 ?_
      refine tk 13 24 (.slice x.ba k x.bc) (fuel := 5) rfl (by kernel_rfl) (by kernel_rfl) (by kernel_rfl) (by kernel_rfl) noPanic_false (by kernel_rfl) (fun W hW => x_loadT (x := .tmp 23) (t := 38) (g := xb) (j := xo + i * 3 + 1) Try.underlying38 rfl (by kernel_rfl) (by kernel_rfl) (range_after HX.out hW 1 _ rfl)) hS0 ?_
      refine tk 14 25 (.int .i64 (k : Int)) (fuel := 4) rfl (by kernel_rfl) (by kernel_rfl) (by kernel_rfl) (by kernel_rfl) noPanic_false (by kernel_rfl) (fun _ _ => by kernel_rfl) hS0 ?_
      refine tk 15 26 (.int .i64 (r : Int)) (fuel := 3) rfl (by kernel_rfl) (by kernel_rfl) (by kernel_rfl) (by kernel_rfl) noPanic_false (by kernel_rfl) (fun W _ => (x_min7 (x := .tmp 25) (p := k) (by kernel_rfl) (by kernel_rfl)).trans (by rw [HQ.out.2.1])) hS0 ?_
      refine tk 16 27 (.int .i64 ((1 + (q + r) : Nat) : Int)) (fuel := 2) rfl (by kernel_rfl) (by kernel_rfl) (by kernel_rfl) (by kernel_rfl) noPanic_false (by kernel_rfl) (fun W _ => x_add3 (x := .tmp 19) (y := .tmp 26) (p := 1 + q) (q := r) (by kernel_rfl) (by kernel_rfl) (by kernel_rfl) (by omega) (by have := HQ.out; omega)) hS0 ?_
      refine tk 17 28 (.int .i64 (u : Int)) (fuel := 1) rfl (by kernel_rfl) (by kernel_rfl) (by kernel_rfl) (by kernel_rfl) noPanic_false (by kernel_rfl) (fun W _ => x_add3 (x := .tmp 11) (y := .tmp 27) (p := s) (q := 1 + (q + r)) (by kernel_rfl) (by kernel_rfl) (by kernel_rfl) HU.out (by rw [← HU.out]; exact HQ.out.2.2.1)) hS0 ?_
      refine tk 18 3 (.int .i64 (u : Int)) (fuel := 0) rfl (by kernel_rfl) (by kernel_rfl) (by kernel_rfl) (by kernel_rfl) noPanic_false (by kernel_rfl) (fun _ _ => by kernel_rfl) hS0 ?_
      refine wpAnyH_done (by kernel_rfl) (NoPanic.normal ?_) _
      have HFI : Hid (After w wr.drew ∧ prts (X.take (i + 1)) = u) := ⟨HP.out.1.trans (After.drew (After.refl wr)), by rw [← HU.out]; exact HNX.out⟩
      clear hS0
      go_simp
      by_cases h6 : u ≤ 600
      · have h6' : ¬ (600 : Int) < (u : Int) := by omega
        go_wp2
        go_roundw
        case rel => exact ⟨i + 1, u, by omega, h6, by go_num, rfl, HFI⟩
        case measure => simp [intOf]; omega
      · have h6' : (600 : Int) < (u : Int) := by omega
        have HBAD : Hid (¬ prts X ≤ 600) := fun h => by have h1 := prts_le X (i + 1); rw [HFI.out.2] at h1; omega
        go_wp2
        refine bodyPost_ret (v := .bool false) (by simp [results, Try.results7, go_sem]) rfl ⟨by rw [decide_eq_false HBAD.out], HFI.out.1⟩
    · have hii : ¬ (i : Int) < (n : Int) := by omega
      have HF : Hid (After w wr ∧ prts X ≤ 600) := ⟨HP.out.1, by have h := HP.out.2; rw [List.take_of_length_le (by rw [HL.out.2]; omega)] at h; omega⟩
      go_wp2
      refine bodyPost_ret (v := .bool true) (by simp [results, Try.results7, go_sem]) rfl ⟨by rw [decide_eq_true HF.out.2], HF.out.1⟩
end Go.Proofs.Ytcmcapcagblafaa
