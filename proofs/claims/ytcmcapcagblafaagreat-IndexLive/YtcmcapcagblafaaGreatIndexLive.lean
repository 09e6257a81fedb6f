/-
  PROVED: for every two slices of records that a call of stemmalaw17.IndexLive is handed, the call returns true and the slices read afterwards as they read before: the changes of any records, and whether two lists are the same, are told as the document says. CONDITIONS: none; no input is left out.
-/
import Derived.Test.YtcmcapcagblafaaGreatXC
import Derived.Test.YtcmcapcagblafaaGreatQH
import Derived.Test.YtcmcapcagblafaaGreatBH
import Derived.Test.YtcmcapcagblafaaGreatXG
import Derived.Test.YtcmcapcagblafaaGreatXL
import Derived.Test.YtcmcapcagblafaaGreatCP
import Derived.Test.YtcmcapcagblafaaGreatPO
namespace Go.Proofs.YtcmcapcagblafaaGreat
open Go.RowKit Go.Maps Dsk
attribute [local go_sem] Oper.semAt_some
/-- How many parts records have. -/
def prt (x : Rx) : Nat := 1 + (min x.l.length 600 + min x.X.length 600)
def prts (X : List Rx) : Nat := (X.map prt).sum
theorem prts_take {X : List Rx} {i : Nat} {x : Rx} (h : X[i]? = some x) : prts (X.take (i + 1)) = prts (X.take i) + prt x := by
  unfold prts; rw [List.take_add_one, h]; simp
theorem prts_le (X : List Rx) (i : Nat) : prts (X.take i) ≤ prts X := by
  have h : prts X = prts (X.take i) + prts (X.drop i) := by
    unfold prts; rw [← List.sum_append, ← List.map_append, List.take_append_drop]
  omega
theorem prts_len : ∀ X : List Rx, X.length ≤ prts X
  | [] => Nat.zero_le _
  | x :: X => by
    have h := prts_len X
    unfold prts at h ⊢
    simp only [List.map_cons, List.sum_cons, List.length_cons]
    have : 1 ≤ prt x := by unfold prt; omega
    omega
theorem x_min7 {o : Oper} {a : Act} {x : Operand} {w : World} {p : Nat} (hop : o.op = .call { callee := .builtin .min, args := #[x, .const (.int .i64 600)], argTypes := #[3, 3] }) (hx : a.eval x = .int .i64 (p : Int)) : (execOp a.eval o).run Tryz.prog w = .ok (.value (.int .i64 ((min p 600 : Nat) : Int))) w := by
  have e : (if (600 : Int) < (p : Int) then (600 : Int) else (p : Int)) = ((min p 600 : Nat) : Int) := by split <;> omega
  have hm := run_min_int2 (P := Tryz.prog) (w := w) #[3, 3] o.type .i64 .i64 p 600
  rw [e] at hm
  have hy : a.eval (.const (.int .i64 600)) = .int .i64 600 := rfl
  simp [execOp, hop, resolve, invoke, builtin, hx, hy, hm, Result.andThen]
set_option maxRecDepth 100000 in
set_option maxHeartbeats 12800000 in
theorem few7 {la : Option Addr} {ca n : Nat} {X : List Rx} (hl : X.length = n) (hn : n < 4611686018427387904) {w : World} (hA : RsAt w la X) : Calls Tryz.prog 4 #[.slice la n ca] w fun e w' => e = .returned (.bool (decide (prts X ≤ 600))) ∧ After w w' := by
  have HL : Hid (RsAt w la X ∧ X.length = n) := ⟨hA, hl⟩
  clear hA hl
  go_enter Tryz.func4, Tryz.ntmps4
  go_wp2
  go_loopw [3, 4] (fun sv iv wr => ∃ (i s : Nat), i ≤ n ∧ s ≤ 600 ∧ iv = .int .i64 (i : Int) ∧ sv = .int .i64 (s : Int) ∧ Hid (After w wr ∧ prts (X.take i) = s)) (fun _ iv _ => n - (intOf iv).toNat)
  case atStart => exact ⟨0, 0, Nat.zero_le _, Nat.zero_le _, rfl, rfl, After.refl w, by simp [prts]⟩
  case round =>
    obtain ⟨i, s, hin, hs6, rfl, rfl, HP⟩ := hrel
    by_cases hlt : i < n
    · have hii : (i : Int) < (n : Int) := by omega
      have HLT : Hid (i < n) := hlt
      obtain ⟨x, hx⟩ : ∃ x, X[i]? = some x := ⟨_, List.getElem?_eq_getElem (by rw [HL.out.2]; exact hlt)⟩
      obtain ⟨xb, xo, hla, hlr⟩ := HL.out.1.sl.at (rs_get hx)
      subst hla
      obtain ⟨k, hk⟩ : ∃ k, x.X.length = k := ⟨_, rfl⟩
      obtain ⟨p, hp⟩ : ∃ p, x.l.length = p := ⟨_, rfl⟩
      have HX : Hid (wr.rangeAt xb (xo + i * 3) [.string (strOf x.nm), .slice x.ba k x.bc, .slice x.a p x.c]) := by have := range_after hlr HP.out.1; unfold rxc at this; rw [hk, hp] at this; exact this
      obtain ⟨q, hq⟩ : ∃ q, min p 600 = q := ⟨_, rfl⟩
      obtain ⟨r, hr⟩ : ∃ r, min k 600 = r := ⟨_, rfl⟩
      have HQ : Hid (min p 600 = q ∧ min k 600 = r ∧ s + (1 + (q + r)) < 4611686018427387904 ∧ q ≤ 600 ∧ r ≤ 600) := ⟨hq, hr, by omega, by omega, by omega⟩
      have HNX : Hid (prts (X.take (i + 1)) = s + (1 + (q + r))) := by
        unfold Hid
        rw [prts_take hx, HP.out.2]
        unfold prt
        rw [hk, hp, hq, hr]
      obtain ⟨u, hu⟩ : ∃ u, s + (1 + (q + r)) = u := ⟨_, rfl⟩
      have HU : Hid (s + (1 + (q + r)) = u) := hu
      clear hx hlr hk hp hq hr hu
      go_wp2
      refine wp_region_noPanic ?_
      refine wp_region_held_drew (S := After wr) (by kernel_rfl) (After.drew (After.refl wr)) ?_
      intro hS0
      refine tk 0 11 (.int .i64 (s : Int)) (fuel := 18) rfl (by kernel_rfl) (by kernel_rfl) (by kernel_rfl) (by kernel_rfl) noPanic_false (by kernel_rfl) (fun _ _ => by kernel_rfl) hS0 ?_
      refine tk 1 12 (.slice (some ⟨xb, xo, none⟩) n ca) (fuel := 17) rfl (by kernel_rfl) (by kernel_rfl) (by kernel_rfl) (by kernel_rfl) noPanic_false (by kernel_rfl) (fun _ _ => by kernel_rfl) hS0 ?_
      refine tk 2 13 (.int .i64 (i : Int)) (fuel := 16) rfl (by kernel_rfl) (by kernel_rfl) (by kernel_rfl) (by kernel_rfl) noPanic_false (by kernel_rfl) (fun _ _ => by kernel_rfl) hS0 ?_
      refine tk 3 14 (.pointer (some ⟨xb, xo + i * 3, none⟩)) (fuel := 15) rfl (by kernel_rfl) (by kernel_rfl) (by kernel_rfl) (by kernel_rfl) noPanic_false (by kernel_rfl) (fun W _ => x_idx22 (n := n) (c := ca) (x := .tmp 12) (y := .tmp 13) (by kernel_rfl) (by kernel_rfl) (by kernel_rfl) HLT.out) hS0 ?_
      refine tk 4 15 (.pointer (some ⟨xb, xo + i * 3 + 2, none⟩)) (fuel := 14) rfl (by kernel_rfl) (by kernel_rfl) (by kernel_rfl) (by kernel_rfl) noPanic_false (by kernel_rfl) (fun _ _ => by kernel_rfl) hS0 ?_
      refine tk 5 16 (.slice x.a p x.c) (fuel := 13) rfl (by kernel_rfl) (by kernel_rfl) (by kernel_rfl) (by kernel_rfl) noPanic_false (by kernel_rfl) (fun W hW => x_loadT (x := .tmp 15) (t := 26) (g := xb) (j := xo + i * 3 + 2) Tryz.underlying26 rfl (by kernel_rfl) (by kernel_rfl) (range_after HX.out hW 2 _ rfl)) hS0 ?_
      refine tk 6 17 (.int .i64 (p : Int)) (fuel := 12) rfl (by kernel_rfl) (by kernel_rfl) (by kernel_rfl) (by kernel_rfl) noPanic_false (by kernel_rfl) (fun _ _ => by kernel_rfl) hS0 ?_
      refine tk 7 18 (.int .i64 (q : Int)) (fuel := 11) rfl (by kernel_rfl) (by kernel_rfl) (by kernel_rfl) (by kernel_rfl) noPanic_false (by kernel_rfl) (fun W _ => (x_min7 (x := .tmp 17) (p := p) (by kernel_rfl) (by kernel_rfl)).trans (by rw [HQ.out.1])) hS0 ?_
      refine tk 8 19 (.int .i64 ((1 + q : Nat) : Int)) (fuel := 10) rfl (by kernel_rfl) (by kernel_rfl) (by kernel_rfl) (by kernel_rfl) noPanic_false (by kernel_rfl) (fun W _ => x_add3 (x := .const (.int .i64 1)) (y := .tmp 18) (p := 1) (q := q) (by kernel_rfl) (by kernel_rfl) (by kernel_rfl) rfl (by have := HQ.out; omega)) hS0 ?_
      refine tk 9 20 (.slice (some ⟨xb, xo, none⟩) n ca) (fuel := 9) rfl (by kernel_rfl) (by kernel_rfl) (by kernel_rfl) (by kernel_rfl) noPanic_false (by kernel_rfl) (fun _ _ => by kernel_rfl) hS0 ?_
      refine tk 10 21 (.int .i64 (i : Int)) (fuel := 8) rfl (by kernel_rfl) (by kernel_rfl) (by kernel_rfl) (by kernel_rfl) noPanic_false (by kernel_rfl) (fun _ _ => by kernel_rfl) hS0 ?_
      refine tk 11 22 (.pointer (some ⟨xb, xo + i * 3, none⟩)) (fuel := 7) rfl (by kernel_rfl) (by kernel_rfl) (by kernel_rfl) (by kernel_rfl) noPanic_false (by kernel_rfl) (fun W _ => x_idx22 (n := n) (c := ca) (x := .tmp 20) (y := .tmp 21) (by kernel_rfl) (by kernel_rfl) (by kernel_rfl) HLT.out) hS0 ?_
      refine tk 12 23 (.pointer (some ⟨xb, xo + i * 3 + 1, none⟩)) (fuel := 6) rfl (by kernel_rfl) (by kernel_rfl) (by kernel_rfl) (by kernel_rfl) noPanic_false (by kernel_rfl) (fun _ _ => by kernel_rfl) hS0 ?_
      refine tk 13 24 (.slice x.ba k x.bc) (fuel := 5) rfl (by kernel_rfl) (by kernel_rfl) (by kernel_rfl) (by kernel_rfl) noPanic_false (by kernel_rfl) (fun W hW => x_loadT (x := .tmp 23) (t := 30) (g := xb) (j := xo + i * 3 + 1) Tryz.underlying30 rfl (by kernel_rfl) (by kernel_rfl) (range_after HX.out hW 1 _ rfl)) hS0 ?_
      refine tk 14 25 (.int .i64 (k : Int)) (fuel := 4) rfl (by kernel_rfl) (by kernel_rfl) (by kernel_rfl) (by kernel_rfl) noPanic_false (by kernel_rfl) (fun _ _ => by kernel_rfl) hS0 ?_
      refine tk 15 26 (.int .i64 (r : Int)) (fuel := 3) rfl (by kernel_rfl) (by kernel_rfl) (by kernel_rfl) (by kernel_rfl) noPanic_false (by kernel_rfl) (fun W _ => (x_min7 (x := .tmp 25) (p := k) (by kernel_rfl) (by kernel_rfl)).trans (by rw [HQ.out.2.1])) hS0 ?_
      refine tk 16 27 (.int .i64 ((1 + (q + r) : Nat) : Int)) (fuel := 2) rfl (by kernel_rfl) (by kernel_rfl) (by kernel_rfl) (by kernel_rfl) noPanic_false (by kernel_rfl) (fun W _ => x_add3 (x := .tmp 19) (y := .tmp 26) (p := 1 + q) (q := r) (by kernel_rfl) (by kernel_rfl) (by kernel_rfl) (by omega) (by have := HQ.out; omega)) hS0 ?_
      refine tk 17 28 (.int .i64 (u : Int)) (fuel := 1) rfl (by kernel_rfl) (by kernel_rfl) (by kernel_rfl) (by kernel_rfl) noPanic_false (by kernel_rfl) (fun W _ => x_add3 (x := .tmp 11) (y := .tmp 27) (p := s) (q := 1 + (q + r)) (by kernel_rfl) (by kernel_rfl) (by kernel_rfl) HU.out (by rw [← HU.out]; exact HQ.out.2.2.1)) hS0 ?_
      refine tk 18 3 (.int .i64 (u : Int)) (fuel := 0) rfl (by kernel_rfl) (by kernel_rfl) (by kernel_rfl) (by kernel_rfl) noPanic_false (by kernel_rfl) (fun _ _ => by kernel_rfl) hS0 ?_
      refine wpAnyH_done (by kernel_rfl) (NoPanic.normal ?_) _
      have HFI : Hid (After w wr.drew ∧ prts (X.take (i + 1)) = u) := ⟨HP.out.1.trans (After.drew (After.refl wr)), by rw [← HU.out]; exact HNX.out⟩
      clear hS0
      go_simp
      by_cases h6 : u ≤ 600
      · have h6' : ¬ (600 : Int) < (u : Int) := by omega
        go_wp2
        go_roundw
        case rel => exact ⟨i + 1, u, by omega, h6, by go_num, rfl, HFI⟩
        case measure => simp [intOf]; omega
      · have h6' : (600 : Int) < (u : Int) := by omega
        have HBAD : Hid (¬ prts X ≤ 600) := fun h => by have h1 := prts_le X (i + 1); rw [HFI.out.2] at h1; omega
        go_wp2
        refine bodyPost_ret (v := .bool false) (by simp [results, Tryz.results4, go_sem]) rfl ⟨by rw [decide_eq_false HBAD.out], HFI.out.1⟩
    · have hii : ¬ (i : Int) < (n : Int) := by omega
      have HF : Hid (After w wr ∧ prts X ≤ 600) := ⟨HP.out.1, by have h := HP.out.2; rw [List.take_of_length_le (by rw [HL.out.2]; omega)] at h; omega⟩
      go_wp2
      refine bodyPost_ret (v := .bool true) (by simp [results, Tryz.results4, go_sem]) rfl ⟨by rw [decide_eq_true HF.out.2], HF.out.1⟩
end Go.Proofs.YtcmcapcagblafaaGreat

namespace Go.Proofs.YtcmcapcagblafaaGreat
open Go.RowKit Go.Maps Dsk
attribute [local go_sem] Oper.semAt_some
/-- The changes of all records, one behind the other. -/
def chs (X : List Rx) : List H := (X.map (·.l)).flatten
theorem chs_next {X : List Rx} {i : Nat} {x : Rx} (h : X[i]? = some x) : chs (X.take (i + 1)) = chs (X.take i) ++ x.l := by
  unfold chs; rw [List.take_add_one, h]; simp
theorem chs_app (X Y : List Rx) : chs (X ++ Y) = chs X ++ chs Y := by simp [chs]
theorem chs_le (X : List Rx) (i : Nat) : (chs (X.take i)).length ≤ (chs X).length := by
  have h : chs X = chs (X.take i) ++ chs (X.drop i) := by rw [← chs_app, List.take_append_drop]
  rw [h, List.length_append]; omega
theorem chs_32 {W : World} {a : Option Addr} {X : List Rx} (h : RsAt W a X) : All32 (chs X) := fun y hy => by
  obtain ⟨l, hl, hy2⟩ := List.mem_flatten.1 hy
  obtain ⟨x, hx, rfl⟩ := List.mem_map.1 hl
  exact (h.each x hx).l32 y hy2
theorem chs_few : ∀ {X : List Rx}, prts X ≤ 600 → (chs X).length ≤ prts X
  | [], _ => Nat.zero_le _
  | x :: X, h => by
    have e : prts (x :: X) = prt x + prts X := by simp [prts]
    have e2 : chs (x :: X) = x.l ++ chs X := by simp [chs]
    rw [e] at h
    have h1 := chs_few (X := X) (by omega)
    rw [e, e2, List.length_append]
    have : x.l.length ≤ prt x := by
      have hp : prt x ≤ 600 := by omega
      unfold prt at hp ⊢
      omega
    omega
/-- What the loop keeps. -/
def LvI (w : World) (X : List Rx) (i : Nat) (v : Value) (wr : World) : Prop := After w wr ∧ OwnL wr w.heap.size 40 32 v (hsL (chs (X.take i)))
def LvT (w : World) (X : List Rx) (N : Nat) (e : Ending) (w' : World) : Prop := ∃ a c k s, e = .returned (.slice a k c) ∧ s.length = k ∧ k ≤ N ∧ HsAt w' a s ∧ All32 s ∧ Up s ∧ (∀ h, h ∈ s ↔ h ∈ chs X) ∧ After w w'
set_option maxRecDepth 100000 in
set_option maxHeartbeats 12800000 in
theorem live17 {la : Option Addr} {ca n : Nat} {X : List Rx} (hl : X.length = n) (hn : n ≤ 100000) {N : Nat} (hN : (chs X).length ≤ N) (hbig : N ≤ 100000) {w : World} (hA : RsAt w la X) : Calls Tryz.prog 7 #[.slice la n ca] w (LvT w X N) := by
  have HL : Hid (RsAt w la X ∧ X.length = n ∧ (chs X).length ≤ N ∧ N ≤ 100000) := ⟨hA, hl, hN, hbig⟩
  clear hA hl hN hbig
  go_enter Tryz.func7, Tryz.ntmps7
  go_wp2
  go_loopw [3, 8] (fun v iv wr => ∃ (i m c : Nat) (a : Option Addr), i ≤ n ∧ v = .slice a m c ∧ iv = .int .i64 (i : Int) ∧ Hid (LvI w X i (.slice a m c) wr ∧ (chs (X.take i)).length = m)) (fun _ iv _ => n - (intOf iv).toNat)
  case atStart => exact ⟨0, 0, 0, none, Nat.zero_le _, rfl, rfl, ⟨After.refl w, by simp only [List.take_zero]; exact OwnL.nil _ _ _ _⟩, by simp [chs]⟩
  case round =>
    obtain ⟨i, m, c, a, hin, rfl, rfl, HP⟩ := hrel
    by_cases hlt : i < n
    · have hii : (i : Int) < (n : Int) := by omega
      have HLT : Hid (i < n) := hlt
      obtain ⟨x, hx⟩ : ∃ x, X[i]? = some x := ⟨_, List.getElem?_eq_getElem (by rw [HL.out.2.1]; exact hlt)⟩
      have hxb := HL.out.1.each x (List.mem_of_getElem? hx)
      obtain ⟨xb, xo, hla, hlr⟩ := HL.out.1.sl.at (rs_get hx)
      subst hla
      have HX : Hid (wr.rangeAt xb (xo + i * 3) (rxc x)) := range_after hlr HP.out.1.1
      obtain ⟨k, hk⟩ : ∃ k, x.X.length = k := ⟨_, rfl⟩
      obtain ⟨p, hp⟩ : ∃ p, x.l.length = p := ⟨_, rfl⟩
      obtain ⟨w2, hw2⟩ : ∃ w2, (wr.alloc (.cells (rxc zrx).toArray 32)).setRow wr.heap.size (rxc x).toArray = w2 := ⟨_, rfl⟩
      have hbb := put41 hw2
      obtain ⟨gb, hgb⟩ : ∃ gb, wr.heap.size = gb := ⟨_, rfl⟩
      have HB := show Hid _ from hbb
      have HGW := show Hid _ from hw2
      rw [hgb] at HB HGW
      have HGA := show Hid (wr.heap.size = gb) from hgb
      have hb' := HB.out.2.1
      unfold rxc at hb'
      rw [hk, hp] at hb'
      have hA2 : After w w2 := HP.out.1.1.trans HB.out.2.2
      have hcn := chs_next hx
      have hcl := chs_le X (i + 1)
      have hlen : (hsL (chs (X.take i))).length = m := by rw [hs_len]; exact HP.out.2
      have o2 : OwnL w2 w.heap.size 40 32 (.slice a m c) (hsL (chs (X.take i))) := HP.out.1.2.same (fun b e => HB.out.2.2.block b (own_lt HP.out.1.2.2 e).2.1)
      obtain ⟨q, hq, hz0⟩ := Option.map_eq_some_iff.1 info50
      simp only [Prod.mk.injEq] at hz0
      obtain ⟨hz1, hz2, hz3⟩ := hz0
      have hmp : m + p = (chs (X.take (i + 1))).length := by rw [hcn, List.length_append, hp, HP.out.2]
      have hmp2 : m + p ≤ 100000 := by have := HL.out.2.2; omega
      obtain ⟨va, vc, w6, r1, r2, r3, _⟩ := run_appL (t := 26) 26 40 32 32 Tryz.underlying26 hq hz1 hz2 hz3 (by simp [Value.cells]) (by omega) o2 (N := hsL x.l) (a := x.a) (m := p) (c := x.c) (by rw [hs_len, hp]) (hxb.sl.after hA2) (hs_one _) (by rw [hlen]; unfold maxLen; omega) (by rw [hlen]; omega) hA2.size (fun _ e => hxb.zC e)
      rw [hlen] at r1 r2
      have HR6 : Hid ((Builtin.append_ #[26, 26] 26 #[.slice a m c, .slice x.a p x.c]).run Tryz.prog w2 = .ok (.slice va (m + p) vc) w6) := r1
      have HN6 : Hid (LvI w X (i + 1) (.slice va (m + p) vc) w6 ∧ (chs (X.take (i + 1))).length = m + p) := ⟨⟨after_grown hA2 r3 (Nat.le_refl _) (fun j hj => (own_lt o2.2 hj).1), by
        rw [hcn]; unfold hsL at r2 ⊢; rw [List.map_append]; exact r2⟩, hmp.symm⟩
      have d2 : w2.cell? ⟨gb, 2, none⟩ = some (.slice x.a p x.c) := (show RowIs w2 gb 32 [.string (strOf x.nm), .slice x.ba k x.bc, .slice x.a p x.c] from hb').cell (j := 2) rfl
      clear hx hxb hlr hk hp hw2 hbb hgb hb' hA2 hcn hcl hlen o2 hq hz1 hz2 hz3 hmp hmp2 r1 r2 r3
      go_wp2_with (first
        | (refine wpList_of_run rfl (x_idx22 (x := .tmp 6) (y := .tmp 8) (b := xb) (f := xo) (n := n) (c := ca) (i := i) rfl (by kernel_rfl) (by kernel_rfl) HLT.out) ?_)
        | (refine wpList_of_run rfl (x_ld41 (x := .tmp 10) (g := xb) (p := xo + i * 3) (y := x) rfl (by kernel_rfl) HX.out) ?_)
        | (refine wpList_of_run rfl (x_al41 rfl) ?_; rw [HGA.out])
        | (refine wpList_store_row rfl 32 (.tmp 5) (.tmp 11) rfl gb (rxc x).toArray (by kernel_rfl) (by kernel_rfl) 32 _ HB.out.1 (size41 x) rfl (by simpa using rs_one [x] (rxc x) (by simp [rsL])) ?_; rw [HGW.out])
        | (refine wpList_of_run rfl (x_app (t := 26) (s := .tmp 12) (x := .tmp 14) rfl rfl rfl HR6.out) ?_))
      go_roundw
      case rel => exact ⟨i + 1, m + p, vc, va, by omega, rfl, by go_num, HN6⟩
      case measure => simp [intOf]; omega
    · have hii : ¬ (i : Int) < (n : Int) := by omega
      have hall : X.take i = X := List.take_of_length_le (by rw [HL.out.2.1]; omega)
      have ho := HP.out.1.2
      have hm := HP.out.2
      rw [hall] at ho hm
      have h32 := chs_32 HL.out.1
      have hat : HsAt wr a (chs X) := by
        obtain ⟨a9, c9, e9, h9⟩ := ho.sl
        rw [hs_len, hm] at e9
        injection e9 with e1 _ _
        subst e1
        exact h9.hs h32
      have HS : Hid (Calls Tryz.prog 14 #[.slice a m c] wr fun e w' => ∃ v s, e = .returned v ∧ OwnH w' wr.heap.size v s ∧ All32 s ∧ Up s ∧ (∀ h, h ∈ s ↔ h ∈ chs X) ∧ s.length ≤ m ∧ After wr w') := sort12 sokM a c (chs X) h32 m hm (by have := HL.out.2.2; omega) (by have := HL.out.2.2; omega) wr hat
      have HM : Hid (m ≤ N ∧ After w wr) := ⟨by have := HL.out.2.2.1; omega, HP.out.1.1⟩
      clear ho hm hall h32 hat
      go_wp2_with (go_at_call 14; refine Calls.mono HS.out ?_; rintro e w3 ⟨v, s, rfl, h1, h2, h3, h4, h5, h6⟩
                   obtain ⟨a3, c3, rfl, hat3, _⟩ := h1.at
                   obtain ⟨k3, hk3⟩ : ∃ k3, s.length = k3 := ⟨_, rfl⟩
                   rw [hk3]
                   have H3 : Hid (HsAt w3 a3 s ∧ All32 s ∧ Up s ∧ (∀ h, h ∈ s ↔ h ∈ chs X) ∧ s.length = k3 ∧ k3 ≤ N ∧ After w w3) := ⟨hat3, h2, h3, h4, hk3, by have := HM.out.1; omega, HM.out.2.trans h6⟩
                   clear h1 h2 h3 h4 h5 h6 hat3 hk3)
      refine bodyPost_ret (v := .slice a3 k3 c3) (by simp [results, Tryz.results7, go_sem]) rfl ⟨a3, c3, k3, s, rfl, H3.out.2.2.2.2.1, H3.out.2.2.2.2.2.1, H3.out.1, H3.out.2.1, H3.out.2.2.1, H3.out.2.2.2.1, H3.out.2.2.2.2.2.2⟩
end Go.Proofs.YtcmcapcagblafaaGreat

namespace Go.Proofs.YtcmcapcagblafaaGreat
section
open Go.RowKit Go.Maps
section
variable {a : Act} {w : World} {oi : Oper}
theorem x_eq24 {x y : Operand} {h k : Hs} (hh : h.length = 32) (hk : k.length = 32) (hop : oi.op = .binOp .eql 40 x y 40) (hx : a.eval x = hv h) (hy : a.eval y = hv k) : (execOp a.eval oi).run Tryz.prog w = .ok (.value (.bool (decide (h = k)))) w := by
  have he := eq24 h k hh hk w
  unfold execOp
  simp only [hop, hx, hy]
  unfold hv
  simp [go_sem, he]
end
end
section
open Go.RowKit Go.Sort
theorem info24b : (Tryz.prog.info? 40).map (fun i => (i.hasPointers, i.size, i.bytes)) = some (false, 32, 32) := by kernel_rfl
def cut22 (ao : Option Addr) (k c : Nat) : Option Addr := if c = k then ao else ao.map fun a => a.add (k * 32)
theorem HsAt.take {w : World} {ao : Option Addr} {l : List Hs} (h : HsAt w ao l) (h32 : All32 l) (k : Nat) : HsAt w ao (l.take k) := by
  unfold HsAt
  rw [← flat_take k h32]
  exact BytesAt.take h _
theorem HsAt.drop {w : World} {ao : Option Addr} {l : List Hs} (h : HsAt w ao l) (h32 : All32 l) (k c : Nat) (hc : l.length ≤ c) : HsAt w (cut22 ao k c) (l.drop k) := by
  intro hne
  have hne' : l.drop k ≠ [] := fun e => by rw [e] at hne; simp at hne
  have hk : k < l.length := by
    rcases Nat.lt_or_ge k l.length with h | h
    · exact h
    · rw [List.drop_eq_nil_of_le h] at hne'; exact absurd rfl hne'
  obtain ⟨b, o, e, hcc⟩ := h (flat_ne h32 (fun e => by rw [e] at hk; simp at hk))
  refine ⟨b, o + k * 32, by rw [e]; unfold cut22; rw [if_neg (by omega)]; simp [Addr.add_mid], fun j hj => ?_⟩
  have hl : j < l.flatten.length - k * 32 := by rw [← flat_drop k h32, List.length_drop] at hj; exact hj
  have := hcc (k * 32 + j) (by omega)
  rw [← flat_drop k h32]
  simp only [List.getD, List.getElem?_drop] at this ⊢
  rw [show o + k * 32 + j = o + (k * 32 + j) by omega]
  exact this

theorem sl22_hi (ao : Option Addr) (n c k : Nat) (hk : k ≤ c) (hz : ao = none → c = 0) (W : World) : (Instr.sliceAt 26 (.slice ao n c) none (some (.int .i64 (k : Int))) none).run Tryz.prog W = .ok (.slice ao k c) W := by
  obtain ⟨i, hi', hzz⟩ := Option.map_eq_some_iff.1 info24b
  simp only [Prod.mk.injEq] at hzz
  obtain ⟨_, hsz, _⟩ := hzz
  cases ao with
  | none =>
    obtain rfl : c = 0 := hz rfl
    obtain rfl : k = 0 := by omega
    simp [Instr.sliceAt, Instr.slice, run_underlying Tryz.underlying26, Instr.sliceBounds, Instr.sliceBound, asIntOf, sizeOf, typeInfo, hi']
  | some a =>
    by_cases h0 : c = 0
    · obtain rfl : k = 0 := by omega
      simp [Instr.sliceAt, Instr.slice, run_underlying Tryz.underlying26, Instr.sliceBounds, Instr.sliceBound, asIntOf, sizeOf, typeInfo, hi', h0]
    · simp [Instr.sliceAt, Instr.slice, run_underlying Tryz.underlying26, Instr.sliceBounds, Instr.sliceBound, asIntOf, sizeOf, typeInfo, hi', hk, Addr.add]
theorem sl22_lo (ao : Option Addr) (n c k : Nat) (hn : n ≤ c) (hk : k ≤ n) (hz : ao = none → c = 0) (W : World) : (Instr.sliceAt 26 (.slice ao n c) (some (.int .i64 (k : Int))) none none).run Tryz.prog W = .ok (.slice (cut22 ao k c) (n - k) (c - k)) W := by
  obtain ⟨i, hi', hzz⟩ := Option.map_eq_some_iff.1 info24b
  simp only [Prod.mk.injEq] at hzz
  obtain ⟨_, hsz, _⟩ := hzz
  cases ao with
  | none =>
    obtain rfl : c = 0 := hz rfl
    obtain rfl : n = 0 := by omega
    obtain rfl : k = 0 := by omega
    simp [Instr.sliceAt, Instr.slice, run_underlying Tryz.underlying26, Instr.sliceBounds, Instr.sliceBound, asIntOf, sizeOf, typeInfo, hi', cut22]
  | some a =>
    by_cases h : c = k
    · simp [Instr.sliceAt, Instr.slice, run_underlying Tryz.underlying26, Instr.sliceBounds, Instr.sliceBound, asIntOf, sizeOf, typeInfo, hi', hsz, cut22, h]
      intro h2; omega
    · simp [Instr.sliceAt, Instr.slice, run_underlying Tryz.underlying26, Instr.sliceBounds, Instr.sliceBound, asIntOf, sizeOf, typeInfo, hi', hsz, cut22, h, hk]

section
variable {ops : Array Oper} {Q : Exit → Act → World → Prop} {K : Act → World → Prop} {a : Act} {w : World} {oi : Oper}
theorem x_sl22 {x y : Operand} {ao : Option Addr} {n c k : Nat} (hop : oi.op = .slice 26 x none (some y) none) (hx : a.eval x = .slice ao n c) (hy : a.eval y = .int .i64 (k : Int)) (hk : k ≤ c) (hz : ao = none → c = 0) : (execOp a.eval oi).run Tryz.prog w = .ok (.value (.slice ao k c)) w := by
  unfold execOp
  simp only [hop, hx, hy, Option.map, Sem.run_bind, sl22_hi ao n c k hk hz w, Result.andThen_ok]
  rfl
theorem x_bs22 {x : Operand} {h : Hs} (h32 : h.length = 32) (hop : oi.op = .buildSlice 26 1 #[(0, x)]) (hx : a.eval x = hv h) : (execOp a.eval oi).run Tryz.prog w = .ok (.value (.slice (some ⟨w.heap.size, 0, none⟩) 1 1)) (w.alloc (.cells (c8 h).toArray 40)) := by
  unfold execOp
  simp [hop, hx, bs22 w h32]
theorem opAppH (i d : Nat) (s x : Operand) (base : Nat) (sl : Value) (l : List Hs) (ao : Option Addr) (k c : Nat) (news : List Hs) (hi : ops[i]? = some oi) (hd : oi.dst = some d) (ho : oi.op = .call { callee := .builtin .append, args := #[s, x], argTypes := #[26, 26] })
    (hw : Region.wanted oi (yielded ops a.tmps) = true) (hs : a.eval s = sl) (hk : news.length = k) (hx : a.eval x = .slice ao k c) (h32 : All32 news) (hown : OwnH w base sl l) (hat : HsAt w ao news) (hbig : l.length + news.length ≤ 1000000) (hbase : base ≤ w.heap.size)
    (h : ∀ v' w', OwnH w' base v' (l ++ news) → w.grownBy w' sl.ownBlock → K (a.put (some d) v') w') : wpOp Tryz.prog ops Q i K a w := by
  refine wpOp_step hi (fun K' hK => ?_)
  rw [if_pos hw]
  obtain ⟨inf, z, hinf, hz, hsz, hby, hzs, _⟩ := info24
  have hrun : ∃ v' w', (Builtin.append_ #[26, 26] oi.type #[sl, .slice ao k c]).run Tryz.prog w = .ok v' w' ∧ OwnH w' base v' (l ++ news) ∧ w.grownBy w' sl.ownBlock := by
    subst hk
    cases ao with
    | none =>
      obtain rfl : news = [] := Classical.byContradiction fun hn => by obtain ⟨b, o, he, _⟩ := hat (flat_ne h32 hn); cases he
      obtain ⟨ao', cap', hv, _, hle, _⟩ := hown.at
      have hr := run_append_nothing (P := Tryz.prog) w 26 26 oi.type 40 inf Tryz.underlying26 hinf ao' l.length cap' hle (.slice none 0 c) (Src.ofNil w Tryz.underlying26 c)
      rw [← hv] at hr
      exact ⟨sl, w, hr, by rw [List.append_nil]; exact hown, ⟨rfl, rfl, rfl, Nat.le_refl _, fun _ _ _ => rfl⟩⟩
    | some ad =>
      obtain ⟨v', w', h1, h2, h3, _⟩ := run_append_own (P := Tryz.prog) w base 26 oi.type 40 inf z 32 32 Tryz.underlying26 hinf hz hsz hby hzs (by omega) sl l.length (c8 l.flatten) hown ad news.length c (c8 news.flatten) (by rw [c8_len, flat_len h32]) (fun j u hu => by
        have hj := (List.getElem?_eq_some_iff.1 hu).1
        rw [c8_len] at hj
        obtain ⟨b, o, he, hc⟩ := hat (by intro h; rw [h] at hj; simp at hj)
        cases he
        rw [c8_get _ j hj] at hu
        rw [Addr.add_mid, hc j hj, hu]) (c8_one _) (by unfold maxLen; omega) (by omega) hbase
      exact ⟨v', w', h1, by unfold OwnH; rw [List.flatten_append, c8_append, List.length_append]; exact h2, h3⟩
  obtain ⟨v', w', h1, h2, h3⟩ := hrun
  unfold Oper.wp
  simp [execOp, ho, resolve, invoke, builtin, hs, hx, h1, Result.andThen]
  show K' (a.put oi.dst v') w'
  rw [hd]
  exact hK _ _ (h v' w' h2 h3)
end
/-- A rising list in memory. -/
structure WS (W : World) (ao : Option Addr) (n ca : Nat) (l : List Hs) : Prop where
  at_ : HsAt W ao l
  a32 : All32 l
  up : Up l
  len : l.length = n
  cap : n ≤ ca
  nil : ao = none → ca = 0
theorem WS.after {W W' : World} {ao : Option Addr} {n ca : Nat} {l : List Hs} (h : WS W ao n ca l) (ha : After W W') : WS W' ao n ca l := ⟨h.at_.after ha, h.a32, h.up, h.len, h.cap, h.nil⟩
def With (W : World) (l : List Hs) (n : Nat) (h : Hs) (e : Ending) (w' : World) : Prop :=
  ∃ (o : Option Addr) (k c : Nat) (s : List Hs), e = .returned (.slice o k c) ∧ WS w' o k c s ∧ (∀ x, x ∈ s ↔ x = h ∨ x ∈ l) ∧ k ≤ n + 1 ∧ After W w'
theorem Up.ins {l : List Hs} {h : Hs} {i : Nat} (hu : Up l) (h32 : All32 l) (hh : h.length = 32) (hb : ∀ j x, j < i → l[j]? = some x → ltB x h = true) (ha : ∀ x, l[i]? = some x → ltB x h = false ∧ ¬ x = h) : Up (l.take i ++ [h] ++ l.drop i) := by
  have hlt : ∀ x ∈ l.take i, ltStr x h = true := fun x hx => by
    obtain ⟨j, hj, e⟩ := List.getElem_of_mem hx
    have hj2 : j < i := by have := hj; rw [List.length_take] at this; omega
    have e2 : l[j]? = some x := by rw [← e, List.getElem_take]; exact List.getElem?_eq_getElem _
    rw [← ltB_str _ _ (by rw [hh, h32.at e2])]
    exact hb j x hj2 e2
  have hgt : ∀ x ∈ l.drop i, ltStr h x = true := fun x hx => by
    obtain ⟨y, hy⟩ : ∃ y, l[i]? = some y := by
      rcases Nat.lt_or_ge i l.length with hi | hi
      · exact ⟨_, List.getElem?_eq_getElem hi⟩
      · rw [List.drop_eq_nil_of_le hi] at hx; simp at hx
    have hy32 := h32.at hy
    obtain ⟨hi, ey⟩ := List.getElem?_eq_some_iff.1 hy
    obtain ⟨f1, f2⟩ := ha y hy
    rw [ltB_str _ _ (by rw [hh, hy32])] at f1
    have f3 : ltStr h y = true := ltStr_total f1 (fun e => f2 e.symm)
    rw [List.drop_eq_getElem_cons hi, ey] at hx
    rcases List.mem_cons.1 hx with rfl | hx
    · exact f3
    · have hp : ltStr y x = true := by
        have hd : Up (l.drop i) := List.Pairwise.drop hu
        rw [List.drop_eq_getElem_cons hi, ey] at hd
        exact (List.pairwise_cons.1 hd).1 x hx
      exact swo_ltStr.trans _ _ _ f3 hp
  unfold Up
  rw [List.append_assoc, List.pairwise_append]
  refine ⟨List.Pairwise.take hu, ?_, ?_⟩
  · rw [List.singleton_append]
    exact List.Pairwise.cons hgt (List.Pairwise.drop hu)
  · intro x hx y hy
    rcases List.mem_append.1 hy with hy | hy
    · simp at hy; subst hy; exact hlt x hx
    · exact swo_ltStr.trans _ _ _ (hlt x hx) (hgt y hy)
theorem mem_ins {l : List Hs} {h : Hs} (i : Nat) (x : Hs) : x ∈ l.take i ++ [h] ++ l.drop i ↔ x = h ∨ x ∈ l := by
  have e : x ∈ l ↔ x ∈ l.take i ∨ x ∈ l.drop i := by rw [← List.mem_append, List.take_append_drop]
  rw [List.mem_append, List.mem_append, List.mem_singleton, e]
  by_cases h1 : x = h <;> by_cases h2 : x ∈ l.take i <;> by_cases h3 : x ∈ l.drop i <;> simp [h1, h2, h3]
theorem All32.ins {l : List Hs} {h : Hs} (h32 : All32 l) (hh : h.length = 32) (i : Nat) : All32 (l.take i ++ [h] ++ l.drop i) := fun x hx => by
  rcases (mem_ins i x).1 hx with rfl | hx
  · exact hh
  · exact h32 x hx
theorem With.put {W w' : World} {l : List Hs} {n ca i : Nat} {h : Hs} {ao : Option Addr} (hw : WS W ao n ca l) (hh : h.length = 32) (hb : ∀ j x, j < i → l[j]? = some x → ltB x h = true) (ha : ∀ x, l[i]? = some x → ltB x h = false ∧ ¬ x = h) {v : Value} {base : Nat} (ho : OwnH w' base v (l.take i ++ [h] ++ l.drop i)) (hA : After W w') : With W l n h (.returned v) w' := by
  obtain ⟨o, c, rfl, hat, hc, _, hz⟩ := ho.at
  refine ⟨o, _, c, _, rfl, ⟨hat, hw.a32.ins hh i, hw.up.ins hw.a32 hh hb ha, rfl, hc, hz⟩, mem_ins i, ?_, hA⟩
  have := hw.len
  simp only [List.length_append, List.length_take, List.length_drop, List.length_cons, List.length_nil]
  omega
theorem With.same {W w' : World} {l : List Hs} {n ca i : Nat} {h : Hs} {ao : Option Addr} (hw : WS W ao n ca l) (hi : l[i]? = some h) (hA : After W w') : With W l n h (.returned (.slice ao n ca)) w' := by
  refine ⟨ao, n, ca, l, rfl, hw.after hA, fun x => ⟨Or.inr, fun h => ?_⟩, by omega, hA⟩
  rcases h with rfl | h
  · exact List.mem_of_getElem? hi
  · exact h

set_option maxRecDepth 100000 in
set_option maxHeartbeats 6400000 in
theorem with_any (ao : Option Addr) (n ca : Nat) (l : List Hs) (h : Hs) (hh : h.length = 32) (hn : n ≤ 100000) (w : World) (hw : WS w ao n ca l) :
    Calls Tryz.prog 29 #[.slice ao n ca, hv h] w (With w l n h) := by
  have HW : Hid (WS w ao n ca l) := hw
  have HH : Hid (h.length = 32) := hh
  have HBX0 : Hid ((w.alloc (.cells (c8 h).toArray 40)).rangeAt w.heap.size 0 (c8 h)) := fun j v hj => by rw [Nat.zero_add]; exact (RowIs.new w 40 (c8 h)).cell hj
  have HA01 : Hid (After w (w.alloc (.cells (c8 h).toArray 40))) := after_alloc (After.refl w) _
  have hcan : n ≤ ca := hw.cap
  clear hw hh
  unfold hv
  go_enter Tryz.func29, Tryz.ntmps29
  go_wp2_with fail
  obtain ⟨B, hB⟩ : ∃ B, w.heap.size = B := ⟨_, rfl⟩
  rw [hB] at HBX0
  rw [hB]
  obtain ⟨w1, hw1⟩ : ∃ w1, w.alloc (.cells (c8 h).toArray 40) = w1 := ⟨_, rfl⟩
  rw [hw1] at HBX0 HA01
  rw [hw1]
  have HBX : Hid (w1.rangeAt B 0 (c8 h)) := HBX0
  clear hw1 hB HBX0
  go_loopw [5] (fun vi wr => ∃ i : Nat, vi = .int .i64 (i : Int) ∧ i ≤ n ∧ Hid (After w1 wr ∧ ∀ j x, j < i → l[j]? = some x → ltB x h = true)) (fun vi _ => n - (intOf vi).toNat)
  case atStart => exact ⟨0, rfl, Nat.zero_le _, After.refl w1, fun j _ hj => by omega⟩
  case round =>
    obtain ⟨i, rfl, hile, HI⟩ := hrel
    go_wp2_with fail
    by_cases hin : i < n
    · obtain ⟨x, hx⟩ : ∃ x, l[i]? = some x := ⟨_, List.getElem?_eq_getElem (by rw [HW.out.len]; exact hin)⟩
      have HLX : Hid (l[i]? = some x) := hx
      obtain ⟨b, o, hao, hrg⟩ := HW.out.at_.get HW.out.a32 (fun e => by rw [e] at hx; simp at hx)
      obtain rfl := hao
      have HX : Hid (x.length = 32 ∧ wr.rangeAt b (o + i * 32) (c8 x) ∧ wr.rangeAt B 0 (c8 h)) := ⟨HW.out.a32.at hx, range_after (hrg i x hx) (After.trans HA01.out HI.out.1), range_after HBX.out HI.out.1⟩
      clear hx hrg
      refine wp_region_noPanic ?_
      refine wp_region_held_drew (S := After wr) (by kernel_rfl) (After.drew (After.refl wr)) ?_
      intro hS0
      refine tk 0 7 (.int .i64 (i : Int)) (fuel := 11) rfl (by kernel_rfl) (by kernel_rfl) (by kernel_rfl) (by kernel_rfl) noPanic_false (by kernel_rfl) (fun _ _ => by kernel_rfl) hS0 ?_
      refine tk 1 8 (.slice (some ⟨b, o, none⟩) n ca) (fuel := 10) rfl (by kernel_rfl) (by kernel_rfl) (by kernel_rfl) (by kernel_rfl) noPanic_false (by kernel_rfl) (fun _ _ => by kernel_rfl) hS0 ?_
      refine tk 2 9 (.int .i64 (n : Int)) (fuel := 9) rfl (by kernel_rfl) (by kernel_rfl) (by kernel_rfl) (by kernel_rfl) noPanic_false (by kernel_rfl) (fun _ _ => by kernel_rfl) hS0 ?_
      refine tk 3 10 (.bool true) (fuel := 8) rfl (by kernel_rfl) (by kernel_rfl) (by kernel_rfl) (by kernel_rfl) noPanic_false (by kernel_rfl) (fun _ _ => x_lssT (p := i) (q := n) (x := .tmp 7) (y := .tmp 9) (by kernel_rfl) (by kernel_rfl) (by kernel_rfl) hin) hS0 ?_
      refine tk 4 11 (.bool true) (fuel := 7) rfl (by kernel_rfl) (by kernel_rfl) (by kernel_rfl) (by kernel_rfl) noPanic_false (by kernel_rfl) (fun _ _ => by kernel_rfl) hS0 ?_
      refine tk 5 12 (.slice (some ⟨b, o, none⟩) n ca) (fuel := 6) rfl (by kernel_rfl) (by kernel_rfl) (by kernel_rfl) (by kernel_rfl) noPanic_false (by kernel_rfl) (fun _ _ => by kernel_rfl) hS0 ?_
      refine tk 6 13 (.int .i64 (i : Int)) (fuel := 5) rfl (by kernel_rfl) (by kernel_rfl) (by kernel_rfl) (by kernel_rfl) noPanic_false (by kernel_rfl) (fun _ _ => by kernel_rfl) hS0 ?_
      refine tk 7 14 (.pointer (some ⟨b, o + i * 32, none⟩)) (fuel := 4) rfl (by kernel_rfl) (by kernel_rfl) (by kernel_rfl) (by kernel_rfl) noPanic_false (by kernel_rfl) (fun W _ => xq_idx22 (n := n) (c := ca) (x := .tmp 12) (y := .tmp 13) (by kernel_rfl) (by kernel_rfl) (by kernel_rfl) hin) hS0 ?_
      refine tk 8 15 (hv x) (fuel := 3) rfl (by kernel_rfl) (by kernel_rfl) (by kernel_rfl) (by kernel_rfl) noPanic_false (by kernel_rfl) (fun W hW => x_ld24 HX.out.1 (x := .tmp 14) (g := b) (p := o + i * 32) (by kernel_rfl) (by kernel_rfl) (range_after HX.out.2.1 hW)) hS0 ?_
      refine tk 9 16 (hv h) (fuel := 2) rfl (by kernel_rfl) (by kernel_rfl) (by kernel_rfl) (by kernel_rfl) noPanic_false (by kernel_rfl) (fun W hW => x_ld24 HH.out (x := .tmp 3) (g := B) (p := 0) (by kernel_rfl) (by kernel_rfl) (range_after HX.out.2.2 hW)) hS0 ?_
      refine tkCallS 10 17 51 #[hv x, hv h] (fun v w' => v = .bool (ltB x h) ∧ After wr w') (fuel := 1) rfl (by kernel_rfl) (by kernel_rfl) (by kernel_rfl) (fun _ => by kernel_rfl) ((refLess_any x h HX.out.1 HH.out wr.drew).mono (fun e w' ⟨he, ha⟩ => ⟨_, he, rfl, After.trans hS0 ha⟩)) ?_
      intro v2 w2 ⟨hv2, hA2⟩
      subst hv2
      refine ⟨hA2, ?_⟩
      refine tk 11 18 (.bool (ltB x h)) (fuel := 0) rfl (by kernel_rfl) (by kernel_rfl) (by kernel_rfl) (by kernel_rfl) noPanic_false (by kernel_rfl) (fun _ _ => by kernel_rfl) hA2 ?_
      refine wpAnyH_done (by kernel_rfl) (NoPanic.normal ?_) _
      have HA2 := show Hid (After wr w2) from hA2
      clear hA2 hS0
      cases hlb : ltB x h with
      | true =>
        have HLB : Hid (ltB x h = true) := hlb
        clear hlb
        go_simp
        go_wp2_with fail
        go_roundw
        case rel => exact ⟨i + 1, by go_num, by omega, After.trans HI.out.1 HA2.out, fun j y hj hy => by
          rcases Nat.lt_or_ge j i with hji | hji
          · exact HI.out.2 j y hji hy
          · obtain rfl : j = i := by omega
            rw [HLX.out] at hy; cases hy; exact HLB.out⟩
        case measure => simp [intOf]; omega
      | false =>
        have HLB : Hid (ltB x h = false) := hlb
        clear hlb
        go_simp
        go_wp2_with fail
        refine wp_region_noPanic ?_
        refine wp_region_held_drew (S := After w2) (by kernel_rfl) (After.drew (After.refl w2)) ?_
        intro hT0
        refine tk 0 21 (.int .i64 (i : Int)) (fuel := 11) rfl (by kernel_rfl) (by kernel_rfl) (by kernel_rfl) (by kernel_rfl) noPanic_false (by kernel_rfl) (fun _ _ => by kernel_rfl) hT0 ?_
        refine tk 1 22 (.slice (some ⟨b, o, none⟩) n ca) (fuel := 10) rfl (by kernel_rfl) (by kernel_rfl) (by kernel_rfl) (by kernel_rfl) noPanic_false (by kernel_rfl) (fun _ _ => by kernel_rfl) hT0 ?_
        refine tk 2 23 (.int .i64 (n : Int)) (fuel := 9) rfl (by kernel_rfl) (by kernel_rfl) (by kernel_rfl) (by kernel_rfl) noPanic_false (by kernel_rfl) (fun _ _ => by kernel_rfl) hT0 ?_
        refine tk 3 24 (.bool true) (fuel := 8) rfl (by kernel_rfl) (by kernel_rfl) (by kernel_rfl) (by kernel_rfl) noPanic_false (by kernel_rfl) (fun _ _ => x_lssT (p := i) (q := n) (x := .tmp 21) (y := .tmp 23) (by kernel_rfl) (by kernel_rfl) (by kernel_rfl) hin) hT0 ?_
        refine tk 4 25 (.bool true) (fuel := 7) rfl (by kernel_rfl) (by kernel_rfl) (by kernel_rfl) (by kernel_rfl) noPanic_false (by kernel_rfl) (fun _ _ => by kernel_rfl) hT0 ?_
        refine tk 5 26 (.slice (some ⟨b, o, none⟩) n ca) (fuel := 6) rfl (by kernel_rfl) (by kernel_rfl) (by kernel_rfl) (by kernel_rfl) noPanic_false (by kernel_rfl) (fun _ _ => by kernel_rfl) hT0 ?_
        refine tk 6 27 (.int .i64 (i : Int)) (fuel := 5) rfl (by kernel_rfl) (by kernel_rfl) (by kernel_rfl) (by kernel_rfl) noPanic_false (by kernel_rfl) (fun _ _ => by kernel_rfl) hT0 ?_
        refine tk 7 28 (.pointer (some ⟨b, o + i * 32, none⟩)) (fuel := 4) rfl (by kernel_rfl) (by kernel_rfl) (by kernel_rfl) (by kernel_rfl) noPanic_false (by kernel_rfl) (fun W _ => xq_idx22 (n := n) (c := ca) (x := .tmp 26) (y := .tmp 27) (by kernel_rfl) (by kernel_rfl) (by kernel_rfl) hin) hT0 ?_
        refine tk 8 29 (hv x) (fuel := 3) rfl (by kernel_rfl) (by kernel_rfl) (by kernel_rfl) (by kernel_rfl) noPanic_false (by kernel_rfl) (fun W hW => x_ld24 HX.out.1 (x := .tmp 28) (g := b) (p := o + i * 32) (by kernel_rfl) (by kernel_rfl) (range_after HX.out.2.1 (After.trans HA2.out hW))) hT0 ?_
        refine tk 9 30 (hv h) (fuel := 2) rfl (by kernel_rfl) (by kernel_rfl) (by kernel_rfl) (by kernel_rfl) noPanic_false (by kernel_rfl) (fun W hW => x_ld24 HH.out (x := .tmp 3) (g := B) (p := 0) (by kernel_rfl) (by kernel_rfl) (range_after HX.out.2.2 (After.trans HA2.out hW))) hT0 ?_
        refine tk 10 31 (.bool (decide (x = h))) (fuel := 1) rfl (by kernel_rfl) (by kernel_rfl) (by kernel_rfl) (by kernel_rfl) noPanic_false (by kernel_rfl) (fun W hW => x_eq24 HX.out.1 HH.out (x := .tmp 29) (y := .tmp 30) (by kernel_rfl) (by kernel_rfl) (by kernel_rfl)) hT0 ?_
        refine tk 11 32 (.bool (decide (x = h))) (fuel := 0) rfl (by kernel_rfl) (by kernel_rfl) (by kernel_rfl) (by kernel_rfl) noPanic_false (by kernel_rfl) (fun _ _ => by kernel_rfl) hT0 ?_
        refine wpAnyH_done (by kernel_rfl) (NoPanic.normal ?_) _
        have HA3 := show Hid (After w2 w2.drew) from hT0
        clear hT0
        obtain ⟨w3, hw3⟩ : ∃ w3, w2.drew = w3 := ⟨_, rfl⟩
        rw [hw3] at HA3
        rw [hw3]
        clear hw3
        have HA13 : Hid (After w1 w3) := After.trans HI.out.1 (After.trans HA2.out HA3.out)
        have HAW3 : Hid (After w w3) := After.trans HA01.out HA13.out
        by_cases hxh : x = h
        · rw [decide_eq_true hxh]
          have HLH : Hid (l[i]? = some h) := by rw [← hxh]; exact HLX.out
          clear hxh
          go_simp
          go_wp2_with fail
          go_ret
          exact With.same HW.out HLH.out HAW3.out
        · rw [decide_eq_false hxh]
          have HAI : Hid (∀ y, l[i]? = some y → ltB y h = false ∧ ¬ y = h) := fun y hy => by rw [HLX.out] at hy; cases hy; exact ⟨HLB.out, hxh⟩
          clear hxh
          go_simp
          go_wp2_with fail
          have HW3 : Hid (WS w3 (some ⟨b, o, none⟩) n ca l) := HW.out.after HAW3.out
          have HB3 : Hid (w3.rangeAt B 0 (c8 h)) := range_after HBX.out HA13.out
          refine wp_region_noPanic ?_
          refine wp_region_held_drew (S := After w3) (by kernel_rfl) (After.drew (After.refl w3)) ?_
          intro hU0
          refine tk 0 34 (.slice none 0 0) (fuel := 8) rfl (by kernel_rfl) (by kernel_rfl) (by kernel_rfl) (by kernel_rfl) noPanic_false (by kernel_rfl) (fun _ _ => by kernel_rfl) hU0 ?_
          refine tk 1 35 (.slice (some ⟨b, o, none⟩) n ca) (fuel := 7) rfl (by kernel_rfl) (by kernel_rfl) (by kernel_rfl) (by kernel_rfl) noPanic_false (by kernel_rfl) (fun _ _ => by kernel_rfl) hU0 ?_
          refine tk 2 36 (.int .i64 (i : Int)) (fuel := 6) rfl (by kernel_rfl) (by kernel_rfl) (by kernel_rfl) (by kernel_rfl) noPanic_false (by kernel_rfl) (fun _ _ => by kernel_rfl) hU0 ?_
          refine tk 3 37 (.slice (some ⟨b, o, none⟩) i ca) (fuel := 5) rfl (by kernel_rfl) (by kernel_rfl) (by kernel_rfl) (by kernel_rfl) noPanic_false (by kernel_rfl) (fun W _ => x_sl22 (x := .tmp 35) (y := .tmp 36) (n := n) (k := i) (by kernel_rfl) (by kernel_rfl) (by kernel_rfl) (by omega) HW.out.nil) hU0 ?_
          refine tk 5 39 (hv h) (fuel := 4) rfl (by kernel_rfl) (by kernel_rfl) (by kernel_rfl) (by kernel_rfl) noPanic_false (by kernel_rfl) (fun W hW => x_ld24 HH.out (x := .tmp 3) (g := B) (p := 0) (by kernel_rfl) (by kernel_rfl) (range_after HB3.out hW)) hU0 ?_
          refine wpAnyH_all (rs := [4, 6]) (by kernel_rfl) (by simp) (fun i' hi => ?_)
          have hi2 : i' = 4 ∨ i' = 6 := by simpa using hi
          clear hi
          rcases hi2 with rfl | rfl
          · refine opAppH 4 38 (.tmp 34) (.tmp 37) w3.heap.size (.slice none 0 0) [] (some ⟨b, o, none⟩) i ca (l.take i) rfl (by kernel_rfl) (by kernel_rfl) (by kernel_rfl) (by kernel_rfl) (by rw [List.length_take, HW.out.len]; omega) (by kernel_rfl) (fun x hx => HW.out.a32 x (List.mem_of_mem_take hx)) (OwnH.nil _ _) ((HW3.out.after hU0).at_.take HW.out.a32 i) (by rw [List.length_nil, List.length_take, HW.out.len]; omega) (Nat.le_refl _) ?_
            intro v4 w4 ho4 hg4
            rw [List.nil_append] at ho4
            have hA4 : After w3 w4 := after_grown hU0 hg4 (Nat.le_refl _) (fun k hk => by cases hk)
            refine ⟨hA4, ?_⟩
            refine wpAnyH_all (rs := [6]) (by kernel_rfl) (by simp) (fun i' hi => ?_)
            obtain rfl : i' = 6 := by simpa using hi
            clear hi
            refine opVal 6 40 (.slice (some ⟨w4.heap.size, 0, none⟩) 1 1) (w4.alloc (.cells (c8 h).toArray 40)) rfl (by kernel_rfl) (by kernel_rfl) (x_bs22 HH.out (x := .tmp 39) (by kernel_rfl) (by kernel_rfl)) ?_
            refine ⟨after_alloc hA4 _, ?_⟩
            refine wpAnyH_all (rs := [7]) (by kernel_rfl) (by simp) (fun i' hi => ?_)
            obtain rfl : i' = 7 := by simpa using hi
            clear hi
            refine opAppH 7 41 (.tmp 38) (.tmp 40) w3.heap.size v4 (l.take i) (some ⟨w4.heap.size, 0, none⟩) 1 1 [h] rfl (by kernel_rfl) (by kernel_rfl) (by kernel_rfl) (by kernel_rfl) rfl (by kernel_rfl) (All32.cons HH.out All32.nil) (ho4.after (after_alloc (After.refl w4) _)) (HsAt.one w4 h) (by rw [List.length_take, HW.out.len]; simp only [List.length_cons, List.length_nil]; omega) (by have := hA4.size; simp; omega) ?_
            intro v6 w6 ho6 hg6
            have hA6 : After w3 w6 := after_grown (after_alloc hA4 _) hg6 (Nat.le_refl _) (fun g hg => (ho4.lt g hg).1)
            refine ⟨hA6, ?_⟩
            clear ho4 hg4 hA4 hg6 hU0
            refine tk 8 6 v6 (fuel := 0) rfl (by kernel_rfl) (by kernel_rfl) (by kernel_rfl) (by kernel_rfl) noPanic_false (by kernel_rfl) (fun _ _ => by kernel_rfl) hA6 ?_
            refine wpAnyH_done (by kernel_rfl) (NoPanic.normal ?_) _
            have HO6 : Hid (OwnH w6 w3.heap.size v6 (l.take i ++ [h])) := ho6
            have HA6 : Hid (After w3 w6) := hA6
            clear ho6 hA6
            have SL8 := fun W => sl22_lo (some ⟨b, o, none⟩) n ca i HW.out.cap hile HW.out.nil W
            go_simp
            go_wp2_with (at_builtin; refine wpList_append_hashes rfl (.tmp 42) (.tmp 45) rfl w3.heap.size v6 (l.take i ++ [h]) rfl HO6.out (cut22 (some ⟨b, o, none⟩) i ca) (ca - i) (l.drop i) (fun x hx => HW.out.a32 x (List.mem_of_mem_drop hx)) (n - i) (by rw [List.length_drop, HW.out.len]) rfl ((HW3.out.at_.after HA6.out).drop HW.out.a32 i ca (by rw [HW.out.len]; exact HW.out.cap)) (by rw [List.length_append, List.length_take, List.length_drop, HW.out.len]; simp only [List.length_cons, List.length_nil]; omega) HA6.out.size ?_; intro v8 w8 ho8 hg8; have HO8 := show Hid (OwnH w8 w3.heap.size v8 (l.take i ++ [h] ++ l.drop i)) from ho8; have HA8 := show Hid (After w3 w8) from after_grown HA6.out hg8 (Nat.le_refl _) (fun g hg => (HO6.out.lt g hg).1); clear ho8 hg8)
            go_ret
            exact With.put HW.out HH.out HI.out.2 HAI.out HO8.out (After.trans HAW3.out HA8.out)
          · refine opVal 6 40 (.slice (some ⟨w3.heap.size, 0, none⟩) 1 1) (w3.drew.alloc (.cells (c8 h).toArray 40)) rfl (by kernel_rfl) (by kernel_rfl) (x_bs22 (w := w3.drew) HH.out (x := .tmp 39) (by kernel_rfl) (by kernel_rfl)) ?_
            have hA4 : After w3 (w3.drew.alloc (.cells (c8 h).toArray 40)) := after_alloc hU0 _
            obtain ⟨w4, hw4⟩ : ∃ w4, w3.drew.alloc (.cells (c8 h).toArray 40) = w4 := ⟨_, rfl⟩
            have hone : HsAt w4 (some ⟨w3.heap.size, 0, none⟩) [h] := by rw [← hw4]; exact HsAt.one w3.drew h
            have hz4 : w3.heap.size ≤ w4.heap.size := by rw [← hw4]; simp
            rw [hw4] at hA4
            rw [hw4]
            clear hw4
            refine ⟨hA4, ?_⟩
            refine wpAnyH_all (rs := [4]) (by kernel_rfl) (by simp) (fun i' hi => ?_)
            obtain rfl : i' = 4 := by simpa using hi
            clear hi
            refine opAppH 4 38 (.tmp 34) (.tmp 37) w3.heap.size (.slice none 0 0) [] (some ⟨b, o, none⟩) i ca (l.take i) rfl (by kernel_rfl) (by kernel_rfl) (by kernel_rfl) (by kernel_rfl) (by rw [List.length_take, HW.out.len]; omega) (by kernel_rfl) (fun x hx => HW.out.a32 x (List.mem_of_mem_take hx)) (OwnH.nil _ _) ((HW3.out.after hA4).at_.take HW.out.a32 i) (by rw [List.length_nil, List.length_take, HW.out.len]; omega) (hz4) ?_
            intro v4 w5 ho4 hg4
            rw [List.nil_append] at ho4
            have hA5 : After w4 w5 := after_grown (After.refl w4) hg4 (Nat.le_refl _) (fun k hk => by cases hk)
            refine ⟨After.trans hA4 hA5, ?_⟩
            refine wpAnyH_all (rs := [7]) (by kernel_rfl) (by simp) (fun i' hi => ?_)
            obtain rfl : i' = 7 := by simpa using hi
            clear hi
            refine opAppH 7 41 (.tmp 38) (.tmp 40) w3.heap.size v4 (l.take i) (some ⟨w3.heap.size, 0, none⟩) 1 1 [h] rfl (by kernel_rfl) (by kernel_rfl) (by kernel_rfl) (by kernel_rfl) rfl (by kernel_rfl) (All32.cons HH.out All32.nil) ho4 (hone.after hA5) (by rw [List.length_take, HW.out.len]; simp only [List.length_cons, List.length_nil]; omega) (by have := hA5.size; omega) ?_
            intro v6 w6 ho6 hg6
            have hA6 : After w3 w6 := after_grown (After.trans hA4 hA5) hg6 (Nat.le_refl _) (fun g hg => (ho4.lt g hg).1)
            refine ⟨hA6, ?_⟩
            clear ho4 hg4 hA4 hA5 hg6 hU0 hone hz4
            refine tk 8 6 v6 (fuel := 0) rfl (by kernel_rfl) (by kernel_rfl) (by kernel_rfl) (by kernel_rfl) noPanic_false (by kernel_rfl) (fun _ _ => by kernel_rfl) hA6 ?_
            refine wpAnyH_done (by kernel_rfl) (NoPanic.normal ?_) _
            have HO6 : Hid (OwnH w6 w3.heap.size v6 (l.take i ++ [h])) := ho6
            have HA6 : Hid (After w3 w6) := hA6
            clear ho6 hA6
            have SL8 := fun W => sl22_lo (some ⟨b, o, none⟩) n ca i HW.out.cap hile HW.out.nil W
            go_simp
            go_wp2_with (at_builtin; refine wpList_append_hashes rfl (.tmp 42) (.tmp 45) rfl w3.heap.size v6 (l.take i ++ [h]) rfl HO6.out (cut22 (some ⟨b, o, none⟩) i ca) (ca - i) (l.drop i) (fun x hx => HW.out.a32 x (List.mem_of_mem_drop hx)) (n - i) (by rw [List.length_drop, HW.out.len]) rfl ((HW3.out.at_.after HA6.out).drop HW.out.a32 i ca (by rw [HW.out.len]; exact HW.out.cap)) (by rw [List.length_append, List.length_take, List.length_drop, HW.out.len]; simp only [List.length_cons, List.length_nil]; omega) HA6.out.size ?_; intro v8 w8 ho8 hg8; have HO8 := show Hid (OwnH w8 w3.heap.size v8 (l.take i ++ [h] ++ l.drop i)) from ho8; have HA8 := show Hid (After w3 w8) from after_grown HA6.out hg8 (Nat.le_refl _) (fun g hg => (HO6.out.lt g hg).1); clear ho8 hg8)
            go_ret
            exact With.put HW.out HH.out HI.out.2 HAI.out HO8.out (After.trans HAW3.out HA8.out)
    · have HLX : Hid (l[i]? = none) := List.getElem?_eq_none (by rw [HW.out.len]; omega)
      refine wp_region_noPanic ?_
      refine wp_region_held_drew (S := After wr) (by kernel_rfl) (After.drew (After.refl wr)) ?_
      intro hS0
      refine tk 0 7 (.int .i64 (i : Int)) (fuel := 11) rfl (by kernel_rfl) (by kernel_rfl) (by kernel_rfl) (by kernel_rfl) noPanic_false (by kernel_rfl) (fun _ _ => by kernel_rfl) hS0 ?_
      refine tk 1 8 (.slice ao n ca) (fuel := 10) rfl (by kernel_rfl) (by kernel_rfl) (by kernel_rfl) (by kernel_rfl) noPanic_false (by kernel_rfl) (fun _ _ => by kernel_rfl) hS0 ?_
      refine tk 2 9 (.int .i64 (n : Int)) (fuel := 9) rfl (by kernel_rfl) (by kernel_rfl) (by kernel_rfl) (by kernel_rfl) noPanic_false (by kernel_rfl) (fun _ _ => by kernel_rfl) hS0 ?_
      refine tk 3 10 (.bool false) (fuel := 8) rfl (by kernel_rfl) (by kernel_rfl) (by kernel_rfl) (by kernel_rfl) noPanic_false (by kernel_rfl) (fun _ _ => x_lssF (p := i) (q := n) (x := .tmp 7) (y := .tmp 9) (by kernel_rfl) (by kernel_rfl) (by kernel_rfl) hin) hS0 ?_
      refine tk 4 11 (.bool false) (fuel := 7) rfl (by kernel_rfl) (by kernel_rfl) (by kernel_rfl) (by kernel_rfl) noPanic_false (by kernel_rfl) (fun _ _ => by kernel_rfl) hS0 ?_
      refine tkSkip 5 12 (fuel := 6) rfl (by kernel_rfl) (by kernel_rfl) (by kernel_rfl) (by kernel_rfl) noPanic_false (by kernel_rfl) hS0 ?_
      refine tkSkip 6 13 (fuel := 5) rfl (by kernel_rfl) (by kernel_rfl) (by kernel_rfl) (by kernel_rfl) noPanic_false (by kernel_rfl) hS0 ?_
      refine tkSkip 7 14 (fuel := 4) rfl (by kernel_rfl) (by kernel_rfl) (by kernel_rfl) (by kernel_rfl) noPanic_false (by kernel_rfl) hS0 ?_
      refine tkSkip 8 15 (fuel := 3) rfl (by kernel_rfl) (by kernel_rfl) (by kernel_rfl) (by kernel_rfl) noPanic_false (by kernel_rfl) hS0 ?_
      refine tkSkip 9 16 (fuel := 2) rfl (by kernel_rfl) (by kernel_rfl) (by kernel_rfl) (by kernel_rfl) noPanic_false (by kernel_rfl) hS0 ?_
      refine tkSkip 10 17 (fuel := 1) rfl (by kernel_rfl) (by kernel_rfl) (by kernel_rfl) (by kernel_rfl) noPanic_false (by kernel_rfl) hS0 ?_
      refine tk 11 18 (.bool false) (fuel := 0) rfl (by kernel_rfl) (by kernel_rfl) (by kernel_rfl) (by kernel_rfl) noPanic_false (by kernel_rfl) (fun _ _ => by kernel_rfl) hS0 ?_
      refine wpAnyH_done (by kernel_rfl) (NoPanic.normal ?_) _
      have HA2 := show Hid (After wr wr.drew) from hS0
      clear hS0
      obtain ⟨w2, hw2⟩ : ∃ w2, wr.drew = w2 := ⟨_, rfl⟩
      rw [hw2] at HA2
      rw [hw2]
      clear hw2
      go_simp
      go_wp2_with fail
      refine wp_region_noPanic ?_
      refine wp_region_held_drew (S := After w2) (by kernel_rfl) (After.drew (After.refl w2)) ?_
      intro hT0
      refine tk 0 21 (.int .i64 (i : Int)) (fuel := 11) rfl (by kernel_rfl) (by kernel_rfl) (by kernel_rfl) (by kernel_rfl) noPanic_false (by kernel_rfl) (fun _ _ => by kernel_rfl) hT0 ?_
      refine tk 1 22 (.slice ao n ca) (fuel := 10) rfl (by kernel_rfl) (by kernel_rfl) (by kernel_rfl) (by kernel_rfl) noPanic_false (by kernel_rfl) (fun _ _ => by kernel_rfl) hT0 ?_
      refine tk 2 23 (.int .i64 (n : Int)) (fuel := 9) rfl (by kernel_rfl) (by kernel_rfl) (by kernel_rfl) (by kernel_rfl) noPanic_false (by kernel_rfl) (fun _ _ => by kernel_rfl) hT0 ?_
      refine tk 3 24 (.bool false) (fuel := 8) rfl (by kernel_rfl) (by kernel_rfl) (by kernel_rfl) (by kernel_rfl) noPanic_false (by kernel_rfl) (fun _ _ => x_lssF (p := i) (q := n) (x := .tmp 21) (y := .tmp 23) (by kernel_rfl) (by kernel_rfl) (by kernel_rfl) hin) hT0 ?_
      refine tk 4 25 (.bool false) (fuel := 7) rfl (by kernel_rfl) (by kernel_rfl) (by kernel_rfl) (by kernel_rfl) noPanic_false (by kernel_rfl) (fun _ _ => by kernel_rfl) hT0 ?_
      refine tkSkip 5 26 (fuel := 6) rfl (by kernel_rfl) (by kernel_rfl) (by kernel_rfl) (by kernel_rfl) noPanic_false (by kernel_rfl) hT0 ?_
      refine tkSkip 6 27 (fuel := 5) rfl (by kernel_rfl) (by kernel_rfl) (by kernel_rfl) (by kernel_rfl) noPanic_false (by kernel_rfl) hT0 ?_
      refine tkSkip 7 28 (fuel := 4) rfl (by kernel_rfl) (by kernel_rfl) (by kernel_rfl) (by kernel_rfl) noPanic_false (by kernel_rfl) hT0 ?_
      refine tkSkip 8 29 (fuel := 3) rfl (by kernel_rfl) (by kernel_rfl) (by kernel_rfl) (by kernel_rfl) noPanic_false (by kernel_rfl) hT0 ?_
      refine tkSkip 9 30 (fuel := 2) rfl (by kernel_rfl) (by kernel_rfl) (by kernel_rfl) (by kernel_rfl) noPanic_false (by kernel_rfl) hT0 ?_
      refine tkSkip 10 31 (fuel := 1) rfl (by kernel_rfl) (by kernel_rfl) (by kernel_rfl) (by kernel_rfl) noPanic_false (by kernel_rfl) hT0 ?_
      refine tk 11 32 (.bool false) (fuel := 0) rfl (by kernel_rfl) (by kernel_rfl) (by kernel_rfl) (by kernel_rfl) noPanic_false (by kernel_rfl) (fun _ _ => by kernel_rfl) hT0 ?_
      refine wpAnyH_done (by kernel_rfl) (NoPanic.normal ?_) _
      have HA3 := show Hid (After w2 w2.drew) from hT0
      clear hT0
      obtain ⟨w3, hw3⟩ : ∃ w3, w2.drew = w3 := ⟨_, rfl⟩
      rw [hw3] at HA3
      rw [hw3]
      clear hw3
      have HA13 : Hid (After w1 w3) := After.trans HI.out.1 (After.trans HA2.out HA3.out)
      have HAW3 : Hid (After w w3) := After.trans HA01.out HA13.out
      have HAI : Hid (∀ y, l[i]? = some y → ltB y h = false ∧ ¬ y = h) := fun y hy => by rw [HLX.out] at hy; cases hy
      go_simp
      go_wp2_with fail
      have HW3 : Hid (WS w3 ao n ca l) := HW.out.after HAW3.out
      have HB3 : Hid (w3.rangeAt B 0 (c8 h)) := range_after HBX.out HA13.out
      refine wp_region_noPanic ?_
      refine wp_region_held_drew (S := After w3) (by kernel_rfl) (After.drew (After.refl w3)) ?_
      intro hU0
      refine tk 0 34 (.slice none 0 0) (fuel := 8) rfl (by kernel_rfl) (by kernel_rfl) (by kernel_rfl) (by kernel_rfl) noPanic_false (by kernel_rfl) (fun _ _ => by kernel_rfl) hU0 ?_
      refine tk 1 35 (.slice ao n ca) (fuel := 7) rfl (by kernel_rfl) (by kernel_rfl) (by kernel_rfl) (by kernel_rfl) noPanic_false (by kernel_rfl) (fun _ _ => by kernel_rfl) hU0 ?_
      refine tk 2 36 (.int .i64 (i : Int)) (fuel := 6) rfl (by kernel_rfl) (by kernel_rfl) (by kernel_rfl) (by kernel_rfl) noPanic_false (by kernel_rfl) (fun _ _ => by kernel_rfl) hU0 ?_
      refine tk 3 37 (.slice ao i ca) (fuel := 5) rfl (by kernel_rfl) (by kernel_rfl) (by kernel_rfl) (by kernel_rfl) noPanic_false (by kernel_rfl) (fun W _ => x_sl22 (x := .tmp 35) (y := .tmp 36) (n := n) (k := i) (by kernel_rfl) (by kernel_rfl) (by kernel_rfl) (by omega) HW.out.nil) hU0 ?_
      refine tk 5 39 (hv h) (fuel := 4) rfl (by kernel_rfl) (by kernel_rfl) (by kernel_rfl) (by kernel_rfl) noPanic_false (by kernel_rfl) (fun W hW => x_ld24 HH.out (x := .tmp 3) (g := B) (p := 0) (by kernel_rfl) (by kernel_rfl) (range_after HB3.out hW)) hU0 ?_
      refine wpAnyH_all (rs := [4, 6]) (by kernel_rfl) (by simp) (fun i' hi => ?_)
      have hi2 : i' = 4 ∨ i' = 6 := by simpa using hi
      clear hi
      rcases hi2 with rfl | rfl
      · refine opAppH 4 38 (.tmp 34) (.tmp 37) w3.heap.size (.slice none 0 0) [] ao i ca (l.take i) rfl (by kernel_rfl) (by kernel_rfl) (by kernel_rfl) (by kernel_rfl) (by rw [List.length_take, HW.out.len]; omega) (by kernel_rfl) (fun x hx => HW.out.a32 x (List.mem_of_mem_take hx)) (OwnH.nil _ _) ((HW3.out.after hU0).at_.take HW.out.a32 i) (by rw [List.length_nil, List.length_take, HW.out.len]; omega) (Nat.le_refl _) ?_
        intro v4 w4 ho4 hg4
        rw [List.nil_append] at ho4
        have hA4 : After w3 w4 := after_grown hU0 hg4 (Nat.le_refl _) (fun k hk => by cases hk)
        refine ⟨hA4, ?_⟩
        refine wpAnyH_all (rs := [6]) (by kernel_rfl) (by simp) (fun i' hi => ?_)
        obtain rfl : i' = 6 := by simpa using hi
        clear hi
        refine opVal 6 40 (.slice (some ⟨w4.heap.size, 0, none⟩) 1 1) (w4.alloc (.cells (c8 h).toArray 40)) rfl (by kernel_rfl) (by kernel_rfl) (x_bs22 HH.out (x := .tmp 39) (by kernel_rfl) (by kernel_rfl)) ?_
        refine ⟨after_alloc hA4 _, ?_⟩
        refine wpAnyH_all (rs := [7]) (by kernel_rfl) (by simp) (fun i' hi => ?_)
        obtain rfl : i' = 7 := by simpa using hi
        clear hi
        refine opAppH 7 41 (.tmp 38) (.tmp 40) w3.heap.size v4 (l.take i) (some ⟨w4.heap.size, 0, none⟩) 1 1 [h] rfl (by kernel_rfl) (by kernel_rfl) (by kernel_rfl) (by kernel_rfl) rfl (by kernel_rfl) (All32.cons HH.out All32.nil) (ho4.after (after_alloc (After.refl w4) _)) (HsAt.one w4 h) (by rw [List.length_take, HW.out.len]; simp only [List.length_cons, List.length_nil]; omega) (by have := hA4.size; simp; omega) ?_
        intro v6 w6 ho6 hg6
        have hA6 : After w3 w6 := after_grown (after_alloc hA4 _) hg6 (Nat.le_refl _) (fun g hg => (ho4.lt g hg).1)
        refine ⟨hA6, ?_⟩
        clear ho4 hg4 hA4 hg6 hU0
        refine tk 8 6 v6 (fuel := 0) rfl (by kernel_rfl) (by kernel_rfl) (by kernel_rfl) (by kernel_rfl) noPanic_false (by kernel_rfl) (fun _ _ => by kernel_rfl) hA6 ?_
        refine wpAnyH_done (by kernel_rfl) (NoPanic.normal ?_) _
        have HO6 : Hid (OwnH w6 w3.heap.size v6 (l.take i ++ [h])) := ho6
        have HA6 : Hid (After w3 w6) := hA6
        clear ho6 hA6
        have SL8 := fun W => sl22_lo ao n ca i HW.out.cap hile HW.out.nil W
        go_simp
        go_wp2_with (at_builtin; refine wpList_append_hashes rfl (.tmp 42) (.tmp 45) rfl w3.heap.size v6 (l.take i ++ [h]) rfl HO6.out (cut22 ao i ca) (ca - i) (l.drop i) (fun x hx => HW.out.a32 x (List.mem_of_mem_drop hx)) (n - i) (by rw [List.length_drop, HW.out.len]) rfl ((HW3.out.at_.after HA6.out).drop HW.out.a32 i ca (by rw [HW.out.len]; exact HW.out.cap)) (by rw [List.length_append, List.length_take, List.length_drop, HW.out.len]; simp only [List.length_cons, List.length_nil]; omega) HA6.out.size ?_; intro v8 w8 ho8 hg8; have HO8 := show Hid (OwnH w8 w3.heap.size v8 (l.take i ++ [h] ++ l.drop i)) from ho8; have HA8 := show Hid (After w3 w8) from after_grown HA6.out hg8 (Nat.le_refl _) (fun g hg => (HO6.out.lt g hg).1); clear ho8 hg8)
        go_ret
        exact With.put HW.out HH.out HI.out.2 HAI.out HO8.out (After.trans HAW3.out HA8.out)
      · refine opVal 6 40 (.slice (some ⟨w3.heap.size, 0, none⟩) 1 1) (w3.drew.alloc (.cells (c8 h).toArray 40)) rfl (by kernel_rfl) (by kernel_rfl) (x_bs22 (w := w3.drew) HH.out (x := .tmp 39) (by kernel_rfl) (by kernel_rfl)) ?_
        have hA4 : After w3 (w3.drew.alloc (.cells (c8 h).toArray 40)) := after_alloc hU0 _
        obtain ⟨w4, hw4⟩ : ∃ w4, w3.drew.alloc (.cells (c8 h).toArray 40) = w4 := ⟨_, rfl⟩
        have hone : HsAt w4 (some ⟨w3.heap.size, 0, none⟩) [h] := by rw [← hw4]; exact HsAt.one w3.drew h
        have hz4 : w3.heap.size ≤ w4.heap.size := by rw [← hw4]; simp
        rw [hw4] at hA4
        rw [hw4]
        clear hw4
        refine ⟨hA4, ?_⟩
        refine wpAnyH_all (rs := [4]) (by kernel_rfl) (by simp) (fun i' hi => ?_)
        obtain rfl : i' = 4 := by simpa using hi
        clear hi
        refine opAppH 4 38 (.tmp 34) (.tmp 37) w3.heap.size (.slice none 0 0) [] ao i ca (l.take i) rfl (by kernel_rfl) (by kernel_rfl) (by kernel_rfl) (by kernel_rfl) (by rw [List.length_take, HW.out.len]; omega) (by kernel_rfl) (fun x hx => HW.out.a32 x (List.mem_of_mem_take hx)) (OwnH.nil _ _) ((HW3.out.after hA4).at_.take HW.out.a32 i) (by rw [List.length_nil, List.length_take, HW.out.len]; omega) (hz4) ?_
        intro v4 w5 ho4 hg4
        rw [List.nil_append] at ho4
        have hA5 : After w4 w5 := after_grown (After.refl w4) hg4 (Nat.le_refl _) (fun k hk => by cases hk)
        refine ⟨After.trans hA4 hA5, ?_⟩
        refine wpAnyH_all (rs := [7]) (by kernel_rfl) (by simp) (fun i' hi => ?_)
        obtain rfl : i' = 7 := by simpa using hi
        clear hi
        refine opAppH 7 41 (.tmp 38) (.tmp 40) w3.heap.size v4 (l.take i) (some ⟨w3.heap.size, 0, none⟩) 1 1 [h] rfl (by kernel_rfl) (by kernel_rfl) (by kernel_rfl) (by kernel_rfl) rfl (by kernel_rfl) (All32.cons HH.out All32.nil) ho4 (hone.after hA5) (by rw [List.length_take, HW.out.len]; simp only [List.length_cons, List.length_nil]; omega) (by have := hA5.size; omega) ?_
        intro v6 w6 ho6 hg6
        have hA6 : After w3 w6 := after_grown (After.trans hA4 hA5) hg6 (Nat.le_refl _) (fun g hg => (ho4.lt g hg).1)
        refine ⟨hA6, ?_⟩
        clear ho4 hg4 hA4 hA5 hg6 hU0 hone hz4
        refine tk 8 6 v6 (fuel := 0) rfl (by kernel_rfl) (by kernel_rfl) (by kernel_rfl) (by kernel_rfl) noPanic_false (by kernel_rfl) (fun _ _ => by kernel_rfl) hA6 ?_
        refine wpAnyH_done (by kernel_rfl) (NoPanic.normal ?_) _
        have HO6 : Hid (OwnH w6 w3.heap.size v6 (l.take i ++ [h])) := ho6
        have HA6 : Hid (After w3 w6) := hA6
        clear ho6 hA6
        have SL8 := fun W => sl22_lo ao n ca i HW.out.cap hile HW.out.nil W
        go_simp
        go_wp2_with (at_builtin; refine wpList_append_hashes rfl (.tmp 42) (.tmp 45) rfl w3.heap.size v6 (l.take i ++ [h]) rfl HO6.out (cut22 ao i ca) (ca - i) (l.drop i) (fun x hx => HW.out.a32 x (List.mem_of_mem_drop hx)) (n - i) (by rw [List.length_drop, HW.out.len]) rfl ((HW3.out.at_.after HA6.out).drop HW.out.a32 i ca (by rw [HW.out.len]; exact HW.out.cap)) (by rw [List.length_append, List.length_take, List.length_drop, HW.out.len]; simp only [List.length_cons, List.length_nil]; omega) HA6.out.size ?_; intro v8 w8 ho8 hg8; have HO8 := show Hid (OwnH w8 w3.heap.size v8 (l.take i ++ [h] ++ l.drop i)) from ho8; have HA8 := show Hid (After w3 w8) from after_grown HA6.out hg8 (Nat.le_refl _) (fun g hg => (HO6.out.lt g hg).1); clear ho8 hg8)
        go_ret
        exact With.put HW.out HH.out HI.out.2 HAI.out HO8.out (After.trans HAW3.out HA8.out)
end
section
open Go.RowKit Go.Sort
/-- What the loops keep: a rising list of what was met. -/
structure WI (w : World) (o : Option Addr) (k c : Nat) (s : List Hs) (p : Hs → Prop) (wr : World) : Prop where
  ws : WS wr o k c s
  mem : ∀ x, x ∈ s ↔ p x
  aft : After w wr
theorem mem_take_succ {l : List Hs} {i : Nat} {h : Hs} (hi : l[i]? = some h) (x : Hs) : x ∈ l.take (i + 1) ↔ x = h ∨ x ∈ l.take i := by
  rw [List.take_add_one, hi]; simp [or_comm]
def TellW (w : World) (N : Nat) (p : Hs → Prop) (e : Ending) (w' : World) : Prop := ∃ (o : Option Addr) (k c : Nat) (s : List Hs), e = .returned (.slice o k c) ∧ WI w o k c s p w' ∧ k ≤ N

set_option maxRecDepth 100000 in
set_option maxHeartbeats 3200000 in
theorem rsort14 (ao : Option Addr) (n ca : Nat) (l : List Hs) (h32 : All32 l) (hl : l.length = n) (hn : n ≤ 50000) (w : World) (hA : HsAt w ao l) :
    Calls Tryz.prog 15 #[.slice ao n ca] w (TellW w n (fun x => x ∈ l)) := by
  have HL : Hid (HsAt w ao l ∧ All32 l ∧ l.length = n) := ⟨hA, h32, hl⟩
  clear hA h32 hl
  go_enter Tryz.func15, Tryz.ntmps15
  go_wp2_with fail
  go_loopw [3, 4] (fun vo vi wr => ∃ (i : Nat) (oo : Option Addr) (k c : Nat) (s : List Hs), vi = .int .i64 (i : Int) ∧ vo = .slice oo k c ∧ i ≤ n ∧ k ≤ i ∧ Hid (WI w oo k c s (fun x => x ∈ l.take i) wr)) (fun _ vi _ => n - (intOf vi).toNat)
  case atStart => exact ⟨0, none, 0, 0, [], rfl, rfl, Nat.zero_le _, Nat.le_refl _, ⟨fun h => absurd rfl h, All32.nil, List.Pairwise.nil, rfl, Nat.le_refl _, fun _ => rfl⟩, fun x => by simp, After.refl w⟩
  case round =>
    obtain ⟨i, oo, k, c, s, rfl, rfl, hin, hki, HI⟩ := hrel
    by_cases hlt : i < n
    · obtain ⟨h, hh⟩ : ∃ h, l[i]? = some h := ⟨_, List.getElem?_eq_getElem (by rw [HL.out.2.2]; exact hlt)⟩
      have HLH : Hid (l[i]? = some h) := hh
      obtain ⟨b, o, hao, hrg⟩ := HL.out.1.get HL.out.2.1 (fun e => by rw [e] at hh; simp at hh)
      subst hao
      have HR : Hid (wr.rangeAt b (o + i * 32) (c8 h)) := range_after (hrg i h hh) HI.out.aft
      have H32 : Hid (h.length = 32) := HL.out.2.1.at hh
      have hii : (i : Int) < (n : Int) := by omega
      clear hh hrg
      go_wp2_with (first
        | (refine wpList_load_mid rfl 40 (.tmp 14) rfl b (o + i * 32) rfl (c8 h) _ HR.out Tryz.underlying40 rfl (size24' H32.out) ?_)
        | (go_at_call 29; refine Calls.mono (with_any oo k c s h H32.out (by omega) wr HI.out.ws) ?_; rintro e w3 ⟨o3, k3, c3, s3, rfl, hw3, hm3, hk3, ha3⟩; have H3 := show Hid (WS w3 o3 k3 c3 s3 ∧ (∀ x, x ∈ s3 ↔ x = h ∨ x ∈ s) ∧ After wr w3) from ⟨hw3, hm3, ha3⟩; clear hw3 hm3 ha3))
      go_roundw
      case rel => exact ⟨i + 1, o3, k3, c3, s3, by go_num, rfl, by omega, by omega, H3.out.1, fun x => by rw [H3.out.2.1 x, HI.out.mem x, mem_take_succ HLH.out], After.trans HI.out.aft H3.out.2.2⟩
      case measure => simp [intOf]; omega
    · obtain rfl : i = n := by omega
      have hii : ¬ (i : Int) < (i : Int) := by omega
      go_wp2
      go_ret
      exact ⟨oo, k, c, s, rfl, ⟨HI.out.ws, fun x => by rw [HI.out.mem x, ← HL.out.2.2, List.take_length], HI.out.aft⟩, hki⟩
end
end Go.Proofs.YtcmcapcagblafaaGreat

namespace Go.Proofs.YtcmcapcagblafaaGreat
open Go.RowKit Go.Maps Dsk
attribute [local go_sem] Oper.semAt_some
set_option maxRecDepth 100000 in
set_option maxHeartbeats 12800000 in
theorem rlive8 {la : Option Addr} {ca n : Nat} {X : List Rx} (hl : X.length = n) (hn : n ≤ 50000) {N : Nat} (hN : (chs X).length ≤ N) (hbig : N ≤ 50000) {w : World} (hA : RsAt w la X) : Calls Tryz.prog 8 #[.slice la n ca] w (LvT w X N) := by
  have HL : Hid (RsAt w la X ∧ X.length = n ∧ (chs X).length ≤ N ∧ N ≤ 50000) := ⟨hA, hl, hN, hbig⟩
  clear hA hl hN hbig
  go_enter Tryz.func8, Tryz.ntmps8
  go_wp2
  go_loopw [3, 4] (fun v iv wr => ∃ (i m c : Nat) (a : Option Addr), i ≤ n ∧ v = .slice a m c ∧ iv = .int .i64 (i : Int) ∧ Hid (LvI w X i (.slice a m c) wr ∧ (chs (X.take i)).length = m)) (fun _ iv _ => n - (intOf iv).toNat)
  case atStart => exact ⟨0, 0, 0, none, Nat.zero_le _, rfl, rfl, ⟨After.refl w, by simp only [List.take_zero]; exact OwnL.nil _ _ _ _⟩, by simp [chs]⟩
  case round =>
    obtain ⟨i, m, c, a, hin, rfl, rfl, HP⟩ := hrel
    by_cases hlt : i < n
    · have hii : (i : Int) < (n : Int) := by omega
      have HLT : Hid (i < n) := hlt
      obtain ⟨x, hx⟩ : ∃ x, X[i]? = some x := ⟨_, List.getElem?_eq_getElem (by rw [HL.out.2.1]; exact hlt)⟩
      have hxb := HL.out.1.each x (List.mem_of_getElem? hx)
      obtain ⟨xb, xo, hla, hlr⟩ := HL.out.1.sl.at (rs_get hx)
      subst hla
      obtain ⟨p, hp⟩ : ∃ p, x.l.length = p := ⟨_, rfl⟩
      have hc2 : wr.cell? ⟨xb, xo + i * 3 + 2, none⟩ = some (.slice x.a p x.c) := by
        have h9 := (range_after hlr HP.out.1.1) 2 (.slice x.a x.l.length x.c) rfl
        rw [hp] at h9; exact h9
      have hA2 : After w wr := HP.out.1.1
      have hcn := chs_next hx
      have hcl := chs_le X (i + 1)
      have hlen : (hsL (chs (X.take i))).length = m := by rw [hs_len]; exact HP.out.2
      obtain ⟨q, hq, hz0⟩ := Option.map_eq_some_iff.1 info50
      simp only [Prod.mk.injEq] at hz0
      obtain ⟨hz1, hz2, hz3⟩ := hz0
      have hmp : m + p = (chs (X.take (i + 1))).length := by rw [hcn, List.length_append, hp, HP.out.2]
      have hmp2 : m + p ≤ 50000 := by have := HL.out.2.2; omega
      obtain ⟨va, vc, w6, r1, r2, r3, _⟩ := run_appL (t := 26) 26 40 32 32 Tryz.underlying26 hq hz1 hz2 hz3 (by simp [Value.cells]) (by omega) HP.out.1.2 (N := hsL x.l) (a := x.a) (m := p) (c := x.c) (by rw [hs_len, hp]) (hxb.sl.after hA2) (hs_one _) (by rw [hlen]; unfold maxLen; omega) (by rw [hlen]; omega) hA2.size (fun _ e => hxb.zC e)
      rw [hlen] at r1 r2
      have HR6 : Hid ((Builtin.append_ #[26, 26] 26 #[.slice a m c, .slice x.a p x.c]).run Tryz.prog wr = .ok (.slice va (m + p) vc) w6) := r1
      have HN6 : Hid (LvI w X (i + 1) (.slice va (m + p) vc) w6 ∧ (chs (X.take (i + 1))).length = m + p) := ⟨⟨after_grown hA2 r3 (Nat.le_refl _) (fun j hj => (own_lt HP.out.1.2.2 hj).1), by
        rw [hcn]; unfold hsL at r2 ⊢; rw [List.map_append]; exact r2⟩, hmp.symm⟩
      clear hx hxb hlr hp hA2 hcn hcl hlen hq hz1 hz2 hz3 hmp hmp2 r1 r2 r3
      go_wp2_with (first
        | (refine wpList_of_run rfl (x_idx22 (x := .tmp 12) (y := .tmp 13) (b := xb) (f := xo) (n := n) (c := ca) (i := i) rfl (by kernel_rfl) (by kernel_rfl) HLT.out) ?_)
        | (refine wpList_of_run rfl (x_app (t := 26) (s := .tmp 11) (x := .tmp 16) rfl rfl rfl HR6.out) ?_))
      go_roundw
      case rel => exact ⟨i + 1, m + p, vc, va, by omega, rfl, by go_num, HN6⟩
      case measure => simp [intOf]; omega
    · have hii : ¬ (i : Int) < (n : Int) := by omega
      have hall : X.take i = X := List.take_of_length_le (by rw [HL.out.2.1]; omega)
      have ho := HP.out.1.2
      have hm := HP.out.2
      rw [hall] at ho hm
      have h32 := chs_32 HL.out.1
      have hat : HsAt wr a (chs X) := by
        obtain ⟨a9, c9, e9, h9⟩ := ho.sl
        rw [hs_len, hm] at e9
        injection e9 with e1 _ _
        subst e1
        exact h9.hs h32
      have HS : Hid (Calls Tryz.prog 15 #[.slice a m c] wr fun e w' => ∃ a c k s, e = .returned (.slice a k c) ∧ s.length = k ∧ k ≤ m ∧ HsAt w' a s ∧ All32 s ∧ Up s ∧ (∀ h, h ∈ s ↔ h ∈ chs X) ∧ After wr w') := (rsort14 a m c (chs X) h32 hm (by have := HL.out.2.2; omega) wr hat).mono (fun e w' ⟨o, k, c, s, he, hw, hk⟩ => ⟨o, c, k, s, he, hw.ws.len, hk, hw.ws.at_, hw.ws.a32, hw.ws.up, hw.mem, hw.aft⟩)
      have HM : Hid (m ≤ N ∧ After w wr) := ⟨by have := HL.out.2.2.1; omega, HP.out.1.1⟩
      clear ho hm hall h32 hat
      go_wp2_with (go_at_call 15; refine Calls.mono HS.out ?_; rintro e w3 ⟨a3, c3, k3, s, rfl, h1, h2, h3, h4, h5, h6, h7⟩
                   have H3 : Hid (HsAt w3 a3 s ∧ All32 s ∧ Up s ∧ (∀ h, h ∈ s ↔ h ∈ chs X) ∧ s.length = k3 ∧ k3 ≤ N ∧ After w w3) := ⟨h3, h4, h5, h6, h1, Nat.le_trans h2 HM.out.1, HM.out.2.trans h7⟩
                   clear h1 h2 h3 h4 h5 h6 h7)
      refine bodyPost_ret (v := .slice a3 k3 c3) (by simp [results, Tryz.results8, go_sem]) rfl ⟨a3, c3, k3, s, rfl, H3.out.2.2.2.2.1, H3.out.2.2.2.2.2.1, H3.out.1, H3.out.2.1, H3.out.2.2.1, H3.out.2.2.2.1, H3.out.2.2.2.2.2.2⟩
end Go.Proofs.YtcmcapcagblafaaGreat

namespace Go.Proofs.YtcmcapcagblafaaGreat
open Go.RowKit Go.Maps Dsk Leb
attribute [local go_sem] Oper.semAt_some
def GaB (w : World) (g m : Nat) (t : List UInt8) (e1 i : Nat) (v : Value) (bs' : List UInt8) (e' : Nat) (wr : World) : Prop := ∃ X : List Bx, X.length = i ∧ (∀ y ∈ X, y.nm.length ≤ 32 ∧ y.l.length ≤ 16) ∧ OwnB wr w.heap.size v X ∧ Stp (pMany pBr i) t e1 (bof X) bs' e' ∧ RdS wr g m bs' e' ∧ But g w wr
def GbT (w : World) (g m : Nat) (bs : List UInt8) (e most : Nat) (x : Ending) (w' : World) : Prop := ∃ a c k X bs' e', x = .returned (.slice a k c) ∧ X.length = k ∧ (∀ y ∈ X, y.nm.length ≤ 32 ∧ y.l.length ≤ 16) ∧ k ≤ most ∧ OwnB w' w.heap.size (.slice a k c) X ∧ Stp (pL most pBr) bs e (bof X) bs' e' ∧ RdS w' g m bs' e' ∧ But g w w'
theorem BrG.at {w w' : World} {g m : Nat} {bs bs' : List UInt8} {e e' : Nat} {y : Bx} (h : BrG w g m bs e y bs' e' w') : BxAt w' y ∧ ∀ ad, y.a = some ad → w.heap.size ≤ ad.block ∧ ad.block < w'.heap.size ∧ RwAt w' ad := by
  obtain ⟨a0, c0, e0, hs⟩ := h.own.sl
  rw [hs_len] at e0
  unfold Bx.v at e0
  injection e0 with e1 _ e3
  have hz : y.a = none → y.c = 0 := fun e => by
    rcases own_row h.own.2 with ⟨h1, _⟩ | ⟨g1, cap, cs, h1, _⟩
    · unfold Bx.v at h1; injection h1
    · unfold Bx.v at h1; rw [e] at h1; injection h1 with h2; cases h2
  refine ⟨⟨by rw [e1]; exact hs, h.l32, hz, by have := h.few; omega⟩, fun ad ha => ?_⟩
  rcases own_row h.own.2 with ⟨h1, _⟩ | ⟨g1, cap, cs, h1, h2, h3, _⟩
  · unfold Bx.v at h1; rw [ha] at h1; injection h1 with h2; cases h2
  · unfold Bx.v at h1; rw [ha] at h1; injection h1 with h4
    cases h4
    exact ⟨h2, h3.lt, rfl, rfl, cs, h3⟩
theorem OwnB.val {w : World} {base : Nat} {v : Value} {X : List Bx} (h : OwnB w base v X) {n : Nat} (hn : X.length = n) : ∃ a c, v = .slice a n c ∧ (a = none → c = 0) := h.row.val (by rw [bs_len]; exact hn)
theorem gaB_step {w w3 : World} {g m : Nat} {t : List UInt8} {e1 i : Nat} {v : Value} {b1 b2 : List UInt8} {e2 : Nat} {wr : World} {y : Bx} (hgm : m ≤ w.heap.size) (h : GaB w g m t e1 i v b1 0 wr) (hk : BrG wr g m b1 0 y b2 e2 w3) (hi : (i + 1) * 40 ≤ 140737488355328) :
    ∃ a c va vc w6, v = .slice a i c ∧ (Builtin.append_ #[30, 30] 30 #[.slice a i c, .slice (some ⟨w3.heap.size, 0, none⟩) 1 1]).run Tryz.prog (w3.alloc (.cells (brc y).toArray 58)) = .ok (.slice va (i + 1) vc) w6 ∧ GaB w g m t e1 (i + 1) (.slice va (i + 1) vc) b2 e2 w6 := by
  obtain ⟨X, h1, h2, h3, h4, h5, h6⟩ := h
  obtain ⟨a, c, rfl, _⟩ := h3.val h1
  obtain ⟨hy1, hy2⟩ := hk.at
  have hg : g < w.heap.size := Nat.lt_of_lt_of_le h5.gm hgm
  have hs6 := h6.size
  have hsb := hk.but.size
  have o2 := h3.but hk.but hg
  have o3 := o2.after (after_alloc (After.refl w3) (.cells (brc y).toArray 58))
  obtain ⟨va, vc, w6, r1, r2, r3, r4⟩ := run_appB 30 o3 (Y := [y]) (m := 1) (c := 1) rfl hy1.box (by omega) (by simp; omega) (fun e => by cases e)
  rw [h1] at r1 r2 r4
  refine ⟨a, c, va, vc, w6, rfl, r1, X ++ [y], by simp [h1], fun z hz => ?_, o3.grow (fun z hz => ?_) r2 r3 r4, ?_, (hk.rd.after (after_alloc (After.refl w3) _)).grown r3 (fun b e => by have := (own_lt o3.row.2 e).1; omega), ?_⟩
  · rcases List.mem_append.1 hz with hz | hz
    · exact h2 z hz
    · rw [List.mem_singleton.1 hz]; exact ⟨hk.nm, hk.few⟩
  · rw [List.mem_singleton.1 hz]
    refine ⟨hy1.after (after_alloc (After.refl w3) _), fun ad e => ?_⟩
    obtain ⟨q1, q2, q3⟩ := hy2 ad e
    refine ⟨by omega, by simp; omega, fun e' => ?_, q3.same (Below.heap_alloc w3 _ _ q2)⟩
    have := (own_lt h3.row.2 e').2.1
    omega
  · rw [bof_snoc]; exact h4.succ hk.stp
  · have hA := (h6.trans hk.but).trans (But.of_below (after_alloc (After.refl w3) (.cells (brc y).toArray 58)))
    refine ⟨r3.os.trans hA.os, r3.tape.trans hA.tape, r3.output.trans hA.output, Nat.le_trans hA.size r3.size, fun k hk' hne => ?_⟩
    rw [r3.block k (Nat.lt_of_lt_of_le hk' hA.size) (fun e => by have := (own_lt o3.row.2 e.symm).1; omega)]
    exact hA.block k hk' hne
set_option maxRecDepth 100000 in
set_option maxHeartbeats 6400000 in
theorem gather56 {w : World} {g m p0 : Nat} {bs : List UInt8} {e : Nat} (h : RdS w g m bs e) (hc : w.cell? ⟨p0, 0, none⟩ = some (.pointer (some ⟨g, 0, none⟩))) (hpg : p0 ≠ g) : Calls Tryz.prog 42 #[.pointer (some ⟨g, 0, none⟩), .int .u64 64, .func (.func 43) #[] #[.pointer (some ⟨p0, 0, none⟩)]] w (GbT w g m bs e 64) := by
  have HR : Hid (RdS w g m bs e ∧ w.cell? ⟨p0, 0, none⟩ = some (.pointer (some ⟨g, 0, none⟩)) ∧ p0 ≠ g) := ⟨h, hc, hpg⟩
  clear h hc hpg
  go_enter Tryz.func42, Tryz.ntmps42
  go_wp2_with (go_at_call 55; refine (uint73 64 HR.out.1).mono ?_; rintro x w1 ⟨n, t, e1, rfl, hn, hs, hr, hb⟩
               have H1 : Hid (n ≤ 64 ∧ Stp (pN 64) bs e n t e1 ∧ RdS w1 g m t e1 ∧ But g w w1) := ⟨hn, hs, hr, hb⟩
               clear hn hs hr hb)
  have hn63 : n < 9223372036854775808 := by have := H1.out.1; omega
  go_loopw [7, 11] (fun v iv wr => ∃ (i : Nat) (b' : List UInt8) (e' : Nat), i ≤ n ∧ iv = .int .u64 (i : Int) ∧ Hid (GaB w g m t e1 i v b' e' wr)) (fun _ iv _ => n - (intOf iv).toNat)
  case atStart => exact ⟨0, t, e1, Nat.zero_le _, rfl, [], rfl, fun y hy => (by cases hy), OwnB.nil _ _, Stp.zero t e1, H1.out.2.2.1, H1.out.2.2.2⟩
  case round =>
    obtain ⟨i, b', e', hin, rfl, HI⟩ := hrel
    obtain ⟨v, rfl⟩ : ∃ v, v = u7 := ⟨_, rfl⟩
    by_cases hlt : i < n
    · have hii : (i : Int) < (n : Int) := by omega
      have hib : (i + 1) * 40 ≤ 140737488355328 := by have := H1.out.1; omega
      have hi63 : i + 1 < 9223372036854775808 := by omega
      have HE60 : Hid (Calls Tryz.prog 46 #[.pointer (some ⟨g, 0, none⟩)] wr fun x w' => x = .returned (.int .i64 (e' : Int)) ∧ w' = wr) := by
        obtain ⟨l, _, _, _, _, h5, _⟩ := HI.out
        exact err60 h5
      have HIB : Hid ((i + 1) * 40 ≤ 140737488355328) := hib
      clear hib
      by_cases he : e' = 0
      · subst he
        have HH : Hid (Calls Tryz.prog 43 #[.pointer (some ⟨p0, 0, none⟩)] wr (BrT wr g m b' 0)) := by
          obtain ⟨l, _, _, _, _, h5, h6⟩ := HI.out
          exact clo57 h5 (h6.cell HR.out.2.2 HR.out.2.1) HR.out.2.2
        go_wp2_with (first
          | (go_at_call 46; refine Calls.mono HE60.out ?_; rintro x w9 ⟨rfl, hw9⟩; rw [hw9]; clear hw9 w9)
          | (go_at_call 43; refine Calls.mono HH.out ?_; rintro x w3 ⟨y, b2, e2, rfl, hy⟩
             obtain ⟨a, c, va, vc, w6, hv, hr6, hg6⟩ := gaB_step HR.out.1.mw HI.out hy HIB.out
             subst hv
             have H6 : Hid (GaB w g m t e1 (i + 1) (.slice va (i + 1) vc) b2 e2 w6) := hg6
             have H6R : Hid ((Builtin.append_ #[30, 30] 30 #[.slice a i c, .slice (some ⟨w3.heap.size, 0, none⟩) 1 1]).run Tryz.prog (w3.alloc (.cells (brc y).toArray 58)) = .ok (.slice va (i + 1) vc) w6) := hr6
             clear hy hr6 hg6)
          | (refine wpList_of_run rfl (x_bs25 (x := .tmp 18) (u := .string (strOf y.nm)) (v := y.v) rfl rfl) ?_)
          | (refine wpList_of_run rfl (x_app (t := 30) (s := .tmp 16) (x := .tmp 19) rfl rfl rfl H6R.out) ?_))
        go_roundw
        case rel => exact ⟨i + 1, b2, e2, by omega, by go_num, H6⟩
        case measure => simp [intOf]; omega
      · have hne : ¬ (e' : Int) = 0 := by omega
        have HF : Hid (GaB w g m t e1 i v b' e' wr ∧ e' ≠ 0 ∧ i ≤ n) := ⟨HI.out, he, hin⟩
        go_wp2_with (go_at_call 46; refine Calls.mono HE60.out ?_; rintro x w9 ⟨rfl, hw9⟩; rw [hw9]; clear hw9 w9)
        go_ret
        obtain ⟨⟨l, h1, h2, h3, h4, h5, h6⟩, h7, h8⟩ := HF.out
        obtain ⟨a, c, rfl, _⟩ := h3.val h1
        exact ⟨a, c, i, l, b', e', rfl, h1, h2, Nat.le_trans h8 H1.out.1, h3, H1.out.2.1.list h4 (.inr ⟨h7, h8⟩), h5, h6⟩
    · have hii : ¬ (i : Int) < (n : Int) := by omega
      have HF : Hid (GaB w g m t e1 i v b' e' wr ∧ i = n) := ⟨HI.out, by omega⟩
      go_wp2
      go_ret
      obtain ⟨⟨l, h1, h2, h3, h4, h5, h6⟩, h7⟩ := HF.out
      obtain ⟨a, c, rfl, _⟩ := h3.val h1
      exact ⟨a, c, i, l, b', e', rfl, h1, h2, by have := H1.out.1; omega, h3, H1.out.2.1.list h4 (.inl h7), h5, h6⟩
end Go.Proofs.YtcmcapcagblafaaGreat

namespace Go.Proofs.YtcmcapcagblafaaGreat
open Go.RowKit Go.Maps Dsk Leb
attribute [local go_sem] Oper.semAt_some
theorem pRc_eq : pRc = fun b => (pT 32 b).bind fun r => ((fun b => (pL 64 pBr b).bind fun q => (pHs 4096 q.2).map fun s => ((q.1, s.1), s.2)) r.2).map fun s => ((r.1, s.1), s.2) := by
  funext b
  unfold pRc
  cases pT 32 b with
  | none => rfl
  | some r =>
    simp only [Option.bind_some]
    cases pL 64 pBr r.2 with
    | none => rfl
    | some q =>
      simp only [Option.bind_some]
      cases pHs 4096 q.2 <;> rfl
theorem Stp.three {bs b1 b2 b3 : List UInt8} {e e1 e2 e3 : Nat} {s : Dsk.Nm} {S : Tb} {l : List H} (h1 : Stp (pT 32) bs e s b1 e1) (h2 : Stp (pL 64 pBr) b1 e1 S b2 e2) (h3 : Stp (pHs 4096) b2 e2 l b3 e3) : Stp pRc bs e (s, (S, l)) b3 e3 := by
  rw [pRc_eq]
  exact h1.two (h2.two h3)
/-- A record of one's own: how great it is. -/
structure RxFit (x : Rx) : Prop where
  nm : x.nm.length ≤ maxLen
  few : x.l.length * 32 ≤ 140737488355328
  l32 : All32 x.l
  fewB : x.X.length * 40 ≤ 140737488355328
  bnm : ∀ y ∈ x.X, y.nm.length ≤ maxLen
structure RxO (W : World) (B : Nat) (x : Rx) : Prop where
  fit : RxFit x
  own : OwnL W B 40 32 (.slice x.a x.l.length x.c) (hsL x.l)
  ownB : OwnB W B (.slice x.ba x.X.length x.bc) x.X
theorem RxO.keep {W W' : World} {B : Nat} {x : Rx} (h : RxO W B x) (hs : W.heap.size ≤ W'.heap.size) (hk : ∀ b t cs, B ≤ b → RowIs W b t cs → t = 58 ∨ t = 40 → W'.heap[b]? = W.heap[b]?) : RxO W' B x :=
  ⟨h.fit, h.own.same (fun b e => by obtain ⟨h1, _, cs, h3⟩ := own_lt h.own.2 e; exact hk b 40 cs h1 h3 (.inr rfl)), h.ownB.keep hs hk⟩
theorem RxO.lower {W : World} {B B' : Nat} {x : Rx} (h : RxO W B x) (hb : B' ≤ B) : RxO W B' x :=
  ⟨h.fit, h.own.lower hb, ⟨h.ownB.row.lower hb, h.ownB.each, fun y hy ad e => by obtain ⟨h1, h2, h3, h4⟩ := h.ownB.ge y hy ad e; exact ⟨by omega, h2, h3, h4⟩⟩⟩
theorem RxO.at' {W : World} {B : Nat} {x : Rx} (h : RxO W B x) : RxAt W x := by
  obtain ⟨a0, c0, e0, hs⟩ := h.own.sl
  rw [hs_len] at e0
  injection e0 with e1 _ e3
  obtain ⟨a1, c1, e4, hb⟩ := h.ownB.at
  injection e4 with e5 _ e6
  have hz : x.a = none → x.c = 0 := fun e => by
    rcases own_row h.own.2 with ⟨h1, _⟩ | ⟨g1, cap, cs, h1, _⟩
    · injection h1
    · rw [e] at h1; injection h1 with h2; cases h2
  have hzb : x.ba = none → x.bc = 0 := fun e => by
    rcases own_row h.ownB.row.2 with ⟨h1, _⟩ | ⟨g1, cap, cs, h1, _⟩
    · injection h1
    · rw [e] at h1; injection h1 with h2; cases h2
  exact ⟨by rw [e5]; exact hb, by rw [e1]; exact hs, h.fit.l32, h.fit.nm, h.fit.bnm, h.fit.fewB, h.fit.few, hzb, hz⟩
structure RcG (w : World) (g m : Nat) (bs : List UInt8) (e : Nat) (x : Rx) (bs' : List UInt8) (e' : Nat) (w' : World) : Prop where
  own : RxO w' w.heap.size x
  stp : Stp pRc bs e (rof x) bs' e'
  rd : RdS w' g m bs' e'
  but : But g w w'
def RcT (w : World) (g m : Nat) (bs : List UInt8) (e : Nat) (z : Ending) (w' : World) : Prop := ∃ x bs' e', z = .returned (.agg (rxc x).toArray) ∧ RcG w g m bs e x bs' e' w'
/-- A store into the record that grows. -/
theorem but_cell {g : Nat} {w w1 : World} (h : But g w w1) {g0 : Nat} (hg : w.heap.size = g0) (j : Nat) (v : Value) {p0 : Nat} {u : Value} (hp : p0 < g0) (hc : w1.cell? ⟨p0, 0, none⟩ = some u) : But g w (w1.setCell ⟨g0, j, none⟩ v) ∧ (w1.setCell ⟨g0, j, none⟩ v).cell? ⟨p0, 0, none⟩ = some u := by
  refine ⟨h.setNew (by rw [hg]; exact Nat.le_refl _) v, ?_⟩
  rw [World.cell?_of_block (w := w1) (show (w1.setCell ⟨g0, j, none⟩ v).heap[(⟨p0, 0, none⟩ : Addr).block]? = w1.heap[(⟨p0, 0, none⟩ : Addr).block]? from heap_setCell_other w1 _ p0 _ (by simp only; omega))]
  exact hc
theorem OwnB.cellR {w : World} {B g0 j : Nat} {u v : Value} {X : List Bx} {cs : List Value} (h : OwnB w B v X) (hr : RowIs w g0 32 cs) : OwnB (w.setCell ⟨g0, j, none⟩ u) B v X :=
  h.keep (by simp) (fun b t ds _ h2 ht => heap_setCell_other w _ b _ (fun e => by
    simp only at e
    subst e
    have := (hr.ty h2).1
    rcases ht with rfl | rfl <;> exact absurd this (by decide)))
theorem OwnL.cell43 {w : World} {B g0 j : Nat} {u v : Value} {L : List (List Value)} {cs : List Value} (h : OwnL w B 40 32 v L) (hr : RowIs w g0 32 cs) : OwnL (w.setCell ⟨g0, j, none⟩ u) B 40 32 v L :=
  h.same (fun b e => heap_setCell_other w _ b _ (fun e1 => by
    obtain ⟨_, _, ds, h2⟩ := own_lt h.2 e
    simp only at e1
    subst e1
    exact absurd (hr.ty h2).1 (by decide)))
theorem RcG.row {w w' : World} {g m g0 : Nat} {bs bs' : List UInt8} {e e' : Nat} {x : Rx} (h : RcG w g m bs e x bs' e' w') (hm : m ≤ g0) (hg : w.heap.size ≤ g0) {cs : List Value} (hr : RowIs w' g0 32 cs) (ds : Array Value) : RcG w g m bs e x bs' e' (w'.setRow g0 ds) :=
  ⟨h.own.keep (by simp) (fun b t cs' _ h2 ht => setRow_other w' g0 b ds (fun e1 => by
    subst e1
    have := (hr.ty h2).1
    rcases ht with rfl | rfl <;> exact absurd this (by decide))), h.stp, h.rd.keep (fun b hb => setRow_other w' g0 b ds (by omega)) (by simp), ⟨h.but.os, h.but.tape, h.but.output, by have := h.but.size; simpa using this, fun k hk hne => by rw [setRow_other w' g0 k ds (by omega)]; exact h.but.block k hk hne⟩⟩
set_option maxRecDepth 100000 in
set_option maxHeartbeats 6400000 in
theorem clo54 {w : World} {g m p0 : Nat} {bs : List UInt8} {e : Nat} (h : RdS w g m bs e) (hc : w.cell? ⟨p0, 0, none⟩ = some (.pointer (some ⟨g, 0, none⟩))) (hpg : p0 ≠ g) : Calls Tryz.prog 40 #[.pointer (some ⟨p0, 0, none⟩)] w (RcT w g m bs e) := by
  obtain ⟨g0, hg0⟩ : ∃ g0, w.heap.size = g0 := ⟨_, rfl⟩
  obtain ⟨W0, hW0⟩ : ∃ W0, w.alloc (.cells #[.string (strOf []), .slice none 0 0, .slice none 0 0] 32) = W0 := ⟨_, rfl⟩
  have hA : After w W0 := by rw [← hW0]; exact after_alloc (After.refl w) _
  have HR0 : Hid (RowIs W0 g0 32 [.string (strOf []), .slice none 0 0, .slice none 0 0] ∧ After w W0 ∧ RdS W0 g m bs e) := by refine ⟨?_, hA, h.after hA⟩; rw [← hW0, ← hg0]; exact RowIs.new w 32 _
  have hp0 : p0 < w.heap.size := World.block_lt_of_cell? w _ hc
  have HPG : Hid (p0 ≠ g ∧ p0 < g0 ∧ g < g0 ∧ m ≤ g0 ∧ w.heap.size = g0 ∧ g0 ≠ g) := ⟨hpg, by omega, by have := h.gm; have := h.mw; omega, by have := h.mw; omega, hg0, by have := h.gm; have := h.mw; omega⟩
  have HC0 : Hid (W0.cell? ⟨p0, 0, none⟩ = some (.pointer (some ⟨g, 0, none⟩))) := cell_at hA hc
  have c0 := HC0.out
  have HAL : Hid ((w.alloc (.cells (rxc zrx).toArray 32)) = W0) := hW0
  clear h hc hpg hp0 hA hW0
  go_enter Tryz.func40, Tryz.ntmps40
  go_wp2_with (first
    | (refine wpList_of_run rfl (x_al41 rfl) ?_; rw [HAL.out]; rw [HPG.out.2.2.2.2.1])
    | (go_at_call 41; refine (text55 HR0.out.2.2).mono ?_; rintro x w1 ⟨s, b1, e1, rfl, hs, hst, hr, hb⟩
       have hrow := hb.row HR0.out.1 HPG.out.2.2.2.2.2
       have f0 := hrow.frozen 0
       have f1 := hrow.cell (j := 0) rfl
       obtain ⟨w2, hw2⟩ : ∃ w2, w1.setCell ⟨g0, 0, none⟩ (.string (strOf s)) = w2 := ⟨_, rfl⟩
       have H2 : Hid (RowIs w2 g0 32 [.string (strOf s), .slice none 0 0, .slice none 0 0] ∧ RdS w2 g m b1 e1 ∧ But g w w2 ∧ w2.cell? ⟨p0, 0, none⟩ = some (.pointer (some ⟨g, 0, none⟩)) ∧ Stp (pT 32) bs e s b1 e1 ∧ s.length ≤ 32) := by
         obtain ⟨k1, k2⟩ := but_cell (g0 := g0) ((But.of_below HR0.out.2.1).trans hb) HPG.out.2.2.2.2.1 0 (.string (strOf s)) HPG.out.2.1 (hb.cell (p := ⟨p0, 0, none⟩) HPG.out.1 HC0.out)
         rw [← hw2]
         exact ⟨RowIs.set hrow 0 _, hr.setNew (HPG.out.2.2.2.1) _, k1, k2, hst, hs⟩
       have HW2 : Hid (w1.setCell ⟨g0, 0, none⟩ (.string (strOf s)) = w2) := hw2
       have d0 := H2.out.2.2.2.1
       clear hs hst hr hb hw2 hrow)
    | (rw [HW2.out])
    | (go_at_call 42; refine (gather56 (p0 := p0) H2.out.2.1 H2.out.2.2.2.1 HPG.out.1).mono ?_; rintro x w3 ⟨ba, bc, k, X, b2, e2, rfl, hXk, hXf, hk64, ho, hst, hr, hb⟩
       have hrow := hb.row H2.out.1 HPG.out.2.2.2.2.2
       have f2 := hrow.frozen 1
       have f3 := hrow.cell (j := 1) rfl
       obtain ⟨w4, hw4⟩ : ∃ w4, w3.setCell ⟨g0, 1, none⟩ (.slice ba k bc) = w4 := ⟨_, rfl⟩
       have H4 : Hid (RowIs w4 g0 32 [.string (strOf s), .slice ba k bc, .slice none 0 0] ∧ RdS w4 g m b2 e2 ∧ But g w w4 ∧ w4.cell? ⟨p0, 0, none⟩ = some (.pointer (some ⟨g, 0, none⟩)) ∧ Stp (pL 64 pBr) b1 e1 (bof X) b2 e2 ∧ OwnB w4 w.heap.size (.slice ba k bc) X ∧ X.length = k ∧ k ≤ 64 ∧ ∀ y ∈ X, y.nm.length ≤ 32) := by
         obtain ⟨k1, k2⟩ := but_cell (g0 := g0) (H2.out.2.2.1.trans hb) HPG.out.2.2.2.2.1 1 (.slice ba k bc) HPG.out.2.1 (hb.cell (p := ⟨p0, 0, none⟩) HPG.out.1 H2.out.2.2.2.1)
         rw [← hw4]
         have hsz := H2.out.2.2.1.size
         have ho2 : OwnB w3 w.heap.size (.slice ba k bc) X := ⟨ho.row.lower hsz, ho.each, fun y hy ad e => by obtain ⟨h1, h2, h3, h4⟩ := ho.ge y hy ad e; exact ⟨by omega, h2, h3, h4⟩⟩
         exact ⟨RowIs.set hrow 1 _, hr.setNew (HPG.out.2.2.2.1) _, k1, k2, hst, ho2.cellR hrow, hXk, hk64, fun y hy => (hXf y hy).1⟩
       have HW4 : Hid (w3.setCell ⟨g0, 1, none⟩ (.slice ba k bc) = w4) := hw4
       have d4 := H4.out.2.2.2.1
       clear hXk hXf hk64 ho hst hr hb hw4 hrow)
    | (rw [HW4.out])
    | (go_at_call 44; refine (gather58 (most := 4096) (by omega) H4.out.2.1).mono ?_; rintro x w5 ⟨a, c, n, l, b3, e3, rfl, hln, h32, hn4, ho, hst, hr, hb⟩
       have hrow := hb.row H4.out.1 HPG.out.2.2.2.2.2
       have f4 := hrow.frozen 2
       have f5 := hrow.cell (j := 2) rfl
       obtain ⟨w6, hw6⟩ : ∃ w6, w5.setCell ⟨g0, 2, none⟩ (.slice a n c) = w6 := ⟨_, rfl⟩
       have H6 : Hid (RowIs w6 g0 32 [.string (strOf s), .slice ba k bc, .slice a n c] ∧ RcG w g m bs e ⟨s, ba, bc, X, a, c, l⟩ b3 e3 w6) := by
         obtain ⟨k1, _⟩ := but_cell (g0 := g0) (H4.out.2.2.1.trans hb) HPG.out.2.2.2.2.1 2 (.slice a n c) HPG.out.2.1 (hb.cell (p := ⟨p0, 0, none⟩) HPG.out.1 H4.out.2.2.2.1)
         rw [← hw6]
         have hsz := H4.out.2.2.1.size
         have hgw : g < w.heap.size := by have := HPG.out; omega
         have ho2 := ((ho.lower hsz).cell43 (j := 2) (u := .slice a n c) hrow)
         have hoB := ((H4.out.2.2.2.2.2.1.but hb hgw).cellR (j := 2) (u := .slice a n c) hrow)
         have hX := H4.out.2.2.2.2.2.2.1
         refine ⟨RowIs.set hrow 2 _, ⟨⟨by have h9 := H2.out.2.2.2.2.2; show s.length ≤ maxLen; unfold maxLen; omega, by show l.length * 32 ≤ _; rw [hln]; omega, h32, by show X.length * 40 ≤ _; rw [hX]; have := H4.out.2.2.2.2.2.2.2.1; omega, fun y hy => (by have h9 := H4.out.2.2.2.2.2.2.2.2 y hy; unfold maxLen; omega)⟩, ?_, ?_⟩, H2.out.2.2.2.2.1.three H4.out.2.2.2.2.1 hst, hr.setNew HPG.out.2.2.2.1 _, k1⟩
         · show OwnL _ _ _ _ (.slice a l.length c) _
           rw [hln]; exact ho2
         · show OwnB _ _ (.slice ba X.length bc) _
           rw [hX]; exact hoB
       have HW6 : Hid (w5.setCell ⟨g0, 2, none⟩ (.slice a n c) = w6) := hw6
       have HAR : Hid ((rxc ⟨s, ba, bc, X, a, c, l⟩).toArray = #[.string (strOf s), .slice ba k bc, .slice a n c]) := by unfold Hid rxc; rw [hln, H4.out.2.2.2.2.2.2.1]
       clear hln h32 hn4 ho hst hr hb hw6 hrow)
    | (rw [HW6.out])
    | (refine wpList_load_row rfl 32 (.tmp 1) rfl g0 rfl 32 (rxc ⟨s, ba, bc, X, a, c, l⟩).toArray (0, 0) _ (by rw [HAR.out]; exact H6.out.1) Tryz.underlying32 rfl (size41 _) ?_)
    | (refine wpList_store_row rfl 32 (.tmp 1) (.tmp 14) rfl g0 (rxc ⟨s, ba, bc, X, a, c, l⟩).toArray rfl rfl 32 (rxc ⟨s, ba, bc, X, a, c, l⟩).toArray (by rw [HAR.out]; exact H6.out.1) (size41 _) rfl (by simpa using rs_one [⟨s, ba, bc, X, a, c, l⟩] (rxc ⟨s, ba, bc, X, a, c, l⟩) (by simp [rsL])) ?_))
  refine bodyPost_ret (v := .agg (rxc ⟨s, ba, bc, X, a, c, l⟩).toArray) (results_cell_row Tryz.results40 _ _ g0 32 _ (0, 0) _ rfl (RowIs.setRow H6.out.1 _) Tryz.underlying32 rfl (size41 _)) rfl ⟨_, _, _, rfl, H6.out.2.row HPG.out.2.2.2.1 (by rw [HPG.out.2.2.2.2.1]; exact Nat.le_refl _) H6.out.1 _⟩
end Go.Proofs.YtcmcapcagblafaaGreat

namespace Go.Proofs.YtcmcapcagblafaaGreat
open Go.RowKit Go.Maps Dsk Leb
attribute [local go_sem] Oper.semAt_some
/-- Records of one's own. -/
structure OwnR (W : World) (B : Nat) (v : Value) (X : List Rx) : Prop where
  row : OwnL W B 32 3 v (rsL X)
  each : ∀ x ∈ X, RxO W B x
theorem OwnR.nil (W : World) (B : Nat) : OwnR W B (.slice none 0 0) [] := ⟨OwnL.nil _ _ _ _, fun x h => by simp at h⟩
theorem OwnR.at {W : World} {B : Nat} {v : Value} {X : List Rx} (h : OwnR W B v X) : ∃ a c, v = .slice a X.length c ∧ RsAt W a X := by
  obtain ⟨a, c, e, hs⟩ := h.row.sl
  rw [rs_len] at e
  exact ⟨a, c, e, hs, fun x hx => (h.each x hx).at'⟩
theorem OwnR.keep {w w' : World} {B : Nat} {v : Value} {X : List Rx} (h : OwnR w B v X) (hs : w.heap.size ≤ w'.heap.size) (hk : ∀ b, B ≤ b → b < w.heap.size → w'.heap[b]? = w.heap[b]?) : OwnR w' B v X :=
  ⟨h.row.same (fun b e => by obtain ⟨h1, h2, _⟩ := own_lt h.row.2 e; exact hk b h1 h2), fun x hx => (h.each x hx).keep hs (fun b t cs h1 h2 _ => hk b h1 h2.lt)⟩
theorem OwnR.but {w w' : World} {B g : Nat} {v : Value} {X : List Rx} (h : OwnR w B v X) (hb : But g w w') (hg : g < B) : OwnR w' B v X := h.keep hb.size (fun b h1 h2 => hb.block b h2 (by omega))
theorem OwnR.after {w w' : World} {B : Nat} {v : Value} {X : List Rx} (h : OwnR w B v X) (hb : After w w') : OwnR w' B v X := h.keep hb.size (fun b _ h2 => hb.block b h2)
theorem OwnR.lower {w : World} {B B' : Nat} {v : Value} {X : List Rx} (h : OwnR w B v X) (hb : B' ≤ B) : OwnR w B' v X := ⟨h.row.lower hb, fun x hx => (h.each x hx).lower hb⟩
theorem OwnR.val {w : World} {base : Nat} {v : Value} {X : List Rx} (h : OwnR w base v X) {n : Nat} (hn : X.length = n) : ∃ a c, v = .slice a n c ∧ (a = none → c = 0) := h.row.val (by rw [rs_len]; exact hn)
theorem info41 : (Tryz.prog.info? 32).map (fun i => (i.zero, i.size, i.bytes)) = some (some (.agg #[.string ⟨#[]⟩, .slice none 0 0, .slice none 0 0]), 3, 64) := by kernel_rfl
theorem rx_box {w : World} {x : Rx} : SlAt (w.alloc (.cells (rxc x).toArray 32)) 3 (some ⟨w.heap.size, 0, none⟩) (rsL [x]) :=
  ⟨uni_rs _, fun _ => ⟨_, _, rfl, fun j u hu => by
    have := (RowIs.new w 32 (rxc x)).cell (j := j) (v := u) (by simpa [rsL] using hu)
    rw [Nat.zero_add]; exact this⟩⟩
/-- A record behind records in a row. -/
theorem run_appR {w : World} {B : Nat} {v : Value} {X Y : List Rx} (ty : TypeId) (h : OwnR w B v X) {a : Option Addr} {m c : Nat} (hm : Y.length = m) (hs : SlAt w 3 a (rsL Y)) (hl : (X.length + m) * 64 ≤ 140737488355328) (hb : B ≤ w.heap.size) (hc : Y = [] → a = none → c = 0) (hY : ∀ y ∈ Y, RxO w B y) :
    ∃ va vc w', (Builtin.append_ #[22, 22] ty #[v, .slice a m c]).run Tryz.prog w = .ok (.slice va (X.length + m) vc) w' ∧ OwnR w' B (.slice va (X.length + m) vc) (X ++ Y) ∧ w.grownBy w' v.ownBlock := by
  obtain ⟨i, hi, hz⟩ := Option.map_eq_some_iff.1 info41
  simp only [Prod.mk.injEq] at hz
  obtain ⟨hz, hsz, hby⟩ := hz
  have := run_appL (t := 22) ty 32 3 64 Tryz.underlying22 hi hz hsz hby rfl (by omega) h.row (by rw [rs_len, hm]) hs (rs_one Y) (by rw [rs_len]; unfold maxLen; omega) (by rw [rs_len]; exact hl) hb (fun e => hc (by cases Y with | nil => rfl | cons x Y => simp [rsL] at e))
  rw [rs_len] at this
  obtain ⟨va, vc, w', r1, r2, r3, _⟩ := this
  refine ⟨va, vc, w', r1, ⟨by unfold rsL; rw [List.map_append]; exact r2, fun x hx => ?_⟩, r3⟩
  have hx0 : RxO w B x := by
    rcases List.mem_append.1 hx with hx | hx
    · exact h.each x hx
    · exact hY x hx
  refine hx0.keep r3.size (fun b t cs _ h2 ht => r3.block b h2.lt (fun e => ?_))
  obtain ⟨_, _, cs', h3⟩ := own_lt h.row.2 e.symm
  have := (h2.ty h3).1
  rcases ht with rfl | rfl <;> exact absurd this (by decide)
def GaR (w : World) (g m : Nat) (t : List UInt8) (e1 i : Nat) (v : Value) (bs' : List UInt8) (e' : Nat) (wr : World) : Prop := ∃ X : List Rx, X.length = i ∧ OwnR wr w.heap.size v X ∧ Stp (pMany pRc i) t e1 (rsof X) bs' e' ∧ RdS wr g m bs' e' ∧ But g w wr
def GrT (w : World) (g m : Nat) (bs : List UInt8) (e : Nat) (x : Ending) (w' : World) : Prop := ∃ a c k X bs' e', x = .returned (.slice a k c) ∧ X.length = k ∧ k ≤ 64 ∧ OwnR w' w.heap.size (.slice a k c) X ∧ Stp pIx bs e (rsof X) bs' e' ∧ RdS w' g m bs' e' ∧ But g w w'
theorem rsof_snoc (X : List Rx) (x : Rx) : rsof (X ++ [x]) = rsof X ++ [rof x] := by simp [rsof]
theorem gaR_step {w w3 : World} {g m : Nat} {t : List UInt8} {e1 i : Nat} {v : Value} {b1 b2 : List UInt8} {e2 : Nat} {wr : World} {y : Rx} (hgm : m ≤ w.heap.size) (h : GaR w g m t e1 i v b1 0 wr) (hk : RcG wr g m b1 0 y b2 e2 w3) (hi : (i + 1) * 64 ≤ 140737488355328) :
    ∃ a c va vc w6, v = .slice a i c ∧ (Builtin.append_ #[22, 22] 22 #[.slice a i c, .slice (some ⟨w3.heap.size, 0, none⟩) 1 1]).run Tryz.prog (w3.alloc (.cells (rxc y).toArray 32)) = .ok (.slice va (i + 1) vc) w6 ∧ GaR w g m t e1 (i + 1) (.slice va (i + 1) vc) b2 e2 w6 := by
  obtain ⟨X, h1, h3, h4, h5, h6⟩ := h
  obtain ⟨a, c, rfl, _⟩ := h3.val h1
  have hg : g < w.heap.size := Nat.lt_of_lt_of_le h5.gm hgm
  have hs6 := h6.size
  have hsb := hk.but.size
  have o2 := h3.but hk.but hg
  have hal : After w3 (w3.alloc (.cells (rxc y).toArray 32)) := after_alloc (After.refl w3) _
  have o3 := o2.after hal
  have oy : RxO (w3.alloc (.cells (rxc y).toArray 32)) w.heap.size y := (hk.own.lower hs6).keep hal.size (fun b t cs _ h2 _ => hal.block b h2.lt)
  obtain ⟨va, vc, w6, r1, r2, r3⟩ := run_appR 22 o3 (Y := [y]) (m := 1) (c := 1) rfl rx_box (by omega) (by simp; omega) (fun e => by cases e) (fun z hz => by rw [List.mem_singleton.1 hz]; exact oy)
  rw [h1] at r1 r2
  refine ⟨a, c, va, vc, w6, rfl, r1, X ++ [y], by simp [h1], r2, by rw [rsof_snoc]; exact h4.succ hk.stp, (hk.rd.after hal).grown r3 (fun b e => by have := (own_lt o3.row.2 e).1; omega), ?_⟩
  have hA := (h6.trans hk.but).trans (But.of_below hal)
  refine ⟨r3.os.trans hA.os, r3.tape.trans hA.tape, r3.output.trans hA.output, Nat.le_trans hA.size r3.size, fun k hk' hne => ?_⟩
  rw [r3.block k (Nat.lt_of_lt_of_le hk' hA.size) (fun e => by have := (own_lt o3.row.2 e.symm).1; omega)]
  exact hA.block k hk' hne
theorem x_bs22r {oi : Oper} {a : Act} {w : World} {x : Operand} {y : Rx} (hop : oi.op = .buildSlice 22 1 #[(0, x)]) (hx : a.eval x = .agg (rxc y).toArray) : (execOp a.eval oi).run Tryz.prog w = .ok (.value (.slice (some ⟨w.heap.size, 0, none⟩) 1 1)) (w.alloc (.cells (rxc y).toArray 32)) := by
  have hb : ∀ (s : ByteArray) (u v : Value), (Instr.buildSlice 22 1 #[(0, .agg #[.string s, u, v])]).run Tryz.prog w = .ok (.slice (some ⟨w.heap.size, 0, none⟩) 1 1) (w.alloc (.cells #[.string s, u, v] 32)) := fun s u v => by kernel_rfl
  have hb' := hb (strOf y.nm) (.slice y.ba y.X.length y.bc) (.slice y.a y.l.length y.c)
  unfold execOp
  simp only [hop]
  simp [hx, rxc, hb']
set_option maxRecDepth 100000 in
set_option maxHeartbeats 6400000 in
theorem gather53 {w : World} {g m p0 : Nat} {bs : List UInt8} {e : Nat} (h : RdS w g m bs e) (hc : w.cell? ⟨p0, 0, none⟩ = some (.pointer (some ⟨g, 0, none⟩))) (hpg : p0 ≠ g) : Calls Tryz.prog 39 #[.pointer (some ⟨g, 0, none⟩), .int .u64 64, .func (.func 40) #[] #[.pointer (some ⟨p0, 0, none⟩)]] w (GrT w g m bs e) := by
  have HR : Hid (RdS w g m bs e ∧ w.cell? ⟨p0, 0, none⟩ = some (.pointer (some ⟨g, 0, none⟩)) ∧ p0 ≠ g) := ⟨h, hc, hpg⟩
  clear h hc hpg
  go_enter Tryz.func39, Tryz.ntmps39
  go_wp2_with (go_at_call 55; refine (uint73 64 HR.out.1).mono ?_; rintro x w1 ⟨n, t, e1, rfl, hn, hs, hr, hb⟩
               have H1 : Hid (n ≤ 64 ∧ Stp (pN 64) bs e n t e1 ∧ RdS w1 g m t e1 ∧ But g w w1) := ⟨hn, hs, hr, hb⟩
               clear hn hs hr hb)
  have hn63 : n < 9223372036854775808 := by have := H1.out.1; omega
  go_loopw [7, 11] (fun v iv wr => ∃ (i : Nat) (b' : List UInt8) (e' : Nat), i ≤ n ∧ iv = .int .u64 (i : Int) ∧ Hid (GaR w g m t e1 i v b' e' wr)) (fun _ iv _ => n - (intOf iv).toNat)
  case atStart => exact ⟨0, t, e1, Nat.zero_le _, rfl, [], rfl, OwnR.nil _ _, Stp.zero t e1, H1.out.2.2.1, H1.out.2.2.2⟩
  case round =>
    obtain ⟨i, b', e', hin, rfl, HI⟩ := hrel
    obtain ⟨v, rfl⟩ : ∃ v, v = u7 := ⟨_, rfl⟩
    by_cases hlt : i < n
    · have hii : (i : Int) < (n : Int) := by omega
      have hib : (i + 1) * 64 ≤ 140737488355328 := by have := H1.out.1; omega
      have hi63 : i + 1 < 9223372036854775808 := by omega
      have HE60 : Hid (Calls Tryz.prog 46 #[.pointer (some ⟨g, 0, none⟩)] wr fun x w' => x = .returned (.int .i64 (e' : Int)) ∧ w' = wr) := by
        obtain ⟨l, _, _, _, h5, _⟩ := HI.out
        exact err60 h5
      have HIB : Hid ((i + 1) * 64 ≤ 140737488355328) := hib
      clear hib
      by_cases he : e' = 0
      · subst he
        have HH : Hid (Calls Tryz.prog 40 #[.pointer (some ⟨p0, 0, none⟩)] wr (RcT wr g m b' 0)) := by
          obtain ⟨l, _, _, _, h5, h6⟩ := HI.out
          exact clo54 h5 (h6.cell HR.out.2.2 HR.out.2.1) HR.out.2.2
        go_wp2_with (first
          | (go_at_call 46; refine Calls.mono HE60.out ?_; rintro x w9 ⟨rfl, hw9⟩; rw [hw9]; clear hw9 w9)
          | (go_at_call 40; refine Calls.mono HH.out ?_; rintro x w3 ⟨y, b2, e2, rfl, hy⟩
             obtain ⟨a, c, va, vc, w6, hv, hr6, hg6⟩ := gaR_step HR.out.1.mw HI.out hy HIB.out
             subst hv
             have H6 : Hid (GaR w g m t e1 (i + 1) (.slice va (i + 1) vc) b2 e2 w6) := hg6
             have H6R : Hid ((Builtin.append_ #[22, 22] 22 #[.slice a i c, .slice (some ⟨w3.heap.size, 0, none⟩) 1 1]).run Tryz.prog (w3.alloc (.cells (rxc y).toArray 32)) = .ok (.slice va (i + 1) vc) w6) := hr6
             clear hy hr6 hg6)
          | (refine wpList_of_run rfl (x_bs22r (x := .tmp 18) (y := y) rfl rfl) ?_)
          | (refine wpList_of_run rfl (x_app (t := 22) (s := .tmp 16) (x := .tmp 19) rfl rfl rfl H6R.out) ?_))
        go_roundw
        case rel => exact ⟨i + 1, b2, e2, by omega, by go_num, H6⟩
        case measure => simp [intOf]; omega
      · have hne : ¬ (e' : Int) = 0 := by omega
        have HF : Hid (GaR w g m t e1 i v b' e' wr ∧ e' ≠ 0 ∧ i ≤ n) := ⟨HI.out, he, hin⟩
        go_wp2_with (go_at_call 46; refine Calls.mono HE60.out ?_; rintro x w9 ⟨rfl, hw9⟩; rw [hw9]; clear hw9 w9)
        go_ret
        obtain ⟨⟨l, h1, h3, h4, h5, h6⟩, h7, h8⟩ := HF.out
        obtain ⟨a, c, rfl, _⟩ := h3.val h1
        exact ⟨a, c, i, l, b', e', rfl, h1, Nat.le_trans h8 H1.out.1, h3, H1.out.2.1.list h4 (.inr ⟨h7, h8⟩), h5, h6⟩
    · have hii : ¬ (i : Int) < (n : Int) := by omega
      have HF : Hid (GaR w g m t e1 i v b' e' wr ∧ i = n) := ⟨HI.out, by omega⟩
      go_wp2
      go_ret
      obtain ⟨⟨l, h1, h3, h4, h5, h6⟩, h7⟩ := HF.out
      obtain ⟨a, c, rfl, _⟩ := h3.val h1
      exact ⟨a, c, i, l, b', e', rfl, h1, by have := H1.out.1; omega, h3, H1.out.2.1.list h4 (.inl h7), h5, h6⟩
set_option maxRecDepth 100000 in
set_option maxHeartbeats 3200000 in
theorem records28 {w : World} {g m : Nat} {bs : List UInt8} {e : Nat} (h : RdS w g m bs e) : Calls Tryz.prog 25 #[.pointer (some ⟨g, 0, none⟩)] w (GrT w g m bs e) := by
  obtain ⟨g0, hg0⟩ : ∃ g0, w.heap.size = g0 := ⟨_, rfl⟩
  obtain ⟨W0, hW0⟩ : ∃ W0, w.alloc (.cells #[.pointer (some ⟨g, 0, none⟩)] 47) = W0 := ⟨_, rfl⟩
  have hA : After w W0 := by rw [← hW0]; exact after_alloc (After.refl w) _
  have hc : W0.cell? ⟨g0, 0, none⟩ = some (.pointer (some ⟨g, 0, none⟩)) := by rw [← hW0, ← hg0]; exact box_cell w _ 47
  have HR : Hid (After w W0 ∧ RdS W0 g m bs e ∧ W0.cell? ⟨g0, 0, none⟩ = some (.pointer (some ⟨g, 0, none⟩)) ∧ g0 ≠ g) := ⟨hA, h.after hA, hc, by have := h.gm; have := h.mw; omega⟩
  clear h hA
  go_enter Tryz.func25, Tryz.ntmps25
  go_wp2_with (first
    | (rw [hW0]; rw [hg0])
    | (go_at_call 39; refine (gather53 (p0 := g0) HR.out.2.1 HR.out.2.2.1 HR.out.2.2.2).mono ?_; rintro x w3 ⟨a, c, k, X, b2, e2, rfl, h1, h2, h3, h4, h5, h6⟩
       have H3 : Hid (X.length = k ∧ k ≤ 64 ∧ OwnR w3 w.heap.size (.slice a k c) X ∧ Stp pIx bs e (rsof X) b2 e2 ∧ RdS w3 g m b2 e2 ∧ But g w w3) := ⟨h1, h2, h3.lower HR.out.1.size, h4, h5, (But.of_below HR.out.1).trans h6⟩
       clear h1 h2 h3 h4 h5 h6))
  go_ret
  exact ⟨a, c, k, X, b2, e2, rfl, H3.out⟩
end Go.Proofs.YtcmcapcagblafaaGreat

namespace Go.Proofs.YtcmcapcagblafaaGreat
open Go.RowKit Go.Maps Dsk Leb
attribute [local go_sem] Oper.semAt_some
set_option maxHeartbeats 400000 in
/-- leb.Read, as a state. -/
theorem read27 (ao : Option Addr) (cap : Nat) (bs : List UInt8) {n : Nat} (hn : bs.length = n) (hbig : n ≤ 524288) (w : World) (hat : BytesAt w ao bs) :
    Calls Tryz.prog 24 #[.slice ao n cap] w fun e w' => ∃ g, e = .returned (.pointer (some ⟨g, 0, none⟩)) ∧ RdS w' g w'.heap.size bs 0 ∧ w.heap.size ≤ g ∧ After w w' := by
  subst hn
  have HAT : Hid (BytesAt w ao bs ∧ bs.length ≤ 524288) := ⟨hat, hbig⟩
  clear hat
  go_enter Tryz.func24, Tryz.ntmps24
  go_wp2_with (go_at_call 38; refine (clone_any ao cap bs (by omega) _ HAT.out.1).mono ?_; rintro e w1 ⟨v1, rfl, ho1, hb1⟩; obtain ⟨a1, c1, rfl, hat1, hc1, hl1⟩ := ho1.at)
  go_ret
  refine ⟨w1.heap.size, rfl, ⟨⟨a1, c1, ⟨RowIs.new w1 68 [.slice a1 bs.length c1, .int .i64 0], hat1.after (after_alloc (After.refl w1) _), hc1, fun h => ?_, fun a ha => ?_⟩, fun a ha => ?_⟩, HAT.out.2, by simp, Nat.le_refl _⟩, hb1.size, after_alloc hb1 _⟩
  · subst h; exact bytesAt_none hat1
  · have := (hl1 a ha).2; omega
  · have := (hl1 a ha).2; simp; omega
/-- What Get tells. -/
structure GetT (raw : List UInt8) (w : World) (e : Ending) (w' : World) : Prop where
  aft : After w w'
  ans : (∃ a c k X, gOk raw (rsof X) ∧ e = .returned (.tuple #[.slice a k c, .int .i64 0]) ∧ X.length = k ∧ k ≤ 64 ∧ OwnR w' w.heap.size (.slice a k c) X) ∨ ((∀ L, ¬ gOk raw L) ∧ e = .returned (.tuple #[.slice none 0 0, .int .i64 4]))
theorem sdE_zero {bs : List UInt8} {e : Nat} (h : sdE bs e = 0) : e = 0 ∧ bs = [] := by
  unfold sdE at h
  split at h
  · rename_i h0
    split at h
    · rename_i h1; exact ⟨h0, List.eq_nil_of_length_eq_zero h1⟩
    · cases h
  · rename_i h0; exact absurd h h0
theorem sdE_ne {t bs : List UInt8} {L : List Rc} {e : Nat} (h : sdE bs e ≠ 0) (hs : Stp pIx t 0 L bs e) : ∀ M, pIx t ≠ some (M, []) := fun M hM => by
  by_cases h0 : e = 0
  · subst h0
    have h1 := hs.ok.2
    rw [hM] at h1
    cases h1
    exact h rfl
  · rw [hs.bad h0 rfl] at hM; cases hM
theorem no_gOk_nil : ∀ L, ¬ gOk [] L := fun L h => by have := h.2.1; unfold ixB at this; cases this
theorem no_gOk_long {raw : List UInt8} (h : 524288 < raw.length) : ∀ L, ¬ gOk raw L := fun L k => by have := k.1; omega
theorem no_gOk_head {x : UInt8} {t : List UInt8} (h : x ≠ 1) : ∀ L, ¬ gOk (x :: t) L := fun L k => by have := k.2.1; unfold ixB at this; injection this with h1 _; exact h h1
theorem no_gOk_rest {t : List UInt8} (h : ∀ M, pIx t ≠ some (M, [])) : ∀ L, ¬ gOk (1 :: t) L := fun L k => by
  obtain ⟨_, ⟨t', e, h2⟩, _⟩ := gOk_iff.1 k
  cases e
  exact h L h2
theorem no_gOk_may {t : List UInt8} {L : List Rc} (h : pIx t = some (L, [])) (hm : ¬ MOk L) : ∀ M, ¬ gOk (1 :: t) M := fun M k => by
  obtain ⟨_, ⟨t', e, h2⟩, h3⟩ := gOk_iff.1 k
  cases e
  rw [h] at h2; cases h2
  exact hm h3
set_option maxRecDepth 100000 in
set_option maxHeartbeats 12800000 in
theorem get14 {ao : Option Addr} {cap n : Nat} {raw : List UInt8} (hn : raw.length = n) (hcap : n ≤ cap) (hbig : n ≤ 140737488355328) {w : World} (hat : BytesAt w ao raw) : Calls Tryz.prog 13 #[.slice ao n cap] w (GetT raw w) := by
  cases raw with
  | nil =>
    obtain rfl : n = 0 := by rw [← hn]; rfl
    go_enter Tryz.func13, Tryz.ntmps13
    go_wp2
    refine bodyPost_ret (v := .tuple #[.slice none 0 0, .int .i64 4]) (by simp [results, Tryz.results13, go_sem]) rfl ⟨After.refl w, .inr ⟨no_gOk_nil, rfl⟩⟩
  | cons x t =>
    have hn0 : n ≠ 0 := by rw [← hn]; simp
    have hnz : ¬ (n : Int) = 0 := by omega
    have hpos : (0 : Int) < (n : Int) := by omega
    by_cases hl : 524288 < n
    · have hl' : (524288 : Int) < (n : Int) := by omega
      have HF : Hid (∀ L, ¬ gOk (x :: t) L) := no_gOk_long (by rw [hn]; exact hl)
      clear hat hn hl
      go_enter Tryz.func13, Tryz.ntmps13
      go_wp2
      refine bodyPost_ret (v := .tuple #[.slice none 0 0, .int .i64 4]) (by simp [results, Tryz.results13, go_sem]) rfl ⟨After.refl w, .inr ⟨HF.out, rfl⟩⟩
    · have hl' : ¬ (524288 : Int) < (n : Int) := by omega
      obtain ⟨b, o, hao, hce⟩ := hat (by simp)
      subst hao
      have c0 : w.cell? ⟨b, o, none⟩ = some (.int .u8 (x.toNat : Int)) := hce 0 (by simp)
      by_cases hx : x = 1
      · subst hx
        have c0' : w.cell? ⟨b, o, none⟩ = some (.int .u8 1) := c0
        obtain ⟨k, hk⟩ : ∃ k, n = k + 1 := ⟨n - 1, by omega⟩
        have htl : t.length = k := by have := hn; simp at this; omega
        obtain ⟨a1, ha1⟩ : ∃ a1, cutAt (some ⟨b, o, none⟩) 1 cap = a1 := ⟨_, rfl⟩
        obtain ⟨c1, hc1⟩ : ∃ c1, cap - 1 = c1 := ⟨_, rfl⟩
        have hsl : ∀ W, (Instr.sliceAt 33 (.slice (some ⟨b, o, none⟩) n cap) (some (.int .i64 1)) none none).run Tryz.prog W = .ok (.slice a1 k c1) W := fun W => by
          have := slice_from (some ⟨b, o, none⟩) n cap 1 (fun h => by cases h) hcap (by omega) W
          rw [ha1, hc1, show n - 1 = k by omega] at this
          exact this
        have HT : Hid (BytesAt w a1 t ∧ t.length = k ∧ k ≤ 524288) := ⟨by
          have := hat.cut 1 cap (by rw [hn]; exact hcap)
          rw [ha1] at this
          exact this, htl, by omega⟩
        have HRD : Hid (∀ W, After w W → Calls Tryz.prog 24 #[.slice a1 k c1] W fun e w' => ∃ g, e = .returned (.pointer (some ⟨g, 0, none⟩)) ∧ RdS w' g w'.heap.size t 0 ∧ W.heap.size ≤ g ∧ After W w') := fun W hW => read27 a1 c1 t HT.out.2.1 HT.out.2.2 W (HT.out.1.after hW)
        have HX : Hid (Calls Tryz.prog 24 #[.slice a1 k c1] w fun e w' => ∃ g, e = .returned (.pointer (some ⟨g, 0, none⟩)) ∧ RdS w' g w'.heap.size t 0 ∧ w.heap.size ≤ g ∧ After w w') := HRD.out w (After.refl w)
        have HL : Hid (¬ 524288 < n ∧ (1 :: t).length = n) := ⟨hl, hn⟩
        clear hat hce c0 hn hl hk htl ha1 hc1
        go_enter Tryz.func13, Tryz.ntmps13
        go_wp2_with (first
          | (go_at_call 24; refine Calls.mono HX.out ?_; rintro e w1 ⟨g, rfl, hr, hg, ha⟩; have H1 : Hid (RdS w1 g w1.heap.size t 0 ∧ w.heap.size ≤ g ∧ After w w1) := ⟨hr, hg, ha⟩; clear hr hg ha)
          | (go_at_call 25; refine (records28 H1.out.1).mono ?_; rintro e w2 ⟨a2, c2, k2, X, bs', e', rfl, h1, h2, h3, h4, h5, h6⟩
             have H2 : Hid (X.length = k2 ∧ k2 ≤ 64 ∧ OwnR w2 w1.heap.size (.slice a2 k2 c2) X ∧ Stp pIx t 0 (rsof X) bs' e' ∧ RdS w2 g w1.heap.size bs' e' ∧ After w w2) := ⟨h1, h2, h3, h4, h5, by
               have hb := (But.of_below (g := g) H1.out.2.2).trans h6
               exact ⟨hb.os, hb.tape, hb.output, hb.size, fun j hj => hb.block j hj (by have := H1.out.2.1; omega)⟩⟩
             have HD : Hid (Calls Tryz.prog 26 #[.pointer (some ⟨g, 0, none⟩)] w2 fun x w' => x = .returned (.int .i64 (sdE bs' e' : Int)) ∧ w' = w2) := done29 h5
             clear h1 h2 h3 h4 h5 h6
             obtain ⟨d, hd⟩ : ∃ d, sdE bs' e' = d := ⟨_, rfl⟩
             rw [hd] at HD
             have HS : Hid (sdE bs' e' = d) := hd
             clear hd))
        by_cases hd0 : d = 0
        · subst hd0
          have hz := sdE_zero HS.out
          have HP : Hid (pIx t = some (rsof X, [])) := by
            have h9 := H2.out.2.2.2.1
            rw [hz.1, hz.2] at h9
            exact h9.ok.2
          clear hz
          by_cases hm : MOk (rsof X)
          · have HM : Hid (Calls Tryz.prog 22 #[.slice a2 k2 c2] w2 fun e w' => e = .returned (.bool true) ∧ After w2 w') := by
              obtain ⟨a9, c9, e9, h9⟩ := H2.out.2.2.1.at
              rw [H2.out.1] at e9
              injection e9 with e1 _ e3
              subst e1 e3
              exact maybe_yes H2.out.1 (by have := H2.out.2.1; omega) hm h9
            have HG : Hid (gOk (1 :: t) (rsof X)) := gOk_iff.2 ⟨by have := HL.out; omega, ⟨t, rfl, HP.out⟩, hm⟩
            clear hm
            go_wp2_with (first
              | (go_at_call 26; refine Calls.mono HD.out ?_; rintro e w9 ⟨rfl, hw9⟩; rw [hw9]; clear hw9 w9)
              | (go_at_call 22; refine Calls.mono HM.out ?_; rintro e w3 ⟨rfl, h3⟩; have H3 : Hid (After w2 w3) := h3; clear h3))
            refine bodyPost_ret (v := .tuple #[.slice a2 k2 c2, .int .i64 0]) (by simp [results, Tryz.results13, go_sem]) rfl ⟨H2.out.2.2.2.2.2.trans H3.out, .inl ⟨_, _, _, X, HG.out, rfl, H2.out.1, H2.out.2.1, (H2.out.2.2.1.after H3.out).lower H1.out.2.2.size⟩⟩
          · have HM : Hid (Calls Tryz.prog 22 #[.slice a2 k2 c2] w2 fun e w' => e = .returned (.bool false) ∧ After w2 w') := by
              obtain ⟨a9, c9, e9, h9⟩ := H2.out.2.2.1.at
              rw [H2.out.1] at e9
              injection e9 with e1 _ e3
              subst e1 e3
              exact maybe_no H2.out.1 (by have := H2.out.2.1; omega) hm h9
            have HG : Hid (∀ L, ¬ gOk (1 :: t) L) := no_gOk_may HP.out hm
            clear hm
            go_wp2_with (first
              | (go_at_call 26; refine Calls.mono HD.out ?_; rintro e w9 ⟨rfl, hw9⟩; rw [hw9]; clear hw9 w9)
              | (go_at_call 22; refine Calls.mono HM.out ?_; rintro e w3 ⟨rfl, h3⟩; have H3 : Hid (After w2 w3) := h3; clear h3))
            refine bodyPost_ret (v := .tuple #[.slice none 0 0, .int .i64 4]) (by simp [results, Tryz.results13, go_sem]) rfl ⟨H2.out.2.2.2.2.2.trans H3.out, .inr ⟨HG.out, rfl⟩⟩
        · have hdz : ¬ (d : Int) = 0 := by omega
          have HG : Hid (∀ L, ¬ gOk (1 :: t) L) := no_gOk_rest (sdE_ne (by rw [HS.out]; exact hd0) H2.out.2.2.2.1)
          go_wp2_with (first
            | (go_at_call 26; refine Calls.mono HD.out ?_; rintro e w9 ⟨rfl, hw9⟩; rw [hw9]; clear hw9 w9))
          refine bodyPost_ret (v := .tuple #[.slice none 0 0, .int .i64 4]) (by simp [results, Tryz.results13, go_sem]) rfl ⟨H2.out.2.2.2.2.2, .inr ⟨HG.out, rfl⟩⟩
      · have hx1 : ¬ (x.toNat : Int) = 1 := fun h => hx (UInt8.toNat_inj.1 (by have : x.toNat = 1 := by omega
                                                                               rw [this]; rfl))
        have HF : Hid (∀ L, ¬ gOk (x :: t) L) := no_gOk_head hx
        have hx2 : ((x.toNat : Int) != 1) = true := bne_iff_ne.2 hx1
        clear hat hce hn hx
        go_enter Tryz.func13, Tryz.ntmps13
        go_wp2
        refine bodyPost_ret (v := .tuple #[.slice none 0 0, .int .i64 4]) (by simp [results, Tryz.results13, go_sem]) rfl ⟨After.refl w, .inr ⟨HF.out, rfl⟩⟩
end Go.Proofs.YtcmcapcagblafaaGreat

namespace Go.Proofs.YtcmcapcagblafaaGreat
open Go.RowKit Go.Maps Dsk Leb
attribute [local go_sem] Oper.semAt_some
def awX : Rx := ⟨[97], none, 0, [], none, 0, []⟩
theorem awX_at (w : World) : RxAt w awX := ⟨BsAt.nil _ _, SlAt.nil _ _ _, fun x h => (by cases h), by decide, fun y h => (by cases h), by decide, by decide, fun _ => rfl, fun _ => rfl⟩
theorem aw_ok : MOk (rsof [awX]) := by
  refine ⟨by decide, fun r hr => ?_, fun i p q hp hq => ?_⟩
  · rw [show rsof [awX] = [rof awX] from rfl, List.mem_singleton] at hr
    subst hr
    exact ⟨by decide, by decide, by decide, ⟨List.Pairwise.nil, by decide, fun p h => (by cases h)⟩⟩
  · have h1 := (List.getElem?_eq_some_iff.1 hq).1
    simp [rsof] at h1
theorem aw_bytes : ixB (rsof [awX]) = [1, 1, 1, 97, 0, 0] := by
  have h0 : uintB 0 = [0] := by rw [uintB]; rfl
  have h1 : uintB 1 = [1] := by rw [uintB]; rfl
  simp [ixB, rsof, rof, rcB, brsB, hsB, textB, bof, awX, h0, h1]
theorem aw_putE : putE (rsof [awX]) = 0 := putE_ok aw_ok (by rw [aw_bytes]; decide)
theorem aw_gOk : gOk [1, 1, 1, 97, 0, 0] (rsof [awX]) := ⟨by decide, aw_bytes.symm, aw_ok, fun r hr => by
  rw [show rsof [awX] = [rof awX] from rfl, List.mem_singleton] at hr
  subst hr
  exact (awX_at default).r32⟩
set_option maxRecDepth 100000 in
set_option maxHeartbeats 12800000 in
theorem awake8 (w : World) : Calls Tryz.prog 5 #[] w fun e w' => e = .returned (.bool true) ∧ After w w' := by
  obtain ⟨g, hg⟩ : ∃ g, w.heap.size = g := ⟨_, rfl⟩
  obtain ⟨W0, hW0⟩ : ∃ W0, w.alloc (.cells (rxc awX).toArray 32) = W0 := ⟨_, rfl⟩
  have HA : Hid (After w W0 ∧ RsAt W0 (some ⟨g, 0, none⟩) [awX]) := by
    rw [← hW0, ← hg]
    exact ⟨after_alloc (After.refl w) _, rx_box, fun x hx => by rw [List.mem_singleton.1 hx]; exact awX_at _⟩
  have HP : Hid (Calls Tryz.prog 12 #[.slice (some ⟨g, 0, none⟩) 1 1] W0 fun e w' => ∃ a c, e = .returned (.tuple #[.slice a 6 c, .int .i64 0]) ∧ BytesAt w' a [1, 1, 1, 97, 0, 0] ∧ 6 ≤ c ∧ After W0 w') := (put10 (X := [awX]) (n := 1) (ca := 1) rfl (by omega) HA.out.2).mono (fun e w' h => by
    rcases h.ans with ⟨_, a, c, k, he, h1, h2, h3⟩ | ⟨h1, _⟩
    · rw [aw_bytes] at h1 h2
      have : k = 6 := by rw [← h1]; rfl
      subst this
      exact ⟨a, c, he, h2, h3, h.aft⟩
    · exact absurd aw_putE h1)
  have HG : Hid (∀ (W : World) (a : Option Addr) (c : Nat), BytesAt W a [1, 1, 1, 97, 0, 0] → 6 ≤ c → Calls Tryz.prog 13 #[.slice a 6 c] W fun e w' => ∃ b o c', e = .returned (.tuple #[.slice (some ⟨b, o, none⟩) 1 c', .int .i64 0]) ∧ w'.cell? ⟨b, o, none⟩ = some (.string ⟨#[97]⟩) ∧ After W w') := fun W a c hb hc => (get14 (n := 6) (cap := c) rfl hc (by omega) hb).mono (fun e w' h => by
    rcases h.ans with ⟨a2, c2, k2, X, h1, h2, h3, _, h5⟩ | ⟨h1, _⟩
    · have hX := gOk_inj h1 aw_gOk
      have hk : k2 = 1 := by rw [← h3, ← rsof_len X, hX]; rfl
      subst hk
      obtain ⟨x, rfl⟩ : ∃ x, X = [x] := by
        match X, h3 with
        | [x], _ => exact ⟨x, rfl⟩
      have hnm : x.nm = [97] := by
        have h9 : [rof x] = [rof awX] := hX
        injection h9 with h9 _
        exact congrArg Prod.fst h9
      obtain ⟨a3, c3, e3, hs⟩ := h5.at
      injection e3 with e4 _ _
      subst e4
      obtain ⟨b, o, rfl, hr⟩ := hs.sl.at (i := 0) (x := rxc x) rfl
      have hc0 := hr 0 (.string (strOf x.nm)) rfl
      rw [hnm] at hc0
      exact ⟨b, o, c2, h2, hc0, h.aft⟩
    · exact absurd aw_gOk (h1 _))
  have HAR : Hid ((rxc awX).toArray = #[.string ⟨#[97]⟩, .slice none 0 0, .slice none 0 0]) := rfl
  have HW0 : Hid (w.alloc (.cells (rxc awX).toArray 32) = W0) := hW0
  clear hW0
  go_enter Tryz.func5, Tryz.ntmps5
  go_wp2_with (first
    | (refine wpList_of_run rfl (x_bs22r (x := .tmp 6) (y := awX) rfl rfl) ?_; rw [HW0.out]; rw [hg])
    | (go_at_call 12; refine Calls.mono HP.out ?_; rintro e w1 ⟨a, c, rfl, hb, hc, ha⟩; have H1 : Hid (BytesAt w1 a [1, 1, 1, 97, 0, 0] ∧ 6 ≤ c ∧ After w w1) := ⟨hb, hc, HA.out.1.trans ha⟩; clear hb hc ha)
    | (go_at_call 13; refine Calls.mono (HG.out _ _ _ H1.out.1 H1.out.2.1) ?_; rintro e w2 ⟨b, o, c2, rfl, hcell, ha⟩; have H2 : Hid (BytesAt w2 a [1, 1, 1, 97, 0, 0] ∧ After w w2) := ⟨H1.out.1.after ha, H1.out.2.2.trans ha⟩; clear ha)
    | (refine wpList_of_run rfl (x_conv (x := .tmp 16) (s := ⟨#[1, 1, 1, 97, 0, 0]⟩) rfl rfl (conv_at (bs := [1, 1, 1, 97, 0, 0]) c H2.out.1)) ?_))
  refine bodyPost_ret (v := .bool true) (by simp [results, Tryz.results5, go_sem]) rfl ⟨rfl, H2.out.2⟩
end Go.Proofs.YtcmcapcagblafaaGreat

namespace Go.Proofs.YtcmcapcagblafaaGreat
open Go.RowKit Go.Maps Dsk
attribute [local go_sem] Oper.semAt_some
set_option maxRecDepth 100000 in
set_option maxHeartbeats 25600000 in
theorem rsame13 {ao bo : Option Addr} {ca cb : Nat} {la lb : List Rx} {n m : Nat} (hla : la.length = n) (hlb : lb.length = m) (hbig : n < 4611686018427387904) {w : World} (hA : RsAt w ao la) (hB : RsAt w bo lb) :
    Calls Tryz.prog 10 #[.slice ao n ca, .slice bo m cb] w fun e w' => e = .returned (.bool (decide (rsof la = rsof lb))) ∧ After w w' := by
  have hpa : (rsof la).length = n := by rw [rsof_len, hla]
  have hpb : (rsof lb).length = m := by rw [rsof_len, hlb]
  by_cases hnm : n = m
  · subst hnm
    have HFA : Hid (RsAt w ao la ∧ la.length = n ∧ (rsof la).length = n) := ⟨hA, hla, hpa⟩
    have HFB : Hid (RsAt w bo lb ∧ lb.length = n ∧ (rsof lb).length = n) := ⟨hB, hlb, hpb⟩
    clear hA hB hla hlb hpa hpb
    go_enter Tryz.func10, Tryz.ntmps10
    go_wp2
    go_loopw [5] (fun iv wr => ∃ i : Nat, i ≤ n ∧ iv = .int .i64 (i : Int) ∧ Hid (SmI w (rsof la) (rsof lb) i wr)) (fun iv _ => n - (intOf iv).toNat)
    case atStart => exact ⟨0, Nat.zero_le _, rfl, After.refl w, fun j hj => by omega⟩
    case round =>
      obtain ⟨i, hin, rfl, HI⟩ := hrel
      by_cases hlt : i < n
      · have hii : (i : Int) < (n : Int) := by omega
        have HLT : Hid (i < n) := hlt
        obtain ⟨x, hx⟩ : ∃ x, la[i]? = some x := ⟨_, List.getElem?_eq_getElem (by rw [HFA.out.2.1]; exact hlt)⟩
        obtain ⟨y, hy⟩ : ∃ y, lb[i]? = some y := ⟨_, List.getElem?_eq_getElem (by rw [HFB.out.2.1]; exact hlt)⟩
        have hxb := HFA.out.1.each x (List.mem_of_getElem? hx)
        have hyb := HFB.out.1.each y (List.mem_of_getElem? hy)
        obtain ⟨xb, xo, hxa, hxr⟩ := HFA.out.1.sl.at (rs_get hx)
        obtain ⟨yb, yo, hya, hyr⟩ := HFB.out.1.sl.at (rs_get hy)
        subst hxa hya
        obtain ⟨k, hk⟩ : ∃ k, x.X.length = k := ⟨_, rfl⟩
        obtain ⟨p, hp⟩ : ∃ p, x.l.length = p := ⟨_, rfl⟩
        obtain ⟨q, hq⟩ : ∃ q, y.X.length = q := ⟨_, rfl⟩
        obtain ⟨r, hr⟩ : ∃ r, y.l.length = r := ⟨_, rfl⟩
        have HX : Hid (wr.rangeAt xb (xo + i * 3) [.string (strOf x.nm), .slice x.ba k x.bc, .slice x.a p x.c]) := by have := range_after hxr HI.out.aft; unfold rxc at this; rw [hk, hp] at this; exact this
        have HY : Hid (wr.rangeAt yb (yo + i * 3) [.string (strOf y.nm), .slice y.ba q y.bc, .slice y.a r y.c]) := by have := range_after hyr HI.out.aft; unfold rxc at this; rw [hq, hr] at this; exact this
        have HC1 : Hid (∀ W, After wr W → Calls Tryz.prog 20 #[.slice x.ba k x.bc, .slice y.ba q y.bc] W fun e w' => e = .returned (.bool (decide (bof x.X = bof y.X))) ∧ After W w') := fun W hW => rsame28 (ca := x.bc) (cb := y.bc) hk hq (by have := hxb.fitB; omega) (hxb.bs.after (HI.out.aft.trans hW)) (hyb.bs.after (HI.out.aft.trans hW))
        have HC2 : Hid (∀ W, After wr W → Calls Tryz.prog 6 #[.slice x.a p x.c, .slice y.a r y.c] W fun e w' => e = .returned (.bool (decide (x.l = y.l))) ∧ After W w') := fun W hW => rsame31 (ca := x.c) (cb := y.c) hxb.l32 hyb.l32 hp hr (by have := hxb.fitC; omega) (hxb.sl.after (HI.out.aft.trans hW)) (hyb.sl.after (HI.out.aft.trans hW))
        have HXY : Hid ((rsof la)[i]? = some (rof x) ∧ (rsof lb)[i]? = some (rof y)) := ⟨rsof_get hx, rsof_get hy⟩
        clear hx hy hxb hyb hxr hyr hk hp hq hr
        by_cases h1 : x.nm = y.nm
        · have HD1 : Hid (decide (x.nm = y.nm) = true) := decide_eq_true h1
          by_cases h2 : bof x.X = bof y.X
          · have HD2 : Hid (decide (bof x.X = bof y.X) = true) := decide_eq_true h2
            by_cases h3 : x.l = y.l
            · have HD3 : Hid (decide (x.l = y.l) = true) := decide_eq_true h3
              have HEQ : Hid (rof x = rof y) := by unfold Hid rof; rw [h1, h2, h3]
              clear h1 h2 h3
              go_wp2
              refine wp_region_noPanic ?_
              refine wp_region_held_drew (S := After wr) (by kernel_rfl) (After.drew (After.refl wr)) ?_
              intro hS0
              refine tk 0 17 (.slice (some ⟨xb, xo, none⟩) n ca) (fuel := 38) rfl (by kernel_rfl) (by kernel_rfl) (by kernel_rfl) (by kernel_rfl) noPanic_false (by kernel_rfl) (fun _ _ => by kernel_rfl) hS0 ?_
              refine tk 1 18 (.int .i64 (i : Int)) (fuel := 37) rfl (by kernel_rfl) (by kernel_rfl) (by kernel_rfl) (by kernel_rfl) noPanic_false (by kernel_rfl) (fun _ _ => by kernel_rfl) hS0 ?_
              refine tk 2 19 (.pointer (some ⟨xb, xo + i * 3, none⟩)) (fuel := 36) rfl (by kernel_rfl) (by kernel_rfl) (by kernel_rfl) (by kernel_rfl) noPanic_false (by kernel_rfl) (fun W _ => x_idx22 (n := n) (c := ca) (x := .tmp 17) (y := .tmp 18) (by kernel_rfl) (by kernel_rfl) (by kernel_rfl) HLT.out) hS0 ?_
              refine tk 3 20 (.pointer (some ⟨xb, xo + i * 3, none⟩)) (fuel := 35) rfl (by kernel_rfl) (by kernel_rfl) (by kernel_rfl) (by kernel_rfl) noPanic_false (by kernel_rfl) (fun _ _ => by kernel_rfl) hS0 ?_
              refine tk 4 21 (.string (strOf x.nm)) (fuel := 34) rfl (by kernel_rfl) (by kernel_rfl) (by kernel_rfl) (by kernel_rfl) noPanic_false (by kernel_rfl) (fun W hW => x_loadT (x := .tmp 20) (t := 9) (g := xb) (j := xo + i * 3 + 0) Tryz.underlying9 rfl (by kernel_rfl) (by kernel_rfl) (range_after HX.out hW 0 _ rfl)) hS0 ?_
              refine tk 5 22 (.slice (some ⟨yb, yo, none⟩) n cb) (fuel := 33) rfl (by kernel_rfl) (by kernel_rfl) (by kernel_rfl) (by kernel_rfl) noPanic_false (by kernel_rfl) (fun _ _ => by kernel_rfl) hS0 ?_
              refine tk 6 23 (.int .i64 (i : Int)) (fuel := 32) rfl (by kernel_rfl) (by kernel_rfl) (by kernel_rfl) (by kernel_rfl) noPanic_false (by kernel_rfl) (fun _ _ => by kernel_rfl) hS0 ?_
              refine tk 7 24 (.pointer (some ⟨yb, yo + i * 3, none⟩)) (fuel := 31) rfl (by kernel_rfl) (by kernel_rfl) (by kernel_rfl) (by kernel_rfl) noPanic_false (by kernel_rfl) (fun W _ => x_idx22 (n := n) (c := cb) (x := .tmp 22) (y := .tmp 23) (by kernel_rfl) (by kernel_rfl) (by kernel_rfl) HLT.out) hS0 ?_
              refine tk 8 25 (.pointer (some ⟨yb, yo + i * 3, none⟩)) (fuel := 30) rfl (by kernel_rfl) (by kernel_rfl) (by kernel_rfl) (by kernel_rfl) noPanic_false (by kernel_rfl) (fun _ _ => by kernel_rfl) hS0 ?_
              refine tk 9 26 (.string (strOf y.nm)) (fuel := 29) rfl (by kernel_rfl) (by kernel_rfl) (by kernel_rfl) (by kernel_rfl) noPanic_false (by kernel_rfl) (fun W hW => x_loadT (x := .tmp 25) (t := 9) (g := yb) (j := yo + i * 3 + 0) Tryz.underlying9 rfl (by kernel_rfl) (by kernel_rfl) (range_after HY.out hW 0 _ rfl)) hS0 ?_
              refine tk 10 27 (.bool false) (fuel := 28) rfl (by kernel_rfl) (by kernel_rfl) (by kernel_rfl) (by kernel_rfl) noPanic_false (by kernel_rfl) (fun W _ => (x_ne9 (s := x.nm) (t := y.nm) (x := .tmp 21) (y := .tmp 26) (by kernel_rfl) (by kernel_rfl) (by kernel_rfl)).trans (by rw [HD1.out]; rfl)) hS0 ?_
              refine tk 11 28 (.bool false) (fuel := 27) rfl (by kernel_rfl) (by kernel_rfl) (by kernel_rfl) (by kernel_rfl) noPanic_false (by kernel_rfl) (fun _ _ => by kernel_rfl) hS0 ?_
              refine tk 12 29 (.slice (some ⟨xb, xo, none⟩) n ca) (fuel := 26) rfl (by kernel_rfl) (by kernel_rfl) (by kernel_rfl) (by kernel_rfl) noPanic_false (by kernel_rfl) (fun _ _ => by kernel_rfl) hS0 ?_
              refine tk 13 30 (.int .i64 (i : Int)) (fuel := 25) rfl (by kernel_rfl) (by kernel_rfl) (by kernel_rfl) (by kernel_rfl) noPanic_false (by kernel_rfl) (fun _ _ => by kernel_rfl) hS0 ?_
              refine tk 14 31 (.pointer (some ⟨xb, xo + i * 3, none⟩)) (fuel := 24) rfl (by kernel_rfl) (by kernel_rfl) (by kernel_rfl) (by kernel_rfl) noPanic_false (by kernel_rfl) (fun W _ => x_idx22 (n := n) (c := ca) (x := .tmp 29) (y := .tmp 30) (by kernel_rfl) (by kernel_rfl) (by kernel_rfl) HLT.out) hS0 ?_
              refine tk 15 32 (.pointer (some ⟨xb, xo + i * 3 + 1, none⟩)) (fuel := 23) rfl (by kernel_rfl) (by kernel_rfl) (by kernel_rfl) (by kernel_rfl) noPanic_false (by kernel_rfl) (fun _ _ => by kernel_rfl) hS0 ?_
              refine tk 16 33 (.slice x.ba k x.bc) (fuel := 22) rfl (by kernel_rfl) (by kernel_rfl) (by kernel_rfl) (by kernel_rfl) noPanic_false (by kernel_rfl) (fun W hW => x_loadT (x := .tmp 32) (t := 30) (g := xb) (j := xo + i * 3 + 1) Tryz.underlying30 rfl (by kernel_rfl) (by kernel_rfl) (range_after HX.out hW 1 _ rfl)) hS0 ?_
              refine tk 17 34 (.slice (some ⟨yb, yo, none⟩) n cb) (fuel := 21) rfl (by kernel_rfl) (by kernel_rfl) (by kernel_rfl) (by kernel_rfl) noPanic_false (by kernel_rfl) (fun _ _ => by kernel_rfl) hS0 ?_
              refine tk 18 35 (.int .i64 (i : Int)) (fuel := 20) rfl (by kernel_rfl) (by kernel_rfl) (by kernel_rfl) (by kernel_rfl) noPanic_false (by kernel_rfl) (fun _ _ => by kernel_rfl) hS0 ?_
              refine tk 19 36 (.pointer (some ⟨yb, yo + i * 3, none⟩)) (fuel := 19) rfl (by kernel_rfl) (by kernel_rfl) (by kernel_rfl) (by kernel_rfl) noPanic_false (by kernel_rfl) (fun W _ => x_idx22 (n := n) (c := cb) (x := .tmp 34) (y := .tmp 35) (by kernel_rfl) (by kernel_rfl) (by kernel_rfl) HLT.out) hS0 ?_
              refine tk 20 37 (.pointer (some ⟨yb, yo + i * 3 + 1, none⟩)) (fuel := 18) rfl (by kernel_rfl) (by kernel_rfl) (by kernel_rfl) (by kernel_rfl) noPanic_false (by kernel_rfl) (fun _ _ => by kernel_rfl) hS0 ?_
              refine tk 21 38 (.slice y.ba q y.bc) (fuel := 17) rfl (by kernel_rfl) (by kernel_rfl) (by kernel_rfl) (by kernel_rfl) noPanic_false (by kernel_rfl) (fun W hW => x_loadT (x := .tmp 37) (t := 30) (g := yb) (j := yo + i * 3 + 1) Tryz.underlying30 rfl (by kernel_rfl) (by kernel_rfl) (range_after HY.out hW 1 _ rfl)) hS0 ?_
              refine tkCallZ 22 39 20 #[.slice x.ba k x.bc, .slice y.ba q y.bc] (fun v w' => v = .bool true ∧ After wr.drew w') (fuel := 16) rfl (by kernel_rfl) (by kernel_rfl) (by kernel_rfl) (fun _ => by kernel_rfl) ((HC1.out _ (After.drew (After.refl wr))).mono (fun e w' ⟨he, h⟩ => ⟨_, he, by rw [HD2.out], h⟩)) ?_
              intro v1 w1 ⟨hv1, k1⟩
              subst hv1
              have hS1 : After wr w1 := (After.drew (After.refl wr)).trans k1
              clear k1
              refine ⟨hS1, ?_⟩
              refine tk 23 40 (.bool false) (fuel := 15) rfl (by kernel_rfl) (by kernel_rfl) (by kernel_rfl) (by kernel_rfl) noPanic_false (by kernel_rfl) (fun _ _ => by kernel_rfl) hS1 ?_
              refine tk 24 41 (.bool false) (fuel := 14) rfl (by kernel_rfl) (by kernel_rfl) (by kernel_rfl) (by kernel_rfl) noPanic_false (by kernel_rfl) (fun _ _ => by kernel_rfl) hS1 ?_
              refine tk 25 42 (.bool false) (fuel := 13) rfl (by kernel_rfl) (by kernel_rfl) (by kernel_rfl) (by kernel_rfl) noPanic_false (by kernel_rfl) (fun _ _ => by kernel_rfl) hS1 ?_
              refine tk 26 43 (.slice (some ⟨xb, xo, none⟩) n ca) (fuel := 12) rfl (by kernel_rfl) (by kernel_rfl) (by kernel_rfl) (by kernel_rfl) noPanic_false (by kernel_rfl) (fun _ _ => by kernel_rfl) hS1 ?_
              refine tk 27 44 (.int .i64 (i : Int)) (fuel := 11) rfl (by kernel_rfl) (by kernel_rfl) (by kernel_rfl) (by kernel_rfl) noPanic_false (by kernel_rfl) (fun _ _ => by kernel_rfl) hS1 ?_
              refine tk 28 45 (.pointer (some ⟨xb, xo + i * 3, none⟩)) (fuel := 10) rfl (by kernel_rfl) (by kernel_rfl) (by kernel_rfl) (by kernel_rfl) noPanic_false (by kernel_rfl) (fun W _ => x_idx22 (n := n) (c := ca) (x := .tmp 43) (y := .tmp 44) (by kernel_rfl) (by kernel_rfl) (by kernel_rfl) HLT.out) hS1 ?_
              refine tk 29 46 (.pointer (some ⟨xb, xo + i * 3 + 2, none⟩)) (fuel := 9) rfl (by kernel_rfl) (by kernel_rfl) (by kernel_rfl) (by kernel_rfl) noPanic_false (by kernel_rfl) (fun _ _ => by kernel_rfl) hS1 ?_
              refine tk 30 47 (.slice x.a p x.c) (fuel := 8) rfl (by kernel_rfl) (by kernel_rfl) (by kernel_rfl) (by kernel_rfl) noPanic_false (by kernel_rfl) (fun W hW => x_loadT (x := .tmp 46) (t := 26) (g := xb) (j := xo + i * 3 + 2) Tryz.underlying26 rfl (by kernel_rfl) (by kernel_rfl) (range_after HX.out hW 2 _ rfl)) hS1 ?_
              refine tk 31 48 (.slice (some ⟨yb, yo, none⟩) n cb) (fuel := 7) rfl (by kernel_rfl) (by kernel_rfl) (by kernel_rfl) (by kernel_rfl) noPanic_false (by kernel_rfl) (fun _ _ => by kernel_rfl) hS1 ?_
              refine tk 32 49 (.int .i64 (i : Int)) (fuel := 6) rfl (by kernel_rfl) (by kernel_rfl) (by kernel_rfl) (by kernel_rfl) noPanic_false (by kernel_rfl) (fun _ _ => by kernel_rfl) hS1 ?_
              refine tk 33 50 (.pointer (some ⟨yb, yo + i * 3, none⟩)) (fuel := 5) rfl (by kernel_rfl) (by kernel_rfl) (by kernel_rfl) (by kernel_rfl) noPanic_false (by kernel_rfl) (fun W _ => x_idx22 (n := n) (c := cb) (x := .tmp 48) (y := .tmp 49) (by kernel_rfl) (by kernel_rfl) (by kernel_rfl) HLT.out) hS1 ?_
              refine tk 34 51 (.pointer (some ⟨yb, yo + i * 3 + 2, none⟩)) (fuel := 4) rfl (by kernel_rfl) (by kernel_rfl) (by kernel_rfl) (by kernel_rfl) noPanic_false (by kernel_rfl) (fun _ _ => by kernel_rfl) hS1 ?_
              refine tk 35 52 (.slice y.a r y.c) (fuel := 3) rfl (by kernel_rfl) (by kernel_rfl) (by kernel_rfl) (by kernel_rfl) noPanic_false (by kernel_rfl) (fun W hW => x_loadT (x := .tmp 51) (t := 26) (g := yb) (j := yo + i * 3 + 2) Tryz.underlying26 rfl (by kernel_rfl) (by kernel_rfl) (range_after HY.out hW 2 _ rfl)) hS1 ?_
              refine tkCallZ 36 53 6 #[.slice x.a p x.c, .slice y.a r y.c] (fun v w' => v = .bool true ∧ After w1 w') (fuel := 2) rfl (by kernel_rfl) (by kernel_rfl) (by kernel_rfl) (fun _ => by kernel_rfl) ((HC2.out _ hS1).mono (fun e w' ⟨he, h⟩ => ⟨_, he, by rw [HD3.out], h⟩)) ?_
              intro v2 w2 ⟨hv2, k2⟩
              subst hv2
              have hS2 : After wr w2 := hS1.trans k2
              clear k2
              refine ⟨hS2, ?_⟩
              refine tk 37 54 (.bool false) (fuel := 1) rfl (by kernel_rfl) (by kernel_rfl) (by kernel_rfl) (by kernel_rfl) noPanic_false (by kernel_rfl) (fun _ _ => by kernel_rfl) hS2 ?_
              refine tk 38 55 (.bool false) (fuel := 0) rfl (by kernel_rfl) (by kernel_rfl) (by kernel_rfl) (by kernel_rfl) noPanic_false (by kernel_rfl) (fun _ _ => by kernel_rfl) hS2 ?_
              refine wpAnyH_done (by kernel_rfl) (NoPanic.normal ?_) _
              have HN : Hid (SmI w (rsof la) (rsof lb) (i + 1) w2) := ⟨HI.out.aft.trans hS2, fun j hj => by
                by_cases e : j = i
                · subst e; rw [HXY.out.1, HXY.out.2, HEQ.out]
                · exact HI.out.pre j (by omega)⟩
              clear hS0 hS1 hS2
              go_simp
              go_wp2
              go_roundw
              case rel => exact ⟨i + 1, by omega, by go_num, HN⟩
              case measure => simp [intOf]; omega
            · have HD3 : Hid (decide (x.l = y.l) = false) := decide_eq_false h3
              have HNE : Hid (¬ rof x = rof y) := fun e => h3 (Prod.mk.inj (Prod.mk.inj e).2).2
              clear h1 h2 h3
              go_wp2
              refine wp_region_noPanic ?_
              refine wp_region_held_drew (S := After wr) (by kernel_rfl) (After.drew (After.refl wr)) ?_
              intro hS0
              refine tk 0 17 (.slice (some ⟨xb, xo, none⟩) n ca) (fuel := 38) rfl (by kernel_rfl) (by kernel_rfl) (by kernel_rfl) (by kernel_rfl) noPanic_false (by kernel_rfl) (fun _ _ => by kernel_rfl) hS0 ?_
              refine tk 1 18 (.int .i64 (i : Int)) (fuel := 37) rfl (by kernel_rfl) (by kernel_rfl) (by kernel_rfl) (by kernel_rfl) noPanic_false (by kernel_rfl) (fun _ _ => by kernel_rfl) hS0 ?_
              refine tk 2 19 (.pointer (some ⟨xb, xo + i * 3, none⟩)) (fuel := 36) rfl (by kernel_rfl) (by kernel_rfl) (by kernel_rfl) (by kernel_rfl) noPanic_false (by kernel_rfl) (fun W _ => x_idx22 (n := n) (c := ca) (x := .tmp 17) (y := .tmp 18) (by kernel_rfl) (by kernel_rfl) (by kernel_rfl) HLT.out) hS0 ?_
              refine tk 3 20 (.pointer (some ⟨xb, xo + i * 3, none⟩)) (fuel := 35) rfl (by kernel_rfl) (by kernel_rfl) (by kernel_rfl) (by kernel_rfl) noPanic_false (by kernel_rfl) (fun _ _ => by kernel_rfl) hS0 ?_
              refine tk 4 21 (.string (strOf x.nm)) (fuel := 34) rfl (by kernel_rfl) (by kernel_rfl) (by kernel_rfl) (by kernel_rfl) noPanic_false (by kernel_rfl) (fun W hW => x_loadT (x := .tmp 20) (t := 9) (g := xb) (j := xo + i * 3 + 0) Tryz.underlying9 rfl (by kernel_rfl) (by kernel_rfl) (range_after HX.out hW 0 _ rfl)) hS0 ?_
              refine tk 5 22 (.slice (some ⟨yb, yo, none⟩) n cb) (fuel := 33) rfl (by kernel_rfl) (by kernel_rfl) (by kernel_rfl) (by kernel_rfl) noPanic_false (by kernel_rfl) (fun _ _ => by kernel_rfl) hS0 ?_
              refine tk 6 23 (.int .i64 (i : Int)) (fuel := 32) rfl (by kernel_rfl) (by kernel_rfl) (by kernel_rfl) (by kernel_rfl) noPanic_false (by kernel_rfl) (fun _ _ => by kernel_rfl) hS0 ?_
              refine tk 7 24 (.pointer (some ⟨yb, yo + i * 3, none⟩)) (fuel := 31) rfl (by kernel_rfl) (by kernel_rfl) (by kernel_rfl) (by kernel_rfl) noPanic_false (by kernel_rfl) (fun W _ => x_idx22 (n := n) (c := cb) (x := .tmp 22) (y := .tmp 23) (by kernel_rfl) (by kernel_rfl) (by kernel_rfl) HLT.out) hS0 ?_
              refine tk 8 25 (.pointer (some ⟨yb, yo + i * 3, none⟩)) (fuel := 30) rfl (by kernel_rfl) (by kernel_rfl) (by kernel_rfl) (by kernel_rfl) noPanic_false (by kernel_rfl) (fun _ _ => by kernel_rfl) hS0 ?_
              refine tk 9 26 (.string (strOf y.nm)) (fuel := 29) rfl (by kernel_rfl) (by kernel_rfl) (by kernel_rfl) (by kernel_rfl) noPanic_false (by kernel_rfl) (fun W hW => x_loadT (x := .tmp 25) (t := 9) (g := yb) (j := yo + i * 3 + 0) Tryz.underlying9 rfl (by kernel_rfl) (by kernel_rfl) (range_after HY.out hW 0 _ rfl)) hS0 ?_
              refine tk 10 27 (.bool false) (fuel := 28) rfl (by kernel_rfl) (by kernel_rfl) (by kernel_rfl) (by kernel_rfl) noPanic_false (by kernel_rfl) (fun W _ => (x_ne9 (s := x.nm) (t := y.nm) (x := .tmp 21) (y := .tmp 26) (by kernel_rfl) (by kernel_rfl) (by kernel_rfl)).trans (by rw [HD1.out]; rfl)) hS0 ?_
              refine tk 11 28 (.bool false) (fuel := 27) rfl (by kernel_rfl) (by kernel_rfl) (by kernel_rfl) (by kernel_rfl) noPanic_false (by kernel_rfl) (fun _ _ => by kernel_rfl) hS0 ?_
              refine tk 12 29 (.slice (some ⟨xb, xo, none⟩) n ca) (fuel := 26) rfl (by kernel_rfl) (by kernel_rfl) (by kernel_rfl) (by kernel_rfl) noPanic_false (by kernel_rfl) (fun _ _ => by kernel_rfl) hS0 ?_
              refine tk 13 30 (.int .i64 (i : Int)) (fuel := 25) rfl (by kernel_rfl) (by kernel_rfl) (by kernel_rfl) (by kernel_rfl) noPanic_false (by kernel_rfl) (fun _ _ => by kernel_rfl) hS0 ?_
              refine tk 14 31 (.pointer (some ⟨xb, xo + i * 3, none⟩)) (fuel := 24) rfl (by kernel_rfl) (by kernel_rfl) (by kernel_rfl) (by kernel_rfl) noPanic_false (by kernel_rfl) (fun W _ => x_idx22 (n := n) (c := ca) (x := .tmp 29) (y := .tmp 30) (by kernel_rfl) (by kernel_rfl) (by kernel_rfl) HLT.out) hS0 ?_
              refine tk 15 32 (.pointer (some ⟨xb, xo + i * 3 + 1, none⟩)) (fuel := 23) rfl (by kernel_rfl) (by kernel_rfl) (by kernel_rfl) (by kernel_rfl) noPanic_false (by kernel_rfl) (fun _ _ => by kernel_rfl) hS0 ?_
              refine tk 16 33 (.slice x.ba k x.bc) (fuel := 22) rfl (by kernel_rfl) (by kernel_rfl) (by kernel_rfl) (by kernel_rfl) noPanic_false (by kernel_rfl) (fun W hW => x_loadT (x := .tmp 32) (t := 30) (g := xb) (j := xo + i * 3 + 1) Tryz.underlying30 rfl (by kernel_rfl) (by kernel_rfl) (range_after HX.out hW 1 _ rfl)) hS0 ?_
              refine tk 17 34 (.slice (some ⟨yb, yo, none⟩) n cb) (fuel := 21) rfl (by kernel_rfl) (by kernel_rfl) (by kernel_rfl) (by kernel_rfl) noPanic_false (by kernel_rfl) (fun _ _ => by kernel_rfl) hS0 ?_
              refine tk 18 35 (.int .i64 (i : Int)) (fuel := 20) rfl (by kernel_rfl) (by kernel_rfl) (by kernel_rfl) (by kernel_rfl) noPanic_false (by kernel_rfl) (fun _ _ => by kernel_rfl) hS0 ?_
              refine tk 19 36 (.pointer (some ⟨yb, yo + i * 3, none⟩)) (fuel := 19) rfl (by kernel_rfl) (by kernel_rfl) (by kernel_rfl) (by kernel_rfl) noPanic_false (by kernel_rfl) (fun W _ => x_idx22 (n := n) (c := cb) (x := .tmp 34) (y := .tmp 35) (by kernel_rfl) (by kernel_rfl) (by kernel_rfl) HLT.out) hS0 ?_
              refine tk 20 37 (.pointer (some ⟨yb, yo + i * 3 + 1, none⟩)) (fuel := 18) rfl (by kernel_rfl) (by kernel_rfl) (by kernel_rfl) (by kernel_rfl) noPanic_false (by kernel_rfl) (fun _ _ => by kernel_rfl) hS0 ?_
              refine tk 21 38 (.slice y.ba q y.bc) (fuel := 17) rfl (by kernel_rfl) (by kernel_rfl) (by kernel_rfl) (by kernel_rfl) noPanic_false (by kernel_rfl) (fun W hW => x_loadT (x := .tmp 37) (t := 30) (g := yb) (j := yo + i * 3 + 1) Tryz.underlying30 rfl (by kernel_rfl) (by kernel_rfl) (range_after HY.out hW 1 _ rfl)) hS0 ?_
              refine tkCallZ 22 39 20 #[.slice x.ba k x.bc, .slice y.ba q y.bc] (fun v w' => v = .bool true ∧ After wr.drew w') (fuel := 16) rfl (by kernel_rfl) (by kernel_rfl) (by kernel_rfl) (fun _ => by kernel_rfl) ((HC1.out _ (After.drew (After.refl wr))).mono (fun e w' ⟨he, h⟩ => ⟨_, he, by rw [HD2.out], h⟩)) ?_
              intro v1 w1 ⟨hv1, k1⟩
              subst hv1
              have hS1 : After wr w1 := (After.drew (After.refl wr)).trans k1
              clear k1
              refine ⟨hS1, ?_⟩
              refine tk 23 40 (.bool false) (fuel := 15) rfl (by kernel_rfl) (by kernel_rfl) (by kernel_rfl) (by kernel_rfl) noPanic_false (by kernel_rfl) (fun _ _ => by kernel_rfl) hS1 ?_
              refine tk 24 41 (.bool false) (fuel := 14) rfl (by kernel_rfl) (by kernel_rfl) (by kernel_rfl) (by kernel_rfl) noPanic_false (by kernel_rfl) (fun _ _ => by kernel_rfl) hS1 ?_
              refine tk 25 42 (.bool false) (fuel := 13) rfl (by kernel_rfl) (by kernel_rfl) (by kernel_rfl) (by kernel_rfl) noPanic_false (by kernel_rfl) (fun _ _ => by kernel_rfl) hS1 ?_
              refine tk 26 43 (.slice (some ⟨xb, xo, none⟩) n ca) (fuel := 12) rfl (by kernel_rfl) (by kernel_rfl) (by kernel_rfl) (by kernel_rfl) noPanic_false (by kernel_rfl) (fun _ _ => by kernel_rfl) hS1 ?_
              refine tk 27 44 (.int .i64 (i : Int)) (fuel := 11) rfl (by kernel_rfl) (by kernel_rfl) (by kernel_rfl) (by kernel_rfl) noPanic_false (by kernel_rfl) (fun _ _ => by kernel_rfl) hS1 ?_
              refine tk 28 45 (.pointer (some ⟨xb, xo + i * 3, none⟩)) (fuel := 10) rfl (by kernel_rfl) (by kernel_rfl) (by kernel_rfl) (by kernel_rfl) noPanic_false (by kernel_rfl) (fun W _ => x_idx22 (n := n) (c := ca) (x := .tmp 43) (y := .tmp 44) (by kernel_rfl) (by kernel_rfl) (by kernel_rfl) HLT.out) hS1 ?_
              refine tk 29 46 (.pointer (some ⟨xb, xo + i * 3 + 2, none⟩)) (fuel := 9) rfl (by kernel_rfl) (by kernel_rfl) (by kernel_rfl) (by kernel_rfl) noPanic_false (by kernel_rfl) (fun _ _ => by kernel_rfl) hS1 ?_
              refine tk 30 47 (.slice x.a p x.c) (fuel := 8) rfl (by kernel_rfl) (by kernel_rfl) (by kernel_rfl) (by kernel_rfl) noPanic_false (by kernel_rfl) (fun W hW => x_loadT (x := .tmp 46) (t := 26) (g := xb) (j := xo + i * 3 + 2) Tryz.underlying26 rfl (by kernel_rfl) (by kernel_rfl) (range_after HX.out hW 2 _ rfl)) hS1 ?_
              refine tk 31 48 (.slice (some ⟨yb, yo, none⟩) n cb) (fuel := 7) rfl (by kernel_rfl) (by kernel_rfl) (by kernel_rfl) (by kernel_rfl) noPanic_false (by kernel_rfl) (fun _ _ => by kernel_rfl) hS1 ?_
              refine tk 32 49 (.int .i64 (i : Int)) (fuel := 6) rfl (by kernel_rfl) (by kernel_rfl) (by kernel_rfl) (by kernel_rfl) noPanic_false (by kernel_rfl) (fun _ _ => by kernel_rfl) hS1 ?_
              refine tk 33 50 (.pointer (some ⟨yb, yo + i * 3, none⟩)) (fuel := 5) rfl (by kernel_rfl) (by kernel_rfl) (by kernel_rfl) (by kernel_rfl) noPanic_false (by kernel_rfl) (fun W _ => x_idx22 (n := n) (c := cb) (x := .tmp 48) (y := .tmp 49) (by kernel_rfl) (by kernel_rfl) (by kernel_rfl) HLT.out) hS1 ?_
              refine tk 34 51 (.pointer (some ⟨yb, yo + i * 3 + 2, none⟩)) (fuel := 4) rfl (by kernel_rfl) (by kernel_rfl) (by kernel_rfl) (by kernel_rfl) noPanic_false (by kernel_rfl) (fun _ _ => by kernel_rfl) hS1 ?_
              refine tk 35 52 (.slice y.a r y.c) (fuel := 3) rfl (by kernel_rfl) (by kernel_rfl) (by kernel_rfl) (by kernel_rfl) noPanic_false (by kernel_rfl) (fun W hW => x_loadT (x := .tmp 51) (t := 26) (g := yb) (j := yo + i * 3 + 2) Tryz.underlying26 rfl (by kernel_rfl) (by kernel_rfl) (range_after HY.out hW 2 _ rfl)) hS1 ?_
              refine tkCallZ 36 53 6 #[.slice x.a p x.c, .slice y.a r y.c] (fun v w' => v = .bool false ∧ After w1 w') (fuel := 2) rfl (by kernel_rfl) (by kernel_rfl) (by kernel_rfl) (fun _ => by kernel_rfl) ((HC2.out _ hS1).mono (fun e w' ⟨he, h⟩ => ⟨_, he, by rw [HD3.out], h⟩)) ?_
              intro v2 w2 ⟨hv2, k2⟩
              subst hv2
              have hS2 : After wr w2 := hS1.trans k2
              clear k2
              refine ⟨hS2, ?_⟩
              refine tk 37 54 (.bool true) (fuel := 1) rfl (by kernel_rfl) (by kernel_rfl) (by kernel_rfl) (by kernel_rfl) noPanic_false (by kernel_rfl) (fun _ _ => by kernel_rfl) hS2 ?_
              refine tk 38 55 (.bool true) (fuel := 0) rfl (by kernel_rfl) (by kernel_rfl) (by kernel_rfl) (by kernel_rfl) noPanic_false (by kernel_rfl) (fun _ _ => by kernel_rfl) hS2 ?_
              refine wpAnyH_done (by kernel_rfl) (NoPanic.normal ?_) _
              have HN : Hid (After w _) := HI.out.aft.trans (hS2)
              have HNL : Hid (¬ rsof la = rsof lb) := fun e => by have h1 := HXY.out; rw [e] at h1; exact HNE.out (Option.some.inj (h1.1.symm.trans h1.2))
              clear hS0
              go_simp
              go_wp2
              refine bodyPost_ret (v := .bool false) (by simp [results, Tryz.results10, go_sem]) rfl ⟨by rw [decide_eq_false HNL.out], HN.out⟩
          · have HD2 : Hid (decide (bof x.X = bof y.X) = false) := decide_eq_false h2
            have HNE : Hid (¬ rof x = rof y) := fun e => h2 (Prod.mk.inj (Prod.mk.inj e).2).1
            clear h1 h2
            go_wp2
            refine wp_region_noPanic ?_
            refine wp_region_held_drew (S := After wr) (by kernel_rfl) (After.drew (After.refl wr)) ?_
            intro hS0
            refine tk 0 17 (.slice (some ⟨xb, xo, none⟩) n ca) (fuel := 38) rfl (by kernel_rfl) (by kernel_rfl) (by kernel_rfl) (by kernel_rfl) noPanic_false (by kernel_rfl) (fun _ _ => by kernel_rfl) hS0 ?_
            refine tk 1 18 (.int .i64 (i : Int)) (fuel := 37) rfl (by kernel_rfl) (by kernel_rfl) (by kernel_rfl) (by kernel_rfl) noPanic_false (by kernel_rfl) (fun _ _ => by kernel_rfl) hS0 ?_
            refine tk 2 19 (.pointer (some ⟨xb, xo + i * 3, none⟩)) (fuel := 36) rfl (by kernel_rfl) (by kernel_rfl) (by kernel_rfl) (by kernel_rfl) noPanic_false (by kernel_rfl) (fun W _ => x_idx22 (n := n) (c := ca) (x := .tmp 17) (y := .tmp 18) (by kernel_rfl) (by kernel_rfl) (by kernel_rfl) HLT.out) hS0 ?_
            refine tk 3 20 (.pointer (some ⟨xb, xo + i * 3, none⟩)) (fuel := 35) rfl (by kernel_rfl) (by kernel_rfl) (by kernel_rfl) (by kernel_rfl) noPanic_false (by kernel_rfl) (fun _ _ => by kernel_rfl) hS0 ?_
            refine tk 4 21 (.string (strOf x.nm)) (fuel := 34) rfl (by kernel_rfl) (by kernel_rfl) (by kernel_rfl) (by kernel_rfl) noPanic_false (by kernel_rfl) (fun W hW => x_loadT (x := .tmp 20) (t := 9) (g := xb) (j := xo + i * 3 + 0) Tryz.underlying9 rfl (by kernel_rfl) (by kernel_rfl) (range_after HX.out hW 0 _ rfl)) hS0 ?_
            refine tk 5 22 (.slice (some ⟨yb, yo, none⟩) n cb) (fuel := 33) rfl (by kernel_rfl) (by kernel_rfl) (by kernel_rfl) (by kernel_rfl) noPanic_false (by kernel_rfl) (fun _ _ => by kernel_rfl) hS0 ?_
            refine tk 6 23 (.int .i64 (i : Int)) (fuel := 32) rfl (by kernel_rfl) (by kernel_rfl) (by kernel_rfl) (by kernel_rfl) noPanic_false (by kernel_rfl) (fun _ _ => by kernel_rfl) hS0 ?_
            refine tk 7 24 (.pointer (some ⟨yb, yo + i * 3, none⟩)) (fuel := 31) rfl (by kernel_rfl) (by kernel_rfl) (by kernel_rfl) (by kernel_rfl) noPanic_false (by kernel_rfl) (fun W _ => x_idx22 (n := n) (c := cb) (x := .tmp 22) (y := .tmp 23) (by kernel_rfl) (by kernel_rfl) (by kernel_rfl) HLT.out) hS0 ?_
            refine tk 8 25 (.pointer (some ⟨yb, yo + i * 3, none⟩)) (fuel := 30) rfl (by kernel_rfl) (by kernel_rfl) (by kernel_rfl) (by kernel_rfl) noPanic_false (by kernel_rfl) (fun _ _ => by kernel_rfl) hS0 ?_
            refine tk 9 26 (.string (strOf y.nm)) (fuel := 29) rfl (by kernel_rfl) (by kernel_rfl) (by kernel_rfl) (by kernel_rfl) noPanic_false (by kernel_rfl) (fun W hW => x_loadT (x := .tmp 25) (t := 9) (g := yb) (j := yo + i * 3 + 0) Tryz.underlying9 rfl (by kernel_rfl) (by kernel_rfl) (range_after HY.out hW 0 _ rfl)) hS0 ?_
            refine tk 10 27 (.bool false) (fuel := 28) rfl (by kernel_rfl) (by kernel_rfl) (by kernel_rfl) (by kernel_rfl) noPanic_false (by kernel_rfl) (fun W _ => (x_ne9 (s := x.nm) (t := y.nm) (x := .tmp 21) (y := .tmp 26) (by kernel_rfl) (by kernel_rfl) (by kernel_rfl)).trans (by rw [HD1.out]; rfl)) hS0 ?_
            refine tk 11 28 (.bool false) (fuel := 27) rfl (by kernel_rfl) (by kernel_rfl) (by kernel_rfl) (by kernel_rfl) noPanic_false (by kernel_rfl) (fun _ _ => by kernel_rfl) hS0 ?_
            refine tk 12 29 (.slice (some ⟨xb, xo, none⟩) n ca) (fuel := 26) rfl (by kernel_rfl) (by kernel_rfl) (by kernel_rfl) (by kernel_rfl) noPanic_false (by kernel_rfl) (fun _ _ => by kernel_rfl) hS0 ?_
            refine tk 13 30 (.int .i64 (i : Int)) (fuel := 25) rfl (by kernel_rfl) (by kernel_rfl) (by kernel_rfl) (by kernel_rfl) noPanic_false (by kernel_rfl) (fun _ _ => by kernel_rfl) hS0 ?_
            refine tk 14 31 (.pointer (some ⟨xb, xo + i * 3, none⟩)) (fuel := 24) rfl (by kernel_rfl) (by kernel_rfl) (by kernel_rfl) (by kernel_rfl) noPanic_false (by kernel_rfl) (fun W _ => x_idx22 (n := n) (c := ca) (x := .tmp 29) (y := .tmp 30) (by kernel_rfl) (by kernel_rfl) (by kernel_rfl) HLT.out) hS0 ?_
            refine tk 15 32 (.pointer (some ⟨xb, xo + i * 3 + 1, none⟩)) (fuel := 23) rfl (by kernel_rfl) (by kernel_rfl) (by kernel_rfl) (by kernel_rfl) noPanic_false (by kernel_rfl) (fun _ _ => by kernel_rfl) hS0 ?_
            refine tk 16 33 (.slice x.ba k x.bc) (fuel := 22) rfl (by kernel_rfl) (by kernel_rfl) (by kernel_rfl) (by kernel_rfl) noPanic_false (by kernel_rfl) (fun W hW => x_loadT (x := .tmp 32) (t := 30) (g := xb) (j := xo + i * 3 + 1) Tryz.underlying30 rfl (by kernel_rfl) (by kernel_rfl) (range_after HX.out hW 1 _ rfl)) hS0 ?_
            refine tk 17 34 (.slice (some ⟨yb, yo, none⟩) n cb) (fuel := 21) rfl (by kernel_rfl) (by kernel_rfl) (by kernel_rfl) (by kernel_rfl) noPanic_false (by kernel_rfl) (fun _ _ => by kernel_rfl) hS0 ?_
            refine tk 18 35 (.int .i64 (i : Int)) (fuel := 20) rfl (by kernel_rfl) (by kernel_rfl) (by kernel_rfl) (by kernel_rfl) noPanic_false (by kernel_rfl) (fun _ _ => by kernel_rfl) hS0 ?_
            refine tk 19 36 (.pointer (some ⟨yb, yo + i * 3, none⟩)) (fuel := 19) rfl (by kernel_rfl) (by kernel_rfl) (by kernel_rfl) (by kernel_rfl) noPanic_false (by kernel_rfl) (fun W _ => x_idx22 (n := n) (c := cb) (x := .tmp 34) (y := .tmp 35) (by kernel_rfl) (by kernel_rfl) (by kernel_rfl) HLT.out) hS0 ?_
            refine tk 20 37 (.pointer (some ⟨yb, yo + i * 3 + 1, none⟩)) (fuel := 18) rfl (by kernel_rfl) (by kernel_rfl) (by kernel_rfl) (by kernel_rfl) noPanic_false (by kernel_rfl) (fun _ _ => by kernel_rfl) hS0 ?_
            refine tk 21 38 (.slice y.ba q y.bc) (fuel := 17) rfl (by kernel_rfl) (by kernel_rfl) (by kernel_rfl) (by kernel_rfl) noPanic_false (by kernel_rfl) (fun W hW => x_loadT (x := .tmp 37) (t := 30) (g := yb) (j := yo + i * 3 + 1) Tryz.underlying30 rfl (by kernel_rfl) (by kernel_rfl) (range_after HY.out hW 1 _ rfl)) hS0 ?_
            refine tkCallZ 22 39 20 #[.slice x.ba k x.bc, .slice y.ba q y.bc] (fun v w' => v = .bool false ∧ After wr.drew w') (fuel := 16) rfl (by kernel_rfl) (by kernel_rfl) (by kernel_rfl) (fun _ => by kernel_rfl) ((HC1.out _ (After.drew (After.refl wr))).mono (fun e w' ⟨he, h⟩ => ⟨_, he, by rw [HD2.out], h⟩)) ?_
            intro v1 w1 ⟨hv1, k1⟩
            subst hv1
            have hS1 : After wr w1 := (After.drew (After.refl wr)).trans k1
            clear k1
            refine ⟨hS1, ?_⟩
            refine tk 23 40 (.bool true) (fuel := 15) rfl (by kernel_rfl) (by kernel_rfl) (by kernel_rfl) (by kernel_rfl) noPanic_false (by kernel_rfl) (fun _ _ => by kernel_rfl) hS1 ?_
            refine tk 24 41 (.bool true) (fuel := 14) rfl (by kernel_rfl) (by kernel_rfl) (by kernel_rfl) (by kernel_rfl) noPanic_false (by kernel_rfl) (fun _ _ => by kernel_rfl) hS1 ?_
            refine tk 25 42 (.bool true) (fuel := 13) rfl (by kernel_rfl) (by kernel_rfl) (by kernel_rfl) (by kernel_rfl) noPanic_false (by kernel_rfl) (fun _ _ => by kernel_rfl) hS1 ?_
            refine tkSkip 26 43 (fuel := 12) rfl (by kernel_rfl) (by kernel_rfl) (by kernel_rfl) (by kernel_rfl) noPanic_false (by kernel_rfl) hS1 ?_
            refine tkSkip 27 44 (fuel := 11) rfl (by kernel_rfl) (by kernel_rfl) (by kernel_rfl) (by kernel_rfl) noPanic_false (by kernel_rfl) hS1 ?_
            refine tkSkip 28 45 (fuel := 10) rfl (by kernel_rfl) (by kernel_rfl) (by kernel_rfl) (by kernel_rfl) noPanic_false (by kernel_rfl) hS1 ?_
            refine tkSkip 29 46 (fuel := 9) rfl (by kernel_rfl) (by kernel_rfl) (by kernel_rfl) (by kernel_rfl) noPanic_false (by kernel_rfl) hS1 ?_
            refine tkSkip 30 47 (fuel := 8) rfl (by kernel_rfl) (by kernel_rfl) (by kernel_rfl) (by kernel_rfl) noPanic_false (by kernel_rfl) hS1 ?_
            refine tkSkip 31 48 (fuel := 7) rfl (by kernel_rfl) (by kernel_rfl) (by kernel_rfl) (by kernel_rfl) noPanic_false (by kernel_rfl) hS1 ?_
            refine tkSkip 32 49 (fuel := 6) rfl (by kernel_rfl) (by kernel_rfl) (by kernel_rfl) (by kernel_rfl) noPanic_false (by kernel_rfl) hS1 ?_
            refine tkSkip 33 50 (fuel := 5) rfl (by kernel_rfl) (by kernel_rfl) (by kernel_rfl) (by kernel_rfl) noPanic_false (by kernel_rfl) hS1 ?_
            refine tkSkip 34 51 (fuel := 4) rfl (by kernel_rfl) (by kernel_rfl) (by kernel_rfl) (by kernel_rfl) noPanic_false (by kernel_rfl) hS1 ?_
            refine tkSkip 35 52 (fuel := 3) rfl (by kernel_rfl) (by kernel_rfl) (by kernel_rfl) (by kernel_rfl) noPanic_false (by kernel_rfl) hS1 ?_
            refine tkSkip 36 53 (fuel := 2) rfl (by kernel_rfl) (by kernel_rfl) (by kernel_rfl) (by kernel_rfl) noPanic_false (by kernel_rfl) hS1 ?_
            refine tkSkip 37 54 (fuel := 1) rfl (by kernel_rfl) (by kernel_rfl) (by kernel_rfl) (by kernel_rfl) noPanic_false (by kernel_rfl) hS1 ?_
            refine tk 38 55 (.bool true) (fuel := 0) rfl (by kernel_rfl) (by kernel_rfl) (by kernel_rfl) (by kernel_rfl) noPanic_false (by kernel_rfl) (fun _ _ => by kernel_rfl) hS1 ?_
            refine wpAnyH_done (by kernel_rfl) (NoPanic.normal ?_) _
            have HN : Hid (After w _) := HI.out.aft.trans (hS1)
            have HNL : Hid (¬ rsof la = rsof lb) := fun e => by have h1 := HXY.out; rw [e] at h1; exact HNE.out (Option.some.inj (h1.1.symm.trans h1.2))
            clear hS0
            go_simp
            go_wp2
            refine bodyPost_ret (v := .bool false) (by simp [results, Tryz.results10, go_sem]) rfl ⟨by rw [decide_eq_false HNL.out], HN.out⟩
        · have HD1 : Hid (decide (x.nm = y.nm) = false) := decide_eq_false h1
          have HNE : Hid (¬ rof x = rof y) := fun e => h1 (Prod.mk.inj e).1
          clear h1
          go_wp2
          refine wp_region_noPanic ?_
          refine wp_region_held_drew (S := After wr) (by kernel_rfl) (After.drew (After.refl wr)) ?_
          intro hS0
          refine tk 0 17 (.slice (some ⟨xb, xo, none⟩) n ca) (fuel := 38) rfl (by kernel_rfl) (by kernel_rfl) (by kernel_rfl) (by kernel_rfl) noPanic_false (by kernel_rfl) (fun _ _ => by kernel_rfl) hS0 ?_
          refine tk 1 18 (.int .i64 (i : Int)) (fuel := 37) rfl (by kernel_rfl) (by kernel_rfl) (by kernel_rfl) (by kernel_rfl) noPanic_false (by kernel_rfl) (fun _ _ => by kernel_rfl) hS0 ?_
          refine tk 2 19 (.pointer (some ⟨xb, xo + i * 3, none⟩)) (fuel := 36) rfl (by kernel_rfl) (by kernel_rfl) (by kernel_rfl) (by kernel_rfl) noPanic_false (by kernel_rfl) (fun W _ => x_idx22 (n := n) (c := ca) (x := .tmp 17) (y := .tmp 18) (by kernel_rfl) (by kernel_rfl) (by kernel_rfl) HLT.out) hS0 ?_
          refine tk 3 20 (.pointer (some ⟨xb, xo + i * 3, none⟩)) (fuel := 35) rfl (by kernel_rfl) (by kernel_rfl) (by kernel_rfl) (by kernel_rfl) noPanic_false (by kernel_rfl) (fun _ _ => by kernel_rfl) hS0 ?_
          refine tk 4 21 (.string (strOf x.nm)) (fuel := 34) rfl (by kernel_rfl) (by kernel_rfl) (by kernel_rfl) (by kernel_rfl) noPanic_false (by kernel_rfl) (fun W hW => x_loadT (x := .tmp 20) (t := 9) (g := xb) (j := xo + i * 3 + 0) Tryz.underlying9 rfl (by kernel_rfl) (by kernel_rfl) (range_after HX.out hW 0 _ rfl)) hS0 ?_
          refine tk 5 22 (.slice (some ⟨yb, yo, none⟩) n cb) (fuel := 33) rfl (by kernel_rfl) (by kernel_rfl) (by kernel_rfl) (by kernel_rfl) noPanic_false (by kernel_rfl) (fun _ _ => by kernel_rfl) hS0 ?_
          refine tk 6 23 (.int .i64 (i : Int)) (fuel := 32) rfl (by kernel_rfl) (by kernel_rfl) (by kernel_rfl) (by kernel_rfl) noPanic_false (by kernel_rfl) (fun _ _ => by kernel_rfl) hS0 ?_
          refine tk 7 24 (.pointer (some ⟨yb, yo + i * 3, none⟩)) (fuel := 31) rfl (by kernel_rfl) (by kernel_rfl) (by kernel_rfl) (by kernel_rfl) noPanic_false (by kernel_rfl) (fun W _ => x_idx22 (n := n) (c := cb) (x := .tmp 22) (y := .tmp 23) (by kernel_rfl) (by kernel_rfl) (by kernel_rfl) HLT.out) hS0 ?_
          refine tk 8 25 (.pointer (some ⟨yb, yo + i * 3, none⟩)) (fuel := 30) rfl (by kernel_rfl) (by kernel_rfl) (by kernel_rfl) (by kernel_rfl) noPanic_false (by kernel_rfl) (fun _ _ => by kernel_rfl) hS0 ?_
          refine tk 9 26 (.string (strOf y.nm)) (fuel := 29) rfl (by kernel_rfl) (by kernel_rfl) (by kernel_rfl) (by kernel_rfl) noPanic_false (by kernel_rfl) (fun W hW => x_loadT (x := .tmp 25) (t := 9) (g := yb) (j := yo + i * 3 + 0) Tryz.underlying9 rfl (by kernel_rfl) (by kernel_rfl) (range_after HY.out hW 0 _ rfl)) hS0 ?_
          refine tk 10 27 (.bool true) (fuel := 28) rfl (by kernel_rfl) (by kernel_rfl) (by kernel_rfl) (by kernel_rfl) noPanic_false (by kernel_rfl) (fun W _ => (x_ne9 (s := x.nm) (t := y.nm) (x := .tmp 21) (y := .tmp 26) (by kernel_rfl) (by kernel_rfl) (by kernel_rfl)).trans (by rw [HD1.out]; rfl)) hS0 ?_
          refine tk 11 28 (.bool true) (fuel := 27) rfl (by kernel_rfl) (by kernel_rfl) (by kernel_rfl) (by kernel_rfl) noPanic_false (by kernel_rfl) (fun _ _ => by kernel_rfl) hS0 ?_
          refine tkSkip 12 29 (fuel := 26) rfl (by kernel_rfl) (by kernel_rfl) (by kernel_rfl) (by kernel_rfl) noPanic_false (by kernel_rfl) hS0 ?_
          refine tkSkip 13 30 (fuel := 25) rfl (by kernel_rfl) (by kernel_rfl) (by kernel_rfl) (by kernel_rfl) noPanic_false (by kernel_rfl) hS0 ?_
          refine tkSkip 14 31 (fuel := 24) rfl (by kernel_rfl) (by kernel_rfl) (by kernel_rfl) (by kernel_rfl) noPanic_false (by kernel_rfl) hS0 ?_
          refine tkSkip 15 32 (fuel := 23) rfl (by kernel_rfl) (by kernel_rfl) (by kernel_rfl) (by kernel_rfl) noPanic_false (by kernel_rfl) hS0 ?_
          refine tkSkip 16 33 (fuel := 22) rfl (by kernel_rfl) (by kernel_rfl) (by kernel_rfl) (by kernel_rfl) noPanic_false (by kernel_rfl) hS0 ?_
          refine tkSkip 17 34 (fuel := 21) rfl (by kernel_rfl) (by kernel_rfl) (by kernel_rfl) (by kernel_rfl) noPanic_false (by kernel_rfl) hS0 ?_
          refine tkSkip 18 35 (fuel := 20) rfl (by kernel_rfl) (by kernel_rfl) (by kernel_rfl) (by kernel_rfl) noPanic_false (by kernel_rfl) hS0 ?_
          refine tkSkip 19 36 (fuel := 19) rfl (by kernel_rfl) (by kernel_rfl) (by kernel_rfl) (by kernel_rfl) noPanic_false (by kernel_rfl) hS0 ?_
          refine tkSkip 20 37 (fuel := 18) rfl (by kernel_rfl) (by kernel_rfl) (by kernel_rfl) (by kernel_rfl) noPanic_false (by kernel_rfl) hS0 ?_
          refine tkSkip 21 38 (fuel := 17) rfl (by kernel_rfl) (by kernel_rfl) (by kernel_rfl) (by kernel_rfl) noPanic_false (by kernel_rfl) hS0 ?_
          refine tkSkip 22 39 (fuel := 16) rfl (by kernel_rfl) (by kernel_rfl) (by kernel_rfl) (by kernel_rfl) noPanic_false (by kernel_rfl) hS0 ?_
          refine tkSkip 23 40 (fuel := 15) rfl (by kernel_rfl) (by kernel_rfl) (by kernel_rfl) (by kernel_rfl) noPanic_false (by kernel_rfl) hS0 ?_
          refine tk 24 41 (.bool true) (fuel := 14) rfl (by kernel_rfl) (by kernel_rfl) (by kernel_rfl) (by kernel_rfl) noPanic_false (by kernel_rfl) (fun _ _ => by kernel_rfl) hS0 ?_
          refine tk 25 42 (.bool true) (fuel := 13) rfl (by kernel_rfl) (by kernel_rfl) (by kernel_rfl) (by kernel_rfl) noPanic_false (by kernel_rfl) (fun _ _ => by kernel_rfl) hS0 ?_
          refine tkSkip 26 43 (fuel := 12) rfl (by kernel_rfl) (by kernel_rfl) (by kernel_rfl) (by kernel_rfl) noPanic_false (by kernel_rfl) hS0 ?_
          refine tkSkip 27 44 (fuel := 11) rfl (by kernel_rfl) (by kernel_rfl) (by kernel_rfl) (by kernel_rfl) noPanic_false (by kernel_rfl) hS0 ?_
          refine tkSkip 28 45 (fuel := 10) rfl (by kernel_rfl) (by kernel_rfl) (by kernel_rfl) (by kernel_rfl) noPanic_false (by kernel_rfl) hS0 ?_
          refine tkSkip 29 46 (fuel := 9) rfl (by kernel_rfl) (by kernel_rfl) (by kernel_rfl) (by kernel_rfl) noPanic_false (by kernel_rfl) hS0 ?_
          refine tkSkip 30 47 (fuel := 8) rfl (by kernel_rfl) (by kernel_rfl) (by kernel_rfl) (by kernel_rfl) noPanic_false (by kernel_rfl) hS0 ?_
          refine tkSkip 31 48 (fuel := 7) rfl (by kernel_rfl) (by kernel_rfl) (by kernel_rfl) (by kernel_rfl) noPanic_false (by kernel_rfl) hS0 ?_
          refine tkSkip 32 49 (fuel := 6) rfl (by kernel_rfl) (by kernel_rfl) (by kernel_rfl) (by kernel_rfl) noPanic_false (by kernel_rfl) hS0 ?_
          refine tkSkip 33 50 (fuel := 5) rfl (by kernel_rfl) (by kernel_rfl) (by kernel_rfl) (by kernel_rfl) noPanic_false (by kernel_rfl) hS0 ?_
          refine tkSkip 34 51 (fuel := 4) rfl (by kernel_rfl) (by kernel_rfl) (by kernel_rfl) (by kernel_rfl) noPanic_false (by kernel_rfl) hS0 ?_
          refine tkSkip 35 52 (fuel := 3) rfl (by kernel_rfl) (by kernel_rfl) (by kernel_rfl) (by kernel_rfl) noPanic_false (by kernel_rfl) hS0 ?_
          refine tkSkip 36 53 (fuel := 2) rfl (by kernel_rfl) (by kernel_rfl) (by kernel_rfl) (by kernel_rfl) noPanic_false (by kernel_rfl) hS0 ?_
          refine tkSkip 37 54 (fuel := 1) rfl (by kernel_rfl) (by kernel_rfl) (by kernel_rfl) (by kernel_rfl) noPanic_false (by kernel_rfl) hS0 ?_
          refine tk 38 55 (.bool true) (fuel := 0) rfl (by kernel_rfl) (by kernel_rfl) (by kernel_rfl) (by kernel_rfl) noPanic_false (by kernel_rfl) (fun _ _ => by kernel_rfl) hS0 ?_
          refine wpAnyH_done (by kernel_rfl) (NoPanic.normal ?_) _
          have HN : Hid (After w _) := HI.out.aft.trans (After.drew (After.refl wr))
          have HNL : Hid (¬ rsof la = rsof lb) := fun e => by have h1 := HXY.out; rw [e] at h1; exact HNE.out (Option.some.inj (h1.1.symm.trans h1.2))
          clear hS0
          go_simp
          go_wp2
          refine bodyPost_ret (v := .bool false) (by simp [results, Tryz.results10, go_sem]) rfl ⟨by rw [decide_eq_false HNL.out], HN.out⟩
      · have hii : ¬ (i : Int) < (n : Int) := by omega
        have HF : Hid (After w wr ∧ rsof la = rsof lb) := ⟨HI.out.aft, eq_of_pre HFA.out.2.2 HFB.out.2.2 (fun j hj => HI.out.pre j (by omega))⟩
        go_wp2
        refine bodyPost_ret (v := .bool true) (by simp [results, Tryz.results10, go_sem]) rfl ⟨by rw [decide_eq_true HF.out.2], HF.out.1⟩
  · have hnmi : ¬ (n : Int) = (m : Int) := by omega
    have HNE : Hid (¬ rsof la = rsof lb) := fun e => hnm (by rw [← hpa, ← hpb, e])
    go_enter Tryz.func10, Tryz.ntmps10
    go_wp2
    refine bodyPost_ret (v := .bool false) (by simp [results, Tryz.results10, go_sem]) rfl ⟨by rw [decide_eq_false HNE.out], After.refl w⟩
end Go.Proofs.YtcmcapcagblafaaGreat

namespace Go.Proofs.YtcmcapcagblafaaGreat
open Go.RowKit Go.Maps Dsk
attribute [local go_sem] Oper.semAt_some
/-- Hashes behind none, in a block that is there. -/
theorem cpy_step {W : World} {B g n ca : Nat} {ao : Option Addr} {l : List H} (h : OwnL W B 40 32 (.slice (some ⟨g, 0, none⟩) 0 0) []) (hl : l.length = n) (hn : n * 32 ≤ 140737488355328) (hz : ao = none → ca = 0) (hA : SlAt W 32 ao (hsL l)) (hB : B ≤ W.heap.size) :
    ∃ a' c' W', (Builtin.append_ #[26, 26] 26 #[.slice (some ⟨g, 0, none⟩) 0 0, .slice ao n ca]).run Tryz.prog W = .ok (.slice a' n c') W' ∧ OwnL W' B 40 32 (.slice a' n c') (hsL l) ∧ W.grownBy W' (some g) := by
  obtain ⟨q, hq, hz0⟩ := Option.map_eq_some_iff.1 info50
  simp only [Prod.mk.injEq] at hz0
  obtain ⟨hz1, hz2, hz3⟩ := hz0
  obtain ⟨va, vc, w', h1, h2, h3, _⟩ := run_appL (t := 26) 26 40 32 32 Tryz.underlying26 hq hz1 hz2 hz3 (by simp [Value.cells]) (by omega) h (N := hsL l) (a := ao) (m := n) (c := ca) (by rw [hs_len, hl]) hA (hs_one l) (by simp; unfold maxLen; omega) (by simp; omega) hB (fun _ e => hz e)
  simp only [List.length_nil, Nat.zero_add, List.nil_append] at h1 h2
  exact ⟨va, vc, w', h1, h2, h3⟩
/-- Branches stay where a row below all of them grows. -/
theorem OwnB.grownAway {W W' : World} {B g : Nat} {v : Value} {X : List Bx} (h : OwnB W B v X) (hg : W.grownBy W' (some g)) (hne : ∀ b, B ≤ b → b ≠ g) : OwnB W' B v X :=
  h.keep hg.size (fun b _ _ h1 h2 _ => hg.block b h2.lt (fun e => hne b h1 (Option.some.inj e)))
/-- What the copy keeps. -/
structure LcI (w : World) (X : List Rx) (i : Nat) (v : Value) (wr : World) : Prop where
  aft : After w wr
  ex : ∃ Z : List Rx, Z.length = i ∧ OwnR wr w.heap.size v Z ∧ rsof Z = (rsof X).take i
def CpT (w : World) (n : Nat) (X : List Rx) (e : Ending) (w' : World) : Prop := ∃ a c Z, e = .returned (.slice a n c) ∧ OwnR w' w.heap.size (.slice a n c) Z ∧ rsof Z = rsof X ∧ After w w'
theorem cp_step17 {w wr W3 : World} {X : List Rx} {i vc : Nat} {va : Option Addr} (h : LcI w X i (.slice va i vc) wr) {y : Rx} (hx : (rsof X)[i]? = some (rof y)) (hA : After wr W3) (hy : RxO W3 w.heap.size y) (hi : (i + 1) * 64 ≤ 140737488355328) :
    ∃ vb vd w6, (Builtin.append_ #[22, 22] 22 #[.slice va i vc, .slice (some ⟨W3.heap.size, 0, none⟩) 1 1]).run Tryz.prog (W3.alloc (.cells (rxc y).toArray 32)) = .ok (.slice vb (i + 1) vd) w6 ∧ KeptF (fun b => (Value.slice va i vc).ownBlock = some b) wr w6 ∧ LcI w X (i + 1) (.slice vb (i + 1) vd) w6 := by
  obtain ⟨Z, h1, h2, h3⟩ := h.ex
  have hal : After W3 (W3.alloc (.cells (rxc y).toArray 32)) := after_alloc (After.refl W3) _
  have o3 := (h2.after hA).after hal
  have oy : RxO (W3.alloc (.cells (rxc y).toArray 32)) w.heap.size y := hy.keep hal.size (fun b t cs _ h2 _ => hal.block b h2.lt)
  have hsz := (h.aft.trans hA).size
  obtain ⟨vb, vd, w6, r1, r2, r3⟩ := run_appR 22 o3 (Y := [y]) (m := 1) (c := 1) rfl rx_box (by omega) (by simp; omega) (fun e => by cases e) (fun z hz => by rw [List.mem_singleton.1 hz]; exact oy)
  rw [h1] at r1 r2
  refine ⟨vb, vd, w6, r1, ?_, ⟨?_, Z ++ [y], by simp [h1], r2, by rw [rsof_snoc, h3, List.take_add_one, hx]; rfl⟩⟩
  · exact (KeptF.of_after (hA.trans hal)).trans (KeptF.of_grown r3 (fun b e => e)) (fun _ _ e => e)
  · exact after_grown ((h.aft.trans hA).trans hal) r3 (Nat.le_refl _) (fun k hk => (own_lt o3.row.2 hk).1)
theorem x_bld41 {oi : Oper} {a : Act} {w : World} {x y z : Operand} {s : ByteArray} {b d : Option Addr} {n c k e : Nat} (hop : oi.op = .build 32 #[(0, x), (1, y), (2, z)]) (hx : a.eval x = .string s) (hy : a.eval y = .slice b n c) (hz : a.eval z = .slice d k e) : (execOp a.eval oi).run Tryz.prog w = .ok (.value (.agg #[.string s, .slice b n c, .slice d k e])) w := by
  have h := run_build (P := Tryz.prog) w 32 #[(0, .string s), (1, .slice b n c), (2, .slice d k e)] #[.string s, .slice b n c, .slice d k e] (by kernel_rfl)
  unfold execOp
  simp only [hop]
  simp [hx, hy, hz, h]
set_option maxRecDepth 100000 in
set_option maxHeartbeats 25600000 in
theorem copy9 {la : Option Addr} {ca n : Nat} {X : List Rx} (hl : X.length = n) (hn : n * 64 ≤ 140737488355328) {w : World} (hA : RsAt w la X) : Calls Tryz.prog 11 #[.slice la n ca] w (CpT w n X) := by
  have HL : Hid (RsAt w la X ∧ X.length = n) := ⟨hA, hl⟩
  clear hA hl
  go_enter Tryz.func11, Tryz.ntmps11
  go_wp2
  go_loopw [3, 4] (fun v iv wr => ∃ (i : Nat) (va : Option Addr) (vc : Nat), i ≤ n ∧ v = .slice va i vc ∧ iv = .int .i64 (i : Int) ∧ Hid (LcI w X i (.slice va i vc) wr)) (fun _ iv _ => n - (intOf iv).toNat)
  case atStart => exact ⟨0, none, 0, Nat.zero_le _, rfl, rfl, After.refl _, [], rfl, OwnR.nil _ _, by simp [rsof]⟩
  case round =>
    obtain ⟨i, va, vc, hin, rfl, rfl, HP⟩ := hrel
    by_cases hlt : i < n
    · have hii : (i : Int) < (n : Int) := by omega
      have HLT : Hid (i < n) := hlt
      obtain ⟨x, hx⟩ : ∃ x, X[i]? = some x := ⟨_, List.getElem?_eq_getElem (by rw [HL.out.2]; exact hlt)⟩
      have hxb := HL.out.1.each x (List.mem_of_getElem? hx)
      obtain ⟨xb, xo, hla, hlr⟩ := HL.out.1.sl.at (rs_get hx)
      subst hla
      obtain ⟨k, hk⟩ : ∃ k, x.X.length = k := ⟨_, rfl⟩
      obtain ⟨p, hp⟩ : ∃ p, x.l.length = p := ⟨_, rfl⟩
      have hxlt : xb < w.heap.size := range_lt hlr (by simp [rxc])
      have HX : Hid (wr.rangeAt xb (xo + i * 3) [.string (strOf x.nm), .slice x.ba k x.bc, .slice x.a p x.c]) := by have := range_after hlr HP.out.aft; unfold rxc at this; rw [hk, hp] at this; exact this
      have HNE : Hid (¬ (Value.slice va i vc).ownBlock = some xb) := fun e => by obtain ⟨Z, _, hz, _⟩ := HP.out.ex; have := (own_lt hz.row.2 e).1; omega
      have HXA : Hid (RxAt w x ∧ x.X.length = k ∧ x.l.length = p ∧ (rsof X)[i]? = some (rof x) ∧ (i + 1) * 64 ≤ 140737488355328) := ⟨hxb, hk, hp, rsof_get hx, by omega⟩
      have HCB : Hid (∀ W, After w W → Calls Tryz.prog 21 #[.slice x.ba k x.bc] W fun e w' => ∃ a c Z, e = .returned (.slice a k c) ∧ OwnB w' W.heap.size (.slice a k c) Z ∧ bof Z = bof x.X ∧ After W w') := fun W hW => rcopy16 (ca := x.bc) HXA.out.2.1 (by have := HXA.out.1.fitB; rw [HXA.out.2.1] at this; exact this) (HXA.out.1.bs.after hW)
      have HSL : Hid (∀ W, After w W → SlAt W 32 x.a (hsL x.l)) := fun W hW => HXA.out.1.sl.after hW
      have HWD : Hid (After w wr.drew) := After.drew HP.out.aft
      have HMK : Hid (∀ (W : World) (a c : _) (Z : List Bx) (va vc : _), OwnB W w.heap.size (.slice a k c) Z → bof Z = bof x.X → OwnL W w.heap.size 40 32 (.slice va p vc) (hsL x.l) → RxO W w.heap.size ⟨x.nm, a, c, Z, va, vc, x.l⟩ ∧ rof ⟨x.nm, a, c, Z, va, vc, x.l⟩ = rof x ∧ (rxc ⟨x.nm, a, c, Z, va, vc, x.l⟩).toArray = #[.string (strOf x.nm), .slice a k c, .slice va p vc]) := fun W a c Z va vc h1 h2 h3 => by
        have hZ : Z.length = k := by rw [← bof_len Z, h2, bof_len, HXA.out.2.1]
        have hfit := HXA.out.1
        refine ⟨⟨⟨hfit.nmf, hfit.fitC, hfit.l32, by show Z.length * 40 ≤ _; rw [hZ, ← HXA.out.2.1]; exact hfit.fitB, fun y hy => ?_⟩, ?_, ?_⟩, ?_, ?_⟩
        · have h9 : (y.nm, y.l) ∈ bof x.X := by rw [← h2]; exact List.mem_map.2 ⟨y, hy, rfl⟩
          obtain ⟨z, hz1, hz2⟩ := List.mem_map.1 h9
          have := hfit.bnm z hz1
          rw [← (Prod.mk.inj hz2).1]; exact this
        · show OwnL _ _ _ _ (.slice va x.l.length vc) _
          rw [HXA.out.2.2.1]; exact h3
        · show OwnB _ _ (.slice a Z.length c) _
          rw [hZ]; exact h1
        · unfold rof; rw [h2]
        · unfold rxc; rw [hZ, HXA.out.2.2.1]
      clear hx hxb hlr hk hp hxlt
      go_wp2
      refine wp_region_noPanic ?_
      refine wp_region_held_drew (S := KeptF (fun b => (Value.slice va i vc).ownBlock = some b) wr) (by kernel_rfl) (KeptF.of_after (After.drew (After.refl wr))) ?_
      intro hS0
      refine tk 0 11 (.slice va i vc) (fuel := 22) rfl (by kernel_rfl) (by kernel_rfl) (by kernel_rfl) (by kernel_rfl) noPanic_false (by kernel_rfl) (fun _ _ => by kernel_rfl) hS0 ?_
      refine tk 1 12 (.slice (some ⟨xb, xo, none⟩) n ca) (fuel := 21) rfl (by kernel_rfl) (by kernel_rfl) (by kernel_rfl) (by kernel_rfl) noPanic_false (by kernel_rfl) (fun _ _ => by kernel_rfl) hS0 ?_
      refine tk 2 13 (.int .i64 (i : Int)) (fuel := 20) rfl (by kernel_rfl) (by kernel_rfl) (by kernel_rfl) (by kernel_rfl) noPanic_false (by kernel_rfl) (fun _ _ => by kernel_rfl) hS0 ?_
      refine tk 3 14 (.pointer (some ⟨xb, xo + i * 3, none⟩)) (fuel := 19) rfl (by kernel_rfl) (by kernel_rfl) (by kernel_rfl) (by kernel_rfl) noPanic_false (by kernel_rfl) (fun W _ => x_idx22 (n := n) (c := ca) (x := .tmp 12) (y := .tmp 13) (by kernel_rfl) (by kernel_rfl) (by kernel_rfl) HLT.out) hS0 ?_
      refine tk 4 15 (.pointer (some ⟨xb, xo + i * 3, none⟩)) (fuel := 18) rfl (by kernel_rfl) (by kernel_rfl) (by kernel_rfl) (by kernel_rfl) noPanic_false (by kernel_rfl) (fun _ _ => by kernel_rfl) hS0 ?_
      refine tk 5 16 (.string (strOf x.nm)) (fuel := 17) rfl (by kernel_rfl) (by kernel_rfl) (by kernel_rfl) (by kernel_rfl) noPanic_false (by kernel_rfl) (fun W hW => x_loadT (x := .tmp 15) (t := 9) (g := xb) (j := xo + i * 3 + 0) Tryz.underlying9 rfl (by kernel_rfl) (by kernel_rfl) (range_kept HX.out hW HNE.out 0 _ rfl)) hS0 ?_
      refine tk 6 17 (.slice (some ⟨xb, xo, none⟩) n ca) (fuel := 16) rfl (by kernel_rfl) (by kernel_rfl) (by kernel_rfl) (by kernel_rfl) noPanic_false (by kernel_rfl) (fun _ _ => by kernel_rfl) hS0 ?_
      refine tk 7 18 (.int .i64 (i : Int)) (fuel := 15) rfl (by kernel_rfl) (by kernel_rfl) (by kernel_rfl) (by kernel_rfl) noPanic_false (by kernel_rfl) (fun _ _ => by kernel_rfl) hS0 ?_
      refine tk 8 19 (.pointer (some ⟨xb, xo + i * 3, none⟩)) (fuel := 14) rfl (by kernel_rfl) (by kernel_rfl) (by kernel_rfl) (by kernel_rfl) noPanic_false (by kernel_rfl) (fun W _ => x_idx22 (n := n) (c := ca) (x := .tmp 17) (y := .tmp 18) (by kernel_rfl) (by kernel_rfl) (by kernel_rfl) HLT.out) hS0 ?_
      refine tk 9 20 (.pointer (some ⟨xb, xo + i * 3 + 1, none⟩)) (fuel := 13) rfl (by kernel_rfl) (by kernel_rfl) (by kernel_rfl) (by kernel_rfl) noPanic_false (by kernel_rfl) (fun _ _ => by kernel_rfl) hS0 ?_
      refine tk 10 21 (.slice x.ba k x.bc) (fuel := 12) rfl (by kernel_rfl) (by kernel_rfl) (by kernel_rfl) (by kernel_rfl) noPanic_false (by kernel_rfl) (fun W hW => x_loadT (x := .tmp 20) (t := 30) (g := xb) (j := xo + i * 3 + 1) Tryz.underlying30 rfl (by kernel_rfl) (by kernel_rfl) (range_kept HX.out hW HNE.out 1 _ rfl)) hS0 ?_
      refine tk 13 24 (.slice (some ⟨xb, xo, none⟩) n ca) (fuel := 11) rfl (by kernel_rfl) (by kernel_rfl) (by kernel_rfl) (by kernel_rfl) noPanic_false (by kernel_rfl) (fun _ _ => by kernel_rfl) hS0 ?_
      refine tk 14 25 (.int .i64 (i : Int)) (fuel := 10) rfl (by kernel_rfl) (by kernel_rfl) (by kernel_rfl) (by kernel_rfl) noPanic_false (by kernel_rfl) (fun _ _ => by kernel_rfl) hS0 ?_
      refine tk 15 26 (.pointer (some ⟨xb, xo + i * 3, none⟩)) (fuel := 9) rfl (by kernel_rfl) (by kernel_rfl) (by kernel_rfl) (by kernel_rfl) noPanic_false (by kernel_rfl) (fun W _ => x_idx22 (n := n) (c := ca) (x := .tmp 24) (y := .tmp 25) (by kernel_rfl) (by kernel_rfl) (by kernel_rfl) HLT.out) hS0 ?_
      refine tk 16 27 (.pointer (some ⟨xb, xo + i * 3 + 2, none⟩)) (fuel := 8) rfl (by kernel_rfl) (by kernel_rfl) (by kernel_rfl) (by kernel_rfl) noPanic_false (by kernel_rfl) (fun _ _ => by kernel_rfl) hS0 ?_
      refine tk 17 28 (.slice x.a p x.c) (fuel := 7) rfl (by kernel_rfl) (by kernel_rfl) (by kernel_rfl) (by kernel_rfl) noPanic_false (by kernel_rfl) (fun W hW => x_loadT (x := .tmp 27) (t := 26) (g := xb) (j := xo + i * 3 + 2) Tryz.underlying26 rfl (by kernel_rfl) (by kernel_rfl) (range_kept HX.out hW HNE.out 2 _ rfl)) hS0 ?_
      refine tkTwo 11 12 (fuel := 6) (by kernel_rfl) (opCallK 11 22 21 #[.slice x.ba k x.bc] (fun v w' => ∃ a c Z, v = .slice a k c ∧ OwnB w' wr.drew.heap.size (.slice a k c) Z ∧ bof Z = bof x.X ∧ After wr.drew w') rfl rfl (by kernel_rfl) (fun _ => by kernel_rfl) ((HCB.out wr.drew HWD.out).mono (fun e w' ⟨a, c, Z, he, h1, h2, h3⟩ => ⟨_, he, a, c, Z, rfl, h1, h2, h3⟩)) ?_) (opVal 12 23 (.slice (some ⟨wr.drew.heap.size, 0, none⟩) 0 0) (wr.drew.alloc (.cells #[] 40)) rfl rfl (by kernel_rfl) (x_bs30e (by kernel_rfl)) ⟨KeptF.of_after (after_alloc (After.drew (After.refl wr)) _), ?_⟩)
      · intro v1 w4 ⟨a1, c1, Z1, hv1, ho1, hZ1, ha1⟩
        subst hv1
        have hA4 : After wr w4 := (After.drew (After.refl wr)).trans ha1
        refine ⟨KeptF.of_after hA4, ?_⟩
        refine tkRunS 12 23 (.slice (some ⟨w4.heap.size, 0, none⟩) 0 0) (w4.alloc (.cells #[] 40)) (fuel := 5) rfl (by kernel_rfl) (by kernel_rfl) (by kernel_rfl) (x_bs30e (by kernel_rfl)) (KeptF.of_after (after_alloc hA4 _)) ?_
        have hsz4 := (HP.out.aft.trans hA4).size
        have hge : wr.heap.size ≤ w4.heap.size := hA4.size
        have oB4 : OwnB w4 w.heap.size (.slice a1 k c1) Z1 := ⟨ho1.row.lower HWD.out.size, ho1.each, fun y hy ad e => by obtain ⟨h1, h2, h3, h4⟩ := ho1.ge y hy ad e; exact ⟨Nat.le_trans HWD.out.size h1, h2, h3, h4⟩⟩
        have hal4 : After w4 (w4.alloc (.cells #[] 40)) := after_alloc (After.refl w4) _
        have oH5 : OwnL (w4.alloc (.cells #[] 40)) w.heap.size 40 32 (.slice (some ⟨w4.heap.size, 0, none⟩) 0 0) [] := (OwnL.fresh w4 40 32).lower hsz4
        obtain ⟨va8, vc8, W8, r8, o8, g8⟩ := cpy_step (ca := x.c) oH5 HXA.out.2.2.1 (by have := HXA.out.1.fitC; rw [HXA.out.2.2.1] at this; exact this) HXA.out.1.zC (HSL.out _ (HP.out.aft.trans (hA4.trans hal4))) (HP.out.aft.trans (hA4.trans hal4)).size
        have hA8 : After wr W8 := after_grown (hA4.trans hal4) g8 (Nat.le_refl _) (fun q hq => by cases hq; exact hge)
        have oB8 : OwnB W8 w.heap.size (.slice a1 k c1) Z1 := oB4.after (after_grown hal4 g8 (Nat.le_refl _) (fun q hq => by cases hq; exact Nat.le_refl _))
        obtain ⟨hy1, hy2, hy3⟩ := HMK.out W8 a1 c1 Z1 va8 vc8 oB8 hZ1 o8
        obtain ⟨vb, vd, w9, r9, k9, n9⟩ := cp_step17 HP.out (by rw [hy2]; exact HXA.out.2.2.2.1) hA8 hy1 HXA.out.2.2.2.2
        refine tkRunS 18 29 (.slice va8 p vc8) (W8) (fuel := 4) rfl (by kernel_rfl) (by kernel_rfl) (by kernel_rfl) (x_app (t := 26) (s := .tmp 23) (x := .tmp 28) rfl (by kernel_rfl) (by kernel_rfl) r8) (KeptF.of_after hA8) ?_
        refine tk 19 30 (.agg #[.string (strOf x.nm), .slice a1 k c1, .slice va8 p vc8]) (fuel := 3) rfl (by kernel_rfl) (by kernel_rfl) (by kernel_rfl) (by kernel_rfl) noPanic_false (by kernel_rfl) (fun _ _ => x_bld41 (x := .tmp 16) (y := .tmp 22) (z := .tmp 29) (by kernel_rfl) (by kernel_rfl) (by kernel_rfl) (by kernel_rfl)) (KeptF.of_after hA8) ?_
        refine tkRunS 20 31 (.slice (some ⟨W8.heap.size, 0, none⟩) 1 1) (W8.alloc (.cells (rxc ⟨x.nm, a1, c1, Z1, va8, vc8, x.l⟩).toArray 32)) (fuel := 2) rfl (by kernel_rfl) (by kernel_rfl) (by kernel_rfl) (x_bs22r (x := .tmp 30) (y := ⟨x.nm, a1, c1, Z1, va8, vc8, x.l⟩) (by kernel_rfl) (by rw [hy3]; kernel_rfl)) (KeptF.of_after (after_alloc hA8 _)) ?_
        refine tkRunS 21 32 (.slice vb (i + 1) vd) w9 (fuel := 1) rfl (by kernel_rfl) (by kernel_rfl) (by kernel_rfl) (x_app (t := 22) (s := .tmp 11) (x := .tmp 31) rfl (by kernel_rfl) (by kernel_rfl) r9) k9 ?_
        refine tk 22 3 (.slice vb (i + 1) vd) (fuel := 0) rfl (by kernel_rfl) (by kernel_rfl) (by kernel_rfl) (by kernel_rfl) noPanic_false (by kernel_rfl) (fun _ _ => by kernel_rfl) k9 ?_
        refine wpAnyH_done (by kernel_rfl) (NoPanic.normal ?_) _
        have HN : Hid (LcI w X (i + 1) (.slice vb (i + 1) vd) w9) := n9
        clear r8 o8 g8 hA8 oB8 hy1 hy2 hy3 r9 k9 n9
        clear hS0
        go_simp
        go_wp2
        go_roundw
        case rel => exact ⟨i + 1, vb, vd, by omega, rfl, by go_num, HN⟩
        case measure => simp [intOf]; omega
      · obtain ⟨g4, hg4⟩ : ∃ g4, wr.drew.heap.size = g4 := ⟨_, rfl⟩
        obtain ⟨w4, hw4⟩ : ∃ w4, wr.drew.alloc (.cells #[] 40) = w4 := ⟨_, rfl⟩
        have hA4 : After wr w4 := by rw [← hw4]; exact after_alloc (After.drew (After.refl wr)) _
        have oH4 : OwnL w4 g4 40 32 (.slice (some ⟨g4, 0, none⟩) 0 0) [] := by rw [← hw4, ← hg4]; exact OwnL.fresh wr.drew 40 32
        have hgl : g4 < w4.heap.size := by rw [← hw4, ← hg4]; simp
        rw [hw4, hg4]
        refine tkCallZ 11 22 21 #[.slice x.ba k x.bc] (fun v w' => ∃ a c Z, v = .slice a k c ∧ OwnB w' w4.heap.size (.slice a k c) Z ∧ bof Z = bof x.X ∧ After w4 w') (fuel := 5) rfl (by kernel_rfl) (by kernel_rfl) (by kernel_rfl) (fun _ => by kernel_rfl) ((HCB.out w4 (HP.out.aft.trans hA4)).mono (fun e w' ⟨a, c, Z, he, h1, h2, h3⟩ => ⟨_, he, a, c, Z, rfl, h1, h2, h3⟩)) ?_
        intro v1 w5 ⟨a1, c1, Z1, hv1, ho1, hZ1, ha1⟩
        subst hv1
        have hA5 : After wr w5 := hA4.trans ha1
        refine ⟨KeptF.of_after hA5, ?_⟩
        have hge : wr.heap.size ≤ g4 := by rw [← hg4]; exact (After.drew (After.refl wr)).size
        have hgo : ∀ b, w4.heap.size ≤ b → b ≠ g4 := fun b hb e => by omega
        have hsz5 := (HP.out.aft.trans hA4).size
        have oH5 : OwnL w5 w.heap.size 40 32 (.slice (some ⟨g4, 0, none⟩) 0 0) [] := (oH4.same (fun b e => ha1.block b (own_lt oH4.2 e).2.1)).lower (Nat.le_trans HP.out.aft.size hge)
        obtain ⟨va8, vc8, W8, r8, o8, g8⟩ := cpy_step (ca := x.c) oH5 HXA.out.2.2.1 (by have := HXA.out.1.fitC; rw [HXA.out.2.2.1] at this; exact this) HXA.out.1.zC (HSL.out _ (HP.out.aft.trans hA5)) (HP.out.aft.trans hA5).size
        have hA8 : After wr W8 := after_grown hA5 g8 (Nat.le_refl _) (fun q hq => by cases hq; exact hge)
        have oB8 : OwnB W8 w.heap.size (.slice a1 k c1) Z1 := (ho1.grownAway g8 hgo).lower hsz5
        obtain ⟨hy1, hy2, hy3⟩ := HMK.out W8 a1 c1 Z1 va8 vc8 oB8 hZ1 o8
        obtain ⟨vb, vd, w9, r9, k9, n9⟩ := cp_step17 HP.out (by rw [hy2]; exact HXA.out.2.2.2.1) hA8 hy1 HXA.out.2.2.2.2
        refine tkRunS 18 29 (.slice va8 p vc8) (W8) (fuel := 4) rfl (by kernel_rfl) (by kernel_rfl) (by kernel_rfl) (x_app (t := 26) (s := .tmp 23) (x := .tmp 28) rfl (by kernel_rfl) (by kernel_rfl) r8) (KeptF.of_after hA8) ?_
        refine tk 19 30 (.agg #[.string (strOf x.nm), .slice a1 k c1, .slice va8 p vc8]) (fuel := 3) rfl (by kernel_rfl) (by kernel_rfl) (by kernel_rfl) (by kernel_rfl) noPanic_false (by kernel_rfl) (fun _ _ => x_bld41 (x := .tmp 16) (y := .tmp 22) (z := .tmp 29) (by kernel_rfl) (by kernel_rfl) (by kernel_rfl) (by kernel_rfl)) (KeptF.of_after hA8) ?_
        refine tkRunS 20 31 (.slice (some ⟨W8.heap.size, 0, none⟩) 1 1) (W8.alloc (.cells (rxc ⟨x.nm, a1, c1, Z1, va8, vc8, x.l⟩).toArray 32)) (fuel := 2) rfl (by kernel_rfl) (by kernel_rfl) (by kernel_rfl) (x_bs22r (x := .tmp 30) (y := ⟨x.nm, a1, c1, Z1, va8, vc8, x.l⟩) (by kernel_rfl) (by rw [hy3]; kernel_rfl)) (KeptF.of_after (after_alloc hA8 _)) ?_
        refine tkRunS 21 32 (.slice vb (i + 1) vd) w9 (fuel := 1) rfl (by kernel_rfl) (by kernel_rfl) (by kernel_rfl) (x_app (t := 22) (s := .tmp 11) (x := .tmp 31) rfl (by kernel_rfl) (by kernel_rfl) r9) k9 ?_
        refine tk 22 3 (.slice vb (i + 1) vd) (fuel := 0) rfl (by kernel_rfl) (by kernel_rfl) (by kernel_rfl) (by kernel_rfl) noPanic_false (by kernel_rfl) (fun _ _ => by kernel_rfl) k9 ?_
        refine wpAnyH_done (by kernel_rfl) (NoPanic.normal ?_) _
        have HN : Hid (LcI w X (i + 1) (.slice vb (i + 1) vd) w9) := n9
        clear r8 o8 g8 hA8 oB8 hy1 hy2 hy3 r9 k9 n9
        clear hS0
        go_simp
        go_wp2
        go_roundw
        case rel => exact ⟨i + 1, vb, vd, by omega, rfl, by go_num, HN⟩
        case measure => simp [intOf]; omega

    · have hii : ¬ (i : Int) < (n : Int) := by omega
      have hie : i = n := by omega
      subst hie
      have HF : Hid (LcI w X i (.slice va i vc) wr) := HP.out
      go_wp2
      obtain ⟨Z, h1, h2, h3⟩ := HF.out.ex
      refine bodyPost_ret (v := .slice va i vc) (by simp [results, Tryz.results11, go_sem]) rfl ⟨va, vc, Z, rfl, h2, by rw [h3, List.take_of_length_le]; rw [rsof_len, HL.out.2]; exact Nat.le_refl _, HF.out.aft⟩
end Go.Proofs.YtcmcapcagblafaaGreat

namespace Go.Proofs.YtcmcapcagblafaaGreat
open Go.RowKit Go.Maps Dsk
attribute [local go_sem] Oper.semAt_some
set_option maxRecDepth 100000 in
set_option maxHeartbeats 25600000 in
theorem lives3 {la lb : Option Addr} {n m ca cb : Nat} {X Y : List Rx} (hX : X.length = n) (hn : n < 4611686018427387904) (hY : Y.length = m) (hm : m < 4611686018427387904) {w : World} (hA : RsAt w la X) (hB : RsAt w lb Y) : Calls Tryz.prog 3 #[.slice la n ca, .slice lb m cb] w fun e w' => e = .returned (.bool true) ∧ After w w' := by
  have HL : Hid (RsAt w la X ∧ X.length = n ∧ RsAt w lb Y ∧ Y.length = m) := ⟨hA, hX, hB, hY⟩
  have HF7 : Hid (Calls Tryz.prog 4 #[.slice la n ca] w fun e w' => e = .returned (.bool (decide (prts X ≤ 600))) ∧ After w w') := few7 hX hn hA
  have HF8 : Hid (∀ W, After w W → Calls Tryz.prog 4 #[.slice lb m cb] W fun e w' => e = .returned (.bool (decide (prts Y ≤ 600))) ∧ After W w') := fun W hW => few7 hY hm (hB.after hW)
  clear hA hB hX hY
  by_cases hf : prts X ≤ 600
  · have HD1 : Hid (decide (prts X ≤ 600) = true) := decide_eq_true hf
    by_cases hg : prts Y ≤ 600
    · have HD2 : Hid (decide (prts Y ≤ 600) = true) := decide_eq_true hg
      have hn6 : n ≤ 600 := by have := prts_len X; rw [HL.out.2.1] at this; omega
      have hm6 : m ≤ 600 := by have := prts_len Y; rw [HL.out.2.2.2] at this; omega
      have hcx : (chs X).length ≤ 600 := Nat.le_trans (chs_few hf) hf
      obtain ⟨z, hz⟩ : ∃ z, decide (rsof X = rsof Y) = z := ⟨_, rfl⟩
      have HV1 : Hid (∀ W, After w W → Calls Tryz.prog 7 #[.slice la n ca] W (LvT W X 600)) := fun W h => live17 HL.out.2.1 (by omega) hcx (by omega) (HL.out.1.after h)
      have HV2 : Hid (∀ W, After w W → Calls Tryz.prog 8 #[.slice la n ca] W (LvT W X 600)) := fun W h => rlive8 HL.out.2.1 (by omega) hcx (by omega) (HL.out.1.after h)
      have HS1 : Hid (∀ W, After w W → Calls Tryz.prog 9 #[.slice la n ca, .slice lb m cb] W fun e w' => e = .returned (.bool z) ∧ After W w') := fun W h => by
        have := same16 (ca := ca) (cb := cb) HL.out.2.1 HL.out.2.2.2 (by omega) (HL.out.1.after h) (HL.out.2.2.1.after h)
        rw [hz] at this; exact this
      have HS2 : Hid (∀ W, After w W → Calls Tryz.prog 10 #[.slice la n ca, .slice lb m cb] W fun e w' => e = .returned (.bool z) ∧ After W w') := fun W h => by
        have := rsame13 (ca := ca) (cb := cb) HL.out.2.1 HL.out.2.2.2 (by omega) (HL.out.1.after h) (HL.out.2.2.1.after h)
        rw [hz] at this; exact this
      have HCP : Hid (∀ W, After w W → Calls Tryz.prog 11 #[.slice la n ca] W fun e w' => ∃ a c Z, e = .returned (.slice a n c) ∧ Z.length = n ∧ RsAt w' a Z ∧ rsof Z = rsof X ∧ After W w') := fun W hW => (copy9 (ca := ca) HL.out.2.1 (by omega) (HL.out.1.after hW)).mono (fun e w' ⟨a, c, Z, he, h1, h2, h3⟩ => by
        obtain ⟨a9, c9, e9, h9⟩ := h1.at
        injection e9 with e1 e2 _
        subst e1
        exact ⟨_, c, Z, he, e2.symm, h9, h2, h3⟩)
      have HS3 : Hid (∀ (W : World) (a : Option Addr) (c : Nat) (Z : List Rx), Z.length = n → rsof Z = rsof X → After w W → RsAt W a Z → Calls Tryz.prog 9 #[.slice la n ca, .slice a n c] W fun e w' => e = .returned (.bool true) ∧ After W w') := fun W a c Z h1 h2 h3 h4 => (same16 (ca := ca) (cb := c) HL.out.2.1 h1 (by omega) (HL.out.1.after h3) h4).mono (fun e w' ⟨he, h⟩ => ⟨by rw [he, decide_eq_true h2.symm], h⟩)
      clear hf hg hcx hn6 hm6 hz
      go_enter Tryz.func3, Tryz.ntmps3
      go_wp2_with (first
        | (go_at_call 4; have hT := HF7.out; clear hT; refine Calls.mono HF7.out ?_; rintro e w1 ⟨rfl, ha⟩; rw [HD1.out]; have H1 : Hid (After w w1) := ha; clear ha HF7)
        | (go_at_call 4; have hT := HF8.out; clear hT; refine Calls.mono (HF8.out _ H1.out) ?_; rintro e w2 ⟨rfl, ha⟩; rw [HD2.out]; have H2 : Hid (After w w2) := H1.out.trans ha; clear ha HF8)
        | (go_at_call 7; refine Calls.mono (HV1.out _ H2.out) ?_; rintro e w3 ⟨a3, c3, k3, s3, rfl, h1, h2, h3, h4, h5, h6, h7⟩
           have H3 : Hid (HsAt w3 a3 s3 ∧ s3.length = k3 ∧ k3 ≤ 600 ∧ All32 s3 ∧ Up s3 ∧ (∀ h, h ∈ s3 ↔ h ∈ chs X) ∧ After w w3) := ⟨h3, h1, h2, h4, h5, h6, H2.out.trans h7⟩
           clear h1 h2 h3 h4 h5 h6 h7)
        | (go_at_call 8; refine Calls.mono (HV2.out _ H3.out.2.2.2.2.2.2) ?_; rintro e w4 ⟨a4, c4, k4, s4, rfl, h1, h2, h3, h4, h5, h6, h7⟩
           have H4 : Hid (HsAt w4 a4 s4 ∧ s4.length = k4 ∧ All32 s4 ∧ s3 = s4 ∧ After w w4 ∧ HsAt w4 a3 s3) := ⟨h3, h1, h4, Up.unique H3.out.2.2.2.2.1 h5 (fun h => (H3.out.2.2.2.2.2.1 h).trans (h6 h).symm), H3.out.2.2.2.2.2.2.trans h7, H3.out.1.after h7⟩
           clear h1 h2 h3 h4 h5 h6 h7)
        | (go_at_call 6; refine (rsame31 (ca := c3) (cb := c4) H3.out.2.2.2.1 H4.out.2.2.1 H3.out.2.1 H4.out.2.1 (by have := H3.out.2.2.1; omega) (H4.out.2.2.2.2.2.sl H3.out.2.2.2.1) (H4.out.1.sl H4.out.2.2.1)).mono ?_; rintro e w5 ⟨rfl, ha⟩; rw [decide_eq_true H4.out.2.2.2.1]; have H5 : Hid (After w w5) := H4.out.2.2.2.2.1.trans ha; clear ha)
        | (go_at_call 9; have hT := HS1.out; clear hT; refine Calls.mono (HS1.out _ H5.out) ?_; rintro e w6 ⟨rfl, ha⟩; have H6 : Hid (After w w6) := H5.out.trans ha; clear ha HS1)
        | (go_at_call 10; refine Calls.mono (HS2.out _ H6.out) ?_; rintro e w7 ⟨rfl, ha⟩; have H7 : Hid (After w w7) := H6.out.trans ha; clear ha)
        | (go_at_call 11; refine Calls.mono (HCP.out _ H7.out) ?_; rintro e w8 ⟨a8, c8, Z, rfl, h1, h2, h3, h4⟩; have H8 : Hid (Z.length = n ∧ RsAt w8 a8 Z ∧ rsof Z = rsof X ∧ After w w8) := ⟨h1, h2, h3, H7.out.trans h4⟩; clear h1 h2 h3 h4)
        | (go_at_call 9; have hT := H8.out; clear hT; refine Calls.mono (HS3.out _ _ _ _ H8.out.1 H8.out.2.2.1 H8.out.2.2.2 H8.out.2.1) ?_; rintro e w9 ⟨rfl, ha⟩; have H9 : Hid (After w w9) := H8.out.2.2.2.trans ha; clear ha)
        | (go_at_call 5; refine Calls.mono (awake8 _) ?_; rintro e w12 ⟨rfl, ha⟩; have H12 : Hid (After w w12) := H9.out.trans ha; clear ha))
      refine bodyPost_ret (v := .bool true) (by simp [results, Tryz.results3, go_sem]) rfl ⟨rfl, H12.out⟩
    · have HD2 : Hid (decide (prts Y ≤ 600) = false) := decide_eq_false hg
      clear hf hg
      go_enter Tryz.func3, Tryz.ntmps3
      go_wp2_with (first
        | (go_at_call 4; have hT := HF7.out; clear hT; refine Calls.mono HF7.out ?_; rintro e w1 ⟨rfl, ha⟩; rw [HD1.out]; have H1 : Hid (After w w1) := ha; clear ha HF7)
        | (go_at_call 4; have hT := HF8.out; clear hT; refine Calls.mono (HF8.out _ H1.out) ?_; rintro e w2 ⟨rfl, ha⟩; rw [HD2.out]; have H2 : Hid (After w w2) := H1.out.trans ha; clear ha HF8)
        | (go_at_call 5; refine Calls.mono (awake8 _) ?_; rintro e w12 ⟨rfl, ha⟩; have H12 : Hid (After w w12) := H2.out.trans ha; clear ha))
      refine bodyPost_ret (v := .bool true) (by simp [results, Tryz.results3, go_sem]) rfl ⟨rfl, H12.out⟩
  · have HD1 : Hid (decide (prts X ≤ 600) = false) := decide_eq_false hf
    clear hf
    go_enter Tryz.func3, Tryz.ntmps3
    go_wp2_with (first
      | (go_at_call 4; have hT := HF7.out; clear hT; refine Calls.mono HF7.out ?_; rintro e w1 ⟨rfl, ha⟩; rw [HD1.out]; have H1 : Hid (After w w1) := ha; clear ha HF7)
      | (go_at_call 5; refine Calls.mono (awake8 _) ?_; rintro e w12 ⟨rfl, ha⟩; have H12 : Hid (After w w12) := H1.out.trans ha; clear ha))
    refine bodyPost_ret (v := .bool true) (by simp [results, Tryz.results3, go_sem]) rfl ⟨rfl, H12.out⟩
end Go.Proofs.YtcmcapcagblafaaGreat

namespace Go.Proofs.YtcmcapcagblafaaGreat
open Go.ChangeShapes Go.WideShapes Go.ChangeAt Go.RowKit
instance : Inhabited Rx := ⟨⟨[], none, 0, [], none, 0, []⟩⟩
theorem cells41 : Tryz.prog.cellsOf 32 = 3 := by kernel_rfl
set_option maxRecDepth 100000 in
theorem open_brs {H' : Type} {enc : TypeId × Value → H'} {W : World} {n : Nat} {v : Value} {d : DataW H'} {p : List MemPlace}
    (hf : DataW.trod enc Tryz.prog W 0 (fun _ => true) true n 30 [v] = some (d, p)) (hw : ∀ m ∈ d.weights Tryz.prog 30, m ≤ reachBytes) :
    ∃ (a : Option Addr) (c : Nat) (X : List Bx), v = .slice a X.length c ∧ BsAt W a X ∧ (∀ x ∈ X, x.nm.length ≤ maxLen) ∧ X.length * 40 ≤ 140737488355328 ∧ (a = none → c = 0) := by
  rcases Deep.open_slice Tryz.underlying30 hf with ⟨hcs, _⟩ | ⟨x, l, c, m, n', D, Pl, hcs, _, hl, hm, hmm, hx, hall⟩
  · simp only [List.cons.injEq, and_true] at hcs
    exact ⟨none, 0, [], hcs, BsAt.nil _ _, fun _ h => by simp at h, by simp, fun _ => rfl⟩
  · simp only [List.cons.injEq, and_true] at hcs
    simp only [if_true] at hmm
    subst hmm
    simp only [Prod.mk.injEq] at hx
    have hd := hx.1
    have hlen : l * 40 ≤ 140737488355328 := by
      have := hw ((l + (m - l)) * Tryz.prog.bytesOf 58) (by rw [hd]; simp [DataW.weights, Tryz.underlying30])
      rw [show Tryz.prog.bytesOf 58 = 40 by kernel_rfl] at this
      simp only [reachBytes] at this
      omega
    have each : ∀ i, i < l → ∃ q : Bx, (∀ j, j < 2 → W.cell? ((x.add (i * 2)).add j) = (brc q)[j]?) ∧ BxAt W q ∧ q.nm.length ≤ maxLen := fun i hi => by
      obtain ⟨cs', h1, h2⟩ := hall i (by omega)
      rw [cells48] at h1
      obtain ⟨_, hcl, hce⟩ := World.cells?_some h1
      obtain ⟨v0, v1, rfl⟩ := two_of h1
      obtain ⟨q, e, hq⟩ := open_branch h2 (fun m' hm' => hw m' (by
        rw [hd]
        simp only [DataW.weights, Tryz.underlying30]
        exact List.mem_cons_of_mem _ (List.mem_append_left _ (mem_all hm' (List.mem_map.2 ⟨i, List.mem_range.2 hi, rfl⟩)))))
      exact ⟨q, fun j hj => by rw [← e]; exact hce j hj, hq⟩
    obtain ⟨q, hq⟩ := Deep.choose_lt each
    refine ⟨some x, m, (List.range l).map q, by rw [hcs]; simp, ⟨⟨uni_bs _, fun hne => ?_⟩, fun y hy => ?_⟩, fun y hy => ?_, by simpa using hlen, fun h => by cases h⟩
    · have hl0 : 0 < l := by
        rcases Nat.eq_zero_or_pos l with h | h
        · subst h; exact absurd rfl hne
        · exact h
      obtain ⟨b, off, spot⟩ := x
      have hs : spot = none := by
        have h0 := (hq 0 hl0).1 0 (by omega)
        have := World.cell?_spot (h0.trans (show (brc (q 0))[0]? = some (.string (strOf (q 0).nm)) from rfl))
        simpa [Addr.add] using this
      subst hs
      refine ⟨b, off, rfl, fun j v hv => ?_⟩
      obtain ⟨i, y, k, hy1, hy2, hy3⟩ := fl_of (uni_bs _) hv
      have hil : i < l := by have := (List.getElem?_eq_some_iff.1 hy1).1; simpa [bsL] using this
      have hye : y = brc (q i) := by
        unfold bsL at hy1
        rw [List.map_map, List.getElem?_map, List.getElem?_range hil] at hy1
        exact (Option.some.inj hy1).symm
      subst hye
      have hk : k < 2 := by have := (List.getElem?_eq_some_iff.1 hy2).1; simpa [brc] using this
      have := (hq i hil).1 k hk
      rw [Addr.add_mid, Addr.add_mid, hy2] at this
      rw [hy3, ← Nat.add_assoc]
      exact this
    · obtain ⟨i, hi, rfl⟩ := List.mem_map.1 hy; exact (hq i (by simpa using hi)).2.1
    · obtain ⟨i, hi, rfl⟩ := List.mem_map.1 hy; exact (hq i (by simpa using hi)).2.2
set_option maxRecDepth 100000 in
theorem open_record {H' : Type} {enc : TypeId × Value → H'} {W : World} {n : Nat} {v0 v1 v2 : Value} {d : DataW H'} {p : List MemPlace}
    (h : DataW.trod enc Tryz.prog W 0 (fun _ => true) true n 32 [v0, v1, v2] = some (d, p)) (hw : ∀ m ∈ d.weights Tryz.prog 32, m ≤ reachBytes) : ∃ x : Rx, [v0, v1, v2] = rxc x ∧ RxAt W x := by
  obtain ⟨xs, m, _, hx', _, hlen, hf⟩ := DataW.trod_struct Tryz.underlying32 h
  match xs, hlen with
  | [y0, y1, y2], _ =>
  have hx : d = .agg ([y0, y1, y2].map (·.1)) := congrArg Prod.fst hx'
  have g0 : DataW.trod enc Tryz.prog W 0 (fun _ => true) true m 9 (([v0, v1, v2].drop 0).take (Tryz.prog.cellsOf 9)) = some y0 := hf 0 _ rfl
  rw [one_cell (t := 9) (by kernel_rfl) [v0, v1, v2] 0 v0 rfl] at g0
  have g1 : DataW.trod enc Tryz.prog W 0 (fun _ => true) true m 30 (([v0, v1, v2].drop 1).take (Tryz.prog.cellsOf 30)) = some y1 := hf 1 _ rfl
  rw [one_cell (t := 30) (by kernel_rfl) [v0, v1, v2] 1 v1 rfl] at g1
  have g2 : DataW.trod enc Tryz.prog W 0 (fun _ => true) true m 26 (([v0, v1, v2].drop 2).take (Tryz.prog.cellsOf 26)) = some y2 := hf 2 _ rfl
  rw [one_cell (t := 26) (by kernel_rfl) [v0, v1, v2] 2 v2 rfl] at g2
  obtain ⟨s1, e1, _, w1⟩ := DataW.trod_string Tryz.underlying9 g0
  simp only [List.cons.injEq, and_true] at e1
  obtain ⟨ba, bc, X, e2, hbs, hbn, hbb, hbz⟩ := open_brs (d := y1.1) (p := y1.2) g1 (fun m' hm' => by
    refine hw _ ?_
    rw [hx]
    simp only [List.map_cons, List.map_nil, DataW.weights, Tryz.underlying32, DataW.weightsEach, List.mem_append]
    right; left; exact hm')
  obtain ⟨fa, fc, fl, e3, hfs, h32, hfb, hfz⟩ := open_hs (d := y2.1) (p := y2.2) g2 (fun m' hm' => by
    refine hw _ ?_
    rw [hx]
    simp only [List.map_cons, List.map_nil, DataW.weights, Tryz.underlying32, DataW.weightsEach, List.mem_append]
    right; right; left; exact hm')
  have hs1 : s1 = strOf s1.data.toList := by simp [strOf]
  refine ⟨⟨s1.data.toList, ba, bc, X, fa, fc, fl⟩, ?_, ⟨hbs, hfs, h32, by simpa using w1, hbn, hbb, hfb, hbz, hfz⟩⟩
  rw [e1, e2, e3]
  simp only [rxc]
  rw [← hs1]
set_option maxRecDepth 100000 in
theorem open_records {H' : Type} {enc : TypeId × Value → H'} {W : World} {base : Nat} {a : Option Addr} {len cap : Nat} {d : DataW H'} {p : List MemPlace}
    (hv : Value.okWide Tryz.prog W .any base 22 (.slice a len cap))
    (h : DataW.Trod enc Tryz.prog W 0 (fun _ => true) true 22 (.slice a len cap) d p) (hw : ∀ m ∈ d.weights Tryz.prog 22, m ≤ reachBytes) :
    ∃ l : List Rx, l.length = len ∧ len * 64 ≤ 140737488355328 ∧ RsAt W a l ∧ (a = none → cap = 0) := by
  obtain ⟨fuel, hf⟩ := h
  rcases Deep.open_slice Tryz.underlying22 hf with ⟨hcs, _⟩ | ⟨x, l, c, m, n, D, Pl, hcs, _, hl, hm, hmm, hx, hall⟩
  · simp [Value.cells] at hcs
    obtain ⟨rfl, rfl, rfl⟩ := hcs
    exact ⟨[], rfl, by omega, ⟨SlAt.nil _ _ _, fun _ h => by simp at h⟩, fun _ => rfl⟩
  · simp [Value.cells] at hcs
    obtain ⟨rfl, rfl, rfl⟩ := hcs
    simp only [if_true] at hmm
    subst hmm
    have hs : x.spot = none := by
      simp only [Value.okWide, Tryz.underlying22, Cell.okWide, Cell.ok] at hv
      obtain ⟨_, _, _, hs, _⟩ := hv
      exact hs
    simp only [Prod.mk.injEq] at hx
    have hd := hx.1
    have hlen : len * 64 ≤ 140737488355328 := by
      have := hw ((len + (m - len)) * Tryz.prog.bytesOf 32) (by rw [hd]; simp [DataW.weights, Tryz.underlying22])
      rw [show Tryz.prog.bytesOf 32 = 64 by kernel_rfl] at this
      simp only [reachBytes] at this
      omega
    obtain ⟨b, off, spot⟩ := x
    simp only at hs
    subst hs
    have each : ∀ i, i < len → ∃ q : Rx, W.rangeAt b (off + i * 3) (rxc q) ∧ RxAt W q := fun i hi => by
      obtain ⟨cs', h1, h2⟩ := hall i (by omega)
      rw [cells41] at h1
      obtain ⟨_, hcl, hce⟩ := World.cells?_some h1
      obtain ⟨v0, v1, v2, rfl⟩ := three_of h1
      obtain ⟨q, e, hq⟩ := open_record h2 (fun m' hm' => hw m' (by
        rw [hd]
        simp only [DataW.weights, Tryz.underlying22]
        exact List.mem_cons_of_mem _ (List.mem_append_left _ (mem_all hm' (List.mem_map.2 ⟨i, List.mem_range.2 hi, rfl⟩)))))
      refine ⟨q, fun j v hj => ?_, hq⟩
      rw [← e] at hj
      have hj9 : j < 3 := by have := (List.getElem?_eq_some_iff.1 hj).1; simpa using this
      have := hce j hj9
      rw [Addr.add_mid, Addr.add_mid, hj] at this
      exact this
    obtain ⟨q, hq⟩ := Deep.choose_lt each
    have hU : Uni 3 ((List.range len).map fun i => rxc (q i)) := fun y hy => by obtain ⟨z, _, rfl⟩ := List.mem_map.1 hy; rfl
    have hS : SlAt W 3 (some ⟨b, off, none⟩) ((List.range len).map fun i => rxc (q i)) := ⟨hU, fun _ => ⟨b, off, rfl, fun j v hv => by
      obtain ⟨i, y, k, hy1, hy2, hy3⟩ := fl_of hU hv
      have hil : i < len := by have := (List.getElem?_eq_some_iff.1 hy1).1; simpa using this
      have hye : y = rxc (q i) := by
        rw [List.getElem?_map, List.getElem?_range hil] at hy1
        exact (Option.some.inj hy1).symm
      subst hye
      rw [hy3, ← Nat.add_assoc]
      exact (hq i hil).1 k v hy2⟩⟩
    refine ⟨(List.range len).map q, by simp, hlen, ⟨by unfold rsL; rw [List.map_map]; exact hS, fun y hy => by obtain ⟨i, hi, rfl⟩ := List.mem_map.1 hy; exact (hq i (by simpa using hi)).2⟩, fun e => by cases e⟩
end Go.Proofs.YtcmcapcagblafaaGreat

namespace Go.Proofs.YtcmcapcagblafaaGreat.IndexLive
open Go.ChangeShapes Go.WideShapes Go.ChangeAt Go.RowKit Leb
open Go.ChangeMaps (open_string)

set_option maxRecDepth 100000 in
/-- What the walk gives, for every argument and every world. -/
theorem contract (H : Type) (enc : TypeId × Value → H) (W : World) (base : Nat) (args : Array Value) (ds gs : List (DataW H)) (before : List MemPlace)
    (hval : ∀ (j : Nat) t v, Tryz.f3.params[j]? = some t → args[j]? = some v → Value.okWide Tryz.prog W .any base t v)
    (hW : DataW.Whole enc Tryz.prog Tryz.f3.params.toList Rows.indexLiveSpec.vars false W args.toList ds gs before)
    (hsz : (DataW.weightsEach Tryz.prog (Tryz.f3.params.toList ++ (OpenSpec.ofChange Rows.indexLiveSpec).bare.plain.varTypes Tryz.prog) (ds ++ gs)).all (· ≤ reachBytes) = true) :
    Calls Tryz.prog 3 args W fun e W' => ∃ v, e = .returned v ∧ Rows.indexLiveSpec.post enc Tryz.prog Tryz.f3 false true false false W args v W' := by
  have hW' := hW
  obtain ⟨p, q, hA0, hV, rfl, hfz, hnd⟩ := hW
  have hA : DataW.TrodAll enc Tryz.prog W 0 (fun _ => true) true Tryz.f3.params.toList args.toList ds p := hA0
  rw [Tryz.params3] at hA hval hsz
  obtain ⟨v0, vs0, d0, ds0, p0, q0, hargs, rfl, rfl, h0, r0⟩ := trodAll_cons hA
  obtain ⟨v1, vs1, d1, ds1, p1, q1, rfl, rfl, rfl, h1, r1⟩ := trodAll_cons r0
  obtain ⟨rfl, rfl, rfl⟩ := trodAll_nil r1
  obtain rfl : args = #[v0, v1] := by cases args; simp_all
  obtain ⟨rfl, rfl⟩ := trodVars_none hV
  have k0 := h0
  have lt0 : ∀ x ∈ p0, x.block < W.heap.size := by obtain ⟨m, hm⟩ := k0; exact DataW.trod_lt m _ _ _ hm
  have k1 := h1
  have lt1 : ∀ x ∈ p1, x.block < W.heap.size := by obtain ⟨m, hm⟩ := k1; exact DataW.trod_lt m _ _ _ hm
  obtain ⟨a0, len0, cap0, rfl⟩ := okWide_slice Tryz.underlying22 (hval 0 22 v0 rfl rfl)
  obtain ⟨l0, hl0, hn0, hb0, hz0⟩ := open_records (hval 0 22 _ rfl rfl) h0 (fun m hm => by have := List.all_eq_true.1 hsz m (DataW.weights_mem_each (j := 0) (t := 22) rfl rfl m hm); simpa using this)
  obtain ⟨a1, len1, cap1, rfl⟩ := okWide_slice Tryz.underlying22 (hval 1 22 v1 rfl rfl)
  obtain ⟨l1, hl1, hn1, hb1, hz1⟩ := open_records (hval 1 22 _ rfl rfl) h1 (fun m hm => by have := List.all_eq_true.1 hsz m (DataW.weights_mem_each (j := 1) (t := 22) rfl rfl m hm); simpa using this)
  clear hA0 hA
  refine (lives3 (ca := cap0) (cb := cap1) hl0 (by omega) hl1 (by omega) hb0 hb1).mono fun e W' ⟨he, bel⟩ => ?_
  subst he
  exact ⟨_, rfl, _, _, _, [], _, [], hW', trodAll_mk1 (shut_bool Tryz.underlying4 _), (trodAll_cons_mk (Below.trod laidOut (by kernel_rfl) (of_decide_eq_true (by kernel_rfl)) k0 bel lt0) (trodAll_cons_mk (Below.trod laidOut (by kernel_rfl) (of_decide_eq_true (by kernel_rfl)) k1 bel lt1) (trodAll_mk0))), rfl, bel.frame _, fun h => by cases h⟩

set_option maxRecDepth 100000 in
/-- A world for the witness: the settled one. -/
theorem witness (os : Os) {H : Type} (enc : TypeId × Value → H) : ∃ (w : World) (tape : Tape) (i : Input), w.os = os ∧ (w.forCall tape i).Shaped Tryz.checked.prog ∧ i.vars = [] ∧ Input.okWide Tryz.checked.prog (w.forCall tape i) .any w.heap.size 3 i ∧
      (OpenSpec.ofChange Rows.indexLiveSpec).preRow enc Tryz.checked.prog Tryz.f3 Rows.indexLiveRow.domain false Rows.indexLiveRow.laid (w.forCall tape i).memory i.args ∧ ({} : Assume).holds Tryz.checked.prog (lone (Frame.enter Tryz.checked.prog 3 i.args .normal) [] (w.forCall tape i)) :=
  witness_row_at (enc := enc) (C := Tryz.checked) false (World.holding Tryz.prog os ⟨#[], #[], []⟩) #[.slice none 0 0, .slice none 0 0] rfl (by kernel_rfl) (by kernel_rfl) (by kernel_rfl)
    (OpenSpec.preRow_of_cond 8 (x := ([.nil, .nil], [], [])) (by kernel_rfl) (by kernel_rfl) (fun k hk => by cases hk) (by kernel_rfl) (laidMet_nil _ _))

set_option maxRecDepth 100000 in
theorem lifted (os : Os) (started : os.Started) (H : Type) (enc : TypeId × Value → H) (F : Stop.Interp) :
    ReturnsInHanded {} Tryz.checked os 3 .any ((OpenSpec.ofChange Rows.indexLiveSpec).preRow enc Tryz.prog Tryz.f3 Rows.indexLiveRow.domain false Rows.indexLiveRow.laid) (((OpenSpec.ofChange Rows.indexLiveSpec).at F).post enc Tryz.prog Tryz.f3 false true false false) := by
  refine returnsInHanded_of_row (C := Tryz.checked) (s := OpenSpec.ofChange Rows.indexLiveSpec) own started (by kernel_rfl) Tryz.func3 (witness os enc) ?_
  intro W base args ds gs before hval hW _ _ hsz _ _ _
  exact contract H enc W base args ds gs before hval hW hsz

set_option maxRecDepth 100000 in
theorem said : Rows.IndexLiveSaid :=
  OpenClaim.holds_of_cond 3 Tryz.f3 rfl rfl rfl rfl rfl rfl rfl ⟨rfl, rfl, rfl, rfl, rfl⟩ rfl rfl rfl rfl rfl (by kernel_rfl) Tryz.func3 (by kernel_rfl)
    (of_decide_eq_true (by kernel_rfl)) (by unfold Func.isWrapper; first | (rw [if_pos (by decide +kernel)]; kernel_rfl) | (rw [if_neg (by decide +kernel)]; exact ⟨rfl, rfl⟩))
    (fun os started H enc _ F => by rw [OpenClaim.pre_eq_preRow]; exact lifted os started H enc F)
end Go.Proofs.YtcmcapcagblafaaGreat.IndexLive
namespace Go.Proofs.YtcmcapcagblafaaGreat
theorem indexLive_holds : Rows.IndexLiveSaid := IndexLive.said
end Go.Proofs.YtcmcapcagblafaaGreat
