/-
  PROVED: for every two slices of records that a call of stemmalaw17.IndexJoins is handed, the call returns true and the slices read afterwards as they read before: what is live of two lists is what is live of either one. CONDITIONS: none; no input is left out.
-/
import Derived.Test.YtcmcapcagblafaaXM
import Derived.Test.YtcmcapcagblafaaQH
import Derived.Test.YtcmcapcagblafaaXG
import Derived.Test.YtcmcapcagblafaaXQ
namespace Go.Proofs.Ytcmcapcagblafaa
open Go.RowKit Go.Maps Dsk
attribute [local go_sem] Oper.semAt_some
/-- The changes of all records, one behind the other. -/
def chs (X : List Rx) : List H := (X.map (·.l)).flatten
theorem chs_next {X : List Rx} {i : Nat} {x : Rx} (h : X[i]? = some x) : chs (X.take (i + 1)) = chs (X.take i) ++ x.l := by
  unfold chs; rw [List.take_add_one, h]; simp
theorem chs_app (X Y : List Rx) : chs (X ++ Y) = chs X ++ chs Y := by simp [chs]
theorem chs_le (X : List Rx) (i : Nat) : (chs (X.take i)).length ≤ (chs X).length := by
  have h : chs X = chs (X.take i) ++ chs (X.drop i) := by rw [← chs_app, List.take_append_drop]
  rw [h, List.length_append]; omega
theorem chs_32 {W : World} {a : Option Addr} {X : List Rx} (h : RsAt W a X) : All32 (chs X) := fun y hy => by
  obtain ⟨l, hl, hy2⟩ := List.mem_flatten.1 hy
  obtain ⟨x, hx, rfl⟩ := List.mem_map.1 hl
  exact (h.each x hx).l32 y hy2
theorem chs_few : ∀ {X : List Rx}, prts X ≤ 600 → (chs X).length ≤ prts X
  | [], _ => Nat.zero_le _
  | x :: X, h => by
    have e : prts (x :: X) = prt x + prts X := by simp [prts]
    have e2 : chs (x :: X) = x.l ++ chs X := by simp [chs]
    rw [e] at h
    have h1 := chs_few (X := X) (by omega)
    rw [e, e2, List.length_append]
    have : x.l.length ≤ prt x := by
      have hp : prt x ≤ 600 := by omega
      unfold prt at hp ⊢
      omega
    omega
/-- What the loop keeps. -/
def LvI (w : World) (X : List Rx) (i : Nat) (v : Value) (wr : World) : Prop := After w wr ∧ OwnL wr w.heap.size 43 32 v (hsL (chs (X.take i)))
def LvT (w : World) (X : List Rx) (N : Nat) (e : Ending) (w' : World) : Prop := ∃ a c k s, e = .returned (.slice a k c) ∧ s.length = k ∧ k ≤ N ∧ HsAt w' a s ∧ All32 s ∧ Up s ∧ (∀ h, h ∈ s ↔ h ∈ chs X) ∧ After w w'
set_option maxRecDepth 100000 in
set_option maxHeartbeats 12800000 in
theorem live17 {la : Option Addr} {ca n : Nat} {X : List Rx} (hl : X.length = n) (hn : n ≤ 100000) {N : Nat} (hN : (chs X).length ≤ N) (hbig : N ≤ 100000) {w : World} (hA : RsAt w la X) : Calls Try.prog 17 #[.slice la n ca] w (LvT w X N) := by
  have HL : Hid (RsAt w la X ∧ X.length = n ∧ (chs X).length ≤ N ∧ N ≤ 100000) := ⟨hA, hl, hN, hbig⟩
  clear hA hl hN hbig
  go_enter Try.func17, Try.ntmps17
  go_wp2
  go_loopw [3, 8] (fun v iv wr => ∃ (i m c : Nat) (a : Option Addr), i ≤ n ∧ v = .slice a m c ∧ iv = .int .i64 (i : Int) ∧ Hid (LvI w X i (.slice a m c) wr ∧ (chs (X.take i)).length = m)) (fun _ iv _ => n - (intOf iv).toNat)
  case atStart => exact ⟨0, 0, 0, none, Nat.zero_le _, rfl, rfl, ⟨After.refl w, by simp only [List.take_zero]; exact OwnL.nil _ _ _ _⟩, by simp [chs]⟩
  case round =>
    obtain ⟨i, m, c, a, hin, rfl, rfl, HP⟩ := hrel
    by_cases hlt : i < n
    · have hii : (i : Int) < (n : Int) := by omega
      have HLT : Hid (i < n) := hlt
      obtain ⟨x, hx⟩ : ∃ x, X[i]? = some x := ⟨_, List.getElem?_eq_getElem (by rw [HL.out.2.1]; exact hlt)⟩
      have hxb := HL.out.1.each x (List.mem_of_getElem? hx)
      obtain ⟨xb, xo, hla, hlr⟩ := HL.out.1.sl.at (rs_get hx)
      subst hla
      have HX : Hid (wr.rangeAt xb (xo + i * 3) (rxc x)) := range_after hlr HP.out.1.1
      obtain ⟨k, hk⟩ : ∃ k, x.X.length = k := ⟨_, rfl⟩
      obtain ⟨p, hp⟩ : ∃ p, x.l.length = p := ⟨_, rfl⟩
      obtain ⟨w2, hw2⟩ : ∃ w2, (wr.alloc (.cells (rxc zrx).toArray 41)).setRow wr.heap.size (rxc x).toArray = w2 := ⟨_, rfl⟩
      have hbb := put41 hw2
      obtain ⟨gb, hgb⟩ : ∃ gb, wr.heap.size = gb := ⟨_, rfl⟩
      have HB := show Hid _ from hbb
      have HGW := show Hid _ from hw2
      rw [hgb] at HB HGW
      have HGA := show Hid (wr.heap.size = gb) from hgb
      have hb' := HB.out.2.1
      unfold rxc at hb'
      rw [hk, hp] at hb'
      have hA2 : After w w2 := HP.out.1.1.trans HB.out.2.2
      have hcn := chs_next hx
      have hcl := chs_le X (i + 1)
      have hlen : (hsL (chs (X.take i))).length = m := by rw [hs_len]; exact HP.out.2
      have o2 : OwnL w2 w.heap.size 43 32 (.slice a m c) (hsL (chs (X.take i))) := HP.out.1.2.same (fun b e => HB.out.2.2.block b (own_lt HP.out.1.2.2 e).2.1)
      obtain ⟨q, hq, hz0⟩ := Option.map_eq_some_iff.1 info50
      simp only [Prod.mk.injEq] at hz0
      obtain ⟨hz1, hz2, hz3⟩ := hz0
      have hmp : m + p = (chs (X.take (i + 1))).length := by rw [hcn, List.length_append, hp, HP.out.2]
      have hmp2 : m + p ≤ 100000 := by have := HL.out.2.2; omega
      obtain ⟨va, vc, w6, r1, r2, r3, _⟩ := run_appL (t := 39) 39 43 32 32 Try.underlying39 hq hz1 hz2 hz3 (by simp [Value.cells]) (by omega) o2 (N := hsL x.l) (a := x.a) (m := p) (c := x.c) (by rw [hs_len, hp]) (hxb.sl.after hA2) (hs_one _) (by rw [hlen]; unfold maxLen; omega) (by rw [hlen]; omega) hA2.size (fun _ e => hxb.zC e)
      rw [hlen] at r1 r2
      have HR6 : Hid ((Builtin.append_ #[39, 39] 39 #[.slice a m c, .slice x.a p x.c]).run Try.prog w2 = .ok (.slice va (m + p) vc) w6) := r1
      have HN6 : Hid (LvI w X (i + 1) (.slice va (m + p) vc) w6 ∧ (chs (X.take (i + 1))).length = m + p) := ⟨⟨after_grown hA2 r3 (Nat.le_refl _) (fun j hj => (own_lt o2.2 hj).1), by
        rw [hcn]; unfold hsL at r2 ⊢; rw [List.map_append]; exact r2⟩, hmp.symm⟩
      have d2 : w2.cell? ⟨gb, 2, none⟩ = some (.slice x.a p x.c) := (show RowIs w2 gb 41 [.string (strOf x.nm), .slice x.ba k x.bc, .slice x.a p x.c] from hb').cell (j := 2) rfl
      clear hx hxb hlr hk hp hw2 hbb hgb hb' hA2 hcn hcl hlen o2 hq hz1 hz2 hz3 hmp hmp2 r1 r2 r3
      go_wp2_with (first
        | (refine wpList_of_run rfl (x_ix22 (x := .tmp 6) (y := .tmp 8) (b := xb) (f := xo) (n := n) (c := ca) (i := i) rfl (by kernel_rfl) (by kernel_rfl) HLT.out) ?_)
        | (refine wpList_of_run rfl (x_ld41 (x := .tmp 10) (g := xb) (p := xo + i * 3) (y := x) rfl (by kernel_rfl) HX.out) ?_)
        | (refine wpList_of_run rfl (x_al41 rfl) ?_; rw [HGA.out])
        | (refine wpList_store_row rfl 41 (.tmp 5) (.tmp 11) rfl gb (rxc x).toArray (by kernel_rfl) (by kernel_rfl) 41 _ HB.out.1 (size41 x) rfl (by simpa using rs_one [x] (rxc x) (by simp [rsL])) ?_; rw [HGW.out])
        | (refine wpList_of_run rfl (x_app (t := 39) (s := .tmp 12) (x := .tmp 14) rfl rfl rfl HR6.out) ?_))
      go_roundw
      case rel => exact ⟨i + 1, m + p, vc, va, by omega, rfl, by go_num, HN6⟩
      case measure => simp [intOf]; omega
    · have hii : ¬ (i : Int) < (n : Int) := by omega
      have hall : X.take i = X := List.take_of_length_le (by rw [HL.out.2.1]; omega)
      have ho := HP.out.1.2
      have hm := HP.out.2
      rw [hall] at ho hm
      have h32 := chs_32 HL.out.1
      have hat : HsAt wr a (chs X) := by
        obtain ⟨a9, c9, e9, h9⟩ := ho.sl
        rw [hs_len, hm] at e9
        injection e9 with e1 _ _
        subst e1
        exact h9.hs h32
      have HS : Hid (Calls Try.prog 36 #[.slice a m c] wr fun e w' => ∃ v s, e = .returned v ∧ OwnH w' wr.heap.size v s ∧ All32 s ∧ Up s ∧ (∀ h, h ∈ s ↔ h ∈ chs X) ∧ s.length ≤ m ∧ After wr w') := sort12 sokM a c (chs X) h32 m hm (by have := HL.out.2.2; omega) (by have := HL.out.2.2; omega) wr hat
      have HM : Hid (m ≤ N ∧ After w wr) := ⟨by have := HL.out.2.2.1; omega, HP.out.1.1⟩
      clear ho hm hall h32 hat
      go_wp2_with (go_at_call 36; refine Calls.mono HS.out ?_; rintro e w3 ⟨v, s, rfl, h1, h2, h3, h4, h5, h6⟩
                   obtain ⟨a3, c3, rfl, hat3, _⟩ := h1.at
                   obtain ⟨k3, hk3⟩ : ∃ k3, s.length = k3 := ⟨_, rfl⟩
                   rw [hk3]
                   have H3 : Hid (HsAt w3 a3 s ∧ All32 s ∧ Up s ∧ (∀ h, h ∈ s ↔ h ∈ chs X) ∧ s.length = k3 ∧ k3 ≤ N ∧ After w w3) := ⟨hat3, h2, h3, h4, hk3, by have := HM.out.1; omega, HM.out.2.trans h6⟩
                   clear h1 h2 h3 h4 h5 h6 hat3 hk3)
      refine bodyPost_ret (v := .slice a3 k3 c3) (by simp [results, Try.results17, go_sem]) rfl ⟨a3, c3, k3, s, rfl, H3.out.2.2.2.2.1, H3.out.2.2.2.2.2.1, H3.out.1, H3.out.2.1, H3.out.2.2.1, H3.out.2.2.2.1, H3.out.2.2.2.2.2.2⟩
end Go.Proofs.Ytcmcapcagblafaa

namespace Go.Proofs.Ytcmcapcagblafaa
open Go.RowKit Go.Maps Dsk Leb
attribute [local go_sem] Oper.semAt_some
def GaB (w : World) (g m : Nat) (t : List UInt8) (e1 i : Nat) (v : Value) (bs' : List UInt8) (e' : Nat) (wr : World) : Prop := ∃ X : List Bx, X.length = i ∧ (∀ y ∈ X, y.nm.length ≤ 32 ∧ y.l.length ≤ 16) ∧ OwnB wr w.heap.size v X ∧ Stp (pMany pBr i) t e1 (bof X) bs' e' ∧ RdS wr g m bs' e' ∧ But g w wr
def GbT (w : World) (g m : Nat) (bs : List UInt8) (e most : Nat) (x : Ending) (w' : World) : Prop := ∃ a c k X bs' e', x = .returned (.slice a k c) ∧ X.length = k ∧ (∀ y ∈ X, y.nm.length ≤ 32 ∧ y.l.length ≤ 16) ∧ k ≤ most ∧ OwnB w' w.heap.size (.slice a k c) X ∧ Stp (pL most pBr) bs e (bof X) bs' e' ∧ RdS w' g m bs' e' ∧ But g w w'
theorem BrG.at {w w' : World} {g m : Nat} {bs bs' : List UInt8} {e e' : Nat} {y : Bx} (h : BrG w g m bs e y bs' e' w') : BxAt w' y ∧ ∀ ad, y.a = some ad → w.heap.size ≤ ad.block ∧ ad.block < w'.heap.size ∧ RwAt w' ad := by
  obtain ⟨a0, c0, e0, hs⟩ := h.own.sl
  rw [hs_len] at e0
  unfold Bx.v at e0
  injection e0 with e1 _ e3
  have hz : y.a = none → y.c = 0 := fun e => by
    rcases own_row h.own.2 with ⟨h1, _⟩ | ⟨g1, cap, cs, h1, _⟩
    · unfold Bx.v at h1; injection h1
    · unfold Bx.v at h1; rw [e] at h1; injection h1 with h2; cases h2
  refine ⟨⟨by rw [e1]; exact hs, h.l32, hz, by have := h.few; omega⟩, fun ad ha => ?_⟩
  rcases own_row h.own.2 with ⟨h1, _⟩ | ⟨g1, cap, cs, h1, h2, h3, _⟩
  · unfold Bx.v at h1; rw [ha] at h1; injection h1 with h2; cases h2
  · unfold Bx.v at h1; rw [ha] at h1; injection h1 with h4
    cases h4
    exact ⟨h2, h3.lt, rfl, rfl, cs, h3⟩
theorem OwnB.val {w : World} {base : Nat} {v : Value} {X : List Bx} (h : OwnB w base v X) {n : Nat} (hn : X.length = n) : ∃ a c, v = .slice a n c ∧ (a = none → c = 0) := h.row.val (by rw [bs_len]; exact hn)
theorem gaB_step {w w3 : World} {g m : Nat} {t : List UInt8} {e1 i : Nat} {v : Value} {b1 b2 : List UInt8} {e2 : Nat} {wr : World} {y : Bx} (hgm : m ≤ w.heap.size) (h : GaB w g m t e1 i v b1 0 wr) (hk : BrG wr g m b1 0 y b2 e2 w3) (hi : (i + 1) * 40 ≤ 140737488355328) :
    ∃ a c va vc w6, v = .slice a i c ∧ (Builtin.append_ #[38, 38] 38 #[.slice a i c, .slice (some ⟨w3.heap.size, 0, none⟩) 1 1]).run Try.prog (w3.alloc (.cells (brc y).toArray 65)) = .ok (.slice va (i + 1) vc) w6 ∧ GaB w g m t e1 (i + 1) (.slice va (i + 1) vc) b2 e2 w6 := by
  obtain ⟨X, h1, h2, h3, h4, h5, h6⟩ := h
  obtain ⟨a, c, rfl, _⟩ := h3.val h1
  obtain ⟨hy1, hy2⟩ := hk.at
  have hg : g < w.heap.size := Nat.lt_of_lt_of_le h5.gm hgm
  have hs6 := h6.size
  have hsb := hk.but.size
  have o2 := h3.but hk.but hg
  have o3 := o2.after (after_alloc (After.refl w3) (.cells (brc y).toArray 65))
  obtain ⟨va, vc, w6, r1, r2, r3, r4⟩ := run_appB 38 o3 (Y := [y]) (m := 1) (c := 1) rfl hy1.box (by omega) (by simp; omega) (fun e => by cases e)
  rw [h1] at r1 r2 r4
  refine ⟨a, c, va, vc, w6, rfl, r1, X ++ [y], by simp [h1], fun z hz => ?_, o3.grow (fun z hz => ?_) r2 r3 r4, ?_, (hk.rd.after (after_alloc (After.refl w3) _)).grown r3 (fun b e => by have := (own_lt o3.row.2 e).1; omega), ?_⟩
  · rcases List.mem_append.1 hz with hz | hz
    · exact h2 z hz
    · rw [List.mem_singleton.1 hz]; exact ⟨hk.nm, hk.few⟩
  · rw [List.mem_singleton.1 hz]
    refine ⟨hy1.after (after_alloc (After.refl w3) _), fun ad e => ?_⟩
    obtain ⟨q1, q2, q3⟩ := hy2 ad e
    refine ⟨by omega, by simp; omega, fun e' => ?_, q3.same (Below.heap_alloc w3 _ _ q2)⟩
    have := (own_lt h3.row.2 e').2.1
    omega
  · rw [bof_snoc]; exact h4.succ hk.stp
  · have hA := (h6.trans hk.but).trans (But.of_below (after_alloc (After.refl w3) (.cells (brc y).toArray 65)))
    refine ⟨r3.os.trans hA.os, r3.tape.trans hA.tape, r3.output.trans hA.output, Nat.le_trans hA.size r3.size, fun k hk' hne => ?_⟩
    rw [r3.block k (Nat.lt_of_lt_of_le hk' hA.size) (fun e => by have := (own_lt o3.row.2 e.symm).1; omega)]
    exact hA.block k hk' hne
set_option maxRecDepth 100000 in
set_option maxHeartbeats 6400000 in
theorem gather56 {w : World} {g m p0 : Nat} {bs : List UInt8} {e : Nat} (h : RdS w g m bs e) (hc : w.cell? ⟨p0, 0, none⟩ = some (.pointer (some ⟨g, 0, none⟩))) (hpg : p0 ≠ g) : Calls Try.prog 56 #[.pointer (some ⟨g, 0, none⟩), .int .u64 64, .func (.func 57) #[] #[.pointer (some ⟨p0, 0, none⟩)]] w (GbT w g m bs e 64) := by
  have HR : Hid (RdS w g m bs e ∧ w.cell? ⟨p0, 0, none⟩ = some (.pointer (some ⟨g, 0, none⟩)) ∧ p0 ≠ g) := ⟨h, hc, hpg⟩
  clear h hc hpg
  go_enter Try.func56, Try.ntmps56
  go_wp2_with (go_at_call 73; refine (uint73 64 HR.out.1).mono ?_; rintro x w1 ⟨n, t, e1, rfl, hn, hs, hr, hb⟩
               have H1 : Hid (n ≤ 64 ∧ Stp (pN 64) bs e n t e1 ∧ RdS w1 g m t e1 ∧ But g w w1) := ⟨hn, hs, hr, hb⟩
               clear hn hs hr hb)
  have hn63 : n < 9223372036854775808 := by have := H1.out.1; omega
  go_loopw [7, 11] (fun v iv wr => ∃ (i : Nat) (b' : List UInt8) (e' : Nat), i ≤ n ∧ iv = .int .u64 (i : Int) ∧ Hid (GaB w g m t e1 i v b' e' wr)) (fun _ iv _ => n - (intOf iv).toNat)
  case atStart => exact ⟨0, t, e1, Nat.zero_le _, rfl, [], rfl, fun y hy => (by cases hy), OwnB.nil _ _, Stp.zero t e1, H1.out.2.2.1, H1.out.2.2.2⟩
  case round =>
    obtain ⟨i, b', e', hin, rfl, HI⟩ := hrel
    obtain ⟨v, rfl⟩ : ∃ v, v = u7 := ⟨_, rfl⟩
    by_cases hlt : i < n
    · have hii : (i : Int) < (n : Int) := by omega
      have hib : (i + 1) * 40 ≤ 140737488355328 := by have := H1.out.1; omega
      have hi63 : i + 1 < 9223372036854775808 := by omega
      have HE60 : Hid (Calls Try.prog 60 #[.pointer (some ⟨g, 0, none⟩)] wr fun x w' => x = .returned (.int .i64 (e' : Int)) ∧ w' = wr) := by
        obtain ⟨l, _, _, _, _, h5, _⟩ := HI.out
        exact err60 h5
      have HIB : Hid ((i + 1) * 40 ≤ 140737488355328) := hib
      clear hib
      by_cases he : e' = 0
      · subst he
        have HH : Hid (Calls Try.prog 57 #[.pointer (some ⟨p0, 0, none⟩)] wr (BrT wr g m b' 0)) := by
          obtain ⟨l, _, _, _, _, h5, h6⟩ := HI.out
          exact clo57 h5 (h6.cell HR.out.2.2 HR.out.2.1) HR.out.2.2
        go_wp2_with (first
          | (go_at_call 60; refine Calls.mono HE60.out ?_; rintro x w9 ⟨rfl, hw9⟩; rw [hw9]; clear hw9 w9)
          | (go_at_call 57; refine Calls.mono HH.out ?_; rintro x w3 ⟨y, b2, e2, rfl, hy⟩
             obtain ⟨a, c, va, vc, w6, hv, hr6, hg6⟩ := gaB_step HR.out.1.mw HI.out hy HIB.out
             subst hv
             have H6 : Hid (GaB w g m t e1 (i + 1) (.slice va (i + 1) vc) b2 e2 w6) := hg6
             have H6R : Hid ((Builtin.append_ #[38, 38] 38 #[.slice a i c, .slice (some ⟨w3.heap.size, 0, none⟩) 1 1]).run Try.prog (w3.alloc (.cells (brc y).toArray 65)) = .ok (.slice va (i + 1) vc) w6) := hr6
             clear hy hr6 hg6)
          | (refine wpList_of_run rfl (x_bs25 (x := .tmp 18) (u := .string (strOf y.nm)) (v := y.v) rfl rfl) ?_)
          | (refine wpList_of_run rfl (x_app (t := 38) (s := .tmp 16) (x := .tmp 19) rfl rfl rfl H6R.out) ?_))
        go_roundw
        case rel => exact ⟨i + 1, b2, e2, by omega, by go_num, H6⟩
        case measure => simp [intOf]; omega
      · have hne : ¬ (e' : Int) = 0 := by omega
        have HF : Hid (GaB w g m t e1 i v b' e' wr ∧ e' ≠ 0 ∧ i ≤ n) := ⟨HI.out, he, hin⟩
        go_wp2_with (go_at_call 60; refine Calls.mono HE60.out ?_; rintro x w9 ⟨rfl, hw9⟩; rw [hw9]; clear hw9 w9)
        go_ret
        obtain ⟨⟨l, h1, h2, h3, h4, h5, h6⟩, h7, h8⟩ := HF.out
        obtain ⟨a, c, rfl, _⟩ := h3.val h1
        exact ⟨a, c, i, l, b', e', rfl, h1, h2, Nat.le_trans h8 H1.out.1, h3, H1.out.2.1.list h4 (.inr ⟨h7, h8⟩), h5, h6⟩
    · have hii : ¬ (i : Int) < (n : Int) := by omega
      have HF : Hid (GaB w g m t e1 i v b' e' wr ∧ i = n) := ⟨HI.out, by omega⟩
      go_wp2
      go_ret
      obtain ⟨⟨l, h1, h2, h3, h4, h5, h6⟩, h7⟩ := HF.out
      obtain ⟨a, c, rfl, _⟩ := h3.val h1
      exact ⟨a, c, i, l, b', e', rfl, h1, h2, by have := H1.out.1; omega, h3, H1.out.2.1.list h4 (.inl h7), h5, h6⟩
end Go.Proofs.Ytcmcapcagblafaa

namespace Go.Proofs.Ytcmcapcagblafaa
open Go.RowKit Go.Maps Dsk Leb
attribute [local go_sem] Oper.semAt_some
theorem pRc_eq : pRc = fun b => (pT 32 b).bind fun r => ((fun b => (pL 64 pBr b).bind fun q => (pHs 4096 q.2).map fun s => ((q.1, s.1), s.2)) r.2).map fun s => ((r.1, s.1), s.2) := by
  funext b
  unfold pRc
  cases pT 32 b with
  | none => rfl
  | some r =>
    simp only [Option.bind_some]
    cases pL 64 pBr r.2 with
    | none => rfl
    | some q =>
      simp only [Option.bind_some]
      cases pHs 4096 q.2 <;> rfl
theorem Stp.three {bs b1 b2 b3 : List UInt8} {e e1 e2 e3 : Nat} {s : Dsk.Nm} {S : Tb} {l : List H} (h1 : Stp (pT 32) bs e s b1 e1) (h2 : Stp (pL 64 pBr) b1 e1 S b2 e2) (h3 : Stp (pHs 4096) b2 e2 l b3 e3) : Stp pRc bs e (s, (S, l)) b3 e3 := by
  rw [pRc_eq]
  exact h1.two (h2.two h3)
/-- A record of one's own: how great it is. -/
structure RxFit (x : Rx) : Prop where
  nm : x.nm.length ≤ maxLen
  few : x.l.length * 32 ≤ 140737488355328
  l32 : All32 x.l
  fewB : x.X.length * 40 ≤ 140737488355328
  bnm : ∀ y ∈ x.X, y.nm.length ≤ maxLen
structure RxO (W : World) (B : Nat) (x : Rx) : Prop where
  fit : RxFit x
  own : OwnL W B 43 32 (.slice x.a x.l.length x.c) (hsL x.l)
  ownB : OwnB W B (.slice x.ba x.X.length x.bc) x.X
theorem RxO.keep {W W' : World} {B : Nat} {x : Rx} (h : RxO W B x) (hs : W.heap.size ≤ W'.heap.size) (hk : ∀ b t cs, B ≤ b → RowIs W b t cs → t = 65 ∨ t = 43 → W'.heap[b]? = W.heap[b]?) : RxO W' B x :=
  ⟨h.fit, h.own.same (fun b e => by obtain ⟨h1, _, cs, h3⟩ := own_lt h.own.2 e; exact hk b 43 cs h1 h3 (.inr rfl)), h.ownB.keep hs hk⟩
theorem RxO.lower {W : World} {B B' : Nat} {x : Rx} (h : RxO W B x) (hb : B' ≤ B) : RxO W B' x :=
  ⟨h.fit, h.own.lower hb, ⟨h.ownB.row.lower hb, h.ownB.each, fun y hy ad e => by obtain ⟨h1, h2, h3, h4⟩ := h.ownB.ge y hy ad e; exact ⟨by omega, h2, h3, h4⟩⟩⟩
theorem RxO.at' {W : World} {B : Nat} {x : Rx} (h : RxO W B x) : RxAt W x := by
  obtain ⟨a0, c0, e0, hs⟩ := h.own.sl
  rw [hs_len] at e0
  injection e0 with e1 _ e3
  obtain ⟨a1, c1, e4, hb⟩ := h.ownB.at
  injection e4 with e5 _ e6
  have hz : x.a = none → x.c = 0 := fun e => by
    rcases own_row h.own.2 with ⟨h1, _⟩ | ⟨g1, cap, cs, h1, _⟩
    · injection h1
    · rw [e] at h1; injection h1 with h2; cases h2
  have hzb : x.ba = none → x.bc = 0 := fun e => by
    rcases own_row h.ownB.row.2 with ⟨h1, _⟩ | ⟨g1, cap, cs, h1, _⟩
    · injection h1
    · rw [e] at h1; injection h1 with h2; cases h2
  exact ⟨by rw [e5]; exact hb, by rw [e1]; exact hs, h.fit.l32, h.fit.nm, h.fit.bnm, h.fit.fewB, h.fit.few, hzb, hz⟩
structure RcG (w : World) (g m : Nat) (bs : List UInt8) (e : Nat) (x : Rx) (bs' : List UInt8) (e' : Nat) (w' : World) : Prop where
  own : RxO w' w.heap.size x
  stp : Stp pRc bs e (rof x) bs' e'
  rd : RdS w' g m bs' e'
  but : But g w w'
def RcT (w : World) (g m : Nat) (bs : List UInt8) (e : Nat) (z : Ending) (w' : World) : Prop := ∃ x bs' e', z = .returned (.agg (rxc x).toArray) ∧ RcG w g m bs e x bs' e' w'
/-- A store into the record that grows. -/
theorem but_cell {g : Nat} {w w1 : World} (h : But g w w1) {g0 : Nat} (hg : w.heap.size = g0) (j : Nat) (v : Value) {p0 : Nat} {u : Value} (hp : p0 < g0) (hc : w1.cell? ⟨p0, 0, none⟩ = some u) : But g w (w1.setCell ⟨g0, j, none⟩ v) ∧ (w1.setCell ⟨g0, j, none⟩ v).cell? ⟨p0, 0, none⟩ = some u := by
  refine ⟨h.setNew (by rw [hg]; exact Nat.le_refl _) v, ?_⟩
  rw [World.cell?_of_block (w := w1) (show (w1.setCell ⟨g0, j, none⟩ v).heap[(⟨p0, 0, none⟩ : Addr).block]? = w1.heap[(⟨p0, 0, none⟩ : Addr).block]? from heap_setCell_other w1 _ p0 _ (by simp only; omega))]
  exact hc
theorem OwnB.cellR {w : World} {B g0 j : Nat} {u v : Value} {X : List Bx} {cs : List Value} (h : OwnB w B v X) (hr : RowIs w g0 41 cs) : OwnB (w.setCell ⟨g0, j, none⟩ u) B v X :=
  h.keep (by simp) (fun b t ds _ h2 ht => heap_setCell_other w _ b _ (fun e => by
    simp only at e
    subst e
    have := (hr.ty h2).1
    rcases ht with rfl | rfl <;> exact absurd this (by decide)))
theorem OwnL.cell43 {w : World} {B g0 j : Nat} {u v : Value} {L : List (List Value)} {cs : List Value} (h : OwnL w B 43 32 v L) (hr : RowIs w g0 41 cs) : OwnL (w.setCell ⟨g0, j, none⟩ u) B 43 32 v L :=
  h.same (fun b e => heap_setCell_other w _ b _ (fun e1 => by
    obtain ⟨_, _, ds, h2⟩ := own_lt h.2 e
    simp only at e1
    subst e1
    exact absurd (hr.ty h2).1 (by decide)))
theorem RcG.row {w w' : World} {g m g0 : Nat} {bs bs' : List UInt8} {e e' : Nat} {x : Rx} (h : RcG w g m bs e x bs' e' w') (hm : m ≤ g0) (hg : w.heap.size ≤ g0) {cs : List Value} (hr : RowIs w' g0 41 cs) (ds : Array Value) : RcG w g m bs e x bs' e' (w'.setRow g0 ds) :=
  ⟨h.own.keep (by simp) (fun b t cs' _ h2 ht => setRow_other w' g0 b ds (fun e1 => by
    subst e1
    have := (hr.ty h2).1
    rcases ht with rfl | rfl <;> exact absurd this (by decide))), h.stp, h.rd.keep (fun b hb => setRow_other w' g0 b ds (by omega)) (by simp), ⟨h.but.os, h.but.tape, h.but.output, by have := h.but.size; simpa using this, fun k hk hne => by rw [setRow_other w' g0 k ds (by omega)]; exact h.but.block k hk hne⟩⟩
set_option maxRecDepth 100000 in
set_option maxHeartbeats 6400000 in
theorem clo54 {w : World} {g m p0 : Nat} {bs : List UInt8} {e : Nat} (h : RdS w g m bs e) (hc : w.cell? ⟨p0, 0, none⟩ = some (.pointer (some ⟨g, 0, none⟩))) (hpg : p0 ≠ g) : Calls Try.prog 54 #[.pointer (some ⟨p0, 0, none⟩)] w (RcT w g m bs e) := by
  obtain ⟨g0, hg0⟩ : ∃ g0, w.heap.size = g0 := ⟨_, rfl⟩
  obtain ⟨W0, hW0⟩ : ∃ W0, w.alloc (.cells #[.string (strOf []), .slice none 0 0, .slice none 0 0] 41) = W0 := ⟨_, rfl⟩
  have hA : After w W0 := by rw [← hW0]; exact after_alloc (After.refl w) _
  have HR0 : Hid (RowIs W0 g0 41 [.string (strOf []), .slice none 0 0, .slice none 0 0] ∧ After w W0 ∧ RdS W0 g m bs e) := by refine ⟨?_, hA, h.after hA⟩; rw [← hW0, ← hg0]; exact RowIs.new w 41 _
  have hp0 : p0 < w.heap.size := World.block_lt_of_cell? w _ hc
  have HPG : Hid (p0 ≠ g ∧ p0 < g0 ∧ g < g0 ∧ m ≤ g0 ∧ w.heap.size = g0 ∧ g0 ≠ g) := ⟨hpg, by omega, by have := h.gm; have := h.mw; omega, by have := h.mw; omega, hg0, by have := h.gm; have := h.mw; omega⟩
  have HC0 : Hid (W0.cell? ⟨p0, 0, none⟩ = some (.pointer (some ⟨g, 0, none⟩))) := cell_at hA hc
  have c0 := HC0.out
  have HAL : Hid ((w.alloc (.cells (rxc zrx).toArray 41)) = W0) := hW0
  clear h hc hpg hp0 hA hW0
  go_enter Try.func54, Try.ntmps54
  go_wp2_with (first
    | (refine wpList_of_run rfl (x_al41 rfl) ?_; rw [HAL.out]; rw [HPG.out.2.2.2.2.1])
    | (go_at_call 55; refine (text55 HR0.out.2.2).mono ?_; rintro x w1 ⟨s, b1, e1, rfl, hs, hst, hr, hb⟩
       have hrow := hb.row HR0.out.1 HPG.out.2.2.2.2.2
       have f0 := hrow.frozen 0
       have f1 := hrow.cell (j := 0) rfl
       obtain ⟨w2, hw2⟩ : ∃ w2, w1.setCell ⟨g0, 0, none⟩ (.string (strOf s)) = w2 := ⟨_, rfl⟩
       have H2 : Hid (RowIs w2 g0 41 [.string (strOf s), .slice none 0 0, .slice none 0 0] ∧ RdS w2 g m b1 e1 ∧ But g w w2 ∧ w2.cell? ⟨p0, 0, none⟩ = some (.pointer (some ⟨g, 0, none⟩)) ∧ Stp (pT 32) bs e s b1 e1 ∧ s.length ≤ 32) := by
         obtain ⟨k1, k2⟩ := but_cell (g0 := g0) ((But.of_below HR0.out.2.1).trans hb) HPG.out.2.2.2.2.1 0 (.string (strOf s)) HPG.out.2.1 (hb.cell (p := ⟨p0, 0, none⟩) HPG.out.1 HC0.out)
         rw [← hw2]
         exact ⟨RowIs.set hrow 0 _, hr.setNew (HPG.out.2.2.2.1) _, k1, k2, hst, hs⟩
       have HW2 : Hid (w1.setCell ⟨g0, 0, none⟩ (.string (strOf s)) = w2) := hw2
       have d0 := H2.out.2.2.2.1
       clear hs hst hr hb hw2 hrow)
    | (rw [HW2.out])
    | (go_at_call 56; refine (gather56 (p0 := p0) H2.out.2.1 H2.out.2.2.2.1 HPG.out.1).mono ?_; rintro x w3 ⟨ba, bc, k, X, b2, e2, rfl, hXk, hXf, hk64, ho, hst, hr, hb⟩
       have hrow := hb.row H2.out.1 HPG.out.2.2.2.2.2
       have f2 := hrow.frozen 1
       have f3 := hrow.cell (j := 1) rfl
       obtain ⟨w4, hw4⟩ : ∃ w4, w3.setCell ⟨g0, 1, none⟩ (.slice ba k bc) = w4 := ⟨_, rfl⟩
       have H4 : Hid (RowIs w4 g0 41 [.string (strOf s), .slice ba k bc, .slice none 0 0] ∧ RdS w4 g m b2 e2 ∧ But g w w4 ∧ w4.cell? ⟨p0, 0, none⟩ = some (.pointer (some ⟨g, 0, none⟩)) ∧ Stp (pL 64 pBr) b1 e1 (bof X) b2 e2 ∧ OwnB w4 w.heap.size (.slice ba k bc) X ∧ X.length = k ∧ k ≤ 64 ∧ ∀ y ∈ X, y.nm.length ≤ 32) := by
         obtain ⟨k1, k2⟩ := but_cell (g0 := g0) (H2.out.2.2.1.trans hb) HPG.out.2.2.2.2.1 1 (.slice ba k bc) HPG.out.2.1 (hb.cell (p := ⟨p0, 0, none⟩) HPG.out.1 H2.out.2.2.2.1)
         rw [← hw4]
         have hsz := H2.out.2.2.1.size
         have ho2 : OwnB w3 w.heap.size (.slice ba k bc) X := ⟨ho.row.lower hsz, ho.each, fun y hy ad e => by obtain ⟨h1, h2, h3, h4⟩ := ho.ge y hy ad e; exact ⟨by omega, h2, h3, h4⟩⟩
         exact ⟨RowIs.set hrow 1 _, hr.setNew (HPG.out.2.2.2.1) _, k1, k2, hst, ho2.cellR hrow, hXk, hk64, fun y hy => (hXf y hy).1⟩
       have HW4 : Hid (w3.setCell ⟨g0, 1, none⟩ (.slice ba k bc) = w4) := hw4
       have d4 := H4.out.2.2.2.1
       clear hXk hXf hk64 ho hst hr hb hw4 hrow)
    | (rw [HW4.out])
    | (go_at_call 58; refine (gather58 (most := 4096) (by omega) H4.out.2.1).mono ?_; rintro x w5 ⟨a, c, n, l, b3, e3, rfl, hln, h32, hn4, ho, hst, hr, hb⟩
       have hrow := hb.row H4.out.1 HPG.out.2.2.2.2.2
       have f4 := hrow.frozen 2
       have f5 := hrow.cell (j := 2) rfl
       obtain ⟨w6, hw6⟩ : ∃ w6, w5.setCell ⟨g0, 2, none⟩ (.slice a n c) = w6 := ⟨_, rfl⟩
       have H6 : Hid (RowIs w6 g0 41 [.string (strOf s), .slice ba k bc, .slice a n c] ∧ RcG w g m bs e ⟨s, ba, bc, X, a, c, l⟩ b3 e3 w6) := by
         obtain ⟨k1, _⟩ := but_cell (g0 := g0) (H4.out.2.2.1.trans hb) HPG.out.2.2.2.2.1 2 (.slice a n c) HPG.out.2.1 (hb.cell (p := ⟨p0, 0, none⟩) HPG.out.1 H4.out.2.2.2.1)
         rw [← hw6]
         have hsz := H4.out.2.2.1.size
         have hgw : g < w.heap.size := by have := HPG.out; omega
         have ho2 := ((ho.lower hsz).cell43 (j := 2) (u := .slice a n c) hrow)
         have hoB := ((H4.out.2.2.2.2.2.1.but hb hgw).cellR (j := 2) (u := .slice a n c) hrow)
         have hX := H4.out.2.2.2.2.2.2.1
         refine ⟨RowIs.set hrow 2 _, ⟨⟨by have h9 := H2.out.2.2.2.2.2; show s.length ≤ maxLen; unfold maxLen; omega, by show l.length * 32 ≤ _; rw [hln]; omega, h32, by show X.length * 40 ≤ _; rw [hX]; have := H4.out.2.2.2.2.2.2.2.1; omega, fun y hy => (by have h9 := H4.out.2.2.2.2.2.2.2.2 y hy; unfold maxLen; omega)⟩, ?_, ?_⟩, H2.out.2.2.2.2.1.three H4.out.2.2.2.2.1 hst, hr.setNew HPG.out.2.2.2.1 _, k1⟩
         · show OwnL _ _ _ _ (.slice a l.length c) _
           rw [hln]; exact ho2
         · show OwnB _ _ (.slice ba X.length bc) _
           rw [hX]; exact hoB
       have HW6 : Hid (w5.setCell ⟨g0, 2, none⟩ (.slice a n c) = w6) := hw6
       have HAR : Hid ((rxc ⟨s, ba, bc, X, a, c, l⟩).toArray = #[.string (strOf s), .slice ba k bc, .slice a n c]) := by unfold Hid rxc; rw [hln, H4.out.2.2.2.2.2.2.1]
       clear hln h32 hn4 ho hst hr hb hw6 hrow)
    | (rw [HW6.out])
    | (refine wpList_load_row rfl 41 (.tmp 1) rfl g0 rfl 41 (rxc ⟨s, ba, bc, X, a, c, l⟩).toArray (0, 0) _ (by rw [HAR.out]; exact H6.out.1) Try.underlying41 rfl (size41 _) ?_)
    | (refine wpList_store_row rfl 41 (.tmp 1) (.tmp 14) rfl g0 (rxc ⟨s, ba, bc, X, a, c, l⟩).toArray rfl rfl 41 (rxc ⟨s, ba, bc, X, a, c, l⟩).toArray (by rw [HAR.out]; exact H6.out.1) (size41 _) rfl (by simpa using rs_one [⟨s, ba, bc, X, a, c, l⟩] (rxc ⟨s, ba, bc, X, a, c, l⟩) (by simp [rsL])) ?_))
  refine bodyPost_ret (v := .agg (rxc ⟨s, ba, bc, X, a, c, l⟩).toArray) (results_cell_row Try.results54 _ _ g0 41 _ (0, 0) _ rfl (RowIs.setRow H6.out.1 _) Try.underlying41 rfl (size41 _)) rfl ⟨_, _, _, rfl, H6.out.2.row HPG.out.2.2.2.1 (by rw [HPG.out.2.2.2.2.1]; exact Nat.le_refl _) H6.out.1 _⟩
end Go.Proofs.Ytcmcapcagblafaa

namespace Go.Proofs.Ytcmcapcagblafaa
open Go.RowKit Go.Maps Dsk Leb
attribute [local go_sem] Oper.semAt_some
/-- Records of one's own. -/
structure OwnR (W : World) (B : Nat) (v : Value) (X : List Rx) : Prop where
  row : OwnL W B 41 3 v (rsL X)
  each : ∀ x ∈ X, RxO W B x
theorem OwnR.nil (W : World) (B : Nat) : OwnR W B (.slice none 0 0) [] := ⟨OwnL.nil _ _ _ _, fun x h => by simp at h⟩
theorem OwnR.at {W : World} {B : Nat} {v : Value} {X : List Rx} (h : OwnR W B v X) : ∃ a c, v = .slice a X.length c ∧ RsAt W a X := by
  obtain ⟨a, c, e, hs⟩ := h.row.sl
  rw [rs_len] at e
  exact ⟨a, c, e, hs, fun x hx => (h.each x hx).at'⟩
theorem OwnR.keep {w w' : World} {B : Nat} {v : Value} {X : List Rx} (h : OwnR w B v X) (hs : w.heap.size ≤ w'.heap.size) (hk : ∀ b, B ≤ b → b < w.heap.size → w'.heap[b]? = w.heap[b]?) : OwnR w' B v X :=
  ⟨h.row.same (fun b e => by obtain ⟨h1, h2, _⟩ := own_lt h.row.2 e; exact hk b h1 h2), fun x hx => (h.each x hx).keep hs (fun b t cs h1 h2 _ => hk b h1 h2.lt)⟩
theorem OwnR.but {w w' : World} {B g : Nat} {v : Value} {X : List Rx} (h : OwnR w B v X) (hb : But g w w') (hg : g < B) : OwnR w' B v X := h.keep hb.size (fun b h1 h2 => hb.block b h2 (by omega))
theorem OwnR.after {w w' : World} {B : Nat} {v : Value} {X : List Rx} (h : OwnR w B v X) (hb : After w w') : OwnR w' B v X := h.keep hb.size (fun b _ h2 => hb.block b h2)
theorem OwnR.lower {w : World} {B B' : Nat} {v : Value} {X : List Rx} (h : OwnR w B v X) (hb : B' ≤ B) : OwnR w B' v X := ⟨h.row.lower hb, fun x hx => (h.each x hx).lower hb⟩
theorem OwnR.val {w : World} {base : Nat} {v : Value} {X : List Rx} (h : OwnR w base v X) {n : Nat} (hn : X.length = n) : ∃ a c, v = .slice a n c ∧ (a = none → c = 0) := h.row.val (by rw [rs_len]; exact hn)
theorem info41 : (Try.prog.info? 41).map (fun i => (i.zero, i.size, i.bytes)) = some (some (.agg #[.string ⟨#[]⟩, .slice none 0 0, .slice none 0 0]), 3, 64) := by kernel_rfl
theorem rx_box {w : World} {x : Rx} : SlAt (w.alloc (.cells (rxc x).toArray 41)) 3 (some ⟨w.heap.size, 0, none⟩) (rsL [x]) :=
  ⟨uni_rs _, fun _ => ⟨_, _, rfl, fun j u hu => by
    have := (RowIs.new w 41 (rxc x)).cell (j := j) (v := u) (by simpa [rsL] using hu)
    rw [Nat.zero_add]; exact this⟩⟩
/-- A record behind records in a row. -/
theorem run_appR {w : World} {B : Nat} {v : Value} {X Y : List Rx} (ty : TypeId) (h : OwnR w B v X) {a : Option Addr} {m c : Nat} (hm : Y.length = m) (hs : SlAt w 3 a (rsL Y)) (hl : (X.length + m) * 64 ≤ 140737488355328) (hb : B ≤ w.heap.size) (hc : Y = [] → a = none → c = 0) (hY : ∀ y ∈ Y, RxO w B y) :
    ∃ va vc w', (Builtin.append_ #[22, 22] ty #[v, .slice a m c]).run Try.prog w = .ok (.slice va (X.length + m) vc) w' ∧ OwnR w' B (.slice va (X.length + m) vc) (X ++ Y) ∧ w.grownBy w' v.ownBlock := by
  obtain ⟨i, hi, hz⟩ := Option.map_eq_some_iff.1 info41
  simp only [Prod.mk.injEq] at hz
  obtain ⟨hz, hsz, hby⟩ := hz
  have := run_appL (t := 22) ty 41 3 64 Try.underlying22 hi hz hsz hby rfl (by omega) h.row (by rw [rs_len, hm]) hs (rs_one Y) (by rw [rs_len]; unfold maxLen; omega) (by rw [rs_len]; exact hl) hb (fun e => hc (by cases Y with | nil => rfl | cons x Y => simp [rsL] at e))
  rw [rs_len] at this
  obtain ⟨va, vc, w', r1, r2, r3, _⟩ := this
  refine ⟨va, vc, w', r1, ⟨by unfold rsL; rw [List.map_append]; exact r2, fun x hx => ?_⟩, r3⟩
  have hx0 : RxO w B x := by
    rcases List.mem_append.1 hx with hx | hx
    · exact h.each x hx
    · exact hY x hx
  refine hx0.keep r3.size (fun b t cs _ h2 ht => r3.block b h2.lt (fun e => ?_))
  obtain ⟨_, _, cs', h3⟩ := own_lt h.row.2 e.symm
  have := (h2.ty h3).1
  rcases ht with rfl | rfl <;> exact absurd this (by decide)
def GaR (w : World) (g m : Nat) (t : List UInt8) (e1 i : Nat) (v : Value) (bs' : List UInt8) (e' : Nat) (wr : World) : Prop := ∃ X : List Rx, X.length = i ∧ OwnR wr w.heap.size v X ∧ Stp (pMany pRc i) t e1 (rsof X) bs' e' ∧ RdS wr g m bs' e' ∧ But g w wr
def GrT (w : World) (g m : Nat) (bs : List UInt8) (e : Nat) (x : Ending) (w' : World) : Prop := ∃ a c k X bs' e', x = .returned (.slice a k c) ∧ X.length = k ∧ k ≤ 64 ∧ OwnR w' w.heap.size (.slice a k c) X ∧ Stp pIx bs e (rsof X) bs' e' ∧ RdS w' g m bs' e' ∧ But g w w'
theorem rsof_snoc (X : List Rx) (x : Rx) : rsof (X ++ [x]) = rsof X ++ [rof x] := by simp [rsof]
theorem gaR_step {w w3 : World} {g m : Nat} {t : List UInt8} {e1 i : Nat} {v : Value} {b1 b2 : List UInt8} {e2 : Nat} {wr : World} {y : Rx} (hgm : m ≤ w.heap.size) (h : GaR w g m t e1 i v b1 0 wr) (hk : RcG wr g m b1 0 y b2 e2 w3) (hi : (i + 1) * 64 ≤ 140737488355328) :
    ∃ a c va vc w6, v = .slice a i c ∧ (Builtin.append_ #[22, 22] 22 #[.slice a i c, .slice (some ⟨w3.heap.size, 0, none⟩) 1 1]).run Try.prog (w3.alloc (.cells (rxc y).toArray 41)) = .ok (.slice va (i + 1) vc) w6 ∧ GaR w g m t e1 (i + 1) (.slice va (i + 1) vc) b2 e2 w6 := by
  obtain ⟨X, h1, h3, h4, h5, h6⟩ := h
  obtain ⟨a, c, rfl, _⟩ := h3.val h1
  have hg : g < w.heap.size := Nat.lt_of_lt_of_le h5.gm hgm
  have hs6 := h6.size
  have hsb := hk.but.size
  have o2 := h3.but hk.but hg
  have hal : After w3 (w3.alloc (.cells (rxc y).toArray 41)) := after_alloc (After.refl w3) _
  have o3 := o2.after hal
  have oy : RxO (w3.alloc (.cells (rxc y).toArray 41)) w.heap.size y := (hk.own.lower hs6).keep hal.size (fun b t cs _ h2 _ => hal.block b h2.lt)
  obtain ⟨va, vc, w6, r1, r2, r3⟩ := run_appR 22 o3 (Y := [y]) (m := 1) (c := 1) rfl rx_box (by omega) (by simp; omega) (fun e => by cases e) (fun z hz => by rw [List.mem_singleton.1 hz]; exact oy)
  rw [h1] at r1 r2
  refine ⟨a, c, va, vc, w6, rfl, r1, X ++ [y], by simp [h1], r2, by rw [rsof_snoc]; exact h4.succ hk.stp, (hk.rd.after hal).grown r3 (fun b e => by have := (own_lt o3.row.2 e).1; omega), ?_⟩
  have hA := (h6.trans hk.but).trans (But.of_below hal)
  refine ⟨r3.os.trans hA.os, r3.tape.trans hA.tape, r3.output.trans hA.output, Nat.le_trans hA.size r3.size, fun k hk' hne => ?_⟩
  rw [r3.block k (Nat.lt_of_lt_of_le hk' hA.size) (fun e => by have := (own_lt o3.row.2 e.symm).1; omega)]
  exact hA.block k hk' hne
theorem x_bs22r {oi : Oper} {a : Act} {w : World} {x : Operand} {y : Rx} (hop : oi.op = .buildSlice 22 1 #[(0, x)]) (hx : a.eval x = .agg (rxc y).toArray) : (execOp a.eval oi).run Try.prog w = .ok (.value (.slice (some ⟨w.heap.size, 0, none⟩) 1 1)) (w.alloc (.cells (rxc y).toArray 41)) := by
  have hb : ∀ (s : ByteArray) (u v : Value), (Instr.buildSlice 22 1 #[(0, .agg #[.string s, u, v])]).run Try.prog w = .ok (.slice (some ⟨w.heap.size, 0, none⟩) 1 1) (w.alloc (.cells #[.string s, u, v] 41)) := fun s u v => by kernel_rfl
  have hb' := hb (strOf y.nm) (.slice y.ba y.X.length y.bc) (.slice y.a y.l.length y.c)
  unfold execOp
  simp only [hop]
  simp [hx, rxc, hb']
set_option maxRecDepth 100000 in
set_option maxHeartbeats 6400000 in
theorem gather53 {w : World} {g m p0 : Nat} {bs : List UInt8} {e : Nat} (h : RdS w g m bs e) (hc : w.cell? ⟨p0, 0, none⟩ = some (.pointer (some ⟨g, 0, none⟩))) (hpg : p0 ≠ g) : Calls Try.prog 53 #[.pointer (some ⟨g, 0, none⟩), .int .u64 64, .func (.func 54) #[] #[.pointer (some ⟨p0, 0, none⟩)]] w (GrT w g m bs e) := by
  have HR : Hid (RdS w g m bs e ∧ w.cell? ⟨p0, 0, none⟩ = some (.pointer (some ⟨g, 0, none⟩)) ∧ p0 ≠ g) := ⟨h, hc, hpg⟩
  clear h hc hpg
  go_enter Try.func53, Try.ntmps53
  go_wp2_with (go_at_call 73; refine (uint73 64 HR.out.1).mono ?_; rintro x w1 ⟨n, t, e1, rfl, hn, hs, hr, hb⟩
               have H1 : Hid (n ≤ 64 ∧ Stp (pN 64) bs e n t e1 ∧ RdS w1 g m t e1 ∧ But g w w1) := ⟨hn, hs, hr, hb⟩
               clear hn hs hr hb)
  have hn63 : n < 9223372036854775808 := by have := H1.out.1; omega
  go_loopw [7, 11] (fun v iv wr => ∃ (i : Nat) (b' : List UInt8) (e' : Nat), i ≤ n ∧ iv = .int .u64 (i : Int) ∧ Hid (GaR w g m t e1 i v b' e' wr)) (fun _ iv _ => n - (intOf iv).toNat)
  case atStart => exact ⟨0, t, e1, Nat.zero_le _, rfl, [], rfl, OwnR.nil _ _, Stp.zero t e1, H1.out.2.2.1, H1.out.2.2.2⟩
  case round =>
    obtain ⟨i, b', e', hin, rfl, HI⟩ := hrel
    obtain ⟨v, rfl⟩ : ∃ v, v = u7 := ⟨_, rfl⟩
    by_cases hlt : i < n
    · have hii : (i : Int) < (n : Int) := by omega
      have hib : (i + 1) * 64 ≤ 140737488355328 := by have := H1.out.1; omega
      have hi63 : i + 1 < 9223372036854775808 := by omega
      have HE60 : Hid (Calls Try.prog 60 #[.pointer (some ⟨g, 0, none⟩)] wr fun x w' => x = .returned (.int .i64 (e' : Int)) ∧ w' = wr) := by
        obtain ⟨l, _, _, _, h5, _⟩ := HI.out
        exact err60 h5
      have HIB : Hid ((i + 1) * 64 ≤ 140737488355328) := hib
      clear hib
      by_cases he : e' = 0
      · subst he
        have HH : Hid (Calls Try.prog 54 #[.pointer (some ⟨p0, 0, none⟩)] wr (RcT wr g m b' 0)) := by
          obtain ⟨l, _, _, _, h5, h6⟩ := HI.out
          exact clo54 h5 (h6.cell HR.out.2.2 HR.out.2.1) HR.out.2.2
        go_wp2_with (first
          | (go_at_call 60; refine Calls.mono HE60.out ?_; rintro x w9 ⟨rfl, hw9⟩; rw [hw9]; clear hw9 w9)
          | (go_at_call 54; refine Calls.mono HH.out ?_; rintro x w3 ⟨y, b2, e2, rfl, hy⟩
             obtain ⟨a, c, va, vc, w6, hv, hr6, hg6⟩ := gaR_step HR.out.1.mw HI.out hy HIB.out
             subst hv
             have H6 : Hid (GaR w g m t e1 (i + 1) (.slice va (i + 1) vc) b2 e2 w6) := hg6
             have H6R : Hid ((Builtin.append_ #[22, 22] 22 #[.slice a i c, .slice (some ⟨w3.heap.size, 0, none⟩) 1 1]).run Try.prog (w3.alloc (.cells (rxc y).toArray 41)) = .ok (.slice va (i + 1) vc) w6) := hr6
             clear hy hr6 hg6)
          | (refine wpList_of_run rfl (x_bs22r (x := .tmp 18) (y := y) rfl rfl) ?_)
          | (refine wpList_of_run rfl (x_app (t := 22) (s := .tmp 16) (x := .tmp 19) rfl rfl rfl H6R.out) ?_))
        go_roundw
        case rel => exact ⟨i + 1, b2, e2, by omega, by go_num, H6⟩
        case measure => simp [intOf]; omega
      · have hne : ¬ (e' : Int) = 0 := by omega
        have HF : Hid (GaR w g m t e1 i v b' e' wr ∧ e' ≠ 0 ∧ i ≤ n) := ⟨HI.out, he, hin⟩
        go_wp2_with (go_at_call 60; refine Calls.mono HE60.out ?_; rintro x w9 ⟨rfl, hw9⟩; rw [hw9]; clear hw9 w9)
        go_ret
        obtain ⟨⟨l, h1, h3, h4, h5, h6⟩, h7, h8⟩ := HF.out
        obtain ⟨a, c, rfl, _⟩ := h3.val h1
        exact ⟨a, c, i, l, b', e', rfl, h1, Nat.le_trans h8 H1.out.1, h3, H1.out.2.1.list h4 (.inr ⟨h7, h8⟩), h5, h6⟩
    · have hii : ¬ (i : Int) < (n : Int) := by omega
      have HF : Hid (GaR w g m t e1 i v b' e' wr ∧ i = n) := ⟨HI.out, by omega⟩
      go_wp2
      go_ret
      obtain ⟨⟨l, h1, h3, h4, h5, h6⟩, h7⟩ := HF.out
      obtain ⟨a, c, rfl, _⟩ := h3.val h1
      exact ⟨a, c, i, l, b', e', rfl, h1, by have := H1.out.1; omega, h3, H1.out.2.1.list h4 (.inl h7), h5, h6⟩
set_option maxRecDepth 100000 in
set_option maxHeartbeats 3200000 in
theorem records28 {w : World} {g m : Nat} {bs : List UInt8} {e : Nat} (h : RdS w g m bs e) : Calls Try.prog 28 #[.pointer (some ⟨g, 0, none⟩)] w (GrT w g m bs e) := by
  obtain ⟨g0, hg0⟩ : ∃ g0, w.heap.size = g0 := ⟨_, rfl⟩
  obtain ⟨W0, hW0⟩ : ∃ W0, w.alloc (.cells #[.pointer (some ⟨g, 0, none⟩)] 53) = W0 := ⟨_, rfl⟩
  have hA : After w W0 := by rw [← hW0]; exact after_alloc (After.refl w) _
  have hc : W0.cell? ⟨g0, 0, none⟩ = some (.pointer (some ⟨g, 0, none⟩)) := by rw [← hW0, ← hg0]; exact box_cell w _ 53
  have HR : Hid (After w W0 ∧ RdS W0 g m bs e ∧ W0.cell? ⟨g0, 0, none⟩ = some (.pointer (some ⟨g, 0, none⟩)) ∧ g0 ≠ g) := ⟨hA, h.after hA, hc, by have := h.gm; have := h.mw; omega⟩
  clear h hA
  go_enter Try.func28, Try.ntmps28
  go_wp2_with (first
    | (rw [hW0]; rw [hg0])
    | (go_at_call 53; refine (gather53 (p0 := g0) HR.out.2.1 HR.out.2.2.1 HR.out.2.2.2).mono ?_; rintro x w3 ⟨a, c, k, X, b2, e2, rfl, h1, h2, h3, h4, h5, h6⟩
       have H3 : Hid (X.length = k ∧ k ≤ 64 ∧ OwnR w3 w.heap.size (.slice a k c) X ∧ Stp pIx bs e (rsof X) b2 e2 ∧ RdS w3 g m b2 e2 ∧ But g w w3) := ⟨h1, h2, h3.lower HR.out.1.size, h4, h5, (But.of_below HR.out.1).trans h6⟩
       clear h1 h2 h3 h4 h5 h6))
  go_ret
  exact ⟨a, c, k, X, b2, e2, rfl, H3.out⟩
end Go.Proofs.Ytcmcapcagblafaa

namespace Go.Proofs.Ytcmcapcagblafaa
open Go.RowKit Go.Maps Dsk Leb
attribute [local go_sem] Oper.semAt_some
set_option maxHeartbeats 400000 in
/-- leb.Read, as a state. -/
theorem read27 (ao : Option Addr) (cap : Nat) (bs : List UInt8) {n : Nat} (hn : bs.length = n) (hbig : n ≤ 524288) (w : World) (hat : BytesAt w ao bs) :
    Calls Try.prog 27 #[.slice ao n cap] w fun e w' => ∃ g, e = .returned (.pointer (some ⟨g, 0, none⟩)) ∧ RdS w' g w'.heap.size bs 0 ∧ w.heap.size ≤ g ∧ After w w' := by
  subst hn
  have HAT : Hid (BytesAt w ao bs ∧ bs.length ≤ 524288) := ⟨hat, hbig⟩
  clear hat
  go_enter Try.func27, Try.ntmps27
  go_wp2_with (go_at_call 52; refine (clone_any ao cap bs (by omega) _ HAT.out.1).mono ?_; rintro e w1 ⟨v1, rfl, ho1, hb1⟩; obtain ⟨a1, c1, rfl, hat1, hc1, hl1⟩ := ho1.at)
  go_ret
  refine ⟨w1.heap.size, rfl, ⟨⟨a1, c1, ⟨RowIs.new w1 88 [.slice a1 bs.length c1, .int .i64 0], hat1.after (after_alloc (After.refl w1) _), hc1, fun h => ?_, fun a ha => ?_⟩, fun a ha => ?_⟩, HAT.out.2, by simp, Nat.le_refl _⟩, hb1.size, after_alloc hb1 _⟩
  · subst h; exact bytesAt_none hat1
  · have := (hl1 a ha).2; omega
  · have := (hl1 a ha).2; simp; omega
/-- What Get tells. -/
structure GetT (raw : List UInt8) (w : World) (e : Ending) (w' : World) : Prop where
  aft : After w w'
  ans : (∃ a c k X, gOk raw (rsof X) ∧ e = .returned (.tuple #[.slice a k c, .int .i64 0]) ∧ X.length = k ∧ k ≤ 64 ∧ OwnR w' w.heap.size (.slice a k c) X) ∨ ((∀ L, ¬ gOk raw L) ∧ e = .returned (.tuple #[.slice none 0 0, .int .i64 4]))
theorem sdE_zero {bs : List UInt8} {e : Nat} (h : sdE bs e = 0) : e = 0 ∧ bs = [] := by
  unfold sdE at h
  split at h
  · rename_i h0
    split at h
    · rename_i h1; exact ⟨h0, List.eq_nil_of_length_eq_zero h1⟩
    · cases h
  · rename_i h0; exact absurd h h0
theorem sdE_ne {t bs : List UInt8} {L : List Rc} {e : Nat} (h : sdE bs e ≠ 0) (hs : Stp pIx t 0 L bs e) : ∀ M, pIx t ≠ some (M, []) := fun M hM => by
  by_cases h0 : e = 0
  · subst h0
    have h1 := hs.ok.2
    rw [hM] at h1
    cases h1
    exact h rfl
  · rw [hs.bad h0 rfl] at hM; cases hM
theorem no_gOk_nil : ∀ L, ¬ gOk [] L := fun L h => by have := h.2.1; unfold ixB at this; cases this
theorem no_gOk_long {raw : List UInt8} (h : 524288 < raw.length) : ∀ L, ¬ gOk raw L := fun L k => by have := k.1; omega
theorem no_gOk_head {x : UInt8} {t : List UInt8} (h : x ≠ 1) : ∀ L, ¬ gOk (x :: t) L := fun L k => by have := k.2.1; unfold ixB at this; injection this with h1 _; exact h h1
theorem no_gOk_rest {t : List UInt8} (h : ∀ M, pIx t ≠ some (M, [])) : ∀ L, ¬ gOk (1 :: t) L := fun L k => by
  obtain ⟨_, ⟨t', e, h2⟩, _⟩ := gOk_iff.1 k
  cases e
  exact h L h2
theorem no_gOk_may {t : List UInt8} {L : List Rc} (h : pIx t = some (L, [])) (hm : ¬ MOk L) : ∀ M, ¬ gOk (1 :: t) M := fun M k => by
  obtain ⟨_, ⟨t', e, h2⟩, h3⟩ := gOk_iff.1 k
  cases e
  rw [h] at h2; cases h2
  exact hm h3
set_option maxRecDepth 100000 in
set_option maxHeartbeats 12800000 in
theorem get14 {ao : Option Addr} {cap n : Nat} {raw : List UInt8} (hn : raw.length = n) (hcap : n ≤ cap) (hbig : n ≤ 140737488355328) {w : World} (hat : BytesAt w ao raw) : Calls Try.prog 14 #[.slice ao n cap] w (GetT raw w) := by
  cases raw with
  | nil =>
    obtain rfl : n = 0 := by rw [← hn]; rfl
    go_enter Try.func14, Try.ntmps14
    go_wp2
    refine bodyPost_ret (v := .tuple #[.slice none 0 0, .int .i64 4]) (by simp [results, Try.results14, go_sem]) rfl ⟨After.refl w, .inr ⟨no_gOk_nil, rfl⟩⟩
  | cons x t =>
    have hn0 : n ≠ 0 := by rw [← hn]; simp
    have hnz : ¬ (n : Int) = 0 := by omega
    have hpos : (0 : Int) < (n : Int) := by omega
    by_cases hl : 524288 < n
    · have hl' : (524288 : Int) < (n : Int) := by omega
      have HF : Hid (∀ L, ¬ gOk (x :: t) L) := no_gOk_long (by rw [hn]; exact hl)
      clear hat hn hl
      go_enter Try.func14, Try.ntmps14
      go_wp2
      refine bodyPost_ret (v := .tuple #[.slice none 0 0, .int .i64 4]) (by simp [results, Try.results14, go_sem]) rfl ⟨After.refl w, .inr ⟨HF.out, rfl⟩⟩
    · have hl' : ¬ (524288 : Int) < (n : Int) := by omega
      obtain ⟨b, o, hao, hce⟩ := hat (by simp)
      subst hao
      have c0 : w.cell? ⟨b, o, none⟩ = some (.int .u8 (x.toNat : Int)) := hce 0 (by simp)
      by_cases hx : x = 1
      · subst hx
        have c0' : w.cell? ⟨b, o, none⟩ = some (.int .u8 1) := c0
        obtain ⟨k, hk⟩ : ∃ k, n = k + 1 := ⟨n - 1, by omega⟩
        have htl : t.length = k := by have := hn; simp at this; omega
        obtain ⟨a1, ha1⟩ : ∃ a1, cutAt (some ⟨b, o, none⟩) 1 cap = a1 := ⟨_, rfl⟩
        obtain ⟨c1, hc1⟩ : ∃ c1, cap - 1 = c1 := ⟨_, rfl⟩
        have hsl : ∀ W, (Instr.sliceAt 26 (.slice (some ⟨b, o, none⟩) n cap) (some (.int .i64 1)) none none).run Try.prog W = .ok (.slice a1 k c1) W := fun W => by
          have := slice_from (some ⟨b, o, none⟩) n cap 1 (fun h => by cases h) hcap (by omega) W
          rw [ha1, hc1, show n - 1 = k by omega] at this
          exact this
        have HT : Hid (BytesAt w a1 t ∧ t.length = k ∧ k ≤ 524288) := ⟨by
          have := hat.cut 1 cap (by rw [hn]; exact hcap)
          rw [ha1] at this
          exact this, htl, by omega⟩
        have HRD : Hid (∀ W, After w W → Calls Try.prog 27 #[.slice a1 k c1] W fun e w' => ∃ g, e = .returned (.pointer (some ⟨g, 0, none⟩)) ∧ RdS w' g w'.heap.size t 0 ∧ W.heap.size ≤ g ∧ After W w') := fun W hW => read27 a1 c1 t HT.out.2.1 HT.out.2.2 W (HT.out.1.after hW)
        have HX : Hid (Calls Try.prog 27 #[.slice a1 k c1] w fun e w' => ∃ g, e = .returned (.pointer (some ⟨g, 0, none⟩)) ∧ RdS w' g w'.heap.size t 0 ∧ w.heap.size ≤ g ∧ After w w') := HRD.out w (After.refl w)
        have HL : Hid (¬ 524288 < n ∧ (1 :: t).length = n) := ⟨hl, hn⟩
        clear hat hce c0 hn hl hk htl ha1 hc1
        go_enter Try.func14, Try.ntmps14
        go_wp2_with (first
          | (go_at_call 27; refine Calls.mono HX.out ?_; rintro e w1 ⟨g, rfl, hr, hg, ha⟩; have H1 : Hid (RdS w1 g w1.heap.size t 0 ∧ w.heap.size ≤ g ∧ After w w1) := ⟨hr, hg, ha⟩; clear hr hg ha)
          | (go_at_call 28; refine (records28 H1.out.1).mono ?_; rintro e w2 ⟨a2, c2, k2, X, bs', e', rfl, h1, h2, h3, h4, h5, h6⟩
             have H2 : Hid (X.length = k2 ∧ k2 ≤ 64 ∧ OwnR w2 w1.heap.size (.slice a2 k2 c2) X ∧ Stp pIx t 0 (rsof X) bs' e' ∧ RdS w2 g w1.heap.size bs' e' ∧ After w w2) := ⟨h1, h2, h3, h4, h5, by
               have hb := (But.of_below (g := g) H1.out.2.2).trans h6
               exact ⟨hb.os, hb.tape, hb.output, hb.size, fun j hj => hb.block j hj (by have := H1.out.2.1; omega)⟩⟩
             have HD : Hid (Calls Try.prog 29 #[.pointer (some ⟨g, 0, none⟩)] w2 fun x w' => x = .returned (.int .i64 (sdE bs' e' : Int)) ∧ w' = w2) := done29 h5
             clear h1 h2 h3 h4 h5 h6
             obtain ⟨d, hd⟩ : ∃ d, sdE bs' e' = d := ⟨_, rfl⟩
             rw [hd] at HD
             have HS : Hid (sdE bs' e' = d) := hd
             clear hd))
        by_cases hd0 : d = 0
        · subst hd0
          have hz := sdE_zero HS.out
          have HP : Hid (pIx t = some (rsof X, [])) := by
            have h9 := H2.out.2.2.2.1
            rw [hz.1, hz.2] at h9
            exact h9.ok.2
          clear hz
          by_cases hm : MOk (rsof X)
          · have HM : Hid (Calls Try.prog 22 #[.slice a2 k2 c2] w2 fun e w' => e = .returned (.bool true) ∧ After w2 w') := by
              obtain ⟨a9, c9, e9, h9⟩ := H2.out.2.2.1.at
              rw [H2.out.1] at e9
              injection e9 with e1 _ e3
              subst e1 e3
              exact maybe_yes H2.out.1 (by have := H2.out.2.1; omega) hm h9
            have HG : Hid (gOk (1 :: t) (rsof X)) := gOk_iff.2 ⟨by have := HL.out; omega, ⟨t, rfl, HP.out⟩, hm⟩
            clear hm
            go_wp2_with (first
              | (go_at_call 29; refine Calls.mono HD.out ?_; rintro e w9 ⟨rfl, hw9⟩; rw [hw9]; clear hw9 w9)
              | (go_at_call 22; refine Calls.mono HM.out ?_; rintro e w3 ⟨rfl, h3⟩; have H3 : Hid (After w2 w3) := h3; clear h3))
            refine bodyPost_ret (v := .tuple #[.slice a2 k2 c2, .int .i64 0]) (by simp [results, Try.results14, go_sem]) rfl ⟨H2.out.2.2.2.2.2.trans H3.out, .inl ⟨_, _, _, X, HG.out, rfl, H2.out.1, H2.out.2.1, (H2.out.2.2.1.after H3.out).lower H1.out.2.2.size⟩⟩
          · have HM : Hid (Calls Try.prog 22 #[.slice a2 k2 c2] w2 fun e w' => e = .returned (.bool false) ∧ After w2 w') := by
              obtain ⟨a9, c9, e9, h9⟩ := H2.out.2.2.1.at
              rw [H2.out.1] at e9
              injection e9 with e1 _ e3
              subst e1 e3
              exact maybe_no H2.out.1 (by have := H2.out.2.1; omega) hm h9
            have HG : Hid (∀ L, ¬ gOk (1 :: t) L) := no_gOk_may HP.out hm
            clear hm
            go_wp2_with (first
              | (go_at_call 29; refine Calls.mono HD.out ?_; rintro e w9 ⟨rfl, hw9⟩; rw [hw9]; clear hw9 w9)
              | (go_at_call 22; refine Calls.mono HM.out ?_; rintro e w3 ⟨rfl, h3⟩; have H3 : Hid (After w2 w3) := h3; clear h3))
            refine bodyPost_ret (v := .tuple #[.slice none 0 0, .int .i64 4]) (by simp [results, Try.results14, go_sem]) rfl ⟨H2.out.2.2.2.2.2.trans H3.out, .inr ⟨HG.out, rfl⟩⟩
        · have hdz : ¬ (d : Int) = 0 := by omega
          have HG : Hid (∀ L, ¬ gOk (1 :: t) L) := no_gOk_rest (sdE_ne (by rw [HS.out]; exact hd0) H2.out.2.2.2.1)
          go_wp2_with (first
            | (go_at_call 29; refine Calls.mono HD.out ?_; rintro e w9 ⟨rfl, hw9⟩; rw [hw9]; clear hw9 w9))
          refine bodyPost_ret (v := .tuple #[.slice none 0 0, .int .i64 4]) (by simp [results, Try.results14, go_sem]) rfl ⟨H2.out.2.2.2.2.2, .inr ⟨HG.out, rfl⟩⟩
      · have hx1 : ¬ (x.toNat : Int) = 1 := fun h => hx (UInt8.toNat_inj.1 (by have : x.toNat = 1 := by omega
                                                                               rw [this]; rfl))
        have HF : Hid (∀ L, ¬ gOk (x :: t) L) := no_gOk_head hx
        have hx2 : ((x.toNat : Int) != 1) = true := bne_iff_ne.2 hx1
        clear hat hce hn hx
        go_enter Try.func14, Try.ntmps14
        go_wp2
        refine bodyPost_ret (v := .tuple #[.slice none 0 0, .int .i64 4]) (by simp [results, Try.results14, go_sem]) rfl ⟨After.refl w, .inr ⟨HF.out, rfl⟩⟩
end Go.Proofs.Ytcmcapcagblafaa

namespace Go.Proofs.Ytcmcapcagblafaa
open Go.RowKit Go.Maps Dsk Leb
attribute [local go_sem] Oper.semAt_some
def awX : Rx := ⟨[97], none, 0, [], none, 0, []⟩
theorem awX_at (w : World) : RxAt w awX := ⟨BsAt.nil _ _, SlAt.nil _ _ _, fun x h => (by cases h), by decide, fun y h => (by cases h), by decide, by decide, fun _ => rfl, fun _ => rfl⟩
theorem aw_ok : MOk (rsof [awX]) := by
  refine ⟨by decide, fun r hr => ?_, fun i p q hp hq => ?_⟩
  · rw [show rsof [awX] = [rof awX] from rfl, List.mem_singleton] at hr
    subst hr
    exact ⟨by decide, by decide, by decide, ⟨List.Pairwise.nil, by decide, fun p h => (by cases h)⟩⟩
  · have h1 := (List.getElem?_eq_some_iff.1 hq).1
    simp [rsof] at h1
theorem aw_bytes : ixB (rsof [awX]) = [1, 1, 1, 97, 0, 0] := by
  have h0 : uintB 0 = [0] := by rw [uintB]; rfl
  have h1 : uintB 1 = [1] := by rw [uintB]; rfl
  simp [ixB, rsof, rof, rcB, brsB, hsB, textB, bof, awX, h0, h1]
theorem aw_putE : putE (rsof [awX]) = 0 := putE_ok aw_ok (by rw [aw_bytes]; decide)
theorem aw_gOk : gOk [1, 1, 1, 97, 0, 0] (rsof [awX]) := ⟨by decide, aw_bytes.symm, aw_ok, fun r hr => by
  rw [show rsof [awX] = [rof awX] from rfl, List.mem_singleton] at hr
  subst hr
  exact (awX_at default).r32⟩
set_option maxRecDepth 100000 in
set_option maxHeartbeats 12800000 in
theorem awake8 (w : World) : Calls Try.prog 8 #[] w fun e w' => e = .returned (.bool true) ∧ After w w' := by
  obtain ⟨g, hg⟩ : ∃ g, w.heap.size = g := ⟨_, rfl⟩
  obtain ⟨W0, hW0⟩ : ∃ W0, w.alloc (.cells (rxc awX).toArray 41) = W0 := ⟨_, rfl⟩
  have HA : Hid (After w W0 ∧ RsAt W0 (some ⟨g, 0, none⟩) [awX]) := by
    rw [← hW0, ← hg]
    exact ⟨after_alloc (After.refl w) _, rx_box, fun x hx => by rw [List.mem_singleton.1 hx]; exact awX_at _⟩
  have HP : Hid (Calls Try.prog 10 #[.slice (some ⟨g, 0, none⟩) 1 1] W0 fun e w' => ∃ a c, e = .returned (.tuple #[.slice a 6 c, .int .i64 0]) ∧ BytesAt w' a [1, 1, 1, 97, 0, 0] ∧ 6 ≤ c ∧ After W0 w') := (put10 (X := [awX]) (n := 1) (ca := 1) rfl (by omega) HA.out.2).mono (fun e w' h => by
    rcases h.ans with ⟨_, a, c, k, he, h1, h2, h3⟩ | ⟨h1, _⟩
    · rw [aw_bytes] at h1 h2
      have : k = 6 := by rw [← h1]; rfl
      subst this
      exact ⟨a, c, he, h2, h3, h.aft⟩
    · exact absurd aw_putE h1)
  have HG : Hid (∀ (W : World) (a : Option Addr) (c : Nat), BytesAt W a [1, 1, 1, 97, 0, 0] → 6 ≤ c → Calls Try.prog 14 #[.slice a 6 c] W fun e w' => ∃ b o c', e = .returned (.tuple #[.slice (some ⟨b, o, none⟩) 1 c', .int .i64 0]) ∧ w'.cell? ⟨b, o, none⟩ = some (.string ⟨#[97]⟩) ∧ After W w') := fun W a c hb hc => (get14 (n := 6) (cap := c) rfl hc (by omega) hb).mono (fun e w' h => by
    rcases h.ans with ⟨a2, c2, k2, X, h1, h2, h3, _, h5⟩ | ⟨h1, _⟩
    · have hX := gOk_inj h1 aw_gOk
      have hk : k2 = 1 := by rw [← h3, ← rsof_len X, hX]; rfl
      subst hk
      obtain ⟨x, rfl⟩ : ∃ x, X = [x] := by
        match X, h3 with
        | [x], _ => exact ⟨x, rfl⟩
      have hnm : x.nm = [97] := by
        have h9 : [rof x] = [rof awX] := hX
        injection h9 with h9 _
        exact congrArg Prod.fst h9
      obtain ⟨a3, c3, e3, hs⟩ := h5.at
      injection e3 with e4 _ _
      subst e4
      obtain ⟨b, o, rfl, hr⟩ := hs.sl.at (i := 0) (x := rxc x) rfl
      have hc0 := hr 0 (.string (strOf x.nm)) rfl
      rw [hnm] at hc0
      exact ⟨b, o, c2, h2, hc0, h.aft⟩
    · exact absurd aw_gOk (h1 _))
  have HAR : Hid ((rxc awX).toArray = #[.string ⟨#[97]⟩, .slice none 0 0, .slice none 0 0]) := rfl
  have HW0 : Hid (w.alloc (.cells (rxc awX).toArray 41) = W0) := hW0
  clear hW0
  go_enter Try.func8, Try.ntmps8
  go_wp2_with (first
    | (refine wpList_of_run rfl (x_bs22r (x := .tmp 6) (y := awX) rfl rfl) ?_; rw [HW0.out]; rw [hg])
    | (go_at_call 10; refine Calls.mono HP.out ?_; rintro e w1 ⟨a, c, rfl, hb, hc, ha⟩; have H1 : Hid (BytesAt w1 a [1, 1, 1, 97, 0, 0] ∧ 6 ≤ c ∧ After w w1) := ⟨hb, hc, HA.out.1.trans ha⟩; clear hb hc ha)
    | (go_at_call 14; refine Calls.mono (HG.out _ _ _ H1.out.1 H1.out.2.1) ?_; rintro e w2 ⟨b, o, c2, rfl, hcell, ha⟩; have H2 : Hid (BytesAt w2 a [1, 1, 1, 97, 0, 0] ∧ After w w2) := ⟨H1.out.1.after ha, H1.out.2.2.trans ha⟩; clear ha)
    | (refine wpList_of_run rfl (x_conv (x := .tmp 16) (s := ⟨#[1, 1, 1, 97, 0, 0]⟩) rfl rfl (conv_at (bs := [1, 1, 1, 97, 0, 0]) c H2.out.1)) ?_))
  refine bodyPost_ret (v := .bool true) (by simp [results, Try.results8, go_sem]) rfl ⟨rfl, H2.out.2⟩
end Go.Proofs.Ytcmcapcagblafaa

namespace Go.Proofs.Ytcmcapcagblafaa
open Go.RowKit Go.Maps Dsk
attribute [local go_sem] Oper.semAt_some
theorem x_bs22z {oi : Oper} {a : Act} {w : World} (hop : oi.op = .buildSlice 22 0 #[]) : (execOp a.eval oi).run Try.prog w = .ok (.value (.slice (some ⟨w.heap.size, 0, none⟩) 0 0)) (w.alloc (.cells #[] 41)) := by
  have hb : (Instr.buildSlice 22 0 #[]).run Try.prog w = .ok (.slice (some ⟨w.heap.size, 0, none⟩) 0 0) (w.alloc (.cells #[] 41)) := by kernel_rfl
  unfold execOp
  simp [hop, hb]
/-- Two rows of records, one behind the other in a row of one's own. -/
theorem two_rows {w : World} {la lb : Option Addr} {n m ca cb : Nat} {X Y : List Rx} (hX : X.length = n) (hY : Y.length = m) (hn : n ≤ 600) (hm : m ≤ 600) (hA : RsAt w la X) (hB : RsAt w lb Y) (hza : la = none → ca = 0) (hzb : lb = none → cb = 0) :
    ∃ va vc w1 vb vd w2, (Builtin.append_ #[22, 22] 22 #[.slice (some ⟨w.heap.size, 0, none⟩) 0 0, .slice la n ca]).run Try.prog (w.alloc (.cells #[] 41)) = .ok (.slice va n vc) w1 ∧
      (Builtin.append_ #[22, 22] 22 #[.slice va n vc, .slice lb m cb]).run Try.prog w1 = .ok (.slice vb (n + m) vd) w2 ∧ RsAt w2 vb (X ++ Y) ∧ After w w2 := by
  obtain ⟨i, hi, hz⟩ := Option.map_eq_some_iff.1 info41
  simp only [Prod.mk.injEq] at hz
  obtain ⟨hz, hsz, hby⟩ := hz
  have hal : After w (w.alloc (.cells #[] 41)) := after_alloc (After.refl w) _
  obtain ⟨va, vc, w1, r1, r2, r3, _⟩ := run_appL (t := 22) 22 41 3 64 Try.underlying22 hi hz hsz hby rfl (by omega) (OwnL.fresh w 41 3) (N := rsL X) (a := la) (m := n) (c := ca) (by rw [rs_len, hX]) (hA.after hal).sl (rs_one X) (by simp; unfold maxLen; omega) (by simp; omega) (by simp) (fun _ e => hza e)
  simp only [List.length_nil, Nat.zero_add, List.nil_append] at r1 r2
  have h1 : After w w1 := after_grown hal r3 (Nat.le_refl _) (fun k hk => by cases hk; exact Nat.le_refl _)
  obtain ⟨vb, vd, w2, s1, s2, s3, _⟩ := run_appL (t := 22) 22 41 3 64 Try.underlying22 hi hz hsz hby rfl (by omega) r2 (N := rsL Y) (a := lb) (m := m) (c := cb) (by rw [rs_len, hY]) (hB.after h1).sl (rs_one Y) (by rw [rs_len, hX]; unfold maxLen; omega) (by rw [rs_len, hX]; omega) h1.size (fun _ e => hzb e)
  rw [rs_len, hX] at s1 s2
  have h2 : After w w2 := after_grown h1 s3 (Nat.le_refl _) (fun k hk => (own_lt r2.2 hk).1)
  refine ⟨va, vc, w1, vb, vd, w2, r1, s1, ⟨?_, fun x hx => ?_⟩, h2⟩
  · obtain ⟨a9, c9, e9, h9⟩ := s2.sl
    injection e9 with e1 _ _
    subst e1
    unfold rsL at h9 ⊢
    rw [List.map_append]; exact h9
  · rcases List.mem_append.1 hx with hx | hx
    · exact (hA.each x hx).after h2
    · exact (hB.each x hx).after h2
theorem joined19 {ao bo : Option Addr} {ca cb n m : Nat} {la lb : List H} (ha32 : All32 la) (hb32 : All32 lb) (hla : la.length = n) (hlb : lb.length = m) (hn : n + m ≤ 100000) {w : World} (hA : HsAt w ao la) (hB : HsAt w bo lb) :
    Calls Try.prog 19 #[.slice ao n ca, .slice bo m cb] w fun e w' => ∃ a c k s, e = .returned (.slice a k c) ∧ HsAt w' a s ∧ s.length = k ∧ All32 s ∧ Up s ∧ (∀ h, h ∈ s ↔ h ∈ la ∨ h ∈ lb) ∧ After w w' :=
  (union20 sokM ao bo ca cb la lb ha32 hb32 n m hla hlb hn (by omega) w hA hB).mono (fun e w' ⟨v, s, he, h1, h2, h3, h4, _, h6⟩ => by
    obtain ⟨a, c, hv, hat, _⟩ := h1.at
    exact ⟨a, c, s.length, s, by rw [he, hv], hat, rfl, h2, h3, h4, h6⟩)
set_option maxRecDepth 100000 in
set_option maxHeartbeats 25600000 in
theorem joins6 {la lb : Option Addr} {n m ca cb : Nat} {X Y : List Rx} (hX : X.length = n) (hn : n < 4611686018427387904) (hY : Y.length = m) (hm : m < 4611686018427387904) {w : World} (hA : RsAt w la X) (hB : RsAt w lb Y) (hza : la = none → ca = 0) (hzb : lb = none → cb = 0) : Calls Try.prog 6 #[.slice la n ca, .slice lb m cb] w fun e w' => e = .returned (.bool true) ∧ After w w' := by
  have HL : Hid (RsAt w la X ∧ X.length = n ∧ RsAt w lb Y ∧ Y.length = m ∧ (la = none → ca = 0) ∧ (lb = none → cb = 0)) := ⟨hA, hX, hB, hY, hza, hzb⟩
  have HF7 : Hid (Calls Try.prog 7 #[.slice la n ca] w fun e w' => e = .returned (.bool (decide (prts X ≤ 600))) ∧ After w w') := few7 hX hn hA
  have HF8 : Hid (∀ W, After w W → Calls Try.prog 7 #[.slice lb m cb] W fun e w' => e = .returned (.bool (decide (prts Y ≤ 600))) ∧ After W w') := fun W hW => few7 hY hm (hB.after hW)
  clear hA hB hX hY hza hzb hn hm
  by_cases hf : prts X ≤ 600
  · have HD1 : Hid (decide (prts X ≤ 600) = true) := decide_eq_true hf
    by_cases hg : prts Y ≤ 600
    · have HD2 : Hid (decide (prts Y ≤ 600) = true) := decide_eq_true hg
      have hn6 : n ≤ 600 := by have := prts_len X; rw [HL.out.2.1] at this; omega
      have hm6 : m ≤ 600 := by have := prts_len Y; rw [HL.out.2.2.2.1] at this; omega
      have hcx : (chs X).length ≤ 600 := Nat.le_trans (chs_few hf) hf
      have hcy : (chs Y).length ≤ 600 := Nat.le_trans (chs_few hg) hg
      have HNM : Hid (n ≤ 600 ∧ m ≤ 600) := ⟨hn6, hm6⟩
      have HV1 : Hid (∀ (W : World) (a : Option Addr) (c : Nat), RsAt W a (X ++ Y) → Calls Try.prog 17 #[.slice a (n + m) c] W (LvT W (X ++ Y) 1200)) := fun W a c h => live17 (by rw [List.length_append, HL.out.2.1, HL.out.2.2.2.1]) (by omega) (by rw [chs_app, List.length_append]; omega) (by omega) h
      have HV2 : Hid (∀ W, After w W → Calls Try.prog 17 #[.slice la n ca] W (LvT W X 600)) := fun W h => live17 HL.out.2.1 (by omega) hcx (by omega) (HL.out.1.after h)
      have HV3 : Hid (∀ W, After w W → Calls Try.prog 17 #[.slice lb m cb] W (LvT W Y 600)) := fun W h => live17 HL.out.2.2.2.1 (by omega) hcy (by omega) (HL.out.2.2.1.after h)
      have HUQ : Hid (∀ s6 s7 s8 s9 : List H, Up s6 → Up s9 → (∀ h, h ∈ s6 ↔ h ∈ chs (X ++ Y)) → (∀ h, h ∈ s7 ↔ h ∈ chs X) → (∀ h, h ∈ s8 ↔ h ∈ chs Y) → (∀ h, h ∈ s9 ↔ h ∈ s7 ∨ h ∈ s8) → s6 = s9) := fun s6 s7 s8 s9 u6 u9 m6 m7 m8 m9 => Up.unique u6 u9 (fun h => by rw [m6 h, m9 h, m7 h, m8 h, chs_app, List.mem_append])
      clear hf hg hcx hcy hn6 hm6
      go_enter Try.func6, Try.ntmps6
      go_wp2_with (first
        | (go_at_call 7; have hT := HF7.out; clear hT; refine Calls.mono HF7.out ?_; rintro e w1 ⟨rfl, ha⟩; rw [HD1.out]; have H1 : Hid (After w w1) := ha; clear ha HF7)
        | (go_at_call 7; have hT := HF8.out; clear hT; refine Calls.mono (HF8.out _ H1.out) ?_; rintro e w2 ⟨rfl, ha⟩; rw [HD2.out]; have H2 : Hid (After w w2) := H1.out.trans ha; clear ha HF8
           obtain ⟨va, vc, w3, vb, vd, w4, r1, r2, r3, r4⟩ := two_rows (ca := ca) (cb := cb) HL.out.2.1 HL.out.2.2.2.1 HNM.out.1 HNM.out.2 (HL.out.1.after H2.out) (HL.out.2.2.1.after H2.out) HL.out.2.2.2.2.1 HL.out.2.2.2.2.2
           obtain ⟨g5, hg5⟩ : ∃ g5, w2.heap.size = g5 := ⟨_, rfl⟩
           obtain ⟨w5, hw5⟩ : ∃ w5, w2.alloc (.cells #[] 41) = w5 := ⟨_, rfl⟩
           have HG5 : Hid (w2.heap.size = g5) := hg5
           have HW5 : Hid (w2.alloc (.cells #[] 41) = w5) := hw5
           rw [hg5, hw5] at r1
           have R1 : Hid ((Builtin.append_ #[22, 22] 22 #[.slice (some ⟨g5, 0, none⟩) 0 0, .slice la n ca]).run Try.prog w5 = .ok (.slice va n vc) w3) := r1
           have R2 : Hid ((Builtin.append_ #[22, 22] 22 #[.slice va n vc, .slice lb m cb]).run Try.prog w3 = .ok (.slice vb (n + m) vd) w4) := r2
           have H4 : Hid (RsAt w4 vb (X ++ Y) ∧ After w w4) := ⟨r3, H2.out.trans r4⟩
           clear r1 r2 r3 r4 hg5 hw5)
        | (refine wpList_of_run rfl (x_bs22z rfl) ?_; rw [HW5.out]; rw [HG5.out])
        | (refine wpList_of_run rfl (x_app (t := 22) (s := .tmp 15) (x := .tmp 16) rfl rfl rfl R1.out) ?_)
        | (refine wpList_of_run rfl (x_app (t := 22) (s := .tmp 17) (x := .tmp 18) rfl rfl rfl R2.out) ?_)
        | (go_at_call 17; have hT := HV1.out; clear hT; refine Calls.mono (HV1.out _ _ _ H4.out.1) ?_; rintro e w6 ⟨a6, c6, k6, s6, rfl, h1, h2, h3, h4, h5, h6, h7⟩
           have H6 : Hid (HsAt w6 a6 s6 ∧ s6.length = k6 ∧ k6 ≤ 1200 ∧ All32 s6 ∧ Up s6 ∧ (∀ h, h ∈ s6 ↔ h ∈ chs (X ++ Y)) ∧ After w w6) := ⟨h3, h1, h2, h4, h5, h6, H4.out.2.trans h7⟩
           clear h1 h2 h3 h4 h5 h6 h7 HV1)
        | (go_at_call 17; have hT := HV2.out; clear hT; refine Calls.mono (HV2.out _ H6.out.2.2.2.2.2.2) ?_; rintro e w7 ⟨a7, c7, k7, s7, rfl, h1, h2, h3, h4, h5, h6, h7⟩
           have H7 : Hid (HsAt w7 a7 s7 ∧ s7.length = k7 ∧ k7 ≤ 600 ∧ All32 s7 ∧ (∀ h, h ∈ s7 ↔ h ∈ chs X) ∧ After w w7 ∧ HsAt w7 a6 s6) := ⟨h3, h1, h2, h4, h6, H6.out.2.2.2.2.2.2.trans h7, H6.out.1.after h7⟩
           clear h1 h2 h3 h4 h5 h6 h7 HV2)
        | (go_at_call 17; have hT := HV3.out; clear hT; refine Calls.mono (HV3.out _ H7.out.2.2.2.2.2.1) ?_; rintro e w8 ⟨a8, c8, k8, s8, rfl, h1, h2, h3, h4, h5, h6, h7⟩
           have H8 : Hid (HsAt w8 a8 s8 ∧ s8.length = k8 ∧ k8 ≤ 600 ∧ All32 s8 ∧ (∀ h, h ∈ s8 ↔ h ∈ chs Y) ∧ After w w8 ∧ HsAt w8 a6 s6 ∧ HsAt w8 a7 s7) := ⟨h3, h1, h2, h4, h6, H7.out.2.2.2.2.2.1.trans h7, H7.out.2.2.2.2.2.2.after h7, H7.out.1.after h7⟩
           clear h1 h2 h3 h4 h5 h6 h7 HV3)
        | (go_at_call 19; refine (joined19 (ca := c7) (cb := c8) H7.out.2.2.2.1 H8.out.2.2.2.1 H7.out.2.1 H8.out.2.1 (by have := H7.out.2.2.1; have := H8.out.2.2.1; omega) H8.out.2.2.2.2.2.2.2 H8.out.1).mono ?_; rintro e w9 ⟨a9, c9, k9, s9, rfl, h1, h2, h3, h4, h5, h6⟩
           have H9 : Hid (HsAt w9 a9 s9 ∧ s9.length = k9 ∧ All32 s9 ∧ s6 = s9 ∧ After w w9 ∧ HsAt w9 a6 s6) := ⟨h1, h2, h3, HUQ.out s6 s7 s8 s9 H6.out.2.2.2.2.1 h4 H6.out.2.2.2.2.2.1 H7.out.2.2.2.2.1 H8.out.2.2.2.2.1 h5, H8.out.2.2.2.2.2.1.trans h6, H8.out.2.2.2.2.2.2.1.after h6⟩
           clear h1 h2 h3 h4 h5 h6)
        | (go_at_call 18; refine (same53 (ca := c6) (cb := c9) H6.out.2.2.2.1 H9.out.2.2.1 H6.out.2.1 H9.out.2.1 (by have := H6.out.2.2.1; omega) (H9.out.2.2.2.2.2.sl H6.out.2.2.2.1) (H9.out.1.sl H9.out.2.2.1)).mono ?_; rintro e w10 ⟨rfl, ha⟩; rw [decide_eq_true H9.out.2.2.2.1]; have H10 : Hid (After w w10 ∧ HsAt w10 a6 s6) := ⟨H9.out.2.2.2.2.1.trans ha, H9.out.2.2.2.2.2.after ha⟩; clear ha)
        | (go_at_call 20; refine (rising47 (ca := c6) H6.out.2.2.2.1 H6.out.2.1 (by have := H6.out.2.2.1; omega) (H10.out.2.sl H6.out.2.2.2.1)).mono ?_; rintro e w11 ⟨rfl, ha⟩; rw [H6.out.2.2.2.2.1.upB H6.out.2.2.2.1]; have H11 : Hid (After w w11) := H10.out.1.trans ha; clear ha)
        | (go_at_call 8; refine Calls.mono (awake8 _) ?_; rintro e w12 ⟨rfl, ha⟩; have H12 : Hid (After w w12) := H11.out.trans ha; clear ha))
      refine bodyPost_ret (v := .bool true) (by simp [results, Try.results6, go_sem]) rfl ⟨rfl, H12.out⟩
    · have HD2 : Hid (decide (prts Y ≤ 600) = false) := decide_eq_false hg
      clear hf hg
      go_enter Try.func6, Try.ntmps6
      go_wp2_with (first
        | (go_at_call 7; have hT := HF7.out; clear hT; refine Calls.mono HF7.out ?_; rintro e w1 ⟨rfl, ha⟩; rw [HD1.out]; have H1 : Hid (After w w1) := ha; clear ha HF7)
        | (go_at_call 7; have hT := HF8.out; clear hT; refine Calls.mono (HF8.out _ H1.out) ?_; rintro e w2 ⟨rfl, ha⟩; rw [HD2.out]; have H2 : Hid (After w w2) := H1.out.trans ha; clear ha HF8)
        | (go_at_call 8; refine Calls.mono (awake8 _) ?_; rintro e w12 ⟨rfl, ha⟩; have H12 : Hid (After w w12) := H2.out.trans ha; clear ha))
      refine bodyPost_ret (v := .bool true) (by simp [results, Try.results6, go_sem]) rfl ⟨rfl, H12.out⟩
  · have HD1 : Hid (decide (prts X ≤ 600) = false) := decide_eq_false hf
    clear hf
    go_enter Try.func6, Try.ntmps6
    go_wp2_with (first
      | (go_at_call 7; have hT := HF7.out; clear hT; refine Calls.mono HF7.out ?_; rintro e w1 ⟨rfl, ha⟩; rw [HD1.out]; have H1 : Hid (After w w1) := ha; clear ha HF7)
      | (go_at_call 8; refine Calls.mono (awake8 _) ?_; rintro e w12 ⟨rfl, ha⟩; have H12 : Hid (After w w12) := H1.out.trans ha; clear ha))
    refine bodyPost_ret (v := .bool true) (by simp [results, Try.results6, go_sem]) rfl ⟨rfl, H12.out⟩
end Go.Proofs.Ytcmcapcagblafaa

namespace Go.Proofs.Ytcmcapcagblafaa.IndexJoins
open Go.ChangeShapes Go.WideShapes Go.ChangeAt Go.RowKit Leb
open Go.ChangeMaps (open_string)

set_option maxRecDepth 100000 in
/-- What the walk gives, for every argument and every world. -/
theorem contract (H : Type) (enc : TypeId × Value → H) (W : World) (base : Nat) (args : Array Value) (ds gs : List (DataW H)) (before : List MemPlace)
    (hval : ∀ (j : Nat) t v, Try.f6.params[j]? = some t → args[j]? = some v → Value.okWide Try.prog W .any base t v)
    (hW : DataW.Whole enc Try.prog Try.f6.params.toList Rows.indexJoinsSpec.vars false W args.toList ds gs before)
    (hsz : (DataW.weightsEach Try.prog (Try.f6.params.toList ++ (OpenSpec.ofChange Rows.indexJoinsSpec).bare.plain.varTypes Try.prog) (ds ++ gs)).all (· ≤ reachBytes) = true) :
    Calls Try.prog 6 args W fun e W' => ∃ v, e = .returned v ∧ Rows.indexJoinsSpec.post enc Try.prog Try.f6 false true false false W args v W' := by
  have hW' := hW
  obtain ⟨p, q, hA0, hV, rfl, hfz, hnd⟩ := hW
  have hA : DataW.TrodAll enc Try.prog W 0 (fun _ => true) true Try.f6.params.toList args.toList ds p := hA0
  rw [Try.params6] at hA hval hsz
  obtain ⟨v0, vs0, d0, ds0, p0, q0, hargs, rfl, rfl, h0, r0⟩ := trodAll_cons hA
  obtain ⟨v1, vs1, d1, ds1, p1, q1, rfl, rfl, rfl, h1, r1⟩ := trodAll_cons r0
  obtain ⟨rfl, rfl, rfl⟩ := trodAll_nil r1
  obtain rfl : args = #[v0, v1] := by cases args; simp_all
  obtain ⟨rfl, rfl⟩ := trodVars_none hV
  have k0 := h0
  have lt0 : ∀ x ∈ p0, x.block < W.heap.size := by obtain ⟨m, hm⟩ := k0; exact DataW.trod_lt m _ _ _ hm
  have k1 := h1
  have lt1 : ∀ x ∈ p1, x.block < W.heap.size := by obtain ⟨m, hm⟩ := k1; exact DataW.trod_lt m _ _ _ hm
  obtain ⟨a0, len0, cap0, rfl⟩ := okWide_slice Try.underlying22 (hval 0 22 v0 rfl rfl)
  obtain ⟨l0, hl0, hn0, hb0, hz0⟩ := open_records (hval 0 22 _ rfl rfl) h0 (fun m hm => by have := List.all_eq_true.1 hsz m (DataW.weights_mem_each (j := 0) (t := 22) rfl rfl m hm); simpa using this)
  obtain ⟨a1, len1, cap1, rfl⟩ := okWide_slice Try.underlying22 (hval 1 22 v1 rfl rfl)
  obtain ⟨l1, hl1, hn1, hb1, hz1⟩ := open_records (hval 1 22 _ rfl rfl) h1 (fun m hm => by have := List.all_eq_true.1 hsz m (DataW.weights_mem_each (j := 1) (t := 22) rfl rfl m hm); simpa using this)
  clear hA0 hA
  refine (joins6 (ca := cap0) (cb := cap1) hl0 (by omega) hl1 (by omega) hb0 hb1 hz0 hz1).mono fun e W' ⟨he, bel⟩ => ?_
  subst he
  exact ⟨_, rfl, _, _, _, [], _, [], hW', trodAll_mk1 (shut_bool Try.underlying4 _), (trodAll_cons_mk (Below.trod laidOut (by kernel_rfl) (of_decide_eq_true (by kernel_rfl)) k0 bel lt0) (trodAll_cons_mk (Below.trod laidOut (by kernel_rfl) (of_decide_eq_true (by kernel_rfl)) k1 bel lt1) (trodAll_mk0))), rfl, bel.frame _, fun h => by cases h⟩

set_option maxRecDepth 100000 in
/-- A world for the witness: the settled one. -/
theorem witness (os : Os) {H : Type} (enc : TypeId × Value → H) : ∃ (w : World) (tape : Tape) (i : Input), w.os = os ∧ (w.forCall tape i).Shaped Try.checked.prog ∧ i.vars = [] ∧ Input.okWide Try.checked.prog (w.forCall tape i) .any w.heap.size 6 i ∧
      (OpenSpec.ofChange Rows.indexJoinsSpec).preRow enc Try.checked.prog Try.f6 Rows.indexJoinsRow.domain false Rows.indexJoinsRow.laid (w.forCall tape i).memory i.args ∧ ({} : Assume).holds Try.checked.prog (lone (Frame.enter Try.checked.prog 6 i.args .normal) [] (w.forCall tape i)) :=
  witness_row_at (enc := enc) (C := Try.checked) false (World.holding Try.prog os ⟨#[], #[], []⟩) #[.slice none 0 0, .slice none 0 0] rfl (by kernel_rfl) (by kernel_rfl) (by kernel_rfl)
    (OpenSpec.preRow_of_cond 8 (x := ([.nil, .nil], [], [])) (by kernel_rfl) (by kernel_rfl) (fun k hk => by cases hk) (by kernel_rfl) (laidMet_nil _ _))

set_option maxRecDepth 100000 in
theorem lifted (os : Os) (started : os.Started) (H : Type) (enc : TypeId × Value → H) (F : Stop.Interp) :
    ReturnsInHanded {} Try.checked os 6 .any ((OpenSpec.ofChange Rows.indexJoinsSpec).preRow enc Try.prog Try.f6 Rows.indexJoinsRow.domain false Rows.indexJoinsRow.laid) (((OpenSpec.ofChange Rows.indexJoinsSpec).at F).post enc Try.prog Try.f6 false true false false) := by
  refine returnsInHanded_of_row (C := Try.checked) (s := OpenSpec.ofChange Rows.indexJoinsSpec) own started (by kernel_rfl) Try.func6 (witness os enc) ?_
  intro W base args ds gs before hval hW _ _ hsz _ _ _
  exact contract H enc W base args ds gs before hval hW hsz

set_option maxRecDepth 100000 in
theorem said : Rows.IndexJoinsSaid :=
  OpenClaim.holds_of_cond 6 Try.f6 rfl rfl rfl rfl rfl rfl rfl ⟨rfl, rfl, rfl, rfl, rfl⟩ rfl rfl rfl rfl rfl (by kernel_rfl) Try.func6 (by kernel_rfl)
    (of_decide_eq_true (by kernel_rfl)) (by unfold Func.isWrapper; first | (rw [if_pos (by decide +kernel)]; kernel_rfl) | (rw [if_neg (by decide +kernel)]; exact ⟨rfl, rfl⟩))
    (fun os started H enc _ F => by rw [OpenClaim.pre_eq_preRow]; exact lifted os started H enc F)
end Go.Proofs.Ytcmcapcagblafaa.IndexJoins
namespace Go.Proofs.Ytcmcapcagblafaa
theorem indexJoins_holds : Rows.IndexJoinsSaid := IndexJoins.said
end Go.Proofs.Ytcmcapcagblafaa
