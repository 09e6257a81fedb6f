/-
  THE WALK OF stemmalaw06.HashesSets.
-/
import Derived.Test.YtedghldjpkabmaaRefSets
namespace Go.Proofs.Ytedghldjpkabmaa
open Go.RowKit Go.Sort
theorem TellW.told {W w' : World} {qs : List Lq} {N : Nat} {p : Hs → Prop} {e : Ending} (hs : LsAll W qs) (h : TellW W N p e w') : Told W qs N p e w' := by
  obtain ⟨o, k, c, s, rfl, hw, hk⟩ := h
  exact ⟨o, k, c, s, rfl, LsAll.cons ⟨hw.ws.at_, hw.ws.a32, hw.ws.len⟩ (hs.after hw.aft), ⟨hw.ws.up, hw.mem, hw.ws.len, hk⟩, hw.aft⟩
theorem rsort_at {W : World} {qs : List Lq} (hs : LsAll W qs) {ao : Option Addr} {n : Nat} {l : List Hs} (ca : Nat) (hA : (ao, n, l) ∈ qs) (hn : n ≤ 40000) :
    Calls Try.prog 14 #[.slice ao n ca] W (Told W qs n (fun h => h ∈ l)) :=
  (rsort14 ao n ca l (hs _ hA).a32 (hs _ hA).len (by omega) W (hs _ hA).at_).mono (fun _ _ h => h.told hs)
theorem runion_at {W : World} {qs : List Lq} (hs : LsAll W qs) {ao bo : Option Addr} {n m : Nat} {la lb : List Hs} (ca cb : Nat) (hA : (ao, n, la) ∈ qs) (hB : (bo, m, lb) ∈ qs) (hn : n + m ≤ 40000) :
    Calls Try.prog 21 #[.slice ao n ca, .slice bo m cb] W (Told W qs (n + m) (fun h => h ∈ la ∨ h ∈ lb)) :=
  (runion21 ao bo n ca m cb la lb (hs _ hA).a32 (hs _ hA).len (hs _ hB).a32 (hs _ hB).len (by omega) (by omega) W (hs _ hA).at_ (hs _ hB).at_).mono (fun _ _ h => h.told hs)
theorem rminus_at {W : World} {qs : List Lq} (hs : LsAll W qs) {ao bo : Option Addr} {n m : Nat} {la lb : List Hs} (ca cb : Nat) (hA : (ao, n, la) ∈ qs) (hB : (bo, m, lb) ∈ qs) (hn : n + m ≤ 40000) :
    Calls Try.prog 23 #[.slice ao n ca, .slice bo m cb] W (Told W qs n (fun h => h ∈ la ∧ ¬ h ∈ lb)) :=
  (rminus23 ao bo n ca m cb la lb (hs _ hA).a32 (hs _ hA).len (hs _ hB).a32 (hs _ hB).len (by omega) (by omega) W (hs _ hA).at_ (hs _ hB).at_).mono (fun _ _ h => h.told hs)
theorem rmeet_at {W : World} {qs : List Lq} (hs : LsAll W qs) {ao bo : Option Addr} {n m : Nat} {la lb : List Hs} (ca cb : Nat) (hA : (ao, n, la) ∈ qs) (hB : (bo, m, lb) ∈ qs) (hn : n + m ≤ 40000) :
    Calls Try.prog 25 #[.slice ao n ca, .slice bo m cb] W (Told W qs n (fun h => h ∈ la ∧ h ∈ lb)) :=
  (rmeet25 ao bo n ca m cb la lb (hs _ hA).a32 (hs _ hA).len (hs _ hB).a32 (hs _ hB).len (by omega) (by omega) W (hs _ hA).at_ (hs _ hB).at_).mono (fun _ _ h => h.told hs)
theorem rsame_at {W : World} {qs : List Lq} (hs : LsAll W qs) {ao bo : Option Addr} {n m : Nat} {la lb : List Hs} (ca cb : Nat) (hA : (ao, n, la) ∈ qs) (hB : (bo, m, lb) ∈ qs) (hn : n + m ≤ 100000) {t : Bool} (ht : decide (la = lb) = t) :
    Calls Try.prog 13 #[.slice ao n ca, .slice bo m cb] W fun e w' => e = .returned (.bool t) ∧ LsAll w' qs ∧ After W w' :=
  (same13 ao bo ca cb la lb (hs _ hA).a32 (hs _ hB).a32 n m (hs _ hA).len (hs _ hB).len (by omega) W (hs _ hA).at_ (hs _ hB).at_).mono (fun e w' ⟨he, ha⟩ => ⟨by rw [he, ht], hs.after ha, ha⟩)

set_option maxRecDepth 100000 in
set_option maxHeartbeats 6400000 in
theorem sets_any (a0 a1 : Option Addr) (c0 c1 : Nat) (l0 l1 : List Hs) (h0 : All32 l0) (h1 : All32 l1) (n0 n1 : Nat) (e0 : l0.length = n0) (e1 : l1.length = n1) (b0 : n0 ≤ 1152921504606846976) (b1 : n1 ≤ 1152921504606846976) (w : World) (A0 : HsAt w a0 l0) (A1 : HsAt w a1 l1) :
    Calls Try.prog 4 #[.slice a0 n0 c0, .slice a1 n1 c1] w fun e w' => e = .returned (.bool true) ∧ After w w' := by
  have HST0 : Hid (LsAll w [(a0, n0, l0), (a1, n1, l1)]) := LsAll.cons ⟨A0, h0, e0⟩ (LsAll.cons ⟨A1, h1, e1⟩ (fun _ h => by simp at h))
  have HA0 : Hid (After w w) := After.refl w
  clear A0 A1 h0 h1 e0 e1
  by_cases f0 : n0 ≤ 2000
  · have H0 : Hid (decide (n0 ≤ 2000) = true) := decide_eq_true f0
    by_cases f1 : n1 ≤ 2000
    · have H1 : Hid (decide (n1 ≤ 2000) = true) := decide_eq_true f1
      clear b0 b1
      go_enter Try.func4, Try.ntmps4
      go_wp2_with (first
        | (go_at_call 10; refine Calls.mono (few_any a0 n0 c0 (by omega) w (t := true) H0.out) ?_; rintro e wx ⟨rfl, hwx⟩; have hwy := hwx.symm; clear hwx; subst hwy)
        | (go_at_call 10; refine Calls.mono (few_any a1 n1 c1 (by omega) w (t := true) H1.out) ?_; rintro e wx ⟨rfl, hwx⟩; have hwy := hwx.symm; clear hwx; subst hwy)
        | (go_at_call 11; have _u := HST9.out; clear _u; refine Calls.mono (awake_any _) ?_; rintro e w10 ⟨rfl, ha⟩; have HA10 := show Hid (After w w10) from After.trans HA9.out ha; clear ha)
        | (go_at_call 13; refine Calls.mono (rsame_at HST8.out (la := st) (lb := srt) c_t c_rt (by simp) (by simp) (by omega) (decide_eq_true (HRt.out.eq HRrt.out (fun _ => Iff.rfl)))) ?_; rintro e w9 ⟨rfl, hl, ha⟩; have HST9 := show Hid (LsAll _ _) from hl; have HA9 := show Hid (After w w9) from After.trans HA8.out ha; clear hl ha)
        | (go_at_call 25; refine Calls.mono (rmeet_at HST7.out (la := l0) (lb := l1) c0 c1 (by simp) (by simp) (by omega)) ?_; rintro e w8 ⟨ort, krt, c_rt, srt, rfl, hl, hr, ha⟩; have HST8 := show Hid (LsAll _ _) from hl; have HRrt := show Hid (Res _ _ _ _) from hr; have HA8 := show Hid (After w w8) from After.trans HA7.out ha; have hkrt := hr.le; clear hl hr ha)
        | (go_at_call 24; refine Calls.mono (meet_at HST6.out (la := l0) (lb := l1) c0 c1 (by simp) (by simp) (by omega)) ?_; rintro e w7 ⟨ot, kt, c_t, st, rfl, hl, hr, ha⟩; have HST7 := show Hid (LsAll _ _) from hl; have HRt := show Hid (Res _ _ _ _) from hr; have HA7 := show Hid (After w w7) from After.trans HA6.out ha; have hkt := hr.le; clear hl hr ha)
        | (go_at_call 13; refine Calls.mono (rsame_at HST5.out (la := sm) (lb := srm) c_m c_rm (by simp) (by simp) (by omega) (decide_eq_true (HRm.out.eq HRrm.out (fun _ => Iff.rfl)))) ?_; rintro e w6 ⟨rfl, hl, ha⟩; have HST6 := show Hid (LsAll _ _) from hl; have HA6 := show Hid (After w w6) from After.trans HA5.out ha; clear hl ha)
        | (go_at_call 23; refine Calls.mono (rminus_at HST4.out (la := l0) (lb := l1) c0 c1 (by simp) (by simp) (by omega)) ?_; rintro e w5 ⟨orm, krm, c_rm, srm, rfl, hl, hr, ha⟩; have HST5 := show Hid (LsAll _ _) from hl; have HRrm := show Hid (Res _ _ _ _) from hr; have HA5 := show Hid (After w w5) from After.trans HA4.out ha; have hkrm := hr.le; clear hl hr ha)
        | (go_at_call 22; refine Calls.mono (minus_at HST3.out (la := l0) (lb := l1) c0 c1 (by simp) (by simp) (by omega)) ?_; rintro e w4 ⟨om, km, c_m, sm, rfl, hl, hr, ha⟩; have HST4 := show Hid (LsAll _ _) from hl; have HRm := show Hid (Res _ _ _ _) from hr; have HA4 := show Hid (After w w4) from After.trans HA3.out ha; have hkm := hr.le; clear hl hr ha)
        | (go_at_call 13; refine Calls.mono (rsame_at HST2.out (la := su) (lb := sru) c_u c_ru (by simp) (by simp) (by omega) (decide_eq_true (HRu.out.eq HRru.out (fun _ => Iff.rfl)))) ?_; rintro e w3 ⟨rfl, hl, ha⟩; have HST3 := show Hid (LsAll _ _) from hl; have HA3 := show Hid (After w w3) from After.trans HA2.out ha; clear hl ha)
        | (go_at_call 21; refine Calls.mono (runion_at HST1.out (la := l0) (lb := l1) c0 c1 (by simp) (by simp) (by omega)) ?_; rintro e w2 ⟨oru, kru, c_ru, sru, rfl, hl, hr, ha⟩; have HST2 := show Hid (LsAll _ _) from hl; have HRru := show Hid (Res _ _ _ _) from hr; have HA2 := show Hid (After w w2) from After.trans HA1.out ha; have hkru := hr.le; clear hl hr ha)
        | (go_at_call 20; refine Calls.mono (union_at HST0.out (la := l0) (lb := l1) c0 c1 (by simp) (by simp) (by omega)) ?_; rintro e w1 ⟨ou, ku, c_u, su, rfl, hl, hr, ha⟩; have HST1 := show Hid (LsAll _ _) from hl; have HRu := show Hid (Res _ _ _ _) from hr; have HA1 := show Hid (After w w1) from After.trans HA0.out ha; have hku := hr.le; clear hl hr ha))
      go_ret
      exact ⟨rfl, HA10.out⟩
    · have H1 : Hid (decide (n1 ≤ 2000) = false) := decide_eq_false f1
      go_enter Try.func4, Try.ntmps4
      go_wp2_with (first | (go_at_call 10; refine Calls.mono (few_any a0 n0 c0 (by omega) w (t := true) H0.out) ?_; rintro e wx ⟨rfl, hwx⟩; have hwy := hwx.symm; clear hwx; subst hwy) | (go_at_call 10; refine Calls.mono (few_any a1 n1 c1 (by omega) w (t := false) H1.out) ?_; rintro e wx ⟨rfl, hwx⟩; have hwy := hwx.symm; clear hwx; subst hwy) | (go_at_call 11; refine Calls.mono (awake_any _) ?_; rintro e w1 ⟨rfl, ha⟩; have HA1 := show Hid (After w w1) from ha; clear ha))
      go_ret
      exact ⟨rfl, HA1.out⟩
  · have H0 : Hid (decide (n0 ≤ 2000) = false) := decide_eq_false f0
    go_enter Try.func4, Try.ntmps4
    go_wp2_with (first | (go_at_call 10; refine Calls.mono (few_any a0 n0 c0 (by omega) w (t := false) H0.out) ?_; rintro e wx ⟨rfl, hwx⟩; have hwy := hwx.symm; clear hwx; subst hwy) | (go_at_call 11; refine Calls.mono (awake_any _) ?_; rintro e w1 ⟨rfl, ha⟩; have HA1 := show Hid (After w w1) from ha; clear ha))
    go_ret
    exact ⟨rfl, HA1.out⟩
end Go.Proofs.Ytedghldjpkabmaa
