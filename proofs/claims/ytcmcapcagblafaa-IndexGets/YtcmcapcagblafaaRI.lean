/-
  THE WALKS OF hashes.Rising (47) AND stemmaref06.Rising (44).
-/
import Derived.Test.YtcmcapcagblafaaLS
namespace Go.Proofs.Ytcmcapcagblafaa
open Go.RowKit
/-- What Rising tells. -/
def upB : List H → Bool
  | x :: y :: l => ltB x y && upB (y :: l)
  | _ => true
theorem upB_pre : ∀ (l : List H), (∀ (j : Nat) (x y : H), l[j]? = some x → l[j + 1]? = some y → ltB x y = true) → upB l = true
  | [], _ => rfl
  | [_], _ => rfl
  | x :: y :: l, h => by
    unfold upB
    rw [h 0 x y rfl rfl, upB_pre (y :: l) (fun j p q hp hq => h (j + 1) p q hp hq)]; rfl
theorem upB_at : ∀ (l : List H), upB l = true → ∀ (j : Nat) (x y : H), l[j]? = some x → l[j + 1]? = some y → ltB x y = true
  | [], _, j, _, _, hj, _ => by simp at hj
  | [_], _, j, _, _, _, hj => by simp at hj
  | x :: y :: l, h, 0, p, q, hp, hq => by
    unfold upB at h
    simp only [Bool.and_eq_true] at h
    simp at hp hq; subst hp hq; exact h.1
  | x :: y :: l, h, j + 1, p, q, hp, hq => by
    unfold upB at h
    simp only [Bool.and_eq_true] at h
    exact upB_at (y :: l) h.2 j p q (by simpa using hp) (by simpa using hq)
structure RiI (w : World) (l : List H) (i : Nat) (wr : World) : Prop where
  aft : After w wr
  pre : ∀ (j : Nat) (x y : H), j + 1 < i → l[j]? = some x → l[j + 1]? = some y → ltB x y = true

theorem x_sub1 {a : Act} {w : World} {oi : Oper} {k i : Nat} {x : Operand} (hop : oi.op = .binOp .sub 3 x (.const (.int .i64 1)) 3) (hx : a.eval x = .int .i64 (k : Int)) (hi : k = i + 1) (hk : k < 4611686018427387904) : (execOp a.eval oi).run Try.prog w = .ok (.value (.int .i64 (i : Int))) w := by
  subst hi
  unfold execOp
  simp only [hop, hx]
  simp [go_sem, Act.eval, IntKind.wrap, IntKind.bits, IntKind.signed]
  omega
set_option maxRecDepth 100000 in
set_option maxHeartbeats 3200000 in
theorem rising47 {ao : Option Addr} {ca : Nat} {l : List H} (h32 : All32 l) {n : Nat} (hl : l.length = n) (hbig : n ≤ 1152921504606846976) {w : World} (hA : SlAt w 32 ao (hsL l)) :
    Calls Try.prog 20 #[.slice ao n ca] w fun e w' => e = .returned (.bool (upB l)) ∧ After w w' := by
  have HFA : Hid (SlAt w 32 ao (hsL l) ∧ All32 l ∧ l.length = n) := ⟨hA, h32, hl⟩
  clear hA h32 hl
  go_enter Try.func20, Try.ntmps20
  go_wp2_with fail
  go_loopw [3] (fun iv wr => ∃ k : Nat, 1 ≤ k ∧ k ≤ n + 1 ∧ iv = .int .i64 (k : Int) ∧ Hid (RiI w l k wr)) (fun iv _ => n + 1 - (intOf iv).toNat)
  case atStart => exact ⟨1, Nat.le_refl _, by omega, rfl, After.refl w, fun j _ _ hj => by omega⟩
  case round =>
    obtain ⟨k, hk1, hkn, rfl, HI⟩ := hrel
    by_cases hlt : k < n
    · have hii : (k : Int) < (n : Int) := by omega
      obtain ⟨i, hik⟩ : ∃ i, k = i + 1 := ⟨k - 1, by omega⟩
      have hin' : i < n := by omega
      obtain ⟨x, hx⟩ : ∃ x, l[i]? = some x := ⟨_, List.getElem?_eq_getElem (by rw [HFA.out.2.2]; omega)⟩
      obtain ⟨y, hy⟩ : ∃ y, l[i + 1]? = some y := ⟨_, List.getElem?_eq_getElem (by rw [HFA.out.2.2]; omega)⟩
      obtain ⟨xb, xo, hxa, hxr⟩ := HFA.out.1.at (hs_get hx)
      obtain ⟨yb, yo, hya, hyr⟩ := HFA.out.1.at (hs_get hy)
      subst hxa
      cases hya
      have HX : Hid (x.length = 32 ∧ wr.rangeAt xb (xo + i * 32) (c8 x)) := ⟨HFA.out.2.1 x (List.mem_of_getElem? hx), range_after hxr HI.out.aft⟩
      have HY : Hid (y.length = 32 ∧ wr.rangeAt xb (xo + k * 32) (c8 y)) := ⟨HFA.out.2.1 y (List.mem_of_getElem? hy), by rw [hik]; exact range_after hyr HI.out.aft⟩
      have HXY : Hid (l[i]? = some x ∧ l[i + 1]? = some y) := ⟨hx, hy⟩
      have HIK : Hid (k = i + 1) := hik
      clear hx hy hxr hyr hik
      go_wp2_with fail
      refine wp_region_noPanic ?_
      refine wp_region_held_drew (S := After wr) (by kernel_rfl) (After.drew (After.refl wr)) ?_
      intro hS0
      refine tk 0 10 (.slice (some ⟨xb, xo, none⟩) n ca) (fuel := 10) rfl (by kernel_rfl) (by kernel_rfl) (by kernel_rfl) (by kernel_rfl) noPanic_false (by kernel_rfl) (fun _ _ => by kernel_rfl) hS0 ?_
      refine tk 1 11 (.int .i64 (k : Int)) (fuel := 9) rfl (by kernel_rfl) (by kernel_rfl) (by kernel_rfl) (by kernel_rfl) noPanic_false (by kernel_rfl) (fun _ _ => by kernel_rfl) hS0 ?_
      refine tk 2 12 (.int .i64 (i : Int)) (fuel := 8) rfl (by kernel_rfl) (by kernel_rfl) (by kernel_rfl) (by kernel_rfl) noPanic_false (by kernel_rfl) (fun W _ => x_sub1 (k := k) (i := i) (x := .tmp 11) (by kernel_rfl) (by kernel_rfl) HIK.out (by omega)) hS0 ?_
      refine tk 3 13 (.pointer (some ⟨xb, xo + i * 32, none⟩)) (fuel := 7) rfl (by kernel_rfl) (by kernel_rfl) (by kernel_rfl) (by kernel_rfl) noPanic_false (by kernel_rfl) (fun W _ => x_idx44 (n := n) (c := ca) (x := .tmp 10) (y := .tmp 12) (by kernel_rfl) (by kernel_rfl) (by kernel_rfl) hin') hS0 ?_
      refine tk 4 14 (.agg (c8 x).toArray) (fuel := 6) rfl (by kernel_rfl) (by kernel_rfl) (by kernel_rfl) (by kernel_rfl) noPanic_false (by kernel_rfl) (fun W hW => x_ld95 HX.out.1 (x := .tmp 13) (g := xb) (p := xo + i * 32) (by kernel_rfl) (by kernel_rfl) (range_after HX.out.2 hW)) hS0 ?_
      refine tk 5 15 (.slice (some ⟨xb, xo, none⟩) n ca) (fuel := 5) rfl (by kernel_rfl) (by kernel_rfl) (by kernel_rfl) (by kernel_rfl) noPanic_false (by kernel_rfl) (fun _ _ => by kernel_rfl) hS0 ?_
      refine tk 6 16 (.int .i64 (k : Int)) (fuel := 4) rfl (by kernel_rfl) (by kernel_rfl) (by kernel_rfl) (by kernel_rfl) noPanic_false (by kernel_rfl) (fun _ _ => by kernel_rfl) hS0 ?_
      refine tk 7 17 (.pointer (some ⟨xb, xo + k * 32, none⟩)) (fuel := 3) rfl (by kernel_rfl) (by kernel_rfl) (by kernel_rfl) (by kernel_rfl) noPanic_false (by kernel_rfl) (fun W _ => x_idx44 (n := n) (c := ca) (x := .tmp 15) (y := .tmp 16) (by kernel_rfl) (by kernel_rfl) (by kernel_rfl) hlt) hS0 ?_
      refine tk 8 18 (.agg (c8 y).toArray) (fuel := 2) rfl (by kernel_rfl) (by kernel_rfl) (by kernel_rfl) (by kernel_rfl) noPanic_false (by kernel_rfl) (fun W hW => x_ld95 HY.out.1 (x := .tmp 17) (g := xb) (p := xo + k * 32) (by kernel_rfl) (by kernel_rfl) (range_after HY.out.2 hW)) hS0 ?_
      refine tkCallZ 9 19 40 #[.agg (c8 x).toArray, .agg (c8 y).toArray] (fun v w' => v = .bool (ltB x y) ∧ After wr w') (fuel := 1) rfl (by kernel_rfl) (by kernel_rfl) (by kernel_rfl) (fun _ => by kernel_rfl) ((less_any x y HX.out.1 HY.out.1 wr.drew).mono (fun e w' ⟨he, ha⟩ => ⟨_, he, rfl, After.trans hS0 ha⟩)) ?_
      intro v1 w1 ⟨hv1, hA1⟩
      subst hv1
      refine ⟨hA1, ?_⟩
      refine tk 10 20 (.bool (!ltB x y)) (fuel := 0) rfl (by kernel_rfl) (by kernel_rfl) (by kernel_rfl) (by kernel_rfl) noPanic_false (by kernel_rfl) (fun _ _ => by kernel_rfl) hA1 ?_
      refine wpAnyH_done (by kernel_rfl) (NoPanic.normal ?_) _
      have HA1 : Hid (After w w1) := After.trans HI.out.aft hA1
      clear hS0 hA1
      by_cases hxy : ltB x y = true
      · have hd : (!ltB x y) = false := by simp [hxy]
        rw [hd]
        have HXL : Hid (ltB x y = true) := hxy
        clear hxy hd
        go_simp
        go_wp2
        go_roundw
        case rel => exact ⟨k + 1, by omega, by omega, by go_num, HA1.out, fun j p q hj hp hq => by
          have hik := HIK.out
          by_cases e : j = i
          · subst e; rw [HXY.out.1] at hp; rw [HXY.out.2] at hq; cases hp; cases hq; exact HXL.out
          · exact HI.out.pre j p q (by omega) hp hq⟩
        case measure => simp [intOf]; omega
      · have hd : (!ltB x y) = true := by simp [hxy]
        rw [hd]
        have HXL : Hid (¬ ltB x y = true) := hxy
        clear hxy hd
        go_simp
        go_wp2
        go_ret
        refine ⟨?_, HA1.out⟩
        have : upB l = false := Bool.eq_false_iff.2 (fun e => HXL.out (upB_at l e i x y HXY.out.1 HXY.out.2))
        rw [this]; rfl
    · have hii : ¬ (k : Int) < (n : Int) := by omega
      go_wp2
      go_ret
      refine ⟨?_, HI.out.aft⟩
      have : upB l = true := upB_pre l (fun j x y hx hy => HI.out.pre j x y (by have := (List.getElem?_eq_some_iff.1 hy).1; rw [HFA.out.2.2] at this; omega) hx hy)
      rw [this]; rfl
set_option maxRecDepth 100000 in
set_option maxHeartbeats 3200000 in
theorem rising44 {ao : Option Addr} {ca : Nat} {l : List H} (h32 : All32 l) {n : Nat} (hl : l.length = n) (hbig : n ≤ 1152921504606846976) {w : World} (hA : SlAt w 32 ao (hsL l)) :
    Calls Try.prog 49 #[.slice ao n ca] w fun e w' => e = .returned (.bool (upB l)) ∧ After w w' := by
  have HFA : Hid (SlAt w 32 ao (hsL l) ∧ All32 l ∧ l.length = n) := ⟨hA, h32, hl⟩
  clear hA h32 hl
  go_enter Try.func49, Try.ntmps49
  go_wp2_with fail
  go_loopw [3] (fun iv wr => ∃ k : Nat, 1 ≤ k ∧ k ≤ n + 1 ∧ iv = .int .i64 (k : Int) ∧ Hid (RiI w l k wr)) (fun iv _ => n + 1 - (intOf iv).toNat)
  case atStart => exact ⟨1, Nat.le_refl _, by omega, rfl, After.refl w, fun j _ _ hj => by omega⟩
  case round =>
    obtain ⟨k, hk1, hkn, rfl, HI⟩ := hrel
    by_cases hlt : k < n
    · have hii : (k : Int) < (n : Int) := by omega
      obtain ⟨i, hik⟩ : ∃ i, k = i + 1 := ⟨k - 1, by omega⟩
      have hin' : i < n := by omega
      obtain ⟨x, hx⟩ : ∃ x, l[i]? = some x := ⟨_, List.getElem?_eq_getElem (by rw [HFA.out.2.2]; omega)⟩
      obtain ⟨y, hy⟩ : ∃ y, l[i + 1]? = some y := ⟨_, List.getElem?_eq_getElem (by rw [HFA.out.2.2]; omega)⟩
      obtain ⟨xb, xo, hxa, hxr⟩ := HFA.out.1.at (hs_get hx)
      obtain ⟨yb, yo, hya, hyr⟩ := HFA.out.1.at (hs_get hy)
      subst hxa
      cases hya
      have HX : Hid (x.length = 32 ∧ wr.rangeAt xb (xo + i * 32) (c8 x)) := ⟨HFA.out.2.1 x (List.mem_of_getElem? hx), range_after hxr HI.out.aft⟩
      have HY : Hid (y.length = 32 ∧ wr.rangeAt xb (xo + k * 32) (c8 y)) := ⟨HFA.out.2.1 y (List.mem_of_getElem? hy), by rw [hik]; exact range_after hyr HI.out.aft⟩
      have HXY : Hid (l[i]? = some x ∧ l[i + 1]? = some y) := ⟨hx, hy⟩
      have HIK : Hid (k = i + 1) := hik
      clear hx hy hxr hyr hik
      go_wp2_with fail
      refine wp_region_noPanic ?_
      refine wp_region_held_drew (S := After wr) (by kernel_rfl) (After.drew (After.refl wr)) ?_
      intro hS0
      refine tk 0 10 (.slice (some ⟨xb, xo, none⟩) n ca) (fuel := 10) rfl (by kernel_rfl) (by kernel_rfl) (by kernel_rfl) (by kernel_rfl) noPanic_false (by kernel_rfl) (fun _ _ => by kernel_rfl) hS0 ?_
      refine tk 1 11 (.int .i64 (k : Int)) (fuel := 9) rfl (by kernel_rfl) (by kernel_rfl) (by kernel_rfl) (by kernel_rfl) noPanic_false (by kernel_rfl) (fun _ _ => by kernel_rfl) hS0 ?_
      refine tk 2 12 (.int .i64 (i : Int)) (fuel := 8) rfl (by kernel_rfl) (by kernel_rfl) (by kernel_rfl) (by kernel_rfl) noPanic_false (by kernel_rfl) (fun W _ => x_sub1 (k := k) (i := i) (x := .tmp 11) (by kernel_rfl) (by kernel_rfl) HIK.out (by omega)) hS0 ?_
      refine tk 3 13 (.pointer (some ⟨xb, xo + i * 32, none⟩)) (fuel := 7) rfl (by kernel_rfl) (by kernel_rfl) (by kernel_rfl) (by kernel_rfl) noPanic_false (by kernel_rfl) (fun W _ => x_idx44 (n := n) (c := ca) (x := .tmp 10) (y := .tmp 12) (by kernel_rfl) (by kernel_rfl) (by kernel_rfl) hin') hS0 ?_
      refine tk 4 14 (.agg (c8 x).toArray) (fuel := 6) rfl (by kernel_rfl) (by kernel_rfl) (by kernel_rfl) (by kernel_rfl) noPanic_false (by kernel_rfl) (fun W hW => x_ld95 HX.out.1 (x := .tmp 13) (g := xb) (p := xo + i * 32) (by kernel_rfl) (by kernel_rfl) (range_after HX.out.2 hW)) hS0 ?_
      refine tk 5 15 (.slice (some ⟨xb, xo, none⟩) n ca) (fuel := 5) rfl (by kernel_rfl) (by kernel_rfl) (by kernel_rfl) (by kernel_rfl) noPanic_false (by kernel_rfl) (fun _ _ => by kernel_rfl) hS0 ?_
      refine tk 6 16 (.int .i64 (k : Int)) (fuel := 4) rfl (by kernel_rfl) (by kernel_rfl) (by kernel_rfl) (by kernel_rfl) noPanic_false (by kernel_rfl) (fun _ _ => by kernel_rfl) hS0 ?_
      refine tk 7 17 (.pointer (some ⟨xb, xo + k * 32, none⟩)) (fuel := 3) rfl (by kernel_rfl) (by kernel_rfl) (by kernel_rfl) (by kernel_rfl) noPanic_false (by kernel_rfl) (fun W _ => x_idx44 (n := n) (c := ca) (x := .tmp 15) (y := .tmp 16) (by kernel_rfl) (by kernel_rfl) (by kernel_rfl) hlt) hS0 ?_
      refine tk 8 18 (.agg (c8 y).toArray) (fuel := 2) rfl (by kernel_rfl) (by kernel_rfl) (by kernel_rfl) (by kernel_rfl) noPanic_false (by kernel_rfl) (fun W hW => x_ld95 HY.out.1 (x := .tmp 17) (g := xb) (p := xo + k * 32) (by kernel_rfl) (by kernel_rfl) (range_after HY.out.2 hW)) hS0 ?_
      refine tkCallZ 9 19 72 #[.agg (c8 x).toArray, .agg (c8 y).toArray] (fun v w' => v = .bool (ltB x y) ∧ After wr w') (fuel := 1) rfl (by kernel_rfl) (by kernel_rfl) (by kernel_rfl) (fun _ => by kernel_rfl) ((refLess_any x y HX.out.1 HY.out.1 wr.drew).mono (fun e w' ⟨he, ha⟩ => ⟨_, he, rfl, After.trans hS0 ha⟩)) ?_
      intro v1 w1 ⟨hv1, hA1⟩
      subst hv1
      refine ⟨hA1, ?_⟩
      refine tk 10 20 (.bool (!ltB x y)) (fuel := 0) rfl (by kernel_rfl) (by kernel_rfl) (by kernel_rfl) (by kernel_rfl) noPanic_false (by kernel_rfl) (fun _ _ => by kernel_rfl) hA1 ?_
      refine wpAnyH_done (by kernel_rfl) (NoPanic.normal ?_) _
      have HA1 : Hid (After w w1) := After.trans HI.out.aft hA1
      clear hS0 hA1
      by_cases hxy : ltB x y = true
      · have hd : (!ltB x y) = false := by simp [hxy]
        rw [hd]
        have HXL : Hid (ltB x y = true) := hxy
        clear hxy hd
        go_simp
        go_wp2
        go_roundw
        case rel => exact ⟨k + 1, by omega, by omega, by go_num, HA1.out, fun j p q hj hp hq => by
          have hik := HIK.out
          by_cases e : j = i
          · subst e; rw [HXY.out.1] at hp; rw [HXY.out.2] at hq; cases hp; cases hq; exact HXL.out
          · exact HI.out.pre j p q (by omega) hp hq⟩
        case measure => simp [intOf]; omega
      · have hd : (!ltB x y) = true := by simp [hxy]
        rw [hd]
        have HXL : Hid (¬ ltB x y = true) := hxy
        clear hxy hd
        go_simp
        go_wp2
        go_ret
        refine ⟨?_, HA1.out⟩
        have : upB l = false := Bool.eq_false_iff.2 (fun e => HXL.out (upB_at l e i x y HXY.out.1 HXY.out.2))
        rw [this]; rfl
    · have hii : ¬ (k : Int) < (n : Int) := by omega
      go_wp2
      go_ret
      refine ⟨?_, HI.out.aft⟩
      have : upB l = true := upB_pre l (fun j x y hx hy => HI.out.pre j x y (by have := (List.getElem?_eq_some_iff.1 hy).1; rw [HFA.out.2.2] at this; omega) hx hy)
      rw [this]; rfl
end Go.Proofs.Ytcmcapcagblafaa
