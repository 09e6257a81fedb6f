/-
  THE WALKS OF hashes.Rising, hashes.Has, hashes.Sort; ref.Same, ref.Rising; slices.Index, slices.Contains.
-/
import Derived.Test.YtedghldjpkabmaaRising
namespace Go.Proofs.Ytedghldjpkabmaa
open Go.RowKit Go.Maps Go.Sort
section
variable {a : Act} {w : World} {oi : Oper}
theorem x_eq24 {x y : Operand} {h k : Hs} (hh : h.length = 32) (hk : k.length = 32) (hop : oi.op = .binOp .eql 24 x y 24) (hx : a.eval x = hv h) (hy : a.eval y = hv k) : (execOp a.eval oi).run Try.prog w = .ok (.value (.bool (decide (h = k)))) w := by
  have he := eq24 h k hh hk w
  unfold execOp
  simp only [hop, hx, hy]
  unfold hv
  simp [go_sem, he]
theorem x_ne24 {x y : Operand} {h k : Hs} (hh : h.length = 32) (hk : k.length = 32) (hop : oi.op = .binOp .neq 24 x y 24) (hx : a.eval x = hv h) (hy : a.eval y = hv k) : (execOp a.eval oi).run Try.prog w = .ok (.value (.bool (!decide (h = k)))) w := by
  have he := eq24 h k hh hk w
  unfold execOp
  simp only [hop, hx, hy]
  unfold hv
  simp [go_sem, he]
end
theorem eq_of_pre {la lb : List Hs} {n : Nat} (ha : la.length = n) (hb : lb.length = n) (h : ∀ j, j < n → la[j]? = lb[j]?) : la = lb := by
  apply List.ext_getElem?
  intro j
  by_cases hj : j < n
  · exact h j hj
  · rw [List.getElem?_eq_none (by omega), List.getElem?_eq_none (by omega)]
structure SmI (w : World) (la lb : List Hs) (i : Nat) (wr : World) : Prop where
  aft : After w wr
  pre : ∀ j, j < i → la[j]? = lb[j]?

set_option maxRecDepth 100000 in
set_option maxHeartbeats 3200000 in
theorem same13 (ao bo : Option Addr) (ca cb : Nat) (la lb : List Hs) (ha32 : All32 la) (hb32 : All32 lb) (n m : Nat) (hla : la.length = n) (hlb : lb.length = m) (hbig : n ≤ 1152921504606846976) (w : World) (hA : HsAt w ao la) (hB : HsAt w bo lb) :
    Calls Try.prog 13 #[.slice ao n ca, .slice bo m cb] w fun e w' => e = .returned (.bool (decide (la = lb))) ∧ After w w' := by
  by_cases hnm : n = m
  · subst hnm
    have HFA : Hid (HsAt w ao la ∧ All32 la ∧ la.length = n) := ⟨hA, ha32, hla⟩
    have HFB : Hid (HsAt w bo lb ∧ All32 lb ∧ lb.length = n) := ⟨hB, hb32, hlb⟩
    clear hA hB ha32 hb32 hla hlb
    go_enter Try.func13, Try.ntmps13
    go_wp2_with fail
    go_loopw [5] (fun iv wr => ∃ i : Nat, i ≤ n ∧ iv = .int .i64 (i : Int) ∧ Hid (SmI w la lb i wr)) (fun iv _ => n - (intOf iv).toNat)
    case atStart => exact ⟨0, Nat.zero_le _, rfl, After.refl w, fun j hj => by omega⟩
    case round =>
      obtain ⟨i, hin, rfl, HI⟩ := hrel
      by_cases hlt : i < n
      · have hii : (i : Int) < (n : Int) := by omega
        obtain ⟨x, hx⟩ : ∃ x, la[i]? = some x := ⟨_, List.getElem?_eq_getElem (by rw [HFA.out.2.2]; exact hlt)⟩
        obtain ⟨y, hy⟩ : ∃ y, lb[i]? = some y := ⟨_, List.getElem?_eq_getElem (by rw [HFB.out.2.2]; exact hlt)⟩
        obtain ⟨xb, xo, hxa, hxr⟩ := HFA.out.1.get HFA.out.2.1 (by intro e; rw [e] at hx; simp at hx)
        obtain ⟨yb, yo, hya, hyr⟩ := HFB.out.1.get HFB.out.2.1 (by intro e; rw [e] at hy; simp at hy)
        subst hxa hya
        have HX : Hid (x.length = 32 ∧ wr.rangeAt xb (xo + i * 32) (c8 x)) := ⟨HFA.out.2.1.at hx, range_after (hxr i x hx) HI.out.aft⟩
        have HY : Hid (y.length = 32 ∧ wr.rangeAt yb (yo + i * 32) (c8 y)) := ⟨HFB.out.2.1.at hy, range_after (hyr i y hy) HI.out.aft⟩
        have HXY : Hid (la[i]? = some x ∧ lb[i]? = some y) := ⟨hx, hy⟩
        clear hx hy hxr hyr
        go_wp2_with fail
        refine wp_region_noPanic ?_
        refine wp_region_held_drew (S := After wr) (by kernel_rfl) (After.drew (After.refl wr)) ?_
        intro hS0
        refine tk 0 17 (.slice (some ⟨xb, xo, none⟩) n ca) (fuel := 8) rfl (by kernel_rfl) (by kernel_rfl) (by kernel_rfl) (by kernel_rfl) noPanic_false (by kernel_rfl) (fun _ _ => by kernel_rfl) hS0 ?_
        refine tk 1 18 (.int .i64 (i : Int)) (fuel := 7) rfl (by kernel_rfl) (by kernel_rfl) (by kernel_rfl) (by kernel_rfl) noPanic_false (by kernel_rfl) (fun _ _ => by kernel_rfl) hS0 ?_
        refine tk 2 19 (.pointer (some ⟨xb, xo + i * 32, none⟩)) (fuel := 6) rfl (by kernel_rfl) (by kernel_rfl) (by kernel_rfl) (by kernel_rfl) noPanic_false (by kernel_rfl) (fun W _ => x_idx22 (n := n) (c := ca) (x := .tmp 17) (y := .tmp 18) (by kernel_rfl) (by kernel_rfl) (by kernel_rfl) hlt) hS0 ?_
        refine tk 3 20 (hv x) (fuel := 5) rfl (by kernel_rfl) (by kernel_rfl) (by kernel_rfl) (by kernel_rfl) noPanic_false (by kernel_rfl) (fun W hW => x_ld24 HX.out.1 (x := .tmp 19) (g := xb) (p := xo + i * 32) (by kernel_rfl) (by kernel_rfl) (range_after HX.out.2 hW)) hS0 ?_
        refine tk 4 21 (.slice (some ⟨yb, yo, none⟩) n cb) (fuel := 4) rfl (by kernel_rfl) (by kernel_rfl) (by kernel_rfl) (by kernel_rfl) noPanic_false (by kernel_rfl) (fun _ _ => by kernel_rfl) hS0 ?_
        refine tk 5 22 (.int .i64 (i : Int)) (fuel := 3) rfl (by kernel_rfl) (by kernel_rfl) (by kernel_rfl) (by kernel_rfl) noPanic_false (by kernel_rfl) (fun _ _ => by kernel_rfl) hS0 ?_
        refine tk 6 23 (.pointer (some ⟨yb, yo + i * 32, none⟩)) (fuel := 2) rfl (by kernel_rfl) (by kernel_rfl) (by kernel_rfl) (by kernel_rfl) noPanic_false (by kernel_rfl) (fun W _ => x_idx22 (n := n) (c := cb) (x := .tmp 21) (y := .tmp 22) (by kernel_rfl) (by kernel_rfl) (by kernel_rfl) hlt) hS0 ?_
        refine tk 7 24 (hv y) (fuel := 1) rfl (by kernel_rfl) (by kernel_rfl) (by kernel_rfl) (by kernel_rfl) noPanic_false (by kernel_rfl) (fun W hW => x_ld24 HY.out.1 (x := .tmp 23) (g := yb) (p := yo + i * 32) (by kernel_rfl) (by kernel_rfl) (range_after HY.out.2 hW)) hS0 ?_
        refine tk 8 25 (.bool (!decide (x = y))) (fuel := 0) rfl (by kernel_rfl) (by kernel_rfl) (by kernel_rfl) (by kernel_rfl) noPanic_false (by kernel_rfl) (fun W hW => x_ne24 HX.out.1 HY.out.1 (x := .tmp 20) (y := .tmp 24) (by kernel_rfl) (by kernel_rfl) (by kernel_rfl)) hS0 ?_
        refine wpAnyH_done (by kernel_rfl) (NoPanic.normal ?_) _
        have HA1 : Hid (After w wr.drew) := After.trans HI.out.aft hS0
        clear hS0
        by_cases hxy : x = y
        · have hd : (!decide (x = y)) = false := by simp [hxy]
          rw [hd]
          go_simp
          go_wp2
          go_roundw
          case rel => exact ⟨i + 1, by omega, by go_num, HA1.out, fun j hj => by
            by_cases e : j = i
            · subst e; rw [HXY.out.1, HXY.out.2, hxy]
            · exact HI.out.pre j (by omega)⟩
          case measure => simp [intOf]; omega
        · have hd : (!decide (x = y)) = true := by simp [hxy]
          rw [hd]
          go_simp
          go_wp2
          go_ret
          refine ⟨?_, HA1.out⟩
          have : ¬ la = lb := fun e => by have h1 := HXY.out; rw [e] at h1; exact hxy (Option.some.inj (h1.1.symm.trans h1.2))
          simp [this]
      · have hii : ¬ (i : Int) < (n : Int) := by omega
        go_wp2
        go_ret
        refine ⟨?_, HI.out.aft⟩
        have : la = lb := eq_of_pre HFA.out.2.2 HFB.out.2.2 (fun j hj => HI.out.pre j (by omega))
        simp [this]
  · have hnmi : ¬ (n : Int) = (m : Int) := by omega
    have : ¬ la = lb := fun e => hnm (by rw [← hla, ← hlb, e])
    go_enter Try.func13, Try.ntmps13
    go_wp2
    go_ret
    exact ⟨by simp [this], After.refl w⟩
/-- What Rising tells. -/
def upB : List Hs → Bool
  | x :: y :: l => ltB x y && upB (y :: l)
  | _ => true
theorem upB_pre : ∀ (l : List Hs), (∀ (j : Nat) (x y : Hs), l[j]? = some x → l[j + 1]? = some y → ltB x y = true) → upB l = true
  | [], _ => rfl
  | [_], _ => rfl
  | x :: y :: l, h => by
    unfold upB
    rw [h 0 x y rfl rfl, upB_pre (y :: l) (fun j p q hp hq => h (j + 1) p q hp hq)]; rfl
theorem upB_at : ∀ (l : List Hs), upB l = true → ∀ (j : Nat) (x y : Hs), l[j]? = some x → l[j + 1]? = some y → ltB x y = true
  | [], _, j, _, _, hj, _ => by simp at hj
  | [_], _, j, _, _, _, hj => by simp at hj
  | x :: y :: l, h, 0, p, q, hp, hq => by
    unfold upB at h
    simp only [Bool.and_eq_true] at h
    simp at hp hq; subst hp hq; exact h.1
  | x :: y :: l, h, j + 1, p, q, hp, hq => by
    unfold upB at h
    simp only [Bool.and_eq_true] at h
    exact upB_at (y :: l) h.2 j p q (by simpa using hp) (by simpa using hq)
theorem Up.upB {l : List Hs} (h : Up l) (h32 : All32 l) : upB l = true := upB_pre l (fun j x y hx hy => by
  obtain ⟨h1, e1⟩ := List.getElem?_eq_some_iff.1 hx
  obtain ⟨h2, e2⟩ := List.getElem?_eq_some_iff.1 hy
  have := (List.pairwise_iff_getElem.1 h) j (j + 1) h1 h2 (by omega)
  rw [e1, e2] at this
  rw [ltB_str x y (by rw [h32.at hx, h32.at hy])]; exact this)
structure RiI (w : World) (l : List Hs) (i : Nat) (wr : World) : Prop where
  aft : After w wr
  pre : ∀ (j : Nat) (x y : Hs), j + 1 < i → l[j]? = some x → l[j + 1]? = some y → ltB x y = true

theorem x_sub1 {a : Act} {w : World} {oi : Oper} {k i : Nat} {x : Operand} (hop : oi.op = .binOp .sub 3 x (.const (.int .i64 1)) 3) (hx : a.eval x = .int .i64 (k : Int)) (hi : k = i + 1) (hk : k < 4611686018427387904) : (execOp a.eval oi).run Try.prog w = .ok (.value (.int .i64 (i : Int))) w := by
  subst hi
  unfold execOp
  simp only [hop, hx]
  simp [go_sem, Act.eval, IntKind.wrap, IntKind.bits, IntKind.signed]
  omega
set_option maxRecDepth 100000 in
set_option maxHeartbeats 3200000 in
theorem rising15 (ao : Option Addr) (ca : Nat) (l : List Hs) (h32 : All32 l) (n : Nat) (hl : l.length = n) (hbig : n ≤ 1152921504606846976) (w : World) (hA : HsAt w ao l) :
    Calls Try.prog 15 #[.slice ao n ca] w fun e w' => e = .returned (.bool (upB l)) ∧ After w w' := by
  have HFA : Hid (HsAt w ao l ∧ All32 l ∧ l.length = n) := ⟨hA, h32, hl⟩
  clear hA h32 hl
  go_enter Try.func15, Try.ntmps15
  go_wp2_with fail
  go_loopw [3] (fun iv wr => ∃ k : Nat, 1 ≤ k ∧ k ≤ n + 1 ∧ iv = .int .i64 (k : Int) ∧ Hid (RiI w l k wr)) (fun iv _ => n + 1 - (intOf iv).toNat)
  case atStart => exact ⟨1, Nat.le_refl _, by omega, rfl, After.refl w, fun j _ _ hj => by omega⟩
  case round =>
    obtain ⟨k, hk1, hkn, rfl, HI⟩ := hrel
    by_cases hlt : k < n
    · have hii : (k : Int) < (n : Int) := by omega
      obtain ⟨i, hik⟩ : ∃ i, k = i + 1 := ⟨k - 1, by omega⟩
      have hin' : i < n := by omega
      obtain ⟨x, hx⟩ : ∃ x, l[i]? = some x := ⟨_, List.getElem?_eq_getElem (by rw [HFA.out.2.2]; omega)⟩
      obtain ⟨y, hy⟩ : ∃ y, l[i + 1]? = some y := ⟨_, List.getElem?_eq_getElem (by rw [HFA.out.2.2]; omega)⟩
      obtain ⟨xb, xo, hxa, hxr⟩ := HFA.out.1.get HFA.out.2.1 (by intro e; rw [e] at hx; simp at hx)
      subst hxa
      have HX : Hid (x.length = 32 ∧ wr.rangeAt xb (xo + i * 32) (c8 x)) := ⟨HFA.out.2.1.at hx, range_after (hxr i x hx) HI.out.aft⟩
      have HY : Hid (y.length = 32 ∧ wr.rangeAt xb (xo + k * 32) (c8 y)) := ⟨HFA.out.2.1.at hy, by rw [hik]; exact range_after (hxr (i + 1) y hy) HI.out.aft⟩
      have HXY : Hid (l[i]? = some x ∧ l[i + 1]? = some y) := ⟨hx, hy⟩
      have HIK : Hid (k = i + 1) := hik
      clear hx hy hxr hik
      go_wp2_with fail
      refine wp_region_noPanic ?_
      refine wp_region_held_drew (S := After wr) (by kernel_rfl) (After.drew (After.refl wr)) ?_
      intro hS0
      refine tk 0 10 (.slice (some ⟨xb, xo, none⟩) n ca) (fuel := 10) rfl (by kernel_rfl) (by kernel_rfl) (by kernel_rfl) (by kernel_rfl) noPanic_false (by kernel_rfl) (fun _ _ => by kernel_rfl) hS0 ?_
      refine tk 1 11 (.int .i64 (k : Int)) (fuel := 9) rfl (by kernel_rfl) (by kernel_rfl) (by kernel_rfl) (by kernel_rfl) noPanic_false (by kernel_rfl) (fun _ _ => by kernel_rfl) hS0 ?_
      refine tk 2 12 (.int .i64 (i : Int)) (fuel := 8) rfl (by kernel_rfl) (by kernel_rfl) (by kernel_rfl) (by kernel_rfl) noPanic_false (by kernel_rfl) (fun W _ => x_sub1 (k := k) (i := i) (x := .tmp 11) (by kernel_rfl) (by kernel_rfl) HIK.out (by omega)) hS0 ?_
      refine tk 3 13 (.pointer (some ⟨xb, xo + i * 32, none⟩)) (fuel := 7) rfl (by kernel_rfl) (by kernel_rfl) (by kernel_rfl) (by kernel_rfl) noPanic_false (by kernel_rfl) (fun W _ => x_idx22 (n := n) (c := ca) (x := .tmp 10) (y := .tmp 12) (by kernel_rfl) (by kernel_rfl) (by kernel_rfl) hin') hS0 ?_
      refine tk 4 14 (hv x) (fuel := 6) rfl (by kernel_rfl) (by kernel_rfl) (by kernel_rfl) (by kernel_rfl) noPanic_false (by kernel_rfl) (fun W hW => x_ld24 HX.out.1 (x := .tmp 13) (g := xb) (p := xo + i * 32) (by kernel_rfl) (by kernel_rfl) (range_after HX.out.2 hW)) hS0 ?_
      refine tk 5 15 (.slice (some ⟨xb, xo, none⟩) n ca) (fuel := 5) rfl (by kernel_rfl) (by kernel_rfl) (by kernel_rfl) (by kernel_rfl) noPanic_false (by kernel_rfl) (fun _ _ => by kernel_rfl) hS0 ?_
      refine tk 6 16 (.int .i64 (k : Int)) (fuel := 4) rfl (by kernel_rfl) (by kernel_rfl) (by kernel_rfl) (by kernel_rfl) noPanic_false (by kernel_rfl) (fun _ _ => by kernel_rfl) hS0 ?_
      refine tk 7 17 (.pointer (some ⟨xb, xo + k * 32, none⟩)) (fuel := 3) rfl (by kernel_rfl) (by kernel_rfl) (by kernel_rfl) (by kernel_rfl) noPanic_false (by kernel_rfl) (fun W _ => x_idx22 (n := n) (c := ca) (x := .tmp 15) (y := .tmp 16) (by kernel_rfl) (by kernel_rfl) (by kernel_rfl) hlt) hS0 ?_
      refine tk 8 18 (hv y) (fuel := 2) rfl (by kernel_rfl) (by kernel_rfl) (by kernel_rfl) (by kernel_rfl) noPanic_false (by kernel_rfl) (fun W hW => x_ld24 HY.out.1 (x := .tmp 17) (g := xb) (p := xo + k * 32) (by kernel_rfl) (by kernel_rfl) (range_after HY.out.2 hW)) hS0 ?_
      refine tkCallS 9 19 37 #[hv x, hv y] (fun v w' => v = .bool (ltB x y) ∧ After wr w') (fuel := 1) rfl (by kernel_rfl) (by kernel_rfl) (by kernel_rfl) (fun _ => by kernel_rfl) ((less_any x y HX.out.1 HY.out.1 wr.drew).mono (fun e w' ⟨he, ha⟩ => ⟨_, he, rfl, After.trans hS0 ha⟩)) ?_
      intro v1 w1 ⟨hv1, hA1⟩
      subst hv1
      refine ⟨hA1, ?_⟩
      refine tk 10 20 (.bool (!ltB x y)) (fuel := 0) rfl (by kernel_rfl) (by kernel_rfl) (by kernel_rfl) (by kernel_rfl) noPanic_false (by kernel_rfl) (fun _ _ => by kernel_rfl) hA1 ?_
      refine wpAnyH_done (by kernel_rfl) (NoPanic.normal ?_) _
      have HA1 : Hid (After w w1) := After.trans HI.out.aft hA1
      clear hS0 hA1
      by_cases hxy : ltB x y = true
      · have hd : (!ltB x y) = false := by simp [hxy]
        rw [hd]
        have HXL : Hid (ltB x y = true) := hxy
        clear hxy hd
        go_simp
        go_wp2
        go_roundw
        case rel => exact ⟨k + 1, by omega, by omega, by go_num, HA1.out, fun j p q hj hp hq => by
          have hik := HIK.out
          by_cases e : j = i
          · subst e; rw [HXY.out.1] at hp; rw [HXY.out.2] at hq; cases hp; cases hq; exact HXL.out
          · exact HI.out.pre j p q (by omega) hp hq⟩
        case measure => simp [intOf]; omega
      · have hd : (!ltB x y) = true := by simp [hxy]
        rw [hd]
        have HXL : Hid (¬ ltB x y = true) := hxy
        clear hxy hd
        go_simp
        go_wp2
        go_ret
        refine ⟨?_, HA1.out⟩
        have : upB l = false := Bool.eq_false_iff.2 (fun e => HXL.out (upB_at l e i x y HXY.out.1 HXY.out.2))
        rw [this]; rfl
    · have hii : ¬ (k : Int) < (n : Int) := by omega
      go_wp2
      go_ret
      refine ⟨?_, HI.out.aft⟩
      have : upB l = true := upB_pre l (fun j x y hx hy => HI.out.pre j x y (by have := (List.getElem?_eq_some_iff.1 hy).1; rw [HFA.out.2.2] at this; omega) hx hy)
      rw [this]; rfl
set_option maxRecDepth 100000 in
set_option maxHeartbeats 3200000 in
theorem rising16 (ao : Option Addr) (ca : Nat) (l : List Hs) (h32 : All32 l) (n : Nat) (hl : l.length = n) (hbig : n ≤ 1152921504606846976) (w : World) (hA : HsAt w ao l) :
    Calls Try.prog 16 #[.slice ao n ca] w fun e w' => e = .returned (.bool (upB l)) ∧ After w w' := by
  have HFA : Hid (HsAt w ao l ∧ All32 l ∧ l.length = n) := ⟨hA, h32, hl⟩
  clear hA h32 hl
  go_enter Try.func16, Try.ntmps16
  go_wp2_with fail
  go_loopw [3] (fun iv wr => ∃ k : Nat, 1 ≤ k ∧ k ≤ n + 1 ∧ iv = .int .i64 (k : Int) ∧ Hid (RiI w l k wr)) (fun iv _ => n + 1 - (intOf iv).toNat)
  case atStart => exact ⟨1, Nat.le_refl _, by omega, rfl, After.refl w, fun j _ _ hj => by omega⟩
  case round =>
    obtain ⟨k, hk1, hkn, rfl, HI⟩ := hrel
    by_cases hlt : k < n
    · have hii : (k : Int) < (n : Int) := by omega
      obtain ⟨i, hik⟩ : ∃ i, k = i + 1 := ⟨k - 1, by omega⟩
      have hin' : i < n := by omega
      obtain ⟨x, hx⟩ : ∃ x, l[i]? = some x := ⟨_, List.getElem?_eq_getElem (by rw [HFA.out.2.2]; omega)⟩
      obtain ⟨y, hy⟩ : ∃ y, l[i + 1]? = some y := ⟨_, List.getElem?_eq_getElem (by rw [HFA.out.2.2]; omega)⟩
      obtain ⟨xb, xo, hxa, hxr⟩ := HFA.out.1.get HFA.out.2.1 (by intro e; rw [e] at hx; simp at hx)
      subst hxa
      have HX : Hid (x.length = 32 ∧ wr.rangeAt xb (xo + i * 32) (c8 x)) := ⟨HFA.out.2.1.at hx, range_after (hxr i x hx) HI.out.aft⟩
      have HY : Hid (y.length = 32 ∧ wr.rangeAt xb (xo + k * 32) (c8 y)) := ⟨HFA.out.2.1.at hy, by rw [hik]; exact range_after (hxr (i + 1) y hy) HI.out.aft⟩
      have HXY : Hid (l[i]? = some x ∧ l[i + 1]? = some y) := ⟨hx, hy⟩
      have HIK : Hid (k = i + 1) := hik
      clear hx hy hxr hik
      go_wp2_with fail
      refine wp_region_noPanic ?_
      refine wp_region_held_drew (S := After wr) (by kernel_rfl) (After.drew (After.refl wr)) ?_
      intro hS0
      refine tk 0 10 (.slice (some ⟨xb, xo, none⟩) n ca) (fuel := 10) rfl (by kernel_rfl) (by kernel_rfl) (by kernel_rfl) (by kernel_rfl) noPanic_false (by kernel_rfl) (fun _ _ => by kernel_rfl) hS0 ?_
      refine tk 1 11 (.int .i64 (k : Int)) (fuel := 9) rfl (by kernel_rfl) (by kernel_rfl) (by kernel_rfl) (by kernel_rfl) noPanic_false (by kernel_rfl) (fun _ _ => by kernel_rfl) hS0 ?_
      refine tk 2 12 (.int .i64 (i : Int)) (fuel := 8) rfl (by kernel_rfl) (by kernel_rfl) (by kernel_rfl) (by kernel_rfl) noPanic_false (by kernel_rfl) (fun W _ => x_sub1 (k := k) (i := i) (x := .tmp 11) (by kernel_rfl) (by kernel_rfl) HIK.out (by omega)) hS0 ?_
      refine tk 3 13 (.pointer (some ⟨xb, xo + i * 32, none⟩)) (fuel := 7) rfl (by kernel_rfl) (by kernel_rfl) (by kernel_rfl) (by kernel_rfl) noPanic_false (by kernel_rfl) (fun W _ => x_idx22 (n := n) (c := ca) (x := .tmp 10) (y := .tmp 12) (by kernel_rfl) (by kernel_rfl) (by kernel_rfl) hin') hS0 ?_
      refine tk 4 14 (hv x) (fuel := 6) rfl (by kernel_rfl) (by kernel_rfl) (by kernel_rfl) (by kernel_rfl) noPanic_false (by kernel_rfl) (fun W hW => x_ld24 HX.out.1 (x := .tmp 13) (g := xb) (p := xo + i * 32) (by kernel_rfl) (by kernel_rfl) (range_after HX.out.2 hW)) hS0 ?_
      refine tk 5 15 (.slice (some ⟨xb, xo, none⟩) n ca) (fuel := 5) rfl (by kernel_rfl) (by kernel_rfl) (by kernel_rfl) (by kernel_rfl) noPanic_false (by kernel_rfl) (fun _ _ => by kernel_rfl) hS0 ?_
      refine tk 6 16 (.int .i64 (k : Int)) (fuel := 4) rfl (by kernel_rfl) (by kernel_rfl) (by kernel_rfl) (by kernel_rfl) noPanic_false (by kernel_rfl) (fun _ _ => by kernel_rfl) hS0 ?_
      refine tk 7 17 (.pointer (some ⟨xb, xo + k * 32, none⟩)) (fuel := 3) rfl (by kernel_rfl) (by kernel_rfl) (by kernel_rfl) (by kernel_rfl) noPanic_false (by kernel_rfl) (fun W _ => x_idx22 (n := n) (c := ca) (x := .tmp 15) (y := .tmp 16) (by kernel_rfl) (by kernel_rfl) (by kernel_rfl) hlt) hS0 ?_
      refine tk 8 18 (hv y) (fuel := 2) rfl (by kernel_rfl) (by kernel_rfl) (by kernel_rfl) (by kernel_rfl) noPanic_false (by kernel_rfl) (fun W hW => x_ld24 HY.out.1 (x := .tmp 17) (g := xb) (p := xo + k * 32) (by kernel_rfl) (by kernel_rfl) (range_after HY.out.2 hW)) hS0 ?_
      refine tkCallS 9 19 38 #[hv x, hv y] (fun v w' => v = .bool (ltB x y) ∧ After wr w') (fuel := 1) rfl (by kernel_rfl) (by kernel_rfl) (by kernel_rfl) (fun _ => by kernel_rfl) ((refLess_any x y HX.out.1 HY.out.1 wr.drew).mono (fun e w' ⟨he, ha⟩ => ⟨_, he, rfl, After.trans hS0 ha⟩)) ?_
      intro v1 w1 ⟨hv1, hA1⟩
      subst hv1
      refine ⟨hA1, ?_⟩
      refine tk 10 20 (.bool (!ltB x y)) (fuel := 0) rfl (by kernel_rfl) (by kernel_rfl) (by kernel_rfl) (by kernel_rfl) noPanic_false (by kernel_rfl) (fun _ _ => by kernel_rfl) hA1 ?_
      refine wpAnyH_done (by kernel_rfl) (NoPanic.normal ?_) _
      have HA1 : Hid (After w w1) := After.trans HI.out.aft hA1
      clear hS0 hA1
      by_cases hxy : ltB x y = true
      · have hd : (!ltB x y) = false := by simp [hxy]
        rw [hd]
        have HXL : Hid (ltB x y = true) := hxy
        clear hxy hd
        go_simp
        go_wp2
        go_roundw
        case rel => exact ⟨k + 1, by omega, by omega, by go_num, HA1.out, fun j p q hj hp hq => by
          have hik := HIK.out
          by_cases e : j = i
          · subst e; rw [HXY.out.1] at hp; rw [HXY.out.2] at hq; cases hp; cases hq; exact HXL.out
          · exact HI.out.pre j p q (by omega) hp hq⟩
        case measure => simp [intOf]; omega
      · have hd : (!ltB x y) = true := by simp [hxy]
        rw [hd]
        have HXL : Hid (¬ ltB x y = true) := hxy
        clear hxy hd
        go_simp
        go_wp2
        go_ret
        refine ⟨?_, HA1.out⟩
        have : upB l = false := Bool.eq_false_iff.2 (fun e => HXL.out (upB_at l e i x y HXY.out.1 HXY.out.2))
        rw [this]; rfl
    · have hii : ¬ (k : Int) < (n : Int) := by omega
      go_wp2
      go_ret
      refine ⟨?_, HI.out.aft⟩
      have : upB l = true := upB_pre l (fun j x y hx hy => HI.out.pre j x y (by have := (List.getElem?_eq_some_iff.1 hy).1; rw [HFA.out.2.2] at this; omega) hx hy)
      rw [this]; rfl
structure IxI (w : World) (h : Hs) (l : List Hs) (i B : Nat) (wr : World) : Prop where
  aft : After w wr
  row : wr.heap[B]? = some (.cells (c8 h).toArray 24 (0, 0))
  pre : ∀ (j : Nat) (x : Hs), j < i → l[j]? = some x → ¬ h = x
set_option maxRecDepth 100000 in
set_option maxHeartbeats 3200000 in
theorem index52 (ao : Option Addr) (ca : Nat) (l : List Hs) (h : Hs) (hh : h.length = 32) (h32 : All32 l) (n : Nat) (hl : l.length = n) (hbig : n ≤ 1152921504606846976) (w : World) (hA : HsAt w ao l) :
    Calls Try.prog 52 #[.slice ao n ca, hv h] w fun e w' => (∃ r : Int, e = .returned (.int .i64 r) ∧ (decide (0 ≤ r) = decide (h ∈ l)) ∧ -1 ≤ r ∧ r ≤ n) ∧ After w w' := by
  have HFA : Hid (HsAt w ao l ∧ All32 l ∧ l.length = n ∧ h.length = 32) := ⟨hA, h32, hl, hh⟩
  have HI0 : Hid (IxI w h l 0 w.heap.size (w.alloc (.cells (c8 h).toArray 24))) := ⟨after_alloc (After.refl w) _, heap_alloc_new w _, fun j _ hj => by omega⟩
  clear hA h32 hl hh
  unfold hv
  go_enter Try.func52, Try.ntmps52
  go_wp2_with fail
  obtain ⟨w0, hw0⟩ : ∃ w0, w.alloc (.cells (c8 h).toArray 24) = w0 := ⟨_, rfl⟩
  rw [hw0] at HI0 ⊢
  clear hw0
  go_loopw [8] (fun iv wr => ∃ i : Nat, i ≤ n ∧ iv = .int .i64 (i : Int) ∧ Hid (IxI w h l i w.heap.size wr)) (fun iv _ => n - (intOf iv).toNat)
  case atStart => exact ⟨0, Nat.zero_le _, rfl, HI0.out⟩
  case round =>
    obtain ⟨i, hin, rfl, HI⟩ := hrel
    by_cases hlt : i < n
    · have hii : (i : Int) < (n : Int) := by omega
      obtain ⟨x, hx⟩ : ∃ x, l[i]? = some x := ⟨_, List.getElem?_eq_getElem (by rw [HFA.out.2.2.1]; omega)⟩
      obtain ⟨xb, xo, hxa, hxr⟩ := HFA.out.1.get HFA.out.2.1 (by intro e; rw [e] at hx; simp at hx)
      subst hxa
      have HX : Hid (x.length = 32 ∧ wr.rangeAt xb (xo + i * 32) (c8 x)) := ⟨HFA.out.2.1.at hx, range_after (hxr i x hx) HI.out.aft⟩
      have HH : Hid (wr.rangeAt w.heap.size 0 (c8 h)) := fun j v hj => by
        have := (show RowIs wr w.heap.size 24 (c8 h) from HI.out.row).cell hj
        rw [Nat.zero_add]; exact this
      have HXX : Hid (l[i]? = some x) := hx
      clear hx hxr
      go_wp2_with fail
      refine wp_region_noPanic ?_
      refine wp_region_held_drew (S := After wr) (by kernel_rfl) (After.drew (After.refl wr)) ?_
      intro hS0
      refine tk 0 11 (hv h) (fuel := 5) rfl (by kernel_rfl) (by kernel_rfl) (by kernel_rfl) (by kernel_rfl) noPanic_false (by kernel_rfl) (fun W hW => x_ld24 HFA.out.2.2.2 (x := .tmp 3) (g := w.heap.size) (p := 0) (by kernel_rfl) (by kernel_rfl) (range_after HH.out hW)) hS0 ?_
      refine tk 1 12 (.slice (some ⟨xb, xo, none⟩) n ca) (fuel := 4) rfl (by kernel_rfl) (by kernel_rfl) (by kernel_rfl) (by kernel_rfl) noPanic_false (by kernel_rfl) (fun _ _ => by kernel_rfl) hS0 ?_
      refine tk 2 13 (.int .i64 (i : Int)) (fuel := 3) rfl (by kernel_rfl) (by kernel_rfl) (by kernel_rfl) (by kernel_rfl) noPanic_false (by kernel_rfl) (fun _ _ => by kernel_rfl) hS0 ?_
      refine tk 3 14 (.pointer (some ⟨xb, xo + i * 32, none⟩)) (fuel := 2) rfl (by kernel_rfl) (by kernel_rfl) (by kernel_rfl) (by kernel_rfl) noPanic_false (by kernel_rfl) (fun W _ => x_idx22 (n := n) (c := ca) (x := .tmp 12) (y := .tmp 13) (by kernel_rfl) (by kernel_rfl) (by kernel_rfl) hlt) hS0 ?_
      refine tk 4 15 (hv x) (fuel := 1) rfl (by kernel_rfl) (by kernel_rfl) (by kernel_rfl) (by kernel_rfl) noPanic_false (by kernel_rfl) (fun W hW => x_ld24 HX.out.1 (x := .tmp 14) (g := xb) (p := xo + i * 32) (by kernel_rfl) (by kernel_rfl) (range_after HX.out.2 hW)) hS0 ?_
      refine tk 5 16 (.bool (decide (h = x))) (fuel := 0) rfl (by kernel_rfl) (by kernel_rfl) (by kernel_rfl) (by kernel_rfl) noPanic_false (by kernel_rfl) (fun W hW => x_eq24 HFA.out.2.2.2 HX.out.1 (x := .tmp 11) (y := .tmp 15) (by kernel_rfl) (by kernel_rfl) (by kernel_rfl)) hS0 ?_
      refine wpAnyH_done (by kernel_rfl) (NoPanic.normal ?_) _
      have HA1 : Hid (After w wr.drew) := After.trans HI.out.aft hS0
      have HR1 : Hid (wr.drew.heap[w.heap.size]? = some (.cells (c8 h).toArray 24 (0, 0))) := HI.out.row
      clear hS0
      by_cases hxy : h = x
      · have hd : decide (h = x) = true := by simp [hxy]
        rw [hd]
        have HXL : Hid (h = x) := hxy
        clear hxy hd
        go_simp
        go_wp2
        go_ret
        refine ⟨⟨_, rfl, ?_, by omega, by omega⟩, HA1.out⟩
        have : h ∈ l := by rw [HXL.out]; exact List.mem_of_getElem? HXX.out
        simp [this]
      · have hd : decide (h = x) = false := by simp [hxy]
        rw [hd]
        have HXL : Hid (¬ h = x) := hxy
        clear hxy hd
        go_simp
        go_wp2
        go_roundw
        case rel => exact ⟨i + 1, by omega, by go_num, HA1.out, HR1.out, fun j p hj hp => by
          by_cases e : j = i
          · subst e; rw [HXX.out] at hp; cases hp; exact HXL.out
          · exact HI.out.pre j p (by omega) hp⟩
        case measure => simp [intOf]; omega
    · have hii : ¬ (i : Int) < (n : Int) := by omega
      go_wp2
      go_ret
      refine ⟨⟨_, rfl, ?_, by omega, by omega⟩, HI.out.aft⟩
      have : ¬ h ∈ l := fun e => by
        obtain ⟨j, hj⟩ := List.getElem?_of_mem e
        exact HI.out.pre j h (by have := (List.getElem?_eq_some_iff.1 hj).1; rw [HFA.out.2.2.1] at this; omega) hj rfl
      simp [this]
set_option maxRecDepth 100000 in
set_option maxHeartbeats 3200000 in
theorem contains40 (ao : Option Addr) (ca : Nat) (l : List Hs) (h : Hs) (hh : h.length = 32) (h32 : All32 l) (n : Nat) (hl : l.length = n) (hbig : n ≤ 1152921504606846976) (w : World) (hA : HsAt w ao l) :
    Calls Try.prog 40 #[.slice ao n ca, hv h] w fun e w' => e = .returned (.bool (decide (h ∈ l))) ∧ After w w' := by
  have HAL : Hid (After w (w.alloc (.cells (c8 h).toArray 24))) := after_alloc (After.refl w) _
  have HC := show Hid _ from index52 ao ca l h hh h32 n hl hbig (w.alloc (.cells (c8 h).toArray 24)) (hA.after HAL.out)
  have H32 : Hid (h.length = 32) := hh
  clear hA h32 hl hh
  unfold hv at HC ⊢
  go_enter Try.func40, Try.ntmps40
  go_wp2_with (first
    | (refine wpList_load_row rfl 24 (.tmp 3) rfl w.heap.size rfl 24 (c8 h).toArray (0, 0) _ (heap_alloc_new w _) Try.underlying24 rfl (size24a H32.out) ?_)
    | (go_at_call 52; refine Calls.mono HC.out ?_; rintro e w2 ⟨⟨q, rfl, hq, hq1, hq2⟩, ha2⟩; have HQ := show Hid (decide (0 ≤ q) = decide (h ∈ l)) from hq; have HA2 := show Hid (After _ w2) from ha2; clear hq ha2))
  go_ret
  refine ⟨?_, After.trans HAL.out HA2.out⟩
  rw [← HQ.out]
  simp
set_option maxRecDepth 100000 in
set_option maxHeartbeats 3200000 in
theorem has18 (ao : Option Addr) (ca : Nat) (l : List Hs) (h : Hs) (hh : h.length = 32) (h32 : All32 l) (n : Nat) (hl : l.length = n) (hbig : n ≤ 1152921504606846976) (w : World) (hA : HsAt w ao l) :
    Calls Try.prog 18 #[.slice ao n ca, hv h] w fun e w' => e = .returned (.bool (decide (h ∈ l))) ∧ After w w' := by
  have HAL : Hid (After w (w.alloc (.cells (c8 h).toArray 24))) := after_alloc (After.refl w) _
  have HC := show Hid _ from contains40 ao ca l h hh h32 n hl hbig (w.alloc (.cells (c8 h).toArray 24)) (hA.after HAL.out)
  have H32 : Hid (h.length = 32) := hh
  clear hA h32 hl hh
  unfold hv at HC ⊢
  go_enter Try.func18, Try.ntmps18
  go_wp2_with (first
    | (refine wpList_load_row rfl 24 (.tmp 3) rfl w.heap.size rfl 24 (c8 h).toArray (0, 0) _ (heap_alloc_new w _) Try.underlying24 rfl (size24a H32.out) ?_)
    | (go_at_call 40; refine Calls.mono HC.out ?_; rintro e w2 ⟨rfl, ha2⟩; have HA2 := show Hid (After _ w2) from ha2; clear ha2))
  go_ret
  exact ⟨rfl, After.trans HAL.out HA2.out⟩
theorem ListsAt.one (w : World) (ao : Option Addr) (n c : Nat) (l : List Hs) (h32 : All32 l) (hl : l.length = n) (hA : HsAt w ao l) : ListsAt (w.alloc (.cells #[.slice ao n c] 22)) (some ⟨w.heap.size, 0, none⟩) [⟨ao, n, c, l⟩] := fun _ => ⟨w.heap.size, 0, rfl, fun j x hj => by
  cases j with
  | zero =>
    simp at hj; subst hj
    exact ⟨(RowIs.new w 22 [.slice ao n c]).cell (j := 0) rfl, hA.after (after_alloc (After.refl w) _), hl, h32⟩
  | succ j => simp at hj⟩
set_option maxRecDepth 100000 in
set_option maxHeartbeats 3200000 in
theorem sort12 {m : Nat} (hm : SortOK m) (ao : Option Addr) (ca : Nat) (l : List Hs) (h32 : All32 l) (n : Nat) (hl : l.length = n) (hn : n ≤ m) (hbig : n ≤ 4398046511104) (w : World) (hA : HsAt w ao l) :
    Calls Try.prog 12 #[.slice ao n ca] w fun e w' => ∃ v s, e = .returned v ∧ OwnH w' w.heap.size v s ∧ All32 s ∧ Up s ∧ (∀ h, h ∈ s ↔ h ∈ l) ∧ s.length ≤ n ∧ After w w' := by
  have hcat : catL [⟨ao, n, ca, l⟩] = l := by simp [catL]
  have hC := setOf_any (some ⟨w.heap.size, 0, none⟩) 1 [⟨ao, n, ca, l⟩] (by simp) (by rw [hcat, hl]; exact hbig) (w.alloc (.cells #[.slice ao n ca] 22)) (ListsAt.one w ao n ca l h32 hl hA)
  rw [hcat, hl, show (w.alloc (.cells #[.slice ao n ca] 22)).heap.size = w.heap.size + 1 by simp] at hC
  have HC : Hid (Calls Try.prog 34 #[.slice (some ⟨w.heap.size, 0, none⟩) 1 1] (w.alloc (.cells #[.slice ao n ca] 22)) fun e w' => e = .returned (.map (some (w.heap.size + 1))) ∧ SetAt w' (w.heap.size + 1) n l ∧ After (w.alloc (.cells #[.slice ao n ca] 22)) w') := hC
  have HM : Hid (SortOK m ∧ n ≤ m ∧ n ≤ 4398046511104) := ⟨hm, hn, hbig⟩
  have HAL : Hid (After w (w.alloc (.cells #[.slice ao n ca] 22))) := after_alloc (After.refl w) _
  have hbs : (Instr.buildSlice 61 1 #[(0, .slice ao n ca)]).run Try.prog w = .ok (.slice (some ⟨w.heap.size, 0, none⟩) 1 1) (w.alloc (.cells #[.slice ao n ca] 22)) := by kernel_rfl
  clear hA h32 hl hn hm hC hcat
  go_enter Try.func12, Try.ntmps12
  go_wp2_with (first
    | (go_at_call 34; refine Calls.mono HC.out ?_; rintro e w2 ⟨rfl, hs2, ha2⟩; have HS2 := show Hid (SetAt _ _ _ _) from hs2; have HA2 := show Hid (After _ w2) from ha2; clear hs2 ha2)
    | (go_at_call 35; refine Calls.mono (rising_any HM.out.1 (w.heap.size + 1) n l HM.out.2.1 HM.out.2.2 w2 HS2.out) ?_; rintro e w3 ⟨v, s, rfl, h1, h2, h3, h4, h5, h6⟩; have HR := show Hid (OwnH w3 w2.heap.size v s ∧ All32 s ∧ Up s ∧ (∀ h, h ∈ s ↔ h ∈ l) ∧ s.length ≤ n ∧ After w2 w3) from ⟨h1, h2, h3, h4, h5, h6⟩; clear h1 h2 h3 h4 h5 h6))
  go_ret
  have hA2 := After.trans HAL.out HA2.out
  exact ⟨v, s, rfl, HR.out.1.mono hA2.size, HR.out.2.1, HR.out.2.2.1, HR.out.2.2.2.1, HR.out.2.2.2.2.1, After.trans hA2 HR.out.2.2.2.2.2⟩
end Go.Proofs.Ytedghldjpkabmaa
