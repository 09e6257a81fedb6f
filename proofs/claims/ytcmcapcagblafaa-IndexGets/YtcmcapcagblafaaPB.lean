/-
  LISTS OF STRINGS AND OF HASHES that are held against each other: slices.Equal (52, 59), hashes.Same (53), the reference's Texts (19) and Same (31).
-/
import Derived.Test.YtcmcapcagblafaaPA
namespace Go.Proofs.Ytcmcapcagblafaa
open Go.RowKit
attribute [local go_sem] Oper.semAt_some
abbrev Nm := List UInt8
def All32 (l : List H) : Prop := ∀ x ∈ l, x.length = 32
def hsL (l : List H) : List (List Value) := l.map c8
def stL (l : List Nm) : List (List Value) := l.map fun s => [.string (strOf s)]
theorem uni_hs {l : List H} (h : All32 l) : Uni 32 (hsL l) := fun x hx => by
  obtain ⟨y, hy, rfl⟩ := List.mem_map.1 hx
  rw [c8_len]; exact h y hy
theorem uni_st (l : List Nm) : Uni 1 (stL l) := fun x hx => by
  obtain ⟨y, hy, rfl⟩ := List.mem_map.1 hx
  rfl
theorem hs_get {l : List H} {i : Nat} {x : H} (h : l[i]? = some x) : (hsL l)[i]? = some (c8 x) := by unfold hsL; rw [List.getElem?_map, h]; rfl
theorem st_get {l : List Nm} {i : Nat} {x : Nm} (h : l[i]? = some x) : (stL l)[i]? = some [.string (strOf x)] := by unfold stL; rw [List.getElem?_map, h]; rfl
theorem eq_of_pre {α : Type} {la lb : List α} {n : Nat} (ha : la.length = n) (hb : lb.length = n) (h : ∀ j, j < n → la[j]? = lb[j]?) : la = lb := by
  apply List.ext_getElem?
  intro j
  by_cases hj : j < n
  · exact h j hj
  · rw [List.getElem?_eq_none (by omega), List.getElem?_eq_none (by omega)]
structure SmI {α : Type} (w : World) (la lb : List α) (i : Nat) (wr : World) : Prop where
  aft : After w wr
  pre : ∀ j, j < i → la[j]? = lb[j]?
section
variable {oi : Oper} {a : Act} {w : World}
theorem x_idx44 {x y : Operand} {b f n c k : Nat} (hop : oi.op = .indexAddr 39 x y) (hx : a.eval x = .slice (some ⟨b, f, none⟩) n c) (hy : a.eval y = .int .i64 (k : Int)) (hk : k < n) : (execOp a.eval oi).run Try.prog w = .ok (.value (.pointer (some ⟨b, f + k * 32, none⟩))) w := by
  have hk' : (k : Int) < (n : Int) := by omega
  have hz0 : (Try.prog.info? 43).map (·.size) = some 32 := by kernel_rfl
  obtain ⟨i, hi, hz⟩ := Option.map_eq_some_iff.1 hz0
  unfold execOp; simp only [hop, hx, hy]; simp [go_sem, hk', hi, hz, sizeOf, typeInfo]
theorem x_ld95 {x : Operand} {g p : Nat} {y : H} (hy : y.length = 32) (hop : oi.op = .load 43 x) (hx : a.eval x = .pointer (some ⟨g, p, none⟩)) (hc : w.rangeAt g p (c8 y)) : (execOp a.eval oi).run Try.prog w = .ok (.value (.agg (c8 y).toArray)) w := by
  have hi : (Try.prog.info? 43).map (·.size) = some (c8 y).length := by rw [size24]; simp [c8_len, hy]
  unfold execOp
  simp only [hop, hx, Instr.loadAt, Instr.sureAddr, Sem.run_bind, Sem.run_pure, Result.andThen_ok, run_loadVar_mid w g p 43 (c8 y) _ hc Try.underlying43 rfl hi]
theorem x_ne95 {x y : Operand} {h k : H} (hh : h.length = 32) (hk : k.length = 32) (hop : oi.op = .binOp .neq 43 x y 43) (hx : a.eval x = .agg (c8 h).toArray) (hy : a.eval y = .agg (c8 k).toArray) : (execOp a.eval oi).run Try.prog w = .ok (.value (.bool (!decide (h = k)))) w := by
  have he := eq24 h k hh hk w
  unfold execOp
  simp only [hop, hx, hy]
  simp [go_sem, he]
theorem strOf_ne {s t : Nm} (h : s ≠ t) : strOf s ≠ strOf t := fun e => h (strOf_inj.1 e)
theorem x_ne9 {x y : Operand} {s t : Nm} (hop : oi.op = .binOp .neq 9 x y 9) (hx : a.eval x = .string (strOf s)) (hy : a.eval y = .string (strOf t)) : (execOp a.eval oi).run Try.prog w = .ok (.value (.bool (!decide (s = t)))) w := by
  unfold execOp; simp only [hop, hx, hy]
  by_cases h : s = t
  · subst h; simp [go_sem]
  · simp [go_sem, h, strOf_toList]
theorem x_eq9 {x y : Operand} {s t : Nm} (hop : oi.op = .binOp .eql 9 x y 9) (hx : a.eval x = .string (strOf s)) (hy : a.eval y = .string (strOf t)) : (execOp a.eval oi).run Try.prog w = .ok (.value (.bool (decide (s = t)))) w := by
  unfold execOp; simp only [hop, hx, hy]
  by_cases h : s = t
  · subst h; simp [go_sem]
  · simp [go_sem, h, strOf_toList]
end
set_option maxRecDepth 100000 in
set_option maxHeartbeats 3200000 in
theorem equal59 {ao bo : Option Addr} {ca cb : Nat} {la lb : List H} (ha32 : All32 la) (hb32 : All32 lb) {n m : Nat} (hla : la.length = n) (hlb : lb.length = m) (hbig : n ≤ 9223372036854775807) {w : World} (hA : SlAt w 32 ao (hsL la)) (hB : SlAt w 32 bo (hsL lb)) :
    Calls Try.prog 37 #[.slice ao n ca, .slice bo m cb] w fun e w' => e = .returned (.bool (decide (la = lb))) ∧ After w w' := by
  by_cases hnm : n = m
  · subst hnm
    have HFA : Hid (SlAt w 32 ao (hsL la) ∧ la.length = n ∧ All32 la) := ⟨hA, hla, ha32⟩
    have HFB : Hid (SlAt w 32 bo (hsL lb) ∧ lb.length = n ∧ All32 lb) := ⟨hB, hlb, hb32⟩
    clear hA hB hla hlb ha32 hb32
    go_enter Try.func37, Try.ntmps37
    go_wp2_with fail
    go_loopw [13] (fun iv wr => ∃ i : Nat, i ≤ n ∧ iv = .int .i64 (i : Int) ∧ Hid (SmI w la lb i wr)) (fun iv _ => n - (intOf iv).toNat)
    case atStart => exact ⟨0, Nat.zero_le _, rfl, After.refl w, fun j hj => by omega⟩
    case round =>
      obtain ⟨i, hin, rfl, HI⟩ := hrel
      by_cases hlt : i < n
      · have hii : (i : Int) < (n : Int) := by omega
        have HLT : Hid (i < n) := hlt
        obtain ⟨x, hx⟩ : ∃ x, la[i]? = some x := ⟨_, List.getElem?_eq_getElem (by rw [HFA.out.2.1]; exact hlt)⟩
        obtain ⟨y, hy⟩ : ∃ y, lb[i]? = some y := ⟨_, List.getElem?_eq_getElem (by rw [HFB.out.2.1]; exact hlt)⟩
        obtain ⟨xb, xo, hxa, hxr⟩ := HFA.out.1.at (hs_get hx)
        obtain ⟨yb, yo, hya, hyr⟩ := HFB.out.1.at (hs_get hy)
        subst hxa hya
        have HX : Hid (x.length = 32 ∧ wr.rangeAt xb (xo + i * 32) (c8 x)) := ⟨HFA.out.2.2 x (List.mem_of_getElem? hx), range_after hxr HI.out.aft⟩
        have HY : Hid (y.length = 32 ∧ wr.rangeAt yb (yo + i * 32) (c8 y)) := ⟨HFB.out.2.2 y (List.mem_of_getElem? hy), range_after hyr HI.out.aft⟩
        have HXY : Hid (la[i]? = some x ∧ lb[i]? = some y) := ⟨hx, hy⟩
        clear hx hy hxr hyr
        go_wp2_with fail
        refine wp_region_noPanic ?_
        refine wp_region_held_drew (S := After wr) (by kernel_rfl) (After.drew (After.refl wr)) ?_
        intro hS0
        refine tk 0 16 (.slice (some ⟨xb, xo, none⟩) n ca) (fuel := 8) rfl (by kernel_rfl) (by kernel_rfl) (by kernel_rfl) (by kernel_rfl) noPanic_false (by kernel_rfl) (fun _ _ => by kernel_rfl) hS0 ?_
        refine tk 1 17 (.int .i64 (i : Int)) (fuel := 7) rfl (by kernel_rfl) (by kernel_rfl) (by kernel_rfl) (by kernel_rfl) noPanic_false (by kernel_rfl) (fun _ _ => by kernel_rfl) hS0 ?_
        refine tk 2 18 (.pointer (some ⟨xb, xo + i * 32, none⟩)) (fuel := 6) rfl (by kernel_rfl) (by kernel_rfl) (by kernel_rfl) (by kernel_rfl) noPanic_false (by kernel_rfl) (fun W _ => x_idx44 (n := n) (c := ca) (x := .tmp 16) (y := .tmp 17) (by kernel_rfl) (by kernel_rfl) (by kernel_rfl) HLT.out) hS0 ?_
        refine tk 3 19 (.agg (c8 x).toArray) (fuel := 5) rfl (by kernel_rfl) (by kernel_rfl) (by kernel_rfl) (by kernel_rfl) noPanic_false (by kernel_rfl) (fun W hW => x_ld95 HX.out.1 (x := .tmp 18) (g := xb) (p := xo + i * 32) (by kernel_rfl) (by kernel_rfl) (range_after HX.out.2 hW)) hS0 ?_
        refine tk 4 20 (.slice (some ⟨yb, yo, none⟩) n cb) (fuel := 4) rfl (by kernel_rfl) (by kernel_rfl) (by kernel_rfl) (by kernel_rfl) noPanic_false (by kernel_rfl) (fun _ _ => by kernel_rfl) hS0 ?_
        refine tk 5 21 (.int .i64 (i : Int)) (fuel := 3) rfl (by kernel_rfl) (by kernel_rfl) (by kernel_rfl) (by kernel_rfl) noPanic_false (by kernel_rfl) (fun _ _ => by kernel_rfl) hS0 ?_
        refine tk 6 22 (.pointer (some ⟨yb, yo + i * 32, none⟩)) (fuel := 2) rfl (by kernel_rfl) (by kernel_rfl) (by kernel_rfl) (by kernel_rfl) noPanic_false (by kernel_rfl) (fun W _ => x_idx44 (n := n) (c := cb) (x := .tmp 20) (y := .tmp 21) (by kernel_rfl) (by kernel_rfl) (by kernel_rfl) HLT.out) hS0 ?_
        refine tk 7 23 (.agg (c8 y).toArray) (fuel := 1) rfl (by kernel_rfl) (by kernel_rfl) (by kernel_rfl) (by kernel_rfl) noPanic_false (by kernel_rfl) (fun W hW => x_ld95 HY.out.1 (x := .tmp 22) (g := yb) (p := yo + i * 32) (by kernel_rfl) (by kernel_rfl) (range_after HY.out.2 hW)) hS0 ?_
        refine tk 8 24 (.bool (!decide (x = y))) (fuel := 0) rfl (by kernel_rfl) (by kernel_rfl) (by kernel_rfl) (by kernel_rfl) noPanic_false (by kernel_rfl) (fun W hW => x_ne95 HX.out.1 HY.out.1 (x := .tmp 19) (y := .tmp 23) (by kernel_rfl) (by kernel_rfl) (by kernel_rfl)) hS0 ?_
        refine wpAnyH_done (by kernel_rfl) (NoPanic.normal ?_) _
        have HA1 : Hid (After w wr.drew) := After.trans HI.out.aft hS0
        clear hS0
        by_cases hxy : x = y
        · have hd : (!decide (x = y)) = false := by simp [hxy]
          rw [hd]
          go_simp
          go_wp2
          go_roundw
          case rel => exact ⟨i + 1, by omega, by go_num, HA1.out, fun j hj => by
            by_cases e : j = i
            · subst e; rw [HXY.out.1, HXY.out.2, hxy]
            · exact HI.out.pre j (by omega)⟩
          case measure => simp [intOf]; omega
        · have hd : (!decide (x = y)) = true := by simp [hxy]
          rw [hd]
          go_simp
          go_wp2
          go_ret
          refine ⟨?_, HA1.out⟩
          have : ¬ la = lb := fun e => by have h1 := HXY.out; rw [e] at h1; exact hxy (Option.some.inj (h1.1.symm.trans h1.2))
          simp [this]
      · have hii : ¬ (i : Int) < (n : Int) := by omega
        go_wp2
        go_ret
        refine ⟨?_, HI.out.aft⟩
        have : la = lb := eq_of_pre HFA.out.2.1 HFB.out.2.1 (fun j hj => HI.out.pre j (by omega))
        simp [this]
  · have hnmi : ¬ (n : Int) = (m : Int) := by omega
    have : ¬ la = lb := fun e => hnm (by rw [← hla, ← hlb, e])
    go_enter Try.func37, Try.ntmps37
    go_wp2
    go_ret
    exact ⟨by simp [this], After.refl w⟩
set_option maxRecDepth 100000 in
set_option maxHeartbeats 3200000 in
theorem rsame31 {ao bo : Option Addr} {ca cb : Nat} {la lb : List H} (ha32 : All32 la) (hb32 : All32 lb) {n m : Nat} (hla : la.length = n) (hlb : lb.length = m) (hbig : n ≤ 9223372036854775807) {w : World} (hA : SlAt w 32 ao (hsL la)) (hB : SlAt w 32 bo (hsL lb)) :
    Calls Try.prog 26 #[.slice ao n ca, .slice bo m cb] w fun e w' => e = .returned (.bool (decide (la = lb))) ∧ After w w' := by
  by_cases hnm : n = m
  · subst hnm
    have HFA : Hid (SlAt w 32 ao (hsL la) ∧ la.length = n ∧ All32 la) := ⟨hA, hla, ha32⟩
    have HFB : Hid (SlAt w 32 bo (hsL lb) ∧ lb.length = n ∧ All32 lb) := ⟨hB, hlb, hb32⟩
    clear hA hB hla hlb ha32 hb32
    go_enter Try.func26, Try.ntmps26
    go_wp2_with fail
    go_loopw [5] (fun iv wr => ∃ i : Nat, i ≤ n ∧ iv = .int .i64 (i : Int) ∧ Hid (SmI w la lb i wr)) (fun iv _ => n - (intOf iv).toNat)
    case atStart => exact ⟨0, Nat.zero_le _, rfl, After.refl w, fun j hj => by omega⟩
    case round =>
      obtain ⟨i, hin, rfl, HI⟩ := hrel
      by_cases hlt : i < n
      · have hii : (i : Int) < (n : Int) := by omega
        have HLT : Hid (i < n) := hlt
        obtain ⟨x, hx⟩ : ∃ x, la[i]? = some x := ⟨_, List.getElem?_eq_getElem (by rw [HFA.out.2.1]; exact hlt)⟩
        obtain ⟨y, hy⟩ : ∃ y, lb[i]? = some y := ⟨_, List.getElem?_eq_getElem (by rw [HFB.out.2.1]; exact hlt)⟩
        obtain ⟨xb, xo, hxa, hxr⟩ := HFA.out.1.at (hs_get hx)
        obtain ⟨yb, yo, hya, hyr⟩ := HFB.out.1.at (hs_get hy)
        subst hxa hya
        have HX : Hid (x.length = 32 ∧ wr.rangeAt xb (xo + i * 32) (c8 x)) := ⟨HFA.out.2.2 x (List.mem_of_getElem? hx), range_after hxr HI.out.aft⟩
        have HY : Hid (y.length = 32 ∧ wr.rangeAt yb (yo + i * 32) (c8 y)) := ⟨HFB.out.2.2 y (List.mem_of_getElem? hy), range_after hyr HI.out.aft⟩
        have HXY : Hid (la[i]? = some x ∧ lb[i]? = some y) := ⟨hx, hy⟩
        clear hx hy hxr hyr
        go_wp2_with fail
        refine wp_region_noPanic ?_
        refine wp_region_held_drew (S := After wr) (by kernel_rfl) (After.drew (After.refl wr)) ?_
        intro hS0
        refine tk 0 17 (.slice (some ⟨xb, xo, none⟩) n ca) (fuel := 8) rfl (by kernel_rfl) (by kernel_rfl) (by kernel_rfl) (by kernel_rfl) noPanic_false (by kernel_rfl) (fun _ _ => by kernel_rfl) hS0 ?_
        refine tk 1 18 (.int .i64 (i : Int)) (fuel := 7) rfl (by kernel_rfl) (by kernel_rfl) (by kernel_rfl) (by kernel_rfl) noPanic_false (by kernel_rfl) (fun _ _ => by kernel_rfl) hS0 ?_
        refine tk 2 19 (.pointer (some ⟨xb, xo + i * 32, none⟩)) (fuel := 6) rfl (by kernel_rfl) (by kernel_rfl) (by kernel_rfl) (by kernel_rfl) noPanic_false (by kernel_rfl) (fun W _ => x_idx44 (n := n) (c := ca) (x := .tmp 17) (y := .tmp 18) (by kernel_rfl) (by kernel_rfl) (by kernel_rfl) HLT.out) hS0 ?_
        refine tk 3 20 (.agg (c8 x).toArray) (fuel := 5) rfl (by kernel_rfl) (by kernel_rfl) (by kernel_rfl) (by kernel_rfl) noPanic_false (by kernel_rfl) (fun W hW => x_ld95 HX.out.1 (x := .tmp 19) (g := xb) (p := xo + i * 32) (by kernel_rfl) (by kernel_rfl) (range_after HX.out.2 hW)) hS0 ?_
        refine tk 4 21 (.slice (some ⟨yb, yo, none⟩) n cb) (fuel := 4) rfl (by kernel_rfl) (by kernel_rfl) (by kernel_rfl) (by kernel_rfl) noPanic_false (by kernel_rfl) (fun _ _ => by kernel_rfl) hS0 ?_
        refine tk 5 22 (.int .i64 (i : Int)) (fuel := 3) rfl (by kernel_rfl) (by kernel_rfl) (by kernel_rfl) (by kernel_rfl) noPanic_false (by kernel_rfl) (fun _ _ => by kernel_rfl) hS0 ?_
        refine tk 6 23 (.pointer (some ⟨yb, yo + i * 32, none⟩)) (fuel := 2) rfl (by kernel_rfl) (by kernel_rfl) (by kernel_rfl) (by kernel_rfl) noPanic_false (by kernel_rfl) (fun W _ => x_idx44 (n := n) (c := cb) (x := .tmp 21) (y := .tmp 22) (by kernel_rfl) (by kernel_rfl) (by kernel_rfl) HLT.out) hS0 ?_
        refine tk 7 24 (.agg (c8 y).toArray) (fuel := 1) rfl (by kernel_rfl) (by kernel_rfl) (by kernel_rfl) (by kernel_rfl) noPanic_false (by kernel_rfl) (fun W hW => x_ld95 HY.out.1 (x := .tmp 23) (g := yb) (p := yo + i * 32) (by kernel_rfl) (by kernel_rfl) (range_after HY.out.2 hW)) hS0 ?_
        refine tk 8 25 (.bool (!decide (x = y))) (fuel := 0) rfl (by kernel_rfl) (by kernel_rfl) (by kernel_rfl) (by kernel_rfl) noPanic_false (by kernel_rfl) (fun W hW => x_ne95 HX.out.1 HY.out.1 (x := .tmp 20) (y := .tmp 24) (by kernel_rfl) (by kernel_rfl) (by kernel_rfl)) hS0 ?_
        refine wpAnyH_done (by kernel_rfl) (NoPanic.normal ?_) _
        have HA1 : Hid (After w wr.drew) := After.trans HI.out.aft hS0
        clear hS0
        by_cases hxy : x = y
        · have hd : (!decide (x = y)) = false := by simp [hxy]
          rw [hd]
          go_simp
          go_wp2
          go_roundw
          case rel => exact ⟨i + 1, by omega, by go_num, HA1.out, fun j hj => by
            by_cases e : j = i
            · subst e; rw [HXY.out.1, HXY.out.2, hxy]
            · exact HI.out.pre j (by omega)⟩
          case measure => simp [intOf]; omega
        · have hd : (!decide (x = y)) = true := by simp [hxy]
          rw [hd]
          go_simp
          go_wp2
          go_ret
          refine ⟨?_, HA1.out⟩
          have : ¬ la = lb := fun e => by have h1 := HXY.out; rw [e] at h1; exact hxy (Option.some.inj (h1.1.symm.trans h1.2))
          simp [this]
      · have hii : ¬ (i : Int) < (n : Int) := by omega
        go_wp2
        go_ret
        refine ⟨?_, HI.out.aft⟩
        have : la = lb := eq_of_pre HFA.out.2.1 HFB.out.2.1 (fun j hj => HI.out.pre j (by omega))
        simp [this]
  · have hnmi : ¬ (n : Int) = (m : Int) := by omega
    have : ¬ la = lb := fun e => hnm (by rw [← hla, ← hlb, e])
    go_enter Try.func26, Try.ntmps26
    go_wp2
    go_ret
    exact ⟨by simp [this], After.refl w⟩
set_option maxRecDepth 100000 in
set_option maxHeartbeats 3200000 in
theorem same53 {ao bo : Option Addr} {ca cb : Nat} {la lb : List H} (ha32 : All32 la) (hb32 : All32 lb) {n m : Nat} (hla : la.length = n) (hlb : lb.length = m) (hbig : n ≤ 9223372036854775807) {w : World} (hA : SlAt w 32 ao (hsL la)) (hB : SlAt w 32 bo (hsL lb)) :
    Calls Try.prog 18 #[.slice ao n ca, .slice bo m cb] w fun e w' => e = .returned (.bool (decide (la = lb))) ∧ After w w' := by
  have HC := show Hid _ from equal59 (ca := ca) (cb := cb) ha32 hb32 hla hlb hbig hA hB
  clear hA hB ha32 hb32 hla hlb
  go_enter Try.func18, Try.ntmps18
  go_wp2_with (go_at_call 37; refine Calls.mono HC.out ?_; rintro e w2 ⟨rfl, ha2⟩; have HA2 := show Hid (After w w2) from ha2; clear ha2)
  go_ret
  exact ⟨rfl, HA2.out⟩
end Go.Proofs.Ytcmcapcagblafaa
