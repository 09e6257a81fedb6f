/-
  OPERATIONS COMPARED: the walks of slices.Equal at operations, op.Same, ref.Same.
-/
import Derived.Test.YtpplnomomcdemaaRowOps
import Derived.Laws.StructEq
namespace Go.Proofs.Ytpplnomomcdemaa
open Go.RowKit Leb
set_option maxHeartbeats 800000 in
theorem eq23 (x y : Opn) (w : World) : (Op.equalIn 10000 23 (opV x) (opV y)).run Try.prog w = .ok (decide (x = y)) w := by
  have u3 := Try.underlying3
  have u9 := Try.underlying9
  have hS : Try.prog.underlying 23 = some (.struct (Try.prog.fieldsOf 23)) := by kernel_rfl
  have hp : Try.prog.stoodInHeld 23 = false := by kernel_rfl
  have a3 : ∀ w, (isAgg 3).run Try.prog w = .ok false w := fun w => by unfold isAgg; rw [Sem.run_bind, run_underlying u3 w]; rfl
  have a9 : ∀ w, (isAgg 9).run Try.prog w = .ok false w := fun w => by unfold isAgg; rw [Sem.run_bind, run_underlying u9 w]; rfl
  obtain ⟨k, nm, p, b, tx⟩ := x
  obtain ⟨k', nm', p', b', tx'⟩ := y
  rw [show (10000 : Nat) = 9999 + 1 from rfl, run_equalIn_agg w 9999 23 _ _ hS hp]
  simp only [Program.fieldsOf, Try.underlying23]
  go_simp
  simp only [strOf_toList]
  by_cases h1 : k = k' <;> by_cases h2 : nm = nm' <;> by_cases h3 : p = p' <;> by_cases h4 : b = b' <;> by_cases h5 : tx = tx' <;> simp [h1, h2, h3, h4, h5]
section
variable {a : Act} {w : World} {oi : Oper}
theorem x_ne23 {x y : Operand} {h k : Opn} (hop : oi.op = .binOp .neq 23 x y 23) (hx : a.eval x = opV h) (hy : a.eval y = opV k) : (execOp a.eval oi).run Try.prog w = .ok (.value (.bool (!decide (h = k)))) w := by
  have he := eq23 h k w
  have hm : Try.prog.eqGuardType Try.prog.depth 23 = false := by kernel_rfl
  unfold execOp
  simp only [hop, hx, hy, Sem.run_bind, run_eqGuard_agg w .neq 23 x y _ _ hm, run_neq_struct, he, Result.andThen_ok]
  rfl
theorem x_ld23 {x : Operand} {g p : Nat} {h : Opn} (hop : oi.op = .load 23 x) (hx : a.eval x = .pointer (some ⟨g, p, none⟩)) (hr : w.rangeAt g p (oc h)) : (execOp a.eval oi).run Try.prog w = .ok (.value (opV h)) w := by
  unfold execOp
  simp only [hop, hx, Sem.run_bind, run_loadAt_mid w g p 23 (oc h) _ hr Try.underlying23 rfl size23, Result.andThen_ok]
  rfl
theorem x_idx29o {x y : Operand} {b p n c j : Nat} (hop : oi.op = .indexAddr 29 x y) (hx : a.eval x = .slice (some ⟨b, p, none⟩) n c) (hy : a.eval y = .int .i64 (j : Int)) (hj : j < n) : (execOp a.eval oi).run Try.prog w = .ok (.value (.pointer (some ⟨b, p + j * 5, none⟩))) w := by
  obtain ⟨i, hi, hz⟩ := Option.map_eq_some_iff.1 info23
  simp only [Prod.mk.injEq] at hz
  unfold execOp
  simp only [hop, hx, hy]
  simp [go_sem, hi, hz.2.1, hj, sizeOf, typeInfo, Addr.add_mid]
end
theorem eq_of_pre {la lb : List Opn} {n : Nat} (ha : la.length = n) (hb : lb.length = n) (h : ∀ j, j < n → la[j]? = lb[j]?) : la = lb := by
  apply List.ext_getElem?
  intro j
  by_cases hj : j < n
  · exact h j hj
  · rw [List.getElem?_eq_none (by omega), List.getElem?_eq_none (by omega)]
structure SmI (w : World) (la lb : List Opn) (i : Nat) (wr : World) : Prop where
  aft : After w wr
  pre : ∀ j, j < i → la[j]? = lb[j]?

set_option maxRecDepth 100000 in
set_option maxHeartbeats 3200000 in
theorem equal36 (ao bo : Option Addr) (ca cb : Nat) (la lb : List Opn) (n m : Nat) (hla : la.length = n) (hlb : lb.length = m) (hbig : n ≤ 1152921504606846976) (w : World) (hA : OpsAt w ao la) (hB : OpsAt w bo lb) :
    Calls Try.prog 36 #[.slice ao n ca, .slice bo m cb] w fun e w' => e = .returned (.bool (decide (la = lb))) ∧ After w w' := by
  by_cases hnm : n = m
  · subst hnm
    have HFA : Hid (OpsAt w ao la ∧ la.length = n) := ⟨hA, hla⟩
    have HFB : Hid (OpsAt w bo lb ∧ lb.length = n) := ⟨hB, hlb⟩
    clear hA hB hla hlb
    go_enter Try.func36, Try.ntmps36
    go_wp2_with fail
    go_loopw [13] (fun iv wr => ∃ i : Nat, i ≤ n ∧ iv = .int .i64 (i : Int) ∧ Hid (SmI w la lb i wr)) (fun iv _ => n - (intOf iv).toNat)
    case atStart => exact ⟨0, Nat.zero_le _, rfl, After.refl w, fun j hj => by omega⟩
    case round =>
      obtain ⟨i, hin, rfl, HI⟩ := hrel
      by_cases hlt : i < n
      · have hii : (i : Int) < (n : Int) := by omega
        obtain ⟨x, hx⟩ : ∃ x, la[i]? = some x := ⟨_, List.getElem?_eq_getElem (by rw [HFA.out.2]; exact hlt)⟩
        obtain ⟨y, hy⟩ : ∃ y, lb[i]? = some y := ⟨_, List.getElem?_eq_getElem (by rw [HFB.out.2]; exact hlt)⟩
        obtain ⟨xb, xo, hxa, hxr⟩ := HFA.out.1 (by intro e; rw [e] at hx; simp at hx)
        obtain ⟨yb, yo, hya, hyr⟩ := HFB.out.1 (by intro e; rw [e] at hy; simp at hy)
        subst hxa hya
        have HX : Hid (wr.rangeAt xb (xo + i * 5) (oc x)) := range_after (hxr i x hx) HI.out.aft
        have HY : Hid (wr.rangeAt yb (yo + i * 5) (oc y)) := range_after (hyr i y hy) HI.out.aft
        have HXY : Hid (la[i]? = some x ∧ lb[i]? = some y) := ⟨hx, hy⟩
        clear hx hy hxr hyr
        go_wp2_with fail
        refine wp_region_noPanic ?_
        refine wp_region_held_drew (S := After wr) (by kernel_rfl) (After.drew (After.refl wr)) ?_
        intro hS0
        refine tk 0 16 (.slice (some ⟨xb, xo, none⟩) n ca) (fuel := 8) rfl (by kernel_rfl) (by kernel_rfl) (by kernel_rfl) (by kernel_rfl) noPanic_false (by kernel_rfl) (fun _ _ => by kernel_rfl) hS0 ?_
        refine tk 1 17 (.int .i64 (i : Int)) (fuel := 7) rfl (by kernel_rfl) (by kernel_rfl) (by kernel_rfl) (by kernel_rfl) noPanic_false (by kernel_rfl) (fun _ _ => by kernel_rfl) hS0 ?_
        refine tk 2 18 (.pointer (some ⟨xb, xo + i * 5, none⟩)) (fuel := 6) rfl (by kernel_rfl) (by kernel_rfl) (by kernel_rfl) (by kernel_rfl) noPanic_false (by kernel_rfl) (fun W _ => x_idx29o (n := n) (c := ca) (x := .tmp 16) (y := .tmp 17) (by kernel_rfl) (by kernel_rfl) (by kernel_rfl) hlt) hS0 ?_
        refine tk 3 19 (opV x) (fuel := 5) rfl (by kernel_rfl) (by kernel_rfl) (by kernel_rfl) (by kernel_rfl) noPanic_false (by kernel_rfl) (fun W hW => x_ld23 (x := .tmp 18) (g := xb) (p := xo + i * 5) (by kernel_rfl) (by kernel_rfl) (range_after HX.out hW)) hS0 ?_
        refine tk 4 20 (.slice (some ⟨yb, yo, none⟩) n cb) (fuel := 4) rfl (by kernel_rfl) (by kernel_rfl) (by kernel_rfl) (by kernel_rfl) noPanic_false (by kernel_rfl) (fun _ _ => by kernel_rfl) hS0 ?_
        refine tk 5 21 (.int .i64 (i : Int)) (fuel := 3) rfl (by kernel_rfl) (by kernel_rfl) (by kernel_rfl) (by kernel_rfl) noPanic_false (by kernel_rfl) (fun _ _ => by kernel_rfl) hS0 ?_
        refine tk 6 22 (.pointer (some ⟨yb, yo + i * 5, none⟩)) (fuel := 2) rfl (by kernel_rfl) (by kernel_rfl) (by kernel_rfl) (by kernel_rfl) noPanic_false (by kernel_rfl) (fun W _ => x_idx29o (n := n) (c := cb) (x := .tmp 20) (y := .tmp 21) (by kernel_rfl) (by kernel_rfl) (by kernel_rfl) hlt) hS0 ?_
        refine tk 7 23 (opV y) (fuel := 1) rfl (by kernel_rfl) (by kernel_rfl) (by kernel_rfl) (by kernel_rfl) noPanic_false (by kernel_rfl) (fun W hW => x_ld23 (x := .tmp 22) (g := yb) (p := yo + i * 5) (by kernel_rfl) (by kernel_rfl) (range_after HY.out hW)) hS0 ?_
        refine tk 8 24 (.bool (!decide (x = y))) (fuel := 0) rfl (by kernel_rfl) (by kernel_rfl) (by kernel_rfl) (by kernel_rfl) noPanic_false (by kernel_rfl) (fun W hW => x_ne23 (x := .tmp 19) (y := .tmp 23) (by kernel_rfl) (by kernel_rfl) (by kernel_rfl)) hS0 ?_
        refine wpAnyH_done (by kernel_rfl) (NoPanic.normal ?_) _
        have HA1 : Hid (After w wr.drew) := After.trans HI.out.aft hS0
        clear hS0
        by_cases hxy : x = y
        · have hd : (!decide (x = y)) = false := by simp [hxy]
          rw [hd]
          go_simp
          go_wp2
          go_roundw
          case rel => exact ⟨i + 1, by omega, by go_num, HA1.out, fun j hj => by
            by_cases e : j = i
            · subst e; rw [HXY.out.1, HXY.out.2, hxy]
            · exact HI.out.pre j (by omega)⟩
          case measure => simp [intOf]; omega
        · have hd : (!decide (x = y)) = true := by simp [hxy]
          rw [hd]
          go_simp
          go_wp2
          go_ret
          refine ⟨?_, HA1.out⟩
          have : ¬ la = lb := fun e => by have h1 := HXY.out; rw [e] at h1; exact hxy (Option.some.inj (h1.1.symm.trans h1.2))
          simp [this]
      · have hii : ¬ (i : Int) < (n : Int) := by omega
        go_wp2
        go_ret
        refine ⟨?_, HI.out.aft⟩
        have : la = lb := eq_of_pre HFA.out.2 HFB.out.2 (fun j hj => HI.out.pre j (by omega))
        simp [this]
  · have hnmi : ¬ (n : Int) = (m : Int) := by omega
    have : ¬ la = lb := fun e => hnm (by rw [← hla, ← hlb, e])
    go_enter Try.func36, Try.ntmps36
    go_wp2
    go_ret
    exact ⟨by simp [this], After.refl w⟩

set_option maxRecDepth 100000 in
set_option maxHeartbeats 3200000 in
theorem rsame16 (ao bo : Option Addr) (ca cb : Nat) (la lb : List Opn) (n m : Nat) (hla : la.length = n) (hlb : lb.length = m) (hbig : n ≤ 1152921504606846976) (w : World) (hA : OpsAt w ao la) (hB : OpsAt w bo lb) :
    Calls Try.prog 16 #[.slice ao n ca, .slice bo m cb] w fun e w' => e = .returned (.bool (decide (la = lb))) ∧ After w w' := by
  by_cases hnm : n = m
  · subst hnm
    have HFA : Hid (OpsAt w ao la ∧ la.length = n) := ⟨hA, hla⟩
    have HFB : Hid (OpsAt w bo lb ∧ lb.length = n) := ⟨hB, hlb⟩
    clear hA hB hla hlb
    go_enter Try.func16, Try.ntmps16
    go_wp2_with fail
    go_loopw [5] (fun iv wr => ∃ i : Nat, i ≤ n ∧ iv = .int .i64 (i : Int) ∧ Hid (SmI w la lb i wr)) (fun iv _ => n - (intOf iv).toNat)
    case atStart => exact ⟨0, Nat.zero_le _, rfl, After.refl w, fun j hj => by omega⟩
    case round =>
      obtain ⟨i, hin, rfl, HI⟩ := hrel
      by_cases hlt : i < n
      · have hii : (i : Int) < (n : Int) := by omega
        obtain ⟨x, hx⟩ : ∃ x, la[i]? = some x := ⟨_, List.getElem?_eq_getElem (by rw [HFA.out.2]; exact hlt)⟩
        obtain ⟨y, hy⟩ : ∃ y, lb[i]? = some y := ⟨_, List.getElem?_eq_getElem (by rw [HFB.out.2]; exact hlt)⟩
        obtain ⟨xb, xo, hxa, hxr⟩ := HFA.out.1 (by intro e; rw [e] at hx; simp at hx)
        obtain ⟨yb, yo, hya, hyr⟩ := HFB.out.1 (by intro e; rw [e] at hy; simp at hy)
        subst hxa hya
        have HX : Hid (wr.rangeAt xb (xo + i * 5) (oc x)) := range_after (hxr i x hx) HI.out.aft
        have HY : Hid (wr.rangeAt yb (yo + i * 5) (oc y)) := range_after (hyr i y hy) HI.out.aft
        have HXY : Hid (la[i]? = some x ∧ lb[i]? = some y) := ⟨hx, hy⟩
        clear hx hy hxr hyr
        go_wp2_with fail
        refine wp_region_noPanic ?_
        refine wp_region_held_drew (S := After wr) (by kernel_rfl) (After.drew (After.refl wr)) ?_
        intro hS0
        refine tk 0 17 (.slice (some ⟨xb, xo, none⟩) n ca) (fuel := 8) rfl (by kernel_rfl) (by kernel_rfl) (by kernel_rfl) (by kernel_rfl) noPanic_false (by kernel_rfl) (fun _ _ => by kernel_rfl) hS0 ?_
        refine tk 1 18 (.int .i64 (i : Int)) (fuel := 7) rfl (by kernel_rfl) (by kernel_rfl) (by kernel_rfl) (by kernel_rfl) noPanic_false (by kernel_rfl) (fun _ _ => by kernel_rfl) hS0 ?_
        refine tk 2 19 (.pointer (some ⟨xb, xo + i * 5, none⟩)) (fuel := 6) rfl (by kernel_rfl) (by kernel_rfl) (by kernel_rfl) (by kernel_rfl) noPanic_false (by kernel_rfl) (fun W _ => x_idx29o (n := n) (c := ca) (x := .tmp 17) (y := .tmp 18) (by kernel_rfl) (by kernel_rfl) (by kernel_rfl) hlt) hS0 ?_
        refine tk 3 20 (opV x) (fuel := 5) rfl (by kernel_rfl) (by kernel_rfl) (by kernel_rfl) (by kernel_rfl) noPanic_false (by kernel_rfl) (fun W hW => x_ld23 (x := .tmp 19) (g := xb) (p := xo + i * 5) (by kernel_rfl) (by kernel_rfl) (range_after HX.out hW)) hS0 ?_
        refine tk 4 21 (.slice (some ⟨yb, yo, none⟩) n cb) (fuel := 4) rfl (by kernel_rfl) (by kernel_rfl) (by kernel_rfl) (by kernel_rfl) noPanic_false (by kernel_rfl) (fun _ _ => by kernel_rfl) hS0 ?_
        refine tk 5 22 (.int .i64 (i : Int)) (fuel := 3) rfl (by kernel_rfl) (by kernel_rfl) (by kernel_rfl) (by kernel_rfl) noPanic_false (by kernel_rfl) (fun _ _ => by kernel_rfl) hS0 ?_
        refine tk 6 23 (.pointer (some ⟨yb, yo + i * 5, none⟩)) (fuel := 2) rfl (by kernel_rfl) (by kernel_rfl) (by kernel_rfl) (by kernel_rfl) noPanic_false (by kernel_rfl) (fun W _ => x_idx29o (n := n) (c := cb) (x := .tmp 21) (y := .tmp 22) (by kernel_rfl) (by kernel_rfl) (by kernel_rfl) hlt) hS0 ?_
        refine tk 7 24 (opV y) (fuel := 1) rfl (by kernel_rfl) (by kernel_rfl) (by kernel_rfl) (by kernel_rfl) noPanic_false (by kernel_rfl) (fun W hW => x_ld23 (x := .tmp 23) (g := yb) (p := yo + i * 5) (by kernel_rfl) (by kernel_rfl) (range_after HY.out hW)) hS0 ?_
        refine tk 8 25 (.bool (!decide (x = y))) (fuel := 0) rfl (by kernel_rfl) (by kernel_rfl) (by kernel_rfl) (by kernel_rfl) noPanic_false (by kernel_rfl) (fun W hW => x_ne23 (x := .tmp 20) (y := .tmp 24) (by kernel_rfl) (by kernel_rfl) (by kernel_rfl)) hS0 ?_
        refine wpAnyH_done (by kernel_rfl) (NoPanic.normal ?_) _
        have HA1 : Hid (After w wr.drew) := After.trans HI.out.aft hS0
        clear hS0
        by_cases hxy : x = y
        · have hd : (!decide (x = y)) = false := by simp [hxy]
          rw [hd]
          go_simp
          go_wp2
          go_roundw
          case rel => exact ⟨i + 1, by omega, by go_num, HA1.out, fun j hj => by
            by_cases e : j = i
            · subst e; rw [HXY.out.1, HXY.out.2, hxy]
            · exact HI.out.pre j (by omega)⟩
          case measure => simp [intOf]; omega
        · have hd : (!decide (x = y)) = true := by simp [hxy]
          rw [hd]
          go_simp
          go_wp2
          go_ret
          refine ⟨?_, HA1.out⟩
          have : ¬ la = lb := fun e => by have h1 := HXY.out; rw [e] at h1; exact hxy (Option.some.inj (h1.1.symm.trans h1.2))
          simp [this]
      · have hii : ¬ (i : Int) < (n : Int) := by omega
        go_wp2
        go_ret
        refine ⟨?_, HI.out.aft⟩
        have : la = lb := eq_of_pre HFA.out.2 HFB.out.2 (fun j hj => HI.out.pre j (by omega))
        simp [this]
  · have hnmi : ¬ (n : Int) = (m : Int) := by omega
    have : ¬ la = lb := fun e => hnm (by rw [← hla, ← hlb, e])
    go_enter Try.func16, Try.ntmps16
    go_wp2
    go_ret
    exact ⟨by simp [this], After.refl w⟩

set_option maxRecDepth 100000 in
set_option maxHeartbeats 3200000 in
theorem same19 (ao bo : Option Addr) (ca cb : Nat) (la lb : List Opn) (n m : Nat) (hla : la.length = n) (hlb : lb.length = m) (hbig : n ≤ 1152921504606846976) (w : World) (hA : OpsAt w ao la) (hB : OpsAt w bo lb) :
    Calls Try.prog 19 #[.slice ao n ca, .slice bo m cb] w fun e w' => e = .returned (.bool (decide (la = lb))) ∧ After w w' := by
  have HC := show Hid _ from equal36 ao bo ca cb la lb n m hla hlb hbig w hA hB
  clear hA hB hla hlb
  go_enter Try.func19, Try.ntmps19
  go_wp2_with (go_at_call 36; refine Calls.mono HC.out ?_; rintro e w2 ⟨rfl, ha2⟩; have HA2 := show Hid (After w w2) from ha2; clear ha2)
  go_ret
  exact ⟨rfl, HA2.out⟩
end Go.Proofs.Ytpplnomomcdemaa
