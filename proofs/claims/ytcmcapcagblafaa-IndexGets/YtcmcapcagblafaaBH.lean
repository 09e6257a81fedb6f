/-
  THE REFERENCE'S SMALL ONES: may (34), own (32), place (31).
-/
import Derived.Test.YtcmcapcagblafaaBG
namespace Go.Proofs.Ytcmcapcagblafaa
open Go.RowKit Dsk
attribute [local go_sem] Oper.semAt_some
theorem bl_bb : ∀ (s t : Nm), Op.bytesLess s t = bytesBefore s t
  | [], [] => rfl
  | [], _ :: _ => rfl
  | _ :: _, [] => rfl
  | a :: s, b :: t => by
    have ih := bl_bb s t
    unfold Op.bytesLess bytesBefore
    rw [ih]
theorem leq_not (s t : Nm) : (bytesBefore s t || s == t) = !bytesBefore t s := by
  by_cases e : s = t
  · subst e; simp [bb_irrefl]
  · have e2 : (s == t) = false := by simpa using e
    rw [e2, Bool.or_false]
    cases h : bytesBefore s t with
    | true =>
      cases h2 : bytesBefore t s with
      | true => have := bb_trans h h2; rw [bb_irrefl] at this; cases this
      | false => rfl
    | false => rw [bb_total e h]; rfl
theorem x_leq9 {oi : Oper} {a : Act} {w : World} {x y : Operand} {s t : Nm} (hop : oi.op = .binOp .leq 9 x y 9) (hx : a.eval x = .string (strOf s)) (hy : a.eval y = .string (strOf t)) : (execOp a.eval oi).run Try.prog w = .ok (.value (.bool (!bytesBefore t s))) w := by
  unfold execOp; simp only [hop, hx, hy]
  rw [← leq_not]
  simp [go_sem, strOf_toList, bl_bb]
theorem x_geq9 {oi : Oper} {a : Act} {w : World} {x y : Operand} {s t : Nm} (hop : oi.op = .binOp .geq 9 x y 9) (hx : a.eval x = .string (strOf s)) (hy : a.eval y = .string (strOf t)) : (execOp a.eval oi).run Try.prog w = .ok (.value (.bool (!bytesBefore s t))) w := by
  unfold execOp; simp only [hop, hx, hy]
  simp [go_sem, strOf_toList, bl_bb]

theorem x_lss9 {oi : Oper} {a : Act} {w : World} {x y : Operand} {s t : Dsk.Nm} (hop : oi.op = .binOp .lss 9 x y 9) (hx : a.eval x = .string (strOf s)) (hy : a.eval y = .string (strOf t)) : (execOp a.eval oi).run Try.prog w = .ok (.value (.bool (bytesBefore s t))) w := by
  unfold execOp; simp only [hop, hx, hy]
  simp [go_sem, strOf_toList, bl_bb]
set_option maxRecDepth 100000 in
set_option maxHeartbeats 400000 in
theorem may34 {ao : Option Addr} {ca : Nat} {l : List H} (h32 : All32 l) {n : Nat} (hl : l.length = n) {w : World} (hA : SlAt w 32 ao (hsL l)) : Calls Try.prog 71 #[.slice ao n ca] w fun e w' => e = .returned (.bool (mayB l)) ∧ After w w' := by
  by_cases hn : n ≤ 16
  · have HC := show Hid _ from rising44 (ca := ca) h32 hl (by omega) hA
    have hm : mayB l = upB l := by unfold mayB; rw [hl]; simp [hn]
    rw [hm]
    have hi : (n : Int) ≤ 16 := by omega
    clear hA h32 hl hm
    go_enter Try.func71, Try.ntmps71
    go_wp2_with (go_at_call 49; refine Calls.mono HC.out ?_; rintro e w2 ⟨rfl, ha2⟩; have HA2 := show Hid (After w w2) from ha2; clear ha2)
    go_ret
    exact ⟨rfl, HA2.out⟩
  · have hm : mayB l = false := by unfold mayB; rw [hl]; simp [hn]
    rw [hm]
    have hi : ¬ (n : Int) ≤ 16 := by omega
    clear hA h32 hl hm
    go_enter Try.func71, Try.ntmps71
    go_wp2
    go_ret
    exact ⟨rfl, After.refl _⟩
/-- Hashes that are copied by an append to none. -/
theorem run_cpy {ao : Option Addr} {ca n : Nat} {l : List H} (hl : l.length = n) (hn : n * 32 ≤ 140737488355328) {w : World} (hz : ao = none → ca = 0) (hA : SlAt w 32 ao (hsL l)) :
    ∃ a' c' w', (Builtin.append_ #[39, 39] 39 #[.slice (some ⟨w.heap.size, 0, none⟩) 0 0, .slice ao n ca]).run Try.prog (w.alloc (.cells #[] 43)) = .ok (.slice a' n c') w' ∧ OwnL w' w.heap.size 43 32 (.slice a' n c') (hsL l) ∧ After w w' ∧ (a' = none → c' = 0) := by
  have ha1 : After w (w.alloc (.cells #[] 43)) := after_alloc (After.refl w) _
  obtain ⟨i, hi, hz0⟩ := Option.map_eq_some_iff.1 info50
  simp only [Prod.mk.injEq] at hz0
  obtain ⟨hz1, hz2, hz3⟩ := hz0
  obtain ⟨va, vc, w', h1, h2, h3, h4⟩ := run_appL (w := w.alloc (.cells #[] 43)) (base := w.heap.size) (v := .slice (some ⟨w.heap.size, 0, none⟩) 0 0) (L := []) (N := hsL l) 39 39 43 32 32 (i := i) (z := .agg (Array.replicate 32 (.int .u8 0))) Try.underlying39 hi hz1 hz2 hz3 (by simp [Value.cells]) (by omega) (OwnL.fresh w 43 32) (a := ao) (m := n) (c := ca) (by rw [hs_len, hl]) (hA.after ha1) (hs_one l) (by simp; unfold maxLen; omega) (by simp; omega) (by simp) (fun _ h => hz h)
  simp only [List.length_nil, Nat.zero_add, List.nil_append] at h1 h2 h4
  refine ⟨va, vc, w', h1, h2, after_grown ha1 h3 (Nat.le_refl _) (fun k hk => by cases hk; exact Nat.le_refl _), fun e => ?_⟩
  subst e
  rcases own_row h2.2 with ⟨e, _⟩ | ⟨g, cap, cs, e, _⟩
  · cases e; rfl
  · cases e
set_option maxRecDepth 100000 in
set_option maxHeartbeats 1600000 in
theorem own32 {nm : Dsk.Nm} {ao : Option Addr} {ca n : Nat} {l : List H} (h32 : All32 l) (hl : l.length = n) (hn : n * 32 ≤ 140737488355328) {w : World} (hz : ao = none → ca = 0) (hA : SlAt w 32 ao (hsL l)) :
    Calls Try.prog 41 #[.string (strOf nm), .slice ao n ca] w fun e w' => ∃ g a' c', e = .returned (.slice (some ⟨g, 0, none⟩) 1 1) ∧ OwnB w' w.heap.size (.slice (some ⟨g, 0, none⟩) 1 1) [⟨nm, a', c', l⟩] ∧ After w w' := by
  obtain ⟨a', c', w1, r1, ho, ha, hz'⟩ := run_cpy hl hn hz hA
  have HE := show Hid _ from r1
  obtain ⟨a2, c2, e2, hs2⟩ := ho.sl
  injection e2 with q1 q2 q3
  subst q1 q3
  have hx : BxAt w1 ⟨nm, a', c', l⟩ := ⟨hs2, h32, hz', by simp only; omega⟩
  have hb := hx.box
  have ev : Bx.v ⟨nm, a', c', l⟩ = .slice a' n c' := by unfold Bx.v; rw [hl]
  rw [ev] at hb
  have hr := RowIs.new w1 65 [.string (strOf nm), .slice a' n c']
  have a12 := after_alloc (After.refl w1) (.cells #[.string (strOf nm), .slice a' n c'] 65)
  have HF : Hid (OwnB (w1.alloc (.cells #[.string (strOf nm), .slice a' n c'] 65)) w.heap.size (.slice (some ⟨w1.heap.size, 0, none⟩) 1 1) [⟨nm, a', c', l⟩] ∧ After w (w1.alloc (.cells #[.string (strOf nm), .slice a' n c'] 65))) := by
    refine ⟨⟨⟨uni_bs _, ?_⟩, hb.each, fun x hx ad e => ?_⟩, ha.trans a12⟩
    · refine row_own (n := 1) (cap := 1) ha.size hr (by omega) (by unfold maxLen; omega) rfl ?_
      simp [bsL, brc, ev]
    · rw [List.mem_singleton] at hx
      subst hx
      have := own_block ho ad e
      refine ⟨this.1, by have := a12.size; omega, fun e' => ?_, (own_rw ho ad e).same (a12.block _ this.2)⟩
      have : w1.heap.size = ad.block := Option.some.inj e'
      omega
  clear r1 ho hs2 hx hb ev hr a12 hA h32 hl hz ha q2
  go_enter Try.func41, Try.ntmps41
  go_wp2_with (first
    | (refine wpList_of_run rfl (x_bs30e rfl) ?_)
    | (refine wpList_of_run rfl (x_app (t := 39) (s := .tmp 6) (x := .tmp 7) rfl (by kernel_rfl) (by kernel_rfl) HE.out) ?_)
    | (refine wpList_of_run rfl (x_bld48 (x := .tmp 5) (y := .tmp 8) (s := strOf nm) (b := a') (n := n) (c := c') rfl (by kernel_rfl) (by kernel_rfl)) ?_)
    | (refine wpList_of_run rfl (x_bs25 (x := .tmp 9) (u := .string (strOf nm)) (v := .slice a' n c') rfl (by kernel_rfl)) ?_))
  go_ret
  exact ⟨_, _, _, rfl, HF.out⟩
section
variable {a : Act} {w : World} {oi : Oper}
theorem x_lssT {x y : Operand} {p q : Nat} (hop : oi.op = .binOp .lss 3 x y 3) (hx : a.eval x = .int .i64 (p : Int)) (hy : a.eval y = .int .i64 (q : Int)) (h : p < q) : (execOp a.eval oi).run Try.prog w = .ok (.value (.bool true)) w := by
  unfold execOp
  simp only [hop, hx, hy]
  simp [go_sem]; omega
theorem x_lssF {x y : Operand} {p q : Nat} (hop : oi.op = .binOp .lss 3 x y 3) (hx : a.eval x = .int .i64 (p : Int)) (hy : a.eval y = .int .i64 (q : Int)) (h : ¬ p < q) : (execOp a.eval oi).run Try.prog w = .ok (.value (.bool false)) w := by
  unfold execOp
  simp only [hop, hx, hy]
  simp [go_sem]; omega
end
end Go.Proofs.Ytcmcapcagblafaa
