/-
  THE REFERENCE'S SMALL ONES: may (34), own (32), place (31).
-/
import Derived.Test.YtppbbmnekeelpaaBG
namespace Go.Proofs.Ytppbbmnekeelpaa
open Go.RowKit Dsk
attribute [local go_sem] Oper.semAt_some
theorem bl_bb : ∀ (s t : Nm), Op.bytesLess s t = bytesBefore s t
  | [], [] => rfl
  | [], _ :: _ => rfl
  | _ :: _, [] => rfl
  | a :: s, b :: t => by
    have ih := bl_bb s t
    unfold Op.bytesLess bytesBefore
    rw [ih]
theorem leq_not (s t : Nm) : (bytesBefore s t || s == t) = !bytesBefore t s := by
  by_cases e : s = t
  · subst e; simp [bb_irrefl]
  · have e2 : (s == t) = false := by simpa using e
    rw [e2, Bool.or_false]
    cases h : bytesBefore s t with
    | true =>
      cases h2 : bytesBefore t s with
      | true => have := bb_trans h h2; rw [bb_irrefl] at this; cases this
      | false => rfl
    | false => rw [bb_total e h]; rfl
theorem x_leq9 {oi : Oper} {a : Act} {w : World} {x y : Operand} {s t : Nm} (hop : oi.op = .binOp .leq 9 x y 9) (hx : a.eval x = .string (strOf s)) (hy : a.eval y = .string (strOf t)) : (execOp a.eval oi).run Try.prog w = .ok (.value (.bool (!bytesBefore t s))) w := by
  unfold execOp; simp only [hop, hx, hy]
  rw [← leq_not]
  simp [go_sem, strOf_toList, bl_bb]
theorem x_geq9 {oi : Oper} {a : Act} {w : World} {x y : Operand} {s t : Nm} (hop : oi.op = .binOp .geq 9 x y 9) (hx : a.eval x = .string (strOf s)) (hy : a.eval y = .string (strOf t)) : (execOp a.eval oi).run Try.prog w = .ok (.value (.bool (!bytesBefore s t))) w := by
  unfold execOp; simp only [hop, hx, hy]
  simp [go_sem, strOf_toList, bl_bb]

theorem x_lss9 {oi : Oper} {a : Act} {w : World} {x y : Operand} {s t : Dsk.Nm} (hop : oi.op = .binOp .lss 9 x y 9) (hx : a.eval x = .string (strOf s)) (hy : a.eval y = .string (strOf t)) : (execOp a.eval oi).run Try.prog w = .ok (.value (.bool (bytesBefore s t))) w := by
  unfold execOp; simp only [hop, hx, hy]
  simp [go_sem, strOf_toList, bl_bb]
set_option maxRecDepth 100000 in
set_option maxHeartbeats 400000 in
theorem may34 {ao : Option Addr} {ca : Nat} {l : List H} (h32 : All32 l) {n : Nat} (hl : l.length = n) {w : World} (hA : SlAt w 32 ao (hsL l)) : Calls Try.prog 34 #[.slice ao n ca] w fun e w' => e = .returned (.bool (mayB l)) ∧ After w w' := by
  by_cases hn : n ≤ 16
  · have HC := show Hid _ from rising44 (ca := ca) h32 hl (by omega) hA
    have hm : mayB l = upB l := by unfold mayB; rw [hl]; simp [hn]
    rw [hm]
    have hi : (n : Int) ≤ 16 := by omega
    clear hA h32 hl hm
    go_enter Try.func34, Try.ntmps34
    go_wp2_with (go_at_call 44; refine Calls.mono HC.out ?_; rintro e w2 ⟨rfl, ha2⟩; have HA2 := show Hid (After w w2) from ha2; clear ha2)
    go_ret
    exact ⟨rfl, HA2.out⟩
  · have hm : mayB l = false := by unfold mayB; rw [hl]; simp [hn]
    rw [hm]
    have hi : ¬ (n : Int) ≤ 16 := by omega
    clear hA h32 hl hm
    go_enter Try.func34, Try.ntmps34
    go_wp2
    go_ret
    exact ⟨rfl, After.refl _⟩
/-- Hashes that are copied by an append to none. -/
theorem run_cpy {ao : Option Addr} {ca n : Nat} {l : List H} (hl : l.length = n) (hn : n * 32 ≤ 140737488355328) {w : World} (hz : ao = none → ca = 0) (hA : SlAt w 32 ao (hsL l)) :
    ∃ a' c' w', (Builtin.append_ #[30, 30] 30 #[.slice (some ⟨w.heap.size, 0, none⟩) 0 0, .slice ao n ca]).run Try.prog (w.alloc (.cells #[] 50)) = .ok (.slice a' n c') w' ∧ OwnL w' w.heap.size 50 32 (.slice a' n c') (hsL l) ∧ After w w' ∧ (a' = none → c' = 0) := by
  have ha1 : After w (w.alloc (.cells #[] 50)) := after_alloc (After.refl w) _
  obtain ⟨i, hi, hz0⟩ := Option.map_eq_some_iff.1 info50
  simp only [Prod.mk.injEq] at hz0
  obtain ⟨hz1, hz2, hz3⟩ := hz0
  obtain ⟨va, vc, w', h1, h2, h3, h4⟩ := run_appL (w := w.alloc (.cells #[] 50)) (base := w.heap.size) (v := .slice (some ⟨w.heap.size, 0, none⟩) 0 0) (L := []) (N := hsL l) 30 30 50 32 32 (i := i) (z := .agg (Array.replicate 32 (.int .u8 0))) Try.underlying30 hi hz1 hz2 hz3 (by simp [Value.cells]) (by omega) (OwnL.fresh w 50 32) (a := ao) (m := n) (c := ca) (by rw [hs_len, hl]) (hA.after ha1) (hs_one l) (by simp; unfold maxLen; omega) (by simp; omega) (by simp) (fun _ h => hz h)
  simp only [List.length_nil, Nat.zero_add, List.nil_append] at h1 h2 h4
  refine ⟨va, vc, w', h1, h2, after_grown ha1 h3 (Nat.le_refl _) (fun k hk => by cases hk; exact Nat.le_refl _), fun e => ?_⟩
  subst e
  rcases own_row h2.2 with ⟨e, _⟩ | ⟨g, cap, cs, e, _⟩
  · cases e; rfl
  · cases e
set_option maxRecDepth 100000 in
set_option maxHeartbeats 1600000 in
theorem own32 {nm : Dsk.Nm} {ao : Option Addr} {ca n : Nat} {l : List H} (h32 : All32 l) (hl : l.length = n) (hn : n * 32 ≤ 140737488355328) {w : World} (hz : ao = none → ca = 0) (hA : SlAt w 32 ao (hsL l)) :
    Calls Try.prog 32 #[.string (strOf nm), .slice ao n ca] w fun e w' => ∃ g a' c', e = .returned (.slice (some ⟨g, 0, none⟩) 1 1) ∧ OwnB w' w.heap.size (.slice (some ⟨g, 0, none⟩) 1 1) [⟨nm, a', c', l⟩] ∧ After w w' := by
  obtain ⟨a', c', w1, r1, ho, ha, hz'⟩ := run_cpy hl hn hz hA
  have HE := show Hid _ from r1
  obtain ⟨a2, c2, e2, hs2⟩ := ho.sl
  injection e2 with q1 q2 q3
  subst q1 q3
  have hx : BxAt w1 ⟨nm, a', c', l⟩ := ⟨hs2, h32, hz', by simp only; omega⟩
  have hb := hx.box
  have ev : Bx.v ⟨nm, a', c', l⟩ = .slice a' n c' := by unfold Bx.v; rw [hl]
  rw [ev] at hb
  have hr := RowIs.new w1 48 [.string (strOf nm), .slice a' n c']
  have a12 := after_alloc (After.refl w1) (.cells #[.string (strOf nm), .slice a' n c'] 48)
  have HF : Hid (OwnB (w1.alloc (.cells #[.string (strOf nm), .slice a' n c'] 48)) w.heap.size (.slice (some ⟨w1.heap.size, 0, none⟩) 1 1) [⟨nm, a', c', l⟩] ∧ After w (w1.alloc (.cells #[.string (strOf nm), .slice a' n c'] 48))) := by
    refine ⟨⟨⟨uni_bs _, ?_⟩, hb.each, fun x hx ad e => ?_⟩, ha.trans a12⟩
    · refine row_own (n := 1) (cap := 1) ha.size hr (by omega) (by unfold maxLen; omega) rfl ?_
      simp [bsL, brc, ev]
    · rw [List.mem_singleton] at hx
      subst hx
      have := own_block ho ad e
      refine ⟨this.1, by have := a12.size; omega, fun e' => ?_, (own_rw ho ad e).same (a12.block _ this.2)⟩
      have : w1.heap.size = ad.block := Option.some.inj e'
      omega
  clear r1 ho hs2 hx hb ev hr a12 hA h32 hl hz ha q2
  go_enter Try.func32, Try.ntmps32
  go_wp2_with (first
    | (refine wpList_of_run rfl (x_bs30e rfl) ?_)
    | (refine wpList_of_run rfl (x_app (t := 30) (s := .tmp 6) (x := .tmp 7) rfl (by kernel_rfl) (by kernel_rfl) HE.out) ?_)
    | (refine wpList_of_run rfl (x_bld48 (x := .tmp 5) (y := .tmp 8) (s := strOf nm) (b := a') (n := n) (c := c') rfl (by kernel_rfl) (by kernel_rfl)) ?_)
    | (refine wpList_of_run rfl (x_bs25 (x := .tmp 9) (u := .string (strOf nm)) (v := .slice a' n c') rfl (by kernel_rfl)) ?_))
  go_ret
  exact ⟨_, _, _, rfl, HF.out⟩
section
variable {a : Act} {w : World} {oi : Oper}
theorem x_lssT {x y : Operand} {p q : Nat} (hop : oi.op = .binOp .lss 3 x y 3) (hx : a.eval x = .int .i64 (p : Int)) (hy : a.eval y = .int .i64 (q : Int)) (h : p < q) : (execOp a.eval oi).run Try.prog w = .ok (.value (.bool true)) w := by
  unfold execOp
  simp only [hop, hx, hy]
  simp [go_sem]; omega
theorem x_lssF {x y : Operand} {p q : Nat} (hop : oi.op = .binOp .lss 3 x y 3) (hx : a.eval x = .int .i64 (p : Int)) (hy : a.eval y = .int .i64 (q : Int)) (h : ¬ p < q) : (execOp a.eval oi).run Try.prog w = .ok (.value (.bool false)) w := by
  unfold execOp
  simp only [hop, hx, hy]
  simp [go_sem]; omega
end
set_option maxRecDepth 100000 in
set_option maxHeartbeats 6400000 in
theorem place31 {nm : Dsk.Nm} {ao : Option Addr} {ca n : Nat} {X : List Bx} (hris : rising (bof X)) (hl : X.length = n) (hn : n ≤ 64) {w : World} (hA : BsAt w ao X) :
    Calls Try.prog 31 #[.agg #[.slice ao n ca], .string (strOf nm)] w fun e w' => e = .returned (.tuple #[.int .i64 (plc nm (bof X) : Int), .bool (fhas nm (bof X))]) ∧ After w w' := by
  obtain ⟨g0, hg0⟩ : ∃ g0, w.heap.size = g0 := ⟨_, rfl⟩
  obtain ⟨W0, hW0⟩ : ∃ W0, w.alloc (.cells #[.slice ao n ca] 27) = W0 := ⟨_, rfl⟩
  have HR : Hid (RowIs W0 g0 27 [.slice ao n ca] ∧ After w W0) := by rw [← hW0, ← hg0]; exact ⟨RowIs.new w 27 _, after_alloc (After.refl w) _⟩
  have c0 := HR.out.1.cell (j := 0) rfl
  have HA : Hid (BsAt W0 ao X ∧ X.length = n ∧ rising (bof X)) := ⟨hA.after HR.out.2, hl, hris⟩
  clear hA hl hris
  go_enter Try.func31, Try.ntmps31
  go_wp2_with (first | (rw [hW0]; rw [hg0]))
  go_loopw [6] (fun iv wr => ∃ i : Nat, i ≤ n ∧ iv = .int .i64 (i : Int) ∧ Hid (∀ (j : Nat) (p : Dsk.Nm × List H), j < i → (bof X)[j]? = some p → bytesBefore p.1 nm = true) ∧ wr = W0) (fun iv _ => n - (intOf iv).toNat)
  case atStart => exact ⟨0, Nat.zero_le _, rfl, fun j p hj => by omega, rfl⟩
  case round =>
    obtain ⟨i, hin, rfl, HI, hwr⟩ := hrel
    subst hwr
    by_cases hlt : i < n
    · have hii : (i : Int) < (n : Int) := by omega
      have HLT : Hid (i < n) := hlt
      obtain ⟨x, hx⟩ : ∃ x, X[i]? = some x := ⟨_, List.getElem?_eq_getElem (by rw [HA.out.2.1]; exact hlt)⟩
      obtain ⟨xb, xo, hxa, hxr⟩ := HA.out.1.sl.at (bs_get hx)
      subst hxa
      have HX : Hid (wr.rangeAt xb (xo + i * 2) (brc x)) := hxr
      have HB : Hid ((bof X)[i]? = some (x.nm, x.l)) := bof_get hx
      clear hx hxr
      by_cases hb : bytesBefore x.nm nm = true
      · have HBB : Hid (bytesBefore x.nm nm = true) := hb
        have HN : Hid (∀ (j : Nat) (p : Dsk.Nm × List H), j < i + 1 → (bof X)[j]? = some p → bytesBefore p.1 nm = true) := fun j p hj hp => by
          by_cases e : j = i
          · subst e; rw [HB.out] at hp; cases hp; exact HBB.out
          · exact HI.out j p (by omega) hp
        clear hb
        go_wp2_with (first
          | (refine wpListG_of_run (by kernel_rfl) (x_idx25 (x := .tmp 14) (y := .tmp 15) (b := xb) (f := xo) (n := n) (c := ca) (i := i) rfl (by kernel_rfl) (by kernel_rfl) HLT.out) ?_)
          | (refine wpListG_of_run (by kernel_rfl) (x_loadT (x := .tmp 17) (t := 9) (g := xb) (j := xo + i * 2 + 0) Try.underlying9 rfl rfl (by kernel_rfl) (HX.out 0 _ rfl)) ?_)
          | (refine wpListG_of_run (by kernel_rfl) (x_lss9 (x := .tmp 18) (y := .tmp 19) (s := x.nm) (t := nm) rfl (by kernel_rfl) (by kernel_rfl)) ?_; rw [HBB.out]))
        go_roundw
        case rel => exact ⟨i + 1, by omega, by go_num, HN, trivial⟩
        case measure => simp [intOf]; omega
      · have hbf : bytesBefore x.nm nm = false := by simpa using hb
        have HBB : Hid (bytesBefore x.nm nm = false) := hbf
        clear hb hbf
        go_wp2_with (first
          | (refine wpListG_of_run (by kernel_rfl) (x_idx25 (x := .tmp 14) (y := .tmp 15) (b := xb) (f := xo) (n := n) (c := ca) (i := i) rfl (by kernel_rfl) (by kernel_rfl) HLT.out) ?_)
          | (refine wpListG_of_run (by kernel_rfl) (x_loadT (x := .tmp 17) (t := 9) (g := xb) (j := xo + i * 2 + 0) Try.underlying9 rfl rfl (by kernel_rfl) (HX.out 0 _ rfl)) ?_)
          | (refine wpListG_of_run (by kernel_rfl) (x_lss9 (x := .tmp 18) (y := .tmp 19) (s := x.nm) (t := nm) rfl (by kernel_rfl) (by kernel_rfl)) ?_; rw [HBB.out]))
        refine wp_region_noPanic ?_
        refine wp_region_held_drew (S := After wr) (by kernel_rfl) (After.drew (After.refl wr)) ?_
        intro hS0
        refine tk 0 24 (.int .i64 (i : Int)) (fuel := 17) rfl (by kernel_rfl) (by kernel_rfl) (by kernel_rfl) (by kernel_rfl) noPanic_false (by kernel_rfl) (fun _ _ => by kernel_rfl) hS0 ?_
        refine tk 1 25 (.int .i64 (i : Int)) (fuel := 16) rfl (by kernel_rfl) (by kernel_rfl) (by kernel_rfl) (by kernel_rfl) noPanic_false (by kernel_rfl) (fun _ _ => by kernel_rfl) hS0 ?_
        refine tk 2 26 (.pointer (some ⟨g0, 0, none⟩)) (fuel := 15) rfl (by kernel_rfl) (by kernel_rfl) (by kernel_rfl) (by kernel_rfl) noPanic_false (by kernel_rfl) (fun _ _ => by kernel_rfl) hS0 ?_
        refine tk 3 27 (.slice (some ⟨xb, xo, none⟩) n ca) (fuel := 14) rfl (by kernel_rfl) (by kernel_rfl) (by kernel_rfl) (by kernel_rfl) noPanic_false (by kernel_rfl) (fun W hW => x_loadT (x := .tmp 26) (t := 25) (g := g0) (j := 0) Try.underlying25 rfl (by kernel_rfl) (by kernel_rfl) ((HR.out.1.below hW HR.out.1.lt).cell (j := 0) rfl)) hS0 ?_
        refine tk 4 28 (.int .i64 (n : Int)) (fuel := 13) rfl (by kernel_rfl) (by kernel_rfl) (by kernel_rfl) (by kernel_rfl) noPanic_false (by kernel_rfl) (fun _ _ => by kernel_rfl) hS0 ?_
        refine tk 5 29 (.bool true) (fuel := 12) rfl (by kernel_rfl) (by kernel_rfl) (by kernel_rfl) (by kernel_rfl) noPanic_false (by kernel_rfl) (fun W _ => x_lssT (p := i) (q := n) (x := .tmp 25) (y := .tmp 28) (by kernel_rfl) (by kernel_rfl) (by kernel_rfl) HLT.out) hS0 ?_
        refine tk 6 30 (.bool true) (fuel := 11) rfl (by kernel_rfl) (by kernel_rfl) (by kernel_rfl) (by kernel_rfl) noPanic_false (by kernel_rfl) (fun _ _ => by kernel_rfl) hS0 ?_
        refine tk 7 31 (.pointer (some ⟨g0, 0, none⟩)) (fuel := 10) rfl (by kernel_rfl) (by kernel_rfl) (by kernel_rfl) (by kernel_rfl) noPanic_false (by kernel_rfl) (fun _ _ => by kernel_rfl) hS0 ?_
        refine tk 8 32 (.slice (some ⟨xb, xo, none⟩) n ca) (fuel := 9) rfl (by kernel_rfl) (by kernel_rfl) (by kernel_rfl) (by kernel_rfl) noPanic_false (by kernel_rfl) (fun W hW => x_loadT (x := .tmp 31) (t := 25) (g := g0) (j := 0) Try.underlying25 rfl (by kernel_rfl) (by kernel_rfl) ((HR.out.1.below hW HR.out.1.lt).cell (j := 0) rfl)) hS0 ?_
        refine tk 9 33 (.int .i64 (i : Int)) (fuel := 8) rfl (by kernel_rfl) (by kernel_rfl) (by kernel_rfl) (by kernel_rfl) noPanic_false (by kernel_rfl) (fun _ _ => by kernel_rfl) hS0 ?_
        refine tk 10 34 (.pointer (some ⟨xb, xo + i * 2, none⟩)) (fuel := 7) rfl (by kernel_rfl) (by kernel_rfl) (by kernel_rfl) (by kernel_rfl) noPanic_false (by kernel_rfl) (fun W _ => x_idx25 (n := n) (c := ca) (x := .tmp 32) (y := .tmp 33) (by kernel_rfl) (by kernel_rfl) (by kernel_rfl) HLT.out) hS0 ?_
        refine tk 11 35 (.pointer (some ⟨xb, xo + i * 2, none⟩)) (fuel := 6) rfl (by kernel_rfl) (by kernel_rfl) (by kernel_rfl) (by kernel_rfl) noPanic_false (by kernel_rfl) (fun _ _ => by kernel_rfl) hS0 ?_
        refine tk 12 36 (.string (strOf x.nm)) (fuel := 5) rfl (by kernel_rfl) (by kernel_rfl) (by kernel_rfl) (by kernel_rfl) noPanic_false (by kernel_rfl) (fun W hW => x_loadT (x := .tmp 35) (t := 9) (g := xb) (j := xo + i * 2 + 0) Try.underlying9 rfl (by kernel_rfl) (by kernel_rfl) (range_after HX.out hW 0 _ rfl)) hS0 ?_
        refine tk 13 37 (.string (strOf nm)) (fuel := 4) rfl (by kernel_rfl) (by kernel_rfl) (by kernel_rfl) (by kernel_rfl) noPanic_false (by kernel_rfl) (fun _ _ => by kernel_rfl) hS0 ?_
        refine tk 14 38 (.bool (decide (x.nm = nm))) (fuel := 3) rfl (by kernel_rfl) (by kernel_rfl) (by kernel_rfl) (by kernel_rfl) noPanic_false (by kernel_rfl) (fun W _ => x_eq9 (s := x.nm) (t := nm) (x := .tmp 36) (y := .tmp 37) (by kernel_rfl) (by kernel_rfl) (by kernel_rfl)) hS0 ?_
        refine tk 15 39 (.bool (decide (x.nm = nm))) (fuel := 2) rfl (by kernel_rfl) (by kernel_rfl) (by kernel_rfl) (by kernel_rfl) noPanic_false (by kernel_rfl) (fun _ _ => by kernel_rfl) hS0 ?_
        refine tk 16 4 (.int .i64 (i : Int)) (fuel := 1) rfl (by kernel_rfl) (by kernel_rfl) (by kernel_rfl) (by kernel_rfl) noPanic_false (by kernel_rfl) (fun _ _ => by kernel_rfl) hS0 ?_
        refine tk 17 5 (.bool (decide (x.nm = nm))) (fuel := 0) rfl (by kernel_rfl) (by kernel_rfl) (by kernel_rfl) (by kernel_rfl) noPanic_false (by kernel_rfl) (fun _ _ => by kernel_rfl) hS0 ?_
        refine wpAnyH_done (by kernel_rfl) (NoPanic.normal ?_) _
        have HP : Hid (i = plc nm (bof X) ∧ fhas nm (bof X) = decide (x.nm = nm)) := by
          have h1 := plc_of nm (bof X) i (by rw [bof_len, HA.out.2.1]; exact hin) HI.out (fun p hp => by rw [HB.out] at hp; cases hp; exact HBB.out)
          refine ⟨h1, ?_⟩
          have h2 := (plc_split nm ([] : List H) HA.out.2.2).1
          rw [← h1, HB.out] at h2
          rw [h2]
          by_cases e : x.nm = nm <;> simp [e]
        have HA1 : Hid (After w wr.drew) := HR.out.2.trans hS0
        clear hS0
        go_simp
        go_wp2
        refine bodyPost_ret (v := .tuple #[.int .i64 (i : Int), .bool (decide (x.nm = nm))]) (by simp [results, Try.results31, go_sem]) rfl ⟨?_, HA1.out⟩
        rw [← HP.out.1, HP.out.2]
    · have hii : ¬ (i : Int) < (n : Int) := by omega
      have HLT : Hid (¬ i < n) := hlt
      go_wp2_with fail
      refine wp_region_noPanic ?_
      refine wp_region_held_drew (S := After wr) (by kernel_rfl) (After.drew (After.refl wr)) ?_
      intro hS0
      refine tk 0 24 (.int .i64 (i : Int)) (fuel := 17) rfl (by kernel_rfl) (by kernel_rfl) (by kernel_rfl) (by kernel_rfl) noPanic_false (by kernel_rfl) (fun _ _ => by kernel_rfl) hS0 ?_
      refine tk 1 25 (.int .i64 (i : Int)) (fuel := 16) rfl (by kernel_rfl) (by kernel_rfl) (by kernel_rfl) (by kernel_rfl) noPanic_false (by kernel_rfl) (fun _ _ => by kernel_rfl) hS0 ?_
      refine tk 2 26 (.pointer (some ⟨g0, 0, none⟩)) (fuel := 15) rfl (by kernel_rfl) (by kernel_rfl) (by kernel_rfl) (by kernel_rfl) noPanic_false (by kernel_rfl) (fun _ _ => by kernel_rfl) hS0 ?_
      refine tk 3 27 (.slice ao n ca) (fuel := 14) rfl (by kernel_rfl) (by kernel_rfl) (by kernel_rfl) (by kernel_rfl) noPanic_false (by kernel_rfl) (fun W hW => x_loadT (x := .tmp 26) (t := 25) (g := g0) (j := 0) Try.underlying25 rfl (by kernel_rfl) (by kernel_rfl) ((HR.out.1.below hW HR.out.1.lt).cell (j := 0) rfl)) hS0 ?_
      refine tk 4 28 (.int .i64 (n : Int)) (fuel := 13) rfl (by kernel_rfl) (by kernel_rfl) (by kernel_rfl) (by kernel_rfl) noPanic_false (by kernel_rfl) (fun _ _ => by kernel_rfl) hS0 ?_
      refine tk 5 29 (.bool false) (fuel := 12) rfl (by kernel_rfl) (by kernel_rfl) (by kernel_rfl) (by kernel_rfl) noPanic_false (by kernel_rfl) (fun W _ => x_lssF (p := i) (q := n) (x := .tmp 25) (y := .tmp 28) (by kernel_rfl) (by kernel_rfl) (by kernel_rfl) HLT.out) hS0 ?_
      refine tk 6 30 (.bool false) (fuel := 11) rfl (by kernel_rfl) (by kernel_rfl) (by kernel_rfl) (by kernel_rfl) noPanic_false (by kernel_rfl) (fun _ _ => by kernel_rfl) hS0 ?_
      refine tkSkip 7 31 (fuel := 10) rfl (by kernel_rfl) (by kernel_rfl) (by kernel_rfl) (by kernel_rfl) noPanic_false (by kernel_rfl) hS0 ?_
      refine tkSkip 8 32 (fuel := 9) rfl (by kernel_rfl) (by kernel_rfl) (by kernel_rfl) (by kernel_rfl) noPanic_false (by kernel_rfl) hS0 ?_
      refine tkSkip 9 33 (fuel := 8) rfl (by kernel_rfl) (by kernel_rfl) (by kernel_rfl) (by kernel_rfl) noPanic_false (by kernel_rfl) hS0 ?_
      refine tkSkip 10 34 (fuel := 7) rfl (by kernel_rfl) (by kernel_rfl) (by kernel_rfl) (by kernel_rfl) noPanic_false (by kernel_rfl) hS0 ?_
      refine tkSkip 11 35 (fuel := 6) rfl (by kernel_rfl) (by kernel_rfl) (by kernel_rfl) (by kernel_rfl) noPanic_false (by kernel_rfl) hS0 ?_
      refine tkSkip 12 36 (fuel := 5) rfl (by kernel_rfl) (by kernel_rfl) (by kernel_rfl) (by kernel_rfl) noPanic_false (by kernel_rfl) hS0 ?_
      refine tkSkip 13 37 (fuel := 4) rfl (by kernel_rfl) (by kernel_rfl) (by kernel_rfl) (by kernel_rfl) noPanic_false (by kernel_rfl) hS0 ?_
      refine tkSkip 14 38 (fuel := 3) rfl (by kernel_rfl) (by kernel_rfl) (by kernel_rfl) (by kernel_rfl) noPanic_false (by kernel_rfl) hS0 ?_
      refine tk 15 39 (.bool false) (fuel := 2) rfl (by kernel_rfl) (by kernel_rfl) (by kernel_rfl) (by kernel_rfl) noPanic_false (by kernel_rfl) (fun _ _ => by kernel_rfl) hS0 ?_
      refine tk 16 4 (.int .i64 (i : Int)) (fuel := 1) rfl (by kernel_rfl) (by kernel_rfl) (by kernel_rfl) (by kernel_rfl) noPanic_false (by kernel_rfl) (fun _ _ => by kernel_rfl) hS0 ?_
      refine tk 17 5 (.bool false) (fuel := 0) rfl (by kernel_rfl) (by kernel_rfl) (by kernel_rfl) (by kernel_rfl) noPanic_false (by kernel_rfl) (fun _ _ => by kernel_rfl) hS0 ?_
      refine wpAnyH_done (by kernel_rfl) (NoPanic.normal ?_) _
      have HP : Hid (i = plc nm (bof X) ∧ fhas nm (bof X) = false) := by
        have h0 : (bof X)[i]? = none := List.getElem?_eq_none (by rw [bof_len, HA.out.2.1]; omega)
        have h1 := plc_of nm (bof X) i (by rw [bof_len, HA.out.2.1]; exact hin) HI.out (fun p hp => by rw [h0] at hp; cases hp)
        refine ⟨h1, ?_⟩
        have h2 := (plc_split nm ([] : List H) HA.out.2.2).1
        rw [← h1, h0] at h2
        exact h2
      have HA1 : Hid (After w wr.drew) := HR.out.2.trans hS0
      clear hS0
      go_simp
      go_wp2
      refine bodyPost_ret (v := .tuple #[.int .i64 (i : Int), .bool false]) (by simp [results, Try.results31, go_sem]) rfl ⟨?_, HA1.out⟩
      rw [← HP.out.1, HP.out.2]
end Go.Proofs.Ytppbbmnekeelpaa
