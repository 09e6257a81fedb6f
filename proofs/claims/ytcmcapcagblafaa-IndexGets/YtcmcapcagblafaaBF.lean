/-
  TWO LISTS OF BRANCHES: branch.Same (24) with slices.EqualFunc (40) and its closure (41).
-/
import Derived.Test.YtcmcapcagblafaaBE
namespace Go.Proofs.Ytcmcapcagblafaa
open Go.RowKit
attribute [local go_sem] Oper.semAt_some
theorem brc_one (x : Bx) : ∀ u ∈ brc x, u.oneCell' = true := bs_one [x] (brc x) (by simp [bsL])
theorem size48 (x : Bx) : (Try.prog.info? 65).map (·.size) = some (brc x).toArray.size := by show _ = some 2; kernel_rfl
def zbx : Bx := ⟨[], none, 0, []⟩
section
variable {oi : Oper} {a : Act} {w : World}
theorem x_ld48 {x : Operand} {g p : Nat} {y : Bx} (hop : oi.op = .load 65 x) (hx : a.eval x = .pointer (some ⟨g, p, none⟩)) (hc : w.rangeAt g p (brc y)) : (execOp a.eval oi).run Try.prog w = .ok (.value (.agg (brc y).toArray)) w := by
  have hi : (Try.prog.info? 65).map (·.size) = some (brc y).length := size48 y
  unfold execOp
  simp only [hop, hx, Instr.loadAt, Instr.sureAddr, Sem.run_bind, Sem.run_pure, Result.andThen_ok, run_loadVar_mid w g p 65 (brc y) _ hc Try.underlying65 rfl hi]
theorem x_al48 (hop : oi.op = .alloc 65) : (execOp a.eval oi).run Try.prog w = .ok (.value (.pointer (some ⟨w.heap.size, 0, none⟩))) (w.alloc (.cells (brc zbx).toArray 65)) := by
  have hz : (zeroValue 65).run Try.prog w = .ok (.agg (brc zbx).toArray) w := by kernel_rfl
  unfold execOp
  simp only [hop]
  simp [go_sem, hz, Value.cells]
end
set_option maxRecDepth 100000 in
set_option maxHeartbeats 1600000 in
theorem same41 {x y : Bx} {w : World} (hx : BxAt w x) (hy : BxAt w y) : Calls Try.prog 66 #[.agg (brc x).toArray, .agg (brc y).toArray] w fun e w' => e = .returned (.bool (decide ((x.nm, x.l) = (y.nm, y.l)))) ∧ After w w' := by
  obtain ⟨s, a, c, l⟩ := x
  obtain ⟨t, b, d, m⟩ := y
  obtain ⟨n, hn⟩ : ∃ n, l.length = n := ⟨_, rfl⟩
  obtain ⟨k, hk⟩ : ∃ k, m.length = k := ⟨_, rfl⟩
  obtain ⟨W0, hW0⟩ : ∃ W0, (w.alloc (.cells #[.string (strOf s), .slice a n c] 65)).alloc (.cells #[.string (strOf t), .slice b k d] 65) = W0 := ⟨_, rfl⟩
  have HR : RowIs W0 w.heap.size 65 [.string (strOf s), .slice a n c] ∧ RowIs W0 (w.heap.size + 1) 65 [.string (strOf t), .slice b k d] ∧ After w W0 := by
    refine ⟨?_, ?_, ?_⟩
    · rw [← hW0]; exact (RowIs.new w 65 [.string (strOf s), .slice a n c]).alloc _
    · rw [← hW0]; have := RowIs.new (w.alloc (.cells #[.string (strOf s), .slice a n c] 65)) 65 [.string (strOf t), .slice b k d]; rwa [World.size_alloc] at this
    · rw [← hW0]; exact after_alloc (after_alloc (After.refl w) _) _
  have c0 := HR.1.cell (j := 0) rfl
  have c1 := HR.1.cell (j := 1) rfl
  have d0 := HR.2.1.cell (j := 0) rfl
  have d1 := HR.2.1.cell (j := 1) rfl
  have HA : Hid (After w W0) := HR.2.2
  have hfx := hx.fit
  have hfy := hy.fit
  simp only at hfx hfy
  have HC : Hid (Calls Try.prog 18 #[.slice a n c, .slice b k d] W0 fun e w' => e = .returned (.bool (decide (l = m))) ∧ After W0 w') := same53 (ca := c) (cb := d) hx.l32 hy.l32 hn hk (by omega) (hx.after HR.2.2).sl (hy.after HR.2.2).sl
  simp only [brc, Bx.v]
  rw [hn, hk]
  clear hx hy HR hfx hfy
  by_cases hst : s = t
  · subst hst
    have HD : Hid (decide ((s, l) = (s, m)) = decide (l = m)) := by simp [Hid]
    obtain ⟨q, hq⟩ : ∃ q, decide (l = m) = q := ⟨_, rfl⟩
    rw [hq] at HC HD
    go_enter Try.func66, Try.ntmps66
    go_wp2_with (first
      | (rw [hW0])
      | (go_at_call 18; refine Calls.mono HC.out ?_; rintro e w2 ⟨rfl, ha2⟩; have HA2 := show Hid (After w w2) from HA.out.trans ha2; clear ha2))
    go_ret
    exact ⟨by rw [HD.out]; rfl, HA2.out⟩
  · have hne : strOf s ≠ strOf t := strOf_ne hst
    have HD : Hid (decide ((s, l) = (t, m)) = false) := decide_eq_false (fun e => hst (Prod.mk.inj e).1)
    go_enter Try.func66, Try.ntmps66
    go_wp2_with (first
      | (rw [hW0])
      | (refine wpList_of_run rfl (x_eq9 (x := .tmp 6) (y := .tmp 8) (s := s) (t := t) rfl rfl rfl) ?_; rw [decide_eq_false hst]))
    go_ret
    exact ⟨by rw [HD.out]; rfl, HA.out⟩
theorem put48 {w : World} {x : Bx} {W : World} (h : (w.alloc (.cells (brc zbx).toArray 65)).setRow w.heap.size (brc x).toArray = W) : RowIs (w.alloc (.cells (brc zbx).toArray 65)) w.heap.size 65 (brc zbx) ∧ RowIs W w.heap.size 65 (brc x) ∧ After w W := by
  have h1 := RowIs.new w 65 (brc zbx)
  rw [← h]
  exact ⟨h1, h1.setRow _, Below.row (after_alloc (After.refl w) _) (Nat.le_refl _) _⟩
set_option maxRecDepth 100000 in
set_option maxHeartbeats 6400000 in
theorem equalF40 {ao bo : Option Addr} {ca cb : Nat} {la lb : List Bx} {n m : Nat} (hla : la.length = n) (hlb : lb.length = m) (hbig : n ≤ 9223372036854775807) {w : World} (hA : BsAt w ao la) (hB : BsAt w bo lb) :
    Calls Try.prog 65 #[.slice ao n ca, .slice bo m cb, .func (.func 66) #[] #[]] w fun e w' => e = .returned (.bool (decide (bof la = bof lb))) ∧ After w w' := by
  have hpa : (bof la).length = n := by rw [bof_len, hla]
  have hpb : (bof lb).length = m := by rw [bof_len, hlb]
  by_cases hnm : n = m
  · subst hnm
    have HFA : Hid (BsAt w ao la ∧ la.length = n ∧ (bof la).length = n) := ⟨hA, hla, hpa⟩
    have HFB : Hid (BsAt w bo lb ∧ lb.length = n ∧ (bof lb).length = n) := ⟨hB, hlb, hpb⟩
    clear hA hB hla hlb hpa hpb
    go_enter Try.func65, Try.ntmps65
    go_wp2_with fail
    go_loopw [17] (fun iv wr => ∃ i : Nat, i ≤ n ∧ iv = .int .i64 (i : Int) ∧ Hid (SmI w (bof la) (bof lb) i wr)) (fun iv _ => n - (intOf iv).toNat)
    case atStart => exact ⟨0, Nat.zero_le _, rfl, After.refl w, fun j hj => by omega⟩
    case round =>
      obtain ⟨i, hin, rfl, HI⟩ := hrel
      by_cases hlt : i < n
      · have hii : (i : Int) < (n : Int) := by omega
        have HLT : Hid (i < n) := hlt
        obtain ⟨x, hx⟩ : ∃ x, la[i]? = some x := ⟨_, List.getElem?_eq_getElem (by rw [HFA.out.2.1]; exact hlt)⟩
        obtain ⟨y, hy⟩ : ∃ y, lb[i]? = some y := ⟨_, List.getElem?_eq_getElem (by rw [HFB.out.2.1]; exact hlt)⟩
        obtain ⟨xb, xo, hxa, hxr⟩ := HFA.out.1.sl.at (bs_get hx)
        obtain ⟨yb, yo, hya, hyr⟩ := HFB.out.1.sl.at (bs_get hy)
        subst hxa hya
        obtain ⟨W1, hW1⟩ : ∃ W1, (wr.alloc (.cells (brc zbx).toArray 65)).setRow wr.heap.size (brc x).toArray = W1 := ⟨_, rfl⟩
        obtain ⟨W2, hW2⟩ : ∃ W2, (W1.alloc (.cells (brc zbx).toArray 65)).setRow W1.heap.size (brc y).toArray = W2 := ⟨_, rfl⟩
        have HP1 := show Hid _ from put48 hW1
        have HP2 := show Hid _ from put48 hW2
        have HG1 := show Hid _ from hW1
        have HG2 := show Hid _ from hW2
        have HAA : Hid (After w W2 ∧ RowIs W2 wr.heap.size 65 (brc x) ∧ RowIs W2 W1.heap.size 65 (brc y)) := ⟨(HI.out.aft.trans HP1.out.2.2).trans HP2.out.2.2, HP1.out.2.1.below HP2.out.2.2 HP1.out.2.1.lt, HP2.out.2.1⟩
        have HX : Hid (wr.rangeAt xb (xo + i * 2) (brc x)) := range_after hxr HI.out.aft
        have HY : Hid (W1.rangeAt yb (yo + i * 2) (brc y)) := range_after hyr (HI.out.aft.trans HP1.out.2.2)
        have HC : Hid (Calls Try.prog 66 #[.agg (brc x).toArray, .agg (brc y).toArray] W2 fun e w' => e = .returned (.bool (decide ((x.nm, x.l) = (y.nm, y.l)))) ∧ After W2 w') := same41 ((HFA.out.1.each x (List.mem_of_getElem? hx)).after HAA.out.1) ((HFB.out.1.each y (List.mem_of_getElem? hy)).after HAA.out.1)
        have HXY : Hid ((bof la)[i]? = some (x.nm, x.l) ∧ (bof lb)[i]? = some (y.nm, y.l)) := ⟨bof_get hx, bof_get hy⟩
        clear hx hy hxr hyr hW1 hW2
        by_cases hxy : (x.nm, x.l) = (y.nm, y.l)
        · have HD : Hid (decide ((x.nm, x.l) = (y.nm, y.l)) = true) := decide_eq_true hxy
          go_wp2_with (first
            | (refine wpList_of_run rfl (x_idx25 (x := .tmp 15) (y := .tmp 17) (b := xb) (f := xo) (n := n) (c := ca) (i := i) rfl (by kernel_rfl) (by kernel_rfl) HLT.out) ?_)
            | (refine wpList_of_run rfl (x_ld48 (x := .tmp 20) (g := xb) (p := xo + i * 2) (y := x) rfl (by kernel_rfl) HX.out) ?_)
            | (refine wpList_of_run rfl (x_al48 rfl) ?_)
            | (refine wpList_store_row rfl 65 (.tmp 8) (.tmp 21) rfl wr.heap.size (brc x).toArray rfl rfl 65 _ HP1.out.1 (size48 x) rfl (by simpa using brc_one x) ?_; rw [HG1.out])
            | (refine wpList_of_run rfl (x_idx25 (x := .tmp 22) (y := .tmp 23) (b := yb) (f := yo) (n := n) (c := cb) (i := i) rfl (by kernel_rfl) (by kernel_rfl) HLT.out) ?_)
            | (refine wpList_of_run rfl (x_ld48 (x := .tmp 24) (g := yb) (p := yo + i * 2) (y := y) rfl (by kernel_rfl) HY.out) ?_)
            | (refine wpList_store_row rfl 65 (.tmp 9) (.tmp 25) rfl W1.heap.size (brc y).toArray rfl rfl 65 _ HP2.out.1 (size48 y) rfl (by simpa using brc_one y) ?_; rw [HG2.out])
            | (refine wpList_load_row rfl 65 (.tmp 8) rfl wr.heap.size rfl 65 (brc x).toArray (0, 0) _ HAA.out.2.1 Try.underlying65 rfl (size48 x) ?_)
            | (refine wpList_load_row rfl 65 (.tmp 9) rfl W1.heap.size rfl 65 (brc y).toArray (0, 0) _ HAA.out.2.2 Try.underlying65 rfl (size48 y) ?_)
            | (go_at_call 66; refine Calls.mono HC.out ?_; rintro e w3 ⟨rfl, ha3⟩; rw [HD.out]; have H3 := show Hid (After W2 w3) from ha3; clear ha3))
          go_roundw
          case rel => exact ⟨i + 1, by omega, by go_num, HAA.out.1.trans H3.out, fun j hj => by
            by_cases e : j = i
            · subst e; rw [HXY.out.1, HXY.out.2, hxy]
            · exact HI.out.pre j (by omega)⟩
          case measure => simp [intOf]; omega
        · have HD : Hid (decide ((x.nm, x.l) = (y.nm, y.l)) = false) := decide_eq_false hxy
          go_wp2_with (first
            | (refine wpList_of_run rfl (x_idx25 (x := .tmp 15) (y := .tmp 17) (b := xb) (f := xo) (n := n) (c := ca) (i := i) rfl (by kernel_rfl) (by kernel_rfl) HLT.out) ?_)
            | (refine wpList_of_run rfl (x_ld48 (x := .tmp 20) (g := xb) (p := xo + i * 2) (y := x) rfl (by kernel_rfl) HX.out) ?_)
            | (refine wpList_of_run rfl (x_al48 rfl) ?_)
            | (refine wpList_store_row rfl 65 (.tmp 8) (.tmp 21) rfl wr.heap.size (brc x).toArray rfl rfl 65 _ HP1.out.1 (size48 x) rfl (by simpa using brc_one x) ?_; rw [HG1.out])
            | (refine wpList_of_run rfl (x_idx25 (x := .tmp 22) (y := .tmp 23) (b := yb) (f := yo) (n := n) (c := cb) (i := i) rfl (by kernel_rfl) (by kernel_rfl) HLT.out) ?_)
            | (refine wpList_of_run rfl (x_ld48 (x := .tmp 24) (g := yb) (p := yo + i * 2) (y := y) rfl (by kernel_rfl) HY.out) ?_)
            | (refine wpList_store_row rfl 65 (.tmp 9) (.tmp 25) rfl W1.heap.size (brc y).toArray rfl rfl 65 _ HP2.out.1 (size48 y) rfl (by simpa using brc_one y) ?_; rw [HG2.out])
            | (refine wpList_load_row rfl 65 (.tmp 8) rfl wr.heap.size rfl 65 (brc x).toArray (0, 0) _ HAA.out.2.1 Try.underlying65 rfl (size48 x) ?_)
            | (refine wpList_load_row rfl 65 (.tmp 9) rfl W1.heap.size rfl 65 (brc y).toArray (0, 0) _ HAA.out.2.2 Try.underlying65 rfl (size48 y) ?_)
            | (go_at_call 66; refine Calls.mono HC.out ?_; rintro e w3 ⟨rfl, ha3⟩; rw [HD.out]; have H3 := show Hid (After W2 w3) from ha3; clear ha3))
          go_ret
          refine ⟨?_, HAA.out.1.trans H3.out⟩
          have : ¬ bof la = bof lb := fun e => by have h1 := HXY.out; rw [e] at h1; exact hxy (Option.some.inj (h1.1.symm.trans h1.2))
          simp [this]
      · have hii : ¬ (i : Int) < (n : Int) := by omega
        go_wp2
        go_ret
        refine ⟨?_, HI.out.aft⟩
        have : bof la = bof lb := eq_of_pre HFA.out.2.2 HFB.out.2.2 (fun j hj => HI.out.pre j (by omega))
        simp [this]
  · have hnmi : ¬ (n : Int) = (m : Int) := by omega
    have : ¬ bof la = bof lb := fun e => hnm (by rw [← hpa, ← hpb, e])
    go_enter Try.func65, Try.ntmps65
    go_wp2
    go_ret
    exact ⟨by simp [this], After.refl w⟩
set_option maxRecDepth 100000 in
set_option maxHeartbeats 6400000 in
theorem same24 {ao bo : Option Addr} {ca cb : Nat} {la lb : List Bx} {n m : Nat} (hla : la.length = n) (hlb : lb.length = m) (hbig : n ≤ 9223372036854775807) {w : World} (hA : BsAt w ao la) (hB : BsAt w bo lb) :
    Calls Try.prog 35 #[.slice ao n ca, .slice bo m cb] w fun e w' => e = .returned (.bool (decide (bof la = bof lb))) ∧ After w w' := by
  have HC := show Hid _ from equalF40 (ca := ca) (cb := cb) hla hlb hbig hA hB
  clear hA hB hla hlb
  go_enter Try.func35, Try.ntmps35
  go_wp2_with (go_at_call 65; refine Calls.mono HC.out ?_; rintro e w2 ⟨rfl, ha2⟩; have HA2 := show Hid (After w w2) from ha2; clear ha2)
  go_ret
  exact ⟨rfl, HA2.out⟩
end Go.Proofs.Ytcmcapcagblafaa
