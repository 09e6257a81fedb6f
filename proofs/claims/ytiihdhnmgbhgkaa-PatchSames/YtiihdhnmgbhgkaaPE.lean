/-
  The reference's Same (12): whether two lists of patches are one.
-/
import Derived.Test.YtiihdhnmgbhgkaaPD
namespace Go.Proofs.Ytiihdhnmgbhgkaa
open Go.RowKit
attribute [local go_sem] Oper.semAt_some
section
variable {ops : Array Oper} {Q : Exit → Act → World → Prop} {T : World → Prop} {fuel : Nat} {listed : Array Bool} {a : Act} {w : World} {oi : Oper}
/-- Number i, which alone may come up, stores a whole row. -/
theorem tkStore (i : Nat) (g : Nat) (ty : TypeId) (x y : Operand) (cells old : Array Value) (t : TypeId) (hi : ops[i]? = some oi) (hd : oi.dst = none) (ho : oi.op = .store ty x y) (hr : Region.ready .any ops listed = [i])
    (hw : Region.wanted oi (yielded ops a.tmps) = true) (hx : a.eval x = .pointer (some ⟨g, 0, none⟩)) (hy : a.eval y = .agg cells) (hg : w.heap[g]? = some (.cells old t (0, 0))) (hz : (Try.prog.info? ty).map (·.size) = some cells.size)
    (hold : old.size = cells.size) (h1 : cells.all (·.oneCell') = true) (hS : T (w.setRow g cells))
    (h : wpAnyH Try.prog .any ops Q T fuel (listed.setIfInBounds i true) (a.put none undef) (w.setRow g cells)) : wpAnyH Try.prog .any ops Q T (fuel + 1) listed a w :=
  wpAnyH_all hr (by simp) (fun j hj => by
    obtain rfl : j = i := by simpa using hj
    refine wpOp_step hi (fun K' hK => ?_)
    rw [if_pos hw]
    refine wp_store_row ty x y ho g cells hx hy t old hg hz hold h1 ?_
    rw [hd]
    exact hK _ _ ⟨hS, h⟩)
end
section
variable {ops : Array Oper} {Q : Exit → Act → World → Prop} {S : World → Prop} {fuel : Nat} {listed : Array Bool} {a : Act} {w : World} {oi oj : Oper}
theorem put_comm (a : Act) {d e : Nat} (h : d ≠ e) (u v : Value) : (a.put (some d) u).put (some e) v = (a.put (some e) v).put (some d) u := by
  unfold Act.put
  simp only
  congr 1
  exact Array.setIfInBounds_comm _ _ h
/-- Two are ready: two blocks for patches. -/
theorem tkAA46 (i j d e : Nat) (hij : i ≠ j) (hde : d ≠ e) (hi : ops[i]? = some oi) (hj : ops[j]? = some oj) (hd : oi.dst = some d) (he : oj.dst = some e) (hoi : oi.op = .alloc 46) (hoj : oj.op = .alloc 46)
    (hr : Region.ready .any ops listed = [i, j]) (hri : Region.ready .any ops (listed.setIfInBounds i true) = [j]) (hrj : Region.ready .any ops (listed.setIfInBounds j true) = [i])
    (hwi : ∀ b : Act, Region.wanted oi (yielded ops b.tmps) = true) (hwj : ∀ b : Act, Region.wanted oj (yielded ops b.tmps) = true)
    (hS : S w) (hSA : ∀ W, S W → S (W.alloc (.cells (pxc zpx).toArray 46)))
    (h : ∀ gi gj W, gi ≠ gj → w.heap.size ≤ gi → w.heap.size ≤ gj → RowIs W gi 46 (pxc zpx) → RowIs W gj 46 (pxc zpx) → After w W → S W → wpAnyH Try.prog .any ops Q S fuel ((listed.setIfInBounds i true).setIfInBounds j true) ((a.put (some d) (.pointer (some ⟨gi, 0, none⟩))).put (some e) (.pointer (some ⟨gj, 0, none⟩))) W) :
    wpAnyH Try.prog .any ops Q S (fuel + 1 + 1) listed a w := by
  obtain ⟨W1, hW1⟩ : ∃ W1, w.alloc (.cells (pxc zpx).toArray 46) = W1 := ⟨_, rfl⟩
  obtain ⟨W2, hW2⟩ : ∃ W2, W1.alloc (.cells (pxc zpx).toArray 46) = W2 := ⟨_, rfl⟩
  have a1 : After w W1 := by rw [← hW1]; exact after_alloc (After.refl w) _
  have a2 : After W1 W2 := by rw [← hW2]; exact after_alloc (After.refl W1) _
  have n1 : RowIs W1 w.heap.size 46 (pxc zpx) := by rw [← hW1]; exact RowIs.new w 46 _
  have n2 : RowIs W2 W1.heap.size 46 (pxc zpx) := by rw [← hW2]; exact RowIs.new W1 46 _
  have n1' : RowIs W2 w.heap.size 46 (pxc zpx) := n1.below a2 n1.lt
  have hne : w.heap.size ≠ W1.heap.size := by have := n1.lt; omega
  have s1 : S W1 := by rw [← hW1]; exact hSA _ hS
  have s2 : S W2 := by rw [← hW2]; exact hSA _ s1
  refine wpAnyH_all hr (by simp) (fun ii hii => ?_)
  have h2 : ii = i ∨ ii = j := by simpa using hii
  rcases h2 with rfl | rfl
  · refine opVal ii d (.pointer (some ⟨w.heap.size, 0, none⟩)) W1 hi hd (hwi a) (by rw [← hW1]; exact x_al46 hoi) ⟨s1, ?_⟩
    refine tkRunS j e (.pointer (some ⟨W1.heap.size, 0, none⟩)) W2 hj he hri (hwj _) (by rw [← hW2]; exact x_al46 hoj) s2 ?_
    exact h _ _ W2 hne (Nat.le_refl _) a1.size n1' n2 (a1.trans a2) s2
  · refine opVal ii e (.pointer (some ⟨w.heap.size, 0, none⟩)) W1 hj he (hwj a) (by rw [← hW1]; exact x_al46 hoj) ⟨s1, ?_⟩
    refine tkRunS i d (.pointer (some ⟨W1.heap.size, 0, none⟩)) W2 hi hd hrj (hwi _) (by rw [← hW2]; exact x_al46 hoi) s2 ?_
    rw [put_comm a hde.symm, Array.setIfInBounds_comm _ _ hij.symm]
    exact h _ _ W2 hne.symm a1.size (Nat.le_refl _) n2 n1' (a1.trans a2) s2
end
section
variable {ops : Array Oper} {rest : List Oper} {Q : Exit → Act → World → Prop} {a : Act} {w : World} {o : Oper} {x y : Operand} {c : Bool}
theorem n_ne3 {p q : Int} (hop : o.op = .binOp .neq 3 x y 3) (hc : (!decide (p = q)) = c) (hw : Region.wanted o (yielded ops a.tmps) = true) (hx : a.eval x = .int .i64 p) (hy : a.eval y = .int .i64 q) (h : wpList Try.prog ops Q rest (a.put o.dst (.bool c)) w) : wpList Try.prog ops Q (o :: rest) a w :=
  wpListG_of_run hw ((x_ne3d hop hx hy).trans (by rw [hc])) h
theorem n_ne4 {p q : Bool} (hop : o.op = .binOp .neq 4 x y 4) (hc : (!decide (p = q)) = c) (hw : Region.wanted o (yielded ops a.tmps) = true) (hx : a.eval x = .bool p) (hy : a.eval y = .bool q) (h : wpList Try.prog ops Q rest (a.put o.dst (.bool c)) w) : wpList Try.prog ops Q (o :: rest) a w :=
  wpListG_of_run hw ((x_ne4d hop hx hy).trans (by rw [hc])) h
theorem n_ne9 {s t : Nm} (hop : o.op = .binOp .neq 9 x y 9) (hc : (!decide (s = t)) = c) (hw : Region.wanted o (yielded ops a.tmps) = true) (hx : a.eval x = .string (strOf s)) (hy : a.eval y = .string (strOf t)) (h : wpList Try.prog ops Q rest (a.put o.dst (.bool c)) w) : wpList Try.prog ops Q (o :: rest) a w :=
  wpListG_of_run hw ((x_ne9 hop hx hy).trans (by rw [hc])) h
end
set_option maxRecDepth 100000 in
set_option maxHeartbeats 12800000 in
theorem rsame12 {ao bo : Option Addr} {ca cb : Nat} {la lb : List Px} {n m : Nat} (hla : la.length = n) (hlb : lb.length = m) (hbig : n ≤ 9223372036854775807) {w : World} (hA : PsAt w ao la) (hB : PsAt w bo lb) :
    Calls Try.prog 12 #[.slice ao n ca, .slice bo m cb] w fun e w' => e = .returned (.bool (decide (pts la = pts lb))) ∧ After w w' := by
  have hpa : (pts la).length = n := by unfold pts; rw [List.length_map, hla]
  have hpb : (pts lb).length = m := by unfold pts; rw [List.length_map, hlb]
  by_cases hnm : n = m
  · subst hnm
    have HFA : Hid (PsAt w ao la ∧ la.length = n ∧ (pts la).length = n) := ⟨hA, hla, hpa⟩
    have HFB : Hid (PsAt w bo lb ∧ lb.length = n ∧ (pts lb).length = n) := ⟨hB, hlb, hpb⟩
    clear hA hB hla hlb hpa hpb
    go_enter Try.func12, Try.ntmps12
    go_wp2_with fail
    go_loopw [5] (fun iv wr => ∃ i : Nat, i ≤ n ∧ iv = .int .i64 (i : Int) ∧ Hid (SmI w (pts la) (pts lb) i wr)) (fun iv _ => n - (intOf iv).toNat)
    case atStart => exact ⟨0, Nat.zero_le _, rfl, After.refl w, fun j hj => by omega⟩
    case round =>
      obtain ⟨i, hin, rfl, HI⟩ := hrel
      by_cases hlt : i < n
      · have hii : (i : Int) < (n : Int) := by omega
        have HLT : Hid (i < n) := hlt
        obtain ⟨x, hx⟩ : ∃ x, la[i]? = some x := ⟨_, List.getElem?_eq_getElem (by rw [HFA.out.2.1]; exact hlt)⟩
        obtain ⟨y, hy⟩ : ∃ y, lb[i]? = some y := ⟨_, List.getElem?_eq_getElem (by rw [HFB.out.2.1]; exact hlt)⟩
        obtain ⟨xb, xo, hxa, hxr⟩ := HFA.out.1.1.at (ps_get hx)
        obtain ⟨yb, yo, hya, hyr⟩ := HFB.out.1.1.at (ps_get hy)
        subst hxa hya
        have HRX : Hid (wr.rangeAt xb (xo + i * 9) (pxc x)) := range_after hxr HI.out.aft
        have HRY : Hid (wr.rangeAt yb (yo + i * 9) (pxc y)) := range_after hyr HI.out.aft
        have HXY : Hid ((pts la)[i]? = some x.p ∧ (pts lb)[i]? = some y.p) := ⟨pts_get hx, pts_get hy⟩
        have HPX : Hid (PxAt wr x ∧ PxAt wr y) := ⟨(HFA.out.1.2 x (List.mem_of_getElem? hx)).after HI.out.aft, (HFB.out.1.2 y (List.mem_of_getElem? hy)).after HI.out.aft⟩
        clear hx hy hxr hyr
        go_wp2_with fail
        refine wp_region_noPanic ?_
        refine wp_region_held_drew (S := After wr) (by kernel_rfl) (After.drew (After.refl wr)) ?_
        intro hS0
        refine tk 0 19 (.slice (some ⟨xb, xo, none⟩) n ca) (fuel := 11) rfl (by kernel_rfl) (by kernel_rfl) (by kernel_rfl) (by kernel_rfl) noPanic_false (by kernel_rfl) (fun _ _ => by kernel_rfl) hS0 ?_
        refine tk 1 20 (.int .i64 (i : Int)) (fuel := 10) rfl (by kernel_rfl) (by kernel_rfl) (by kernel_rfl) (by kernel_rfl) noPanic_false (by kernel_rfl) (fun _ _ => by kernel_rfl) hS0 ?_
        refine tk 2 21 (.pointer (some ⟨xb, xo + i * 9, none⟩)) (fuel := 9) rfl (by kernel_rfl) (by kernel_rfl) (by kernel_rfl) (by kernel_rfl) noPanic_false (by kernel_rfl) (fun W _ => x_idx27 (n := n) (c := ca) (x := .tmp 19) (y := .tmp 20) (by kernel_rfl) (by kernel_rfl) (by kernel_rfl) HLT.out) hS0 ?_
        refine tk 3 22 (.agg (pxc x).toArray) (fuel := 8) rfl (by kernel_rfl) (by kernel_rfl) (by kernel_rfl) (by kernel_rfl) noPanic_false (by kernel_rfl) (fun W hW => x_ld46 (x := .tmp 21) (g := xb) (p := xo + i * 9) (y := x) (by kernel_rfl) (by kernel_rfl) (range_after HRX.out hW)) hS0 ?_
        refine tk 4 23 (.slice (some ⟨yb, yo, none⟩) n cb) (fuel := 7) rfl (by kernel_rfl) (by kernel_rfl) (by kernel_rfl) (by kernel_rfl) noPanic_false (by kernel_rfl) (fun _ _ => by kernel_rfl) hS0 ?_
        refine tk 5 24 (.int .i64 (i : Int)) (fuel := 6) rfl (by kernel_rfl) (by kernel_rfl) (by kernel_rfl) (by kernel_rfl) noPanic_false (by kernel_rfl) (fun _ _ => by kernel_rfl) hS0 ?_
        refine tk 6 25 (.pointer (some ⟨yb, yo + i * 9, none⟩)) (fuel := 5) rfl (by kernel_rfl) (by kernel_rfl) (by kernel_rfl) (by kernel_rfl) noPanic_false (by kernel_rfl) (fun W _ => x_idx27 (n := n) (c := cb) (x := .tmp 23) (y := .tmp 24) (by kernel_rfl) (by kernel_rfl) (by kernel_rfl) HLT.out) hS0 ?_
        refine tk 7 26 (.agg (pxc y).toArray) (fuel := 4) rfl (by kernel_rfl) (by kernel_rfl) (by kernel_rfl) (by kernel_rfl) noPanic_false (by kernel_rfl) (fun W hW => x_ld46 (x := .tmp 25) (g := yb) (p := yo + i * 9) (y := y) (by kernel_rfl) (by kernel_rfl) (range_after HRY.out hW)) hS0 ?_
        refine tkAA46 8 9 6 7 (by decide) (by decide) (fuel := 2) rfl rfl rfl rfl rfl rfl (by kernel_rfl) (by kernel_rfl) (by kernel_rfl) (fun _ => rfl) (fun _ => rfl) hS0 (fun W hW => after_alloc hW _) ?_
        intro g1 g2 WZ hne hle1 hle2 m1 m2 hA2 hS2
        have s1 : RowIs (WZ.setRow g1 (pxc x).toArray) g1 46 (pxc x) := m1.setRow _
        have s2 : RowIs (WZ.setRow g1 (pxc x).toArray) g2 46 (pxc zpx) := m2.setRow_other _ hne.symm
        have s3 : RowIs ((WZ.setRow g1 (pxc x).toArray).setRow g2 (pxc y).toArray) g2 46 (pxc y) := s2.setRow _
        have s4 : RowIs ((WZ.setRow g1 (pxc x).toArray).setRow g2 (pxc y).toArray) g1 46 (pxc x) := s1.setRow_other _ hne
        have a1 : After wr (WZ.setRow g1 (pxc x).toArray) := Below.row hS2 hle1 _
        have a2 : After wr ((WZ.setRow g1 (pxc x).toArray).setRow g2 (pxc y).toArray) := Below.row a1 hle2 _
        refine tkStore 10 g1 46 (.tmp 6) (.tmp 22) (pxc x).toArray (pxc zpx).toArray 46 (fuel := 1) rfl (by kernel_rfl) (by kernel_rfl) (by kernel_rfl) (by kernel_rfl) (by kernel_rfl) (by kernel_rfl) m1 (size46 x) rfl (by simpa using pxc_one x) a1 ?_
        refine tkStore 11 g2 46 (.tmp 7) (.tmp 26) (pxc y).toArray (pxc zpx).toArray 46 (fuel := 0) rfl (by kernel_rfl) (by kernel_rfl) (by kernel_rfl) (by kernel_rfl) (by kernel_rfl) (by kernel_rfl) s2 (size46 y) rfl (by simpa using pxc_one y) a2 ?_
        refine wpAnyH_done (by kernel_rfl) (NoPanic.normal ?_) _
        obtain ⟨W2, hW2⟩ : ∃ W2, (WZ.setRow g1 (pxc x).toArray).setRow g2 (pxc y).toArray = W2 := ⟨_, rfl⟩
        rw [hW2] at s3 s4 a2
        rw [hW2]
        have hF : RowIs W2 g1 46 (pxc x) ∧ RowIs W2 g2 46 (pxc y) ∧ After wr W2 := ⟨s4, s3, a2⟩
        clear s1 s2 s3 s4 a1 a2 m1 m2 hA2 hS2 hW2 hne hle1 hle2 hS0
        have HB : Hid (RowIs W2 g1 46 (pxc x) ∧ RowIs W2 g2 46 (pxc y)) := ⟨hF.1, hF.2.1⟩
        have HA : Hid (After w W2) := HI.out.aft.trans hF.2.2
        have HX : Hid (PxAt W2 x) := HPX.out.1.after hF.2.2
        have HY : Hid (PxAt W2 y) := HPX.out.2.after hF.2.2
        have c0 := HB.out.1.cell (j := 0) rfl
        have b0 := HB.out.2.cell (j := 0) rfl
        have c1 := HB.out.1.cell (j := 1) rfl
        have b1 := HB.out.2.cell (j := 1) rfl
        have c2 := HB.out.1.cell (j := 2) rfl
        have b2 := HB.out.2.cell (j := 2) rfl
        have c3 := HB.out.1.cell (j := 3) rfl
        have b3 := HB.out.2.cell (j := 3) rfl
        have c4 := HB.out.1.cell (j := 4) rfl
        have b4 := HB.out.2.cell (j := 4) rfl
        have c5 := HB.out.1.cell (j := 5) rfl
        have b5 := HB.out.2.cell (j := 5) rfl
        have c6 := HB.out.1.cell (j := 6) rfl
        have b6 := HB.out.2.cell (j := 6) rfl
        have c7 := HB.out.1.cell (j := 7) rfl
        have b7 := HB.out.2.cell (j := 7) rfl
        have c8 := HB.out.1.cell (j := 8) rfl
        have b8 := HB.out.2.cell (j := 8) rfl
        clear hF
        go_simp
        by_cases q0 : x.p.kind = y.p.kind
        · have E0 : Hid ((!decide (x.p.kind = y.p.kind)) = false) := by show _ = _; simp [q0]
          by_cases q1 : x.p.name = y.p.name
          · have E1 : Hid ((!decide (x.p.name = y.p.name)) = false) := by show _ = _; simp [q1]
            by_cases q2 : x.p.vals = y.p.vals
            · have E2 : Hid (decide (x.p.vals = y.p.vals) = true) := decide_eq_true q2
              by_cases q3 : x.p.by_ = y.p.by_
              · have E3 : Hid ((!decide (x.p.by_ = y.p.by_)) = false) := by show _ = _; simp [q3]
                by_cases q4 : x.p.gone = y.p.gone
                · have E4 : Hid ((!decide (x.p.gone = y.p.gone)) = false) := by show _ = _; simp [q4]
                  by_cases q5 : x.p.at_ = y.p.at_
                  · have E5 : Hid ((!decide (x.p.at_ = y.p.at_)) = false) := by show _ = _; simp [q5]
                    by_cases q6 : x.p.cut = y.p.cut
                    · have E6 : Hid ((!decide (x.p.cut = y.p.cut)) = false) := by show _ = _; simp [q6]
                      by_cases q7 : x.p.put = y.p.put
                      · have E7 : Hid ((!decide (x.p.put = y.p.put)) = false) := by show _ = _; simp [q7]
                        by_cases q8 : x.p.frm = y.p.frm
                        · have E8 : Hid (decide (x.p.frm = y.p.frm) = true) := decide_eq_true q8
                          have HQ : Hid (x.p = y.p) := Pt.ext_iff'.2 ⟨q0, q1, q2, q3, q4, q5, q6, q7, q8⟩
                          clear q0 q1 q2 q3 q4 q5 q6 q7 q8
                          go_wp2_with (first
                            | (refine n_ne3 (x := .tmp 28) (y := .tmp 30) rfl E0.out (by kernel_rfl) (by kernel_rfl) (by kernel_rfl) ?_)
                            | (refine n_ne9 (x := .tmp 34) (y := .tmp 36) rfl E1.out (by kernel_rfl) (by kernel_rfl) (by kernel_rfl) ?_)
                            | (go_at_call 19; refine Calls.mono (texts19 rfl rfl (by have := HX.out.vl; omega) HX.out.vals HY.out.vals) ?_; rintro e w5 ⟨rfl, ha5⟩; rw [E2.out]; have H5 := show Hid (After W2 w5 ∧ PxAt w5 x ∧ PxAt w5 y ∧ RowIs w5 g1 46 (pxc x) ∧ RowIs w5 g2 46 (pxc y)) from ⟨ha5, HX.out.after ha5, HY.out.after ha5, HB.out.1.below ha5 HB.out.1.lt, HB.out.2.below ha5 HB.out.2.lt⟩; clear ha5; have d3 := H5.out.2.2.2.1.cell (j := 3) rfl; have e3 := H5.out.2.2.2.2.cell (j := 3) rfl; have d4 := H5.out.2.2.2.1.cell (j := 4) rfl; have e4 := H5.out.2.2.2.2.cell (j := 4) rfl; have d5 := H5.out.2.2.2.1.cell (j := 5) rfl; have e5 := H5.out.2.2.2.2.cell (j := 5) rfl; have d6 := H5.out.2.2.2.1.cell (j := 6) rfl; have e6 := H5.out.2.2.2.2.cell (j := 6) rfl; have d7 := H5.out.2.2.2.1.cell (j := 7) rfl; have e7 := H5.out.2.2.2.2.cell (j := 7) rfl; have d8 := H5.out.2.2.2.1.cell (j := 8) rfl; have e8 := H5.out.2.2.2.2.cell (j := 8) rfl)
                            | (refine n_ne3 (x := .tmp 49) (y := .tmp 51) rfl E3.out (by kernel_rfl) (by kernel_rfl) (by kernel_rfl) ?_)
                            | (refine n_ne4 (x := .tmp 56) (y := .tmp 58) rfl E4.out (by kernel_rfl) (by kernel_rfl) (by kernel_rfl) ?_)
                            | (refine n_ne3 (x := .tmp 63) (y := .tmp 65) rfl E5.out (by kernel_rfl) (by kernel_rfl) (by kernel_rfl) ?_)
                            | (refine n_ne3 (x := .tmp 70) (y := .tmp 72) rfl E6.out (by kernel_rfl) (by kernel_rfl) (by kernel_rfl) ?_)
                            | (refine n_ne9 (x := .tmp 77) (y := .tmp 79) rfl E7.out (by kernel_rfl) (by kernel_rfl) (by kernel_rfl) ?_)
                            | (go_at_call 31; refine Calls.mono (rsame31 H5.out.2.1.h32 H5.out.2.2.1.h32 rfl rfl (by have := H5.out.2.1.fl; omega) H5.out.2.1.frm H5.out.2.2.1.frm) ?_; rintro e w6 ⟨rfl, ha6⟩; rw [E8.out]; have H6 := show Hid (After W2 w6) from H5.out.1.trans ha6; clear ha6))
                          go_roundw
                          case rel => exact ⟨i + 1, by omega, by go_num, HA.out.trans H6.out, fun j hj => by
                            by_cases e : j = i
                            · subst e; rw [HXY.out.1, HXY.out.2, HQ.out]
                            · exact HI.out.pre j (by omega)⟩
                          case measure => simp [intOf]; omega
                        · have E8 : Hid (decide (x.p.frm = y.p.frm) = false) := decide_eq_false q8
                          have HQ : Hid (¬ x.p = y.p) := fun e => q8 (by rw [e])
                          clear q0 q1 q2 q3 q4 q5 q6 q7 q8
                          go_wp2_with (first
                            | (refine n_ne3 (x := .tmp 28) (y := .tmp 30) rfl E0.out (by kernel_rfl) (by kernel_rfl) (by kernel_rfl) ?_)
                            | (refine n_ne9 (x := .tmp 34) (y := .tmp 36) rfl E1.out (by kernel_rfl) (by kernel_rfl) (by kernel_rfl) ?_)
                            | (go_at_call 19; refine Calls.mono (texts19 rfl rfl (by have := HX.out.vl; omega) HX.out.vals HY.out.vals) ?_; rintro e w5 ⟨rfl, ha5⟩; rw [E2.out]; have H5 := show Hid (After W2 w5 ∧ PxAt w5 x ∧ PxAt w5 y ∧ RowIs w5 g1 46 (pxc x) ∧ RowIs w5 g2 46 (pxc y)) from ⟨ha5, HX.out.after ha5, HY.out.after ha5, HB.out.1.below ha5 HB.out.1.lt, HB.out.2.below ha5 HB.out.2.lt⟩; clear ha5; have d3 := H5.out.2.2.2.1.cell (j := 3) rfl; have e3 := H5.out.2.2.2.2.cell (j := 3) rfl; have d4 := H5.out.2.2.2.1.cell (j := 4) rfl; have e4 := H5.out.2.2.2.2.cell (j := 4) rfl; have d5 := H5.out.2.2.2.1.cell (j := 5) rfl; have e5 := H5.out.2.2.2.2.cell (j := 5) rfl; have d6 := H5.out.2.2.2.1.cell (j := 6) rfl; have e6 := H5.out.2.2.2.2.cell (j := 6) rfl; have d7 := H5.out.2.2.2.1.cell (j := 7) rfl; have e7 := H5.out.2.2.2.2.cell (j := 7) rfl; have d8 := H5.out.2.2.2.1.cell (j := 8) rfl; have e8 := H5.out.2.2.2.2.cell (j := 8) rfl)
                            | (refine n_ne3 (x := .tmp 49) (y := .tmp 51) rfl E3.out (by kernel_rfl) (by kernel_rfl) (by kernel_rfl) ?_)
                            | (refine n_ne4 (x := .tmp 56) (y := .tmp 58) rfl E4.out (by kernel_rfl) (by kernel_rfl) (by kernel_rfl) ?_)
                            | (refine n_ne3 (x := .tmp 63) (y := .tmp 65) rfl E5.out (by kernel_rfl) (by kernel_rfl) (by kernel_rfl) ?_)
                            | (refine n_ne3 (x := .tmp 70) (y := .tmp 72) rfl E6.out (by kernel_rfl) (by kernel_rfl) (by kernel_rfl) ?_)
                            | (refine n_ne9 (x := .tmp 77) (y := .tmp 79) rfl E7.out (by kernel_rfl) (by kernel_rfl) (by kernel_rfl) ?_)
                            | (go_at_call 31; refine Calls.mono (rsame31 H5.out.2.1.h32 H5.out.2.2.1.h32 rfl rfl (by have := H5.out.2.1.fl; omega) H5.out.2.1.frm H5.out.2.2.1.frm) ?_; rintro e w6 ⟨rfl, ha6⟩; rw [E8.out]; have H6 := show Hid (After W2 w6) from H5.out.1.trans ha6; clear ha6))
                          go_ret
                          refine ⟨?_, HA.out.trans H6.out⟩
                          have : ¬ pts la = pts lb := fun e => by have h1 := HXY.out; rw [e] at h1; exact HQ.out (Option.some.inj (h1.1.symm.trans h1.2))
                          simp [this]
                      · have E7 : Hid ((!decide (x.p.put = y.p.put)) = true) := by show _ = _; simp [q7]
                        have HQ : Hid (¬ x.p = y.p) := fun e => q7 (by rw [e])
                        clear q0 q1 q2 q3 q4 q5 q6 q7
                        go_wp2_with (first
                          | (refine n_ne3 (x := .tmp 28) (y := .tmp 30) rfl E0.out (by kernel_rfl) (by kernel_rfl) (by kernel_rfl) ?_)
                          | (refine n_ne9 (x := .tmp 34) (y := .tmp 36) rfl E1.out (by kernel_rfl) (by kernel_rfl) (by kernel_rfl) ?_)
                          | (go_at_call 19; refine Calls.mono (texts19 rfl rfl (by have := HX.out.vl; omega) HX.out.vals HY.out.vals) ?_; rintro e w5 ⟨rfl, ha5⟩; rw [E2.out]; have H5 := show Hid (After W2 w5 ∧ PxAt w5 x ∧ PxAt w5 y ∧ RowIs w5 g1 46 (pxc x) ∧ RowIs w5 g2 46 (pxc y)) from ⟨ha5, HX.out.after ha5, HY.out.after ha5, HB.out.1.below ha5 HB.out.1.lt, HB.out.2.below ha5 HB.out.2.lt⟩; clear ha5; have d3 := H5.out.2.2.2.1.cell (j := 3) rfl; have e3 := H5.out.2.2.2.2.cell (j := 3) rfl; have d4 := H5.out.2.2.2.1.cell (j := 4) rfl; have e4 := H5.out.2.2.2.2.cell (j := 4) rfl; have d5 := H5.out.2.2.2.1.cell (j := 5) rfl; have e5 := H5.out.2.2.2.2.cell (j := 5) rfl; have d6 := H5.out.2.2.2.1.cell (j := 6) rfl; have e6 := H5.out.2.2.2.2.cell (j := 6) rfl; have d7 := H5.out.2.2.2.1.cell (j := 7) rfl; have e7 := H5.out.2.2.2.2.cell (j := 7) rfl; have d8 := H5.out.2.2.2.1.cell (j := 8) rfl; have e8 := H5.out.2.2.2.2.cell (j := 8) rfl)
                          | (refine n_ne3 (x := .tmp 49) (y := .tmp 51) rfl E3.out (by kernel_rfl) (by kernel_rfl) (by kernel_rfl) ?_)
                          | (refine n_ne4 (x := .tmp 56) (y := .tmp 58) rfl E4.out (by kernel_rfl) (by kernel_rfl) (by kernel_rfl) ?_)
                          | (refine n_ne3 (x := .tmp 63) (y := .tmp 65) rfl E5.out (by kernel_rfl) (by kernel_rfl) (by kernel_rfl) ?_)
                          | (refine n_ne3 (x := .tmp 70) (y := .tmp 72) rfl E6.out (by kernel_rfl) (by kernel_rfl) (by kernel_rfl) ?_)
                          | (refine n_ne9 (x := .tmp 77) (y := .tmp 79) rfl E7.out (by kernel_rfl) (by kernel_rfl) (by kernel_rfl) ?_; apply of_stop))
                        unfold Stp
                        go_wp2_with fail
                        go_ret
                        refine ⟨?_, HA.out.trans H5.out.1⟩
                        have : ¬ pts la = pts lb := fun e => by have h1 := HXY.out; rw [e] at h1; exact HQ.out (Option.some.inj (h1.1.symm.trans h1.2))
                        simp [this]
                    · have E6 : Hid ((!decide (x.p.cut = y.p.cut)) = true) := by show _ = _; simp [q6]
                      have HQ : Hid (¬ x.p = y.p) := fun e => q6 (by rw [e])
                      clear q0 q1 q2 q3 q4 q5 q6
                      go_wp2_with (first
                        | (refine n_ne3 (x := .tmp 28) (y := .tmp 30) rfl E0.out (by kernel_rfl) (by kernel_rfl) (by kernel_rfl) ?_)
                        | (refine n_ne9 (x := .tmp 34) (y := .tmp 36) rfl E1.out (by kernel_rfl) (by kernel_rfl) (by kernel_rfl) ?_)
                        | (go_at_call 19; refine Calls.mono (texts19 rfl rfl (by have := HX.out.vl; omega) HX.out.vals HY.out.vals) ?_; rintro e w5 ⟨rfl, ha5⟩; rw [E2.out]; have H5 := show Hid (After W2 w5 ∧ PxAt w5 x ∧ PxAt w5 y ∧ RowIs w5 g1 46 (pxc x) ∧ RowIs w5 g2 46 (pxc y)) from ⟨ha5, HX.out.after ha5, HY.out.after ha5, HB.out.1.below ha5 HB.out.1.lt, HB.out.2.below ha5 HB.out.2.lt⟩; clear ha5; have d3 := H5.out.2.2.2.1.cell (j := 3) rfl; have e3 := H5.out.2.2.2.2.cell (j := 3) rfl; have d4 := H5.out.2.2.2.1.cell (j := 4) rfl; have e4 := H5.out.2.2.2.2.cell (j := 4) rfl; have d5 := H5.out.2.2.2.1.cell (j := 5) rfl; have e5 := H5.out.2.2.2.2.cell (j := 5) rfl; have d6 := H5.out.2.2.2.1.cell (j := 6) rfl; have e6 := H5.out.2.2.2.2.cell (j := 6) rfl; have d7 := H5.out.2.2.2.1.cell (j := 7) rfl; have e7 := H5.out.2.2.2.2.cell (j := 7) rfl; have d8 := H5.out.2.2.2.1.cell (j := 8) rfl; have e8 := H5.out.2.2.2.2.cell (j := 8) rfl)
                        | (refine n_ne3 (x := .tmp 49) (y := .tmp 51) rfl E3.out (by kernel_rfl) (by kernel_rfl) (by kernel_rfl) ?_)
                        | (refine n_ne4 (x := .tmp 56) (y := .tmp 58) rfl E4.out (by kernel_rfl) (by kernel_rfl) (by kernel_rfl) ?_)
                        | (refine n_ne3 (x := .tmp 63) (y := .tmp 65) rfl E5.out (by kernel_rfl) (by kernel_rfl) (by kernel_rfl) ?_)
                        | (refine n_ne3 (x := .tmp 70) (y := .tmp 72) rfl E6.out (by kernel_rfl) (by kernel_rfl) (by kernel_rfl) ?_; apply of_stop))
                      unfold Stp
                      go_wp2_with fail
                      go_ret
                      refine ⟨?_, HA.out.trans H5.out.1⟩
                      have : ¬ pts la = pts lb := fun e => by have h1 := HXY.out; rw [e] at h1; exact HQ.out (Option.some.inj (h1.1.symm.trans h1.2))
                      simp [this]
                  · have E5 : Hid ((!decide (x.p.at_ = y.p.at_)) = true) := by show _ = _; simp [q5]
                    have HQ : Hid (¬ x.p = y.p) := fun e => q5 (by rw [e])
                    clear q0 q1 q2 q3 q4 q5
                    go_wp2_with (first
                      | (refine n_ne3 (x := .tmp 28) (y := .tmp 30) rfl E0.out (by kernel_rfl) (by kernel_rfl) (by kernel_rfl) ?_)
                      | (refine n_ne9 (x := .tmp 34) (y := .tmp 36) rfl E1.out (by kernel_rfl) (by kernel_rfl) (by kernel_rfl) ?_)
                      | (go_at_call 19; refine Calls.mono (texts19 rfl rfl (by have := HX.out.vl; omega) HX.out.vals HY.out.vals) ?_; rintro e w5 ⟨rfl, ha5⟩; rw [E2.out]; have H5 := show Hid (After W2 w5 ∧ PxAt w5 x ∧ PxAt w5 y ∧ RowIs w5 g1 46 (pxc x) ∧ RowIs w5 g2 46 (pxc y)) from ⟨ha5, HX.out.after ha5, HY.out.after ha5, HB.out.1.below ha5 HB.out.1.lt, HB.out.2.below ha5 HB.out.2.lt⟩; clear ha5; have d3 := H5.out.2.2.2.1.cell (j := 3) rfl; have e3 := H5.out.2.2.2.2.cell (j := 3) rfl; have d4 := H5.out.2.2.2.1.cell (j := 4) rfl; have e4 := H5.out.2.2.2.2.cell (j := 4) rfl; have d5 := H5.out.2.2.2.1.cell (j := 5) rfl; have e5 := H5.out.2.2.2.2.cell (j := 5) rfl; have d6 := H5.out.2.2.2.1.cell (j := 6) rfl; have e6 := H5.out.2.2.2.2.cell (j := 6) rfl; have d7 := H5.out.2.2.2.1.cell (j := 7) rfl; have e7 := H5.out.2.2.2.2.cell (j := 7) rfl; have d8 := H5.out.2.2.2.1.cell (j := 8) rfl; have e8 := H5.out.2.2.2.2.cell (j := 8) rfl)
                      | (refine n_ne3 (x := .tmp 49) (y := .tmp 51) rfl E3.out (by kernel_rfl) (by kernel_rfl) (by kernel_rfl) ?_)
                      | (refine n_ne4 (x := .tmp 56) (y := .tmp 58) rfl E4.out (by kernel_rfl) (by kernel_rfl) (by kernel_rfl) ?_)
                      | (refine n_ne3 (x := .tmp 63) (y := .tmp 65) rfl E5.out (by kernel_rfl) (by kernel_rfl) (by kernel_rfl) ?_; apply of_stop))
                    unfold Stp
                    go_wp2_with fail
                    go_ret
                    refine ⟨?_, HA.out.trans H5.out.1⟩
                    have : ¬ pts la = pts lb := fun e => by have h1 := HXY.out; rw [e] at h1; exact HQ.out (Option.some.inj (h1.1.symm.trans h1.2))
                    simp [this]
                · have E4 : Hid ((!decide (x.p.gone = y.p.gone)) = true) := by show _ = _; simp [q4]
                  have HQ : Hid (¬ x.p = y.p) := fun e => q4 (by rw [e])
                  clear q0 q1 q2 q3 q4
                  go_wp2_with (first
                    | (refine n_ne3 (x := .tmp 28) (y := .tmp 30) rfl E0.out (by kernel_rfl) (by kernel_rfl) (by kernel_rfl) ?_)
                    | (refine n_ne9 (x := .tmp 34) (y := .tmp 36) rfl E1.out (by kernel_rfl) (by kernel_rfl) (by kernel_rfl) ?_)
                    | (go_at_call 19; refine Calls.mono (texts19 rfl rfl (by have := HX.out.vl; omega) HX.out.vals HY.out.vals) ?_; rintro e w5 ⟨rfl, ha5⟩; rw [E2.out]; have H5 := show Hid (After W2 w5 ∧ PxAt w5 x ∧ PxAt w5 y ∧ RowIs w5 g1 46 (pxc x) ∧ RowIs w5 g2 46 (pxc y)) from ⟨ha5, HX.out.after ha5, HY.out.after ha5, HB.out.1.below ha5 HB.out.1.lt, HB.out.2.below ha5 HB.out.2.lt⟩; clear ha5; have d3 := H5.out.2.2.2.1.cell (j := 3) rfl; have e3 := H5.out.2.2.2.2.cell (j := 3) rfl; have d4 := H5.out.2.2.2.1.cell (j := 4) rfl; have e4 := H5.out.2.2.2.2.cell (j := 4) rfl; have d5 := H5.out.2.2.2.1.cell (j := 5) rfl; have e5 := H5.out.2.2.2.2.cell (j := 5) rfl; have d6 := H5.out.2.2.2.1.cell (j := 6) rfl; have e6 := H5.out.2.2.2.2.cell (j := 6) rfl; have d7 := H5.out.2.2.2.1.cell (j := 7) rfl; have e7 := H5.out.2.2.2.2.cell (j := 7) rfl; have d8 := H5.out.2.2.2.1.cell (j := 8) rfl; have e8 := H5.out.2.2.2.2.cell (j := 8) rfl)
                    | (refine n_ne3 (x := .tmp 49) (y := .tmp 51) rfl E3.out (by kernel_rfl) (by kernel_rfl) (by kernel_rfl) ?_)
                    | (refine n_ne4 (x := .tmp 56) (y := .tmp 58) rfl E4.out (by kernel_rfl) (by kernel_rfl) (by kernel_rfl) ?_; apply of_stop))
                  unfold Stp
                  go_wp2_with fail
                  go_ret
                  refine ⟨?_, HA.out.trans H5.out.1⟩
                  have : ¬ pts la = pts lb := fun e => by have h1 := HXY.out; rw [e] at h1; exact HQ.out (Option.some.inj (h1.1.symm.trans h1.2))
                  simp [this]
              · have E3 : Hid ((!decide (x.p.by_ = y.p.by_)) = true) := by show _ = _; simp [q3]
                have HQ : Hid (¬ x.p = y.p) := fun e => q3 (by rw [e])
                clear q0 q1 q2 q3
                go_wp2_with (first
                  | (refine n_ne3 (x := .tmp 28) (y := .tmp 30) rfl E0.out (by kernel_rfl) (by kernel_rfl) (by kernel_rfl) ?_)
                  | (refine n_ne9 (x := .tmp 34) (y := .tmp 36) rfl E1.out (by kernel_rfl) (by kernel_rfl) (by kernel_rfl) ?_)
                  | (go_at_call 19; refine Calls.mono (texts19 rfl rfl (by have := HX.out.vl; omega) HX.out.vals HY.out.vals) ?_; rintro e w5 ⟨rfl, ha5⟩; rw [E2.out]; have H5 := show Hid (After W2 w5 ∧ PxAt w5 x ∧ PxAt w5 y ∧ RowIs w5 g1 46 (pxc x) ∧ RowIs w5 g2 46 (pxc y)) from ⟨ha5, HX.out.after ha5, HY.out.after ha5, HB.out.1.below ha5 HB.out.1.lt, HB.out.2.below ha5 HB.out.2.lt⟩; clear ha5; have d3 := H5.out.2.2.2.1.cell (j := 3) rfl; have e3 := H5.out.2.2.2.2.cell (j := 3) rfl; have d4 := H5.out.2.2.2.1.cell (j := 4) rfl; have e4 := H5.out.2.2.2.2.cell (j := 4) rfl; have d5 := H5.out.2.2.2.1.cell (j := 5) rfl; have e5 := H5.out.2.2.2.2.cell (j := 5) rfl; have d6 := H5.out.2.2.2.1.cell (j := 6) rfl; have e6 := H5.out.2.2.2.2.cell (j := 6) rfl; have d7 := H5.out.2.2.2.1.cell (j := 7) rfl; have e7 := H5.out.2.2.2.2.cell (j := 7) rfl; have d8 := H5.out.2.2.2.1.cell (j := 8) rfl; have e8 := H5.out.2.2.2.2.cell (j := 8) rfl)
                  | (refine n_ne3 (x := .tmp 49) (y := .tmp 51) rfl E3.out (by kernel_rfl) (by kernel_rfl) (by kernel_rfl) ?_; apply of_stop))
                unfold Stp
                go_wp2_with fail
                go_ret
                refine ⟨?_, HA.out.trans H5.out.1⟩
                have : ¬ pts la = pts lb := fun e => by have h1 := HXY.out; rw [e] at h1; exact HQ.out (Option.some.inj (h1.1.symm.trans h1.2))
                simp [this]
            · have E2 : Hid (decide (x.p.vals = y.p.vals) = false) := decide_eq_false q2
              have HQ : Hid (¬ x.p = y.p) := fun e => q2 (by rw [e])
              clear q0 q1 q2
              go_wp2_with (first
                | (refine n_ne3 (x := .tmp 28) (y := .tmp 30) rfl E0.out (by kernel_rfl) (by kernel_rfl) (by kernel_rfl) ?_)
                | (refine n_ne9 (x := .tmp 34) (y := .tmp 36) rfl E1.out (by kernel_rfl) (by kernel_rfl) (by kernel_rfl) ?_)
                | (go_at_call 19; refine Calls.mono (texts19 rfl rfl (by have := HX.out.vl; omega) HX.out.vals HY.out.vals) ?_; rintro e w5 ⟨rfl, ha5⟩; rw [E2.out]; have H5 := show Hid (After W2 w5 ∧ PxAt w5 x ∧ PxAt w5 y ∧ RowIs w5 g1 46 (pxc x) ∧ RowIs w5 g2 46 (pxc y)) from ⟨ha5, HX.out.after ha5, HY.out.after ha5, HB.out.1.below ha5 HB.out.1.lt, HB.out.2.below ha5 HB.out.2.lt⟩; clear ha5; have d3 := H5.out.2.2.2.1.cell (j := 3) rfl; have e3 := H5.out.2.2.2.2.cell (j := 3) rfl; have d4 := H5.out.2.2.2.1.cell (j := 4) rfl; have e4 := H5.out.2.2.2.2.cell (j := 4) rfl; have d5 := H5.out.2.2.2.1.cell (j := 5) rfl; have e5 := H5.out.2.2.2.2.cell (j := 5) rfl; have d6 := H5.out.2.2.2.1.cell (j := 6) rfl; have e6 := H5.out.2.2.2.2.cell (j := 6) rfl; have d7 := H5.out.2.2.2.1.cell (j := 7) rfl; have e7 := H5.out.2.2.2.2.cell (j := 7) rfl; have d8 := H5.out.2.2.2.1.cell (j := 8) rfl; have e8 := H5.out.2.2.2.2.cell (j := 8) rfl; apply of_stop))
              unfold Stp
              go_wp2_with fail
              go_ret
              refine ⟨?_, HA.out.trans H5.out.1⟩
              have : ¬ pts la = pts lb := fun e => by have h1 := HXY.out; rw [e] at h1; exact HQ.out (Option.some.inj (h1.1.symm.trans h1.2))
              simp [this]
          · have E1 : Hid ((!decide (x.p.name = y.p.name)) = true) := by show _ = _; simp [q1]
            have HQ : Hid (¬ x.p = y.p) := fun e => q1 (by rw [e])
            clear q0 q1
            go_wp2_with (first
              | (refine n_ne3 (x := .tmp 28) (y := .tmp 30) rfl E0.out (by kernel_rfl) (by kernel_rfl) (by kernel_rfl) ?_)
              | (refine n_ne9 (x := .tmp 34) (y := .tmp 36) rfl E1.out (by kernel_rfl) (by kernel_rfl) (by kernel_rfl) ?_; apply of_stop))
            unfold Stp
            go_wp2_with fail
            go_ret
            refine ⟨?_, HA.out⟩
            have : ¬ pts la = pts lb := fun e => by have h1 := HXY.out; rw [e] at h1; exact HQ.out (Option.some.inj (h1.1.symm.trans h1.2))
            simp [this]
        · have E0 : Hid ((!decide (x.p.kind = y.p.kind)) = true) := by show _ = _; simp [q0]
          have HQ : Hid (¬ x.p = y.p) := fun e => q0 (by rw [e])
          clear q0
          go_wp2_with (first
            | (refine n_ne3 (x := .tmp 28) (y := .tmp 30) rfl E0.out (by kernel_rfl) (by kernel_rfl) (by kernel_rfl) ?_; apply of_stop))
          unfold Stp
          go_wp2_with fail
          go_ret
          refine ⟨?_, HA.out⟩
          have : ¬ pts la = pts lb := fun e => by have h1 := HXY.out; rw [e] at h1; exact HQ.out (Option.some.inj (h1.1.symm.trans h1.2))
          simp [this]
      · have hii : ¬ (i : Int) < (n : Int) := by omega
        go_wp2
        go_ret
        refine ⟨?_, HI.out.aft⟩
        have : pts la = pts lb := eq_of_pre HFA.out.2.2 HFB.out.2.2 (fun j hj => HI.out.pre j (by omega))
        simp [this]
  · have hnmi : ¬ (n : Int) = (m : Int) := by omega
    have : ¬ pts la = pts lb := fun e => hnm (by rw [← hpa, ← hpb, e])
    go_enter Try.func12, Try.ntmps12
    go_wp2
    go_ret
    exact ⟨by simp [this], After.refl w⟩
end Go.Proofs.Ytiihdhnmgbhgkaa
