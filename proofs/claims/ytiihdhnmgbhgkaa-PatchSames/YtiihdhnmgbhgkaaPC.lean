/-
  PATCHES in memory; whether two are one: same (33).
-/
import Derived.Test.YtiihdhnmgbhgkaaPB
namespace Go.Proofs.Ytiihdhnmgbhgkaa
open Go.RowKit
attribute [local go_sem] Oper.semAt_some
structure Pt where
  kind : Int
  name : Nm
  vals : List Nm
  by_ : Int
  gone : Bool
  at_ : Int
  cut : Int
  put : Nm
  frm : List H
  deriving DecidableEq
/-- A patch, and where its lists lie. -/
structure Px where
  p : Pt
  va : Option Addr
  vc : Nat
  fa : Option Addr
  fc : Nat
def pxc (x : Px) : List Value := [.int .i64 x.p.kind, .string (strOf x.p.name), .slice x.va x.p.vals.length x.vc, .int .i64 x.p.by_, .bool x.p.gone, .int .i64 x.p.at_, .int .i64 x.p.cut, .string (strOf x.p.put), .slice x.fa x.p.frm.length x.fc]
theorem pxc_len (x : Px) : (pxc x).length = 9 := rfl
theorem pxc_one (x : Px) : ∀ u ∈ pxc x, u.oneCell' = true := fun u hu => by
  unfold pxc at hu
  simp only [List.mem_cons, List.not_mem_nil, or_false] at hu
  rcases hu with rfl | rfl | rfl | rfl | rfl | rfl | rfl | rfl | rfl <;> rfl
structure PxAt (W : World) (x : Px) : Prop where
  vals : SlAt W 1 x.va (stL x.p.vals)
  frm : SlAt W 32 x.fa (hsL x.p.frm)
  h32 : All32 x.p.frm
  vl : x.p.vals.length * 16 ≤ 140737488355328
  fl : x.p.frm.length * 32 ≤ 140737488355328
theorem PxAt.after {W W' : World} {x : Px} (h : PxAt W x) (ha : After W W') : PxAt W' x := ⟨h.vals.after ha, h.frm.after ha, h.h32, h.vl, h.fl⟩
def PsAt (W : World) (a : Option Addr) (xs : List Px) : Prop := SlAt W 9 a (xs.map pxc) ∧ ∀ x ∈ xs, PxAt W x
theorem PsAt.after {W W' : World} {a : Option Addr} {xs : List Px} (h : PsAt W a xs) (ha : After W W') : PsAt W' a xs := ⟨h.1.after ha, fun x hx => (h.2 x hx).after ha⟩
theorem size46 (x : Px) : (Try.prog.info? 46).map (·.size) = some (pxc x).toArray.size := by show _ = some 9; kernel_rfl
def zpx : Px := ⟨⟨0, [], [], 0, false, 0, 0, [], []⟩, none, 0, none, 0⟩
section
variable {oi : Oper} {a : Act} {w : World}
theorem x_ld46 {x : Operand} {g p : Nat} {y : Px} (hop : oi.op = .load 46 x) (hx : a.eval x = .pointer (some ⟨g, p, none⟩)) (hc : w.rangeAt g p (pxc y)) : (execOp a.eval oi).run Try.prog w = .ok (.value (.agg (pxc y).toArray)) w := by
  have hi : (Try.prog.info? 46).map (·.size) = some (pxc y).length := size46 y
  unfold execOp
  simp only [hop, hx, Instr.loadAt, Instr.sureAddr, Sem.run_bind, Sem.run_pure, Result.andThen_ok, run_loadVar_mid w g p 46 (pxc y) _ hc Try.underlying46 rfl hi]
theorem x_al46 (hop : oi.op = .alloc 46) : (execOp a.eval oi).run Try.prog w = .ok (.value (.pointer (some ⟨w.heap.size, 0, none⟩))) (w.alloc (.cells (pxc zpx).toArray 46)) := by
  have hz : (zeroValue 46).run Try.prog w = .ok (.agg (pxc zpx).toArray) w := by kernel_rfl
  unfold execOp
  simp only [hop]
  simp [go_sem, hz, Value.cells]
theorem x_eq3d {x y : Operand} {p q : Int} (hop : oi.op = .binOp .eql 3 x y 3) (hx : a.eval x = .int .i64 p) (hy : a.eval y = .int .i64 q) : (execOp a.eval oi).run Try.prog w = .ok (.value (.bool (decide (p = q)))) w := by
  unfold execOp; simp only [hop, hx, hy]
  by_cases h : p = q <;> simp [go_sem, h]
theorem x_ne3d {x y : Operand} {p q : Int} (hop : oi.op = .binOp .neq 3 x y 3) (hx : a.eval x = .int .i64 p) (hy : a.eval y = .int .i64 q) : (execOp a.eval oi).run Try.prog w = .ok (.value (.bool (!decide (p = q)))) w := by
  unfold execOp; simp only [hop, hx, hy]
  by_cases h : p = q <;> simp [go_sem, h]
theorem x_eq4d {x y : Operand} {p q : Bool} (hop : oi.op = .binOp .eql 4 x y 4) (hx : a.eval x = .bool p) (hy : a.eval y = .bool q) : (execOp a.eval oi).run Try.prog w = .ok (.value (.bool (decide (p = q)))) w := by
  unfold execOp; simp only [hop, hx, hy]
  cases p <;> cases q <;> simp [go_sem]
theorem x_ne4d {x y : Operand} {p q : Bool} (hop : oi.op = .binOp .neq 4 x y 4) (hx : a.eval x = .bool p) (hy : a.eval y = .bool q) : (execOp a.eval oi).run Try.prog w = .ok (.value (.bool (!decide (p = q)))) w := by
  unfold execOp; simp only [hop, hx, hy]
  cases p <;> cases q <;> simp [go_sem]
end
section
variable {ops : Array Oper} {rest : List Oper} {Q : Exit → Act → World → Prop} {a : Act} {w : World} {o : Oper} {x y : Operand} {c : Bool}
theorem g_eq3 {p q : Int} (hop : o.op = .binOp .eql 3 x y 3) (hc : decide (p = q) = c) (hw : Region.wanted o (yielded ops a.tmps) = true) (hx : a.eval x = .int .i64 p) (hy : a.eval y = .int .i64 q) (h : wpList Try.prog ops Q rest (a.put o.dst (.bool c)) w) : wpList Try.prog ops Q (o :: rest) a w :=
  wpListG_of_run hw ((x_eq3d hop hx hy).trans (by rw [hc])) h
theorem g_ne3 {p q : Int} (hop : o.op = .binOp .neq 3 x y 3) (hc : decide (p = q) = c) (hw : Region.wanted o (yielded ops a.tmps) = true) (hx : a.eval x = .int .i64 p) (hy : a.eval y = .int .i64 q) (h : wpList Try.prog ops Q rest (a.put o.dst (.bool (!c))) w) : wpList Try.prog ops Q (o :: rest) a w :=
  wpListG_of_run hw ((x_ne3d hop hx hy).trans (by rw [hc])) h
theorem g_eq4 {p q : Bool} (hop : o.op = .binOp .eql 4 x y 4) (hc : decide (p = q) = c) (hw : Region.wanted o (yielded ops a.tmps) = true) (hx : a.eval x = .bool p) (hy : a.eval y = .bool q) (h : wpList Try.prog ops Q rest (a.put o.dst (.bool c)) w) : wpList Try.prog ops Q (o :: rest) a w :=
  wpListG_of_run hw ((x_eq4d hop hx hy).trans (by rw [hc])) h
theorem g_ne4 {p q : Bool} (hop : o.op = .binOp .neq 4 x y 4) (hc : decide (p = q) = c) (hw : Region.wanted o (yielded ops a.tmps) = true) (hx : a.eval x = .bool p) (hy : a.eval y = .bool q) (h : wpList Try.prog ops Q rest (a.put o.dst (.bool (!c))) w) : wpList Try.prog ops Q (o :: rest) a w :=
  wpListG_of_run hw ((x_ne4d hop hx hy).trans (by rw [hc])) h
theorem g_eq9 {s t : Nm} (hop : o.op = .binOp .eql 9 x y 9) (hc : decide (s = t) = c) (hw : Region.wanted o (yielded ops a.tmps) = true) (hx : a.eval x = .string (strOf s)) (hy : a.eval y = .string (strOf t)) (h : wpList Try.prog ops Q rest (a.put o.dst (.bool c)) w) : wpList Try.prog ops Q (o :: rest) a w :=
  wpListG_of_run hw ((x_eq9 hop hx hy).trans (by rw [hc])) h
theorem g_ne9 {s t : Nm} (hop : o.op = .binOp .neq 9 x y 9) (hc : decide (s = t) = c) (hw : Region.wanted o (yielded ops a.tmps) = true) (hx : a.eval x = .string (strOf s)) (hy : a.eval y = .string (strOf t)) (h : wpList Try.prog ops Q rest (a.put o.dst (.bool (!c))) w) : wpList Try.prog ops Q (o :: rest) a w :=
  wpListG_of_run hw ((x_ne9 hop hx hy).trans (by rw [hc])) h
end
def Stp (p : Prop) : Prop := p
theorem of_stop {p : Prop} (h : Stp p) : p := h
theorem Pt.ext_iff' {p q : Pt} : p = q ↔ p.kind = q.kind ∧ p.name = q.name ∧ p.vals = q.vals ∧ p.by_ = q.by_ ∧ p.gone = q.gone ∧ p.at_ = q.at_ ∧ p.cut = q.cut ∧ p.put = q.put ∧ p.frm = q.frm := by
  cases p; cases q; simp
set_option maxRecDepth 100000 in
set_option maxHeartbeats 6400000 in
theorem same33 {x y : Px} {w : World} (hx : PxAt w x) (hy : PxAt w y) :
    Calls Try.prog 33 #[.agg (pxc x).toArray, .agg (pxc y).toArray] w fun e w' => e = .returned (.bool (decide (x.p = y.p))) ∧ After w w' := by
  obtain ⟨g1, hg1⟩ : ∃ g1, w.heap.size = g1 := ⟨_, rfl⟩
  obtain ⟨W1, hW1⟩ : ∃ W1, w.alloc (.cells (pxc x).toArray 46) = W1 := ⟨_, rfl⟩
  obtain ⟨W2, hW2⟩ : ∃ W2, W1.alloc (.cells (pxc y).toArray 46) = W2 := ⟨_, rfl⟩
  obtain ⟨g2, hg2⟩ : ∃ g2, W1.heap.size = g2 := ⟨_, rfl⟩
  have h1 : After w W1 := by rw [← hW1]; exact after_alloc (After.refl w) _
  have h2 : After W1 W2 := by rw [← hW2]; exact after_alloc (After.refl W1) _
  have hb1 : RowIs W1 g1 46 (pxc x) := by rw [← hW1, ← hg1]; exact RowIs.new w 46 _
  have HB : Hid (RowIs W2 g1 46 (pxc x) ∧ RowIs W2 g2 46 (pxc y)) := ⟨hb1.below h2 hb1.lt, by rw [← hW2, ← hg2]; exact RowIs.new W1 46 _⟩
  have HA : Hid (After w W2) := h1.trans h2
  have HX : Hid (PxAt W2 x) := hx.after HA.out
  have HY : Hid (PxAt W2 y) := hy.after HA.out
  have c0 := HB.out.1.cell (j := 0) rfl
  have b0 := HB.out.2.cell (j := 0) rfl
  have c1 := HB.out.1.cell (j := 1) rfl
  have b1 := HB.out.2.cell (j := 1) rfl
  have c2 := HB.out.1.cell (j := 2) rfl
  have b2 := HB.out.2.cell (j := 2) rfl
  have c3 := HB.out.1.cell (j := 3) rfl
  have b3 := HB.out.2.cell (j := 3) rfl
  have c4 := HB.out.1.cell (j := 4) rfl
  have b4 := HB.out.2.cell (j := 4) rfl
  have c5 := HB.out.1.cell (j := 5) rfl
  have b5 := HB.out.2.cell (j := 5) rfl
  have c6 := HB.out.1.cell (j := 6) rfl
  have b6 := HB.out.2.cell (j := 6) rfl
  have c7 := HB.out.1.cell (j := 7) rfl
  have b7 := HB.out.2.cell (j := 7) rfl
  have c8 := HB.out.1.cell (j := 8) rfl
  have b8 := HB.out.2.cell (j := 8) rfl
  clear hx hy h1 h2 hb1

  by_cases q0 : x.p.kind = y.p.kind
  · have E0 : Hid (decide (x.p.kind = y.p.kind) = true) := decide_eq_true q0
    by_cases q1 : x.p.name = y.p.name
    · have E1 : Hid (decide (x.p.name = y.p.name) = true) := decide_eq_true q1
      by_cases q2 : x.p.gone = y.p.gone
      · have E2 : Hid (decide (x.p.gone = y.p.gone) = true) := decide_eq_true q2
        by_cases q3 : x.p.by_ = y.p.by_
        · have E3 : Hid (decide (x.p.by_ = y.p.by_) = true) := decide_eq_true q3
          by_cases q4 : x.p.at_ = y.p.at_
          · have E4 : Hid (decide (x.p.at_ = y.p.at_) = true) := decide_eq_true q4
            by_cases q5 : x.p.cut = y.p.cut
            · have E5 : Hid (decide (x.p.cut = y.p.cut) = true) := decide_eq_true q5
              by_cases q6 : x.p.put = y.p.put
              · have E6 : Hid (decide (x.p.put = y.p.put) = true) := decide_eq_true q6
                by_cases q7 : x.p.vals = y.p.vals
                · have E7 : Hid (decide (x.p.vals = y.p.vals) = true) := decide_eq_true q7
                  by_cases q8 : x.p.frm = y.p.frm
                  · have E8 : Hid (decide (x.p.frm = y.p.frm) = true) := decide_eq_true q8
                    have HQ : Hid (decide (x.p = y.p) = true) := decide_eq_true (Pt.ext_iff'.2 ⟨q0, q1, q7, q3, q2, q4, q5, q6, q8⟩)
                    clear q0 q1 q2 q3 q4 q5 q6 q7 q8
                    go_enter Try.func33, Try.ntmps33
                    go_wp2_with (first
                      | (rw [hW1])
                      | (rw [hW2])
                      | (refine g_eq3 (x := .tmp 6) (y := .tmp 8) rfl E0.out (by kernel_rfl) (by kernel_rfl) (by kernel_rfl) ?_)
                      | (refine g_eq9 (x := .tmp 12) (y := .tmp 14) rfl E1.out (by kernel_rfl) (by kernel_rfl) (by kernel_rfl) ?_)
                      | (refine g_eq4 (x := .tmp 19) (y := .tmp 21) rfl E2.out (by kernel_rfl) (by kernel_rfl) (by kernel_rfl) ?_)
                      | (refine g_eq3 (x := .tmp 26) (y := .tmp 28) rfl E3.out (by kernel_rfl) (by kernel_rfl) (by kernel_rfl) ?_)
                      | (refine g_eq3 (x := .tmp 33) (y := .tmp 35) rfl E4.out (by kernel_rfl) (by kernel_rfl) (by kernel_rfl) ?_)
                      | (refine g_eq3 (x := .tmp 40) (y := .tmp 42) rfl E5.out (by kernel_rfl) (by kernel_rfl) (by kernel_rfl) ?_)
                      | (refine g_eq9 (x := .tmp 47) (y := .tmp 49) rfl E6.out (by kernel_rfl) (by kernel_rfl) (by kernel_rfl) ?_)
                      | (go_at_call 52; refine Calls.mono (equal52 rfl rfl (by have := HX.out.vl; omega) HX.out.vals HY.out.vals) ?_; rintro e w5 ⟨rfl, ha5⟩; rw [E7.out]; have H5 := show Hid (After W2 w5 ∧ PxAt w5 x ∧ PxAt w5 y ∧ RowIs w5 g1 46 (pxc x) ∧ RowIs w5 g2 46 (pxc y)) from ⟨ha5, HX.out.after ha5, HY.out.after ha5, HB.out.1.below ha5 HB.out.1.lt, HB.out.2.below ha5 HB.out.2.lt⟩; clear ha5; have d8 := H5.out.2.2.2.1.cell (j := 8) rfl; have e8 := H5.out.2.2.2.2.cell (j := 8) rfl)
                      | (go_at_call 53; refine Calls.mono (same53 H5.out.2.1.h32 H5.out.2.2.1.h32 rfl rfl (by have := H5.out.2.1.fl; omega) H5.out.2.1.frm H5.out.2.2.1.frm) ?_; rintro e w6 ⟨rfl, ha6⟩; rw [E8.out]; have H6 := show Hid (After W2 w6) from H5.out.1.trans ha6; clear ha6))
                    go_ret
                    refine ⟨?_, HA.out.trans H6.out⟩
                    rw [HQ.out]
                    try rfl
                  · have E8 : Hid (decide (x.p.frm = y.p.frm) = false) := decide_eq_false q8
                    have HQ : Hid (decide (x.p = y.p) = false) := decide_eq_false (fun e => q8 (by rw [e]))
                    clear q0 q1 q2 q3 q4 q5 q6 q7 q8
                    go_enter Try.func33, Try.ntmps33
                    go_wp2_with (first
                      | (rw [hW1])
                      | (rw [hW2])
                      | (refine g_eq3 (x := .tmp 6) (y := .tmp 8) rfl E0.out (by kernel_rfl) (by kernel_rfl) (by kernel_rfl) ?_)
                      | (refine g_eq9 (x := .tmp 12) (y := .tmp 14) rfl E1.out (by kernel_rfl) (by kernel_rfl) (by kernel_rfl) ?_)
                      | (refine g_eq4 (x := .tmp 19) (y := .tmp 21) rfl E2.out (by kernel_rfl) (by kernel_rfl) (by kernel_rfl) ?_)
                      | (refine g_eq3 (x := .tmp 26) (y := .tmp 28) rfl E3.out (by kernel_rfl) (by kernel_rfl) (by kernel_rfl) ?_)
                      | (refine g_eq3 (x := .tmp 33) (y := .tmp 35) rfl E4.out (by kernel_rfl) (by kernel_rfl) (by kernel_rfl) ?_)
                      | (refine g_eq3 (x := .tmp 40) (y := .tmp 42) rfl E5.out (by kernel_rfl) (by kernel_rfl) (by kernel_rfl) ?_)
                      | (refine g_eq9 (x := .tmp 47) (y := .tmp 49) rfl E6.out (by kernel_rfl) (by kernel_rfl) (by kernel_rfl) ?_)
                      | (go_at_call 52; refine Calls.mono (equal52 rfl rfl (by have := HX.out.vl; omega) HX.out.vals HY.out.vals) ?_; rintro e w5 ⟨rfl, ha5⟩; rw [E7.out]; have H5 := show Hid (After W2 w5 ∧ PxAt w5 x ∧ PxAt w5 y ∧ RowIs w5 g1 46 (pxc x) ∧ RowIs w5 g2 46 (pxc y)) from ⟨ha5, HX.out.after ha5, HY.out.after ha5, HB.out.1.below ha5 HB.out.1.lt, HB.out.2.below ha5 HB.out.2.lt⟩; clear ha5; have d8 := H5.out.2.2.2.1.cell (j := 8) rfl; have e8 := H5.out.2.2.2.2.cell (j := 8) rfl)
                      | (go_at_call 53; refine Calls.mono (same53 H5.out.2.1.h32 H5.out.2.2.1.h32 rfl rfl (by have := H5.out.2.1.fl; omega) H5.out.2.1.frm H5.out.2.2.1.frm) ?_; rintro e w6 ⟨rfl, ha6⟩; rw [E8.out]; have H6 := show Hid (After W2 w6) from H5.out.1.trans ha6; clear ha6))
                    go_ret
                    refine ⟨?_, HA.out.trans H6.out⟩
                    rw [HQ.out]
                    try rfl
                · have E7 : Hid (decide (x.p.vals = y.p.vals) = false) := decide_eq_false q7
                  have HQ : Hid (decide (x.p = y.p) = false) := decide_eq_false (fun e => q7 (by rw [e]))
                  clear q0 q1 q2 q3 q4 q5 q6 q7
                  go_enter Try.func33, Try.ntmps33
                  go_wp2_with (first
                    | (rw [hW1])
                    | (rw [hW2])
                    | (refine g_eq3 (x := .tmp 6) (y := .tmp 8) rfl E0.out (by kernel_rfl) (by kernel_rfl) (by kernel_rfl) ?_)
                    | (refine g_eq9 (x := .tmp 12) (y := .tmp 14) rfl E1.out (by kernel_rfl) (by kernel_rfl) (by kernel_rfl) ?_)
                    | (refine g_eq4 (x := .tmp 19) (y := .tmp 21) rfl E2.out (by kernel_rfl) (by kernel_rfl) (by kernel_rfl) ?_)
                    | (refine g_eq3 (x := .tmp 26) (y := .tmp 28) rfl E3.out (by kernel_rfl) (by kernel_rfl) (by kernel_rfl) ?_)
                    | (refine g_eq3 (x := .tmp 33) (y := .tmp 35) rfl E4.out (by kernel_rfl) (by kernel_rfl) (by kernel_rfl) ?_)
                    | (refine g_eq3 (x := .tmp 40) (y := .tmp 42) rfl E5.out (by kernel_rfl) (by kernel_rfl) (by kernel_rfl) ?_)
                    | (refine g_eq9 (x := .tmp 47) (y := .tmp 49) rfl E6.out (by kernel_rfl) (by kernel_rfl) (by kernel_rfl) ?_)
                    | (go_at_call 52; refine Calls.mono (equal52 rfl rfl (by have := HX.out.vl; omega) HX.out.vals HY.out.vals) ?_; rintro e w5 ⟨rfl, ha5⟩; rw [E7.out]; have H5 := show Hid (After W2 w5 ∧ PxAt w5 x ∧ PxAt w5 y ∧ RowIs w5 g1 46 (pxc x) ∧ RowIs w5 g2 46 (pxc y)) from ⟨ha5, HX.out.after ha5, HY.out.after ha5, HB.out.1.below ha5 HB.out.1.lt, HB.out.2.below ha5 HB.out.2.lt⟩; clear ha5; have d8 := H5.out.2.2.2.1.cell (j := 8) rfl; have e8 := H5.out.2.2.2.2.cell (j := 8) rfl; apply of_stop))
                  unfold Stp
                  go_wp2_with fail
                  go_ret
                  refine ⟨?_, HA.out.trans H5.out.1⟩
                  rw [HQ.out]
                  try rfl
              · have E6 : Hid (decide (x.p.put = y.p.put) = false) := decide_eq_false q6
                have HQ : Hid (decide (x.p = y.p) = false) := decide_eq_false (fun e => q6 (by rw [e]))
                clear q0 q1 q2 q3 q4 q5 q6
                go_enter Try.func33, Try.ntmps33
                go_wp2_with (first
                  | (rw [hW1])
                  | (rw [hW2])
                  | (refine g_eq3 (x := .tmp 6) (y := .tmp 8) rfl E0.out (by kernel_rfl) (by kernel_rfl) (by kernel_rfl) ?_)
                  | (refine g_eq9 (x := .tmp 12) (y := .tmp 14) rfl E1.out (by kernel_rfl) (by kernel_rfl) (by kernel_rfl) ?_)
                  | (refine g_eq4 (x := .tmp 19) (y := .tmp 21) rfl E2.out (by kernel_rfl) (by kernel_rfl) (by kernel_rfl) ?_)
                  | (refine g_eq3 (x := .tmp 26) (y := .tmp 28) rfl E3.out (by kernel_rfl) (by kernel_rfl) (by kernel_rfl) ?_)
                  | (refine g_eq3 (x := .tmp 33) (y := .tmp 35) rfl E4.out (by kernel_rfl) (by kernel_rfl) (by kernel_rfl) ?_)
                  | (refine g_eq3 (x := .tmp 40) (y := .tmp 42) rfl E5.out (by kernel_rfl) (by kernel_rfl) (by kernel_rfl) ?_)
                  | (refine g_eq9 (x := .tmp 47) (y := .tmp 49) rfl E6.out (by kernel_rfl) (by kernel_rfl) (by kernel_rfl) ?_; apply of_stop))
                unfold Stp
                go_wp2_with fail
                go_ret
                refine ⟨?_, HA.out⟩
                rw [HQ.out]
                try rfl
            · have E5 : Hid (decide (x.p.cut = y.p.cut) = false) := decide_eq_false q5
              have HQ : Hid (decide (x.p = y.p) = false) := decide_eq_false (fun e => q5 (by rw [e]))
              clear q0 q1 q2 q3 q4 q5
              go_enter Try.func33, Try.ntmps33
              go_wp2_with (first
                | (rw [hW1])
                | (rw [hW2])
                | (refine g_eq3 (x := .tmp 6) (y := .tmp 8) rfl E0.out (by kernel_rfl) (by kernel_rfl) (by kernel_rfl) ?_)
                | (refine g_eq9 (x := .tmp 12) (y := .tmp 14) rfl E1.out (by kernel_rfl) (by kernel_rfl) (by kernel_rfl) ?_)
                | (refine g_eq4 (x := .tmp 19) (y := .tmp 21) rfl E2.out (by kernel_rfl) (by kernel_rfl) (by kernel_rfl) ?_)
                | (refine g_eq3 (x := .tmp 26) (y := .tmp 28) rfl E3.out (by kernel_rfl) (by kernel_rfl) (by kernel_rfl) ?_)
                | (refine g_eq3 (x := .tmp 33) (y := .tmp 35) rfl E4.out (by kernel_rfl) (by kernel_rfl) (by kernel_rfl) ?_)
                | (refine g_eq3 (x := .tmp 40) (y := .tmp 42) rfl E5.out (by kernel_rfl) (by kernel_rfl) (by kernel_rfl) ?_; apply of_stop))
              unfold Stp
              go_wp2_with fail
              go_ret
              refine ⟨?_, HA.out⟩
              rw [HQ.out]
              try rfl
          · have E4 : Hid (decide (x.p.at_ = y.p.at_) = false) := decide_eq_false q4
            have HQ : Hid (decide (x.p = y.p) = false) := decide_eq_false (fun e => q4 (by rw [e]))
            clear q0 q1 q2 q3 q4
            go_enter Try.func33, Try.ntmps33
            go_wp2_with (first
              | (rw [hW1])
              | (rw [hW2])
              | (refine g_eq3 (x := .tmp 6) (y := .tmp 8) rfl E0.out (by kernel_rfl) (by kernel_rfl) (by kernel_rfl) ?_)
              | (refine g_eq9 (x := .tmp 12) (y := .tmp 14) rfl E1.out (by kernel_rfl) (by kernel_rfl) (by kernel_rfl) ?_)
              | (refine g_eq4 (x := .tmp 19) (y := .tmp 21) rfl E2.out (by kernel_rfl) (by kernel_rfl) (by kernel_rfl) ?_)
              | (refine g_eq3 (x := .tmp 26) (y := .tmp 28) rfl E3.out (by kernel_rfl) (by kernel_rfl) (by kernel_rfl) ?_)
              | (refine g_eq3 (x := .tmp 33) (y := .tmp 35) rfl E4.out (by kernel_rfl) (by kernel_rfl) (by kernel_rfl) ?_; apply of_stop))
            unfold Stp
            go_wp2_with fail
            go_ret
            refine ⟨?_, HA.out⟩
            rw [HQ.out]
            try rfl
        · have E3 : Hid (decide (x.p.by_ = y.p.by_) = false) := decide_eq_false q3
          have HQ : Hid (decide (x.p = y.p) = false) := decide_eq_false (fun e => q3 (by rw [e]))
          clear q0 q1 q2 q3
          go_enter Try.func33, Try.ntmps33
          go_wp2_with (first
            | (rw [hW1])
            | (rw [hW2])
            | (refine g_eq3 (x := .tmp 6) (y := .tmp 8) rfl E0.out (by kernel_rfl) (by kernel_rfl) (by kernel_rfl) ?_)
            | (refine g_eq9 (x := .tmp 12) (y := .tmp 14) rfl E1.out (by kernel_rfl) (by kernel_rfl) (by kernel_rfl) ?_)
            | (refine g_eq4 (x := .tmp 19) (y := .tmp 21) rfl E2.out (by kernel_rfl) (by kernel_rfl) (by kernel_rfl) ?_)
            | (refine g_eq3 (x := .tmp 26) (y := .tmp 28) rfl E3.out (by kernel_rfl) (by kernel_rfl) (by kernel_rfl) ?_; apply of_stop))
          unfold Stp
          go_wp2_with fail
          go_ret
          refine ⟨?_, HA.out⟩
          rw [HQ.out]
          try rfl
      · have E2 : Hid (decide (x.p.gone = y.p.gone) = false) := decide_eq_false q2
        have HQ : Hid (decide (x.p = y.p) = false) := decide_eq_false (fun e => q2 (by rw [e]))
        clear q0 q1 q2
        go_enter Try.func33, Try.ntmps33
        go_wp2_with (first
          | (rw [hW1])
          | (rw [hW2])
          | (refine g_eq3 (x := .tmp 6) (y := .tmp 8) rfl E0.out (by kernel_rfl) (by kernel_rfl) (by kernel_rfl) ?_)
          | (refine g_eq9 (x := .tmp 12) (y := .tmp 14) rfl E1.out (by kernel_rfl) (by kernel_rfl) (by kernel_rfl) ?_)
          | (refine g_eq4 (x := .tmp 19) (y := .tmp 21) rfl E2.out (by kernel_rfl) (by kernel_rfl) (by kernel_rfl) ?_; apply of_stop))
        unfold Stp
        go_wp2_with fail
        go_ret
        refine ⟨?_, HA.out⟩
        rw [HQ.out]
        try rfl
    · have E1 : Hid (decide (x.p.name = y.p.name) = false) := decide_eq_false q1
      have HQ : Hid (decide (x.p = y.p) = false) := decide_eq_false (fun e => q1 (by rw [e]))
      clear q0 q1
      go_enter Try.func33, Try.ntmps33
      go_wp2_with (first
        | (rw [hW1])
        | (rw [hW2])
        | (refine g_eq3 (x := .tmp 6) (y := .tmp 8) rfl E0.out (by kernel_rfl) (by kernel_rfl) (by kernel_rfl) ?_)
        | (refine g_eq9 (x := .tmp 12) (y := .tmp 14) rfl E1.out (by kernel_rfl) (by kernel_rfl) (by kernel_rfl) ?_; apply of_stop))
      unfold Stp
      go_wp2_with fail
      go_ret
      refine ⟨?_, HA.out⟩
      rw [HQ.out]
      try rfl
  · have E0 : Hid (decide (x.p.kind = y.p.kind) = false) := decide_eq_false q0
    have HQ : Hid (decide (x.p = y.p) = false) := decide_eq_false (fun e => q0 (by rw [e]))
    clear q0
    go_enter Try.func33, Try.ntmps33
    go_wp2_with (first
      | (rw [hW1])
      | (rw [hW2])
      | (refine g_eq3 (x := .tmp 6) (y := .tmp 8) rfl E0.out (by kernel_rfl) (by kernel_rfl) (by kernel_rfl) ?_; apply of_stop))
    unfold Stp
    go_wp2_with fail
    go_ret
    refine ⟨?_, HA.out⟩
    rw [HQ.out]
    try rfl
end Go.Proofs.Ytiihdhnmgbhgkaa
