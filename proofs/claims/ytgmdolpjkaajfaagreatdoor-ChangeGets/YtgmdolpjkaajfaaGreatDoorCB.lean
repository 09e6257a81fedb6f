/-
  A CHANGE (stemma/change): its data; which numbers and Deps may be; the walk of change.lay.
-/
import Derived.Test.YtgmdolpjkaajfaaGreatDoorCA
namespace Go.Proofs.YtgmdolpjkaajfaaGreatDoor
open Go.RowKit Leb
/-- Where a slice lies. -/
structure Sl where
  a : Option Addr
  n : Nat
  c : Nat
abbrev Sl.v (s : Sl) : Value := .slice s.a s.n s.c
/-- A change. -/
structure Chg where
  author : List UInt8
  seq : Int
  start : Int
  deps : List (List UInt8)
  note : List UInt8
  ops : List Opn
  deriving DecidableEq
abbrev cc (x : Chg) (d p : Sl) : List Value := [.string (strOf x.author), .int .i64 x.seq, .int .i64 x.start, .slice d.a d.n d.c, .string (strOf x.note), .slice p.a p.n p.c]
abbrev cV (x : Chg) (d p : Sl) : Value := .agg #[.string (strOf x.author), .int .i64 x.seq, .int .i64 x.start, .slice d.a d.n d.c, .string (strOf x.note), .slice p.a p.n p.c]
/-- A change as it lies in memory. -/
structure ChAt (w : World) (x : Chg) (d p : Sl) : Prop where
  deps : HS.HsAt w d.a x.deps
  ops : OpsAt w p.a x.ops
  dn : x.deps.length = d.n
  pn : x.ops.length = p.n
  d32 : HS.All32 x.deps
  ok : ∀ y ∈ x.ops, y.Ok
  s0 : -9223372036854775808 ≤ x.seq
  s1 : x.seq ≤ 9223372036854775807
  t0 : -9223372036854775808 ≤ x.start
  t1 : x.start ≤ 9223372036854775807
  al : x.author.length ≤ maxLen
  nl : x.note.length ≤ maxLen
  db : d.n ≤ 1152921504606846976
  pb : p.n ≤ 1152921504606846976
theorem ChAt.after {w w' : World} {x : Chg} {d p : Sl} (h : ChAt w x d p) (ha : After w w') : ChAt w' x d p :=
  { h with deps := h.deps.after ha, ops := h.ops.after ha }
def numB (z : Int) : Bool := decide (1 ≤ z) && decide (z ≤ 1099511627776)
def depsB (l : List (List UInt8)) : Bool := decide (l.length ≤ 16) && HS.upB l
def putD (l : List (List UInt8)) : List UInt8 := uintB l.length ++ l.flatten
theorem putD_eq {l : List (List UInt8)} {n : Nat} (h : l.length = n) : HS.putB l n n = putD l := by unfold HS.putB putD; rw [← h, List.take_length]
/-- The bytes of a change. -/
def layX (au : List UInt8) (sq st : Nat) (ds : List (List UInt8)) (nt B : List UInt8) : List UInt8 := [[1], textB au, uintB sq, uintB st, putD ds, textB nt, B].flatten
def layC (x : Chg) : List UInt8 := layX x.author x.seq.toNat x.start.toNat x.deps x.note (layB x.ops)
/-- What may not be: its error. -/
def eOf (m : Bool) (e : Nat) : Nat := if m then 0 else e
def chE (x : Chg) : Nat → Nat
  | 0 => eOf (nmB x.author) 30
  | 1 => eOf (numB x.seq) 42
  | 2 => eOf (numB x.start) 43
  | 3 => eOf (depsB x.deps) 41
  | 4 => eOf (decide (x.note.length ≤ 1024)) 5
  | 5 => putE x.ops
  | _ => eOf (decide ((layC x).length ≤ 65536)) 5

set_option maxRecDepth 100000 in
set_option maxHeartbeats 2400000 in
theorem isNumber_any (z : Int) (w : World) : Calls Tryz.prog 36 #[.int .i64 z] w fun e w' => e = .returned (.bool (numB z)) ∧ w' = w := by
  by_cases h1 : (1 : Int) ≤ z
  · by_cases h2 : z ≤ 1099511627776
    · have HR : Hid (numB z = true) := by unfold Hid numB; rw [decide_eq_true h1, decide_eq_true h2]; rfl
      go_enter Tryz.func36, Tryz.ntmps36
      go_wp2
      go_ret
      exact ⟨by rw [HR.out]; rfl, rfl⟩
    · have HR : Hid (numB z = false) := by unfold Hid numB; rw [decide_eq_false h2, Bool.and_false]
      go_enter Tryz.func36, Tryz.ntmps36
      go_wp2
      go_ret
      exact ⟨by rw [HR.out]; rfl, rfl⟩
  · have HR : Hid (numB z = false) := by unfold Hid numB; rw [decide_eq_false h1]; rfl
    go_enter Tryz.func36, Tryz.ntmps36
    go_wp2
    go_ret
    exact ⟨by rw [HR.out]; rfl, rfl⟩
set_option maxRecDepth 100000 in
set_option maxHeartbeats 2400000 in
theorem unless_any (m : Bool) (e : Nat) (w : World) : Calls Tryz.prog 33 #[.bool m, .int .i64 (e : Int)] w fun x w' => x = .returned (.int .i64 (eOf m e : Int)) ∧ w' = w := by
  cases m with
  | true =>
    go_enter Tryz.func33, Tryz.ntmps33
    go_wp2
    go_ret
    exact ⟨rfl, rfl⟩
  | false =>
    go_enter Tryz.func33, Tryz.ntmps33
    go_wp2
    go_ret
    exact ⟨rfl, rfl⟩
set_option maxRecDepth 100000 in
set_option maxHeartbeats 2400000 in
theorem areDeps_any (a : Option Addr) (n c : Nat) (l : List (List UInt8)) (h32 : HS.All32 l) (hl : l.length = n) (hb : n ≤ 1152921504606846976) (w : World) (hA : HS.HsAt w a l) : Calls Tryz.prog 39 #[.slice a n c] w fun e w' => e = .returned (.bool (depsB l)) ∧ After w w' := by
  have HC := show Hid _ from HS.rising15 a c l h32 n hl hb w hA
  by_cases h : n ≤ 16
  · have hi : (n : Int) ≤ 16 := by omega
    have HR : Hid (depsB l = HS.upB l) := by unfold Hid depsB; rw [decide_eq_true (show l.length ≤ 16 by omega)]; rfl
    clear h32 hl hb hA
    obtain ⟨q, hq⟩ : ∃ q, HS.upB l = q := ⟨_, rfl⟩
    rw [hq] at HR HC
    clear hq
    go_enter Tryz.func39, Tryz.ntmps39
    go_wp2_with (go_at_call 64; refine Calls.mono HC.out ?_; rintro e w1 ⟨rfl, ha⟩; have H1 := show Hid (After w w1) from ha; clear ha)
    go_ret
    exact ⟨by rw [HR.out]; rfl, H1.out⟩
  · have hi : ¬ (n : Int) ≤ 16 := by omega
    have HR : Hid (depsB l = false) := by unfold Hid depsB; rw [decide_eq_false (show ¬ l.length ≤ 16 by omega)]; rfl
    clear h32 hl hb hA
    go_enter Tryz.func39, Tryz.ntmps39
    go_wp2
    go_ret
    exact ⟨by rw [HR.out]; rfl, After.refl _⟩
theorem uint_k (n : Nat) (hn : n < 18446744073709551616) (w : World) : Calls Tryz.prog 69 #[.int .u64 (n : Int)] w fun e w' => ∃ v, e = .returned v ∧ (∃ a k c, v = .slice a k c ∧ BytesAt w' a (uintB n) ∧ (uintB n).length = k) ∧ After w w' :=
  (uint_any n hn w).mono (fun e w' ⟨v, he, ho, ha⟩ => by
    obtain ⟨a, c, rfl, h1, h2, h3⟩ := own_sl ho rfl
    exact ⟨_, he, ⟨a, _, c, rfl, h1, rfl⟩, ha⟩)
theorem text_v (s : List UInt8) (hs : s.length ≤ 2000) (w : World) : Calls Tryz.prog 68 #[.string (strOf s)] w fun e w' => ∃ v, e = .returned v ∧ (∃ a k c, v = .slice a k c ∧ BytesAt w' a (textB s) ∧ (textB s).length = k) ∧ After w w' :=
  (text_k s hs w).mono (fun _ _ ⟨a, k, c, he, h1, h2, ha⟩ => ⟨_, he, ⟨a, k, c, rfl, h1, h2⟩, ha⟩)
theorem hput_k (a : Option Addr) (n c : Nat) (l : List (List UInt8)) (h32 : HS.All32 l) (hl : l.length = n) (hb : n ≤ 1000) (w : World) (hA : HS.HsAt w a l) : Calls Tryz.prog 70 #[.slice a n c] w fun e w' => ∃ v, e = .returned v ∧ (∃ a k c, v = .slice a k c ∧ BytesAt w' a (putD l) ∧ (putD l).length = k) ∧ After w w' :=
  (HS.put_any a c l h32 n hl (by omega) w hA).mono (fun e w' ⟨v, he, ho, ha⟩ => by
    rw [putD_eq hl] at ho
    obtain ⟨a, c, rfl, h1, h2, h3⟩ := own_sl ho rfl
    exact ⟨_, he, ⟨a, _, c, rfl, h1, rfl⟩, ha⟩)
section
variable {ops : Array Oper} {Q : Exit → Act → World → Prop} {fuel : Nat} {listed : Array Bool} {a : Act} {w W : World} {oi : Oper}
/-- One of several that may come up: a call. -/
theorem opCallA (i d : Nat) (f : FuncId) (args : Array Value) (R : Value → World → Prop) (hi : ops[i]? = some oi) (hd : oi.dst = some d) (hw : Region.wanted oi (yielded ops a.tmps) = true) (hrun : ∀ w, (execOp a.eval oi).run Tryz.prog w = .ok (.enter f args) w) (hS : After W w)
    (hc : Calls Tryz.prog f args w fun e w' => ∃ v, e = .returned v ∧ R v w' ∧ After w w')
    (h : ∀ v w', R v w' → After w w' → wpAnyH Tryz.prog .any ops Q (After w') fuel (listed.setIfInBounds i true) (a.put (some d) v) w') :
    wpOp Tryz.prog ops Q i (fun a' w' => After W w' ∧ wpAnyH Tryz.prog .any ops Q (After W) fuel (listed.setIfInBounds i true) a' w') a w := by
  refine wpOp_step hi (fun K' hK => ?_)
  rw [if_pos hw]
  unfold Oper.wp
  rw [hrun, Oper.upon_enter]
  refine hc.mono (fun e w' ⟨v, he, hr, hb⟩ => ?_)
  subst he
  rw [hd]
  exact hK _ _ ⟨hS.trans hb, turnH (fun w hw => (hS.trans hb).trans hw) _ _ _ _ (h v w' hr hb)⟩
/-- One of several that may come up: new memory. -/
theorem opNewA (i d : Nat) (v : Value) (o : Obj) (hi : ops[i]? = some oi) (hd : oi.dst = some d) (hw : Region.wanted oi (yielded ops a.tmps) = true) (hrun : (execOp a.eval oi).run Tryz.prog w = .ok (.value v) (w.alloc o)) (hS : After W w)
    (h : wpAnyH Tryz.prog .any ops Q (After (w.alloc o)) fuel (listed.setIfInBounds i true) (a.put (some d) v) (w.alloc o)) :
    wpOp Tryz.prog ops Q i (fun a' w' => After W w' ∧ wpAnyH Tryz.prog .any ops Q (After W) fuel (listed.setIfInBounds i true) a' w') a w := by
  refine wpOp_step hi (fun K' hK => ?_)
  rw [if_pos hw]
  unfold Oper.wp
  rw [hrun]
  have hA : After W (w.alloc o) := after_alloc hS o
  have := hK (a.put (some d) v) (w.alloc o) ⟨hA, turnH (fun w hw => hA.trans hw) _ _ _ _ h⟩
  rw [← hd] at this
  exact this
end
theorem bs32 (W : World) : (Instr.buildSlice 32 1 #[(0, .int .u8 1)]).run Tryz.prog W = .ok (.slice (some ⟨W.heap.size, 0, none⟩) 1 1) (W.alloc (.cells #[.int .u8 1] 5)) := by kernel_rfl
theorem x_bs32 {oi : Oper} {a : Act} {w : World} (hop : oi.op = .buildSlice 32 1 #[(0, .const (.int .u8 1))]) : (execOp a.eval oi).run Tryz.prog w = .ok (.value (.slice (some ⟨w.heap.size, 0, none⟩) 1 1)) (w.alloc (.cells #[.int .u8 1] 5)) := by
  unfold execOp
  have e : a.eval (.const (.int .u8 1)) = .int .u8 1 := rfl
  simp only [hop, List.map_toArray, List.map_cons, List.map_nil, e, Sem.run_bind, bs32 w, Result.andThen_ok]
  rfl
theorem bytes_1 (w : World) : BytesAt (w.alloc (.cells #[.int .u8 1] 5)) (some ⟨w.heap.size, 0, none⟩) [1] := fun _ =>
  ⟨w.heap.size, 0, rfl, fun j hj => by
    rw [cell_of_row _ _ _ _ _ _ (heap_alloc_new w _)]
    match j, hj with
    | 0, _ => rfl⟩
theorem bs125 (W : World) (s0 s1 s2 s3 s4 s5 s6 : Sl) : (Instr.buildSlice 125 7 #[(0, s0.v), (1, s1.v), (2, s2.v), (3, s3.v), (4, s4.v), (5, s5.v), (6, s6.v)]).run Tryz.prog W = .ok (.slice (some ⟨W.heap.size, 0, none⟩) 7 7) (W.alloc (.cells #[s0.v, s1.v, s2.v, s3.v, s4.v, s5.v, s6.v] 32)) := by kernel_rfl
theorem x_bs125 {oi : Oper} {a : Act} {w : World} {x0 x1 x2 x3 x4 x5 x6 : Operand} (s0 s1 s2 s3 s4 s5 s6 : Sl) (hop : oi.op = .buildSlice 125 7 #[(0, x0), (1, x1), (2, x2), (3, x3), (4, x4), (5, x5), (6, x6)]) (h0 : a.eval x0 = s0.v) (h1 : a.eval x1 = s1.v) (h2 : a.eval x2 = s2.v) (h3 : a.eval x3 = s3.v) (h4 : a.eval x4 = s4.v) (h5 : a.eval x5 = s5.v) (h6 : a.eval x6 = s6.v) :
    (execOp a.eval oi).run Tryz.prog w = .ok (.value (.slice (some ⟨w.heap.size, 0, none⟩) 7 7)) (w.alloc (.cells #[s0.v, s1.v, s2.v, s3.v, s4.v, s5.v, s6.v] 32)) := by
  unfold execOp
  simp only [hop, List.map_toArray, List.map_cons, List.map_nil, h0, h1, h2, h3, h4, h5, h6, Sem.run_bind, bs125 w s0 s1 s2 s3 s4 s5 s6, Result.andThen_ok]
  rfl
/-- A slice of bytes that is there. -/
structure BAt (w : World) (v : Value) (s : Sl) (L : List UInt8) : Prop where
  e : v = s.v
  at_ : BytesAt w s.a L
  len : L.length = s.n
theorem BAt.after {w w' : World} {v : Value} {s : Sl} {L : List UInt8} (h : BAt w v s L) (ha : After w w') : BAt w' v s L := ⟨h.e, h.at_.after ha, h.len⟩
theorem ls7 {W : World} {s0 s1 s2 s3 s4 s5 s6 : Sl} {L0 L1 L2 L3 L4 L5 L6 : List UInt8} (h0 : BAt W s0.v s0 L0) (h1 : BAt W s1.v s1 L1) (h2 : BAt W s2.v s2 L2) (h3 : BAt W s3.v s3 L3) (h4 : BAt W s4.v s4 L4) (h5 : BAt W s5.v s5 L5) (h6 : BAt W s6.v s6 L6) :
    LsAt (W.alloc (.cells #[s0.v, s1.v, s2.v, s3.v, s4.v, s5.v, s6.v] 32)) W.heap.size 0 [L0, L1, L2, L3, L4, L5, L6] := by
  have hr := RowIs.new W 32 [s0.v, s1.v, s2.v, s3.v, s4.v, s5.v, s6.v]
  have ha := after_alloc (After.refl W) (.cells #[s0.v, s1.v, s2.v, s3.v, s4.v, s5.v, s6.v] 32)
  intro i L hL
  have h7 : i < 7 := by have := (List.getElem?_eq_some_iff.1 hL).1; simpa using this
  rw [Nat.zero_add]
  match i, h7, hL with
  | 0, _, hL => cases hL; exact ⟨_, _, _, hr.cell (j := 0) rfl, h0.at_.after ha, h0.len⟩
  | 1, _, hL => cases hL; exact ⟨_, _, _, hr.cell (j := 1) rfl, h1.at_.after ha, h1.len⟩
  | 2, _, hL => cases hL; exact ⟨_, _, _, hr.cell (j := 2) rfl, h2.at_.after ha, h2.len⟩
  | 3, _, hL => cases hL; exact ⟨_, _, _, hr.cell (j := 3) rfl, h3.at_.after ha, h3.len⟩
  | 4, _, hL => cases hL; exact ⟨_, _, _, hr.cell (j := 4) rfl, h4.at_.after ha, h4.len⟩
  | 5, _, hL => cases hL; exact ⟨_, _, _, hr.cell (j := 5) rfl, h5.at_.after ha, h5.len⟩
  | 6, _, hL => cases hL; exact ⟨_, _, _, hr.cell (j := 6) rfl, h6.at_.after ha, h6.len⟩
theorem x_ldc {oi : Oper} {a : Act} {w : World} {x : Operand} {t : TypeId} {ds : TypeDesc} {g j : Nat} {v : Value} (hu : Tryz.prog.underlying t = some ds) (hd : ds.isRow = false) (hop : oi.op = .load t x) (hx : a.eval x = .pointer (some ⟨g, j, none⟩)) (h : w.cell? ⟨g, j, none⟩ = some v) : (execOp a.eval oi).run Tryz.prog w = .ok (.value v) w := x_loadT hu hd hop hx h
theorem x_u64 {oi : Oper} {a : Act} {w : World} {x : Operand} {n : Nat} (hn : n ≤ 1099511627776) (hop : oi.op = .convert 3 69 x) (hx : a.eval x = .int .i64 (n : Int)) : (execOp a.eval oi).run Tryz.prog w = .ok (.value (.int .u64 (n : Int))) w := by
  unfold execOp
  have e : IntKind.u64.wrap (n : Int) = n := by simp [IntKind.wrap, IntKind.bits, IntKind.signed]; omega
  simp only [hop, hx]
  simp [go_sem, e]

set_option maxRecDepth 100000 in
set_option maxHeartbeats 2400000 in
theorem clay_any (x : Chg) (d p : Sl) (sq st : Nat) (hsq : sq ≤ 1099511627776) (hst : st ≤ 1099511627776) (hau : x.author.length ≤ 2000) (hnt : x.note.length ≤ 2000) (hdn : d.n ≤ 16) (B : List UInt8) (b : Sl) (hB : B.length ≤ 200000000) (hes : x.seq = (sq : Int)) (het : x.start = (st : Int)) (w : World) (h : ChAt w x d p) (hb : BAt w b.v b B) :
    Calls Tryz.prog 44 #[cV x d p, .slice b.a b.n b.c] w fun e w' => ∃ v, e = .returned v ∧ Own w' w.heap.size v (layX x.author sq st x.deps x.note B) ∧ After w w' := by
  have HF : Hid (x.author.length ≤ 2000 ∧ x.note.length ≤ 2000 ∧ d.n ≤ 16 ∧ ChAt w x d p ∧ BAt w b.v b B) := ⟨hau, hnt, hdn, h, hb⟩
  have HSZ : Hid ([[1], textB x.author, uintB sq, uintB st, putD x.deps, textB x.note, B].flatten.length ≤ 1000000000) := by
    have h1 := textB_len x.author hau
    have h2 := textB_len x.note hnt
    have h3 := uintB_len10 sq (by omega)
    have h4 := uintB_len10 st (by omega)
    have h5 := uintB_len10 x.deps.length (by rw [h.dn]; omega)
    have h6 := HS.flat_len h.d32
    unfold Hid putD
    simp only [List.flatten_cons, List.flatten_nil, List.length_append, List.length_cons, List.length_nil]
    rw [h6, h.dn] at *
    omega
  obtain ⟨au, sq', st', ds, nt, os⟩ := x
  simp only at hes het
  subst hes het
  clear hau hnt hdn h hb
  go_enter Tryz.func44, Tryz.ntmps44
  go_wp2
  have HRB : Hid (RowIs (w.alloc (.cells #[.string (strOf au), .int .i64 (sq : Int), .int .i64 (st : Int), .slice d.a d.n d.c, .string (strOf nt), .slice p.a p.n p.c] 25)) w.heap.size 25 [.string (strOf au), .int .i64 (sq : Int), .int .i64 (st : Int), .slice d.a d.n d.c, .string (strOf nt), .slice p.a p.n p.c] ∧ After w (w.alloc (.cells #[.string (strOf au), .int .i64 (sq : Int), .int .i64 (st : Int), .slice d.a d.n d.c, .string (strOf nt), .slice p.a p.n p.c] 25))) := ⟨RowIs.new w 25 _, after_alloc (After.refl w) _⟩
  revert HRB
  generalize w.alloc (.cells #[.string (strOf au), .int .i64 (sq : Int), .int .i64 (st : Int), .slice d.a d.n d.c, .string (strOf nt), .slice p.a p.n p.c] 25) = w0
  intro HRB
  refine wp_region_noPanic ?_
  refine wp_region_held_drew (S := After w0) (by kernel_rfl) (After.drew (After.refl w0)) ?_
  intro hS0
  refine tk 1 6 (.pointer (some ⟨w.heap.size, 0, none⟩)) (fuel := 21) rfl (by kernel_rfl) (by kernel_rfl) (by kernel_rfl) (by kernel_rfl) noPanic_false (by kernel_rfl) (fun _ _ => by kernel_rfl) hS0 ?_
  refine tk 2 7 (.string (strOf au)) (fuel := 20) rfl (by kernel_rfl) (by kernel_rfl) (by kernel_rfl) (by kernel_rfl) noPanic_false (by kernel_rfl) (fun W hW => x_ldc (x := .tmp 6) (t := 9) (g := w.heap.size) (j := 0) Tryz.underlying9 rfl (by kernel_rfl) (by kernel_rfl) ((HRB.out.1.below hW HRB.out.1.lt).cell (j := 0) rfl)) hS0 ?_
  refine tk 4 9 (.pointer (some ⟨w.heap.size, 1, none⟩)) (fuel := 19) rfl (by kernel_rfl) (by kernel_rfl) (by kernel_rfl) (by kernel_rfl) noPanic_false (by kernel_rfl) (fun _ _ => by kernel_rfl) hS0 ?_
  refine tk 5 10 (.int .i64 (sq : Int)) (fuel := 18) rfl (by kernel_rfl) (by kernel_rfl) (by kernel_rfl) (by kernel_rfl) noPanic_false (by kernel_rfl) (fun W hW => x_ldc (x := .tmp 9) (t := 3) (g := w.heap.size) (j := 1) Tryz.underlying3 rfl (by kernel_rfl) (by kernel_rfl) ((HRB.out.1.below hW HRB.out.1.lt).cell (j := 1) rfl)) hS0 ?_
  refine tk 6 11 (.int .u64 (sq : Int)) (fuel := 17) rfl (by kernel_rfl) (by kernel_rfl) (by kernel_rfl) (by kernel_rfl) noPanic_false (by kernel_rfl) (fun _ _ => x_u64 (x := .tmp 10) hsq (by kernel_rfl) (by kernel_rfl)) hS0 ?_
  refine tk 8 13 (.pointer (some ⟨w.heap.size, 2, none⟩)) (fuel := 16) rfl (by kernel_rfl) (by kernel_rfl) (by kernel_rfl) (by kernel_rfl) noPanic_false (by kernel_rfl) (fun _ _ => by kernel_rfl) hS0 ?_
  refine tk 9 14 (.int .i64 (st : Int)) (fuel := 15) rfl (by kernel_rfl) (by kernel_rfl) (by kernel_rfl) (by kernel_rfl) noPanic_false (by kernel_rfl) (fun W hW => x_ldc (x := .tmp 13) (t := 3) (g := w.heap.size) (j := 2) Tryz.underlying3 rfl (by kernel_rfl) (by kernel_rfl) ((HRB.out.1.below hW HRB.out.1.lt).cell (j := 2) rfl)) hS0 ?_
  refine tk 10 15 (.int .u64 (st : Int)) (fuel := 14) rfl (by kernel_rfl) (by kernel_rfl) (by kernel_rfl) (by kernel_rfl) noPanic_false (by kernel_rfl) (fun _ _ => x_u64 (x := .tmp 14) hst (by kernel_rfl) (by kernel_rfl)) hS0 ?_
  refine tk 12 17 (.pointer (some ⟨w.heap.size, 3, none⟩)) (fuel := 13) rfl (by kernel_rfl) (by kernel_rfl) (by kernel_rfl) (by kernel_rfl) noPanic_false (by kernel_rfl) (fun _ _ => by kernel_rfl) hS0 ?_
  refine tk 13 18 (.slice d.a d.n d.c) (fuel := 12) rfl (by kernel_rfl) (by kernel_rfl) (by kernel_rfl) (by kernel_rfl) noPanic_false (by kernel_rfl) (fun W hW => x_ldc (x := .tmp 17) (t := 22) (g := w.heap.size) (j := 3) Tryz.underlying22 rfl (by kernel_rfl) (by kernel_rfl) ((HRB.out.1.below hW HRB.out.1.lt).cell (j := 3) rfl)) hS0 ?_
  refine tk 15 20 (.pointer (some ⟨w.heap.size, 4, none⟩)) (fuel := 11) rfl (by kernel_rfl) (by kernel_rfl) (by kernel_rfl) (by kernel_rfl) noPanic_false (by kernel_rfl) (fun _ _ => by kernel_rfl) hS0 ?_
  refine tk 16 21 (.string (strOf nt)) (fuel := 10) rfl (by kernel_rfl) (by kernel_rfl) (by kernel_rfl) (by kernel_rfl) noPanic_false (by kernel_rfl) (fun W hW => x_ldc (x := .tmp 20) (t := 9) (g := w.heap.size) (j := 4) Tryz.underlying9 rfl (by kernel_rfl) (by kernel_rfl) ((HRB.out.1.below hW HRB.out.1.lt).cell (j := 4) rfl)) hS0 ?_
  refine tk 18 23 (.slice b.a b.n b.c) (fuel := 9) rfl (by kernel_rfl) (by kernel_rfl) (by kernel_rfl) (by kernel_rfl) noPanic_false (by kernel_rfl) (fun _ _ => by kernel_rfl) hS0 ?_
  refine wpAnyH_all (rs := [0, 3]) (by kernel_rfl) (by simp) (fun i hi => ?_)
  have hi2 : i = 0 ∨ i = 3 := by simpa using hi
  clear hi
  rcases hi2 with rfl | rfl
  · refine opNewA 0 5 (.slice (some ⟨w0.drew.heap.size, 0, none⟩) 1 1) (.cells #[.int .u8 1] 5) rfl (by kernel_rfl) (by kernel_rfl) (x_bs32 (w := w0.drew) (by kernel_rfl)) hS0 ?_
    have ha := after_alloc (After.refl (w0.drew)) (.cells #[.int .u8 1] 5)
    have hat := bytes_1 (w0.drew)
    have hAf := After.trans hS0 ha
    revert ha hat hAf 
    generalize (w0.drew).alloc (.cells #[.int .u8 1] 5) = z0
    generalize (w0.drew).heap.size = g0
    intro ha hat hAf 
    have hB0 : BAt z0 (Sl.v ⟨some ⟨g0, 0, none⟩, 1, 1⟩) ⟨some ⟨g0, 0, none⟩, 1, 1⟩ [1] := ⟨rfl, hat, rfl⟩
    clear ha hat
    have hS := After.refl z0
    refine wpAnyH_all (rs := [3]) (by kernel_rfl) (by simp) (fun i hi => ?_)
    obtain rfl : i = 3 := by simpa using hi
    clear hi
    refine opCallA 3 8 68 #[.string (strOf au)] (fun v W => ∃ a k c, v = .slice a k c ∧ BytesAt W a (textB au) ∧ (textB au).length = k) rfl (by kernel_rfl) (by kernel_rfl) (fun _ => by kernel_rfl) hS (text_v au HF.out.1 z0) ?_
    rintro v w1d ⟨a1, k1, c1, rfl, hat, hk⟩ ha
    have hAf := After.trans hAf ha
    have hB0 := hB0.after ha
    have hB1 : BAt w1d (Sl.v ⟨a1, k1, c1⟩) ⟨a1, k1, c1⟩ (textB au) := ⟨rfl, hat, hk⟩
    clear hat hk ha
    have hS := After.refl w1d
    refine wpAnyH_all (rs := [7]) (by kernel_rfl) (by simp) (fun i hi => ?_)
    obtain rfl : i = 7 := by simpa using hi
    clear hi
    refine opCallA 7 12 69 #[.int .u64 (sq : Int)] (fun v W => ∃ a k c, v = .slice a k c ∧ BytesAt W a (uintB sq) ∧ (uintB sq).length = k) rfl (by kernel_rfl) (by kernel_rfl) (fun _ => by kernel_rfl) hS (uint_k sq (by omega) w1d) ?_
    rintro v w2d ⟨a2, k2, c2, rfl, hat, hk⟩ ha
    have hAf := After.trans hAf ha
    have hB0 := hB0.after ha
    have hB1 := hB1.after ha
    have hB2 : BAt w2d (Sl.v ⟨a2, k2, c2⟩) ⟨a2, k2, c2⟩ (uintB sq) := ⟨rfl, hat, hk⟩
    clear hat hk ha
    have hS := After.refl w2d
    refine wpAnyH_all (rs := [11]) (by kernel_rfl) (by simp) (fun i hi => ?_)
    obtain rfl : i = 11 := by simpa using hi
    clear hi
    refine opCallA 11 16 69 #[.int .u64 (st : Int)] (fun v W => ∃ a k c, v = .slice a k c ∧ BytesAt W a (uintB st) ∧ (uintB st).length = k) rfl (by kernel_rfl) (by kernel_rfl) (fun _ => by kernel_rfl) hS (uint_k st (by omega) w2d) ?_
    rintro v w3d ⟨a3, k3, c3, rfl, hat, hk⟩ ha
    have hAf := After.trans hAf ha
    have hB0 := hB0.after ha
    have hB1 := hB1.after ha
    have hB2 := hB2.after ha
    have hB3 : BAt w3d (Sl.v ⟨a3, k3, c3⟩) ⟨a3, k3, c3⟩ (uintB st) := ⟨rfl, hat, hk⟩
    clear hat hk ha
    have hS := After.refl w3d
    refine wpAnyH_all (rs := [14]) (by kernel_rfl) (by simp) (fun i hi => ?_)
    obtain rfl : i = 14 := by simpa using hi
    clear hi
    refine opCallA 14 19 70 #[.slice d.a d.n d.c] (fun v W => ∃ a k c, v = .slice a k c ∧ BytesAt W a (putD ds) ∧ (putD ds).length = k) rfl (by kernel_rfl) (by kernel_rfl) (fun _ => by kernel_rfl) hS (hput_k d.a d.n d.c ds HF.out.2.2.2.1.d32 HF.out.2.2.2.1.dn (by have := HF.out.2.2.1; omega) w3d (HF.out.2.2.2.1.deps.after (After.trans HRB.out.2 hAf))) ?_
    rintro v w4d ⟨a4, k4, c4, rfl, hat, hk⟩ ha
    have hAf := After.trans hAf ha
    have hB0 := hB0.after ha
    have hB1 := hB1.after ha
    have hB2 := hB2.after ha
    have hB3 := hB3.after ha
    have hB4 : BAt w4d (Sl.v ⟨a4, k4, c4⟩) ⟨a4, k4, c4⟩ (putD ds) := ⟨rfl, hat, hk⟩
    clear hat hk ha
    have hS := After.refl w4d
    refine wpAnyH_all (rs := [17]) (by kernel_rfl) (by simp) (fun i hi => ?_)
    obtain rfl : i = 17 := by simpa using hi
    clear hi
    refine opCallA 17 22 68 #[.string (strOf nt)] (fun v W => ∃ a k c, v = .slice a k c ∧ BytesAt W a (textB nt) ∧ (textB nt).length = k) rfl (by kernel_rfl) (by kernel_rfl) (fun _ => by kernel_rfl) hS (text_v nt HF.out.2.1 w4d) ?_
    rintro v w5d ⟨a5, k5, c5, rfl, hat, hk⟩ ha
    have hAf := After.trans hAf ha
    have hB0 := hB0.after ha
    have hB1 := hB1.after ha
    have hB2 := hB2.after ha
    have hB3 := hB3.after ha
    have hB4 := hB4.after ha
    have hB5 : BAt w5d (Sl.v ⟨a5, k5, c5⟩) ⟨a5, k5, c5⟩ (textB nt) := ⟨rfl, hat, hk⟩
    clear hat hk ha
    have hS := After.refl w5d
    refine wpAnyH_all (rs := [19]) (by kernel_rfl) (by simp) (fun i hi => ?_)
    obtain rfl : i = 19 := by simpa using hi
    clear hi
    have hBb := HF.out.2.2.2.2.after (After.trans HRB.out.2 hAf)
    have hL := ls7 hB0 hB1 hB2 hB3 hB4 hB5 hBb
    refine opNewA 19 24 (.slice (some ⟨w5d.heap.size, 0, none⟩) 7 7) _ rfl (by kernel_rfl) (by kernel_rfl) (x_bs125 (w := w5d) (x0 := .tmp 5) (x1 := .tmp 8) (x2 := .tmp 12) (x3 := .tmp 16) (x4 := .tmp 19) (x5 := .tmp 22) (x6 := .tmp 23) ⟨some ⟨g0, 0, none⟩, 1, 1⟩ ⟨a1, k1, c1⟩ ⟨a2, k2, c2⟩ ⟨a3, k3, c3⟩ ⟨a4, k4, c4⟩ ⟨a5, k5, c5⟩ b (by kernel_rfl) (by kernel_rfl) (by kernel_rfl) (by kernel_rfl) (by kernel_rfl) (by kernel_rfl) (by kernel_rfl) (by kernel_rfl)) hS ?_
    have hAg := after_alloc hAf (.cells #[Sl.v ⟨some ⟨g0, 0, none⟩, 1, 1⟩, Sl.v ⟨a1, k1, c1⟩, Sl.v ⟨a2, k2, c2⟩, Sl.v ⟨a3, k3, c3⟩, Sl.v ⟨a4, k4, c4⟩, Sl.v ⟨a5, k5, c5⟩, Sl.v b] 32)
    revert hL hAg
    generalize w5d.alloc (.cells #[Sl.v ⟨some ⟨g0, 0, none⟩, 1, 1⟩, Sl.v ⟨a1, k1, c1⟩, Sl.v ⟨a2, k2, c2⟩, Sl.v ⟨a3, k3, c3⟩, Sl.v ⟨a4, k4, c4⟩, Sl.v ⟨a5, k5, c5⟩, Sl.v b] 32) = wz
    generalize w5d.heap.size = gz
    intro hL hAg
    have hSz := After.refl wz
    refine wpAnyH_all (rs := [20]) (by kernel_rfl) (by simp) (fun i hi => ?_)
    obtain rfl : i = 20 := by simpa using hi
    clear hi
    refine opCallA 20 25 67 #[.slice (some ⟨gz, 0, none⟩) 7 7] (fun v W => Own W wz.heap.size v [[1], textB au, uintB sq, uintB st, putD ds, textB nt, B].flatten) rfl (by kernel_rfl) (by kernel_rfl) (fun _ => by kernel_rfl) hSz (concat_any gz 0 _ 7 7 rfl (by omega) HSZ.out wz hL) ?_
    intro v9 w9 ho ha
    have hS9 := After.refl w9
    refine tk 21 4 v9 (fuel := 0) rfl (by kernel_rfl) (by kernel_rfl) (by kernel_rfl) (by kernel_rfl) noPanic_false (by kernel_rfl) (fun _ _ => by kernel_rfl) hS9 ?_
    refine wpAnyH_done (by kernel_rfl) (NoPanic.normal ?_) _
    have hAF : After w w9 := After.trans HRB.out.2 (After.trans hAg ha)
    have hO : Own w9 w.heap.size v9 (layX au sq st ds nt B) := ho.mono (After.trans HRB.out.2 hAg).size
    clear hL hAg hSz ho ha hS9 hBb hB0 hB1 hB2 hB3 hB4 hB5
    go_simp
    go_wp2
    go_ret
    exact ⟨_, rfl, hO, hAF⟩
  · refine opCallA 3 8 68 #[.string (strOf au)] (fun v W => ∃ a k c, v = .slice a k c ∧ BytesAt W a (textB au) ∧ (textB au).length = k) rfl (by kernel_rfl) (by kernel_rfl) (fun _ => by kernel_rfl) hS0 (text_v au HF.out.1 w0.drew) ?_
    rintro v w1n ⟨a1, k1, c1, rfl, hat, hk⟩ ha
    have hAf := After.trans hS0 ha
    have hB1 : BAt w1n (Sl.v ⟨a1, k1, c1⟩) ⟨a1, k1, c1⟩ (textB au) := ⟨rfl, hat, hk⟩
    clear hat hk ha
    have hS := After.refl w1n
    refine wpAnyH_all (rs := [0, 7]) (by kernel_rfl) (by simp) (fun i hi => ?_)
    have hi2 : i = 0 ∨ i = 7 := by simpa using hi
    clear hi
    rcases hi2 with rfl | rfl
    · refine opNewA 0 5 (.slice (some ⟨w1n.heap.size, 0, none⟩) 1 1) (.cells #[.int .u8 1] 5) rfl (by kernel_rfl) (by kernel_rfl) (x_bs32 (w := w1n) (by kernel_rfl)) hS ?_
      have ha := after_alloc (After.refl (w1n)) (.cells #[.int .u8 1] 5)
      have hat := bytes_1 (w1n)
      have hAf := After.trans hAf ha
      have hB1 := hB1.after ha
      revert ha hat hAf hB1
      generalize (w1n).alloc (.cells #[.int .u8 1] 5) = z1
      generalize (w1n).heap.size = g0
      intro ha hat hAf hB1
      have hB0 : BAt z1 (Sl.v ⟨some ⟨g0, 0, none⟩, 1, 1⟩) ⟨some ⟨g0, 0, none⟩, 1, 1⟩ [1] := ⟨rfl, hat, rfl⟩
      clear ha hat
      have hS := After.refl z1
      refine wpAnyH_all (rs := [7]) (by kernel_rfl) (by simp) (fun i hi => ?_)
      obtain rfl : i = 7 := by simpa using hi
      clear hi
      refine opCallA 7 12 69 #[.int .u64 (sq : Int)] (fun v W => ∃ a k c, v = .slice a k c ∧ BytesAt W a (uintB sq) ∧ (uintB sq).length = k) rfl (by kernel_rfl) (by kernel_rfl) (fun _ => by kernel_rfl) hS (uint_k sq (by omega) z1) ?_
      rintro v w2d ⟨a2, k2, c2, rfl, hat, hk⟩ ha
      have hAf := After.trans hAf ha
      have hB1 := hB1.after ha
      have hB0 := hB0.after ha
      have hB2 : BAt w2d (Sl.v ⟨a2, k2, c2⟩) ⟨a2, k2, c2⟩ (uintB sq) := ⟨rfl, hat, hk⟩
      clear hat hk ha
      have hS := After.refl w2d
      refine wpAnyH_all (rs := [11]) (by kernel_rfl) (by simp) (fun i hi => ?_)
      obtain rfl : i = 11 := by simpa using hi
      clear hi
      refine opCallA 11 16 69 #[.int .u64 (st : Int)] (fun v W => ∃ a k c, v = .slice a k c ∧ BytesAt W a (uintB st) ∧ (uintB st).length = k) rfl (by kernel_rfl) (by kernel_rfl) (fun _ => by kernel_rfl) hS (uint_k st (by omega) w2d) ?_
      rintro v w3d ⟨a3, k3, c3, rfl, hat, hk⟩ ha
      have hAf := After.trans hAf ha
      have hB1 := hB1.after ha
      have hB0 := hB0.after ha
      have hB2 := hB2.after ha
      have hB3 : BAt w3d (Sl.v ⟨a3, k3, c3⟩) ⟨a3, k3, c3⟩ (uintB st) := ⟨rfl, hat, hk⟩
      clear hat hk ha
      have hS := After.refl w3d
      refine wpAnyH_all (rs := [14]) (by kernel_rfl) (by simp) (fun i hi => ?_)
      obtain rfl : i = 14 := by simpa using hi
      clear hi
      refine opCallA 14 19 70 #[.slice d.a d.n d.c] (fun v W => ∃ a k c, v = .slice a k c ∧ BytesAt W a (putD ds) ∧ (putD ds).length = k) rfl (by kernel_rfl) (by kernel_rfl) (fun _ => by kernel_rfl) hS (hput_k d.a d.n d.c ds HF.out.2.2.2.1.d32 HF.out.2.2.2.1.dn (by have := HF.out.2.2.1; omega) w3d (HF.out.2.2.2.1.deps.after (After.trans HRB.out.2 hAf))) ?_
      rintro v w4d ⟨a4, k4, c4, rfl, hat, hk⟩ ha
      have hAf := After.trans hAf ha
      have hB1 := hB1.after ha
      have hB0 := hB0.after ha
      have hB2 := hB2.after ha
      have hB3 := hB3.after ha
      have hB4 : BAt w4d (Sl.v ⟨a4, k4, c4⟩) ⟨a4, k4, c4⟩ (putD ds) := ⟨rfl, hat, hk⟩
      clear hat hk ha
      have hS := After.refl w4d
      refine wpAnyH_all (rs := [17]) (by kernel_rfl) (by simp) (fun i hi => ?_)
      obtain rfl : i = 17 := by simpa using hi
      clear hi
      refine opCallA 17 22 68 #[.string (strOf nt)] (fun v W => ∃ a k c, v = .slice a k c ∧ BytesAt W a (textB nt) ∧ (textB nt).length = k) rfl (by kernel_rfl) (by kernel_rfl) (fun _ => by kernel_rfl) hS (text_v nt HF.out.2.1 w4d) ?_
      rintro v w5d ⟨a5, k5, c5, rfl, hat, hk⟩ ha
      have hAf := After.trans hAf ha
      have hB1 := hB1.after ha
      have hB0 := hB0.after ha
      have hB2 := hB2.after ha
      have hB3 := hB3.after ha
      have hB4 := hB4.after ha
      have hB5 : BAt w5d (Sl.v ⟨a5, k5, c5⟩) ⟨a5, k5, c5⟩ (textB nt) := ⟨rfl, hat, hk⟩
      clear hat hk ha
      have hS := After.refl w5d
      refine wpAnyH_all (rs := [19]) (by kernel_rfl) (by simp) (fun i hi => ?_)
      obtain rfl : i = 19 := by simpa using hi
      clear hi
      have hBb := HF.out.2.2.2.2.after (After.trans HRB.out.2 hAf)
      have hL := ls7 hB0 hB1 hB2 hB3 hB4 hB5 hBb
      refine opNewA 19 24 (.slice (some ⟨w5d.heap.size, 0, none⟩) 7 7) _ rfl (by kernel_rfl) (by kernel_rfl) (x_bs125 (w := w5d) (x0 := .tmp 5) (x1 := .tmp 8) (x2 := .tmp 12) (x3 := .tmp 16) (x4 := .tmp 19) (x5 := .tmp 22) (x6 := .tmp 23) ⟨some ⟨g0, 0, none⟩, 1, 1⟩ ⟨a1, k1, c1⟩ ⟨a2, k2, c2⟩ ⟨a3, k3, c3⟩ ⟨a4, k4, c4⟩ ⟨a5, k5, c5⟩ b (by kernel_rfl) (by kernel_rfl) (by kernel_rfl) (by kernel_rfl) (by kernel_rfl) (by kernel_rfl) (by kernel_rfl) (by kernel_rfl)) hS ?_
      have hAg := after_alloc hAf (.cells #[Sl.v ⟨some ⟨g0, 0, none⟩, 1, 1⟩, Sl.v ⟨a1, k1, c1⟩, Sl.v ⟨a2, k2, c2⟩, Sl.v ⟨a3, k3, c3⟩, Sl.v ⟨a4, k4, c4⟩, Sl.v ⟨a5, k5, c5⟩, Sl.v b] 32)
      revert hL hAg
      generalize w5d.alloc (.cells #[Sl.v ⟨some ⟨g0, 0, none⟩, 1, 1⟩, Sl.v ⟨a1, k1, c1⟩, Sl.v ⟨a2, k2, c2⟩, Sl.v ⟨a3, k3, c3⟩, Sl.v ⟨a4, k4, c4⟩, Sl.v ⟨a5, k5, c5⟩, Sl.v b] 32) = wz
      generalize w5d.heap.size = gz
      intro hL hAg
      have hSz := After.refl wz
      refine wpAnyH_all (rs := [20]) (by kernel_rfl) (by simp) (fun i hi => ?_)
      obtain rfl : i = 20 := by simpa using hi
      clear hi
      refine opCallA 20 25 67 #[.slice (some ⟨gz, 0, none⟩) 7 7] (fun v W => Own W wz.heap.size v [[1], textB au, uintB sq, uintB st, putD ds, textB nt, B].flatten) rfl (by kernel_rfl) (by kernel_rfl) (fun _ => by kernel_rfl) hSz (concat_any gz 0 _ 7 7 rfl (by omega) HSZ.out wz hL) ?_
      intro v9 w9 ho ha
      have hS9 := After.refl w9
      refine tk 21 4 v9 (fuel := 0) rfl (by kernel_rfl) (by kernel_rfl) (by kernel_rfl) (by kernel_rfl) noPanic_false (by kernel_rfl) (fun _ _ => by kernel_rfl) hS9 ?_
      refine wpAnyH_done (by kernel_rfl) (NoPanic.normal ?_) _
      have hAF : After w w9 := After.trans HRB.out.2 (After.trans hAg ha)
      have hO : Own w9 w.heap.size v9 (layX au sq st ds nt B) := ho.mono (After.trans HRB.out.2 hAg).size
      clear hL hAg hSz ho ha hS9 hBb hB1 hB0 hB2 hB3 hB4 hB5
      go_simp
      go_wp2
      go_ret
      exact ⟨_, rfl, hO, hAF⟩
    · refine opCallA 7 12 69 #[.int .u64 (sq : Int)] (fun v W => ∃ a k c, v = .slice a k c ∧ BytesAt W a (uintB sq) ∧ (uintB sq).length = k) rfl (by kernel_rfl) (by kernel_rfl) (fun _ => by kernel_rfl) hS (uint_k sq (by omega) w1n) ?_
      rintro v w2n ⟨a2, k2, c2, rfl, hat, hk⟩ ha
      have hAf := After.trans hAf ha
      have hB1 := hB1.after ha
      have hB2 : BAt w2n (Sl.v ⟨a2, k2, c2⟩) ⟨a2, k2, c2⟩ (uintB sq) := ⟨rfl, hat, hk⟩
      clear hat hk ha
      have hS := After.refl w2n
      refine wpAnyH_all (rs := [0, 11]) (by kernel_rfl) (by simp) (fun i hi => ?_)
      have hi2 : i = 0 ∨ i = 11 := by simpa using hi
      clear hi
      rcases hi2 with rfl | rfl
      · refine opNewA 0 5 (.slice (some ⟨w2n.heap.size, 0, none⟩) 1 1) (.cells #[.int .u8 1] 5) rfl (by kernel_rfl) (by kernel_rfl) (x_bs32 (w := w2n) (by kernel_rfl)) hS ?_
        have ha := after_alloc (After.refl (w2n)) (.cells #[.int .u8 1] 5)
        have hat := bytes_1 (w2n)
        have hAf := After.trans hAf ha
        have hB1 := hB1.after ha
        have hB2 := hB2.after ha
        revert ha hat hAf hB1 hB2
        generalize (w2n).alloc (.cells #[.int .u8 1] 5) = z2
        generalize (w2n).heap.size = g0
        intro ha hat hAf hB1 hB2
        have hB0 : BAt z2 (Sl.v ⟨some ⟨g0, 0, none⟩, 1, 1⟩) ⟨some ⟨g0, 0, none⟩, 1, 1⟩ [1] := ⟨rfl, hat, rfl⟩
        clear ha hat
        have hS := After.refl z2
        refine wpAnyH_all (rs := [11]) (by kernel_rfl) (by simp) (fun i hi => ?_)
        obtain rfl : i = 11 := by simpa using hi
        clear hi
        refine opCallA 11 16 69 #[.int .u64 (st : Int)] (fun v W => ∃ a k c, v = .slice a k c ∧ BytesAt W a (uintB st) ∧ (uintB st).length = k) rfl (by kernel_rfl) (by kernel_rfl) (fun _ => by kernel_rfl) hS (uint_k st (by omega) z2) ?_
        rintro v w3d ⟨a3, k3, c3, rfl, hat, hk⟩ ha
        have hAf := After.trans hAf ha
        have hB1 := hB1.after ha
        have hB2 := hB2.after ha
        have hB0 := hB0.after ha
        have hB3 : BAt w3d (Sl.v ⟨a3, k3, c3⟩) ⟨a3, k3, c3⟩ (uintB st) := ⟨rfl, hat, hk⟩
        clear hat hk ha
        have hS := After.refl w3d
        refine wpAnyH_all (rs := [14]) (by kernel_rfl) (by simp) (fun i hi => ?_)
        obtain rfl : i = 14 := by simpa using hi
        clear hi
        refine opCallA 14 19 70 #[.slice d.a d.n d.c] (fun v W => ∃ a k c, v = .slice a k c ∧ BytesAt W a (putD ds) ∧ (putD ds).length = k) rfl (by kernel_rfl) (by kernel_rfl) (fun _ => by kernel_rfl) hS (hput_k d.a d.n d.c ds HF.out.2.2.2.1.d32 HF.out.2.2.2.1.dn (by have := HF.out.2.2.1; omega) w3d (HF.out.2.2.2.1.deps.after (After.trans HRB.out.2 hAf))) ?_
        rintro v w4d ⟨a4, k4, c4, rfl, hat, hk⟩ ha
        have hAf := After.trans hAf ha
        have hB1 := hB1.after ha
        have hB2 := hB2.after ha
        have hB0 := hB0.after ha
        have hB3 := hB3.after ha
        have hB4 : BAt w4d (Sl.v ⟨a4, k4, c4⟩) ⟨a4, k4, c4⟩ (putD ds) := ⟨rfl, hat, hk⟩
        clear hat hk ha
        have hS := After.refl w4d
        refine wpAnyH_all (rs := [17]) (by kernel_rfl) (by simp) (fun i hi => ?_)
        obtain rfl : i = 17 := by simpa using hi
        clear hi
        refine opCallA 17 22 68 #[.string (strOf nt)] (fun v W => ∃ a k c, v = .slice a k c ∧ BytesAt W a (textB nt) ∧ (textB nt).length = k) rfl (by kernel_rfl) (by kernel_rfl) (fun _ => by kernel_rfl) hS (text_v nt HF.out.2.1 w4d) ?_
        rintro v w5d ⟨a5, k5, c5, rfl, hat, hk⟩ ha
        have hAf := After.trans hAf ha
        have hB1 := hB1.after ha
        have hB2 := hB2.after ha
        have hB0 := hB0.after ha
        have hB3 := hB3.after ha
        have hB4 := hB4.after ha
        have hB5 : BAt w5d (Sl.v ⟨a5, k5, c5⟩) ⟨a5, k5, c5⟩ (textB nt) := ⟨rfl, hat, hk⟩
        clear hat hk ha
        have hS := After.refl w5d
        refine wpAnyH_all (rs := [19]) (by kernel_rfl) (by simp) (fun i hi => ?_)
        obtain rfl : i = 19 := by simpa using hi
        clear hi
        have hBb := HF.out.2.2.2.2.after (After.trans HRB.out.2 hAf)
        have hL := ls7 hB0 hB1 hB2 hB3 hB4 hB5 hBb
        refine opNewA 19 24 (.slice (some ⟨w5d.heap.size, 0, none⟩) 7 7) _ rfl (by kernel_rfl) (by kernel_rfl) (x_bs125 (w := w5d) (x0 := .tmp 5) (x1 := .tmp 8) (x2 := .tmp 12) (x3 := .tmp 16) (x4 := .tmp 19) (x5 := .tmp 22) (x6 := .tmp 23) ⟨some ⟨g0, 0, none⟩, 1, 1⟩ ⟨a1, k1, c1⟩ ⟨a2, k2, c2⟩ ⟨a3, k3, c3⟩ ⟨a4, k4, c4⟩ ⟨a5, k5, c5⟩ b (by kernel_rfl) (by kernel_rfl) (by kernel_rfl) (by kernel_rfl) (by kernel_rfl) (by kernel_rfl) (by kernel_rfl) (by kernel_rfl)) hS ?_
        have hAg := after_alloc hAf (.cells #[Sl.v ⟨some ⟨g0, 0, none⟩, 1, 1⟩, Sl.v ⟨a1, k1, c1⟩, Sl.v ⟨a2, k2, c2⟩, Sl.v ⟨a3, k3, c3⟩, Sl.v ⟨a4, k4, c4⟩, Sl.v ⟨a5, k5, c5⟩, Sl.v b] 32)
        revert hL hAg
        generalize w5d.alloc (.cells #[Sl.v ⟨some ⟨g0, 0, none⟩, 1, 1⟩, Sl.v ⟨a1, k1, c1⟩, Sl.v ⟨a2, k2, c2⟩, Sl.v ⟨a3, k3, c3⟩, Sl.v ⟨a4, k4, c4⟩, Sl.v ⟨a5, k5, c5⟩, Sl.v b] 32) = wz
        generalize w5d.heap.size = gz
        intro hL hAg
        have hSz := After.refl wz
        refine wpAnyH_all (rs := [20]) (by kernel_rfl) (by simp) (fun i hi => ?_)
        obtain rfl : i = 20 := by simpa using hi
        clear hi
        refine opCallA 20 25 67 #[.slice (some ⟨gz, 0, none⟩) 7 7] (fun v W => Own W wz.heap.size v [[1], textB au, uintB sq, uintB st, putD ds, textB nt, B].flatten) rfl (by kernel_rfl) (by kernel_rfl) (fun _ => by kernel_rfl) hSz (concat_any gz 0 _ 7 7 rfl (by omega) HSZ.out wz hL) ?_
        intro v9 w9 ho ha
        have hS9 := After.refl w9
        refine tk 21 4 v9 (fuel := 0) rfl (by kernel_rfl) (by kernel_rfl) (by kernel_rfl) (by kernel_rfl) noPanic_false (by kernel_rfl) (fun _ _ => by kernel_rfl) hS9 ?_
        refine wpAnyH_done (by kernel_rfl) (NoPanic.normal ?_) _
        have hAF : After w w9 := After.trans HRB.out.2 (After.trans hAg ha)
        have hO : Own w9 w.heap.size v9 (layX au sq st ds nt B) := ho.mono (After.trans HRB.out.2 hAg).size
        clear hL hAg hSz ho ha hS9 hBb hB1 hB2 hB0 hB3 hB4 hB5
        go_simp
        go_wp2
        go_ret
        exact ⟨_, rfl, hO, hAF⟩
      · refine opCallA 11 16 69 #[.int .u64 (st : Int)] (fun v W => ∃ a k c, v = .slice a k c ∧ BytesAt W a (uintB st) ∧ (uintB st).length = k) rfl (by kernel_rfl) (by kernel_rfl) (fun _ => by kernel_rfl) hS (uint_k st (by omega) w2n) ?_
        rintro v w3n ⟨a3, k3, c3, rfl, hat, hk⟩ ha
        have hAf := After.trans hAf ha
        have hB1 := hB1.after ha
        have hB2 := hB2.after ha
        have hB3 : BAt w3n (Sl.v ⟨a3, k3, c3⟩) ⟨a3, k3, c3⟩ (uintB st) := ⟨rfl, hat, hk⟩
        clear hat hk ha
        have hS := After.refl w3n
        refine wpAnyH_all (rs := [0, 14]) (by kernel_rfl) (by simp) (fun i hi => ?_)
        have hi2 : i = 0 ∨ i = 14 := by simpa using hi
        clear hi
        rcases hi2 with rfl | rfl
        · refine opNewA 0 5 (.slice (some ⟨w3n.heap.size, 0, none⟩) 1 1) (.cells #[.int .u8 1] 5) rfl (by kernel_rfl) (by kernel_rfl) (x_bs32 (w := w3n) (by kernel_rfl)) hS ?_
          have ha := after_alloc (After.refl (w3n)) (.cells #[.int .u8 1] 5)
          have hat := bytes_1 (w3n)
          have hAf := After.trans hAf ha
          have hB1 := hB1.after ha
          have hB2 := hB2.after ha
          have hB3 := hB3.after ha
          revert ha hat hAf hB1 hB2 hB3
          generalize (w3n).alloc (.cells #[.int .u8 1] 5) = z3
          generalize (w3n).heap.size = g0
          intro ha hat hAf hB1 hB2 hB3
          have hB0 : BAt z3 (Sl.v ⟨some ⟨g0, 0, none⟩, 1, 1⟩) ⟨some ⟨g0, 0, none⟩, 1, 1⟩ [1] := ⟨rfl, hat, rfl⟩
          clear ha hat
          have hS := After.refl z3
          refine wpAnyH_all (rs := [14]) (by kernel_rfl) (by simp) (fun i hi => ?_)
          obtain rfl : i = 14 := by simpa using hi
          clear hi
          refine opCallA 14 19 70 #[.slice d.a d.n d.c] (fun v W => ∃ a k c, v = .slice a k c ∧ BytesAt W a (putD ds) ∧ (putD ds).length = k) rfl (by kernel_rfl) (by kernel_rfl) (fun _ => by kernel_rfl) hS (hput_k d.a d.n d.c ds HF.out.2.2.2.1.d32 HF.out.2.2.2.1.dn (by have := HF.out.2.2.1; omega) z3 (HF.out.2.2.2.1.deps.after (After.trans HRB.out.2 hAf))) ?_
          rintro v w4d ⟨a4, k4, c4, rfl, hat, hk⟩ ha
          have hAf := After.trans hAf ha
          have hB1 := hB1.after ha
          have hB2 := hB2.after ha
          have hB3 := hB3.after ha
          have hB0 := hB0.after ha
          have hB4 : BAt w4d (Sl.v ⟨a4, k4, c4⟩) ⟨a4, k4, c4⟩ (putD ds) := ⟨rfl, hat, hk⟩
          clear hat hk ha
          have hS := After.refl w4d
          refine wpAnyH_all (rs := [17]) (by kernel_rfl) (by simp) (fun i hi => ?_)
          obtain rfl : i = 17 := by simpa using hi
          clear hi
          refine opCallA 17 22 68 #[.string (strOf nt)] (fun v W => ∃ a k c, v = .slice a k c ∧ BytesAt W a (textB nt) ∧ (textB nt).length = k) rfl (by kernel_rfl) (by kernel_rfl) (fun _ => by kernel_rfl) hS (text_v nt HF.out.2.1 w4d) ?_
          rintro v w5d ⟨a5, k5, c5, rfl, hat, hk⟩ ha
          have hAf := After.trans hAf ha
          have hB1 := hB1.after ha
          have hB2 := hB2.after ha
          have hB3 := hB3.after ha
          have hB0 := hB0.after ha
          have hB4 := hB4.after ha
          have hB5 : BAt w5d (Sl.v ⟨a5, k5, c5⟩) ⟨a5, k5, c5⟩ (textB nt) := ⟨rfl, hat, hk⟩
          clear hat hk ha
          have hS := After.refl w5d
          refine wpAnyH_all (rs := [19]) (by kernel_rfl) (by simp) (fun i hi => ?_)
          obtain rfl : i = 19 := by simpa using hi
          clear hi
          have hBb := HF.out.2.2.2.2.after (After.trans HRB.out.2 hAf)
          have hL := ls7 hB0 hB1 hB2 hB3 hB4 hB5 hBb
          refine opNewA 19 24 (.slice (some ⟨w5d.heap.size, 0, none⟩) 7 7) _ rfl (by kernel_rfl) (by kernel_rfl) (x_bs125 (w := w5d) (x0 := .tmp 5) (x1 := .tmp 8) (x2 := .tmp 12) (x3 := .tmp 16) (x4 := .tmp 19) (x5 := .tmp 22) (x6 := .tmp 23) ⟨some ⟨g0, 0, none⟩, 1, 1⟩ ⟨a1, k1, c1⟩ ⟨a2, k2, c2⟩ ⟨a3, k3, c3⟩ ⟨a4, k4, c4⟩ ⟨a5, k5, c5⟩ b (by kernel_rfl) (by kernel_rfl) (by kernel_rfl) (by kernel_rfl) (by kernel_rfl) (by kernel_rfl) (by kernel_rfl) (by kernel_rfl)) hS ?_
          have hAg := after_alloc hAf (.cells #[Sl.v ⟨some ⟨g0, 0, none⟩, 1, 1⟩, Sl.v ⟨a1, k1, c1⟩, Sl.v ⟨a2, k2, c2⟩, Sl.v ⟨a3, k3, c3⟩, Sl.v ⟨a4, k4, c4⟩, Sl.v ⟨a5, k5, c5⟩, Sl.v b] 32)
          revert hL hAg
          generalize w5d.alloc (.cells #[Sl.v ⟨some ⟨g0, 0, none⟩, 1, 1⟩, Sl.v ⟨a1, k1, c1⟩, Sl.v ⟨a2, k2, c2⟩, Sl.v ⟨a3, k3, c3⟩, Sl.v ⟨a4, k4, c4⟩, Sl.v ⟨a5, k5, c5⟩, Sl.v b] 32) = wz
          generalize w5d.heap.size = gz
          intro hL hAg
          have hSz := After.refl wz
          refine wpAnyH_all (rs := [20]) (by kernel_rfl) (by simp) (fun i hi => ?_)
          obtain rfl : i = 20 := by simpa using hi
          clear hi
          refine opCallA 20 25 67 #[.slice (some ⟨gz, 0, none⟩) 7 7] (fun v W => Own W wz.heap.size v [[1], textB au, uintB sq, uintB st, putD ds, textB nt, B].flatten) rfl (by kernel_rfl) (by kernel_rfl) (fun _ => by kernel_rfl) hSz (concat_any gz 0 _ 7 7 rfl (by omega) HSZ.out wz hL) ?_
          intro v9 w9 ho ha
          have hS9 := After.refl w9
          refine tk 21 4 v9 (fuel := 0) rfl (by kernel_rfl) (by kernel_rfl) (by kernel_rfl) (by kernel_rfl) noPanic_false (by kernel_rfl) (fun _ _ => by kernel_rfl) hS9 ?_
          refine wpAnyH_done (by kernel_rfl) (NoPanic.normal ?_) _
          have hAF : After w w9 := After.trans HRB.out.2 (After.trans hAg ha)
          have hO : Own w9 w.heap.size v9 (layX au sq st ds nt B) := ho.mono (After.trans HRB.out.2 hAg).size
          clear hL hAg hSz ho ha hS9 hBb hB1 hB2 hB3 hB0 hB4 hB5
          go_simp
          go_wp2
          go_ret
          exact ⟨_, rfl, hO, hAF⟩
        · refine opCallA 14 19 70 #[.slice d.a d.n d.c] (fun v W => ∃ a k c, v = .slice a k c ∧ BytesAt W a (putD ds) ∧ (putD ds).length = k) rfl (by kernel_rfl) (by kernel_rfl) (fun _ => by kernel_rfl) hS (hput_k d.a d.n d.c ds HF.out.2.2.2.1.d32 HF.out.2.2.2.1.dn (by have := HF.out.2.2.1; omega) w3n (HF.out.2.2.2.1.deps.after (After.trans HRB.out.2 hAf))) ?_
          rintro v w4n ⟨a4, k4, c4, rfl, hat, hk⟩ ha
          have hAf := After.trans hAf ha
          have hB1 := hB1.after ha
          have hB2 := hB2.after ha
          have hB3 := hB3.after ha
          have hB4 : BAt w4n (Sl.v ⟨a4, k4, c4⟩) ⟨a4, k4, c4⟩ (putD ds) := ⟨rfl, hat, hk⟩
          clear hat hk ha
          have hS := After.refl w4n
          refine wpAnyH_all (rs := [0, 17]) (by kernel_rfl) (by simp) (fun i hi => ?_)
          have hi2 : i = 0 ∨ i = 17 := by simpa using hi
          clear hi
          rcases hi2 with rfl | rfl
          · refine opNewA 0 5 (.slice (some ⟨w4n.heap.size, 0, none⟩) 1 1) (.cells #[.int .u8 1] 5) rfl (by kernel_rfl) (by kernel_rfl) (x_bs32 (w := w4n) (by kernel_rfl)) hS ?_
            have ha := after_alloc (After.refl (w4n)) (.cells #[.int .u8 1] 5)
            have hat := bytes_1 (w4n)
            have hAf := After.trans hAf ha
            have hB1 := hB1.after ha
            have hB2 := hB2.after ha
            have hB3 := hB3.after ha
            have hB4 := hB4.after ha
            revert ha hat hAf hB1 hB2 hB3 hB4
            generalize (w4n).alloc (.cells #[.int .u8 1] 5) = z4
            generalize (w4n).heap.size = g0
            intro ha hat hAf hB1 hB2 hB3 hB4
            have hB0 : BAt z4 (Sl.v ⟨some ⟨g0, 0, none⟩, 1, 1⟩) ⟨some ⟨g0, 0, none⟩, 1, 1⟩ [1] := ⟨rfl, hat, rfl⟩
            clear ha hat
            have hS := After.refl z4
            refine wpAnyH_all (rs := [17]) (by kernel_rfl) (by simp) (fun i hi => ?_)
            obtain rfl : i = 17 := by simpa using hi
            clear hi
            refine opCallA 17 22 68 #[.string (strOf nt)] (fun v W => ∃ a k c, v = .slice a k c ∧ BytesAt W a (textB nt) ∧ (textB nt).length = k) rfl (by kernel_rfl) (by kernel_rfl) (fun _ => by kernel_rfl) hS (text_v nt HF.out.2.1 z4) ?_
            rintro v w5d ⟨a5, k5, c5, rfl, hat, hk⟩ ha
            have hAf := After.trans hAf ha
            have hB1 := hB1.after ha
            have hB2 := hB2.after ha
            have hB3 := hB3.after ha
            have hB4 := hB4.after ha
            have hB0 := hB0.after ha
            have hB5 : BAt w5d (Sl.v ⟨a5, k5, c5⟩) ⟨a5, k5, c5⟩ (textB nt) := ⟨rfl, hat, hk⟩
            clear hat hk ha
            have hS := After.refl w5d
            refine wpAnyH_all (rs := [19]) (by kernel_rfl) (by simp) (fun i hi => ?_)
            obtain rfl : i = 19 := by simpa using hi
            clear hi
            have hBb := HF.out.2.2.2.2.after (After.trans HRB.out.2 hAf)
            have hL := ls7 hB0 hB1 hB2 hB3 hB4 hB5 hBb
            refine opNewA 19 24 (.slice (some ⟨w5d.heap.size, 0, none⟩) 7 7) _ rfl (by kernel_rfl) (by kernel_rfl) (x_bs125 (w := w5d) (x0 := .tmp 5) (x1 := .tmp 8) (x2 := .tmp 12) (x3 := .tmp 16) (x4 := .tmp 19) (x5 := .tmp 22) (x6 := .tmp 23) ⟨some ⟨g0, 0, none⟩, 1, 1⟩ ⟨a1, k1, c1⟩ ⟨a2, k2, c2⟩ ⟨a3, k3, c3⟩ ⟨a4, k4, c4⟩ ⟨a5, k5, c5⟩ b (by kernel_rfl) (by kernel_rfl) (by kernel_rfl) (by kernel_rfl) (by kernel_rfl) (by kernel_rfl) (by kernel_rfl) (by kernel_rfl)) hS ?_
            have hAg := after_alloc hAf (.cells #[Sl.v ⟨some ⟨g0, 0, none⟩, 1, 1⟩, Sl.v ⟨a1, k1, c1⟩, Sl.v ⟨a2, k2, c2⟩, Sl.v ⟨a3, k3, c3⟩, Sl.v ⟨a4, k4, c4⟩, Sl.v ⟨a5, k5, c5⟩, Sl.v b] 32)
            revert hL hAg
            generalize w5d.alloc (.cells #[Sl.v ⟨some ⟨g0, 0, none⟩, 1, 1⟩, Sl.v ⟨a1, k1, c1⟩, Sl.v ⟨a2, k2, c2⟩, Sl.v ⟨a3, k3, c3⟩, Sl.v ⟨a4, k4, c4⟩, Sl.v ⟨a5, k5, c5⟩, Sl.v b] 32) = wz
            generalize w5d.heap.size = gz
            intro hL hAg
            have hSz := After.refl wz
            refine wpAnyH_all (rs := [20]) (by kernel_rfl) (by simp) (fun i hi => ?_)
            obtain rfl : i = 20 := by simpa using hi
            clear hi
            refine opCallA 20 25 67 #[.slice (some ⟨gz, 0, none⟩) 7 7] (fun v W => Own W wz.heap.size v [[1], textB au, uintB sq, uintB st, putD ds, textB nt, B].flatten) rfl (by kernel_rfl) (by kernel_rfl) (fun _ => by kernel_rfl) hSz (concat_any gz 0 _ 7 7 rfl (by omega) HSZ.out wz hL) ?_
            intro v9 w9 ho ha
            have hS9 := After.refl w9
            refine tk 21 4 v9 (fuel := 0) rfl (by kernel_rfl) (by kernel_rfl) (by kernel_rfl) (by kernel_rfl) noPanic_false (by kernel_rfl) (fun _ _ => by kernel_rfl) hS9 ?_
            refine wpAnyH_done (by kernel_rfl) (NoPanic.normal ?_) _
            have hAF : After w w9 := After.trans HRB.out.2 (After.trans hAg ha)
            have hO : Own w9 w.heap.size v9 (layX au sq st ds nt B) := ho.mono (After.trans HRB.out.2 hAg).size
            clear hL hAg hSz ho ha hS9 hBb hB1 hB2 hB3 hB4 hB0 hB5
            go_simp
            go_wp2
            go_ret
            exact ⟨_, rfl, hO, hAF⟩
          · refine opCallA 17 22 68 #[.string (strOf nt)] (fun v W => ∃ a k c, v = .slice a k c ∧ BytesAt W a (textB nt) ∧ (textB nt).length = k) rfl (by kernel_rfl) (by kernel_rfl) (fun _ => by kernel_rfl) hS (text_v nt HF.out.2.1 w4n) ?_
            rintro v w5n ⟨a5, k5, c5, rfl, hat, hk⟩ ha
            have hAf := After.trans hAf ha
            have hB1 := hB1.after ha
            have hB2 := hB2.after ha
            have hB3 := hB3.after ha
            have hB4 := hB4.after ha
            have hB5 : BAt w5n (Sl.v ⟨a5, k5, c5⟩) ⟨a5, k5, c5⟩ (textB nt) := ⟨rfl, hat, hk⟩
            clear hat hk ha
            have hS := After.refl w5n
            refine wpAnyH_all (rs := [0]) (by kernel_rfl) (by simp) (fun i hi => ?_)
            obtain rfl : i = 0 := by simpa using hi
            clear hi
            refine opNewA 0 5 (.slice (some ⟨w5n.heap.size, 0, none⟩) 1 1) (.cells #[.int .u8 1] 5) rfl (by kernel_rfl) (by kernel_rfl) (x_bs32 (w := w5n) (by kernel_rfl)) hS ?_
            have ha := after_alloc (After.refl (w5n)) (.cells #[.int .u8 1] 5)
            have hat := bytes_1 (w5n)
            have hAf := After.trans hAf ha
            have hB1 := hB1.after ha
            have hB2 := hB2.after ha
            have hB3 := hB3.after ha
            have hB4 := hB4.after ha
            have hB5 := hB5.after ha
            revert ha hat hAf hB1 hB2 hB3 hB4 hB5
            generalize (w5n).alloc (.cells #[.int .u8 1] 5) = z5
            generalize (w5n).heap.size = g0
            intro ha hat hAf hB1 hB2 hB3 hB4 hB5
            have hB0 : BAt z5 (Sl.v ⟨some ⟨g0, 0, none⟩, 1, 1⟩) ⟨some ⟨g0, 0, none⟩, 1, 1⟩ [1] := ⟨rfl, hat, rfl⟩
            clear ha hat
            have hS := After.refl z5
            refine wpAnyH_all (rs := [19]) (by kernel_rfl) (by simp) (fun i hi => ?_)
            obtain rfl : i = 19 := by simpa using hi
            clear hi
            have hBb := HF.out.2.2.2.2.after (After.trans HRB.out.2 hAf)
            have hL := ls7 hB0 hB1 hB2 hB3 hB4 hB5 hBb
            refine opNewA 19 24 (.slice (some ⟨z5.heap.size, 0, none⟩) 7 7) _ rfl (by kernel_rfl) (by kernel_rfl) (x_bs125 (w := z5) (x0 := .tmp 5) (x1 := .tmp 8) (x2 := .tmp 12) (x3 := .tmp 16) (x4 := .tmp 19) (x5 := .tmp 22) (x6 := .tmp 23) ⟨some ⟨g0, 0, none⟩, 1, 1⟩ ⟨a1, k1, c1⟩ ⟨a2, k2, c2⟩ ⟨a3, k3, c3⟩ ⟨a4, k4, c4⟩ ⟨a5, k5, c5⟩ b (by kernel_rfl) (by kernel_rfl) (by kernel_rfl) (by kernel_rfl) (by kernel_rfl) (by kernel_rfl) (by kernel_rfl) (by kernel_rfl)) hS ?_
            have hAg := after_alloc hAf (.cells #[Sl.v ⟨some ⟨g0, 0, none⟩, 1, 1⟩, Sl.v ⟨a1, k1, c1⟩, Sl.v ⟨a2, k2, c2⟩, Sl.v ⟨a3, k3, c3⟩, Sl.v ⟨a4, k4, c4⟩, Sl.v ⟨a5, k5, c5⟩, Sl.v b] 32)
            revert hL hAg
            generalize z5.alloc (.cells #[Sl.v ⟨some ⟨g0, 0, none⟩, 1, 1⟩, Sl.v ⟨a1, k1, c1⟩, Sl.v ⟨a2, k2, c2⟩, Sl.v ⟨a3, k3, c3⟩, Sl.v ⟨a4, k4, c4⟩, Sl.v ⟨a5, k5, c5⟩, Sl.v b] 32) = wz
            generalize z5.heap.size = gz
            intro hL hAg
            have hSz := After.refl wz
            refine wpAnyH_all (rs := [20]) (by kernel_rfl) (by simp) (fun i hi => ?_)
            obtain rfl : i = 20 := by simpa using hi
            clear hi
            refine opCallA 20 25 67 #[.slice (some ⟨gz, 0, none⟩) 7 7] (fun v W => Own W wz.heap.size v [[1], textB au, uintB sq, uintB st, putD ds, textB nt, B].flatten) rfl (by kernel_rfl) (by kernel_rfl) (fun _ => by kernel_rfl) hSz (concat_any gz 0 _ 7 7 rfl (by omega) HSZ.out wz hL) ?_
            intro v9 w9 ho ha
            have hS9 := After.refl w9
            refine tk 21 4 v9 (fuel := 0) rfl (by kernel_rfl) (by kernel_rfl) (by kernel_rfl) (by kernel_rfl) noPanic_false (by kernel_rfl) (fun _ _ => by kernel_rfl) hS9 ?_
            refine wpAnyH_done (by kernel_rfl) (NoPanic.normal ?_) _
            have hAF : After w w9 := After.trans HRB.out.2 (After.trans hAg ha)
            have hO : Own w9 w.heap.size v9 (layX au sq st ds nt B) := ho.mono (After.trans HRB.out.2 hAg).size
            clear hL hAg hSz ho ha hS9 hBb hB1 hB2 hB3 hB4 hB5 hB0
            go_simp
            go_wp2
            go_ret
            exact ⟨_, rfl, hO, hAF⟩
end Go.Proofs.YtgmdolpjkaajfaaGreatDoor
