/-
  VALUES OF SINGLE OPERATIONS OF frame.read's LAST REGIONS; a region that may give up.
-/
import Derived.Test.YtjmjianilcdphaaReadBad
namespace Go.Proofs.Ytjmjianilcdphaa
open Go.RowKit Leb
section
variable {o : Oper} {a : Act} {x y z : Operand} {w : World}
theorem slice_lohi (b off len cap lo hi : Nat) (h1 : lo ≤ hi) (h2 : hi ≤ cap) (h3 : lo < cap) (W : World) : (Instr.sliceAt 22 (.slice (some ⟨b, off, none⟩) len cap) (some (.int .i64 (lo : Int))) (some (.int .i64 (hi : Int))) none).run Try.prog W = .ok (.slice (some ⟨b, off + lo, none⟩) (hi - lo) (cap - lo)) W := by
  obtain ⟨i, hi', hz⟩ := Option.map_eq_some_iff.1 bytes5
  simp only [Prod.mk.injEq] at hz
  have h3' : ¬ cap = lo := by omega
  simp [Instr.sliceAt, Instr.slice, run_underlying Try.underlying22, Instr.sliceBounds, Instr.sliceBound, asIntOf, sizeOf, typeInfo, hi', hz.2.1, h2, h1, h3', Addr.add]
theorem x_lohi {b off len cap lo hi : Nat} (hop : o.op = .slice 22 x (some y) (some z) none) (hx : a.eval x = .slice (some ⟨b, off, none⟩) len cap) (hy : a.eval y = .int .i64 (lo : Int)) (hz : a.eval z = .int .i64 (hi : Int)) (h1 : lo ≤ hi) (h2 : hi ≤ cap) (h3 : lo < cap) : (execOp a.eval o).run Try.prog w = .ok (.value (.slice (some ⟨b, off + lo, none⟩) (hi - lo) (cap - lo))) w := by
  unfold execOp
  simp only [hop, hx, hy, hz, Option.map, Sem.run_bind, slice_lohi b off len cap lo hi h1 h2 h3 w, Result.andThen_ok]
  rfl
theorem x_arr {b off len cap : Nat} (hop : o.op = .sliceToArrayPointer 69 x) (hx : a.eval x = .slice (some ⟨b, off, none⟩) len cap) (h : 4 ≤ len) : (execOp a.eval o).run Try.prog w = .ok (.value (.pointer (some ⟨b, off, none⟩))) w := by
  unfold execOp
  simp only [hop, hx]
  simp [go_sem, Instr.arrayAt, run_underlying Try.underlying69]
  exact h
theorem x_load69 {b off : Nat} {v0 v1 v2 v3 : Value} (hop : o.op = .load 69 x) (hx : a.eval x = .pointer (some ⟨b, off, none⟩)) (h0 : w.cell? ⟨b, off, none⟩ = some v0) (h1 : w.cell? ⟨b, off + 1, none⟩ = some v1) (h2 : w.cell? ⟨b, off + 2, none⟩ = some v2) (h3 : w.cell? ⟨b, off + 3, none⟩ = some v3) : (execOp a.eval o).run Try.prog w = .ok (.value (.agg #[v0, v1, v2, v3])) w := by
  unfold execOp
  simp only [hop, hx]
  simp [go_sem, h0, h1, h2, h3]
theorem x_index22 {b off len cap : Nat} (hop : o.op = .indexAddr 22 x y) (hx : a.eval x = .slice (some ⟨b, off, none⟩) len cap) (hy : a.eval y = .int .i64 0) (h : 0 < len) : (execOp a.eval o).run Try.prog w = .ok (.value (.pointer (some ⟨b, off, none⟩))) w := by
  obtain ⟨i, hi', hz⟩ := Option.map_eq_some_iff.1 bytes5
  simp only [Prod.mk.injEq] at hz
  unfold execOp
  simp only [hop, hx, hy]
  simp [go_sem, hi', h, sizeOf, typeInfo, Addr.add]
theorem x_load5 {g p : Nat} {v : Value} (hop : o.op = .load 5 x) (hx : a.eval x = .pointer (some ⟨g, p, none⟩)) (hc : w.cell? ⟨g, p, none⟩ = some v) : (execOp a.eval o).run Try.prog w = .ok (.value v) w := by
  unfold execOp
  simp only [hop, hx]
  simp [go_sem, hc]
theorem x_add4 {n : Nat} (hop : o.op = .binOp .add 3 x y 3) (hx : a.eval x = .int .i64 (n : Int)) (hy : a.eval y = .int .i64 4) (hn : n ≤ 281474976710656) : (execOp a.eval o).run Try.prog w = .ok (.value (.int .i64 ((n + 4 : Nat) : Int))) w := by
  unfold execOp
  simp only [hop, hx, hy]
  have e : IntKind.i64.wrap ((n : Int) + 4) = (n : Int) + 4 := by
    simp [IntKind.wrap, IntKind.bits, IntKind.signed]
    split <;> omega
  simp [go_sem, e]
theorem eq69 (p q : List UInt8) (hp : p.length = 4) (hq : q.length = 4) (w : World) : (Op.equalIn 10000 69 (.agg (c8 p).toArray) (.agg (c8 q).toArray)).run Try.prog w = .ok (decide (p = q)) w := by
  obtain ⟨i, hi, hz⟩ := Option.map_eq_some_iff.1 info5
  have h := run_equalIn_array (P := Try.prog) w 9999 (c8 p).toArray (c8 q).toArray Try.underlying69 hi
  rw [cells5', eqItems5 9998 p q w (List.range 4) (fun i hi => by simp at hi; omega)] at h
  rw [show (10000 : Nat) = 9999 + 1 from rfl, h]
  congr 1
  rw [Bool.eq_iff_iff, decide_eq_true_iff, List.all_eq_true]
  constructor
  · intro hall
    apply List.ext_getElem (by omega)
    intro i h1 h2
    have := hall i (by simp; omega)
    simp [h1, h2] at this
    exact this
  · intro he; subst he; simp
theorem x_neq69 {p q : List UInt8} (hop : o.op = .binOp .neq 69 x y 69) (hx : a.eval x = .agg (c8 p).toArray) (hy : a.eval y = .agg (c8 q).toArray) (hp : p.length = 4) (hq : q.length = 4) : (execOp a.eval o).run Try.prog w = .ok (.value (.bool (!decide (p = q)))) w := by
  unfold execOp
  simp only [hop, hx, hy]
  have h := eq69 p q hp hq w
  simp [go_sem, h]
end
section
variable {o : Oper} {a : Act} {x y z : Operand} {w : World}
theorem x_neq69t {p q : List UInt8} (hop : o.op = .binOp .neq 69 x y 69) (hx : a.eval x = .agg (c8 p).toArray) (hy : a.eval y = .agg (c8 q).toArray) (hp : p.length = 4) (hq : q.length = 4) (h : ¬ p = q) : (execOp a.eval o).run Try.prog w = .ok (.value (.bool true)) w := by
  have := x_neq69 (w := w) hop hx hy hp hq
  rwa [decide_eq_false h] at this
theorem x_neq69f {p q : List UInt8} (hop : o.op = .binOp .neq 69 x y 69) (hx : a.eval x = .agg (c8 p).toArray) (hy : a.eval y = .agg (c8 q).toArray) (hp : p.length = 4) (hq : q.length = 4) (h : p = q) : (execOp a.eval o).run Try.prog w = .ok (.value (.bool false)) w := by
  have := x_neq69 (w := w) hop hx hy hp hq
  rwa [decide_eq_true h] at this
end
theorem Own.keep {w w' : World} {B : Nat} {v : Value} {l : List UInt8} (h : Own w B v l) (hk : ∀ k, v.ownBlock = some k → w'.heap[k]? = w.heap[k]?) : Own w' B v l := by
  refine ⟨h.1, ?_⟩
  rcases h.2 with hn | ⟨g, cap, cur, rfl, h1, h2, rest⟩
  · exact .inl hn
  · exact .inr ⟨g, cap, cur, rfl, h1, by rw [hk g rfl]; exact h2, rest⟩
theorem size33 : (Try.prog.info? 33).map (·.size) = some 2 := by kernel_rfl
/-- Q, but at a panic R of the chain and the world alone. -/
def Pan (Q : Exit → Act → World → Prop) (R : List PanicEntry → World → Prop) : Exit → Act → World → Prop
  | .panic c, a, w => a.defers = [] ∧ R c w
  | e, a, w => Q e a w
theorem Pan.normal {Q : Exit → Act → World → Prop} {R : List PanicEntry → World → Prop} {a : Act} {w : World} (h : Q .normal a w) : Pan Q R .normal a w := h
theorem wp_region_pan {P : Program} {id : Nat} {ops : Array Oper} {b : Bool} {Q : Exit → Act → World → Prop} {R : List PanicEntry → World → Prop} {a : Act} {w : World} (hR : ∀ c a w, a.defers = [] → R c w → Q (.panic c) a w) (h : (Code.region id ops b).wp P (Pan Q R) a w) : (Code.region id ops b).wp P Q a w :=
  Code.wp_mono (fun e a w h => by cases e <;> first | exact hR _ _ _ h.1 h.2 | exact h) h
section
variable {ops : Array Oper} {Q : Exit → Act → World → Prop} {R : List PanicEntry → World → Prop} {S : World → Prop} {fuel : Nat} {listed : Array Bool} {a : Act} {w W : World} {oi : Oper}
theorem put_defers (a : Act) (d : Option Nat) (v : Value) : (a.put d v).defers = a.defers := by cases d <;> rfl
/-- Number i is taken first: it yields v, into slot d. -/
theorem tkP (i d : Nat) (v : Value) (hi : ops[i]? = some oi) (hd : oi.dst = some d) (hs : Region.noSelect ops = true) (hf : Region.free .any ops listed i = true) (hr : (Region.ready .any ops listed).contains i = true)
    (hw : Region.wanted oi (yielded ops a.tmps) = true) (hx : ∀ w, S w → (execOp a.eval oi).run Try.prog w = .ok (.value v) w) (hS : S w)
    (h : wpAnyH Try.prog .any ops (Pan Q R) S fuel (listed.setIfInBounds i true) (a.put (some d) v) w) : wpAnyH Try.prog .any ops (Pan Q R) S (fuel + 1) listed a w :=
  wpAnyH_take hi hs hf hr (fun c a w h => ⟨by have := h.1; rwa [put_defers] at this, h.2⟩) (.inl ⟨hw, hx⟩) hS (by rw [hd]; exact h)
/-- Number i, which alone may come up, is a call that panics. -/
theorem tkPanic (i : Nat) (f : FuncId) (args : Array Value) (c : List PanicEntry) (hi : ops[i]? = some oi) (hr : Region.ready .any ops listed = [i])
    (hw : Region.wanted oi (yielded ops a.tmps) = true) (hrun : ∀ w, (execOp a.eval oi).run Try.prog w = .ok (.enter f args) w)
    (hc : Calls Try.prog f args w fun e w' => e = .panicked c ∧ w' = w) (h : Q (.panic c) a w) : wpAnyH Try.prog .any ops Q S (fuel + 1) listed a w :=
  wpAnyH_all hr (by simp) (fun j hj => by
    obtain rfl : j = i := by simpa using hj
    refine wpOp_step hi (fun K' hK => ?_)
    rw [if_pos hw]
    unfold Oper.wp
    rw [hrun, Oper.upon_enter]
    refine hc.mono (fun e w' ⟨he, hw'⟩ => ?_)
    subst he hw'
    exact h)
/-- Number i, which alone may come up, is a call, by its contract; what was kept is kept. -/
theorem tkCallK (i d : Nat) (f : FuncId) (args : Array Value) (R : Value → World → Prop) (hi : ops[i]? = some oi) (hd : oi.dst = some d) (hr : Region.ready .any ops listed = [i])
    (hw : Region.wanted oi (yielded ops a.tmps) = true) (hrun : ∀ w, (execOp a.eval oi).run Try.prog w = .ok (.enter f args) w) (hS : After W w)
    (hc : Calls Try.prog f args w fun e w' => ∃ v, e = .returned v ∧ R v w' ∧ After w w')
    (h : ∀ v w', R v w' → After w w' → After W w' → wpAnyH Try.prog .any ops Q (After W) fuel (listed.setIfInBounds i true) (a.put (some d) v) w') : wpAnyH Try.prog .any ops Q (After W) (fuel + 1) listed a w :=
  wpAnyH_all hr (by simp) (fun j hj => by
    obtain rfl : j = i := by simpa using hj
    refine wpOp_step hi (fun K' hK => ?_)
    rw [if_pos hw]
    unfold Oper.wp
    rw [hrun, Oper.upon_enter]
    refine hc.mono (fun e w' ⟨v, he, hr, hb⟩ => ?_)
    subst he
    rw [hd]
    exact hK _ _ ⟨hS.trans hb, h v w' hr hb (hS.trans hb)⟩)
/-- Number i, which alone may come up, stores a whole row. -/
theorem tkStore (i : Nat) (g : Nat) (ty : TypeId) (x y : Operand) (cells old : Array Value) (t : TypeId) (hi : ops[i]? = some oi) (hd : oi.dst = none) (ho : oi.op = .store ty x y) (hr : Region.ready .any ops listed = [i])
    (hw : Region.wanted oi (yielded ops a.tmps) = true) (hx : a.eval x = .pointer (some ⟨g, 0, none⟩)) (hy : a.eval y = .agg cells) (hg : w.heap[g]? = some (.cells old t (0, 0))) (hz : (Try.prog.info? ty).map (·.size) = some cells.size)
    (hold : old.size = cells.size) (h1 : cells.all (·.oneCell') = true) (hS : S (w.setRow g cells))
    (h : wpAnyH Try.prog .any ops Q S fuel (listed.setIfInBounds i true) (a.put none undef) (w.setRow g cells)) : wpAnyH Try.prog .any ops Q S (fuel + 1) listed a w :=
  wpAnyH_all hr (by simp) (fun j hj => by
    obtain rfl : j = i := by simpa using hj
    refine wpOp_step hi (fun K' hK => ?_)
    rw [if_pos hw]
    refine wp_store_row ty x y ho g cells hx hy t old hg hz hold h1 ?_
    rw [hd]
    exact hK _ _ ⟨hS, h⟩)
end
end Go.Proofs.Ytjmjianilcdphaa
