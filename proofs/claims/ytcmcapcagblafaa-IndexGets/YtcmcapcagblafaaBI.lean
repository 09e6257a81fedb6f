/-
  THE REFERENCE'S put (43).
-/
import Derived.Test.YtcmcapcagblafaaBH
namespace Go.Proofs.Ytcmcapcagblafaa
open Go.RowKit Dsk
attribute [local go_sem] Oper.semAt_some
/-- A reference's table: branches in a row. -/
structure RT (W : World) (a : Option Addr) (n c : Nat) (X : List Bx) : Prop where
  at_ : BsAt W a X
  len : X.length = n
  cap : n ≤ c
  z : a = none → c = 0
theorem RT.after {W W' : World} {a : Option Addr} {n c : Nat} {X : List Bx} (h : RT W a n c X) (ha : After W W') : RT W' a n c X := ⟨h.at_.after ha, h.len, h.cap, h.z⟩
def cut25 (ao : Option Addr) (k c : Nat) : Option Addr := if c = k then ao else ao.map fun a => a.add (k * 2)
theorem info48s : (Try.prog.info? 65).map (·.size) = some 2 := by kernel_rfl
theorem sl25_hi (ao : Option Addr) (n c k : Nat) (hk : k ≤ c) (hz : ao = none → c = 0) (W : World) : (Instr.sliceAt 38 (.slice ao n c) none (some (.int .i64 (k : Int))) none).run Try.prog W = .ok (.slice ao k c) W := by
  obtain ⟨i, hi', hsz⟩ := Option.map_eq_some_iff.1 info48s
  cases ao with
  | none =>
    obtain rfl : c = 0 := hz rfl
    obtain rfl : k = 0 := by omega
    simp [Instr.sliceAt, Instr.slice, run_underlying Try.underlying38, Instr.sliceBounds, Instr.sliceBound, asIntOf, sizeOf, typeInfo, hi']
  | some a =>
    by_cases h0 : c = 0
    · obtain rfl : k = 0 := by omega
      simp [Instr.sliceAt, Instr.slice, run_underlying Try.underlying38, Instr.sliceBounds, Instr.sliceBound, asIntOf, sizeOf, typeInfo, hi', h0]
    · simp [Instr.sliceAt, Instr.slice, run_underlying Try.underlying38, Instr.sliceBounds, Instr.sliceBound, asIntOf, sizeOf, typeInfo, hi', hk, Addr.add]
theorem sl25_lo (ao : Option Addr) (n c k : Nat) (hn : n ≤ c) (hk : k ≤ n) (hz : ao = none → c = 0) (W : World) : (Instr.sliceAt 38 (.slice ao n c) (some (.int .i64 (k : Int))) none none).run Try.prog W = .ok (.slice (cut25 ao k c) (n - k) (c - k)) W := by
  obtain ⟨i, hi', hsz⟩ := Option.map_eq_some_iff.1 info48s
  cases ao with
  | none =>
    obtain rfl : c = 0 := hz rfl
    obtain rfl : n = 0 := by omega
    obtain rfl : k = 0 := by omega
    simp [Instr.sliceAt, Instr.slice, run_underlying Try.underlying38, Instr.sliceBounds, Instr.sliceBound, asIntOf, sizeOf, typeInfo, hi', cut25]
  | some a =>
    by_cases h : c = k
    · simp [Instr.sliceAt, Instr.slice, run_underlying Try.underlying38, Instr.sliceBounds, Instr.sliceBound, asIntOf, sizeOf, typeInfo, hi', hsz, cut25, h]
      intro h2; omega
    · simp [Instr.sliceAt, Instr.slice, run_underlying Try.underlying38, Instr.sliceBounds, Instr.sliceBound, asIntOf, sizeOf, typeInfo, hi', hsz, cut25, h, hk]
section
variable {oi : Oper} {a : Act} {w : World}
theorem x_sl25h {x y : Operand} {ao : Option Addr} {n c k : Nat} (hop : oi.op = .slice 38 x none (some y) none) (hx : a.eval x = .slice ao n c) (hy : a.eval y = .int .i64 (k : Int)) (hk : k ≤ c) (hz : ao = none → c = 0) : (execOp a.eval oi).run Try.prog w = .ok (.value (.slice ao k c)) w := by
  unfold execOp
  simp only [hop, hx, hy, Option.map, Sem.run_bind, sl25_hi ao n c k hk hz w, Result.andThen_ok]
  rfl
theorem x_sl25l {x y : Operand} {ao a' : Option Addr} {n c k j c' : Nat} (hop : oi.op = .slice 38 x (some y) none none) (hx : a.eval x = .slice ao n c) (hy : a.eval y = .int .i64 (k : Int)) (hn : n ≤ c) (hk : k ≤ n) (hz : ao = none → c = 0) (ha : cut25 ao k c = a') (hj : n - k = j) (hc : c - k = c') : (execOp a.eval oi).run Try.prog w = .ok (.value (.slice a' j c')) w := by
  subst ha hj hc
  unfold execOp
  simp only [hop, hx, hy, Option.map, Sem.run_bind, sl25_lo ao n c k hn hk hz w, Result.andThen_ok]
  rfl
theorem x_add3 {x y : Operand} {p q r : Nat} (hop : oi.op = .binOp .add 3 x y 3) (hx : a.eval x = .int .i64 (p : Int)) (hy : a.eval y = .int .i64 (q : Int)) (hr : p + q = r) (hb : r < 4611686018427387904) : (execOp a.eval oi).run Try.prog w = .ok (.value (.int .i64 (r : Int))) w := by
  subst hr
  unfold execOp
  simp only [hop, hx, hy]
  simp [go_sem, IntKind.wrap, IntKind.bits, IntKind.signed]
  omega
theorem x_bld27 {x : Operand} {b : Option Addr} {n c : Nat} (hop : oi.op = .build 82 #[(0, x)]) (hx : a.eval x = .slice b n c) : (execOp a.eval oi).run Try.prog w = .ok (.value (.agg #[.slice b n c])) w := by
  have h := run_build (P := Try.prog) w 82 #[(0, .slice b n c)] #[.slice b n c] (by kernel_rfl)
  unfold execOp
  simp only [hop]
  simp [hx, h]
end
theorem BsAt.take {W : World} {a : Option Addr} {X : List Bx} (h : BsAt W a X) (k : Nat) : BsAt W a (X.take k) := by
  refine ⟨⟨uni_bs _, fun hn => ?_⟩, fun x hx => h.each x (List.mem_of_mem_take hx)⟩
  obtain ⟨b, o, e, hr⟩ := h.sl.2 (fun e => hn (by have : X = [] := by cases X with | nil => rfl | cons x X => simp [bsL] at e
                                                  subst this; simp [bsL]))
  refine ⟨b, o, e, fun j u hu => hr j u ?_⟩
  have hb : bsL (X.take k) = (bsL X).take k := by simp [bsL, List.map_take]
  rw [hb] at hu
  have h1 : (bsL X).flatten = ((bsL X).take k).flatten ++ ((bsL X).drop k).flatten := by rw [← List.flatten_append, List.take_append_drop]
  rw [h1, List.getElem?_append_left (List.getElem?_eq_some_iff.1 hu).1]
  exact hu
theorem BsAt.drop {W : World} {a : Option Addr} {n c : Nat} {X : List Bx} (h : BsAt W a X) (hl : X.length = n) (hn : n ≤ c) {k : Nat} (hk : k ≤ n) : BsAt W (cut25 a k c) (X.drop k) := by
  refine ⟨⟨uni_bs _, fun hne => ?_⟩, fun x hx => h.each x (List.mem_of_mem_drop hx)⟩
  have hlt : k < n := by
    rcases Nat.lt_or_ge k n with h | h
    · exact h
    · rw [List.drop_of_length_le (by omega)] at hne; exact absurd rfl hne
  obtain ⟨b, o, e, hr⟩ := h.sl.2 (fun e => hne (by have : X = [] := by cases X with | nil => rfl | cons x X => simp [bsL] at e
                                                   subst this; simp [bsL]))
  refine ⟨b, o + k * 2, by rw [cut25, if_neg (by omega), e]; simp [Addr.add], fun j u hu => ?_⟩
  have hb : bsL (X.drop k) = (bsL X).drop k := by simp [bsL, List.map_drop]
  rw [hb] at hu
  have h1 : (bsL X).flatten = ((bsL X).take k).flatten ++ ((bsL X).drop k).flatten := by rw [← List.flatten_append, List.take_append_drop]
  have hlen : ((bsL X).take k).flatten.length = k * 2 := by
    rw [fl_len (k := 2) (fun y hy => uni_bs X y (List.mem_of_mem_take hy)), List.length_take, bs_len, hl, Nat.min_eq_left (by omega)]
  have := hr (k * 2 + j) u (by rw [h1, List.getElem?_append_right (by omega), hlen, Nat.add_sub_cancel_left]; exact hu)
  rw [Nat.add_assoc]; exact this
theorem ret27 {fn : Func} {p : Tmp} (h : fn.results = #[.cell p 82]) (tmps : Array Value) (w : World) (g : Nat) (v : Value) (hp : tmps.getD p undef = .pointer (some ⟨g, 0, none⟩)) (hg : RowIs w g 82 [v]) :
    (results fn tmps).run Try.prog w = .ok (.agg #[v]) w := by
  have hp' : tmps[p]?.getD undef = .pointer (some ⟨g, 0, none⟩) := by simpa using hp
  have hi : (Try.prog.info? 82).map (·.size) = some (#[v] : Array Value).size := by show _ = some 1; kernel_rfl
  simp [results, h, hp', asAddr, run_loadVar_row w g 82 82 #[v] (0, 0) _ hg Try.underlying82 rfl hi]
theorem ret27t {fn : Func} {p q : Tmp} (h : fn.results = #[.cell p 82, .tmp q]) (tmps : Array Value) (w : World) (g : Nat) (v u : Value) (hp : tmps.getD p undef = .pointer (some ⟨g, 0, none⟩)) (hg : RowIs w g 82 [v]) (hv : tmps.getD q undef = u) :
    (results fn tmps).run Try.prog w = .ok (.tuple #[.agg #[v], u]) w := by
  have hp' : tmps[p]?.getD undef = .pointer (some ⟨g, 0, none⟩) := by simpa using hp
  have hv' : tmps[q]?.getD undef = u := by simpa using hv
  have hi : (Try.prog.info? 82).map (·.size) = some (#[v] : Array Value).size := by show _ = some 1; kernel_rfl
  simp [results, h, hp', hv', asAddr, run_loadVar_row w g 82 82 #[v] (0, 0) _ hg Try.underlying82 rfl hi]
theorem size27 (b : Option Addr) (n c : Nat) : (Try.prog.info? 82).map (·.size) = some (#[Value.slice b n c] : Array Value).size := by show _ = some 1; kernel_rfl
theorem one27 (b : Option Addr) (n c : Nat) : (#[Value.slice b n c] : Array Value).all (·.oneCell') = true := by simp [Value.oneCell']
/-- Three pieces behind one another in a new row. -/
theorem three {w : World} {A B C : List Bx} {aA aB aC : Option Addr} {nA nB nC cA cB cC : Nat} (hA : BsAt w aA A) (lA : A.length = nA) (zA : aA = none → cA = 0) (hB : BsAt w aB B) (lB : B.length = nB) (zB : aB = none → cB = 0) (hC : BsAt w aC C) (lC : C.length = nC) (zC : aC = none → cC = 0) (hbig : (nA + nB + nC) * 40 ≤ 140737488355328) :
    ∃ a1 c1 w1 a2 c2 w2 a3 c3 w3, (Builtin.append_ #[38, 38] 38 #[.slice none 0 0, .slice aA nA cA]).run Try.prog w = .ok (.slice a1 nA c1) w1 ∧
      (Builtin.append_ #[38, 38] 38 #[.slice a1 nA c1, .slice aB nB cB]).run Try.prog w1 = .ok (.slice a2 (nA + nB) c2) w2 ∧
      (Builtin.append_ #[38, 38] 38 #[.slice a2 (nA + nB) c2, .slice aC nC cC]).run Try.prog w2 = .ok (.slice a3 (nA + nB + nC) c3) w3 ∧
      RT w3 a3 (nA + nB + nC) c3 (A ++ B ++ C) ∧ (∀ ad, a3 = some ad → w.heap.size ≤ ad.block) ∧ After w w1 ∧ After w w2 ∧ After w w3 := by
  obtain ⟨i, hi, hz⟩ := Option.map_eq_some_iff.1 info48
  simp only [Prod.mk.injEq] at hz
  obtain ⟨hz, hsz, hby⟩ := hz
  have nn : ∀ {Y : List Bx} {a : Option Addr} {c : Nat}, (a = none → c = 0) → (bsL Y = [] → a = none → c = 0) := fun h _ e => h e
  have n0 : OwnL w w.heap.size 65 2 (.slice none 0 0) (bsL []) := OwnL.nil _ _ _ _
  obtain ⟨a1, c1, w1, r1, o1, g1, _⟩ := run_appL (t := 38) 38 65 2 40 Try.underlying38 hi hz hsz hby rfl (by omega) n0 (by rw [bs_len, lA]) hA.sl (bs_one A) (by simp [bsL]; unfold maxLen; omega) (by simp [bsL]; omega) (Nat.le_refl _) (nn zA)
  have e1 : (bsL ([] : List Bx)).length + nA = nA := by simp [bsL]
  rw [e1] at r1 o1
  have p1 : After w w1 := after_grown (After.refl w) g1 (Nat.le_refl _) (fun k hk => by cases hk)
  obtain ⟨a2, c2, w2, r2, o2, g2, _⟩ := run_appL (t := 38) 38 65 2 40 Try.underlying38 hi hz hsz hby rfl (by omega) o1 (by rw [bs_len, lB]) (hB.after p1).sl (bs_one B) (by simp [bsL, lA]; unfold maxLen; omega) (by simp [bsL, lA]; omega) p1.size (nn zB)
  have e2 : (bsL ([] : List Bx) ++ bsL A).length + nB = nA + nB := by simp [bsL, lA]
  rw [e2] at r2 o2
  have p2 : After w w2 := after_grown p1 g2 (Nat.le_refl _) (fun k hk => (own_lt o1.2 hk).1)
  obtain ⟨a3, c3, w3, r3, o3, g3, _⟩ := run_appL (t := 38) 38 65 2 40 Try.underlying38 hi hz hsz hby rfl (by omega) o2 (by rw [bs_len, lC]) (hC.after p2).sl (bs_one C) (by simp [bsL, lA, lB]; unfold maxLen; omega) (by simp [bsL, lA, lB]; omega) p2.size (nn zC)
  have e3 : (bsL ([] : List Bx) ++ bsL A ++ bsL B).length + nC = nA + nB + nC := by simp [bsL, lA, lB]
  rw [e3] at r3 o3
  have p3 : After w w3 := after_grown p2 g3 (Nat.le_refl _) (fun k hk => (own_lt o2.2 hk).1)
  have eb : bsL ([] : List Bx) ++ bsL A ++ bsL B ++ bsL C = bsL (A ++ B ++ C) := by simp [bsL]
  rw [eb] at o3
  have hlen : (bsL (A ++ B ++ C)).length = nA + nB + nC := by simp [bsL, lA, lB, lC]; omega
  obtain ⟨a', c', ev, hs⟩ := o3.sl
  injection ev with q1 q2 q3
  subst q1 q3
  refine ⟨a1, c1, w1, a2, c2, w2, a3, c3, w3, r1, r2, r3, ⟨⟨hs, fun x hx => ?_⟩, by simp [lA, lB, lC]; omega, ?_, ?_⟩, fun ad e => (own_block o3 ad e).1, p1, p2, p3⟩
  · rcases List.mem_append.1 hx with hx | hx
    · rcases List.mem_append.1 hx with hx | hx
      · exact (hA.each x hx).after p3
      · exact (hB.each x hx).after p3
    · exact (hC.each x hx).after p3
  · rcases own_row o3.2 with ⟨e, h0, _⟩ | ⟨g, cap, cs, e, _, _, hnc, _⟩
    · simp only [Value.slice.injEq] at e; omega
    · simp only [Value.slice.injEq] at e; omega
  · intro e
    subst e
    rcases own_row o3.2 with ⟨e, _⟩ | ⟨g, cap, cs, e, _⟩
    · simp only [Value.slice.injEq] at e; exact e.2.2
    · simp only [Value.slice.injEq] at e; exact absurd e.1 (by simp)
theorem BsAt.same {W W' : World} {a : Option Addr} {X : List Bx} (h : BsAt W a X) (hs : ∀ ad, a = some ad → W'.heap[ad.block]? = W.heap[ad.block]?) (he : ∀ x ∈ X, BxAt W' x) : BsAt W' a X := ⟨h.sl.same hs, he⟩
end Go.Proofs.Ytcmcapcagblafaa
