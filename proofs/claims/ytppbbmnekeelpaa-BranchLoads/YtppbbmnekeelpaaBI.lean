/-
  THE REFERENCE'S put (43).
-/
import Derived.Test.YtppbbmnekeelpaaBH
namespace Go.Proofs.Ytppbbmnekeelpaa
open Go.RowKit Dsk
attribute [local go_sem] Oper.semAt_some
/-- A reference's table: branches in a row. -/
structure RT (W : World) (a : Option Addr) (n c : Nat) (X : List Bx) : Prop where
  at_ : BsAt W a X
  len : X.length = n
  cap : n ≤ c
  z : a = none → c = 0
theorem RT.after {W W' : World} {a : Option Addr} {n c : Nat} {X : List Bx} (h : RT W a n c X) (ha : After W W') : RT W' a n c X := ⟨h.at_.after ha, h.len, h.cap, h.z⟩
def cut25 (ao : Option Addr) (k c : Nat) : Option Addr := if c = k then ao else ao.map fun a => a.add (k * 2)
theorem info48s : (Try.prog.info? 48).map (·.size) = some 2 := by kernel_rfl
theorem sl25_hi (ao : Option Addr) (n c k : Nat) (hk : k ≤ c) (hz : ao = none → c = 0) (W : World) : (Instr.sliceAt 25 (.slice ao n c) none (some (.int .i64 (k : Int))) none).run Try.prog W = .ok (.slice ao k c) W := by
  obtain ⟨i, hi', hsz⟩ := Option.map_eq_some_iff.1 info48s
  cases ao with
  | none =>
    obtain rfl : c = 0 := hz rfl
    obtain rfl : k = 0 := by omega
    simp [Instr.sliceAt, Instr.slice, run_underlying Try.underlying25, Instr.sliceBounds, Instr.sliceBound, asIntOf, sizeOf, typeInfo, hi']
  | some a =>
    by_cases h0 : c = 0
    · obtain rfl : k = 0 := by omega
      simp [Instr.sliceAt, Instr.slice, run_underlying Try.underlying25, Instr.sliceBounds, Instr.sliceBound, asIntOf, sizeOf, typeInfo, hi', h0]
    · simp [Instr.sliceAt, Instr.slice, run_underlying Try.underlying25, Instr.sliceBounds, Instr.sliceBound, asIntOf, sizeOf, typeInfo, hi', hk, Addr.add]
theorem sl25_lo (ao : Option Addr) (n c k : Nat) (hn : n ≤ c) (hk : k ≤ n) (hz : ao = none → c = 0) (W : World) : (Instr.sliceAt 25 (.slice ao n c) (some (.int .i64 (k : Int))) none none).run Try.prog W = .ok (.slice (cut25 ao k c) (n - k) (c - k)) W := by
  obtain ⟨i, hi', hsz⟩ := Option.map_eq_some_iff.1 info48s
  cases ao with
  | none =>
    obtain rfl : c = 0 := hz rfl
    obtain rfl : n = 0 := by omega
    obtain rfl : k = 0 := by omega
    simp [Instr.sliceAt, Instr.slice, run_underlying Try.underlying25, Instr.sliceBounds, Instr.sliceBound, asIntOf, sizeOf, typeInfo, hi', cut25]
  | some a =>
    by_cases h : c = k
    · simp [Instr.sliceAt, Instr.slice, run_underlying Try.underlying25, Instr.sliceBounds, Instr.sliceBound, asIntOf, sizeOf, typeInfo, hi', hsz, cut25, h]
      intro h2; omega
    · simp [Instr.sliceAt, Instr.slice, run_underlying Try.underlying25, Instr.sliceBounds, Instr.sliceBound, asIntOf, sizeOf, typeInfo, hi', hsz, cut25, h, hk]
section
variable {oi : Oper} {a : Act} {w : World}
theorem x_sl25h {x y : Operand} {ao : Option Addr} {n c k : Nat} (hop : oi.op = .slice 25 x none (some y) none) (hx : a.eval x = .slice ao n c) (hy : a.eval y = .int .i64 (k : Int)) (hk : k ≤ c) (hz : ao = none → c = 0) : (execOp a.eval oi).run Try.prog w = .ok (.value (.slice ao k c)) w := by
  unfold execOp
  simp only [hop, hx, hy, Option.map, Sem.run_bind, sl25_hi ao n c k hk hz w, Result.andThen_ok]
  rfl
theorem x_sl25l {x y : Operand} {ao a' : Option Addr} {n c k j c' : Nat} (hop : oi.op = .slice 25 x (some y) none none) (hx : a.eval x = .slice ao n c) (hy : a.eval y = .int .i64 (k : Int)) (hn : n ≤ c) (hk : k ≤ n) (hz : ao = none → c = 0) (ha : cut25 ao k c = a') (hj : n - k = j) (hc : c - k = c') : (execOp a.eval oi).run Try.prog w = .ok (.value (.slice a' j c')) w := by
  subst ha hj hc
  unfold execOp
  simp only [hop, hx, hy, Option.map, Sem.run_bind, sl25_lo ao n c k hn hk hz w, Result.andThen_ok]
  rfl
theorem x_add3 {x y : Operand} {p q r : Nat} (hop : oi.op = .binOp .add 3 x y 3) (hx : a.eval x = .int .i64 (p : Int)) (hy : a.eval y = .int .i64 (q : Int)) (hr : p + q = r) (hb : r < 4611686018427387904) : (execOp a.eval oi).run Try.prog w = .ok (.value (.int .i64 (r : Int))) w := by
  subst hr
  unfold execOp
  simp only [hop, hx, hy]
  simp [go_sem, IntKind.wrap, IntKind.bits, IntKind.signed]
  omega
theorem x_bld27 {x : Operand} {b : Option Addr} {n c : Nat} (hop : oi.op = .build 27 #[(0, x)]) (hx : a.eval x = .slice b n c) : (execOp a.eval oi).run Try.prog w = .ok (.value (.agg #[.slice b n c])) w := by
  have h := run_build (P := Try.prog) w 27 #[(0, .slice b n c)] #[.slice b n c] (by kernel_rfl)
  unfold execOp
  simp only [hop]
  simp [hx, h]
end
theorem BsAt.take {W : World} {a : Option Addr} {X : List Bx} (h : BsAt W a X) (k : Nat) : BsAt W a (X.take k) := by
  refine ⟨⟨uni_bs _, fun hn => ?_⟩, fun x hx => h.each x (List.mem_of_mem_take hx)⟩
  obtain ⟨b, o, e, hr⟩ := h.sl.2 (fun e => hn (by have : X = [] := by cases X with | nil => rfl | cons x X => simp [bsL] at e
                                                  subst this; simp [bsL]))
  refine ⟨b, o, e, fun j u hu => hr j u ?_⟩
  have hb : bsL (X.take k) = (bsL X).take k := by simp [bsL, List.map_take]
  rw [hb] at hu
  have h1 : (bsL X).flatten = ((bsL X).take k).flatten ++ ((bsL X).drop k).flatten := by rw [← List.flatten_append, List.take_append_drop]
  rw [h1, List.getElem?_append_left (List.getElem?_eq_some_iff.1 hu).1]
  exact hu
theorem BsAt.drop {W : World} {a : Option Addr} {n c : Nat} {X : List Bx} (h : BsAt W a X) (hl : X.length = n) (hn : n ≤ c) {k : Nat} (hk : k ≤ n) : BsAt W (cut25 a k c) (X.drop k) := by
  refine ⟨⟨uni_bs _, fun hne => ?_⟩, fun x hx => h.each x (List.mem_of_mem_drop hx)⟩
  have hlt : k < n := by
    rcases Nat.lt_or_ge k n with h | h
    · exact h
    · rw [List.drop_of_length_le (by omega)] at hne; exact absurd rfl hne
  obtain ⟨b, o, e, hr⟩ := h.sl.2 (fun e => hne (by have : X = [] := by cases X with | nil => rfl | cons x X => simp [bsL] at e
                                                   subst this; simp [bsL]))
  refine ⟨b, o + k * 2, by rw [cut25, if_neg (by omega), e]; simp [Addr.add], fun j u hu => ?_⟩
  have hb : bsL (X.drop k) = (bsL X).drop k := by simp [bsL, List.map_drop]
  rw [hb] at hu
  have h1 : (bsL X).flatten = ((bsL X).take k).flatten ++ ((bsL X).drop k).flatten := by rw [← List.flatten_append, List.take_append_drop]
  have hlen : ((bsL X).take k).flatten.length = k * 2 := by
    rw [fl_len (k := 2) (fun y hy => uni_bs X y (List.mem_of_mem_take hy)), List.length_take, bs_len, hl, Nat.min_eq_left (by omega)]
  have := hr (k * 2 + j) u (by rw [h1, List.getElem?_append_right (by omega), hlen, Nat.add_sub_cancel_left]; exact hu)
  rw [Nat.add_assoc]; exact this
theorem ret27 {fn : Func} {p : Tmp} (h : fn.results = #[.cell p 27]) (tmps : Array Value) (w : World) (g : Nat) (v : Value) (hp : tmps.getD p undef = .pointer (some ⟨g, 0, none⟩)) (hg : RowIs w g 27 [v]) :
    (results fn tmps).run Try.prog w = .ok (.agg #[v]) w := by
  have hp' : tmps[p]?.getD undef = .pointer (some ⟨g, 0, none⟩) := by simpa using hp
  have hi : (Try.prog.info? 27).map (·.size) = some (#[v] : Array Value).size := by show _ = some 1; kernel_rfl
  simp [results, h, hp', asAddr, run_loadVar_row w g 27 27 #[v] (0, 0) _ hg Try.underlying27 rfl hi]
theorem ret27t {fn : Func} {p q : Tmp} (h : fn.results = #[.cell p 27, .tmp q]) (tmps : Array Value) (w : World) (g : Nat) (v u : Value) (hp : tmps.getD p undef = .pointer (some ⟨g, 0, none⟩)) (hg : RowIs w g 27 [v]) (hv : tmps.getD q undef = u) :
    (results fn tmps).run Try.prog w = .ok (.tuple #[.agg #[v], u]) w := by
  have hp' : tmps[p]?.getD undef = .pointer (some ⟨g, 0, none⟩) := by simpa using hp
  have hv' : tmps[q]?.getD undef = u := by simpa using hv
  have hi : (Try.prog.info? 27).map (·.size) = some (#[v] : Array Value).size := by show _ = some 1; kernel_rfl
  simp [results, h, hp', hv', asAddr, run_loadVar_row w g 27 27 #[v] (0, 0) _ hg Try.underlying27 rfl hi]
theorem size27 (b : Option Addr) (n c : Nat) : (Try.prog.info? 27).map (·.size) = some (#[Value.slice b n c] : Array Value).size := by show _ = some 1; kernel_rfl
theorem one27 (b : Option Addr) (n c : Nat) : (#[Value.slice b n c] : Array Value).all (·.oneCell') = true := by simp [Value.oneCell']
/-- Three pieces behind one another in a new row. -/
theorem three {w : World} {A B C : List Bx} {aA aB aC : Option Addr} {nA nB nC cA cB cC : Nat} (hA : BsAt w aA A) (lA : A.length = nA) (zA : aA = none → cA = 0) (hB : BsAt w aB B) (lB : B.length = nB) (zB : aB = none → cB = 0) (hC : BsAt w aC C) (lC : C.length = nC) (zC : aC = none → cC = 0) (hbig : (nA + nB + nC) * 40 ≤ 140737488355328) :
    ∃ a1 c1 w1 a2 c2 w2 a3 c3 w3, (Builtin.append_ #[25, 25] 25 #[.slice none 0 0, .slice aA nA cA]).run Try.prog w = .ok (.slice a1 nA c1) w1 ∧
      (Builtin.append_ #[25, 25] 25 #[.slice a1 nA c1, .slice aB nB cB]).run Try.prog w1 = .ok (.slice a2 (nA + nB) c2) w2 ∧
      (Builtin.append_ #[25, 25] 25 #[.slice a2 (nA + nB) c2, .slice aC nC cC]).run Try.prog w2 = .ok (.slice a3 (nA + nB + nC) c3) w3 ∧
      RT w3 a3 (nA + nB + nC) c3 (A ++ B ++ C) ∧ (∀ ad, a3 = some ad → w.heap.size ≤ ad.block) ∧ After w w1 ∧ After w w2 ∧ After w w3 := by
  obtain ⟨i, hi, hz⟩ := Option.map_eq_some_iff.1 info48
  simp only [Prod.mk.injEq] at hz
  obtain ⟨hz, hsz, hby⟩ := hz
  have nn : ∀ {Y : List Bx} {a : Option Addr} {c : Nat}, (a = none → c = 0) → (bsL Y = [] → a = none → c = 0) := fun h _ e => h e
  have n0 : OwnL w w.heap.size 48 2 (.slice none 0 0) (bsL []) := OwnL.nil _ _ _ _
  obtain ⟨a1, c1, w1, r1, o1, g1, _⟩ := run_appL (t := 25) 25 48 2 40 Try.underlying25 hi hz hsz hby rfl (by omega) n0 (by rw [bs_len, lA]) hA.sl (bs_one A) (by simp [bsL]; unfold maxLen; omega) (by simp [bsL]; omega) (Nat.le_refl _) (nn zA)
  have e1 : (bsL ([] : List Bx)).length + nA = nA := by simp [bsL]
  rw [e1] at r1 o1
  have p1 : After w w1 := after_grown (After.refl w) g1 (Nat.le_refl _) (fun k hk => by cases hk)
  obtain ⟨a2, c2, w2, r2, o2, g2, _⟩ := run_appL (t := 25) 25 48 2 40 Try.underlying25 hi hz hsz hby rfl (by omega) o1 (by rw [bs_len, lB]) (hB.after p1).sl (bs_one B) (by simp [bsL, lA]; unfold maxLen; omega) (by simp [bsL, lA]; omega) p1.size (nn zB)
  have e2 : (bsL ([] : List Bx) ++ bsL A).length + nB = nA + nB := by simp [bsL, lA]
  rw [e2] at r2 o2
  have p2 : After w w2 := after_grown p1 g2 (Nat.le_refl _) (fun k hk => (own_lt o1.2 hk).1)
  obtain ⟨a3, c3, w3, r3, o3, g3, _⟩ := run_appL (t := 25) 25 48 2 40 Try.underlying25 hi hz hsz hby rfl (by omega) o2 (by rw [bs_len, lC]) (hC.after p2).sl (bs_one C) (by simp [bsL, lA, lB]; unfold maxLen; omega) (by simp [bsL, lA, lB]; omega) p2.size (nn zC)
  have e3 : (bsL ([] : List Bx) ++ bsL A ++ bsL B).length + nC = nA + nB + nC := by simp [bsL, lA, lB]
  rw [e3] at r3 o3
  have p3 : After w w3 := after_grown p2 g3 (Nat.le_refl _) (fun k hk => (own_lt o2.2 hk).1)
  have eb : bsL ([] : List Bx) ++ bsL A ++ bsL B ++ bsL C = bsL (A ++ B ++ C) := by simp [bsL]
  rw [eb] at o3
  have hlen : (bsL (A ++ B ++ C)).length = nA + nB + nC := by simp [bsL, lA, lB, lC]; omega
  obtain ⟨a', c', ev, hs⟩ := o3.sl
  injection ev with q1 q2 q3
  subst q1 q3
  refine ⟨a1, c1, w1, a2, c2, w2, a3, c3, w3, r1, r2, r3, ⟨⟨hs, fun x hx => ?_⟩, by simp [lA, lB, lC]; omega, ?_, ?_⟩, fun ad e => (own_block o3 ad e).1, p1, p2, p3⟩
  · rcases List.mem_append.1 hx with hx | hx
    · rcases List.mem_append.1 hx with hx | hx
      · exact (hA.each x hx).after p3
      · exact (hB.each x hx).after p3
    · exact (hC.each x hx).after p3
  · rcases own_row o3.2 with ⟨e, h0, _⟩ | ⟨g, cap, cs, e, _, _, hnc, _⟩
    · simp only [Value.slice.injEq] at e; omega
    · simp only [Value.slice.injEq] at e; omega
  · intro e
    subst e
    rcases own_row o3.2 with ⟨e, _⟩ | ⟨g, cap, cs, e, _⟩
    · simp only [Value.slice.injEq] at e; exact e.2.2
    · simp only [Value.slice.injEq] at e; exact absurd e.1 (by simp)
theorem BsAt.same {W W' : World} {a : Option Addr} {X : List Bx} (h : BsAt W a X) (hs : ∀ ad, a = some ad → W'.heap[ad.block]? = W.heap[ad.block]?) (he : ∀ x ∈ X, BxAt W' x) : BsAt W' a X := ⟨h.sl.same hs, he⟩
set_option maxRecDepth 100000 in
set_option maxHeartbeats 3200000 in
theorem put43 {a la : Option Addr} {n c i k r m lc : Nat} {X Y : List Bx} {w : World} (hX : RT w a n c X) (hik : i + k = r) (hr : r ≤ n) (hY : BsAt w la Y) (hm : Y.length = m) (hz : la = none → lc = 0) (hbig : (n + m) * 40 ≤ 140737488355328) :
    Calls Try.prog 43 #[.agg #[.slice a n c], .int .i64 (i : Int), .int .i64 (k : Int), .slice la m lc] w fun e w' => ∃ a' n' c', e = .returned (.agg #[.slice a' n' c']) ∧ RT w' a' n' c' (X.take i ++ Y ++ X.drop r) ∧ After w w' ∧ (∀ ad, a' = some ad → w.heap.size ≤ ad.block) := by
  obtain ⟨g0, hg0⟩ : ∃ g0, w.heap.size = g0 := ⟨_, rfl⟩
  obtain ⟨W1, hW1⟩ : ∃ W1, (w.alloc (.cells #[.slice a n c] 27)).alloc (.cells #[.slice none 0 0] 27) = W1 := ⟨_, rfl⟩
  have R0 : RowIs W1 g0 27 [.slice a n c] := by rw [← hW1, ← hg0]; exact (RowIs.new w 27 [.slice a n c]).alloc _
  have R1 : RowIs W1 (g0 + 1) 27 [.slice none 0 0] := by rw [← hW1, ← hg0]; have := RowIs.new (w.alloc (.cells #[.slice a n c] 27)) 27 [.slice none 0 0]; rwa [World.size_alloc] at this
  have A1 : After w W1 := by rw [← hW1]; exact after_alloc (after_alloc (After.refl w) _) _
  have s1 : W1.heap.size = w.heap.size + 2 := by rw [← hW1]; simp
  have hdl : (X.drop r).length = n - r := by rw [List.length_drop, hX.len]
  obtain ⟨a1, c1, w1, a2, c2, w2, a3, c3, w3, r1, r2, r3, hRT, hge, p1, p2, p3⟩ := three (w := W1) (aA := a) (aB := la) (aC := cut25 a r c) (nA := i) (nB := m) (nC := n - r) (cA := c) (cB := lc) (cC := c - r) ((hX.at_.after A1).take i) (by rw [List.length_take, hX.len]; omega) hX.z (hY.after A1) hm hz ((hX.at_.after A1).drop hX.len hX.cap hr) hdl (fun e => by have := hX.z (by unfold cut25 at e; split at e; exact e; simpa using e); omega) (by omega)
  obtain ⟨n', hn'⟩ : ∃ n', i + m + (n - r) = n' := ⟨_, rfl⟩
  rw [hn'] at r3 hRT
  obtain ⟨W4, hW4⟩ : ∃ W4, w3.setRow (g0 + 1) #[.slice a3 n' c3] = W4 := ⟨_, rfl⟩
  have R13 : RowIs w3 (g0 + 1) 27 [.slice none 0 0] := R1.below p3 R1.lt
  have c0 := R0.cell (j := 0) rfl
  have c2' := (R0.below p2 R0.lt).cell (j := 0) rfl
  have HE1 := show Hid _ from r1
  have HE2 := show Hid _ from r2
  have HE3 := show Hid _ from r3
  have HX : Hid (i ≤ c ∧ (a = none → c = 0) ∧ n ≤ c ∧ r ≤ n ∧ i + k = r ∧ r < 4611686018427387904) := ⟨by have := hX.cap; omega, hX.z, hX.cap, hr, hik, by omega⟩
  have HR := show Hid _ from R13
  have HG := show Hid _ from hW4
  have HF : Hid (RowIs W4 (g0 + 1) 27 [.slice a3 n' c3] ∧ RT W4 a3 n' c3 (X.take i ++ Y ++ X.drop r) ∧ After w W4 ∧ (∀ ad, a3 = some ad → w.heap.size ≤ ad.block)) := by
    have hAf : After w W4 := by rw [← hW4]; exact Below.row (A1.trans p3) (by omega) _
    refine ⟨by rw [← hW4]; exact R13.setRow _, ⟨hRT.at_.same (fun ad e => ?_) (fun x hx => ?_), hRT.len, hRT.cap, hRT.z⟩, hAf, fun ad e => by have := hge ad e; omega⟩
    · have := hge ad e
      rw [← hW4]
      exact setRow_other _ _ _ _ (by omega)
    · rcases List.mem_append.1 hx with hx | hx
      · rcases List.mem_append.1 hx with hx | hx
        · exact (hX.at_.each x (List.mem_of_mem_take hx)).after hAf
        · exact (hY.each x hx).after hAf
      · exact (hX.at_.each x (List.mem_of_mem_drop hx)).after hAf
  clear R0 R1 A1 s1 hdl r1 r2 r3 hRT hge p1 p2 p3 hn' hW4 R13 hX hik hr hY hm hz hbig
  go_enter Try.func43, Try.ntmps43
  go_wp2_with (first
    | (rw [hW1]; rw [hg0])
    | (refine wpList_of_run rfl (x_sl25h (x := .tmp 12) (y := .tmp 13) (ao := a) (n := n) (c := c) (k := i) rfl (by kernel_rfl) (by kernel_rfl) HX.out.1 HX.out.2.1) ?_)
    | (refine wpList_of_run rfl (x_app (t := 25) (s := .tmp 10) (x := .tmp 14) rfl (by kernel_rfl) (by kernel_rfl) HE1.out) ?_)
    | (refine wpList_of_run rfl (x_app (t := 25) (s := .tmp 15) (x := .tmp 16) rfl (by kernel_rfl) (by kernel_rfl) HE2.out) ?_)
    | (refine wpList_of_run rfl (x_add3 (x := .tmp 21) (y := .tmp 22) (p := i) (q := k) (r := r) rfl (by kernel_rfl) (by kernel_rfl) HX.out.2.2.2.2.1 HX.out.2.2.2.2.2) ?_)
    | (refine wpList_of_run rfl (x_sl25l (x := .tmp 20) (y := .tmp 23) (ao := a) (n := n) (c := c) (k := r) (a' := cut25 a r c) (j := n - r) (c' := c - r) rfl (by kernel_rfl) (by kernel_rfl) HX.out.2.2.1 HX.out.2.2.2.1 HX.out.2.1 rfl rfl rfl) ?_)
    | (refine wpList_of_run rfl (x_app (t := 25) (s := .tmp 18) (x := .tmp 24) rfl (by kernel_rfl) (by kernel_rfl) HE3.out) ?_)
    | (refine wpList_of_run rfl (x_bld27 (x := .tmp 25) (b := a3) (n := n') (c := c3) rfl (by kernel_rfl)) ?_)
    | (refine wpList_store_row rfl 27 (.tmp 8) (.tmp 26) rfl (g0 + 1) #[.slice a3 n' c3] (by kernel_rfl) (by kernel_rfl) 27 _ HR.out (size27 a3 n' c3) rfl (one27 a3 n' c3) ?_; rw [HG.out]))
  refine bodyPost_ret (ret27 Try.results43 _ _ (g0 + 1) (.slice a3 n' c3) (by kernel_rfl) HF.out.1) rfl ⟨_, _, _, rfl, HF.out.2⟩
end Go.Proofs.Ytppbbmnekeelpaa
