/-
  A TEXT that patches are done to: size (55), chars (44), from (56).
-/
import Derived.Test.YtiihdhnmgbhgkaaPM
namespace Go.Proofs.Ytiihdhnmgbhgkaa
open Go.RowKit Dsk
attribute [local go_sem] Oper.semAt_some
theorem wrap_i64 {z : Int} (h1 : -9223372036854775808 ≤ z) (h2 : z ≤ 9223372036854775807) : IntKind.i64.wrap z = z := by
  simp [IntKind.wrap, IntKind.signed, IntKind.bits]; omega
theorem BytesAt.kept {F : Nat → Prop} {w w' : World} {ao : Option Addr} {bs : List UInt8} (h : BytesAt w ao bs) (hk : KeptF F w w') (hF : ∀ a, ao = some a → ¬ F a.block) : BytesAt w' ao bs := fun hn => by
  obtain ⟨b, o, e, hc⟩ := h hn
  refine ⟨b, o, e, fun j hj => ?_⟩
  rw [World.cell?_of_block (w := w) (hk.block b (World.block_lt_of_cell? w _ (hc j hj)) (hF _ e))]
  exact hc j hj
section
variable {oi : Oper} {a : Act} {w : World}
theorem x_cat {x y : Operand} {p q : List UInt8} (hop : oi.op = .binOp .add 9 x y 9) (hx : a.eval x = .string (strOf p)) (hy : a.eval y = .string (strOf q)) (hb : p.length + q.length ≤ 9223372036854775807) : (execOp a.eval oi).run Try.prog w = .ok (.value (.string (strOf (p ++ q)))) w := by
  have hb' : (strOf p).size + (strOf q).size ≤ 9223372036854775807 := by rw [strOf_size, strOf_size]; exact hb
  have e : strOf p ++ strOf q = strOf (p ++ q) := by simp [strOf, ByteArray.ext_iff]
  unfold execOp
  simp only [hop, hx, hy]
  simp [go_sem, e, hb']
theorem sl9 (l : List UInt8) (k : Nat) (hk : k ≤ l.length) (w : World) : (Instr.sliceAt 9 (.string (strOf l)) none (some (.int .i64 (k : Int))) none).run Try.prog w = .ok (.string (strOf (l.take k))) w := by
  have hs : (strOf l).size = l.length := strOf_size l
  rw [run_sliceAt_string (P := Try.prog) w 9 _ _ _ _ Try.underlying9, run_slice_string_h (P := Try.prog) w 9 (strOf l) Try.underlying9 .i64 (k : Int) (by omega) (by rw [hs]; omega)]
  have e : (strOf l).extract 0 k = strOf (l.take k) := by
    apply ByteArray.ext
    simp [strOf]
  simp [e]
theorem x_sl9 {x y : Operand} {l : List UInt8} {k : Nat} (hop : oi.op = .slice 9 x none (some y) none) (hx : a.eval x = .string (strOf l)) (hy : a.eval y = .int .i64 (k : Int)) (hk : k ≤ l.length) : (execOp a.eval oi).run Try.prog w = .ok (.value (.string (strOf (l.take k)))) w := by
  unfold execOp
  simp only [hop, hx, hy, Option.map, Sem.run_bind, sl9 l k hk w, Result.andThen_ok]
  rfl
theorem sl9l (l : List UInt8) (k : Nat) (hk : k ≤ l.length) (w : World) : (Instr.sliceAt 9 (.string (strOf l)) (some (.int .i64 (k : Int))) none none).run Try.prog w = .ok (.string (strOf (l.drop k))) w := by
  have hs : (strOf l).size = l.length := strOf_size l
  rw [run_sliceAt_string (P := Try.prog) w 9 _ _ _ _ Try.underlying9, run_slice_string_l (P := Try.prog) w 9 (strOf l) Try.underlying9 .i64 (k : Int) (by omega) (by rw [hs]; omega)]
  have e : (strOf l).extract k (strOf l).size = strOf (l.drop k) := by
    apply ByteArray.ext
    simp [strOf, ByteArray.size]
    exact List.take_of_length_le (by simp)
  simp [e]
theorem x_sl9l {x y : Operand} {l : List UInt8} {k : Nat} (hop : oi.op = .slice 9 x (some y) none none) (hx : a.eval x = .string (strOf l)) (hy : a.eval y = .int .i64 (k : Int)) (hk : k ≤ l.length) : (execOp a.eval oi).run Try.prog w = .ok (.value (.string (strOf (l.drop k)))) w := by
  unfold execOp
  simp only [hop, hx, hy, Option.map, Sem.run_bind, sl9l l k hk w, Result.andThen_ok]
  rfl
theorem x_from73 {x y : Operand} {ao : Option Addr} {n cap k : Nat} (hz : ao = none → n = 0) (hc : n ≤ cap) (hk : k ≤ n) (hop : oi.op = .slice 73 x (some y) none none) (hx : a.eval x = .slice ao n cap) (hy : a.eval y = .int .i64 (k : Int)) : (execOp a.eval oi).run Try.prog w = .ok (.value (.slice (cutAt ao k cap) (n - k) (cap - k))) w := by
  unfold execOp
  simp only [hop, hx, hy, Option.map, Sem.run_bind, slice_from ao n cap k hz hc hk w, Result.andThen_ok]
  rfl
theorem x_bld75 {x y : Operand} {u v : Value} (hop : oi.op = .build 75 #[(0, x), (1, y)]) (hx : a.eval x = u) (hy : a.eval y = v) (hb : Try.prog.built 75 [(0, u), (1, v)] = some #[u, v]) : (execOp a.eval oi).run Try.prog w = .ok (.value (.agg #[u, v])) w := by
  have h := run_build (P := Try.prog) w 75 #[(0, u), (1, v)] #[u, v] hb
  unfold execOp
  simp only [hop]
  simp [hx, hy, h]
theorem x_al75 (hop : oi.op = .alloc 75) : (execOp a.eval oi).run Try.prog w = .ok (.value (.pointer (some ⟨w.heap.size, 0, none⟩))) (w.alloc (.cells #[.slice none 0 0, .string (strOf [])] 75)) := by
  have hz : (zeroValue 75).run Try.prog w = .ok (.agg #[.slice none 0 0, .string (strOf [])]) w := by kernel_rfl
  unfold execOp
  simp only [hop]
  simp [go_sem, hz, Value.cells]
theorem x_appS {s x : Operand} {v u v' : Value} {w' : World} (hop : oi.op = .call { callee := .builtin .append, args := #[s, x], argTypes := #[73, 9] }) (hs : a.eval s = v) (hx : a.eval x = u) (hr : (Builtin.append_ #[73, 9] oi.type #[v, u]).run Try.prog w = .ok v' w') : (execOp a.eval oi).run Try.prog w = .ok (.value v') w' := by
  unfold execOp
  simp only [hop, resolve, invoke, builtin, Sem.run_bind, Sem.run_pure, Result.andThen_ok, List.map_toArray, List.map_cons, List.map_nil, hs, hx, hr]
theorem x_lenS {x : Operand} {s : Nm} (hop : oi.op = .call { callee := .builtin .len, args := #[x], argTypes := #[9] }) (hx : a.eval x = .string (strOf s)) : (execOp a.eval oi).run Try.prog w = .ok (.value (.int .i64 (s.length : Int))) w := by
  unfold execOp
  simp only [hop, resolve, invoke, builtin, Sem.run_bind, Sem.run_pure, Result.andThen_ok, List.map_toArray, List.map_cons, List.map_nil, hx]
  simp [go_sem, strOf_size]
theorem x_addn {x y : Operand} {p q : Nat} (h : p + q ≤ 9223372036854775807) (hop : oi.op = .binOp .add 3 x y 3) (hx : a.eval x = .int .i64 (p : Int)) (hy : a.eval y = .int .i64 (q : Int)) : (execOp a.eval oi).run Try.prog w = .ok (.value (.int .i64 ((p + q : Nat) : Int))) w := by
  unfold execOp; simp only [hop, hx, hy]
  have h1 : IntKind.i64.wrap ((p : Int) + (q : Int)) = (p : Int) + (q : Int) := wrap_i64 (by omega) (by omega)
  simp [go_sem, h1]
theorem x_subn {x y : Operand} {p q : Nat} (h : q ≤ p) (hp : p ≤ 9223372036854775807) (hop : oi.op = .binOp .sub 3 x y 3) (hx : a.eval x = .int .i64 (p : Int)) (hy : a.eval y = .int .i64 (q : Int)) : (execOp a.eval oi).run Try.prog w = .ok (.value (.int .i64 ((p - q : Nat) : Int))) w := by
  unfold execOp; simp only [hop, hx, hy]
  have h1 : IntKind.i64.wrap ((p : Int) - (q : Int)) = (p : Int) - (q : Int) := wrap_i64 (by omega) (by omega)
  have e : ((p - q : Nat) : Int) = (p : Int) - (q : Int) := by omega
  rw [e]
  simp [go_sem, h1]
end
theorem size75 (u v : Value) : (Try.prog.info? 75).map (·.size) = some (#[u, v] : Array Value).size := by show _ = some 2; kernel_rfl
theorem ret75 {fn : Func} {p : Tmp} (h : fn.results = #[.cell p 75]) (tmps : Array Value) (w : World) (g : Nat) (u v : Value) (hp : tmps.getD p undef = .pointer (some ⟨g, 0, none⟩)) (hg : RowIs w g 75 [u, v]) : (results fn tmps).run Try.prog w = .ok (.agg #[u, v]) w := by
  have hp' : tmps[p]?.getD undef = .pointer (some ⟨g, 0, none⟩) := by simpa using hp
  simp [results, h, hp', asAddr, run_loadVar_row w g 75 75 #[u, v] (0, 0) _ hg Try.underlying75 rfl (size75 u v)]
theorem Own.one {w : World} {base : Nat} {v : Value} {bs : List UInt8} (h : Own w base v bs) : v.oneCell' = true := by
  obtain ⟨ao, cap, e, _⟩ := h.at
  rw [e]; rfl
theorem built75 (ao : Option Addr) (n c : Nat) (s : ByteArray) : Try.prog.built 75 [(0, .slice ao n c), (1, .string s)] = some #[.slice ao n c, .string s] := by kernel_rfl
/-- Fewer of a row's bytes. -/
theorem Own.cut {w : World} {base g n cap : Nat} {bs : List UInt8} (h : Own w base (.slice (some ⟨g, 0, none⟩) n cap) bs) (k : Nat) (hk : k ≤ bs.length) : Own w base (.slice (some ⟨g, 0, none⟩) k cap) (bs.take k) := by
  rcases own_row h with ⟨hv, _⟩ | ⟨g', cap', cs, hv, hb, hr, hn, hc, hl, ht⟩
  · cases hv
  · injection hv with e1 e2 e3
    cases e1; subst e3
    have := row_own (n := k) (cap := cap) (size := 1) (xs := c8 (bs.take k)) hb hr (by omega) hc hl (by
      rw [Nat.mul_one] at ht ⊢
      have h2 : c8 (bs.take k) = (c8 bs).take k := by unfold c8; rw [List.map_take]
      rw [h2, ← ht, List.take_take, Nat.min_eq_left hk])
    unfold Own
    rw [List.length_take, Nat.min_eq_left hk]
    exact this
theorem Own.same {w w' : World} {base : Nat} {sl : Value} {bs : List UInt8} (h : Own w base sl bs) (hs : ∀ g, sl.ownBlock = some g → w'.heap[g]? = w.heap[g]?) : Own w' base sl bs := by
  refine ⟨h.1, ?_⟩
  rcases h.2 with h0 | ⟨g, cap, cur, hv, hb, hg, rest⟩
  · exact .inl h0
  · exact .inr ⟨g, cap, cur, hv, hb, by rw [hs g (by rw [hv]; rfl)]; exact hg, rest⟩
theorem app73 {w : World} {base : Nat} {v : Value} {bs s : Nm} (h : Own w base v bs) (hb : bs.length + s.length ≤ 140737488355328) (hbase : base ≤ w.heap.size) : ∃ va m vc w', (Builtin.append_ #[73, 9] 73 #[v, .string (strOf s)]).run Try.prog w = .ok (.slice va m vc) w' ∧ Own w' base (.slice va m vc) (bs ++ s) ∧ w.grownBy w' v.ownBlock := by
  obtain ⟨i, hi, hz⟩ := Option.map_eq_some_iff.1 bytes5
  simp only [Prod.mk.injEq] at hz
  obtain ⟨hz, hsz, hby⟩ := hz
  obtain ⟨v', w', h1, h2, h3, _⟩ := Lib.run_append_own_string (P := Try.prog) w base 73 9 73 5 i Try.underlying73 Try.underlying9 hi hz hsz hby v bs.length (c8 bs) h (strOf s) (by rw [strOf_size]; unfold maxLen; omega) (by rw [strOf_size]; exact hb) hbase
  rw [strOf_size, strCells_of, ← c8_append, ← List.length_append] at h2
  have h2' : Own w' base v' (bs ++ s) := h2
  obtain ⟨ao, cap, e, _⟩ := h2'.at
  subst e
  exact ⟨ao, _, cap, w', h1, h2', h3⟩
set_option maxRecDepth 100000 in
set_option maxHeartbeats 6400000 in
theorem size55 {w : World} {ao : Option Addr} {n c : Nat} {b : Nm} (hb : n + b.length ≤ 9223372036854775807) :
    Calls Try.prog 55 #[.agg #[.slice ao n c, .string (strOf b)]] w fun e w' => e = .returned (.int .i64 ((n + b.length : Nat) : Int)) ∧ After w w' := by
  obtain ⟨W0, hW0⟩ : ∃ W0, w.alloc (.cells #[.slice ao n c, .string (strOf b)] 75) = W0 := ⟨_, rfl⟩
  have HR : Hid (RowIs W0 w.heap.size 75 [.slice ao n c, .string (strOf b)] ∧ After w W0) := by rw [← hW0]; exact ⟨RowIs.new w 75 _, after_alloc (After.refl w) _⟩
  have c0 := HR.out.1.cell (j := 0) rfl
  have c1 := HR.out.1.cell (j := 1) rfl
  have HB : Hid (n + b.length ≤ 9223372036854775807) := hb
  clear hb
  go_enter Try.func55, Try.ntmps55
  go_wp2_with (first
    | (rw [hW0])
    | (refine wpList_of_run rfl (x_lenS (x := .tmp 7) (s := b) rfl (by kernel_rfl)) ?_)
    | (refine wpList_of_run rfl (x_addn (x := .tmp 5) (y := .tmp 8) (p := n) (q := b.length) HB.out rfl (by kernel_rfl) (by kernel_rfl)) ?_))
  go_ret
  exact ⟨rfl, HR.out.2⟩
set_option maxRecDepth 100000 in
set_option maxHeartbeats 6400000 in
theorem chars44 {w : World} {base : Nat} {ao : Option Addr} {n c : Nat} {a b : Nm} (h : Own w base (.slice ao n c) a) (hb : a.length + b.length ≤ 9223372036854775807) :
    Calls Try.prog 44 #[.agg #[.slice ao n c, .string (strOf b)]] w fun e w' => e = .returned (.string (strOf (a ++ b))) ∧ After w w' := by
  obtain ⟨W0, hW0⟩ : ∃ W0, w.alloc (.cells #[.slice ao n c, .string (strOf b)] 75) = W0 := ⟨_, rfl⟩
  have HR : Hid (RowIs W0 w.heap.size 75 [.slice ao n c, .string (strOf b)] ∧ After w W0) := by rw [← hW0]; exact ⟨RowIs.new w 75 _, after_alloc (After.refl w) _⟩
  have c0 := HR.out.1.cell (j := 0) rfl
  have c1 := HR.out.1.cell (j := 1) rfl
  have HB : Hid (a.length + b.length ≤ 9223372036854775807) := hb
  have HC : Hid ((convert 73 9 (.slice ao n c)).run Try.prog W0 = .ok (.string (strOf a)) W0) := h.convA HR.out.2
  clear hb h
  go_enter Try.func44, Try.ntmps44
  go_wp2_with (first
    | (rw [hW0])
    | (refine wpList_of_run rfl (x_conv (x := .tmp 4) (v := .slice ao n c) rfl (by kernel_rfl) HC.out) ?_)
    | (refine wpList_of_run rfl (x_cat (x := .tmp 5) (y := .tmp 7) (p := a) (q := b) rfl (by kernel_rfl) (by kernel_rfl) HB.out) ?_))
  go_ret
  exact ⟨rfl, HR.out.2⟩
set_option maxRecDepth 100000 in
set_option maxHeartbeats 6400000 in
theorem from56_in {w : World} {base : Nat} {ao : Option Addr} {n c k : Nat} {a b : Nm} (h : Own w base (.slice ao n c) a) (hk : k < a.length) (hb : a.length + b.length ≤ 9223372036854775807) :
    Calls Try.prog 56 #[.agg #[.slice ao n c, .string (strOf b)], .int .i64 (k : Int)] w fun e w' => e = .returned (.agg #[.slice ao k c, .string (strOf (a.drop k ++ b))]) ∧ Own w' base (.slice ao k c) (a.take k) ∧ After w w' := by
  obtain ⟨ao', cap, e, hat, hle, hlt⟩ := h.at
  injection e with e1 e2 e3
  subst e1 e2 e3
  obtain ⟨gb, hgb⟩ : ∃ gb, ao = some ⟨gb, 0, none⟩ := by
    rcases own_row h with ⟨hv, h0, _⟩ | ⟨g, cap', cs, hv, _⟩
    · omega
    · cases hv; exact ⟨g, rfl⟩
  subst hgb
  obtain ⟨n, hn⟩ : ∃ n, a.length = n := ⟨_, rfl⟩
  rw [hn] at h hk hb hle ⊢
  obtain ⟨W0, hW0⟩ : ∃ W0, w.alloc (.cells #[.slice (some ⟨gb, 0, none⟩) n c, .string (strOf b)] 75) = W0 := ⟨_, rfl⟩
  obtain ⟨W1, hW1⟩ : ∃ W1, W0.alloc (.cells #[.slice none 0 0, .string (strOf [])] 75) = W1 := ⟨_, rfl⟩
  obtain ⟨g2, hg2⟩ : ∃ g2, w.heap.size = g2 := ⟨_, rfl⟩
  obtain ⟨g4, hg4⟩ : ∃ g4, W0.heap.size = g4 := ⟨_, rfl⟩
  have a0 : After w W0 := by rw [← hW0]; exact after_alloc (After.refl w) _
  have a1 : After W0 W1 := by rw [← hW1]; exact after_alloc (After.refl W0) _
  have r0 : RowIs W0 g2 75 [.slice (some ⟨gb, 0, none⟩) n c, .string (strOf b)] := by rw [← hW0, ← hg2]; exact RowIs.new w 75 _
  have HR : Hid (RowIs W1 g2 75 [.slice (some ⟨gb, 0, none⟩) n c, .string (strOf b)] ∧ RowIs W1 g4 75 [.slice none 0 0, .string (strOf [])] ∧ After w W1) := ⟨r0.below a1 r0.lt, by rw [← hW1, ← hg4]; exact RowIs.new W0 75 _, a0.trans a1⟩
  have HK : Hid (k ≤ n ∧ k ≤ c ∧ n ≤ c) := ⟨by omega, by omega, hle⟩
  have HL : Hid ((a.drop k).length + b.length ≤ 9223372036854775807) := by show _ ≤ _; rw [List.length_drop]; omega
  have HC : Hid (∀ W, KeptF (fun b => b = g4) W1 W → (convert 73 9 (.slice (cutAt (some ⟨gb, 0, none⟩) k c) (n - k) (c - k))).run Try.prog W = .ok (.string (strOf (a.drop k))) W) := fun W hW => by
    have hd := ((hat.after HR.out.2.2).kept hW (fun ad e => by cases e; have h1 : gb < w.heap.size := (hlt _ rfl).2; have := a0.size; show ¬ gb = g4; omega)).cut k c (by rw [hn]; exact hle)
    have := conv_at (c - k) hd
    rwa [List.length_drop, hn] at this
  have HS : Hid (After w W1 ∧ w.heap.size ≤ g4 ∧ Own w base (.slice (some ⟨gb, 0, none⟩) n c) a ∧ k ≤ a.length ∧ g2 ≠ g4 ∧ gb < w.heap.size) := ⟨HR.out.2.2, by rw [← hg4]; exact a0.size, h, by omega, by rw [← hg4]; have := r0.lt; omega, (hlt _ rfl).2⟩
  obtain ⟨W2, hW2⟩ : ∃ W2, W1.drew.setRow g4 #[.slice (some ⟨gb, 0, none⟩) k c, .string (strOf (a.drop k ++ b))] = W2 := ⟨_, rfl⟩
  have HST : Hid (KeptF (fun b => b = g4) W1 W2 ∧ RowIs W2 g4 75 [.slice (some ⟨gb, 0, none⟩) k c, .string (strOf (a.drop k ++ b))] ∧ After w W2) := by
    have h0 : After W1 W1.drew := After.drew (After.refl W1)
    have h1 : RowIs W1.drew g4 75 [.slice none 0 0, .string (strOf [])] := HR.out.2.1.below h0 HR.out.2.1.lt
    rw [← hW2]
    exact ⟨⟨rfl, rfl, rfl, by simp, fun b hb hn => by rw [Go.setRow_other _ _ _ _ hn]; exact h0.block b hb⟩, h1.setRow _, Below.row (HR.out.2.2.trans h0) HS.out.2.1 _⟩
  have hkn : (k : Int) < (n : Int) := by omega
  have c0 := HR.out.1.cell (j := 0) rfl
  clear h hk hb hat hle hlt a0 a1 r0 hn
  go_enter Try.func56, Try.ntmps56
  go_wp2_with (first
    | (rw [hW0])
    | (refine wpList_of_run rfl (x_al75 rfl) ?_; rw [hW1]))
  refine wp_region_noPanic ?_
  refine wp_region_held_drew (S := KeptF (fun b => b = g4) W1) (by kernel_rfl) (KeptF.of_after (After.drew (After.refl _))) ?_
  intro hS0
  refine tk 0 11 (.pointer (some ⟨g2, 0, none⟩)) (fuel := 13) rfl (by kernel_rfl) (by kernel_rfl) (by kernel_rfl) (by kernel_rfl) noPanic_false (by kernel_rfl) (fun _ _ => by kernel_rfl) hS0 ?_
  refine tk 1 12 (.slice (some ⟨gb, 0, none⟩) n c) (fuel := 12) rfl (by kernel_rfl) (by kernel_rfl) (by kernel_rfl) (by kernel_rfl) noPanic_false (by kernel_rfl) (fun W hW => x_loadT (x := .tmp 11) (t := 73) (g := g2) (j := 0) Try.underlying73 rfl (by kernel_rfl) (by kernel_rfl) ((hW.row HR.out.1 HS.out.2.2.2.2.1).cell (j := 0) rfl)) hS0 ?_
  refine tk 2 13 (.int .i64 (k : Int)) (fuel := 11) rfl (by kernel_rfl) (by kernel_rfl) (by kernel_rfl) (by kernel_rfl) noPanic_false (by kernel_rfl) (fun _ _ => by kernel_rfl) hS0 ?_
  refine tk 3 14 (.slice (some ⟨gb, 0, none⟩) k c) (fuel := 10) rfl (by kernel_rfl) (by kernel_rfl) (by kernel_rfl) (by kernel_rfl) noPanic_false (by kernel_rfl) (fun W _ => x_slice (x := .tmp 12) (y := .tmp 13) (len := n) (k := k) (by kernel_rfl) (by kernel_rfl) (by kernel_rfl) HK.out.2.1) hS0 ?_
  refine tk 4 15 (.pointer (some ⟨g2, 0, none⟩)) (fuel := 9) rfl (by kernel_rfl) (by kernel_rfl) (by kernel_rfl) (by kernel_rfl) noPanic_false (by kernel_rfl) (fun _ _ => by kernel_rfl) hS0 ?_
  refine tk 5 16 (.slice (some ⟨gb, 0, none⟩) n c) (fuel := 8) rfl (by kernel_rfl) (by kernel_rfl) (by kernel_rfl) (by kernel_rfl) noPanic_false (by kernel_rfl) (fun W hW => x_loadT (x := .tmp 15) (t := 73) (g := g2) (j := 0) Try.underlying73 rfl (by kernel_rfl) (by kernel_rfl) ((hW.row HR.out.1 HS.out.2.2.2.2.1).cell (j := 0) rfl)) hS0 ?_
  refine tk 6 17 (.int .i64 (k : Int)) (fuel := 7) rfl (by kernel_rfl) (by kernel_rfl) (by kernel_rfl) (by kernel_rfl) noPanic_false (by kernel_rfl) (fun _ _ => by kernel_rfl) hS0 ?_
  refine tk 7 18 (.slice (cutAt (some ⟨gb, 0, none⟩) k c) (n - k) (c - k)) (fuel := 6) rfl (by kernel_rfl) (by kernel_rfl) (by kernel_rfl) (by kernel_rfl) noPanic_false (by kernel_rfl) (fun W _ => x_from73 (x := .tmp 16) (y := .tmp 17) (fun h => by cases h) HK.out.2.2 HK.out.1 (by kernel_rfl) (by kernel_rfl) (by kernel_rfl)) hS0 ?_
  refine tk 8 19 (.string (strOf (a.drop k))) (fuel := 5) rfl (by kernel_rfl) (by kernel_rfl) (by kernel_rfl) (by kernel_rfl) noPanic_false (by kernel_rfl) (fun W hW => x_conv (x := .tmp 18) (v := .slice (cutAt (some ⟨gb, 0, none⟩) k c) (n - k) (c - k)) (by kernel_rfl) (by kernel_rfl) (HC.out W hW)) hS0 ?_
  refine tk 9 20 (.pointer (some ⟨g2, 1, none⟩)) (fuel := 4) rfl (by kernel_rfl) (by kernel_rfl) (by kernel_rfl) (by kernel_rfl) noPanic_false (by kernel_rfl) (fun _ _ => by kernel_rfl) hS0 ?_
  refine tk 10 21 (.string (strOf b)) (fuel := 3) rfl (by kernel_rfl) (by kernel_rfl) (by kernel_rfl) (by kernel_rfl) noPanic_false (by kernel_rfl) (fun W hW => x_loadT (x := .tmp 20) (t := 9) (g := g2) (j := 1) Try.underlying9 rfl (by kernel_rfl) (by kernel_rfl) ((hW.row HR.out.1 HS.out.2.2.2.2.1).cell (j := 1) rfl)) hS0 ?_
  refine tk 11 22 (.string (strOf (a.drop k ++ b))) (fuel := 2) rfl (by kernel_rfl) (by kernel_rfl) (by kernel_rfl) (by kernel_rfl) noPanic_false (by kernel_rfl) (fun W _ => x_cat (x := .tmp 19) (y := .tmp 21) (p := a.drop k) (q := b) (by kernel_rfl) (by kernel_rfl) (by kernel_rfl) HL.out) hS0 ?_
  refine tk 12 23 (.agg #[.slice (some ⟨gb, 0, none⟩) k c, .string (strOf (a.drop k ++ b))]) (fuel := 1) rfl (by kernel_rfl) (by kernel_rfl) (by kernel_rfl) (by kernel_rfl) noPanic_false (by kernel_rfl) (fun W _ => x_bld75 (x := .tmp 14) (y := .tmp 22) (by kernel_rfl) (by kernel_rfl) (by kernel_rfl) (built75 _ _ _ _)) hS0 ?_
  refine tkStore 13 g4 75 (.tmp 4) (.tmp 23) #[.slice (some ⟨gb, 0, none⟩) k c, .string (strOf (a.drop k ++ b))] #[.slice none 0 0, .string (strOf [])] 75 (fuel := 0) rfl (by kernel_rfl) (by kernel_rfl) (by kernel_rfl) (by kernel_rfl) (by kernel_rfl) (by kernel_rfl) (show RowIs W1.drew g4 75 _ from HR.out.2.1.below (After.drew (After.refl W1)) HR.out.2.1.lt) (size75 _ _) rfl (by simp [Value.oneCell']) (by rw [hW2]; exact HST.out.1) ?_
  refine wpAnyH_done (by kernel_rfl) (NoPanic.normal ?_) _
  rw [hW2]
  clear hS0
  go_simp
  go_wp2_with fail
  refine ⟨rfl, _, ret75 Try.results56 _ _ g4 _ _ rfl HST.out.2.1, rfl, ?_, HST.out.2.2⟩
  exact (HS.out.2.2.1.below HST.out.2.2 (Nat.le_refl _)).cut k HS.out.2.2.2.1
set_option maxRecDepth 100000 in
set_option maxHeartbeats 6400000 in
theorem from56_out {w : World} {base : Nat} {ao : Option Addr} {n c k : Nat} {a b : Nm} (h : Own w base (.slice ao n c) a) (hk : a.length ≤ k) (hk2 : k ≤ a.length + b.length) (hb : a.length + b.length ≤ 140737488355328) (hbase : base ≤ w.heap.size) :
    Calls Try.prog 56 #[.agg #[.slice ao n c, .string (strOf b)], .int .i64 (k : Int)] w fun e w' => ∃ va vn vc, e = .returned (.agg #[.slice va vn vc, .string (strOf (b.drop (k - a.length)))]) ∧ Own w' base (.slice va vn vc) (a ++ b.take (k - a.length)) ∧ KeptF (fun j => (Value.slice ao n c).ownBlock = some j) w w' := by
  obtain ⟨ao', cap, e, hat, hle, hlt⟩ := h.at
  injection e with e1 e2 e3
  subst e1 e2 e3
  obtain ⟨m, hm⟩ : ∃ m, k - a.length = m := ⟨_, rfl⟩
  rw [hm]
  obtain ⟨n, hn⟩ : ∃ n, a.length = n := ⟨_, rfl⟩
  rw [hn] at h hk hk2 hb hle hm ⊢
  obtain ⟨W0, hW0⟩ : ∃ W0, w.alloc (.cells #[.slice ao n c, .string (strOf b)] 75) = W0 := ⟨_, rfl⟩
  obtain ⟨W1, hW1⟩ : ∃ W1, W0.alloc (.cells #[.slice none 0 0, .string (strOf [])] 75) = W1 := ⟨_, rfl⟩
  obtain ⟨g2, hg2⟩ : ∃ g2, w.heap.size = g2 := ⟨_, rfl⟩
  obtain ⟨g4, hg4⟩ : ∃ g4, W0.heap.size = g4 := ⟨_, rfl⟩
  have a0 : After w W0 := by rw [← hW0]; exact after_alloc (After.refl w) _
  have a1 : After W0 W1 := by rw [← hW1]; exact after_alloc (After.refl W0) _
  have r0 : RowIs W0 g2 75 [.slice ao n c, .string (strOf b)] := by rw [← hW0, ← hg2]; exact RowIs.new w 75 _
  have HR : Hid (RowIs W1 g2 75 [.slice ao n c, .string (strOf b)] ∧ RowIs W1 g4 75 [.slice none 0 0, .string (strOf [])] ∧ After w W1) := ⟨r0.below a1 r0.lt, by rw [← hW1, ← hg4]; exact RowIs.new W0 75 _, a0.trans a1⟩
  have HK : Hid (m ≤ b.length ∧ n ≤ k ∧ k ≤ 9223372036854775807) := ⟨by omega, hk, by omega⟩
  have hob : ∀ j, (Value.slice ao n c).ownBlock = some j → j < w.heap.size := fun j hj => (own_lt h hj).2.1
  have HS : Hid (After w W1 ∧ w.heap.size ≤ g4 ∧ Own w base (.slice ao n c) a ∧ True ∧ ¬ (g2 = g4 ∨ (Value.slice ao n c).ownBlock = some g2)) := ⟨HR.out.2.2, by rw [← hg4]; exact a0.size, h, trivial, fun q => by
    rcases q with q | q
    · rw [← hg4] at q; have := r0.lt; omega
    · have := hob g2 q; omega⟩
  have ad : After W1 W1.drew := After.drew (After.refl W1)
  obtain ⟨va, vn, vc, W2, hap, hown, hgr⟩ := app73 (w := W1.drew) (base := base) (s := b.take m) (h.below (HR.out.2.2.trans ad) (Nat.le_refl _)) (by rw [hn, List.length_take]; omega) (by have := (HR.out.2.2.trans ad).size; omega)
  have HAP := show Hid _ from hap
  have k2 : KeptF (fun b => b = g4 ∨ (Value.slice ao n c).ownBlock = some b) W1 W2 := (KeptF.of_after (F := fun b => b = g4 ∨ (Value.slice ao n c).ownBlock = some b) ad).trans (KeptF.of_grown (F := fun b => b = g4 ∨ (Value.slice ao n c).ownBlock = some b) hgr (fun b hb => .inr hb)) (fun _ _ h => h)
  have n4 : ¬ (Value.slice ao n c).ownBlock = some g4 := fun q => by have := hob g4 q; have := HS.out.2.1; omega
  have HK2 : Hid (KeptF (fun b => b = g4 ∨ (Value.slice ao n c).ownBlock = some b) W1 W2 ∧ RowIs W2 g4 75 [.slice none 0 0, .string (strOf [])]) := ⟨k2, by
    have := HR.out.2.1
    have h1 : RowIs W1.drew g4 75 [.slice none 0 0, .string (strOf [])] := this.below ad this.lt
    unfold RowIs
    rw [hgr.block g4 h1.lt (fun e => n4 e.symm)]; exact h1⟩
  obtain ⟨W3, hW3⟩ : ∃ W3, W2.setRow g4 #[.slice va vn vc, .string (strOf (b.drop m))] = W3 := ⟨_, rfl⟩
  have HST : Hid (KeptF (fun b => b = g4 ∨ (Value.slice ao n c).ownBlock = some b) W1 W3 ∧ RowIs W3 g4 75 [.slice va vn vc, .string (strOf (b.drop m))] ∧ KeptF (fun j => (Value.slice ao n c).ownBlock = some j) w W3 ∧ Own W3 base (.slice va vn vc) (a ++ b.take m)) := by
    have k3 : KeptF (fun b => b = g4 ∨ (Value.slice ao n c).ownBlock = some b) W2 W3 := by
      rw [← hW3]
      exact ⟨rfl, rfl, rfl, by simp, fun b hb hn => Go.setRow_other _ _ _ _ (fun e => hn (.inl e))⟩
    have k13 := HK2.out.1.trans k3 (fun _ _ h => h)
    refine ⟨k13, by rw [← hW3]; exact HK2.out.2.setRow _, ⟨k13.os.trans HR.out.2.2.os, k13.tape.trans HR.out.2.2.tape, k13.output.trans HR.out.2.2.output, Nat.le_trans HR.out.2.2.size k13.size, fun j hj hn => ?_⟩, ?_⟩
    · refine (k13.block j (Nat.lt_of_lt_of_le hj HR.out.2.2.size) (fun q => ?_)).trans (HR.out.2.2.block j hj)
      rcases q with q | q
      · have := HS.out.2.1; omega
      · exact hn q
    · refine hown.same (fun g hg => ?_)
      rw [← hW3]
      refine Go.setRow_other _ _ _ _ (fun q => ?_)
      obtain ⟨_, _, cs, hr⟩ := own_lt hown hg
      rw [q] at hr
      exact absurd (hr.ty HK2.out.2).1 (by decide)
  clear hap hown hgr k2 n4 hob h hat hle hlt a0 a1 r0 hn hb hbase ad
  have hkn : ¬ (k : Int) < (n : Int) := by omega
  have c0 := HR.out.1.cell (j := 0) rfl
  have HM : Hid (k - n = m) := hm
  clear hk hk2 hm
  go_enter Try.func56, Try.ntmps56
  go_wp2_with (first
    | (rw [hW0])
    | (refine wpList_of_run rfl (x_al75 rfl) ?_; rw [hW1])
    | (refine wpList_of_run rfl (x_subn (x := .tmp 24) (y := .tmp 27) (p := k) (q := n) HK.out.2.1 HK.out.2.2 rfl (by kernel_rfl) (by kernel_rfl)) ?_; rw [HM.out]))
  refine wp_region_noPanic ?_
  refine wp_region_held_drew (S := KeptF (fun b => b = g4 ∨ (Value.slice ao n c).ownBlock = some b) W1) (by kernel_rfl) (KeptF.of_after (After.drew (After.refl _))) ?_
  intro hS0
  refine tk 0 29 (.pointer (some ⟨g2, 0, none⟩)) (fuel := 12) rfl (by kernel_rfl) (by kernel_rfl) (by kernel_rfl) (by kernel_rfl) noPanic_false (by kernel_rfl) (fun _ _ => by kernel_rfl) hS0 ?_
  refine tk 1 30 (.slice ao n c) (fuel := 11) rfl (by kernel_rfl) (by kernel_rfl) (by kernel_rfl) (by kernel_rfl) noPanic_false (by kernel_rfl) (fun W hW => x_loadT (x := .tmp 29) (t := 73) (g := g2) (j := 0) Try.underlying73 rfl (by kernel_rfl) (by kernel_rfl) ((hW.row HR.out.1 HS.out.2.2.2.2).cell (j := 0) rfl)) hS0 ?_
  refine tk 2 31 (.pointer (some ⟨g2, 1, none⟩)) (fuel := 10) rfl (by kernel_rfl) (by kernel_rfl) (by kernel_rfl) (by kernel_rfl) noPanic_false (by kernel_rfl) (fun _ _ => by kernel_rfl) hS0 ?_
  refine tk 3 32 (.string (strOf b)) (fuel := 9) rfl (by kernel_rfl) (by kernel_rfl) (by kernel_rfl) (by kernel_rfl) noPanic_false (by kernel_rfl) (fun W hW => x_loadT (x := .tmp 31) (t := 9) (g := g2) (j := 1) Try.underlying9 rfl (by kernel_rfl) (by kernel_rfl) ((hW.row HR.out.1 HS.out.2.2.2.2).cell (j := 1) rfl)) hS0 ?_
  refine tk 4 33 (.int .i64 (m : Int)) (fuel := 8) rfl (by kernel_rfl) (by kernel_rfl) (by kernel_rfl) (by kernel_rfl) noPanic_false (by kernel_rfl) (fun _ _ => by kernel_rfl) hS0 ?_
  refine tk 5 34 (.string (strOf (b.take m))) (fuel := 7) rfl (by kernel_rfl) (by kernel_rfl) (by kernel_rfl) (by kernel_rfl) noPanic_false (by kernel_rfl) (fun W _ => x_sl9 (x := .tmp 32) (y := .tmp 33) (l := b) (k := m) (by kernel_rfl) (by kernel_rfl) (by kernel_rfl) HK.out.1) hS0 ?_
  refine tk 7 36 (.pointer (some ⟨g2, 1, none⟩)) (fuel := 6) rfl (by kernel_rfl) (by kernel_rfl) (by kernel_rfl) (by kernel_rfl) noPanic_false (by kernel_rfl) (fun _ _ => by kernel_rfl) hS0 ?_
  refine tk 8 37 (.string (strOf b)) (fuel := 5) rfl (by kernel_rfl) (by kernel_rfl) (by kernel_rfl) (by kernel_rfl) noPanic_false (by kernel_rfl) (fun W hW => x_loadT (x := .tmp 36) (t := 9) (g := g2) (j := 1) Try.underlying9 rfl (by kernel_rfl) (by kernel_rfl) ((hW.row HR.out.1 HS.out.2.2.2.2).cell (j := 1) rfl)) hS0 ?_
  refine tk 9 38 (.int .i64 (m : Int)) (fuel := 4) rfl (by kernel_rfl) (by kernel_rfl) (by kernel_rfl) (by kernel_rfl) noPanic_false (by kernel_rfl) (fun _ _ => by kernel_rfl) hS0 ?_
  refine tk 10 39 (.string (strOf (b.drop m))) (fuel := 3) rfl (by kernel_rfl) (by kernel_rfl) (by kernel_rfl) (by kernel_rfl) noPanic_false (by kernel_rfl) (fun W _ => x_sl9l (x := .tmp 37) (y := .tmp 38) (l := b) (k := m) (by kernel_rfl) (by kernel_rfl) (by kernel_rfl) HK.out.1) hS0 ?_
  refine tkRunS 6 35 (.slice va vn vc) (W2) (fuel := 2) rfl (by kernel_rfl) (by kernel_rfl) (by kernel_rfl) (x_appS (s := .tmp 30) (x := .tmp 34) (v := .slice ao n c) (u := .string (strOf (b.take m))) (by kernel_rfl) (by kernel_rfl) (by kernel_rfl) HAP.out) (HK2.out.1) ?_
  refine tk 11 40 (.agg #[.slice va vn vc, .string (strOf (b.drop m))]) (fuel := 1) rfl (by kernel_rfl) (by kernel_rfl) (by kernel_rfl) (by kernel_rfl) noPanic_false (by kernel_rfl) (fun W _ => x_bld75 (x := .tmp 35) (y := .tmp 39) (by kernel_rfl) (by kernel_rfl) (by kernel_rfl) (built75 _ _ _ _)) HK2.out.1 ?_
  refine tkStore 12 g4 75 (.tmp 4) (.tmp 40) #[.slice va vn vc, .string (strOf (b.drop m))] #[.slice none 0 0, .string (strOf [])] 75 (fuel := 0) rfl (by kernel_rfl) (by kernel_rfl) (by kernel_rfl) (by kernel_rfl) (by kernel_rfl) (by kernel_rfl) HK2.out.2 (size75 _ _) rfl (by simp [Value.oneCell']) (by rw [hW3]; exact HST.out.1) ?_
  refine wpAnyH_done (by kernel_rfl) (NoPanic.normal ?_) _
  rw [hW3]
  clear hS0
  go_simp
  go_wp2_with fail
  refine ⟨rfl, _, ret75 Try.results56 _ _ g4 _ _ rfl HST.out.2.1, va, vn, vc, rfl, HST.out.2.2.2, HST.out.2.2.1⟩
end Go.Proofs.Ytiihdhnmgbhgkaa
