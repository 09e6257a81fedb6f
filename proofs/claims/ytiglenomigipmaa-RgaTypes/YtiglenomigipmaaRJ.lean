/-
  A ROW IN MEMORY that grows by one cell: what is built, appended and laid in the map.
-/
import Derived.Test.YtiglenomigipmaaRI
namespace Go.Proofs.Ytiglenomigipmaa
open Go.RowKit Go.Maps Go.WideMaps Go.WideAt Mp
theorem len32 : ∀ {h : List UInt8}, h.length = 32 → ∃ b0 b1 b2 b3 b4 b5 b6 b7 b8 b9 b10 b11 b12 b13 b14 b15 b16 b17 b18 b19 b20 b21 b22 b23 b24 b25 b26 b27 b28 b29 b30 b31, h = [b0, b1, b2, b3, b4, b5, b6, b7, b8, b9, b10, b11, b12, b13, b14, b15, b16, b17, b18, b19, b20, b21, b22, b23, b24, b25, b26, b27, b28, b29, b30, b31] := fun {h} hl => by
  rcases h with _ | ⟨b0, h⟩
  · simp at hl
  rcases h with _ | ⟨b1, h⟩
  · simp at hl
  rcases h with _ | ⟨b2, h⟩
  · simp at hl
  rcases h with _ | ⟨b3, h⟩
  · simp at hl
  rcases h with _ | ⟨b4, h⟩
  · simp at hl
  rcases h with _ | ⟨b5, h⟩
  · simp at hl
  rcases h with _ | ⟨b6, h⟩
  · simp at hl
  rcases h with _ | ⟨b7, h⟩
  · simp at hl
  rcases h with _ | ⟨b8, h⟩
  · simp at hl
  rcases h with _ | ⟨b9, h⟩
  · simp at hl
  rcases h with _ | ⟨b10, h⟩
  · simp at hl
  rcases h with _ | ⟨b11, h⟩
  · simp at hl
  rcases h with _ | ⟨b12, h⟩
  · simp at hl
  rcases h with _ | ⟨b13, h⟩
  · simp at hl
  rcases h with _ | ⟨b14, h⟩
  · simp at hl
  rcases h with _ | ⟨b15, h⟩
  · simp at hl
  rcases h with _ | ⟨b16, h⟩
  · simp at hl
  rcases h with _ | ⟨b17, h⟩
  · simp at hl
  rcases h with _ | ⟨b18, h⟩
  · simp at hl
  rcases h with _ | ⟨b19, h⟩
  · simp at hl
  rcases h with _ | ⟨b20, h⟩
  · simp at hl
  rcases h with _ | ⟨b21, h⟩
  · simp at hl
  rcases h with _ | ⟨b22, h⟩
  · simp at hl
  rcases h with _ | ⟨b23, h⟩
  · simp at hl
  rcases h with _ | ⟨b24, h⟩
  · simp at hl
  rcases h with _ | ⟨b25, h⟩
  · simp at hl
  rcases h with _ | ⟨b26, h⟩
  · simp at hl
  rcases h with _ | ⟨b27, h⟩
  · simp at hl
  rcases h with _ | ⟨b28, h⟩
  · simp at hl
  rcases h with _ | ⟨b29, h⟩
  · simp at hl
  rcases h with _ | ⟨b30, h⟩
  · simp at hl
  rcases h with _ | ⟨b31, h⟩
  · simp at hl
  rcases h with _ | ⟨x, h⟩
  · exact ⟨b0, b1, b2, b3, b4, b5, b6, b7, b8, b9, b10, b11, b12, b13, b14, b15, b16, b17, b18, b19, b20, b21, b22, b23, b24, b25, b26, b27, b28, b29, b30, b31, rfl⟩
  · simp at hl
/-- A cell's own cells: without what is below. -/
def ccell (id : Idn) (ch : UInt8) (gone : Bool) : List Value := idc id ++ [.int .u8 (ch.toNat : Int), .bool gone]
theorem ccell_len {id : Idn} (h : id.Ok) (ch : UInt8) (gone : Bool) : (ccell id ch gone).length = 35 := by simp [ccell, idc_len h]
set_option maxRecDepth 100000 in
theorem built63 {b : H} (h32 : b.length = 32) (c ch : Int) : Try.prog.built 63 [(0, .agg (Value.int .i64 c :: c8 b).toArray), (1, .int .u8 ch)] = some ((Value.int .i64 c :: c8 b) ++ [Value.int .u8 ch, .bool false]).toArray := by
  obtain ⟨b0, b1, b2, b3, b4, b5, b6, b7, b8, b9, b10, b11, b12, b13, b14, b15, b16, b17, b18, b19, b20, b21, b22, b23, b24, b25, b26, b27, b28, b29, b30, b31, rfl⟩ := len32 h32
  kernel_rfl
set_option maxRecDepth 100000 in
theorem built88 {b : H} (h32 : b.length = 32) (c ch : Int) : Try.prog.built 88 [(0, .agg ((Value.int .i64 c :: c8 b) ++ [Value.int .u8 ch, .bool false]).toArray)] = some ((Value.int .i64 c :: c8 b) ++ [Value.int .u8 ch, .bool false, .slice none 0 0]).toArray := by
  obtain ⟨b0, b1, b2, b3, b4, b5, b6, b7, b8, b9, b10, b11, b12, b13, b14, b15, b16, b17, b18, b19, b20, b21, b22, b23, b24, b25, b26, b27, b28, b29, b30, b31, rfl⟩ := len32 h32
  kernel_rfl
section
variable {oi : Oper} {a : Act} {w : World}
theorem x_bld63 {x y : Operand} {id : Idn} {ch : UInt8} (hid : id.Ok) (hop : oi.op = .build 63 #[(0, x), (1, y)]) (hx : a.eval x = idv id) (hy : a.eval y = .int .u8 (ch.toNat : Int)) : (execOp a.eval oi).run Try.prog w = .ok (.value (.agg (ccell id ch false).toArray)) w := by
  have h := run_build (P := Try.prog) w 63 #[(0, idv id), (1, .int .u8 (ch.toNat : Int))] (ccell id ch false).toArray (built63 hid.len _ _)
  unfold execOp
  simp only [hop]
  simp [hx, hy, h]
theorem x_bld88 {x : Operand} {id : Idn} {ch : UInt8} (hid : id.Ok) (hop : oi.op = .build 88 #[(0, x)]) (hx : a.eval x = .agg (ccell id ch false).toArray) : (execOp a.eval oi).run Try.prog w = .ok (.value (.agg (scell ⟨id, ch, false, []⟩ (.slice none 0 0)).toArray)) w := by
  have h := run_build (P := Try.prog) w 88 #[(0, .agg (ccell id ch false).toArray)] (scell ⟨id, ch, false, []⟩ (.slice none 0 0)).toArray (built88 hid.len _ _)
  unfold execOp
  simp only [hop]
  simp [hx, h]
theorem x_zb37 (hop : oi.op = .build 37 #[]) : (execOp a.eval oi).run Try.prog w = .ok (.value (idv zId)) w := by
  have h := run_build (P := Try.prog) w 37 #[] (idc zId).toArray (by kernel_rfl)
  unfold execOp
  simp only [hop]
  simp [h]
  rfl
set_option maxRecDepth 100000 in
theorem x_bs72 {x : Operand} {cs : List Value} (hl : cs.length = 36) (hop : oi.op = .buildSlice 72 1 #[(0, x)]) (hx : a.eval x = .agg cs.toArray) : (execOp a.eval oi).run Try.prog w = .ok (.value (.slice (some ⟨w.heap.size, 0, none⟩) 1 1)) (w.alloc (.cells cs.toArray 88)) := by
  obtain ⟨i, z, hi, hz, hsz, hby, hzc⟩ := info88
  have hzs : z.cells.size = 36 := by rw [hzc]; simp [scell_len (s := root) zId_ok]
  have hb : (Instr.buildSlice 72 1 #[(0, .agg cs.toArray)]).run Try.prog w = .ok (.slice (some ⟨w.heap.size, 0, none⟩) 1 1) (w.alloc (.cells cs.toArray 88)) := by
    refine run_buildSlice (P := Try.prog) w 72 88 1 #[(0, .agg cs.toArray)] cs.toArray i z Try.underlying72 hi hz (by rw [hsz]; omega) (by rw [hsz]; omega) ?_
    rw [hsz]
    have := Great.fill_whole (s := 36) (by omega) [Value.agg cs.toArray] ((Array.range (1 * 36)).map (z.cells[· % z.cells.size]!)) (fun v hv' => by rw [List.mem_singleton] at hv'; subst hv'; simp [Value.cells, hl]) (by simp)
    refine Eq.trans this ?_
    simp [Value.cells]
  unfold execOp
  simp [hop, hx, hb]
theorem x_app72 {s x : Operand} {v u v' : Value} {w' : World} (hop : oi.op = .call { callee := .builtin .append, args := #[s, x], argTypes := #[72, 72] }) (hs : a.eval s = v) (hx : a.eval x = u) (hr : (Builtin.append_ #[72, 72] oi.type #[v, u]).run Try.prog w = .ok v' w') : (execOp a.eval oi).run Try.prog w = .ok (.value v') w' := by
  unfold execOp
  simp only [hop, resolve, invoke, builtin, Sem.run_bind, Sem.run_pure, Result.andThen_ok, List.map_toArray, List.map_cons, List.map_nil, hs, hx, hr]
theorem x_st72 {x y : Operand} {g p : Nat} {va : Option Addr} {m c : Nat} {u : Value} (hop : oi.op = .store 72 x y) (hx : a.eval x = .pointer (some ⟨g, p, none⟩)) (hy : a.eval y = .slice va m c) (hc : w.cell? ⟨g, p, none⟩ = some u) (hf : w.frozen? ⟨g, p, none⟩ = false) : (execOp a.eval oi).run Try.prog w = .ok .skip (w.setCell ⟨g, p, none⟩ (.slice va m c)) := by
  unfold execOp
  simp only [hop, hx, hy]
  simp [go_sem, hc, hf, Instr.storeAt, Instr.sureAddr]
theorem x_mput {m x y : Operand} {b p : Nat} {z : Idn} {w' : World} (hop : oi.op = .mapUpdate 73 m x y) (hm : a.eval m = .map (some b)) (hx : a.eval x = idv z) (hy : a.eval y = pv p) (hr : (Instr.mapUpdate 73 (.map (some b)) (idv z) (pv p)).run Try.prog w = .ok () w') : (execOp a.eval oi).run Try.prog w = .ok .skip w' := by
  unfold execOp
  simp only [hop, hm, hx, hy, Sem.run_bind, hr, Result.andThen_ok, Sem.run_pure]
end
theorem scell_one (s : Stm) (v : Value) (hv : v.oneCell' = true) : ∀ u ∈ scell s v, u.oneCell' = true := fun u hu => by
  rcases List.mem_append.1 hu with h | h
  · exact idc_one _ u h
  · simp only [List.mem_cons, List.not_mem_nil, or_false] at h
    rcases h with h | h | h
    · subst h; rfl
    · subst h; rfl
    · subst h; exact hv
/-- A stem more. -/
theorem run_app72 {w : World} {base : Nat} {v : Value} {L : List (List Value)} (ty : TypeId) (h : OwnL w base 88 36 v L) {s : Stm} (hs : s.id.Ok) {g : Nat} (hr : RowIs w g 88 (scell s (.slice none 0 0))) (hl : L.length ≤ 1000000) (hb : base ≤ w.heap.size) :
    ∃ va m vc w', (Builtin.append_ #[72, 72] ty #[v, .slice (some ⟨g, 0, none⟩) 1 1]).run Try.prog w = .ok (.slice va m vc) w' ∧ OwnL w' base 88 36 (.slice va m vc) (L ++ [scell s (.slice none 0 0)]) ∧ w.grownBy w' v.ownBlock ∧ ((Value.slice va m vc).ownBlock = v.ownBlock ∨ (Value.slice va m vc).ownBlock = some w.heap.size) := by
  obtain ⟨i, z, hi, hz, hsz, hby, hzc⟩ := info88
  have hzs : z.cells.size = 36 := by rw [hzc]; simp [scell_len (s := root) zId_ok]
  obtain ⟨v', w', h1, h2, h3, _, h5⟩ := run_append_own_at (P := Try.prog) w base 72 ty 88 i z 36 72 Try.underlying72 hi hz hsz hby hzs (by omega) v L.length L.flatten h.2 ⟨g, 0, none⟩ 1 1 (scell s (.slice none 0 0)) (by rw [scell_len hs]) (fun j u hu => by rw [Addr.add_lit]; exact hr.cellsAt j u hu) (scell_one s _ rfl) (by unfold maxLen; omega) (by omega) hb
  have hu := h.1.snoc (x := scell s (.slice none 0 0)) (scell_len hs _)
  have h2' : OwnL w' base 88 36 v' (L ++ [scell s (.slice none 0 0)]) := ⟨hu, by rw [List.length_append, List.flatten_append]; simpa using h2⟩
  obtain ⟨g2, cap2, cs2, he, _⟩ := h2'.row (by simp)
  subst he
  exact ⟨_, _, _, w', h1, h2', h3, h5⟩
theorem stems_snoc {st : List Stm} {vs : List Value} (h : vs.length = st.length) (s : Stm) (v : Value) : stems (st ++ [s]) (vs ++ [v]) = stems st vs ++ [scell s v] := by
  unfold stems
  rw [List.zipWith_append h.symm]
  rfl
theorem but_turned {W W' : World} {b : Nat} (h : W.mapTurned W' b) : But b W W' := by
  obtain ⟨es, clock, es', clock', hb, rfl⟩ := h
  exact ⟨rfl, rfl, rfl, by simp [Go.ChangeMaps.setBlock], fun k _ hk => Go.ChangeMaps.heap_setBlock_other hb _ hk⟩
theorem tight {W : World} {b n : Nat} {l : List (H × Value)} (h : W.ownsMap Try.prog 37 Rv b n (.map (toE l))) : W.ownsMap Try.prog 37 Rv b l.length (.map (toE l)) := by
  obtain ⟨es, clock, hb, F, _, hD⟩ := h
  refine ⟨es, clock, hb, F, ?_, hD⟩
  injection hD with hD
  have := congrArg List.length hD
  rw [length_sorted] at this
  simp [toE] at this
  omega
theorem fget_put_ne {α : Type} {nm k : H} {x : α} {l : List (H × α)} (h : rising l) (hne : k ≠ nm) : fget k (fput nm x l) = fget k l := by
  cases e : fget k l with
  | some y => exact rising_get (fput_rising nm x h) ((fput_mem nm x l (k, y)).2 (.inr ⟨fget_mem e, hne⟩))
  | none =>
    cases e2 : fget k (fput nm x l) with
    | none => rfl
    | some y =>
      rcases (fput_mem nm x l (k, y)).1 (fget_mem e2) with h1 | h1
      · injection h1 with h1; exact absurd h1 hne
      · rw [rising_get h h1.1] at e; cases e
theorem fput_len_new {α : Type} {nm : H} {x : α} {l : List (H × α)} (h : fget nm l = none) : (fput nm x l).length = l.length + 1 := by
  unfold fput
  rw [fins_len]
  congr 1
  have hh : fhas nm l = false := fget_none.1 h
  unfold fdel
  rw [List.filter_eq_self.2]
  intro p hp
  unfold fhas at hh
  have := List.any_eq_false.1 hh p hp
  simpa using this
theorem plc_snoc {st : List Stm} {s : Stm} (hne : st ≠ []) (hx : plc st s.id = none) (y : Idn) : plc (st ++ [s]) y = if y = s.id then some st.length else plc st y := by
  obtain ⟨r, l, rfl⟩ : ∃ r l, st = r :: l := by cases st with | nil => exact absurd rfl hne | cons r l => exact ⟨r, l, rfl⟩
  unfold plc at hx ⊢
  simp only [List.cons_append, List.map_cons, List.tail_cons, List.map_append, List.map_nil, Option.map_eq_none_iff] at hx ⊢
  rw [List.findIdx?_append]
  by_cases e : y = s.id
  · rw [if_pos e, e, hx]; simp
  · rw [if_neg e]
    have : ¬ s.id = y := fun h => e h.symm
    simp [this]
/-- An id more in the map. -/
theorem MapAt.put {W : World} {b : Nat} {st : List Stm} (hm : MapAt W b st) (hne : st ≠ []) {s : Stm} (hs : s.id.Ok) (hx : plc st s.id = none) (hL : st.length ≤ 1000000) :
    ∃ W', (Instr.mapUpdate 73 (.map (some b)) (idv s.id) (pv st.length)).run Try.prog W = .ok () W' ∧ MapAt W' b (st ++ [s]) ∧ But b W W' := by
  obtain ⟨l, h1, h2, h3, h4⟩ := hm.ex
  obtain ⟨W', hrun, ho, ht⟩ := h1.store (t := 73) (e := 3) keyed37 Try.underlying73 (by unfold maxLen; omega) (key := idv s.id) (val := pv st.length) (d := .held (pv st.length)) (ps := []) (keyOf37 hs) rfl
  refine ⟨W', hrun, ?_, but_turned ht⟩
  rw [put_E] at ho
  have hc0 : fget (idb s.id) l = none := by rw [h4 _ hs, hx]; rfl
  refine ⟨fput (idb s.id) (pv st.length) l, tight ho, fput_rising _ _ h2, by rw [fput_len_new hc0, List.length_append, h3]; rfl, fun y hy => ?_⟩
  rw [plc_snoc hne hx]
  by_cases e : y = s.id
  · rw [if_pos e, e, fget_put_same _ _ h2]; rfl
  · rw [if_neg e, fget_put_ne h2 (fun h => e (idb_inj hy hs h))]; exact h4 y hy
end Go.Proofs.Ytiglenomigipmaa
