/-
  THE WALK OF (*Hasher).Write.
-/
import Derived.Test.YtpnhklefoafgkaaDoorEnding
import Derived.Test.YtpnhklefoafgkaaDoorPlainThree
namespace Go.Proofs.YtpnhklefoafgkaaDoor
open Go.RowKit Sha
/-- Nothing that was there has turned, but for block g. -/
structure But (g : Nat) (w w' : World) : Prop where
  os : w'.os = w.os
  tape : w'.tape = w.tape
  output : w'.output = w.output
  size : w.heap.size ≤ w'.heap.size
  block : ∀ k, k < w.heap.size → k ≠ g → w'.heap[k]? = w.heap[k]?
theorem But.refl (g : Nat) (w : World) : But g w w := ⟨rfl, rfl, rfl, Nat.le_refl _, fun _ _ _ => rfl⟩
theorem But.trans {g : Nat} {a b c : World} (h : But g a b) (k : But g b c) : But g a c :=
  ⟨k.os.trans h.os, k.tape.trans h.tape, k.output.trans h.output, Nat.le_trans h.size k.size, fun i hi hg => (k.block i (Nat.lt_of_lt_of_le hi h.size) hg).trans (h.block i hi hg)⟩
theorem But.of_below {g : Nat} {a b : World} (h : Below a.heap.size a b) : But g a b := ⟨h.os, h.tape, h.output, h.size, fun k hk _ => h.block k hk⟩
theorem But.drew {g : Nat} {a b : World} (h : But g a b) : But g a b.drew := ⟨h.os, h.tape, h.output, h.size, h.block⟩
theorem But.setRow {g : Nat} {a b : World} (h : But g a b) (cs : Array Value) : But g a (b.setRow g cs) :=
  ⟨h.os, h.tape, h.output, by have := h.size; simpa using this, fun k hk hg => by rw [Go.setRow_other b g k cs hg]; exact h.block k hk hg⟩
theorem But.setCell {g : Nat} {a b : World} (h : But g a b) (j : Nat) (v : Value) : But g a (b.setCell ⟨g, j, none⟩ v) :=
  ⟨h.os, h.tape, h.output, by have := h.size; simpa using this, fun k hk hg => by rw [heap_setCell_other b _ k v hg]; exact h.block k hk hg⟩
theorem But.row {g g' : Nat} {a b : World} {t : TypeId} {cs : List Value} (h : But g a b) (r : RowIs a g' t cs) (hg : g' ≠ g) : RowIs b g' t cs := by
  unfold RowIs; rw [h.block g' r.lt hg]; exact r
theorem But.cell {g : Nat} {a b : World} (h : But g a b) {p : Addr} {v : Value} (hp : p.block ≠ g) (hc : a.cell? p = some v) : b.cell? p = some v := by
  rw [World.cell?_of_block (w := a) (h.block p.block (block_lt_of_cell hc) hp)]; exact hc
theorem But.tab {g : Nat} {a b : World} (h : But g a b) (hg : 0 ≠ g) (ht : Tab a) : Tab b :=
  ⟨Nat.lt_of_lt_of_le ht.1 h.size, fun j hj => h.cell (p := ⟨0, j, none⟩) hg (ht.2 j hj)⟩
theorem But.below {g B : Nat} {a b : World} (h : But g a b) (hg : B ≤ g) (hB : B ≤ a.heap.size) : Below B a b :=
  ⟨h.os, h.tape, h.output, h.size, fun k hk => h.block k (by omega) (by omega)⟩
/-- The bytes bs lie at a slice's head. -/
def BytesAt (w : World) (ao : Option Addr) (bs : List UInt8) : Prop := bs ≠ [] → ∃ b o, ao = some ⟨b, o, none⟩ ∧ ∀ j, j < bs.length → w.cell? ⟨b, o + j, none⟩ = some (.int .u8 ((bs.getD j 0).toNat : Int))
/-- copy into a row that is known whole, as one step of a region that draws. -/
theorem step_copy_row {ops : Array Oper} {o : Oper} {a : Act} {w : World} {K : Act → World → Prop} {Q : Exit → Act → World → Prop} {E : Prop}
    (hg : o.guard = none) (d s : Operand) (hop : o.op = Op.call { callee := Callee.builtin Builtin.copy, args := #[d, s], argTypes := #[22, 22] })
    (g off dLen dCap : Nat) (hd : a.eval d = .slice (some ⟨g, off, none⟩) dLen dCap) (ad : Addr) (sLen sCap : Nat) (hs : a.eval s = .slice (some ad) sLen sCap)
    (t : TypeId) (cur cs res : List Value) (hr : RowIs w g t cur) (hn : cs.length = Nat.min sLen dLen) (hsrc : ∀ j v, cs[j]? = some v → w.cell? (ad.add j) = some v)
    (m : Nat) (hm : cs.length = m) (hfit : off + cs.length ≤ cur.length) (h1 : ∀ v ∈ cs, v.oneCell' = true) (hres : cur.take off ++ cs ++ cur.drop (off + cs.length) = res)
    (hK : K (a.put o.dst (.int .i64 (m : Int))) (w.setRow g res.toArray)) :
    if Region.wanted o (yielded ops a.tmps) = true then Oper.wp Tryd.prog o a w K Q else E := by
  subst hm
  have hw : Region.wanted o (yielded ops a.tmps) = true := by simp [Region.wanted, hg]
  rw [if_pos hw]
  have hrun := run_copy_row (P := Tryd.prog) w 22 22 o.type 5 g off dLen dCap ad sLen sCap cur.toArray t cs Tryd.underlying22 info5 hr hn hsrc (by simpa using hfit) h1
  simp only [hres] at hrun
  unfold Oper.wp
  simp [execOp, hop, resolve, invoke, builtin, hd, hs, hrun, Result.andThen]
  exact hK
theorem slice54 (g off : Nat) (ho : off < 64) (W : World) : (Instr.sliceAt 54 (.pointer (some ⟨g, 8, none⟩)) (some (.int .i64 (off : Int))) none none).run Tryd.prog W = .ok (.slice (some ⟨g, 8 + off, none⟩) (64 - off) (64 - off)) W := by
  obtain ⟨i, hi, hz⟩ := Option.map_eq_some_iff.1 bytes5
  simp only [Prod.mk.injEq] at hz
  obtain ⟨_, hsz, _⟩ := hz
  have h1 : ¬ (64 = off) := by omega
  simp [Instr.sliceAt, run_underlying Tryd.underlying54, Instr.sureAddr, Instr.sliceBounds, sizeOf, typeInfo, hi, hsz, h1, Addr.add, go_sem]
  rw [if_pos (by omega)]
  by_cases h0 : off = 0
  · subst h0; simp
  · simp [h0]
theorem hcs_copy (h : Hs) (hp : h.part.length = 64) (off : Nat) (xs : List UInt8) (ho : off + xs.length ≤ 64) :
    (hcs h).take (8 + off) ++ c8 xs ++ (hcs h).drop (8 + off + (c8 xs).length) = hcs ⟨h.st, chunk h.part off xs, h.n⟩ := by
  have e8 : (c32 h.st.list).length = 8 := by simp [c32_len, list_len]
  have e64 : (c8 h.part).length = 64 := by rw [c8_len, hp]
  unfold hcs chunk
  rw [c8_len, show 8 + off = (c32 h.st.list).length + off by omega, List.take_length_add_append, show (c32 h.st.list).length + off + xs.length = (c32 h.st.list).length + (off + xs.length) by omega, List.drop_length_add_append,
    List.take_append_of_le_length (by omega), List.drop_append_of_le_length (by omega)]
  simp [c8, List.map_append, List.map_take, List.map_drop]
theorem slice22 (b o len cap m : Nat) (hm : m ≤ len) (hc : len ≤ cap) : ∃ ao : Option Addr, (m < len → ao = some ⟨b, o + m, none⟩) ∧ ∀ W : World, (Instr.sliceAt 22 (.slice (some ⟨b, o, none⟩) len cap) (some (.int .i64 (m : Int))) none none).run Tryd.prog W = .ok (.slice ao (len - m) (cap - m)) W := by
  obtain ⟨i, hi, hz⟩ := Option.map_eq_some_iff.1 bytes5
  simp only [Prod.mk.injEq] at hz
  obtain ⟨_, hsz, _⟩ := hz
  refine ⟨if cap = m then some ⟨b, o, none⟩ else some ((⟨b, o, none⟩ : Addr).add m), fun h => ?_, fun W => ?_⟩
  · rw [if_neg (by omega), Addr.add_mid]
  · by_cases h2 : cap = m
    · simp [Instr.sliceAt, Instr.slice, run_underlying Tryd.underlying22, Instr.sliceBounds, Instr.sliceBound, asIntOf, sizeOf, typeInfo, hi, hsz, h2]
      intro h; omega
    · simp [Instr.sliceAt, Instr.slice, run_underlying Tryd.underlying22, Instr.sliceBounds, Instr.sliceBound, asIntOf, sizeOf, typeInfo, hi, hsz, h2]
      intro h; omega
theorem mixed_lit (s : St) (bs : List UInt8) (hl : bs.length = 64) (w : World) (ht : Tab w) :
    Calls Tryd.prog 26 #[.agg #[.int .u32 (n32 s.a), .int .u32 (n32 s.b), .int .u32 (n32 s.c), .int .u32 (n32 s.d), .int .u32 (n32 s.e), .int .u32 (n32 s.f), .int .u32 (n32 s.g), .int .u32 (n32 s.h)], .agg (c8 bs).toArray] w fun e w' =>
      e = .returned (.agg #[.int .u32 (n32 (mix s bs).a), .int .u32 (n32 (mix s bs).b), .int .u32 (n32 (mix s bs).c), .int .u32 (n32 (mix s bs).d), .int .u32 (n32 (mix s bs).e), .int .u32 (n32 (mix s bs).f), .int .u32 (n32 (mix s bs).g), .int .u32 (n32 (mix s bs).h)]) ∧ Below w.heap.size w w' := mixed_any s bs hl w ht
theorem agg54 (W : World) : (isAgg 54).run Tryd.prog W = .ok true W := by unfold isAgg; rw [Sem.run_bind, run_underlying Tryd.underlying54 W]; rfl
theorem cells54 (W : World) : (sizeOf 54).run Tryd.prog W = .ok 64 W := by
  obtain ⟨i, hi, hz⟩ := Option.map_eq_some_iff.1 size54
  simp [sizeOf, typeInfo, hi, hz]
theorem load54 (W : World) (g o : Nat) (cs : List Value) (hc : W.rangeAt g o cs) (hl : cs.length = 64) : (loadCellsFrom ⟨g, o, none⟩ 0 64 #[]).run Tryd.prog W = .ok cs.toArray W := by
  have := run_loadCells_list (P := Tryd.prog) W ⟨g, o, none⟩ cs (fun j v hv => by rw [Addr.add_mid]; exact hc j v hv)
  rw [hl] at this
  simpa [loadCells] using this
theorem hcs_part (h : Hs) (j : Nat) (v : Value) (hv : (c8 h.part)[j]? = some v) : (hcs h)[8 + j]? = some v := by
  have hj := (List.getElem?_eq_some_iff.1 hv).1
  unfold hcs
  rw [List.getElem?_append_right (by simp [c32_len, list_len])]
  simp only [c32_len, list_len, Nat.add_sub_cancel_left]
  rw [List.getElem?_append_left hj]; exact hv
theorem hcs_st (h : Hs) (j : Nat) (v : Value) (hv : (c32 h.st.list)[j]? = some v) : (hcs h)[j]? = some v := by
  have hj := (List.getElem?_eq_some_iff.1 hv).1
  unfold hcs
  rw [List.getElem?_append_left hj]; exact hv
theorem hcs_set (s : St) (p : List UInt8) (hp : p.length = 64) (n m : Nat) : (hcs ⟨s, p, n⟩).set 72 (.int .i64 ((n : Int) + (m : Int))) = hcs ⟨s, p, n + m⟩ := by
  unfold hcs
  rw [List.set_append_right _ _ (by simp [c32_len, list_len]), List.set_append_right _ _ (by simp [c32_len, c8_len, list_len, hp])]
  simp [c32_len, c8_len, list_len, hp]
/-- One operation of a region that draws, run by its own law. -/
theorem op_of {ops : Array Oper} {Q : Exit → Act → World → Prop} {i : Nat} {o : Oper} {K : Act → World → Prop} {a : Act} {w : World} (ho : ops[i]? = some o)
    (hw : Region.wanted o (yielded ops a.tmps) = true) (h : ∀ K' : Act → World → Prop, (∀ a w, K a w → K' a w) → o.wp Tryd.prog a w K' Q) : wpOp Tryd.prog ops Q i K a w :=
  wpOp_step ho (fun K' hK => by rw [if_pos hw]; exact h K' hK)
/-- A call by its contract. -/
theorem wp_call_of {o : Oper} {a : Act} {w : World} {K : Act → World → Prop} {Q : Exit → Act → World → Prop} {f : FuncId} {args : Array Value} {v : Value} {R : World → Prop}
    (hrun : (execOp a.eval o).run Tryd.prog w = .ok (.enter f args) w) (hc : Calls Tryd.prog f args w fun e w' => e = .returned v ∧ R w') (h : ∀ w', R w' → K (a.put o.dst v) w') : o.wp Tryd.prog a w K Q := by
  unfold Oper.wp
  rw [hrun, Oper.upon_enter]
  exact hc.mono (fun e w' ⟨he, hr⟩ => by subst he; exact h w' hr)
theorem RowIs.setCells {t : TypeId} {g : Nat} : ∀ (vs : List Value) (o : Nat) (w : World) (cs : List Value), RowIs w g t cs → o + vs.length ≤ cs.length → RowIs (w.setCells g o vs) g t (cs.take o ++ vs ++ cs.drop (o + vs.length))
  | [], o, w, cs, h, _ => by simpa [World.setCells] using h
  | v :: r, o, w, cs, h, hl => by
    simp only [List.length_cons] at hl
    have ih := RowIs.setCells r (o + 1) _ _ (h.set o v) (by simp; omega)
    rw [World.setCells]
    have e : (cs.set o v).take (o + 1) ++ r ++ (cs.set o v).drop (o + 1 + r.length) = cs.take o ++ v :: r ++ cs.drop (o + (v :: r).length) := by
      rw [List.drop_set_of_lt (by omega)]
      have e1 : (cs.set o v).take (o + 1) = cs.take o ++ [v] := by
        rw [List.take_succ_eq_append_getElem (by simp; omega)]
        simp [List.take_set_of_le]
      rw [e1]
      simp [Nat.add_comm, Nat.add_left_comm]
    rw [e] at ih
    exact ih
theorem But.setCells {g : Nat} : ∀ (vs : List Value) (o : Nat) {a b : World}, But g a b → But g a (b.setCells g o vs)
  | [], _, _, _, h => h
  | v :: r, o, _, _, h => by rw [World.setCells]; exact But.setCells r (o + 1) (h.setCell o v)
theorem hcs_mix (s s' : St) (p : List UInt8) (n : Nat) : (hcs ⟨s, p, n⟩).take 0 ++ c32 s'.list ++ (hcs ⟨s, p, n⟩).drop (0 + (c32 s'.list).length) = hcs ⟨s', p, n⟩ := by
  unfold hcs
  rw [show (c32 s'.list).length = (c32 s.list).length + 0 by simp [c32_len, list_len], Nat.zero_add, List.drop_length_add_append]
  simp
theorem RowIs.range {w : World} {g : Nat} {t : TypeId} {h : Hs} (r : RowIs w g t (hcs h)) : w.rangeAt g 8 (c8 h.part) := fun j _ hv => r.cell (hcs_part h j _ hv)
theorem RowIs.range0 {w : World} {g : Nat} {t : TypeId} {h : Hs} (r : RowIs w g t (hcs h)) : w.rangeAt g 0 (c32 h.st.list) := fun j _ hv => by rw [Nat.zero_add]; exact r.cell (hcs_st h j _ hv)
theorem RowIs.there {w : World} {g : Nat} {t : TypeId} {h : Hs} (r : RowIs w g t (hcs h)) : w.there g 0 (c32 h.st.list).length := fun j hj => by
  rw [Nat.zero_add]; exact ⟨by rw [r.cell (hcs_st h j _ (List.getElem?_eq_getElem hj))]; rfl, r.frozen j⟩
section
variable {ops : Array Oper} {Q : Exit → Act → World → Prop} {i : Nat} {o : Oper} {K : Act → World → Prop} {a : Act} {w : World}
theorem op_load (ho : ops[i]? = some o) (hw : Region.wanted o (yielded ops a.tmps) = true) (ty : TypeId) (x : Operand) (hop : o.op = .load ty x) (b off : Nat) (hx : a.eval x = .pointer (some ⟨b, off, none⟩))
    (cs : List Value) (d : TypeDesc) (hc : w.rangeAt b off cs) (hu : Tryd.prog.underlying ty = some d) (hd : d.isRow = true) (hi : (Tryd.prog.info? ty).map (·.size) = some cs.length)
    (h : K (a.put o.dst (.agg cs.toArray)) w) : wpOp Tryd.prog ops Q i K a w :=
  op_of ho hw (fun _ hK => wp_load_mid ty x hop b off hx cs d hc hu hd hi (hK _ _ h))
theorem op_call (ho : ops[i]? = some o) (hw : Region.wanted o (yielded ops a.tmps) = true) (f : FuncId) (args : Array Value) (v : Value) (R : World → Prop)
    (hrun : (execOp a.eval o).run Tryd.prog w = .ok (.enter f args) w) (hc : Calls Tryd.prog f args w fun e w' => e = .returned v ∧ R w') (h : ∀ w', R w' → K (a.put o.dst v) w') : wpOp Tryd.prog ops Q i K a w :=
  op_of ho hw (fun _ hK => wp_call_of hrun hc (fun w' hr => hK _ _ (h w' hr)))
theorem op_store (ho : ops[i]? = some o) (hw : Region.wanted o (yielded ops a.tmps) = true) (ty : TypeId) (x y : Operand) (hop : o.op = .store ty x y) (b off : Nat) (cells : List Value) (hx : a.eval x = .pointer (some ⟨b, off, none⟩)) (hy : a.eval y = .agg cells.toArray)
    (ht : w.there b off cells.length) (hi : (Tryd.prog.info? ty).map (·.size) = some cells.length) (h1 : ∀ v ∈ cells, v.oneCell' = true)
    (h : K (a.put o.dst undef) (w.setCells b off cells)) : wpOp Tryd.prog ops Q i K a w :=
  op_of ho hw (fun _ hK => wp_store_mid ty x y hop b off cells.toArray hx hy (by simpa using ht) (by simpa using hi) (all_oneCell_toArray h1) (hK _ _ h))
end
end Go.Proofs.YtpnhklefoafgkaaDoor
