/-
  SHA: what is written, and its sum.
-/
import Derived.Test.YtgmdolpjkaajfaaGreatDoorSA
import Derived.Lib.SlBytesConst
import Derived.ChangeKeysEq
namespace Go.Proofs.YtgmdolpjkaajfaaGreatDoor.SH
open Go.RowKit Sha
/-- Nothing that was there has turned, but for block g. -/
structure But (g : Nat) (w w' : World) : Prop where
  os : w'.os = w.os
  tape : w'.tape = w.tape
  output : w'.output = w.output
  size : w.heap.size ≤ w'.heap.size
  block : ∀ k, k < w.heap.size → k ≠ g → w'.heap[k]? = w.heap[k]?
theorem But.refl (g : Nat) (w : World) : But g w w := ⟨rfl, rfl, rfl, Nat.le_refl _, fun _ _ _ => rfl⟩
theorem But.trans {g : Nat} {a b c : World} (h : But g a b) (k : But g b c) : But g a c :=
  ⟨k.os.trans h.os, k.tape.trans h.tape, k.output.trans h.output, Nat.le_trans h.size k.size, fun i hi hg => (k.block i (Nat.lt_of_lt_of_le hi h.size) hg).trans (h.block i hi hg)⟩
theorem But.of_below {g : Nat} {a b : World} (h : Below a.heap.size a b) : But g a b := ⟨h.os, h.tape, h.output, h.size, fun k hk _ => h.block k hk⟩
theorem But.drew {g : Nat} {a b : World} (h : But g a b) : But g a b.drew := ⟨h.os, h.tape, h.output, h.size, h.block⟩
theorem But.setRow {g : Nat} {a b : World} (h : But g a b) (cs : Array Value) : But g a (b.setRow g cs) :=
  ⟨h.os, h.tape, h.output, by have := h.size; simpa using this, fun k hk hg => by rw [Go.setRow_other b g k cs hg]; exact h.block k hk hg⟩
theorem But.setCell {g : Nat} {a b : World} (h : But g a b) (j : Nat) (v : Value) : But g a (b.setCell ⟨g, j, none⟩ v) :=
  ⟨h.os, h.tape, h.output, by have := h.size; simpa using this, fun k hk hg => by rw [heap_setCell_other b _ k v hg]; exact h.block k hk hg⟩
theorem But.row {g g' : Nat} {a b : World} {t : TypeId} {cs : List Value} (h : But g a b) (r : RowIs a g' t cs) (hg : g' ≠ g) : RowIs b g' t cs := by
  unfold RowIs; rw [h.block g' r.lt hg]; exact r
theorem But.cell {g : Nat} {a b : World} (h : But g a b) {p : Addr} {v : Value} (hp : p.block ≠ g) (hc : a.cell? p = some v) : b.cell? p = some v := by
  rw [World.cell?_of_block (w := a) (h.block p.block (block_lt_of_cell hc) hp)]; exact hc
theorem But.tab {g : Nat} {a b : World} (h : But g a b) (hg : 0 ≠ g) (ht : Tab a) : Tab b :=
  ⟨Nat.lt_of_lt_of_le ht.1 h.size, fun j hj => h.cell (p := ⟨0, j, none⟩) hg (ht.2 j hj)⟩
theorem But.below {g B : Nat} {a b : World} (h : But g a b) (hg : B ≤ g) (hB : B ≤ a.heap.size) : Below B a b :=
  ⟨h.os, h.tape, h.output, h.size, fun k hk => h.block k (by omega) (by omega)⟩
/-- The bytes bs lie at a slice's head. -/
def BytesAt (w : World) (ao : Option Addr) (bs : List UInt8) : Prop := bs ≠ [] → ∃ b o, ao = some ⟨b, o, none⟩ ∧ ∀ j, j < bs.length → w.cell? ⟨b, o + j, none⟩ = some (.int .u8 ((bs.getD j 0).toNat : Int))
/-- copy into a row that is known whole, as one step of a region that draws. -/
theorem step_copy_row {ops : Array Oper} {o : Oper} {a : Act} {w : World} {K : Act → World → Prop} {Q : Exit → Act → World → Prop} {E : Prop}
    (hg : o.guard = none) (d s : Operand) (hop : o.op = Op.call { callee := Callee.builtin Builtin.copy, args := #[d, s], argTypes := #[32, 32] })
    (g off dLen dCap : Nat) (hd : a.eval d = .slice (some ⟨g, off, none⟩) dLen dCap) (ad : Addr) (sLen sCap : Nat) (hs : a.eval s = .slice (some ad) sLen sCap)
    (t : TypeId) (cur cs res : List Value) (hr : RowIs w g t cur) (hn : cs.length = Nat.min sLen dLen) (hsrc : ∀ j v, cs[j]? = some v → w.cell? (ad.add j) = some v)
    (m : Nat) (hm : cs.length = m) (hfit : off + cs.length ≤ cur.length) (h1 : ∀ v ∈ cs, v.oneCell' = true) (hres : cur.take off ++ cs ++ cur.drop (off + cs.length) = res)
    (hK : K (a.put o.dst (.int .i64 (m : Int))) (w.setRow g res.toArray)) :
    if Region.wanted o (yielded ops a.tmps) = true then Oper.wp Tryz.prog o a w K Q else E := by
  subst hm
  have hw : Region.wanted o (yielded ops a.tmps) = true := by simp [Region.wanted, hg]
  rw [if_pos hw]
  have hrun := run_copy_row (P := Tryz.prog) w 32 32 o.type 5 g off dLen dCap ad sLen sCap cur.toArray t cs Tryz.underlying32 info5 hr hn hsrc (by simpa using hfit) h1
  simp only [hres] at hrun
  unfold Oper.wp
  simp [execOp, hop, resolve, invoke, builtin, hd, hs, hrun, Result.andThen]
  exact hK
theorem slice54 (g off : Nat) (ho : off < 64) (W : World) : (Instr.sliceAt 114 (.pointer (some ⟨g, 8, none⟩)) (some (.int .i64 (off : Int))) none none).run Tryz.prog W = .ok (.slice (some ⟨g, 8 + off, none⟩) (64 - off) (64 - off)) W := by
  obtain ⟨i, hi, hz⟩ := Option.map_eq_some_iff.1 bytes5
  simp only [Prod.mk.injEq] at hz
  obtain ⟨_, hsz, _⟩ := hz
  have h1 : ¬ (64 = off) := by omega
  simp [Instr.sliceAt, run_underlying Tryz.underlying114, Instr.sureAddr, Instr.sliceBounds, sizeOf, typeInfo, hi, hsz, h1, Addr.add, go_sem]
  rw [if_pos (by omega)]
  by_cases h0 : off = 0
  · subst h0; simp
  · simp [h0]
theorem hcs_copy (h : Hs) (hp : h.part.length = 64) (off : Nat) (xs : List UInt8) (ho : off + xs.length ≤ 64) :
    (hcs h).take (8 + off) ++ c8 xs ++ (hcs h).drop (8 + off + (c8 xs).length) = hcs ⟨h.st, chunk h.part off xs, h.n⟩ := by
  have e8 : (c32 h.st.list).length = 8 := by simp [c32_len, list_len]
  have e64 : (c8 h.part).length = 64 := by rw [c8_len, hp]
  unfold hcs chunk
  rw [c8_len, show 8 + off = (c32 h.st.list).length + off by omega, List.take_length_add_append, show (c32 h.st.list).length + off + xs.length = (c32 h.st.list).length + (off + xs.length) by omega, List.drop_length_add_append,
    List.take_append_of_le_length (by omega), List.drop_append_of_le_length (by omega)]
  simp [c8, List.map_append, List.map_take, List.map_drop]
theorem slice22 (b o len cap m : Nat) (hm : m ≤ len) (hc : len ≤ cap) : ∃ ao : Option Addr, (m < len → ao = some ⟨b, o + m, none⟩) ∧ ∀ W : World, (Instr.sliceAt 32 (.slice (some ⟨b, o, none⟩) len cap) (some (.int .i64 (m : Int))) none none).run Tryz.prog W = .ok (.slice ao (len - m) (cap - m)) W := by
  obtain ⟨i, hi, hz⟩ := Option.map_eq_some_iff.1 bytes5
  simp only [Prod.mk.injEq] at hz
  obtain ⟨_, hsz, _⟩ := hz
  refine ⟨if cap = m then some ⟨b, o, none⟩ else some ((⟨b, o, none⟩ : Addr).add m), fun h => ?_, fun W => ?_⟩
  · rw [if_neg (by omega), Addr.add_mid]
  · by_cases h2 : cap = m
    · simp [Instr.sliceAt, Instr.slice, run_underlying Tryz.underlying32, Instr.sliceBounds, Instr.sliceBound, asIntOf, sizeOf, typeInfo, hi, hsz, h2]
      intro h; omega
    · simp [Instr.sliceAt, Instr.slice, run_underlying Tryz.underlying32, Instr.sliceBounds, Instr.sliceBound, asIntOf, sizeOf, typeInfo, hi, hsz, h2]
      intro h; omega
theorem hcs_part (h : Hs) (j : Nat) (v : Value) (hv : (c8 h.part)[j]? = some v) : (hcs h)[8 + j]? = some v := by
  have hj := (List.getElem?_eq_some_iff.1 hv).1
  unfold hcs
  rw [List.getElem?_append_right (by simp [c32_len, list_len])]
  simp only [c32_len, list_len, Nat.add_sub_cancel_left]
  rw [List.getElem?_append_left hj]; exact hv
theorem hcs_st (h : Hs) (j : Nat) (v : Value) (hv : (c32 h.st.list)[j]? = some v) : (hcs h)[j]? = some v := by
  have hj := (List.getElem?_eq_some_iff.1 hv).1
  unfold hcs
  rw [List.getElem?_append_left hj]; exact hv
theorem hcs_set (s : St) (p : List UInt8) (hp : p.length = 64) (n m : Nat) : (hcs ⟨s, p, n⟩).set 72 (.int .i64 ((n : Int) + (m : Int))) = hcs ⟨s, p, n + m⟩ := by
  unfold hcs
  rw [List.set_append_right _ _ (by simp [c32_len, list_len]), List.set_append_right _ _ (by simp [c32_len, c8_len, list_len, hp])]
  simp [c32_len, c8_len, list_len, hp]
/-- One operation of a region that draws, run by its own law. -/
theorem op_of {ops : Array Oper} {Q : Exit → Act → World → Prop} {i : Nat} {o : Oper} {K : Act → World → Prop} {a : Act} {w : World} (ho : ops[i]? = some o)
    (hw : Region.wanted o (yielded ops a.tmps) = true) (h : ∀ K' : Act → World → Prop, (∀ a w, K a w → K' a w) → o.wp Tryz.prog a w K' Q) : wpOp Tryz.prog ops Q i K a w :=
  wpOp_step ho (fun K' hK => by rw [if_pos hw]; exact h K' hK)
/-- A call by its contract. -/
theorem wp_call_of {o : Oper} {a : Act} {w : World} {K : Act → World → Prop} {Q : Exit → Act → World → Prop} {f : FuncId} {args : Array Value} {v : Value} {R : World → Prop}
    (hrun : (execOp a.eval o).run Tryz.prog w = .ok (.enter f args) w) (hc : Calls Tryz.prog f args w fun e w' => e = .returned v ∧ R w') (h : ∀ w', R w' → K (a.put o.dst v) w') : o.wp Tryz.prog a w K Q := by
  unfold Oper.wp
  rw [hrun, Oper.upon_enter]
  exact hc.mono (fun e w' ⟨he, hr⟩ => by subst he; exact h w' hr)
theorem RowIs.setCells {t : TypeId} {g : Nat} : ∀ (vs : List Value) (o : Nat) (w : World) (cs : List Value), RowIs w g t cs → o + vs.length ≤ cs.length → RowIs (w.setCells g o vs) g t (cs.take o ++ vs ++ cs.drop (o + vs.length))
  | [], o, w, cs, h, _ => by simpa [World.setCells] using h
  | v :: r, o, w, cs, h, hl => by
    simp only [List.length_cons] at hl
    have ih := RowIs.setCells r (o + 1) _ _ (h.set o v) (by simp; omega)
    rw [World.setCells]
    have e : (cs.set o v).take (o + 1) ++ r ++ (cs.set o v).drop (o + 1 + r.length) = cs.take o ++ v :: r ++ cs.drop (o + (v :: r).length) := by
      rw [List.drop_set_of_lt (by omega)]
      have e1 : (cs.set o v).take (o + 1) = cs.take o ++ [v] := by
        rw [List.take_succ_eq_append_getElem (by simp; omega)]
        simp [List.take_set_of_le]
      rw [e1]
      simp [Nat.add_comm, Nat.add_left_comm]
    rw [e] at ih
    exact ih
theorem But.setCells {g : Nat} : ∀ (vs : List Value) (o : Nat) {a b : World}, But g a b → But g a (b.setCells g o vs)
  | [], _, _, _, h => h
  | v :: r, o, _, _, h => by rw [World.setCells]; exact But.setCells r (o + 1) (h.setCell o v)
theorem hcs_mix (s s' : St) (p : List UInt8) (n : Nat) : (hcs ⟨s, p, n⟩).take 0 ++ c32 s'.list ++ (hcs ⟨s, p, n⟩).drop (0 + (c32 s'.list).length) = hcs ⟨s', p, n⟩ := by
  unfold hcs
  rw [show (c32 s'.list).length = (c32 s.list).length + 0 by simp [c32_len, list_len], Nat.zero_add, List.drop_length_add_append]
  simp
theorem RowIs.range {w : World} {g : Nat} {t : TypeId} {h : Hs} (r : RowIs w g t (hcs h)) : w.rangeAt g 8 (c8 h.part) := fun j _ hv => r.cell (hcs_part h j _ hv)
theorem RowIs.range0 {w : World} {g : Nat} {t : TypeId} {h : Hs} (r : RowIs w g t (hcs h)) : w.rangeAt g 0 (c32 h.st.list) := fun j _ hv => by rw [Nat.zero_add]; exact r.cell (hcs_st h j _ hv)
theorem RowIs.there {w : World} {g : Nat} {t : TypeId} {h : Hs} (r : RowIs w g t (hcs h)) : w.there g 0 (c32 h.st.list).length := fun j hj => by
  rw [Nat.zero_add]; exact ⟨by rw [r.cell (hcs_st h j _ (List.getElem?_eq_getElem hj))]; rfl, r.frozen j⟩
section
variable {ops : Array Oper} {Q : Exit → Act → World → Prop} {i : Nat} {o : Oper} {K : Act → World → Prop} {a : Act} {w : World}
theorem op_load (ho : ops[i]? = some o) (hw : Region.wanted o (yielded ops a.tmps) = true) (ty : TypeId) (x : Operand) (hop : o.op = .load ty x) (b off : Nat) (hx : a.eval x = .pointer (some ⟨b, off, none⟩))
    (cs : List Value) (d : TypeDesc) (hc : w.rangeAt b off cs) (hu : Tryz.prog.underlying ty = some d) (hd : d.isRow = true) (hi : (Tryz.prog.info? ty).map (·.size) = some cs.length)
    (h : K (a.put o.dst (.agg cs.toArray)) w) : wpOp Tryz.prog ops Q i K a w :=
  op_of ho hw (fun _ hK => wp_load_mid ty x hop b off hx cs d hc hu hd hi (hK _ _ h))
theorem op_call (ho : ops[i]? = some o) (hw : Region.wanted o (yielded ops a.tmps) = true) (f : FuncId) (args : Array Value) (v : Value) (R : World → Prop)
    (hrun : (execOp a.eval o).run Tryz.prog w = .ok (.enter f args) w) (hc : Calls Tryz.prog f args w fun e w' => e = .returned v ∧ R w') (h : ∀ w', R w' → K (a.put o.dst v) w') : wpOp Tryz.prog ops Q i K a w :=
  op_of ho hw (fun _ hK => wp_call_of hrun hc (fun w' hr => hK _ _ (h w' hr)))
theorem op_store (ho : ops[i]? = some o) (hw : Region.wanted o (yielded ops a.tmps) = true) (ty : TypeId) (x y : Operand) (hop : o.op = .store ty x y) (b off : Nat) (cells : List Value) (hx : a.eval x = .pointer (some ⟨b, off, none⟩)) (hy : a.eval y = .agg cells.toArray)
    (ht : w.there b off cells.length) (hi : (Tryz.prog.info? ty).map (·.size) = some cells.length) (h1 : ∀ v ∈ cells, v.oneCell' = true)
    (h : K (a.put o.dst undef) (w.setCells b off cells)) : wpOp Tryz.prog ops Q i K a w :=
  op_of ho hw (fun _ hK => wp_store_mid ty x y hop b off cells.toArray hx hy (by simpa using ht) (by simpa using hi) (all_oneCell_toArray h1) (hK _ _ h))
end
end Go.Proofs.YtgmdolpjkaajfaaGreatDoor.SH
namespace Go.Proofs.YtgmdolpjkaajfaaGreatDoor.SH
open Go.RowKit Sha
def WrRel (gH : Nat) (h0 : Hs) (bs : List UInt8) (w : World) (j : Nat) (wr : World) : Prop :=
  But gH w wr ∧ RowIs wr gH 116 (hcs (feed h0 (bs.take j)))
set_option maxRecDepth 100000 in
set_option maxHeartbeats 400000 in
theorem write_any (gH : Nat) (h0 : Hs) (hp : h0.part.length = 64) (ao : Option Addr) (bs : List UInt8) (len cap : Nat) (hlen : len = bs.length) (hcap : len ≤ cap) (w : World)
    (ht : Tab w) (hg0 : 0 ≠ gH) (hr : RowIs w gH 116 (hcs h0)) (hb : BytesAt w ao bs) (hap : bs ≠ [] → ∀ b o, ao = some ⟨b, o, none⟩ → b ≠ gH) (hbd : h0.n + bs.length < 1152921504606846976) :
    Calls Tryz.prog 53 #[.pointer (some ⟨gH, 0, none⟩), .slice ao len cap] w fun e w' => e = .returned (.tuple #[]) ∧ But gH w w' ∧ RowIs w' gH 116 (hcs (feed h0 bs)) := by
  have H1 : Hid (Tab w) := ht
  have H2 : Hid (RowIs w gH 116 (hcs h0)) := hr
  have H3 : Hid (BytesAt w ao bs) := hb
  have H4 : Hid (bs ≠ [] → ∀ b o, ao = some ⟨b, o, none⟩ → b ≠ gH) := hap
  clear ht hr hb hap
  go_enter Tryz.func53, Tryz.ntmps53
  go_wp2
  go_loopw [1] (fun v wr => ∃ (j : Nat) (ao' : Option Addr), j ≤ bs.length ∧ v = .slice ao' (bs.length - j) (cap - j) ∧ (∀ b o, ao = some ⟨b, o, none⟩ → j < bs.length → ao' = some ⟨b, o + j, none⟩) ∧ WrRel gH h0 bs w j wr) (fun v _ => match v with | .slice _ n _ => n | _ => 0)
  case atStart => exact ⟨0, ao, Nat.zero_le _, by rw [hlen]; rfl, fun b o h _ => by simpa using h, But.refl _ _, by simpa [feed] using H2.out⟩
  case round =>
    obtain ⟨j, ao', hj, rfl, ha, hR⟩ := hrel
    by_cases hlt : j < bs.length
    · obtain ⟨b, o, hao, hc⟩ := H3.out (by intro e; rw [e] at hlt; simp at hlt)
      have ea := ha b o hao hlt
      have hne : b ≠ gH := H4.out (by intro e; rw [e] at hlt; simp at hlt) b o hao
      subst ea
      have HAO := show Hid _ from hao
      clear ha hao H3 H4
      obtain ⟨hB, hRow⟩ := hR
      have hpart := feed_part (bs.take j) h0
      have hnn := feed_n (bs.take j) h0
      rw [List.length_take, Nat.min_eq_left hj] at hnn
      rw [hp] at hpart
      generalize hh : feed h0 (bs.take j) = h at *
      have HH := show Hid _ from hh
      clear hh
      have e72 : wr.cell? ⟨gH, 72, none⟩ = some (.int .i64 (h.n : Int)) := hRow.cell (hcs_n h hpart)
      have bN : h.n < 1152921504606846976 := by omega
      obtain ⟨off, Hoff, ho64, htm⟩ : ∃ off : Nat, Hid (off = h.n % 64) ∧ off < 64 ∧ (h.n : Int).tmod 64 = (off : Int) := ⟨h.n % 64, rfl, by omega, by rw [Int.tmod_eq_emod_of_nonneg (by omega)]; omega⟩
      have hsl := fun W => slice54 gH off ho64 W
      obtain ⟨xs, Hxs, hxl, hx0⟩ : ∃ xs : List UInt8, Hid (xs = (bs.drop j).take (64 - off)) ∧ xs.length = Nat.min (bs.length - j) (64 - off) ∧ 0 < xs.length := ⟨_, rfl, by simp [Nat.min_comm], by simp; omega⟩
      obtain ⟨m, hxm⟩ : ∃ m, xs.length = m := ⟨_, rfl⟩
      rw [hxm] at hxl hx0
      have hml : m ≤ bs.length - j := by rw [hxl]; exact Nat.min_le_left _ _
      have hmo : m ≤ 64 - off := by rw [hxl]; exact Nat.min_le_right _ _
      have hsrc : Hid (∀ i v, (c8 xs)[i]? = some v → wr.drew.cell? ((⟨b, o + j, none⟩ : Addr).add i) = some v) := fun i v hv => by
        have hi : i < xs.length := by have := (List.getElem?_eq_some_iff.1 hv).1; rwa [c8_len] at this
        rw [c8_get xs i hi] at hv
        rw [Addr.add_mid, World.cell?_drew]
        refine hB.cell (p := ⟨b, o + j + i, none⟩) hne ?_
        have := hc (j + i) (by omega)
        rw [show o + (j + i) = o + j + i by omega] at this
        rw [this, ← hv, Hxs.out]
        have : i < 64 - off := by omega
        simp [this]
      have hres : Hid ((hcs h).take (8 + off) ++ c8 xs ++ (hcs h).drop (8 + off + (c8 xs).length) = hcs ⟨h.st, chunk h.part off xs, h.n⟩) := hcs_copy h hpart off xs (by omega)
      have hfit : Hid (8 + off + (c8 xs).length ≤ (hcs h).length) := by unfold Hid; rw [hcs_len h hpart, c8_len]; omega
      have hcl : Hid ((c8 xs).length = Nat.min (bs.length - j) (64 - off)) := by unfold Hid; rw [c8_len, hxm]; exact hxl
      have hcpart : Hid ((chunk h.part off xs).length = 64) := by unfold Hid; rw [chunk_len _ _ _ (by omega)]; exact hpart
      have hcm : Hid ((c8 xs).length = m) := by unfold Hid; rw [c8_len]; exact hxm
      have HF : Hid (feed h xs = ⟨if (h.n + m) % 64 = 0 then mix h.st (chunk h.part off xs) else h.st, chunk h.part off xs, h.n + m⟩) := by
        unfold Hid
        rw [feed_chunk xs h hpart (by intro e; rw [e] at hxm; simp at hxm; omega) (by rw [hxm, ← Hoff.out]; exact hmo), hxm, ← Hoff.out]
      have HN : Hid (feed h0 (bs.take (j + m)) = feed h xs) := by
        unfold Hid
        rw [← HH.out, ← feed_append]
        congr 1
        rw [Hxs.out, List.take_add]
        congr 1
        rw [hxl]
        simp only [Nat.min_def]
        split
        · rw [List.take_of_length_le (by simp), List.take_of_length_le (by simp; omega)]
        · rfl
      have hfit5 : Hid (0 + (c32 (mix h.st (chunk h.part off xs)).list).length ≤ (hcs ⟨h.st, chunk h.part off xs, h.n + m⟩).length) := by
        unfold Hid; rw [hcs_len ⟨h.st, chunk h.part off xs, h.n + m⟩ hcpart.out, c32_len, list_len]; omega
      have hsz8 : Hid ((Tryz.prog.info? 111).map (·.size) = some (c32 (mix h.st (chunk h.part off xs)).list).length) := by
        unfold Hid; rw [c32_len, list_len]; exact size51
      have hap8 : Hid (0 + (c32 (mix h.st (chunk h.part off xs)).list).length ≤ 8) := by unfold Hid; rw [c32_len, list_len]; omega
      have HXL := show Hid _ from hxl
      have HXM := show Hid _ from hxm
      have HB : Hid (But gH w wr) := hB
      have HRow : Hid (RowIs wr gH 116 (hcs h)) := hRow
      have Hpart : Hid (h.part.length = 64) := hpart
      have Hnn := show Hid _ from hnn
      have HC := show Hid _ from hc
      clear hB hRow hpart hnn hc hxl hxm
      go_wp2
      go_region_held3 (fun w' => w'.cell? ⟨gH, 72, none⟩ = some (.int .i64 (h.n : Int))) (first | (go_keep; done) | exact (RowIs.setRow HRow.out _).cell (hcs_n _ hcpart.out)) (refine step_copy_row rfl _ _ rfl gH (8 + off) (64 - off) (64 - off) rfl ⟨b, o + j, none⟩ (bs.length - j) (cap - j) rfl 116 (hcs h) (c8 xs) _ HRow.out hcl.out hsrc.out m hcm.out hfit.out (c8_one _) hres.out ?_)
      refine with_world (p := fun W => Exit.then _ _ _ _ W) (fun W => But gH w W ∧ RowIs W gH 116 (hcs ⟨h.st, chunk h.part off xs, h.n⟩)) ⟨(HB.out.setRow _).drew, (RowIs.setRow HRow.out _).drew⟩ ?_
      rintro W2 ⟨hB2, hRow2⟩
      have f72 : W2.cell? ⟨gH, 72, none⟩ = some (.int .i64 (h.n : Int)) := hRow2.cell (hcs_n _ hcpart.out)
      have z72 := hRow2.frozen 72
      have HB2 : Hid (But gH w W2) := hB2
      have HRow2 : Hid (RowIs W2 gH 116 (hcs ⟨h.st, chunk h.part off xs, h.n⟩)) := hRow2
      clear hB2 hRow2 e72 hsl htm
      obtain ⟨ao2, hao2, hs22⟩ := slice22 b (o + j) (bs.length - j) (cap - j) m hml (by omega)
      have HA2 := show Hid _ from hao2
      clear hao2
      by_cases hz : (h.n + m) % 64 = 0
      · have hz' : (((h.n : Int) + (m : Int)) % 64 == 0) = true := by rw [beq_iff_eq]; omega
        go_wp2
        refine with_world (p := fun W => Code.wp _ _ _ _ W) (fun W => But gH w W ∧ RowIs W gH 116 (hcs ⟨h.st, chunk h.part off xs, h.n + m⟩)) ⟨HB2.out.setCell _ _, by have := HRow2.out.set 72 (.int .i64 ((h.n : Int) + (m : Int))); rw [hcs_set _ _ hcpart.out] at this; exact this⟩ ?_
        rintro W3 ⟨hB3, hRow3⟩
        clear hs22 f72 z72 hz' HRow2 HB2
        refine wp_region_noPanic ?_
        refine wp_region_held_drew (S := fun w' => w'.rangeAt gH 8 (c8 (chunk h.part off xs))) (by kernel_rfl) ((World.rangeAt_drew _ _ _ _).2 (RowIs.range (h := ⟨h.st, chunk h.part off xs, h.n + m⟩) hRow3)) ?_
        intro hS
        refine wpAnyH_take (i := 0) (v := (.pointer (some ⟨gH, 0, none⟩))) (fuel := 12) rfl (by kernel_rfl) (by kernel_rfl) (by kernel_rfl) (fun _ _ _ h => (h : False).elim) (.inl ⟨by kernel_rfl, fun _ _ => by kernel_rfl⟩) hS ?_
        refine wpAnyH_take (i := 1) (v := (.pointer (some ⟨gH, 0, none⟩))) (fuel := 11) rfl (by kernel_rfl) (by kernel_rfl) (by kernel_rfl) (fun _ _ _ h => (h : False).elim) (.inl ⟨by kernel_rfl, fun _ _ => by kernel_rfl⟩) hS ?_
        refine wpAnyH_take (i := 2) (v := (.pointer (some ⟨gH, 0, none⟩))) (fuel := 10) rfl (by kernel_rfl) (by kernel_rfl) (by kernel_rfl) (fun _ _ _ h => (h : False).elim) (.inl ⟨by kernel_rfl, fun _ _ => by kernel_rfl⟩) hS ?_
        refine wpAnyH_take (i := 3) (v := (.pointer (some ⟨gH, 0, none⟩))) (fuel := 9) rfl (by kernel_rfl) (by kernel_rfl) (by kernel_rfl) (fun _ _ _ h => (h : False).elim) (.inl ⟨by kernel_rfl, fun _ _ => by kernel_rfl⟩) hS ?_
        refine wpAnyH_take (i := 5) (v := (.pointer (some ⟨gH, 0, none⟩))) (fuel := 8) rfl (by kernel_rfl) (by kernel_rfl) (by kernel_rfl) (fun _ _ _ h => (h : False).elim) (.inl ⟨by kernel_rfl, fun _ _ => by kernel_rfl⟩) hS ?_
        refine wpAnyH_take (i := 6) (v := (.pointer (some ⟨gH, 0, none⟩))) (fuel := 7) rfl (by kernel_rfl) (by kernel_rfl) (by kernel_rfl) (fun _ _ _ h => (h : False).elim) (.inl ⟨by kernel_rfl, fun _ _ => by kernel_rfl⟩) hS ?_
        refine wpAnyH_take (i := 7) (v := (.pointer (some ⟨gH, 8, none⟩))) (fuel := 6) rfl (by kernel_rfl) (by kernel_rfl) (by kernel_rfl) (fun _ _ _ h => (h : False).elim) (.inl ⟨by kernel_rfl, fun _ _ => by kernel_rfl⟩) hS ?_
        refine wpAnyH_take (i := 8) (fuel := 5) rfl (by kernel_rfl) (by kernel_rfl) (by kernel_rfl) (fun _ _ _ h => (h : False).elim) (yieldsIf_load_mid (by kernel_rfl) 114 (.tmp 45) rfl gH 8 (by kernel_rfl) (c8 (chunk h.part off xs)) _ (fun _ h => h) Tryz.underlying114 rfl (by rw [c8_len, hcpart.out]; exact size54)) hS ?_
        refine wpAnyH_all (rs := [4]) (by kernel_rfl) (by simp) ?_
        intro i hi
        obtain rfl : i = 4 := by simpa using hi
        refine op_load rfl (by kernel_rfl) 111 (.tmp 41) rfl gH 0 (by kernel_rfl) (c32 h.st.list) _ (RowIs.range0 (h := ⟨h.st, chunk h.part off xs, h.n + m⟩) hRow3.drew) Tryz.underlying111 rfl size51 ⟨hS, ?_⟩
        refine wpAnyH_all (rs := [9]) (by kernel_rfl) (by simp) ?_
        intro i hi
        obtain rfl : i = 9 := by simpa using hi
        refine op_call rfl (by kernel_rfl) 88 #[.agg (c32 h.st.list).toArray, .agg (c8 (chunk h.part off xs)).toArray] _ _ (by kernel_rfl) (mixed_any h.st _ hcpart.out _ (hB3.drew.tab hg0 H1.out)) ?_
        intro w1 hb1
        have hRow4 : RowIs w1 gH 116 (hcs ⟨h.st, chunk h.part off xs, h.n + m⟩) := hRow3.drew.below hb1 hRow3.drew.lt
        have hB4 : But gH w w1 := hB3.drew.trans (But.of_below hb1)
        have hS1 : w1.rangeAt gH 8 (c8 (chunk h.part off xs)) := RowIs.range (h := ⟨h.st, chunk h.part off xs, h.n + m⟩) hRow4
        refine ⟨hS1, ?_⟩
        refine wpAnyH_take (i := 10) (v := (.pointer (some ⟨gH, 0, none⟩))) (fuel := 2) rfl (by kernel_rfl) (by kernel_rfl) (by kernel_rfl) (fun _ _ _ h => (h : False).elim) (.inl ⟨by kernel_rfl, fun _ _ => by kernel_rfl⟩) hS1 ?_
        refine wpAnyH_take (i := 11) (v := (.pointer (some ⟨gH, 0, none⟩))) (fuel := 1) rfl (by kernel_rfl) (by kernel_rfl) (by kernel_rfl) (fun _ _ _ h => (h : False).elim) (.inl ⟨by kernel_rfl, fun _ _ => by kernel_rfl⟩) hS1 ?_
        have hth : w1.there gH 0 (c32 (mix h.st (chunk h.part off xs)).list).length := by
          have := RowIs.there (h := ⟨h.st, chunk h.part off xs, h.n + m⟩) hRow4
          rw [c32_len, list_len] at this ⊢
          exact this
        refine wpAnyH_all (rs := [12]) (by kernel_rfl) (by simp) ?_
        intro i hi
        obtain rfl : i = 12 := by simpa using hi
        refine op_store rfl (by kernel_rfl) 111 (.tmp 49) (.tmp 47) rfl gH 0 (c32 (mix h.st (chunk h.part off xs)).list) (by kernel_rfl) (by kernel_rfl) hth hsz8.out (c32_one _) ⟨World.rangeAt_setCells_apart hS1 _ _ _ (Or.inr (Or.inr hap8.out)), ?_⟩
        refine wpAnyH_done (by kernel_rfl) (NoPanic.normal ?_) _
        have hB5 := hB4.setCells (c32 (mix h.st (chunk h.part off xs)).list) 0
        have hRow5 := RowIs.setCells (c32 (mix h.st (chunk h.part off xs)).list) 0 w1 _ hRow4 hfit5.out
        rw [hcs_mix] at hRow5
        refine with_world (p := fun W => Exit.inBlock _ _ _ _ W) (fun W => But gH w W ∧ RowIs W gH 116 (hcs ⟨mix h.st (chunk h.part off xs), chunk h.part off xs, h.n + m⟩)) ⟨hB5, hRow5⟩ ?_
        clear hB5 hRow5 hB4 hRow4 hS1 hb1 hS hB3 hRow3 hth
        rintro W5 ⟨hB5, hRow5⟩
        have HB5 := show Hid _ from hB5
        have HRow5 := show Hid _ from hRow5
        clear hB5 hRow5
        have HF' : Hid (feed h xs = ⟨mix h.st (chunk h.part off xs), chunk h.part off xs, h.n + m⟩) := by have := HF.out; rw [if_pos hz] at this; exact this
        clear hz
        have HBX := HB5
        have HRX := HRow5
        go_simp
        go_wp2
        go_roundw
        case rel => exact ⟨j + m, ao2, by omega, by rw [Nat.sub_sub, Nat.sub_sub], fun b' o' he hl => by
            rw [HAO.out] at he; cases he; rw [← Nat.add_assoc]; exact HA2.out (by omega), HBX.out, by rw [HN.out, HF'.out]; exact HRX.out⟩
        case measure => simp; omega
      · have hz' : (((h.n : Int) + (m : Int)) % 64 == 0) = false := by rw [beq_eq_false_iff_ne]; omega
        have HF' : Hid (feed h xs = ⟨h.st, chunk h.part off xs, h.n + m⟩) := by have := HF.out; rw [if_neg hz] at this; exact this
        have HBX : Hid (But gH w (W2.setCell ⟨gH, 72, none⟩ (.int .i64 ((h.n : Int) + (m : Int))))) := HB2.out.setCell _ _
        have HRX : Hid (RowIs (W2.setCell ⟨gH, 72, none⟩ (.int .i64 ((h.n : Int) + (m : Int)))) gH 116 (hcs ⟨h.st, chunk h.part off xs, h.n + m⟩)) := by have := HRow2.out.set 72 (.int .i64 ((h.n : Int) + (m : Int))); rw [hcs_set _ _ hcpart.out] at this; exact this
        go_wp2
        go_roundw
        case rel => exact ⟨j + m, ao2, by omega, by rw [Nat.sub_sub, Nat.sub_sub], fun b' o' he hl => by
            rw [HAO.out] at he; cases he; rw [← Nat.add_assoc]; exact HA2.out (by omega), HBX.out, by rw [HN.out, HF'.out]; exact HRX.out⟩
        case measure => simp; omega
    · obtain rfl : j = bs.length := by omega
      obtain ⟨hB, hRow⟩ := hR
      rw [List.take_length] at hRow
      have HB : Hid (But gH w wr) := hB
      have HRow : Hid (RowIs wr gH 116 (hcs (feed h0 bs))) := hRow
      clear hB hRow ha H3 H4
      go_wp2
      go_end0
      exact ⟨rfl, HB.out, HRow.out⟩
end Go.Proofs.YtgmdolpjkaajfaaGreatDoor.SH
namespace Go.Proofs.YtgmdolpjkaajfaaGreatDoor.SH
open Go.RowKit Sha
def newHs : Hs := ⟨first, List.replicate 64 0, 0⟩
def zeroHs : Hs := ⟨⟨0, 0, 0, 0, 0, 0, 0, 0⟩, List.replicate 64 0, 0⟩
theorem size56 : (Tryz.prog.info? 116).map (·.size) = some 73 := by kernel_rfl
theorem wpList_built {ops : Array Oper} {rest : List Oper} {o : Oper} {a : Act} {w : World} {Q : Exit → Act → World → Prop} (hg : o.guard = none) (t : TypeId) (parts : Array (Nat × Operand)) (ho : o.op = .build t parts)
    (cells : Array Value) (hb : Tryz.prog.built t (parts.map fun (i, x) => (i, a.eval x)).toList = some cells)
    (h : wpList Tryz.prog ops Q rest (a.put o.dst (.agg cells)) w) : wpList Tryz.prog ops Q (o :: rest) a w :=
  wpList_build hg t parts ho (by rw [hb]; rfl) (by rw [hb]; exact h)
/-- The sum that a hasher tells. -/
def sumOf (h : Hs) : List UInt8 := outTo (feed h (endTo h.n 8)).st.list 8
set_option maxRecDepth 100000 in
set_option maxHeartbeats 400000 in
theorem new_any (w : World) :
    Calls Tryz.prog 52 #[] w fun e w' => ∃ g, e = .returned (.pointer (some ⟨g, 0, none⟩)) ∧ w.heap.size ≤ g ∧ Below w.heap.size w w' ∧ RowIs w' g 116 (hcs newHs) := by
  go_enter Tryz.func52, Tryz.ntmps52
  go_wp2_with (first
    | (go_at_call 87; refine (firstState_any _).mono ?_; rintro e w1 ⟨rfl, hb1⟩)
    | (refine wpList_built rfl 116 #[(0, .tmp 1)] rfl (hcs newHs).toArray (by kernel_rfl) ?_))
  go_ret
  exact ⟨w1.heap.size, rfl, hb1.size, hb1.alloc hb1.size _, RowIs.new w1 116 (hcs newHs)⟩
theorem newHs_part : newHs.part.length = 64 := rfl
theorem sumOf_len (h : Hs) : (sumOf h).length = 32 := outTo_len _ _
def SumRel (gH : Nat) (h : Hs) (w W : World) : Prop :=
  Below w.heap.size w W ∧ RowIs W gH 116 (hcs h) ∧ RowIs W w.heap.size 38 (c8 (List.replicate 32 0)) ∧ RowIs W (w.heap.size + 1) 116 (hcs h)
theorem SumRel.start (gH : Nat) (h : Hs) (w : World) (hr : RowIs w gH 116 (hcs h)) :
    SumRel gH h w (((w.alloc (.cells (c8 (List.replicate 32 0)).toArray 38)).alloc (.cells (hcs zeroHs).toArray 116)).setRow (w.heap.size + 1) (hcs h).toArray) := by
  have hlt := hr.lt
  refine ⟨Below.row (((Below.refl _ _).alloc (Nat.le_refl _) _).alloc (by simp) _) (by omega) _, ((hr.alloc _).alloc _).setRow_other _ (by omega), ((RowIs.new w 38 _).alloc _).setRow_other _ (by omega), ?_⟩
  refine RowIs.setRow (cs := hcs zeroHs) ?_ _
  have := RowIs.new (w.alloc (.cells (c8 (List.replicate 32 0)).toArray 38)) 116 (hcs zeroHs)
  rw [show (w.alloc (.cells (c8 (List.replicate 32 0)).toArray 38)).heap.size = w.heap.size + 1 by simp] at this
  exact this
def SumRel2 (gH : Nat) (h : Hs) (w W1 w2 : World) : Prop :=
  Below w.heap.size w w2 ∧ RowIs w2 w.heap.size 38 (c8 (List.replicate 32 0)) ∧ RowIs w2 (w.heap.size + 1) 116 (hcs h) ∧ RowIs w2 W1.heap.size 5 (c8 (endTo h.n 8)) ∧ w.heap.size + 1 < W1.heap.size ∧ gH = gH
theorem SumRel2.start {gH : Nat} {h : Hs} {w W1 w2 : World} (hS : SumRel gH h w W1) (hb : Below W1.heap.size W1 w2) (hr : RowIs w2 W1.heap.size 5 (c8 (endTo h.n 8))) : SumRel2 gH h w W1 w2 :=
  ⟨hS.1.trans (hb.mono hS.1.size), hS.2.2.1.below hb hS.2.2.1.lt, hS.2.2.2.below hb hS.2.2.2.lt, hr, hS.2.2.2.lt, rfl⟩
theorem SumRel2.tab {gH : Nat} {h : Hs} {w W1 w2 : World} (hS : SumRel2 gH h w W1 w2) (ht : Tab w) : Tab w2 := ht.below hS.1 ht.1
theorem SumRel2.ne {gH : Nat} {h : Hs} {w W1 w2 : World} (hS : SumRel2 gH h w W1 w2) : W1.heap.size ≠ w.heap.size + 1 := by have := hS.2.2.2.2.1; omega
theorem SumRel2.bytes {gH : Nat} {h : Hs} {w W1 w2 : World} (hS : SumRel2 gH h w W1 w2) : BytesAt w2 (some ⟨W1.heap.size, 0, none⟩) (endTo h.n 8) :=
  fun _ => ⟨_, _, rfl, fun j hj => by rw [Nat.zero_add]; exact hS.2.2.2.1.cell (c8_get _ j hj)⟩
def SumRel3 (h : Hs) (w w3 : World) : Prop :=
  Below w.heap.size w w3 ∧ RowIs w3 w.heap.size 38 (c8 (List.replicate 32 0)) ∧ RowIs w3 (w.heap.size + 1) 116 (hcs (feed h (endTo h.n 8)))
theorem SumRel3.start {gH : Nat} {h : Hs} {w W1 w2 w3 : World} (hS : SumRel2 gH h w W1 w2) (hb : But (w.heap.size + 1) w2 w3) (hr : RowIs w3 (w.heap.size + 1) 116 (hcs (feed h (endTo h.n 8)))) : SumRel3 h w w3 :=
  ⟨hS.1.trans (hb.below (by omega) hS.1.size), hb.row hS.2.1 (by omega), hr⟩
theorem noughts_lt (n : Nat) : noughts n < 64 := by unfold noughts; omega
theorem zero56 (W : World) : (zeroValue 116).run Tryz.prog W = .ok (.agg (hcs zeroHs).toArray) W := by kernel_rfl
set_option maxRecDepth 100000 in
set_option maxHeartbeats 400000 in
theorem hsum_any (gH : Nat) (h : Hs) (hp : h.part.length = 64) (w : World) (ht : Tab w) (hr : RowIs w gH 116 (hcs h)) (hbd : h.n < 1152921504606846000) :
    Calls Tryz.prog 54 #[.pointer (some ⟨gH, 0, none⟩)] w fun e w' => e = .returned (.agg (c8 (sumOf h)).toArray) ∧ Below w.heap.size w w' := by
  have hlh : (hcs h).toArray.size = 73 := by simp [hcs_len h hp]
  have HT : Hid (Tab w) := ht
  have HR : Hid (RowIs w gH 116 (hcs h)) := hr
  have hlt := hr.lt
  have r0 : Hid (RowIs (w.alloc (.cells (c8 (List.replicate 32 0)).toArray 38)) gH 116 (hcs h)) := hr.alloc _
  have z0 : Hid (RowIs ((w.alloc (.cells (c8 (List.replicate 32 0)).toArray 38)).alloc (.cells (hcs zeroHs).toArray 116)) (w.heap.size + 1) 116 (hcs zeroHs)) := by
    have := RowIs.new (w.alloc (.cells (c8 (List.replicate 32 0)).toArray 38)) 116 (hcs zeroHs)
    unfold Hid; simpa using this
  have hone : Hid ((hcs h).toArray.all (·.oneCell') = true) := all_oneCell_toArray (fun v hv => by
    simp only [hcs, List.mem_append, List.mem_singleton] at hv
    rcases hv with hv | hv | rfl
    · exact c32_one _ v hv
    · exact c8_one _ v hv
    · rfl)
  have hzv := zero56
  have hs32 : Hid ((Tryz.prog.info? 38).map (·.size) = some (c8 (sumOf h)).toArray.size) := by unfold Hid; simp only [List.size_toArray, c8_len, sumOf_len]; exact size24
  have hs33 : Hid ((c8 (List.replicate 32 0)).toArray.size = (c8 (sumOf h)).toArray.size) := by unfold Hid; simp only [List.size_toArray, c8_len, sumOf_len, List.length_replicate]
  clear ht hr
  go_enter Tryz.func54, Tryz.ntmps54
  go_wp2_with (first
    | (refine wpList_load_row rfl 116 (.tmp 8) rfl gH rfl 116 (hcs h).toArray (0, 0) _ r0.out Tryz.underlying116 rfl (by rw [hlh]; exact size56) ?_)
    | (refine wpList_store_row rfl 116 (.tmp 3) (.tmp 9) rfl (w.heap.size + 1) (hcs h).toArray rfl rfl 116 (hcs zeroHs).toArray z0.out (by rw [hlh]; exact size56) (by rw [hlh]; rfl) hone.out ?_
       refine with_world (p := fun W => wpList _ _ _ _ _ W) (fun W => SumRel gH h w W) (SumRel.start gH h w HR.out) ?_
       intro W1 hS
       have f72 : W1.cell? ⟨gH, 72, none⟩ = some (.int .i64 (h.n : Int)) := hS.2.1.cell (hcs_n h hp)
       have HS := show Hid _ from hS
       clear hS r0 z0 hzv hone)
    | (go_at_call 89; refine (ending_any h.n (by omega) _).mono ?_; rintro e w2 ⟨rfl, hb2, hrow2⟩; have H2 : Hid (SumRel2 gH h w W1 w2) := SumRel2.start HS.out hb2 hrow2; clear hb2 hrow2 f72)
    | (go_at_call 53; refine (write_any (w.heap.size + 1) h hp _ (endTo h.n 8) _ _ (by rw [endTo_len]) (Nat.le_refl _) _ (H2.out.tab HT.out) (by omega) H2.out.2.2.1 H2.out.bytes (fun _ b o he => by cases he; exact H2.out.ne) (by rw [endTo_len]; have := noughts_lt h.n; omega)).mono ?_; rintro e w3 ⟨rfl, hb3, hrow3⟩; have H3 : Hid (SumRel3 h w w3) := SumRel3.start H2.out hb3 hrow3; clear hb3 hrow3)
    | (refine wpList_load_mid rfl 111 (.tmp 16) rfl (w.heap.size + 1) 0 rfl (c32 (feed h (endTo h.n 8)).st.list) _ (RowIs.range0 H3.out.2.2) Tryz.underlying111 rfl size51 ?_)
    | (go_at_call 90; refine (hashOf_any (feed h (endTo h.n 8)).st.list rfl _).mono ?_; rintro e w4 ⟨rfl, hb4⟩)
    | (refine wpList_store_row rfl 38 (.tmp 2) (.tmp 18) rfl w.heap.size (c8 (sumOf h)).toArray rfl rfl 38 (c8 (List.replicate 32 0)).toArray (H3.out.2.1.below hb4 H3.out.2.1.lt) hs32.out hs33.out (all_oneCell_toArray (c8_one _)) ?_))
  exact bodyPost_ret (v := .agg (c8 (sumOf h)).toArray) (results_cell_row Tryz.results54 _ _ w.heap.size 38 _ (0, 0) _ rfl (RowIs.setRow (H3.out.2.1.below hb4 H3.out.2.1.lt) _) Tryz.underlying38 rfl hs32.out) rfl ⟨rfl, Below.row (H3.out.1.trans (hb4.mono H3.out.1.size)) (Nat.le_refl _) _⟩
end Go.Proofs.YtgmdolpjkaajfaaGreatDoor.SH
namespace Go.Proofs.YtgmdolpjkaajfaaGreatDoor.SH
open Go.RowKit Sha
def TopRel (w w1 : World) (g : Nat) (h : Hs) : Prop :=
  w.heap.size < g ∧ Below w.heap.size w w1 ∧ RowIs w1 w.heap.size 38 (c8 (List.replicate 32 0)) ∧ RowIs w1 g 116 (hcs h)
theorem TopRel.start {w w1 : World} {g : Nat} {h : Hs} (hg : (w.alloc (.cells (c8 (List.replicate 32 0)).toArray 38)).heap.size ≤ g) (hb : Below (w.alloc (.cells (c8 (List.replicate 32 0)).toArray 38)).heap.size (w.alloc (.cells (c8 (List.replicate 32 0)).toArray 38)) w1) (hr : RowIs w1 g 116 (hcs h)) : TopRel w w1 g h :=
  ⟨by simp at hg; omega, ((Below.refl _ _).alloc (Nat.le_refl _) _).trans (hb.mono (by simp)), (RowIs.new w 38 _).below hb (by simp), hr⟩
theorem TopRel.tab {w w1 : World} {g : Nat} {h : Hs} (t : TopRel w w1 g h) (ht : Tab w) : Tab w1 := ht.below t.2.1 ht.1
theorem TopRel.ne0 {w w1 : World} {g : Nat} {h : Hs} (t : TopRel w w1 g h) (ht : Tab w) : 0 ≠ g := by have := t.1; have := ht.1; omega
theorem TopRel.bytes {w w1 : World} {g : Nat} {h : Hs} {ao : Option Addr} {bs : List UInt8} (t : TopRel w w1 g h) (hb : BytesAt w ao bs) (ha : bs ≠ [] → ∀ b o, ao = some ⟨b, o, none⟩ → b < w.heap.size) : BytesAt w1 ao bs := fun hne => by
  obtain ⟨b, o, he, hc⟩ := hb hne
  exact ⟨b, o, he, fun j hj => by rw [t.2.1.cell (p := ⟨b, o + j, none⟩) (ha hne b o he)]; exact hc j hj⟩
theorem TopRel.but {w w1 w2 : World} {g : Nat} {h h' : Hs} (t : TopRel w w1 g h) (hb : But g w1 w2) (hr : RowIs w2 g 116 (hcs h')) : TopRel w w2 g h' :=
  ⟨t.1, t.2.1.trans (hb.below (Nat.le_of_lt t.1) t.2.1.size), hb.row t.2.2.1 (by have := t.1; omega), hr⟩
/-- The sum of bytes, by the program's own steps. -/
def sumP (bs : List UInt8) : List UInt8 := sumOf (feed newHs bs)
theorem sumP_len (bs : List UInt8) : (sumP bs).length = 32 := sumOf_len _
set_option maxRecDepth 100000 in
set_option maxHeartbeats 400000 in
theorem sum_any (ao : Option Addr) (bs : List UInt8) (len cap : Nat) (hlen : len = bs.length) (hcap : len ≤ cap) (w : World) (ht : Tab w) (hb : BytesAt w ao bs) (hap : bs ≠ [] → ∀ b o, ao = some ⟨b, o, none⟩ → b < w.heap.size) (hbd : bs.length < 1152921504606846000) :
    Calls Tryz.prog 23 #[.slice ao len cap] w fun e w' => e = .returned (.agg (c8 (sumP bs)).toArray) ∧ Below w.heap.size w w' := by
  subst hlen
  have HT : Hid (Tab w) := ht
  have HB : Hid (BytesAt w ao bs) := hb
  have HA : Hid (bs ≠ [] → ∀ b o, ao = some ⟨b, o, none⟩ → b < w.heap.size) := hap
  have hs32 : Hid ((Tryz.prog.info? 38).map (·.size) = some (c8 (sumP bs)).toArray.size) := by unfold Hid; simp only [List.size_toArray, c8_len, sumP_len]; exact size24
  have hs33 : Hid ((c8 (List.replicate 32 0)).toArray.size = (c8 (sumP bs)).toArray.size) := by unfold Hid; simp only [List.size_toArray, c8_len, sumP_len, List.length_replicate]
  clear ht hb hap
  go_enter Tryz.func23, Tryz.ntmps23
  go_wp2_with (first
    | (go_at_call 52; refine (new_any _).mono ?_; rintro e w1 ⟨g, rfl, hg, hb1, hr1⟩; have H1 : Hid (TopRel w w1 g newHs) := TopRel.start hg hb1 hr1; clear hb1 hr1 hg)
    | (go_at_call 53; refine (write_any g newHs newHs_part ao bs bs.length cap rfl hcap _ (H1.out.tab HT.out) (H1.out.ne0 HT.out) H1.out.2.2.2 (H1.out.bytes HB.out HA.out) (fun hne b o he => by have := HA.out hne b o he; have := H1.out.1; omega) (by show 0 + _ < _; omega)).mono ?_; rintro e w2 ⟨rfl, hb2, hr2⟩; have H2 : Hid (TopRel w w2 g (feed newHs bs)) := TopRel.but H1.out hb2 hr2; clear hb2 hr2)
    | (go_at_call 54; refine (hsum_any g (feed newHs bs) (by rw [feed_part]; rfl) _ (H2.out.tab HT.out) H2.out.2.2.2 (by rw [feed_n]; show 0 + _ < _; omega)).mono ?_; rintro e w3 ⟨rfl, hb3⟩)
    | (refine wpList_store_row rfl 38 (.tmp 2) (.tmp 9) rfl w.heap.size (c8 (sumP bs)).toArray rfl rfl 38 (c8 (List.replicate 32 0)).toArray (H2.out.2.2.1.below hb3 H2.out.2.2.1.lt) hs32.out hs33.out (all_oneCell_toArray (c8_one _)) ?_))
  exact bodyPost_ret (v := .agg (c8 (sumP bs)).toArray) (results_cell_row Tryz.results23 _ _ w.heap.size 38 _ (0, 0) _ rfl (RowIs.setRow (H2.out.2.2.1.below hb3 H2.out.2.2.1.lt) _) Tryz.underlying38 rfl hs32.out) rfl ⟨rfl, Below.row (H2.out.2.1.trans (hb3.mono H2.out.2.1.size)) (Nat.le_refl _) _⟩
end Go.Proofs.YtgmdolpjkaajfaaGreatDoor.SH
namespace Go.Proofs.YtgmdolpjkaajfaaGreatDoor.SH
open Go.RowKit Sha
def hexDigits : List UInt8 := [48, 49, 50, 51, 52, 53, 54, 55, 56, 57, 97, 98, 99, 100, 101, 102]
def hexTo (bs : List UInt8) : Nat → List UInt8
  | 0 => List.replicate 64 0
  | k + 1 => ((hexTo bs k).set (2 * k) (hexDigits.getD ((bs.getD k 0).toNat / 16) 0)).set (2 * k + 1) (hexDigits.getD ((bs.getD k 0).toNat % 16) 0)
def HexRel (bs : List UInt8) (w : World) (k : Nat) (wr : World) : Prop := Below w.heap.size w wr ∧ RowIs wr (w.heap.size + 1) 113 (c8 (hexTo bs k))
theorem HexRel.start (bs : List UInt8) (w : World) : HexRel bs w 0 ((w.alloc (.cells (c8 bs).toArray 38)).alloc (.cells (c8 (List.replicate 64 0)).toArray 113)) := by
  refine ⟨((Below.refl _ _).alloc (Nat.le_refl _) _).alloc (by simp) _, ?_⟩
  have := RowIs.new (w.alloc (.cells (c8 bs).toArray 38)) 113 (c8 (List.replicate 64 0))
  rw [show (w.alloc (.cells (c8 bs).toArray 38)).heap.size = w.heap.size + 1 by simp] at this
  exact this
theorem HexRel.next {bs : List UInt8} {w wr : World} {k : Nat} (h : HexRel bs w k wr) : HexRel bs w (k + 1) ((wr.setCell ⟨w.heap.size + 1, 2 * k, none⟩ (.int .u8 ((hexDigits.getD ((bs.getD k 0).toNat / 16) 0).toNat : Int))).setCell ⟨w.heap.size + 1, 2 * k + 1, none⟩ (.int .u8 ((hexDigits.getD ((bs.getD k 0).toNat % 16) 0).toNat : Int))) := by
  obtain ⟨hb, r⟩ := h
  have hp : w.heap.size ≤ w.heap.size + 1 := by omega
  refine ⟨(hb.setCell hp _).setCell hp _, ?_⟩
  have := (r.set (2 * k) (.int .u8 ((hexDigits.getD ((bs.getD k 0).toNat / 16) 0).toNat : Int))).set (2 * k + 1) (.int .u8 ((hexDigits.getD ((bs.getD k 0).toNat % 16) 0).toNat : Int))
  rw [c8_set, c8_set] at this
  exact this
end Go.Proofs.YtgmdolpjkaajfaaGreatDoor.SH
namespace Go.Proofs.YtgmdolpjkaajfaaGreatDoor.SH
open Go.RowKit Sha
end Go.Proofs.YtgmdolpjkaajfaaGreatDoor.SH
namespace Go.Proofs.YtgmdolpjkaajfaaGreatDoor.SH
open Go.RowKit Sha
end Go.Proofs.YtgmdolpjkaajfaaGreatDoor.SH
