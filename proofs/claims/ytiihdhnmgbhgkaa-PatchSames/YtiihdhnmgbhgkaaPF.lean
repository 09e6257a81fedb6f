/-
  The reference's Copy (6): patches as new memory.
-/
import Derived.Test.YtiihdhnmgbhgkaaPE
import Derived.Great.BuildSlice
namespace Go.Proofs.Ytiihdhnmgbhgkaa
open Go.RowKit
attribute [local go_sem] Oper.semAt_some
theorem info9 : ∃ i z, Try.prog.info? 9 = some i ∧ i.zero = some z ∧ i.size = 1 ∧ i.bytes = 16 ∧ z.cells.size = 1 := by
  have h : (Try.prog.info? 9).map (fun i => (i.zero.map (·.cells.size), i.size, i.bytes)) = some (some 1, 1, 16) := by kernel_rfl
  obtain ⟨i, hi, hz⟩ := Option.map_eq_some_iff.1 h
  simp only [Prod.mk.injEq] at hz
  obtain ⟨hz, hs, hb⟩ := hz
  obtain ⟨z, hz1, hz2⟩ := Option.map_eq_some_iff.1 hz
  exact ⟨i, z, hi, hz1, hs, hb, hz2⟩
theorem info95 : ∃ i z, Try.prog.info? 95 = some i ∧ i.zero = some z ∧ i.size = 32 ∧ i.bytes = 32 ∧ z.cells.size = 32 := by
  have h : (Try.prog.info? 95).map (fun i => (i.zero.map (·.cells.size), i.size, i.bytes)) = some (some 32, 32, 32) := by kernel_rfl
  obtain ⟨i, hi, hz⟩ := Option.map_eq_some_iff.1 h
  simp only [Prod.mk.injEq] at hz
  obtain ⟨hz, hs, hb⟩ := hz
  obtain ⟨z, hz1, hz2⟩ := Option.map_eq_some_iff.1 hz
  exact ⟨i, z, hi, hz1, hs, hb, hz2⟩
theorem info46 : ∃ i z, Try.prog.info? 46 = some i ∧ i.zero = some z ∧ i.size = 9 ∧ i.bytes = 120 ∧ z.cells.size = 9 := by
  have h : (Try.prog.info? 46).map (fun i => (i.zero.map (·.cells.size), i.size, i.bytes)) = some (some 9, 9, 120) := by kernel_rfl
  obtain ⟨i, hi, hz⟩ := Option.map_eq_some_iff.1 h
  simp only [Prod.mk.injEq] at hz
  obtain ⟨hz, hs, hb⟩ := hz
  obtain ⟨z, hz1, hz2⟩ := Option.map_eq_some_iff.1 hz
  exact ⟨i, z, hi, hz1, hs, hb, hz2⟩
theorem wpList_st {w w' : World} {ops : Array Oper} {rest : List Oper} {o : Oper} {a : Act} {Q : Exit → Act → World → Prop} (hg : o.guard = none) (hr : (execOp a.eval o).run Try.prog w = .ok .skip w') (h : wpList Try.prog ops Q rest (a.put o.dst undef) w') : wpList Try.prog ops Q (o :: rest) a w :=
  wpList_plain hg fun K hK => by unfold Oper.wp; rw [hr]; exact hK _ _ h
theorem fresh_own (w : World) (e : TypeId) (k : Nat) : OwnL (w.alloc (.cells #[] e)) w.heap.size e k (.slice (some ⟨w.heap.size, 0, none⟩) 0 0) [] :=
  ⟨fun _ h => by simp at h, row_own (cs := []) (Nat.le_refl _) (RowIs.new w e []) (Nat.le_refl _) (by decide) (by simp) (by simp)⟩
theorem grown_after {w w' : World} {v : Value} {base : Nat} {t : TypeId} {k n : Nat} {xs : List Value} {w0 : World} (ha : After w0 w) (h : w.ownsRow base t k v n xs) (hb : w0.heap.size ≤ base) (hg : w.grownBy w' v.ownBlock) : After w0 w' :=
  ⟨hg.os.trans ha.os, hg.tape.trans ha.tape, hg.output.trans ha.output, Nat.le_trans ha.size hg.size, fun b hb2 => (hg.block b (Nat.lt_of_lt_of_le hb2 ha.size) (fun e => by have := (own_lt h e.symm).1; omega)).trans (ha.block b hb2)⟩
section
variable {oi : Oper} {a : Act} {w : World}
theorem x_bs38e (hop : oi.op = .buildSlice 38 0 #[]) : (execOp a.eval oi).run Try.prog w = .ok (.value (.slice (some ⟨w.heap.size, 0, none⟩) 0 0)) (w.alloc (.cells #[] 9)) := by
  have hb : (Instr.buildSlice 38 0 #[]).run Try.prog w = .ok (.slice (some ⟨w.heap.size, 0, none⟩) 0 0) (w.alloc (.cells #[] 9)) := by kernel_rfl
  unfold execOp
  simp [hop, hb]
theorem x_st38 {x y : Operand} {g p : Nat} {va : Option Addr} {m c : Nat} {u : Value} (hop : oi.op = .store 38 x y) (hx : a.eval x = .pointer (some ⟨g, p, none⟩)) (hy : a.eval y = .slice va m c) (hc : w.cell? ⟨g, p, none⟩ = some u) (hf : w.frozen? ⟨g, p, none⟩ = false) : (execOp a.eval oi).run Try.prog w = .ok .skip (w.setCell ⟨g, p, none⟩ (.slice va m c)) := by
  unfold execOp
  simp only [hop, hx, hy]
  simp [go_sem, hc, hf, Instr.storeAt, Instr.sureAddr]
theorem x_bs44e (hop : oi.op = .buildSlice 44 0 #[]) : (execOp a.eval oi).run Try.prog w = .ok (.value (.slice (some ⟨w.heap.size, 0, none⟩) 0 0)) (w.alloc (.cells #[] 95)) := by
  have hb : (Instr.buildSlice 44 0 #[]).run Try.prog w = .ok (.slice (some ⟨w.heap.size, 0, none⟩) 0 0) (w.alloc (.cells #[] 95)) := by kernel_rfl
  unfold execOp
  simp [hop, hb]
theorem x_st44 {x y : Operand} {g p : Nat} {va : Option Addr} {m c : Nat} {u : Value} (hop : oi.op = .store 44 x y) (hx : a.eval x = .pointer (some ⟨g, p, none⟩)) (hy : a.eval y = .slice va m c) (hc : w.cell? ⟨g, p, none⟩ = some u) (hf : w.frozen? ⟨g, p, none⟩ = false) : (execOp a.eval oi).run Try.prog w = .ok .skip (w.setCell ⟨g, p, none⟩ (.slice va m c)) := by
  unfold execOp
  simp only [hop, hx, hy]
  simp [go_sem, hc, hf, Instr.storeAt, Instr.sureAddr]
theorem x_app38 {s x : Operand} {v u v' : Value} {w' : World} (hop : oi.op = .call { callee := .builtin .append, args := #[s, x], argTypes := #[38, 38] }) (hs : a.eval s = v) (hx : a.eval x = u) (hr : (Builtin.append_ #[38, 38] oi.type #[v, u]).run Try.prog w = .ok v' w') : (execOp a.eval oi).run Try.prog w = .ok (.value v') w' := by
  unfold execOp
  simp only [hop, resolve, invoke, builtin, Sem.run_bind, Sem.run_pure, Result.andThen_ok, List.map_toArray, List.map_cons, List.map_nil, hs, hx, hr]
theorem x_app44 {s x : Operand} {v u v' : Value} {w' : World} (hop : oi.op = .call { callee := .builtin .append, args := #[s, x], argTypes := #[44, 44] }) (hs : a.eval s = v) (hx : a.eval x = u) (hr : (Builtin.append_ #[44, 44] oi.type #[v, u]).run Try.prog w = .ok v' w') : (execOp a.eval oi).run Try.prog w = .ok (.value v') w' := by
  unfold execOp
  simp only [hop, resolve, invoke, builtin, Sem.run_bind, Sem.run_pure, Result.andThen_ok, List.map_toArray, List.map_cons, List.map_nil, hs, hx, hr]
theorem x_app27 {s x : Operand} {v u v' : Value} {w' : World} (hop : oi.op = .call { callee := .builtin .append, args := #[s, x], argTypes := #[27, 27] }) (hs : a.eval s = v) (hx : a.eval x = u) (hr : (Builtin.append_ #[27, 27] oi.type #[v, u]).run Try.prog w = .ok v' w') : (execOp a.eval oi).run Try.prog w = .ok (.value v') w' := by
  unfold execOp
  simp only [hop, resolve, invoke, builtin, Sem.run_bind, Sem.run_pure, Result.andThen_ok, List.map_toArray, List.map_cons, List.map_nil, hs, hx, hr]
theorem x_bs27 {x : Operand} {y : Px} (hop : oi.op = .buildSlice 27 1 #[(0, x)]) (hx : a.eval x = .agg (pxc y).toArray) : (execOp a.eval oi).run Try.prog w = .ok (.value (.slice (some ⟨w.heap.size, 0, none⟩) 1 1)) (w.alloc (.cells (pxc y).toArray 46)) := by
  obtain ⟨i, z, hi, hz, hsz, hby, hzc⟩ := info46
  have hb : (Instr.buildSlice 27 1 #[(0, .agg (pxc y).toArray)]).run Try.prog w = .ok (.slice (some ⟨w.heap.size, 0, none⟩) 1 1) (w.alloc (.cells (pxc y).toArray 46)) := by
    refine run_buildSlice (P := Try.prog) w 27 46 1 #[(0, .agg (pxc y).toArray)] (pxc y).toArray i z Try.underlying27 hi hz (by rw [hsz]; omega) (by rw [hsz]; omega) ?_
    rw [hsz]
    have := Great.fill_whole (s := 9) (by omega) [Value.agg (pxc y).toArray] ((Array.range (1 * 9)).map (z.cells[· % z.cells.size]!)) (fun v hv' => by rw [List.mem_singleton] at hv'; subst hv'; simp [Value.cells, pxc_len]) (by simp)
    refine Eq.trans this ?_
    simp [Value.cells]
  unfold execOp
  simp [hop, hx, hb]
end
theorem st_one (l : List Nm) : ∀ x ∈ stL l, ∀ u ∈ x, u.oneCell' = true := fun x hx u hu => by
  obtain ⟨s, _, rfl⟩ := List.mem_map.1 hx
  rw [List.mem_singleton] at hu; subst hu; rfl
theorem app38_new {W : World} {l : List Nm} {a : Option Addr} {m c : Nat} (hm : l.length = m) (hs : SlAt W 1 a (stL l)) (hb : m * 16 ≤ 140737488355328) (hc : a = none → c = 0) :
    ∃ va vc W', (Builtin.append_ #[38, 38] 38 #[.slice (some ⟨W.heap.size, 0, none⟩) 0 0, .slice a m c]).run Try.prog (W.alloc (.cells #[] 9)) = .ok (.slice va m vc) W' ∧ OwnL W' W.heap.size 9 1 (.slice va m vc) (stL l) ∧ After W W' := by
  obtain ⟨i, z, hi, hz, hsz, hby, hzc⟩ := info9
  have hL : (stL l).length = m := by unfold stL; rw [List.length_map]; exact hm
  obtain ⟨va, vc, W', r1, r2, r3, _⟩ := run_appL (w := W.alloc (.cells #[] 9)) 38 38 9 1 16 Try.underlying38 hi hz hsz hby hzc (by omega) (fresh_own W 9 1) (N := stL l) (a := a) (m := m) (c := c) hL (hs.after (after_alloc (After.refl W) _)) (st_one l) (by simp only [List.length_nil]; unfold maxLen; omega) (by simp only [List.length_nil]; omega) (by simp) (fun _ h => hc h)
  simp only [List.length_nil, Nat.zero_add, List.nil_append] at r1 r2
  exact ⟨va, vc, W', r1, r2, grown_after (after_alloc (After.refl W) _) (fresh_own W 9 1).2 (Nat.le_refl _) r3⟩
theorem hs_one (l : List H) : ∀ x ∈ hsL l, ∀ u ∈ x, u.oneCell' = true := fun x hx u hu => by
  obtain ⟨s, _, rfl⟩ := List.mem_map.1 hx
  unfold c8 at hu
  obtain ⟨q, _, rfl⟩ := List.mem_map.1 hu
  rfl
theorem app44_new {W : World} {l : List H} {a : Option Addr} {m c : Nat} (hm : l.length = m) (hs : SlAt W 32 a (hsL l)) (hb : m * 32 ≤ 140737488355328) (hc : a = none → c = 0) :
    ∃ va vc W', (Builtin.append_ #[44, 44] 44 #[.slice (some ⟨W.heap.size, 0, none⟩) 0 0, .slice a m c]).run Try.prog (W.alloc (.cells #[] 95)) = .ok (.slice va m vc) W' ∧ OwnL W' W.heap.size 95 32 (.slice va m vc) (hsL l) ∧ After W W' := by
  obtain ⟨i, z, hi, hz, hsz, hby, hzc⟩ := info95
  have hL : (hsL l).length = m := by unfold hsL; rw [List.length_map]; exact hm
  obtain ⟨va, vc, W', r1, r2, r3, _⟩ := run_appL (w := W.alloc (.cells #[] 95)) 44 44 95 32 32 Try.underlying44 hi hz hsz hby hzc (by omega) (fresh_own W 95 32) (N := hsL l) (a := a) (m := m) (c := c) hL (hs.after (after_alloc (After.refl W) _)) (hs_one l) (by simp only [List.length_nil]; unfold maxLen; omega) (by simp only [List.length_nil]; omega) (by simp) (fun _ h => hc h)
  simp only [List.length_nil, Nat.zero_add, List.nil_append] at r1 r2
  exact ⟨va, vc, W', r1, r2, grown_after (after_alloc (After.refl W) _) (fresh_own W 95 32).2 (Nat.le_refl _) r3⟩
structure PxOwn (W : World) (B : Nat) (y : Px) : Prop where
  vals : OwnL W B 9 1 (.slice y.va y.p.vals.length y.vc) (stL y.p.vals)
  frm : OwnL W B 95 32 (.slice y.fa y.p.frm.length y.fc) (hsL y.p.frm)
  h32 : All32 y.p.frm
  vl : y.p.vals.length * 16 ≤ 140737488355328
  fl : y.p.frm.length * 32 ≤ 140737488355328
theorem PxOwn.at {W : World} {B : Nat} {y : Px} (h : PxOwn W B y) : PxAt W y := by
  obtain ⟨a, c, e, hs⟩ := h.vals.sl
  obtain ⟨a2, c2, e2, hs2⟩ := h.frm.sl
  injection e with e1 _ _
  injection e2 with e3 _ _
  exact ⟨by rw [e1]; exact hs, by rw [e3]; exact hs2, h.h32, h.vl, h.fl⟩
theorem PxOwn.same {W W' : World} {B : Nat} {y : Px} (h : PxOwn W B y) (hk : ∀ b t cs, RowIs W b t cs → t ≠ 46 → W'.heap[b]? = W.heap[b]?) : PxOwn W' B y :=
  ⟨h.vals.same (fun b hb => by obtain ⟨_, _, cs, hr⟩ := own_lt h.vals.2 hb; exact hk b 9 cs hr (by decide)), h.frm.same (fun b hb => by obtain ⟨_, _, cs, hr⟩ := own_lt h.frm.2 hb; exact hk b 95 cs hr (by decide)), h.h32, h.vl, h.fl⟩
theorem PxOwn.after {W W' : World} {B : Nat} {y : Px} (h : PxOwn W B y) (ha : After W W') : PxOwn W' B y := h.same (fun b _ _ hr _ => ha.block b hr.lt)
theorem OwnL.after {w w' : World} {base : Nat} {t : TypeId} {k : Nat} {v : Value} {L : List (List Value)} (h : OwnL w base t k v L) (ha : After w w') : OwnL w' base t k v L := h.same (fun b hb => ha.block b (own_lt h.2 hb).2.1)
theorem OwnL.mono {w : World} {base base' : Nat} {t : TypeId} {k : Nat} {v : Value} {L : List (List Value)} (h : OwnL w base t k v L) (hb : base' ≤ base) : OwnL w base' t k v L := ⟨h.1, own_mono h.2 hb⟩
structure CpI (w wr : World) (la : List Px) (i : Nat) (v : Value) (ys : List Px) : Prop where
  own : OwnL wr w.heap.size 46 9 v (ys.map pxc)
  each : ∀ y ∈ ys, PxOwn wr w.heap.size y
  same : pts ys = (pts la).take i
  aft : After w wr
/-- One patch more. -/
theorem cp_step {w wr W7 : World} {la ys : List Px} {i : Nat} {oa : Option Addr} {oc : Nat} (h : CpI w wr la i (.slice oa i oc) ys) {x y : Px} (hx : la[i]? = some x) (hp : y.p = x.p) (hl : ys.length = i) (ha : After wr W7) (hy : PxOwn W7 w.heap.size y) (hb : (i + 1) * 120 ≤ 140737488355328) :
    ∃ na nc W9, (Builtin.append_ #[27, 27] 27 #[.slice oa i oc, .slice (some ⟨W7.heap.size, 0, none⟩) 1 1]).run Try.prog (W7.alloc (.cells (pxc y).toArray 46)) = .ok (.slice na (i + 1) nc) W9 ∧ CpI w W9 la (i + 1) (.slice na (i + 1) nc) (ys ++ [y]) := by
  obtain ⟨ii, z, hi, hz, hsz, hby, hzc⟩ := info46
  obtain ⟨W8, hW8⟩ : ∃ W8, W7.alloc (.cells (pxc y).toArray 46) = W8 := ⟨_, rfl⟩
  have a78 : After W7 W8 := by rw [← hW8]; exact after_alloc (After.refl W7) _
  have hr8 : RowIs W8 W7.heap.size 46 (pxc y) := by rw [← hW8]; exact RowIs.new W7 46 _
  have ho := h.own.after (ha.trans a78)
  have hsl : SlAt W8 9 (some ⟨W7.heap.size, 0, none⟩) [pxc y] := ⟨fun u hu => by rw [List.mem_singleton] at hu; subst hu; rfl, fun _ => ⟨_, _, rfl, fun j v hv => by rw [Nat.zero_add]; exact hr8.cell (by simpa using hv)⟩⟩
  have hyl : (ys.map pxc).length = i := by rw [List.length_map]; exact hl
  obtain ⟨na, nc, W9, r1, r2, r3, _⟩ := run_appL (w := W8) 27 27 46 9 120 Try.underlying27 hi hz hsz hby hzc (by omega) ho (N := [pxc y]) (a := some ⟨W7.heap.size, 0, none⟩) (m := 1) (c := 1) rfl hsl (fun u hu => by rw [List.mem_singleton] at hu; subst hu; exact pxc_one y) (by rw [hyl]; unfold maxLen; omega) (by rw [hyl]; exact hb) (by have := h.aft.size; have := ha.size; have := a78.size; omega) (fun h => by cases h)
  rw [hyl] at r1 r2
  rw [hW8]
  have hk : ∀ b t cs, RowIs W8 b t cs → t ≠ 46 → W9.heap[b]? = W8.heap[b]? := fun b t cs hr ht => r3.block b hr.lt (fun e => by
    obtain ⟨_, _, cs', hr'⟩ := own_lt ho.2 e.symm
    exact ht (hr.ty hr').1)
  refine ⟨na, nc, W9, r1, ⟨by rw [List.map_append]; exact r2, fun q hq => ?_, ?_, grown_after (h.aft.trans (ha.trans a78)) ho.2 (Nat.le_refl _) r3⟩⟩
  · rcases List.mem_append.1 hq with hq | hq
    · exact ((h.each q hq).after (ha.trans a78)).same hk
    · rw [List.mem_singleton] at hq; subst hq
      exact (hy.after a78).same hk
  · have hq := h.same
    unfold pts at hq ⊢
    rw [List.map_append, hq, List.take_add_one, List.getElem?_map, hx]
    simp [hp]
set_option maxRecDepth 100000 in
set_option maxHeartbeats 6400000 in
theorem copy6 {ao : Option Addr} {ca : Nat} {la : List Px} {n : Nat} (hla : la.length = n) (hbig : n * 120 ≤ 140737488355328) (hnz : ∀ x ∈ la, (x.va = none → x.vc = 0) ∧ (x.fa = none → x.fc = 0)) {w : World} (hA : PsAt w ao la) :
    Calls Try.prog 6 #[.slice ao n ca] w fun e w' => ∃ oa oc, e = .returned (.slice oa n oc) ∧ ∃ ys, CpI w w' la n (.slice oa n oc) ys := by
  have HFA : Hid (PsAt w ao la ∧ la.length = n ∧ n * 120 ≤ 140737488355328 ∧ ∀ x ∈ la, (x.va = none → x.vc = 0) ∧ (x.fa = none → x.fc = 0)) := ⟨hA, hla, hbig, hnz⟩
  clear hA hla hnz
  go_enter Try.func6, Try.ntmps6
  go_wp2_with fail
  go_loopw [3, 4] (fun ov iv wr => ∃ i : Nat, i ≤ n ∧ iv = .int .i64 (i : Int) ∧ ∃ oa oc, ov = .slice oa i oc ∧ ∃ ys, Hid (CpI w wr la i (.slice oa i oc) ys)) (fun _ iv _ => n - (intOf iv).toNat)
  case atStart => exact ⟨0, Nat.zero_le _, rfl, none, 0, rfl, [], OwnL.nil w _ 46 9, fun y hy => by simp at hy, rfl, After.refl w⟩
  case round =>
    obtain ⟨i, hin, rfl, oa, oc, rfl, ys, HI⟩ := hrel
    by_cases hlt : i < n
    · have hii : (i : Int) < (n : Int) := by omega
      have HLT : Hid (i < n ∧ (i + 1) * 120 ≤ 140737488355328) := ⟨hlt, by have := HFA.out.2.2.1; omega⟩
      obtain ⟨x, hx⟩ : ∃ x, la[i]? = some x := ⟨_, List.getElem?_eq_getElem (by rw [HFA.out.2.1]; exact hlt)⟩
      obtain ⟨xb, xo, hxa, hxr⟩ := HFA.out.1.1.at (ps_get hx)
      subst hxa
      have hxm := List.mem_of_getElem? hx
      obtain ⟨W1, hW1⟩ : ∃ W1, (wr.alloc (.cells (pxc zpx).toArray 46)).setRow wr.heap.size (pxc x).toArray = W1 := ⟨_, rfl⟩
      have hp1 := put46 hW1
      obtain ⟨g5, hg5⟩ : ∃ g5, wr.heap.size = g5 := ⟨_, rfl⟩
      have hxat := ((HFA.out.1.2 x hxm).after HI.out.aft).after hp1.2.2
      obtain ⟨va, vc, W3, hv1, hv2, hv3⟩ := app38_new rfl hxat.vals hxat.vl (HFA.out.2.2.2 x hxm).1
      have r3 : RowIs W3 g5 46 (pxc x) := by rw [← hg5]; exact hp1.2.1.below hv3 hp1.2.1.lt
      obtain ⟨W4, hW4⟩ : ∃ W4, W3.setCell ⟨g5, 2, none⟩ (.slice va x.p.vals.length vc) = W4 := ⟨_, rfl⟩
      obtain ⟨x1, hx1⟩ : ∃ x1 : Px, x1 = ⟨x.p, va, vc, x.fa, x.fc⟩ := ⟨_, rfl⟩
      have r4 : RowIs W4 g5 46 (pxc x1) := by rw [← hW4, hx1]; exact r3.set 2 _
      have a14 : After wr W4 := by
        rw [← hW4]
        exact Below.setCell (hp1.2.2.trans hv3) (p := ⟨g5, 2, none⟩) (by rw [hg5]; exact Nat.le_refl _) _
      have hv4 : OwnL W4 W1.heap.size 9 1 (.slice va x.p.vals.length vc) (stL x.p.vals) := hv2.same (fun b hb => by
        rw [← hW4]
        refine Below.heap_setCell W3 ⟨g5, 2, none⟩ _ b (fun e => ?_)
        have h1 := (own_lt hv2.2 hb).1
        have h2 := hp1.2.1.lt
        rw [hg5] at h2
        have e : b = g5 := e
        omega)
      have hx4 := (HFA.out.1.2 x hxm).after (HI.out.aft.trans a14)
      obtain ⟨fa, fc, W6, hf1, hf2, hf3⟩ := app44_new rfl hx4.frm hx4.fl (HFA.out.2.2.2 x hxm).2
      have r6 : RowIs W6 g5 46 (pxc x1) := r4.below hf3 r4.lt
      obtain ⟨W7, hW7⟩ : ∃ W7, W6.setCell ⟨g5, 8, none⟩ (.slice fa x.p.frm.length fc) = W7 := ⟨_, rfl⟩
      obtain ⟨y, hyy⟩ : ∃ y : Px, y = ⟨x.p, va, vc, fa, fc⟩ := ⟨_, rfl⟩
      have r7 : RowIs W7 g5 46 (pxc y) := by
        have := r6.set 8 (.slice fa x.p.frm.length fc)
        rw [hW7] at this
        rw [hyy]; rw [hx1] at this; exact this
      have hne : ∀ b, W1.heap.size ≤ b → b ≠ g5 := fun b hb e => by have h2 := hp1.2.1.lt; rw [hg5] at h2; omega
      have k67 : ∀ b, b ≠ g5 → W7.heap[b]? = W6.heap[b]? := fun b hb => by rw [← hW7]; exact Below.heap_setCell W6 ⟨g5, 8, none⟩ _ b hb
      have a17 : After wr W7 := by
        rw [← hW7]
        exact Below.setCell (a14.trans hf3) (p := ⟨g5, 8, none⟩) (by rw [hg5]; exact Nat.le_refl _) _
      have s14 : W1.heap.size ≤ W4.heap.size := by
        have : W4.heap.size = W3.heap.size := by rw [← hW4]; simp [World.setCell]
        rw [this]; exact hv3.size
      have hyo : PxOwn W7 w.heap.size y := by
        have hB : w.heap.size ≤ W1.heap.size := Nat.le_trans HI.out.aft.size hp1.2.2.size
        rw [hyy]
        refine ⟨((hv4.after hf3).same (fun b hb => k67 b (hne b (own_lt hv4.2 hb).1))).mono hB, (hf2.same (fun b hb => k67 b (hne b (Nat.le_trans s14 (own_lt hf2.2 hb).1)))).mono (Nat.le_trans hB s14), hx4.h32, hx4.vl, hx4.fl⟩
      have hyl : ys.length = i := by
        have := congrArg List.length HI.out.same
        unfold pts at this
        rw [List.length_map, List.length_take, List.length_map, HFA.out.2.1] at this
        omega
      obtain ⟨na, nc, W9, hn1, hn2⟩ := cp_step HI.out hx (by rw [hyy]) hyl a17 hyo HLT.out.2
      have HP1 := show Hid _ from hp1
      have HG1 := show Hid _ from hW1
      have HG5 := show Hid _ from hg5
      have HV := show Hid _ from hv1
      have HF := show Hid _ from hf1
      have HG4 := show Hid _ from hW4
      have HG7 := show Hid _ from hW7
      have HN := show Hid _ from hn1
      have HE := show Hid _ from hn2
      have HX : Hid (wr.rangeAt xb (xo + i * 9) (pxc x)) := range_after hxr HI.out.aft
      have c2 := hp1.2.1.cell (j := 2) rfl
      rw [hg5] at c2
      have HC2 : Hid ((W1.alloc (.cells #[] 9)).cell? ⟨g5, 2, none⟩ = some (.slice x.va x.p.vals.length x.vc)) := (Below.cell (after_alloc (After.refl W1) (.cells #[] 9)) (p := ⟨g5, 2, none⟩) (by have := hp1.2.1.lt; rw [hg5] at this; exact this)).trans c2
      have HC8 : Hid ((W4.alloc (.cells #[] 95)).cell? ⟨g5, 8, none⟩ = some (.slice x.fa x.p.frm.length x.fc)) := (Below.cell (after_alloc (After.refl W4) (.cells #[] 95)) (p := ⟨g5, 8, none⟩) r4.lt).trans (by rw [r4.cell (j := 8) rfl, hx1])
      have HR3 : Hid (W3.cell? ⟨g5, 2, none⟩ = some (.slice x.va x.p.vals.length x.vc) ∧ W3.frozen? ⟨g5, 2, none⟩ = false) := ⟨r3.cell rfl, r3.frozen 2⟩
      have HR6 : Hid (W6.cell? ⟨g5, 8, none⟩ = some (.slice x.fa x.p.frm.length x.fc) ∧ W6.frozen? ⟨g5, 8, none⟩ = false) := ⟨by rw [r6.cell (j := 8) rfl, hx1], r6.frozen 8⟩
      have HR7 : Hid (RowIs W7 g5 46 (pxc y)) := r7
      rw [hg5] at HP1 HG1
      clear hx hxr hxm hW1 hp1 hg5 hxat hv1 hv2 hv3 r3 hW4 hx1 r4 a14 hv4 hx4 hf1 hf2 hf3 r6 hW7 hyy r7 hne k67 a17 s14 hyo hyl hn1 hn2 c2
      go_wp2_with (first
        | (refine wpList_of_run rfl (x_idx27 (x := .tmp 12) (y := .tmp 13) (b := xb) (f := xo) (n := n) (c := ca) (k := i) rfl (by kernel_rfl) (by kernel_rfl) HLT.out.1) ?_)
        | (refine wpList_of_run rfl (x_ld46 (x := .tmp 14) (g := xb) (p := xo + i * 9) (y := x) rfl (by kernel_rfl) HX.out) ?_)
        | (refine wpList_of_run rfl (x_al46 rfl) ?_; rw [HG5.out])
        | (refine wpList_store_row rfl 46 (.tmp 5) (.tmp 15) rfl g5 (pxc x).toArray rfl rfl 46 _ HP1.out.1 (size46 x) rfl (by simpa using pxc_one x) ?_; rw [HG1.out])
        | (refine wpList_of_run rfl (x_bs38e rfl) ?_)
        | (refine wpList_of_run rfl (x_loadT (x := .tmp 17) (t := 38) (g := g5) (j := 2) Try.underlying38 rfl rfl (by kernel_rfl) HC2.out) ?_)
        | (refine wpList_of_run rfl (x_app38 (s := .tmp 16) (x := .tmp 18) rfl (by kernel_rfl) (by kernel_rfl) HV.out) ?_)
        | (refine wpList_st rfl (x_st38 (x := .tmp 20) (y := .tmp 19) (g := g5) (p := 2) (va := va) (m := x.p.vals.length) (c := vc) rfl (by kernel_rfl) (by kernel_rfl) HR3.out.1 HR3.out.2) ?_; rw [HG4.out])
        | (refine wpList_of_run rfl (x_bs44e rfl) ?_)
        | (refine wpList_of_run rfl (x_loadT (x := .tmp 22) (t := 44) (g := g5) (j := 8) Try.underlying44 rfl rfl (by kernel_rfl) HC8.out) ?_)
        | (refine wpList_of_run rfl (x_app44 (s := .tmp 21) (x := .tmp 23) rfl (by kernel_rfl) (by kernel_rfl) HF.out) ?_)
        | (refine wpList_st rfl (x_st44 (x := .tmp 25) (y := .tmp 24) (g := g5) (p := 8) (va := fa) (m := x.p.frm.length) (c := fc) rfl (by kernel_rfl) (by kernel_rfl) HR6.out.1 HR6.out.2) ?_; rw [HG7.out])
        | (refine wpList_load_row rfl 46 (.tmp 5) rfl g5 rfl 46 (pxc y).toArray (0, 0) _ HR7.out Try.underlying46 rfl (size46 y) ?_)
        | (refine wpList_of_run rfl (x_bs27 (x := .tmp 27) (y := y) rfl (by kernel_rfl)) ?_)
        | (refine wpList_of_run rfl (x_app27 (s := .tmp 26) (x := .tmp 28) rfl (by kernel_rfl) (by kernel_rfl) HN.out) ?_))
      go_roundw
      case rel => exact ⟨i + 1, by omega, by go_num, na, nc, rfl, ys ++ [y], HE⟩
      case measure => simp [intOf]; omega
    · obtain rfl : i = n := by omega
      have hii : ¬ (i : Int) < (i : Int) := by omega
      go_wp2_with fail
      go_ret
      exact ⟨oa, oc, rfl, ys, HI.out⟩
end Go.Proofs.Ytiihdhnmgbhgkaa
