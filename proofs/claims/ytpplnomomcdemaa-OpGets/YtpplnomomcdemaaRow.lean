/-
  BLOCKS THAT ARE KNOWN WHOLE; HASHES COMPARED; THE READER THAT IS NOT THERE.
-/
import Derived.Test.YtpplnomomcdemaaHand2
import Derived.ChangeKeysEq
namespace Go.Proofs.Ytpplnomomcdemaa
open Go.RowKit Leb
/-- Block g holds the cells cs, of type t; nothing of it is frozen. -/
def RowIs (w : World) (g : Nat) (t : TypeId) (cs : List Value) : Prop := w.heap[g]? = some (.cells cs.toArray t (0, 0))
theorem RowIs.lt {w : World} {g : Nat} {t : TypeId} {cs : List Value} (h : RowIs w g t cs) : g < w.heap.size := by
  unfold RowIs at h; exact (Array.getElem?_eq_some_iff.1 h).1
theorem RowIs.cell {w : World} {g : Nat} {t : TypeId} {cs : List Value} (h : RowIs w g t cs) {j : Nat} {v : Value} (hj : cs[j]? = some v) : w.cell? ⟨g, j, none⟩ = some v := by
  rw [cell_of_row w g j _ t _ h]; simpa using hj
theorem RowIs.frozen {w : World} {g : Nat} {t : TypeId} {cs : List Value} (h : RowIs w g t cs) (j : Nat) : w.frozen? ⟨g, j, none⟩ = false := frozen_of_row w g j _ t h
theorem RowIs.drew {w : World} {g : Nat} {t : TypeId} {cs : List Value} (h : RowIs w g t cs) : RowIs w.drew g t cs := h
theorem RowIs.set {w : World} {g : Nat} {t : TypeId} {cs : List Value} (h : RowIs w g t cs) (j : Nat) (v : Value) : RowIs (w.setCell ⟨g, j, none⟩ v) g t (cs.set j v) := by
  unfold RowIs; rw [heap_setCell_same w g j _ t v h]; simp
theorem RowIs.other {w : World} {g : Nat} {t : TypeId} {cs : List Value} (h : RowIs w g t cs) (a : Addr) (v : Value) (hg : g ≠ a.block) : RowIs (w.setCell a v) g t cs := by
  unfold RowIs; rw [heap_setCell_other w a g v hg]; exact h
theorem RowIs.alloc {w : World} {g : Nat} {t : TypeId} {cs : List Value} (h : RowIs w g t cs) (o : Obj) : RowIs (w.alloc o) g t cs := by
  have := h.lt; unfold RowIs; rw [Below.heap_alloc w o g this]; exact h
theorem RowIs.new (w : World) (t : TypeId) (cs : List Value) : RowIs (w.alloc (.cells cs.toArray t)) w.heap.size t cs := by
  unfold RowIs; show (w.heap.push _)[w.heap.size]? = _; simp
theorem RowIs.setRow {w : World} {g : Nat} {t : TypeId} {cs : List Value} (h : RowIs w g t cs) (cs' : List Value) : RowIs (w.setRow g cs'.toArray) g t cs' := setRow_heap w g _ _ t _ h
theorem RowIs.setRow_other {w : World} {g g' : Nat} {t : TypeId} {cs : List Value} (h : RowIs w g t cs) (cs' : Array Value) (hg : g ≠ g') : RowIs (w.setRow g' cs') g t cs := by
  unfold RowIs; rw [Go.setRow_other w g' g cs' hg]; exact h
theorem RowIs.below {w w' : World} {B g : Nat} {t : TypeId} {cs : List Value} (h : RowIs w g t cs) (hb : Below B w w') (hg : g < B) : RowIs w' g t cs := by
  unfold RowIs; rw [hb.block g hg]; exact h
theorem Below.row {B : Nat} {a w : World} (h : Below B a w) {g : Nat} (hg : B ≤ g) (cs : Array Value) : Below B a (w.setRow g cs) :=
  ⟨h.os, h.tape, h.output, by have := h.size; simpa using this, fun k hk => by rw [Go.setRow_other w g k cs (by omega)]; exact h.block k hk⟩
theorem info5 : (Try.prog.info? 5).map (·.size) = some 1 := by kernel_rfl
theorem cells5' : Try.prog.cellsOf 5 = 1 := by kernel_rfl
theorem part5 (cs : List Value) (j : Nat) (v : Value) (hv : cs[j]? = some v) (w : World) : (part 5 cs.toArray (j * 1)).run Try.prog w = .ok v w := by
  have hag : (isAgg 5).run Try.prog w = .ok false w := by
    unfold isAgg; rw [Sem.run_bind, run_underlying Try.underlying5 w]; rfl
  simp [part, hag, hv]
theorem eqItems5 (d : Nat) (a b : List UInt8) (w : World) : ∀ is : List Nat, (∀ i ∈ is, i < a.length ∧ i < b.length) →
    (Op.eqItems (d + 1) 5 1 (c8 a).toArray (c8 b).toArray is).run Try.prog w = .ok (is.all fun i => a.getD i 0 == b.getD i 0) w
  | [], _ => by simp [Op.eqItems]
  | i :: is, h => by
    obtain ⟨h1, h2⟩ := h i (by simp)
    have ih := eqItems5 d a b w is (fun j hj => h j (by simp [hj]))
    have e : (((a.getD i 0).toNat : Int) == ((b.getD i 0).toNat : Int)) = (a.getD i 0 == b.getD i 0) := by
      rw [Bool.eq_iff_iff, beq_iff_eq, beq_iff_eq, Int.ofNat_inj, UInt8.toNat_inj]
    simp only [Op.eqItems, Sem.run_bind, part5 _ i _ (c8_get a i h1), part5 _ i _ (c8_get b i h2), Result.andThen_ok, run_equalIn_int w d 5 .u8 .u8 _ _ Try.underlying5, e, List.all_cons]
    cases (a.getD i 0 == b.getD i 0)
    · simp
    · simpa using ih
section
variable {ops : Array Oper} {rest : List Oper} {o : Oper} {ac : Act} {w : World} {Q : Exit → Act → World → Prop}
theorem wpListG_load_row (hw : Region.wanted o (yielded ops ac.tmps) = true) (ty : TypeId) (x : Operand) (ho : o.op = .load ty x)
    (g : Nat) (hx : ac.eval x = .pointer (some ⟨g, 0, none⟩)) (t : TypeId) (cs : Array Value) (n : Nat) (e : TypeId) (hg : w.heap[g]? = some (.cells cs t (0, 0)))
    (hu : Try.prog.underlying ty = some (.array n e)) (hi : (Try.prog.info? ty).map (·.size) = some cs.size)
    (h : wpList Try.prog ops Q rest (ac.put o.dst (.agg cs)) w) : wpList Try.prog ops Q (o :: rest) ac w :=
  wpList_step fun K hK => by rw [if_pos hw]; exact wp_load_row ty x ho g hx t cs (0, 0) _ hg hu rfl hi (hK _ _ h)
theorem wpListG_built (hw : Region.wanted o (yielded ops ac.tmps) = true) (t : TypeId) (parts : Array (Nat × Operand)) (ho : o.op = .build t parts)
    (cells : Array Value) (hb : Try.prog.built t (parts.map fun (i, x) => (i, ac.eval x)).toList = some cells)
    (h : wpList Try.prog ops Q rest (ac.put o.dst (.agg cells)) w) : wpList Try.prog ops Q (o :: rest) ac w :=
  wpList_step fun K hK => by rw [if_pos hw]; exact wp_build t parts ho (by rw [hb]; rfl) (hK _ _ (by rw [hb]; exact h))
end
set_option maxHeartbeats 400000 in
theorem takenU_nil (f : Value) (w : World) : Calls Try.prog 80 #[.pointer none, f] w fun e w' => e = .returned (.int .u64 0) ∧ w' = w := by
  go_enter Try.func80, Try.ntmps80
  go_wp2
  go_ret
  exact ⟨rfl, rfl⟩
set_option maxHeartbeats 400000 in
theorem takenI_nil (f : Value) (w : World) : Calls Try.prog 82 #[.pointer none, f] w fun e w' => e = .returned (.int .i64 0) ∧ w' = w := by
  go_enter Try.func82, Try.ntmps82
  go_wp2
  go_ret
  exact ⟨rfl, rfl⟩
set_option maxHeartbeats 400000 in
theorem rUint_nil (most : Nat) (w : World) : Calls Try.prog 73 #[.pointer none, .int .u64 most] w fun e w' => e = .returned (.int .u64 0) ∧ Below w.heap.size w w' := by
  go_enter Try.func73, Try.ntmps73
  go_wp2_with (go_at_call 80; refine (takenU_nil _ _).mono ?_; rintro e w1 ⟨rfl, rfl⟩)
  go_ret
  exact ⟨rfl, (Below.refl _ _).alloc (Nat.le_refl _) _⟩
set_option maxHeartbeats 400000 in
theorem rInt_nil (w : World) : Calls Try.prog 75 #[.pointer none] w fun e w' => e = .returned (.int .i64 0) ∧ w' = w := by
  go_enter Try.func75, Try.ntmps75
  go_wp2_with (go_at_call 82; refine (takenI_nil _ _).mono ?_; rintro e w1 ⟨rfl, rfl⟩)
  go_ret
  exact ⟨rfl, rfl⟩
set_option maxHeartbeats 400000 in
theorem rLeft_nil (w : World) : Calls Try.prog 72 #[.pointer none] w fun e w' => e = .returned (.int .i64 0) ∧ w' = w := by
  go_enter Try.func72, Try.ntmps72
  go_wp2
  go_ret
  exact ⟨rfl, rfl⟩
set_option maxHeartbeats 400000 in
theorem rErr_nil (w : World) : Calls Try.prog 76 #[.pointer none] w fun e w' => e = .returned (.int .i64 0) ∧ w' = w := by
  go_enter Try.func76, Try.ntmps76
  go_wp2
  go_ret
  exact ⟨rfl, rfl⟩
end Go.Proofs.Ytpplnomomcdemaa
