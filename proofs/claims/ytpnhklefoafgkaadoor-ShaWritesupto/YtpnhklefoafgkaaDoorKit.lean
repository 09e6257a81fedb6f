/-
  SMALL LAWS ON BLOCKS: a block that holds a row of cells ('RowIs'), behind an allocation, a store, a draw.
-/
import Derived.Test.YtpnhklefoafgkaaDoorSmall
import Derived.Deep.RegionHeld3
namespace Go.Proofs.YtpnhklefoafgkaaDoor
open Go.RowKit Sha
/-- Block g holds the cells cs, of type t; nothing of it is frozen. -/
def RowIs (w : World) (g : Nat) (t : TypeId) (cs : List Value) : Prop := w.heap[g]? = some (.cells cs.toArray t (0, 0))
theorem RowIs.lt {w : World} {g : Nat} {t : TypeId} {cs : List Value} (h : RowIs w g t cs) : g < w.heap.size := by
  unfold RowIs at h; exact (Array.getElem?_eq_some_iff.1 h).1
theorem RowIs.cell {w : World} {g : Nat} {t : TypeId} {cs : List Value} (h : RowIs w g t cs) {j : Nat} {v : Value} (hj : cs[j]? = some v) : w.cell? ⟨g, j, none⟩ = some v := by
  rw [cell_of_row w g j _ t _ h]; simpa using hj
theorem RowIs.frozen {w : World} {g : Nat} {t : TypeId} {cs : List Value} (h : RowIs w g t cs) (j : Nat) : w.frozen? ⟨g, j, none⟩ = false := frozen_of_row w g j _ t h
theorem RowIs.drew {w : World} {g : Nat} {t : TypeId} {cs : List Value} (h : RowIs w g t cs) : RowIs w.drew g t cs := h
theorem RowIs.set {w : World} {g : Nat} {t : TypeId} {cs : List Value} (h : RowIs w g t cs) (j : Nat) (v : Value) : RowIs (w.setCell ⟨g, j, none⟩ v) g t (cs.set j v) := by
  unfold RowIs; rw [heap_setCell_same w g j _ t v h]; simp
theorem RowIs.other {w : World} {g : Nat} {t : TypeId} {cs : List Value} (h : RowIs w g t cs) (a : Addr) (v : Value) (hg : g ≠ a.block) : RowIs (w.setCell a v) g t cs := by
  unfold RowIs; rw [heap_setCell_other w a g v hg]; exact h
theorem RowIs.alloc {w : World} {g : Nat} {t : TypeId} {cs : List Value} (h : RowIs w g t cs) (o : Obj) : RowIs (w.alloc o) g t cs := by
  have := h.lt; unfold RowIs; rw [Below.heap_alloc w o g this]; exact h
theorem RowIs.new (w : World) (t : TypeId) (cs : List Value) : RowIs (w.alloc (.cells cs.toArray t)) w.heap.size t cs := by
  unfold RowIs; show (w.heap.push _)[w.heap.size]? = _; simp
theorem RowIs.setRow {w : World} {g : Nat} {t : TypeId} {cs : List Value} (h : RowIs w g t cs) (cs' : List Value) : RowIs (w.setRow g cs'.toArray) g t cs' := setRow_heap w g _ _ t _ h
theorem RowIs.setRow_other {w : World} {g g' : Nat} {t : TypeId} {cs : List Value} (h : RowIs w g t cs) (cs' : Array Value) (hg : g ≠ g') : RowIs (w.setRow g' cs') g t cs := by
  unfold RowIs; rw [Go.setRow_other w g' g cs' hg]; exact h
theorem RowIs.below {w w' : World} {B g : Nat} {t : TypeId} {cs : List Value} (h : RowIs w g t cs) (hb : Below B w w') (hg : g < B) : RowIs w' g t cs := by
  unfold RowIs; rw [hb.block g hg]; exact h
theorem Below.row {B : Nat} {a w : World} (h : Below B a w) {g : Nat} (hg : B ≤ g) (cs : Array Value) : Below B a (w.setRow g cs) :=
  ⟨h.os, h.tape, h.output, by have := h.size; simpa using this, fun k hk => by rw [Go.setRow_other w g k cs (by omega)]; exact h.block k hk⟩
theorem cell_set_drew {W : World} {g g' k m : Nat} {v x : Value} (h : g ≠ g' ∨ m ≠ k) (hc : W.cell? ⟨g, m, none⟩ = some x) : ((W.setCell ⟨g', k, none⟩ v).drew).cell? ⟨g, m, none⟩ = some x := by
  simp only [World.cell?_drew]
  rw [World.cell?_setCell_other _ _ _ _ (by intro e; injection e with e1 e2; rcases h with h | h; exact h e1.symm; exact h e2.symm)]; exact hc
theorem wrap_i64 (x : Int) (h0 : -9223372036854775808 ≤ x) (h1 : x ≤ 9223372036854775807) : IntKind.i64.wrap x = x := by
  simp [IntKind.wrap, IntKind.bits, IntKind.signed]; split <;> omega
end Go.Proofs.YtpnhklefoafgkaaDoor
