/-
  FOR column.Flags: what it lays; a round's state.
-/
import Derived.Test.YtjmflggnnchojaaRunsWalk
import Derived.Test.YtjmflggnnchojaaIterB
namespace Go.Proofs.Ytjmflggnnchojaa
open Go.RowKit Go.Shelf Leb
def laidU (ns : List Nat) : List UInt8 := ns.flatMap uintB
def flagLens (l : List Bool) : List Nat := (if l.head? = some true then [0] else []) ++ (runs l).map (·.2)
def flagsB (l : List Bool) : List UInt8 := uintB (flagLens l).length ++ laidU (flagLens l)
theorem laidU_snoc (p : List Nat) (pre : List RunB) (x : RunB) : laidU (p ++ (pre ++ [x]).map (·.1.2)) = laidU (p ++ pre.map (·.1.2)) ++ uintB x.1.2 := by simp [laidU]
theorem laidU_len : ∀ ns : List Nat, (∀ n ∈ ns, n ≤ 1048576) → (laidU ns).length ≤ 10 * ns.length
  | [], _ => by simp [laidU]
  | n :: r, h => by
    have h1 := uintB_len10 n (by have := h n (by simp); omega)
    have h2 := laidU_len r (fun y hy => h y (by simp [hy]))
    simp only [laidU, List.flatMap_cons, List.length_append, List.length_cons] at h2 ⊢
    omega
/-- A round's state: from the round's start Ws on. -/
structure RB (w : World) (B Bs : Nat) (sv : Value) (Ws W : World) (v : Value) (ls : List UInt8) (m : Nat) : Prop where
  bl : Boxed W w.heap.size 23 v
  br : Boxed W (w.heap.size + 1) 3 (.int .i64 (m : Int))
  bs : Boxed W Bs 28 sv
  own : Own W w.heap.size v ls
  bel : Below w.heap.size w W
  kf : KeepsFrom B Ws W
  kb : Kb w.heap.size Bs Ws W
section
variable {w : World} {B Bs : Nat} {sv : Value} {Ws W W' : World} {v : Value} {ls : List UInt8} {m : Nat}
theorem RB.drew (h : RB w B Bs sv Ws W v ls m) : RB w B Bs sv Ws W.drew v ls m := ⟨h.bl, h.br, h.bs, h.own, h.bel.drew, h.kf.trans ((KeepsOthers.drew _).from _), h.kb.drew⟩
theorem RB.after (h : RB w B Bs sv Ws W v ls m) (hA : After W W') : RB w B Bs sv Ws W' v ls m := by
  have hg : W.grownBy W' none := ⟨hA.os, hA.tape, hA.output, hA.size, fun k hk _ => hA.block k hk⟩
  obtain ⟨c1, c2, c3⟩ := grown_cells (B := B) h.bel h.bs.lt hg (fun g e => by cases e)
  exact ⟨h.bl.kept hg (by simp), h.br.kept hg (by simp), h.bs.kept hg (by simp), Own.below h.own hA (Nat.le_refl _), c1, h.kf.trans c2, h.kb.trans c3⟩
/-- Behind an append: the row has grown; the box is as it was. -/
theorem RB.app (h : RB w B Bs sv Ws W v ls m) {v' : Value} {ls' : List UInt8} (ho : Own W' w.heap.size v' ls') (hg : W.grownBy W' v.ownBlock) (hsz : v'.ownBlock = none ∨ True) :
    Boxed W' w.heap.size 23 v ∧ Boxed W' (w.heap.size + 1) 3 (.int .i64 (m : Int)) ∧ Boxed W' Bs 28 sv ∧ Below w.heap.size w W' ∧ KeepsFrom B Ws W' ∧ Kb w.heap.size Bs Ws W' := by
  have _ := ho
  have _ := hsz
  obtain ⟨c1, c2, c3⟩ := grown_cells (B := B) h.bel h.bs.lt hg (fun g e => ⟨(World.ownsRow.lt h.own g e).1, fun he => Boxed.not_row h.bs (by decide) h.own (by rw [e, he]), own_cells h.own e⟩)
  exact ⟨h.bl.kept hg (Boxed.not_row h.bl (by decide) h.own), h.br.kept hg (Boxed.not_row h.br (by decide) h.own), h.bs.kept hg (Boxed.not_row h.bs (by decide) h.own), c1, h.kf.trans c2, h.kb.trans c3⟩
end
theorem RB.store {w : World} {B Bs : Nat} {sv : Value} {Ws W : World} {v v' : Value} {ls : List UInt8} {m : Nat} (hn : w.heap.size + 1 < Bs) (h : Boxed W w.heap.size 23 v ∧ Boxed W (w.heap.size + 1) 3 (.int .i64 (m : Int)) ∧ Boxed W Bs 28 sv ∧ Below w.heap.size w W ∧ KeepsFrom B Ws W ∧ Kb w.heap.size Bs Ws W) (ho : Own W w.heap.size v' ls) :
    RB w B Bs sv Ws (W.setCell ⟨w.heap.size, 0, none⟩ v') v' ls m := by
  obtain ⟨h1, h2, h3, h4, h5, h6⟩ := h
  have hg := grownBy_setCell' W w.heap.size v'
  obtain ⟨c1, c2, c3⟩ := grown_cells (B := B) h4 h3.lt hg (fun g e => by cases e; exact ⟨Nat.le_refl _, by omega, _, _, _, h1⟩)
  refine ⟨h1.set v', h2.kept hg (by simp), h3.kept hg (by simp; omega), ?_, c1, h5.trans c2, h6.trans c3⟩
  refine Own.keep' ho (fun g e => ?_)
  have hne : some w.heap.size ≠ v'.ownBlock := Boxed.not_row h1 (by decide) ho
  rw [heap_setCell_other W _ g v' (by show g ≠ w.heap.size; intro he; exact hne (by rw [e, he]))]
theorem RB.count {w : World} {B Bs : Nat} {sv : Value} {Ws W : World} {v : Value} {ls : List UInt8} {m : Nat} (hn : w.heap.size + 1 < Bs) (h : RB w B Bs sv Ws W v ls m) : RB w B Bs sv Ws (W.setCell ⟨w.heap.size + 1, 0, none⟩ (.int .i64 ((m : Int) + 1))) v ls (m + 1) := by
  have hg := grownBy_setCell' W (w.heap.size + 1) (.int .i64 ((m : Int) + 1))
  obtain ⟨c1, c2, c3⟩ := grown_cells (B := B) h.bel h.bs.lt hg (fun g e => by cases e; exact ⟨by omega, by omega, _, _, _, h.br⟩)
  refine ⟨h.bl.kept hg (by simp), h.br.set _, h.bs.kept hg (by simp; omega), ?_, c1, h.kf.trans c2, h.kb.trans c3⟩
  refine Own.keep' h.own (fun g e => ?_)
  have hne : some (w.heap.size + 1) ≠ v.ownBlock := Boxed.not_row h.br (by decide) h.own
  rw [heap_setCell_other W _ g _ (by show g ≠ w.heap.size + 1; intro he; exact hne (by rw [e, he]))]
end Go.Proofs.Ytjmflggnnchojaa
