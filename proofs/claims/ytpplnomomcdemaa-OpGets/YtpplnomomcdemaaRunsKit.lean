/-
  THE WALK OF column.Runs.
-/
import Derived.Test.YtpplnomomcdemaaRoundKit
namespace Go.Proofs.Ytpplnomomcdemaa
open Go.RowKit Go.Shelf Leb
attribute [local go_sem] Oper.semAt_some
def laidI (rs : List (Int × Nat)) : List UInt8 := rs.flatMap fun x => uintB x.2 ++ intB x.1
def runsB (l : List Int) : List UInt8 := uintB (runs l).length ++ laidI (runs l)
theorem laidI_snoc (pre : List RunI) (x : RunI) : laidI ((pre ++ [x]).map (·.1)) = laidI (pre.map (·.1)) ++ uintB x.1.2 ++ intB x.1.1 := by simp [laidI]
theorem runI_len (x : RunI) : (uintB x.1.2).length ≤ 10 ∧ (intB x.1.1).length ≤ 10 := ⟨uintB_len10 _ (by have := x.2.2.2; omega), intB_len10 _ x.2.1 x.2.2.1⟩
theorem laidI_len : ∀ pre : List RunI, (laidI (pre.map (·.1))).length ≤ 20 * pre.length
  | [] => by simp [laidI]
  | x :: r => by
    have h1 := runI_len x
    have h2 := laidI_len r
    simp only [laidI, List.map_cons, List.flatMap_cons, List.length_append, List.length_cons] at h2 ⊢
    omega
theorem Own.keep' {w w' : World} {B : Nat} {v : Value} {l : List UInt8} (h : Own w B v l) (hk : ∀ k, v.ownBlock = some k → w'.heap[k]? = w.heap[k]?) : Own w' B v l := by
  refine ⟨h.1, ?_⟩
  rcases h.2 with hn | ⟨g, cap, cur, rfl, h1, h2, rest⟩
  · exact .inl hn
  · exact .inr ⟨g, cap, cur, rfl, h1, by rw [hk g rfl]; exact h2, rest⟩
/-- A round's state: from the round's start Ws on. -/
structure RI (w : World) (B Bs : Nat) (sv : Value) (Ws W : World) (v : Value) (ls : List UInt8) (m : Nat) : Prop where
  bl : Boxed W w.heap.size 30 v
  br : Boxed W (w.heap.size + 1) 3 (.int .i64 (m : Int))
  bs : Boxed W Bs 46 sv
  own : Own W w.heap.size v ls
  bel : Below w.heap.size w W
  kf : KeepsFrom B Ws W
  kb : Kb w.heap.size Bs Ws W
theorem grown_cells {B Bs : Nat} {w W W' : World} {row : Option Nat} (hbel : Below w.heap.size w W) (hbs : Bs < W.heap.size) (hg : W.grownBy W' row) (hr : ∀ g, row = some g → w.heap.size ≤ g ∧ g ≠ Bs ∧ ∃ c t f, W.heap[g]? = some (.cells c t f)) :
    Below w.heap.size w W' ∧ KeepsFrom B W W' ∧ Kb w.heap.size Bs W W' := by
  have h1 : Below w.heap.size W W' := ⟨hg.os, hg.tape, hg.output, hg.size, fun k hk => hg.block k (Nat.lt_of_lt_of_le hk hbel.size) (fun e => by have := (hr k e.symm).1; omega)⟩
  refine ⟨hbel.trans h1, ⟨hg.size, fun k o _ hk ho => ?_⟩, h1, hg.block Bs hbs (fun e => (hr Bs e.symm).2.1 rfl)⟩
  rw [hg.block k (Array.getElem?_eq_some_iff.1 hk).1 (fun e => by
    obtain ⟨_, _, c, t, f, hc⟩ := hr k e.symm
    rw [hc] at hk; cases hk; cases ho)]
  exact hk
theorem own_cells {W : World} {base : Nat} {v : Value} {ls : List UInt8} (h : Own W base v ls) {g : Nat} (hg : v.ownBlock = some g) : ∃ c t f, W.heap[g]? = some (.cells c t f) := by
  rcases h.2 with ⟨rfl, _⟩ | ⟨g', cap, cur, rfl, _, h2, _⟩
  · cases hg
  · cases hg; exact ⟨_, _, _, h2⟩
section
variable {w : World} {B Bs : Nat} {sv : Value} {Ws W W' : World} {v : Value} {ls : List UInt8} {m : Nat}
theorem RI.drew (h : RI w B Bs sv Ws W v ls m) : RI w B Bs sv Ws W.drew v ls m := ⟨h.bl, h.br, h.bs, h.own, h.bel.drew, h.kf.trans ((KeepsOthers.drew _).from _), h.kb.drew⟩
theorem RI.after (h : RI w B Bs sv Ws W v ls m) (hA : After W W') : RI w B Bs sv Ws W' v ls m := by
  have hg : W.grownBy W' none := ⟨hA.os, hA.tape, hA.output, hA.size, fun k hk _ => hA.block k hk⟩
  obtain ⟨c1, c2, c3⟩ := grown_cells (B := B) h.bel h.bs.lt hg (fun g e => by cases e)
  exact ⟨h.bl.kept hg (by simp), h.br.kept hg (by simp), h.bs.kept hg (by simp), Own.below h.own hA (Nat.le_refl _), c1, h.kf.trans c2, h.kb.trans c3⟩
/-- Behind an append: the row has grown; the box is as it was. -/
theorem RI.app (h : RI w B Bs sv Ws W v ls m) {v' : Value} {ls' : List UInt8} (ho : Own W' w.heap.size v' ls') (hg : W.grownBy W' v.ownBlock) (hsz : v'.ownBlock = none ∨ True) :
    Boxed W' w.heap.size 30 v ∧ Boxed W' (w.heap.size + 1) 3 (.int .i64 (m : Int)) ∧ Boxed W' Bs 46 sv ∧ Below w.heap.size w W' ∧ KeepsFrom B Ws W' ∧ Kb w.heap.size Bs Ws W' := by
  have _ := ho
  have _ := hsz
  obtain ⟨c1, c2, c3⟩ := grown_cells (B := B) h.bel h.bs.lt hg (fun g e => ⟨(World.ownsRow.lt h.own g e).1, fun he => Boxed.not_row h.bs (by decide) h.own (by rw [e, he]), own_cells h.own e⟩)
  exact ⟨h.bl.kept hg (Boxed.not_row h.bl (by decide) h.own), h.br.kept hg (Boxed.not_row h.br (by decide) h.own), h.bs.kept hg (Boxed.not_row h.bs (by decide) h.own), c1, h.kf.trans c2, h.kb.trans c3⟩
end
theorem RI.store {w : World} {B Bs : Nat} {sv : Value} {Ws W : World} {v v' : Value} {ls : List UInt8} {m : Nat} (hn : w.heap.size + 1 < Bs) (h : Boxed W w.heap.size 30 v ∧ Boxed W (w.heap.size + 1) 3 (.int .i64 (m : Int)) ∧ Boxed W Bs 46 sv ∧ Below w.heap.size w W ∧ KeepsFrom B Ws W ∧ Kb w.heap.size Bs Ws W) (ho : Own W w.heap.size v' ls) :
    RI w B Bs sv Ws (W.setCell ⟨w.heap.size, 0, none⟩ v') v' ls m := by
  obtain ⟨h1, h2, h3, h4, h5, h6⟩ := h
  have hg := grownBy_setCell' W w.heap.size v'
  obtain ⟨c1, c2, c3⟩ := grown_cells (B := B) h4 h3.lt hg (fun g e => by cases e; exact ⟨Nat.le_refl _, by omega, _, _, _, h1⟩)
  refine ⟨h1.set v', h2.kept hg (by simp), h3.kept hg (by simp; omega), ?_, c1, h5.trans c2, h6.trans c3⟩
  refine Own.keep' ho (fun g e => ?_)
  have hne : some w.heap.size ≠ v'.ownBlock := Boxed.not_row h1 (by decide) ho
  rw [heap_setCell_other W _ g v' (by show g ≠ w.heap.size; intro he; exact hne (by rw [e, he]))]
theorem RI.count {w : World} {B Bs : Nat} {sv : Value} {Ws W : World} {v : Value} {ls : List UInt8} {m : Nat} (hn : w.heap.size + 1 < Bs) (h : RI w B Bs sv Ws W v ls m) : RI w B Bs sv Ws (W.setCell ⟨w.heap.size + 1, 0, none⟩ (.int .i64 ((m : Int) + 1))) v ls (m + 1) := by
  have hg := grownBy_setCell' W (w.heap.size + 1) (.int .i64 ((m : Int) + 1))
  obtain ⟨c1, c2, c3⟩ := grown_cells (B := B) h.bel h.bs.lt hg (fun g e => by cases e; exact ⟨by omega, by omega, _, _, _, h.br⟩)
  refine ⟨h.bl.kept hg (by simp), h.br.set _, h.bs.kept hg (by simp; omega), ?_, c1, h.kf.trans c2, h.kb.trans c3⟩
  refine Own.keep' h.own (fun g e => ?_)
  have hne : some (w.heap.size + 1) ≠ v.ownBlock := Boxed.not_row h.br (by decide) h.own
  rw [heap_setCell_other W _ g _ (by show g ≠ w.heap.size + 1; intro he; exact hne (by rw [e, he]))]
theorem x_conv49 {o : Oper} {a : Act} {x : Operand} {p : Nat} {w : World} (hp : p < 18446744073709551616) (hop : o.op = .convert 3 51 x) (hx : a.eval x = .int .i64 (p : Int)) : (execOp a.eval o).run Try.prog w = .ok (.value (.int .u64 (p : Int))) w := by
  unfold execOp
  simp only [hop, hx]
  have e : IntKind.u64.wrap (p : Int) = (p : Int) := by simp [IntKind.wrap, IntKind.bits, IntKind.signed]; omega
  simp [go_sem, e]
end Go.Proofs.Ytpplnomomcdemaa
