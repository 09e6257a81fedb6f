/-
  THE WALK OF sort.order2_func.
-/
import Derived.Test.YtgcgblecendijaaHeap2
namespace Go.Proofs.Ytgcgblecendijaa
open Go.RowKit Go.Sort Go.Lib
theorem SW.but {w0 : World} {g cap Bs cb : Nat} {d : Array Hs} {W W' : World} (h : SW w0 g cap Bs d W) (hb : But cb W W') (h0 : w0.heap.size ≤ cb) (hg : cb ≠ g) (hs : cb ≠ Bs) : SW w0 g cap Bs d W' := by
  refine ⟨?_, hb.cell (p := ⟨Bs, 0, none⟩) (Ne.symm hs) h.box, h.ne, ?_, h.a32⟩
  · refine ⟨h.own.1, ?_⟩
    rcases h.own.2 with ⟨e, _⟩ | ⟨g', cap', cur, e, h1, hrow, h3⟩
    · cases e
    · have e1 : g = g' := by injection e with e1; injection e1 with e1; injection e1
      subst e1
      exact .inr ⟨g, cap', cur, e, h1, (hb.block g (Array.getElem?_eq_some_iff.1 hrow).1 (Ne.symm hg)).trans hrow, h3⟩
  · have k := h.grow
    exact ⟨hb.os.trans k.os, hb.tape.trans k.tape, hb.output.trans k.output, Nat.le_trans k.size hb.size, fun j hj hne => (hb.block j (Nat.lt_of_lt_of_le hj k.size) (by omega)).trans (k.block j hj hne)⟩
/-- The row, and a counter of its own in block cb. -/
structure CW (w0 : World) (g cap Bs cb s : Nat) (d : Array Hs) (W : World) : Prop where
  sw : SW w0 g cap Bs d W
  cnt : RowIs W cb 3 [.int .i64 (s : Int)]
  new : w0.heap.size ≤ cb
  ne : cb ≠ g
  nb : cb ≠ Bs
theorem CW.after {w0 : World} {g cap Bs cb s : Nat} {d : Array Hs} {W W' : World} (h : CW w0 g cap Bs cb s d W) (ha : After W W') : CW w0 g cap Bs cb s d W' :=
  ⟨h.sw.after ha, h.cnt.below ha h.cnt.lt, h.new, h.ne, h.nb⟩
theorem CW.up {w0 : World} {g cap Bs cb s : Nat} {d : Array Hs} {W : World} (h : CW w0 g cap Bs cb s d W) (t : Nat) : CW w0 g cap Bs cb t d (W.setCell ⟨cb, 0, none⟩ (.int .i64 (t : Int))) :=
  ⟨h.sw.but ((But.refl cb W).setCell 0 _) h.new h.ne h.nb, h.cnt.set 0 _, h.new, h.ne, h.nb⟩

set_option maxRecDepth 100000 in
set_option maxHeartbeats 6400000 in
theorem ord92 {w0 : World} {g cap Bs cb s n : Nat} {d : Array Hs} {w : World} (h : CW w0 g cap Bs cb s d w) (hn : d.size = n) (x y : Nat) (hx : x < n) (hy : y < n) (hs : s < 1000) :
    Calls Try.prog 76 #[.agg #[lessV Bs, swapV (typeHandle Try.prog 29) g cap n], .int .i64 (x : Int), .int .i64 (y : Int), .pointer (some ⟨cb, 0, none⟩)] w fun e w' => ∃ x' y' s' : Nat, e = .returned (.tuple #[.int .i64 (x' : Int), .int .i64 (y' : Int)]) ∧ Hid (x' = x ∧ y' = y ∨ x' = y ∧ y' = x) ∧ s' ≤ s + 1 ∧ CW w0 g cap Bs cb s' d w' ∧ But cb w w' := by
  have e51 : ∀ args w, (callFunc 39 args).run Try.prog w = .ok (.enter 39 args) w := enters_of Try.func39 (by kernel_rfl) rfl
  unfold lessV swapV
  have h1 := h.after (after_alloc (After.refl w) (.cells #[.func (.func 39) #[] #[.pointer (some ⟨Bs, 0, none⟩)], .func (.func 60) #[] #[.slice (some ⟨g, 0, none⟩) n cap, typeHandle Try.prog 29]] 91))
  have HA1 : Hid (After w (w.alloc (.cells #[.func (.func 39) #[] #[.pointer (some ⟨Bs, 0, none⟩)], .func (.func 60) #[] #[.slice (some ⟨g, 0, none⟩) n cap, typeHandle Try.prog 29]] 91))) := after_alloc (After.refl w) _
  have HC1 : Hid (CW w0 g cap Bs cb s d (w.alloc (.cells #[.func (.func 39) #[] #[.pointer (some ⟨Bs, 0, none⟩)], .func (.func 60) #[] #[.slice (some ⟨g, 0, none⟩) n cap, typeHandle Try.prog 29]] 91))) := h1
  have C := show Hid _ from less51 h1.sw (i := y) (j := x) (by omega) (by omega)
  clear h h1 hn
  cases hl : ltB d[y]! d[x]! with
  | true =>
    rw [hl] at C
    go_enter Try.func76, Try.ntmps76
    go_wp2_with (go_at_fn 39; refine Calls.mono C.out ?_; rintro e w2 ⟨rfl, ha⟩; have HA2 := show Hid (After _ _) from ha; have hc2 := (HC1.out.after ha); have HC2 := show Hid (CW _ _ _ _ _ _ _ _) from hc2; have c2 := hc2.cnt.cell (j := 0) rfl; have f2 := hc2.cnt.frozen 0; clear ha hc2)
    go_ret2
    refine ⟨y, x, s + 1, rfl, Or.inr ⟨rfl, rfl⟩, Nat.le_refl _, ?_, ?_⟩
    · have := HC2.out.up (s + 1)
      simpa using this
    · exact (But.of_below (After.trans HA1.out HA2.out)).setCell 0 _
  | false =>
    rw [hl] at C
    go_enter Try.func76, Try.ntmps76
    go_wp2_with (go_at_fn 39; refine Calls.mono C.out ?_; rintro e w2 ⟨rfl, ha⟩; have HA2 := show Hid (After _ _) from ha; have hc2 := (HC1.out.after ha); have HC2 := show Hid (CW _ _ _ _ _ _ _ _) from hc2; clear ha hc2)
    go_ret2
    exact ⟨x, y, s, rfl, Or.inl ⟨rfl, rfl⟩, Nat.le_succ _, HC2.out, But.of_below (After.trans HA1.out HA2.out)⟩

end Go.Proofs.Ytgcgblecendijaa
