/-
  apply (16): a patch of a text.
-/
import Derived.Test.YtiihdhnmgbhgkaaPJ
namespace Go.Proofs.Ytiihdhnmgbhgkaa
open Go.RowKit Go.Maps Dsk
attribute [local go_sem] Oper.semAt_some
set_option maxRecDepth 100000 in
set_option maxHeartbeats 6400000 in
theorem apply16_text {w : World} {B gd me mc mt : Nat} {E C T : List (Nm × Value)} (h : DrAt w B gd me mc mt E C T) {x : Px} {ao : Option Addr} {n c k q : Nat} {a b : Nm} (hg : (fget x.p.name T).getD zT = .agg #[.slice ao n c, .string (strOf b)]) (ho : Own w B (.slice ao n c) a) (hBw : B ≤ w.heap.size)
    (hkd : x.p.kind = 3) (hnm : nmB x.p.name = true) (hnl : x.p.name.length ≤ 1000) (hgone : x.p.gone = false) (hat : x.p.at_ = (k : Int)) (hcut : x.p.cut = (q : Int)) (hk : k ≤ a.length + b.length) (hq : q ≤ a.length + b.length - k) (hsz : a.length + b.length + x.p.put.length ≤ 1000000) (hT : T.length ≤ 1000000) (hne : 0 < ((a ++ b).take k ++ x.p.put).length + (((a ++ b).drop k).drop q).length) :
    Calls Try.prog 16 #[.pointer (some ⟨gd, 0, none⟩), .agg (pxc x).toArray] w fun e w' => ∃ va vn vc, e = .returned (.int .i64 0) ∧ DrAt w' B gd me mc mt E C (fput x.p.name (.agg #[.slice va vn vc, .string (strOf (((a ++ b).drop k).drop q))]) T) ∧ Own w' B (.slice va vn vc) ((a ++ b).take k ++ x.p.put) ∧ KeptF (fun j => B ≤ j) w w' := by
  obtain ⟨W0, hW0⟩ : ∃ W0, w.alloc (.cells (pxc x).toArray 46) = W0 := ⟨_, rfl⟩
  have a0 : After w W0 := by rw [← hW0]; exact after_alloc (After.refl w) _
  have HB : Hid (RowIs W0 w.heap.size 46 (pxc x) ∧ After w W0) := ⟨by rw [← hW0]; exact RowIs.new w 46 _, a0⟩
  have HC := show Hid _ from applyText39 (h.after a0) (x := x) hg (ho.below a0 (Nat.le_refl _)) (by have := a0.size; omega) hnl hgone hat hcut hk hq hsz hT hne
  have HN : Hid (Calls Try.prog 36 #[.string (strOf x.p.name)] W0 fun e w' => e = .returned (.bool true) ∧ w' = W0) := by
    have := name_one (strOf x.p.name) W0 (by rw [strOf_size]; unfold maxLen; omega)
    have e : (strOf x.p.name).data.toList = x.p.name := rfl
    rw [e, hnm] at this
    exact this
  have c0 : W0.cell? ⟨w.heap.size, 0, none⟩ = some (.int .i64 3) := by have := HB.out.1.cell (j := 0) (v := .int .i64 x.p.kind) rfl; rw [hkd] at this; exact this
  have c1 := HB.out.1.cell (j := 1) rfl
  clear h hg ho hBw hkd hnm hnl hgone hat hcut hk hq hsz hT hne a0
  go_enter Try.func16, Try.ntmps16
  go_wp2_with (first
    | (rw [hW0])
    | (go_at_call 36; refine Calls.mono HN.out ?_; rintro e w1 ⟨rfl, hw1⟩; subst hw1)
    | (refine wpList_load_row rfl 46 (.tmp 3) rfl w.heap.size rfl 46 (pxc x).toArray (0, 0) _ HB.out.1 Try.underlying46 rfl (size46 x) ?_)
    | (go_at_call 39; refine Calls.mono HC.out ?_; rintro e w2 ⟨va, vn, vc, rfl, h1, h2, h3⟩; have H2 := show Hid _ from And.intro h1 (And.intro h2 h3); clear h1 h2 h3))
  go_ret
  exact ⟨va, vn, vc, rfl, H2.out.1, H2.out.2.1, (KeptF.of_after (F := fun j => B ≤ j) HB.out.2).trans H2.out.2.2 (fun _ _ h => h)⟩
end Go.Proofs.Ytiihdhnmgbhgkaa
