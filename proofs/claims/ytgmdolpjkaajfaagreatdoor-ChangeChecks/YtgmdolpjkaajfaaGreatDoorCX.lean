/-
  THE WALK OF stemmalaw08.ChangeChecks.
-/
import Derived.Test.YtgmdolpjkaajfaaGreatDoorCR
import Derived.Test.YtgmdolpjkaajfaaGreatDoorCS
import Derived.Test.YtgmdolpjkaajfaaGreatDoorCT
namespace Go.Proofs.YtgmdolpjkaajfaaGreatDoor
open Go.RowKit Leb
theorem x_ieqc {o : Oper} {a : Act} {x y : Operand} {w : World} {t : TypeId} {z : Int} (hop : o.op = .binOp .eql t x y t) (hx : a.eval x = .int .i64 z) (hy : a.eval y = .int .i64 z) : (execOp a.eval o).run Tryz.prog w = .ok (.value (.bool true)) w := by
  unfold execOp; simp only [hop, hx, hy]; simp [go_sem]
theorem x_beqc {o : Oper} {a : Act} {x y : Operand} {w : World} {z : Bool} (hop : o.op = .binOp .eql 4 x y 4) (hx : a.eval x = .bool z) (hy : a.eval y = .bool z) : (execOp a.eval o).run Tryz.prog w = .ok (.value (.bool true)) w := by
  unfold execOp
  simp only [hop, hx, hy]
  cases z <;> simp [go_sem]
set_option maxRecDepth 100000 in
set_option maxHeartbeats 4000000 in
theorem cchecks_any (x y : Chg) (d p d' p' : Sl) (w : World) (hx : ChAt w x d p) (hy : ChAt w y d' p') (ht : SH.Tab w) :
    Calls Tryz.prog 3 #[cV x d p, cV y d' p'] w fun e w' => e = .returned (.bool true) ∧ After w w' := by
  obtain ⟨E, hE⟩ : ∃ E, chgE x = E := ⟨_, rfl⟩
  obtain ⟨Z, hZ⟩ : ∃ Z, sumS x.ops p.n = Z := ⟨_, rfl⟩
  obtain ⟨T, hT⟩ : ∃ T, decide (x = y) = T := ⟨_, rfl⟩
  have C9 : Hid (∀ W, After w W → Calls Tryz.prog 9 #[cV x d p] W fun e w' => ∃ v, e = .returned v ∧ (v = .int .i64 (E : Int)) ∧ After W w') := fun W hW => Calls.mono (ccheck_any x d p W (hx.after hW) hE) (by rintro e w' ⟨rfl, ha⟩; exact ⟨_, rfl, rfl, ha⟩)
  have C10 : Hid (∀ W, After w W → Calls Tryz.prog 10 #[cV x d p] W fun e w' => ∃ v, e = .returned v ∧ (v = .int .i64 (E : Int)) ∧ After W w') := fun W hW => Calls.mono (rcheckC_any x d p W (hx.after hW) hE) (by rintro e w' ⟨rfl, ha⟩; exact ⟨_, rfl, rfl, ha⟩)
  have C11 : Hid (∀ W, After w W → Calls Tryz.prog 11 #[cV x d p] W fun e w' => ∃ v, e = .returned v ∧ (v = .int .i64 Z) ∧ After W w') := fun W hW => Calls.mono (hZ ▸ csize_any x d p W (hx.after hW)) (by rintro e w' ⟨rfl, ha⟩; exact ⟨_, rfl, rfl, ha⟩)
  have C12 : Hid (∀ W, After w W → Calls Tryz.prog 12 #[cV x d p] W fun e w' => ∃ v, e = .returned v ∧ (v = .int .i64 Z) ∧ After W w') := fun W hW => Calls.mono (hZ ▸ rcsize_any x d p W (hx.after hW)) (by rintro e w' ⟨rfl, ha⟩; exact ⟨_, rfl, rfl, ha⟩)
  have C13 : Hid (∀ W, After w W → Calls Tryz.prog 13 #[cV x d p, cV y d' p'] W fun e w' => ∃ v, e = .returned v ∧ (v = .bool T) ∧ After W w') := fun W hW => Calls.mono (hT ▸ csame_any x y d p d' p' W (hx.after hW) (hy.after hW)) (by rintro e w' ⟨rfl, ha⟩; exact ⟨_, rfl, rfl, ha⟩)
  have C14 : Hid (∀ W, After w W → Calls Tryz.prog 14 #[cV x d p, cV y d' p'] W fun e w' => ∃ v, e = .returned v ∧ (v = .bool T) ∧ After W w') := fun W hW => Calls.mono (hT ▸ rsame_any x y d p d' p' W (hx.after hW) (hy.after hW)) (by rintro e w' ⟨rfl, ha⟩; exact ⟨_, rfl, rfl, ha⟩)
  have C13_b : Hid (∀ W, After w W → Calls Tryz.prog 13 #[cV x d p, cV x d p] W fun e w' => ∃ v, e = .returned v ∧ (v = .bool true) ∧ After W w') := fun W hW => Calls.mono (csame_eq x d p d p W (hx.after hW) (hx.after hW)) (by rintro e w' ⟨rfl, ha⟩; exact ⟨_, rfl, rfl, ha⟩)
  have C15 : Hid (∀ W, After w W → Calls Tryz.prog 15 #[] W fun e w' => ∃ v, e = .returned v ∧ (v = .bool true) ∧ After W w') := fun W hW => Calls.mono (awake_any W (Tab_after ht hW)) (by rintro e w' ⟨rfl, ha⟩; exact ⟨_, rfl, rfl, ha⟩)
  obtain ⟨w0, hw0⟩ : ∃ w0, (w.alloc (.cells (cc x d p).toArray 25)).alloc (.cells (cc y d' p').toArray 25) = w0 := ⟨_, rfl⟩
  have H0 : Hid (After w w0 ∧ RowIs w0 w.heap.size 25 (cc x d p) ∧ RowIs w0 (w.heap.size + 1) 25 (cc y d' p')) := by
    refine ⟨by rw [← hw0]; exact after_alloc (after_alloc (After.refl w) _) _, by rw [← hw0]; exact (RowIs.new w 25 (cc x d p)).alloc _, ?_⟩
    have h := RowIs.new (w.alloc (.cells (cc x d p).toArray 25)) 25 (cc y d' p')
    rw [← hw0]
    simpa using h
  clear hx hy ht hE hZ hT
  go_enter Tryz.func3, Tryz.ntmps3
  go_wp2_with fail
  refine wp_region_noPanic ?_
  refine wp_region_held_drew (S := After w0) (by kernel_rfl) (After.drew (After.refl w0)) ?_
  intro hS0
  refine tk 0 5 (cV x d p) (fuel := 29) rfl (by kernel_rfl) (by kernel_rfl) (by kernel_rfl) (by kernel_rfl) noPanic_false (by kernel_rfl) (fun W hW => x_row25 (x := .tmp 2) (g := w.heap.size) (cs := cc x d p) (by kernel_rfl) (by kernel_rfl) (H0.out.2.1.below hW H0.out.2.1.lt) rfl) hS0 ?_
  refine tk 2 7 (cV x d p) (fuel := 28) rfl (by kernel_rfl) (by kernel_rfl) (by kernel_rfl) (by kernel_rfl) noPanic_false (by kernel_rfl) (fun W hW => x_row25 (x := .tmp 2) (g := w.heap.size) (cs := cc x d p) (by kernel_rfl) (by kernel_rfl) (H0.out.2.1.below hW H0.out.2.1.lt) rfl) hS0 ?_
  refine tkCallK 1 6 9 #[cV x d p] (fun v _ => v = .int .i64 (E : Int)) (fuel := 27) rfl (by kernel_rfl) (by kernel_rfl) (by kernel_rfl) (fun _ => by kernel_rfl) hS0 (C9.out _ (After.trans H0.out.1 hS0)) ?_
  rintro v1 w1 rfl _ hS1
  refine tkCallK 3 8 10 #[cV x d p] (fun v _ => v = .int .i64 (E : Int)) (fuel := 26) rfl (by kernel_rfl) (by kernel_rfl) (by kernel_rfl) (fun _ => by kernel_rfl) hS1 (C10.out _ (After.trans H0.out.1 hS1)) ?_
  rintro v3 w2 rfl _ hS3
  refine tk 4 9 (.bool true) (fuel := 25) rfl (by kernel_rfl) (by kernel_rfl) (by kernel_rfl) (by kernel_rfl) noPanic_false (by kernel_rfl) (fun W _ => x_ieqc (t := 3) (z := (E : Int)) (x := .tmp 6) (y := .tmp 8) (by kernel_rfl) (by kernel_rfl) (by kernel_rfl)) hS3 ?_
  refine tk 5 10 (.bool true) (fuel := 24) rfl (by kernel_rfl) (by kernel_rfl) (by kernel_rfl) (by kernel_rfl) noPanic_false (by kernel_rfl) (fun _ _ => by kernel_rfl) hS3 ?_
  refine tk 6 11 (cV x d p) (fuel := 23) rfl (by kernel_rfl) (by kernel_rfl) (by kernel_rfl) (by kernel_rfl) noPanic_false (by kernel_rfl) (fun W hW => x_row25 (x := .tmp 2) (g := w.heap.size) (cs := cc x d p) (by kernel_rfl) (by kernel_rfl) (H0.out.2.1.below hW H0.out.2.1.lt) rfl) hS3 ?_
  refine tk 8 13 (cV x d p) (fuel := 22) rfl (by kernel_rfl) (by kernel_rfl) (by kernel_rfl) (by kernel_rfl) noPanic_false (by kernel_rfl) (fun W hW => x_row25 (x := .tmp 2) (g := w.heap.size) (cs := cc x d p) (by kernel_rfl) (by kernel_rfl) (H0.out.2.1.below hW H0.out.2.1.lt) rfl) hS3 ?_
  refine tkCallK 7 12 11 #[cV x d p] (fun v _ => v = .int .i64 Z) (fuel := 21) rfl (by kernel_rfl) (by kernel_rfl) (by kernel_rfl) (fun _ => by kernel_rfl) hS3 (C11.out _ (After.trans H0.out.1 hS3)) ?_
  rintro v7 w3 rfl _ hS7
  refine tkCallK 9 14 12 #[cV x d p] (fun v _ => v = .int .i64 Z) (fuel := 20) rfl (by kernel_rfl) (by kernel_rfl) (by kernel_rfl) (fun _ => by kernel_rfl) hS7 (C12.out _ (After.trans H0.out.1 hS7)) ?_
  rintro v9 w4 rfl _ hS9
  refine tk 10 15 (.bool true) (fuel := 19) rfl (by kernel_rfl) (by kernel_rfl) (by kernel_rfl) (by kernel_rfl) noPanic_false (by kernel_rfl) (fun W _ => x_ieqc (t := 3) (z := Z) (x := .tmp 12) (y := .tmp 14) (by kernel_rfl) (by kernel_rfl) (by kernel_rfl)) hS9 ?_
  refine tk 11 16 (.bool true) (fuel := 18) rfl (by kernel_rfl) (by kernel_rfl) (by kernel_rfl) (by kernel_rfl) noPanic_false (by kernel_rfl) (fun _ _ => by kernel_rfl) hS9 ?_
  refine tk 12 17 (.bool true) (fuel := 17) rfl (by kernel_rfl) (by kernel_rfl) (by kernel_rfl) (by kernel_rfl) noPanic_false (by kernel_rfl) (fun _ _ => by kernel_rfl) hS9 ?_
  refine tk 13 18 (cV x d p) (fuel := 16) rfl (by kernel_rfl) (by kernel_rfl) (by kernel_rfl) (by kernel_rfl) noPanic_false (by kernel_rfl) (fun W hW => x_row25 (x := .tmp 2) (g := w.heap.size) (cs := cc x d p) (by kernel_rfl) (by kernel_rfl) (H0.out.2.1.below hW H0.out.2.1.lt) rfl) hS9 ?_
  refine tk 14 19 (cV y d' p') (fuel := 15) rfl (by kernel_rfl) (by kernel_rfl) (by kernel_rfl) (by kernel_rfl) noPanic_false (by kernel_rfl) (fun W hW => x_row25 (x := .tmp 3) (g := w.heap.size + 1) (cs := cc y d' p') (by kernel_rfl) (by kernel_rfl) (H0.out.2.2.below hW H0.out.2.2.lt) rfl) hS9 ?_
  refine tk 16 21 (cV x d p) (fuel := 14) rfl (by kernel_rfl) (by kernel_rfl) (by kernel_rfl) (by kernel_rfl) noPanic_false (by kernel_rfl) (fun W hW => x_row25 (x := .tmp 2) (g := w.heap.size) (cs := cc x d p) (by kernel_rfl) (by kernel_rfl) (H0.out.2.1.below hW H0.out.2.1.lt) rfl) hS9 ?_
  refine tk 17 22 (cV y d' p') (fuel := 13) rfl (by kernel_rfl) (by kernel_rfl) (by kernel_rfl) (by kernel_rfl) noPanic_false (by kernel_rfl) (fun W hW => x_row25 (x := .tmp 3) (g := w.heap.size + 1) (cs := cc y d' p') (by kernel_rfl) (by kernel_rfl) (H0.out.2.2.below hW H0.out.2.2.lt) rfl) hS9 ?_
  refine tkCallK 15 20 13 #[cV x d p, cV y d' p'] (fun v _ => v = .bool T) (fuel := 12) rfl (by kernel_rfl) (by kernel_rfl) (by kernel_rfl) (fun _ => by kernel_rfl) hS9 (C13.out _ (After.trans H0.out.1 hS9)) ?_
  rintro v15 w5 rfl _ hS15
  refine tkCallK 18 23 14 #[cV x d p, cV y d' p'] (fun v _ => v = .bool T) (fuel := 11) rfl (by kernel_rfl) (by kernel_rfl) (by kernel_rfl) (fun _ => by kernel_rfl) hS15 (C14.out _ (After.trans H0.out.1 hS15)) ?_
  rintro v18 w6 rfl _ hS18
  refine tk 19 24 (.bool true) (fuel := 10) rfl (by kernel_rfl) (by kernel_rfl) (by kernel_rfl) (by kernel_rfl) noPanic_false (by kernel_rfl) (fun W _ => x_beqc (z := T) (x := .tmp 20) (y := .tmp 23) (by kernel_rfl) (by kernel_rfl) (by kernel_rfl)) hS18 ?_
  refine tk 20 25 (.bool true) (fuel := 9) rfl (by kernel_rfl) (by kernel_rfl) (by kernel_rfl) (by kernel_rfl) noPanic_false (by kernel_rfl) (fun _ _ => by kernel_rfl) hS18 ?_
  refine tk 21 26 (.bool true) (fuel := 8) rfl (by kernel_rfl) (by kernel_rfl) (by kernel_rfl) (by kernel_rfl) noPanic_false (by kernel_rfl) (fun _ _ => by kernel_rfl) hS18 ?_
  refine tk 22 27 (cV x d p) (fuel := 7) rfl (by kernel_rfl) (by kernel_rfl) (by kernel_rfl) (by kernel_rfl) noPanic_false (by kernel_rfl) (fun W hW => x_row25 (x := .tmp 2) (g := w.heap.size) (cs := cc x d p) (by kernel_rfl) (by kernel_rfl) (H0.out.2.1.below hW H0.out.2.1.lt) rfl) hS18 ?_
  refine tk 23 28 (cV x d p) (fuel := 6) rfl (by kernel_rfl) (by kernel_rfl) (by kernel_rfl) (by kernel_rfl) noPanic_false (by kernel_rfl) (fun W hW => x_row25 (x := .tmp 2) (g := w.heap.size) (cs := cc x d p) (by kernel_rfl) (by kernel_rfl) (H0.out.2.1.below hW H0.out.2.1.lt) rfl) hS18 ?_
  refine tkCallK 24 29 13 #[cV x d p, cV x d p] (fun v _ => v = .bool true) (fuel := 5) rfl (by kernel_rfl) (by kernel_rfl) (by kernel_rfl) (fun _ => by kernel_rfl) hS18 (C13_b.out _ (After.trans H0.out.1 hS18)) ?_
  rintro v24 w7 rfl _ hS24
  refine tk 25 30 (.bool true) (fuel := 4) rfl (by kernel_rfl) (by kernel_rfl) (by kernel_rfl) (by kernel_rfl) noPanic_false (by kernel_rfl) (fun _ _ => by kernel_rfl) hS24 ?_
  refine tk 26 31 (.bool true) (fuel := 3) rfl (by kernel_rfl) (by kernel_rfl) (by kernel_rfl) (by kernel_rfl) noPanic_false (by kernel_rfl) (fun _ _ => by kernel_rfl) hS24 ?_
  refine tkCallK 27 32 15 #[] (fun v _ => v = .bool true) (fuel := 2) rfl (by kernel_rfl) (by kernel_rfl) (by kernel_rfl) (fun _ => by kernel_rfl) hS24 (C15.out _ (After.trans H0.out.1 hS24)) ?_
  rintro v27 w8 rfl _ hS27
  refine tk 28 33 (.bool true) (fuel := 1) rfl (by kernel_rfl) (by kernel_rfl) (by kernel_rfl) (by kernel_rfl) noPanic_false (by kernel_rfl) (fun _ _ => by kernel_rfl) hS27 ?_
  refine tk 29 4 (.bool true) (fuel := 0) rfl (by kernel_rfl) (by kernel_rfl) (by kernel_rfl) (by kernel_rfl) noPanic_false (by kernel_rfl) (fun _ _ => by kernel_rfl) hS27 ?_
  refine wpAnyH_done (by kernel_rfl) (NoPanic.normal ?_) _
  have HE : Hid (After w w8) := After.trans H0.out.1 hS27
  clear hS27
  go_simp
  go_wp2
  go_ret
  exact ⟨rfl, HE.out⟩
end Go.Proofs.YtgmdolpjkaajfaaGreatDoor
