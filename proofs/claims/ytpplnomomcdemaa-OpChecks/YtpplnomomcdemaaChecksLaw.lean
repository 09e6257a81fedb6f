/-
  THE WALK OF stemmalaw07.OpChecks.
-/
import Derived.Test.YtpplnomomcdemaaMay
namespace Go.Proofs.Ytpplnomomcdemaa
open Go.RowKit Leb
theorem x_ieq {o : Oper} {a : Act} {x y : Operand} {w : World} {t : TypeId} {z : Int} (hop : o.op = .binOp .eql t x y t) (hx : a.eval x = .int .i64 z) (hy : a.eval y = .int .i64 z) : (execOp a.eval o).run Try.prog w = .ok (.value (.bool true)) w := by
  unfold execOp; simp only [hop, hx, hy]; simp [go_sem]
set_option maxRecDepth 100000 in
set_option maxHeartbeats 3200000 in
theorem checks_any (x : Opn) (hx : x.Ok) (w : World) : Calls Try.prog 3 #[opV x] w fun e w' => e = .returned (.bool true) ∧ After w w' := by
  obtain ⟨E, hE⟩ : ∃ E, errOf (mayB x) = E := ⟨_, rfl⟩
  obtain ⟨Z, hZ⟩ : ∃ Z, sizeM x = Z := ⟨_, rfl⟩
  have C9 : Hid (∀ W, Calls Try.prog 9 #[opV x] W fun e w' => ∃ v, e = .returned v ∧ (v = .int .i64 E) ∧ After W w') := fun W => Calls.mono (check_any x hx W) (by rintro e w' ⟨rfl, ha⟩; exact ⟨_, rfl, by rw [hE], ha⟩)
  have C10 : Hid (∀ W, Calls Try.prog 10 #[opV x] W fun e w' => ∃ v, e = .returned v ∧ (v = .int .i64 E) ∧ After W w') := fun W => Calls.mono (rcheck_any x hx W) (by rintro e w' ⟨rfl, ha⟩; exact ⟨_, rfl, by rw [hE], ha⟩)
  have C11 : Hid (∀ W, Calls Try.prog 11 #[opV x] W fun e w' => ∃ v, e = .returned v ∧ (v = .int .i64 Z) ∧ After W w') := fun W => Calls.mono (size_any x W) (by rintro e w' ⟨rfl, ha⟩; exact ⟨_, rfl, by rw [hZ], ha⟩)
  have C12 : Hid (∀ W, Calls Try.prog 12 #[opV x] W fun e w' => ∃ v, e = .returned v ∧ (v = .int .i64 Z) ∧ After W w') := fun W => Calls.mono (rsize_any x W) (by rintro e w' ⟨rfl, ha⟩; exact ⟨_, rfl, by rw [hZ], ha⟩)
  have C13 : Hid (∀ W, Calls Try.prog 13 #[] W fun e w' => ∃ v, e = .returned v ∧ (v = .bool true) ∧ After W w') := fun W => Calls.mono (awake_any W) (by rintro e w' ⟨rfl, ha⟩; exact ⟨_, rfl, rfl, ha⟩)
  clear hx hE hZ
  obtain ⟨k, nm, p, b, tx⟩ := x
  have HB : Hid ((w.alloc (.cells #[.int .i64 k, .string (strOf nm), .int .i64 p, .int .i64 b, .string (strOf tx)] 23)).rangeAt w.heap.size 0 (oc ⟨k, nm, p, b, tx⟩)) := fun j v hj => by
    have := (RowIs.new w 23 (oc ⟨k, nm, p, b, tx⟩)).cell hj
    rw [Nat.zero_add]; exact this
  have HA : Hid (After w (w.alloc (.cells #[.int .i64 k, .string (strOf nm), .int .i64 p, .int .i64 b, .string (strOf tx)] 23))) := after_alloc (After.refl w) _
  go_enter Try.func3, Try.ntmps3
  go_wp2_with fail
  obtain ⟨W0, hW0⟩ : ∃ W0, w.alloc (.cells #[.int .i64 k, .string (strOf nm), .int .i64 p, .int .i64 b, .string (strOf tx)] 23) = W0 := ⟨_, rfl⟩
  rw [hW0] at HB HA
  rw [hW0]
  clear hW0
  refine wp_region_noPanic ?_
  refine wp_region_held_drew (S := After W0) (by kernel_rfl) (After.drew (After.refl W0)) ?_
  intro hS0
  refine tk 0 3 (opV ⟨k, nm, p, b, tx⟩) (fuel := 15) rfl (by kernel_rfl) (by kernel_rfl) (by kernel_rfl) (by kernel_rfl) noPanic_false (by kernel_rfl) (fun W hW => x_ld23 (x := .tmp 1) (g := w.heap.size) (p := 0) (h := ⟨k, nm, p, b, tx⟩) (by kernel_rfl) (by kernel_rfl) (range_after HB.out hW)) hS0 ?_
  refine tk 2 5 (opV ⟨k, nm, p, b, tx⟩) (fuel := 14) rfl (by kernel_rfl) (by kernel_rfl) (by kernel_rfl) (by kernel_rfl) noPanic_false (by kernel_rfl) (fun W hW => x_ld23 (x := .tmp 1) (g := w.heap.size) (p := 0) (h := ⟨k, nm, p, b, tx⟩) (by kernel_rfl) (by kernel_rfl) (range_after HB.out hW)) hS0 ?_
  refine tkCallK 1 4 9 #[opV ⟨k, nm, p, b, tx⟩] (fun v _ => v = .int .i64 E) (fuel := 13) rfl (by kernel_rfl) (by kernel_rfl) (by kernel_rfl) (fun _ => by kernel_rfl) hS0 (C9.out _) ?_
  rintro v1 w1 rfl _ hS1
  refine tkCallK 3 6 10 #[opV ⟨k, nm, p, b, tx⟩] (fun v _ => v = .int .i64 E) (fuel := 12) rfl (by kernel_rfl) (by kernel_rfl) (by kernel_rfl) (fun _ => by kernel_rfl) hS1 (C10.out _) ?_
  rintro v3 w2 rfl _ hS3
  refine tk 4 7 (.bool true) (fuel := 11) rfl (by kernel_rfl) (by kernel_rfl) (by kernel_rfl) (by kernel_rfl) noPanic_false (by kernel_rfl) (fun W _ => x_ieq (t := 3) (z := E) (x := .tmp 4) (y := .tmp 6) (by kernel_rfl) (by kernel_rfl) (by kernel_rfl)) hS3 ?_
  refine tk 5 8 (.bool true) (fuel := 10) rfl (by kernel_rfl) (by kernel_rfl) (by kernel_rfl) (by kernel_rfl) noPanic_false (by kernel_rfl) (fun _ _ => by kernel_rfl) hS3 ?_
  refine tk 6 9 (opV ⟨k, nm, p, b, tx⟩) (fuel := 9) rfl (by kernel_rfl) (by kernel_rfl) (by kernel_rfl) (by kernel_rfl) noPanic_false (by kernel_rfl) (fun W hW => x_ld23 (x := .tmp 1) (g := w.heap.size) (p := 0) (h := ⟨k, nm, p, b, tx⟩) (by kernel_rfl) (by kernel_rfl) (range_after HB.out hW)) hS3 ?_
  refine tk 8 11 (opV ⟨k, nm, p, b, tx⟩) (fuel := 8) rfl (by kernel_rfl) (by kernel_rfl) (by kernel_rfl) (by kernel_rfl) noPanic_false (by kernel_rfl) (fun W hW => x_ld23 (x := .tmp 1) (g := w.heap.size) (p := 0) (h := ⟨k, nm, p, b, tx⟩) (by kernel_rfl) (by kernel_rfl) (range_after HB.out hW)) hS3 ?_
  refine tkCallK 7 10 11 #[opV ⟨k, nm, p, b, tx⟩] (fun v _ => v = .int .i64 Z) (fuel := 7) rfl (by kernel_rfl) (by kernel_rfl) (by kernel_rfl) (fun _ => by kernel_rfl) hS3 (C11.out _) ?_
  rintro v7 w3 rfl _ hS7
  refine tkCallK 9 12 12 #[opV ⟨k, nm, p, b, tx⟩] (fun v _ => v = .int .i64 Z) (fuel := 6) rfl (by kernel_rfl) (by kernel_rfl) (by kernel_rfl) (fun _ => by kernel_rfl) hS7 (C12.out _) ?_
  rintro v9 w4 rfl _ hS9
  refine tk 10 13 (.bool true) (fuel := 5) rfl (by kernel_rfl) (by kernel_rfl) (by kernel_rfl) (by kernel_rfl) noPanic_false (by kernel_rfl) (fun W _ => x_ieq (t := 3) (z := Z) (x := .tmp 10) (y := .tmp 12) (by kernel_rfl) (by kernel_rfl) (by kernel_rfl)) hS9 ?_
  refine tk 11 14 (.bool true) (fuel := 4) rfl (by kernel_rfl) (by kernel_rfl) (by kernel_rfl) (by kernel_rfl) noPanic_false (by kernel_rfl) (fun _ _ => by kernel_rfl) hS9 ?_
  refine tk 12 15 (.bool true) (fuel := 3) rfl (by kernel_rfl) (by kernel_rfl) (by kernel_rfl) (by kernel_rfl) noPanic_false (by kernel_rfl) (fun _ _ => by kernel_rfl) hS9 ?_
  refine tkCallK 13 16 13 #[] (fun v _ => v = .bool true) (fuel := 2) rfl (by kernel_rfl) (by kernel_rfl) (by kernel_rfl) (fun _ => by kernel_rfl) hS9 (C13.out _) ?_
  rintro v13 w5 rfl _ hS13
  refine tk 14 17 (.bool true) (fuel := 1) rfl (by kernel_rfl) (by kernel_rfl) (by kernel_rfl) (by kernel_rfl) noPanic_false (by kernel_rfl) (fun _ _ => by kernel_rfl) hS13 ?_
  refine tk 15 2 (.bool true) (fuel := 0) rfl (by kernel_rfl) (by kernel_rfl) (by kernel_rfl) (by kernel_rfl) noPanic_false (by kernel_rfl) (fun _ _ => by kernel_rfl) hS13 ?_
  refine wpAnyH_done (by kernel_rfl) (NoPanic.normal ?_) _
  have HE : Hid (After w w5) := After.trans HA.out hS13
  clear hS13
  go_simp
  go_wp2
  go_ret
  exact ⟨rfl, HE.out⟩
end Go.Proofs.Ytpplnomomcdemaa
