/-
  slices.Repeat, NO TIMES.
-/
import Derived.Test.YtjmflggnnchojaaRepB
namespace Go.Proofs.Ytjmflggnnchojaa
open Go.RowKit Leb
theorem copy_zeroB {c : Nat} {w : World} {g g0 : Nat} (hr : RowIs w g 4 (cb (List.replicate 0 false))) (hc : c = 0) (ty : TypeId) :
    (Builtin.copy_ #[28, 28] ty #[.slice (some ⟨g, 0, none⟩) c c, .slice (some ⟨g0, 0, none⟩) 1 1]).run Try.prog w = .ok (.int .i64 0) (w.setRow g (cb (List.replicate 0 false)).toArray) := by
  subst hc
  have h := run_copy_row (P := Try.prog) w 28 28 ty 4 g 0 0 0 ⟨g0, 0, none⟩ 1 1 (cb (List.replicate 0 false)).toArray 4 [] Try.underlying28 info4s hr rfl (fun j v hv => by simp at hv) (by simp) (fun v hv => by simp at hv)
  exact h
set_option maxRecDepth 100000 in
set_option maxHeartbeats 400000 in
theorem repeatB_zero (g0 : Nat) (w : World) :
    Calls Try.prog 46 #[.slice (some ⟨g0, 0, none⟩) 1 1, .int .i64 0] w fun e w' => e = .returned (.slice (some ⟨w.heap.size, 0, none⟩) 0 0) ∧ RowIs w' w.heap.size 4 (cb (List.replicate 0 false)) ∧ After w w' := by
  have hmk := fun W => make_bools W 0 0 (Nat.le_refl _) (by omega)
  simp only [Int.natCast_zero] at hmk
  have hrow := RowIs.new w 4 (cb (List.replicate 0 false))
  have HR : Hid (RowIs ((w.alloc (.cells (cb (List.replicate 0 false)).toArray 4)).setRow w.heap.size (cb (List.replicate 0 false)).toArray) w.heap.size 4 (cb (List.replicate 0 false))) := hrow.setRow _
  have HB : Hid (After w ((w.alloc (.cells (cb (List.replicate 0 false)).toArray 4)).setRow w.heap.size (cb (List.replicate 0 false)).toArray)) := Below.row (after_alloc (After.refl w) _) (Nat.le_refl _) _
  have HC1 : Hid (∀ ty, (Builtin.copy_ #[28, 28] ty #[.slice (some ⟨w.heap.size, 0, none⟩) 0 0, .slice (some ⟨g0, 0, none⟩) 1 1]).run Try.prog (w.alloc (.cells (cb (List.replicate 0 false)).toArray 4)) = .ok (.int .i64 0) ((w.alloc (.cells (cb (List.replicate 0 false)).toArray 4)).setRow w.heap.size (cb (List.replicate 0 false)).toArray)) := fun ty => copy_zeroB hrow rfl ty
  clear hrow
  go_enter Try.func46, Try.ntmps46
  go_wp2_with (first
    | (go_at_call 55; refine (mul_one' 0 (by omega) _).mono ?_; rintro e w1 ⟨rfl, hw1⟩; have hw2 := hw1.symm; clear hw1; subst hw2)
    | (refine wpList_run rfl (.int .i64 0) _ (x_copyB (d := .tmp 31) (s := .tmp 32) rfl rfl rfl HC1.out) ?_))
  revert HR HB
  refine with_world (p := fun W => Hid (RowIs W w.heap.size 4 (cb (List.replicate 0 false))) → Hid (After w W) → Code.wp _ _ _ _ W) (fun _ => True) trivial ?_
  intro W1 _ HR HB
  go_loopw [8] (fun i wr => i = .int .i64 0 ∧ Hid (RowIs wr w.heap.size 4 (cb (List.replicate 0 false))) ∧ Hid (After w wr)) (fun _ _ => 0)
  case atStart => exact ⟨rfl, HR.out, HB.out⟩
  case round =>
    obtain ⟨rfl, HRr, HBr⟩ := hrel
    go_wp2
    go_ret
    exact ⟨rfl, HRr.out, HBr.out⟩
end Go.Proofs.Ytjmflggnnchojaa
