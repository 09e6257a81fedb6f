/-
  THE WALK OF stemmalaw05.DiskNobody.
-/
import Derived.Test.YtlbodickflljfaaAwake
namespace Go.Proofs.Ytlbodickflljfaa
open Go.RowKit Go.Maps Dsk
set_option maxRecDepth 100000 in
set_option maxHeartbeats 800000 in
theorem create_nil (nm : Nm) (w : World) : Calls Try.prog 23 #[.pointer none, .string (strOf nm)] w fun e w' => e = .returned (.int .i64 1) ∧ After w w' := by
  go_enter Try.func23, Try.ntmps23
  go_wp2_with (go_at_call 50; refine (refusal_nil _ _).mono ?_; rintro e w1 ⟨rfl, rfl⟩)
  go_ret
  exact ⟨rfl, after_alloc (after_alloc (after_alloc (After.refl w) _) _) _⟩
theorem read_nil' (nm : Nm) (w : World) : Calls Try.prog 16 #[.pointer none, .string (strOf nm)] w fun e w' => ∃ ao c, e = .returned (.tuple #[.slice ao 0 c, .int .i64 1]) ∧ After w w' :=
  (read_nil nm w).mono (fun _ _ ⟨ao, c, h1, _, h3⟩ => ⟨ao, c, h1, h3⟩)
set_option maxRecDepth 100000 in
set_option maxHeartbeats 1600000 in
theorem nobody_any (nm : Nm) (pa : Option Addr) (pn pc : Nat) (w : World) : Calls Try.prog 10 #[.string (strOf nm), .slice pa pn pc] w fun e w' => e = .returned (.bool true) ∧ Below w.heap.size w w' := by
  go_enter Try.func10, Try.ntmps10
  go_wp2_with (first
    | (go_at_call 19; refine (start_nil _ w).mono ?_; rintro e w0 ⟨rfl, hw0⟩; have hw00 := hw0.symm; clear hw0; subst hw00)
    | (go_at_call 16; refine (read_nil' nm w).mono ?_; rintro e w1 ⟨ao1, c1, rfl, h⟩; have A1 : Hid (After w w1) := h; clear h)
    | (go_at_call 23; refine (create_nil nm w1).mono ?_; rintro e w2 ⟨rfl, h⟩; have A2 : Hid (After w w2) := After.trans A1.out h; clear h)
    | (go_at_call 24; refine (append_nil nm pa pn pc w2).mono ?_; rintro e w3 ⟨rfl, h⟩; have A3 : Hid (After w w3) := After.trans A2.out h; clear h)
    | (go_at_call 27; refine (sync_nil nm w3).mono ?_; rintro e w4 ⟨rfl, h⟩; have A4 : Hid (After w w4) := After.trans A3.out h; clear h)
    | (go_at_call 32; refine (rename_nil nm nm w4).mono ?_; rintro e w5 ⟨rfl, h⟩; have A5 : Hid (After w w5) := After.trans A4.out h; clear h)
    | (go_at_call 22; refine (remove_nil nm w5).mono ?_; rintro e w6 ⟨rfl, h⟩; have A6 : Hid (After w w6) := After.trans A5.out h; clear h)
    | (go_at_call 33; refine (cut_nil nm 0 w6).mono ?_; rintro e w7 ⟨rfl, h⟩; have A7 : Hid (After w w7) := After.trans A6.out h; clear h)
    | (go_at_call 25; refine (list_nil w7).mono ?_; rintro e w8 ⟨rfl, h⟩; have h' := h.symm; clear h; subst h')
    | (go_at_call 26; refine (used_nil w7).mono ?_; rintro e w9 ⟨rfl, h⟩; have h' := h.symm; clear h; subst h')
    | (go_at_call 30; refine (fail_nil _ _ w7).mono ?_; rintro e w10 ⟨rfl, h⟩; have h' := h.symm; clear h; subst h')
    | (go_at_call 29; refine (down_nil w7).mono ?_; rintro e w11 ⟨rfl, h⟩; have h' := h.symm; clear h; subst h')
    | (go_at_call 31; refine (steps_nil w7).mono ?_; rintro e w12 ⟨rfl, h⟩; have h' := h.symm; clear h; subst h')
    | (go_at_call 18; refine (clone_nil w7).mono ?_; rintro e w13 ⟨rfl, h⟩; have h' := h.symm; clear h; subst h')
    | (go_at_call 15; refine (awake_any w7).mono ?_; rintro e w14 ⟨rfl, h⟩; have A8 : Hid (After w w14) := After.trans A7.out h; clear h))
  go_ret
  exact ⟨rfl, A8.out⟩
end Go.Proofs.Ytlbodickflljfaa
