/-
  THE WALK OF awake.
-/
import Derived.Test.YtlbodickflljfaaLive
import Derived.Lib.SlBytesConst
namespace Go.Proofs.Ytlbodickflljfaa
open Go.RowKit Go.Maps Dsk
def aS0 : Dk := newS 9
def aS1 : Dk := createS aS0 [97]
def aS2 : Dk := appendS aS1 [97] [120, 121]
def aS3 : Dk := syncS aS2 [97]
def aS4 : Dk := appendS aS3 [97] [122]
def aS5 : Dk := startS aS4 []
theorem aE1 : createE aS0 [97] = 0 := by decide
theorem aE2 : appendE aS1 [97] [120, 121] = 0 := by decide
theorem aE3 : removeE aS2 [97] = 0 := by decide
theorem aE4 : appendE aS3 [97] [122] = 0 := by decide
theorem aE5 : findE aS5 [97] = 0 := by decide
theorem aB5 : readB aS5 [97] = [120, 121] := by decide
theorem aN5 : aS5.steps = 4 := by decide
theorem aT0 : aS0.steps < 4611686018427387904 := by decide
theorem aT1 : aS1.steps < 4611686018427387904 := by decide
theorem aT2 : aS2.steps < 4611686018427387904 := by decide
theorem aT3 : aS3.steps < 4611686018427387904 := by decide
theorem lit_at (w : World) (bs : List UInt8) (fr : Nat × Nat) : BytesAt (w.alloc (.cells (c8 bs).toArray 5 fr)) (some ⟨w.heap.size, 0, none⟩) bs := fun _ => ⟨w.heap.size, 0, rfl, fun j hj => by
  rw [cell_of_row _ _ _ _ _ _ (heap_alloc_new w _)]
  have := c8_get bs j hj
  simpa using this⟩
theorem a_new (w : World) : Calls Try.prog 11 #[.int .i64 9] w fun e w' => e = .returned (.pointer (some ⟨w.heap.size + 1, 0, none⟩)) ∧ Live w w'.heap.size (w.heap.size + 1) aS0 w' := live_new 9 w
theorem a_create {w W : World} {L sb : Nat} (h : Live w L sb aS0 W) : Calls Try.prog 23 #[.pointer (some ⟨sb, 0, none⟩), .string ⟨#[97]⟩] W fun e W' => e = .returned (.int .i64 0) ∧ Live w W'.heap.size sb aS1 W' :=
  (live_create h aT0 [97] (by decide)).mono (fun e W' ⟨h1, h2⟩ => ⟨by rw [h1, aE1]; rfl, h2⟩)
theorem a_append1 {w W : World} {L sb : Nat} (h : Live w L sb aS1 W) (hL : L = W.heap.size) : Calls Try.prog 24 #[.pointer (some ⟨sb, 0, none⟩), .string ⟨#[97]⟩, .slice (some ⟨W.heap.size, 0, none⟩) 2 2] (W.alloc (.cells #[.int .u8 120, .int .u8 121] 5 (2, 3))) fun e W' => e = .returned (.int .i64 0) ∧ Live w W'.heap.size sb aS2 W' :=
  (live_append (h.alloc _) aT1 [97] (by decide) (some ⟨W.heap.size, 0, none⟩) 2 2 [120, 121] rfl (lit_at W [120, 121] (2, 3)) (fun _ a ha => by cases ha; exact Or.inr (Nat.le_of_eq hL))).mono (fun e W' ⟨h1, h2⟩ => ⟨by rw [h1, aE2]; rfl, h2⟩)
theorem a_sync {w W : World} {L sb : Nat} (h : Live w L sb aS2 W) : Calls Try.prog 27 #[.pointer (some ⟨sb, 0, none⟩), .string ⟨#[97]⟩] W fun e W' => e = .returned (.int .i64 0) ∧ Live w W'.heap.size sb aS3 W' :=
  (live_sync h aT2 [97] (by decide)).mono (fun e W' ⟨h1, h2⟩ => ⟨by rw [h1, aE3]; rfl, h2⟩)
theorem a_append2 {w W : World} {L sb : Nat} (h : Live w L sb aS3 W) (hL : L = W.heap.size) : Calls Try.prog 24 #[.pointer (some ⟨sb, 0, none⟩), .string ⟨#[97]⟩, .slice (some ⟨W.heap.size, 0, none⟩) 1 1] (W.alloc (.cells #[.int .u8 122] 5 (1, 2))) fun e W' => e = .returned (.int .i64 0) ∧ Live w W'.heap.size sb aS4 W' :=
  (live_append (h.alloc _) aT3 [97] (by decide) (some ⟨W.heap.size, 0, none⟩) 1 1 [122] rfl (lit_at W [122] (1, 2)) (fun _ a ha => by cases ha; exact Or.inr (Nat.le_of_eq hL))).mono (fun e W' ⟨h1, h2⟩ => ⟨by rw [h1, aE4]; rfl, h2⟩)
theorem a_start {w W : World} {L sb : Nat} (h : Live w L sb aS4 W) : Calls Try.prog 19 #[.pointer (some ⟨sb, 0, none⟩), .slice none 0 0] W fun e W' => e = .returned (.tuple #[]) ∧ Live w W'.heap.size sb aS5 W' :=
  live_start h none 0 0 [] rfl (Nat.le_refl _) (fun h => absurd rfl h) (fun h => absurd rfl h)
theorem a_read {w W : World} {L sb : Nat} (h : Live w L sb aS5 W) : Calls Try.prog 16 #[.pointer (some ⟨sb, 0, none⟩), .string ⟨#[97]⟩] W fun e W' => ∃ ao c, e = .returned (.tuple #[.slice ao 2 c, .int .i64 0]) ∧ BytesAt W' ao [120, 121] ∧ After W W' :=
  (live_read h [97] (by decide)).mono (fun e W' ⟨ao, c, h1, h2, h3⟩ => by
    rw [aB5, aE5] at h1
    rw [aB5] at h2
    obtain ⟨ao', c', e1, hat, _⟩ := Own.sl h2 2 rfl
    simp only [Value.slice.injEq] at e1
    obtain ⟨rfl, _, rfl⟩ := e1
    exact ⟨ao, c, h1, hat, h3⟩)
theorem a_steps {w W : World} {L sb : Nat} (h : Live w L sb aS5 W) : Calls Try.prog 31 #[.pointer (some ⟨sb, 0, none⟩)] W fun e W' => e = .returned (.int .i64 4) ∧ W' = W :=
  (live_steps h).mono (fun e W' ⟨h1, h2⟩ => ⟨by rw [h1, aN5]; rfl, h2⟩)
set_option maxRecDepth 100000 in
set_option maxHeartbeats 1600000 in
theorem awake_any (w : World) : Calls Try.prog 15 #[] w fun e w' => e = .returned (.bool true) ∧ After w w' := by
  have kc := fun (w : World) (C : Array Value) (n c : Nat) => Lib.run_convert_bytes_const (P := Try.prog) w 31 5 C n c Try.underlying31 Try.underlying5
  have tok1 : True := trivial
  go_enter Try.func15, Try.ntmps15
  go_wp2_with (first
    | (go_at_call 11; refine (a_new w).mono ?_; rintro e w1 ⟨rfl, h1⟩; have H1 := show Hid (Live _ _ _ _ _) from h1; clear h1)
    | (go_at_call 23; refine (a_create H1.out).mono ?_; rintro e w2 ⟨rfl, h2⟩; have H2 := show Hid (Live _ _ _ _ _) from h2; clear h2)
    | (go_at_call 24; have _t := tok1; refine (a_append1 H2.out rfl).mono ?_; rintro e w3 ⟨rfl, h3⟩; have H3 := show Hid (Live _ _ _ _ _) from h3; clear h3 tok1)
    | (go_at_call 27; refine (a_sync H3.out).mono ?_; rintro e w4 ⟨rfl, h4⟩; have H4 := show Hid (Live _ _ _ _ _) from h4; clear h4)
    | (go_at_call 24; refine (a_append2 H4.out rfl).mono ?_; rintro e w5 ⟨rfl, h5⟩; have H5 := show Hid (Live _ _ _ _ _) from h5; clear h5)
    | (go_at_call 19; refine (a_start H5.out).mono ?_; rintro e w6 ⟨rfl, h6⟩; have H6 := show Hid (Live _ _ _ _ _) from h6; clear h6)
    | (go_at_call 16; refine (a_read H6.out).mono ?_; rintro e w7 ⟨ao7, c7, rfl, hat7, ha7⟩; have HA7 : Hid (After w6 w7) := ha7; have H7 := show Hid (Live _ _ _ _ _) from H6.out.after ha7; have hcv := conv_at c7 hat7; simp only [List.length_cons, List.length_nil] at hcv; rw [show strOf [120, 121] = ⟨#[120, 121]⟩ from rfl] at hcv; clear hat7 ha7)
    | (go_at_call 31; refine (a_steps H7.out).mono ?_; rintro e w8 ⟨rfl, hw8⟩; have hw9 := hw8.symm; clear hw8; subst hw9))
  go_ret
  exact ⟨rfl, H7.out.aft⟩
end Go.Proofs.Ytlbodickflljfaa
