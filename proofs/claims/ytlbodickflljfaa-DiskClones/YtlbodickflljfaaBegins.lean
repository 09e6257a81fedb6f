/-
  THE WALK OF stemmalaw05.begins.
-/
import Derived.Test.YtlbodickflljfaaSafePlain
namespace Go.Proofs.Ytlbodickflljfaa
open Go.RowKit Go.Maps Dsk
theorem x_geq {o : Oper} {a : Act} {x y : Operand} {w : World} {t : TypeId} {p q : Nat} (hop : o.op = .binOp .geq t x y t) (hx : a.eval x = .int .i64 (p : Int)) (hy : a.eval y = .int .i64 (q : Int)) (h : q ≤ p) : (execOp a.eval o).run Try.prog w = .ok (.value (.bool true)) w := by
  have h' : (q : Int) ≤ (p : Int) := by omega
  unfold execOp; simp only [hop, hx, hy]; simp [go_sem, h']

set_option maxRecDepth 100000 in
set_option maxHeartbeats 1600000 in
theorem begins_any (ga ha : Option Addr) (gn gc hn hc base : Nat) (g h : List UInt8) (hhn : h.length = hn) (hle : hn ≤ gn) (hp : g.take hn = h) (w : World) (hg : Own w base (.slice ga gn gc) g) (hga : BytesAt w ga g) (hh : BytesAt w ha h) :
    Calls Try.prog 28 #[.slice ga gn gc, .slice ha hn hc] w fun e w' => e = .returned (.bool true) ∧ After w w' := by
  have HO : Hid (Own w 0 (.slice ga gn gc) g) := hg.mono (Nat.zero_le _)
  have C1 : Hid (∀ W, After w W → (convert 31 9 (.slice ga hn gc)).run Try.prog W = .ok (.string (strOf h)) W) := fun W hW => by
    have := conv_at gc ((hga.take hn).after hW)
    rw [hp, hhn] at this; exact this
  have C2 : Hid (∀ W, After w W → (convert 31 9 (.slice ha hn hc)).run Try.prog W = .ok (.string (strOf h)) W) := fun W hW => by
    have := conv_at hc (hh.after hW)
    rw [hhn] at this; exact this
  clear hg hga hh hp hhn
  go_enter Try.func28, Try.ntmps28
  go_wp2_with fail
  refine wp_region_noPanic ?_
  refine wp_region_held_drew (S := After w) (by kernel_rfl) (After.drew (After.refl w)) ?_
  intro hS0
  refine tk 0 5 (.slice ga gn gc) (fuel := 15) rfl (by kernel_rfl) (by kernel_rfl) (by kernel_rfl) (by kernel_rfl) noPanic_false (by kernel_rfl) (fun _ _ => by kernel_rfl) hS0 ?_
  refine tk 1 6 (.int .i64 (gn : Int)) (fuel := 14) rfl (by kernel_rfl) (by kernel_rfl) (by kernel_rfl) (by kernel_rfl) noPanic_false (by kernel_rfl) (fun _ _ => by kernel_rfl) hS0 ?_
  refine tk 2 7 (.slice ha hn hc) (fuel := 13) rfl (by kernel_rfl) (by kernel_rfl) (by kernel_rfl) (by kernel_rfl) noPanic_false (by kernel_rfl) (fun _ _ => by kernel_rfl) hS0 ?_
  refine tk 3 8 (.int .i64 (hn : Int)) (fuel := 12) rfl (by kernel_rfl) (by kernel_rfl) (by kernel_rfl) (by kernel_rfl) noPanic_false (by kernel_rfl) (fun _ _ => by kernel_rfl) hS0 ?_
  refine tk 4 9 (.bool true) (fuel := 11) rfl (by kernel_rfl) (by kernel_rfl) (by kernel_rfl) (by kernel_rfl) noPanic_false (by kernel_rfl) (fun W _ => x_geq (t := 3) (x := .tmp 6) (y := .tmp 8) (p := gn) (q := hn) (by kernel_rfl) (by kernel_rfl) (by kernel_rfl) hle) hS0 ?_
  refine tk 5 10 (.bool true) (fuel := 10) rfl (by kernel_rfl) (by kernel_rfl) (by kernel_rfl) (by kernel_rfl) noPanic_false (by kernel_rfl) (fun _ _ => by kernel_rfl) hS0 ?_
  refine tk 6 11 (.slice ga gn gc) (fuel := 9) rfl (by kernel_rfl) (by kernel_rfl) (by kernel_rfl) (by kernel_rfl) noPanic_false (by kernel_rfl) (fun _ _ => by kernel_rfl) hS0 ?_
  refine tk 7 12 (.slice ha hn hc) (fuel := 8) rfl (by kernel_rfl) (by kernel_rfl) (by kernel_rfl) (by kernel_rfl) noPanic_false (by kernel_rfl) (fun _ _ => by kernel_rfl) hS0 ?_
  refine tk 8 13 (.int .i64 (hn : Int)) (fuel := 7) rfl (by kernel_rfl) (by kernel_rfl) (by kernel_rfl) (by kernel_rfl) noPanic_false (by kernel_rfl) (fun _ _ => by kernel_rfl) hS0 ?_
  refine tk 9 14 (.slice ga hn gc) (fuel := 6) rfl (by kernel_rfl) (by kernel_rfl) (by kernel_rfl) (by kernel_rfl) noPanic_false (by kernel_rfl) (fun W _ => x_slh (x := .tmp 11) (y := .tmp 13) (k := hn) (by kernel_rfl) (by kernel_rfl) (by kernel_rfl) HO.out hle) hS0 ?_
  refine tk 10 15 (.string (strOf h)) (fuel := 5) rfl (by kernel_rfl) (by kernel_rfl) (by kernel_rfl) (by kernel_rfl) noPanic_false (by kernel_rfl) (fun W hW => x_conv (x := .tmp 14) (by kernel_rfl) (by kernel_rfl) (C1.out W hW)) hS0 ?_
  refine tk 11 16 (.slice ha hn hc) (fuel := 4) rfl (by kernel_rfl) (by kernel_rfl) (by kernel_rfl) (by kernel_rfl) noPanic_false (by kernel_rfl) (fun _ _ => by kernel_rfl) hS0 ?_
  refine tk 12 17 (.string (strOf h)) (fuel := 3) rfl (by kernel_rfl) (by kernel_rfl) (by kernel_rfl) (by kernel_rfl) noPanic_false (by kernel_rfl) (fun W hW => x_conv (x := .tmp 16) (by kernel_rfl) (by kernel_rfl) (C2.out W hW)) hS0 ?_
  refine tk 13 18 (.bool true) (fuel := 2) rfl (by kernel_rfl) (by kernel_rfl) (by kernel_rfl) (by kernel_rfl) noPanic_false (by kernel_rfl) (fun W _ => x_streq (s := strOf h) (t := strOf h) (x := .tmp 15) (y := .tmp 17) (by kernel_rfl) (by kernel_rfl) (by kernel_rfl) rfl) hS0 ?_
  refine tk 14 19 (.bool true) (fuel := 1) rfl (by kernel_rfl) (by kernel_rfl) (by kernel_rfl) (by kernel_rfl) noPanic_false (by kernel_rfl) (fun _ _ => by kernel_rfl) hS0 ?_
  refine tk 15 4 (.bool true) (fuel := 0) rfl (by kernel_rfl) (by kernel_rfl) (by kernel_rfl) (by kernel_rfl) noPanic_false (by kernel_rfl) (fun _ _ => by kernel_rfl) hS0 ?_
  refine wpAnyH_done (by kernel_rfl) (NoPanic.normal ?_) _
  have HS0 : Hid (After w w.drew) := hS0
  clear hS0
  go_simp
  go_wp2
  go_ret
  exact ⟨rfl, HS0.out⟩
end Go.Proofs.Ytlbodickflljfaa
