/-
  THE WALK OF stemmalaw02.LebPuts.
-/
import Derived.Test.YtfeepebiahekkaaHand2
namespace Go.Proofs.Ytfeepebiahekkaa
open Go.RowKit Leb
set_option maxRecDepth 100000 in
set_option maxHeartbeats 800000 in
theorem puts_any (n : Nat) (hn : n < 18446744073709551616) (m : Int) (hm0 : -9223372036854775808 ≤ m) (hm1 : m ≤ 9223372036854775807) (l : List UInt8) (hl : l.length ≤ 140737488351232) (w : World) :
    Calls Try.prog 3 #[.int .u64 n, .int .i64 m, .string (strOf l)] w fun e w' => e = .returned (.bool true) ∧ Below w.heap.size w w' := by
  go_enter Try.func3, Try.ntmps3
  go_wp2
  refine wp_region_noPanic ?_
  refine wp_region_held_drew (S := After w) (by kernel_rfl) (After.drew (After.refl w)) ?_
  intro hS0
  refine tk 0 7 (.int .u64 (n : Int)) (fuel := 28) rfl (by kernel_rfl) (by kernel_rfl) (by kernel_rfl) (by kernel_rfl) noPanic_false (by kernel_rfl) (fun _ _ => by kernel_rfl) hS0 ?_
  refine tk 3 10 (.int .u64 (n : Int)) (fuel := 27) rfl (by kernel_rfl) (by kernel_rfl) (by kernel_rfl) (by kernel_rfl) noPanic_false (by kernel_rfl) (fun _ _ => by kernel_rfl) hS0 ?_
  refine tkCall 1 8 11 #[.int .u64 (n : Int)] _ (fuel := 26) rfl (by kernel_rfl) (by kernel_rfl) (by kernel_rfl) (fun _ => by kernel_rfl) hS0 (uint_any n hn _) ?_
  intro p1v p1w p1r p1s
  have p1B : After w p1w := After.trans hS0 p1s
  refine tk 2 9 (.string (strOf (uintB n))) (fuel := 25) rfl (by kernel_rfl) (by kernel_rfl) (by kernel_rfl) (by kernel_rfl) noPanic_false (by kernel_rfl) (fun W hW => x_conv (x := .tmp 8) (by kernel_rfl) (by kernel_rfl) (Own.convA p1r hW)) (After.refl p1w) ?_
  refine tkCall 4 11 12 #[.int .u64 (n : Int)] _ (fuel := 24) rfl (by kernel_rfl) (by kernel_rfl) (by kernel_rfl) (fun _ => by kernel_rfl) (After.refl p1w) (ruint_any n hn _) ?_
  intro p2v p2w p2r p2s
  have p2B : After w p2w := After.trans p1B p2s
  refine tk 5 12 (.string (strOf (uintB n))) (fuel := 23) rfl (by kernel_rfl) (by kernel_rfl) (by kernel_rfl) (by kernel_rfl) noPanic_false (by kernel_rfl) (fun W hW => x_conv (x := .tmp 11) (by kernel_rfl) (by kernel_rfl) (Own.convA p2r hW)) (After.refl p2w) ?_
  refine tk 6 13 (.bool true) (fuel := 22) rfl (by kernel_rfl) (by kernel_rfl) (by kernel_rfl) (by kernel_rfl) noPanic_false (by kernel_rfl) (fun W hW => x_streq (x := .tmp 9) (y := .tmp 12) (s := strOf (uintB n)) (t := strOf (uintB n)) (by kernel_rfl) (by kernel_rfl) (by kernel_rfl) rfl) (After.refl p2w) ?_
  refine tk 7 14 (.bool true) (fuel := 21) rfl (by kernel_rfl) (by kernel_rfl) (by kernel_rfl) (by kernel_rfl) noPanic_false (by kernel_rfl) (fun _ _ => by kernel_rfl) (After.refl p2w) ?_
  refine tk 8 15 (.int .i64 m) (fuel := 20) rfl (by kernel_rfl) (by kernel_rfl) (by kernel_rfl) (by kernel_rfl) noPanic_false (by kernel_rfl) (fun _ _ => by kernel_rfl) (After.refl p2w) ?_
  refine tk 11 18 (.int .i64 m) (fuel := 19) rfl (by kernel_rfl) (by kernel_rfl) (by kernel_rfl) (by kernel_rfl) noPanic_false (by kernel_rfl) (fun _ _ => by kernel_rfl) (After.refl p2w) ?_
  refine tkCall 9 16 13 #[.int .i64 m] _ (fuel := 18) rfl (by kernel_rfl) (by kernel_rfl) (by kernel_rfl) (fun _ => by kernel_rfl) (After.refl p2w) (int_any m hm0 hm1 _) ?_
  intro p3v p3w p3r p3s
  have p3B : After w p3w := After.trans p2B p3s
  refine tk 10 17 (.string (strOf (intB m))) (fuel := 17) rfl (by kernel_rfl) (by kernel_rfl) (by kernel_rfl) (by kernel_rfl) noPanic_false (by kernel_rfl) (fun W hW => x_conv (x := .tmp 16) (by kernel_rfl) (by kernel_rfl) (Own.convA p3r hW)) (After.refl p3w) ?_
  refine tkCall 12 19 14 #[.int .i64 m] _ (fuel := 16) rfl (by kernel_rfl) (by kernel_rfl) (by kernel_rfl) (fun _ => by kernel_rfl) (After.refl p3w) (rint_any m hm0 hm1 _) ?_
  intro p4v p4w p4r p4s
  have p4B : After w p4w := After.trans p3B p4s
  refine tk 13 20 (.string (strOf (intB m))) (fuel := 15) rfl (by kernel_rfl) (by kernel_rfl) (by kernel_rfl) (by kernel_rfl) noPanic_false (by kernel_rfl) (fun W hW => x_conv (x := .tmp 19) (by kernel_rfl) (by kernel_rfl) (Own.convA p4r hW)) (After.refl p4w) ?_
  refine tk 14 21 (.bool true) (fuel := 14) rfl (by kernel_rfl) (by kernel_rfl) (by kernel_rfl) (by kernel_rfl) noPanic_false (by kernel_rfl) (fun W hW => x_streq (x := .tmp 17) (y := .tmp 20) (s := strOf (intB m)) (t := strOf (intB m)) (by kernel_rfl) (by kernel_rfl) (by kernel_rfl) rfl) (After.refl p4w) ?_
  refine tk 15 22 (.bool true) (fuel := 13) rfl (by kernel_rfl) (by kernel_rfl) (by kernel_rfl) (by kernel_rfl) noPanic_false (by kernel_rfl) (fun _ _ => by kernel_rfl) (After.refl p4w) ?_
  refine tk 16 23 (.bool true) (fuel := 12) rfl (by kernel_rfl) (by kernel_rfl) (by kernel_rfl) (by kernel_rfl) noPanic_false (by kernel_rfl) (fun _ _ => by kernel_rfl) (After.refl p4w) ?_
  refine tk 17 24 (.string (strOf l)) (fuel := 11) rfl (by kernel_rfl) (by kernel_rfl) (by kernel_rfl) (by kernel_rfl) noPanic_false (by kernel_rfl) (fun _ _ => by kernel_rfl) (After.refl p4w) ?_
  refine tk 20 27 (.string (strOf l)) (fuel := 10) rfl (by kernel_rfl) (by kernel_rfl) (by kernel_rfl) (by kernel_rfl) noPanic_false (by kernel_rfl) (fun _ _ => by kernel_rfl) (After.refl p4w) ?_
  refine tkCall 18 25 15 #[.string (strOf l)] _ (fuel := 9) rfl (by kernel_rfl) (by kernel_rfl) (by kernel_rfl) (fun _ => by kernel_rfl) (After.refl p4w) (text_any l hl _) ?_
  intro p5v p5w p5r p5s
  have p5B : After w p5w := After.trans p4B p5s
  refine tk 19 26 (.string (strOf (textB l))) (fuel := 8) rfl (by kernel_rfl) (by kernel_rfl) (by kernel_rfl) (by kernel_rfl) noPanic_false (by kernel_rfl) (fun W hW => x_conv (x := .tmp 25) (by kernel_rfl) (by kernel_rfl) (Own.convA p5r hW)) (After.refl p5w) ?_
  refine tkCall 21 28 16 #[.string (strOf l)] _ (fuel := 7) rfl (by kernel_rfl) (by kernel_rfl) (by kernel_rfl) (fun _ => by kernel_rfl) (After.refl p5w) (rtext_any l hl _) ?_
  intro p6v p6w p6r p6s
  have p6B : After w p6w := After.trans p5B p6s
  refine tk 22 29 (.string (strOf (textB l))) (fuel := 6) rfl (by kernel_rfl) (by kernel_rfl) (by kernel_rfl) (by kernel_rfl) noPanic_false (by kernel_rfl) (fun W hW => x_conv (x := .tmp 28) (by kernel_rfl) (by kernel_rfl) (Own.convA p6r hW)) (After.refl p6w) ?_
  refine tk 23 30 (.bool true) (fuel := 5) rfl (by kernel_rfl) (by kernel_rfl) (by kernel_rfl) (by kernel_rfl) noPanic_false (by kernel_rfl) (fun W hW => x_streq (x := .tmp 26) (y := .tmp 29) (s := strOf (textB l)) (t := strOf (textB l)) (by kernel_rfl) (by kernel_rfl) (by kernel_rfl) rfl) (After.refl p6w) ?_
  refine tk 24 31 (.bool true) (fuel := 4) rfl (by kernel_rfl) (by kernel_rfl) (by kernel_rfl) (by kernel_rfl) noPanic_false (by kernel_rfl) (fun _ _ => by kernel_rfl) (After.refl p6w) ?_
  refine tk 25 32 (.bool true) (fuel := 3) rfl (by kernel_rfl) (by kernel_rfl) (by kernel_rfl) (by kernel_rfl) noPanic_false (by kernel_rfl) (fun _ _ => by kernel_rfl) (After.refl p6w) ?_
  refine tkCall 26 33 17 #[] _ (fuel := 2) rfl (by kernel_rfl) (by kernel_rfl) (by kernel_rfl) (fun _ => by kernel_rfl) (After.refl p6w) (awake_ex _) ?_
  rintro p7v p7w rfl p7s
  have p7B : After w p7w := After.trans p6B p7s
  refine tk 27 34 (.bool true) (fuel := 1) rfl (by kernel_rfl) (by kernel_rfl) (by kernel_rfl) (by kernel_rfl) noPanic_false (by kernel_rfl) (fun _ _ => by kernel_rfl) (After.refl p7w) ?_
  refine tk 28 6 (.bool true) (fuel := 0) rfl (by kernel_rfl) (by kernel_rfl) (by kernel_rfl) (by kernel_rfl) noPanic_false (by kernel_rfl) (fun _ _ => by kernel_rfl) (After.refl p7w) ?_
  refine wpAnyH_done (by kernel_rfl) (NoPanic.normal ?_) _
  go_simp
  go_wp2
  go_ret
  exact ⟨rfl, p7B⟩
end Go.Proofs.Ytfeepebiahekkaa
