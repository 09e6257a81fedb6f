/-
  THE WALK OF stemmalaw06.HashesPuts.
-/
import Derived.Test.YtedghldjpkabmaaText
namespace Go.Proofs.Ytedghldjpkabmaa
open Go.RowKit
theorem x_gtt {oi : Oper} {a : Act} {w : World} {x y : Operand} {p q : Nat} (hop : oi.op = .binOp .gtr 3 x y 3) (hx : a.eval x = .int .i64 (p : Int)) (hy : a.eval y = .int .i64 (q : Int)) (h : q < p) : (execOp a.eval oi).run Try.prog w = .ok (.value (.bool true)) w := by
  unfold execOp
  simp only [hop, hx, hy]
  simp [go_sem]; omega
set_option maxRecDepth 100000 in
set_option maxHeartbeats 3200000 in
theorem puts_any (ao : Option Addr) (ca : Nat) (l : List Hs) (h32 : All32 l) (n : Nat) (hl : l.length = n) (hbig : n * 32 + 20 ≤ 140737488355328) (w : World) (hA : HsAt w ao l) :
    Calls Try.prog 5 #[.slice ao n ca] w fun e w' => e = .returned (.bool true) ∧ After w w' := by
  have HFA : Hid (HsAt w ao l ∧ All32 l ∧ l.length = n ∧ n * 32 + 20 ≤ 140737488355328) := ⟨hA, h32, hl, hbig⟩
  clear hA h32 hl hbig
  by_cases h5 : 500 < n
  · go_enter Try.func5, Try.ntmps5
    go_wp2_with fail
    refine wp_region_noPanic ?_
    refine wp_region_held_drew (S := After w) (by kernel_rfl) (After.drew (After.refl w)) ?_
    intro hS0
    refine tk 0 3 (.slice ao n ca) (fuel := 22) rfl (by kernel_rfl) (by kernel_rfl) (by kernel_rfl) (by kernel_rfl) noPanic_false (by kernel_rfl) (fun _ _ => by kernel_rfl) hS0 ?_
    refine tk 3 6 (.slice ao n ca) (fuel := 21) rfl (by kernel_rfl) (by kernel_rfl) (by kernel_rfl) (by kernel_rfl) noPanic_false (by kernel_rfl) (fun _ _ => by kernel_rfl) hS0 ?_
    refine tkCall 1 4 26 #[.slice ao n ca] (fun v w' => Own w' w.drew.heap.size v (putB l n n)) (fuel := 20) rfl (by kernel_rfl) (by kernel_rfl) (by kernel_rfl) (fun _ => by kernel_rfl) hS0 ((put_any ao ca l HFA.out.2.1 n HFA.out.2.2.1 HFA.out.2.2.2 w.drew (HFA.out.1.after hS0)).mono (fun e w' ⟨v, he, ho, ha⟩ => ⟨v, he, ho, ha⟩)) ?_
    intro v1 w1 ho1 ha1
    have hA1 : After w w1 := After.trans hS0 ha1
    have hS1 : After w1 w1 := After.refl w1
    refine tk 2 5 (.string (strOf (putB l n n))) (fuel := 19) rfl (by kernel_rfl) (by kernel_rfl) (by kernel_rfl) (by kernel_rfl) noPanic_false (by kernel_rfl) (fun W hW => x_conv (x := .tmp 4) (v := v1) (by kernel_rfl) (by kernel_rfl) (Own.convA ho1 hW)) hS1 ?_
    refine tkCall 4 7 27 #[.slice ao n ca] (fun v w' => Own w' w1.heap.size v (putB l n n)) (fuel := 18) rfl (by kernel_rfl) (by kernel_rfl) (by kernel_rfl) (fun _ => by kernel_rfl) hS1 ((rput_any ao ca l HFA.out.2.1 n HFA.out.2.2.1 HFA.out.2.2.2 w1 (HFA.out.1.after hA1)).mono (fun e w' ⟨v, he, ho, ha⟩ => ⟨v, he, ho, ha⟩)) ?_
    intro v2 w2 ho2 ha2
    have hA2 : After w w2 := After.trans hA1 ha2
    have hS2 : After w2 w2 := After.refl w2
    refine tk 5 8 (.string (strOf (putB l n n))) (fuel := 17) rfl (by kernel_rfl) (by kernel_rfl) (by kernel_rfl) (by kernel_rfl) noPanic_false (by kernel_rfl) (fun W hW => x_conv (x := .tmp 7) (v := v2) (by kernel_rfl) (by kernel_rfl) (Own.convA ho2 hW)) hS2 ?_
    refine tk 6 9 (.bool true) (fuel := 16) rfl (by kernel_rfl) (by kernel_rfl) (by kernel_rfl) (by kernel_rfl) noPanic_false (by kernel_rfl) (fun W hW => x_streq (s := strOf (putB l n n)) (t := strOf (putB l n n)) (x := .tmp 5) (y := .tmp 8) (by kernel_rfl) (by kernel_rfl) (by kernel_rfl) rfl) hS2 ?_
    refine tk 7 10 (.bool true) (fuel := 15) rfl (by kernel_rfl) (by kernel_rfl) (by kernel_rfl) (by kernel_rfl) noPanic_false (by kernel_rfl) (fun _ _ => by kernel_rfl) hS2 ?_
    refine tk 8 11 (.slice ao n ca) (fuel := 14) rfl (by kernel_rfl) (by kernel_rfl) (by kernel_rfl) (by kernel_rfl) noPanic_false (by kernel_rfl) (fun _ _ => by kernel_rfl) hS2 ?_
    refine tk 9 12 (.int .i64 (n : Int)) (fuel := 13) rfl (by kernel_rfl) (by kernel_rfl) (by kernel_rfl) (by kernel_rfl) noPanic_false (by kernel_rfl) (fun _ _ => by kernel_rfl) hS2 ?_
    refine tk 10 13 (.bool true) (fuel := 12) rfl (by kernel_rfl) (by kernel_rfl) (by kernel_rfl) (by kernel_rfl) noPanic_false (by kernel_rfl) (fun W hW => x_gtt (p := n) (q := 500) (x := .tmp 12) (y := .const (.int .i64 500)) (by kernel_rfl) (by kernel_rfl) (by kernel_rfl) h5) hS2 ?_
    refine tk 11 14 (.bool true) (fuel := 11) rfl (by kernel_rfl) (by kernel_rfl) (by kernel_rfl) (by kernel_rfl) noPanic_false (by kernel_rfl) (fun _ _ => by kernel_rfl) hS2 ?_
    refine tkSkip 12 15 (fuel := 10) rfl (by kernel_rfl) (by kernel_rfl) (by kernel_rfl) (by kernel_rfl) noPanic_false (by kernel_rfl) hS2 ?_
    refine tkSkip 13 16 (fuel := 9) rfl (by kernel_rfl) (by kernel_rfl) (by kernel_rfl) (by kernel_rfl) noPanic_false (by kernel_rfl) hS2 ?_
    refine tkSkip 14 17 (fuel := 8) rfl (by kernel_rfl) (by kernel_rfl) (by kernel_rfl) (by kernel_rfl) noPanic_false (by kernel_rfl) hS2 ?_
    refine tkSkip 15 18 (fuel := 7) rfl (by kernel_rfl) (by kernel_rfl) (by kernel_rfl) (by kernel_rfl) noPanic_false (by kernel_rfl) hS2 ?_
    refine tkSkip 16 19 (fuel := 6) rfl (by kernel_rfl) (by kernel_rfl) (by kernel_rfl) (by kernel_rfl) noPanic_false (by kernel_rfl) hS2 ?_
    refine tk 17 20 (.bool true) (fuel := 5) rfl (by kernel_rfl) (by kernel_rfl) (by kernel_rfl) (by kernel_rfl) noPanic_false (by kernel_rfl) (fun _ _ => by kernel_rfl) hS2 ?_
    refine tk 18 21 (.bool true) (fuel := 4) rfl (by kernel_rfl) (by kernel_rfl) (by kernel_rfl) (by kernel_rfl) noPanic_false (by kernel_rfl) (fun _ _ => by kernel_rfl) hS2 ?_
    refine tk 19 22 (.bool true) (fuel := 3) rfl (by kernel_rfl) (by kernel_rfl) (by kernel_rfl) (by kernel_rfl) noPanic_false (by kernel_rfl) (fun _ _ => by kernel_rfl) hS2 ?_
    refine tkCall 20 23 11 #[] (fun v _ => v = .bool true) (fuel := 2) rfl (by kernel_rfl) (by kernel_rfl) (by kernel_rfl) (fun _ => by kernel_rfl) hS2 ((awake_any w2).mono (fun e w' ⟨he, ha⟩ => ⟨_, he, rfl, ha⟩)) ?_
    intro v5 w5 hv5 ha5
    subst hv5
    have hA5 : After w w5 := After.trans hA2 ha5
    have hS5 : After w5 w5 := After.refl w5
    refine tk 21 24 (.bool true) (fuel := 1) rfl (by kernel_rfl) (by kernel_rfl) (by kernel_rfl) (by kernel_rfl) noPanic_false (by kernel_rfl) (fun _ _ => by kernel_rfl) hS5 ?_
    refine tk 22 2 (.bool true) (fuel := 0) rfl (by kernel_rfl) (by kernel_rfl) (by kernel_rfl) (by kernel_rfl) noPanic_false (by kernel_rfl) (fun _ _ => by kernel_rfl) hS5 ?_
    refine wpAnyH_done (by kernel_rfl) (NoPanic.normal ?_) _
    have HA5 : Hid (After w w5) := hA5
    clear hS0 hS1 hS2 hS5 hA1 hA2 hA5 ha1 ha2 ha5 ho1 ho2
    go_simp
    go_wp2
    go_ret
    exact ⟨rfl, HA5.out⟩
  · go_enter Try.func5, Try.ntmps5
    go_wp2_with fail
    refine wp_region_noPanic ?_
    refine wp_region_held_drew (S := After w) (by kernel_rfl) (After.drew (After.refl w)) ?_
    intro hS0
    refine tk 0 3 (.slice ao n ca) (fuel := 22) rfl (by kernel_rfl) (by kernel_rfl) (by kernel_rfl) (by kernel_rfl) noPanic_false (by kernel_rfl) (fun _ _ => by kernel_rfl) hS0 ?_
    refine tk 3 6 (.slice ao n ca) (fuel := 21) rfl (by kernel_rfl) (by kernel_rfl) (by kernel_rfl) (by kernel_rfl) noPanic_false (by kernel_rfl) (fun _ _ => by kernel_rfl) hS0 ?_
    refine tkCall 1 4 26 #[.slice ao n ca] (fun v w' => Own w' w.drew.heap.size v (putB l n n)) (fuel := 20) rfl (by kernel_rfl) (by kernel_rfl) (by kernel_rfl) (fun _ => by kernel_rfl) hS0 ((put_any ao ca l HFA.out.2.1 n HFA.out.2.2.1 HFA.out.2.2.2 w.drew (HFA.out.1.after hS0)).mono (fun e w' ⟨v, he, ho, ha⟩ => ⟨v, he, ho, ha⟩)) ?_
    intro v1 w1 ho1 ha1
    have hA1 : After w w1 := After.trans hS0 ha1
    have hS1 : After w1 w1 := After.refl w1
    refine tk 2 5 (.string (strOf (putB l n n))) (fuel := 19) rfl (by kernel_rfl) (by kernel_rfl) (by kernel_rfl) (by kernel_rfl) noPanic_false (by kernel_rfl) (fun W hW => x_conv (x := .tmp 4) (v := v1) (by kernel_rfl) (by kernel_rfl) (Own.convA ho1 hW)) hS1 ?_
    refine tkCall 4 7 27 #[.slice ao n ca] (fun v w' => Own w' w1.heap.size v (putB l n n)) (fuel := 18) rfl (by kernel_rfl) (by kernel_rfl) (by kernel_rfl) (fun _ => by kernel_rfl) hS1 ((rput_any ao ca l HFA.out.2.1 n HFA.out.2.2.1 HFA.out.2.2.2 w1 (HFA.out.1.after hA1)).mono (fun e w' ⟨v, he, ho, ha⟩ => ⟨v, he, ho, ha⟩)) ?_
    intro v2 w2 ho2 ha2
    have hA2 : After w w2 := After.trans hA1 ha2
    have hS2 : After w2 w2 := After.refl w2
    refine tk 5 8 (.string (strOf (putB l n n))) (fuel := 17) rfl (by kernel_rfl) (by kernel_rfl) (by kernel_rfl) (by kernel_rfl) noPanic_false (by kernel_rfl) (fun W hW => x_conv (x := .tmp 7) (v := v2) (by kernel_rfl) (by kernel_rfl) (Own.convA ho2 hW)) hS2 ?_
    refine tk 6 9 (.bool true) (fuel := 16) rfl (by kernel_rfl) (by kernel_rfl) (by kernel_rfl) (by kernel_rfl) noPanic_false (by kernel_rfl) (fun W hW => x_streq (s := strOf (putB l n n)) (t := strOf (putB l n n)) (x := .tmp 5) (y := .tmp 8) (by kernel_rfl) (by kernel_rfl) (by kernel_rfl) rfl) hS2 ?_
    refine tk 7 10 (.bool true) (fuel := 15) rfl (by kernel_rfl) (by kernel_rfl) (by kernel_rfl) (by kernel_rfl) noPanic_false (by kernel_rfl) (fun _ _ => by kernel_rfl) hS2 ?_
    refine tk 8 11 (.slice ao n ca) (fuel := 14) rfl (by kernel_rfl) (by kernel_rfl) (by kernel_rfl) (by kernel_rfl) noPanic_false (by kernel_rfl) (fun _ _ => by kernel_rfl) hS2 ?_
    refine tk 9 12 (.int .i64 (n : Int)) (fuel := 13) rfl (by kernel_rfl) (by kernel_rfl) (by kernel_rfl) (by kernel_rfl) noPanic_false (by kernel_rfl) (fun _ _ => by kernel_rfl) hS2 ?_
    refine tk 10 13 (.bool false) (fuel := 12) rfl (by kernel_rfl) (by kernel_rfl) (by kernel_rfl) (by kernel_rfl) noPanic_false (by kernel_rfl) (fun W hW => x_gtr (t := 3) (p := n) (q := 500) (x := .tmp 12) (y := .const (.int .i64 500)) (by kernel_rfl) (by kernel_rfl) (by kernel_rfl) (by omega)) hS2 ?_
    refine tk 11 14 (.bool false) (fuel := 11) rfl (by kernel_rfl) (by kernel_rfl) (by kernel_rfl) (by kernel_rfl) noPanic_false (by kernel_rfl) (fun _ _ => by kernel_rfl) hS2 ?_
    refine tk 12 15 (.slice ao n ca) (fuel := 10) rfl (by kernel_rfl) (by kernel_rfl) (by kernel_rfl) (by kernel_rfl) noPanic_false (by kernel_rfl) (fun _ _ => by kernel_rfl) hS2 ?_
    refine tk 14 17 (.slice ao n ca) (fuel := 9) rfl (by kernel_rfl) (by kernel_rfl) (by kernel_rfl) (by kernel_rfl) noPanic_false (by kernel_rfl) (fun _ _ => by kernel_rfl) hS2 ?_
    refine tkCall 13 16 28 #[.slice ao n ca] (fun v _ => v = .string (strOf (txt l))) (fuel := 8) rfl (by kernel_rfl) (by kernel_rfl) (by kernel_rfl) (fun _ => by kernel_rfl) hS2 ((text_any ao ca l HFA.out.2.1 n HFA.out.2.2.1 (by omega) w2 (HFA.out.1.after hA2)).mono (fun e w' ⟨he, ha⟩ => ⟨_, he, rfl, ha⟩)) ?_
    intro v3 w3 hv3 ha3
    subst hv3
    have hA3 : After w w3 := After.trans hA2 ha3
    have hS3 : After w3 w3 := After.refl w3
    refine tkCall 15 18 29 #[.slice ao n ca] (fun v _ => v = .string (strOf (txt l))) (fuel := 7) rfl (by kernel_rfl) (by kernel_rfl) (by kernel_rfl) (fun _ => by kernel_rfl) hS3 ((rtext_any ao ca l HFA.out.2.1 n HFA.out.2.2.1 (by omega) w3 (HFA.out.1.after hA3)).mono (fun e w' ⟨he, ha⟩ => ⟨_, he, rfl, ha⟩)) ?_
    intro v4 w4 hv4 ha4
    subst hv4
    have hA4 : After w w4 := After.trans hA3 ha4
    have hS4 : After w4 w4 := After.refl w4
    refine tk 16 19 (.bool true) (fuel := 6) rfl (by kernel_rfl) (by kernel_rfl) (by kernel_rfl) (by kernel_rfl) noPanic_false (by kernel_rfl) (fun W hW => x_streq (s := strOf (txt l)) (t := strOf (txt l)) (x := .tmp 16) (y := .tmp 18) (by kernel_rfl) (by kernel_rfl) (by kernel_rfl) rfl) hS4 ?_
    refine tk 17 20 (.bool true) (fuel := 5) rfl (by kernel_rfl) (by kernel_rfl) (by kernel_rfl) (by kernel_rfl) noPanic_false (by kernel_rfl) (fun _ _ => by kernel_rfl) hS4 ?_
    refine tk 18 21 (.bool true) (fuel := 4) rfl (by kernel_rfl) (by kernel_rfl) (by kernel_rfl) (by kernel_rfl) noPanic_false (by kernel_rfl) (fun _ _ => by kernel_rfl) hS4 ?_
    refine tk 19 22 (.bool true) (fuel := 3) rfl (by kernel_rfl) (by kernel_rfl) (by kernel_rfl) (by kernel_rfl) noPanic_false (by kernel_rfl) (fun _ _ => by kernel_rfl) hS4 ?_
    refine tkCall 20 23 11 #[] (fun v _ => v = .bool true) (fuel := 2) rfl (by kernel_rfl) (by kernel_rfl) (by kernel_rfl) (fun _ => by kernel_rfl) hS4 ((awake_any w4).mono (fun e w' ⟨he, ha⟩ => ⟨_, he, rfl, ha⟩)) ?_
    intro v5 w5 hv5 ha5
    subst hv5
    have hA5 : After w w5 := After.trans hA4 ha5
    have hS5 : After w5 w5 := After.refl w5
    refine tk 21 24 (.bool true) (fuel := 1) rfl (by kernel_rfl) (by kernel_rfl) (by kernel_rfl) (by kernel_rfl) noPanic_false (by kernel_rfl) (fun _ _ => by kernel_rfl) hS5 ?_
    refine tk 22 2 (.bool true) (fuel := 0) rfl (by kernel_rfl) (by kernel_rfl) (by kernel_rfl) (by kernel_rfl) noPanic_false (by kernel_rfl) (fun _ _ => by kernel_rfl) hS5 ?_
    refine wpAnyH_done (by kernel_rfl) (NoPanic.normal ?_) _
    have HA5 : Hid (After w w5) := hA5
    clear hS0 hS1 hS2 hS3 hS4 hS5 hA1 hA2 hA3 hA4 hA5 ha1 ha2 ha3 ha4 ha5 ho1 ho2
    go_simp
    go_wp2
    go_ret
    exact ⟨rfl, HA5.out⟩
end Go.Proofs.Ytedghldjpkabmaa
