/-
  THE WALK OF stemmalaw09.BloomHas.
-/
import Derived.Test.YtgcgblecendijaaRK
namespace Go.Proofs.Ytgcgblecendijaa
open Go.RowKit Leb
theorem x_eqb {o : Oper} {a : Act} {x y : Operand} {w : World} {b : Bool} (hop : o.op = .binOp .eql 4 x y 4) (hx : a.eval x = .bool b) (hy : a.eval y = .bool b) : (execOp a.eval o).run Try.prog w = .ok (.value (.bool true)) w := by
  unfold execOp
  simp only [hop, hx, hy]
  cases b <;> simp [go_sem]

set_option maxRecDepth 100000 in
set_option maxHeartbeats 6000000 in
theorem has_any (bo : Option Addr) (bn bc : Nat) (bs : List UInt8) (hbl : bs.length = bn) (hbc : bn ≤ bc) (hbb : bn ≤ 1152921504606846976) (ao : Option Addr) (n ca : Nat) (l : List Hs) (h32 : All32 l) (hl : l.length = n) (hbig : n ≤ 1152921504606846976) (h : Hs) (hh : h.length = 32) (w : World) (hB : BytesAt w bo bs) (hA : HsAt w ao l) :
    Calls Try.prog 5 #[.slice bo bn bc, .slice ao n ca, .agg (c8 h).toArray] w fun e w' => e = .returned (.bool true) ∧ After w w' := by
  obtain ⟨wb, hwb⟩ : ∃ w0, w.alloc (.cells (c8 h).toArray 29) = w0 := ⟨_, rfl⟩
  have H0 : Hid (After w wb ∧ RowIs wb w.heap.size 29 (c8 h)) := by rw [← hwb]; exact ⟨after_alloc (After.refl w) _, RowIs.new w 29 (c8 h)⟩
  have HL : Hid (bs.length = bn ∧ bn ≤ bc ∧ bn ≤ 1152921504606846976 ∧ All32 l ∧ l.length = n ∧ h.length = 32 ∧ BytesAt w bo bs ∧ HsAt w ao l) := ⟨hbl, hbc, hbb, h32, hl, hh, hB, hA⟩
  clear hbl hbc hbb h32 hl hh hB hA
  by_cases hn : n ≤ 1000
  · have HF : Hid (decide (n ≤ 1000) = true) := decide_eq_true hn
    go_enter Try.func5, Try.ntmps5
    go_wp2_with (first
      | (go_at_call 12; refine Calls.mono (rmake_any ao n ca l HL.out.2.2.2.1 HL.out.2.2.2.2.1 (by omega) 7 (by omega) 6 wb (HL.out.2.2.2.2.2.2.2.after H0.out.1)) ?_; rintro e w1 ⟨s, v1, rfl, hs, ho, ha⟩; obtain ⟨B, hB⟩ : ∃ B, mkB s 7 (bitsN 6) = B := ⟨_, rfl⟩; rw [hB] at ho; obtain ⟨a1, c1, rfl, hat, hle, _⟩ := ho.at; have hok : (mkP s 7 (bitsN 6)).Ok := mkP_ok (by have := hs.le; rw [HL.out.2.2.2.2.1] at this; omega) (by omega) (bitsN_ok 6).1 (bitsN_ok 6).2; have hBl := mkB_len hok; rw [hB] at hBl; obtain ⟨K, hK⟩ : ∃ K, B.length = K := ⟨_, rfl⟩; rw [hK] at hle hBl ⊢; have H1 := show Hid (After w w1 ∧ RowIs w1 w.heap.size 29 (c8 h) ∧ BytesAt w1 a1 B ∧ B.length = K ∧ K ≤ c1 ∧ K ≤ 1152921504606846976 ∧ BytesAt w1 bo bs) from ⟨H0.out.1.trans ha, H0.out.2.below ha H0.out.2.lt, hat, hK, hle, by omega, HL.out.2.2.2.2.2.2.1.after (H0.out.1.trans ha)⟩; clear hs ho ha hat hle hok hBl hB hK)
      | (go_at_call 9; refine Calls.mono (few_any ao n ca hbig wb HF.out) ?_; rintro e w0 ⟨rfl, h0⟩; have h0' := h0.symm; clear h0; subst h0'))
    obtain ⟨t1, ht1⟩ : ∃ t, hasB bs h = t := ⟨_, rfl⟩
    obtain ⟨t2, ht2⟩ : ∃ t, hasB B h = t := ⟨_, rfl⟩
    have HT : Hid (hasB bs h = t1 ∧ hasB B h = t2) := ⟨ht1, ht2⟩
    have HRW : Hid (∀ W, After w1 W → RowIs W w.heap.size 29 (c8 h)) := fun W hW => H1.out.2.1.below hW H1.out.2.1.lt
    clear ht1 ht2
    refine wp_region_noPanic ?_
    refine wp_region_held_drew (S := After w1) (by kernel_rfl) (After.drew (After.refl w1)) ?_
    intro hS0
    refine tk 0 14 (.slice bo bn bc) (fuel := 19) rfl (by kernel_rfl) (by kernel_rfl) (by kernel_rfl) (by kernel_rfl) noPanic_false (by kernel_rfl) (fun _ _ => by kernel_rfl) hS0 ?_
    refine tk 1 15 (.agg (c8 h).toArray) (fuel := 18) rfl (by kernel_rfl) (by kernel_rfl) (by kernel_rfl) (by kernel_rfl) noPanic_false (by kernel_rfl) (fun W hW => x_ld29 (x := .tmp 5) (g := w.heap.size) (h := h) HL.out.2.2.2.2.2.1 (by kernel_rfl) (by kernel_rfl) (HRW.out W hW)) hS0 ?_
    refine tk 3 17 (.slice bo bn bc) (fuel := 17) rfl (by kernel_rfl) (by kernel_rfl) (by kernel_rfl) (by kernel_rfl) noPanic_false (by kernel_rfl) (fun _ _ => by kernel_rfl) hS0 ?_
    refine tk 4 18 (.agg (c8 h).toArray) (fuel := 16) rfl (by kernel_rfl) (by kernel_rfl) (by kernel_rfl) (by kernel_rfl) noPanic_false (by kernel_rfl) (fun W hW => x_ld29 (x := .tmp 5) (g := w.heap.size) (h := h) HL.out.2.2.2.2.2.1 (by kernel_rfl) (by kernel_rfl) (HRW.out W hW)) hS0 ?_
    refine tkCall 2 16 17 #[.slice bo bn bc, .agg (c8 h).toArray] (fun v _ => v = .bool t1) (fuel := 15) rfl (by kernel_rfl) (by kernel_rfl) (by kernel_rfl) (fun _ => by kernel_rfl) hS0 ((bhas_any bo bn bc bs h HL.out.2.2.2.2.2.1 HL.out.1 HL.out.2.1 HL.out.2.2.1 _ (H1.out.2.2.2.2.2.2.after hS0)).mono (fun e w' ⟨he, ha⟩ => ⟨_, he, by rw [HT.out.1], ha⟩)) ?_
    rintro v u1 rfl ha1
    have hS1 : After u1 u1 := After.refl _
    have A1 : After w1 u1 := (hS0).trans ha1
    refine tkCall 5 19 18 #[.slice bo bn bc, .agg (c8 h).toArray] (fun v _ => v = .bool t1) (fuel := 14) rfl (by kernel_rfl) (by kernel_rfl) (by kernel_rfl) (fun _ => by kernel_rfl) hS1 ((rhas_any bo bn bc bs h HL.out.2.2.2.2.2.1 HL.out.1 HL.out.2.1 HL.out.2.2.1 _ (H1.out.2.2.2.2.2.2.after A1)).mono (fun e w' ⟨he, ha⟩ => ⟨_, he, by rw [HT.out.1], ha⟩)) ?_
    rintro v u2 rfl ha2
    have hS2 : After u2 u2 := After.refl _
    have A2 : After w1 u2 := (A1).trans ha2
    refine tk 6 20 (.bool true) (fuel := 13) rfl (by kernel_rfl) (by kernel_rfl) (by kernel_rfl) (by kernel_rfl) noPanic_false (by kernel_rfl) (fun W _ => x_eqb (x := .tmp 16) (y := .tmp 19) (b := t1) (by kernel_rfl) (by kernel_rfl) (by kernel_rfl)) hS2 ?_
    refine tk 7 21 (.bool true) (fuel := 12) rfl (by kernel_rfl) (by kernel_rfl) (by kernel_rfl) (by kernel_rfl) noPanic_false (by kernel_rfl) (fun _ _ => by kernel_rfl) hS2 ?_
    refine tk 8 22 (.slice a1 K c1) (fuel := 11) rfl (by kernel_rfl) (by kernel_rfl) (by kernel_rfl) (by kernel_rfl) noPanic_false (by kernel_rfl) (fun _ _ => by kernel_rfl) hS2 ?_
    refine tk 9 23 (.agg (c8 h).toArray) (fuel := 10) rfl (by kernel_rfl) (by kernel_rfl) (by kernel_rfl) (by kernel_rfl) noPanic_false (by kernel_rfl) (fun W hW => x_ld29 (x := .tmp 5) (g := w.heap.size) (h := h) HL.out.2.2.2.2.2.1 (by kernel_rfl) (by kernel_rfl) (HRW.out W (A2.trans hW))) hS2 ?_
    refine tk 11 25 (.slice a1 K c1) (fuel := 9) rfl (by kernel_rfl) (by kernel_rfl) (by kernel_rfl) (by kernel_rfl) noPanic_false (by kernel_rfl) (fun _ _ => by kernel_rfl) hS2 ?_
    refine tk 12 26 (.agg (c8 h).toArray) (fuel := 8) rfl (by kernel_rfl) (by kernel_rfl) (by kernel_rfl) (by kernel_rfl) noPanic_false (by kernel_rfl) (fun W hW => x_ld29 (x := .tmp 5) (g := w.heap.size) (h := h) HL.out.2.2.2.2.2.1 (by kernel_rfl) (by kernel_rfl) (HRW.out W (A2.trans hW))) hS2 ?_
    refine tkCall 10 24 17 #[.slice a1 K c1, .agg (c8 h).toArray] (fun v _ => v = .bool t2) (fuel := 7) rfl (by kernel_rfl) (by kernel_rfl) (by kernel_rfl) (fun _ => by kernel_rfl) hS2 ((bhas_any a1 K c1 B h HL.out.2.2.2.2.2.1 H1.out.2.2.2.1 H1.out.2.2.2.2.1 H1.out.2.2.2.2.2.1 _ (H1.out.2.2.1.after A2)).mono (fun e w' ⟨he, ha⟩ => ⟨_, he, by rw [HT.out.2], ha⟩)) ?_
    rintro v u3 rfl ha3
    have hS3 : After u3 u3 := After.refl _
    have A3 : After w1 u3 := (A2).trans ha3
    refine tkCall 13 27 18 #[.slice a1 K c1, .agg (c8 h).toArray] (fun v _ => v = .bool t2) (fuel := 6) rfl (by kernel_rfl) (by kernel_rfl) (by kernel_rfl) (fun _ => by kernel_rfl) hS3 ((rhas_any a1 K c1 B h HL.out.2.2.2.2.2.1 H1.out.2.2.2.1 H1.out.2.2.2.2.1 H1.out.2.2.2.2.2.1 _ (H1.out.2.2.1.after A3)).mono (fun e w' ⟨he, ha⟩ => ⟨_, he, by rw [HT.out.2], ha⟩)) ?_
    rintro v u4 rfl ha4
    have hS4 : After u4 u4 := After.refl _
    have A4 : After w1 u4 := (A3).trans ha4
    refine tk 14 28 (.bool true) (fuel := 5) rfl (by kernel_rfl) (by kernel_rfl) (by kernel_rfl) (by kernel_rfl) noPanic_false (by kernel_rfl) (fun W _ => x_eqb (x := .tmp 24) (y := .tmp 27) (b := t2) (by kernel_rfl) (by kernel_rfl) (by kernel_rfl)) hS4 ?_
    refine tk 15 29 (.bool true) (fuel := 4) rfl (by kernel_rfl) (by kernel_rfl) (by kernel_rfl) (by kernel_rfl) noPanic_false (by kernel_rfl) (fun _ _ => by kernel_rfl) hS4 ?_
    refine tk 16 30 (.bool true) (fuel := 3) rfl (by kernel_rfl) (by kernel_rfl) (by kernel_rfl) (by kernel_rfl) noPanic_false (by kernel_rfl) (fun _ _ => by kernel_rfl) hS4 ?_
    refine tkCall 17 31 10 #[] (fun v _ => v = .bool true) (fuel := 2) rfl (by kernel_rfl) (by kernel_rfl) (by kernel_rfl) (fun _ => by kernel_rfl) hS4 ((awake_any u4).mono (fun e w' ⟨he, ha⟩ => ⟨_, he, rfl, ha⟩)) ?_
    rintro v u5 rfl ha5
    have hS5 : After u5 u5 := After.refl _
    refine tk 18 32 (.bool true) (fuel := 1) rfl (by kernel_rfl) (by kernel_rfl) (by kernel_rfl) (by kernel_rfl) noPanic_false (by kernel_rfl) (fun _ _ => by kernel_rfl) hS5 ?_
    refine tk 19 6 (.bool true) (fuel := 0) rfl (by kernel_rfl) (by kernel_rfl) (by kernel_rfl) (by kernel_rfl) noPanic_false (by kernel_rfl) (fun _ _ => by kernel_rfl) hS5 ?_
    refine wpAnyH_done (by kernel_rfl) (NoPanic.normal ?_) _
    have HE : Hid (After w u5) := H1.out.1.trans (A4.trans ha5)
    clear hS0 hS1 hS2 hS3 hS4 hS5 ha1 ha2 ha3 ha4 ha5 A1 A2 A3 A4
    go_simp
    go_wp2
    go_ret
    exact ⟨rfl, HE.out⟩
  · have HF : Hid (decide (n ≤ 1000) = false) := decide_eq_false hn
    go_enter Try.func5, Try.ntmps5
    go_wp2_with (first
      | (go_at_call 10; refine Calls.mono (awake_any wb) ?_; rintro e w6 ⟨rfl, ha⟩; have H6 := show Hid (After w w6) from H0.out.1.trans ha; clear ha)
      | (go_at_call 9; refine Calls.mono (few_any ao n ca hbig wb HF.out) ?_; rintro e w0 ⟨rfl, h0⟩; have h0' := h0.symm; clear h0; subst h0'))
    go_ret
    exact ⟨rfl, H6.out⟩
end Go.Proofs.Ytgcgblecendijaa
