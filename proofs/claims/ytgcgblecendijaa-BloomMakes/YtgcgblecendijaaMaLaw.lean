/-
  THE WALK OF stemmalaw09.BloomMakes.
-/
import Derived.Test.YtgcgblecendijaaRK
namespace Go.Proofs.Ytgcgblecendijaa
open Go.RowKit Leb
theorem OwnH.fresh (w : World) : OwnH (w.alloc (.cells #[] 29)) w.heap.size (.slice (some ⟨w.heap.size, 0, none⟩) 0 0) [] :=
  ⟨rfl, .inr ⟨w.heap.size, 0, #[], rfl, Nat.le_refl _, heap_alloc_new w _, Nat.le_refl _, Nat.zero_le _, rfl, rfl⟩⟩
theorem x_ne29 {o : Oper} {a : Act} {x y : Operand} {w : World} {h : Hs} (hh : h.length = 32) (hop : o.op = .binOp .neq 29 x y 29) (hx : a.eval x = hv h) (hy : a.eval y = hv h) : (execOp a.eval o).run Try.prog w = .ok (.value (.bool false)) w := by
  have := x_ne24 (w := w) hh hh hop hx hy
  simpa using this

set_option maxRecDepth 100000 in
set_option maxHeartbeats 6000000 in
theorem makes_any (ao : Option Addr) (n ca : Nat) (l : List Hs) (h32 : All32 l) (hl : l.length = n) (hbig : n ≤ 1152921504606846976) (seed : Nat) (hsd : seed < 4294967296) (bits : Int) (w : World) (hA : HsAt w ao l) :
    Calls Try.prog 3 #[.slice ao n ca, .int .u32 (seed : Int), .int .i64 bits] w fun e w' => e = .returned (.bool true) ∧ After w w' := by
  have HL : Hid (All32 l ∧ l.length = n ∧ seed < 4294967296 ∧ HsAt w ao l) := ⟨h32, hl, hsd, hA⟩
  clear h32 hl hsd hA
  by_cases hn : n ≤ 1000
  · have HF : Hid (decide (n ≤ 1000) = true) := decide_eq_true hn
    go_enter Try.func3, Try.ntmps3
    go_wp2_with (first
      | (go_at_call 11; refine Calls.mono (bmake_any o1 n c1 l HL.out.1 HL.out.2.1 (by omega) seed HL.out.2.2.1 bits w1 H1.out.2) ?_; rintro e w2 ⟨s, v2, rfl, hs, ho, ha⟩; have H2 := show Hid (After w w2 ∧ HsAt w2 o1 l ∧ Srt l s ∧ Own w2 w1.heap.size v2 (mkB s seed (bitsN bits))) from ⟨H1.out.1.trans ha, H1.out.2.after ha, hs, ho⟩; clear hs ho ha)
      | (at_builtin; refine wpList_append_hashes rfl _ _ rfl w.heap.size _ [] rfl (OwnH.fresh w) ao ca l HL.out.1 n HL.out.2.1 rfl (HL.out.2.2.2.after (after_alloc (After.refl w) _)) (by rw [HL.out.2.1]; simp only [List.length_nil]; omega) (after_alloc (After.refl w) _).size ?_; intro v1 w1 ho1 hg1; rw [List.nil_append] at ho1; obtain ⟨o1, c1, rfl, hat1, _⟩ := ho1.at; rw [HL.out.2.1]; have H1 := show Hid (After w w1 ∧ HsAt w1 o1 l) from ⟨after_grown (after_alloc (After.refl w) (.cells #[] 29)) hg1 (Nat.le_refl _) (fun k hk => ((OwnH.fresh w).lt k hk).1), hat1⟩; clear ho1 hg1 hat1)
      | (go_at_call 9; refine Calls.mono (few_any ao n ca hbig w HF.out) ?_; rintro e w0 ⟨rfl, h0⟩; have h0' := h0.symm; clear h0; subst h0'))
    go_loopw [9] (fun i wr => ∃ (k : Nat), k ≤ n ∧ i = .int .i64 k ∧ Hid (After w2 wr)) (fun i _ => n - (intOf i).toNat)
    case atStart => exact ⟨0, by omega, rfl, After.refl _⟩
    case round =>
      obtain ⟨k, hk, rfl, HA⟩ := hrel
      by_cases hlt : k < n
      · have hki : (k : Int) < (n : Int) := by omega
        obtain ⟨h, hh⟩ : ∃ h, l[k]? = some h := ⟨_, List.getElem?_eq_getElem (by rw [HL.out.2.1]; exact hlt)⟩
        have hne : l ≠ [] := by intro e; rw [e] at hh; simp at hh
        obtain ⟨b, f, rfl, hrange⟩ := HL.out.2.2.2.get HL.out.1 hne
        obtain ⟨b2, f2, rfl, hrange2⟩ := H2.out.2.1.get HL.out.1 hne
        have HH : Hid (h.length = 32 ∧ (∀ W, After wr W → W.rangeAt b (f + k * 32) (c8 h)) ∧ (∀ W, After wr W → W.rangeAt b2 (f2 + k * 32) (c8 h))) := ⟨HL.out.1.at hh, fun W hW => range_after (hrange k h hh) (H2.out.1.trans (HA.out.trans hW)), fun W hW => range_after (hrange2 k h hh) (HA.out.trans hW)⟩
        clear hh hrange hrange2 hne
        go_wp2_with fail
        refine wp_region_noPanic ?_
        refine wp_region_held_drew (S := After wr) (by kernel_rfl) (After.drew (After.refl wr)) ?_
        intro hS0
        refine tk 0 27 (.slice (some ⟨b2, f2, none⟩) n c1) (fuel := 8) rfl (by kernel_rfl) (by kernel_rfl) (by kernel_rfl) (by kernel_rfl) noPanic_false (by kernel_rfl) (fun _ _ => by kernel_rfl) hS0 ?_
        refine tk 1 28 (.int .i64 (k : Int)) (fuel := 7) rfl (by kernel_rfl) (by kernel_rfl) (by kernel_rfl) (by kernel_rfl) noPanic_false (by kernel_rfl) (fun _ _ => by kernel_rfl) hS0 ?_
        refine tk 2 29 (.pointer (some ⟨b2, f2 + k * 32, none⟩)) (fuel := 6) rfl (by kernel_rfl) (by kernel_rfl) (by kernel_rfl) (by kernel_rfl) noPanic_false (by kernel_rfl) (fun W _ => x_idx22 (x := .tmp 27) (y := .tmp 28) (b := b2) (f := f2) (n := n) (c := c1) (k := k) (by kernel_rfl) (by kernel_rfl) (by kernel_rfl) hlt) hS0 ?_
        refine tk 3 30 (hv h) (fuel := 5) rfl (by kernel_rfl) (by kernel_rfl) (by kernel_rfl) (by kernel_rfl) noPanic_false (by kernel_rfl) (fun W hW => x_ld24 HH.out.1 (x := .tmp 29) (g := b2) (p := f2 + k * 32) (by kernel_rfl) (by kernel_rfl) (HH.out.2.2 W hW)) hS0 ?_
        refine tk 4 31 (.slice (some ⟨b, f, none⟩) n ca) (fuel := 4) rfl (by kernel_rfl) (by kernel_rfl) (by kernel_rfl) (by kernel_rfl) noPanic_false (by kernel_rfl) (fun _ _ => by kernel_rfl) hS0 ?_
        refine tk 5 32 (.int .i64 (k : Int)) (fuel := 3) rfl (by kernel_rfl) (by kernel_rfl) (by kernel_rfl) (by kernel_rfl) noPanic_false (by kernel_rfl) (fun _ _ => by kernel_rfl) hS0 ?_
        refine tk 6 33 (.pointer (some ⟨b, f + k * 32, none⟩)) (fuel := 2) rfl (by kernel_rfl) (by kernel_rfl) (by kernel_rfl) (by kernel_rfl) noPanic_false (by kernel_rfl) (fun W _ => x_idx22 (x := .tmp 31) (y := .tmp 32) (b := b) (f := f) (n := n) (c := ca) (k := k) (by kernel_rfl) (by kernel_rfl) (by kernel_rfl) hlt) hS0 ?_
        refine tk 7 34 (hv h) (fuel := 1) rfl (by kernel_rfl) (by kernel_rfl) (by kernel_rfl) (by kernel_rfl) noPanic_false (by kernel_rfl) (fun W hW => x_ld24 HH.out.1 (x := .tmp 33) (g := b) (p := f + k * 32) (by kernel_rfl) (by kernel_rfl) (HH.out.2.1 W hW)) hS0 ?_
        refine tk 8 35 (.bool false) (fuel := 0) rfl (by kernel_rfl) (by kernel_rfl) (by kernel_rfl) (by kernel_rfl) noPanic_false (by kernel_rfl) (fun W _ => x_ne29 HH.out.1 (x := .tmp 30) (y := .tmp 34) (by kernel_rfl) (by kernel_rfl) (by kernel_rfl)) hS0 ?_
        refine wpAnyH_done (by kernel_rfl) (NoPanic.normal ?_) _
        have HS : Hid (After w2 wr.drew) := HA.out.trans hS0
        clear hS0
        go_simp
        go_wp2
        go_roundw
        case rel => exact ⟨k + 1, by omega, by go_num, HS.out⟩
        case measure => simp [intOf]; omega
      · obtain rfl : k = n := by omega
        have hki : ¬ (k : Int) < (k : Int) := by omega
        have HO : Hid (∀ W, After wr W → (convert 26 9 v2).run Try.prog W = .ok (.string (strOf (mkB s seed (bitsN bits)))) W) := fun W hW => H2.out.2.2.2.convA (HA.out.trans hW)
        go_wp2_with fail
        refine wp_region_noPanic ?_
        refine wp_region_held_drew (S := After wr) (by kernel_rfl) (After.drew (After.refl wr)) ?_
        intro hS0
        refine tk 0 36 (v2) (fuel := 11) rfl (by kernel_rfl) (by kernel_rfl) (by kernel_rfl) (by kernel_rfl) noPanic_false (by kernel_rfl) (fun _ _ => by kernel_rfl) hS0 ?_
        refine tk 1 37 (.string (strOf (mkB s seed (bitsN bits)))) (fuel := 10) rfl (by kernel_rfl) (by kernel_rfl) (by kernel_rfl) (by kernel_rfl) noPanic_false (by kernel_rfl) (fun W hW => x_conv (x := .tmp 36) (by kernel_rfl) (by kernel_rfl) (HO.out W hW)) hS0 ?_
        refine tk 2 38 (.slice ao k ca) (fuel := 9) rfl (by kernel_rfl) (by kernel_rfl) (by kernel_rfl) (by kernel_rfl) noPanic_false (by kernel_rfl) (fun _ _ => by kernel_rfl) hS0 ?_
        refine tk 3 39 (.int .u32 (seed : Int)) (fuel := 8) rfl (by kernel_rfl) (by kernel_rfl) (by kernel_rfl) (by kernel_rfl) noPanic_false (by kernel_rfl) (fun _ _ => by kernel_rfl) hS0 ?_
        refine tk 4 40 (.int .i64 bits) (fuel := 7) rfl (by kernel_rfl) (by kernel_rfl) (by kernel_rfl) (by kernel_rfl) noPanic_false (by kernel_rfl) (fun _ _ => by kernel_rfl) hS0 ?_
        refine tkCall 5 41 12 #[.slice ao k ca, .int .u32 (seed : Int), .int .i64 bits] (fun v w' => Own w' wr.heap.size v (mkB s seed (bitsN bits))) (fuel := 6) rfl (by kernel_rfl) (by kernel_rfl) (by kernel_rfl) (fun _ => by kernel_rfl) hS0 ((rmake_any ao k ca l HL.out.1 HL.out.2.1 (by omega) seed HL.out.2.2.1 bits wr.drew (HL.out.2.2.2.after (H2.out.1.trans (HA.out.trans hS0)))).mono (fun e w' ⟨s2, v, he, hs2, ho, ha⟩ => ⟨v, he, by rw [H2.out.2.2.1.eq hs2 (fun _ => Iff.rfl)]; exact ho, ha⟩)) ?_
        rintro v5 w5 ho5 ha5
        have hS5 : After w5 w5 := After.refl _
        refine tk 6 42 (.string (strOf (mkB s seed (bitsN bits)))) (fuel := 5) rfl (by kernel_rfl) (by kernel_rfl) (by kernel_rfl) (by kernel_rfl) noPanic_false (by kernel_rfl) (fun W hW => x_conv (x := .tmp 41) (by kernel_rfl) (by kernel_rfl) (ho5.convA hW)) hS5 ?_
        refine tk 7 43 (.bool true) (fuel := 4) rfl (by kernel_rfl) (by kernel_rfl) (by kernel_rfl) (by kernel_rfl) noPanic_false (by kernel_rfl) (fun W _ => x_streq (s := strOf (mkB s seed (bitsN bits))) (t := strOf (mkB s seed (bitsN bits))) (x := .tmp 37) (y := .tmp 42) (by kernel_rfl) (by kernel_rfl) (by kernel_rfl) rfl) hS5 ?_
        refine tk 8 44 (.bool true) (fuel := 3) rfl (by kernel_rfl) (by kernel_rfl) (by kernel_rfl) (by kernel_rfl) noPanic_false (by kernel_rfl) (fun _ _ => by kernel_rfl) hS5 ?_
        refine tkCall 9 45 10 #[] (fun v _ => v = .bool true) (fuel := 2) rfl (by kernel_rfl) (by kernel_rfl) (by kernel_rfl) (fun _ => by kernel_rfl) hS5 ((awake_any w5).mono (fun e w' ⟨he, ha⟩ => ⟨_, he, rfl, ha⟩)) ?_
        rintro v6 w6 rfl ha6
        have hS6 : After w6 w6 := After.refl _
        refine tk 10 46 (.bool true) (fuel := 1) rfl (by kernel_rfl) (by kernel_rfl) (by kernel_rfl) (by kernel_rfl) noPanic_false (by kernel_rfl) (fun _ _ => by kernel_rfl) hS6 ?_
        refine tk 11 6 (.bool true) (fuel := 0) rfl (by kernel_rfl) (by kernel_rfl) (by kernel_rfl) (by kernel_rfl) noPanic_false (by kernel_rfl) (fun _ _ => by kernel_rfl) hS6 ?_
        refine wpAnyH_done (by kernel_rfl) (NoPanic.normal ?_) _
        have HE : Hid (After w w6) := H2.out.1.trans (HA.out.trans ((hS0.trans ha5).trans ha6))
        clear hS0 hS5 hS6 ha5 ha6 ho5
        go_simp
        go_wp2
        go_ret
        exact ⟨rfl, HE.out⟩
  · have HF : Hid (decide (n ≤ 1000) = false) := decide_eq_false hn
    go_enter Try.func3, Try.ntmps3
    go_wp2_with (first
      | (go_at_call 10; refine Calls.mono (awake_any w) ?_; rintro e w6 ⟨rfl, ha⟩; have H6 := show Hid (After w w6) from ha; clear ha)
      | (go_at_call 9; refine Calls.mono (few_any ao n ca hbig w HF.out) ?_; rintro e w0 ⟨rfl, h0⟩; have h0' := h0.symm; clear h0; subst h0'))
    go_ret
    exact ⟨rfl, H6.out⟩
end Go.Proofs.Ytgcgblecendijaa
