/-
  THE WALK OF stemmalaw09.BloomOrder.
-/
import Derived.Test.YtgcgblecendijaaBA
namespace Go.Proofs.Ytgcgblecendijaa
open Go.RowKit Leb
theorem x_subi {o : Oper} {a : Act} {x y : Operand} {w : World} {p r : Int} (hop : o.op = .binOp .sub 3 x y 3) (hx : a.eval x = .int .i64 p) (hy : a.eval y = .int .i64 1) (h : p - 1 = r) (h1 : -1000000000000000000 ≤ p) (h2 : p ≤ 1000000000000000000) : (execOp a.eval o).run Try.prog w = .ok (.value (.int .i64 r)) w := by
  have e : IntKind.i64.wrap (p - 1) = r := by rw [IntKind.wrap_i64]; omega
  unfold execOp
  simp only [hop, hx, hy]
  simp [go_sem, e]
theorem drop_rev {l : List Hs} {j : Nat} {h : Hs} (hj : l[j]? = some h) : (l.drop (j + 1)).reverse ++ [h] = (l.drop j).reverse := by
  have hlt := (List.getElem?_eq_some_iff.1 hj).1
  have : l.drop j = h :: l.drop (j + 1) := by
    rw [List.drop_eq_getElem_cons hlt]
    congr 1
    exact (List.getElem?_eq_some_iff.1 hj).2
  rw [this, List.reverse_cons]

set_option maxRecDepth 100000 in
set_option maxHeartbeats 4000000 in
theorem order_any (ao : Option Addr) (n ca : Nat) (l : List Hs) (h32 : All32 l) (hl : l.length = n) (hbig : n ≤ 1152921504606846976) (seed : Nat) (hsd : seed < 4294967296) (bits : Int) (w : World) (hA : HsAt w ao l) :
    Calls Try.prog 7 #[.slice ao n ca, .int .u32 (seed : Int), .int .i64 bits] w fun e w' => e = .returned (.bool true) ∧ After w w' := by
  have HL : Hid (All32 l ∧ l.length = n ∧ seed < 4294967296 ∧ HsAt w ao l) := ⟨h32, hl, hsd, hA⟩
  clear h32 hl hsd hA
  by_cases hn : n ≤ 1000
  · have HF : Hid (decide (n ≤ 1000) = true) := decide_eq_true hn
    obtain ⟨i0, hi0⟩ : ∃ i : Int, (n : Int) - 1 = i := ⟨_, rfl⟩
    go_enter Try.func7, Try.ntmps7
    go_wp2_with (first
      | (go_at_call 9; refine Calls.mono (few_any ao n ca hbig w HF.out) ?_; rintro e w0 ⟨rfl, h0⟩; have h0' := h0.symm; clear h0; subst h0')
      | (refine wpList_of_run rfl (x_subi (x := .tmp 14) (y := .const (.int .i64 1)) (p := (n : Int)) (r := i0) rfl rfl rfl hi0 (by omega) (by omega)) ?_))
    go_loopw [7, 8] (fun sv i wr => ∃ (m : Nat) (im : Int), m ≤ n ∧ i = .int .i64 im ∧ (m : Int) - 1 = im ∧ Hid (OwnH wr w.heap.size sv (l.drop m).reverse ∧ After w wr)) (fun _ i _ => (intOf i + 1).toNat)
    case atStart => exact ⟨n, i0, Nat.le_refl _, rfl, hi0, by rw [List.drop_eq_nil_of_le (by rw [HL.out.2.1]; exact Nat.le_refl _)]; exact OwnH.nil _ _, After.refl _⟩
    case round =>
      obtain ⟨m, im, hm, rfl, him, HI⟩ := hrel
      obtain ⟨vo, vc, rfl, hvat, _, _, _⟩ := HI.out.1.at
      clear hi0
      by_cases hm0 : m = 0
      · have hki : ¬ (0 : Int) ≤ im := by omega
        have hkg : ¬ im ≥ 0 := by omega
        subst hm0
        obtain ⟨rv, hrv⟩ : ∃ r, l.reverse = r := ⟨_, rfl⟩
        obtain ⟨rn, hrn⟩ : ∃ r, (l.drop 0).reverse.length = r := ⟨_, rfl⟩
        have HO : Hid (OwnH wr w.heap.size (.slice vo rn vc) l.reverse ∧ l.reverse.length = n ∧ rn = n) := by
          have h := HI.out.1
          have hr : rn = n := by rw [← hrn, List.drop_zero, List.length_reverse]; exact HL.out.2.1
          rw [hrn, List.drop_zero] at h
          exact ⟨h, by rw [List.length_reverse]; exact HL.out.2.1, hr⟩
        have HAF : Hid (After w wr) := HI.out.2
        rw [hrn]
        clear him hvat HI hrv hrn
        go_wp2_with (at_builtin; refine wpList_append_hashes rfl _ _ rfl w.heap.size _ l.reverse rfl HO.out.1 ao ca l HL.out.1 n HL.out.2.1 rfl (HL.out.2.2.2.after HAF.out) (by rw [HO.out.2.1, HL.out.2.1]; omega) HAF.out.size ?_; intro v3 w3 ho3 hg3; obtain ⟨o3, c3, rfl, hat3, _, _⟩ := ho3.at; have hl3 : (l.reverse ++ l).length = n + n := (by rw [List.length_append, HO.out.2.1, HL.out.2.1]); rw [hl3]; have H3 := show Hid (After w w3 ∧ HsAt w3 o3 (l.reverse ++ l) ∧ (l.reverse ++ l).length = n + n ∧ All32 (l.reverse ++ l)) from ⟨after_grown HAF.out hg3 (Nat.le_refl _) (fun k hk => (HO.out.1.lt k hk).1), hat3, hl3, All32.app (fun x hx => HL.out.1 x (List.mem_reverse.1 hx)) HL.out.1⟩; clear ho3 hg3 hat3 hl3)
        obtain ⟨m2, hm2⟩ : ∃ m, n + n = m := ⟨_, rfl⟩
        rw [hm2] at H3 ⊢
        have HM2 : Hid (m2 ≤ 65536) := by show m2 ≤ _; omega
        have HMEM : Hid (∀ x, x ∈ l ↔ x ∈ l.reverse ++ l) := fun x => by rw [List.mem_append, List.mem_reverse, or_self]
        clear hm2
        refine wp_region_noPanic ?_
        refine wp_region_held_drew (S := After w3) (by kernel_rfl) (After.drew (After.refl w3)) ?_
        intro hS0
        refine tk 0 30 (.slice ao n ca) (fuel := 14) rfl (by kernel_rfl) (by kernel_rfl) (by kernel_rfl) (by kernel_rfl) noPanic_false (by kernel_rfl) (fun _ _ => by kernel_rfl) hS0 ?_
        refine tk 1 31 (.int .u32 (seed : Int)) (fuel := 13) rfl (by kernel_rfl) (by kernel_rfl) (by kernel_rfl) (by kernel_rfl) noPanic_false (by kernel_rfl) (fun _ _ => by kernel_rfl) hS0 ?_
        refine tk 2 32 (.int .i64 bits) (fuel := 12) rfl (by kernel_rfl) (by kernel_rfl) (by kernel_rfl) (by kernel_rfl) noPanic_false (by kernel_rfl) (fun _ _ => by kernel_rfl) hS0 ?_
        refine tk 5 35 (.slice o3 m2 c3) (fuel := 11) rfl (by kernel_rfl) (by kernel_rfl) (by kernel_rfl) (by kernel_rfl) noPanic_false (by kernel_rfl) (fun _ _ => by kernel_rfl) hS0 ?_
        refine tk 6 36 (.int .u32 (seed : Int)) (fuel := 10) rfl (by kernel_rfl) (by kernel_rfl) (by kernel_rfl) (by kernel_rfl) noPanic_false (by kernel_rfl) (fun _ _ => by kernel_rfl) hS0 ?_
        refine tk 7 37 (.int .i64 bits) (fuel := 9) rfl (by kernel_rfl) (by kernel_rfl) (by kernel_rfl) (by kernel_rfl) noPanic_false (by kernel_rfl) (fun _ _ => by kernel_rfl) hS0 ?_
        refine tkCall 3 33 11 #[.slice ao n ca, .int .u32 (seed : Int), .int .i64 bits] (fun v w' => ∃ s, Srt l s ∧ Own w' w3.heap.size v (mkB s seed (bitsN bits))) (fuel := 8) rfl (by kernel_rfl) (by kernel_rfl) (by kernel_rfl) (fun _ => by kernel_rfl) hS0 ((bmake_any ao n ca l HL.out.1 HL.out.2.1 (by omega) seed HL.out.2.2.1 bits w3.drew (HL.out.2.2.2.after (H3.out.1.trans hS0))).mono (fun e w' ⟨s, v, he, hs, ho, ha⟩ => ⟨v, he, ⟨s, hs, ho⟩, ha⟩)) ?_
        rintro v4 w4 ⟨s, hs, ho4⟩ ha4
        have hS4 : After w4 w4 := After.refl _
        have A4 : After w3 w4 := hS0.trans ha4
        refine tk 4 34 (.string (strOf (mkB s seed (bitsN bits)))) (fuel := 7) rfl (by kernel_rfl) (by kernel_rfl) (by kernel_rfl) (by kernel_rfl) noPanic_false (by kernel_rfl) (fun W hW => x_conv (x := .tmp 33) (by kernel_rfl) (by kernel_rfl) (ho4.convA hW)) hS4 ?_
        refine tkCall 8 38 11 #[.slice o3 m2 c3, .int .u32 (seed : Int), .int .i64 bits] (fun v w' => Own w' w4.heap.size v (mkB s seed (bitsN bits))) (fuel := 6) rfl (by kernel_rfl) (by kernel_rfl) (by kernel_rfl) (fun _ => by kernel_rfl) hS4 ((bmake_any o3 m2 c3 (l.reverse ++ l) H3.out.2.2.2 H3.out.2.2.1 HM2.out seed HL.out.2.2.1 bits w4 (H3.out.2.1.after A4)).mono (fun e w' ⟨s2, v, he, hs2, ho, ha⟩ => ⟨v, he, by rw [hs.eq hs2 HMEM.out]; exact ho, ha⟩)) ?_
        rintro v5 w5 ho5 ha5
        have hS5 : After w5 w5 := After.refl _
        have A5 : After w3 w5 := A4.trans ha5
        refine tk 9 39 (.string (strOf (mkB s seed (bitsN bits)))) (fuel := 5) rfl (by kernel_rfl) (by kernel_rfl) (by kernel_rfl) (by kernel_rfl) noPanic_false (by kernel_rfl) (fun W hW => x_conv (x := .tmp 38) (by kernel_rfl) (by kernel_rfl) (ho5.convA hW)) hS5 ?_
        refine tk 10 40 (.bool true) (fuel := 4) rfl (by kernel_rfl) (by kernel_rfl) (by kernel_rfl) (by kernel_rfl) noPanic_false (by kernel_rfl) (fun W _ => x_streq (s := strOf (mkB s seed (bitsN bits))) (t := strOf (mkB s seed (bitsN bits))) (x := .tmp 34) (y := .tmp 39) (by kernel_rfl) (by kernel_rfl) (by kernel_rfl) rfl) hS5 ?_
        refine tk 11 41 (.bool true) (fuel := 3) rfl (by kernel_rfl) (by kernel_rfl) (by kernel_rfl) (by kernel_rfl) noPanic_false (by kernel_rfl) (fun _ _ => by kernel_rfl) hS5 ?_
        refine tkCall 12 42 10 #[] (fun v _ => v = .bool true) (fuel := 2) rfl (by kernel_rfl) (by kernel_rfl) (by kernel_rfl) (fun _ => by kernel_rfl) hS5 ((awake_any w5).mono (fun e w' ⟨he, ha⟩ => ⟨_, he, rfl, ha⟩)) ?_
        rintro v6 w6 rfl ha6
        have hS6 : After w6 w6 := After.refl _
        refine tk 13 43 (.bool true) (fuel := 1) rfl (by kernel_rfl) (by kernel_rfl) (by kernel_rfl) (by kernel_rfl) noPanic_false (by kernel_rfl) (fun _ _ => by kernel_rfl) hS6 ?_
        refine tk 14 6 (.bool true) (fuel := 0) rfl (by kernel_rfl) (by kernel_rfl) (by kernel_rfl) (by kernel_rfl) noPanic_false (by kernel_rfl) (fun _ _ => by kernel_rfl) hS6 ?_
        refine wpAnyH_done (by kernel_rfl) (NoPanic.normal ?_) _
        have HE : Hid (After w w6) := H3.out.1.trans (A5.trans ha6)
        clear hS0 hS4 hS5 hS6 ha4 ha5 ha6 A4 A5 ho4 ho5 hs
        go_simp
        go_wp2
        go_ret
        exact ⟨rfl, HE.out⟩
      · obtain ⟨j, rfl⟩ : ∃ j, m = j + 1 := ⟨m - 1, by omega⟩
        obtain rfl : im = (j : Int) := by omega
        have hki : (0 : Int) ≤ (j : Int) := by omega
        have hjn : j < n := by omega
        obtain ⟨h, hh⟩ : ∃ h, l[j]? = some h := ⟨_, List.getElem?_eq_getElem (by rw [HL.out.2.1]; exact hjn)⟩
        obtain ⟨b, f, rfl, hrange⟩ := HL.out.2.2.2.get HL.out.1 (by intro e; rw [e] at hh; simp at hh)
        have HH : Hid (h.length = 32 ∧ wr.rangeAt b (f + j * 32) (c8 h) ∧ (l.drop (j + 1)).reverse ++ [h] = (l.drop j).reverse) := ⟨HL.out.1.at hh, range_after (hrange j h hh) HI.out.2, drop_rev hh⟩
        obtain ⟨q, hq⟩ : ∃ q, (l.drop (j + 1)).reverse = q := ⟨_, rfl⟩
        have hql : q.length ≤ n := by rw [← hq, List.length_reverse, List.length_drop, HL.out.2.1]; omega
        rw [hq] at HI HH ⊢
        have hA1 : After w (wr.alloc (.cells (c8 h).toArray 29)) := after_alloc HI.out.2 _
        have HO : Hid (OwnH (wr.alloc (.cells (c8 h).toArray 29)) w.heap.size (.slice vo q.length vc) q ∧ After w (wr.alloc (.cells (c8 h).toArray 29)) ∧ q.length ≤ n) := ⟨HI.out.1.after (after_alloc (After.refl wr) _), hA1, hql⟩
        obtain ⟨qn, hqn⟩ : ∃ k, q.length = k := ⟨_, rfl⟩
        rw [hqn] at HO ⊢
        have HQN : Hid (q.length = qn) := hqn
        clear hh hrange hq hql hA1 hvat hqn him hm0 hm
        go_wp2_with (first
          | (refine wpList_of_run rfl (x_idx22 (x := .tmp 21) (y := .tmp 22) (b := b) (f := f) (n := n) (k := j) rfl rfl rfl hjn) ?_)
          | (refine wpList_of_run rfl (x_ld24 HH.out.1 (x := .tmp 23) (g := b) (p := f + j * 32) rfl rfl HH.out.2.1) ?_)
          | (refine wpList_bs22 rfl (.tmp 24) rfl (h := h) HH.out.1 rfl ?_)
          | (at_builtin; refine wpList_append_hashes rfl _ _ rfl w.heap.size _ q rfl HO.out.1 (some ⟨wr.heap.size, 0, none⟩) 1 [h] (All32.cons HH.out.1 All32.nil) 1 rfl rfl (HsAt.one wr h) (by have := HO.out.2.2; have := HQN.out; simp only [List.length_cons, List.length_nil]; omega) HO.out.2.1.size ?_; intro v3 w3 ho3 hg3; have H3 := show Hid (OwnH w3 w.heap.size v3 (l.drop j).reverse ∧ After w w3) from ⟨by rw [HH.out.2.2] at ho3; exact ho3, after_grown HO.out.2.1 hg3 (Nat.le_refl _) (fun k hk => (HO.out.1.lt k hk).1)⟩; clear ho3 hg3)
          | (refine wpList_of_run rfl (x_subi (x := .tmp 18) (y := .const (.int .i64 1)) (p := (j : Int)) (r := (j : Int) - 1) rfl rfl rfl rfl (by omega) (by omega)) ?_))
        go_roundw
        case rel => exact ⟨j, (j : Int) - 1, by omega, rfl, rfl, H3.out⟩
        case measure => simp [intOf]
  · have HF : Hid (decide (n ≤ 1000) = false) := decide_eq_false hn
    go_enter Try.func7, Try.ntmps7
    go_wp2_with (first
      | (go_at_call 10; refine Calls.mono (awake_any w) ?_; rintro e w6 ⟨rfl, ha⟩; have H6 := show Hid (After w w6) from ha; clear ha)
      | (go_at_call 9; refine Calls.mono (few_any ao n ca hbig w HF.out) ?_; rintro e w0 ⟨rfl, h0⟩; have h0' := h0.symm; clear h0; subst h0'))
    go_ret
    exact ⟨rfl, H6.out⟩
end Go.Proofs.Ytgcgblecendijaa
