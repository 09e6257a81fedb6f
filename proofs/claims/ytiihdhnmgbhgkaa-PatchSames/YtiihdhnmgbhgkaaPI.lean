/-
  A DOCUMENT that has nothing: Check (10), draftOf (15) and what they call.
-/
import Derived.Test.YtiihdhnmgbhgkaaPG
import Derived.Test.YtiihdhnmgbhgkaaNames
namespace Go.Proofs.Ytiihdhnmgbhgkaa
open Go.RowKit Go.Maps Dsk
attribute [local go_sem] Oper.semAt_some
structure MpAt (W : World) (mb : Nat) (l : List (Nm × Value)) : Prop where
  own : W.ownsMap Try.prog 9 Rv mb l.length (.map (toE l))
  ris : rising l
theorem MpAt.after {W W' : World} {mb : Nat} {l : List (Nm × Value)} (h : MpAt W mb l) (ha : After W W') : MpAt W' mb l := ⟨ownsMap_same h.own (ha.block mb h.own.lt), h.ris⟩
theorem MpAt.new (w : World) : MpAt (w.alloc (.map #[] 0)) w.heap.size [] := ⟨World.ownsMap_made w Try.prog 9 Rv, List.Pairwise.nil⟩
set_option maxRecDepth 100000 in
set_option maxHeartbeats 3200000 in
theorem rising20_nil (w : World) : Calls Try.prog 20 #[.slice none 0 0, .func (.func 21) #[] #[]] w fun e w' => e = .returned (.bool true) ∧ After w w' := by
  go_enter Try.func20, Try.ntmps20
  go_wp2_with fail
  go_loopw [11] (fun iv wr => iv = .int .i64 0 ∧ wr = w) (fun _ _ => 0)
  case atStart => exact ⟨rfl, rfl⟩
  case round =>
    obtain ⟨rfl, rfl⟩ := hrel
    go_wp2_with fail
    go_ret
    exact ⟨rfl, After.refl _⟩
set_option maxRecDepth 100000 in
set_option maxHeartbeats 3200000 in
theorem rising22_nil (w : World) : Calls Try.prog 22 #[.slice none 0 0, .func (.func 23) #[] #[]] w fun e w' => e = .returned (.bool true) ∧ After w w' := by
  go_enter Try.func22, Try.ntmps22
  go_wp2_with fail
  go_loopw [11] (fun iv wr => iv = .int .i64 0 ∧ wr = w) (fun _ _ => 0)
  case atStart => exact ⟨rfl, rfl⟩
  case round =>
    obtain ⟨rfl, rfl⟩ := hrel
    go_wp2_with fail
    go_ret
    exact ⟨rfl, After.refl _⟩
set_option maxRecDepth 100000 in
set_option maxHeartbeats 3200000 in
theorem rising24_nil (w : World) : Calls Try.prog 24 #[.slice none 0 0, .func (.func 25) #[] #[]] w fun e w' => e = .returned (.bool true) ∧ After w w' := by
  go_enter Try.func24, Try.ntmps24
  go_wp2_with fail
  go_loopw [11] (fun iv wr => iv = .int .i64 0 ∧ wr = w) (fun _ _ => 0)
  case atStart => exact ⟨rfl, rfl⟩
  case round =>
    obtain ⟨rfl, rfl⟩ := hrel
    go_wp2_with fail
    go_ret
    exact ⟨rfl, After.refl _⟩
set_option maxRecDepth 100000 in
set_option maxHeartbeats 3200000 in
theorem index50_nil (w : World) : Calls Try.prog 50 #[.slice none 0 0, .func (.func 27) #[] #[]] w fun e w' => e = .returned (.int .i64 (-1)) ∧ After w w' := by
  go_enter Try.func50, Try.ntmps50
  go_wp2_with fail
  go_loopw [8] (fun iv wr => iv = .int .i64 0 ∧ wr = w) (fun _ _ => 0)
  case atStart => exact ⟨rfl, rfl⟩
  case round =>
    obtain ⟨rfl, rfl⟩ := hrel
    go_wp2_with fail
    go_ret
    exact ⟨rfl, After.refl _⟩
set_option maxRecDepth 100000 in
set_option maxHeartbeats 3200000 in
theorem index51_nil (w : World) : Calls Try.prog 51 #[.slice none 0 0, .func (.func 29) #[] #[]] w fun e w' => e = .returned (.int .i64 (-1)) ∧ After w w' := by
  go_enter Try.func51, Try.ntmps51
  go_wp2_with fail
  go_loopw [8] (fun iv wr => iv = .int .i64 0 ∧ wr = w) (fun _ _ => 0)
  case atStart => exact ⟨rfl, rfl⟩
  case round =>
    obtain ⟨rfl, rfl⟩ := hrel
    go_wp2_with fail
    go_ret
    exact ⟨rfl, After.refl _⟩
set_option maxRecDepth 100000 in
set_option maxHeartbeats 3200000 in
theorem contains26_nil (w : World) : Calls Try.prog 26 #[.slice none 0 0, .func (.func 27) #[] #[]] w fun e w' => e = .returned (.bool false) ∧ After w w' := by
  go_enter Try.func26, Try.ntmps26
  go_wp2_with (go_at_call 50; refine Calls.mono (index50_nil _) ?_; rintro e w1 ⟨rfl, h1⟩; have H1 := show Hid _ from h1; clear h1)
  go_ret
  exact ⟨rfl, H1.out⟩
set_option maxRecDepth 100000 in
set_option maxHeartbeats 3200000 in
theorem contains28_nil (w : World) : Calls Try.prog 28 #[.slice none 0 0, .func (.func 29) #[] #[]] w fun e w' => e = .returned (.bool false) ∧ After w w' := by
  go_enter Try.func28, Try.ntmps28
  go_wp2_with (go_at_call 51; refine Calls.mono (index51_nil _) ?_; rintro e w1 ⟨rfl, h1⟩; have H1 := show Hid _ from h1; clear h1)
  go_ret
  exact ⟨rfl, H1.out⟩
set_option maxRecDepth 100000 in
set_option maxHeartbeats 3200000 in
theorem check10_nil (w : World) : Calls Try.prog 10 #[.agg #[.slice none 0 0, .slice none 0 0, .slice none 0 0]] w fun e w' => e = .returned (.int .i64 0) ∧ After w w' := by
  obtain ⟨W0, hW0⟩ : ∃ W0, w.alloc (.cells #[.slice none 0 0, .slice none 0 0, .slice none 0 0] 26) = W0 := ⟨_, rfl⟩
  have HR : Hid (RowIs W0 w.heap.size 26 [.slice none 0 0, .slice none 0 0, .slice none 0 0] ∧ After w W0) := by rw [← hW0]; exact ⟨RowIs.new w 26 _, after_alloc (After.refl w) _⟩
  have c0 := HR.out.1.cell (j := 0) rfl
  have c1 := HR.out.1.cell (j := 1) rfl
  have c2 := HR.out.1.cell (j := 2) rfl
  go_enter Try.func10, Try.ntmps10
  go_wp2_with (first
    | (rw [hW0])
    | (go_at_call 20; refine Calls.mono (rising20_nil _) ?_; rintro e w1 ⟨rfl, h1⟩; have H1 := show Hid (After W0 w1) from h1; clear h1; have d10 := (HR.out.1.below (H1.out) HR.out.1.lt).cell (j := 0) rfl; have d11 := (HR.out.1.below (H1.out) HR.out.1.lt).cell (j := 1) rfl; have d12 := (HR.out.1.below (H1.out) HR.out.1.lt).cell (j := 2) rfl)
    | (go_at_call 22; refine Calls.mono (rising22_nil _) ?_; rintro e w2 ⟨rfl, h2⟩; have H2 := show Hid (After w1 w2) from h2; clear h2; have d20 := (HR.out.1.below ((H1.out.trans H2.out)) HR.out.1.lt).cell (j := 0) rfl; have d21 := (HR.out.1.below ((H1.out.trans H2.out)) HR.out.1.lt).cell (j := 1) rfl; have d22 := (HR.out.1.below ((H1.out.trans H2.out)) HR.out.1.lt).cell (j := 2) rfl)
    | (go_at_call 24; refine Calls.mono (rising24_nil _) ?_; rintro e w3 ⟨rfl, h3⟩; have H3 := show Hid (After w2 w3) from h3; clear h3; have d30 := (HR.out.1.below (((H1.out.trans H2.out).trans H3.out)) HR.out.1.lt).cell (j := 0) rfl; have d31 := (HR.out.1.below (((H1.out.trans H2.out).trans H3.out)) HR.out.1.lt).cell (j := 1) rfl; have d32 := (HR.out.1.below (((H1.out.trans H2.out).trans H3.out)) HR.out.1.lt).cell (j := 2) rfl)
    | (go_at_call 26; refine Calls.mono (contains26_nil _) ?_; rintro e w4 ⟨rfl, h4⟩; have H4 := show Hid (After w3 w4) from h4; clear h4; have d40 := (HR.out.1.below ((((H1.out.trans H2.out).trans H3.out).trans H4.out)) HR.out.1.lt).cell (j := 0) rfl; have d41 := (HR.out.1.below ((((H1.out.trans H2.out).trans H3.out).trans H4.out)) HR.out.1.lt).cell (j := 1) rfl; have d42 := (HR.out.1.below ((((H1.out.trans H2.out).trans H3.out).trans H4.out)) HR.out.1.lt).cell (j := 2) rfl)
    | (go_at_call 28; refine Calls.mono (contains28_nil _) ?_; rintro e w5 ⟨rfl, h5⟩; have H5 := show Hid (After w4 w5) from h5; clear h5; have d50 := (HR.out.1.below (((((H1.out.trans H2.out).trans H3.out).trans H4.out).trans H5.out)) HR.out.1.lt).cell (j := 0) rfl; have d51 := (HR.out.1.below (((((H1.out.trans H2.out).trans H3.out).trans H4.out).trans H5.out)) HR.out.1.lt).cell (j := 1) rfl; have d52 := (HR.out.1.below (((((H1.out.trans H2.out).trans H3.out).trans H4.out).trans H5.out)) HR.out.1.lt).cell (j := 2) rfl))
  go_ret
  exact ⟨rfl, HR.out.2.trans ((((H1.out.trans H2.out).trans H3.out).trans H4.out).trans H5.out)⟩
set_option maxRecDepth 100000 in
set_option maxHeartbeats 3200000 in
theorem byName34_nil (w : World) : Calls Try.prog 34 #[.slice none 0 0, .func (.func 21) #[] #[]] w fun e w' => e = .returned (.map (some w.heap.size)) ∧ w' = w.alloc (.map #[] 0) := by
  have hmm := run_makeMap (P := Try.prog) 76 w
  go_enter Try.func34, Try.ntmps34
  go_wp2_with fail
  go_loopw [11] (fun iv wr => iv = .int .i64 0 ∧ wr = w.alloc (.map #[] 0)) (fun _ _ => 0)
  case atStart => exact ⟨rfl, rfl⟩
  case round =>
    obtain ⟨rfl, rfl⟩ := hrel
    go_wp2_with fail
    go_ret
    exact ⟨rfl, rfl⟩
set_option maxRecDepth 100000 in
set_option maxHeartbeats 3200000 in
theorem byName35_nil (w : World) : Calls Try.prog 35 #[.slice none 0 0, .func (.func 23) #[] #[]] w fun e w' => e = .returned (.map (some w.heap.size)) ∧ w' = w.alloc (.map #[] 0) := by
  have hmm := run_makeMap (P := Try.prog) 78 w
  go_enter Try.func35, Try.ntmps35
  go_wp2_with fail
  go_loopw [11] (fun iv wr => iv = .int .i64 0 ∧ wr = w.alloc (.map #[] 0)) (fun _ _ => 0)
  case atStart => exact ⟨rfl, rfl⟩
  case round =>
    obtain ⟨rfl, rfl⟩ := hrel
    go_wp2_with fail
    go_ret
    exact ⟨rfl, rfl⟩
/-- A draft in memory. -/
structure DrAt (W : World) (B gd me mc mt : Nat) (E C T : List (Nm × Value)) : Prop where
  row : RowIs W gd 81 [.map (some me), .map (some mc), .map (some mt)]
  e : MpAt W me E
  c : MpAt W mc C
  t : MpAt W mt T
  ne : me ≠ mc ∧ me ≠ mt ∧ mc ≠ mt
  ge : B ≤ gd ∧ B ≤ me ∧ B ≤ mc ∧ B ≤ mt
theorem DrAt.after {W W' : World} {B gd me mc mt : Nat} {E C T : List (Nm × Value)} (h : DrAt W B gd me mc mt E C T) (ha : After W W') : DrAt W' B gd me mc mt E C T := ⟨h.row.below ha h.row.lt, h.e.after ha, h.c.after ha, h.t.after ha, h.ne, h.ge⟩
section
variable {oi : Oper} {a : Act} {w : World}
theorem x_bld81 {x y z : Operand} {p q r : Nat} (hop : oi.op = .build 81 #[(0, x), (1, y), (2, z)]) (hx : a.eval x = .map (some p)) (hy : a.eval y = .map (some q)) (hz : a.eval z = .map (some r)) : (execOp a.eval oi).run Try.prog w = .ok (.value (.agg #[.map (some p), .map (some q), .map (some r)])) w := by
  have h := run_build (P := Try.prog) w 81 #[(0, .map (some p)), (1, .map (some q)), (2, .map (some r))] #[.map (some p), .map (some q), .map (some r)] (by kernel_rfl)
  unfold execOp
  simp only [hop]
  simp [hx, hy, hz, h]
theorem x_box81 {x : Operand} {p q r : Nat} (hop : oi.op = .box 81 x) (hx : a.eval x = .agg #[.map (some p), .map (some q), .map (some r)]) : (execOp a.eval oi).run Try.prog w = .ok (.value (.pointer (some ⟨w.heap.size, 0, none⟩))) (w.alloc (.cells #[.map (some p), .map (some q), .map (some r)] 81)) := by
  unfold execOp
  simp only [hop, hx]
  simp [go_sem, Value.cells]
end
set_option maxRecDepth 100000 in
set_option maxHeartbeats 3200000 in
theorem draftOf15_nil (w : World) : Calls Try.prog 15 #[.agg #[.slice none 0 0, .slice none 0 0, .slice none 0 0]] w fun e w' => ∃ gd me mc mt, e = .returned (.pointer (some ⟨gd, 0, none⟩)) ∧ DrAt w' w.heap.size gd me mc mt [] [] [] ∧ After w w' := by
  obtain ⟨W0, hW0⟩ : ∃ W0, w.alloc (.cells #[.slice none 0 0, .slice none 0 0, .slice none 0 0] 26) = W0 := ⟨_, rfl⟩
  obtain ⟨g1, hg1⟩ : ∃ g1, w.heap.size = g1 := ⟨_, rfl⟩
  obtain ⟨mt, hmt⟩ : ∃ mt, W0.heap.size = mt := ⟨_, rfl⟩
  obtain ⟨W1, hW1⟩ : ∃ W1, W0.alloc (.map #[] 0) = W1 := ⟨_, rfl⟩
  have a0 : After w W0 := by rw [← hW0]; exact after_alloc (After.refl w) _
  have a1 : After W0 W1 := by rw [← hW1]; exact after_alloc (After.refl W0) _
  have r0 : RowIs W0 g1 26 [.slice none 0 0, .slice none 0 0, .slice none 0 0] := by rw [← hW0, ← hg1]; exact RowIs.new w 26 _
  have HR : Hid (RowIs W1 g1 26 [.slice none 0 0, .slice none 0 0, .slice none 0 0] ∧ After w W1 ∧ MpAt W1 mt [] ∧ w.heap.size ≤ mt) := ⟨r0.below a1 r0.lt, a0.trans a1, by rw [← hW1, ← hmt]; exact MpAt.new W0, by rw [← hmt]; exact a0.size⟩
  have c2 := HR.out.1.cell (j := 2) rfl
  have hmm := run_makeMap (P := Try.prog) 72 W0
  rw [hW1, hmt] at hmm
  clear a0 a1 r0
  go_enter Try.func15, Try.ntmps15
  go_wp2_with (first
    | (rw [hW0]))
  go_loopw [10] (fun iv wr => iv = .int .i64 0 ∧ wr = W1) (fun _ _ => 0)
  case atStart => exact ⟨rfl, rfl⟩
  case round =>
    obtain ⟨rfl, hwr⟩ := hrel
    rw [hwr]
    clear hwr
    go_wp2_with fail
    refine wp_region_noPanic ?_
    refine wp_region_held_drew (S := After W1) (by kernel_rfl) (After.drew (After.refl _)) ?_
    intro hS0
    refine tk 0 21 (.pointer (some ⟨g1, 0, none⟩)) (fuel := 9) rfl (by kernel_rfl) (by kernel_rfl) (by kernel_rfl) (by kernel_rfl) noPanic_false (by kernel_rfl) (fun _ _ => by kernel_rfl) hS0 ?_
    refine tk 1 22 (.slice none 0 0) (fuel := 8) rfl (by kernel_rfl) (by kernel_rfl) (by kernel_rfl) (by kernel_rfl) noPanic_false (by kernel_rfl) (fun W hW => x_loadT (x := .tmp 21) (t := 22) (g := g1) (j := 0) Try.underlying22 rfl (by kernel_rfl) (by kernel_rfl) ((HR.out.1.below hW HR.out.1.lt).cell (j := 0) rfl)) hS0 ?_
    refine tk 3 24 (.pointer (some ⟨g1, 1, none⟩)) (fuel := 7) rfl (by kernel_rfl) (by kernel_rfl) (by kernel_rfl) (by kernel_rfl) noPanic_false (by kernel_rfl) (fun _ _ => by kernel_rfl) hS0 ?_
    refine tk 4 25 (.slice none 0 0) (fuel := 6) rfl (by kernel_rfl) (by kernel_rfl) (by kernel_rfl) (by kernel_rfl) noPanic_false (by kernel_rfl) (fun W hW => x_loadT (x := .tmp 24) (t := 23) (g := g1) (j := 1) Try.underlying23 rfl (by kernel_rfl) (by kernel_rfl) ((HR.out.1.below hW HR.out.1.lt).cell (j := 1) rfl)) hS0 ?_
    refine tk 6 27 (.map (some mt)) (fuel := 5) rfl (by kernel_rfl) (by kernel_rfl) (by kernel_rfl) (by kernel_rfl) noPanic_false (by kernel_rfl) (fun _ _ => by kernel_rfl) hS0 ?_
    refine tkCallZ 2 23 34 #[.slice none 0 0, .func (.func 21) #[] #[]] (fun v w' => v = .map (some W1.drew.heap.size) ∧ w' = W1.drew.alloc (.map #[] 0)) (fuel := 4) rfl (by kernel_rfl) (by kernel_rfl) (by kernel_rfl) (fun _ => by kernel_rfl) (Calls.mono (byName34_nil _) (fun e w' ⟨he, hw⟩ => ⟨_, he, rfl, hw⟩)) ?_
    intro v2 w2 ⟨hv2, hw2⟩
    subst hv2
    have a2 : After W1 w2 := by rw [hw2]; exact after_alloc hS0 _
    refine ⟨a2, ?_⟩
    refine tkCallZ 5 26 35 #[.slice none 0 0, .func (.func 23) #[] #[]] (fun v w' => v = .map (some w2.heap.size) ∧ w' = w2.alloc (.map #[] 0)) (fuel := 3) rfl (by kernel_rfl) (by kernel_rfl) (by kernel_rfl) (fun _ => by kernel_rfl) (Calls.mono (byName35_nil _) (fun e w' ⟨he, hw⟩ => ⟨_, he, rfl, hw⟩)) ?_
    intro v3 w3 ⟨hv3, hw3⟩
    subst hv3
    have a23 : After w2 w3 := by rw [hw3]; exact after_alloc (After.refl w2) _
    have a3 : After W1 w3 := a2.trans a23
    refine ⟨a3, ?_⟩
    refine tk 7 28 (.agg #[.map (some W1.drew.heap.size), .map (some w2.heap.size), .map (some mt)]) (fuel := 2) rfl (by kernel_rfl) (by kernel_rfl) (by kernel_rfl) (by kernel_rfl) noPanic_false (by kernel_rfl) (fun W _ => x_bld81 (x := .tmp 23) (y := .tmp 26) (z := .tmp 27) (by kernel_rfl) (by kernel_rfl) (by kernel_rfl) (by kernel_rfl)) a3 ?_
    refine tkRunS 8 29 (.pointer (some ⟨w3.heap.size, 0, none⟩)) (w3.alloc (.cells #[.map (some W1.drew.heap.size), .map (some w2.heap.size), .map (some mt)] 81)) (fuel := 1) rfl (by kernel_rfl) (by kernel_rfl) (by kernel_rfl) (x_box81 (x := .tmp 28) (by kernel_rfl) (by kernel_rfl)) (after_alloc a3 _) ?_
    refine tk 9 2 (.pointer (some ⟨w3.heap.size, 0, none⟩)) (fuel := 0) rfl (by kernel_rfl) (by kernel_rfl) (by kernel_rfl) (by kernel_rfl) noPanic_false (by kernel_rfl) (fun _ _ => by kernel_rfl) (after_alloc a3 _) ?_
    refine wpAnyH_done (by kernel_rfl) (NoPanic.normal ?_) _
    have n2 : MpAt w2 W1.drew.heap.size [] := by rw [hw2]; exact MpAt.new _
    have n3 : MpAt w3 w2.heap.size [] := by rw [hw3]; exact MpAt.new _
    obtain ⟨W4, hW4⟩ : ∃ W4, w3.alloc (.cells #[.map (some W1.drew.heap.size), .map (some w2.heap.size), .map (some mt)] 81) = W4 := ⟨_, rfl⟩
    have a34 : After w3 W4 := by rw [← hW4]; exact after_alloc (After.refl w3) _
    have r4 : RowIs W4 w3.heap.size 81 [.map (some W1.drew.heap.size), .map (some w2.heap.size), .map (some mt)] := by rw [← hW4]; exact RowIs.new w3 81 _
    have l1 : mt < W1.heap.size := HR.out.2.2.1.own.lt
    have l2 : W1.drew.heap.size = W1.heap.size := rfl
    have l3 : W1.drew.heap.size < w2.heap.size := n2.own.lt
    have l4 := HR.out.2.1.size
    have l5 := a23.size
    have HD := show Hid (DrAt W4 w.heap.size w3.heap.size W1.drew.heap.size w2.heap.size mt [] [] [] ∧ After w W4) from ⟨⟨r4, (n2.after a23).after a34, n3.after a34, HR.out.2.2.1.after (a3.trans a34), ⟨by omega, by omega, by omega⟩, by have := HR.out.2.2.2; refine ⟨?_, ?_, ?_, ?_⟩ <;> omega⟩, HR.out.2.1.trans (a3.trans a34)⟩
    rw [hW4]
    clear hS0 a2 a23 a3 hw2 hw3 n2 n3 hW4 a34 r4 l1 l2 l3 l4 l5
    go_simp
    go_wp2_with fail
    go_ret
    exact ⟨_, _, _, _, rfl, HD.out⟩
end Go.Proofs.Ytiihdhnmgbhgkaa
