/-
  own (18), and the walk of RgaLess (5).
-/
import Derived.Test.YtiglenomigipmaaRU
namespace Go.Proofs.Ytiglenomigipmaa
open Go.RowKit Go.Shelf
set_option maxRecDepth 100000 in
theorem built37 {b : H} (h32 : b.length = 32) (c : Int) : Try.prog.built 37 [(0, .int .i64 c), (1, .agg (c8 b).toArray)] = some (Value.int .i64 c :: c8 b).toArray := by
  obtain ⟨b0, b1, b2, b3, b4, b5, b6, b7, b8, b9, b10, b11, b12, b13, b14, b15, b16, b17, b18, b19, b20, b21, b22, b23, b24, b25, b26, b27, b28, b29, b30, b31, rfl⟩ := len32 h32
  kernel_rfl
set_option maxRecDepth 100000 in
theorem built40 {b : H} (h32 : b.length = 32) (c : Int) : Try.prog.built 40 [(0, .int .i64 c), (1, .agg (c8 b).toArray)] = some (Value.int .i64 c :: c8 b).toArray := by
  obtain ⟨b0, b1, b2, b3, b4, b5, b6, b7, b8, b9, b10, b11, b12, b13, b14, b15, b16, b17, b18, b19, b20, b21, b22, b23, b24, b25, b26, b27, b28, b29, b30, b31, rfl⟩ := len32 h32
  kernel_rfl
section
variable {oi : Oper} {a : Act} {w : World}
theorem x_bid37 {x y : Operand} {z : Idn} (hz : z.Ok) (hop : oi.op = .build 37 #[(0, x), (1, y)]) (hx : a.eval x = .int .i64 z.c) (hy : a.eval y = .agg (c8 z.b).toArray) : (execOp a.eval oi).run Try.prog w = .ok (.value (idv z)) w := by
  have h := run_build (P := Try.prog) w 37 #[(0, .int .i64 z.c), (1, .agg (c8 z.b).toArray)] (idc z).toArray (built37 hz.len _)
  unfold execOp
  simp only [hop]
  simp [hx, hy, h]
  rfl
theorem x_bid40 {x y : Operand} {z : Idn} (hz : z.Ok) (hop : oi.op = .build 40 #[(0, x), (1, y)]) (hx : a.eval x = .int .i64 z.c) (hy : a.eval y = .agg (c8 z.b).toArray) : (execOp a.eval oi).run Try.prog w = .ok (.value (idv z)) w := by
  have h := run_build (P := Try.prog) w 40 #[(0, .int .i64 z.c), (1, .agg (c8 z.b).toArray)] (idc z).toArray (built40 hz.len _)
  unfold execOp
  simp only [hop]
  simp [hx, hy, h]
  rfl
theorem x_al40 (hop : oi.op = .alloc 40) : (execOp a.eval oi).run Try.prog w = .ok (.value (.pointer (some ⟨w.heap.size, 0, none⟩))) (w.alloc (.cells (idc zId).toArray 40)) := by
  have hz : (zeroValue 40).run Try.prog w = .ok (.agg (idc zId).toArray) w := by kernel_rfl
  unfold execOp
  simp only [hop]
  simp [go_sem, hz, Value.cells]
theorem x_st40 {x y : Operand} {g : Nat} {z z0 : Idn} (hz : z.Ok) (h0 : z0.Ok) (hop : oi.op = .store 40 x y) (hx : a.eval x = .pointer (some ⟨g, 0, none⟩)) (hy : a.eval y = idv z) (hr : RowIs w g 40 (idc z0)) : (execOp a.eval oi).run Try.prog w = .ok .skip (w.setRow g (idc z).toArray) := by
  unfold execOp
  have := run_storeVar_row (P := Try.prog) w g 40 40 (idc z0).toArray (idc z).toArray hr (size40 hz) (by simp [idc_len hz, idc_len h0]) (by simpa using idc_one z)
  simp only [hop, hx, hy, idv, Instr.storeAt, Instr.sureAddr, Sem.run_bind, Sem.run_pure, Result.andThen_ok, this]
theorem x_ld40 {x : Operand} {g : Nat} {y : Idn} (hy : y.Ok) (hop : oi.op = .load 40 x) (hx : a.eval x = .pointer (some ⟨g, 0, none⟩)) (hr : RowIs w g 40 (idc y)) : (execOp a.eval oi).run Try.prog w = .ok (.value (idv y)) w := by
  unfold execOp
  simp only [hop, hx, Instr.loadAt, Instr.sureAddr, Sem.run_bind, Sem.run_pure, Result.andThen_ok, run_loadVar_row w g 40 40 (idc y).toArray (0, 0) _ hr Try.underlying40 rfl (size40 hy)]
  rfl
end
theorem ret37 {fn : Func} {p : Tmp} (h : fn.results = #[.cell p 37]) (tmps : Array Value) (w : World) (g : Nat) (z : Idn) (hz : z.Ok) (hp : tmps.getD p undef = .pointer (some ⟨g, 0, none⟩)) (hg : RowIs w g 37 (idc z)) : (results fn tmps).run Try.prog w = .ok (idv z) w :=
  results_cell_row h tmps w g 37 _ (0, 0) _ hp hg Try.underlying37 rfl (size37 hz)
set_option maxRecDepth 100000 in
set_option maxHeartbeats 6400000 in
theorem own_any {x : Idn} (hx : x.Ok) (w : World) : Calls Try.prog 18 #[idv x] w fun e w' => e = .returned (idv x) ∧ After w w' := by
  obtain ⟨W0, hW⟩ : ∃ W0, (w.alloc (.cells (idc x).toArray 40)).alloc (.cells (idc zId).toArray 37) = W0 := ⟨_, rfl⟩
  have RA : Hid (RowIs W0 w.heap.size 40 (idc x) ∧ RowIs W0 (w.heap.size + 1) 37 (idc zId) ∧ After w W0) := by
    refine ⟨?_, ?_, ?_⟩
    · rw [← hW]; exact (RowIs.new w 40 (idc x)).alloc _
    · rw [← hW]; have := RowIs.new (w.alloc (.cells (idc x).toArray 40)) 37 (idc zId); rwa [World.size_alloc] at this
    · rw [← hW]; exact after_alloc (after_alloc (After.refl w) _) _
  have ca : W0.cell? ⟨w.heap.size, 0, none⟩ = some (.int .i64 x.c) := RA.out.1.cell rfl
  have HX : Hid x.Ok := hx
  have HAL : Hid (∀ (oi : Oper) (a : Act), oi.op = .alloc 37 → (execOp a.eval oi).run Try.prog (w.alloc (.cells (idc x).toArray 40)) = .ok (.value (.pointer (some ⟨w.heap.size + 1, 0, none⟩))) W0) := fun oi a ho => by
    have := x_al37 (a := a) (w := w.alloc (.cells (idc x).toArray 40)) ho
    rw [World.size_alloc, hW] at this
    exact this
  have HE : Hid (After w (W0.setRow (w.heap.size + 1) (idc x).toArray)) := Below.row RA.out.2.2 (by omega) _
  unfold idv
  go_enter Try.func18, Try.ntmps18
  go_wp2_with (first
    | (refine wpList_of_run rfl (HAL.out _ _ rfl) ?_)
    | (refine wpList_of_run rfl (x_ld35 (x := .tmp 5) (g := w.heap.size) (p := 1) HX.out.len rfl rfl (id_hash RA.out.1)) ?_)
    | (refine wpList_of_run rfl (x_bid37 (x := .tmp 4) (y := .tmp 6) HX.out rfl rfl rfl) ?_)
    | (refine wpList_store_row rfl 37 (.tmp 2) (.tmp 7) rfl (w.heap.size + 1) (idc x).toArray rfl rfl 37 _ RA.out.2.1 (size37 HX.out) (by simp [idc_len HX.out, idc_len zId_ok]) (by simpa using idc_one x) ?_))
  refine bodyPost_ret (ret37 Try.results18 _ _ (w.heap.size + 1) x HX.out rfl (RA.out.2.1.setRow (idc x))) rfl ?_
  exact ⟨rfl, HE.out⟩
theorem x_eqb {oi : Oper} {a : Act} {w : World} {x y : Operand} {b : Bool} (hop : oi.op = .binOp .eql 4 x y 4) (hx : a.eval x = .bool b) (hy : a.eval y = .bool b) : (execOp a.eval oi).run Try.prog w = .ok (.value (.bool true)) w := by
  unfold execOp
  simp only [hop, hx, hy]
  cases b <;> simp [go_sem]
theorem ltI_self (x : Idn) : ltI x x = false := by unfold ltI; simp [ltB_self]
theorem range_pre {w : World} {g o : Nat} {xs ys : List Value} (h : w.rangeAt g o (xs ++ ys)) : w.rangeAt g o xs ∧ w.rangeAt g (o + xs.length) ys :=
  ⟨fun j u hu => h j u (by rw [List.getElem?_append_left (List.getElem?_eq_some_iff.1 hu).1]; exact hu), fun j u hu => by
    have := h (xs.length + j) u (by rw [List.getElem?_append_right (by omega)]; simpa using hu)
    rw [← Nat.add_assoc] at this; exact this⟩
set_option maxRecDepth 100000 in
set_option maxHeartbeats 6400000 in
theorem rless_any (a b : Int) (h k : H) (ha : Idn.Ok ⟨a, h⟩) (hb : Idn.Ok ⟨b, k⟩) (w : World) :
    Calls Try.prog 5 #[.int .i64 a, .int .i64 b, .agg (c8 h ++ c8 k).toArray] w fun e w' => e = .returned (.bool true) ∧ After w w' := by
  obtain ⟨W0, hW⟩ : ∃ W0, w.alloc (.cells (c8 h ++ c8 k).toArray 46) = W0 := ⟨_, rfl⟩
  have HA : Hid (After w W0) := by rw [← hW]; exact after_alloc (After.refl w) _
  have hr0 : RowIs W0 w.heap.size 46 (c8 h ++ c8 k) := by rw [← hW]; exact RowIs.new w 46 _
  have HB : Hid (W0.rangeAt w.heap.size 0 (c8 h) ∧ W0.rangeAt w.heap.size 32 (c8 k)) := by
    have := range_pre hr0.range0
    rw [c8_len, ha.len] at this
    exact this
  have HX : Hid (Idn.Ok ⟨a, h⟩ ∧ Idn.Ok ⟨b, k⟩) := ⟨ha, hb⟩
  clear ha hb hr0
  go_enter Try.func5, Try.ntmps5
  go_wp2_with (rw [hW])
  refine wp_region_noPanic ?_
  refine wp_region_held_drew (S := After W0) (by kernel_rfl) (After.drew (After.refl _)) ?_
  intro hS0
  refine tk 0 9 (.int .i64 a) (fuel := 11) rfl (by kernel_rfl) (by kernel_rfl) (by kernel_rfl) (by kernel_rfl) noPanic_false (by kernel_rfl) (fun _ _ => by kernel_rfl) hS0 ?_
  refine tk 1 10 (.pointer (some ⟨w.heap.size, 0, none⟩)) (fuel := 10) rfl (by kernel_rfl) (by kernel_rfl) (by kernel_rfl) (by kernel_rfl) noPanic_false (by kernel_rfl) (fun _ _ => by kernel_rfl) hS0 ?_
  refine tk 2 11 (.agg (c8 h).toArray) (fuel := 9) rfl (by kernel_rfl) (by kernel_rfl) (by kernel_rfl) (by kernel_rfl) noPanic_false (by kernel_rfl) (fun W hW => x_ld35 (x := .tmp 10) (g := w.heap.size) (p := 0) HX.out.1.len (by kernel_rfl) (by kernel_rfl) (range_after HB.out.1 hW)) hS0 ?_
  refine tk 3 12 (idv ⟨a, h⟩) (fuel := 8) rfl (by kernel_rfl) (by kernel_rfl) (by kernel_rfl) (by kernel_rfl) noPanic_false (by kernel_rfl) (fun W hW => x_bid40 (x := .tmp 9) (y := .tmp 11) (z := ⟨a, h⟩) HX.out.1 (by kernel_rfl) (by kernel_rfl) (by kernel_rfl)) hS0 ?_
  refine tk 4 13 (.int .i64 b) (fuel := 7) rfl (by kernel_rfl) (by kernel_rfl) (by kernel_rfl) (by kernel_rfl) noPanic_false (by kernel_rfl) (fun _ _ => by kernel_rfl) hS0 ?_
  refine tk 5 14 (.pointer (some ⟨w.heap.size, 32, none⟩)) (fuel := 6) rfl (by kernel_rfl) (by kernel_rfl) (by kernel_rfl) (by kernel_rfl) noPanic_false (by kernel_rfl) (fun _ _ => by kernel_rfl) hS0 ?_
  refine tk 6 15 (.agg (c8 k).toArray) (fuel := 5) rfl (by kernel_rfl) (by kernel_rfl) (by kernel_rfl) (by kernel_rfl) noPanic_false (by kernel_rfl) (fun W hW => x_ld35 (x := .tmp 14) (g := w.heap.size) (p := 32) HX.out.2.len (by kernel_rfl) (by kernel_rfl) (range_after HB.out.2 hW)) hS0 ?_
  refine tk 7 16 (idv ⟨b, k⟩) (fuel := 4) rfl (by kernel_rfl) (by kernel_rfl) (by kernel_rfl) (by kernel_rfl) noPanic_false (by kernel_rfl) (fun W hW => x_bid40 (x := .tmp 13) (y := .tmp 15) (z := ⟨b, k⟩) HX.out.2 (by kernel_rfl) (by kernel_rfl) (by kernel_rfl)) hS0 ?_
  refine wpAnyH_all (rs := [8, 9]) (by kernel_rfl) (by simp) (fun ii hi => ?_)
  have hi2 : ii = 8 ∨ ii = 9 := by simpa using hi
  clear hi
  rcases hi2 with rfl | rfl
  · refine opVal 8 7 (.pointer (some ⟨W0.drew.heap.size, 0, none⟩)) (W0.drew.alloc (.cells (idc zId).toArray 40)) rfl (by kernel_rfl) (by kernel_rfl) (x_al40 (by kernel_rfl)) ?_
    refine ⟨after_alloc hS0 _, ?_⟩
    refine tkRunS 9 8 (.pointer (some ⟨W0.drew.heap.size + 1, 0, none⟩)) ((W0.drew.alloc (.cells (idc zId).toArray 40)).alloc (.cells (idc zId).toArray 40)) (fuel := 2) rfl (by kernel_rfl) (by kernel_rfl) (by kernel_rfl) ((x_al40 (w := (W0.drew.alloc (.cells (idc zId).toArray 40))) (by kernel_rfl)).trans (by rw [World.size_alloc])) (after_alloc (after_alloc hS0 _) _) ?_
    have Ra : RowIs ((W0.drew.alloc (.cells (idc zId).toArray 40)).alloc (.cells (idc zId).toArray 40)) (W0.drew.heap.size) 40 (idc zId) := (RowIs.new W0.drew 40 (idc zId)).alloc _
    have Rb : RowIs ((W0.drew.alloc (.cells (idc zId).toArray 40)).alloc (.cells (idc zId).toArray 40)) (W0.drew.heap.size + 1) 40 (idc zId) := by have h := RowIs.new (W0.drew.alloc (.cells (idc zId).toArray 40)) 40 (idc zId); rwa [World.size_alloc] at h
    have A2 : After W0 ((W0.drew.alloc (.cells (idc zId).toArray 40)).alloc (.cells (idc zId).toArray 40)) := after_alloc (after_alloc hS0 _) _
    generalize hW2 : ((W0.drew.alloc (.cells (idc zId).toArray 40)).alloc (.cells (idc zId).toArray 40)) = W2 at Ra Rb A2 ⊢
    clear hW2
    have A3 : After W0 (W2.setRow (W0.drew.heap.size) (idc ⟨a, h⟩).toArray) := Below.row A2 (by show W0.heap.size ≤ W0.heap.size; omega) _
    refine tkStoreS 10 (W2.setRow (W0.drew.heap.size) (idc ⟨a, h⟩).toArray) (fuel := 1) rfl (by kernel_rfl) (by kernel_rfl) (by kernel_rfl) (x_st40 (x := .tmp 7) (y := .tmp 12) HX.out.1 zId_ok (by kernel_rfl) (by kernel_rfl) (by kernel_rfl) Ra) A3 ?_
    have Q7 : RowIs (W2.setRow (W0.drew.heap.size) (idc ⟨a, h⟩).toArray) (W0.drew.heap.size) 40 (idc ⟨a, h⟩) := Ra.setRow _
    have Q8 : RowIs (W2.setRow (W0.drew.heap.size) (idc ⟨a, h⟩).toArray) (W0.drew.heap.size + 1) 40 (idc zId) := Rb.setRow_other _ (by omega)
    generalize hW3 : W2.setRow (W0.drew.heap.size) (idc ⟨a, h⟩).toArray = W3 at Q7 Q8 A3 ⊢
    clear hW3 Ra Rb A2
    have A4 : After W0 (W3.setRow (W0.drew.heap.size + 1) (idc ⟨b, k⟩).toArray) := Below.row A3 (by show W0.heap.size ≤ W0.heap.size + 1; omega) _
    refine tkStoreS 11 (W3.setRow (W0.drew.heap.size + 1) (idc ⟨b, k⟩).toArray) (fuel := 0) rfl (by kernel_rfl) (by kernel_rfl) (by kernel_rfl) (x_st40 (x := .tmp 8) (y := .tmp 16) HX.out.2 zId_ok (by kernel_rfl) (by kernel_rfl) (by kernel_rfl) Q8) A4 ?_
    refine wpAnyH_done (by kernel_rfl) (NoPanic.normal ?_) _
    have F7 := show Hid (RowIs (W3.setRow (W0.drew.heap.size + 1) (idc ⟨b, k⟩).toArray) (W0.drew.heap.size) 40 (idc ⟨a, h⟩)) from Q7.setRow_other _ (by omega)
    have F8 := show Hid (RowIs (W3.setRow (W0.drew.heap.size + 1) (idc ⟨b, k⟩).toArray) (W0.drew.heap.size + 1) 40 (idc ⟨b, k⟩)) from Q8.setRow _
    generalize hW4 : W3.setRow (W0.drew.heap.size + 1) (idc ⟨b, k⟩).toArray = W4 at F7 F8 A4 ⊢
    clear hW4 Q7 Q8 A3 hS0
    generalize W0.drew.heap.size + 1 = g8 at F7 F8 ⊢
    generalize W0.drew.heap.size = g7 at F7 F8 ⊢
    have H4 : Hid (After w W4) := HA.out.trans A4
    clear A4
    go_simp
    go_wp2_with fail
    refine wp_region_noPanic ?_
    refine wp_region_held_drew (S := After W4) (by kernel_rfl) (After.drew (After.refl _)) ?_
    intro hS1
    refine tk 0 17 (idv ⟨a, h⟩) (fuel := 31) rfl (by kernel_rfl) (by kernel_rfl) (by kernel_rfl) (by kernel_rfl) noPanic_false (by kernel_rfl) (fun W hW => x_ld40 (x := .tmp 7) (g := g7) HX.out.1 (by kernel_rfl) (by kernel_rfl) (F7.out.below hW F7.out.lt)) hS1 ?_
    refine tk 2 19 (idv ⟨b, k⟩) (fuel := 30) rfl (by kernel_rfl) (by kernel_rfl) (by kernel_rfl) (by kernel_rfl) noPanic_false (by kernel_rfl) (fun W hW => x_ld40 (x := .tmp 8) (g := g8) HX.out.2 (by kernel_rfl) (by kernel_rfl) (F8.out.below hW F8.out.lt)) hS1 ?_
    refine tk 5 22 (idv ⟨a, h⟩) (fuel := 29) rfl (by kernel_rfl) (by kernel_rfl) (by kernel_rfl) (by kernel_rfl) noPanic_false (by kernel_rfl) (fun W hW => x_ld40 (x := .tmp 7) (g := g7) HX.out.1 (by kernel_rfl) (by kernel_rfl) (F7.out.below hW F7.out.lt)) hS1 ?_
    refine tk 6 23 (idv ⟨b, k⟩) (fuel := 28) rfl (by kernel_rfl) (by kernel_rfl) (by kernel_rfl) (by kernel_rfl) noPanic_false (by kernel_rfl) (fun W hW => x_ld40 (x := .tmp 8) (g := g8) HX.out.2 (by kernel_rfl) (by kernel_rfl) (F8.out.below hW F8.out.lt)) hS1 ?_
    refine tkCallZ 1 18 18 #[idv ⟨a, h⟩] (fun v w' => v = idv ⟨a, h⟩ ∧ After W4 w') (fuel := 27) rfl (by kernel_rfl) (by kernel_rfl) (by kernel_rfl) (fun _ => by kernel_rfl) (Calls.mono (own_any HX.out.1 _) (fun e w' ⟨he, ha⟩ => ⟨_, he, rfl, hS1.trans ha⟩)) ?_
    intro v1 u1 ⟨hv1, ha1⟩
    subst hv1
    refine ⟨ha1, ?_⟩
    refine tkCallZ 3 20 18 #[idv ⟨b, k⟩] (fun v w' => v = idv ⟨b, k⟩ ∧ After W4 w') (fuel := 26) rfl (by kernel_rfl) (by kernel_rfl) (by kernel_rfl) (fun _ => by kernel_rfl) (Calls.mono (own_any HX.out.2 _) (fun e w' ⟨he, ha⟩ => ⟨_, he, rfl, ha1.trans ha⟩)) ?_
    intro v2 u2 ⟨hv2, ha2⟩
    subst hv2
    refine ⟨ha2, ?_⟩
    refine tkCallZ 4 21 19 #[idv ⟨a, h⟩, idv ⟨b, k⟩] (fun v w' => v = .bool (ltI ⟨a, h⟩ ⟨b, k⟩) ∧ After W4 w') (fuel := 25) rfl (by kernel_rfl) (by kernel_rfl) (by kernel_rfl) (fun _ => by kernel_rfl) (Calls.mono (lessI_any HX.out.1 HX.out.2 _) (fun e w' ⟨he, ha⟩ => ⟨_, he, rfl, ha2.trans ha⟩)) ?_
    intro v3 u3 ⟨hv3, ha3⟩
    subst hv3
    refine ⟨ha3, ?_⟩
    refine tkCallZ 7 24 20 #[idv ⟨a, h⟩, idv ⟨b, k⟩] (fun v w' => v = .bool (ltI ⟨a, h⟩ ⟨b, k⟩) ∧ After W4 w') (fuel := 24) rfl (by kernel_rfl) (by kernel_rfl) (by kernel_rfl) (fun _ => by kernel_rfl) (Calls.mono (rlessI_any HX.out.1 HX.out.2 _) (fun e w' ⟨he, ha⟩ => ⟨_, he, rfl, ha3.trans ha⟩)) ?_
    intro v4 u4 ⟨hv4, ha4⟩
    subst hv4
    refine ⟨ha4, ?_⟩
    refine tk 8 25 (.bool true) (fuel := 23) rfl (by kernel_rfl) (by kernel_rfl) (by kernel_rfl) (by kernel_rfl) noPanic_false (by kernel_rfl) (fun W _ => x_eqb (x := .tmp 21) (y := .tmp 24) (b := ltI ⟨a, h⟩ ⟨b, k⟩) (by kernel_rfl) (by kernel_rfl) (by kernel_rfl)) ha4 ?_
    refine tk 9 26 (.bool true) (fuel := 22) rfl (by kernel_rfl) (by kernel_rfl) (by kernel_rfl) (by kernel_rfl) noPanic_false (by kernel_rfl) (fun _ _ => by kernel_rfl) ha4 ?_
    refine tk 10 27 (idv ⟨b, k⟩) (fuel := 21) rfl (by kernel_rfl) (by kernel_rfl) (by kernel_rfl) (by kernel_rfl) noPanic_false (by kernel_rfl) (fun W hW => x_ld40 (x := .tmp 8) (g := g8) HX.out.2 (by kernel_rfl) (by kernel_rfl) (F8.out.below hW F8.out.lt)) ha4 ?_
    refine tk 12 29 (idv ⟨a, h⟩) (fuel := 20) rfl (by kernel_rfl) (by kernel_rfl) (by kernel_rfl) (by kernel_rfl) noPanic_false (by kernel_rfl) (fun W hW => x_ld40 (x := .tmp 7) (g := g7) HX.out.1 (by kernel_rfl) (by kernel_rfl) (F7.out.below hW F7.out.lt)) ha4 ?_
    refine tk 15 32 (idv ⟨b, k⟩) (fuel := 19) rfl (by kernel_rfl) (by kernel_rfl) (by kernel_rfl) (by kernel_rfl) noPanic_false (by kernel_rfl) (fun W hW => x_ld40 (x := .tmp 8) (g := g8) HX.out.2 (by kernel_rfl) (by kernel_rfl) (F8.out.below hW F8.out.lt)) ha4 ?_
    refine tk 16 33 (idv ⟨a, h⟩) (fuel := 18) rfl (by kernel_rfl) (by kernel_rfl) (by kernel_rfl) (by kernel_rfl) noPanic_false (by kernel_rfl) (fun W hW => x_ld40 (x := .tmp 7) (g := g7) HX.out.1 (by kernel_rfl) (by kernel_rfl) (F7.out.below hW F7.out.lt)) ha4 ?_
    refine tkCallZ 11 28 18 #[idv ⟨b, k⟩] (fun v w' => v = idv ⟨b, k⟩ ∧ After W4 w') (fuel := 17) rfl (by kernel_rfl) (by kernel_rfl) (by kernel_rfl) (fun _ => by kernel_rfl) (Calls.mono (own_any HX.out.2 _) (fun e w' ⟨he, ha⟩ => ⟨_, he, rfl, ha4.trans ha⟩)) ?_
    intro v5 u5 ⟨hv5, ha5⟩
    subst hv5
    refine ⟨ha5, ?_⟩
    refine tkCallZ 13 30 18 #[idv ⟨a, h⟩] (fun v w' => v = idv ⟨a, h⟩ ∧ After W4 w') (fuel := 16) rfl (by kernel_rfl) (by kernel_rfl) (by kernel_rfl) (fun _ => by kernel_rfl) (Calls.mono (own_any HX.out.1 _) (fun e w' ⟨he, ha⟩ => ⟨_, he, rfl, ha5.trans ha⟩)) ?_
    intro v6 u6 ⟨hv6, ha6⟩
    subst hv6
    refine ⟨ha6, ?_⟩
    refine tkCallZ 14 31 19 #[idv ⟨b, k⟩, idv ⟨a, h⟩] (fun v w' => v = .bool (ltI ⟨b, k⟩ ⟨a, h⟩) ∧ After W4 w') (fuel := 15) rfl (by kernel_rfl) (by kernel_rfl) (by kernel_rfl) (fun _ => by kernel_rfl) (Calls.mono (lessI_any HX.out.2 HX.out.1 _) (fun e w' ⟨he, ha⟩ => ⟨_, he, rfl, ha6.trans ha⟩)) ?_
    intro v7 u7 ⟨hv7, ha7⟩
    subst hv7
    refine ⟨ha7, ?_⟩
    refine tkCallZ 17 34 20 #[idv ⟨b, k⟩, idv ⟨a, h⟩] (fun v w' => v = .bool (ltI ⟨b, k⟩ ⟨a, h⟩) ∧ After W4 w') (fuel := 14) rfl (by kernel_rfl) (by kernel_rfl) (by kernel_rfl) (fun _ => by kernel_rfl) (Calls.mono (rlessI_any HX.out.2 HX.out.1 _) (fun e w' ⟨he, ha⟩ => ⟨_, he, rfl, ha7.trans ha⟩)) ?_
    intro v8 u8 ⟨hv8, ha8⟩
    subst hv8
    refine ⟨ha8, ?_⟩
    refine tk 18 35 (.bool true) (fuel := 13) rfl (by kernel_rfl) (by kernel_rfl) (by kernel_rfl) (by kernel_rfl) noPanic_false (by kernel_rfl) (fun W _ => x_eqb (x := .tmp 31) (y := .tmp 34) (b := ltI ⟨b, k⟩ ⟨a, h⟩) (by kernel_rfl) (by kernel_rfl) (by kernel_rfl)) ha8 ?_
    refine tk 19 36 (.bool true) (fuel := 12) rfl (by kernel_rfl) (by kernel_rfl) (by kernel_rfl) (by kernel_rfl) noPanic_false (by kernel_rfl) (fun _ _ => by kernel_rfl) ha8 ?_
    refine tk 20 37 (.bool true) (fuel := 11) rfl (by kernel_rfl) (by kernel_rfl) (by kernel_rfl) (by kernel_rfl) noPanic_false (by kernel_rfl) (fun _ _ => by kernel_rfl) ha8 ?_
    refine tk 21 38 (idv ⟨a, h⟩) (fuel := 10) rfl (by kernel_rfl) (by kernel_rfl) (by kernel_rfl) (by kernel_rfl) noPanic_false (by kernel_rfl) (fun W hW => x_ld40 (x := .tmp 7) (g := g7) HX.out.1 (by kernel_rfl) (by kernel_rfl) (F7.out.below hW F7.out.lt)) ha8 ?_
    refine tk 23 40 (idv ⟨a, h⟩) (fuel := 9) rfl (by kernel_rfl) (by kernel_rfl) (by kernel_rfl) (by kernel_rfl) noPanic_false (by kernel_rfl) (fun W hW => x_ld40 (x := .tmp 7) (g := g7) HX.out.1 (by kernel_rfl) (by kernel_rfl) (F7.out.below hW F7.out.lt)) ha8 ?_
    refine tkCallZ 22 39 18 #[idv ⟨a, h⟩] (fun v w' => v = idv ⟨a, h⟩ ∧ After W4 w') (fuel := 8) rfl (by kernel_rfl) (by kernel_rfl) (by kernel_rfl) (fun _ => by kernel_rfl) (Calls.mono (own_any HX.out.1 _) (fun e w' ⟨he, ha⟩ => ⟨_, he, rfl, ha8.trans ha⟩)) ?_
    intro v9 u9 ⟨hv9, ha9⟩
    subst hv9
    refine ⟨ha9, ?_⟩
    refine tkCallZ 24 41 18 #[idv ⟨a, h⟩] (fun v w' => v = idv ⟨a, h⟩ ∧ After W4 w') (fuel := 7) rfl (by kernel_rfl) (by kernel_rfl) (by kernel_rfl) (fun _ => by kernel_rfl) (Calls.mono (own_any HX.out.1 _) (fun e w' ⟨he, ha⟩ => ⟨_, he, rfl, ha9.trans ha⟩)) ?_
    intro v10 u10 ⟨hv10, ha10⟩
    subst hv10
    refine ⟨ha10, ?_⟩
    refine tkCallZ 25 42 19 #[idv ⟨a, h⟩, idv ⟨a, h⟩] (fun v w' => v = .bool (ltI ⟨a, h⟩ ⟨a, h⟩) ∧ After W4 w') (fuel := 6) rfl (by kernel_rfl) (by kernel_rfl) (by kernel_rfl) (fun _ => by kernel_rfl) (Calls.mono (lessI_any HX.out.1 HX.out.1 _) (fun e w' ⟨he, ha⟩ => ⟨_, he, rfl, ha10.trans ha⟩)) ?_
    intro v11 u11 ⟨hv11, ha11⟩
    subst hv11
    refine ⟨ha11, ?_⟩
    rw [ltI_self]
    refine tk 26 43 (.bool true) (fuel := 5) rfl (by kernel_rfl) (by kernel_rfl) (by kernel_rfl) (by kernel_rfl) noPanic_false (by kernel_rfl) (fun _ _ => by kernel_rfl) ha11 ?_
    refine tk 27 44 (.bool true) (fuel := 4) rfl (by kernel_rfl) (by kernel_rfl) (by kernel_rfl) (by kernel_rfl) noPanic_false (by kernel_rfl) (fun _ _ => by kernel_rfl) ha11 ?_
    refine tk 28 45 (.bool true) (fuel := 3) rfl (by kernel_rfl) (by kernel_rfl) (by kernel_rfl) (by kernel_rfl) noPanic_false (by kernel_rfl) (fun _ _ => by kernel_rfl) ha11 ?_
    refine tkCallZ 29 46 12 #[] (fun v w' => v = .bool true ∧ After W4 w') (fuel := 2) rfl (by kernel_rfl) (by kernel_rfl) (by kernel_rfl) (fun _ => by kernel_rfl) (Calls.mono (awake_any _) (fun e w' ⟨he, ha⟩ => ⟨_, he, rfl, ha11.trans ha⟩)) ?_
    intro v12 u12 ⟨hv12, ha12⟩
    subst hv12
    refine ⟨ha12, ?_⟩
    refine tk 30 47 (.bool true) (fuel := 1) rfl (by kernel_rfl) (by kernel_rfl) (by kernel_rfl) (by kernel_rfl) noPanic_false (by kernel_rfl) (fun _ _ => by kernel_rfl) ha12 ?_
    refine tk 31 6 (.bool true) (fuel := 0) rfl (by kernel_rfl) (by kernel_rfl) (by kernel_rfl) (by kernel_rfl) noPanic_false (by kernel_rfl) (fun _ _ => by kernel_rfl) ha12 ?_
    refine wpAnyH_done (by kernel_rfl) (NoPanic.normal ?_) _
    have HE : Hid (After w u12) := H4.out.trans ha12
    clear hS1 ha1 ha2 ha3 ha4 ha5 ha6 ha7 ha8 ha9 ha10 ha11 ha12
    go_simp
    go_wp2_with fail
    go_ret
    exact ⟨rfl, HE.out⟩
  · refine opVal 9 8 (.pointer (some ⟨W0.drew.heap.size, 0, none⟩)) (W0.drew.alloc (.cells (idc zId).toArray 40)) rfl (by kernel_rfl) (by kernel_rfl) (x_al40 (by kernel_rfl)) ?_
    refine ⟨after_alloc hS0 _, ?_⟩
    refine tkRunS 8 7 (.pointer (some ⟨W0.drew.heap.size + 1, 0, none⟩)) ((W0.drew.alloc (.cells (idc zId).toArray 40)).alloc (.cells (idc zId).toArray 40)) (fuel := 2) rfl (by kernel_rfl) (by kernel_rfl) (by kernel_rfl) ((x_al40 (w := (W0.drew.alloc (.cells (idc zId).toArray 40))) (by kernel_rfl)).trans (by rw [World.size_alloc])) (after_alloc (after_alloc hS0 _) _) ?_
    have Ra : RowIs ((W0.drew.alloc (.cells (idc zId).toArray 40)).alloc (.cells (idc zId).toArray 40)) (W0.drew.heap.size) 40 (idc zId) := (RowIs.new W0.drew 40 (idc zId)).alloc _
    have Rb : RowIs ((W0.drew.alloc (.cells (idc zId).toArray 40)).alloc (.cells (idc zId).toArray 40)) (W0.drew.heap.size + 1) 40 (idc zId) := by have h := RowIs.new (W0.drew.alloc (.cells (idc zId).toArray 40)) 40 (idc zId); rwa [World.size_alloc] at h
    have A2 : After W0 ((W0.drew.alloc (.cells (idc zId).toArray 40)).alloc (.cells (idc zId).toArray 40)) := after_alloc (after_alloc hS0 _) _
    generalize hW2 : ((W0.drew.alloc (.cells (idc zId).toArray 40)).alloc (.cells (idc zId).toArray 40)) = W2 at Ra Rb A2 ⊢
    clear hW2
    have A3 : After W0 (W2.setRow (W0.drew.heap.size + 1) (idc ⟨a, h⟩).toArray) := Below.row A2 (by show W0.heap.size ≤ W0.heap.size + 1; omega) _
    refine tkStoreS 10 (W2.setRow (W0.drew.heap.size + 1) (idc ⟨a, h⟩).toArray) (fuel := 1) rfl (by kernel_rfl) (by kernel_rfl) (by kernel_rfl) (x_st40 (x := .tmp 7) (y := .tmp 12) HX.out.1 zId_ok (by kernel_rfl) (by kernel_rfl) (by kernel_rfl) Rb) A3 ?_
    have Q7 : RowIs (W2.setRow (W0.drew.heap.size + 1) (idc ⟨a, h⟩).toArray) (W0.drew.heap.size + 1) 40 (idc ⟨a, h⟩) := Rb.setRow _
    have Q8 : RowIs (W2.setRow (W0.drew.heap.size + 1) (idc ⟨a, h⟩).toArray) (W0.drew.heap.size) 40 (idc zId) := Ra.setRow_other _ (by omega)
    generalize hW3 : W2.setRow (W0.drew.heap.size + 1) (idc ⟨a, h⟩).toArray = W3 at Q7 Q8 A3 ⊢
    clear hW3 Ra Rb A2
    have A4 : After W0 (W3.setRow (W0.drew.heap.size) (idc ⟨b, k⟩).toArray) := Below.row A3 (by show W0.heap.size ≤ W0.heap.size; omega) _
    refine tkStoreS 11 (W3.setRow (W0.drew.heap.size) (idc ⟨b, k⟩).toArray) (fuel := 0) rfl (by kernel_rfl) (by kernel_rfl) (by kernel_rfl) (x_st40 (x := .tmp 8) (y := .tmp 16) HX.out.2 zId_ok (by kernel_rfl) (by kernel_rfl) (by kernel_rfl) Q8) A4 ?_
    refine wpAnyH_done (by kernel_rfl) (NoPanic.normal ?_) _
    have F7 := show Hid (RowIs (W3.setRow (W0.drew.heap.size) (idc ⟨b, k⟩).toArray) (W0.drew.heap.size + 1) 40 (idc ⟨a, h⟩)) from Q7.setRow_other _ (by omega)
    have F8 := show Hid (RowIs (W3.setRow (W0.drew.heap.size) (idc ⟨b, k⟩).toArray) (W0.drew.heap.size) 40 (idc ⟨b, k⟩)) from Q8.setRow _
    generalize hW4 : W3.setRow (W0.drew.heap.size) (idc ⟨b, k⟩).toArray = W4 at F7 F8 A4 ⊢
    clear hW4 Q7 Q8 A3 hS0
    generalize W0.drew.heap.size + 1 = g7 at F7 F8 ⊢
    generalize W0.drew.heap.size = g8 at F7 F8 ⊢
    have H4 : Hid (After w W4) := HA.out.trans A4
    clear A4
    go_simp
    go_wp2_with fail
    refine wp_region_noPanic ?_
    refine wp_region_held_drew (S := After W4) (by kernel_rfl) (After.drew (After.refl _)) ?_
    intro hS1
    refine tk 0 17 (idv ⟨a, h⟩) (fuel := 31) rfl (by kernel_rfl) (by kernel_rfl) (by kernel_rfl) (by kernel_rfl) noPanic_false (by kernel_rfl) (fun W hW => x_ld40 (x := .tmp 7) (g := g7) HX.out.1 (by kernel_rfl) (by kernel_rfl) (F7.out.below hW F7.out.lt)) hS1 ?_
    refine tk 2 19 (idv ⟨b, k⟩) (fuel := 30) rfl (by kernel_rfl) (by kernel_rfl) (by kernel_rfl) (by kernel_rfl) noPanic_false (by kernel_rfl) (fun W hW => x_ld40 (x := .tmp 8) (g := g8) HX.out.2 (by kernel_rfl) (by kernel_rfl) (F8.out.below hW F8.out.lt)) hS1 ?_
    refine tk 5 22 (idv ⟨a, h⟩) (fuel := 29) rfl (by kernel_rfl) (by kernel_rfl) (by kernel_rfl) (by kernel_rfl) noPanic_false (by kernel_rfl) (fun W hW => x_ld40 (x := .tmp 7) (g := g7) HX.out.1 (by kernel_rfl) (by kernel_rfl) (F7.out.below hW F7.out.lt)) hS1 ?_
    refine tk 6 23 (idv ⟨b, k⟩) (fuel := 28) rfl (by kernel_rfl) (by kernel_rfl) (by kernel_rfl) (by kernel_rfl) noPanic_false (by kernel_rfl) (fun W hW => x_ld40 (x := .tmp 8) (g := g8) HX.out.2 (by kernel_rfl) (by kernel_rfl) (F8.out.below hW F8.out.lt)) hS1 ?_
    refine tkCallZ 1 18 18 #[idv ⟨a, h⟩] (fun v w' => v = idv ⟨a, h⟩ ∧ After W4 w') (fuel := 27) rfl (by kernel_rfl) (by kernel_rfl) (by kernel_rfl) (fun _ => by kernel_rfl) (Calls.mono (own_any HX.out.1 _) (fun e w' ⟨he, ha⟩ => ⟨_, he, rfl, hS1.trans ha⟩)) ?_
    intro v1 u1 ⟨hv1, ha1⟩
    subst hv1
    refine ⟨ha1, ?_⟩
    refine tkCallZ 3 20 18 #[idv ⟨b, k⟩] (fun v w' => v = idv ⟨b, k⟩ ∧ After W4 w') (fuel := 26) rfl (by kernel_rfl) (by kernel_rfl) (by kernel_rfl) (fun _ => by kernel_rfl) (Calls.mono (own_any HX.out.2 _) (fun e w' ⟨he, ha⟩ => ⟨_, he, rfl, ha1.trans ha⟩)) ?_
    intro v2 u2 ⟨hv2, ha2⟩
    subst hv2
    refine ⟨ha2, ?_⟩
    refine tkCallZ 4 21 19 #[idv ⟨a, h⟩, idv ⟨b, k⟩] (fun v w' => v = .bool (ltI ⟨a, h⟩ ⟨b, k⟩) ∧ After W4 w') (fuel := 25) rfl (by kernel_rfl) (by kernel_rfl) (by kernel_rfl) (fun _ => by kernel_rfl) (Calls.mono (lessI_any HX.out.1 HX.out.2 _) (fun e w' ⟨he, ha⟩ => ⟨_, he, rfl, ha2.trans ha⟩)) ?_
    intro v3 u3 ⟨hv3, ha3⟩
    subst hv3
    refine ⟨ha3, ?_⟩
    refine tkCallZ 7 24 20 #[idv ⟨a, h⟩, idv ⟨b, k⟩] (fun v w' => v = .bool (ltI ⟨a, h⟩ ⟨b, k⟩) ∧ After W4 w') (fuel := 24) rfl (by kernel_rfl) (by kernel_rfl) (by kernel_rfl) (fun _ => by kernel_rfl) (Calls.mono (rlessI_any HX.out.1 HX.out.2 _) (fun e w' ⟨he, ha⟩ => ⟨_, he, rfl, ha3.trans ha⟩)) ?_
    intro v4 u4 ⟨hv4, ha4⟩
    subst hv4
    refine ⟨ha4, ?_⟩
    refine tk 8 25 (.bool true) (fuel := 23) rfl (by kernel_rfl) (by kernel_rfl) (by kernel_rfl) (by kernel_rfl) noPanic_false (by kernel_rfl) (fun W _ => x_eqb (x := .tmp 21) (y := .tmp 24) (b := ltI ⟨a, h⟩ ⟨b, k⟩) (by kernel_rfl) (by kernel_rfl) (by kernel_rfl)) ha4 ?_
    refine tk 9 26 (.bool true) (fuel := 22) rfl (by kernel_rfl) (by kernel_rfl) (by kernel_rfl) (by kernel_rfl) noPanic_false (by kernel_rfl) (fun _ _ => by kernel_rfl) ha4 ?_
    refine tk 10 27 (idv ⟨b, k⟩) (fuel := 21) rfl (by kernel_rfl) (by kernel_rfl) (by kernel_rfl) (by kernel_rfl) noPanic_false (by kernel_rfl) (fun W hW => x_ld40 (x := .tmp 8) (g := g8) HX.out.2 (by kernel_rfl) (by kernel_rfl) (F8.out.below hW F8.out.lt)) ha4 ?_
    refine tk 12 29 (idv ⟨a, h⟩) (fuel := 20) rfl (by kernel_rfl) (by kernel_rfl) (by kernel_rfl) (by kernel_rfl) noPanic_false (by kernel_rfl) (fun W hW => x_ld40 (x := .tmp 7) (g := g7) HX.out.1 (by kernel_rfl) (by kernel_rfl) (F7.out.below hW F7.out.lt)) ha4 ?_
    refine tk 15 32 (idv ⟨b, k⟩) (fuel := 19) rfl (by kernel_rfl) (by kernel_rfl) (by kernel_rfl) (by kernel_rfl) noPanic_false (by kernel_rfl) (fun W hW => x_ld40 (x := .tmp 8) (g := g8) HX.out.2 (by kernel_rfl) (by kernel_rfl) (F8.out.below hW F8.out.lt)) ha4 ?_
    refine tk 16 33 (idv ⟨a, h⟩) (fuel := 18) rfl (by kernel_rfl) (by kernel_rfl) (by kernel_rfl) (by kernel_rfl) noPanic_false (by kernel_rfl) (fun W hW => x_ld40 (x := .tmp 7) (g := g7) HX.out.1 (by kernel_rfl) (by kernel_rfl) (F7.out.below hW F7.out.lt)) ha4 ?_
    refine tkCallZ 11 28 18 #[idv ⟨b, k⟩] (fun v w' => v = idv ⟨b, k⟩ ∧ After W4 w') (fuel := 17) rfl (by kernel_rfl) (by kernel_rfl) (by kernel_rfl) (fun _ => by kernel_rfl) (Calls.mono (own_any HX.out.2 _) (fun e w' ⟨he, ha⟩ => ⟨_, he, rfl, ha4.trans ha⟩)) ?_
    intro v5 u5 ⟨hv5, ha5⟩
    subst hv5
    refine ⟨ha5, ?_⟩
    refine tkCallZ 13 30 18 #[idv ⟨a, h⟩] (fun v w' => v = idv ⟨a, h⟩ ∧ After W4 w') (fuel := 16) rfl (by kernel_rfl) (by kernel_rfl) (by kernel_rfl) (fun _ => by kernel_rfl) (Calls.mono (own_any HX.out.1 _) (fun e w' ⟨he, ha⟩ => ⟨_, he, rfl, ha5.trans ha⟩)) ?_
    intro v6 u6 ⟨hv6, ha6⟩
    subst hv6
    refine ⟨ha6, ?_⟩
    refine tkCallZ 14 31 19 #[idv ⟨b, k⟩, idv ⟨a, h⟩] (fun v w' => v = .bool (ltI ⟨b, k⟩ ⟨a, h⟩) ∧ After W4 w') (fuel := 15) rfl (by kernel_rfl) (by kernel_rfl) (by kernel_rfl) (fun _ => by kernel_rfl) (Calls.mono (lessI_any HX.out.2 HX.out.1 _) (fun e w' ⟨he, ha⟩ => ⟨_, he, rfl, ha6.trans ha⟩)) ?_
    intro v7 u7 ⟨hv7, ha7⟩
    subst hv7
    refine ⟨ha7, ?_⟩
    refine tkCallZ 17 34 20 #[idv ⟨b, k⟩, idv ⟨a, h⟩] (fun v w' => v = .bool (ltI ⟨b, k⟩ ⟨a, h⟩) ∧ After W4 w') (fuel := 14) rfl (by kernel_rfl) (by kernel_rfl) (by kernel_rfl) (fun _ => by kernel_rfl) (Calls.mono (rlessI_any HX.out.2 HX.out.1 _) (fun e w' ⟨he, ha⟩ => ⟨_, he, rfl, ha7.trans ha⟩)) ?_
    intro v8 u8 ⟨hv8, ha8⟩
    subst hv8
    refine ⟨ha8, ?_⟩
    refine tk 18 35 (.bool true) (fuel := 13) rfl (by kernel_rfl) (by kernel_rfl) (by kernel_rfl) (by kernel_rfl) noPanic_false (by kernel_rfl) (fun W _ => x_eqb (x := .tmp 31) (y := .tmp 34) (b := ltI ⟨b, k⟩ ⟨a, h⟩) (by kernel_rfl) (by kernel_rfl) (by kernel_rfl)) ha8 ?_
    refine tk 19 36 (.bool true) (fuel := 12) rfl (by kernel_rfl) (by kernel_rfl) (by kernel_rfl) (by kernel_rfl) noPanic_false (by kernel_rfl) (fun _ _ => by kernel_rfl) ha8 ?_
    refine tk 20 37 (.bool true) (fuel := 11) rfl (by kernel_rfl) (by kernel_rfl) (by kernel_rfl) (by kernel_rfl) noPanic_false (by kernel_rfl) (fun _ _ => by kernel_rfl) ha8 ?_
    refine tk 21 38 (idv ⟨a, h⟩) (fuel := 10) rfl (by kernel_rfl) (by kernel_rfl) (by kernel_rfl) (by kernel_rfl) noPanic_false (by kernel_rfl) (fun W hW => x_ld40 (x := .tmp 7) (g := g7) HX.out.1 (by kernel_rfl) (by kernel_rfl) (F7.out.below hW F7.out.lt)) ha8 ?_
    refine tk 23 40 (idv ⟨a, h⟩) (fuel := 9) rfl (by kernel_rfl) (by kernel_rfl) (by kernel_rfl) (by kernel_rfl) noPanic_false (by kernel_rfl) (fun W hW => x_ld40 (x := .tmp 7) (g := g7) HX.out.1 (by kernel_rfl) (by kernel_rfl) (F7.out.below hW F7.out.lt)) ha8 ?_
    refine tkCallZ 22 39 18 #[idv ⟨a, h⟩] (fun v w' => v = idv ⟨a, h⟩ ∧ After W4 w') (fuel := 8) rfl (by kernel_rfl) (by kernel_rfl) (by kernel_rfl) (fun _ => by kernel_rfl) (Calls.mono (own_any HX.out.1 _) (fun e w' ⟨he, ha⟩ => ⟨_, he, rfl, ha8.trans ha⟩)) ?_
    intro v9 u9 ⟨hv9, ha9⟩
    subst hv9
    refine ⟨ha9, ?_⟩
    refine tkCallZ 24 41 18 #[idv ⟨a, h⟩] (fun v w' => v = idv ⟨a, h⟩ ∧ After W4 w') (fuel := 7) rfl (by kernel_rfl) (by kernel_rfl) (by kernel_rfl) (fun _ => by kernel_rfl) (Calls.mono (own_any HX.out.1 _) (fun e w' ⟨he, ha⟩ => ⟨_, he, rfl, ha9.trans ha⟩)) ?_
    intro v10 u10 ⟨hv10, ha10⟩
    subst hv10
    refine ⟨ha10, ?_⟩
    refine tkCallZ 25 42 19 #[idv ⟨a, h⟩, idv ⟨a, h⟩] (fun v w' => v = .bool (ltI ⟨a, h⟩ ⟨a, h⟩) ∧ After W4 w') (fuel := 6) rfl (by kernel_rfl) (by kernel_rfl) (by kernel_rfl) (fun _ => by kernel_rfl) (Calls.mono (lessI_any HX.out.1 HX.out.1 _) (fun e w' ⟨he, ha⟩ => ⟨_, he, rfl, ha10.trans ha⟩)) ?_
    intro v11 u11 ⟨hv11, ha11⟩
    subst hv11
    refine ⟨ha11, ?_⟩
    rw [ltI_self]
    refine tk 26 43 (.bool true) (fuel := 5) rfl (by kernel_rfl) (by kernel_rfl) (by kernel_rfl) (by kernel_rfl) noPanic_false (by kernel_rfl) (fun _ _ => by kernel_rfl) ha11 ?_
    refine tk 27 44 (.bool true) (fuel := 4) rfl (by kernel_rfl) (by kernel_rfl) (by kernel_rfl) (by kernel_rfl) noPanic_false (by kernel_rfl) (fun _ _ => by kernel_rfl) ha11 ?_
    refine tk 28 45 (.bool true) (fuel := 3) rfl (by kernel_rfl) (by kernel_rfl) (by kernel_rfl) (by kernel_rfl) noPanic_false (by kernel_rfl) (fun _ _ => by kernel_rfl) ha11 ?_
    refine tkCallZ 29 46 12 #[] (fun v w' => v = .bool true ∧ After W4 w') (fuel := 2) rfl (by kernel_rfl) (by kernel_rfl) (by kernel_rfl) (fun _ => by kernel_rfl) (Calls.mono (awake_any _) (fun e w' ⟨he, ha⟩ => ⟨_, he, rfl, ha11.trans ha⟩)) ?_
    intro v12 u12 ⟨hv12, ha12⟩
    subst hv12
    refine ⟨ha12, ?_⟩
    refine tk 30 47 (.bool true) (fuel := 1) rfl (by kernel_rfl) (by kernel_rfl) (by kernel_rfl) (by kernel_rfl) noPanic_false (by kernel_rfl) (fun _ _ => by kernel_rfl) ha12 ?_
    refine tk 31 6 (.bool true) (fuel := 0) rfl (by kernel_rfl) (by kernel_rfl) (by kernel_rfl) (by kernel_rfl) noPanic_false (by kernel_rfl) (fun _ _ => by kernel_rfl) ha12 ?_
    refine wpAnyH_done (by kernel_rfl) (NoPanic.normal ?_) _
    have HE : Hid (After w u12) := H4.out.trans ha12
    clear hS1 ha1 ha2 ha3 ha4 ha5 ha6 ha7 ha8 ha9 ha10 ha11 ha12
    go_simp
    go_wp2_with fail
    go_ret
    exact ⟨rfl, HE.out⟩
end Go.Proofs.Ytiglenomigipmaa
