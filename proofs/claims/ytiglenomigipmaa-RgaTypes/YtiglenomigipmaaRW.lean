/-
  A row that is not there: what each call tells.
-/
import Derived.Test.YtiglenomigipmaaRV
namespace Go.Proofs.Ytiglenomigipmaa
open Go.RowKit Go.Shelf
attribute [local go_sem] Oper.semAt_some
theorem ord_nil (lp gr n : Nat) {W : World} (hG : RowIs W gr 25 [.pointer none]) : CallsIn Fence.wide (n + 1) Try.prog 51 #[.func (.yield lp) #[] #[], .pointer (some ⟨gr, 0, none⟩)] W fun e W' => (∃ v, e = .returned v) ∧ W' = W := by
  have cg : W.cell? ⟨gr, 0, none⟩ = some (.pointer none) := hG.cell rfl
  refine callsIn_of_wp Try.func51 rfl trivial ?_ rfl
  simp only [Try.ntmps51, List.size_toArray, List.length_cons, List.length_nil, Nat.reduceAdd, Nat.reduceSub, Array.replicate_succ, Array.replicate_zero, List.push_toArray, List.append_toArray, List.nil_append, List.cons_append]
  gi_wp2
  refine bodyPost_ret (results_none rfl _ _ _) rfl ?_
  exact ⟨⟨_, rfl⟩, rfl⟩
set_option maxRecDepth 100000 in
set_option maxHeartbeats 3200000 in
theorem left_nil (lp gr : Nat) {W : World} (hG : RowIs W gr 25 [.pointer none]) : CallsIn Fence.wide 6 Try.prog 45 #[.func (.yield lp) #[] #[], .pointer (some ⟨gr, 0, none⟩)] W fun e W' => (∃ v, e = .returned v) ∧ After W W' := by
  obtain ⟨W0, hW0⟩ : ∃ W0, W.alloc (.cells #[.func (.yield lp) #[] #[]] 94) = W0 := ⟨_, rfl⟩
  have HA0 : Hid (After W W0) := by rw [← hW0]; exact after_alloc (After.refl W) _
  have cG : W0.cell? ⟨gr, 0, none⟩ = some (.pointer none) := (hG.below HA0.out hG.lt).cell rfl
  clear hG
  refine callsIn_of_wp_marks Try.func45 rfl trivial ?_ rfl
  simp only [Try.ntmps45, List.size_toArray, List.length_cons, List.length_nil, Nat.reduceAdd, Nat.reduceSub, Array.replicate_succ, Array.replicate_zero, List.push_toArray, List.append_toArray, List.nil_append, List.cons_append]
  gi_wp2_with (first
    | (rw [hW0])
    | (refine ⟨trivial, ?_⟩; gi_at_call 44; refine (callsIn_wide.2 (inOrder_any none W0)).mono ?_; rintro e w2 ⟨rfl, hr2, ha2⟩; have H2 := show Hid (RowIs w2 W0.heap.size 25 [.pointer none] ∧ After W0 w2) from ⟨hr2, ha2⟩; clear hr2 ha2))
  refine rf_enter (n := 6) rfl (by omega) (gf := 51) (lb := #[.pointer (some ⟨W0.heap.size, 0, none⟩)]) rfl trivial (enters_of Try.func51 (by kernel_rfl) rfl) ?_
  intro fn _ r hr
  have hrst : r.state = .ready := by rw [hr]
  have hrp : r.pending = none := by rw [hr]
  clear hr
  obtain ⟨W3, hW3⟩ : ∃ W3, (w2.alloc (.deferred (some []))).alloc (.loop r) = W3 := ⟨_, rfl⟩
  obtain ⟨D2, hD2⟩ : ∃ D2, w2.heap.size = D2 := ⟨_, rfl⟩
  have ha3 : After w2 W3 := by rw [← hW3]; exact after_alloc (after_alloc (After.refl w2) _) _
  have hl3 : W3.heap[D2 + 1]? = some (.loop r) := by
    rw [← hW3, ← hD2]; have := World.alloc_heap_new (w2.alloc (.deferred (some []))) (.loop r); rwa [World.size_alloc] at this
  have hd3 : W3.heap[D2]? = some (.deferred (some [])) := by
    rw [← hW3, ← hD2]; exact (Below.heap_alloc _ _ _ (by simp)).trans (World.alloc_heap_new w2 _)
  have hg3 : RowIs W3 W0.heap.size 25 [.pointer none] := H2.out.1.below ha3 H2.out.1.lt
  have hs2 : After W0 w2 := H2.out.2
  have hbig : W0.heap.size < D2 := by rw [← hD2]; exact H2.out.1.lt
  rw [hW3, hD2]
  clear hW3 hD2
  have hW0s : W.heap.size ≤ W0.heap.size := HA0.out.size
  refine (ord_nil (D2 + 1) W0.heap.size 4 hg3).mono ?_
  rintro e W4 ⟨hv, rfl⟩
  refine ⟨hv, r, hl3, by rw [hrst]; simp, ?_⟩
  rw [hrp]
  generalize Obj.loop _ = ob
  have HFIN : Hid (After W ((W4.putObj (D2 + 1) ob).putObj D2 (.deferred none))) := by
    have k1 : KeptF (fun b => W.heap.size ≤ b) W W4 := KeptF.of_after ((HA0.out.trans hs2).trans ha3)
    have k2 := (k1.trans (putObj_kept (F := fun b => W.heap.size ≤ b) W4 (D2 + 1) ob (by show W.heap.size ≤ D2 + 1; omega)) (fun _ _ h => h)).trans (putObj_kept (F := fun b => W.heap.size ≤ b) _ D2 (.deferred none) (by show W.heap.size ≤ D2; omega)) (fun _ _ h => h)
    exact k2.below (Nat.le_refl _) (fun _ h => h)
  have hK1 : (W4.putObj (D2 + 1) ob).heap[D2]? = some (.deferred (some [])) := (World.putObj_heap_other (by omega)).trans hd3
  clear hl3 hd3 hg3 ha3 hs2
  gi_wp2
  refine ⟨by simp, .inl ⟨_, _, rfl, run_takeDeferred hK1, ?_⟩⟩
  exact ⟨_, results_none rfl _ _ _, ⟨_, rfl⟩, HFIN.out⟩
set_option maxRecDepth 100000 in
set_option maxHeartbeats 3200000 in
theorem Text_nil (w : World) : Calls Try.prog 25 #[.pointer none] w fun e w' => e = .returned (.slice none 0 0) ∧ After w w' := by
  refine (callsIn_wide (n := 7)).1 ?_
  obtain ⟨W0, hW0⟩ : ∃ W0, w.alloc (.cells #[.slice none 0 0] 56) = W0 := ⟨_, rfl⟩
  have HA0 : Hid (After w W0) := by rw [← hW0]; exact after_alloc (After.refl w) _
  have HB : Hid (RowIs W0 w.heap.size 56 [.slice none 0 0]) := by rw [← hW0]; exact RowIs.new w 56 _
  refine callsIn_of_wp_marks Try.func25 rfl trivial ?_ rfl
  simp only [Try.ntmps25, List.size_toArray, List.length_cons, List.length_nil, Nat.reduceAdd, Nat.reduceSub, Array.replicate_succ, Array.replicate_zero, List.push_toArray, List.append_toArray, List.nil_append, List.cons_append]
  gi_wp2_with (first
    | (rw [hW0])
    | (refine ⟨trivial, ?_⟩; gi_at_call 33; refine (callsIn_wide.2 (left_any none W0)).mono ?_; rintro e w2 ⟨rfl, hr2, ha2⟩; have H2 := show Hid (RowIs w2 W0.heap.size 25 [.pointer none] ∧ After W0 w2) from ⟨hr2, ha2⟩; clear hr2 ha2))
  refine rf_enter (n := 7) rfl (by omega) (gf := 45) (lb := #[.pointer (some ⟨W0.heap.size, 0, none⟩)]) rfl trivial (enters_of Try.func45 (by kernel_rfl) rfl) ?_
  intro fn _ r hr
  have hrst : r.state = .ready := by rw [hr]
  have hrp : r.pending = none := by rw [hr]
  clear hr
  obtain ⟨W3, hW3⟩ : ∃ W3, (w2.alloc (.deferred (some []))).alloc (.loop r) = W3 := ⟨_, rfl⟩
  obtain ⟨D2, hD2⟩ : ∃ D2, w2.heap.size = D2 := ⟨_, rfl⟩
  have ha3 : After w2 W3 := by rw [← hW3]; exact after_alloc (after_alloc (After.refl w2) _) _
  have hl3 : W3.heap[D2 + 1]? = some (.loop r) := by
    rw [← hW3, ← hD2]; have := World.alloc_heap_new (w2.alloc (.deferred (some []))) (.loop r); rwa [World.size_alloc] at this
  have hd3 : W3.heap[D2]? = some (.deferred (some [])) := by
    rw [← hW3, ← hD2]; exact (Below.heap_alloc _ _ _ (by simp)).trans (World.alloc_heap_new w2 _)
  have hg3 : RowIs W3 W0.heap.size 25 [.pointer none] := H2.out.1.below ha3 H2.out.1.lt
  have hs2 : After W0 w2 := H2.out.2
  have hbig : W0.heap.size < D2 := by rw [← hD2]; exact H2.out.1.lt
  rw [hW3, hD2]
  clear hW3 hD2
  have hW0s : w.heap.size ≤ W0.heap.size := HA0.out.size
  refine (left_nil (D2 + 1) W0.heap.size hg3).mono ?_
  rintro e W4 ⟨hv, ha4⟩
  have hl4 : W4.heap[D2 + 1]? = some (.loop r) := (ha4.block _ (Array.getElem?_eq_some_iff.1 hl3).1).trans hl3
  have hd4 : W4.heap[D2]? = some (.deferred (some [])) := (ha4.block _ (Array.getElem?_eq_some_iff.1 hd3).1).trans hd3
  refine ⟨hv, r, hl4, by rw [hrst]; simp, ?_⟩
  rw [hrp]
  generalize Obj.loop _ = ob
  obtain ⟨W5, hW5⟩ : ∃ W5, W4.putObj (D2 + 1) ob = W5 := ⟨_, rfl⟩
  have hA5 : After w W5 := by
    rw [← hW5]
    have k1 : KeptF (fun b => w.heap.size ≤ b) w W4 := KeptF.of_after (((HA0.out.trans hs2).trans ha3).trans ha4)
    exact (k1.trans (putObj_kept (F := fun b => w.heap.size ≤ b) W4 (D2 + 1) ob (by show w.heap.size ≤ D2 + 1; omega)) (fun _ _ h => h)).below (Nat.le_refl _) (fun _ h => h)
  have h05 : ∀ b, b < W0.heap.size → W5.heap[b]? = W0.heap[b]? := fun b hb => by
    rw [← hW5]
    exact (World.putObj_heap_other (by omega)).trans (((hs2.trans ha3).trans ha4).block b hb)
  have hK1 : W5.heap[D2]? = some (.deferred (some [])) := by rw [← hW5]; exact (World.putObj_heap_other (by omega)).trans hd4
  rw [hW5]
  have HA5 : Hid (After w W5) := hA5
  clear hl3 hd3 hg3 ha3 hs2 ha4 hl4 hd4 hW5 hA5
  have cT : W5.cell? ⟨w.heap.size, 0, none⟩ = some (.slice none 0 0) := (World.cell?_of_block (h05 _ HB.out.lt)).trans (HB.out.cell rfl)
  have HF : Hid (After w (W5.putObj D2 (.deferred none))) := ((KeptF.of_after (F := fun b => w.heap.size ≤ b) HA5.out).trans (putObj_kept (F := fun b => w.heap.size ≤ b) W5 D2 (.deferred none) (by show w.heap.size ≤ D2; omega)) (fun _ _ h => h)).below (Nat.le_refl _) (fun _ h => h)
  clear h05
  gi_wp2
  refine ⟨by simp, .inl ⟨_, _, rfl, run_takeDeferred hK1, ?_⟩⟩
  exact ⟨_, results_tmp rfl _ _ _, rfl, HF.out⟩
set_option maxRecDepth 100000 in
set_option maxHeartbeats 3200000 in
theorem Len_nil (w : World) : Calls Try.prog 26 #[.pointer none] w fun e w' => e = .returned (.int .i64 0) ∧ After w w' := by
  refine (callsIn_wide (n := 7)).1 ?_
  obtain ⟨W0, hW0⟩ : ∃ W0, (w.alloc (.cells #[.int .i64 0] 3)).setCell ⟨w.heap.size, 0, none⟩ (.int .i64 0) = W0 := ⟨_, rfl⟩
  have HA0 : Hid (After w W0) := by rw [← hW0]; exact Below.setCell (after_alloc (After.refl w) _) (p := ⟨w.heap.size, 0, none⟩) (Nat.le_refl _) _
  have HB : Hid (RowIs W0 w.heap.size 3 [.int .i64 0]) := by rw [← hW0]; exact (RowIs.new w 3 [.int .i64 0]).set 0 _
  refine callsIn_of_wp_marks Try.func26 rfl trivial ?_ rfl
  simp only [Try.ntmps26, List.size_toArray, List.length_cons, List.length_nil, Nat.reduceAdd, Nat.reduceSub, Array.replicate_succ, Array.replicate_zero, List.push_toArray, List.append_toArray, List.nil_append, List.cons_append]
  gi_wp2_with (first
    | (rw [hW0])
    | (refine ⟨trivial, ?_⟩; gi_at_call 33; refine (callsIn_wide.2 (left_any none W0)).mono ?_; rintro e w2 ⟨rfl, hr2, ha2⟩; have H2 := show Hid (RowIs w2 W0.heap.size 25 [.pointer none] ∧ After W0 w2) from ⟨hr2, ha2⟩; clear hr2 ha2))
  refine rf_enter (n := 7) rfl (by omega) (gf := 45) (lb := #[.pointer (some ⟨W0.heap.size, 0, none⟩)]) rfl trivial (enters_of Try.func45 (by kernel_rfl) rfl) ?_
  intro fn _ r hr
  have hrst : r.state = .ready := by rw [hr]
  have hrp : r.pending = none := by rw [hr]
  clear hr
  obtain ⟨W3, hW3⟩ : ∃ W3, (w2.alloc (.deferred (some []))).alloc (.loop r) = W3 := ⟨_, rfl⟩
  obtain ⟨D2, hD2⟩ : ∃ D2, w2.heap.size = D2 := ⟨_, rfl⟩
  have ha3 : After w2 W3 := by rw [← hW3]; exact after_alloc (after_alloc (After.refl w2) _) _
  have hl3 : W3.heap[D2 + 1]? = some (.loop r) := by
    rw [← hW3, ← hD2]; have := World.alloc_heap_new (w2.alloc (.deferred (some []))) (.loop r); rwa [World.size_alloc] at this
  have hd3 : W3.heap[D2]? = some (.deferred (some [])) := by
    rw [← hW3, ← hD2]; exact (Below.heap_alloc _ _ _ (by simp)).trans (World.alloc_heap_new w2 _)
  have hg3 : RowIs W3 W0.heap.size 25 [.pointer none] := H2.out.1.below ha3 H2.out.1.lt
  have hs2 : After W0 w2 := H2.out.2
  have hbig : W0.heap.size < D2 := by rw [← hD2]; exact H2.out.1.lt
  rw [hW3, hD2]
  clear hW3 hD2
  have hW0s : w.heap.size ≤ W0.heap.size := HA0.out.size
  refine (left_nil (D2 + 1) W0.heap.size hg3).mono ?_
  rintro e W4 ⟨hv, ha4⟩
  have hl4 : W4.heap[D2 + 1]? = some (.loop r) := (ha4.block _ (Array.getElem?_eq_some_iff.1 hl3).1).trans hl3
  have hd4 : W4.heap[D2]? = some (.deferred (some [])) := (ha4.block _ (Array.getElem?_eq_some_iff.1 hd3).1).trans hd3
  refine ⟨hv, r, hl4, by rw [hrst]; simp, ?_⟩
  rw [hrp]
  generalize Obj.loop _ = ob
  obtain ⟨W5, hW5⟩ : ∃ W5, W4.putObj (D2 + 1) ob = W5 := ⟨_, rfl⟩
  have hA5 : After w W5 := by
    rw [← hW5]
    have k1 : KeptF (fun b => w.heap.size ≤ b) w W4 := KeptF.of_after (((HA0.out.trans hs2).trans ha3).trans ha4)
    exact (k1.trans (putObj_kept (F := fun b => w.heap.size ≤ b) W4 (D2 + 1) ob (by show w.heap.size ≤ D2 + 1; omega)) (fun _ _ h => h)).below (Nat.le_refl _) (fun _ h => h)
  have h05 : ∀ b, b < W0.heap.size → W5.heap[b]? = W0.heap[b]? := fun b hb => by
    rw [← hW5]
    exact (World.putObj_heap_other (by omega)).trans (((hs2.trans ha3).trans ha4).block b hb)
  have hK1 : W5.heap[D2]? = some (.deferred (some [])) := by rw [← hW5]; exact (World.putObj_heap_other (by omega)).trans hd4
  rw [hW5]
  have HA5 : Hid (After w W5) := hA5
  clear hl3 hd3 hg3 ha3 hs2 ha4 hl4 hd4 hW5 hA5
  have cT : W5.cell? ⟨w.heap.size, 0, none⟩ = some (.int .i64 0) := (World.cell?_of_block (h05 _ HB.out.lt)).trans (HB.out.cell rfl)
  have HF : Hid (After w (W5.putObj D2 (.deferred none))) := ((KeptF.of_after (F := fun b => w.heap.size ≤ b) HA5.out).trans (putObj_kept (F := fun b => w.heap.size ≤ b) W5 D2 (.deferred none) (by show w.heap.size ≤ D2; omega)) (fun _ _ h => h)).below (Nat.le_refl _) (fun _ h => h)
  clear h05
  gi_wp2
  refine ⟨by simp, .inl ⟨_, _, rfl, run_takeDeferred hK1, ?_⟩⟩
  exact ⟨_, results_tmp rfl _ _ _, rfl, HF.out⟩
end Go.Proofs.Ytiglenomigipmaa
