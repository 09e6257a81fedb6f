/-
  A row that is not there: At (15), Remove (23), Cells (24), Fork (21).
-/
import Derived.Test.YtiglenomigipmaaRW
namespace Go.Proofs.Ytiglenomigipmaa
open Go.RowKit Go.Shelf
attribute [local go_sem] Oper.semAt_some
theorem run_load4 {w : World} {k : Nat} {b : Bool} (hc : w.cell? ⟨k, 0, none⟩ = some (.bool b)) : (loadVar 4 ⟨k, 0, none⟩).run Try.prog w = .ok (.bool b) w := by
  have hag : (isAgg 4).run Try.prog w = .ok false w := by unfold isAgg; rw [Sem.run_bind, run_underlying Try.underlying4 w]; rfl
  simp [loadVar, hag, go_sem, hc]
theorem ret374 {fn : Func} {p q : Tmp} (h : fn.results = #[.cell p 37, .cell q 4]) (tmps : Array Value) (w : World) (g k : Nat) (z : Idn) (hz : z.Ok) (b : Bool) (hp : tmps.getD p undef = .pointer (some ⟨g, 0, none⟩)) (hg : RowIs w g 37 (idc z)) (hq : tmps.getD q undef = .pointer (some ⟨k, 0, none⟩)) (hk : RowIs w k 4 [.bool b]) : (results fn tmps).run Try.prog w = .ok (.tuple #[idv z, .bool b]) w := by
  have hp' : tmps[p]?.getD undef = .pointer (some ⟨g, 0, none⟩) := by simpa using hp
  have hq' : tmps[q]?.getD undef = .pointer (some ⟨k, 0, none⟩) := by simpa using hq
  have hl : (loadVar 4 ⟨k, 0, none⟩).run Try.prog w = .ok (.bool b) w := run_load4 (hk.cell rfl)
  simp [results, h, hp', hq', asAddr, run_loadVar_row w g 37 37 (idc z).toArray (0, 0) _ hg Try.underlying37 rfl (size37 hz), idv, hl]
set_option maxRecDepth 100000 in
set_option maxHeartbeats 3200000 in
theorem At_nil (n : Int) (w : World) : Calls Try.prog 15 #[.pointer none, .int .i64 n] w fun e w' => e = .returned (.tuple #[idv zId, .bool false]) ∧ After w w' := by
  refine (callsIn_wide (n := 7)).1 ?_
  obtain ⟨W0, hW0⟩ : ∃ W0, ((((w.alloc (.cells #[.int .i64 n] 3)).alloc (.cells (idc zId).toArray 37)).alloc (.cells #[.bool false] 4)).alloc (.cells #[.int .i64 0] 3)).setCell ⟨w.heap.size + 1 + 1 + 1, 0, none⟩ (.int .i64 0) = W0 := ⟨_, rfl⟩
  have HA0 : Hid (After w W0) := by rw [← hW0]; exact Below.setCell (after_alloc (after_alloc (after_alloc (after_alloc (After.refl w) _) _) _) _) (p := ⟨w.heap.size + 1 + 1 + 1, 0, none⟩) (by show w.heap.size ≤ w.heap.size + 1 + 1 + 1; omega) _
  have HB : Hid (RowIs W0 (w.heap.size + 1) 37 (idc zId) ∧ RowIs W0 (w.heap.size + 1 + 1) 4 [.bool false]) := by
    rw [← hW0]
    constructor
    · have := RowIs.new (w.alloc (.cells #[.int .i64 n] 3)) 37 (idc zId)
      rw [World.size_alloc] at this
      exact ((this.alloc _).alloc _).other _ _ (by show ¬ w.heap.size + 1 = w.heap.size + 1 + 1 + 1; omega)
    · have := RowIs.new ((w.alloc (.cells #[.int .i64 n] 3)).alloc (.cells (idc zId).toArray 37)) 4 [.bool false]
      rw [World.size_alloc, World.size_alloc] at this
      exact (this.alloc _).other _ _ (by show ¬ w.heap.size + 1 + 1 = w.heap.size + 1 + 1 + 1; omega)
  refine callsIn_of_wp_marks Try.func15 rfl trivial ?_ rfl
  simp only [Try.ntmps15, List.size_toArray, List.length_cons, List.length_nil, Nat.reduceAdd, Nat.reduceSub, Array.replicate_succ, Array.replicate_zero, List.push_toArray, List.append_toArray, List.nil_append, List.cons_append]
  gi_wp2_with (first
    | (rw [hW0])
    | (refine wpListIn_run rfl (fun _ => trivial) (fun _ h => by cases h) (x_al37 rfl) ?_)
    | (refine ⟨trivial, ?_⟩; gi_at_call 33; refine (callsIn_wide.2 (left_any none W0)).mono ?_; rintro e w2 ⟨rfl, hr2, ha2⟩; have H2 := show Hid (RowIs w2 W0.heap.size 25 [.pointer none] ∧ After W0 w2) from ⟨hr2, ha2⟩; clear hr2 ha2))
  refine rf_enter (n := 7) rfl (by omega) (gf := 45) (lb := #[.pointer (some ⟨W0.heap.size, 0, none⟩)]) rfl trivial (enters_of Try.func45 (by kernel_rfl) rfl) ?_
  intro fn _ r hr
  have hrst : r.state = .ready := by rw [hr]
  have hrp : r.pending = none := by rw [hr]
  clear hr
  obtain ⟨W3, hW3⟩ : ∃ W3, (w2.alloc (.deferred (some []))).alloc (.loop r) = W3 := ⟨_, rfl⟩
  obtain ⟨D2, hD2⟩ : ∃ D2, w2.heap.size = D2 := ⟨_, rfl⟩
  have ha3 : After w2 W3 := by rw [← hW3]; exact after_alloc (after_alloc (After.refl w2) _) _
  have hl3 : W3.heap[D2 + 1]? = some (.loop r) := by
    rw [← hW3, ← hD2]; have := World.alloc_heap_new (w2.alloc (.deferred (some []))) (.loop r); rwa [World.size_alloc] at this
  have hd3 : W3.heap[D2]? = some (.deferred (some [])) := by
    rw [← hW3, ← hD2]; exact (Below.heap_alloc _ _ _ (by simp)).trans (World.alloc_heap_new w2 _)
  have hg3 : RowIs W3 W0.heap.size 25 [.pointer none] := H2.out.1.below ha3 H2.out.1.lt
  have hs2 : After W0 w2 := H2.out.2
  have hbig : W0.heap.size < D2 := by rw [← hD2]; exact H2.out.1.lt
  rw [hW3, hD2]
  clear hW3 hD2
  have hW0s : w.heap.size ≤ W0.heap.size := HA0.out.size
  refine (left_nil (D2 + 1) W0.heap.size hg3).mono ?_
  rintro e W4 ⟨hv, ha4⟩
  have hl4 : W4.heap[D2 + 1]? = some (.loop r) := (ha4.block _ (Array.getElem?_eq_some_iff.1 hl3).1).trans hl3
  have hd4 : W4.heap[D2]? = some (.deferred (some [])) := (ha4.block _ (Array.getElem?_eq_some_iff.1 hd3).1).trans hd3
  refine ⟨hv, r, hl4, by rw [hrst]; simp, ?_⟩
  rw [hrp]
  generalize Obj.loop _ = ob
  obtain ⟨W5, hW5⟩ : ∃ W5, W4.putObj (D2 + 1) ob = W5 := ⟨_, rfl⟩
  have hA5 : After w W5 := by
    rw [← hW5]
    have k1 : KeptF (fun b => w.heap.size ≤ b) w W4 := KeptF.of_after (((HA0.out.trans hs2).trans ha3).trans ha4)
    exact (k1.trans (putObj_kept (F := fun b => w.heap.size ≤ b) W4 (D2 + 1) ob (by show w.heap.size ≤ D2 + 1; omega)) (fun _ _ h => h)).below (Nat.le_refl _) (fun _ h => h)
  have h05 : ∀ b, b < W0.heap.size → W5.heap[b]? = W0.heap[b]? := fun b hb => by
    rw [← hW5]
    exact (World.putObj_heap_other (by omega)).trans (((hs2.trans ha3).trans ha4).block b hb)
  have hK1 : W5.heap[D2]? = some (.deferred (some [])) := by rw [← hW5]; exact (World.putObj_heap_other (by omega)).trans hd4
  rw [hW5]
  have HA5 : Hid (After w W5) := hA5
  clear hl3 hd3 hg3 ha3 hs2 ha4 hl4 hd4 hW5 hA5
  have B37 : RowIs W5 (w.heap.size + 1) 37 (idc zId) := by unfold RowIs; rw [h05 _ HB.out.1.lt]; exact HB.out.1
  have B4 : RowIs W5 (w.heap.size + 1 + 1) 4 [.bool false] := by unfold RowIs; rw [h05 _ HB.out.2.lt]; exact HB.out.2
  have hlt1 := HB.out.2.lt
  clear h05
  obtain ⟨W6, hW6⟩ : ∃ W6, W5.setRow (w.heap.size + 1) (idc zId).toArray = W6 := ⟨_, rfl⟩
  have HST : Hid (∀ (oi : Oper) (a : Act), oi.op = .store 37 (.tmp 4) (.tmp 18) → a.eval (.tmp 4) = .pointer (some ⟨w.heap.size + 1, 0, none⟩) → a.eval (.tmp 18) = idv zId → (execOp a.eval oi).run Try.prog W5 = .ok .skip W6) := fun oi a h1 h2 h3 => by rw [← hW6]; exact x_st37 zId_ok zId_ok h1 h2 h3 B37
  have C37 : RowIs W6 (w.heap.size + 1) 37 (idc zId) := by rw [← hW6]; exact B37.setRow _
  have C4 : RowIs W6 (w.heap.size + 1 + 1) 4 [.bool false] := by rw [← hW6]; exact B4.setRow_other _ (by omega)
  have hA6 : After w W6 := by rw [← hW6]; exact Below.row HA5.out (by omega) _
  have hK6 : W6.heap[D2]? = some (.deferred (some [])) := by
    rw [← hW6]
    exact (Go.setRow_other W5 (w.heap.size + 1) D2 _ (by omega)).trans hK1
  have c4 : W6.cell? ⟨w.heap.size + 1 + 1, 0, none⟩ = some (.bool false) := C4.cell rfl
  have f4 : W6.frozen? ⟨w.heap.size + 1 + 1, 0, none⟩ = false := C4.frozen 0
  have HC : Hid (RowIs W6 (w.heap.size + 1) 37 (idc zId) ∧ RowIs W6 (w.heap.size + 1 + 1) 4 [.bool false] ∧ After w W6 ∧ W6.heap[D2]? = some (.deferred (some []))) := ⟨C37, C4, hA6, hK6⟩
  clear hW6 C37 C4 hA6 hK6 B37 B4
  gi_wp2_with (first
    | (refine wpListIn_run rfl (fun _ => trivial) (fun _ h => by cases h) (x_zb37 rfl) ?_)
    | (refine wpListIn_st rfl rfl (fun _ => trivial) (fun _ h => by cases h) (HST.out _ _ rfl rfl rfl) ?_))
  have hK7 : (W6.setCell ⟨w.heap.size + 1 + 1, 0, none⟩ (.bool false)).heap[D2]? = some (.deferred (some [])) := (Below.heap_setCell W6 ⟨w.heap.size + 1 + 1, 0, none⟩ _ D2 (by show D2 ≠ w.heap.size + 1 + 1; omega)).trans HC.out.2.2.2
  refine ⟨by simp, .inl ⟨_, _, rfl, run_takeDeferred hK7, ?_⟩⟩
  have r37 : RowIs ((W6.setCell ⟨w.heap.size + 1 + 1, 0, none⟩ (.bool false)).putObj D2 (.deferred none)) (w.heap.size + 1) 37 (idc zId) := (World.putObj_heap_other (by omega)).trans (HC.out.1.other _ _ (by show ¬ w.heap.size + 1 = w.heap.size + 1 + 1; omega))
  have r4 : RowIs ((W6.setCell ⟨w.heap.size + 1 + 1, 0, none⟩ (.bool false)).putObj D2 (.deferred none)) (w.heap.size + 1 + 1) 4 [.bool false] := (World.putObj_heap_other (by omega)).trans (HC.out.2.1.set 0 _)
  refine ⟨_, ret374 Try.results15 _ _ (w.heap.size + 1) (w.heap.size + 1 + 1) zId zId_ok false rfl r37 rfl r4, rfl, ?_⟩
  have k1 : KeptF (fun b => w.heap.size ≤ b) w W6 := KeptF.of_after HC.out.2.2.1
  exact ((k1.trans (KeptF.set (F := fun b => w.heap.size ≤ b) W6 ⟨w.heap.size + 1 + 1, 0, none⟩ _ (by show w.heap.size ≤ w.heap.size + 1 + 1; omega)) (fun _ _ h => h)).trans (putObj_kept (F := fun b => w.heap.size ≤ b) _ D2 (.deferred none) (by show w.heap.size ≤ D2; omega)) (fun _ _ h => h)).below (Nat.le_refl _) (fun _ h => h)
theorem Remove_nil (x : Idn) (w : World) : Calls Try.prog 23 #[.pointer none, idv x] w fun e w' => e = .returned (.int .i64 1) ∧ After w w' := by
  have HA : Hid (After w (w.alloc (.cells (idc x).toArray 37))) := after_alloc (After.refl w) _
  unfold idv
  go_enter Try.func23, Try.ntmps23
  go_wp2_with fail
  go_ret
  exact ⟨rfl, HA.out⟩
theorem Cells_nil (w : World) : Calls Try.prog 24 #[.pointer none] w fun e w' => e = .returned (.slice none 0 0) ∧ w' = w := by
  go_enter Try.func24, Try.ntmps24
  go_wp2_with fail
  go_ret
  exact ⟨rfl, rfl⟩
theorem Fork_nil (w : World) : Calls Try.prog 21 #[.pointer none] w fun e w' => e = .returned (.pointer none) ∧ w' = w := by
  go_enter Try.func21, Try.ntmps21
  go_wp2_with fail
  go_ret
  exact ⟨rfl, rfl⟩
theorem x_b37t {oi : Oper} {a : Act} {w : World} {x : Operand} {n : Int} (hop : oi.op = .build 37 #[(0, x)]) (hx : a.eval x = .int .i64 n) : (execOp a.eval oi).run Try.prog w = .ok (.value (idv (iN n))) w := by
  have h := run_build (P := Try.prog) w 37 #[(0, .int .i64 n)] (idc (iN n)).toArray (by kernel_rfl)
  unfold execOp
  simp only [hop]
  simp [hx, h]
  rfl
set_option maxRecDepth 100000 in
set_option maxHeartbeats 3200000 in
theorem nobody_any (n : Int) (c : UInt8) (w : World) : Calls Try.prog 7 #[.int .i64 n, .int .u8 (c.toNat : Int)] w fun e w' => e = .returned (.bool true) ∧ After w w' := by
  have HAT : Hid (Calls Try.prog 15 #[.pointer none, .int .i64 n] w fun e w' => e = .returned (.tuple #[idv zId, .bool false]) ∧ After w w') := At_nil n w
  go_enter Try.func7, Try.ntmps7
  go_wp2_with (first
    | (go_at_call 15; refine Calls.mono HAT.out ?_; clear HAT; rintro e w1 ⟨rfl, h1⟩; obtain ⟨W1, hW1⟩ : ∃ W1, w1.alloc (.cells (idc zId).toArray 37) = W1 := ⟨_, rfl⟩; have H1 := show Hid (After w W1 ∧ RowIs W1 w1.heap.size 37 (idc zId)) from ⟨by rw [← hW1]; exact after_alloc h1 _, by rw [← hW1]; exact RowIs.new w1 37 _⟩; have HS1 := show Hid (w.heap.size ≤ w1.heap.size) from h1.size; clear h1)
    | (refine wpList_of_run rfl ((x_al37 rfl).trans (by rw [hW1])) ?_)
    | (refine wpList_store_row rfl 37 (.tmp 6) (.tmp 12) rfl w1.heap.size (idc zId).toArray rfl rfl 37 _ H1.out.2 (size37 zId_ok) rfl (by simpa using idc_one zId) ?_; obtain ⟨W2, hW2⟩ : ∃ W2, W1.setRow w1.heap.size (idc zId).toArray = W2 := ⟨_, rfl⟩; rw [hW2])
    | (refine wpList_of_run rfl (x_zb37 rfl) ?_)
    | (refine wpList_of_run rfl (x_b37 (n := 1) rfl) ?_)
    | (refine wpListG_of_run (by kernel_rfl) (x_b37t (x := .tmp 22) (n := n) rfl rfl) ?_)
    | (go_at_call 22; refine Calls.mono (Insert_nil zId (iN 1) c W2) ?_; rintro e w3 ⟨rfl, h3⟩; have H3 := show Hid (After w w3) from After.trans (by rw [← hW2]; exact Below.row H1.out.1 HS1.out _) h3; clear h3)
    | (go_at_call 23; refine Calls.mono (Remove_nil (iN n) w3) ?_; rintro e w4 ⟨rfl, h4⟩; have H4 := show Hid (After w w4) from H3.out.trans h4; clear h4)
    | (go_at_call 24; refine Calls.mono (Cells_nil w4) ?_; rintro e w5 ⟨rfl, rfl⟩)
    | (go_at_call 25; refine Calls.mono (Text_nil w5) ?_; rintro e w6 ⟨rfl, h6⟩; have H6 := show Hid (After w w6) from H4.out.trans h6; clear h6)
    | (go_at_call 26; refine Calls.mono (Len_nil w6) ?_; rintro e w7 ⟨rfl, h7⟩; have H7 := show Hid (After w w7) from H6.out.trans h7; clear h7)
    | (go_at_call 21; refine Calls.mono (Fork_nil w7) ?_; rintro e w8 ⟨rfl, rfl⟩)
    | (go_at_call 12; refine Calls.mono (awake_any w8) ?_; rintro e w9 ⟨rfl, h9⟩; have H9 := show Hid (After w w9) from H7.out.trans h9; clear h9))
  go_ret
  exact ⟨rfl, H9.out⟩
end Go.Proofs.Ytiglenomigipmaa
