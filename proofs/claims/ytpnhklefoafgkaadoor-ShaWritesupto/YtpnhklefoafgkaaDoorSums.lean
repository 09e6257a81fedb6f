/-
  THE WALKS OF New, (*Hasher).Sum, (*Hasher).Len AND sha.Sum.
-/
import Derived.Test.YtpnhklefoafgkaaDoorWrite
namespace Go.Proofs.YtpnhklefoafgkaaDoor
open Go.RowKit Sha
def newHs : Hs := ⟨first, List.replicate 64 0, 0⟩
def zeroHs : Hs := ⟨⟨0, 0, 0, 0, 0, 0, 0, 0⟩, List.replicate 64 0, 0⟩
theorem built_new : Tryd.prog.built 56 [(0, .agg (c32 first.list).toArray)] = some (hcs newHs).toArray := by kernel_rfl
theorem size56 : (Tryd.prog.info? 56).map (·.size) = some 73 := by kernel_rfl
theorem wpList_built {ops : Array Oper} {rest : List Oper} {o : Oper} {a : Act} {w : World} {Q : Exit → Act → World → Prop} (hg : o.guard = none) (t : TypeId) (parts : Array (Nat × Operand)) (ho : o.op = .build t parts)
    (cells : Array Value) (hb : Tryd.prog.built t (parts.map fun (i, x) => (i, a.eval x)).toList = some cells)
    (h : wpList Tryd.prog ops Q rest (a.put o.dst (.agg cells)) w) : wpList Tryd.prog ops Q (o :: rest) a w :=
  wpList_build hg t parts ho (by rw [hb]; rfl) (by rw [hb]; exact h)
/-- The sum that a hasher tells. -/
def sumOf (h : Hs) : List UInt8 := outTo (feed h (endTo h.n 8)).st.list 8
set_option maxRecDepth 100000 in
set_option maxHeartbeats 400000 in
theorem new_any (w : World) :
    Calls Tryd.prog 13 #[] w fun e w' => ∃ g, e = .returned (.pointer (some ⟨g, 0, none⟩)) ∧ w.heap.size ≤ g ∧ Below w.heap.size w w' ∧ RowIs w' g 56 (hcs newHs) := by
  go_enter Tryd.func13, Tryd.ntmps13
  go_wp2_with (first
    | (go_at_call 25; refine (firstState_any _).mono ?_; rintro e w1 ⟨rfl, hb1⟩)
    | (refine wpList_built rfl 56 #[(0, .tmp 1)] rfl (hcs newHs).toArray (by kernel_rfl) ?_))
  go_ret
  exact ⟨w1.heap.size, rfl, hb1.size, hb1.alloc hb1.size _, RowIs.new w1 56 (hcs newHs)⟩
theorem newHs_part : newHs.part.length = 64 := rfl
theorem hcs_zero_len : (hcs zeroHs).length = 73 := rfl
theorem sumOf_len (h : Hs) : (sumOf h).length = 32 := outTo_len _ _
def SumRel (gH : Nat) (h : Hs) (w W : World) : Prop :=
  Below w.heap.size w W ∧ RowIs W gH 56 (hcs h) ∧ RowIs W w.heap.size 24 (c8 (List.replicate 32 0)) ∧ RowIs W (w.heap.size + 1) 56 (hcs h)
theorem SumRel.start (gH : Nat) (h : Hs) (w : World) (hr : RowIs w gH 56 (hcs h)) :
    SumRel gH h w (((w.alloc (.cells (c8 (List.replicate 32 0)).toArray 24)).alloc (.cells (hcs zeroHs).toArray 56)).setRow (w.heap.size + 1) (hcs h).toArray) := by
  have hlt := hr.lt
  refine ⟨Below.row (((Below.refl _ _).alloc (Nat.le_refl _) _).alloc (by simp) _) (by omega) _, ((hr.alloc _).alloc _).setRow_other _ (by omega), ((RowIs.new w 24 _).alloc _).setRow_other _ (by omega), ?_⟩
  refine RowIs.setRow (cs := hcs zeroHs) ?_ _
  have := RowIs.new (w.alloc (.cells (c8 (List.replicate 32 0)).toArray 24)) 56 (hcs zeroHs)
  rw [show (w.alloc (.cells (c8 (List.replicate 32 0)).toArray 24)).heap.size = w.heap.size + 1 by simp] at this
  exact this
def SumRel2 (gH : Nat) (h : Hs) (w W1 w2 : World) : Prop :=
  Below w.heap.size w w2 ∧ RowIs w2 w.heap.size 24 (c8 (List.replicate 32 0)) ∧ RowIs w2 (w.heap.size + 1) 56 (hcs h) ∧ RowIs w2 W1.heap.size 5 (c8 (endTo h.n 8)) ∧ w.heap.size + 1 < W1.heap.size ∧ gH = gH
theorem SumRel2.start {gH : Nat} {h : Hs} {w W1 w2 : World} (hS : SumRel gH h w W1) (hb : Below W1.heap.size W1 w2) (hr : RowIs w2 W1.heap.size 5 (c8 (endTo h.n 8))) : SumRel2 gH h w W1 w2 :=
  ⟨hS.1.trans (hb.mono hS.1.size), hS.2.2.1.below hb hS.2.2.1.lt, hS.2.2.2.below hb hS.2.2.2.lt, hr, hS.2.2.2.lt, rfl⟩
theorem SumRel2.tab {gH : Nat} {h : Hs} {w W1 w2 : World} (hS : SumRel2 gH h w W1 w2) (ht : Tab w) : Tab w2 := ht.below hS.1 ht.1
theorem SumRel2.ne {gH : Nat} {h : Hs} {w W1 w2 : World} (hS : SumRel2 gH h w W1 w2) : W1.heap.size ≠ w.heap.size + 1 := by have := hS.2.2.2.2.1; omega
theorem SumRel2.bytes {gH : Nat} {h : Hs} {w W1 w2 : World} (hS : SumRel2 gH h w W1 w2) : BytesAt w2 (some ⟨W1.heap.size, 0, none⟩) (endTo h.n 8) :=
  fun _ => ⟨_, _, rfl, fun j hj => by rw [Nat.zero_add]; exact hS.2.2.2.1.cell (c8_get _ j hj)⟩
def SumRel3 (h : Hs) (w w3 : World) : Prop :=
  Below w.heap.size w w3 ∧ RowIs w3 w.heap.size 24 (c8 (List.replicate 32 0)) ∧ RowIs w3 (w.heap.size + 1) 56 (hcs (feed h (endTo h.n 8)))
theorem SumRel3.start {gH : Nat} {h : Hs} {w W1 w2 w3 : World} (hS : SumRel2 gH h w W1 w2) (hb : But (w.heap.size + 1) w2 w3) (hr : RowIs w3 (w.heap.size + 1) 56 (hcs (feed h (endTo h.n 8)))) : SumRel3 h w w3 :=
  ⟨hS.1.trans (hb.below (by omega) hS.1.size), hb.row hS.2.1 (by omega), hr⟩
theorem noughts_lt (n : Nat) : noughts n < 64 := by unfold noughts; omega
theorem zero56 (W : World) : (zeroValue 56).run Tryd.prog W = .ok (.agg (hcs zeroHs).toArray) W := by kernel_rfl
set_option maxRecDepth 100000 in
set_option maxHeartbeats 400000 in
theorem hsum_any (gH : Nat) (h : Hs) (hp : h.part.length = 64) (w : World) (ht : Tab w) (hr : RowIs w gH 56 (hcs h)) (hbd : h.n < 1152921504606846000) :
    Calls Tryd.prog 15 #[.pointer (some ⟨gH, 0, none⟩)] w fun e w' => e = .returned (.agg (c8 (sumOf h)).toArray) ∧ Below w.heap.size w w' := by
  have hlh : (hcs h).toArray.size = 73 := by simp [hcs_len h hp]
  have HT : Hid (Tab w) := ht
  have HR : Hid (RowIs w gH 56 (hcs h)) := hr
  have hlt := hr.lt
  have r0 : Hid (RowIs (w.alloc (.cells (c8 (List.replicate 32 0)).toArray 24)) gH 56 (hcs h)) := hr.alloc _
  have z0 : Hid (RowIs ((w.alloc (.cells (c8 (List.replicate 32 0)).toArray 24)).alloc (.cells (hcs zeroHs).toArray 56)) (w.heap.size + 1) 56 (hcs zeroHs)) := by
    have := RowIs.new (w.alloc (.cells (c8 (List.replicate 32 0)).toArray 24)) 56 (hcs zeroHs)
    unfold Hid; simpa using this
  have hone : Hid ((hcs h).toArray.all (·.oneCell') = true) := all_oneCell_toArray (fun v hv => by
    simp only [hcs, List.mem_append, List.mem_singleton] at hv
    rcases hv with hv | hv | rfl
    · exact c32_one _ v hv
    · exact c8_one _ v hv
    · rfl)
  have hzv := zero56
  have hs32 : Hid ((Tryd.prog.info? 24).map (·.size) = some (c8 (sumOf h)).toArray.size) := by unfold Hid; simp only [List.size_toArray, c8_len, sumOf_len]; exact size24
  have hs33 : Hid ((c8 (List.replicate 32 0)).toArray.size = (c8 (sumOf h)).toArray.size) := by unfold Hid; simp only [List.size_toArray, c8_len, sumOf_len, List.length_replicate]
  clear ht hr
  go_enter Tryd.func15, Tryd.ntmps15
  go_wp2_with (first
    | (refine wpList_load_row rfl 56 (.tmp 8) rfl gH rfl 56 (hcs h).toArray (0, 0) _ r0.out Tryd.underlying56 rfl (by rw [hlh]; exact size56) ?_)
    | (refine wpList_store_row rfl 56 (.tmp 3) (.tmp 9) rfl (w.heap.size + 1) (hcs h).toArray rfl rfl 56 (hcs zeroHs).toArray z0.out (by rw [hlh]; exact size56) (by rw [hlh]; rfl) hone.out ?_
       refine with_world (p := fun W => wpList _ _ _ _ _ W) (fun W => SumRel gH h w W) (SumRel.start gH h w HR.out) ?_
       intro W1 hS
       have f72 : W1.cell? ⟨gH, 72, none⟩ = some (.int .i64 (h.n : Int)) := hS.2.1.cell (hcs_n h hp)
       have HS := show Hid _ from hS
       clear hS r0 z0 hzv hone)
    | (go_at_call 27; refine (ending_any h.n (by omega) _).mono ?_; rintro e w2 ⟨rfl, hb2, hrow2⟩; have H2 : Hid (SumRel2 gH h w W1 w2) := SumRel2.start HS.out hb2 hrow2; clear hb2 hrow2 f72)
    | (go_at_call 14; refine (write_any (w.heap.size + 1) h hp _ (endTo h.n 8) _ _ (by rw [endTo_len]) (Nat.le_refl _) _ (H2.out.tab HT.out) (by omega) H2.out.2.2.1 H2.out.bytes (fun _ b o he => by cases he; exact H2.out.ne) (by rw [endTo_len]; have := noughts_lt h.n; omega)).mono ?_; rintro e w3 ⟨rfl, hb3, hrow3⟩; have H3 : Hid (SumRel3 h w w3) := SumRel3.start H2.out hb3 hrow3; clear hb3 hrow3)
    | (refine wpList_load_mid rfl 51 (.tmp 16) rfl (w.heap.size + 1) 0 rfl (c32 (feed h (endTo h.n 8)).st.list) _ (RowIs.range0 H3.out.2.2) Tryd.underlying51 rfl size51 ?_)
    | (go_at_call 28; refine (hashOf_any (feed h (endTo h.n 8)).st.list rfl _).mono ?_; rintro e w4 ⟨rfl, hb4⟩)
    | (refine wpList_store_row rfl 24 (.tmp 2) (.tmp 18) rfl w.heap.size (c8 (sumOf h)).toArray rfl rfl 24 (c8 (List.replicate 32 0)).toArray (H3.out.2.1.below hb4 H3.out.2.1.lt) hs32.out hs33.out (all_oneCell_toArray (c8_one _)) ?_))
  exact bodyPost_ret (v := .agg (c8 (sumOf h)).toArray) (results_cell_row Tryd.results15 _ _ w.heap.size 24 _ (0, 0) _ rfl (RowIs.setRow (H3.out.2.1.below hb4 H3.out.2.1.lt) _) Tryd.underlying24 rfl hs32.out) rfl ⟨rfl, Below.row (H3.out.1.trans (hb4.mono H3.out.1.size)) (Nat.le_refl _) _⟩
set_option maxHeartbeats 400000 in
theorem len_any (gH : Nat) (h : Hs) (hp : h.part.length = 64) (w : World) (hr : RowIs w gH 56 (hcs h)) :
    Calls Tryd.prog 16 #[.pointer (some ⟨gH, 0, none⟩)] w fun e w' => e = .returned (.int .i64 (h.n : Int)) ∧ w' = w := by
  have f72 : w.cell? ⟨gH, 72, none⟩ = some (.int .i64 (h.n : Int)) := hr.cell (hcs_n h hp)
  clear hr
  go_enter Tryd.func16, Tryd.ntmps16
  go_wp2
  go_ret
  exact ⟨rfl, rfl⟩
set_option maxHeartbeats 400000 in
theorem len_nil (w : World) : Calls Tryd.prog 16 #[.pointer none] w fun e w' => e = .returned (.int .i64 0) ∧ w' = w := by
  go_enter Tryd.func16, Tryd.ntmps16
  go_wp2
  go_ret
  exact ⟨rfl, rfl⟩
end Go.Proofs.YtpnhklefoafgkaaDoor
