/-
  THE WALK OF stemmalaw01.ShaBack.
-/
import Derived.Test.YtpnhklefoafgkaaDoorDigits
import Derived.Test.YtpnhklefoafgkaaDoorHand
namespace Go.Proofs.YtpnhklefoafgkaaDoor
open Go.RowKit Sha
theorem RowIs.rangeAll {w : World} {g : Nat} {t : TypeId} {cs : List Value} (r : RowIs w g t cs) : w.rangeAt g 0 cs := fun j _ hv => by rw [Nat.zero_add]; exact r.cell hv
theorem less_is (a b : List UInt8) (ha : a.length = 32) (hb : b.length = 32) (c : Bool) (w : World) (h : ltB a b = c) : Calls Tryd.prog 21 #[.agg (c8 a).toArray, .agg (c8 b).toArray] w fun e w' => e = .returned (.bool c) ∧ Below w.heap.size w w' := by
  have := less_any a b ha hb w
  rw [h] at this
  exact this
theorem hexL_any (a : List UInt8) (ha : a.length = 32) (w : World) : Calls Tryd.prog 19 #[.agg (c8 a).toArray] w fun e w' => e = .returned (.string (strOf (hexL a))) ∧ Below w.heap.size w w' := by
  have := hex_any a ha w
  rw [hexTo_hexL a ha] at this
  exact this
theorem parse_back (a : List UInt8) (ha : a.length = 32) (w : World) : Calls Tryd.prog 17 #[.string (strOf (hexL a))] w fun e w' => e = .returned (.tuple #[.agg (c8 a).toArray, .int .i64 0]) ∧ Below w.heap.size w w' := by
  have := parse_any (hexL a) w
  rw [(parse_hex a ha).1, (parse_hex a ha).2] at this
  exact this
theorem strOf_toList (l : List UInt8) : (strOf l).toList = l := by
  rw [ByteArray.toList_eq]; rfl
theorem lss_hex {o : Oper} {ac : Act} (x y : Operand) (a b : List UInt8) (c : Bool) (hl : a.length = b.length) (hc : ltB a b = c) (hop : o.op = .binOp .lss 9 x y 9) (hx : ac.eval x = .string (strOf (hexL a))) (hy : ac.eval y = .string (strOf (hexL b))) (w : World) : (execOp ac.eval o).run Tryd.prog w = .ok (.value (.bool c)) w := by
  unfold execOp
  simp only [hop, hx, hy]
  simp [go_sem, strOf_toList, bytesLess_hex a b hl, hc]
theorem eql_hash {o : Oper} {ac : Act} (x y : Operand) (a b : List UInt8) (ha : a.length = 32) (hb : b.length = 32) (hop : o.op = .binOp .eql 24 x y 24) (hx : ac.eval x = .agg (c8 a).toArray) (hy : ac.eval y = .agg (c8 b).toArray) (w : World) : (execOp ac.eval o).run Tryd.prog w = .ok (.value (.bool (decide (a = b)))) w := by
  unfold execOp
  simp only [hop, hx, hy]
  simp [go_sem, eq24 a b ha hb]
theorem eql_bools {o : Oper} {ac : Act} (x y : Operand) (c d : Bool) (hcd : c = d) (hop : o.op = .binOp .eql 4 x y 4) (hx : ac.eval x = .bool c) (hy : ac.eval y = .bool d) (w : World) : (execOp ac.eval o).run Tryd.prog w = .ok (.value (.bool true)) w := by
  subst hcd; exact eql_same x y c hop hx hy w
section
variable {ops : Array Oper} {rest : List Oper} {o : Oper} {ac : Act} {w : World} {Q : Exit → Act → World → Prop}
theorem wpListG_load_row (hw : Region.wanted o (yielded ops ac.tmps) = true) (ty : TypeId) (x : Operand) (ho : o.op = .load ty x)
    (g : Nat) (hx : ac.eval x = .pointer (some ⟨g, 0, none⟩)) (t : TypeId) (cs : Array Value) (n : Nat) (e : TypeId) (hg : w.heap[g]? = some (.cells cs t (0, 0)))
    (hu : Tryd.prog.underlying ty = some (.array n e)) (hi : (Tryd.prog.info? ty).map (·.size) = some cs.size)
    (h : wpList Tryd.prog ops Q rest (ac.put o.dst (.agg cs)) w) : wpList Tryd.prog ops Q (o :: rest) ac w :=
  wpList_step fun K hK => by rw [if_pos hw]; exact wp_load_row ty x ho g hx t cs (0, 0) _ hg hu rfl hi (hK _ _ h)
theorem wpListG_built (hw : Region.wanted o (yielded ops ac.tmps) = true) (t : TypeId) (parts : Array (Nat × Operand)) (ho : o.op = .build t parts)
    (cells : Array Value) (hb : Tryd.prog.built t (parts.map fun (i, x) => (i, ac.eval x)).toList = some cells)
    (h : wpList Tryd.prog ops Q rest (ac.put o.dst (.agg cells)) w) : wpList Tryd.prog ops Q (o :: rest) ac w :=
  wpList_step fun K hK => by rw [if_pos hw]; exact wp_build t parts ho (by rw [hb]; rfl) (hK _ _ (by rw [hb]; exact h))
end
def BackRel (a b ph : List UInt8) (w : World) (g7 g9 : Nat) (W : World) : Prop :=
  Below w.heap.size w W ∧ RowIs W w.heap.size 24 (c8 a) ∧ RowIs W (w.heap.size + 1) 24 (c8 b) ∧ RowIs W g7 24 (c8 a) ∧ RowIs W g9 24 (c8 ph)
theorem BackRel.more {a b ph : List UInt8} {w W w1 : World} {g7 g9 : Nat} (h : BackRel a b ph w g7 g9 W) (hb : Below W.heap.size W w1) : BackRel a b ph w g7 g9 w1 :=
  ⟨h.1.trans (hb.mono h.1.size), h.2.1.below hb h.2.1.lt, h.2.2.1.below hb h.2.2.1.lt, h.2.2.2.1.below hb h.2.2.2.1.lt, h.2.2.2.2.below hb h.2.2.2.2.lt⟩
theorem BackRel.drew {a b ph : List UInt8} {w W : World} {g7 g9 : Nat} (h : BackRel a b ph w g7 g9 W) : BackRel a b ph w g7 g9 W.drew := ⟨h.1.drew, h.2.1, h.2.2.1, h.2.2.2.1, h.2.2.2.2⟩
def zHash : List UInt8 := zeroHash
def Back3 (a b : List UInt8) (w : World) (g7 : Nat) (W : World) : Prop := Below w.heap.size w W ∧ RowIs W w.heap.size 24 (c8 a) ∧ RowIs W (w.heap.size + 1) 24 (c8 b) ∧ RowIs W g7 24 (c8 a)
theorem Back3.start {a b : List UInt8} {w w1 w2 : World} (hb1 : Below ((w.alloc (.cells (c8 a).toArray 24)).alloc (.cells (c8 b).toArray 24)).heap.size ((w.alloc (.cells (c8 a).toArray 24)).alloc (.cells (c8 b).toArray 24)) w1) (hb2 : Below w1.heap.size w1 w2) :
    Back3 a b w w2.heap.size ((w2.alloc (.cells (c8 zeroHash).toArray 24)).setRow w2.heap.size (c8 a).toArray) := by
  have h0 := LessRel.start a b w
  have h1 : LessRel a b w w1 := ⟨h0.1.trans (hb1.mono h0.1.size), h0.2.1.below hb1 h0.2.1.lt, h0.2.2.below hb1 h0.2.2.lt⟩
  have h2 : LessRel a b w w2 := ⟨h1.1.trans (hb2.mono h1.1.size), h1.2.1.below hb2 h1.2.1.lt, h1.2.2.below hb2 h1.2.2.lt⟩
  have l1 := h2.2.1.lt
  have l2 := h2.2.2.lt
  exact ⟨Below.row (h2.1.alloc h2.1.size _) (by omega) _, (h2.2.1.alloc _).setRow_other _ (by omega), (h2.2.2.alloc _).setRow_other _ (by omega), (RowIs.new w2 24 (c8 zeroHash)).setRow _⟩
theorem BackRel.start {a b ph : List UInt8} {w W w4 : World} {g7 : Nat} (h : Back3 a b w g7 W) (hb : Below W.heap.size W w4) : BackRel a b ph w g7 w4.heap.size ((w4.alloc (.cells (c8 zeroHash).toArray 24)).setRow w4.heap.size (c8 ph).toArray) := by
  have h1 : Below w.heap.size w w4 := h.1.trans (hb.mono h.1.size)
  have r1 := h.2.1.below hb h.2.1.lt
  have r2 := h.2.2.1.below hb h.2.2.1.lt
  have r3 := h.2.2.2.below hb h.2.2.2.lt
  have l1 := r1.lt
  have l2 := r2.lt
  have l3 := r3.lt
  exact ⟨Below.row (h1.alloc h1.size _) (by omega) _, (r1.alloc _).setRow_other _ (by omega), (r2.alloc _).setRow_other _ (by omega), (r3.alloc _).setRow_other _ (by omega), (RowIs.new w4 24 (c8 zeroHash)).setRow _⟩
set_option maxRecDepth 100000 in
set_option maxHeartbeats 800000 in
theorem back_At (a b l : List UInt8) (ha : a.length = 32) (hb : b.length = 32) (w : World) (ht : Tab w) (hpe : parseE l = 0) (hlab : ltB a b = true) :
    Calls Tryd.prog 8 #[.agg (c8 a).toArray, .agg (c8 b).toArray, .string (strOf l)] w fun e w' => e = .returned (.bool true) ∧ Below w.heap.size w w' := by
  have hdec0 := ltB_tri a b (by omega)
  rw [hlab] at hdec0
  have hdec : decide (a = b) = false := by rw [hdec0]; simp
  have HDEC := show Hid _ from hdec
  clear hdec0 hdec
  have hpa := parse_any l
  have hhx : ∀ W, Calls Tryd.prog 19 #[.agg (c8 (parseH l)).toArray] W fun e w' => e = .returned (.string (strOf l)) ∧ Below W.heap.size W w' := fun W => by
    have := hexL_any (parseH l) (parseH_len l) W
    rw [hexL_parse l hpe] at this
    exact this
  obtain ⟨ph, hph, hp, hhx⟩ : ∃ ph : List UInt8, ph.length = 32 ∧ (∀ W, Calls Tryd.prog 17 #[.string (strOf l)] W fun e w' => e = .returned (.tuple #[.agg (c8 ph).toArray, .int .i64 0]) ∧ Below W.heap.size W w') ∧
      ∀ W, Calls Tryd.prog 19 #[.agg (c8 ph).toArray] W fun e w' => e = .returned (.string (strOf l)) ∧ Below W.heap.size W w' := ⟨parseH l, parseH_len l, fun W => by have := hpa W; rw [hpe] at this; exact this, hhx⟩
  clear hpa hpe
  have HP := show Hid _ from hp
  have HX := show Hid _ from hhx
  clear hp hhx
  have haa : ∀ W : World, (Op.equalIn 10000 24 (.agg (c8 a).toArray) (.agg (c8 a).toArray)).run Tryd.prog W = .ok true W := fun W => by
    rw [eq24 a a ha ha, decide_eq_true rfl]
  have HAA := show Hid _ from haa
  have HT : Hid (Tab w) := ht
  have r0 : Hid (LessRel a b w ((w.alloc (.cells (c8 a).toArray 24)).alloc (.cells (c8 b).toArray 24))) := LessRel.start a b w
  have sa : (Tryd.prog.info? 24).map (·.size) = some (c8 a).length := by rw [c8_len, ha]; exact size24
  have sb : (Tryd.prog.info? 24).map (·.size) = some (c8 b).length := by rw [c8_len, hb]; exact size24
  have sp : (Tryd.prog.info? 24).map (·.size) = some (c8 ph).length := by rw [c8_len, hph]; exact size24
  have hsa : (Tryd.prog.info? 24).map (·.size) = some (c8 a).toArray.size := by simpa using sa
  have hsp : (Tryd.prog.info? 24).map (·.size) = some (c8 ph).toArray.size := by simpa using sp
  have hz1 : (c8 zeroHash).toArray.size = (c8 a).toArray.size := by simp [c8_len, ha]; rfl
  have hz2 : (c8 zeroHash).toArray.size = (c8 ph).toArray.size := by simp [c8_len, hph]; rfl
  have HLAB := show Hid _ from hlab
  clear ht haa hlab
  go_enter Tryd.func8, Tryd.ntmps8
  go_wp2_with (first
    | (refine wpList_load_row rfl 24 (.tmp 3) rfl w.heap.size rfl 24 (c8 a).toArray (0, 0) _ r0.out.2.1 Tryd.underlying24 rfl hsa ?_)
    | (go_at_call 19; refine (hexL_any a ha _).mono ?_; rintro e w1 ⟨rfl, hb1⟩))
  refine (parse_back a ha _).mono ?_
  rintro e w2 ⟨rfl, hb2⟩
  go_wp2_with (first
    | (refine wpList_store_row rfl 24 (.tmp 7) (.tmp 15) rfl w2.heap.size (c8 a).toArray rfl rfl 24 (c8 zeroHash).toArray (RowIs.new w2 24 (c8 zeroHash)) hsa hz1 (all_oneCell_toArray (c8_one _)) ?_
       refine with_world (p := fun W => wpList _ _ _ _ _ W) (fun W => Back3 a b w w2.heap.size W) (Back3.start hb1 hb2) ?_
       intro W3 hB3
       have HB3 := show Hid _ from hB3
       clear hB3 hb1 hb2))
  generalize w2.heap.size = g7 at *
  refine (HP.out _).mono ?_
  rintro e w4 ⟨rfl, hb4⟩
  go_wp2_with (first
    | (refine wpList_store_row rfl 24 (.tmp 9) (.tmp 20) rfl w4.heap.size (c8 ph).toArray rfl rfl 24 (c8 zeroHash).toArray (RowIs.new w4 24 (c8 zeroHash)) hsp hz2 (all_oneCell_toArray (c8_one _)) ?_
       refine with_world (p := fun W => wpList _ _ _ _ _ W) (fun W => BackRel a b ph w g7 w4.heap.size W) (BackRel.start HB3.out hb4) ?_
       intro W5 hB5
       have HB5 := show Hid _ from hB5
       clear hB5 hb4
       have haa := HAA.out
       skip)
    | (refine wpListG_load_row rfl 24 (.tmp 7) rfl g7 rfl 24 (c8 a).toArray _ _ HB5.out.2.2.2.1 Tryd.underlying24 hsa ?_)
    | (refine wpListG_load_row rfl 24 (.tmp 3) rfl w.heap.size rfl 24 (c8 a).toArray _ _ HB5.out.2.1 Tryd.underlying24 hsa ?_)
    | (refine wpListG_load_row rfl 24 (.tmp 9) rfl w4.heap.size rfl 24 (c8 ph).toArray _ _ HB5.out.2.2.2.2 Tryd.underlying24 hsp ?_)
    | (refine wpListG_built rfl 24 #[] rfl (c8 zHash).toArray (by kernel_rfl) ?_)
    | (go_at_call 19; refine (HX.out _).mono ?_; rintro e w6 ⟨rfl, hb6⟩))
  have HB : Hid (BackRel a b ph w g7 w4.heap.size w6) := BackRel.more (show BackRel a b ph w g7 w4.heap.size W5 from HB5.out) hb6
  generalize w4.heap.size = g9 at *
  have hlab := HLAB.out
  have hdec := HDEC.out
  refine wp_region_noPanic ?_
  refine wp_region_held_drew (S := fun W => BackRel a b ph w g7 g9 W) (by kernel_rfl) (HB.out.drew) ?_
  intro hS0
  refine tkLoad 0 48 24 (.tmp 3) (w.heap.size) 0 (c8 a) (fuel := 28) rfl (by kernel_rfl) (by kernel_rfl) (by kernel_rfl) (by kernel_rfl) (by kernel_rfl) noPanic_false (by kernel_rfl) (by kernel_rfl) _ (fun _ h => RowIs.rangeAll h.2.1) Tryd.underlying24 rfl sa hS0 ?_
  refine tkLoad 1 49 24 (.tmp 4) (w.heap.size + 1) 0 (c8 b) (fuel := 27) rfl (by kernel_rfl) (by kernel_rfl) (by kernel_rfl) (by kernel_rfl) (by kernel_rfl) noPanic_false (by kernel_rfl) (by kernel_rfl) _ (fun _ h => RowIs.rangeAll h.2.2.1) Tryd.underlying24 rfl sb hS0 ?_
  refine tkLoad 3 51 24 (.tmp 3) (w.heap.size) 0 (c8 a) (fuel := 26) rfl (by kernel_rfl) (by kernel_rfl) (by kernel_rfl) (by kernel_rfl) (by kernel_rfl) noPanic_false (by kernel_rfl) (by kernel_rfl) _ (fun _ h => RowIs.rangeAll h.2.1) Tryd.underlying24 rfl sa hS0 ?_
  refine tkLoad 5 53 24 (.tmp 4) (w.heap.size + 1) 0 (c8 b) (fuel := 25) rfl (by kernel_rfl) (by kernel_rfl) (by kernel_rfl) (by kernel_rfl) (by kernel_rfl) noPanic_false (by kernel_rfl) (by kernel_rfl) _ (fun _ h => RowIs.rangeAll h.2.2.1) Tryd.underlying24 rfl sb hS0 ?_
  refine tkCall 2 50 21 #[.agg (c8 a).toArray, .agg (c8 b).toArray] (.bool true) _ (fuel := 24) rfl (by kernel_rfl) (by kernel_rfl) (by kernel_rfl) (fun _ => by kernel_rfl) (less_is a b ha hb _ _ hlab) ?_
  intro wc1 hb1
  have hS1 := BackRel.more hS0 hb1
  refine ⟨hS1, ?_⟩
  refine tkCall 4 52 19 #[.agg (c8 a).toArray] (.string (strOf (hexL a))) _ (fuel := 23) rfl (by kernel_rfl) (by kernel_rfl) (by kernel_rfl) (fun _ => by kernel_rfl) (hexL_any a ha _) ?_
  intro wc2 hb2
  have hS2 := BackRel.more hS1 hb2
  refine ⟨hS2, ?_⟩
  refine tkCall 6 54 19 #[.agg (c8 b).toArray] (.string (strOf (hexL b))) _ (fuel := 22) rfl (by kernel_rfl) (by kernel_rfl) (by kernel_rfl) (fun _ => by kernel_rfl) (hexL_any b hb _) ?_
  intro wc3 hb3
  have hS3 := BackRel.more hS2 hb3
  refine ⟨hS3, ?_⟩
  refine tk 7 55 (.bool true) (fuel := 21) rfl (by kernel_rfl) (by kernel_rfl) (by kernel_rfl) (by kernel_rfl) noPanic_false (by kernel_rfl) (fun w _ => lss_hex (.tmp 52) (.tmp 54) a b _ (by omega) hlab (by kernel_rfl) (by kernel_rfl) (by kernel_rfl) w) hS3 ?_
  refine tk 8 56 (.bool true) (fuel := 20) rfl (by kernel_rfl) (by kernel_rfl) (by kernel_rfl) (by kernel_rfl) noPanic_false (by kernel_rfl) (fun w _ => eql_same (.tmp 50) (.tmp 55) true (by kernel_rfl) (by kernel_rfl) (by kernel_rfl) w) hS3 ?_
  refine tk 9 57 (.bool true) (fuel := 19) rfl (by kernel_rfl) (by kernel_rfl) (by kernel_rfl) (by kernel_rfl) noPanic_false (by kernel_rfl) (fun _ _ => by kernel_rfl) hS3 ?_
  refine tkLoad 10 58 24 (.tmp 3) (w.heap.size) 0 (c8 a) (fuel := 18) rfl (by kernel_rfl) (by kernel_rfl) (by kernel_rfl) (by kernel_rfl) (by kernel_rfl) noPanic_false (by kernel_rfl) (by kernel_rfl) _ (fun _ h => RowIs.rangeAll h.2.1) Tryd.underlying24 rfl sa hS3 ?_
  refine tkLoad 11 59 24 (.tmp 4) (w.heap.size + 1) 0 (c8 b) (fuel := 17) rfl (by kernel_rfl) (by kernel_rfl) (by kernel_rfl) (by kernel_rfl) (by kernel_rfl) noPanic_false (by kernel_rfl) (by kernel_rfl) _ (fun _ h => RowIs.rangeAll h.2.2.1) Tryd.underlying24 rfl sb hS3 ?_
  refine tk 12 60 (.bool (decide (a = b))) (fuel := 16) rfl (by kernel_rfl) (by kernel_rfl) (by kernel_rfl) (by kernel_rfl) noPanic_false (by kernel_rfl) (fun w _ => eql_hash (.tmp 58) (.tmp 59) a b ha hb (by kernel_rfl) (by kernel_rfl) (by kernel_rfl) w) hS3 ?_
  refine tkLoad 13 61 24 (.tmp 3) (w.heap.size) 0 (c8 a) (fuel := 15) rfl (by kernel_rfl) (by kernel_rfl) (by kernel_rfl) (by kernel_rfl) (by kernel_rfl) noPanic_false (by kernel_rfl) (by kernel_rfl) _ (fun _ h => RowIs.rangeAll h.2.1) Tryd.underlying24 rfl sa hS3 ?_
  refine tkLoad 14 62 24 (.tmp 4) (w.heap.size + 1) 0 (c8 b) (fuel := 14) rfl (by kernel_rfl) (by kernel_rfl) (by kernel_rfl) (by kernel_rfl) (by kernel_rfl) noPanic_false (by kernel_rfl) (by kernel_rfl) _ (fun _ h => RowIs.rangeAll h.2.2.1) Tryd.underlying24 rfl sb hS3 ?_
  refine tkCall 15 63 21 #[.agg (c8 a).toArray, .agg (c8 b).toArray] (.bool true) _ (fuel := 13) rfl (by kernel_rfl) (by kernel_rfl) (by kernel_rfl) (fun _ => by kernel_rfl) (less_is a b ha hb _ _ hlab) ?_
  intro wc4 hb4
  have hS4 := BackRel.more hS3 hb4
  refine ⟨hS4, ?_⟩
  refine tk 16 64 (.bool false) (fuel := 12) rfl (by kernel_rfl) (by kernel_rfl) (by kernel_rfl) (by kernel_rfl) noPanic_false (by kernel_rfl) (fun _ _ => by kernel_rfl) hS4 ?_
  refine tk 17 65 (.bool false) (fuel := 11) rfl (by kernel_rfl) (by kernel_rfl) (by kernel_rfl) (by kernel_rfl) noPanic_false (by kernel_rfl) (fun _ _ => by kernel_rfl) hS4 ?_
  refine tkSkip 18 66 (fuel := 10) rfl (by kernel_rfl) (by kernel_rfl) (by kernel_rfl) (by kernel_rfl) noPanic_false (by kernel_rfl) hS4 ?_
  refine tkSkip 19 67 (fuel := 9) rfl (by kernel_rfl) (by kernel_rfl) (by kernel_rfl) (by kernel_rfl) noPanic_false (by kernel_rfl) hS4 ?_
  refine tkSkip 20 68 (fuel := 8) rfl (by kernel_rfl) (by kernel_rfl) (by kernel_rfl) (by kernel_rfl) noPanic_false (by kernel_rfl) hS4 ?_
  refine tkSkip 21 69 (fuel := 7) rfl (by kernel_rfl) (by kernel_rfl) (by kernel_rfl) (by kernel_rfl) noPanic_false (by kernel_rfl) hS4 ?_
  refine tk 22 70 (.bool false) (fuel := 6) rfl (by kernel_rfl) (by kernel_rfl) (by kernel_rfl) (by kernel_rfl) noPanic_false (by kernel_rfl) (fun _ _ => by kernel_rfl) hS4 ?_
  refine tk 23 71 (.bool true) (fuel := 5) rfl (by kernel_rfl) (by kernel_rfl) (by kernel_rfl) (by kernel_rfl) noPanic_false (by kernel_rfl) (fun w _ => eql_bools (.tmp 60) (.tmp 70) (decide (a = b)) false hdec (by kernel_rfl) (by kernel_rfl) (by kernel_rfl) w) hS4 ?_
  refine tk 24 72 (.bool true) (fuel := 4) rfl (by kernel_rfl) (by kernel_rfl) (by kernel_rfl) (by kernel_rfl) noPanic_false (by kernel_rfl) (fun _ _ => by kernel_rfl) hS4 ?_
  refine tk 25 73 (.bool true) (fuel := 3) rfl (by kernel_rfl) (by kernel_rfl) (by kernel_rfl) (by kernel_rfl) noPanic_false (by kernel_rfl) (fun _ _ => by kernel_rfl) hS4 ?_
  refine tkCall 26 74 12 #[] (.bool true) _ (fuel := 2) rfl (by kernel_rfl) (by kernel_rfl) (by kernel_rfl) (fun _ => by kernel_rfl) (awake_any _ (HT.out.below hS4.1 HT.out.1)) ?_
  intro wc5 hb5
  have hS5 := BackRel.more hS4 hb5
  refine ⟨hS5, ?_⟩
  refine tk 27 75 (.bool true) (fuel := 1) rfl (by kernel_rfl) (by kernel_rfl) (by kernel_rfl) (by kernel_rfl) noPanic_false (by kernel_rfl) (fun _ _ => by kernel_rfl) hS5 ?_
  refine tk 28 6 (.bool true) (fuel := 0) rfl (by kernel_rfl) (by kernel_rfl) (by kernel_rfl) (by kernel_rfl) noPanic_false (by kernel_rfl) (fun _ _ => by kernel_rfl) hS5 ?_
  refine wpAnyH_done (by kernel_rfl) (NoPanic.normal ?_) _
  clear hlab hdec
  go_simp
  go_wp2
  go_ret
  exact ⟨rfl, hS5.1⟩
set_option maxRecDepth 100000 in
set_option maxHeartbeats 800000 in
theorem back_Af (a b l : List UInt8) (ha : a.length = 32) (hb : b.length = 32) (w : World) (ht : Tab w) (hpe : parseE l = 0) (hlab : ltB a b = false) :
    Calls Tryd.prog 8 #[.agg (c8 a).toArray, .agg (c8 b).toArray, .string (strOf l)] w fun e w' => e = .returned (.bool true) ∧ Below w.heap.size w w' := by
  have hdec0 := ltB_tri a b (by omega)
  rw [hlab] at hdec0
  have hdec : decide (a = b) = (!ltB b a) := by rw [hdec0]; simp
  have HDEC := show Hid _ from hdec
  clear hdec0 hdec
  have hpa := parse_any l
  have hhx : ∀ W, Calls Tryd.prog 19 #[.agg (c8 (parseH l)).toArray] W fun e w' => e = .returned (.string (strOf l)) ∧ Below W.heap.size W w' := fun W => by
    have := hexL_any (parseH l) (parseH_len l) W
    rw [hexL_parse l hpe] at this
    exact this
  obtain ⟨ph, hph, hp, hhx⟩ : ∃ ph : List UInt8, ph.length = 32 ∧ (∀ W, Calls Tryd.prog 17 #[.string (strOf l)] W fun e w' => e = .returned (.tuple #[.agg (c8 ph).toArray, .int .i64 0]) ∧ Below W.heap.size W w') ∧
      ∀ W, Calls Tryd.prog 19 #[.agg (c8 ph).toArray] W fun e w' => e = .returned (.string (strOf l)) ∧ Below W.heap.size W w' := ⟨parseH l, parseH_len l, fun W => by have := hpa W; rw [hpe] at this; exact this, hhx⟩
  clear hpa hpe
  have HP := show Hid _ from hp
  have HX := show Hid _ from hhx
  clear hp hhx
  have haa : ∀ W : World, (Op.equalIn 10000 24 (.agg (c8 a).toArray) (.agg (c8 a).toArray)).run Tryd.prog W = .ok true W := fun W => by
    rw [eq24 a a ha ha, decide_eq_true rfl]
  have HAA := show Hid _ from haa
  have HT : Hid (Tab w) := ht
  have r0 : Hid (LessRel a b w ((w.alloc (.cells (c8 a).toArray 24)).alloc (.cells (c8 b).toArray 24))) := LessRel.start a b w
  have sa : (Tryd.prog.info? 24).map (·.size) = some (c8 a).length := by rw [c8_len, ha]; exact size24
  have sb : (Tryd.prog.info? 24).map (·.size) = some (c8 b).length := by rw [c8_len, hb]; exact size24
  have sp : (Tryd.prog.info? 24).map (·.size) = some (c8 ph).length := by rw [c8_len, hph]; exact size24
  have hsa : (Tryd.prog.info? 24).map (·.size) = some (c8 a).toArray.size := by simpa using sa
  have hsp : (Tryd.prog.info? 24).map (·.size) = some (c8 ph).toArray.size := by simpa using sp
  have hz1 : (c8 zeroHash).toArray.size = (c8 a).toArray.size := by simp [c8_len, ha]; rfl
  have hz2 : (c8 zeroHash).toArray.size = (c8 ph).toArray.size := by simp [c8_len, hph]; rfl
  have HLAB := show Hid _ from hlab
  clear ht haa hlab
  go_enter Tryd.func8, Tryd.ntmps8
  go_wp2_with (first
    | (refine wpList_load_row rfl 24 (.tmp 3) rfl w.heap.size rfl 24 (c8 a).toArray (0, 0) _ r0.out.2.1 Tryd.underlying24 rfl hsa ?_)
    | (go_at_call 19; refine (hexL_any a ha _).mono ?_; rintro e w1 ⟨rfl, hb1⟩))
  refine (parse_back a ha _).mono ?_
  rintro e w2 ⟨rfl, hb2⟩
  go_wp2_with (first
    | (refine wpList_store_row rfl 24 (.tmp 7) (.tmp 15) rfl w2.heap.size (c8 a).toArray rfl rfl 24 (c8 zeroHash).toArray (RowIs.new w2 24 (c8 zeroHash)) hsa hz1 (all_oneCell_toArray (c8_one _)) ?_
       refine with_world (p := fun W => wpList _ _ _ _ _ W) (fun W => Back3 a b w w2.heap.size W) (Back3.start hb1 hb2) ?_
       intro W3 hB3
       have HB3 := show Hid _ from hB3
       clear hB3 hb1 hb2))
  generalize w2.heap.size = g7 at *
  refine (HP.out _).mono ?_
  rintro e w4 ⟨rfl, hb4⟩
  go_wp2_with (first
    | (refine wpList_store_row rfl 24 (.tmp 9) (.tmp 20) rfl w4.heap.size (c8 ph).toArray rfl rfl 24 (c8 zeroHash).toArray (RowIs.new w4 24 (c8 zeroHash)) hsp hz2 (all_oneCell_toArray (c8_one _)) ?_
       refine with_world (p := fun W => wpList _ _ _ _ _ W) (fun W => BackRel a b ph w g7 w4.heap.size W) (BackRel.start HB3.out hb4) ?_
       intro W5 hB5
       have HB5 := show Hid _ from hB5
       clear hB5 hb4
       have haa := HAA.out
       skip)
    | (refine wpListG_load_row rfl 24 (.tmp 7) rfl g7 rfl 24 (c8 a).toArray _ _ HB5.out.2.2.2.1 Tryd.underlying24 hsa ?_)
    | (refine wpListG_load_row rfl 24 (.tmp 3) rfl w.heap.size rfl 24 (c8 a).toArray _ _ HB5.out.2.1 Tryd.underlying24 hsa ?_)
    | (refine wpListG_load_row rfl 24 (.tmp 9) rfl w4.heap.size rfl 24 (c8 ph).toArray _ _ HB5.out.2.2.2.2 Tryd.underlying24 hsp ?_)
    | (refine wpListG_built rfl 24 #[] rfl (c8 zHash).toArray (by kernel_rfl) ?_)
    | (go_at_call 19; refine (HX.out _).mono ?_; rintro e w6 ⟨rfl, hb6⟩))
  have HB : Hid (BackRel a b ph w g7 w4.heap.size w6) := BackRel.more (show BackRel a b ph w g7 w4.heap.size W5 from HB5.out) hb6
  generalize w4.heap.size = g9 at *
  have hlab := HLAB.out
  have hdec := HDEC.out
  refine wp_region_noPanic ?_
  refine wp_region_held_drew (S := fun W => BackRel a b ph w g7 g9 W) (by kernel_rfl) (HB.out.drew) ?_
  intro hS0
  refine tkLoad 0 48 24 (.tmp 3) (w.heap.size) 0 (c8 a) (fuel := 28) rfl (by kernel_rfl) (by kernel_rfl) (by kernel_rfl) (by kernel_rfl) (by kernel_rfl) noPanic_false (by kernel_rfl) (by kernel_rfl) _ (fun _ h => RowIs.rangeAll h.2.1) Tryd.underlying24 rfl sa hS0 ?_
  refine tkLoad 1 49 24 (.tmp 4) (w.heap.size + 1) 0 (c8 b) (fuel := 27) rfl (by kernel_rfl) (by kernel_rfl) (by kernel_rfl) (by kernel_rfl) (by kernel_rfl) noPanic_false (by kernel_rfl) (by kernel_rfl) _ (fun _ h => RowIs.rangeAll h.2.2.1) Tryd.underlying24 rfl sb hS0 ?_
  refine tkLoad 3 51 24 (.tmp 3) (w.heap.size) 0 (c8 a) (fuel := 26) rfl (by kernel_rfl) (by kernel_rfl) (by kernel_rfl) (by kernel_rfl) (by kernel_rfl) noPanic_false (by kernel_rfl) (by kernel_rfl) _ (fun _ h => RowIs.rangeAll h.2.1) Tryd.underlying24 rfl sa hS0 ?_
  refine tkLoad 5 53 24 (.tmp 4) (w.heap.size + 1) 0 (c8 b) (fuel := 25) rfl (by kernel_rfl) (by kernel_rfl) (by kernel_rfl) (by kernel_rfl) (by kernel_rfl) noPanic_false (by kernel_rfl) (by kernel_rfl) _ (fun _ h => RowIs.rangeAll h.2.2.1) Tryd.underlying24 rfl sb hS0 ?_
  refine tkCall 2 50 21 #[.agg (c8 a).toArray, .agg (c8 b).toArray] (.bool false) _ (fuel := 24) rfl (by kernel_rfl) (by kernel_rfl) (by kernel_rfl) (fun _ => by kernel_rfl) (less_is a b ha hb _ _ hlab) ?_
  intro wc1 hb1
  have hS1 := BackRel.more hS0 hb1
  refine ⟨hS1, ?_⟩
  refine tkCall 4 52 19 #[.agg (c8 a).toArray] (.string (strOf (hexL a))) _ (fuel := 23) rfl (by kernel_rfl) (by kernel_rfl) (by kernel_rfl) (fun _ => by kernel_rfl) (hexL_any a ha _) ?_
  intro wc2 hb2
  have hS2 := BackRel.more hS1 hb2
  refine ⟨hS2, ?_⟩
  refine tkCall 6 54 19 #[.agg (c8 b).toArray] (.string (strOf (hexL b))) _ (fuel := 22) rfl (by kernel_rfl) (by kernel_rfl) (by kernel_rfl) (fun _ => by kernel_rfl) (hexL_any b hb _) ?_
  intro wc3 hb3
  have hS3 := BackRel.more hS2 hb3
  refine ⟨hS3, ?_⟩
  refine tk 7 55 (.bool false) (fuel := 21) rfl (by kernel_rfl) (by kernel_rfl) (by kernel_rfl) (by kernel_rfl) noPanic_false (by kernel_rfl) (fun w _ => lss_hex (.tmp 52) (.tmp 54) a b _ (by omega) hlab (by kernel_rfl) (by kernel_rfl) (by kernel_rfl) w) hS3 ?_
  refine tk 8 56 (.bool true) (fuel := 20) rfl (by kernel_rfl) (by kernel_rfl) (by kernel_rfl) (by kernel_rfl) noPanic_false (by kernel_rfl) (fun w _ => eql_same (.tmp 50) (.tmp 55) false (by kernel_rfl) (by kernel_rfl) (by kernel_rfl) w) hS3 ?_
  refine tk 9 57 (.bool true) (fuel := 19) rfl (by kernel_rfl) (by kernel_rfl) (by kernel_rfl) (by kernel_rfl) noPanic_false (by kernel_rfl) (fun _ _ => by kernel_rfl) hS3 ?_
  refine tkLoad 10 58 24 (.tmp 3) (w.heap.size) 0 (c8 a) (fuel := 18) rfl (by kernel_rfl) (by kernel_rfl) (by kernel_rfl) (by kernel_rfl) (by kernel_rfl) noPanic_false (by kernel_rfl) (by kernel_rfl) _ (fun _ h => RowIs.rangeAll h.2.1) Tryd.underlying24 rfl sa hS3 ?_
  refine tkLoad 11 59 24 (.tmp 4) (w.heap.size + 1) 0 (c8 b) (fuel := 17) rfl (by kernel_rfl) (by kernel_rfl) (by kernel_rfl) (by kernel_rfl) (by kernel_rfl) noPanic_false (by kernel_rfl) (by kernel_rfl) _ (fun _ h => RowIs.rangeAll h.2.2.1) Tryd.underlying24 rfl sb hS3 ?_
  refine tk 12 60 (.bool (decide (a = b))) (fuel := 16) rfl (by kernel_rfl) (by kernel_rfl) (by kernel_rfl) (by kernel_rfl) noPanic_false (by kernel_rfl) (fun w _ => eql_hash (.tmp 58) (.tmp 59) a b ha hb (by kernel_rfl) (by kernel_rfl) (by kernel_rfl) w) hS3 ?_
  refine tkLoad 13 61 24 (.tmp 3) (w.heap.size) 0 (c8 a) (fuel := 15) rfl (by kernel_rfl) (by kernel_rfl) (by kernel_rfl) (by kernel_rfl) (by kernel_rfl) noPanic_false (by kernel_rfl) (by kernel_rfl) _ (fun _ h => RowIs.rangeAll h.2.1) Tryd.underlying24 rfl sa hS3 ?_
  refine tkLoad 14 62 24 (.tmp 4) (w.heap.size + 1) 0 (c8 b) (fuel := 14) rfl (by kernel_rfl) (by kernel_rfl) (by kernel_rfl) (by kernel_rfl) (by kernel_rfl) noPanic_false (by kernel_rfl) (by kernel_rfl) _ (fun _ h => RowIs.rangeAll h.2.2.1) Tryd.underlying24 rfl sb hS3 ?_
  refine tkCall 15 63 21 #[.agg (c8 a).toArray, .agg (c8 b).toArray] (.bool false) _ (fuel := 13) rfl (by kernel_rfl) (by kernel_rfl) (by kernel_rfl) (fun _ => by kernel_rfl) (less_is a b ha hb _ _ hlab) ?_
  intro wc4 hb4
  have hS4 := BackRel.more hS3 hb4
  refine ⟨hS4, ?_⟩
  refine tk 16 64 (.bool true) (fuel := 12) rfl (by kernel_rfl) (by kernel_rfl) (by kernel_rfl) (by kernel_rfl) noPanic_false (by kernel_rfl) (fun _ _ => by kernel_rfl) hS4 ?_
  refine tk 17 65 (.bool true) (fuel := 11) rfl (by kernel_rfl) (by kernel_rfl) (by kernel_rfl) (by kernel_rfl) noPanic_false (by kernel_rfl) (fun _ _ => by kernel_rfl) hS4 ?_
  refine tkLoad 18 66 24 (.tmp 4) (w.heap.size + 1) 0 (c8 b) (fuel := 10) rfl (by kernel_rfl) (by kernel_rfl) (by kernel_rfl) (by kernel_rfl) (by kernel_rfl) noPanic_false (by kernel_rfl) (by kernel_rfl) _ (fun _ h => RowIs.rangeAll h.2.2.1) Tryd.underlying24 rfl sb hS4 ?_
  refine tkLoad 19 67 24 (.tmp 3) (w.heap.size) 0 (c8 a) (fuel := 9) rfl (by kernel_rfl) (by kernel_rfl) (by kernel_rfl) (by kernel_rfl) (by kernel_rfl) noPanic_false (by kernel_rfl) (by kernel_rfl) _ (fun _ h => RowIs.rangeAll h.2.1) Tryd.underlying24 rfl sa hS4 ?_
  refine tkCall 20 68 21 #[.agg (c8 b).toArray, .agg (c8 a).toArray] (.bool (ltB b a)) _ (fuel := 8) rfl (by kernel_rfl) (by kernel_rfl) (by kernel_rfl) (fun _ => by kernel_rfl) (less_any b a hb ha _) ?_
  intro wc5 hb5
  have hS5 := BackRel.more hS4 hb5
  refine ⟨hS5, ?_⟩
  refine tk 21 69 (.bool (!ltB b a)) (fuel := 7) rfl (by kernel_rfl) (by kernel_rfl) (by kernel_rfl) (by kernel_rfl) noPanic_false (by kernel_rfl) (fun _ _ => by kernel_rfl) hS5 ?_
  refine tk 22 70 (.bool (!ltB b a)) (fuel := 6) rfl (by kernel_rfl) (by kernel_rfl) (by kernel_rfl) (by kernel_rfl) noPanic_false (by kernel_rfl) (fun _ _ => by kernel_rfl) hS5 ?_
  refine tk 23 71 (.bool true) (fuel := 5) rfl (by kernel_rfl) (by kernel_rfl) (by kernel_rfl) (by kernel_rfl) noPanic_false (by kernel_rfl) (fun w _ => eql_bools (.tmp 60) (.tmp 70) (decide (a = b)) (!ltB b a) hdec (by kernel_rfl) (by kernel_rfl) (by kernel_rfl) w) hS5 ?_
  refine tk 24 72 (.bool true) (fuel := 4) rfl (by kernel_rfl) (by kernel_rfl) (by kernel_rfl) (by kernel_rfl) noPanic_false (by kernel_rfl) (fun _ _ => by kernel_rfl) hS5 ?_
  refine tk 25 73 (.bool true) (fuel := 3) rfl (by kernel_rfl) (by kernel_rfl) (by kernel_rfl) (by kernel_rfl) noPanic_false (by kernel_rfl) (fun _ _ => by kernel_rfl) hS5 ?_
  refine tkCall 26 74 12 #[] (.bool true) _ (fuel := 2) rfl (by kernel_rfl) (by kernel_rfl) (by kernel_rfl) (fun _ => by kernel_rfl) (awake_any _ (HT.out.below hS5.1 HT.out.1)) ?_
  intro wc6 hb6
  have hS6 := BackRel.more hS5 hb6
  refine ⟨hS6, ?_⟩
  refine tk 27 75 (.bool true) (fuel := 1) rfl (by kernel_rfl) (by kernel_rfl) (by kernel_rfl) (by kernel_rfl) noPanic_false (by kernel_rfl) (fun _ _ => by kernel_rfl) hS6 ?_
  refine tk 28 6 (.bool true) (fuel := 0) rfl (by kernel_rfl) (by kernel_rfl) (by kernel_rfl) (by kernel_rfl) noPanic_false (by kernel_rfl) (fun _ _ => by kernel_rfl) hS6 ?_
  refine wpAnyH_done (by kernel_rfl) (NoPanic.normal ?_) _
  clear hlab hdec
  go_simp
  go_wp2
  go_ret
  exact ⟨rfl, hS6.1⟩
end Go.Proofs.YtpnhklefoafgkaaDoor
