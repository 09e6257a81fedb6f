/-
  THE WALK OF stemmalaw01.ShaDigits.
-/
import Derived.Test.YtpnhklefoafgkaaDoorRefParse
import Derived.Test.YtpnhklefoafgkaaDoorRefHex
import Derived.Test.YtpnhklefoafgkaaDoorHand
namespace Go.Proofs.YtpnhklefoafgkaaDoor
open Go.RowKit Sha
theorem RowIs.rangeAll {w : World} {g : Nat} {t : TypeId} {cs : List Value} (r : RowIs w g t cs) : w.rangeAt g 0 cs := fun j _ hv => by rw [Nat.zero_add]; exact r.cell hv
theorem hexL_any (a : List UInt8) (ha : a.length = 32) (w : World) : Calls Tryd.prog 19 #[.agg (c8 a).toArray] w fun e w' => e = .returned (.string (strOf (hexL a))) ∧ Below w.heap.size w w' := by
  have := hex_any a ha w
  rw [hexTo_hexL a ha] at this
  exact this
theorem eql_str {o : Oper} {ac : Act} (x y : Operand) (c : ByteArray) (hop : o.op = .binOp .eql 9 x y 9) (hx : ac.eval x = .string c) (hy : ac.eval y = .string c) (w : World) : (execOp ac.eval o).run Tryd.prog w = .ok (.value (.bool true)) w := by
  unfold execOp
  simp only [hop, hx, hy]
  simp [go_sem]
theorem eql_int {o : Oper} {ac : Act} (x y : Operand) (c : Int) (hop : o.op = .binOp .eql 3 x y 3) (hx : ac.eval x = .int .i64 c) (hy : ac.eval y = .int .i64 c) (w : World) : (execOp ac.eval o).run Tryd.prog w = .ok (.value (.bool true)) w := by
  unfold execOp
  simp only [hop, hx, hy]
  simp [go_sem]
theorem eql_hash_same {o : Oper} {ac : Act} (x y : Operand) (a : List UInt8) (ha : a.length = 32) (hop : o.op = .binOp .eql 24 x y 24) (hx : ac.eval x = .agg (c8 a).toArray) (hy : ac.eval y = .agg (c8 a).toArray) (w : World) : (execOp ac.eval o).run Tryd.prog w = .ok (.value (.bool true)) w := by
  unfold execOp
  simp only [hop, hx, hy]
  simp [go_sem, eq24 a a ha ha]
def DigRel (a ph : List UInt8) (w : World) (g5 g7 : Nat) (W : World) : Prop :=
  Below w.heap.size w W ∧ RowIs W w.heap.size 24 (c8 a) ∧ RowIs W g5 24 (c8 ph) ∧ RowIs W g7 24 (c8 ph)
theorem DigRel.more {a ph : List UInt8} {w W w1 : World} {g5 g7 : Nat} (h : DigRel a ph w g5 g7 W) (hb : Below W.heap.size W w1) : DigRel a ph w g5 g7 w1 :=
  ⟨h.1.trans (hb.mono h.1.size), h.2.1.below hb h.2.1.lt, h.2.2.1.below hb h.2.2.1.lt, h.2.2.2.below hb h.2.2.2.lt⟩
theorem DigRel.drew {a ph : List UInt8} {w W : World} {g5 g7 : Nat} (h : DigRel a ph w g5 g7 W) : DigRel a ph w g5 g7 W.drew := ⟨h.1.drew, h.2.1, h.2.2.1, h.2.2.2⟩
def Dig3 (a ph : List UInt8) (w : World) (g5 : Nat) (W : World) : Prop := Below w.heap.size w W ∧ RowIs W w.heap.size 24 (c8 a) ∧ RowIs W g5 24 (c8 ph)
theorem Dig3.start {a ph : List UInt8} {w w1 : World} (hb : Below (w.alloc (.cells (c8 a).toArray 24)).heap.size (w.alloc (.cells (c8 a).toArray 24)) w1) : Dig3 a ph w w1.heap.size ((w1.alloc (.cells (c8 zeroHash).toArray 24)).setRow w1.heap.size (c8 ph).toArray) := by
  have h0 : Below w.heap.size w w1 := ((Below.refl _ _).alloc (Nat.le_refl _) _).trans (hb.mono (by simp))
  have r0 := (RowIs.new w 24 (c8 a)).below hb (by simp)
  have l0 := r0.lt
  exact ⟨Below.row (h0.alloc h0.size _) (by omega) _, (r0.alloc _).setRow_other _ (by omega), (RowIs.new w1 24 (c8 zeroHash)).setRow _⟩
theorem DigRel.start {a ph : List UInt8} {w W w4 : World} {g5 : Nat} (h : Dig3 a ph w g5 W) (hb : Below W.heap.size W w4) : DigRel a ph w g5 w4.heap.size ((w4.alloc (.cells (c8 zeroHash).toArray 24)).setRow w4.heap.size (c8 ph).toArray) := by
  have h1 : Below w.heap.size w w4 := h.1.trans (hb.mono h.1.size)
  have r1 := h.2.1.below hb h.2.1.lt
  have r2 := h.2.2.below hb h.2.2.lt
  have l1 := r1.lt
  have l2 := r2.lt
  exact ⟨Below.row (h1.alloc h1.size _) (by omega) _, (r1.alloc _).setRow_other _ (by omega), (r2.alloc _).setRow_other _ (by omega), (RowIs.new w4 24 (c8 zeroHash)).setRow _⟩
set_option maxRecDepth 100000 in
set_option maxHeartbeats 800000 in
theorem digits_any (a l : List UInt8) (ha : a.length = 32) (w : World) (ht : Tab w) :
    Calls Tryd.prog 5 #[.agg (c8 a).toArray, .string (strOf l)] w fun e w' => e = .returned (.bool true) ∧ Below w.heap.size w w' := by
  obtain ⟨pe, ph, hph, h1, h2⟩ : ∃ (pe : Int) (ph : List UInt8), ph.length = 32 ∧ (∀ W, Calls Tryd.prog 17 #[.string (strOf l)] W fun e w' => e = .returned (.tuple #[.agg (c8 ph).toArray, .int .i64 pe]) ∧ Below W.heap.size W w') ∧
      (∀ W, Calls Tryd.prog 18 #[.string (strOf l)] W fun e w' => e = .returned (.tuple #[.agg (c8 ph).toArray, .int .i64 pe]) ∧ Below W.heap.size W w') :=
    ⟨parseE l, parseH l, parseH_len l, parse_any l, refParse_any l⟩
  have H1 := show Hid _ from h1
  have H2 := show Hid _ from h2
  have HT : Hid (Tab w) := ht
  have sa : (Tryd.prog.info? 24).map (·.size) = some (c8 a).length := by rw [c8_len, ha]; exact size24
  have sp : (Tryd.prog.info? 24).map (·.size) = some (c8 ph).length := by rw [c8_len, hph]; exact size24
  have hsp : (Tryd.prog.info? 24).map (·.size) = some (c8 ph).toArray.size := by simpa using sp
  have hz2 : (c8 zeroHash).toArray.size = (c8 ph).toArray.size := by simp [c8_len, hph]; rfl
  clear ht h1 h2
  go_enter Tryd.func5, Tryd.ntmps5
  go_wp2_with fail
  refine (H1.out _).mono ?_
  rintro e w1 ⟨rfl, hb1⟩
  go_wp2_with (first
    | (refine wpList_store_row rfl 24 (.tmp 5) (.tmp 12) rfl w1.heap.size (c8 ph).toArray rfl rfl 24 (c8 zeroHash).toArray (RowIs.new w1 24 (c8 zeroHash)) hsp hz2 (all_oneCell_toArray (c8_one _)) ?_
       refine with_world (p := fun W => wpList _ _ _ _ _ W) (fun W => Dig3 a ph w w1.heap.size W) (Dig3.start hb1) ?_
       intro W3 hB3
       have HB3 := show Hid _ from hB3
       clear hB3 hb1))
  generalize w1.heap.size = g5 at *
  refine (H2.out _).mono ?_
  rintro e w4 ⟨rfl, hb4⟩
  go_wp2_with (first
    | (refine wpList_store_row rfl 24 (.tmp 7) (.tmp 17) rfl w4.heap.size (c8 ph).toArray rfl rfl 24 (c8 zeroHash).toArray (RowIs.new w4 24 (c8 zeroHash)) hsp hz2 (all_oneCell_toArray (c8_one _)) ?_
       refine with_world (p := fun W => wpList _ _ _ _ _ W) (fun W => DigRel a ph w g5 w4.heap.size W) (DigRel.start HB3.out hb4) ?_
       intro W5 hB5
       have HB5 := show Hid _ from hB5
       clear hB5 hb4))
  have HB : Hid (DigRel a ph w g5 w4.heap.size W5) := HB5.out
  generalize w4.heap.size = g7 at *
  refine wp_region_noPanic ?_
  refine wp_region_held_drew (S := fun W => DigRel a ph w g5 g7 W) (by kernel_rfl) (HB.out.drew) ?_
  intro hS0
  refine tkLoad 0 19 24 (.tmp 2) (w.heap.size) 0 (c8 a) (fuel := 18) rfl (by kernel_rfl) (by kernel_rfl) (by kernel_rfl) (by kernel_rfl) (by kernel_rfl) noPanic_false (by kernel_rfl) (by kernel_rfl) _ (fun _ h => RowIs.rangeAll h.2.1) Tryd.underlying24 rfl sa hS0 ?_
  refine tkLoad 2 21 24 (.tmp 2) (w.heap.size) 0 (c8 a) (fuel := 17) rfl (by kernel_rfl) (by kernel_rfl) (by kernel_rfl) (by kernel_rfl) (by kernel_rfl) noPanic_false (by kernel_rfl) (by kernel_rfl) _ (fun _ h => RowIs.rangeAll h.2.1) Tryd.underlying24 rfl sa hS0 ?_
  refine tkCall 1 20 19 #[.agg (c8 a).toArray] (.string (strOf (hexL a))) _ (fuel := 16) rfl (by kernel_rfl) (by kernel_rfl) (by kernel_rfl) (fun _ => by kernel_rfl) (hexL_any a ha _) ?_
  intro wc1 hb1
  have hS1 := DigRel.more hS0 hb1
  refine ⟨hS1, ?_⟩
  refine tkCall 3 22 20 #[.agg (c8 a).toArray] (.string (strOf (hexL a))) _ (fuel := 15) rfl (by kernel_rfl) (by kernel_rfl) (by kernel_rfl) (fun _ => by kernel_rfl) (refHex_any a ha _) ?_
  intro wc2 hb2
  have hS2 := DigRel.more hS1 hb2
  refine ⟨hS2, ?_⟩
  refine tk 4 23 (.bool true) (fuel := 14) rfl (by kernel_rfl) (by kernel_rfl) (by kernel_rfl) (by kernel_rfl) noPanic_false (by kernel_rfl) (fun w _ => eql_str (.tmp 20) (.tmp 22) (strOf (hexL a)) (by kernel_rfl) (by kernel_rfl) (by kernel_rfl) w) hS2 ?_
  refine tk 5 24 (.bool true) (fuel := 13) rfl (by kernel_rfl) (by kernel_rfl) (by kernel_rfl) (by kernel_rfl) noPanic_false (by kernel_rfl) (fun _ _ => by kernel_rfl) hS2 ?_
  refine tkLoad 6 25 24 (.tmp 5) (g5) 0 (c8 ph) (fuel := 12) rfl (by kernel_rfl) (by kernel_rfl) (by kernel_rfl) (by kernel_rfl) (by kernel_rfl) noPanic_false (by kernel_rfl) (by kernel_rfl) _ (fun _ h => RowIs.rangeAll h.2.2.1) Tryd.underlying24 rfl sp hS2 ?_
  refine tkLoad 7 26 24 (.tmp 7) (g7) 0 (c8 ph) (fuel := 11) rfl (by kernel_rfl) (by kernel_rfl) (by kernel_rfl) (by kernel_rfl) (by kernel_rfl) noPanic_false (by kernel_rfl) (by kernel_rfl) _ (fun _ h => RowIs.rangeAll h.2.2.2) Tryd.underlying24 rfl sp hS2 ?_
  refine tk 8 27 (.bool true) (fuel := 10) rfl (by kernel_rfl) (by kernel_rfl) (by kernel_rfl) (by kernel_rfl) noPanic_false (by kernel_rfl) (fun w _ => eql_hash_same (.tmp 25) (.tmp 26) ph hph (by kernel_rfl) (by kernel_rfl) (by kernel_rfl) w) hS2 ?_
  refine tk 9 28 (.bool true) (fuel := 9) rfl (by kernel_rfl) (by kernel_rfl) (by kernel_rfl) (by kernel_rfl) noPanic_false (by kernel_rfl) (fun _ _ => by kernel_rfl) hS2 ?_
  refine tk 10 29 (.bool true) (fuel := 8) rfl (by kernel_rfl) (by kernel_rfl) (by kernel_rfl) (by kernel_rfl) noPanic_false (by kernel_rfl) (fun _ _ => by kernel_rfl) hS2 ?_
  refine tk 11 30 (.int .i64 pe) (fuel := 7) rfl (by kernel_rfl) (by kernel_rfl) (by kernel_rfl) (by kernel_rfl) noPanic_false (by kernel_rfl) (fun _ _ => by kernel_rfl) hS2 ?_
  refine tk 12 31 (.int .i64 pe) (fuel := 6) rfl (by kernel_rfl) (by kernel_rfl) (by kernel_rfl) (by kernel_rfl) noPanic_false (by kernel_rfl) (fun _ _ => by kernel_rfl) hS2 ?_
  refine tk 13 32 (.bool true) (fuel := 5) rfl (by kernel_rfl) (by kernel_rfl) (by kernel_rfl) (by kernel_rfl) noPanic_false (by kernel_rfl) (fun w _ => eql_int (.tmp 30) (.tmp 31) pe (by kernel_rfl) (by kernel_rfl) (by kernel_rfl) w) hS2 ?_
  refine tk 14 33 (.bool true) (fuel := 4) rfl (by kernel_rfl) (by kernel_rfl) (by kernel_rfl) (by kernel_rfl) noPanic_false (by kernel_rfl) (fun _ _ => by kernel_rfl) hS2 ?_
  refine tk 15 34 (.bool true) (fuel := 3) rfl (by kernel_rfl) (by kernel_rfl) (by kernel_rfl) (by kernel_rfl) noPanic_false (by kernel_rfl) (fun _ _ => by kernel_rfl) hS2 ?_
  refine tkCall 16 35 12 #[] (.bool true) _ (fuel := 2) rfl (by kernel_rfl) (by kernel_rfl) (by kernel_rfl) (fun _ => by kernel_rfl) (awake_any _ (HT.out.below hS2.1 HT.out.1)) ?_
  intro wc3 hb3
  have hS3 := DigRel.more hS2 hb3
  refine ⟨hS3, ?_⟩
  refine tk 17 36 (.bool true) (fuel := 1) rfl (by kernel_rfl) (by kernel_rfl) (by kernel_rfl) (by kernel_rfl) noPanic_false (by kernel_rfl) (fun _ _ => by kernel_rfl) hS3 ?_
  refine tk 18 4 (.bool true) (fuel := 0) rfl (by kernel_rfl) (by kernel_rfl) (by kernel_rfl) (by kernel_rfl) noPanic_false (by kernel_rfl) (fun _ _ => by kernel_rfl) hS3 ?_
  refine wpAnyH_done (by kernel_rfl) (NoPanic.normal ?_) _
  go_simp
  go_wp2
  go_ret
  exact ⟨rfl, hS3.1⟩
end Go.Proofs.YtpnhklefoafgkaaDoor
