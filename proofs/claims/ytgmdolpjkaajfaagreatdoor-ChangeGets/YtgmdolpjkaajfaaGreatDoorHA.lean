/-
  HASHES (stemma/hashes, stemmaref06): order, lists, rising lists, sameness.
-/
import Derived.Test.YtgmdolpjkaajfaaGreatDoorOC
import Derived.WalkKit
import Derived.WalkSpells
import Derived.WalkLawsBesides
import Derived.Lib.AppendStr
import Derived.Lib.Strings
import Derived.Lib.Slices
import Derived.Deep.RegionHeld3
import Derived.Deep.Upon
import Derived.ChangeKeysEq
import Derived.Laws.Bits64b
import Derived.Deep.MidRow
import Derived.Great.BuildSlice
import Derived.ProofKit
import Derived.OpenShut
import Derived.ShutString
import Derived.ChangeOld
import Derived.Deep.DeepHandedRow
import Derived.SizedLaws
import Derived.Lib.ReflectliteSwap
import Derived.Sort.Lot0
import Derived.Sort.WalkA
import Derived.Sort.LotA
namespace Go.Proofs.YtgmdolpjkaajfaaGreatDoor.HS
open Leb
open Go.RowKit
section
variable {ops : Array Oper} {Q : Exit → Act → World → Prop} {S : World → Prop} {fuel : Nat} {listed : Array Bool} {a : Act} {w W : World} {oi : Oper}
end
section
variable {o : Oper} {a : Act} {x y : Operand} {w : World}
end
section
variable {ops : Array Oper} {rest : List Oper} {o : Oper} {ac : Act} {w : World} {Q : Exit → Act → World → Prop}
end
end Go.Proofs.YtgmdolpjkaajfaaGreatDoor.HS
namespace Go.Proofs.YtgmdolpjkaajfaaGreatDoor.HS
open Leb
open Go.RowKit
theorem size24 : (Tryz.prog.info? 38).map (·.size) = some 32 := by kernel_rfl
set_option maxRecDepth 100000 in
theorem eq24 (a b : List UInt8) (ha : a.length = 32) (hb : b.length = 32) (w : World) : (Op.equalIn 10000 38 (.agg (c8 a).toArray) (.agg (c8 b).toArray)).run Tryz.prog w = .ok (decide (a = b)) w := by
  obtain ⟨i, hi, hz⟩ := Option.map_eq_some_iff.1 info5
  have h := run_equalIn_array (P := Tryz.prog) w 9999 (c8 a).toArray (c8 b).toArray Tryz.underlying38 hi
  rw [cells5', eqItems5 9998 a b w (List.range 32) (fun i hi => by simp at hi; omega)] at h
  rw [show (10000 : Nat) = 9999 + 1 from rfl, h]
  congr 1
  rw [Bool.eq_iff_iff, decide_eq_true_iff, List.all_eq_true]
  constructor
  · intro hall
    apply List.ext_getElem (by omega)
    intro i h1 h2
    have := hall i (by simp; omega)
    simp [h1, h2] at this
    exact this
  · intro he; subst he; simp

/-- Ahead, at the first byte that differs. -/
def ltB : List UInt8 → List UInt8 → Bool
  | x :: xs, y :: ys => if x = y then ltB xs ys else decide (x < y)
  | _, _ => false
theorem ltB_self : ∀ a : List UInt8, ltB a a = false
  | [] => rfl
  | x :: xs => by simp [ltB, ltB_self xs]
theorem ltB_at : ∀ (a b : List UInt8) (k : Nat), k < a.length → k < b.length → (∀ j, j < k → a.getD j 0 = b.getD j 0) → a.getD k 0 ≠ b.getD k 0 → ltB a b = decide (a.getD k 0 < b.getD k 0)
  | [], _, _, h, _, _, _ => by simp at h
  | _ :: _, [], _, _, h, _, _ => by simp at h
  | x :: xs, y :: ys, 0, _, _, _, hn => by simp at hn; simp [ltB, hn]
  | x :: xs, y :: ys, k + 1, h1, h2, hj, hn => by
    have h0 : x = y := by simpa using hj 0 (by omega)
    have ih := ltB_at xs ys k (by simpa using h1) (by simpa using h2) (fun j hjk => by simpa using hj (j + 1) (by omega)) (by simpa using hn)
    simp [ltB, h0, ih]
theorem all_eq {a b : List UInt8} (ha : a.length = 32) (hb : b.length = 32) (h : ∀ j, j < 32 → a.getD j 0 = b.getD j 0) : a = b := by
  apply List.ext_getElem (by omega)
  intro i h1 h2
  have := h i (by omega)
  simpa [h1, h2] using this
theorem lt_nat (x y : UInt8) : decide (x.toNat < y.toNat) = decide (x < y) := by
  rw [Bool.eq_iff_iff, decide_eq_true_iff, decide_eq_true_iff, UInt8.lt_iff_toNat_lt]
def LessRel (a b : List UInt8) (w : World) (wr : World) : Prop := Below w.heap.size w wr ∧ RowIs wr w.heap.size 38 (c8 a) ∧ RowIs wr (w.heap.size + 1) 38 (c8 b)
theorem LessRel.start (a b : List UInt8) (w : World) : LessRel a b w ((w.alloc (.cells (c8 a).toArray 38)).alloc (.cells (c8 b).toArray 38)) := by
  refine ⟨((Below.refl _ _).alloc (Nat.le_refl _) _).alloc (by simp) _, (RowIs.new w 38 _).alloc _, ?_⟩
  have := RowIs.new (w.alloc (.cells (c8 a).toArray 38)) 38 (c8 b)
  rw [show (w.alloc (.cells (c8 a).toArray 38)).heap.size = w.heap.size + 1 by simp] at this
  exact this
theorem LessRel.drew {a b : List UInt8} {w wr : World} (h : LessRel a b w wr) : LessRel a b w wr.drew := ⟨h.1.drew, h.2.1, h.2.2⟩
theorem eqb_true {x y : UInt8} (h : x = y) : ((x.toNat : Int) == (y.toNat : Int)) = true := by rw [beq_iff_eq, h]
theorem eqb_false {x y : UInt8} (h : ¬ x = y) : ((x.toNat : Int) == (y.toNat : Int)) = false := by
  rw [beq_eq_false_iff_ne]; intro e; exact h (UInt8.toNat_inj.1 (by omega))
theorem neb_false {x y : UInt8} (h : x = y) : ((x.toNat : Int) != (y.toNat : Int)) = false := by simp [h]
theorem neb_true {x y : UInt8} (h : ¬ x = y) : ((x.toNat : Int) != (y.toNat : Int)) = true := by
  rw [bne_iff_ne]; intro e; exact h (UInt8.toNat_inj.1 (by omega))
set_option maxRecDepth 100000 in
set_option maxHeartbeats 800000 in
theorem less_any (a b : List UInt8) (ha : a.length = 32) (hb : b.length = 32) (w : World) :
    Calls Tryz.prog 96 #[.agg (c8 a).toArray, .agg (c8 b).toArray] w fun e w' => e = .returned (.bool (ltB a b)) ∧ Below w.heap.size w w' := by
  have hsa : (c8 a).toArray.size = 32 := by simp [c8_len, ha]
  have hsb : (c8 b).toArray.size = 32 := by simp [c8_len, hb]
  have r0 : Hid (LessRel a b w ((w.alloc (.cells (c8 a).toArray 38)).alloc (.cells (c8 b).toArray 38))) := LessRel.start a b w
  have heq := fun W => eq24 a b ha hb W
  by_cases hab : a = b
  · subst hab
    simp only [decide_true] at heq
    rw [ltB_self]
    go_enter Tryz.func96, Tryz.ntmps96
    go_wp2_with (first
      | (refine wpList_load_row rfl 38 (.tmp 2) rfl w.heap.size rfl 38 (c8 a).toArray (0, 0) _ r0.out.2.1 Tryz.underlying38 rfl (by rw [hsa]; exact size24) ?_)
      | (refine wpList_load_row rfl 38 (.tmp 3) rfl (w.heap.size + 1) rfl 38 (c8 a).toArray (0, 0) _ r0.out.2.2 Tryz.underlying38 rfl (by rw [hsa]; exact size24) ?_))
    go_ret
    exact ⟨rfl, r0.out.1⟩
  · have hf : decide (a = b) = false := decide_eq_false hab
    simp only [hf] at heq
    have HAB : Hid (¬ a = b) := hab
    clear hab hf
    go_enter Tryz.func96, Tryz.ntmps96
    go_wp2_with (first
      | (refine wpList_load_row rfl 38 (.tmp 2) rfl w.heap.size rfl 38 (c8 a).toArray (0, 0) _ r0.out.2.1 Tryz.underlying38 rfl (by rw [hsa]; exact size24) ?_)
      | (refine wpList_load_row rfl 38 (.tmp 3) rfl (w.heap.size + 1) rfl 38 (c8 b).toArray (0, 0) _ r0.out.2.2 Tryz.underlying38 rfl (by rw [hsb]; exact size24) ?_))
    go_loopw [5] (fun i wr => ∃ k : Nat, k < 32 ∧ i = .int .i64 k ∧ (∀ j, j < k → a.getD j 0 = b.getD j 0) ∧ LessRel a b w wr) (fun i _ => 32 - (intOf i).toNat)
    case atStart => exact ⟨0, by omega, rfl, fun j hj => absurd hj (Nat.not_lt_zero _), r0.out⟩
    case round =>
      clear r0 heq
      obtain ⟨k, hk, rfl, hall, hR⟩ := hrel
      have bk : (k : Int) < 32 := by omega
      obtain ⟨x, X, e0⟩ : ∃ x : UInt8, Hid (x = a.getD k 0) ∧ wr.cell? ⟨w.heap.size, k, none⟩ = some (.int .u8 (x.toNat : Int)) := ⟨_, rfl, hR.2.1.cell (c8_get _ k (by omega))⟩
      obtain ⟨y, Y, e1⟩ : ∃ y : UInt8, Hid (y = b.getD k 0) ∧ wr.cell? ⟨w.heap.size + 1, k, none⟩ = some (.int .u8 (y.toNat : Int)) := ⟨_, rfl, hR.2.2.cell (c8_get _ k (by omega))⟩
      have HALL := show Hid _ from hall
      have HR : Hid (LessRel a b w wr) := hR
      clear hall hR
      by_cases hxy : x = y
      · have hb1 := eqb_true hxy
        have HN : Hid (∀ j, j < k + 1 → a.getD j 0 = b.getD j 0) := fun j hj => by
          rcases Nat.lt_or_ge j k with h | h
          · exact HALL.out j h
          · obtain rfl : j = k := by omega
            rw [← X.out, ← Y.out]; exact hxy
        have hk1 : k + 1 < 32 := by
          rcases Nat.lt_or_ge (k + 1) 32 with h | h
          · exact h
          · exact absurd (all_eq ha hb (fun j hj => HN.out j (by omega))) HAB.out
        clear hxy
        go_wp2
        go_region_held3 (fun w' => w'.cell? ⟨w.heap.size, k, none⟩ = some (.int .u8 (x.toNat : Int)) ∧ w'.cell? ⟨w.heap.size + 1, k, none⟩ = some (.int .u8 (y.toNat : Int))) (go_keep) (fail)
        go_wp2
        go_roundw
        case rel => exact ⟨k + 1, hk1, by go_num, HN.out, HR.out.drew⟩
        case measure => simp [intOf]; omega
      · have hb1 := eqb_false hxy
        have HV : Hid (ltB a b = decide (x.toNat < y.toNat)) := by
          unfold Hid
          rw [lt_nat, X.out, Y.out]
          exact ltB_at a b k (by omega) (by omega) HALL.out (by rw [← X.out, ← Y.out]; exact hxy)
        clear hxy
        go_wp2
        go_region_held3 (fun w' => w'.cell? ⟨w.heap.size, k, none⟩ = some (.int .u8 (x.toNat : Int)) ∧ w'.cell? ⟨w.heap.size + 1, k, none⟩ = some (.int .u8 (y.toNat : Int))) (go_keep) (fail)
        go_wp2
        have e0' : wr.drew.cell? ⟨w.heap.size, k, none⟩ = some (.int .u8 (x.toNat : Int)) := e0
        have e1' : wr.drew.cell? ⟨w.heap.size + 1, k, none⟩ = some (.int .u8 (y.toNat : Int)) := e1
        go_region_held3 (fun w' => w'.cell? ⟨w.heap.size, k, none⟩ = some (.int .u8 (x.toNat : Int)) ∧ w'.cell? ⟨w.heap.size + 1, k, none⟩ = some (.int .u8 (y.toNat : Int))) (go_keep) (fail)
        go_wp2
        go_ret
        refine ⟨?_, HR.out.1.drew.drew⟩
        rw [HV.out]; rfl
set_option maxRecDepth 100000 in
set_option maxHeartbeats 800000 in
theorem refLess_any (a b : List UInt8) (ha : a.length = 32) (hb : b.length = 32) (w : World) :
    Calls Tryz.prog 91 #[.agg (c8 a).toArray, .agg (c8 b).toArray] w fun e w' => e = .returned (.bool (ltB a b)) ∧ Below w.heap.size w w' := by
  have r0 : Hid (LessRel a b w ((w.alloc (.cells (c8 a).toArray 38)).alloc (.cells (c8 b).toArray 38))) := LessRel.start a b w
  go_enter Tryz.func91, Tryz.ntmps91
  go_wp2
  go_loopw [5] (fun i wr => ∃ k : Nat, k ≤ 32 ∧ i = .int .i64 k ∧ (∀ j, j < k → a.getD j 0 = b.getD j 0) ∧ LessRel a b w wr) (fun i _ => 32 - (intOf i).toNat)
  case atStart => exact ⟨0, by omega, rfl, fun j hj => absurd hj (Nat.not_lt_zero _), r0.out⟩
  case round =>
    clear r0
    obtain ⟨k, hk, rfl, hall, hR⟩ := hrel
    by_cases hlt : k < 32
    · have bk : (k : Int) < 32 := by omega
      obtain ⟨x, X, e0⟩ : ∃ x : UInt8, Hid (x = a.getD k 0) ∧ wr.cell? ⟨w.heap.size, k, none⟩ = some (.int .u8 (x.toNat : Int)) := ⟨_, rfl, hR.2.1.cell (c8_get _ k (by omega))⟩
      obtain ⟨y, Y, e1⟩ : ∃ y : UInt8, Hid (y = b.getD k 0) ∧ wr.cell? ⟨w.heap.size + 1, k, none⟩ = some (.int .u8 (y.toNat : Int)) := ⟨_, rfl, hR.2.2.cell (c8_get _ k (by omega))⟩
      have HALL := show Hid _ from hall
      have HR : Hid (LessRel a b w wr) := hR
      clear hall hR
      by_cases hxy : x = y
      · have hb1 := neb_false hxy
        have HN : Hid (∀ j, j < k + 1 → a.getD j 0 = b.getD j 0) := fun j hj => by
          rcases Nat.lt_or_ge j k with h | h
          · exact HALL.out j h
          · obtain rfl : j = k := by omega
            rw [← X.out, ← Y.out]; exact hxy
        clear hxy
        go_wp2
        go_region_held3 (fun w' => w'.cell? ⟨w.heap.size, k, none⟩ = some (.int .u8 (x.toNat : Int)) ∧ w'.cell? ⟨w.heap.size + 1, k, none⟩ = some (.int .u8 (y.toNat : Int))) (go_keep) (fail)
        go_wp2
        go_roundw
        case rel => exact ⟨k + 1, by omega, by go_num, HN.out, HR.out.drew⟩
        case measure => simp [intOf]; omega
      · have hb1 := neb_true hxy
        have HV : Hid (ltB a b = decide (x.toNat < y.toNat)) := by
          unfold Hid
          rw [lt_nat, X.out, Y.out]
          exact ltB_at a b k (by omega) (by omega) HALL.out (by rw [← X.out, ← Y.out]; exact hxy)
        clear hxy
        go_wp2
        go_region_held3 (fun w' => w'.cell? ⟨w.heap.size, k, none⟩ = some (.int .u8 (x.toNat : Int)) ∧ w'.cell? ⟨w.heap.size + 1, k, none⟩ = some (.int .u8 (y.toNat : Int))) (go_keep) (fail)
        go_wp2
        have e0' : wr.drew.cell? ⟨w.heap.size, k, none⟩ = some (.int .u8 (x.toNat : Int)) := e0
        have e1' : wr.drew.cell? ⟨w.heap.size + 1, k, none⟩ = some (.int .u8 (y.toNat : Int)) := e1
        go_region_held3 (fun w' => w'.cell? ⟨w.heap.size, k, none⟩ = some (.int .u8 (x.toNat : Int)) ∧ w'.cell? ⟨w.heap.size + 1, k, none⟩ = some (.int .u8 (y.toNat : Int))) (go_keep) (fail)
        go_wp2
        go_ret
        refine ⟨?_, HR.out.1.drew.drew⟩
        rw [HV.out]; rfl
    · obtain rfl : k = 32 := by omega
      have HV : Hid (ltB a b = false) := by unfold Hid; rw [all_eq ha hb (fun j hj => hall j hj)]; exact ltB_self b
      have HR : Hid (LessRel a b w wr) := hR
      clear hall hR
      go_wp2
      go_ret
      refine ⟨?_, HR.out.1⟩
      rw [HV.out]; rfl
end Go.Proofs.YtgmdolpjkaajfaaGreatDoor.HS
namespace Go.Proofs.YtgmdolpjkaajfaaGreatDoor.HS
open Leb
open Go.RowKit
abbrev Hs := List UInt8
def All32 (l : List Hs) : Prop := ∀ h ∈ l, h.length = 32
theorem All32.nil : All32 [] := fun _ h => by simp at h
theorem All32.cons {h : Hs} {l : List Hs} (hh : h.length = 32) (hl : All32 l) : All32 (h :: l) := fun x hx => by
  rcases List.mem_cons.1 hx with rfl | hx
  · exact hh
  · exact hl x hx
theorem All32.tail {h : Hs} {l : List Hs} (hl : All32 (h :: l)) : All32 l := fun x hx => hl x (by simp [hx])
theorem All32.at {l : List Hs} (hl : All32 l) {j : Nat} {h : Hs} (hj : l[j]? = some h) : h.length = 32 := hl h (List.mem_of_getElem? hj)
theorem flat_len : ∀ {l : List Hs}, All32 l → l.flatten.length = l.length * 32
  | [], _ => rfl
  | h :: l, hl => by
    rw [List.flatten_cons, List.length_append, hl h (by simp), flat_len hl.tail, List.length_cons]; omega
theorem flat_at : ∀ {l : List Hs}, All32 l → ∀ {j : Nat} {h : Hs}, l[j]? = some h → ∀ k, k < 32 → l.flatten.getD (j * 32 + k) 0 = h.getD k 0
  | [], _, _, _, hj, _, _ => by simp at hj
  | x :: l, hl, 0, h, hj, k, hk => by
    obtain rfl : x = h := by simpa using hj
    have h0 := hl x (by simp)
    rw [List.flatten_cons]
    simp only [Nat.zero_mul, Nat.zero_add, List.getD]
    rw [List.getElem?_append_left (by omega)]
  | x :: l, hl, j + 1, h, hj, k, hk => by
    have h0 := hl x (by simp)
    have ih := flat_at hl.tail (j := j) (by simpa using hj) k hk
    rw [← ih, List.flatten_cons]
    simp only [List.getD]
    rw [List.getElem?_append_right (by omega), h0]
    congr 2; omega
/-- The hashes lie at a slice's head. -/
def HsAt (w : World) (ao : Option Addr) (l : List Hs) : Prop := BytesAt w ao l.flatten
theorem HsAt.after {w w' : World} {ao : Option Addr} {l : List Hs} (h : HsAt w ao l) (ha : After w w') : HsAt w' ao l := BytesAt.after h ha
theorem flat_ne {l : List Hs} (h32 : All32 l) (h : l ≠ []) : l.flatten ≠ [] := fun e => by
  have := congrArg List.length e
  rw [flat_len h32] at this
  simp only [List.length_nil] at this
  exact h (List.eq_nil_of_length_eq_zero (by omega))
theorem HsAt.get {w : World} {ao : Option Addr} {l : List Hs} (h : HsAt w ao l) (h32 : All32 l) (hne : l ≠ []) : ∃ b o, ao = some ⟨b, o, none⟩ ∧ ∀ j x, l[j]? = some x → w.rangeAt b (o + j * 32) (c8 x) := by
  obtain ⟨b, o, e, hc⟩ := h (flat_ne h32 hne)
  refine ⟨b, o, e, fun j x hj k v hv => ?_⟩
  have hx := h32.at hj
  have hjl := (List.getElem?_eq_some_iff.1 hj).1
  have hk : k < 32 := by have := (List.getElem?_eq_some_iff.1 hv).1; rw [c8_len] at this; omega
  rw [c8_get x k (by omega)] at hv
  have := hc (j * 32 + k) (by rw [flat_len h32]; omega)
  rw [flat_at h32 hj k hk] at this
  rw [Nat.add_assoc, this, hv]
theorem range_after {w w' : World} {b o : Nat} {cs : List Value} (h : w.rangeAt b o cs) (ha : After w w') : w'.rangeAt b o cs := fun j v hv => (Below.cell ha (p := ⟨b, o + j, none⟩) (World.block_lt_of_cell? w _ (h j v hv))).trans (h j v hv)
/-- A hash as a value. -/
def hv (h : Hs) : Value := .agg (c8 h).toArray
theorem size24' {h : Hs} (hh : h.length = 32) : (Tryz.prog.info? 38).map (·.size) = some (c8 h).length := by rw [size24, c8_len, hh]
theorem size24a {h : Hs} (hh : h.length = 32) : (Tryz.prog.info? 38).map (·.size) = some (c8 h).toArray.size := by rw [size24]; simp [c8_len, hh]
theorem info24 : ∃ i z, Tryz.prog.info? 38 = some i ∧ i.zero = some z ∧ i.size = 32 ∧ i.bytes = 32 ∧ z.cells.size = 32 ∧ z.cells = Array.replicate 32 (.int .u8 0) := by
  have h : (Tryz.prog.info? 38).map (fun i => (i.zero.map (·.cells), i.size, i.bytes)) = some (some (Array.replicate 32 (.int .u8 0)), 32, 32) := by kernel_rfl
  obtain ⟨i, hi, hz⟩ := Option.map_eq_some_iff.1 h
  simp only [Prod.mk.injEq] at hz
  obtain ⟨hz, hs, hb⟩ := hz
  obtain ⟨z, hz1, hz2⟩ := Option.map_eq_some_iff.1 hz
  exact ⟨i, z, hi, hz1, hs, hb, by rw [hz2]; rfl, hz2⟩
theorem hs_one (h : Hs) : (c8 h).toArray.all (·.oneCell') = true := all_oneCell_toArray (c8_one h)
/-- A row of hashes of the call's own. -/
def OwnH (w : World) (base : Nat) (v : Value) (l : List Hs) : Prop := w.ownsRow base 38 32 v l.length (c8 l.flatten)
theorem OwnH.nil (w : World) (base : Nat) : OwnH w base (.slice none 0 0) [] := World.ownsRow_nil w base 38 32
theorem OwnH.at {w : World} {base : Nat} {v : Value} {l : List Hs} (h : OwnH w base v l) : ∃ ao cap, v = .slice ao l.length cap ∧ HsAt w ao l ∧ l.length ≤ cap ∧ (∀ a, ao = some a → base ≤ a.block ∧ a.block < w.heap.size) ∧ (ao = none → cap = 0) := by
  rcases h.2 with ⟨hv, h0⟩ | ⟨g, cap, cur, hv, hb, hg, hnc, _, hcs, ht⟩
  · have : l = [] := List.eq_nil_of_length_eq_zero h0
    subst this
    exact ⟨none, 0, hv, fun h => absurd rfl h, Nat.le_refl _, fun a ha => (by cases ha), fun _ => rfl⟩
  · subst hv
    have hl := h.1
    rw [c8_len] at hl
    refine ⟨_, cap, rfl, fun _ => ⟨g, 0, rfl, fun j hj => ?_⟩, hnc, fun a ha => by cases ha; exact ⟨hb, (World.ownsRow.lt h g rfl).2⟩, fun h => by cases h⟩
    rw [Nat.zero_add, World.ownsRow.cellAt h j (by omega), c8_get _ j hj]
theorem OwnH.lt {w : World} {base : Nat} {v : Value} {l : List Hs} (h : OwnH w base v l) : ∀ k, v.ownBlock = some k → base ≤ k ∧ k < w.heap.size := World.ownsRow.lt h
theorem OwnH.same {w w' : World} {base : Nat} {v : Value} {l : List Hs} (h : OwnH w base v l) (hh : ∀ g, v.ownBlock = some g → w'.heap[g]? = w.heap[g]?) : OwnH w' base v l := by
  refine ⟨h.1, ?_⟩
  rcases h.2 with hn | ⟨g, cap, cur, rfl, q1, q2, rest⟩
  · exact .inl hn
  · exact .inr ⟨g, cap, cur, rfl, q1, by rw [hh g rfl]; exact q2, rest⟩
theorem OwnH.after {w w' : World} {base : Nat} {v : Value} {l : List Hs} (h : OwnH w base v l) (ha : After w w') : OwnH w' base v l := h.same (fun g hg => ha.block g (h.lt g hg).2)
theorem OwnH.mono {w : World} {base base' : Nat} {v : Value} {l : List Hs} (h : OwnH w base v l) (hb : base' ≤ base) : OwnH w base' v l := by
  refine ⟨h.1, ?_⟩
  rcases h.2 with hn | ⟨g, cap, cur, e, q1, rest⟩
  · exact .inl hn
  · exact .inr ⟨g, cap, cur, e, by omega, rest⟩
/-- append(own, l...), l a slice whose hashes are known, or nil. -/
theorem wpList_append_hashes {w : World} {ops : Array Oper} {rest : List Oper} {o : Oper} {a : Act} {Q : Exit → Act → World → Prop} (hgd : o.guard = none) (s x : Operand)
    (ho : o.op = .call { callee := .builtin .append, args := #[s, x], argTypes := #[22, 22] })
    (base : Nat) (v : Value) (l : List Hs) (hs : a.eval s = v) (hown : OwnH w base v l)
    (ao : Option Addr) (c : Nat) (news : List Hs) (h32 : All32 news) (k : Nat) (hk : news.length = k) (hx : a.eval x = .slice ao k c) (hnews : HsAt w ao news)
    (hbytes : (l.length + news.length) * 32 ≤ 140737488355328) (hbase : base ≤ w.heap.size)
    (h : ∀ v' w', OwnH w' base v' (l ++ news) → w.grownBy w' v.ownBlock → wpList Tryz.prog ops Q rest (a.put o.dst v') w') : wpList Tryz.prog ops Q (o :: rest) a w := by
  subst hk
  obtain ⟨i, z, hi, hz, hsz, hby, hzs, _⟩ := info24
  cases ao with
  | some ad =>
    refine wpList_append_own w hgd s x 22 ho base 38 i z 32 32 Tryz.underlying22 hi hz hsz hby hzs (by omega) v l.length (c8 l.flatten) hs hown ad news.length c (c8 news.flatten) hx (by rw [c8_len, flat_len h32]) ?_ (c8_one _) (by unfold maxLen; omega) hbytes hbase ?_
    · intro j u hu
      have hj := (List.getElem?_eq_some_iff.1 hu).1
      rw [c8_len] at hj
      obtain ⟨b, o, he, hc⟩ := hnews (by intro h; rw [h] at hj; simp at hj)
      cases he
      rw [c8_get _ j hj] at hu
      rw [Addr.add_mid, hc j hj, hu]
    · intro v' w' h1 h2 _
      exact h v' w' (by unfold OwnH; rw [List.flatten_append, c8_append, List.length_append]; exact h1) h2
  | none =>
    obtain rfl : news = [] := Classical.byContradiction fun hn => by obtain ⟨b, o, he, _⟩ := hnews (flat_ne h32 hn); cases he
    rw [List.append_nil] at h
    have hk := h v w hown ⟨rfl, rfl, rfl, Nat.le_refl _, fun _ _ _ => rfl⟩
    obtain ⟨ao', cap', hv, _, hle, _⟩ := hown.at
    refine wpList_plain hgd fun K hK => ?_
    have hr := run_append_nothing (P := Tryz.prog) w 22 22 o.type 38 i Tryz.underlying22 hi ao' l.length cap' hle (.slice none 0 c) (Src.ofNil w Tryz.underlying22 c)
    unfold Oper.wp execOp
    rw [← hv] at hr
    simp only [List.length_nil] at hx
    simp only [ho, resolve, invoke, builtin, Sem.run_bind, Sem.run_pure, Result.andThen_ok, List.map_toArray, List.map_cons, List.map_nil, hs, hx, hr]
    exact hK _ _ hk
theorem HsAt.one (w : World) (h : Hs) : HsAt (w.alloc (.cells (c8 h).toArray 38)) (some ⟨w.heap.size, 0, none⟩) [h] := fun _ =>
  ⟨w.heap.size, 0, rfl, fun j hj => by
    have hr := RowIs.new w 38 (c8 h)
    have hf : [h].flatten = h := by simp
    rw [hf] at hj ⊢
    rw [Nat.zero_add]; exact hr.cell (c8_get h j hj)⟩
end Go.Proofs.YtgmdolpjkaajfaaGreatDoor.HS
namespace Go.Proofs.YtgmdolpjkaajfaaGreatDoor.HS
open Leb
open Go.ChangeShapes Go.WideShapes Go.ChangeAt Go.RowKit
end Go.Proofs.YtgmdolpjkaajfaaGreatDoor.HS
namespace Go.Proofs.YtgmdolpjkaajfaaGreatDoor.HS
open Leb
open Go.RowKit Go.Lib
section
variable {ops : Array Oper} {Q : Exit → Act → World → Prop} {T : World → Prop} {fuel : Nat} {listed : Array Bool} {a : Act} {w : World} {oi : Oper}
theorem tkCallS (i d : Nat) (f : FuncId) (args : Array Value) (R : Value → World → Prop) (hi : ops[i]? = some oi) (hd : oi.dst = some d) (hr : Region.ready .any ops listed = [i])
    (hw : Region.wanted oi (yielded ops a.tmps) = true) (hrun : ∀ w, (execOp a.eval oi).run Tryz.prog w = .ok (.enter f args) w)
    (hc : Calls Tryz.prog f args w fun e w' => ∃ v, e = .returned v ∧ R v w')
    (h : ∀ v w', R v w' → T w' ∧ wpAnyH Tryz.prog .any ops Q T fuel (listed.setIfInBounds i true) (a.put (some d) v) w') : wpAnyH Tryz.prog .any ops Q T (fuel + 1) listed a w :=
  wpAnyH_all hr (by simp) (fun j hj => by
    obtain rfl : j = i := by simpa using hj
    refine wpOp_step hi (fun K' hK => ?_)
    rw [if_pos hw]
    unfold Oper.wp
    rw [hrun, Oper.upon_enter]
    refine hc.mono (fun e w' ⟨v, he, hr⟩ => ?_)
    subst he
    rw [hd]
    exact hK _ _ (h v w' hr))
theorem x_ld24 {x : Operand} {g p : Nat} {h : Hs} (h32 : h.length = 32) (hop : oi.op = .load 38 x) (hx : a.eval x = .pointer (some ⟨g, p, none⟩)) (hc : w.rangeAt g p (c8 h)) : (execOp a.eval oi).run Tryz.prog w = .ok (.value (hv h)) w := by
  unfold execOp
  simp only [hop, hx, Instr.loadAt, Instr.sureAddr, Sem.run_bind, Sem.run_pure, Result.andThen_ok, run_loadVar_mid w g p 38 (c8 h) _ hc Tryz.underlying38 rfl (size24' h32)]
  rfl
theorem x_idx22 {x y : Operand} {b f n c k : Nat} (hop : oi.op = .indexAddr 22 x y) (hx : a.eval x = .slice (some ⟨b, f, none⟩) n c) (hy : a.eval y = .int .i64 (k : Int)) (hk : k < n) : (execOp a.eval oi).run Tryz.prog w = .ok (.value (.pointer (some ⟨b, f + k * 32, none⟩))) w := by
  have hk' : (k : Int) < (n : Int) := by omega
  obtain ⟨i, hi, hz⟩ := Option.map_eq_some_iff.1 size24
  unfold execOp; simp only [hop, hx, hy]; simp [go_sem, hk', hi, hz, sizeOf, typeInfo]
end
end Go.Proofs.YtgmdolpjkaajfaaGreatDoor.HS
namespace Go.Proofs.YtgmdolpjkaajfaaGreatDoor.HS
open Leb
open Go.RowKit Go.Lib
theorem OwnH.of_cells {W : World} {g cap n : Nat} {l : List Hs} (h32 : All32 l) (hl : l.length = n) {cur : Array Value} (hg : W.heap[g]? = some (.cells cur 38 (0, 0))) (hc : cur.size = cap * 32) (hn : n ≤ cap) (hm : cap ≤ maxLen)
    (hcell : ∀ j, j < n * 32 → W.cell? ⟨g, j, none⟩ = some (.int .u8 ((l.flatten.getD j 0).toNat : Int))) : OwnH W g (.slice (some ⟨g, 0, none⟩) n cap) l := by
  subst hl
  refine ⟨by rw [c8_len, flat_len h32], .inr ⟨g, cap, cur, rfl, Nat.le_refl _, hg, hn, hm, hc, ?_⟩⟩
  apply List.ext_getElem?
  intro j
  by_cases hj : j < l.length * 32
  · rw [List.getElem?_take_of_lt hj, c8_get _ j (by rw [flat_len h32]; exact hj)]
    have := hcell j hj
    rw [cell_of_row W g j cur 38 (0, 0) hg] at this
    simpa using this
  · rw [List.getElem?_eq_none (by simp; omega), List.getElem?_eq_none (by rw [c8_len, flat_len h32]; omega)]
theorem setCells_row {W : World} {g : Nat} {cur : Array Value} {t : TypeId} (hg : W.heap[g]? = some (.cells cur t (0, 0))) (o : Nat) (vs : List Value) : ∃ cur', (W.setCells g o vs).heap[g]? = some (.cells cur' t (0, 0)) ∧ cur'.size = cur.size := by
  have hk := (World.keptBut_setCells g (may := fun _ => True) vs o W (fun _ _ => trivial)).2.2 g (Array.getElem?_eq_some_iff.1 hg).1
  rw [hg] at hk
  cases hh : (W.setCells g o vs).heap[g]? with
  | none => rw [hh] at hk; simp at hk
  | some ob =>
    rw [hh] at hk
    cases ob with
    | cells c' t' fr' =>
      simp only at hk
      obtain ⟨rfl, rfl, h3, _⟩ := hk
      exact ⟨c', rfl, h3⟩
    | _ => simp at hk
theorem OwnH.row {W : World} {g base n cap : Nat} {l : List Hs} (h : OwnH W base (.slice (some ⟨g, 0, none⟩) n cap) l) : ∃ cur, W.heap[g]? = some (.cells cur 38 (0, 0)) ∧ cur.size = cap * 32 ∧ n ≤ cap ∧ cap ≤ maxLen ∧ l.length = n := by
  rcases h.2 with ⟨e, _⟩ | ⟨g', cap', cur, e, hb, hg, hnc, hcm, hcs, ht⟩
  · cases e
  · injection e with e1 e2 e3
    injection e1 with e1
    injection e1 with e1
    subst e1; subst e3
    exact ⟨cur, hg, hcs, by omega, hcm, e2.symm⟩
end Go.Proofs.YtgmdolpjkaajfaaGreatDoor.HS
namespace Go.Proofs.YtgmdolpjkaajfaaGreatDoor.HS
open Leb
open Go.RowKit Go.Maps
/-- What a map's reading has. -/
def SetD (D : DataW Unit) (l : List Hs) : Prop := ∀ h : Hs, Maps.has D (.string h) = true ↔ h ∈ l
theorem isKey_string (h : Hs) : WideAt.IsKeyLit (.string h) := trivial
theorem SetD.put {D : DataW Unit} {l : List Hs} (hD : Maps.IsMap D) (h : SetD D l) (x : Hs) (d : DataW Unit) : SetD (D.put (.string x) d) (l ++ [x]) := fun y => by
  by_cases e : y = x
  · subst e
    rw [has_put_same hD (isKey_string y)]; simp
  · rw [has_put_other (fun e2 => e (by injection e2))]
    rw [h y]; simp [e]
theorem cell_at {w w' : World} {p : Addr} {v : Value} (h : After w w') (hc : w.cell? p = some v) : w'.cell? p = some v := (Below.cell h (block_lt_of_cell hc)).trans hc
end Go.Proofs.YtgmdolpjkaajfaaGreatDoor.HS
namespace Go.Proofs.YtgmdolpjkaajfaaGreatDoor.HS
open Leb
open Go.RowKit Go.Maps
section
variable {w : World} {ops : Array Oper} {rest : List Oper} {o : Oper} {a : Act} {Q : Exit → Act → World → Prop}
end
theorem c8_flat : ∀ ls : List Hs, ls.flatMap (fun x => (hv x).cells.toList) = c8 ls.flatten
  | [] => rfl
  | x :: ls => by rw [List.flatMap_cons, c8_flat ls, List.flatten_cons, c8_append]; rfl
/-- A literal of hashes. -/
theorem bs22s (W : World) {ls : List Hs} (h32 : All32 ls) (hn : ls ≠ []) (hsm : ls.length ≤ 100) (parts : Array (Nat × Value)) (hp : parts.toList = ((ls.map hv).zipIdx 0).map fun x => (x.2, x.1)) : (Instr.buildSlice 22 ls.length parts).run Tryz.prog W = .ok (.slice (some ⟨W.heap.size, 0, none⟩) ls.length ls.length) (W.alloc (.cells (c8 ls.flatten).toArray 38)) := by
  obtain ⟨i, z, hi, hz, hsz, hby, hzs, _⟩ := info24
  have hl : 0 < ls.length := List.length_pos_iff.2 hn
  refine run_buildSlice (P := Tryz.prog) W 22 38 ls.length parts (c8 ls.flatten).toArray i z Tryz.underlying22 hi hz (by rw [hsz]; omega) (by rw [hsz]; omega) ?_
  rw [hsz, hp]
  have := Great.fill_whole (s := 32) (by omega) (ls.map hv) ((Array.range (ls.length * 32)).map (z.cells[· % z.cells.size]!)) (fun v hv' => by obtain ⟨x, hx, rfl⟩ := List.mem_map.1 hv'; simp [hv, Value.cells, c8_len, h32 x hx]) (by simp)
  refine Eq.trans this ?_
  rw [List.flatMap_map, c8_flat]
theorem bs22 (W : World) {x : Hs} (h32 : x.length = 32) : (Instr.buildSlice 22 1 #[(0, hv x)]).run Tryz.prog W = .ok (.slice (some ⟨W.heap.size, 0, none⟩) 1 1) (W.alloc (.cells (c8 x).toArray 38)) := by
  have := bs22s W (ls := [x]) (All32.cons h32 All32.nil) (by simp) (by simp) #[(0, hv x)] rfl
  simpa using this
theorem wpList_of_run {w w' : World} {ops : Array Oper} {rest : List Oper} {o : Oper} {a : Act} {Q : Exit → Act → World → Prop} {v : Value} (hg : o.guard = none) (hr : (execOp a.eval o).run Tryz.prog w = .ok (.value v) w') (h : wpList Tryz.prog ops Q rest (a.put o.dst v) w') : wpList Tryz.prog ops Q (o :: rest) a w :=
  wpList_plain hg fun K hK => by unfold Oper.wp; rw [hr]; exact hK _ _ h
theorem wpList_bs22 {w : World} {ops : Array Oper} {rest : List Oper} {o : Oper} {a : Act} {Q : Exit → Act → World → Prop} (hg : o.guard = none) (x : Operand) (ho : o.op = .buildSlice 22 1 #[(0, x)]) {h : Hs} (h32 : h.length = 32) (hx : a.eval x = hv h) (K : wpList Tryz.prog ops Q rest (a.put o.dst (.slice (some ⟨w.heap.size, 0, none⟩) 1 1)) (w.alloc (.cells (c8 h).toArray 38))) : wpList Tryz.prog ops Q (o :: rest) a w :=
  wpList_of_run hg (by unfold execOp; simp [ho, hx, bs22 w h32]) K
theorem fresh_row (w : World) (h : Hs) (cs : Array Value) : ((w.alloc (.cells cs 38)).setRow w.heap.size (c8 h).toArray).heap[w.heap.size]? = some (.cells (c8 h).toArray 38 (0, 0)) ∧ After w ((w.alloc (.cells cs 38)).setRow w.heap.size (c8 h).toArray) ∧ ((w.alloc (.cells cs 38)).setRow w.heap.size (c8 h).toArray).heap.size = w.heap.size + 1 :=
  ⟨setRow_heap _ _ _ _ 38 _ (heap_alloc_new w _), Below.row (after_alloc (After.refl w) _) (Nat.le_refl _) _, by simp⟩
end Go.Proofs.YtgmdolpjkaajfaaGreatDoor.HS
namespace Go.Proofs.YtgmdolpjkaajfaaGreatDoor.HS
open Leb
open Go.RowKit Go.Maps
section
variable {a : Act} {w : World} {oi : Oper}
theorem x_ne24 {x y : Operand} {h k : Hs} (hh : h.length = 32) (hk : k.length = 32) (hop : oi.op = .binOp .neq 38 x y 38) (hx : a.eval x = hv h) (hy : a.eval y = hv k) : (execOp a.eval oi).run Tryz.prog w = .ok (.value (.bool (!decide (h = k)))) w := by
  have he := eq24 h k hh hk w
  unfold execOp
  simp only [hop, hx, hy]
  unfold hv
  simp [go_sem, he]
end
theorem eq_of_pre {la lb : List Hs} {n : Nat} (ha : la.length = n) (hb : lb.length = n) (h : ∀ j, j < n → la[j]? = lb[j]?) : la = lb := by
  apply List.ext_getElem?
  intro j
  by_cases hj : j < n
  · exact h j hj
  · rw [List.getElem?_eq_none (by omega), List.getElem?_eq_none (by omega)]
structure SmI (w : World) (la lb : List Hs) (i : Nat) (wr : World) : Prop where
  aft : After w wr
  pre : ∀ j, j < i → la[j]? = lb[j]?

set_option maxRecDepth 100000 in
set_option maxHeartbeats 3200000 in
theorem same13 (ao bo : Option Addr) (ca cb : Nat) (la lb : List Hs) (ha32 : All32 la) (hb32 : All32 lb) (n m : Nat) (hla : la.length = n) (hlb : lb.length = m) (hbig : n ≤ 1152921504606846976) (w : World) (hA : HsAt w ao la) (hB : HsAt w bo lb) :
    Calls Tryz.prog 29 #[.slice ao n ca, .slice bo m cb] w fun e w' => e = .returned (.bool (decide (la = lb))) ∧ After w w' := by
  by_cases hnm : n = m
  · subst hnm
    have HFA : Hid (HsAt w ao la ∧ All32 la ∧ la.length = n) := ⟨hA, ha32, hla⟩
    have HFB : Hid (HsAt w bo lb ∧ All32 lb ∧ lb.length = n) := ⟨hB, hb32, hlb⟩
    clear hA hB ha32 hb32 hla hlb
    go_enter Tryz.func29, Tryz.ntmps29
    go_wp2_with fail
    go_loopw [5] (fun iv wr => ∃ i : Nat, i ≤ n ∧ iv = .int .i64 (i : Int) ∧ Hid (SmI w la lb i wr)) (fun iv _ => n - (intOf iv).toNat)
    case atStart => exact ⟨0, Nat.zero_le _, rfl, After.refl w, fun j hj => by omega⟩
    case round =>
      obtain ⟨i, hin, rfl, HI⟩ := hrel
      by_cases hlt : i < n
      · have hii : (i : Int) < (n : Int) := by omega
        obtain ⟨x, hx⟩ : ∃ x, la[i]? = some x := ⟨_, List.getElem?_eq_getElem (by rw [HFA.out.2.2]; exact hlt)⟩
        obtain ⟨y, hy⟩ : ∃ y, lb[i]? = some y := ⟨_, List.getElem?_eq_getElem (by rw [HFB.out.2.2]; exact hlt)⟩
        obtain ⟨xb, xo, hxa, hxr⟩ := HFA.out.1.get HFA.out.2.1 (by intro e; rw [e] at hx; simp at hx)
        obtain ⟨yb, yo, hya, hyr⟩ := HFB.out.1.get HFB.out.2.1 (by intro e; rw [e] at hy; simp at hy)
        subst hxa hya
        have HX : Hid (x.length = 32 ∧ wr.rangeAt xb (xo + i * 32) (c8 x)) := ⟨HFA.out.2.1.at hx, range_after (hxr i x hx) HI.out.aft⟩
        have HY : Hid (y.length = 32 ∧ wr.rangeAt yb (yo + i * 32) (c8 y)) := ⟨HFB.out.2.1.at hy, range_after (hyr i y hy) HI.out.aft⟩
        have HXY : Hid (la[i]? = some x ∧ lb[i]? = some y) := ⟨hx, hy⟩
        clear hx hy hxr hyr
        go_wp2_with fail
        refine wp_region_noPanic ?_
        refine wp_region_held_drew (S := After wr) (by kernel_rfl) (After.drew (After.refl wr)) ?_
        intro hS0
        refine tk 0 17 (.slice (some ⟨xb, xo, none⟩) n ca) (fuel := 8) rfl (by kernel_rfl) (by kernel_rfl) (by kernel_rfl) (by kernel_rfl) noPanic_false (by kernel_rfl) (fun _ _ => by kernel_rfl) hS0 ?_
        refine tk 1 18 (.int .i64 (i : Int)) (fuel := 7) rfl (by kernel_rfl) (by kernel_rfl) (by kernel_rfl) (by kernel_rfl) noPanic_false (by kernel_rfl) (fun _ _ => by kernel_rfl) hS0 ?_
        refine tk 2 19 (.pointer (some ⟨xb, xo + i * 32, none⟩)) (fuel := 6) rfl (by kernel_rfl) (by kernel_rfl) (by kernel_rfl) (by kernel_rfl) noPanic_false (by kernel_rfl) (fun W _ => x_idx22 (n := n) (c := ca) (x := .tmp 17) (y := .tmp 18) (by kernel_rfl) (by kernel_rfl) (by kernel_rfl) hlt) hS0 ?_
        refine tk 3 20 (hv x) (fuel := 5) rfl (by kernel_rfl) (by kernel_rfl) (by kernel_rfl) (by kernel_rfl) noPanic_false (by kernel_rfl) (fun W hW => x_ld24 HX.out.1 (x := .tmp 19) (g := xb) (p := xo + i * 32) (by kernel_rfl) (by kernel_rfl) (range_after HX.out.2 hW)) hS0 ?_
        refine tk 4 21 (.slice (some ⟨yb, yo, none⟩) n cb) (fuel := 4) rfl (by kernel_rfl) (by kernel_rfl) (by kernel_rfl) (by kernel_rfl) noPanic_false (by kernel_rfl) (fun _ _ => by kernel_rfl) hS0 ?_
        refine tk 5 22 (.int .i64 (i : Int)) (fuel := 3) rfl (by kernel_rfl) (by kernel_rfl) (by kernel_rfl) (by kernel_rfl) noPanic_false (by kernel_rfl) (fun _ _ => by kernel_rfl) hS0 ?_
        refine tk 6 23 (.pointer (some ⟨yb, yo + i * 32, none⟩)) (fuel := 2) rfl (by kernel_rfl) (by kernel_rfl) (by kernel_rfl) (by kernel_rfl) noPanic_false (by kernel_rfl) (fun W _ => x_idx22 (n := n) (c := cb) (x := .tmp 21) (y := .tmp 22) (by kernel_rfl) (by kernel_rfl) (by kernel_rfl) hlt) hS0 ?_
        refine tk 7 24 (hv y) (fuel := 1) rfl (by kernel_rfl) (by kernel_rfl) (by kernel_rfl) (by kernel_rfl) noPanic_false (by kernel_rfl) (fun W hW => x_ld24 HY.out.1 (x := .tmp 23) (g := yb) (p := yo + i * 32) (by kernel_rfl) (by kernel_rfl) (range_after HY.out.2 hW)) hS0 ?_
        refine tk 8 25 (.bool (!decide (x = y))) (fuel := 0) rfl (by kernel_rfl) (by kernel_rfl) (by kernel_rfl) (by kernel_rfl) noPanic_false (by kernel_rfl) (fun W hW => x_ne24 HX.out.1 HY.out.1 (x := .tmp 20) (y := .tmp 24) (by kernel_rfl) (by kernel_rfl) (by kernel_rfl)) hS0 ?_
        refine wpAnyH_done (by kernel_rfl) (NoPanic.normal ?_) _
        have HA1 : Hid (After w wr.drew) := After.trans HI.out.aft hS0
        clear hS0
        by_cases hxy : x = y
        · have hd : (!decide (x = y)) = false := by simp [hxy]
          rw [hd]
          go_simp
          go_wp2
          go_roundw
          case rel => exact ⟨i + 1, by omega, by go_num, HA1.out, fun j hj => by
            by_cases e : j = i
            · subst e; rw [HXY.out.1, HXY.out.2, hxy]
            · exact HI.out.pre j (by omega)⟩
          case measure => simp [intOf]; omega
        · have hd : (!decide (x = y)) = true := by simp [hxy]
          rw [hd]
          go_simp
          go_wp2
          go_ret
          refine ⟨?_, HA1.out⟩
          have : ¬ la = lb := fun e => by have h1 := HXY.out; rw [e] at h1; exact hxy (Option.some.inj (h1.1.symm.trans h1.2))
          simp [this]
      · have hii : ¬ (i : Int) < (n : Int) := by omega
        go_wp2
        go_ret
        refine ⟨?_, HI.out.aft⟩
        have : la = lb := eq_of_pre HFA.out.2.2 HFB.out.2.2 (fun j hj => HI.out.pre j (by omega))
        simp [this]
  · have hnmi : ¬ (n : Int) = (m : Int) := by omega
    have : ¬ la = lb := fun e => hnm (by rw [← hla, ← hlb, e])
    go_enter Tryz.func29, Tryz.ntmps29
    go_wp2
    go_ret
    exact ⟨by simp [this], After.refl w⟩
/-- What Rising tells. -/
def upB : List Hs → Bool
  | x :: y :: l => ltB x y && upB (y :: l)
  | _ => true
theorem upB_pre : ∀ (l : List Hs), (∀ (j : Nat) (x y : Hs), l[j]? = some x → l[j + 1]? = some y → ltB x y = true) → upB l = true
  | [], _ => rfl
  | [_], _ => rfl
  | x :: y :: l, h => by
    unfold upB
    rw [h 0 x y rfl rfl, upB_pre (y :: l) (fun j p q hp hq => h (j + 1) p q hp hq)]; rfl
theorem upB_at : ∀ (l : List Hs), upB l = true → ∀ (j : Nat) (x y : Hs), l[j]? = some x → l[j + 1]? = some y → ltB x y = true
  | [], _, j, _, _, hj, _ => by simp at hj
  | [_], _, j, _, _, _, hj => by simp at hj
  | x :: y :: l, h, 0, p, q, hp, hq => by
    unfold upB at h
    simp only [Bool.and_eq_true] at h
    simp at hp hq; subst hp hq; exact h.1
  | x :: y :: l, h, j + 1, p, q, hp, hq => by
    unfold upB at h
    simp only [Bool.and_eq_true] at h
    exact upB_at (y :: l) h.2 j p q (by simpa using hp) (by simpa using hq)
structure RiI (w : World) (l : List Hs) (i : Nat) (wr : World) : Prop where
  aft : After w wr
  pre : ∀ (j : Nat) (x y : Hs), j + 1 < i → l[j]? = some x → l[j + 1]? = some y → ltB x y = true

theorem x_sub1 {a : Act} {w : World} {oi : Oper} {k i : Nat} {x : Operand} (hop : oi.op = .binOp .sub 3 x (.const (.int .i64 1)) 3) (hx : a.eval x = .int .i64 (k : Int)) (hi : k = i + 1) (hk : k < 4611686018427387904) : (execOp a.eval oi).run Tryz.prog w = .ok (.value (.int .i64 (i : Int))) w := by
  subst hi
  unfold execOp
  simp only [hop, hx]
  simp [go_sem, Act.eval, IntKind.wrap, IntKind.bits, IntKind.signed]
  omega
set_option maxRecDepth 100000 in
set_option maxHeartbeats 3200000 in
theorem rising15 (ao : Option Addr) (ca : Nat) (l : List Hs) (h32 : All32 l) (n : Nat) (hl : l.length = n) (hbig : n ≤ 1152921504606846976) (w : World) (hA : HsAt w ao l) :
    Calls Tryz.prog 64 #[.slice ao n ca] w fun e w' => e = .returned (.bool (upB l)) ∧ After w w' := by
  have HFA : Hid (HsAt w ao l ∧ All32 l ∧ l.length = n) := ⟨hA, h32, hl⟩
  clear hA h32 hl
  go_enter Tryz.func64, Tryz.ntmps64
  go_wp2_with fail
  go_loopw [3] (fun iv wr => ∃ k : Nat, 1 ≤ k ∧ k ≤ n + 1 ∧ iv = .int .i64 (k : Int) ∧ Hid (RiI w l k wr)) (fun iv _ => n + 1 - (intOf iv).toNat)
  case atStart => exact ⟨1, Nat.le_refl _, by omega, rfl, After.refl w, fun j _ _ hj => by omega⟩
  case round =>
    obtain ⟨k, hk1, hkn, rfl, HI⟩ := hrel
    by_cases hlt : k < n
    · have hii : (k : Int) < (n : Int) := by omega
      obtain ⟨i, hik⟩ : ∃ i, k = i + 1 := ⟨k - 1, by omega⟩
      have hin' : i < n := by omega
      obtain ⟨x, hx⟩ : ∃ x, l[i]? = some x := ⟨_, List.getElem?_eq_getElem (by rw [HFA.out.2.2]; omega)⟩
      obtain ⟨y, hy⟩ : ∃ y, l[i + 1]? = some y := ⟨_, List.getElem?_eq_getElem (by rw [HFA.out.2.2]; omega)⟩
      obtain ⟨xb, xo, hxa, hxr⟩ := HFA.out.1.get HFA.out.2.1 (by intro e; rw [e] at hx; simp at hx)
      subst hxa
      have HX : Hid (x.length = 32 ∧ wr.rangeAt xb (xo + i * 32) (c8 x)) := ⟨HFA.out.2.1.at hx, range_after (hxr i x hx) HI.out.aft⟩
      have HY : Hid (y.length = 32 ∧ wr.rangeAt xb (xo + k * 32) (c8 y)) := ⟨HFA.out.2.1.at hy, by rw [hik]; exact range_after (hxr (i + 1) y hy) HI.out.aft⟩
      have HXY : Hid (l[i]? = some x ∧ l[i + 1]? = some y) := ⟨hx, hy⟩
      have HIK : Hid (k = i + 1) := hik
      clear hx hy hxr hik
      go_wp2_with fail
      refine wp_region_noPanic ?_
      refine wp_region_held_drew (S := After wr) (by kernel_rfl) (After.drew (After.refl wr)) ?_
      intro hS0
      refine tk 0 10 (.slice (some ⟨xb, xo, none⟩) n ca) (fuel := 10) rfl (by kernel_rfl) (by kernel_rfl) (by kernel_rfl) (by kernel_rfl) noPanic_false (by kernel_rfl) (fun _ _ => by kernel_rfl) hS0 ?_
      refine tk 1 11 (.int .i64 (k : Int)) (fuel := 9) rfl (by kernel_rfl) (by kernel_rfl) (by kernel_rfl) (by kernel_rfl) noPanic_false (by kernel_rfl) (fun _ _ => by kernel_rfl) hS0 ?_
      refine tk 2 12 (.int .i64 (i : Int)) (fuel := 8) rfl (by kernel_rfl) (by kernel_rfl) (by kernel_rfl) (by kernel_rfl) noPanic_false (by kernel_rfl) (fun W _ => x_sub1 (k := k) (i := i) (x := .tmp 11) (by kernel_rfl) (by kernel_rfl) HIK.out (by omega)) hS0 ?_
      refine tk 3 13 (.pointer (some ⟨xb, xo + i * 32, none⟩)) (fuel := 7) rfl (by kernel_rfl) (by kernel_rfl) (by kernel_rfl) (by kernel_rfl) noPanic_false (by kernel_rfl) (fun W _ => x_idx22 (n := n) (c := ca) (x := .tmp 10) (y := .tmp 12) (by kernel_rfl) (by kernel_rfl) (by kernel_rfl) hin') hS0 ?_
      refine tk 4 14 (hv x) (fuel := 6) rfl (by kernel_rfl) (by kernel_rfl) (by kernel_rfl) (by kernel_rfl) noPanic_false (by kernel_rfl) (fun W hW => x_ld24 HX.out.1 (x := .tmp 13) (g := xb) (p := xo + i * 32) (by kernel_rfl) (by kernel_rfl) (range_after HX.out.2 hW)) hS0 ?_
      refine tk 5 15 (.slice (some ⟨xb, xo, none⟩) n ca) (fuel := 5) rfl (by kernel_rfl) (by kernel_rfl) (by kernel_rfl) (by kernel_rfl) noPanic_false (by kernel_rfl) (fun _ _ => by kernel_rfl) hS0 ?_
      refine tk 6 16 (.int .i64 (k : Int)) (fuel := 4) rfl (by kernel_rfl) (by kernel_rfl) (by kernel_rfl) (by kernel_rfl) noPanic_false (by kernel_rfl) (fun _ _ => by kernel_rfl) hS0 ?_
      refine tk 7 17 (.pointer (some ⟨xb, xo + k * 32, none⟩)) (fuel := 3) rfl (by kernel_rfl) (by kernel_rfl) (by kernel_rfl) (by kernel_rfl) noPanic_false (by kernel_rfl) (fun W _ => x_idx22 (n := n) (c := ca) (x := .tmp 15) (y := .tmp 16) (by kernel_rfl) (by kernel_rfl) (by kernel_rfl) hlt) hS0 ?_
      refine tk 8 18 (hv y) (fuel := 2) rfl (by kernel_rfl) (by kernel_rfl) (by kernel_rfl) (by kernel_rfl) noPanic_false (by kernel_rfl) (fun W hW => x_ld24 HY.out.1 (x := .tmp 17) (g := xb) (p := xo + k * 32) (by kernel_rfl) (by kernel_rfl) (range_after HY.out.2 hW)) hS0 ?_
      refine tkCallS 9 19 96 #[hv x, hv y] (fun v w' => v = .bool (ltB x y) ∧ After wr w') (fuel := 1) rfl (by kernel_rfl) (by kernel_rfl) (by kernel_rfl) (fun _ => by kernel_rfl) ((less_any x y HX.out.1 HY.out.1 wr.drew).mono (fun e w' ⟨he, ha⟩ => ⟨_, he, rfl, After.trans hS0 ha⟩)) ?_
      intro v1 w1 ⟨hv1, hA1⟩
      subst hv1
      refine ⟨hA1, ?_⟩
      refine tk 10 20 (.bool (!ltB x y)) (fuel := 0) rfl (by kernel_rfl) (by kernel_rfl) (by kernel_rfl) (by kernel_rfl) noPanic_false (by kernel_rfl) (fun _ _ => by kernel_rfl) hA1 ?_
      refine wpAnyH_done (by kernel_rfl) (NoPanic.normal ?_) _
      have HA1 : Hid (After w w1) := After.trans HI.out.aft hA1
      clear hS0 hA1
      by_cases hxy : ltB x y = true
      · have hd : (!ltB x y) = false := by simp [hxy]
        rw [hd]
        have HXL : Hid (ltB x y = true) := hxy
        clear hxy hd
        go_simp
        go_wp2
        go_roundw
        case rel => exact ⟨k + 1, by omega, by omega, by go_num, HA1.out, fun j p q hj hp hq => by
          have hik := HIK.out
          by_cases e : j = i
          · subst e; rw [HXY.out.1] at hp; rw [HXY.out.2] at hq; cases hp; cases hq; exact HXL.out
          · exact HI.out.pre j p q (by omega) hp hq⟩
        case measure => simp [intOf]; omega
      · have hd : (!ltB x y) = true := by simp [hxy]
        rw [hd]
        have HXL : Hid (¬ ltB x y = true) := hxy
        clear hxy hd
        go_simp
        go_wp2
        go_ret
        refine ⟨?_, HA1.out⟩
        have : upB l = false := Bool.eq_false_iff.2 (fun e => HXL.out (upB_at l e i x y HXY.out.1 HXY.out.2))
        rw [this]; rfl
    · have hii : ¬ (k : Int) < (n : Int) := by omega
      go_wp2
      go_ret
      refine ⟨?_, HI.out.aft⟩
      have : upB l = true := upB_pre l (fun j x y hx hy => HI.out.pre j x y (by have := (List.getElem?_eq_some_iff.1 hy).1; rw [HFA.out.2.2] at this; omega) hx hy)
      rw [this]; rfl
set_option maxRecDepth 100000 in
set_option maxHeartbeats 3200000 in
theorem rising16 (ao : Option Addr) (ca : Nat) (l : List Hs) (h32 : All32 l) (n : Nat) (hl : l.length = n) (hbig : n ≤ 1152921504606846976) (w : World) (hA : HsAt w ao l) :
    Calls Tryz.prog 56 #[.slice ao n ca] w fun e w' => e = .returned (.bool (upB l)) ∧ After w w' := by
  have HFA : Hid (HsAt w ao l ∧ All32 l ∧ l.length = n) := ⟨hA, h32, hl⟩
  clear hA h32 hl
  go_enter Tryz.func56, Tryz.ntmps56
  go_wp2_with fail
  go_loopw [3] (fun iv wr => ∃ k : Nat, 1 ≤ k ∧ k ≤ n + 1 ∧ iv = .int .i64 (k : Int) ∧ Hid (RiI w l k wr)) (fun iv _ => n + 1 - (intOf iv).toNat)
  case atStart => exact ⟨1, Nat.le_refl _, by omega, rfl, After.refl w, fun j _ _ hj => by omega⟩
  case round =>
    obtain ⟨k, hk1, hkn, rfl, HI⟩ := hrel
    by_cases hlt : k < n
    · have hii : (k : Int) < (n : Int) := by omega
      obtain ⟨i, hik⟩ : ∃ i, k = i + 1 := ⟨k - 1, by omega⟩
      have hin' : i < n := by omega
      obtain ⟨x, hx⟩ : ∃ x, l[i]? = some x := ⟨_, List.getElem?_eq_getElem (by rw [HFA.out.2.2]; omega)⟩
      obtain ⟨y, hy⟩ : ∃ y, l[i + 1]? = some y := ⟨_, List.getElem?_eq_getElem (by rw [HFA.out.2.2]; omega)⟩
      obtain ⟨xb, xo, hxa, hxr⟩ := HFA.out.1.get HFA.out.2.1 (by intro e; rw [e] at hx; simp at hx)
      subst hxa
      have HX : Hid (x.length = 32 ∧ wr.rangeAt xb (xo + i * 32) (c8 x)) := ⟨HFA.out.2.1.at hx, range_after (hxr i x hx) HI.out.aft⟩
      have HY : Hid (y.length = 32 ∧ wr.rangeAt xb (xo + k * 32) (c8 y)) := ⟨HFA.out.2.1.at hy, by rw [hik]; exact range_after (hxr (i + 1) y hy) HI.out.aft⟩
      have HXY : Hid (l[i]? = some x ∧ l[i + 1]? = some y) := ⟨hx, hy⟩
      have HIK : Hid (k = i + 1) := hik
      clear hx hy hxr hik
      go_wp2_with fail
      refine wp_region_noPanic ?_
      refine wp_region_held_drew (S := After wr) (by kernel_rfl) (After.drew (After.refl wr)) ?_
      intro hS0
      refine tk 0 10 (.slice (some ⟨xb, xo, none⟩) n ca) (fuel := 10) rfl (by kernel_rfl) (by kernel_rfl) (by kernel_rfl) (by kernel_rfl) noPanic_false (by kernel_rfl) (fun _ _ => by kernel_rfl) hS0 ?_
      refine tk 1 11 (.int .i64 (k : Int)) (fuel := 9) rfl (by kernel_rfl) (by kernel_rfl) (by kernel_rfl) (by kernel_rfl) noPanic_false (by kernel_rfl) (fun _ _ => by kernel_rfl) hS0 ?_
      refine tk 2 12 (.int .i64 (i : Int)) (fuel := 8) rfl (by kernel_rfl) (by kernel_rfl) (by kernel_rfl) (by kernel_rfl) noPanic_false (by kernel_rfl) (fun W _ => x_sub1 (k := k) (i := i) (x := .tmp 11) (by kernel_rfl) (by kernel_rfl) HIK.out (by omega)) hS0 ?_
      refine tk 3 13 (.pointer (some ⟨xb, xo + i * 32, none⟩)) (fuel := 7) rfl (by kernel_rfl) (by kernel_rfl) (by kernel_rfl) (by kernel_rfl) noPanic_false (by kernel_rfl) (fun W _ => x_idx22 (n := n) (c := ca) (x := .tmp 10) (y := .tmp 12) (by kernel_rfl) (by kernel_rfl) (by kernel_rfl) hin') hS0 ?_
      refine tk 4 14 (hv x) (fuel := 6) rfl (by kernel_rfl) (by kernel_rfl) (by kernel_rfl) (by kernel_rfl) noPanic_false (by kernel_rfl) (fun W hW => x_ld24 HX.out.1 (x := .tmp 13) (g := xb) (p := xo + i * 32) (by kernel_rfl) (by kernel_rfl) (range_after HX.out.2 hW)) hS0 ?_
      refine tk 5 15 (.slice (some ⟨xb, xo, none⟩) n ca) (fuel := 5) rfl (by kernel_rfl) (by kernel_rfl) (by kernel_rfl) (by kernel_rfl) noPanic_false (by kernel_rfl) (fun _ _ => by kernel_rfl) hS0 ?_
      refine tk 6 16 (.int .i64 (k : Int)) (fuel := 4) rfl (by kernel_rfl) (by kernel_rfl) (by kernel_rfl) (by kernel_rfl) noPanic_false (by kernel_rfl) (fun _ _ => by kernel_rfl) hS0 ?_
      refine tk 7 17 (.pointer (some ⟨xb, xo + k * 32, none⟩)) (fuel := 3) rfl (by kernel_rfl) (by kernel_rfl) (by kernel_rfl) (by kernel_rfl) noPanic_false (by kernel_rfl) (fun W _ => x_idx22 (n := n) (c := ca) (x := .tmp 15) (y := .tmp 16) (by kernel_rfl) (by kernel_rfl) (by kernel_rfl) hlt) hS0 ?_
      refine tk 8 18 (hv y) (fuel := 2) rfl (by kernel_rfl) (by kernel_rfl) (by kernel_rfl) (by kernel_rfl) noPanic_false (by kernel_rfl) (fun W hW => x_ld24 HY.out.1 (x := .tmp 17) (g := xb) (p := xo + k * 32) (by kernel_rfl) (by kernel_rfl) (range_after HY.out.2 hW)) hS0 ?_
      refine tkCallS 9 19 91 #[hv x, hv y] (fun v w' => v = .bool (ltB x y) ∧ After wr w') (fuel := 1) rfl (by kernel_rfl) (by kernel_rfl) (by kernel_rfl) (fun _ => by kernel_rfl) ((refLess_any x y HX.out.1 HY.out.1 wr.drew).mono (fun e w' ⟨he, ha⟩ => ⟨_, he, rfl, After.trans hS0 ha⟩)) ?_
      intro v1 w1 ⟨hv1, hA1⟩
      subst hv1
      refine ⟨hA1, ?_⟩
      refine tk 10 20 (.bool (!ltB x y)) (fuel := 0) rfl (by kernel_rfl) (by kernel_rfl) (by kernel_rfl) (by kernel_rfl) noPanic_false (by kernel_rfl) (fun _ _ => by kernel_rfl) hA1 ?_
      refine wpAnyH_done (by kernel_rfl) (NoPanic.normal ?_) _
      have HA1 : Hid (After w w1) := After.trans HI.out.aft hA1
      clear hS0 hA1
      by_cases hxy : ltB x y = true
      · have hd : (!ltB x y) = false := by simp [hxy]
        rw [hd]
        have HXL : Hid (ltB x y = true) := hxy
        clear hxy hd
        go_simp
        go_wp2
        go_roundw
        case rel => exact ⟨k + 1, by omega, by omega, by go_num, HA1.out, fun j p q hj hp hq => by
          have hik := HIK.out
          by_cases e : j = i
          · subst e; rw [HXY.out.1] at hp; rw [HXY.out.2] at hq; cases hp; cases hq; exact HXL.out
          · exact HI.out.pre j p q (by omega) hp hq⟩
        case measure => simp [intOf]; omega
      · have hd : (!ltB x y) = true := by simp [hxy]
        rw [hd]
        have HXL : Hid (¬ ltB x y = true) := hxy
        clear hxy hd
        go_simp
        go_wp2
        go_ret
        refine ⟨?_, HA1.out⟩
        have : upB l = false := Bool.eq_false_iff.2 (fun e => HXL.out (upB_at l e i x y HXY.out.1 HXY.out.2))
        rw [this]; rfl
    · have hii : ¬ (k : Int) < (n : Int) := by omega
      go_wp2
      go_ret
      refine ⟨?_, HI.out.aft⟩
      have : upB l = true := upB_pre l (fun j x y hx hy => HI.out.pre j x y (by have := (List.getElem?_eq_some_iff.1 hy).1; rw [HFA.out.2.2] at this; omega) hx hy)
      rw [this]; rfl
end Go.Proofs.YtgmdolpjkaajfaaGreatDoor.HS
namespace Go.Proofs.YtgmdolpjkaajfaaGreatDoor.HS
open Leb
open Go.RowKit Go.Maps
end Go.Proofs.YtgmdolpjkaajfaaGreatDoor.HS
