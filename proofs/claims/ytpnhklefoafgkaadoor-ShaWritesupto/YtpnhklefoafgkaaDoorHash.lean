/-
  THE WALKS OF sha.hashOf AND sha.firstState.
-/
import Derived.Test.YtpnhklefoafgkaaDoorMixed
namespace Go.Proofs.YtpnhklefoafgkaaDoor
open Go.RowKit Sha
theorem size24 : (Tryd.prog.info? 24).map (·.size) = some 32 := by kernel_rfl
theorem info46 : (Tryd.prog.info? 46).map (·.size) = some 1 := by kernel_rfl
theorem info5 : (Tryd.prog.info? 5).map (·.size) = some 1 := by kernel_rfl
theorem idx51 (ws : List (BitVec 32)) (h : ws.length = 8) (k : Nat) (hk : k < 8) (w : World) :
    (Instr.index 51 (.agg (c32 ws).toArray) (.int .i64 (k : Int))).run Tryd.prog w = .ok (.int .u32 (n32 (ws.getD k 0))) w := by
  have hc := c32_get ws k (by omega)
  cases hq : Tryd.prog.info? 46 with
  | none => have := info46; simp [hq] at this
  | some i =>
    have hi : i.size = 1 := by have := info46; simpa [hq] using this
    simp [Instr.index, asIntOf, run_underlying Tryd.underlying51, sizeOf, typeInfo, hq, hi, part, hc]
    intro h8; omega
/-- The byte of a word that is shifted by s bits. -/
def byt (x : BitVec 32) (s : Nat) : UInt8 := UInt8.ofNat (x.toNat / 2 ^ s)
theorem byt_mod (x : BitVec 32) (s : Nat) : n32 x / 2 ^ s % 256 = ((byt x s).toNat : Int) := by
  unfold byt n32; simp [UInt8.toNat_ofNat']
def outTo (ws : List (BitVec 32)) : Nat → List UInt8
  | 0 => List.replicate 32 0
  | k + 1 => ((((outTo ws k).set (4 * k) (byt (ws.getD k 0) 24)).set (4 * k + 1) (byt (ws.getD k 0) 16)).set (4 * k + 2) (byt (ws.getD k 0) 8)).set (4 * k + 3) (byt (ws.getD k 0) 0)
theorem outTo_len (ws : List (BitVec 32)) : ∀ k, (outTo ws k).length = 32
  | 0 => by simp [outTo]
  | k + 1 => by simp [outTo, outTo_len ws k]
def HashRel (ws : List (BitVec 32)) (w : World) (k : Nat) (wr : World) : Prop :=
  Below w.heap.size w wr ∧ RowIs wr (w.heap.size + 1) 24 (c8 (List.replicate 32 0)) ∧ RowIs wr (w.heap.size + 1 + 1) 24 (c8 (outTo ws k))
theorem HashRel.start (ws : List (BitVec 32)) (w : World) : HashRel ws w 0 (((w.alloc (.cells (c32 ws).toArray 51)).alloc (.cells (c8 (List.replicate 32 0)).toArray 24)).alloc (.cells (c8 (List.replicate 32 0)).toArray 24)) := by
  refine ⟨(((Below.refl _ _).alloc (Nat.le_refl _) _).alloc (by simp) _).alloc (by simp; omega) _, RowIs.alloc ?_ _, ?_⟩
  · simpa using RowIs.new (w.alloc (.cells (c32 ws).toArray 51)) 24 (c8 (List.replicate 32 0))
  · simpa [outTo] using RowIs.new ((w.alloc (.cells (c32 ws).toArray 51)).alloc (.cells (c8 (List.replicate 32 0)).toArray 24)) 24 (c8 (List.replicate 32 0))
theorem HashRel.next {ws : List (BitVec 32)} {w wr : World} {k : Nat} (h : HashRel ws w k wr) : HashRel ws w (k + 1)
    ((((wr.setCell ⟨w.heap.size + 1 + 1, 4 * k, none⟩ (.int .u8 ((byt (ws.getD k 0) 24).toNat : Int))).setCell ⟨w.heap.size + 1 + 1, 4 * k + 1, none⟩ (.int .u8 ((byt (ws.getD k 0) 16).toNat : Int))).setCell ⟨w.heap.size + 1 + 1, 4 * k + 2, none⟩ (.int .u8 ((byt (ws.getD k 0) 8).toNat : Int))).setCell ⟨w.heap.size + 1 + 1, 4 * k + 3, none⟩ (.int .u8 ((byt (ws.getD k 0) 0).toNat : Int))) := by
  obtain ⟨hb, r1, r2⟩ := h
  have hp : w.heap.size ≤ w.heap.size + 1 + 1 := by omega
  have hq : w.heap.size + 1 ≠ w.heap.size + 1 + 1 := by omega
  refine ⟨(((hb.setCell hp _).setCell hp _).setCell hp _).setCell hp _, (((r1.other _ _ hq).other _ _ hq).other _ _ hq).other _ _ hq, ?_⟩
  have := (((r2.set (4 * k) (.int .u8 ((byt (ws.getD k 0) 24).toNat : Int))).set (4 * k + 1) (.int .u8 ((byt (ws.getD k 0) 16).toNat : Int))).set (4 * k + 2) (.int .u8 ((byt (ws.getD k 0) 8).toNat : Int))).set (4 * k + 3) (.int .u8 ((byt (ws.getD k 0) 0).toNat : Int))
  rw [c8_set, c8_set, c8_set, c8_set] at this
  exact this
set_option maxRecDepth 100000 in
set_option maxHeartbeats 400000 in
theorem hashOf_any (ws : List (BitVec 32)) (hl : ws.length = 8) (w : World) :
    Calls Tryd.prog 28 #[.agg (c32 ws).toArray] w fun e w' => e = .returned (.agg (c8 (outTo ws 8)).toArray) ∧ Below w.heap.size w w' := by
  have hsw : (c32 ws).toArray.size = 8 := by simp [c32_len, hl]
  have r0 : RowIs (((w.alloc (.cells (c32 ws).toArray 51)).alloc (.cells (c8 (List.replicate 32 0)).toArray 24)).alloc (.cells (c8 (List.replicate 32 0)).toArray 24)) w.heap.size 51 (c32 ws) := ((RowIs.new w 51 _).alloc _).alloc _
  go_enter Tryd.func28, Tryd.ntmps28
  go_wp2_with (refine wpList_load_row rfl 51 _ rfl w.heap.size rfl 51 (c32 ws).toArray (0, 0) _ r0 Tryd.underlying51 rfl (by rw [hsw]; exact size51) ?_)
  clear r0
  go_loopw [7] (fun i wr => ∃ k : Nat, k ≤ 8 ∧ i = .int .i64 k ∧ HashRel ws w k wr) (fun i _ => 8 - (intOf i).toNat)
  case atStart => exact ⟨0, by omega, rfl, HashRel.start ws w⟩
  case round =>
    obtain ⟨k, hk, rfl, hR⟩ := hrel
    by_cases hlt : k < 8
    · have hix := fun W => idx51 ws hl k hlt W
      obtain ⟨x, X, hx⟩ : ∃ x : BitVec 32, Hid (x = ws.getD k 0) ∧ ∀ W, (Instr.index 51 (.agg (c32 ws).toArray) (.int .i64 (k : Int))).run Tryd.prog W = .ok (.int .u32 (n32 x)) W := ⟨_, rfl, hix⟩
      clear hix
      obtain ⟨m, hm, hm4⟩ : ∃ m : Nat, 4 * (k : Int) = (m : Int) ∧ 4 * k = m := ⟨4 * k, by omega, rfl⟩
      have hlen := outTo_len ws k
      have e0 := hR.2.2.cell (c8_get _ m (by omega))
      have e1 := hR.2.2.cell (c8_get _ (m + 1) (by omega))
      have e2 := hR.2.2.cell (c8_get _ (m + 2) (by omega))
      have e3 := hR.2.2.cell (c8_get _ (m + 3) (by omega))
      have f0 := hR.2.2.frozen m
      have f1 := hR.2.2.frozen (m + 1)
      have f2 := hR.2.2.frozen (m + 2)
      have f3 := hR.2.2.frozen (m + 3)
      have b0 : m + 3 < 32 := by omega
      have t1 : ((m : Int) + 1).toNat = m + 1 := by omega
      have t2 : ((m : Int) + 2).toNat = m + 2 := by omega
      have t3 : ((m : Int) + 3).toNat = m + 3 := by omega
      have v3 : n32 x / 16777216 % 256 = ((byt x 24).toNat : Int) := byt_mod x 24
      have v2 : n32 x / 65536 % 256 = ((byt x 16).toNat : Int) := byt_mod x 16
      have v1 : n32 x / 256 % 256 = ((byt x 8).toNat : Int) := byt_mod x 8
      have v0 : n32 x % 256 = ((byt x 0).toNat : Int) := by have := byt_mod x 0; simpa using this
      have HM : Hid (4 * k = m) := hm4
      have HR : Hid (HashRel ws w k wr) := hR
      clear hm4 hR hlen
      go_wp2
      go_roundw
      case rel => exact ⟨k + 1, by omega, by go_num, by have := HashRel.next HR.out; rw [HM.out, ← X.out] at this; exact this⟩
      case measure => simp [intOf]; omega
    · obtain rfl : k = 8 := by omega
      obtain ⟨hb', r1', r2'⟩ := hR
      have hb : Hid (Below w.heap.size w wr) := hb'
      have r1 : Hid (RowIs wr (w.heap.size + 1) 24 (c8 (List.replicate 32 0))) := r1'
      have r2 : Hid (RowIs wr (w.heap.size + 1 + 1) 24 (c8 (outTo ws 8))) := r2'
      have hsz : (c8 (outTo ws 8)).toArray.size = 32 := by simp [c8_len, outTo_len]
      clear hb' r1' r2'
      go_wp2_with (first
        | (refine wpList_load_row rfl 24 _ rfl (w.heap.size + 1 + 1) rfl 24 _ (0, 0) _ r2.out Tryd.underlying24 rfl (by rw [hsz]; exact size24) ?_)
        | (refine wpList_store_row rfl 24 _ _ rfl (w.heap.size + 1) _ rfl rfl 24 _ r1.out (by rw [hsz]; exact size24) (by rw [hsz]; rfl) (all_oneCell_toArray (c8_one _)) ?_))
      refine bodyPost_ret (v := .agg (c8 (outTo ws 8)).toArray) (results_cell_row Tryd.results28 _ _ (w.heap.size + 1) 24 _ (0, 0) _ rfl (RowIs.setRow r1.out _) Tryd.underlying24 rfl (by rw [hsz]; exact size24)) rfl ⟨rfl, Below.row hb.out (by omega) _⟩
set_option maxRecDepth 100000 in
set_option maxHeartbeats 400000 in
theorem firstState_any (w : World) :
    Calls Tryd.prog 25 #[] w fun e w' => e = .returned (.agg (c32 first.list).toArray) ∧ Below w.heap.size w w' := by
  go_enter Tryd.func25, Tryd.ntmps25
  go_wp2_with (refine wpList_store_row rfl 51 (.tmp 0) (.tmp 1) rfl w.heap.size (c32 first.list).toArray rfl rfl 51 zero8.toArray (RowIs.new w 51 zero8) size51 rfl (all_oneCell_toArray (c32_one _)) ?_)
  exact bodyPost_ret (v := .agg (c32 first.list).toArray) (results_cell_row Tryd.results25 _ _ w.heap.size 51 _ (0, 0) _ rfl (RowIs.setRow (RowIs.new w 51 zero8) _) Tryd.underlying51 rfl size51) rfl ⟨rfl, Below.row ((Below.refl _ _).alloc (Nat.le_refl _) _) (Nat.le_refl _) _⟩
end Go.Proofs.YtpnhklefoafgkaaDoor
