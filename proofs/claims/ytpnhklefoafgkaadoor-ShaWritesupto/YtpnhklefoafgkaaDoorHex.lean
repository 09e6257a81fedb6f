/-
  THE WALK OF sha.Hex.
-/
import Derived.Test.YtpnhklefoafgkaaDoorTop
namespace Go.Proofs.YtpnhklefoafgkaaDoor
open Go.RowKit Sha
def strOf (l : List UInt8) : ByteArray := ⟨l.toArray⟩
theorem foldl_push (l : List UInt8) : ∀ s : List UInt8, (l.map fun b => (b.toNat : Int)).foldl (fun r n => r.push (UInt8.ofNat n.toNat)) (strOf s) = strOf (s ++ l) := by
  induction l with
  | nil => intro s; simp
  | cons b l ih =>
    intro s
    simp only [List.map_cons, List.foldl_cons, Int.toNat_natCast]
    have e : (strOf s).push (UInt8.ofNat b.toNat) = strOf (s ++ [b]) := by simp [strOf, ByteArray.push]
    rw [e, ih]; simp
theorem conv_bytes (W : World) (g : Nat) (t : TypeId) (bs : List UInt8) (cap : Nat) (hr : RowIs W g t (c8 bs)) :
    (convert 22 9 (.slice (some ⟨g, 0, none⟩) bs.length cap)).run Tryd.prog W = .ok (.string (strOf bs)) W := by
  have hl := run_loadCells_list (P := Tryd.prog) W ⟨g, 0, none⟩ (c8 bs) (fun j v hv => by rw [Addr.add_mid, Nat.zero_add]; exact hr.cell hv)
  rw [c8_len] at hl
  have e : c8 bs = (bs.map fun b => (b.toNat : Int)).map (Value.int .u8) := by simp [c8]
  rw [e] at hl
  rw [run_convert_bytes_string W 22 9 5 _ _ _ Tryd.underlying22 Tryd.underlying5 Tryd.underlying9, run_bytesToString W _ _ _ _ hl]
  have := foldl_push bs []
  simp only [List.nil_append] at this
  rw [show ByteArray.empty = strOf [] from rfl, this]
theorem idx24 (ws : List UInt8) (h : ws.length = 32) (k : Nat) (hk : k < 32) (w : World) :
    (Instr.index 24 (.agg (c8 ws).toArray) (.int .i64 (k : Int))).run Tryd.prog w = .ok (.int .u8 ((ws.getD k 0).toNat : Int)) w := by
  have hc := c8_get ws k (by omega)
  cases hq : Tryd.prog.info? 5 with
  | none => have := info5; simp [hq] at this
  | some i =>
    have hi : i.size = 1 := by have := info5; simpa [hq] using this
    simp [Instr.index, asIntOf, run_underlying Tryd.underlying24, sizeOf, typeInfo, hq, hi, part, hc]
    intro h8; omega
def hexDigits : List UInt8 := [48, 49, 50, 51, 52, 53, 54, 55, 56, 57, 97, 98, 99, 100, 101, 102]
theorem idxDigit (q : Nat) (hq : q < 16) (k : IntKind) (w : World) : (Instr.index 9 (.string ⟨#[48, 49, 50, 51, 52, 53, 54, 55, 56, 57, 97, 98, 99, 100, 101, 102]⟩) (.int k (q : Int))).run Tryd.prog w = .ok (.int .u8 ((hexDigits.getD q 0).toNat : Int)) w := by
  have all : ∀ j : Fin 16, (⟨#[48, 49, 50, 51, 52, 53, 54, 55, 56, 57, 97, 98, 99, 100, 101, 102]⟩ : ByteArray)[j.val]? = some (hexDigits.getD j.val 0) := by decide +kernel
  have h := all ⟨q, hq⟩
  simp only at h
  simp [Instr.index, asIntOf, run_underlying Tryd.underlying9, h]
theorem slice53 (g : Nat) (W : World) : (Instr.sliceAt 53 (.pointer (some ⟨g, 0, none⟩)) none none none).run Tryd.prog W = .ok (.slice (some ⟨g, 0, none⟩) 64 64) W := by
  obtain ⟨i, hi, hz⟩ := Option.map_eq_some_iff.1 bytes5
  simp [Instr.sliceAt, run_underlying Tryd.underlying53, Instr.sureAddr, Instr.sliceBounds, sizeOf, typeInfo, hi, Addr.add]
theorem and15 (b : UInt8) : bits .and .u8 (b.toNat : Int) 15 = ((b.toNat % 16 : Nat) : Int) := by
  have all : ∀ j : Fin 256, bits .and .u8 (j.val : Int) 15 = ((j.val % 16 : Nat) : Int) := by decide +kernel
  exact all ⟨b.toNat, b.toNat_lt⟩
def hexTo (bs : List UInt8) : Nat → List UInt8
  | 0 => List.replicate 64 0
  | k + 1 => ((hexTo bs k).set (2 * k) (hexDigits.getD ((bs.getD k 0).toNat / 16) 0)).set (2 * k + 1) (hexDigits.getD ((bs.getD k 0).toNat % 16) 0)
theorem hexTo_len (bs : List UInt8) : ∀ k, (hexTo bs k).length = 64
  | 0 => by simp [hexTo]
  | k + 1 => by simp [hexTo, hexTo_len bs k]
def HexRel (bs : List UInt8) (w : World) (k : Nat) (wr : World) : Prop := Below w.heap.size w wr ∧ RowIs wr (w.heap.size + 1) 53 (c8 (hexTo bs k))
theorem HexRel.start (bs : List UInt8) (w : World) : HexRel bs w 0 ((w.alloc (.cells (c8 bs).toArray 24)).alloc (.cells (c8 (List.replicate 64 0)).toArray 53)) := by
  refine ⟨((Below.refl _ _).alloc (Nat.le_refl _) _).alloc (by simp) _, ?_⟩
  have := RowIs.new (w.alloc (.cells (c8 bs).toArray 24)) 53 (c8 (List.replicate 64 0))
  rw [show (w.alloc (.cells (c8 bs).toArray 24)).heap.size = w.heap.size + 1 by simp] at this
  exact this
theorem HexRel.next {bs : List UInt8} {w wr : World} {k : Nat} (h : HexRel bs w k wr) : HexRel bs w (k + 1) ((wr.setCell ⟨w.heap.size + 1, 2 * k, none⟩ (.int .u8 ((hexDigits.getD ((bs.getD k 0).toNat / 16) 0).toNat : Int))).setCell ⟨w.heap.size + 1, 2 * k + 1, none⟩ (.int .u8 ((hexDigits.getD ((bs.getD k 0).toNat % 16) 0).toNat : Int))) := by
  obtain ⟨hb, r⟩ := h
  have hp : w.heap.size ≤ w.heap.size + 1 := by omega
  refine ⟨(hb.setCell hp _).setCell hp _, ?_⟩
  have := (r.set (2 * k) (.int .u8 ((hexDigits.getD ((bs.getD k 0).toNat / 16) 0).toNat : Int))).set (2 * k + 1) (.int .u8 ((hexDigits.getD ((bs.getD k 0).toNat % 16) 0).toNat : Int))
  rw [c8_set, c8_set] at this
  exact this
set_option maxRecDepth 100000 in
set_option maxHeartbeats 400000 in
theorem hex_any (bs : List UInt8) (hl : bs.length = 32) (w : World) :
    Calls Tryd.prog 19 #[.agg (c8 bs).toArray] w fun e w' => e = .returned (.string (strOf (hexTo bs 32))) ∧ Below w.heap.size w w' := by
  have hsw : (c8 bs).toArray.size = 32 := by simp [c8_len, hl]
  have r0 : RowIs ((w.alloc (.cells (c8 bs).toArray 24)).alloc (.cells (c8 (List.replicate 64 0)).toArray 53)) w.heap.size 24 (c8 bs) := (RowIs.new w 24 _).alloc _
  go_enter Tryd.func19, Tryd.ntmps19
  go_wp2_with (refine wpList_load_row rfl 24 _ rfl w.heap.size rfl 24 (c8 bs).toArray (0, 0) _ r0 Tryd.underlying24 rfl (by rw [hsw]; exact size24) ?_)
  clear r0
  go_loopw [7] (fun i wr => ∃ k : Nat, k ≤ 32 ∧ i = .int .i64 k ∧ HexRel bs w k wr) (fun i _ => 32 - (intOf i).toNat)
  case atStart => exact ⟨0, by omega, rfl, HexRel.start bs w⟩
  case round =>
    obtain ⟨k, hk, rfl, hR⟩ := hrel
    by_cases hlt : k < 32
    · have hix := fun W => idx24 bs hl k hlt W
      obtain ⟨x, X, hx⟩ : ∃ x : UInt8, Hid (x = bs.getD k 0) ∧ ∀ W, (Instr.index 24 (.agg (c8 bs).toArray) (.int .i64 (k : Int))).run Tryd.prog W = .ok (.int .u8 (x.toNat : Int)) W := ⟨_, rfl, hix⟩
      clear hix
      obtain ⟨m, hm, hm2⟩ : ∃ m : Nat, 2 * (k : Int) = (m : Int) ∧ 2 * k = m := ⟨2 * k, by omega, rfl⟩
      have hx8 := x.toNat_lt
      obtain ⟨q, hq, Hq⟩ : ∃ q : Nat, (x.toNat : Int) / 16 = (q : Int) ∧ Hid (q = x.toNat / 16) := ⟨x.toNat / 16, by omega, rfl⟩
      obtain ⟨r, hr, Hr⟩ : ∃ r : Nat, bits .and .u8 (x.toNat : Int) 15 = (r : Int) ∧ Hid (r = x.toNat % 16) := ⟨x.toNat % 16, and15 x, rfl⟩
      have hqi := fun W => idxDigit q (by have := Hq.out; omega) .u8 W
      have hri := fun W => idxDigit r (by have := Hr.out; omega) .u8 W
      have hlen := hexTo_len bs k
      have e0 := hR.2.cell (c8_get _ m (by omega))
      have e1 := hR.2.cell (c8_get _ (m + 1) (by omega))
      have f0 := hR.2.frozen m
      have f1 := hR.2.frozen (m + 1)
      have b0 : m + 1 < 64 := by omega
      have t1 : ((m : Int) + 1).toNat = m + 1 := by omega
      have HM : Hid (2 * k = m) := hm2
      have HR : Hid (HexRel bs w k wr) := hR
      clear hm2 hR hlen hx8
      go_wp2
      go_roundw
      case rel => exact ⟨k + 1, by omega, by go_num, by have := HexRel.next HR.out; rw [HM.out, ← X.out, ← Hq.out, ← Hr.out] at this; exact this⟩
      case measure => simp [intOf]; omega
    · obtain rfl : k = 32 := by omega
      have hc := conv_bytes wr (w.heap.size + 1) 53 (hexTo bs 32) 64 hR.2
      rw [hexTo_len] at hc
      have hs := fun W => slice53 (w.heap.size + 1) W
      have HR : Hid (HexRel bs w 32 wr) := hR
      clear hR
      go_wp2
      go_ret
      exact ⟨rfl, HR.out.1⟩
end Go.Proofs.YtpnhklefoafgkaaDoor
