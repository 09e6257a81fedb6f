/-
  THE WALKS OF sha.Hex AND ref01.Hex.
-/
import Derived.Test.YtedghldjpkabmaaAwake
namespace Go.Proofs.Ytedghldjpkabmaa
open Go.RowKit
theorem c8_set (l : List UInt8) (j : Nat) (b : UInt8) : (c8 l).set j (.int .u8 (b.toNat : Int)) = c8 (l.set j b) := by
  simp [c8, List.map_set]
theorem conv_bytes (W : World) (g : Nat) (t : TypeId) (bs : List UInt8) (cap : Nat) (hr : RowIs W g t (c8 bs)) :
    (convert 32 9 (.slice (some ⟨g, 0, none⟩) bs.length cap)).run Try.prog W = .ok (.string (strOf bs)) W := by
  have hl := run_loadCells_list (P := Try.prog) W ⟨g, 0, none⟩ (c8 bs) (fun j v hv => by rw [Addr.add_mid, Nat.zero_add]; exact hr.cell hv)
  rw [c8_len] at hl
  have e : c8 bs = (bs.map fun b => (b.toNat : Int)).map (Value.int .u8) := by simp [c8]
  rw [e] at hl
  rw [run_convert_bytes_string W 32 9 5 _ _ _ Try.underlying32 Try.underlying5 Try.underlying9, run_bytesToString W _ _ _ _ hl]
  have := foldl_push bs []
  simp only [List.nil_append] at this
  rw [show ByteArray.empty = strOf [] from rfl, this]
theorem idx24 (ws : List UInt8) (h : ws.length = 32) (k : Nat) (hk : k < 32) (w : World) :
    (Instr.index 24 (.agg (c8 ws).toArray) (.int .i64 (k : Int))).run Try.prog w = .ok (.int .u8 ((ws.getD k 0).toNat : Int)) w := by
  have hc := c8_get ws k (by omega)
  cases hq : Try.prog.info? 5 with
  | none => have := info5; simp [hq] at this
  | some i =>
    have hi : i.size = 1 := by have := info5; simpa [hq] using this
    simp [Instr.index, asIntOf, run_underlying Try.underlying24, sizeOf, typeInfo, hq, hi, part, hc]
    intro h8; omega
def hexDigits : List UInt8 := [48, 49, 50, 51, 52, 53, 54, 55, 56, 57, 97, 98, 99, 100, 101, 102]
theorem idxDigit (q : Nat) (hq : q < 16) (k : IntKind) (w : World) : (Instr.index 9 (.string ⟨#[48, 49, 50, 51, 52, 53, 54, 55, 56, 57, 97, 98, 99, 100, 101, 102]⟩) (.int k (q : Int))).run Try.prog w = .ok (.int .u8 ((hexDigits.getD q 0).toNat : Int)) w := by
  have all : ∀ j : Fin 16, (⟨#[48, 49, 50, 51, 52, 53, 54, 55, 56, 57, 97, 98, 99, 100, 101, 102]⟩ : ByteArray)[j.val]? = some (hexDigits.getD j.val 0) := by decide +kernel
  have h := all ⟨q, hq⟩
  simp only at h
  simp [Instr.index, asIntOf, run_underlying Try.underlying9, h]
theorem slice68 (g : Nat) (W : World) : (Instr.sliceAt 68 (.pointer (some ⟨g, 0, none⟩)) none none none).run Try.prog W = .ok (.slice (some ⟨g, 0, none⟩) 64 64) W := by
  obtain ⟨i, hi, hz⟩ := Option.map_eq_some_iff.1 bytes5
  simp [Instr.sliceAt, run_underlying Try.underlying68, Instr.sureAddr, Instr.sliceBounds, sizeOf, typeInfo, hi, Addr.add]
theorem and15 (b : UInt8) : bits .and .u8 (b.toNat : Int) 15 = ((b.toNat % 16 : Nat) : Int) := by
  have all : ∀ j : Fin 256, bits .and .u8 (j.val : Int) 15 = ((j.val % 16 : Nat) : Int) := by decide +kernel
  exact all ⟨b.toNat, b.toNat_lt⟩
def hexTo (bs : List UInt8) : Nat → List UInt8
  | 0 => List.replicate 64 0
  | k + 1 => ((hexTo bs k).set (2 * k) (hexDigits.getD ((bs.getD k 0).toNat / 16) 0)).set (2 * k + 1) (hexDigits.getD ((bs.getD k 0).toNat % 16) 0)
theorem hexTo_len (bs : List UInt8) : ∀ k, (hexTo bs k).length = 64
  | 0 => by simp [hexTo]
  | k + 1 => by simp [hexTo, hexTo_len bs k]
def HexRel (bs : List UInt8) (w : World) (k : Nat) (wr : World) : Prop := Below w.heap.size w wr ∧ RowIs wr (w.heap.size + 1) 68 (c8 (hexTo bs k))
theorem HexRel.start (bs : List UInt8) (w : World) : HexRel bs w 0 ((w.alloc (.cells (c8 bs).toArray 24)).alloc (.cells (c8 (List.replicate 64 0)).toArray 68)) := by
  refine ⟨((Below.refl _ _).alloc (Nat.le_refl _) _).alloc (by simp) _, ?_⟩
  have := RowIs.new (w.alloc (.cells (c8 bs).toArray 24)) 68 (c8 (List.replicate 64 0))
  rw [show (w.alloc (.cells (c8 bs).toArray 24)).heap.size = w.heap.size + 1 by simp] at this
  exact this
theorem HexRel.next {bs : List UInt8} {w wr : World} {k : Nat} (h : HexRel bs w k wr) : HexRel bs w (k + 1) ((wr.setCell ⟨w.heap.size + 1, 2 * k, none⟩ (.int .u8 ((hexDigits.getD ((bs.getD k 0).toNat / 16) 0).toNat : Int))).setCell ⟨w.heap.size + 1, 2 * k + 1, none⟩ (.int .u8 ((hexDigits.getD ((bs.getD k 0).toNat % 16) 0).toNat : Int))) := by
  obtain ⟨hb, r⟩ := h
  have hp : w.heap.size ≤ w.heap.size + 1 := by omega
  refine ⟨(hb.setCell hp _).setCell hp _, ?_⟩
  have := (r.set (2 * k) (.int .u8 ((hexDigits.getD ((bs.getD k 0).toNat / 16) 0).toNat : Int))).set (2 * k + 1) (.int .u8 ((hexDigits.getD ((bs.getD k 0).toNat % 16) 0).toNat : Int))
  rw [c8_set, c8_set] at this
  exact this
set_option maxRecDepth 100000 in
set_option maxHeartbeats 400000 in
theorem hex_any (bs : List UInt8) (hl : bs.length = 32) (w : World) :
    Calls Try.prog 44 #[.agg (c8 bs).toArray] w fun e w' => e = .returned (.string (strOf (hexTo bs 32))) ∧ Below w.heap.size w w' := by
  have hsw : (c8 bs).toArray.size = 32 := by simp [c8_len, hl]
  have r0 : RowIs ((w.alloc (.cells (c8 bs).toArray 24)).alloc (.cells (c8 (List.replicate 64 0)).toArray 68)) w.heap.size 24 (c8 bs) := (RowIs.new w 24 _).alloc _
  go_enter Try.func44, Try.ntmps44
  go_wp2_with (refine wpList_load_row rfl 24 _ rfl w.heap.size rfl 24 (c8 bs).toArray (0, 0) _ r0 Try.underlying24 rfl (by rw [hsw]; exact size24) ?_)
  clear r0
  go_loopw [7] (fun i wr => ∃ k : Nat, k ≤ 32 ∧ i = .int .i64 k ∧ HexRel bs w k wr) (fun i _ => 32 - (intOf i).toNat)
  case atStart => exact ⟨0, by omega, rfl, HexRel.start bs w⟩
  case round =>
    obtain ⟨k, hk, rfl, hR⟩ := hrel
    by_cases hlt : k < 32
    · have hix := fun W => idx24 bs hl k hlt W
      obtain ⟨x, X, hx⟩ : ∃ x : UInt8, Hid (x = bs.getD k 0) ∧ ∀ W, (Instr.index 24 (.agg (c8 bs).toArray) (.int .i64 (k : Int))).run Try.prog W = .ok (.int .u8 (x.toNat : Int)) W := ⟨_, rfl, hix⟩
      clear hix
      obtain ⟨m, hm, hm2⟩ : ∃ m : Nat, 2 * (k : Int) = (m : Int) ∧ 2 * k = m := ⟨2 * k, by omega, rfl⟩
      have hx8 := x.toNat_lt
      obtain ⟨q, hq, Hq⟩ : ∃ q : Nat, (x.toNat : Int) / 16 = (q : Int) ∧ Hid (q = x.toNat / 16) := ⟨x.toNat / 16, by omega, rfl⟩
      obtain ⟨r, hr, Hr⟩ : ∃ r : Nat, bits .and .u8 (x.toNat : Int) 15 = (r : Int) ∧ Hid (r = x.toNat % 16) := ⟨x.toNat % 16, and15 x, rfl⟩
      have hqi := fun W => idxDigit q (by have := Hq.out; omega) .u8 W
      have hri := fun W => idxDigit r (by have := Hr.out; omega) .u8 W
      have hlen := hexTo_len bs k
      have e0 := hR.2.cell (c8_get _ m (by omega))
      have e1 := hR.2.cell (c8_get _ (m + 1) (by omega))
      have f0 := hR.2.frozen m
      have f1 := hR.2.frozen (m + 1)
      have b0 : m + 1 < 64 := by omega
      have t1 : ((m : Int) + 1).toNat = m + 1 := by omega
      have HM : Hid (2 * k = m) := hm2
      have HR : Hid (HexRel bs w k wr) := hR
      clear hm2 hR hlen hx8
      go_wp2
      go_roundw
      case rel => exact ⟨k + 1, by omega, by go_num, by have := HexRel.next HR.out; rw [HM.out, ← X.out, ← Hq.out, ← Hr.out] at this; exact this⟩
      case measure => simp [intOf]; omega
    · obtain rfl : k = 32 := by omega
      have hc := conv_bytes wr (w.heap.size + 1) 68 (hexTo bs 32) 64 hR.2
      rw [hexTo_len] at hc
      have hs := fun W => slice68 (w.heap.size + 1) W
      have HR : Hid (HexRel bs w 32 wr) := hR
      clear hR
      go_wp2
      go_ret
      exact ⟨rfl, HR.out.1⟩
def dg (q : Nat) : UInt8 := hexDigits.getD q 0
def hexOf (b : UInt8) : List UInt8 := [dg (b.toNat / 16), dg (b.toNat % 16)]
def hexL (bs : List UInt8) : List UInt8 := bs.flatMap hexOf
theorem hexL_len (bs : List UInt8) : (hexL bs).length = 2 * bs.length := by
  induction bs with
  | nil => rfl
  | cons b bs ih => simp [hexL, hexOf] at ih ⊢; omega
theorem hexL_snoc (bs : List UInt8) (b : UInt8) : hexL (bs ++ [b]) = hexL bs ++ hexOf b := by simp [hexL]
theorem hexTo_eq (bs : List UInt8) : ∀ k, k ≤ 32 → k ≤ bs.length → hexTo bs k = hexL (bs.take k) ++ List.replicate (64 - 2 * k) 0
  | 0, _, _ => by simp [hexTo, hexL]
  | k + 1, h1, h2 => by
    have ih := hexTo_eq bs k (by omega) (by omega)
    have hl : (hexL (bs.take k)).length = 2 * k := by rw [hexL_len, List.length_take, Nat.min_eq_left (by omega)]
    have e : 64 - 2 * k = (64 - 2 * (k + 1)) + 1 + 1 := by omega
    have ht : bs.take (k + 1) = bs.take k ++ [bs.getD k 0] := by
      rw [List.take_succ_eq_append_getElem (by omega)]; simp [show k < bs.length by omega]
    unfold hexTo
    rw [ih, e, List.replicate_succ, List.replicate_succ, List.set_append_right _ _ (by omega), hl, Nat.sub_self, List.set_cons_zero,
      List.set_append_right _ _ (by omega), hl, show 2 * k + 1 - 2 * k = 1 by omega, List.set_cons_succ, List.set_cons_zero, ht, hexL_snoc]
    simp [hexOf, dg]
theorem hexTo_hexL (bs : List UInt8) (h : bs.length = 32) : hexTo bs 32 = hexL bs := by
  rw [hexTo_eq bs 32 (Nat.le_refl _) (by omega), List.take_of_length_le (by omega)]; simp
/-- append to a row of bytes that the call itself has made, as one step of a region that draws. -/
theorem step_append_bytes {ops : Array Oper} {o : Oper} {a : Act} {w : World} {K : Act → World → Prop} {Q : Exit → Act → World → Prop} {E : Prop}
    (hg : o.guard = none) (s x : Operand) (hop : o.op = Op.call { callee := Callee.builtin Builtin.append, args := #[s, x], argTypes := #[32, 32] })
    (base : Nat) (v : Value) (n : Nat) (xs : List Value) (hs : a.eval s = v) (hown : w.ownsRow base 5 1 v n xs)
    (ad : Addr) (m c : Nat) (news : List Value) (hx : a.eval x = .slice (some ad) m c) (hl : news.length = m) (hnews : ∀ j u, news[j]? = some u → w.cell? (ad.add j) = some u) (h1 : ∀ u ∈ news, u.oneCell' = true)
    (hb : n + m ≤ 140737488355328) (hbase : base ≤ w.heap.size)
    (h : ∀ v' w', w'.ownsRow base 5 1 v' (n + m) (xs ++ news) → w.grownBy w' v.ownBlock → K (a.put o.dst v') w') :
    if Region.wanted o (yielded ops a.tmps) = true then Oper.wp Try.prog o a w K Q else E := by
  have hw : Region.wanted o (yielded ops a.tmps) = true := by simp [Region.wanted, hg]
  rw [if_pos hw]
  obtain ⟨i, hi, hz⟩ := Option.map_eq_some_iff.1 bytes5
  simp only [Prod.mk.injEq] at hz
  obtain ⟨hz, hsz, hby⟩ := hz
  exact wp_append_own w s x 32 hop base 5 i (.int .u8 0) 1 1 Try.underlying32 hi hz hsz hby rfl (by omega) v n xs hs hown ad m c news hx (by omega) hnews h1 (by unfold maxLen; omega) (by omega) hbase (fun v' w' h2 h3 _ => h v' w' h2 h3)
def RHRel (bs : List UInt8) (w : World) (k : Nat) (v : Value) (wr : World) : Prop :=
  Below w.heap.size w wr ∧ RowIs wr w.heap.size 24 (c8 bs) ∧ wr.ownsRow (w.heap.size + 1) 5 1 v (2 * k) (c8 (hexL (bs.take k)))
theorem RHRel.own2 {bs : List UInt8} {w wr : World} {k : Nat} {v : Value} (h : RHRel bs w k v wr) (o : Obj) : (wr.alloc o).ownsRow (w.heap.size + 1) 5 1 v (2 * k) (c8 (hexL (bs.take k))) :=
  h.2.2.kept (World.grownBy_alloc wr o none) (by cases hv : v.ownBlock with | none => exact Or.inl rfl | some g => exact Or.inr (by simp))
theorem ownBlock_ge {W : World} {base n : Nat} {v : Value} {xs : List Value} (h : W.ownsRow base 5 1 v n xs) {g : Nat} (hg : v.ownBlock = some g) : base ≤ g := by
  rcases h.2 with ⟨rfl, _⟩ | ⟨g', cap, cur, rfl, hb, _⟩
  · simp [Value.ownBlock] at hg
  · simp [Value.ownBlock] at hg; omega
theorem RHRel.cell_kept {bs : List UInt8} {w wr w' : World} {k j : Nat} {v u : Value} {o : Obj} (h : RHRel bs w k v wr) (hc : wr.cell? ⟨w.heap.size, j, none⟩ = some u) (hg : ((wr.alloc o).drew).grownBy w' v.ownBlock) : w'.cell? ⟨w.heap.size, j, none⟩ = some u := by
  have h1 : ((wr.alloc o).drew).cell? ⟨w.heap.size, j, none⟩ = some u := by
    rw [World.cell?_drew, World.cell?_alloc_lt _ _ _ (block_lt_of_cell hc)]; exact hc
  refine hg.cell h1 ?_
  cases hv : v.ownBlock with
  | none => simp
  | some g => have := ownBlock_ge h.2.2 hv; simp; omega
theorem RHRel.next {bs : List UInt8} {w wr w' : World} {k : Nat} {v v' : Value} {o : Obj} {d1 d2 : UInt8} (h : RHRel bs w k v wr) (hk : k < bs.length) (h1 : d1 = dg ((bs.getD k 0).toNat / 16)) (h2 : d2 = dg ((bs.getD k 0).toNat % 16))
    (hown : w'.ownsRow (w.heap.size + 1) 5 1 v' (2 * k + 2) (c8 (hexL (bs.take k)) ++ c8 [d1, d2])) (hg : ((wr.alloc o).drew).grownBy w' v.ownBlock) : RHRel bs w (k + 1) v' w' := by
  have hlt := h.2.1.lt
  have hsz : w.heap.size + 1 ≤ ((wr.alloc o).drew).heap.size := by show _ ≤ (wr.alloc o).heap.size; simp; omega
  refine ⟨((h.1.alloc h.1.size _).drew).grown hg (by omega) (fun g hg' => by have := ownBlock_ge h.2.2 hg'; omega), ?_, ?_⟩
  · have r : RowIs ((wr.alloc o).drew) w.heap.size 24 (c8 bs) := (h.2.1.alloc o).drew
    unfold RowIs
    rw [hg.block w.heap.size (by omega) (by
      cases hv : v.ownBlock with
      | none => simp
      | some g => have := ownBlock_ge h.2.2 hv; simp; omega)]
    exact r
  · have e : c8 (hexL (bs.take k)) ++ c8 [d1, d2] = c8 (hexL (bs.take (k + 1))) := by
      have ht : bs.take (k + 1) = bs.take k ++ [bs.getD k 0] := by
        rw [List.take_succ_eq_append_getElem hk]; simp [hk]
      rw [ht, hexL_snoc, h1, h2]
      simp [c8, hexOf]
    rw [e] at hown
    exact hown
theorem RHRel.conv {bs : List UInt8} {w wr : World} {v : Value} (h : RHRel bs w 32 v wr) (hl : bs.length = 32) : (convert 32 9 v).run Try.prog wr = .ok (.string (strOf (hexL bs))) wr := by
  rw [RHRel, List.take_of_length_le (by omega)] at h
  rcases h.2.2.2 with ⟨_, h0⟩ | ⟨g, cap, cur, rfl, _, hg, hn, _, hs, ht⟩
  · omega
  · rw [Nat.mul_one] at ht
    have hcell : ∀ j u, (c8 (hexL bs))[j]? = some u → wr.cell? ((⟨g, 0, none⟩ : Addr).add j) = some u := fun j u hu => by
      rw [Addr.add_mid, Nat.zero_add, cell_of_row wr g j cur 5 _ hg]
      rw [← ht, List.getElem?_take] at hu
      split at hu
      · simpa using hu
      · cases hu
    have hl2 := run_loadCells_list (P := Try.prog) wr ⟨g, 0, none⟩ (c8 (hexL bs)) hcell
    rw [c8_len, hexL_len, hl] at hl2
    have e : c8 (hexL bs) = ((hexL bs).map fun b => (b.toNat : Int)).map (Value.int .u8) := by simp [c8]
    rw [e] at hl2
    rw [run_convert_bytes_string wr 32 9 5 _ _ _ Try.underlying32 Try.underlying5 Try.underlying9, run_bytesToString wr _ _ _ _ hl2]
    have := foldl_push (hexL bs) []
    simp only [List.nil_append] at this
    rw [show ByteArray.empty = strOf [] from rfl, this]
set_option maxRecDepth 100000 in
set_option maxHeartbeats 800000 in
theorem refHex_any (bs : List UInt8) (hl : bs.length = 32) (w : World) :
    Calls Try.prog 46 #[.agg (c8 bs).toArray] w fun e w' => e = .returned (.string (strOf (hexL bs))) ∧ Below w.heap.size w w' := by
  go_enter Try.func46, Try.ntmps46
  go_wp2
  go_loopw [3, 4] (fun v i wr => ∃ k : Nat, k ≤ 32 ∧ i = .int .i64 k ∧ RHRel bs w k v wr) (fun _ i _ => 32 - (intOf i).toNat)
  case atStart => exact ⟨0, by omega, rfl, (Below.refl _ _).alloc (Nat.le_refl _) _, RowIs.new w 24 _, World.ownsRow_nil _ _ 5 1⟩
  case round =>
    obtain ⟨k, hk, rfl, hR⟩ := hrel
    by_cases hlt : k < 32
    · have bk : (k : Int) < 32 := by omega
      obtain ⟨x, X, e0⟩ : ∃ x : UInt8, Hid (x = bs.getD k 0) ∧ wr.cell? ⟨w.heap.size, k, none⟩ = some (.int .u8 (x.toNat : Int)) := ⟨_, rfl, hR.2.1.cell (c8_get _ k (by omega))⟩
      have hx8 := x.toNat_lt
      obtain ⟨q, hq, Hq⟩ : ∃ q : Nat, IntKind.u8.wrap ((x.toNat : Int) / 16) = (q : Int) ∧ Hid (q = x.toNat / 16) := ⟨x.toNat / 16, by simp [IntKind.wrap, IntKind.bits, IntKind.signed]; omega, rfl⟩
      obtain ⟨r, hr, Hr⟩ : ∃ r : Nat, (x.toNat : Int).tmod 16 = (r : Int) ∧ Hid (r = x.toNat % 16) := ⟨x.toNat % 16, by rw [Int.tmod_eq_emod_of_nonneg (by omega)]; omega, rfl⟩
      have hq0 := fun W => idxDigit q (by have := Hq.out; omega) .u8 W
      have hr0 := fun W => idxDigit r (by have := Hr.out; omega) .u8 W
      have HR : Hid (RHRel bs w k u3 wr) := hR
      clear hR hx8
      go_wp2
      obtain ⟨d1, D1, hqi⟩ : ∃ d1 : UInt8, Hid (d1 = dg q) ∧ ∀ W, (Instr.index 9 (.string ⟨#[48, 49, 50, 51, 52, 53, 54, 55, 56, 57, 97, 98, 99, 100, 101, 102]⟩) (.int .u8 (q : Int))).run Try.prog W = .ok (.int .u8 (d1.toNat : Int)) W := ⟨_, rfl, hq0⟩
      obtain ⟨d2, D2, hri⟩ : ∃ d2 : UInt8, Hid (d2 = dg r) ∧ ∀ W, (Instr.index 9 (.string ⟨#[48, 49, 50, 51, 52, 53, 54, 55, 56, 57, 97, 98, 99, 100, 101, 102]⟩) (.int .u8 (r : Int))).run Try.prog W = .ok (.int .u8 (d2.toNat : Int)) W := ⟨_, rfl, hr0⟩
      clear hq0 hr0
      have HO : Hid (((wr.alloc (.cells #[.int .u8 (d1.toNat : Int), .int .u8 (d2.toNat : Int)] 5)).drew).ownsRow (w.heap.size + 1) 5 1 u3 (2 * k) (c8 (hexL (bs.take k)))) := (RHRel.own2 HR.out _).drew
      have HNW : Hid (∀ j u, (c8 [d1, d2])[j]? = some u → ((wr.alloc (.cells #[.int .u8 (d1.toNat : Int), .int .u8 (d2.toNat : Int)] 5)).drew).cell? ((⟨wr.heap.size, 0, none⟩ : Addr).add j) = some u) := fun j u hu => by
        rw [Addr.add_mid, Nat.zero_add]; exact (RowIs.new wr 5 (c8 [d1, d2])).drew.cell hu
      have HSZ : Hid (w.heap.size + 1 ≤ ((wr.alloc (.cells #[.int .u8 (d1.toNat : Int), .int .u8 (d2.toNat : Int)] 5)).drew).heap.size) := by
        have := HR.out.2.1.lt
        unfold Hid
        show _ ≤ (wr.alloc _).heap.size
        simp; omega
      go_region_held3 (fun w' => w'.cell? ⟨w.heap.size, k, none⟩ = some (.int .u8 (x.toNat : Int))) (first | (go_keep; done) | exact RHRel.cell_kept HR.out e0 (by assumption))
        ((refine step_append_bytes rfl _ _ rfl (w.heap.size + 1) u3 (2 * k) (c8 (hexL (bs.take k))) rfl HO.out ⟨wr.heap.size, 0, none⟩ 2 2 (c8 [d1, d2]) rfl rfl HNW.out (c8_one _) (by omega) HSZ.out ?_; intro v' w' hown hgrow))
      all_goals
        have HN : Hid (RHRel bs w (k + 1) v' w') := RHRel.next HR.out (by omega) (by rw [D1.out, Hq.out, X.out]) (by rw [D2.out, Hr.out, X.out]) hown hgrow
        clear hown hgrow
        go_wp2
        go_roundw
        case rel => exact ⟨k + 1, by omega, by go_num, HN.out⟩
        case measure => simp [intOf]; omega
    · obtain rfl : k = 32 := by omega
      have hc := RHRel.conv hR hl
      have HR : Hid (RHRel bs w 32 u3 wr) := hR
      clear hR
      go_wp2
      go_ret
      exact ⟨rfl, HR.out.1⟩
theorem hexL_any (a : List UInt8) (ha : a.length = 32) (w : World) : Calls Try.prog 44 #[.agg (c8 a).toArray] w fun e w' => e = .returned (.string (strOf (hexL a))) ∧ Below w.heap.size w w' := by
  have := hex_any a ha w
  rw [hexTo_hexL a ha] at this
  exact this
end Go.Proofs.Ytedghldjpkabmaa
