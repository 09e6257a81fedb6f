/-
  THE WALK OF sha.ending: what stands behind n bytes, up to the end of a block.
-/
import Derived.Test.YtpnhklefoafgkaaDoorHash
namespace Go.Proofs.YtpnhklefoafgkaaDoor
open Go.RowKit Sha
theorem bytes5 : (Tryd.prog.info? 5).map (fun i => (i.zero, i.size, i.bytes)) = some (some (.int .u8 0), 1, 1) := by kernel_rfl
theorem made_zero (c : Nat) : madeCells (Value.cells (.int .u8 0)) c = (c8 (List.replicate c 0)).toArray := by
  apply Array.ext_getElem?
  intro i
  simp only [madeCells, c8, List.map_replicate]
  by_cases h : i < c
  · simp [h, Value.cells, Nat.mod_one]
  · simp [h]
theorem make_bytes (W : World) (l c : Nat) (hlc : l ≤ c) (hc : c ≤ 281474976710656) :
    (Instr.makeSlice 22 (.int .i64 (l : Int)) (.int .i64 (c : Int))).run Tryd.prog W = .ok (.slice (some ⟨W.heap.size, 0, none⟩) l c) (W.alloc (.cells (c8 (List.replicate c 0)).toArray 5)) := by
  obtain ⟨i, hi, hz⟩ := Option.map_eq_some_iff.1 bytes5
  simp only [Prod.mk.injEq] at hz
  obtain ⟨hz, hs, hb⟩ := hz
  have := run_make (P := Tryd.prog) W 22 5 i (.int .u8 0) Tryd.underlying22 hi hz .i64 .i64 l c (by omega) (by omega) (by rw [hb]; omega) (by omega)
  rw [this, hs, Nat.mul_one, Int.toNat_natCast, Int.toNat_natCast, made_zero]
theorem setCells_one (w : World) (b o : Nat) (v : Value) : w.setCells b o [v] = w.setCell ⟨b, o, none⟩ v := rfl
/-- append of one byte within the capacity, the row known whole. -/
theorem wpList_append_byte {w : World} {ops : Array Oper} {rest : List Oper} {o : Oper} {a : Act} {Q : Exit → Act → World → Prop}
    (hg : o.guard = none) (s x : Operand) (hop : o.op = Op.call { callee := Callee.builtin Builtin.append, args := #[s, x], argTypes := #[22, 22] })
    (g n cap : Nat) (cs : List Value) (hr : RowIs w g 5 cs) (hcs : cs.length = cap) (hs : a.eval s = .slice (some ⟨g, 0, none⟩) n cap)
    (b c : Nat) (v : Value) (hx : a.eval x = .slice (some ⟨b, 0, none⟩) 1 c) (hv : w.cell? ⟨b, 0, none⟩ = some v) (h1 : v.oneCell' = true) (hroom : n < cap)
    (hK : wpList Tryd.prog ops Q rest (a.put o.dst (.slice (some ⟨g, 0, none⟩) (n + 1) cap)) (w.setCell ⟨g, n, none⟩ v)) :
    wpList Tryd.prog ops Q (o :: rest) a w := by
  refine wpList_plain hg fun K hK' => ?_
  obtain ⟨i, hi, hz⟩ := Option.map_eq_some_iff.1 bytes5
  simp only [Prod.mk.injEq] at hz
  obtain ⟨_, hsz, _⟩ := hz
  have hcell : w.cell? ⟨g, n, none⟩ = some cs[n] := hr.cell (by simp [hcs, hroom])
  have hrun := run_append_room_cells (P := Tryd.prog) w 22 o.type 5 i Tryd.underlying22 hi g 0 n cap ⟨b, 0, none⟩ 1 c [v] (by simp [hsz])
    (fun j u hu => by
      cases j with
      | zero => simp at hu; subst hu; simpa [Addr.add] using hv
      | succ j => simp at hu)
    (fun u hu => by simp at hu; subst hu; exact h1) (by omega)
    (fun j hj => by simp at hj; subst hj; simp [hsz, hcell])
    (fun j hj => by simp at hj; subst hj; simp only [hsz, Nat.mul_one, Nat.zero_add, Nat.add_zero]; exact hr.frozen n)
  rw [hsz, Nat.mul_one, Nat.zero_add, setCells_one] at hrun
  unfold Oper.wp
  simp [execOp, hop, resolve, invoke, builtin, hs, hx, hrun, Result.andThen]
  exact hK' _ _ hK
/-- How many noughts stand behind the mark. -/
def noughts (n : Nat) : Nat := (119 - n % 64) % 64
def lb (n k : Nat) : UInt8 := UInt8.ofNat (8 * n / 2 ^ (56 - 8 * k))
def endTo (n : Nat) : Nat → List UInt8
  | 0 => 128 :: List.replicate (noughts n + 8) 0
  | k + 1 => (endTo n k).set (1 + noughts n + k) (lb n k)
theorem endTo_len (n : Nat) : ∀ k, (endTo n k).length = 9 + noughts n
  | 0 => by simp [endTo]; omega
  | k + 1 => by simp [endTo, endTo_len n k]
theorem lb_mod (n k : Nat) : (8 * (n : Int)) / 2 ^ (56 - 8 * k) % 256 = ((lb n k).toNat : Int) := by
  unfold lb; simp [UInt8.toNat_ofNat']
def EndRel (n : Nat) (w : World) (k : Nat) (wr : World) : Prop := Below w.heap.size w wr ∧ RowIs wr w.heap.size 5 (c8 (endTo n k))
theorem EndRel.start (n z : Nat) (w : World) (hz : noughts n = z) : EndRel n w 0 (w.alloc (.cells ((c8 (List.replicate (1 + z + 8) 0)).set 0 (.int .u8 128)).toArray 5)) := by
  refine ⟨(Below.refl _ _).alloc (Nat.le_refl _) _, ?_⟩
  have := RowIs.new w 5 ((c8 (List.replicate (1 + z + 8) 0)).set 0 (.int .u8 128))
  rw [show (Value.int .u8 128) = .int .u8 (((128 : UInt8).toNat : Nat) : Int) from rfl, c8_set] at this
  rw [show endTo n 0 = (List.replicate (1 + z + 8) (0 : UInt8)).set 0 128 by simp [endTo, hz, show 1 + z + 8 = (z + 8) + 1 by omega, List.replicate_succ]]
  exact this
theorem EndRel.next {n k : Nat} {w wr : World} (h : EndRel n w k wr) : EndRel n w (k + 1) ((wr.alloc (.cells #[.int .u8 ((lb n k).toNat : Int)] 5)).setCell ⟨w.heap.size, 1 + noughts n + k, none⟩ (.int .u8 ((lb n k).toNat : Int))) := by
  obtain ⟨hb, r⟩ := h
  refine ⟨(hb.alloc (hb.size) _).setCell (Nat.le_refl _) _, ?_⟩
  have := (r.alloc (.cells #[.int .u8 ((lb n k).toNat : Int)] 5)).set (1 + noughts n + k) (.int .u8 ((lb n k).toNat : Int))
  rw [c8_set] at this
  exact this
set_option maxRecDepth 100000 in
set_option maxHeartbeats 400000 in
theorem ending_any (n : Nat) (hn : n < 1152921504606846976) (w : World) :
    Calls Tryd.prog 27 #[.int .i64 n] w fun e w' => e = .returned (.slice (some ⟨w.heap.size, 0, none⟩) (9 + noughts n) (9 + noughts n)) ∧ Below w.heap.size w w' ∧ RowIs w' w.heap.size 5 (c8 (endTo n 8)) := by
  obtain ⟨z, hz, hz64⟩ : ∃ z : Nat, noughts n = z ∧ z < 64 := ⟨_, rfl, by unfold noughts; omega⟩
  have HZ : Hid (noughts n = z) := hz
  have hzi : (55 - (n : Int)) % 64 = (z : Int) := by unfold noughts at hz; omega
  have hmk : ∀ W : World, (Instr.makeSlice 22 (.int .i64 (1 + (z : Int))) (.int .i64 (1 + (z : Int) + 8))).run Tryd.prog W = .ok (.slice (some ⟨W.heap.size, 0, none⟩) (1 + z) (1 + z + 8)) (W.alloc (.cells (c8 (List.replicate (1 + z + 8) 0)).toArray 5)) := fun W => by
    have := make_bytes W (1 + z) (1 + z + 8) (by omega) (by omega)
    rw [show ((1 + z : Nat) : Int) = 1 + (z : Int) by omega, show ((1 + z + 8 : Nat) : Int) = 1 + (z : Int) + 8 by omega] at this
    exact this
  clear hz
  go_enter Tryd.func27, Tryd.ntmps27
  go_wp2
  clear hmk hzi
  go_loopw [4, 6] (fun v i wr => ∃ k : Nat, k ≤ 8 ∧ v = .slice (some ⟨w.heap.size, 0, none⟩) (1 + z + k) (1 + z + 8) ∧ i = .int .i64 (56 - 8 * (k : Int)) ∧ EndRel n w k wr) (fun _ i _ => (intOf i + 8).toNat)
  case atStart => exact ⟨0, by omega, rfl, rfl, EndRel.start n z w HZ.out⟩
  case round =>
    obtain ⟨k, hk, rfl, rfl, hR⟩ := hrel
    by_cases hlt : k < 8
    · have s0 : (0 : Int) ≤ 56 - 8 * (k : Int) := by omega
      have s1 : 56 - 8 * (k : Int) ≤ 64 := by omega
      have s2 : (56 - 8 * (k : Int)).toNat = 56 - 8 * k := by omega
      have hv : (n : Int) * 8 / 2 ^ (56 - 8 * k) % 256 = ((lb n k).toNat : Int) := by rw [Int.mul_comm]; exact lb_mod n k
      have r0 : Hid (RowIs (wr.alloc (.cells #[.int .u8 ((lb n k).toNat : Int)] 5)) w.heap.size 5 (c8 (endTo n k))) := hR.2.alloc _
      have c0 : Hid ((wr.alloc (.cells #[.int .u8 ((lb n k).toNat : Int)] 5)).cell? ⟨wr.heap.size, 0, none⟩ = some (.int .u8 ((lb n k).toNat : Int))) := (RowIs.new wr 5 [.int .u8 ((lb n k).toNat : Int)]).cell rfl
      have hlen : (c8 (endTo n k)).length = 1 + z + 8 := by rw [c8_len, endTo_len, HZ.out]; omega
      have HL := show Hid _ from hlen
      have HR : Hid (EndRel n w k wr) := hR
      clear hR hlen
      go_wp2_with (at_builtin; refine wpList_append_byte rfl _ _ rfl w.heap.size (1 + z + k) (1 + z + 8) (c8 (endTo n k)) r0.out HL.out rfl wr.heap.size 1 (.int .u8 ((lb n k).toNat : Int)) rfl c0.out rfl (by omega) ?_)
      go_roundw
      case rel => exact ⟨k + 1, by omega, by rw [Nat.add_assoc], by go_num, by have := EndRel.next HR.out; rw [HZ.out] at this; exact this⟩
      case measure => simp [intOf]; omega
    · obtain rfl : k = 8 := by omega
      have HR : Hid (EndRel n w 8 wr) := hR
      clear hR
      go_wp2
      go_ret
      refine ⟨?_, HR.out.1, HR.out.2⟩
      rw [HZ.out, show 9 + z = 1 + z + 8 by omega]
      rfl
end Go.Proofs.YtpnhklefoafgkaaDoor
