/-
  THE WALK OF sha.schedule: the 64 words of a block of 64 bytes.
-/
import Derived.Test.YtpnhklefoafgkaaDoorKit
namespace Go.Proofs.YtpnhklefoafgkaaDoor
open Go.RowKit Sha
theorem cells5 : Tryd.prog.cellsOf 5 = 1 := by kernel_rfl
theorem size64 : (Tryd.prog.info? 64).map (·.size) = some 64 := by kernel_rfl
def zero64 : List Value := c32 (List.replicate 64 0)
theorem step_word (bs : List UInt8) (k : Nat) (h : k < 16) : nextW bs (schedTo bs k) = word bs k := by
  unfold nextW; rw [schedTo_len, if_pos h]
theorem step_mix (bs : List UInt8) (k : Nat) (h : 16 ≤ k) : nextW bs (schedTo bs k) = (rowTo bs k).getD (k - 16) 0 + s0 ((rowTo bs k).getD (k - 15) 0) + (rowTo bs k).getD (k - 7) 0 + s1 ((rowTo bs k).getD (k - 2) 0) := by
  rw [rowTo_get bs k _ (by omega), rowTo_get bs k _ (by omega), rowTo_get bs k _ (by omega), rowTo_get bs k _ (by omega)]
  unfold nextW; rw [schedTo_len, if_neg (by omega)]
theorem word4_bits (a b c d : UInt8) : bits .or .u32 (bits .or .u32 (bits .or .u32 (IntKind.u32.wrap (IntKind.u32.wrap (a.toNat : Int) * 16777216)) (IntKind.u32.wrap (IntKind.u32.wrap (b.toNat : Int) * 65536))) (IntKind.u32.wrap (IntKind.u32.wrap (c.toNat : Int) * 256))) (IntKind.u32.wrap (d.toNat : Int)) = n32 (word4 a b c d) := by
  rw [wrap_w8, wrap_w8, wrap_w8, wrap_w8, show (16777216 : Int) = 2 ^ 24 from rfl, show (65536 : Int) = 2 ^ 16 from rfl, show (256 : Int) = 2 ^ 8 from rfl, wrap_shl, wrap_shl, wrap_shl, bits_or, bits_or, bits_or]; rfl
def SchRel (bs : List UInt8) (w : World) (k : Nat) (wr : World) : Prop :=
  Below w.heap.size w wr ∧ RowIs wr w.heap.size 54 (c8 bs) ∧ RowIs wr (w.heap.size + 1) 64 zero64 ∧ RowIs wr (w.heap.size + 1 + 1) 64 (c32 (rowTo bs k))
theorem SchRel.next {bs : List UInt8} {w wr : World} {k : Nat} (h : SchRel bs w k wr) (hk : k < 64) : SchRel bs w (k + 1) ((wr.setCell ⟨w.heap.size + 1 + 1, k, none⟩ (.int .u32 (n32 (nextW bs (schedTo bs k))))).drew) := by
  obtain ⟨hb, r0, r1, r2⟩ := h
  refine ⟨(hb.setCell (by show w.heap.size ≤ w.heap.size + 1 + 1; omega) _).drew, (r0.other _ _ (by show w.heap.size ≠ w.heap.size + 1 + 1; omega)).drew, (r1.other _ _ (by show w.heap.size + 1 ≠ w.heap.size + 1 + 1; omega)).drew, ?_⟩
  have := (r2.set k (.int .u32 (n32 (nextW bs (schedTo bs k))))).drew
  rwa [c32_set, rowTo_set bs k hk] at this
theorem SchRel.start (bs : List UInt8) (w : World) : SchRel bs w 0 (((w.alloc (.cells (c8 bs).toArray 54)).alloc (.cells zero64.toArray 64)).alloc (.cells zero64.toArray 64)) := by
  refine ⟨(((Below.refl _ _).alloc (Nat.le_refl _) _).alloc (by simp) _).alloc (by simp; omega) _, ((RowIs.new w 54 _).alloc _).alloc _, ?_, ?_⟩
  · have := (RowIs.new (w.alloc (.cells (c8 bs).toArray 54)) 64 zero64).alloc (.cells zero64.toArray 64)
    simpa using this
  · have := RowIs.new ((w.alloc (.cells (c8 bs).toArray 54)).alloc (.cells zero64.toArray 64)) 64 zero64
    simpa [rowTo, schedTo, zero64] using this
set_option maxRecDepth 100000 in
set_option maxHeartbeats 400000 in
theorem schedule_any (bs : List UInt8) (hl : bs.length = 64) (w : World) :
    Calls Tryd.prog 33 #[.agg (c8 bs).toArray] w fun e w' => e = .returned (.agg (c32 (sched bs)).toArray) ∧ Below w.heap.size w w' := by
  go_enter Tryd.func33, Tryd.ntmps33
  go_wp2
  go_loopw [6] (fun i wr => ∃ k : Nat, k ≤ 16 ∧ i = .int .i64 k ∧ SchRel bs w k wr) (fun i _ => 16 - (intOf i).toNat)
  case atStart => exact ⟨0, by omega, rfl, SchRel.start bs w⟩
  case round =>
    obtain ⟨k, hk, rfl, hR⟩ := hrel
    by_cases hlt : k < 16
    · obtain ⟨m, w0, H0⟩ : ∃ m : Nat, IntKind.i64.wrap (4 * (k : Int)) = (m : Int) ∧ Hid (m = 4 * k) := ⟨4 * k, by rw [wrap_i64 _ (by omega) (by omega)]; omega, rfl⟩
      have q0 := H0.out
      obtain ⟨m1, w1, H1⟩ : ∃ m1 : Nat, IntKind.i64.wrap ((m : Int) + 1) = (m1 : Int) ∧ Hid (m1 = 4 * k + 1) := ⟨4 * k + 1, by rw [wrap_i64 _ (by omega) (by omega)]; omega, rfl⟩
      obtain ⟨m2, w2, H2⟩ : ∃ m2 : Nat, IntKind.i64.wrap ((m : Int) + 2) = (m2 : Int) ∧ Hid (m2 = 4 * k + 2) := ⟨4 * k + 2, by rw [wrap_i64 _ (by omega) (by omega)]; omega, rfl⟩
      obtain ⟨m3, w3, H3⟩ : ∃ m3 : Nat, IntKind.i64.wrap ((m : Int) + 3) = (m3 : Int) ∧ Hid (m3 = 4 * k + 3) := ⟨4 * k + 3, by rw [wrap_i64 _ (by omega) (by omega)]; omega, rfl⟩
      have q1 := H1.out
      have q2 := H2.out
      have q3 := H3.out
      obtain ⟨v0, V0, e0⟩ : ∃ v : UInt8, Hid (v = bs.getD m 0) ∧ wr.cell? ⟨w.heap.size, m, none⟩ = some (.int .u8 (v.toNat : Int)) := ⟨_, rfl, hR.2.1.cell (c8_get bs m (by omega))⟩
      obtain ⟨v1, V1, e1⟩ : ∃ v : UInt8, Hid (v = bs.getD m1 0) ∧ wr.cell? ⟨w.heap.size, m1, none⟩ = some (.int .u8 (v.toNat : Int)) := ⟨_, rfl, hR.2.1.cell (c8_get bs m1 (by omega))⟩
      obtain ⟨v2, V2, e2⟩ : ∃ v : UInt8, Hid (v = bs.getD m2 0) ∧ wr.cell? ⟨w.heap.size, m2, none⟩ = some (.int .u8 (v.toNat : Int)) := ⟨_, rfl, hR.2.1.cell (c8_get bs m2 (by omega))⟩
      obtain ⟨v3, V3, e3⟩ : ∃ v : UInt8, Hid (v = bs.getD m3 0) ∧ wr.cell? ⟨w.heap.size, m3, none⟩ = some (.int .u8 (v.toNat : Int)) := ⟨_, rfl, hR.2.1.cell (c8_get bs m3 (by omega))⟩
      have HW : Hid (word4 v0 v1 v2 v3 = nextW bs (schedTo bs k)) := by
        rw [step_word bs k hlt]; unfold word; rw [V0.out, V1.out, V2.out, V3.out, H0.out, H1.out, H2.out, H3.out]; rfl
      have b0 : (m : Int) < 64 := by omega
      have b1 : (m1 : Int) < 64 := by omega
      have b2 : (m2 : Int) < 64 := by omega
      have b3 : (m3 : Int) < 64 := by omega
      have bk : (k : Int) < 64 := by omega
      have cz := hR.2.2.2.cell (c32_get (rowTo bs k) k (by rw [rowTo_len bs k (by omega)]; omega))
      have fz := hR.2.2.2.frozen k
      have hv := word4_bits v0 v1 v2 v3
      have HR : Hid (SchRel bs w k wr) := hR
      clear q0 q1 q2 q3 V0 V1 V2 V3 H0 H1 H2 H3 hR
      go_wp2
      go_region_held3 (fun w' => w'.cell? ⟨w.heap.size, m, none⟩ = some (.int .u8 (v0.toNat : Int)) ∧ w'.cell? ⟨w.heap.size, m1, none⟩ = some (.int .u8 (v1.toNat : Int)) ∧ w'.cell? ⟨w.heap.size, m2, none⟩ = some (.int .u8 (v2.toNat : Int)) ∧ w'.cell? ⟨w.heap.size, m3, none⟩ = some (.int .u8 (v3.toNat : Int))) (first | (go_keep; done) | exact ⟨cell_set_drew (by omega) e0, cell_set_drew (by omega) e1, cell_set_drew (by omega) e2, cell_set_drew (by omega) e3⟩) (fail)
      go_wp2
      go_roundw
      case rel => exact ⟨k + 1, by omega, by go_num, by have := SchRel.next HR.out (by omega); rw [← HW.out] at this; exact this⟩
      case measure => simp [intOf]; omega
    · obtain rfl : k = 16 := by omega
      have HR0 : Hid (SchRel bs w 16 wr) := hR
      clear hR
      go_wp2
      go_loopw [5] (fun i wr => ∃ k : Nat, 16 ≤ k ∧ k ≤ 64 ∧ i = .int .i64 k ∧ SchRel bs w k wr) (fun i _ => 64 - (intOf i).toNat)
      case atStart => exact ⟨16, by omega, by omega, rfl, HR0.out⟩
      case round =>
        clear HR0
        obtain ⟨k, hk0, hk, rfl, hR⟩ := hrel
        by_cases hlt : k < 64
        · have hrl := rowTo_len bs k hk
          obtain ⟨a, w0, H0⟩ : ∃ m : Nat, IntKind.i64.wrap ((k : Int) - 16) = (m : Int) ∧ Hid (m = k - 16) := ⟨k - 16, by rw [wrap_i64 _ (by omega) (by omega)]; omega, rfl⟩
          obtain ⟨b, w1, H1⟩ : ∃ m : Nat, IntKind.i64.wrap ((k : Int) - 15) = (m : Int) ∧ Hid (m = k - 15) := ⟨k - 15, by rw [wrap_i64 _ (by omega) (by omega)]; omega, rfl⟩
          obtain ⟨c, w2, H2⟩ : ∃ m : Nat, IntKind.i64.wrap ((k : Int) - 7) = (m : Int) ∧ Hid (m = k - 7) := ⟨k - 7, by rw [wrap_i64 _ (by omega) (by omega)]; omega, rfl⟩
          obtain ⟨d, w3, H3⟩ : ∃ m : Nat, IntKind.i64.wrap ((k : Int) - 2) = (m : Int) ∧ Hid (m = k - 2) := ⟨k - 2, by rw [wrap_i64 _ (by omega) (by omega)]; omega, rfl⟩
          have q0 := H0.out
          have q1 := H1.out
          have q2 := H2.out
          have q3 := H3.out
          obtain ⟨v0, V0, e0⟩ : ∃ v : BitVec 32, Hid (v = (rowTo bs k).getD a 0) ∧ wr.cell? ⟨w.heap.size + 1 + 1, a, none⟩ = some (.int .u32 (n32 v)) := ⟨_, rfl, hR.2.2.2.cell (c32_get _ a (by omega))⟩
          obtain ⟨v1, V1, e1⟩ : ∃ v : BitVec 32, Hid (v = (rowTo bs k).getD b 0) ∧ wr.cell? ⟨w.heap.size + 1 + 1, b, none⟩ = some (.int .u32 (n32 v)) := ⟨_, rfl, hR.2.2.2.cell (c32_get _ b (by omega))⟩
          obtain ⟨v2, V2, e2⟩ : ∃ v : BitVec 32, Hid (v = (rowTo bs k).getD c 0) ∧ wr.cell? ⟨w.heap.size + 1 + 1, c, none⟩ = some (.int .u32 (n32 v)) := ⟨_, rfl, hR.2.2.2.cell (c32_get _ c (by omega))⟩
          obtain ⟨v3, V3, e3⟩ : ∃ v : BitVec 32, Hid (v = (rowTo bs k).getD d 0) ∧ wr.cell? ⟨w.heap.size + 1 + 1, d, none⟩ = some (.int .u32 (n32 v)) := ⟨_, rfl, hR.2.2.2.cell (c32_get _ d (by omega))⟩
          have HW : Hid (v0 + s0 v1 + v2 + s1 v3 = nextW bs (schedTo bs k)) := by
            rw [step_mix bs k hk0, V0.out, V1.out, V2.out, V3.out, H0.out, H1.out, H2.out, H3.out]; rfl
          have b0 : (a : Int) < 64 := by omega
          have b1 : (b : Int) < 64 := by omega
          have b2 : (c : Int) < 64 := by omega
          have b3 : (d : Int) < 64 := by omega
          have bk : (k : Int) < 64 := by omega
          have na : a ≠ k := by omega
          have nb : b ≠ k := by omega
          have nc : c ≠ k := by omega
          have nd : d ≠ k := by omega
          have cz := hR.2.2.2.cell (c32_get (rowTo bs k) k (by omega))
          have fz := hR.2.2.2.frozen k
          have p1 := wrap_add v0 (s0 v1)
          have p2 := wrap_add (v0 + s0 v1) v2
          have p3 := wrap_add (v0 + s0 v1 + v2) (s1 v3)
          have HR : Hid (SchRel bs w k wr) := hR
          clear q0 q1 q2 q3 V0 V1 V2 V3 H0 H1 H2 H3 hR hrl
          go_wp2
          go_region_held3 (fun w' => w'.cell? ⟨w.heap.size + 1 + 1, a, none⟩ = some (.int .u32 (n32 v0)) ∧ w'.cell? ⟨w.heap.size + 1 + 1, b, none⟩ = some (.int .u32 (n32 v1)) ∧ w'.cell? ⟨w.heap.size + 1 + 1, c, none⟩ = some (.int .u32 (n32 v2)) ∧ w'.cell? ⟨w.heap.size + 1 + 1, d, none⟩ = some (.int .u32 (n32 v3))) (first | (go_keep; done) | exact ⟨cell_set_drew (Or.inr na) e0, cell_set_drew (Or.inr nb) e1, cell_set_drew (Or.inr nc) e2, cell_set_drew (Or.inr nd) e3⟩) (first | (go_at_call 38; refine (ls0_any _ _).mono ?_; rintro e w' ⟨rfl, rfl⟩) | (go_at_call 39; refine (ls1_any _ _).mono ?_; rintro e w' ⟨rfl, rfl⟩))
          go_wp2
          go_roundw
          case rel =>
            have hn := SchRel.next HR.out (by omega)
            rw [← HW.out] at hn
            (repeat apply Exists.intro); exact ⟨⟨k + 1, by omega, by omega, by go_num, hn⟩, rfl⟩
          case measure => simp [intOf]; omega
        · obtain rfl : k = 64 := by omega
          rw [show SchRel bs w 64 wr = (Below w.heap.size w wr ∧ RowIs wr w.heap.size 54 (c8 bs) ∧ RowIs wr (w.heap.size + 1) 64 zero64 ∧ RowIs wr (w.heap.size + 1 + 1) 64 (c32 (sched bs))) by unfold SchRel; rw [rowTo_64]] at hR
          obtain ⟨hb, _, r1, r2⟩ := hR
          have hsz : (c32 (sched bs)).toArray.size = 64 := by simp [c32_len, sched, schedTo_len]
          go_wp2_with (first
            | (refine wpList_load_row rfl 64 _ rfl (w.heap.size + 1 + 1) rfl 64 _ (0, 0) _ r2 Tryd.underlying64 rfl (by rw [hsz]; exact size64) ?_)
            | (refine wpList_store_row rfl 64 _ _ rfl (w.heap.size + 1) _ rfl rfl 64 _ r1 (by rw [hsz]; exact size64) (by rw [hsz]; rfl) (all_oneCell_toArray (c32_one _)) ?_))
          refine bodyPost_ret (v := .agg (c32 (sched bs)).toArray) (results_cell_row Tryd.results33 _ _ (w.heap.size + 1) 64 _ (0, 0) _ rfl (RowIs.setRow r1 _) Tryd.underlying64 rfl (by rw [hsz]; exact size64)) rfl ⟨rfl, Below.row hb (by omega) _⟩
end Go.Proofs.YtpnhklefoafgkaaDoor
