/-
  THE WALKS OF leb.Uint, leb.Int, AND OF THE DOCUMENT's.
-/
import Derived.Test.YtgcgblecendijaaLKit
namespace Go.Proofs.Ytgcgblecendijaa.LB
open Go.RowKit Leb
theorem or128 (m : Nat) : bits .or .u8 ((m : Int) % 256) 128 = ((UInt8.ofNat (m % 128 + 128)).toNat : Int) := by
  have all : ∀ j : Fin 256, bits .or .u8 (j.val : Int) 128 = ((UInt8.ofNat (j.val % 128 + 128)).toNat : Int) := by decide +kernel
  have := all ⟨m % 256, Nat.mod_lt _ (by omega)⟩
  simp only at this
  rw [show m % 256 % 128 = m % 128 by omega] at this
  rw [← this]; rfl
theorem or128i (m : Int) : bits .or .u8 (m % 256) 128 = ((UInt8.ofNat ((m % 128).toNat + 128)).toNat : Int) := by
  have all : ∀ j : Fin 256, bits .or .u8 (j.val : Int) 128 = ((UInt8.ofNat (j.val % 128 + 128)).toNat : Int) := by decide +kernel
  have := all ⟨(m % 256).toNat, by omega⟩
  simp only at this
  rw [show (m % 256).toNat % 128 = (m % 128).toNat by omega, show (((m % 256).toNat : Nat) : Int) = m % 256 by omega] at this
  exact this
theorem and127i (m : Int) : bits .and .u8 (m % 256) 127 = m % 128 := by
  have all : ∀ j : Fin 256, bits .and .u8 (j.val : Int) 127 = ((j.val % 128 : Nat) : Int) := by decide +kernel
  have := all ⟨(m % 256).toNat, by omega⟩
  simp only at this
  rw [show (((m % 256).toNat : Nat) : Int) = m % 256 by omega] at this
  rw [this]; omega
theorem and127w (m : Int) : bits .and .i64 m 127 = m % 128 := by
  have e : bits .and .i64 m 127 = IntKind.i64.wrap (((m % 18446744073709551616).toNat % 2 ^ 7 : Nat) : Int) := by
    show IntKind.i64.wrap (((BitVec.ofInt 64 m &&& BitVec.ofInt 64 127).toNat : Nat) : Int) = _
    rw [BitVec.toNat_and, BitVec.toNat_ofInt, ← Nat.and_two_pow_sub_one_eq_mod]
    rfl
  rw [e]
  simp [IntKind.wrap, IntKind.bits, IntKind.signed]
  split <;> omega
def zero10 : List UInt8 := List.replicate 10 0
theorem make10 (W : World) : (Instr.makeSlice 26 (.int .i64 0) (.int .i64 10)).run Try.prog W = .ok (.slice (some ⟨W.heap.size, 0, none⟩) 0 10) (W.alloc (.cells (c8 zero10).toArray 5)) := make_bytes W 0 10 (by omega) (by omega)
theorem Own.made10 (w : World) : Own (w.alloc (.cells (c8 zero10).toArray 5)) w.heap.size (.slice (some ⟨w.heap.size, 0, none⟩) 0 10) [] := Own.made w 10 (by decide)
set_option maxRecDepth 100000 in
set_option maxHeartbeats 400000 in
theorem uint_any (n : Nat) (hn : n < 18446744073709551616) (w : World) :
    Calls Try.prog 32 #[.int .u64 n] w fun e w' => ∃ v, e = .returned v ∧ Own w' w.heap.size v (uintB n) ∧ Below w.heap.size w w' := by
  have hmk := make10
  have HN : Hid (n < 18446744073709551616) := hn
  clear hn
  go_enter Try.func32, Try.ntmps32
  go_wp2
  clear hmk
  go_loopw [0, 3] (fun i v wr => ∃ m : Nat, i = .int .u64 m ∧ m < 18446744073709551616 ∧ ∃ acc, acc ++ uintB m = uintB n ∧ Own wr w.heap.size v acc ∧ Below w.heap.size w wr) (fun i _ _ => (intOf i).toNat)
  case atStart => exact ⟨n, rfl, HN.out, [], rfl, Own.made10 w, (Below.refl _ _).alloc (Nat.le_refl _) _⟩
  case round =>
    obtain ⟨m, rfl, hm, acc, hacc, hown, hb⟩ := hrel
    have hlen : acc.length + [UInt8.ofNat 0].length ≤ 140737488355328 := by
      have h1 := congrArg List.length hacc
      have h2 := uintB_len10 n HN.out
      simp at h1 ⊢; omega
    have HL := show Hid _ from hlen
    have HA : Hid (acc ++ uintB m = uintB n) := hacc
    have HB : Hid (Below w.heap.size w wr) := hb
    have hsz := hb.size
    clear hacc hb hlen
    by_cases hlt : 127 < m
    · have hb0 := or128 m
      obtain ⟨x, hx⟩ : ∃ x, UInt8.ofNat (m % 128 + 128) = x := ⟨_, rfl⟩
      rw [hx] at hb0
      have HX : Hid (uintB m = x :: uintB (m / 128)) := by unfold Hid; rw [uintB, if_neg (by omega), hx]
      have HO : Hid (Own (wr.alloc (.cells #[.int .u8 (x.toNat : Int)] 5)) w.heap.size u3 acc) := World.ownsRow.alloc hown _
      have HO1 := World.ownsRow.lt hown
      clear hx hown
      go_wp2_with (at_builtin; refine wpList_append_bytes rfl _ _ rfl w.heap.size u3 acc rfl HO.out ⟨wr.heap.size, 0, none⟩ 1 [x] rfl (BytesAt.one wr x) HL.out (by simp; omega) ?_; intro v' w' ho hg)
      go_roundw
      case rel => exact ⟨m / 128, by go_num, by omega, acc ++ [x], by rw [← HA.out, HX.out]; simp, ho, below_grown (HB.out.alloc hsz _) hg (fun k hk => (HO1 k hk).1) (by simp; omega)⟩
      case measure => simp [intOf]; omega
    · obtain ⟨x, rfl⟩ : ∃ x : UInt8, m = x.toNat := ⟨UInt8.ofNat m, by rw [b8 m (by omega)]⟩
      have HX : Hid (uintB x.toNat = [x]) := by unfold Hid; rw [uintB, if_pos (by omega)]; simp
      have HO : Hid (Own (wr.alloc (.cells #[.int .u8 (x.toNat : Int)] 5)) w.heap.size u3 acc) := World.ownsRow.alloc hown _
      have HO1 := World.ownsRow.lt hown
      clear hown
      go_wp2_with (at_builtin; refine wpList_append_bytes rfl _ _ rfl w.heap.size u3 acc rfl HO.out ⟨wr.heap.size, 0, none⟩ 1 [x] rfl (BytesAt.one wr x) HL.out (by simp; omega) ?_; intro v' w' ho hg)
      go_ret
      exact ⟨_, rfl, by rw [← HA.out, HX.out]; exact ho, below_grown (HB.out.alloc hsz _) hg (fun k hk => (HO1 k hk).1) (by simp; omega)⟩
set_option maxRecDepth 100000 in
set_option maxHeartbeats 400000 in
theorem ruint_any (n : Nat) (hn : n < 18446744073709551616) (w : World) :
    Calls Try.prog 25 #[.int .u64 n] w fun e w' => ∃ v, e = .returned v ∧ Own w' w.heap.size v (uintB n) ∧ Below w.heap.size w w' := by
  have HN : Hid (n < 18446744073709551616) := hn
  clear hn
  go_enter Try.func25, Try.ntmps25
  go_wp2
  go_loopw [0, 3] (fun i v wr => ∃ m : Nat, i = .int .u64 m ∧ m < 18446744073709551616 ∧ ∃ acc, acc ++ uintB m = uintB n ∧ Own wr w.heap.size v acc ∧ Below w.heap.size w wr) (fun i _ _ => (intOf i).toNat)
  case atStart => exact ⟨n, rfl, HN.out, [], rfl, Own.nil w _, Below.refl _ _⟩
  case round =>
    obtain ⟨m, rfl, hm, acc, hacc, hown, hb⟩ := hrel
    have hlen : acc.length + [UInt8.ofNat 0].length ≤ 140737488355328 := by
      have h1 := congrArg List.length hacc
      have h2 := uintB_len10 n HN.out
      simp at h1 ⊢; omega
    have HL := show Hid _ from hlen
    have HA : Hid (acc ++ uintB m = uintB n) := hacc
    have HB : Hid (Below w.heap.size w wr) := hb
    have hsz := hb.size
    clear hacc hb hlen
    by_cases hlt : 127 < m
    · obtain ⟨x, hx, hb0⟩ : ∃ x, UInt8.ofNat (m % 128 + 128) = x ∧ (m : Int) % 128 + 128 = (x.toNat : Int) := ⟨_, rfl, by rw [b8 _ (by omega)]; omega⟩
      have HX : Hid (uintB m = x :: uintB (m / 128)) := by unfold Hid; rw [uintB, if_neg (by omega), hx]
      have HO : Hid (Own (wr.alloc (.cells #[.int .u8 (x.toNat : Int)] 5)) w.heap.size u3 acc) := World.ownsRow.alloc hown _
      have HO1 := World.ownsRow.lt hown
      clear hx hown
      go_wp2_with (at_builtin; refine wpList_append_bytes rfl _ _ rfl w.heap.size u3 acc rfl HO.out ⟨wr.heap.size, 0, none⟩ 1 [x] rfl (BytesAt.one wr x) HL.out (by simp; omega) ?_; intro v' w' ho hg)
      go_roundw
      case rel => exact ⟨m / 128, by go_num, by omega, acc ++ [x], by rw [← HA.out, HX.out]; simp, ho, below_grown (HB.out.alloc hsz _) hg (fun k hk => (HO1 k hk).1) (by simp; omega)⟩
      case measure => simp [intOf]; omega
    · obtain ⟨x, rfl⟩ : ∃ x : UInt8, m = x.toNat := ⟨UInt8.ofNat m, by rw [b8 m (by omega)]⟩
      have HX : Hid (uintB x.toNat = [x]) := by unfold Hid; rw [uintB, if_pos (by omega)]; simp
      have HO : Hid (Own (wr.alloc (.cells #[.int .u8 (x.toNat : Int)] 5)) w.heap.size u3 acc) := World.ownsRow.alloc hown _
      have HO1 := World.ownsRow.lt hown
      clear hown
      go_wp2_with (at_builtin; refine wpList_append_bytes rfl _ _ rfl w.heap.size u3 acc rfl HO.out ⟨wr.heap.size, 0, none⟩ 1 [x] rfl (BytesAt.one wr x) HL.out (by simp; omega) ?_; intro v' w' ho hg)
      go_ret
      exact ⟨_, rfl, by rw [← HA.out, HX.out]; exact ho, below_grown (HB.out.alloc hsz _) hg (fun k hk => (HO1 k hk).1) (by simp; omega)⟩
end Go.Proofs.Ytgcgblecendijaa.LB
