/-
  leb: LKit LPuts LHand LGets LGetsTwo LGetsThree LAwake LBackWalk LHand2 (of leb's own seat, carried over).
-/
import Derived.Test.YtcmcapcagblafaaLA
import Derived.WalkKit
import Derived.WalkSpells
import Derived.WalkLawsBesides
import Derived.Lib.AppendStr
import Derived.Deep.RegionHeld3
import Derived.Laws.Bits64b
import Derived.Lib.Strings
import Derived.Deep.Upon
namespace Go.Proofs.Ytcmcapcagblafaa
section
open Go.RowKit Leb
end
section
open Go.RowKit Leb
theorem or128 (m : Nat) : bits .or .u8 ((m : Int) % 256) 128 = ((UInt8.ofNat (m % 128 + 128)).toNat : Int) := by
  have all : ∀ j : Fin 256, bits .or .u8 (j.val : Int) 128 = ((UInt8.ofNat (j.val % 128 + 128)).toNat : Int) := by decide +kernel
  have := all ⟨m % 256, Nat.mod_lt _ (by omega)⟩
  simp only at this
  rw [show m % 256 % 128 = m % 128 by omega] at this
  rw [← this]; rfl
def zero10 : List UInt8 := List.replicate 10 0
theorem make10 (W : World) : (Instr.makeSlice 26 (.int .i64 0) (.int .i64 10)).run Try.prog W = .ok (.slice (some ⟨W.heap.size, 0, none⟩) 0 10) (W.alloc (.cells (c8 zero10).toArray 5)) := make_bytes W 0 10 (by omega) (by omega)
theorem Own.made10 (w : World) : Own (w.alloc (.cells (c8 zero10).toArray 5)) w.heap.size (.slice (some ⟨w.heap.size, 0, none⟩) 0 10) [] := Own.made w 10 (by decide)
set_option maxRecDepth 100000 in
set_option maxHeartbeats 400000 in
theorem uint_any (n : Nat) (hn : n < 18446744073709551616) (w : World) :
    Calls Try.prog 43 #[.int .u64 n] w fun e w' => ∃ v, e = .returned v ∧ Own w' w.heap.size v (uintB n) ∧ Below w.heap.size w w' := by
  have hmk := make10
  have HN : Hid (n < 18446744073709551616) := hn
  clear hn
  go_enter Try.func43, Try.ntmps43
  go_wp2
  clear hmk
  go_loopw [0, 3] (fun i v wr => ∃ m : Nat, i = .int .u64 m ∧ m < 18446744073709551616 ∧ ∃ acc, acc ++ uintB m = uintB n ∧ Own wr w.heap.size v acc ∧ Below w.heap.size w wr) (fun i _ _ => (intOf i).toNat)
  case atStart => exact ⟨n, rfl, HN.out, [], rfl, Own.made10 w, (Below.refl _ _).alloc (Nat.le_refl _) _⟩
  case round =>
    obtain ⟨m, rfl, hm, acc, hacc, hown, hb⟩ := hrel
    have hlen : acc.length + [UInt8.ofNat 0].length ≤ 140737488355328 := by
      have h1 := congrArg List.length hacc
      have h2 := uintB_len10 n HN.out
      simp at h1 ⊢; omega
    have HL := show Hid _ from hlen
    have HA : Hid (acc ++ uintB m = uintB n) := hacc
    have HB : Hid (Below w.heap.size w wr) := hb
    have hsz := hb.size
    clear hacc hb hlen
    by_cases hlt : 127 < m
    · have hb0 := or128 m
      obtain ⟨x, hx⟩ : ∃ x, UInt8.ofNat (m % 128 + 128) = x := ⟨_, rfl⟩
      rw [hx] at hb0
      have HX : Hid (uintB m = x :: uintB (m / 128)) := by unfold Hid; rw [uintB, if_neg (by omega), hx]
      have HO : Hid (Own (wr.alloc (.cells #[.int .u8 (x.toNat : Int)] 5)) w.heap.size u3 acc) := World.ownsRow.alloc hown _
      have HO1 := World.ownsRow.lt hown
      clear hx hown
      go_wp2_with (at_builtin; refine wpList_append_bytes rfl _ _ rfl w.heap.size u3 acc rfl HO.out ⟨wr.heap.size, 0, none⟩ 1 [x] rfl (BytesAt.one wr x) HL.out (by simp; omega) ?_; intro v' w' ho hg)
      go_roundw
      case rel => exact ⟨m / 128, by go_num, by omega, acc ++ [x], by rw [← HA.out, HX.out]; simp, ho, below_grown (HB.out.alloc hsz _) hg (fun k hk => (HO1 k hk).1) (by simp; omega)⟩
      case measure => simp [intOf]; omega
    · obtain ⟨x, rfl⟩ : ∃ x : UInt8, m = x.toNat := ⟨UInt8.ofNat m, by rw [b8 m (by omega)]⟩
      have HX : Hid (uintB x.toNat = [x]) := by unfold Hid; rw [uintB, if_pos (by omega)]; simp
      have HO : Hid (Own (wr.alloc (.cells #[.int .u8 (x.toNat : Int)] 5)) w.heap.size u3 acc) := World.ownsRow.alloc hown _
      have HO1 := World.ownsRow.lt hown
      clear hown
      go_wp2_with (at_builtin; refine wpList_append_bytes rfl _ _ rfl w.heap.size u3 acc rfl HO.out ⟨wr.heap.size, 0, none⟩ 1 [x] rfl (BytesAt.one wr x) HL.out (by simp; omega) ?_; intro v' w' ho hg)
      go_ret
      exact ⟨_, rfl, by rw [← HA.out, HX.out]; exact ho, below_grown (HB.out.alloc hsz _) hg (fun k hk => (HO1 k hk).1) (by simp; omega)⟩
set_option maxRecDepth 100000 in
set_option maxHeartbeats 400000 in
theorem ruint_any (n : Nat) (hn : n < 18446744073709551616) (w : World) :
    Calls Try.prog 46 #[.int .u64 n] w fun e w' => ∃ v, e = .returned v ∧ Own w' w.heap.size v (uintB n) ∧ Below w.heap.size w w' := by
  have HN : Hid (n < 18446744073709551616) := hn
  clear hn
  go_enter Try.func46, Try.ntmps46
  go_wp2
  go_loopw [0, 3] (fun i v wr => ∃ m : Nat, i = .int .u64 m ∧ m < 18446744073709551616 ∧ ∃ acc, acc ++ uintB m = uintB n ∧ Own wr w.heap.size v acc ∧ Below w.heap.size w wr) (fun i _ _ => (intOf i).toNat)
  case atStart => exact ⟨n, rfl, HN.out, [], rfl, Own.nil w _, Below.refl _ _⟩
  case round =>
    obtain ⟨m, rfl, hm, acc, hacc, hown, hb⟩ := hrel
    have hlen : acc.length + [UInt8.ofNat 0].length ≤ 140737488355328 := by
      have h1 := congrArg List.length hacc
      have h2 := uintB_len10 n HN.out
      simp at h1 ⊢; omega
    have HL := show Hid _ from hlen
    have HA : Hid (acc ++ uintB m = uintB n) := hacc
    have HB : Hid (Below w.heap.size w wr) := hb
    have hsz := hb.size
    clear hacc hb hlen
    by_cases hlt : 127 < m
    · obtain ⟨x, hx, hb0⟩ : ∃ x, UInt8.ofNat (m % 128 + 128) = x ∧ (m : Int) % 128 + 128 = (x.toNat : Int) := ⟨_, rfl, by rw [b8 _ (by omega)]; omega⟩
      have HX : Hid (uintB m = x :: uintB (m / 128)) := by unfold Hid; rw [uintB, if_neg (by omega), hx]
      have HO : Hid (Own (wr.alloc (.cells #[.int .u8 (x.toNat : Int)] 5)) w.heap.size u3 acc) := World.ownsRow.alloc hown _
      have HO1 := World.ownsRow.lt hown
      clear hx hown
      go_wp2_with (at_builtin; refine wpList_append_bytes rfl _ _ rfl w.heap.size u3 acc rfl HO.out ⟨wr.heap.size, 0, none⟩ 1 [x] rfl (BytesAt.one wr x) HL.out (by simp; omega) ?_; intro v' w' ho hg)
      go_roundw
      case rel => exact ⟨m / 128, by go_num, by omega, acc ++ [x], by rw [← HA.out, HX.out]; simp, ho, below_grown (HB.out.alloc hsz _) hg (fun k hk => (HO1 k hk).1) (by simp; omega)⟩
      case measure => simp [intOf]; omega
    · obtain ⟨x, rfl⟩ : ∃ x : UInt8, m = x.toNat := ⟨UInt8.ofNat m, by rw [b8 m (by omega)]⟩
      have HX : Hid (uintB x.toNat = [x]) := by unfold Hid; rw [uintB, if_pos (by omega)]; simp
      have HO : Hid (Own (wr.alloc (.cells #[.int .u8 (x.toNat : Int)] 5)) w.heap.size u3 acc) := World.ownsRow.alloc hown _
      have HO1 := World.ownsRow.lt hown
      clear hown
      go_wp2_with (at_builtin; refine wpList_append_bytes rfl _ _ rfl w.heap.size u3 acc rfl HO.out ⟨wr.heap.size, 0, none⟩ 1 [x] rfl (BytesAt.one wr x) HL.out (by simp; omega) ?_; intro v' w' ho hg)
      go_ret
      exact ⟨_, rfl, by rw [← HA.out, HX.out]; exact ho, below_grown (HB.out.alloc hsz _) hg (fun k hk => (HO1 k hk).1) (by simp; omega)⟩
end
section
open Go.RowKit Leb
section
variable {ops : Array Oper} {Q : Exit → Act → World → Prop} {S : World → Prop} {fuel : Nat} {listed : Array Bool} {a : Act} {w W : World} {oi : Oper}
end
end
section
open Go.RowKit Leb
set_option maxHeartbeats 400000 in
theorem text_any (s : List UInt8) (hs : s.length ≤ 140737488351232) (w : World) :
    Calls Try.prog 44 #[.string (strOf s)] w fun e w' => ∃ v, e = .returned v ∧ Own w' w.heap.size v (textB s) ∧ Below w.heap.size w w' := by
  have hsz := strOf_size s
  have HS : Hid (s.length ≤ 140737488351232) := hs
  have hcv : (s.length : Int) < 18446744073709551616 := by omega
  go_enter Try.func44, Try.ntmps44
  go_wp2_with (first
    | (go_at_call 43; refine (uint_any s.length (by omega) _).mono ?_; rintro e w1 ⟨v1, rfl, ho1, hb1⟩)
    | (at_builtin; refine wpList_append_text rfl _ _ rfl w.heap.size v1 (uintB s.length) rfl ho1 s rfl (by have := uintB_len10 s.length (by omega); omega) hb1.size ?_; intro v2 w2 ho2 hg2))
  go_ret
  exact ⟨_, rfl, ho2, below_grown hb1 hg2 (fun k hk => (World.ownsRow.lt ho1 k hk).1) hb1.size⟩
set_option maxHeartbeats 400000 in
theorem rtext_any (s : List UInt8) (hs : s.length ≤ 140737488351232) (w : World) :
    Calls Try.prog 50 #[.string (strOf s)] w fun e w' => ∃ v, e = .returned v ∧ Own w' w.heap.size v (textB s) ∧ Below w.heap.size w w' := by
  have hsz := strOf_size s
  have HS : Hid (s.length ≤ 140737488351232) := hs
  have hcv : (s.length : Int) < 18446744073709551616 := by omega
  go_enter Try.func50, Try.ntmps50
  go_wp2_with (first
    | (go_at_call 46; refine (ruint_any s.length (by omega) _).mono ?_; rintro e w1 ⟨v1, rfl, ho1, hb1⟩)
    | (at_builtin; refine wpList_append_text rfl _ _ rfl w.heap.size v1 (uintB s.length) rfl ho1 s rfl (by have := uintB_len10 s.length (by omega); omega) hb1.size ?_; intro v2 w2 ho2 hg2))
  go_ret
  exact ⟨_, rfl, ho2, below_grown hb1 hg2 (fun k hk => (World.ownsRow.lt ho1 k hk).1) hb1.size⟩
set_option maxHeartbeats 400000 in
theorem equal_any (v1 v2 : Value) (xs ys : List UInt8) (w : World) (h1 : (convert 26 9 v1).run Try.prog w = .ok (.string (strOf xs)) w) (h2 : (convert 26 9 v2).run Try.prog w = .ok (.string (strOf ys)) w) :
    Calls Try.prog 114 #[v1, v2] w fun e w' => e = .returned (.bool (decide (xs = ys))) ∧ w' = w := by
  go_enter Try.func114, Try.ntmps114
  go_wp2
  go_ret
  refine ⟨?_, rfl⟩
  have e : (strOf xs).toList = xs := strOf_toList xs
  have e2 : (strOf ys).toList = ys := strOf_toList ys
  have e3 : (xs == ys) = decide (xs = ys) := by by_cases h : xs = ys <;> simp [h]
  rw [e, e2, e3]
  rfl
theorem and127b (b : UInt8) : bits .and .u8 (b.toNat : Int) 127 = ((b.toNat % 128 : Nat) : Int) := by
  have all : ∀ j : Fin 256, bits .and .u8 (j.val : Int) 127 = ((j.val % 128 : Nat) : Int) := by decide +kernel
  exact all ⟨b.toNat, b.toNat_lt⟩
theorem and128b (b : UInt8) : bits .and .u8 (b.toNat : Int) 128 = ((b.toNat / 128 * 128 : Nat) : Int) := by
  have all : ∀ j : Fin 256, bits .and .u8 (j.val : Int) 128 = ((j.val / 128 * 128 : Nat) : Int) := by decide +kernel
  exact all ⟨b.toNat, b.toNat_lt⟩
theorem or_shift (k a c : Nat) (h : k < 10) (ha : a < 128 ^ k) :
    bits .or .u64 ((a : Int) % 18446744073709551616) (IntKind.u64.wrap ((c : Int) * 2 ^ (7 * k))) = (((a + c * 128 ^ k) % 18446744073709551616 : Nat) : Int) := by
  have e7 : 128 ^ k = 2 ^ (7 * k) := by rw [Nat.pow_mul]
  rw [e7] at ha ⊢
  have hp : (2 : Nat) ^ 64 = 2 ^ (7 * k) * 2 ^ (64 - 7 * k) := by rw [← Nat.pow_add]; congr 1; omega
  have hle : (2 : Nat) ^ (7 * k) ≤ 2 ^ 63 := Nat.pow_le_pow_right (by omega) (by omega)
  have hw : IntKind.u64.wrap ((c : Int) * 2 ^ (7 * k)) = ((2 ^ (7 * k) * (c % 2 ^ (64 - 7 * k)) : Nat) : Int) := by
    have : IntKind.u64.wrap ((c : Int) * 2 ^ (7 * k)) = (((c * 2 ^ (7 * k)) % 2 ^ 64 : Nat) : Int) := by
      simp [IntKind.wrap, IntKind.bits, IntKind.signed]
    rw [this, hp, Nat.mul_comm c, Nat.mul_mod_mul_left]
  have hm : 2 ^ (7 * k) * (c % 2 ^ (64 - 7 * k)) + 2 ^ (7 * k) ≤ 2 ^ 64 := by
    rw [hp, ← Nat.mul_succ]
    exact Nat.mul_le_mul_left _ (Nat.mod_lt _ (Nat.two_pow_pos _))
  rw [hw, show ((a : Int) % 18446744073709551616) = ((a : Nat) : Int) by omega, bits_or_u64_nat _ _ (by omega) (by omega), Nat.or_comm, ← Nat.two_pow_add_eq_or_of_lt ha]
  have hc : c * 2 ^ (7 * k) % 2 ^ 64 = 2 ^ (7 * k) * (c % 2 ^ (64 - 7 * k)) := by rw [Nat.mul_comm c, hp, Nat.mul_mod_mul_left]
  have h2 := Nat.add_mod a (c * 2 ^ (7 * k)) (2 ^ 64)
  have h3 : (a + 2 ^ (7 * k) * (c % 2 ^ (64 - 7 * k))) % 2 ^ 64 = a + 2 ^ (7 * k) * (c % 2 ^ (64 - 7 * k)) := Nat.mod_eq_of_lt (by omega)
  rw [hc, Nat.mod_eq_of_lt (a := a) (by omega), h3] at h2
  rw [show 18446744073709551616 = 2 ^ 64 from rfl, h2, Nat.add_comm]
theorem val_lt : ∀ l : List UInt8, val l < 128 ^ l.length
  | [] => by simp [val]
  | b :: l => by
    have ih := val_lt l
    simp only [val, List.length_cons, Nat.pow_succ]
    omega
theorem val_take : ∀ (l : List UInt8) (k : Nat), k < l.length → val (l.take (k + 1)) = val (l.take k) + (l.getD k 0).toNat % 128 * 128 ^ k
  | [], k, h => by simp at h
  | b :: l, 0, _ => by simp [val]
  | b :: l, k + 1, h => by
    have ih := val_take l k (by simpa using h)
    simp only [List.take_succ_cons, val, ih, List.getD_cons_succ, Nat.pow_succ]
    rw [Nat.mul_add, Nat.add_assoc, Nat.mul_left_comm]
    simp [Nat.mul_comm]
/-- What groupsOf answers. -/
def goV (bs : List UInt8) : Nat := if (grp 10 bs).1 = 0 then guN bs else 0
def goS (ao : Option Addr) (cap : Nat) (bs : List UInt8) : Value := if (grp 10 bs).1 = 0 then .slice ao (grp 10 bs).2 cap else .slice none 0 0
def goT (ao : Option Addr) (cap : Nat) (bs : List UInt8) : Value := .tuple #[.int .u64 (goV bs : Int), goS ao cap bs, .int .i64 ((grp 10 bs).1 : Int)]
set_option maxRecDepth 100000 in
set_option maxHeartbeats 400000 in
theorem groupsOf_any (ao : Option Addr) (cap : Nat) (bs : List UInt8) (hcap : bs.length ≤ cap) (w : World) (hat : BytesAt w ao bs) :
    Calls Try.prog 113 #[.slice ao bs.length cap] w fun e w' => e = .returned (goT ao cap bs) ∧ Below w.heap.size w w' := by
  have HAT : Hid (BytesAt w ao bs) := hat
  clear hat
  go_enter Try.func113, Try.ntmps113
  go_wp2
  go_loopw [2, 6] (fun v i wr => ∃ k : Nat, k ≤ 10 ∧ k ≤ bs.length ∧ i = .int .i64 k ∧ v = .int .u64 ((val (bs.take k) % 18446744073709551616 : Nat) : Int) ∧ (∀ j, j < k → 128 ≤ (bs.getD j 0).toNat) ∧ Below w.heap.size w wr) (fun _ i _ => 10 - (intOf i).toNat)
  case atStart => exact ⟨0, by omega, by omega, rfl, by simp [val], fun j hj => by omega, Below.refl _ _⟩
  case round =>
    obtain ⟨k, hk, hkl, rfl, rfl, hall, hb⟩ := hrel
    have HALL : Hid (∀ j, j < k → 128 ≤ (bs.getD j 0).toNat) := hall
    have HB : Hid (Below w.heap.size w wr) := hb
    clear hall hb
    by_cases h10 : k < 10
    · by_cases hend : k = bs.length
      · have HG : Hid (grp 10 bs = (3, 0)) := grp_cut 10 bs (by omega) (by rw [← hend]; exact HALL.out)
        subst hend
        go_wp2
        go_ret3
        exact ⟨by simp [goT, goV, goS, HG.out], HB.out⟩
      · have hlt : k < bs.length := by omega
        obtain ⟨b, o, rfl, hc⟩ := HAT.out (by intro h; simp [h] at hlt)
        have hck := hc k hlt
        obtain ⟨x, HX, hx⟩ : ∃ x : UInt8, Hid (x = bs.getD k 0) ∧ wr.cell? ⟨b, o + k, none⟩ = some (.int .u8 (x.toNat : Int)) := ⟨_, rfl, by rw [HB.out.cell (p := ⟨b, o + k, none⟩) (block_lt_of_cell hck)]; exact hck⟩
        clear hc hck
        have hvt : val (bs.take (k + 1)) = val (bs.take k) + x.toNat % 128 * 128 ^ k := by rw [val_take bs k hlt, HX.out]
        have hor := or_shift k (val (bs.take k)) (x.toNat % 128) h10 (by have := val_lt (bs.take k); rwa [List.length_take, Nat.min_eq_left (by omega)] at this)
        rw [← hvt] at hor
        obtain ⟨y, HY, hy⟩ : ∃ y : Nat, Hid (y = val (bs.take k)) ∧ val (bs.take k) = y := ⟨_, rfl, rfl⟩
        obtain ⟨z, HZ, hz⟩ : ∃ z : Nat, Hid (z = val (bs.take (k + 1)) % 18446744073709551616) ∧ val (bs.take (k + 1)) % 18446744073709551616 = z := ⟨_, rfl, rfl⟩
        rw [hy, hz, show ((x.toNat % 128 : Nat) : Int) = (x.toNat : Int) % 128 by omega] at hor
        rw [hy]
        clear hvt hy hz
        have hx8 := x.toNat_lt
        by_cases hx7 : x.toNat < 128
        · have HG : Hid (grp 10 bs = (0, k + 1)) := grp_ok 10 bs k h10 hlt HALL.out (by rw [← HX.out]; exact hx7)
          have ha := and127b x
          have ha2 : bits .and .u8 (x.toNat : Int) 128 = 0 := by rw [and128b x]; omega
          have hk1 : k + 1 ≤ cap := by omega
          go_wp2
          go_region
          go_wp2
          go_ret3
          exact ⟨by simp [goT, goV, goS, HG.out, guN, HZ.out], HB.out.drew⟩
        · have ha := and127b x
          have ha2 : bits .and .u8 (x.toNat : Int) 128 = 128 := by rw [and128b x]; omega
          go_wp2
          go_roundw
          case rel => exact ⟨k + 1, by omega, by omega, by go_num, by rw [← HZ.out], fun j hj => by
            rcases Nat.lt_succ_iff_lt_or_eq.1 hj with h | rfl
            · exact HALL.out j h
            · rw [← HX.out]; omega, HB.out⟩
          case measure => simp [intOf]; omega
    · obtain rfl : k = 10 := by omega
      have HG : Hid (grp 10 bs = (4, 0)) := grp_form 10 bs hkl HALL.out
      go_wp2
      go_ret3
      exact ⟨by simp [goT, goV, goS, HG.out], HB.out⟩
theorem groupsOf_ok (ao : Option Addr) (cap : Nat) (bs : List UInt8) (hcap : bs.length ≤ cap) (w : World) (hat : BytesAt w ao bs) (h0 : (grp 10 bs).1 = 0) (k : Nat) (hk : (grp 10 bs).2 = k) (n : Nat) (hn : guN bs = n) :
    Calls Try.prog 113 #[.slice ao bs.length cap] w fun e w' => e = .returned (.tuple #[.int .u64 (n : Int), .slice ao k cap, .int .i64 0]) ∧ Below w.heap.size w w' := by
  have := groupsOf_any ao cap bs hcap w hat
  unfold goT goV goS at this
  rw [if_pos h0, if_pos h0, h0, hk, hn] at this
  exact this
theorem groupsOf_bad (ao : Option Addr) (cap : Nat) (bs : List UInt8) (hcap : bs.length ≤ cap) (w : World) (hat : BytesAt w ao bs) (h0 : ¬ (grp 10 bs).1 = 0) (q : Nat) (hq : (grp 10 bs).1 = q) :
    Calls Try.prog 113 #[.slice ao bs.length cap] w fun e w' => e = .returned (.tuple #[.int .u64 0, .slice none 0 0, .int .i64 (q : Int)]) ∧ Below w.heap.size w w' := by
  have := groupsOf_any ao cap bs hcap w hat
  unfold goT goV goS at this
  rw [if_neg h0, if_neg h0, hq] at this
  exact this
set_option maxRecDepth 100000 in
set_option maxHeartbeats 400000 in
theorem getUint_any (ao : Option Addr) (cap : Nat) (bs : List UInt8) (hcap : bs.length ≤ cap) (w : World) (hat : BytesAt w ao bs) :
    Calls Try.prog 90 #[.slice ao bs.length cap] w fun e w' => e = .returned (.tuple #[.int .u64 (guV bs : Int), .int .i64 (guK bs : Int), .int .i64 (guE bs : Int)]) ∧ Below w.heap.size w w' := by
  have HAT : Hid (BytesAt w ao bs) := hat
  clear hat
  by_cases h0 : (grp 10 bs).1 = 0
  · have hle := grp_le 10 bs h0
    obtain ⟨k, hk⟩ : ∃ k, (grp 10 bs).2 = k := ⟨_, rfl⟩
    obtain ⟨n, hn⟩ : ∃ n, guN bs = n := ⟨_, rfl⟩
    have hn64 : n < 18446744073709551616 := hn ▸ guN_lt bs
    rw [hk] at hle
    by_cases hu : bs.take k = uintB n
    · have e1 : guE bs = 0 := by unfold guE; rw [if_pos h0, hn, hk, if_pos hu.symm]
      have e2 : guK bs = k := by unfold guK; rw [if_pos e1, hk]
      have e3 : guV bs = n := by unfold guV; rw [if_pos e1, hn]
      rw [e1, e2, e3]
      have hd : decide (bs.take k = uintB n) = true := by simp [hu]
      have H0 : Hid ((grp 10 bs).1 = 0) := h0
      have HK : Hid ((grp 10 bs).2 = k) := hk
      have HN : Hid (guN bs = n) := hn
      obtain ⟨hk1, hk2, hk3⟩ := hle
      clear h0 hk hn hu e1 e2 e3
      go_enter Try.func90, Try.ntmps90
      go_wp2_with (first
        | (go_at_call 113; refine (groupsOf_ok ao cap bs hcap _ HAT.out H0.out k HK.out n HN.out).mono ?_; rintro e w1 ⟨rfl, hb1⟩)
        | (go_at_call 43; refine (uint_any n hn64 _).mono ?_; rintro e w2 ⟨v2, rfl, ho2, hb2⟩)
        | (go_at_call 114; refine (equal_any _ _ (bs.take k) (uintB n) _ (conv_take cap k ((HAT.out.after hb1).after hb2) hk1) ho2.conv).mono ?_; rintro e w3 ⟨rfl, rfl⟩))
      go_ret3
      exact ⟨rfl, After.trans hb1 hb2⟩
    · have e1 : guE bs = 4 := by unfold guE; rw [if_pos h0, hn, hk, if_neg (fun h => hu h.symm)]
      have e2 : guK bs = 0 := by unfold guK; rw [e1]; rfl
      have e3 : guV bs = 0 := by unfold guV; rw [e1]; rfl
      rw [e1, e2, e3]
      have hd : decide (bs.take k = uintB n) = false := by simp [hu]
      have H0 : Hid ((grp 10 bs).1 = 0) := h0
      have HK : Hid ((grp 10 bs).2 = k) := hk
      have HN : Hid (guN bs = n) := hn
      obtain ⟨hk1, hk2, hk3⟩ := hle
      clear h0 hk hn hu e1 e2 e3
      go_enter Try.func90, Try.ntmps90
      go_wp2_with (first
        | (go_at_call 113; refine (groupsOf_ok ao cap bs hcap _ HAT.out H0.out k HK.out n HN.out).mono ?_; rintro e w1 ⟨rfl, hb1⟩)
        | (go_at_call 43; refine (uint_any n hn64 _).mono ?_; rintro e w2 ⟨v2, rfl, ho2, hb2⟩)
        | (go_at_call 114; refine (equal_any _ _ (bs.take k) (uintB n) _ (conv_take cap k ((HAT.out.after hb1).after hb2) hk1) ho2.conv).mono ?_; rintro e w3 ⟨rfl, rfl⟩))
      go_ret3
      exact ⟨rfl, After.trans hb1 hb2⟩
  · obtain ⟨q, hq⟩ : ∃ q, (grp 10 bs).1 = q := ⟨_, rfl⟩
    have e1 : guE bs = q := by unfold guE; rw [if_neg h0, hq]
    have hq0 : ¬ q = 0 := hq ▸ h0
    have e2 : guK bs = 0 := by unfold guK; rw [if_neg (by rw [e1]; exact hq0)]
    have e3 : guV bs = 0 := by unfold guV; rw [if_neg (by rw [e1]; exact hq0)]
    rw [e1, e2, e3]
    have H0 : Hid (¬ (grp 10 bs).1 = 0) := h0
    have HQ : Hid ((grp 10 bs).1 = q) := hq
    clear h0 hq e1 e2 e3
    go_enter Try.func90, Try.ntmps90
    go_wp2_with (go_at_call 113; refine (groupsOf_bad ao cap bs hcap _ HAT.out H0.out q HQ.out).mono ?_; rintro e w1 ⟨rfl, hb1⟩)
    go_ret3
    exact ⟨rfl, hb1⟩
end
section
open Go.RowKit Leb
end
section
open Go.RowKit Leb
theorem gt_0 {bs : List UInt8} {most : Int} {k n : Nat} (h0 : guE bs = 0) (hk : guK bs = k) (hn : guV bs = n) (h1 : ¬ most < (n : Int)) (h2 : ¬ bs.length < k + n) : gtE bs most = 0 ∧ gtK bs most = k + n ∧ gtS bs most = (bs.drop k).take n := by
  have e : gtE bs most = 0 := by unfold gtE; rw [if_pos h0, hk, hn, if_neg h1, if_neg h2]
  exact ⟨e, by unfold gtK; rw [if_pos e, hk, hn], by unfold gtS; rw [if_pos e, hk, hn]⟩
theorem gt_e {bs : List UInt8} {most : Int} {q : Nat} (hq : gtE bs most = q) (h0 : ¬ q = 0) : gtE bs most = q ∧ gtK bs most = 0 ∧ gtS bs most = [] := by
  have h0' : ¬ gtE bs most = 0 := by rw [hq]; exact h0
  exact ⟨hq, by unfold gtK; rw [if_neg h0'], by unfold gtS; rw [if_neg h0']⟩
theorem gu_0 {bs : List UInt8} (ao : Option Addr) (cap : Nat) (hcap : bs.length ≤ cap) (w : World) (hat : BytesAt w ao bs) {n k q : Nat} (hn : guV bs = n) (hk : guK bs = k) (hq : guE bs = q) :
    Calls Try.prog 90 #[.slice ao bs.length cap] w fun e w' => e = .returned (.tuple #[.int .u64 (n : Int), .int .i64 (k : Int), .int .i64 (q : Int)]) ∧ Below w.heap.size w w' := by
  have := getUint_any ao cap bs hcap w hat
  rw [hn, hk, hq] at this
  exact this
theorem guK_pos {bs : List UInt8} (h : guE bs = 0) : 0 < guK bs := by
  have h0 : (grp 10 bs).1 = 0 := by unfold guE at h; split at h; assumption; assumption
  unfold guK; rw [if_pos h]; exact (grp_le 10 bs h0).2.2
set_option maxRecDepth 100000 in
set_option maxHeartbeats 800000 in
theorem getText_any (ao : Option Addr) (cap : Nat) (bs : List UInt8) (most : Int) (hcap : bs.length ≤ cap) (hbig : bs.length ≤ 281474976710656) (hm0 : -9223372036854775808 ≤ most) (hm1 : most ≤ 9223372036854775807) (w : World) (hat : BytesAt w ao bs) :
    Calls Try.prog 76 #[.slice ao bs.length cap, .int .i64 most] w fun e w' => e = .returned (.tuple #[.string (strOf (gtS bs most)), .int .i64 (gtK bs most : Int), .int .i64 (gtE bs most : Int)]) ∧ Below w.heap.size w w' := by
  have HAT : Hid (BytesAt w ao bs) := hat
  clear hat
  obtain ⟨k, hk⟩ : ∃ k, guK bs = k := ⟨_, rfl⟩
  obtain ⟨n, hn⟩ : ∃ n, guV bs = n := ⟨_, rfl⟩
  have hn64 : n < 18446744073709551616 := hn ▸ guV_lt bs
  have hkl : k ≤ bs.length := hk ▸ guK_le bs
  have HK : Hid (guK bs = k) := hk
  have HN : Hid (guV bs = n) := hn
  by_cases h0 : guE bs = 0
  · have H0 : Hid (guE bs = 0) := h0
    have hkp : 0 < k := hk ▸ guK_pos h0
    by_cases h1 : most < (n : Int)
    · obtain ⟨e1, e2, e3⟩ := gt_e (bs := bs) (most := most) (q := 5) (by unfold gtE; rw [if_pos h0, hn, if_pos h1]) (by omega)
      rw [e1, e2, e3]
      clear e1 e2 e3 h0 hk hn
      by_cases hneg : most < 0
      · go_enter Try.func76, Try.ntmps76
        go_wp2_with (go_at_call 90; refine (gu_0 ao cap hcap _ HAT.out HN.out HK.out H0.out).mono ?_; rintro e w1 ⟨rfl, hb1⟩)
        go_ret3
        exact ⟨rfl, hb1⟩
      · go_enter Try.func76, Try.ntmps76
        go_wp2_with (go_at_call 90; refine (gu_0 ao cap hcap _ HAT.out HN.out HK.out H0.out).mono ?_; rintro e w1 ⟨rfl, hb1⟩)
        go_ret3
        exact ⟨rfl, hb1⟩
    · by_cases h2 : bs.length < k + n
      · obtain ⟨e1, e2, e3⟩ := gt_e (bs := bs) (most := most) (q := 3) (by unfold gtE; rw [if_pos h0, hn, hk, if_neg h1, if_pos h2]) (by omega)
        rw [e1, e2, e3]
        clear e1 e2 e3 h0 hk hn
        have hsub : (bs.length : Int) - (k : Int) = ((bs.length - k : Nat) : Int) := by omega
        go_enter Try.func76, Try.ntmps76
        go_wp2_with (go_at_call 90; refine (gu_0 ao cap hcap _ HAT.out HN.out HK.out H0.out).mono ?_; rintro e w1 ⟨rfl, hb1⟩)
        go_ret3
        exact ⟨rfl, hb1⟩
      · obtain ⟨e1, e2, e3⟩ := gt_0 h0 hk hn h1 h2
        rw [e1, e2, e3]
        clear e1 e2 e3 h0 hk hn
        obtain ⟨b, o, rfl, _⟩ := HAT.out (by intro h; simp [h] at hkl; omega)
        obtain ⟨ao', hat', hsl⟩ := slice_mid b o bs.length cap k (k + n) (by omega) (by omega) bs rfl (by omega)
        rw [show k + n - k = n by omega] at hat' hsl
        rw [show ((k + n : Nat) : Int) = (k : Int) + (n : Int) by omega] at hsl ⊢
        have HAT' : Hid (∀ W : World, BytesAt W (some ⟨b, o, none⟩) bs → BytesAt W ao' ((bs.drop k).take n)) := hat'
        clear hat'
        have hlen : ((bs.drop k).take n).length = n := by simp; omega
        have HL : Hid (((bs.drop k).take n).length = n) := hlen
        clear hlen
        have hcv : ∀ W, After w W → (convert 26 9 (.slice ao' n (cap - k))).run Try.prog W = .ok (.string (strOf ((bs.drop k).take n))) W := fun W hW => by
          have := conv_at (cap - k) (HAT'.out W (HAT.out.after hW))
          rwa [HL.out] at this
        go_enter Try.func76, Try.ntmps76
        go_wp2_with (go_at_call 90; refine (gu_0 _ cap hcap _ HAT.out HN.out HK.out H0.out).mono ?_; rintro e w1 ⟨rfl, hb1⟩; replace hcv := hcv w1 hb1)
        go_ret3
        exact ⟨rfl, hb1⟩
  · obtain ⟨q, hq⟩ : ∃ q, guE bs = q := ⟨_, rfl⟩
    have hq0 : ¬ q = 0 := hq ▸ h0
    obtain ⟨e1, e2, e3⟩ := gt_e (bs := bs) (most := most) (q := q) (by unfold gtE; rw [if_neg h0, hq]) hq0
    rw [e1, e2, e3]
    have HQ : Hid (guE bs = q) := hq
    clear e1 e2 e3 h0 hk hn hq
    go_enter Try.func76, Try.ntmps76
    go_wp2_with (go_at_call 90; refine (gu_0 ao cap hcap _ HAT.out HN.out HK.out HQ.out).mono ?_; rintro e w1 ⟨rfl, hb1⟩)
    go_ret3
    exact ⟨rfl, hb1⟩
end
section
open Go.RowKit Leb
end
section
open Go.RowKit Leb
theorem uint_sl (n k : Nat) (hn : n < 18446744073709551616) (hk : (uintB n).length = k) (w : World) :
    Calls Try.prog 43 #[.int .u64 n] w fun e w' => ∃ ao cap, e = .returned (.slice ao k cap) ∧ BytesAt w' ao (uintB n) ∧ Below w.heap.size w w' := by
  refine (uint_any n hn w).mono ?_
  rintro e w' ⟨v, rfl, ho, hb⟩
  obtain ⟨ao, cap, rfl, hat, _⟩ := ho.sl k hk
  exact ⟨ao, cap, rfl, hat, hb⟩
theorem text_sl (s : List UInt8) (k : Nat) (hs : s.length ≤ 140737488351232) (hk : (textB s).length = k) (w : World) :
    Calls Try.prog 44 #[.string (strOf s)] w fun e w' => ∃ ao cap, e = .returned (.slice ao k cap) ∧ BytesAt w' ao (textB s) ∧ Below w.heap.size w w' := by
  refine (text_any s hs w).mono ?_
  rintro e w' ⟨v, rfl, ho, hb⟩
  obtain ⟨ao, cap, rfl, hat, _⟩ := ho.sl k hk
  exact ⟨ao, cap, rfl, hat, hb⟩
theorem getU_back (n k j : Nat) (t : List UInt8) (hn : n < 18446744073709551616) (hk : (uintB n).length = k) (ao : Option Addr) (cap : Nat) (hj : (uintB n ++ t).length = j) (hcap : j ≤ cap) (w : World) (hat : BytesAt w ao (uintB n ++ t)) :
    Calls Try.prog 90 #[.slice ao j cap] w fun e w' => e = .returned (.tuple #[.int .u64 n, .int .i64 k, .int .i64 0]) ∧ Below w.heap.size w w' := by
  obtain ⟨h1, h2, h3⟩ := gu_back n t hn
  subst hj
  exact gu_0 ao cap hcap w hat h3 (by rw [h2, hk]) h1
theorem getT_back (s t : List UInt8) (k j l : Nat) (hl : s.length = l) (hs : s.length ≤ 140737488351232) (hk : (textB s).length = k) (ao : Option Addr) (cap : Nat) (hj : (textB s ++ t).length = j) (hb : j ≤ 281474976710656) (hcap : j ≤ cap) (w : World) (hat : BytesAt w ao (textB s ++ t)) :
    Calls Try.prog 76 #[.slice ao j cap, .int .i64 l] w fun e w' => e = .returned (.tuple #[.string (strOf s), .int .i64 k, .int .i64 0]) ∧ Below w.heap.size w w' := by
  obtain ⟨h1, h2, h3⟩ := gt_back s t (l : Int) (by omega) (by omega)
  subst hj
  have := getText_any ao cap _ (l : Int) hcap hb (by omega) (by omega) w hat
  rw [h1, h2, h3, hk] at this
  exact this
end
section
open Go.RowKit Leb
section
variable {o : Oper} {a : Act} {x y : Operand} {w : World}
end
end
end Go.Proofs.Ytcmcapcagblafaa
