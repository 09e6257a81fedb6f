/-
  THE WALKS OF leb.Text, bytes.Equal, leb.groupsOf, leb.GetUint, leb.GetInt, leb.GetText.
-/
import Derived.Test.YtgcgblecendijaaLPuts
import Derived.Test.YtgcgblecendijaaLHand
import Derived.Laws.Bits64b
import Derived.Lib.Strings
namespace Go.Proofs.Ytgcgblecendijaa.LB
open Go.RowKit Leb
theorem strCells_of (s : List UInt8) : Lib.strCells (strOf s) = c8 s := by simp [Lib.strCells, strOf, c8]
/-- append(own, s...), s a string. -/
theorem wpList_append_text {w : World} {ops : Array Oper} {rest : List Oper} {o : Oper} {a : Act} {Q : Exit → Act → World → Prop} (hgd : o.guard = none) (sl x : Operand)
    (ho : o.op = .call { callee := .builtin .append, args := #[sl, x], argTypes := #[26, 9] })
    (base : Nat) (v : Value) (bs : List UInt8) (hs : a.eval sl = v) (hown : Own w base v bs) (s : List UInt8) (hx : a.eval x = .string (strOf s))
    (hbytes : bs.length + s.length ≤ 140737488355328) (hbase : base ≤ w.heap.size)
    (h : ∀ v' w', Own w' base v' (bs ++ s) → w.grownBy w' v.ownBlock → wpList Try.prog ops Q rest (a.put o.dst v') w') : wpList Try.prog ops Q (o :: rest) a w := by
  obtain ⟨i, hi, hz⟩ := Option.map_eq_some_iff.1 bytes5
  simp only [Prod.mk.injEq] at hz
  obtain ⟨hz, hsz, hby⟩ := hz
  refine Lib.wpList_append_own_string w hgd sl x 26 9 ho base 5 i Try.underlying26 Try.underlying9 hi hz hsz hby v bs.length (c8 bs) hs hown (strOf s) hx (by rw [strOf_size]; unfold maxLen; omega) (by rw [strOf_size]; exact hbytes) hbase ?_
  intro v' w' h1 h2 _
  rw [strOf_size, strCells_of, ← c8_append, ← List.length_append] at h1
  exact h v' w' h1 h2
theorem strOf_toList (l : List UInt8) : (strOf l).toList = l := by
  rw [Lib.toList_data]
  rfl
set_option maxHeartbeats 400000 in
theorem equal_any (v1 v2 : Value) (xs ys : List UInt8) (w : World) (h1 : (convert 26 9 v1).run Try.prog w = .ok (.string (strOf xs)) w) (h2 : (convert 26 9 v2).run Try.prog w = .ok (.string (strOf ys)) w) :
    Calls Try.prog 43 #[v1, v2] w fun e w' => e = .returned (.bool (decide (xs = ys))) ∧ w' = w := by
  go_enter Try.func43, Try.ntmps43
  go_wp2
  go_ret
  refine ⟨?_, rfl⟩
  have e : (strOf xs).toList = xs := strOf_toList xs
  have e2 : (strOf ys).toList = ys := strOf_toList ys
  have e3 : (xs == ys) = decide (xs = ys) := by by_cases h : xs = ys <;> simp [h]
  rw [e, e2, e3]
  rfl
theorem and127b (b : UInt8) : bits .and .u8 (b.toNat : Int) 127 = ((b.toNat % 128 : Nat) : Int) := by
  have all : ∀ j : Fin 256, bits .and .u8 (j.val : Int) 127 = ((j.val % 128 : Nat) : Int) := by decide +kernel
  exact all ⟨b.toNat, b.toNat_lt⟩
theorem and128b (b : UInt8) : bits .and .u8 (b.toNat : Int) 128 = ((b.toNat / 128 * 128 : Nat) : Int) := by
  have all : ∀ j : Fin 256, bits .and .u8 (j.val : Int) 128 = ((j.val / 128 * 128 : Nat) : Int) := by decide +kernel
  exact all ⟨b.toNat, b.toNat_lt⟩
theorem or_shift (k a c : Nat) (h : k < 10) (ha : a < 128 ^ k) :
    bits .or .u64 ((a : Int) % 18446744073709551616) (IntKind.u64.wrap ((c : Int) * 2 ^ (7 * k))) = (((a + c * 128 ^ k) % 18446744073709551616 : Nat) : Int) := by
  have e7 : 128 ^ k = 2 ^ (7 * k) := by rw [Nat.pow_mul]
  rw [e7] at ha ⊢
  have hp : (2 : Nat) ^ 64 = 2 ^ (7 * k) * 2 ^ (64 - 7 * k) := by rw [← Nat.pow_add]; congr 1; omega
  have hle : (2 : Nat) ^ (7 * k) ≤ 2 ^ 63 := Nat.pow_le_pow_right (by omega) (by omega)
  have hw : IntKind.u64.wrap ((c : Int) * 2 ^ (7 * k)) = ((2 ^ (7 * k) * (c % 2 ^ (64 - 7 * k)) : Nat) : Int) := by
    have : IntKind.u64.wrap ((c : Int) * 2 ^ (7 * k)) = (((c * 2 ^ (7 * k)) % 2 ^ 64 : Nat) : Int) := by
      simp [IntKind.wrap, IntKind.bits, IntKind.signed]
    rw [this, hp, Nat.mul_comm c, Nat.mul_mod_mul_left]
  have hm : 2 ^ (7 * k) * (c % 2 ^ (64 - 7 * k)) + 2 ^ (7 * k) ≤ 2 ^ 64 := by
    rw [hp, ← Nat.mul_succ]
    exact Nat.mul_le_mul_left _ (Nat.mod_lt _ (Nat.two_pow_pos _))
  rw [hw, show ((a : Int) % 18446744073709551616) = ((a : Nat) : Int) by omega, bits_or_u64_nat _ _ (by omega) (by omega), Nat.or_comm, ← Nat.two_pow_add_eq_or_of_lt ha]
  have hc : c * 2 ^ (7 * k) % 2 ^ 64 = 2 ^ (7 * k) * (c % 2 ^ (64 - 7 * k)) := by rw [Nat.mul_comm c, hp, Nat.mul_mod_mul_left]
  have h2 := Nat.add_mod a (c * 2 ^ (7 * k)) (2 ^ 64)
  have h3 : (a + 2 ^ (7 * k) * (c % 2 ^ (64 - 7 * k))) % 2 ^ 64 = a + 2 ^ (7 * k) * (c % 2 ^ (64 - 7 * k)) := Nat.mod_eq_of_lt (by omega)
  rw [hc, Nat.mod_eq_of_lt (a := a) (by omega), h3] at h2
  rw [show 18446744073709551616 = 2 ^ 64 from rfl, h2, Nat.add_comm]
theorem val_lt : ∀ l : List UInt8, val l < 128 ^ l.length
  | [] => by simp [val]
  | b :: l => by
    have ih := val_lt l
    simp only [val, List.length_cons, Nat.pow_succ]
    omega
theorem val_take : ∀ (l : List UInt8) (k : Nat), k < l.length → val (l.take (k + 1)) = val (l.take k) + (l.getD k 0).toNat % 128 * 128 ^ k
  | [], k, h => by simp at h
  | b :: l, 0, _ => by simp [val]
  | b :: l, k + 1, h => by
    have ih := val_take l k (by simpa using h)
    simp only [List.take_succ_cons, val, ih, List.getD_cons_succ, Nat.pow_succ]
    rw [Nat.mul_add, Nat.add_assoc, Nat.mul_left_comm]
    simp [Nat.mul_comm]
/-- What groupsOf answers. -/
def goV (bs : List UInt8) : Nat := if (grp 10 bs).1 = 0 then guN bs else 0
def goS (ao : Option Addr) (cap : Nat) (bs : List UInt8) : Value := if (grp 10 bs).1 = 0 then .slice ao (grp 10 bs).2 cap else .slice none 0 0
def goT (ao : Option Addr) (cap : Nat) (bs : List UInt8) : Value := .tuple #[.int .u64 (goV bs : Int), goS ao cap bs, .int .i64 ((grp 10 bs).1 : Int)]
set_option maxRecDepth 100000 in
set_option maxHeartbeats 400000 in
theorem groupsOf_any (ao : Option Addr) (cap : Nat) (bs : List UInt8) (hcap : bs.length ≤ cap) (w : World) (hat : BytesAt w ao bs) :
    Calls Try.prog 42 #[.slice ao bs.length cap] w fun e w' => e = .returned (goT ao cap bs) ∧ Below w.heap.size w w' := by
  have HAT : Hid (BytesAt w ao bs) := hat
  clear hat
  go_enter Try.func42, Try.ntmps42
  go_wp2
  go_loopw [2, 6] (fun v i wr => ∃ k : Nat, k ≤ 10 ∧ k ≤ bs.length ∧ i = .int .i64 k ∧ v = .int .u64 ((val (bs.take k) % 18446744073709551616 : Nat) : Int) ∧ (∀ j, j < k → 128 ≤ (bs.getD j 0).toNat) ∧ Below w.heap.size w wr) (fun _ i _ => 10 - (intOf i).toNat)
  case atStart => exact ⟨0, by omega, by omega, rfl, by simp [val], fun j hj => by omega, Below.refl _ _⟩
  case round =>
    obtain ⟨k, hk, hkl, rfl, rfl, hall, hb⟩ := hrel
    have HALL : Hid (∀ j, j < k → 128 ≤ (bs.getD j 0).toNat) := hall
    have HB : Hid (Below w.heap.size w wr) := hb
    clear hall hb
    by_cases h10 : k < 10
    · by_cases hend : k = bs.length
      · have HG : Hid (grp 10 bs = (3, 0)) := grp_cut 10 bs (by omega) (by rw [← hend]; exact HALL.out)
        subst hend
        go_wp2
        go_ret3
        exact ⟨by simp [goT, goV, goS, HG.out], HB.out⟩
      · have hlt : k < bs.length := by omega
        obtain ⟨b, o, rfl, hc⟩ := HAT.out (by intro h; simp [h] at hlt)
        have hck := hc k hlt
        obtain ⟨x, HX, hx⟩ : ∃ x : UInt8, Hid (x = bs.getD k 0) ∧ wr.cell? ⟨b, o + k, none⟩ = some (.int .u8 (x.toNat : Int)) := ⟨_, rfl, by rw [HB.out.cell (p := ⟨b, o + k, none⟩) (block_lt_of_cell hck)]; exact hck⟩
        clear hc hck
        have hvt : val (bs.take (k + 1)) = val (bs.take k) + x.toNat % 128 * 128 ^ k := by rw [val_take bs k hlt, HX.out]
        have hor := or_shift k (val (bs.take k)) (x.toNat % 128) h10 (by have := val_lt (bs.take k); rwa [List.length_take, Nat.min_eq_left (by omega)] at this)
        rw [← hvt] at hor
        obtain ⟨y, HY, hy⟩ : ∃ y : Nat, Hid (y = val (bs.take k)) ∧ val (bs.take k) = y := ⟨_, rfl, rfl⟩
        obtain ⟨z, HZ, hz⟩ : ∃ z : Nat, Hid (z = val (bs.take (k + 1)) % 18446744073709551616) ∧ val (bs.take (k + 1)) % 18446744073709551616 = z := ⟨_, rfl, rfl⟩
        rw [hy, hz, show ((x.toNat % 128 : Nat) : Int) = (x.toNat : Int) % 128 by omega] at hor
        rw [hy]
        clear hvt hy hz
        have hx8 := x.toNat_lt
        by_cases hx7 : x.toNat < 128
        · have HG : Hid (grp 10 bs = (0, k + 1)) := grp_ok 10 bs k h10 hlt HALL.out (by rw [← HX.out]; exact hx7)
          have ha := and127b x
          have ha2 : bits .and .u8 (x.toNat : Int) 128 = 0 := by rw [and128b x]; omega
          have hk1 : k + 1 ≤ cap := by omega
          go_wp2
          go_region
          go_wp2
          go_ret3
          exact ⟨by simp [goT, goV, goS, HG.out, guN, HZ.out], HB.out.drew⟩
        · have ha := and127b x
          have ha2 : bits .and .u8 (x.toNat : Int) 128 = 128 := by rw [and128b x]; omega
          go_wp2
          go_roundw
          case rel => exact ⟨k + 1, by omega, by omega, by go_num, by rw [← HZ.out], fun j hj => by
            rcases Nat.lt_succ_iff_lt_or_eq.1 hj with h | rfl
            · exact HALL.out j h
            · rw [← HX.out]; omega, HB.out⟩
          case measure => simp [intOf]; omega
    · obtain rfl : k = 10 := by omega
      have HG : Hid (grp 10 bs = (4, 0)) := grp_form 10 bs hkl HALL.out
      go_wp2
      go_ret3
      exact ⟨by simp [goT, goV, goS, HG.out], HB.out⟩
theorem groupsOf_ok (ao : Option Addr) (cap : Nat) (bs : List UInt8) (hcap : bs.length ≤ cap) (w : World) (hat : BytesAt w ao bs) (h0 : (grp 10 bs).1 = 0) (k : Nat) (hk : (grp 10 bs).2 = k) (n : Nat) (hn : guN bs = n) :
    Calls Try.prog 42 #[.slice ao bs.length cap] w fun e w' => e = .returned (.tuple #[.int .u64 (n : Int), .slice ao k cap, .int .i64 0]) ∧ Below w.heap.size w w' := by
  have := groupsOf_any ao cap bs hcap w hat
  unfold goT goV goS at this
  rw [if_pos h0, if_pos h0, h0, hk, hn] at this
  exact this
theorem groupsOf_bad (ao : Option Addr) (cap : Nat) (bs : List UInt8) (hcap : bs.length ≤ cap) (w : World) (hat : BytesAt w ao bs) (h0 : ¬ (grp 10 bs).1 = 0) (q : Nat) (hq : (grp 10 bs).1 = q) :
    Calls Try.prog 42 #[.slice ao bs.length cap] w fun e w' => e = .returned (.tuple #[.int .u64 0, .slice none 0 0, .int .i64 (q : Int)]) ∧ Below w.heap.size w w' := by
  have := groupsOf_any ao cap bs hcap w hat
  unfold goT goV goS at this
  rw [if_neg h0, if_neg h0, hq] at this
  exact this
theorem BytesAt.after {w w' : World} {ao : Option Addr} {bs : List UInt8} (h : BytesAt w ao bs) (hb : After w w') : BytesAt w' ao bs := fun hn => by
  obtain ⟨b, o, rfl, hc⟩ := h hn
  exact ⟨b, o, rfl, fun j hj => by rw [Below.cell hb (p := ⟨b, o + j, none⟩) (block_lt_of_cell (hc j hj))]; exact hc j hj⟩
theorem BytesAt.take {w : World} {ao : Option Addr} {bs : List UInt8} (h : BytesAt w ao bs) (k : Nat) : BytesAt w ao (bs.take k) := fun hn => by
  obtain ⟨b, o, rfl, hc⟩ := h (by intro h; simp [h] at hn)
  refine ⟨b, o, rfl, fun j hj => ?_⟩
  simp only [List.length_take] at hj
  rw [hc j (by omega)]
  have h1 : j < bs.length := by omega
  have h2 : j < k := by omega
  simp [List.getD_eq_getElem?_getD, h1, h2]
theorem conv_take {W : World} {ao : Option Addr} {bs : List UInt8} (cap k : Nat) (h : BytesAt W ao bs) (hk : k ≤ bs.length) :
    (convert 26 9 (.slice ao k cap)).run Try.prog W = .ok (.string (strOf (bs.take k))) W := by
  have := conv_at cap (h.take k)
  rwa [List.length_take, Nat.min_eq_left hk] at this
set_option maxRecDepth 100000 in
set_option maxHeartbeats 400000 in
theorem getUint_any (ao : Option Addr) (cap : Nat) (bs : List UInt8) (hcap : bs.length ≤ cap) (w : World) (hat : BytesAt w ao bs) :
    Calls Try.prog 35 #[.slice ao bs.length cap] w fun e w' => e = .returned (.tuple #[.int .u64 (guV bs : Int), .int .i64 (guK bs : Int), .int .i64 (guE bs : Int)]) ∧ Below w.heap.size w w' := by
  have HAT : Hid (BytesAt w ao bs) := hat
  clear hat
  by_cases h0 : (grp 10 bs).1 = 0
  · have hle := grp_le 10 bs h0
    obtain ⟨k, hk⟩ : ∃ k, (grp 10 bs).2 = k := ⟨_, rfl⟩
    obtain ⟨n, hn⟩ : ∃ n, guN bs = n := ⟨_, rfl⟩
    have hn64 : n < 18446744073709551616 := hn ▸ guN_lt bs
    rw [hk] at hle
    by_cases hu : bs.take k = uintB n
    · have e1 : guE bs = 0 := by unfold guE; rw [if_pos h0, hn, hk, if_pos hu.symm]
      have e2 : guK bs = k := by unfold guK; rw [if_pos e1, hk]
      have e3 : guV bs = n := by unfold guV; rw [if_pos e1, hn]
      rw [e1, e2, e3]
      have hd : decide (bs.take k = uintB n) = true := by simp [hu]
      have H0 : Hid ((grp 10 bs).1 = 0) := h0
      have HK : Hid ((grp 10 bs).2 = k) := hk
      have HN : Hid (guN bs = n) := hn
      obtain ⟨hk1, hk2, hk3⟩ := hle
      clear h0 hk hn hu e1 e2 e3
      go_enter Try.func35, Try.ntmps35
      go_wp2_with (first
        | (go_at_call 42; refine (groupsOf_ok ao cap bs hcap _ HAT.out H0.out k HK.out n HN.out).mono ?_; rintro e w1 ⟨rfl, hb1⟩)
        | (go_at_call 32; refine (uint_any n hn64 _).mono ?_; rintro e w2 ⟨v2, rfl, ho2, hb2⟩)
        | (go_at_call 43; refine (equal_any _ _ (bs.take k) (uintB n) _ (conv_take cap k ((HAT.out.after hb1).after hb2) hk1) ho2.conv).mono ?_; rintro e w3 ⟨rfl, rfl⟩))
      go_ret3
      exact ⟨rfl, After.trans hb1 hb2⟩
    · have e1 : guE bs = 4 := by unfold guE; rw [if_pos h0, hn, hk, if_neg (fun h => hu h.symm)]
      have e2 : guK bs = 0 := by unfold guK; rw [e1]; rfl
      have e3 : guV bs = 0 := by unfold guV; rw [e1]; rfl
      rw [e1, e2, e3]
      have hd : decide (bs.take k = uintB n) = false := by simp [hu]
      have H0 : Hid ((grp 10 bs).1 = 0) := h0
      have HK : Hid ((grp 10 bs).2 = k) := hk
      have HN : Hid (guN bs = n) := hn
      obtain ⟨hk1, hk2, hk3⟩ := hle
      clear h0 hk hn hu e1 e2 e3
      go_enter Try.func35, Try.ntmps35
      go_wp2_with (first
        | (go_at_call 42; refine (groupsOf_ok ao cap bs hcap _ HAT.out H0.out k HK.out n HN.out).mono ?_; rintro e w1 ⟨rfl, hb1⟩)
        | (go_at_call 32; refine (uint_any n hn64 _).mono ?_; rintro e w2 ⟨v2, rfl, ho2, hb2⟩)
        | (go_at_call 43; refine (equal_any _ _ (bs.take k) (uintB n) _ (conv_take cap k ((HAT.out.after hb1).after hb2) hk1) ho2.conv).mono ?_; rintro e w3 ⟨rfl, rfl⟩))
      go_ret3
      exact ⟨rfl, After.trans hb1 hb2⟩
  · obtain ⟨q, hq⟩ : ∃ q, (grp 10 bs).1 = q := ⟨_, rfl⟩
    have e1 : guE bs = q := by unfold guE; rw [if_neg h0, hq]
    have hq0 : ¬ q = 0 := hq ▸ h0
    have e2 : guK bs = 0 := by unfold guK; rw [if_neg (by rw [e1]; exact hq0)]
    have e3 : guV bs = 0 := by unfold guV; rw [if_neg (by rw [e1]; exact hq0)]
    rw [e1, e2, e3]
    have H0 : Hid (¬ (grp 10 bs).1 = 0) := h0
    have HQ : Hid ((grp 10 bs).1 = q) := hq
    clear h0 hq e1 e2 e3
    go_enter Try.func35, Try.ntmps35
    go_wp2_with (go_at_call 42; refine (groupsOf_bad ao cap bs hcap _ HAT.out H0.out q HQ.out).mono ?_; rintro e w1 ⟨rfl, hb1⟩)
    go_ret3
    exact ⟨rfl, hb1⟩
end Go.Proofs.Ytgcgblecendijaa.LB
