/-
  leb: LRefGets LRefInt LRefText (of leb's own seat, carried over).
-/
import Derived.Test.YtcmcapcagblafaaLB
namespace Go.Proofs.Ytcmcapcagblafaa
section
open Go.RowKit Leb
theorem grp_snd : ∀ (f : Nat) (bs : List UInt8), ¬ (grp f bs).1 = 0 → (grp f bs).2 = 0
  | 0, _, _ => rfl
  | _ + 1, [], _ => rfl
  | f + 1, b :: bs, h => by
    simp only [grp] at h ⊢
    split
    · rename_i hb; rw [if_pos hb] at h; exact absurd rfl h
    · rename_i hb
      rw [if_neg hb] at h
      split
      · rename_i h0; rw [if_pos h0] at h; exact absurd rfl h
      · rfl
set_option maxRecDepth 100000 in
set_option maxHeartbeats 400000 in
theorem groups_any (ao : Option Addr) (cap : Nat) (bs : List UInt8) (w : World) (hat : BytesAt w ao bs) :
    Calls Try.prog 79 #[.slice ao bs.length cap] w fun e w' => e = .returned (.tuple #[.int .i64 ((grp 10 bs).2 : Int), .int .i64 ((grp 10 bs).1 : Int)]) ∧ w' = w := by
  have HAT : Hid (BytesAt w ao bs) := hat
  clear hat
  go_enter Try.func79, Try.ntmps79
  go_wp2
  go_loopw [4] (fun i wr => ∃ k : Nat, k ≤ 10 ∧ k ≤ bs.length ∧ i = .int .i64 k ∧ (∀ j, j < k → 128 ≤ (bs.getD j 0).toNat) ∧ wr = w) (fun i _ => 10 - (intOf i).toNat)
  case atStart => exact ⟨0, by omega, by omega, rfl, fun j hj => by omega, rfl⟩
  case round =>
    obtain ⟨k, hk, hkl, rfl, hall, rfl⟩ := hrel
    have HALL : Hid (∀ j, j < k → 128 ≤ (bs.getD j 0).toNat) := hall
    clear hall
    by_cases h10 : k < 10
    · by_cases hend : k = bs.length
      · have HG : Hid (grp 10 bs = (3, 0)) := grp_cut 10 bs (by omega) (by rw [← hend]; exact HALL.out)
        subst hend
        go_wp2
        go_ret2
        exact ⟨by simp [HG.out], rfl⟩
      · have hlt : k < bs.length := by omega
        obtain ⟨b, o, rfl, hc⟩ := HAT.out (by intro h; simp [h] at hlt)
        have hck := hc k hlt
        obtain ⟨x, HX, hx⟩ : ∃ x : UInt8, Hid (x = bs.getD k 0) ∧ wr.cell? ⟨b, o + k, none⟩ = some (.int .u8 (x.toNat : Int)) := ⟨_, rfl, hck⟩
        clear hc hck
        by_cases hx7 : x.toNat < 128
        · have HG : Hid (grp 10 bs = (0, k + 1)) := grp_ok 10 bs k h10 hlt HALL.out (by rw [← HX.out]; exact hx7)
          go_wp2
          go_ret2
          exact ⟨by simp [HG.out], rfl⟩
        · go_wp2
          go_roundw
          case rel => exact ⟨k + 1, by omega, by omega, by go_num, fun j hj => by
            rcases Nat.lt_succ_iff_lt_or_eq.1 hj with h | rfl
            · exact HALL.out j h
            · rw [← HX.out]; omega, trivial⟩
          case measure => simp [intOf]; omega
    · obtain rfl : k = 10 := by omega
      have HG : Hid (grp 10 bs = (4, 0)) := grp_form 10 bs hkl HALL.out
      go_wp2
      go_ret2
      exact ⟨by simp [HG.out], rfl⟩
theorem groups_ok (ao : Option Addr) (cap : Nat) (bs : List UInt8) (w : World) (hat : BytesAt w ao bs) (h0 : (grp 10 bs).1 = 0) (k : Nat) (hk : (grp 10 bs).2 = k) :
    Calls Try.prog 79 #[.slice ao bs.length cap] w fun e w' => e = .returned (.tuple #[.int .i64 (k : Int), .int .i64 0]) ∧ w' = w := by
  have := groups_any ao cap bs w hat
  rw [h0, hk] at this
  exact this
theorem groups_bad (ao : Option Addr) (cap : Nat) (bs : List UInt8) (w : World) (hat : BytesAt w ao bs) (h0 : ¬ (grp 10 bs).1 = 0) (q : Nat) (hq : (grp 10 bs).1 = q) :
    Calls Try.prog 79 #[.slice ao bs.length cap] w fun e w' => e = .returned (.tuple #[.int .i64 0, .int .i64 (q : Int)]) ∧ w' = w := by
  have := groups_any ao cap bs w hat
  rw [grp_snd 10 bs h0, hq] at this
  exact this
theorem or_low (n c : Nat) (hc : c < 128) : bits .or .u64 (IntKind.u64.wrap ((n : Int) * 128)) (c : Int) = (((n * 128 + c) % 18446744073709551616 : Nat) : Int) := by
  have hw : IntKind.u64.wrap ((n : Int) * 128) = ((2 ^ 7 * (n % 2 ^ 57) : Nat) : Int) := by
    simp [IntKind.wrap, IntKind.bits, IntKind.signed]; omega
  rw [hw, bits_or_u64_nat _ _ (by omega) (by omega), ← Nat.two_pow_add_eq_or_of_lt (by omega : c < 2 ^ 7)]
  omega
theorem val_drop (bs : List UInt8) (k j : Nat) (hk : k ≤ bs.length) (hj : j < k) : val ((bs.take k).drop j) = (bs.getD j 0).toNat % 128 + 128 * val ((bs.take k).drop (j + 1)) := by
  rw [List.drop_eq_getElem_cons (by simp; omega)]
  simp only [val]
  have : j < bs.length := by omega
  simp [List.getD_eq_getElem?_getD, this]
set_option maxRecDepth 100000 in
set_option maxHeartbeats 400000 in
theorem rgetUint_ok (b o : Nat) (cap : Nat) (bs : List UInt8) (hcap : bs.length ≤ cap) (w : World) (hat : BytesAt w (some ⟨b, o, none⟩) bs) (h0 : (grp 10 bs).1 = 0) :
    Calls Try.prog 62 #[.slice (some ⟨b, o, none⟩) bs.length cap] w fun e w' => e = .returned (.tuple #[.int .u64 (guV bs : Int), .int .i64 (guK bs : Int), .int .i64 (guE bs : Int)]) ∧ Below w.heap.size w w' := by
  have HAT : Hid (BytesAt w (some ⟨b, o, none⟩) bs) := hat
  have hle := grp_le 10 bs h0
  obtain ⟨k, hk⟩ : ∃ k, (grp 10 bs).2 = k := ⟨_, rfl⟩
  rw [hk] at hle
  obtain ⟨hk1, hk2, hk3⟩ := hle
  have H0 : Hid ((grp 10 bs).1 = 0) := h0
  have HK : Hid ((grp 10 bs).2 = k) := hk
  clear hat h0 hk
  go_enter Try.func62, Try.ntmps62
  go_wp2_with (go_at_call 79; refine (groups_ok _ cap bs _ HAT.out H0.out k HK.out).mono ?_; rintro e w1 ⟨rfl, rfl⟩)
  go_loopw [7, 8] (fun v i wr => ∃ j : Nat, j ≤ k ∧ i = .int .i64 ((j : Int) - 1) ∧ v = .int .u64 ((val ((bs.take k).drop j) % 18446744073709551616 : Nat) : Int) ∧ wr = w1) (fun _ i _ => (intOf i + 1).toNat)
  case atStart => exact ⟨k, Nat.le_refl _, rfl, by simp [val], rfl⟩
  case round =>
    obtain ⟨j, hj, rfl, rfl, rfl⟩ := hrel
    by_cases hj0 : 0 < j
    · obtain ⟨i, rfl⟩ : ∃ i, j = i + 1 := ⟨j - 1, by omega⟩
      obtain ⟨_, _, he, hc⟩ := HAT.out (by intro h; simp [h] at hk1; omega)
      cases he
      obtain ⟨x, HX, hx⟩ : ∃ x : UInt8, Hid (x = bs.getD i 0) ∧ wr.cell? ⟨b, o + i, none⟩ = some (.int .u8 (x.toNat : Int)) := ⟨_, rfl, hc i (by omega)⟩
      have hvd := val_drop bs k i hk1 (by omega)
      rw [← HX.out] at hvd
      have hor := or_low (val ((bs.take k).drop (i + 1)) % 18446744073709551616) (x.toNat % 128) (by omega)
      obtain ⟨y, hy⟩ : ∃ y, val ((bs.take k).drop (i + 1)) % 18446744073709551616 = y := ⟨_, rfl⟩
      have HV : Hid (val ((bs.take k).drop i) % 18446744073709551616 = (y * 128 + x.toNat % 128) % 18446744073709551616) := by unfold Hid; omega
      rw [hy, show ((x.toNat % 128 : Nat) : Int) = (x.toNat : Int) % 128 by omega] at hor
      rw [hy]
      clear hvd hc hy
      have hi1 : ((i + 1 : Nat) : Int) - 1 = (i : Int) := by omega
      rw [hi1]
      go_wp2
      go_roundw
      case rel => exact ⟨i, by omega, by go_num, by rw [HV.out]; simp, trivial⟩
      case measure => simp [intOf]
    · obtain rfl : j = 0 := by omega
      obtain ⟨n, hn⟩ : ∃ n, guN bs = n := ⟨_, rfl⟩
      have hn64 : n < 18446744073709551616 := hn ▸ guN_lt bs
      have hv : val ((bs.take k).drop 0) % 18446744073709551616 = n := by rw [← hn]; unfold guN; rw [HK.out]; rfl
      rw [hv]
      by_cases hu : uintB n = bs.take k
      · have e1 : guE bs = 0 := by unfold guE; rw [if_pos H0.out, hn, HK.out, if_pos hu]
        have e2 : guK bs = k := by unfold guK; rw [if_pos e1, HK.out]
        have e3 : guV bs = n := by unfold guV; rw [if_pos e1, hn]
        have E : Hid (guE bs = _ ∧ guK bs = _ ∧ guV bs = _) := ⟨e1, e2, e3⟩
        clear e1 e2 e3 hn hv
        go_wp2
        refine wp_region_noPanic ?_
        refine wp_region_held_drew (S := After wr) (by kernel_rfl) (After.drew (After.refl wr)) ?_
        intro hS0
        have HT3 : BytesAt wr (some ⟨b, o, none⟩) bs := HAT.out
        have HT0 := HT3.after hS0
        refine tk 0 32 (.int .u64 (n : Int)) (fuel := 7) rfl (by kernel_rfl) (by kernel_rfl) (by kernel_rfl) (by kernel_rfl) noPanic_false (by kernel_rfl) (fun _ _ => by kernel_rfl) hS0 ?_
        refine tk 3 35 (.slice (some ⟨b, o, none⟩) bs.length cap) (fuel := 6) rfl (by kernel_rfl) (by kernel_rfl) (by kernel_rfl) (by kernel_rfl) noPanic_false (by kernel_rfl) (fun _ _ => by kernel_rfl) hS0 ?_
        refine tk 4 36 (.int .i64 (k : Int)) (fuel := 5) rfl (by kernel_rfl) (by kernel_rfl) (by kernel_rfl) (by kernel_rfl) noPanic_false (by kernel_rfl) (fun _ _ => by kernel_rfl) hS0 ?_
        refine tk 5 37 (.slice (some ⟨b, o, none⟩) k cap) (fuel := 4) rfl (by kernel_rfl) (by kernel_rfl) (by kernel_rfl) (by kernel_rfl) noPanic_false (by kernel_rfl) (fun _ _ => x_slice (x := .tmp 35) (y := .tmp 36) (b := b) (off := o) (len := bs.length) (cap := cap) (k := k) (by kernel_rfl) (by kernel_rfl) (by kernel_rfl) (Nat.le_trans hk1 hcap)) hS0 ?_
        refine tk 6 38 (.string (strOf (bs.take k))) (fuel := 3) rfl (by kernel_rfl) (by kernel_rfl) (by kernel_rfl) (by kernel_rfl) noPanic_false (by kernel_rfl) (fun W hW => x_conv (x := .tmp 37) (by kernel_rfl) (by kernel_rfl) (conv_take cap k (HT3.after hW) hk1)) hS0 ?_
        refine tkCall 1 33 46 #[.int .u64 (n : Int)] _ (fuel := 2) rfl (by kernel_rfl) (by kernel_rfl) (by kernel_rfl) (fun _ => by kernel_rfl) hS0 (ruint_any n hn64 _) ?_
        intro pv pw pr ps
        have pB : After wr pw := After.trans hS0 ps
        have pT := HT0.after ps
        refine tk 2 34 (.string (strOf (uintB n))) (fuel := 1) rfl (by kernel_rfl) (by kernel_rfl) (by kernel_rfl) (by kernel_rfl) noPanic_false (by kernel_rfl) (fun W hW => x_conv (x := .tmp 33) (by kernel_rfl) (by kernel_rfl) (Own.convA pr hW)) (After.refl pw) ?_
        refine tk 7 39 (.bool false) (fuel := 0) rfl (by kernel_rfl) (by kernel_rfl) (by kernel_rfl) (by kernel_rfl) noPanic_false (by kernel_rfl) (fun _ _ => x_streqf (x := .tmp 34) (y := .tmp 38) (s := strOf (uintB n)) (t := strOf (bs.take k)) (by kernel_rfl) (by kernel_rfl) (by kernel_rfl) (congrArg strOf hu)) (After.refl pw) ?_
        refine wpAnyH_done (by kernel_rfl) (NoPanic.normal ?_) _
        go_simp
        go_wp2
        go_ret3
        exact ⟨by rw [E.out.1, E.out.2.1, E.out.2.2]; rfl, pB⟩
      · have e1 : guE bs = 4 := by unfold guE; rw [if_pos H0.out, hn, HK.out, if_neg hu]
        have e2 : guK bs = 0 := by unfold guK; rw [e1]; rfl
        have e3 : guV bs = 0 := by unfold guV; rw [e1]; rfl
        have E : Hid (guE bs = _ ∧ guK bs = _ ∧ guV bs = _) := ⟨e1, e2, e3⟩
        clear e1 e2 e3 hn hv
        go_wp2
        refine wp_region_noPanic ?_
        refine wp_region_held_drew (S := After wr) (by kernel_rfl) (After.drew (After.refl wr)) ?_
        intro hS0
        have HT3 : BytesAt wr (some ⟨b, o, none⟩) bs := HAT.out
        have HT0 := HT3.after hS0
        refine tk 0 32 (.int .u64 (n : Int)) (fuel := 7) rfl (by kernel_rfl) (by kernel_rfl) (by kernel_rfl) (by kernel_rfl) noPanic_false (by kernel_rfl) (fun _ _ => by kernel_rfl) hS0 ?_
        refine tk 3 35 (.slice (some ⟨b, o, none⟩) bs.length cap) (fuel := 6) rfl (by kernel_rfl) (by kernel_rfl) (by kernel_rfl) (by kernel_rfl) noPanic_false (by kernel_rfl) (fun _ _ => by kernel_rfl) hS0 ?_
        refine tk 4 36 (.int .i64 (k : Int)) (fuel := 5) rfl (by kernel_rfl) (by kernel_rfl) (by kernel_rfl) (by kernel_rfl) noPanic_false (by kernel_rfl) (fun _ _ => by kernel_rfl) hS0 ?_
        refine tk 5 37 (.slice (some ⟨b, o, none⟩) k cap) (fuel := 4) rfl (by kernel_rfl) (by kernel_rfl) (by kernel_rfl) (by kernel_rfl) noPanic_false (by kernel_rfl) (fun _ _ => x_slice (x := .tmp 35) (y := .tmp 36) (b := b) (off := o) (len := bs.length) (cap := cap) (k := k) (by kernel_rfl) (by kernel_rfl) (by kernel_rfl) (Nat.le_trans hk1 hcap)) hS0 ?_
        refine tk 6 38 (.string (strOf (bs.take k))) (fuel := 3) rfl (by kernel_rfl) (by kernel_rfl) (by kernel_rfl) (by kernel_rfl) noPanic_false (by kernel_rfl) (fun W hW => x_conv (x := .tmp 37) (by kernel_rfl) (by kernel_rfl) (conv_take cap k (HT3.after hW) hk1)) hS0 ?_
        refine tkCall 1 33 46 #[.int .u64 (n : Int)] _ (fuel := 2) rfl (by kernel_rfl) (by kernel_rfl) (by kernel_rfl) (fun _ => by kernel_rfl) hS0 (ruint_any n hn64 _) ?_
        intro pv pw pr ps
        have pB : After wr pw := After.trans hS0 ps
        have pT := HT0.after ps
        refine tk 2 34 (.string (strOf (uintB n))) (fuel := 1) rfl (by kernel_rfl) (by kernel_rfl) (by kernel_rfl) (by kernel_rfl) noPanic_false (by kernel_rfl) (fun W hW => x_conv (x := .tmp 33) (by kernel_rfl) (by kernel_rfl) (Own.convA pr hW)) (After.refl pw) ?_
        refine tk 7 39 (.bool true) (fuel := 0) rfl (by kernel_rfl) (by kernel_rfl) (by kernel_rfl) (by kernel_rfl) noPanic_false (by kernel_rfl) (fun _ _ => x_strne (x := .tmp 34) (y := .tmp 38) (s := (uintB n)) (t := bs.take k) (by kernel_rfl) (by kernel_rfl) (by kernel_rfl) hu) (After.refl pw) ?_
        refine wpAnyH_done (by kernel_rfl) (NoPanic.normal ?_) _
        go_simp
        go_wp2
        go_ret3
        exact ⟨by rw [E.out.1, E.out.2.1, E.out.2.2]; rfl, pB⟩
theorem rgetUint_any (ao : Option Addr) (cap : Nat) (bs : List UInt8) (hcap : bs.length ≤ cap) (w : World) (hat : BytesAt w ao bs) :
    Calls Try.prog 62 #[.slice ao bs.length cap] w fun e w' => e = .returned (.tuple #[.int .u64 (guV bs : Int), .int .i64 (guK bs : Int), .int .i64 (guE bs : Int)]) ∧ Below w.heap.size w w' := by
  by_cases h0 : (grp 10 bs).1 = 0
  · have hle := grp_le 10 bs h0
    obtain ⟨b, o, rfl, _⟩ := hat (by intro h; subst h; simp at hle; omega)
    exact rgetUint_ok b o cap bs hcap w hat h0
  · obtain ⟨q, hq⟩ : ∃ q, (grp 10 bs).1 = q := ⟨_, rfl⟩
    have e1 : guE bs = q := by unfold guE; rw [if_neg h0, hq]
    have hq0 : ¬ q = 0 := hq ▸ h0
    have e2 : guK bs = 0 := by unfold guK; rw [if_neg (by rw [e1]; exact hq0)]
    have e3 : guV bs = 0 := by unfold guV; rw [if_neg (by rw [e1]; exact hq0)]
    rw [e1, e2, e3]
    have HAT : Hid (BytesAt w ao bs) := hat
    have H0 : Hid (¬ (grp 10 bs).1 = 0) := h0
    have HQ : Hid ((grp 10 bs).1 = q) := hq
    clear h0 hq e1 e2 e3 hat
    go_enter Try.func62, Try.ntmps62
    go_wp2_with (go_at_call 79; refine (groups_bad ao cap bs _ HAT.out H0.out q HQ.out).mono ?_; rintro e w1 ⟨rfl, rfl⟩)
    go_ret3
    exact ⟨rfl, Below.refl _ _⟩
end
section
open Go.RowKit Leb
end
section
open Go.RowKit Leb
theorem rgu_0 {bs : List UInt8} (ao : Option Addr) (cap : Nat) (hcap : bs.length ≤ cap) (w : World) (hat : BytesAt w ao bs) {n k q : Nat} (hn : guV bs = n) (hk : guK bs = k) (hq : guE bs = q) :
    Calls Try.prog 62 #[.slice ao bs.length cap] w fun e w' => e = .returned (.tuple #[.int .u64 (n : Int), .int .i64 (k : Int), .int .i64 (q : Int)]) ∧ Below w.heap.size w w' := by
  have := rgetUint_any ao cap bs hcap w hat
  rw [hn, hk, hq] at this
  exact this
set_option maxRecDepth 100000 in
set_option maxHeartbeats 800000 in
theorem rgetText_any (ao : Option Addr) (cap : Nat) (bs : List UInt8) (most : Int) (hcap : bs.length ≤ cap) (hbig : bs.length ≤ 281474976710656) (hm0 : -9223372036854775808 ≤ most) (hm1 : most ≤ 9223372036854775807) (w : World) (hat : BytesAt w ao bs) :
    Calls Try.prog 64 #[.slice ao bs.length cap, .int .i64 most] w fun e w' => e = .returned (.tuple #[.string (strOf (gtS bs most)), .int .i64 (gtK bs most : Int), .int .i64 (gtE bs most : Int)]) ∧ Below w.heap.size w w' := by
  have HAT : Hid (BytesAt w ao bs) := hat
  clear hat
  obtain ⟨k, hk⟩ : ∃ k, guK bs = k := ⟨_, rfl⟩
  obtain ⟨n, hn⟩ : ∃ n, guV bs = n := ⟨_, rfl⟩
  have hn64 : n < 18446744073709551616 := hn ▸ guV_lt bs
  have hkl : k ≤ bs.length := hk ▸ guK_le bs
  have HK : Hid (guK bs = k) := hk
  have HN : Hid (guV bs = n) := hn
  by_cases h0 : guE bs = 0
  · have H0 : Hid (guE bs = 0) := h0
    have hkp : 0 < k := hk ▸ guK_pos h0
    by_cases h1 : most < (n : Int)
    · obtain ⟨e1, e2, e3⟩ := gt_e (bs := bs) (most := most) (q := 5) (by unfold gtE; rw [if_pos h0, hn, if_pos h1]) (by omega)
      rw [e1, e2, e3]
      clear e1 e2 e3 h0 hk hn
      by_cases hneg : most < 0
      · go_enter Try.func64, Try.ntmps64
        go_wp2_with (go_at_call 62; refine (rgu_0 ao cap hcap _ HAT.out HN.out HK.out H0.out).mono ?_; rintro e w1 ⟨rfl, hb1⟩)
        go_ret3
        exact ⟨rfl, hb1⟩
      · go_enter Try.func64, Try.ntmps64
        go_wp2_with (go_at_call 62; refine (rgu_0 ao cap hcap _ HAT.out HN.out HK.out H0.out).mono ?_; rintro e w1 ⟨rfl, hb1⟩)
        go_ret3
        exact ⟨rfl, hb1⟩
    · by_cases h2 : bs.length < k + n
      · obtain ⟨e1, e2, e3⟩ := gt_e (bs := bs) (most := most) (q := 3) (by unfold gtE; rw [if_pos h0, hn, hk, if_neg h1, if_pos h2]) (by omega)
        rw [e1, e2, e3]
        clear e1 e2 e3 h0 hk hn
        have hsub : (bs.length : Int) - (k : Int) = ((bs.length - k : Nat) : Int) := by omega
        go_enter Try.func64, Try.ntmps64
        go_wp2_with (go_at_call 62; refine (rgu_0 ao cap hcap _ HAT.out HN.out HK.out H0.out).mono ?_; rintro e w1 ⟨rfl, hb1⟩)
        go_ret3
        exact ⟨rfl, hb1⟩
      · obtain ⟨e1, e2, e3⟩ := gt_0 h0 hk hn h1 h2
        rw [e1, e2, e3]
        clear e1 e2 e3 h0 hk hn
        obtain ⟨b, o, rfl, _⟩ := HAT.out (by intro h; simp [h] at hkl; omega)
        obtain ⟨ao', hat', hsl⟩ := slice_mid b o bs.length cap k (k + n) (by omega) (by omega) bs rfl (by omega)
        rw [show k + n - k = n by omega] at hat' hsl
        rw [show ((k + n : Nat) : Int) = (k : Int) + (n : Int) by omega] at hsl ⊢
        have HAT' : Hid (∀ W : World, BytesAt W (some ⟨b, o, none⟩) bs → BytesAt W ao' ((bs.drop k).take n)) := hat'
        clear hat'
        have hlen : ((bs.drop k).take n).length = n := by simp; omega
        have HL : Hid (((bs.drop k).take n).length = n) := hlen
        clear hlen
        have hcv : ∀ W, After w W → (convert 26 9 (.slice ao' n (cap - k))).run Try.prog W = .ok (.string (strOf ((bs.drop k).take n))) W := fun W hW => by
          have := conv_at (cap - k) (HAT'.out W (HAT.out.after hW))
          rwa [HL.out] at this
        go_enter Try.func64, Try.ntmps64
        go_wp2_with (go_at_call 62; refine (rgu_0 _ cap hcap _ HAT.out HN.out HK.out H0.out).mono ?_; rintro e w1 ⟨rfl, hb1⟩; replace hcv := hcv w1 hb1)
        go_ret3
        exact ⟨rfl, hb1⟩
  · obtain ⟨q, hq⟩ : ∃ q, guE bs = q := ⟨_, rfl⟩
    have hq0 : ¬ q = 0 := hq ▸ h0
    obtain ⟨e1, e2, e3⟩ := gt_e (bs := bs) (most := most) (q := q) (by unfold gtE; rw [if_neg h0, hq]) hq0
    rw [e1, e2, e3]
    have HQ : Hid (guE bs = q) := hq
    clear e1 e2 e3 h0 hk hn hq
    go_enter Try.func64, Try.ntmps64
    go_wp2_with (go_at_call 62; refine (rgu_0 ao cap hcap _ HAT.out HN.out HK.out HQ.out).mono ?_; rintro e w1 ⟨rfl, hb1⟩)
    go_ret3
    exact ⟨rfl, hb1⟩
end
end Go.Proofs.Ytcmcapcagblafaa
