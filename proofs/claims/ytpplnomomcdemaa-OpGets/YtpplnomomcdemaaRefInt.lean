/-
  THE WALK OF stemmaref02.GetInt.
-/
import Derived.Test.YtpplnomomcdemaaRefGets
namespace Go.Proofs.Ytpplnomomcdemaa
open Go.RowKit Leb
theorem wrap_i64i (x : Int) : IntKind.i64.wrap x = Leb.wrap64 x := by
  simp [IntKind.wrap, IntKind.bits, IntKind.signed, Leb.wrap64]; split <;> omega
theorem wrap_rk (x : Int) : RowKit.wrap64 x = IntKind.i64.wrap x := by rw [wrap_i64i]; unfold RowKit.wrap64 Leb.wrap64; rfl
theorem or_lowi (n : Int) (c : Nat) (hc : c < 128) : bits .or .i64 (IntKind.i64.wrap (n * 128)) (c : Int) = Leb.wrap64 (n * 128 + (c : Int)) := by
  have e : bits .or .i64 (IntKind.i64.wrap (n * 128)) (c : Int) = IntKind.i64.wrap (((2 ^ 7 * (n % 144115188075855872).toNat + c : Nat)) : Int) := by
    show IntKind.i64.wrap (((BitVec.ofInt 64 _ ||| BitVec.ofInt 64 (c : Int)).toNat : Nat) : Int) = _
    have h1 : (IntKind.i64.wrap (n * 128) % ((2 ^ 64 : Nat) : Int)).toNat = 2 ^ 7 * (n % 144115188075855872).toNat := by
      rw [wrap_i64i]; unfold Leb.wrap64; omega
    have h2 : ((c : Int) % ((2 ^ 64 : Nat) : Int)).toNat = c := by omega
    rw [BitVec.toNat_or, BitVec.toNat_ofInt, BitVec.toNat_ofInt, h1, h2, ← Nat.two_pow_add_eq_or_of_lt (by omega : c < 2 ^ 7)]
  rw [e, wrap_i64i]
  unfold Leb.wrap64
  omega
theorem drop_last (bs : List UInt8) (k : Nat) (hk : k < bs.length) : (bs.take (k + 1)).drop k = [bs.getD k 0] := by
  rw [List.take_succ_eq_append_getElem hk, List.drop_append_of_le_length (by simp; omega)]
  simp [hk]
theorem sval_drop (bs : List UInt8) (k i : Nat) (hk : k + 1 ≤ bs.length) (hi : i < k) : sval ((bs.take (k + 1)).drop i) = ((bs.getD i 0).toNat % 128 : Nat) + 128 * sval ((bs.take (k + 1)).drop (i + 1)) := by
  rw [List.drop_eq_getElem_cons (by simp; omega), sval_cons _ _ (by intro h; have := congrArg List.length h; simp at this; omega)]
  have : i < bs.length := by omega
  simp [List.getD_eq_getElem?_getD, this]
set_option maxRecDepth 100000 in
set_option maxHeartbeats 400000 in
theorem rgetInt_neg (b o : Nat) (cap : Nat) (bs : List UInt8) (hcap : bs.length ≤ cap) (w : World) (hat : BytesAt w (some ⟨b, o, none⟩) bs) (h0 : (grp 10 bs).1 = 0) (k1 : Nat) (hk : (grp 10 bs).2 = k1 + 1) (x : UInt8) (hxe : x = bs.getD k1 0) (hs : 64 ≤ x.toNat % 128) :
    Calls Try.prog 59 #[.slice (some ⟨b, o, none⟩) bs.length cap] w fun e w' => e = .returned (.tuple #[.int .i64 (giV bs), .int .i64 (giK bs : Int), .int .i64 (giE bs : Int)]) ∧ Below w.heap.size w w' := by
  have HAT : Hid (BytesAt w (some ⟨b, o, none⟩) bs) := hat
  have hle := grp_le 10 bs h0
  rw [hk] at hle
  obtain ⟨hk1', hk2, _⟩ := hle
  have hx : w.cell? ⟨b, o + k1, none⟩ = some (.int .u8 (x.toNat : Int)) := by
    obtain ⟨_, _, he, hc⟩ := HAT.out (by intro h; simp [h] at hk1')
    cases he
    rw [hxe]; exact hc k1 (by omega)
  have HS : Hid (Leb.wrap64 (sval ((bs.take (k1 + 1)).drop k1)) = ((x.toNat % 64 : Nat) : Int) - 64) := by
    unfold Hid
    rw [drop_last bs k1 (by omega), ← hxe]
    simp only [sval]
    rw [if_pos hs]; unfold Leb.wrap64; omega
  have H0 : Hid ((grp 10 bs).1 = 0) := h0
  have HK : Hid ((grp 10 bs).2 = k1 + 1) := hk
  have hx8 := x.toNat_lt
  have hk1i : ((k1 : Int) + 1) - 1 = (k1 : Int) := by omega
  clear hat h0 hk hxe
  go_enter Try.func59, Try.ntmps59
  go_wp2_with (go_at_call 60; refine (groups_ok _ cap bs _ HAT.out H0.out (k1 + 1) HK.out).mono ?_; rintro e w1 ⟨rfl, rfl⟩)
  go_loopw [7, 8] (fun v i wr => ∃ j : Nat, j ≤ k1 ∧ i = .int .i64 ((j : Int) - 1) ∧ v = .int .i64 (Leb.wrap64 (sval ((bs.take (k1 + 1)).drop j))) ∧ wr = w1) (fun _ i _ => (intOf i + 1).toNat)
  case atStart => exact ⟨k1, Nat.le_refl _, by go_num, by rw [HS.out]; simp, rfl⟩
  case round =>
    obtain ⟨j, hj, rfl, rfl, rfl⟩ := hrel
    by_cases hj0 : 0 < j
    · obtain ⟨i, rfl⟩ : ∃ i, j = i + 1 := ⟨j - 1, by omega⟩
      obtain ⟨_, _, he, hc⟩ := HAT.out (by intro h; simp [h] at hk1')
      cases he
      obtain ⟨y, HY, hy⟩ : ∃ y : UInt8, Hid (y = bs.getD i 0) ∧ wr.cell? ⟨b, o + i, none⟩ = some (.int .u8 (y.toNat : Int)) := ⟨_, rfl, hc i (by omega)⟩
      have hvd := sval_drop bs k1 i hk1' (by omega)
      rw [← HY.out] at hvd
      obtain ⟨z, hz⟩ : ∃ z, Leb.wrap64 (sval ((bs.take (k1 + 1)).drop (i + 1))) = z := ⟨_, rfl⟩
      have hz64 : -9223372036854775808 ≤ z ∧ z ≤ 9223372036854775807 := by rw [← hz]; unfold Leb.wrap64; omega
      have HV : Hid (Leb.wrap64 (sval ((bs.take (k1 + 1)).drop i)) = Leb.wrap64 (z * 128 + (y.toNat % 128 : Nat))) := by unfold Hid; rw [hvd, ← hz]; unfold Leb.wrap64; omega
      have hor := or_lowi z (y.toNat % 128) (by omega)
      obtain ⟨z2, hz2⟩ : ∃ z2, Leb.wrap64 (z * 128 + (y.toNat % 128 : Nat)) = z2 := ⟨_, rfl⟩
      rw [hz2, show ((y.toNat % 128 : Nat) : Int) = (y.toNat : Int) % 128 by omega] at hor
      have HZ : Hid (Leb.wrap64 (sval ((bs.take (k1 + 1)).drop i)) = z2) := by unfold Hid; rw [HV.out, hz2]
      rw [hz]
      clear hvd hc hz hz2 HV
      obtain ⟨hz0, hz1⟩ := hz64
      have hi1 : ((i + 1 : Nat) : Int) - 1 = (i : Int) := by omega
      rw [hi1]
      go_wp2
      go_roundw
      case rel => exact ⟨i, by omega, by go_num, by rw [HZ.out, ← hor, wrap_rk], trivial⟩
      case measure => simp [intOf]
    · obtain rfl : j = 0 := by omega
      obtain ⟨k, hkk⟩ : ∃ k, k1 + 1 = k := ⟨_, rfl⟩
      obtain ⟨m, hm⟩ : ∃ m, giN bs = m := ⟨_, rfl⟩
      have hm64 : -9223372036854775808 ≤ m ∧ m ≤ 9223372036854775807 := hm ▸ giN_lt bs
      have hv : Leb.wrap64 (sval ((bs.take (k1 + 1)).drop 0)) = m := by rw [← hm]; unfold giN; rw [HK.out]; rfl
      have HK2 : Hid ((grp 10 bs).2 = k) := by unfold Hid; rw [HK.out, hkk]
      have hk1 : k ≤ bs.length := by omega
      have hki : ((k1 : Int) + 1) = (k : Int) := by omega
      rw [hv]
      by_cases hu : intB m = bs.take k
      · have E : Hid (giE bs = 0 ∧ giK bs = k ∧ giV bs = m) := giE_0 H0.out HK2.out hm hu.symm
        clear hm hv
        go_wp2
        simp only [hki]
        refine wp_region_noPanic ?_
        refine wp_region_held_drew (S := After wr) (by kernel_rfl) (After.drew (After.refl wr)) ?_
        intro hS0
        have HT3 : BytesAt wr (some ⟨b, o, none⟩) bs := HAT.out
        have HT0 := HT3.after hS0
        refine tk 0 48 (.int .i64 m) (fuel := 7) rfl (by kernel_rfl) (by kernel_rfl) (by kernel_rfl) (by kernel_rfl) noPanic_false (by kernel_rfl) (fun _ _ => by kernel_rfl) hS0 ?_
        refine tk 3 51 (.slice (some ⟨b, o, none⟩) bs.length cap) (fuel := 6) rfl (by kernel_rfl) (by kernel_rfl) (by kernel_rfl) (by kernel_rfl) noPanic_false (by kernel_rfl) (fun _ _ => by kernel_rfl) hS0 ?_
        refine tk 4 52 (.int .i64 (k : Int)) (fuel := 5) rfl (by kernel_rfl) (by kernel_rfl) (by kernel_rfl) (by kernel_rfl) noPanic_false (by kernel_rfl) (fun _ _ => by kernel_rfl) hS0 ?_
        refine tk 5 53 (.slice (some ⟨b, o, none⟩) k cap) (fuel := 4) rfl (by kernel_rfl) (by kernel_rfl) (by kernel_rfl) (by kernel_rfl) noPanic_false (by kernel_rfl) (fun _ _ => x_slice (x := .tmp 51) (y := .tmp 52) (b := b) (off := o) (len := bs.length) (cap := cap) (k := k) (by kernel_rfl) (by kernel_rfl) (by kernel_rfl) (Nat.le_trans hk1 hcap)) hS0 ?_
        refine tk 6 54 (.string (strOf (bs.take k))) (fuel := 3) rfl (by kernel_rfl) (by kernel_rfl) (by kernel_rfl) (by kernel_rfl) noPanic_false (by kernel_rfl) (fun W hW => x_conv (x := .tmp 53) (by kernel_rfl) (by kernel_rfl) (conv_take cap k (HT3.after hW) hk1)) hS0 ?_
        refine tkCall 1 49 50 #[.int .i64 m] _ (fuel := 2) rfl (by kernel_rfl) (by kernel_rfl) (by kernel_rfl) (fun _ => by kernel_rfl) hS0 (rint_any m hm64.1 hm64.2 _) ?_
        intro pv pw pr ps
        have pB : After wr pw := After.trans hS0 ps
        have pT := HT0.after ps
        refine tk 2 50 (.string (strOf (intB m))) (fuel := 1) rfl (by kernel_rfl) (by kernel_rfl) (by kernel_rfl) (by kernel_rfl) noPanic_false (by kernel_rfl) (fun W hW => x_conv (x := .tmp 49) (by kernel_rfl) (by kernel_rfl) (Own.convA pr hW)) (After.refl pw) ?_
        refine tk 7 55 (.bool false) (fuel := 0) rfl (by kernel_rfl) (by kernel_rfl) (by kernel_rfl) (by kernel_rfl) noPanic_false (by kernel_rfl) (fun _ _ => x_streqf (x := .tmp 50) (y := .tmp 54) (s := strOf (intB m)) (t := strOf (bs.take k)) (by kernel_rfl) (by kernel_rfl) (by kernel_rfl) (congrArg strOf hu)) (After.refl pw) ?_
        refine wpAnyH_done (by kernel_rfl) (NoPanic.normal ?_) _
        go_simp
        go_wp2
        go_ret3
        exact ⟨by rw [E.out.1, E.out.2.1, E.out.2.2]; rfl, pB⟩
      · have E : Hid (giE bs = 4 ∧ giK bs = 0 ∧ giV bs = 0) := giE_4 H0.out HK2.out hm (fun h => hu h.symm)
        clear hm hv
        go_wp2
        simp only [hki]
        refine wp_region_noPanic ?_
        refine wp_region_held_drew (S := After wr) (by kernel_rfl) (After.drew (After.refl wr)) ?_
        intro hS0
        have HT3 : BytesAt wr (some ⟨b, o, none⟩) bs := HAT.out
        have HT0 := HT3.after hS0
        refine tk 0 48 (.int .i64 m) (fuel := 7) rfl (by kernel_rfl) (by kernel_rfl) (by kernel_rfl) (by kernel_rfl) noPanic_false (by kernel_rfl) (fun _ _ => by kernel_rfl) hS0 ?_
        refine tk 3 51 (.slice (some ⟨b, o, none⟩) bs.length cap) (fuel := 6) rfl (by kernel_rfl) (by kernel_rfl) (by kernel_rfl) (by kernel_rfl) noPanic_false (by kernel_rfl) (fun _ _ => by kernel_rfl) hS0 ?_
        refine tk 4 52 (.int .i64 (k : Int)) (fuel := 5) rfl (by kernel_rfl) (by kernel_rfl) (by kernel_rfl) (by kernel_rfl) noPanic_false (by kernel_rfl) (fun _ _ => by kernel_rfl) hS0 ?_
        refine tk 5 53 (.slice (some ⟨b, o, none⟩) k cap) (fuel := 4) rfl (by kernel_rfl) (by kernel_rfl) (by kernel_rfl) (by kernel_rfl) noPanic_false (by kernel_rfl) (fun _ _ => x_slice (x := .tmp 51) (y := .tmp 52) (b := b) (off := o) (len := bs.length) (cap := cap) (k := k) (by kernel_rfl) (by kernel_rfl) (by kernel_rfl) (Nat.le_trans hk1 hcap)) hS0 ?_
        refine tk 6 54 (.string (strOf (bs.take k))) (fuel := 3) rfl (by kernel_rfl) (by kernel_rfl) (by kernel_rfl) (by kernel_rfl) noPanic_false (by kernel_rfl) (fun W hW => x_conv (x := .tmp 53) (by kernel_rfl) (by kernel_rfl) (conv_take cap k (HT3.after hW) hk1)) hS0 ?_
        refine tkCall 1 49 50 #[.int .i64 m] _ (fuel := 2) rfl (by kernel_rfl) (by kernel_rfl) (by kernel_rfl) (fun _ => by kernel_rfl) hS0 (rint_any m hm64.1 hm64.2 _) ?_
        intro pv pw pr ps
        have pB : After wr pw := After.trans hS0 ps
        have pT := HT0.after ps
        refine tk 2 50 (.string (strOf (intB m))) (fuel := 1) rfl (by kernel_rfl) (by kernel_rfl) (by kernel_rfl) (by kernel_rfl) noPanic_false (by kernel_rfl) (fun W hW => x_conv (x := .tmp 49) (by kernel_rfl) (by kernel_rfl) (Own.convA pr hW)) (After.refl pw) ?_
        refine tk 7 55 (.bool true) (fuel := 0) rfl (by kernel_rfl) (by kernel_rfl) (by kernel_rfl) (by kernel_rfl) noPanic_false (by kernel_rfl) (fun _ _ => x_strne (x := .tmp 50) (y := .tmp 54) (s := (intB m)) (t := bs.take k) (by kernel_rfl) (by kernel_rfl) (by kernel_rfl) hu) (After.refl pw) ?_
        refine wpAnyH_done (by kernel_rfl) (NoPanic.normal ?_) _
        go_simp
        go_wp2
        go_ret3
        exact ⟨by rw [E.out.1, E.out.2.1, E.out.2.2]; rfl, pB⟩
set_option maxRecDepth 100000 in
set_option maxHeartbeats 400000 in
theorem rgetInt_pos (b o : Nat) (cap : Nat) (bs : List UInt8) (hcap : bs.length ≤ cap) (w : World) (hat : BytesAt w (some ⟨b, o, none⟩) bs) (h0 : (grp 10 bs).1 = 0) (k1 : Nat) (hk : (grp 10 bs).2 = k1 + 1) (x : UInt8) (hxe : x = bs.getD k1 0) (hs : ¬ 64 ≤ x.toNat % 128) :
    Calls Try.prog 59 #[.slice (some ⟨b, o, none⟩) bs.length cap] w fun e w' => e = .returned (.tuple #[.int .i64 (giV bs), .int .i64 (giK bs : Int), .int .i64 (giE bs : Int)]) ∧ Below w.heap.size w w' := by
  have HAT : Hid (BytesAt w (some ⟨b, o, none⟩) bs) := hat
  have hle := grp_le 10 bs h0
  rw [hk] at hle
  obtain ⟨hk1', hk2, _⟩ := hle
  have hx : w.cell? ⟨b, o + k1, none⟩ = some (.int .u8 (x.toNat : Int)) := by
    obtain ⟨_, _, he, hc⟩ := HAT.out (by intro h; simp [h] at hk1')
    cases he
    rw [hxe]; exact hc k1 (by omega)
  have HS : Hid (Leb.wrap64 (sval ((bs.take (k1 + 1)).drop k1)) = ((x.toNat % 64 : Nat) : Int)) := by
    unfold Hid
    rw [drop_last bs k1 (by omega), ← hxe]
    simp only [sval]
    rw [if_neg hs]; unfold Leb.wrap64; omega
  have H0 : Hid ((grp 10 bs).1 = 0) := h0
  have HK : Hid ((grp 10 bs).2 = k1 + 1) := hk
  have hx8 := x.toNat_lt
  have hk1i : ((k1 : Int) + 1) - 1 = (k1 : Int) := by omega
  clear hat h0 hk hxe
  go_enter Try.func59, Try.ntmps59
  go_wp2_with (go_at_call 60; refine (groups_ok _ cap bs _ HAT.out H0.out (k1 + 1) HK.out).mono ?_; rintro e w1 ⟨rfl, rfl⟩)
  go_loopw [7, 8] (fun v i wr => ∃ j : Nat, j ≤ k1 ∧ i = .int .i64 ((j : Int) - 1) ∧ v = .int .i64 (Leb.wrap64 (sval ((bs.take (k1 + 1)).drop j))) ∧ wr = w1) (fun _ i _ => (intOf i + 1).toNat)
  case atStart => exact ⟨k1, Nat.le_refl _, by go_num, by rw [HS.out]; simp, rfl⟩
  case round =>
    obtain ⟨j, hj, rfl, rfl, rfl⟩ := hrel
    by_cases hj0 : 0 < j
    · obtain ⟨i, rfl⟩ : ∃ i, j = i + 1 := ⟨j - 1, by omega⟩
      obtain ⟨_, _, he, hc⟩ := HAT.out (by intro h; simp [h] at hk1')
      cases he
      obtain ⟨y, HY, hy⟩ : ∃ y : UInt8, Hid (y = bs.getD i 0) ∧ wr.cell? ⟨b, o + i, none⟩ = some (.int .u8 (y.toNat : Int)) := ⟨_, rfl, hc i (by omega)⟩
      have hvd := sval_drop bs k1 i hk1' (by omega)
      rw [← HY.out] at hvd
      obtain ⟨z, hz⟩ : ∃ z, Leb.wrap64 (sval ((bs.take (k1 + 1)).drop (i + 1))) = z := ⟨_, rfl⟩
      have hz64 : -9223372036854775808 ≤ z ∧ z ≤ 9223372036854775807 := by rw [← hz]; unfold Leb.wrap64; omega
      have HV : Hid (Leb.wrap64 (sval ((bs.take (k1 + 1)).drop i)) = Leb.wrap64 (z * 128 + (y.toNat % 128 : Nat))) := by unfold Hid; rw [hvd, ← hz]; unfold Leb.wrap64; omega
      have hor := or_lowi z (y.toNat % 128) (by omega)
      obtain ⟨z2, hz2⟩ : ∃ z2, Leb.wrap64 (z * 128 + (y.toNat % 128 : Nat)) = z2 := ⟨_, rfl⟩
      rw [hz2, show ((y.toNat % 128 : Nat) : Int) = (y.toNat : Int) % 128 by omega] at hor
      have HZ : Hid (Leb.wrap64 (sval ((bs.take (k1 + 1)).drop i)) = z2) := by unfold Hid; rw [HV.out, hz2]
      rw [hz]
      clear hvd hc hz hz2 HV
      obtain ⟨hz0, hz1⟩ := hz64
      have hi1 : ((i + 1 : Nat) : Int) - 1 = (i : Int) := by omega
      rw [hi1]
      go_wp2
      go_roundw
      case rel => exact ⟨i, by omega, by go_num, by rw [HZ.out, ← hor, wrap_rk], trivial⟩
      case measure => simp [intOf]
    · obtain rfl : j = 0 := by omega
      obtain ⟨k, hkk⟩ : ∃ k, k1 + 1 = k := ⟨_, rfl⟩
      obtain ⟨m, hm⟩ : ∃ m, giN bs = m := ⟨_, rfl⟩
      have hm64 : -9223372036854775808 ≤ m ∧ m ≤ 9223372036854775807 := hm ▸ giN_lt bs
      have hv : Leb.wrap64 (sval ((bs.take (k1 + 1)).drop 0)) = m := by rw [← hm]; unfold giN; rw [HK.out]; rfl
      have HK2 : Hid ((grp 10 bs).2 = k) := by unfold Hid; rw [HK.out, hkk]
      have hk1 : k ≤ bs.length := by omega
      have hki : ((k1 : Int) + 1) = (k : Int) := by omega
      rw [hv]
      by_cases hu : intB m = bs.take k
      · have E : Hid (giE bs = 0 ∧ giK bs = k ∧ giV bs = m) := giE_0 H0.out HK2.out hm hu.symm
        clear hm hv
        go_wp2
        simp only [hki]
        refine wp_region_noPanic ?_
        refine wp_region_held_drew (S := After wr) (by kernel_rfl) (After.drew (After.refl wr)) ?_
        intro hS0
        have HT3 : BytesAt wr (some ⟨b, o, none⟩) bs := HAT.out
        have HT0 := HT3.after hS0
        refine tk 0 48 (.int .i64 m) (fuel := 7) rfl (by kernel_rfl) (by kernel_rfl) (by kernel_rfl) (by kernel_rfl) noPanic_false (by kernel_rfl) (fun _ _ => by kernel_rfl) hS0 ?_
        refine tk 3 51 (.slice (some ⟨b, o, none⟩) bs.length cap) (fuel := 6) rfl (by kernel_rfl) (by kernel_rfl) (by kernel_rfl) (by kernel_rfl) noPanic_false (by kernel_rfl) (fun _ _ => by kernel_rfl) hS0 ?_
        refine tk 4 52 (.int .i64 (k : Int)) (fuel := 5) rfl (by kernel_rfl) (by kernel_rfl) (by kernel_rfl) (by kernel_rfl) noPanic_false (by kernel_rfl) (fun _ _ => by kernel_rfl) hS0 ?_
        refine tk 5 53 (.slice (some ⟨b, o, none⟩) k cap) (fuel := 4) rfl (by kernel_rfl) (by kernel_rfl) (by kernel_rfl) (by kernel_rfl) noPanic_false (by kernel_rfl) (fun _ _ => x_slice (x := .tmp 51) (y := .tmp 52) (b := b) (off := o) (len := bs.length) (cap := cap) (k := k) (by kernel_rfl) (by kernel_rfl) (by kernel_rfl) (Nat.le_trans hk1 hcap)) hS0 ?_
        refine tk 6 54 (.string (strOf (bs.take k))) (fuel := 3) rfl (by kernel_rfl) (by kernel_rfl) (by kernel_rfl) (by kernel_rfl) noPanic_false (by kernel_rfl) (fun W hW => x_conv (x := .tmp 53) (by kernel_rfl) (by kernel_rfl) (conv_take cap k (HT3.after hW) hk1)) hS0 ?_
        refine tkCall 1 49 50 #[.int .i64 m] _ (fuel := 2) rfl (by kernel_rfl) (by kernel_rfl) (by kernel_rfl) (fun _ => by kernel_rfl) hS0 (rint_any m hm64.1 hm64.2 _) ?_
        intro pv pw pr ps
        have pB : After wr pw := After.trans hS0 ps
        have pT := HT0.after ps
        refine tk 2 50 (.string (strOf (intB m))) (fuel := 1) rfl (by kernel_rfl) (by kernel_rfl) (by kernel_rfl) (by kernel_rfl) noPanic_false (by kernel_rfl) (fun W hW => x_conv (x := .tmp 49) (by kernel_rfl) (by kernel_rfl) (Own.convA pr hW)) (After.refl pw) ?_
        refine tk 7 55 (.bool false) (fuel := 0) rfl (by kernel_rfl) (by kernel_rfl) (by kernel_rfl) (by kernel_rfl) noPanic_false (by kernel_rfl) (fun _ _ => x_streqf (x := .tmp 50) (y := .tmp 54) (s := strOf (intB m)) (t := strOf (bs.take k)) (by kernel_rfl) (by kernel_rfl) (by kernel_rfl) (congrArg strOf hu)) (After.refl pw) ?_
        refine wpAnyH_done (by kernel_rfl) (NoPanic.normal ?_) _
        go_simp
        go_wp2
        go_ret3
        exact ⟨by rw [E.out.1, E.out.2.1, E.out.2.2]; rfl, pB⟩
      · have E : Hid (giE bs = 4 ∧ giK bs = 0 ∧ giV bs = 0) := giE_4 H0.out HK2.out hm (fun h => hu h.symm)
        clear hm hv
        go_wp2
        simp only [hki]
        refine wp_region_noPanic ?_
        refine wp_region_held_drew (S := After wr) (by kernel_rfl) (After.drew (After.refl wr)) ?_
        intro hS0
        have HT3 : BytesAt wr (some ⟨b, o, none⟩) bs := HAT.out
        have HT0 := HT3.after hS0
        refine tk 0 48 (.int .i64 m) (fuel := 7) rfl (by kernel_rfl) (by kernel_rfl) (by kernel_rfl) (by kernel_rfl) noPanic_false (by kernel_rfl) (fun _ _ => by kernel_rfl) hS0 ?_
        refine tk 3 51 (.slice (some ⟨b, o, none⟩) bs.length cap) (fuel := 6) rfl (by kernel_rfl) (by kernel_rfl) (by kernel_rfl) (by kernel_rfl) noPanic_false (by kernel_rfl) (fun _ _ => by kernel_rfl) hS0 ?_
        refine tk 4 52 (.int .i64 (k : Int)) (fuel := 5) rfl (by kernel_rfl) (by kernel_rfl) (by kernel_rfl) (by kernel_rfl) noPanic_false (by kernel_rfl) (fun _ _ => by kernel_rfl) hS0 ?_
        refine tk 5 53 (.slice (some ⟨b, o, none⟩) k cap) (fuel := 4) rfl (by kernel_rfl) (by kernel_rfl) (by kernel_rfl) (by kernel_rfl) noPanic_false (by kernel_rfl) (fun _ _ => x_slice (x := .tmp 51) (y := .tmp 52) (b := b) (off := o) (len := bs.length) (cap := cap) (k := k) (by kernel_rfl) (by kernel_rfl) (by kernel_rfl) (Nat.le_trans hk1 hcap)) hS0 ?_
        refine tk 6 54 (.string (strOf (bs.take k))) (fuel := 3) rfl (by kernel_rfl) (by kernel_rfl) (by kernel_rfl) (by kernel_rfl) noPanic_false (by kernel_rfl) (fun W hW => x_conv (x := .tmp 53) (by kernel_rfl) (by kernel_rfl) (conv_take cap k (HT3.after hW) hk1)) hS0 ?_
        refine tkCall 1 49 50 #[.int .i64 m] _ (fuel := 2) rfl (by kernel_rfl) (by kernel_rfl) (by kernel_rfl) (fun _ => by kernel_rfl) hS0 (rint_any m hm64.1 hm64.2 _) ?_
        intro pv pw pr ps
        have pB : After wr pw := After.trans hS0 ps
        have pT := HT0.after ps
        refine tk 2 50 (.string (strOf (intB m))) (fuel := 1) rfl (by kernel_rfl) (by kernel_rfl) (by kernel_rfl) (by kernel_rfl) noPanic_false (by kernel_rfl) (fun W hW => x_conv (x := .tmp 49) (by kernel_rfl) (by kernel_rfl) (Own.convA pr hW)) (After.refl pw) ?_
        refine tk 7 55 (.bool true) (fuel := 0) rfl (by kernel_rfl) (by kernel_rfl) (by kernel_rfl) (by kernel_rfl) noPanic_false (by kernel_rfl) (fun _ _ => x_strne (x := .tmp 50) (y := .tmp 54) (s := (intB m)) (t := bs.take k) (by kernel_rfl) (by kernel_rfl) (by kernel_rfl) hu) (After.refl pw) ?_
        refine wpAnyH_done (by kernel_rfl) (NoPanic.normal ?_) _
        go_simp
        go_wp2
        go_ret3
        exact ⟨by rw [E.out.1, E.out.2.1, E.out.2.2]; rfl, pB⟩
theorem rgetInt_any (ao : Option Addr) (cap : Nat) (bs : List UInt8) (hcap : bs.length ≤ cap) (w : World) (hat : BytesAt w ao bs) :
    Calls Try.prog 59 #[.slice ao bs.length cap] w fun e w' => e = .returned (.tuple #[.int .i64 (giV bs), .int .i64 (giK bs : Int), .int .i64 (giE bs : Int)]) ∧ Below w.heap.size w w' := by
  by_cases h0 : (grp 10 bs).1 = 0
  · have hle := grp_le 10 bs h0
    obtain ⟨b, o, rfl, _⟩ := hat (by intro h; subst h; simp at hle; omega)
    obtain ⟨k1, hk⟩ : ∃ k1, (grp 10 bs).2 = k1 + 1 := ⟨(grp 10 bs).2 - 1, by omega⟩
    by_cases hs : 64 ≤ (bs.getD k1 0).toNat % 128
    · exact rgetInt_neg b o cap bs hcap w hat h0 k1 hk _ rfl hs
    · exact rgetInt_pos b o cap bs hcap w hat h0 k1 hk _ rfl hs
  · obtain ⟨q, hq⟩ : ∃ q, (grp 10 bs).1 = q := ⟨_, rfl⟩
    obtain ⟨e1, e2, e3⟩ := giE_q h0 hq
    have hq0 : ¬ q = 0 := hq ▸ h0
    rw [e1, e2, e3]
    have HAT : Hid (BytesAt w ao bs) := hat
    have H0 : Hid (¬ (grp 10 bs).1 = 0) := h0
    have HQ : Hid ((grp 10 bs).1 = q) := hq
    clear h0 hq e1 e2 e3 hat
    go_enter Try.func59, Try.ntmps59
    go_wp2_with (go_at_call 60; refine (groups_bad ao cap bs _ HAT.out H0.out q HQ.out).mono ?_; rintro e w1 ⟨rfl, rfl⟩)
    go_ret3
    exact ⟨rfl, Below.refl _ _⟩
end Go.Proofs.Ytpplnomomcdemaa
