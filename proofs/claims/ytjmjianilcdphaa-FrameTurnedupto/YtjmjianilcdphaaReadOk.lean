/-
  THE WALK OF frame.read, FROM THE SUM ON.
-/
import Derived.Test.YtjmjianilcdphaaReadKit
namespace Go.Proofs.Ytjmjianilcdphaa
open Go.RowKit Leb
/-- All is well but the sum. -/
structure OpSum (bs : List UInt8) (b : UInt8) (K V : Nat) : Prop where
  ne : bs ≠ []
  kind : bs.getD 0 0 = b
  kind0 : b ≠ 0
  e : guE (bs.drop 1) = 0
  k : guK (bs.drop 1) = K
  v : guV (bs.drop 1) = V
  most : V ≤ 1048576
  len : 1 + K + V + 4 ≤ bs.length
  sum : ¬ le4 (crc (bs.take (1 + K + V))) = (bs.drop (1 + K + V)).take 4
set_option maxRecDepth 100000 in
set_option maxHeartbeats 800000 in
theorem read_sum (b o cap : Nat) (bs : List UInt8) (n : Nat) (hn : bs.length = n) (hp : 0 < n) (hcap : n ≤ cap) (hbig : n ≤ 140737488355328) (w : World) (hat : BytesAt w (some ⟨b, o, none⟩) bs) (k : UInt8) (KK V : Nat) (H : OpSum bs k KK V) : Calls Try.prog 27 #[.slice (some ⟨b, o, none⟩) n cap] w (RBad w 6) := by
  have hc0 := cell0 b o bs n hn hp w hat
  have HAT : Hid (BytesAt w (some ⟨b, o, none⟩) bs) := hat
  have HN : Hid (bs.length = n) := hn
  clear hat hn
  have hk0 := u8_eq0 k
  obtain ⟨hne, hk, hkz, hE, hK, hV, hL, hlen, hsum⟩ := H
  rw [HN.out] at hlen
  rw [hk] at hc0
  rw [decide_eq_false hkz] at hk0
  have hs1 := sl1 b o cap n hp hcap
  have C31 := show Hid _ from getU b o cap bs n HN.out hcap w HAT.out
  simp only [hV, hK, hE] at C31
  have HSUM := show Hid _ from hsum
  have HKD : Hid (bs.getD 0 0 = k) := hk
  clear hV hK hE hk hne hsum
  go_enter Try.func27, Try.ntmps27
  go_wp2_with (first
    | (go_at_call 31; refine (C31.out _ (after_alloc (After.refl w) _)).mono ?_; rintro e w1 ⟨rfl, hb1⟩; have B0 : Hid (After (w.alloc (.cells #[.int .u8 0, .slice none 0 0] 33)) w1) := hb1; clear hb1)
    | (go_at_call 30; refine (give_no _ (by first | rfl | (simp; omega)) _ _).mono ?_; rintro e W ⟨rfl, hW⟩; have hW2 := hW.symm; clear hW; subst hW2))
  obtain ⟨E, hE⟩ : ∃ E, 1 + KK + V = E := ⟨_, rfl⟩
  have hE1 : (1 : Int) + (KK : Int) + (V : Int) = (E : Int) := by omega
  have B1 : After w w1 := After.trans (after_alloc (After.refl w) _) B0.out
  have HT1 := HAT.out.after B1
  obtain ⟨T, hT⟩ : ∃ T, bs.take E = T := ⟨_, rfl⟩
  obtain ⟨Z, hZ⟩ : ∃ Z, (bs.drop E).take 4 = Z := ⟨_, rfl⟩
  have hTl : T.length = E := by rw [← hT, List.length_take, HN.out]; omega
  have hZl : Z.length = 4 := by rw [← hZ, List.length_take, List.length_drop, HN.out]; omega
  have hcE : ∀ W, After w1 W → ∀ j, j < 4 → W.cell? ⟨b, o + E + j, none⟩ = some (.int .u8 ((Z.getD j 0).toNat : Int)) := fun W hW j hj => by
    obtain ⟨b', o', he, hc⟩ := (HT1.after hW) (by intro h; have := HN.out; rw [h] at this; simp at this; omega)
    cases he
    have := hc (E + j) (by rw [HN.out]; omega)
    rw [← Nat.add_assoc] at this
    rw [this, ← hZ]
    simp [List.getD_eq_getElem?_getD, hj]
  obtain ⟨z0, z1, z2, z3, hZ4⟩ : ∃ z0 z1 z2 z3, Z = [z0, z1, z2, z3] := by
    match Z, hZl with
    | [z0, z1, z2, z3], _ => exact ⟨z0, z1, z2, z3, rfl⟩
  have c0 := fun W hW => hcE W hW 0 (by omega)
  have c1 := fun W hW => hcE W hW 1 (by omega)
  have c2 := fun W hW => hcE W hW 2 (by omega)
  have c3 := fun W hW => hcE W hW 3 (by omega)
  rw [hZ4] at c0 c1 c2 c3
  have C29 : Calls Try.prog 29 #[.slice (some ⟨b, o, none⟩) E cap] w1.drew fun e w' => ∃ v, e = .returned v ∧ v = .agg (c8 (le4 (crc T))).toArray ∧ After w1.drew w' := by
    have := sumOf_any (some ⟨b, o, none⟩) cap T (by omega) w1.drew (by rw [← hT]; exact (HT1.after (After.drew (After.refl w1))).take E)
    rw [hTl] at this
    exact this.mono (fun e W' ⟨he, hb⟩ => ⟨_, he, rfl, hb⟩)
  have hS6 := HSUM.out
  rw [hE, hT, hZ, hZ4] at hS6
  refine wp_region_pan (R := fun c w' => c = gc 6 ∧ After w w') (fun c a w' hd h => ?_) ?_
  · obtain ⟨rfl, h⟩ := h
    exact ⟨hd, rfl, h⟩
  refine wp_region_held_drew (S := After w1) (by kernel_rfl) (After.drew (After.refl w1)) ?_
  intro hS0
  refine tkP 0 44 (.slice (some ⟨b, o, none⟩) n cap) (fuel := 12) rfl (by kernel_rfl) (by kernel_rfl) (by kernel_rfl) (by kernel_rfl) (by kernel_rfl) (fun _ _ => by kernel_rfl) hS0 ?_
  refine tkP 1 45 (.int .i64 (E : Int)) (fuel := 11) rfl (by kernel_rfl) (by kernel_rfl) (by kernel_rfl) (by kernel_rfl) (by kernel_rfl) (fun _ _ => by rw [← hE1]; kernel_rfl) hS0 ?_
  refine tkP 2 46 (.slice (some ⟨b, o, none⟩) E cap) (fuel := 10) rfl (by kernel_rfl) (by kernel_rfl) (by kernel_rfl) (by kernel_rfl) (by kernel_rfl) (fun _ _ => x_slice (x := .tmp 44) (y := .tmp 45) (b := b) (off := o) (len := n) (cap := cap) (k := E) (by kernel_rfl) (by kernel_rfl) (by kernel_rfl) (by omega)) hS0 ?_
  refine tkP 4 48 (.slice (some ⟨b, o, none⟩) n cap) (fuel := 9) rfl (by kernel_rfl) (by kernel_rfl) (by kernel_rfl) (by kernel_rfl) (by kernel_rfl) (fun _ _ => by kernel_rfl) hS0 ?_
  refine tkP 5 49 (.int .i64 (E : Int)) (fuel := 8) rfl (by kernel_rfl) (by kernel_rfl) (by kernel_rfl) (by kernel_rfl) (by kernel_rfl) (fun _ _ => by rw [← hE1]; kernel_rfl) hS0 ?_
  refine tkP 6 50 (.int .i64 (E : Int)) (fuel := 7) rfl (by kernel_rfl) (by kernel_rfl) (by kernel_rfl) (by kernel_rfl) (by kernel_rfl) (fun _ _ => by rw [← hE1]; kernel_rfl) hS0 ?_
  refine tkP 7 51 (.int .i64 ((E + 4 : Nat) : Int)) (fuel := 6) rfl (by kernel_rfl) (by kernel_rfl) (by kernel_rfl) (by kernel_rfl) (by kernel_rfl) (fun _ _ => x_add4 (x := .tmp 50) (y := .const (.int .i64 4)) (n := E) (by kernel_rfl) (by kernel_rfl) (by kernel_rfl) (by omega)) hS0 ?_
  refine tkP 8 52 (.slice (some ⟨b, o + E, none⟩) (E + 4 - E) (cap - E)) (fuel := 5) rfl (by kernel_rfl) (by kernel_rfl) (by kernel_rfl) (by kernel_rfl) (by kernel_rfl) (fun _ _ => x_lohi (x := .tmp 48) (y := .tmp 49) (z := .tmp 51) (b := b) (off := o) (len := n) (cap := cap) (lo := E) (hi := E + 4) (by kernel_rfl) (by kernel_rfl) (by kernel_rfl) (by kernel_rfl) (by omega) (by omega) (by omega)) hS0 ?_
  refine tkP 9 53 (.pointer (some ⟨b, o + E, none⟩)) (fuel := 4) rfl (by kernel_rfl) (by kernel_rfl) (by kernel_rfl) (by kernel_rfl) (by kernel_rfl) (fun _ _ => x_arr (x := .tmp 52) (b := b) (off := o + E) (len := E + 4 - E) (cap := cap - E) (by kernel_rfl) (by kernel_rfl) (by omega)) hS0 ?_
  refine tkP 10 54 (.agg (c8 [z0, z1, z2, z3]).toArray) (fuel := 3) rfl (by kernel_rfl) (by kernel_rfl) (by kernel_rfl) (by kernel_rfl) (by kernel_rfl) (fun W hW => x_load69 (x := .tmp 53) (b := b) (off := o + E) (by kernel_rfl) (by kernel_rfl) (c0 W hW) (c1 W hW) (c2 W hW) (c3 W hW)) hS0 ?_
  refine tkCallK 3 47 29 #[.slice (some ⟨b, o, none⟩) E cap] (fun v _ => v = .agg (c8 (le4 (crc T))).toArray) (fuel := 2) rfl (by kernel_rfl) (by kernel_rfl) (by kernel_rfl) (fun _ => by kernel_rfl) hS0 C29 ?_
  intro v2 w2 r2 s2 t2
  subst r2
  refine tkP 11 55 (.bool true) (fuel := 1) rfl (by kernel_rfl) (by kernel_rfl) (by kernel_rfl) (by kernel_rfl) (by kernel_rfl) (fun _ _ => x_neq69t (x := .tmp 47) (y := .tmp 54) (p := le4 (crc T)) (q := [z0, z1, z2, z3]) (by kernel_rfl) (by kernel_rfl) (by kernel_rfl) rfl rfl hS6) t2 ?_
  exact tkPanic 12 30 #[.bool true, .int .i64 6] (gc 6) (fuel := 0) rfl (by kernel_rfl) (by kernel_rfl) (fun _ => by kernel_rfl) (give_yes _ rfl _ _) ⟨rfl, rfl, After.trans B1 t2⟩
set_option maxRecDepth 100000 in
set_option maxHeartbeats 800000 in
theorem read_ok (b o cap : Nat) (bs : List UInt8) (n : Nat) (hn : bs.length = n) (hp : 0 < n) (hcap : n ≤ cap) (hbig : n ≤ 140737488355328) (w : World) (hat : BytesAt w (some ⟨b, o, none⟩) bs) (k : UInt8) (KK V : Nat) (H : OpOk bs k KK V) :
    Calls Try.prog 27 #[.slice (some ⟨b, o, none⟩) n cap] w fun x w' => ∃ v, x = .returned (.tuple #[.agg #[.int .u8 (k.toNat : Int), v], .int .i64 ((1 + KK + V + 4 : Nat) : Int)]) ∧ Own w' w.heap.size v ((bs.drop (1 + KK)).take V) ∧ After w w' := by
  have hc0 := cell0 b o bs n hn hp w hat
  have HAT : Hid (BytesAt w (some ⟨b, o, none⟩) bs) := hat
  have HN : Hid (bs.length = n) := hn
  clear hat hn
  have hk0 := u8_eq0 k
  obtain ⟨hne, hk, hkz, hE, hK, hV, hL, hlen, hsum⟩ := H
  rw [HN.out] at hlen
  rw [hk] at hc0
  rw [decide_eq_false hkz] at hk0
  have hs1 := sl1 b o cap n hp hcap
  have C31 := show Hid _ from getU b o cap bs n HN.out hcap w HAT.out
  simp only [hV, hK, hE] at C31
  have HSUM := show Hid _ from hsum
  have HKD : Hid (bs.getD 0 0 = k) := hk
  clear hV hK hE hk hne hsum
  go_enter Try.func27, Try.ntmps27
  go_wp2_with (first
    | (go_at_call 31; refine (C31.out _ (after_alloc (After.refl w) _)).mono ?_; rintro e w1 ⟨rfl, hb1⟩; have B0 : Hid (After (w.alloc (.cells #[.int .u8 0, .slice none 0 0] 33)) w1) := hb1; clear hb1)
    | (go_at_call 30; refine (give_no _ (by first | rfl | (simp; omega)) _ _).mono ?_; rintro e W ⟨rfl, hW⟩; have hW2 := hW.symm; clear hW; subst hW2))
  obtain ⟨E, hE⟩ : ∃ E, 1 + KK + V = E := ⟨_, rfl⟩
  have hE1 : (1 : Int) + (KK : Int) + (V : Int) = (E : Int) := by omega
  have B1 : After w w1 := After.trans (after_alloc (After.refl w) _) B0.out
  have HT1 := HAT.out.after B1
  obtain ⟨T, hT⟩ : ∃ T, bs.take E = T := ⟨_, rfl⟩
  obtain ⟨Z, hZ⟩ : ∃ Z, (bs.drop E).take 4 = Z := ⟨_, rfl⟩
  have hTl : T.length = E := by rw [← hT, List.length_take, HN.out]; omega
  have hZl : Z.length = 4 := by rw [← hZ, List.length_take, List.length_drop, HN.out]; omega
  have hcE : ∀ W, After w1 W → ∀ j, j < 4 → W.cell? ⟨b, o + E + j, none⟩ = some (.int .u8 ((Z.getD j 0).toNat : Int)) := fun W hW j hj => by
    obtain ⟨b', o', he, hc⟩ := (HT1.after hW) (by intro h; have := HN.out; rw [h] at this; simp at this; omega)
    cases he
    have := hc (E + j) (by rw [HN.out]; omega)
    rw [← Nat.add_assoc] at this
    rw [this, ← hZ]
    simp [List.getD_eq_getElem?_getD, hj]
  obtain ⟨z0, z1, z2, z3, hZ4⟩ : ∃ z0 z1 z2 z3, Z = [z0, z1, z2, z3] := by
    match Z, hZl with
    | [z0, z1, z2, z3], _ => exact ⟨z0, z1, z2, z3, rfl⟩
  have c0 := fun W hW => hcE W hW 0 (by omega)
  have c1 := fun W hW => hcE W hW 1 (by omega)
  have c2 := fun W hW => hcE W hW 2 (by omega)
  have c3 := fun W hW => hcE W hW 3 (by omega)
  rw [hZ4] at c0 c1 c2 c3
  have C29 : Calls Try.prog 29 #[.slice (some ⟨b, o, none⟩) E cap] w1.drew fun e w' => ∃ v, e = .returned v ∧ v = .agg (c8 (le4 (crc T))).toArray ∧ After w1.drew w' := by
    have := sumOf_any (some ⟨b, o, none⟩) cap T (by omega) w1.drew (by rw [← hT]; exact (HT1.after (After.drew (After.refl w1))).take E)
    rw [hTl] at this
    exact this.mono (fun e W' ⟨he, hb⟩ => ⟨_, he, rfl, hb⟩)
  have hS6 := HSUM.out
  rw [hE, hT, hZ, hZ4] at hS6
  refine wp_region_noPanic ?_
  refine wp_region_held_drew (S := After w1) (by kernel_rfl) (After.drew (After.refl w1)) ?_
  intro hS0
  refine tk 0 44 (.slice (some ⟨b, o, none⟩) n cap) (fuel := 12) rfl (by kernel_rfl) (by kernel_rfl) (by kernel_rfl) (by kernel_rfl) noPanic_false (by kernel_rfl) (fun _ _ => by kernel_rfl) hS0 ?_
  refine tk 1 45 (.int .i64 (E : Int)) (fuel := 11) rfl (by kernel_rfl) (by kernel_rfl) (by kernel_rfl) (by kernel_rfl) noPanic_false (by kernel_rfl) (fun _ _ => by rw [← hE1]; kernel_rfl) hS0 ?_
  refine tk 2 46 (.slice (some ⟨b, o, none⟩) E cap) (fuel := 10) rfl (by kernel_rfl) (by kernel_rfl) (by kernel_rfl) (by kernel_rfl) noPanic_false (by kernel_rfl) (fun _ _ => x_slice (x := .tmp 44) (y := .tmp 45) (b := b) (off := o) (len := n) (cap := cap) (k := E) (by kernel_rfl) (by kernel_rfl) (by kernel_rfl) (by omega)) hS0 ?_
  refine tk 4 48 (.slice (some ⟨b, o, none⟩) n cap) (fuel := 9) rfl (by kernel_rfl) (by kernel_rfl) (by kernel_rfl) (by kernel_rfl) noPanic_false (by kernel_rfl) (fun _ _ => by kernel_rfl) hS0 ?_
  refine tk 5 49 (.int .i64 (E : Int)) (fuel := 8) rfl (by kernel_rfl) (by kernel_rfl) (by kernel_rfl) (by kernel_rfl) noPanic_false (by kernel_rfl) (fun _ _ => by rw [← hE1]; kernel_rfl) hS0 ?_
  refine tk 6 50 (.int .i64 (E : Int)) (fuel := 7) rfl (by kernel_rfl) (by kernel_rfl) (by kernel_rfl) (by kernel_rfl) noPanic_false (by kernel_rfl) (fun _ _ => by rw [← hE1]; kernel_rfl) hS0 ?_
  refine tk 7 51 (.int .i64 ((E + 4 : Nat) : Int)) (fuel := 6) rfl (by kernel_rfl) (by kernel_rfl) (by kernel_rfl) (by kernel_rfl) noPanic_false (by kernel_rfl) (fun _ _ => x_add4 (x := .tmp 50) (y := .const (.int .i64 4)) (n := E) (by kernel_rfl) (by kernel_rfl) (by kernel_rfl) (by omega)) hS0 ?_
  refine tk 8 52 (.slice (some ⟨b, o + E, none⟩) (E + 4 - E) (cap - E)) (fuel := 5) rfl (by kernel_rfl) (by kernel_rfl) (by kernel_rfl) (by kernel_rfl) noPanic_false (by kernel_rfl) (fun _ _ => x_lohi (x := .tmp 48) (y := .tmp 49) (z := .tmp 51) (b := b) (off := o) (len := n) (cap := cap) (lo := E) (hi := E + 4) (by kernel_rfl) (by kernel_rfl) (by kernel_rfl) (by kernel_rfl) (by omega) (by omega) (by omega)) hS0 ?_
  refine tk 9 53 (.pointer (some ⟨b, o + E, none⟩)) (fuel := 4) rfl (by kernel_rfl) (by kernel_rfl) (by kernel_rfl) (by kernel_rfl) noPanic_false (by kernel_rfl) (fun _ _ => x_arr (x := .tmp 52) (b := b) (off := o + E) (len := E + 4 - E) (cap := cap - E) (by kernel_rfl) (by kernel_rfl) (by omega)) hS0 ?_
  refine tk 10 54 (.agg (c8 [z0, z1, z2, z3]).toArray) (fuel := 3) rfl (by kernel_rfl) (by kernel_rfl) (by kernel_rfl) (by kernel_rfl) noPanic_false (by kernel_rfl) (fun W hW => x_load69 (x := .tmp 53) (b := b) (off := o + E) (by kernel_rfl) (by kernel_rfl) (c0 W hW) (c1 W hW) (c2 W hW) (c3 W hW)) hS0 ?_
  refine tkCallK 3 47 29 #[.slice (some ⟨b, o, none⟩) E cap] (fun v _ => v = .agg (c8 (le4 (crc T))).toArray) (fuel := 2) rfl (by kernel_rfl) (by kernel_rfl) (by kernel_rfl) (fun _ => by kernel_rfl) hS0 C29 ?_
  intro v2 w2 r2 s2 t2
  subst r2
  refine tk 11 55 (.bool false) (fuel := 1) rfl (by kernel_rfl) (by kernel_rfl) (by kernel_rfl) (by kernel_rfl) noPanic_false (by kernel_rfl) (fun _ _ => x_neq69f (x := .tmp 47) (y := .tmp 54) (p := le4 (crc T)) (q := [z0, z1, z2, z3]) (by kernel_rfl) (by kernel_rfl) (by kernel_rfl) rfl rfl hS6) t2 ?_
  refine tkCallK 12 56 30 #[.bool false, .int .i64 6] (fun v _ => v = .tuple #[]) (fuel := 0) rfl (by kernel_rfl) (by kernel_rfl) (by kernel_rfl) (fun _ => by kernel_rfl) t2 ((give_no _ rfl _ _).mono (fun e W' ⟨he, hb⟩ => ⟨_, he, rfl, by rw [hb]; exact After.refl _⟩)) ?_
  intro v3 w3 r3 s3 t3
  subst r3
  refine wpAnyH_done (by kernel_rfl) (NoPanic.normal ?_) _
  go_simp
  go_wp2
  have B3 : After w w3 := After.trans B1 t3
  have HT3 := HAT.out.after B3
  have hR3 : RowIs w3 w.heap.size 33 [.int .u8 0, .slice none 0 0] := (RowIs.new w 33 [.int .u8 0, .slice none 0 0]).below (After.trans B0.out t3) (by simp)
  have hk3 : ∀ W, After w W → W.cell? ⟨b, o, none⟩ = some (.int .u8 (k.toNat : Int)) := fun W hW => by
    obtain ⟨b', o', he, hc⟩ := (HAT.out.after hW) (by intro h; have := HN.out; rw [h] at this; simp at this; omega)
    cases he
    have := hc 0 (by rw [HN.out]; omega)
    have h0 : bs.getD 0 0 = k := HKD.out
    rwa [h0] at this
  obtain ⟨ST, hST⟩ : ∃ ST, 1 + KK = ST := ⟨_, rfl⟩
  have hST1 : (1 : Int) + (KK : Int) = (ST : Int) := by omega
  have hbd : ((bs.drop ST).take V).length = E - ST := by rw [List.length_take, List.length_drop, HN.out]; omega
  have C32 : ∀ W, After w W → Calls Try.prog 32 #[.slice (some ⟨b, o + ST, none⟩) (E - ST) (cap - ST)] W fun e w' => ∃ v, e = .returned v ∧ Own w' W.heap.size v ((bs.drop ST).take V) ∧ After W w' := fun W hW => by
    have := clone_any (some ⟨b, o + ST, none⟩) (cap - ST) ((bs.drop ST).take V) (by omega) W (((HAT.out.after hW).dropAt ST).take V)
    rw [hbd] at this
    exact this
  refine wp_region_noPanic ?_
  refine wp_region_held_drew (S := After w) (by kernel_rfl) (After.drew B3) ?_
  intro hS4
  have hR4 : RowIs w3.drew w.heap.size 33 [.int .u8 0, .slice none 0 0] := hR3
  refine tk 0 57 (.slice (some ⟨b, o, none⟩) n cap) (fuel := 12) rfl (by kernel_rfl) (by kernel_rfl) (by kernel_rfl) (by kernel_rfl) noPanic_false (by kernel_rfl) (fun _ _ => by kernel_rfl) hS4 ?_
  refine tk 1 58 (.pointer (some ⟨b, o, none⟩)) (fuel := 11) rfl (by kernel_rfl) (by kernel_rfl) (by kernel_rfl) (by kernel_rfl) noPanic_false (by kernel_rfl) (fun _ _ => x_index22 (x := .tmp 57) (y := .const (.int .i64 0)) (b := b) (off := o) (len := n) (cap := cap) (by kernel_rfl) (by kernel_rfl) (by kernel_rfl) hp) hS4 ?_
  refine tk 2 59 (.int .u8 (k.toNat : Int)) (fuel := 10) rfl (by kernel_rfl) (by kernel_rfl) (by kernel_rfl) (by kernel_rfl) noPanic_false (by kernel_rfl) (fun W hW => x_load5 (x := .tmp 58) (g := b) (p := o) (by kernel_rfl) (by kernel_rfl) (hk3 W hW)) hS4 ?_
  refine tk 3 60 (.slice (some ⟨b, o, none⟩) n cap) (fuel := 9) rfl (by kernel_rfl) (by kernel_rfl) (by kernel_rfl) (by kernel_rfl) noPanic_false (by kernel_rfl) (fun _ _ => by kernel_rfl) hS4 ?_
  refine tk 4 61 (.int .i64 (ST : Int)) (fuel := 8) rfl (by kernel_rfl) (by kernel_rfl) (by kernel_rfl) (by kernel_rfl) noPanic_false (by kernel_rfl) (fun _ _ => by rw [← hST1]; kernel_rfl) hS4 ?_
  refine tk 5 62 (.int .i64 (E : Int)) (fuel := 7) rfl (by kernel_rfl) (by kernel_rfl) (by kernel_rfl) (by kernel_rfl) noPanic_false (by kernel_rfl) (fun _ _ => by kernel_rfl) hS4 ?_
  refine tk 6 63 (.slice (some ⟨b, o + ST, none⟩) (E - ST) (cap - ST)) (fuel := 6) rfl (by kernel_rfl) (by kernel_rfl) (by kernel_rfl) (by kernel_rfl) noPanic_false (by kernel_rfl) (fun _ _ => x_lohi (x := .tmp 60) (y := .tmp 61) (z := .tmp 62) (b := b) (off := o) (len := n) (cap := cap) (lo := ST) (hi := E) (by kernel_rfl) (by kernel_rfl) (by kernel_rfl) (by kernel_rfl) (by omega) (by omega) (by omega)) hS4 ?_
  refine tk 9 66 (.int .i64 (E : Int)) (fuel := 5) rfl (by kernel_rfl) (by kernel_rfl) (by kernel_rfl) (by kernel_rfl) noPanic_false (by kernel_rfl) (fun _ _ => by kernel_rfl) hS4 ?_
  refine tk 10 67 (.int .i64 ((E + 4 : Nat) : Int)) (fuel := 4) rfl (by kernel_rfl) (by kernel_rfl) (by kernel_rfl) (by kernel_rfl) noPanic_false (by kernel_rfl) (fun _ _ => x_add4 (x := .tmp 66) (y := .const (.int .i64 4)) (n := E) (by kernel_rfl) (by kernel_rfl) (by kernel_rfl) (by omega)) hS4 ?_
  refine tkCallK 7 64 32 #[.slice (some ⟨b, o + ST, none⟩) (E - ST) (cap - ST)] (fun v w' => Own w' w3.drew.heap.size v ((bs.drop ST).take V)) (fuel := 3) rfl (by kernel_rfl) (by kernel_rfl) (by kernel_rfl) (fun _ => by kernel_rfl) hS4 (C32 w3.drew hS4) ?_
  intro v5 w5 r5 s5 t5
  have hR5 : RowIs w5 w.heap.size 33 [.int .u8 0, .slice none 0 0] := hR4.below s5 hR4.lt
  obtain ⟨a5, c5, hv5, _, _, _⟩ := Own.at r5
  rw [hbd] at hv5
  subst hv5
  refine tk 8 65 (.agg #[.int .u8 (k.toNat : Int), (.slice a5 (E - ST) c5)]) (fuel := 2) rfl (by kernel_rfl) (by kernel_rfl) (by kernel_rfl) (by kernel_rfl) noPanic_false (by kernel_rfl) (fun _ _ => by kernel_rfl) t5 ?_
  refine tkStore 11 w.heap.size 33 (.tmp 2) (.tmp 65) #[.int .u8 (k.toNat : Int), (.slice a5 (E - ST) c5)] #[.int .u8 0, .slice none 0 0] 33 (fuel := 1) rfl (by kernel_rfl) (by kernel_rfl) (by kernel_rfl) (by kernel_rfl) (by kernel_rfl) (by kernel_rfl) hR5 size33 rfl (by kernel_rfl) (Below.row t5 (Nat.le_refl _) _) ?_
  refine tk 12 3 (.int .i64 ((E + 4 : Nat) : Int)) (fuel := 0) rfl (by kernel_rfl) (by kernel_rfl) (by kernel_rfl) (by kernel_rfl) noPanic_false (by kernel_rfl) (fun _ _ => by kernel_rfl) (Below.row t5 (Nat.le_refl _) _) ?_
  refine wpAnyH_done (by kernel_rfl) (NoPanic.normal ?_) _
  have hR6 : RowIs (w5.setRow w.heap.size #[.int .u8 (k.toNat : Int), (.slice a5 (E - ST) c5)]) w.heap.size 33 [.int .u8 (k.toNat : Int), (.slice a5 (E - ST) c5)] := hR5.setRow [.int .u8 (k.toNat : Int), (.slice a5 (E - ST) c5)]
  have h60 := hR6.cell (j := 0) rfl
  have h61 := hR6.cell (j := 1) rfl
  have HO6 : Own (w5.setRow w.heap.size #[.int .u8 (k.toNat : Int), (.slice a5 (E - ST) c5)]) w.heap.size (.slice a5 (E - ST) c5) ((bs.drop ST).take V) := Own.mono (Own.keep r5 (fun j hj => Go.setRow_other w5 w.heap.size j _ (by have := (World.ownsRow.lt r5 j hj).1; have := hR4.lt; omega))) (by have := hR4.lt; omega)
  have HB6 : After w (w5.setRow w.heap.size #[.int .u8 (k.toNat : Int), (.slice a5 (E - ST) c5)]) := Below.row t5 (Nat.le_refl _) _
  generalize hW6 : w5.setRow w.heap.size #[.int .u8 (k.toNat : Int), (.slice a5 (E - ST) c5)] = w6 at h60 h61 HO6 HB6 ⊢
  have HO7 := show Hid _ from HO6
  have HB7 := show Hid _ from HB6
  clear hW6 hR6 HO6 HB6
  go_simp
  go_wp2
  exact bodyPost_ret (v := .tuple #[.agg #[.int .u8 (k.toNat : Int), (.slice a5 (E - ST) c5)], .int .i64 ((E + 4 : Nat) : Int)]) (by simp [results, Try.results27, go_sem, h60, h61]) rfl ⟨_, by rw [hE], by rw [hST]; exact HO7.out, HB7.out⟩
end Go.Proofs.Ytjmjianilcdphaa