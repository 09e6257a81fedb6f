/-
  THE WALK OF stemmalaw03.ColumnOnly.
-/
import Derived.Test.YtjmflggnnchojaaOnlyMath
namespace Go.Proofs.Ytjmflggnnchojaa
open Go.RowKit Leb
theorem awake_ex (w : World) : Calls Try.prog 15 #[] w fun e w' => ∃ v, e = .returned v ∧ v = .bool true ∧ Below w.heap.size w w' :=
  (awake_any w).mono (fun _ _ ⟨he, hb⟩ => ⟨_, he, rfl, hb⟩)
theorem runs_at (ao : Option Addr) (cap : Nat) (l : List Int) (hl : ∀ x ∈ l, -9223372036854775808 ≤ x ∧ x ≤ 9223372036854775807) (hn : l.length ≤ 65536) (w : World) (hI : IntsAt w ao l) :
    Calls Try.prog 10 #[.slice ao l.length cap] w fun e W' => ∃ v, e = .returned v ∧ Own W' w.heap.size v (runsB l) ∧ After w W' :=
  runs_any ao cap l hl (by omega) w hI (fun a ha hne => by
    obtain ⟨b, o, he, hc⟩ := hI hne
    rw [he] at ha
    cases ha
    exact block_lt_of_cell (hc 0 (List.length_pos_iff.2 hne)))
theorem flags_at (ao : Option Addr) (cap : Nat) (l : List Bool) (hn : l.length ≤ 65536) (w : World) (hI : BoolsAt w ao l) :
    Calls Try.prog 16 #[.slice ao l.length cap] w fun e W' => ∃ v, e = .returned v ∧ Own W' w.heap.size v (flagsB l) ∧ After w W' :=
  flags_any ao cap l (by omega) w hI (fun a ha hne => by
    obtain ⟨b, o, he, hc⟩ := hI hne
    rw [he] at ha
    cases ha
    exact block_lt_of_cell (hc 0 (List.length_pos_iff.2 hne)))
set_option maxRecDepth 100000 in
set_option maxHeartbeats 800000 in
theorem only_11 (b o : Nat) (cap : Nat) (bs : List UInt8) (hcap : bs.length ≤ cap) (w : World) (hat : BytesAt w (some ⟨b, o, none⟩) bs) (l D : List Int) (z : List Bool) (u k : Nat) (hl : ∀ x ∈ l, -9223372036854775808 ≤ x ∧ x ≤ 9223372036854775807) (hln : l.length ≤ 65536) (hDn : D.length ≤ 1048575) (hzn : z.length ≤ 65536) (hu : u ≤ bs.length) (hU : runsB l = bs.take u) (hI : runsB (diffs D) = bs.take u) (hk : k ≤ bs.length) (hT : flagsB z = bs.take k)
    (c1 : ∀ w, BytesAt w (some ⟨b, o, none⟩) bs → Calls Try.prog 20 #[.slice (some ⟨b, o, none⟩) bs.length cap, .int .i64 65536] w fun e w' => ∃ a c, e = .returned (.tuple #[.slice a l.length c, .int .i64 (u : Int), .int .i64 0]) ∧ IntsAt w' a l ∧ After w w')
    (c2 : ∀ w, BytesAt w (some ⟨b, o, none⟩) bs → Calls Try.prog 22 #[.slice (some ⟨b, o, none⟩) bs.length cap, .int .i64 65536] w fun e w' => ∃ a c, e = .returned (.tuple #[.slice a D.length c, .int .i64 (u : Int), .int .i64 0]) ∧ IntsAt w' a D ∧ After w w')
    (c3 : ∀ w, BytesAt w (some ⟨b, o, none⟩) bs → Calls Try.prog 18 #[.slice (some ⟨b, o, none⟩) bs.length cap, .int .i64 65536] w fun e w' => ∃ a c, e = .returned (.tuple #[.slice a z.length c, .int .i64 (k : Int), .int .i64 0]) ∧ BoolsAt w' a z ∧ After w w') :
    Calls Try.prog 8 #[.slice (some ⟨b, o, none⟩) bs.length cap] w fun e w' => e = .returned (.bool true) ∧ Below w.heap.size w w' := by
  have _u : _ ∧ _ ∧ _ ∧ _ ∧ _ := ⟨hl, hln, hDn, hzn, hcap⟩
  clear _u
  have HAT : Hid (BytesAt w (some ⟨b, o, none⟩) bs) := hat
  have C1 := show Hid _ from c1
  have C2 := show Hid _ from c2
  have C3 := show Hid _ from c3
  have HL : Hid (∀ x ∈ l, -9223372036854775808 ≤ x ∧ x ≤ 9223372036854775807) := hl
  clear hat c1 c2 c3 hl
  go_enter Try.func8, Try.ntmps8
  go_wp2_with (first
    | (go_at_call 20; refine (C1.out _ HAT.out).mono ?_; rintro e w1 ⟨ax, cx, rfl, hx1, hb1⟩; have HX1 : Hid (IntsAt w1 ax l) := hx1; have B1 : Hid (After w w1) := hb1; clear hx1 hb1)
    | (go_at_call 22; refine (C2.out _ (HAT.out.after B1.out)).mono ?_; rintro e w2 ⟨ay, cy, rfl, hy2, hb2⟩; have HY2 : Hid (IntsAt w2 ay D) := hy2; have HX2 : Hid (IntsAt w2 ax l) := HX1.out.after hb2; have B2 : Hid (After w w2) := After.trans B1.out hb2; clear hy2 hb2)
    | (go_at_call 18; refine (C3.out _ (HAT.out.after B2.out)).mono ?_; rintro e W0 ⟨az, cz, rfl, hz3, hb3⟩; have HZ : Hid (BoolsAt W0 az z) := hz3; have HX : Hid (IntsAt W0 ax l) := HX2.out.after hb3; have HY : Hid (IntsAt W0 ay D) := HY2.out.after hb3; have B3h : Hid (After w W0) := After.trans B2.out hb3; clear hz3 hb3))
  have hl := HL.out
  have B3 := B3h.out
  have HT3 := HAT.out.after B3
  have _u : _ ∧ _ ∧ _ ∧ _ := ⟨hl, HX, HY, HZ⟩
  clear _u
  refine wp_region_noPanic ?_
  refine wp_region_held_drew (S := After W0) (by kernel_rfl) (After.drew (After.refl W0)) ?_
  intro hS0
  have B0 : After w W0.drew := After.drew B3
  have HT0 := HT3.after hS0
  refine tk 0 30 (.int .i64 0) (fuel := 37) rfl (by kernel_rfl) (by kernel_rfl) (by kernel_rfl) (by kernel_rfl) noPanic_false (by kernel_rfl) (fun _ _ => by kernel_rfl) hS0 ?_
  refine tk 1 31 (.bool true) (fuel := 36) rfl (by kernel_rfl) (by kernel_rfl) (by kernel_rfl) (by kernel_rfl) noPanic_false (by kernel_rfl) (fun _ _ => by kernel_rfl) hS0 ?_
  refine tk 2 32 (.bool true) (fuel := 35) rfl (by kernel_rfl) (by kernel_rfl) (by kernel_rfl) (by kernel_rfl) noPanic_false (by kernel_rfl) (fun _ _ => by kernel_rfl) hS0 ?_
  refine tk 3 33 (.int .i64 (u : Int)) (fuel := 34) rfl (by kernel_rfl) (by kernel_rfl) (by kernel_rfl) (by kernel_rfl) noPanic_false (by kernel_rfl) (fun _ _ => by kernel_rfl) hS0 ?_
  refine tk 4 34 (.slice (some ⟨b, o, none⟩) bs.length cap) (fuel := 33) rfl (by kernel_rfl) (by kernel_rfl) (by kernel_rfl) (by kernel_rfl) noPanic_false (by kernel_rfl) (fun _ _ => by kernel_rfl) hS0 ?_
  refine tk 5 35 (.int .i64 (bs.length : Int)) (fuel := 32) rfl (by kernel_rfl) (by kernel_rfl) (by kernel_rfl) (by kernel_rfl) noPanic_false (by kernel_rfl) (fun _ _ => by kernel_rfl) hS0 ?_
  refine tk 6 36 (.bool false) (fuel := 31) rfl (by kernel_rfl) (by kernel_rfl) (by kernel_rfl) (by kernel_rfl) noPanic_false (by kernel_rfl) (fun _ _ => x_gtr (t := 3) (x := .tmp 33) (y := .tmp 35) (p := u) (q := bs.length) (by kernel_rfl) (by kernel_rfl) (by kernel_rfl) hu) hS0 ?_
  refine tk 7 37 (.bool false) (fuel := 30) rfl (by kernel_rfl) (by kernel_rfl) (by kernel_rfl) (by kernel_rfl) noPanic_false (by kernel_rfl) (fun _ _ => by kernel_rfl) hS0 ?_
  refine tk 8 38 (.slice ax l.length cx) (fuel := 29) rfl (by kernel_rfl) (by kernel_rfl) (by kernel_rfl) (by kernel_rfl) noPanic_false (by kernel_rfl) (fun _ _ => by kernel_rfl) hS0 ?_
  refine tk 11 41 (.slice (some ⟨b, o, none⟩) bs.length cap) (fuel := 28) rfl (by kernel_rfl) (by kernel_rfl) (by kernel_rfl) (by kernel_rfl) noPanic_false (by kernel_rfl) (fun _ _ => by kernel_rfl) hS0 ?_
  refine tk 12 42 (.int .i64 (u : Int)) (fuel := 27) rfl (by kernel_rfl) (by kernel_rfl) (by kernel_rfl) (by kernel_rfl) noPanic_false (by kernel_rfl) (fun _ _ => by kernel_rfl) hS0 ?_
  refine tk 13 43 (.slice (some ⟨b, o, none⟩) u cap) (fuel := 26) rfl (by kernel_rfl) (by kernel_rfl) (by kernel_rfl) (by kernel_rfl) noPanic_false (by kernel_rfl) (fun _ _ => x_slice (x := .tmp 41) (y := .tmp 42) (b := b) (off := o) (len := bs.length) (cap := cap) (k := u) (by kernel_rfl) (by kernel_rfl) (by kernel_rfl) (Nat.le_trans hu hcap)) hS0 ?_
  refine tk 14 44 (.string (strOf (bs.take u))) (fuel := 25) rfl (by kernel_rfl) (by kernel_rfl) (by kernel_rfl) (by kernel_rfl) noPanic_false (by kernel_rfl) (fun W hW => x_conv (x := .tmp 43) (by kernel_rfl) (by kernel_rfl) (conv_take cap u (HT3.after hW) hu)) hS0 ?_
  refine tkCall 9 39 10 #[.slice ax l.length cx] _ (fuel := 24) rfl (by kernel_rfl) (by kernel_rfl) (by kernel_rfl) (fun _ => by kernel_rfl) hS0 (runs_at ax cx l hl hln _ (HX.out.after hS0)) ?_
  intro p1v p1w p1r p1s
  have p1B : After w p1w := After.trans B0 p1s
  have p1T := HT0.after p1s
  refine tk 10 40 (.string (strOf (runsB l))) (fuel := 23) rfl (by kernel_rfl) (by kernel_rfl) (by kernel_rfl) (by kernel_rfl) noPanic_false (by kernel_rfl) (fun W hW => x_conv (x := .tmp 39) (by kernel_rfl) (by kernel_rfl) (Own.convA p1r hW)) (After.refl p1w) ?_
  refine tk 15 45 (.bool false) (fuel := 22) rfl (by kernel_rfl) (by kernel_rfl) (by kernel_rfl) (by kernel_rfl) noPanic_false (by kernel_rfl) (fun _ _ => x_streqf (x := .tmp 40) (y := .tmp 44) (s := strOf (runsB l)) (t := strOf (bs.take u)) (by kernel_rfl) (by kernel_rfl) (by kernel_rfl) (congrArg strOf hU)) (After.refl p1w) ?_
  refine tk 16 46 (.bool false) (fuel := 21) rfl (by kernel_rfl) (by kernel_rfl) (by kernel_rfl) (by kernel_rfl) noPanic_false (by kernel_rfl) (fun _ _ => by kernel_rfl) (After.refl p1w) ?_
  refine tk 17 47 (.bool false) (fuel := 20) rfl (by kernel_rfl) (by kernel_rfl) (by kernel_rfl) (by kernel_rfl) noPanic_false (by kernel_rfl) (fun _ _ => by kernel_rfl) (After.refl p1w) ?_
  refine tk 18 48 (.bool false) (fuel := 19) rfl (by kernel_rfl) (by kernel_rfl) (by kernel_rfl) (by kernel_rfl) noPanic_false (by kernel_rfl) (fun _ _ => by kernel_rfl) (After.refl p1w) ?_
  refine tk 19 49 (.int .i64 0) (fuel := 18) rfl (by kernel_rfl) (by kernel_rfl) (by kernel_rfl) (by kernel_rfl) noPanic_false (by kernel_rfl) (fun _ _ => by kernel_rfl) (After.refl p1w) ?_
  refine tk 20 50 (.bool true) (fuel := 17) rfl (by kernel_rfl) (by kernel_rfl) (by kernel_rfl) (by kernel_rfl) noPanic_false (by kernel_rfl) (fun _ _ => by kernel_rfl) (After.refl p1w) ?_
  refine tk 21 51 (.bool true) (fuel := 16) rfl (by kernel_rfl) (by kernel_rfl) (by kernel_rfl) (by kernel_rfl) noPanic_false (by kernel_rfl) (fun _ _ => by kernel_rfl) (After.refl p1w) ?_
  have Y1 := HY.out.after (After.trans hS0 p1s)
  refine tk 22 52 (.int .i64 (u : Int)) (fuel := 15) rfl (by kernel_rfl) (by kernel_rfl) (by kernel_rfl) (by kernel_rfl) noPanic_false (by kernel_rfl) (fun _ _ => by kernel_rfl) (After.refl p1w) ?_
  refine tk 23 53 (.slice (some ⟨b, o, none⟩) bs.length cap) (fuel := 14) rfl (by kernel_rfl) (by kernel_rfl) (by kernel_rfl) (by kernel_rfl) noPanic_false (by kernel_rfl) (fun _ _ => by kernel_rfl) (After.refl p1w) ?_
  refine tk 24 54 (.int .i64 (bs.length : Int)) (fuel := 13) rfl (by kernel_rfl) (by kernel_rfl) (by kernel_rfl) (by kernel_rfl) noPanic_false (by kernel_rfl) (fun _ _ => by kernel_rfl) (After.refl p1w) ?_
  refine tk 25 55 (.bool false) (fuel := 12) rfl (by kernel_rfl) (by kernel_rfl) (by kernel_rfl) (by kernel_rfl) noPanic_false (by kernel_rfl) (fun _ _ => x_gtr (t := 3) (x := .tmp 52) (y := .tmp 54) (p := u) (q := bs.length) (by kernel_rfl) (by kernel_rfl) (by kernel_rfl) hu) (After.refl p1w) ?_
  refine tk 26 56 (.bool false) (fuel := 11) rfl (by kernel_rfl) (by kernel_rfl) (by kernel_rfl) (by kernel_rfl) noPanic_false (by kernel_rfl) (fun _ _ => by kernel_rfl) (After.refl p1w) ?_
  refine tk 27 57 (.slice ay D.length cy) (fuel := 10) rfl (by kernel_rfl) (by kernel_rfl) (by kernel_rfl) (by kernel_rfl) noPanic_false (by kernel_rfl) (fun _ _ => by kernel_rfl) (After.refl p1w) ?_
  refine tk 30 60 (.slice (some ⟨b, o, none⟩) bs.length cap) (fuel := 9) rfl (by kernel_rfl) (by kernel_rfl) (by kernel_rfl) (by kernel_rfl) noPanic_false (by kernel_rfl) (fun _ _ => by kernel_rfl) (After.refl p1w) ?_
  refine tk 31 61 (.int .i64 (u : Int)) (fuel := 8) rfl (by kernel_rfl) (by kernel_rfl) (by kernel_rfl) (by kernel_rfl) noPanic_false (by kernel_rfl) (fun _ _ => by kernel_rfl) (After.refl p1w) ?_
  refine tk 32 62 (.slice (some ⟨b, o, none⟩) u cap) (fuel := 7) rfl (by kernel_rfl) (by kernel_rfl) (by kernel_rfl) (by kernel_rfl) noPanic_false (by kernel_rfl) (fun _ _ => x_slice (x := .tmp 60) (y := .tmp 61) (b := b) (off := o) (len := bs.length) (cap := cap) (k := u) (by kernel_rfl) (by kernel_rfl) (by kernel_rfl) (Nat.le_trans hu hcap)) (After.refl p1w) ?_
  refine tk 33 63 (.string (strOf (bs.take u))) (fuel := 6) rfl (by kernel_rfl) (by kernel_rfl) (by kernel_rfl) (by kernel_rfl) noPanic_false (by kernel_rfl) (fun W hW => x_conv (x := .tmp 62) (by kernel_rfl) (by kernel_rfl) (conv_take cap u (p1T.after hW) hu)) (After.refl p1w) ?_
  refine tkCall 28 58 12 #[.slice ay D.length cy] _ (fuel := 5) rfl (by kernel_rfl) (by kernel_rfl) (by kernel_rfl) (fun _ => by kernel_rfl) (After.refl p1w) (deltas_any ay cy D hDn _ Y1) ?_
  intro p2v p2w p2r p2s
  have p2B : After w p2w := After.trans p1B p2s
  have p2T := p1T.after p2s
  refine tk 29 59 (.string (strOf (runsB (diffs D)))) (fuel := 4) rfl (by kernel_rfl) (by kernel_rfl) (by kernel_rfl) (by kernel_rfl) noPanic_false (by kernel_rfl) (fun W hW => x_conv (x := .tmp 58) (by kernel_rfl) (by kernel_rfl) (Own.convA p2r hW)) (After.refl p2w) ?_
  refine tk 34 64 (.bool false) (fuel := 3) rfl (by kernel_rfl) (by kernel_rfl) (by kernel_rfl) (by kernel_rfl) noPanic_false (by kernel_rfl) (fun _ _ => x_streqf (x := .tmp 59) (y := .tmp 63) (s := strOf (runsB (diffs D))) (t := strOf (bs.take u)) (by kernel_rfl) (by kernel_rfl) (by kernel_rfl) (congrArg strOf hI)) (After.refl p2w) ?_
  refine tk 35 65 (.bool false) (fuel := 2) rfl (by kernel_rfl) (by kernel_rfl) (by kernel_rfl) (by kernel_rfl) noPanic_false (by kernel_rfl) (fun _ _ => by kernel_rfl) (After.refl p2w) ?_
  refine tk 36 66 (.bool false) (fuel := 1) rfl (by kernel_rfl) (by kernel_rfl) (by kernel_rfl) (by kernel_rfl) noPanic_false (by kernel_rfl) (fun _ _ => by kernel_rfl) (After.refl p2w) ?_
  refine tk 37 67 (.bool false) (fuel := 0) rfl (by kernel_rfl) (by kernel_rfl) (by kernel_rfl) (by kernel_rfl) noPanic_false (by kernel_rfl) (fun _ _ => by kernel_rfl) (After.refl p2w) ?_
  have Z2 := HZ.out.after (After.trans (After.trans hS0 p1s) p2s)
  refine wpAnyH_done (by kernel_rfl) (NoPanic.normal ?_) _
  go_simp
  go_wp2
  refine wp_region_noPanic ?_
  refine wp_region_held_drew (S := After (p2w)) (by kernel_rfl) (After.drew (After.refl (p2w))) ?_
  intro hS6
  have B6 : After w (p2w).drew := After.drew p2B
  have T6 := p2T.after hS6
  refine tk 0 68 (.int .i64 0) (fuel := 21) rfl (by kernel_rfl) (by kernel_rfl) (by kernel_rfl) (by kernel_rfl) noPanic_false (by kernel_rfl) (fun _ _ => by kernel_rfl) hS6 ?_
  refine tk 1 69 (.bool false) (fuel := 20) rfl (by kernel_rfl) (by kernel_rfl) (by kernel_rfl) (by kernel_rfl) noPanic_false (by kernel_rfl) (fun _ _ => by kernel_rfl) hS6 ?_
  refine tk 2 70 (.bool false) (fuel := 19) rfl (by kernel_rfl) (by kernel_rfl) (by kernel_rfl) (by kernel_rfl) noPanic_false (by kernel_rfl) (fun _ _ => by kernel_rfl) hS6 ?_
  refine tk 3 71 (.int .i64 (k : Int)) (fuel := 18) rfl (by kernel_rfl) (by kernel_rfl) (by kernel_rfl) (by kernel_rfl) noPanic_false (by kernel_rfl) (fun _ _ => by kernel_rfl) hS6 ?_
  refine tk 4 72 (.slice (some ⟨b, o, none⟩) bs.length cap) (fuel := 17) rfl (by kernel_rfl) (by kernel_rfl) (by kernel_rfl) (by kernel_rfl) noPanic_false (by kernel_rfl) (fun _ _ => by kernel_rfl) hS6 ?_
  refine tk 5 73 (.int .i64 (bs.length : Int)) (fuel := 16) rfl (by kernel_rfl) (by kernel_rfl) (by kernel_rfl) (by kernel_rfl) noPanic_false (by kernel_rfl) (fun _ _ => by kernel_rfl) hS6 ?_
  refine tk 6 74 (.bool true) (fuel := 15) rfl (by kernel_rfl) (by kernel_rfl) (by kernel_rfl) (by kernel_rfl) noPanic_false (by kernel_rfl) (fun _ _ => x_leq (t := 3) (x := .tmp 71) (y := .tmp 73) (p := k) (q := bs.length) (by kernel_rfl) (by kernel_rfl) (by kernel_rfl) hk) hS6 ?_
  refine tk 7 75 (.bool true) (fuel := 14) rfl (by kernel_rfl) (by kernel_rfl) (by kernel_rfl) (by kernel_rfl) noPanic_false (by kernel_rfl) (fun _ _ => by kernel_rfl) hS6 ?_
  refine tk 8 76 (.slice az z.length cz) (fuel := 13) rfl (by kernel_rfl) (by kernel_rfl) (by kernel_rfl) (by kernel_rfl) noPanic_false (by kernel_rfl) (fun _ _ => by kernel_rfl) hS6 ?_
  refine tk 11 79 (.slice (some ⟨b, o, none⟩) bs.length cap) (fuel := 12) rfl (by kernel_rfl) (by kernel_rfl) (by kernel_rfl) (by kernel_rfl) noPanic_false (by kernel_rfl) (fun _ _ => by kernel_rfl) hS6 ?_
  refine tk 12 80 (.int .i64 (k : Int)) (fuel := 11) rfl (by kernel_rfl) (by kernel_rfl) (by kernel_rfl) (by kernel_rfl) noPanic_false (by kernel_rfl) (fun _ _ => by kernel_rfl) hS6 ?_
  refine tk 13 81 (.slice (some ⟨b, o, none⟩) k cap) (fuel := 10) rfl (by kernel_rfl) (by kernel_rfl) (by kernel_rfl) (by kernel_rfl) noPanic_false (by kernel_rfl) (fun _ _ => x_slice (x := .tmp 79) (y := .tmp 80) (b := b) (off := o) (len := bs.length) (cap := cap) (k := k) (by kernel_rfl) (by kernel_rfl) (by kernel_rfl) (Nat.le_trans hk hcap)) hS6 ?_
  refine tk 14 82 (.string (strOf (bs.take k))) (fuel := 9) rfl (by kernel_rfl) (by kernel_rfl) (by kernel_rfl) (by kernel_rfl) noPanic_false (by kernel_rfl) (fun W hW => x_conv (x := .tmp 81) (by kernel_rfl) (by kernel_rfl) (conv_take cap k (p2T.after hW) hk)) hS6 ?_
  refine tkCall 9 77 16 #[.slice az z.length cz] _ (fuel := 8) rfl (by kernel_rfl) (by kernel_rfl) (by kernel_rfl) (fun _ => by kernel_rfl) hS6 (flags_at az cz z hzn _ (Z2.after hS6)) ?_
  intro p3v p3w p3r p3s
  have p3B : After w p3w := After.trans B6 p3s
  refine tk 10 78 (.string (strOf (flagsB z))) (fuel := 7) rfl (by kernel_rfl) (by kernel_rfl) (by kernel_rfl) (by kernel_rfl) noPanic_false (by kernel_rfl) (fun W hW => x_conv (x := .tmp 77) (by kernel_rfl) (by kernel_rfl) (Own.convA p3r hW)) (After.refl p3w) ?_
  refine tk 15 83 (.bool true) (fuel := 6) rfl (by kernel_rfl) (by kernel_rfl) (by kernel_rfl) (by kernel_rfl) noPanic_false (by kernel_rfl) (fun _ _ => x_streq (x := .tmp 78) (y := .tmp 82) (s := strOf (flagsB z)) (t := strOf (bs.take k)) (by kernel_rfl) (by kernel_rfl) (by kernel_rfl) (congrArg strOf hT)) (After.refl p3w) ?_
  refine tk 16 84 (.bool true) (fuel := 5) rfl (by kernel_rfl) (by kernel_rfl) (by kernel_rfl) (by kernel_rfl) noPanic_false (by kernel_rfl) (fun _ _ => by kernel_rfl) (After.refl p3w) ?_
  refine tk 17 85 (.bool true) (fuel := 4) rfl (by kernel_rfl) (by kernel_rfl) (by kernel_rfl) (by kernel_rfl) noPanic_false (by kernel_rfl) (fun _ _ => by kernel_rfl) (After.refl p3w) ?_
  refine tk 18 86 (.bool true) (fuel := 3) rfl (by kernel_rfl) (by kernel_rfl) (by kernel_rfl) (by kernel_rfl) noPanic_false (by kernel_rfl) (fun _ _ => by kernel_rfl) (After.refl p3w) ?_
  refine tkCall 19 87 15 #[] _ (fuel := 2) rfl (by kernel_rfl) (by kernel_rfl) (by kernel_rfl) (fun _ => by kernel_rfl) (After.refl p3w) (awake_ex _) ?_
  rintro p4v p4w rfl p4s
  have p4B : After w p4w := After.trans p3B p4s
  refine tk 20 88 (.bool true) (fuel := 1) rfl (by kernel_rfl) (by kernel_rfl) (by kernel_rfl) (by kernel_rfl) noPanic_false (by kernel_rfl) (fun _ _ => by kernel_rfl) (After.refl p4w) ?_
  refine tk 21 2 (.bool true) (fuel := 0) rfl (by kernel_rfl) (by kernel_rfl) (by kernel_rfl) (by kernel_rfl) noPanic_false (by kernel_rfl) (fun _ _ => by kernel_rfl) (After.refl p4w) ?_
  refine wpAnyH_done (by kernel_rfl) (NoPanic.normal ?_) _
  go_simp
  go_wp2
  go_ret
  exact ⟨rfl, p4B⟩
set_option maxRecDepth 100000 in
set_option maxHeartbeats 800000 in
theorem only_10 (b o : Nat) (cap : Nat) (bs : List UInt8) (hcap : bs.length ≤ cap) (w : World) (hat : BytesAt w (some ⟨b, o, none⟩) bs) (l D : List Int) (z : List Bool) (u k : Nat) (hl : ∀ x ∈ l, -9223372036854775808 ≤ x ∧ x ≤ 9223372036854775807) (hln : l.length ≤ 65536) (hDn : D.length ≤ 1048575) (hzn : z.length ≤ 65536) (hu : u ≤ bs.length) (hU : runsB l = bs.take u) (hI : runsB (diffs D) = bs.take u) (q3 : Nat) (hq3 : ¬ q3 = 0)
    (c1 : ∀ w, BytesAt w (some ⟨b, o, none⟩) bs → Calls Try.prog 20 #[.slice (some ⟨b, o, none⟩) bs.length cap, .int .i64 65536] w fun e w' => ∃ a c, e = .returned (.tuple #[.slice a l.length c, .int .i64 (u : Int), .int .i64 0]) ∧ IntsAt w' a l ∧ After w w')
    (c2 : ∀ w, BytesAt w (some ⟨b, o, none⟩) bs → Calls Try.prog 22 #[.slice (some ⟨b, o, none⟩) bs.length cap, .int .i64 65536] w fun e w' => ∃ a c, e = .returned (.tuple #[.slice a D.length c, .int .i64 (u : Int), .int .i64 0]) ∧ IntsAt w' a D ∧ After w w')
    (c3 : ∀ w, BytesAt w (some ⟨b, o, none⟩) bs → Calls Try.prog 18 #[.slice (some ⟨b, o, none⟩) bs.length cap, .int .i64 65536] w fun e w' => ∃ a c, e = .returned (.tuple #[.slice a z.length c, .int .i64 (k : Int), .int .i64 (q3 : Int)]) ∧ BoolsAt w' a z ∧ After w w') :
    Calls Try.prog 8 #[.slice (some ⟨b, o, none⟩) bs.length cap] w fun e w' => e = .returned (.bool true) ∧ Below w.heap.size w w' := by
  have _u : _ ∧ _ ∧ _ ∧ _ ∧ _ := ⟨hl, hln, hDn, hzn, hcap⟩
  clear _u
  have HAT : Hid (BytesAt w (some ⟨b, o, none⟩) bs) := hat
  have C1 := show Hid _ from c1
  have C2 := show Hid _ from c2
  have C3 := show Hid _ from c3
  have HL : Hid (∀ x ∈ l, -9223372036854775808 ≤ x ∧ x ≤ 9223372036854775807) := hl
  clear hat c1 c2 c3 hl
  go_enter Try.func8, Try.ntmps8
  go_wp2_with (first
    | (go_at_call 20; refine (C1.out _ HAT.out).mono ?_; rintro e w1 ⟨ax, cx, rfl, hx1, hb1⟩; have HX1 : Hid (IntsAt w1 ax l) := hx1; have B1 : Hid (After w w1) := hb1; clear hx1 hb1)
    | (go_at_call 22; refine (C2.out _ (HAT.out.after B1.out)).mono ?_; rintro e w2 ⟨ay, cy, rfl, hy2, hb2⟩; have HY2 : Hid (IntsAt w2 ay D) := hy2; have HX2 : Hid (IntsAt w2 ax l) := HX1.out.after hb2; have B2 : Hid (After w w2) := After.trans B1.out hb2; clear hy2 hb2)
    | (go_at_call 18; refine (C3.out _ (HAT.out.after B2.out)).mono ?_; rintro e W0 ⟨az, cz, rfl, hz3, hb3⟩; have HZ : Hid (BoolsAt W0 az z) := hz3; have HX : Hid (IntsAt W0 ax l) := HX2.out.after hb3; have HY : Hid (IntsAt W0 ay D) := HY2.out.after hb3; have B3h : Hid (After w W0) := After.trans B2.out hb3; clear hz3 hb3))
  have hl := HL.out
  have B3 := B3h.out
  have HT3 := HAT.out.after B3
  have _u : _ ∧ _ ∧ _ ∧ _ := ⟨hl, HX, HY, HZ⟩
  clear _u
  refine wp_region_noPanic ?_
  refine wp_region_held_drew (S := After W0) (by kernel_rfl) (After.drew (After.refl W0)) ?_
  intro hS0
  have B0 : After w W0.drew := After.drew B3
  have HT0 := HT3.after hS0
  refine tk 0 30 (.int .i64 0) (fuel := 37) rfl (by kernel_rfl) (by kernel_rfl) (by kernel_rfl) (by kernel_rfl) noPanic_false (by kernel_rfl) (fun _ _ => by kernel_rfl) hS0 ?_
  refine tk 1 31 (.bool true) (fuel := 36) rfl (by kernel_rfl) (by kernel_rfl) (by kernel_rfl) (by kernel_rfl) noPanic_false (by kernel_rfl) (fun _ _ => by kernel_rfl) hS0 ?_
  refine tk 2 32 (.bool true) (fuel := 35) rfl (by kernel_rfl) (by kernel_rfl) (by kernel_rfl) (by kernel_rfl) noPanic_false (by kernel_rfl) (fun _ _ => by kernel_rfl) hS0 ?_
  refine tk 3 33 (.int .i64 (u : Int)) (fuel := 34) rfl (by kernel_rfl) (by kernel_rfl) (by kernel_rfl) (by kernel_rfl) noPanic_false (by kernel_rfl) (fun _ _ => by kernel_rfl) hS0 ?_
  refine tk 4 34 (.slice (some ⟨b, o, none⟩) bs.length cap) (fuel := 33) rfl (by kernel_rfl) (by kernel_rfl) (by kernel_rfl) (by kernel_rfl) noPanic_false (by kernel_rfl) (fun _ _ => by kernel_rfl) hS0 ?_
  refine tk 5 35 (.int .i64 (bs.length : Int)) (fuel := 32) rfl (by kernel_rfl) (by kernel_rfl) (by kernel_rfl) (by kernel_rfl) noPanic_false (by kernel_rfl) (fun _ _ => by kernel_rfl) hS0 ?_
  refine tk 6 36 (.bool false) (fuel := 31) rfl (by kernel_rfl) (by kernel_rfl) (by kernel_rfl) (by kernel_rfl) noPanic_false (by kernel_rfl) (fun _ _ => x_gtr (t := 3) (x := .tmp 33) (y := .tmp 35) (p := u) (q := bs.length) (by kernel_rfl) (by kernel_rfl) (by kernel_rfl) hu) hS0 ?_
  refine tk 7 37 (.bool false) (fuel := 30) rfl (by kernel_rfl) (by kernel_rfl) (by kernel_rfl) (by kernel_rfl) noPanic_false (by kernel_rfl) (fun _ _ => by kernel_rfl) hS0 ?_
  refine tk 8 38 (.slice ax l.length cx) (fuel := 29) rfl (by kernel_rfl) (by kernel_rfl) (by kernel_rfl) (by kernel_rfl) noPanic_false (by kernel_rfl) (fun _ _ => by kernel_rfl) hS0 ?_
  refine tk 11 41 (.slice (some ⟨b, o, none⟩) bs.length cap) (fuel := 28) rfl (by kernel_rfl) (by kernel_rfl) (by kernel_rfl) (by kernel_rfl) noPanic_false (by kernel_rfl) (fun _ _ => by kernel_rfl) hS0 ?_
  refine tk 12 42 (.int .i64 (u : Int)) (fuel := 27) rfl (by kernel_rfl) (by kernel_rfl) (by kernel_rfl) (by kernel_rfl) noPanic_false (by kernel_rfl) (fun _ _ => by kernel_rfl) hS0 ?_
  refine tk 13 43 (.slice (some ⟨b, o, none⟩) u cap) (fuel := 26) rfl (by kernel_rfl) (by kernel_rfl) (by kernel_rfl) (by kernel_rfl) noPanic_false (by kernel_rfl) (fun _ _ => x_slice (x := .tmp 41) (y := .tmp 42) (b := b) (off := o) (len := bs.length) (cap := cap) (k := u) (by kernel_rfl) (by kernel_rfl) (by kernel_rfl) (Nat.le_trans hu hcap)) hS0 ?_
  refine tk 14 44 (.string (strOf (bs.take u))) (fuel := 25) rfl (by kernel_rfl) (by kernel_rfl) (by kernel_rfl) (by kernel_rfl) noPanic_false (by kernel_rfl) (fun W hW => x_conv (x := .tmp 43) (by kernel_rfl) (by kernel_rfl) (conv_take cap u (HT3.after hW) hu)) hS0 ?_
  refine tkCall 9 39 10 #[.slice ax l.length cx] _ (fuel := 24) rfl (by kernel_rfl) (by kernel_rfl) (by kernel_rfl) (fun _ => by kernel_rfl) hS0 (runs_at ax cx l hl hln _ (HX.out.after hS0)) ?_
  intro p1v p1w p1r p1s
  have p1B : After w p1w := After.trans B0 p1s
  have p1T := HT0.after p1s
  refine tk 10 40 (.string (strOf (runsB l))) (fuel := 23) rfl (by kernel_rfl) (by kernel_rfl) (by kernel_rfl) (by kernel_rfl) noPanic_false (by kernel_rfl) (fun W hW => x_conv (x := .tmp 39) (by kernel_rfl) (by kernel_rfl) (Own.convA p1r hW)) (After.refl p1w) ?_
  refine tk 15 45 (.bool false) (fuel := 22) rfl (by kernel_rfl) (by kernel_rfl) (by kernel_rfl) (by kernel_rfl) noPanic_false (by kernel_rfl) (fun _ _ => x_streqf (x := .tmp 40) (y := .tmp 44) (s := strOf (runsB l)) (t := strOf (bs.take u)) (by kernel_rfl) (by kernel_rfl) (by kernel_rfl) (congrArg strOf hU)) (After.refl p1w) ?_
  refine tk 16 46 (.bool false) (fuel := 21) rfl (by kernel_rfl) (by kernel_rfl) (by kernel_rfl) (by kernel_rfl) noPanic_false (by kernel_rfl) (fun _ _ => by kernel_rfl) (After.refl p1w) ?_
  refine tk 17 47 (.bool false) (fuel := 20) rfl (by kernel_rfl) (by kernel_rfl) (by kernel_rfl) (by kernel_rfl) noPanic_false (by kernel_rfl) (fun _ _ => by kernel_rfl) (After.refl p1w) ?_
  refine tk 18 48 (.bool false) (fuel := 19) rfl (by kernel_rfl) (by kernel_rfl) (by kernel_rfl) (by kernel_rfl) noPanic_false (by kernel_rfl) (fun _ _ => by kernel_rfl) (After.refl p1w) ?_
  refine tk 19 49 (.int .i64 0) (fuel := 18) rfl (by kernel_rfl) (by kernel_rfl) (by kernel_rfl) (by kernel_rfl) noPanic_false (by kernel_rfl) (fun _ _ => by kernel_rfl) (After.refl p1w) ?_
  refine tk 20 50 (.bool true) (fuel := 17) rfl (by kernel_rfl) (by kernel_rfl) (by kernel_rfl) (by kernel_rfl) noPanic_false (by kernel_rfl) (fun _ _ => by kernel_rfl) (After.refl p1w) ?_
  refine tk 21 51 (.bool true) (fuel := 16) rfl (by kernel_rfl) (by kernel_rfl) (by kernel_rfl) (by kernel_rfl) noPanic_false (by kernel_rfl) (fun _ _ => by kernel_rfl) (After.refl p1w) ?_
  have Y1 := HY.out.after (After.trans hS0 p1s)
  refine tk 22 52 (.int .i64 (u : Int)) (fuel := 15) rfl (by kernel_rfl) (by kernel_rfl) (by kernel_rfl) (by kernel_rfl) noPanic_false (by kernel_rfl) (fun _ _ => by kernel_rfl) (After.refl p1w) ?_
  refine tk 23 53 (.slice (some ⟨b, o, none⟩) bs.length cap) (fuel := 14) rfl (by kernel_rfl) (by kernel_rfl) (by kernel_rfl) (by kernel_rfl) noPanic_false (by kernel_rfl) (fun _ _ => by kernel_rfl) (After.refl p1w) ?_
  refine tk 24 54 (.int .i64 (bs.length : Int)) (fuel := 13) rfl (by kernel_rfl) (by kernel_rfl) (by kernel_rfl) (by kernel_rfl) noPanic_false (by kernel_rfl) (fun _ _ => by kernel_rfl) (After.refl p1w) ?_
  refine tk 25 55 (.bool false) (fuel := 12) rfl (by kernel_rfl) (by kernel_rfl) (by kernel_rfl) (by kernel_rfl) noPanic_false (by kernel_rfl) (fun _ _ => x_gtr (t := 3) (x := .tmp 52) (y := .tmp 54) (p := u) (q := bs.length) (by kernel_rfl) (by kernel_rfl) (by kernel_rfl) hu) (After.refl p1w) ?_
  refine tk 26 56 (.bool false) (fuel := 11) rfl (by kernel_rfl) (by kernel_rfl) (by kernel_rfl) (by kernel_rfl) noPanic_false (by kernel_rfl) (fun _ _ => by kernel_rfl) (After.refl p1w) ?_
  refine tk 27 57 (.slice ay D.length cy) (fuel := 10) rfl (by kernel_rfl) (by kernel_rfl) (by kernel_rfl) (by kernel_rfl) noPanic_false (by kernel_rfl) (fun _ _ => by kernel_rfl) (After.refl p1w) ?_
  refine tk 30 60 (.slice (some ⟨b, o, none⟩) bs.length cap) (fuel := 9) rfl (by kernel_rfl) (by kernel_rfl) (by kernel_rfl) (by kernel_rfl) noPanic_false (by kernel_rfl) (fun _ _ => by kernel_rfl) (After.refl p1w) ?_
  refine tk 31 61 (.int .i64 (u : Int)) (fuel := 8) rfl (by kernel_rfl) (by kernel_rfl) (by kernel_rfl) (by kernel_rfl) noPanic_false (by kernel_rfl) (fun _ _ => by kernel_rfl) (After.refl p1w) ?_
  refine tk 32 62 (.slice (some ⟨b, o, none⟩) u cap) (fuel := 7) rfl (by kernel_rfl) (by kernel_rfl) (by kernel_rfl) (by kernel_rfl) noPanic_false (by kernel_rfl) (fun _ _ => x_slice (x := .tmp 60) (y := .tmp 61) (b := b) (off := o) (len := bs.length) (cap := cap) (k := u) (by kernel_rfl) (by kernel_rfl) (by kernel_rfl) (Nat.le_trans hu hcap)) (After.refl p1w) ?_
  refine tk 33 63 (.string (strOf (bs.take u))) (fuel := 6) rfl (by kernel_rfl) (by kernel_rfl) (by kernel_rfl) (by kernel_rfl) noPanic_false (by kernel_rfl) (fun W hW => x_conv (x := .tmp 62) (by kernel_rfl) (by kernel_rfl) (conv_take cap u (p1T.after hW) hu)) (After.refl p1w) ?_
  refine tkCall 28 58 12 #[.slice ay D.length cy] _ (fuel := 5) rfl (by kernel_rfl) (by kernel_rfl) (by kernel_rfl) (fun _ => by kernel_rfl) (After.refl p1w) (deltas_any ay cy D hDn _ Y1) ?_
  intro p2v p2w p2r p2s
  have p2B : After w p2w := After.trans p1B p2s
  have p2T := p1T.after p2s
  refine tk 29 59 (.string (strOf (runsB (diffs D)))) (fuel := 4) rfl (by kernel_rfl) (by kernel_rfl) (by kernel_rfl) (by kernel_rfl) noPanic_false (by kernel_rfl) (fun W hW => x_conv (x := .tmp 58) (by kernel_rfl) (by kernel_rfl) (Own.convA p2r hW)) (After.refl p2w) ?_
  refine tk 34 64 (.bool false) (fuel := 3) rfl (by kernel_rfl) (by kernel_rfl) (by kernel_rfl) (by kernel_rfl) noPanic_false (by kernel_rfl) (fun _ _ => x_streqf (x := .tmp 59) (y := .tmp 63) (s := strOf (runsB (diffs D))) (t := strOf (bs.take u)) (by kernel_rfl) (by kernel_rfl) (by kernel_rfl) (congrArg strOf hI)) (After.refl p2w) ?_
  refine tk 35 65 (.bool false) (fuel := 2) rfl (by kernel_rfl) (by kernel_rfl) (by kernel_rfl) (by kernel_rfl) noPanic_false (by kernel_rfl) (fun _ _ => by kernel_rfl) (After.refl p2w) ?_
  refine tk 36 66 (.bool false) (fuel := 1) rfl (by kernel_rfl) (by kernel_rfl) (by kernel_rfl) (by kernel_rfl) noPanic_false (by kernel_rfl) (fun _ _ => by kernel_rfl) (After.refl p2w) ?_
  refine tk 37 67 (.bool false) (fuel := 0) rfl (by kernel_rfl) (by kernel_rfl) (by kernel_rfl) (by kernel_rfl) noPanic_false (by kernel_rfl) (fun _ _ => by kernel_rfl) (After.refl p2w) ?_
  have Z2 := HZ.out.after (After.trans (After.trans hS0 p1s) p2s)
  refine wpAnyH_done (by kernel_rfl) (NoPanic.normal ?_) _
  go_simp
  go_wp2
  refine wp_region_noPanic ?_
  refine wp_region_held_drew (S := After (p2w)) (by kernel_rfl) (After.drew (After.refl (p2w))) ?_
  intro hS6
  have B6 : After w (p2w).drew := After.drew p2B
  have T6 := p2T.after hS6
  refine tk 0 68 (.int .i64 (q3 : Int)) (fuel := 21) rfl (by kernel_rfl) (by kernel_rfl) (by kernel_rfl) (by kernel_rfl) noPanic_false (by kernel_rfl) (fun _ _ => by kernel_rfl) hS6 ?_
  refine tk 1 69 (.bool true) (fuel := 20) rfl (by kernel_rfl) (by kernel_rfl) (by kernel_rfl) (by kernel_rfl) noPanic_false (by kernel_rfl) (fun _ _ => x_neq0 (t := 30) (x := .tmp 68) (y := .const (.int .i64 0)) (by kernel_rfl) (q := q3) (by kernel_rfl) (by kernel_rfl) hq3) hS6 ?_
  refine tk 2 70 (.bool true) (fuel := 19) rfl (by kernel_rfl) (by kernel_rfl) (by kernel_rfl) (by kernel_rfl) noPanic_false (by kernel_rfl) (fun _ _ => by kernel_rfl) hS6 ?_
  refine tkSkip 3 71 (fuel := 18) rfl (by kernel_rfl) (by kernel_rfl) (by kernel_rfl) (by kernel_rfl) noPanic_false (by kernel_rfl) hS6 ?_
  refine tkSkip 4 72 (fuel := 17) rfl (by kernel_rfl) (by kernel_rfl) (by kernel_rfl) (by kernel_rfl) noPanic_false (by kernel_rfl) hS6 ?_
  refine tkSkip 5 73 (fuel := 16) rfl (by kernel_rfl) (by kernel_rfl) (by kernel_rfl) (by kernel_rfl) noPanic_false (by kernel_rfl) hS6 ?_
  refine tkSkip 6 74 (fuel := 15) rfl (by kernel_rfl) (by kernel_rfl) (by kernel_rfl) (by kernel_rfl) noPanic_false (by kernel_rfl) hS6 ?_
  refine tkSkip 7 75 (fuel := 14) rfl (by kernel_rfl) (by kernel_rfl) (by kernel_rfl) (by kernel_rfl) noPanic_false (by kernel_rfl) hS6 ?_
  refine tkSkip 8 76 (fuel := 13) rfl (by kernel_rfl) (by kernel_rfl) (by kernel_rfl) (by kernel_rfl) noPanic_false (by kernel_rfl) hS6 ?_
  refine tkSkip 9 77 (fuel := 12) rfl (by kernel_rfl) (by kernel_rfl) (by kernel_rfl) (by kernel_rfl) noPanic_false (by kernel_rfl) hS6 ?_
  refine tkSkip 10 78 (fuel := 11) rfl (by kernel_rfl) (by kernel_rfl) (by kernel_rfl) (by kernel_rfl) noPanic_false (by kernel_rfl) hS6 ?_
  refine tkSkip 11 79 (fuel := 10) rfl (by kernel_rfl) (by kernel_rfl) (by kernel_rfl) (by kernel_rfl) noPanic_false (by kernel_rfl) hS6 ?_
  refine tkSkip 12 80 (fuel := 9) rfl (by kernel_rfl) (by kernel_rfl) (by kernel_rfl) (by kernel_rfl) noPanic_false (by kernel_rfl) hS6 ?_
  refine tkSkip 13 81 (fuel := 8) rfl (by kernel_rfl) (by kernel_rfl) (by kernel_rfl) (by kernel_rfl) noPanic_false (by kernel_rfl) hS6 ?_
  refine tkSkip 14 82 (fuel := 7) rfl (by kernel_rfl) (by kernel_rfl) (by kernel_rfl) (by kernel_rfl) noPanic_false (by kernel_rfl) hS6 ?_
  refine tkSkip 15 83 (fuel := 6) rfl (by kernel_rfl) (by kernel_rfl) (by kernel_rfl) (by kernel_rfl) noPanic_false (by kernel_rfl) hS6 ?_
  refine tkSkip 16 84 (fuel := 5) rfl (by kernel_rfl) (by kernel_rfl) (by kernel_rfl) (by kernel_rfl) noPanic_false (by kernel_rfl) hS6 ?_
  refine tk 17 85 (.bool true) (fuel := 4) rfl (by kernel_rfl) (by kernel_rfl) (by kernel_rfl) (by kernel_rfl) noPanic_false (by kernel_rfl) (fun _ _ => by kernel_rfl) hS6 ?_
  have _u := Z2; clear _u
  refine tk 18 86 (.bool true) (fuel := 3) rfl (by kernel_rfl) (by kernel_rfl) (by kernel_rfl) (by kernel_rfl) noPanic_false (by kernel_rfl) (fun _ _ => by kernel_rfl) hS6 ?_
  refine tkCall 19 87 15 #[] _ (fuel := 2) rfl (by kernel_rfl) (by kernel_rfl) (by kernel_rfl) (fun _ => by kernel_rfl) hS6 (awake_ex _) ?_
  rintro p4v p4w rfl p4s
  have p4B : After w p4w := After.trans B6 p4s
  refine tk 20 88 (.bool true) (fuel := 1) rfl (by kernel_rfl) (by kernel_rfl) (by kernel_rfl) (by kernel_rfl) noPanic_false (by kernel_rfl) (fun _ _ => by kernel_rfl) (After.refl p4w) ?_
  refine tk 21 2 (.bool true) (fuel := 0) rfl (by kernel_rfl) (by kernel_rfl) (by kernel_rfl) (by kernel_rfl) noPanic_false (by kernel_rfl) (fun _ _ => by kernel_rfl) (After.refl p4w) ?_
  refine wpAnyH_done (by kernel_rfl) (NoPanic.normal ?_) _
  go_simp
  go_wp2
  go_ret
  exact ⟨rfl, p4B⟩
set_option maxRecDepth 100000 in
set_option maxHeartbeats 800000 in
theorem only_01 (b o : Nat) (cap : Nat) (bs : List UInt8) (hcap : bs.length ≤ cap) (w : World) (hat : BytesAt w (some ⟨b, o, none⟩) bs) (l D : List Int) (z : List Bool) (u k : Nat) (hl : ∀ x ∈ l, -9223372036854775808 ≤ x ∧ x ≤ 9223372036854775807) (hln : l.length ≤ 65536) (hDn : D.length ≤ 1048575) (hzn : z.length ≤ 65536) (q1 : Nat) (hq1 : ¬ q1 = 0) (hk : k ≤ bs.length) (hT : flagsB z = bs.take k)
    (c1 : ∀ w, BytesAt w (some ⟨b, o, none⟩) bs → Calls Try.prog 20 #[.slice (some ⟨b, o, none⟩) bs.length cap, .int .i64 65536] w fun e w' => ∃ a c, e = .returned (.tuple #[.slice a l.length c, .int .i64 (u : Int), .int .i64 (q1 : Int)]) ∧ IntsAt w' a l ∧ After w w')
    (c2 : ∀ w, BytesAt w (some ⟨b, o, none⟩) bs → Calls Try.prog 22 #[.slice (some ⟨b, o, none⟩) bs.length cap, .int .i64 65536] w fun e w' => ∃ a c, e = .returned (.tuple #[.slice a D.length c, .int .i64 (u : Int), .int .i64 (q1 : Int)]) ∧ IntsAt w' a D ∧ After w w')
    (c3 : ∀ w, BytesAt w (some ⟨b, o, none⟩) bs → Calls Try.prog 18 #[.slice (some ⟨b, o, none⟩) bs.length cap, .int .i64 65536] w fun e w' => ∃ a c, e = .returned (.tuple #[.slice a z.length c, .int .i64 (k : Int), .int .i64 0]) ∧ BoolsAt w' a z ∧ After w w') :
    Calls Try.prog 8 #[.slice (some ⟨b, o, none⟩) bs.length cap] w fun e w' => e = .returned (.bool true) ∧ Below w.heap.size w w' := by
  have _u : _ ∧ _ ∧ _ ∧ _ ∧ _ := ⟨hl, hln, hDn, hzn, hcap⟩
  clear _u
  have HAT : Hid (BytesAt w (some ⟨b, o, none⟩) bs) := hat
  have C1 := show Hid _ from c1
  have C2 := show Hid _ from c2
  have C3 := show Hid _ from c3
  have HL : Hid (∀ x ∈ l, -9223372036854775808 ≤ x ∧ x ≤ 9223372036854775807) := hl
  clear hat c1 c2 c3 hl
  go_enter Try.func8, Try.ntmps8
  go_wp2_with (first
    | (go_at_call 20; refine (C1.out _ HAT.out).mono ?_; rintro e w1 ⟨ax, cx, rfl, hx1, hb1⟩; have HX1 : Hid (IntsAt w1 ax l) := hx1; have B1 : Hid (After w w1) := hb1; clear hx1 hb1)
    | (go_at_call 22; refine (C2.out _ (HAT.out.after B1.out)).mono ?_; rintro e w2 ⟨ay, cy, rfl, hy2, hb2⟩; have HY2 : Hid (IntsAt w2 ay D) := hy2; have HX2 : Hid (IntsAt w2 ax l) := HX1.out.after hb2; have B2 : Hid (After w w2) := After.trans B1.out hb2; clear hy2 hb2)
    | (go_at_call 18; refine (C3.out _ (HAT.out.after B2.out)).mono ?_; rintro e W0 ⟨az, cz, rfl, hz3, hb3⟩; have HZ : Hid (BoolsAt W0 az z) := hz3; have HX : Hid (IntsAt W0 ax l) := HX2.out.after hb3; have HY : Hid (IntsAt W0 ay D) := HY2.out.after hb3; have B3h : Hid (After w W0) := After.trans B2.out hb3; clear hz3 hb3))
  have hl := HL.out
  have B3 := B3h.out
  have HT3 := HAT.out.after B3
  have _u : _ ∧ _ ∧ _ ∧ _ := ⟨hl, HX, HY, HZ⟩
  clear _u
  refine wp_region_noPanic ?_
  refine wp_region_held_drew (S := After W0) (by kernel_rfl) (After.drew (After.refl W0)) ?_
  intro hS0
  have B0 : After w W0.drew := After.drew B3
  have HT0 := HT3.after hS0
  refine tk 0 30 (.int .i64 (q1 : Int)) (fuel := 37) rfl (by kernel_rfl) (by kernel_rfl) (by kernel_rfl) (by kernel_rfl) noPanic_false (by kernel_rfl) (fun _ _ => by kernel_rfl) hS0 ?_
  refine tk 1 31 (.bool false) (fuel := 36) rfl (by kernel_rfl) (by kernel_rfl) (by kernel_rfl) (by kernel_rfl) noPanic_false (by kernel_rfl) (fun _ _ => x_ne0 (t := 30) (x := .tmp 30) (y := .const (.int .i64 0)) (by kernel_rfl) (q := q1) (by kernel_rfl) (by kernel_rfl) hq1) hS0 ?_
  refine tk 2 32 (.bool false) (fuel := 35) rfl (by kernel_rfl) (by kernel_rfl) (by kernel_rfl) (by kernel_rfl) noPanic_false (by kernel_rfl) (fun _ _ => by kernel_rfl) hS0 ?_
  refine tkSkip 3 33 (fuel := 34) rfl (by kernel_rfl) (by kernel_rfl) (by kernel_rfl) (by kernel_rfl) noPanic_false (by kernel_rfl) hS0 ?_
  refine tkSkip 4 34 (fuel := 33) rfl (by kernel_rfl) (by kernel_rfl) (by kernel_rfl) (by kernel_rfl) noPanic_false (by kernel_rfl) hS0 ?_
  refine tkSkip 5 35 (fuel := 32) rfl (by kernel_rfl) (by kernel_rfl) (by kernel_rfl) (by kernel_rfl) noPanic_false (by kernel_rfl) hS0 ?_
  refine tkSkip 6 36 (fuel := 31) rfl (by kernel_rfl) (by kernel_rfl) (by kernel_rfl) (by kernel_rfl) noPanic_false (by kernel_rfl) hS0 ?_
  refine tkSkip 7 37 (fuel := 30) rfl (by kernel_rfl) (by kernel_rfl) (by kernel_rfl) (by kernel_rfl) noPanic_false (by kernel_rfl) hS0 ?_
  refine tkSkip 8 38 (fuel := 29) rfl (by kernel_rfl) (by kernel_rfl) (by kernel_rfl) (by kernel_rfl) noPanic_false (by kernel_rfl) hS0 ?_
  refine tkSkip 9 39 (fuel := 28) rfl (by kernel_rfl) (by kernel_rfl) (by kernel_rfl) (by kernel_rfl) noPanic_false (by kernel_rfl) hS0 ?_
  refine tkSkip 10 40 (fuel := 27) rfl (by kernel_rfl) (by kernel_rfl) (by kernel_rfl) (by kernel_rfl) noPanic_false (by kernel_rfl) hS0 ?_
  refine tkSkip 11 41 (fuel := 26) rfl (by kernel_rfl) (by kernel_rfl) (by kernel_rfl) (by kernel_rfl) noPanic_false (by kernel_rfl) hS0 ?_
  refine tkSkip 12 42 (fuel := 25) rfl (by kernel_rfl) (by kernel_rfl) (by kernel_rfl) (by kernel_rfl) noPanic_false (by kernel_rfl) hS0 ?_
  refine tkSkip 13 43 (fuel := 24) rfl (by kernel_rfl) (by kernel_rfl) (by kernel_rfl) (by kernel_rfl) noPanic_false (by kernel_rfl) hS0 ?_
  refine tkSkip 14 44 (fuel := 23) rfl (by kernel_rfl) (by kernel_rfl) (by kernel_rfl) (by kernel_rfl) noPanic_false (by kernel_rfl) hS0 ?_
  refine tkSkip 15 45 (fuel := 22) rfl (by kernel_rfl) (by kernel_rfl) (by kernel_rfl) (by kernel_rfl) noPanic_false (by kernel_rfl) hS0 ?_
  refine tkSkip 16 46 (fuel := 21) rfl (by kernel_rfl) (by kernel_rfl) (by kernel_rfl) (by kernel_rfl) noPanic_false (by kernel_rfl) hS0 ?_
  refine tk 17 47 (.bool false) (fuel := 20) rfl (by kernel_rfl) (by kernel_rfl) (by kernel_rfl) (by kernel_rfl) noPanic_false (by kernel_rfl) (fun _ _ => by kernel_rfl) hS0 ?_
  refine tk 18 48 (.bool false) (fuel := 19) rfl (by kernel_rfl) (by kernel_rfl) (by kernel_rfl) (by kernel_rfl) noPanic_false (by kernel_rfl) (fun _ _ => by kernel_rfl) hS0 ?_
  refine tk 19 49 (.int .i64 (q1 : Int)) (fuel := 18) rfl (by kernel_rfl) (by kernel_rfl) (by kernel_rfl) (by kernel_rfl) noPanic_false (by kernel_rfl) (fun _ _ => by kernel_rfl) hS0 ?_
  refine tk 20 50 (.bool false) (fuel := 17) rfl (by kernel_rfl) (by kernel_rfl) (by kernel_rfl) (by kernel_rfl) noPanic_false (by kernel_rfl) (fun _ _ => x_ne0 (t := 30) (x := .tmp 49) (y := .const (.int .i64 0)) (by kernel_rfl) (q := q1) (by kernel_rfl) (by kernel_rfl) hq1) hS0 ?_
  refine tk 21 51 (.bool false) (fuel := 16) rfl (by kernel_rfl) (by kernel_rfl) (by kernel_rfl) (by kernel_rfl) noPanic_false (by kernel_rfl) (fun _ _ => by kernel_rfl) hS0 ?_
  refine tkSkip 22 52 (fuel := 15) rfl (by kernel_rfl) (by kernel_rfl) (by kernel_rfl) (by kernel_rfl) noPanic_false (by kernel_rfl) hS0 ?_
  refine tkSkip 23 53 (fuel := 14) rfl (by kernel_rfl) (by kernel_rfl) (by kernel_rfl) (by kernel_rfl) noPanic_false (by kernel_rfl) hS0 ?_
  refine tkSkip 24 54 (fuel := 13) rfl (by kernel_rfl) (by kernel_rfl) (by kernel_rfl) (by kernel_rfl) noPanic_false (by kernel_rfl) hS0 ?_
  refine tkSkip 25 55 (fuel := 12) rfl (by kernel_rfl) (by kernel_rfl) (by kernel_rfl) (by kernel_rfl) noPanic_false (by kernel_rfl) hS0 ?_
  refine tkSkip 26 56 (fuel := 11) rfl (by kernel_rfl) (by kernel_rfl) (by kernel_rfl) (by kernel_rfl) noPanic_false (by kernel_rfl) hS0 ?_
  refine tkSkip 27 57 (fuel := 10) rfl (by kernel_rfl) (by kernel_rfl) (by kernel_rfl) (by kernel_rfl) noPanic_false (by kernel_rfl) hS0 ?_
  refine tkSkip 28 58 (fuel := 9) rfl (by kernel_rfl) (by kernel_rfl) (by kernel_rfl) (by kernel_rfl) noPanic_false (by kernel_rfl) hS0 ?_
  refine tkSkip 29 59 (fuel := 8) rfl (by kernel_rfl) (by kernel_rfl) (by kernel_rfl) (by kernel_rfl) noPanic_false (by kernel_rfl) hS0 ?_
  refine tkSkip 30 60 (fuel := 7) rfl (by kernel_rfl) (by kernel_rfl) (by kernel_rfl) (by kernel_rfl) noPanic_false (by kernel_rfl) hS0 ?_
  refine tkSkip 31 61 (fuel := 6) rfl (by kernel_rfl) (by kernel_rfl) (by kernel_rfl) (by kernel_rfl) noPanic_false (by kernel_rfl) hS0 ?_
  refine tkSkip 32 62 (fuel := 5) rfl (by kernel_rfl) (by kernel_rfl) (by kernel_rfl) (by kernel_rfl) noPanic_false (by kernel_rfl) hS0 ?_
  refine tkSkip 33 63 (fuel := 4) rfl (by kernel_rfl) (by kernel_rfl) (by kernel_rfl) (by kernel_rfl) noPanic_false (by kernel_rfl) hS0 ?_
  refine tkSkip 34 64 (fuel := 3) rfl (by kernel_rfl) (by kernel_rfl) (by kernel_rfl) (by kernel_rfl) noPanic_false (by kernel_rfl) hS0 ?_
  refine tkSkip 35 65 (fuel := 2) rfl (by kernel_rfl) (by kernel_rfl) (by kernel_rfl) (by kernel_rfl) noPanic_false (by kernel_rfl) hS0 ?_
  refine tk 36 66 (.bool false) (fuel := 1) rfl (by kernel_rfl) (by kernel_rfl) (by kernel_rfl) (by kernel_rfl) noPanic_false (by kernel_rfl) (fun _ _ => by kernel_rfl) hS0 ?_
  refine tk 37 67 (.bool false) (fuel := 0) rfl (by kernel_rfl) (by kernel_rfl) (by kernel_rfl) (by kernel_rfl) noPanic_false (by kernel_rfl) (fun _ _ => by kernel_rfl) hS0 ?_
  have Z2 := HZ.out.after hS0
  refine wpAnyH_done (by kernel_rfl) (NoPanic.normal ?_) _
  go_simp
  go_wp2
  refine wp_region_noPanic ?_
  refine wp_region_held_drew (S := After (W0.drew)) (by kernel_rfl) (After.drew (After.refl (W0.drew))) ?_
  intro hS6
  have B6 : After w (W0.drew).drew := After.drew B0
  have T6 := HT0.after hS6
  refine tk 0 68 (.int .i64 0) (fuel := 21) rfl (by kernel_rfl) (by kernel_rfl) (by kernel_rfl) (by kernel_rfl) noPanic_false (by kernel_rfl) (fun _ _ => by kernel_rfl) hS6 ?_
  refine tk 1 69 (.bool false) (fuel := 20) rfl (by kernel_rfl) (by kernel_rfl) (by kernel_rfl) (by kernel_rfl) noPanic_false (by kernel_rfl) (fun _ _ => by kernel_rfl) hS6 ?_
  refine tk 2 70 (.bool false) (fuel := 19) rfl (by kernel_rfl) (by kernel_rfl) (by kernel_rfl) (by kernel_rfl) noPanic_false (by kernel_rfl) (fun _ _ => by kernel_rfl) hS6 ?_
  refine tk 3 71 (.int .i64 (k : Int)) (fuel := 18) rfl (by kernel_rfl) (by kernel_rfl) (by kernel_rfl) (by kernel_rfl) noPanic_false (by kernel_rfl) (fun _ _ => by kernel_rfl) hS6 ?_
  refine tk 4 72 (.slice (some ⟨b, o, none⟩) bs.length cap) (fuel := 17) rfl (by kernel_rfl) (by kernel_rfl) (by kernel_rfl) (by kernel_rfl) noPanic_false (by kernel_rfl) (fun _ _ => by kernel_rfl) hS6 ?_
  refine tk 5 73 (.int .i64 (bs.length : Int)) (fuel := 16) rfl (by kernel_rfl) (by kernel_rfl) (by kernel_rfl) (by kernel_rfl) noPanic_false (by kernel_rfl) (fun _ _ => by kernel_rfl) hS6 ?_
  refine tk 6 74 (.bool true) (fuel := 15) rfl (by kernel_rfl) (by kernel_rfl) (by kernel_rfl) (by kernel_rfl) noPanic_false (by kernel_rfl) (fun _ _ => x_leq (t := 3) (x := .tmp 71) (y := .tmp 73) (p := k) (q := bs.length) (by kernel_rfl) (by kernel_rfl) (by kernel_rfl) hk) hS6 ?_
  refine tk 7 75 (.bool true) (fuel := 14) rfl (by kernel_rfl) (by kernel_rfl) (by kernel_rfl) (by kernel_rfl) noPanic_false (by kernel_rfl) (fun _ _ => by kernel_rfl) hS6 ?_
  refine tk 8 76 (.slice az z.length cz) (fuel := 13) rfl (by kernel_rfl) (by kernel_rfl) (by kernel_rfl) (by kernel_rfl) noPanic_false (by kernel_rfl) (fun _ _ => by kernel_rfl) hS6 ?_
  refine tk 11 79 (.slice (some ⟨b, o, none⟩) bs.length cap) (fuel := 12) rfl (by kernel_rfl) (by kernel_rfl) (by kernel_rfl) (by kernel_rfl) noPanic_false (by kernel_rfl) (fun _ _ => by kernel_rfl) hS6 ?_
  refine tk 12 80 (.int .i64 (k : Int)) (fuel := 11) rfl (by kernel_rfl) (by kernel_rfl) (by kernel_rfl) (by kernel_rfl) noPanic_false (by kernel_rfl) (fun _ _ => by kernel_rfl) hS6 ?_
  refine tk 13 81 (.slice (some ⟨b, o, none⟩) k cap) (fuel := 10) rfl (by kernel_rfl) (by kernel_rfl) (by kernel_rfl) (by kernel_rfl) noPanic_false (by kernel_rfl) (fun _ _ => x_slice (x := .tmp 79) (y := .tmp 80) (b := b) (off := o) (len := bs.length) (cap := cap) (k := k) (by kernel_rfl) (by kernel_rfl) (by kernel_rfl) (Nat.le_trans hk hcap)) hS6 ?_
  refine tk 14 82 (.string (strOf (bs.take k))) (fuel := 9) rfl (by kernel_rfl) (by kernel_rfl) (by kernel_rfl) (by kernel_rfl) noPanic_false (by kernel_rfl) (fun W hW => x_conv (x := .tmp 81) (by kernel_rfl) (by kernel_rfl) (conv_take cap k (HT0.after hW) hk)) hS6 ?_
  refine tkCall 9 77 16 #[.slice az z.length cz] _ (fuel := 8) rfl (by kernel_rfl) (by kernel_rfl) (by kernel_rfl) (fun _ => by kernel_rfl) hS6 (flags_at az cz z hzn _ (Z2.after hS6)) ?_
  intro p3v p3w p3r p3s
  have p3B : After w p3w := After.trans B6 p3s
  refine tk 10 78 (.string (strOf (flagsB z))) (fuel := 7) rfl (by kernel_rfl) (by kernel_rfl) (by kernel_rfl) (by kernel_rfl) noPanic_false (by kernel_rfl) (fun W hW => x_conv (x := .tmp 77) (by kernel_rfl) (by kernel_rfl) (Own.convA p3r hW)) (After.refl p3w) ?_
  refine tk 15 83 (.bool true) (fuel := 6) rfl (by kernel_rfl) (by kernel_rfl) (by kernel_rfl) (by kernel_rfl) noPanic_false (by kernel_rfl) (fun _ _ => x_streq (x := .tmp 78) (y := .tmp 82) (s := strOf (flagsB z)) (t := strOf (bs.take k)) (by kernel_rfl) (by kernel_rfl) (by kernel_rfl) (congrArg strOf hT)) (After.refl p3w) ?_
  refine tk 16 84 (.bool true) (fuel := 5) rfl (by kernel_rfl) (by kernel_rfl) (by kernel_rfl) (by kernel_rfl) noPanic_false (by kernel_rfl) (fun _ _ => by kernel_rfl) (After.refl p3w) ?_
  refine tk 17 85 (.bool true) (fuel := 4) rfl (by kernel_rfl) (by kernel_rfl) (by kernel_rfl) (by kernel_rfl) noPanic_false (by kernel_rfl) (fun _ _ => by kernel_rfl) (After.refl p3w) ?_
  refine tk 18 86 (.bool true) (fuel := 3) rfl (by kernel_rfl) (by kernel_rfl) (by kernel_rfl) (by kernel_rfl) noPanic_false (by kernel_rfl) (fun _ _ => by kernel_rfl) (After.refl p3w) ?_
  refine tkCall 19 87 15 #[] _ (fuel := 2) rfl (by kernel_rfl) (by kernel_rfl) (by kernel_rfl) (fun _ => by kernel_rfl) (After.refl p3w) (awake_ex _) ?_
  rintro p4v p4w rfl p4s
  have p4B : After w p4w := After.trans p3B p4s
  refine tk 20 88 (.bool true) (fuel := 1) rfl (by kernel_rfl) (by kernel_rfl) (by kernel_rfl) (by kernel_rfl) noPanic_false (by kernel_rfl) (fun _ _ => by kernel_rfl) (After.refl p4w) ?_
  refine tk 21 2 (.bool true) (fuel := 0) rfl (by kernel_rfl) (by kernel_rfl) (by kernel_rfl) (by kernel_rfl) noPanic_false (by kernel_rfl) (fun _ _ => by kernel_rfl) (After.refl p4w) ?_
  refine wpAnyH_done (by kernel_rfl) (NoPanic.normal ?_) _
  go_simp
  go_wp2
  go_ret
  exact ⟨rfl, p4B⟩
set_option maxRecDepth 100000 in
set_option maxHeartbeats 800000 in
theorem only_00 (ao : Option Addr) (cap : Nat) (bs : List UInt8) (hcap : bs.length ≤ cap) (w : World) (hat : BytesAt w ao bs) (l D : List Int) (z : List Bool) (u k : Nat) (hl : ∀ x ∈ l, -9223372036854775808 ≤ x ∧ x ≤ 9223372036854775807) (hln : l.length ≤ 65536) (hDn : D.length ≤ 1048575) (hzn : z.length ≤ 65536) (q1 : Nat) (hq1 : ¬ q1 = 0) (q3 : Nat) (hq3 : ¬ q3 = 0)
    (c1 : ∀ w, BytesAt w ao bs → Calls Try.prog 20 #[.slice ao bs.length cap, .int .i64 65536] w fun e w' => ∃ a c, e = .returned (.tuple #[.slice a l.length c, .int .i64 (u : Int), .int .i64 (q1 : Int)]) ∧ IntsAt w' a l ∧ After w w')
    (c2 : ∀ w, BytesAt w ao bs → Calls Try.prog 22 #[.slice ao bs.length cap, .int .i64 65536] w fun e w' => ∃ a c, e = .returned (.tuple #[.slice a D.length c, .int .i64 (u : Int), .int .i64 (q1 : Int)]) ∧ IntsAt w' a D ∧ After w w')
    (c3 : ∀ w, BytesAt w ao bs → Calls Try.prog 18 #[.slice ao bs.length cap, .int .i64 65536] w fun e w' => ∃ a c, e = .returned (.tuple #[.slice a z.length c, .int .i64 (k : Int), .int .i64 (q3 : Int)]) ∧ BoolsAt w' a z ∧ After w w') :
    Calls Try.prog 8 #[.slice ao bs.length cap] w fun e w' => e = .returned (.bool true) ∧ Below w.heap.size w w' := by
  have _u : _ ∧ _ ∧ _ ∧ _ ∧ _ := ⟨hl, hln, hDn, hzn, hcap⟩
  clear _u
  have HAT : Hid (BytesAt w ao bs) := hat
  have C1 := show Hid _ from c1
  have C2 := show Hid _ from c2
  have C3 := show Hid _ from c3
  have HL : Hid (∀ x ∈ l, -9223372036854775808 ≤ x ∧ x ≤ 9223372036854775807) := hl
  clear hat c1 c2 c3 hl
  go_enter Try.func8, Try.ntmps8
  go_wp2_with (first
    | (go_at_call 20; refine (C1.out _ HAT.out).mono ?_; rintro e w1 ⟨ax, cx, rfl, hx1, hb1⟩; have HX1 : Hid (IntsAt w1 ax l) := hx1; have B1 : Hid (After w w1) := hb1; clear hx1 hb1)
    | (go_at_call 22; refine (C2.out _ (HAT.out.after B1.out)).mono ?_; rintro e w2 ⟨ay, cy, rfl, hy2, hb2⟩; have HY2 : Hid (IntsAt w2 ay D) := hy2; have HX2 : Hid (IntsAt w2 ax l) := HX1.out.after hb2; have B2 : Hid (After w w2) := After.trans B1.out hb2; clear hy2 hb2)
    | (go_at_call 18; refine (C3.out _ (HAT.out.after B2.out)).mono ?_; rintro e W0 ⟨az, cz, rfl, hz3, hb3⟩; have HZ : Hid (BoolsAt W0 az z) := hz3; have HX : Hid (IntsAt W0 ax l) := HX2.out.after hb3; have HY : Hid (IntsAt W0 ay D) := HY2.out.after hb3; have B3h : Hid (After w W0) := After.trans B2.out hb3; clear hz3 hb3))
  have hl := HL.out
  have B3 := B3h.out
  have HT3 := HAT.out.after B3
  have _u : _ ∧ _ ∧ _ ∧ _ := ⟨hl, HX, HY, HZ⟩
  clear _u
  refine wp_region_noPanic ?_
  refine wp_region_held_drew (S := After W0) (by kernel_rfl) (After.drew (After.refl W0)) ?_
  intro hS0
  have B0 : After w W0.drew := After.drew B3
  have HT0 := HT3.after hS0
  refine tk 0 30 (.int .i64 (q1 : Int)) (fuel := 37) rfl (by kernel_rfl) (by kernel_rfl) (by kernel_rfl) (by kernel_rfl) noPanic_false (by kernel_rfl) (fun _ _ => by kernel_rfl) hS0 ?_
  refine tk 1 31 (.bool false) (fuel := 36) rfl (by kernel_rfl) (by kernel_rfl) (by kernel_rfl) (by kernel_rfl) noPanic_false (by kernel_rfl) (fun _ _ => x_ne0 (t := 30) (x := .tmp 30) (y := .const (.int .i64 0)) (by kernel_rfl) (q := q1) (by kernel_rfl) (by kernel_rfl) hq1) hS0 ?_
  refine tk 2 32 (.bool false) (fuel := 35) rfl (by kernel_rfl) (by kernel_rfl) (by kernel_rfl) (by kernel_rfl) noPanic_false (by kernel_rfl) (fun _ _ => by kernel_rfl) hS0 ?_
  refine tkSkip 3 33 (fuel := 34) rfl (by kernel_rfl) (by kernel_rfl) (by kernel_rfl) (by kernel_rfl) noPanic_false (by kernel_rfl) hS0 ?_
  refine tkSkip 4 34 (fuel := 33) rfl (by kernel_rfl) (by kernel_rfl) (by kernel_rfl) (by kernel_rfl) noPanic_false (by kernel_rfl) hS0 ?_
  refine tkSkip 5 35 (fuel := 32) rfl (by kernel_rfl) (by kernel_rfl) (by kernel_rfl) (by kernel_rfl) noPanic_false (by kernel_rfl) hS0 ?_
  refine tkSkip 6 36 (fuel := 31) rfl (by kernel_rfl) (by kernel_rfl) (by kernel_rfl) (by kernel_rfl) noPanic_false (by kernel_rfl) hS0 ?_
  refine tkSkip 7 37 (fuel := 30) rfl (by kernel_rfl) (by kernel_rfl) (by kernel_rfl) (by kernel_rfl) noPanic_false (by kernel_rfl) hS0 ?_
  refine tkSkip 8 38 (fuel := 29) rfl (by kernel_rfl) (by kernel_rfl) (by kernel_rfl) (by kernel_rfl) noPanic_false (by kernel_rfl) hS0 ?_
  refine tkSkip 9 39 (fuel := 28) rfl (by kernel_rfl) (by kernel_rfl) (by kernel_rfl) (by kernel_rfl) noPanic_false (by kernel_rfl) hS0 ?_
  refine tkSkip 10 40 (fuel := 27) rfl (by kernel_rfl) (by kernel_rfl) (by kernel_rfl) (by kernel_rfl) noPanic_false (by kernel_rfl) hS0 ?_
  refine tkSkip 11 41 (fuel := 26) rfl (by kernel_rfl) (by kernel_rfl) (by kernel_rfl) (by kernel_rfl) noPanic_false (by kernel_rfl) hS0 ?_
  refine tkSkip 12 42 (fuel := 25) rfl (by kernel_rfl) (by kernel_rfl) (by kernel_rfl) (by kernel_rfl) noPanic_false (by kernel_rfl) hS0 ?_
  refine tkSkip 13 43 (fuel := 24) rfl (by kernel_rfl) (by kernel_rfl) (by kernel_rfl) (by kernel_rfl) noPanic_false (by kernel_rfl) hS0 ?_
  refine tkSkip 14 44 (fuel := 23) rfl (by kernel_rfl) (by kernel_rfl) (by kernel_rfl) (by kernel_rfl) noPanic_false (by kernel_rfl) hS0 ?_
  refine tkSkip 15 45 (fuel := 22) rfl (by kernel_rfl) (by kernel_rfl) (by kernel_rfl) (by kernel_rfl) noPanic_false (by kernel_rfl) hS0 ?_
  refine tkSkip 16 46 (fuel := 21) rfl (by kernel_rfl) (by kernel_rfl) (by kernel_rfl) (by kernel_rfl) noPanic_false (by kernel_rfl) hS0 ?_
  refine tk 17 47 (.bool false) (fuel := 20) rfl (by kernel_rfl) (by kernel_rfl) (by kernel_rfl) (by kernel_rfl) noPanic_false (by kernel_rfl) (fun _ _ => by kernel_rfl) hS0 ?_
  refine tk 18 48 (.bool false) (fuel := 19) rfl (by kernel_rfl) (by kernel_rfl) (by kernel_rfl) (by kernel_rfl) noPanic_false (by kernel_rfl) (fun _ _ => by kernel_rfl) hS0 ?_
  refine tk 19 49 (.int .i64 (q1 : Int)) (fuel := 18) rfl (by kernel_rfl) (by kernel_rfl) (by kernel_rfl) (by kernel_rfl) noPanic_false (by kernel_rfl) (fun _ _ => by kernel_rfl) hS0 ?_
  refine tk 20 50 (.bool false) (fuel := 17) rfl (by kernel_rfl) (by kernel_rfl) (by kernel_rfl) (by kernel_rfl) noPanic_false (by kernel_rfl) (fun _ _ => x_ne0 (t := 30) (x := .tmp 49) (y := .const (.int .i64 0)) (by kernel_rfl) (q := q1) (by kernel_rfl) (by kernel_rfl) hq1) hS0 ?_
  refine tk 21 51 (.bool false) (fuel := 16) rfl (by kernel_rfl) (by kernel_rfl) (by kernel_rfl) (by kernel_rfl) noPanic_false (by kernel_rfl) (fun _ _ => by kernel_rfl) hS0 ?_
  refine tkSkip 22 52 (fuel := 15) rfl (by kernel_rfl) (by kernel_rfl) (by kernel_rfl) (by kernel_rfl) noPanic_false (by kernel_rfl) hS0 ?_
  refine tkSkip 23 53 (fuel := 14) rfl (by kernel_rfl) (by kernel_rfl) (by kernel_rfl) (by kernel_rfl) noPanic_false (by kernel_rfl) hS0 ?_
  refine tkSkip 24 54 (fuel := 13) rfl (by kernel_rfl) (by kernel_rfl) (by kernel_rfl) (by kernel_rfl) noPanic_false (by kernel_rfl) hS0 ?_
  refine tkSkip 25 55 (fuel := 12) rfl (by kernel_rfl) (by kernel_rfl) (by kernel_rfl) (by kernel_rfl) noPanic_false (by kernel_rfl) hS0 ?_
  refine tkSkip 26 56 (fuel := 11) rfl (by kernel_rfl) (by kernel_rfl) (by kernel_rfl) (by kernel_rfl) noPanic_false (by kernel_rfl) hS0 ?_
  refine tkSkip 27 57 (fuel := 10) rfl (by kernel_rfl) (by kernel_rfl) (by kernel_rfl) (by kernel_rfl) noPanic_false (by kernel_rfl) hS0 ?_
  refine tkSkip 28 58 (fuel := 9) rfl (by kernel_rfl) (by kernel_rfl) (by kernel_rfl) (by kernel_rfl) noPanic_false (by kernel_rfl) hS0 ?_
  refine tkSkip 29 59 (fuel := 8) rfl (by kernel_rfl) (by kernel_rfl) (by kernel_rfl) (by kernel_rfl) noPanic_false (by kernel_rfl) hS0 ?_
  refine tkSkip 30 60 (fuel := 7) rfl (by kernel_rfl) (by kernel_rfl) (by kernel_rfl) (by kernel_rfl) noPanic_false (by kernel_rfl) hS0 ?_
  refine tkSkip 31 61 (fuel := 6) rfl (by kernel_rfl) (by kernel_rfl) (by kernel_rfl) (by kernel_rfl) noPanic_false (by kernel_rfl) hS0 ?_
  refine tkSkip 32 62 (fuel := 5) rfl (by kernel_rfl) (by kernel_rfl) (by kernel_rfl) (by kernel_rfl) noPanic_false (by kernel_rfl) hS0 ?_
  refine tkSkip 33 63 (fuel := 4) rfl (by kernel_rfl) (by kernel_rfl) (by kernel_rfl) (by kernel_rfl) noPanic_false (by kernel_rfl) hS0 ?_
  refine tkSkip 34 64 (fuel := 3) rfl (by kernel_rfl) (by kernel_rfl) (by kernel_rfl) (by kernel_rfl) noPanic_false (by kernel_rfl) hS0 ?_
  refine tkSkip 35 65 (fuel := 2) rfl (by kernel_rfl) (by kernel_rfl) (by kernel_rfl) (by kernel_rfl) noPanic_false (by kernel_rfl) hS0 ?_
  refine tk 36 66 (.bool false) (fuel := 1) rfl (by kernel_rfl) (by kernel_rfl) (by kernel_rfl) (by kernel_rfl) noPanic_false (by kernel_rfl) (fun _ _ => by kernel_rfl) hS0 ?_
  refine tk 37 67 (.bool false) (fuel := 0) rfl (by kernel_rfl) (by kernel_rfl) (by kernel_rfl) (by kernel_rfl) noPanic_false (by kernel_rfl) (fun _ _ => by kernel_rfl) hS0 ?_
  have Z2 := HZ.out.after hS0
  refine wpAnyH_done (by kernel_rfl) (NoPanic.normal ?_) _
  go_simp
  go_wp2
  refine wp_region_noPanic ?_
  refine wp_region_held_drew (S := After (W0.drew)) (by kernel_rfl) (After.drew (After.refl (W0.drew))) ?_
  intro hS6
  have B6 : After w (W0.drew).drew := After.drew B0
  have T6 := HT0.after hS6
  refine tk 0 68 (.int .i64 (q3 : Int)) (fuel := 21) rfl (by kernel_rfl) (by kernel_rfl) (by kernel_rfl) (by kernel_rfl) noPanic_false (by kernel_rfl) (fun _ _ => by kernel_rfl) hS6 ?_
  refine tk 1 69 (.bool true) (fuel := 20) rfl (by kernel_rfl) (by kernel_rfl) (by kernel_rfl) (by kernel_rfl) noPanic_false (by kernel_rfl) (fun _ _ => x_neq0 (t := 30) (x := .tmp 68) (y := .const (.int .i64 0)) (by kernel_rfl) (q := q3) (by kernel_rfl) (by kernel_rfl) hq3) hS6 ?_
  refine tk 2 70 (.bool true) (fuel := 19) rfl (by kernel_rfl) (by kernel_rfl) (by kernel_rfl) (by kernel_rfl) noPanic_false (by kernel_rfl) (fun _ _ => by kernel_rfl) hS6 ?_
  refine tkSkip 3 71 (fuel := 18) rfl (by kernel_rfl) (by kernel_rfl) (by kernel_rfl) (by kernel_rfl) noPanic_false (by kernel_rfl) hS6 ?_
  refine tkSkip 4 72 (fuel := 17) rfl (by kernel_rfl) (by kernel_rfl) (by kernel_rfl) (by kernel_rfl) noPanic_false (by kernel_rfl) hS6 ?_
  refine tkSkip 5 73 (fuel := 16) rfl (by kernel_rfl) (by kernel_rfl) (by kernel_rfl) (by kernel_rfl) noPanic_false (by kernel_rfl) hS6 ?_
  refine tkSkip 6 74 (fuel := 15) rfl (by kernel_rfl) (by kernel_rfl) (by kernel_rfl) (by kernel_rfl) noPanic_false (by kernel_rfl) hS6 ?_
  refine tkSkip 7 75 (fuel := 14) rfl (by kernel_rfl) (by kernel_rfl) (by kernel_rfl) (by kernel_rfl) noPanic_false (by kernel_rfl) hS6 ?_
  refine tkSkip 8 76 (fuel := 13) rfl (by kernel_rfl) (by kernel_rfl) (by kernel_rfl) (by kernel_rfl) noPanic_false (by kernel_rfl) hS6 ?_
  refine tkSkip 9 77 (fuel := 12) rfl (by kernel_rfl) (by kernel_rfl) (by kernel_rfl) (by kernel_rfl) noPanic_false (by kernel_rfl) hS6 ?_
  refine tkSkip 10 78 (fuel := 11) rfl (by kernel_rfl) (by kernel_rfl) (by kernel_rfl) (by kernel_rfl) noPanic_false (by kernel_rfl) hS6 ?_
  refine tkSkip 11 79 (fuel := 10) rfl (by kernel_rfl) (by kernel_rfl) (by kernel_rfl) (by kernel_rfl) noPanic_false (by kernel_rfl) hS6 ?_
  refine tkSkip 12 80 (fuel := 9) rfl (by kernel_rfl) (by kernel_rfl) (by kernel_rfl) (by kernel_rfl) noPanic_false (by kernel_rfl) hS6 ?_
  refine tkSkip 13 81 (fuel := 8) rfl (by kernel_rfl) (by kernel_rfl) (by kernel_rfl) (by kernel_rfl) noPanic_false (by kernel_rfl) hS6 ?_
  refine tkSkip 14 82 (fuel := 7) rfl (by kernel_rfl) (by kernel_rfl) (by kernel_rfl) (by kernel_rfl) noPanic_false (by kernel_rfl) hS6 ?_
  refine tkSkip 15 83 (fuel := 6) rfl (by kernel_rfl) (by kernel_rfl) (by kernel_rfl) (by kernel_rfl) noPanic_false (by kernel_rfl) hS6 ?_
  refine tkSkip 16 84 (fuel := 5) rfl (by kernel_rfl) (by kernel_rfl) (by kernel_rfl) (by kernel_rfl) noPanic_false (by kernel_rfl) hS6 ?_
  refine tk 17 85 (.bool true) (fuel := 4) rfl (by kernel_rfl) (by kernel_rfl) (by kernel_rfl) (by kernel_rfl) noPanic_false (by kernel_rfl) (fun _ _ => by kernel_rfl) hS6 ?_
  have _u := Z2; clear _u
  refine tk 18 86 (.bool true) (fuel := 3) rfl (by kernel_rfl) (by kernel_rfl) (by kernel_rfl) (by kernel_rfl) noPanic_false (by kernel_rfl) (fun _ _ => by kernel_rfl) hS6 ?_
  refine tkCall 19 87 15 #[] _ (fuel := 2) rfl (by kernel_rfl) (by kernel_rfl) (by kernel_rfl) (fun _ => by kernel_rfl) hS6 (awake_ex _) ?_
  rintro p4v p4w rfl p4s
  have p4B : After w p4w := After.trans B6 p4s
  refine tk 20 88 (.bool true) (fuel := 1) rfl (by kernel_rfl) (by kernel_rfl) (by kernel_rfl) (by kernel_rfl) noPanic_false (by kernel_rfl) (fun _ _ => by kernel_rfl) (After.refl p4w) ?_
  refine tk 21 2 (.bool true) (fuel := 0) rfl (by kernel_rfl) (by kernel_rfl) (by kernel_rfl) (by kernel_rfl) noPanic_false (by kernel_rfl) (fun _ _ => by kernel_rfl) (After.refl p4w) ?_
  refine wpAnyH_done (by kernel_rfl) (NoPanic.normal ?_) _
  go_simp
  go_wp2
  go_ret
  exact ⟨rfl, p4B⟩
end Go.Proofs.Ytjmflggnnchojaa
