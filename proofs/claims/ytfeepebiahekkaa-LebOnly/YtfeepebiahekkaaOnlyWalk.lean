/-
  THE WALK OF stemmalaw02.LebOnly.
-/
import Derived.Test.YtfeepebiahekkaaHand2
namespace Go.Proofs.Ytfeepebiahekkaa
open Go.RowKit Leb
set_option maxRecDepth 100000 in
set_option maxHeartbeats 800000 in
theorem only_111 (b o : Nat) (cap : Nat) (bs : List UInt8) (hcap : bs.length ≤ cap) (w : World) (hat : BytesAt w (some ⟨b, o, none⟩) bs) (n i j k  : Nat) (m : Int) (s : List UInt8)
    (hn : n < 18446744073709551616) (hm0 : -9223372036854775808 ≤ m) (hm1 : m ≤ 9223372036854775807) (hs : s.length ≤ 140737488351232) (hi1 : i ≤ bs.length) (hj1 : j ≤ bs.length) (hk1 : k ≤ bs.length) (hU : uintB n = bs.take i) (hI : intB m = bs.take j) (hT : textB s = bs.take k)
    (c1 : ∀ w, BytesAt w (some ⟨b, o, none⟩) bs → Calls Try.prog 18 #[.slice (some ⟨b, o, none⟩) bs.length cap] w fun e w' => e = .returned (.tuple #[.int .u64 (n : Int), .int .i64 (i : Int), .int .i64 0]) ∧ Below w.heap.size w w')
    (c2 : ∀ w, BytesAt w (some ⟨b, o, none⟩) bs → Calls Try.prog 20 #[.slice (some ⟨b, o, none⟩) bs.length cap] w fun e w' => e = .returned (.tuple #[.int .i64 m, .int .i64 (j : Int), .int .i64 0]) ∧ Below w.heap.size w w')
    (c3 : ∀ w, BytesAt w (some ⟨b, o, none⟩) bs → Calls Try.prog 22 #[.slice (some ⟨b, o, none⟩) bs.length cap, .int .i64 1099511627776] w fun e w' => e = .returned (.tuple #[.string (strOf s), .int .i64 (k : Int), .int .i64 0]) ∧ Below w.heap.size w w') :
    Calls Try.prog 8 #[.slice (some ⟨b, o, none⟩) bs.length cap] w fun e w' => e = .returned (.bool true) ∧ Below w.heap.size w w' := by
  have _u : _ ∧ _ ∧ _ ∧ _ ∧ _ ∧ _ ∧ _ ∧ _ := ⟨hn, hm0, hm1, hs, hi1, hj1, hk1, hcap⟩
  clear _u
  have HAT : Hid (BytesAt w (some ⟨b, o, none⟩) bs) := hat
  have C1 := show Hid _ from c1
  have C2 := show Hid _ from c2
  have C3 := show Hid _ from c3
  clear hat c1 c2 c3
  go_enter Try.func8, Try.ntmps8
  go_wp2_with (first
    | (go_at_call 18; refine (C1.out _ HAT.out).mono ?_; rintro e w1 ⟨rfl, hb1⟩)
    | (go_at_call 20; refine (C2.out _ (HAT.out.after hb1)).mono ?_; rintro e w2 ⟨rfl, hb2⟩; have B2 : After w w2 := After.trans hb1 hb2)
    | (go_at_call 22; refine (C3.out _ (HAT.out.after B2)).mono ?_; rintro e W0 ⟨rfl, hb3⟩; have B3 : After w W0 := After.trans B2 hb3))
  have HT3 := HAT.out.after B3
  refine wp_region_noPanic ?_
  refine wp_region_held_drew (S := After W0) (by kernel_rfl) (After.drew (After.refl W0)) ?_
  intro hS0
  have B0 : After w W0.drew := After.drew B3
  have HT0 := HT3.after hS0
  refine tk 0 30 (.int .i64 0) (fuel := 37) rfl (by kernel_rfl) (by kernel_rfl) (by kernel_rfl) (by kernel_rfl) noPanic_false (by kernel_rfl) (fun _ _ => by kernel_rfl) hS0 ?_
  refine tk 1 31 (.bool true) (fuel := 36) rfl (by kernel_rfl) (by kernel_rfl) (by kernel_rfl) (by kernel_rfl) noPanic_false (by kernel_rfl) (fun _ _ => by kernel_rfl) hS0 ?_
  refine tk 2 32 (.bool true) (fuel := 35) rfl (by kernel_rfl) (by kernel_rfl) (by kernel_rfl) (by kernel_rfl) noPanic_false (by kernel_rfl) (fun _ _ => by kernel_rfl) hS0 ?_
  refine tk 3 33 (.int .i64 (i : Int)) (fuel := 34) rfl (by kernel_rfl) (by kernel_rfl) (by kernel_rfl) (by kernel_rfl) noPanic_false (by kernel_rfl) (fun _ _ => by kernel_rfl) hS0 ?_
  refine tk 4 34 (.slice (some ⟨b, o, none⟩) bs.length cap) (fuel := 33) rfl (by kernel_rfl) (by kernel_rfl) (by kernel_rfl) (by kernel_rfl) noPanic_false (by kernel_rfl) (fun _ _ => by kernel_rfl) hS0 ?_
  refine tk 5 35 (.int .i64 (bs.length : Int)) (fuel := 32) rfl (by kernel_rfl) (by kernel_rfl) (by kernel_rfl) (by kernel_rfl) noPanic_false (by kernel_rfl) (fun _ _ => by kernel_rfl) hS0 ?_
  refine tk 6 36 (.bool false) (fuel := 31) rfl (by kernel_rfl) (by kernel_rfl) (by kernel_rfl) (by kernel_rfl) noPanic_false (by kernel_rfl) (fun _ _ => x_gtr (t := 3) (x := .tmp 33) (y := .tmp 35) (p := i) (q := bs.length) (by kernel_rfl) (by kernel_rfl) (by kernel_rfl) hi1) hS0 ?_
  refine tk 7 37 (.bool false) (fuel := 30) rfl (by kernel_rfl) (by kernel_rfl) (by kernel_rfl) (by kernel_rfl) noPanic_false (by kernel_rfl) (fun _ _ => by kernel_rfl) hS0 ?_
  refine tk 8 38 (.int .u64 (n : Int)) (fuel := 29) rfl (by kernel_rfl) (by kernel_rfl) (by kernel_rfl) (by kernel_rfl) noPanic_false (by kernel_rfl) (fun _ _ => by kernel_rfl) hS0 ?_
  refine tk 11 41 (.slice (some ⟨b, o, none⟩) bs.length cap) (fuel := 28) rfl (by kernel_rfl) (by kernel_rfl) (by kernel_rfl) (by kernel_rfl) noPanic_false (by kernel_rfl) (fun _ _ => by kernel_rfl) hS0 ?_
  refine tk 12 42 (.int .i64 (i : Int)) (fuel := 27) rfl (by kernel_rfl) (by kernel_rfl) (by kernel_rfl) (by kernel_rfl) noPanic_false (by kernel_rfl) (fun _ _ => by kernel_rfl) hS0 ?_
  refine tk 13 43 (.slice (some ⟨b, o, none⟩) i cap) (fuel := 26) rfl (by kernel_rfl) (by kernel_rfl) (by kernel_rfl) (by kernel_rfl) noPanic_false (by kernel_rfl) (fun _ _ => x_slice (x := .tmp 41) (y := .tmp 42) (b := b) (off := o) (len := bs.length) (cap := cap) (k := i) (by kernel_rfl) (by kernel_rfl) (by kernel_rfl) (Nat.le_trans hi1 hcap)) hS0 ?_
  refine tk 14 44 (.string (strOf (bs.take i))) (fuel := 25) rfl (by kernel_rfl) (by kernel_rfl) (by kernel_rfl) (by kernel_rfl) noPanic_false (by kernel_rfl) (fun W hW => x_conv (x := .tmp 43) (by kernel_rfl) (by kernel_rfl) (conv_take cap i (HT3.after hW) hi1)) hS0 ?_
  refine tkCall 9 39 11 #[.int .u64 (n : Int)] _ (fuel := 24) rfl (by kernel_rfl) (by kernel_rfl) (by kernel_rfl) (fun _ => by kernel_rfl) hS0 (uint_any n hn _) ?_
  intro p1v p1w p1r p1s
  have p1B : After w p1w := After.trans B0 p1s
  have p1T := HT0.after p1s
  refine tk 10 40 (.string (strOf (uintB n))) (fuel := 23) rfl (by kernel_rfl) (by kernel_rfl) (by kernel_rfl) (by kernel_rfl) noPanic_false (by kernel_rfl) (fun W hW => x_conv (x := .tmp 39) (by kernel_rfl) (by kernel_rfl) (Own.convA p1r hW)) (After.refl p1w) ?_
  refine tk 15 45 (.bool false) (fuel := 22) rfl (by kernel_rfl) (by kernel_rfl) (by kernel_rfl) (by kernel_rfl) noPanic_false (by kernel_rfl) (fun _ _ => x_streqf (x := .tmp 40) (y := .tmp 44) (s := strOf (uintB n)) (t := strOf (bs.take i)) (by kernel_rfl) (by kernel_rfl) (by kernel_rfl) (congrArg strOf hU)) (After.refl p1w) ?_
  refine tk 16 46 (.bool false) (fuel := 21) rfl (by kernel_rfl) (by kernel_rfl) (by kernel_rfl) (by kernel_rfl) noPanic_false (by kernel_rfl) (fun _ _ => by kernel_rfl) (After.refl p1w) ?_
  refine tk 17 47 (.bool false) (fuel := 20) rfl (by kernel_rfl) (by kernel_rfl) (by kernel_rfl) (by kernel_rfl) noPanic_false (by kernel_rfl) (fun _ _ => by kernel_rfl) (After.refl p1w) ?_
  refine tk 18 48 (.bool false) (fuel := 19) rfl (by kernel_rfl) (by kernel_rfl) (by kernel_rfl) (by kernel_rfl) noPanic_false (by kernel_rfl) (fun _ _ => by kernel_rfl) (After.refl p1w) ?_
  refine tk 19 49 (.int .i64 0) (fuel := 18) rfl (by kernel_rfl) (by kernel_rfl) (by kernel_rfl) (by kernel_rfl) noPanic_false (by kernel_rfl) (fun _ _ => by kernel_rfl) (After.refl p1w) ?_
  refine tk 20 50 (.bool true) (fuel := 17) rfl (by kernel_rfl) (by kernel_rfl) (by kernel_rfl) (by kernel_rfl) noPanic_false (by kernel_rfl) (fun _ _ => by kernel_rfl) (After.refl p1w) ?_
  refine tk 21 51 (.bool true) (fuel := 16) rfl (by kernel_rfl) (by kernel_rfl) (by kernel_rfl) (by kernel_rfl) noPanic_false (by kernel_rfl) (fun _ _ => by kernel_rfl) (After.refl p1w) ?_
  refine tk 22 52 (.int .i64 (j : Int)) (fuel := 15) rfl (by kernel_rfl) (by kernel_rfl) (by kernel_rfl) (by kernel_rfl) noPanic_false (by kernel_rfl) (fun _ _ => by kernel_rfl) (After.refl p1w) ?_
  refine tk 23 53 (.slice (some ⟨b, o, none⟩) bs.length cap) (fuel := 14) rfl (by kernel_rfl) (by kernel_rfl) (by kernel_rfl) (by kernel_rfl) noPanic_false (by kernel_rfl) (fun _ _ => by kernel_rfl) (After.refl p1w) ?_
  refine tk 24 54 (.int .i64 (bs.length : Int)) (fuel := 13) rfl (by kernel_rfl) (by kernel_rfl) (by kernel_rfl) (by kernel_rfl) noPanic_false (by kernel_rfl) (fun _ _ => by kernel_rfl) (After.refl p1w) ?_
  refine tk 25 55 (.bool false) (fuel := 12) rfl (by kernel_rfl) (by kernel_rfl) (by kernel_rfl) (by kernel_rfl) noPanic_false (by kernel_rfl) (fun _ _ => x_gtr (t := 3) (x := .tmp 52) (y := .tmp 54) (p := j) (q := bs.length) (by kernel_rfl) (by kernel_rfl) (by kernel_rfl) hj1) (After.refl p1w) ?_
  refine tk 26 56 (.bool false) (fuel := 11) rfl (by kernel_rfl) (by kernel_rfl) (by kernel_rfl) (by kernel_rfl) noPanic_false (by kernel_rfl) (fun _ _ => by kernel_rfl) (After.refl p1w) ?_
  refine tk 27 57 (.int .i64 m) (fuel := 10) rfl (by kernel_rfl) (by kernel_rfl) (by kernel_rfl) (by kernel_rfl) noPanic_false (by kernel_rfl) (fun _ _ => by kernel_rfl) (After.refl p1w) ?_
  refine tk 30 60 (.slice (some ⟨b, o, none⟩) bs.length cap) (fuel := 9) rfl (by kernel_rfl) (by kernel_rfl) (by kernel_rfl) (by kernel_rfl) noPanic_false (by kernel_rfl) (fun _ _ => by kernel_rfl) (After.refl p1w) ?_
  refine tk 31 61 (.int .i64 (j : Int)) (fuel := 8) rfl (by kernel_rfl) (by kernel_rfl) (by kernel_rfl) (by kernel_rfl) noPanic_false (by kernel_rfl) (fun _ _ => by kernel_rfl) (After.refl p1w) ?_
  refine tk 32 62 (.slice (some ⟨b, o, none⟩) j cap) (fuel := 7) rfl (by kernel_rfl) (by kernel_rfl) (by kernel_rfl) (by kernel_rfl) noPanic_false (by kernel_rfl) (fun _ _ => x_slice (x := .tmp 60) (y := .tmp 61) (b := b) (off := o) (len := bs.length) (cap := cap) (k := j) (by kernel_rfl) (by kernel_rfl) (by kernel_rfl) (Nat.le_trans hj1 hcap)) (After.refl p1w) ?_
  refine tk 33 63 (.string (strOf (bs.take j))) (fuel := 6) rfl (by kernel_rfl) (by kernel_rfl) (by kernel_rfl) (by kernel_rfl) noPanic_false (by kernel_rfl) (fun W hW => x_conv (x := .tmp 62) (by kernel_rfl) (by kernel_rfl) (conv_take cap j (p1T.after hW) hj1)) (After.refl p1w) ?_
  refine tkCall 28 58 13 #[.int .i64 m] _ (fuel := 5) rfl (by kernel_rfl) (by kernel_rfl) (by kernel_rfl) (fun _ => by kernel_rfl) (After.refl p1w) (int_any m hm0 hm1 _) ?_
  intro p2v p2w p2r p2s
  have p2B : After w p2w := After.trans p1B p2s
  have p2T := p1T.after p2s
  refine tk 29 59 (.string (strOf (intB m))) (fuel := 4) rfl (by kernel_rfl) (by kernel_rfl) (by kernel_rfl) (by kernel_rfl) noPanic_false (by kernel_rfl) (fun W hW => x_conv (x := .tmp 58) (by kernel_rfl) (by kernel_rfl) (Own.convA p2r hW)) (After.refl p2w) ?_
  refine tk 34 64 (.bool false) (fuel := 3) rfl (by kernel_rfl) (by kernel_rfl) (by kernel_rfl) (by kernel_rfl) noPanic_false (by kernel_rfl) (fun _ _ => x_streqf (x := .tmp 59) (y := .tmp 63) (s := strOf (intB m)) (t := strOf (bs.take j)) (by kernel_rfl) (by kernel_rfl) (by kernel_rfl) (congrArg strOf hI)) (After.refl p2w) ?_
  refine tk 35 65 (.bool false) (fuel := 2) rfl (by kernel_rfl) (by kernel_rfl) (by kernel_rfl) (by kernel_rfl) noPanic_false (by kernel_rfl) (fun _ _ => by kernel_rfl) (After.refl p2w) ?_
  refine tk 36 66 (.bool false) (fuel := 1) rfl (by kernel_rfl) (by kernel_rfl) (by kernel_rfl) (by kernel_rfl) noPanic_false (by kernel_rfl) (fun _ _ => by kernel_rfl) (After.refl p2w) ?_
  refine tk 37 67 (.bool false) (fuel := 0) rfl (by kernel_rfl) (by kernel_rfl) (by kernel_rfl) (by kernel_rfl) noPanic_false (by kernel_rfl) (fun _ _ => by kernel_rfl) (After.refl p2w) ?_
  refine wpAnyH_done (by kernel_rfl) (NoPanic.normal ?_) _
  go_simp
  go_wp2
  refine wp_region_noPanic ?_
  refine wp_region_held_drew (S := After p2w) (by kernel_rfl) (After.drew (After.refl p2w)) ?_
  intro hS0
  have B6 : After w p2w.drew := After.drew p2B
  have T6 := p2T.after hS0
  refine tk 0 68 (.int .i64 0) (fuel := 21) rfl (by kernel_rfl) (by kernel_rfl) (by kernel_rfl) (by kernel_rfl) noPanic_false (by kernel_rfl) (fun _ _ => by kernel_rfl) hS0 ?_
  refine tk 1 69 (.bool false) (fuel := 20) rfl (by kernel_rfl) (by kernel_rfl) (by kernel_rfl) (by kernel_rfl) noPanic_false (by kernel_rfl) (fun _ _ => by kernel_rfl) hS0 ?_
  refine tk 2 70 (.bool false) (fuel := 19) rfl (by kernel_rfl) (by kernel_rfl) (by kernel_rfl) (by kernel_rfl) noPanic_false (by kernel_rfl) (fun _ _ => by kernel_rfl) hS0 ?_
  refine tk 3 71 (.int .i64 (k : Int)) (fuel := 18) rfl (by kernel_rfl) (by kernel_rfl) (by kernel_rfl) (by kernel_rfl) noPanic_false (by kernel_rfl) (fun _ _ => by kernel_rfl) hS0 ?_
  refine tk 4 72 (.slice (some ⟨b, o, none⟩) bs.length cap) (fuel := 17) rfl (by kernel_rfl) (by kernel_rfl) (by kernel_rfl) (by kernel_rfl) noPanic_false (by kernel_rfl) (fun _ _ => by kernel_rfl) hS0 ?_
  refine tk 5 73 (.int .i64 (bs.length : Int)) (fuel := 16) rfl (by kernel_rfl) (by kernel_rfl) (by kernel_rfl) (by kernel_rfl) noPanic_false (by kernel_rfl) (fun _ _ => by kernel_rfl) hS0 ?_
  refine tk 6 74 (.bool true) (fuel := 15) rfl (by kernel_rfl) (by kernel_rfl) (by kernel_rfl) (by kernel_rfl) noPanic_false (by kernel_rfl) (fun _ _ => x_leq (t := 3) (x := .tmp 71) (y := .tmp 73) (p := k) (q := bs.length) (by kernel_rfl) (by kernel_rfl) (by kernel_rfl) hk1) hS0 ?_
  refine tk 7 75 (.bool true) (fuel := 14) rfl (by kernel_rfl) (by kernel_rfl) (by kernel_rfl) (by kernel_rfl) noPanic_false (by kernel_rfl) (fun _ _ => by kernel_rfl) hS0 ?_
  refine tk 8 76 (.string (strOf s)) (fuel := 13) rfl (by kernel_rfl) (by kernel_rfl) (by kernel_rfl) (by kernel_rfl) noPanic_false (by kernel_rfl) (fun _ _ => by kernel_rfl) hS0 ?_
  refine tk 11 79 (.slice (some ⟨b, o, none⟩) bs.length cap) (fuel := 12) rfl (by kernel_rfl) (by kernel_rfl) (by kernel_rfl) (by kernel_rfl) noPanic_false (by kernel_rfl) (fun _ _ => by kernel_rfl) hS0 ?_
  refine tk 12 80 (.int .i64 (k : Int)) (fuel := 11) rfl (by kernel_rfl) (by kernel_rfl) (by kernel_rfl) (by kernel_rfl) noPanic_false (by kernel_rfl) (fun _ _ => by kernel_rfl) hS0 ?_
  refine tk 13 81 (.slice (some ⟨b, o, none⟩) k cap) (fuel := 10) rfl (by kernel_rfl) (by kernel_rfl) (by kernel_rfl) (by kernel_rfl) noPanic_false (by kernel_rfl) (fun _ _ => x_slice (x := .tmp 79) (y := .tmp 80) (b := b) (off := o) (len := bs.length) (cap := cap) (k := k) (by kernel_rfl) (by kernel_rfl) (by kernel_rfl) (Nat.le_trans hk1 hcap)) hS0 ?_
  refine tk 14 82 (.string (strOf (bs.take k))) (fuel := 9) rfl (by kernel_rfl) (by kernel_rfl) (by kernel_rfl) (by kernel_rfl) noPanic_false (by kernel_rfl) (fun W hW => x_conv (x := .tmp 81) (by kernel_rfl) (by kernel_rfl) (conv_take cap k (p2T.after hW) hk1)) hS0 ?_
  refine tkCall 9 77 15 #[.string (strOf s)] _ (fuel := 8) rfl (by kernel_rfl) (by kernel_rfl) (by kernel_rfl) (fun _ => by kernel_rfl) hS0 (text_any s hs _) ?_
  intro p3v p3w p3r p3s
  have p3B : After w p3w := After.trans B6 p3s
  have p3T := T6.after p3s
  refine tk 10 78 (.string (strOf (textB s))) (fuel := 7) rfl (by kernel_rfl) (by kernel_rfl) (by kernel_rfl) (by kernel_rfl) noPanic_false (by kernel_rfl) (fun W hW => x_conv (x := .tmp 77) (by kernel_rfl) (by kernel_rfl) (Own.convA p3r hW)) (After.refl p3w) ?_
  refine tk 15 83 (.bool true) (fuel := 6) rfl (by kernel_rfl) (by kernel_rfl) (by kernel_rfl) (by kernel_rfl) noPanic_false (by kernel_rfl) (fun _ _ => x_streq (x := .tmp 78) (y := .tmp 82) (s := strOf (textB s)) (t := strOf (bs.take k)) (by kernel_rfl) (by kernel_rfl) (by kernel_rfl) (congrArg strOf hT)) (After.refl p3w) ?_
  refine tk 16 84 (.bool true) (fuel := 5) rfl (by kernel_rfl) (by kernel_rfl) (by kernel_rfl) (by kernel_rfl) noPanic_false (by kernel_rfl) (fun _ _ => by kernel_rfl) (After.refl p3w) ?_
  refine tk 17 85 (.bool true) (fuel := 4) rfl (by kernel_rfl) (by kernel_rfl) (by kernel_rfl) (by kernel_rfl) noPanic_false (by kernel_rfl) (fun _ _ => by kernel_rfl) (After.refl p3w) ?_
  refine tk 18 86 (.bool true) (fuel := 3) rfl (by kernel_rfl) (by kernel_rfl) (by kernel_rfl) (by kernel_rfl) noPanic_false (by kernel_rfl) (fun _ _ => by kernel_rfl) (After.refl p3w) ?_
  refine tkCall 19 87 17 #[] _ (fuel := 2) rfl (by kernel_rfl) (by kernel_rfl) (by kernel_rfl) (fun _ => by kernel_rfl) (After.refl p3w) (awake_ex _) ?_
  rintro p4v p4w rfl p4s
  have p4B : After w p4w := After.trans p3B p4s
  have p4T := p3T.after p4s
  refine tk 20 88 (.bool true) (fuel := 1) rfl (by kernel_rfl) (by kernel_rfl) (by kernel_rfl) (by kernel_rfl) noPanic_false (by kernel_rfl) (fun _ _ => by kernel_rfl) (After.refl p4w) ?_
  refine tk 21 2 (.bool true) (fuel := 0) rfl (by kernel_rfl) (by kernel_rfl) (by kernel_rfl) (by kernel_rfl) noPanic_false (by kernel_rfl) (fun _ _ => by kernel_rfl) (After.refl p4w) ?_
  refine wpAnyH_done (by kernel_rfl) (NoPanic.normal ?_) _
  go_simp
  go_wp2
  go_ret
  exact ⟨rfl, p4B⟩
set_option maxRecDepth 100000 in
set_option maxHeartbeats 800000 in
theorem only_110 (b o : Nat) (cap : Nat) (bs : List UInt8) (hcap : bs.length ≤ cap) (w : World) (hat : BytesAt w (some ⟨b, o, none⟩) bs) (n i j k q3 : Nat) (m : Int) (s : List UInt8)
    (hn : n < 18446744073709551616) (hm0 : -9223372036854775808 ≤ m) (hm1 : m ≤ 9223372036854775807) (hs : s.length ≤ 140737488351232) (hi1 : i ≤ bs.length) (hj1 : j ≤ bs.length) (hk1 : k ≤ bs.length) (hU : uintB n = bs.take i) (hI : intB m = bs.take j) (hq3 : ¬ q3 = 0)
    (c1 : ∀ w, BytesAt w (some ⟨b, o, none⟩) bs → Calls Try.prog 18 #[.slice (some ⟨b, o, none⟩) bs.length cap] w fun e w' => e = .returned (.tuple #[.int .u64 (n : Int), .int .i64 (i : Int), .int .i64 0]) ∧ Below w.heap.size w w')
    (c2 : ∀ w, BytesAt w (some ⟨b, o, none⟩) bs → Calls Try.prog 20 #[.slice (some ⟨b, o, none⟩) bs.length cap] w fun e w' => e = .returned (.tuple #[.int .i64 m, .int .i64 (j : Int), .int .i64 0]) ∧ Below w.heap.size w w')
    (c3 : ∀ w, BytesAt w (some ⟨b, o, none⟩) bs → Calls Try.prog 22 #[.slice (some ⟨b, o, none⟩) bs.length cap, .int .i64 1099511627776] w fun e w' => e = .returned (.tuple #[.string (strOf s), .int .i64 (k : Int), .int .i64 (q3 : Int)]) ∧ Below w.heap.size w w') :
    Calls Try.prog 8 #[.slice (some ⟨b, o, none⟩) bs.length cap] w fun e w' => e = .returned (.bool true) ∧ Below w.heap.size w w' := by
  have _u : _ ∧ _ ∧ _ ∧ _ ∧ _ ∧ _ ∧ _ ∧ _ := ⟨hn, hm0, hm1, hs, hi1, hj1, hk1, hcap⟩
  clear _u
  have HAT : Hid (BytesAt w (some ⟨b, o, none⟩) bs) := hat
  have C1 := show Hid _ from c1
  have C2 := show Hid _ from c2
  have C3 := show Hid _ from c3
  clear hat c1 c2 c3
  go_enter Try.func8, Try.ntmps8
  go_wp2_with (first
    | (go_at_call 18; refine (C1.out _ HAT.out).mono ?_; rintro e w1 ⟨rfl, hb1⟩)
    | (go_at_call 20; refine (C2.out _ (HAT.out.after hb1)).mono ?_; rintro e w2 ⟨rfl, hb2⟩; have B2 : After w w2 := After.trans hb1 hb2)
    | (go_at_call 22; refine (C3.out _ (HAT.out.after B2)).mono ?_; rintro e W0 ⟨rfl, hb3⟩; have B3 : After w W0 := After.trans B2 hb3))
  have HT3 := HAT.out.after B3
  refine wp_region_noPanic ?_
  refine wp_region_held_drew (S := After W0) (by kernel_rfl) (After.drew (After.refl W0)) ?_
  intro hS0
  have B0 : After w W0.drew := After.drew B3
  have HT0 := HT3.after hS0
  refine tk 0 30 (.int .i64 0) (fuel := 37) rfl (by kernel_rfl) (by kernel_rfl) (by kernel_rfl) (by kernel_rfl) noPanic_false (by kernel_rfl) (fun _ _ => by kernel_rfl) hS0 ?_
  refine tk 1 31 (.bool true) (fuel := 36) rfl (by kernel_rfl) (by kernel_rfl) (by kernel_rfl) (by kernel_rfl) noPanic_false (by kernel_rfl) (fun _ _ => by kernel_rfl) hS0 ?_
  refine tk 2 32 (.bool true) (fuel := 35) rfl (by kernel_rfl) (by kernel_rfl) (by kernel_rfl) (by kernel_rfl) noPanic_false (by kernel_rfl) (fun _ _ => by kernel_rfl) hS0 ?_
  refine tk 3 33 (.int .i64 (i : Int)) (fuel := 34) rfl (by kernel_rfl) (by kernel_rfl) (by kernel_rfl) (by kernel_rfl) noPanic_false (by kernel_rfl) (fun _ _ => by kernel_rfl) hS0 ?_
  refine tk 4 34 (.slice (some ⟨b, o, none⟩) bs.length cap) (fuel := 33) rfl (by kernel_rfl) (by kernel_rfl) (by kernel_rfl) (by kernel_rfl) noPanic_false (by kernel_rfl) (fun _ _ => by kernel_rfl) hS0 ?_
  refine tk 5 35 (.int .i64 (bs.length : Int)) (fuel := 32) rfl (by kernel_rfl) (by kernel_rfl) (by kernel_rfl) (by kernel_rfl) noPanic_false (by kernel_rfl) (fun _ _ => by kernel_rfl) hS0 ?_
  refine tk 6 36 (.bool false) (fuel := 31) rfl (by kernel_rfl) (by kernel_rfl) (by kernel_rfl) (by kernel_rfl) noPanic_false (by kernel_rfl) (fun _ _ => x_gtr (t := 3) (x := .tmp 33) (y := .tmp 35) (p := i) (q := bs.length) (by kernel_rfl) (by kernel_rfl) (by kernel_rfl) hi1) hS0 ?_
  refine tk 7 37 (.bool false) (fuel := 30) rfl (by kernel_rfl) (by kernel_rfl) (by kernel_rfl) (by kernel_rfl) noPanic_false (by kernel_rfl) (fun _ _ => by kernel_rfl) hS0 ?_
  refine tk 8 38 (.int .u64 (n : Int)) (fuel := 29) rfl (by kernel_rfl) (by kernel_rfl) (by kernel_rfl) (by kernel_rfl) noPanic_false (by kernel_rfl) (fun _ _ => by kernel_rfl) hS0 ?_
  refine tk 11 41 (.slice (some ⟨b, o, none⟩) bs.length cap) (fuel := 28) rfl (by kernel_rfl) (by kernel_rfl) (by kernel_rfl) (by kernel_rfl) noPanic_false (by kernel_rfl) (fun _ _ => by kernel_rfl) hS0 ?_
  refine tk 12 42 (.int .i64 (i : Int)) (fuel := 27) rfl (by kernel_rfl) (by kernel_rfl) (by kernel_rfl) (by kernel_rfl) noPanic_false (by kernel_rfl) (fun _ _ => by kernel_rfl) hS0 ?_
  refine tk 13 43 (.slice (some ⟨b, o, none⟩) i cap) (fuel := 26) rfl (by kernel_rfl) (by kernel_rfl) (by kernel_rfl) (by kernel_rfl) noPanic_false (by kernel_rfl) (fun _ _ => x_slice (x := .tmp 41) (y := .tmp 42) (b := b) (off := o) (len := bs.length) (cap := cap) (k := i) (by kernel_rfl) (by kernel_rfl) (by kernel_rfl) (Nat.le_trans hi1 hcap)) hS0 ?_
  refine tk 14 44 (.string (strOf (bs.take i))) (fuel := 25) rfl (by kernel_rfl) (by kernel_rfl) (by kernel_rfl) (by kernel_rfl) noPanic_false (by kernel_rfl) (fun W hW => x_conv (x := .tmp 43) (by kernel_rfl) (by kernel_rfl) (conv_take cap i (HT3.after hW) hi1)) hS0 ?_
  refine tkCall 9 39 11 #[.int .u64 (n : Int)] _ (fuel := 24) rfl (by kernel_rfl) (by kernel_rfl) (by kernel_rfl) (fun _ => by kernel_rfl) hS0 (uint_any n hn _) ?_
  intro p1v p1w p1r p1s
  have p1B : After w p1w := After.trans B0 p1s
  have p1T := HT0.after p1s
  refine tk 10 40 (.string (strOf (uintB n))) (fuel := 23) rfl (by kernel_rfl) (by kernel_rfl) (by kernel_rfl) (by kernel_rfl) noPanic_false (by kernel_rfl) (fun W hW => x_conv (x := .tmp 39) (by kernel_rfl) (by kernel_rfl) (Own.convA p1r hW)) (After.refl p1w) ?_
  refine tk 15 45 (.bool false) (fuel := 22) rfl (by kernel_rfl) (by kernel_rfl) (by kernel_rfl) (by kernel_rfl) noPanic_false (by kernel_rfl) (fun _ _ => x_streqf (x := .tmp 40) (y := .tmp 44) (s := strOf (uintB n)) (t := strOf (bs.take i)) (by kernel_rfl) (by kernel_rfl) (by kernel_rfl) (congrArg strOf hU)) (After.refl p1w) ?_
  refine tk 16 46 (.bool false) (fuel := 21) rfl (by kernel_rfl) (by kernel_rfl) (by kernel_rfl) (by kernel_rfl) noPanic_false (by kernel_rfl) (fun _ _ => by kernel_rfl) (After.refl p1w) ?_
  refine tk 17 47 (.bool false) (fuel := 20) rfl (by kernel_rfl) (by kernel_rfl) (by kernel_rfl) (by kernel_rfl) noPanic_false (by kernel_rfl) (fun _ _ => by kernel_rfl) (After.refl p1w) ?_
  refine tk 18 48 (.bool false) (fuel := 19) rfl (by kernel_rfl) (by kernel_rfl) (by kernel_rfl) (by kernel_rfl) noPanic_false (by kernel_rfl) (fun _ _ => by kernel_rfl) (After.refl p1w) ?_
  refine tk 19 49 (.int .i64 0) (fuel := 18) rfl (by kernel_rfl) (by kernel_rfl) (by kernel_rfl) (by kernel_rfl) noPanic_false (by kernel_rfl) (fun _ _ => by kernel_rfl) (After.refl p1w) ?_
  refine tk 20 50 (.bool true) (fuel := 17) rfl (by kernel_rfl) (by kernel_rfl) (by kernel_rfl) (by kernel_rfl) noPanic_false (by kernel_rfl) (fun _ _ => by kernel_rfl) (After.refl p1w) ?_
  refine tk 21 51 (.bool true) (fuel := 16) rfl (by kernel_rfl) (by kernel_rfl) (by kernel_rfl) (by kernel_rfl) noPanic_false (by kernel_rfl) (fun _ _ => by kernel_rfl) (After.refl p1w) ?_
  refine tk 22 52 (.int .i64 (j : Int)) (fuel := 15) rfl (by kernel_rfl) (by kernel_rfl) (by kernel_rfl) (by kernel_rfl) noPanic_false (by kernel_rfl) (fun _ _ => by kernel_rfl) (After.refl p1w) ?_
  refine tk 23 53 (.slice (some ⟨b, o, none⟩) bs.length cap) (fuel := 14) rfl (by kernel_rfl) (by kernel_rfl) (by kernel_rfl) (by kernel_rfl) noPanic_false (by kernel_rfl) (fun _ _ => by kernel_rfl) (After.refl p1w) ?_
  refine tk 24 54 (.int .i64 (bs.length : Int)) (fuel := 13) rfl (by kernel_rfl) (by kernel_rfl) (by kernel_rfl) (by kernel_rfl) noPanic_false (by kernel_rfl) (fun _ _ => by kernel_rfl) (After.refl p1w) ?_
  refine tk 25 55 (.bool false) (fuel := 12) rfl (by kernel_rfl) (by kernel_rfl) (by kernel_rfl) (by kernel_rfl) noPanic_false (by kernel_rfl) (fun _ _ => x_gtr (t := 3) (x := .tmp 52) (y := .tmp 54) (p := j) (q := bs.length) (by kernel_rfl) (by kernel_rfl) (by kernel_rfl) hj1) (After.refl p1w) ?_
  refine tk 26 56 (.bool false) (fuel := 11) rfl (by kernel_rfl) (by kernel_rfl) (by kernel_rfl) (by kernel_rfl) noPanic_false (by kernel_rfl) (fun _ _ => by kernel_rfl) (After.refl p1w) ?_
  refine tk 27 57 (.int .i64 m) (fuel := 10) rfl (by kernel_rfl) (by kernel_rfl) (by kernel_rfl) (by kernel_rfl) noPanic_false (by kernel_rfl) (fun _ _ => by kernel_rfl) (After.refl p1w) ?_
  refine tk 30 60 (.slice (some ⟨b, o, none⟩) bs.length cap) (fuel := 9) rfl (by kernel_rfl) (by kernel_rfl) (by kernel_rfl) (by kernel_rfl) noPanic_false (by kernel_rfl) (fun _ _ => by kernel_rfl) (After.refl p1w) ?_
  refine tk 31 61 (.int .i64 (j : Int)) (fuel := 8) rfl (by kernel_rfl) (by kernel_rfl) (by kernel_rfl) (by kernel_rfl) noPanic_false (by kernel_rfl) (fun _ _ => by kernel_rfl) (After.refl p1w) ?_
  refine tk 32 62 (.slice (some ⟨b, o, none⟩) j cap) (fuel := 7) rfl (by kernel_rfl) (by kernel_rfl) (by kernel_rfl) (by kernel_rfl) noPanic_false (by kernel_rfl) (fun _ _ => x_slice (x := .tmp 60) (y := .tmp 61) (b := b) (off := o) (len := bs.length) (cap := cap) (k := j) (by kernel_rfl) (by kernel_rfl) (by kernel_rfl) (Nat.le_trans hj1 hcap)) (After.refl p1w) ?_
  refine tk 33 63 (.string (strOf (bs.take j))) (fuel := 6) rfl (by kernel_rfl) (by kernel_rfl) (by kernel_rfl) (by kernel_rfl) noPanic_false (by kernel_rfl) (fun W hW => x_conv (x := .tmp 62) (by kernel_rfl) (by kernel_rfl) (conv_take cap j (p1T.after hW) hj1)) (After.refl p1w) ?_
  refine tkCall 28 58 13 #[.int .i64 m] _ (fuel := 5) rfl (by kernel_rfl) (by kernel_rfl) (by kernel_rfl) (fun _ => by kernel_rfl) (After.refl p1w) (int_any m hm0 hm1 _) ?_
  intro p2v p2w p2r p2s
  have p2B : After w p2w := After.trans p1B p2s
  have p2T := p1T.after p2s
  refine tk 29 59 (.string (strOf (intB m))) (fuel := 4) rfl (by kernel_rfl) (by kernel_rfl) (by kernel_rfl) (by kernel_rfl) noPanic_false (by kernel_rfl) (fun W hW => x_conv (x := .tmp 58) (by kernel_rfl) (by kernel_rfl) (Own.convA p2r hW)) (After.refl p2w) ?_
  refine tk 34 64 (.bool false) (fuel := 3) rfl (by kernel_rfl) (by kernel_rfl) (by kernel_rfl) (by kernel_rfl) noPanic_false (by kernel_rfl) (fun _ _ => x_streqf (x := .tmp 59) (y := .tmp 63) (s := strOf (intB m)) (t := strOf (bs.take j)) (by kernel_rfl) (by kernel_rfl) (by kernel_rfl) (congrArg strOf hI)) (After.refl p2w) ?_
  refine tk 35 65 (.bool false) (fuel := 2) rfl (by kernel_rfl) (by kernel_rfl) (by kernel_rfl) (by kernel_rfl) noPanic_false (by kernel_rfl) (fun _ _ => by kernel_rfl) (After.refl p2w) ?_
  refine tk 36 66 (.bool false) (fuel := 1) rfl (by kernel_rfl) (by kernel_rfl) (by kernel_rfl) (by kernel_rfl) noPanic_false (by kernel_rfl) (fun _ _ => by kernel_rfl) (After.refl p2w) ?_
  refine tk 37 67 (.bool false) (fuel := 0) rfl (by kernel_rfl) (by kernel_rfl) (by kernel_rfl) (by kernel_rfl) noPanic_false (by kernel_rfl) (fun _ _ => by kernel_rfl) (After.refl p2w) ?_
  refine wpAnyH_done (by kernel_rfl) (NoPanic.normal ?_) _
  go_simp
  go_wp2
  refine wp_region_noPanic ?_
  refine wp_region_held_drew (S := After p2w) (by kernel_rfl) (After.drew (After.refl p2w)) ?_
  intro hS0
  have B6 : After w p2w.drew := After.drew p2B
  have T6 := p2T.after hS0
  refine tk 0 68 (.int .i64 (q3 : Int)) (fuel := 21) rfl (by kernel_rfl) (by kernel_rfl) (by kernel_rfl) (by kernel_rfl) noPanic_false (by kernel_rfl) (fun _ _ => by kernel_rfl) hS0 ?_
  refine tk 1 69 (.bool true) (fuel := 20) rfl (by kernel_rfl) (by kernel_rfl) (by kernel_rfl) (by kernel_rfl) noPanic_false (by kernel_rfl) (fun _ _ => x_neq0 (t := 29) (x := .tmp 68) (y := .const (.int .i64 0)) (by kernel_rfl) (q := q3) (by kernel_rfl) (by kernel_rfl) hq3) hS0 ?_
  refine tk 2 70 (.bool true) (fuel := 19) rfl (by kernel_rfl) (by kernel_rfl) (by kernel_rfl) (by kernel_rfl) noPanic_false (by kernel_rfl) (fun _ _ => by kernel_rfl) hS0 ?_
  refine tkSkip 3 71 (fuel := 18) rfl (by kernel_rfl) (by kernel_rfl) (by kernel_rfl) (by kernel_rfl) noPanic_false (by kernel_rfl) hS0 ?_
  refine tkSkip 4 72 (fuel := 17) rfl (by kernel_rfl) (by kernel_rfl) (by kernel_rfl) (by kernel_rfl) noPanic_false (by kernel_rfl) hS0 ?_
  refine tkSkip 5 73 (fuel := 16) rfl (by kernel_rfl) (by kernel_rfl) (by kernel_rfl) (by kernel_rfl) noPanic_false (by kernel_rfl) hS0 ?_
  refine tkSkip 6 74 (fuel := 15) rfl (by kernel_rfl) (by kernel_rfl) (by kernel_rfl) (by kernel_rfl) noPanic_false (by kernel_rfl) hS0 ?_
  refine tkSkip 7 75 (fuel := 14) rfl (by kernel_rfl) (by kernel_rfl) (by kernel_rfl) (by kernel_rfl) noPanic_false (by kernel_rfl) hS0 ?_
  refine tkSkip 8 76 (fuel := 13) rfl (by kernel_rfl) (by kernel_rfl) (by kernel_rfl) (by kernel_rfl) noPanic_false (by kernel_rfl) hS0 ?_
  refine tkSkip 9 77 (fuel := 12) rfl (by kernel_rfl) (by kernel_rfl) (by kernel_rfl) (by kernel_rfl) noPanic_false (by kernel_rfl) hS0 ?_
  refine tkSkip 10 78 (fuel := 11) rfl (by kernel_rfl) (by kernel_rfl) (by kernel_rfl) (by kernel_rfl) noPanic_false (by kernel_rfl) hS0 ?_
  refine tkSkip 11 79 (fuel := 10) rfl (by kernel_rfl) (by kernel_rfl) (by kernel_rfl) (by kernel_rfl) noPanic_false (by kernel_rfl) hS0 ?_
  refine tkSkip 12 80 (fuel := 9) rfl (by kernel_rfl) (by kernel_rfl) (by kernel_rfl) (by kernel_rfl) noPanic_false (by kernel_rfl) hS0 ?_
  refine tkSkip 13 81 (fuel := 8) rfl (by kernel_rfl) (by kernel_rfl) (by kernel_rfl) (by kernel_rfl) noPanic_false (by kernel_rfl) hS0 ?_
  refine tkSkip 14 82 (fuel := 7) rfl (by kernel_rfl) (by kernel_rfl) (by kernel_rfl) (by kernel_rfl) noPanic_false (by kernel_rfl) hS0 ?_
  refine tkSkip 15 83 (fuel := 6) rfl (by kernel_rfl) (by kernel_rfl) (by kernel_rfl) (by kernel_rfl) noPanic_false (by kernel_rfl) hS0 ?_
  refine tkSkip 16 84 (fuel := 5) rfl (by kernel_rfl) (by kernel_rfl) (by kernel_rfl) (by kernel_rfl) noPanic_false (by kernel_rfl) hS0 ?_
  refine tk 17 85 (.bool true) (fuel := 4) rfl (by kernel_rfl) (by kernel_rfl) (by kernel_rfl) (by kernel_rfl) noPanic_false (by kernel_rfl) (fun _ _ => by kernel_rfl) hS0 ?_
  refine tk 18 86 (.bool true) (fuel := 3) rfl (by kernel_rfl) (by kernel_rfl) (by kernel_rfl) (by kernel_rfl) noPanic_false (by kernel_rfl) (fun _ _ => by kernel_rfl) hS0 ?_
  refine tkCall 19 87 17 #[] _ (fuel := 2) rfl (by kernel_rfl) (by kernel_rfl) (by kernel_rfl) (fun _ => by kernel_rfl) hS0 (awake_ex _) ?_
  rintro p3v p3w rfl p3s
  have p3B : After w p3w := After.trans B6 p3s
  have p3T := T6.after p3s
  refine tk 20 88 (.bool true) (fuel := 1) rfl (by kernel_rfl) (by kernel_rfl) (by kernel_rfl) (by kernel_rfl) noPanic_false (by kernel_rfl) (fun _ _ => by kernel_rfl) (After.refl p3w) ?_
  refine tk 21 2 (.bool true) (fuel := 0) rfl (by kernel_rfl) (by kernel_rfl) (by kernel_rfl) (by kernel_rfl) noPanic_false (by kernel_rfl) (fun _ _ => by kernel_rfl) (After.refl p3w) ?_
  refine wpAnyH_done (by kernel_rfl) (NoPanic.normal ?_) _
  go_simp
  go_wp2
  go_ret
  exact ⟨rfl, p3B⟩
set_option maxRecDepth 100000 in
set_option maxHeartbeats 800000 in
theorem only_101 (b o : Nat) (cap : Nat) (bs : List UInt8) (hcap : bs.length ≤ cap) (w : World) (hat : BytesAt w (some ⟨b, o, none⟩) bs) (n i j k q2 : Nat) (m : Int) (s : List UInt8)
    (hn : n < 18446744073709551616) (hm0 : -9223372036854775808 ≤ m) (hm1 : m ≤ 9223372036854775807) (hs : s.length ≤ 140737488351232) (hi1 : i ≤ bs.length) (hj1 : j ≤ bs.length) (hk1 : k ≤ bs.length) (hU : uintB n = bs.take i) (hq2 : ¬ q2 = 0) (hT : textB s = bs.take k)
    (c1 : ∀ w, BytesAt w (some ⟨b, o, none⟩) bs → Calls Try.prog 18 #[.slice (some ⟨b, o, none⟩) bs.length cap] w fun e w' => e = .returned (.tuple #[.int .u64 (n : Int), .int .i64 (i : Int), .int .i64 0]) ∧ Below w.heap.size w w')
    (c2 : ∀ w, BytesAt w (some ⟨b, o, none⟩) bs → Calls Try.prog 20 #[.slice (some ⟨b, o, none⟩) bs.length cap] w fun e w' => e = .returned (.tuple #[.int .i64 m, .int .i64 (j : Int), .int .i64 (q2 : Int)]) ∧ Below w.heap.size w w')
    (c3 : ∀ w, BytesAt w (some ⟨b, o, none⟩) bs → Calls Try.prog 22 #[.slice (some ⟨b, o, none⟩) bs.length cap, .int .i64 1099511627776] w fun e w' => e = .returned (.tuple #[.string (strOf s), .int .i64 (k : Int), .int .i64 0]) ∧ Below w.heap.size w w') :
    Calls Try.prog 8 #[.slice (some ⟨b, o, none⟩) bs.length cap] w fun e w' => e = .returned (.bool true) ∧ Below w.heap.size w w' := by
  have _u : _ ∧ _ ∧ _ ∧ _ ∧ _ ∧ _ ∧ _ ∧ _ := ⟨hn, hm0, hm1, hs, hi1, hj1, hk1, hcap⟩
  clear _u
  have HAT : Hid (BytesAt w (some ⟨b, o, none⟩) bs) := hat
  have C1 := show Hid _ from c1
  have C2 := show Hid _ from c2
  have C3 := show Hid _ from c3
  clear hat c1 c2 c3
  go_enter Try.func8, Try.ntmps8
  go_wp2_with (first
    | (go_at_call 18; refine (C1.out _ HAT.out).mono ?_; rintro e w1 ⟨rfl, hb1⟩)
    | (go_at_call 20; refine (C2.out _ (HAT.out.after hb1)).mono ?_; rintro e w2 ⟨rfl, hb2⟩; have B2 : After w w2 := After.trans hb1 hb2)
    | (go_at_call 22; refine (C3.out _ (HAT.out.after B2)).mono ?_; rintro e W0 ⟨rfl, hb3⟩; have B3 : After w W0 := After.trans B2 hb3))
  have HT3 := HAT.out.after B3
  refine wp_region_noPanic ?_
  refine wp_region_held_drew (S := After W0) (by kernel_rfl) (After.drew (After.refl W0)) ?_
  intro hS0
  have B0 : After w W0.drew := After.drew B3
  have HT0 := HT3.after hS0
  refine tk 0 30 (.int .i64 0) (fuel := 37) rfl (by kernel_rfl) (by kernel_rfl) (by kernel_rfl) (by kernel_rfl) noPanic_false (by kernel_rfl) (fun _ _ => by kernel_rfl) hS0 ?_
  refine tk 1 31 (.bool true) (fuel := 36) rfl (by kernel_rfl) (by kernel_rfl) (by kernel_rfl) (by kernel_rfl) noPanic_false (by kernel_rfl) (fun _ _ => by kernel_rfl) hS0 ?_
  refine tk 2 32 (.bool true) (fuel := 35) rfl (by kernel_rfl) (by kernel_rfl) (by kernel_rfl) (by kernel_rfl) noPanic_false (by kernel_rfl) (fun _ _ => by kernel_rfl) hS0 ?_
  refine tk 3 33 (.int .i64 (i : Int)) (fuel := 34) rfl (by kernel_rfl) (by kernel_rfl) (by kernel_rfl) (by kernel_rfl) noPanic_false (by kernel_rfl) (fun _ _ => by kernel_rfl) hS0 ?_
  refine tk 4 34 (.slice (some ⟨b, o, none⟩) bs.length cap) (fuel := 33) rfl (by kernel_rfl) (by kernel_rfl) (by kernel_rfl) (by kernel_rfl) noPanic_false (by kernel_rfl) (fun _ _ => by kernel_rfl) hS0 ?_
  refine tk 5 35 (.int .i64 (bs.length : Int)) (fuel := 32) rfl (by kernel_rfl) (by kernel_rfl) (by kernel_rfl) (by kernel_rfl) noPanic_false (by kernel_rfl) (fun _ _ => by kernel_rfl) hS0 ?_
  refine tk 6 36 (.bool false) (fuel := 31) rfl (by kernel_rfl) (by kernel_rfl) (by kernel_rfl) (by kernel_rfl) noPanic_false (by kernel_rfl) (fun _ _ => x_gtr (t := 3) (x := .tmp 33) (y := .tmp 35) (p := i) (q := bs.length) (by kernel_rfl) (by kernel_rfl) (by kernel_rfl) hi1) hS0 ?_
  refine tk 7 37 (.bool false) (fuel := 30) rfl (by kernel_rfl) (by kernel_rfl) (by kernel_rfl) (by kernel_rfl) noPanic_false (by kernel_rfl) (fun _ _ => by kernel_rfl) hS0 ?_
  refine tk 8 38 (.int .u64 (n : Int)) (fuel := 29) rfl (by kernel_rfl) (by kernel_rfl) (by kernel_rfl) (by kernel_rfl) noPanic_false (by kernel_rfl) (fun _ _ => by kernel_rfl) hS0 ?_
  refine tk 11 41 (.slice (some ⟨b, o, none⟩) bs.length cap) (fuel := 28) rfl (by kernel_rfl) (by kernel_rfl) (by kernel_rfl) (by kernel_rfl) noPanic_false (by kernel_rfl) (fun _ _ => by kernel_rfl) hS0 ?_
  refine tk 12 42 (.int .i64 (i : Int)) (fuel := 27) rfl (by kernel_rfl) (by kernel_rfl) (by kernel_rfl) (by kernel_rfl) noPanic_false (by kernel_rfl) (fun _ _ => by kernel_rfl) hS0 ?_
  refine tk 13 43 (.slice (some ⟨b, o, none⟩) i cap) (fuel := 26) rfl (by kernel_rfl) (by kernel_rfl) (by kernel_rfl) (by kernel_rfl) noPanic_false (by kernel_rfl) (fun _ _ => x_slice (x := .tmp 41) (y := .tmp 42) (b := b) (off := o) (len := bs.length) (cap := cap) (k := i) (by kernel_rfl) (by kernel_rfl) (by kernel_rfl) (Nat.le_trans hi1 hcap)) hS0 ?_
  refine tk 14 44 (.string (strOf (bs.take i))) (fuel := 25) rfl (by kernel_rfl) (by kernel_rfl) (by kernel_rfl) (by kernel_rfl) noPanic_false (by kernel_rfl) (fun W hW => x_conv (x := .tmp 43) (by kernel_rfl) (by kernel_rfl) (conv_take cap i (HT3.after hW) hi1)) hS0 ?_
  refine tkCall 9 39 11 #[.int .u64 (n : Int)] _ (fuel := 24) rfl (by kernel_rfl) (by kernel_rfl) (by kernel_rfl) (fun _ => by kernel_rfl) hS0 (uint_any n hn _) ?_
  intro p1v p1w p1r p1s
  have p1B : After w p1w := After.trans B0 p1s
  have p1T := HT0.after p1s
  refine tk 10 40 (.string (strOf (uintB n))) (fuel := 23) rfl (by kernel_rfl) (by kernel_rfl) (by kernel_rfl) (by kernel_rfl) noPanic_false (by kernel_rfl) (fun W hW => x_conv (x := .tmp 39) (by kernel_rfl) (by kernel_rfl) (Own.convA p1r hW)) (After.refl p1w) ?_
  refine tk 15 45 (.bool false) (fuel := 22) rfl (by kernel_rfl) (by kernel_rfl) (by kernel_rfl) (by kernel_rfl) noPanic_false (by kernel_rfl) (fun _ _ => x_streqf (x := .tmp 40) (y := .tmp 44) (s := strOf (uintB n)) (t := strOf (bs.take i)) (by kernel_rfl) (by kernel_rfl) (by kernel_rfl) (congrArg strOf hU)) (After.refl p1w) ?_
  refine tk 16 46 (.bool false) (fuel := 21) rfl (by kernel_rfl) (by kernel_rfl) (by kernel_rfl) (by kernel_rfl) noPanic_false (by kernel_rfl) (fun _ _ => by kernel_rfl) (After.refl p1w) ?_
  refine tk 17 47 (.bool false) (fuel := 20) rfl (by kernel_rfl) (by kernel_rfl) (by kernel_rfl) (by kernel_rfl) noPanic_false (by kernel_rfl) (fun _ _ => by kernel_rfl) (After.refl p1w) ?_
  refine tk 18 48 (.bool false) (fuel := 19) rfl (by kernel_rfl) (by kernel_rfl) (by kernel_rfl) (by kernel_rfl) noPanic_false (by kernel_rfl) (fun _ _ => by kernel_rfl) (After.refl p1w) ?_
  refine tk 19 49 (.int .i64 (q2 : Int)) (fuel := 18) rfl (by kernel_rfl) (by kernel_rfl) (by kernel_rfl) (by kernel_rfl) noPanic_false (by kernel_rfl) (fun _ _ => by kernel_rfl) (After.refl p1w) ?_
  refine tk 20 50 (.bool false) (fuel := 17) rfl (by kernel_rfl) (by kernel_rfl) (by kernel_rfl) (by kernel_rfl) noPanic_false (by kernel_rfl) (fun _ _ => x_ne0 (t := 29) (x := .tmp 49) (y := .const (.int .i64 0)) (by kernel_rfl) (q := q2) (by kernel_rfl) (by kernel_rfl) hq2) (After.refl p1w) ?_
  refine tk 21 51 (.bool false) (fuel := 16) rfl (by kernel_rfl) (by kernel_rfl) (by kernel_rfl) (by kernel_rfl) noPanic_false (by kernel_rfl) (fun _ _ => by kernel_rfl) (After.refl p1w) ?_
  refine tkSkip 22 52 (fuel := 15) rfl (by kernel_rfl) (by kernel_rfl) (by kernel_rfl) (by kernel_rfl) noPanic_false (by kernel_rfl) (After.refl p1w) ?_
  refine tkSkip 23 53 (fuel := 14) rfl (by kernel_rfl) (by kernel_rfl) (by kernel_rfl) (by kernel_rfl) noPanic_false (by kernel_rfl) (After.refl p1w) ?_
  refine tkSkip 24 54 (fuel := 13) rfl (by kernel_rfl) (by kernel_rfl) (by kernel_rfl) (by kernel_rfl) noPanic_false (by kernel_rfl) (After.refl p1w) ?_
  refine tkSkip 25 55 (fuel := 12) rfl (by kernel_rfl) (by kernel_rfl) (by kernel_rfl) (by kernel_rfl) noPanic_false (by kernel_rfl) (After.refl p1w) ?_
  refine tkSkip 26 56 (fuel := 11) rfl (by kernel_rfl) (by kernel_rfl) (by kernel_rfl) (by kernel_rfl) noPanic_false (by kernel_rfl) (After.refl p1w) ?_
  refine tkSkip 27 57 (fuel := 10) rfl (by kernel_rfl) (by kernel_rfl) (by kernel_rfl) (by kernel_rfl) noPanic_false (by kernel_rfl) (After.refl p1w) ?_
  refine tkSkip 28 58 (fuel := 9) rfl (by kernel_rfl) (by kernel_rfl) (by kernel_rfl) (by kernel_rfl) noPanic_false (by kernel_rfl) (After.refl p1w) ?_
  refine tkSkip 29 59 (fuel := 8) rfl (by kernel_rfl) (by kernel_rfl) (by kernel_rfl) (by kernel_rfl) noPanic_false (by kernel_rfl) (After.refl p1w) ?_
  refine tkSkip 30 60 (fuel := 7) rfl (by kernel_rfl) (by kernel_rfl) (by kernel_rfl) (by kernel_rfl) noPanic_false (by kernel_rfl) (After.refl p1w) ?_
  refine tkSkip 31 61 (fuel := 6) rfl (by kernel_rfl) (by kernel_rfl) (by kernel_rfl) (by kernel_rfl) noPanic_false (by kernel_rfl) (After.refl p1w) ?_
  refine tkSkip 32 62 (fuel := 5) rfl (by kernel_rfl) (by kernel_rfl) (by kernel_rfl) (by kernel_rfl) noPanic_false (by kernel_rfl) (After.refl p1w) ?_
  refine tkSkip 33 63 (fuel := 4) rfl (by kernel_rfl) (by kernel_rfl) (by kernel_rfl) (by kernel_rfl) noPanic_false (by kernel_rfl) (After.refl p1w) ?_
  refine tkSkip 34 64 (fuel := 3) rfl (by kernel_rfl) (by kernel_rfl) (by kernel_rfl) (by kernel_rfl) noPanic_false (by kernel_rfl) (After.refl p1w) ?_
  refine tkSkip 35 65 (fuel := 2) rfl (by kernel_rfl) (by kernel_rfl) (by kernel_rfl) (by kernel_rfl) noPanic_false (by kernel_rfl) (After.refl p1w) ?_
  refine tk 36 66 (.bool false) (fuel := 1) rfl (by kernel_rfl) (by kernel_rfl) (by kernel_rfl) (by kernel_rfl) noPanic_false (by kernel_rfl) (fun _ _ => by kernel_rfl) (After.refl p1w) ?_
  refine tk 37 67 (.bool false) (fuel := 0) rfl (by kernel_rfl) (by kernel_rfl) (by kernel_rfl) (by kernel_rfl) noPanic_false (by kernel_rfl) (fun _ _ => by kernel_rfl) (After.refl p1w) ?_
  refine wpAnyH_done (by kernel_rfl) (NoPanic.normal ?_) _
  go_simp
  go_wp2
  refine wp_region_noPanic ?_
  refine wp_region_held_drew (S := After p1w) (by kernel_rfl) (After.drew (After.refl p1w)) ?_
  intro hS0
  have B6 : After w p1w.drew := After.drew p1B
  have T6 := p1T.after hS0
  refine tk 0 68 (.int .i64 0) (fuel := 21) rfl (by kernel_rfl) (by kernel_rfl) (by kernel_rfl) (by kernel_rfl) noPanic_false (by kernel_rfl) (fun _ _ => by kernel_rfl) hS0 ?_
  refine tk 1 69 (.bool false) (fuel := 20) rfl (by kernel_rfl) (by kernel_rfl) (by kernel_rfl) (by kernel_rfl) noPanic_false (by kernel_rfl) (fun _ _ => by kernel_rfl) hS0 ?_
  refine tk 2 70 (.bool false) (fuel := 19) rfl (by kernel_rfl) (by kernel_rfl) (by kernel_rfl) (by kernel_rfl) noPanic_false (by kernel_rfl) (fun _ _ => by kernel_rfl) hS0 ?_
  refine tk 3 71 (.int .i64 (k : Int)) (fuel := 18) rfl (by kernel_rfl) (by kernel_rfl) (by kernel_rfl) (by kernel_rfl) noPanic_false (by kernel_rfl) (fun _ _ => by kernel_rfl) hS0 ?_
  refine tk 4 72 (.slice (some ⟨b, o, none⟩) bs.length cap) (fuel := 17) rfl (by kernel_rfl) (by kernel_rfl) (by kernel_rfl) (by kernel_rfl) noPanic_false (by kernel_rfl) (fun _ _ => by kernel_rfl) hS0 ?_
  refine tk 5 73 (.int .i64 (bs.length : Int)) (fuel := 16) rfl (by kernel_rfl) (by kernel_rfl) (by kernel_rfl) (by kernel_rfl) noPanic_false (by kernel_rfl) (fun _ _ => by kernel_rfl) hS0 ?_
  refine tk 6 74 (.bool true) (fuel := 15) rfl (by kernel_rfl) (by kernel_rfl) (by kernel_rfl) (by kernel_rfl) noPanic_false (by kernel_rfl) (fun _ _ => x_leq (t := 3) (x := .tmp 71) (y := .tmp 73) (p := k) (q := bs.length) (by kernel_rfl) (by kernel_rfl) (by kernel_rfl) hk1) hS0 ?_
  refine tk 7 75 (.bool true) (fuel := 14) rfl (by kernel_rfl) (by kernel_rfl) (by kernel_rfl) (by kernel_rfl) noPanic_false (by kernel_rfl) (fun _ _ => by kernel_rfl) hS0 ?_
  refine tk 8 76 (.string (strOf s)) (fuel := 13) rfl (by kernel_rfl) (by kernel_rfl) (by kernel_rfl) (by kernel_rfl) noPanic_false (by kernel_rfl) (fun _ _ => by kernel_rfl) hS0 ?_
  refine tk 11 79 (.slice (some ⟨b, o, none⟩) bs.length cap) (fuel := 12) rfl (by kernel_rfl) (by kernel_rfl) (by kernel_rfl) (by kernel_rfl) noPanic_false (by kernel_rfl) (fun _ _ => by kernel_rfl) hS0 ?_
  refine tk 12 80 (.int .i64 (k : Int)) (fuel := 11) rfl (by kernel_rfl) (by kernel_rfl) (by kernel_rfl) (by kernel_rfl) noPanic_false (by kernel_rfl) (fun _ _ => by kernel_rfl) hS0 ?_
  refine tk 13 81 (.slice (some ⟨b, o, none⟩) k cap) (fuel := 10) rfl (by kernel_rfl) (by kernel_rfl) (by kernel_rfl) (by kernel_rfl) noPanic_false (by kernel_rfl) (fun _ _ => x_slice (x := .tmp 79) (y := .tmp 80) (b := b) (off := o) (len := bs.length) (cap := cap) (k := k) (by kernel_rfl) (by kernel_rfl) (by kernel_rfl) (Nat.le_trans hk1 hcap)) hS0 ?_
  refine tk 14 82 (.string (strOf (bs.take k))) (fuel := 9) rfl (by kernel_rfl) (by kernel_rfl) (by kernel_rfl) (by kernel_rfl) noPanic_false (by kernel_rfl) (fun W hW => x_conv (x := .tmp 81) (by kernel_rfl) (by kernel_rfl) (conv_take cap k (p1T.after hW) hk1)) hS0 ?_
  refine tkCall 9 77 15 #[.string (strOf s)] _ (fuel := 8) rfl (by kernel_rfl) (by kernel_rfl) (by kernel_rfl) (fun _ => by kernel_rfl) hS0 (text_any s hs _) ?_
  intro p2v p2w p2r p2s
  have p2B : After w p2w := After.trans B6 p2s
  have p2T := T6.after p2s
  refine tk 10 78 (.string (strOf (textB s))) (fuel := 7) rfl (by kernel_rfl) (by kernel_rfl) (by kernel_rfl) (by kernel_rfl) noPanic_false (by kernel_rfl) (fun W hW => x_conv (x := .tmp 77) (by kernel_rfl) (by kernel_rfl) (Own.convA p2r hW)) (After.refl p2w) ?_
  refine tk 15 83 (.bool true) (fuel := 6) rfl (by kernel_rfl) (by kernel_rfl) (by kernel_rfl) (by kernel_rfl) noPanic_false (by kernel_rfl) (fun _ _ => x_streq (x := .tmp 78) (y := .tmp 82) (s := strOf (textB s)) (t := strOf (bs.take k)) (by kernel_rfl) (by kernel_rfl) (by kernel_rfl) (congrArg strOf hT)) (After.refl p2w) ?_
  refine tk 16 84 (.bool true) (fuel := 5) rfl (by kernel_rfl) (by kernel_rfl) (by kernel_rfl) (by kernel_rfl) noPanic_false (by kernel_rfl) (fun _ _ => by kernel_rfl) (After.refl p2w) ?_
  refine tk 17 85 (.bool true) (fuel := 4) rfl (by kernel_rfl) (by kernel_rfl) (by kernel_rfl) (by kernel_rfl) noPanic_false (by kernel_rfl) (fun _ _ => by kernel_rfl) (After.refl p2w) ?_
  refine tk 18 86 (.bool true) (fuel := 3) rfl (by kernel_rfl) (by kernel_rfl) (by kernel_rfl) (by kernel_rfl) noPanic_false (by kernel_rfl) (fun _ _ => by kernel_rfl) (After.refl p2w) ?_
  refine tkCall 19 87 17 #[] _ (fuel := 2) rfl (by kernel_rfl) (by kernel_rfl) (by kernel_rfl) (fun _ => by kernel_rfl) (After.refl p2w) (awake_ex _) ?_
  rintro p3v p3w rfl p3s
  have p3B : After w p3w := After.trans p2B p3s
  have p3T := p2T.after p3s
  refine tk 20 88 (.bool true) (fuel := 1) rfl (by kernel_rfl) (by kernel_rfl) (by kernel_rfl) (by kernel_rfl) noPanic_false (by kernel_rfl) (fun _ _ => by kernel_rfl) (After.refl p3w) ?_
  refine tk 21 2 (.bool true) (fuel := 0) rfl (by kernel_rfl) (by kernel_rfl) (by kernel_rfl) (by kernel_rfl) noPanic_false (by kernel_rfl) (fun _ _ => by kernel_rfl) (After.refl p3w) ?_
  refine wpAnyH_done (by kernel_rfl) (NoPanic.normal ?_) _
  go_simp
  go_wp2
  go_ret
  exact ⟨rfl, p3B⟩
set_option maxRecDepth 100000 in
set_option maxHeartbeats 800000 in
theorem only_100 (b o : Nat) (cap : Nat) (bs : List UInt8) (hcap : bs.length ≤ cap) (w : World) (hat : BytesAt w (some ⟨b, o, none⟩) bs) (n i j k q2 q3 : Nat) (m : Int) (s : List UInt8)
    (hn : n < 18446744073709551616) (hm0 : -9223372036854775808 ≤ m) (hm1 : m ≤ 9223372036854775807) (hs : s.length ≤ 140737488351232) (hi1 : i ≤ bs.length) (hj1 : j ≤ bs.length) (hk1 : k ≤ bs.length) (hU : uintB n = bs.take i) (hq2 : ¬ q2 = 0) (hq3 : ¬ q3 = 0)
    (c1 : ∀ w, BytesAt w (some ⟨b, o, none⟩) bs → Calls Try.prog 18 #[.slice (some ⟨b, o, none⟩) bs.length cap] w fun e w' => e = .returned (.tuple #[.int .u64 (n : Int), .int .i64 (i : Int), .int .i64 0]) ∧ Below w.heap.size w w')
    (c2 : ∀ w, BytesAt w (some ⟨b, o, none⟩) bs → Calls Try.prog 20 #[.slice (some ⟨b, o, none⟩) bs.length cap] w fun e w' => e = .returned (.tuple #[.int .i64 m, .int .i64 (j : Int), .int .i64 (q2 : Int)]) ∧ Below w.heap.size w w')
    (c3 : ∀ w, BytesAt w (some ⟨b, o, none⟩) bs → Calls Try.prog 22 #[.slice (some ⟨b, o, none⟩) bs.length cap, .int .i64 1099511627776] w fun e w' => e = .returned (.tuple #[.string (strOf s), .int .i64 (k : Int), .int .i64 (q3 : Int)]) ∧ Below w.heap.size w w') :
    Calls Try.prog 8 #[.slice (some ⟨b, o, none⟩) bs.length cap] w fun e w' => e = .returned (.bool true) ∧ Below w.heap.size w w' := by
  have _u : _ ∧ _ ∧ _ ∧ _ ∧ _ ∧ _ ∧ _ ∧ _ := ⟨hn, hm0, hm1, hs, hi1, hj1, hk1, hcap⟩
  clear _u
  have HAT : Hid (BytesAt w (some ⟨b, o, none⟩) bs) := hat
  have C1 := show Hid _ from c1
  have C2 := show Hid _ from c2
  have C3 := show Hid _ from c3
  clear hat c1 c2 c3
  go_enter Try.func8, Try.ntmps8
  go_wp2_with (first
    | (go_at_call 18; refine (C1.out _ HAT.out).mono ?_; rintro e w1 ⟨rfl, hb1⟩)
    | (go_at_call 20; refine (C2.out _ (HAT.out.after hb1)).mono ?_; rintro e w2 ⟨rfl, hb2⟩; have B2 : After w w2 := After.trans hb1 hb2)
    | (go_at_call 22; refine (C3.out _ (HAT.out.after B2)).mono ?_; rintro e W0 ⟨rfl, hb3⟩; have B3 : After w W0 := After.trans B2 hb3))
  have HT3 := HAT.out.after B3
  refine wp_region_noPanic ?_
  refine wp_region_held_drew (S := After W0) (by kernel_rfl) (After.drew (After.refl W0)) ?_
  intro hS0
  have B0 : After w W0.drew := After.drew B3
  have HT0 := HT3.after hS0
  refine tk 0 30 (.int .i64 0) (fuel := 37) rfl (by kernel_rfl) (by kernel_rfl) (by kernel_rfl) (by kernel_rfl) noPanic_false (by kernel_rfl) (fun _ _ => by kernel_rfl) hS0 ?_
  refine tk 1 31 (.bool true) (fuel := 36) rfl (by kernel_rfl) (by kernel_rfl) (by kernel_rfl) (by kernel_rfl) noPanic_false (by kernel_rfl) (fun _ _ => by kernel_rfl) hS0 ?_
  refine tk 2 32 (.bool true) (fuel := 35) rfl (by kernel_rfl) (by kernel_rfl) (by kernel_rfl) (by kernel_rfl) noPanic_false (by kernel_rfl) (fun _ _ => by kernel_rfl) hS0 ?_
  refine tk 3 33 (.int .i64 (i : Int)) (fuel := 34) rfl (by kernel_rfl) (by kernel_rfl) (by kernel_rfl) (by kernel_rfl) noPanic_false (by kernel_rfl) (fun _ _ => by kernel_rfl) hS0 ?_
  refine tk 4 34 (.slice (some ⟨b, o, none⟩) bs.length cap) (fuel := 33) rfl (by kernel_rfl) (by kernel_rfl) (by kernel_rfl) (by kernel_rfl) noPanic_false (by kernel_rfl) (fun _ _ => by kernel_rfl) hS0 ?_
  refine tk 5 35 (.int .i64 (bs.length : Int)) (fuel := 32) rfl (by kernel_rfl) (by kernel_rfl) (by kernel_rfl) (by kernel_rfl) noPanic_false (by kernel_rfl) (fun _ _ => by kernel_rfl) hS0 ?_
  refine tk 6 36 (.bool false) (fuel := 31) rfl (by kernel_rfl) (by kernel_rfl) (by kernel_rfl) (by kernel_rfl) noPanic_false (by kernel_rfl) (fun _ _ => x_gtr (t := 3) (x := .tmp 33) (y := .tmp 35) (p := i) (q := bs.length) (by kernel_rfl) (by kernel_rfl) (by kernel_rfl) hi1) hS0 ?_
  refine tk 7 37 (.bool false) (fuel := 30) rfl (by kernel_rfl) (by kernel_rfl) (by kernel_rfl) (by kernel_rfl) noPanic_false (by kernel_rfl) (fun _ _ => by kernel_rfl) hS0 ?_
  refine tk 8 38 (.int .u64 (n : Int)) (fuel := 29) rfl (by kernel_rfl) (by kernel_rfl) (by kernel_rfl) (by kernel_rfl) noPanic_false (by kernel_rfl) (fun _ _ => by kernel_rfl) hS0 ?_
  refine tk 11 41 (.slice (some ⟨b, o, none⟩) bs.length cap) (fuel := 28) rfl (by kernel_rfl) (by kernel_rfl) (by kernel_rfl) (by kernel_rfl) noPanic_false (by kernel_rfl) (fun _ _ => by kernel_rfl) hS0 ?_
  refine tk 12 42 (.int .i64 (i : Int)) (fuel := 27) rfl (by kernel_rfl) (by kernel_rfl) (by kernel_rfl) (by kernel_rfl) noPanic_false (by kernel_rfl) (fun _ _ => by kernel_rfl) hS0 ?_
  refine tk 13 43 (.slice (some ⟨b, o, none⟩) i cap) (fuel := 26) rfl (by kernel_rfl) (by kernel_rfl) (by kernel_rfl) (by kernel_rfl) noPanic_false (by kernel_rfl) (fun _ _ => x_slice (x := .tmp 41) (y := .tmp 42) (b := b) (off := o) (len := bs.length) (cap := cap) (k := i) (by kernel_rfl) (by kernel_rfl) (by kernel_rfl) (Nat.le_trans hi1 hcap)) hS0 ?_
  refine tk 14 44 (.string (strOf (bs.take i))) (fuel := 25) rfl (by kernel_rfl) (by kernel_rfl) (by kernel_rfl) (by kernel_rfl) noPanic_false (by kernel_rfl) (fun W hW => x_conv (x := .tmp 43) (by kernel_rfl) (by kernel_rfl) (conv_take cap i (HT3.after hW) hi1)) hS0 ?_
  refine tkCall 9 39 11 #[.int .u64 (n : Int)] _ (fuel := 24) rfl (by kernel_rfl) (by kernel_rfl) (by kernel_rfl) (fun _ => by kernel_rfl) hS0 (uint_any n hn _) ?_
  intro p1v p1w p1r p1s
  have p1B : After w p1w := After.trans B0 p1s
  have p1T := HT0.after p1s
  refine tk 10 40 (.string (strOf (uintB n))) (fuel := 23) rfl (by kernel_rfl) (by kernel_rfl) (by kernel_rfl) (by kernel_rfl) noPanic_false (by kernel_rfl) (fun W hW => x_conv (x := .tmp 39) (by kernel_rfl) (by kernel_rfl) (Own.convA p1r hW)) (After.refl p1w) ?_
  refine tk 15 45 (.bool false) (fuel := 22) rfl (by kernel_rfl) (by kernel_rfl) (by kernel_rfl) (by kernel_rfl) noPanic_false (by kernel_rfl) (fun _ _ => x_streqf (x := .tmp 40) (y := .tmp 44) (s := strOf (uintB n)) (t := strOf (bs.take i)) (by kernel_rfl) (by kernel_rfl) (by kernel_rfl) (congrArg strOf hU)) (After.refl p1w) ?_
  refine tk 16 46 (.bool false) (fuel := 21) rfl (by kernel_rfl) (by kernel_rfl) (by kernel_rfl) (by kernel_rfl) noPanic_false (by kernel_rfl) (fun _ _ => by kernel_rfl) (After.refl p1w) ?_
  refine tk 17 47 (.bool false) (fuel := 20) rfl (by kernel_rfl) (by kernel_rfl) (by kernel_rfl) (by kernel_rfl) noPanic_false (by kernel_rfl) (fun _ _ => by kernel_rfl) (After.refl p1w) ?_
  refine tk 18 48 (.bool false) (fuel := 19) rfl (by kernel_rfl) (by kernel_rfl) (by kernel_rfl) (by kernel_rfl) noPanic_false (by kernel_rfl) (fun _ _ => by kernel_rfl) (After.refl p1w) ?_
  refine tk 19 49 (.int .i64 (q2 : Int)) (fuel := 18) rfl (by kernel_rfl) (by kernel_rfl) (by kernel_rfl) (by kernel_rfl) noPanic_false (by kernel_rfl) (fun _ _ => by kernel_rfl) (After.refl p1w) ?_
  refine tk 20 50 (.bool false) (fuel := 17) rfl (by kernel_rfl) (by kernel_rfl) (by kernel_rfl) (by kernel_rfl) noPanic_false (by kernel_rfl) (fun _ _ => x_ne0 (t := 29) (x := .tmp 49) (y := .const (.int .i64 0)) (by kernel_rfl) (q := q2) (by kernel_rfl) (by kernel_rfl) hq2) (After.refl p1w) ?_
  refine tk 21 51 (.bool false) (fuel := 16) rfl (by kernel_rfl) (by kernel_rfl) (by kernel_rfl) (by kernel_rfl) noPanic_false (by kernel_rfl) (fun _ _ => by kernel_rfl) (After.refl p1w) ?_
  refine tkSkip 22 52 (fuel := 15) rfl (by kernel_rfl) (by kernel_rfl) (by kernel_rfl) (by kernel_rfl) noPanic_false (by kernel_rfl) (After.refl p1w) ?_
  refine tkSkip 23 53 (fuel := 14) rfl (by kernel_rfl) (by kernel_rfl) (by kernel_rfl) (by kernel_rfl) noPanic_false (by kernel_rfl) (After.refl p1w) ?_
  refine tkSkip 24 54 (fuel := 13) rfl (by kernel_rfl) (by kernel_rfl) (by kernel_rfl) (by kernel_rfl) noPanic_false (by kernel_rfl) (After.refl p1w) ?_
  refine tkSkip 25 55 (fuel := 12) rfl (by kernel_rfl) (by kernel_rfl) (by kernel_rfl) (by kernel_rfl) noPanic_false (by kernel_rfl) (After.refl p1w) ?_
  refine tkSkip 26 56 (fuel := 11) rfl (by kernel_rfl) (by kernel_rfl) (by kernel_rfl) (by kernel_rfl) noPanic_false (by kernel_rfl) (After.refl p1w) ?_
  refine tkSkip 27 57 (fuel := 10) rfl (by kernel_rfl) (by kernel_rfl) (by kernel_rfl) (by kernel_rfl) noPanic_false (by kernel_rfl) (After.refl p1w) ?_
  refine tkSkip 28 58 (fuel := 9) rfl (by kernel_rfl) (by kernel_rfl) (by kernel_rfl) (by kernel_rfl) noPanic_false (by kernel_rfl) (After.refl p1w) ?_
  refine tkSkip 29 59 (fuel := 8) rfl (by kernel_rfl) (by kernel_rfl) (by kernel_rfl) (by kernel_rfl) noPanic_false (by kernel_rfl) (After.refl p1w) ?_
  refine tkSkip 30 60 (fuel := 7) rfl (by kernel_rfl) (by kernel_rfl) (by kernel_rfl) (by kernel_rfl) noPanic_false (by kernel_rfl) (After.refl p1w) ?_
  refine tkSkip 31 61 (fuel := 6) rfl (by kernel_rfl) (by kernel_rfl) (by kernel_rfl) (by kernel_rfl) noPanic_false (by kernel_rfl) (After.refl p1w) ?_
  refine tkSkip 32 62 (fuel := 5) rfl (by kernel_rfl) (by kernel_rfl) (by kernel_rfl) (by kernel_rfl) noPanic_false (by kernel_rfl) (After.refl p1w) ?_
  refine tkSkip 33 63 (fuel := 4) rfl (by kernel_rfl) (by kernel_rfl) (by kernel_rfl) (by kernel_rfl) noPanic_false (by kernel_rfl) (After.refl p1w) ?_
  refine tkSkip 34 64 (fuel := 3) rfl (by kernel_rfl) (by kernel_rfl) (by kernel_rfl) (by kernel_rfl) noPanic_false (by kernel_rfl) (After.refl p1w) ?_
  refine tkSkip 35 65 (fuel := 2) rfl (by kernel_rfl) (by kernel_rfl) (by kernel_rfl) (by kernel_rfl) noPanic_false (by kernel_rfl) (After.refl p1w) ?_
  refine tk 36 66 (.bool false) (fuel := 1) rfl (by kernel_rfl) (by kernel_rfl) (by kernel_rfl) (by kernel_rfl) noPanic_false (by kernel_rfl) (fun _ _ => by kernel_rfl) (After.refl p1w) ?_
  refine tk 37 67 (.bool false) (fuel := 0) rfl (by kernel_rfl) (by kernel_rfl) (by kernel_rfl) (by kernel_rfl) noPanic_false (by kernel_rfl) (fun _ _ => by kernel_rfl) (After.refl p1w) ?_
  refine wpAnyH_done (by kernel_rfl) (NoPanic.normal ?_) _
  go_simp
  go_wp2
  refine wp_region_noPanic ?_
  refine wp_region_held_drew (S := After p1w) (by kernel_rfl) (After.drew (After.refl p1w)) ?_
  intro hS0
  have B6 : After w p1w.drew := After.drew p1B
  have T6 := p1T.after hS0
  refine tk 0 68 (.int .i64 (q3 : Int)) (fuel := 21) rfl (by kernel_rfl) (by kernel_rfl) (by kernel_rfl) (by kernel_rfl) noPanic_false (by kernel_rfl) (fun _ _ => by kernel_rfl) hS0 ?_
  refine tk 1 69 (.bool true) (fuel := 20) rfl (by kernel_rfl) (by kernel_rfl) (by kernel_rfl) (by kernel_rfl) noPanic_false (by kernel_rfl) (fun _ _ => x_neq0 (t := 29) (x := .tmp 68) (y := .const (.int .i64 0)) (by kernel_rfl) (q := q3) (by kernel_rfl) (by kernel_rfl) hq3) hS0 ?_
  refine tk 2 70 (.bool true) (fuel := 19) rfl (by kernel_rfl) (by kernel_rfl) (by kernel_rfl) (by kernel_rfl) noPanic_false (by kernel_rfl) (fun _ _ => by kernel_rfl) hS0 ?_
  refine tkSkip 3 71 (fuel := 18) rfl (by kernel_rfl) (by kernel_rfl) (by kernel_rfl) (by kernel_rfl) noPanic_false (by kernel_rfl) hS0 ?_
  refine tkSkip 4 72 (fuel := 17) rfl (by kernel_rfl) (by kernel_rfl) (by kernel_rfl) (by kernel_rfl) noPanic_false (by kernel_rfl) hS0 ?_
  refine tkSkip 5 73 (fuel := 16) rfl (by kernel_rfl) (by kernel_rfl) (by kernel_rfl) (by kernel_rfl) noPanic_false (by kernel_rfl) hS0 ?_
  refine tkSkip 6 74 (fuel := 15) rfl (by kernel_rfl) (by kernel_rfl) (by kernel_rfl) (by kernel_rfl) noPanic_false (by kernel_rfl) hS0 ?_
  refine tkSkip 7 75 (fuel := 14) rfl (by kernel_rfl) (by kernel_rfl) (by kernel_rfl) (by kernel_rfl) noPanic_false (by kernel_rfl) hS0 ?_
  refine tkSkip 8 76 (fuel := 13) rfl (by kernel_rfl) (by kernel_rfl) (by kernel_rfl) (by kernel_rfl) noPanic_false (by kernel_rfl) hS0 ?_
  refine tkSkip 9 77 (fuel := 12) rfl (by kernel_rfl) (by kernel_rfl) (by kernel_rfl) (by kernel_rfl) noPanic_false (by kernel_rfl) hS0 ?_
  refine tkSkip 10 78 (fuel := 11) rfl (by kernel_rfl) (by kernel_rfl) (by kernel_rfl) (by kernel_rfl) noPanic_false (by kernel_rfl) hS0 ?_
  refine tkSkip 11 79 (fuel := 10) rfl (by kernel_rfl) (by kernel_rfl) (by kernel_rfl) (by kernel_rfl) noPanic_false (by kernel_rfl) hS0 ?_
  refine tkSkip 12 80 (fuel := 9) rfl (by kernel_rfl) (by kernel_rfl) (by kernel_rfl) (by kernel_rfl) noPanic_false (by kernel_rfl) hS0 ?_
  refine tkSkip 13 81 (fuel := 8) rfl (by kernel_rfl) (by kernel_rfl) (by kernel_rfl) (by kernel_rfl) noPanic_false (by kernel_rfl) hS0 ?_
  refine tkSkip 14 82 (fuel := 7) rfl (by kernel_rfl) (by kernel_rfl) (by kernel_rfl) (by kernel_rfl) noPanic_false (by kernel_rfl) hS0 ?_
  refine tkSkip 15 83 (fuel := 6) rfl (by kernel_rfl) (by kernel_rfl) (by kernel_rfl) (by kernel_rfl) noPanic_false (by kernel_rfl) hS0 ?_
  refine tkSkip 16 84 (fuel := 5) rfl (by kernel_rfl) (by kernel_rfl) (by kernel_rfl) (by kernel_rfl) noPanic_false (by kernel_rfl) hS0 ?_
  refine tk 17 85 (.bool true) (fuel := 4) rfl (by kernel_rfl) (by kernel_rfl) (by kernel_rfl) (by kernel_rfl) noPanic_false (by kernel_rfl) (fun _ _ => by kernel_rfl) hS0 ?_
  refine tk 18 86 (.bool true) (fuel := 3) rfl (by kernel_rfl) (by kernel_rfl) (by kernel_rfl) (by kernel_rfl) noPanic_false (by kernel_rfl) (fun _ _ => by kernel_rfl) hS0 ?_
  refine tkCall 19 87 17 #[] _ (fuel := 2) rfl (by kernel_rfl) (by kernel_rfl) (by kernel_rfl) (fun _ => by kernel_rfl) hS0 (awake_ex _) ?_
  rintro p2v p2w rfl p2s
  have p2B : After w p2w := After.trans B6 p2s
  have p2T := T6.after p2s
  refine tk 20 88 (.bool true) (fuel := 1) rfl (by kernel_rfl) (by kernel_rfl) (by kernel_rfl) (by kernel_rfl) noPanic_false (by kernel_rfl) (fun _ _ => by kernel_rfl) (After.refl p2w) ?_
  refine tk 21 2 (.bool true) (fuel := 0) rfl (by kernel_rfl) (by kernel_rfl) (by kernel_rfl) (by kernel_rfl) noPanic_false (by kernel_rfl) (fun _ _ => by kernel_rfl) (After.refl p2w) ?_
  refine wpAnyH_done (by kernel_rfl) (NoPanic.normal ?_) _
  go_simp
  go_wp2
  go_ret
  exact ⟨rfl, p2B⟩
set_option maxRecDepth 100000 in
set_option maxHeartbeats 800000 in
theorem only_010 (b o : Nat) (cap : Nat) (bs : List UInt8) (hcap : bs.length ≤ cap) (w : World) (hat : BytesAt w (some ⟨b, o, none⟩) bs) (n i j k q1 q3 : Nat) (m : Int) (s : List UInt8)
    (hn : n < 18446744073709551616) (hm0 : -9223372036854775808 ≤ m) (hm1 : m ≤ 9223372036854775807) (hs : s.length ≤ 140737488351232) (hi1 : i ≤ bs.length) (hj1 : j ≤ bs.length) (hk1 : k ≤ bs.length) (hq1 : ¬ q1 = 0) (hI : intB m = bs.take j) (hq3 : ¬ q3 = 0)
    (c1 : ∀ w, BytesAt w (some ⟨b, o, none⟩) bs → Calls Try.prog 18 #[.slice (some ⟨b, o, none⟩) bs.length cap] w fun e w' => e = .returned (.tuple #[.int .u64 (n : Int), .int .i64 (i : Int), .int .i64 (q1 : Int)]) ∧ Below w.heap.size w w')
    (c2 : ∀ w, BytesAt w (some ⟨b, o, none⟩) bs → Calls Try.prog 20 #[.slice (some ⟨b, o, none⟩) bs.length cap] w fun e w' => e = .returned (.tuple #[.int .i64 m, .int .i64 (j : Int), .int .i64 0]) ∧ Below w.heap.size w w')
    (c3 : ∀ w, BytesAt w (some ⟨b, o, none⟩) bs → Calls Try.prog 22 #[.slice (some ⟨b, o, none⟩) bs.length cap, .int .i64 1099511627776] w fun e w' => e = .returned (.tuple #[.string (strOf s), .int .i64 (k : Int), .int .i64 (q3 : Int)]) ∧ Below w.heap.size w w') :
    Calls Try.prog 8 #[.slice (some ⟨b, o, none⟩) bs.length cap] w fun e w' => e = .returned (.bool true) ∧ Below w.heap.size w w' := by
  have _u : _ ∧ _ ∧ _ ∧ _ ∧ _ ∧ _ ∧ _ ∧ _ := ⟨hn, hm0, hm1, hs, hi1, hj1, hk1, hcap⟩
  clear _u
  have HAT : Hid (BytesAt w (some ⟨b, o, none⟩) bs) := hat
  have C1 := show Hid _ from c1
  have C2 := show Hid _ from c2
  have C3 := show Hid _ from c3
  clear hat c1 c2 c3
  go_enter Try.func8, Try.ntmps8
  go_wp2_with (first
    | (go_at_call 18; refine (C1.out _ HAT.out).mono ?_; rintro e w1 ⟨rfl, hb1⟩)
    | (go_at_call 20; refine (C2.out _ (HAT.out.after hb1)).mono ?_; rintro e w2 ⟨rfl, hb2⟩; have B2 : After w w2 := After.trans hb1 hb2)
    | (go_at_call 22; refine (C3.out _ (HAT.out.after B2)).mono ?_; rintro e W0 ⟨rfl, hb3⟩; have B3 : After w W0 := After.trans B2 hb3))
  have HT3 := HAT.out.after B3
  refine wp_region_noPanic ?_
  refine wp_region_held_drew (S := After W0) (by kernel_rfl) (After.drew (After.refl W0)) ?_
  intro hS0
  have B0 : After w W0.drew := After.drew B3
  have HT0 := HT3.after hS0
  refine tk 0 30 (.int .i64 (q1 : Int)) (fuel := 37) rfl (by kernel_rfl) (by kernel_rfl) (by kernel_rfl) (by kernel_rfl) noPanic_false (by kernel_rfl) (fun _ _ => by kernel_rfl) hS0 ?_
  refine tk 1 31 (.bool false) (fuel := 36) rfl (by kernel_rfl) (by kernel_rfl) (by kernel_rfl) (by kernel_rfl) noPanic_false (by kernel_rfl) (fun _ _ => x_ne0 (t := 29) (x := .tmp 30) (y := .const (.int .i64 0)) (by kernel_rfl) (q := q1) (by kernel_rfl) (by kernel_rfl) hq1) hS0 ?_
  refine tk 2 32 (.bool false) (fuel := 35) rfl (by kernel_rfl) (by kernel_rfl) (by kernel_rfl) (by kernel_rfl) noPanic_false (by kernel_rfl) (fun _ _ => by kernel_rfl) hS0 ?_
  refine tkSkip 3 33 (fuel := 34) rfl (by kernel_rfl) (by kernel_rfl) (by kernel_rfl) (by kernel_rfl) noPanic_false (by kernel_rfl) hS0 ?_
  refine tkSkip 4 34 (fuel := 33) rfl (by kernel_rfl) (by kernel_rfl) (by kernel_rfl) (by kernel_rfl) noPanic_false (by kernel_rfl) hS0 ?_
  refine tkSkip 5 35 (fuel := 32) rfl (by kernel_rfl) (by kernel_rfl) (by kernel_rfl) (by kernel_rfl) noPanic_false (by kernel_rfl) hS0 ?_
  refine tkSkip 6 36 (fuel := 31) rfl (by kernel_rfl) (by kernel_rfl) (by kernel_rfl) (by kernel_rfl) noPanic_false (by kernel_rfl) hS0 ?_
  refine tkSkip 7 37 (fuel := 30) rfl (by kernel_rfl) (by kernel_rfl) (by kernel_rfl) (by kernel_rfl) noPanic_false (by kernel_rfl) hS0 ?_
  refine tkSkip 8 38 (fuel := 29) rfl (by kernel_rfl) (by kernel_rfl) (by kernel_rfl) (by kernel_rfl) noPanic_false (by kernel_rfl) hS0 ?_
  refine tkSkip 9 39 (fuel := 28) rfl (by kernel_rfl) (by kernel_rfl) (by kernel_rfl) (by kernel_rfl) noPanic_false (by kernel_rfl) hS0 ?_
  refine tkSkip 10 40 (fuel := 27) rfl (by kernel_rfl) (by kernel_rfl) (by kernel_rfl) (by kernel_rfl) noPanic_false (by kernel_rfl) hS0 ?_
  refine tkSkip 11 41 (fuel := 26) rfl (by kernel_rfl) (by kernel_rfl) (by kernel_rfl) (by kernel_rfl) noPanic_false (by kernel_rfl) hS0 ?_
  refine tkSkip 12 42 (fuel := 25) rfl (by kernel_rfl) (by kernel_rfl) (by kernel_rfl) (by kernel_rfl) noPanic_false (by kernel_rfl) hS0 ?_
  refine tkSkip 13 43 (fuel := 24) rfl (by kernel_rfl) (by kernel_rfl) (by kernel_rfl) (by kernel_rfl) noPanic_false (by kernel_rfl) hS0 ?_
  refine tkSkip 14 44 (fuel := 23) rfl (by kernel_rfl) (by kernel_rfl) (by kernel_rfl) (by kernel_rfl) noPanic_false (by kernel_rfl) hS0 ?_
  refine tkSkip 15 45 (fuel := 22) rfl (by kernel_rfl) (by kernel_rfl) (by kernel_rfl) (by kernel_rfl) noPanic_false (by kernel_rfl) hS0 ?_
  refine tkSkip 16 46 (fuel := 21) rfl (by kernel_rfl) (by kernel_rfl) (by kernel_rfl) (by kernel_rfl) noPanic_false (by kernel_rfl) hS0 ?_
  refine tk 17 47 (.bool false) (fuel := 20) rfl (by kernel_rfl) (by kernel_rfl) (by kernel_rfl) (by kernel_rfl) noPanic_false (by kernel_rfl) (fun _ _ => by kernel_rfl) hS0 ?_
  refine tk 18 48 (.bool false) (fuel := 19) rfl (by kernel_rfl) (by kernel_rfl) (by kernel_rfl) (by kernel_rfl) noPanic_false (by kernel_rfl) (fun _ _ => by kernel_rfl) hS0 ?_
  refine tk 19 49 (.int .i64 0) (fuel := 18) rfl (by kernel_rfl) (by kernel_rfl) (by kernel_rfl) (by kernel_rfl) noPanic_false (by kernel_rfl) (fun _ _ => by kernel_rfl) hS0 ?_
  refine tk 20 50 (.bool true) (fuel := 17) rfl (by kernel_rfl) (by kernel_rfl) (by kernel_rfl) (by kernel_rfl) noPanic_false (by kernel_rfl) (fun _ _ => by kernel_rfl) hS0 ?_
  refine tk 21 51 (.bool true) (fuel := 16) rfl (by kernel_rfl) (by kernel_rfl) (by kernel_rfl) (by kernel_rfl) noPanic_false (by kernel_rfl) (fun _ _ => by kernel_rfl) hS0 ?_
  refine tk 22 52 (.int .i64 (j : Int)) (fuel := 15) rfl (by kernel_rfl) (by kernel_rfl) (by kernel_rfl) (by kernel_rfl) noPanic_false (by kernel_rfl) (fun _ _ => by kernel_rfl) hS0 ?_
  refine tk 23 53 (.slice (some ⟨b, o, none⟩) bs.length cap) (fuel := 14) rfl (by kernel_rfl) (by kernel_rfl) (by kernel_rfl) (by kernel_rfl) noPanic_false (by kernel_rfl) (fun _ _ => by kernel_rfl) hS0 ?_
  refine tk 24 54 (.int .i64 (bs.length : Int)) (fuel := 13) rfl (by kernel_rfl) (by kernel_rfl) (by kernel_rfl) (by kernel_rfl) noPanic_false (by kernel_rfl) (fun _ _ => by kernel_rfl) hS0 ?_
  refine tk 25 55 (.bool false) (fuel := 12) rfl (by kernel_rfl) (by kernel_rfl) (by kernel_rfl) (by kernel_rfl) noPanic_false (by kernel_rfl) (fun _ _ => x_gtr (t := 3) (x := .tmp 52) (y := .tmp 54) (p := j) (q := bs.length) (by kernel_rfl) (by kernel_rfl) (by kernel_rfl) hj1) hS0 ?_
  refine tk 26 56 (.bool false) (fuel := 11) rfl (by kernel_rfl) (by kernel_rfl) (by kernel_rfl) (by kernel_rfl) noPanic_false (by kernel_rfl) (fun _ _ => by kernel_rfl) hS0 ?_
  refine tk 27 57 (.int .i64 m) (fuel := 10) rfl (by kernel_rfl) (by kernel_rfl) (by kernel_rfl) (by kernel_rfl) noPanic_false (by kernel_rfl) (fun _ _ => by kernel_rfl) hS0 ?_
  refine tk 30 60 (.slice (some ⟨b, o, none⟩) bs.length cap) (fuel := 9) rfl (by kernel_rfl) (by kernel_rfl) (by kernel_rfl) (by kernel_rfl) noPanic_false (by kernel_rfl) (fun _ _ => by kernel_rfl) hS0 ?_
  refine tk 31 61 (.int .i64 (j : Int)) (fuel := 8) rfl (by kernel_rfl) (by kernel_rfl) (by kernel_rfl) (by kernel_rfl) noPanic_false (by kernel_rfl) (fun _ _ => by kernel_rfl) hS0 ?_
  refine tk 32 62 (.slice (some ⟨b, o, none⟩) j cap) (fuel := 7) rfl (by kernel_rfl) (by kernel_rfl) (by kernel_rfl) (by kernel_rfl) noPanic_false (by kernel_rfl) (fun _ _ => x_slice (x := .tmp 60) (y := .tmp 61) (b := b) (off := o) (len := bs.length) (cap := cap) (k := j) (by kernel_rfl) (by kernel_rfl) (by kernel_rfl) (Nat.le_trans hj1 hcap)) hS0 ?_
  refine tk 33 63 (.string (strOf (bs.take j))) (fuel := 6) rfl (by kernel_rfl) (by kernel_rfl) (by kernel_rfl) (by kernel_rfl) noPanic_false (by kernel_rfl) (fun W hW => x_conv (x := .tmp 62) (by kernel_rfl) (by kernel_rfl) (conv_take cap j (HT3.after hW) hj1)) hS0 ?_
  refine tkCall 28 58 13 #[.int .i64 m] _ (fuel := 5) rfl (by kernel_rfl) (by kernel_rfl) (by kernel_rfl) (fun _ => by kernel_rfl) hS0 (int_any m hm0 hm1 _) ?_
  intro p1v p1w p1r p1s
  have p1B : After w p1w := After.trans B0 p1s
  have p1T := HT0.after p1s
  refine tk 29 59 (.string (strOf (intB m))) (fuel := 4) rfl (by kernel_rfl) (by kernel_rfl) (by kernel_rfl) (by kernel_rfl) noPanic_false (by kernel_rfl) (fun W hW => x_conv (x := .tmp 58) (by kernel_rfl) (by kernel_rfl) (Own.convA p1r hW)) (After.refl p1w) ?_
  refine tk 34 64 (.bool false) (fuel := 3) rfl (by kernel_rfl) (by kernel_rfl) (by kernel_rfl) (by kernel_rfl) noPanic_false (by kernel_rfl) (fun _ _ => x_streqf (x := .tmp 59) (y := .tmp 63) (s := strOf (intB m)) (t := strOf (bs.take j)) (by kernel_rfl) (by kernel_rfl) (by kernel_rfl) (congrArg strOf hI)) (After.refl p1w) ?_
  refine tk 35 65 (.bool false) (fuel := 2) rfl (by kernel_rfl) (by kernel_rfl) (by kernel_rfl) (by kernel_rfl) noPanic_false (by kernel_rfl) (fun _ _ => by kernel_rfl) (After.refl p1w) ?_
  refine tk 36 66 (.bool false) (fuel := 1) rfl (by kernel_rfl) (by kernel_rfl) (by kernel_rfl) (by kernel_rfl) noPanic_false (by kernel_rfl) (fun _ _ => by kernel_rfl) (After.refl p1w) ?_
  refine tk 37 67 (.bool false) (fuel := 0) rfl (by kernel_rfl) (by kernel_rfl) (by kernel_rfl) (by kernel_rfl) noPanic_false (by kernel_rfl) (fun _ _ => by kernel_rfl) (After.refl p1w) ?_
  refine wpAnyH_done (by kernel_rfl) (NoPanic.normal ?_) _
  go_simp
  go_wp2
  refine wp_region_noPanic ?_
  refine wp_region_held_drew (S := After p1w) (by kernel_rfl) (After.drew (After.refl p1w)) ?_
  intro hS0
  have B6 : After w p1w.drew := After.drew p1B
  have T6 := p1T.after hS0
  refine tk 0 68 (.int .i64 (q3 : Int)) (fuel := 21) rfl (by kernel_rfl) (by kernel_rfl) (by kernel_rfl) (by kernel_rfl) noPanic_false (by kernel_rfl) (fun _ _ => by kernel_rfl) hS0 ?_
  refine tk 1 69 (.bool true) (fuel := 20) rfl (by kernel_rfl) (by kernel_rfl) (by kernel_rfl) (by kernel_rfl) noPanic_false (by kernel_rfl) (fun _ _ => x_neq0 (t := 29) (x := .tmp 68) (y := .const (.int .i64 0)) (by kernel_rfl) (q := q3) (by kernel_rfl) (by kernel_rfl) hq3) hS0 ?_
  refine tk 2 70 (.bool true) (fuel := 19) rfl (by kernel_rfl) (by kernel_rfl) (by kernel_rfl) (by kernel_rfl) noPanic_false (by kernel_rfl) (fun _ _ => by kernel_rfl) hS0 ?_
  refine tkSkip 3 71 (fuel := 18) rfl (by kernel_rfl) (by kernel_rfl) (by kernel_rfl) (by kernel_rfl) noPanic_false (by kernel_rfl) hS0 ?_
  refine tkSkip 4 72 (fuel := 17) rfl (by kernel_rfl) (by kernel_rfl) (by kernel_rfl) (by kernel_rfl) noPanic_false (by kernel_rfl) hS0 ?_
  refine tkSkip 5 73 (fuel := 16) rfl (by kernel_rfl) (by kernel_rfl) (by kernel_rfl) (by kernel_rfl) noPanic_false (by kernel_rfl) hS0 ?_
  refine tkSkip 6 74 (fuel := 15) rfl (by kernel_rfl) (by kernel_rfl) (by kernel_rfl) (by kernel_rfl) noPanic_false (by kernel_rfl) hS0 ?_
  refine tkSkip 7 75 (fuel := 14) rfl (by kernel_rfl) (by kernel_rfl) (by kernel_rfl) (by kernel_rfl) noPanic_false (by kernel_rfl) hS0 ?_
  refine tkSkip 8 76 (fuel := 13) rfl (by kernel_rfl) (by kernel_rfl) (by kernel_rfl) (by kernel_rfl) noPanic_false (by kernel_rfl) hS0 ?_
  refine tkSkip 9 77 (fuel := 12) rfl (by kernel_rfl) (by kernel_rfl) (by kernel_rfl) (by kernel_rfl) noPanic_false (by kernel_rfl) hS0 ?_
  refine tkSkip 10 78 (fuel := 11) rfl (by kernel_rfl) (by kernel_rfl) (by kernel_rfl) (by kernel_rfl) noPanic_false (by kernel_rfl) hS0 ?_
  refine tkSkip 11 79 (fuel := 10) rfl (by kernel_rfl) (by kernel_rfl) (by kernel_rfl) (by kernel_rfl) noPanic_false (by kernel_rfl) hS0 ?_
  refine tkSkip 12 80 (fuel := 9) rfl (by kernel_rfl) (by kernel_rfl) (by kernel_rfl) (by kernel_rfl) noPanic_false (by kernel_rfl) hS0 ?_
  refine tkSkip 13 81 (fuel := 8) rfl (by kernel_rfl) (by kernel_rfl) (by kernel_rfl) (by kernel_rfl) noPanic_false (by kernel_rfl) hS0 ?_
  refine tkSkip 14 82 (fuel := 7) rfl (by kernel_rfl) (by kernel_rfl) (by kernel_rfl) (by kernel_rfl) noPanic_false (by kernel_rfl) hS0 ?_
  refine tkSkip 15 83 (fuel := 6) rfl (by kernel_rfl) (by kernel_rfl) (by kernel_rfl) (by kernel_rfl) noPanic_false (by kernel_rfl) hS0 ?_
  refine tkSkip 16 84 (fuel := 5) rfl (by kernel_rfl) (by kernel_rfl) (by kernel_rfl) (by kernel_rfl) noPanic_false (by kernel_rfl) hS0 ?_
  refine tk 17 85 (.bool true) (fuel := 4) rfl (by kernel_rfl) (by kernel_rfl) (by kernel_rfl) (by kernel_rfl) noPanic_false (by kernel_rfl) (fun _ _ => by kernel_rfl) hS0 ?_
  refine tk 18 86 (.bool true) (fuel := 3) rfl (by kernel_rfl) (by kernel_rfl) (by kernel_rfl) (by kernel_rfl) noPanic_false (by kernel_rfl) (fun _ _ => by kernel_rfl) hS0 ?_
  refine tkCall 19 87 17 #[] _ (fuel := 2) rfl (by kernel_rfl) (by kernel_rfl) (by kernel_rfl) (fun _ => by kernel_rfl) hS0 (awake_ex _) ?_
  rintro p2v p2w rfl p2s
  have p2B : After w p2w := After.trans B6 p2s
  have p2T := T6.after p2s
  refine tk 20 88 (.bool true) (fuel := 1) rfl (by kernel_rfl) (by kernel_rfl) (by kernel_rfl) (by kernel_rfl) noPanic_false (by kernel_rfl) (fun _ _ => by kernel_rfl) (After.refl p2w) ?_
  refine tk 21 2 (.bool true) (fuel := 0) rfl (by kernel_rfl) (by kernel_rfl) (by kernel_rfl) (by kernel_rfl) noPanic_false (by kernel_rfl) (fun _ _ => by kernel_rfl) (After.refl p2w) ?_
  refine wpAnyH_done (by kernel_rfl) (NoPanic.normal ?_) _
  go_simp
  go_wp2
  go_ret
  exact ⟨rfl, p2B⟩
set_option maxRecDepth 100000 in
set_option maxHeartbeats 800000 in
theorem only_000 (ao : Option Addr) (cap : Nat) (bs : List UInt8) (hcap : bs.length ≤ cap) (w : World) (hat : BytesAt w ao bs) (n i j k q1 q2 q3 : Nat) (m : Int) (s : List UInt8)
    (hn : n < 18446744073709551616) (hm0 : -9223372036854775808 ≤ m) (hm1 : m ≤ 9223372036854775807) (hs : s.length ≤ 140737488351232) (hi1 : i ≤ bs.length) (hj1 : j ≤ bs.length) (hk1 : k ≤ bs.length) (hq1 : ¬ q1 = 0) (hq2 : ¬ q2 = 0) (hq3 : ¬ q3 = 0)
    (c1 : ∀ w, BytesAt w ao bs → Calls Try.prog 18 #[.slice ao bs.length cap] w fun e w' => e = .returned (.tuple #[.int .u64 (n : Int), .int .i64 (i : Int), .int .i64 (q1 : Int)]) ∧ Below w.heap.size w w')
    (c2 : ∀ w, BytesAt w ao bs → Calls Try.prog 20 #[.slice ao bs.length cap] w fun e w' => e = .returned (.tuple #[.int .i64 m, .int .i64 (j : Int), .int .i64 (q2 : Int)]) ∧ Below w.heap.size w w')
    (c3 : ∀ w, BytesAt w ao bs → Calls Try.prog 22 #[.slice ao bs.length cap, .int .i64 1099511627776] w fun e w' => e = .returned (.tuple #[.string (strOf s), .int .i64 (k : Int), .int .i64 (q3 : Int)]) ∧ Below w.heap.size w w') :
    Calls Try.prog 8 #[.slice ao bs.length cap] w fun e w' => e = .returned (.bool true) ∧ Below w.heap.size w w' := by
  have _u : _ ∧ _ ∧ _ ∧ _ ∧ _ ∧ _ ∧ _ ∧ _ := ⟨hn, hm0, hm1, hs, hi1, hj1, hk1, hcap⟩
  clear _u
  have HAT : Hid (BytesAt w ao bs) := hat
  have C1 := show Hid _ from c1
  have C2 := show Hid _ from c2
  have C3 := show Hid _ from c3
  clear hat c1 c2 c3
  go_enter Try.func8, Try.ntmps8
  go_wp2_with (first
    | (go_at_call 18; refine (C1.out _ HAT.out).mono ?_; rintro e w1 ⟨rfl, hb1⟩)
    | (go_at_call 20; refine (C2.out _ (HAT.out.after hb1)).mono ?_; rintro e w2 ⟨rfl, hb2⟩; have B2 : After w w2 := After.trans hb1 hb2)
    | (go_at_call 22; refine (C3.out _ (HAT.out.after B2)).mono ?_; rintro e W0 ⟨rfl, hb3⟩; have B3 : After w W0 := After.trans B2 hb3))
  have HT3 := HAT.out.after B3
  refine wp_region_noPanic ?_
  refine wp_region_held_drew (S := After W0) (by kernel_rfl) (After.drew (After.refl W0)) ?_
  intro hS0
  have B0 : After w W0.drew := After.drew B3
  have HT0 := HT3.after hS0
  refine tk 0 30 (.int .i64 (q1 : Int)) (fuel := 37) rfl (by kernel_rfl) (by kernel_rfl) (by kernel_rfl) (by kernel_rfl) noPanic_false (by kernel_rfl) (fun _ _ => by kernel_rfl) hS0 ?_
  refine tk 1 31 (.bool false) (fuel := 36) rfl (by kernel_rfl) (by kernel_rfl) (by kernel_rfl) (by kernel_rfl) noPanic_false (by kernel_rfl) (fun _ _ => x_ne0 (t := 29) (x := .tmp 30) (y := .const (.int .i64 0)) (by kernel_rfl) (q := q1) (by kernel_rfl) (by kernel_rfl) hq1) hS0 ?_
  refine tk 2 32 (.bool false) (fuel := 35) rfl (by kernel_rfl) (by kernel_rfl) (by kernel_rfl) (by kernel_rfl) noPanic_false (by kernel_rfl) (fun _ _ => by kernel_rfl) hS0 ?_
  refine tkSkip 3 33 (fuel := 34) rfl (by kernel_rfl) (by kernel_rfl) (by kernel_rfl) (by kernel_rfl) noPanic_false (by kernel_rfl) hS0 ?_
  refine tkSkip 4 34 (fuel := 33) rfl (by kernel_rfl) (by kernel_rfl) (by kernel_rfl) (by kernel_rfl) noPanic_false (by kernel_rfl) hS0 ?_
  refine tkSkip 5 35 (fuel := 32) rfl (by kernel_rfl) (by kernel_rfl) (by kernel_rfl) (by kernel_rfl) noPanic_false (by kernel_rfl) hS0 ?_
  refine tkSkip 6 36 (fuel := 31) rfl (by kernel_rfl) (by kernel_rfl) (by kernel_rfl) (by kernel_rfl) noPanic_false (by kernel_rfl) hS0 ?_
  refine tkSkip 7 37 (fuel := 30) rfl (by kernel_rfl) (by kernel_rfl) (by kernel_rfl) (by kernel_rfl) noPanic_false (by kernel_rfl) hS0 ?_
  refine tkSkip 8 38 (fuel := 29) rfl (by kernel_rfl) (by kernel_rfl) (by kernel_rfl) (by kernel_rfl) noPanic_false (by kernel_rfl) hS0 ?_
  refine tkSkip 9 39 (fuel := 28) rfl (by kernel_rfl) (by kernel_rfl) (by kernel_rfl) (by kernel_rfl) noPanic_false (by kernel_rfl) hS0 ?_
  refine tkSkip 10 40 (fuel := 27) rfl (by kernel_rfl) (by kernel_rfl) (by kernel_rfl) (by kernel_rfl) noPanic_false (by kernel_rfl) hS0 ?_
  refine tkSkip 11 41 (fuel := 26) rfl (by kernel_rfl) (by kernel_rfl) (by kernel_rfl) (by kernel_rfl) noPanic_false (by kernel_rfl) hS0 ?_
  refine tkSkip 12 42 (fuel := 25) rfl (by kernel_rfl) (by kernel_rfl) (by kernel_rfl) (by kernel_rfl) noPanic_false (by kernel_rfl) hS0 ?_
  refine tkSkip 13 43 (fuel := 24) rfl (by kernel_rfl) (by kernel_rfl) (by kernel_rfl) (by kernel_rfl) noPanic_false (by kernel_rfl) hS0 ?_
  refine tkSkip 14 44 (fuel := 23) rfl (by kernel_rfl) (by kernel_rfl) (by kernel_rfl) (by kernel_rfl) noPanic_false (by kernel_rfl) hS0 ?_
  refine tkSkip 15 45 (fuel := 22) rfl (by kernel_rfl) (by kernel_rfl) (by kernel_rfl) (by kernel_rfl) noPanic_false (by kernel_rfl) hS0 ?_
  refine tkSkip 16 46 (fuel := 21) rfl (by kernel_rfl) (by kernel_rfl) (by kernel_rfl) (by kernel_rfl) noPanic_false (by kernel_rfl) hS0 ?_
  refine tk 17 47 (.bool false) (fuel := 20) rfl (by kernel_rfl) (by kernel_rfl) (by kernel_rfl) (by kernel_rfl) noPanic_false (by kernel_rfl) (fun _ _ => by kernel_rfl) hS0 ?_
  refine tk 18 48 (.bool false) (fuel := 19) rfl (by kernel_rfl) (by kernel_rfl) (by kernel_rfl) (by kernel_rfl) noPanic_false (by kernel_rfl) (fun _ _ => by kernel_rfl) hS0 ?_
  refine tk 19 49 (.int .i64 (q2 : Int)) (fuel := 18) rfl (by kernel_rfl) (by kernel_rfl) (by kernel_rfl) (by kernel_rfl) noPanic_false (by kernel_rfl) (fun _ _ => by kernel_rfl) hS0 ?_
  refine tk 20 50 (.bool false) (fuel := 17) rfl (by kernel_rfl) (by kernel_rfl) (by kernel_rfl) (by kernel_rfl) noPanic_false (by kernel_rfl) (fun _ _ => x_ne0 (t := 29) (x := .tmp 49) (y := .const (.int .i64 0)) (by kernel_rfl) (q := q2) (by kernel_rfl) (by kernel_rfl) hq2) hS0 ?_
  refine tk 21 51 (.bool false) (fuel := 16) rfl (by kernel_rfl) (by kernel_rfl) (by kernel_rfl) (by kernel_rfl) noPanic_false (by kernel_rfl) (fun _ _ => by kernel_rfl) hS0 ?_
  refine tkSkip 22 52 (fuel := 15) rfl (by kernel_rfl) (by kernel_rfl) (by kernel_rfl) (by kernel_rfl) noPanic_false (by kernel_rfl) hS0 ?_
  refine tkSkip 23 53 (fuel := 14) rfl (by kernel_rfl) (by kernel_rfl) (by kernel_rfl) (by kernel_rfl) noPanic_false (by kernel_rfl) hS0 ?_
  refine tkSkip 24 54 (fuel := 13) rfl (by kernel_rfl) (by kernel_rfl) (by kernel_rfl) (by kernel_rfl) noPanic_false (by kernel_rfl) hS0 ?_
  refine tkSkip 25 55 (fuel := 12) rfl (by kernel_rfl) (by kernel_rfl) (by kernel_rfl) (by kernel_rfl) noPanic_false (by kernel_rfl) hS0 ?_
  refine tkSkip 26 56 (fuel := 11) rfl (by kernel_rfl) (by kernel_rfl) (by kernel_rfl) (by kernel_rfl) noPanic_false (by kernel_rfl) hS0 ?_
  refine tkSkip 27 57 (fuel := 10) rfl (by kernel_rfl) (by kernel_rfl) (by kernel_rfl) (by kernel_rfl) noPanic_false (by kernel_rfl) hS0 ?_
  refine tkSkip 28 58 (fuel := 9) rfl (by kernel_rfl) (by kernel_rfl) (by kernel_rfl) (by kernel_rfl) noPanic_false (by kernel_rfl) hS0 ?_
  refine tkSkip 29 59 (fuel := 8) rfl (by kernel_rfl) (by kernel_rfl) (by kernel_rfl) (by kernel_rfl) noPanic_false (by kernel_rfl) hS0 ?_
  refine tkSkip 30 60 (fuel := 7) rfl (by kernel_rfl) (by kernel_rfl) (by kernel_rfl) (by kernel_rfl) noPanic_false (by kernel_rfl) hS0 ?_
  refine tkSkip 31 61 (fuel := 6) rfl (by kernel_rfl) (by kernel_rfl) (by kernel_rfl) (by kernel_rfl) noPanic_false (by kernel_rfl) hS0 ?_
  refine tkSkip 32 62 (fuel := 5) rfl (by kernel_rfl) (by kernel_rfl) (by kernel_rfl) (by kernel_rfl) noPanic_false (by kernel_rfl) hS0 ?_
  refine tkSkip 33 63 (fuel := 4) rfl (by kernel_rfl) (by kernel_rfl) (by kernel_rfl) (by kernel_rfl) noPanic_false (by kernel_rfl) hS0 ?_
  refine tkSkip 34 64 (fuel := 3) rfl (by kernel_rfl) (by kernel_rfl) (by kernel_rfl) (by kernel_rfl) noPanic_false (by kernel_rfl) hS0 ?_
  refine tkSkip 35 65 (fuel := 2) rfl (by kernel_rfl) (by kernel_rfl) (by kernel_rfl) (by kernel_rfl) noPanic_false (by kernel_rfl) hS0 ?_
  refine tk 36 66 (.bool false) (fuel := 1) rfl (by kernel_rfl) (by kernel_rfl) (by kernel_rfl) (by kernel_rfl) noPanic_false (by kernel_rfl) (fun _ _ => by kernel_rfl) hS0 ?_
  refine tk 37 67 (.bool false) (fuel := 0) rfl (by kernel_rfl) (by kernel_rfl) (by kernel_rfl) (by kernel_rfl) noPanic_false (by kernel_rfl) (fun _ _ => by kernel_rfl) hS0 ?_
  refine wpAnyH_done (by kernel_rfl) (NoPanic.normal ?_) _
  go_simp
  go_wp2
  refine wp_region_noPanic ?_
  refine wp_region_held_drew (S := After W0.drew) (by kernel_rfl) (After.drew (After.refl W0.drew)) ?_
  intro hS0
  have B6 : After w W0.drew.drew := After.drew B0
  have T6 := HT0.after hS0
  refine tk 0 68 (.int .i64 (q3 : Int)) (fuel := 21) rfl (by kernel_rfl) (by kernel_rfl) (by kernel_rfl) (by kernel_rfl) noPanic_false (by kernel_rfl) (fun _ _ => by kernel_rfl) hS0 ?_
  refine tk 1 69 (.bool true) (fuel := 20) rfl (by kernel_rfl) (by kernel_rfl) (by kernel_rfl) (by kernel_rfl) noPanic_false (by kernel_rfl) (fun _ _ => x_neq0 (t := 29) (x := .tmp 68) (y := .const (.int .i64 0)) (by kernel_rfl) (q := q3) (by kernel_rfl) (by kernel_rfl) hq3) hS0 ?_
  refine tk 2 70 (.bool true) (fuel := 19) rfl (by kernel_rfl) (by kernel_rfl) (by kernel_rfl) (by kernel_rfl) noPanic_false (by kernel_rfl) (fun _ _ => by kernel_rfl) hS0 ?_
  refine tkSkip 3 71 (fuel := 18) rfl (by kernel_rfl) (by kernel_rfl) (by kernel_rfl) (by kernel_rfl) noPanic_false (by kernel_rfl) hS0 ?_
  refine tkSkip 4 72 (fuel := 17) rfl (by kernel_rfl) (by kernel_rfl) (by kernel_rfl) (by kernel_rfl) noPanic_false (by kernel_rfl) hS0 ?_
  refine tkSkip 5 73 (fuel := 16) rfl (by kernel_rfl) (by kernel_rfl) (by kernel_rfl) (by kernel_rfl) noPanic_false (by kernel_rfl) hS0 ?_
  refine tkSkip 6 74 (fuel := 15) rfl (by kernel_rfl) (by kernel_rfl) (by kernel_rfl) (by kernel_rfl) noPanic_false (by kernel_rfl) hS0 ?_
  refine tkSkip 7 75 (fuel := 14) rfl (by kernel_rfl) (by kernel_rfl) (by kernel_rfl) (by kernel_rfl) noPanic_false (by kernel_rfl) hS0 ?_
  refine tkSkip 8 76 (fuel := 13) rfl (by kernel_rfl) (by kernel_rfl) (by kernel_rfl) (by kernel_rfl) noPanic_false (by kernel_rfl) hS0 ?_
  refine tkSkip 9 77 (fuel := 12) rfl (by kernel_rfl) (by kernel_rfl) (by kernel_rfl) (by kernel_rfl) noPanic_false (by kernel_rfl) hS0 ?_
  refine tkSkip 10 78 (fuel := 11) rfl (by kernel_rfl) (by kernel_rfl) (by kernel_rfl) (by kernel_rfl) noPanic_false (by kernel_rfl) hS0 ?_
  refine tkSkip 11 79 (fuel := 10) rfl (by kernel_rfl) (by kernel_rfl) (by kernel_rfl) (by kernel_rfl) noPanic_false (by kernel_rfl) hS0 ?_
  refine tkSkip 12 80 (fuel := 9) rfl (by kernel_rfl) (by kernel_rfl) (by kernel_rfl) (by kernel_rfl) noPanic_false (by kernel_rfl) hS0 ?_
  refine tkSkip 13 81 (fuel := 8) rfl (by kernel_rfl) (by kernel_rfl) (by kernel_rfl) (by kernel_rfl) noPanic_false (by kernel_rfl) hS0 ?_
  refine tkSkip 14 82 (fuel := 7) rfl (by kernel_rfl) (by kernel_rfl) (by kernel_rfl) (by kernel_rfl) noPanic_false (by kernel_rfl) hS0 ?_
  refine tkSkip 15 83 (fuel := 6) rfl (by kernel_rfl) (by kernel_rfl) (by kernel_rfl) (by kernel_rfl) noPanic_false (by kernel_rfl) hS0 ?_
  refine tkSkip 16 84 (fuel := 5) rfl (by kernel_rfl) (by kernel_rfl) (by kernel_rfl) (by kernel_rfl) noPanic_false (by kernel_rfl) hS0 ?_
  refine tk 17 85 (.bool true) (fuel := 4) rfl (by kernel_rfl) (by kernel_rfl) (by kernel_rfl) (by kernel_rfl) noPanic_false (by kernel_rfl) (fun _ _ => by kernel_rfl) hS0 ?_
  refine tk 18 86 (.bool true) (fuel := 3) rfl (by kernel_rfl) (by kernel_rfl) (by kernel_rfl) (by kernel_rfl) noPanic_false (by kernel_rfl) (fun _ _ => by kernel_rfl) hS0 ?_
  refine tkCall 19 87 17 #[] _ (fuel := 2) rfl (by kernel_rfl) (by kernel_rfl) (by kernel_rfl) (fun _ => by kernel_rfl) hS0 (awake_ex _) ?_
  rintro p1v p1w rfl p1s
  have p1B : After w p1w := After.trans B6 p1s
  have p1T := T6.after p1s
  refine tk 20 88 (.bool true) (fuel := 1) rfl (by kernel_rfl) (by kernel_rfl) (by kernel_rfl) (by kernel_rfl) noPanic_false (by kernel_rfl) (fun _ _ => by kernel_rfl) (After.refl p1w) ?_
  refine tk 21 2 (.bool true) (fuel := 0) rfl (by kernel_rfl) (by kernel_rfl) (by kernel_rfl) (by kernel_rfl) noPanic_false (by kernel_rfl) (fun _ _ => by kernel_rfl) (After.refl p1w) ?_
  refine wpAnyH_done (by kernel_rfl) (NoPanic.normal ?_) _
  go_simp
  go_wp2
  go_ret
  exact ⟨rfl, p1B⟩
theorem giE_cases (bs : List UInt8) : (grp 10 bs).1 = 0 ∨ giK bs = 0 ∧ giV bs = 0 := by
  by_cases h : (grp 10 bs).1 = 0
  · exact .inl h
  · exact .inr (giE_q h rfl).2
theorem giK_le (bs : List UInt8) : giK bs ≤ bs.length := by
  unfold giK; split
  · rename_i h
    have : (grp 10 bs).1 = 0 := by unfold giE at h; split at h; assumption; assumption
    exact (grp_le 10 bs this).1
  · omega
theorem giK_pos {bs : List UInt8} (h : giE bs = 0) : 0 < giK bs := by
  have h0 : (grp 10 bs).1 = 0 := by unfold giE at h; split at h; assumption; assumption
  unfold giK; rw [if_pos h]; exact (grp_le 10 bs h0).2.2
theorem giV_lt (bs : List UInt8) : -9223372036854775808 ≤ giV bs ∧ giV bs ≤ 9223372036854775807 := by unfold giV; split; exact giN_lt bs; omega
theorem gtK_le (bs : List UInt8) (most : Int) : gtK bs most ≤ bs.length := by
  by_cases h : gtE bs most = 0
  · exact (gt_only bs most h).1
  · unfold gtK; rw [if_neg h]; omega
theorem gtS_le (bs : List UInt8) (most : Int) : (gtS bs most).length ≤ bs.length := by
  unfold gtS; split
  · simp; omega
  · simp
theorem only_any (ao : Option Addr) (cap : Nat) (bs : List UInt8) (hcap : bs.length ≤ cap) (hbig : cap ≤ 140737488351232) (w : World) (hat : BytesAt w ao bs) :
    Calls Try.prog 8 #[.slice ao bs.length cap] w fun e w' => e = .returned (.bool true) ∧ Below w.heap.size w w' := by
  have hs : (gtS bs 1099511627776).length ≤ 140737488351232 := by have := gtS_le bs 1099511627776; omega
  have c1 := fun (w : World) (h : BytesAt w ao bs) => getUint_any ao cap bs hcap w h
  have c2 := fun (w : World) (h : BytesAt w ao bs) => getInt_any ao cap bs hcap w h
  have c3 := fun (w : World) (h : BytesAt w ao bs) => getText_any ao cap bs 1099511627776 hcap (by omega) (by omega) (by omega) w h
  have hi := guK_le bs
  have hj := giK_le bs
  have hk := gtK_le bs 1099511627776
  by_cases g1 : guE bs = 0
  · rw [g1] at c1
    obtain ⟨b, o, rfl, _⟩ := hat (by intro h; have := guK_pos g1; simp [h] at hi; rw [h] at this; omega)
    by_cases g2 : giE bs = 0
    · rw [g2] at c2
      by_cases g3 : gtE bs 1099511627776 = 0
      · rw [g3] at c3
        exact only_111 b o cap bs hcap w hat _ _ _ _ _ _ (guV_lt bs) (giV_lt bs).1 (giV_lt bs).2 hs hi hj hk (gu_only bs g1) (gi_only bs g2) (gt_only bs _ g3).2 c1 c2 c3
      · exact only_110 b o cap bs hcap w hat _ _ _ _ _ _ _ (guV_lt bs) (giV_lt bs).1 (giV_lt bs).2 hs hi hj hk (gu_only bs g1) (gi_only bs g2) g3 c1 c2 c3
    · by_cases g3 : gtE bs 1099511627776 = 0
      · rw [g3] at c3
        exact only_101 b o cap bs hcap w hat _ _ _ _ _ _ _ (guV_lt bs) (giV_lt bs).1 (giV_lt bs).2 hs hi hj hk (gu_only bs g1) g2 (gt_only bs _ g3).2 c1 c2 c3
      · exact only_100 b o cap bs hcap w hat _ _ _ _ _ _ _ _ (guV_lt bs) (giV_lt bs).1 (giV_lt bs).2 hs hi hj hk (gu_only bs g1) g2 g3 c1 c2 c3
  · have g3 : ¬ gtE bs 1099511627776 = 0 := fun h => g1 (gtE_ok bs _ h).1
    by_cases g2 : giE bs = 0
    · rw [g2] at c2
      obtain ⟨b, o, rfl, _⟩ := hat (by intro h; have := giK_pos g2; simp [h] at hj; rw [h] at this; omega)
      exact only_010 b o cap bs hcap w hat _ _ _ _ _ _ _ _ (guV_lt bs) (giV_lt bs).1 (giV_lt bs).2 hs hi hj hk g1 (gi_only bs g2) g3 c1 c2 c3
    · exact only_000 ao cap bs hcap w hat _ _ _ _ _ _ _ _ _ (guV_lt bs) (giV_lt bs).1 (giV_lt bs).2 hs hi hj hk g1 g2 g3 c1 c2 c3
end Go.Proofs.Ytfeepebiahekkaa
