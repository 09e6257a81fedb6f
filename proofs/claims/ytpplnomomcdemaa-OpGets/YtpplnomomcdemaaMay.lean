/-
  THE REFERENCE'S WORD ON WHICH OPERATIONS MAY BE: the walks of ref.may, ref.Check, op.Size, ref.Size.
-/
import Derived.Test.YtpplnomomcdemaaAwake
namespace Go.Proofs.Ytpplnomomcdemaa
open Go.RowKit Leb

set_option maxRecDepth 100000 in
set_option maxHeartbeats 3200000 in
theorem may_1 (p b : Int) (nm tx : ByteArray) (hs : nm.size ≤ maxLen) (ht : tx.size ≤ maxLen) (hn : nmB nm.data.toList = true) (w : World) :
    Calls Try.prog 22 #[.agg #[.int .i64 1, .string nm, .int .i64 p, .int .i64 b, .string tx]] w fun e w' => e = .returned (.bool (fitsB 1 p b tx.size)) ∧ After w w' := by
  unfold maxLen at ht
  by_cases h24 : tx.size ≤ 1024
  · have h24z : (tx.size : Int) ≤ 1024 := by omega
    by_cases hp : p = 0
    · subst hp
      by_cases hb : b = 0
      · subst hb
        go_enter Try.func22, Try.ntmps22
        go_wp2_with (go_at_call 39; refine Calls.mono (refName_one nm _ hs) ?_; rintro e w1 ⟨rfl, hw1⟩; rw [hn]; have hw2 := hw1.symm; clear hw1; subst hw2)
        go_ret
        exact ⟨by first | (simp_all [fitsB]; done) | (simp_all [fitsB]; omega) | grind [fitsB], after_alloc (After.refl w) _⟩
      · have hbb : (b == 0) = false := beq_eq_false_iff_ne.2 hb
        go_enter Try.func22, Try.ntmps22
        go_wp2_with (go_at_call 39; refine Calls.mono (refName_one nm _ hs) ?_; rintro e w1 ⟨rfl, hw1⟩; rw [hn]; have hw2 := hw1.symm; clear hw1; subst hw2)
        go_ret
        exact ⟨by first | (simp_all [fitsB]; done) | (simp_all [fitsB]; omega) | grind [fitsB], after_alloc (After.refl w) _⟩
    · have hpp : (p == 0) = false := beq_eq_false_iff_ne.2 hp
      go_enter Try.func22, Try.ntmps22
      go_wp2_with (go_at_call 39; refine Calls.mono (refName_one nm _ hs) ?_; rintro e w1 ⟨rfl, hw1⟩; rw [hn]; have hw2 := hw1.symm; clear hw1; subst hw2)
      go_ret
      exact ⟨by first | (simp_all [fitsB]; done) | (simp_all [fitsB]; omega) | grind [fitsB], after_alloc (After.refl w) _⟩
  · have h24z : ¬ (tx.size : Int) ≤ 1024 := by omega
    go_enter Try.func22, Try.ntmps22
    go_wp2_with (go_at_call 39; refine Calls.mono (refName_one nm _ hs) ?_; rintro e w1 ⟨rfl, hw1⟩; rw [hn]; have hw2 := hw1.symm; clear hw1; subst hw2)
    go_ret
    exact ⟨by first | (simp_all [fitsB]; done) | (simp_all [fitsB]; omega) | grind [fitsB], after_alloc (After.refl w) _⟩

set_option maxRecDepth 100000 in
set_option maxHeartbeats 3200000 in
theorem may_2 (p b : Int) (nm tx : ByteArray) (hs : nm.size ≤ maxLen) (_ht : tx.size ≤ maxLen) (hn : nmB nm.data.toList = true) (w : World) :
    Calls Try.prog 22 #[.agg #[.int .i64 2, .string nm, .int .i64 p, .int .i64 b, .string tx]] w fun e w' => e = .returned (.bool (fitsB 2 p b tx.size)) ∧ After w w' := by
  by_cases ht0 : tx.size = 0
  · have hs0 : tx.toList.isEmpty = true := by rw [str_empty, decide_eq_true ht0]
    by_cases hp : p = 0
    · subst hp
      by_cases hb : b = 0
      · subst hb
        go_enter Try.func22, Try.ntmps22
        go_wp2_with (go_at_call 39; refine Calls.mono (refName_one nm _ hs) ?_; rintro e w1 ⟨rfl, hw1⟩; rw [hn]; have hw2 := hw1.symm; clear hw1; subst hw2)
        go_ret
        exact ⟨by first | (simp_all [fitsB]; done) | (simp_all [fitsB]; omega) | grind [fitsB], after_alloc (After.refl w) _⟩
      · have hbb : (b == 0) = false := beq_eq_false_iff_ne.2 hb
        go_enter Try.func22, Try.ntmps22
        go_wp2_with (go_at_call 39; refine Calls.mono (refName_one nm _ hs) ?_; rintro e w1 ⟨rfl, hw1⟩; rw [hn]; have hw2 := hw1.symm; clear hw1; subst hw2)
        go_ret
        exact ⟨by first | (simp_all [fitsB]; done) | (simp_all [fitsB]; omega) | grind [fitsB], after_alloc (After.refl w) _⟩
    · have hpp : (p == 0) = false := beq_eq_false_iff_ne.2 hp
      go_enter Try.func22, Try.ntmps22
      go_wp2_with (go_at_call 39; refine Calls.mono (refName_one nm _ hs) ?_; rintro e w1 ⟨rfl, hw1⟩; rw [hn]; have hw2 := hw1.symm; clear hw1; subst hw2)
      go_ret
      exact ⟨by first | (simp_all [fitsB]; done) | (simp_all [fitsB]; omega) | grind [fitsB], after_alloc (After.refl w) _⟩
  · have hs0 : tx.toList.isEmpty = false := by rw [str_empty, decide_eq_false ht0]
    go_enter Try.func22, Try.ntmps22
    go_wp2_with (go_at_call 39; refine Calls.mono (refName_one nm _ hs) ?_; rintro e w1 ⟨rfl, hw1⟩; rw [hn]; have hw2 := hw1.symm; clear hw1; subst hw2)
    go_ret
    exact ⟨by first | (simp_all [fitsB]; done) | (simp_all [fitsB]; omega) | grind [fitsB], after_alloc (After.refl w) _⟩

set_option maxRecDepth 100000 in
set_option maxHeartbeats 3200000 in
theorem may_3 (p b : Int) (nm tx : ByteArray) (hs : nm.size ≤ maxLen) (_ht : tx.size ≤ maxLen) (hn : nmB nm.data.toList = true) (w : World) :
    Calls Try.prog 22 #[.agg #[.int .i64 3, .string nm, .int .i64 p, .int .i64 b, .string tx]] w fun e w' => e = .returned (.bool (fitsB 3 p b tx.size)) ∧ After w w' := by
  by_cases hb1 : (-2147483648) ≤ b
  · have hb1z : b ≥ (-2147483648) := hb1
    by_cases hb2 : b ≤ 2147483648
    · skip
      by_cases ht0 : tx.size = 0
      · have hs0 : tx.toList.isEmpty = true := by rw [str_empty, decide_eq_true ht0]
        by_cases hp : p = 0
        · subst hp
          go_enter Try.func22, Try.ntmps22
          go_wp2_with (go_at_call 39; refine Calls.mono (refName_one nm _ hs) ?_; rintro e w1 ⟨rfl, hw1⟩; rw [hn]; have hw2 := hw1.symm; clear hw1; subst hw2)
          go_ret
          exact ⟨by first | (simp_all [fitsB]; done) | (simp_all [fitsB]; omega) | grind [fitsB], after_alloc (After.refl w) _⟩
        · have hpp : (p == 0) = false := beq_eq_false_iff_ne.2 hp
          go_enter Try.func22, Try.ntmps22
          go_wp2_with (go_at_call 39; refine Calls.mono (refName_one nm _ hs) ?_; rintro e w1 ⟨rfl, hw1⟩; rw [hn]; have hw2 := hw1.symm; clear hw1; subst hw2)
          go_ret
          exact ⟨by first | (simp_all [fitsB]; done) | (simp_all [fitsB]; omega) | grind [fitsB], after_alloc (After.refl w) _⟩
      · have hs0 : tx.toList.isEmpty = false := by rw [str_empty, decide_eq_false ht0]
        go_enter Try.func22, Try.ntmps22
        go_wp2_with (go_at_call 39; refine Calls.mono (refName_one nm _ hs) ?_; rintro e w1 ⟨rfl, hw1⟩; rw [hn]; have hw2 := hw1.symm; clear hw1; subst hw2)
        go_ret
        exact ⟨by first | (simp_all [fitsB]; done) | (simp_all [fitsB]; omega) | grind [fitsB], after_alloc (After.refl w) _⟩
    · skip
      go_enter Try.func22, Try.ntmps22
      go_wp2_with (go_at_call 39; refine Calls.mono (refName_one nm _ hs) ?_; rintro e w1 ⟨rfl, hw1⟩; rw [hn]; have hw2 := hw1.symm; clear hw1; subst hw2)
      go_ret
      exact ⟨by first | (simp_all [fitsB]; done) | (simp_all [fitsB]; omega) | grind [fitsB], after_alloc (After.refl w) _⟩
  · have hb1z : ¬ b ≥ (-2147483648) := hb1
    go_enter Try.func22, Try.ntmps22
    go_wp2_with (go_at_call 39; refine Calls.mono (refName_one nm _ hs) ?_; rintro e w1 ⟨rfl, hw1⟩; rw [hn]; have hw2 := hw1.symm; clear hw1; subst hw2)
    go_ret
    exact ⟨by first | (simp_all [fitsB]; done) | (simp_all [fitsB]; omega) | grind [fitsB], after_alloc (After.refl w) _⟩

set_option maxRecDepth 100000 in
set_option maxHeartbeats 3200000 in
theorem may_4 (p b : Int) (nm tx : ByteArray) (hs : nm.size ≤ maxLen) (ht : tx.size ≤ maxLen) (hn : nmB nm.data.toList = true) (w : World) :
    Calls Try.prog 22 #[.agg #[.int .i64 4, .string nm, .int .i64 p, .int .i64 b, .string tx]] w fun e w' => e = .returned (.bool (fitsB 4 p b tx.size)) ∧ After w w' := by
  unfold maxLen at ht
  by_cases hp1 : 0 ≤ p
  · have hp1z : p ≥ 0 := hp1
    by_cases hp2 : p ≤ 1099511627776
    · skip
      by_cases h1t : 1 ≤ tx.size
      · have h1z : (tx.size : Int) ≥ 1 := by omega
        by_cases h24 : tx.size ≤ 1024
        · have h24z : (tx.size : Int) ≤ 1024 := by omega
          by_cases hb : b = 0
          · subst hb
            go_enter Try.func22, Try.ntmps22
            go_wp2_with (go_at_call 39; refine Calls.mono (refName_one nm _ hs) ?_; rintro e w1 ⟨rfl, hw1⟩; rw [hn]; have hw2 := hw1.symm; clear hw1; subst hw2)
            go_ret
            exact ⟨by first | (simp_all [fitsB, placeB]; done) | (simp_all [fitsB, placeB]; omega) | grind [fitsB, placeB], after_alloc (After.refl w) _⟩
          · have hbb : (b == 0) = false := beq_eq_false_iff_ne.2 hb
            go_enter Try.func22, Try.ntmps22
            go_wp2_with (go_at_call 39; refine Calls.mono (refName_one nm _ hs) ?_; rintro e w1 ⟨rfl, hw1⟩; rw [hn]; have hw2 := hw1.symm; clear hw1; subst hw2)
            go_ret
            exact ⟨by first | (simp_all [fitsB, placeB]; done) | (simp_all [fitsB, placeB]; omega) | grind [fitsB, placeB], after_alloc (After.refl w) _⟩
        · have h24z : ¬ (tx.size : Int) ≤ 1024 := by omega
          go_enter Try.func22, Try.ntmps22
          go_wp2_with (go_at_call 39; refine Calls.mono (refName_one nm _ hs) ?_; rintro e w1 ⟨rfl, hw1⟩; rw [hn]; have hw2 := hw1.symm; clear hw1; subst hw2)
          go_ret
          exact ⟨by first | (simp_all [fitsB, placeB]; done) | (simp_all [fitsB, placeB]; omega) | grind [fitsB, placeB], after_alloc (After.refl w) _⟩
      · have h1z : ¬ (tx.size : Int) ≥ 1 := by omega
        go_enter Try.func22, Try.ntmps22
        go_wp2_with (go_at_call 39; refine Calls.mono (refName_one nm _ hs) ?_; rintro e w1 ⟨rfl, hw1⟩; rw [hn]; have hw2 := hw1.symm; clear hw1; subst hw2)
        go_ret
        exact ⟨by first | (simp_all [fitsB, placeB]; done) | (simp_all [fitsB, placeB]; omega) | grind [fitsB, placeB], after_alloc (After.refl w) _⟩
    · skip
      go_enter Try.func22, Try.ntmps22
      go_wp2_with (go_at_call 39; refine Calls.mono (refName_one nm _ hs) ?_; rintro e w1 ⟨rfl, hw1⟩; rw [hn]; have hw2 := hw1.symm; clear hw1; subst hw2)
      go_ret
      exact ⟨by first | (simp_all [fitsB, placeB]; done) | (simp_all [fitsB, placeB]; omega) | grind [fitsB, placeB], after_alloc (After.refl w) _⟩
  · have hp1z : ¬ p ≥ 0 := hp1
    go_enter Try.func22, Try.ntmps22
    go_wp2_with (go_at_call 39; refine Calls.mono (refName_one nm _ hs) ?_; rintro e w1 ⟨rfl, hw1⟩; rw [hn]; have hw2 := hw1.symm; clear hw1; subst hw2)
    go_ret
    exact ⟨by first | (simp_all [fitsB, placeB]; done) | (simp_all [fitsB, placeB]; omega) | grind [fitsB, placeB], after_alloc (After.refl w) _⟩

set_option maxRecDepth 100000 in
set_option maxHeartbeats 3200000 in
theorem may_5 (p b : Int) (nm tx : ByteArray) (hs : nm.size ≤ maxLen) (_ht : tx.size ≤ maxLen) (hn : nmB nm.data.toList = true) (w : World) :
    Calls Try.prog 22 #[.agg #[.int .i64 5, .string nm, .int .i64 p, .int .i64 b, .string tx]] w fun e w' => e = .returned (.bool (fitsB 5 p b tx.size)) ∧ After w w' := by
  by_cases hp1 : 0 ≤ p
  · have hp1z : p ≥ 0 := hp1
    by_cases hp2 : p ≤ 1099511627776
    · skip
      by_cases hb1 : 1 ≤ b
      · have hb1z : b ≥ 1 := hb1
        by_cases hb2 : b ≤ 1024
        · skip
          by_cases ht0 : tx.size = 0
          · have hs0 : tx.toList.isEmpty = true := by rw [str_empty, decide_eq_true ht0]
            go_enter Try.func22, Try.ntmps22
            go_wp2_with (go_at_call 39; refine Calls.mono (refName_one nm _ hs) ?_; rintro e w1 ⟨rfl, hw1⟩; rw [hn]; have hw2 := hw1.symm; clear hw1; subst hw2)
            go_ret
            exact ⟨by first | (simp_all [fitsB, placeB]; done) | (simp_all [fitsB, placeB]; omega) | grind [fitsB, placeB], after_alloc (After.refl w) _⟩
          · have hs0 : tx.toList.isEmpty = false := by rw [str_empty, decide_eq_false ht0]
            go_enter Try.func22, Try.ntmps22
            go_wp2_with (go_at_call 39; refine Calls.mono (refName_one nm _ hs) ?_; rintro e w1 ⟨rfl, hw1⟩; rw [hn]; have hw2 := hw1.symm; clear hw1; subst hw2)
            go_ret
            exact ⟨by first | (simp_all [fitsB, placeB]; done) | (simp_all [fitsB, placeB]; omega) | grind [fitsB, placeB], after_alloc (After.refl w) _⟩
        · skip
          go_enter Try.func22, Try.ntmps22
          go_wp2_with (go_at_call 39; refine Calls.mono (refName_one nm _ hs) ?_; rintro e w1 ⟨rfl, hw1⟩; rw [hn]; have hw2 := hw1.symm; clear hw1; subst hw2)
          go_ret
          exact ⟨by first | (simp_all [fitsB, placeB]; done) | (simp_all [fitsB, placeB]; omega) | grind [fitsB, placeB], after_alloc (After.refl w) _⟩
      · have hb1z : ¬ b ≥ 1 := hb1
        go_enter Try.func22, Try.ntmps22
        go_wp2_with (go_at_call 39; refine Calls.mono (refName_one nm _ hs) ?_; rintro e w1 ⟨rfl, hw1⟩; rw [hn]; have hw2 := hw1.symm; clear hw1; subst hw2)
        go_ret
        exact ⟨by first | (simp_all [fitsB, placeB]; done) | (simp_all [fitsB, placeB]; omega) | grind [fitsB, placeB], after_alloc (After.refl w) _⟩
    · skip
      go_enter Try.func22, Try.ntmps22
      go_wp2_with (go_at_call 39; refine Calls.mono (refName_one nm _ hs) ?_; rintro e w1 ⟨rfl, hw1⟩; rw [hn]; have hw2 := hw1.symm; clear hw1; subst hw2)
      go_ret
      exact ⟨by first | (simp_all [fitsB, placeB]; done) | (simp_all [fitsB, placeB]; omega) | grind [fitsB, placeB], after_alloc (After.refl w) _⟩
  · have hp1z : ¬ p ≥ 0 := hp1
    go_enter Try.func22, Try.ntmps22
    go_wp2_with (go_at_call 39; refine Calls.mono (refName_one nm _ hs) ?_; rintro e w1 ⟨rfl, hw1⟩; rw [hn]; have hw2 := hw1.symm; clear hw1; subst hw2)
    go_ret
    exact ⟨by first | (simp_all [fitsB, placeB]; done) | (simp_all [fitsB, placeB]; omega) | grind [fitsB, placeB], after_alloc (After.refl w) _⟩

set_option maxRecDepth 100000 in
set_option maxHeartbeats 3200000 in
theorem may_no (k : Int) (hk : k ≠ 1 ∧ k ≠ 2 ∧ k ≠ 3 ∧ k ≠ 4 ∧ k ≠ 5) (p b : Int) (nm tx : ByteArray) (hs : nm.size ≤ maxLen) (_ht : tx.size ≤ maxLen) (hn : nmB nm.data.toList = true) (w : World) :
    Calls Try.prog 22 #[.agg #[.int .i64 k, .string nm, .int .i64 p, .int .i64 b, .string tx]] w fun e w' => e = .returned (.bool (fitsB k p b tx.size)) ∧ After w w' := by
  have q1 : (k == 1) = false := beq_eq_false_iff_ne.2 (by omega)
  have q2 : (k == 2) = false := beq_eq_false_iff_ne.2 (by omega)
  have q3 : (k == 3) = false := beq_eq_false_iff_ne.2 (by omega)
  have q4 : (k == 4) = false := beq_eq_false_iff_ne.2 (by omega)
  have q5 : (k == 5) = false := beq_eq_false_iff_ne.2 (by omega)
  go_enter Try.func22, Try.ntmps22
  go_wp2_with (go_at_call 39; refine Calls.mono (refName_one nm _ hs) ?_; rintro e w1 ⟨rfl, hw1⟩; rw [hn]; have hw2 := hw1.symm; clear hw1; subst hw2)
  go_ret
  exact ⟨by first | (simp_all [fitsB]; done) | (simp_all [fitsB]; omega) | grind [fitsB], after_alloc (After.refl w) _⟩

set_option maxRecDepth 100000 in
set_option maxHeartbeats 3200000 in
theorem may_in (k p b : Int) (nm tx : ByteArray) (hs : nm.size ≤ maxLen) (ht : tx.size ≤ maxLen) (w : World) : Calls Try.prog 22 #[.agg #[.int .i64 k, .string nm, .int .i64 p, .int .i64 b, .string tx]] w fun e w' => e = .returned (.bool (nmB nm.data.toList && fitsB k p b tx.size)) ∧ After w w' := by
  cases hn : nmB nm.data.toList with
  | false =>
    go_enter Try.func22, Try.ntmps22
    go_wp2_with (go_at_call 39; refine Calls.mono (refName_one nm _ hs) ?_; rintro e w1 ⟨rfl, hw1⟩; rw [hn]; have hw2 := hw1.symm; clear hw1; subst hw2)
    go_ret
    exact ⟨rfl, after_alloc (After.refl w) _⟩
  | true =>
    rw [Bool.true_and]
    by_cases h1 : k = 1
    · subst h1; exact may_1 p b nm tx hs ht hn w
    by_cases h2 : k = 2
    · subst h2; exact may_2 p b nm tx hs ht hn w
    by_cases h3 : k = 3
    · subst h3; exact may_3 p b nm tx hs ht hn w
    by_cases h4 : k = 4
    · subst h4; exact may_4 p b nm tx hs ht hn w
    by_cases h5 : k = 5
    · subst h5; exact may_5 p b nm tx hs ht hn w
    exact may_no k ⟨h1, h2, h3, h4, h5⟩ p b nm tx hs ht hn w
theorem may_any (x : Opn) (hx : x.Ok) (w : World) : Calls Try.prog 22 #[opV x] w fun e w' => e = .returned (.bool (mayB x)) ∧ After w w' := by
  have := may_in x.kind x.pos x.by_ (strOf x.name) (strOf x.text) (by rw [strOf_size]; exact hx.nl) (by rw [strOf_size]; exact hx.tl) w
  rw [data_strOf, strOf_size] at this
  exact this

set_option maxRecDepth 100000 in
set_option maxHeartbeats 3200000 in
theorem rcheck_any (x : Opn) (hx : x.Ok) (w : World) : Calls Try.prog 10 #[opV x] w fun e w' => e = .returned (.int .i64 (errOf (mayB x))) ∧ After w w' := by
  have HC : Hid (∀ W, Calls Try.prog 22 #[opV x] W fun e w' => e = .returned (.bool (mayB x)) ∧ After W w') := fun W => may_any x hx W
  obtain ⟨k, nm, p, b, tx⟩ := x
  cases hm : mayB ⟨k, nm, p, b, tx⟩ with
  | false =>
    rw [hm] at HC
    clear hx hm
    go_enter Try.func10, Try.ntmps10
    go_wp2_with (go_at_call 22; refine Calls.mono (HC.out _) ?_; rintro e w1 ⟨rfl, ha⟩; have H1 := show Hid (After w w1) from After.trans (after_alloc (After.refl w) _) ha; clear ha)
    go_ret
    exact ⟨rfl, H1.out⟩
  | true =>
    rw [hm] at HC
    clear hx hm
    go_enter Try.func10, Try.ntmps10
    go_wp2_with (go_at_call 22; refine Calls.mono (HC.out _) ?_; rintro e w1 ⟨rfl, ha⟩; have H1 := show Hid (After w w1) from After.trans (after_alloc (After.refl w) _) ha; clear ha)
    go_ret
    exact ⟨rfl, H1.out⟩
def sizeM (x : Opn) : Int := if x.kind = 4 then (x.text.length : Int) else 1

set_option maxRecDepth 100000 in
set_option maxHeartbeats 3200000 in
theorem size_any (x : Opn) (w : World) : Calls Try.prog 11 #[opV x] w fun e w' => e = .returned (.int .i64 (sizeM x)) ∧ After w w' := by
  obtain ⟨k, nm, p, b, tx⟩ := x
  have hz := strOf_size tx
  by_cases hk : k = 4
  · subst hk
    go_enter Try.func11, Try.ntmps11
    go_wp2
    go_ret
    exact ⟨by simp_all [sizeM], after_alloc (After.refl w) _⟩
  · have hkb : (k == 4) = false := beq_eq_false_iff_ne.2 hk
    go_enter Try.func11, Try.ntmps11
    go_wp2
    go_ret
    exact ⟨by simp_all [sizeM], after_alloc (After.refl w) _⟩

set_option maxRecDepth 100000 in
set_option maxHeartbeats 3200000 in
theorem rsize_any (x : Opn) (w : World) : Calls Try.prog 12 #[opV x] w fun e w' => e = .returned (.int .i64 (sizeM x)) ∧ After w w' := by
  obtain ⟨k, nm, p, b, tx⟩ := x
  have hz := strOf_size tx
  by_cases hk : k = 4
  · subst hk
    go_enter Try.func12, Try.ntmps12
    go_wp2
    go_ret
    exact ⟨by simp_all [sizeM], after_alloc (After.refl w) _⟩
  · have hkb : (k == 4) = false := beq_eq_false_iff_ne.2 hk
    go_enter Try.func12, Try.ntmps12
    go_wp2
    go_ret
    exact ⟨by simp_all [sizeM], after_alloc (After.refl w) _⟩

end Go.Proofs.Ytpplnomomcdemaa
