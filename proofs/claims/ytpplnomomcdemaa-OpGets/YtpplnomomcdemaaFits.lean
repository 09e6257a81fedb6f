/-
  WHICH OPERATIONS MAY BE: the walks of op.isPlace, op.fitsKind, op.Check, op.Size, and of the reference's.
-/
import Derived.Test.YtpplnomomcdemaaNames
import Derived.Test.YtpplnomomcdemaaRow
namespace Go.Proofs.Ytpplnomomcdemaa
open Go.RowKit
def placeB (n : Int) : Bool := decide (0 ≤ n) && decide (n ≤ 1099511627776)
/-- What a kind asks of the fields. -/
def fitsB (k p b : Int) (t : Nat) : Bool :=
  if k = 4 then placeB p && (decide (1 ≤ t) && (decide (t ≤ 1024) && decide (b = 0)))
  else if k = 1 then decide (t ≤ 1024) && (decide (p = 0) && decide (b = 0))
  else if k = 5 then placeB p && (decide (1 ≤ b) && (decide (b ≤ 1024) && decide (t = 0)))
  else if k = 3 then decide (-2147483648 ≤ b) && (decide (b ≤ 2147483648) && (decide (t = 0) && decide (p = 0)))
  else if k = 2 then decide (t = 0) && (decide (p = 0) && decide (b = 0))
  else false
theorem str_nil (s : ByteArray) : s = (⟨#[]⟩ : ByteArray) ↔ s.size = 0 := by
  constructor
  · intro e; rw [e]; rfl
  · intro h
    obtain ⟨d⟩ := s
    simp only [ByteArray.size] at h
    rw [Array.eq_empty_of_size_eq_zero h]
theorem str_empty (s : ByteArray) : s.toList.isEmpty = decide (s.size = 0) := by
  have hl : s.toList.length = s.size := by rw [toList_data]; rfl
  cases h : s.toList with
  | nil => rw [h] at hl; simp at hl; simp [← hl]
  | cons x xs => rw [h, List.length_cons] at hl; have h2 : ¬ s.size = 0 := by omega
                 simp [h2]
set_option maxRecDepth 100000 in
theorem place_any (n : Int) (w : World) : Calls Try.prog 38 #[.int .i64 n] w fun e w' => e = .returned (.bool (placeB n)) ∧ w' = w := by
  by_cases h1 : 0 ≤ n
  · by_cases h2 : n ≤ 1099511627776
    · go_enter Try.func38, Try.ntmps38
      go_wp2
      go_ret
      simp [placeB, h1, h2]
    · go_enter Try.func38, Try.ntmps38
      go_wp2
      go_ret
      simp [placeB, h1, h2]
  · go_enter Try.func38, Try.ntmps38
    go_wp2
    go_ret
    simp [placeB]; omega

set_option maxRecDepth 100000 in
set_option maxHeartbeats 3200000 in
theorem fits_4 (p b : Int) (nm tx : ByteArray) (ht : tx.size ≤ maxLen) (w : World) :
    Calls Try.prog 21 #[.agg #[.int .i64 4, .string nm, .int .i64 p, .int .i64 b, .string tx]] w fun e w' => e = .returned (.bool (fitsB 4 p b tx.size)) ∧ After w w' := by
  have _u := ht
  clear _u
  cases hpl : placeB p with
  | false =>
    go_enter Try.func21, Try.ntmps21
    go_wp2_with ((go_at_call 38; refine Calls.mono (place_any p _) ?_; rintro e wq ⟨rfl, hwq⟩; rw [hpl]; have hwr := hwq.symm; clear hwq; subst hwr))
    go_ret
    exact ⟨by first | (simp_all [fitsB]; done) | (simp_all [fitsB]; omega) | grind [fitsB], by first | exact after_alloc (After.refl w) _ | exact Below.setCell (after_alloc (After.refl w) _) (p := ⟨w.heap.size, _, none⟩) (Nat.le_refl _) _⟩
  | true =>
    by_cases ht0 : tx.size = 0
    · have hs0 : tx.toList.isEmpty = true := by rw [str_empty, decide_eq_true ht0]
      go_enter Try.func21, Try.ntmps21
      go_wp2_with ((go_at_call 38; refine Calls.mono (place_any p _) ?_; rintro e wq ⟨rfl, hwq⟩; rw [hpl]; have hwr := hwq.symm; clear hwq; subst hwr))
      go_ret
      exact ⟨by first | (simp_all [fitsB]; done) | (simp_all [fitsB]; omega) | grind [fitsB], by first | exact after_alloc (After.refl w) _ | exact Below.setCell (after_alloc (After.refl w) _) (p := ⟨w.heap.size, _, none⟩) (Nat.le_refl _) _⟩
    · have hs0 : tx.toList.isEmpty = false := by rw [str_empty, decide_eq_false ht0]
      have h1t : 1 ≤ tx.size := by omega
      by_cases h24 : tx.size ≤ 1024
      · have h24z : (tx.size : Int) ≤ 1024 := by omega
        by_cases hb : b = 0
        · subst hb
          go_enter Try.func21, Try.ntmps21
          go_wp2_with ((go_at_call 38; refine Calls.mono (place_any p _) ?_; rintro e wq ⟨rfl, hwq⟩; rw [hpl]; have hwr := hwq.symm; clear hwq; subst hwr))
          go_ret
          exact ⟨by first | (simp_all [fitsB]; done) | (simp_all [fitsB]; omega) | grind [fitsB], by first | exact after_alloc (After.refl w) _ | exact Below.setCell (after_alloc (After.refl w) _) (p := ⟨w.heap.size, _, none⟩) (Nat.le_refl _) _⟩
        · have hbb : (b == 0) = false := beq_eq_false_iff_ne.2 hb
          go_enter Try.func21, Try.ntmps21
          go_wp2_with ((go_at_call 38; refine Calls.mono (place_any p _) ?_; rintro e wq ⟨rfl, hwq⟩; rw [hpl]; have hwr := hwq.symm; clear hwq; subst hwr))
          go_ret
          exact ⟨by first | (simp_all [fitsB]; done) | (simp_all [fitsB]; omega) | grind [fitsB], by first | exact after_alloc (After.refl w) _ | exact Below.setCell (after_alloc (After.refl w) _) (p := ⟨w.heap.size, _, none⟩) (Nat.le_refl _) _⟩
      · have h24z : ¬ (tx.size : Int) ≤ 1024 := by omega
        go_enter Try.func21, Try.ntmps21
        go_wp2_with ((go_at_call 38; refine Calls.mono (place_any p _) ?_; rintro e wq ⟨rfl, hwq⟩; rw [hpl]; have hwr := hwq.symm; clear hwq; subst hwr))
        go_ret
        exact ⟨by first | (simp_all [fitsB]; done) | (simp_all [fitsB]; omega) | grind [fitsB], by first | exact after_alloc (After.refl w) _ | exact Below.setCell (after_alloc (After.refl w) _) (p := ⟨w.heap.size, _, none⟩) (Nat.le_refl _) _⟩

set_option maxRecDepth 100000 in
set_option maxHeartbeats 3200000 in
theorem fits_1 (p b : Int) (nm tx : ByteArray) (ht : tx.size ≤ maxLen) (w : World) :
    Calls Try.prog 21 #[.agg #[.int .i64 1, .string nm, .int .i64 p, .int .i64 b, .string tx]] w fun e w' => e = .returned (.bool (fitsB 1 p b tx.size)) ∧ After w w' := by
  have _u := ht
  clear _u
  by_cases h24 : tx.size ≤ 1024
  · have h24z : (tx.size : Int) ≤ 1024 := by omega
    by_cases hp : p = 0
    · subst hp
      by_cases hb : b = 0
      · subst hb
        go_enter Try.func21, Try.ntmps21
        go_wp2_with (fail)
        go_ret
        exact ⟨by first | (simp_all [fitsB]; done) | (simp_all [fitsB]; omega) | grind [fitsB], by first | exact after_alloc (After.refl w) _ | exact Below.setCell (after_alloc (After.refl w) _) (p := ⟨w.heap.size, _, none⟩) (Nat.le_refl _) _⟩
      · have hbb : (b == 0) = false := beq_eq_false_iff_ne.2 hb
        go_enter Try.func21, Try.ntmps21
        go_wp2_with (fail)
        go_ret
        exact ⟨by first | (simp_all [fitsB]; done) | (simp_all [fitsB]; omega) | grind [fitsB], by first | exact after_alloc (After.refl w) _ | exact Below.setCell (after_alloc (After.refl w) _) (p := ⟨w.heap.size, _, none⟩) (Nat.le_refl _) _⟩
    · have hpp : (p == 0) = false := beq_eq_false_iff_ne.2 hp
      go_enter Try.func21, Try.ntmps21
      go_wp2_with (fail)
      go_ret
      exact ⟨by first | (simp_all [fitsB]; done) | (simp_all [fitsB]; omega) | grind [fitsB], by first | exact after_alloc (After.refl w) _ | exact Below.setCell (after_alloc (After.refl w) _) (p := ⟨w.heap.size, _, none⟩) (Nat.le_refl _) _⟩
  · have h24z : ¬ (tx.size : Int) ≤ 1024 := by omega
    go_enter Try.func21, Try.ntmps21
    go_wp2_with (fail)
    go_ret
    exact ⟨by first | (simp_all [fitsB]; done) | (simp_all [fitsB]; omega) | grind [fitsB], by first | exact after_alloc (After.refl w) _ | exact Below.setCell (after_alloc (After.refl w) _) (p := ⟨w.heap.size, _, none⟩) (Nat.le_refl _) _⟩

set_option maxRecDepth 100000 in
set_option maxHeartbeats 3200000 in
theorem fits_5 (p b : Int) (nm tx : ByteArray) (ht : tx.size ≤ maxLen) (w : World) :
    Calls Try.prog 21 #[.agg #[.int .i64 5, .string nm, .int .i64 p, .int .i64 b, .string tx]] w fun e w' => e = .returned (.bool (fitsB 5 p b tx.size)) ∧ After w w' := by
  have _u := ht
  clear _u
  cases hpl : placeB p with
  | false =>
    go_enter Try.func21, Try.ntmps21
    go_wp2_with ((go_at_call 38; refine Calls.mono (place_any p _) ?_; rintro e wq ⟨rfl, hwq⟩; rw [hpl]; have hwr := hwq.symm; clear hwq; subst hwr))
    go_ret
    exact ⟨by first | (simp_all [fitsB]; done) | (simp_all [fitsB]; omega) | grind [fitsB], by first | exact after_alloc (After.refl w) _ | exact Below.setCell (after_alloc (After.refl w) _) (p := ⟨w.heap.size, _, none⟩) (Nat.le_refl _) _⟩
  | true =>
    by_cases h1 : 1 ≤ b
    · by_cases h2 : b ≤ 1024
      · by_cases ht0 : tx.size = 0
        · have hs0 : tx.toList.isEmpty = true := by rw [str_empty, decide_eq_true ht0]
          go_enter Try.func21, Try.ntmps21
          go_wp2_with ((go_at_call 38; refine Calls.mono (place_any p _) ?_; rintro e wq ⟨rfl, hwq⟩; rw [hpl]; have hwr := hwq.symm; clear hwq; subst hwr))
          go_ret
          exact ⟨by first | (simp_all [fitsB]; done) | (simp_all [fitsB]; omega) | grind [fitsB], by first | exact after_alloc (After.refl w) _ | exact Below.setCell (after_alloc (After.refl w) _) (p := ⟨w.heap.size, _, none⟩) (Nat.le_refl _) _⟩
        · have hs0 : tx.toList.isEmpty = false := by rw [str_empty, decide_eq_false ht0]
          go_enter Try.func21, Try.ntmps21
          go_wp2_with ((go_at_call 38; refine Calls.mono (place_any p _) ?_; rintro e wq ⟨rfl, hwq⟩; rw [hpl]; have hwr := hwq.symm; clear hwq; subst hwr))
          go_ret
          exact ⟨by first | (simp_all [fitsB]; done) | (simp_all [fitsB]; omega) | grind [fitsB], by first | exact after_alloc (After.refl w) _ | exact Below.setCell (after_alloc (After.refl w) _) (p := ⟨w.heap.size, _, none⟩) (Nat.le_refl _) _⟩
      · have h2n : ¬ b ≤ 1024 := h2
        go_enter Try.func21, Try.ntmps21
        go_wp2_with ((go_at_call 38; refine Calls.mono (place_any p _) ?_; rintro e wq ⟨rfl, hwq⟩; rw [hpl]; have hwr := hwq.symm; clear hwq; subst hwr))
        go_ret
        exact ⟨by first | (simp_all [fitsB]; done) | (simp_all [fitsB]; omega) | grind [fitsB], by first | exact after_alloc (After.refl w) _ | exact Below.setCell (after_alloc (After.refl w) _) (p := ⟨w.heap.size, _, none⟩) (Nat.le_refl _) _⟩
    · have h1n : ¬ 1 ≤ b := h1
      go_enter Try.func21, Try.ntmps21
      go_wp2_with ((go_at_call 38; refine Calls.mono (place_any p _) ?_; rintro e wq ⟨rfl, hwq⟩; rw [hpl]; have hwr := hwq.symm; clear hwq; subst hwr))
      go_ret
      exact ⟨by first | (simp_all [fitsB]; done) | (simp_all [fitsB]; omega) | grind [fitsB], by first | exact after_alloc (After.refl w) _ | exact Below.setCell (after_alloc (After.refl w) _) (p := ⟨w.heap.size, _, none⟩) (Nat.le_refl _) _⟩

set_option maxRecDepth 100000 in
set_option maxHeartbeats 3200000 in
theorem fits_3 (p b : Int) (nm tx : ByteArray) (ht : tx.size ≤ maxLen) (w : World) :
    Calls Try.prog 21 #[.agg #[.int .i64 3, .string nm, .int .i64 p, .int .i64 b, .string tx]] w fun e w' => e = .returned (.bool (fitsB 3 p b tx.size)) ∧ After w w' := by
  have _u := ht
  clear _u
  by_cases h1 : -2147483648 ≤ b
  · have h1n : ¬ b < -2147483648 := by omega
    by_cases h2 : b ≤ 2147483648
    · have h2n : ¬ b > 2147483648 := by omega
      by_cases ht0 : tx.size = 0
      · have hs0 : tx.toList.isEmpty = true := by rw [str_empty, decide_eq_true ht0]
        by_cases hp : p = 0
        · subst hp
          go_enter Try.func21, Try.ntmps21
          go_wp2_with (fail)
          go_ret
          exact ⟨by first | (simp_all [fitsB]; done) | (simp_all [fitsB]; omega) | grind [fitsB], by first | exact after_alloc (After.refl w) _ | exact Below.setCell (after_alloc (After.refl w) _) (p := ⟨w.heap.size, _, none⟩) (Nat.le_refl _) _⟩
        · have hpp : (p == 0) = false := beq_eq_false_iff_ne.2 hp
          go_enter Try.func21, Try.ntmps21
          go_wp2_with (fail)
          go_ret
          exact ⟨by first | (simp_all [fitsB]; done) | (simp_all [fitsB]; omega) | grind [fitsB], by first | exact after_alloc (After.refl w) _ | exact Below.setCell (after_alloc (After.refl w) _) (p := ⟨w.heap.size, _, none⟩) (Nat.le_refl _) _⟩
      · have hs0 : tx.toList.isEmpty = false := by rw [str_empty, decide_eq_false ht0]
        go_enter Try.func21, Try.ntmps21
        go_wp2_with (fail)
        go_ret
        exact ⟨by first | (simp_all [fitsB]; done) | (simp_all [fitsB]; omega) | grind [fitsB], by first | exact after_alloc (After.refl w) _ | exact Below.setCell (after_alloc (After.refl w) _) (p := ⟨w.heap.size, _, none⟩) (Nat.le_refl _) _⟩
    · have h2n : b > 2147483648 := by omega
      go_enter Try.func21, Try.ntmps21
      go_wp2_with (fail)
      go_ret
      exact ⟨by first | (simp_all [fitsB]; done) | (simp_all [fitsB]; omega) | grind [fitsB], by first | exact after_alloc (After.refl w) _ | exact Below.setCell (after_alloc (After.refl w) _) (p := ⟨w.heap.size, _, none⟩) (Nat.le_refl _) _⟩
  · have h1n : b < -2147483648 := by omega
    go_enter Try.func21, Try.ntmps21
    go_wp2_with (fail)
    go_ret
    exact ⟨by first | (simp_all [fitsB]; done) | (simp_all [fitsB]; omega) | grind [fitsB], by first | exact after_alloc (After.refl w) _ | exact Below.setCell (after_alloc (After.refl w) _) (p := ⟨w.heap.size, _, none⟩) (Nat.le_refl _) _⟩

set_option maxRecDepth 100000 in
set_option maxHeartbeats 3200000 in
theorem fits_2 (p b : Int) (nm tx : ByteArray) (ht : tx.size ≤ maxLen) (w : World) :
    Calls Try.prog 21 #[.agg #[.int .i64 2, .string nm, .int .i64 p, .int .i64 b, .string tx]] w fun e w' => e = .returned (.bool (fitsB 2 p b tx.size)) ∧ After w w' := by
  have _u := ht
  clear _u
  by_cases ht0 : tx.size = 0
  · have hs0 : tx.toList.isEmpty = true := by rw [str_empty, decide_eq_true ht0]
    by_cases hp : p = 0
    · subst hp
      by_cases hb : b = 0
      · subst hb
        go_enter Try.func21, Try.ntmps21
        go_wp2_with (fail)
        go_ret
        exact ⟨by first | (simp_all [fitsB]; done) | (simp_all [fitsB]; omega) | grind [fitsB], by first | exact after_alloc (After.refl w) _ | exact Below.setCell (after_alloc (After.refl w) _) (p := ⟨w.heap.size, _, none⟩) (Nat.le_refl _) _⟩
      · have hbb : (b == 0) = false := beq_eq_false_iff_ne.2 hb
        go_enter Try.func21, Try.ntmps21
        go_wp2_with (fail)
        go_ret
        exact ⟨by first | (simp_all [fitsB]; done) | (simp_all [fitsB]; omega) | grind [fitsB], by first | exact after_alloc (After.refl w) _ | exact Below.setCell (after_alloc (After.refl w) _) (p := ⟨w.heap.size, _, none⟩) (Nat.le_refl _) _⟩
    · have hpp : (p == 0) = false := beq_eq_false_iff_ne.2 hp
      go_enter Try.func21, Try.ntmps21
      go_wp2_with (fail)
      go_ret
      exact ⟨by first | (simp_all [fitsB]; done) | (simp_all [fitsB]; omega) | grind [fitsB], by first | exact after_alloc (After.refl w) _ | exact Below.setCell (after_alloc (After.refl w) _) (p := ⟨w.heap.size, _, none⟩) (Nat.le_refl _) _⟩
  · have hs0 : tx.toList.isEmpty = false := by rw [str_empty, decide_eq_false ht0]
    go_enter Try.func21, Try.ntmps21
    go_wp2_with (fail)
    go_ret
    exact ⟨by first | (simp_all [fitsB]; done) | (simp_all [fitsB]; omega) | grind [fitsB], by first | exact after_alloc (After.refl w) _ | exact Below.setCell (after_alloc (After.refl w) _) (p := ⟨w.heap.size, _, none⟩) (Nat.le_refl _) _⟩

set_option maxRecDepth 100000 in
set_option maxHeartbeats 3200000 in
theorem fits_no (k p b : Int) (hk : k ≠ 4 ∧ k ≠ 1 ∧ k ≠ 5 ∧ k ≠ 3 ∧ k ≠ 2) (nm tx : ByteArray) (w : World) :
    Calls Try.prog 21 #[.agg #[.int .i64 k, .string nm, .int .i64 p, .int .i64 b, .string tx]] w fun e w' => e = .returned (.bool (fitsB k p b tx.size)) ∧ After w w' := by
  obtain ⟨k4, k1, k5, k3, k2⟩ := hk
  have q4 : (k == 4) = false := beq_eq_false_iff_ne.2 k4
  have q1 : (k == 1) = false := beq_eq_false_iff_ne.2 k1
  have q5 : (k == 5) = false := beq_eq_false_iff_ne.2 k5
  have q3 : (k == 3) = false := beq_eq_false_iff_ne.2 k3
  have q2 : (k == 2) = false := beq_eq_false_iff_ne.2 k2
  go_enter Try.func21, Try.ntmps21
  go_wp2
  go_ret
  exact ⟨by simp [fitsB, k4, k1, k5, k3, k2], after_alloc (After.refl w) _⟩
theorem fits_any (k p b : Int) (nm tx : ByteArray) (ht : tx.size ≤ maxLen) (w : World) :
    Calls Try.prog 21 #[.agg #[.int .i64 k, .string nm, .int .i64 p, .int .i64 b, .string tx]] w fun e w' => e = .returned (.bool (fitsB k p b tx.size)) ∧ After w w' := by
  by_cases h4 : k = 4
  · subst h4; exact fits_4 p b nm tx ht w
  by_cases h1 : k = 1
  · subst h1; exact fits_1 p b nm tx ht w
  by_cases h5 : k = 5
  · subst h5; exact fits_5 p b nm tx ht w
  by_cases h3 : k = 3
  · subst h3; exact fits_3 p b nm tx ht w
  by_cases h2 : k = 2
  · subst h2; exact fits_2 p b nm tx ht w
  exact fits_no k p b ⟨h4, h1, h5, h3, h2⟩ nm tx w

end Go.Proofs.Ytpplnomomcdemaa
