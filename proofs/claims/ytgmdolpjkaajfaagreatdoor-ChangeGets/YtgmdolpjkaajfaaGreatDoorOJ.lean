/-
  CONTRACTS: May OpsOwn Fam RefPut
-/
import Derived.Test.YtgmdolpjkaajfaaGreatDoorOI
import Derived.Maps.AppendAt
namespace Go.Proofs.YtgmdolpjkaajfaaGreatDoor
open Go.RowKit Leb

set_option maxRecDepth 100000 in
set_option maxHeartbeats 3200000 in
theorem may_1 (p b : Int) (nm tx : ByteArray) (hs : nm.size ≤ maxLen) (ht : tx.size ≤ maxLen) (hn : nmB nm.data.toList = true) (w : World) :
    Calls Tryz.prog 92 #[.agg #[.int .i64 1, .string nm, .int .i64 p, .int .i64 b, .string tx]] w fun e w' => e = .returned (.bool (fitsB 1 p b tx.size)) ∧ After w w' := by
  unfold maxLen at ht
  by_cases h24 : tx.size ≤ 1024
  · have h24z : (tx.size : Int) ≤ 1024 := by omega
    by_cases hp : p = 0
    · subst hp
      by_cases hb : b = 0
      · subst hb
        go_enter Tryz.func92, Tryz.ntmps92
        go_wp2_with (go_at_call 55; refine Calls.mono (refName_one nm _ hs) ?_; rintro e w1 ⟨rfl, hw1⟩; rw [hn]; have hw2 := hw1.symm; clear hw1; subst hw2)
        go_ret
        exact ⟨by first | (simp_all [fitsB]; done) | (simp_all [fitsB]; omega) | grind [fitsB], after_alloc (After.refl w) _⟩
      · have hbb : (b == 0) = false := beq_eq_false_iff_ne.2 hb
        go_enter Tryz.func92, Tryz.ntmps92
        go_wp2_with (go_at_call 55; refine Calls.mono (refName_one nm _ hs) ?_; rintro e w1 ⟨rfl, hw1⟩; rw [hn]; have hw2 := hw1.symm; clear hw1; subst hw2)
        go_ret
        exact ⟨by first | (simp_all [fitsB]; done) | (simp_all [fitsB]; omega) | grind [fitsB], after_alloc (After.refl w) _⟩
    · have hpp : (p == 0) = false := beq_eq_false_iff_ne.2 hp
      go_enter Tryz.func92, Tryz.ntmps92
      go_wp2_with (go_at_call 55; refine Calls.mono (refName_one nm _ hs) ?_; rintro e w1 ⟨rfl, hw1⟩; rw [hn]; have hw2 := hw1.symm; clear hw1; subst hw2)
      go_ret
      exact ⟨by first | (simp_all [fitsB]; done) | (simp_all [fitsB]; omega) | grind [fitsB], after_alloc (After.refl w) _⟩
  · have h24z : ¬ (tx.size : Int) ≤ 1024 := by omega
    go_enter Tryz.func92, Tryz.ntmps92
    go_wp2_with (go_at_call 55; refine Calls.mono (refName_one nm _ hs) ?_; rintro e w1 ⟨rfl, hw1⟩; rw [hn]; have hw2 := hw1.symm; clear hw1; subst hw2)
    go_ret
    exact ⟨by first | (simp_all [fitsB]; done) | (simp_all [fitsB]; omega) | grind [fitsB], after_alloc (After.refl w) _⟩

set_option maxRecDepth 100000 in
set_option maxHeartbeats 3200000 in
theorem may_2 (p b : Int) (nm tx : ByteArray) (hs : nm.size ≤ maxLen) (_ht : tx.size ≤ maxLen) (hn : nmB nm.data.toList = true) (w : World) :
    Calls Tryz.prog 92 #[.agg #[.int .i64 2, .string nm, .int .i64 p, .int .i64 b, .string tx]] w fun e w' => e = .returned (.bool (fitsB 2 p b tx.size)) ∧ After w w' := by
  by_cases ht0 : tx.size = 0
  · have hs0 : tx.toList.isEmpty = true := by rw [str_empty, decide_eq_true ht0]
    by_cases hp : p = 0
    · subst hp
      by_cases hb : b = 0
      · subst hb
        go_enter Tryz.func92, Tryz.ntmps92
        go_wp2_with (go_at_call 55; refine Calls.mono (refName_one nm _ hs) ?_; rintro e w1 ⟨rfl, hw1⟩; rw [hn]; have hw2 := hw1.symm; clear hw1; subst hw2)
        go_ret
        exact ⟨by first | (simp_all [fitsB]; done) | (simp_all [fitsB]; omega) | grind [fitsB], after_alloc (After.refl w) _⟩
      · have hbb : (b == 0) = false := beq_eq_false_iff_ne.2 hb
        go_enter Tryz.func92, Tryz.ntmps92
        go_wp2_with (go_at_call 55; refine Calls.mono (refName_one nm _ hs) ?_; rintro e w1 ⟨rfl, hw1⟩; rw [hn]; have hw2 := hw1.symm; clear hw1; subst hw2)
        go_ret
        exact ⟨by first | (simp_all [fitsB]; done) | (simp_all [fitsB]; omega) | grind [fitsB], after_alloc (After.refl w) _⟩
    · have hpp : (p == 0) = false := beq_eq_false_iff_ne.2 hp
      go_enter Tryz.func92, Tryz.ntmps92
      go_wp2_with (go_at_call 55; refine Calls.mono (refName_one nm _ hs) ?_; rintro e w1 ⟨rfl, hw1⟩; rw [hn]; have hw2 := hw1.symm; clear hw1; subst hw2)
      go_ret
      exact ⟨by first | (simp_all [fitsB]; done) | (simp_all [fitsB]; omega) | grind [fitsB], after_alloc (After.refl w) _⟩
  · have hs0 : tx.toList.isEmpty = false := by rw [str_empty, decide_eq_false ht0]
    go_enter Tryz.func92, Tryz.ntmps92
    go_wp2_with (go_at_call 55; refine Calls.mono (refName_one nm _ hs) ?_; rintro e w1 ⟨rfl, hw1⟩; rw [hn]; have hw2 := hw1.symm; clear hw1; subst hw2)
    go_ret
    exact ⟨by first | (simp_all [fitsB]; done) | (simp_all [fitsB]; omega) | grind [fitsB], after_alloc (After.refl w) _⟩

set_option maxRecDepth 100000 in
set_option maxHeartbeats 3200000 in
theorem may_3 (p b : Int) (nm tx : ByteArray) (hs : nm.size ≤ maxLen) (_ht : tx.size ≤ maxLen) (hn : nmB nm.data.toList = true) (w : World) :
    Calls Tryz.prog 92 #[.agg #[.int .i64 3, .string nm, .int .i64 p, .int .i64 b, .string tx]] w fun e w' => e = .returned (.bool (fitsB 3 p b tx.size)) ∧ After w w' := by
  by_cases hb1 : (-2147483648) ≤ b
  · have hb1z : b ≥ (-2147483648) := hb1
    by_cases hb2 : b ≤ 2147483648
    · skip
      by_cases ht0 : tx.size = 0
      · have hs0 : tx.toList.isEmpty = true := by rw [str_empty, decide_eq_true ht0]
        by_cases hp : p = 0
        · subst hp
          go_enter Tryz.func92, Tryz.ntmps92
          go_wp2_with (go_at_call 55; refine Calls.mono (refName_one nm _ hs) ?_; rintro e w1 ⟨rfl, hw1⟩; rw [hn]; have hw2 := hw1.symm; clear hw1; subst hw2)
          go_ret
          exact ⟨by first | (simp_all [fitsB]; done) | (simp_all [fitsB]; omega) | grind [fitsB], after_alloc (After.refl w) _⟩
        · have hpp : (p == 0) = false := beq_eq_false_iff_ne.2 hp
          go_enter Tryz.func92, Tryz.ntmps92
          go_wp2_with (go_at_call 55; refine Calls.mono (refName_one nm _ hs) ?_; rintro e w1 ⟨rfl, hw1⟩; rw [hn]; have hw2 := hw1.symm; clear hw1; subst hw2)
          go_ret
          exact ⟨by first | (simp_all [fitsB]; done) | (simp_all [fitsB]; omega) | grind [fitsB], after_alloc (After.refl w) _⟩
      · have hs0 : tx.toList.isEmpty = false := by rw [str_empty, decide_eq_false ht0]
        go_enter Tryz.func92, Tryz.ntmps92
        go_wp2_with (go_at_call 55; refine Calls.mono (refName_one nm _ hs) ?_; rintro e w1 ⟨rfl, hw1⟩; rw [hn]; have hw2 := hw1.symm; clear hw1; subst hw2)
        go_ret
        exact ⟨by first | (simp_all [fitsB]; done) | (simp_all [fitsB]; omega) | grind [fitsB], after_alloc (After.refl w) _⟩
    · skip
      go_enter Tryz.func92, Tryz.ntmps92
      go_wp2_with (go_at_call 55; refine Calls.mono (refName_one nm _ hs) ?_; rintro e w1 ⟨rfl, hw1⟩; rw [hn]; have hw2 := hw1.symm; clear hw1; subst hw2)
      go_ret
      exact ⟨by first | (simp_all [fitsB]; done) | (simp_all [fitsB]; omega) | grind [fitsB], after_alloc (After.refl w) _⟩
  · have hb1z : ¬ b ≥ (-2147483648) := hb1
    go_enter Tryz.func92, Tryz.ntmps92
    go_wp2_with (go_at_call 55; refine Calls.mono (refName_one nm _ hs) ?_; rintro e w1 ⟨rfl, hw1⟩; rw [hn]; have hw2 := hw1.symm; clear hw1; subst hw2)
    go_ret
    exact ⟨by first | (simp_all [fitsB]; done) | (simp_all [fitsB]; omega) | grind [fitsB], after_alloc (After.refl w) _⟩

set_option maxRecDepth 100000 in
set_option maxHeartbeats 3200000 in
theorem may_4 (p b : Int) (nm tx : ByteArray) (hs : nm.size ≤ maxLen) (ht : tx.size ≤ maxLen) (hn : nmB nm.data.toList = true) (w : World) :
    Calls Tryz.prog 92 #[.agg #[.int .i64 4, .string nm, .int .i64 p, .int .i64 b, .string tx]] w fun e w' => e = .returned (.bool (fitsB 4 p b tx.size)) ∧ After w w' := by
  unfold maxLen at ht
  by_cases hp1 : 0 ≤ p
  · have hp1z : p ≥ 0 := hp1
    by_cases hp2 : p ≤ 1099511627776
    · skip
      by_cases h1t : 1 ≤ tx.size
      · have h1z : (tx.size : Int) ≥ 1 := by omega
        by_cases h24 : tx.size ≤ 1024
        · have h24z : (tx.size : Int) ≤ 1024 := by omega
          by_cases hb : b = 0
          · subst hb
            go_enter Tryz.func92, Tryz.ntmps92
            go_wp2_with (go_at_call 55; refine Calls.mono (refName_one nm _ hs) ?_; rintro e w1 ⟨rfl, hw1⟩; rw [hn]; have hw2 := hw1.symm; clear hw1; subst hw2)
            go_ret
            exact ⟨by first | (simp_all [fitsB, placeB]; done) | (simp_all [fitsB, placeB]; omega) | grind [fitsB, placeB], after_alloc (After.refl w) _⟩
          · have hbb : (b == 0) = false := beq_eq_false_iff_ne.2 hb
            go_enter Tryz.func92, Tryz.ntmps92
            go_wp2_with (go_at_call 55; refine Calls.mono (refName_one nm _ hs) ?_; rintro e w1 ⟨rfl, hw1⟩; rw [hn]; have hw2 := hw1.symm; clear hw1; subst hw2)
            go_ret
            exact ⟨by first | (simp_all [fitsB, placeB]; done) | (simp_all [fitsB, placeB]; omega) | grind [fitsB, placeB], after_alloc (After.refl w) _⟩
        · have h24z : ¬ (tx.size : Int) ≤ 1024 := by omega
          go_enter Tryz.func92, Tryz.ntmps92
          go_wp2_with (go_at_call 55; refine Calls.mono (refName_one nm _ hs) ?_; rintro e w1 ⟨rfl, hw1⟩; rw [hn]; have hw2 := hw1.symm; clear hw1; subst hw2)
          go_ret
          exact ⟨by first | (simp_all [fitsB, placeB]; done) | (simp_all [fitsB, placeB]; omega) | grind [fitsB, placeB], after_alloc (After.refl w) _⟩
      · have h1z : ¬ (tx.size : Int) ≥ 1 := by omega
        go_enter Tryz.func92, Tryz.ntmps92
        go_wp2_with (go_at_call 55; refine Calls.mono (refName_one nm _ hs) ?_; rintro e w1 ⟨rfl, hw1⟩; rw [hn]; have hw2 := hw1.symm; clear hw1; subst hw2)
        go_ret
        exact ⟨by first | (simp_all [fitsB, placeB]; done) | (simp_all [fitsB, placeB]; omega) | grind [fitsB, placeB], after_alloc (After.refl w) _⟩
    · skip
      go_enter Tryz.func92, Tryz.ntmps92
      go_wp2_with (go_at_call 55; refine Calls.mono (refName_one nm _ hs) ?_; rintro e w1 ⟨rfl, hw1⟩; rw [hn]; have hw2 := hw1.symm; clear hw1; subst hw2)
      go_ret
      exact ⟨by first | (simp_all [fitsB, placeB]; done) | (simp_all [fitsB, placeB]; omega) | grind [fitsB, placeB], after_alloc (After.refl w) _⟩
  · have hp1z : ¬ p ≥ 0 := hp1
    go_enter Tryz.func92, Tryz.ntmps92
    go_wp2_with (go_at_call 55; refine Calls.mono (refName_one nm _ hs) ?_; rintro e w1 ⟨rfl, hw1⟩; rw [hn]; have hw2 := hw1.symm; clear hw1; subst hw2)
    go_ret
    exact ⟨by first | (simp_all [fitsB, placeB]; done) | (simp_all [fitsB, placeB]; omega) | grind [fitsB, placeB], after_alloc (After.refl w) _⟩

set_option maxRecDepth 100000 in
set_option maxHeartbeats 3200000 in
theorem may_5 (p b : Int) (nm tx : ByteArray) (hs : nm.size ≤ maxLen) (_ht : tx.size ≤ maxLen) (hn : nmB nm.data.toList = true) (w : World) :
    Calls Tryz.prog 92 #[.agg #[.int .i64 5, .string nm, .int .i64 p, .int .i64 b, .string tx]] w fun e w' => e = .returned (.bool (fitsB 5 p b tx.size)) ∧ After w w' := by
  by_cases hp1 : 0 ≤ p
  · have hp1z : p ≥ 0 := hp1
    by_cases hp2 : p ≤ 1099511627776
    · skip
      by_cases hb1 : 1 ≤ b
      · have hb1z : b ≥ 1 := hb1
        by_cases hb2 : b ≤ 1024
        · skip
          by_cases ht0 : tx.size = 0
          · have hs0 : tx.toList.isEmpty = true := by rw [str_empty, decide_eq_true ht0]
            go_enter Tryz.func92, Tryz.ntmps92
            go_wp2_with (go_at_call 55; refine Calls.mono (refName_one nm _ hs) ?_; rintro e w1 ⟨rfl, hw1⟩; rw [hn]; have hw2 := hw1.symm; clear hw1; subst hw2)
            go_ret
            exact ⟨by first | (simp_all [fitsB, placeB]; done) | (simp_all [fitsB, placeB]; omega) | grind [fitsB, placeB], after_alloc (After.refl w) _⟩
          · have hs0 : tx.toList.isEmpty = false := by rw [str_empty, decide_eq_false ht0]
            go_enter Tryz.func92, Tryz.ntmps92
            go_wp2_with (go_at_call 55; refine Calls.mono (refName_one nm _ hs) ?_; rintro e w1 ⟨rfl, hw1⟩; rw [hn]; have hw2 := hw1.symm; clear hw1; subst hw2)
            go_ret
            exact ⟨by first | (simp_all [fitsB, placeB]; done) | (simp_all [fitsB, placeB]; omega) | grind [fitsB, placeB], after_alloc (After.refl w) _⟩
        · skip
          go_enter Tryz.func92, Tryz.ntmps92
          go_wp2_with (go_at_call 55; refine Calls.mono (refName_one nm _ hs) ?_; rintro e w1 ⟨rfl, hw1⟩; rw [hn]; have hw2 := hw1.symm; clear hw1; subst hw2)
          go_ret
          exact ⟨by first | (simp_all [fitsB, placeB]; done) | (simp_all [fitsB, placeB]; omega) | grind [fitsB, placeB], after_alloc (After.refl w) _⟩
      · have hb1z : ¬ b ≥ 1 := hb1
        go_enter Tryz.func92, Tryz.ntmps92
        go_wp2_with (go_at_call 55; refine Calls.mono (refName_one nm _ hs) ?_; rintro e w1 ⟨rfl, hw1⟩; rw [hn]; have hw2 := hw1.symm; clear hw1; subst hw2)
        go_ret
        exact ⟨by first | (simp_all [fitsB, placeB]; done) | (simp_all [fitsB, placeB]; omega) | grind [fitsB, placeB], after_alloc (After.refl w) _⟩
    · skip
      go_enter Tryz.func92, Tryz.ntmps92
      go_wp2_with (go_at_call 55; refine Calls.mono (refName_one nm _ hs) ?_; rintro e w1 ⟨rfl, hw1⟩; rw [hn]; have hw2 := hw1.symm; clear hw1; subst hw2)
      go_ret
      exact ⟨by first | (simp_all [fitsB, placeB]; done) | (simp_all [fitsB, placeB]; omega) | grind [fitsB, placeB], after_alloc (After.refl w) _⟩
  · have hp1z : ¬ p ≥ 0 := hp1
    go_enter Tryz.func92, Tryz.ntmps92
    go_wp2_with (go_at_call 55; refine Calls.mono (refName_one nm _ hs) ?_; rintro e w1 ⟨rfl, hw1⟩; rw [hn]; have hw2 := hw1.symm; clear hw1; subst hw2)
    go_ret
    exact ⟨by first | (simp_all [fitsB, placeB]; done) | (simp_all [fitsB, placeB]; omega) | grind [fitsB, placeB], after_alloc (After.refl w) _⟩

set_option maxRecDepth 100000 in
set_option maxHeartbeats 3200000 in
theorem may_no (k : Int) (hk : k ≠ 1 ∧ k ≠ 2 ∧ k ≠ 3 ∧ k ≠ 4 ∧ k ≠ 5) (p b : Int) (nm tx : ByteArray) (hs : nm.size ≤ maxLen) (_ht : tx.size ≤ maxLen) (hn : nmB nm.data.toList = true) (w : World) :
    Calls Tryz.prog 92 #[.agg #[.int .i64 k, .string nm, .int .i64 p, .int .i64 b, .string tx]] w fun e w' => e = .returned (.bool (fitsB k p b tx.size)) ∧ After w w' := by
  have q1 : (k == 1) = false := beq_eq_false_iff_ne.2 (by omega)
  have q2 : (k == 2) = false := beq_eq_false_iff_ne.2 (by omega)
  have q3 : (k == 3) = false := beq_eq_false_iff_ne.2 (by omega)
  have q4 : (k == 4) = false := beq_eq_false_iff_ne.2 (by omega)
  have q5 : (k == 5) = false := beq_eq_false_iff_ne.2 (by omega)
  go_enter Tryz.func92, Tryz.ntmps92
  go_wp2_with (go_at_call 55; refine Calls.mono (refName_one nm _ hs) ?_; rintro e w1 ⟨rfl, hw1⟩; rw [hn]; have hw2 := hw1.symm; clear hw1; subst hw2)
  go_ret
  exact ⟨by first | (simp_all [fitsB]; done) | (simp_all [fitsB]; omega) | grind [fitsB], after_alloc (After.refl w) _⟩

set_option maxRecDepth 100000 in
set_option maxHeartbeats 3200000 in
theorem may_in (k p b : Int) (nm tx : ByteArray) (hs : nm.size ≤ maxLen) (ht : tx.size ≤ maxLen) (w : World) : Calls Tryz.prog 92 #[.agg #[.int .i64 k, .string nm, .int .i64 p, .int .i64 b, .string tx]] w fun e w' => e = .returned (.bool (nmB nm.data.toList && fitsB k p b tx.size)) ∧ After w w' := by
  cases hn : nmB nm.data.toList with
  | false =>
    go_enter Tryz.func92, Tryz.ntmps92
    go_wp2_with (go_at_call 55; refine Calls.mono (refName_one nm _ hs) ?_; rintro e w1 ⟨rfl, hw1⟩; rw [hn]; have hw2 := hw1.symm; clear hw1; subst hw2)
    go_ret
    exact ⟨rfl, after_alloc (After.refl w) _⟩
  | true =>
    rw [Bool.true_and]
    by_cases h1 : k = 1
    · subst h1; exact may_1 p b nm tx hs ht hn w
    by_cases h2 : k = 2
    · subst h2; exact may_2 p b nm tx hs ht hn w
    by_cases h3 : k = 3
    · subst h3; exact may_3 p b nm tx hs ht hn w
    by_cases h4 : k = 4
    · subst h4; exact may_4 p b nm tx hs ht hn w
    by_cases h5 : k = 5
    · subst h5; exact may_5 p b nm tx hs ht hn w
    exact may_no k ⟨h1, h2, h3, h4, h5⟩ p b nm tx hs ht hn w
theorem may_any (x : Opn) (hx : x.Ok) (w : World) : Calls Tryz.prog 92 #[opV x] w fun e w' => e = .returned (.bool (mayB x)) ∧ After w w' := by
  have := may_in x.kind x.pos x.by_ (strOf x.name) (strOf x.text) (by rw [strOf_size]; exact hx.nl) (by rw [strOf_size]; exact hx.tl) w
  rw [data_strOf, strOf_size] at this
  exact this

def sizeM (x : Opn) : Int := if x.kind = 4 then (x.text.length : Int) else 1

end Go.Proofs.YtgmdolpjkaajfaaGreatDoor
namespace Go.Proofs.YtgmdolpjkaajfaaGreatDoor
open Go.RowKit Leb
theorem cellsOf_len : ∀ l : List Opn, (cellsOf l).length = l.length * 5
  | [] => rfl
  | x :: l => by
    show (oc x ++ cellsOf l).length = _
    rw [List.length_append, cellsOf_len l, List.length_cons]
    simp
    omega
theorem cellsOf_append : ∀ a b : List Opn, cellsOf (a ++ b) = cellsOf a ++ cellsOf b
  | [], _ => rfl
  | x :: a, b => by
    show oc x ++ cellsOf (a ++ b) = oc x ++ cellsOf a ++ cellsOf b
    rw [cellsOf_append a b, List.append_assoc]
theorem cellsOf_one : ∀ (l : List Opn) (u : Value), u ∈ cellsOf l → u.oneCell' = true
  | [], u, h => by simp [cellsOf] at h
  | x :: l, u, h => by
    rcases List.mem_append.1 (show u ∈ oc x ++ cellsOf l from h) with h | h
    · simp only [List.mem_cons, List.not_mem_nil, or_false] at h
      rcases h with rfl | rfl | rfl | rfl | rfl <;> rfl
    · exact cellsOf_one l u h
/-- A row of the call's own that holds operations. -/
def OwnO (w : World) (base : Nat) (v : Value) (l : List Opn) : Prop := w.ownsRow base 46 5 v l.length (cellsOf l)
theorem OwnO.nil (w : World) (base : Nat) : OwnO w base (.slice none 0 0) [] := World.ownsRow_nil w base 46 5
theorem OwnO.fresh (w : World) : OwnO (w.alloc (.cells #[] 46)) w.heap.size (.slice (some ⟨w.heap.size, 0, none⟩) 0 0) [] := World.ownsRow_made w #[] 0 (Nat.le_refl _) (by decide) rfl
theorem OwnO.keep {w w' : World} {B : Nat} {v : Value} {l : List Opn} (h : OwnO w B v l) (hk : ∀ k, v.ownBlock = some k → w'.heap[k]? = w.heap[k]?) : OwnO w' B v l := by
  refine ⟨h.1, ?_⟩
  rcases h.2 with hn | ⟨g, cap, cur, rfl, h1, h2, rest⟩
  · exact .inl hn
  · exact .inr ⟨g, cap, cur, rfl, h1, by rw [hk g rfl]; exact h2, rest⟩
theorem OwnO.after {w w' : World} {B : Nat} {v : Value} {l : List Opn} (h : OwnO w B v l) (ha : After w w') : OwnO w' B v l := h.keep (fun k hk => ha.block k (World.ownsRow.lt h k hk).2)
theorem OwnO.at {w : World} {base : Nat} {v : Value} {l : List Opn} (h : OwnO w base v l) : ∃ ao cap, v = .slice ao l.length cap ∧ OpsAt w ao l ∧ l.length ≤ cap ∧ (∀ a, ao = some a → base ≤ a.block ∧ a.block < w.heap.size) := by
  have hlt := World.ownsRow.lt h
  rcases h.2 with ⟨rfl, h0⟩ | ⟨g, cap, cur, rfl, hb, hg, hnc, _, hcs, ht⟩
  · obtain rfl := List.eq_nil_of_length_eq_zero h0
    exact ⟨none, 0, rfl, fun h => absurd rfl h, Nat.le_refl _, fun _ h => by cases h⟩
  · refine ⟨_, cap, rfl, fun _ => ⟨g, 0, rfl, fun j x hj i v hv => ?_⟩, hnc, fun a ha => by cases ha; exact hlt g rfl⟩
    have hjl := (List.getElem?_eq_some_iff.1 hj).1
    have hi5 : i < 5 := by have := (List.getElem?_eq_some_iff.1 hv).1; simpa using this
    rw [World.ownsRow.cellAt h _ (by omega), Nat.zero_add, cellsOf_at l j i x hj hi5, hv]
theorem info23o : (Tryz.prog.info? 46).map (fun i => (i.zero, i.size, i.bytes)) = some (some (.agg #[.int .i64 0, .string ⟨#[]⟩, .int .i64 0, .int .i64 0, .string ⟨#[]⟩]), 5, 56) := by kernel_rfl
theorem ops_news {w : World} {ad : Addr} {news : List Opn} (h : OpsAt w (some ad) news) : ∀ j u, (cellsOf news)[j]? = some u → w.cell? (ad.add j) = some u := by
  intro j u hu
  have hjl : j < news.length * 5 := by rw [← cellsOf_len]; exact (List.getElem?_eq_some_iff.1 hu).1
  obtain ⟨b, o, e, hc⟩ := h (fun e => by rw [e] at hjl; simp at hjl)
  cases e
  have hi : j / 5 < news.length := by omega
  have h1 := cellsOf_at news (j / 5) (j % 5) news[j / 5] (List.getElem?_eq_getElem hi) (Nat.mod_lt _ (by omega))
  rw [show j / 5 * 5 + j % 5 = j by omega, hu] at h1
  have h2 := hc (j / 5) news[j / 5] (List.getElem?_eq_getElem hi) (j % 5) u h1.symm
  rw [Addr.add_mid]
  rw [show o + j / 5 * 5 + j % 5 = o + j by omega] at h2
  exact h2
/-- append(own, l...), l a slice of operations, or nil. -/
theorem run_append_ops (w : World) (ty : TypeId) (base : Nat) (v : Value) (l : List Opn) (hown : OwnO w base v l) (ao : Option Addr) (c : Nat) (news : List Opn) (k : Nat) (hk : news.length = k) (hnews : OpsAt w ao news)
    (hbytes : (l.length + k) * 56 ≤ 140737488355328) (hbase : base ≤ w.heap.size) :
    ∃ v' w', (Builtin.append_ #[23, 23] ty #[v, .slice ao k c]).run Tryz.prog w = .ok v' w' ∧ OwnO w' base v' (l ++ news) ∧ w.grownBy w' v.ownBlock ∧ (v'.ownBlock = v.ownBlock ∨ v'.ownBlock = some w.heap.size) := by
  obtain ⟨i, hi, hz⟩ := Option.map_eq_some_iff.1 info23o
  simp only [Prod.mk.injEq] at hz
  obtain ⟨hz, hsz, hby⟩ := hz
  subst hk
  cases ao with
  | none =>
    obtain rfl : news = [] := Classical.byContradiction fun hn => by obtain ⟨b, o, he, _⟩ := hnews hn; cases he
    obtain ⟨ao', cap', hv, _, hle, _⟩ := hown.at
    have hr := run_append_nothing (P := Tryz.prog) w 23 23 ty 46 i Tryz.underlying23 hi ao' l.length cap' hle (.slice none 0 c) (Src.ofNil w Tryz.underlying23 c)
    rw [← hv] at hr
    exact ⟨v, w, hr, by rw [List.append_nil]; exact hown, ⟨rfl, rfl, rfl, Nat.le_refl _, fun _ _ _ => rfl⟩, .inl rfl⟩
  | some ad =>
    obtain ⟨v', w', hr, ho, hg, _, hat⟩ := run_append_own_at (P := Tryz.prog) w base 23 ty 46 i _ 5 56 Tryz.underlying23 hi hz hsz hby rfl (by omega) v l.length (cellsOf l) hown ad news.length c (cellsOf news) (cellsOf_len news) (ops_news hnews) (cellsOf_one news) (by unfold maxLen; omega) hbytes hbase
    exact ⟨v', w', hr, by unfold OwnO; rw [cellsOf_append, List.length_append]; exact ho, hg, hat⟩
theorem wpList_append_ops {w : World} {ops : Array Oper} {rest : List Oper} {o : Oper} {a : Act} {Q : Exit → Act → World → Prop} (hgd : o.guard = none) (s x : Operand)
    (ho : o.op = .call { callee := .builtin .append, args := #[s, x], argTypes := #[23, 23] })
    (base : Nat) (v : Value) (l : List Opn) (hs : a.eval s = v) (hown : OwnO w base v l)
    (ao : Option Addr) (c : Nat) (news : List Opn) (k : Nat) (hk : news.length = k) (hx : a.eval x = .slice ao k c) (hnews : OpsAt w ao news)
    (hbytes : (l.length + k) * 56 ≤ 140737488355328) (hbase : base ≤ w.heap.size)
    (h : ∀ v' w', OwnO w' base v' (l ++ news) → w.grownBy w' v.ownBlock → (v'.ownBlock = v.ownBlock ∨ v'.ownBlock = some w.heap.size) → wpList Tryz.prog ops Q rest (a.put o.dst v') w') : wpList Tryz.prog ops Q (o :: rest) a w := by
  obtain ⟨v', w', hr, h1, h2, h3⟩ := run_append_ops w o.type base v l hown ao c news k hk hnews hbytes hbase
  refine wpList_plain hgd fun K hK => ?_
  unfold Oper.wp execOp
  simp only [ho, resolve, invoke, builtin, Sem.run_bind, Sem.run_pure, Result.andThen_ok, List.map_toArray, List.map_cons, List.map_nil, hs, hx, hr]
  exact hK _ _ (h v' w' h1 h2 h3)
section
variable {ops : Array Oper} {Q : Exit → Act → World → Prop} {K : Act → World → Prop} {a : Act} {w : World} {oi : Oper}
theorem opVal (i d : Nat) (v : Value) (w' : World) (hi : ops[i]? = some oi) (hd : oi.dst = some d) (hw : Region.wanted oi (yielded ops a.tmps) = true)
    (hrun : (execOp a.eval oi).run Tryz.prog w = .ok (.value v) w') (h : K (a.put (some d) v) w') : wpOp Tryz.prog ops Q i K a w := by
  refine wpOp_step hi (fun K' hK => ?_)
  rw [if_pos hw]
  unfold Oper.wp
  rw [hrun]
  rw [← hd] at h
  exact hK _ _ h
end
theorem ops_one (w : World) (x : Opn) : OpsAt (w.alloc (.cells (oc x).toArray 46)) (some ⟨w.heap.size, 0, none⟩) [x] := by
  have h := ops_of_row (RowIs.new w 46 (cellsOf [x]))
  have e : cellsOf [x] = oc x := List.append_nil _
  rw [e] at h
  exact h
end Go.Proofs.YtgmdolpjkaajfaaGreatDoor
namespace Go.Proofs.YtgmdolpjkaajfaaGreatDoor
open Go.RowKit Leb
/-- A row: what its cells are, and what they hold. -/
structure Rw where
  e : TypeId
  size : Nat
  v : Value
  n : Nat
  xs : List Value
/-- Rows of one's own, each in its own block. -/
structure Fam (w : World) (base : Nat) (rows : List Rw) : Prop where
  own : ∀ (k : Nat) (r : Rw), rows[k]? = some r → w.ownsRow base r.e r.size r.v r.n r.xs
  apart : ∀ (j k : Nat) (r s : Rw), rows[j]? = some r → rows[k]? = some s → j ≠ k → ∀ g, r.v.ownBlock = some g → s.v.ownBlock ≠ some g
theorem Fam.after {w w' : World} {base : Nat} {rows : List Rw} (h : Fam w base rows) (ha : After w w') : Fam w' base rows :=
  ⟨fun k r hr => by
    have h1 := h.own k r hr
    refine ⟨h1.1, ?_⟩
    rcases h1.2 with hn | ⟨g, cap, cur, hv, h2, h3, rest⟩
    · exact .inl hn
    · exact .inr ⟨g, cap, cur, hv, h2, by rw [ha.block g (World.ownsRow.lt h1 g (by rw [hv]; rfl)).2]; exact h3, rest⟩, h.apart⟩
theorem Fam.grow {w w' : World} {base : Nat} {rows : List Rw} (h : Fam w base rows) {k : Nat} {r : Rw} (hr : rows[k]? = some r) {v' : Value} {n' : Nat} {xs' : List Value} (ho : w'.ownsRow base r.e r.size v' n' xs') (hg : w.grownBy w' r.v.ownBlock)
    (hat : v'.ownBlock = r.v.ownBlock ∨ v'.ownBlock = some w.heap.size) : Fam w' base (rows.set k ⟨r.e, r.size, v', n', xs'⟩) := by
  have hk : k < rows.length := (List.getElem?_eq_some_iff.1 hr).1
  have old : ∀ (j : Nat) (s : Rw), j ≠ k → (rows.set k ⟨r.e, r.size, v', n', xs'⟩)[j]? = some s → rows[j]? = some s := fun j s hj hs => by rwa [List.getElem?_set_ne (Ne.symm hj)] at hs
  have new : ∀ (s : Rw), (rows.set k ⟨r.e, r.size, v', n', xs'⟩)[k]? = some s → s = ⟨r.e, r.size, v', n', xs'⟩ := fun s hs => by rw [List.getElem?_set_self hk] at hs; exact (Option.some.inj hs).symm
  refine ⟨fun j s hs => ?_, fun i j s t hs ht hij g hgs hgt => ?_⟩
  · by_cases hj : j = k
    · subst hj; rw [new s hs]; exact ho
    · have h1 := old j s hj hs
      refine (h.own j s h1).kept hg ?_
      cases hb : s.v.ownBlock with
      | none => exact .inl rfl
      | some g => exact .inr (fun e => h.apart j k s r h1 hr hj g hb (by rw [← e]))
  · have side : ∀ (j : Nat) (s : Rw), j ≠ k → (rows.set k ⟨r.e, r.size, v', n', xs'⟩)[j]? = some s → ∀ g, s.v.ownBlock = some g → v'.ownBlock ≠ some g := fun j s hj hs g hb hv => by
      have h1 := old j s hj hs
      rcases hat with e | e
      · exact h.apart j k s r h1 hr hj g hb (by rw [← e]; exact hv)
      · have := (World.ownsRow.lt (h.own j s h1) g hb).2
        rw [e] at hv
        cases hv
        omega
    by_cases hi : i = k
    · subst hi
      rw [new s hs] at hgs
      exact side j t (Ne.symm hij) ht g hgt hgs
    · by_cases hj : j = k
      · subst hj
        rw [new t ht] at hgt
        exact side i s hi hs g hgs hgt
      · exact h.apart i j s t (old i s hi hs) (old j t hj ht) hij g hgs hgt
theorem wpList_append_fam {w : World} {ops : Array Oper} {rest : List Oper} {o : Oper} {a : Act} {Q : Exit → Act → World → Prop} (hgd : o.guard = none) (s x : Operand) (t : TypeId)
    (ho : o.op = .call { callee := .builtin .append, args := #[s, x], argTypes := #[t, t] }) {base : Nat} {rows : List Rw} (k : Nat) (r : Rw) (hr : rows[k]? = some r) (hF : Fam w base rows)
    (z : Value) (bytes : Nat) (ht : Tryz.prog.underlying t = some (.slice r.e)) (hinfo : (Tryz.prog.info? r.e).map (fun i => (i.zero, i.size, i.bytes)) = some (some z, r.size, bytes)) (hzs : z.cells.size = r.size) (hsz : 0 < r.size)
    (hs : a.eval s = r.v) (ad : Addr) (m c : Nat) (news : List Value) (hx : a.eval x = .slice (some ad) m c) (hl : news.length = m * r.size) (hnews : ∀ j u, news[j]? = some u → w.cell? (ad.add j) = some u) (h1 : ∀ u ∈ news, u.oneCell' = true)
    (h63 : r.n + m ≤ maxLen) (hbytes : (r.n + m) * bytes ≤ 140737488355328) (hbase : base ≤ w.heap.size)
    (h : ∀ v' w', Fam w' base (rows.set k ⟨r.e, r.size, v', r.n + m, r.xs ++ news⟩) → w.grownBy w' r.v.ownBlock → wpList Tryz.prog ops Q rest (a.put o.dst v') w') : wpList Tryz.prog ops Q (o :: rest) a w := by
  obtain ⟨i, hi, hz⟩ := Option.map_eq_some_iff.1 hinfo
  simp only [Prod.mk.injEq] at hz
  obtain ⟨hz, hsz', hby⟩ := hz
  obtain ⟨v', w', hr', h2, h3, _, h5⟩ := run_append_own_at (P := Tryz.prog) w base t o.type r.e i z r.size bytes ht hi hz hsz' hby hzs hsz r.v r.n r.xs (hF.own k r hr) ad m c news hl hnews h1 h63 hbytes hbase
  refine wpList_plain hgd fun K hK => ?_
  unfold Oper.wp execOp
  simp only [ho, resolve, invoke, builtin, Sem.run_bind, Sem.run_pure, Result.andThen_ok, List.map_toArray, List.map_cons, List.map_nil, hs, hx, hr']
  exact hK _ _ (h v' w' (hF.grow hr h2 h3 h5) h3)
theorem Fam.grown {w w0 w' : World} {base : Nat} {rows : List Rw} (h : Fam w base rows) {k : Nat} {r : Rw} (hr : rows[k]? = some r) (hg : w.grownBy w' r.v.ownBlock) (ha : After w0 w) (hb : w0.heap.size ≤ base) : After w0 w' :=
  after_grown ha hg (Nat.le_refl _) (fun q hq => Nat.le_trans hb (World.ownsRow.lt (h.own k r hr) q hq).1)
/-- A row of numbers; of texts; of bytes. -/
def rI (v : Value) (l : List Int) : Rw := ⟨2, 1, v, l.length, ci l⟩
def sV (s : List UInt8) : Value := .string (strOf s)
def rS (v : Value) (l : List (List UInt8)) : Rw := ⟨9, 1, v, l.length, l.map sV⟩
def rB (v : Value) (l : List UInt8) : Rw := ⟨5, 1, v, l.length, c8 l⟩
theorem info9o : (Tryz.prog.info? 9).map (fun i => (i.zero, i.size, i.bytes)) = some (some (.string ⟨#[]⟩), 1, 16) := by kernel_rfl
theorem info5o : (Tryz.prog.info? 5).map (fun i => (i.zero, i.size, i.bytes)) = some (some (.int .u8 0), 1, 1) := by kernel_rfl
theorem one_cell_at (w : World) (v : Value) (t : TypeId) : ∀ j u, [v][j]? = some u → (w.alloc (.cells #[v] t)).cell? ((⟨w.heap.size, 0, none⟩ : Addr).add j) = some u := by
  intro j u hu
  match j, hu with
  | 0, hu =>
    cases hu
    rw [Addr.add_mid]
    exact (RowIs.new w t [v]).cell rfl
section
variable {w : World} {ops : Array Oper} {rest : List Oper} {o : Oper} {a : Act} {Q : Exit → Act → World → Prop} {base : Nat} {rows : List Rw}
/-- append(own, z), z a number in a new block. -/
theorem wpList_fam_int (hgd : o.guard = none) (s x : Operand) (ho : o.op = .call { callee := .builtin .append, args := #[s, x], argTypes := #[106, 106] }) (k : Nat) (v : Value) (l : List Int) (hr : rows[k]? = some (rI v l)) (hF : Fam w base rows)
    (hs : a.eval s = v) (z : Int) (hx : a.eval x = .slice (some ⟨w.heap.size, 0, none⟩) 1 1) (hl : l.length ≤ 1000000) (hbase : base ≤ w.heap.size) (tt : TypeId)
    (h : ∀ v' w', Fam w' base (rows.set k (rI v' (l ++ [z]))) → (w.alloc (.cells #[.int .i64 z] tt)).grownBy w' v.ownBlock → wpList Tryz.prog ops Q rest (a.put o.dst v') w') : wpList Tryz.prog ops Q (o :: rest) a (w.alloc (.cells #[.int .i64 z] tt)) := by
  refine wpList_append_fam hgd s x 106 ho k (rI v l) hr (hF.after (after_alloc (After.refl w) _)) (.int .i64 0) 8 Tryz.underlying106 info2 rfl Nat.one_pos hs ⟨w.heap.size, 0, none⟩ 1 1 [.int .i64 z] hx rfl (one_cell_at w _ tt) (fun u hu => by rw [List.mem_singleton.1 hu]; rfl) (by show l.length + 1 ≤ _; unfold maxLen; omega) (by show (l.length + 1) * 8 ≤ _; omega) (by simp; omega) ?_
  intro v' w' hF' hg
  refine h v' w' ?_ hg
  have e : rI v' (l ++ [z]) = ⟨(rI v l).e, (rI v l).size, v', (rI v l).n + 1, (rI v l).xs ++ [.int .i64 z]⟩ := by
    show (⟨2, 1, v', (l ++ [z]).length, ci (l ++ [z])⟩ : Rw) = ⟨2, 1, v', l.length + 1, ci l ++ [.int .i64 z]⟩
    rw [List.length_append]
    simp [ci]
  rw [e]
  exact hF'
/-- append(own, s), s a text in a new block. -/
theorem wpList_fam_str (hgd : o.guard = none) (s x : Operand) (ho : o.op = .call { callee := .builtin .append, args := #[s, x], argTypes := #[110, 110] }) (k : Nat) (v : Value) (l : List (List UInt8)) (hr : rows[k]? = some (rS v l)) (hF : Fam w base rows)
    (hs : a.eval s = v) (z : List UInt8) (hx : a.eval x = .slice (some ⟨w.heap.size, 0, none⟩) 1 1) (hl : l.length ≤ 1000000) (hbase : base ≤ w.heap.size) (tt : TypeId)
    (h : ∀ v' w', Fam w' base (rows.set k (rS v' (l ++ [z]))) → (w.alloc (.cells #[.string (strOf z)] tt)).grownBy w' v.ownBlock → wpList Tryz.prog ops Q rest (a.put o.dst v') w') : wpList Tryz.prog ops Q (o :: rest) a (w.alloc (.cells #[.string (strOf z)] tt)) := by
  refine wpList_append_fam hgd s x 110 ho k (rS v l) hr (hF.after (after_alloc (After.refl w) _)) (.string ⟨#[]⟩) 16 Tryz.underlying110 info9o rfl Nat.one_pos hs ⟨w.heap.size, 0, none⟩ 1 1 [.string (strOf z)] hx rfl (one_cell_at w _ tt) (fun u hu => by rw [List.mem_singleton.1 hu]; rfl) (by show l.length + 1 ≤ _; unfold maxLen; omega) (by show (l.length + 1) * 16 ≤ _; omega) (by simp; omega) ?_
  intro v' w' hF' hg
  refine h v' w' ?_ hg
  have e : rS v' (l ++ [z]) = ⟨(rS v l).e, (rS v l).size, v', (rS v l).n + 1, (rS v l).xs ++ [.string (strOf z)]⟩ := by
    show (⟨9, 1, v', (l ++ [z]).length, (l ++ [z]).map sV⟩ : Rw) = ⟨9, 1, v', l.length + 1, l.map sV ++ [.string (strOf z)]⟩
    rw [List.length_append, List.map_append]
    rfl
  rw [e]
  exact hF'
/-- append(own, b...), b bytes that are there. -/
theorem wpList_fam_bytes (hgd : o.guard = none) (s x : Operand) (ho : o.op = .call { callee := .builtin .append, args := #[s, x], argTypes := #[32, 32] }) (k : Nat) (v : Value) (l : List UInt8) (hr : rows[k]? = some (rB v l)) (hF : Fam w base rows)
    (hs : a.eval s = v) (b off n c : Nat) (news : List UInt8) (hn : news.length = n) (hx : a.eval x = .slice (some ⟨b, off, none⟩) n c) (hat : BytesAt w (some ⟨b, off, none⟩) news) (hl : l.length + n ≤ 100000000000) (hbase : base ≤ w.heap.size)
    (h : ∀ v' w', Fam w' base (rows.set k (rB v' (l ++ news))) → w.grownBy w' v.ownBlock → wpList Tryz.prog ops Q rest (a.put o.dst v') w') : wpList Tryz.prog ops Q (o :: rest) a w := by
  subst hn
  refine wpList_append_fam hgd s x 32 ho k (rB v l) hr hF (.int .u8 0) 1 Tryz.underlying32 info5o rfl Nat.one_pos hs ⟨b, off, none⟩ news.length c (c8 news) hx (by rw [c8_len]; show _ = news.length * 1; omega) (fun j u hu => ?_) (c8_one news) (by show l.length + news.length ≤ _; unfold maxLen; omega) (by show (l.length + news.length) * 1 ≤ _; omega) hbase ?_
  · have hj : j < news.length := by rw [← c8_len news]; exact (List.getElem?_eq_some_iff.1 hu).1
    obtain ⟨b', o', e, hc⟩ := hat (fun e => by rw [e] at hj; simp at hj)
    cases e
    rw [Addr.add_mid, hc j hj, ← hu, c8_get news j hj]
  · intro v' w' hF' hg
    refine h v' w' ?_ hg
    have e : rB v' (l ++ news) = ⟨(rB v l).e, (rB v l).size, v', (rB v l).n + news.length, (rB v l).xs ++ c8 news⟩ := by
      show (⟨5, 1, v', (l ++ news).length, c8 (l ++ news)⟩ : Rw) = ⟨5, 1, v', l.length + news.length, c8 l ++ c8 news⟩
      rw [List.length_append]
      simp [c8]
    rw [e]
    exact hF'
end
/-- Texts in memory. -/
def StrsAt (w : World) (ao : Option Addr) (N : List (List UInt8)) : Prop := N ≠ [] → ∃ b o, ao = some ⟨b, o, none⟩ ∧ ∀ j s, N[j]? = some s → w.cell? ⟨b, o + j, none⟩ = some (.string (strOf s))
theorem StrsAt.after {w w' : World} {ao : Option Addr} {N : List (List UInt8)} (h : StrsAt w ao N) (ha : After w w') : StrsAt w' ao N := fun hn => by
  obtain ⟨b, o, e, hc⟩ := h hn
  exact ⟨b, o, e, fun j s hj => (Below.cell ha (p := ⟨b, o + j, none⟩) (World.block_lt_of_cell? w _ (hc j s hj))).trans (hc j s hj)⟩
theorem strs_of_own {w : World} {base : Nat} {v : Value} {N : List (List UInt8)} {k : Nat} (hk : N.length = k) (h : w.ownsRow base 9 1 v N.length (N.map sV)) : ∃ ao c, v = .slice ao k c ∧ StrsAt w ao N ∧ k ≤ c := by
  subst hk
  rcases h.2 with ⟨rfl, h0⟩ | ⟨g, cap, cur, rfl, hb, hg, hnc, _, hcs, ht⟩
  · obtain rfl := List.eq_nil_of_length_eq_zero h0
    exact ⟨none, 0, rfl, fun h => absurd rfl h, Nat.le_refl _⟩
  · refine ⟨_, cap, rfl, fun _ => ⟨g, 0, rfl, fun j s hj => ?_⟩, hnc⟩
    have hjl := (List.getElem?_eq_some_iff.1 hj).1
    rw [Nat.zero_add, World.ownsRow.cellAt h j (by omega), List.getElem?_map, hj]
    rfl
theorem idxOf_at {N : List (List UInt8)} {s : List UInt8} : ∀ {i : Nat}, (∀ j x, j < i → N[j]? = some x → x ≠ s) → N[i]? = some s → N.idxOf s = i := by
  induction N with
  | nil => intro i _ h; simp at h
  | cons y N ih =>
    intro i h1 h2
    rw [List.idxOf_cons]
    cases i with
    | zero => simp at h2; subst h2; simp
    | succ i =>
      have hy : y ≠ s := h1 0 y (by omega) rfl
      have e : (y == s) = false := beq_eq_false_iff_ne.2 hy
      rw [e]
      simp only [cond_false]
      rw [ih (i := i) (fun j x hj hx => h1 (j + 1) x (by omega) (by simpa using hx)) (by simpa using h2)]
theorem idxOf_no {N : List (List UInt8)} {s : List UInt8} (h : ∀ j x, j < N.length → N[j]? = some x → x ≠ s) : N.idxOf s = N.length := by
  apply List.idxOf_eq_length
  intro hm
  obtain ⟨i, hi, e⟩ := List.mem_iff_getElem.1 hm
  exact h i s hi (by rw [List.getElem?_eq_getElem hi, e]) rfl
set_option maxRecDepth 100000 in
set_option maxHeartbeats 1200000 in
theorem find_any (ao : Option Addr) (n c : Nat) (N : List (List UInt8)) (s : List UInt8) (hN : N.length = n) (hn : n ≤ 1000000) (w : World) (hA : StrsAt w ao N) :
    Calls Tryz.prog 93 #[.slice ao n c, .string (strOf s)] w fun e w' => e = .returned (.int .i64 (N.idxOf s : Int)) ∧ w' = w := by
  have HF : Hid (StrsAt w ao N ∧ N.length = n) := ⟨hA, hN⟩
  clear hA hN
  go_enter Tryz.func93, Tryz.ntmps93
  go_wp2
  go_loop [5] (fun v => ∃ i : Nat, v = .int .i64 (i : Int) ∧ i ≤ n ∧ Hid (∀ j x, j < i → N[j]? = some x → x ≠ s)) (fun v => n - (intOf v).toNat)
  case atStart => exact ⟨0, rfl, Nat.zero_le _, fun j x hj _ => absurd hj (by omega)⟩
  case round =>
    obtain ⟨i, rfl, hi, HI⟩ := hrel
    by_cases hlt : i < n
    · have hii : (i : Int) < (n : Int) := by omega
      obtain ⟨y, hy⟩ : ∃ y, N[i]? = some y := ⟨_, List.getElem?_eq_getElem (by rw [HF.out.2]; exact hlt)⟩
      obtain ⟨b, o, hao, hc⟩ := HF.out.1 (fun e => by rw [e] at hy; simp at hy)
      subst hao
      have hcy := hc i y hy
      clear hc
      by_cases hys : y = s
      · subst hys
        have HR : Hid (N.idxOf y = i) := idxOf_at HI.out hy
        clear hy
        go_wp2
        go_ret
        exact ⟨by rw [HR.out]; rfl, rfl⟩
      · have HY : Hid (N[i]? = some y ∧ y ≠ s) := ⟨hy, hys⟩
        have hbe : ((strOf y).toList == (strOf s).toList) = false := by rw [toList_data, toList_data, data_strOf, data_strOf]; exact beq_eq_false_iff_ne.2 hys
        clear hy
        go_wp2
        go_round
        case rel => exact ⟨i + 1, by go_num, by omega, fun j x hj hx => by
          by_cases hji : j = i
          · subst hji; rw [HY.out.1] at hx; cases hx; exact HY.out.2
          · exact HI.out j x (by omega) hx⟩
        case measure => simp [intOf]; omega
    · obtain rfl : i = n := by omega
      have hii : ¬ (i : Int) < (i : Int) := by omega
      have HR : Hid (N.idxOf s = i) := (by unfold Hid; rw [idxOf_no (fun j x hj hx => HI.out j x (by rw [← HF.out.2]; exact hj) hx), HF.out.2])
      go_wp2
      go_ret
      exact ⟨by rw [HR.out]; rfl, rfl⟩
end Go.Proofs.YtgmdolpjkaajfaaGreatDoor
namespace Go.Proofs.YtgmdolpjkaajfaaGreatDoor
open Go.RowKit Leb
theorem Fam.snoc {w w' : World} {base : Nat} {rows : List Rw} (h : Fam w base rows) (ha : After w w') {r : Rw} (ho : w'.ownsRow base r.e r.size r.v r.n r.xs) (hb : ∀ g, r.v.ownBlock = some g → w.heap.size ≤ g) : Fam w' base (rows ++ [r]) := by
  have h' := h.after ha
  have at_ : ∀ (k : Nat) (s : Rw), (rows ++ [r])[k]? = some s → rows[k]? = some s ∨ (k = rows.length ∧ s = r) := fun k s hs => by
    by_cases hk : k < rows.length
    · rw [List.getElem?_append_left hk] at hs; exact .inl hs
    · rw [List.getElem?_append_right (by omega)] at hs
      have hk0 : k - rows.length = 0 := by have := (List.getElem?_eq_some_iff.1 hs).1; simp at this; omega
      rw [hk0] at hs
      exact .inr ⟨by omega, by simpa using hs.symm⟩
  refine ⟨fun k s hs => ?_, fun j k s t hs ht hjk g hg hg2 => ?_⟩
  · rcases at_ k s hs with h1 | ⟨_, rfl⟩
    · exact h'.own k s h1
    · exact ho
  · rcases at_ j s hs with h1 | ⟨e1, rfl⟩
    · rcases at_ k t ht with h2 | ⟨_, rfl⟩
      · exact h.apart j k s t h1 h2 hjk g hg hg2
      · have := (World.ownsRow.lt (h.own j s h1) g hg).2; have := hb g hg2; omega
    · rcases at_ k t ht with h2 | ⟨e2, rfl⟩
      · have := (World.ownsRow.lt (h.own k t h2) g hg2).2; have := hb g hg; omega
      · exact hjk (by omega)
theorem Fam.init {w : World} {base : Nat} {rows : List Rw} {r : Rw} (h : Fam w base (rows ++ [r])) : Fam w base rows :=
  have up : ∀ (k : Nat) (s : Rw), rows[k]? = some s → (rows ++ [r])[k]? = some s := fun k s hs => by rw [List.getElem?_append_left (List.getElem?_eq_some_iff.1 hs).1]; exact hs
  ⟨fun k s hs => h.own k s (up k s hs), fun j k s t hs ht => h.apart j k s t (up j s hs) (up k t ht)⟩
/-- An operation in a block of its own. -/
def rO (g : Nat) (x : Opn) : Rw := ⟨46, 5, .slice (some ⟨g, 0, none⟩) 1 1, 1, oc x⟩
theorem Fam.op {w : World} {base : Nat} {rows : List Rw} (h : Fam w base rows) {k g : Nat} {x : Opn} (hk : rows[k]? = some (rO g x)) : RowIs w g 46 (oc x) := by
  rcases (h.own k _ hk).2 with ⟨e, _⟩ | ⟨g', cap, cur, e, _, h2, _, _, h5, h6⟩
  · cases e
  · cases e
    show w.heap[g]? = _
    have h6' : cur.toList.take 5 = oc x := h6
    have h5' : cur.size = 5 := h5
    rw [List.take_of_length_le (by simp [h5'])] at h6'
    have e : cur = (oc x).toArray := by rw [← h6']
    rw [h2, e]
    rfl
theorem after_setRow {a b : World} {g : Nat} (h : After a b) (hg : a.heap.size ≤ g) (cs : Array Value) : After a (b.setRow g cs) := Below.row h hg cs
theorem fam_new {w : World} {base : Nat} {rows : List Rw} (h : Fam w base rows) (hb : base ≤ w.heap.size) (Z : Array Value) (x : Opn) : Fam ((w.alloc (.cells Z 46)).setRow w.heap.size (oc x).toArray) base (rows ++ [rO w.heap.size x]) :=
  h.snoc (after_setRow (after_alloc (After.refl w) _) (Nat.le_refl _) _) ⟨rfl, .inr ⟨w.heap.size, 1, (oc x).toArray, rfl, hb, setRow_heap _ _ Z _ 46 _ (heap_alloc_new w _), Nat.le_refl _, by decide, rfl, rfl⟩⟩ (fun g hg => by cases hg; exact Nat.le_refl _)
def pR (vn vk vw vp vb vt : Value) (l : List Opn) : List Rw := [rS vn (firsts l), rI vk (l.map (·.kind)), rI vw (whichs (firsts l) l), rI vp (l.map (·.pos)), rI vb (l.map (·.by_)), rB vt (textsB l)]
theorem idx_more {N : List Nm} {x : Opn} {y : Nm} (h : y ∈ N ∨ y = x.name) : (more N x).idxOf y = N.idxOf y := by
  unfold more
  by_cases hx : x.name ∈ N
  · rw [if_pos hx]
  · rw [if_neg hx, List.idxOf_append]
    by_cases hy : y ∈ N
    · rw [if_pos hy]
    · rw [if_neg hy]
      rcases h with h | h
      · exact absurd h hy
      · subst h; rw [List.idxOf_eq_length hy]; simp
theorem whichs_succ {l : List Opn} {i : Nat} {x : Opn} (hx : l[i]? = some x) : whichs (firsts (l.take (i + 1))) (l.take (i + 1)) = whichs (firsts (l.take i)) (l.take i) ++ [((firsts (l.take i)).idxOf x.name : Int)] := by
  rw [firsts_succ hx]
  unfold whichs
  rw [List.take_add_one, hx, List.map_append]
  congr 1
  · exact List.map_congr_left fun y hy => by rw [idx_more (.inl ((mem_firsts _ _).2 ⟨y, hy, rfl⟩))]
  · simp [idx_more]
theorem map_succ (F : Opn → Int) {l : List Opn} {i : Nat} {x : Opn} (hx : l[i]? = some x) : (l.take (i + 1)).map F = (l.take i).map F ++ [F x] := by
  rw [List.take_add_one, hx]; simp
theorem rtext_k (s : List UInt8) (hs : s.length ≤ 2000) (w : World) : Calls Tryz.prog 58 #[.string (strOf s)] w fun e w' => ∃ b o k c, e = .returned (.slice (some ⟨b, o, none⟩) k c) ∧ BytesAt w' (some ⟨b, o, none⟩) (textB s) ∧ (textB s).length = k ∧ After w w' :=
  (rtext_any s (by omega) w).mono (fun e w' ⟨v, he, ho, ha⟩ => by
    obtain ⟨a, c, rfl, h1, h2, h3⟩ := own_sl ho rfl
    have hp : textB s ≠ [] := fun e => by
      have := congrArg List.length e
      have h0 : 1 ≤ (uintB s.length).length := by rw [uintB]; split <;> simp
      unfold textB at this
      rw [List.length_append, List.length_nil] at this
      omega
    obtain ⟨b, o, rfl, hc⟩ := h1 hp
    exact ⟨b, o, _, c, he, h1, rfl, ha⟩)
theorem ruint_k (n : Nat) (hn : n ≤ 100000) (w : World) : Calls Tryz.prog 59 #[.int .u64 n] w fun e w' => ∃ a k c, e = .returned (.slice a k c) ∧ BytesAt w' a (uintB n) ∧ (uintB n).length = k ∧ After w w' :=
  (ruint_any n (by omega) w).mono (fun e w' ⟨v, he, ho, ha⟩ => by
    obtain ⟨a, c, rfl, h1, h2, h3⟩ := own_sl ho rfl
    exact ⟨a, _, c, he, h1, rfl, ha⟩)
theorem rruns_k (ao : Option Addr) (n cap : Nat) (l : List Int) (hl : ∀ x ∈ l, -9223372036854775808 ≤ x ∧ x ≤ 9223372036854775807) (hn : l.length = n) (hb : n ≤ 1000) (w : World) (hI : IntsAt w ao l) :
    Calls Tryz.prog 94 #[.slice ao n cap] w fun e W' => ∃ a k c, e = .returned (.slice a k c) ∧ Own W' w.heap.size (.slice a k c) (runsB l) ∧ BytesAt W' a (runsB l) ∧ (runsB l).length = k ∧ After w W' := by
  subst hn
  exact (putRuns_any ao cap l hl (by omega) w hI).mono (fun e w' ⟨v, he, ho, ha⟩ => by
    obtain ⟨a, c, rfl, h1, h2, h3⟩ := own_sl ho rfl
    exact ⟨a, _, c, he, ho, h1, rfl, ha⟩)
theorem rdeltas_k (ao : Option Addr) (n cap : Nat) (l : List Int) (hn : l.length = n) (hb : n ≤ 1000) (w : World) (hI : IntsAt w ao l) :
    Calls Tryz.prog 95 #[.slice ao n cap] w fun e W' => ∃ a k c, e = .returned (.slice a k c) ∧ BytesAt W' a (runsB (diffs l)) ∧ (runsB (diffs l)).length = k ∧ After w W' := by
  subst hn
  exact (putDeltas_any ao cap l (by omega) w hI).mono (fun e w' ⟨v, he, ho, ha⟩ => by
    obtain ⟨a, c, rfl, h1, h2, h3⟩ := own_sl ho rfl
    exact ⟨a, _, c, he, h1, rfl, ha⟩)
theorem intsAt_after {w w' : World} {ao : Option Addr} {l : List Int} (h : IntsAt w ao l) (ha : After w w') : IntsAt w' ao l := fun hn => by
  obtain ⟨b, o, e, hc⟩ := h hn
  exact ⟨b, o, e, fun j hj => (Below.cell ha (p := ⟨b, o + j, none⟩) (World.block_lt_of_cell? w _ (hc j hj))).trans (hc j hj)⟩
theorem ints_sl {w : World} {base : Nat} {v : Value} {l : List Int} (h : OwnI w base v l) {k : Nat} (hk : l.length = k) : ∃ a c, v = .slice a k c ∧ IntsAt w a l := by
  obtain ⟨a, c, rfl, h1, _⟩ := h.at
  rw [hk]
  exact ⟨a, c, rfl, h1⟩
theorem strs_at {w : World} {base : Nat} {ao : Option Addr} {k c : Nat} {N : List (List UInt8)} (h : w.ownsRow base 9 1 (.slice ao k c) N.length (N.map sV)) : StrsAt w ao N := by
  obtain ⟨a', c', e, h2, _⟩ := strs_of_own rfl h
  cases e
  exact h2
theorem own_base {w : World} {b b' : Nat} {v : Value} {bs : List UInt8} (h : Own w b v bs) (hb : b' ≤ b) : Own w b' v bs := by
  refine ⟨h.1, ?_⟩
  rcases h.2 with hn | ⟨g, cap, cur, rfl, h1, rest⟩
  · exact .inl hn
  · exact .inr ⟨g, cap, cur, rfl, Nat.le_trans hb h1, rest⟩
theorem putE_bad {l : List Opn} {n i : Nat} {x : Opn} (hl : l.length = n) (hn : n ≤ 256) (hx : l[i]? = some x) (hm : mayB x = false) : putE l = 40 := by
  unfold putE
  rw [if_neg (by omega), if_neg (fun h => by have := List.all_eq_true.1 h x (List.mem_of_getElem? hx); rw [hm] at this; cases this)]
theorem putE_good {l : List Opn} {n : Nat} (hl : l.length = n) (hn : n ≤ 256) (hm : l.all mayB = true) : putE l = 0 := by
  unfold putE
  rw [if_neg (by omega), if_pos hm]
structure RpI (w : World) (l : List Opn) (vn vk vw vp vb vt : Value) (i : Nat) (wr : World) : Prop where
  fam : Fam wr w.heap.size (pR vn vk vw vp vb vt (l.take i))
  aft : After w wr
  may : (l.take i).all mayB = true

set_option maxRecDepth 100000 in
set_option maxHeartbeats 4000000 in
theorem rput_any (ao : Option Addr) (n ca : Nat) (l : List Opn) (hl : l.length = n) (hok : ∀ x ∈ l, x.Ok) (hbig : n ≤ 1152921504606846976) (w : World) (hA : OpsAt w ao l) :
    Calls Tryz.prog 57 #[.slice ao n ca] w fun e w' => ∃ v, e = .returned (.tuple #[v, .int .i64 (putE l : Int)]) ∧ Own w' w.heap.size v (putBs l) ∧ After w w' := by
  have HL : Hid (OpsAt w ao l ∧ l.length = n ∧ ∀ x ∈ l, x.Ok) := ⟨hA, hl, hok⟩
  by_cases hn : n ≤ 256
  · have hnz : ¬ (n : Int) > 256 := by omega
    clear hA hl hok hbig
    go_enter Tryz.func57, Tryz.ntmps57
    go_wp2
    go_loopw [4, 5, 6, 7, 8, 9, 10] (fun vn vk vw vp vb vt vi wr => ∃ i : Nat, vi = .int .i64 (i : Int) ∧ i ≤ n ∧ Hid (RpI w l vn vk vw vp vb vt i wr)) (fun _ _ _ _ _ _ vi _ => n - (intOf vi).toNat)
    case atStart => exact ⟨0, rfl, Nat.zero_le _, ⟨⟨fun k r hr => by
      have h6 : k < 6 := by have := (List.getElem?_eq_some_iff.1 hr).1; simpa [pR] using this
      match k, h6, hr with
      | 0, _, hr => cases hr; exact World.ownsRow_nil _ _ _ _
      | 1, _, hr => cases hr; exact World.ownsRow_nil _ _ _ _
      | 2, _, hr => cases hr; exact World.ownsRow_nil _ _ _ _
      | 3, _, hr => cases hr; exact World.ownsRow_nil _ _ _ _
      | 4, _, hr => cases hr; exact World.ownsRow_nil _ _ _ _
      | 5, _, hr => cases hr; exact World.ownsRow_nil _ _ _ _, fun j k r s hr hs hjk g hg => by
      have h6 : j < 6 := by have := (List.getElem?_eq_some_iff.1 hr).1; simpa [pR] using this
      match j, h6, hr with
      | 0, _, hr => cases hr; cases hg
      | 1, _, hr => cases hr; cases hg
      | 2, _, hr => cases hr; cases hg
      | 3, _, hr => cases hr; cases hg
      | 4, _, hr => cases hr; cases hg
      | 5, _, hr => cases hr; cases hg⟩, After.refl _, rfl⟩⟩
    case round =>
      obtain ⟨i, hvi, hin, HI⟩ := hrel
      obtain ⟨vn, hvn⟩ : ∃ v, v = u4 := ⟨_, rfl⟩
      obtain ⟨vk, hvk⟩ : ∃ v, v = u5 := ⟨_, rfl⟩
      obtain ⟨vw, hvw⟩ : ∃ v, v = u6 := ⟨_, rfl⟩
      obtain ⟨vp, hvp⟩ : ∃ v, v = u7 := ⟨_, rfl⟩
      obtain ⟨vb, hvb⟩ : ∃ v, v = u8 := ⟨_, rfl⟩
      obtain ⟨vt, hvt⟩ : ∃ v, v = u9 := ⟨_, rfl⟩
      subst hvi hvn hvk hvw hvp hvb hvt
      obtain ⟨K, hK⟩ : ∃ K, (firsts (l.take i)).length = K := ⟨_, rfl⟩
      obtain ⟨aN, cN, hv, _⟩ := strs_of_own hK (HI.out.fam.own 0 _ rfl)
      have hv' : vn = .slice aN K cN := hv
      subst hv'
      have hKb : K ≤ 256 := by rw [← hK]; have := firsts_len (l.take i); rw [List.length_take] at this; omega
      have HK : Hid ((firsts (l.take i)).length = K ∧ K ≤ 256) := ⟨hK, hKb⟩
      clear hK hv
      by_cases hlt : i < n
      · have hii : (i : Int) < (n : Int) := by omega
        obtain ⟨x, hx⟩ : ∃ x, l[i]? = some x := ⟨_, List.getElem?_eq_getElem (by rw [HL.out.2.1]; exact hlt)⟩
        obtain ⟨b, o, hao, hrg⟩ := HL.out.1 (fun e => by rw [e] at hx; simp at hx)
        subst hao
        have HR : Hid (wr.rangeAt b (o + i * 5) (oc x)) := range_after (hrg i x hx) HI.out.aft
        have HXI : Hid (l[i]? = some x) := hx
        have hxo : x.Ok := HL.out.2.2 x (List.mem_of_getElem? hx)
        clear hrg hx
        cases hm : mayB x with
        | false =>
          have HX : Hid (x.Ok ∧ True) := ⟨hxo, trivial⟩
          have HPE : Hid (putE l = 40) := putE_bad HL.out.2.1 hn HXI.out hm
          clear hxo
          go_wp2_with (first
            | (go_at_call 92; refine Calls.mono (may_any x HX.out.1 w1) ?_; rw [hm]; rintro e w2 ⟨rfl, ha⟩; have HF2 := show Hid (Fam w2 w.heap.size [rS (.slice aN K cN) (firsts (l.take i)), rI vk ((l.take i).map (·.kind)), rI vw (whichs (firsts (l.take i)) (l.take i)), rI vp ((l.take i).map (·.pos)), rI vb ((l.take i).map (·.by_)), rB vt (textsB (l.take i)), rO wr.heap.size x] ∧ After w w2) from ⟨HF1.out.1.after ha, After.trans HF1.out.2 ha⟩; clear ha)
            | (refine wpList_load_row rfl 46 (.tmp 11) rfl wr.heap.size rfl 46 _ (0, 0) _ (HF1.out.1.op (k := 6) rfl) Tryz.underlying46 rfl (by kernel_rfl) ?_)
            | (refine wpList_store_row rfl 46 (.tmp 11) (.tmp 27) rfl wr.heap.size _ rfl rfl 46 _ (heap_alloc_new wr _) (by kernel_rfl) rfl (by kernel_rfl) ?_; have HF1 := show Hid (Fam ((wr.alloc (.cells #[.int .i64 0, .string ⟨#[]⟩, .int .i64 0, .int .i64 0, .string ⟨#[]⟩] 46)).setRow wr.heap.size (oc x).toArray) w.heap.size (pR (.slice aN K cN) vk vw vp vb vt (l.take i) ++ [rO wr.heap.size x]) ∧ After w ((wr.alloc (.cells #[.int .i64 0, .string ⟨#[]⟩, .int .i64 0, .int .i64 0, .string ⟨#[]⟩] 46)).setRow wr.heap.size (oc x).toArray)) from ⟨fam_new HI.out.fam HI.out.aft.size _ x, after_setRow (after_alloc HI.out.aft _) HI.out.aft.size _⟩; revert HF1; generalize (wr.alloc (.cells #[.int .i64 0, .string ⟨#[]⟩, .int .i64 0, .int .i64 0, .string ⟨#[]⟩] 46)).setRow wr.heap.size (oc x).toArray = w1; intro HF1)
            | (refine wpList_load_mid rfl 46 (.tmp 26) rfl b (o + i * 5) rfl [.int .i64 x.kind, .string (strOf x.name), .int .i64 x.pos, .int .i64 x.by_, .string (strOf x.text)] _ HR.out Tryz.underlying46 rfl size23 ?_))
          go_ret2
          exact ⟨_, by rw [HPE.out]; rfl, by unfold putBs; rw [HPE.out, if_neg (by omega)]; exact Own.nil _ _, HF2.out.2⟩
        | true =>
          have hnm : x.text.length ≤ 2000 := by
            have h1 := hm
            unfold mayB fitsB at h1
            grind
          have HX : Hid (x.Ok ∧ x.text.length ≤ 2000) := ⟨hxo, hnm⟩
          have HMM : Hid ((l.take (i + 1)).all mayB = true) := by
            unfold Hid
            rw [List.take_add_one, HXI.out, List.all_append, HI.out.may]
            simp [hm]
          have HTL : Hid ((textsB (l.take i)).length ≤ 600000 ∧ (textB x.text).length ≤ 2010) := by
            have h1 := textsB_len (l.take i) (fun z hz => by
              obtain ⟨j, hj, e⟩ := List.mem_iff_getElem.1 hz
              have h2 := List.all_eq_true.1 HI.out.may z hz
              unfold mayB fitsB at h2
              grind)
            rw [List.length_take] at h1
            exact ⟨by omega, textB_len x.text hnm⟩
          obtain ⟨q, hq⟩ : ∃ q, (firsts (l.take i)).idxOf x.name = q := ⟨_, rfl⟩
          have HQ : Hid ((firsts (l.take i)).idxOf x.name = q) := hq
          have hqK : q ≤ K := by rw [← hq, ← HK.out.1]; exact List.idxOf_le_length
          clear hnm hxo
          by_cases hnew : q = K
          · have HN : Hid (more (firsts (l.take i)) x = firsts (l.take i) ++ [x.name]) := by
              unfold Hid more
              rw [if_neg (fun hmem => by have := List.idxOf_lt_length_of_mem hmem; rw [hq, HK.out.1] at this; omega)]
            have hqe : ((q : Int) == (K : Int)) = true := beq_iff_eq.2 (by omega)
            clear hq hnew
            by_cases hk1 : x.kind = 1
            · have b1 : (x.kind == 1) = true := beq_iff_eq.2 hk1
              have HT : Hid (hasT x = true) := by unfold Hid hasT; rw [hk1]; rfl
              clear hk1
              go_wp2_with (first
                | (at_builtin; have _u := HF8.out; clear _u; refine wpList_fam_bytes rfl _ _ rfl 5 vt (textsB (l.take i)) rfl HF8.out.1 rfl b8 o8 k8 c8 (textB x.text) HT8.out.2 rfl HT8.out.1 (by have h1 := HTL.out; have h2 := HT8.out.2; omega) HF8.out.2.size ?_; intro v9 w9 hF hg; have HF9 := show Hid (Fam w9 w.heap.size [rS v3 ((firsts (l.take i)) ++ [x.name]), rI v4 ((l.take i).map (·.kind) ++ [x.kind]), rI v5 (whichs (firsts (l.take i)) (l.take i) ++ [(q : Int)]), rI v6 ((l.take i).map (·.pos) ++ [x.pos]), rI v7 ((l.take i).map (·.by_) ++ [x.by_]), rB v9 (textsB (l.take i) ++ textB x.text), rO wr.heap.size x] ∧ After w w9) from ⟨hF, HF8.out.1.grown (k := 5) rfl hg HF8.out.2 (Nat.le_refl _)⟩; clear hF hg)
                | (go_at_call 58; have _u := HF7.out; clear _u; refine Calls.mono (rtext_k x.text HX.out.2 w7) ?_; rintro e w8 ⟨b8, o8, k8, c8, he, hat, hk8, ha⟩; subst he; have HF8 := show Hid (Fam w8 w.heap.size [rS v3 ((firsts (l.take i)) ++ [x.name]), rI v4 ((l.take i).map (·.kind) ++ [x.kind]), rI v5 (whichs (firsts (l.take i)) (l.take i) ++ [(q : Int)]), rI v6 ((l.take i).map (·.pos) ++ [x.pos]), rI v7 ((l.take i).map (·.by_) ++ [x.by_]), rB vt (textsB (l.take i)), rO wr.heap.size x] ∧ After w w8) from ⟨HF7.out.1.after ha, After.trans HF7.out.2 ha⟩; have HT8 := show Hid (BytesAt w8 (some ⟨b8, o8, none⟩) (textB x.text) ∧ (textB x.text).length = k8) from ⟨hat, hk8⟩; clear hat hk8 ha)
                | (at_builtin; have _u := HF6.out; clear _u; refine wpList_fam_int rfl _ _ rfl 4 vb ((l.take i).map (·.by_)) rfl HF6.out.1 rfl (x.by_) rfl (by rw [List.length_map, List.length_take]; omega) HF6.out.2.size 2 ?_; intro v7 w7 hF hg; have HF7 := show Hid (Fam w7 w.heap.size [rS v3 ((firsts (l.take i)) ++ [x.name]), rI v4 ((l.take i).map (·.kind) ++ [x.kind]), rI v5 (whichs (firsts (l.take i)) (l.take i) ++ [(q : Int)]), rI v6 ((l.take i).map (·.pos) ++ [x.pos]), rI v7 ((l.take i).map (·.by_) ++ [x.by_]), rB vt (textsB (l.take i)), rO wr.heap.size x] ∧ After w w7) from ⟨hF, (HF6.out.1.after (after_alloc (After.refl w6) _)).grown (k := 4) rfl hg (after_alloc HF6.out.2 _) (Nat.le_refl _)⟩; have c0 := (HF7.out.1.op (k := 6) rfl).cell (j := 0) rfl; have c4 := (HF7.out.1.op (k := 6) rfl).cell (j := 4) rfl; clear hF hg)
                | (at_builtin; have _u := HF5.out; clear _u; refine wpList_fam_int rfl _ _ rfl 3 vp ((l.take i).map (·.pos)) rfl HF5.out.1 rfl (x.pos) rfl (by rw [List.length_map, List.length_take]; omega) HF5.out.2.size 2 ?_; intro v6 w6 hF hg; have HF6 := show Hid (Fam w6 w.heap.size [rS v3 ((firsts (l.take i)) ++ [x.name]), rI v4 ((l.take i).map (·.kind) ++ [x.kind]), rI v5 (whichs (firsts (l.take i)) (l.take i) ++ [(q : Int)]), rI v6 ((l.take i).map (·.pos) ++ [x.pos]), rI vb ((l.take i).map (·.by_)), rB vt (textsB (l.take i)), rO wr.heap.size x] ∧ After w w6) from ⟨hF, (HF5.out.1.after (after_alloc (After.refl w5) _)).grown (k := 3) rfl hg (after_alloc HF5.out.2 _) (Nat.le_refl _)⟩; have c3 := (HF6.out.1.op (k := 6) rfl).cell (j := 3) rfl; clear hF hg)
                | (at_builtin; have _u := HF4.out; clear _u; refine wpList_fam_int rfl _ _ rfl 2 vw (whichs (firsts (l.take i)) (l.take i)) rfl HF4.out.1 rfl ((q : Int)) rfl (by unfold whichs; rw [List.length_map, List.length_take]; omega) HF4.out.2.size 2 ?_; intro v5 w5 hF hg; have HF5 := show Hid (Fam w5 w.heap.size [rS v3 ((firsts (l.take i)) ++ [x.name]), rI v4 ((l.take i).map (·.kind) ++ [x.kind]), rI v5 (whichs (firsts (l.take i)) (l.take i) ++ [(q : Int)]), rI vp ((l.take i).map (·.pos)), rI vb ((l.take i).map (·.by_)), rB vt (textsB (l.take i)), rO wr.heap.size x] ∧ After w w5) from ⟨hF, (HF4.out.1.after (after_alloc (After.refl w4) _)).grown (k := 2) rfl hg (after_alloc HF4.out.2 _) (Nat.le_refl _)⟩; have c2 := (HF5.out.1.op (k := 6) rfl).cell (j := 2) rfl; clear hF hg)
                | (at_builtin; have _u := HF3.out; clear _u; refine wpList_fam_int rfl _ _ rfl 1 vk ((l.take i).map (·.kind)) rfl HF3.out.1 rfl (x.kind) rfl (by rw [List.length_map, List.length_take]; omega) HF3.out.2.size 2 ?_; intro v4 w4 hF hg; have HF4 := show Hid (Fam w4 w.heap.size [rS v3 ((firsts (l.take i)) ++ [x.name]), rI v4 ((l.take i).map (·.kind) ++ [x.kind]), rI vw (whichs (firsts (l.take i)) (l.take i)), rI vp ((l.take i).map (·.pos)), rI vb ((l.take i).map (·.by_)), rB vt (textsB (l.take i)), rO wr.heap.size x] ∧ After w w4) from ⟨hF, (HF3.out.1.after (after_alloc (After.refl w3) _)).grown (k := 1) rfl hg (after_alloc HF3.out.2 _) (Nat.le_refl _)⟩; clear hF hg)
                | (at_builtin; have _u := HF2.out; clear _u; refine wpList_fam_str rfl _ _ rfl 0 (.slice aN K cN) (firsts (l.take i)) rfl HF2.out.1 rfl (x.name) rfl (by have := HK.out.1; omega) HF2.out.2.size 9 ?_; intro v3 w3 hF hg; have HF3 := show Hid (Fam w3 w.heap.size [rS v3 ((firsts (l.take i)) ++ [x.name]), rI vk ((l.take i).map (·.kind)), rI vw (whichs (firsts (l.take i)) (l.take i)), rI vp ((l.take i).map (·.pos)), rI vb ((l.take i).map (·.by_)), rB vt (textsB (l.take i)), rO wr.heap.size x] ∧ After w w3) from ⟨hF, (HF2.out.1.after (after_alloc (After.refl w2) _)).grown (k := 0) rfl hg (after_alloc HF2.out.2 _) (Nat.le_refl _)⟩; have c0 := (HF3.out.1.op (k := 6) rfl).cell (j := 0) rfl; clear hF hg)
                | (go_at_call 93; have _u := HF2.out; clear _u; refine Calls.mono (find_any aN K cN (firsts (l.take i)) x.name HK.out.1 (by omega) w2 (strs_at (HF2.out.1.own 0 _ rfl))) ?_; rw [HQ.out]; rintro e w3 ⟨rfl, hw3⟩; have hw3' := hw3.symm; clear hw3; subst hw3')
                | (go_at_call 92; refine Calls.mono (may_any x HX.out.1 w1) ?_; rw [hm]; rintro e w2 ⟨rfl, ha⟩; have HF2 := show Hid (Fam w2 w.heap.size [rS (.slice aN K cN) (firsts (l.take i)), rI vk ((l.take i).map (·.kind)), rI vw (whichs (firsts (l.take i)) (l.take i)), rI vp ((l.take i).map (·.pos)), rI vb ((l.take i).map (·.by_)), rB vt (textsB (l.take i)), rO wr.heap.size x] ∧ After w w2) from ⟨HF1.out.1.after ha, After.trans HF1.out.2 ha⟩; have c1 := (HF2.out.1.op (k := 6) rfl).cell (j := 1) rfl; clear ha)
                | (refine wpList_load_row rfl 46 (.tmp 11) rfl wr.heap.size rfl 46 _ (0, 0) _ (HF1.out.1.op (k := 6) rfl) Tryz.underlying46 rfl (by kernel_rfl) ?_)
                | (refine wpList_store_row rfl 46 (.tmp 11) (.tmp 27) rfl wr.heap.size _ rfl rfl 46 _ (heap_alloc_new wr _) (by kernel_rfl) rfl (by kernel_rfl) ?_; have HF1 := show Hid (Fam ((wr.alloc (.cells #[.int .i64 0, .string ⟨#[]⟩, .int .i64 0, .int .i64 0, .string ⟨#[]⟩] 46)).setRow wr.heap.size (oc x).toArray) w.heap.size (pR (.slice aN K cN) vk vw vp vb vt (l.take i) ++ [rO wr.heap.size x]) ∧ After w ((wr.alloc (.cells #[.int .i64 0, .string ⟨#[]⟩, .int .i64 0, .int .i64 0, .string ⟨#[]⟩] 46)).setRow wr.heap.size (oc x).toArray)) from ⟨fam_new HI.out.fam HI.out.aft.size _ x, after_setRow (after_alloc HI.out.aft _) HI.out.aft.size _⟩; revert HF1; generalize (wr.alloc (.cells #[.int .i64 0, .string ⟨#[]⟩, .int .i64 0, .int .i64 0, .string ⟨#[]⟩] 46)).setRow wr.heap.size (oc x).toArray = w1; intro HF1)
                | (refine wpList_load_mid rfl 46 (.tmp 26) rfl b (o + i * 5) rfl [.int .i64 x.kind, .string (strOf x.name), .int .i64 x.pos, .int .i64 x.by_, .string (strOf x.text)] _ HR.out Tryz.underlying46 rfl size23 ?_))
              go_roundw
              case rel => exact ⟨i + 1, by go_num, by omega, ⟨by
                have hW := whichs_succ HXI.out
                rw [firsts_succ HXI.out, HN.out, HQ.out] at hW
                unfold pR
                rw [firsts_succ HXI.out, HN.out, hW, map_succ (·.kind) HXI.out, map_succ (·.pos) HXI.out, map_succ (·.by_) HXI.out, textsB_succ HXI.out, HT.out]
                exact HF9.out.1.init, HF9.out.2, HMM.out⟩⟩
              case measure => simp [intOf]; omega
            · have b1 : (x.kind == 1) = false := beq_eq_false_iff_ne.2 hk1
              by_cases hk4 : x.kind = 4
              · have b4 : (x.kind == 4) = true := beq_iff_eq.2 hk4
                have HT : Hid (hasT x = true) := by unfold Hid hasT; rw [hk4]; rfl
                clear hk1 hk4
                go_wp2_with (first
                  | (at_builtin; have _u := HF8.out; clear _u; refine wpList_fam_bytes rfl _ _ rfl 5 vt (textsB (l.take i)) rfl HF8.out.1 rfl b8 o8 k8 c8 (textB x.text) HT8.out.2 rfl HT8.out.1 (by have h1 := HTL.out; have h2 := HT8.out.2; omega) HF8.out.2.size ?_; intro v9 w9 hF hg; have HF9 := show Hid (Fam w9 w.heap.size [rS v3 ((firsts (l.take i)) ++ [x.name]), rI v4 ((l.take i).map (·.kind) ++ [x.kind]), rI v5 (whichs (firsts (l.take i)) (l.take i) ++ [(q : Int)]), rI v6 ((l.take i).map (·.pos) ++ [x.pos]), rI v7 ((l.take i).map (·.by_) ++ [x.by_]), rB v9 (textsB (l.take i) ++ textB x.text), rO wr.heap.size x] ∧ After w w9) from ⟨hF, HF8.out.1.grown (k := 5) rfl hg HF8.out.2 (Nat.le_refl _)⟩; clear hF hg)
                  | (go_at_call 58; have _u := HF7.out; clear _u; refine Calls.mono (rtext_k x.text HX.out.2 w7) ?_; rintro e w8 ⟨b8, o8, k8, c8, he, hat, hk8, ha⟩; subst he; have HF8 := show Hid (Fam w8 w.heap.size [rS v3 ((firsts (l.take i)) ++ [x.name]), rI v4 ((l.take i).map (·.kind) ++ [x.kind]), rI v5 (whichs (firsts (l.take i)) (l.take i) ++ [(q : Int)]), rI v6 ((l.take i).map (·.pos) ++ [x.pos]), rI v7 ((l.take i).map (·.by_) ++ [x.by_]), rB vt (textsB (l.take i)), rO wr.heap.size x] ∧ After w w8) from ⟨HF7.out.1.after ha, After.trans HF7.out.2 ha⟩; have HT8 := show Hid (BytesAt w8 (some ⟨b8, o8, none⟩) (textB x.text) ∧ (textB x.text).length = k8) from ⟨hat, hk8⟩; clear hat hk8 ha)
                  | (at_builtin; have _u := HF6.out; clear _u; refine wpList_fam_int rfl _ _ rfl 4 vb ((l.take i).map (·.by_)) rfl HF6.out.1 rfl (x.by_) rfl (by rw [List.length_map, List.length_take]; omega) HF6.out.2.size 2 ?_; intro v7 w7 hF hg; have HF7 := show Hid (Fam w7 w.heap.size [rS v3 ((firsts (l.take i)) ++ [x.name]), rI v4 ((l.take i).map (·.kind) ++ [x.kind]), rI v5 (whichs (firsts (l.take i)) (l.take i) ++ [(q : Int)]), rI v6 ((l.take i).map (·.pos) ++ [x.pos]), rI v7 ((l.take i).map (·.by_) ++ [x.by_]), rB vt (textsB (l.take i)), rO wr.heap.size x] ∧ After w w7) from ⟨hF, (HF6.out.1.after (after_alloc (After.refl w6) _)).grown (k := 4) rfl hg (after_alloc HF6.out.2 _) (Nat.le_refl _)⟩; have c0 := (HF7.out.1.op (k := 6) rfl).cell (j := 0) rfl; have c4 := (HF7.out.1.op (k := 6) rfl).cell (j := 4) rfl; clear hF hg)
                  | (at_builtin; have _u := HF5.out; clear _u; refine wpList_fam_int rfl _ _ rfl 3 vp ((l.take i).map (·.pos)) rfl HF5.out.1 rfl (x.pos) rfl (by rw [List.length_map, List.length_take]; omega) HF5.out.2.size 2 ?_; intro v6 w6 hF hg; have HF6 := show Hid (Fam w6 w.heap.size [rS v3 ((firsts (l.take i)) ++ [x.name]), rI v4 ((l.take i).map (·.kind) ++ [x.kind]), rI v5 (whichs (firsts (l.take i)) (l.take i) ++ [(q : Int)]), rI v6 ((l.take i).map (·.pos) ++ [x.pos]), rI vb ((l.take i).map (·.by_)), rB vt (textsB (l.take i)), rO wr.heap.size x] ∧ After w w6) from ⟨hF, (HF5.out.1.after (after_alloc (After.refl w5) _)).grown (k := 3) rfl hg (after_alloc HF5.out.2 _) (Nat.le_refl _)⟩; have c3 := (HF6.out.1.op (k := 6) rfl).cell (j := 3) rfl; clear hF hg)
                  | (at_builtin; have _u := HF4.out; clear _u; refine wpList_fam_int rfl _ _ rfl 2 vw (whichs (firsts (l.take i)) (l.take i)) rfl HF4.out.1 rfl ((q : Int)) rfl (by unfold whichs; rw [List.length_map, List.length_take]; omega) HF4.out.2.size 2 ?_; intro v5 w5 hF hg; have HF5 := show Hid (Fam w5 w.heap.size [rS v3 ((firsts (l.take i)) ++ [x.name]), rI v4 ((l.take i).map (·.kind) ++ [x.kind]), rI v5 (whichs (firsts (l.take i)) (l.take i) ++ [(q : Int)]), rI vp ((l.take i).map (·.pos)), rI vb ((l.take i).map (·.by_)), rB vt (textsB (l.take i)), rO wr.heap.size x] ∧ After w w5) from ⟨hF, (HF4.out.1.after (after_alloc (After.refl w4) _)).grown (k := 2) rfl hg (after_alloc HF4.out.2 _) (Nat.le_refl _)⟩; have c2 := (HF5.out.1.op (k := 6) rfl).cell (j := 2) rfl; clear hF hg)
                  | (at_builtin; have _u := HF3.out; clear _u; refine wpList_fam_int rfl _ _ rfl 1 vk ((l.take i).map (·.kind)) rfl HF3.out.1 rfl (x.kind) rfl (by rw [List.length_map, List.length_take]; omega) HF3.out.2.size 2 ?_; intro v4 w4 hF hg; have HF4 := show Hid (Fam w4 w.heap.size [rS v3 ((firsts (l.take i)) ++ [x.name]), rI v4 ((l.take i).map (·.kind) ++ [x.kind]), rI vw (whichs (firsts (l.take i)) (l.take i)), rI vp ((l.take i).map (·.pos)), rI vb ((l.take i).map (·.by_)), rB vt (textsB (l.take i)), rO wr.heap.size x] ∧ After w w4) from ⟨hF, (HF3.out.1.after (after_alloc (After.refl w3) _)).grown (k := 1) rfl hg (after_alloc HF3.out.2 _) (Nat.le_refl _)⟩; clear hF hg)
                  | (at_builtin; have _u := HF2.out; clear _u; refine wpList_fam_str rfl _ _ rfl 0 (.slice aN K cN) (firsts (l.take i)) rfl HF2.out.1 rfl (x.name) rfl (by have := HK.out.1; omega) HF2.out.2.size 9 ?_; intro v3 w3 hF hg; have HF3 := show Hid (Fam w3 w.heap.size [rS v3 ((firsts (l.take i)) ++ [x.name]), rI vk ((l.take i).map (·.kind)), rI vw (whichs (firsts (l.take i)) (l.take i)), rI vp ((l.take i).map (·.pos)), rI vb ((l.take i).map (·.by_)), rB vt (textsB (l.take i)), rO wr.heap.size x] ∧ After w w3) from ⟨hF, (HF2.out.1.after (after_alloc (After.refl w2) _)).grown (k := 0) rfl hg (after_alloc HF2.out.2 _) (Nat.le_refl _)⟩; have c0 := (HF3.out.1.op (k := 6) rfl).cell (j := 0) rfl; clear hF hg)
                  | (go_at_call 93; have _u := HF2.out; clear _u; refine Calls.mono (find_any aN K cN (firsts (l.take i)) x.name HK.out.1 (by omega) w2 (strs_at (HF2.out.1.own 0 _ rfl))) ?_; rw [HQ.out]; rintro e w3 ⟨rfl, hw3⟩; have hw3' := hw3.symm; clear hw3; subst hw3')
                  | (go_at_call 92; refine Calls.mono (may_any x HX.out.1 w1) ?_; rw [hm]; rintro e w2 ⟨rfl, ha⟩; have HF2 := show Hid (Fam w2 w.heap.size [rS (.slice aN K cN) (firsts (l.take i)), rI vk ((l.take i).map (·.kind)), rI vw (whichs (firsts (l.take i)) (l.take i)), rI vp ((l.take i).map (·.pos)), rI vb ((l.take i).map (·.by_)), rB vt (textsB (l.take i)), rO wr.heap.size x] ∧ After w w2) from ⟨HF1.out.1.after ha, After.trans HF1.out.2 ha⟩; have c1 := (HF2.out.1.op (k := 6) rfl).cell (j := 1) rfl; clear ha)
                  | (refine wpList_load_row rfl 46 (.tmp 11) rfl wr.heap.size rfl 46 _ (0, 0) _ (HF1.out.1.op (k := 6) rfl) Tryz.underlying46 rfl (by kernel_rfl) ?_)
                  | (refine wpList_store_row rfl 46 (.tmp 11) (.tmp 27) rfl wr.heap.size _ rfl rfl 46 _ (heap_alloc_new wr _) (by kernel_rfl) rfl (by kernel_rfl) ?_; have HF1 := show Hid (Fam ((wr.alloc (.cells #[.int .i64 0, .string ⟨#[]⟩, .int .i64 0, .int .i64 0, .string ⟨#[]⟩] 46)).setRow wr.heap.size (oc x).toArray) w.heap.size (pR (.slice aN K cN) vk vw vp vb vt (l.take i) ++ [rO wr.heap.size x]) ∧ After w ((wr.alloc (.cells #[.int .i64 0, .string ⟨#[]⟩, .int .i64 0, .int .i64 0, .string ⟨#[]⟩] 46)).setRow wr.heap.size (oc x).toArray)) from ⟨fam_new HI.out.fam HI.out.aft.size _ x, after_setRow (after_alloc HI.out.aft _) HI.out.aft.size _⟩; revert HF1; generalize (wr.alloc (.cells #[.int .i64 0, .string ⟨#[]⟩, .int .i64 0, .int .i64 0, .string ⟨#[]⟩] 46)).setRow wr.heap.size (oc x).toArray = w1; intro HF1)
                  | (refine wpList_load_mid rfl 46 (.tmp 26) rfl b (o + i * 5) rfl [.int .i64 x.kind, .string (strOf x.name), .int .i64 x.pos, .int .i64 x.by_, .string (strOf x.text)] _ HR.out Tryz.underlying46 rfl size23 ?_))
                go_roundw
                case rel => exact ⟨i + 1, by go_num, by omega, ⟨by
                  have hW := whichs_succ HXI.out
                  rw [firsts_succ HXI.out, HN.out, HQ.out] at hW
                  unfold pR
                  rw [firsts_succ HXI.out, HN.out, hW, map_succ (·.kind) HXI.out, map_succ (·.pos) HXI.out, map_succ (·.by_) HXI.out, textsB_succ HXI.out, HT.out]
                  exact HF9.out.1.init, HF9.out.2, HMM.out⟩⟩
                case measure => simp [intOf]; omega
              · have b4 : (x.kind == 4) = false := beq_eq_false_iff_ne.2 hk4
                have HT : Hid (hasT x = false) := by unfold Hid hasT; rw [decide_eq_false hk1, decide_eq_false hk4]; rfl
                clear hk1 hk4
                go_wp2_with (first
                  | (at_builtin; have _u := HF6.out; clear _u; refine wpList_fam_int rfl _ _ rfl 4 vb ((l.take i).map (·.by_)) rfl HF6.out.1 rfl (x.by_) rfl (by rw [List.length_map, List.length_take]; omega) HF6.out.2.size 2 ?_; intro v7 w7 hF hg; have HF7 := show Hid (Fam w7 w.heap.size [rS v3 ((firsts (l.take i)) ++ [x.name]), rI v4 ((l.take i).map (·.kind) ++ [x.kind]), rI v5 (whichs (firsts (l.take i)) (l.take i) ++ [(q : Int)]), rI v6 ((l.take i).map (·.pos) ++ [x.pos]), rI v7 ((l.take i).map (·.by_) ++ [x.by_]), rB vt (textsB (l.take i)), rO wr.heap.size x] ∧ After w w7) from ⟨hF, (HF6.out.1.after (after_alloc (After.refl w6) _)).grown (k := 4) rfl hg (after_alloc HF6.out.2 _) (Nat.le_refl _)⟩; have c0 := (HF7.out.1.op (k := 6) rfl).cell (j := 0) rfl; clear hF hg)
                  | (at_builtin; have _u := HF5.out; clear _u; refine wpList_fam_int rfl _ _ rfl 3 vp ((l.take i).map (·.pos)) rfl HF5.out.1 rfl (x.pos) rfl (by rw [List.length_map, List.length_take]; omega) HF5.out.2.size 2 ?_; intro v6 w6 hF hg; have HF6 := show Hid (Fam w6 w.heap.size [rS v3 ((firsts (l.take i)) ++ [x.name]), rI v4 ((l.take i).map (·.kind) ++ [x.kind]), rI v5 (whichs (firsts (l.take i)) (l.take i) ++ [(q : Int)]), rI v6 ((l.take i).map (·.pos) ++ [x.pos]), rI vb ((l.take i).map (·.by_)), rB vt (textsB (l.take i)), rO wr.heap.size x] ∧ After w w6) from ⟨hF, (HF5.out.1.after (after_alloc (After.refl w5) _)).grown (k := 3) rfl hg (after_alloc HF5.out.2 _) (Nat.le_refl _)⟩; have c3 := (HF6.out.1.op (k := 6) rfl).cell (j := 3) rfl; clear hF hg)
                  | (at_builtin; have _u := HF4.out; clear _u; refine wpList_fam_int rfl _ _ rfl 2 vw (whichs (firsts (l.take i)) (l.take i)) rfl HF4.out.1 rfl ((q : Int)) rfl (by unfold whichs; rw [List.length_map, List.length_take]; omega) HF4.out.2.size 2 ?_; intro v5 w5 hF hg; have HF5 := show Hid (Fam w5 w.heap.size [rS v3 ((firsts (l.take i)) ++ [x.name]), rI v4 ((l.take i).map (·.kind) ++ [x.kind]), rI v5 (whichs (firsts (l.take i)) (l.take i) ++ [(q : Int)]), rI vp ((l.take i).map (·.pos)), rI vb ((l.take i).map (·.by_)), rB vt (textsB (l.take i)), rO wr.heap.size x] ∧ After w w5) from ⟨hF, (HF4.out.1.after (after_alloc (After.refl w4) _)).grown (k := 2) rfl hg (after_alloc HF4.out.2 _) (Nat.le_refl _)⟩; have c2 := (HF5.out.1.op (k := 6) rfl).cell (j := 2) rfl; clear hF hg)
                  | (at_builtin; have _u := HF3.out; clear _u; refine wpList_fam_int rfl _ _ rfl 1 vk ((l.take i).map (·.kind)) rfl HF3.out.1 rfl (x.kind) rfl (by rw [List.length_map, List.length_take]; omega) HF3.out.2.size 2 ?_; intro v4 w4 hF hg; have HF4 := show Hid (Fam w4 w.heap.size [rS v3 ((firsts (l.take i)) ++ [x.name]), rI v4 ((l.take i).map (·.kind) ++ [x.kind]), rI vw (whichs (firsts (l.take i)) (l.take i)), rI vp ((l.take i).map (·.pos)), rI vb ((l.take i).map (·.by_)), rB vt (textsB (l.take i)), rO wr.heap.size x] ∧ After w w4) from ⟨hF, (HF3.out.1.after (after_alloc (After.refl w3) _)).grown (k := 1) rfl hg (after_alloc HF3.out.2 _) (Nat.le_refl _)⟩; clear hF hg)
                  | (at_builtin; have _u := HF2.out; clear _u; refine wpList_fam_str rfl _ _ rfl 0 (.slice aN K cN) (firsts (l.take i)) rfl HF2.out.1 rfl (x.name) rfl (by have := HK.out.1; omega) HF2.out.2.size 9 ?_; intro v3 w3 hF hg; have HF3 := show Hid (Fam w3 w.heap.size [rS v3 ((firsts (l.take i)) ++ [x.name]), rI vk ((l.take i).map (·.kind)), rI vw (whichs (firsts (l.take i)) (l.take i)), rI vp ((l.take i).map (·.pos)), rI vb ((l.take i).map (·.by_)), rB vt (textsB (l.take i)), rO wr.heap.size x] ∧ After w w3) from ⟨hF, (HF2.out.1.after (after_alloc (After.refl w2) _)).grown (k := 0) rfl hg (after_alloc HF2.out.2 _) (Nat.le_refl _)⟩; have c0 := (HF3.out.1.op (k := 6) rfl).cell (j := 0) rfl; clear hF hg)
                  | (go_at_call 93; have _u := HF2.out; clear _u; refine Calls.mono (find_any aN K cN (firsts (l.take i)) x.name HK.out.1 (by omega) w2 (strs_at (HF2.out.1.own 0 _ rfl))) ?_; rw [HQ.out]; rintro e w3 ⟨rfl, hw3⟩; have hw3' := hw3.symm; clear hw3; subst hw3')
                  | (go_at_call 92; refine Calls.mono (may_any x HX.out.1 w1) ?_; rw [hm]; rintro e w2 ⟨rfl, ha⟩; have HF2 := show Hid (Fam w2 w.heap.size [rS (.slice aN K cN) (firsts (l.take i)), rI vk ((l.take i).map (·.kind)), rI vw (whichs (firsts (l.take i)) (l.take i)), rI vp ((l.take i).map (·.pos)), rI vb ((l.take i).map (·.by_)), rB vt (textsB (l.take i)), rO wr.heap.size x] ∧ After w w2) from ⟨HF1.out.1.after ha, After.trans HF1.out.2 ha⟩; have c1 := (HF2.out.1.op (k := 6) rfl).cell (j := 1) rfl; clear ha)
                  | (refine wpList_load_row rfl 46 (.tmp 11) rfl wr.heap.size rfl 46 _ (0, 0) _ (HF1.out.1.op (k := 6) rfl) Tryz.underlying46 rfl (by kernel_rfl) ?_)
                  | (refine wpList_store_row rfl 46 (.tmp 11) (.tmp 27) rfl wr.heap.size _ rfl rfl 46 _ (heap_alloc_new wr _) (by kernel_rfl) rfl (by kernel_rfl) ?_; have HF1 := show Hid (Fam ((wr.alloc (.cells #[.int .i64 0, .string ⟨#[]⟩, .int .i64 0, .int .i64 0, .string ⟨#[]⟩] 46)).setRow wr.heap.size (oc x).toArray) w.heap.size (pR (.slice aN K cN) vk vw vp vb vt (l.take i) ++ [rO wr.heap.size x]) ∧ After w ((wr.alloc (.cells #[.int .i64 0, .string ⟨#[]⟩, .int .i64 0, .int .i64 0, .string ⟨#[]⟩] 46)).setRow wr.heap.size (oc x).toArray)) from ⟨fam_new HI.out.fam HI.out.aft.size _ x, after_setRow (after_alloc HI.out.aft _) HI.out.aft.size _⟩; revert HF1; generalize (wr.alloc (.cells #[.int .i64 0, .string ⟨#[]⟩, .int .i64 0, .int .i64 0, .string ⟨#[]⟩] 46)).setRow wr.heap.size (oc x).toArray = w1; intro HF1)
                  | (refine wpList_load_mid rfl 46 (.tmp 26) rfl b (o + i * 5) rfl [.int .i64 x.kind, .string (strOf x.name), .int .i64 x.pos, .int .i64 x.by_, .string (strOf x.text)] _ HR.out Tryz.underlying46 rfl size23 ?_))
                go_roundw
                case rel => exact ⟨i + 1, by go_num, by omega, ⟨by
                  have hW := whichs_succ HXI.out
                  rw [firsts_succ HXI.out, HN.out, HQ.out] at hW
                  unfold pR
                  rw [firsts_succ HXI.out, HN.out, hW, map_succ (·.kind) HXI.out, map_succ (·.pos) HXI.out, map_succ (·.by_) HXI.out, textsB_succ HXI.out, HT.out]
                  simp only [Bool.false_eq_true, if_false, List.append_nil]
                  exact HF7.out.1.init, HF7.out.2, HMM.out⟩⟩
                case measure => simp [intOf]; omega
          · have HN : Hid (more (firsts (l.take i)) x = firsts (l.take i)) := by
              unfold Hid more
              rw [if_pos (by have h1 : (firsts (l.take i)).idxOf x.name < (firsts (l.take i)).length := by { rw [hq, HK.out.1]; omega }
                             exact List.idxOf_lt_length_iff.1 h1)]
            have hqe : ((q : Int) == (K : Int)) = false := beq_eq_false_iff_ne.2 (by omega)
            have hqn : ¬ (q : Int) = (K : Int) := by omega
            clear hq hnew
            by_cases hk1 : x.kind = 1
            · have b1 : (x.kind == 1) = true := beq_iff_eq.2 hk1
              have HT : Hid (hasT x = true) := by unfold Hid hasT; rw [hk1]; rfl
              clear hk1
              go_wp2_with (first
                | (at_builtin; have _u := HF8.out; clear _u; refine wpList_fam_bytes rfl _ _ rfl 5 vt (textsB (l.take i)) rfl HF8.out.1 rfl b8 o8 k8 c8 (textB x.text) HT8.out.2 rfl HT8.out.1 (by have h1 := HTL.out; have h2 := HT8.out.2; omega) HF8.out.2.size ?_; intro v9 w9 hF hg; have HF9 := show Hid (Fam w9 w.heap.size [rS (.slice aN K cN) (firsts (l.take i)), rI v4 ((l.take i).map (·.kind) ++ [x.kind]), rI v5 (whichs (firsts (l.take i)) (l.take i) ++ [(q : Int)]), rI v6 ((l.take i).map (·.pos) ++ [x.pos]), rI v7 ((l.take i).map (·.by_) ++ [x.by_]), rB v9 (textsB (l.take i) ++ textB x.text), rO wr.heap.size x] ∧ After w w9) from ⟨hF, HF8.out.1.grown (k := 5) rfl hg HF8.out.2 (Nat.le_refl _)⟩; clear hF hg)
                | (go_at_call 58; have _u := HF7.out; clear _u; refine Calls.mono (rtext_k x.text HX.out.2 w7) ?_; rintro e w8 ⟨b8, o8, k8, c8, he, hat, hk8, ha⟩; subst he; have HF8 := show Hid (Fam w8 w.heap.size [rS (.slice aN K cN) (firsts (l.take i)), rI v4 ((l.take i).map (·.kind) ++ [x.kind]), rI v5 (whichs (firsts (l.take i)) (l.take i) ++ [(q : Int)]), rI v6 ((l.take i).map (·.pos) ++ [x.pos]), rI v7 ((l.take i).map (·.by_) ++ [x.by_]), rB vt (textsB (l.take i)), rO wr.heap.size x] ∧ After w w8) from ⟨HF7.out.1.after ha, After.trans HF7.out.2 ha⟩; have HT8 := show Hid (BytesAt w8 (some ⟨b8, o8, none⟩) (textB x.text) ∧ (textB x.text).length = k8) from ⟨hat, hk8⟩; clear hat hk8 ha)
                | (at_builtin; have _u := HF6.out; clear _u; refine wpList_fam_int rfl _ _ rfl 4 vb ((l.take i).map (·.by_)) rfl HF6.out.1 rfl (x.by_) rfl (by rw [List.length_map, List.length_take]; omega) HF6.out.2.size 2 ?_; intro v7 w7 hF hg; have HF7 := show Hid (Fam w7 w.heap.size [rS (.slice aN K cN) (firsts (l.take i)), rI v4 ((l.take i).map (·.kind) ++ [x.kind]), rI v5 (whichs (firsts (l.take i)) (l.take i) ++ [(q : Int)]), rI v6 ((l.take i).map (·.pos) ++ [x.pos]), rI v7 ((l.take i).map (·.by_) ++ [x.by_]), rB vt (textsB (l.take i)), rO wr.heap.size x] ∧ After w w7) from ⟨hF, (HF6.out.1.after (after_alloc (After.refl w6) _)).grown (k := 4) rfl hg (after_alloc HF6.out.2 _) (Nat.le_refl _)⟩; have c0 := (HF7.out.1.op (k := 6) rfl).cell (j := 0) rfl; have c4 := (HF7.out.1.op (k := 6) rfl).cell (j := 4) rfl; clear hF hg)
                | (at_builtin; have _u := HF5.out; clear _u; refine wpList_fam_int rfl _ _ rfl 3 vp ((l.take i).map (·.pos)) rfl HF5.out.1 rfl (x.pos) rfl (by rw [List.length_map, List.length_take]; omega) HF5.out.2.size 2 ?_; intro v6 w6 hF hg; have HF6 := show Hid (Fam w6 w.heap.size [rS (.slice aN K cN) (firsts (l.take i)), rI v4 ((l.take i).map (·.kind) ++ [x.kind]), rI v5 (whichs (firsts (l.take i)) (l.take i) ++ [(q : Int)]), rI v6 ((l.take i).map (·.pos) ++ [x.pos]), rI vb ((l.take i).map (·.by_)), rB vt (textsB (l.take i)), rO wr.heap.size x] ∧ After w w6) from ⟨hF, (HF5.out.1.after (after_alloc (After.refl w5) _)).grown (k := 3) rfl hg (after_alloc HF5.out.2 _) (Nat.le_refl _)⟩; have c3 := (HF6.out.1.op (k := 6) rfl).cell (j := 3) rfl; clear hF hg)
                | (at_builtin; have _u := HF4.out; clear _u; refine wpList_fam_int rfl _ _ rfl 2 vw (whichs (firsts (l.take i)) (l.take i)) rfl HF4.out.1 rfl ((q : Int)) rfl (by unfold whichs; rw [List.length_map, List.length_take]; omega) HF4.out.2.size 2 ?_; intro v5 w5 hF hg; have HF5 := show Hid (Fam w5 w.heap.size [rS (.slice aN K cN) (firsts (l.take i)), rI v4 ((l.take i).map (·.kind) ++ [x.kind]), rI v5 (whichs (firsts (l.take i)) (l.take i) ++ [(q : Int)]), rI vp ((l.take i).map (·.pos)), rI vb ((l.take i).map (·.by_)), rB vt (textsB (l.take i)), rO wr.heap.size x] ∧ After w w5) from ⟨hF, (HF4.out.1.after (after_alloc (After.refl w4) _)).grown (k := 2) rfl hg (after_alloc HF4.out.2 _) (Nat.le_refl _)⟩; have c2 := (HF5.out.1.op (k := 6) rfl).cell (j := 2) rfl; clear hF hg)
                | (at_builtin; have _u := HF2.out; clear _u; refine wpList_fam_int rfl _ _ rfl 1 vk ((l.take i).map (·.kind)) rfl HF2.out.1 rfl (x.kind) rfl (by rw [List.length_map, List.length_take]; omega) HF2.out.2.size 2 ?_; intro v4 w4 hF hg; have HF4 := show Hid (Fam w4 w.heap.size [rS (.slice aN K cN) (firsts (l.take i)), rI v4 ((l.take i).map (·.kind) ++ [x.kind]), rI vw (whichs (firsts (l.take i)) (l.take i)), rI vp ((l.take i).map (·.pos)), rI vb ((l.take i).map (·.by_)), rB vt (textsB (l.take i)), rO wr.heap.size x] ∧ After w w4) from ⟨hF, (HF2.out.1.after (after_alloc (After.refl w2) _)).grown (k := 1) rfl hg (after_alloc HF2.out.2 _) (Nat.le_refl _)⟩; clear hF hg)
                | (go_at_call 93; have _u := HF2.out; clear _u; refine Calls.mono (find_any aN K cN (firsts (l.take i)) x.name HK.out.1 (by omega) w2 (strs_at (HF2.out.1.own 0 _ rfl))) ?_; rw [HQ.out]; rintro e w3 ⟨rfl, hw3⟩; have hw3' := hw3.symm; clear hw3; subst hw3')
                | (go_at_call 92; refine Calls.mono (may_any x HX.out.1 w1) ?_; rw [hm]; rintro e w2 ⟨rfl, ha⟩; have HF2 := show Hid (Fam w2 w.heap.size [rS (.slice aN K cN) (firsts (l.take i)), rI vk ((l.take i).map (·.kind)), rI vw (whichs (firsts (l.take i)) (l.take i)), rI vp ((l.take i).map (·.pos)), rI vb ((l.take i).map (·.by_)), rB vt (textsB (l.take i)), rO wr.heap.size x] ∧ After w w2) from ⟨HF1.out.1.after ha, After.trans HF1.out.2 ha⟩; have c1 := (HF2.out.1.op (k := 6) rfl).cell (j := 1) rfl; have c0 := (HF2.out.1.op (k := 6) rfl).cell (j := 0) rfl; clear ha)
                | (refine wpList_load_row rfl 46 (.tmp 11) rfl wr.heap.size rfl 46 _ (0, 0) _ (HF1.out.1.op (k := 6) rfl) Tryz.underlying46 rfl (by kernel_rfl) ?_)
                | (refine wpList_store_row rfl 46 (.tmp 11) (.tmp 27) rfl wr.heap.size _ rfl rfl 46 _ (heap_alloc_new wr _) (by kernel_rfl) rfl (by kernel_rfl) ?_; have HF1 := show Hid (Fam ((wr.alloc (.cells #[.int .i64 0, .string ⟨#[]⟩, .int .i64 0, .int .i64 0, .string ⟨#[]⟩] 46)).setRow wr.heap.size (oc x).toArray) w.heap.size (pR (.slice aN K cN) vk vw vp vb vt (l.take i) ++ [rO wr.heap.size x]) ∧ After w ((wr.alloc (.cells #[.int .i64 0, .string ⟨#[]⟩, .int .i64 0, .int .i64 0, .string ⟨#[]⟩] 46)).setRow wr.heap.size (oc x).toArray)) from ⟨fam_new HI.out.fam HI.out.aft.size _ x, after_setRow (after_alloc HI.out.aft _) HI.out.aft.size _⟩; revert HF1; generalize (wr.alloc (.cells #[.int .i64 0, .string ⟨#[]⟩, .int .i64 0, .int .i64 0, .string ⟨#[]⟩] 46)).setRow wr.heap.size (oc x).toArray = w1; intro HF1)
                | (refine wpList_load_mid rfl 46 (.tmp 26) rfl b (o + i * 5) rfl [.int .i64 x.kind, .string (strOf x.name), .int .i64 x.pos, .int .i64 x.by_, .string (strOf x.text)] _ HR.out Tryz.underlying46 rfl size23 ?_))
              go_roundw
              case rel => exact ⟨i + 1, by go_num, by omega, ⟨by
                have hW := whichs_succ HXI.out
                rw [firsts_succ HXI.out, HN.out, HQ.out] at hW
                unfold pR
                rw [firsts_succ HXI.out, HN.out, hW, map_succ (·.kind) HXI.out, map_succ (·.pos) HXI.out, map_succ (·.by_) HXI.out, textsB_succ HXI.out, HT.out]
                exact HF9.out.1.init, HF9.out.2, HMM.out⟩⟩
              case measure => simp [intOf]; omega
            · have b1 : (x.kind == 1) = false := beq_eq_false_iff_ne.2 hk1
              by_cases hk4 : x.kind = 4
              · have b4 : (x.kind == 4) = true := beq_iff_eq.2 hk4
                have HT : Hid (hasT x = true) := by unfold Hid hasT; rw [hk4]; rfl
                clear hk1 hk4
                go_wp2_with (first
                  | (at_builtin; have _u := HF8.out; clear _u; refine wpList_fam_bytes rfl _ _ rfl 5 vt (textsB (l.take i)) rfl HF8.out.1 rfl b8 o8 k8 c8 (textB x.text) HT8.out.2 rfl HT8.out.1 (by have h1 := HTL.out; have h2 := HT8.out.2; omega) HF8.out.2.size ?_; intro v9 w9 hF hg; have HF9 := show Hid (Fam w9 w.heap.size [rS (.slice aN K cN) (firsts (l.take i)), rI v4 ((l.take i).map (·.kind) ++ [x.kind]), rI v5 (whichs (firsts (l.take i)) (l.take i) ++ [(q : Int)]), rI v6 ((l.take i).map (·.pos) ++ [x.pos]), rI v7 ((l.take i).map (·.by_) ++ [x.by_]), rB v9 (textsB (l.take i) ++ textB x.text), rO wr.heap.size x] ∧ After w w9) from ⟨hF, HF8.out.1.grown (k := 5) rfl hg HF8.out.2 (Nat.le_refl _)⟩; clear hF hg)
                  | (go_at_call 58; have _u := HF7.out; clear _u; refine Calls.mono (rtext_k x.text HX.out.2 w7) ?_; rintro e w8 ⟨b8, o8, k8, c8, he, hat, hk8, ha⟩; subst he; have HF8 := show Hid (Fam w8 w.heap.size [rS (.slice aN K cN) (firsts (l.take i)), rI v4 ((l.take i).map (·.kind) ++ [x.kind]), rI v5 (whichs (firsts (l.take i)) (l.take i) ++ [(q : Int)]), rI v6 ((l.take i).map (·.pos) ++ [x.pos]), rI v7 ((l.take i).map (·.by_) ++ [x.by_]), rB vt (textsB (l.take i)), rO wr.heap.size x] ∧ After w w8) from ⟨HF7.out.1.after ha, After.trans HF7.out.2 ha⟩; have HT8 := show Hid (BytesAt w8 (some ⟨b8, o8, none⟩) (textB x.text) ∧ (textB x.text).length = k8) from ⟨hat, hk8⟩; clear hat hk8 ha)
                  | (at_builtin; have _u := HF6.out; clear _u; refine wpList_fam_int rfl _ _ rfl 4 vb ((l.take i).map (·.by_)) rfl HF6.out.1 rfl (x.by_) rfl (by rw [List.length_map, List.length_take]; omega) HF6.out.2.size 2 ?_; intro v7 w7 hF hg; have HF7 := show Hid (Fam w7 w.heap.size [rS (.slice aN K cN) (firsts (l.take i)), rI v4 ((l.take i).map (·.kind) ++ [x.kind]), rI v5 (whichs (firsts (l.take i)) (l.take i) ++ [(q : Int)]), rI v6 ((l.take i).map (·.pos) ++ [x.pos]), rI v7 ((l.take i).map (·.by_) ++ [x.by_]), rB vt (textsB (l.take i)), rO wr.heap.size x] ∧ After w w7) from ⟨hF, (HF6.out.1.after (after_alloc (After.refl w6) _)).grown (k := 4) rfl hg (after_alloc HF6.out.2 _) (Nat.le_refl _)⟩; have c0 := (HF7.out.1.op (k := 6) rfl).cell (j := 0) rfl; have c4 := (HF7.out.1.op (k := 6) rfl).cell (j := 4) rfl; clear hF hg)
                  | (at_builtin; have _u := HF5.out; clear _u; refine wpList_fam_int rfl _ _ rfl 3 vp ((l.take i).map (·.pos)) rfl HF5.out.1 rfl (x.pos) rfl (by rw [List.length_map, List.length_take]; omega) HF5.out.2.size 2 ?_; intro v6 w6 hF hg; have HF6 := show Hid (Fam w6 w.heap.size [rS (.slice aN K cN) (firsts (l.take i)), rI v4 ((l.take i).map (·.kind) ++ [x.kind]), rI v5 (whichs (firsts (l.take i)) (l.take i) ++ [(q : Int)]), rI v6 ((l.take i).map (·.pos) ++ [x.pos]), rI vb ((l.take i).map (·.by_)), rB vt (textsB (l.take i)), rO wr.heap.size x] ∧ After w w6) from ⟨hF, (HF5.out.1.after (after_alloc (After.refl w5) _)).grown (k := 3) rfl hg (after_alloc HF5.out.2 _) (Nat.le_refl _)⟩; have c3 := (HF6.out.1.op (k := 6) rfl).cell (j := 3) rfl; clear hF hg)
                  | (at_builtin; have _u := HF4.out; clear _u; refine wpList_fam_int rfl _ _ rfl 2 vw (whichs (firsts (l.take i)) (l.take i)) rfl HF4.out.1 rfl ((q : Int)) rfl (by unfold whichs; rw [List.length_map, List.length_take]; omega) HF4.out.2.size 2 ?_; intro v5 w5 hF hg; have HF5 := show Hid (Fam w5 w.heap.size [rS (.slice aN K cN) (firsts (l.take i)), rI v4 ((l.take i).map (·.kind) ++ [x.kind]), rI v5 (whichs (firsts (l.take i)) (l.take i) ++ [(q : Int)]), rI vp ((l.take i).map (·.pos)), rI vb ((l.take i).map (·.by_)), rB vt (textsB (l.take i)), rO wr.heap.size x] ∧ After w w5) from ⟨hF, (HF4.out.1.after (after_alloc (After.refl w4) _)).grown (k := 2) rfl hg (after_alloc HF4.out.2 _) (Nat.le_refl _)⟩; have c2 := (HF5.out.1.op (k := 6) rfl).cell (j := 2) rfl; clear hF hg)
                  | (at_builtin; have _u := HF2.out; clear _u; refine wpList_fam_int rfl _ _ rfl 1 vk ((l.take i).map (·.kind)) rfl HF2.out.1 rfl (x.kind) rfl (by rw [List.length_map, List.length_take]; omega) HF2.out.2.size 2 ?_; intro v4 w4 hF hg; have HF4 := show Hid (Fam w4 w.heap.size [rS (.slice aN K cN) (firsts (l.take i)), rI v4 ((l.take i).map (·.kind) ++ [x.kind]), rI vw (whichs (firsts (l.take i)) (l.take i)), rI vp ((l.take i).map (·.pos)), rI vb ((l.take i).map (·.by_)), rB vt (textsB (l.take i)), rO wr.heap.size x] ∧ After w w4) from ⟨hF, (HF2.out.1.after (after_alloc (After.refl w2) _)).grown (k := 1) rfl hg (after_alloc HF2.out.2 _) (Nat.le_refl _)⟩; clear hF hg)
                  | (go_at_call 93; have _u := HF2.out; clear _u; refine Calls.mono (find_any aN K cN (firsts (l.take i)) x.name HK.out.1 (by omega) w2 (strs_at (HF2.out.1.own 0 _ rfl))) ?_; rw [HQ.out]; rintro e w3 ⟨rfl, hw3⟩; have hw3' := hw3.symm; clear hw3; subst hw3')
                  | (go_at_call 92; refine Calls.mono (may_any x HX.out.1 w1) ?_; rw [hm]; rintro e w2 ⟨rfl, ha⟩; have HF2 := show Hid (Fam w2 w.heap.size [rS (.slice aN K cN) (firsts (l.take i)), rI vk ((l.take i).map (·.kind)), rI vw (whichs (firsts (l.take i)) (l.take i)), rI vp ((l.take i).map (·.pos)), rI vb ((l.take i).map (·.by_)), rB vt (textsB (l.take i)), rO wr.heap.size x] ∧ After w w2) from ⟨HF1.out.1.after ha, After.trans HF1.out.2 ha⟩; have c1 := (HF2.out.1.op (k := 6) rfl).cell (j := 1) rfl; have c0 := (HF2.out.1.op (k := 6) rfl).cell (j := 0) rfl; clear ha)
                  | (refine wpList_load_row rfl 46 (.tmp 11) rfl wr.heap.size rfl 46 _ (0, 0) _ (HF1.out.1.op (k := 6) rfl) Tryz.underlying46 rfl (by kernel_rfl) ?_)
                  | (refine wpList_store_row rfl 46 (.tmp 11) (.tmp 27) rfl wr.heap.size _ rfl rfl 46 _ (heap_alloc_new wr _) (by kernel_rfl) rfl (by kernel_rfl) ?_; have HF1 := show Hid (Fam ((wr.alloc (.cells #[.int .i64 0, .string ⟨#[]⟩, .int .i64 0, .int .i64 0, .string ⟨#[]⟩] 46)).setRow wr.heap.size (oc x).toArray) w.heap.size (pR (.slice aN K cN) vk vw vp vb vt (l.take i) ++ [rO wr.heap.size x]) ∧ After w ((wr.alloc (.cells #[.int .i64 0, .string ⟨#[]⟩, .int .i64 0, .int .i64 0, .string ⟨#[]⟩] 46)).setRow wr.heap.size (oc x).toArray)) from ⟨fam_new HI.out.fam HI.out.aft.size _ x, after_setRow (after_alloc HI.out.aft _) HI.out.aft.size _⟩; revert HF1; generalize (wr.alloc (.cells #[.int .i64 0, .string ⟨#[]⟩, .int .i64 0, .int .i64 0, .string ⟨#[]⟩] 46)).setRow wr.heap.size (oc x).toArray = w1; intro HF1)
                  | (refine wpList_load_mid rfl 46 (.tmp 26) rfl b (o + i * 5) rfl [.int .i64 x.kind, .string (strOf x.name), .int .i64 x.pos, .int .i64 x.by_, .string (strOf x.text)] _ HR.out Tryz.underlying46 rfl size23 ?_))
                go_roundw
                case rel => exact ⟨i + 1, by go_num, by omega, ⟨by
                  have hW := whichs_succ HXI.out
                  rw [firsts_succ HXI.out, HN.out, HQ.out] at hW
                  unfold pR
                  rw [firsts_succ HXI.out, HN.out, hW, map_succ (·.kind) HXI.out, map_succ (·.pos) HXI.out, map_succ (·.by_) HXI.out, textsB_succ HXI.out, HT.out]
                  exact HF9.out.1.init, HF9.out.2, HMM.out⟩⟩
                case measure => simp [intOf]; omega
              · have b4 : (x.kind == 4) = false := beq_eq_false_iff_ne.2 hk4
                have HT : Hid (hasT x = false) := by unfold Hid hasT; rw [decide_eq_false hk1, decide_eq_false hk4]; rfl
                clear hk1 hk4
                go_wp2_with (first
                  | (at_builtin; have _u := HF6.out; clear _u; refine wpList_fam_int rfl _ _ rfl 4 vb ((l.take i).map (·.by_)) rfl HF6.out.1 rfl (x.by_) rfl (by rw [List.length_map, List.length_take]; omega) HF6.out.2.size 2 ?_; intro v7 w7 hF hg; have HF7 := show Hid (Fam w7 w.heap.size [rS (.slice aN K cN) (firsts (l.take i)), rI v4 ((l.take i).map (·.kind) ++ [x.kind]), rI v5 (whichs (firsts (l.take i)) (l.take i) ++ [(q : Int)]), rI v6 ((l.take i).map (·.pos) ++ [x.pos]), rI v7 ((l.take i).map (·.by_) ++ [x.by_]), rB vt (textsB (l.take i)), rO wr.heap.size x] ∧ After w w7) from ⟨hF, (HF6.out.1.after (after_alloc (After.refl w6) _)).grown (k := 4) rfl hg (after_alloc HF6.out.2 _) (Nat.le_refl _)⟩; have c0 := (HF7.out.1.op (k := 6) rfl).cell (j := 0) rfl; clear hF hg)
                  | (at_builtin; have _u := HF5.out; clear _u; refine wpList_fam_int rfl _ _ rfl 3 vp ((l.take i).map (·.pos)) rfl HF5.out.1 rfl (x.pos) rfl (by rw [List.length_map, List.length_take]; omega) HF5.out.2.size 2 ?_; intro v6 w6 hF hg; have HF6 := show Hid (Fam w6 w.heap.size [rS (.slice aN K cN) (firsts (l.take i)), rI v4 ((l.take i).map (·.kind) ++ [x.kind]), rI v5 (whichs (firsts (l.take i)) (l.take i) ++ [(q : Int)]), rI v6 ((l.take i).map (·.pos) ++ [x.pos]), rI vb ((l.take i).map (·.by_)), rB vt (textsB (l.take i)), rO wr.heap.size x] ∧ After w w6) from ⟨hF, (HF5.out.1.after (after_alloc (After.refl w5) _)).grown (k := 3) rfl hg (after_alloc HF5.out.2 _) (Nat.le_refl _)⟩; have c3 := (HF6.out.1.op (k := 6) rfl).cell (j := 3) rfl; clear hF hg)
                  | (at_builtin; have _u := HF4.out; clear _u; refine wpList_fam_int rfl _ _ rfl 2 vw (whichs (firsts (l.take i)) (l.take i)) rfl HF4.out.1 rfl ((q : Int)) rfl (by unfold whichs; rw [List.length_map, List.length_take]; omega) HF4.out.2.size 2 ?_; intro v5 w5 hF hg; have HF5 := show Hid (Fam w5 w.heap.size [rS (.slice aN K cN) (firsts (l.take i)), rI v4 ((l.take i).map (·.kind) ++ [x.kind]), rI v5 (whichs (firsts (l.take i)) (l.take i) ++ [(q : Int)]), rI vp ((l.take i).map (·.pos)), rI vb ((l.take i).map (·.by_)), rB vt (textsB (l.take i)), rO wr.heap.size x] ∧ After w w5) from ⟨hF, (HF4.out.1.after (after_alloc (After.refl w4) _)).grown (k := 2) rfl hg (after_alloc HF4.out.2 _) (Nat.le_refl _)⟩; have c2 := (HF5.out.1.op (k := 6) rfl).cell (j := 2) rfl; clear hF hg)
                  | (at_builtin; have _u := HF2.out; clear _u; refine wpList_fam_int rfl _ _ rfl 1 vk ((l.take i).map (·.kind)) rfl HF2.out.1 rfl (x.kind) rfl (by rw [List.length_map, List.length_take]; omega) HF2.out.2.size 2 ?_; intro v4 w4 hF hg; have HF4 := show Hid (Fam w4 w.heap.size [rS (.slice aN K cN) (firsts (l.take i)), rI v4 ((l.take i).map (·.kind) ++ [x.kind]), rI vw (whichs (firsts (l.take i)) (l.take i)), rI vp ((l.take i).map (·.pos)), rI vb ((l.take i).map (·.by_)), rB vt (textsB (l.take i)), rO wr.heap.size x] ∧ After w w4) from ⟨hF, (HF2.out.1.after (after_alloc (After.refl w2) _)).grown (k := 1) rfl hg (after_alloc HF2.out.2 _) (Nat.le_refl _)⟩; clear hF hg)
                  | (go_at_call 93; have _u := HF2.out; clear _u; refine Calls.mono (find_any aN K cN (firsts (l.take i)) x.name HK.out.1 (by omega) w2 (strs_at (HF2.out.1.own 0 _ rfl))) ?_; rw [HQ.out]; rintro e w3 ⟨rfl, hw3⟩; have hw3' := hw3.symm; clear hw3; subst hw3')
                  | (go_at_call 92; refine Calls.mono (may_any x HX.out.1 w1) ?_; rw [hm]; rintro e w2 ⟨rfl, ha⟩; have HF2 := show Hid (Fam w2 w.heap.size [rS (.slice aN K cN) (firsts (l.take i)), rI vk ((l.take i).map (·.kind)), rI vw (whichs (firsts (l.take i)) (l.take i)), rI vp ((l.take i).map (·.pos)), rI vb ((l.take i).map (·.by_)), rB vt (textsB (l.take i)), rO wr.heap.size x] ∧ After w w2) from ⟨HF1.out.1.after ha, After.trans HF1.out.2 ha⟩; have c1 := (HF2.out.1.op (k := 6) rfl).cell (j := 1) rfl; have c0 := (HF2.out.1.op (k := 6) rfl).cell (j := 0) rfl; clear ha)
                  | (refine wpList_load_row rfl 46 (.tmp 11) rfl wr.heap.size rfl 46 _ (0, 0) _ (HF1.out.1.op (k := 6) rfl) Tryz.underlying46 rfl (by kernel_rfl) ?_)
                  | (refine wpList_store_row rfl 46 (.tmp 11) (.tmp 27) rfl wr.heap.size _ rfl rfl 46 _ (heap_alloc_new wr _) (by kernel_rfl) rfl (by kernel_rfl) ?_; have HF1 := show Hid (Fam ((wr.alloc (.cells #[.int .i64 0, .string ⟨#[]⟩, .int .i64 0, .int .i64 0, .string ⟨#[]⟩] 46)).setRow wr.heap.size (oc x).toArray) w.heap.size (pR (.slice aN K cN) vk vw vp vb vt (l.take i) ++ [rO wr.heap.size x]) ∧ After w ((wr.alloc (.cells #[.int .i64 0, .string ⟨#[]⟩, .int .i64 0, .int .i64 0, .string ⟨#[]⟩] 46)).setRow wr.heap.size (oc x).toArray)) from ⟨fam_new HI.out.fam HI.out.aft.size _ x, after_setRow (after_alloc HI.out.aft _) HI.out.aft.size _⟩; revert HF1; generalize (wr.alloc (.cells #[.int .i64 0, .string ⟨#[]⟩, .int .i64 0, .int .i64 0, .string ⟨#[]⟩] 46)).setRow wr.heap.size (oc x).toArray = w1; intro HF1)
                  | (refine wpList_load_mid rfl 46 (.tmp 26) rfl b (o + i * 5) rfl [.int .i64 x.kind, .string (strOf x.name), .int .i64 x.pos, .int .i64 x.by_, .string (strOf x.text)] _ HR.out Tryz.underlying46 rfl size23 ?_))
                go_roundw
                case rel => exact ⟨i + 1, by go_num, by omega, ⟨by
                  have hW := whichs_succ HXI.out
                  rw [firsts_succ HXI.out, HN.out, HQ.out] at hW
                  unfold pR
                  rw [firsts_succ HXI.out, HN.out, hW, map_succ (·.kind) HXI.out, map_succ (·.pos) HXI.out, map_succ (·.by_) HXI.out, textsB_succ HXI.out, HT.out]
                  simp only [Bool.false_eq_true, if_false, List.append_nil]
                  exact HF7.out.1.init, HF7.out.2, HMM.out⟩⟩
                case measure => simp [intOf]; omega
      · obtain rfl : i = n := by omega
        have hii : ¬ (i : Int) < (i : Int) := by omega
        have hli : l.take i = l := by rw [← HL.out.2.1, List.take_length]
        rw [hli] at HK
        have HFM : Hid (Fam wr w.heap.size (pR (.slice aN K cN) vk vw vp vb vt l)) := by have h := HI.out.fam; rw [hli] at h; exact h
        have HMY : Hid (l.all mayB = true) := by have h := HI.out.may; rw [hli] at h; exact h
        have HPE : Hid (putE l = 0 ∧ putBs l = layB l) := by
          have h := putE_good HL.out.2.1 hn HMY.out
          exact ⟨h, by unfold putBs; rw [h, if_pos rfl]⟩
        have HS : Hid (Small l i) := may_small HL.out.2.1 hn HL.out.2.2 HMY.out
        obtain ⟨ak, ck, hvk, hIk⟩ := ints_sl (k := i) (show OwnI wr w.heap.size vk (l.map (·.kind)) from HFM.out.own 1 _ rfl) (by rw [List.length_map]; exact HL.out.2.1)
        obtain ⟨aw, cw, hvw, hIw⟩ := ints_sl (k := i) (show OwnI wr w.heap.size vw (whichs (firsts l) l) from HFM.out.own 2 _ rfl) (by unfold whichs; rw [List.length_map]; exact HL.out.2.1)
        obtain ⟨ap, cp', hvp, hIp⟩ := ints_sl (k := i) (show OwnI wr w.heap.size vp (l.map (·.pos)) from HFM.out.own 3 _ rfl) (by rw [List.length_map]; exact HL.out.2.1)
        obtain ⟨ab, cb, hvb, hIb⟩ := ints_sl (k := i) (show OwnI wr w.heap.size vb (l.map (·.by_)) from HFM.out.own 4 _ rfl) (by rw [List.length_map]; exact HL.out.2.1)
        obtain ⟨kt, hkt⟩ : ∃ k, (textsB l).length = k := ⟨_, rfl⟩
        obtain ⟨at_, ct, hvt, hBt, _, _⟩ := own_sl (show Own wr w.heap.size vt (textsB l) from HFM.out.own 5 _ rfl) hkt
        have HSN : Hid (StrsAt wr aN (firsts l)) := strs_at (HFM.out.own 0 _ rfl)
        subst hvk hvw hvp hvb hvt
        have HIN : Hid (IntsAt wr ak (l.map (·.kind)) ∧ IntsAt wr aw (whichs (firsts l) l) ∧ IntsAt wr ap (l.map (·.pos)) ∧ IntsAt wr ab (l.map (·.by_)) ∧ BytesAt wr at_ (textsB l)) := ⟨hIk, hIw, hIp, hIb, hBt⟩
        have HLN : Hid ((l.map (·.kind)).length = i ∧ (whichs (firsts l) l).length = i ∧ (l.map (·.pos)).length = i ∧ (l.map (·.by_)).length = i ∧ (textsB l).length = kt ∧ kt ≤ 600000) := ⟨by rw [List.length_map]; exact HL.out.2.1, by unfold whichs; rw [List.length_map]; exact HL.out.2.1, by rw [List.length_map]; exact HL.out.2.1, by rw [List.length_map]; exact HL.out.2.1, hkt, by
          have h1 := textsB_len l (fun z hz => HS.out.tx z hz)
          rw [HL.out.2.1] at h1
          omega⟩
        have HRL : Hid ((runsB (l.map (·.kind))).length ≤ 30000000 ∧ (runsB (whichs (firsts l) l)).length ≤ 30000000 ∧ (runsB (diffs (l.map (·.pos)))).length ≤ 30000000 ∧ (runsB (l.map (·.by_))).length ≤ 30000000 ∧ (namesB (firsts l)).length ≤ 600000 ∧ (uintB K).length ≤ 10) := ⟨runsB_len _ (fun z hz => by obtain ⟨y, hy, rfl⟩ := List.mem_map.1 hz; exact ⟨(HL.out.2.2 y hy).k0, (HL.out.2.2 y hy).k1⟩) (by rw [HLN.out.1]; omega), runsB_len _ (whichs_int _ _ (by have := HK.out; omega)) (by rw [HLN.out.2.1]; omega), runsB_len _ (diffs_int _) (by rw [diffs_len, HLN.out.2.2.1]; omega), runsB_len _ (fun z hz => by obtain ⟨y, hy, rfl⟩ := List.mem_map.1 hz; exact ⟨(HL.out.2.2 y hy).b0, (HL.out.2.2 y hy).b1⟩) (by rw [HLN.out.2.2.2.1]; omega), by
          have h1 := namesB_len (firsts l) (fun y hy => by obtain ⟨x, hx, rfl⟩ := (mem_firsts l y).1 hy; exact HS.out.nm x hx)
          have h2 := HK.out
          omega, uintB_len10 K (by omega)⟩
        have HIT : Hid ((∀ z ∈ l.map (·.kind), -9223372036854775808 ≤ z ∧ z ≤ 9223372036854775807) ∧ (∀ z ∈ whichs (firsts l) l, -9223372036854775808 ≤ z ∧ z ≤ 9223372036854775807) ∧ (∀ z ∈ l.map (·.by_), -9223372036854775808 ≤ z ∧ z ≤ 9223372036854775807)) := ⟨fun z hz => by obtain ⟨y, hy, rfl⟩ := List.mem_map.1 hz; exact ⟨(HL.out.2.2 y hy).k0, (HL.out.2.2 y hy).k1⟩, whichs_int _ _ (by have := HK.out; omega), fun z hz => by obtain ⟨y, hy, rfl⟩ := List.mem_map.1 hz; exact ⟨(HL.out.2.2 y hy).b0, (HL.out.2.2 y hy).b1⟩⟩
        have HAW : Hid (After w wr) := HI.out.aft
        clear hIk hIw hIp hIb hBt hkt hli HI HFM HMY
        obtain ⟨W0, hW0⟩ : ∃ W, W = wr := ⟨_, rfl⟩
        subst hW0
        go_wp2_with (first
          | (at_builtin; have _u := HF2.out; clear _u; refine wpList_append_any rfl _ _ rfl W0.heap.size (.slice a1 k1 c1) (runsB (l.map (·.kind))) rfl (HF1.out.1.below HF2.out.2.2.1 (Nat.le_refl _)) a2 c2 (uintB K) k2 HF2.out.2.1 rfl HF2.out.1 (by have h1 := HRL.out.1; have h2 := HRL.out.2.2.2.2.2; omega) (by have := HF2.out.2.2.2.size; omega) ?_; intro v3 w3 ho hg; have HF3 := show Hid (Own w3 W0.heap.size v3 (runsB (l.map (·.kind)) ++ uintB K) ∧ After W0 w3) from ⟨ho, after_grown HF2.out.2.2.2 hg (Nat.le_refl _) (fun g hg => (World.ownsRow.lt HF1.out.1 g hg).1)⟩; clear ho hg)
          | (go_at_call 59; have _u := HF1.out; clear _u; refine Calls.mono (ruint_k K (by omega) w1) ?_; rintro e w2 ⟨a2, k2, c2, he, hat, hk2, ha⟩; subst he; have HF2 := show Hid (BytesAt w2 a2 (uintB K) ∧ (uintB K).length = k2 ∧ After w1 w2 ∧ After W0 w2) from ⟨hat, hk2, ha, After.trans HF1.out.2 ha⟩; clear hat hk2 ha)
          | (go_at_call 94; refine Calls.mono (rruns_k ak i ck (l.map (·.kind)) HIT.out.1 HLN.out.1 (by omega) W0 HIN.out.1) ?_; rintro e w1 ⟨a1, k1, c1, he, ho, _, _, ha⟩; subst he; have HF1 := show Hid (Own w1 W0.heap.size (.slice a1 k1 c1) (runsB (l.map (·.kind))) ∧ After W0 w1) from ⟨ho, ha⟩; clear ho ha))
        clear HF1 HF2
        go_loopw [13, 14] (fun vo vj wr => ∃ j : Nat, vj = .int .i64 (j : Int) ∧ j ≤ K ∧ Hid (Own wr W0.heap.size vo (runsB (l.map (·.kind)) ++ uintB K ++ namesB ((firsts l).take j)) ∧ After W0 wr)) (fun _ vj _ => K - (intOf vj).toNat)
        case atStart => exact ⟨0, rfl, Nat.zero_le _, ⟨by have h := HF3.out.1; simpa [namesB] using h, HF3.out.2⟩⟩
        case round =>
          obtain ⟨j, rfl, hj, HO⟩ := hrel
          by_cases hjK : j < K
          · have hjj : (j : Int) < (K : Int) := by omega
            obtain ⟨y, hy⟩ : ∃ y, (firsts l)[j]? = some y := ⟨_, List.getElem?_eq_getElem (by rw [HK.out.1]; exact hjK)⟩
            obtain ⟨bn, on, haN, hcn⟩ := HSN.out (fun e => by rw [e] at hy; simp at hy)
            subst haN
            have hcy : wr.cell? ⟨bn, on + j, none⟩ = some (.string (strOf y)) := (Below.cell HO.out.2 (p := ⟨bn, on + j, none⟩) (World.block_lt_of_cell? W0 _ (hcn j y hy))).trans (hcn j y hy)
            have HY : Hid (y.length ≤ 2000 ∧ namesB ((firsts l).take (j + 1)) = namesB ((firsts l).take j) ++ textB y ∧ (namesB ((firsts l).take j)).length ≤ 600000) := ⟨by
              obtain ⟨x, hx, rfl⟩ := (mem_firsts l y).1 (List.mem_of_getElem? hy)
              exact HS.out.nm x hx, by rw [List.take_add_one, hy]; exact namesB_snoc _ _, by
              have h1 := namesB_len ((firsts l).take j) (fun y hy => by
                obtain ⟨x, hx, rfl⟩ := (mem_firsts l y).1 (List.mem_of_mem_take hy)
                exact HS.out.nm x hx)
              rw [List.length_take] at h1
              omega⟩
            clear hcn hy
            go_wp2_with (first
              | (at_builtin; have _u := HF5.out; clear _u; refine wpList_append_any rfl _ _ rfl W0.heap.size _ (runsB (l.map (·.kind)) ++ uintB K ++ namesB ((firsts l).take j)) rfl (HO.out.1.below HF5.out.2.2 (Nat.le_refl _)) (some ⟨b5, o5, none⟩) c5 (textB y) k5 HF5.out.2.1 rfl HF5.out.1 (by have h1 := HRL.out.1; have h2 := HRL.out.2.2.2.2.2; have h3 := HY.out.2.2; have h4 := textB_len y HY.out.1; simp only [List.length_append]; omega) (by have h1 := HF5.out.2.2.size; have h2 := HO.out.2.size; omega) ?_; intro v6 w6 ho hg; have HF6 := show Hid (Own w6 W0.heap.size v6 (runsB (l.map (·.kind)) ++ uintB K ++ namesB ((firsts l).take j) ++ textB y) ∧ After W0 w6) from ⟨ho, after_grown (After.trans HO.out.2 HF5.out.2.2) hg (Nat.le_refl _) (fun g hg => (World.ownsRow.lt HO.out.1 g hg).1)⟩; clear ho hg)
              | (go_at_call 58; refine Calls.mono (rtext_k y HY.out.1 _) ?_; rintro e w5 ⟨b5, o5, k5, c5, he, hat, hk5, ha⟩; subst he; have HF5 := show Hid (BytesAt w5 (some ⟨b5, o5, none⟩) (textB y) ∧ (textB y).length = k5 ∧ After _ w5) from ⟨hat, hk5, ha⟩; clear hat hk5 ha))
            go_roundw
            case rel => exact ⟨j + 1, by go_num, by omega, by rw [HY.out.2.1, ← List.append_assoc]; exact HF6.out.1, HF6.out.2⟩
            case measure => simp [intOf]; omega
          · obtain rfl : j = K := by omega
            have hjj : ¬ (j : Int) < (j : Int) := by omega
            rw [show (firsts l).take j = firsts l by rw [← HK.out.1, List.take_length]] at HO
            go_wp2_with (first
              | (at_builtin; have _u := G6.out; clear _u; refine wpList_append_any rfl _ _ rfl W0.heap.size _ ((((runsB (l.map (·.kind)) ++ uintB j ++ namesB (firsts l)) ++ runsB (whichs (firsts l) l)) ++ runsB (diffs (l.map (·.pos)))) ++ runsB (l.map (·.by_))) rfl G6.out.1 at_ ct (textsB l) kt HLN.out.2.2.2.2.1 rfl (HIN.out.2.2.2.2.after G6.out.2) (by have h1 := HRL.out.1; have h2 := HRL.out.2.1; have h3 := HRL.out.2.2.1; have h4 := HRL.out.2.2.2.1; have h5 := HRL.out.2.2.2.2.1; have h6 := HRL.out.2.2.2.2.2; have h7 := HLN.out.2.2.2.2.1; have h8 := HLN.out.2.2.2.2.2; simp only [List.length_append]; omega) (by have := G6.out.2.size; omega) ?_; intro v7 w7 ho hg; have G7 := show Hid (Own w7 W0.heap.size v7 (((((runsB (l.map (·.kind)) ++ uintB j ++ namesB (firsts l)) ++ runsB (whichs (firsts l) l)) ++ runsB (diffs (l.map (·.pos)))) ++ runsB (l.map (·.by_))) ++ textsB l) ∧ After W0 w7) from ⟨ho, after_grown G6.out.2 hg (Nat.le_refl _) (fun g hg => (World.ownsRow.lt G6.out.1 g hg).1)⟩; clear ho hg)
              | (at_builtin; have _u := G5.out; clear _u; refine wpList_append_any rfl _ _ rfl W0.heap.size _ (((runsB (l.map (·.kind)) ++ uintB j ++ namesB (firsts l)) ++ runsB (whichs (firsts l) l)) ++ runsB (diffs (l.map (·.pos)))) rfl (G4.out.1.below G5.out.2.2.1 (Nat.le_refl _)) a5 c5 (runsB (l.map (·.by_))) k5 G5.out.2.1 rfl G5.out.1 (by have h1 := HRL.out.1; have h2 := HRL.out.2.1; have h3 := HRL.out.2.2.1; have h4 := HRL.out.2.2.2.1; have h5 := HRL.out.2.2.2.2.1; have h6 := HRL.out.2.2.2.2.2; have h7 := HLN.out.2.2.2.2.1; have h8 := HLN.out.2.2.2.2.2; simp only [List.length_append]; omega) (by have := G5.out.2.2.2.size; omega) ?_; intro v6 w6 ho hg; have G6 := show Hid (Own w6 W0.heap.size v6 ((((runsB (l.map (·.kind)) ++ uintB j ++ namesB (firsts l)) ++ runsB (whichs (firsts l) l)) ++ runsB (diffs (l.map (·.pos)))) ++ runsB (l.map (·.by_))) ∧ After W0 w6) from ⟨ho, after_grown G5.out.2.2.2 hg (Nat.le_refl _) (fun g hg => (World.ownsRow.lt (G4.out.1.below G5.out.2.2.1 (Nat.le_refl _)) g hg).1)⟩; clear ho hg)
              | (go_at_call 94; have _u := G4.out; clear _u; refine Calls.mono (rruns_k ab i cb (l.map (·.by_)) HIT.out.2.2 HLN.out.2.2.2.1 (by omega) w4 (intsAt_after HIN.out.2.2.2.1 G4.out.2)) ?_; rintro e w5 ⟨a5, k5, c5, he, _, hat, hk5, ha⟩; subst he; have G5 := show Hid (BytesAt w5 a5 (runsB (l.map (·.by_))) ∧ (runsB (l.map (·.by_))).length = k5 ∧ After w4 w5 ∧ After W0 w5) from ⟨hat, hk5, ha, After.trans G4.out.2 ha⟩; clear hat hk5 ha)
              | (at_builtin; have _u := G3.out; clear _u; refine wpList_append_any rfl _ _ rfl W0.heap.size _ ((runsB (l.map (·.kind)) ++ uintB j ++ namesB (firsts l)) ++ runsB (whichs (firsts l) l)) rfl (G2.out.1.below G3.out.2.2.1 (Nat.le_refl _)) a3 c3 (runsB (diffs (l.map (·.pos)))) k3 G3.out.2.1 rfl G3.out.1 (by have h1 := HRL.out.1; have h2 := HRL.out.2.1; have h3 := HRL.out.2.2.1; have h4 := HRL.out.2.2.2.1; have h5 := HRL.out.2.2.2.2.1; have h6 := HRL.out.2.2.2.2.2; have h7 := HLN.out.2.2.2.2.1; have h8 := HLN.out.2.2.2.2.2; simp only [List.length_append]; omega) (by have := G3.out.2.2.2.size; omega) ?_; intro v4 w4 ho hg; have G4 := show Hid (Own w4 W0.heap.size v4 (((runsB (l.map (·.kind)) ++ uintB j ++ namesB (firsts l)) ++ runsB (whichs (firsts l) l)) ++ runsB (diffs (l.map (·.pos)))) ∧ After W0 w4) from ⟨ho, after_grown G3.out.2.2.2 hg (Nat.le_refl _) (fun g hg => (World.ownsRow.lt (G2.out.1.below G3.out.2.2.1 (Nat.le_refl _)) g hg).1)⟩; clear ho hg)
              | (go_at_call 95; have _u := G2.out; clear _u; refine Calls.mono (rdeltas_k ap i cp' (l.map (·.pos)) HLN.out.2.2.1 (by omega) w2 (intsAt_after HIN.out.2.2.1 G2.out.2)) ?_; rintro e w3 ⟨a3, k3, c3, he, hat, hk3, ha⟩; subst he; have G3 := show Hid (BytesAt w3 a3 (runsB (diffs (l.map (·.pos)))) ∧ (runsB (diffs (l.map (·.pos)))).length = k3 ∧ After w2 w3 ∧ After W0 w3) from ⟨hat, hk3, ha, After.trans G2.out.2 ha⟩; clear hat hk3 ha)
              | (at_builtin; have _u := G1.out; clear _u; refine wpList_append_any rfl _ _ rfl W0.heap.size _ (runsB (l.map (·.kind)) ++ uintB j ++ namesB (firsts l)) rfl (HO.out.1.below G1.out.2.2.1 (Nat.le_refl _)) a1 c1 (runsB (whichs (firsts l) l)) k1 G1.out.2.1 rfl G1.out.1 (by have h1 := HRL.out.1; have h2 := HRL.out.2.1; have h3 := HRL.out.2.2.1; have h4 := HRL.out.2.2.2.1; have h5 := HRL.out.2.2.2.2.1; have h6 := HRL.out.2.2.2.2.2; have h7 := HLN.out.2.2.2.2.1; have h8 := HLN.out.2.2.2.2.2; simp only [List.length_append]; omega) (by have := G1.out.2.2.2.size; omega) ?_; intro v2 w2 ho hg; have G2 := show Hid (Own w2 W0.heap.size v2 ((runsB (l.map (·.kind)) ++ uintB j ++ namesB (firsts l)) ++ runsB (whichs (firsts l) l)) ∧ After W0 w2) from ⟨ho, after_grown G1.out.2.2.2 hg (Nat.le_refl _) (fun g hg => (World.ownsRow.lt (HO.out.1.below G1.out.2.2.1 (Nat.le_refl _)) g hg).1)⟩; clear ho hg)
              | (go_at_call 94; refine Calls.mono (rruns_k aw i cw (whichs (firsts l) l) HIT.out.2.1 HLN.out.2.1 (by omega) wr (intsAt_after HIN.out.2.1 HO.out.2)) ?_; rintro e w1 ⟨a1, k1, c1, he, _, hat, hk1, ha⟩; subst he; have G1 := show Hid (BytesAt w1 a1 (runsB (whichs (firsts l) l)) ∧ (runsB (whichs (firsts l) l)).length = k1 ∧ After wr w1 ∧ After W0 w1) from ⟨hat, hk1, ha, After.trans HO.out.2 ha⟩; clear hat hk1 ha))
            go_ret2
            refine ⟨_, by rw [HPE.out.1]; rfl, ?_, After.trans HAW.out G7.out.2⟩
            rw [HPE.out.2]
            have h := own_base G7.out.1 HAW.out.size
            have e : (((((runsB (l.map (·.kind)) ++ uintB j ++ namesB (firsts l)) ++ runsB (whichs (firsts l) l)) ++ runsB (diffs (l.map (·.pos)))) ++ runsB (l.map (·.by_))) ++ textsB l) = layB l := by unfold layB layNB; rw [HK.out.1]; simp only [List.append_assoc]
            rw [e] at h
            exact h
  · have hnz : (n : Int) > 256 := by omega
    have HPE : Hid (putE l = 5) := by unfold Hid putE; rw [if_pos (by rw [hl]; omega)]
    clear hA hl hok
    go_enter Tryz.func57, Tryz.ntmps57
    go_wp2
    go_ret2
    exact ⟨_, by rw [HPE.out]; rfl, by unfold putBs; rw [HPE.out, if_neg (by omega)]; exact Own.nil _ _, After.refl _⟩
end Go.Proofs.YtgmdolpjkaajfaaGreatDoor
