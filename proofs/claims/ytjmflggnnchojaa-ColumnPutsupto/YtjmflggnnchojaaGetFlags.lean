/-
  THE WALKS OF column.taken[bool], column.GetFlags, ref.Alike.
-/
import Derived.Test.YtjmflggnnchojaaReadFlags
namespace Go.Proofs.Ytjmflggnnchojaa
open Go.RowKit Leb
/-- What GetFlags tells. -/
def getF (bs : List UInt8) (most : Int) : List Bool × Nat × Nat :=
  if (readF bs (clampM most)).2.2 = 0 then ((readF bs (clampM most)).1, bs.length - (readF bs (clampM most)).2.1.length, 0) else ([], 0, (readF bs (clampM most)).2.2)
def GPostB (w : World) (G : List Bool × Nat × Nat) (x : Ending) (w' : World) : Prop :=
  ∃ v, x = .returned (.tuple #[v, .int .i64 (G.2.1 : Int), .int .i64 (G.2.2 : Int)]) ∧ OwnB w' w.heap.size v G.1 ∧ After w w'
theorem rf_len (most N : Nat) : ∀ k i bs acc, (rf most N k i bs acc).2.1.length ≤ bs.length
  | 0, i, bs, acc => by simp [rf]
  | k + 1, i, bs, acc => by
    have h1 : (suB bs 0 (most - acc.length)).length ≤ bs.length := by unfold suB; split <;> simp
    unfold rf
    split
    · have := rf_len most N k (i + 1) (suB bs 0 (most - acc.length)) (acc ++ List.replicate (rlV bs 0 (most - acc.length) (leastOf N i)) ((i : Int) % 2 == 1)); omega
    · simpa using h1
theorem readF_len (bs : List UInt8) (most : Nat) : (readF bs most).2.1.length ≤ bs.length := by
  have h1 : (suB bs 0 (most + 1)).length ≤ bs.length := by unfold suB; split <;> simp
  unfold readF
  split
  · have := rf_len most (suV bs 0 (most + 1)) (suV bs 0 (most + 1)) 0 (suB bs 0 (most + 1)) []; omega
  · simpa using h1
theorem rf_most (most N : Nat) : ∀ k i bs acc, acc.length ≤ most → (rf most N k i bs acc).1.length ≤ most
  | 0, i, bs, acc, h => by simpa [rf] using h
  | k + 1, i, bs, acc, h => by
    unfold rf
    split
    · apply rf_most most N k
      have := rlV_le bs 0 (most - acc.length) (leastOf N i)
      simp; omega
    · simp
theorem readF_most (bs : List UInt8) (most : Nat) : (readF bs most).1.length ≤ most := by
  unfold readF
  split
  · exact rf_most most _ (suV bs 0 (most + 1)) 0 (suB bs 0 (most + 1)) [] (by simp)
  · simp
theorem getF_most (bs : List UInt8) (most : Int) : (getF bs most).1.length ≤ 65536 := by
  have h := clampM_le most
  have h2 := readF_most bs (clampM most)
  unfold getF
  split
  · show (readF bs (clampM most)).1.length ≤ 65536
    omega
  · simp
set_option maxRecDepth 100000 in
set_option maxHeartbeats 800000 in
theorem takenB_any (ao : Option Addr) (cap : Nat) (bs : List UInt8) (hbig : bs.length ≤ 140737488355328) (most : Int) (hm0 : -9223372036854775808 ≤ most) (hm1 : most ≤ 9223372036854775807) (w : World) (hat : BytesAt w ao bs) :
    Calls Try.prog 33 #[.slice ao bs.length cap, .int .i64 most, .func (.func 34) #[] #[]] w fun x w' => GPostB w (getF bs most) x w' := by
  have HAT : Hid (BytesAt w ao bs) := hat
  obtain ⟨M, hM⟩ : ∃ M, clampM most = M := ⟨_, rfl⟩
  have hM5 : M ≤ 65536 := by rw [← hM]; unfold clampM; split; omega; split <;> omega
  obtain ⟨R, hR⟩ : ∃ R, readF bs M = R := ⟨_, rfl⟩
  have hRl := readF_len bs M
  rw [hR] at hRl
  have HGR : Hid (getF bs most = if R.2.2 = 0 then (R.1, bs.length - R.2.1.length, 0) else ([], 0, R.2.2)) := by unfold Hid getF; rw [hM, hR]
  have C34 : Hid (∀ W g a c, Rd W g bs 0 a c → (∀ x, a = some x → x.block < W.heap.size) → Calls Try.prog 34 #[.pointer (some ⟨g, 0, none⟩), .int .i64 (M : Int)] W fun x w' => FPost W g R x w') := fun W g a c h1 h2 => by
    have := readFlags_any g bs a c M hM5 W h1 h2
    rw [hR] at this
    exact this
  obtain ⟨rl, rb, re⟩ := R
  have hcl : most < 0 ∧ M = 0 ∨ 65536 < most ∧ M = 65536 ∨ 0 ≤ most ∧ most ≤ 65536 ∧ most = (M : Int) := by
    unfold clampM at hM
    split at hM
    · exact .inl ⟨by assumption, hM.symm⟩
    · split at hM
      · exact .inr (.inl ⟨by assumption, hM.symm⟩)
      · exact .inr (.inr ⟨by omega, by omega, by omega⟩)
  clear hat hM hR
  have hre : re = 0 ∨ ¬ re = 0 := by omega
  rcases hcl with ⟨hc1, rfl⟩ | ⟨hc1, rfl⟩ | ⟨hc1, hc2, rfl⟩
  all_goals
    rcases hre with rfl | hre
    · have HG : Hid (getF bs _ = (rl, bs.length - rb.length, 0)) := HGR.out.trans (if_pos rfl)
      clear HGR
      go_enter Try.func33, Try.ntmps33
      go_wp2_with (first
        | (go_at_call 42; refine (read_far ao cap bs (by omega) _ HAT.out).mono ?_; rintro x w1 ⟨g, a1, c1, rfl, hr1, hf1, hg1, hb1⟩; have HR1 := show Hid (Rd w1 g bs 0 a1 c1) from hr1; have HF1 := show Hid (∀ a, a1 = some a → w.heap.size ≤ a.block ∧ a.block < w1.heap.size) from hf1; have HB1 := show Hid (After w w1) from hb1; clear hr1 hf1 hb1)
        | (go_at_call 34; refine Calls.mono (C34.out _ g a1 c1 HR1.out (fun x hx => (HF1.out x hx).2)) ?_; rintro x w2 ⟨v, rfl, ho, hbt, hrd⟩; have HO := show Hid (OwnB w2 w1.heap.size v rl) from ho; have HBT := show Hid (But g w1 w2) from hbt; have HRD := show Hid (_ = 0 → ∃ ao' cap', Rd w2 g rb 0 ao' cap') from hrd; clear ho hbt hrd)
        | (go_at_call 43; first | (exfalso; omega) | skip; obtain ⟨a2, c2, hr2⟩ := HRD.out (by first | exact rfl | trivial); refine (rLeft_any g rb 0 a2 c2 _ hr2).mono ?_; rintro x w3 ⟨rfl, hw3⟩; have hw4 := hw3.symm; clear hw3; subst hw4))
      go_ret3
      rw [HG.out]
      exact ⟨v, by rw [show (((rl, bs.length - rb.length, 0) : List Bool × Nat × Nat).2.1 : Int) = (bs.length : Int) - (rb.length : Int) from Int.ofNat_sub (show rb.length ≤ bs.length from hRl)]; rfl, OwnB.mono HO.out HB1.out.size, after_but HB1.out HBT.out hg1⟩
    · have HG : Hid (getF bs _ = ([], 0, re)) := HGR.out.trans (if_neg hre)
      clear HGR
      go_enter Try.func33, Try.ntmps33
      go_wp2_with (first
        | (go_at_call 42; refine (read_far ao cap bs (by omega) _ HAT.out).mono ?_; rintro x w1 ⟨g, a1, c1, rfl, hr1, hf1, hg1, hb1⟩; have HR1 := show Hid (Rd w1 g bs 0 a1 c1) from hr1; have HF1 := show Hid (∀ a, a1 = some a → w.heap.size ≤ a.block ∧ a.block < w1.heap.size) from hf1; have HB1 := show Hid (After w w1) from hb1; clear hr1 hf1 hb1)
        | (go_at_call 34; refine Calls.mono (C34.out _ g a1 c1 HR1.out (fun x hx => (HF1.out x hx).2)) ?_; rintro x w2 ⟨v, rfl, ho, hbt, hrd⟩; have HO := show Hid (OwnB w2 w1.heap.size v rl) from ho; have HBT := show Hid (But g w1 w2) from hbt; have HRD := show Hid (_ = 0 → ∃ ao' cap', Rd w2 g rb 0 ao' cap') from hrd; clear ho hbt hrd)
        | (go_at_call 43; first | (exfalso; omega) | skip; obtain ⟨a2, c2, hr2⟩ := HRD.out (by first | exact rfl | trivial); refine (rLeft_any g rb 0 a2 c2 _ hr2).mono ?_; rintro x w3 ⟨rfl, hw3⟩; have hw4 := hw3.symm; clear hw3; subst hw4))
      go_ret3
      rw [HG.out]
      exact ⟨_, rfl, OwnB.nil _ _, after_but HB1.out HBT.out hg1⟩
set_option maxHeartbeats 400000 in
theorem getFlags_any (ao : Option Addr) (cap : Nat) (bs : List UInt8) (hbig : bs.length ≤ 140737488355328) (most : Int) (hm0 : -9223372036854775808 ≤ most) (hm1 : most ≤ 9223372036854775807) (w : World) (hat : BytesAt w ao bs) :
    Calls Try.prog 18 #[.slice ao bs.length cap, .int .i64 most] w fun x w' => GPostB w (getF bs most) x w' := by
  have HC := show Hid _ from takenB_any ao cap bs hbig most hm0 hm1 w hat
  clear hat
  go_enter Try.func18, Try.ntmps18
  go_wp2_with (go_at_call 33; refine Calls.mono HC.out ?_; rintro x w1 ⟨v, rfl, ho, hb⟩)
  go_ret3
  exact ⟨v, rfl, ho, hb⟩
theorem alike_end {l1 l2 : List Bool} (h : l1.length = l2.length) (hall : ∀ j, j < l1.length → l1[j]?.getD false = l2[j]?.getD false) : l1 = l2 := by
  apply List.ext_getElem h
  intro j h1 h2
  have := hall j h1
  rwa [List.getElem?_eq_getElem h1, List.getElem?_eq_getElem h2, Option.getD_some, Option.getD_some] at this
set_option maxRecDepth 100000 in
set_option maxHeartbeats 800000 in
theorem alike_any (a1 a2 : Option Addr) (c1 c2 : Nat) (l1 l2 : List Bool) (hn2 : l2.length ≤ 1048576) (w : World) (h1 : BoolsAt w a1 l1) (h2 : BoolsAt w a2 l2) :
    Calls Try.prog 19 #[.slice a1 l1.length c1, .slice a2 l2.length c2] w fun e w' => e = .returned (.bool (decide (l1 = l2))) ∧ Below w.heap.size w w' := by
  have H1 : Hid (BoolsAt w a1 l1) := h1
  have H2 : Hid (BoolsAt w a2 l2) := h2
  clear h1 h2
  by_cases hlen : l1.length = l2.length
  · obtain ⟨n, hn⟩ : ∃ n, l2.length = n := ⟨_, rfl⟩
    have hn' : l1.length = n := hlen.trans hn
    rw [hn', hn]
    rw [hn] at hn2
    have HN : Hid (l1.length = n ∧ l2.length = n) := ⟨hn', hn⟩
    clear hlen hn hn'
    go_enter Try.func19, Try.ntmps19
    go_wp2
    go_loopw [5] (fun i wr => ∃ k : Nat, k ≤ n ∧ i = .int .i64 k ∧ Hid (∀ j, j < k → l1[j]?.getD false = l2[j]?.getD false) ∧ Hid (Below w.heap.size w wr)) (fun i _ => n - (intOf i).toNat)
    case atStart => exact ⟨0, by omega, rfl, fun j hj => by omega, Below.refl _ _⟩
    case round =>
      obtain ⟨k, hk, rfl, HALL, HB⟩ := hrel
      by_cases hlt : k < n
      · obtain ⟨b1, o1, rfl, hc1⟩ := H1.out (by intro h; have := HN.out.1; simp [h] at this; omega)
        obtain ⟨b2, o2, rfl, hc2⟩ := H2.out (by intro h; have := HN.out.2; simp [h] at this; omega)
        have hk1 := hc1 k (by rw [HN.out.1]; exact hlt)
        have hk2 := hc2 k (by rw [HN.out.2]; exact hlt)
        obtain ⟨x, HX, hx⟩ : ∃ x : Bool, Hid (x = l1[k]?.getD false) ∧ wr.cell? ⟨b1, o1 + k, none⟩ = some (.bool x) := ⟨_, rfl, by rw [HB.out.cell (p := ⟨b1, o1 + k, none⟩) (block_lt_of_cell hk1)]; exact hk1⟩
        obtain ⟨y, HY, hy⟩ : ∃ y : Bool, Hid (y = l2[k]?.getD false) ∧ wr.cell? ⟨b2, o2 + k, none⟩ = some (.bool y) := ⟨_, rfl, by rw [HB.out.cell (p := ⟨b2, o2 + k, none⟩) (block_lt_of_cell hk2)]; exact hk2⟩
        clear hc1 hc2 hk1 hk2
        by_cases hxy : x = y
        · subst hxy
          go_wp2
          go_region
          go_wp2
          go_roundw
          case rel => exact ⟨k + 1, by omega, by go_num, fun j hj => by
            rcases Nat.lt_succ_iff_lt_or_eq.1 hj with h | rfl
            · exact HALL.out j h
            · rw [← HX.out, ← HY.out], HB.out.drew⟩
          case measure => simp [intOf]; omega
        · have HNE : Hid (¬ l1 = l2) := by intro h; subst h; exact hxy (HX.out.trans HY.out.symm)
          have hxyc : x = true ∧ y = false ∨ x = false ∧ y = true := by cases x <;> cases y <;> simp at hxy ⊢
          clear hxy HX HY
          rcases hxyc with ⟨rfl, rfl⟩ | ⟨rfl, rfl⟩
          all_goals
            go_wp2
            go_region
            go_wp2
            go_ret
            refine ⟨?_, HB.out.drew⟩
            rw [decide_eq_false HNE.out]; rfl
      · obtain rfl : k = n := by omega
        go_wp2
        go_ret
        refine ⟨?_, HB.out⟩
        rw [decide_eq_true (alike_end (HN.out.1.trans HN.out.2.symm) (by rw [HN.out.1]; exact HALL.out))]; rfl
  · have hlen' : ¬ ((l1.length : Int) = (l2.length : Int)) := by omega
    go_enter Try.func19, Try.ntmps19
    go_wp2
    go_ret
    refine ⟨?_, Below.refl _ _⟩
    rw [decide_eq_false (by intro h; subst h; exact hlen rfl)]; rfl
end Go.Proofs.Ytjmflggnnchojaa
