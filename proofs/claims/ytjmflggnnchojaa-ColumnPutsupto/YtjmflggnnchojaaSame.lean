/-
  THE WALK OF ref.Same.
-/
import Derived.Test.YtjmflggnnchojaaGetRuns
namespace Go.Proofs.Ytjmflggnnchojaa
open Go.RowKit Leb
theorem same_end {l1 l2 : List Int} (h : l1.length = l2.length) (hall : ∀ j, j < l1.length → l1[j]?.getD 0 = l2[j]?.getD 0) : l1 = l2 := by
  apply List.ext_getElem h
  intro j h1 h2
  have := hall j h1
  rwa [List.getElem?_eq_getElem h1, List.getElem?_eq_getElem h2, Option.getD_some, Option.getD_some] at this
set_option maxRecDepth 100000 in
set_option maxHeartbeats 800000 in
theorem same_any (a1 a2 : Option Addr) (c1 c2 : Nat) (l1 l2 : List Int) (hn2 : l2.length ≤ 1048576) (w : World) (h1 : IntsAt w a1 l1) (h2 : IntsAt w a2 l2) :
    Calls Try.prog 14 #[.slice a1 l1.length c1, .slice a2 l2.length c2] w fun e w' => e = .returned (.bool (decide (l1 = l2))) ∧ Below w.heap.size w w' := by
  have H1 : Hid (IntsAt w a1 l1) := h1
  have H2 : Hid (IntsAt w a2 l2) := h2
  clear h1 h2
  by_cases hlen : l1.length = l2.length
  · obtain ⟨n, hn⟩ : ∃ n, l2.length = n := ⟨_, rfl⟩
    have hn' : l1.length = n := hlen.trans hn
    rw [hn', hn]
    rw [hn] at hn2
    have HN : Hid (l1.length = n ∧ l2.length = n) := ⟨hn', hn⟩
    clear hlen hn hn'
    go_enter Try.func14, Try.ntmps14
    go_wp2
    go_loopw [5] (fun i wr => ∃ k : Nat, k ≤ n ∧ i = .int .i64 k ∧ Hid (∀ j, j < k → l1[j]?.getD 0 = l2[j]?.getD 0) ∧ Hid (Below w.heap.size w wr)) (fun i _ => n - (intOf i).toNat)
    case atStart => exact ⟨0, by omega, rfl, fun j hj => by omega, Below.refl _ _⟩
    case round =>
      obtain ⟨k, hk, rfl, HALL, HB⟩ := hrel
      by_cases hlt : k < n
      · obtain ⟨b1, o1, rfl, hc1⟩ := H1.out (by intro h; have := HN.out.1; simp [h] at this; omega)
        obtain ⟨b2, o2, rfl, hc2⟩ := H2.out (by intro h; have := HN.out.2; simp [h] at this; omega)
        have hk1 := hc1 k (by rw [HN.out.1]; exact hlt)
        have hk2 := hc2 k (by rw [HN.out.2]; exact hlt)
        obtain ⟨x, HX, hx⟩ : ∃ x : Int, Hid (x = l1[k]?.getD 0) ∧ wr.cell? ⟨b1, o1 + k, none⟩ = some (.int .i64 x) := ⟨_, rfl, by rw [HB.out.cell (p := ⟨b1, o1 + k, none⟩) (block_lt_of_cell hk1)]; exact hk1⟩
        obtain ⟨y, HY, hy⟩ : ∃ y : Int, Hid (y = l2[k]?.getD 0) ∧ wr.cell? ⟨b2, o2 + k, none⟩ = some (.int .i64 y) := ⟨_, rfl, by rw [HB.out.cell (p := ⟨b2, o2 + k, none⟩) (block_lt_of_cell hk2)]; exact hk2⟩
        clear hc1 hc2 hk1 hk2
        by_cases hxy : x = y
        · subst hxy
          go_wp2
          go_region
          go_wp2
          go_roundw
          case rel => exact ⟨k + 1, by omega, by go_num, fun j hj => by
            rcases Nat.lt_succ_iff_lt_or_eq.1 hj with h | rfl
            · exact HALL.out j h
            · rw [← HX.out, ← HY.out], HB.out.drew⟩
          case measure => simp [intOf]; omega
        · go_wp2
          go_region
          go_wp2
          go_ret
          refine ⟨?_, HB.out.drew⟩
          rw [decide_eq_false (by intro h; subst h; exact hxy (HX.out.trans HY.out.symm))]; rfl
      · obtain rfl : k = n := by omega
        go_wp2
        go_ret
        refine ⟨?_, HB.out⟩
        rw [decide_eq_true (same_end (HN.out.1.trans HN.out.2.symm) (by rw [HN.out.1]; exact HALL.out))]; rfl
  · have hlen' : ¬ ((l1.length : Int) = (l2.length : Int)) := by omega
    go_enter Try.func14, Try.ntmps14
    go_wp2
    go_ret
    refine ⟨?_, Below.refl _ _⟩
    rw [decide_eq_false (by intro h; subst h; exact hlen rfl)]; rfl
end Go.Proofs.Ytjmflggnnchojaa
