/-
  THE WALK OF ref.Differences.
-/
import Derived.Test.YtpplnomomcdemaaDeltas
namespace Go.Proofs.Ytpplnomomcdemaa
open Go.RowKit Leb
set_option maxRecDepth 100000 in
set_option maxHeartbeats 800000 in
theorem refDiffs_any (ao : Option Addr) (cap : Nat) (l : List Int) (hn : l.length ≤ 1048575) (w : World) (hI : IntsAt w ao l) :
    Calls Try.prog 51 #[.slice ao l.length cap] w fun e W' => ∃ v, e = .returned v ∧ OwnI W' w.heap.size v (diffs l) ∧ After w W' := by
  have HI : Hid (IntsAt w ao l) := hI
  clear hI
  go_enter Try.func51, Try.ntmps51
  go_wp2
  go_loopw [3, 4, 5] (fun v t i wr => ∃ (k : Nat) (a : Int), k ≤ l.length ∧ i = .int .i64 k ∧ t = .int .i64 a ∧ Hid (a = prev l k) ∧ Hid (OwnI wr w.heap.size v ((diffs l).take k)) ∧ Hid (After w wr)) (fun _ _ i _ => l.length - (intOf i).toNat)
  case atStart => exact ⟨0, 0, by omega, rfl, rfl, rfl, OwnI.nil _ _, After.refl _⟩
  case round =>
    obtain ⟨k, a, hk, rfl, rfl, HA, HO, HBr⟩ := hrel
    by_cases hlt : k < l.length
    · obtain ⟨b, o, rfl, hc⟩ := HI.out (by intro h; simp [h] at hlt)
      have hck := hc k hlt
      obtain ⟨x, HX, HCK⟩ : ∃ x : Int, Hid (x = l[k]?.getD 0) ∧ Hid (w.cell? ⟨b, o + k, none⟩ = some (.int .i64 x)) := ⟨_, rfl, hck⟩
      have hx : wr.cell? ⟨b, o + k, none⟩ = some (.int .i64 x) := (Below.cell HBr.out (p := ⟨b, o + k, none⟩) (block_lt_of_cell HCK.out)).trans HCK.out
      clear hc hck
      have HZ : Hid (RowKit.wrap64 (x - a) = dif l k) := by unfold Hid dif; rw [HA.out, HX.out]
      have HLN : Hid (((diffs l).take k).length + 1 ≤ 1048576) := by unfold Hid; rw [List.length_take]; omega
      go_wp2_with (at_builtin; refine wpList_append_ints rfl _ _ rfl w.heap.size _ ((diffs l).take k) rfl (OwnI.keep HO.out (fun i hi => (after_alloc (After.refl _) _).block i (World.ownsRow.lt HO.out i hi).2)) ⟨wr.heap.size, 0, none⟩ 1 [RowKit.wrap64 (x - a)] 1 rfl rfl (fun i hi => by obtain rfl : i = 0 := (by simp at hi; omega); exact box_cell _ _ _) (by have := HLN.out; simp only [List.length_cons, List.length_nil]; omega) (by have := HBr.out.size; simp; omega) ?_; intro v6 w6 ho6 hg6; have HO6 : Hid (OwnI w6 w.heap.size v6 ((diffs l).take (k + 1))) := (by unfold Hid; rw [diffs_take l k hlt, ← HZ.out]; exact ho6); have HB6 : Hid (After w w6) := after_grown (after_alloc HBr.out _) hg6 (Nat.le_refl _) (fun k hk => (World.ownsRow.lt HO.out k hk).1); have hx6 : w6.cell? ⟨b, o + k, none⟩ = some (.int .i64 x) := (Below.cell HB6.out (p := ⟨b, o + k, none⟩) (block_lt_of_cell HCK.out)).trans HCK.out; clear ho6 hg6)
      go_roundw
      case rel => exact ⟨k + 1, _, by omega, by go_num, rfl, HX.out, HO6.out, HB6.out⟩
      case measure => simp [intOf]; omega
    · go_wp2
      go_ret
      exact ⟨_, rfl, by have := HO.out; rw [diffs_all l k (by omega)] at this; exact this, HBr.out⟩
end Go.Proofs.Ytpplnomomcdemaa
