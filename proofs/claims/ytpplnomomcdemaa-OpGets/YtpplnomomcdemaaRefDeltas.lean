/-
  THE WALK OF ref.GetDeltas.
-/
import Derived.Test.YtpplnomomcdemaaRefRuns
namespace Go.Proofs.Ytpplnomomcdemaa
open Go.RowKit Leb
def lastOf (l : List Int) : Nat → Int
  | 0 => 0
  | k + 1 => dsum l k
theorem last_next (l : List Int) (hl : ∀ x ∈ l, -9223372036854775808 ≤ x ∧ x ≤ 9223372036854775807) (k : Nat) (hk : k < l.length) : RowKit.wrap64 (lastOf l k + l[k]?.getD 0) = dsum l k := by
  cases k with
  | zero =>
    have := hl (l[0]'hk) (List.getElem_mem hk)
    show RowKit.wrap64 (0 + l[0]?.getD 0) = l[0]?.getD 0
    rw [List.getElem?_eq_getElem hk, Option.getD_some]
    unfold RowKit.wrap64
    omega
  | succ m =>
    show RowKit.wrap64 (dsum l m + l[m + 1]?.getD 0) = RowKit.wrap64 (l[m + 1]?.getD 0 + dsum l m)
    rw [Int.add_comm]
theorem dsums_take (l : List Int) (k : Nat) (hk : k < l.length) : (dsums l).take (k + 1) = (dsums l).take k ++ [dsum l k] := by
  have h : (dsums l)[k]? = some (dsum l k) := by simp [dsums, hk]
  rw [List.take_add_one, h]
  rfl
theorem dsums_all (l : List Int) (k : Nat) (hk : l.length ≤ k) : (dsums l).take k = dsums l := List.take_of_length_le (by simp [dsums]; exact hk)
set_option maxRecDepth 100000 in
set_option maxHeartbeats 800000 in
theorem refDeltas_any (ao : Option Addr) (cap : Nat) (bs : List UInt8) (hcap : bs.length ≤ cap) (hz : ao = none → bs.length = 0) (hbig : bs.length ≤ 140737488355328) (most : Int) (hm0 : -9223372036854775808 ≤ most) (hm1 : most ≤ 9223372036854775807) (w : World) (hat : BytesAt w ao bs) :
    Calls Try.prog 35 #[.slice ao bs.length cap, .int .i64 most] w fun x w' => GPost w (dsums (getR bs most).1, (getR bs most).2) x w' := by
  have HC := show Hid _ from refRuns_any ao cap bs hcap hz hbig most hm0 hm1 w hat
  have hn := getR_most bs most
  have hl := getR_int bs most
  obtain ⟨G, hG⟩ : ∃ G, getR bs most = G := ⟨_, rfl⟩
  rw [hG] at HC hn hl ⊢
  obtain ⟨l, u, e⟩ := G
  replace hn : l.length ≤ 65536 := hn
  have HL : Hid (∀ x ∈ l, -9223372036854775808 ≤ x ∧ x ≤ 9223372036854775807) := hl
  clear hat hG hz hl
  go_enter Try.func35, Try.ntmps35
  go_wp2_with (go_at_call 31; refine Calls.mono HC.out ?_; rintro x w1 ⟨v, rfl, ho, hb⟩; obtain ⟨a1, c1, rfl, hI, hc1, hl1⟩ := OwnI.at ho; have HI := show Hid (IntsAt w1 a1 l) from hI; have HB := show Hid (After w w1) from hb; clear ho hb hl1 hI)
  go_loopw [10, 11, 12] (fun v t i wr => ∃ (k : Nat) (a : Int), k ≤ l.length ∧ i = .int .i64 k ∧ t = .int .i64 a ∧ Hid (a = lastOf l k) ∧ Hid (OwnI wr w1.heap.size v ((dsums l).take k)) ∧ Hid (After w1 wr)) (fun _ _ i _ => l.length - (intOf i).toNat)
  case atStart => exact ⟨0, 0, by omega, rfl, rfl, rfl, OwnI.nil _ _, After.refl _⟩
  case round =>
    obtain ⟨k, a, hk, rfl, rfl, HA, HO, HBr⟩ := hrel
    by_cases hlt : k < l.length
    · obtain ⟨b, o, rfl, hc⟩ := HI.out (by intro h; simp [h] at hlt)
      have hck := hc k hlt
      obtain ⟨x, HX, hx⟩ : ∃ x : Int, Hid (x = l[k]?.getD 0) ∧ wr.cell? ⟨b, o + k, none⟩ = some (.int .i64 x) := ⟨_, rfl, by rw [Below.cell HBr.out (p := ⟨b, o + k, none⟩) (block_lt_of_cell hck)]; exact hck⟩
      clear hc hck
      have HZ : Hid (RowKit.wrap64 (a + x) = dsum l k) := by unfold Hid; rw [HA.out, HX.out]; exact last_next l HL.out k hlt
      have HLN : Hid (((dsums l).take k).length ≤ 65536) := by unfold Hid; rw [List.length_take]; omega
      go_wp2_with (at_builtin; refine wpList_append_ints rfl _ _ rfl w1.heap.size _ ((dsums l).take k) rfl (OwnI.keep HO.out (fun i hi => (after_alloc (After.refl _) _).block i (World.ownsRow.lt HO.out i hi).2)) ⟨wr.heap.size, 0, none⟩ 1 [RowKit.wrap64 (a + x)] 1 rfl rfl (fun i hi => by obtain rfl : i = 0 := (by simp at hi; omega); exact box_cell _ _ _) (by have := HLN.out; simp only [List.length_cons, List.length_nil]; omega) (by have := HBr.out.size; simp; omega) ?_; intro v6 w6 ho6 hg6; have HO6 : Hid (OwnI w6 w1.heap.size v6 ((dsums l).take (k + 1))) := (by unfold Hid; rw [dsums_take l k hlt, ← HZ.out]; exact ho6); have HB6 : Hid (After w1 w6) := after_grown (after_alloc HBr.out _) hg6 (Nat.le_refl _) (fun k hk => (World.ownsRow.lt HO.out k hk).1); clear ho6 hg6)
      go_roundw
      case rel => exact ⟨k + 1, _, by omega, by go_num, rfl, HZ.out, HO6.out, HB6.out⟩
      case measure => simp [intOf]; omega
    · obtain hkk : k = l.length := by omega
      go_wp2
      go_ret3
      exact ⟨_, rfl, OwnI.mono (by have := HO.out; rw [dsums_all l k (by omega)] at this; exact this) HB.out.size, After.trans HB.out HBr.out⟩
end Go.Proofs.Ytpplnomomcdemaa
