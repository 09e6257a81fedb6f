/-
  THE WALK OF column.Deltas.
-/
import Derived.Test.YtpplnomomcdemaaRefDeltas
namespace Go.Proofs.Ytpplnomomcdemaa
open Go.RowKit Leb
def prev (l : List Int) : Nat → Int
  | 0 => 0
  | k + 1 => l[k]?.getD 0
def dif (l : List Int) (k : Nat) : Int := RowKit.wrap64 (l[k]?.getD 0 - prev l k)
def diffs (l : List Int) : List Int := (List.range l.length).map (dif l)
theorem diffs_len (l : List Int) : (diffs l).length = l.length := by simp [diffs]
theorem diffs_int (l : List Int) : ∀ x ∈ diffs l, -9223372036854775808 ≤ x ∧ x ≤ 9223372036854775807 := by
  intro x hx
  obtain ⟨k, _, rfl⟩ := List.mem_map.1 hx
  unfold dif RowKit.wrap64
  omega
theorem diffs_take (l : List Int) (k : Nat) (hk : k < l.length) : (diffs l).take (k + 1) = (diffs l).take k ++ [dif l k] := by
  have h : (diffs l)[k]? = some (dif l k) := by simp [diffs, hk]
  rw [List.take_add_one, h]
  rfl
theorem diffs_all (l : List Int) (k : Nat) (hk : l.length ≤ k) : (diffs l).take k = diffs l := List.take_of_length_le (by rw [diffs_len]; exact hk)
/-- Differences of sums are what was summed. -/
theorem diffs_dsums (l : List Int) (hl : ∀ x ∈ l, -9223372036854775808 ≤ x ∧ x ≤ 9223372036854775807) : diffs (dsums l) = l := by
  have hlen : (dsums l).length = l.length := by simp [dsums]
  apply same_end (by rw [diffs_len, hlen])
  intro j hj
  rw [diffs_len, hlen] at hj
  have hg : ∀ i, i < l.length → (dsums l)[i]?.getD 0 = dsum l i := fun i hi => by simp [dsums, hi]
  have e : (diffs (dsums l))[j]?.getD 0 = dif (dsums l) j := by
    unfold diffs
    rw [List.getElem?_map, List.getElem?_range (by rw [hlen]; exact hj)]
    rfl
  have hx := hl (l[j]'hj) (List.getElem_mem hj)
  have hv : l[j]?.getD 0 = l[j]'hj := by rw [List.getElem?_eq_getElem hj, Option.getD_some]
  rw [e]
  unfold dif
  rw [hg j hj]
  cases j with
  | zero =>
    show RowKit.wrap64 (l[0]?.getD 0 - 0) = l[0]?.getD 0
    rw [hv]
    unfold RowKit.wrap64
    omega
  | succ m =>
    show RowKit.wrap64 (dsum l (m + 1) - (dsums l)[m]?.getD 0) = l[m + 1]?.getD 0
    rw [hg m (by omega), show dsum l (m + 1) = RowKit.wrap64 (l[m + 1]?.getD 0 + dsum l m) from rfl, hv]
    unfold RowKit.wrap64
    omega
theorem OwnI.made (W : World) (c : Nat) (hc : c ≤ 1048576) : OwnI (W.alloc (.cells (ci (List.replicate c 0)).toArray 2)) W.heap.size (.slice (some ⟨W.heap.size, 0, none⟩) 0 c) [] :=
  ⟨rfl, .inr ⟨W.heap.size, c, _, rfl, Nat.le_refl _, heap_alloc_new W _, Nat.zero_le _, by unfold maxLen; omega, by simp [ci_len], by simp [ci]⟩⟩
set_option maxRecDepth 100000 in
set_option maxHeartbeats 800000 in
theorem deltas_any (ao : Option Addr) (cap : Nat) (l : List Int) (hn : l.length ≤ 1048575) (w : World) (hI : IntsAt w ao l) :
    Calls Try.prog 44 #[.slice ao l.length cap] w fun e W' => ∃ v, e = .returned v ∧ Own W' w.heap.size v (runsB (diffs l)) ∧ After w W' := by
  have HI : Hid (IntsAt w ao l) := hI
  have hmk := fun W => make_ints W 0 l.length (Nat.zero_le _) (by omega)
  simp only [Int.natCast_zero] at hmk
  have HO0 : Hid (OwnI (w.alloc (.cells (ci (List.replicate l.length 0)).toArray 2)) w.heap.size (.slice (some ⟨w.heap.size, 0, none⟩) 0 l.length) []) := OwnI.made w l.length (by omega)
  have HB0 : Hid (After w (w.alloc (.cells (ci (List.replicate l.length 0)).toArray 2))) := after_alloc (After.refl w) _
  clear hI
  go_enter Try.func44, Try.ntmps44
  go_wp2
  clear hmk
  revert HO0 HB0
  refine with_world (p := fun W => Hid (OwnI W w.heap.size (.slice (some ⟨w.heap.size, 0, none⟩) 0 l.length) []) → Hid (After w W) → Code.wp _ _ _ _ W) (fun _ => True) trivial ?_
  intro W1 _ HO0 HB0
  go_loopw [3, 4, 12] (fun v t i wr => ∃ (k : Nat) (a : Int), k ≤ l.length ∧ i = .int .i64 k ∧ t = .int .i64 a ∧ Hid (a = prev l k) ∧ Hid (OwnI wr w.heap.size v ((diffs l).take k)) ∧ Hid (After w wr)) (fun _ _ i _ => l.length - (intOf i).toNat)
  case atStart => exact ⟨0, 0, by omega, rfl, rfl, rfl, HO0.out, HB0.out⟩
  case round =>
    clear HO0 HB0
    obtain ⟨k, a, hk, rfl, rfl, HA, HO, HBr⟩ := hrel
    by_cases hlt : k < l.length
    · obtain ⟨b, o, rfl, hc⟩ := HI.out (by intro h; simp [h] at hlt)
      have hck := hc k hlt
      obtain ⟨x, HX, hx⟩ : ∃ x : Int, Hid (x = l[k]?.getD 0) ∧ wr.cell? ⟨b, o + k, none⟩ = some (.int .i64 x) := ⟨_, rfl, by rw [Below.cell HBr.out (p := ⟨b, o + k, none⟩) (block_lt_of_cell hck)]; exact hck⟩
      clear hc hck
      have HZ : Hid (RowKit.wrap64 (x - a) = dif l k) := by unfold Hid dif; rw [HA.out, HX.out]
      have HLN : Hid (((diffs l).take k).length + 1 ≤ 1048576) := by unfold Hid; rw [List.length_take]; omega
      go_wp2_with (at_builtin; refine wpList_append_ints rfl _ _ rfl w.heap.size _ ((diffs l).take k) rfl (OwnI.keep HO.out (fun i hi => (after_alloc (After.refl _) _).block i (World.ownsRow.lt HO.out i hi).2)) ⟨wr.heap.size, 0, none⟩ 1 [RowKit.wrap64 (x - a)] 1 rfl rfl (fun i hi => by obtain rfl : i = 0 := (by simp at hi; omega); exact box_cell _ _ _) (by have := HLN.out; simp only [List.length_cons, List.length_nil]; omega) (by have := HBr.out.size; simp; omega) ?_; intro v6 w6 ho6 hg6; have HO6 : Hid (OwnI w6 w.heap.size v6 ((diffs l).take (k + 1))) := (by unfold Hid; rw [diffs_take l k hlt, ← HZ.out]; exact ho6); have HB6 : Hid (After w w6) := after_grown (after_alloc HBr.out _) hg6 (Nat.le_refl _) (fun k hk => (World.ownsRow.lt HO.out k hk).1); clear ho6 hg6)
      go_roundw
      case rel => exact ⟨k + 1, _, by omega, by go_num, rfl, HX.out, HO6.out, HB6.out⟩
      case measure => simp [intOf]; omega
    · obtain ⟨va, vc, hv, hint, _, hvl⟩ := OwnI.at (by have := HO.out; rw [diffs_all l k (by omega)] at this; exact this)
      subst hv
      have HINT : Hid (IntsAt wr va (diffs l)) := hint
      have C10 := show Hid _ from runs_any va vc (diffs l) (diffs_int l) (by rw [diffs_len]; omega) wr hint (fun a ha _ => (hvl a ha).2)
      clear hint hvl HO
      go_wp2_with (go_at_call 40; refine Calls.mono C10.out ?_; rintro x w7 ⟨v7, rfl, ho7, hb7⟩)
      go_ret
      exact ⟨_, rfl, Own.mono ho7 HBr.out.size, After.trans HBr.out hb7⟩
end Go.Proofs.Ytpplnomomcdemaa
