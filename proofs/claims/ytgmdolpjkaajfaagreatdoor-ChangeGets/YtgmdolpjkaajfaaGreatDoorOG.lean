/-
  CONTRACTS: Deltas OnlyMath BackMath LongMath PutKit Diffs Split RunsPut
-/
import Derived.Test.YtgmdolpjkaajfaaGreatDoorOF
import Derived.Test.YtgmdolpjkaajfaaGreatDoorOE
import Derived.Laws.OwnMore
namespace Go.Proofs.YtgmdolpjkaajfaaGreatDoor
open Go.RowKit Leb
def prev (l : List Int) : Nat → Int
  | 0 => 0
  | k + 1 => l[k]?.getD 0
def dif (l : List Int) (k : Nat) : Int := RowKit.wrap64 (l[k]?.getD 0 - prev l k)
def diffs (l : List Int) : List Int := (List.range l.length).map (dif l)
theorem diffs_len (l : List Int) : (diffs l).length = l.length := by simp [diffs]
theorem diffs_int (l : List Int) : ∀ x ∈ diffs l, -9223372036854775808 ≤ x ∧ x ≤ 9223372036854775807 := by
  intro x hx
  obtain ⟨k, _, rfl⟩ := List.mem_map.1 hx
  unfold dif RowKit.wrap64
  omega
theorem diffs_take (l : List Int) (k : Nat) (hk : k < l.length) : (diffs l).take (k + 1) = (diffs l).take k ++ [dif l k] := by
  have h : (diffs l)[k]? = some (dif l k) := by simp [diffs, hk]
  rw [List.take_add_one, h]
  rfl
theorem diffs_all (l : List Int) (k : Nat) (hk : l.length ≤ k) : (diffs l).take k = diffs l := List.take_of_length_le (by rw [diffs_len]; exact hk)
theorem OwnI.made (W : World) (c : Nat) (hc : c ≤ 1048576) : OwnI (W.alloc (.cells (ci (List.replicate c 0)).toArray 2)) W.heap.size (.slice (some ⟨W.heap.size, 0, none⟩) 0 c) [] :=
  ⟨rfl, .inr ⟨W.heap.size, c, _, rfl, Nat.le_refl _, heap_alloc_new W _, Nat.zero_le _, by unfold maxLen; omega, by simp [ci_len], by simp [ci]⟩⟩
set_option maxRecDepth 100000 in
set_option maxHeartbeats 800000 in
theorem deltas_any (ao : Option Addr) (cap : Nat) (l : List Int) (hn : l.length ≤ 1048575) (w : World) (hI : IntsAt w ao l) :
    Calls Tryz.prog 102 #[.slice ao l.length cap] w fun e W' => ∃ v, e = .returned v ∧ Own W' w.heap.size v (runsB (diffs l)) ∧ After w W' := by
  have HI : Hid (IntsAt w ao l) := hI
  have hmk := fun W => make_ints W 0 l.length (Nat.zero_le _) (by omega)
  simp only [Int.natCast_zero] at hmk
  have HO0 : Hid (OwnI (w.alloc (.cells (ci (List.replicate l.length 0)).toArray 2)) w.heap.size (.slice (some ⟨w.heap.size, 0, none⟩) 0 l.length) []) := OwnI.made w l.length (by omega)
  have HB0 : Hid (After w (w.alloc (.cells (ci (List.replicate l.length 0)).toArray 2))) := after_alloc (After.refl w) _
  clear hI
  go_enter Tryz.func102, Tryz.ntmps102
  go_wp2
  clear hmk
  revert HO0 HB0
  refine with_world (p := fun W => Hid (OwnI W w.heap.size (.slice (some ⟨w.heap.size, 0, none⟩) 0 l.length) []) → Hid (After w W) → Code.wp _ _ _ _ W) (fun _ => True) trivial ?_
  intro W1 _ HO0 HB0
  go_loopw [3, 4, 12] (fun v t i wr => ∃ (k : Nat) (a : Int), k ≤ l.length ∧ i = .int .i64 k ∧ t = .int .i64 a ∧ Hid (a = prev l k) ∧ Hid (OwnI wr w.heap.size v ((diffs l).take k)) ∧ Hid (After w wr)) (fun _ _ i _ => l.length - (intOf i).toNat)
  case atStart => exact ⟨0, 0, by omega, rfl, rfl, rfl, HO0.out, HB0.out⟩
  case round =>
    clear HO0 HB0
    obtain ⟨k, a, hk, rfl, rfl, HA, HO, HBr⟩ := hrel
    by_cases hlt : k < l.length
    · obtain ⟨b, o, rfl, hc⟩ := HI.out (by intro h; simp [h] at hlt)
      have hck := hc k hlt
      obtain ⟨x, HX, hx⟩ : ∃ x : Int, Hid (x = l[k]?.getD 0) ∧ wr.cell? ⟨b, o + k, none⟩ = some (.int .i64 x) := ⟨_, rfl, by rw [Below.cell HBr.out (p := ⟨b, o + k, none⟩) (block_lt_of_cell hck)]; exact hck⟩
      clear hc hck
      have HZ : Hid (RowKit.wrap64 (x - a) = dif l k) := by unfold Hid dif; rw [HA.out, HX.out]
      have HLN : Hid (((diffs l).take k).length + 1 ≤ 1048576) := by unfold Hid; rw [List.length_take]; omega
      go_wp2_with (at_builtin; refine wpList_append_ints rfl _ _ rfl w.heap.size _ ((diffs l).take k) rfl (OwnI.keep HO.out (fun i hi => (after_alloc (After.refl _) _).block i (World.ownsRow.lt HO.out i hi).2)) ⟨wr.heap.size, 0, none⟩ 1 [RowKit.wrap64 (x - a)] 1 rfl rfl (fun i hi => by obtain rfl : i = 0 := (by simp at hi; omega); exact box_cell _ _ _) (by have := HLN.out; simp only [List.length_cons, List.length_nil]; omega) (by have := HBr.out.size; simp; omega) ?_; intro v6 w6 ho6 hg6; have HO6 : Hid (OwnI w6 w.heap.size v6 ((diffs l).take (k + 1))) := (by unfold Hid; rw [diffs_take l k hlt, ← HZ.out]; exact ho6); have HB6 : Hid (After w w6) := after_grown (after_alloc HBr.out _) hg6 (Nat.le_refl _) (fun k hk => (World.ownsRow.lt HO.out k hk).1); clear ho6 hg6)
      go_roundw
      case rel => exact ⟨k + 1, _, by omega, by go_num, rfl, HX.out, HO6.out, HB6.out⟩
      case measure => simp [intOf]; omega
    · obtain ⟨va, vc, hv, hint, _, hvl⟩ := OwnI.at (by have := HO.out; rw [diffs_all l k (by omega)] at this; exact this)
      subst hv
      have HINT : Hid (IntsAt wr va (diffs l)) := hint
      have C10 := show Hid _ from runs_any va vc (diffs l) (diffs_int l) (by rw [diffs_len]; omega) wr hint (fun a ha _ => (hvl a ha).2)
      clear hint hvl HO
      go_wp2_with (go_at_call 98; refine Calls.mono C10.out ?_; rintro x w7 ⟨v7, rfl, ho7, hb7⟩)
      go_ret
      exact ⟨_, rfl, Own.mono ho7 HBr.out.size, After.trans HBr.out hb7⟩
end Go.Proofs.YtgmdolpjkaajfaaGreatDoor
namespace Go.Proofs.YtgmdolpjkaajfaaGreatDoor
open Go.RowKit Leb
end Go.Proofs.YtgmdolpjkaajfaaGreatDoor
namespace Go.Proofs.YtgmdolpjkaajfaaGreatDoor
open Go.RowKit Leb
def flat {α : Type} (rs : List (α × Nat)) : List α := rs.flatMap fun p => List.replicate p.2 p.1
def good {α : Type} : List (α × Nat) → Prop
  | [] => True
  | p :: rs => 1 ≤ p.2 ∧ (∀ q, rs.head? = some q → q.1 ≠ p.1) ∧ good rs
theorem good_runs {α : Type} [DecidableEq α] : ∀ l : List α, good (runs l) ∧ flat (runs l) = l
  | [] => ⟨trivial, rfl⟩
  | x :: xs => by
    obtain ⟨h1, h2⟩ := good_runs xs
    unfold runs
    cases hr : runs xs with
    | nil =>
      have : xs = [] := (runs_nil_iff xs).1 hr
      subst this
      exact ⟨⟨Nat.le_refl _, fun q hq => by simp at hq, trivial⟩, by simp [flat]⟩
    | cons p r =>
      obtain ⟨y, n⟩ := p
      rw [hr] at h1 h2
      simp only
      split
      · rename_i hxy
        subst hxy
        refine ⟨⟨by simp, h1.2.1, h1.2.2⟩, ?_⟩
        rw [← h2]
        simp [flat, List.replicate_succ]
      · rename_i hxy
        refine ⟨⟨Nat.le_refl _, fun q hq => ?_, h1⟩, ?_⟩
        · simp at hq
          subst hq
          exact fun h => hxy h.symm
        · rw [← h2]
          simp [flat]
theorem rr_back (M : Nat) (hM : M ≤ 65536) (t : List UInt8) : ∀ (rs : List (Int × Nat)) (acc : List Int), good rs → (∀ y, acc.getLast? = some y → ∀ p, rs.head? = some p → p.1 ≠ y) → acc.length + (flat rs).length ≤ M → (∀ p ∈ rs, -9223372036854775808 ≤ p.1 ∧ p.1 ≤ 9223372036854775807) →
    rr M rs.length (laidI rs ++ t) acc = (acc ++ flat rs, t, 0)
  | [], acc, _, _, _, _ => by simp [rr, flat, laidI]
  | (x, v) :: rs, acc, hg, hl, hn, hi => by
    have hfl : (flat ((x, v) :: rs)).length = v + (flat rs).length := by simp [flat]
    rw [hfl] at hn
    obtain ⟨hv, hh, hg'⟩ := hg
    have hx := hi (x, v) (by simp)
    have e : laidI ((x, v) :: rs) ++ t = uintB v ++ (intB x ++ (laidI rs ++ t)) := by simp [laidI]
    have hu := gu_back v (intB x ++ (laidI rs ++ t)) (by simp only at hv; omega)
    have hs := gi_back x (laidI rs ++ t) hx.1 hx.2
    rw [e, List.length_cons, rr_step hu.1 hu.2.2 hu.2.1 (List.drop_left (l₁ := uintB v)) hv (by omega), if_pos hs.1, hs.2.2, hs.2.1, if_neg ?_, List.drop_left]
    · rw [rr_back M hM t rs (acc ++ List.replicate v x) hg' ?_ (by simp; omega) (fun p hp => hi p (by simp [hp]))]
      · simp [flat]
      · intro y hy p hp
        simp only at hv
        rw [List.getLast?_append, List.getLast?_replicate, if_neg (by omega)] at hy
        simp at hy
        rw [← hy]
        exact hh p hp
    · rintro ⟨hne, hlast⟩
      have : acc.getLast? = some x := by
        rw [List.getLast?_eq_getElem?, hlast]
        have hlt : acc.length - 1 < acc.length := by have := List.length_pos_iff.2 hne; omega
        rw [List.getElem?_eq_getElem hlt, Option.getD_some]
      exact hl x this (x, v) (by simp) rfl
theorem runs_mem {α : Type} [DecidableEq α] (l : List α) (p : α × Nat) (hp : p ∈ runs l) : p.1 ∈ l := by
  have h : ∀ rs : List (α × Nat), good rs → p ∈ rs → p.1 ∈ flat rs := by
    intro rs
    induction rs with
    | nil => intro _ h; cases h
    | cons q r ih =>
      intro hg h
      have hcons : flat (q :: r) = List.replicate q.2 q.1 ++ flat r := by simp [flat]
      rw [hcons]
      rcases List.mem_cons.1 h with rfl | h
      · exact List.mem_append_left _ (List.mem_replicate.2 ⟨by have := hg.1; omega, rfl⟩)
      · exact List.mem_append_right _ (ih hg.2.2 h)
  have := h (runs l) (good_runs l).1 hp
  rwa [(good_runs l).2] at this
/-- What Runs lays is taken off by GetRuns, whatever stands behind. -/
theorem getR_back (l : List Int) (t : List UInt8) (most : Int) (hl : ∀ x ∈ l, -9223372036854775808 ≤ x ∧ x ≤ 9223372036854775807) (hn : l.length ≤ clampM most) : getR (runsB l ++ t) most = (l, (runsB l).length, 0) := by
  have hM := clampM_le most
  have hrl := runs_len l
  have e : runsB l ++ t = uintB (runs l).length ++ (laidI (runs l) ++ t) := by simp [runsB]
  have hu := gu_back (runs l).length (laidI (runs l) ++ t) (by omega)
  have hb := rr_back (clampM most) hM t (runs l) [] (good_runs l).1 (fun y hy => by simp at hy) (by rw [(good_runs l).2]; simpa using hn) (fun p hp => hl _ (runs_mem l p hp))
  rw [← e] at hu
  have hd : (runsB l ++ t).drop (uintB (runs l).length).length = laidI (runs l) ++ t := by rw [e, List.drop_left]
  rw [getR_0 hu.1 hu.2.2 hu.2.1 (by omega), hd, hb, (good_runs l).2]
  show ([] ++ l, (runsB l ++ t).length - t.length, 0) = _
  simp
theorem dsums_diffs (l : List Int) (hl : ∀ x ∈ l, -9223372036854775808 ≤ x ∧ x ≤ 9223372036854775807) : dsums (diffs l) = l := by
  have hlen := diffs_len l
  have hg : ∀ i, i < l.length → (diffs l)[i]?.getD 0 = dif l i := fun i hi => by simp [diffs, hi]
  have hv : ∀ i (hi : i < l.length), -9223372036854775808 ≤ l[i]?.getD 0 ∧ l[i]?.getD 0 ≤ 9223372036854775807 := fun i hi => by
    rw [List.getElem?_eq_getElem hi, Option.getD_some]; exact hl _ (List.getElem_mem hi)
  have hs : ∀ j, j < l.length → dsum (diffs l) j = l[j]?.getD 0 := by
    intro j
    induction j with
    | zero =>
      intro hj
      have h := hv 0 hj
      show (diffs l)[0]?.getD 0 = _
      rw [hg 0 hj]
      show RowKit.wrap64 (l[0]?.getD 0 - 0) = _
      unfold RowKit.wrap64
      omega
    | succ m ih =>
      intro hj
      have h := hv (m + 1) hj
      have h2 := hv m (by omega)
      show RowKit.wrap64 ((diffs l)[m + 1]?.getD 0 + dsum (diffs l) m) = _
      rw [hg (m + 1) hj, ih (by omega)]
      show RowKit.wrap64 (RowKit.wrap64 (l[m + 1]?.getD 0 - l[m]?.getD 0) + l[m]?.getD 0) = _
      unfold RowKit.wrap64
      omega
  apply same_end (by simp [dsums, hlen])
  intro j hj
  have hj' : j < l.length := by simpa [dsums, hlen] using hj
  rw [show (dsums (diffs l))[j]?.getD 0 = dsum (diffs l) j by simp [dsums, hlen, hj'], hs j hj']
theorem runs_many {α : Type} [DecidableEq α] (l : List α) (p : α × Nat) (hp : p ∈ runs l) : p.2 ≤ l.length := by
  have h : ∀ rs : List (α × Nat), p ∈ rs → p.2 ≤ (flat rs).length := by
    intro rs
    induction rs with
    | nil => intro h; cases h
    | cons q r ih =>
      intro h
      have hcons : (flat (q :: r)).length = q.2 + (flat r).length := by simp [flat]
      rw [hcons]
      rcases List.mem_cons.1 h with rfl | h
      · omega
      · have := ih h; omega
  have := h (runs l) hp
  rwa [(good_runs l).2] at this
/-- The numbers that rise by one step. -/
def fr (f s : Int) : Nat → Int
  | 0 => f
  | k + 1 => RowKit.wrap64 (fr f s k + s)
def evs (f s : Int) (n : Nat) : List Int := (List.range n).map (fr f s)
end Go.Proofs.YtgmdolpjkaajfaaGreatDoor
namespace Go.Proofs.YtgmdolpjkaajfaaGreatDoor
open Go.RowKit Leb
end Go.Proofs.YtgmdolpjkaajfaaGreatDoor
namespace Go.Proofs.YtgmdolpjkaajfaaGreatDoor
open Go.RowKit Leb
/-- A row of the call's own that holds counts. -/
def OwnN (w : World) (base : Nat) (v : Value) (l : List Int) : Prop := w.ownsRow base 3 1 v l.length (ci l)
theorem OwnN.nil (w : World) (base : Nat) : OwnN w base (.slice none 0 0) [] := World.ownsRow_nil w base 3 1
theorem OwnN.keep {w w' : World} {B : Nat} {v : Value} {l : List Int} (h : OwnN w B v l) (hk : ∀ k, v.ownBlock = some k → w'.heap[k]? = w.heap[k]?) : OwnN w' B v l := by
  refine ⟨h.1, ?_⟩
  rcases h.2 with hn | ⟨g, cap, cur, rfl, h1, h2, rest⟩
  · exact .inl hn
  · exact .inr ⟨g, cap, cur, rfl, h1, by rw [hk g rfl]; exact h2, rest⟩
theorem OwnN.at {w : World} {base : Nat} {v : Value} {l : List Int} (h : OwnN w base v l) : ∃ ao cap, v = .slice ao l.length cap ∧ IntsAt w ao l ∧ l.length ≤ cap ∧ (∀ a, ao = some a → base ≤ a.block ∧ a.block < w.heap.size) := by
  have hlt := World.ownsRow.lt h
  have hc := fun g hg => World.ownsRow.cells (g := g) h hg
  rcases h.2 with ⟨rfl, h0⟩ | ⟨g, cap, cur, rfl, hb, hg, hnc, _, hcs, ht⟩
  · obtain rfl : l = [] := List.eq_nil_of_length_eq_zero h0
    exact ⟨none, 0, rfl, fun h => absurd rfl h, Nat.le_refl _, fun _ h => by cases h⟩
  · refine ⟨some ⟨g, 0, none⟩, cap, rfl, fun _ => ⟨g, 0, rfl, fun j hj => ?_⟩, hnc, fun a ha => ?_⟩
    · have := hc g rfl j _ (ci_get l j hj)
      rwa [Addr.add_mid] at this
    · cases ha; exact hlt g rfl
theorem OwnN.form {w : World} {base : Nat} {v : Value} {l : List Int} (h : OwnN w base v l) (hn : l ≠ []) : ∃ g cap, v = .slice (some ⟨g, 0, none⟩) l.length cap ∧ base ≤ g ∧ l.length ≤ cap := by
  rcases h.2 with ⟨rfl, h0⟩ | ⟨g, cap, cur, rfl, hb, hg, hnc, _, hcs, ht⟩
  · exact absurd (List.eq_nil_of_length_eq_zero h0) hn
  · exact ⟨g, cap, rfl, hb, hnc⟩
/-- The last count, one more. -/
theorem OwnN.bump {w : World} {base g cap : Nat} {pre : List Int} {y z : Int} {m : Nat} (hm : pre.length = m) (h : OwnN w base (.slice (some ⟨g, 0, none⟩) (m + 1) cap) (pre ++ [y])) :
    w.cell? ⟨g, m, none⟩ = some (.int .i64 y) ∧ w.frozen? ⟨g, m, none⟩ = false ∧ OwnN (w.setCell ⟨g, m, none⟩ (.int .i64 z)) base (.slice (some ⟨g, 0, none⟩) (m + 1) cap) (pre ++ [z]) ∧ w.grownBy (w.setCell ⟨g, m, none⟩ (.int .i64 z)) (some g) := by
  unfold OwnN at h
  have hl : (pre ++ [y]).length = m + 1 := by simp [hm]
  have hl' : (pre ++ [z]).length = m + 1 := by simp [hm]
  rw [hl] at h
  have hci : (ci (pre ++ [y]))[m]? = some (.int .i64 y) := by rw [ci_get _ m (by rw [hl]; omega)]; simp [← hm]
  obtain ⟨h1, h2⟩ := World.ownsRow.stored h m (.int .i64 z)
  refine ⟨by rw [World.ownsRow.cellAt h m (by omega), hci], World.ownsRow.frozenAt h m, ?_, h2⟩
  unfold OwnN
  rw [hl']
  have : (ci (pre ++ [y])).set m (.int .i64 z) = ci (pre ++ [z]) := by
    rw [ci_append, ci_append, List.set_append_right _ _ (by rw [ci_len]; omega)]
    simp [hm, ci]
  rwa [this] at h1
/-- What stands at the end of a list, as often as it does. -/
theorem end_split {α : Type} [DecidableEq α] (b : α) : ∀ (n : Nat) (m : List α), m.length = n → m.getLast? = some b → ∃ m' V, m = m' ++ List.replicate (V + 1) b ∧ (∀ y, m'.getLast? = some y → y ≠ b)
  | 0, m, hn, hl => by obtain rfl := List.eq_nil_of_length_eq_zero hn; simp at hl
  | n + 1, m, hn, hl => by
    have hne : m ≠ [] := by intro h; subst h; simp at hn
    have hm : m = m.dropLast ++ [b] := by
      rw [List.getLast?_eq_some_getLast hne] at hl
      conv => lhs; rw [← List.dropLast_concat_getLast hne]
      rw [Option.some.inj hl]
    by_cases h : m.dropLast.getLast? = some b
    · obtain ⟨m', V, h1, h2⟩ := end_split b n m.dropLast (by rw [List.length_dropLast, hn]; rfl) h
      refine ⟨m', V + 1, ?_, h2⟩
      rw [hm, h1, List.replicate_succ' (n := V + 1)]
      simp
    · exact ⟨m.dropLast, 0, by simpa using hm, fun y hy he => h (by rw [hy, he])⟩
end Go.Proofs.YtgmdolpjkaajfaaGreatDoor
namespace Go.Proofs.YtgmdolpjkaajfaaGreatDoor
open Go.RowKit Leb
set_option maxRecDepth 100000 in
set_option maxHeartbeats 800000 in
theorem refDiffs_any (ao : Option Addr) (cap : Nat) (l : List Int) (hn : l.length ≤ 1048575) (w : World) (hI : IntsAt w ao l) :
    Calls Tryz.prog 129 #[.slice ao l.length cap] w fun e W' => ∃ v, e = .returned v ∧ OwnI W' w.heap.size v (diffs l) ∧ After w W' := by
  have HI : Hid (IntsAt w ao l) := hI
  clear hI
  go_enter Tryz.func129, Tryz.ntmps129
  go_wp2
  go_loopw [3, 4, 5] (fun v t i wr => ∃ (k : Nat) (a : Int), k ≤ l.length ∧ i = .int .i64 k ∧ t = .int .i64 a ∧ Hid (a = prev l k) ∧ Hid (OwnI wr w.heap.size v ((diffs l).take k)) ∧ Hid (After w wr)) (fun _ _ i _ => l.length - (intOf i).toNat)
  case atStart => exact ⟨0, 0, by omega, rfl, rfl, rfl, OwnI.nil _ _, After.refl _⟩
  case round =>
    obtain ⟨k, a, hk, rfl, rfl, HA, HO, HBr⟩ := hrel
    by_cases hlt : k < l.length
    · obtain ⟨b, o, rfl, hc⟩ := HI.out (by intro h; simp [h] at hlt)
      have hck := hc k hlt
      obtain ⟨x, HX, HCK⟩ : ∃ x : Int, Hid (x = l[k]?.getD 0) ∧ Hid (w.cell? ⟨b, o + k, none⟩ = some (.int .i64 x)) := ⟨_, rfl, hck⟩
      have hx : wr.cell? ⟨b, o + k, none⟩ = some (.int .i64 x) := (Below.cell HBr.out (p := ⟨b, o + k, none⟩) (block_lt_of_cell HCK.out)).trans HCK.out
      clear hc hck
      have HZ : Hid (RowKit.wrap64 (x - a) = dif l k) := by unfold Hid dif; rw [HA.out, HX.out]
      have HLN : Hid (((diffs l).take k).length + 1 ≤ 1048576) := by unfold Hid; rw [List.length_take]; omega
      go_wp2_with (at_builtin; refine wpList_append_ints rfl _ _ rfl w.heap.size _ ((diffs l).take k) rfl (OwnI.keep HO.out (fun i hi => (after_alloc (After.refl _) _).block i (World.ownsRow.lt HO.out i hi).2)) ⟨wr.heap.size, 0, none⟩ 1 [RowKit.wrap64 (x - a)] 1 rfl rfl (fun i hi => by obtain rfl : i = 0 := (by simp at hi; omega); exact box_cell _ _ _) (by have := HLN.out; simp only [List.length_cons, List.length_nil]; omega) (by have := HBr.out.size; simp; omega) ?_; intro v6 w6 ho6 hg6; have HO6 : Hid (OwnI w6 w.heap.size v6 ((diffs l).take (k + 1))) := (by unfold Hid; rw [diffs_take l k hlt, ← HZ.out]; exact ho6); have HB6 : Hid (After w w6) := after_grown (after_alloc HBr.out _) hg6 (Nat.le_refl _) (fun k hk => (World.ownsRow.lt HO.out k hk).1); have hx6 : w6.cell? ⟨b, o + k, none⟩ = some (.int .i64 x) := (Below.cell HB6.out (p := ⟨b, o + k, none⟩) (block_lt_of_cell HCK.out)).trans HCK.out; clear ho6 hg6)
      go_roundw
      case rel => exact ⟨k + 1, _, by omega, by go_num, rfl, HX.out, HO6.out, HB6.out⟩
      case measure => simp [intOf]; omega
    · go_wp2
      go_ret
      exact ⟨_, rfl, by have := HO.out; rw [diffs_all l k (by omega)] at this; exact this, HBr.out⟩
end Go.Proofs.YtgmdolpjkaajfaaGreatDoor
namespace Go.Proofs.YtgmdolpjkaajfaaGreatDoor
open Go.RowKit Leb
/-- The cells of runs. -/
def cp (rs : List (Int × Nat)) : List Value := rs.flatMap fun p => [.int .i64 (p.2 : Int), .int .i64 p.1]
theorem cp_len (rs : List (Int × Nat)) : (cp rs).length = rs.length * 2 := by
  induction rs with
  | nil => rfl
  | cons p r ih => simp only [cp, List.flatMap_cons, List.length_append, List.length_cons, List.length_nil] at ih ⊢; omega
theorem cp_append (a b : List (Int × Nat)) : cp (a ++ b) = cp a ++ cp b := by simp [cp]
theorem cp_get0 : ∀ (rs : List (Int × Nat)) (j : Nat) (p : Int × Nat), rs[j]? = some p → (cp rs)[j * 2]? = some (.int .i64 (p.2 : Int)) ∧ (cp rs)[j * 2 + 1]? = some (.int .i64 p.1)
  | [], j, p, h => by simp at h
  | q :: r, 0, p, h => by simp at h; subst h; simp [cp]
  | q :: r, j + 1, p, h => by
    have := cp_get0 r j p (by simpa using h)
    have e : cp (q :: r) = [.int .i64 (q.2 : Int), .int .i64 q.1] ++ cp r := by simp [cp]
    rw [e]
    constructor
    · rw [List.getElem?_append_right (by simp; omega)]
      simpa [show (j + 1) * 2 - 2 = j * 2 by omega] using this.1
    · rw [List.getElem?_append_right (by simp; omega)]
      simpa [show (j + 1) * 2 + 1 - 2 = j * 2 + 1 by omega] using this.2
/-- A row of the call's own that holds runs. -/
def OwnP (w : World) (base : Nat) (v : Value) (rs : List (Int × Nat)) : Prop := w.ownsRow base 153 2 v rs.length (cp rs)
theorem OwnP.nil (w : World) (base : Nat) : OwnP w base (.slice none 0 0) [] := World.ownsRow_nil w base 153 2
theorem OwnP.keep {w w' : World} {B : Nat} {v : Value} {l : List (Int × Nat)} (h : OwnP w B v l) (hk : ∀ k, v.ownBlock = some k → w'.heap[k]? = w.heap[k]?) : OwnP w' B v l := by
  refine ⟨h.1, ?_⟩
  rcases h.2 with hn | ⟨g, cap, cur, rfl, h1, h2, rest⟩
  · exact .inl hn
  · exact .inr ⟨g, cap, cur, rfl, h1, by rw [hk g rfl]; exact h2, rest⟩
theorem OwnP.form {w : World} {base : Nat} {v : Value} {l : List (Int × Nat)} (h : OwnP w base v l) (hn : l ≠ []) : ∃ g cap, v = .slice (some ⟨g, 0, none⟩) l.length cap ∧ base ≤ g ∧ l.length ≤ cap := by
  rcases h.2 with ⟨rfl, h0⟩ | ⟨g, cap, cur, rfl, hb, hg, hnc, _, hcs, ht⟩
  · exact absurd (List.eq_nil_of_length_eq_zero h0) hn
  · exact ⟨g, cap, rfl, hb, hnc⟩
/-- Runs in memory. -/
def PairsAt (w : World) (ao : Option Addr) (rs : List (Int × Nat)) : Prop := rs ≠ [] → ∃ g, ao = some ⟨g, 0, none⟩ ∧ ∀ j p, rs[j]? = some p → w.cell? ⟨g, j * 2, none⟩ = some (.int .i64 (p.2 : Int)) ∧ w.cell? ⟨g, j * 2 + 1, none⟩ = some (.int .i64 p.1)
theorem OwnP.at {w : World} {base : Nat} {v : Value} {l : List (Int × Nat)} (h : OwnP w base v l) : ∃ ao cap, v = .slice ao l.length cap ∧ PairsAt w ao l ∧ (∀ a, ao = some a → base ≤ a.block ∧ a.block < w.heap.size) := by
  have hlt := World.ownsRow.lt h
  by_cases hn : l = []
  · subst hn
    rcases h.2 with ⟨rfl, h0⟩ | ⟨g, cap, cur, rfl, hb, hg, hnc, _, hcs, ht⟩
    · exact ⟨none, 0, rfl, fun h => absurd rfl h, fun _ h => by cases h⟩
    · exact ⟨_, cap, rfl, fun h => absurd rfl h, fun a ha => by cases ha; exact hlt g rfl⟩
  · obtain ⟨g, cap, rfl, hb, hc⟩ := h.form hn
    refine ⟨_, cap, rfl, fun _ => ⟨g, rfl, fun j p hj => ?_⟩, fun a ha => by cases ha; exact hlt g rfl⟩
    have hjl := (List.getElem?_eq_some_iff.1 hj).1
    obtain ⟨h1, h2⟩ := cp_get0 l j p hj
    exact ⟨by rw [World.ownsRow.cellAt h _ (by omega), h1], by rw [World.ownsRow.cellAt h _ (by omega), h2]⟩
theorem info54 : (Tryz.prog.info? 153).map (fun i => (i.zero, i.size, i.bytes)) = some (some (.agg #[.int .i64 0, .int .i64 0]), 2, 16) := by kernel_rfl
/-- append(own, p), p in a block of its own. -/
theorem wpList_append_pair {w : World} {ops : Array Oper} {rest : List Oper} {o : Oper} {a : Act} {Q : Exit → Act → World → Prop} (hgd : o.guard = none) (s x : Operand)
    (ho : o.op = .call { callee := .builtin .append, args := #[s, x], argTypes := #[150, 150] })
    (base : Nat) (v : Value) (l : List (Int × Nat)) (hs : a.eval s = v) (hown : OwnP w base v l)
    (ao : Addr) (c : Nat) (p : Int × Nat) (hx : a.eval x = .slice (some ao) 1 c) (h0 : w.cell? (ao.add 0) = some (.int .i64 (p.2 : Int))) (h1 : w.cell? (ao.add 1) = some (.int .i64 p.1))
    (hbytes : l.length + 1 ≤ 2097152) (hbase : base ≤ w.heap.size)
    (h : ∀ v' w', OwnP w' base v' (l ++ [p]) → w.grownBy w' v.ownBlock → wpList Tryz.prog ops Q rest (a.put o.dst v') w') : wpList Tryz.prog ops Q (o :: rest) a w := by
  obtain ⟨i, hi, hz⟩ := Option.map_eq_some_iff.1 info54
  simp only [Prod.mk.injEq] at hz
  obtain ⟨hz, hsz, hby⟩ := hz
  refine wpList_append_own w hgd s x 150 ho base 153 i (.agg #[.int .i64 0, .int .i64 0]) 2 16 Tryz.underlying150 hi hz hsz hby rfl (by omega) v l.length (cp l) hs hown ao 1 c (cp [p]) hx (by simp [cp]) ?_ ?_ (by unfold maxLen; omega) (by omega) hbase ?_
  · intro j u hu
    match j, hu with
    | 0, hu => simp [cp] at hu; rw [h0, hu]
    | 1, hu => simp [cp] at hu; rw [h1, hu]
    | j + 2, hu => simp [cp] at hu
  · intro u hu
    simp only [cp, List.flatMap_cons, List.flatMap_nil, List.append_nil, List.mem_cons, List.not_mem_nil, or_false] at hu
    rcases hu with rfl | rfl <;> rfl
  · intro v' w' h1 h2 _
    exact h v' w' (by unfold OwnP; rw [cp_append, List.length_append]; exact h1) h2
theorem runs_same (m : List Int) (b : Int) (hl : m.getLast? = some b) : ∃ pre V, runs m = pre ++ [(b, V)] ∧ runs (m ++ [b]) = pre ++ [(b, V + 1)] := by
  obtain ⟨m', V, rfl, h⟩ := end_split b _ m rfl hl
  have e : m' ++ List.replicate (V + 1) b ++ [b] = m' ++ List.replicate (V + 1 + 1) b := by rw [List.append_assoc, ← List.replicate_succ']
  exact ⟨runs m', V + 1, runs_snoc b V m' h, by rw [e]; exact runs_snoc b (V + 1) m' h⟩
theorem runs_other (m : List Int) (b : Int) (hl : ∀ c, m.getLast? = some c → c ≠ b) : runs (m ++ [b]) = runs m ++ [(b, 1)] := by
  simpa using runs_snoc b 0 m hl
/-- The last run, one more. -/
theorem OwnP.bump {w : World} {base g cap : Nat} {pre : List (Int × Nat)} {b : Int} {V : Nat} {m : Nat} (hm : pre.length = m) (h : OwnP w base (.slice (some ⟨g, 0, none⟩) (m + 1) cap) (pre ++ [(b, V)])) :
    w.cell? ⟨g, m * 2, none⟩ = some (.int .i64 (V : Int)) ∧ w.frozen? ⟨g, m * 2, none⟩ = false ∧ OwnP (w.setCell ⟨g, m * 2, none⟩ (.int .i64 ((V : Int) + 1))) base (.slice (some ⟨g, 0, none⟩) (m + 1) cap) (pre ++ [(b, V + 1)]) ∧ w.grownBy (w.setCell ⟨g, m * 2, none⟩ (.int .i64 ((V : Int) + 1))) (some g) := by
  unfold OwnP at h
  have hl : (pre ++ [(b, V)]).length = m + 1 := by simp [hm]
  have hl' : (pre ++ [(b, V + 1)]).length = m + 1 := by simp [hm]
  rw [hl] at h
  have hci := (cp_get0 (pre ++ [(b, V)]) m (b, V) (by simp [← hm])).1
  obtain ⟨h1, h2⟩ := World.ownsRow.stored h (m * 2) (.int .i64 ((V : Int) + 1))
  refine ⟨by rw [World.ownsRow.cellAt h _ (by omega), hci], World.ownsRow.frozenAt h _, ?_, h2⟩
  unfold OwnP
  rw [hl']
  have : (cp (pre ++ [(b, V)])).set (m * 2) (.int .i64 ((V : Int) + 1)) = cp (pre ++ [(b, V + 1)]) := by
    rw [cp_append, cp_append, List.set_append_right _ _ (by rw [cp_len]; omega), cp_len, hm]
    simp [cp]
  rwa [this] at h1
theorem take_snocI (l : List Int) (k : Nat) (hk : k < l.length) : l.take (k + 1) = l.take k ++ [l[k]?.getD 0] := by
  rw [List.take_add_one, List.getElem?_eq_getElem hk]; rfl
theorem take_last (l : List Int) (k : Nat) (h0 : k ≠ 0) (hk : k ≤ l.length) : (l.take k).getLast? = some (l[k - 1]?.getD 0) := by
  obtain ⟨m, rfl⟩ : ∃ m, k = m + 1 := ⟨k - 1, by omega⟩
  rw [take_snocI l m (by omega)]
  simp
theorem two_cells (w : World) (t : TypeId) (a b : Value) : (w.alloc (.cells #[a, b] t)).cell? ((⟨w.heap.size, 0, none⟩ : Addr).add 0) = some a ∧ (w.alloc (.cells #[a, b] t)).cell? ((⟨w.heap.size, 0, none⟩ : Addr).add 1) = some b := by
  have h : RowIs (w.alloc (.cells #[a, b] t)) w.heap.size t [a, b] := RowIs.new w t [a, b]
  rw [Addr.add_mid, Addr.add_mid]
  exact ⟨h.cell rfl, h.cell rfl⟩
set_option maxRecDepth 100000 in
set_option maxHeartbeats 1600000 in
theorem split_any (ao : Option Addr) (cap : Nat) (l : List Int) (hn : l.length ≤ 1048576) (w : World) (hI : IntsAt w ao l) :
    Calls Tryz.prog 127 #[.slice ao l.length cap] w fun e W' => ∃ v, e = .returned v ∧ OwnP W' w.heap.size v (runs l) ∧ After w W' := by
  have HI : Hid (IntsAt w ao l) := hI
  clear hI
  go_enter Tryz.func127, Tryz.ntmps127
  go_wp2
  go_loopw [3, 4] (fun v i wr => ∃ (k : Nat), k ≤ l.length ∧ i = .int .i64 k ∧ Hid (OwnP wr w.heap.size v (runs (l.take k))) ∧ Hid (After w wr)) (fun _ i _ => l.length - (intOf i).toNat)
  case atStart => exact ⟨0, by omega, rfl, OwnP.nil _ _, After.refl _⟩
  case round =>
    obtain ⟨k, hk, rfl, HO, HBr⟩ := hrel
    by_cases hlt : k < l.length
    · obtain ⟨b, o, rfl, hc⟩ := HI.out (by intro h; simp [h] at hlt)
      have hck := hc k hlt
      obtain ⟨x, HX, HCK⟩ : ∃ x : Int, Hid (x = l[k]?.getD 0) ∧ Hid (w.cell? ⟨b, o + k, none⟩ = some (.int .i64 x)) := ⟨_, rfl, hck⟩
      have hx : wr.cell? ⟨b, o + k, none⟩ = some (.int .i64 x) := (Below.cell HBr.out (p := ⟨b, o + k, none⟩) (block_lt_of_cell HCK.out)).trans HCK.out
      have HRL : Hid ((runs (l.take k)).length ≤ 1048576) := (by unfold Hid; have := runs_len (l.take k); rw [List.length_take] at this; omega)
      by_cases hk0 : k = 0
      · subst hk0
        clear hc hck
        rw [Nat.add_zero] at hx
        have HN : Hid (runs (l.take (0 + 1)) = runs (l.take 0) ++ [(x, 1)]) := (by unfold Hid; rw [take_snocI l 0 hlt, ← HX.out]; rfl)
        go_wp2
        go_region
        go_wp2_with (at_builtin; refine wpList_append_pair rfl _ _ rfl w.heap.size _ (runs (l.take 0)) rfl (OwnP.keep HO.out (fun i hi => (after_alloc (After.drew (After.refl wr)) _).block i (World.ownsRow.lt HO.out i hi).2)) ⟨wr.drew.heap.size, 0, none⟩ 1 (x, 1) rfl (two_cells _ _ _ _).1 (two_cells _ _ _ _).2 (by have := HRL.out; omega) (by have := HBr.out.size; simp; omega) ?_; intro v6 w6 ho6 hg6; have HO6 : Hid (OwnP w6 w.heap.size v6 (runs (l.take 0) ++ [(x, 1)])) := ho6; have HB6 : Hid (After w w6) := after_grown (after_alloc HBr.out.drew _) hg6 (Nat.le_refl _) (fun k hk => (World.ownsRow.lt HO.out k hk).1); clear ho6 hg6)
        go_roundw
        case rel => exact ⟨0 + 1, by omega, by go_num, by unfold Hid; rw [HN.out]; exact HO6.out, HB6.out⟩
        case measure => simp [intOf]; omega
      · obtain ⟨j, rfl⟩ : ∃ j, k = j + 1 := ⟨k - 1, by omega⟩
        have hcj := hc j (by omega)
        obtain ⟨y, HY, HCJ⟩ : ∃ y : Int, Hid (y = l[j]?.getD 0) ∧ Hid (w.cell? ⟨b, o + j, none⟩ = some (.int .i64 y)) := ⟨_, rfl, hcj⟩
        have hy : wr.cell? ⟨b, o + j, none⟩ = some (.int .i64 y) := (Below.cell HBr.out (p := ⟨b, o + j, none⟩) (block_lt_of_cell HCJ.out)).trans HCJ.out
        clear hc hck hcj
        have HLS : Hid ((l.take (j + 1)).getLast? = some y) := (by unfold Hid; rw [take_last l (j + 1) (by omega) hk, HY.out]; rfl)
        by_cases hxy : x = y
        · subst hxy
          obtain ⟨pre, V, hp1, hp2⟩ := runs_same _ _ HLS.out
          have hV : V ≤ 1048576 := (by have := runs_many (l.take (j + 1)) (x, V) (by rw [hp1]; simp); rw [List.length_take] at this; simp only at this; omega)
          have HN : Hid (runs (l.take (j + 1 + 1)) = pre ++ [(x, V + 1)]) := (by unfold Hid; rw [take_snocI l (j + 1) hlt, ← HX.out, hp2])
          rw [hp1] at HO HRL
          obtain ⟨m, hm⟩ : ∃ m, pre.length = m := ⟨_, rfl⟩
          have HM : Hid (pre.length = m) := hm
          have hmb : m ≤ 1048577 := (by have := HRL.out; simp at this; omega)
          obtain ⟨g6, c6, hv6, hbg6, hc6⟩ := OwnP.form HO.out (by simp)
          rw [List.length_append, HM.out] at hv6
          simp only [List.length_cons, List.length_nil] at hv6
          subst hv6
          obtain ⟨hy6, hf6, _, _⟩ := OwnP.bump HM.out HO.out
          obtain ⟨_, _, ho8, hg8⟩ := OwnP.bump (w := wr.drew) HM.out (show OwnP wr.drew _ _ _ from HO.out)
          have HO8 := show Hid _ from ho8
          have HG8 := show Hid _ from hg8
          clear ho8 hg8 hp1 hp2 hm hc6
          go_wp2
          go_region
          go_wp2
          go_roundw
          case rel => exact ⟨j + 1 + 1, by omega, by go_num, by unfold Hid; rw [HN.out]; exact HO8.out, after_grown HBr.out.drew HG8.out (Nat.le_refl _) (fun k hk => by cases hk; exact hbg6)⟩
          case measure => simp [intOf]; omega
        · have HN : Hid (runs (l.take (j + 1 + 1)) = runs (l.take (j + 1)) ++ [(x, 1)]) := (by unfold Hid; rw [take_snocI l (j + 1) hlt, ← HX.out, runs_other _ _ (fun c hc he => hxy (by rw [HLS.out] at hc; rw [← he]; exact (Option.some.inj hc).symm))])
          go_wp2
          go_region
          go_wp2_with (at_builtin; refine wpList_append_pair rfl _ _ rfl w.heap.size _ (runs (l.take (j + 1))) rfl (OwnP.keep HO.out (fun i hi => (after_alloc (After.drew (After.refl wr)) _).block i (World.ownsRow.lt HO.out i hi).2)) ⟨wr.drew.heap.size, 0, none⟩ 1 (x, 1) rfl (two_cells _ _ _ _).1 (two_cells _ _ _ _).2 (by have := HRL.out; omega) (by have := HBr.out.size; simp; omega) ?_; intro v6 w6 ho6 hg6; have HO6 : Hid (OwnP w6 w.heap.size v6 (runs (l.take (j + 1)) ++ [(x, 1)])) := ho6; have HB6 : Hid (After w w6) := after_grown (after_alloc HBr.out.drew _) hg6 (Nat.le_refl _) (fun k hk => (World.ownsRow.lt HO.out k hk).1); clear ho6 hg6)
          go_roundw
          case rel => exact ⟨j + 1 + 1, by omega, by go_num, by unfold Hid; rw [HN.out]; exact HO6.out, HB6.out⟩
          case measure => simp [intOf]; omega
    · go_wp2
      go_ret
      exact ⟨_, rfl, by have := HO.out; rwa [List.take_of_length_le (by omega)] at this, HBr.out⟩
end Go.Proofs.YtgmdolpjkaajfaaGreatDoor
namespace Go.Proofs.YtgmdolpjkaajfaaGreatDoor
open Go.RowKit Leb
section
variable {o : Oper} {a : Act} {x y : Operand} {w : World}
theorem laidI_most : ∀ rs : List (Int × Nat), (∀ p ∈ rs, -9223372036854775808 ≤ p.1 ∧ p.1 ≤ 9223372036854775807 ∧ p.2 ≤ 1048576) → (laidI rs).length ≤ 20 * rs.length
  | [], _ => by simp [laidI]
  | p :: rs, h => by
    have ih := laidI_most rs (fun q hq => h q (by simp [hq]))
    have hp := h p (by simp)
    have h3 := uintB_len10 p.2 (by omega)
    have h4 := intB_len10 p.1 hp.1 hp.2.1
    have e : (laidI (p :: rs)).length = (uintB p.2).length + (intB p.1).length + (laidI rs).length := by simp [laidI]; omega
    rw [e, List.length_cons]
    omega
theorem runsB_len (l : List Int) (hl : ∀ x ∈ l, -9223372036854775808 ≤ x ∧ x ≤ 9223372036854775807) (hn : l.length ≤ 1048575) : (runsB l).length ≤ 30000000 := by
  have h1 := runs_len l
  have h2 := uintB_len10 (runs l).length (by omega)
  have h3 := laidI_most (runs l) (fun p hp => ⟨(hl _ (runs_mem l p hp)).1, (hl _ (runs_mem l p hp)).2, by have := runs_many l p hp; omega⟩)
  have e : (runsB l).length = (uintB (runs l).length).length + (laidI (runs l)).length := by simp [runsB]
  omega
theorem x_index51 {g n c j : Nat} (hop : o.op = .indexAddr 150 x y) (hx : a.eval x = .slice (some ⟨g, 0, none⟩) n c) (hy : a.eval y = .int .i64 (j : Int)) (hj : j < n) : (execOp a.eval o).run Tryz.prog w = .ok (.value (.pointer (some ⟨g, j * 2, none⟩))) w := by
  obtain ⟨i, hi, hz⟩ := Option.map_eq_some_iff.1 info54
  simp only [Prod.mk.injEq] at hz
  unfold execOp
  simp only [hop, hx, hy]
  simp [go_sem, hi, hz.2.1, hj, sizeOf, typeInfo, Addr.add]
  omega
theorem x_field0 {g p : Nat} (hop : o.op = .fieldAddr 153 x 0) (hx : a.eval x = .pointer (some ⟨g, p, none⟩)) : (execOp a.eval o).run Tryz.prog w = .ok (.value (.pointer (some ⟨g, p, none⟩))) w := by
  unfold execOp
  simp only [hop, hx]
  simp [go_sem]
theorem x_field1 {g p : Nat} (hop : o.op = .fieldAddr 153 x 1) (hx : a.eval x = .pointer (some ⟨g, p, none⟩)) : (execOp a.eval o).run Tryz.prog w = .ok (.value (.pointer (some ⟨g, p + 1, none⟩))) w := by
  unfold execOp
  simp only [hop, hx]
  simp [go_sem]
theorem x_load3 {g p : Nat} {z : Int} (hop : o.op = .load 3 x) (hx : a.eval x = .pointer (some ⟨g, p, none⟩)) (hc : w.cell? ⟨g, p, none⟩ = some (.int .i64 z)) : (execOp a.eval o).run Tryz.prog w = .ok (.value (.int .i64 z)) w := by
  unfold execOp
  simp only [hop, hx]
  simp [go_sem, hc]
theorem x_load2 {g p : Nat} {z : Int} (hop : o.op = .load 2 x) (hx : a.eval x = .pointer (some ⟨g, p, none⟩)) (hc : w.cell? ⟨g, p, none⟩ = some (.int .i64 z)) : (execOp a.eval o).run Tryz.prog w = .ok (.value (.int .i64 z)) w := by
  unfold execOp
  simp only [hop, hx]
  simp [go_sem, hc]
theorem x_conv349 {n : Nat} (hop : o.op = .convert 3 69 x) (hx : a.eval x = .int .i64 (n : Int)) (hn : n ≤ 2097152) : (execOp a.eval o).run Tryz.prog w = .ok (.value (.int .u64 (n : Int))) w := by
  have e : IntKind.u64.wrap (n : Int) = n := by show (n : Int) % 18446744073709551616 = n; omega
  unfold execOp
  simp only [hop, hx]
  simp [go_sem, e]
end
section
variable {ops : Array Oper} {Q : Exit → Act → World → Prop} {fuel : Nat} {listed : Array Bool} {a : Act} {w W : World} {oi : Oper}
/-- Number i, which alone may come up, is a call, by its contract; what was kept is kept. -/
theorem tkCallK (i d : Nat) (f : FuncId) (args : Array Value) (R : Value → World → Prop) (hi : ops[i]? = some oi) (hd : oi.dst = some d) (hr : Region.ready .any ops listed = [i])
    (hw : Region.wanted oi (yielded ops a.tmps) = true) (hrun : ∀ w, (execOp a.eval oi).run Tryz.prog w = .ok (.enter f args) w) (hS : After W w)
    (hc : Calls Tryz.prog f args w fun e w' => ∃ v, e = .returned v ∧ R v w' ∧ After w w')
    (h : ∀ v w', R v w' → After w w' → After W w' → wpAnyH Tryz.prog .any ops Q (After W) fuel (listed.setIfInBounds i true) (a.put (some d) v) w') : wpAnyH Tryz.prog .any ops Q (After W) (fuel + 1) listed a w :=
  wpAnyH_all hr (by simp) (fun j hj => by
    obtain rfl : j = i := by simpa using hj
    refine wpOp_step hi (fun K' hK => ?_)
    rw [if_pos hw]
    unfold Oper.wp
    rw [hrun, Oper.upon_enter]
    refine hc.mono (fun e w' ⟨v, he, hr, hb⟩ => ?_)
    subst he
    rw [hd]
    exact hK _ _ ⟨hS.trans hb, h v w' hr hb (hS.trans hb)⟩)
/-- Number i, which alone may come up, appends bytes to an own row. -/
theorem tkApp (i d : Nat) (s x : Operand) (hi : ops[i]? = some oi) (hd : oi.dst = some d) (hr : Region.ready .any ops listed = [i])
    (hw : Region.wanted oi (yielded ops a.tmps) = true) (hop : oi.op = .call { callee := .builtin .append, args := #[s, x], argTypes := #[32, 32] })
    (v : Value) (bs : List UInt8) (hs : a.eval s = v) (hown : Own w W.heap.size v bs)
    (ao : Option Addr) (c : Nat) (news : List UInt8) (k : Nat) (hk : news.length = k) (hx : a.eval x = .slice ao k c) (hnews : BytesAt w ao news)
    (hbytes : bs.length + news.length ≤ 140737488355328) (hS : After W w)
    (h : ∀ v' w', Own w' W.heap.size v' (bs ++ news) → After W w' → w.grownBy w' v.ownBlock → wpAnyH Tryz.prog .any ops Q (After W) fuel (listed.setIfInBounds i true) (a.put (some d) v') w') : wpAnyH Tryz.prog .any ops Q (After W) (fuel + 1) listed a w := by
  obtain ⟨v', w', h1, h2, h3⟩ := run_append_any w oi.type W.heap.size v bs hown ao c news k hk hnews hbytes hS.size
  have hA : After W w' := after_grown hS h3 (Nat.le_refl _) (fun k hk => (World.ownsRow.lt hown k hk).1)
  refine wpAnyH_all hr (by simp) (fun j hj => ?_)
  obtain rfl : j = i := by simpa using hj
  refine wpOp_step hi (fun K' hK => ?_)
  rw [if_pos hw]
  unfold Oper.wp
  have hrun : (execOp a.eval oi).run Tryz.prog w = .ok (.value v') w' := by simp [execOp, hop, resolve, invoke, builtin, hs, hx, h1, Result.andThen]
  rw [hrun]
  show K' (a.put oi.dst v') w'
  rw [hd]
  exact hK _ _ ⟨hA, h v' w' h2 hA h3⟩
end
theorem laidI_snoc2 (rs : List (Int × Nat)) (p : Int × Nat) : laidI (rs ++ [p]) = laidI rs ++ uintB p.2 ++ intB p.1 := by simp [laidI]
theorem laidI_app2 (a b : List (Int × Nat)) : laidI (a ++ b) = laidI a ++ laidI b := by simp [laidI]
set_option maxRecDepth 100000 in
set_option maxHeartbeats 1600000 in
theorem putRuns_any (ao : Option Addr) (cap : Nat) (l : List Int) (hl : ∀ x ∈ l, -9223372036854775808 ≤ x ∧ x ≤ 9223372036854775807) (hn : l.length ≤ 1048575) (w : World) (hI : IntsAt w ao l) :
    Calls Tryz.prog 94 #[.slice ao l.length cap] w fun e W' => ∃ v, e = .returned v ∧ Own W' w.heap.size v (runsB l) ∧ After w W' := by
  have HI : Hid (IntsAt w ao l) := hI
  have HBL : Hid ((runsB l).length ≤ 30000000) := runsB_len l hl hn
  have hrl := runs_len l
  have HRM : Hid (∀ p ∈ runs l, -9223372036854775808 ≤ p.1 ∧ p.1 ≤ 9223372036854775807 ∧ p.2 ≤ l.length) := fun p hp => ⟨(hl _ (runs_mem l p hp)).1, (hl _ (runs_mem l p hp)).2, runs_many l p hp⟩
  obtain ⟨F, hF⟩ : ∃ F, runs l = F := ⟨_, rfl⟩
  obtain ⟨N, hN⟩ : ∃ N, F.length = N := ⟨_, rfl⟩
  have HRB : Hid (runsB l = uintB N ++ laidI F) := (by unfold Hid runsB; rw [hF, hN])
  have C28 := show Hid _ from split_any ao cap l (by omega) w hI
  rw [hF] at HRM C28 hrl
  rw [hN] at hrl
  have HN : Hid (F.length = N) := hN
  clear hI hl hF hN
  go_enter Tryz.func94, Tryz.ntmps94
  go_wp2_with (first
    | (go_at_call 127; refine Calls.mono C28.out ?_; rintro e wm ⟨v, rfl, ho, hb⟩; obtain ⟨va, vc, hv, hpa, hva⟩ := OwnP.at ho; rw [HN.out] at hv; subst hv; have HPA : Hid (PairsAt wm va F) := hpa; have HVA : Hid (∀ a, va = some a → w.heap.size ≤ a.block ∧ a.block < wm.heap.size) := hva; have HBM : Hid (After w wm) := hb; clear ho hb hpa hva)
    | (go_at_call 59; refine (ruint_any N (by omega) _).mono ?_; rintro e w1 ⟨v1, rfl, ho1, hb1⟩; have HO1 : Hid (Own w1 wm.heap.size v1 (uintB N)) := ho1; have HB1 : Hid (After wm w1) := hb1; clear ho1 hb1))
  go_loopw [4, 5] (fun v i ws => ∃ j : Nat, j ≤ N ∧ i = .int .i64 j ∧ Hid (Own ws wm.heap.size v (uintB N ++ laidI (F.take j))) ∧ Hid (After wm ws)) (fun _ i _ => N - (intOf i).toNat)
  case atStart => exact ⟨0, by omega, rfl, by unfold Hid; simpa [laidI] using HO1.out, HB1.out⟩
  case round =>
    obtain ⟨j, hj, rfl, HOr, HAr⟩ := hrel
    by_cases hjl : j < N
    · have hjF : j < F.length := (by rw [HN.out]; exact hjl)
      obtain ⟨g2, rfl, hc2⟩ := HPA.out (by intro h; have := congrArg List.length h; rw [HN.out, List.length_nil] at this; omega)
      obtain ⟨p, hp⟩ : ∃ p, F[j]? = some p := ⟨_, List.getElem?_eq_getElem hjF⟩
      obtain ⟨x, m⟩ := p
      obtain ⟨hcm, hcx⟩ := hc2 j _ hp
      have hpm := HRM.out _ (List.mem_of_getElem? hp)
      simp only at hcm hcx hpm
      have HT : Hid (uintB N ++ laidI (F.take (j + 1)) = (uintB N ++ laidI (F.take j)) ++ uintB m ++ intB x) := (by unfold Hid; rw [List.take_add_one, hp, Option.toList_some, laidI_snoc2]; simp)
      have HLL : Hid ((uintB N ++ laidI (F.take j)).length ≤ 30000000) := (by
        unfold Hid
        have h1 := HBL.out
        rw [HRB.out, ← List.take_append_drop j F, laidI_app2] at h1
        simp only [List.length_append] at h1 ⊢
        omega)
      obtain ⟨T, HTT⟩ : ∃ T, Hid (uintB N ++ laidI (F.take j) = T) := ⟨_, rfl⟩
      rw [HTT.out] at HT HLL HOr
      have h10 := uintB_len10 m (by omega)
      have h11 := intB_len10 x hpm.1 hpm.2.1
      obtain ⟨vr, hvr⟩ : ∃ v, Own wr wm.heap.size v T := ⟨_, HOr.out⟩
      have HAm : ∀ W, After wm W → W.cell? ⟨g2, j * 2, none⟩ = some (.int .i64 (m : Int)) := fun W hW => (Below.cell hW (p := ⟨g2, j * 2, none⟩) (block_lt_of_cell hcm)).trans hcm
      have HAx : ∀ W, After wm W → W.cell? ⟨g2, j * 2 + 1, none⟩ = some (.int .i64 x) := fun W hW => (Below.cell hW (p := ⟨g2, j * 2 + 1, none⟩) (block_lt_of_cell hcx)).trans hcx
      have H1 := show Hid _ from HAm
      have H2 := show Hid _ from HAx
      have H3 := show Hid _ from hpm
      have H4 := show Hid _ from h10
      have H5 := show Hid _ from h11
      clear HAm HAx hpm h10 h11 hcm hcx hp hc2 hvr hjF
      go_wp2
      refine wp_region_noPanic ?_
      refine wp_region_held_drew (S := After wm) (by kernel_rfl) (After.drew HAr.out) ?_
      intro hS0
      have HO0 : Own wr.drew wm.heap.size _ T := HOr.out
      clear vr
      refine tk 0 18 (u4) (fuel := 16) rfl (by kernel_rfl) (by kernel_rfl) (by kernel_rfl) (by kernel_rfl) noPanic_false (by kernel_rfl) (fun _ _ => by kernel_rfl) hS0 ?_
      refine tk 1 19 (.slice (some ⟨g2, 0, none⟩) N vc) (fuel := 15) rfl (by kernel_rfl) (by kernel_rfl) (by kernel_rfl) (by kernel_rfl) noPanic_false (by kernel_rfl) (fun _ _ => by kernel_rfl) hS0 ?_
      refine tk 2 20 (.int .i64 (j : Int)) (fuel := 14) rfl (by kernel_rfl) (by kernel_rfl) (by kernel_rfl) (by kernel_rfl) noPanic_false (by kernel_rfl) (fun _ _ => by kernel_rfl) hS0 ?_
      refine tk 3 21 (.pointer (some ⟨g2, j * 2, none⟩)) (fuel := 13) rfl (by kernel_rfl) (by kernel_rfl) (by kernel_rfl) (by kernel_rfl) noPanic_false (by kernel_rfl) (fun _ _ => x_index51 (x := .tmp 19) (y := .tmp 20) (g := g2) (n := N) (c := vc) (j := j) (by kernel_rfl) (by kernel_rfl) (by kernel_rfl) hjl) hS0 ?_
      refine tk 4 22 (.pointer (some ⟨g2, j * 2, none⟩)) (fuel := 12) rfl (by kernel_rfl) (by kernel_rfl) (by kernel_rfl) (by kernel_rfl) noPanic_false (by kernel_rfl) (fun _ _ => x_field0 (x := .tmp 21) (g := g2) (p := j * 2) (by kernel_rfl) (by kernel_rfl)) hS0 ?_
      refine tk 5 23 (.int .i64 (m : Int)) (fuel := 11) rfl (by kernel_rfl) (by kernel_rfl) (by kernel_rfl) (by kernel_rfl) noPanic_false (by kernel_rfl) (fun W hW => x_load3 (x := .tmp 22) (g := g2) (p := j * 2) (by kernel_rfl) (by kernel_rfl) (H1.out W hW)) hS0 ?_
      refine tk 6 24 (.int .u64 (m : Int)) (fuel := 10) rfl (by kernel_rfl) (by kernel_rfl) (by kernel_rfl) (by kernel_rfl) noPanic_false (by kernel_rfl) (fun _ _ => x_conv349 (x := .tmp 23) (n := m) (by kernel_rfl) (by kernel_rfl) (by have := H3.out.2.2; omega)) hS0 ?_
      refine tk 9 27 (.slice (some ⟨g2, 0, none⟩) N vc) (fuel := 9) rfl (by kernel_rfl) (by kernel_rfl) (by kernel_rfl) (by kernel_rfl) noPanic_false (by kernel_rfl) (fun _ _ => by kernel_rfl) hS0 ?_
      refine tk 10 28 (.int .i64 (j : Int)) (fuel := 8) rfl (by kernel_rfl) (by kernel_rfl) (by kernel_rfl) (by kernel_rfl) noPanic_false (by kernel_rfl) (fun _ _ => by kernel_rfl) hS0 ?_
      refine tk 11 29 (.pointer (some ⟨g2, j * 2, none⟩)) (fuel := 7) rfl (by kernel_rfl) (by kernel_rfl) (by kernel_rfl) (by kernel_rfl) noPanic_false (by kernel_rfl) (fun _ _ => x_index51 (x := .tmp 27) (y := .tmp 28) (g := g2) (n := N) (c := vc) (j := j) (by kernel_rfl) (by kernel_rfl) (by kernel_rfl) hjl) hS0 ?_
      refine tk 12 30 (.pointer (some ⟨g2, j * 2 + 1, none⟩)) (fuel := 6) rfl (by kernel_rfl) (by kernel_rfl) (by kernel_rfl) (by kernel_rfl) noPanic_false (by kernel_rfl) (fun _ _ => x_field1 (x := .tmp 29) (g := g2) (p := j * 2) (by kernel_rfl) (by kernel_rfl)) hS0 ?_
      refine tk 13 31 (.int .i64 x) (fuel := 5) rfl (by kernel_rfl) (by kernel_rfl) (by kernel_rfl) (by kernel_rfl) noPanic_false (by kernel_rfl) (fun W hW => x_load2 (x := .tmp 30) (g := g2) (p := j * 2 + 1) (by kernel_rfl) (by kernel_rfl) (H2.out W hW)) hS0 ?_
      refine tkCallK 7 25 59 #[.int .u64 (m : Int)] _ (fuel := 4) rfl (by kernel_rfl) (by kernel_rfl) (by kernel_rfl) (fun _ => by kernel_rfl) hS0 (ruint_any m (by have := H3.out.2.2; omega) _) ?_
      intro v2 w2 r2 s2 t2
      obtain ⟨a2, c2, hv2, hat2, _, _⟩ := Own.at r2
      subst hv2
      have ho2 : Own w2 wm.heap.size _ T := Own.below HO0 s2 (Nat.le_refl _)
      refine tkApp 8 26 (.tmp 18) (.tmp 25) (fuel := 3) rfl (by kernel_rfl) (by kernel_rfl) (by kernel_rfl) (by kernel_rfl) _ T (by kernel_rfl) ho2 a2 c2 (uintB m) _ rfl (by kernel_rfl) hat2 (by have := HLL.out; have := H4.out; omega) t2 ?_
      intro v3 w3 ho3 t3 _
      refine tkCallK 14 32 128 #[.int .i64 x] _ (fuel := 2) rfl (by kernel_rfl) (by kernel_rfl) (by kernel_rfl) (fun _ => by kernel_rfl) t3 (rint_any x H3.out.1 H3.out.2.1 _) ?_
      intro v4 w4 r4 s4 t4
      obtain ⟨a4, c4, hv4, hat4, _, _⟩ := Own.at r4
      subst hv4
      have ho4 : Own w4 wm.heap.size v3 (T ++ uintB m) := Own.below ho3 s4 (Nat.le_refl _)
      refine tkApp 15 33 (.tmp 26) (.tmp 32) (fuel := 1) rfl (by kernel_rfl) (by kernel_rfl) (by kernel_rfl) (by kernel_rfl) _ (T ++ uintB m) (by kernel_rfl) ho4 a4 c4 (intB x) _ rfl (by kernel_rfl) hat4 (by have := HLL.out; have := H4.out; have := H5.out; rw [List.length_append]; omega) t4 ?_
      intro v5 w5 ho5 t5 _
      refine tk 16 4 (v5) (fuel := 0) rfl (by kernel_rfl) (by kernel_rfl) (by kernel_rfl) (by kernel_rfl) noPanic_false (by kernel_rfl) (fun _ _ => by kernel_rfl) t5 ?_
      refine wpAnyH_done (by kernel_rfl) (NoPanic.normal ?_) _
      go_simp
      have HO5 : Hid (Own w5 wm.heap.size v5 (T ++ uintB m ++ intB x)) := ho5
      have HB5 : Hid (After wm w5) := t5
      clear ho5 t5 ho4 ho3 ho2 HO0 hat2 hat4 r2 r4
      go_wp2
      go_roundw
      case rel => exact ⟨j + 1, by omega, by go_num, by unfold Hid; rw [HT.out]; exact HO5.out, HB5.out⟩
      case measure => simp [intOf]; omega
    · obtain rfl : j = N := by omega
      go_wp2
      go_ret
      refine ⟨_, rfl, ?_, After.trans HBM.out HAr.out⟩
      rw [HRB.out]
      have := HOr.out
      rw [← HN.out, List.take_length, HN.out] at this
      exact Own.mono this HBM.out.size
set_option maxRecDepth 100000 in
theorem putDeltas_any (ao : Option Addr) (cap : Nat) (l : List Int) (hn : l.length ≤ 1048575) (w : World) (hI : IntsAt w ao l) :
    Calls Tryz.prog 95 #[.slice ao l.length cap] w fun e W' => ∃ v, e = .returned v ∧ Own W' w.heap.size v (runsB (diffs l)) ∧ After w W' := by
  have C31 := show Hid _ from refDiffs_any ao cap l hn w hI
  have HDL : Hid ((diffs l).length = l.length) := diffs_len l
  clear hI
  go_enter Tryz.func95, Tryz.ntmps95
  go_wp2_with (first
    | (go_at_call 129; refine Calls.mono C31.out ?_; rintro e w1 ⟨v1, rfl, ho1, hb1⟩; obtain ⟨a1, c1, hv1, hat1, _, _⟩ := OwnI.at ho1; subst hv1; have HT1 : Hid (IntsAt w1 a1 (diffs l)) := hat1; have B1 : Hid (After w w1) := hb1; clear ho1 hb1 hat1)
    | (go_at_call 94; refine (putRuns_any a1 c1 (diffs l) (diffs_int l) (by rw [HDL.out]; exact hn) w1 HT1.out).mono ?_; rintro e w2 ⟨v2, rfl, ho2, hb2⟩; have HO2 : Hid (Own w2 w1.heap.size v2 (runsB (diffs l))) := ho2; have B2 : Hid (After w1 w2) := hb2; clear ho2 hb2))
  go_ret
  exact ⟨_, rfl, Own.mono HO2.out B1.out.size, After.trans B1.out B2.out⟩
end Go.Proofs.YtgmdolpjkaajfaaGreatDoor
