/-
  THE WALK OF ref.Split.
-/
import Derived.Test.YtpplnomomcdemaaPutKit
namespace Go.Proofs.Ytpplnomomcdemaa
open Go.RowKit Leb
/-- The cells of runs. -/
def cp (rs : List (Int × Nat)) : List Value := rs.flatMap fun p => [.int .i64 (p.2 : Int), .int .i64 p.1]
theorem cp_len (rs : List (Int × Nat)) : (cp rs).length = rs.length * 2 := by
  induction rs with
  | nil => rfl
  | cons p r ih => simp only [cp, List.flatMap_cons, List.length_append, List.length_cons, List.length_nil] at ih ⊢; omega
theorem cp_append (a b : List (Int × Nat)) : cp (a ++ b) = cp a ++ cp b := by simp [cp]
theorem cp_get0 : ∀ (rs : List (Int × Nat)) (j : Nat) (p : Int × Nat), rs[j]? = some p → (cp rs)[j * 2]? = some (.int .i64 (p.2 : Int)) ∧ (cp rs)[j * 2 + 1]? = some (.int .i64 p.1)
  | [], j, p, h => by simp at h
  | q :: r, 0, p, h => by simp at h; subst h; simp [cp]
  | q :: r, j + 1, p, h => by
    have := cp_get0 r j p (by simpa using h)
    have e : cp (q :: r) = [.int .i64 (q.2 : Int), .int .i64 q.1] ++ cp r := by simp [cp]
    rw [e]
    constructor
    · rw [List.getElem?_append_right (by simp; omega)]
      simpa [show (j + 1) * 2 - 2 = j * 2 by omega] using this.1
    · rw [List.getElem?_append_right (by simp; omega)]
      simpa [show (j + 1) * 2 + 1 - 2 = j * 2 + 1 by omega] using this.2
/-- A row of the call's own that holds runs. -/
def OwnP (w : World) (base : Nat) (v : Value) (rs : List (Int × Nat)) : Prop := w.ownsRow base 68 2 v rs.length (cp rs)
theorem OwnP.nil (w : World) (base : Nat) : OwnP w base (.slice none 0 0) [] := World.ownsRow_nil w base 68 2
theorem OwnP.keep {w w' : World} {B : Nat} {v : Value} {l : List (Int × Nat)} (h : OwnP w B v l) (hk : ∀ k, v.ownBlock = some k → w'.heap[k]? = w.heap[k]?) : OwnP w' B v l := by
  refine ⟨h.1, ?_⟩
  rcases h.2 with hn | ⟨g, cap, cur, rfl, h1, h2, rest⟩
  · exact .inl hn
  · exact .inr ⟨g, cap, cur, rfl, h1, by rw [hk g rfl]; exact h2, rest⟩
theorem OwnP.form {w : World} {base : Nat} {v : Value} {l : List (Int × Nat)} (h : OwnP w base v l) (hn : l ≠ []) : ∃ g cap, v = .slice (some ⟨g, 0, none⟩) l.length cap ∧ base ≤ g ∧ l.length ≤ cap := by
  rcases h.2 with ⟨rfl, h0⟩ | ⟨g, cap, cur, rfl, hb, hg, hnc, _, hcs, ht⟩
  · exact absurd (List.eq_nil_of_length_eq_zero h0) hn
  · exact ⟨g, cap, rfl, hb, hnc⟩
/-- Runs in memory. -/
def PairsAt (w : World) (ao : Option Addr) (rs : List (Int × Nat)) : Prop := rs ≠ [] → ∃ g, ao = some ⟨g, 0, none⟩ ∧ ∀ j p, rs[j]? = some p → w.cell? ⟨g, j * 2, none⟩ = some (.int .i64 (p.2 : Int)) ∧ w.cell? ⟨g, j * 2 + 1, none⟩ = some (.int .i64 p.1)
theorem OwnP.at {w : World} {base : Nat} {v : Value} {l : List (Int × Nat)} (h : OwnP w base v l) : ∃ ao cap, v = .slice ao l.length cap ∧ PairsAt w ao l ∧ (∀ a, ao = some a → base ≤ a.block ∧ a.block < w.heap.size) := by
  have hlt := World.ownsRow.lt h
  by_cases hn : l = []
  · subst hn
    rcases h.2 with ⟨rfl, h0⟩ | ⟨g, cap, cur, rfl, hb, hg, hnc, _, hcs, ht⟩
    · exact ⟨none, 0, rfl, fun h => absurd rfl h, fun _ h => by cases h⟩
    · exact ⟨_, cap, rfl, fun h => absurd rfl h, fun a ha => by cases ha; exact hlt g rfl⟩
  · obtain ⟨g, cap, rfl, hb, hc⟩ := h.form hn
    refine ⟨_, cap, rfl, fun _ => ⟨g, rfl, fun j p hj => ?_⟩, fun a ha => by cases ha; exact hlt g rfl⟩
    have hjl := (List.getElem?_eq_some_iff.1 hj).1
    obtain ⟨h1, h2⟩ := cp_get0 l j p hj
    exact ⟨by rw [World.ownsRow.cellAt h _ (by omega), h1], by rw [World.ownsRow.cellAt h _ (by omega), h2]⟩
theorem info54 : (Try.prog.info? 68).map (fun i => (i.zero, i.size, i.bytes)) = some (some (.agg #[.int .i64 0, .int .i64 0]), 2, 16) := by kernel_rfl
/-- append(own, p), p in a block of its own. -/
theorem wpList_append_pair {w : World} {ops : Array Oper} {rest : List Oper} {o : Oper} {a : Act} {Q : Exit → Act → World → Prop} (hgd : o.guard = none) (s x : Operand)
    (ho : o.op = .call { callee := .builtin .append, args := #[s, x], argTypes := #[65, 65] })
    (base : Nat) (v : Value) (l : List (Int × Nat)) (hs : a.eval s = v) (hown : OwnP w base v l)
    (ao : Addr) (c : Nat) (p : Int × Nat) (hx : a.eval x = .slice (some ao) 1 c) (h0 : w.cell? (ao.add 0) = some (.int .i64 (p.2 : Int))) (h1 : w.cell? (ao.add 1) = some (.int .i64 p.1))
    (hbytes : l.length + 1 ≤ 2097152) (hbase : base ≤ w.heap.size)
    (h : ∀ v' w', OwnP w' base v' (l ++ [p]) → w.grownBy w' v.ownBlock → wpList Try.prog ops Q rest (a.put o.dst v') w') : wpList Try.prog ops Q (o :: rest) a w := by
  obtain ⟨i, hi, hz⟩ := Option.map_eq_some_iff.1 info54
  simp only [Prod.mk.injEq] at hz
  obtain ⟨hz, hsz, hby⟩ := hz
  refine wpList_append_own w hgd s x 65 ho base 68 i (.agg #[.int .i64 0, .int .i64 0]) 2 16 Try.underlying65 hi hz hsz hby rfl (by omega) v l.length (cp l) hs hown ao 1 c (cp [p]) hx (by simp [cp]) ?_ ?_ (by unfold maxLen; omega) (by omega) hbase ?_
  · intro j u hu
    match j, hu with
    | 0, hu => simp [cp] at hu; rw [h0, hu]
    | 1, hu => simp [cp] at hu; rw [h1, hu]
    | j + 2, hu => simp [cp] at hu
  · intro u hu
    simp only [cp, List.flatMap_cons, List.flatMap_nil, List.append_nil, List.mem_cons, List.not_mem_nil, or_false] at hu
    rcases hu with rfl | rfl <;> rfl
  · intro v' w' h1 h2 _
    exact h v' w' (by unfold OwnP; rw [cp_append, List.length_append]; exact h1) h2
theorem runs_same (m : List Int) (b : Int) (hl : m.getLast? = some b) : ∃ pre V, runs m = pre ++ [(b, V)] ∧ runs (m ++ [b]) = pre ++ [(b, V + 1)] := by
  obtain ⟨m', V, rfl, h⟩ := end_split b _ m rfl hl
  have e : m' ++ List.replicate (V + 1) b ++ [b] = m' ++ List.replicate (V + 1 + 1) b := by rw [List.append_assoc, ← List.replicate_succ']
  exact ⟨runs m', V + 1, runs_snoc b V m' h, by rw [e]; exact runs_snoc b (V + 1) m' h⟩
theorem runs_other (m : List Int) (b : Int) (hl : ∀ c, m.getLast? = some c → c ≠ b) : runs (m ++ [b]) = runs m ++ [(b, 1)] := by
  simpa using runs_snoc b 0 m hl
/-- The last run, one more. -/
theorem OwnP.bump {w : World} {base g cap : Nat} {pre : List (Int × Nat)} {b : Int} {V : Nat} {m : Nat} (hm : pre.length = m) (h : OwnP w base (.slice (some ⟨g, 0, none⟩) (m + 1) cap) (pre ++ [(b, V)])) :
    w.cell? ⟨g, m * 2, none⟩ = some (.int .i64 (V : Int)) ∧ w.frozen? ⟨g, m * 2, none⟩ = false ∧ OwnP (w.setCell ⟨g, m * 2, none⟩ (.int .i64 ((V : Int) + 1))) base (.slice (some ⟨g, 0, none⟩) (m + 1) cap) (pre ++ [(b, V + 1)]) ∧ w.grownBy (w.setCell ⟨g, m * 2, none⟩ (.int .i64 ((V : Int) + 1))) (some g) := by
  unfold OwnP at h
  have hl : (pre ++ [(b, V)]).length = m + 1 := by simp [hm]
  have hl' : (pre ++ [(b, V + 1)]).length = m + 1 := by simp [hm]
  rw [hl] at h
  have hci := (cp_get0 (pre ++ [(b, V)]) m (b, V) (by simp [← hm])).1
  obtain ⟨h1, h2⟩ := World.ownsRow.stored h (m * 2) (.int .i64 ((V : Int) + 1))
  refine ⟨by rw [World.ownsRow.cellAt h _ (by omega), hci], World.ownsRow.frozenAt h _, ?_, h2⟩
  unfold OwnP
  rw [hl']
  have : (cp (pre ++ [(b, V)])).set (m * 2) (.int .i64 ((V : Int) + 1)) = cp (pre ++ [(b, V + 1)]) := by
    rw [cp_append, cp_append, List.set_append_right _ _ (by rw [cp_len]; omega), cp_len, hm]
    simp [cp]
  rwa [this] at h1
theorem take_snocI (l : List Int) (k : Nat) (hk : k < l.length) : l.take (k + 1) = l.take k ++ [l[k]?.getD 0] := by
  rw [List.take_add_one, List.getElem?_eq_getElem hk]; rfl
theorem take_last (l : List Int) (k : Nat) (h0 : k ≠ 0) (hk : k ≤ l.length) : (l.take k).getLast? = some (l[k - 1]?.getD 0) := by
  obtain ⟨m, rfl⟩ : ∃ m, k = m + 1 := ⟨k - 1, by omega⟩
  rw [take_snocI l m (by omega)]
  simp
theorem two_cells (w : World) (t : TypeId) (a b : Value) : (w.alloc (.cells #[a, b] t)).cell? ((⟨w.heap.size, 0, none⟩ : Addr).add 0) = some a ∧ (w.alloc (.cells #[a, b] t)).cell? ((⟨w.heap.size, 0, none⟩ : Addr).add 1) = some b := by
  have h : RowIs (w.alloc (.cells #[a, b] t)) w.heap.size t [a, b] := RowIs.new w t [a, b]
  rw [Addr.add_mid, Addr.add_mid]
  exact ⟨h.cell rfl, h.cell rfl⟩
set_option maxRecDepth 100000 in
set_option maxHeartbeats 1600000 in
theorem split_any (ao : Option Addr) (cap : Nat) (l : List Int) (hn : l.length ≤ 1048576) (w : World) (hI : IntsAt w ao l) :
    Calls Try.prog 49 #[.slice ao l.length cap] w fun e W' => ∃ v, e = .returned v ∧ OwnP W' w.heap.size v (runs l) ∧ After w W' := by
  have HI : Hid (IntsAt w ao l) := hI
  clear hI
  go_enter Try.func49, Try.ntmps49
  go_wp2
  go_loopw [3, 4] (fun v i wr => ∃ (k : Nat), k ≤ l.length ∧ i = .int .i64 k ∧ Hid (OwnP wr w.heap.size v (runs (l.take k))) ∧ Hid (After w wr)) (fun _ i _ => l.length - (intOf i).toNat)
  case atStart => exact ⟨0, by omega, rfl, OwnP.nil _ _, After.refl _⟩
  case round =>
    obtain ⟨k, hk, rfl, HO, HBr⟩ := hrel
    by_cases hlt : k < l.length
    · obtain ⟨b, o, rfl, hc⟩ := HI.out (by intro h; simp [h] at hlt)
      have hck := hc k hlt
      obtain ⟨x, HX, HCK⟩ : ∃ x : Int, Hid (x = l[k]?.getD 0) ∧ Hid (w.cell? ⟨b, o + k, none⟩ = some (.int .i64 x)) := ⟨_, rfl, hck⟩
      have hx : wr.cell? ⟨b, o + k, none⟩ = some (.int .i64 x) := (Below.cell HBr.out (p := ⟨b, o + k, none⟩) (block_lt_of_cell HCK.out)).trans HCK.out
      have HRL : Hid ((runs (l.take k)).length ≤ 1048576) := (by unfold Hid; have := runs_len (l.take k); rw [List.length_take] at this; omega)
      by_cases hk0 : k = 0
      · subst hk0
        clear hc hck
        rw [Nat.add_zero] at hx
        have HN : Hid (runs (l.take (0 + 1)) = runs (l.take 0) ++ [(x, 1)]) := (by unfold Hid; rw [take_snocI l 0 hlt, ← HX.out]; rfl)
        go_wp2
        go_region
        go_wp2_with (at_builtin; refine wpList_append_pair rfl _ _ rfl w.heap.size _ (runs (l.take 0)) rfl (OwnP.keep HO.out (fun i hi => (after_alloc (After.drew (After.refl wr)) _).block i (World.ownsRow.lt HO.out i hi).2)) ⟨wr.drew.heap.size, 0, none⟩ 1 (x, 1) rfl (two_cells _ _ _ _).1 (two_cells _ _ _ _).2 (by have := HRL.out; omega) (by have := HBr.out.size; simp; omega) ?_; intro v6 w6 ho6 hg6; have HO6 : Hid (OwnP w6 w.heap.size v6 (runs (l.take 0) ++ [(x, 1)])) := ho6; have HB6 : Hid (After w w6) := after_grown (after_alloc HBr.out.drew _) hg6 (Nat.le_refl _) (fun k hk => (World.ownsRow.lt HO.out k hk).1); clear ho6 hg6)
        go_roundw
        case rel => exact ⟨0 + 1, by omega, by go_num, by unfold Hid; rw [HN.out]; exact HO6.out, HB6.out⟩
        case measure => simp [intOf]; omega
      · obtain ⟨j, rfl⟩ : ∃ j, k = j + 1 := ⟨k - 1, by omega⟩
        have hcj := hc j (by omega)
        obtain ⟨y, HY, HCJ⟩ : ∃ y : Int, Hid (y = l[j]?.getD 0) ∧ Hid (w.cell? ⟨b, o + j, none⟩ = some (.int .i64 y)) := ⟨_, rfl, hcj⟩
        have hy : wr.cell? ⟨b, o + j, none⟩ = some (.int .i64 y) := (Below.cell HBr.out (p := ⟨b, o + j, none⟩) (block_lt_of_cell HCJ.out)).trans HCJ.out
        clear hc hck hcj
        have HLS : Hid ((l.take (j + 1)).getLast? = some y) := (by unfold Hid; rw [take_last l (j + 1) (by omega) hk, HY.out]; rfl)
        by_cases hxy : x = y
        · subst hxy
          obtain ⟨pre, V, hp1, hp2⟩ := runs_same _ _ HLS.out
          have hV : V ≤ 1048576 := (by have := runs_many (l.take (j + 1)) (x, V) (by rw [hp1]; simp); rw [List.length_take] at this; simp only at this; omega)
          have HN : Hid (runs (l.take (j + 1 + 1)) = pre ++ [(x, V + 1)]) := (by unfold Hid; rw [take_snocI l (j + 1) hlt, ← HX.out, hp2])
          rw [hp1] at HO HRL
          obtain ⟨m, hm⟩ : ∃ m, pre.length = m := ⟨_, rfl⟩
          have HM : Hid (pre.length = m) := hm
          have hmb : m ≤ 1048577 := (by have := HRL.out; simp at this; omega)
          obtain ⟨g6, c6, hv6, hbg6, hc6⟩ := OwnP.form HO.out (by simp)
          rw [List.length_append, HM.out] at hv6
          simp only [List.length_cons, List.length_nil] at hv6
          subst hv6
          obtain ⟨hy6, hf6, _, _⟩ := OwnP.bump HM.out HO.out
          obtain ⟨_, _, ho8, hg8⟩ := OwnP.bump (w := wr.drew) HM.out (show OwnP wr.drew _ _ _ from HO.out)
          have HO8 := show Hid _ from ho8
          have HG8 := show Hid _ from hg8
          clear ho8 hg8 hp1 hp2 hm hc6
          go_wp2
          go_region
          go_wp2
          go_roundw
          case rel => exact ⟨j + 1 + 1, by omega, by go_num, by unfold Hid; rw [HN.out]; exact HO8.out, after_grown HBr.out.drew HG8.out (Nat.le_refl _) (fun k hk => by cases hk; exact hbg6)⟩
          case measure => simp [intOf]; omega
        · have HN : Hid (runs (l.take (j + 1 + 1)) = runs (l.take (j + 1)) ++ [(x, 1)]) := (by unfold Hid; rw [take_snocI l (j + 1) hlt, ← HX.out, runs_other _ _ (fun c hc he => hxy (by rw [HLS.out] at hc; rw [← he]; exact (Option.some.inj hc).symm))])
          go_wp2
          go_region
          go_wp2_with (at_builtin; refine wpList_append_pair rfl _ _ rfl w.heap.size _ (runs (l.take (j + 1))) rfl (OwnP.keep HO.out (fun i hi => (after_alloc (After.drew (After.refl wr)) _).block i (World.ownsRow.lt HO.out i hi).2)) ⟨wr.drew.heap.size, 0, none⟩ 1 (x, 1) rfl (two_cells _ _ _ _).1 (two_cells _ _ _ _).2 (by have := HRL.out; omega) (by have := HBr.out.size; simp; omega) ?_; intro v6 w6 ho6 hg6; have HO6 : Hid (OwnP w6 w.heap.size v6 (runs (l.take (j + 1)) ++ [(x, 1)])) := ho6; have HB6 : Hid (After w w6) := after_grown (after_alloc HBr.out.drew _) hg6 (Nat.le_refl _) (fun k hk => (World.ownsRow.lt HO.out k hk).1); clear ho6 hg6)
          go_roundw
          case rel => exact ⟨j + 1 + 1, by omega, by go_num, by unfold Hid; rw [HN.out]; exact HO6.out, HB6.out⟩
          case measure => simp [intOf]; omega
    · go_wp2
      go_ret
      exact ⟨_, rfl, by have := HO.out; rwa [List.take_of_length_le (by omega)] at this, HBr.out⟩
end Go.Proofs.Ytpplnomomcdemaa
