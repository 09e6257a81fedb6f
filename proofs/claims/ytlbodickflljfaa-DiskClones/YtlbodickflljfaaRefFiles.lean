/-
  SLICES OF ref.File: what lies in them, what is cut off them, what is appended.
-/
import Derived.Test.YtlbodickflljfaaRefSmall
namespace Go.Proofs.Ytlbodickflljfaa
open Go.RowKit Go.Maps Dsk
theorem info75 : (Try.prog.info? 75).map (fun i => (i.zero, i.size, i.bytes)) = some (some (.agg #[.string ⟨#[]⟩, .string ⟨#[]⟩, .string ⟨#[]⟩]), 3, 48) := by kernel_rfl
def c75 (l : List (Nm × Fl)) : List Value := l.flatMap f75
theorem c75_cons (p : Nm × Fl) (l : List (Nm × Fl)) : c75 (p :: l) = f75 p ++ c75 l := by simp [c75]
theorem c75_append (l m : List (Nm × Fl)) : c75 (l ++ m) = c75 l ++ c75 m := by simp [c75]
theorem c75_len : ∀ l : List (Nm × Fl), (c75 l).length = l.length * 3
  | [] => rfl
  | p :: r => by rw [c75_cons, List.length_append, c75_len r, List.length_cons]; simp [f75]; omega
theorem c75_get : ∀ (l : List (Nm × Fl)) (j r : Nat) (p : Nm × Fl), l[j]? = some p → r < 3 → (c75 l)[j * 3 + r]? = (f75 p)[r]?
  | [], _, _, _, h, _ => by simp at h
  | q :: t, 0, r, p, h, hr => by
    simp at h; subst h
    rw [c75_cons, List.getElem?_append_left (by simp [f75]; omega)]; congr 1; omega
  | q :: t, j + 1, r, p, h, hr => by
    rw [c75_cons, List.getElem?_append_right (by simp [f75]; omega)]
    have := c75_get t j r p (by simpa using h) hr
    rw [← this]; congr 1; simp [f75]; omega
theorem c75_one (l : List (Nm × Fl)) : ∀ u ∈ c75 l, u.oneCell' = true := by
  intro u hu
  obtain ⟨p, _, hp⟩ := List.mem_flatMap.1 hu
  simp only [f75, List.mem_cons, List.not_mem_nil, or_false] at hp
  rcases hp with rfl | rfl | rfl <;> rfl
/-- A row of the call's own that holds files. -/
def OwnFl (w : World) (base : Nat) (v : Value) (l : List (Nm × Fl)) : Prop := w.ownsRow base 75 3 v l.length (c75 l)
theorem OwnFl.nil (w : World) (base : Nat) : OwnFl w base (.slice none 0 0) [] := World.ownsRow_nil w base 75 3
theorem FilesAt.nil (w : World) (ao : Option Addr) : FilesAt w ao [] := fun h => absurd rfl h
theorem OwnFl.at {w : World} {base : Nat} {v : Value} {l : List (Nm × Fl)} (h : OwnFl w base v l) : ∃ ao cap, v = .slice ao l.length cap ∧ FilesAt w ao l ∧ l.length ≤ cap ∧ (ao = none → cap = 0) := by
  rcases h.2 with ⟨hv, h0⟩ | ⟨g, cap, cur, hv, hb, hg, hnc, _, hcs, ht⟩
  · have : l = [] := List.eq_nil_of_length_eq_zero h0
    subst this
    exact ⟨none, 0, hv, FilesAt.nil _ _, Nat.le_refl _, fun _ => rfl⟩
  · subst hv
    refine ⟨_, cap, rfl, fun _ => ⟨g, 0, rfl, ⟨cur, _, hg⟩, fun j p hj => ?_⟩, hnc, fun h => by cases h⟩
    have hjl := (List.getElem?_eq_some_iff.1 hj).1
    rw [Nat.zero_add]
    exact ⟨by rw [World.ownsRow.cellAt h _ (by omega)]; exact c75_get l j 0 p hj (by omega), by rw [World.ownsRow.cellAt h _ (by omega)]; exact c75_get l j 1 p hj (by omega), by rw [World.ownsRow.cellAt h _ (by omega)]; exact c75_get l j 2 p hj (by omega)⟩
theorem OwnFl.lt {w : World} {base : Nat} {v : Value} {l : List (Nm × Fl)} (h : OwnFl w base v l) : ∀ k, v.ownBlock = some k → base ≤ k ∧ k < w.heap.size := World.ownsRow.lt h
theorem FilesAt.take {w : World} {ao : Option Addr} {l : List (Nm × Fl)} (h : FilesAt w ao l) (k : Nat) : FilesAt w ao (l.take k) := fun hne => by
  obtain ⟨b, o, e, ht, hc⟩ := h (by intro e; rw [e] at hne; simp at hne)
  refine ⟨b, o, e, ht, fun j p hj => ?_⟩
  rw [List.getElem?_take] at hj
  split at hj
  · exact hc j p hj
  · cases hj
def cut25 (ao : Option Addr) (k c : Nat) : Option Addr := if c = k then ao else ao.map fun a => a.add (k * 3)
theorem FilesAt.drop {w : World} {ao : Option Addr} {l : List (Nm × Fl)} (h : FilesAt w ao l) (k c : Nat) (hc : l.length ≤ c) : FilesAt w (cut25 ao k c) (l.drop k) := fun hne => by
  have hk : k < l.length := by
    rcases Nat.lt_or_ge k l.length with h | h
    · exact h
    · rw [List.drop_eq_nil_of_le h] at hne; exact absurd rfl hne
  obtain ⟨b, o, e, ht, hcc⟩ := h (by intro e; rw [e] at hne; simp at hne)
  refine ⟨b, o + k * 3, by rw [e]; unfold cut25; rw [if_neg (by omega)]; simp [Addr.add_mid], ht, fun j p hj => ?_⟩
  rw [List.getElem?_drop] at hj
  have := hcc (k + j) p hj
  rw [show o + k * 3 + j * 3 = o + (k + j) * 3 by omega]
  exact this
theorem sl25_hi (ao : Option Addr) (n c k : Nat) (hk : k ≤ c) (hz : ao = none → c = 0) (W : World) : (Instr.sliceAt 25 (.slice ao n c) none (some (.int .i64 (k : Int))) none).run Try.prog W = .ok (.slice ao k c) W := by
  obtain ⟨i, hi', hzz⟩ := Option.map_eq_some_iff.1 info75
  simp only [Prod.mk.injEq] at hzz
  obtain ⟨_, hsz, _⟩ := hzz
  cases ao with
  | none =>
    obtain rfl : c = 0 := hz rfl
    obtain rfl : k = 0 := by omega
    simp [Instr.sliceAt, Instr.slice, run_underlying Try.underlying25, Instr.sliceBounds, Instr.sliceBound, asIntOf, sizeOf, typeInfo, hi']
  | some a =>
    by_cases h0 : c = 0
    · obtain rfl : k = 0 := by omega
      simp [Instr.sliceAt, Instr.slice, run_underlying Try.underlying25, Instr.sliceBounds, Instr.sliceBound, asIntOf, sizeOf, typeInfo, hi', h0]
    · simp [Instr.sliceAt, Instr.slice, run_underlying Try.underlying25, Instr.sliceBounds, Instr.sliceBound, asIntOf, sizeOf, typeInfo, hi', hk, Addr.add]
theorem sl25_lo (ao : Option Addr) (n c k : Nat) (hn : n ≤ c) (hk : k ≤ n) (hz : ao = none → c = 0) (W : World) : (Instr.sliceAt 25 (.slice ao n c) (some (.int .i64 (k : Int))) none none).run Try.prog W = .ok (.slice (cut25 ao k c) (n - k) (c - k)) W := by
  obtain ⟨i, hi', hzz⟩ := Option.map_eq_some_iff.1 info75
  simp only [Prod.mk.injEq] at hzz
  obtain ⟨_, hsz, _⟩ := hzz
  cases ao with
  | none =>
    obtain rfl : c = 0 := hz rfl
    obtain rfl : n = 0 := by omega
    obtain rfl : k = 0 := by omega
    simp [Instr.sliceAt, Instr.slice, run_underlying Try.underlying25, Instr.sliceBounds, Instr.sliceBound, asIntOf, sizeOf, typeInfo, hi', cut25]
  | some a =>
    by_cases h : c = k
    · simp [Instr.sliceAt, Instr.slice, run_underlying Try.underlying25, Instr.sliceBounds, Instr.sliceBound, asIntOf, sizeOf, typeInfo, hi', hsz, cut25, h]
      intro h2; omega
    · simp [Instr.sliceAt, Instr.slice, run_underlying Try.underlying25, Instr.sliceBounds, Instr.sliceBound, asIntOf, sizeOf, typeInfo, hi', hsz, cut25, h, hk]
/-- append(own, l...), l a slice whose files are known, or nil. -/
theorem wpList_append_files {w : World} {ops : Array Oper} {rest : List Oper} {o : Oper} {a : Act} {Q : Exit → Act → World → Prop} (hgd : o.guard = none) (s x : Operand)
    (ho : o.op = .call { callee := .builtin .append, args := #[s, x], argTypes := #[25, 25] })
    (base : Nat) (v : Value) (l : List (Nm × Fl)) (hs : a.eval s = v) (hown : OwnFl w base v l)
    (ao : Option Addr) (c : Nat) (news : List (Nm × Fl)) (k : Nat) (hk : news.length = k) (hx : a.eval x = .slice ao k c) (hnews : FilesAt w ao news)
    (hbytes : l.length + news.length ≤ 1000) (hbase : base ≤ w.heap.size)
    (h : ∀ v' w', OwnFl w' base v' (l ++ news) → w.grownBy w' v.ownBlock → wpList Try.prog ops Q rest (a.put o.dst v') w') : wpList Try.prog ops Q (o :: rest) a w := by
  subst hk
  obtain ⟨i, hi, hz⟩ := Option.map_eq_some_iff.1 info75
  simp only [Prod.mk.injEq] at hz
  obtain ⟨hz, hsz, hby⟩ := hz
  cases ao with
  | some ad =>
    refine wpList_append_own w hgd s x 25 ho base 75 i (.agg #[.string ⟨#[]⟩, .string ⟨#[]⟩, .string ⟨#[]⟩]) 3 48 Try.underlying25 hi hz hsz hby rfl (by omega) v l.length (c75 l) hs hown ad news.length c (c75 news) hx (c75_len news) ?_ (c75_one _) (by unfold maxLen; omega) (by omega) hbase ?_
    · intro j u hu
      have hj := (List.getElem?_eq_some_iff.1 hu).1
      rw [c75_len] at hj
      obtain ⟨b, o, he, _, hc⟩ := hnews (by intro h; simp [h] at hj)
      cases he
      obtain ⟨p, hp⟩ : ∃ p, news[j / 3]? = some p := ⟨_, List.getElem?_eq_getElem (by omega)⟩
      obtain ⟨h0, h1, h2⟩ := hc (j / 3) p hp
      have hg := c75_get news (j / 3) (j % 3) p hp (Nat.mod_lt _ (by omega))
      rw [show j / 3 * 3 + j % 3 = j by omega, hu] at hg
      rw [Addr.add_mid]
      have hr : j % 3 = 0 ∨ j % 3 = 1 ∨ j % 3 = 2 := by omega
      rcases hr with hr | hr | hr
      · rw [hr] at hg; rw [show o + j = o + j / 3 * 3 by omega, h0]; exact hg.symm
      · rw [hr] at hg; rw [show o + j = o + j / 3 * 3 + 1 by omega, h1]; exact hg.symm
      · rw [hr] at hg; rw [show o + j = o + j / 3 * 3 + 2 by omega, h2]; exact hg.symm
    · intro v' w' h1 h2 _
      exact h v' w' (by unfold OwnFl; rw [c75_append, List.length_append]; exact h1) h2
  | none =>
    obtain rfl : news = [] := Classical.byContradiction fun hn => by obtain ⟨b, o, he, _⟩ := hnews hn; cases he
    rw [List.append_nil] at h
    have hk := h v w hown ⟨rfl, rfl, rfl, Nat.le_refl _, fun _ _ _ => rfl⟩
    obtain ⟨ao', cap', hv, _, hle, _⟩ := hown.at
    refine wpList_plain hgd fun K hK => ?_
    have hr := run_append_nothing (P := Try.prog) w 25 25 o.type 75 i Try.underlying25 hi ao' l.length cap' hle (.slice none 0 c) (Src.ofNil w Try.underlying25 c)
    unfold Oper.wp execOp
    rw [← hv] at hr
    simp only [List.length_nil] at hx
    simp only [ho, resolve, invoke, builtin, Sem.run_bind, Sem.run_pure, Result.andThen_ok, List.map_toArray, List.map_cons, List.map_nil, hs, hx, hr]
    exact hK _ _ hk
end Go.Proofs.Ytlbodickflljfaa
