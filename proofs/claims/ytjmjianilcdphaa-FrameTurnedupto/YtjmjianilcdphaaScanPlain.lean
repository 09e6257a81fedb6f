/-
  WHAT Scan TELLS OF BYTES; a row of frames of the call's own.
-/
import Derived.Test.YtjmjianilcdphaaRefOpen
namespace Leb
/-- Frames, how many bytes they have, and the error, with at most f frames looked at. -/
def scF : Nat → List UInt8 → List (UInt8 × List UInt8) × Nat × Nat
  | 0, _ => ([], 0, 0)
  | f + 1, bs => if opE bs = 22 then ([], 0, 0) else if opE bs = 0 then ((opKind bs, opBody bs) :: (scF f (bs.drop (opUsed bs))).1, opUsed bs + (scF f (bs.drop (opUsed bs))).2.1, (scF f (bs.drop (opUsed bs))).2.2) else ([], 0, opE bs)
def scan (bs : List UInt8) : List (UInt8 × List UInt8) × Nat × Nat := scF (bs.length + 1) bs
theorem opUsed_pos (bs : List UInt8) (h : opE bs = 0) : 5 ≤ opUsed bs ∧ opUsed bs ≤ bs.length := by
  rcases opE_cases bs with ⟨_, H⟩ | h'
  · have := H.len
    unfold opUsed opEnd
    rw [if_pos h]
    omega
  · exact absurd h h'
theorem opE_nil : opE [] = 22 := by unfold opE; rw [if_pos rfl]
theorem opE_none (bs : List UInt8) (h : opE bs = 22) : bs = [] ∨ guE (bs.drop 1) = 22 := by
  unfold opE at h
  split at h
  · left; assumption
  · split at h
    · omega
    · split at h
      · right; exact h
      · split at h
        · omega
        · split at h
          · omega
          · split at h <;> omega
end Leb
namespace Go.Proofs.Ytjmjianilcdphaa
open Go.RowKit Leb
/-- A row of the call's own that holds frames (te: their type), each body in a row of its own. -/
def OwnF (te : TypeId) (w : World) (base : Nat) (v : Value) (fs : List (UInt8 × List UInt8)) : Prop :=
  ∃ xs : List Value, w.ownsRow base te 2 v fs.length xs ∧ ∀ j p, fs[j]? = some p → ∃ u, xs[j * 2]? = some (.int .u8 (p.1.toNat : Int)) ∧ xs[j * 2 + 1]? = some u ∧ Own w base u p.2
theorem OwnF.nil (te : TypeId) (w : World) (base : Nat) : OwnF te w base (.slice none 0 0) [] := ⟨[], World.ownsRow_nil w base te 2, fun j p h => by simp at h⟩
theorem OwnF.below {te : TypeId} {w w' : World} {base : Nat} {v : Value} {fs : List (UInt8 × List UInt8)} (h : OwnF te w base v fs) (hb : After w w') : OwnF te w' base v fs := by
  obtain ⟨xs, h1, h2⟩ := h
  refine ⟨xs, ?_, fun j p hj => ?_⟩
  · refine ⟨h1.1, ?_⟩
    rcases h1.2 with hn | ⟨g, cap, cur, rfl, q1, q2, rest⟩
    · exact .inl hn
    · exact .inr ⟨g, cap, cur, rfl, q1, by rw [hb.block g (World.ownsRow.lt h1 g rfl).2]; exact q2, rest⟩
  · obtain ⟨u, a, b, c⟩ := h2 j p hj
    exact ⟨u, a, b, c.below hb (Nat.le_refl _)⟩
theorem OwnF.mono {te : TypeId} {w : World} {base base' : Nat} {v : Value} {fs : List (UInt8 × List UInt8)} (h : OwnF te w base v fs) (hb : base' ≤ base) : OwnF te w base' v fs := by
  obtain ⟨xs, h1, h2⟩ := h
  refine ⟨xs, ⟨h1.1, ?_⟩, fun j p hj => ?_⟩
  · rcases h1.2 with hn | ⟨g, cap, cur, rfl, q1, rest⟩
    · exact .inl hn
    · exact .inr ⟨g, cap, cur, rfl, by omega, rest⟩
  · obtain ⟨u, a, b, c⟩ := h2 j p hj
    exact ⟨u, a, b, c.mono hb⟩
theorem OwnF.lt {te : TypeId} {w : World} {base : Nat} {v : Value} {fs : List (UInt8 × List UInt8)} (h : OwnF te w base v fs) : ∀ k, v.ownBlock = some k → base ≤ k ∧ k < w.heap.size := by
  obtain ⟨xs, h1, _⟩ := h
  exact World.ownsRow.lt h1
/-- Frames in memory. -/
def FramesAt (w : World) (ao : Option Addr) (fs : List (UInt8 × List UInt8)) : Prop := fs ≠ [] → ∃ g, ao = some ⟨g, 0, none⟩ ∧ ∀ j p, fs[j]? = some p → ∃ a c, w.cell? ⟨g, j * 2, none⟩ = some (.int .u8 (p.1.toNat : Int)) ∧ w.cell? ⟨g, j * 2 + 1, none⟩ = some (.slice a p.2.length c) ∧ BytesAt w a p.2
theorem OwnF.at {te : TypeId} {w : World} {base : Nat} {v : Value} {fs : List (UInt8 × List UInt8)} (h : OwnF te w base v fs) : ∃ ao cap, v = .slice ao fs.length cap ∧ FramesAt w ao fs := by
  obtain ⟨xs, h1, h2⟩ := h
  rcases h1.2 with ⟨hv, h0⟩ | ⟨g, cap, cur, hv, hb, hg, hnc, _, hcs, ht⟩
  · have : fs = [] := List.eq_nil_of_length_eq_zero h0
    subst this
    exact ⟨none, 0, hv, fun h => absurd rfl h⟩
  · subst hv
    refine ⟨_, cap, rfl, fun _ => ⟨g, rfl, fun j p hj => ?_⟩⟩
    have hjl := (List.getElem?_eq_some_iff.1 hj).1
    obtain ⟨u, q1, q2, q3⟩ := h2 j p hj
    obtain ⟨a, c, hu, hat, _, _⟩ := Own.at q3
    exact ⟨a, c, by rw [World.ownsRow.cellAt h1 _ (by omega), q1], by rw [World.ownsRow.cellAt h1 _ (by omega), q2, hu], hat⟩
/-- append(own, f), f in a block of its own. -/
theorem wpList_append_frame (te ts : TypeId) (hts : Try.prog.underlying ts = some (.slice te)) (hinf : (Try.prog.info? te).map (fun i => (i.zero, i.size, i.bytes)) = some (some (.agg #[.int .u8 0, .slice none 0 0]), 2, 32)) (h5 : te ≠ 5)
    {w : World} {ops : Array Oper} {rest : List Oper} {o : Oper} {a : Act} {Q : Exit → Act → World → Prop} (hgd : o.guard = none) (s x : Operand)
    (ho : o.op = .call { callee := .builtin .append, args := #[s, x], argTypes := #[ts, ts] })
    (base : Nat) (v : Value) (l : List (UInt8 × List UInt8)) (hs : a.eval s = v) (hown : OwnF te w base v l)
    (ao : Addr) (c : Nat) (k : UInt8) (u : Value) (bd : List UInt8) (hu : Own w base u bd) (hx : a.eval x = .slice (some ao) 1 c) (h0 : w.cell? (ao.add 0) = some (.int .u8 (k.toNat : Int))) (h1 : w.cell? (ao.add 1) = some u)
    (hbytes : l.length + 1 ≤ 8388608) (hbase : base ≤ w.heap.size)
    (h : ∀ v' w', OwnF te w' base v' (l ++ [(k, bd)]) → w.grownBy w' v.ownBlock → wpList Try.prog ops Q rest (a.put o.dst v') w') : wpList Try.prog ops Q (o :: rest) a w := by
  obtain ⟨i, hi, hz⟩ := Option.map_eq_some_iff.1 hinf
  simp only [Prod.mk.injEq] at hz
  obtain ⟨hz, hsz, hby⟩ := hz
  obtain ⟨xs, q1, q2⟩ := hown
  have hone : u.oneCell' = true := by obtain ⟨a', c', rfl, _⟩ := Own.at hu; rfl
  have hxl := q1.1
  have apart : ∀ (u' : Value) (l' : List UInt8), Own w base u' l' → u'.ownBlock = none ∨ u'.ownBlock ≠ v.ownBlock := fun u' l' hu' => by
    rcases q1.2 with ⟨rfl, _⟩ | ⟨g, cap, cur, rfl, _, hg, _⟩
    · cases hb : u'.ownBlock with
      | none => exact .inl rfl
      | some k => exact .inr (by simp [Value.ownBlock])
    · rcases hu'.2 with ⟨rfl, _⟩ | ⟨g', cap', cur', rfl, _, hg', _⟩
      · exact .inl rfl
      · refine .inr (fun he => ?_)
        have : g' = g := by simpa [Value.ownBlock] using he
        subst this
        rw [hg] at hg'
        simp only [Option.some.injEq, Obj.cells.injEq] at hg'
        exact h5 hg'.2.1
  refine wpList_append_own w hgd s x ts ho base te i (.agg #[.int .u8 0, .slice none 0 0]) 2 32 hts hi hz hsz hby rfl (by omega) v l.length xs hs q1 ao 1 c [.int .u8 (k.toNat : Int), u] hx rfl ?_ ?_ (by unfold maxLen; omega) (by omega) hbase ?_
  · intro j u' hu'
    match j, hu' with
    | 0, hu' => simp at hu'; rw [h0, hu']
    | 1, hu' => simp at hu'; rw [h1, hu']
    | j + 2, hu' => simp at hu'
  · intro u' hu'
    simp only [List.mem_cons, List.not_mem_nil, or_false] at hu'
    rcases hu' with rfl | rfl
    · rfl
    · exact hone
  · intro v' w' g1 g2 _
    refine h v' w' ⟨xs ++ [.int .u8 (k.toNat : Int), u], by rw [List.length_append]; exact g1, fun j p hj => ?_⟩ g2
    by_cases hjl : j < l.length
    · rw [List.getElem?_append_left hjl] at hj
      obtain ⟨u', a1, a2, a3⟩ := q2 j p hj
      exact ⟨u', by rw [List.getElem?_append_left (by omega)]; exact a1, by rw [List.getElem?_append_left (by omega)]; exact a2, World.ownsRow.kept a3 g2 (apart u' _ a3)⟩
    · have hj2 : j = l.length := by
        have := (List.getElem?_eq_some_iff.1 hj).1
        simp at this
        omega
      subst hj2
      simp at hj
      subst hj
      refine ⟨u, ?_, ?_, World.ownsRow.kept hu g2 (apart u _ hu)⟩
      · rw [List.getElem?_append_right (by omega), hxl]; simp
      · rw [List.getElem?_append_right (by omega), hxl]; simp
end Go.Proofs.Ytjmjianilcdphaa
