/-
  A ROW IN MEMORY with one stem more, ahead of and behind the map's turn.
-/
import Derived.Test.YtiglenomigipmaaRJ
namespace Go.Proofs.Ytiglenomigipmaa
open Go.RowKit Go.Maps Go.WideMaps Go.WideAt Mp
/-- A row in memory, but for its map. -/
structure RowNM (W : World) (base g : Nat) (st : List Stm) (D : RwD) : Prop where
  box : RowIs W g 75 [D.sv, .map (some D.gm)]
  row : OwnL W base 88 36 D.sv (stems st D.vs)
  vl : D.vs.length = st.length
  bel : ∀ (i : Nat) (s : Stm) (v : Value), st[i]? = some s → D.vs[i]? = some v → OwnI W base v s.below
  apart : ∀ (i j : Nat) (u v : Value) (b : Nat), D.vs[i]? = some u → D.vs[j]? = some v → u.ownBlock = some b → v.ownBlock = some b → i = j
  ok : ∀ s ∈ st, s.id.Ok
  pos : st ≠ []
  gb : base ≤ g
  mb : base ≤ D.gm
  bs : base ≤ W.heap.size
theorem RowNM.turn {W W' : World} {base g : Nat} {st st0 : List Stm} {D : RwD} (h : RowNM W base g st D) (hm : MapAt W D.gm st0) (hb : But D.gm W W') (hm' : MapAt W' D.gm st) : RowAt W' base g st D := by
  have rows : ∀ b t cs, RowIs W b t cs → W'.heap[b]? = W.heap[b]? := fun b t cs hr => hb.block b hr.lt (hm.ne hr)
  refine ⟨hb.row h.box (hm.ne h.box), h.row.same (fun b hb' => ?_), h.vl, fun i s v hs hv => (h.bel i s v hs hv).same (fun b hb' => ?_), h.apart, hm', h.ok, h.pos, h.gb, h.mb, Nat.le_trans h.bs hb.size⟩
  · obtain ⟨_, _, cs, hc⟩ := own_lt h.row.2 hb'; exact rows b _ _ hc
  · obtain ⟨_, _, cs, hc⟩ := own_lt (h.bel i s v hs hv) hb'; exact rows b _ _ hc
theorem RowNM.after {W W' : World} {base g : Nat} {st : List Stm} {D : RwD} (h : RowNM W base g st D) (ha : After W W') : RowNM W' base g st D :=
  ⟨h.box.below ha h.box.lt, h.row.same (fun b hb => ha.block b (own_lt h.row.2 hb).2.1), h.vl, fun i s v hs hv => (h.bel i s v hs hv).same (fun b hb => ha.block b (own_lt (h.bel i s v hs hv) hb).2.1), h.apart, h.ok, h.pos, h.gb, h.mb, Nat.le_trans h.bs ha.size⟩
theorem RowAt.snoc {W W1 : World} {base g : Nat} {st : List Stm} {D : RwD} (h : RowAt W base g st D) {s : Stm} (hs : s.id.Ok) (hb0 : s.below = []) {sv : Value} (ho : OwnL W1 base 88 36 sv (stems st D.vs ++ [scell s (.slice none 0 0)])) (hg : W.grownBy W1 D.sv.ownBlock) (hl : sv.ownBlock = D.sv.ownBlock ∨ sv.ownBlock = some W.heap.size) :
    RowNM (W1.setCell ⟨g, 0, none⟩ sv) base g (st ++ [s]) ⟨sv, D.gm, D.vs ++ [.slice none 0 0]⟩ ∧ MapAt (W1.setCell ⟨g, 0, none⟩ sv) D.gm st ∧ KeptF (fun b => D.sv.ownBlock = some b ∨ b = g) W (W1.setCell ⟨g, 0, none⟩ sv) ∧ (∀ k, Foot g ⟨sv, D.gm, D.vs ++ [.slice none 0 0]⟩ k → Foot g D k ∨ W.heap.size ≤ k) := by
  have hgsv : D.sv.ownBlock ≠ some g := fun e => by
    obtain ⟨_, _, cs, hc⟩ := own_lt h.row.2 e
    exact absurd (hc.ty h.box).1 (by decide)
  have hk : KeptF (fun b => D.sv.ownBlock = some b ∨ b = g) W (W1.setCell ⟨g, 0, none⟩ sv) := (KeptF.of_grown (F := fun b => D.sv.ownBlock = some b ∨ b = g) hg (fun b hb => .inl hb)).trans (KeptF.set (F := fun b => D.sv.ownBlock = some b ∨ b = g) W1 ⟨g, 0, none⟩ sv (.inr rfl)) (fun _ _ h => h)
  have hbox1 : RowIs W1 g 75 [D.sv, .map (some D.gm)] := by unfold RowIs; rw [hg.block g h.box.lt (fun e => hgsv e.symm)]; exact h.box
  have hsvg : ∀ b, sv.ownBlock = some b → b ≠ g := fun b hb e => by
    subst e
    obtain ⟨_, _, cs, hc⟩ := own_lt ho.2 hb
    exact absurd (hc.ty hbox1).1 (by decide)
  have belne : ∀ (i : Nat) (t : Stm) (v : Value) (b : Nat), st[i]? = some t → D.vs[i]? = some v → v.ownBlock = some b → ¬ (D.sv.ownBlock = some b ∨ b = g) ∧ b < W.heap.size := fun i t v b ht hv hb => by
    obtain ⟨_, h2, cs, hc⟩ := own_lt (h.bel i t v ht hv) hb
    refine ⟨?_, h2⟩
    rintro (e | e)
    · obtain ⟨_, _, cs', hc'⟩ := own_lt h.row.2 e
      exact absurd (hc.ty hc').1 (by decide)
    · subst e
      exact absurd (hc.ty h.box).1 (by decide)
  refine ⟨⟨hbox1.set 0 sv, ?_, by simp [h.vl], ?_, ?_, ?_, by simp, h.gb, h.mb, Nat.le_trans h.bs hk.size⟩, ?_, hk, ?_⟩
  · show OwnL _ base 88 36 sv (stems (st ++ [s]) (D.vs ++ [.slice none 0 0]))
    rw [stems_snoc h.vl]
    exact ho.same (fun b hb => Below.heap_setCell W1 ⟨g, 0, none⟩ sv b (hsvg b hb))
  · intro i t v ht hv
    by_cases hi : i < st.length
    · rw [List.getElem?_append_left hi] at ht
      have hv' : D.vs[i]? = some v := by rwa [List.getElem?_append_left (by rw [h.vl]; exact hi)] at hv
      exact (h.bel i t v ht hv').same (fun b hb => hk.block b (belne i t v b ht hv' hb).2 (belne i t v b ht hv' hb).1)
    · rw [List.getElem?_append_right (by omega)] at ht
      have hv' : ([.slice none 0 0] : List Value)[i - D.vs.length]? = some v := by rwa [List.getElem?_append_right (by rw [h.vl]; omega)] at hv
      cases hd : i - st.length with
      | zero =>
        rw [hd] at ht
        have e1 : s = t := by simpa using ht
        rw [h.vl, hd] at hv'
        have e2 : (.slice none 0 0 : Value) = v := by simpa using hv'
        rw [← e1, ← e2, hb0]
        exact OwnI.nil _ _
      | succ d => rw [hd] at ht; simp at ht
  · intro i j u v b hu hv hub hvb
    have old : ∀ (i : Nat) (u : Value), (D.vs ++ [.slice none 0 0])[i]? = some u → u.ownBlock = some b → D.vs[i]? = some u := fun i u hu hub => by
      by_cases hi : i < D.vs.length
      · rwa [List.getElem?_append_left hi] at hu
      · rw [List.getElem?_append_right (by omega)] at hu
        cases hd : i - D.vs.length with
        | zero =>
          rw [hd] at hu
          have e2 : (.slice none 0 0 : Value) = u := by simpa using hu
          rw [← e2] at hub
          cases hub
        | succ d => rw [hd] at hu; simp at hu
    exact h.apart i j u v b (old i u hu hub) (old j v hv hvb) hub hvb
  · intro t ht
    rcases List.mem_append.1 ht with ht | ht
    · exact h.ok t ht
    · rw [List.mem_singleton] at ht; rw [ht]; exact hs
  · refine h.mp.same (hk.block _ h.mp.lt ?_)
    rintro (e | e)
    · obtain ⟨_, _, cs, hc⟩ := own_lt h.row.2 e
      exact h.mp.ne hc rfl
    · exact h.mp.ne h.box e.symm
  · rintro k (hk | hk | hk | ⟨v, hv, hk⟩)
    · exact .inl (.inl hk)
    · rcases hl with e | e
      · rw [show (RwD.mk sv D.gm (D.vs ++ [.slice none 0 0])).sv = sv from rfl, e] at hk; exact .inl (.inr (.inl hk))
      · rw [show (RwD.mk sv D.gm (D.vs ++ [.slice none 0 0])).sv = sv from rfl, e] at hk; cases hk; exact .inr (Nat.le_refl _)
    · exact .inl (.inr (.inr (.inl hk)))
    · rcases List.mem_append.1 hv with hv | hv
      · exact .inl (.inr (.inr (.inr ⟨v, hv, hk⟩)))
      · rw [List.mem_singleton] at hv; rw [hv] at hk; cases hk
end Go.Proofs.Ytiglenomigipmaa
