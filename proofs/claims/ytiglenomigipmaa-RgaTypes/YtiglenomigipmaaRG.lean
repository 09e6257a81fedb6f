/-
  A ROW IN MEMORY, where one cell is hung below another one: what stays.
-/
import Derived.Test.YtiglenomigipmaaRF
namespace Go.Proofs.Ytiglenomigipmaa
open Go.RowKit Go.Maps Go.WideMaps Go.WideAt Mp
theorem scell_set {s : Stm} (h : s.id.Ok) (v u : Value) (l : List Nat) : (scell s v).set 35 u = scell { s with below := l } u := by
  have h33 := idc_len h
  unfold scell
  rw [List.set_append_right _ _ (by omega), h33]
  rfl
theorem stems_set {st : List Stm} {vs : List Value} (q : Nat) (s : Stm) (v : Value) : (stems st vs).set q (scell s v) = stems (st.set q s) (vs.set q v) := by
  unfold stems
  apply List.ext_getElem?
  intro i
  rw [List.getElem?_zipWith, List.getElem?_set, List.getElem?_set, List.getElem?_set, List.getElem?_zipWith, List.length_zipWith]
  by_cases h : q = i
  · subst h
    simp only [if_true]
    by_cases h1 : q < st.length
    · by_cases h2 : q < vs.length
      · rw [if_pos (by omega), if_pos h1, if_pos h2]
      · rw [if_neg (by omega), if_neg h2]
        cases (if q < st.length then some s else none) <;> rfl
    · rw [if_neg (by omega), if_neg h1]
  · simp [h]
theorem ids_set {st : List Stm} {q : Nat} {s s' : Stm} (h : st[q]? = some s) (he : s'.id = s.id) : (st.set q s').map Stm.id = st.map Stm.id := by
  rw [List.map_set, he]
  apply List.ext_getElem?
  intro i
  rw [List.getElem?_set]
  by_cases e : q = i
  · subst e
    simp only [if_true]
    rw [if_pos (by rw [List.length_map]; exact (List.getElem?_eq_some_iff.1 h).1), List.getElem?_map, h]; rfl
  · simp [e]
/-- The blocks of the stems and of what is below them. -/
def FootS (D : RwD) (k : Nat) : Prop := D.sv.ownBlock = some k ∨ ∃ v ∈ D.vs, v.ownBlock = some k
theorem FootS.foot {g : Nat} {D : RwD} {k : Nat} (h : FootS D k) : Foot g D k := h.elim (fun h => .inr (.inl h)) (fun h => .inr (.inr (.inr h)))
theorem RowAt.hang {W W1 : World} {base g : Nat} {st : List Stm} {D : RwD} (h : RowAt W base g st D) {q gs n cap : Nat} {s : Stm} {v v' : Value} {l' : List Nat} (hs : st[q]? = some s) (hv : D.vs[q]? = some v)
    (hg : W.grownBy W1 v.ownBlock) (ho : OwnI W1 base v' l') (hl : v'.ownBlock = v.ownBlock ∨ ∃ nb, v'.ownBlock = some nb ∧ W.heap.size ≤ nb) (hsv : D.sv = .slice (some ⟨gs, 0, none⟩) n cap) :
    RowAt (W1.setCell ⟨gs, q * 36 + 35, none⟩ v') base g (st.set q { s with below := l' }) { D with vs := D.vs.set q v' } ∧ (∀ k, Foot g { D with vs := D.vs.set q v' } k → Foot g D k ∨ W.heap.size ≤ k) ∧ KeptF (FootS D) W (W1.setCell ⟨gs, q * 36 + 35, none⟩ v') := by
  have hq := (List.getElem?_eq_some_iff.1 hs).1
  have hqv := (List.getElem?_eq_some_iff.1 hv).1
  have hok := h.ok s (List.mem_of_getElem? hs)
  have hbs : D.sv.ownBlock = some gs := by rw [hsv]; rfl
  obtain ⟨_, hgs, scs, hsr⟩ := own_lt h.row.2 hbs
  have hvfoot : ∀ b, v.ownBlock = some b → FootS D b := fun b hb => .inr ⟨v, List.mem_of_getElem? hv, hb⟩
  have hne : v.ownBlock ≠ some gs := fun e => by
    obtain ⟨_, _, cs, hc⟩ := own_lt (h.bel q s v hs hv) e
    exact absurd (hc.ty hsr).1 (by decide)
  have hk1 : KeptF (FootS D) W W1 := KeptF.of_grown hg hvfoot
  have hk2 : KeptF (FootS D) W (W1.setCell ⟨gs, q * 36 + 35, none⟩ v') := hk1.trans (KeptF.set (F := FootS D) W1 ⟨gs, q * 36 + 35, none⟩ v' (.inl hbs)) (fun _ _ h => h)
  have hsr1 : RowIs W1 gs 88 scs := by unfold RowIs; rw [hg.block gs hgs (fun e => hne e.symm)]; exact hsr
  have heap2 : ∀ b, b < W.heap.size → some b ≠ v.ownBlock → b ≠ gs → (W1.setCell ⟨gs, q * 36 + 35, none⟩ v').heap[b]? = W.heap[b]? := fun b hb h1 h2 => (Below.heap_setCell W1 ⟨gs, q * 36 + 35, none⟩ v' b h2).trans (hg.block b hb h1)
  have hv'ne : ∀ b, v'.ownBlock = some b → b ≠ gs := fun b hb e => by
    subst e
    obtain ⟨_, _, cs, hc⟩ := own_lt ho hb
    exact absurd (hc.ty hsr1).1 (by decide)
  have hv'2 : OwnI (W1.setCell ⟨gs, q * 36 + 35, none⟩ v') base v' l' := ho.same (fun b hb => Below.heap_setCell W1 ⟨gs, q * 36 + 35, none⟩ v' b (hv'ne b hb))
  have old : ∀ i u, i ≠ q → (D.vs.set q v')[i]? = some u → D.vs[i]? = some u := fun i u hi hu => by rwa [List.getElem?_set, if_neg (Ne.symm hi)] at hu
  have new : ∀ u, (D.vs.set q v')[q]? = some u → u = v' := fun u hu => by rw [List.getElem?_set, if_pos rfl, if_pos hqv] at hu; exact (Option.some.inj hu).symm
  have oldlt : ∀ (i : Nat) (u : Value) (b : Nat), D.vs[i]? = some u → u.ownBlock = some b → b < W.heap.size ∧ b ≠ gs := fun i u b hu hb => by
    have hil : i < st.length := by rw [← h.vl]; exact (List.getElem?_eq_some_iff.1 hu).1
    obtain ⟨_, h2, cs, hc⟩ := own_lt (h.bel i _ u (List.getElem?_eq_getElem hil) hu) hb
    exact ⟨h2, fun e => by subst e; exact absurd (hc.ty hsr).1 (by decide)⟩
  have foot' : ∀ k, Foot g { D with vs := D.vs.set q v' } k → Foot g D k ∨ W.heap.size ≤ k := fun k hk => by
    rcases hk with hk | hk | hk | ⟨u, hu, hk⟩
    · exact .inl (.inl hk)
    · exact .inl (.inr (.inl hk))
    · exact .inl (.inr (.inr (.inl hk)))
    · rcases List.mem_or_eq_of_mem_set hu with hu | hu
      · exact .inl (.inr (.inr (.inr ⟨u, hu, hk⟩)))
      · subst hu
        rcases hl with e | ⟨nb, e, hnb⟩
        · rw [e] at hk; exact .inl (hvfoot k hk).foot
        · rw [e] at hk; cases hk; exact .inr hnb
  refine ⟨⟨?_, ?_, ?_, ?_, ?_, ?_, ?_, ?_, h.gb, h.mb, ?_⟩, foot', hk2⟩
  · have hgn : g ≠ gs := fun e => by subst e; exact absurd (h.box.ty hsr).1 (by decide)
    have hgv : some g ≠ v.ownBlock := fun e => by
      obtain ⟨_, _, cs, hc⟩ := own_lt (h.bel q s v hs hv) e.symm
      exact absurd (h.box.ty hc).1 (by decide)
    unfold RowIs
    rw [heap2 g h.box.lt hgv hgn]
    exact h.box
  · have h1 : OwnL W1 base 88 36 D.sv (stems st D.vs) := h.row.same (fun b hb => by
      rw [hbs] at hb; cases hb
      exact hg.block gs hgs (fun e => hne e.symm))
    rw [hsv] at h1
    have h2 := h1.set (stems_get hs hv) (j := 35) (by omega) v'
    rw [scell_set hok v v' l', stems_set] at h2
    show OwnL _ base 88 36 D.sv _
    rw [hsv]
    exact h2
  · simp [h.vl]
  · intro i t u ht hu
    by_cases e : i = q
    · subst e
      rw [new u hu]
      rw [List.getElem?_set, if_pos rfl, if_pos hq] at ht
      cases ht
      exact hv'2
    · rw [List.getElem?_set, if_neg (Ne.symm e)] at ht
      have hu' := old i u e hu
      refine (h.bel i t u ht hu').same (fun b hb => ?_)
      obtain ⟨hb1, hb2⟩ := oldlt i u b hu' hb
      exact heap2 b hb1 (fun e2 => e (h.apart i q u v b hu' hv hb e2.symm)) hb2
  · intro i j u t b hu ht hub htb
    by_cases ei : i = q
    · by_cases ej : j = q
      · rw [ei, ej]
      · subst ei
        have hu' := new u hu
        subst hu'
        have ht' := old j t ej ht
        rcases hl with e | ⟨nb, e, hnb⟩
        · rw [e] at hub
          exact h.apart i j v t b hv ht' hub htb
        · rw [e] at hub; cases hub
          have := (oldlt j t b ht' htb).1
          omega
    · have hu' := old i u ei hu
      by_cases ej : j = q
      · subst ej
        have ht' := new t ht
        subst ht'
        rcases hl with e | ⟨nb, e, hnb⟩
        · rw [e] at htb
          exact h.apart i j u v b hu' hv hub htb
        · rw [e] at htb; cases htb
          have := (oldlt i u b hu' hub).1
          omega
      · exact h.apart i j u t b hu' (old j t ej ht) hub htb
  · have hm : D.gm ≠ gs := fun e => h.mp.ne hsr e.symm
    have hmv : some D.gm ≠ v.ownBlock := fun e => by
      obtain ⟨_, _, cs, hc⟩ := own_lt (h.bel q s v hs hv) e.symm
      exact h.mp.ne hc rfl
    exact (h.mp.same (heap2 D.gm h.mp.lt hmv hm)).ids (ids_set hs rfl)
  · intro t ht
    rcases List.mem_or_eq_of_mem_set ht with ht | ht
    · exact h.ok t ht
    · rw [ht]; exact hok
  · intro e
    have := congrArg List.length e
    rw [List.length_set] at this
    exact h.pos (List.eq_nil_of_length_eq_zero this)
  · exact Nat.le_trans h.bs hk2.size
end Go.Proofs.Ytiglenomigipmaa
