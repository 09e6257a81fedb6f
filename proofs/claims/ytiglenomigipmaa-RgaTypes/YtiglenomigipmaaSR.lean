/-
  The tree in order: what is below one, in the program's words and in the reference's.
-/
import Derived.Test.YtiglenomigipmaaSQ
namespace Go.Proofs.Ytiglenomigipmaa
open Go.RowKit Go.Shelf
/-- A place, and all below it, in order. -/
def sb (st : List Stm) : Nat → Nat → List Nat
  | 0, _ => []
  | n + 1, t => t :: (stAt st t).below.reverse.flatMap (sb st n)
/-- All cells below one, in order. -/
def bl (l : List RC) : Nat → Idn → List RC
  | 0, _ => []
  | n + 1, x => (kids l x).flatMap (fun k => k :: bl l n k.id)
theorem Reach.subs {st : List Stm} {n : Nat} (ih : ∀ (V T : List Nat) (t : Nat), t < st.length → st.length - t ≤ n → Reach st V (T ++ [t]) → Reach st (V ++ sb st n t) T) (B : List Nat) : ∀ (V T : List Nat), (∀ b ∈ B, b < st.length ∧ st.length - b ≤ n) → Reach st V (T ++ B) → Reach st (V ++ B.reverse.flatMap (sb st n)) T := by
  refine snoc_ind (P := fun B => ∀ (V T : List Nat), (∀ b ∈ B, b < st.length ∧ st.length - b ≤ n) → Reach st V (T ++ B) → Reach st (V ++ B.reverse.flatMap (sb st n)) T) (fun V T _ h => by simpa using h) (fun B b ihB V T hB h => ?_) B
  have hb := hB b (by simp)
  rw [← List.append_assoc] at h
  have h2 := ih V (T ++ B) b hb.1 hb.2 h
  have h3 := ihB _ _ (fun x hx => hB x (by simp [hx])) h2
  simpa [List.append_assoc] using h3
theorem Reach.sub {st : List Stm} (hw : Wf st) : ∀ (n : Nat) (V T : List Nat) (t : Nat), t < st.length → st.length - t ≤ n → Reach st V (T ++ [t]) → Reach st (V ++ sb st n t) T
  | 0, _, _, t, ht, hn, _ => by omega
  | n + 1, V, T, t, ht, hn, h => by
    obtain ⟨s, hs⟩ : ∃ s, st[t]? = some s := ⟨_, List.getElem?_eq_getElem ht⟩
    have h2 := Reach.step h hs
    have h3 := Reach.subs (Reach.sub hw n) s.below _ _ (fun b hb => by have := hw.bel t s hs b hb; exact ⟨this.2, by omega⟩) h2
    show Reach st (V ++ t :: (stAt st t).below.reverse.flatMap (sb st n)) T
    rw [stAt_of hs]
    simpa [List.append_assoc] using h3
/-- The order, told from the root. -/
theorem Reach.top {st : List Stm} (hw : Wf st) {U : List Nat} (hU : Reach st U []) {n : Nat} (hn : st.length ≤ n) {r : Stm} (hr : st[0]? = some r) : U = r.below.reverse.flatMap (sb st n) := by
  have h := Reach.subs (Reach.sub hw n) r.below [] [] (fun b hb => by have := hw.bel 0 r hr b hb; exact ⟨this.2, by omega⟩) (by simpa using Reach.start hr)
  exact hU.uniq (by simpa using h)
theorem flatMap_congr' {α β : Type} {f g : α → List β} : ∀ {L : List α}, (∀ a ∈ L, f a = g a) → L.flatMap f = L.flatMap g
  | [], _ => rfl
  | a :: L, h => by rw [List.flatMap_cons, List.flatMap_cons, h a (by simp), flatMap_congr' (fun b hb => h b (by simp [hb]))]
theorem bl_sb {st : List Stm} {l : List RC} (hw : Wf st) (hL : Lnk st l) (hK : Kid st l) : ∀ (n t : Nat) (s : Stm), st[t]? = some s → bl l n s.id = (s.below.reverse.flatMap (sb st n)).map (fun b => cl l (b - 1))
  | 0, t, s, hs => by
    have : s.below.reverse.flatMap (sb st 0) = [] := by
      rw [List.flatMap_eq_nil_iff]; intro x _; rfl
    rw [this]; rfl
  | n + 1, t, s, hs => by
    show (kids l s.id).flatMap (fun k => k :: bl l n k.id) = _
    rw [kids_kP, hK.kid t s hs, List.map_map, List.flatMap_map, List.map_flatMap]
    refine flatMap_congr' (fun b hb => ?_)
    have hb := List.mem_reverse.1 hb
    have hbb := hw.bel t s hs b hb
    obtain ⟨u, hu⟩ : ∃ u, st[b]? = some u := ⟨_, List.getElem?_eq_getElem hbb.2⟩
    obtain ⟨d, hd, h5, _⟩ := hL.cl (by omega) hu
    show cl l (b - 1) :: bl l n (cl l (b - 1)).id = (b :: (stAt st b).below.reverse.flatMap (sb st n)).map _
    rw [stAt_of hu, List.map_cons, ← bl_sb hw hL hK n b u hu, cl_of hd, h5]
/-- The order's cells. -/
theorem bl_top {st : List Stm} {l : List RC} (hw : Wf st) (hL : Lnk st l) (hK : Kid st l) {U : List Nat} (hU : Reach st U []) {n : Nat} (hn : st.length ≤ n) : bl l n zId = U.map (fun b => cl l (b - 1)) := by
  obtain ⟨r, hr, hz, _⟩ := hw.root
  rw [hU.top hw hn hr, ← hz]
  exact bl_sb hw hL hK n 0 r hr
/-- How many have a greater number. -/
def cnt (l : List RC) (x : Idn) : Nat := (l.filter (fun c => decide (x.c < c.id.c))).length
theorem filter_lt {α : Type} {p q : α → Bool} (hpq : ∀ a, p a = true → q a = true) : ∀ {L : List α}, (∃ a ∈ L, p a = false ∧ q a = true) → (L.filter p).length < (L.filter q).length
  | [], h => by obtain ⟨a, ha, _⟩ := h; cases ha
  | x :: L, h => by
    have hle : ∀ L : List α, (L.filter p).length ≤ (L.filter q).length := by
      intro L
      induction L with
      | nil => simp
      | cons y L ih =>
        by_cases hp : p y = true
        · simp [hp, hpq y hp]; exact ih
        · by_cases hq : q y = true
          · simp [hp, hq]; omega
          · simp [hp, hq]; exact ih
    obtain ⟨a, ha, h1, h2⟩ := h
    rcases List.mem_cons.1 ha with rfl | ha
    · rw [List.filter_cons_of_neg (by simp [h1]), List.filter_cons_of_pos h2, List.length_cons]
      have := hle L
      omega
    · have ih := filter_lt hpq (L := L) ⟨a, ha, h1, h2⟩
      by_cases hp : p x = true
      · simp [hp, hpq x hp]; exact ih
      · by_cases hq : q x = true
        · simp [hp, hq]; omega
        · simp [hp, hq]; exact ih
theorem kid_cnt {l : List RC} (hlt : ∀ c ∈ l, c.af.c < c.id.c) {x : Idn} {k : RC} (hk : k ∈ kids l x) : cnt l k.id < cnt l x := by
  obtain ⟨h1, h2⟩ := (mem_gKids l).1 hk
  have h3 := hlt k h1
  rw [h2] at h3
  refine filter_lt (fun a ha => ?_) ⟨k, h1, by simp, by simpa using h3⟩
  have : k.id.c < a.id.c := by simpa using ha
  simp only [decide_eq_true_eq]; omega
theorem bl_more {l : List RC} (hlt : ∀ c ∈ l, c.af.c < c.id.c) : ∀ (m : Nat) (x : Idn), cnt l x ≤ m → ∀ n, m ≤ n → bl l n x = bl l m x
  | 0, x, hm, n, _ => by
    have hk : kids l x = [] := by
      rw [List.eq_nil_iff_forall_not_mem]
      intro k hk
      have := kid_cnt hlt hk
      omega
    cases n with
    | zero => rfl
    | succ n => show (kids l x).flatMap _ = []; rw [hk]; rfl
  | m + 1, x, hm, n, hn => by
    obtain ⟨n, rfl⟩ : ∃ k, n = k + 1 := ⟨n - 1, by omega⟩
    show (kids l x).flatMap _ = (kids l x).flatMap _
    refine flatMap_congr' (fun k hk => ?_)
    have := kid_cnt hlt hk
    rw [bl_more hlt m k.id (by omega) n (by omega)]
theorem cnt_le (l : List RC) (x : Idn) : cnt l x ≤ l.length := List.length_filter_le _ _
theorem sb_len {st : List Stm} (hw : Wf st) {n : Nat} (hn : st.length ≤ n) {t : Nat} {s : Stm} (hs : st[t]? = some s) : (s.below.reverse.flatMap (sb st n)).length ≤ st.length := by
  by_cases h0 : t = 0
  · subst h0
    obtain ⟨U, hU⟩ := hw.order
    have := hU.top hw hn hs
    rw [← this]
    have := hw.few hU
    simpa using this
  · have htl := (List.getElem?_eq_some_iff.1 hs).1
    obtain ⟨U, hU⟩ := hw.order
    have hm := hw.whole hU t (by omega) htl
    obtain ⟨k, hk⟩ := List.getElem?_of_mem hm
    have hkl := (List.getElem?_eq_some_iff.1 hk).1
    obtain ⟨T', hT', hne⟩ := hU.pre k hkl
    rcases List.eq_nil_or_concat T' with rfl | ⟨T, t', rfl⟩
    · exact absurd rfl hne
    rw [List.concat_eq_append] at hT'
    have hin := hw.in hT' t' (by simp)
    obtain ⟨s', hs'⟩ : ∃ s', st[t']? = some s' := ⟨_, List.getElem?_eq_getElem hin⟩
    have hstep := Reach.step hT' hs'
    have hpre := hstep.prefix hU
    have e : t' = t := by
      have h9 : (U.take k ++ [t'])[k]? = some t' := by
        rw [List.getElem?_append_right (by rw [List.length_take]; omega)]
        have : (U.take k).length = k := by rw [List.length_take]; omega
        rw [this]; simp
      rw [hpre] at h9
      have h10 : (U.take k ++ [t']).length = k + 1 := by rw [List.length_append, List.length_take]; simp; omega
      rw [h10, List.getElem?_take_of_lt (by omega), hk] at h9
      exact (Option.some.inj h9).symm
    subst e
    rw [hs] at hs'; cases hs'
    have h3 := Reach.subs (Reach.sub hw n) s.below _ _ (fun b hb => by have := hw.bel t' s hs b hb; exact ⟨this.2, by omega⟩) hstep
    have := hw.few h3
    simp at this ⊢
    omega
theorem bl_len {st : List Stm} {l : List RC} (hw : Wf st) (hL : Lnk st l) (hK : Kid st l) {m : Nat} {x : Idn} (hm : cnt l x ≤ m) : (bl l m x).length ≤ st.length := by
  by_cases hx : ∃ (i : Nat) (s : Stm), st[i]? = some s ∧ s.id = x
  · obtain ⟨i, s, hs, rfl⟩ := hx
    rw [← bl_more hK.lt m _ hm (m + st.length) (by omega), bl_sb hw hL hK _ i s hs, List.length_map]
    exact sb_len hw (by omega) hs
  · have hk : kids l x = [] := by
      rw [List.eq_nil_iff_forall_not_mem]
      intro k hk
      obtain ⟨h1, h2⟩ := (mem_gKids l).1 hk
      obtain ⟨i, s, hs, he⟩ := hK.aft k h1
      exact hx ⟨i, s, hs, he.trans h2⟩
    cases m with
    | zero => simp [bl]
    | succ m => show ((kids l x).flatMap _).length ≤ _; rw [hk]; simp
end Go.Proofs.Ytiglenomigipmaa
