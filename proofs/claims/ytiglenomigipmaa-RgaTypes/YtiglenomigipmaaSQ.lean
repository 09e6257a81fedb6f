/-
  THE REFERENCE'S TREE, in places; and that its order is the program's.
-/
import Derived.Test.YtiglenomigipmaaSP
namespace Go.Proofs.Ytiglenomigipmaa
open Go.RowKit Go.Shelf
/-- A thing is put in ahead of the first one that it is not less than. -/
def gIns {α : Type} (f : α → Idn) (c : α) : List α → List α
  | [] => [c]
  | k :: l => if ltI (f c) (f k) then k :: gIns f c l else c :: k :: l
def gKids {α : Type} (f fa : α → Idn) (x : Idn) (l : List α) : List α := l.foldl (fun ks c => if fa c = x then gIns f c ks else ks) []
theorem gIns_map {α β : Type} (f : β → Idn) (h : α → β) (a : α) : ∀ L : List α, gIns f (h a) (L.map h) = (gIns (fun a => f (h a)) a L).map h
  | [] => rfl
  | k :: L => by
    simp only [gIns, List.map_cons]
    split
    · simp [gIns_map f h a L]
    · simp
theorem gKids_snoc {α : Type} (f fa : α → Idn) (x : Idn) (L : List α) (c : α) : gKids f fa x (L ++ [c]) = if fa c = x then gIns f c (gKids f fa x L) else gKids f fa x L := by simp [gKids, List.foldl_append]
theorem snoc_ind {α : Type} {P : List α → Prop} (h0 : P []) (h1 : ∀ L c, P L → P (L ++ [c])) (L : List α) : P L := by
  have : ∀ n (L : List α), L.length = n → P L := by
    intro n
    induction n with
    | zero => intro L hL; rw [List.eq_nil_of_length_eq_zero hL]; exact h0
    | succ n ih =>
      intro L hL
      rcases List.eq_nil_or_concat L with rfl | ⟨L', c, rfl⟩
      · simp at hL
      · rw [List.concat_eq_append] at hL ⊢
        exact h1 L' c (ih L' (by simpa using hL))
  exact this L.length L rfl
theorem gKids_map {α β : Type} (f fa : β → Idn) (x : Idn) (h : α → β) (L : List α) : gKids f fa x (L.map h) = (gKids (fun a => f (h a)) (fun a => fa (h a)) x L).map h := by
  refine snoc_ind (P := fun L => gKids f fa x (L.map h) = (gKids (fun a => f (h a)) (fun a => fa (h a)) x L).map h) rfl (fun L c ih => ?_) L
  rw [List.map_append, List.map_cons, List.map_nil, gKids_snoc, gKids_snoc, ih]
  split
  · exact gIns_map f h c _
  · rfl
theorem mem_gIns {α : Type} {f : α → Idn} {c a : α} : ∀ {L : List α}, a ∈ gIns f c L ↔ a = c ∨ a ∈ L
  | [] => by simp [gIns]
  | k :: L => by
    have ih := mem_gIns (f := f) (c := c) (a := a) (L := L)
    simp only [gIns]
    split
    · simp only [List.mem_cons, ih]
      constructor
      · rintro (h | h | h)
        · exact .inr (.inl h)
        · exact .inl h
        · exact .inr (.inr h)
      · rintro (h | h | h)
        · exact .inr (.inl h)
        · exact .inl h
        · exact .inr (.inr h)
    · simp
theorem mem_gKids {α : Type} {f fa : α → Idn} {x : Idn} {a : α} (L : List α) : a ∈ gKids f fa x L ↔ a ∈ L ∧ fa a = x := by
  refine snoc_ind (P := fun L => a ∈ gKids f fa x L ↔ a ∈ L ∧ fa a = x) (by simp [gKids]) (fun L c ih => ?_) L
  rw [gKids_snoc]
  by_cases e : fa c = x
  · rw [if_pos e, mem_gIns, ih]
    simp only [List.mem_append, List.mem_singleton]
    constructor
    · rintro (rfl | ⟨h1, h2⟩)
      · exact ⟨.inr rfl, e⟩
      · exact ⟨.inl h1, h2⟩
    · rintro ⟨h1 | h1, h2⟩
      · exact .inr ⟨h1, h2⟩
      · exact .inl h1
  · rw [if_neg e, ih]
    simp only [List.mem_append, List.mem_singleton]
    constructor
    · rintro ⟨h1, h2⟩; exact ⟨.inl h1, h2⟩
    · rintro ⟨h1 | rfl, h2⟩
      · exact ⟨h1, h2⟩
      · exact absurd h2 e
theorem gIns_congr {α : Type} {f f' : α → Idn} {c : α} (hc : f c = f' c) : ∀ {L : List α}, (∀ k ∈ L, f k = f' k) → gIns f c L = gIns f' c L
  | [], _ => rfl
  | k :: L, h => by
    have ih := gIns_congr (f := f) (f' := f') hc (L := L) (fun k hk => h k (by simp [hk]))
    simp only [gIns, hc, h k (by simp), ih]
theorem gKids_congr {α : Type} {f f' fa fa' : α → Idn} {x : Idn} (L : List α) : (∀ a ∈ L, f a = f' a ∧ fa a = fa' a) → gKids f fa x L = gKids f' fa' x L := by
  refine snoc_ind (P := fun L => (∀ a ∈ L, f a = f' a ∧ fa a = fa' a) → gKids f fa x L = gKids f' fa' x L) (fun _ => rfl) (fun L c ih h => ?_) L
  have h1 := ih (fun a ha => h a (by simp [ha]))
  have h2 := h c (by simp)
  rw [gKids_snoc, gKids_snoc, ← h1, h2.2]
  split
  · exact gIns_congr h2.1 (fun k hk => (h k (by simp [((mem_gKids L).1 hk).1])).1)
  · rfl
def cl (l : List RC) (p : Nat) : RC := match l[p]? with | some c => c | none => ⟨zId, zId, 0, false⟩
theorem cl_of {l : List RC} {p : Nat} {c : RC} (h : l[p]? = some c) : cl l p = c := by unfold cl; rw [h]
theorem range_cl (l : List RC) : (List.range l.length).map (cl l) = l := by
  apply List.ext_getElem?
  intro i
  rw [List.getElem?_map]
  by_cases hi : i < l.length
  · rw [List.getElem?_range hi, List.getElem?_eq_getElem hi]
    exact congrArg some (cl_of (List.getElem?_eq_getElem hi))
  · rw [List.getElem?_eq_none (by simpa using hi), List.getElem?_eq_none (by omega)]; rfl
/-- The places of those right below one, the greatest id first. -/
def kP (l : List RC) (x : Idn) : List Nat := gKids (fun p => (cl l p).id) (fun p => (cl l p).af) x (List.range l.length)
def kids (l : List RC) (x : Idn) : List RC := gKids RC.id RC.af x l
theorem kids_kP (l : List RC) (x : Idn) : kids l x = (kP l x).map (cl l) := by
  have := gKids_map RC.id RC.af x (cl l) (List.range l.length)
  rw [range_cl] at this
  exact this
theorem cl_left {l : List RC} {c : RC} {p : Nat} (h : p < l.length) : cl (l ++ [c]) p = cl l p := by unfold cl; rw [List.getElem?_append_left h]
theorem cl_new {l : List RC} {c : RC} : cl (l ++ [c]) l.length = c := cl_of (by simp)
theorem kP_snoc (l : List RC) (c : RC) (x : Idn) : kP (l ++ [c]) x = if c.af = x then gIns (fun p => (cl (l ++ [c]) p).id) l.length (kP l x) else kP l x := by
  have e : gKids (fun p => (cl (l ++ [c]) p).id) (fun p => (cl (l ++ [c]) p).af) x (List.range l.length) = kP l x :=
    gKids_congr _ (fun p hp => by rw [cl_left (List.mem_range.1 hp)]; exact ⟨rfl, rfl⟩)
  unfold kP at e ⊢
  rw [List.length_append, List.length_singleton, List.range_succ, gKids_snoc, e, cl_new]
theorem kP_nil {l : List RC} {x : Idn} (h : ∀ c ∈ l, c.af ≠ x) : kP l x = [] := by
  rw [List.eq_nil_iff_forall_not_mem]
  intro p hp
  obtain ⟨h1, h2⟩ := (mem_gKids _).1 hp
  have h3 := List.mem_range.1 h1
  rw [cl_of (List.getElem?_eq_getElem h3)] at h2
  exact h _ (List.getElem_mem h3) h2
structure Kid (st : List Stm) (l : List RC) : Prop where
  kid : ∀ (i : Nat) (s : Stm), st[i]? = some s → kP l s.id = s.below.reverse.map (· - 1)
  aft : ∀ c ∈ l, ∃ (i : Nat) (s : Stm), st[i]? = some s ∧ s.id = c.af
  lt : ∀ c ∈ l, c.af.c < c.id.c
theorem kid_nil : Kid [root] [] := by
  refine ⟨fun i s h => ?_, fun c hc => (by cases hc), fun c hc => (by cases hc)⟩
  cases i with
  | zero => obtain rfl : root = s := by simpa using h
            rfl
  | succ i => simp at h
theorem Lnk.len {st : List Stm} {l : List RC} (h : Lnk st l) : st.length = l.length + 1 := by
  have h1 := congrArg List.length h.ids
  simp at h1
  have h2 : 0 < st.length := List.length_pos_iff.2 h.ne
  omega
theorem tail_get {α : Type} {l : List α} {b : Nat} (hb : 0 < b) : l.tail[b - 1]? = l[b]? := by
  rw [List.getElem?_tail]; congr 1; omega
theorem Lnk.cl {st : List Stm} {l : List RC} (h : Lnk st l) {b : Nat} {u : Stm} (hb : 0 < b) (hu : st[b]? = some u) : ∃ c, l[b - 1]? = some c ∧ c.id = u.id ∧ c.ch = u.ch ∧ c.gone = u.gone := by
  have hl := (List.getElem?_eq_some_iff.1 hu).1
  have hn := h.len
  obtain ⟨c, hc⟩ : ∃ c, l[b - 1]? = some c := ⟨_, List.getElem?_eq_getElem (by omega)⟩
  refine ⟨c, hc, ?_, ?_, ?_⟩
  · have := congrArg (fun L => L[b - 1]?) h.ids
    simp only [List.getElem?_map, tail_get hb, hu, hc, Option.map_some, Option.some.injEq] at this
    exact this.symm
  · have := congrArg (fun L => L[b - 1]?) h.chs
    simp only [List.getElem?_map, tail_get hb, hu, hc, Option.map_some, Option.some.injEq] at this
    exact this.symm
  · have := congrArg (fun L => L[b - 1]?) h.gon
    simp only [List.getElem?_map, tail_get hb, hu, hc, Option.map_some, Option.some.injEq] at this
    exact this.symm
theorem Wf.inj {st : List Stm} (h : Wf st) {i j : Nat} {s t : Stm} (hs : st[i]? = some s) (ht : st[j]? = some t) (e : s.id = t.id) : i = j := by
  obtain ⟨r, hr, hz, _⟩ := h.root
  by_cases hi : i = 0
  · subst hi
    rw [hr] at hs; cases hs
    by_cases hj : j = 0
    · exact hj.symm
    · have := h.pos j t (by omega) ht
      rw [← e, hz] at this
      exact absurd this (by decide)
  · by_cases hj : j = 0
    · subst hj
      rw [hr] at ht; cases ht
      have := h.pos i s (by omega) hs
      rw [e, hz] at this
      exact absurd this (by decide)
    · exact h.uniq i j s t (by omega) (by omega) hs ht e
theorem split_mono {α : Type} {R : α → α → Prop} {f : α → Bool} (hm : ∀ a b, R a b → f a = true → f b = true) : ∀ {L : List α}, L.Pairwise R → ∃ A B, L = A ++ B ∧ (∀ a ∈ A, f a = false) ∧ (∀ b ∈ B, f b = true)
  | [], _ => ⟨[], [], rfl, by simp, by simp⟩
  | x :: L, h => by
    rw [List.pairwise_cons] at h
    cases hf : f x with
    | true => exact ⟨[], x :: L, rfl, by simp, fun b hb => by
        rcases List.mem_cons.1 hb with e | hb
        · rw [e]; exact hf
        · exact hm x b (h.1 b hb) hf⟩
    | false =>
      obtain ⟨A, B, e, h1, h2⟩ := split_mono hm h.2
      exact ⟨x :: A, B, by rw [e]; rfl, fun a ha => by
        rcases List.mem_cons.1 ha with e | ha
        · rw [e]; exact hf
        · exact h1 a ha, h2⟩
theorem sIns_split {f : Nat → Bool} {p : Nat} : ∀ {A B : List Nat}, (∀ a ∈ A, f a = false) → (∀ b ∈ B, f b = true) → sIns f p (A ++ B) = A ++ p :: B
  | [], [], _, _ => rfl
  | [], b :: B, _, h => by simp [sIns, h b (by simp)]
  | a :: A, B, h1, h2 => by
    have ih := sIns_split (f := f) (p := p) (A := A) (B := B) (fun a ha => h1 a (by simp [ha])) h2
    simp [sIns, h1 a (by simp), ih]
theorem gIns_split {α : Type} {f : α → Idn} {c : α} : ∀ {B A : List α}, (∀ b ∈ B, ltI (f c) (f b) = true) → (∀ a ∈ A, ltI (f c) (f a) = false) → gIns f c (B ++ A) = B ++ c :: A
  | [], [], _, _ => rfl
  | [], a :: A, _, h => by simp [gIns, h a (by simp)]
  | b :: B, A, h1, h2 => by
    have ih := gIns_split (f := f) (c := c) (B := B) (A := A) (fun a ha => h1 a (by simp [ha])) h2
    simp [gIns, h1 b (by simp), ih]
theorem Kid.put {st : List Stm} {l : List RC} (h : Kid st l) (hL : Lnk st l) (hw : Wf st) {q : Nat} {s : Stm} (hq : st[q]? = some s) {af id : Idn} (haf : s.id = af) (hn : plc st id = none) (h1 : 1 ≤ id.c) (hlt : af.c < id.c) (c : UInt8) : Kid (insS st q s id c) (l ++ [⟨id, af, c, false⟩]) := by
  have hlen := hL.len
  have hql := (List.getElem?_eq_some_iff.1 hq).1
  obtain ⟨r, hr, hz, _⟩ := hw.root
  have hnew : ∀ (i : Nat) (t : Stm), st[i]? = some t → t.id ≠ id := fun i t ht e => by
    by_cases hi : i = 0
    · subst hi; rw [hr] at ht; cases ht
      rw [← e, hz] at h1; exact absurd h1 (by decide)
    · exact plc_none hn (by omega) ht e
  refine ⟨fun i t ht => ?_, fun d hd => ?_, fun d hd => ?_⟩
  · rcases ins_get hq ht with ⟨rfl, rfl⟩ | ⟨h2, _, h3⟩ | ⟨_, rfl⟩
    · rw [kP_snoc]
      show (if af = s.id then _ else _) = (sIns (fun b => ltI id (idAt st b)) st.length s.below).reverse.map (· - 1)
      rw [if_pos haf.symm, h.kid i s hq]
      obtain ⟨A, B, hAB, hA, hB⟩ := split_mono (f := fun b => ltI id (idAt st b)) (fun a b hab hf => ltI_trans hf hab) (hw.srt i s hq)
      have idb : ∀ b ∈ s.below, (Go.Proofs.Ytiglenomigipmaa.cl (l ++ [⟨id, af, c, false⟩]) (b - 1)).id = idAt st b := fun b hb => by
        have hbb := hw.bel i s hq b hb
        obtain ⟨u, hu⟩ : ∃ u, st[b]? = some u := ⟨_, List.getElem?_eq_getElem hbb.2⟩
        obtain ⟨d, hd, h5, _⟩ := hL.cl (by omega) hu
        rw [cl_left (by omega), cl_of hd, h5, idAt_of hu]
      rw [hAB] at idb ⊢
      rw [sIns_split hA hB, List.reverse_append, List.map_append, gIns_split]
      · simp [hlen]
      · intro x hx
        obtain ⟨b, hb, rfl⟩ := List.mem_map.1 hx
        have hb := List.mem_reverse.1 hb
        show ltI (Go.Proofs.Ytiglenomigipmaa.cl _ _).id (Go.Proofs.Ytiglenomigipmaa.cl _ _).id = true
        rw [idb b (by simp [hb]), cl_new]; exact hB b hb
      · intro x hx
        obtain ⟨b, hb, rfl⟩ := List.mem_map.1 hx
        have hb := List.mem_reverse.1 hb
        show ltI (Go.Proofs.Ytiglenomigipmaa.cl _ _).id (Go.Proofs.Ytiglenomigipmaa.cl _ _).id = false
        rw [idb b (by simp [hb]), cl_new]; exact hA b hb
    · rw [kP_snoc, if_neg (fun e => h2 (hw.inj h3 hq (by rw [haf]; exact e.symm)))]
      exact h.kid i t h3
    · rw [kP_snoc, if_neg (fun e => by have e : af = id := e; rw [e] at hlt; exact absurd hlt (Int.lt_irrefl _))]
      refine kP_nil (fun d hd e => ?_)
      obtain ⟨j, u, hu, hx⟩ := h.aft d hd
      exact hnew j u hu (hx.trans e)
  · have old : ∀ (j : Nat) (u : Stm), st[j]? = some u → ∃ (i : Nat) (t : Stm), (insS st q s id c)[i]? = some t ∧ t.id = u.id := fun j u hu => by
      by_cases e : j = q
      · subst e; rw [hq] at hu; cases hu
        exact ⟨j, _, ins_at hq, rfl⟩
      · exact ⟨j, u, ins_old hu e, rfl⟩
    rcases List.mem_append.1 hd with hd | hd
    · obtain ⟨j, u, hu, hx⟩ := h.aft d hd
      obtain ⟨i, t, ht, he⟩ := old j u hu
      exact ⟨i, t, ht, he.trans hx⟩
    · rw [List.mem_singleton] at hd
      subst hd
      obtain ⟨i, t, ht, he⟩ := old q s hq
      exact ⟨i, t, ht, he.trans haf⟩
  · rcases List.mem_append.1 hd with hd | hd
    · exact h.lt d hd
    · rw [List.mem_singleton] at hd
      subst hd
      exact hlt
theorem Kid.ins {st : List Stm} {l : List RC} (h : Kid st l) (hL : Lnk st l) (hw : Wf st) (af id : Idn) (c : UInt8) : Kid (insF st af id c) (rIns l af id c) := by
  unfold insF rIns
  rw [← hL.insE]
  split
  · rename_i he
    obtain ⟨s, hs⟩ := hw.place af
    rw [stAt_of hs]
    unfold Go.Proofs.Ytiglenomigipmaa.insE at he
    by_cases g1 : id.c < 1 ∨ id.c ≤ af.c
    · rw [if_pos g1] at he; cases he
    rw [if_neg g1] at he
    by_cases g2 : (plc st id).isSome = true
    · rw [if_pos g2] at he; cases he
    rw [if_neg g2] at he
    have g3 : ¬ (af ≠ zId ∧ (plc st af).isSome = false) := fun e => by rw [if_pos e] at he; cases he
    refine h.put hL hw hs ?_ (by simpa using g2) (by omega) (by omega) c
    cases hp : plc st af with
    | none =>
      have : af = zId := Classical.byContradiction fun e => g3 ⟨e, by rw [hp]; rfl⟩
      obtain ⟨r, hr, hz, _⟩ := hw.root
      rw [hp] at hs
      have hs : st[0]? = some s := hs
      rw [hr] at hs; cases hs
      rw [this]; exact hz
    | some k =>
      obtain ⟨_, t, ht, hx⟩ := plc_at hp
      rw [hp] at hs
      have hs : st[k]? = some s := hs
      rw [ht] at hs; cases hs
      exact hx
  · exact h
theorem cl_set {l : List RC} {i : Nat} {c : RC} (hc : l[i]? = some c) (p : Nat) : (cl (l.set i { c with gone := true }) p).id = (cl l p).id ∧ (cl (l.set i { c with gone := true }) p).af = (cl l p).af := by
  by_cases e : i = p
  · subst e
    have : (l.set i { c with gone := true })[i]? = some { c with gone := true } := by rw [List.getElem?_set, if_pos rfl, if_pos (List.getElem?_eq_some_iff.1 hc).1]
    rw [cl_of this, cl_of hc]; exact ⟨rfl, rfl⟩
  · have : (l.set i { c with gone := true })[p]? = l[p]? := by rw [List.getElem?_set, if_neg e]
    unfold cl
    rw [this]
    exact ⟨rfl, rfl⟩
theorem kP_set {l : List RC} {i : Nat} {c : RC} (hc : l[i]? = some c) (x : Idn) : kP (l.set i { c with gone := true }) x = kP l x := by
  unfold kP
  rw [List.length_set]
  exact gKids_congr _ (fun p _ => cl_set hc p)
theorem Kid.rem {st : List Stm} {l : List RC} (h : Kid st l) (hL : Lnk st l) (x : Idn) : Kid (remF st x) (rRem l x) := by
  unfold remF rRem
  rw [hL.plc x]
  cases hp : rplc l x with
  | none => exact h
  | some i =>
    obtain ⟨c, hc, hcx⟩ := rplc_get hp
    obtain ⟨s, hs, _⟩ := (plc_at (show Go.Proofs.Ytiglenomigipmaa.plc st x = some (i + 1) by rw [hL.plc x, hp]; rfl)).2
    show Kid (st.set (i + 1) { stAt st (i + 1) with gone := true }) (match l[i]? with | some c => l.set i { c with gone := true } | none => l)
    rw [hc, stAt_of hs]
    show Kid (st.set (i + 1) { s with gone := true }) (l.set i { c with gone := true })
    have old : ∀ d ∈ l.set i { c with gone := true }, ∃ d' ∈ l, d.id = d'.id ∧ d.af = d'.af := fun d hd => by
      rcases List.mem_or_eq_of_mem_set hd with h1 | rfl
      · exact ⟨d, h1, rfl, rfl⟩
      · exact ⟨c, List.mem_of_getElem? hc, rfl, rfl⟩
    refine ⟨fun j t ht => ?_, fun d hd => ?_, fun d hd => ?_⟩
    · obtain ⟨u, hu, e1, e2, _⟩ := gone_get hs ht
      rw [kP_set hc, e1, e2]; exact h.kid j u hu
    · obtain ⟨d', hd', _, e2⟩ := old d hd
      obtain ⟨j, u, hu, hx⟩ := h.aft d' hd'
      obtain ⟨t, ht, e3, _⟩ := gone_put hs hu
      exact ⟨j, t, ht, by rw [e3, e2]; exact hx⟩
    · obtain ⟨d', hd', e1, e2⟩ := old d hd
      rw [e1, e2]; exact h.lt d' hd'
end Go.Proofs.Ytiglenomigipmaa
