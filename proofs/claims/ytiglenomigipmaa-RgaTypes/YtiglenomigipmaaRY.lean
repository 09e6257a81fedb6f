/-
  WHAT A ROW IS LIKE, whatever was put: the order is whole, and comes to an end.
-/
import Derived.Test.YtiglenomigipmaaRU
namespace Go.Proofs.Ytiglenomigipmaa
open Go.RowKit
structure Wf (st : List Stm) : Prop where
  root : ∃ s, st[0]? = some s ∧ s.id = zId ∧ s.gone = false
  ok : ∀ (i : Nat) (s : Stm), st[i]? = some s → s.id.Ok
  pos : ∀ (i : Nat) (s : Stm), 0 < i → st[i]? = some s → 1 ≤ s.id.c
  uniq : ∀ (i j : Nat) (s t : Stm), 0 < i → 0 < j → st[i]? = some s → st[j]? = some t → s.id = t.id → i = j
  bel : ∀ (i : Nat) (s : Stm), st[i]? = some s → ∀ b ∈ s.below, i < b ∧ b < st.length
  par : ∀ (i j : Nat) (s t : Stm) (b : Nat), st[i]? = some s → st[j]? = some t → b ∈ s.below → b ∈ t.below → i = j
  srt : ∀ (i : Nat) (s : Stm), st[i]? = some s → s.below.Pairwise fun a b => ltI (idAt st a) (idAt st b) = true
  all : ∀ b, 0 < b → b < st.length → ∃ (i : Nat) (s : Stm), st[i]? = some s ∧ b ∈ s.below
theorem wf_nil : Wf [root] := by
  have one : ∀ (i : Nat) (s : Stm), [root][i]? = some s → i = 0 ∧ s = root := fun i s h => by
    cases i with
    | zero => exact ⟨rfl, by simpa using h.symm⟩
    | succ i => simp at h
  refine ⟨⟨root, rfl, rfl, rfl⟩, fun i s h => ?_, fun i s hi h => ?_, fun i j s t hi _ h _ _ => ?_, fun i s h b hb => ?_, fun i j s t b h _ hb _ => ?_, fun i s h => ?_, fun b h1 h2 => ?_⟩
  · rw [(one i s h).2]; exact zId_ok
  · have := (one i s h).1; omega
  · have := (one i s h).1; omega
  · rw [(one i s h).2] at hb; cases hb
  · rw [(one i s h).2] at hb; cases hb
  · rw [(one i s h).2]; exact List.Pairwise.nil
  · simp at h2; omega
theorem ltB_total : ∀ {a b : H}, a.length = b.length → a ≠ b → ltB a b = false → ltB b a = true
  | [], [], _, h, _ => absurd rfl h
  | [], _ :: _, h, _, _ => by simp at h
  | _ :: _, [], h, _, _ => by simp at h
  | x :: a, y :: b, hl, hn, h => by
    simp only [ltB] at h ⊢
    by_cases e : x = y
    · subst e
      simp only [if_true] at h ⊢
      exact ltB_total (by simpa using hl) (fun e => hn (by rw [e])) h
    · rw [if_neg e] at h
      rw [if_neg (fun h => e h.symm)]
      have h1 : ¬ x < y := by simpa using h
      have h2 : y < x := by
        have h3 : ¬ x.toNat < y.toNat := fun h => h1 (UInt8.lt_iff_toNat_lt.2 h)
        have h4 : x.toNat ≠ y.toNat := fun h => e (UInt8.toNat_inj.1 h)
        exact UInt8.lt_iff_toNat_lt.2 (by omega)
      simpa using h2
theorem ltI_total {a b : Idn} (ha : a.Ok) (hb : b.Ok) (hn : a ≠ b) (h : ltI a b = false) : ltI b a = true := by
  unfold ltI at h ⊢
  by_cases e : a.c = b.c
  · rw [if_neg (by simp [e])] at h
    rw [if_neg (by simp [e])]
    exact ltB_total (by rw [ha.len, hb.len]) (fun e2 => hn (by cases a; cases b; simp_all)) h
  · rw [if_pos e] at h
    rw [if_pos (fun h => e h.symm)]
    simp at h ⊢
    omega
theorem mem_sIns {f : Nat → Bool} {p b : Nat} : ∀ {l : List Nat}, b ∈ sIns f p l ↔ b = p ∨ b ∈ l
  | [] => by simp [sIns]
  | x :: l => by
    have ih := mem_sIns (f := f) (p := p) (b := b) (l := l)
    unfold sIns
    split
    · simp
    · simp only [List.mem_cons, ih]
      constructor
      · rintro (h | h | h)
        · exact .inr (.inl h)
        · exact .inl h
        · exact .inr (.inr h)
      · rintro (h | h | h)
        · exact .inr (.inl h)
        · exact .inl h
        · exact .inr (.inr h)
theorem sIns_sorted {R : Nat → Nat → Prop} (htr : ∀ a b c, R a b → R b c → R a c) {f : Nat → Bool} {p : Nat} : ∀ {l : List Nat}, (∀ b ∈ l, f b = true → R p b) → (∀ b ∈ l, f b = false → R b p) → l.Pairwise R → (sIns f p l).Pairwise R
  | [], _, _, _ => by simp [sIns]
  | x :: l, h1, h2, hp => by
    rw [List.pairwise_cons] at hp
    unfold sIns
    cases hf : f x with
    | true =>
      simp only [if_true]
      have hpx := h1 x (by simp) hf
      exact List.pairwise_cons.2 ⟨fun y hy => by
        rcases List.mem_cons.1 hy with e | hy
        · rw [e]; exact hpx
        · exact htr _ _ _ hpx (hp.1 y hy), List.pairwise_cons.2 hp⟩
    | false =>
      simp only [Bool.false_eq_true, if_false]
      refine List.pairwise_cons.2 ⟨fun y hy => ?_, sIns_sorted htr (fun b hb => h1 b (by simp [hb])) (fun b hb => h2 b (by simp [hb])) hp.2⟩
      rcases mem_sIns.1 hy with e | hy
      · rw [e]; exact h2 x (by simp) hf
      · exact hp.1 y hy
section
variable {st : List Stm} {q : Nat} {s : Stm} {id : Idn} {c : UInt8}
theorem ins_len : (insS st q s id c).length = st.length + 1 := by simp [insS]
theorem ins_get (hq : st[q]? = some s) {i : Nat} {t : Stm} (h : (insS st q s id c)[i]? = some t) : (i = q ∧ t = { s with below := sIns (fun b => ltI id (idAt st b)) st.length s.below }) ∨ (i ≠ q ∧ i < st.length ∧ st[i]? = some t) ∨ (i = st.length ∧ t = ⟨id, c, false, []⟩) := by
  have hql := (List.getElem?_eq_some_iff.1 hq).1
  unfold insS at h
  rw [List.getElem?_set] at h
  by_cases e : q = i
  · subst e
    rw [if_pos rfl, if_pos (by simp; omega)] at h
    exact .inl ⟨rfl, (Option.some.inj h).symm⟩
  · rw [if_neg e] at h
    by_cases hi : i < st.length
    · rw [List.getElem?_append_left hi] at h
      exact .inr (.inl ⟨Ne.symm e, hi, h⟩)
    · rw [List.getElem?_append_right (by omega)] at h
      cases hd : i - st.length with
      | zero => rw [hd] at h; exact .inr (.inr ⟨by omega, by simpa using h.symm⟩)
      | succ k => rw [hd] at h; simp at h
theorem ins_at (hq : st[q]? = some s) : (insS st q s id c)[q]? = some { s with below := sIns (fun b => ltI id (idAt st b)) st.length s.below } := by
  have hql := (List.getElem?_eq_some_iff.1 hq).1
  unfold insS
  rw [List.getElem?_set, if_pos rfl, if_pos (by simp; omega)]
theorem ins_new (hq : st[q]? = some s) : (insS st q s id c)[st.length]? = some ⟨id, c, false, []⟩ := by
  have hql := (List.getElem?_eq_some_iff.1 hq).1
  unfold insS
  rw [List.getElem?_set, if_neg (by omega)]
  simp
theorem ins_old {i : Nat} {t : Stm} (h : st[i]? = some t) (hne : i ≠ q) : (insS st q s id c)[i]? = some t := by
  unfold insS
  rw [List.getElem?_set, if_neg (Ne.symm hne), List.getElem?_append_left (List.getElem?_eq_some_iff.1 h).1]; exact h
theorem ins_id (hq : st[q]? = some s) {b : Nat} (hb : b < st.length) : idAt (insS st q s id c) b = idAt st b := by
  by_cases e : b = q
  · subst e; rw [idAt_of (ins_at hq), idAt_of hq]
  · obtain ⟨t, ht⟩ : ∃ t, st[b]? = some t := ⟨_, List.getElem?_eq_getElem hb⟩
    rw [idAt_of (ins_old ht e), idAt_of ht]
theorem plc_none {st : List Stm} {x : Idn} (h : plc st x = none) {i : Nat} {t : Stm} (hi : 0 < i) (ht : st[i]? = some t) : t.id ≠ x := fun e => by
  unfold plc at h
  rw [Option.map_eq_none_iff, List.findIdx?_eq_none_iff] at h
  obtain ⟨k, rfl⟩ : ∃ k, i = k + 1 := ⟨i - 1, by omega⟩
  have hm : t.id ∈ (st.map Stm.id).tail := by
    refine List.mem_of_getElem? (i := k) ?_
    rw [List.getElem?_tail, List.getElem?_map, ht]; rfl
  have := h _ hm
  simp [e] at this
theorem Wf.ins {st : List Stm} {q : Nat} {s : Stm} {id : Idn} {c : UInt8} (h : Wf st) (hq : st[q]? = some s) (hid : id.Ok) (h1 : 1 ≤ id.c) (hn : plc st id = none) : Wf (insS st q s id c) := by
  have hql := (List.getElem?_eq_some_iff.1 hq).1
  have hlen : (insS st q s id c).length = st.length + 1 := ins_len
  have hnew : idAt (insS st q s id c) st.length = id := idAt_of (ins_new hq)
  obtain ⟨r, hr, hrz, hrg⟩ := h.root
  refine ⟨?_, fun i t ht => ?_, fun i t hi ht => ?_, fun i j t u hi hj ht hu he => ?_, fun i t ht b hb => ?_, fun i j t u b ht hu hb hb' => ?_, fun i t ht => ?_, fun b hb1 hb2 => ?_⟩
  · by_cases e : q = 0
    · subst e
      rw [hr] at hq; cases hq
      exact ⟨_, ins_at hr, hrz, hrg⟩
    · exact ⟨r, ins_old hr (Ne.symm e), hrz, hrg⟩
  · rcases ins_get hq ht with ⟨_, rfl⟩ | ⟨_, _, h3⟩ | ⟨_, rfl⟩
    · exact h.ok q s hq
    · exact h.ok i t h3
    · exact hid
  · rcases ins_get hq ht with ⟨rfl, rfl⟩ | ⟨_, _, h3⟩ | ⟨_, rfl⟩
    · exact h.pos i s hi hq
    · exact h.pos i t hi h3
    · exact h1
  · have old : ∀ (i : Nat) (t : Stm), 0 < i → (insS st q s id c)[i]? = some t → (i < st.length ∧ ∃ t', st[i]? = some t' ∧ t'.id = t.id) ∨ (i = st.length ∧ t.id = id) := fun i t hi ht => by
      rcases ins_get hq ht with ⟨rfl, rfl⟩ | ⟨_, h2, h3⟩ | ⟨h2, rfl⟩
      · exact .inl ⟨hql, s, hq, rfl⟩
      · exact .inl ⟨h2, t, h3, rfl⟩
      · exact .inr ⟨h2, rfl⟩
    rcases old i t hi ht with ⟨_, t', ht', et⟩ | ⟨ei, et⟩
    · rcases old j u hj hu with ⟨_, u', hu', eu⟩ | ⟨ej, eu⟩
      · exact h.uniq i j t' u' hi hj ht' hu' (by rw [et, eu, he])
      · exact absurd (et.trans (he.trans eu)) (plc_none hn hi ht')
    · rcases old j u hj hu with ⟨_, u', hu', eu⟩ | ⟨ej, eu⟩
      · exact absurd (eu.trans (he.symm.trans et)) (plc_none hn hj hu')
      · rw [ei, ej]
  · rcases ins_get hq ht with ⟨rfl, rfl⟩ | ⟨_, _, h3⟩ | ⟨_, rfl⟩
    · rcases mem_sIns.1 hb with e | hb
      · rw [e, hlen]; omega
      · have := h.bel i s hq b hb; rw [hlen]; omega
    · have := h.bel i t h3 b hb; rw [hlen]; omega
    · cases hb
  · have old : ∀ (i : Nat) (t : Stm), (insS st q s id c)[i]? = some t → b ∈ t.below → (b = st.length ∧ i = q) ∨ ∃ t', st[i]? = some t' ∧ b ∈ t'.below := fun i t ht hb => by
      rcases ins_get hq ht with ⟨rfl, rfl⟩ | ⟨_, _, h3⟩ | ⟨_, rfl⟩
      · rcases mem_sIns.1 hb with e | hb
        · exact .inl ⟨e, rfl⟩
        · exact .inr ⟨s, hq, hb⟩
      · exact .inr ⟨t, h3, hb⟩
      · cases hb
    rcases old i t ht hb with ⟨e, ei⟩ | ⟨t', ht', hbt⟩
    · rcases old j u hu hb' with ⟨_, ej⟩ | ⟨u', hu', hbu⟩
      · rw [ei, ej]
      · have := h.bel j u' hu' b hbu; omega
    · rcases old j u hu hb' with ⟨e, _⟩ | ⟨u', hu', hbu⟩
      · have := h.bel i t' ht' b hbt; omega
      · exact h.par i j t' u' b ht' hu' hbt hbu
  · have tr : ∀ a b d, ltI (idAt (insS st q s id c) a) (idAt (insS st q s id c) b) = true → ltI (idAt (insS st q s id c) b) (idAt (insS st q s id c) d) = true → ltI (idAt (insS st q s id c) a) (idAt (insS st q s id c) d) = true := fun _ _ _ => ltI_trans
    have lift : ∀ (i : Nat) (t : Stm), st[i]? = some t → t.below.Pairwise fun a b => ltI (idAt (insS st q s id c) a) (idAt (insS st q s id c) b) = true := fun i t ht => by
      refine List.Pairwise.imp_of_mem ?_ (h.srt i t ht)
      intro a b ha hb hab
      rw [ins_id hq (h.bel i t ht a ha).2, ins_id hq (h.bel i t ht b hb).2]; exact hab
    rcases ins_get hq ht with ⟨rfl, rfl⟩ | ⟨_, _, h3⟩ | ⟨_, rfl⟩
    · refine sIns_sorted tr (fun b hb hf => ?_) (fun b hb hf => ?_) (lift i s hq)
      · rw [hnew, ins_id hq (h.bel i s hq b hb).2]; exact hf
      · have hbl := h.bel i s hq b hb
        obtain ⟨u, hu⟩ : ∃ u, st[b]? = some u := ⟨_, List.getElem?_eq_getElem hbl.2⟩
        rw [hnew, ins_id hq hbl.2]
        rw [idAt_of hu] at hf ⊢
        exact ltI_total hid (h.ok b u hu) (fun e => plc_none hn (by omega) hu e.symm) hf
    · exact lift i t h3
    · exact List.Pairwise.nil
  · rw [hlen] at hb2
    by_cases e : b = st.length
    · exact ⟨q, _, ins_at hq, mem_sIns.2 (.inl e)⟩
    · obtain ⟨i, t, ht, hbt⟩ := h.all b hb1 (by omega)
      by_cases ei : i = q
      · subst ei
        rw [hq] at ht; cases ht
        exact ⟨i, _, ins_at hq, mem_sIns.2 (.inr hbt)⟩
      · exact ⟨i, t, ins_old ht ei, hbt⟩
end
theorem len_filter : ∀ {l : List Nat} {a : Nat}, l.Nodup → l.length ≤ (l.filter (fun x => x != a)).length + 1
  | [], _, _ => by simp
  | x :: l, a, h => by
    rw [List.nodup_cons] at h
    by_cases e : x = a
    · subst e
      have e2 : l.filter (fun y => y != x) = l := List.filter_eq_self.2 (fun y hy => by
        have : y ≠ x := fun e => h.1 (e ▸ hy)
        simpa using this)
      rw [List.filter_cons_of_neg (by simp), e2]
      simp
    · have := len_filter (l := l) (a := a) h.2
      rw [List.filter_cons_of_pos (by simpa using e)]
      simp only [List.length_cons]
      omega
theorem nodup_len : ∀ (n : Nat) {l : List Nat}, l.Nodup → (∀ x ∈ l, x < n) → l.length ≤ n
  | 0, l, _, h => by
    cases l with
    | nil => simp
    | cons x l => have := h x (by simp); omega
  | n + 1, l, hd, h => by
    have h1 := nodup_len n (l := l.filter (fun x => x != n)) (List.Pairwise.filter _ hd) (fun x hx => by
      have h2 := List.mem_filter.1 hx
      have h3 := h x h2.1
      have h4 : x ≠ n := by simpa using h2.2
      omega)
    have := len_filter (a := n) hd
    omega
/-- What is known on the way. -/
structure RInv (st : List Stm) (V T : List Nat) : Prop where
  nd : (V ++ T).Nodup
  par : ∀ t ∈ V ++ T, 0 < t ∧ t < st.length ∧ ∃ (p : Nat) (s : Stm), (p = 0 ∨ p ∈ V) ∧ st[p]? = some s ∧ t ∈ s.below
  cl : ∀ (p : Nat) (s : Stm), (p = 0 ∨ p ∈ V) → st[p]? = some s → ∀ b ∈ s.below, b ∈ V ++ T
theorem ltI_irr {x : Idn} : ltI x x ≠ true := by unfold ltI; simp [ltB_self]
theorem Wf.nod {st : List Stm} (h : Wf st) {i : Nat} {s : Stm} (hs : st[i]? = some s) : s.below.Nodup := (h.srt i s hs).imp (fun hab e => by subst e; exact ltI_irr hab)
theorem Reach.inv {st : List Stm} (hw : Wf st) {V T : List Nat} (h : Reach st V T) : RInv st V T := by
  induction h with
  | @start s h0 =>
    refine ⟨by simpa using hw.nod h0, fun t ht => ?_, fun p u hp hu b hb => ?_⟩
    · have hb := hw.bel 0 s h0 t (by simpa using ht)
      exact ⟨hb.1, hb.2, 0, s, .inl rfl, h0, by simpa using ht⟩
    · rcases hp with e | hp
      · subst e; rw [h0] at hu; cases hu; simpa using hb
      · cases hp
  | @step V T t s hr ht ih =>
    have hmem : ∀ x, x ∈ (V ++ [t]) ++ (T ++ s.below) ↔ x ∈ V ++ (T ++ [t]) ∨ x ∈ s.below := fun x => by
      simp only [List.mem_append, List.mem_singleton]
      constructor
      · rintro ((h | h) | (h | h))
        · exact .inl (.inl h)
        · exact .inl (.inr (.inr h))
        · exact .inl (.inr (.inl h))
        · exact .inr h
      · rintro ((h | (h | h)) | h)
        · exact .inl (.inl h)
        · exact .inr (.inl h)
        · exact .inl (.inr h)
        · exact .inr (.inr h)
    have ht0 := ih.par t (by simp)
    have htV : t ∉ V := fun hv => by
      have := (List.nodup_append.1 ih.nd).2.2 t hv t (by simp)
      exact this rfl
    have dis : ∀ x ∈ s.below, x ∉ V ++ (T ++ [t]) := fun x hx hx' => by
      obtain ⟨_, _, p, u, hp, hu, hxu⟩ := ih.par x hx'
      have e := hw.par t p s u x ht hu hx hxu
      rcases hp with e0 | hp
      · omega
      · exact htV (e ▸ hp)
    refine ⟨?_, fun x hx => ?_, fun p u hp hu b hb => ?_⟩
    · have hperm : List.Perm ((V ++ [t]) ++ (T ++ s.below)) ((V ++ (T ++ [t])) ++ s.below) := by
        have h1 : List.Perm ([t] ++ T) (T ++ [t]) := List.perm_append_comm
        have h2 := (h1.append_left V).append_right s.below
        simpa [List.append_assoc] using h2
      rw [hperm.nodup_iff]
      exact List.nodup_append.2 ⟨ih.nd, hw.nod ht, fun a ha b hb e => dis b hb (e ▸ ha)⟩
    · rcases (hmem x).1 hx with hx | hx
      · obtain ⟨h1, h2, p, u, hp, hu, hxu⟩ := ih.par x hx
        exact ⟨h1, h2, p, u, hp.imp (fun h => h) (fun h => by simp [h]), hu, hxu⟩
      · have hb := hw.bel t s ht x hx
        exact ⟨by omega, hb.2, t, s, .inr (by simp), ht, hx⟩
    · rw [hmem]
      rcases hp with e | hp
      · exact .inl (ih.cl p u (.inl e) hu b hb)
      · rcases List.mem_append.1 hp with hp | hp
        · exact .inl (ih.cl p u (.inr hp) hu b hb)
        · rw [List.mem_singleton] at hp
          subst hp
          rw [ht] at hu; cases hu
          exact .inr hb
theorem Wf.few {st : List Stm} (hw : Wf st) {V T : List Nat} (h : Reach st V T) : V.length + T.length ≤ st.length := by
  have := nodup_len st.length (h.inv hw).nd (fun x hx => ((h.inv hw).par x hx).2.1)
  simpa using this
theorem Wf.in {st : List Stm} (hw : Wf st) {V T : List Nat} (h : Reach st V T) : ∀ t ∈ T, t < st.length := fun t ht => ((h.inv hw).par t (by simp [ht])).2.1
/-- All are gone through. -/
theorem Wf.whole {st : List Stm} (hw : Wf st) {V : List Nat} (h : Reach st V []) : ∀ b, 0 < b → b < st.length → b ∈ V := by
  intro b
  induction b using Nat.strongRecOn with
  | _ b ih =>
    intro h1 h2
    obtain ⟨i, s, hs, hb⟩ := hw.all b h1 h2
    have hi := hw.bel i s hs b hb
    have := (h.inv hw).cl i s (by
      by_cases e : i = 0
      · exact .inl e
      · exact .inr (ih i hi.1 (by omega) (by omega))) hs b hb
    simpa using this
/-- There is an order. -/
theorem Wf.order {st : List Stm} (hw : Wf st) : ∃ U, Reach st U [] := by
  have go : ∀ (k : Nat) (V T : List Nat), Reach st V T → st.length ≤ V.length + k → ∃ U, Reach st U [] := by
    intro k
    induction k with
    | zero =>
      intro V T h hk
      have := hw.few h
      have e : T = [] := List.eq_nil_of_length_eq_zero (by omega)
      subst e
      exact ⟨V, h⟩
    | succ k ih =>
      intro V T h hk
      rcases List.eq_nil_or_concat T with rfl | ⟨T', t, rfl⟩
      · exact ⟨V, h⟩
      · rw [List.concat_eq_append] at h
        obtain ⟨s, hs⟩ : ∃ s, st[t]? = some s := ⟨_, List.getElem?_eq_getElem (hw.in h t (by simp))⟩
        exact ih _ _ (Reach.step h hs) (by simp; omega)
  obtain ⟨s, hs, _⟩ := hw.root
  exact go st.length [] s.below (Reach.start hs) (by simp)
end Go.Proofs.Ytiglenomigipmaa
