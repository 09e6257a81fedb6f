/-
  MAPS by strings: their mathematics, and a map in memory.
-/
import Derived.Test.YtcmcapcagblafaaPB
import Derived.Maps.Ext
import Derived.Sort.KeysCollected
import Derived.Maps.RangeWalk
import Derived.Maps.OwnSet
namespace Dsk
open Go
abbrev Nm := List UInt8
section
variable {α β : Type}
/-- The entries but for one name's. -/
def fdel (nm : Nm) (l : List (Nm × α)) : List (Nm × α) := l.filter fun p => !(p.1 == nm)
/-- An entry laid at its place. -/
def fins (x : Nm × α) : List (Nm × α) → List (Nm × α)
  | [] => [x]
  | y :: r => if bytesBefore x.1 y.1 then x :: y :: r else y :: fins x r
/-- An entry in the place of its elder one. -/
def fput (nm : Nm) (x : α) (l : List (Nm × α)) : List (Nm × α) := fins (nm, x) (fdel nm l)
def fget (nm : Nm) (l : List (Nm × α)) : Option α := (l.find? fun p => p.1 == nm).map (·.2)
def fhas (nm : Nm) (l : List (Nm × α)) : Bool := l.any fun p => p.1 == nm
def rising (l : List (Nm × α)) : Prop := l.Pairwise fun p q => bytesBefore p.1 q.1 = true
def onV (f : α → β) (p : Nm × α) : Nm × β := (p.1, f p.2)
theorem fdel_map (f : α → β) (nm : Nm) : ∀ l : List (Nm × α), fdel nm (l.map (onV f)) = (fdel nm l).map (onV f)
  | [] => rfl
  | y :: r => by
    have ih := fdel_map f nm r
    unfold fdel at ih ⊢
    simp only [List.map_cons, List.filter_cons, onV]
    cases (y.1 == nm) <;> simp [onV, ih]
theorem fins_map (f : α → β) (x : Nm × α) : ∀ l : List (Nm × α), fins (onV f x) (l.map (onV f)) = (fins x l).map (onV f)
  | [] => rfl
  | y :: r => by
    have ih := fins_map f x r
    simp only [List.map_cons, fins, onV] at ih ⊢
    split
    · rfl
    · simp [onV, ih]
theorem fput_map (f : α → β) (nm : Nm) (x : α) (l : List (Nm × α)) : fput nm (f x) (l.map (onV f)) = (fput nm x l).map (onV f) := by
  unfold fput
  rw [fdel_map, show (nm, f x) = onV f (nm, x) from rfl, fins_map]
theorem fget_map (f : α → β) (nm : Nm) : ∀ l : List (Nm × α), fget nm (l.map (onV f)) = (fget nm l).map f
  | [] => rfl
  | y :: r => by
    have ih := fget_map f nm r
    unfold fget at ih ⊢
    simp only [List.map_cons, List.find?_cons, onV]
    cases (y.1 == nm)
    · exact ih
    · rfl
theorem fhas_map (f : α → β) (nm : Nm) (l : List (Nm × α)) : fhas nm (l.map (onV f)) = fhas nm l := by
  unfold fhas; rw [List.any_map]; rfl
theorem fins_mem (x : Nm × α) : ∀ (l : List (Nm × α)) (y : Nm × α), y ∈ fins x l ↔ y = x ∨ y ∈ l
  | [], y => by simp [fins]
  | z :: r, y => by
    have ih := fins_mem x r y
    unfold fins
    split
    · simp
    · simp [ih]; constructor
      · rintro (h | h | h) <;> simp [h]
      · rintro (h | h | h) <;> simp [h]
theorem fins_len (x : Nm × α) : ∀ l : List (Nm × α), (fins x l).length = l.length + 1
  | [] => rfl
  | z :: r => by
    unfold fins
    split
    · rfl
    · simp [fins_len x r]
theorem fdel_mem (nm : Nm) (l : List (Nm × α)) (y : Nm × α) : y ∈ fdel nm l ↔ y ∈ l ∧ y.1 ≠ nm := by
  simp [fdel]
theorem fput_mem (nm : Nm) (x : α) (l : List (Nm × α)) (y : Nm × α) : y ∈ fput nm x l ↔ y = (nm, x) ∨ (y ∈ l ∧ y.1 ≠ nm) := by
  unfold fput; rw [fins_mem, fdel_mem]
theorem fget_none {nm : Nm} {l : List (Nm × α)} : fget nm l = none ↔ fhas nm l = false := by
  unfold fget fhas
  rw [Option.map_eq_none_iff, List.find?_eq_none]
  simp
theorem fget_mem {nm : Nm} {l : List (Nm × α)} {x : α} (h : fget nm l = some x) : (nm, x) ∈ l := by
  unfold fget at h
  obtain ⟨p, hp, hx⟩ := Option.map_eq_some_iff.1 h
  have h1 := List.mem_of_find?_eq_some hp
  have h2 := List.find?_some hp
  simp at h2
  obtain ⟨a, b⟩ := p
  simp only at h2 hx
  subst h2; subst hx
  exact h1
theorem fhas_get {nm : Nm} {l : List (Nm × α)} {x : α} (h : fget nm l = some x) : fhas nm l = true := by
  cases hh : fhas nm l
  · rw [fget_none.2 hh] at h; cases h
  · rfl
theorem fhas_some {nm : Nm} {l : List (Nm × α)} (h : fhas nm l = true) : ∃ x, fget nm l = some x := by
  cases hh : fget nm l
  · rw [fget_none.1 hh] at h; cases h
  · exact ⟨_, rfl⟩
theorem bb_irrefl : ∀ a : Nm, bytesBefore a a = false
  | [] => rfl
  | a :: r => by simp [bytesBefore, bb_irrefl r]
theorem bb_trans : ∀ {a b c : Nm}, bytesBefore a b = true → bytesBefore b c = true → bytesBefore a c = true
  | [], [], _, h, _ => by simp [bytesBefore] at h
  | [], b :: r, [], _, h => by simp [bytesBefore] at h
  | [], b :: r, c :: s, _, _ => rfl
  | a :: r, [], _, h, _ => by simp [bytesBefore] at h
  | a :: r, b :: s, [], _, h => by simp [bytesBefore] at h
  | a :: r, b :: s, c :: t, h1, h2 => by
    simp only [bytesBefore, Bool.or_eq_true, decide_eq_true_eq, Bool.and_eq_true, beq_iff_eq] at h1 h2 ⊢
    rcases h1 with h1 | ⟨rfl, h1⟩
    · rcases h2 with h2 | ⟨rfl, h2⟩
      · exact Or.inl (UInt8.lt_trans h1 h2)
      · exact Or.inl h1
    · rcases h2 with h2 | ⟨rfl, h2⟩
      · exact Or.inl h2
      · exact Or.inr ⟨rfl, bb_trans h1 h2⟩
theorem bb_total : ∀ {a b : Nm}, a ≠ b → bytesBefore a b = false → bytesBefore b a = true
  | [], [], h, _ => absurd rfl h
  | [], _ :: _, _, h => by simp [bytesBefore] at h
  | _ :: _, [], _, _ => rfl
  | a :: r, b :: s, h, h1 => by
    simp only [bytesBefore, Bool.or_eq_false_iff, decide_eq_false_iff_not, Bool.and_eq_false_iff, Bool.or_eq_true, decide_eq_true_eq, Bool.and_eq_true, beq_iff_eq, beq_eq_false_iff_ne] at h1 ⊢
    by_cases e : a = b
    · subst e
      refine Or.inr ⟨rfl, bb_total (fun e => h (by rw [e])) ?_⟩
      rcases h1.2 with h2 | h2
      · exact absurd rfl h2
      · exact h2
    · refine Or.inl ?_
      have := h1.1
      rw [UInt8.lt_iff_toNat_lt] at this ⊢
      have hne : a.toNat ≠ b.toNat := fun h => e (UInt8.toNat_inj.1 h)
      omega
theorem fins_rising (x : Nm × α) : ∀ l : List (Nm × α), rising l → (∀ y ∈ l, y.1 ≠ x.1) → rising (fins x l)
  | [], _, _ => by simp [fins, rising]
  | y :: r, h, hn => by
    unfold rising at h ⊢
    obtain ⟨h1, h2⟩ := List.pairwise_cons.1 h
    unfold fins
    split
    · rename_i hb
      refine List.pairwise_cons.2 ⟨fun z hz => ?_, h⟩
      rcases List.mem_cons.1 hz with rfl | hz
      · exact hb
      · exact bb_trans hb (h1 z hz)
    · rename_i hb
      refine List.pairwise_cons.2 ⟨fun z hz => ?_, fins_rising x r h2 (fun z hz => hn z (by simp [hz]))⟩
      rcases (fins_mem x r z).1 hz with rfl | hz
      · exact bb_total (fun e => hn y (by simp) e.symm) (by simpa using hb)
      · exact h1 z hz
theorem fdel_rising (nm : Nm) {l : List (Nm × α)} (h : rising l) : rising (fdel nm l) := List.Pairwise.filter _ h
theorem fput_rising (nm : Nm) (x : α) {l : List (Nm × α)} (h : rising l) : rising (fput nm x l) :=
  fins_rising _ _ (fdel_rising nm h) (fun y hy => ((fdel_mem nm l y).1 hy).2)
theorem rising_apart {l : List (Nm × α)} (h : rising l) : l.Pairwise fun p q => p.1 ≠ q.1 := h.imp fun {a b} hab e => by rw [e, bb_irrefl] at hab; cases hab
theorem rising_get {l : List (Nm × α)} (h : rising l) {nm : Nm} {x : α} (hm : (nm, x) ∈ l) : fget nm l = some x := by
  induction l with
  | nil => simp at hm
  | cons y r ih =>
    obtain ⟨h1, h2⟩ := List.pairwise_cons.1 h
    unfold fget
    rw [List.find?_cons]
    rcases List.mem_cons.1 hm with e | hm
    · subst e; simp
    · have : (y.1 == nm) = false := by
        have := h1 _ hm
        simp only at this
        cases hb : (y.1 == nm)
        · rfl
        · rw [beq_iff_eq.1 hb, bb_irrefl] at this; cases this
      rw [this]
      exact ih h2 hm
theorem fget_put_same (nm : Nm) (x : α) {l : List (Nm × α)} (h : rising l) : fget nm (fput nm x l) = some x :=
  rising_get (fput_rising nm x h) ((fput_mem nm x l _).2 (Or.inl rfl))
theorem eq_of_mem : ∀ {l m : List (Nm × α)}, rising l → rising m → (∀ p, p ∈ l ↔ p ∈ m) → l = m
  | [], [], _, _, _ => rfl
  | [], b :: s, _, _, h => by have := (h b).2 (by simp); simp at this
  | a :: r, [], _, _, h => by have := (h a).1 (by simp); simp at this
  | a :: r, b :: s, h1, h2, h => by
    obtain ⟨a1, a2⟩ := List.pairwise_cons.1 h1
    obtain ⟨b1, b2⟩ := List.pairwise_cons.1 h2
    have hab : a = b := by
      rcases List.mem_cons.1 ((h a).1 (by simp)) with e | ha
      · exact e
      · rcases List.mem_cons.1 ((h b).2 (by simp)) with e | hb
        · exact e.symm
        · have := bb_trans (a1 b hb) (b1 a ha)
          rw [bb_irrefl] at this; cases this
    subst hab
    rw [eq_of_mem a2 b2 (fun p => ⟨fun hp => by
      rcases List.mem_cons.1 ((h p).1 (by simp [hp])) with e | hp'
      · have := a1 p hp; rw [e, bb_irrefl] at this; cases this
      · exact hp', fun hp => by
      rcases List.mem_cons.1 ((h p).2 (by simp [hp])) with e | hp'
      · have := b1 p hp; rw [e, bb_irrefl] at this; cases this
      · exact hp'⟩)]
theorem fput_same {nm : Nm} {x : α} {l : List (Nm × α)} (h : rising l) (hg : fget nm l = some x) : fput nm x l = l :=
  eq_of_mem (fput_rising nm x h) h (fun p => by
    rw [fput_mem]
    constructor
    · rintro (rfl | ⟨hp, _⟩)
      · exact fget_mem hg
      · exact hp
    · intro hp
      by_cases e : p.1 = nm
      · left
        obtain ⟨a, b⟩ := p
        simp only at e; subst e
        rw [rising_get h hp] at hg; cases hg; rfl
      · exact Or.inr ⟨hp, e⟩)
theorem fdel_len (nm : Nm) (l : List (Nm × α)) : (fdel nm l).length ≤ l.length := List.length_filter_le _ _
theorem fput_len (nm : Nm) (x : α) (l : List (Nm × α)) : (fput nm x l).length ≤ l.length + 1 := by
  unfold fput; rw [fins_len]; have := fdel_len nm l; omega
theorem fdel_len_has {nm : Nm} {l : List (Nm × α)} (h : fhas nm l = true) : (fdel nm l).length + 1 ≤ l.length := by
  induction l with
  | nil => simp [fhas] at h
  | cons y r ih =>
    simp only [fhas, List.any_cons, Bool.or_eq_true] at h
    unfold fdel at ih ⊢
    rw [List.filter_cons]
    by_cases e : (y.1 == nm) = true
    · simp [e]
      exact List.length_filter_le _ _
    · rcases h with h | h
      · exact absurd h e
      · have := ih h
        simp only [Bool.not_eq_true] at e
        simp [e]; omega
end
end Dsk
namespace Go.Proofs.Ytcmcapcagblafaa
open Go.RowKit Go.Maps Dsk
theorem law9 : Keyed Try.prog 9 := string_keyed Try.underlying9
/-- An element of the map, as it is. -/
def Rv (v : Value) : Option (DataW Value × List MemPlace) := some (.held v, [])
theorem Rv_inv {v : Value} {d : DataW Value} {ps : List MemPlace} (h : Rv v = some (d, ps)) : d = .held v := by simp [Rv] at h; exact h.1.symm
theorem key9 (nm : Nm) (h : nm.length ≤ maxLen) : keyOf Try.prog 9 (.string (strOf nm)) = some (.string nm) := by
  have := WideMaps.keyOf_string_mk Try.underlying9 (s := strOf nm) (by rw [strOf_size]; exact h)
  simpa [strOf] using this
/-- What the map reads as. -/
def toE (l : List (Nm × Value)) : List (Lit × DataW Value) := l.map fun p => (Lit.string p.1, .held p.2)
theorem toE_ins (x : Nm × Value) : ∀ l, DataW.insert (Lit.string x.1, DataW.held x.2) (toE l) = toE (fins x l)
  | [] => rfl
  | y :: r => by
    have ih := toE_ins x r
    simp only [toE] at ih
    have e : (Lit.string x.1).before (Lit.string y.1) = bytesBefore x.1 y.1 := rfl
    unfold fins
    simp only [toE, List.map_cons]
    unfold DataW.insert
    by_cases h : bytesBefore x.1 y.1 = true
    · have h' : (Lit.string x.1).before (Lit.string y.1) = true := h
      rw [if_pos h, if_pos h']; rfl
    · have h' : ¬ (Lit.string x.1).before (Lit.string y.1) = true := h
      rw [if_neg h, if_neg h', List.map_cons, ih]
theorem toE_del (nm : Nm) : ∀ l, (toE l).filter (fun p => !p.1.sameKey (Lit.string nm)) = toE (fdel nm l)
  | [] => rfl
  | y :: r => by
    have ih := toE_del nm r
    unfold fdel at ih ⊢
    have e : (Lit.string y.1).sameKey (Lit.string nm) = (y.1 == nm) := rfl
    simp only [toE] at ih ⊢
    rw [List.map_cons, List.filter_cons, List.filter_cons]
    simp only [e]
    by_cases h : (y.1 == nm) = true
    · simp only [h, Bool.not_true, Bool.false_eq_true, if_false]; exact ih
    · simp only [Bool.not_eq_true] at h
      simp only [h, Bool.not_false, if_true, List.map_cons, ih]
theorem put_E (nm : Nm) (v : Value) (l : List (Nm × Value)) : (DataW.map (toE l)).put (.string nm) (.held v) = .map (toE (fput nm v l)) := by
  simp only [DataW.put, toE_del]
  rw [show (Lit.string nm, DataW.held v) = (Lit.string (nm, v).1, DataW.held (nm, v).2) from rfl, toE_ins]; rfl
theorem del_E (nm : Nm) (l : List (Nm × Value)) : (DataW.map (toE l)).del (.string nm) = .map (toE (fdel nm l)) := by
  simp only [DataW.del, toE_del]
theorem has_E (nm : Nm) (l : List (Nm × Value)) : Maps.has (.map (toE l)) (.string nm) = fhas nm l := by
  simp only [Maps.has, toE, List.any_map, fhas]; rfl
theorem at_E (nm : Nm) (z : DataW Value) : ∀ l : List (Nm × Value), (DataW.map (toE l)).atKey (.string nm) z = match fget nm l with | some v => .held v | none => z
  | [] => rfl
  | y :: r => by
    have ih := at_E nm z r
    simp only [DataW.atKey, toE, List.map_cons, List.find?_cons, Lit.sameKey, fget] at ih ⊢
    cases (y.1 == nm)
    · exact ih
    · rfl
theorem size_E (l : List (Nm × Value)) : Maps.size (.map (toE l)) = l.length := by simp [Maps.size, toE]
theorem keys_E (l : List (Nm × Value)) : Go.strKeys (.map (toE l)) = l.map (·.1) := by
  simp only [Go.strKeys, toE, List.map_map]; rfl
theorem ownsMap_same {w w' : World} {mb n : Nat} {D : DataW Value} (h : w.ownsMap Try.prog 9 Rv mb n D) (hs : w'.heap[mb]? = w.heap[mb]?) : w'.ownsMap Try.prog 9 Rv mb n D := by
  obtain ⟨es, clock, hb, r⟩ := h
  exact ⟨es, clock, by rw [hs]; exact hb, r⟩
/-- The number of entries is what the reading says. -/
theorem ownsMap_tight {w : World} {mb n : Nat} {l : List (Nm × Value)} (h : w.ownsMap Try.prog 9 Rv mb n (.map (toE l))) : w.ownsMap Try.prog 9 Rv mb l.length (.map (toE l)) := by
  obtain ⟨es, clock, hb, F, _, hD⟩ := h
  refine ⟨es, clock, hb, F, ?_, hD⟩
  have := congrArg Maps.size hD
  rw [size_E] at this
  simp only [Maps.size, length_sorted, List.length_map, Array.length_toList] at this
  omega
end Go.Proofs.Ytcmcapcagblafaa
