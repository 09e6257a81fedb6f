/-
  MAPS FROM IDS: an id as a map's key; a map's entries as a list, by the keys, rising.
-/
import Derived.Test.YtiglenomigipmaaRA
import Derived.Test.YtiglenomigipmaaOP
import Derived.DeepKeys5
import Derived.Maps.RangeWalk
import Derived.Maps.OwnSet
import Derived.Deep.Slices
import Derived.Maps.Ext
import Derived.Sort.KeysCollected
namespace Go.Proofs.Ytiglenomigipmaa.Mp
open Go Go.RowKit Go.Maps
abbrev Nm := List UInt8
section
variable {α β : Type}
/-- The entries but for one name's. -/
def fdel (nm : Nm) (l : List (Nm × α)) : List (Nm × α) := l.filter fun p => !(p.1 == nm)
/-- An entry laid at its place. -/
def fins (x : Nm × α) : List (Nm × α) → List (Nm × α)
  | [] => [x]
  | y :: r => if bytesBefore x.1 y.1 then x :: y :: r else y :: fins x r
/-- An entry in the place of its elder one. -/
def fput (nm : Nm) (x : α) (l : List (Nm × α)) : List (Nm × α) := fins (nm, x) (fdel nm l)
def fget (nm : Nm) (l : List (Nm × α)) : Option α := (l.find? fun p => p.1 == nm).map (·.2)
def fhas (nm : Nm) (l : List (Nm × α)) : Bool := l.any fun p => p.1 == nm
def rising (l : List (Nm × α)) : Prop := l.Pairwise fun p q => bytesBefore p.1 q.1 = true
def onV (f : α → β) (p : Nm × α) : Nm × β := (p.1, f p.2)
theorem fdel_map (f : α → β) (nm : Nm) : ∀ l : List (Nm × α), fdel nm (l.map (onV f)) = (fdel nm l).map (onV f)
  | [] => rfl
  | y :: r => by
    have ih := fdel_map f nm r
    unfold fdel at ih ⊢
    simp only [List.map_cons, List.filter_cons, onV]
    cases (y.1 == nm) <;> simp [onV, ih]
theorem fins_map (f : α → β) (x : Nm × α) : ∀ l : List (Nm × α), fins (onV f x) (l.map (onV f)) = (fins x l).map (onV f)
  | [] => rfl
  | y :: r => by
    have ih := fins_map f x r
    simp only [List.map_cons, fins, onV] at ih ⊢
    split
    · rfl
    · simp [onV, ih]
theorem fput_map (f : α → β) (nm : Nm) (x : α) (l : List (Nm × α)) : fput nm (f x) (l.map (onV f)) = (fput nm x l).map (onV f) := by
  unfold fput
  rw [fdel_map, show (nm, f x) = onV f (nm, x) from rfl, fins_map]
theorem fget_map (f : α → β) (nm : Nm) : ∀ l : List (Nm × α), fget nm (l.map (onV f)) = (fget nm l).map f
  | [] => rfl
  | y :: r => by
    have ih := fget_map f nm r
    unfold fget at ih ⊢
    simp only [List.map_cons, List.find?_cons, onV]
    cases (y.1 == nm)
    · exact ih
    · rfl
theorem fhas_map (f : α → β) (nm : Nm) (l : List (Nm × α)) : fhas nm (l.map (onV f)) = fhas nm l := by
  unfold fhas; rw [List.any_map]; rfl
theorem fins_mem (x : Nm × α) : ∀ (l : List (Nm × α)) (y : Nm × α), y ∈ fins x l ↔ y = x ∨ y ∈ l
  | [], y => by simp [fins]
  | z :: r, y => by
    have ih := fins_mem x r y
    unfold fins
    split
    · simp
    · simp [ih]; constructor
      · rintro (h | h | h) <;> simp [h]
      · rintro (h | h | h) <;> simp [h]
theorem fins_len (x : Nm × α) : ∀ l : List (Nm × α), (fins x l).length = l.length + 1
  | [] => rfl
  | z :: r => by
    unfold fins
    split
    · rfl
    · simp [fins_len x r]
theorem fdel_mem (nm : Nm) (l : List (Nm × α)) (y : Nm × α) : y ∈ fdel nm l ↔ y ∈ l ∧ y.1 ≠ nm := by
  simp [fdel]
theorem fput_mem (nm : Nm) (x : α) (l : List (Nm × α)) (y : Nm × α) : y ∈ fput nm x l ↔ y = (nm, x) ∨ (y ∈ l ∧ y.1 ≠ nm) := by
  unfold fput; rw [fins_mem, fdel_mem]
theorem fget_none {nm : Nm} {l : List (Nm × α)} : fget nm l = none ↔ fhas nm l = false := by
  unfold fget fhas
  rw [Option.map_eq_none_iff, List.find?_eq_none]
  simp
theorem fget_mem {nm : Nm} {l : List (Nm × α)} {x : α} (h : fget nm l = some x) : (nm, x) ∈ l := by
  unfold fget at h
  obtain ⟨p, hp, hx⟩ := Option.map_eq_some_iff.1 h
  have h1 := List.mem_of_find?_eq_some hp
  have h2 := List.find?_some hp
  simp at h2
  obtain ⟨a, b⟩ := p
  simp only at h2 hx
  subst h2; subst hx
  exact h1
theorem fhas_get {nm : Nm} {l : List (Nm × α)} {x : α} (h : fget nm l = some x) : fhas nm l = true := by
  cases hh : fhas nm l
  · rw [fget_none.2 hh] at h; cases h
  · rfl
theorem fhas_some {nm : Nm} {l : List (Nm × α)} (h : fhas nm l = true) : ∃ x, fget nm l = some x := by
  cases hh : fget nm l
  · rw [fget_none.1 hh] at h; cases h
  · exact ⟨_, rfl⟩
theorem bb_irrefl : ∀ a : Nm, bytesBefore a a = false
  | [] => rfl
  | a :: r => by simp [bytesBefore, bb_irrefl r]
theorem bb_trans : ∀ {a b c : Nm}, bytesBefore a b = true → bytesBefore b c = true → bytesBefore a c = true
  | [], [], _, h, _ => by simp [bytesBefore] at h
  | [], b :: r, [], _, h => by simp [bytesBefore] at h
  | [], b :: r, c :: s, _, _ => rfl
  | a :: r, [], _, h, _ => by simp [bytesBefore] at h
  | a :: r, b :: s, [], _, h => by simp [bytesBefore] at h
  | a :: r, b :: s, c :: t, h1, h2 => by
    simp only [bytesBefore, Bool.or_eq_true, decide_eq_true_eq, Bool.and_eq_true, beq_iff_eq] at h1 h2 ⊢
    rcases h1 with h1 | ⟨rfl, h1⟩
    · rcases h2 with h2 | ⟨rfl, h2⟩
      · exact Or.inl (UInt8.lt_trans h1 h2)
      · exact Or.inl h1
    · rcases h2 with h2 | ⟨rfl, h2⟩
      · exact Or.inl h2
      · exact Or.inr ⟨rfl, bb_trans h1 h2⟩
theorem bb_total : ∀ {a b : Nm}, a ≠ b → bytesBefore a b = false → bytesBefore b a = true
  | [], [], h, _ => absurd rfl h
  | [], _ :: _, _, h => by simp [bytesBefore] at h
  | _ :: _, [], _, _ => rfl
  | a :: r, b :: s, h, h1 => by
    simp only [bytesBefore, Bool.or_eq_false_iff, decide_eq_false_iff_not, Bool.and_eq_false_iff, Bool.or_eq_true, decide_eq_true_eq, Bool.and_eq_true, beq_iff_eq, beq_eq_false_iff_ne] at h1 ⊢
    by_cases e : a = b
    · subst e
      refine Or.inr ⟨rfl, bb_total (fun e => h (by rw [e])) ?_⟩
      rcases h1.2 with h2 | h2
      · exact absurd rfl h2
      · exact h2
    · refine Or.inl ?_
      have := h1.1
      rw [UInt8.lt_iff_toNat_lt] at this ⊢
      have hne : a.toNat ≠ b.toNat := fun h => e (UInt8.toNat_inj.1 h)
      omega
theorem fins_rising (x : Nm × α) : ∀ l : List (Nm × α), rising l → (∀ y ∈ l, y.1 ≠ x.1) → rising (fins x l)
  | [], _, _ => by simp [fins, rising]
  | y :: r, h, hn => by
    unfold rising at h ⊢
    obtain ⟨h1, h2⟩ := List.pairwise_cons.1 h
    unfold fins
    split
    · rename_i hb
      refine List.pairwise_cons.2 ⟨fun z hz => ?_, h⟩
      rcases List.mem_cons.1 hz with rfl | hz
      · exact hb
      · exact bb_trans hb (h1 z hz)
    · rename_i hb
      refine List.pairwise_cons.2 ⟨fun z hz => ?_, fins_rising x r h2 (fun z hz => hn z (by simp [hz]))⟩
      rcases (fins_mem x r z).1 hz with rfl | hz
      · exact bb_total (fun e => hn y (by simp) e.symm) (by simpa using hb)
      · exact h1 z hz
theorem fdel_rising (nm : Nm) {l : List (Nm × α)} (h : rising l) : rising (fdel nm l) := List.Pairwise.filter _ h
theorem fput_rising (nm : Nm) (x : α) {l : List (Nm × α)} (h : rising l) : rising (fput nm x l) :=
  fins_rising _ _ (fdel_rising nm h) (fun y hy => ((fdel_mem nm l y).1 hy).2)
theorem rising_apart {l : List (Nm × α)} (h : rising l) : l.Pairwise fun p q => p.1 ≠ q.1 := h.imp fun {a b} hab e => by rw [e, bb_irrefl] at hab; cases hab
theorem rising_get {l : List (Nm × α)} (h : rising l) {nm : Nm} {x : α} (hm : (nm, x) ∈ l) : fget nm l = some x := by
  induction l with
  | nil => simp at hm
  | cons y r ih =>
    obtain ⟨h1, h2⟩ := List.pairwise_cons.1 h
    unfold fget
    rw [List.find?_cons]
    rcases List.mem_cons.1 hm with e | hm
    · subst e; simp
    · have : (y.1 == nm) = false := by
        have := h1 _ hm
        simp only at this
        cases hb : (y.1 == nm)
        · rfl
        · rw [beq_iff_eq.1 hb, bb_irrefl] at this; cases this
      rw [this]
      exact ih h2 hm
theorem fget_put_same (nm : Nm) (x : α) {l : List (Nm × α)} (h : rising l) : fget nm (fput nm x l) = some x :=
  rising_get (fput_rising nm x h) ((fput_mem nm x l _).2 (Or.inl rfl))
theorem eq_of_mem : ∀ {l m : List (Nm × α)}, rising l → rising m → (∀ p, p ∈ l ↔ p ∈ m) → l = m
  | [], [], _, _, _ => rfl
  | [], b :: s, _, _, h => by have := (h b).2 (by simp); simp at this
  | a :: r, [], _, _, h => by have := (h a).1 (by simp); simp at this
  | a :: r, b :: s, h1, h2, h => by
    obtain ⟨a1, a2⟩ := List.pairwise_cons.1 h1
    obtain ⟨b1, b2⟩ := List.pairwise_cons.1 h2
    have hab : a = b := by
      rcases List.mem_cons.1 ((h a).1 (by simp)) with e | ha
      · exact e
      · rcases List.mem_cons.1 ((h b).2 (by simp)) with e | hb
        · exact e.symm
        · have := bb_trans (a1 b hb) (b1 a ha)
          rw [bb_irrefl] at this; cases this
    subst hab
    rw [eq_of_mem a2 b2 (fun p => ⟨fun hp => by
      rcases List.mem_cons.1 ((h p).1 (by simp [hp])) with e | hp'
      · have := a1 p hp; rw [e, bb_irrefl] at this; cases this
      · exact hp', fun hp => by
      rcases List.mem_cons.1 ((h p).2 (by simp [hp])) with e | hp'
      · have := b1 p hp; rw [e, bb_irrefl] at this; cases this
      · exact hp'⟩)]
theorem fput_same {nm : Nm} {x : α} {l : List (Nm × α)} (h : rising l) (hg : fget nm l = some x) : fput nm x l = l :=
  eq_of_mem (fput_rising nm x h) h (fun p => by
    rw [fput_mem]
    constructor
    · rintro (rfl | ⟨hp, _⟩)
      · exact fget_mem hg
      · exact hp
    · intro hp
      by_cases e : p.1 = nm
      · left
        obtain ⟨a, b⟩ := p
        simp only at e; subst e
        rw [rising_get h hp] at hg; cases hg; rfl
      · exact Or.inr ⟨hp, e⟩)
theorem fdel_len (nm : Nm) (l : List (Nm × α)) : (fdel nm l).length ≤ l.length := List.length_filter_le _ _
theorem fput_len (nm : Nm) (x : α) (l : List (Nm × α)) : (fput nm x l).length ≤ l.length + 1 := by
  unfold fput; rw [fins_len]; have := fdel_len nm l; omega
theorem fdel_len_has {nm : Nm} {l : List (Nm × α)} (h : fhas nm l = true) : (fdel nm l).length + 1 ≤ l.length := by
  induction l with
  | nil => simp [fhas] at h
  | cons y r ih =>
    simp only [fhas, List.any_cons, Bool.or_eq_true] at h
    unfold fdel at ih ⊢
    rw [List.filter_cons]
    by_cases e : (y.1 == nm) = true
    · simp [e]
      exact List.length_filter_le _ _
    · rcases h with h | h
      · exact absurd h e
      · have := ih h
        simp only [Bool.not_eq_true] at e
        simp [e]; omega
end
/-- An element of the map, as it is. -/
def Rv (v : Value) : Option (DataW Value × List MemPlace) := some (.held v, [])
theorem Rv_inv {v : Value} {d : DataW Value} {ps : List MemPlace} (h : Rv v = some (d, ps)) : d = .held v := by simp [Rv] at h; exact h.1.symm
/-- What the map reads as. -/
def toE (l : List (Nm × Value)) : List (Lit × DataW Value) := l.map fun p => (Lit.string p.1, .held p.2)
theorem toE_ins (x : Nm × Value) : ∀ l, DataW.insert (Lit.string x.1, DataW.held x.2) (toE l) = toE (fins x l)
  | [] => rfl
  | y :: r => by
    have ih := toE_ins x r
    simp only [toE] at ih
    have e : (Lit.string x.1).before (Lit.string y.1) = bytesBefore x.1 y.1 := rfl
    unfold fins
    simp only [toE, List.map_cons]
    unfold DataW.insert
    by_cases h : bytesBefore x.1 y.1 = true
    · have h' : (Lit.string x.1).before (Lit.string y.1) = true := h
      rw [if_pos h, if_pos h']; rfl
    · have h' : ¬ (Lit.string x.1).before (Lit.string y.1) = true := h
      rw [if_neg h, if_neg h', List.map_cons, ih]
theorem toE_del (nm : Nm) : ∀ l, (toE l).filter (fun p => !p.1.sameKey (Lit.string nm)) = toE (fdel nm l)
  | [] => rfl
  | y :: r => by
    have ih := toE_del nm r
    unfold fdel at ih ⊢
    have e : (Lit.string y.1).sameKey (Lit.string nm) = (y.1 == nm) := rfl
    simp only [toE] at ih ⊢
    rw [List.map_cons, List.filter_cons, List.filter_cons]
    simp only [e]
    by_cases h : (y.1 == nm) = true
    · simp only [h, Bool.not_true, Bool.false_eq_true, if_false]; exact ih
    · simp only [Bool.not_eq_true] at h
      simp only [h, Bool.not_false, if_true, List.map_cons, ih]
theorem put_E (nm : Nm) (v : Value) (l : List (Nm × Value)) : (DataW.map (toE l)).put (.string nm) (.held v) = .map (toE (fput nm v l)) := by
  simp only [DataW.put, toE_del]
  rw [show (Lit.string nm, DataW.held v) = (Lit.string (nm, v).1, DataW.held (nm, v).2) from rfl, toE_ins]; rfl
theorem del_E (nm : Nm) (l : List (Nm × Value)) : (DataW.map (toE l)).del (.string nm) = .map (toE (fdel nm l)) := by
  simp only [DataW.del, toE_del]
theorem has_E (nm : Nm) (l : List (Nm × Value)) : Maps.has (.map (toE l)) (.string nm) = fhas nm l := by
  simp only [Maps.has, toE, List.any_map, fhas]; rfl
theorem at_E (nm : Nm) (z : DataW Value) : ∀ l : List (Nm × Value), (DataW.map (toE l)).atKey (.string nm) z = match fget nm l with | some v => .held v | none => z
  | [] => rfl
  | y :: r => by
    have ih := at_E nm z r
    simp only [DataW.atKey, toE, List.map_cons, List.find?_cons, Lit.sameKey, fget] at ih ⊢
    cases (y.1 == nm)
    · exact ih
    · rfl
theorem size_E (l : List (Nm × Value)) : Maps.size (.map (toE l)) = l.length := by simp [Maps.size, toE]
theorem keys_E (l : List (Nm × Value)) : Go.strKeys (.map (toE l)) = l.map (·.1) := by
  simp only [Go.strKeys, toE, List.map_map]; rfl
end Go.Proofs.Ytiglenomigipmaa.Mp

namespace Go.Proofs.Ytiglenomigipmaa
open Go.RowKit Go.Maps Go.WideMaps Go.WideAt Mp
theorem mapM_of {α β : Type} {g : α → Option β} {f : α → β} : ∀ {l : List α}, (∀ x ∈ l, g x = some (f x)) → l.mapM g = some (l.map f)
  | [], _ => rfl
  | a :: l, h => by
    rw [List.mapM_cons, h a (by simp), mapM_of (fun x hx => h x (by simp [hx]))]; rfl
theorem lit5 {d : Nat} (b : UInt8) : Try.prog.keyLits (d + 1) 5 [.int .u8 (b.toNat : Int)] = some [.int .u8 (b.toNat : Int)] := by
  have hb := b.toNat_lt
  have hw : (Lit.int .u8 (b.toNat : Int)).wf = true := by simp [Lit.wf, IntKind.min, IntKind.max, IntKind.bits, IntKind.signed]; omega
  unfold Program.keyLits
  simp [Try.underlying5, hw]
theorem one_at (l : List Value) (i : Nat) {c : Value} (h : l[i]? = some c) : (l.drop (i * 1)).take 1 = [c] := by
  obtain ⟨hl, e⟩ := List.getElem?_eq_some_iff.1 h
  rw [Nat.mul_one, List.drop_eq_getElem_cons hl, e]; rfl
theorem range_flat : ∀ (h : H), ((List.range h.length).map fun i => [Lit.int .u8 ((h.getD i 0).toNat : Int)]).flatten = h.map fun b => Lit.int .u8 (b.toNat : Int) := fun h => by
  have e : ((List.range h.length).map fun i => [Lit.int .u8 ((h.getD i 0).toNat : Int)]) = h.map fun b => [Lit.int .u8 (b.toNat : Int)] := by
    apply List.ext_getElem
    · simp
    · intro i h1 h2
      have hi : i < h.length := by simpa using h1
      simp [List.getD, hi]
  rw [e]
  induction h with
  | nil => rfl
  | cons b h ih =>
    simp only [List.map_cons, List.flatten_cons, List.singleton_append]
    congr 1
    refine ih ?_
    apply List.ext_getElem
    · simp
    · intro i h1 h2
      have hi : i < h.length := by simpa using h1
      simp [List.getD, hi]
theorem keyBytes8 : ∀ h : H, keyBytes (h.map fun b => Lit.int .u8 (b.toNat : Int)) = h
  | [] => rfl
  | b :: h => by
    have hb := b.toNat_lt
    unfold keyBytes
    rw [List.map_cons, List.flatMap_cons]
    have ih := keyBytes8 h
    unfold keyBytes at ih
    rw [ih]
    have : Lit.keyBytes (Lit.int .u8 (b.toNat : Int)) = [b] := by
      simp only [Lit.keyBytes, IntKind.bits]
      have e : (((b.toNat : Int) % 2 ^ 8).toNat) = b.toNat := by omega
      rw [e]
      simp [bytesBE, bytesLE]
    rw [this]; rfl
theorem keyed37 : Keyed Try.prog 37 := Keyed.of_law (deep_law_gate laidOut (by rw [show Try.prog.types.size = 120 by kernel_rfl]; omega) (show (37 : Nat) < _ by rw [show Try.prog.types.size = 120 by kernel_rfl]; omega) (by kernel_rfl) (by rw [Try.underlying37]))
theorem cells35 : Try.prog.cellsOf 35 = 32 := by kernel_rfl
theorem cells37 : Try.prog.cellsOf 37 = 33 := by kernel_rfl
theorem cells3 : Try.prog.cellsOf 3 = 1 := by kernel_rfl
theorem lits35 {h : H} (hh : h.length = 32) {d : Nat} : Try.prog.keyLits (d + 1 + 1) 35 (c8 h) = some (h.map fun b => Lit.int .u8 (b.toNat : Int)) := by
  unfold Program.keyLits
  simp only [Try.underlying35, cells35, c8_len, hh, if_true, cells5]
  rw [mapM_of (f := fun i => [Lit.int .u8 ((h.getD i 0).toNat : Int)])]
  · rw [← hh, Option.map_some, range_flat]
  · intro i hi
    rw [one_at (c8 h) i (c8_get h i (by rw [hh]; simpa using hi))]
    exact lit5 _
/-- The bytes that an id reads as. -/
def idb (x : Idn) : Nm := Lit.keyBytes (.int .i64 x.c) ++ x.b
set_option maxRecDepth 100000 in
theorem keyOf37 {x : Idn} (hx : x.Ok) : keyOf Try.prog 37 (idv x) = some (.string (idb x)) := by
  have hk : Try.prog.keyType 37 = true := by kernel_rfl
  have hf : (idv x).formed Try.prog 37 = true := by
    unfold idv Value.formed; simp [Try.underlying37, cells37, idc_len hx]
  have hw : (Lit.int .i64 x.c).wf = true := by
    have := hx.lo; have := hx.hi
    simp [Lit.wf, IntKind.min, IntKind.max, IntKind.bits, IntKind.signed]; omega
  have hl : Try.prog.keyLits (Try.prog.types.size + 1) 37 (idc x) = some (.int .i64 x.c :: x.b.map fun b => Lit.int .u8 (b.toNat : Int)) := by
    rw [show Try.prog.types.size = 118 + 1 + 1 by kernel_rfl]
    unfold Program.keyLits
    simp only [Try.underlying37, cells37, idc_len hx, true_and]
    have e1 : Try.prog.keyLits 120 3 (List.take (Try.prog.cellsOf 3) (List.drop 0 (idc x))) = some [.int .i64 x.c] := by
      rw [cells3]
      unfold Program.keyLits
      simp [Try.underlying3, idc, hw]
    have e2 : Try.prog.keyLits 120 35 (List.take (Try.prog.cellsOf 35) (List.drop 1 (idc x))) = some (x.b.map fun b => Lit.int .u8 (b.toNat : Int)) := by
      rw [cells35, show (idc x).drop 1 = c8 x.b from rfl, List.take_of_length_le (by rw [c8_len, hx.len]; omega)]
      exact lits35 hx.len
    rw [if_pos (by kernel_rfl)]
    simp only [List.mapM_cons, List.mapM_nil, e1, e2]
    simp
  unfold keyOf
  simp only [Try.underlying37, hk, hf, Bool.and_self, if_true]
  unfold idv
  simp only [Value.cells]
  rw [hl, Option.map_some]
  have := keyBytes8 x.b
  unfold keyBytes at this ⊢
  rw [List.flatMap_cons, this]
  rfl
theorem idb_inj {x y : Idn} (hx : x.Ok) (hy : y.Ok) (h : idb x = idb y) : x = y := by
  have h1 := keyOf37 hx
  have h2 := keyOf37 hy
  rw [← h] at h2
  have h3 := keyed37.inj h1 h2
  unfold idv at h3
  injection h3 with h3
  have h4 : idc x = idc y := by have := congrArg Array.toList h3; simpa using this
  unfold idc at h4
  injection h4 with h5 h6
  injection h5 with _ h5
  have h7 : x.b = y.b := by
    apply all_eq hx.len hy.len
    intro j hj
    have e1 := c8_get x.b j (by rw [hx.len]; exact hj)
    have e2 := c8_get y.b j (by rw [hy.len]; exact hj)
    rw [h6, e2] at e1
    injection e1 with e1
    injection e1 with _ e1
    exact (UInt8.toNat_inj.1 (by exact_mod_cast e1)).symm
  cases x; cases y; simp_all
end Go.Proofs.Ytiglenomigipmaa
