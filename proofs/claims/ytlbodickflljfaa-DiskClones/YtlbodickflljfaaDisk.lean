/-
  THE DISK IN MEMORY: the struct's block, the map's, a row for each file; and what a call may turn.
-/
import Derived.Test.YtlbodickflljfaaBase
import Derived.Test.YtlbodickflljfaaOps
import Derived.Test.YtlbodickflljfaaShelf
import Derived.Maps.RangeWalk
namespace Go.Proofs.Ytlbodickflljfaa
open Go.RowKit Go.Maps Dsk
theorem law9 : Keyed Try.prog 9 := string_keyed Try.underlying9
theorem zero77 (w : World) : (zeroValue 77).run Try.prog w = .ok (.agg #[.slice none 0 0, .int .i64 0]) w := by kernel_rfl
/-- An element of the map, as it is. -/
def Rv (v : Value) : Option (DataW Value × List MemPlace) := some (.held v, [])
theorem Rv_inv {v : Value} {d : DataW Value} {ps : List MemPlace} (h : Rv v = some (d, ps)) : d = .held v := by simp [Rv] at h; exact h.1.symm
theorem key9 (nm : Nm) (h : nm.length ≤ maxLen) : keyOf Try.prog 9 (.string (strOf nm)) = some (.string nm) := by
  have := WideMaps.keyOf_string_mk Try.underlying9 (s := strOf nm) (by rw [strOf_size]; exact h)
  simpa [strOf] using this
/-- What the map reads as. -/
def toE (l : List (Nm × Value)) : List (Lit × DataW Value) := l.map fun p => (Lit.string p.1, .held p.2)
theorem toE_ins (x : Nm × Value) : ∀ l, DataW.insert (Lit.string x.1, DataW.held x.2) (toE l) = toE (fins x l)
  | [] => rfl
  | y :: r => by
    have ih := toE_ins x r
    simp only [toE] at ih
    have e : (Lit.string x.1).before (Lit.string y.1) = bytesBefore x.1 y.1 := rfl
    unfold fins
    simp only [toE, List.map_cons]
    unfold DataW.insert
    by_cases h : bytesBefore x.1 y.1 = true
    · have h' : (Lit.string x.1).before (Lit.string y.1) = true := h
      rw [if_pos h, if_pos h']; rfl
    · have h' : ¬ (Lit.string x.1).before (Lit.string y.1) = true := h
      rw [if_neg h, if_neg h', List.map_cons, ih]
theorem toE_del (nm : Nm) : ∀ l, (toE l).filter (fun p => !p.1.sameKey (Lit.string nm)) = toE (fdel nm l)
  | [] => rfl
  | y :: r => by
    have ih := toE_del nm r
    unfold fdel at ih ⊢
    have e : (Lit.string y.1).sameKey (Lit.string nm) = (y.1 == nm) := rfl
    simp only [toE] at ih ⊢
    rw [List.map_cons, List.filter_cons, List.filter_cons]
    simp only [e]
    by_cases h : (y.1 == nm) = true
    · simp only [h, Bool.not_true, Bool.false_eq_true, if_false]; exact ih
    · simp only [Bool.not_eq_true] at h
      simp only [h, Bool.not_false, if_true, List.map_cons, ih]
theorem put_E (nm : Nm) (v : Value) (l : List (Nm × Value)) : (DataW.map (toE l)).put (.string nm) (.held v) = .map (toE (fput nm v l)) := by
  simp only [DataW.put, toE_del]
  rw [show (Lit.string nm, DataW.held v) = (Lit.string (nm, v).1, DataW.held (nm, v).2) from rfl, toE_ins]; rfl
theorem del_E (nm : Nm) (l : List (Nm × Value)) : (DataW.map (toE l)).del (.string nm) = .map (toE (fdel nm l)) := by
  simp only [DataW.del, toE_del]
theorem has_E (nm : Nm) (l : List (Nm × Value)) : Maps.has (.map (toE l)) (.string nm) = fhas nm l := by
  simp only [Maps.has, toE, List.any_map, fhas]; rfl
theorem at_E (nm : Nm) (z : DataW Value) : ∀ l : List (Nm × Value), (DataW.map (toE l)).atKey (.string nm) z = match fget nm l with | some v => .held v | none => z
  | [] => rfl
  | y :: r => by
    have ih := at_E nm z r
    simp only [DataW.atKey, toE, List.map_cons, List.find?_cons, Lit.sameKey, fget] at ih ⊢
    cases (y.1 == nm)
    · exact ih
    · rfl
theorem size_E (l : List (Nm × Value)) : Maps.size (.map (toE l)) = l.length := by simp [Maps.size, toE]
theorem keys_E (l : List (Nm × Value)) : Go.strKeys (.map (toE l)) = l.map (·.1) := by
  simp only [Go.strKeys, toE, List.map_map]; rfl
/-- A file's value: a slice with a row of its own, and how much of it is safe. -/
def FileV (w : World) (v : Value) (f : Fl) : Prop := ∃ sl, v = .agg #[sl, .int .i64 (f.safe : Int)] ∧ Own w 0 sl f.data
def rowB : Value → Option Nat
  | .agg cs => (cs[0]?).bind Value.ownBlock
  | _ => none
/-- An entry with what it means. -/
abbrev Ent := Nm × (Value × Fl)
def vals (cs : List Ent) : List (Nm × Value) := cs.map (onV (·.1))
def fls (cs : List Ent) : List (Nm × Fl) := cs.map (onV (·.2))
/-- The rows of files: each in F, no two in one. -/
structure Rows5 (w : World) (F : Nat → Prop) (cs : List Ent) : Prop where
  file : ∀ c ∈ cs, FileV w c.2.1 c.2.2
  foot : ∀ c ∈ cs, ∀ g, rowB c.2.1 = some g → F g
  apart : ∀ c ∈ cs, ∀ d ∈ cs, c.1 ≠ d.1 → ∀ g, rowB c.2.1 = some g → rowB d.2.1 ≠ some g
def cells68 (S : Dk) (mb : Nat) : List Value := [.int .i64 (S.most : Int), .map (some mb), .int .i64 (S.steps : Int), .bool S.down, .bool S.said, .int .i64 (S.left : Int), .bool S.done]
/-- The disk S lies at block sb, all of it in F. -/
def DiskAt (w : World) (F : Nat → Prop) (sb : Nat) (S : Dk) : Prop :=
  ∃ mb cs, F sb ∧ F mb ∧ RowIs w sb 68 (cells68 S mb) ∧ w.ownsMap Try.prog 9 Rv mb cs.length (.map (toE (vals cs))) ∧ Rows5 w F cs ∧ fls cs = S.files
/-- Nothing that was there has turned, but for what lies in F. -/
structure Turn (F : Nat → Prop) (w w' : World) : Prop where
  os : w'.os = w.os
  tape : w'.tape = w.tape
  output : w'.output = w.output
  size : w.heap.size ≤ w'.heap.size
  block : ∀ k, k < w.heap.size → ¬ F k → w'.heap[k]? = w.heap[k]?
/-- What a call may turn, with all that it made. -/
def more (F : Nat → Prop) (w w' : World) : Nat → Prop := fun i => F i ∨ (w.heap.size ≤ i ∧ i < w'.heap.size)
section
variable {F : Nat → Prop} {a b c w w' : World}
theorem Turn.refl (F : Nat → Prop) (w : World) : Turn F w w := ⟨rfl, rfl, rfl, Nat.le_refl _, fun _ _ _ => rfl⟩
theorem Turn.trans (h : Turn F a b) (k : Turn F b c) : Turn F a c :=
  ⟨k.os.trans h.os, k.tape.trans h.tape, k.output.trans h.output, Nat.le_trans h.size k.size, fun i hi hn => (k.block i (Nat.lt_of_lt_of_le hi h.size) hn).trans (h.block i hi hn)⟩
theorem Turn.more (h : Turn F a b) (k : Turn (more F a b) b c) : Turn F a c :=
  ⟨k.os.trans h.os, k.tape.trans h.tape, k.output.trans h.output, Nat.le_trans h.size k.size, fun i hi hn => (k.block i (Nat.lt_of_lt_of_le hi h.size) (fun e => by
    rcases e with e | ⟨e, _⟩
    · exact hn e
    · omega)).trans (h.block i hi hn)⟩
theorem Turn.mono {G : Nat → Prop} (h : Turn F a b) (hFG : ∀ i, i < a.heap.size → F i → G i) : Turn G a b := ⟨h.os, h.tape, h.output, h.size, fun i hi hn => h.block i hi (fun hF => hn (hFG i hi hF))⟩
theorem Turn.of_after (h : After a b) : Turn F a b := ⟨h.os, h.tape, h.output, h.size, fun i hi _ => h.block i hi⟩
theorem Turn.alloc (h : Turn F a b) (o : Obj) : Turn F a (b.alloc o) := h.trans (Turn.of_after (after_alloc (After.refl b) o))
theorem Turn.drew (h : Turn F a b) : Turn F a b.drew := ⟨h.os, h.tape, h.output, h.size, h.block⟩
theorem Turn.grown {row : Option Nat} (h : a.grownBy b row) (hr : ∀ g, row = some g → F g) : Turn F a b := ⟨h.os, h.tape, h.output, h.size, fun i hi hn => h.block i hi (fun e => hn (hr i e.symm))⟩
theorem Turn.setCell (h : Turn F a b) {p : Addr} (hp : F p.block ∨ a.heap.size ≤ p.block) (v : Value) : Turn F a (b.setCell p v) :=
  ⟨h.os, h.tape, h.output, by have := h.size; simpa using this, fun k hk hn => by
    rw [heap_setCell_other b p k v (fun e => by rcases hp with hp | hp; exact hn (e ▸ hp); omega)]; exact h.block k hk hn⟩
theorem Turn.below (h : Turn F a b) {B : Nat} (hB : B ≤ a.heap.size) (hF : ∀ i, F i → B ≤ i) : Below B a b :=
  ⟨h.os, h.tape, h.output, h.size, fun k hk => h.block k (by omega) (fun e => by have := hF k e; omega)⟩
theorem Turn.after (h : Turn (fun i => a.heap.size ≤ i) a b) : After a b := h.below (Nat.le_refl _) (fun _ h => h)
theorem more_lt (hF : ∀ i, F i → i < w.heap.size) (hs : w.heap.size ≤ w'.heap.size) : ∀ i, more F w w' i → i < w'.heap.size := fun i h => by
  rcases h with h | h
  · have := hF i h; omega
  · exact h.2
theorem more_ge {B : Nat} (hF : ∀ i, F i → B ≤ i) (hB : B ≤ w.heap.size) : ∀ i, more F w w' i → B ≤ i := fun i h => by
  rcases h with h | h
  · exact hF i h
  · omega
end
theorem own_block {w : World} {sl : Value} {bs : List UInt8} (h : Own w 0 sl bs) {g : Nat} (hg : sl.ownBlock = some g) : ∃ cur, w.heap[g]? = some (.cells cur 5 (0, 0)) := by
  rcases h.2 with ⟨rfl, _⟩ | ⟨g', cap, cur, rfl, _, hgg, _⟩
  · simp [Value.ownBlock] at hg
  · simp [Value.ownBlock] at hg
    subst hg
    exact ⟨cur, hgg⟩
theorem Own.same {w w' : World} {base : Nat} {sl : Value} {bs : List UInt8} (h : Own w base sl bs) (hs : ∀ g, sl.ownBlock = some g → w'.heap[g]? = w.heap[g]?) : Own w' base sl bs := by
  refine ⟨h.1, ?_⟩
  rcases h.2 with hn | ⟨g, cap, cur, rfl, h1, h2, rest⟩
  · exact .inl hn
  · exact .inr ⟨g, cap, cur, rfl, h1, by rw [hs g rfl]; exact h2, rest⟩
theorem rowB_file {sl : Value} {n : Int} : rowB (.agg #[sl, .int .i64 n]) = sl.ownBlock := by simp [rowB]
theorem FileV.same {w w' : World} {v : Value} {f : Fl} (h : FileV w v f) (hs : ∀ g, rowB v = some g → w'.heap[g]? = w.heap[g]?) : FileV w' v f := by
  obtain ⟨sl, rfl, ho⟩ := h
  rw [rowB_file] at hs
  exact ⟨sl, rfl, ho.same hs⟩
theorem FileV.block {w : World} {v : Value} {f : Fl} (h : FileV w v f) {g : Nat} (hg : rowB v = some g) : ∃ cur, w.heap[g]? = some (.cells cur 5 (0, 0)) := by
  obtain ⟨sl, rfl, ho⟩ := h
  rw [rowB_file] at hg
  exact own_block ho hg
theorem Rows5.same {w w' : World} {F : Nat → Prop} {cs : List Ent} (h : Rows5 w F cs) (hs : ∀ c ∈ cs, ∀ g, rowB c.2.1 = some g → w'.heap[g]? = w.heap[g]?) : Rows5 w' F cs :=
  ⟨fun c hc => (h.file c hc).same (hs c hc), h.foot, h.apart⟩
theorem Rows5.mono {w : World} {F G : Nat → Prop} {cs : List Ent} (h : Rows5 w F cs) (hFG : ∀ i, F i → G i) : Rows5 w G cs := ⟨h.file, fun c hc g hg => hFG g (h.foot c hc g hg), h.apart⟩
theorem ownsMap_same {w w' : World} {mb n : Nat} {D : DataW Value} (h : w.ownsMap Try.prog 9 Rv mb n D) (hs : w'.heap[mb]? = w.heap[mb]?) : w'.ownsMap Try.prog 9 Rv mb n D := by
  obtain ⟨es, clock, hb, r⟩ := h
  exact ⟨es, clock, by rw [hs]; exact hb, r⟩
/-- The number of entries is what the reading says. -/
theorem ownsMap_tight {w : World} {mb n : Nat} {l : List (Nm × Value)} (h : w.ownsMap Try.prog 9 Rv mb n (.map (toE l))) : w.ownsMap Try.prog 9 Rv mb l.length (.map (toE l)) := by
  obtain ⟨es, clock, hb, F, _, hD⟩ := h
  refine ⟨es, clock, hb, F, ?_, hD⟩
  have := congrArg Maps.size hD
  rw [size_E] at this
  simp only [Maps.size, length_sorted, List.length_map, Array.length_toList] at this
  omega
theorem DiskAt.same {w w' : World} {F : Nat → Prop} {sb : Nat} {S : Dk} (h : DiskAt w F sb S) (hs : ∀ i, F i → w'.heap[i]? = w.heap[i]?) : DiskAt w' F sb S := by
  obtain ⟨mb, cs, h1, h2, h3, h4, h5, h6⟩ := h
  refine ⟨mb, cs, h1, h2, by unfold RowIs; rw [hs sb h1]; exact h3, ownsMap_same h4 (hs mb h2), h5.same (fun c hc g hg => hs g (h5.foot c hc g hg)), h6⟩
theorem DiskAt.mono {w : World} {F G : Nat → Prop} {sb : Nat} {S : Dk} (h : DiskAt w F sb S) (hFG : ∀ i, F i → G i) : DiskAt w G sb S := by
  obtain ⟨mb, cs, h1, h2, h3, h4, h5, h6⟩ := h
  exact ⟨mb, cs, hFG _ h1, hFG _ h2, h3, h4, h5.mono hFG, h6⟩
/-- A disk stays what it is, while nothing of it is turned. -/
theorem DiskAt.turn {w w' : World} {F G : Nat → Prop} {sb : Nat} {S : Dk} (h : DiskAt w F sb S) (hF : ∀ i, F i → i < w.heap.size) (ht : Turn G w w') (hn : ∀ i, F i → ¬ G i) : DiskAt w' F sb S :=
  h.same (fun i hi => ht.block i (hF i hi) (hn i hi))
theorem DiskAt.after {w w' : World} {F : Nat → Prop} {sb : Nat} {S : Dk} (h : DiskAt w F sb S) (hF : ∀ i, F i → i < w.heap.size) (ht : After w w') : DiskAt w' F sb S :=
  h.same (fun i hi => ht.block i (hF i hi))
end Go.Proofs.Ytlbodickflljfaa
