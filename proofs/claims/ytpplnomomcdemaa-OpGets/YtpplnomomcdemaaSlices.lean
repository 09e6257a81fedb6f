/-
  FOR THE READERS: b[k:n:n], b[k:]; bytes.Clone; leb.Read; what is known of a reader.
-/
import Derived.Test.YtpplnomomcdemaaRow
import Derived.Lib.Slices
namespace Go.Proofs.Ytpplnomomcdemaa
open Go.RowKit Leb
theorem bytesAt_none {w : World} {bs : List UInt8} (h : BytesAt w none bs) : bs = [] := Classical.byContradiction fun hn => by
  obtain ⟨b, o, he, _⟩ := h hn; cases he
theorem BytesAt.dropAt {w : World} {b o : Nat} {bs : List UInt8} (h : BytesAt w (some ⟨b, o, none⟩) bs) (k : Nat) : BytesAt w (some ⟨b, o + k, none⟩) (bs.drop k) := fun hn => by
  obtain ⟨b', o', he, hc⟩ := h (by intro h; simp [h] at hn)
  cases he
  refine ⟨b, o + k, rfl, fun j hj => ?_⟩
  simp only [List.length_drop] at hj
  rw [Nat.add_assoc, hc (k + j) (by omega)]
  simp [List.getD_eq_getElem?_getD, List.getElem?_drop]
/-- What slicing makes of an address. -/
def cutAt (ao : Option Addr) (k c : Nat) : Option Addr := if c = k then ao else ao.map fun a => a.add k
theorem cutAt_block {ao : Option Addr} {k c : Nat} {a : Addr} (h : cutAt ao k c = some a) : ∃ b, ao = some b ∧ b.block = a.block := by
  unfold cutAt at h
  split at h
  · exact ⟨a, h, rfl⟩
  · cases ao with
    | none => cases h
    | some b => simp at h; subst h; exact ⟨b, rfl, by unfold Addr.add; split <;> rfl⟩
theorem BytesAt.cut {w : World} {ao : Option Addr} {bs : List UInt8} (h : BytesAt w ao bs) (k c : Nat) (hc : bs.length ≤ c) : BytesAt w (cutAt ao k c) (bs.drop k) := fun hn => by
  obtain ⟨b, o, rfl, _⟩ := h (by intro h; simp [h] at hn)
  have hlt : k < bs.length := Classical.byContradiction fun hk => hn (List.drop_eq_nil_iff.2 (by omega))
  have := h.dropAt k hn
  unfold cutAt
  rw [if_neg (by omega)]
  simpa [Addr.add_mid] using this
theorem slice_three (ao : Option Addr) (n cap k : Nat) (hz : ao = none → n = 0) (hc : n ≤ cap) (hk : k ≤ n) (W : World) :
    (Instr.sliceAt 30 (.slice ao n cap) (some (.int .i64 (k : Int))) (some (.int .i64 (n : Int))) (some (.int .i64 (n : Int)))).run Try.prog W = .ok (.slice (cutAt ao k n) (n - k) (n - k)) W := by
  obtain ⟨i, hi', hzz⟩ := Option.map_eq_some_iff.1 bytes5
  simp only [Prod.mk.injEq] at hzz
  obtain ⟨_, hsz, _⟩ := hzz
  cases ao with
  | none =>
    obtain rfl : n = 0 := hz rfl
    obtain rfl : k = 0 := by omega
    simp [Instr.sliceAt, Instr.slice, run_underlying Try.underlying30, Instr.sliceBounds, Instr.sliceBound, asIntOf, sizeOf, typeInfo, hi', cutAt]
  | some a =>
    by_cases h : n = k
    · simp [Instr.sliceAt, Instr.slice, run_underlying Try.underlying30, Instr.sliceBounds, Instr.sliceBound, asIntOf, sizeOf, typeInfo, hi', hsz, cutAt, h]
      intro h2; omega
    · simp [Instr.sliceAt, Instr.slice, run_underlying Try.underlying30, Instr.sliceBounds, Instr.sliceBound, asIntOf, sizeOf, typeInfo, hi', hsz, cutAt, h, hc, hk]
theorem slice_from (ao : Option Addr) (n cap k : Nat) (hz : ao = none → n = 0) (hc : n ≤ cap) (hk : k ≤ n) (W : World) :
    (Instr.sliceAt 30 (.slice ao n cap) (some (.int .i64 (k : Int))) none none).run Try.prog W = .ok (.slice (cutAt ao k cap) (n - k) (cap - k)) W := by
  obtain ⟨i, hi', hzz⟩ := Option.map_eq_some_iff.1 bytes5
  simp only [Prod.mk.injEq] at hzz
  obtain ⟨_, hsz, _⟩ := hzz
  cases ao with
  | none =>
    obtain rfl : n = 0 := hz rfl
    obtain rfl : k = 0 := by omega
    simp [Instr.sliceAt, Instr.slice, run_underlying Try.underlying30, Instr.sliceBounds, Instr.sliceBound, asIntOf, sizeOf, typeInfo, hi', cutAt]
  | some a =>
    by_cases h : cap = k
    · simp [Instr.sliceAt, Instr.slice, run_underlying Try.underlying30, Instr.sliceBounds, Instr.sliceBound, asIntOf, sizeOf, typeInfo, hi', hsz, cutAt, h]
      intro h2; omega
    · simp [Instr.sliceAt, Instr.slice, run_underlying Try.underlying30, Instr.sliceBounds, Instr.sliceBound, asIntOf, sizeOf, typeInfo, hi', hsz, cutAt, h, hk]
/-- Nothing that was there has turned, but for block g. -/
structure But (g : Nat) (w w' : World) : Prop where
  os : w'.os = w.os
  tape : w'.tape = w.tape
  output : w'.output = w.output
  size : w.heap.size ≤ w'.heap.size
  block : ∀ k, k < w.heap.size → k ≠ g → w'.heap[k]? = w.heap[k]?
theorem But.refl (g : Nat) (w : World) : But g w w := ⟨rfl, rfl, rfl, Nat.le_refl _, fun _ _ _ => rfl⟩
theorem But.trans {g : Nat} {a b c : World} (h : But g a b) (k : But g b c) : But g a c :=
  ⟨k.os.trans h.os, k.tape.trans h.tape, k.output.trans h.output, Nat.le_trans h.size k.size, fun i hi hg => (k.block i (Nat.lt_of_lt_of_le hi h.size) hg).trans (h.block i hi hg)⟩
theorem But.of_below {g : Nat} {a b : World} (h : Below a.heap.size a b) : But g a b := ⟨h.os, h.tape, h.output, h.size, fun k hk _ => h.block k hk⟩
theorem But.drew {g : Nat} {a b : World} (h : But g a b) : But g a b.drew := ⟨h.os, h.tape, h.output, h.size, h.block⟩
theorem But.setRow {g : Nat} {a b : World} (h : But g a b) (cs : Array Value) : But g a (b.setRow g cs) :=
  ⟨h.os, h.tape, h.output, by have := h.size; simpa using this, fun k hk hg => by rw [Go.setRow_other b g k cs hg]; exact h.block k hk hg⟩
theorem But.setCell {g : Nat} {a b : World} (h : But g a b) (j : Nat) (v : Value) : But g a (b.setCell ⟨g, j, none⟩ v) :=
  ⟨h.os, h.tape, h.output, by have := h.size; simpa using this, fun k hk hg => by rw [heap_setCell_other b _ k v hg]; exact h.block k hk hg⟩
theorem But.row {g g' : Nat} {a b : World} {t : TypeId} {cs : List Value} (h : But g a b) (r : RowIs a g' t cs) (hg : g' ≠ g) : RowIs b g' t cs := by
  unfold RowIs; rw [h.block g' r.lt hg]; exact r
theorem But.cell {g : Nat} {a b : World} (h : But g a b) {p : Addr} {v : Value} (hp : p.block ≠ g) (hc : a.cell? p = some v) : b.cell? p = some v := by
  rw [World.cell?_of_block (w := a) (h.block p.block (block_lt_of_cell hc) hp)]; exact hc
theorem But.below {g B : Nat} {a b : World} (h : But g a b) (hg : B ≤ g) (hB : B ≤ a.heap.size) : Below B a b :=
  ⟨h.os, h.tape, h.output, h.size, fun k hk => h.block k (by omega) (by omega)⟩
theorem But.bytes {g : Nat} {w w' : World} (h : But g w w') {ao : Option Addr} {bs : List UInt8} (hb : BytesAt w ao bs) (hg : ∀ a, ao = some a → a.block ≠ g) : BytesAt w' ao bs := fun hn => by
  obtain ⟨b, o, rfl, hc⟩ := hb hn
  exact ⟨b, o, rfl, fun j hj => h.cell (p := ⟨b, o + j, none⟩) (hg ⟨b, o, none⟩ rfl) (hc j hj)⟩
set_option maxHeartbeats 400000 in
theorem clone_any (ao : Option Addr) (cap : Nat) (bs : List UInt8) (hbig : bs.length ≤ 140737488355328) (w : World) (hat : BytesAt w ao bs) :
    Calls Try.prog 79 #[.slice ao bs.length cap] w fun e w' => ∃ v, e = .returned v ∧ Own w' w.heap.size v bs ∧ Below w.heap.size w w' := by
  have HAT : Hid (BytesAt w ao bs) := hat
  have q23 : ∀ W : World, (binOp .eql 30 (.slice ao bs.length cap) (.slice none 0 0)).run Try.prog W = .ok (.bool ao.isNone) W := fun W => Lib.run_eql_slice_nil W _ _ ao _ _ _ _ Try.underlying30
  clear hat
  cases ao with
  | none =>
    obtain rfl := bytesAt_none HAT.out
    have q : ∀ W : World, (binOp .eql 30 (.slice none 0 cap) (.slice none 0 0)).run Try.prog W = .ok (.bool true) W := q23
    clear q23
    go_enter Try.func79, Try.ntmps79
    go_wp2
    go_ret
    exact ⟨_, rfl, Own.nil w _, Below.refl _ _⟩
  | some a =>
    go_enter Try.func79, Try.ntmps79
    go_wp2_with (at_builtin; refine wpList_append_any rfl (.tmp 5) (.tmp 6) rfl w.heap.size _ [] rfl (Own.fresh w) (some a) cap bs bs.length rfl rfl (HAT.out.after (after_alloc (After.refl w) _)) (by simp; omega) (by simp) ?_; intro v1 w1 ho1 hg1; rw [List.nil_append] at ho1)
    go_ret
    exact ⟨_, rfl, ho1, after_grown (after_alloc (After.refl w) _) hg1 (Nat.le_refl _) (fun k hk => (World.ownsRow.lt (Own.fresh w) k hk).1)⟩
/-- A reader: its block, what is left, the first error. -/
structure Rd (w : World) (g : Nat) (bs : List UInt8) (e : Nat) (ao : Option Addr) (cap : Nat) : Prop where
  row : RowIs w g 112 [.slice ao bs.length cap, .int .i64 (e : Int)]
  at' : BytesAt w ao bs
  cap : bs.length ≤ cap
  nil : ao = none → bs = []
  apart : ∀ a, ao = some a → a.block ≠ g
set_option maxHeartbeats 400000 in
theorem read_any (ao : Option Addr) (cap : Nat) (bs : List UInt8) (hbig : bs.length ≤ 140737488355328) (w : World) (hat : BytesAt w ao bs) :
    Calls Try.prog 71 #[.slice ao bs.length cap] w fun e w' => ∃ g a' c', e = .returned (.pointer (some ⟨g, 0, none⟩)) ∧ Rd w' g bs 0 a' c' ∧ (∀ a, a' = some a → w.heap.size ≤ a.block) ∧ w.heap.size ≤ g ∧ Below w.heap.size w w' := by
  have HAT : Hid (BytesAt w ao bs) := hat
  clear hat
  go_enter Try.func71, Try.ntmps71
  go_wp2_with (go_at_call 79; refine (clone_any ao cap bs hbig _ HAT.out).mono ?_; rintro e w1 ⟨v1, rfl, ho1, hb1⟩; obtain ⟨a1, c1, rfl, hat1, hc1, hl1⟩ := ho1.at)
  go_ret
  refine ⟨w1.heap.size, a1, c1, rfl, ⟨RowIs.new w1 112 [.slice a1 bs.length c1, .int .i64 0], hat1.after (after_alloc (After.refl w1) _), hc1, fun h => ?_, fun a ha => ?_⟩, fun a ha => (hl1 a ha).1, hb1.size, after_alloc hb1 _⟩
  · subst h; exact bytesAt_none hat1
  · have := (hl1 a ha).2; omega
end Go.Proofs.Ytpplnomomcdemaa
