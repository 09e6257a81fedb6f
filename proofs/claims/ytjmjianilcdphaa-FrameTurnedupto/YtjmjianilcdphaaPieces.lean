/-
  PIECES THAT CAME IN: in memory; opened, by the second form's bound.
-/
import Derived.Test.YtjmjianilcdphaaBulk
import Derived.Test.YtjmjianilcdphaaSame
import Derived.Deep.SlicePairs
namespace Go.Proofs.Ytjmjianilcdphaa
open Go.ChangeShapes Go.WideShapes Go.ChangeAt Go.RowKit Leb
/-- Pieces in memory. -/
def PiecesIn (w : World) (ao : Option Addr) (ps : List (UInt8 × List UInt8)) : Prop := ps ≠ [] → ∃ b o, ao = some ⟨b, o, none⟩ ∧ ∀ j p, ps[j]? = some p → ∃ a c, w.cell? ⟨b, o + j * 2, none⟩ = some (.int .u8 (p.1.toNat : Int)) ∧ w.cell? ⟨b, o + j * 2 + 1, none⟩ = some (.slice a p.2.length c) ∧ BytesAt w a p.2
theorem PiecesIn.after {w W : World} {ao : Option Addr} {ps : List (UInt8 × List UInt8)} (h : PiecesIn w ao ps) (hA : After w W) : PiecesIn W ao ps := fun hne => by
  obtain ⟨b, o, rfl, hc⟩ := h hne
  refine ⟨b, o, rfl, fun j p hj => ?_⟩
  obtain ⟨a, c, h1, h2, h3⟩ := hc j p hj
  exact ⟨a, c, (Below.cell hA (p := ⟨b, o + j * 2, none⟩) (block_lt_of_cell h1)).trans h1, (Below.cell hA (p := ⟨b, o + j * 2 + 1, none⟩) (block_lt_of_cell h2)).trans h2, h3.after hA⟩
def sizes (ps : List (UInt8 × List UInt8)) : Nat := (ps.map fun p => p.2.length + 4).sum
theorem sizes_cons (p : UInt8 × List UInt8) (ps : List (UInt8 × List UInt8)) : sizes (p :: ps) = p.2.length + 4 + sizes ps := by simp [sizes]
/-- What lies in a cell as a slice of bytes. -/
theorem open_cell {H : Type} {enc : TypeId × Value → H} {W : World} {n : Nat} {v : Value} {d : DataW H} {p : List MemPlace}
    (hf : DataW.trod enc Try.prog W 0 (fun _ => true) true n 22 [v] = some (d, p)) (hb : Rows.uptoBulk d ≤ 1048576) :
    ∃ bs : List UInt8, bs.length + 1 ≤ Rows.uptoBulk d ∧ ∃ a c, v = .slice a bs.length c ∧ BytesAt W a bs := by
  have hf' := hf
  rcases open_ints Try.underlying22 Try.underlying5 cells5 hf with ⟨hcs, hd⟩ | ⟨x, l, c, zs, hcs, _, hl, hm, hz, hx, _, _⟩
  · simp only [List.cons.injEq, and_true] at hcs
    subst hcs
    exact ⟨[], by simpa using bulk_one d, none, 0, rfl, fun h => absurd rfl h⟩
  · simp only [List.cons.injEq, and_true] at hcs
    subst hcs
    simp only [Prod.mk.injEq] at hx
    have hd := hx.1
    obtain ⟨bs, hlen, _, _, hat⟩ := open_bytes_upto (a := some x) (len := l) (cap := c) ⟨n, hf'⟩ hb
    refine ⟨bs, ?_, some x, c, by rw [hlen], hat⟩
    have := bulk_sum hd
    simp only [if_true] at hz
    simp only [lits, List.length_map, List.length_take, List.length_drop] at this
    omega
theorem bulk_all {H : Type} (D0 D1 : Nat → DataW H) (q : Nat → UInt8 × List UInt8) : ∀ l : List Nat, (∀ i ∈ l, (q i).2.length + 1 ≤ Rows.uptoBulk (D1 i)) → sizes (l.map q) ≤ Rows.uptoBulkAll (l.map fun i => DataW.agg [D0 i, D1 i]) + l.length
  | [], _ => by simp [sizes]
  | i :: l, h => by
    have h1 := h i (by simp)
    have h2 := bulk_all D0 D1 q l (fun j hj => h j (by simp [hj]))
    have h3 := bulk_one (D0 i)
    rw [List.map_cons, sizes_cons]
    simp only [List.map_cons, Rows.uptoBulkAll, Rows.uptoBulk, List.length_cons]
    omega
/-- What came in as a slice of pieces. -/
theorem open_pieces {H : Type} {enc : TypeId × Value → H} {W : World} {base : Nat} {a : Option Addr} {len cap : Nat} {d : DataW H} {p : List MemPlace}
    (hv : Value.okWide Try.prog W .any base 47 (.slice a len cap))
    (h : DataW.Trod enc Try.prog W 0 (fun _ => true) true 47 (.slice a len cap) d p) (hb : Rows.uptoBulk d ≤ 1048576) :
    ∃ ps : List (UInt8 × List UInt8), ps.length = len ∧ len ≤ 1048576 ∧ sizes ps ≤ Rows.uptoBulk d + len ∧ (∀ p ∈ ps, p.2.length + 4 ≤ 1048576) ∧ PiecesIn W a ps := by
  obtain ⟨fuel, hf⟩ := h
  rcases Deep.open_slice_pairs Try.underlying47 Try.underlying52 (by kernel_rfl) rfl rfl (by kernel_rfl) (by kernel_rfl) hf with ⟨hcs, _⟩ | ⟨x, l, c, m, n, V0, V1, D0, D1, P0, P1, hcs, _, hl, hm, hmm, hx, hall⟩
  · simp [Value.cells] at hcs
    obtain ⟨rfl, rfl, rfl⟩ := hcs
    exact ⟨[], rfl, by omega, by simp [sizes], fun p hp => by simp at hp, fun h => absurd rfl h⟩
  · simp [Value.cells] at hcs
    obtain ⟨rfl, rfl, rfl⟩ := hcs
    simp only [if_true] at hmm
    subst hmm
    have hs : x.spot = none := by
      simp only [Value.okWide, Try.underlying47, Cell.okWide, Cell.ok] at hv
      obtain ⟨_, _, _, hs, _⟩ := hv
      exact hs
    simp only [Prod.mk.injEq] at hx
    have hd := hx.1
    have hall2 : Rows.uptoBulkAll ((List.range len).map fun i => DataW.agg [D0 i, D1 i]) + 1 ≤ Rows.uptoBulk d := by rw [hd]; simp only [Rows.uptoBulk]; omega
    have hlen : len + 1 ≤ Rows.uptoBulk d := by have := bulk_len ((List.range len).map fun i => DataW.agg [D0 i, D1 i]); simp only [List.length_map, List.length_range] at this; omega
    have hpart : ∀ i, i < len → Rows.uptoBulk (D1 i) + 2 ≤ Rows.uptoBulkAll ((List.range len).map fun i => DataW.agg [D0 i, D1 i]) := fun i hi => by
      have : ∀ l : List Nat, i ∈ l → Rows.uptoBulk (D1 i) + 2 ≤ Rows.uptoBulkAll (l.map fun i => DataW.agg [D0 i, D1 i]) := fun l => by
        induction l with
        | nil => intro h; cases h
        | cons y r ih =>
          intro h
          have h3 := bulk_one (D0 i)
          simp only [List.map_cons, Rows.uptoBulkAll, Rows.uptoBulk]
          cases List.mem_cons.1 h with
          | inl e => subst e; omega
          | inr e => have := ih e; omega
      exact this _ (List.mem_range.2 hi)
    have each : ∀ i, i < len → ∃ q : UInt8 × List UInt8, q.2.length + 1 ≤ Rows.uptoBulk (D1 i) ∧ W.cell? (x.add (i * 2)) = some (.int .u8 (q.1.toNat : Int)) ∧ ∃ a' c', W.cell? (x.add (i * 2 + 1)) = some (.slice a' q.2.length c') ∧ BytesAt W a' q.2 := by
      intro i hi
      obtain ⟨h0, h1, h2, h3⟩ := hall i (by omega)
      obtain ⟨n0, e0, _, w0⟩ := DataW.trod_int Try.underlying5 h2
      simp only [List.cons.injEq, and_true] at e0
      obtain ⟨b, rfl⟩ := byte_of w0
      have hp := hpart i hi
      obtain ⟨bs, hbs, a', c', hv', hat⟩ := open_cell h3 (by omega)
      exact ⟨(b, bs), hbs, by rw [h0, e0], a', c', by rw [h1, hv'], hat⟩
    obtain ⟨q, hq⟩ := Deep.choose_lt each
    refine ⟨(List.range len).map q, by simp, by omega, ?_, ?_, fun _ => ?_⟩
    · have := bulk_all D0 D1 q (List.range len) (fun i hi => (hq i (List.mem_range.1 hi)).1)
      simp only [List.length_range] at this
      omega
    · intro p hp
      obtain ⟨i, hi, rfl⟩ := List.mem_map.1 hp
      have h1 := (hq i (List.mem_range.1 hi)).1
      have h2 := hpart i (List.mem_range.1 hi)
      omega
    · obtain ⟨b, off, spot⟩ := x
      obtain rfl : spot = none := hs
      refine ⟨b, off, rfl, fun j p hj => ?_⟩
      have hjl : j < len := by have := (List.getElem?_eq_some_iff.1 hj).1; simpa using this
      have hpj : q j = p := by simpa [hjl] using hj
      subst hpj
      obtain ⟨_, c0, a', c', c1, hat⟩ := hq j hjl
      rw [Addr.add_mid] at c0 c1
      exact ⟨a', c', c0, by rw [Nat.add_assoc]; exact c1, hat⟩
end Go.Proofs.Ytjmjianilcdphaa
