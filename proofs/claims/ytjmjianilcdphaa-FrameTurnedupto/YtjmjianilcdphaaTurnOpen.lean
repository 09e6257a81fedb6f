/-
  A PIECE AND A PAIR OF NUMBERS THAT CAME IN BY VALUE, opened, by the second form's bound.
-/
import Derived.Test.YtjmjianilcdphaaPieces
import Derived.OpenShut
namespace Go.Proofs.Ytjmjianilcdphaa
open Go.ChangeShapes Go.WideShapes Go.ChangeAt Go.RowKit Leb
theorem okWide_arr {P : Program} {w : World} {r : Reach} {base : Nat} {t : TypeId} {v : Value} {n : Nat} {e : TypeId} (ht : P.underlying t = some (.array n e)) (h : Value.okWide P w r base t v) : ∃ cs, v = .agg cs ∧ cs.size = P.cellsOf t := by
  simp only [Value.okWide, ht] at h
  obtain ⟨cs, h1, h2, _⟩ := h
  exact ⟨cs, h1, h2⟩
/-- What came in as a piece. -/
theorem open_piece {H : Type} {enc : TypeId × Value → H} {W : World} {base : Nat} {v : Value} {d : DataW H} {p : List MemPlace}
    (hv : Value.okWide Try.prog W .any base 52 v) (h : DataW.Trod enc Try.prog W 0 (fun _ => true) true 52 v d p) (hb : Rows.uptoBulk d ≤ 1048576) :
    ∃ (k : UInt8) (bs : List UInt8) (a : Option Addr) (c : Nat), v = .agg #[.int .u8 (k.toNat : Int), .slice a bs.length c] ∧ bs.length + 3 ≤ Rows.uptoBulk d ∧ BytesAt W a bs := by
  obtain ⟨cs, rfl, hsz⟩ := okWide_struct Try.underlying52 hv
  rw [show Try.prog.cellsOf 52 = 2 by kernel_rfl] at hsz
  obtain ⟨l⟩ := cs
  match l, hsz with
  | [c0, c1], _ =>
  obtain ⟨fuel, hf⟩ := h
  obtain ⟨y0, y1, m, hx, _, hy0, hy1⟩ := trod_struct2 Try.underlying52 hf
  obtain ⟨n0, e0, rfl, w0⟩ := DataW.trod_int Try.underlying5 hy0
  simp only [Prod.mk.injEq] at hx
  have hd := hx.1
  have q0 : c0 = .int .u8 n0 := by simpa [Value.cells, show Try.prog.cellsOf 5 = 1 by kernel_rfl] using e0
  have q1 : DataW.trod enc Try.prog W 0 (fun _ => true) true m 22 [c1] = some y1 := by simpa [Value.cells, show Try.prog.cellsOf 22 = 1 by kernel_rfl] using hy1
  obtain ⟨b, rfl⟩ := byte_of w0
  have hbulk : Rows.uptoBulk y1.1 + 2 ≤ Rows.uptoBulk d := by rw [hd]; simp only [Rows.uptoBulk, Rows.uptoBulkAll]; omega
  obtain ⟨bs, hbs, a, c, hv', hat⟩ := open_cell q1 (by omega)
  exact ⟨b, bs, a, c, by rw [q0, hv'], by omega, hat⟩
/-- What came in as two numbers. -/
theorem open_two {H : Type} {enc : TypeId × Value → H} {W : World} {base : Nat} {v : Value} {d : DataW H} {p : List MemPlace}
    (hv : Value.okWide Try.prog W .any base 55 v) (h : DataW.Trod enc Try.prog W 0 (fun _ => true) true 55 v d p) :
    ∃ (x y : Nat), v = .agg #[.int .u16 (x : Int), .int .u16 (y : Int)] ∧ x ≤ 65535 ∧ y ≤ 65535 ∧ 3 ≤ Rows.uptoBulk d := by
  obtain ⟨cs, rfl, hsz⟩ := okWide_arr Try.underlying55 hv
  rw [show Try.prog.cellsOf 55 = 2 by kernel_rfl] at hsz
  obtain ⟨l⟩ := cs
  match l, hsz with
  | [c0, c1], _ =>
  obtain ⟨fuel, hf⟩ := h
  obtain ⟨xs, m, _, hx, _, hl, hel⟩ := DataW.trod_array Try.underlying55 hf
  match xs, hl with
  | [y0, y1], _ =>
  have hy0 := hel 0 (by omega)
  have hy1 := hel 1 (by omega)
  rw [show ([y0, y1] : List _)[0]? = some y0 from rfl] at hy0
  rw [show ([y0, y1] : List _)[1]? = some y1 from rfl] at hy1
  obtain ⟨n0, e0, rfl, w0⟩ := DataW.trod_int Try.underlying48 hy0
  obtain ⟨n1, e1, rfl, w1⟩ := DataW.trod_int Try.underlying48 hy1
  simp only [Prod.mk.injEq] at hx
  have q0 : c0 = .int .u16 n0 := by simpa [Value.cells, show Try.prog.cellsOf 48 = 1 by kernel_rfl] using e0
  have q1 : c1 = .int .u16 n1 := by simpa [Value.cells, show Try.prog.cellsOf 48 = 1 by kernel_rfl] using e1
  have b0 := bounds_u16 w0
  have b1 := bounds_u16 w1
  refine ⟨n0.toNat, n1.toNat, ?_, by omega, by omega, by rw [hx.1]; simp [Rows.uptoBulk, Rows.uptoBulkAll]⟩
  rw [q0, q1, Int.toNat_of_nonneg (by omega), Int.toNat_of_nonneg (by omega)]
end Go.Proofs.Ytjmjianilcdphaa
