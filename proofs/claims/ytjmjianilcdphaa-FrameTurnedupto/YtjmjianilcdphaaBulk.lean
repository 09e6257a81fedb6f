/-
  WHAT THE SECOND FORM's BOUND GIVES: slices that came in, opened, with how many they may be.
-/
import Derived.Test.YtjmjianilcdphaaOpen
namespace Go.Proofs.Ytjmjianilcdphaa
open Go.ChangeShapes Go.WideShapes Go.ChangeAt Go.RowKit Leb
theorem bulk_one {H : Type} (d : DataW H) : 1 ≤ Rows.uptoBulk d := by
  cases d with
  | lit l => cases l <;> simp [Rows.uptoBulk]
  | nil => simp [Rows.uptoBulk]
  | ptr d => simp [Rows.uptoBulk]
  | slice elems spare => simp [Rows.uptoBulk]
  | agg parts => simp [Rows.uptoBulk]
  | iface t d => simp [Rows.uptoBulk]
  | map entries => simp [Rows.uptoBulk]
  | held h => simp [Rows.uptoBulk]
theorem bulk_len {H : Type} : ∀ l : List (DataW H), l.length ≤ Rows.uptoBulkAll l
  | [] => by simp
  | x :: r => by have h1 := bulk_one x; have h2 := bulk_len r; simp only [Rows.uptoBulkAll, List.length_cons]; omega
theorem bulk_sum {H : Type} {d : DataW H} {elems spare : List (DataW H)} (he : d = .slice elems spare) : elems.length + spare.length + 1 ≤ Rows.uptoBulk d := by
  have h1 := bulk_len elems; have h2 := bulk_len spare
  rw [he]; simp only [Rows.uptoBulk]; omega
/-- Bytes that came in, by the bound. -/
theorem open_bytes_upto {H : Type} {enc : TypeId × Value → H} {W : World} {a : Option Addr} {len cap : Nat} {d : DataW H} {p : List MemPlace}
    (h : DataW.Trod enc Try.prog W 0 (fun _ => true) true 22 (.slice a len cap) d p) (hb : Rows.uptoBulk d ≤ 1048576) :
    ∃ bs : List UInt8, bs.length = len ∧ len ≤ cap ∧ cap ≤ 1048575 ∧ BytesAt W a bs := by
  have h' := h
  obtain ⟨bs, h1, h2, _, h4⟩ := open_bytes h (fun elems spare he => by
    have := bulk_sum he
    rw [show Try.prog.bytesOf 5 = 1 by kernel_rfl]
    simp only [reachBytes]; omega)
  refine ⟨bs, h1, h2, ?_, h4⟩
  obtain ⟨fuel, hf⟩ := h'
  rcases open_ints Try.underlying22 Try.underlying5 cells5 hf with ⟨hcs, _⟩ | ⟨x, l, c, zs, hcs, _, hl, hm, hz, hx, hcell, hwz⟩
  · simp [Value.cells] at hcs
    omega
  · simp [Value.cells] at hcs
    obtain ⟨rfl, rfl, rfl⟩ := hcs
    simp only [if_true] at hz
    simp only [Prod.mk.injEq] at hx
    have := bulk_sum hx.1
    simp only [lits, List.length_map, List.length_take, List.length_drop] at this
    omega
end Go.Proofs.Ytjmjianilcdphaa
