/-
  THE LINK: the program's stems and the reference's cells, as they came.
-/
import Derived.Test.YtiglenomigipmaaSM
namespace Go.Proofs.Ytiglenomigipmaa
open Go.RowKit Go.Shelf
/-- The same cells, in the order in which they came. -/
structure Lnk (st : List Stm) (l : List RC) : Prop where
  ne : st ≠ []
  ids : st.tail.map (·.id) = l.map (·.id)
  chs : st.tail.map (·.ch) = l.map (·.ch)
  gon : st.tail.map (·.gone) = l.map (·.gone)
theorem find_map {α β : Type} (f : α → β) (p : β → Bool) : ∀ l : List α, l.findIdx? (fun a => p (f a)) = (l.map f).findIdx? p
  | [] => rfl
  | a :: l => by simp [List.findIdx?_cons, find_map f p l]
theorem Lnk.plc {st : List Stm} {l : List RC} (h : Lnk st l) (x : Idn) : plc st x = (rplc l x).map (· + 1) := by
  unfold Go.Proofs.Ytiglenomigipmaa.plc rplc
  have e2 := find_map (fun c : RC => c.id) (fun i => decide (i = x)) l
  have e3 : (st.map Stm.id).tail = l.map (·.id) := by rw [← List.map_tail]; exact h.ids
  rw [e3]
  exact congrArg (Option.map (· + 1)) e2.symm
theorem Lnk.insE {st : List Stm} {l : List RC} (h : Lnk st l) (af id : Idn) : insE st af id = rInsE l af id := by
  unfold Go.Proofs.Ytiglenomigipmaa.insE rInsE
  rw [h.plc id, h.plc af]
  simp
theorem Lnk.remE {st : List Stm} {l : List RC} (h : Lnk st l) (x : Idn) : (remE st x : Int) = rRemE l x := by
  unfold Go.Proofs.Ytiglenomigipmaa.remE rRemE
  rw [h.plc x]
  cases rplc l x <;> simp
end Go.Proofs.Ytiglenomigipmaa
