/-
  ids (29) whole.
-/
import Derived.Test.YtiglenomigipmaaSL
namespace Go.Proofs.Ytiglenomigipmaa
open Go.RowKit Go.Shelf
def pAf (l : List RC) (p : Put) : Idn := if p.wild then wAf p else tAf l p
def pId (l : List RC) (p : Put) : Idn := if p.wild then wId p else tId l p
theorem ids_any {w : World} {base : Nat} {v : Value} {l : List RC} (h : RowR w base v l) {p : Put} (hp : p.Ok) (hl : l.length ≤ 100000) :
    Calls Try.prog 29 #[.agg #[v], .agg (pcell p).toArray] w fun e w' => e = .returned (.tuple #[idv (pAf l p), idv (pId l p)]) ∧ After w w' := by
  unfold pAf pId
  cases hw : p.wild with
  | true => exact ids_wild v hp hw
  | false =>
    show Calls Try.prog 29 _ w fun e w' => e = .returned (.tuple #[idv (tAf l p), idv (tId l p)]) ∧ After w w'
    cases hk : p.af.toNat % (l.length + 1) with
    | zero => exact ids_tameZ h hw hl hk
    | succ k =>
      have hlt : k < l.length := by have := Nat.mod_lt p.af.toNat (show l.length + 1 > 0 by omega); omega
      obtain ⟨c, hc⟩ : ∃ c, l[k]? = some c := ⟨_, List.getElem?_eq_getElem hlt⟩
      by_cases hb : c.id.c > 1099511627776
      · exact ids_tameB h hw hl hk hc hb
      · exact ids_tameN h hw hl hk hc hb
theorem tAf_ok {l : List RC} (h : ∀ c ∈ l, c.Ok) (p : Put) : (tAf l p).Ok := by
  unfold tAf
  split
  · exact zId_ok
  · split
    · rename_i c hc; exact (h c (List.mem_of_getElem? hc)).id
    · exact zId_ok
theorem pAf_ok {l : List RC} (h : ∀ c ∈ l, c.Ok) {p : Put} (hp : p.Ok) : (pAf l p).Ok := by
  unfold pAf
  split
  · exact wAf_ok hp
  · exact tAf_ok h p
theorem pId_ok {l : List RC} (h : ∀ c ∈ l, c.Ok) {p : Put} (hp : p.Ok) : (pId l p).Ok := by
  unfold pId
  split
  · exact wId_ok hp
  · have ha := tAf_ok h p
    have h1' := ha.lo
    have h2' := ha.hi
    have hm : tUp (tAf l p) p ≤ 4 := by unfold tUp; split <;> omega
    have hb : (tAf l p).c > 1099511627776 → tUp (tAf l p) p = 0 := fun hg => by unfold tUp; rw [if_pos hg]
    refine ⟨by show _ ≤ (tAf l p).c + _; omega, ?_, h1_len _⟩
    show (tAf l p).c + _ ≤ _
    by_cases hg : (tAf l p).c > 1099511627776
    · rw [hb hg]; omega
    · omega
end Go.Proofs.Ytiglenomigipmaa
