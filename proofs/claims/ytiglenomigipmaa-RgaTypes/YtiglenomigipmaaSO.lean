/-
  The link is kept.
-/
import Derived.Test.YtiglenomigipmaaSN
namespace Go.Proofs.Ytiglenomigipmaa
open Go.RowKit Go.Shelf
theorem map_set_same {α β : Type} (f : α → β) {l : List α} {i : Nat} {a b : α} (h : l[i]? = some a) (hf : f b = f a) : (l.set i b).map f = l.map f := by
  apply List.ext_getElem?
  intro j
  rw [List.getElem?_map, List.getElem?_map, List.getElem?_set]
  by_cases e : i = j
  · subst e
    obtain ⟨hi, rfl⟩ := List.getElem?_eq_some_iff.1 h
    simp [hi, hf]
  · simp [e]
theorem wf_nil_lnk : Lnk [root] [] := ⟨by simp, rfl, rfl, rfl⟩
theorem Lnk.mapset {st : List Stm} {q : Nat} {s s' : Stm} (hq : st[q]? = some s) {β : Type} (f : Stm → β) (hf : f s' = f s) : (st.set q s').tail.map f = st.tail.map f := by
  rw [List.map_tail, map_set_same f hq hf, ← List.map_tail]
theorem Lnk.put {st : List Stm} {l : List RC} (h : Lnk st l) {q : Nat} {s : Stm} (hq : st[q]? = some s) (af id : Idn) (c : UInt8) : Lnk (insS st q s id c) (l ++ [⟨id, af, c, false⟩]) := by
  have hq' : (st ++ [⟨id, c, false, []⟩])[q]? = some s := by rw [List.getElem?_append_left (List.getElem?_eq_some_iff.1 hq).1]; exact hq
  have ht : (st ++ [(⟨id, c, false, []⟩ : Stm)]).tail = st.tail ++ [⟨id, c, false, []⟩] := List.tail_append_of_ne_nil h.ne
  unfold insS
  refine ⟨fun e => ?_, ?_, ?_, ?_⟩
  · have := congrArg List.length e; simp at this
  · rw [Lnk.mapset (s' := { s with below := sIns (fun b => ltI id (idAt st b)) st.length s.below }) hq' (fun x : Stm => x.id) rfl, ht, List.map_append, List.map_append, h.ids]; rfl
  · rw [Lnk.mapset (s' := { s with below := sIns (fun b => ltI id (idAt st b)) st.length s.below }) hq' (fun x : Stm => x.ch) rfl, ht, List.map_append, List.map_append, h.chs]; rfl
  · rw [Lnk.mapset (s' := { s with below := sIns (fun b => ltI id (idAt st b)) st.length s.below }) hq' (fun x : Stm => x.gone) rfl, ht, List.map_append, List.map_append, h.gon]; rfl
theorem Lnk.ins {st : List Stm} {l : List RC} (h : Lnk st l) (hw : Wf st) (af id : Idn) (c : UInt8) : Lnk (insF st af id c) (rIns l af id c) := by
  unfold insF rIns
  rw [h.insE]
  split
  · obtain ⟨s, hs⟩ := hw.place af
    rw [stAt_of hs]
    exact h.put hs af id c
  · exact h
theorem Lnk.rem {st : List Stm} {l : List RC} (h : Lnk st l) (x : Idn) : Lnk (remF st x) (rRem l x) := by
  unfold remF rRem
  rw [h.plc x]
  cases hp : rplc l x with
  | none => exact h
  | some i =>
    obtain ⟨c, hc, hcx⟩ := rplc_get hp
    obtain ⟨s, hs, _⟩ := (plc_at (show Go.Proofs.Ytiglenomigipmaa.plc st x = some (i + 1) by rw [h.plc x, hp]; rfl)).2
    show Lnk (st.set (i + 1) { stAt st (i + 1) with gone := true }) (match l[i]? with | some c => l.set i { c with gone := true } | none => l)
    rw [hc, stAt_of hs]
    have ht : (st.set (i + 1) { s with gone := true }).tail = st.tail.set i { s with gone := true } := by
      cases st with
      | nil => simp at hs
      | cons a t => simp
    refine ⟨fun e => h.ne (by simpa using congrArg List.length e), ?_, ?_, ?_⟩
    · rw [Lnk.mapset (s' := { s with gone := true }) hs (fun x : Stm => x.id) rfl, map_set_same (b := { c with gone := true }) (fun c : RC => c.id) hc rfl]; exact h.ids
    · rw [Lnk.mapset (s' := { s with gone := true }) hs (fun x : Stm => x.ch) rfl, map_set_same (b := { c with gone := true }) (fun c : RC => c.ch) hc rfl]; exact h.chs
    · rw [ht, List.map_set, List.map_set, h.gon]
end Go.Proofs.Ytiglenomigipmaa
