/-
  The reference's Insert whole; few (11).
-/
import Derived.Test.YtiglenomigipmaaSF
namespace Go.Proofs.Ytiglenomigipmaa
open Go.RowKit Go.Shelf
attribute [local go_sem] Oper.semAt_some
/-- What Insert leaves, in the reference. -/
def rIns (l : List RC) (af id : Idn) (ch : UInt8) : List RC := if rInsE l af id = 0 then l ++ [⟨id, af, ch, false⟩] else l
theorem rInsert_any {w : World} {base : Nat} {v : Value} {l : List RC} (h : RowR w base v l) {af id : Idn} (haf : af.Ok) (hid : id.Ok) (ch : UInt8) (hl : l.length ≤ 100000) (hb : base ≤ w.heap.size) :
    Calls Try.prog 32 #[.agg #[v], idv af, idv id, .int .u8 (ch.toNat : Int)] w fun e w' => ∃ v', e = .returned (.tuple #[.agg #[v'], .int .i64 (rInsE l af id : Int)]) ∧ RowR w' base v' (rIns l af id ch) ∧ After w w' := by
  by_cases h0 : rInsE l af id = 0
  · have e1 : rIns l af id ch = l ++ [⟨id, af, ch, false⟩] := if_pos h0
    rw [h0, e1]
    unfold rInsE at h0
    have a1 : ¬ (id.c < 1 ∨ id.c ≤ af.c) := fun hh => by rw [if_pos hh] at h0; cases h0
    rw [if_neg a1] at h0
    have a2 : ¬ (rplc l id).isSome = true := fun hh => by rw [if_pos hh] at h0; cases h0
    rw [if_neg a2] at h0
    have a3 : ¬ (af ≠ zId ∧ (rplc l af).isSome = false) := fun hh => by rw [if_pos hh] at h0; cases h0
    have b3 : rplc l id = none := by simpa using a2
    by_cases hz : af = zId
    · exact rInsert_okA h haf hid ch hl hb (fun hh => a1 (.inl hh)) (fun hh => a1 (.inr hh)) b3 hz
    · cases hk : rplc l af with
      | none => exact absurd ⟨hz, by rw [hk]; rfl⟩ a3
      | some k => exact rInsert_okB h haf hid ch hl hb (fun hh => a1 (.inl hh)) (fun hh => a1 (.inr hh)) b3 hz hk
  · have e1 : rIns l af id ch = l := if_neg h0
    rw [e1]
    exact Calls.mono (rInsert_bad h haf hid ch hl rfl h0) (fun e w' ⟨he, ha⟩ => ⟨v, he, h.after ha, ha⟩)
set_option maxRecDepth 100000 in
theorem few_any {w : World} (va : Option Addr) (n cap : Nat) : Calls Try.prog 11 #[.slice va n cap] w fun e w' => e = .returned (.bool (decide (n ≤ 120))) ∧ w' = w := by
  by_cases h : n ≤ 120
  · have hi : (n : Int) ≤ 120 := by omega
    have HD : Hid (decide (n ≤ 120) = true) := decide_eq_true h
    clear h
    go_enter Try.func11, Try.ntmps11
    go_wp2_with fail
    go_ret
    exact ⟨by rw [HD.out]; simp, rfl⟩
  · have hi : ¬ (n : Int) ≤ 120 := by omega
    have HD : Hid (decide (n ≤ 120) = false) := decide_eq_false h
    clear h
    go_enter Try.func11, Try.ntmps11
    go_wp2_with fail
    go_ret
    exact ⟨by rw [HD.out]; simp, rfl⟩
end Go.Proofs.Ytiglenomigipmaa
