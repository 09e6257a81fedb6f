/-
  A ROW OF INTS OF THE CALL's OWN; what flags lay, step by step.
-/
import Derived.Test.YtpplnomomcdemaaOnlyMath
import Derived.Test.YtpplnomomcdemaaBackMath
import Derived.Laws.OwnMore
namespace Go.Proofs.Ytpplnomomcdemaa
open Go.RowKit Leb
/-- A row of the call's own that holds counts. -/
def OwnN (w : World) (base : Nat) (v : Value) (l : List Int) : Prop := w.ownsRow base 3 1 v l.length (ci l)
theorem OwnN.nil (w : World) (base : Nat) : OwnN w base (.slice none 0 0) [] := World.ownsRow_nil w base 3 1
theorem OwnN.keep {w w' : World} {B : Nat} {v : Value} {l : List Int} (h : OwnN w B v l) (hk : ∀ k, v.ownBlock = some k → w'.heap[k]? = w.heap[k]?) : OwnN w' B v l := by
  refine ⟨h.1, ?_⟩
  rcases h.2 with hn | ⟨g, cap, cur, rfl, h1, h2, rest⟩
  · exact .inl hn
  · exact .inr ⟨g, cap, cur, rfl, h1, by rw [hk g rfl]; exact h2, rest⟩
theorem OwnN.at {w : World} {base : Nat} {v : Value} {l : List Int} (h : OwnN w base v l) : ∃ ao cap, v = .slice ao l.length cap ∧ IntsAt w ao l ∧ l.length ≤ cap ∧ (∀ a, ao = some a → base ≤ a.block ∧ a.block < w.heap.size) := by
  have hlt := World.ownsRow.lt h
  have hc := fun g hg => World.ownsRow.cells (g := g) h hg
  rcases h.2 with ⟨rfl, h0⟩ | ⟨g, cap, cur, rfl, hb, hg, hnc, _, hcs, ht⟩
  · obtain rfl : l = [] := List.eq_nil_of_length_eq_zero h0
    exact ⟨none, 0, rfl, fun h => absurd rfl h, Nat.le_refl _, fun _ h => by cases h⟩
  · refine ⟨some ⟨g, 0, none⟩, cap, rfl, fun _ => ⟨g, 0, rfl, fun j hj => ?_⟩, hnc, fun a ha => ?_⟩
    · have := hc g rfl j _ (ci_get l j hj)
      rwa [Addr.add_mid] at this
    · cases ha; exact hlt g rfl
theorem OwnN.form {w : World} {base : Nat} {v : Value} {l : List Int} (h : OwnN w base v l) (hn : l ≠ []) : ∃ g cap, v = .slice (some ⟨g, 0, none⟩) l.length cap ∧ base ≤ g ∧ l.length ≤ cap := by
  rcases h.2 with ⟨rfl, h0⟩ | ⟨g, cap, cur, rfl, hb, hg, hnc, _, hcs, ht⟩
  · exact absurd (List.eq_nil_of_length_eq_zero h0) hn
  · exact ⟨g, cap, rfl, hb, hnc⟩
theorem info3 : (Try.prog.info? 3).map (fun i => (i.zero, i.size, i.bytes)) = some (some (.int .i64 0), 1, 8) := by kernel_rfl
/-- The last count, one more. -/
theorem OwnN.bump {w : World} {base g cap : Nat} {pre : List Int} {y z : Int} {m : Nat} (hm : pre.length = m) (h : OwnN w base (.slice (some ⟨g, 0, none⟩) (m + 1) cap) (pre ++ [y])) :
    w.cell? ⟨g, m, none⟩ = some (.int .i64 y) ∧ w.frozen? ⟨g, m, none⟩ = false ∧ OwnN (w.setCell ⟨g, m, none⟩ (.int .i64 z)) base (.slice (some ⟨g, 0, none⟩) (m + 1) cap) (pre ++ [z]) ∧ w.grownBy (w.setCell ⟨g, m, none⟩ (.int .i64 z)) (some g) := by
  unfold OwnN at h
  have hl : (pre ++ [y]).length = m + 1 := by simp [hm]
  have hl' : (pre ++ [z]).length = m + 1 := by simp [hm]
  rw [hl] at h
  have hci : (ci (pre ++ [y]))[m]? = some (.int .i64 y) := by rw [ci_get _ m (by rw [hl]; omega)]; simp [← hm]
  obtain ⟨h1, h2⟩ := World.ownsRow.stored h m (.int .i64 z)
  refine ⟨by rw [World.ownsRow.cellAt h m (by omega), hci], World.ownsRow.frozenAt h m, ?_, h2⟩
  unfold OwnN
  rw [hl']
  have : (ci (pre ++ [y])).set m (.int .i64 z) = ci (pre ++ [z]) := by
    rw [ci_append, ci_append, List.set_append_right _ _ (by rw [ci_len]; omega)]
    simp [hm, ci]
  rwa [this] at h1
/-- What stands at the end of a list, as often as it does. -/
theorem end_split {α : Type} [DecidableEq α] (b : α) : ∀ (n : Nat) (m : List α), m.length = n → m.getLast? = some b → ∃ m' V, m = m' ++ List.replicate (V + 1) b ∧ (∀ y, m'.getLast? = some y → y ≠ b)
  | 0, m, hn, hl => by obtain rfl := List.eq_nil_of_length_eq_zero hn; simp at hl
  | n + 1, m, hn, hl => by
    have hne : m ≠ [] := by intro h; subst h; simp at hn
    have hm : m = m.dropLast ++ [b] := by
      rw [List.getLast?_eq_some_getLast hne] at hl
      conv => lhs; rw [← List.dropLast_concat_getLast hne]
      rw [Option.some.inj hl]
    by_cases h : m.dropLast.getLast? = some b
    · obtain ⟨m', V, h1, h2⟩ := end_split b n m.dropLast (by rw [List.length_dropLast, hn]; rfl) h
      refine ⟨m', V + 1, ?_, h2⟩
      rw [hm, h1, List.replicate_succ' (n := V + 1)]
      simp
    · exact ⟨m.dropLast, 0, by simpa using hm, fun y hy he => h (by rw [hy, he])⟩
end Go.Proofs.Ytpplnomomcdemaa
