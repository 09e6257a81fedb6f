/-
  Insert (22), where it refuses.
-/
import Derived.Test.YtiglenomigipmaaRK
namespace Go.Proofs.Ytiglenomigipmaa
open Go.RowKit Go.Maps Go.WideMaps Go.WideAt Mp
theorem Insert_nil (af id : Idn) (c : UInt8) (w : World) : Calls Try.prog 22 #[.pointer none, idv af, idv id, .int .u8 (c.toNat : Int)] w fun e w' => e = .returned (.int .i64 1) ∧ After w w' := by
  have HA : Hid (After w ((w.alloc (.cells (idc af).toArray 37)).alloc (.cells (idc id).toArray 37))) := after_alloc (after_alloc (After.refl w) _) _
  unfold idv
  go_enter Try.func22, Try.ntmps22
  go_wp2_with fail
  go_ret
  exact ⟨rfl, HA.out⟩
set_option maxRecDepth 100000 in
set_option maxHeartbeats 1600000 in
theorem Insert_bad {w : World} {base g : Nat} {st : List Stm} {D : RwD} (h : RowAt w base g st D) {af id : Idn} (ha : af.Ok) (hi : id.Ok) (c : UInt8) {n : Nat} (he : insE st af id = n) (hn : n ≠ 0) :
    Calls Try.prog 22 #[.pointer (some ⟨g, 0, none⟩), idv af, idv id, .int .u8 (c.toNat : Int)] w fun e w' => e = .returned (pv n) ∧ After w w' := by
  obtain ⟨W0, hW⟩ : ∃ W0, (w.alloc (.cells (idc af).toArray 37)).alloc (.cells (idc id).toArray 37) = W0 := ⟨_, rfl⟩
  have RA : Hid (RowIs W0 w.heap.size 37 (idc af) ∧ RowIs W0 (w.heap.size + 1) 37 (idc id) ∧ After w W0) := two_boxes af id 37 w W0 hW
  have ca : W0.cell? ⟨w.heap.size, 0, none⟩ = some (.int .i64 af.c) := RA.out.1.cell rfl
  have cb : W0.cell? ⟨w.heap.size + 1, 0, none⟩ = some (.int .i64 id.c) := RA.out.2.1.cell rfl
  have HR : Hid (RowAt W0 base g st D) := h.after RA.out.2.2
  have HOK : Hid (af.Ok ∧ id.Ok) := ⟨ha, hi⟩
  clear h ha hi
  unfold insE at he
  unfold idv
  by_cases h1 : id.c < 1
  · rw [if_pos (.inl h1)] at he
    subst he
    go_enter Try.func22, Try.ntmps22
    go_wp2_with (rw [hW])
    go_ret
    exact ⟨rfl, RA.out.2.2⟩
  by_cases h2 : id.c ≤ af.c
  · rw [if_pos (.inr h2)] at he
    subst he
    go_enter Try.func22, Try.ntmps22
    go_wp2_with (rw [hW])
    go_ret
    exact ⟨rfl, RA.out.2.2⟩
  rw [if_neg (by rintro (h | h); exact h1 h; exact h2 h)] at he
  by_cases h3 : (plc st id).isSome = true
  · rw [if_pos h3] at he
    subst he
    have HC1 : Hid (Calls Try.prog 41 #[.pointer (some ⟨g, 0, none⟩), .agg (idc id).toArray] W0 fun e w' => e = .returned (.bool true) ∧ After W0 w') := has_any HR.out HOK.out.2 h3
    clear h3
    go_enter Try.func22, Try.ntmps22
    go_wp2_with (first
      | (rw [hW])
      | (refine wpList_load_row rfl 37 (.tmp 6) rfl (w.heap.size + 1) rfl 37 (idc id).toArray (0, 0) _ RA.out.2.1 Try.underlying37 rfl (size37 HOK.out.2) ?_)
      | (go_at_call 41; refine Calls.mono HC1.out ?_; rintro e w1 ⟨rfl, hw1⟩; have H1 := show Hid (After W0 w1) from hw1; clear hw1))
    go_ret
    exact ⟨rfl, RA.out.2.2.trans H1.out⟩
  rw [if_neg h3] at he
  by_cases h4 : af ≠ zId ∧ (plc st af).isSome = false
  · rw [if_pos h4] at he
    subst he
    have HC1 : Hid (Calls Try.prog 41 #[.pointer (some ⟨g, 0, none⟩), .agg (idc id).toArray] W0 fun e w' => e = .returned (.bool false) ∧ After W0 w') := has_any HR.out HOK.out.2 (by simpa using h3)
    have HC2 : Hid (∀ w1, After W0 w1 → Calls Try.prog 41 #[.pointer (some ⟨g, 0, none⟩), .agg (idc af).toArray] w1 fun e w' => e = .returned (.bool false) ∧ After w1 w') := fun w1 hw => has_any (HR.out.after hw) HOK.out.1 h4.2
    have HNE : Hid ((!decide (af = zId)) = true) := by unfold Hid; simp [h4.1]
    clear h3 h4
    go_enter Try.func22, Try.ntmps22
    go_wp2_with (first
      | (rw [hW])
      | (refine wpList_load_row rfl 37 (.tmp 6) rfl (w.heap.size + 1) rfl 37 (idc id).toArray (0, 0) _ RA.out.2.1 Try.underlying37 rfl (size37 HOK.out.2) ?_)
      | (go_at_call 41; refine Calls.mono HC1.out ?_; clear HC1; rintro e w1 ⟨rfl, hw1⟩; have H1 := show Hid (After W0 w1) from hw1; clear hw1)
      | (refine wpList_load_row rfl 37 (.tmp 5) rfl w.heap.size rfl 37 (idc af).toArray (0, 0) _ (RA.out.1.below H1.out RA.out.1.lt) Try.underlying37 rfl (size37 HOK.out.1) ?_)
      | (refine wpList_of_run rfl (x_zb37 rfl) ?_)
      | (refine wpList_of_run rfl (x_neId (x := .tmp 29) (y := .tmp 30) HOK.out.1 zId_ok rfl rfl rfl) ?_; rw [HNE.out])
      | (refine wpListG_of_run (by kernel_rfl) (x_ldid (x := .tmp 5) (g := w.heap.size) HOK.out.1 rfl rfl (RA.out.1.below H1.out RA.out.1.lt)) ?_)
      | (go_at_call 41; refine Calls.mono (HC2.out w1 H1.out) ?_; rintro e w2 ⟨rfl, hw1⟩; have H2 := show Hid (After w1 w2) from hw1; clear hw1))
    go_ret
    exact ⟨rfl, (RA.out.2.2.trans H1.out).trans H2.out⟩
  · rw [if_neg h4] at he
    exact absurd he.symm hn
end Go.Proofs.Ytiglenomigipmaa
