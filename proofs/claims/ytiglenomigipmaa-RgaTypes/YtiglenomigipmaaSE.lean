/-
  The reference's Insert (32): its refusals.
-/
import Derived.Test.YtiglenomigipmaaSD
namespace Go.Proofs.Ytiglenomigipmaa
open Go.RowKit Go.Shelf
attribute [local go_sem] Oper.semAt_some
def rInsE (l : List RC) (af id : Idn) : Nat := if id.c < 1 ∨ id.c ≤ af.c then 2 else if (rplc l id).isSome then 23 else if af ≠ zId ∧ (rplc l af).isSome = false then 22 else 0
theorem x_zb40 {oi : Oper} {a : Act} {w : World} (hop : oi.op = .build 40 #[]) : (execOp a.eval oi).run Try.prog w = .ok (.value (idv zId)) w := by
  have h := run_build (P := Try.prog) w 40 #[] (idc zId).toArray (by kernel_rfl)
  unfold execOp
  simp only [hop]
  simp [h]
  rfl
theorem x_ld29 {oi : Oper} {a : Act} {w : World} {x : Operand} {g : Nat} {v : Value} (hop : oi.op = .load 29 x) (hx : a.eval x = .pointer (some ⟨g, 0, none⟩)) (hr : RowIs w g 29 [v]) : (execOp a.eval oi).run Try.prog w = .ok (.value (.agg #[v])) w := by
  unfold execOp
  simp only [hop, hx, Instr.loadAt, Instr.sureAddr, Sem.run_bind, Sem.run_pure, Result.andThen_ok, run_loadVar_row w g 29 29 #[v] (0, 0) _ hr Try.underlying29 rfl (size29 v)]
set_option maxRecDepth 100000 in
set_option maxHeartbeats 1600000 in
theorem rInsert_bad {w : World} {base : Nat} {v : Value} {l : List RC} (h : RowR w base v l) {af id : Idn} (haf : af.Ok) (hid : id.Ok) (ch : UInt8) (hl : l.length ≤ 100000) {e0 : Nat} (he : rInsE l af id = e0) (hn0 : e0 ≠ 0) :
    Calls Try.prog 32 #[.agg #[v], idv af, idv id, .int .u8 (ch.toNat : Int)] w fun e w' => e = .returned (.tuple #[.agg #[v], .int .i64 (e0 : Int)]) ∧ After w w' := by
  obtain ⟨va, cap, rfl⟩ := h.sl
  obtain ⟨n, hn⟩ : ∃ n, l.length = n := ⟨_, rfl⟩
  rw [hn] at h ⊢
  obtain ⟨W0, hW0⟩ : ∃ W0, (((w.alloc (.cells #[.slice va n cap] 29)).alloc (.cells (idc af).toArray 40)).alloc (.cells (idc id).toArray 40)).alloc (.cells #[.slice none 0 0] 29) = W0 := ⟨_, rfl⟩
  have HA : Hid (After w W0 ∧ RowIs W0 (w.heap.size + 1) 40 (idc af) ∧ RowIs W0 (w.heap.size + 1 + 1) 40 (idc id)) := by
    rw [← hW0]
    refine ⟨after_alloc (after_alloc (after_alloc (after_alloc (After.refl w) _) _) _) _, ?_, ?_⟩
    · have := RowIs.new (w.alloc (.cells #[.slice va n cap] 29)) 40 (idc af)
      rw [World.size_alloc] at this
      exact (this.alloc _).alloc _
    · have := RowIs.new ((w.alloc (.cells #[.slice va n cap] 29)).alloc (.cells (idc af).toArray 40)) 40 (idc id)
      rw [World.size_alloc, World.size_alloc] at this
      exact this.alloc _
  have HB : Hid (RowIs W0 w.heap.size 29 [.slice va n cap] ∧ RowIs W0 (w.heap.size + 1 + 1 + 1) 29 [.slice none 0 0]) := by
    rw [← hW0]
    refine ⟨(((RowIs.new w 29 [.slice va n cap]).alloc _).alloc _).alloc _, ?_⟩
    have := RowIs.new (((w.alloc (.cells #[.slice va n cap] 29)).alloc (.cells (idc af).toArray 40)).alloc (.cells (idc id).toArray 40)) 29 [.slice none 0 0]
    rwa [World.size_alloc, World.size_alloc, World.size_alloc] at this
  have HB1 : Hid (∀ w1, After W0 w1 → RowIs w1 w.heap.size 29 [.slice va n cap] ∧ RowIs w1 (w.heap.size + 1 + 1 + 1) 29 [.slice none 0 0]) := fun w1 hw => ⟨HB.out.1.below hw HB.out.1.lt, HB.out.2.below hw HB.out.2.lt⟩
  have HOK : Hid (af.Ok ∧ id.Ok) := ⟨haf, hid⟩
  have cid : W0.cell? ⟨w.heap.size + 1 + 1, 0, none⟩ = some (.int .i64 id.c) := HA.out.2.2.cell rfl
  have caf : W0.cell? ⟨w.heap.size + 1, 0, none⟩ = some (.int .i64 af.c) := HA.out.2.1.cell rfl
  have HF : Hid (∀ w1 x, After W0 w1 → x.Ok → Calls Try.prog 30 #[.agg #[.slice va n cap], .agg (idc x).toArray] w1 fun e w' => e = .returned (.int .i64 (fv (rplc l x))) ∧ After w1 w') := fun w1 x hw hx => Find_any (h.after (HA.out.1.trans hw)) hx (by omega)
  clear h haf hid hl
  unfold rInsE at he
  unfold idv
  by_cases h1 : id.c < 1
  · rw [if_pos (.inl h1)] at he
    subst he
    go_enter Try.func32, Try.ntmps32
    go_wp2_with (first
      | (rw [hW0])
      | (refine wpList_of_run rfl ((x_al29 rfl).trans (by rw [hW0])) ?_)
      | (refine wpList_load_row rfl 29 (.tmp 4) rfl w.heap.size rfl 29 #[.slice va n cap] (0, 0) _ (HB.out.1) Try.underlying29 rfl (size29 _) ?_)
      | (refine wpList_store_row rfl 29 (.tmp 8) (.tmp 22) rfl (w.heap.size + 1 + 1 + 1) #[.slice va n cap] rfl rfl 29 _ (HB.out.2) (size29 _) rfl (by simp [Value.oneCell']) ?_))
    have hg : RowIs (W0.setRow (w.heap.size + 1 + 1 + 1) #[.slice va n cap]) (w.heap.size + 1 + 1 + 1) 29 [.slice va n cap] := (HB.out.2.setRow _)
    refine ⟨rfl, _, ret29 Try.results32 _ _ (w.heap.size + 1 + 1 + 1) (.slice va n cap) (.int .i64 2) rfl hg rfl, rfl, ?_⟩
    exact Below.row (HA.out.1) (by omega) _

  by_cases h2 : id.c ≤ af.c
  · rw [if_pos (.inr h2)] at he
    subst he
    go_enter Try.func32, Try.ntmps32
    go_wp2_with (first
      | (rw [hW0])
      | (refine wpList_of_run rfl ((x_al29 rfl).trans (by rw [hW0])) ?_)
      | (refine wpList_load_row rfl 29 (.tmp 4) rfl w.heap.size rfl 29 #[.slice va n cap] (0, 0) _ (HB.out.1) Try.underlying29 rfl (size29 _) ?_)
      | (refine wpList_store_row rfl 29 (.tmp 8) (.tmp 22) rfl (w.heap.size + 1 + 1 + 1) #[.slice va n cap] rfl rfl 29 _ (HB.out.2) (size29 _) rfl (by simp [Value.oneCell']) ?_))
    have hg : RowIs (W0.setRow (w.heap.size + 1 + 1 + 1) #[.slice va n cap]) (w.heap.size + 1 + 1 + 1) 29 [.slice va n cap] := (HB.out.2.setRow _)
    refine ⟨rfl, _, ret29 Try.results32 _ _ (w.heap.size + 1 + 1 + 1) (.slice va n cap) (.int .i64 2) rfl hg rfl, rfl, ?_⟩
    exact Below.row (HA.out.1) (by omega) _

  rw [if_neg (by rintro (h | h); exact h1 h; exact h2 h)] at he
  by_cases h3 : (rplc l id).isSome = true
  · rw [if_pos h3] at he
    subst he
    obtain ⟨i, hi⟩ := Option.isSome_iff_exists.1 h3
    have HC1 : Hid (Calls Try.prog 30 #[.agg #[.slice va n cap], .agg (idc id).toArray] W0 fun e w' => e = .returned (.int .i64 (i : Int)) ∧ After W0 w') := by
      have := HF.out W0 id (After.refl W0) HOK.out.2
      rw [hi] at this; exact this
    have hi0 : (0 : Int) ≤ (i : Int) := by omega
    clear h3 HF
    go_enter Try.func32, Try.ntmps32
    go_wp2_with (first
      | (rw [hW0])
      | (refine wpList_of_run rfl ((x_al29 rfl).trans (by rw [hW0])) ?_)
      | (refine wpList_load_row rfl 29 (.tmp 4) rfl w.heap.size rfl 29 #[.slice va n cap] (0, 0) _ (HB.out.1) Try.underlying29 rfl (size29 _) ?_)
      | (refine wpList_load_row rfl 40 (.tmp 6) rfl (w.heap.size + 1 + 1) rfl 40 (idc id).toArray (0, 0) _ HA.out.2.2 Try.underlying40 rfl (size40 HOK.out.2) ?_)
      | (go_at_call 30; refine Calls.mono HC1.out ?_; clear HC1; rintro e w1 ⟨rfl, hw1⟩; have H1 := show Hid (After W0 w1 ∧ (RowIs w1 w.heap.size 29 [.slice va n cap] ∧ RowIs w1 (w.heap.size + 1 + 1 + 1) 29 [.slice none 0 0])) from ⟨hw1, HB1.out w1 hw1⟩; clear hw1)
      | (refine wpList_load_row rfl 29 (.tmp 4) rfl w.heap.size rfl 29 #[.slice va n cap] (0, 0) _ (H1.out.2.1) Try.underlying29 rfl (size29 _) ?_)
      | (refine wpList_store_row rfl 29 (.tmp 8) (.tmp 28) rfl (w.heap.size + 1 + 1 + 1) #[.slice va n cap] rfl rfl 29 _ (H1.out.2.2) (size29 _) rfl (by simp [Value.oneCell']) ?_))
    have hg : RowIs (w1.setRow (w.heap.size + 1 + 1 + 1) #[.slice va n cap]) (w.heap.size + 1 + 1 + 1) 29 [.slice va n cap] := (H1.out.2.2.setRow _)
    refine ⟨rfl, _, ret29 Try.results32 _ _ (w.heap.size + 1 + 1 + 1) (.slice va n cap) (.int .i64 23) rfl hg rfl, rfl, ?_⟩
    exact Below.row (HA.out.1.trans H1.out.1) (by omega) _

  rw [if_neg h3] at he
  by_cases h4 : af ≠ zId ∧ (rplc l af).isSome = false
  · rw [if_pos h4] at he
    subst he
    have hi : rplc l id = none := by simpa using h3
    have hf : rplc l af = none := by simpa using h4.2
    have HC1 : Hid (Calls Try.prog 30 #[.agg #[.slice va n cap], .agg (idc id).toArray] W0 fun e w' => e = .returned (.int .i64 (-1)) ∧ After W0 w') := by
      have := HF.out W0 id (After.refl W0) HOK.out.2
      rw [hi] at this; exact this
    have HC2 : Hid (∀ w1, After W0 w1 → Calls Try.prog 30 #[.agg #[.slice va n cap], .agg (idc af).toArray] w1 fun e w' => e = .returned (.int .i64 (-1)) ∧ After w1 w') := fun w1 hw => by
      have := HF.out w1 af hw HOK.out.1
      rw [hf] at this; exact this
    have HNE : Hid ((!decide (af = zId)) = true) := by unfold Hid; simp [h4.1]
    clear h3 h4 hi hf HF
    go_enter Try.func32, Try.ntmps32
    go_wp2_with (first
      | (rw [hW0])
      | (refine wpList_of_run rfl ((x_al29 rfl).trans (by rw [hW0])) ?_)
      | (refine wpList_load_row rfl 29 (.tmp 4) rfl w.heap.size rfl 29 #[.slice va n cap] (0, 0) _ (HB.out.1) Try.underlying29 rfl (size29 _) ?_)
      | (refine wpList_load_row rfl 40 (.tmp 6) rfl (w.heap.size + 1 + 1) rfl 40 (idc id).toArray (0, 0) _ HA.out.2.2 Try.underlying40 rfl (size40 HOK.out.2) ?_)
      | (go_at_call 30; refine Calls.mono HC1.out ?_; clear HC1; rintro e w1 ⟨rfl, hw1⟩; have H1 := show Hid (After W0 w1 ∧ (RowIs w1 w.heap.size 29 [.slice va n cap] ∧ RowIs w1 (w.heap.size + 1 + 1 + 1) 29 [.slice none 0 0])) from ⟨hw1, HB1.out w1 hw1⟩; have H1A := show Hid (RowIs w1 (w.heap.size + 1) 40 (idc af)) from HA.out.2.1.below hw1 HA.out.2.1.lt; clear hw1)
      | (refine wpList_load_row rfl 40 (.tmp 5) rfl (w.heap.size + 1) rfl 40 (idc af).toArray (0, 0) _ H1A.out Try.underlying40 rfl (size40 HOK.out.1) ?_)
      | (refine wpList_of_run rfl (x_zb40 rfl) ?_)
      | (refine wpList_of_run rfl (x_neId40 (x := .tmp 30) (y := .tmp 31) (h := af) (k := zId) HOK.out.1 zId_ok rfl rfl rfl) ?_; rw [HNE.out])
      | (refine wpListG_of_run (v := .agg #[.slice va n cap]) (w' := w1) (by kernel_rfl) (x_ld29 (x := .tmp 4) (g := w.heap.size) rfl rfl H1.out.2.1) ?_)
      | (refine wpListG_of_run (by kernel_rfl) (x_ld40m (x := .tmp 5) (g := w.heap.size + 1) (p := 0) (y := af) HOK.out.1 rfl rfl H1A.out.range0) ?_)
      | (go_at_call 30; refine Calls.mono (HC2.out w1 H1.out.1) ?_; rintro e w2 ⟨rfl, hw1⟩; have H2 := show Hid (After w1 w2 ∧ (RowIs w2 w.heap.size 29 [.slice va n cap] ∧ RowIs w2 (w.heap.size + 1 + 1 + 1) 29 [.slice none 0 0])) from ⟨hw1, HB1.out w2 (H1.out.1.trans hw1)⟩; clear hw1)
      | (refine wpList_load_row rfl 29 (.tmp 4) rfl w.heap.size rfl 29 #[.slice va n cap] (0, 0) _ (H2.out.2.1) Try.underlying29 rfl (size29 _) ?_)
      | (refine wpList_store_row rfl 29 (.tmp 8) (.tmp 39) rfl (w.heap.size + 1 + 1 + 1) #[.slice va n cap] rfl rfl 29 _ (H2.out.2.2) (size29 _) rfl (by simp [Value.oneCell']) ?_))
    have hg : RowIs (w2.setRow (w.heap.size + 1 + 1 + 1) #[.slice va n cap]) (w.heap.size + 1 + 1 + 1) 29 [.slice va n cap] := (H2.out.2.2.setRow _)
    refine ⟨rfl, _, ret29 Try.results32 _ _ (w.heap.size + 1 + 1 + 1) (.slice va n cap) (.int .i64 22) rfl hg rfl, rfl, ?_⟩
    exact Below.row ((HA.out.1.trans H1.out.1).trans H2.out.1) (by omega) _

  · rw [if_neg h4] at he
    exact absurd he.symm hn0
end Go.Proofs.Ytiglenomigipmaa
