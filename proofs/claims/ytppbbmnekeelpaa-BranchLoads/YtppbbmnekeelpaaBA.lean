/-
  THE LAWS' awake (15).
-/
import Derived.Test.YtppbbmnekeelpaaBK
namespace Go.Proofs.Ytppbbmnekeelpaa
open Go.RowKit Dsk
attribute [local go_sem] Oper.semAt_some
def h1 : H := 1 :: List.replicate 31 0
theorem h1_32 : h1.length = 32 := by simp [h1]
theorem all_h1 : All32 [h1] := fun x hx => by rw [List.mem_singleton] at hx; rw [hx]; exact h1_32
theorem all_nil : All32 [] := fun x hx => by simp at hx
section
variable {oi : Oper} {a : Act} {w : World}
theorem x_bld50 (hop : oi.op = .build 50 #[(0, .const (.int .u8 1))]) : (execOp a.eval oi).run Try.prog w = .ok (.value (.agg (c8 h1).toArray)) w := by
  have h := run_build (P := Try.prog) w 50 #[(0, .int .u8 1)] (c8 h1).toArray (by kernel_rfl)
  have e : a.eval (.const (.int .u8 1)) = .int .u8 1 := rfl
  unfold execOp
  simp only [hop, List.map_toArray, List.map_cons, List.map_nil, e, Sem.run_bind, h, Result.andThen_ok]
  rfl
theorem x_bs30h {x : Operand} (hop : oi.op = .buildSlice 30 1 #[(0, x)]) (hx : a.eval x = .agg (c8 h1).toArray) : (execOp a.eval oi).run Try.prog w = .ok (.value (.slice (some ⟨w.heap.size, 0, none⟩) 1 1)) (w.alloc (.cells (c8 h1).toArray 50)) := by
  have hb : (Instr.buildSlice 30 1 #[(0, .agg (c8 h1).toArray)]).run Try.prog w = .ok (.slice (some ⟨w.heap.size, 0, none⟩) 1 1) (w.alloc (.cells (c8 h1).toArray 50)) := by kernel_rfl
  unfold execOp
  simp only [hop, List.map_toArray, List.map_cons, List.map_nil, hx, Sem.run_bind, hb, Result.andThen_ok]
  rfl
end
theorem sl_h1 (w : World) : SlAt (w.alloc (.cells (c8 h1).toArray 50)) 32 (some ⟨w.heap.size, 0, none⟩) (hsL [h1]) := ⟨uni_hs all_h1, fun _ => ⟨w.heap.size, 0, rfl, fun j v hv => by
  have := (RowIs.new w 50 (c8 h1)).cell (j := j) (v := v) (by simpa [hsL] using hv)
  rw [Nat.zero_add]; exact this⟩⟩
theorem nm_a : nmB [97] = true := by rfl
def S0 : Tb := [([97], [])]
def S1 : Tb := [([97], [h1])]
theorem cr_0 : crE [] [97] [] = 0 := by rfl
theorem mv_1 : mvE S0 [97] [h1] = 0 := by rfl
theorem mvS_1 : mvS S0 [97] [h1] = S1 := by rfl
theorem crS_0 : crS [] [97] [] = S0 := by rfl
theorem dl_1 : dlE S1 [97] = 0 := by rfl
theorem get_1 : (fget [97] S1).getD [] = [h1] := by rfl
theorem ok_0 : TOk S0 := by rw [← crS_0]; exact TOk.nil.cr _ _ all_nil
theorem ok_1 : TOk S1 := by rw [← mvS_1]; exact ok_0.mv _ _ all_h1
theorem aw_create {F : Nat → Prop} {tb mb : Nat} {w : World} (h : TbA w F tb mb []) : Calls Try.prog 20 #[.pointer (some ⟨tb, 0, none⟩), .string ⟨#[97]⟩, .slice none 0 0] w fun e w' => e = .returned (.int .i64 0) ∧ ∃ cs', fls cs' = S0 ∧ TbA w' (more F w w') tb mb cs' ∧ KeptF (fun b => b = mb) w w' :=
  (create20 (nm := [97]) (ao := none) (ca := 0) (n := 0) (l := []) (cs := []) (by decide) TOk.nil all_nil rfl (fun _ => rfl) (SlAt.nil _ _ _) h).mono (fun e w' ⟨he, cs', h1, h2, h3⟩ => ⟨by rw [he, show fls ([] : List Ent) = [] from rfl, cr_0]; rfl, cs', by rw [h1, show fls ([] : List Ent) = [] from rfl, crS_0], h2, h3⟩)
theorem aw_move {F : Nat → Prop} {tb mb g : Nat} {cs : List Ent} {w : World} (h : TbA w F tb mb cs) (hc : fls cs = S0) (hs : SlAt w 32 (some ⟨g, 0, none⟩) (hsL [h1])) : Calls Try.prog 21 #[.pointer (some ⟨tb, 0, none⟩), .string ⟨#[97]⟩, .slice (some ⟨g, 0, none⟩) 1 1] w fun e w' => e = .returned (.int .i64 0) ∧ ∃ cs', fls cs' = S1 ∧ TbA w' (more F w w') tb mb cs' ∧ KeptF (fun b => b = mb) w w' :=
  (move21 (nm := [97]) (ca := 1) (n := 1) (l := [h1]) (by decide) (by rw [hc]; exact ok_0) all_h1 rfl (fun e => by cases e) hs h).mono (fun e w' ⟨he, cs', h1, h2, h3⟩ => ⟨by rw [he, hc, mv_1]; rfl, cs', by rw [h1, hc, mvS_1], h2, h3⟩)
theorem aw_heads {F : Nat → Prop} {tb mb : Nat} {cs : List Ent} {w : World} (h : TbA w F tb mb cs) (hc : fls cs = S1) : Calls Try.prog 12 #[.pointer (some ⟨tb, 0, none⟩), .string ⟨#[97]⟩] w fun e w' => ∃ a c, e = .returned (.tuple #[.slice a 1 c, .int .i64 0]) ∧ SlAt w' 32 a (hsL [h1]) ∧ After w w' :=
  (heads12 (nm := [97]) (by decide) (by rw [hc]; exact ok_1) h).mono (fun e w' ⟨a, n, c, he, hn, ho, ha, _⟩ => by
    rw [hc, get_1] at hn ho
    rw [hc, dl_1] at he
    simp at hn
    subst hn
    obtain ⟨a', c', e', hs⟩ := ho.sl
    injection e' with e1 _ e3
    subst e1 e3
    exact ⟨a, c, he, hs, ha⟩)
set_option maxRecDepth 100000 in
set_option maxHeartbeats 3200000 in
theorem awake15 (w : World) : Calls Try.prog 15 #[] w fun e w' => e = .returned (.bool true) ∧ After w w' := by
  obtain ⟨g0, hg0⟩ : ∃ g0, w.heap.size = g0 := ⟨_, rfl⟩
  have HG : Hid (w.heap.size = g0) := hg0
  go_enter Try.func15, Try.ntmps15
  go_wp2_with (first
    | (go_at_call 9; refine Calls.mono (new9 w) ?_; rintro e w1 ⟨rfl, h1, h2⟩; rw [hg0] at h1 ⊢; have H1 := show Hid (TbA w1 (fun b => g0 ≤ b ∧ b < w1.heap.size) (g0 + 1) g0 [] ∧ After w w1) from ⟨h1, h2⟩; clear h1 h2)
    | (go_at_call 20; refine Calls.mono (aw_create H1.out.1) ?_; rintro e w2 ⟨rfl, cs2, k1, k2, k3⟩; have H2 := show Hid (fls cs2 = S0 ∧ TbA w2 _ (g0 + 1) g0 cs2 ∧ After w w2) from ⟨k1, k2, Below.trans H1.out.2 (k3.below H1.out.2.size (fun x hx => by rw [hx, HG.out]; exact Nat.le_refl _))⟩; clear k1 k2 k3)
    | (refine wpListG_of_run (by kernel_rfl) (x_bld50 rfl) ?_)
    | (refine wpListG_of_run (by kernel_rfl) (x_bs30h (x := .tmp 14) rfl (by kernel_rfl)) ?_; have ha3 := after_alloc (After.refl w2) (.cells (c8 h1).toArray 50); have hs3 := sl_h1 w2; obtain ⟨w3, hw3⟩ : ∃ w3, w2.alloc (.cells (c8 h1).toArray 50) = w3 := ⟨_, rfl⟩; rw [hw3] at ha3 hs3 ⊢; have H3 := show Hid (After w2 w3 ∧ SlAt w3 32 (some ⟨w2.heap.size, 0, none⟩) (hsL [h1])) from ⟨ha3, hs3⟩; clear ha3 hs3 hw3)
    | (go_at_call 21; refine Calls.mono (aw_move (H2.out.2.1.after H3.out.1) H2.out.1 H3.out.2) ?_; rintro e w4 ⟨rfl, cs4, k1, k2, k3⟩; have H4 := show Hid (fls cs4 = S1 ∧ TbA w4 _ (g0 + 1) g0 cs4 ∧ After w w4) from ⟨k1, k2, Below.trans (H2.out.2.2.trans H3.out.1) (k3.below (H2.out.2.2.trans H3.out.1).size (fun x hx => by rw [hx, HG.out]; exact Nat.le_refl _))⟩; clear k1 k2 k3)
    | (go_at_call 12; refine Calls.mono (aw_heads H4.out.2.1 H4.out.1) ?_; rintro e w5 ⟨a5, c5, rfl, k1, k2⟩; have H5 := show Hid (SlAt w5 32 a5 (hsL [h1]) ∧ After w w5) from ⟨k1, H4.out.2.2.trans k2⟩; clear k1 k2)
    | (refine wpListG_of_run (by kernel_rfl) (x_bs30h (x := .tmp 28) rfl (by kernel_rfl)) ?_; have ha6 := after_alloc (After.refl w5) (.cells (c8 h1).toArray 50); have hs6 := sl_h1 w5; obtain ⟨w6, hw6⟩ : ∃ w6, w5.alloc (.cells (c8 h1).toArray 50) = w6 := ⟨_, rfl⟩; rw [hw6] at ha6 hs6 ⊢; have H6 := show Hid (After w5 w6 ∧ SlAt w6 32 (some ⟨w5.heap.size, 0, none⟩) (hsL [h1])) from ⟨ha6, hs6⟩; clear ha6 hs6 hw6)
    | (go_at_call 14; refine Calls.mono (rsame31 (n := 1) (m := 1) all_h1 all_h1 rfl rfl (by decide) (H5.out.1.after H6.out.1) H6.out.2) ?_; rintro e w7 ⟨he, h7⟩; rw [show decide ([h1] = [h1]) = true from decide_eq_true rfl] at he; subst he; have H7 := show Hid (After w w7) from (H5.out.2.trans H6.out.1).trans h7; clear h7))
  go_ret
  exact ⟨rfl, H7.out⟩
end Go.Proofs.Ytppbbmnekeelpaa
