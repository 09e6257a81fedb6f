/-
  slices.Clone of hashes (30).
-/
import Derived.Test.YtcmcapcagblafaaPB
namespace Go.Proofs.Ytcmcapcagblafaa
open Go.RowKit
theorem info50 : (Try.prog.info? 43).map (fun i => (i.zero, i.size, i.bytes)) = some (some (.agg (Array.replicate 32 (.int .u8 0))), 32, 32) := by kernel_rfl
theorem x_bs30e {oi : Oper} {a : Act} {w : World} (hop : oi.op = .buildSlice 39 0 #[]) : (execOp a.eval oi).run Try.prog w = .ok (.value (.slice (some ⟨w.heap.size, 0, none⟩) 0 0)) (w.alloc (.cells #[] 43)) := by
  have hb : (Instr.buildSlice 39 0 #[]).run Try.prog w = .ok (.slice (some ⟨w.heap.size, 0, none⟩) 0 0) (w.alloc (.cells #[] 43)) := by kernel_rfl
  unfold execOp
  simp [hop, hb]
theorem x_app {oi : Oper} {a : Act} {w : World} {t : TypeId} {s x : Operand} {v u v' : Value} {w' : World} (hop : oi.op = .call { callee := .builtin .append, args := #[s, x], argTypes := #[t, t] }) (hs : a.eval s = v) (hx : a.eval x = u) (hr : (Builtin.append_ #[t, t] oi.type #[v, u]).run Try.prog w = .ok v' w') : (execOp a.eval oi).run Try.prog w = .ok (.value v') w' := by
  unfold execOp
  simp only [hop, resolve, invoke, builtin, Sem.run_bind, Sem.run_pure, Result.andThen_ok, List.map_toArray, List.map_cons, List.map_nil, hs, hx, hr]
theorem OwnL.fresh (w : World) (t : TypeId) (k : Nat) : OwnL (w.alloc (.cells #[] t)) w.heap.size t k (.slice (some ⟨w.heap.size, 0, none⟩) 0 0) [] :=
  ⟨fun x h => by simp at h, row_own (cs := []) (n := 0) (cap := 0) (Nat.le_refl _) (RowIs.new w t []) (Nat.le_refl _) (by decide) (by simp) (by simp)⟩
theorem hs_len (l : List H) : (hsL l).length = l.length := by simp [hsL]
theorem hs_one (l : List H) : ∀ x ∈ hsL l, ∀ u ∈ x, u.oneCell' = true := fun x hx u hu => by
  obtain ⟨h, _, rfl⟩ := List.mem_map.1 hx
  exact c8_one h u hu
theorem sl_none {W : World} {k : Nat} {L : List (List Value)} (h : SlAt W k none L) : L = [] := by
  by_cases hn : L = []
  · exact hn
  · obtain ⟨b, o, e, _⟩ := h.2 hn; cases e
set_option maxRecDepth 100000 in
set_option maxHeartbeats 1600000 in
theorem clone30 {ao : Option Addr} {ca n : Nat} {l : List H} (h32 : All32 l) (hl : l.length = n) (hn : n ≤ 16) {w : World} (hz : ao = none → ca = 0) (hA : SlAt w 32 ao (hsL l)) :
    Calls Try.prog 120 #[.slice ao n ca] w fun e w' => ∃ a' c', e = .returned (.slice a' n c') ∧ OwnL w' w.heap.size 43 32 (.slice a' n c') (hsL l) ∧ After w w' ∧ (a' = none → c' = 0) := by
  cases ao with
  | none =>
    have hl0 : l = [] := by have := sl_none hA; cases l with | nil => rfl | cons x l => simp [hsL] at this
    subst hl0
    obtain rfl : n = 0 := by simpa using hl.symm
    obtain rfl : ca = 0 := hz rfl
    clear hA hz
    have hnil : ∀ w, Sem.run Try.prog (binOp .eql 39 (.slice none 0 0) (.slice none 0 0)) w = .ok (.bool true) w := fun w => by kernel_rfl
    go_enter Try.func120, Try.ntmps120
    go_wp2_with fail
    go_ret
    exact ⟨_, _, rfl, OwnL.nil _ _ _ _, After.refl w, fun _ => rfl⟩
  | some ad =>
    have ha1 : After w (w.alloc (.cells #[] 43)) := after_alloc (After.refl w) _
    obtain ⟨i, hi, hz0⟩ := Option.map_eq_some_iff.1 info50
    simp only [Prod.mk.injEq] at hz0
    obtain ⟨hz1, hz2, hz3⟩ := hz0
    obtain ⟨va, vc, w', h1, h2, h3, h4⟩ := run_appL (w := w.alloc (.cells #[] 43)) (base := w.heap.size) (v := .slice (some ⟨w.heap.size, 0, none⟩) 0 0) (L := []) (N := hsL l) 39 39 43 32 32 (i := i) (z := .agg (Array.replicate 32 (.int .u8 0))) Try.underlying39 hi hz1 hz2 hz3 (by simp [Value.cells]) (by omega) (OwnL.fresh w 43 32) (a := some ad) (m := n) (c := ca) (by rw [hs_len, hl]) (hA.after ha1) (hs_one l) (by simp; unfold maxLen; omega) (by simp; omega) (by simp) (fun _ h => by cases h)
    simp only [List.length_nil, Nat.zero_add, List.nil_append] at h1 h2 h4
    have HE : Hid ((Builtin.append_ #[39, 39] 39 #[.slice (some ⟨w.heap.size, 0, none⟩) 0 0, .slice (some ad) n ca]).run Try.prog (w.alloc (.cells #[] 43)) = .ok (.slice va n vc) w') := h1
    have HF : Hid (OwnL w' w.heap.size 43 32 (.slice va n vc) (hsL l) ∧ After w w' ∧ (va = none → vc = 0)) := ⟨h2, after_grown ha1 h3 (Nat.le_refl _) (fun k hk => by cases hk; exact Nat.le_refl _), fun e => by
      subst e
      rcases own_row h2.2 with ⟨e, _⟩ | ⟨g, cap, cs, e, _⟩
      · cases e; rfl
      · cases e⟩
    clear h1 h2 h3 h4 ha1 hA
    have hnil : ∀ w, Sem.run Try.prog (binOp .eql 39 (.slice (some ad) n ca) (.slice none 0 0)) w = .ok (.bool false) w := fun w => by kernel_rfl
    go_enter Try.func120, Try.ntmps120
    go_wp2_with (first
      | (refine wpList_of_run rfl (x_bs30e rfl) ?_)
      | (refine wpList_of_run rfl (x_app (t := 39) (s := .tmp 5) (x := .tmp 6) rfl rfl rfl HE.out) ?_))
    go_ret
    exact ⟨_, _, rfl, HF.out⟩
end Go.Proofs.Ytcmcapcagblafaa
