/-
  A RANGE OVER A FUNCTION, cut in two: how its rounds are met, and how it is entered and left; the order in which a row is gone through.
-/
import Derived.Test.YtiglenomigipmaaRO
import Derived.RangeFuncNested
import Derived.RangeFuncBox
import Derived.RangeFuncBound
import Derived.RangeFuncCalls
import Derived.RangeFuncLeaves
import Derived.Shelf.Abstract
import Derived.Shelf.RegionOpen
import Derived.OwnWalkIn
import Derived.TacticsInMore
import Derived.LoopNIn
import Derived.LoopIn
import Derived.Deep.LoopGhost
namespace Go.Proofs.Ytiglenomigipmaa
open Go.RowKit Go.Shelf
section
variable {F : Fence} {n : Nat} {P : Program}
/-- The loop is entered, and left. -/
theorem rf_enter {g : Operand} {ps : Array Tmp} {assign body : Code} {Q : Exit → Act → World → Prop} {a : Act} {w : World} (hro : F.round = none) (h1 : 1 ≤ n) {gf : Nat} {lb : Array Value} (hg : a.eval g = .func (.func gf) #[] lb) (hFg : F.fn gf) (eg : ∀ args w, (callFunc gf args).run P w = .ok (.enter gf args) w)
    (h : ∀ fn, F.fn fn → ∀ r : Loop, r = { state := .ready, pending := none, fn, tmps := a.tmps, params := ps, assign, body, defers := w.heap.size } →
      CallsIn F (n - 1) P gf (#[.func (.yield (w.heap.size + 1)) #[] #[]] ++ lb) ((w.alloc (.deferred (some []))).alloc (.loop r)) fun e W2 => (∃ v, e = .returned v) ∧ ∃ r2 : Loop, W2.heap[w.heap.size + 1]? = some (.loop r2) ∧ r2.state ≠ .busy ∧
        (match r2.pending with
         | none => Q .normal { a with defers := { target := .collected w.heap.size, args := #[] } :: a.defers } (W2.putObj (w.heap.size + 1) (.loop { r2 with state := .exhausted }))
         | some c => c.wpIn F n P Q { a with defers := { target := .collected w.heap.size, args := #[] } :: a.defers } (W2.putObj (w.heap.size + 1) (.loop { r2 with state := .exhausted })))) :
    (Code.rangeFunc g ps assign body).wpIn F n P Q a w := by
  refine wpIn_rangeFunc ?_
  intro fn hfn
  rw [hro]
  obtain ⟨r, hr⟩ : ∃ r : Loop, r = { state := .ready, pending := none, fn, tmps := a.tmps, params := ps, assign, body, defers := w.heap.size } := ⟨_, rfl⟩
  have hc := h fn hfn r hr
  obtain ⟨W1, hW1⟩ : ∃ W1, (w.alloc (.deferred (some []))).alloc (.loop r) = W1 := ⟨_, rfl⟩
  rw [hW1] at hc
  refine ⟨w.heap.size + 1, [{ target := .collected w.heap.size, args := #[] }], W1, { target := .fn (.func gf) lb, args := #[.func (.yield (w.heap.size + 1)) #[] #[]] }, W1, gf, #[.func (.yield (w.heap.size + 1)) #[] #[]] ++ lb, W1, ?_, ?_, ?_, ?_, fun _ => h1, ?_⟩
  · rw [← hW1, hr]; exact run_enterLoop_outer _ _ _ _ _
  · simp only [resolve, hg]
    simp [go_sem]
  · intro f' hf'; simp [Target.leads] at hf'; subst hf'; exact hFg
  · simp [invoke, go_sem, eg]
  · refine hc.mono ?_
    rintro e W2 ⟨⟨v, rfl⟩, r2, hr2, hb, hq⟩
    exact ⟨_, _, run_endLoop hr2 hb, hq⟩
/-- A loop's record, in a round; behind one that goes on; behind one that has left. -/
def bz (r : Loop) : Loop := { r with state := .busy }
def rdy (r : Loop) : Loop := { r with state := .ready, pending := none }
def dn (r : Loop) : Loop := { r with state := .done, pending := some .ret }
/-- A round: what its body is to leave. -/
def rPost (l : Nat) (r : Loop) (R : Ending → World → Prop) : Exit → Act → World → Prop
  | .normal, _, W => W.heap[l]? = some (.loop (bz r)) ∧ R (.returned (.bool true)) (W.putObj l (.loop (rdy r)))
  | .ret, _, W => W.heap[l]? = some (.loop (bz r)) ∧ R (.returned (.bool false)) (W.putObj l (.loop (dn r)))
  | _, _, _ => False
theorem rf_round {l : Nat} {r : Loop} {args : Array Value} {W : World} {R : Ending → World → Prop} (hl : W.heap[l]? = some (.loop r)) (hst : r.state = .ready) (hps : args.size = r.params.size) (hF : F.fn r.fn)
    (h : r.assign.wpIn (F.inRound l) n P (Exit.then (fun a' Wa => Wa.heap[l]? = some (.loop r) ∧ r.body.wpIn (F.inRound l) n P (rPost l r R) a' (Wa.putObj l (.loop (bz r)))) (fun _ _ _ => False))
      { tmps := (r.params.zip args).foldl (fun t (p, v) => t.setIfInBounds p v) r.tmps, defers := [] } W) : YieldAt F n P l args W R := by
  refine ⟨r.fn, _, r.assign, r.body, run_yield hl hps, roundIn_of_wpIn hF (wpIn_mono h ?_)⟩
  rintro e a' Wa hp
  cases e with
  | normal =>
    obtain ⟨hl2, hb⟩ := hp
    refine ⟨_, run_beginRound hl2 hst, wpIn_mono hb ?_⟩
    rintro e a3 W3 hp3
    cases e with
    | normal => exact ⟨_, _, run_endRound none hp3.1, hp3.2⟩
    | ret => exact ⟨_, _, run_endRound (some .ret) hp3.1, hp3.2⟩
    | exit id => exact hp3.elim
    | goto t => exact hp3.elim
    | panic c => exact hp3.elim
    | outgrown => exact hp3.elim
  | ret => exact hp.elim
  | exit id => exact hp.elim
  | goto t => exact hp.elim
  | panic c => exact hp.elim
  | outgrown => exact hp.elim
end
section
variable {F : Fence} {n : Nat} {w w' : World} {ops : Array Oper} {rest : List Oper} {o : Oper} {a : Act} {Q : Exit → Act → World → Prop} {v : Value}
theorem wpListIn_run (hg : o.guard = none) (hF : ∀ f, F.fn f) (hsem : ∀ c, o.op ≠ .defer c) (hr : (execOp a.eval o).run Try.prog w = .ok (.value v) w') (h : wpListIn F n Try.prog ops Q rest (a.put o.dst v) w') : wpListIn F n Try.prog ops Q (o :: rest) a w :=
  wpListIn_plain hg fun K hK => ⟨fun f _ => hF f, by rw [Oper.semAt_plain F _ _ hsem, hr, Oper.uponIn_value]; exact hK _ _ h⟩
theorem wpListIn_runG (hw : Region.wanted o (yielded ops a.tmps) = true) (hF : ∀ f, F.fn f) (hsem : ∀ c, o.op ≠ .defer c) (hr : (execOp a.eval o).run Try.prog w = .ok (.value v) w') (h : wpListIn F n Try.prog ops Q rest (a.put o.dst v) w') : wpListIn F n Try.prog ops Q (o :: rest) a w :=
  wpListIn_step fun K hK => by rw [if_pos hw]; exact ⟨fun f _ => hF f, by rw [Oper.semAt_plain F _ _ hsem, hr, Oper.uponIn_value]; exact hK _ _ h⟩
theorem wpListIn_st (hg : o.guard = none) (hd : o.dst = none) (hF : ∀ f, F.fn f) (hsem : ∀ c, o.op ≠ .defer c) (hr : (execOp a.eval o).run Try.prog w = .ok .skip w') (h : wpListIn F n Try.prog ops Q rest (a.put none undef) w') : wpListIn F n Try.prog ops Q (o :: rest) a w :=
  wpListIn_plain hg fun K hK => ⟨fun f _ => hF f, by rw [Oper.semAt_plain F _ _ hsem, hr, Oper.uponIn_skip, hd]; exact hK _ _ h⟩
end
/-- What has been gone through, and what is still to come, the next one last. -/
inductive Reach (st : List Stm) : List Nat → List Nat → Prop
  | start {s : Stm} : st[0]? = some s → Reach st [] s.below
  | step {V T : List Nat} {t : Nat} {s : Stm} : Reach st V (T ++ [t]) → st[t]? = some s → Reach st (V ++ [t]) (T ++ s.below)
theorem snoc_inj {α : Type} {a b : List α} {x y : α} (h : a ++ [x] = b ++ [y]) : a = b ∧ x = y := by
  have h1 := List.append_inj' h rfl
  exact ⟨h1.1, by simpa using h1.2⟩
theorem Reach.det {st : List Stm} : ∀ {V T V' T' : List Nat}, Reach st V T → Reach st V' T' → V.length = V'.length → V = V' ∧ T = T' := fun {V T V' T'} h => by
  induction h generalizing V' T' with
  | start h0 =>
    intro h' hl
    cases h' with
    | start h0' => rw [h0] at h0'; cases h0'; exact ⟨rfl, rfl⟩
    | step _ _ => simp at hl
  | step h ht ih =>
    intro h' hl
    cases h' with
    | start h0' => simp at hl
    | step h' ht' =>
      obtain ⟨e1, e2⟩ := ih h' (by simpa using hl)
      obtain ⟨e3, e4⟩ := snoc_inj e2
      subst e1 e3 e4
      rw [ht] at ht'; cases ht'; exact ⟨rfl, rfl⟩
theorem Reach.pre {st : List Stm} {V T : List Nat} (h : Reach st V T) : ∀ n, n < V.length → ∃ T', Reach st (V.take n) T' ∧ T' ≠ [] := by
  induction h with
  | start _ => intro n hn; simp at hn
  | @step V T t s h ht ih =>
    intro n hn
    rw [List.length_append, List.length_singleton] at hn
    by_cases e : n = V.length
    · subst e
      refine ⟨T ++ [t], ?_, by simp⟩
      rw [List.take_left' rfl]; exact h
    · obtain ⟨T', h1, h2⟩ := ih n (by omega)
      exact ⟨T', by rw [List.take_append_of_le_length (by omega)]; exact h1, h2⟩
/-- The order is one. -/
theorem Reach.uniq {st : List Stm} {V V' : List Nat} (h : Reach st V []) (h' : Reach st V' []) : V = V' := by
  rcases Nat.lt_trichotomy V.length V'.length with hlt | he | hlt
  · obtain ⟨T, h1, h2⟩ := h'.pre _ hlt
    have := h.det h1 (by rw [List.length_take]; omega)
    exact absurd this.2.symm h2
  · exact (h.det h' he).1
  · obtain ⟨T, h1, h2⟩ := h.pre _ hlt
    have := h'.det h1 (by rw [List.length_take]; omega)
    exact absurd this.2.symm h2
end Go.Proofs.Ytiglenomigipmaa
