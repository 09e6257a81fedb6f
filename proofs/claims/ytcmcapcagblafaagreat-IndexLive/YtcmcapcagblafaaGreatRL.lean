/-
  THE REFERENCE'S LOAD (18).
-/
import Derived.Test.YtcmcapcagblafaaGreatBV
namespace Go.Proofs.YtcmcapcagblafaaGreat
open Go.RowKit Go.Maps Dsk
attribute [local go_sem] Oper.semAt_some
section
variable {ops : Array Oper} {Q : Exit → Act → World → Prop} {S : World → Prop} {fuel : Nat} {listed : Array Bool} {a : Act} {w : World} {oi : Oper}
theorem tkTwo (i k : Nat) (hr : Region.ready .any ops listed = [i, k])
    (h1 : wpOp Tryz.prog ops Q i (fun a w => S w ∧ wpAnyH Tryz.prog .any ops Q S fuel (listed.setIfInBounds i true) a w) a w)
    (h2 : wpOp Tryz.prog ops Q k (fun a w => S w ∧ wpAnyH Tryz.prog .any ops Q S fuel (listed.setIfInBounds k true) a w) a w) : wpAnyH Tryz.prog .any ops Q S (fuel + 1) listed a w :=
  wpAnyH_all hr (by simp) (fun j hj => by
    rcases (by simpa using hj : j = i ∨ j = k) with rfl | rfl
    · exact h1
    · exact h2)
theorem x_st25 {x y : Operand} {g p n c : Nat} {b : Option Addr} {u : Value} (hop : oi.op = .store 30 x y) (hx : a.eval x = .pointer (some ⟨g, p, none⟩)) (hy : a.eval y = .slice b n c) (hc : w.cell? ⟨g, p, none⟩ = some u) (hf : w.frozen? ⟨g, p, none⟩ = false) : (execOp a.eval oi).run Tryz.prog w = .ok .skip (w.setCell ⟨g, p, none⟩ (.slice b n c)) := by
  unfold execOp
  simp only [hop, hx, hy]
  simp [go_sem, hc, hf, Instr.storeAt, Instr.sureAddr]
end
theorem OwnB.cell {W : World} {B g o : Nat} {u v : Value} {X : List Bx} (h : OwnB W B v X) (hg : g < B) : OwnB (W.setCell ⟨g, o, none⟩ u) B v X := by
  have hh : ∀ b, B ≤ b → (W.setCell ⟨g, o, none⟩ u).heap[b]? = W.heap[b]? := fun b hb => Below.heap_setCell W ⟨g, o, none⟩ u b (fun e => by simp only at e; omega)
  have hs : W.heap.size ≤ (W.setCell ⟨g, o, none⟩ u).heap.size := by show W.heap.size ≤ (W.heap.modify _ _).size; rw [Array.size_modify]; exact Nat.le_refl _
  refine ⟨h.row.same (fun b hb => hh b (own_lt h.row.2 hb).1), fun x hx => ?_, fun x hx ad e => ?_⟩
  · have := h.each x hx
    exact ⟨this.sl.same (fun ad e => hh _ (h.ge x hx ad e).1), this.l32, this.z, this.fit⟩
  · obtain ⟨h1, h2, h3, h4⟩ := h.ge x hx ad e
    exact ⟨h1, Nat.lt_of_lt_of_le h2 hs, h3, h4.same (hh _ h1)⟩
theorem OwnB.row0 {W : World} {B g : Nat} {cs : Array Value} {v : Value} {X : List Bx} (h : OwnB W B v X) (hg : g < B) : OwnB (W.setRow g cs) B v X := by
  have hh : ∀ b, B ≤ b → (W.setRow g cs).heap[b]? = W.heap[b]? := fun b hb => setRow_other _ _ _ _ (by omega)
  have hs : W.heap.size ≤ (W.setRow g cs).heap.size := by simp
  refine ⟨h.row.same (fun b hb => hh b (own_lt h.row.2 hb).1), fun x hx => ?_, fun x hx ad e => ?_⟩
  · have := h.each x hx
    exact ⟨this.sl.same (fun ad e => hh _ (h.ge x hx ad e).1), this.l32, this.z, this.fit⟩
  · obtain ⟨h1, h2, h3, h4⟩ := h.ge x hx ad e
    exact ⟨h1, Nat.lt_of_lt_of_le h2 hs, h3, h4.same (hh _ h1)⟩
theorem lok_up {S : Tb} {i : Nat} {nm : Dsk.Nm} {l : List H} (hp : S[i]? = some (nm, l)) (hT : LOk (S.take i)) (h64 : i < 64) (hadj : ∀ q, i ≠ 0 → S[i - 1]? = some q → bytesBefore q.1 nm = true) (hn : nmB nm = true) (hm : mayB l = true) : LOk (S.take (i + 1)) := by
  have hi := (List.getElem?_eq_some_iff.1 hp).1
  have h1 : ∀ p ∈ S.take i, bytesBefore p.1 nm = true := fun p hq => by
    obtain ⟨j, hj⟩ := List.getElem?_of_mem hq
    have hjl := (List.getElem?_eq_some_iff.1 hj).1
    rw [List.length_take] at hjl
    have hj2 : S[j]? = some p := by
      rw [List.getElem?_take] at hj
      split at hj
      · exact hj
      · cases hj
    obtain ⟨q, hq'⟩ : ∃ q, S[i - 1]? = some q := ⟨_, List.getElem?_eq_getElem (by omega)⟩
    have h2 := hadj q (by omega) hq'
    by_cases e : j = i - 1
    · subst e; rw [hj2] at hq'; cases hq'; exact h2
    · have hq3 : (S.take i)[i - 1]? = some q := by rw [List.getElem?_take, if_pos (by omega)]; exact hq'
      have h3 := (List.pairwise_iff_getElem.1 hT.ris) j (i - 1) (by rw [List.length_take]; omega) (by rw [List.length_take]; omega) (by omega)
      rw [(List.getElem?_eq_some_iff.1 hj).2, (List.getElem?_eq_some_iff.1 hq3).2] at h3
      exact bb_trans h3 h2
  have e : S.take (i + 1) = S.take i ++ [(nm, l)] := by rw [List.take_add_one, hp]; rfl
  rw [e]
  refine ⟨List.pairwise_append.2 ⟨hT.ris, List.pairwise_singleton _ _, fun p hq q hq2 => ?_⟩, ?_, fun p hq => ?_⟩
  · rw [List.mem_singleton] at hq2; subst hq2; exact h1 p hq
  · rw [List.length_append, List.length_take, List.length_singleton]; omega
  · rcases List.mem_append.1 hq with hq | hq
    · exact hT.each p hq
    · rw [List.mem_singleton] at hq; subst hq; exact ⟨hn, hm⟩
theorem lok_name {S : Tb} {i : Nat} {nm : Dsk.Nm} {l : List H} (hp : S[i]? = some (nm, l)) (h : nmB nm = false) : ¬ LOk S := fun hk => by
  have := (hk.each _ (List.mem_of_getElem? hp)).1
  simp only at this
  rw [h] at this
  cases this
theorem lok_heads {S : Tb} {i : Nat} {nm : Dsk.Nm} {l : List H} (hp : S[i]? = some (nm, l)) (h : mayB l = false) : ¬ LOk S := fun hk => by
  have := (hk.each _ (List.mem_of_getElem? hp)).2
  simp only at this
  rw [h] at this
  cases this
end Go.Proofs.YtcmcapcagblafaaGreat
