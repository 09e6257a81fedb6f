/-
  THE REFERENCE'S CALLS: Create (25), Move (26), Delete (27), Heads (13).
-/
import Derived.Test.YtcmcapcagblafaaBI
namespace Go.Proofs.Ytcmcapcagblafaa
open Go.RowKit Dsk
attribute [local go_sem] Oper.semAt_some
section
variable {oi : Oper} {a : Act} {w : World}
theorem x_stR {x y : Operand} {g : Nat} {t ty : TypeId} {old : List Value} {cells : Array Value} (hop : oi.op = .store ty x y) (hx : a.eval x = .pointer (some ⟨g, 0, none⟩)) (hy : a.eval y = .agg cells) (hg : RowIs w g t old) (hi : (Try.prog.info? ty).map (·.size) = some cells.size) (hold : old.toArray.size = cells.size) (h1 : cells.all (·.oneCell') = true) : (execOp a.eval oi).run Try.prog w = .ok .skip (w.setRow g cells) := by
  unfold execOp
  simp only [hop, hx, hy, Instr.storeAt, Instr.sureAddr, Sem.run_bind, Sem.run_pure, Result.andThen_ok, run_storeVar_row w g t ty old.toArray cells hg hi hold h1]
theorem x_ld27 {x : Operand} {g n c : Nat} {b : Option Addr} (hop : oi.op = .load 82 x) (hx : a.eval x = .pointer (some ⟨g, 0, none⟩)) (hr : RowIs w g 82 [.slice b n c]) : (execOp a.eval oi).run Try.prog w = .ok (.value (.agg #[.slice b n c])) w := by
  unfold execOp
  simp only [hop, hx, Instr.loadAt, Instr.sureAddr, Sem.run_bind, Sem.run_pure, Result.andThen_ok, run_loadVar_row w g 82 82 #[.slice b n c] (0, 0) _ hr Try.underlying82 rfl (size27 b n c)]
end
theorem two27 {w W1 : World} {g0 n c : Nat} {a : Option Addr} (hg : w.heap.size = g0) (hW : (w.alloc (.cells #[.slice a n c] 82)).alloc (.cells #[.slice none 0 0] 82) = W1) : RowIs W1 g0 82 [.slice a n c] ∧ RowIs W1 (g0 + 1) 82 [.slice none 0 0] ∧ After w W1 := by
  refine ⟨?_, ?_, ?_⟩
  · rw [← hW, ← hg]; exact (RowIs.new w 82 [.slice a n c]).alloc _
  · rw [← hW, ← hg]; have := RowIs.new (w.alloc (.cells #[.slice a n c] 82)) 82 [.slice none 0 0]; rwa [World.size_alloc] at this
  · rw [← hW]; exact after_alloc (after_alloc (After.refl w) _) _
theorem fin27 {w W1 W : World} {g0 : Nat} (hg : w.heap.size = g0) (h2 : RowIs W1 (g0 + 1) 82 [.slice none 0 0] ∧ After w W1) (hb : After W1 W) (v : Value) : RowIs W (g0 + 1) 82 [.slice none 0 0] ∧ RowIs (W.setRow (g0 + 1) #[v]) (g0 + 1) 82 [v] ∧ After w (W.setRow (g0 + 1) #[v]) := by
  have h1 := h2.1.below hb h2.1.lt
  exact ⟨h1, h1.setRow _, Below.row (h2.2.trans hb) (by omega) _⟩
theorem bof_take (X : List Bx) (k : Nat) : bof (X.take k) = (bof X).take k := by simp [bof, List.map_take]
theorem bof_drop (X : List Bx) (k : Nat) : bof (X.drop k) = (bof X).drop k := by simp [bof, List.map_drop]
theorem bof_app (X Y : List Bx) : bof (X ++ Y) = bof X ++ bof Y := by simp [bof]
theorem RT.setRow {w W : World} {a : Option Addr} {n c g : Nat} {X : List Bx} {cs : Array Value} (h : RT w a n c X) (hg : w.heap.size ≤ g) (ha : After w W) : RT (W.setRow g cs) a n c X := h.after (Below.row ha hg _)
theorem rt_fin {w w6 : World} {g n' c' : Nat} {a' : Option Addr} {cs : Array Value} {Z : List Bx} (h : RT w6 a' n' c' Z) (hrow : ∀ ad, a' = some ad → g < ad.block) (hel : ∀ x ∈ Z, BxAt w x ∨ ∀ ad, x.a = some ad → g < ad.block) (hA : After w (w6.setRow g cs)) : RT (w6.setRow g cs) a' n' c' Z := by
  refine ⟨h.at_.same (fun ad e => setRow_other _ _ _ _ (by have := hrow ad e; omega)) (fun x hx => ?_), h.len, h.cap, h.z⟩
  rcases hel x hx with hb | hb
  · exact hb.after hA
  · have := h.at_.each x hx
    exact ⟨this.sl.same (fun ad e => setRow_other _ _ _ _ (by have := hb ad e; omega)), this.l32, this.z, this.fit⟩
theorem three_el {w : World} {a : Option Addr} {n c g i r : Nat} {X : List Bx} {y : Bx} (h : RT w a n c X) (hy : ∀ ad, y.a = some ad → g < ad.block) : ∀ x ∈ X.take i ++ [y] ++ X.drop r, BxAt w x ∨ ∀ ad, x.a = some ad → g < ad.block := fun x hx => by
  rcases List.mem_append.1 hx with hx | hx
  · rcases List.mem_append.1 hx with hx | hx
    · exact .inl (h.at_.each x (List.mem_of_mem_take hx))
    · rw [List.mem_singleton] at hx; subst hx; exact .inr hy
  · exact .inl (h.at_.each x (List.mem_of_mem_drop hx))
/-- Nothing of it lies in block g. -/
def NT (g : Nat) (a : Option Addr) (X : List Bx) : Prop := (∀ ad, a = some ad → X ≠ [] → ad.block ≠ g) ∧ ∀ x ∈ X, ∀ ad, x.a = some ad → x.l ≠ [] → ad.block ≠ g
theorem nt_three {g i r : Nat} {a a' : Option Addr} {X : List Bx} {y : Bx} (h : NT g a X) (hy : ∀ ad, y.a = some ad → g < ad.block) (hrow : ∀ ad, a' = some ad → g < ad.block) : NT g a' (X.take i ++ [y] ++ X.drop r) := by
  refine ⟨fun ad e _ => by have := hrow ad e; omega, fun x hx ad e hl => ?_⟩
  rcases List.mem_append.1 hx with hx | hx
  · rcases List.mem_append.1 hx with hx | hx
    · exact h.2 x (List.mem_of_mem_take hx) ad e hl
    · rw [List.mem_singleton] at hx; subst hx; have := hy ad e; omega
  · exact h.2 x (List.mem_of_mem_drop hx) ad e hl
theorem nt_cut {g i r : Nat} {a a' : Option Addr} {X : List Bx} (h : NT g a X) (hrow : ∀ ad, a' = some ad → g < ad.block) : NT g a' (X.take i ++ [] ++ X.drop r) := by
  refine ⟨fun ad e _ => by have := hrow ad e; omega, fun x hx ad e hl => ?_⟩
  rcases List.mem_append.1 hx with hx | hx
  · exact h.2 x (List.mem_of_mem_take (by simpa using hx)) ad e hl
  · exact h.2 x (List.mem_of_mem_drop hx) ad e hl
theorem RT.nt {W : World} {a : Option Addr} {n c g : Nat} {X : List Bx} (h : RT W a n c X) (hg : W.heap.size ≤ g) : NT g a X := by
  refine ⟨fun ad e hn e2 => ?_, fun x hx ad e hl e2 => ?_⟩
  · obtain ⟨b, o, e', hr⟩ := h.at_.sl.2 (fun e => hn (by cases X with | nil => rfl | cons x X => simp [bsL] at e))
    rw [e'] at e; cases e
    have := range_lt hr (fun e3 => by
      have h1 := fl_len (uni_bs X)
      rw [e3, bs_len] at h1
      exact hn (List.eq_nil_of_length_eq_zero (by simp at h1; omega)))
    simp only at e2
    omega
  · have hb := h.at_.each x hx
    obtain ⟨b, o, e', hr⟩ := hb.sl.2 (fun e3 => hl (by simpa [hsL] using e3))
    rw [e'] at e; cases e
    have := range_lt hr (fun e3 => by
      have h1 := fl_len hb.sl.1
      rw [e3, hs_len] at h1
      exact hl (List.eq_nil_of_length_eq_zero (by simp at h1; omega)))
    simp only at e2
    omega
end Go.Proofs.Ytcmcapcagblafaa
