/-
  THE WALK OF laid.
-/
import Derived.Test.YtjmjianilcdphaaPieces
namespace Leb
/-- A kind: below 1 counts as 1. -/
def mk (k : UInt8) : UInt8 := if k = 0 then 1 else k
theorem mk_ne (k : UInt8) : mk k ≠ 0 := by unfold mk; split <;> simp_all
def laidB (ps : List (UInt8 × List UInt8)) : List UInt8 := (ps.map fun p => frameB (mk p.1) p.2).flatten
def norm (ps : List (UInt8 × List UInt8)) : List (UInt8 × List UInt8) := ps.map fun p => (mk p.1, p.2)
def endsI (ps : List (UInt8 × List UInt8)) : List Int := (List.range ps.length).map fun i => ((laidB (ps.take (i + 1))).length : Int)
theorem laidB_nil : laidB [] = [] := rfl
theorem laidB_app (a b : List (UInt8 × List UInt8)) : laidB (a ++ b) = laidB a ++ laidB b := by simp [laidB]
theorem laidB_snoc (ps : List (UInt8 × List UInt8)) (p : UInt8 × List UInt8) : laidB (ps ++ [p]) = laidB ps ++ frameB (mk p.1) p.2 := by simp [laidB]
theorem endsI_len (ps : List (UInt8 × List UInt8)) : (endsI ps).length = ps.length := by simp [endsI]
theorem endsI_snoc (ps : List (UInt8 × List UInt8)) (p : UInt8 × List UInt8) : endsI (ps ++ [p]) = endsI ps ++ [((laidB (ps ++ [p])).length : Int)] := by
  unfold endsI
  rw [List.length_append, List.length_singleton, List.range_succ, List.map_append]
  congr 1
  · apply List.map_congr_left
    intro i hi
    rw [List.take_append_of_le_length (by have := List.mem_range.1 hi; omega)]
  · simp only [List.map_cons, List.map_nil]
    rw [List.take_of_length_le (by simp)]
end Leb
namespace Go.Proofs.Ytjmjianilcdphaa
open Go.RowKit Leb
theorem frame_short (k : UInt8) (bs : List UInt8) (h : bs.length ≤ 1048576) : (frameB k bs).length ≤ bs.length + 9 := by
  have h1 : (uintB bs.length).length ≤ 4 := uintB_len 3 bs.length (by omega)
  rw [frameB_len]
  omega
theorem laidB_len : ∀ ps : List (UInt8 × List UInt8), (∀ p ∈ ps, p.2.length ≤ 1048576) → (laidB ps).length ≤ sizes ps + 5 * ps.length
  | [], _ => by simp [laidB]
  | p :: ps, h => by
    have h1 := laidB_len ps (fun q hq => h q (by simp [hq]))
    have h2 := frame_short (mk p.1) p.2 (h p (by simp))
    have e : laidB (p :: ps) = frameB (mk p.1) p.2 ++ laidB ps := by simp [laidB]
    rw [e, List.length_append, sizes_cons, List.length_cons]
    omega
def ci (l : List Int) : List Value := l.map (Value.int .i64)
theorem ci_len (l : List Int) : (ci l).length = l.length := by simp [ci]
theorem ci_one (l : List Int) : ∀ v ∈ ci l, v.oneCell' = true := by intro v hv; obtain ⟨b, _, rfl⟩ := List.mem_map.1 hv; rfl
theorem ci_get (l : List Int) (j : Nat) (h : j < l.length) : (ci l)[j]? = some (.int .i64 (l[j]?.getD 0)) := by simp [ci, h]
theorem ci_append (l m : List Int) : ci (l ++ m) = ci l ++ ci m := by simp [ci]
/-- A row of the call's own that holds counts. -/
def OwnN (w : World) (base : Nat) (v : Value) (l : List Int) : Prop := w.ownsRow base 3 1 v l.length (ci l)
theorem OwnN.nil (w : World) (base : Nat) : OwnN w base (.slice none 0 0) [] := World.ownsRow_nil w base 3 1
theorem OwnN.keep {w w' : World} {B : Nat} {v : Value} {l : List Int} (h : OwnN w B v l) (hk : ∀ k, v.ownBlock = some k → w'.heap[k]? = w.heap[k]?) : OwnN w' B v l := by
  refine ⟨h.1, ?_⟩
  rcases h.2 with hn | ⟨g, cap, cur, rfl, h1, h2, rest⟩
  · exact .inl hn
  · exact .inr ⟨g, cap, cur, rfl, h1, by rw [hk g rfl]; exact h2, rest⟩
theorem OwnN.below {w w' : World} {B : Nat} {v : Value} {l : List Int} (h : OwnN w B v l) (hb : After w w') : OwnN w' B v l := h.keep (fun k hk => hb.block k (World.ownsRow.lt h k hk).2)
def IntsAt (w : World) (ao : Option Addr) (l : List Int) : Prop := l ≠ [] → ∃ b o, ao = some ⟨b, o, none⟩ ∧ ∀ j, j < l.length → w.cell? ⟨b, o + j, none⟩ = some (.int .i64 (l[j]?.getD 0))
theorem IntsAt.after {w W : World} {ao : Option Addr} {l : List Int} (h : IntsAt w ao l) (hA : After w W) : IntsAt W ao l := fun hne => by
  obtain ⟨b, o, rfl, hc⟩ := h hne
  exact ⟨b, o, rfl, fun j hj => (Below.cell hA (p := ⟨b, o + j, none⟩) (block_lt_of_cell (hc j hj))).trans (hc j hj)⟩
theorem OwnN.at {w : World} {base : Nat} {v : Value} {l : List Int} (h : OwnN w base v l) : ∃ ao cap, v = .slice ao l.length cap ∧ IntsAt w ao l ∧ l.length ≤ cap := by
  have hc := fun g hg => World.ownsRow.cells (g := g) h hg
  rcases h.2 with ⟨rfl, h0⟩ | ⟨g, cap, cur, rfl, hb, hg, hnc, _, hcs, ht⟩
  · obtain rfl : l = [] := List.eq_nil_of_length_eq_zero h0
    exact ⟨none, 0, rfl, fun h => absurd rfl h, Nat.le_refl _⟩
  · refine ⟨some ⟨g, 0, none⟩, cap, rfl, fun _ => ⟨g, 0, rfl, fun j hj => ?_⟩, hnc⟩
    have := hc g rfl j _ (ci_get l j hj)
    rwa [Addr.add_mid] at this
theorem info3 : (Try.prog.info? 3).map (fun i => (i.zero, i.size, i.bytes)) = some (some (.int .i64 0), 1, 8) := by kernel_rfl
/-- append(own, x), x in a block of its own. -/
theorem wpList_append_count {w : World} {ops : Array Oper} {rest : List Oper} {o : Oper} {a : Act} {Q : Exit → Act → World → Prop} (hgd : o.guard = none) (s x : Operand)
    (ho : o.op = .call { callee := .builtin .append, args := #[s, x], argTypes := #[49, 49] })
    (base : Nat) (v : Value) (l : List Int) (hs : a.eval s = v) (hown : OwnN w base v l)
    (ao : Addr) (c : Nat) (y : Int) (hx : a.eval x = .slice (some ao) 1 c) (h0 : w.cell? (ao.add 0) = some (.int .i64 y))
    (hbytes : l.length + 1 ≤ 4194304) (hbase : base ≤ w.heap.size)
    (h : ∀ v' w', OwnN w' base v' (l ++ [y]) → w.grownBy w' v.ownBlock → wpList Try.prog ops Q rest (a.put o.dst v') w') : wpList Try.prog ops Q (o :: rest) a w := by
  obtain ⟨i, hi, hz⟩ := Option.map_eq_some_iff.1 info3
  simp only [Prod.mk.injEq] at hz
  obtain ⟨hz, hsz, hby⟩ := hz
  refine wpList_append_own w hgd s x 49 ho base 3 i (.int .i64 0) 1 8 Try.underlying49 hi hz hsz hby rfl (by omega) v l.length (ci l) hs hown ao 1 c (ci [y]) hx (by simp [ci]) ?_ (ci_one _) (by unfold maxLen; omega) (by omega) hbase ?_
  · intro j u hu
    match j, hu with
    | 0, hu => simp [ci] at hu; rw [h0, hu]
    | j + 1, hu => simp [ci] at hu
  · intro v' w' h1 h2 _
    exact h v' w' (by unfold OwnN; rw [ci_append, List.length_append]; exact h1) h2
/-- Rows of unlike types are apart. -/
theorem rows_apart {w : World} {b1 b2 t1 t2 s1 s2 n1 n2 : Nat} {v1 v2 : Value} {x1 x2 : List Value} (h1 : w.ownsRow b1 t1 s1 v1 n1 x1) (h2 : w.ownsRow b2 t2 s2 v2 n2 x2) (ht : t1 ≠ t2) : v1.ownBlock = none ∨ v1.ownBlock ≠ v2.ownBlock := by
  rcases h2.2 with ⟨rfl, _⟩ | ⟨g, cap, cur, rfl, _, hg, _⟩
  · cases hb : v1.ownBlock with
    | none => exact .inl rfl
    | some k => exact .inr (by simp [Value.ownBlock])
  · rcases h1.2 with ⟨rfl, _⟩ | ⟨g', cap', cur', rfl, _, hg', _⟩
    · exact .inl rfl
    · refine .inr (fun he => ?_)
      have : g' = g := by simpa [Value.ownBlock] using he
      subst this
      rw [hg] at hg'
      simp only [Option.some.injEq, Obj.cells.injEq] at hg'
      exact ht hg'.2.1.symm
section
variable {o : Oper} {a : Act} {x y : Operand} {w : World}
theorem size52 : (Try.prog.info? 52).map (·.size) = some 2 := by kernel_rfl
theorem x_indexP {b off n c j : Nat} (hop : o.op = .indexAddr 47 x y) (hx : a.eval x = .slice (some ⟨b, off, none⟩) n c) (hy : a.eval y = .int .i64 (j : Int)) (hj : j < n) : (execOp a.eval o).run Try.prog w = .ok (.value (.pointer (some ⟨b, off + j * 2, none⟩))) w := by
  obtain ⟨i, hi, hz⟩ := Option.map_eq_some_iff.1 size52
  unfold execOp
  simp only [hop, hx, hy]
  simp [go_sem, Try.underlying47, hi, hz, hj, sizeOf, typeInfo, Addr.add]
theorem x_fieldP0 {g p : Nat} (hop : o.op = .fieldAddr 52 x 0) (hx : a.eval x = .pointer (some ⟨g, p, none⟩)) : (execOp a.eval o).run Try.prog w = .ok (.value (.pointer (some ⟨g, p, none⟩))) w := by
  unfold execOp
  simp only [hop, hx]
  simp [go_sem]
theorem x_fieldP1 {g p : Nat} (hop : o.op = .fieldAddr 52 x 1) (hx : a.eval x = .pointer (some ⟨g, p, none⟩)) : (execOp a.eval o).run Try.prog w = .ok (.value (.pointer (some ⟨g, p + 1, none⟩))) w := by
  unfold execOp
  simp only [hop, hx]
  simp [go_sem]
theorem x_max {k : UInt8} (hop : o.op = .call { callee := .builtin .max, args := #[x, .const (.int .u8 1)], argTypes := #[5, 5] }) (hx : a.eval x = .int .u8 (k.toNat : Int)) : (execOp a.eval o).run Try.prog w = .ok (.value (.int .u8 ((mk k).toNat : Int))) w := by
  have e : (if (1 : Int) > (k.toNat : Int) then (1 : Int) else (k.toNat : Int)) = ((mk k).toNat : Int) := by
    unfold mk
    by_cases hk : k = 0
    · subst hk; rfl
    · have : k.toNat ≠ 0 := fun h => hk (UInt8.toNat_inj.1 (by simpa using h))
      rw [if_neg hk, if_neg (by omega)]
  have hc : a.eval (.const (.int .u8 1)) = .int .u8 1 := rfl
  unfold execOp
  simp only [hop, resolve, invoke, builtin, Sem.run_bind, Sem.run_pure, Result.andThen_ok, List.map_toArray, List.map_cons, List.map_nil, hx, hc]
  rw [← e]
  rfl
end
end Go.Proofs.Ytjmjianilcdphaa