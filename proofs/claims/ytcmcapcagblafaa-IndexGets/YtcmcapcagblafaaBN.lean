/-
  BYTES THAT ARE TURNED in what was told; the laws' same (11).
-/
import Derived.Test.YtcmcapcagblafaaBK
namespace Go.Proofs.Ytcmcapcagblafaa
open Go.RowKit Dsk
attribute [local go_sem] Oper.semAt_some
/-- A row of hashes whose first n cells are bytes. -/
def BY (W : World) (b n : Nat) : Prop := ∃ cs, RowIs W b 43 cs ∧ ∀ j, j < n → ∃ c : UInt8, cs[j]? = some (.int .u8 (c.toNat : Int))
theorem row_cell {W : World} {g j : Nat} {t : TypeId} {cs : List Value} (h : RowIs W g t cs) : W.cell? ⟨g, j, none⟩ = cs[j]? := by
  unfold RowIs at h
  unfold World.cell?
  simp only [h]
  simp
theorem RowIs.setOther {W : World} {g b o : Nat} {t : TypeId} {cs : List Value} (h : RowIs W g t cs) (hb : b ≠ g) (v : Value) : RowIs (W.setCell ⟨b, o, none⟩ v) g t cs := by
  unfold RowIs; rw [Below.heap_setCell W ⟨b, o, none⟩ v g (fun e => hb e.symm)]; exact h
theorem BY.set {W : World} {b n : Nat} (h : BY W b n) (b' o : Nat) (c : UInt8) : BY (W.setCell ⟨b', o, none⟩ (.int .u8 (c.toNat : Int))) b n := by
  obtain ⟨cs, hr, hc⟩ := h
  by_cases hb : b' = b
  · subst hb
    refine ⟨_, hr.set o _, fun j hj => ?_⟩
    obtain ⟨d, hd⟩ := hc j hj
    by_cases e : o = j
    · subst e
      exact ⟨c, by rw [List.getElem?_set_self (List.getElem?_eq_some_iff.1 hd).1]⟩
    · exact ⟨d, by rw [List.getElem?_set_ne e]; exact hd⟩
  · exact ⟨cs, hr.setOther hb _, hc⟩
theorem BY.after {W W' : World} {b n : Nat} (h : BY W b n) (ha : W'.heap[b]? = W.heap[b]?) : BY W' b n := by
  obtain ⟨cs, hr, hc⟩ := h
  exact ⟨cs, by unfold RowIs; rw [ha]; exact hr, hc⟩
theorem hs_byte {l : List H} {j : Nat} {v : Value} (h : (hsL l).flatten[j]? = some v) : ∃ c : UInt8, v = .int .u8 (c.toNat : Int) := by
  obtain ⟨x, hx, hv⟩ := List.mem_flatten.1 (List.mem_of_getElem? h)
  obtain ⟨y, _, rfl⟩ := List.mem_map.1 hx
  unfold c8 at hv
  obtain ⟨c, _, rfl⟩ := List.mem_map.1 hv
  exact ⟨c, rfl⟩
theorem by_sl {W : World} {ad : Addr} {l : List H} (hs : SlAt W 32 (some ad) (hsL l)) (hr : RwAt W ad) : BY W ad.block (l.length * 32) := by
  obtain ⟨ho, hsp, cs, hrow⟩ := hr
  refine ⟨cs, hrow, fun j hj => ?_⟩
  have hlen : (hsL l).flatten.length = l.length * 32 := by rw [fl_len hs.1, hs_len]
  have hne : hsL l ≠ [] := fun e => by rw [e] at hlen; simp at hlen; omega
  obtain ⟨b, o, e, hra⟩ := hs.2 hne
  cases e
  simp only at ho
  subst ho
  have hj' : j < (hsL l).flatten.length := by omega
  have hv := List.getElem?_eq_getElem hj'
  obtain ⟨c, hc⟩ := hs_byte hv
  have h1 := hra j _ hv
  rw [row_cell hrow, Nat.zero_add, hc] at h1
  exact ⟨c, h1⟩
theorem by_of {W : World} {x : Bx} (h : BxAt W x) {ad : Addr} (e : x.a = some ad) (hr : RwAt W ad) : BY W ad.block (x.l.length * 32) := by_sl (e ▸ h.sl) hr
section
variable {oi : Oper} {a : Act} {w : World}
theorem x_st5 {x y : Operand} {g p : Nat} {v : Int} {u : Value} (hop : oi.op = .store 5 x y) (hx : a.eval x = .pointer (some ⟨g, p, none⟩)) (hy : a.eval y = .int .u8 v) (hc : w.cell? ⟨g, p, none⟩ = some u) (hf : w.frozen? ⟨g, p, none⟩ = false) : (execOp a.eval oi).run Try.prog w = .ok .skip (w.setCell ⟨g, p, none⟩ (.int .u8 v)) := by
  unfold execOp
  simp only [hop, hx, hy]
  simp [go_sem, hc, hf, Instr.storeAt, Instr.sureAddr]
theorem x_add5 {x : Operand} {c : UInt8} (hop : oi.op = .binOp .add 5 x (.const (.int .u8 1)) 5) (hx : a.eval x = .int .u8 (c.toNat : Int)) : (execOp a.eval oi).run Try.prog w = .ok (.value (.int .u8 ((c + 1).toNat : Int))) w := by
  have e : a.eval (.const (.int .u8 1)) = .int .u8 1 := rfl
  have h1 : ((c + 1).toNat : Int) = ((c.toNat : Int) + 1) % 256 := by
    rw [UInt8.toNat_add]
    have : (1 : UInt8).toNat = 1 := rfl
    rw [this]; omega
  unfold execOp
  simp only [hop, hx, e]
  rw [h1]
  simp [go_sem, IntKind.wrap, IntKind.bits, IntKind.signed]
end
theorem by_frozen {W : World} {b n o : Nat} (h : BY W b n) : W.frozen? ⟨b, o, none⟩ = false := by
  obtain ⟨cs, hr, _⟩ := h
  exact frozen_of_row W b o cs.toArray 43 hr
theorem by_cell {W : World} {b n o : Nat} (h : BY W b n) (ho : o < n) : ∃ c : UInt8, W.cell? ⟨b, o, none⟩ = some (.int .u8 (c.toNat : Int)) := by
  obtain ⟨cs, hr, hc⟩ := h
  obtain ⟨c, h1⟩ := hc o ho
  exact ⟨c, by rw [row_cell hr]; exact h1⟩
/-- Branches that were told, whose bytes may have been turned. -/
structure Mu (w : World) (gl : Nat) (cl : List Value) (X : List Bx) (wr : World) : Prop where
  aft : After w wr
  row : RowIs wr gl 65 cl
  each : ∀ x ∈ X, ∀ ad, x.a = some ad → ad.off = 0 ∧ ad.spot = none ∧ w.heap.size ≤ ad.block ∧ BY wr ad.block (x.l.length * 32)
theorem Mu.drew {w wr : World} {gl : Nat} {cl : List Value} {X : List Bx} (h : Mu w gl cl X wr) : Mu w gl cl X wr.drew := ⟨h.aft.drew, h.row, h.each⟩
theorem Mu.set {w wr : World} {gl : Nat} {cl : List Value} {X : List Bx} (h : Mu w gl cl X wr) {x : Bx} (hx : x ∈ X) {ad : Addr} (e : x.a = some ad) (o : Nat) (c : UInt8) : Mu w gl cl X (wr.setCell ⟨ad.block, o, none⟩ (.int .u8 (c.toNat : Int))) := by
  obtain ⟨_, _, hge, hby⟩ := h.each x hx ad e
  have hne : ad.block ≠ gl := fun e => by
    obtain ⟨cs, hr, _⟩ := hby
    rw [e] at hr
    exact absurd (hr.ty h.row).1 (by decide)
  refine ⟨?_, h.row.setOther hne _, fun y hy ad' e' => ?_⟩
  · exact Below.trans h.aft ((KeptF.set (F := fun b => b = ad.block) wr ⟨ad.block, o, none⟩ (.int .u8 (c.toNat : Int)) rfl).below h.aft.size (fun x hx => by rw [hx]; exact hge))
  · obtain ⟨k1, k2, k3, k4⟩ := h.each y hy ad' e'
    exact ⟨k1, k2, k3, k4.set _ _ _⟩
theorem bs_cell {X : List Bx} {i : Nat} {x : Bx} {cl : List Value} {m : Nat} (ht : cl.take m = (bsL X).flatten) (hx : X[i]? = some x) : cl[i * 2]? = some (.string (strOf x.nm)) ∧ cl[i * 2 + 1]? = some x.v := by
  have key : ∀ j v, (brc x)[j]? = some v → cl[i * 2 + j]? = some v := fun j v hv => by
    have h1 := fl_get (uni_bs X) (bs_get hx) hv
    rw [← ht, List.getElem?_take] at h1
    split at h1
    · exact h1
    · cases h1
  exact ⟨key 0 _ rfl, key 1 _ rfl⟩
end Go.Proofs.Ytcmcapcagblafaa
