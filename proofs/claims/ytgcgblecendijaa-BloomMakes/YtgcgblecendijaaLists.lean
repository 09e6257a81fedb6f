/-
  LISTS OF HASHES: where they lie; a row of hashes of the call's own.
-/
import Derived.Test.YtgcgblecendijaaLess
import Derived.Deep.MidRow
import Derived.Great.BuildSlice
namespace Go.Proofs.Ytgcgblecendijaa
open Go.RowKit
abbrev Hs := List UInt8
def All32 (l : List Hs) : Prop := ∀ h ∈ l, h.length = 32
theorem All32.nil : All32 [] := fun _ h => by simp at h
theorem All32.cons {h : Hs} {l : List Hs} (hh : h.length = 32) (hl : All32 l) : All32 (h :: l) := fun x hx => by
  rcases List.mem_cons.1 hx with rfl | hx
  · exact hh
  · exact hl x hx
theorem All32.tail {h : Hs} {l : List Hs} (hl : All32 (h :: l)) : All32 l := fun x hx => hl x (by simp [hx])
theorem All32.app {l m : List Hs} (hl : All32 l) (hm : All32 m) : All32 (l ++ m) := fun x hx => by
  rcases List.mem_append.1 hx with h | h
  · exact hl x h
  · exact hm x h
theorem All32.at {l : List Hs} (hl : All32 l) {j : Nat} {h : Hs} (hj : l[j]? = some h) : h.length = 32 := hl h (List.mem_of_getElem? hj)
theorem flat_len : ∀ {l : List Hs}, All32 l → l.flatten.length = l.length * 32
  | [], _ => rfl
  | h :: l, hl => by
    rw [List.flatten_cons, List.length_append, hl h (by simp), flat_len hl.tail, List.length_cons]; omega
theorem flat_take : ∀ {l : List Hs} (j : Nat), All32 l → l.flatten.take (j * 32) = (l.take j).flatten
  | [], j, _ => by simp
  | h :: l, 0, _ => by simp
  | h :: l, j + 1, hl => by
    have h0 := hl h (by simp)
    rw [List.flatten_cons, List.take_append, List.take_succ_cons, List.flatten_cons, List.take_of_length_le (by omega), h0, show (j + 1) * 32 - 32 = j * 32 by omega, flat_take j hl.tail]
theorem flat_drop : ∀ {l : List Hs} (j : Nat), All32 l → l.flatten.drop (j * 32) = (l.drop j).flatten
  | [], j, _ => by simp
  | h :: l, 0, _ => by simp
  | h :: l, j + 1, hl => by
    have h0 := hl h (by simp)
    rw [List.flatten_cons, List.drop_append, List.drop_succ_cons, List.drop_of_length_le (by omega), h0, show (j + 1) * 32 - 32 = j * 32 by omega, flat_drop j hl.tail, List.nil_append]
theorem flat_at : ∀ {l : List Hs}, All32 l → ∀ {j : Nat} {h : Hs}, l[j]? = some h → ∀ k, k < 32 → l.flatten.getD (j * 32 + k) 0 = h.getD k 0
  | [], _, _, _, hj, _, _ => by simp at hj
  | x :: l, hl, 0, h, hj, k, hk => by
    obtain rfl : x = h := by simpa using hj
    have h0 := hl x (by simp)
    rw [List.flatten_cons]
    simp only [Nat.zero_mul, Nat.zero_add, List.getD]
    rw [List.getElem?_append_left (by omega)]
  | x :: l, hl, j + 1, h, hj, k, hk => by
    have h0 := hl x (by simp)
    have ih := flat_at hl.tail (j := j) (by simpa using hj) k hk
    rw [← ih, List.flatten_cons]
    simp only [List.getD]
    rw [List.getElem?_append_right (by omega), h0]
    congr 2; omega
/-- The hashes lie at a slice's head. -/
def HsAt (w : World) (ao : Option Addr) (l : List Hs) : Prop := BytesAt w ao l.flatten
theorem HsAt.after {w w' : World} {ao : Option Addr} {l : List Hs} (h : HsAt w ao l) (ha : After w w') : HsAt w' ao l := BytesAt.after h ha
theorem flat_ne {l : List Hs} (h32 : All32 l) (h : l ≠ []) : l.flatten ≠ [] := fun e => by
  have := congrArg List.length e
  rw [flat_len h32] at this
  simp only [List.length_nil] at this
  exact h (List.eq_nil_of_length_eq_zero (by omega))
theorem HsAt.get {w : World} {ao : Option Addr} {l : List Hs} (h : HsAt w ao l) (h32 : All32 l) (hne : l ≠ []) : ∃ b o, ao = some ⟨b, o, none⟩ ∧ ∀ j x, l[j]? = some x → w.rangeAt b (o + j * 32) (c8 x) := by
  obtain ⟨b, o, e, hc⟩ := h (flat_ne h32 hne)
  refine ⟨b, o, e, fun j x hj k v hv => ?_⟩
  have hx := h32.at hj
  have hjl := (List.getElem?_eq_some_iff.1 hj).1
  have hk : k < 32 := by have := (List.getElem?_eq_some_iff.1 hv).1; rw [c8_len] at this; omega
  rw [c8_get x k (by omega)] at hv
  have := hc (j * 32 + k) (by rw [flat_len h32]; omega)
  rw [flat_at h32 hj k hk] at this
  rw [Nat.add_assoc, this, hv]
theorem range_after {w w' : World} {b o : Nat} {cs : List Value} (h : w.rangeAt b o cs) (ha : After w w') : w'.rangeAt b o cs := fun j v hv => (Below.cell ha (p := ⟨b, o + j, none⟩) (World.block_lt_of_cell? w _ (h j v hv))).trans (h j v hv)
/-- A hash as a value. -/
def hv (h : Hs) : Value := .agg (c8 h).toArray
theorem size24' {h : Hs} (hh : h.length = 32) : (Try.prog.info? 29).map (·.size) = some (c8 h).length := by rw [size24, c8_len, hh]
theorem size24a {h : Hs} (hh : h.length = 32) : (Try.prog.info? 29).map (·.size) = some (c8 h).toArray.size := by rw [size24]; simp [c8_len, hh]
theorem info24 : ∃ i z, Try.prog.info? 29 = some i ∧ i.zero = some z ∧ i.size = 32 ∧ i.bytes = 32 ∧ z.cells.size = 32 ∧ z.cells = Array.replicate 32 (.int .u8 0) := by
  have h : (Try.prog.info? 29).map (fun i => (i.zero.map (·.cells), i.size, i.bytes)) = some (some (Array.replicate 32 (.int .u8 0)), 32, 32) := by kernel_rfl
  obtain ⟨i, hi, hz⟩ := Option.map_eq_some_iff.1 h
  simp only [Prod.mk.injEq] at hz
  obtain ⟨hz, hs, hb⟩ := hz
  obtain ⟨z, hz1, hz2⟩ := Option.map_eq_some_iff.1 hz
  exact ⟨i, z, hi, hz1, hs, hb, by rw [hz2]; rfl, hz2⟩
theorem hs_one (h : Hs) : (c8 h).toArray.all (·.oneCell') = true := all_oneCell_toArray (c8_one h)
/-- A row of hashes of the call's own. -/
def OwnH (w : World) (base : Nat) (v : Value) (l : List Hs) : Prop := w.ownsRow base 29 32 v l.length (c8 l.flatten)
theorem OwnH.nil (w : World) (base : Nat) : OwnH w base (.slice none 0 0) [] := World.ownsRow_nil w base 29 32
theorem OwnH.at {w : World} {base : Nat} {v : Value} {l : List Hs} (h : OwnH w base v l) : ∃ ao cap, v = .slice ao l.length cap ∧ HsAt w ao l ∧ l.length ≤ cap ∧ (∀ a, ao = some a → base ≤ a.block ∧ a.block < w.heap.size) ∧ (ao = none → cap = 0) := by
  rcases h.2 with ⟨hv, h0⟩ | ⟨g, cap, cur, hv, hb, hg, hnc, _, hcs, ht⟩
  · have : l = [] := List.eq_nil_of_length_eq_zero h0
    subst this
    exact ⟨none, 0, hv, fun h => absurd rfl h, Nat.le_refl _, fun a ha => (by cases ha), fun _ => rfl⟩
  · subst hv
    have hl := h.1
    rw [c8_len] at hl
    refine ⟨_, cap, rfl, fun _ => ⟨g, 0, rfl, fun j hj => ?_⟩, hnc, fun a ha => by cases ha; exact ⟨hb, (World.ownsRow.lt h g rfl).2⟩, fun h => by cases h⟩
    rw [Nat.zero_add, World.ownsRow.cellAt h j (by omega), c8_get _ j hj]
theorem OwnH.lt {w : World} {base : Nat} {v : Value} {l : List Hs} (h : OwnH w base v l) : ∀ k, v.ownBlock = some k → base ≤ k ∧ k < w.heap.size := World.ownsRow.lt h
theorem OwnH.same {w w' : World} {base : Nat} {v : Value} {l : List Hs} (h : OwnH w base v l) (hh : ∀ g, v.ownBlock = some g → w'.heap[g]? = w.heap[g]?) : OwnH w' base v l := by
  refine ⟨h.1, ?_⟩
  rcases h.2 with hn | ⟨g, cap, cur, rfl, q1, q2, rest⟩
  · exact .inl hn
  · exact .inr ⟨g, cap, cur, rfl, q1, by rw [hh g rfl]; exact q2, rest⟩
theorem OwnH.after {w w' : World} {base : Nat} {v : Value} {l : List Hs} (h : OwnH w base v l) (ha : After w w') : OwnH w' base v l := h.same (fun g hg => ha.block g (h.lt g hg).2)
theorem OwnH.mono {w : World} {base base' : Nat} {v : Value} {l : List Hs} (h : OwnH w base v l) (hb : base' ≤ base) : OwnH w base' v l := by
  refine ⟨h.1, ?_⟩
  rcases h.2 with hn | ⟨g, cap, cur, e, q1, rest⟩
  · exact .inl hn
  · exact .inr ⟨g, cap, cur, e, by omega, rest⟩
/-- append(own, l...), l a slice whose hashes are known, or nil. -/
theorem wpList_append_hashes {w : World} {ops : Array Oper} {rest : List Oper} {o : Oper} {a : Act} {Q : Exit → Act → World → Prop} (hgd : o.guard = none) (s x : Operand)
    (ho : o.op = .call { callee := .builtin .append, args := #[s, x], argTypes := #[22, 22] })
    (base : Nat) (v : Value) (l : List Hs) (hs : a.eval s = v) (hown : OwnH w base v l)
    (ao : Option Addr) (c : Nat) (news : List Hs) (h32 : All32 news) (k : Nat) (hk : news.length = k) (hx : a.eval x = .slice ao k c) (hnews : HsAt w ao news)
    (hbytes : (l.length + news.length) * 32 ≤ 140737488355328) (hbase : base ≤ w.heap.size)
    (h : ∀ v' w', OwnH w' base v' (l ++ news) → w.grownBy w' v.ownBlock → wpList Try.prog ops Q rest (a.put o.dst v') w') : wpList Try.prog ops Q (o :: rest) a w := by
  subst hk
  obtain ⟨i, z, hi, hz, hsz, hby, hzs, _⟩ := info24
  cases ao with
  | some ad =>
    refine wpList_append_own w hgd s x 22 ho base 29 i z 32 32 Try.underlying22 hi hz hsz hby hzs (by omega) v l.length (c8 l.flatten) hs hown ad news.length c (c8 news.flatten) hx (by rw [c8_len, flat_len h32]) ?_ (c8_one _) (by unfold maxLen; omega) hbytes hbase ?_
    · intro j u hu
      have hj := (List.getElem?_eq_some_iff.1 hu).1
      rw [c8_len] at hj
      obtain ⟨b, o, he, hc⟩ := hnews (by intro h; rw [h] at hj; simp at hj)
      cases he
      rw [c8_get _ j hj] at hu
      rw [Addr.add_mid, hc j hj, hu]
    · intro v' w' h1 h2 _
      exact h v' w' (by unfold OwnH; rw [List.flatten_append, c8_append, List.length_append]; exact h1) h2
  | none =>
    obtain rfl : news = [] := Classical.byContradiction fun hn => by obtain ⟨b, o, he, _⟩ := hnews (flat_ne h32 hn); cases he
    rw [List.append_nil] at h
    have hk := h v w hown ⟨rfl, rfl, rfl, Nat.le_refl _, fun _ _ _ => rfl⟩
    obtain ⟨ao', cap', hv, _, hle, _⟩ := hown.at
    refine wpList_plain hgd fun K hK => ?_
    have hr := run_append_nothing (P := Try.prog) w 22 22 o.type 29 i Try.underlying22 hi ao' l.length cap' hle (.slice none 0 c) (Src.ofNil w Try.underlying22 c)
    unfold Oper.wp execOp
    rw [← hv] at hr
    simp only [List.length_nil] at hx
    simp only [ho, resolve, invoke, builtin, Sem.run_bind, Sem.run_pure, Result.andThen_ok, List.map_toArray, List.map_cons, List.map_nil, hs, hx, hr]
    exact hK _ _ hk
theorem HsAt.one (w : World) (h : Hs) : HsAt (w.alloc (.cells (c8 h).toArray 29)) (some ⟨w.heap.size, 0, none⟩) [h] := fun _ =>
  ⟨w.heap.size, 0, rfl, fun j hj => by
    have hr := RowIs.new w 29 (c8 h)
    have hf : [h].flatten = h := by simp
    rw [hf] at hj ⊢
    rw [Nat.zero_add]; exact hr.cell (c8_get h j hj)⟩
end Go.Proofs.Ytgcgblecendijaa
