/-
  A ROW OF OPERATIONS OF ONE'S OWN, grown by append.
-/
import Derived.Test.YtpplnomomcdemaaBackLaw
import Derived.Maps.AppendAt
namespace Go.Proofs.Ytpplnomomcdemaa
open Go.RowKit Leb
theorem cellsOf_len : ∀ l : List Opn, (cellsOf l).length = l.length * 5
  | [] => rfl
  | x :: l => by
    show (oc x ++ cellsOf l).length = _
    rw [List.length_append, cellsOf_len l, List.length_cons]
    simp
    omega
theorem cellsOf_append : ∀ a b : List Opn, cellsOf (a ++ b) = cellsOf a ++ cellsOf b
  | [], _ => rfl
  | x :: a, b => by
    show oc x ++ cellsOf (a ++ b) = oc x ++ cellsOf a ++ cellsOf b
    rw [cellsOf_append a b, List.append_assoc]
theorem cellsOf_one : ∀ (l : List Opn) (u : Value), u ∈ cellsOf l → u.oneCell' = true
  | [], u, h => by simp [cellsOf] at h
  | x :: l, u, h => by
    rcases List.mem_append.1 (show u ∈ oc x ++ cellsOf l from h) with h | h
    · simp only [List.mem_cons, List.not_mem_nil, or_false] at h
      rcases h with rfl | rfl | rfl | rfl | rfl <;> rfl
    · exact cellsOf_one l u h
/-- A row of the call's own that holds operations. -/
def OwnO (w : World) (base : Nat) (v : Value) (l : List Opn) : Prop := w.ownsRow base 23 5 v l.length (cellsOf l)
theorem OwnO.nil (w : World) (base : Nat) : OwnO w base (.slice none 0 0) [] := World.ownsRow_nil w base 23 5
theorem OwnO.fresh (w : World) : OwnO (w.alloc (.cells #[] 23)) w.heap.size (.slice (some ⟨w.heap.size, 0, none⟩) 0 0) [] := World.ownsRow_made w #[] 0 (Nat.le_refl _) (by decide) rfl
theorem OwnO.keep {w w' : World} {B : Nat} {v : Value} {l : List Opn} (h : OwnO w B v l) (hk : ∀ k, v.ownBlock = some k → w'.heap[k]? = w.heap[k]?) : OwnO w' B v l := by
  refine ⟨h.1, ?_⟩
  rcases h.2 with hn | ⟨g, cap, cur, rfl, h1, h2, rest⟩
  · exact .inl hn
  · exact .inr ⟨g, cap, cur, rfl, h1, by rw [hk g rfl]; exact h2, rest⟩
theorem OwnO.after {w w' : World} {B : Nat} {v : Value} {l : List Opn} (h : OwnO w B v l) (ha : After w w') : OwnO w' B v l := h.keep (fun k hk => ha.block k (World.ownsRow.lt h k hk).2)
theorem OwnO.at {w : World} {base : Nat} {v : Value} {l : List Opn} (h : OwnO w base v l) : ∃ ao cap, v = .slice ao l.length cap ∧ OpsAt w ao l ∧ l.length ≤ cap ∧ (∀ a, ao = some a → base ≤ a.block ∧ a.block < w.heap.size) := by
  have hlt := World.ownsRow.lt h
  rcases h.2 with ⟨rfl, h0⟩ | ⟨g, cap, cur, rfl, hb, hg, hnc, _, hcs, ht⟩
  · obtain rfl := List.eq_nil_of_length_eq_zero h0
    exact ⟨none, 0, rfl, fun h => absurd rfl h, Nat.le_refl _, fun _ h => by cases h⟩
  · refine ⟨_, cap, rfl, fun _ => ⟨g, 0, rfl, fun j x hj i v hv => ?_⟩, hnc, fun a ha => by cases ha; exact hlt g rfl⟩
    have hjl := (List.getElem?_eq_some_iff.1 hj).1
    have hi5 : i < 5 := by have := (List.getElem?_eq_some_iff.1 hv).1; simpa using this
    rw [World.ownsRow.cellAt h _ (by omega), Nat.zero_add, cellsOf_at l j i x hj hi5, hv]
theorem info23o : (Try.prog.info? 23).map (fun i => (i.zero, i.size, i.bytes)) = some (some (.agg #[.int .i64 0, .string ⟨#[]⟩, .int .i64 0, .int .i64 0, .string ⟨#[]⟩]), 5, 56) := by kernel_rfl
theorem ops_news {w : World} {ad : Addr} {news : List Opn} (h : OpsAt w (some ad) news) : ∀ j u, (cellsOf news)[j]? = some u → w.cell? (ad.add j) = some u := by
  intro j u hu
  have hjl : j < news.length * 5 := by rw [← cellsOf_len]; exact (List.getElem?_eq_some_iff.1 hu).1
  obtain ⟨b, o, e, hc⟩ := h (fun e => by rw [e] at hjl; simp at hjl)
  cases e
  have hi : j / 5 < news.length := by omega
  have h1 := cellsOf_at news (j / 5) (j % 5) news[j / 5] (List.getElem?_eq_getElem hi) (Nat.mod_lt _ (by omega))
  rw [show j / 5 * 5 + j % 5 = j by omega, hu] at h1
  have h2 := hc (j / 5) news[j / 5] (List.getElem?_eq_getElem hi) (j % 5) u h1.symm
  rw [Addr.add_mid]
  rw [show o + j / 5 * 5 + j % 5 = o + j by omega] at h2
  exact h2
/-- append(own, l...), l a slice of operations, or nil. -/
theorem run_append_ops (w : World) (ty : TypeId) (base : Nat) (v : Value) (l : List Opn) (hown : OwnO w base v l) (ao : Option Addr) (c : Nat) (news : List Opn) (k : Nat) (hk : news.length = k) (hnews : OpsAt w ao news)
    (hbytes : (l.length + k) * 56 ≤ 140737488355328) (hbase : base ≤ w.heap.size) :
    ∃ v' w', (Builtin.append_ #[29, 29] ty #[v, .slice ao k c]).run Try.prog w = .ok v' w' ∧ OwnO w' base v' (l ++ news) ∧ w.grownBy w' v.ownBlock ∧ (v'.ownBlock = v.ownBlock ∨ v'.ownBlock = some w.heap.size) := by
  obtain ⟨i, hi, hz⟩ := Option.map_eq_some_iff.1 info23o
  simp only [Prod.mk.injEq] at hz
  obtain ⟨hz, hsz, hby⟩ := hz
  subst hk
  cases ao with
  | none =>
    obtain rfl : news = [] := Classical.byContradiction fun hn => by obtain ⟨b, o, he, _⟩ := hnews hn; cases he
    obtain ⟨ao', cap', hv, _, hle, _⟩ := hown.at
    have hr := run_append_nothing (P := Try.prog) w 29 29 ty 23 i Try.underlying29 hi ao' l.length cap' hle (.slice none 0 c) (Src.ofNil w Try.underlying29 c)
    rw [← hv] at hr
    exact ⟨v, w, hr, by rw [List.append_nil]; exact hown, ⟨rfl, rfl, rfl, Nat.le_refl _, fun _ _ _ => rfl⟩, .inl rfl⟩
  | some ad =>
    obtain ⟨v', w', hr, ho, hg, _, hat⟩ := run_append_own_at (P := Try.prog) w base 29 ty 23 i _ 5 56 Try.underlying29 hi hz hsz hby rfl (by omega) v l.length (cellsOf l) hown ad news.length c (cellsOf news) (cellsOf_len news) (ops_news hnews) (cellsOf_one news) (by unfold maxLen; omega) hbytes hbase
    exact ⟨v', w', hr, by unfold OwnO; rw [cellsOf_append, List.length_append]; exact ho, hg, hat⟩
theorem wpList_append_ops {w : World} {ops : Array Oper} {rest : List Oper} {o : Oper} {a : Act} {Q : Exit → Act → World → Prop} (hgd : o.guard = none) (s x : Operand)
    (ho : o.op = .call { callee := .builtin .append, args := #[s, x], argTypes := #[29, 29] })
    (base : Nat) (v : Value) (l : List Opn) (hs : a.eval s = v) (hown : OwnO w base v l)
    (ao : Option Addr) (c : Nat) (news : List Opn) (k : Nat) (hk : news.length = k) (hx : a.eval x = .slice ao k c) (hnews : OpsAt w ao news)
    (hbytes : (l.length + k) * 56 ≤ 140737488355328) (hbase : base ≤ w.heap.size)
    (h : ∀ v' w', OwnO w' base v' (l ++ news) → w.grownBy w' v.ownBlock → (v'.ownBlock = v.ownBlock ∨ v'.ownBlock = some w.heap.size) → wpList Try.prog ops Q rest (a.put o.dst v') w') : wpList Try.prog ops Q (o :: rest) a w := by
  obtain ⟨v', w', hr, h1, h2, h3⟩ := run_append_ops w o.type base v l hown ao c news k hk hnews hbytes hbase
  refine wpList_plain hgd fun K hK => ?_
  unfold Oper.wp execOp
  simp only [ho, resolve, invoke, builtin, Sem.run_bind, Sem.run_pure, Result.andThen_ok, List.map_toArray, List.map_cons, List.map_nil, hs, hx, hr]
  exact hK _ _ (h v' w' h1 h2 h3)
section
variable {ops : Array Oper} {Q : Exit → Act → World → Prop} {K : Act → World → Prop} {a : Act} {w : World} {oi : Oper}
theorem opVal (i d : Nat) (v : Value) (w' : World) (hi : ops[i]? = some oi) (hd : oi.dst = some d) (hw : Region.wanted oi (yielded ops a.tmps) = true)
    (hrun : (execOp a.eval oi).run Try.prog w = .ok (.value v) w') (h : K (a.put (some d) v) w') : wpOp Try.prog ops Q i K a w := by
  refine wpOp_step hi (fun K' hK => ?_)
  rw [if_pos hw]
  unfold Oper.wp
  rw [hrun]
  rw [← hd] at h
  exact hK _ _ h
theorem opAppO (i d : Nat) (s x : Operand) (base : Nat) (sl : Value) (l : List Opn) (ao : Option Addr) (k c : Nat) (news : List Opn) (hi : ops[i]? = some oi) (hd : oi.dst = some d) (ho : oi.op = .call { callee := .builtin .append, args := #[s, x], argTypes := #[29, 29] })
    (hw : Region.wanted oi (yielded ops a.tmps) = true) (hs : a.eval s = sl) (hk : news.length = k) (hx : a.eval x = .slice ao k c) (hown : OwnO w base sl l) (hat : OpsAt w ao news) (hbig : (l.length + k) * 56 ≤ 140737488355328) (hbase : base ≤ w.heap.size)
    (h : ∀ v' w', OwnO w' base v' (l ++ news) → w.grownBy w' sl.ownBlock → K (a.put (some d) v') w') : wpOp Try.prog ops Q i K a w := by
  refine wpOp_step hi (fun K' hK => ?_)
  rw [if_pos hw]
  obtain ⟨v', w', hr, h1, h2, _⟩ := run_append_ops w oi.type base sl l hown ao c news k hk hat hbig hbase
  unfold Oper.wp execOp
  simp only [ho, resolve, invoke, builtin, Sem.run_bind, Sem.run_pure, Result.andThen_ok, List.map_toArray, List.map_cons, List.map_nil, hs, hx, hr]
  have := h v' w' h1 h2
  rw [← hd] at this
  exact hK _ _ this
end
theorem ops_one (w : World) (x : Opn) : OpsAt (w.alloc (.cells (oc x).toArray 23)) (some ⟨w.heap.size, 0, none⟩) [x] := by
  have h := ops_of_row (RowIs.new w 23 (cellsOf [x]))
  have e : cellsOf [x] = oc x := List.append_nil _
  rw [e] at h
  exact h
theorem ops_lt {w : World} {g : Nat} {x : Opn} {l : List Opn} (h : OpsAt w (some ⟨g, 0, none⟩) (x :: l)) : g < w.heap.size := by
  obtain ⟨b, o, e, hc⟩ := h (by simp)
  cases e
  exact World.block_lt_of_cell? w _ (hc 0 x rfl 0 _ rfl)
theorem ops_grown {w w' : World} {g : Nat} {l : List Opn} {row : Option Nat} (h : OpsAt w (some ⟨g, 0, none⟩) l) (hg : w.grownBy w' row) (hne : some g ≠ row) : OpsAt w' (some ⟨g, 0, none⟩) l := fun hn => by
  obtain ⟨b, o, e, hc⟩ := h hn
  cases e
  exact ⟨g, 0, rfl, fun j x hj i v hv => hg.cell (hc j x hj i v hv) hne⟩
end Go.Proofs.Ytpplnomomcdemaa
