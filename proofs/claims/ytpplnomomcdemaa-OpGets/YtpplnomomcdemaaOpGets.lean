/-
  PROVED: for every slice of bytes that a call of stemmalaw07.OpGets is handed, the call returns true and the slice reads afterwards as it read before: any bytes are the operations that the document says, or are none; they stay as they are. CONDITIONS: none; no input is left out.
-/
import Derived.Test.YtpplnomomcdemaaBackLaw
import Derived.Maps.AppendAt
import Derived.Test.YtpplnomomcdemaaMay
import Derived.Test.YtpplnomomcdemaaOpenO
namespace Go.Proofs.Ytpplnomomcdemaa
open Go.RowKit Leb
theorem cellsOf_len : ∀ l : List Opn, (cellsOf l).length = l.length * 5
  | [] => rfl
  | x :: l => by
    show (oc x ++ cellsOf l).length = _
    rw [List.length_append, cellsOf_len l, List.length_cons]
    simp
    omega
theorem cellsOf_append : ∀ a b : List Opn, cellsOf (a ++ b) = cellsOf a ++ cellsOf b
  | [], _ => rfl
  | x :: a, b => by
    show oc x ++ cellsOf (a ++ b) = oc x ++ cellsOf a ++ cellsOf b
    rw [cellsOf_append a b, List.append_assoc]
theorem cellsOf_one : ∀ (l : List Opn) (u : Value), u ∈ cellsOf l → u.oneCell' = true
  | [], u, h => by simp [cellsOf] at h
  | x :: l, u, h => by
    rcases List.mem_append.1 (show u ∈ oc x ++ cellsOf l from h) with h | h
    · simp only [List.mem_cons, List.not_mem_nil, or_false] at h
      rcases h with rfl | rfl | rfl | rfl | rfl <;> rfl
    · exact cellsOf_one l u h
/-- A row of the call's own that holds operations. -/
def OwnO (w : World) (base : Nat) (v : Value) (l : List Opn) : Prop := w.ownsRow base 23 5 v l.length (cellsOf l)
theorem OwnO.nil (w : World) (base : Nat) : OwnO w base (.slice none 0 0) [] := World.ownsRow_nil w base 23 5
theorem OwnO.fresh (w : World) : OwnO (w.alloc (.cells #[] 23)) w.heap.size (.slice (some ⟨w.heap.size, 0, none⟩) 0 0) [] := World.ownsRow_made w #[] 0 (Nat.le_refl _) (by decide) rfl
theorem OwnO.keep {w w' : World} {B : Nat} {v : Value} {l : List Opn} (h : OwnO w B v l) (hk : ∀ k, v.ownBlock = some k → w'.heap[k]? = w.heap[k]?) : OwnO w' B v l := by
  refine ⟨h.1, ?_⟩
  rcases h.2 with hn | ⟨g, cap, cur, rfl, h1, h2, rest⟩
  · exact .inl hn
  · exact .inr ⟨g, cap, cur, rfl, h1, by rw [hk g rfl]; exact h2, rest⟩
theorem OwnO.after {w w' : World} {B : Nat} {v : Value} {l : List Opn} (h : OwnO w B v l) (ha : After w w') : OwnO w' B v l := h.keep (fun k hk => ha.block k (World.ownsRow.lt h k hk).2)
theorem OwnO.at {w : World} {base : Nat} {v : Value} {l : List Opn} (h : OwnO w base v l) : ∃ ao cap, v = .slice ao l.length cap ∧ OpsAt w ao l ∧ l.length ≤ cap ∧ (∀ a, ao = some a → base ≤ a.block ∧ a.block < w.heap.size) := by
  have hlt := World.ownsRow.lt h
  rcases h.2 with ⟨rfl, h0⟩ | ⟨g, cap, cur, rfl, hb, hg, hnc, _, hcs, ht⟩
  · obtain rfl := List.eq_nil_of_length_eq_zero h0
    exact ⟨none, 0, rfl, fun h => absurd rfl h, Nat.le_refl _, fun _ h => by cases h⟩
  · refine ⟨_, cap, rfl, fun _ => ⟨g, 0, rfl, fun j x hj i v hv => ?_⟩, hnc, fun a ha => by cases ha; exact hlt g rfl⟩
    have hjl := (List.getElem?_eq_some_iff.1 hj).1
    have hi5 : i < 5 := by have := (List.getElem?_eq_some_iff.1 hv).1; simpa using this
    rw [World.ownsRow.cellAt h _ (by omega), Nat.zero_add, cellsOf_at l j i x hj hi5, hv]
theorem info23o : (Try.prog.info? 23).map (fun i => (i.zero, i.size, i.bytes)) = some (some (.agg #[.int .i64 0, .string ⟨#[]⟩, .int .i64 0, .int .i64 0, .string ⟨#[]⟩]), 5, 56) := by kernel_rfl
theorem ops_news {w : World} {ad : Addr} {news : List Opn} (h : OpsAt w (some ad) news) : ∀ j u, (cellsOf news)[j]? = some u → w.cell? (ad.add j) = some u := by
  intro j u hu
  have hjl : j < news.length * 5 := by rw [← cellsOf_len]; exact (List.getElem?_eq_some_iff.1 hu).1
  obtain ⟨b, o, e, hc⟩ := h (fun e => by rw [e] at hjl; simp at hjl)
  cases e
  have hi : j / 5 < news.length := by omega
  have h1 := cellsOf_at news (j / 5) (j % 5) news[j / 5] (List.getElem?_eq_getElem hi) (Nat.mod_lt _ (by omega))
  rw [show j / 5 * 5 + j % 5 = j by omega, hu] at h1
  have h2 := hc (j / 5) news[j / 5] (List.getElem?_eq_getElem hi) (j % 5) u h1.symm
  rw [Addr.add_mid]
  rw [show o + j / 5 * 5 + j % 5 = o + j by omega] at h2
  exact h2
/-- append(own, l...), l a slice of operations, or nil. -/
theorem run_append_ops (w : World) (ty : TypeId) (base : Nat) (v : Value) (l : List Opn) (hown : OwnO w base v l) (ao : Option Addr) (c : Nat) (news : List Opn) (k : Nat) (hk : news.length = k) (hnews : OpsAt w ao news)
    (hbytes : (l.length + k) * 56 ≤ 140737488355328) (hbase : base ≤ w.heap.size) :
    ∃ v' w', (Builtin.append_ #[29, 29] ty #[v, .slice ao k c]).run Try.prog w = .ok v' w' ∧ OwnO w' base v' (l ++ news) ∧ w.grownBy w' v.ownBlock ∧ (v'.ownBlock = v.ownBlock ∨ v'.ownBlock = some w.heap.size) := by
  obtain ⟨i, hi, hz⟩ := Option.map_eq_some_iff.1 info23o
  simp only [Prod.mk.injEq] at hz
  obtain ⟨hz, hsz, hby⟩ := hz
  subst hk
  cases ao with
  | none =>
    obtain rfl : news = [] := Classical.byContradiction fun hn => by obtain ⟨b, o, he, _⟩ := hnews hn; cases he
    obtain ⟨ao', cap', hv, _, hle, _⟩ := hown.at
    have hr := run_append_nothing (P := Try.prog) w 29 29 ty 23 i Try.underlying29 hi ao' l.length cap' hle (.slice none 0 c) (Src.ofNil w Try.underlying29 c)
    rw [← hv] at hr
    exact ⟨v, w, hr, by rw [List.append_nil]; exact hown, ⟨rfl, rfl, rfl, Nat.le_refl _, fun _ _ _ => rfl⟩, .inl rfl⟩
  | some ad =>
    obtain ⟨v', w', hr, ho, hg, _, hat⟩ := run_append_own_at (P := Try.prog) w base 29 ty 23 i _ 5 56 Try.underlying29 hi hz hsz hby rfl (by omega) v l.length (cellsOf l) hown ad news.length c (cellsOf news) (cellsOf_len news) (ops_news hnews) (cellsOf_one news) (by unfold maxLen; omega) hbytes hbase
    exact ⟨v', w', hr, by unfold OwnO; rw [cellsOf_append, List.length_append]; exact ho, hg, hat⟩
theorem wpList_append_ops {w : World} {ops : Array Oper} {rest : List Oper} {o : Oper} {a : Act} {Q : Exit → Act → World → Prop} (hgd : o.guard = none) (s x : Operand)
    (ho : o.op = .call { callee := .builtin .append, args := #[s, x], argTypes := #[29, 29] })
    (base : Nat) (v : Value) (l : List Opn) (hs : a.eval s = v) (hown : OwnO w base v l)
    (ao : Option Addr) (c : Nat) (news : List Opn) (k : Nat) (hk : news.length = k) (hx : a.eval x = .slice ao k c) (hnews : OpsAt w ao news)
    (hbytes : (l.length + k) * 56 ≤ 140737488355328) (hbase : base ≤ w.heap.size)
    (h : ∀ v' w', OwnO w' base v' (l ++ news) → w.grownBy w' v.ownBlock → (v'.ownBlock = v.ownBlock ∨ v'.ownBlock = some w.heap.size) → wpList Try.prog ops Q rest (a.put o.dst v') w') : wpList Try.prog ops Q (o :: rest) a w := by
  obtain ⟨v', w', hr, h1, h2, h3⟩ := run_append_ops w o.type base v l hown ao c news k hk hnews hbytes hbase
  refine wpList_plain hgd fun K hK => ?_
  unfold Oper.wp execOp
  simp only [ho, resolve, invoke, builtin, Sem.run_bind, Sem.run_pure, Result.andThen_ok, List.map_toArray, List.map_cons, List.map_nil, hs, hx, hr]
  exact hK _ _ (h v' w' h1 h2 h3)
section
variable {ops : Array Oper} {Q : Exit → Act → World → Prop} {K : Act → World → Prop} {a : Act} {w : World} {oi : Oper}
theorem opVal (i d : Nat) (v : Value) (w' : World) (hi : ops[i]? = some oi) (hd : oi.dst = some d) (hw : Region.wanted oi (yielded ops a.tmps) = true)
    (hrun : (execOp a.eval oi).run Try.prog w = .ok (.value v) w') (h : K (a.put (some d) v) w') : wpOp Try.prog ops Q i K a w := by
  refine wpOp_step hi (fun K' hK => ?_)
  rw [if_pos hw]
  unfold Oper.wp
  rw [hrun]
  rw [← hd] at h
  exact hK _ _ h
theorem opAppO (i d : Nat) (s x : Operand) (base : Nat) (sl : Value) (l : List Opn) (ao : Option Addr) (k c : Nat) (news : List Opn) (hi : ops[i]? = some oi) (hd : oi.dst = some d) (ho : oi.op = .call { callee := .builtin .append, args := #[s, x], argTypes := #[29, 29] })
    (hw : Region.wanted oi (yielded ops a.tmps) = true) (hs : a.eval s = sl) (hk : news.length = k) (hx : a.eval x = .slice ao k c) (hown : OwnO w base sl l) (hat : OpsAt w ao news) (hbig : (l.length + k) * 56 ≤ 140737488355328) (hbase : base ≤ w.heap.size)
    (h : ∀ v' w', OwnO w' base v' (l ++ news) → w.grownBy w' sl.ownBlock → K (a.put (some d) v') w') : wpOp Try.prog ops Q i K a w := by
  refine wpOp_step hi (fun K' hK => ?_)
  rw [if_pos hw]
  obtain ⟨v', w', hr, h1, h2, _⟩ := run_append_ops w oi.type base sl l hown ao c news k hk hat hbig hbase
  unfold Oper.wp execOp
  simp only [ho, resolve, invoke, builtin, Sem.run_bind, Sem.run_pure, Result.andThen_ok, List.map_toArray, List.map_cons, List.map_nil, hs, hx, hr]
  have := h v' w' h1 h2
  rw [← hd] at this
  exact hK _ _ this
end
theorem ops_one (w : World) (x : Opn) : OpsAt (w.alloc (.cells (oc x).toArray 23)) (some ⟨w.heap.size, 0, none⟩) [x] := by
  have h := ops_of_row (RowIs.new w 23 (cellsOf [x]))
  have e : cellsOf [x] = oc x := List.append_nil _
  rw [e] at h
  exact h
theorem ops_lt {w : World} {g : Nat} {x : Opn} {l : List Opn} (h : OpsAt w (some ⟨g, 0, none⟩) (x :: l)) : g < w.heap.size := by
  obtain ⟨b, o, e, hc⟩ := h (by simp)
  cases e
  exact World.block_lt_of_cell? w _ (hc 0 x rfl 0 _ rfl)
theorem ops_grown {w w' : World} {g : Nat} {l : List Opn} {row : Option Nat} (h : OpsAt w (some ⟨g, 0, none⟩) l) (hg : w.grownBy w' row) (hne : some g ≠ row) : OpsAt w' (some ⟨g, 0, none⟩) l := fun hn => by
  obtain ⟨b, o, e, hc⟩ := h hn
  cases e
  exact ⟨g, 0, rfl, fun j x hj i v hv => hg.cell (hc j x hj i v hv) hne⟩
end Go.Proofs.Ytpplnomomcdemaa

namespace Go.Proofs.Ytpplnomomcdemaa
open Go.RowKit Leb
/-- A row: what its cells are, and what they hold. -/
structure Rw where
  e : TypeId
  size : Nat
  v : Value
  n : Nat
  xs : List Value
/-- Rows of one's own, each in its own block. -/
structure Fam (w : World) (base : Nat) (rows : List Rw) : Prop where
  own : ∀ (k : Nat) (r : Rw), rows[k]? = some r → w.ownsRow base r.e r.size r.v r.n r.xs
  apart : ∀ (j k : Nat) (r s : Rw), rows[j]? = some r → rows[k]? = some s → j ≠ k → ∀ g, r.v.ownBlock = some g → s.v.ownBlock ≠ some g
theorem Fam.after {w w' : World} {base : Nat} {rows : List Rw} (h : Fam w base rows) (ha : After w w') : Fam w' base rows :=
  ⟨fun k r hr => by
    have h1 := h.own k r hr
    refine ⟨h1.1, ?_⟩
    rcases h1.2 with hn | ⟨g, cap, cur, hv, h2, h3, rest⟩
    · exact .inl hn
    · exact .inr ⟨g, cap, cur, hv, h2, by rw [ha.block g (World.ownsRow.lt h1 g (by rw [hv]; rfl)).2]; exact h3, rest⟩, h.apart⟩
theorem Fam.grow {w w' : World} {base : Nat} {rows : List Rw} (h : Fam w base rows) {k : Nat} {r : Rw} (hr : rows[k]? = some r) {v' : Value} {n' : Nat} {xs' : List Value} (ho : w'.ownsRow base r.e r.size v' n' xs') (hg : w.grownBy w' r.v.ownBlock)
    (hat : v'.ownBlock = r.v.ownBlock ∨ v'.ownBlock = some w.heap.size) : Fam w' base (rows.set k ⟨r.e, r.size, v', n', xs'⟩) := by
  have hk : k < rows.length := (List.getElem?_eq_some_iff.1 hr).1
  have old : ∀ (j : Nat) (s : Rw), j ≠ k → (rows.set k ⟨r.e, r.size, v', n', xs'⟩)[j]? = some s → rows[j]? = some s := fun j s hj hs => by rwa [List.getElem?_set_ne (Ne.symm hj)] at hs
  have new : ∀ (s : Rw), (rows.set k ⟨r.e, r.size, v', n', xs'⟩)[k]? = some s → s = ⟨r.e, r.size, v', n', xs'⟩ := fun s hs => by rw [List.getElem?_set_self hk] at hs; exact (Option.some.inj hs).symm
  refine ⟨fun j s hs => ?_, fun i j s t hs ht hij g hgs hgt => ?_⟩
  · by_cases hj : j = k
    · subst hj; rw [new s hs]; exact ho
    · have h1 := old j s hj hs
      refine (h.own j s h1).kept hg ?_
      cases hb : s.v.ownBlock with
      | none => exact .inl rfl
      | some g => exact .inr (fun e => h.apart j k s r h1 hr hj g hb (by rw [← e]))
  · have side : ∀ (j : Nat) (s : Rw), j ≠ k → (rows.set k ⟨r.e, r.size, v', n', xs'⟩)[j]? = some s → ∀ g, s.v.ownBlock = some g → v'.ownBlock ≠ some g := fun j s hj hs g hb hv => by
      have h1 := old j s hj hs
      rcases hat with e | e
      · exact h.apart j k s r h1 hr hj g hb (by rw [← e]; exact hv)
      · have := (World.ownsRow.lt (h.own j s h1) g hb).2
        rw [e] at hv
        cases hv
        omega
    by_cases hi : i = k
    · subst hi
      rw [new s hs] at hgs
      exact side j t (Ne.symm hij) ht g hgt hgs
    · by_cases hj : j = k
      · subst hj
        rw [new t ht] at hgt
        exact side i s hi hs g hgs hgt
      · exact h.apart i j s t (old i s hi hs) (old j t hj ht) hij g hgs hgt
theorem wpList_append_fam {w : World} {ops : Array Oper} {rest : List Oper} {o : Oper} {a : Act} {Q : Exit → Act → World → Prop} (hgd : o.guard = none) (s x : Operand) (t : TypeId)
    (ho : o.op = .call { callee := .builtin .append, args := #[s, x], argTypes := #[t, t] }) {base : Nat} {rows : List Rw} (k : Nat) (r : Rw) (hr : rows[k]? = some r) (hF : Fam w base rows)
    (z : Value) (bytes : Nat) (ht : Try.prog.underlying t = some (.slice r.e)) (hinfo : (Try.prog.info? r.e).map (fun i => (i.zero, i.size, i.bytes)) = some (some z, r.size, bytes)) (hzs : z.cells.size = r.size) (hsz : 0 < r.size)
    (hs : a.eval s = r.v) (ad : Addr) (m c : Nat) (news : List Value) (hx : a.eval x = .slice (some ad) m c) (hl : news.length = m * r.size) (hnews : ∀ j u, news[j]? = some u → w.cell? (ad.add j) = some u) (h1 : ∀ u ∈ news, u.oneCell' = true)
    (h63 : r.n + m ≤ maxLen) (hbytes : (r.n + m) * bytes ≤ 140737488355328) (hbase : base ≤ w.heap.size)
    (h : ∀ v' w', Fam w' base (rows.set k ⟨r.e, r.size, v', r.n + m, r.xs ++ news⟩) → w.grownBy w' r.v.ownBlock → wpList Try.prog ops Q rest (a.put o.dst v') w') : wpList Try.prog ops Q (o :: rest) a w := by
  obtain ⟨i, hi, hz⟩ := Option.map_eq_some_iff.1 hinfo
  simp only [Prod.mk.injEq] at hz
  obtain ⟨hz, hsz', hby⟩ := hz
  obtain ⟨v', w', hr', h2, h3, _, h5⟩ := run_append_own_at (P := Try.prog) w base t o.type r.e i z r.size bytes ht hi hz hsz' hby hzs hsz r.v r.n r.xs (hF.own k r hr) ad m c news hl hnews h1 h63 hbytes hbase
  refine wpList_plain hgd fun K hK => ?_
  unfold Oper.wp execOp
  simp only [ho, resolve, invoke, builtin, Sem.run_bind, Sem.run_pure, Result.andThen_ok, List.map_toArray, List.map_cons, List.map_nil, hs, hx, hr']
  exact hK _ _ (h v' w' (hF.grow hr h2 h3 h5) h3)
theorem Fam.grown {w w0 w' : World} {base : Nat} {rows : List Rw} (h : Fam w base rows) {k : Nat} {r : Rw} (hr : rows[k]? = some r) (hg : w.grownBy w' r.v.ownBlock) (ha : After w0 w) (hb : w0.heap.size ≤ base) : After w0 w' :=
  after_grown ha hg (Nat.le_refl _) (fun q hq => Nat.le_trans hb (World.ownsRow.lt (h.own k r hr) q hq).1)
/-- A row of numbers; of texts; of bytes. -/
def rI (v : Value) (l : List Int) : Rw := ⟨2, 1, v, l.length, ci l⟩
def sV (s : List UInt8) : Value := .string (strOf s)
def rS (v : Value) (l : List (List UInt8)) : Rw := ⟨9, 1, v, l.length, l.map sV⟩
def rB (v : Value) (l : List UInt8) : Rw := ⟨5, 1, v, l.length, c8 l⟩
theorem info9o : (Try.prog.info? 9).map (fun i => (i.zero, i.size, i.bytes)) = some (some (.string ⟨#[]⟩), 1, 16) := by kernel_rfl
theorem info5o : (Try.prog.info? 5).map (fun i => (i.zero, i.size, i.bytes)) = some (some (.int .u8 0), 1, 1) := by kernel_rfl
theorem rI_own {w : World} {base : Nat} {v : Value} {l : List Int} : w.ownsRow base (rI v l).e (rI v l).size (rI v l).v (rI v l).n (rI v l).xs ↔ OwnI w base v l := Iff.rfl
theorem one_cell_at (w : World) (v : Value) (t : TypeId) : ∀ j u, [v][j]? = some u → (w.alloc (.cells #[v] t)).cell? ((⟨w.heap.size, 0, none⟩ : Addr).add j) = some u := by
  intro j u hu
  match j, hu with
  | 0, hu =>
    cases hu
    rw [Addr.add_mid]
    exact (RowIs.new w t [v]).cell rfl
section
variable {w : World} {ops : Array Oper} {rest : List Oper} {o : Oper} {a : Act} {Q : Exit → Act → World → Prop} {base : Nat} {rows : List Rw}
/-- append(own, z), z a number in a new block. -/
theorem wpList_fam_int (hgd : o.guard = none) (s x : Operand) (ho : o.op = .call { callee := .builtin .append, args := #[s, x], argTypes := #[46, 46] }) (k : Nat) (v : Value) (l : List Int) (hr : rows[k]? = some (rI v l)) (hF : Fam w base rows)
    (hs : a.eval s = v) (z : Int) (hx : a.eval x = .slice (some ⟨w.heap.size, 0, none⟩) 1 1) (hl : l.length ≤ 1000000) (hbase : base ≤ w.heap.size) (tt : TypeId)
    (h : ∀ v' w', Fam w' base (rows.set k (rI v' (l ++ [z]))) → (w.alloc (.cells #[.int .i64 z] tt)).grownBy w' v.ownBlock → wpList Try.prog ops Q rest (a.put o.dst v') w') : wpList Try.prog ops Q (o :: rest) a (w.alloc (.cells #[.int .i64 z] tt)) := by
  refine wpList_append_fam hgd s x 46 ho k (rI v l) hr (hF.after (after_alloc (After.refl w) _)) (.int .i64 0) 8 Try.underlying46 info2 rfl Nat.one_pos hs ⟨w.heap.size, 0, none⟩ 1 1 [.int .i64 z] hx rfl (one_cell_at w _ tt) (fun u hu => by rw [List.mem_singleton.1 hu]; rfl) (by show l.length + 1 ≤ _; unfold maxLen; omega) (by show (l.length + 1) * 8 ≤ _; omega) (by simp; omega) ?_
  intro v' w' hF' hg
  refine h v' w' ?_ hg
  have e : rI v' (l ++ [z]) = ⟨(rI v l).e, (rI v l).size, v', (rI v l).n + 1, (rI v l).xs ++ [.int .i64 z]⟩ := by
    show (⟨2, 1, v', (l ++ [z]).length, ci (l ++ [z])⟩ : Rw) = ⟨2, 1, v', l.length + 1, ci l ++ [.int .i64 z]⟩
    rw [List.length_append]
    simp [ci]
  rw [e]
  exact hF'
/-- append(own, s), s a text in a new block. -/
theorem wpList_fam_str (hgd : o.guard = none) (s x : Operand) (ho : o.op = .call { callee := .builtin .append, args := #[s, x], argTypes := #[45, 45] }) (k : Nat) (v : Value) (l : List (List UInt8)) (hr : rows[k]? = some (rS v l)) (hF : Fam w base rows)
    (hs : a.eval s = v) (z : List UInt8) (hx : a.eval x = .slice (some ⟨w.heap.size, 0, none⟩) 1 1) (hl : l.length ≤ 1000000) (hbase : base ≤ w.heap.size) (tt : TypeId)
    (h : ∀ v' w', Fam w' base (rows.set k (rS v' (l ++ [z]))) → (w.alloc (.cells #[.string (strOf z)] tt)).grownBy w' v.ownBlock → wpList Try.prog ops Q rest (a.put o.dst v') w') : wpList Try.prog ops Q (o :: rest) a (w.alloc (.cells #[.string (strOf z)] tt)) := by
  refine wpList_append_fam hgd s x 45 ho k (rS v l) hr (hF.after (after_alloc (After.refl w) _)) (.string ⟨#[]⟩) 16 Try.underlying45 info9o rfl Nat.one_pos hs ⟨w.heap.size, 0, none⟩ 1 1 [.string (strOf z)] hx rfl (one_cell_at w _ tt) (fun u hu => by rw [List.mem_singleton.1 hu]; rfl) (by show l.length + 1 ≤ _; unfold maxLen; omega) (by show (l.length + 1) * 16 ≤ _; omega) (by simp; omega) ?_
  intro v' w' hF' hg
  refine h v' w' ?_ hg
  have e : rS v' (l ++ [z]) = ⟨(rS v l).e, (rS v l).size, v', (rS v l).n + 1, (rS v l).xs ++ [.string (strOf z)]⟩ := by
    show (⟨9, 1, v', (l ++ [z]).length, (l ++ [z]).map sV⟩ : Rw) = ⟨9, 1, v', l.length + 1, l.map sV ++ [.string (strOf z)]⟩
    rw [List.length_append, List.map_append]
    rfl
  rw [e]
  exact hF'
/-- append(own, b...), b bytes that are there. -/
theorem wpList_fam_bytes (hgd : o.guard = none) (s x : Operand) (ho : o.op = .call { callee := .builtin .append, args := #[s, x], argTypes := #[30, 30] }) (k : Nat) (v : Value) (l : List UInt8) (hr : rows[k]? = some (rB v l)) (hF : Fam w base rows)
    (hs : a.eval s = v) (b off n c : Nat) (news : List UInt8) (hn : news.length = n) (hx : a.eval x = .slice (some ⟨b, off, none⟩) n c) (hat : BytesAt w (some ⟨b, off, none⟩) news) (hl : l.length + n ≤ 100000000000) (hbase : base ≤ w.heap.size)
    (h : ∀ v' w', Fam w' base (rows.set k (rB v' (l ++ news))) → w.grownBy w' v.ownBlock → wpList Try.prog ops Q rest (a.put o.dst v') w') : wpList Try.prog ops Q (o :: rest) a w := by
  subst hn
  refine wpList_append_fam hgd s x 30 ho k (rB v l) hr hF (.int .u8 0) 1 Try.underlying30 info5o rfl Nat.one_pos hs ⟨b, off, none⟩ news.length c (c8 news) hx (by rw [c8_len]; show _ = news.length * 1; omega) (fun j u hu => ?_) (c8_one news) (by show l.length + news.length ≤ _; unfold maxLen; omega) (by show (l.length + news.length) * 1 ≤ _; omega) hbase ?_
  · have hj : j < news.length := by rw [← c8_len news]; exact (List.getElem?_eq_some_iff.1 hu).1
    obtain ⟨b', o', e, hc⟩ := hat (fun e => by rw [e] at hj; simp at hj)
    cases e
    rw [Addr.add_mid, hc j hj, ← hu, c8_get news j hj]
  · intro v' w' hF' hg
    refine h v' w' ?_ hg
    have e : rB v' (l ++ news) = ⟨(rB v l).e, (rB v l).size, v', (rB v l).n + news.length, (rB v l).xs ++ c8 news⟩ := by
      show (⟨5, 1, v', (l ++ news).length, c8 (l ++ news)⟩ : Rw) = ⟨5, 1, v', l.length + news.length, c8 l ++ c8 news⟩
      rw [List.length_append]
      simp [c8]
    rw [e]
    exact hF'
end
/-- Texts in memory. -/
def StrsAt (w : World) (ao : Option Addr) (N : List (List UInt8)) : Prop := N ≠ [] → ∃ b o, ao = some ⟨b, o, none⟩ ∧ ∀ j s, N[j]? = some s → w.cell? ⟨b, o + j, none⟩ = some (.string (strOf s))
theorem StrsAt.after {w w' : World} {ao : Option Addr} {N : List (List UInt8)} (h : StrsAt w ao N) (ha : After w w') : StrsAt w' ao N := fun hn => by
  obtain ⟨b, o, e, hc⟩ := h hn
  exact ⟨b, o, e, fun j s hj => (Below.cell ha (p := ⟨b, o + j, none⟩) (World.block_lt_of_cell? w _ (hc j s hj))).trans (hc j s hj)⟩
theorem strs_of_own {w : World} {base : Nat} {v : Value} {N : List (List UInt8)} {k : Nat} (hk : N.length = k) (h : w.ownsRow base 9 1 v N.length (N.map sV)) : ∃ ao c, v = .slice ao k c ∧ StrsAt w ao N ∧ k ≤ c := by
  subst hk
  rcases h.2 with ⟨rfl, h0⟩ | ⟨g, cap, cur, rfl, hb, hg, hnc, _, hcs, ht⟩
  · obtain rfl := List.eq_nil_of_length_eq_zero h0
    exact ⟨none, 0, rfl, fun h => absurd rfl h, Nat.le_refl _⟩
  · refine ⟨_, cap, rfl, fun _ => ⟨g, 0, rfl, fun j s hj => ?_⟩, hnc⟩
    have hjl := (List.getElem?_eq_some_iff.1 hj).1
    rw [Nat.zero_add, World.ownsRow.cellAt h j (by omega), List.getElem?_map, hj]
    rfl
theorem idxOf_at {N : List (List UInt8)} {s : List UInt8} : ∀ {i : Nat}, (∀ j x, j < i → N[j]? = some x → x ≠ s) → N[i]? = some s → N.idxOf s = i := by
  induction N with
  | nil => intro i _ h; simp at h
  | cons y N ih =>
    intro i h1 h2
    rw [List.idxOf_cons]
    cases i with
    | zero => simp at h2; subst h2; simp
    | succ i =>
      have hy : y ≠ s := h1 0 y (by omega) rfl
      have e : (y == s) = false := beq_eq_false_iff_ne.2 hy
      rw [e]
      simp only [cond_false]
      rw [ih (i := i) (fun j x hj hx => h1 (j + 1) x (by omega) (by simpa using hx)) (by simpa using h2)]
theorem idxOf_no {N : List (List UInt8)} {s : List UInt8} (h : ∀ j x, j < N.length → N[j]? = some x → x ≠ s) : N.idxOf s = N.length := by
  apply List.idxOf_eq_length
  intro hm
  obtain ⟨i, hi, e⟩ := List.mem_iff_getElem.1 hm
  exact h i s hi (by rw [List.getElem?_eq_getElem hi, e]) rfl
theorem strOf_ne {a b : List UInt8} (h : a ≠ b) : ¬ strOf a = strOf b := fun e => h (by have := congrArg (fun x => x.data.toList) e; simpa [strOf] using this)
set_option maxRecDepth 100000 in
set_option maxHeartbeats 1200000 in
theorem find_any (ao : Option Addr) (n c : Nat) (N : List (List UInt8)) (s : List UInt8) (hN : N.length = n) (hn : n ≤ 1000000) (w : World) (hA : StrsAt w ao N) :
    Calls Try.prog 24 #[.slice ao n c, .string (strOf s)] w fun e w' => e = .returned (.int .i64 (N.idxOf s : Int)) ∧ w' = w := by
  have HF : Hid (StrsAt w ao N ∧ N.length = n) := ⟨hA, hN⟩
  clear hA hN
  go_enter Try.func24, Try.ntmps24
  go_wp2
  go_loop [5] (fun v => ∃ i : Nat, v = .int .i64 (i : Int) ∧ i ≤ n ∧ Hid (∀ j x, j < i → N[j]? = some x → x ≠ s)) (fun v => n - (intOf v).toNat)
  case atStart => exact ⟨0, rfl, Nat.zero_le _, fun j x hj _ => absurd hj (by omega)⟩
  case round =>
    obtain ⟨i, rfl, hi, HI⟩ := hrel
    by_cases hlt : i < n
    · have hii : (i : Int) < (n : Int) := by omega
      obtain ⟨y, hy⟩ : ∃ y, N[i]? = some y := ⟨_, List.getElem?_eq_getElem (by rw [HF.out.2]; exact hlt)⟩
      obtain ⟨b, o, hao, hc⟩ := HF.out.1 (fun e => by rw [e] at hy; simp at hy)
      subst hao
      have hcy := hc i y hy
      clear hc
      by_cases hys : y = s
      · subst hys
        have HR : Hid (N.idxOf y = i) := idxOf_at HI.out hy
        clear hy
        go_wp2
        go_ret
        exact ⟨by rw [HR.out]; rfl, rfl⟩
      · have HY : Hid (N[i]? = some y ∧ y ≠ s) := ⟨hy, hys⟩
        have hbe : ((strOf y).toList == (strOf s).toList) = false := by rw [toList_data, toList_data, data_strOf, data_strOf]; exact beq_eq_false_iff_ne.2 hys
        clear hy
        go_wp2
        go_round
        case rel => exact ⟨i + 1, by go_num, by omega, fun j x hj hx => by
          by_cases hji : j = i
          · subst hji; rw [HY.out.1] at hx; cases hx; exact HY.out.2
          · exact HI.out j x (by omega) hx⟩
        case measure => simp [intOf]; omega
    · obtain rfl : i = n := by omega
      have hii : ¬ (i : Int) < (i : Int) := by omega
      have HR : Hid (N.idxOf s = i) := (by unfold Hid; rw [idxOf_no (fun j x hj hx => HI.out j x (by rw [← HF.out.2]; exact hj) hx), HF.out.2])
      go_wp2
      go_ret
      exact ⟨by rw [HR.out]; rfl, rfl⟩
end Go.Proofs.Ytpplnomomcdemaa

namespace Go.Proofs.Ytpplnomomcdemaa
open Go.RowKit Leb
theorem Fam.snoc {w w' : World} {base : Nat} {rows : List Rw} (h : Fam w base rows) (ha : After w w') {r : Rw} (ho : w'.ownsRow base r.e r.size r.v r.n r.xs) (hb : ∀ g, r.v.ownBlock = some g → w.heap.size ≤ g) : Fam w' base (rows ++ [r]) := by
  have h' := h.after ha
  have at_ : ∀ (k : Nat) (s : Rw), (rows ++ [r])[k]? = some s → rows[k]? = some s ∨ (k = rows.length ∧ s = r) := fun k s hs => by
    by_cases hk : k < rows.length
    · rw [List.getElem?_append_left hk] at hs; exact .inl hs
    · rw [List.getElem?_append_right (by omega)] at hs
      have hk0 : k - rows.length = 0 := by have := (List.getElem?_eq_some_iff.1 hs).1; simp at this; omega
      rw [hk0] at hs
      exact .inr ⟨by omega, by simpa using hs.symm⟩
  refine ⟨fun k s hs => ?_, fun j k s t hs ht hjk g hg hg2 => ?_⟩
  · rcases at_ k s hs with h1 | ⟨_, rfl⟩
    · exact h'.own k s h1
    · exact ho
  · rcases at_ j s hs with h1 | ⟨e1, rfl⟩
    · rcases at_ k t ht with h2 | ⟨_, rfl⟩
      · exact h.apart j k s t h1 h2 hjk g hg hg2
      · have := (World.ownsRow.lt (h.own j s h1) g hg).2; have := hb g hg2; omega
    · rcases at_ k t ht with h2 | ⟨e2, rfl⟩
      · have := (World.ownsRow.lt (h.own k t h2) g hg2).2; have := hb g hg; omega
      · exact hjk (by omega)
theorem Fam.init {w : World} {base : Nat} {rows : List Rw} {r : Rw} (h : Fam w base (rows ++ [r])) : Fam w base rows :=
  have up : ∀ (k : Nat) (s : Rw), rows[k]? = some s → (rows ++ [r])[k]? = some s := fun k s hs => by rw [List.getElem?_append_left (List.getElem?_eq_some_iff.1 hs).1]; exact hs
  ⟨fun k s hs => h.own k s (up k s hs), fun j k s t hs ht => h.apart j k s t (up j s hs) (up k t ht)⟩
/-- An operation in a block of its own. -/
def rO (g : Nat) (x : Opn) : Rw := ⟨23, 5, .slice (some ⟨g, 0, none⟩) 1 1, 1, oc x⟩
theorem Fam.op {w : World} {base : Nat} {rows : List Rw} (h : Fam w base rows) {k g : Nat} {x : Opn} (hk : rows[k]? = some (rO g x)) : RowIs w g 23 (oc x) := by
  rcases (h.own k _ hk).2 with ⟨e, _⟩ | ⟨g', cap, cur, e, _, h2, _, _, h5, h6⟩
  · cases e
  · cases e
    show w.heap[g]? = _
    have h6' : cur.toList.take 5 = oc x := h6
    have h5' : cur.size = 5 := h5
    rw [List.take_of_length_le (by simp [h5'])] at h6'
    have e : cur = (oc x).toArray := by rw [← h6']
    rw [h2, e]
    rfl
theorem after_setRow {a b : World} {g : Nat} (h : After a b) (hg : a.heap.size ≤ g) (cs : Array Value) : After a (b.setRow g cs) := Below.row h hg cs
theorem fam_new {w : World} {base : Nat} {rows : List Rw} (h : Fam w base rows) (hb : base ≤ w.heap.size) (Z : Array Value) (x : Opn) : Fam ((w.alloc (.cells Z 23)).setRow w.heap.size (oc x).toArray) base (rows ++ [rO w.heap.size x]) :=
  h.snoc (after_setRow (after_alloc (After.refl w) _) (Nat.le_refl _) _) ⟨rfl, .inr ⟨w.heap.size, 1, (oc x).toArray, rfl, hb, setRow_heap _ _ Z _ 23 _ (heap_alloc_new w _), Nat.le_refl _, by decide, rfl, rfl⟩⟩ (fun g hg => by cases hg; exact Nat.le_refl _)
def pR (vn vk vw vp vb vt : Value) (l : List Opn) : List Rw := [rS vn (firsts l), rI vk (l.map (·.kind)), rI vw (whichs (firsts l) l), rI vp (l.map (·.pos)), rI vb (l.map (·.by_)), rB vt (textsB l)]
theorem idx_more {N : List Nm} {x : Opn} {y : Nm} (h : y ∈ N ∨ y = x.name) : (more N x).idxOf y = N.idxOf y := by
  unfold more
  by_cases hx : x.name ∈ N
  · rw [if_pos hx]
  · rw [if_neg hx, List.idxOf_append]
    by_cases hy : y ∈ N
    · rw [if_pos hy]
    · rw [if_neg hy]
      rcases h with h | h
      · exact absurd h hy
      · subst h; rw [List.idxOf_eq_length hy]; simp
theorem whichs_succ {l : List Opn} {i : Nat} {x : Opn} (hx : l[i]? = some x) : whichs (firsts (l.take (i + 1))) (l.take (i + 1)) = whichs (firsts (l.take i)) (l.take i) ++ [((firsts (l.take i)).idxOf x.name : Int)] := by
  rw [firsts_succ hx]
  unfold whichs
  rw [List.take_add_one, hx, List.map_append]
  congr 1
  · exact List.map_congr_left fun y hy => by rw [idx_more (.inl ((mem_firsts _ _).2 ⟨y, hy, rfl⟩))]
  · simp [idx_more]
theorem map_succ (F : Opn → Int) {l : List Opn} {i : Nat} {x : Opn} (hx : l[i]? = some x) : (l.take (i + 1)).map F = (l.take i).map F ++ [F x] := by
  rw [List.take_add_one, hx]; simp
theorem rtext_k (s : List UInt8) (hs : s.length ≤ 2000) (w : World) : Calls Try.prog 25 #[.string (strOf s)] w fun e w' => ∃ b o k c, e = .returned (.slice (some ⟨b, o, none⟩) k c) ∧ BytesAt w' (some ⟨b, o, none⟩) (textB s) ∧ (textB s).length = k ∧ After w w' :=
  (rtext_any s (by omega) w).mono (fun e w' ⟨v, he, ho, ha⟩ => by
    obtain ⟨a, c, rfl, h1, h2, h3⟩ := own_sl ho rfl
    have hp : textB s ≠ [] := fun e => by
      have := congrArg List.length e
      have h0 : 1 ≤ (uintB s.length).length := by rw [uintB]; split <;> simp
      unfold textB at this
      rw [List.length_append, List.length_nil] at this
      omega
    obtain ⟨b, o, rfl, hc⟩ := h1 hp
    exact ⟨b, o, _, c, he, h1, rfl, ha⟩)
theorem ruint_k (n : Nat) (hn : n ≤ 100000) (w : World) : Calls Try.prog 27 #[.int .u64 n] w fun e w' => ∃ a k c, e = .returned (.slice a k c) ∧ BytesAt w' a (uintB n) ∧ (uintB n).length = k ∧ After w w' :=
  (ruint_any n (by omega) w).mono (fun e w' ⟨v, he, ho, ha⟩ => by
    obtain ⟨a, c, rfl, h1, h2, h3⟩ := own_sl ho rfl
    exact ⟨a, _, c, he, h1, rfl, ha⟩)
theorem rruns_k (ao : Option Addr) (n cap : Nat) (l : List Int) (hl : ∀ x ∈ l, -9223372036854775808 ≤ x ∧ x ≤ 9223372036854775807) (hn : l.length = n) (hb : n ≤ 1000) (w : World) (hI : IntsAt w ao l) :
    Calls Try.prog 26 #[.slice ao n cap] w fun e W' => ∃ a k c, e = .returned (.slice a k c) ∧ Own W' w.heap.size (.slice a k c) (runsB l) ∧ BytesAt W' a (runsB l) ∧ (runsB l).length = k ∧ After w W' := by
  subst hn
  exact (putRuns_any ao cap l hl (by omega) w hI).mono (fun e w' ⟨v, he, ho, ha⟩ => by
    obtain ⟨a, c, rfl, h1, h2, h3⟩ := own_sl ho rfl
    exact ⟨a, _, c, he, ho, h1, rfl, ha⟩)
theorem rdeltas_k (ao : Option Addr) (n cap : Nat) (l : List Int) (hn : l.length = n) (hb : n ≤ 1000) (w : World) (hI : IntsAt w ao l) :
    Calls Try.prog 28 #[.slice ao n cap] w fun e W' => ∃ a k c, e = .returned (.slice a k c) ∧ BytesAt W' a (runsB (diffs l)) ∧ (runsB (diffs l)).length = k ∧ After w W' := by
  subst hn
  exact (putDeltas_any ao cap l (by omega) w hI).mono (fun e w' ⟨v, he, ho, ha⟩ => by
    obtain ⟨a, c, rfl, h1, h2, h3⟩ := own_sl ho rfl
    exact ⟨a, _, c, he, h1, rfl, ha⟩)
theorem intsAt_after {w w' : World} {ao : Option Addr} {l : List Int} (h : IntsAt w ao l) (ha : After w w') : IntsAt w' ao l := fun hn => by
  obtain ⟨b, o, e, hc⟩ := h hn
  exact ⟨b, o, e, fun j hj => (Below.cell ha (p := ⟨b, o + j, none⟩) (World.block_lt_of_cell? w _ (hc j hj))).trans (hc j hj)⟩
theorem ints_sl {w : World} {base : Nat} {v : Value} {l : List Int} (h : OwnI w base v l) {k : Nat} (hk : l.length = k) : ∃ a c, v = .slice a k c ∧ IntsAt w a l := by
  obtain ⟨a, c, rfl, h1, _⟩ := h.at
  rw [hk]
  exact ⟨a, c, rfl, h1⟩
theorem strs_at {w : World} {base : Nat} {ao : Option Addr} {k c : Nat} {N : List (List UInt8)} (h : w.ownsRow base 9 1 (.slice ao k c) N.length (N.map sV)) : StrsAt w ao N := by
  obtain ⟨a', c', e, h2, _⟩ := strs_of_own rfl h
  cases e
  exact h2
theorem own_base {w : World} {b b' : Nat} {v : Value} {bs : List UInt8} (h : Own w b v bs) (hb : b' ≤ b) : Own w b' v bs := by
  refine ⟨h.1, ?_⟩
  rcases h.2 with hn | ⟨g, cap, cur, rfl, h1, rest⟩
  · exact .inl hn
  · exact .inr ⟨g, cap, cur, rfl, Nat.le_trans hb h1, rest⟩
theorem putE_bad {l : List Opn} {n i : Nat} {x : Opn} (hl : l.length = n) (hn : n ≤ 256) (hx : l[i]? = some x) (hm : mayB x = false) : putE l = 40 := by
  unfold putE
  rw [if_neg (by omega), if_neg (fun h => by have := List.all_eq_true.1 h x (List.mem_of_getElem? hx); rw [hm] at this; cases this)]
theorem putE_good {l : List Opn} {n : Nat} (hl : l.length = n) (hn : n ≤ 256) (hm : l.all mayB = true) : putE l = 0 := by
  unfold putE
  rw [if_neg (by omega), if_pos hm]
structure RpI (w : World) (l : List Opn) (vn vk vw vp vb vt : Value) (i : Nat) (wr : World) : Prop where
  fam : Fam wr w.heap.size (pR vn vk vw vp vb vt (l.take i))
  aft : After w wr
  may : (l.take i).all mayB = true

set_option maxRecDepth 100000 in
set_option maxHeartbeats 4000000 in
theorem rput_any (ao : Option Addr) (n ca : Nat) (l : List Opn) (hl : l.length = n) (hok : ∀ x ∈ l, x.Ok) (hbig : n ≤ 1152921504606846976) (w : World) (hA : OpsAt w ao l) :
    Calls Try.prog 15 #[.slice ao n ca] w fun e w' => ∃ v, e = .returned (.tuple #[v, .int .i64 (putE l : Int)]) ∧ Own w' w.heap.size v (putBs l) ∧ After w w' := by
  have HL : Hid (OpsAt w ao l ∧ l.length = n ∧ ∀ x ∈ l, x.Ok) := ⟨hA, hl, hok⟩
  by_cases hn : n ≤ 256
  · have hnz : ¬ (n : Int) > 256 := by omega
    clear hA hl hok hbig
    go_enter Try.func15, Try.ntmps15
    go_wp2
    go_loopw [4, 5, 6, 7, 8, 9, 10] (fun vn vk vw vp vb vt vi wr => ∃ i : Nat, vi = .int .i64 (i : Int) ∧ i ≤ n ∧ Hid (RpI w l vn vk vw vp vb vt i wr)) (fun _ _ _ _ _ _ vi _ => n - (intOf vi).toNat)
    case atStart => exact ⟨0, rfl, Nat.zero_le _, ⟨⟨fun k r hr => by
      have h6 : k < 6 := by have := (List.getElem?_eq_some_iff.1 hr).1; simpa [pR] using this
      match k, h6, hr with
      | 0, _, hr => cases hr; exact World.ownsRow_nil _ _ _ _
      | 1, _, hr => cases hr; exact World.ownsRow_nil _ _ _ _
      | 2, _, hr => cases hr; exact World.ownsRow_nil _ _ _ _
      | 3, _, hr => cases hr; exact World.ownsRow_nil _ _ _ _
      | 4, _, hr => cases hr; exact World.ownsRow_nil _ _ _ _
      | 5, _, hr => cases hr; exact World.ownsRow_nil _ _ _ _, fun j k r s hr hs hjk g hg => by
      have h6 : j < 6 := by have := (List.getElem?_eq_some_iff.1 hr).1; simpa [pR] using this
      match j, h6, hr with
      | 0, _, hr => cases hr; cases hg
      | 1, _, hr => cases hr; cases hg
      | 2, _, hr => cases hr; cases hg
      | 3, _, hr => cases hr; cases hg
      | 4, _, hr => cases hr; cases hg
      | 5, _, hr => cases hr; cases hg⟩, After.refl _, rfl⟩⟩
    case round =>
      obtain ⟨i, hvi, hin, HI⟩ := hrel
      obtain ⟨vn, hvn⟩ : ∃ v, v = u4 := ⟨_, rfl⟩
      obtain ⟨vk, hvk⟩ : ∃ v, v = u5 := ⟨_, rfl⟩
      obtain ⟨vw, hvw⟩ : ∃ v, v = u6 := ⟨_, rfl⟩
      obtain ⟨vp, hvp⟩ : ∃ v, v = u7 := ⟨_, rfl⟩
      obtain ⟨vb, hvb⟩ : ∃ v, v = u8 := ⟨_, rfl⟩
      obtain ⟨vt, hvt⟩ : ∃ v, v = u9 := ⟨_, rfl⟩
      subst hvi hvn hvk hvw hvp hvb hvt
      obtain ⟨K, hK⟩ : ∃ K, (firsts (l.take i)).length = K := ⟨_, rfl⟩
      obtain ⟨aN, cN, hv, _⟩ := strs_of_own hK (HI.out.fam.own 0 _ rfl)
      have hv' : vn = .slice aN K cN := hv
      subst hv'
      have hKb : K ≤ 256 := by rw [← hK]; have := firsts_len (l.take i); rw [List.length_take] at this; omega
      have HK : Hid ((firsts (l.take i)).length = K ∧ K ≤ 256) := ⟨hK, hKb⟩
      clear hK hv
      by_cases hlt : i < n
      · have hii : (i : Int) < (n : Int) := by omega
        obtain ⟨x, hx⟩ : ∃ x, l[i]? = some x := ⟨_, List.getElem?_eq_getElem (by rw [HL.out.2.1]; exact hlt)⟩
        obtain ⟨b, o, hao, hrg⟩ := HL.out.1 (fun e => by rw [e] at hx; simp at hx)
        subst hao
        have HR : Hid (wr.rangeAt b (o + i * 5) (oc x)) := range_after (hrg i x hx) HI.out.aft
        have HXI : Hid (l[i]? = some x) := hx
        have hxo : x.Ok := HL.out.2.2 x (List.mem_of_getElem? hx)
        clear hrg hx
        cases hm : mayB x with
        | false =>
          have HX : Hid (x.Ok ∧ True) := ⟨hxo, trivial⟩
          have HPE : Hid (putE l = 40) := putE_bad HL.out.2.1 hn HXI.out hm
          clear hxo
          go_wp2_with (first
            | (go_at_call 22; refine Calls.mono (may_any x HX.out.1 w1) ?_; rw [hm]; rintro e w2 ⟨rfl, ha⟩; have HF2 := show Hid (Fam w2 w.heap.size [rS (.slice aN K cN) (firsts (l.take i)), rI vk ((l.take i).map (·.kind)), rI vw (whichs (firsts (l.take i)) (l.take i)), rI vp ((l.take i).map (·.pos)), rI vb ((l.take i).map (·.by_)), rB vt (textsB (l.take i)), rO wr.heap.size x] ∧ After w w2) from ⟨HF1.out.1.after ha, After.trans HF1.out.2 ha⟩; clear ha)
            | (refine wpList_load_row rfl 23 (.tmp 11) rfl wr.heap.size rfl 23 _ (0, 0) _ (HF1.out.1.op (k := 6) rfl) Try.underlying23 rfl (by kernel_rfl) ?_)
            | (refine wpList_store_row rfl 23 (.tmp 11) (.tmp 27) rfl wr.heap.size _ rfl rfl 23 _ (heap_alloc_new wr _) (by kernel_rfl) rfl (by kernel_rfl) ?_; have HF1 := show Hid (Fam ((wr.alloc (.cells #[.int .i64 0, .string ⟨#[]⟩, .int .i64 0, .int .i64 0, .string ⟨#[]⟩] 23)).setRow wr.heap.size (oc x).toArray) w.heap.size (pR (.slice aN K cN) vk vw vp vb vt (l.take i) ++ [rO wr.heap.size x]) ∧ After w ((wr.alloc (.cells #[.int .i64 0, .string ⟨#[]⟩, .int .i64 0, .int .i64 0, .string ⟨#[]⟩] 23)).setRow wr.heap.size (oc x).toArray)) from ⟨fam_new HI.out.fam HI.out.aft.size _ x, after_setRow (after_alloc HI.out.aft _) HI.out.aft.size _⟩; revert HF1; generalize (wr.alloc (.cells #[.int .i64 0, .string ⟨#[]⟩, .int .i64 0, .int .i64 0, .string ⟨#[]⟩] 23)).setRow wr.heap.size (oc x).toArray = w1; intro HF1)
            | (refine wpList_load_mid rfl 23 (.tmp 26) rfl b (o + i * 5) rfl [.int .i64 x.kind, .string (strOf x.name), .int .i64 x.pos, .int .i64 x.by_, .string (strOf x.text)] _ HR.out Try.underlying23 rfl size23 ?_))
          go_ret2
          exact ⟨_, by rw [HPE.out]; rfl, by unfold putBs; rw [HPE.out, if_neg (by omega)]; exact Own.nil _ _, HF2.out.2⟩
        | true =>
          have hnm : x.text.length ≤ 2000 := by
            have h1 := hm
            unfold mayB fitsB at h1
            grind
          have HX : Hid (x.Ok ∧ x.text.length ≤ 2000) := ⟨hxo, hnm⟩
          have HMM : Hid ((l.take (i + 1)).all mayB = true) := by
            unfold Hid
            rw [List.take_add_one, HXI.out, List.all_append, HI.out.may]
            simp [hm]
          have HTL : Hid ((textsB (l.take i)).length ≤ 600000 ∧ (textB x.text).length ≤ 2010) := by
            have h1 := textsB_len (l.take i) (fun z hz => by
              obtain ⟨j, hj, e⟩ := List.mem_iff_getElem.1 hz
              have h2 := List.all_eq_true.1 HI.out.may z hz
              unfold mayB fitsB at h2
              grind)
            rw [List.length_take] at h1
            exact ⟨by omega, textB_len x.text hnm⟩
          obtain ⟨q, hq⟩ : ∃ q, (firsts (l.take i)).idxOf x.name = q := ⟨_, rfl⟩
          have HQ : Hid ((firsts (l.take i)).idxOf x.name = q) := hq
          have hqK : q ≤ K := by rw [← hq, ← HK.out.1]; exact List.idxOf_le_length
          clear hnm hxo
          by_cases hnew : q = K
          · have HN : Hid (more (firsts (l.take i)) x = firsts (l.take i) ++ [x.name]) := by
              unfold Hid more
              rw [if_neg (fun hmem => by have := List.idxOf_lt_length_of_mem hmem; rw [hq, HK.out.1] at this; omega)]
            have hqe : ((q : Int) == (K : Int)) = true := beq_iff_eq.2 (by omega)
            clear hq hnew
            by_cases hk1 : x.kind = 1
            · have b1 : (x.kind == 1) = true := beq_iff_eq.2 hk1
              have HT : Hid (hasT x = true) := by unfold Hid hasT; rw [hk1]; rfl
              clear hk1
              go_wp2_with (first
                | (at_builtin; have _u := HF8.out; clear _u; refine wpList_fam_bytes rfl _ _ rfl 5 vt (textsB (l.take i)) rfl HF8.out.1 rfl b8 o8 k8 c8 (textB x.text) HT8.out.2 rfl HT8.out.1 (by have h1 := HTL.out; have h2 := HT8.out.2; omega) HF8.out.2.size ?_; intro v9 w9 hF hg; have HF9 := show Hid (Fam w9 w.heap.size [rS v3 ((firsts (l.take i)) ++ [x.name]), rI v4 ((l.take i).map (·.kind) ++ [x.kind]), rI v5 (whichs (firsts (l.take i)) (l.take i) ++ [(q : Int)]), rI v6 ((l.take i).map (·.pos) ++ [x.pos]), rI v7 ((l.take i).map (·.by_) ++ [x.by_]), rB v9 (textsB (l.take i) ++ textB x.text), rO wr.heap.size x] ∧ After w w9) from ⟨hF, HF8.out.1.grown (k := 5) rfl hg HF8.out.2 (Nat.le_refl _)⟩; clear hF hg)
                | (go_at_call 25; have _u := HF7.out; clear _u; refine Calls.mono (rtext_k x.text HX.out.2 w7) ?_; rintro e w8 ⟨b8, o8, k8, c8, he, hat, hk8, ha⟩; subst he; have HF8 := show Hid (Fam w8 w.heap.size [rS v3 ((firsts (l.take i)) ++ [x.name]), rI v4 ((l.take i).map (·.kind) ++ [x.kind]), rI v5 (whichs (firsts (l.take i)) (l.take i) ++ [(q : Int)]), rI v6 ((l.take i).map (·.pos) ++ [x.pos]), rI v7 ((l.take i).map (·.by_) ++ [x.by_]), rB vt (textsB (l.take i)), rO wr.heap.size x] ∧ After w w8) from ⟨HF7.out.1.after ha, After.trans HF7.out.2 ha⟩; have HT8 := show Hid (BytesAt w8 (some ⟨b8, o8, none⟩) (textB x.text) ∧ (textB x.text).length = k8) from ⟨hat, hk8⟩; clear hat hk8 ha)
                | (at_builtin; have _u := HF6.out; clear _u; refine wpList_fam_int rfl _ _ rfl 4 vb ((l.take i).map (·.by_)) rfl HF6.out.1 rfl (x.by_) rfl (by rw [List.length_map, List.length_take]; omega) HF6.out.2.size 2 ?_; intro v7 w7 hF hg; have HF7 := show Hid (Fam w7 w.heap.size [rS v3 ((firsts (l.take i)) ++ [x.name]), rI v4 ((l.take i).map (·.kind) ++ [x.kind]), rI v5 (whichs (firsts (l.take i)) (l.take i) ++ [(q : Int)]), rI v6 ((l.take i).map (·.pos) ++ [x.pos]), rI v7 ((l.take i).map (·.by_) ++ [x.by_]), rB vt (textsB (l.take i)), rO wr.heap.size x] ∧ After w w7) from ⟨hF, (HF6.out.1.after (after_alloc (After.refl w6) _)).grown (k := 4) rfl hg (after_alloc HF6.out.2 _) (Nat.le_refl _)⟩; have c0 := (HF7.out.1.op (k := 6) rfl).cell (j := 0) rfl; have c4 := (HF7.out.1.op (k := 6) rfl).cell (j := 4) rfl; clear hF hg)
                | (at_builtin; have _u := HF5.out; clear _u; refine wpList_fam_int rfl _ _ rfl 3 vp ((l.take i).map (·.pos)) rfl HF5.out.1 rfl (x.pos) rfl (by rw [List.length_map, List.length_take]; omega) HF5.out.2.size 2 ?_; intro v6 w6 hF hg; have HF6 := show Hid (Fam w6 w.heap.size [rS v3 ((firsts (l.take i)) ++ [x.name]), rI v4 ((l.take i).map (·.kind) ++ [x.kind]), rI v5 (whichs (firsts (l.take i)) (l.take i) ++ [(q : Int)]), rI v6 ((l.take i).map (·.pos) ++ [x.pos]), rI vb ((l.take i).map (·.by_)), rB vt (textsB (l.take i)), rO wr.heap.size x] ∧ After w w6) from ⟨hF, (HF5.out.1.after (after_alloc (After.refl w5) _)).grown (k := 3) rfl hg (after_alloc HF5.out.2 _) (Nat.le_refl _)⟩; have c3 := (HF6.out.1.op (k := 6) rfl).cell (j := 3) rfl; clear hF hg)
                | (at_builtin; have _u := HF4.out; clear _u; refine wpList_fam_int rfl _ _ rfl 2 vw (whichs (firsts (l.take i)) (l.take i)) rfl HF4.out.1 rfl ((q : Int)) rfl (by unfold whichs; rw [List.length_map, List.length_take]; omega) HF4.out.2.size 2 ?_; intro v5 w5 hF hg; have HF5 := show Hid (Fam w5 w.heap.size [rS v3 ((firsts (l.take i)) ++ [x.name]), rI v4 ((l.take i).map (·.kind) ++ [x.kind]), rI v5 (whichs (firsts (l.take i)) (l.take i) ++ [(q : Int)]), rI vp ((l.take i).map (·.pos)), rI vb ((l.take i).map (·.by_)), rB vt (textsB (l.take i)), rO wr.heap.size x] ∧ After w w5) from ⟨hF, (HF4.out.1.after (after_alloc (After.refl w4) _)).grown (k := 2) rfl hg (after_alloc HF4.out.2 _) (Nat.le_refl _)⟩; have c2 := (HF5.out.1.op (k := 6) rfl).cell (j := 2) rfl; clear hF hg)
                | (at_builtin; have _u := HF3.out; clear _u; refine wpList_fam_int rfl _ _ rfl 1 vk ((l.take i).map (·.kind)) rfl HF3.out.1 rfl (x.kind) rfl (by rw [List.length_map, List.length_take]; omega) HF3.out.2.size 2 ?_; intro v4 w4 hF hg; have HF4 := show Hid (Fam w4 w.heap.size [rS v3 ((firsts (l.take i)) ++ [x.name]), rI v4 ((l.take i).map (·.kind) ++ [x.kind]), rI vw (whichs (firsts (l.take i)) (l.take i)), rI vp ((l.take i).map (·.pos)), rI vb ((l.take i).map (·.by_)), rB vt (textsB (l.take i)), rO wr.heap.size x] ∧ After w w4) from ⟨hF, (HF3.out.1.after (after_alloc (After.refl w3) _)).grown (k := 1) rfl hg (after_alloc HF3.out.2 _) (Nat.le_refl _)⟩; clear hF hg)
                | (at_builtin; have _u := HF2.out; clear _u; refine wpList_fam_str rfl _ _ rfl 0 (.slice aN K cN) (firsts (l.take i)) rfl HF2.out.1 rfl (x.name) rfl (by have := HK.out.1; omega) HF2.out.2.size 9 ?_; intro v3 w3 hF hg; have HF3 := show Hid (Fam w3 w.heap.size [rS v3 ((firsts (l.take i)) ++ [x.name]), rI vk ((l.take i).map (·.kind)), rI vw (whichs (firsts (l.take i)) (l.take i)), rI vp ((l.take i).map (·.pos)), rI vb ((l.take i).map (·.by_)), rB vt (textsB (l.take i)), rO wr.heap.size x] ∧ After w w3) from ⟨hF, (HF2.out.1.after (after_alloc (After.refl w2) _)).grown (k := 0) rfl hg (after_alloc HF2.out.2 _) (Nat.le_refl _)⟩; have c0 := (HF3.out.1.op (k := 6) rfl).cell (j := 0) rfl; clear hF hg)
                | (go_at_call 24; have _u := HF2.out; clear _u; refine Calls.mono (find_any aN K cN (firsts (l.take i)) x.name HK.out.1 (by omega) w2 (strs_at (HF2.out.1.own 0 _ rfl))) ?_; rw [HQ.out]; rintro e w3 ⟨rfl, hw3⟩; have hw3' := hw3.symm; clear hw3; subst hw3')
                | (go_at_call 22; refine Calls.mono (may_any x HX.out.1 w1) ?_; rw [hm]; rintro e w2 ⟨rfl, ha⟩; have HF2 := show Hid (Fam w2 w.heap.size [rS (.slice aN K cN) (firsts (l.take i)), rI vk ((l.take i).map (·.kind)), rI vw (whichs (firsts (l.take i)) (l.take i)), rI vp ((l.take i).map (·.pos)), rI vb ((l.take i).map (·.by_)), rB vt (textsB (l.take i)), rO wr.heap.size x] ∧ After w w2) from ⟨HF1.out.1.after ha, After.trans HF1.out.2 ha⟩; have c1 := (HF2.out.1.op (k := 6) rfl).cell (j := 1) rfl; clear ha)
                | (refine wpList_load_row rfl 23 (.tmp 11) rfl wr.heap.size rfl 23 _ (0, 0) _ (HF1.out.1.op (k := 6) rfl) Try.underlying23 rfl (by kernel_rfl) ?_)
                | (refine wpList_store_row rfl 23 (.tmp 11) (.tmp 27) rfl wr.heap.size _ rfl rfl 23 _ (heap_alloc_new wr _) (by kernel_rfl) rfl (by kernel_rfl) ?_; have HF1 := show Hid (Fam ((wr.alloc (.cells #[.int .i64 0, .string ⟨#[]⟩, .int .i64 0, .int .i64 0, .string ⟨#[]⟩] 23)).setRow wr.heap.size (oc x).toArray) w.heap.size (pR (.slice aN K cN) vk vw vp vb vt (l.take i) ++ [rO wr.heap.size x]) ∧ After w ((wr.alloc (.cells #[.int .i64 0, .string ⟨#[]⟩, .int .i64 0, .int .i64 0, .string ⟨#[]⟩] 23)).setRow wr.heap.size (oc x).toArray)) from ⟨fam_new HI.out.fam HI.out.aft.size _ x, after_setRow (after_alloc HI.out.aft _) HI.out.aft.size _⟩; revert HF1; generalize (wr.alloc (.cells #[.int .i64 0, .string ⟨#[]⟩, .int .i64 0, .int .i64 0, .string ⟨#[]⟩] 23)).setRow wr.heap.size (oc x).toArray = w1; intro HF1)
                | (refine wpList_load_mid rfl 23 (.tmp 26) rfl b (o + i * 5) rfl [.int .i64 x.kind, .string (strOf x.name), .int .i64 x.pos, .int .i64 x.by_, .string (strOf x.text)] _ HR.out Try.underlying23 rfl size23 ?_))
              go_roundw
              case rel => exact ⟨i + 1, by go_num, by omega, ⟨by
                have hW := whichs_succ HXI.out
                rw [firsts_succ HXI.out, HN.out, HQ.out] at hW
                unfold pR
                rw [firsts_succ HXI.out, HN.out, hW, map_succ (·.kind) HXI.out, map_succ (·.pos) HXI.out, map_succ (·.by_) HXI.out, textsB_succ HXI.out, HT.out]
                exact HF9.out.1.init, HF9.out.2, HMM.out⟩⟩
              case measure => simp [intOf]; omega
            · have b1 : (x.kind == 1) = false := beq_eq_false_iff_ne.2 hk1
              by_cases hk4 : x.kind = 4
              · have b4 : (x.kind == 4) = true := beq_iff_eq.2 hk4
                have HT : Hid (hasT x = true) := by unfold Hid hasT; rw [hk4]; rfl
                clear hk1 hk4
                go_wp2_with (first
                  | (at_builtin; have _u := HF8.out; clear _u; refine wpList_fam_bytes rfl _ _ rfl 5 vt (textsB (l.take i)) rfl HF8.out.1 rfl b8 o8 k8 c8 (textB x.text) HT8.out.2 rfl HT8.out.1 (by have h1 := HTL.out; have h2 := HT8.out.2; omega) HF8.out.2.size ?_; intro v9 w9 hF hg; have HF9 := show Hid (Fam w9 w.heap.size [rS v3 ((firsts (l.take i)) ++ [x.name]), rI v4 ((l.take i).map (·.kind) ++ [x.kind]), rI v5 (whichs (firsts (l.take i)) (l.take i) ++ [(q : Int)]), rI v6 ((l.take i).map (·.pos) ++ [x.pos]), rI v7 ((l.take i).map (·.by_) ++ [x.by_]), rB v9 (textsB (l.take i) ++ textB x.text), rO wr.heap.size x] ∧ After w w9) from ⟨hF, HF8.out.1.grown (k := 5) rfl hg HF8.out.2 (Nat.le_refl _)⟩; clear hF hg)
                  | (go_at_call 25; have _u := HF7.out; clear _u; refine Calls.mono (rtext_k x.text HX.out.2 w7) ?_; rintro e w8 ⟨b8, o8, k8, c8, he, hat, hk8, ha⟩; subst he; have HF8 := show Hid (Fam w8 w.heap.size [rS v3 ((firsts (l.take i)) ++ [x.name]), rI v4 ((l.take i).map (·.kind) ++ [x.kind]), rI v5 (whichs (firsts (l.take i)) (l.take i) ++ [(q : Int)]), rI v6 ((l.take i).map (·.pos) ++ [x.pos]), rI v7 ((l.take i).map (·.by_) ++ [x.by_]), rB vt (textsB (l.take i)), rO wr.heap.size x] ∧ After w w8) from ⟨HF7.out.1.after ha, After.trans HF7.out.2 ha⟩; have HT8 := show Hid (BytesAt w8 (some ⟨b8, o8, none⟩) (textB x.text) ∧ (textB x.text).length = k8) from ⟨hat, hk8⟩; clear hat hk8 ha)
                  | (at_builtin; have _u := HF6.out; clear _u; refine wpList_fam_int rfl _ _ rfl 4 vb ((l.take i).map (·.by_)) rfl HF6.out.1 rfl (x.by_) rfl (by rw [List.length_map, List.length_take]; omega) HF6.out.2.size 2 ?_; intro v7 w7 hF hg; have HF7 := show Hid (Fam w7 w.heap.size [rS v3 ((firsts (l.take i)) ++ [x.name]), rI v4 ((l.take i).map (·.kind) ++ [x.kind]), rI v5 (whichs (firsts (l.take i)) (l.take i) ++ [(q : Int)]), rI v6 ((l.take i).map (·.pos) ++ [x.pos]), rI v7 ((l.take i).map (·.by_) ++ [x.by_]), rB vt (textsB (l.take i)), rO wr.heap.size x] ∧ After w w7) from ⟨hF, (HF6.out.1.after (after_alloc (After.refl w6) _)).grown (k := 4) rfl hg (after_alloc HF6.out.2 _) (Nat.le_refl _)⟩; have c0 := (HF7.out.1.op (k := 6) rfl).cell (j := 0) rfl; have c4 := (HF7.out.1.op (k := 6) rfl).cell (j := 4) rfl; clear hF hg)
                  | (at_builtin; have _u := HF5.out; clear _u; refine wpList_fam_int rfl _ _ rfl 3 vp ((l.take i).map (·.pos)) rfl HF5.out.1 rfl (x.pos) rfl (by rw [List.length_map, List.length_take]; omega) HF5.out.2.size 2 ?_; intro v6 w6 hF hg; have HF6 := show Hid (Fam w6 w.heap.size [rS v3 ((firsts (l.take i)) ++ [x.name]), rI v4 ((l.take i).map (·.kind) ++ [x.kind]), rI v5 (whichs (firsts (l.take i)) (l.take i) ++ [(q : Int)]), rI v6 ((l.take i).map (·.pos) ++ [x.pos]), rI vb ((l.take i).map (·.by_)), rB vt (textsB (l.take i)), rO wr.heap.size x] ∧ After w w6) from ⟨hF, (HF5.out.1.after (after_alloc (After.refl w5) _)).grown (k := 3) rfl hg (after_alloc HF5.out.2 _) (Nat.le_refl _)⟩; have c3 := (HF6.out.1.op (k := 6) rfl).cell (j := 3) rfl; clear hF hg)
                  | (at_builtin; have _u := HF4.out; clear _u; refine wpList_fam_int rfl _ _ rfl 2 vw (whichs (firsts (l.take i)) (l.take i)) rfl HF4.out.1 rfl ((q : Int)) rfl (by unfold whichs; rw [List.length_map, List.length_take]; omega) HF4.out.2.size 2 ?_; intro v5 w5 hF hg; have HF5 := show Hid (Fam w5 w.heap.size [rS v3 ((firsts (l.take i)) ++ [x.name]), rI v4 ((l.take i).map (·.kind) ++ [x.kind]), rI v5 (whichs (firsts (l.take i)) (l.take i) ++ [(q : Int)]), rI vp ((l.take i).map (·.pos)), rI vb ((l.take i).map (·.by_)), rB vt (textsB (l.take i)), rO wr.heap.size x] ∧ After w w5) from ⟨hF, (HF4.out.1.after (after_alloc (After.refl w4) _)).grown (k := 2) rfl hg (after_alloc HF4.out.2 _) (Nat.le_refl _)⟩; have c2 := (HF5.out.1.op (k := 6) rfl).cell (j := 2) rfl; clear hF hg)
                  | (at_builtin; have _u := HF3.out; clear _u; refine wpList_fam_int rfl _ _ rfl 1 vk ((l.take i).map (·.kind)) rfl HF3.out.1 rfl (x.kind) rfl (by rw [List.length_map, List.length_take]; omega) HF3.out.2.size 2 ?_; intro v4 w4 hF hg; have HF4 := show Hid (Fam w4 w.heap.size [rS v3 ((firsts (l.take i)) ++ [x.name]), rI v4 ((l.take i).map (·.kind) ++ [x.kind]), rI vw (whichs (firsts (l.take i)) (l.take i)), rI vp ((l.take i).map (·.pos)), rI vb ((l.take i).map (·.by_)), rB vt (textsB (l.take i)), rO wr.heap.size x] ∧ After w w4) from ⟨hF, (HF3.out.1.after (after_alloc (After.refl w3) _)).grown (k := 1) rfl hg (after_alloc HF3.out.2 _) (Nat.le_refl _)⟩; clear hF hg)
                  | (at_builtin; have _u := HF2.out; clear _u; refine wpList_fam_str rfl _ _ rfl 0 (.slice aN K cN) (firsts (l.take i)) rfl HF2.out.1 rfl (x.name) rfl (by have := HK.out.1; omega) HF2.out.2.size 9 ?_; intro v3 w3 hF hg; have HF3 := show Hid (Fam w3 w.heap.size [rS v3 ((firsts (l.take i)) ++ [x.name]), rI vk ((l.take i).map (·.kind)), rI vw (whichs (firsts (l.take i)) (l.take i)), rI vp ((l.take i).map (·.pos)), rI vb ((l.take i).map (·.by_)), rB vt (textsB (l.take i)), rO wr.heap.size x] ∧ After w w3) from ⟨hF, (HF2.out.1.after (after_alloc (After.refl w2) _)).grown (k := 0) rfl hg (after_alloc HF2.out.2 _) (Nat.le_refl _)⟩; have c0 := (HF3.out.1.op (k := 6) rfl).cell (j := 0) rfl; clear hF hg)
                  | (go_at_call 24; have _u := HF2.out; clear _u; refine Calls.mono (find_any aN K cN (firsts (l.take i)) x.name HK.out.1 (by omega) w2 (strs_at (HF2.out.1.own 0 _ rfl))) ?_; rw [HQ.out]; rintro e w3 ⟨rfl, hw3⟩; have hw3' := hw3.symm; clear hw3; subst hw3')
                  | (go_at_call 22; refine Calls.mono (may_any x HX.out.1 w1) ?_; rw [hm]; rintro e w2 ⟨rfl, ha⟩; have HF2 := show Hid (Fam w2 w.heap.size [rS (.slice aN K cN) (firsts (l.take i)), rI vk ((l.take i).map (·.kind)), rI vw (whichs (firsts (l.take i)) (l.take i)), rI vp ((l.take i).map (·.pos)), rI vb ((l.take i).map (·.by_)), rB vt (textsB (l.take i)), rO wr.heap.size x] ∧ After w w2) from ⟨HF1.out.1.after ha, After.trans HF1.out.2 ha⟩; have c1 := (HF2.out.1.op (k := 6) rfl).cell (j := 1) rfl; clear ha)
                  | (refine wpList_load_row rfl 23 (.tmp 11) rfl wr.heap.size rfl 23 _ (0, 0) _ (HF1.out.1.op (k := 6) rfl) Try.underlying23 rfl (by kernel_rfl) ?_)
                  | (refine wpList_store_row rfl 23 (.tmp 11) (.tmp 27) rfl wr.heap.size _ rfl rfl 23 _ (heap_alloc_new wr _) (by kernel_rfl) rfl (by kernel_rfl) ?_; have HF1 := show Hid (Fam ((wr.alloc (.cells #[.int .i64 0, .string ⟨#[]⟩, .int .i64 0, .int .i64 0, .string ⟨#[]⟩] 23)).setRow wr.heap.size (oc x).toArray) w.heap.size (pR (.slice aN K cN) vk vw vp vb vt (l.take i) ++ [rO wr.heap.size x]) ∧ After w ((wr.alloc (.cells #[.int .i64 0, .string ⟨#[]⟩, .int .i64 0, .int .i64 0, .string ⟨#[]⟩] 23)).setRow wr.heap.size (oc x).toArray)) from ⟨fam_new HI.out.fam HI.out.aft.size _ x, after_setRow (after_alloc HI.out.aft _) HI.out.aft.size _⟩; revert HF1; generalize (wr.alloc (.cells #[.int .i64 0, .string ⟨#[]⟩, .int .i64 0, .int .i64 0, .string ⟨#[]⟩] 23)).setRow wr.heap.size (oc x).toArray = w1; intro HF1)
                  | (refine wpList_load_mid rfl 23 (.tmp 26) rfl b (o + i * 5) rfl [.int .i64 x.kind, .string (strOf x.name), .int .i64 x.pos, .int .i64 x.by_, .string (strOf x.text)] _ HR.out Try.underlying23 rfl size23 ?_))
                go_roundw
                case rel => exact ⟨i + 1, by go_num, by omega, ⟨by
                  have hW := whichs_succ HXI.out
                  rw [firsts_succ HXI.out, HN.out, HQ.out] at hW
                  unfold pR
                  rw [firsts_succ HXI.out, HN.out, hW, map_succ (·.kind) HXI.out, map_succ (·.pos) HXI.out, map_succ (·.by_) HXI.out, textsB_succ HXI.out, HT.out]
                  exact HF9.out.1.init, HF9.out.2, HMM.out⟩⟩
                case measure => simp [intOf]; omega
              · have b4 : (x.kind == 4) = false := beq_eq_false_iff_ne.2 hk4
                have HT : Hid (hasT x = false) := by unfold Hid hasT; rw [decide_eq_false hk1, decide_eq_false hk4]; rfl
                clear hk1 hk4
                go_wp2_with (first
                  | (at_builtin; have _u := HF6.out; clear _u; refine wpList_fam_int rfl _ _ rfl 4 vb ((l.take i).map (·.by_)) rfl HF6.out.1 rfl (x.by_) rfl (by rw [List.length_map, List.length_take]; omega) HF6.out.2.size 2 ?_; intro v7 w7 hF hg; have HF7 := show Hid (Fam w7 w.heap.size [rS v3 ((firsts (l.take i)) ++ [x.name]), rI v4 ((l.take i).map (·.kind) ++ [x.kind]), rI v5 (whichs (firsts (l.take i)) (l.take i) ++ [(q : Int)]), rI v6 ((l.take i).map (·.pos) ++ [x.pos]), rI v7 ((l.take i).map (·.by_) ++ [x.by_]), rB vt (textsB (l.take i)), rO wr.heap.size x] ∧ After w w7) from ⟨hF, (HF6.out.1.after (after_alloc (After.refl w6) _)).grown (k := 4) rfl hg (after_alloc HF6.out.2 _) (Nat.le_refl _)⟩; have c0 := (HF7.out.1.op (k := 6) rfl).cell (j := 0) rfl; clear hF hg)
                  | (at_builtin; have _u := HF5.out; clear _u; refine wpList_fam_int rfl _ _ rfl 3 vp ((l.take i).map (·.pos)) rfl HF5.out.1 rfl (x.pos) rfl (by rw [List.length_map, List.length_take]; omega) HF5.out.2.size 2 ?_; intro v6 w6 hF hg; have HF6 := show Hid (Fam w6 w.heap.size [rS v3 ((firsts (l.take i)) ++ [x.name]), rI v4 ((l.take i).map (·.kind) ++ [x.kind]), rI v5 (whichs (firsts (l.take i)) (l.take i) ++ [(q : Int)]), rI v6 ((l.take i).map (·.pos) ++ [x.pos]), rI vb ((l.take i).map (·.by_)), rB vt (textsB (l.take i)), rO wr.heap.size x] ∧ After w w6) from ⟨hF, (HF5.out.1.after (after_alloc (After.refl w5) _)).grown (k := 3) rfl hg (after_alloc HF5.out.2 _) (Nat.le_refl _)⟩; have c3 := (HF6.out.1.op (k := 6) rfl).cell (j := 3) rfl; clear hF hg)
                  | (at_builtin; have _u := HF4.out; clear _u; refine wpList_fam_int rfl _ _ rfl 2 vw (whichs (firsts (l.take i)) (l.take i)) rfl HF4.out.1 rfl ((q : Int)) rfl (by unfold whichs; rw [List.length_map, List.length_take]; omega) HF4.out.2.size 2 ?_; intro v5 w5 hF hg; have HF5 := show Hid (Fam w5 w.heap.size [rS v3 ((firsts (l.take i)) ++ [x.name]), rI v4 ((l.take i).map (·.kind) ++ [x.kind]), rI v5 (whichs (firsts (l.take i)) (l.take i) ++ [(q : Int)]), rI vp ((l.take i).map (·.pos)), rI vb ((l.take i).map (·.by_)), rB vt (textsB (l.take i)), rO wr.heap.size x] ∧ After w w5) from ⟨hF, (HF4.out.1.after (after_alloc (After.refl w4) _)).grown (k := 2) rfl hg (after_alloc HF4.out.2 _) (Nat.le_refl _)⟩; have c2 := (HF5.out.1.op (k := 6) rfl).cell (j := 2) rfl; clear hF hg)
                  | (at_builtin; have _u := HF3.out; clear _u; refine wpList_fam_int rfl _ _ rfl 1 vk ((l.take i).map (·.kind)) rfl HF3.out.1 rfl (x.kind) rfl (by rw [List.length_map, List.length_take]; omega) HF3.out.2.size 2 ?_; intro v4 w4 hF hg; have HF4 := show Hid (Fam w4 w.heap.size [rS v3 ((firsts (l.take i)) ++ [x.name]), rI v4 ((l.take i).map (·.kind) ++ [x.kind]), rI vw (whichs (firsts (l.take i)) (l.take i)), rI vp ((l.take i).map (·.pos)), rI vb ((l.take i).map (·.by_)), rB vt (textsB (l.take i)), rO wr.heap.size x] ∧ After w w4) from ⟨hF, (HF3.out.1.after (after_alloc (After.refl w3) _)).grown (k := 1) rfl hg (after_alloc HF3.out.2 _) (Nat.le_refl _)⟩; clear hF hg)
                  | (at_builtin; have _u := HF2.out; clear _u; refine wpList_fam_str rfl _ _ rfl 0 (.slice aN K cN) (firsts (l.take i)) rfl HF2.out.1 rfl (x.name) rfl (by have := HK.out.1; omega) HF2.out.2.size 9 ?_; intro v3 w3 hF hg; have HF3 := show Hid (Fam w3 w.heap.size [rS v3 ((firsts (l.take i)) ++ [x.name]), rI vk ((l.take i).map (·.kind)), rI vw (whichs (firsts (l.take i)) (l.take i)), rI vp ((l.take i).map (·.pos)), rI vb ((l.take i).map (·.by_)), rB vt (textsB (l.take i)), rO wr.heap.size x] ∧ After w w3) from ⟨hF, (HF2.out.1.after (after_alloc (After.refl w2) _)).grown (k := 0) rfl hg (after_alloc HF2.out.2 _) (Nat.le_refl _)⟩; have c0 := (HF3.out.1.op (k := 6) rfl).cell (j := 0) rfl; clear hF hg)
                  | (go_at_call 24; have _u := HF2.out; clear _u; refine Calls.mono (find_any aN K cN (firsts (l.take i)) x.name HK.out.1 (by omega) w2 (strs_at (HF2.out.1.own 0 _ rfl))) ?_; rw [HQ.out]; rintro e w3 ⟨rfl, hw3⟩; have hw3' := hw3.symm; clear hw3; subst hw3')
                  | (go_at_call 22; refine Calls.mono (may_any x HX.out.1 w1) ?_; rw [hm]; rintro e w2 ⟨rfl, ha⟩; have HF2 := show Hid (Fam w2 w.heap.size [rS (.slice aN K cN) (firsts (l.take i)), rI vk ((l.take i).map (·.kind)), rI vw (whichs (firsts (l.take i)) (l.take i)), rI vp ((l.take i).map (·.pos)), rI vb ((l.take i).map (·.by_)), rB vt (textsB (l.take i)), rO wr.heap.size x] ∧ After w w2) from ⟨HF1.out.1.after ha, After.trans HF1.out.2 ha⟩; have c1 := (HF2.out.1.op (k := 6) rfl).cell (j := 1) rfl; clear ha)
                  | (refine wpList_load_row rfl 23 (.tmp 11) rfl wr.heap.size rfl 23 _ (0, 0) _ (HF1.out.1.op (k := 6) rfl) Try.underlying23 rfl (by kernel_rfl) ?_)
                  | (refine wpList_store_row rfl 23 (.tmp 11) (.tmp 27) rfl wr.heap.size _ rfl rfl 23 _ (heap_alloc_new wr _) (by kernel_rfl) rfl (by kernel_rfl) ?_; have HF1 := show Hid (Fam ((wr.alloc (.cells #[.int .i64 0, .string ⟨#[]⟩, .int .i64 0, .int .i64 0, .string ⟨#[]⟩] 23)).setRow wr.heap.size (oc x).toArray) w.heap.size (pR (.slice aN K cN) vk vw vp vb vt (l.take i) ++ [rO wr.heap.size x]) ∧ After w ((wr.alloc (.cells #[.int .i64 0, .string ⟨#[]⟩, .int .i64 0, .int .i64 0, .string ⟨#[]⟩] 23)).setRow wr.heap.size (oc x).toArray)) from ⟨fam_new HI.out.fam HI.out.aft.size _ x, after_setRow (after_alloc HI.out.aft _) HI.out.aft.size _⟩; revert HF1; generalize (wr.alloc (.cells #[.int .i64 0, .string ⟨#[]⟩, .int .i64 0, .int .i64 0, .string ⟨#[]⟩] 23)).setRow wr.heap.size (oc x).toArray = w1; intro HF1)
                  | (refine wpList_load_mid rfl 23 (.tmp 26) rfl b (o + i * 5) rfl [.int .i64 x.kind, .string (strOf x.name), .int .i64 x.pos, .int .i64 x.by_, .string (strOf x.text)] _ HR.out Try.underlying23 rfl size23 ?_))
                go_roundw
                case rel => exact ⟨i + 1, by go_num, by omega, ⟨by
                  have hW := whichs_succ HXI.out
                  rw [firsts_succ HXI.out, HN.out, HQ.out] at hW
                  unfold pR
                  rw [firsts_succ HXI.out, HN.out, hW, map_succ (·.kind) HXI.out, map_succ (·.pos) HXI.out, map_succ (·.by_) HXI.out, textsB_succ HXI.out, HT.out]
                  simp only [Bool.false_eq_true, if_false, List.append_nil]
                  exact HF7.out.1.init, HF7.out.2, HMM.out⟩⟩
                case measure => simp [intOf]; omega
          · have HN : Hid (more (firsts (l.take i)) x = firsts (l.take i)) := by
              unfold Hid more
              rw [if_pos (by have h1 : (firsts (l.take i)).idxOf x.name < (firsts (l.take i)).length := by { rw [hq, HK.out.1]; omega }
                             exact List.idxOf_lt_length_iff.1 h1)]
            have hqe : ((q : Int) == (K : Int)) = false := beq_eq_false_iff_ne.2 (by omega)
            have hqn : ¬ (q : Int) = (K : Int) := by omega
            clear hq hnew
            by_cases hk1 : x.kind = 1
            · have b1 : (x.kind == 1) = true := beq_iff_eq.2 hk1
              have HT : Hid (hasT x = true) := by unfold Hid hasT; rw [hk1]; rfl
              clear hk1
              go_wp2_with (first
                | (at_builtin; have _u := HF8.out; clear _u; refine wpList_fam_bytes rfl _ _ rfl 5 vt (textsB (l.take i)) rfl HF8.out.1 rfl b8 o8 k8 c8 (textB x.text) HT8.out.2 rfl HT8.out.1 (by have h1 := HTL.out; have h2 := HT8.out.2; omega) HF8.out.2.size ?_; intro v9 w9 hF hg; have HF9 := show Hid (Fam w9 w.heap.size [rS (.slice aN K cN) (firsts (l.take i)), rI v4 ((l.take i).map (·.kind) ++ [x.kind]), rI v5 (whichs (firsts (l.take i)) (l.take i) ++ [(q : Int)]), rI v6 ((l.take i).map (·.pos) ++ [x.pos]), rI v7 ((l.take i).map (·.by_) ++ [x.by_]), rB v9 (textsB (l.take i) ++ textB x.text), rO wr.heap.size x] ∧ After w w9) from ⟨hF, HF8.out.1.grown (k := 5) rfl hg HF8.out.2 (Nat.le_refl _)⟩; clear hF hg)
                | (go_at_call 25; have _u := HF7.out; clear _u; refine Calls.mono (rtext_k x.text HX.out.2 w7) ?_; rintro e w8 ⟨b8, o8, k8, c8, he, hat, hk8, ha⟩; subst he; have HF8 := show Hid (Fam w8 w.heap.size [rS (.slice aN K cN) (firsts (l.take i)), rI v4 ((l.take i).map (·.kind) ++ [x.kind]), rI v5 (whichs (firsts (l.take i)) (l.take i) ++ [(q : Int)]), rI v6 ((l.take i).map (·.pos) ++ [x.pos]), rI v7 ((l.take i).map (·.by_) ++ [x.by_]), rB vt (textsB (l.take i)), rO wr.heap.size x] ∧ After w w8) from ⟨HF7.out.1.after ha, After.trans HF7.out.2 ha⟩; have HT8 := show Hid (BytesAt w8 (some ⟨b8, o8, none⟩) (textB x.text) ∧ (textB x.text).length = k8) from ⟨hat, hk8⟩; clear hat hk8 ha)
                | (at_builtin; have _u := HF6.out; clear _u; refine wpList_fam_int rfl _ _ rfl 4 vb ((l.take i).map (·.by_)) rfl HF6.out.1 rfl (x.by_) rfl (by rw [List.length_map, List.length_take]; omega) HF6.out.2.size 2 ?_; intro v7 w7 hF hg; have HF7 := show Hid (Fam w7 w.heap.size [rS (.slice aN K cN) (firsts (l.take i)), rI v4 ((l.take i).map (·.kind) ++ [x.kind]), rI v5 (whichs (firsts (l.take i)) (l.take i) ++ [(q : Int)]), rI v6 ((l.take i).map (·.pos) ++ [x.pos]), rI v7 ((l.take i).map (·.by_) ++ [x.by_]), rB vt (textsB (l.take i)), rO wr.heap.size x] ∧ After w w7) from ⟨hF, (HF6.out.1.after (after_alloc (After.refl w6) _)).grown (k := 4) rfl hg (after_alloc HF6.out.2 _) (Nat.le_refl _)⟩; have c0 := (HF7.out.1.op (k := 6) rfl).cell (j := 0) rfl; have c4 := (HF7.out.1.op (k := 6) rfl).cell (j := 4) rfl; clear hF hg)
                | (at_builtin; have _u := HF5.out; clear _u; refine wpList_fam_int rfl _ _ rfl 3 vp ((l.take i).map (·.pos)) rfl HF5.out.1 rfl (x.pos) rfl (by rw [List.length_map, List.length_take]; omega) HF5.out.2.size 2 ?_; intro v6 w6 hF hg; have HF6 := show Hid (Fam w6 w.heap.size [rS (.slice aN K cN) (firsts (l.take i)), rI v4 ((l.take i).map (·.kind) ++ [x.kind]), rI v5 (whichs (firsts (l.take i)) (l.take i) ++ [(q : Int)]), rI v6 ((l.take i).map (·.pos) ++ [x.pos]), rI vb ((l.take i).map (·.by_)), rB vt (textsB (l.take i)), rO wr.heap.size x] ∧ After w w6) from ⟨hF, (HF5.out.1.after (after_alloc (After.refl w5) _)).grown (k := 3) rfl hg (after_alloc HF5.out.2 _) (Nat.le_refl _)⟩; have c3 := (HF6.out.1.op (k := 6) rfl).cell (j := 3) rfl; clear hF hg)
                | (at_builtin; have _u := HF4.out; clear _u; refine wpList_fam_int rfl _ _ rfl 2 vw (whichs (firsts (l.take i)) (l.take i)) rfl HF4.out.1 rfl ((q : Int)) rfl (by unfold whichs; rw [List.length_map, List.length_take]; omega) HF4.out.2.size 2 ?_; intro v5 w5 hF hg; have HF5 := show Hid (Fam w5 w.heap.size [rS (.slice aN K cN) (firsts (l.take i)), rI v4 ((l.take i).map (·.kind) ++ [x.kind]), rI v5 (whichs (firsts (l.take i)) (l.take i) ++ [(q : Int)]), rI vp ((l.take i).map (·.pos)), rI vb ((l.take i).map (·.by_)), rB vt (textsB (l.take i)), rO wr.heap.size x] ∧ After w w5) from ⟨hF, (HF4.out.1.after (after_alloc (After.refl w4) _)).grown (k := 2) rfl hg (after_alloc HF4.out.2 _) (Nat.le_refl _)⟩; have c2 := (HF5.out.1.op (k := 6) rfl).cell (j := 2) rfl; clear hF hg)
                | (at_builtin; have _u := HF2.out; clear _u; refine wpList_fam_int rfl _ _ rfl 1 vk ((l.take i).map (·.kind)) rfl HF2.out.1 rfl (x.kind) rfl (by rw [List.length_map, List.length_take]; omega) HF2.out.2.size 2 ?_; intro v4 w4 hF hg; have HF4 := show Hid (Fam w4 w.heap.size [rS (.slice aN K cN) (firsts (l.take i)), rI v4 ((l.take i).map (·.kind) ++ [x.kind]), rI vw (whichs (firsts (l.take i)) (l.take i)), rI vp ((l.take i).map (·.pos)), rI vb ((l.take i).map (·.by_)), rB vt (textsB (l.take i)), rO wr.heap.size x] ∧ After w w4) from ⟨hF, (HF2.out.1.after (after_alloc (After.refl w2) _)).grown (k := 1) rfl hg (after_alloc HF2.out.2 _) (Nat.le_refl _)⟩; clear hF hg)
                | (go_at_call 24; have _u := HF2.out; clear _u; refine Calls.mono (find_any aN K cN (firsts (l.take i)) x.name HK.out.1 (by omega) w2 (strs_at (HF2.out.1.own 0 _ rfl))) ?_; rw [HQ.out]; rintro e w3 ⟨rfl, hw3⟩; have hw3' := hw3.symm; clear hw3; subst hw3')
                | (go_at_call 22; refine Calls.mono (may_any x HX.out.1 w1) ?_; rw [hm]; rintro e w2 ⟨rfl, ha⟩; have HF2 := show Hid (Fam w2 w.heap.size [rS (.slice aN K cN) (firsts (l.take i)), rI vk ((l.take i).map (·.kind)), rI vw (whichs (firsts (l.take i)) (l.take i)), rI vp ((l.take i).map (·.pos)), rI vb ((l.take i).map (·.by_)), rB vt (textsB (l.take i)), rO wr.heap.size x] ∧ After w w2) from ⟨HF1.out.1.after ha, After.trans HF1.out.2 ha⟩; have c1 := (HF2.out.1.op (k := 6) rfl).cell (j := 1) rfl; have c0 := (HF2.out.1.op (k := 6) rfl).cell (j := 0) rfl; clear ha)
                | (refine wpList_load_row rfl 23 (.tmp 11) rfl wr.heap.size rfl 23 _ (0, 0) _ (HF1.out.1.op (k := 6) rfl) Try.underlying23 rfl (by kernel_rfl) ?_)
                | (refine wpList_store_row rfl 23 (.tmp 11) (.tmp 27) rfl wr.heap.size _ rfl rfl 23 _ (heap_alloc_new wr _) (by kernel_rfl) rfl (by kernel_rfl) ?_; have HF1 := show Hid (Fam ((wr.alloc (.cells #[.int .i64 0, .string ⟨#[]⟩, .int .i64 0, .int .i64 0, .string ⟨#[]⟩] 23)).setRow wr.heap.size (oc x).toArray) w.heap.size (pR (.slice aN K cN) vk vw vp vb vt (l.take i) ++ [rO wr.heap.size x]) ∧ After w ((wr.alloc (.cells #[.int .i64 0, .string ⟨#[]⟩, .int .i64 0, .int .i64 0, .string ⟨#[]⟩] 23)).setRow wr.heap.size (oc x).toArray)) from ⟨fam_new HI.out.fam HI.out.aft.size _ x, after_setRow (after_alloc HI.out.aft _) HI.out.aft.size _⟩; revert HF1; generalize (wr.alloc (.cells #[.int .i64 0, .string ⟨#[]⟩, .int .i64 0, .int .i64 0, .string ⟨#[]⟩] 23)).setRow wr.heap.size (oc x).toArray = w1; intro HF1)
                | (refine wpList_load_mid rfl 23 (.tmp 26) rfl b (o + i * 5) rfl [.int .i64 x.kind, .string (strOf x.name), .int .i64 x.pos, .int .i64 x.by_, .string (strOf x.text)] _ HR.out Try.underlying23 rfl size23 ?_))
              go_roundw
              case rel => exact ⟨i + 1, by go_num, by omega, ⟨by
                have hW := whichs_succ HXI.out
                rw [firsts_succ HXI.out, HN.out, HQ.out] at hW
                unfold pR
                rw [firsts_succ HXI.out, HN.out, hW, map_succ (·.kind) HXI.out, map_succ (·.pos) HXI.out, map_succ (·.by_) HXI.out, textsB_succ HXI.out, HT.out]
                exact HF9.out.1.init, HF9.out.2, HMM.out⟩⟩
              case measure => simp [intOf]; omega
            · have b1 : (x.kind == 1) = false := beq_eq_false_iff_ne.2 hk1
              by_cases hk4 : x.kind = 4
              · have b4 : (x.kind == 4) = true := beq_iff_eq.2 hk4
                have HT : Hid (hasT x = true) := by unfold Hid hasT; rw [hk4]; rfl
                clear hk1 hk4
                go_wp2_with (first
                  | (at_builtin; have _u := HF8.out; clear _u; refine wpList_fam_bytes rfl _ _ rfl 5 vt (textsB (l.take i)) rfl HF8.out.1 rfl b8 o8 k8 c8 (textB x.text) HT8.out.2 rfl HT8.out.1 (by have h1 := HTL.out; have h2 := HT8.out.2; omega) HF8.out.2.size ?_; intro v9 w9 hF hg; have HF9 := show Hid (Fam w9 w.heap.size [rS (.slice aN K cN) (firsts (l.take i)), rI v4 ((l.take i).map (·.kind) ++ [x.kind]), rI v5 (whichs (firsts (l.take i)) (l.take i) ++ [(q : Int)]), rI v6 ((l.take i).map (·.pos) ++ [x.pos]), rI v7 ((l.take i).map (·.by_) ++ [x.by_]), rB v9 (textsB (l.take i) ++ textB x.text), rO wr.heap.size x] ∧ After w w9) from ⟨hF, HF8.out.1.grown (k := 5) rfl hg HF8.out.2 (Nat.le_refl _)⟩; clear hF hg)
                  | (go_at_call 25; have _u := HF7.out; clear _u; refine Calls.mono (rtext_k x.text HX.out.2 w7) ?_; rintro e w8 ⟨b8, o8, k8, c8, he, hat, hk8, ha⟩; subst he; have HF8 := show Hid (Fam w8 w.heap.size [rS (.slice aN K cN) (firsts (l.take i)), rI v4 ((l.take i).map (·.kind) ++ [x.kind]), rI v5 (whichs (firsts (l.take i)) (l.take i) ++ [(q : Int)]), rI v6 ((l.take i).map (·.pos) ++ [x.pos]), rI v7 ((l.take i).map (·.by_) ++ [x.by_]), rB vt (textsB (l.take i)), rO wr.heap.size x] ∧ After w w8) from ⟨HF7.out.1.after ha, After.trans HF7.out.2 ha⟩; have HT8 := show Hid (BytesAt w8 (some ⟨b8, o8, none⟩) (textB x.text) ∧ (textB x.text).length = k8) from ⟨hat, hk8⟩; clear hat hk8 ha)
                  | (at_builtin; have _u := HF6.out; clear _u; refine wpList_fam_int rfl _ _ rfl 4 vb ((l.take i).map (·.by_)) rfl HF6.out.1 rfl (x.by_) rfl (by rw [List.length_map, List.length_take]; omega) HF6.out.2.size 2 ?_; intro v7 w7 hF hg; have HF7 := show Hid (Fam w7 w.heap.size [rS (.slice aN K cN) (firsts (l.take i)), rI v4 ((l.take i).map (·.kind) ++ [x.kind]), rI v5 (whichs (firsts (l.take i)) (l.take i) ++ [(q : Int)]), rI v6 ((l.take i).map (·.pos) ++ [x.pos]), rI v7 ((l.take i).map (·.by_) ++ [x.by_]), rB vt (textsB (l.take i)), rO wr.heap.size x] ∧ After w w7) from ⟨hF, (HF6.out.1.after (after_alloc (After.refl w6) _)).grown (k := 4) rfl hg (after_alloc HF6.out.2 _) (Nat.le_refl _)⟩; have c0 := (HF7.out.1.op (k := 6) rfl).cell (j := 0) rfl; have c4 := (HF7.out.1.op (k := 6) rfl).cell (j := 4) rfl; clear hF hg)
                  | (at_builtin; have _u := HF5.out; clear _u; refine wpList_fam_int rfl _ _ rfl 3 vp ((l.take i).map (·.pos)) rfl HF5.out.1 rfl (x.pos) rfl (by rw [List.length_map, List.length_take]; omega) HF5.out.2.size 2 ?_; intro v6 w6 hF hg; have HF6 := show Hid (Fam w6 w.heap.size [rS (.slice aN K cN) (firsts (l.take i)), rI v4 ((l.take i).map (·.kind) ++ [x.kind]), rI v5 (whichs (firsts (l.take i)) (l.take i) ++ [(q : Int)]), rI v6 ((l.take i).map (·.pos) ++ [x.pos]), rI vb ((l.take i).map (·.by_)), rB vt (textsB (l.take i)), rO wr.heap.size x] ∧ After w w6) from ⟨hF, (HF5.out.1.after (after_alloc (After.refl w5) _)).grown (k := 3) rfl hg (after_alloc HF5.out.2 _) (Nat.le_refl _)⟩; have c3 := (HF6.out.1.op (k := 6) rfl).cell (j := 3) rfl; clear hF hg)
                  | (at_builtin; have _u := HF4.out; clear _u; refine wpList_fam_int rfl _ _ rfl 2 vw (whichs (firsts (l.take i)) (l.take i)) rfl HF4.out.1 rfl ((q : Int)) rfl (by unfold whichs; rw [List.length_map, List.length_take]; omega) HF4.out.2.size 2 ?_; intro v5 w5 hF hg; have HF5 := show Hid (Fam w5 w.heap.size [rS (.slice aN K cN) (firsts (l.take i)), rI v4 ((l.take i).map (·.kind) ++ [x.kind]), rI v5 (whichs (firsts (l.take i)) (l.take i) ++ [(q : Int)]), rI vp ((l.take i).map (·.pos)), rI vb ((l.take i).map (·.by_)), rB vt (textsB (l.take i)), rO wr.heap.size x] ∧ After w w5) from ⟨hF, (HF4.out.1.after (after_alloc (After.refl w4) _)).grown (k := 2) rfl hg (after_alloc HF4.out.2 _) (Nat.le_refl _)⟩; have c2 := (HF5.out.1.op (k := 6) rfl).cell (j := 2) rfl; clear hF hg)
                  | (at_builtin; have _u := HF2.out; clear _u; refine wpList_fam_int rfl _ _ rfl 1 vk ((l.take i).map (·.kind)) rfl HF2.out.1 rfl (x.kind) rfl (by rw [List.length_map, List.length_take]; omega) HF2.out.2.size 2 ?_; intro v4 w4 hF hg; have HF4 := show Hid (Fam w4 w.heap.size [rS (.slice aN K cN) (firsts (l.take i)), rI v4 ((l.take i).map (·.kind) ++ [x.kind]), rI vw (whichs (firsts (l.take i)) (l.take i)), rI vp ((l.take i).map (·.pos)), rI vb ((l.take i).map (·.by_)), rB vt (textsB (l.take i)), rO wr.heap.size x] ∧ After w w4) from ⟨hF, (HF2.out.1.after (after_alloc (After.refl w2) _)).grown (k := 1) rfl hg (after_alloc HF2.out.2 _) (Nat.le_refl _)⟩; clear hF hg)
                  | (go_at_call 24; have _u := HF2.out; clear _u; refine Calls.mono (find_any aN K cN (firsts (l.take i)) x.name HK.out.1 (by omega) w2 (strs_at (HF2.out.1.own 0 _ rfl))) ?_; rw [HQ.out]; rintro e w3 ⟨rfl, hw3⟩; have hw3' := hw3.symm; clear hw3; subst hw3')
                  | (go_at_call 22; refine Calls.mono (may_any x HX.out.1 w1) ?_; rw [hm]; rintro e w2 ⟨rfl, ha⟩; have HF2 := show Hid (Fam w2 w.heap.size [rS (.slice aN K cN) (firsts (l.take i)), rI vk ((l.take i).map (·.kind)), rI vw (whichs (firsts (l.take i)) (l.take i)), rI vp ((l.take i).map (·.pos)), rI vb ((l.take i).map (·.by_)), rB vt (textsB (l.take i)), rO wr.heap.size x] ∧ After w w2) from ⟨HF1.out.1.after ha, After.trans HF1.out.2 ha⟩; have c1 := (HF2.out.1.op (k := 6) rfl).cell (j := 1) rfl; have c0 := (HF2.out.1.op (k := 6) rfl).cell (j := 0) rfl; clear ha)
                  | (refine wpList_load_row rfl 23 (.tmp 11) rfl wr.heap.size rfl 23 _ (0, 0) _ (HF1.out.1.op (k := 6) rfl) Try.underlying23 rfl (by kernel_rfl) ?_)
                  | (refine wpList_store_row rfl 23 (.tmp 11) (.tmp 27) rfl wr.heap.size _ rfl rfl 23 _ (heap_alloc_new wr _) (by kernel_rfl) rfl (by kernel_rfl) ?_; have HF1 := show Hid (Fam ((wr.alloc (.cells #[.int .i64 0, .string ⟨#[]⟩, .int .i64 0, .int .i64 0, .string ⟨#[]⟩] 23)).setRow wr.heap.size (oc x).toArray) w.heap.size (pR (.slice aN K cN) vk vw vp vb vt (l.take i) ++ [rO wr.heap.size x]) ∧ After w ((wr.alloc (.cells #[.int .i64 0, .string ⟨#[]⟩, .int .i64 0, .int .i64 0, .string ⟨#[]⟩] 23)).setRow wr.heap.size (oc x).toArray)) from ⟨fam_new HI.out.fam HI.out.aft.size _ x, after_setRow (after_alloc HI.out.aft _) HI.out.aft.size _⟩; revert HF1; generalize (wr.alloc (.cells #[.int .i64 0, .string ⟨#[]⟩, .int .i64 0, .int .i64 0, .string ⟨#[]⟩] 23)).setRow wr.heap.size (oc x).toArray = w1; intro HF1)
                  | (refine wpList_load_mid rfl 23 (.tmp 26) rfl b (o + i * 5) rfl [.int .i64 x.kind, .string (strOf x.name), .int .i64 x.pos, .int .i64 x.by_, .string (strOf x.text)] _ HR.out Try.underlying23 rfl size23 ?_))
                go_roundw
                case rel => exact ⟨i + 1, by go_num, by omega, ⟨by
                  have hW := whichs_succ HXI.out
                  rw [firsts_succ HXI.out, HN.out, HQ.out] at hW
                  unfold pR
                  rw [firsts_succ HXI.out, HN.out, hW, map_succ (·.kind) HXI.out, map_succ (·.pos) HXI.out, map_succ (·.by_) HXI.out, textsB_succ HXI.out, HT.out]
                  exact HF9.out.1.init, HF9.out.2, HMM.out⟩⟩
                case measure => simp [intOf]; omega
              · have b4 : (x.kind == 4) = false := beq_eq_false_iff_ne.2 hk4
                have HT : Hid (hasT x = false) := by unfold Hid hasT; rw [decide_eq_false hk1, decide_eq_false hk4]; rfl
                clear hk1 hk4
                go_wp2_with (first
                  | (at_builtin; have _u := HF6.out; clear _u; refine wpList_fam_int rfl _ _ rfl 4 vb ((l.take i).map (·.by_)) rfl HF6.out.1 rfl (x.by_) rfl (by rw [List.length_map, List.length_take]; omega) HF6.out.2.size 2 ?_; intro v7 w7 hF hg; have HF7 := show Hid (Fam w7 w.heap.size [rS (.slice aN K cN) (firsts (l.take i)), rI v4 ((l.take i).map (·.kind) ++ [x.kind]), rI v5 (whichs (firsts (l.take i)) (l.take i) ++ [(q : Int)]), rI v6 ((l.take i).map (·.pos) ++ [x.pos]), rI v7 ((l.take i).map (·.by_) ++ [x.by_]), rB vt (textsB (l.take i)), rO wr.heap.size x] ∧ After w w7) from ⟨hF, (HF6.out.1.after (after_alloc (After.refl w6) _)).grown (k := 4) rfl hg (after_alloc HF6.out.2 _) (Nat.le_refl _)⟩; have c0 := (HF7.out.1.op (k := 6) rfl).cell (j := 0) rfl; clear hF hg)
                  | (at_builtin; have _u := HF5.out; clear _u; refine wpList_fam_int rfl _ _ rfl 3 vp ((l.take i).map (·.pos)) rfl HF5.out.1 rfl (x.pos) rfl (by rw [List.length_map, List.length_take]; omega) HF5.out.2.size 2 ?_; intro v6 w6 hF hg; have HF6 := show Hid (Fam w6 w.heap.size [rS (.slice aN K cN) (firsts (l.take i)), rI v4 ((l.take i).map (·.kind) ++ [x.kind]), rI v5 (whichs (firsts (l.take i)) (l.take i) ++ [(q : Int)]), rI v6 ((l.take i).map (·.pos) ++ [x.pos]), rI vb ((l.take i).map (·.by_)), rB vt (textsB (l.take i)), rO wr.heap.size x] ∧ After w w6) from ⟨hF, (HF5.out.1.after (after_alloc (After.refl w5) _)).grown (k := 3) rfl hg (after_alloc HF5.out.2 _) (Nat.le_refl _)⟩; have c3 := (HF6.out.1.op (k := 6) rfl).cell (j := 3) rfl; clear hF hg)
                  | (at_builtin; have _u := HF4.out; clear _u; refine wpList_fam_int rfl _ _ rfl 2 vw (whichs (firsts (l.take i)) (l.take i)) rfl HF4.out.1 rfl ((q : Int)) rfl (by unfold whichs; rw [List.length_map, List.length_take]; omega) HF4.out.2.size 2 ?_; intro v5 w5 hF hg; have HF5 := show Hid (Fam w5 w.heap.size [rS (.slice aN K cN) (firsts (l.take i)), rI v4 ((l.take i).map (·.kind) ++ [x.kind]), rI v5 (whichs (firsts (l.take i)) (l.take i) ++ [(q : Int)]), rI vp ((l.take i).map (·.pos)), rI vb ((l.take i).map (·.by_)), rB vt (textsB (l.take i)), rO wr.heap.size x] ∧ After w w5) from ⟨hF, (HF4.out.1.after (after_alloc (After.refl w4) _)).grown (k := 2) rfl hg (after_alloc HF4.out.2 _) (Nat.le_refl _)⟩; have c2 := (HF5.out.1.op (k := 6) rfl).cell (j := 2) rfl; clear hF hg)
                  | (at_builtin; have _u := HF2.out; clear _u; refine wpList_fam_int rfl _ _ rfl 1 vk ((l.take i).map (·.kind)) rfl HF2.out.1 rfl (x.kind) rfl (by rw [List.length_map, List.length_take]; omega) HF2.out.2.size 2 ?_; intro v4 w4 hF hg; have HF4 := show Hid (Fam w4 w.heap.size [rS (.slice aN K cN) (firsts (l.take i)), rI v4 ((l.take i).map (·.kind) ++ [x.kind]), rI vw (whichs (firsts (l.take i)) (l.take i)), rI vp ((l.take i).map (·.pos)), rI vb ((l.take i).map (·.by_)), rB vt (textsB (l.take i)), rO wr.heap.size x] ∧ After w w4) from ⟨hF, (HF2.out.1.after (after_alloc (After.refl w2) _)).grown (k := 1) rfl hg (after_alloc HF2.out.2 _) (Nat.le_refl _)⟩; clear hF hg)
                  | (go_at_call 24; have _u := HF2.out; clear _u; refine Calls.mono (find_any aN K cN (firsts (l.take i)) x.name HK.out.1 (by omega) w2 (strs_at (HF2.out.1.own 0 _ rfl))) ?_; rw [HQ.out]; rintro e w3 ⟨rfl, hw3⟩; have hw3' := hw3.symm; clear hw3; subst hw3')
                  | (go_at_call 22; refine Calls.mono (may_any x HX.out.1 w1) ?_; rw [hm]; rintro e w2 ⟨rfl, ha⟩; have HF2 := show Hid (Fam w2 w.heap.size [rS (.slice aN K cN) (firsts (l.take i)), rI vk ((l.take i).map (·.kind)), rI vw (whichs (firsts (l.take i)) (l.take i)), rI vp ((l.take i).map (·.pos)), rI vb ((l.take i).map (·.by_)), rB vt (textsB (l.take i)), rO wr.heap.size x] ∧ After w w2) from ⟨HF1.out.1.after ha, After.trans HF1.out.2 ha⟩; have c1 := (HF2.out.1.op (k := 6) rfl).cell (j := 1) rfl; have c0 := (HF2.out.1.op (k := 6) rfl).cell (j := 0) rfl; clear ha)
                  | (refine wpList_load_row rfl 23 (.tmp 11) rfl wr.heap.size rfl 23 _ (0, 0) _ (HF1.out.1.op (k := 6) rfl) Try.underlying23 rfl (by kernel_rfl) ?_)
                  | (refine wpList_store_row rfl 23 (.tmp 11) (.tmp 27) rfl wr.heap.size _ rfl rfl 23 _ (heap_alloc_new wr _) (by kernel_rfl) rfl (by kernel_rfl) ?_; have HF1 := show Hid (Fam ((wr.alloc (.cells #[.int .i64 0, .string ⟨#[]⟩, .int .i64 0, .int .i64 0, .string ⟨#[]⟩] 23)).setRow wr.heap.size (oc x).toArray) w.heap.size (pR (.slice aN K cN) vk vw vp vb vt (l.take i) ++ [rO wr.heap.size x]) ∧ After w ((wr.alloc (.cells #[.int .i64 0, .string ⟨#[]⟩, .int .i64 0, .int .i64 0, .string ⟨#[]⟩] 23)).setRow wr.heap.size (oc x).toArray)) from ⟨fam_new HI.out.fam HI.out.aft.size _ x, after_setRow (after_alloc HI.out.aft _) HI.out.aft.size _⟩; revert HF1; generalize (wr.alloc (.cells #[.int .i64 0, .string ⟨#[]⟩, .int .i64 0, .int .i64 0, .string ⟨#[]⟩] 23)).setRow wr.heap.size (oc x).toArray = w1; intro HF1)
                  | (refine wpList_load_mid rfl 23 (.tmp 26) rfl b (o + i * 5) rfl [.int .i64 x.kind, .string (strOf x.name), .int .i64 x.pos, .int .i64 x.by_, .string (strOf x.text)] _ HR.out Try.underlying23 rfl size23 ?_))
                go_roundw
                case rel => exact ⟨i + 1, by go_num, by omega, ⟨by
                  have hW := whichs_succ HXI.out
                  rw [firsts_succ HXI.out, HN.out, HQ.out] at hW
                  unfold pR
                  rw [firsts_succ HXI.out, HN.out, hW, map_succ (·.kind) HXI.out, map_succ (·.pos) HXI.out, map_succ (·.by_) HXI.out, textsB_succ HXI.out, HT.out]
                  simp only [Bool.false_eq_true, if_false, List.append_nil]
                  exact HF7.out.1.init, HF7.out.2, HMM.out⟩⟩
                case measure => simp [intOf]; omega
      · obtain rfl : i = n := by omega
        have hii : ¬ (i : Int) < (i : Int) := by omega
        have hli : l.take i = l := by rw [← HL.out.2.1, List.take_length]
        rw [hli] at HK
        have HFM : Hid (Fam wr w.heap.size (pR (.slice aN K cN) vk vw vp vb vt l)) := by have h := HI.out.fam; rw [hli] at h; exact h
        have HMY : Hid (l.all mayB = true) := by have h := HI.out.may; rw [hli] at h; exact h
        have HPE : Hid (putE l = 0 ∧ putBs l = layB l) := by
          have h := putE_good HL.out.2.1 hn HMY.out
          exact ⟨h, by unfold putBs; rw [h, if_pos rfl]⟩
        have HS : Hid (Small l i) := may_small HL.out.2.1 hn HL.out.2.2 HMY.out
        obtain ⟨ak, ck, hvk, hIk⟩ := ints_sl (k := i) (show OwnI wr w.heap.size vk (l.map (·.kind)) from HFM.out.own 1 _ rfl) (by rw [List.length_map]; exact HL.out.2.1)
        obtain ⟨aw, cw, hvw, hIw⟩ := ints_sl (k := i) (show OwnI wr w.heap.size vw (whichs (firsts l) l) from HFM.out.own 2 _ rfl) (by unfold whichs; rw [List.length_map]; exact HL.out.2.1)
        obtain ⟨ap, cp', hvp, hIp⟩ := ints_sl (k := i) (show OwnI wr w.heap.size vp (l.map (·.pos)) from HFM.out.own 3 _ rfl) (by rw [List.length_map]; exact HL.out.2.1)
        obtain ⟨ab, cb, hvb, hIb⟩ := ints_sl (k := i) (show OwnI wr w.heap.size vb (l.map (·.by_)) from HFM.out.own 4 _ rfl) (by rw [List.length_map]; exact HL.out.2.1)
        obtain ⟨kt, hkt⟩ : ∃ k, (textsB l).length = k := ⟨_, rfl⟩
        obtain ⟨at_, ct, hvt, hBt, _, _⟩ := own_sl (show Own wr w.heap.size vt (textsB l) from HFM.out.own 5 _ rfl) hkt
        have HSN : Hid (StrsAt wr aN (firsts l)) := strs_at (HFM.out.own 0 _ rfl)
        subst hvk hvw hvp hvb hvt
        have HIN : Hid (IntsAt wr ak (l.map (·.kind)) ∧ IntsAt wr aw (whichs (firsts l) l) ∧ IntsAt wr ap (l.map (·.pos)) ∧ IntsAt wr ab (l.map (·.by_)) ∧ BytesAt wr at_ (textsB l)) := ⟨hIk, hIw, hIp, hIb, hBt⟩
        have HLN : Hid ((l.map (·.kind)).length = i ∧ (whichs (firsts l) l).length = i ∧ (l.map (·.pos)).length = i ∧ (l.map (·.by_)).length = i ∧ (textsB l).length = kt ∧ kt ≤ 600000) := ⟨by rw [List.length_map]; exact HL.out.2.1, by unfold whichs; rw [List.length_map]; exact HL.out.2.1, by rw [List.length_map]; exact HL.out.2.1, by rw [List.length_map]; exact HL.out.2.1, hkt, by
          have h1 := textsB_len l (fun z hz => HS.out.tx z hz)
          rw [HL.out.2.1] at h1
          omega⟩
        have HRL : Hid ((runsB (l.map (·.kind))).length ≤ 30000000 ∧ (runsB (whichs (firsts l) l)).length ≤ 30000000 ∧ (runsB (diffs (l.map (·.pos)))).length ≤ 30000000 ∧ (runsB (l.map (·.by_))).length ≤ 30000000 ∧ (namesB (firsts l)).length ≤ 600000 ∧ (uintB K).length ≤ 10) := ⟨runsB_len _ (fun z hz => by obtain ⟨y, hy, rfl⟩ := List.mem_map.1 hz; exact ⟨(HL.out.2.2 y hy).k0, (HL.out.2.2 y hy).k1⟩) (by rw [HLN.out.1]; omega), runsB_len _ (whichs_int _ _ (by have := HK.out; omega)) (by rw [HLN.out.2.1]; omega), runsB_len _ (diffs_int _) (by rw [diffs_len, HLN.out.2.2.1]; omega), runsB_len _ (fun z hz => by obtain ⟨y, hy, rfl⟩ := List.mem_map.1 hz; exact ⟨(HL.out.2.2 y hy).b0, (HL.out.2.2 y hy).b1⟩) (by rw [HLN.out.2.2.2.1]; omega), by
          have h1 := namesB_len (firsts l) (fun y hy => by obtain ⟨x, hx, rfl⟩ := (mem_firsts l y).1 hy; exact HS.out.nm x hx)
          have h2 := HK.out
          omega, uintB_len10 K (by omega)⟩
        have HIT : Hid ((∀ z ∈ l.map (·.kind), -9223372036854775808 ≤ z ∧ z ≤ 9223372036854775807) ∧ (∀ z ∈ whichs (firsts l) l, -9223372036854775808 ≤ z ∧ z ≤ 9223372036854775807) ∧ (∀ z ∈ l.map (·.by_), -9223372036854775808 ≤ z ∧ z ≤ 9223372036854775807)) := ⟨fun z hz => by obtain ⟨y, hy, rfl⟩ := List.mem_map.1 hz; exact ⟨(HL.out.2.2 y hy).k0, (HL.out.2.2 y hy).k1⟩, whichs_int _ _ (by have := HK.out; omega), fun z hz => by obtain ⟨y, hy, rfl⟩ := List.mem_map.1 hz; exact ⟨(HL.out.2.2 y hy).b0, (HL.out.2.2 y hy).b1⟩⟩
        have HAW : Hid (After w wr) := HI.out.aft
        clear hIk hIw hIp hIb hBt hkt hli HI HFM HMY
        obtain ⟨W0, hW0⟩ : ∃ W, W = wr := ⟨_, rfl⟩
        subst hW0
        go_wp2_with (first
          | (at_builtin; have _u := HF2.out; clear _u; refine wpList_append_any rfl _ _ rfl W0.heap.size (.slice a1 k1 c1) (runsB (l.map (·.kind))) rfl (HF1.out.1.below HF2.out.2.2.1 (Nat.le_refl _)) a2 c2 (uintB K) k2 HF2.out.2.1 rfl HF2.out.1 (by have h1 := HRL.out.1; have h2 := HRL.out.2.2.2.2.2; omega) (by have := HF2.out.2.2.2.size; omega) ?_; intro v3 w3 ho hg; have HF3 := show Hid (Own w3 W0.heap.size v3 (runsB (l.map (·.kind)) ++ uintB K) ∧ After W0 w3) from ⟨ho, after_grown HF2.out.2.2.2 hg (Nat.le_refl _) (fun g hg => (World.ownsRow.lt HF1.out.1 g hg).1)⟩; clear ho hg)
          | (go_at_call 27; have _u := HF1.out; clear _u; refine Calls.mono (ruint_k K (by omega) w1) ?_; rintro e w2 ⟨a2, k2, c2, he, hat, hk2, ha⟩; subst he; have HF2 := show Hid (BytesAt w2 a2 (uintB K) ∧ (uintB K).length = k2 ∧ After w1 w2 ∧ After W0 w2) from ⟨hat, hk2, ha, After.trans HF1.out.2 ha⟩; clear hat hk2 ha)
          | (go_at_call 26; refine Calls.mono (rruns_k ak i ck (l.map (·.kind)) HIT.out.1 HLN.out.1 (by omega) W0 HIN.out.1) ?_; rintro e w1 ⟨a1, k1, c1, he, ho, _, _, ha⟩; subst he; have HF1 := show Hid (Own w1 W0.heap.size (.slice a1 k1 c1) (runsB (l.map (·.kind))) ∧ After W0 w1) from ⟨ho, ha⟩; clear ho ha))
        clear HF1 HF2
        go_loopw [13, 14] (fun vo vj wr => ∃ j : Nat, vj = .int .i64 (j : Int) ∧ j ≤ K ∧ Hid (Own wr W0.heap.size vo (runsB (l.map (·.kind)) ++ uintB K ++ namesB ((firsts l).take j)) ∧ After W0 wr)) (fun _ vj _ => K - (intOf vj).toNat)
        case atStart => exact ⟨0, rfl, Nat.zero_le _, ⟨by have h := HF3.out.1; simpa [namesB] using h, HF3.out.2⟩⟩
        case round =>
          obtain ⟨j, rfl, hj, HO⟩ := hrel
          by_cases hjK : j < K
          · have hjj : (j : Int) < (K : Int) := by omega
            obtain ⟨y, hy⟩ : ∃ y, (firsts l)[j]? = some y := ⟨_, List.getElem?_eq_getElem (by rw [HK.out.1]; exact hjK)⟩
            obtain ⟨bn, on, haN, hcn⟩ := HSN.out (fun e => by rw [e] at hy; simp at hy)
            subst haN
            have hcy : wr.cell? ⟨bn, on + j, none⟩ = some (.string (strOf y)) := (Below.cell HO.out.2 (p := ⟨bn, on + j, none⟩) (World.block_lt_of_cell? W0 _ (hcn j y hy))).trans (hcn j y hy)
            have HY : Hid (y.length ≤ 2000 ∧ namesB ((firsts l).take (j + 1)) = namesB ((firsts l).take j) ++ textB y ∧ (namesB ((firsts l).take j)).length ≤ 600000) := ⟨by
              obtain ⟨x, hx, rfl⟩ := (mem_firsts l y).1 (List.mem_of_getElem? hy)
              exact HS.out.nm x hx, by rw [List.take_add_one, hy]; exact namesB_snoc _ _, by
              have h1 := namesB_len ((firsts l).take j) (fun y hy => by
                obtain ⟨x, hx, rfl⟩ := (mem_firsts l y).1 (List.mem_of_mem_take hy)
                exact HS.out.nm x hx)
              rw [List.length_take] at h1
              omega⟩
            clear hcn hy
            go_wp2_with (first
              | (at_builtin; have _u := HF5.out; clear _u; refine wpList_append_any rfl _ _ rfl W0.heap.size _ (runsB (l.map (·.kind)) ++ uintB K ++ namesB ((firsts l).take j)) rfl (HO.out.1.below HF5.out.2.2 (Nat.le_refl _)) (some ⟨b5, o5, none⟩) c5 (textB y) k5 HF5.out.2.1 rfl HF5.out.1 (by have h1 := HRL.out.1; have h2 := HRL.out.2.2.2.2.2; have h3 := HY.out.2.2; have h4 := textB_len y HY.out.1; simp only [List.length_append]; omega) (by have h1 := HF5.out.2.2.size; have h2 := HO.out.2.size; omega) ?_; intro v6 w6 ho hg; have HF6 := show Hid (Own w6 W0.heap.size v6 (runsB (l.map (·.kind)) ++ uintB K ++ namesB ((firsts l).take j) ++ textB y) ∧ After W0 w6) from ⟨ho, after_grown (After.trans HO.out.2 HF5.out.2.2) hg (Nat.le_refl _) (fun g hg => (World.ownsRow.lt HO.out.1 g hg).1)⟩; clear ho hg)
              | (go_at_call 25; refine Calls.mono (rtext_k y HY.out.1 _) ?_; rintro e w5 ⟨b5, o5, k5, c5, he, hat, hk5, ha⟩; subst he; have HF5 := show Hid (BytesAt w5 (some ⟨b5, o5, none⟩) (textB y) ∧ (textB y).length = k5 ∧ After _ w5) from ⟨hat, hk5, ha⟩; clear hat hk5 ha))
            go_roundw
            case rel => exact ⟨j + 1, by go_num, by omega, by rw [HY.out.2.1, ← List.append_assoc]; exact HF6.out.1, HF6.out.2⟩
            case measure => simp [intOf]; omega
          · obtain rfl : j = K := by omega
            have hjj : ¬ (j : Int) < (j : Int) := by omega
            rw [show (firsts l).take j = firsts l by rw [← HK.out.1, List.take_length]] at HO
            go_wp2_with (first
              | (at_builtin; have _u := G6.out; clear _u; refine wpList_append_any rfl _ _ rfl W0.heap.size _ ((((runsB (l.map (·.kind)) ++ uintB j ++ namesB (firsts l)) ++ runsB (whichs (firsts l) l)) ++ runsB (diffs (l.map (·.pos)))) ++ runsB (l.map (·.by_))) rfl G6.out.1 at_ ct (textsB l) kt HLN.out.2.2.2.2.1 rfl (HIN.out.2.2.2.2.after G6.out.2) (by have h1 := HRL.out.1; have h2 := HRL.out.2.1; have h3 := HRL.out.2.2.1; have h4 := HRL.out.2.2.2.1; have h5 := HRL.out.2.2.2.2.1; have h6 := HRL.out.2.2.2.2.2; have h7 := HLN.out.2.2.2.2.1; have h8 := HLN.out.2.2.2.2.2; simp only [List.length_append]; omega) (by have := G6.out.2.size; omega) ?_; intro v7 w7 ho hg; have G7 := show Hid (Own w7 W0.heap.size v7 (((((runsB (l.map (·.kind)) ++ uintB j ++ namesB (firsts l)) ++ runsB (whichs (firsts l) l)) ++ runsB (diffs (l.map (·.pos)))) ++ runsB (l.map (·.by_))) ++ textsB l) ∧ After W0 w7) from ⟨ho, after_grown G6.out.2 hg (Nat.le_refl _) (fun g hg => (World.ownsRow.lt G6.out.1 g hg).1)⟩; clear ho hg)
              | (at_builtin; have _u := G5.out; clear _u; refine wpList_append_any rfl _ _ rfl W0.heap.size _ (((runsB (l.map (·.kind)) ++ uintB j ++ namesB (firsts l)) ++ runsB (whichs (firsts l) l)) ++ runsB (diffs (l.map (·.pos)))) rfl (G4.out.1.below G5.out.2.2.1 (Nat.le_refl _)) a5 c5 (runsB (l.map (·.by_))) k5 G5.out.2.1 rfl G5.out.1 (by have h1 := HRL.out.1; have h2 := HRL.out.2.1; have h3 := HRL.out.2.2.1; have h4 := HRL.out.2.2.2.1; have h5 := HRL.out.2.2.2.2.1; have h6 := HRL.out.2.2.2.2.2; have h7 := HLN.out.2.2.2.2.1; have h8 := HLN.out.2.2.2.2.2; simp only [List.length_append]; omega) (by have := G5.out.2.2.2.size; omega) ?_; intro v6 w6 ho hg; have G6 := show Hid (Own w6 W0.heap.size v6 ((((runsB (l.map (·.kind)) ++ uintB j ++ namesB (firsts l)) ++ runsB (whichs (firsts l) l)) ++ runsB (diffs (l.map (·.pos)))) ++ runsB (l.map (·.by_))) ∧ After W0 w6) from ⟨ho, after_grown G5.out.2.2.2 hg (Nat.le_refl _) (fun g hg => (World.ownsRow.lt (G4.out.1.below G5.out.2.2.1 (Nat.le_refl _)) g hg).1)⟩; clear ho hg)
              | (go_at_call 26; have _u := G4.out; clear _u; refine Calls.mono (rruns_k ab i cb (l.map (·.by_)) HIT.out.2.2 HLN.out.2.2.2.1 (by omega) w4 (intsAt_after HIN.out.2.2.2.1 G4.out.2)) ?_; rintro e w5 ⟨a5, k5, c5, he, _, hat, hk5, ha⟩; subst he; have G5 := show Hid (BytesAt w5 a5 (runsB (l.map (·.by_))) ∧ (runsB (l.map (·.by_))).length = k5 ∧ After w4 w5 ∧ After W0 w5) from ⟨hat, hk5, ha, After.trans G4.out.2 ha⟩; clear hat hk5 ha)
              | (at_builtin; have _u := G3.out; clear _u; refine wpList_append_any rfl _ _ rfl W0.heap.size _ ((runsB (l.map (·.kind)) ++ uintB j ++ namesB (firsts l)) ++ runsB (whichs (firsts l) l)) rfl (G2.out.1.below G3.out.2.2.1 (Nat.le_refl _)) a3 c3 (runsB (diffs (l.map (·.pos)))) k3 G3.out.2.1 rfl G3.out.1 (by have h1 := HRL.out.1; have h2 := HRL.out.2.1; have h3 := HRL.out.2.2.1; have h4 := HRL.out.2.2.2.1; have h5 := HRL.out.2.2.2.2.1; have h6 := HRL.out.2.2.2.2.2; have h7 := HLN.out.2.2.2.2.1; have h8 := HLN.out.2.2.2.2.2; simp only [List.length_append]; omega) (by have := G3.out.2.2.2.size; omega) ?_; intro v4 w4 ho hg; have G4 := show Hid (Own w4 W0.heap.size v4 (((runsB (l.map (·.kind)) ++ uintB j ++ namesB (firsts l)) ++ runsB (whichs (firsts l) l)) ++ runsB (diffs (l.map (·.pos)))) ∧ After W0 w4) from ⟨ho, after_grown G3.out.2.2.2 hg (Nat.le_refl _) (fun g hg => (World.ownsRow.lt (G2.out.1.below G3.out.2.2.1 (Nat.le_refl _)) g hg).1)⟩; clear ho hg)
              | (go_at_call 28; have _u := G2.out; clear _u; refine Calls.mono (rdeltas_k ap i cp' (l.map (·.pos)) HLN.out.2.2.1 (by omega) w2 (intsAt_after HIN.out.2.2.1 G2.out.2)) ?_; rintro e w3 ⟨a3, k3, c3, he, hat, hk3, ha⟩; subst he; have G3 := show Hid (BytesAt w3 a3 (runsB (diffs (l.map (·.pos)))) ∧ (runsB (diffs (l.map (·.pos)))).length = k3 ∧ After w2 w3 ∧ After W0 w3) from ⟨hat, hk3, ha, After.trans G2.out.2 ha⟩; clear hat hk3 ha)
              | (at_builtin; have _u := G1.out; clear _u; refine wpList_append_any rfl _ _ rfl W0.heap.size _ (runsB (l.map (·.kind)) ++ uintB j ++ namesB (firsts l)) rfl (HO.out.1.below G1.out.2.2.1 (Nat.le_refl _)) a1 c1 (runsB (whichs (firsts l) l)) k1 G1.out.2.1 rfl G1.out.1 (by have h1 := HRL.out.1; have h2 := HRL.out.2.1; have h3 := HRL.out.2.2.1; have h4 := HRL.out.2.2.2.1; have h5 := HRL.out.2.2.2.2.1; have h6 := HRL.out.2.2.2.2.2; have h7 := HLN.out.2.2.2.2.1; have h8 := HLN.out.2.2.2.2.2; simp only [List.length_append]; omega) (by have := G1.out.2.2.2.size; omega) ?_; intro v2 w2 ho hg; have G2 := show Hid (Own w2 W0.heap.size v2 ((runsB (l.map (·.kind)) ++ uintB j ++ namesB (firsts l)) ++ runsB (whichs (firsts l) l)) ∧ After W0 w2) from ⟨ho, after_grown G1.out.2.2.2 hg (Nat.le_refl _) (fun g hg => (World.ownsRow.lt (HO.out.1.below G1.out.2.2.1 (Nat.le_refl _)) g hg).1)⟩; clear ho hg)
              | (go_at_call 26; refine Calls.mono (rruns_k aw i cw (whichs (firsts l) l) HIT.out.2.1 HLN.out.2.1 (by omega) wr (intsAt_after HIN.out.2.1 HO.out.2)) ?_; rintro e w1 ⟨a1, k1, c1, he, _, hat, hk1, ha⟩; subst he; have G1 := show Hid (BytesAt w1 a1 (runsB (whichs (firsts l) l)) ∧ (runsB (whichs (firsts l) l)).length = k1 ∧ After wr w1 ∧ After W0 w1) from ⟨hat, hk1, ha, After.trans HO.out.2 ha⟩; clear hat hk1 ha))
            go_ret2
            refine ⟨_, by rw [HPE.out.1]; rfl, ?_, After.trans HAW.out G7.out.2⟩
            rw [HPE.out.2]
            have h := own_base G7.out.1 HAW.out.size
            have e : (((((runsB (l.map (·.kind)) ++ uintB j ++ namesB (firsts l)) ++ runsB (whichs (firsts l) l)) ++ runsB (diffs (l.map (·.pos)))) ++ runsB (l.map (·.by_))) ++ textsB l) = layB l := by unfold layB layNB; rw [HK.out.1]; simp only [List.append_assoc]
            rw [e] at h
            exact h
  · have hnz : (n : Int) > 256 := by omega
    have HPE : Hid (putE l = 5) := by unfold Hid putE; rw [if_pos (by rw [hl]; omega)]
    clear hA hl hok
    go_enter Try.func15, Try.ntmps15
    go_wp2
    go_ret2
    exact ⟨_, by rw [HPE.out]; rfl, by unfold putBs; rw [HPE.out, if_neg (by omega)]; exact Own.nil _ _, After.refl _⟩
end Go.Proofs.Ytpplnomomcdemaa

namespace Go.Proofs.Ytpplnomomcdemaa
open Go.RowKit Leb
theorem rput_k (ao : Option Addr) (n ca : Nat) (l : List Opn) (hl : l.length = n) (hok : ∀ x ∈ l, x.Ok) (hbig : n ≤ 1152921504606846976) (w : World) (hA : OpsAt w ao l) {q : Nat} {B : List UInt8} (hq : putE l = q) (hB : putBs l = B) :
    Calls Try.prog 15 #[.slice ao n ca] w fun e w' => ∃ v, e = .returned (.tuple #[v, .int .i64 (q : Int)]) ∧ Own w' w.heap.size v B ∧ After w w' := by
  have h := rput_any ao n ca l hl hok hbig w hA
  rw [hq, hB] at h
  exact h
theorem ops_sl {w : World} {base : Nat} {v : Value} {l : List Opn} (h : OwnO w base v l) {k : Nat} (hk : l.length = k) : ∃ a c, v = .slice a k c ∧ OpsAt w a l ∧ k ≤ c := by
  obtain ⟨a, c, rfl, h1, h2, _⟩ := h.at
  rw [hk] at h2 ⊢
  exact ⟨a, c, rfl, h1, h2⟩
set_option maxRecDepth 100000 in
set_option maxHeartbeats 2400000 in
theorem puts_any (ao : Option Addr) (n ca : Nat) (l : List Opn) (hl : l.length = n) (hok : ∀ x ∈ l, x.Ok) (hbn : n * 56 ≤ 140737488355328) (w : World) (hA : OpsAt w ao l) :
    Calls Try.prog 4 #[.slice ao n ca] w fun e w' => e = .returned (.bool true) ∧ After w w' := by
  have HF : Hid (l.length = n ∧ OpsAt w ao l ∧ n * 56 ≤ 140737488355328 ∧ n ≤ 1152921504606846976) := ⟨hl, hA, hbn, by omega⟩
  have HOK : Hid (∀ x ∈ l, x.Ok) := hok
  obtain ⟨q, hq⟩ : ∃ q, putE l = q := ⟨_, rfl⟩
  obtain ⟨B, hB⟩ : ∃ B, putBs l = B := ⟨_, rfl⟩
  have HQ : Hid (putE l = q ∧ putBs l = B) := ⟨hq, hB⟩
  clear hl hok hbn hA hq hB
  go_enter Try.func4, Try.ntmps4
  go_wp2_with (first
    | (go_at_call 13; refine Calls.mono (awake_any w4) ?_; rintro e w5 ⟨rfl, ha⟩; have H5 := show Hid (After w w5) from After.trans H4.out ha; clear ha)
    | (go_at_call 16; refine Calls.mono (rsame16 a1 ao c1 ca l l n n HF.out.1 HF.out.1 HF.out.2.2.2 w3 (H1.out.1.after (After.trans H2.out.2 H3.out.2)) (HF.out.2.1.after (After.trans H1.out.2 (After.trans H2.out.2 H3.out.2)))) ?_; rw [decide_eq_true rfl]; rintro e w4 ⟨rfl, ha⟩; have H4 := show Hid (After w w4) from After.trans H1.out.2 (After.trans H2.out.2 (After.trans H3.out.2 ha)); clear ha)
    | (go_at_call 15; refine Calls.mono (rput_k ao n ca l HF.out.1 HOK.out HF.out.2.2.2 w2 (HF.out.2.1.after (After.trans H1.out.2 H2.out.2)) HQ.out.1 HQ.out.2) ?_; rintro e w3 ⟨v3, rfl, ho, ha⟩; have H3 := show Hid (Own w3 w2.heap.size v3 B ∧ After w2 w3) from ⟨ho, ha⟩; have hc2 := H2.out.1.convA ha; have hc3 := ho.conv; clear ho ha)
    | (go_at_call 14; refine Calls.mono (put_k a1 n c1 l HF.out.1 HOK.out HF.out.2.2.2 w1 H1.out.1 HQ.out.1 HQ.out.2) ?_; rintro e w2 ⟨v2, rfl, ho, ha⟩; have H2 := show Hid (Own w2 w1.heap.size v2 B ∧ After w1 w2) from ⟨ho, ha⟩; clear ho ha)
    | (at_builtin; refine wpList_append_ops rfl _ _ rfl w.heap.size (.slice (some ⟨w.heap.size, 0, none⟩) 0 0) [] rfl (OwnO.fresh w) ao ca l n HF.out.1 rfl (HF.out.2.1.after (after_alloc (After.refl w) _)) (by have := HF.out.2.2.1; simp; omega) (by simp) ?_; intro v1 w1 ho hg _; rw [List.nil_append] at ho; obtain ⟨a1, c1, he, hA1, _⟩ := ops_sl ho HF.out.1; subst he; have H1 := show Hid (OpsAt w1 a1 l ∧ After w w1) from ⟨hA1, after_grown (after_alloc (After.refl w) _) hg (Nat.le_refl _) (fun k hk => by cases hk; exact Nat.le_refl _)⟩; clear ho hg hA1))
  go_ret
  exact ⟨rfl, H5.out⟩
end Go.Proofs.Ytpplnomomcdemaa

namespace Go.Proofs.Ytpplnomomcdemaa
open Go.RowKit Leb
/-- Bytes that are still to be read. -/
structure InB (w : World) (a : Option Addr) (n c : Nat) (bs : List UInt8) : Prop where
  at_ : BytesAt w a bs
  len : bs.length = n
  cap : n ≤ c
  nil : a = none → n = 0
  big : n ≤ 140737488355328
theorem InB.after {w w' : World} {a : Option Addr} {n c : Nat} {bs : List UInt8} (h : InB w a n c bs) (ha : After w w') : InB w' a n c bs := ⟨h.at_.after ha, h.len, h.cap, h.nil, h.big⟩
theorem rest_k {w0 : World} {a : Option Addr} {n c : Nat} {bs : List UInt8} (h : InB w0 a n c bs) (k : Nat) (hk : k ≤ n) (w : World) :
    Calls Try.prog 32 #[.slice a n c, .int .i64 (k : Int)] w fun e w' => (∃ a' n' c', e = .returned (.slice a' n' c') ∧ InB w0 a' n' c' (bs.drop k)) ∧ w' = w := by
  have SL := slice_from a n c k h.nil h.cap hk w
  have hkn : ¬ (n : Int) < (k : Int) := by omega
  have hkn2 : (k : Int) ≤ (n : Int) := by omega
  have hmin : min (k : Int) (n : Int) = (k : Int) := by omega
  have HR : Hid (InB w0 (cutAt a k c) (n - k) (c - k) (bs.drop k)) := ⟨h.at_.cut k c (by rw [h.len]; exact h.cap), by rw [List.length_drop, h.len], by have := h.cap; omega, fun e => by have := h.nil (cutAt_none e); omega, by have := h.big; omega⟩
  clear h
  go_enter Try.func32, Try.ntmps32
  go_wp2
  go_ret
  exact ⟨⟨_, _, _, rfl, HR.out⟩, rfl⟩
theorem gruns_k {w : World} {a : Option Addr} {n c : Nat} {bs : List UInt8} (h : InB w a n c bs) {l : List Int} {k q m : Nat} (e : G1 bs = (l, k, q)) (hm : l.length = m) :
    Calls Try.prog 31 #[.slice a n c, .int .i64 256] w fun e w' => ∃ p cc, e = .returned (.tuple #[.slice p m cc, .int .i64 (k : Int), .int .i64 (q : Int)]) ∧ IntsAt w' p l ∧ After w w' := by
  have h1 := refRuns_any a c bs (by rw [h.len]; exact h.cap) (fun e => by rw [h.len]; exact h.nil e) (by rw [h.len]; exact h.big) 256 (by omega) (by omega) w h.at_
  rw [h.len] at h1
  refine Calls.mono h1 ?_
  rintro x w' ⟨v, rfl, ho, ha⟩
  rw [show getR bs 256 = (l, k, q) from e] at ho ⊢
  obtain ⟨p, cc, rfl, hI⟩ := ints_sl ho hm
  exact ⟨p, cc, rfl, hI, ha⟩
theorem gdel_k {w : World} {a : Option Addr} {n c : Nat} {bs : List UInt8} (h : InB w a n c bs) {l : List Int} {k q m : Nat} (e : G2 bs = (l, k, q)) (hm : l.length = m) :
    Calls Try.prog 35 #[.slice a n c, .int .i64 256] w fun e w' => ∃ p cc, e = .returned (.tuple #[.slice p m cc, .int .i64 (k : Int), .int .i64 (q : Int)]) ∧ IntsAt w' p l ∧ After w w' := by
  have h1 := refDeltas_any a c bs (by rw [h.len]; exact h.cap) (fun e => by rw [h.len]; exact h.nil e) (by rw [h.len]; exact h.big) 256 (by omega) (by omega) w h.at_
  rw [h.len] at h1
  refine Calls.mono h1 ?_
  rintro x w' ⟨v, rfl, ho, ha⟩
  rw [show (dsums (getR bs 256).1, (getR bs 256).2) = (l, k, q) from e] at ho ⊢
  obtain ⟨p, cc, rfl, hI⟩ := ints_sl ho hm
  exact ⟨p, cc, rfl, hI, ha⟩
theorem gu_k {w : World} {a : Option Addr} {n c : Nat} {bs : List UInt8} (h : InB w a n c bs) {v k q : Nat} (e1 : guV bs = v) (e2 : guK bs = k) (e3 : guE bs = q) :
    Calls Try.prog 33 #[.slice a n c] w fun e w' => e = .returned (.tuple #[.int .u64 (v : Int), .int .i64 (k : Int), .int .i64 (q : Int)]) ∧ After w w' := by
  have h1 := rgetUint_any a c bs (by rw [h.len]; exact h.cap) w h.at_
  rw [h.len, e1, e2, e3] at h1
  exact h1
theorem gt_k {w : World} {a : Option Addr} {n c : Nat} {bs : List UInt8} (h : InB w a n c bs) (most : Nat) (hm : most ≤ 2000) {s : List UInt8} {k q : Nat} (e1 : gtS bs most = s) (e2 : gtK bs most = k) (e3 : gtE bs most = q) :
    Calls Try.prog 34 #[.slice a n c, .int .i64 (most : Int)] w fun e w' => e = .returned (.tuple #[.string (strOf s), .int .i64 (k : Int), .int .i64 (q : Int)]) ∧ After w w' := by
  have h1 := rgetText_any a c bs most (by rw [h.len]; exact h.cap) (by rw [h.len]; have := h.big; omega) (by omega) (by omega) w h.at_
  rw [h.len, e1, e2, e3] at h1
  exact h1
theorem colM_up (G : List UInt8 → List Int × Nat × Nat) (bs : List UInt8) {fl : Bool} (h : fl = true) : (colM G bs fl).2.2 = true := by subst h; rfl
theorem countM_up (bs : List UInt8) {fl : Bool} (h : fl = true) : (countM bs fl).2.2 = true := by subst h; rfl
theorem textsM_up (most : Int) : ∀ (n : Nat) (bs : List UInt8) {fl : Bool}, fl = true → (textsM most n bs fl).2.2 = true
  | 0, _, _, h => h
  | n + 1, bs, fl, h => by
    subst h
    exact textsM_up most n _ rfl
theorem textsM_add (most : Int) : ∀ (j k : Nat) (bs : List UInt8) (fl : Bool), (textsM most j bs fl).2.2 = true → (textsM most (j + k) bs fl).2.2 = true
  | j, 0, _, _, h => h
  | j, k + 1, bs, fl, h => by
    have h1 := textsM_add most j k bs fl h
    rw [← Nat.add_assoc, textsM_snoc]
    show (textM most _ _).2.2 = true
    rw [h1]
    rfl
theorem readM_up {bs : List UInt8} (h : (colsM bs).fl = true) : readM bs = none := by unfold readM readC; rw [if_pos (.inl h)]
theorem readM_a {bs : List UInt8} {l : List Int} {k q : Nat} (e : G1 bs = (l, k, q)) (hq : ¬ q = 0) : readM bs = none := by
  refine readM_up ?_
  refine colM_up _ _ (colM_up _ _ (colM_up _ _ (textsM_up _ _ _ (countM_up _ ?_))))
  show decide ((G1 bs).2.2 ≠ 0) = true
  rw [e]
  simpa using hq
theorem colA {bs : List UInt8} {l : List Int} {k : Nat} (e : G1 bs = (l, k, 0)) : colM G1 bs false = (l, bs.drop k, false) := by
  unfold colM
  rw [e]
  rfl
theorem colB {bs : List UInt8} {l : List Int} {k : Nat} (e : G2 bs = (l, k, 0)) : colM G2 bs false = (l, bs.drop k, false) := by
  unfold colM
  rw [e]
  rfl
theorem readM_c {bs : List UInt8} {l : List Int} {k v k2 q : Nat} (e : G1 bs = (l, k, 0)) (e1 : guV (bs.drop k) = v) (_e2 : guK (bs.drop k) = k2) (e3 : guE (bs.drop k) = q) (hq : ¬ q = 0 ∨ 256 < v) : readM bs = none := by
  refine readM_up ?_
  refine colM_up _ _ (colM_up _ _ (colM_up _ _ (textsM_up _ _ _ ?_)))
  rw [colA e]
  show (countM (bs.drop k) false).2.2 = true
  unfold countM
  rw [e1, e3]
  by_cases h : 256 < v
  · simp [h]
  · have hq' := hq.resolve_right h
    simp [h, hq']
theorem countA {bs : List UInt8} {v k : Nat} (e1 : guV bs = v) (e2 : guK bs = k) (e3 : guE bs = 0) (hv : ¬ 256 < v) : countM bs false = (v, bs.drop k, false) := by
  unfold countM
  rw [e1, e2, e3]
  simp [hv]
theorem readM_t {bs : List UInt8} {l : List Int} {k v k2 j : Nat} (e : G1 bs = (l, k, 0)) (ec : countM (bs.drop k) false = (v, (bs.drop k).drop k2, false)) (hj : j ≤ v) (h : (textsM 32 j ((bs.drop k).drop k2) false).2.2 = true) : readM bs = none := by
  refine readM_up ?_
  refine colM_up _ _ (colM_up _ _ (colM_up _ _ ?_))
  rw [colA e]
  show (textsM 32 (countM (bs.drop k) false).1 (countM (bs.drop k) false).2.1 (countM (bs.drop k) false).2.2).2.2 = true
  rw [ec]
  obtain ⟨d, rfl⟩ : ∃ d, v = j + d := ⟨v - j, by omega⟩
  exact textsM_add 32 j d _ _ h
/-- All columns, where nothing failed ahead of them. -/
theorem colsM_of {bs r3 : List UInt8} {l lw lp ly : List Int} {k v k2 k3 k4 k5 q3 q4 q5 : Nat} {L : List (List UInt8)} (e : G1 bs = (l, k, 0)) (ec : countM (bs.drop k) false = (v, (bs.drop k).drop k2, false)) (et : textsM 32 v ((bs.drop k).drop k2) false = (L, r3, false))
    (e3 : G1 r3 = (lw, k3, q3)) (e4 : G2 (r3.drop k3) = (lp, k4, q4)) (e5 : G1 ((r3.drop k3).drop k4) = (ly, k5, q5)) :
    (q3 = 0 → q4 = 0 → q5 = 0 → colsM bs = ⟨l, L, lw, lp, ly, ((r3.drop k3).drop k4).drop k5, false⟩) ∧ (¬ q3 = 0 ∨ ¬ q4 = 0 ∨ ¬ q5 = 0 → readM bs = none) := by
  constructor
  · rintro rfl rfl rfl
    unfold colsM
    simp only [colA e, ec, et, colA e3, colB e4, colA e5]
  · intro h
    refine readM_up ?_
    have ht : ∀ x, x = colsM bs → x.fl = (colM G1 (colM G2 (colM G1 r3 false).2.1 (colM G1 r3 false).2.2).2.1 (colM G2 (colM G1 r3 false).2.1 (colM G1 r3 false).2.2).2.2).2.2 := by
      rintro x rfl
      unfold colsM
      simp only [colA e, ec, et]
    rw [ht _ rfl]
    by_cases h3 : q3 = 0
    · subst h3
      rw [colA e3]
      show (colM G1 (colM G2 (r3.drop k3) false).2.1 (colM G2 (r3.drop k3) false).2.2).2.2 = true
      by_cases h4 : q4 = 0
      · subst h4
        rw [colB e4]
        show decide ((G1 ((r3.drop k3).drop k4)).2.2 ≠ 0) = true
        rw [e5]
        have h5 : ¬ q5 = 0 := by rcases h with h | h | h; exact absurd rfl h; exact absurd rfl h; exact h
        simpa using h5
      · refine colM_up _ _ ?_
        show decide ((G2 (r3.drop k3)).2.2 ≠ 0) = true
        rw [e4]
        simpa using h4
    · refine colM_up _ _ (colM_up _ _ ?_)
      show decide ((G1 r3).2.2 ≠ 0) = true
      rw [e3]
      simpa using h3
theorem stM_up {C : Cols} : ∀ (i k : Nat) (S : RdS), stM C i = some S → S.fl = true → stM C (i + k) = none ∨ ∃ S', stM C (i + k) = some S' ∧ S'.fl = true
  | i, 0, S, h, hf => .inr ⟨S, h, hf⟩
  | i, k + 1, S, h, hf => by
    rcases stM_up i k S h hf with h1 | ⟨S', h1, h2⟩
    · exact .inl (by rw [← Nat.add_assoc]; exact stM_none h1 _ (by omega))
    · rw [← Nat.add_assoc]
      show (stM C (i + k)).bind (stepM C (i + k)) = none ∨ ∃ S', (stM C (i + k)).bind (stepM C (i + k)) = some S' ∧ S'.fl = true
      rw [h1]
      show stepM C (i + k) S' = none ∨ ∃ S'', stepM C (i + k) S' = some S'' ∧ S''.fl = true
      unfold stepM
      split
      · exact .inl rfl
      · split
        · exact .inr ⟨_, rfl, by rw [h2]; rfl⟩
        · exact .inr ⟨_, rfl, h2⟩
theorem readC_up {C : Cols} {n i : Nat} {S : RdS} (hn : C.ks.length = n) (hi : i ≤ n) (h : stM C i = some S) (hf : S.fl = true) : readC C = none := by
  obtain ⟨d, rfl⟩ : ∃ d, n = i + d := ⟨n - i, by omega⟩
  unfold readC
  split
  · rfl
  · rw [hn]
    rcases stM_up i d S h hf with h1 | ⟨S', h1, h2⟩
    · rw [h1]; rfl
    · rw [h1]
      show (if S'.fl = true then none else some S'.ops) = none
      rw [if_pos h2]
def RGetPost (w : World) (R : Option (List Opn)) (e : Ending) (w' : World) : Prop :=
  ∃ v q, e = .returned (.tuple #[v, .int .i64 q]) ∧ After w w' ∧ (R = none → v = .slice none 0 0 ∧ q = 4) ∧ (∀ l, R = some l → q = 0 ∧ ∃ a c, v = .slice a l.length c ∧ OpsAt w' a l)
theorem getM_no {bs : List UInt8} (h : readM bs = none) : getM bs = none := by unfold getM; rw [h]; rfl
theorem rgp_none {w w' : World} {bs : List UInt8} (h : readM bs = none) (ha : After w w') : RGetPost w (getM bs) (.returned (.tuple #[.slice none 0 0, .int .i64 4])) w' :=
  ⟨_, _, rfl, ha, fun _ => ⟨rfl, rfl⟩, fun l e => by rw [getM_no h] at e; cases e⟩
end Go.Proofs.Ytpplnomomcdemaa

namespace Go.Proofs.Ytpplnomomcdemaa
open Go.RowKit Leb
theorem there_new (w : World) : (w.alloc (.cells #[.int .i64 0, .string ⟨#[]⟩, .int .i64 0, .int .i64 0, .string ⟨#[]⟩] 23)).there w.heap.size 0 5 := by
  have h := there_row (i := 0) (L := [z0]) (RowIs.new w 23 (cellsOf [z0])) (by simp)
  exact h
theorem Below.setCells_new {a : World} : ∀ (vs : List Value) {b : World} {o g : Nat}, After a b → a.heap.size ≤ g → After a (b.setCells g o vs)
  | [], _, _, _, h, _ => h
  | v :: r, _, o, g, h, hg => Below.setCells_new r (o := o + 1) (Below.setCell h (p := ⟨g, o, none⟩) hg v) hg
theorem row_new (w : World) (x : Opn) : RowIs ((w.alloc (.cells #[.int .i64 0, .string ⟨#[]⟩, .int .i64 0, .int .i64 0, .string ⟨#[]⟩] 23)).setCells w.heap.size 0 (oc x)) w.heap.size 23 (oc x) :=
  RowIs.setCells (oc x) 0 (RowIs.new w 23 (oc z0))
set_option maxRecDepth 100000 in
set_option maxHeartbeats 6400000 in
theorem rget_any (a0 : Option Addr) (n0 c0 : Nat) (bs : List UInt8) (w : World) (hin : InB w a0 n0 c0 bs) :
    Calls Try.prog 18 #[.slice a0 n0 c0] w (RGetPost w (getM bs)) := by
  obtain ⟨⟨la, k1, q1⟩, h1⟩ : ∃ x, G1 bs = x := ⟨_, rfl⟩
  obtain ⟨m1, hm1⟩ : ∃ m, la.length = m := ⟨_, rfl⟩
  obtain ⟨v2, e1⟩ : ∃ v, guV (bs.drop k1) = v := ⟨_, rfl⟩
  obtain ⟨k2, e2⟩ : ∃ v, guK (bs.drop k1) = v := ⟨_, rfl⟩
  obtain ⟨q2, e3⟩ : ∃ v, guE (bs.drop k1) = v := ⟨_, rfl⟩
  have HIN : Hid (InB w a0 n0 c0 bs) := hin
  have HG : Hid (G1 bs = (la, k1, q1) ∧ la.length = m1 ∧ guV (bs.drop k1) = v2 ∧ guK (bs.drop k1) = k2 ∧ guE (bs.drop k1) = q2) := ⟨h1, hm1, e1, e2, e3⟩
  have HK : Hid (k1 ≤ n0 ∧ k2 ≤ (bs.drop k1).length) := ⟨by have := G1_le bs; rw [h1] at this; rw [← hin.len]; exact this, by rw [← e2]; exact guK_le _⟩
  have hm1b : m1 ≤ 65536 := by rw [← hm1]; have := getR_most bs 256; rw [show getR bs 256 = (la, k1, q1) from h1] at this; exact this
  clear hin h1 hm1 e1 e2 e3
  by_cases z1 : q1 = 0
  case neg =>
    have f1i : ¬ (q1 : Int) = 0 := by omega
    have f1b : ((q1 : Int) == 0) = false := beq_eq_false_iff_ne.2 f1i
    have f1n : ((q1 : Int) != 0) = true := by simp [bne, f1b]
    go_enter Try.func18, Try.ntmps18
    go_wp2_with (first
      | (go_at_call 32; have _u := H3.out; clear _u; refine Calls.mono (rest_k (H2.out.1.after H3.out) k2 (by have h1 := HK.out.2; have h2 := H2.out.1.len; omega) w3) ?_; rintro e w4 ⟨⟨a4, n4, c4, he, hI⟩, hw⟩; subst he; have hw2 := hw.symm; clear hw; subst hw2; have H4 := show Hid (InB w3 a4 n4 c4 ((bs.drop k1).drop k2)) from hI; clear hI)
      | (go_at_call 33; refine Calls.mono (gu_k H2.out.1 HG.out.2.2.1 HG.out.2.2.2.1 HG.out.2.2.2.2) ?_; rintro e w3 ⟨rfl, ha⟩; have H3 := show Hid (After w1 w3) from ha; clear ha)
      | (go_at_call 32; have _u := H1.out; clear _u; refine Calls.mono (rest_k (HIN.out.after H1.out.2) k1 HK.out.1 w1) ?_; rintro e w2 ⟨⟨a2, n2, c2, he, hI⟩, hw⟩; subst he; have hw2 := hw.symm; clear hw; subst hw2; have H2 := show Hid (InB w1 a2 n2 c2 (bs.drop k1) ∧ True) from ⟨hI, trivial⟩; clear hI)
      | (go_at_call 31; refine Calls.mono (gruns_k HIN.out HG.out.1 HG.out.2.1) ?_; rintro e w1 ⟨p1, c1, he, hI, ha⟩; subst he; have H1 := show Hid (IntsAt w1 p1 la ∧ After w w1) from ⟨hI, ha⟩; clear hI ha))
    go_ret2
    exact rgp_none (readM_a HG.out.1 z1) (After.trans H1.out.2 H3.out)
  subst z1
  by_cases z2 : q2 = 0
  case neg =>
    have f2i : ¬ (q2 : Int) = 0 := by omega
    have f2b : ((q2 : Int) == 0) = false := beq_eq_false_iff_ne.2 f2i
    have f2n : ((q2 : Int) != 0) = true := by simp [bne, f2b]
    go_enter Try.func18, Try.ntmps18
    go_wp2_with (first
      | (go_at_call 32; have _u := H3.out; clear _u; refine Calls.mono (rest_k (H2.out.1.after H3.out) k2 (by have h1 := HK.out.2; have h2 := H2.out.1.len; omega) w3) ?_; rintro e w4 ⟨⟨a4, n4, c4, he, hI⟩, hw⟩; subst he; have hw2 := hw.symm; clear hw; subst hw2; have H4 := show Hid (InB w3 a4 n4 c4 ((bs.drop k1).drop k2)) from hI; clear hI)
      | (go_at_call 33; refine Calls.mono (gu_k H2.out.1 HG.out.2.2.1 HG.out.2.2.2.1 HG.out.2.2.2.2) ?_; rintro e w3 ⟨rfl, ha⟩; have H3 := show Hid (After w1 w3) from ha; clear ha)
      | (go_at_call 32; have _u := H1.out; clear _u; refine Calls.mono (rest_k (HIN.out.after H1.out.2) k1 HK.out.1 w1) ?_; rintro e w2 ⟨⟨a2, n2, c2, he, hI⟩, hw⟩; subst he; have hw2 := hw.symm; clear hw; subst hw2; have H2 := show Hid (InB w1 a2 n2 c2 (bs.drop k1) ∧ True) from ⟨hI, trivial⟩; clear hI)
      | (go_at_call 31; refine Calls.mono (gruns_k HIN.out HG.out.1 HG.out.2.1) ?_; rintro e w1 ⟨p1, c1, he, hI, ha⟩; subst he; have H1 := show Hid (IntsAt w1 p1 la ∧ After w w1) from ⟨hI, ha⟩; clear hI ha))
    go_ret2
    exact rgp_none (readM_c HG.out.1 HG.out.2.2.1 HG.out.2.2.2.1 HG.out.2.2.2.2 (.inl z2)) (After.trans H1.out.2 H3.out)
  subst z2
  by_cases z3 : 256 < v2
  case pos =>
    have z3i : (v2 : Int) > 256 := by omega
    go_enter Try.func18, Try.ntmps18
    go_wp2_with (first
      | (go_at_call 32; have _u := H3.out; clear _u; refine Calls.mono (rest_k (H2.out.1.after H3.out) k2 (by have h1 := HK.out.2; have h2 := H2.out.1.len; omega) w3) ?_; rintro e w4 ⟨⟨a4, n4, c4, he, hI⟩, hw⟩; subst he; have hw2 := hw.symm; clear hw; subst hw2; have H4 := show Hid (InB w3 a4 n4 c4 ((bs.drop k1).drop k2)) from hI; clear hI)
      | (go_at_call 33; refine Calls.mono (gu_k H2.out.1 HG.out.2.2.1 HG.out.2.2.2.1 HG.out.2.2.2.2) ?_; rintro e w3 ⟨rfl, ha⟩; have H3 := show Hid (After w1 w3) from ha; clear ha)
      | (go_at_call 32; have _u := H1.out; clear _u; refine Calls.mono (rest_k (HIN.out.after H1.out.2) k1 HK.out.1 w1) ?_; rintro e w2 ⟨⟨a2, n2, c2, he, hI⟩, hw⟩; subst he; have hw2 := hw.symm; clear hw; subst hw2; have H2 := show Hid (InB w1 a2 n2 c2 (bs.drop k1) ∧ True) from ⟨hI, trivial⟩; clear hI)
      | (go_at_call 31; refine Calls.mono (gruns_k HIN.out HG.out.1 HG.out.2.1) ?_; rintro e w1 ⟨p1, c1, he, hI, ha⟩; subst he; have H1 := show Hid (IntsAt w1 p1 la ∧ After w w1) from ⟨hI, ha⟩; clear hI ha))
    go_ret2
    exact rgp_none (readM_c HG.out.1 HG.out.2.2.1 HG.out.2.2.2.1 HG.out.2.2.2.2 (.inr z3)) (After.trans H1.out.2 H3.out)
  have z3i : ¬ (v2 : Int) > 256 := by omega
  have HCT : Hid (countM (bs.drop k1) false = (v2, (bs.drop k1).drop k2, false)) := countA HG.out.2.2.1 HG.out.2.2.2.1 HG.out.2.2.2.2 z3
  obtain ⟨r2, hr2⟩ : ∃ r, (bs.drop k1).drop k2 = r := ⟨_, rfl⟩
  have HR2 : Hid ((bs.drop k1).drop k2 = r2) := hr2
  clear hr2
  go_enter Try.func18, Try.ntmps18
  go_wp2_with (first
    | (go_at_call 32; have _u := H3.out; clear _u; refine Calls.mono (rest_k (H2.out.1.after H3.out) k2 (by have h1 := HK.out.2; have h2 := H2.out.1.len; omega) w3) ?_; rintro e w4 ⟨⟨a4, n4, c4, he, hI⟩, hw⟩; subst he; have hw2 := hw.symm; clear hw; subst hw2; have H4 := show Hid (InB w3 a4 n4 c4 ((bs.drop k1).drop k2)) from hI; clear hI)
    | (go_at_call 33; refine Calls.mono (gu_k H2.out.1 HG.out.2.2.1 HG.out.2.2.2.1 HG.out.2.2.2.2) ?_; rintro e w3 ⟨rfl, ha⟩; have H3 := show Hid (After w1 w3) from ha; clear ha)
    | (go_at_call 32; have _u := H1.out; clear _u; refine Calls.mono (rest_k (HIN.out.after H1.out.2) k1 HK.out.1 w1) ?_; rintro e w2 ⟨⟨a2, n2, c2, he, hI⟩, hw⟩; subst he; have hw2 := hw.symm; clear hw; subst hw2; have H2 := show Hid (InB w1 a2 n2 c2 (bs.drop k1) ∧ True) from ⟨hI, trivial⟩; clear hI)
    | (go_at_call 31; refine Calls.mono (gruns_k HIN.out HG.out.1 HG.out.2.1) ?_; rintro e w1 ⟨p1, c1, he, hI, ha⟩; subst he; have H1 := show Hid (IntsAt w1 p1 la ∧ After w w1) from ⟨hI, ha⟩; clear hI ha))
  have HW1 := show Hid (After w w3 ∧ IntsAt w3 p1 la ∧ InB w3 a4 n4 c4 r2) from ⟨After.trans H1.out.2 H3.out, intsAt_after H1.out.1 H3.out, by rw [← HR2.out]; exact H4.out⟩
  obtain ⟨B, hB⟩ : ∃ B, B = w3.heap.size := ⟨_, rfl⟩
  have HB : Hid (B = w3.heap.size) := hB
  clear hB
  go_loopw [7, 10, 11] (fun vi vn vj wr => ∃ (j : Nat) (a n c : _) (L : List (List UInt8)) (r : List UInt8), vi = .slice a n c ∧ vj = .int .u64 (j : Int) ∧ j ≤ v2 ∧ Hid (textsM 32 j r2 false = (L, r, false) ∧ InB w3 a n c r ∧ Fam wr B [rS vn L] ∧ After w3 wr)) (fun _ _ vj _ => v2 - (intOf vj).toNat)
  case atStart => exact ⟨0, a4, n4, c4, [], r2, rfl, rfl, Nat.zero_le _, rfl, HW1.out.2.2, ⟨fun k r hr => by
    have h6 : k < 1 := by have := (List.getElem?_eq_some_iff.1 hr).1; simpa using this
    match k, h6, hr with
    | 0, _, hr => cases hr; exact World.ownsRow_nil _ _ _ _, fun j k r s hr hs hjk g hg => by
    have h6 : j < 1 := by have := (List.getElem?_eq_some_iff.1 hr).1; simpa using this
    match j, h6, hr with
    | 0, _, hr => cases hr; cases hg⟩, After.refl _⟩
  case round =>
    obtain ⟨j, a, n, c, L, r, hva, hvj, hj, HI⟩ := hrel
    obtain ⟨vn, hvn⟩ : ∃ v, v = u10 := ⟨_, rfl⟩
    subst hva hvj hvn
    have HLL : Hid (L.length = j) := textsM_count 32 HI.out.1
    by_cases hlt : j < v2
    · have hii : (j : Int) < (v2 : Int) := by omega
      obtain ⟨s, es⟩ : ∃ v, gtS r (32 : Nat) = v := ⟨_, rfl⟩
      obtain ⟨kt, ek⟩ : ∃ v, gtK r (32 : Nat) = v := ⟨_, rfl⟩
      obtain ⟨qt, eq⟩ : ∃ v, gtE r (32 : Nat) = v := ⟨_, rfl⟩
      have HT : Hid (gtS r (32 : Nat) = s ∧ gtK r (32 : Nat) = kt ∧ gtE r (32 : Nat) = qt) := ⟨es, ek, eq⟩
      have HTM : Hid (textsM 32 (j + 1) r2 false = (L ++ [s], r.drop kt, decide (qt ≠ 0)) ∧ kt ≤ n) := by
        refine ⟨?_, by rw [← HI.out.2.1.len, ← ek]; exact gtK_le _ _⟩
        rw [textsM_snoc, HI.out.1]
        show (L ++ [(textM 32 r false).1], (textM 32 r false).2) = _
        unfold textM
        simp only [Bool.false_eq_true, if_false]
        rw [show gtS r 32 = s from es, show gtK r 32 = kt from ek, show gtE r 32 = qt from eq]
      clear es ek eq
      by_cases zt : qt = 0
      case neg =>
        have fti : ¬ (qt : Int) = 0 := by omega
        have ftb : ((qt : Int) == 0) = false := beq_eq_false_iff_ne.2 fti
        have ftn : ((qt : Int) != 0) = true := by simp [bne, ftb]
        go_wp2_with (go_at_call 34; refine Calls.mono (gt_k (HI.out.2.1.after HI.out.2.2.2) 32 (by omega) HT.out.1 HT.out.2.1 HT.out.2.2) ?_; rintro e w5 ⟨rfl, ha⟩; have H5 := show Hid (After wr w5) from ha; clear ha)
        go_ret2
        exact rgp_none (readM_t HG.out.1 HCT.out (j := j + 1) (by omega) (by rw [HR2.out, HTM.out.1]; simpa using zt)) (After.trans HW1.out.1 (After.trans HI.out.2.2.2 H5.out))
      subst zt
      go_wp2_with (first
        | (go_at_call 32; have _u := H6.out; clear _u; refine Calls.mono (rest_k HI.out.2.1 kt HTM.out.2 w6) ?_; rintro e w7 ⟨⟨a7, n7, c7, he, hI⟩, hw⟩; subst he; have hw2 := hw.symm; clear hw; subst hw2; have H7 := show Hid (InB w3 a7 n7 c7 (r.drop kt)) from hI; clear hI)
        | (at_builtin; refine wpList_fam_str rfl _ _ rfl 0 vn L rfl (HI.out.2.2.1.after H5.out) rfl s rfl (by rw [HLL.out]; omega) (by rw [HB.out]; have h1 := HI.out.2.2.2.size; have h2 := H5.out.size; omega) 9 ?_; intro v6 w6 hF hg; have H6 := show Hid (Fam w6 B [rS v6 (L ++ [s])] ∧ After w3 w6) from ⟨hF, ((HI.out.2.2.1.after H5.out).after (after_alloc (After.refl w5) _)).grown (k := 0) rfl hg (After.trans HI.out.2.2.2 (after_alloc H5.out _)) (by rw [HB.out]; exact Nat.le_refl _)⟩; clear hF hg)
        | (go_at_call 34; refine Calls.mono (gt_k (HI.out.2.1.after HI.out.2.2.2) 32 (by omega) HT.out.1 HT.out.2.1 HT.out.2.2) ?_; rintro e w5 ⟨rfl, ha⟩; have H5 := show Hid (After wr w5) from ha; clear ha))
      go_roundw
      case rel => exact ⟨j + 1, a7, n7, c7, L ++ [s], r.drop kt, rfl, by go_num, by omega, HTM.out.1, H7.out, H6.out⟩
      case measure => simp [intOf]; omega
    · obtain rfl : j = v2 := by omega
      have hii : ¬ (j : Int) < (j : Int) := by omega
      obtain ⟨aN, cN, hvN, hSN, hcN⟩ := strs_of_own HLL.out (HI.out.2.2.1.own 0 _ rfl)
      have hvN' : vn = .slice aN j cN := hvN
      subst hvN'
      have HSN : Hid (StrsAt wr aN L ∧ L.length = j) := ⟨hSN, HLL.out⟩
      obtain ⟨⟨lw, k3, q3⟩, h3⟩ : ∃ x, G1 r = x := ⟨_, rfl⟩
      obtain ⟨⟨lp, k4, q4⟩, h4⟩ : ∃ x, G2 (r.drop k3) = x := ⟨_, rfl⟩
      obtain ⟨⟨ly, k5, q5⟩, h5⟩ : ∃ x, G1 ((r.drop k3).drop k4) = x := ⟨_, rfl⟩
      obtain ⟨m2, hm2⟩ : ∃ m, lw.length = m := ⟨_, rfl⟩
      obtain ⟨m3, hm3⟩ : ∃ m, lp.length = m := ⟨_, rfl⟩
      obtain ⟨m4, hm4⟩ : ∃ m, ly.length = m := ⟨_, rfl⟩
      have HCC := show Hid _ from colsM_of HG.out.1 HCT.out (by rw [HR2.out]; exact HI.out.1) h3 h4 h5
      have HGG : Hid (G1 r = (lw, k3, q3) ∧ G2 (r.drop k3) = (lp, k4, q4) ∧ G1 ((r.drop k3).drop k4) = (ly, k5, q5) ∧ lw.length = m2 ∧ lp.length = m3 ∧ ly.length = m4) := ⟨h3, h4, h5, hm2, hm3, hm4⟩
      have HKK : Hid (k3 ≤ r.length ∧ k4 ≤ (r.drop k3).length ∧ k5 ≤ ((r.drop k3).drop k4).length) := ⟨by have := G1_le r; rw [h3] at this; exact this, by have := G2_le (r.drop k3); rw [h4] at this; exact this, by have := G1_le ((r.drop k3).drop k4); rw [h5] at this; exact this⟩
      have HII := show Hid (InB wr a n c r) from HI.out.2.1.after HI.out.2.2.2
      have HWR := show Hid (After w wr ∧ IntsAt wr p1 la) from ⟨After.trans HW1.out.1 HI.out.2.2.2, intsAt_after HW1.out.2.1 HI.out.2.2.2⟩
      clear hSN hcN h3 h4 h5 hm2 hm3 hm4 hvN
      clear H1 H2 H3 H4
      by_cases zq3 : q3 = 0
      case neg =>
        have gq3i : ¬ (q3 : Int) = 0 := by omega
        have gq3b : ((q3 : Int) == 0) = false := beq_eq_false_iff_ne.2 gq3i
        have gq3n : ((q3 : Int) != 0) = true := by simp [bne, gq3b]
        go_wp2_with (first
          | (go_at_call 32; have _u := K5.out; clear _u; refine Calls.mono (rest_k K4.out k5 (by have h1 := HKK.out.2.2; have h2 := K4.out.len; omega) y5) ?_; rintro e y6 ⟨⟨a8, n8, c8, he, hI⟩, hw⟩; subst he; have hw2 := hw.symm; clear hw; subst hw2; have K6 := show Hid (InB wr a8 n8 c8 (((r.drop k3).drop k4).drop k5)) from hI; clear hI)
          | (go_at_call 31; have _u := K4.out; clear _u; refine Calls.mono (gruns_k (K4.out.after K3.out.2.2) HGG.out.2.2.1 HGG.out.2.2.2.2.2) ?_; rintro e y5 ⟨p5, d5, he, hI, ha⟩; subst he; have K5 := show Hid (IntsAt y5 p5 ly ∧ After y3 y5 ∧ After wr y5) from ⟨hI, ha, After.trans K3.out.2.2 ha⟩; clear hI ha)
          | (go_at_call 32; have _u := K3.out; clear _u; refine Calls.mono (rest_k K2.out k4 (by have h1 := HKK.out.2.1; have h2 := K2.out.len; omega) y3) ?_; rintro e y4 ⟨⟨a6, n6, c6, he, hI⟩, hw⟩; subst he; have hw2 := hw.symm; clear hw; subst hw2; have K4 := show Hid (InB wr a6 n6 c6 ((r.drop k3).drop k4)) from hI; clear hI)
          | (go_at_call 35; refine Calls.mono (gdel_k (K2.out.after K1.out.2) HGG.out.2.1 HGG.out.2.2.2.2.1) ?_; rintro e y3 ⟨p4, d4, he, hI, ha⟩; subst he; have K3 := show Hid (IntsAt y3 p4 lp ∧ After y1 y3 ∧ After wr y3) from ⟨hI, ha, After.trans K1.out.2 ha⟩; clear hI ha)
          | (go_at_call 32; have _u := K1.out; clear _u; refine Calls.mono (rest_k HII.out k3 (by have h1 := HKK.out.1; have h2 := HII.out.len; omega) y1) ?_; rintro e y2 ⟨⟨a5, n5, c5, he, hI⟩, hw⟩; subst he; have hw2 := hw.symm; clear hw; subst hw2; have K2 := show Hid (InB wr a5 n5 c5 (r.drop k3)) from hI; clear hI)
          | (go_at_call 31; refine Calls.mono (gruns_k HII.out HGG.out.1 HGG.out.2.2.2.1) ?_; rintro e y1 ⟨p3, d3, he, hI, ha⟩; subst he; have K1 := show Hid (IntsAt y1 p3 lw ∧ After wr y1) from ⟨hI, ha⟩; clear hI ha))
        go_ret2
        exact rgp_none (HCC.out.2 (.inl zq3)) (After.trans HWR.out.1 K5.out.2.2)
      subst zq3
      by_cases zq4 : q4 = 0
      case neg =>
        have gq4i : ¬ (q4 : Int) = 0 := by omega
        have gq4b : ((q4 : Int) == 0) = false := beq_eq_false_iff_ne.2 gq4i
        have gq4n : ((q4 : Int) != 0) = true := by simp [bne, gq4b]
        go_wp2_with (first
          | (go_at_call 32; have _u := K5.out; clear _u; refine Calls.mono (rest_k K4.out k5 (by have h1 := HKK.out.2.2; have h2 := K4.out.len; omega) y5) ?_; rintro e y6 ⟨⟨a8, n8, c8, he, hI⟩, hw⟩; subst he; have hw2 := hw.symm; clear hw; subst hw2; have K6 := show Hid (InB wr a8 n8 c8 (((r.drop k3).drop k4).drop k5)) from hI; clear hI)
          | (go_at_call 31; have _u := K4.out; clear _u; refine Calls.mono (gruns_k (K4.out.after K3.out.2.2) HGG.out.2.2.1 HGG.out.2.2.2.2.2) ?_; rintro e y5 ⟨p5, d5, he, hI, ha⟩; subst he; have K5 := show Hid (IntsAt y5 p5 ly ∧ After y3 y5 ∧ After wr y5) from ⟨hI, ha, After.trans K3.out.2.2 ha⟩; clear hI ha)
          | (go_at_call 32; have _u := K3.out; clear _u; refine Calls.mono (rest_k K2.out k4 (by have h1 := HKK.out.2.1; have h2 := K2.out.len; omega) y3) ?_; rintro e y4 ⟨⟨a6, n6, c6, he, hI⟩, hw⟩; subst he; have hw2 := hw.symm; clear hw; subst hw2; have K4 := show Hid (InB wr a6 n6 c6 ((r.drop k3).drop k4)) from hI; clear hI)
          | (go_at_call 35; refine Calls.mono (gdel_k (K2.out.after K1.out.2) HGG.out.2.1 HGG.out.2.2.2.2.1) ?_; rintro e y3 ⟨p4, d4, he, hI, ha⟩; subst he; have K3 := show Hid (IntsAt y3 p4 lp ∧ After y1 y3 ∧ After wr y3) from ⟨hI, ha, After.trans K1.out.2 ha⟩; clear hI ha)
          | (go_at_call 32; have _u := K1.out; clear _u; refine Calls.mono (rest_k HII.out k3 (by have h1 := HKK.out.1; have h2 := HII.out.len; omega) y1) ?_; rintro e y2 ⟨⟨a5, n5, c5, he, hI⟩, hw⟩; subst he; have hw2 := hw.symm; clear hw; subst hw2; have K2 := show Hid (InB wr a5 n5 c5 (r.drop k3)) from hI; clear hI)
          | (go_at_call 31; refine Calls.mono (gruns_k HII.out HGG.out.1 HGG.out.2.2.2.1) ?_; rintro e y1 ⟨p3, d3, he, hI, ha⟩; subst he; have K1 := show Hid (IntsAt y1 p3 lw ∧ After wr y1) from ⟨hI, ha⟩; clear hI ha))
        go_ret2
        exact rgp_none (HCC.out.2 (.inr (.inl zq4))) (After.trans HWR.out.1 K5.out.2.2)
      subst zq4
      by_cases zq5 : q5 = 0
      case neg =>
        have gq5i : ¬ (q5 : Int) = 0 := by omega
        have gq5b : ((q5 : Int) == 0) = false := beq_eq_false_iff_ne.2 gq5i
        have gq5n : ((q5 : Int) != 0) = true := by simp [bne, gq5b]
        go_wp2_with (first
          | (go_at_call 32; have _u := K5.out; clear _u; refine Calls.mono (rest_k K4.out k5 (by have h1 := HKK.out.2.2; have h2 := K4.out.len; omega) y5) ?_; rintro e y6 ⟨⟨a8, n8, c8, he, hI⟩, hw⟩; subst he; have hw2 := hw.symm; clear hw; subst hw2; have K6 := show Hid (InB wr a8 n8 c8 (((r.drop k3).drop k4).drop k5)) from hI; clear hI)
          | (go_at_call 31; have _u := K4.out; clear _u; refine Calls.mono (gruns_k (K4.out.after K3.out.2.2) HGG.out.2.2.1 HGG.out.2.2.2.2.2) ?_; rintro e y5 ⟨p5, d5, he, hI, ha⟩; subst he; have K5 := show Hid (IntsAt y5 p5 ly ∧ After y3 y5 ∧ After wr y5) from ⟨hI, ha, After.trans K3.out.2.2 ha⟩; clear hI ha)
          | (go_at_call 32; have _u := K3.out; clear _u; refine Calls.mono (rest_k K2.out k4 (by have h1 := HKK.out.2.1; have h2 := K2.out.len; omega) y3) ?_; rintro e y4 ⟨⟨a6, n6, c6, he, hI⟩, hw⟩; subst he; have hw2 := hw.symm; clear hw; subst hw2; have K4 := show Hid (InB wr a6 n6 c6 ((r.drop k3).drop k4)) from hI; clear hI)
          | (go_at_call 35; refine Calls.mono (gdel_k (K2.out.after K1.out.2) HGG.out.2.1 HGG.out.2.2.2.2.1) ?_; rintro e y3 ⟨p4, d4, he, hI, ha⟩; subst he; have K3 := show Hid (IntsAt y3 p4 lp ∧ After y1 y3 ∧ After wr y3) from ⟨hI, ha, After.trans K1.out.2 ha⟩; clear hI ha)
          | (go_at_call 32; have _u := K1.out; clear _u; refine Calls.mono (rest_k HII.out k3 (by have h1 := HKK.out.1; have h2 := HII.out.len; omega) y1) ?_; rintro e y2 ⟨⟨a5, n5, c5, he, hI⟩, hw⟩; subst he; have hw2 := hw.symm; clear hw; subst hw2; have K2 := show Hid (InB wr a5 n5 c5 (r.drop k3)) from hI; clear hI)
          | (go_at_call 31; refine Calls.mono (gruns_k HII.out HGG.out.1 HGG.out.2.2.2.1) ?_; rintro e y1 ⟨p3, d3, he, hI, ha⟩; subst he; have K1 := show Hid (IntsAt y1 p3 lw ∧ After wr y1) from ⟨hI, ha⟩; clear hI ha))
        go_ret2
        exact rgp_none (HCC.out.2 (.inr (.inr zq5))) (After.trans HWR.out.1 K5.out.2.2)
      subst zq5
      obtain ⟨C, hC⟩ : ∃ C, (⟨la, L, lw, lp, ly, ((r.drop k3).drop k4).drop k5, false⟩ : Cols) = C := ⟨_, rfl⟩
      have HRC : Hid (readM bs = readC C ∧ C.ks = la ∧ C.nms = L ∧ C.ws = lw ∧ C.ps = lp ∧ C.ys = ly ∧ C.fl = false ∧ C.rest = ((r.drop k3).drop k4).drop k5) := ⟨by unfold readM; rw [HCC.out.1 rfl rfl rfl, hC], by rw [← hC], by rw [← hC], by rw [← hC], by rw [← hC], by rw [← hC], by rw [← hC], by rw [← hC]⟩
      clear hC HCC
      by_cases qm2 : m1 = m2
      case neg =>
        have qi : ¬ (m2 : Int) = (m1 : Int) := by omega
        have qb : ((m2 : Int) == (m1 : Int)) = false := beq_eq_false_iff_ne.2 qi
        have qn : ((m2 : Int) != (m1 : Int)) = true := by simp [bne, qb]
        go_wp2_with (first
          | (go_at_call 32; have _u := K5.out; clear _u; refine Calls.mono (rest_k K4.out k5 (by have h1 := HKK.out.2.2; have h2 := K4.out.len; omega) y5) ?_; rintro e y6 ⟨⟨a8, n8, c8, he, hI⟩, hw⟩; subst he; have hw2 := hw.symm; clear hw; subst hw2; have K6 := show Hid (InB wr a8 n8 c8 (((r.drop k3).drop k4).drop k5)) from hI; clear hI)
          | (go_at_call 31; have _u := K4.out; clear _u; refine Calls.mono (gruns_k (K4.out.after K3.out.2.2) HGG.out.2.2.1 HGG.out.2.2.2.2.2) ?_; rintro e y5 ⟨p5, d5, he, hI, ha⟩; subst he; have K5 := show Hid (IntsAt y5 p5 ly ∧ After y3 y5 ∧ After wr y5) from ⟨hI, ha, After.trans K3.out.2.2 ha⟩; clear hI ha)
          | (go_at_call 32; have _u := K3.out; clear _u; refine Calls.mono (rest_k K2.out k4 (by have h1 := HKK.out.2.1; have h2 := K2.out.len; omega) y3) ?_; rintro e y4 ⟨⟨a6, n6, c6, he, hI⟩, hw⟩; subst he; have hw2 := hw.symm; clear hw; subst hw2; have K4 := show Hid (InB wr a6 n6 c6 ((r.drop k3).drop k4)) from hI; clear hI)
          | (go_at_call 35; refine Calls.mono (gdel_k (K2.out.after K1.out.2) HGG.out.2.1 HGG.out.2.2.2.2.1) ?_; rintro e y3 ⟨p4, d4, he, hI, ha⟩; subst he; have K3 := show Hid (IntsAt y3 p4 lp ∧ After y1 y3 ∧ After wr y3) from ⟨hI, ha, After.trans K1.out.2 ha⟩; clear hI ha)
          | (go_at_call 32; have _u := K1.out; clear _u; refine Calls.mono (rest_k HII.out k3 (by have h1 := HKK.out.1; have h2 := HII.out.len; omega) y1) ?_; rintro e y2 ⟨⟨a5, n5, c5, he, hI⟩, hw⟩; subst he; have hw2 := hw.symm; clear hw; subst hw2; have K2 := show Hid (InB wr a5 n5 c5 (r.drop k3)) from hI; clear hI)
          | (go_at_call 31; refine Calls.mono (gruns_k HII.out HGG.out.1 HGG.out.2.2.2.1) ?_; rintro e y1 ⟨p3, d3, he, hI, ha⟩; subst he; have K1 := show Hid (IntsAt y1 p3 lw ∧ After wr y1) from ⟨hI, ha⟩; clear hI ha))
        go_ret2
        exact rgp_none (by rw [HRC.out.1]; unfold readC; rw [if_pos (.inr (.inl (by rw [HRC.out.2.2.2.1, HRC.out.2.1, HGG.out.2.2.2.1, HG.out.2.1]; omega)))]) (After.trans HWR.out.1 K5.out.2.2)
      subst qm2
      by_cases qm3 : m1 = m3
      case neg =>
        have qi : ¬ (m3 : Int) = (m1 : Int) := by omega
        have qb : ((m3 : Int) == (m1 : Int)) = false := beq_eq_false_iff_ne.2 qi
        have qn : ((m3 : Int) != (m1 : Int)) = true := by simp [bne, qb]
        go_wp2_with (first
          | (go_at_call 32; have _u := K5.out; clear _u; refine Calls.mono (rest_k K4.out k5 (by have h1 := HKK.out.2.2; have h2 := K4.out.len; omega) y5) ?_; rintro e y6 ⟨⟨a8, n8, c8, he, hI⟩, hw⟩; subst he; have hw2 := hw.symm; clear hw; subst hw2; have K6 := show Hid (InB wr a8 n8 c8 (((r.drop k3).drop k4).drop k5)) from hI; clear hI)
          | (go_at_call 31; have _u := K4.out; clear _u; refine Calls.mono (gruns_k (K4.out.after K3.out.2.2) HGG.out.2.2.1 HGG.out.2.2.2.2.2) ?_; rintro e y5 ⟨p5, d5, he, hI, ha⟩; subst he; have K5 := show Hid (IntsAt y5 p5 ly ∧ After y3 y5 ∧ After wr y5) from ⟨hI, ha, After.trans K3.out.2.2 ha⟩; clear hI ha)
          | (go_at_call 32; have _u := K3.out; clear _u; refine Calls.mono (rest_k K2.out k4 (by have h1 := HKK.out.2.1; have h2 := K2.out.len; omega) y3) ?_; rintro e y4 ⟨⟨a6, n6, c6, he, hI⟩, hw⟩; subst he; have hw2 := hw.symm; clear hw; subst hw2; have K4 := show Hid (InB wr a6 n6 c6 ((r.drop k3).drop k4)) from hI; clear hI)
          | (go_at_call 35; refine Calls.mono (gdel_k (K2.out.after K1.out.2) HGG.out.2.1 HGG.out.2.2.2.2.1) ?_; rintro e y3 ⟨p4, d4, he, hI, ha⟩; subst he; have K3 := show Hid (IntsAt y3 p4 lp ∧ After y1 y3 ∧ After wr y3) from ⟨hI, ha, After.trans K1.out.2 ha⟩; clear hI ha)
          | (go_at_call 32; have _u := K1.out; clear _u; refine Calls.mono (rest_k HII.out k3 (by have h1 := HKK.out.1; have h2 := HII.out.len; omega) y1) ?_; rintro e y2 ⟨⟨a5, n5, c5, he, hI⟩, hw⟩; subst he; have hw2 := hw.symm; clear hw; subst hw2; have K2 := show Hid (InB wr a5 n5 c5 (r.drop k3)) from hI; clear hI)
          | (go_at_call 31; refine Calls.mono (gruns_k HII.out HGG.out.1 HGG.out.2.2.2.1) ?_; rintro e y1 ⟨p3, d3, he, hI, ha⟩; subst he; have K1 := show Hid (IntsAt y1 p3 lw ∧ After wr y1) from ⟨hI, ha⟩; clear hI ha))
        go_ret2
        exact rgp_none (by rw [HRC.out.1]; unfold readC; rw [if_pos (.inr (.inr (.inl (by rw [HRC.out.2.2.2.2.1, HRC.out.2.1, HGG.out.2.2.2.2.1, HG.out.2.1]; omega))))]) (After.trans HWR.out.1 K5.out.2.2)
      subst qm3
      by_cases qm4 : m1 = m4
      case neg =>
        have qi : ¬ (m4 : Int) = (m1 : Int) := by omega
        have qb : ((m4 : Int) == (m1 : Int)) = false := beq_eq_false_iff_ne.2 qi
        have qn : ((m4 : Int) != (m1 : Int)) = true := by simp [bne, qb]
        go_wp2_with (first
          | (go_at_call 32; have _u := K5.out; clear _u; refine Calls.mono (rest_k K4.out k5 (by have h1 := HKK.out.2.2; have h2 := K4.out.len; omega) y5) ?_; rintro e y6 ⟨⟨a8, n8, c8, he, hI⟩, hw⟩; subst he; have hw2 := hw.symm; clear hw; subst hw2; have K6 := show Hid (InB wr a8 n8 c8 (((r.drop k3).drop k4).drop k5)) from hI; clear hI)
          | (go_at_call 31; have _u := K4.out; clear _u; refine Calls.mono (gruns_k (K4.out.after K3.out.2.2) HGG.out.2.2.1 HGG.out.2.2.2.2.2) ?_; rintro e y5 ⟨p5, d5, he, hI, ha⟩; subst he; have K5 := show Hid (IntsAt y5 p5 ly ∧ After y3 y5 ∧ After wr y5) from ⟨hI, ha, After.trans K3.out.2.2 ha⟩; clear hI ha)
          | (go_at_call 32; have _u := K3.out; clear _u; refine Calls.mono (rest_k K2.out k4 (by have h1 := HKK.out.2.1; have h2 := K2.out.len; omega) y3) ?_; rintro e y4 ⟨⟨a6, n6, c6, he, hI⟩, hw⟩; subst he; have hw2 := hw.symm; clear hw; subst hw2; have K4 := show Hid (InB wr a6 n6 c6 ((r.drop k3).drop k4)) from hI; clear hI)
          | (go_at_call 35; refine Calls.mono (gdel_k (K2.out.after K1.out.2) HGG.out.2.1 HGG.out.2.2.2.2.1) ?_; rintro e y3 ⟨p4, d4, he, hI, ha⟩; subst he; have K3 := show Hid (IntsAt y3 p4 lp ∧ After y1 y3 ∧ After wr y3) from ⟨hI, ha, After.trans K1.out.2 ha⟩; clear hI ha)
          | (go_at_call 32; have _u := K1.out; clear _u; refine Calls.mono (rest_k HII.out k3 (by have h1 := HKK.out.1; have h2 := HII.out.len; omega) y1) ?_; rintro e y2 ⟨⟨a5, n5, c5, he, hI⟩, hw⟩; subst he; have hw2 := hw.symm; clear hw; subst hw2; have K2 := show Hid (InB wr a5 n5 c5 (r.drop k3)) from hI; clear hI)
          | (go_at_call 31; refine Calls.mono (gruns_k HII.out HGG.out.1 HGG.out.2.2.2.1) ?_; rintro e y1 ⟨p3, d3, he, hI, ha⟩; subst he; have K1 := show Hid (IntsAt y1 p3 lw ∧ After wr y1) from ⟨hI, ha⟩; clear hI ha))
        go_ret2
        exact rgp_none (by rw [HRC.out.1]; unfold readC; rw [if_pos (.inr (.inr (.inr (by rw [HRC.out.2.2.2.2.2.1, HRC.out.2.1, HGG.out.2.2.2.2.2, HG.out.2.1]; omega))))]) (After.trans HWR.out.1 K5.out.2.2)
      subst qm4
      go_wp2_with (first
        | (go_at_call 32; have _u := K5.out; clear _u; refine Calls.mono (rest_k K4.out k5 (by have h1 := HKK.out.2.2; have h2 := K4.out.len; omega) y5) ?_; rintro e y6 ⟨⟨a8, n8, c8, he, hI⟩, hw⟩; subst he; have hw2 := hw.symm; clear hw; subst hw2; have K6 := show Hid (InB wr a8 n8 c8 (((r.drop k3).drop k4).drop k5)) from hI; clear hI)
        | (go_at_call 31; have _u := K4.out; clear _u; refine Calls.mono (gruns_k (K4.out.after K3.out.2.2) HGG.out.2.2.1 HGG.out.2.2.2.2.2) ?_; rintro e y5 ⟨p5, d5, he, hI, ha⟩; subst he; have K5 := show Hid (IntsAt y5 p5 ly ∧ After y3 y5 ∧ After wr y5) from ⟨hI, ha, After.trans K3.out.2.2 ha⟩; clear hI ha)
        | (go_at_call 32; have _u := K3.out; clear _u; refine Calls.mono (rest_k K2.out k4 (by have h1 := HKK.out.2.1; have h2 := K2.out.len; omega) y3) ?_; rintro e y4 ⟨⟨a6, n6, c6, he, hI⟩, hw⟩; subst he; have hw2 := hw.symm; clear hw; subst hw2; have K4 := show Hid (InB wr a6 n6 c6 ((r.drop k3).drop k4)) from hI; clear hI)
        | (go_at_call 35; refine Calls.mono (gdel_k (K2.out.after K1.out.2) HGG.out.2.1 HGG.out.2.2.2.2.1) ?_; rintro e y3 ⟨p4, d4, he, hI, ha⟩; subst he; have K3 := show Hid (IntsAt y3 p4 lp ∧ After y1 y3 ∧ After wr y3) from ⟨hI, ha, After.trans K1.out.2 ha⟩; clear hI ha)
        | (go_at_call 32; have _u := K1.out; clear _u; refine Calls.mono (rest_k HII.out k3 (by have h1 := HKK.out.1; have h2 := HII.out.len; omega) y1) ?_; rintro e y2 ⟨⟨a5, n5, c5, he, hI⟩, hw⟩; subst he; have hw2 := hw.symm; clear hw; subst hw2; have K2 := show Hid (InB wr a5 n5 c5 (r.drop k3)) from hI; clear hI)
        | (go_at_call 31; refine Calls.mono (gruns_k HII.out HGG.out.1 HGG.out.2.2.2.1) ?_; rintro e y1 ⟨p3, d3, he, hI, ha⟩; subst he; have K1 := show Hid (IntsAt y1 p3 lw ∧ After wr y1) from ⟨hI, ha⟩; clear hI ha))
      obtain ⟨W0, hW0⟩ : ∃ W, W = y5 := ⟨_, rfl⟩
      have HCI : Hid (IntsAt y5 p1 la ∧ IntsAt y5 p3 lw ∧ IntsAt y5 p4 lp ∧ IntsAt y5 p5 ly ∧ StrsAt y5 aN L ∧ InB y5 a8 n8 c8 (((r.drop k3).drop k4).drop k5) ∧ After w y5 ∧ BytesAt y5 a0 bs) := ⟨intsAt_after HWR.out.2 K5.out.2.2, intsAt_after K1.out.1 (After.trans K3.out.2.1 K5.out.2.1), intsAt_after K3.out.1 K5.out.2.1, K5.out.1, HSN.out.1.after K5.out.2.2, K6.out.after K5.out.2.2, After.trans HWR.out.1 K5.out.2.2, HIN.out.at_.after (After.trans HWR.out.1 K5.out.2.2)⟩
      subst hW0
      clear K1 K2 K3 K4 K5 K6 HII HWR HI
      obtain ⟨rest0, hrest0⟩ : ∃ x, ((r.drop k3).drop k4).drop k5 = x := ⟨_, rfl⟩
      rw [hrest0] at HCI HRC
      clear hrest0 HKK
      have HBG : Hid (rest0.length ≤ 140737488355328) := by have h1 := HCI.out.2.2.2.2.2.1.len; have h2 := HCI.out.2.2.2.2.2.1.big; unfold Hid; omega
      go_loopw [7, 19, 20] (fun vi vl vj wr => ∃ (i : Nat) (a n c : _) (S : RdS), vi = .slice a n c ∧ vj = .int .i64 (i : Int) ∧ i ≤ m1 ∧ Hid (stM C i = some S ∧ S.fl = false ∧ S.ops.length = i ∧ InB W0 a n c S.rest ∧ OwnO wr W0.heap.size vl S.ops ∧ After W0 wr)) (fun _ _ vj _ => m1 - (intOf vj).toNat)
      case atStart => exact ⟨0, a8, n8, c8, ⟨[], rest0, false⟩, rfl, rfl, Nat.zero_le _, by show some (⟨[], C.rest, false⟩ : RdS) = _; rw [HRC.out.2.2.2.2.2.2.2], rfl, rfl, HCI.out.2.2.2.2.2.1, OwnO.nil _ _, After.refl _⟩
      case round =>
        obtain ⟨i, a, n, c, S, hva, hvj, hi, HS⟩ := hrel
        obtain ⟨vl, hvl⟩ : ∃ v, v = u19 := ⟨_, rfl⟩
        subst hva hvj hvl
        by_cases hlt : i < m1
        · have hii : (i : Int) < (m1 : Int) := by omega
          obtain ⟨b1, o1, hp1, hc1⟩ := ints_len (intsAt_after HCI.out.1 HS.out.2.2.2.2.2) HG.out.2.1 hlt
          obtain ⟨b4, o4, hp4, hc4⟩ := ints_len (intsAt_after HCI.out.2.1 HS.out.2.2.2.2.2) HGG.out.2.2.2.1 hlt
          obtain ⟨b5, o5, hp5, hc5⟩ := ints_len (intsAt_after HCI.out.2.2.1 HS.out.2.2.2.2.2) HGG.out.2.2.2.2.1 hlt
          obtain ⟨b6, o6, hp6, hc6⟩ := ints_len (intsAt_after HCI.out.2.2.2.1 HS.out.2.2.2.2.2) HGG.out.2.2.2.2.2 hlt
          subst hp1 hp4 hp5 hp6
          obtain ⟨k, hk⟩ : ∃ k, la[i]?.getD 0 = k := ⟨_, rfl⟩
          obtain ⟨z, hz⟩ : ∃ z, lw[i]?.getD 0 = z := ⟨_, rfl⟩
          obtain ⟨p, hp⟩ : ∃ p, lp[i]?.getD 0 = p := ⟨_, rfl⟩
          obtain ⟨y, hy⟩ : ∃ y, ly[i]?.getD 0 = y := ⟨_, rfl⟩
          rw [hk] at hc1
          rw [hz] at hc4
          rw [hp] at hc5
          rw [hy] at hc6
          have HZ : Hid (C.ws[i]?.getD 0 = z ∧ C.nms.length = j) := ⟨by rw [HRC.out.2.2.2.1]; exact hz, by rw [HRC.out.2.2.1]; exact HSN.out.2⟩
          have HXX : Hid (∀ nm, L[z.toNat]?.getD [] = nm → opAt C i = ⟨k, nm, p, y, []⟩) := fun nm hnm => by
            unfold opAt
            rw [HRC.out.2.1, HRC.out.2.2.1, HRC.out.2.2.2.1, HRC.out.2.2.2.2.1, HRC.out.2.2.2.2.2.1, hk, hz, hp, hy, hnm]
          have OUT : Hid ((z < 0 ∨ (j : Int) ≤ z) → readM bs = none) := fun h => by
            rw [HRC.out.1]
            exact readC_none (n := m1) (by rw [HRC.out.2.1]; exact HG.out.2.1) (stM_none (stM_out HS.out.1 (by rw [HZ.out.1, HZ.out.2]; exact h)) m1 (by omega))
          have HAW := show Hid (After w wr) from After.trans HCI.out.2.2.2.2.2.2.1 HS.out.2.2.2.2.2
          clear hk hz hp hy
          by_cases hz0 : z < 0
          · go_wp2
            go_ret2
            exact rgp_none (OUT.out (.inl hz0)) HAW.out
          · by_cases hz1 : (j : Int) ≤ z
            · have hz2 : z ≥ (j : Int) := hz1
              go_wp2
              go_ret2
              exact rgp_none (OUT.out (.inr hz1)) HAW.out
            · have hz2 : ¬ z ≥ (j : Int) := hz1
              have HZ0 : Hid (¬ (C.ws[i]?.getD 0 < 0 ∨ (C.nms.length : Int) ≤ C.ws[i]?.getD 0)) := fun h => by rw [HZ.out.1, HZ.out.2] at h; omega
              obtain ⟨zn, rfl⟩ : ∃ zn : Nat, z = (zn : Int) := ⟨z.toNat, by omega⟩
              have hzn : zn < j := by omega
              obtain ⟨nm, hnm⟩ : ∃ nm, L[zn]?.getD [] = nm := ⟨_, rfl⟩
              have HX : Hid (opAt C i = ⟨k, nm, p, y, []⟩) := HXX.out nm (by rw [Int.toNat_natCast]; exact hnm)
              obtain ⟨bN, oN, haN, hcN⟩ := HCI.out.2.2.2.2.1 (fun e => by have h := HSN.out.2; rw [e] at h; simp at h; omega)
              have hcn : wr.cell? ⟨bN, oN + zn, none⟩ = some (.string (strOf nm)) := by
                have h1 : L[zn]? = some nm := by
                  rw [List.getElem?_eq_getElem (by rw [HSN.out.2]; exact hzn)] at hnm ⊢
                  simpa using hnm
                have h2 := hcN zn nm h1
                exact (Below.cell HS.out.2.2.2.2.2 (p := ⟨bN, oN + zn, none⟩) (World.block_lt_of_cell? _ _ h2)).trans h2
              subst haN
              have HC1 : Hid (wr.cell? ⟨b1, o1 + i, none⟩ = some (.int .i64 k)) := hc1
              have HC4 : Hid (wr.cell? ⟨b4, o4 + i, none⟩ = some (.int .i64 (zn : Int))) := hc4
              have HC5 : Hid (wr.cell? ⟨b5, o5 + i, none⟩ = some (.int .i64 p)) := hc5
              have HC6 : Hid (wr.cell? ⟨b6, o6 + i, none⟩ = some (.int .i64 y)) := hc6
              have HCN : Hid (wr.cell? ⟨bN, oN + zn, none⟩ = some (.string (strOf nm))) := hcn
              clear hnm hcN hcn hc1 hc5 hc6
              go_wp2_with fail
              clear hc4
              refine wp_region_noPanic ?_
              refine wp_region_held_drew (S := After wr) (by kernel_rfl) (After.drew (After.refl wr)) ?_
              intro hS0
              refine tk 0 153 (.slice (some ⟨b1, o1, none⟩) m1 c1) (fuel := 21) rfl (by kernel_rfl) (by kernel_rfl) (by kernel_rfl) (by kernel_rfl) noPanic_false (by kernel_rfl) (fun _ _ => by kernel_rfl) hS0 ?_
              refine tk 1 154 (.int .i64 (i : Int)) (fuel := 20) rfl (by kernel_rfl) (by kernel_rfl) (by kernel_rfl) (by kernel_rfl) noPanic_false (by kernel_rfl) (fun _ _ => by kernel_rfl) hS0 ?_
              refine tk 2 155 (.pointer (some ⟨b1, o1 + i, none⟩)) (fuel := 19) rfl (by kernel_rfl) (by kernel_rfl) (by kernel_rfl) (by kernel_rfl) noPanic_false (by kernel_rfl) (fun W _ => x_idx46 (x := .tmp 153) (y := .tmp 154) (b := b1) (p := o1) (n := m1) (c := c1) (j := i) (by kernel_rfl) (by kernel_rfl) (by kernel_rfl) hlt) hS0 ?_
              refine tk 3 156 (.int .i64 k) (fuel := 18) rfl (by kernel_rfl) (by kernel_rfl) (by kernel_rfl) (by kernel_rfl) noPanic_false (by kernel_rfl) (fun W hW => x_load2 (x := .tmp 155) (g := b1) (p := o1 + i) (z := k) (by kernel_rfl) (by kernel_rfl) ((Below.cell hW (p := ⟨b1, o1 + i, none⟩) (World.block_lt_of_cell? _ _ HC1.out)).trans HC1.out)) hS0 ?_
              refine tk 4 157 (.slice (some ⟨bN, oN, none⟩) j cN) (fuel := 17) rfl (by kernel_rfl) (by kernel_rfl) (by kernel_rfl) (by kernel_rfl) noPanic_false (by kernel_rfl) (fun _ _ => by kernel_rfl) hS0 ?_
              refine tk 5 158 (.slice (some ⟨b4, o4, none⟩) m1 d3) (fuel := 16) rfl (by kernel_rfl) (by kernel_rfl) (by kernel_rfl) (by kernel_rfl) noPanic_false (by kernel_rfl) (fun _ _ => by kernel_rfl) hS0 ?_
              refine tk 6 159 (.int .i64 (i : Int)) (fuel := 15) rfl (by kernel_rfl) (by kernel_rfl) (by kernel_rfl) (by kernel_rfl) noPanic_false (by kernel_rfl) (fun _ _ => by kernel_rfl) hS0 ?_
              refine tk 7 160 (.pointer (some ⟨b4, o4 + i, none⟩)) (fuel := 14) rfl (by kernel_rfl) (by kernel_rfl) (by kernel_rfl) (by kernel_rfl) noPanic_false (by kernel_rfl) (fun W _ => x_idx46 (x := .tmp 158) (y := .tmp 159) (b := b4) (p := o4) (n := m1) (c := d3) (j := i) (by kernel_rfl) (by kernel_rfl) (by kernel_rfl) hlt) hS0 ?_
              refine tk 8 161 (.int .i64 (zn : Int)) (fuel := 13) rfl (by kernel_rfl) (by kernel_rfl) (by kernel_rfl) (by kernel_rfl) noPanic_false (by kernel_rfl) (fun W hW => x_load2 (x := .tmp 160) (g := b4) (p := o4 + i) (z := (zn : Int)) (by kernel_rfl) (by kernel_rfl) ((Below.cell hW (p := ⟨b4, o4 + i, none⟩) (World.block_lt_of_cell? _ _ HC4.out)).trans HC4.out)) hS0 ?_
              refine tk 9 162 (.pointer (some ⟨bN, oN + zn, none⟩)) (fuel := 12) rfl (by kernel_rfl) (by kernel_rfl) (by kernel_rfl) (by kernel_rfl) noPanic_false (by kernel_rfl) (fun W _ => x_idx45 (x := .tmp 157) (y := .tmp 161) (b := bN) (p := oN) (n := j) (c := cN) (j := zn) (by kernel_rfl) (by kernel_rfl) (by kernel_rfl) hzn) hS0 ?_
              refine tk 10 163 (.string (strOf nm)) (fuel := 11) rfl (by kernel_rfl) (by kernel_rfl) (by kernel_rfl) (by kernel_rfl) noPanic_false (by kernel_rfl) (fun W hW => x_loadT (x := .tmp 162) (t := 9) (g := bN) (j := oN + zn) Try.underlying9 rfl (by kernel_rfl) (by kernel_rfl) ((Below.cell hW (p := ⟨bN, oN + zn, none⟩) (World.block_lt_of_cell? _ _ HCN.out)).trans HCN.out)) hS0 ?_
              refine tk 11 164 (.slice (some ⟨b5, o5, none⟩) m1 d4) (fuel := 10) rfl (by kernel_rfl) (by kernel_rfl) (by kernel_rfl) (by kernel_rfl) noPanic_false (by kernel_rfl) (fun _ _ => by kernel_rfl) hS0 ?_
              refine tk 12 165 (.int .i64 (i : Int)) (fuel := 9) rfl (by kernel_rfl) (by kernel_rfl) (by kernel_rfl) (by kernel_rfl) noPanic_false (by kernel_rfl) (fun _ _ => by kernel_rfl) hS0 ?_
              refine tk 13 166 (.pointer (some ⟨b5, o5 + i, none⟩)) (fuel := 8) rfl (by kernel_rfl) (by kernel_rfl) (by kernel_rfl) (by kernel_rfl) noPanic_false (by kernel_rfl) (fun W _ => x_idx46 (x := .tmp 164) (y := .tmp 165) (b := b5) (p := o5) (n := m1) (c := d4) (j := i) (by kernel_rfl) (by kernel_rfl) (by kernel_rfl) hlt) hS0 ?_
              refine tk 14 167 (.int .i64 p) (fuel := 7) rfl (by kernel_rfl) (by kernel_rfl) (by kernel_rfl) (by kernel_rfl) noPanic_false (by kernel_rfl) (fun W hW => x_load2 (x := .tmp 166) (g := b5) (p := o5 + i) (z := p) (by kernel_rfl) (by kernel_rfl) ((Below.cell hW (p := ⟨b5, o5 + i, none⟩) (World.block_lt_of_cell? _ _ HC5.out)).trans HC5.out)) hS0 ?_
              refine tk 15 168 (.slice (some ⟨b6, o6, none⟩) m1 d5) (fuel := 6) rfl (by kernel_rfl) (by kernel_rfl) (by kernel_rfl) (by kernel_rfl) noPanic_false (by kernel_rfl) (fun _ _ => by kernel_rfl) hS0 ?_
              refine tk 16 169 (.int .i64 (i : Int)) (fuel := 5) rfl (by kernel_rfl) (by kernel_rfl) (by kernel_rfl) (by kernel_rfl) noPanic_false (by kernel_rfl) (fun _ _ => by kernel_rfl) hS0 ?_
              refine tk 17 170 (.pointer (some ⟨b6, o6 + i, none⟩)) (fuel := 4) rfl (by kernel_rfl) (by kernel_rfl) (by kernel_rfl) (by kernel_rfl) noPanic_false (by kernel_rfl) (fun W _ => x_idx46 (x := .tmp 168) (y := .tmp 169) (b := b6) (p := o6) (n := m1) (c := d5) (j := i) (by kernel_rfl) (by kernel_rfl) (by kernel_rfl) hlt) hS0 ?_
              refine tk 18 171 (.int .i64 y) (fuel := 3) rfl (by kernel_rfl) (by kernel_rfl) (by kernel_rfl) (by kernel_rfl) noPanic_false (by kernel_rfl) (fun W hW => x_load2 (x := .tmp 170) (g := b6) (p := o6 + i) (z := y) (by kernel_rfl) (by kernel_rfl) ((Below.cell hW (p := ⟨b6, o6 + i, none⟩) (World.block_lt_of_cell? _ _ HC6.out)).trans HC6.out)) hS0 ?_
              refine tk 19 172 (.agg #[.int .i64 k, .string (strOf nm), .int .i64 p, .int .i64 y, .string ⟨#[]⟩]) (fuel := 2) rfl (by kernel_rfl) (by kernel_rfl) (by kernel_rfl) (by kernel_rfl) noPanic_false (by kernel_rfl) (fun _ _ => by kernel_rfl) hS0 ?_
              refine wpAnyH_all (rs := [20]) (by kernel_rfl) (by simp) (fun i1 hi1 => ?_)
              obtain rfl : i1 = 20 := by simpa using hi1
              clear hi1
              refine opVal 20 21 (.pointer (some ⟨wr.heap.size, 0, none⟩)) (wr.drew.alloc (.cells #[.int .i64 0, .string ⟨#[]⟩, .int .i64 0, .int .i64 0, .string ⟨#[]⟩] 23)) rfl (by kernel_rfl) (by kernel_rfl) (by kernel_rfl) ?_
              refine ⟨after_alloc hS0 _, ?_⟩
              refine tkStoreM 21 23 (.tmp 21) (.tmp 172) wr.heap.size 0 #[.int .i64 k, .string (strOf nm), .int .i64 p, .int .i64 y, .string ⟨#[]⟩] (fuel := 0) rfl rfl rfl (by kernel_rfl) (by kernel_rfl) (by kernel_rfl) (by kernel_rfl) (there_new wr.drew) (by kernel_rfl) (by kernel_rfl) (Below.setCells_new _ (after_alloc hS0 _) (Nat.le_refl _)) ?_
              refine wpAnyH_done (by kernel_rfl) (NoPanic.normal ?_) _
              have H5 := show Hid (RowIs ((wr.drew.alloc (.cells #[.int .i64 0, .string ⟨#[]⟩, .int .i64 0, .int .i64 0, .string ⟨#[]⟩] 23)).setCells wr.heap.size 0 (#[.int .i64 k, .string (strOf nm), .int .i64 p, .int .i64 y, .string ⟨#[]⟩] : Array Value).toList) wr.heap.size 23 (oc ⟨k, nm, p, y, []⟩) ∧ After wr ((wr.drew.alloc (.cells #[.int .i64 0, .string ⟨#[]⟩, .int .i64 0, .int .i64 0, .string ⟨#[]⟩] 23)).setCells wr.heap.size 0 (#[.int .i64 k, .string (strOf nm), .int .i64 p, .int .i64 y, .string ⟨#[]⟩] : Array Value).toList)) from ⟨row_new wr.drew ⟨k, nm, p, y, []⟩, Below.setCells_new _ (after_alloc hS0 _) (Nat.le_refl _)⟩
              revert H5
              generalize (wr.drew.alloc (.cells #[.int .i64 0, .string ⟨#[]⟩, .int .i64 0, .int .i64 0, .string ⟨#[]⟩] 23)).setCells wr.heap.size 0 (#[.int .i64 k, .string (strOf nm), .int .i64 p, .int .i64 y, .string ⟨#[]⟩] : Array Value).toList = W5
              intro H5
              clear hS0
              have f0 := H5.out.1.cell (j := 0) rfl
              by_cases hk1 : k = 1
              · have b1' : (k == 1) = true := beq_iff_eq.2 hk1
                have HT : Hid (hasT ⟨k, nm, p, y, []⟩ = true) := by unfold Hid hasT; simp [hk1]
                clear hk1
                obtain ⟨s, es⟩ : ∃ v, gtS S.rest (1024 : Nat) = v := ⟨_, rfl⟩
                obtain ⟨kt, ek⟩ : ∃ v, gtK S.rest (1024 : Nat) = v := ⟨_, rfl⟩
                obtain ⟨qt, eq⟩ : ∃ v, gtE S.rest (1024 : Nat) = v := ⟨_, rfl⟩
                have HTX : Hid (gtS S.rest (1024 : Nat) = s ∧ gtK S.rest (1024 : Nat) = kt ∧ gtE S.rest (1024 : Nat) = qt) := ⟨es, ek, eq⟩
                have HTM : Hid (stM C (i + 1) = some ⟨S.ops ++ [⟨k, nm, p, y, s⟩], S.rest.drop kt, decide (qt ≠ 0)⟩ ∧ kt ≤ n) := by
                  refine ⟨?_, by rw [← HS.out.2.2.2.1.len, ← ek]; exact gtK_le _ _⟩
                  refine stM_text HS.out.1 HZ0.out HX.out HT.out ?_
                  rw [HS.out.2.1]
                  unfold textM
                  simp only [Bool.false_eq_true, if_false]
                  rw [show gtS S.rest 1024 = s from es, show gtK S.rest 1024 = kt from ek, show gtE S.rest 1024 = qt from eq]
                clear es ek eq
                by_cases zt : qt = 0
                case neg =>
                  have fti : ¬ (qt : Int) = 0 := by omega
                  have ftb : ((qt : Int) == 0) = false := beq_eq_false_iff_ne.2 fti
                  have ftn : ((qt : Int) != 0) = true := by simp [bne, ftb]
                  go_simp
                  go_wp2_with (go_at_call 34; refine Calls.mono (gt_k (HS.out.2.2.2.1.after (After.trans HS.out.2.2.2.2.2 H5.out.2)) 1024 (by omega) HTX.out.1 HTX.out.2.1 HTX.out.2.2) ?_; rintro e w6 ⟨rfl, ha⟩; have H6 := show Hid (After wr w6 ∧ RowIs w6 wr.heap.size 23 (oc ⟨k, nm, p, y, []⟩)) from ⟨After.trans H5.out.2 ha, H5.out.1.below ha H5.out.1.lt⟩; have g4 := H6.out.2.cell (j := 4) rfl; have g4f := H6.out.2.frozen 4; clear ha)
                  go_ret2
                  exact rgp_none (by rw [HRC.out.1]; exact readC_up (n := m1) (by rw [HRC.out.2.1]; exact HG.out.2.1) (by omega) HTM.out.1 (by simpa using zt)) (After.trans HAW.out H6.out.1)
                subst zt
                go_simp
                go_wp2_with (first
                  | (at_builtin; refine wpList_append_ops rfl _ _ rfl W0.heap.size vl S.ops rfl ((HS.out.2.2.2.2.1.after H8.out.2).after (after_alloc (After.refl w8) _)) (some ⟨w8.heap.size, 0, none⟩) 1 [⟨k, nm, p, y, s⟩] 1 rfl rfl (ops_one w8 ⟨k, nm, p, y, s⟩) (by rw [HS.out.2.2.1]; omega) (by have h1 := HS.out.2.2.2.2.2.size; have h2 := (H8.out.2).size; simp; omega) ?_; intro v9 w9 ho hg _; have H9 := show Hid (OwnO w9 W0.heap.size v9 (S.ops ++ [⟨k, nm, p, y, s⟩]) ∧ After W0 w9) from ⟨ho, after_grown (After.trans HS.out.2.2.2.2.2 (after_alloc H8.out.2 _)) hg (Nat.le_refl _) (fun g hg => (World.ownsRow.lt HS.out.2.2.2.2.1 g hg).1)⟩; clear ho hg)
                  | (refine wpList_load_row rfl 23 (.tmp 21) rfl wr.heap.size rfl 23 _ (0, 0) _ H8.out.1 Try.underlying23 rfl (by kernel_rfl) ?_)
                  | (go_at_call 32; have _u := H6.out; clear _u; have H8 := show Hid (RowIs (w6.setCell ⟨wr.heap.size, 4, none⟩ (.string (strOf s))) wr.heap.size 23 (oc ⟨k, nm, p, y, s⟩) ∧ After wr (w6.setCell ⟨wr.heap.size, 4, none⟩ (.string (strOf s)))) from ⟨H6.out.2.set 4 _, Below.setCell H6.out.1 (p := ⟨wr.heap.size, 4, none⟩) (Nat.le_refl _) _⟩; revert H8; generalize w6.setCell ⟨wr.heap.size, 4, none⟩ (.string (strOf s)) = w8; intro H8; refine Calls.mono (rest_k HS.out.2.2.2.1 kt HTM.out.2 w8) ?_; rintro e w7 ⟨⟨a7, n7, c7, he, hI⟩, hw⟩; subst he; have hw2 := hw.symm; clear hw; subst hw2; have H7 := show Hid (InB W0 a7 n7 c7 (S.rest.drop kt)) from hI; clear hI)
                  | (go_at_call 34; refine Calls.mono (gt_k (HS.out.2.2.2.1.after (After.trans HS.out.2.2.2.2.2 H5.out.2)) 1024 (by omega) HTX.out.1 HTX.out.2.1 HTX.out.2.2) ?_; rintro e w6 ⟨rfl, ha⟩; have H6 := show Hid (After wr w6 ∧ RowIs w6 wr.heap.size 23 (oc ⟨k, nm, p, y, []⟩)) from ⟨After.trans H5.out.2 ha, H5.out.1.below ha H5.out.1.lt⟩; have g4 := H6.out.2.cell (j := 4) rfl; have g4f := H6.out.2.frozen 4; clear ha))
                go_roundw
                case rel => exact ⟨i + 1, a7, n7, c7, _, rfl, by go_num, by omega, HTM.out.1, rfl, by simp [HS.out.2.2.1], H7.out, H9.out.1, H9.out.2⟩
                case measure => simp [intOf]; omega
              · have b1' : (k == 1) = false := beq_eq_false_iff_ne.2 hk1
                by_cases hk4 : k = 4
                · have b4' : (k == 4) = true := beq_iff_eq.2 hk4
                  have HT : Hid (hasT ⟨k, nm, p, y, []⟩ = true) := by unfold Hid hasT; simp [hk4]
                  clear hk1 hk4
                  obtain ⟨s, es⟩ : ∃ v, gtS S.rest (1024 : Nat) = v := ⟨_, rfl⟩
                  obtain ⟨kt, ek⟩ : ∃ v, gtK S.rest (1024 : Nat) = v := ⟨_, rfl⟩
                  obtain ⟨qt, eq⟩ : ∃ v, gtE S.rest (1024 : Nat) = v := ⟨_, rfl⟩
                  have HTX : Hid (gtS S.rest (1024 : Nat) = s ∧ gtK S.rest (1024 : Nat) = kt ∧ gtE S.rest (1024 : Nat) = qt) := ⟨es, ek, eq⟩
                  have HTM : Hid (stM C (i + 1) = some ⟨S.ops ++ [⟨k, nm, p, y, s⟩], S.rest.drop kt, decide (qt ≠ 0)⟩ ∧ kt ≤ n) := by
                    refine ⟨?_, by rw [← HS.out.2.2.2.1.len, ← ek]; exact gtK_le _ _⟩
                    refine stM_text HS.out.1 HZ0.out HX.out HT.out ?_
                    rw [HS.out.2.1]
                    unfold textM
                    simp only [Bool.false_eq_true, if_false]
                    rw [show gtS S.rest 1024 = s from es, show gtK S.rest 1024 = kt from ek, show gtE S.rest 1024 = qt from eq]
                  clear es ek eq
                  by_cases zt : qt = 0
                  case neg =>
                    have fti : ¬ (qt : Int) = 0 := by omega
                    have ftb : ((qt : Int) == 0) = false := beq_eq_false_iff_ne.2 fti
                    have ftn : ((qt : Int) != 0) = true := by simp [bne, ftb]
                    go_simp
                    go_wp2_with (go_at_call 34; refine Calls.mono (gt_k (HS.out.2.2.2.1.after (After.trans HS.out.2.2.2.2.2 H5.out.2)) 1024 (by omega) HTX.out.1 HTX.out.2.1 HTX.out.2.2) ?_; rintro e w6 ⟨rfl, ha⟩; have H6 := show Hid (After wr w6 ∧ RowIs w6 wr.heap.size 23 (oc ⟨k, nm, p, y, []⟩)) from ⟨After.trans H5.out.2 ha, H5.out.1.below ha H5.out.1.lt⟩; have g4 := H6.out.2.cell (j := 4) rfl; have g4f := H6.out.2.frozen 4; clear ha)
                    go_ret2
                    exact rgp_none (by rw [HRC.out.1]; exact readC_up (n := m1) (by rw [HRC.out.2.1]; exact HG.out.2.1) (by omega) HTM.out.1 (by simpa using zt)) (After.trans HAW.out H6.out.1)
                  subst zt
                  go_simp
                  go_wp2_with (first
                    | (at_builtin; refine wpList_append_ops rfl _ _ rfl W0.heap.size vl S.ops rfl ((HS.out.2.2.2.2.1.after H8.out.2).after (after_alloc (After.refl w8) _)) (some ⟨w8.heap.size, 0, none⟩) 1 [⟨k, nm, p, y, s⟩] 1 rfl rfl (ops_one w8 ⟨k, nm, p, y, s⟩) (by rw [HS.out.2.2.1]; omega) (by have h1 := HS.out.2.2.2.2.2.size; have h2 := (H8.out.2).size; simp; omega) ?_; intro v9 w9 ho hg _; have H9 := show Hid (OwnO w9 W0.heap.size v9 (S.ops ++ [⟨k, nm, p, y, s⟩]) ∧ After W0 w9) from ⟨ho, after_grown (After.trans HS.out.2.2.2.2.2 (after_alloc H8.out.2 _)) hg (Nat.le_refl _) (fun g hg => (World.ownsRow.lt HS.out.2.2.2.2.1 g hg).1)⟩; clear ho hg)
                    | (refine wpList_load_row rfl 23 (.tmp 21) rfl wr.heap.size rfl 23 _ (0, 0) _ H8.out.1 Try.underlying23 rfl (by kernel_rfl) ?_)
                    | (go_at_call 32; have _u := H6.out; clear _u; have H8 := show Hid (RowIs (w6.setCell ⟨wr.heap.size, 4, none⟩ (.string (strOf s))) wr.heap.size 23 (oc ⟨k, nm, p, y, s⟩) ∧ After wr (w6.setCell ⟨wr.heap.size, 4, none⟩ (.string (strOf s)))) from ⟨H6.out.2.set 4 _, Below.setCell H6.out.1 (p := ⟨wr.heap.size, 4, none⟩) (Nat.le_refl _) _⟩; revert H8; generalize w6.setCell ⟨wr.heap.size, 4, none⟩ (.string (strOf s)) = w8; intro H8; refine Calls.mono (rest_k HS.out.2.2.2.1 kt HTM.out.2 w8) ?_; rintro e w7 ⟨⟨a7, n7, c7, he, hI⟩, hw⟩; subst he; have hw2 := hw.symm; clear hw; subst hw2; have H7 := show Hid (InB W0 a7 n7 c7 (S.rest.drop kt)) from hI; clear hI)
                    | (go_at_call 34; refine Calls.mono (gt_k (HS.out.2.2.2.1.after (After.trans HS.out.2.2.2.2.2 H5.out.2)) 1024 (by omega) HTX.out.1 HTX.out.2.1 HTX.out.2.2) ?_; rintro e w6 ⟨rfl, ha⟩; have H6 := show Hid (After wr w6 ∧ RowIs w6 wr.heap.size 23 (oc ⟨k, nm, p, y, []⟩)) from ⟨After.trans H5.out.2 ha, H5.out.1.below ha H5.out.1.lt⟩; have g4 := H6.out.2.cell (j := 4) rfl; have g4f := H6.out.2.frozen 4; clear ha))
                  go_roundw
                  case rel => exact ⟨i + 1, a7, n7, c7, _, rfl, by go_num, by omega, HTM.out.1, rfl, by simp [HS.out.2.2.1], H7.out, H9.out.1, H9.out.2⟩
                  case measure => simp [intOf]; omega
                · have b4' : (k == 4) = false := beq_eq_false_iff_ne.2 hk4
                  have HT : Hid (hasT ⟨k, nm, p, y, []⟩ = false) := by unfold Hid hasT; simp [hk1, hk4]
                  clear hk1 hk4
                  go_simp
                  go_wp2_with (first
                    | (at_builtin; refine wpList_append_ops rfl _ _ rfl W0.heap.size vl S.ops rfl ((HS.out.2.2.2.2.1.after H5.out.2).after (after_alloc (After.refl W5) _)) (some ⟨W5.heap.size, 0, none⟩) 1 [⟨k, nm, p, y, []⟩] 1 rfl rfl (ops_one W5 ⟨k, nm, p, y, []⟩) (by rw [HS.out.2.2.1]; omega) (by have h1 := HS.out.2.2.2.2.2.size; have h2 := (H5.out.2).size; simp; omega) ?_; intro v9 w9 ho hg _; have H9 := show Hid (OwnO w9 W0.heap.size v9 (S.ops ++ [⟨k, nm, p, y, []⟩]) ∧ After W0 w9) from ⟨ho, after_grown (After.trans HS.out.2.2.2.2.2 (after_alloc H5.out.2 _)) hg (Nat.le_refl _) (fun g hg => (World.ownsRow.lt HS.out.2.2.2.2.1 g hg).1)⟩; clear ho hg)
                    | (refine wpList_load_row rfl 23 (.tmp 21) rfl wr.heap.size rfl 23 _ (0, 0) _ H5.out.1 Try.underlying23 rfl (by kernel_rfl) ?_))
                  go_roundw
                  case rel => exact ⟨i + 1, a, n, c, _, rfl, by go_num, by omega, stM_plain HS.out.1 HZ0.out HX.out HT.out, HS.out.2.1, by simp [HS.out.2.2.1], HS.out.2.2.2.1, H9.out.1, H9.out.2⟩
                  case measure => simp [intOf]; omega
        · obtain rfl : i = m1 := by omega
          have hii : ¬ (i : Int) < (i : Int) := by omega
          have HRM : Hid (readM bs = some S.ops) := by
            rw [HRC.out.1, readC_some (n := i) (by rw [HRC.out.2.1]; exact HG.out.2.1) (by rw [HRC.out.2.2.2.1]; exact HGG.out.2.2.2.1) (by rw [HRC.out.2.2.2.2.1]; exact HGG.out.2.2.2.2.1) (by rw [HRC.out.2.2.2.2.2.1]; exact HGG.out.2.2.2.2.2) HRC.out.2.2.2.2.2.2.1 HS.out.1, HS.out.2.1]
            rfl
          have HOK : Hid (∀ x ∈ S.ops, x.Ok) := readM_ok (by have h1 := HIN.out.len; have h2 := HIN.out.big; unfold maxLen; omega) HRM.out
          obtain ⟨al, cl, hvl, hAl, _⟩ := ops_sl HS.out.2.2.2.2.1 HS.out.2.2.1
          subst hvl
          have HAL : Hid (OpsAt wr al S.ops) := hAl
          clear hAl
          have HAW := show Hid (After w wr ∧ BytesAt wr a0 bs) from ⟨After.trans HCI.out.2.2.2.2.2.2.1 HS.out.2.2.2.2.2, HCI.out.2.2.2.2.2.2.2.after HS.out.2.2.2.2.2⟩
          obtain ⟨q, hq⟩ : ∃ q, putE S.ops = q := ⟨_, rfl⟩
          obtain ⟨Bq, hBq⟩ : ∃ B, putBs S.ops = B := ⟨_, rfl⟩
          have HQ : Hid (putE S.ops = q ∧ putBs S.ops = Bq) := ⟨hq, hBq⟩
          have HGM : Hid (getM bs = if putE S.ops = 0 ∧ layB S.ops = bs then some S.ops else none) := by
            show getM bs = _
            unfold getM
            rw [HRM.out]
            rfl
          clear hq hBq
          by_cases zq : q = 0
          case neg =>
            have fqi : ¬ (q : Int) = 0 := by omega
            have fqb : ((q : Int) == 0) = false := beq_eq_false_iff_ne.2 fqi
            have fqn : ((q : Int) != 0) = true := by simp [bne, fqb]
            go_wp2_with (go_at_call 15; refine Calls.mono (rput_k al i cl S.ops HS.out.2.2.1 HOK.out (by omega) wr HAL.out HQ.out.1 HQ.out.2) ?_; rintro e w9 ⟨v9, rfl, ho, ha⟩; have H9 := show Hid (After wr w9) from ha; have hc1 := ho.conv; have hc2 : (convert 30 9 (.slice a0 n0 c0)).run Try.prog w9 = .ok (.string (strOf bs)) w9 := (by have h := conv_at c0 (HAW.out.2.after ha); rw [HIN.out.len] at h; exact h); clear ho ha)
            go_ret2
            exact ⟨_, _, rfl, After.trans HAW.out.1 H9.out, fun _ => ⟨rfl, rfl⟩, fun l e => by rw [HGM.out, HQ.out.1, if_neg (fun h => zq h.1)] at e; cases e⟩
          subst zq
          have HBQ : Hid (layB S.ops = Bq) := by have h := HQ.out.2; unfold putBs at h; rw [HQ.out.1, if_pos rfl] at h; exact h
          by_cases hb : Bq = bs
          case neg =>
            have hbe : ((strOf Bq).toList == (strOf bs).toList) = false := by rw [toList_data, toList_data, data_strOf, data_strOf]; exact beq_eq_false_iff_ne.2 hb
            go_wp2_with (go_at_call 15; refine Calls.mono (rput_k al i cl S.ops HS.out.2.2.1 HOK.out (by omega) wr HAL.out HQ.out.1 HQ.out.2) ?_; rintro e w9 ⟨v9, rfl, ho, ha⟩; have H9 := show Hid (After wr w9) from ha; have hc1 := ho.conv; have hc2 : (convert 30 9 (.slice a0 n0 c0)).run Try.prog w9 = .ok (.string (strOf bs)) w9 := (by have h := conv_at c0 (HAW.out.2.after ha); rw [HIN.out.len] at h; exact h); clear ho ha)
            go_ret2
            exact ⟨_, _, rfl, After.trans HAW.out.1 H9.out, fun _ => ⟨rfl, rfl⟩, fun l e => by rw [HGM.out, HBQ.out, if_neg (fun h => hb h.2)] at e; cases e⟩
          have hbe : ((strOf Bq).toList == (strOf bs).toList) = true := by rw [hb]; exact beq_self_eq_true _
          have HBB : Hid (Bq = bs) := hb
          clear hb
          go_wp2_with (go_at_call 15; refine Calls.mono (rput_k al i cl S.ops HS.out.2.2.1 HOK.out (by omega) wr HAL.out HQ.out.1 HQ.out.2) ?_; rintro e w9 ⟨v9, rfl, ho, ha⟩; have H9 := show Hid (After wr w9) from ha; have hc1 := ho.conv; have hc2 : (convert 30 9 (.slice a0 n0 c0)).run Try.prog w9 = .ok (.string (strOf bs)) w9 := (by have h := conv_at c0 (HAW.out.2.after ha); rw [HIN.out.len] at h; exact h); clear ho ha)
          go_ret2
          exact ⟨_, _, rfl, After.trans HAW.out.1 H9.out, fun e => (by rw [HGM.out, HQ.out.1, HBQ.out, HBB.out, if_pos ⟨rfl, rfl⟩] at e; cases e), fun l e => by rw [HGM.out, HQ.out.1, HBQ.out, HBB.out, if_pos ⟨rfl, rfl⟩] at e; cases e; exact ⟨rfl, al, cl, by rw [HS.out.2.2.1]; rfl, HAL.out.after H9.out⟩⟩
end Go.Proofs.Ytpplnomomcdemaa

namespace Go.Proofs.Ytpplnomomcdemaa
open Go.RowKit Leb
theorem rget_none {w : World} {a : Option Addr} {n c : Nat} {bs : List UInt8} (h : InB w a n c bs) (hg : getM bs = none) :
    Calls Try.prog 18 #[.slice a n c] w fun e w' => e = .returned (.tuple #[.slice none 0 0, .int .i64 4]) ∧ After w w' := by
  refine Calls.mono (rget_any a n c bs w h) ?_
  rintro e w' ⟨v, q, rfl, ha, h0, _⟩
  obtain ⟨rfl, rfl⟩ := h0 hg
  exact ⟨rfl, ha⟩
theorem rget_some {w : World} {a : Option Addr} {n c : Nat} {bs : List UInt8} (h : InB w a n c bs) {l : List Opn} {m : Nat} (hg : getM bs = some l) (hm : l.length = m) :
    Calls Try.prog 18 #[.slice a n c] w fun e w' => ∃ a' c', e = .returned (.tuple #[.slice a' m c', .int .i64 0]) ∧ OpsAt w' a' l ∧ After w w' := by
  refine Calls.mono (rget_any a n c bs w h) ?_
  rintro e w' ⟨v, q, rfl, ha, _, h1⟩
  obtain ⟨rfl, a', c', rfl, hA⟩ := h1 l hg
  rw [hm]
  exact ⟨a', c', rfl, hA, ha⟩
theorem get_some {w : World} {a : Option Addr} {n c : Nat} {bs : List UInt8} (h : InB w a n c bs) {l : List Opn} {m : Nat} (hg : getM bs = some l) (hm : l.length = m) :
    Calls Try.prog 17 #[.slice a n c] w fun e w' => ∃ g, e = .returned (.tuple #[.slice (some ⟨g, 0, none⟩) m m, .int .i64 0]) ∧ OpsAt w' (some ⟨g, 0, none⟩) l ∧ After w w' := by
  refine Calls.mono (get_any a n c bs h.len h.cap h.nil h.big w h.at_) ?_
  rintro e w' ⟨v, q, rfl, ha, _, h1⟩
  obtain ⟨rfl, _, g, rfl, hA⟩ := h1 l hg
  rw [hm]
  exact ⟨g, rfl, hA, ha⟩
set_option maxRecDepth 100000 in
set_option maxHeartbeats 2400000 in
theorem gets_any (a0 : Option Addr) (n0 c0 : Nat) (bs : List UInt8) (w : World) (hin : InB w a0 n0 c0 bs) :
    Calls Try.prog 5 #[.slice a0 n0 c0] w fun e w' => e = .returned (.bool true) ∧ After w w' := by
  have HIN : Hid (InB w a0 n0 c0 bs) := hin
  clear hin
  cases hg : getM bs with
  | none =>
    have HGM : Hid (getM bs = none) := hg
    clear hg
    go_enter Try.func5, Try.ntmps5
    go_wp2_with (first
      | (go_at_call 13; refine Calls.mono (awake_any w5) ?_; rintro e w6 ⟨rfl, ha⟩; have H6 := show Hid (After w w6) from After.trans H5.out ha; clear ha)
      | (go_at_call 19; refine Calls.mono (same19 none none 0 0 [] [] 0 0 rfl rfl (by omega) w4 (fun h => absurd rfl h) (fun h => absurd rfl h)) ?_; rw [decide_eq_true rfl]; rintro e w5 ⟨rfl, ha⟩; have hv1 : (convert 30 9 (.slice a1 n0 c1)).run Try.prog w5 = .ok (.string (strOf bs)) w5 := (by have h := conv_at c1 (H1.out.1.at_.after (After.trans H2.out.1 (After.trans H3.out.1 (After.trans H4.out ha)))); rw [HIN.out.len] at h; exact h); have hv2 : (convert 30 9 (.slice a0 n0 c0)).run Try.prog w5 = .ok (.string (strOf bs)) w5 := (by have h := conv_at c0 ((HIN.out.at_.after H1.out.2).after (After.trans H2.out.1 (After.trans H3.out.1 (After.trans H4.out ha)))); rw [HIN.out.len] at h; exact h); have H5 := show Hid (After w w5) from After.trans H1.out.2 (After.trans H2.out.1 (After.trans H3.out.1 (After.trans H4.out ha))); clear ha)
      | (go_at_call 16; refine Calls.mono (rsame16 none none 0 0 [] [] 0 0 rfl rfl (by omega) w3 (fun h => absurd rfl h) (fun h => absurd rfl h)) ?_; rw [decide_eq_true rfl]; rintro e w4 ⟨rfl, ha⟩; have H4 := show Hid (After w3 w4) from ha; clear ha)
      | (go_at_call 18; refine Calls.mono (rget_none (HIN.out.after (After.trans H1.out.2 H2.out.1)) HGM.out) ?_; rintro e w3 ⟨rfl, ha⟩; have H3 := show Hid (After w2 w3 ∧ True) from ⟨ha, trivial⟩; clear ha)
      | (go_at_call 17; refine Calls.mono (get_none a1 n0 c1 bs HIN.out.len H1.out.1.cap H1.out.1.nil HIN.out.big w1 H1.out.1.at_ HGM.out) ?_; rintro e w2 ⟨rfl, ha⟩; have H2 := show Hid (After w1 w2 ∧ True) from ⟨ha, trivial⟩; clear ha)
      | (at_builtin; refine wpList_append_any rfl _ _ rfl w.heap.size (.slice (some ⟨w.heap.size, 0, none⟩) 0 0) [] rfl (Own.fresh w) a0 c0 bs n0 HIN.out.len rfl (HIN.out.at_.after (after_alloc (After.refl w) _)) (by have h1 := HIN.out.len; have h2 := HIN.out.big; simp; omega) (by simp) ?_; intro v1 w1 ho hgr; rw [List.nil_append] at ho; obtain ⟨a1, c1, he, hA1, hc1, hz1⟩ := own_sl ho HIN.out.len; subst he; have H1 := show Hid (InB w1 a1 n0 c1 bs ∧ After w w1) from ⟨⟨hA1, HIN.out.len, hc1, hz1, HIN.out.big⟩, after_grown (after_alloc (After.refl w) _) hgr (Nat.le_refl _) (fun k hk => by cases hk; exact Nat.le_refl _)⟩; clear ho hgr hA1 hc1 hz1))
    go_ret
    exact ⟨rfl, H6.out⟩
  | some l =>
    have HGM : Hid (getM bs = some l) := hg
    obtain ⟨m, hm⟩ : ∃ m, l.length = m := ⟨_, rfl⟩
    have HM : Hid (m ≤ 256 ∧ l.length = m) := ⟨by rw [← hm]; exact (getM_some (by rw [HIN.out.len]; have := HIN.out.big; unfold maxLen; omega) hg).2.2.few, hm⟩
    clear hg hm
    go_enter Try.func5, Try.ntmps5
    go_wp2_with (first
      | (go_at_call 13; refine Calls.mono (awake_any w5) ?_; rintro e w6 ⟨rfl, ha⟩; have H6 := show Hid (After w w6) from After.trans H5.out ha; clear ha)
      | (go_at_call 19; refine Calls.mono (same19 (some ⟨g2, 0, none⟩) a3 m c3 l l m m HM.out.2 HM.out.2 (by have := HM.out.1; omega) w4 (H2.out.2.after (After.trans H3.out.1 H4.out)) (H3.out.2.after H4.out)) ?_; rw [decide_eq_true rfl]; rintro e w5 ⟨rfl, ha⟩; have hv1 : (convert 30 9 (.slice a1 n0 c1)).run Try.prog w5 = .ok (.string (strOf bs)) w5 := (by have h := conv_at c1 (H1.out.1.at_.after (After.trans H2.out.1 (After.trans H3.out.1 (After.trans H4.out ha)))); rw [HIN.out.len] at h; exact h); have hv2 : (convert 30 9 (.slice a0 n0 c0)).run Try.prog w5 = .ok (.string (strOf bs)) w5 := (by have h := conv_at c0 ((HIN.out.at_.after H1.out.2).after (After.trans H2.out.1 (After.trans H3.out.1 (After.trans H4.out ha)))); rw [HIN.out.len] at h; exact h); have H5 := show Hid (After w w5) from After.trans H1.out.2 (After.trans H2.out.1 (After.trans H3.out.1 (After.trans H4.out ha))); clear ha)
      | (go_at_call 16; refine Calls.mono (rsame16 (some ⟨g2, 0, none⟩) a3 m c3 l l m m HM.out.2 HM.out.2 (by have := HM.out.1; omega) w3 (H2.out.2.after H3.out.1) H3.out.2) ?_; rw [decide_eq_true rfl]; rintro e w4 ⟨rfl, ha⟩; have H4 := show Hid (After w3 w4) from ha; clear ha)
      | (go_at_call 18; refine Calls.mono (rget_some (HIN.out.after (After.trans H1.out.2 H2.out.1)) HGM.out HM.out.2) ?_; rintro e w3 ⟨a3, c3, he, hA, ha⟩; subst he; have H3 := show Hid (After w2 w3 ∧ OpsAt w3 a3 l) from ⟨ha, hA⟩; clear ha hA)
      | (go_at_call 17; refine Calls.mono (get_some H1.out.1 HGM.out HM.out.2) ?_; rintro e w2 ⟨g2, he, hA, ha⟩; subst he; have H2 := show Hid (After w1 w2 ∧ OpsAt w2 (some ⟨g2, 0, none⟩) l) from ⟨ha, hA⟩; clear ha hA)
      | (at_builtin; refine wpList_append_any rfl _ _ rfl w.heap.size (.slice (some ⟨w.heap.size, 0, none⟩) 0 0) [] rfl (Own.fresh w) a0 c0 bs n0 HIN.out.len rfl (HIN.out.at_.after (after_alloc (After.refl w) _)) (by have h1 := HIN.out.len; have h2 := HIN.out.big; simp; omega) (by simp) ?_; intro v1 w1 ho hgr; rw [List.nil_append] at ho; obtain ⟨a1, c1, he, hA1, hc1, hz1⟩ := own_sl ho HIN.out.len; subst he; have H1 := show Hid (InB w1 a1 n0 c1 bs ∧ After w w1) from ⟨⟨hA1, HIN.out.len, hc1, hz1, HIN.out.big⟩, after_grown (after_alloc (After.refl w) _) hgr (Nat.le_refl _) (fun k hk => by cases hk; exact Nat.le_refl _)⟩; clear ho hgr hA1 hc1 hz1))
    go_ret
    exact ⟨rfl, H6.out⟩
end Go.Proofs.Ytpplnomomcdemaa

namespace Go.Proofs.Ytpplnomomcdemaa.OpGets
open Go.ChangeShapes Go.WideShapes Go.ChangeAt Go.RowKit Leb
open Go.ChangeMaps (open_string)

set_option maxRecDepth 100000 in
/-- What the walk gives, for every argument and every world. -/
theorem contract (H : Type) (enc : TypeId × Value → H) (W : World) (base : Nat) (args : Array Value) (ds gs : List (DataW H)) (before : List MemPlace)
    (hval : ∀ (j : Nat) t v, Try.f5.params[j]? = some t → args[j]? = some v → Value.okWide Try.prog W .any base t v)
    (hW : DataW.Whole enc Try.prog Try.f5.params.toList Rows.opGetsSpec.vars false W args.toList ds gs before)
    (hsz : (DataW.weightsEach Try.prog (Try.f5.params.toList ++ (OpenSpec.ofChange Rows.opGetsSpec).bare.plain.varTypes Try.prog) (ds ++ gs)).all (· ≤ reachBytes) = true) :
    Calls Try.prog 5 args W fun e W' => ∃ v, e = .returned v ∧ Rows.opGetsSpec.post enc Try.prog Try.f5 false true false false W args v W' := by
  have hW' := hW
  obtain ⟨p, q, hA0, hV, rfl, hfz, hnd⟩ := hW
  have hA : DataW.TrodAll enc Try.prog W 0 (fun _ => true) true Try.f5.params.toList args.toList ds p := hA0
  rw [Try.params5] at hA hval hsz
  obtain ⟨v0, vs0, d0, ds0, p0, q0, hargs, rfl, rfl, h0, r0⟩ := trodAll_cons hA
  obtain ⟨rfl, rfl, rfl⟩ := trodAll_nil r0
  obtain rfl : args = #[v0] := by cases args; simp_all
  obtain ⟨rfl, rfl⟩ := trodVars_none hV
  have k0 := h0
  have lt0 : ∀ x ∈ p0, x.block < W.heap.size := by obtain ⟨m, hm⟩ := k0; exact DataW.trod_lt m _ _ _ hm
  obtain ⟨a0, len0, cap0, rfl⟩ := okWide_slice Try.underlying30 (hval 0 30 v0 rfl rfl)
  obtain ⟨l0, hl0, hc0, hm0, hb0⟩ := open_bytes h0 (fun elems spare he => sized_slice hsz (j := 0) (t := 30) (e := 5) rfl (by rw [he]; rfl) Try.underlying30)
  clear hA0 hA
  refine (gets_any a0 len0 cap0 l0 W ⟨hb0, hl0, hc0, fun e => by subst e; have := bytesAt_none hb0; rw [this] at hl0; simpa using hl0.symm, by omega⟩).mono fun e W' ⟨he, bel⟩ => ?_
  subst he
  exact ⟨_, rfl, _, _, _, [], _, [], hW', trodAll_mk1 (shut_bool Try.underlying4 _), (trodAll_cons_mk (Below.trod laidOut (by kernel_rfl) (of_decide_eq_true (by kernel_rfl)) k0 bel lt0) (trodAll_mk0)), rfl, bel.frame _, fun h => by cases h⟩

set_option maxRecDepth 100000 in
/-- A world for the witness: the settled one. -/
theorem witness (os : Os) {H : Type} (enc : TypeId × Value → H) : ∃ (w : World) (tape : Tape) (i : Input), w.os = os ∧ (w.forCall tape i).Shaped Try.checked.prog ∧ i.vars = [] ∧ Input.okWide Try.checked.prog (w.forCall tape i) .any w.heap.size 5 i ∧
      (OpenSpec.ofChange Rows.opGetsSpec).preRow enc Try.checked.prog Try.f5 Rows.opGetsRow.domain false Rows.opGetsRow.laid (w.forCall tape i).memory i.args ∧ ({} : Assume).holds Try.checked.prog (lone (Frame.enter Try.checked.prog 5 i.args .normal) [] (w.forCall tape i)) :=
  witness_row_at (enc := enc) (C := Try.checked) false (World.holding Try.prog os ⟨#[], #[], []⟩) #[.slice none 0 0] rfl (by kernel_rfl) (by kernel_rfl) (by kernel_rfl)
    (OpenSpec.preRow_of_cond 8 (x := ([.nil], [], [])) (by kernel_rfl) (by kernel_rfl) (fun k hk => by cases hk) (by kernel_rfl) (laidMet_nil _ _))

set_option maxRecDepth 100000 in
theorem lifted (os : Os) (started : os.Started) (H : Type) (enc : TypeId × Value → H) (F : Stop.Interp) :
    ReturnsInHanded {} Try.checked os 5 .any ((OpenSpec.ofChange Rows.opGetsSpec).preRow enc Try.prog Try.f5 Rows.opGetsRow.domain false Rows.opGetsRow.laid) (((OpenSpec.ofChange Rows.opGetsSpec).at F).post enc Try.prog Try.f5 false true false false) := by
  refine returnsInHanded_of_row (C := Try.checked) (s := OpenSpec.ofChange Rows.opGetsSpec) own started (by kernel_rfl) Try.func5 (witness os enc) ?_
  intro W base args ds gs before hval hW _ _ hsz _ _ _
  exact contract H enc W base args ds gs before hval hW hsz

set_option maxRecDepth 100000 in
theorem said : Rows.OpGetsSaid :=
  OpenClaim.holds_of_cond 5 Try.f5 rfl rfl rfl rfl rfl rfl rfl ⟨rfl, rfl, rfl, rfl, rfl⟩ rfl rfl rfl rfl rfl (by kernel_rfl) Try.func5 (by kernel_rfl)
    (of_decide_eq_true (by kernel_rfl)) (by unfold Func.isWrapper; first | (rw [if_pos (by decide +kernel)]; kernel_rfl) | (rw [if_neg (by decide +kernel)]; exact ⟨rfl, rfl⟩))
    (fun os started H enc _ F => by rw [OpenClaim.pre_eq_preRow]; exact lifted os started H enc F)
end Go.Proofs.Ytpplnomomcdemaa.OpGets
namespace Go.Proofs.Ytpplnomomcdemaa
theorem opGets_holds : Rows.OpGetsSaid := OpGets.said
end Go.Proofs.Ytpplnomomcdemaa
