/-
  REGIONS BY HAND: an operation that turns the world; append.
-/
import Derived.Test.YtjmjianilcdphaaAwake
import Derived.Test.YtjmjianilcdphaaRefGets
namespace Go.Proofs.Ytjmjianilcdphaa
open Go.RowKit Leb
/-- append to a row of the call's own, as a run. -/
theorem run_append_any (w : World) (ty : TypeId) (base : Nat) (v : Value) (bs : List UInt8) (hown : Own w base v bs) (ao : Option Addr) (c : Nat) (news : List UInt8) (k : Nat) (hk : news.length = k) (hnews : BytesAt w ao news)
    (hbytes : bs.length + news.length ≤ 140737488355328) (hbase : base ≤ w.heap.size) :
    ∃ v' w', (Builtin.append_ #[22, 22] ty #[v, .slice ao k c]).run Try.prog w = .ok v' w' ∧ Own w' base v' (bs ++ news) ∧ w.grownBy w' v.ownBlock := by
  subst hk
  obtain ⟨i, hi, hz⟩ := Option.map_eq_some_iff.1 bytes5
  simp only [Prod.mk.injEq] at hz
  obtain ⟨hz, hsz, hby⟩ := hz
  cases ao with
  | some ad =>
    obtain ⟨v', w', h1, h2, h3, _⟩ := run_append_own (P := Try.prog) w base 22 ty 5 i (.int .u8 0) 1 1 Try.underlying22 hi hz hsz hby rfl (by omega) v bs.length (c8 bs) hown ad news.length c (c8 news) (by simp [c8_len]) (fun j u hu => by
      have hj := (List.getElem?_eq_some_iff.1 hu).1
      rw [c8_len] at hj
      obtain ⟨b, o, he, hc⟩ := hnews (by intro h; simp [h] at hj)
      cases he
      rw [c8_get news j hj] at hu
      rw [Addr.add_mid, hc j hj, hu]) (c8_one _) (by unfold maxLen; omega) (by omega) hbase
    exact ⟨v', w', h1, by unfold Own; rw [c8_append, List.length_append]; exact h2, h3⟩
  | none =>
    obtain rfl : news = [] := Classical.byContradiction fun hn => by obtain ⟨b, o, he, _⟩ := hnews hn; cases he
    obtain ⟨ao', cap', hv, _, hle, _⟩ := hown.at
    refine ⟨v, w, ?_, by rw [List.append_nil]; exact hown, ⟨rfl, rfl, rfl, Nat.le_refl _, fun _ _ _ => rfl⟩⟩
    rw [hv]
    exact run_append_nothing (P := Try.prog) w 22 22 ty 5 i Try.underlying22 hi ao' bs.length cap' hle (.slice none 0 c) (Src.ofNil w Try.underlying22 c)
section
variable {ops : Array Oper} {Q : Exit → Act → World → Prop} {S : World → Prop} {fuel : Nat} {listed : Array Bool} {a : Act} {w W : World} {oi : Oper}
/-- Number i, which alone may come up, yields v and turns the world. -/
theorem tkVal (i d : Nat) (v : Value) (w' : World) (hi : ops[i]? = some oi) (hd : oi.dst = some d) (hr : Region.ready .any ops listed = [i])
    (hw : Region.wanted oi (yielded ops a.tmps) = true) (hrun : (execOp a.eval oi).run Try.prog w = .ok (.value v) w') (hS : S w')
    (h : wpAnyH Try.prog .any ops Q S fuel (listed.setIfInBounds i true) (a.put (some d) v) w') : wpAnyH Try.prog .any ops Q S (fuel + 1) listed a w :=
  wpAnyH_all hr (by simp) (fun j hj => by
    obtain rfl : j = i := by simpa using hj
    refine wpOp_step hi (fun K' hK => ?_)
    rw [if_pos hw]
    unfold Oper.wp
    rw [hrun]
    show K' (a.put oi.dst v) w'
    rw [hd]
    exact hK _ _ ⟨hS, h⟩)
/-- Number i, which alone may come up, appends bytes to an own row. -/
theorem tkApp (i d : Nat) (s x : Operand) (hi : ops[i]? = some oi) (hd : oi.dst = some d) (hr : Region.ready .any ops listed = [i])
    (hw : Region.wanted oi (yielded ops a.tmps) = true) (hop : oi.op = .call { callee := .builtin .append, args := #[s, x], argTypes := #[22, 22] })
    (base : Nat) (v : Value) (bs : List UInt8) (hs : a.eval s = v) (hown : Own w base v bs) (hWb : W.heap.size ≤ base)
    (ao : Option Addr) (c : Nat) (news : List UInt8) (k : Nat) (hk : news.length = k) (hx : a.eval x = .slice ao k c) (hnews : BytesAt w ao news)
    (hbytes : bs.length + news.length ≤ 140737488355328) (hbase : base ≤ w.heap.size) (hS : After W w)
    (h : ∀ v' w', Own w' base v' (bs ++ news) → After W w' → w.grownBy w' v.ownBlock → wpAnyH Try.prog .any ops Q (After W) fuel (listed.setIfInBounds i true) (a.put (some d) v') w') : wpAnyH Try.prog .any ops Q (After W) (fuel + 1) listed a w := by
  obtain ⟨v', w', h1, h2, h3⟩ := run_append_any w oi.type base v bs hown ao c news k hk hnews hbytes hbase
  have hA : After W w' := after_grown hS h3 hWb (fun k hk => (World.ownsRow.lt hown k hk).1)
  exact tkVal i d v' w' hi hd hr hw (by simp [execOp, hop, resolve, invoke, builtin, hs, hx, h1, Result.andThen]) hA (h v' w' h2 hA h3)
end
section
variable {o : Oper} {a : Act} {x y z : Operand} {w : World}
theorem x_strneq {p q : List UInt8} (hop : o.op = .binOp .neq 9 x y 9) (hx : a.eval x = .string (strOf p)) (hy : a.eval y = .string (strOf q)) (h : ¬ p = q) : (execOp a.eval o).run Try.prog w = .ok (.value (.bool true)) w := by
  unfold execOp
  simp only [hop, hx, hy]
  simp [go_sem, strOf_toList, h]
theorem x_add1 {n : Nat} (hop : o.op = .binOp .add 3 x y 3) (hx : a.eval x = .int .i64 1) (hy : a.eval y = .int .i64 (n : Int)) (hn : n ≤ 281474976710656) : (execOp a.eval o).run Try.prog w = .ok (.value (.int .i64 ((1 + n : Nat) : Int))) w := by
  unfold execOp
  simp only [hop, hx, hy]
  have e : IntKind.i64.wrap (1 + (n : Int)) = 1 + (n : Int) := by
    simp [IntKind.wrap, IntKind.bits, IntKind.signed]
    split <;> omega
  simp [go_sem, e]
theorem x_fresh (hop : o.op = .buildSlice 22 0 #[]) : (execOp a.eval o).run Try.prog w = .ok (.value (.slice (some ⟨w.heap.size, 0, none⟩) 0 0)) (w.alloc (.cells #[] 5)) := by
  unfold execOp
  simp only [hop]
  simp [go_sem]
end
end Go.Proofs.Ytjmjianilcdphaa
