/-
  OPERATIONS OF A REGION THAT DRAWS ITS ORDER, ONE BY ONE, INSIDE A FENCE (in a round of a range over a function, too).
-/
import Derived.Test.YtpplnomomcdemaaIter
namespace Go.Proofs.Ytpplnomomcdemaa
open Go.RowKit Go.Shelf Leb
section
variable {ops : Array Oper} {Q : Exit → Act → World → Prop} {F : Fence} {n fuel : Nat} {listed : Array Bool} {a : Act} {w : World} {oi : Oper} {K : Act → World → Prop}
theorem opCallIn (i d : Nat) (f : FuncId) (args : Array Value) (R : Value → World → Prop) (hi : ops[i]? = some oi) (hd : oi.dst = some d) (hw : Region.wanted oi (yielded ops a.tmps) = true) (hF : ∀ f, F.fn f) (hdep : F.depth = none) (hsem : oi.semAt F.round a.eval = execOp a.eval oi)
    (hrun : ∀ w, (execOp a.eval oi).run Try.prog w = .ok (.enter f args) w) (hc : CallsIn F (n - 1) Try.prog f args w fun e w' => ∃ v, e = .returned v ∧ R v w') (h : ∀ v w', R v w' → K (a.put (some d) v) w') : wpOpIn F n Try.prog ops Q i K a w := by
  refine wpOpIn_step hi (fun K' hK => ?_)
  rw [if_pos hw]
  refine ⟨fun f _ => hF f, ?_⟩
  rw [hsem, hrun, Oper.uponIn_enter]
  refine ⟨fun hd => (by rw [hdep] at hd; cases hd), hc.mono (fun e w' ⟨v, he, hr⟩ => ?_)⟩
  subst he
  rw [hd]
  exact hK _ _ (h v w' hr)
/-- append to a row of the call's own, as a run. -/
theorem run_append_any (w : World) (ty : TypeId) (base : Nat) (v : Value) (bs : List UInt8) (hown : Own w base v bs) (ao : Option Addr) (c : Nat) (news : List UInt8) (k : Nat) (hk : news.length = k) (hnews : BytesAt w ao news)
    (hbytes : bs.length + news.length ≤ 140737488355328) (hbase : base ≤ w.heap.size) :
    ∃ v' w', (Builtin.append_ #[30, 30] ty #[v, .slice ao k c]).run Try.prog w = .ok v' w' ∧ Own w' base v' (bs ++ news) ∧ w.grownBy w' v.ownBlock := by
  subst hk
  obtain ⟨i, hi, hz⟩ := Option.map_eq_some_iff.1 bytes5
  simp only [Prod.mk.injEq] at hz
  obtain ⟨hz, hsz, hby⟩ := hz
  cases ao with
  | some ad =>
    obtain ⟨v', w', h1, h2, h3, _⟩ := run_append_own (P := Try.prog) w base 30 ty 5 i (.int .u8 0) 1 1 Try.underlying30 hi hz hsz hby rfl (by omega) v bs.length (c8 bs) hown ad news.length c (c8 news) (by simp [c8_len]) (fun j u hu => by
      have hj := (List.getElem?_eq_some_iff.1 hu).1
      rw [c8_len] at hj
      obtain ⟨b, o, he, hc⟩ := hnews (by intro h; simp [h] at hj)
      cases he
      rw [c8_get news j hj] at hu
      rw [Addr.add_mid, hc j hj, hu]) (c8_one _) (by unfold maxLen; omega) (by omega) hbase
    exact ⟨v', w', h1, by unfold Own; rw [c8_append, List.length_append]; exact h2, h3⟩
  | none =>
    obtain rfl : news = [] := Classical.byContradiction fun hn => by obtain ⟨b, o, he, _⟩ := hnews hn; cases he
    obtain ⟨ao', cap', hv, _, hle, _⟩ := hown.at
    refine ⟨v, w, ?_, by rw [List.append_nil]; exact hown, ⟨rfl, rfl, rfl, Nat.le_refl _, fun _ _ _ => rfl⟩⟩
    rw [hv]
    exact run_append_nothing (P := Try.prog) w 30 30 ty 5 i Try.underlying30 hi ao' bs.length cap' hle (.slice none 0 c) (Src.ofNil w Try.underlying30 c)
theorem opAppIn (i d : Nat) (s x : Operand) (hi : ops[i]? = some oi) (hd : oi.dst = some d) (hw : Region.wanted oi (yielded ops a.tmps) = true) (hF : ∀ f, F.fn f) (hsem : oi.semAt F.round a.eval = execOp a.eval oi)
    (hop : oi.op = .call { callee := .builtin .append, args := #[s, x], argTypes := #[30, 30] }) (base : Nat) (v : Value) (bs : List UInt8) (hs : a.eval s = v) (hown : Own w base v bs)
    (ao : Option Addr) (c : Nat) (news : List UInt8) (k : Nat) (hk : news.length = k) (hx : a.eval x = .slice ao k c) (hnews : BytesAt w ao news)
    (hbytes : bs.length + news.length ≤ 140737488355328) (hbase : base ≤ w.heap.size)
    (h : ∀ v' w', Own w' base v' (bs ++ news) → w.grownBy w' v.ownBlock → K (a.put (some d) v') w') : wpOpIn F n Try.prog ops Q i K a w := by
  obtain ⟨v', w', h1, h2, h3⟩ := run_append_any w oi.type base v bs hown ao c news k hk hnews hbytes hbase
  refine opValIn i d v' w' hi hd hw hF hsem ?_ (h v' w' h2 h3)
  simp [execOp, hop, resolve, invoke, builtin, hs, hx, h1, Result.andThen]
/-- A store of one slice into its box. -/
theorem opStoreIn (i : Nat) (t : TypeId) (x y : Operand) (B : Nat) (ao : Option Addr) (len cap : Nat) (u : Value) (hi : ops[i]? = some oi) (hd : oi.dst = none) (hop : oi.op = .store 30 x y) (hw : Region.wanted oi (yielded ops a.tmps) = true) (hF : ∀ f, F.fn f) (hsem : oi.semAt F.round a.eval = execOp a.eval oi)
    (hx : a.eval x = .pointer (some ⟨B, 0, none⟩)) (hy : a.eval y = .slice ao len cap) (hb : Boxed w B t u) (h : K (a.put none undef) (w.setCell ⟨B, 0, none⟩ (.slice ao len cap))) : wpOpIn F n Try.prog ops Q i K a w := by
  have hc := hb.cell
  have hf := hb.frozen
  have hrun : (execOp a.eval oi).run Try.prog w = .ok .skip (w.setCell ⟨B, 0, none⟩ (.slice ao len cap)) := by
    unfold execOp
    simp only [hop, hx, hy]
    simp [go_sem, hc, hf, Instr.storeAt, Instr.sureAddr]
  refine wpOpIn_step hi (fun K' hK => ?_)
  rw [if_pos hw]
  refine ⟨fun f _ => hF f, ?_⟩
  rw [hsem, hrun, Oper.uponIn_skip, hd]
  exact hK _ _ h
end
end Go.Proofs.Ytpplnomomcdemaa
