/-
  THE HEAD OF A FILTER; HOW A FUNCTION LEAVES BEHIND SEVERAL RANGES OVER FUNCTIONS.
-/
import Derived.Test.YtgcgblecendijaaBH
import Derived.Test.YtgcgblecendijaaGetKit
import Derived.Test.YtgcgblecendijaaPdq
namespace Go.Proofs.Ytgcgblecendijaa
open Go.RowKit Go.Shelf Leb
section
variable {ops : Array Oper} {Q : Exit → Act → World → Prop} {S : World → Prop} {fuel : Nat} {listed : Array Bool} {a : Act} {w : World} {oi : Oper}
/-- Number i, which alone may come up, yields v. -/
theorem tkRunS (i d : Nat) (v : Value) (w' : World) (hi : ops[i]? = some oi) (hd : oi.dst = some d) (hr : Region.ready .any ops listed = [i]) (hw : Region.wanted oi (yielded ops a.tmps) = true) (hrun : (execOp a.eval oi).run Try.prog w = .ok (.value v) w') (hS : S w')
    (h : wpAnyH Try.prog .any ops Q S fuel (listed.setIfInBounds i true) (a.put (some d) v) w') : wpAnyH Try.prog .any ops Q S (fuel + 1) listed a w :=
  wpAnyH_all hr (by simp) (fun j hj => by
    obtain rfl : j = i := by simpa using hj
    refine wpOp_step hi (fun K' hK => ?_)
    rw [if_pos hw]
    unfold Oper.wp
    rw [hrun, Oper.upon_value, hd]
    exact hK _ _ ⟨hS, h⟩)
/-- Number i, which alone may come up, is a call. -/
theorem tkCallZ (i d : Nat) (f : FuncId) (args : Array Value) (R : Value → World → Prop) (hi : ops[i]? = some oi) (hd : oi.dst = some d) (hr : Region.ready .any ops listed = [i]) (hw : Region.wanted oi (yielded ops a.tmps) = true) (hrun : ∀ w, (execOp a.eval oi).run Try.prog w = .ok (.enter f args) w)
    (hc : Calls Try.prog f args w fun e w' => ∃ v, e = .returned v ∧ R v w')
    (h : ∀ v w', R v w' → S w' ∧ wpAnyH Try.prog .any ops Q S fuel (listed.setIfInBounds i true) (a.put (some d) v) w') : wpAnyH Try.prog .any ops Q S (fuel + 1) listed a w :=
  wpAnyH_all hr (by simp) (fun j hj => by
    obtain rfl : j = i := by simpa using hj
    refine wpOp_step hi (fun K' hK => ?_)
    rw [if_pos hw]
    unfold Oper.wp
    rw [hrun, Oper.upon_enter]
    refine hc.mono (fun e w' ⟨v, he, hr⟩ => ?_)
    subst he
    rw [hd]
    exact hK _ _ (h v w' hr))
end
/-- append to a row of the call's own, as a run. -/
theorem run_append_any (w : World) (ty : TypeId) (base : Nat) (v : Value) (bs : List UInt8) (hown : Own w base v bs) (ao : Option Addr) (c : Nat) (news : List UInt8) (k : Nat) (hk : news.length = k) (hnews : BytesAt w ao news)
    (hbytes : bs.length + news.length ≤ 140737488355328) (hbase : base ≤ w.heap.size) :
    ∃ v' w', (Builtin.append_ #[26, 26] ty #[v, .slice ao k c]).run Try.prog w = .ok v' w' ∧ Own w' base v' (bs ++ news) ∧ w.grownBy w' v.ownBlock := by
  subst hk
  obtain ⟨i, hi, hz⟩ := Option.map_eq_some_iff.1 bytes5
  simp only [Prod.mk.injEq] at hz
  obtain ⟨hz, hsz, hby⟩ := hz
  cases ao with
  | some ad =>
    obtain ⟨v', w', h1, h2, h3, _⟩ := run_append_own (P := Try.prog) w base 26 ty 5 i (.int .u8 0) 1 1 Try.underlying26 hi hz hsz hby rfl (by omega) v bs.length (c8 bs) hown ad news.length c (c8 news) (by simp [c8_len]) (fun j u hu => by
      have hj := (List.getElem?_eq_some_iff.1 hu).1
      rw [c8_len] at hj
      obtain ⟨b, o, he, hc⟩ := hnews (by intro h; simp [h] at hj)
      cases he
      rw [c8_get news j hj] at hu
      rw [Addr.add_mid, hc j hj, hu]) (c8_one _) (by unfold maxLen; omega) (by omega) hbase
    exact ⟨v', w', h1, by unfold Own; rw [c8_append, List.length_append]; exact h2, h3⟩
  | none =>
    obtain rfl : news = [] := Classical.byContradiction fun hn => by obtain ⟨b, o, he, _⟩ := hnews hn; cases he
    obtain ⟨ao', cap', hv, _, hle, _⟩ := hown.at
    refine ⟨v, w, ?_, by rw [List.append_nil]; exact hown, ⟨rfl, rfl, rfl, Nat.le_refl _, fun _ _ _ => rfl⟩⟩
    rw [hv]
    exact run_append_nothing (P := Try.prog) w 26 26 ty 5 i Try.underlying26 hi ao' bs.length cap' hle (.slice none 0 c) (Src.ofNil w Try.underlying26 c)
theorem x_app {o : Oper} {a : Act} {s x : Operand} {w w' : World} {v u v' : Value} (hop : o.op = .call { callee := .builtin .append, args := #[s, x], argTypes := #[26, 26] }) (hs : a.eval s = v) (hx : a.eval x = u) (h : (Builtin.append_ #[26, 26] o.type #[v, u]).run Try.prog w = .ok v' w') : (execOp a.eval o).run Try.prog w = .ok (.value v') w' := by
  simp [execOp, hop, resolve, invoke, builtin, hs, hx, h, Result.andThen]
/-- The three numbers. -/
def headB (p : Prt) : List UInt8 := uintB p.many ++ uintB p.seed ++ uintB p.bits
theorem headB_len (p : Prt) (h1 : p.many < 18446744073709551616) (h2 : p.seed < 18446744073709551616) (h3 : p.bits < 18446744073709551616) : (headB p).length ≤ 30 := by
  have a1 := uintB_len10 p.many h1
  have a2 := uintB_len10 p.seed h2
  have a3 := uintB_len10 p.bits h3
  unfold headB
  rw [List.length_append, List.length_append]; omega
theorem grown_row {w w' : World} {g : Nat} {t : TypeId} {cs : List Value} {row : Option Nat} (h : RowIs w g t cs) (hg : w.grownBy w' row) (hne : row ≠ some g) : RowIs w' g t cs := (hg.block g h.lt (fun e => hne e.symm)).trans h
theorem uint_s (n : Nat) (hn : n < 18446744073709551616) (w : World) : Calls Try.prog 32 #[.int .u64 (n : Int)] w fun e w' => ∃ v, e = .returned v ∧ (Own w' w.heap.size v (uintB n) ∧ After w w') := LB.uint_any n hn w

set_option maxRecDepth 100000 in
set_option maxHeartbeats 4000000 in
theorem head_any (p : Prt) (h1 : p.many < 18446744073709551616) (h2 : p.seed < 18446744073709551616) (h3 : p.bits < 18446744073709551616) (w : World) :
    Calls Try.prog 22 #[pV p] w fun e w' => ∃ v, e = .returned v ∧ (Own w' w.heap.size v (headB p) ∧ After w w') := by
  obtain ⟨m, s, b⟩ := p
  have HB : Hid (m < 18446744073709551616 ∧ s < 18446744073709551616 ∧ b < 18446744073709551616 ∧ (uintB m).length ≤ 10 ∧ (uintB s).length ≤ 10 ∧ (uintB b).length ≤ 10) := ⟨h1, h2, h3, uintB_len10 m h1, uintB_len10 s h2, uintB_len10 b h3⟩
  clear h1 h2 h3
  obtain ⟨w0, hw0⟩ : ∃ w0, w.alloc (.cells #[.int .u64 (m : Int), .int .u64 (s : Int), .int .u64 (b : Int)] 41) = w0 := ⟨_, rfl⟩
  have H0 : Hid (After w w0 ∧ RowIs w0 w.heap.size 41 (pc ⟨m, s, b⟩)) := by rw [← hw0]; exact ⟨after_alloc (After.refl w) _, RowIs.new w 41 (pc ⟨m, s, b⟩)⟩
  go_enter Try.func22, Try.ntmps22
  go_wp2_with fail
  try simp only [hw0]
  clear hw0
  refine wp_region_noPanic ?_
  refine wp_region_held_drew (S := fun W => RowIs W w.heap.size 41 (pc ⟨m, s, b⟩)) (by kernel_rfl) (RowIs.drew H0.out.2) ?_
  intro hS0
  refine tk 0 4 (.pointer (some ⟨w.heap.size, 0, none⟩)) (fuel := 7) rfl (by kernel_rfl) (by kernel_rfl) (by kernel_rfl) (by kernel_rfl) noPanic_false (by kernel_rfl) (fun _ _ => by kernel_rfl) hS0 ?_
  refine tk 1 5 (.int .u64 (m : Int)) (fuel := 6) rfl (by kernel_rfl) (by kernel_rfl) (by kernel_rfl) (by kernel_rfl) noPanic_false (by kernel_rfl) (fun W hW => x_ldc (t := 39) (x := .tmp 4) (g := w.heap.size) (j := 0) Try.underlying39 rfl (by kernel_rfl) (by kernel_rfl) (hW.cell (j := 0) rfl)) hS0 ?_
  refine tk 3 7 (.pointer (some ⟨w.heap.size, 1, none⟩)) (fuel := 5) rfl (by kernel_rfl) (by kernel_rfl) (by kernel_rfl) (by kernel_rfl) noPanic_false (by kernel_rfl) (fun _ _ => by kernel_rfl) hS0 ?_
  refine tk 4 8 (.int .u64 (s : Int)) (fuel := 4) rfl (by kernel_rfl) (by kernel_rfl) (by kernel_rfl) (by kernel_rfl) noPanic_false (by kernel_rfl) (fun W hW => x_ldc (t := 39) (x := .tmp 7) (g := w.heap.size) (j := 1) Try.underlying39 rfl (by kernel_rfl) (by kernel_rfl) (hW.cell (j := 1) rfl)) hS0 ?_
  refine tkCallZ 2 6 32 #[.int .u64 (m : Int)] (fun v W => Own W w0.heap.size v (uintB m) ∧ After w0 W) (fuel := 3) rfl (by kernel_rfl) (by kernel_rfl) (by kernel_rfl) (fun _ => by kernel_rfl) ((uint_s m HB.out.1 w0.drew).mono (fun _ _ ⟨v, he, h1, h2⟩ => ⟨v, he, h1, (After.drew (After.refl w0)).trans h2⟩)) ?_
  rintro v2 w2 ⟨ho2, ha2⟩
  have hr2 : RowIs w2 w.heap.size 41 (pc ⟨m, s, b⟩) := H0.out.2.below ha2 H0.out.2.lt
  refine ⟨hr2, ?_⟩
  refine tkCallZ 5 9 32 #[.int .u64 (s : Int)] (fun v W => Own W w2.heap.size v (uintB s) ∧ After w2 W) (fuel := 2) rfl (by kernel_rfl) (by kernel_rfl) (by kernel_rfl) (fun _ => by kernel_rfl) (uint_s s HB.out.2.1 w2) ?_
  rintro v3 w3 ⟨ho3, ha3⟩
  have hr3 : RowIs w3 w.heap.size 41 (pc ⟨m, s, b⟩) := hr2.below ha3 hr2.lt
  refine ⟨hr3, ?_⟩
  obtain ⟨a3, c3, rfl, hat3, _, _⟩ := ho3.at
  have ho2' := Own.below ho2 ha3 (Nat.le_refl _)
  obtain ⟨v4, w4, he4, ho4, hg4⟩ := run_append_any w3 26 w0.heap.size v2 (uintB m) ho2' a3 c3 (uintB s) _ rfl hat3 (by have := HB.out; omega) (Nat.le_trans ha2.size ha3.size)
  have hne4 : v2.ownBlock ≠ some w.heap.size := fun e => (by have := (World.ownsRow.lt ho2' _ e).1; have := H0.out.2.lt; omega)
  have hr4 := grown_row hr3 hg4 hne4
  refine tkRunS 6 10 v4 w4 (fuel := 1) rfl (by kernel_rfl) (by kernel_rfl) (by kernel_rfl) (x_app (s := .tmp 6) (x := .tmp 9) (by kernel_rfl) (by kernel_rfl) (by kernel_rfl) he4) hr4 ?_
  have ha4 : After w0 w4 := after_grown (ha2.trans ha3) hg4 (Nat.le_refl _) (fun k hk => (World.ownsRow.lt ho2' k hk).1)
  refine tk 7 3 (v4) (fuel := 0) rfl (by kernel_rfl) (by kernel_rfl) (by kernel_rfl) (by kernel_rfl) noPanic_false (by kernel_rfl) (fun _ _ => by kernel_rfl) hr4 ?_
  refine wpAnyH_done (by kernel_rfl) (NoPanic.normal ?_) _
  have HO : Hid (Own w4 w0.heap.size v4 (uintB m ++ uintB s) ∧ RowIs w4 w.heap.size 41 (pc ⟨m, s, b⟩) ∧ After w w4 ∧ w0.heap.size ≤ w4.heap.size) := ⟨ho4, hr4, H0.out.1.trans ha4, ha4.size⟩
  have c2 := hr4.cell (j := 2) rfl
  clear hS0 ho2 ha2 hr2 ho3 ha3 hr3 hat3 ho2' he4 ho4 hg4 hne4 hr4 ha4
  go_simp
  go_wp2_with (first
    | (go_at_call 32; refine Calls.mono (uint_s b HB.out.2.2.1 w4) ?_; rintro e w5 ⟨v5, rfl, ho5, ha5⟩; obtain ⟨a5, c5, rfl, hat5, hl5, hb5⟩ := ho5.at; have H5 := show Hid (Own w5 w0.heap.size v4 (uintB m ++ uintB s) ∧ After w w5 ∧ BytesAt w5 a5 (uintB b) ∧ w0.heap.size ≤ w5.heap.size) from ⟨Own.below HO.out.1 ha5 (Nat.le_refl _), HO.out.2.2.1.trans ha5, hat5, Nat.le_trans HO.out.2.2.2 ha5.size⟩; clear ho5 ha5 hat5 hl5 hb5)
    | (at_builtin; obtain ⟨v6, w6, he6, ho6, hg6⟩ := run_append_any w5 26 w0.heap.size v4 (uintB m ++ uintB s) H5.out.1 a5 c5 (uintB b) _ rfl H5.out.2.2.1 (by have := HB.out; rw [List.length_append]; omega) H5.out.2.2.2; refine wpList_of_run rfl (x_app (s := .tmp 11) (x := .tmp 14) rfl rfl rfl he6) ?_; have H6 := show Hid (Own w6 w0.heap.size v6 (headB ⟨m, s, b⟩) ∧ After w w6) from ⟨ho6, after_grown H5.out.2.1 hg6 H0.out.1.size (fun k hk => (World.ownsRow.lt H5.out.1 k hk).1)⟩; clear ho6 he6 hg6))
  go_ret
  exact ⟨_, rfl, H6.out.1.mono H0.out.1.size, H6.out.2⟩

end Go.Proofs.Ytgcgblecendijaa
