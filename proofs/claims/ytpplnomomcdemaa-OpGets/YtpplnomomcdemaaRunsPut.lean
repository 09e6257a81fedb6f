/-
  THE WALK OF ref.Runs AND OF ref.Deltas.
-/
import Derived.Test.YtpplnomomcdemaaSplit
import Derived.Test.YtpplnomomcdemaaDiffs
import Derived.Test.YtpplnomomcdemaaRoundKit
import Derived.Test.YtpplnomomcdemaaLongMath
import Derived.Test.YtpplnomomcdemaaGetDeltas
import Derived.Test.YtpplnomomcdemaaRunsWalk
namespace Go.Proofs.Ytpplnomomcdemaa
open Go.RowKit Leb
section
variable {o : Oper} {a : Act} {x y : Operand} {w : World}
theorem laidI_most : ∀ rs : List (Int × Nat), (∀ p ∈ rs, -9223372036854775808 ≤ p.1 ∧ p.1 ≤ 9223372036854775807 ∧ p.2 ≤ 1048576) → (laidI rs).length ≤ 20 * rs.length
  | [], _ => by simp [laidI]
  | p :: rs, h => by
    have ih := laidI_most rs (fun q hq => h q (by simp [hq]))
    have hp := h p (by simp)
    have h3 := uintB_len10 p.2 (by omega)
    have h4 := intB_len10 p.1 hp.1 hp.2.1
    have e : (laidI (p :: rs)).length = (uintB p.2).length + (intB p.1).length + (laidI rs).length := by simp [laidI]; omega
    rw [e, List.length_cons]
    omega
theorem runsB_len (l : List Int) (hl : ∀ x ∈ l, -9223372036854775808 ≤ x ∧ x ≤ 9223372036854775807) (hn : l.length ≤ 1048575) : (runsB l).length ≤ 30000000 := by
  have h1 := runs_len l
  have h2 := uintB_len10 (runs l).length (by omega)
  have h3 := laidI_most (runs l) (fun p hp => ⟨(hl _ (runs_mem l p hp)).1, (hl _ (runs_mem l p hp)).2, by have := runs_many l p hp; omega⟩)
  have e : (runsB l).length = (uintB (runs l).length).length + (laidI (runs l)).length := by simp [runsB]
  omega
theorem x_index51 {g n c j : Nat} (hop : o.op = .indexAddr 65 x y) (hx : a.eval x = .slice (some ⟨g, 0, none⟩) n c) (hy : a.eval y = .int .i64 (j : Int)) (hj : j < n) : (execOp a.eval o).run Try.prog w = .ok (.value (.pointer (some ⟨g, j * 2, none⟩))) w := by
  obtain ⟨i, hi, hz⟩ := Option.map_eq_some_iff.1 info54
  simp only [Prod.mk.injEq] at hz
  unfold execOp
  simp only [hop, hx, hy]
  simp [go_sem, hi, hz.2.1, hj, sizeOf, typeInfo, Addr.add]
  omega
theorem x_field0 {g p : Nat} (hop : o.op = .fieldAddr 68 x 0) (hx : a.eval x = .pointer (some ⟨g, p, none⟩)) : (execOp a.eval o).run Try.prog w = .ok (.value (.pointer (some ⟨g, p, none⟩))) w := by
  unfold execOp
  simp only [hop, hx]
  simp [go_sem]
theorem x_field1 {g p : Nat} (hop : o.op = .fieldAddr 68 x 1) (hx : a.eval x = .pointer (some ⟨g, p, none⟩)) : (execOp a.eval o).run Try.prog w = .ok (.value (.pointer (some ⟨g, p + 1, none⟩))) w := by
  unfold execOp
  simp only [hop, hx]
  simp [go_sem]
theorem x_load3 {g p : Nat} {z : Int} (hop : o.op = .load 3 x) (hx : a.eval x = .pointer (some ⟨g, p, none⟩)) (hc : w.cell? ⟨g, p, none⟩ = some (.int .i64 z)) : (execOp a.eval o).run Try.prog w = .ok (.value (.int .i64 z)) w := by
  unfold execOp
  simp only [hop, hx]
  simp [go_sem, hc]
theorem x_load2 {g p : Nat} {z : Int} (hop : o.op = .load 2 x) (hx : a.eval x = .pointer (some ⟨g, p, none⟩)) (hc : w.cell? ⟨g, p, none⟩ = some (.int .i64 z)) : (execOp a.eval o).run Try.prog w = .ok (.value (.int .i64 z)) w := by
  unfold execOp
  simp only [hop, hx]
  simp [go_sem, hc]
theorem x_conv349 {n : Nat} (hop : o.op = .convert 3 51 x) (hx : a.eval x = .int .i64 (n : Int)) (hn : n ≤ 2097152) : (execOp a.eval o).run Try.prog w = .ok (.value (.int .u64 (n : Int))) w := by
  have e : IntKind.u64.wrap (n : Int) = n := by show (n : Int) % 18446744073709551616 = n; omega
  unfold execOp
  simp only [hop, hx]
  simp [go_sem, e]
end
section
variable {ops : Array Oper} {Q : Exit → Act → World → Prop} {fuel : Nat} {listed : Array Bool} {a : Act} {w W : World} {oi : Oper}
/-- Number i, which alone may come up, is a call, by its contract; what was kept is kept. -/
theorem tkCallK (i d : Nat) (f : FuncId) (args : Array Value) (R : Value → World → Prop) (hi : ops[i]? = some oi) (hd : oi.dst = some d) (hr : Region.ready .any ops listed = [i])
    (hw : Region.wanted oi (yielded ops a.tmps) = true) (hrun : ∀ w, (execOp a.eval oi).run Try.prog w = .ok (.enter f args) w) (hS : After W w)
    (hc : Calls Try.prog f args w fun e w' => ∃ v, e = .returned v ∧ R v w' ∧ After w w')
    (h : ∀ v w', R v w' → After w w' → After W w' → wpAnyH Try.prog .any ops Q (After W) fuel (listed.setIfInBounds i true) (a.put (some d) v) w') : wpAnyH Try.prog .any ops Q (After W) (fuel + 1) listed a w :=
  wpAnyH_all hr (by simp) (fun j hj => by
    obtain rfl : j = i := by simpa using hj
    refine wpOp_step hi (fun K' hK => ?_)
    rw [if_pos hw]
    unfold Oper.wp
    rw [hrun, Oper.upon_enter]
    refine hc.mono (fun e w' ⟨v, he, hr, hb⟩ => ?_)
    subst he
    rw [hd]
    exact hK _ _ ⟨hS.trans hb, h v w' hr hb (hS.trans hb)⟩)
/-- Number i, which alone may come up, appends bytes to an own row. -/
theorem tkApp (i d : Nat) (s x : Operand) (hi : ops[i]? = some oi) (hd : oi.dst = some d) (hr : Region.ready .any ops listed = [i])
    (hw : Region.wanted oi (yielded ops a.tmps) = true) (hop : oi.op = .call { callee := .builtin .append, args := #[s, x], argTypes := #[30, 30] })
    (v : Value) (bs : List UInt8) (hs : a.eval s = v) (hown : Own w W.heap.size v bs)
    (ao : Option Addr) (c : Nat) (news : List UInt8) (k : Nat) (hk : news.length = k) (hx : a.eval x = .slice ao k c) (hnews : BytesAt w ao news)
    (hbytes : bs.length + news.length ≤ 140737488355328) (hS : After W w)
    (h : ∀ v' w', Own w' W.heap.size v' (bs ++ news) → After W w' → w.grownBy w' v.ownBlock → wpAnyH Try.prog .any ops Q (After W) fuel (listed.setIfInBounds i true) (a.put (some d) v') w') : wpAnyH Try.prog .any ops Q (After W) (fuel + 1) listed a w := by
  obtain ⟨v', w', h1, h2, h3⟩ := run_append_any w oi.type W.heap.size v bs hown ao c news k hk hnews hbytes hS.size
  have hA : After W w' := after_grown hS h3 (Nat.le_refl _) (fun k hk => (World.ownsRow.lt hown k hk).1)
  refine wpAnyH_all hr (by simp) (fun j hj => ?_)
  obtain rfl : j = i := by simpa using hj
  refine wpOp_step hi (fun K' hK => ?_)
  rw [if_pos hw]
  unfold Oper.wp
  have hrun : (execOp a.eval oi).run Try.prog w = .ok (.value v') w' := by simp [execOp, hop, resolve, invoke, builtin, hs, hx, h1, Result.andThen]
  rw [hrun]
  show K' (a.put oi.dst v') w'
  rw [hd]
  exact hK _ _ ⟨hA, h v' w' h2 hA h3⟩
end
theorem laidI_snoc2 (rs : List (Int × Nat)) (p : Int × Nat) : laidI (rs ++ [p]) = laidI rs ++ uintB p.2 ++ intB p.1 := by simp [laidI]
theorem laidI_app2 (a b : List (Int × Nat)) : laidI (a ++ b) = laidI a ++ laidI b := by simp [laidI]
set_option maxRecDepth 100000 in
set_option maxHeartbeats 1600000 in
theorem putRuns_any (ao : Option Addr) (cap : Nat) (l : List Int) (hl : ∀ x ∈ l, -9223372036854775808 ≤ x ∧ x ≤ 9223372036854775807) (hn : l.length ≤ 1048575) (w : World) (hI : IntsAt w ao l) :
    Calls Try.prog 26 #[.slice ao l.length cap] w fun e W' => ∃ v, e = .returned v ∧ Own W' w.heap.size v (runsB l) ∧ After w W' := by
  have HI : Hid (IntsAt w ao l) := hI
  have HBL : Hid ((runsB l).length ≤ 30000000) := runsB_len l hl hn
  have hrl := runs_len l
  have HRM : Hid (∀ p ∈ runs l, -9223372036854775808 ≤ p.1 ∧ p.1 ≤ 9223372036854775807 ∧ p.2 ≤ l.length) := fun p hp => ⟨(hl _ (runs_mem l p hp)).1, (hl _ (runs_mem l p hp)).2, runs_many l p hp⟩
  obtain ⟨F, hF⟩ : ∃ F, runs l = F := ⟨_, rfl⟩
  obtain ⟨N, hN⟩ : ∃ N, F.length = N := ⟨_, rfl⟩
  have HRB : Hid (runsB l = uintB N ++ laidI F) := (by unfold Hid runsB; rw [hF, hN])
  have C28 := show Hid _ from split_any ao cap l (by omega) w hI
  rw [hF] at HRM C28 hrl
  rw [hN] at hrl
  have HN : Hid (F.length = N) := hN
  clear hI hl hF hN
  go_enter Try.func26, Try.ntmps26
  go_wp2_with (first
    | (go_at_call 49; refine Calls.mono C28.out ?_; rintro e wm ⟨v, rfl, ho, hb⟩; obtain ⟨va, vc, hv, hpa, hva⟩ := OwnP.at ho; rw [HN.out] at hv; subst hv; have HPA : Hid (PairsAt wm va F) := hpa; have HVA : Hid (∀ a, va = some a → w.heap.size ≤ a.block ∧ a.block < wm.heap.size) := hva; have HBM : Hid (After w wm) := hb; clear ho hb hpa hva)
    | (go_at_call 27; refine (ruint_any N (by omega) _).mono ?_; rintro e w1 ⟨v1, rfl, ho1, hb1⟩; have HO1 : Hid (Own w1 wm.heap.size v1 (uintB N)) := ho1; have HB1 : Hid (After wm w1) := hb1; clear ho1 hb1))
  go_loopw [4, 5] (fun v i ws => ∃ j : Nat, j ≤ N ∧ i = .int .i64 j ∧ Hid (Own ws wm.heap.size v (uintB N ++ laidI (F.take j))) ∧ Hid (After wm ws)) (fun _ i _ => N - (intOf i).toNat)
  case atStart => exact ⟨0, by omega, rfl, by unfold Hid; simpa [laidI] using HO1.out, HB1.out⟩
  case round =>
    obtain ⟨j, hj, rfl, HOr, HAr⟩ := hrel
    by_cases hjl : j < N
    · have hjF : j < F.length := (by rw [HN.out]; exact hjl)
      obtain ⟨g2, rfl, hc2⟩ := HPA.out (by intro h; have := congrArg List.length h; rw [HN.out, List.length_nil] at this; omega)
      obtain ⟨p, hp⟩ : ∃ p, F[j]? = some p := ⟨_, List.getElem?_eq_getElem hjF⟩
      obtain ⟨x, m⟩ := p
      obtain ⟨hcm, hcx⟩ := hc2 j _ hp
      have hpm := HRM.out _ (List.mem_of_getElem? hp)
      simp only at hcm hcx hpm
      have HT : Hid (uintB N ++ laidI (F.take (j + 1)) = (uintB N ++ laidI (F.take j)) ++ uintB m ++ intB x) := (by unfold Hid; rw [List.take_add_one, hp, Option.toList_some, laidI_snoc2]; simp)
      have HLL : Hid ((uintB N ++ laidI (F.take j)).length ≤ 30000000) := (by
        unfold Hid
        have h1 := HBL.out
        rw [HRB.out, ← List.take_append_drop j F, laidI_app2] at h1
        simp only [List.length_append] at h1 ⊢
        omega)
      obtain ⟨T, HTT⟩ : ∃ T, Hid (uintB N ++ laidI (F.take j) = T) := ⟨_, rfl⟩
      rw [HTT.out] at HT HLL HOr
      have h10 := uintB_len10 m (by omega)
      have h11 := intB_len10 x hpm.1 hpm.2.1
      obtain ⟨vr, hvr⟩ : ∃ v, Own wr wm.heap.size v T := ⟨_, HOr.out⟩
      have HAm : ∀ W, After wm W → W.cell? ⟨g2, j * 2, none⟩ = some (.int .i64 (m : Int)) := fun W hW => (Below.cell hW (p := ⟨g2, j * 2, none⟩) (block_lt_of_cell hcm)).trans hcm
      have HAx : ∀ W, After wm W → W.cell? ⟨g2, j * 2 + 1, none⟩ = some (.int .i64 x) := fun W hW => (Below.cell hW (p := ⟨g2, j * 2 + 1, none⟩) (block_lt_of_cell hcx)).trans hcx
      have H1 := show Hid _ from HAm
      have H2 := show Hid _ from HAx
      have H3 := show Hid _ from hpm
      have H4 := show Hid _ from h10
      have H5 := show Hid _ from h11
      clear HAm HAx hpm h10 h11 hcm hcx hp hc2 hvr hjF
      go_wp2
      refine wp_region_noPanic ?_
      refine wp_region_held_drew (S := After wm) (by kernel_rfl) (After.drew HAr.out) ?_
      intro hS0
      have HO0 : Own wr.drew wm.heap.size _ T := HOr.out
      clear vr
      refine tk 0 18 (u4) (fuel := 16) rfl (by kernel_rfl) (by kernel_rfl) (by kernel_rfl) (by kernel_rfl) noPanic_false (by kernel_rfl) (fun _ _ => by kernel_rfl) hS0 ?_
      refine tk 1 19 (.slice (some ⟨g2, 0, none⟩) N vc) (fuel := 15) rfl (by kernel_rfl) (by kernel_rfl) (by kernel_rfl) (by kernel_rfl) noPanic_false (by kernel_rfl) (fun _ _ => by kernel_rfl) hS0 ?_
      refine tk 2 20 (.int .i64 (j : Int)) (fuel := 14) rfl (by kernel_rfl) (by kernel_rfl) (by kernel_rfl) (by kernel_rfl) noPanic_false (by kernel_rfl) (fun _ _ => by kernel_rfl) hS0 ?_
      refine tk 3 21 (.pointer (some ⟨g2, j * 2, none⟩)) (fuel := 13) rfl (by kernel_rfl) (by kernel_rfl) (by kernel_rfl) (by kernel_rfl) noPanic_false (by kernel_rfl) (fun _ _ => x_index51 (x := .tmp 19) (y := .tmp 20) (g := g2) (n := N) (c := vc) (j := j) (by kernel_rfl) (by kernel_rfl) (by kernel_rfl) hjl) hS0 ?_
      refine tk 4 22 (.pointer (some ⟨g2, j * 2, none⟩)) (fuel := 12) rfl (by kernel_rfl) (by kernel_rfl) (by kernel_rfl) (by kernel_rfl) noPanic_false (by kernel_rfl) (fun _ _ => x_field0 (x := .tmp 21) (g := g2) (p := j * 2) (by kernel_rfl) (by kernel_rfl)) hS0 ?_
      refine tk 5 23 (.int .i64 (m : Int)) (fuel := 11) rfl (by kernel_rfl) (by kernel_rfl) (by kernel_rfl) (by kernel_rfl) noPanic_false (by kernel_rfl) (fun W hW => x_load3 (x := .tmp 22) (g := g2) (p := j * 2) (by kernel_rfl) (by kernel_rfl) (H1.out W hW)) hS0 ?_
      refine tk 6 24 (.int .u64 (m : Int)) (fuel := 10) rfl (by kernel_rfl) (by kernel_rfl) (by kernel_rfl) (by kernel_rfl) noPanic_false (by kernel_rfl) (fun _ _ => x_conv349 (x := .tmp 23) (n := m) (by kernel_rfl) (by kernel_rfl) (by have := H3.out.2.2; omega)) hS0 ?_
      refine tk 9 27 (.slice (some ⟨g2, 0, none⟩) N vc) (fuel := 9) rfl (by kernel_rfl) (by kernel_rfl) (by kernel_rfl) (by kernel_rfl) noPanic_false (by kernel_rfl) (fun _ _ => by kernel_rfl) hS0 ?_
      refine tk 10 28 (.int .i64 (j : Int)) (fuel := 8) rfl (by kernel_rfl) (by kernel_rfl) (by kernel_rfl) (by kernel_rfl) noPanic_false (by kernel_rfl) (fun _ _ => by kernel_rfl) hS0 ?_
      refine tk 11 29 (.pointer (some ⟨g2, j * 2, none⟩)) (fuel := 7) rfl (by kernel_rfl) (by kernel_rfl) (by kernel_rfl) (by kernel_rfl) noPanic_false (by kernel_rfl) (fun _ _ => x_index51 (x := .tmp 27) (y := .tmp 28) (g := g2) (n := N) (c := vc) (j := j) (by kernel_rfl) (by kernel_rfl) (by kernel_rfl) hjl) hS0 ?_
      refine tk 12 30 (.pointer (some ⟨g2, j * 2 + 1, none⟩)) (fuel := 6) rfl (by kernel_rfl) (by kernel_rfl) (by kernel_rfl) (by kernel_rfl) noPanic_false (by kernel_rfl) (fun _ _ => x_field1 (x := .tmp 29) (g := g2) (p := j * 2) (by kernel_rfl) (by kernel_rfl)) hS0 ?_
      refine tk 13 31 (.int .i64 x) (fuel := 5) rfl (by kernel_rfl) (by kernel_rfl) (by kernel_rfl) (by kernel_rfl) noPanic_false (by kernel_rfl) (fun W hW => x_load2 (x := .tmp 30) (g := g2) (p := j * 2 + 1) (by kernel_rfl) (by kernel_rfl) (H2.out W hW)) hS0 ?_
      refine tkCallK 7 25 27 #[.int .u64 (m : Int)] _ (fuel := 4) rfl (by kernel_rfl) (by kernel_rfl) (by kernel_rfl) (fun _ => by kernel_rfl) hS0 (ruint_any m (by have := H3.out.2.2; omega) _) ?_
      intro v2 w2 r2 s2 t2
      obtain ⟨a2, c2, hv2, hat2, _, _⟩ := Own.at r2
      subst hv2
      have ho2 : Own w2 wm.heap.size _ T := Own.below HO0 s2 (Nat.le_refl _)
      refine tkApp 8 26 (.tmp 18) (.tmp 25) (fuel := 3) rfl (by kernel_rfl) (by kernel_rfl) (by kernel_rfl) (by kernel_rfl) _ T (by kernel_rfl) ho2 a2 c2 (uintB m) _ rfl (by kernel_rfl) hat2 (by have := HLL.out; have := H4.out; omega) t2 ?_
      intro v3 w3 ho3 t3 _
      refine tkCallK 14 32 50 #[.int .i64 x] _ (fuel := 2) rfl (by kernel_rfl) (by kernel_rfl) (by kernel_rfl) (fun _ => by kernel_rfl) t3 (rint_any x H3.out.1 H3.out.2.1 _) ?_
      intro v4 w4 r4 s4 t4
      obtain ⟨a4, c4, hv4, hat4, _, _⟩ := Own.at r4
      subst hv4
      have ho4 : Own w4 wm.heap.size v3 (T ++ uintB m) := Own.below ho3 s4 (Nat.le_refl _)
      refine tkApp 15 33 (.tmp 26) (.tmp 32) (fuel := 1) rfl (by kernel_rfl) (by kernel_rfl) (by kernel_rfl) (by kernel_rfl) _ (T ++ uintB m) (by kernel_rfl) ho4 a4 c4 (intB x) _ rfl (by kernel_rfl) hat4 (by have := HLL.out; have := H4.out; have := H5.out; rw [List.length_append]; omega) t4 ?_
      intro v5 w5 ho5 t5 _
      refine tk 16 4 (v5) (fuel := 0) rfl (by kernel_rfl) (by kernel_rfl) (by kernel_rfl) (by kernel_rfl) noPanic_false (by kernel_rfl) (fun _ _ => by kernel_rfl) t5 ?_
      refine wpAnyH_done (by kernel_rfl) (NoPanic.normal ?_) _
      go_simp
      have HO5 : Hid (Own w5 wm.heap.size v5 (T ++ uintB m ++ intB x)) := ho5
      have HB5 : Hid (After wm w5) := t5
      clear ho5 t5 ho4 ho3 ho2 HO0 hat2 hat4 r2 r4
      go_wp2
      go_roundw
      case rel => exact ⟨j + 1, by omega, by go_num, by unfold Hid; rw [HT.out]; exact HO5.out, HB5.out⟩
      case measure => simp [intOf]; omega
    · obtain rfl : j = N := by omega
      go_wp2
      go_ret
      refine ⟨_, rfl, ?_, After.trans HBM.out HAr.out⟩
      rw [HRB.out]
      have := HOr.out
      rw [← HN.out, List.take_length, HN.out] at this
      exact Own.mono this HBM.out.size
set_option maxRecDepth 100000 in
theorem putDeltas_any (ao : Option Addr) (cap : Nat) (l : List Int) (hn : l.length ≤ 1048575) (w : World) (hI : IntsAt w ao l) :
    Calls Try.prog 28 #[.slice ao l.length cap] w fun e W' => ∃ v, e = .returned v ∧ Own W' w.heap.size v (runsB (diffs l)) ∧ After w W' := by
  have C31 := show Hid _ from refDiffs_any ao cap l hn w hI
  have HDL : Hid ((diffs l).length = l.length) := diffs_len l
  clear hI
  go_enter Try.func28, Try.ntmps28
  go_wp2_with (first
    | (go_at_call 51; refine Calls.mono C31.out ?_; rintro e w1 ⟨v1, rfl, ho1, hb1⟩; obtain ⟨a1, c1, hv1, hat1, _, _⟩ := OwnI.at ho1; subst hv1; have HT1 : Hid (IntsAt w1 a1 (diffs l)) := hat1; have B1 : Hid (After w w1) := hb1; clear ho1 hb1 hat1)
    | (go_at_call 26; refine (putRuns_any a1 c1 (diffs l) (diffs_int l) (by rw [HDL.out]; exact hn) w1 HT1.out).mono ?_; rintro e w2 ⟨v2, rfl, ho2, hb2⟩; have HO2 : Hid (Own w2 w1.heap.size v2 (runsB (diffs l))) := ho2; have B2 : Hid (After w1 w2) := hb2; clear ho2 hb2))
  go_ret
  exact ⟨_, rfl, Own.mono HO2.out B1.out.size, After.trans B1.out B2.out⟩
end Go.Proofs.Ytpplnomomcdemaa
