/-
  THE WALK OF stemmalaw06.HashesSorts.
-/
import Derived.Test.YtedghldjpkabmaaSetsLaw
import Derived.Test.YtedghldjpkabmaaOpenH
namespace Go.Proofs.Ytedghldjpkabmaa
open Go.RowKit Go.Sort
theorem okWide_arr {P : Program} {w : World} {r : Reach} {base : Nat} {t : TypeId} {v : Value} {n : Nat} {e : TypeId} (ht : P.underlying t = some (.array n e)) (h : Value.okWide P w r base t v) : ∃ cs, v = .agg cs ∧ cs.size = P.cellsOf t := by
  simp only [Value.okWide, ht] at h
  obtain ⟨cs, h1, h2, _⟩ := h
  exact ⟨cs, h1, h2⟩
set_option maxRecDepth 100000 in
/-- What came in as a hash by value. -/
theorem open_hash {H : Type} {enc : TypeId × Value → H} {W : World} {base : Nat} {v : Value} {d : DataW H} {p : List MemPlace}
    (hv' : Value.okWide Try.prog W .any base 24 v) (h : DataW.Trod enc Try.prog W 0 (fun _ => true) true 24 v d p) : ∃ q : Hs, q.length = 32 ∧ v = hv q := by
  obtain ⟨cs, rfl, hsz⟩ := okWide_arr Try.underlying24 hv'
  rw [show Try.prog.cellsOf 24 = 32 by kernel_rfl] at hsz
  obtain ⟨fuel, hf⟩ := h
  simp only [Value.cells] at hf
  obtain ⟨q, hq, e⟩ := open_cells24 (by simpa using hsz) hf
  exact ⟨q, hq, by unfold hv; rw [← e]⟩
theorem OwnH.fresh (w : World) : OwnH (w.alloc (.cells #[] 24)) w.heap.size (.slice (some ⟨w.heap.size, 0, none⟩) 0 0) [] :=
  ⟨rfl, .inr ⟨w.heap.size, 0, #[], rfl, Nat.le_refl _, heap_alloc_new w _, Nat.le_refl _, Nat.zero_le _, rfl, rfl⟩⟩
/-- A row of hashes whose bytes are being turned. -/
def Rw (o : Option Addr) (k base : Nat) (W : World) : Prop := k ≠ 0 → ∃ g cur, o = some ⟨g, 0, none⟩ ∧ base ≤ g ∧ W.heap[g]? = some (.cells cur 24 (0, 0)) ∧ ∀ j, j < k * 32 → ∃ b : UInt8, W.cell? ⟨g, j, none⟩ = some (.int .u8 (b.toNat : Int))
theorem Rw.of {W : World} {base : Nat} {o : Option Addr} {k c : Nat} {s : List Hs} (h : OwnH W base (.slice o k c) s) (h32 : All32 s) (hk : s.length = k) : Rw o k base W := fun hk0 => by
  rcases h.2 with ⟨e, _⟩ | ⟨g, cap, cur, e, hb, hg, hnc, _, hcs, ht⟩
  · injection e with _ e2 _; exact absurd e2 hk0
  · injection e with e1 e2 e3
    refine ⟨g, cur, e1, hb, hg, fun j hj => ⟨s.flatten.getD j 0, ?_⟩⟩
    rw [cell_of_row W g j cur 24 (0, 0) hg]
    have hj2 : j < s.length * 32 := by rw [hk]; exact hj
    have h1 := congrArg (fun x => x[j]?) ht
    simp only [List.getElem?_take_of_lt hj2] at h1
    rw [c8_get _ j (by rw [flat_len h32]; exact hj2)] at h1
    simpa using h1
theorem Rw.after {o : Option Addr} {k base : Nat} {W W' : World} (h : Rw o k base W) (ha : After W W') : Rw o k base W' := fun hk => by
  obtain ⟨g, cur, e, hb, hg, hc⟩ := h hk
  refine ⟨g, cur, e, hb, (ha.block g (Array.getElem?_eq_some_iff.1 hg).1).trans hg, fun j hj => ?_⟩
  obtain ⟨b, hb⟩ := hc j hj
  exact ⟨b, (Below.cell ha (block_lt_of_cell hb)).trans hb⟩
theorem Rw.set {g k base : Nat} {W : World} (h : Rw (some ⟨g, 0, none⟩) k base W) (j : Nat) (b : UInt8) : Rw (some ⟨g, 0, none⟩) k base (W.setCell ⟨g, j, none⟩ (.int .u8 (b.toNat : Int))) := fun hk => by
  obtain ⟨g', cur, e, hb, hg, hc⟩ := h hk
  have e1 : g = g' := by injection e with e; injection e
  subst e1
  have hr : RowIs W g 24 cur.toList := by unfold RowIs; simpa using hg
  refine ⟨g, _, rfl, hb, hr.set j _, fun i hi => ?_⟩
  obtain ⟨x, hx⟩ := hc i hi
  by_cases e : i = j
  · subst e
    exact ⟨b, World.cell?_setCell_same _ _ _ hx⟩
  · exact ⟨x, by rw [World.cell?_setCell_other _ _ _ _ (by intro e2; simp only [Addr.mk.injEq, and_true, true_and] at e2; exact e e2.symm)]; exact hx⟩
section
variable {ops : Array Oper} {Q : Exit → Act → World → Prop} {T : World → Prop} {fuel : Nat} {listed : Array Bool} {a : Act} {w : World} {oi : Oper}
theorem tkRun (i : Nat) (v : Value) (w' : World) (hi : ops[i]? = some oi) (hr : Region.ready .any ops listed = [i]) (hw : Region.wanted oi (yielded ops a.tmps) = true)
    (hrun : (execOp a.eval oi).run Try.prog w = .ok (.value v) w') (hT : T w') (h : wpAnyH Try.prog .any ops Q T fuel (listed.setIfInBounds i true) (a.put oi.dst v) w') : wpAnyH Try.prog .any ops Q T (fuel + 1) listed a w :=
  wpAnyH_all hr (by simp) (fun j hj => by
    obtain rfl : j = i := by simpa using hj
    refine wpOp_step hi (fun K' hK => ?_)
    rw [if_pos hw]
    unfold Oper.wp
    rw [hrun]
    exact hK _ _ ⟨hT, h⟩)
theorem x_idx24 {x : Operand} {g p : Nat} (hop : oi.op = .indexAddr 24 x (.const (.int .i64 0))) (hx : a.eval x = .pointer (some ⟨g, p, none⟩)) : (execOp a.eval oi).run Try.prog w = .ok (.value (.pointer (some ⟨g, p, none⟩))) w := by
  unfold execOp; simp only [hop, hx]
  simp [go_sem, Act.eval]
theorem x_ld5 {x : Operand} {g p : Nat} {v : Value} (hop : oi.op = .load 5 x) (hx : a.eval x = .pointer (some ⟨g, p, none⟩)) (hc : w.cell? ⟨g, p, none⟩ = some v) : (execOp a.eval oi).run Try.prog w = .ok (.value v) w := by
  unfold execOp; simp only [hop, hx]; simp [go_sem, hc]
theorem x_add5 {x : Operand} {b : UInt8} (hop : oi.op = .binOp .add 5 x (.const (.int .u8 1)) 5) (hx : a.eval x = .int .u8 (b.toNat : Int)) : (execOp a.eval oi).run Try.prog w = .ok (.value (.int .u8 ((b + 1).toNat : Int))) w := by
  have h1 : (b + 1).toNat = (b.toNat + 1) % 256 := by simp [UInt8.toNat_add]
  unfold execOp; simp only [hop, hx, h1]
  simp [go_sem, Act.eval, IntKind.wrap, IntKind.bits, IntKind.signed]
theorem x_st5 {x y : Operand} {g p : Nat} {z : Int} {u : Value} (hop : oi.op = .store 5 x y) (hx : a.eval x = .pointer (some ⟨g, p, none⟩)) (hy : a.eval y = .int .u8 z) (hc : w.cell? ⟨g, p, none⟩ = some u) (hf : w.frozen? ⟨g, p, none⟩ = false) : (execOp a.eval oi).run Try.prog w = .ok .skip (w.setCell ⟨g, p, none⟩ (.int .u8 z)) := by
  unfold execOp; simp only [hop, hx, hy]; simp [go_sem, hc, hf]
theorem tkSt (i : Nat) (w' : World) (hi : ops[i]? = some oi) (hr : Region.ready .any ops listed = [i]) (hw : Region.wanted oi (yielded ops a.tmps) = true)
    (hrun : (execOp a.eval oi).run Try.prog w = .ok .skip w') (hT : T w') (h : wpAnyH Try.prog .any ops Q T fuel (listed.setIfInBounds i true) (a.put oi.dst undef) w') : wpAnyH Try.prog .any ops Q T (fuel + 1) listed a w :=
  wpAnyH_all hr (by simp) (fun j hj => by
    obtain rfl : j = i := by simpa using hj
    refine wpOp_step hi (fun K' hK => ?_)
    rw [if_pos hw]
    unfold Oper.wp
    rw [hrun]
    exact hK _ _ ⟨hT, h⟩)
theorem x_beq4 {x y : Operand} {t : Bool} (hop : oi.op = .binOp .eql 4 x y 4) (hx : a.eval x = .bool t) (hy : a.eval y = .bool t) : (execOp a.eval oi).run Try.prog w = .ok (.value (.bool true)) w := by
  unfold execOp; simp only [hop, hx, hy]; simp [go_sem]
end

set_option maxRecDepth 100000 in
set_option maxHeartbeats 12800000 in
theorem sorts_any (a0 a1 : Option Addr) (c0 c1 : Nat) (l0 l1 : List Hs) (h : Hs) (hh : h.length = 32) (h0 : All32 l0) (h1 : All32 l1) (n0 n1 : Nat) (e0 : l0.length = n0) (e1 : l1.length = n1) (b0 : n0 ≤ 1152921504606846976) (b1 : n1 ≤ 1152921504606846976) (w : World) (A0 : HsAt w a0 l0) (A1 : HsAt w a1 l1) :
    Calls Try.prog 3 #[.slice a0 n0 c0, .slice a1 n1 c1, hv h] w fun e w' => e = .returned (.bool true) ∧ After w w' := by
  have HH : Hid (h.length = 32) := hh
  have HSW0 : Hid (LsAll w [(a0, n0, l0), (a1, n1, l1)]) := LsAll.cons ⟨A0, h0, e0⟩ (LsAll.cons ⟨A1, h1, e1⟩ (fun _ h => by simp at h))
  have HA0' : Hid (After w (w.alloc (.cells (c8 h).toArray 24))) := after_alloc (After.refl w) _
  have HBX0 : Hid ((w.alloc (.cells (c8 h).toArray 24)).rangeAt w.heap.size 0 (c8 h)) := fun j v hj => by rw [Nat.zero_add]; exact (RowIs.new w 24 (c8 h)).cell hj
  clear A0 A1 h0 h1 e0 e1 hh
  unfold hv
  go_enter Try.func3, Try.ntmps3
  go_upto_region 1 with fail
  obtain ⟨B, hB⟩ : ∃ B, w.heap.size = B := ⟨_, rfl⟩
  rw [hB] at HBX0
  rw [hB]
  obtain ⟨w0, hw0⟩ : ∃ w0, w.alloc (.cells (c8 h).toArray 24) = w0 := ⟨_, rfl⟩
  rw [hw0] at HBX0 HA0'
  rw [hw0]
  have HA0 : Hid (After w w0) := HA0'
  have HST0 : Hid (LsAll w0 [(a0, n0, l0), (a1, n1, l1)]) := HSW0.out.after HA0.out
  have HL0 : Hid (HsAt w0 a0 l0 ∧ All32 l0 ∧ l0.length = n0) := ⟨(HST0.out (a0, n0, l0) (by simp)).at_, (HST0.out (a0, n0, l0) (by simp)).a32, (HST0.out (a0, n0, l0) (by simp)).len⟩
  clear hw0 hB HA0' HSW0
  by_cases f0 : n0 ≤ 2000
  · have H0 : Hid (decide (n0 ≤ 2000) = true) := decide_eq_true f0
    by_cases f1 : n1 ≤ 2000
    · have H1 : Hid (decide (n1 ≤ 2000) = true) := decide_eq_true f1
      clear b0 b1
      go_wp2_with (first
        | (go_at_call 10; refine Calls.mono (few_any a0 n0 c0 (by omega) w0 (t := true) H0.out) ?_; rintro e wx ⟨rfl, hwx⟩; have hwy := hwx.symm; clear hwx; subst hwy)
        | (go_at_call 10; refine Calls.mono (few_any a1 n1 c1 (by omega) w0 (t := true) H1.out) ?_; rintro e wx ⟨rfl, hwx⟩; have hwy := hwx.symm; clear hwx; subst hwy)
        | (go_at_call 12; refine Calls.mono (sort12 sokM oi ci l0 HL0.out.2.1 n0 HL0.out.2.2 (by omega) (by omega) w1 HOI.out) ?_; rintro e w2 ⟨v2, sx, rfl, ho2, h322, hu2, hm2, hl2, ha2⟩; obtain ⟨ox, cx, rfl, hox, _⟩ := ho2.at; obtain ⟨kx, hkx⟩ : ∃ kx, sx.length = kx := ⟨_, rfl⟩; have hrw := Rw.of ho2 h322 rfl; rw [hkx] at hrw; rw [hkx]; have HX := show Hid (HsAt w2 ox sx ∧ All32 sx ∧ Up sx ∧ (∀ h, h ∈ sx ↔ h ∈ l0) ∧ sx.length = kx) from ⟨hox, h322, hu2, hm2, hkx⟩; have HRW := show Hid (Rw ox kx w1.heap.size w2) from hrw; have hkx2 : kx ≤ n0 := (by rw [← hkx]; exact hl2); have HA12 := show Hid (After w1 w2) from ha2; clear ho2 h322 hu2 hm2 hl2 ha2 hox hkx hrw)
        | (at_builtin; refine wpList_append_hashes rfl _ _ rfl w0.heap.size (.slice (some ⟨w0.heap.size, 0, none⟩) 0 0) [] rfl (OwnH.fresh w0) a0 c0 l0 HL0.out.2.1 n0 HL0.out.2.2 rfl (HL0.out.1.after (after_alloc (After.refl w0) _)) (by have := HL0.out.2.2; simp only [List.length_nil]; omega) (by simp) ?_; intro v1 w1 ho1 hg1; rw [List.nil_append] at ho1; have hA1 : After w0 w1 := after_grown (after_alloc (After.refl w0) _) hg1 (Nat.le_refl _) (fun j hj => by cases hj; exact Nat.le_refl _); obtain ⟨oi, ci, rfl, hoi, _⟩ := ho1.at; rw [HL0.out.2.2]; have HA1 := show Hid (After w w1) from After.trans HA0.out hA1; have HOI := show Hid (HsAt w1 oi l0) from hoi; have HST1 := show Hid (LsAll w1 [(oi, n0, l0), (a0, n0, l0), (a1, n1, l1)]) from LsAll.cons ⟨hoi, HL0.out.2.1, HL0.out.2.2⟩ (HST0.out.after hA1); have HBX1 := show Hid (w1.rangeAt B 0 (c8 h)) from range_after HBX0.out hA1; clear ho1 hg1 hA1 hoi))
      have HST : Hid (LsAll w2 [(oi, n0, l0), (a0, n0, l0), (a1, n1, l1)]) := HST1.out.after HA12.out
      have HBX : Hid (w2.rangeAt B 0 (c8 h)) := range_after HBX1.out HA12.out
      refine wp_region_noPanic ?_
      refine wp_region_held_drew (S := After w2) (by kernel_rfl) (After.drew (After.refl w2)) ?_
      intro hS0
      refine tk 0 25 (.slice ox kx cx) (fuel := 34) rfl (by kernel_rfl) (by kernel_rfl) (by kernel_rfl) (by kernel_rfl) noPanic_false (by kernel_rfl) (fun _ _ => by kernel_rfl) hS0 ?_
      refine tk 1 26 (.slice a0 n0 c0) (fuel := 33) rfl (by kernel_rfl) (by kernel_rfl) (by kernel_rfl) (by kernel_rfl) noPanic_false (by kernel_rfl) (fun _ _ => by kernel_rfl) hS0 ?_
      refine tkCallS 2 27 14 #[.slice a0 n0 c0] (fun v w' => (∃ (o : Option Addr) (k c : Nat) (s : List Hs), v = .slice o k c ∧ HsAt w' o s ∧ All32 s ∧ s.length = k ∧ k ≤ n0 ∧ s = sx) ∧ After w2 w') (fuel := 32) rfl (by kernel_rfl) (by kernel_rfl) (by kernel_rfl) (fun _ => by kernel_rfl) ((rsort_at (HST.out.after hS0) (l := l0) c0 (by simp) (by omega)).mono (fun e w' ⟨o, k, c, s, he, hl, hr, ha⟩ => ⟨_, he, ⟨o, k, c, s, rfl, (hl (o, k, s) (by simp)).at_, (hl (o, k, s) (by simp)).a32, hr.len, hr.le, hr.up.unique HX.out.2.2.1 (fun y => (hr.mem y).trans (HX.out.2.2.2.1 y).symm)⟩, After.trans hS0 ha⟩)) ?_
      intro v3_ w3 ⟨⟨or, kr, cr, sr, hv3, har, ha32, hlr, hkr, hsr⟩, hA3⟩
      subst hv3
      subst hsr
      refine ⟨hA3, ?_⟩
      refine tkCallS 3 28 13 #[.slice ox kx cx, .slice or kr cr] (fun v w' => v = .bool true ∧ After w2 w') (fuel := 31) rfl (by kernel_rfl) (by kernel_rfl) (by kernel_rfl) (fun _ => by kernel_rfl) ((same13 ox or cx cr sr sr HX.out.2.1 ha32 kx kr HX.out.2.2.2.2 hlr (by omega) w3 (HX.out.1.after hA3) har).mono (fun e w' ⟨he, ha⟩ => ⟨_, he, by rw [decide_eq_true rfl], After.trans hA3 ha⟩)) ?_
      intro v4_ w4 ⟨hv4, hA4⟩
      subst hv4
      refine ⟨hA4, ?_⟩
      refine tk 4 29 (.bool true) (fuel := 30) rfl (by kernel_rfl) (by kernel_rfl) (by kernel_rfl) (by kernel_rfl) noPanic_false (by kernel_rfl) (fun _ _ => by kernel_rfl) hA4 ?_
      refine tk 5 30 (.slice oi n0 ci) (fuel := 29) rfl (by kernel_rfl) (by kernel_rfl) (by kernel_rfl) (by kernel_rfl) noPanic_false (by kernel_rfl) (fun _ _ => by kernel_rfl) hA4 ?_
      refine tk 7 32 (.slice a0 n0 c0) (fuel := 28) rfl (by kernel_rfl) (by kernel_rfl) (by kernel_rfl) (by kernel_rfl) noPanic_false (by kernel_rfl) (fun _ _ => by kernel_rfl) hA4 ?_
      refine tkCallS 6 31 15 #[.slice oi n0 ci] (fun v w' => v = .bool (upB l0) ∧ After w2 w') (fuel := 27) rfl (by kernel_rfl) (by kernel_rfl) (by kernel_rfl) (fun _ => by kernel_rfl) ((rising15 oi ci l0 ((HST.out.after hA4) (oi, n0, l0) (by simp)).a32 n0 ((HST.out.after hA4) (oi, n0, l0) (by simp)).len (by omega) w4 ((HST.out.after hA4) (oi, n0, l0) (by simp)).at_).mono (fun e w' ⟨he, ha⟩ => ⟨_, he, rfl, After.trans hA4 ha⟩)) ?_
      intro v5_ w5 ⟨hv5, hA5⟩
      subst hv5
      refine ⟨hA5, ?_⟩
      refine tkCallS 8 33 16 #[.slice a0 n0 c0] (fun v w' => v = .bool (upB l0) ∧ After w2 w') (fuel := 26) rfl (by kernel_rfl) (by kernel_rfl) (by kernel_rfl) (fun _ => by kernel_rfl) ((rising16 a0 c0 l0 ((HST.out.after hA5) (a0, n0, l0) (by simp)).a32 n0 ((HST.out.after hA5) (a0, n0, l0) (by simp)).len (by omega) w5 ((HST.out.after hA5) (a0, n0, l0) (by simp)).at_).mono (fun e w' ⟨he, ha⟩ => ⟨_, he, rfl, After.trans hA5 ha⟩)) ?_
      intro v6_ w6 ⟨hv6, hA6⟩
      subst hv6
      refine ⟨hA6, ?_⟩
      refine tk 9 34 (.bool true) (fuel := 25) rfl (by kernel_rfl) (by kernel_rfl) (by kernel_rfl) (by kernel_rfl) noPanic_false (by kernel_rfl) (fun _ _ => x_beq4 (t := upB l0) (x := .tmp 31) (y := .tmp 33) (by kernel_rfl) (by kernel_rfl) (by kernel_rfl)) hA6 ?_
      refine tk 10 35 (.bool true) (fuel := 24) rfl (by kernel_rfl) (by kernel_rfl) (by kernel_rfl) (by kernel_rfl) noPanic_false (by kernel_rfl) (fun _ _ => by kernel_rfl) hA6 ?_
      refine tk 11 36 (.bool true) (fuel := 23) rfl (by kernel_rfl) (by kernel_rfl) (by kernel_rfl) (by kernel_rfl) noPanic_false (by kernel_rfl) (fun _ _ => by kernel_rfl) hA6 ?_
      refine tk 12 37 (.slice oi n0 ci) (fuel := 22) rfl (by kernel_rfl) (by kernel_rfl) (by kernel_rfl) (by kernel_rfl) noPanic_false (by kernel_rfl) (fun _ _ => by kernel_rfl) hA6 ?_
      refine tk 13 38 (.slice a1 n1 c1) (fuel := 21) rfl (by kernel_rfl) (by kernel_rfl) (by kernel_rfl) (by kernel_rfl) noPanic_false (by kernel_rfl) (fun _ _ => by kernel_rfl) hA6 ?_
      refine tk 15 40 (.slice a0 n0 c0) (fuel := 20) rfl (by kernel_rfl) (by kernel_rfl) (by kernel_rfl) (by kernel_rfl) noPanic_false (by kernel_rfl) (fun _ _ => by kernel_rfl) hA6 ?_
      refine tk 16 41 (.slice a1 n1 c1) (fuel := 19) rfl (by kernel_rfl) (by kernel_rfl) (by kernel_rfl) (by kernel_rfl) noPanic_false (by kernel_rfl) (fun _ _ => by kernel_rfl) hA6 ?_
      refine tkCallS 14 39 17 #[.slice oi n0 ci, .slice a1 n1 c1] (fun v w' => v = .bool (decide (l0 = l1)) ∧ After w2 w') (fuel := 18) rfl (by kernel_rfl) (by kernel_rfl) (by kernel_rfl) (fun _ => by kernel_rfl) ((same17 oi a1 ci c1 l0 l1 ((HST.out.after hA6) (oi, n0, l0) (by simp)).a32 ((HST.out.after hA6) (a1, n1, l1) (by simp)).a32 n0 n1 ((HST.out.after hA6) (oi, n0, l0) (by simp)).len ((HST.out.after hA6) (a1, n1, l1) (by simp)).len (by omega) w6 ((HST.out.after hA6) (oi, n0, l0) (by simp)).at_ ((HST.out.after hA6) (a1, n1, l1) (by simp)).at_).mono (fun e w' ⟨he, ha⟩ => ⟨_, he, rfl, After.trans hA6 ha⟩)) ?_
      intro v7_ w7 ⟨hv7, hA7⟩
      subst hv7
      refine ⟨hA7, ?_⟩
      refine tkCallS 17 42 13 #[.slice a0 n0 c0, .slice a1 n1 c1] (fun v w' => v = .bool (decide (l0 = l1)) ∧ After w2 w') (fuel := 17) rfl (by kernel_rfl) (by kernel_rfl) (by kernel_rfl) (fun _ => by kernel_rfl) ((same13 a0 a1 c0 c1 l0 l1 ((HST.out.after hA7) (a0, n0, l0) (by simp)).a32 ((HST.out.after hA7) (a1, n1, l1) (by simp)).a32 n0 n1 ((HST.out.after hA7) (a0, n0, l0) (by simp)).len ((HST.out.after hA7) (a1, n1, l1) (by simp)).len (by omega) w7 ((HST.out.after hA7) (a0, n0, l0) (by simp)).at_ ((HST.out.after hA7) (a1, n1, l1) (by simp)).at_).mono (fun e w' ⟨he, ha⟩ => ⟨_, he, rfl, After.trans hA7 ha⟩)) ?_
      intro v8_ w8 ⟨hv8, hA8⟩
      subst hv8
      refine ⟨hA8, ?_⟩
      refine tk 18 43 (.bool true) (fuel := 16) rfl (by kernel_rfl) (by kernel_rfl) (by kernel_rfl) (by kernel_rfl) noPanic_false (by kernel_rfl) (fun _ _ => x_beq4 (t := decide (l0 = l1)) (x := .tmp 39) (y := .tmp 42) (by kernel_rfl) (by kernel_rfl) (by kernel_rfl)) hA8 ?_
      refine tk 19 44 (.bool true) (fuel := 15) rfl (by kernel_rfl) (by kernel_rfl) (by kernel_rfl) (by kernel_rfl) noPanic_false (by kernel_rfl) (fun _ _ => by kernel_rfl) hA8 ?_
      refine tk 20 45 (.bool true) (fuel := 14) rfl (by kernel_rfl) (by kernel_rfl) (by kernel_rfl) (by kernel_rfl) noPanic_false (by kernel_rfl) (fun _ _ => by kernel_rfl) hA8 ?_
      refine tk 21 46 (.slice oi n0 ci) (fuel := 13) rfl (by kernel_rfl) (by kernel_rfl) (by kernel_rfl) (by kernel_rfl) noPanic_false (by kernel_rfl) (fun _ _ => by kernel_rfl) hA8 ?_
      refine tk 24 49 (.slice a0 n0 c0) (fuel := 12) rfl (by kernel_rfl) (by kernel_rfl) (by kernel_rfl) (by kernel_rfl) noPanic_false (by kernel_rfl) (fun _ _ => by kernel_rfl) hA8 ?_
      refine tk 22 47 (hv h) (fuel := 11) rfl (by kernel_rfl) (by kernel_rfl) (by kernel_rfl) (by kernel_rfl) noPanic_false (by kernel_rfl) (fun W hW => x_ld24 HH.out (x := .tmp 5) (g := B) (p := 0) (by kernel_rfl) (by kernel_rfl) (range_after HBX.out hW)) hA8 ?_
      refine tk 25 50 (hv h) (fuel := 10) rfl (by kernel_rfl) (by kernel_rfl) (by kernel_rfl) (by kernel_rfl) noPanic_false (by kernel_rfl) (fun W hW => x_ld24 HH.out (x := .tmp 5) (g := B) (p := 0) (by kernel_rfl) (by kernel_rfl) (range_after HBX.out hW)) hA8 ?_
      refine tkCallS 23 48 18 #[.slice oi n0 ci, hv h] (fun v w' => v = .bool (decide (h ∈ l0)) ∧ After w2 w') (fuel := 9) rfl (by kernel_rfl) (by kernel_rfl) (by kernel_rfl) (fun _ => by kernel_rfl) ((has18 oi ci l0 h HH.out ((HST.out.after hA8) (oi, n0, l0) (by simp)).a32 n0 ((HST.out.after hA8) (oi, n0, l0) (by simp)).len (by omega) w8 ((HST.out.after hA8) (oi, n0, l0) (by simp)).at_).mono (fun e w' ⟨he, ha⟩ => ⟨_, he, rfl, After.trans hA8 ha⟩)) ?_
      intro v9_ w9 ⟨hv9, hA9⟩
      subst hv9
      refine ⟨hA9, ?_⟩
      refine tkCallS 26 51 19 #[.slice a0 n0 c0, hv h] (fun v w' => v = .bool (decide (h ∈ l0)) ∧ After w2 w') (fuel := 8) rfl (by kernel_rfl) (by kernel_rfl) (by kernel_rfl) (fun _ => by kernel_rfl) ((rhas19 a0 c0 l0 h HH.out ((HST.out.after hA9) (a0, n0, l0) (by simp)).a32 n0 ((HST.out.after hA9) (a0, n0, l0) (by simp)).len (by omega) w9 ((HST.out.after hA9) (a0, n0, l0) (by simp)).at_).mono (fun e w' ⟨he, ha⟩ => ⟨_, he, rfl, After.trans hA9 ha⟩)) ?_
      intro v10_ w10 ⟨hv10, hA10⟩
      subst hv10
      refine ⟨hA10, ?_⟩
      refine tk 27 52 (.bool true) (fuel := 7) rfl (by kernel_rfl) (by kernel_rfl) (by kernel_rfl) (by kernel_rfl) noPanic_false (by kernel_rfl) (fun _ _ => x_beq4 (t := decide (h ∈ l0)) (x := .tmp 48) (y := .tmp 51) (by kernel_rfl) (by kernel_rfl) (by kernel_rfl)) hA10 ?_
      refine tk 28 53 (.bool true) (fuel := 6) rfl (by kernel_rfl) (by kernel_rfl) (by kernel_rfl) (by kernel_rfl) noPanic_false (by kernel_rfl) (fun _ _ => by kernel_rfl) hA10 ?_
      refine tk 29 54 (.bool true) (fuel := 5) rfl (by kernel_rfl) (by kernel_rfl) (by kernel_rfl) (by kernel_rfl) noPanic_false (by kernel_rfl) (fun _ _ => by kernel_rfl) hA10 ?_
      refine tk 30 55 (.slice oi n0 ci) (fuel := 4) rfl (by kernel_rfl) (by kernel_rfl) (by kernel_rfl) (by kernel_rfl) noPanic_false (by kernel_rfl) (fun _ _ => by kernel_rfl) hA10 ?_
      refine tk 31 56 (.slice a0 n0 c0) (fuel := 3) rfl (by kernel_rfl) (by kernel_rfl) (by kernel_rfl) (by kernel_rfl) noPanic_false (by kernel_rfl) (fun _ _ => by kernel_rfl) hA10 ?_
      refine tkCallS 32 57 17 #[.slice oi n0 ci, .slice a0 n0 c0] (fun v w' => v = .bool true ∧ After w2 w') (fuel := 2) rfl (by kernel_rfl) (by kernel_rfl) (by kernel_rfl) (fun _ => by kernel_rfl) ((same17 oi a0 ci c0 l0 l0 ((HST.out.after hA10) (oi, n0, l0) (by simp)).a32 ((HST.out.after hA10) (a0, n0, l0) (by simp)).a32 n0 n0 ((HST.out.after hA10) (oi, n0, l0) (by simp)).len ((HST.out.after hA10) (a0, n0, l0) (by simp)).len (by omega) w10 ((HST.out.after hA10) (oi, n0, l0) (by simp)).at_ ((HST.out.after hA10) (a0, n0, l0) (by simp)).at_).mono (fun e w' ⟨he, ha⟩ => ⟨_, he, by rw [decide_eq_true rfl], After.trans hA10 ha⟩)) ?_
      intro v11_ w11 ⟨hv11, hA11⟩
      subst hv11
      refine ⟨hA11, ?_⟩
      refine tk 33 58 (.bool true) (fuel := 1) rfl (by kernel_rfl) (by kernel_rfl) (by kernel_rfl) (by kernel_rfl) noPanic_false (by kernel_rfl) (fun _ _ => by kernel_rfl) hA11 ?_
      refine tk 34 9 (.bool true) (fuel := 0) rfl (by kernel_rfl) (by kernel_rfl) (by kernel_rfl) (by kernel_rfl) noPanic_false (by kernel_rfl) (fun _ _ => by kernel_rfl) hA11 ?_
      refine wpAnyH_done (by kernel_rfl) (NoPanic.normal ?_) _
      have HA2L := show Hid (After w2 w11) from hA11
      clear hA3 hA4 hA5 hA6 hA7 hA8 hA9 hA10 hA11 hS0 har ha32 hlr hkr
      have HRW3 : Hid (Rw ox kx w1.heap.size w11) := HRW.out.after HA2L.out
      have HA1L : Hid (After w1 w11) := After.trans HA12.out HA2L.out
      clear HRW HX HST HBX
      go_simp
      go_wp2_with fail
      go_loopw [10] (fun vi wr => ∃ i : Nat, vi = .int .i64 (i : Int) ∧ i ≤ kx ∧ Hid (After w1 wr ∧ Rw ox kx w1.heap.size wr)) (fun vi _ => kx - (intOf vi).toNat)
      case atStart => exact ⟨0, rfl, Nat.zero_le _, HA1L.out, HRW3.out⟩
      case round =>
        obtain ⟨i, rfl, hile, HI⟩ := hrel
        by_cases hik : i < kx
        · have hikz : (i : Int) < (kx : Int) := by omega
          obtain ⟨g, cur, hog, hgb, hgr, hcb⟩ := HI.out.2 (by omega)
          obtain ⟨b, hb⟩ := hcb (0 + i * 32) (by omega)
          have HCB : Hid (wr.cell? ⟨g, 0 + i * 32, none⟩ = some (.int .u8 (b.toNat : Int))) := hb
          have HFZ : Hid (wr.frozen? ⟨g, 0 + i * 32, none⟩ = false) := frozen_of_row wr g _ cur 24 hgr
          subst hog
          have HNX : Hid (After w1 (wr.drew.setCell ⟨g, 0 + i * 32, none⟩ (.int .u8 ((b + 1).toNat : Int))) ∧ Rw (some ⟨g, 0, none⟩) kx w1.heap.size (wr.drew.setCell ⟨g, 0 + i * 32, none⟩ (.int .u8 ((b + 1).toNat : Int)))) := ⟨Below.setCell (After.drew HI.out.1) (p := ⟨g, 0 + i * 32, none⟩) hgb _, Rw.set (HI.out.2.after (After.drew (After.refl wr))) _ _⟩
          clear hb hcb hgr hgb
          go_wp2_with fail
          refine wp_region_noPanic ?_
          refine wp_region_held_drew (S := fun _ => True) (by kernel_rfl) trivial ?_
          intro hS0
          refine tk 0 65 (.slice (some ⟨g, 0, none⟩) kx cx) (fuel := 8) rfl (by kernel_rfl) (by kernel_rfl) (by kernel_rfl) (by kernel_rfl) noPanic_false (by kernel_rfl) (fun _ _ => by kernel_rfl) hS0 ?_
          refine tk 1 66 (.int .i64 (i : Int)) (fuel := 7) rfl (by kernel_rfl) (by kernel_rfl) (by kernel_rfl) (by kernel_rfl) noPanic_false (by kernel_rfl) (fun _ _ => by kernel_rfl) hS0 ?_
          refine tk 2 67 (.pointer (some ⟨g, 0 + i * 32, none⟩)) (fuel := 6) rfl (by kernel_rfl) (by kernel_rfl) (by kernel_rfl) (by kernel_rfl) noPanic_false (by kernel_rfl) (fun W _ => x_idx22 (n := kx) (c := cx) (x := .tmp 65) (y := .tmp 66) (by kernel_rfl) (by kernel_rfl) (by kernel_rfl) hik) hS0 ?_
          refine tk 3 68 (.pointer (some ⟨g, 0 + i * 32, none⟩)) (fuel := 5) rfl (by kernel_rfl) (by kernel_rfl) (by kernel_rfl) (by kernel_rfl) noPanic_false (by kernel_rfl) (fun W _ => x_idx24 (x := .tmp 67) (by kernel_rfl) (by kernel_rfl)) hS0 ?_
          refine tk 6 71 (.pointer (some ⟨g, 0 + i * 32, none⟩)) (fuel := 4) rfl (by kernel_rfl) (by kernel_rfl) (by kernel_rfl) (by kernel_rfl) noPanic_false (by kernel_rfl) (fun W _ => x_idx22 (n := kx) (c := cx) (x := .tmp 65) (y := .tmp 66) (by kernel_rfl) (by kernel_rfl) (by kernel_rfl) hik) hS0 ?_
          refine tkRun 4 (.int .u8 (b.toNat : Int)) wr.drew (fuel := 3) rfl (by kernel_rfl) (by kernel_rfl) (x_ld5 (w := wr.drew) (x := .tmp 68) (by kernel_rfl) (by kernel_rfl) HCB.out) trivial ?_
          refine tk 5 70 (.int .u8 ((b + 1).toNat : Int)) (fuel := 2) rfl (by kernel_rfl) (by kernel_rfl) (by kernel_rfl) (by kernel_rfl) noPanic_false (by kernel_rfl) (fun _ _ => x_add5 (x := .tmp 69) (by kernel_rfl) (by kernel_rfl)) hS0 ?_
          refine tk 7 72 (.pointer (some ⟨g, 0 + i * 32, none⟩)) (fuel := 1) rfl (by kernel_rfl) (by kernel_rfl) (by kernel_rfl) (by kernel_rfl) noPanic_false (by kernel_rfl) (fun W _ => x_idx24 (x := .tmp 71) (by kernel_rfl) (by kernel_rfl)) hS0 ?_
          refine tkSt 8 (wr.drew.setCell ⟨g, 0 + i * 32, none⟩ (.int .u8 ((b + 1).toNat : Int))) (fuel := 0) rfl (by kernel_rfl) (by kernel_rfl) (x_st5 (w := wr.drew) (x := .tmp 72) (y := .tmp 70) (by kernel_rfl) (by kernel_rfl) (by kernel_rfl) HCB.out HFZ.out) trivial ?_
          refine wpAnyH_done (by kernel_rfl) (NoPanic.normal ?_) _
          obtain ⟨w9, hw9⟩ : ∃ w9, wr.drew.setCell ⟨g, 0 + i * 32, none⟩ (.int .u8 ((b + 1).toNat : Int)) = w9 := ⟨_, rfl⟩
          rw [hw9] at HNX
          rw [hw9]
          clear hw9 hS0
          go_simp
          go_wp2_with fail
          go_roundw
          case rel => exact ⟨i + 1, by go_num, by omega, HNX.out⟩
          case measure => simp [intOf]; omega
        · have hikz : ¬ (i : Int) < (kx : Int) := by omega
          go_wp2_with (first
            | (go_at_call 13; refine Calls.mono (rsame_at (HST1.out.after HI.out.1) (la := l0) (lb := l0) ci c0 (by simp) (by simp) (by omega) (decide_eq_true rfl)) ?_; rintro e wy ⟨rfl, _, ha⟩; have HAY := show Hid (After w wy) from After.trans HA1.out (After.trans HI.out.1 ha); clear ha)
            | (go_at_call 11; refine Calls.mono (awake_any _) ?_; rintro e wz ⟨rfl, ha⟩; have HAZ := show Hid (After w wz) from After.trans HAY.out ha; clear ha))
          go_ret
          exact ⟨rfl, HAZ.out⟩
    · have H1 : Hid (decide (n1 ≤ 2000) = false) := decide_eq_false f1
      go_wp2_with (first | (go_at_call 10; refine Calls.mono (few_any a0 n0 c0 (by omega) w0 (t := true) H0.out) ?_; rintro e wx ⟨rfl, hwx⟩; have hwy := hwx.symm; clear hwx; subst hwy) | (go_at_call 10; refine Calls.mono (few_any a1 n1 c1 (by omega) w0 (t := false) H1.out) ?_; rintro e wx ⟨rfl, hwx⟩; have hwy := hwx.symm; clear hwx; subst hwy) | (go_at_call 11; refine Calls.mono (awake_any _) ?_; rintro e wz ⟨rfl, ha⟩; have HAZ := show Hid (After w wz) from After.trans HA0.out ha; clear ha))
      go_ret
      exact ⟨rfl, HAZ.out⟩
  · have H0 : Hid (decide (n0 ≤ 2000) = false) := decide_eq_false f0
    go_wp2_with (first | (go_at_call 10; refine Calls.mono (few_any a0 n0 c0 (by omega) w0 (t := false) H0.out) ?_; rintro e wx ⟨rfl, hwx⟩; have hwy := hwx.symm; clear hwx; subst hwy) | (go_at_call 11; refine Calls.mono (awake_any _) ?_; rintro e wz ⟨rfl, ha⟩; have HAZ := show Hid (After w wz) from After.trans HA0.out ha; clear ha))
    go_ret
    exact ⟨rfl, HAZ.out⟩
end Go.Proofs.Ytedghldjpkabmaa
