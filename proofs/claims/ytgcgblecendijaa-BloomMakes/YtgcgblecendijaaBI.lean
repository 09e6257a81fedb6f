/-
  THE PLACES OF A HASH, ONE BY ONE: the walk of the function that yields them.
-/
import Derived.Test.YtgcgblecendijaaBK
import Derived.Deep.RegionHeld3
import Derived.RangeFuncNested
import Derived.RangeFuncBox
import Derived.RangeFuncBound
import Derived.RangeFuncCalls
import Derived.RangeFuncLeaves
import Derived.Shelf.Abstract
import Derived.Shelf.RegionOpen
import Derived.OwnWalkIn
import Derived.TacticsInMore
import Derived.LoopNIn
import Derived.LoopIn
import Derived.Maps.AppendAt
namespace Go.Proofs.Ytgcgblecendijaa
open Go.RowKit Go.Shelf
attribute [local go_sem] Oper.semAt_some
abbrev Pl (M : Nat) := { q : Nat // q < M }
theorem cut_at {W : World} {B : Nat} {h : Hs} (h32 : h.length = 32) (hr : RowIs W B 29 (c8 h)) (i : Nat) (hi : i + 4 ≤ 32) : BytesAt W (some ⟨B, i, none⟩) ((h.drop i).take 4) := fun _ => ⟨B, i, rfl, fun j hj => by
  rw [List.length_take, List.length_drop] at hj
  rw [hr.cell (c8_get h (i + j) (by omega))]
  congr 3
  rw [List.getD_eq_getElem?_getD, List.getD_eq_getElem?_getD, List.getElem?_take, if_pos (by omega), List.getElem?_drop]⟩
theorem cut_num {h : Hs} (i : Nat) : num4 ((h.drop i).take 4) 0 = num4 h i := by
  unfold num4
  have e : ∀ j, j < 4 → ((h.drop i).take 4).getD j 0 = h.getD (i + j) 0 := fun j hj => by
    rw [List.getD_eq_getElem?_getD, List.getD_eq_getElem?_getD, List.getElem?_take, if_pos hj, List.getElem?_drop]
  rw [show 0 + 1 = 1 from rfl, show 0 + 2 = 2 from rfl, show 0 + 3 = 3 from rfl, e 0 (by omega), e 1 (by omega), e 2 (by omega), e 3 (by omega)]
  rfl
theorem number_k (p : Prt) (hp : p.seed < 4294967296) (h : Hs) (h32 : h.length = 32) (B i c : Nat) (hi : i + 4 ≤ 32) (w : World) (hr : RowIs w B 29 (c8 h)) {r : Nat} (hr' : p.num h i = r) :
    Calls Try.prog 31 #[pV p, .slice (some ⟨B, i, none⟩) 4 c] w fun e w' => ∃ v, e = .returned v ∧ v = .int .u64 (r : Int) ∧ Below w.heap.size w w' :=
  (number_any p hp (some ⟨B, i, none⟩) c ((h.drop i).take 4) (by rw [List.length_take, List.length_drop]; omega) w (cut_at h32 hr i hi)).mono (fun e w' ⟨he, ha⟩ => ⟨_, he, by rw [cut_num, ← hr']; rfl, ha⟩)
theorem size_pc (p : Prt) : (Try.prog.info? 41).map (·.size) = some (pc p).toArray.size := by kernel_rfl
theorem x_ld41 {o : Oper} {a : Act} {x : Operand} {w : World} {g : Nat} {p : Prt} (hop : o.op = .load 41 x) (hx : a.eval x = .pointer (some ⟨g, 0, none⟩)) (hr : RowIs w g 41 (pc p)) : (execOp a.eval o).run Try.prog w = .ok (.value (pV p)) w := by
  unfold execOp
  simp only [hop, hx, Instr.loadAt, Instr.sureAddr, Sem.run_bind, Sem.run_pure, Result.andThen_ok, run_loadVar_row w g 41 41 (pc p).toArray (0, 0) _ hr Try.underlying41 rfl (size_pc p)]

set_option maxRecDepth 100000 in
set_option maxHeartbeats 4000000 in
theorem plc_in (lp n₀ Bp Bh : Nat) (p : Prt) (hs : p.seed < 4294967296) (hmb : p.many * p.bits < 1000000000) (hM : 0 < p.all) (h : Hs) (h32 : h.length = 32) (J Jx : List (Pl p.all) → World → Prop)
    (hY : ∀ pre x W, J pre W → pre.length < 7 → YieldAt Fence.wide (3 - 1) Try.prog lp #[.int .u64 (x.1 : Int)] W fun e W' =>
      (e = .returned (.bool true) ∧ J (pre ++ [x]) W' ∧ Below n₀ W W') ∨ (e = .returned (.bool false) ∧ Jx (pre ++ [x]) W'))
    (hA : ∀ pre A B, J pre A → After A B → J pre B)
    (W : World) (hBp : RowIs W Bp 41 (pc p)) (hBh : RowIs W Bh 29 (c8 h)) (h0 : J [] W) :
    CallsIn Fence.wide 3 Try.prog 30 #[.func (.yield lp) #[] #[], .pointer (some ⟨Bp, 0, none⟩), .pointer (some ⟨Bh, 0, none⟩)] W fun e W' => (∃ v, e = .returned v) ∧
      ((∃ ys : List (Pl p.all), ys.map (·.1) = p.plc h 7 ∧ J ys W') ∨ (∃ pre : List (Pl p.all), (∀ x ∈ pre, x.1 ∈ p.plc h 7) ∧ Jx pre W')) := by
  obtain ⟨M, hMM⟩ : ∃ M, p.all = M := ⟨_, rfl⟩
  obtain ⟨z0, hz0⟩ : ∃ z, p.size = z := ⟨_, rfl⟩
  have hzM : z0 * 8 = M := by rw [← hz0, ← hMM]; rfl
  have hz1 : z0 < 200000000 := by rw [← hz0]; unfold Prt.size; omega
  obtain ⟨x0, hx0⟩ : ∃ x, p.num h 0 = x := ⟨_, rfl⟩
  obtain ⟨y0, hy0⟩ : ∃ x, p.num h 4 = x := ⟨_, rfl⟩
  obtain ⟨w0, hw0⟩ : ∃ x, p.num h 8 = x := ⟨_, rfl⟩
  obtain ⟨z, hz⟩ : ∃ z, w0 % M = z := ⟨_, rfl⟩
  obtain ⟨x1, hx1⟩ : ∃ z, x0 % M = z := ⟨_, rfl⟩
  obtain ⟨y1, hy1⟩ : ∃ z, y0 % M = z := ⟨_, rfl⟩
  have HN : Hid (p.num h 0 = x0 ∧ p.num h 4 = y0 ∧ p.num h 8 = w0 ∧ w0 % M = z ∧ x0 % M = x1 ∧ y0 % M = y1 ∧ p.all = M ∧ 0 < M ∧ z0 * 8 = M ∧ M < 2000000000) := ⟨hx0, hy0, hw0, hz, hx1, hy1, hMM, by rw [← hMM]; exact hM, hzM, by omega⟩
  have HB : Hid (RowIs W Bp 41 (pc p) ∧ RowIs W Bh 29 (c8 h)) := ⟨hBp, hBh⟩
  have HS : Hid (p.seed < 4294967296 ∧ p.many * p.bits < 1000000000 ∧ p.size = z0 ∧ h.length = 32) := ⟨hs, hmb, hz0, h32⟩
  have HA : Hid (∀ pre A B, J pre A → After A B → J pre B) := hA
  clear hx0 hy0 hw0 hz hx1 hy1 hMM hzM hz1 hz0 hBp hBh hs hmb h32 hA
  refine callsIn_of_wp Try.func30 rfl trivial ?_ rfl
  simp only [Try.ntmps30, List.size_toArray, List.length_cons, List.length_nil, Nat.reduceAdd, Nat.reduceSub, Array.replicate_succ, Array.replicate_zero, List.push_toArray, List.append_toArray, List.nil_append, List.cons_append]
  refine wpIn_seq ?_
  refine wpIn_wide.2 ?_
  go_wp2_with (first
    | (go_at_call 20; refine Calls.mono (size_any p HS.out.2.1 W) ?_; rintro e W1 ⟨rfl, ha⟩; rw [HS.out.2.2.1]; have H1 := show Hid (After W W1) from ha; clear ha)
    | (refine wpList_of_run rfl (x_ld41 (x := .tmp 1) (g := Bp) (p := p) rfl rfl HB.out.1) ?_)
    | (refine wpList_of_run rfl (x_mul64 (x := .tmp 9) (y := .const (.int .u64 8)) (p := z0) (q := 8) (r := M) rfl rfl rfl HN.out.2.2.2.2.2.2.2.2.1 (by have := HN.out.2.2.2.2.2.2.2.2.2; omega)) ?_))
  refine wpIn_seq ?_
  refine wpIn_wide.2 ?_
  have R1 : Hid (∀ W', After W1 W' → RowIs W' Bp 41 (pc p) ∧ RowIs W' Bh 29 (c8 h)) := fun W' hW => ⟨HB.out.1.below (H1.out.trans hW) HB.out.1.lt, HB.out.2.below (H1.out.trans hW) HB.out.2.lt⟩
  clear HB
  refine wp_region_noPanic ?_
  refine wp_region_held_drew (S := After W1) (by kernel_rfl) (After.drew (After.refl W1)) ?_
  intro hS0
  refine tk 0 11 (pV p) (fuel := 17) rfl (by kernel_rfl) (by kernel_rfl) (by kernel_rfl) (by kernel_rfl) noPanic_false (by kernel_rfl) (fun W hW => x_ld41 (x := .tmp 1) (g := Bp) (p := p) (by kernel_rfl) (by kernel_rfl) (R1.out W hW).1) hS0 ?_
  refine tk 1 12 (.slice (some ⟨Bh, 0, none⟩) 4 32) (fuel := 16) rfl (by kernel_rfl) (by kernel_rfl) (by kernel_rfl) (by kernel_rfl) noPanic_false (by kernel_rfl) (fun _ _ => by kernel_rfl) hS0 ?_
  refine tk 3 14 (.int .u64 (M : Int)) (fuel := 15) rfl (by kernel_rfl) (by kernel_rfl) (by kernel_rfl) (by kernel_rfl) noPanic_false (by kernel_rfl) (fun _ _ => by kernel_rfl) hS0 ?_
  refine tk 5 16 (pV p) (fuel := 14) rfl (by kernel_rfl) (by kernel_rfl) (by kernel_rfl) (by kernel_rfl) noPanic_false (by kernel_rfl) (fun W hW => x_ld41 (x := .tmp 1) (g := Bp) (p := p) (by kernel_rfl) (by kernel_rfl) (R1.out W hW).1) hS0 ?_
  refine tk 6 17 (.slice (some ⟨Bh, 4, none⟩) 4 28) (fuel := 13) rfl (by kernel_rfl) (by kernel_rfl) (by kernel_rfl) (by kernel_rfl) noPanic_false (by kernel_rfl) (fun _ _ => by kernel_rfl) hS0 ?_
  refine tk 8 19 (.int .u64 (M : Int)) (fuel := 12) rfl (by kernel_rfl) (by kernel_rfl) (by kernel_rfl) (by kernel_rfl) noPanic_false (by kernel_rfl) (fun _ _ => by kernel_rfl) hS0 ?_
  refine tk 10 21 (pV p) (fuel := 11) rfl (by kernel_rfl) (by kernel_rfl) (by kernel_rfl) (by kernel_rfl) noPanic_false (by kernel_rfl) (fun W hW => x_ld41 (x := .tmp 1) (g := Bp) (p := p) (by kernel_rfl) (by kernel_rfl) (R1.out W hW).1) hS0 ?_
  refine tk 11 22 (.slice (some ⟨Bh, 8, none⟩) 4 24) (fuel := 10) rfl (by kernel_rfl) (by kernel_rfl) (by kernel_rfl) (by kernel_rfl) noPanic_false (by kernel_rfl) (fun _ _ => by kernel_rfl) hS0 ?_
  refine tk 13 24 (.int .u64 (M : Int)) (fuel := 9) rfl (by kernel_rfl) (by kernel_rfl) (by kernel_rfl) (by kernel_rfl) noPanic_false (by kernel_rfl) (fun _ _ => by kernel_rfl) hS0 ?_
  refine tkCall 2 13 31 #[pV p, .slice (some ⟨Bh, 0, none⟩) 4 32] (fun v _ => v = .int .u64 (x0 : Int)) (fuel := 8) rfl (by kernel_rfl) (by kernel_rfl) (by kernel_rfl) (fun _ => by kernel_rfl) hS0 (number_k p HS.out.1 h HS.out.2.2.2 Bh 0 32 (by omega) _ (R1.out _ (hS0)).2 HN.out.1) ?_
  rintro v W2 rfl ha2
  have hS1 : After W2 W2 := After.refl _
  have A2 : After W1 W2 := (hS0).trans ha2
  refine tk 4 15 (.int .u64 (x1 : Int)) (fuel := 7) rfl (by kernel_rfl) (by kernel_rfl) (by kernel_rfl) (by kernel_rfl) noPanic_false (by kernel_rfl) (fun W _ => x_rem64 (x := .tmp 13) (y := .tmp 14) (p := x0) (q := M) (r := x1) (by kernel_rfl) (by kernel_rfl) (by kernel_rfl) HN.out.2.2.2.2.1 HN.out.2.2.2.2.2.2.2.1) hS1 ?_
  refine tkCall 7 18 31 #[pV p, .slice (some ⟨Bh, 4, none⟩) 4 28] (fun v _ => v = .int .u64 (y0 : Int)) (fuel := 6) rfl (by kernel_rfl) (by kernel_rfl) (by kernel_rfl) (fun _ => by kernel_rfl) hS1 (number_k p HS.out.1 h HS.out.2.2.2 Bh 4 28 (by omega) _ (R1.out _ (A2)).2 HN.out.2.1) ?_
  rintro v W3 rfl ha3
  have hS2 : After W3 W3 := After.refl _
  have A3 : After W1 W3 := (A2).trans ha3
  refine tk 9 20 (.int .u64 (y1 : Int)) (fuel := 5) rfl (by kernel_rfl) (by kernel_rfl) (by kernel_rfl) (by kernel_rfl) noPanic_false (by kernel_rfl) (fun W _ => x_rem64 (x := .tmp 18) (y := .tmp 19) (p := y0) (q := M) (r := y1) (by kernel_rfl) (by kernel_rfl) (by kernel_rfl) HN.out.2.2.2.2.2.1 HN.out.2.2.2.2.2.2.2.1) hS2 ?_
  refine tkCall 12 23 31 #[pV p, .slice (some ⟨Bh, 8, none⟩) 4 24] (fun v _ => v = .int .u64 (w0 : Int)) (fuel := 4) rfl (by kernel_rfl) (by kernel_rfl) (by kernel_rfl) (fun _ => by kernel_rfl) hS2 (number_k p HS.out.1 h HS.out.2.2.2 Bh 8 24 (by omega) _ (R1.out _ (A3)).2 HN.out.2.2.1) ?_
  rintro v W4 rfl ha4
  have hS3 : After W4 W4 := After.refl _
  have A4 : After W1 W4 := (A3).trans ha4
  refine tk 14 25 (.int .u64 (z : Int)) (fuel := 3) rfl (by kernel_rfl) (by kernel_rfl) (by kernel_rfl) (by kernel_rfl) noPanic_false (by kernel_rfl) (fun W _ => x_rem64 (x := .tmp 23) (y := .tmp 24) (p := w0) (q := M) (r := z) (by kernel_rfl) (by kernel_rfl) (by kernel_rfl) HN.out.2.2.2.1 HN.out.2.2.2.2.2.2.2.1) hS3 ?_
  refine tk 15 5 (.int .u64 (x1 : Int)) (fuel := 2) rfl (by kernel_rfl) (by kernel_rfl) (by kernel_rfl) (by kernel_rfl) noPanic_false (by kernel_rfl) (fun _ _ => by kernel_rfl) hS3 ?_
  refine tk 16 6 (.int .u64 (y1 : Int)) (fuel := 1) rfl (by kernel_rfl) (by kernel_rfl) (by kernel_rfl) (by kernel_rfl) noPanic_false (by kernel_rfl) (fun _ _ => by kernel_rfl) hS3 ?_
  refine tk 17 7 (.int .u64 (z : Int)) (fuel := 0) rfl (by kernel_rfl) (by kernel_rfl) (by kernel_rfl) (by kernel_rfl) noPanic_false (by kernel_rfl) (fun _ _ => by kernel_rfl) hS3 ?_
  refine wpAnyH_done (by kernel_rfl) (NoPanic.normal ?_) _
  have HJ0 : Hid (J [] W4) := HA.out _ _ _ h0 (H1.out.trans A4)
  have HI0 : Hid (p.it h 0 = (x1, y1)) := by show (p.num h 0 % p.all, p.num h 4 % p.all) = _; rw [HN.out.1, HN.out.2.1, HN.out.2.2.2.2.2.2.1, HN.out.2.2.2.2.1, HN.out.2.2.2.2.2.1]
  have HIS : Hid (∀ k x y, p.it h k = (x, y) → p.it h (k + 1) = ((x + y) % M, (y + z) % M)) := fun k x y hk => by
    show (((p.it h k).1 + (p.it h k).2) % p.all, ((p.it h k).2 + p.num h 8 % p.all) % p.all) = _
    rw [hk, HN.out.2.2.1, HN.out.2.2.2.2.2.2.1, HN.out.2.2.2.1]
  have HIL : Hid (∀ k x y, p.it h k = (x, y) → x < M ∧ y < M) := fun k x y hk => by
    have := Prt.it_lt hM h k
    rw [hk, HN.out.2.2.2.2.2.2.1] at this; exact this
  have HML : Hid (0 < M ∧ M < 2000000000 ∧ z < M ∧ p.all = M) := ⟨HN.out.2.2.2.2.2.2.2.1, HN.out.2.2.2.2.2.2.2.2.2, by rw [← HN.out.2.2.2.1]; exact Nat.mod_lt _ HN.out.2.2.2.2.2.2.2.1, HN.out.2.2.2.2.2.2.1⟩
  clear hS0 hS1 hS2 hS3 A2 A3 A4 ha2 ha3 ha4 h0 R1 H1 HN HS hM
  go_simp
  gi_wp2
  gi_loopw [5, 6, 26] (fun sx sy i wr => ∃ (k x y : Nat) (pre : List (Pl p.all)), k ≤ 7 ∧ i = .int .i64 k ∧ sx = .int .u64 x ∧ sy = .int .u64 y ∧ Hid (p.it h k = (x, y)) ∧ Hid (pre.map (·.1) = p.plc h k) ∧ Hid (J pre wr)) (fun _ _ i _ => 7 - (intOf i).toNat)
  case atStart => exact ⟨0, x1, y1, [], by omega, rfl, rfl, rfl, HI0.out, rfl, HJ0.out⟩
  case round =>
    obtain ⟨k, x, y, pre, hk, rfl, rfl, rfl, HIT, HPRE, HJ⟩ := hrel
    by_cases hlt : k < 7
    · have hki : (k : Int) < 7 := by omega
      have hxl := HIL.out k x y HIT.out
      have hlen : pre.length < 7 := by
        have := congrArg List.length HPRE.out
        rw [List.length_map, Prt.plc_len] at this; omega
      obtain ⟨fn, tmps, assign, body, hy, hR⟩ := hY pre ⟨x, by rw [HML.out.2.2.2]; exact hxl.1⟩ wr HJ.out hlen
      have HX : Hid (x < M ∧ y < M) := hxl
      have HP1 : Hid ((pre ++ [(⟨x, by rw [HML.out.2.2.2]; exact hxl.1⟩ : Pl p.all)]).map (·.1) = p.plc h (k + 1)) := by
        unfold Hid
        rw [List.map_append, HPRE.out, Prt.plc_succ, HIT.out]; rfl
      have HMEM : Hid (∀ u ∈ pre ++ [(⟨x, by rw [HML.out.2.2.2]; exact hxl.1⟩ : Pl p.all)], u.1 ∈ p.plc h 7) := fun u hu => by
        have h1 : u.1 ∈ p.plc h (k + 1) := by rw [← HP1.out]; exact List.mem_map_of_mem hu
        unfold Prt.plc at h1 ⊢
        obtain ⟨i, hi, he⟩ := List.mem_map.1 h1
        exact List.mem_map.2 ⟨i, by rw [List.mem_range] at hi ⊢; omega, he⟩
      dsimp only at hy
      clear hlen
      gi_wp2
      refine hR.mono ?_
      rintro e W3 (⟨rfl, hJ3, hk3⟩ | ⟨rfl, hJx3⟩)
      · have HJ3 := show Hid (J _ W3) from hJ3
        clear hJ3 hk3 hR hy
        gi_wp2
        refine wpIn_wide.2 ?_
        obtain ⟨s1, hs1⟩ : ∃ s, x + y = s := ⟨_, rfl⟩
        obtain ⟨s2, hs2⟩ : ∃ s, y + z = s := ⟨_, rfl⟩
        obtain ⟨x2, hx2⟩ : ∃ s, s1 % M = s := ⟨_, rfl⟩
        obtain ⟨y2, hy2⟩ : ∃ s, s2 % M = s := ⟨_, rfl⟩
        have HQ : Hid (x + y = s1 ∧ y + z = s2 ∧ s1 % M = x2 ∧ s2 % M = y2 ∧ s1 < 18446744073709551616 ∧ s2 < 18446744073709551616) := ⟨hs1, hs2, hx2, hy2, by have := HML.out; omega, by have := HML.out; omega⟩
        have HI2 : Hid (p.it h (k + 1) = (x2, y2)) := by
          have := HIS.out k x y HIT.out
          rw [hs1, hs2, hx2, hy2] at this; exact this
        clear hs1 hs2 hx2 hy2
        refine wp_region_noPanic ?_
        refine wp_region_held_drew (S := After W3) (by kernel_rfl) (After.drew (After.refl W3)) ?_
        intro hS
        refine tk 0 32 (.int .u64 (x : Int)) (fuel := 11) rfl (by kernel_rfl) (by kernel_rfl) (by kernel_rfl) (by kernel_rfl) noPanic_false (by kernel_rfl) (fun _ _ => by kernel_rfl) hS ?_
        refine tk 1 33 (.int .u64 (y : Int)) (fuel := 10) rfl (by kernel_rfl) (by kernel_rfl) (by kernel_rfl) (by kernel_rfl) noPanic_false (by kernel_rfl) (fun _ _ => by kernel_rfl) hS ?_
        refine tk 2 34 (.int .u64 (s1 : Int)) (fuel := 9) rfl (by kernel_rfl) (by kernel_rfl) (by kernel_rfl) (by kernel_rfl) noPanic_false (by kernel_rfl) (fun W _ => x_add64 (x := .tmp 32) (y := .tmp 33) (p := x) (q := y) (r := s1) (by kernel_rfl) (by kernel_rfl) (by kernel_rfl) HQ.out.1 HQ.out.2.2.2.2.1) hS ?_
        refine tk 3 35 (.int .u64 (M : Int)) (fuel := 8) rfl (by kernel_rfl) (by kernel_rfl) (by kernel_rfl) (by kernel_rfl) noPanic_false (by kernel_rfl) (fun _ _ => by kernel_rfl) hS ?_
        refine tk 4 36 (.int .u64 (x2 : Int)) (fuel := 7) rfl (by kernel_rfl) (by kernel_rfl) (by kernel_rfl) (by kernel_rfl) noPanic_false (by kernel_rfl) (fun W _ => x_rem64 (x := .tmp 34) (y := .tmp 35) (p := s1) (q := M) (r := x2) (by kernel_rfl) (by kernel_rfl) (by kernel_rfl) HQ.out.2.2.1 HML.out.1) hS ?_
        refine tk 5 37 (.int .u64 (y : Int)) (fuel := 6) rfl (by kernel_rfl) (by kernel_rfl) (by kernel_rfl) (by kernel_rfl) noPanic_false (by kernel_rfl) (fun _ _ => by kernel_rfl) hS ?_
        refine tk 6 38 (.int .u64 (z : Int)) (fuel := 5) rfl (by kernel_rfl) (by kernel_rfl) (by kernel_rfl) (by kernel_rfl) noPanic_false (by kernel_rfl) (fun _ _ => by kernel_rfl) hS ?_
        refine tk 7 39 (.int .u64 (s2 : Int)) (fuel := 4) rfl (by kernel_rfl) (by kernel_rfl) (by kernel_rfl) (by kernel_rfl) noPanic_false (by kernel_rfl) (fun W _ => x_add64 (x := .tmp 37) (y := .tmp 38) (p := y) (q := z) (r := s2) (by kernel_rfl) (by kernel_rfl) (by kernel_rfl) HQ.out.2.1 HQ.out.2.2.2.2.2) hS ?_
        refine tk 8 40 (.int .u64 (M : Int)) (fuel := 3) rfl (by kernel_rfl) (by kernel_rfl) (by kernel_rfl) (by kernel_rfl) noPanic_false (by kernel_rfl) (fun _ _ => by kernel_rfl) hS ?_
        refine tk 9 41 (.int .u64 (y2 : Int)) (fuel := 2) rfl (by kernel_rfl) (by kernel_rfl) (by kernel_rfl) (by kernel_rfl) noPanic_false (by kernel_rfl) (fun W _ => x_rem64 (x := .tmp 39) (y := .tmp 40) (p := s2) (q := M) (r := y2) (by kernel_rfl) (by kernel_rfl) (by kernel_rfl) HQ.out.2.2.2.1 HML.out.1) hS ?_
        refine tk 10 5 (.int .u64 (x2 : Int)) (fuel := 1) rfl (by kernel_rfl) (by kernel_rfl) (by kernel_rfl) (by kernel_rfl) noPanic_false (by kernel_rfl) (fun _ _ => by kernel_rfl) hS ?_
        refine tk 11 6 (.int .u64 (y2 : Int)) (fuel := 0) rfl (by kernel_rfl) (by kernel_rfl) (by kernel_rfl) (by kernel_rfl) noPanic_false (by kernel_rfl) (fun _ _ => by kernel_rfl) hS ?_
        refine wpAnyH_done (by kernel_rfl) (NoPanic.normal ?_) _
        clear hS
        have HJ4 : Hid (J (pre ++ [(⟨x, by rw [HML.out.2.2.2]; exact HX.out.1⟩ : Pl p.all)]) W3.drew) := HA.out _ _ _ HJ3.out (After.drew (After.refl W3))
        go_simp
        gi_wp2
        go_roundw
        case rel => exact ⟨k + 1, x2, y2, _, by omega, by go_num, rfl, rfl, HI2.out, HP1.out, HJ4.out⟩
        case measure => simp [intOf]; omega
      · gi_wp2
        refine bodyPost_ret (results_none rfl _ _ _) rfl ?_
        exact ⟨⟨_, rfl⟩, .inr ⟨_, fun a b hb => HMEM.out ⟨a, b⟩ hb, hJx3⟩⟩
    · obtain rfl : k = 7 := by omega
      have hki : ¬ (7 : Int) < 7 := by omega
      gi_wp2
      go_end0
      exact ⟨⟨_, rfl⟩, .inl ⟨_, HPRE.out, HJ.out⟩⟩
theorem plc_stops (n₀ Bp Bh : Nat) (p : Prt) (hs : p.seed < 4294967296) (hmb : p.many * p.bits < 1000000000) (hM : 0 < p.all) (h : Hs) (h32 : h.length = 32) (w : World) (hBp : RowIs w Bp 41 (pc p)) (hBh : RowIs w Bh 29 (c8 h)) :
    SeqStopsK Fence.wide 3 Try.prog 30 #[.pointer (some ⟨Bp, 0, none⟩), .pointer (some ⟨Bh, 0, none⟩)] (fun x : Pl p.all => #[Value.int .u64 (x.1 : Int)]) (Below n₀) (fun ys => ys.map (·.1) = p.plc h 7) (fun pre => ∀ x ∈ pre, x.1 ∈ p.plc h 7) 7 w := fun lp J Jx W hW hJ _ hY h0 => by
  refine (plc_in lp n₀ Bp Bh p hs hmb hM h h32 J Jx hY (fun pre A B hj ha => hJ pre A B none hj ⟨ha.os, ha.tape, ha.output, ha.size, fun k hk _ => ha.block k hk⟩ (fun r h => by cases h)) W (hBp.below hW hBp.lt) (hBh.below hW hBh.lt) h0).mono ?_
  rintro e W' ⟨he, ⟨ys, h1, hj⟩ | ⟨pre, h1, hj⟩⟩
  · exact ⟨he, .inl ⟨_, h1, hj⟩⟩
  · exact ⟨he, .inr ⟨_, h1, hj⟩⟩
end Go.Proofs.Ytgcgblecendijaa
