/-
  PROVED: for every slice of records that a call of stemmalaw17.IndexPuts is handed, the call returns true and the slice reads afterwards as it read before: any records have the bytes that the document says, or it is told why not; they stay as they are. CONDITIONS: none; no input is left out.
-/
import Derived.Test.YtcmcapcagblafaaXJ
import Derived.Test.YtcmcapcagblafaaCP
import Derived.Test.YtcmcapcagblafaaXC
import Derived.Test.YtcmcapcagblafaaXL
import Derived.Test.YtcmcapcagblafaaXK
import Derived.Test.YtcmcapcagblafaaXT
import Derived.Test.YtcmcapcagblafaaXM
import Derived.Test.YtcmcapcagblafaaXQ
namespace Go.Proofs.Ytcmcapcagblafaa
open Go.RowKit Go.Maps Dsk
attribute [local go_sem] Oper.semAt_some
/-- Hashes behind none, in a block that is there. -/
theorem cpy_step {W : World} {B g n ca : Nat} {ao : Option Addr} {l : List H} (h : OwnL W B 43 32 (.slice (some ⟨g, 0, none⟩) 0 0) []) (hl : l.length = n) (hn : n * 32 ≤ 140737488355328) (hz : ao = none → ca = 0) (hA : SlAt W 32 ao (hsL l)) (hB : B ≤ W.heap.size) :
    ∃ a' c' W', (Builtin.append_ #[39, 39] 39 #[.slice (some ⟨g, 0, none⟩) 0 0, .slice ao n ca]).run Try.prog W = .ok (.slice a' n c') W' ∧ OwnL W' B 43 32 (.slice a' n c') (hsL l) ∧ W.grownBy W' (some g) := by
  obtain ⟨q, hq, hz0⟩ := Option.map_eq_some_iff.1 info50
  simp only [Prod.mk.injEq] at hz0
  obtain ⟨hz1, hz2, hz3⟩ := hz0
  obtain ⟨va, vc, w', h1, h2, h3, _⟩ := run_appL (t := 39) 39 43 32 32 Try.underlying39 hq hz1 hz2 hz3 (by simp [Value.cells]) (by omega) h (N := hsL l) (a := ao) (m := n) (c := ca) (by rw [hs_len, hl]) hA (hs_one l) (by simp; unfold maxLen; omega) (by simp; omega) hB (fun _ e => hz e)
  simp only [List.length_nil, Nat.zero_add, List.nil_append] at h1 h2
  exact ⟨va, vc, w', h1, h2, h3⟩
/-- Branches stay where a row below all of them grows. -/
theorem OwnB.grownAway {W W' : World} {B g : Nat} {v : Value} {X : List Bx} (h : OwnB W B v X) (hg : W.grownBy W' (some g)) (hne : ∀ b, B ≤ b → b ≠ g) : OwnB W' B v X :=
  h.keep hg.size (fun b _ _ h1 h2 _ => hg.block b h2.lt (fun e => hne b h1 (Option.some.inj e)))
/-- What the copy keeps. -/
structure LcI (w : World) (X : List Rx) (i : Nat) (v : Value) (wr : World) : Prop where
  aft : After w wr
  ex : ∃ Z : List Rx, Z.length = i ∧ OwnR wr w.heap.size v Z ∧ rsof Z = (rsof X).take i
def CpT (w : World) (n : Nat) (X : List Rx) (e : Ending) (w' : World) : Prop := ∃ a c Z, e = .returned (.slice a n c) ∧ OwnR w' w.heap.size (.slice a n c) Z ∧ rsof Z = rsof X ∧ After w w'
theorem cp_step17 {w wr W3 : World} {X : List Rx} {i vc : Nat} {va : Option Addr} (h : LcI w X i (.slice va i vc) wr) {y : Rx} (hx : (rsof X)[i]? = some (rof y)) (hA : After wr W3) (hy : RxO W3 w.heap.size y) (hi : (i + 1) * 64 ≤ 140737488355328) :
    ∃ vb vd w6, (Builtin.append_ #[22, 22] 22 #[.slice va i vc, .slice (some ⟨W3.heap.size, 0, none⟩) 1 1]).run Try.prog (W3.alloc (.cells (rxc y).toArray 41)) = .ok (.slice vb (i + 1) vd) w6 ∧ KeptF (fun b => (Value.slice va i vc).ownBlock = some b) wr w6 ∧ LcI w X (i + 1) (.slice vb (i + 1) vd) w6 := by
  obtain ⟨Z, h1, h2, h3⟩ := h.ex
  have hal : After W3 (W3.alloc (.cells (rxc y).toArray 41)) := after_alloc (After.refl W3) _
  have o3 := (h2.after hA).after hal
  have oy : RxO (W3.alloc (.cells (rxc y).toArray 41)) w.heap.size y := hy.keep hal.size (fun b t cs _ h2 _ => hal.block b h2.lt)
  have hsz := (h.aft.trans hA).size
  obtain ⟨vb, vd, w6, r1, r2, r3⟩ := run_appR 22 o3 (Y := [y]) (m := 1) (c := 1) rfl rx_box (by omega) (by simp; omega) (fun e => by cases e) (fun z hz => by rw [List.mem_singleton.1 hz]; exact oy)
  rw [h1] at r1 r2
  refine ⟨vb, vd, w6, r1, ?_, ⟨?_, Z ++ [y], by simp [h1], r2, by rw [rsof_snoc, h3, List.take_add_one, hx]; rfl⟩⟩
  · exact (KeptF.of_after (hA.trans hal)).trans (KeptF.of_grown r3 (fun b e => e)) (fun _ _ e => e)
  · exact after_grown ((h.aft.trans hA).trans hal) r3 (Nat.le_refl _) (fun k hk => (own_lt o3.row.2 hk).1)
theorem x_bld41 {oi : Oper} {a : Act} {w : World} {x y z : Operand} {s : ByteArray} {b d : Option Addr} {n c k e : Nat} (hop : oi.op = .build 41 #[(0, x), (1, y), (2, z)]) (hx : a.eval x = .string s) (hy : a.eval y = .slice b n c) (hz : a.eval z = .slice d k e) : (execOp a.eval oi).run Try.prog w = .ok (.value (.agg #[.string s, .slice b n c, .slice d k e])) w := by
  have h := run_build (P := Try.prog) w 41 #[(0, .string s), (1, .slice b n c), (2, .slice d k e)] #[.string s, .slice b n c, .slice d k e] (by kernel_rfl)
  unfold execOp
  simp only [hop]
  simp [hx, hy, hz, h]
set_option maxRecDepth 100000 in
set_option maxHeartbeats 25600000 in
theorem copy9 {la : Option Addr} {ca n : Nat} {X : List Rx} (hl : X.length = n) (hn : n * 64 ≤ 140737488355328) {w : World} (hA : RsAt w la X) : Calls Try.prog 9 #[.slice la n ca] w (CpT w n X) := by
  have HL : Hid (RsAt w la X ∧ X.length = n) := ⟨hA, hl⟩
  clear hA hl
  go_enter Try.func9, Try.ntmps9
  go_wp2
  go_loopw [3, 4] (fun v iv wr => ∃ (i : Nat) (va : Option Addr) (vc : Nat), i ≤ n ∧ v = .slice va i vc ∧ iv = .int .i64 (i : Int) ∧ Hid (LcI w X i (.slice va i vc) wr)) (fun _ iv _ => n - (intOf iv).toNat)
  case atStart => exact ⟨0, none, 0, Nat.zero_le _, rfl, rfl, After.refl _, [], rfl, OwnR.nil _ _, by simp [rsof]⟩
  case round =>
    obtain ⟨i, va, vc, hin, rfl, rfl, HP⟩ := hrel
    by_cases hlt : i < n
    · have hii : (i : Int) < (n : Int) := by omega
      have HLT : Hid (i < n) := hlt
      obtain ⟨x, hx⟩ : ∃ x, X[i]? = some x := ⟨_, List.getElem?_eq_getElem (by rw [HL.out.2]; exact hlt)⟩
      have hxb := HL.out.1.each x (List.mem_of_getElem? hx)
      obtain ⟨xb, xo, hla, hlr⟩ := HL.out.1.sl.at (rs_get hx)
      subst hla
      obtain ⟨k, hk⟩ : ∃ k, x.X.length = k := ⟨_, rfl⟩
      obtain ⟨p, hp⟩ : ∃ p, x.l.length = p := ⟨_, rfl⟩
      have hxlt : xb < w.heap.size := range_lt hlr (by simp [rxc])
      have HX : Hid (wr.rangeAt xb (xo + i * 3) [.string (strOf x.nm), .slice x.ba k x.bc, .slice x.a p x.c]) := by have := range_after hlr HP.out.aft; unfold rxc at this; rw [hk, hp] at this; exact this
      have HNE : Hid (¬ (Value.slice va i vc).ownBlock = some xb) := fun e => by obtain ⟨Z, _, hz, _⟩ := HP.out.ex; have := (own_lt hz.row.2 e).1; omega
      have HXA : Hid (RxAt w x ∧ x.X.length = k ∧ x.l.length = p ∧ (rsof X)[i]? = some (rof x) ∧ (i + 1) * 64 ≤ 140737488355328) := ⟨hxb, hk, hp, rsof_get hx, by omega⟩
      have HCB : Hid (∀ W, After w W → Calls Try.prog 21 #[.slice x.ba k x.bc] W fun e w' => ∃ a c Z, e = .returned (.slice a k c) ∧ OwnB w' W.heap.size (.slice a k c) Z ∧ bof Z = bof x.X ∧ After W w') := fun W hW => rcopy16 (ca := x.bc) HXA.out.2.1 (by have := HXA.out.1.fitB; rw [HXA.out.2.1] at this; exact this) (HXA.out.1.bs.after hW)
      have HSL : Hid (∀ W, After w W → SlAt W 32 x.a (hsL x.l)) := fun W hW => HXA.out.1.sl.after hW
      have HWD : Hid (After w wr.drew) := After.drew HP.out.aft
      have HMK : Hid (∀ (W : World) (a c : _) (Z : List Bx) (va vc : _), OwnB W w.heap.size (.slice a k c) Z → bof Z = bof x.X → OwnL W w.heap.size 43 32 (.slice va p vc) (hsL x.l) → RxO W w.heap.size ⟨x.nm, a, c, Z, va, vc, x.l⟩ ∧ rof ⟨x.nm, a, c, Z, va, vc, x.l⟩ = rof x ∧ (rxc ⟨x.nm, a, c, Z, va, vc, x.l⟩).toArray = #[.string (strOf x.nm), .slice a k c, .slice va p vc]) := fun W a c Z va vc h1 h2 h3 => by
        have hZ : Z.length = k := by rw [← bof_len Z, h2, bof_len, HXA.out.2.1]
        have hfit := HXA.out.1
        refine ⟨⟨⟨hfit.nmf, hfit.fitC, hfit.l32, by show Z.length * 40 ≤ _; rw [hZ, ← HXA.out.2.1]; exact hfit.fitB, fun y hy => ?_⟩, ?_, ?_⟩, ?_, ?_⟩
        · have h9 : (y.nm, y.l) ∈ bof x.X := by rw [← h2]; exact List.mem_map.2 ⟨y, hy, rfl⟩
          obtain ⟨z, hz1, hz2⟩ := List.mem_map.1 h9
          have := hfit.bnm z hz1
          rw [← (Prod.mk.inj hz2).1]; exact this
        · show OwnL _ _ _ _ (.slice va x.l.length vc) _
          rw [HXA.out.2.2.1]; exact h3
        · show OwnB _ _ (.slice a Z.length c) _
          rw [hZ]; exact h1
        · unfold rof; rw [h2]
        · unfold rxc; rw [hZ, HXA.out.2.2.1]
      clear hx hxb hlr hk hp hxlt
      go_wp2
      refine wp_region_noPanic ?_
      refine wp_region_held_drew (S := KeptF (fun b => (Value.slice va i vc).ownBlock = some b) wr) (by kernel_rfl) (KeptF.of_after (After.drew (After.refl wr))) ?_
      intro hS0
      refine tk 0 11 (.slice va i vc) (fuel := 22) rfl (by kernel_rfl) (by kernel_rfl) (by kernel_rfl) (by kernel_rfl) noPanic_false (by kernel_rfl) (fun _ _ => by kernel_rfl) hS0 ?_
      refine tk 1 12 (.slice (some ⟨xb, xo, none⟩) n ca) (fuel := 21) rfl (by kernel_rfl) (by kernel_rfl) (by kernel_rfl) (by kernel_rfl) noPanic_false (by kernel_rfl) (fun _ _ => by kernel_rfl) hS0 ?_
      refine tk 2 13 (.int .i64 (i : Int)) (fuel := 20) rfl (by kernel_rfl) (by kernel_rfl) (by kernel_rfl) (by kernel_rfl) noPanic_false (by kernel_rfl) (fun _ _ => by kernel_rfl) hS0 ?_
      refine tk 3 14 (.pointer (some ⟨xb, xo + i * 3, none⟩)) (fuel := 19) rfl (by kernel_rfl) (by kernel_rfl) (by kernel_rfl) (by kernel_rfl) noPanic_false (by kernel_rfl) (fun W _ => x_idx22 (n := n) (c := ca) (x := .tmp 12) (y := .tmp 13) (by kernel_rfl) (by kernel_rfl) (by kernel_rfl) HLT.out) hS0 ?_
      refine tk 4 15 (.pointer (some ⟨xb, xo + i * 3, none⟩)) (fuel := 18) rfl (by kernel_rfl) (by kernel_rfl) (by kernel_rfl) (by kernel_rfl) noPanic_false (by kernel_rfl) (fun _ _ => by kernel_rfl) hS0 ?_
      refine tk 5 16 (.string (strOf x.nm)) (fuel := 17) rfl (by kernel_rfl) (by kernel_rfl) (by kernel_rfl) (by kernel_rfl) noPanic_false (by kernel_rfl) (fun W hW => x_loadT (x := .tmp 15) (t := 9) (g := xb) (j := xo + i * 3 + 0) Try.underlying9 rfl (by kernel_rfl) (by kernel_rfl) (range_kept HX.out hW HNE.out 0 _ rfl)) hS0 ?_
      refine tk 6 17 (.slice (some ⟨xb, xo, none⟩) n ca) (fuel := 16) rfl (by kernel_rfl) (by kernel_rfl) (by kernel_rfl) (by kernel_rfl) noPanic_false (by kernel_rfl) (fun _ _ => by kernel_rfl) hS0 ?_
      refine tk 7 18 (.int .i64 (i : Int)) (fuel := 15) rfl (by kernel_rfl) (by kernel_rfl) (by kernel_rfl) (by kernel_rfl) noPanic_false (by kernel_rfl) (fun _ _ => by kernel_rfl) hS0 ?_
      refine tk 8 19 (.pointer (some ⟨xb, xo + i * 3, none⟩)) (fuel := 14) rfl (by kernel_rfl) (by kernel_rfl) (by kernel_rfl) (by kernel_rfl) noPanic_false (by kernel_rfl) (fun W _ => x_idx22 (n := n) (c := ca) (x := .tmp 17) (y := .tmp 18) (by kernel_rfl) (by kernel_rfl) (by kernel_rfl) HLT.out) hS0 ?_
      refine tk 9 20 (.pointer (some ⟨xb, xo + i * 3 + 1, none⟩)) (fuel := 13) rfl (by kernel_rfl) (by kernel_rfl) (by kernel_rfl) (by kernel_rfl) noPanic_false (by kernel_rfl) (fun _ _ => by kernel_rfl) hS0 ?_
      refine tk 10 21 (.slice x.ba k x.bc) (fuel := 12) rfl (by kernel_rfl) (by kernel_rfl) (by kernel_rfl) (by kernel_rfl) noPanic_false (by kernel_rfl) (fun W hW => x_loadT (x := .tmp 20) (t := 38) (g := xb) (j := xo + i * 3 + 1) Try.underlying38 rfl (by kernel_rfl) (by kernel_rfl) (range_kept HX.out hW HNE.out 1 _ rfl)) hS0 ?_
      refine tk 13 24 (.slice (some ⟨xb, xo, none⟩) n ca) (fuel := 11) rfl (by kernel_rfl) (by kernel_rfl) (by kernel_rfl) (by kernel_rfl) noPanic_false (by kernel_rfl) (fun _ _ => by kernel_rfl) hS0 ?_
      refine tk 14 25 (.int .i64 (i : Int)) (fuel := 10) rfl (by kernel_rfl) (by kernel_rfl) (by kernel_rfl) (by kernel_rfl) noPanic_false (by kernel_rfl) (fun _ _ => by kernel_rfl) hS0 ?_
      refine tk 15 26 (.pointer (some ⟨xb, xo + i * 3, none⟩)) (fuel := 9) rfl (by kernel_rfl) (by kernel_rfl) (by kernel_rfl) (by kernel_rfl) noPanic_false (by kernel_rfl) (fun W _ => x_idx22 (n := n) (c := ca) (x := .tmp 24) (y := .tmp 25) (by kernel_rfl) (by kernel_rfl) (by kernel_rfl) HLT.out) hS0 ?_
      refine tk 16 27 (.pointer (some ⟨xb, xo + i * 3 + 2, none⟩)) (fuel := 8) rfl (by kernel_rfl) (by kernel_rfl) (by kernel_rfl) (by kernel_rfl) noPanic_false (by kernel_rfl) (fun _ _ => by kernel_rfl) hS0 ?_
      refine tk 17 28 (.slice x.a p x.c) (fuel := 7) rfl (by kernel_rfl) (by kernel_rfl) (by kernel_rfl) (by kernel_rfl) noPanic_false (by kernel_rfl) (fun W hW => x_loadT (x := .tmp 27) (t := 39) (g := xb) (j := xo + i * 3 + 2) Try.underlying39 rfl (by kernel_rfl) (by kernel_rfl) (range_kept HX.out hW HNE.out 2 _ rfl)) hS0 ?_
      refine tkTwo 11 12 (fuel := 6) (by kernel_rfl) (opCallK 11 22 21 #[.slice x.ba k x.bc] (fun v w' => ∃ a c Z, v = .slice a k c ∧ OwnB w' wr.drew.heap.size (.slice a k c) Z ∧ bof Z = bof x.X ∧ After wr.drew w') rfl rfl (by kernel_rfl) (fun _ => by kernel_rfl) ((HCB.out wr.drew HWD.out).mono (fun e w' ⟨a, c, Z, he, h1, h2, h3⟩ => ⟨_, he, a, c, Z, rfl, h1, h2, h3⟩)) ?_) (opVal 12 23 (.slice (some ⟨wr.drew.heap.size, 0, none⟩) 0 0) (wr.drew.alloc (.cells #[] 43)) rfl rfl (by kernel_rfl) (x_bs30e (by kernel_rfl)) ⟨KeptF.of_after (after_alloc (After.drew (After.refl wr)) _), ?_⟩)
      · intro v1 w4 ⟨a1, c1, Z1, hv1, ho1, hZ1, ha1⟩
        subst hv1
        have hA4 : After wr w4 := (After.drew (After.refl wr)).trans ha1
        refine ⟨KeptF.of_after hA4, ?_⟩
        refine tkRunS 12 23 (.slice (some ⟨w4.heap.size, 0, none⟩) 0 0) (w4.alloc (.cells #[] 43)) (fuel := 5) rfl (by kernel_rfl) (by kernel_rfl) (by kernel_rfl) (x_bs30e (by kernel_rfl)) (KeptF.of_after (after_alloc hA4 _)) ?_
        have hsz4 := (HP.out.aft.trans hA4).size
        have hge : wr.heap.size ≤ w4.heap.size := hA4.size
        have oB4 : OwnB w4 w.heap.size (.slice a1 k c1) Z1 := ⟨ho1.row.lower HWD.out.size, ho1.each, fun y hy ad e => by obtain ⟨h1, h2, h3, h4⟩ := ho1.ge y hy ad e; exact ⟨Nat.le_trans HWD.out.size h1, h2, h3, h4⟩⟩
        have hal4 : After w4 (w4.alloc (.cells #[] 43)) := after_alloc (After.refl w4) _
        have oH5 : OwnL (w4.alloc (.cells #[] 43)) w.heap.size 43 32 (.slice (some ⟨w4.heap.size, 0, none⟩) 0 0) [] := (OwnL.fresh w4 43 32).lower hsz4
        obtain ⟨va8, vc8, W8, r8, o8, g8⟩ := cpy_step (ca := x.c) oH5 HXA.out.2.2.1 (by have := HXA.out.1.fitC; rw [HXA.out.2.2.1] at this; exact this) HXA.out.1.zC (HSL.out _ (HP.out.aft.trans (hA4.trans hal4))) (HP.out.aft.trans (hA4.trans hal4)).size
        have hA8 : After wr W8 := after_grown (hA4.trans hal4) g8 (Nat.le_refl _) (fun q hq => by cases hq; exact hge)
        have oB8 : OwnB W8 w.heap.size (.slice a1 k c1) Z1 := oB4.after (after_grown hal4 g8 (Nat.le_refl _) (fun q hq => by cases hq; exact Nat.le_refl _))
        obtain ⟨hy1, hy2, hy3⟩ := HMK.out W8 a1 c1 Z1 va8 vc8 oB8 hZ1 o8
        obtain ⟨vb, vd, w9, r9, k9, n9⟩ := cp_step17 HP.out (by rw [hy2]; exact HXA.out.2.2.2.1) hA8 hy1 HXA.out.2.2.2.2
        refine tkRunS 18 29 (.slice va8 p vc8) (W8) (fuel := 4) rfl (by kernel_rfl) (by kernel_rfl) (by kernel_rfl) (x_app (t := 39) (s := .tmp 23) (x := .tmp 28) rfl (by kernel_rfl) (by kernel_rfl) r8) (KeptF.of_after hA8) ?_
        refine tk 19 30 (.agg #[.string (strOf x.nm), .slice a1 k c1, .slice va8 p vc8]) (fuel := 3) rfl (by kernel_rfl) (by kernel_rfl) (by kernel_rfl) (by kernel_rfl) noPanic_false (by kernel_rfl) (fun _ _ => x_bld41 (x := .tmp 16) (y := .tmp 22) (z := .tmp 29) (by kernel_rfl) (by kernel_rfl) (by kernel_rfl) (by kernel_rfl)) (KeptF.of_after hA8) ?_
        refine tkRunS 20 31 (.slice (some ⟨W8.heap.size, 0, none⟩) 1 1) (W8.alloc (.cells (rxc ⟨x.nm, a1, c1, Z1, va8, vc8, x.l⟩).toArray 41)) (fuel := 2) rfl (by kernel_rfl) (by kernel_rfl) (by kernel_rfl) (x_bs22r (x := .tmp 30) (y := ⟨x.nm, a1, c1, Z1, va8, vc8, x.l⟩) (by kernel_rfl) (by rw [hy3]; kernel_rfl)) (KeptF.of_after (after_alloc hA8 _)) ?_
        refine tkRunS 21 32 (.slice vb (i + 1) vd) w9 (fuel := 1) rfl (by kernel_rfl) (by kernel_rfl) (by kernel_rfl) (x_app (t := 22) (s := .tmp 11) (x := .tmp 31) rfl (by kernel_rfl) (by kernel_rfl) r9) k9 ?_
        refine tk 22 3 (.slice vb (i + 1) vd) (fuel := 0) rfl (by kernel_rfl) (by kernel_rfl) (by kernel_rfl) (by kernel_rfl) noPanic_false (by kernel_rfl) (fun _ _ => by kernel_rfl) k9 ?_
        refine wpAnyH_done (by kernel_rfl) (NoPanic.normal ?_) _
        have HN : Hid (LcI w X (i + 1) (.slice vb (i + 1) vd) w9) := n9
        clear r8 o8 g8 hA8 oB8 hy1 hy2 hy3 r9 k9 n9
        clear hS0
        go_simp
        go_wp2
        go_roundw
        case rel => exact ⟨i + 1, vb, vd, by omega, rfl, by go_num, HN⟩
        case measure => simp [intOf]; omega
      · obtain ⟨g4, hg4⟩ : ∃ g4, wr.drew.heap.size = g4 := ⟨_, rfl⟩
        obtain ⟨w4, hw4⟩ : ∃ w4, wr.drew.alloc (.cells #[] 43) = w4 := ⟨_, rfl⟩
        have hA4 : After wr w4 := by rw [← hw4]; exact after_alloc (After.drew (After.refl wr)) _
        have oH4 : OwnL w4 g4 43 32 (.slice (some ⟨g4, 0, none⟩) 0 0) [] := by rw [← hw4, ← hg4]; exact OwnL.fresh wr.drew 43 32
        have hgl : g4 < w4.heap.size := by rw [← hw4, ← hg4]; simp
        rw [hw4, hg4]
        refine tkCallZ 11 22 21 #[.slice x.ba k x.bc] (fun v w' => ∃ a c Z, v = .slice a k c ∧ OwnB w' w4.heap.size (.slice a k c) Z ∧ bof Z = bof x.X ∧ After w4 w') (fuel := 5) rfl (by kernel_rfl) (by kernel_rfl) (by kernel_rfl) (fun _ => by kernel_rfl) ((HCB.out w4 (HP.out.aft.trans hA4)).mono (fun e w' ⟨a, c, Z, he, h1, h2, h3⟩ => ⟨_, he, a, c, Z, rfl, h1, h2, h3⟩)) ?_
        intro v1 w5 ⟨a1, c1, Z1, hv1, ho1, hZ1, ha1⟩
        subst hv1
        have hA5 : After wr w5 := hA4.trans ha1
        refine ⟨KeptF.of_after hA5, ?_⟩
        have hge : wr.heap.size ≤ g4 := by rw [← hg4]; exact (After.drew (After.refl wr)).size
        have hgo : ∀ b, w4.heap.size ≤ b → b ≠ g4 := fun b hb e => by omega
        have hsz5 := (HP.out.aft.trans hA4).size
        have oH5 : OwnL w5 w.heap.size 43 32 (.slice (some ⟨g4, 0, none⟩) 0 0) [] := (oH4.same (fun b e => ha1.block b (own_lt oH4.2 e).2.1)).lower (Nat.le_trans HP.out.aft.size hge)
        obtain ⟨va8, vc8, W8, r8, o8, g8⟩ := cpy_step (ca := x.c) oH5 HXA.out.2.2.1 (by have := HXA.out.1.fitC; rw [HXA.out.2.2.1] at this; exact this) HXA.out.1.zC (HSL.out _ (HP.out.aft.trans hA5)) (HP.out.aft.trans hA5).size
        have hA8 : After wr W8 := after_grown hA5 g8 (Nat.le_refl _) (fun q hq => by cases hq; exact hge)
        have oB8 : OwnB W8 w.heap.size (.slice a1 k c1) Z1 := (ho1.grownAway g8 hgo).lower hsz5
        obtain ⟨hy1, hy2, hy3⟩ := HMK.out W8 a1 c1 Z1 va8 vc8 oB8 hZ1 o8
        obtain ⟨vb, vd, w9, r9, k9, n9⟩ := cp_step17 HP.out (by rw [hy2]; exact HXA.out.2.2.2.1) hA8 hy1 HXA.out.2.2.2.2
        refine tkRunS 18 29 (.slice va8 p vc8) (W8) (fuel := 4) rfl (by kernel_rfl) (by kernel_rfl) (by kernel_rfl) (x_app (t := 39) (s := .tmp 23) (x := .tmp 28) rfl (by kernel_rfl) (by kernel_rfl) r8) (KeptF.of_after hA8) ?_
        refine tk 19 30 (.agg #[.string (strOf x.nm), .slice a1 k c1, .slice va8 p vc8]) (fuel := 3) rfl (by kernel_rfl) (by kernel_rfl) (by kernel_rfl) (by kernel_rfl) noPanic_false (by kernel_rfl) (fun _ _ => x_bld41 (x := .tmp 16) (y := .tmp 22) (z := .tmp 29) (by kernel_rfl) (by kernel_rfl) (by kernel_rfl) (by kernel_rfl)) (KeptF.of_after hA8) ?_
        refine tkRunS 20 31 (.slice (some ⟨W8.heap.size, 0, none⟩) 1 1) (W8.alloc (.cells (rxc ⟨x.nm, a1, c1, Z1, va8, vc8, x.l⟩).toArray 41)) (fuel := 2) rfl (by kernel_rfl) (by kernel_rfl) (by kernel_rfl) (x_bs22r (x := .tmp 30) (y := ⟨x.nm, a1, c1, Z1, va8, vc8, x.l⟩) (by kernel_rfl) (by rw [hy3]; kernel_rfl)) (KeptF.of_after (after_alloc hA8 _)) ?_
        refine tkRunS 21 32 (.slice vb (i + 1) vd) w9 (fuel := 1) rfl (by kernel_rfl) (by kernel_rfl) (by kernel_rfl) (x_app (t := 22) (s := .tmp 11) (x := .tmp 31) rfl (by kernel_rfl) (by kernel_rfl) r9) k9 ?_
        refine tk 22 3 (.slice vb (i + 1) vd) (fuel := 0) rfl (by kernel_rfl) (by kernel_rfl) (by kernel_rfl) (by kernel_rfl) noPanic_false (by kernel_rfl) (fun _ _ => by kernel_rfl) k9 ?_
        refine wpAnyH_done (by kernel_rfl) (NoPanic.normal ?_) _
        have HN : Hid (LcI w X (i + 1) (.slice vb (i + 1) vd) w9) := n9
        clear r8 o8 g8 hA8 oB8 hy1 hy2 hy3 r9 k9 n9
        clear hS0
        go_simp
        go_wp2
        go_roundw
        case rel => exact ⟨i + 1, vb, vd, by omega, rfl, by go_num, HN⟩
        case measure => simp [intOf]; omega

    · have hii : ¬ (i : Int) < (n : Int) := by omega
      have hie : i = n := by omega
      subst hie
      have HF : Hid (LcI w X i (.slice va i vc) wr) := HP.out
      go_wp2
      obtain ⟨Z, h1, h2, h3⟩ := HF.out.ex
      refine bodyPost_ret (v := .slice va i vc) (by simp [results, Try.results9, go_sem]) rfl ⟨va, vc, Z, rfl, h2, by rw [h3, List.take_of_length_le]; rw [rsof_len, HL.out.2]; exact Nat.le_refl _, HF.out.aft⟩
end Go.Proofs.Ytcmcapcagblafaa

namespace Go.Proofs.Ytcmcapcagblafaa
open Go.RowKit Go.Maps Dsk
attribute [local go_sem] Oper.semAt_some
set_option maxRecDepth 100000 in
set_option maxHeartbeats 25600000 in
theorem rsame13 {ao bo : Option Addr} {ca cb : Nat} {la lb : List Rx} {n m : Nat} (hla : la.length = n) (hlb : lb.length = m) (hbig : n < 4611686018427387904) {w : World} (hA : RsAt w ao la) (hB : RsAt w bo lb) :
    Calls Try.prog 13 #[.slice ao n ca, .slice bo m cb] w fun e w' => e = .returned (.bool (decide (rsof la = rsof lb))) ∧ After w w' := by
  have hpa : (rsof la).length = n := by rw [rsof_len, hla]
  have hpb : (rsof lb).length = m := by rw [rsof_len, hlb]
  by_cases hnm : n = m
  · subst hnm
    have HFA : Hid (RsAt w ao la ∧ la.length = n ∧ (rsof la).length = n) := ⟨hA, hla, hpa⟩
    have HFB : Hid (RsAt w bo lb ∧ lb.length = n ∧ (rsof lb).length = n) := ⟨hB, hlb, hpb⟩
    clear hA hB hla hlb hpa hpb
    go_enter Try.func13, Try.ntmps13
    go_wp2
    go_loopw [5] (fun iv wr => ∃ i : Nat, i ≤ n ∧ iv = .int .i64 (i : Int) ∧ Hid (SmI w (rsof la) (rsof lb) i wr)) (fun iv _ => n - (intOf iv).toNat)
    case atStart => exact ⟨0, Nat.zero_le _, rfl, After.refl w, fun j hj => by omega⟩
    case round =>
      obtain ⟨i, hin, rfl, HI⟩ := hrel
      by_cases hlt : i < n
      · have hii : (i : Int) < (n : Int) := by omega
        have HLT : Hid (i < n) := hlt
        obtain ⟨x, hx⟩ : ∃ x, la[i]? = some x := ⟨_, List.getElem?_eq_getElem (by rw [HFA.out.2.1]; exact hlt)⟩
        obtain ⟨y, hy⟩ : ∃ y, lb[i]? = some y := ⟨_, List.getElem?_eq_getElem (by rw [HFB.out.2.1]; exact hlt)⟩
        have hxb := HFA.out.1.each x (List.mem_of_getElem? hx)
        have hyb := HFB.out.1.each y (List.mem_of_getElem? hy)
        obtain ⟨xb, xo, hxa, hxr⟩ := HFA.out.1.sl.at (rs_get hx)
        obtain ⟨yb, yo, hya, hyr⟩ := HFB.out.1.sl.at (rs_get hy)
        subst hxa hya
        obtain ⟨k, hk⟩ : ∃ k, x.X.length = k := ⟨_, rfl⟩
        obtain ⟨p, hp⟩ : ∃ p, x.l.length = p := ⟨_, rfl⟩
        obtain ⟨q, hq⟩ : ∃ q, y.X.length = q := ⟨_, rfl⟩
        obtain ⟨r, hr⟩ : ∃ r, y.l.length = r := ⟨_, rfl⟩
        have HX : Hid (wr.rangeAt xb (xo + i * 3) [.string (strOf x.nm), .slice x.ba k x.bc, .slice x.a p x.c]) := by have := range_after hxr HI.out.aft; unfold rxc at this; rw [hk, hp] at this; exact this
        have HY : Hid (wr.rangeAt yb (yo + i * 3) [.string (strOf y.nm), .slice y.ba q y.bc, .slice y.a r y.c]) := by have := range_after hyr HI.out.aft; unfold rxc at this; rw [hq, hr] at this; exact this
        have HC1 : Hid (∀ W, After wr W → Calls Try.prog 25 #[.slice x.ba k x.bc, .slice y.ba q y.bc] W fun e w' => e = .returned (.bool (decide (bof x.X = bof y.X))) ∧ After W w') := fun W hW => rsame28 (ca := x.bc) (cb := y.bc) hk hq (by have := hxb.fitB; omega) (hxb.bs.after (HI.out.aft.trans hW)) (hyb.bs.after (HI.out.aft.trans hW))
        have HC2 : Hid (∀ W, After wr W → Calls Try.prog 26 #[.slice x.a p x.c, .slice y.a r y.c] W fun e w' => e = .returned (.bool (decide (x.l = y.l))) ∧ After W w') := fun W hW => rsame31 (ca := x.c) (cb := y.c) hxb.l32 hyb.l32 hp hr (by have := hxb.fitC; omega) (hxb.sl.after (HI.out.aft.trans hW)) (hyb.sl.after (HI.out.aft.trans hW))
        have HXY : Hid ((rsof la)[i]? = some (rof x) ∧ (rsof lb)[i]? = some (rof y)) := ⟨rsof_get hx, rsof_get hy⟩
        clear hx hy hxb hyb hxr hyr hk hp hq hr
        by_cases h1 : x.nm = y.nm
        · have HD1 : Hid (decide (x.nm = y.nm) = true) := decide_eq_true h1
          by_cases h2 : bof x.X = bof y.X
          · have HD2 : Hid (decide (bof x.X = bof y.X) = true) := decide_eq_true h2
            by_cases h3 : x.l = y.l
            · have HD3 : Hid (decide (x.l = y.l) = true) := decide_eq_true h3
              have HEQ : Hid (rof x = rof y) := by unfold Hid rof; rw [h1, h2, h3]
              clear h1 h2 h3
              go_wp2
              refine wp_region_noPanic ?_
              refine wp_region_held_drew (S := After wr) (by kernel_rfl) (After.drew (After.refl wr)) ?_
              intro hS0
              refine tk 0 17 (.slice (some ⟨xb, xo, none⟩) n ca) (fuel := 38) rfl (by kernel_rfl) (by kernel_rfl) (by kernel_rfl) (by kernel_rfl) noPanic_false (by kernel_rfl) (fun _ _ => by kernel_rfl) hS0 ?_
              refine tk 1 18 (.int .i64 (i : Int)) (fuel := 37) rfl (by kernel_rfl) (by kernel_rfl) (by kernel_rfl) (by kernel_rfl) noPanic_false (by kernel_rfl) (fun _ _ => by kernel_rfl) hS0 ?_
              refine tk 2 19 (.pointer (some ⟨xb, xo + i * 3, none⟩)) (fuel := 36) rfl (by kernel_rfl) (by kernel_rfl) (by kernel_rfl) (by kernel_rfl) noPanic_false (by kernel_rfl) (fun W _ => x_idx22 (n := n) (c := ca) (x := .tmp 17) (y := .tmp 18) (by kernel_rfl) (by kernel_rfl) (by kernel_rfl) HLT.out) hS0 ?_
              refine tk 3 20 (.pointer (some ⟨xb, xo + i * 3, none⟩)) (fuel := 35) rfl (by kernel_rfl) (by kernel_rfl) (by kernel_rfl) (by kernel_rfl) noPanic_false (by kernel_rfl) (fun _ _ => by kernel_rfl) hS0 ?_
              refine tk 4 21 (.string (strOf x.nm)) (fuel := 34) rfl (by kernel_rfl) (by kernel_rfl) (by kernel_rfl) (by kernel_rfl) noPanic_false (by kernel_rfl) (fun W hW => x_loadT (x := .tmp 20) (t := 9) (g := xb) (j := xo + i * 3 + 0) Try.underlying9 rfl (by kernel_rfl) (by kernel_rfl) (range_after HX.out hW 0 _ rfl)) hS0 ?_
              refine tk 5 22 (.slice (some ⟨yb, yo, none⟩) n cb) (fuel := 33) rfl (by kernel_rfl) (by kernel_rfl) (by kernel_rfl) (by kernel_rfl) noPanic_false (by kernel_rfl) (fun _ _ => by kernel_rfl) hS0 ?_
              refine tk 6 23 (.int .i64 (i : Int)) (fuel := 32) rfl (by kernel_rfl) (by kernel_rfl) (by kernel_rfl) (by kernel_rfl) noPanic_false (by kernel_rfl) (fun _ _ => by kernel_rfl) hS0 ?_
              refine tk 7 24 (.pointer (some ⟨yb, yo + i * 3, none⟩)) (fuel := 31) rfl (by kernel_rfl) (by kernel_rfl) (by kernel_rfl) (by kernel_rfl) noPanic_false (by kernel_rfl) (fun W _ => x_idx22 (n := n) (c := cb) (x := .tmp 22) (y := .tmp 23) (by kernel_rfl) (by kernel_rfl) (by kernel_rfl) HLT.out) hS0 ?_
              refine tk 8 25 (.pointer (some ⟨yb, yo + i * 3, none⟩)) (fuel := 30) rfl (by kernel_rfl) (by kernel_rfl) (by kernel_rfl) (by kernel_rfl) noPanic_false (by kernel_rfl) (fun _ _ => by kernel_rfl) hS0 ?_
              refine tk 9 26 (.string (strOf y.nm)) (fuel := 29) rfl (by kernel_rfl) (by kernel_rfl) (by kernel_rfl) (by kernel_rfl) noPanic_false (by kernel_rfl) (fun W hW => x_loadT (x := .tmp 25) (t := 9) (g := yb) (j := yo + i * 3 + 0) Try.underlying9 rfl (by kernel_rfl) (by kernel_rfl) (range_after HY.out hW 0 _ rfl)) hS0 ?_
              refine tk 10 27 (.bool false) (fuel := 28) rfl (by kernel_rfl) (by kernel_rfl) (by kernel_rfl) (by kernel_rfl) noPanic_false (by kernel_rfl) (fun W _ => (x_ne9 (s := x.nm) (t := y.nm) (x := .tmp 21) (y := .tmp 26) (by kernel_rfl) (by kernel_rfl) (by kernel_rfl)).trans (by rw [HD1.out]; rfl)) hS0 ?_
              refine tk 11 28 (.bool false) (fuel := 27) rfl (by kernel_rfl) (by kernel_rfl) (by kernel_rfl) (by kernel_rfl) noPanic_false (by kernel_rfl) (fun _ _ => by kernel_rfl) hS0 ?_
              refine tk 12 29 (.slice (some ⟨xb, xo, none⟩) n ca) (fuel := 26) rfl (by kernel_rfl) (by kernel_rfl) (by kernel_rfl) (by kernel_rfl) noPanic_false (by kernel_rfl) (fun _ _ => by kernel_rfl) hS0 ?_
              refine tk 13 30 (.int .i64 (i : Int)) (fuel := 25) rfl (by kernel_rfl) (by kernel_rfl) (by kernel_rfl) (by kernel_rfl) noPanic_false (by kernel_rfl) (fun _ _ => by kernel_rfl) hS0 ?_
              refine tk 14 31 (.pointer (some ⟨xb, xo + i * 3, none⟩)) (fuel := 24) rfl (by kernel_rfl) (by kernel_rfl) (by kernel_rfl) (by kernel_rfl) noPanic_false (by kernel_rfl) (fun W _ => x_idx22 (n := n) (c := ca) (x := .tmp 29) (y := .tmp 30) (by kernel_rfl) (by kernel_rfl) (by kernel_rfl) HLT.out) hS0 ?_
              refine tk 15 32 (.pointer (some ⟨xb, xo + i * 3 + 1, none⟩)) (fuel := 23) rfl (by kernel_rfl) (by kernel_rfl) (by kernel_rfl) (by kernel_rfl) noPanic_false (by kernel_rfl) (fun _ _ => by kernel_rfl) hS0 ?_
              refine tk 16 33 (.slice x.ba k x.bc) (fuel := 22) rfl (by kernel_rfl) (by kernel_rfl) (by kernel_rfl) (by kernel_rfl) noPanic_false (by kernel_rfl) (fun W hW => x_loadT (x := .tmp 32) (t := 38) (g := xb) (j := xo + i * 3 + 1) Try.underlying38 rfl (by kernel_rfl) (by kernel_rfl) (range_after HX.out hW 1 _ rfl)) hS0 ?_
              refine tk 17 34 (.slice (some ⟨yb, yo, none⟩) n cb) (fuel := 21) rfl (by kernel_rfl) (by kernel_rfl) (by kernel_rfl) (by kernel_rfl) noPanic_false (by kernel_rfl) (fun _ _ => by kernel_rfl) hS0 ?_
              refine tk 18 35 (.int .i64 (i : Int)) (fuel := 20) rfl (by kernel_rfl) (by kernel_rfl) (by kernel_rfl) (by kernel_rfl) noPanic_false (by kernel_rfl) (fun _ _ => by kernel_rfl) hS0 ?_
              refine tk 19 36 (.pointer (some ⟨yb, yo + i * 3, none⟩)) (fuel := 19) rfl (by kernel_rfl) (by kernel_rfl) (by kernel_rfl) (by kernel_rfl) noPanic_false (by kernel_rfl) (fun W _ => x_idx22 (n := n) (c := cb) (x := .tmp 34) (y := .tmp 35) (by kernel_rfl) (by kernel_rfl) (by kernel_rfl) HLT.out) hS0 ?_
              refine tk 20 37 (.pointer (some ⟨yb, yo + i * 3 + 1, none⟩)) (fuel := 18) rfl (by kernel_rfl) (by kernel_rfl) (by kernel_rfl) (by kernel_rfl) noPanic_false (by kernel_rfl) (fun _ _ => by kernel_rfl) hS0 ?_
              refine tk 21 38 (.slice y.ba q y.bc) (fuel := 17) rfl (by kernel_rfl) (by kernel_rfl) (by kernel_rfl) (by kernel_rfl) noPanic_false (by kernel_rfl) (fun W hW => x_loadT (x := .tmp 37) (t := 38) (g := yb) (j := yo + i * 3 + 1) Try.underlying38 rfl (by kernel_rfl) (by kernel_rfl) (range_after HY.out hW 1 _ rfl)) hS0 ?_
              refine tkCallZ 22 39 25 #[.slice x.ba k x.bc, .slice y.ba q y.bc] (fun v w' => v = .bool true ∧ After wr.drew w') (fuel := 16) rfl (by kernel_rfl) (by kernel_rfl) (by kernel_rfl) (fun _ => by kernel_rfl) ((HC1.out _ (After.drew (After.refl wr))).mono (fun e w' ⟨he, h⟩ => ⟨_, he, by rw [HD2.out], h⟩)) ?_
              intro v1 w1 ⟨hv1, k1⟩
              subst hv1
              have hS1 : After wr w1 := (After.drew (After.refl wr)).trans k1
              clear k1
              refine ⟨hS1, ?_⟩
              refine tk 23 40 (.bool false) (fuel := 15) rfl (by kernel_rfl) (by kernel_rfl) (by kernel_rfl) (by kernel_rfl) noPanic_false (by kernel_rfl) (fun _ _ => by kernel_rfl) hS1 ?_
              refine tk 24 41 (.bool false) (fuel := 14) rfl (by kernel_rfl) (by kernel_rfl) (by kernel_rfl) (by kernel_rfl) noPanic_false (by kernel_rfl) (fun _ _ => by kernel_rfl) hS1 ?_
              refine tk 25 42 (.bool false) (fuel := 13) rfl (by kernel_rfl) (by kernel_rfl) (by kernel_rfl) (by kernel_rfl) noPanic_false (by kernel_rfl) (fun _ _ => by kernel_rfl) hS1 ?_
              refine tk 26 43 (.slice (some ⟨xb, xo, none⟩) n ca) (fuel := 12) rfl (by kernel_rfl) (by kernel_rfl) (by kernel_rfl) (by kernel_rfl) noPanic_false (by kernel_rfl) (fun _ _ => by kernel_rfl) hS1 ?_
              refine tk 27 44 (.int .i64 (i : Int)) (fuel := 11) rfl (by kernel_rfl) (by kernel_rfl) (by kernel_rfl) (by kernel_rfl) noPanic_false (by kernel_rfl) (fun _ _ => by kernel_rfl) hS1 ?_
              refine tk 28 45 (.pointer (some ⟨xb, xo + i * 3, none⟩)) (fuel := 10) rfl (by kernel_rfl) (by kernel_rfl) (by kernel_rfl) (by kernel_rfl) noPanic_false (by kernel_rfl) (fun W _ => x_idx22 (n := n) (c := ca) (x := .tmp 43) (y := .tmp 44) (by kernel_rfl) (by kernel_rfl) (by kernel_rfl) HLT.out) hS1 ?_
              refine tk 29 46 (.pointer (some ⟨xb, xo + i * 3 + 2, none⟩)) (fuel := 9) rfl (by kernel_rfl) (by kernel_rfl) (by kernel_rfl) (by kernel_rfl) noPanic_false (by kernel_rfl) (fun _ _ => by kernel_rfl) hS1 ?_
              refine tk 30 47 (.slice x.a p x.c) (fuel := 8) rfl (by kernel_rfl) (by kernel_rfl) (by kernel_rfl) (by kernel_rfl) noPanic_false (by kernel_rfl) (fun W hW => x_loadT (x := .tmp 46) (t := 39) (g := xb) (j := xo + i * 3 + 2) Try.underlying39 rfl (by kernel_rfl) (by kernel_rfl) (range_after HX.out hW 2 _ rfl)) hS1 ?_
              refine tk 31 48 (.slice (some ⟨yb, yo, none⟩) n cb) (fuel := 7) rfl (by kernel_rfl) (by kernel_rfl) (by kernel_rfl) (by kernel_rfl) noPanic_false (by kernel_rfl) (fun _ _ => by kernel_rfl) hS1 ?_
              refine tk 32 49 (.int .i64 (i : Int)) (fuel := 6) rfl (by kernel_rfl) (by kernel_rfl) (by kernel_rfl) (by kernel_rfl) noPanic_false (by kernel_rfl) (fun _ _ => by kernel_rfl) hS1 ?_
              refine tk 33 50 (.pointer (some ⟨yb, yo + i * 3, none⟩)) (fuel := 5) rfl (by kernel_rfl) (by kernel_rfl) (by kernel_rfl) (by kernel_rfl) noPanic_false (by kernel_rfl) (fun W _ => x_idx22 (n := n) (c := cb) (x := .tmp 48) (y := .tmp 49) (by kernel_rfl) (by kernel_rfl) (by kernel_rfl) HLT.out) hS1 ?_
              refine tk 34 51 (.pointer (some ⟨yb, yo + i * 3 + 2, none⟩)) (fuel := 4) rfl (by kernel_rfl) (by kernel_rfl) (by kernel_rfl) (by kernel_rfl) noPanic_false (by kernel_rfl) (fun _ _ => by kernel_rfl) hS1 ?_
              refine tk 35 52 (.slice y.a r y.c) (fuel := 3) rfl (by kernel_rfl) (by kernel_rfl) (by kernel_rfl) (by kernel_rfl) noPanic_false (by kernel_rfl) (fun W hW => x_loadT (x := .tmp 51) (t := 39) (g := yb) (j := yo + i * 3 + 2) Try.underlying39 rfl (by kernel_rfl) (by kernel_rfl) (range_after HY.out hW 2 _ rfl)) hS1 ?_
              refine tkCallZ 36 53 26 #[.slice x.a p x.c, .slice y.a r y.c] (fun v w' => v = .bool true ∧ After w1 w') (fuel := 2) rfl (by kernel_rfl) (by kernel_rfl) (by kernel_rfl) (fun _ => by kernel_rfl) ((HC2.out _ hS1).mono (fun e w' ⟨he, h⟩ => ⟨_, he, by rw [HD3.out], h⟩)) ?_
              intro v2 w2 ⟨hv2, k2⟩
              subst hv2
              have hS2 : After wr w2 := hS1.trans k2
              clear k2
              refine ⟨hS2, ?_⟩
              refine tk 37 54 (.bool false) (fuel := 1) rfl (by kernel_rfl) (by kernel_rfl) (by kernel_rfl) (by kernel_rfl) noPanic_false (by kernel_rfl) (fun _ _ => by kernel_rfl) hS2 ?_
              refine tk 38 55 (.bool false) (fuel := 0) rfl (by kernel_rfl) (by kernel_rfl) (by kernel_rfl) (by kernel_rfl) noPanic_false (by kernel_rfl) (fun _ _ => by kernel_rfl) hS2 ?_
              refine wpAnyH_done (by kernel_rfl) (NoPanic.normal ?_) _
              have HN : Hid (SmI w (rsof la) (rsof lb) (i + 1) w2) := ⟨HI.out.aft.trans hS2, fun j hj => by
                by_cases e : j = i
                · subst e; rw [HXY.out.1, HXY.out.2, HEQ.out]
                · exact HI.out.pre j (by omega)⟩
              clear hS0 hS1 hS2
              go_simp
              go_wp2
              go_roundw
              case rel => exact ⟨i + 1, by omega, by go_num, HN⟩
              case measure => simp [intOf]; omega
            · have HD3 : Hid (decide (x.l = y.l) = false) := decide_eq_false h3
              have HNE : Hid (¬ rof x = rof y) := fun e => h3 (Prod.mk.inj (Prod.mk.inj e).2).2
              clear h1 h2 h3
              go_wp2
              refine wp_region_noPanic ?_
              refine wp_region_held_drew (S := After wr) (by kernel_rfl) (After.drew (After.refl wr)) ?_
              intro hS0
              refine tk 0 17 (.slice (some ⟨xb, xo, none⟩) n ca) (fuel := 38) rfl (by kernel_rfl) (by kernel_rfl) (by kernel_rfl) (by kernel_rfl) noPanic_false (by kernel_rfl) (fun _ _ => by kernel_rfl) hS0 ?_
              refine tk 1 18 (.int .i64 (i : Int)) (fuel := 37) rfl (by kernel_rfl) (by kernel_rfl) (by kernel_rfl) (by kernel_rfl) noPanic_false (by kernel_rfl) (fun _ _ => by kernel_rfl) hS0 ?_
              refine tk 2 19 (.pointer (some ⟨xb, xo + i * 3, none⟩)) (fuel := 36) rfl (by kernel_rfl) (by kernel_rfl) (by kernel_rfl) (by kernel_rfl) noPanic_false (by kernel_rfl) (fun W _ => x_idx22 (n := n) (c := ca) (x := .tmp 17) (y := .tmp 18) (by kernel_rfl) (by kernel_rfl) (by kernel_rfl) HLT.out) hS0 ?_
              refine tk 3 20 (.pointer (some ⟨xb, xo + i * 3, none⟩)) (fuel := 35) rfl (by kernel_rfl) (by kernel_rfl) (by kernel_rfl) (by kernel_rfl) noPanic_false (by kernel_rfl) (fun _ _ => by kernel_rfl) hS0 ?_
              refine tk 4 21 (.string (strOf x.nm)) (fuel := 34) rfl (by kernel_rfl) (by kernel_rfl) (by kernel_rfl) (by kernel_rfl) noPanic_false (by kernel_rfl) (fun W hW => x_loadT (x := .tmp 20) (t := 9) (g := xb) (j := xo + i * 3 + 0) Try.underlying9 rfl (by kernel_rfl) (by kernel_rfl) (range_after HX.out hW 0 _ rfl)) hS0 ?_
              refine tk 5 22 (.slice (some ⟨yb, yo, none⟩) n cb) (fuel := 33) rfl (by kernel_rfl) (by kernel_rfl) (by kernel_rfl) (by kernel_rfl) noPanic_false (by kernel_rfl) (fun _ _ => by kernel_rfl) hS0 ?_
              refine tk 6 23 (.int .i64 (i : Int)) (fuel := 32) rfl (by kernel_rfl) (by kernel_rfl) (by kernel_rfl) (by kernel_rfl) noPanic_false (by kernel_rfl) (fun _ _ => by kernel_rfl) hS0 ?_
              refine tk 7 24 (.pointer (some ⟨yb, yo + i * 3, none⟩)) (fuel := 31) rfl (by kernel_rfl) (by kernel_rfl) (by kernel_rfl) (by kernel_rfl) noPanic_false (by kernel_rfl) (fun W _ => x_idx22 (n := n) (c := cb) (x := .tmp 22) (y := .tmp 23) (by kernel_rfl) (by kernel_rfl) (by kernel_rfl) HLT.out) hS0 ?_
              refine tk 8 25 (.pointer (some ⟨yb, yo + i * 3, none⟩)) (fuel := 30) rfl (by kernel_rfl) (by kernel_rfl) (by kernel_rfl) (by kernel_rfl) noPanic_false (by kernel_rfl) (fun _ _ => by kernel_rfl) hS0 ?_
              refine tk 9 26 (.string (strOf y.nm)) (fuel := 29) rfl (by kernel_rfl) (by kernel_rfl) (by kernel_rfl) (by kernel_rfl) noPanic_false (by kernel_rfl) (fun W hW => x_loadT (x := .tmp 25) (t := 9) (g := yb) (j := yo + i * 3 + 0) Try.underlying9 rfl (by kernel_rfl) (by kernel_rfl) (range_after HY.out hW 0 _ rfl)) hS0 ?_
              refine tk 10 27 (.bool false) (fuel := 28) rfl (by kernel_rfl) (by kernel_rfl) (by kernel_rfl) (by kernel_rfl) noPanic_false (by kernel_rfl) (fun W _ => (x_ne9 (s := x.nm) (t := y.nm) (x := .tmp 21) (y := .tmp 26) (by kernel_rfl) (by kernel_rfl) (by kernel_rfl)).trans (by rw [HD1.out]; rfl)) hS0 ?_
              refine tk 11 28 (.bool false) (fuel := 27) rfl (by kernel_rfl) (by kernel_rfl) (by kernel_rfl) (by kernel_rfl) noPanic_false (by kernel_rfl) (fun _ _ => by kernel_rfl) hS0 ?_
              refine tk 12 29 (.slice (some ⟨xb, xo, none⟩) n ca) (fuel := 26) rfl (by kernel_rfl) (by kernel_rfl) (by kernel_rfl) (by kernel_rfl) noPanic_false (by kernel_rfl) (fun _ _ => by kernel_rfl) hS0 ?_
              refine tk 13 30 (.int .i64 (i : Int)) (fuel := 25) rfl (by kernel_rfl) (by kernel_rfl) (by kernel_rfl) (by kernel_rfl) noPanic_false (by kernel_rfl) (fun _ _ => by kernel_rfl) hS0 ?_
              refine tk 14 31 (.pointer (some ⟨xb, xo + i * 3, none⟩)) (fuel := 24) rfl (by kernel_rfl) (by kernel_rfl) (by kernel_rfl) (by kernel_rfl) noPanic_false (by kernel_rfl) (fun W _ => x_idx22 (n := n) (c := ca) (x := .tmp 29) (y := .tmp 30) (by kernel_rfl) (by kernel_rfl) (by kernel_rfl) HLT.out) hS0 ?_
              refine tk 15 32 (.pointer (some ⟨xb, xo + i * 3 + 1, none⟩)) (fuel := 23) rfl (by kernel_rfl) (by kernel_rfl) (by kernel_rfl) (by kernel_rfl) noPanic_false (by kernel_rfl) (fun _ _ => by kernel_rfl) hS0 ?_
              refine tk 16 33 (.slice x.ba k x.bc) (fuel := 22) rfl (by kernel_rfl) (by kernel_rfl) (by kernel_rfl) (by kernel_rfl) noPanic_false (by kernel_rfl) (fun W hW => x_loadT (x := .tmp 32) (t := 38) (g := xb) (j := xo + i * 3 + 1) Try.underlying38 rfl (by kernel_rfl) (by kernel_rfl) (range_after HX.out hW 1 _ rfl)) hS0 ?_
              refine tk 17 34 (.slice (some ⟨yb, yo, none⟩) n cb) (fuel := 21) rfl (by kernel_rfl) (by kernel_rfl) (by kernel_rfl) (by kernel_rfl) noPanic_false (by kernel_rfl) (fun _ _ => by kernel_rfl) hS0 ?_
              refine tk 18 35 (.int .i64 (i : Int)) (fuel := 20) rfl (by kernel_rfl) (by kernel_rfl) (by kernel_rfl) (by kernel_rfl) noPanic_false (by kernel_rfl) (fun _ _ => by kernel_rfl) hS0 ?_
              refine tk 19 36 (.pointer (some ⟨yb, yo + i * 3, none⟩)) (fuel := 19) rfl (by kernel_rfl) (by kernel_rfl) (by kernel_rfl) (by kernel_rfl) noPanic_false (by kernel_rfl) (fun W _ => x_idx22 (n := n) (c := cb) (x := .tmp 34) (y := .tmp 35) (by kernel_rfl) (by kernel_rfl) (by kernel_rfl) HLT.out) hS0 ?_
              refine tk 20 37 (.pointer (some ⟨yb, yo + i * 3 + 1, none⟩)) (fuel := 18) rfl (by kernel_rfl) (by kernel_rfl) (by kernel_rfl) (by kernel_rfl) noPanic_false (by kernel_rfl) (fun _ _ => by kernel_rfl) hS0 ?_
              refine tk 21 38 (.slice y.ba q y.bc) (fuel := 17) rfl (by kernel_rfl) (by kernel_rfl) (by kernel_rfl) (by kernel_rfl) noPanic_false (by kernel_rfl) (fun W hW => x_loadT (x := .tmp 37) (t := 38) (g := yb) (j := yo + i * 3 + 1) Try.underlying38 rfl (by kernel_rfl) (by kernel_rfl) (range_after HY.out hW 1 _ rfl)) hS0 ?_
              refine tkCallZ 22 39 25 #[.slice x.ba k x.bc, .slice y.ba q y.bc] (fun v w' => v = .bool true ∧ After wr.drew w') (fuel := 16) rfl (by kernel_rfl) (by kernel_rfl) (by kernel_rfl) (fun _ => by kernel_rfl) ((HC1.out _ (After.drew (After.refl wr))).mono (fun e w' ⟨he, h⟩ => ⟨_, he, by rw [HD2.out], h⟩)) ?_
              intro v1 w1 ⟨hv1, k1⟩
              subst hv1
              have hS1 : After wr w1 := (After.drew (After.refl wr)).trans k1
              clear k1
              refine ⟨hS1, ?_⟩
              refine tk 23 40 (.bool false) (fuel := 15) rfl (by kernel_rfl) (by kernel_rfl) (by kernel_rfl) (by kernel_rfl) noPanic_false (by kernel_rfl) (fun _ _ => by kernel_rfl) hS1 ?_
              refine tk 24 41 (.bool false) (fuel := 14) rfl (by kernel_rfl) (by kernel_rfl) (by kernel_rfl) (by kernel_rfl) noPanic_false (by kernel_rfl) (fun _ _ => by kernel_rfl) hS1 ?_
              refine tk 25 42 (.bool false) (fuel := 13) rfl (by kernel_rfl) (by kernel_rfl) (by kernel_rfl) (by kernel_rfl) noPanic_false (by kernel_rfl) (fun _ _ => by kernel_rfl) hS1 ?_
              refine tk 26 43 (.slice (some ⟨xb, xo, none⟩) n ca) (fuel := 12) rfl (by kernel_rfl) (by kernel_rfl) (by kernel_rfl) (by kernel_rfl) noPanic_false (by kernel_rfl) (fun _ _ => by kernel_rfl) hS1 ?_
              refine tk 27 44 (.int .i64 (i : Int)) (fuel := 11) rfl (by kernel_rfl) (by kernel_rfl) (by kernel_rfl) (by kernel_rfl) noPanic_false (by kernel_rfl) (fun _ _ => by kernel_rfl) hS1 ?_
              refine tk 28 45 (.pointer (some ⟨xb, xo + i * 3, none⟩)) (fuel := 10) rfl (by kernel_rfl) (by kernel_rfl) (by kernel_rfl) (by kernel_rfl) noPanic_false (by kernel_rfl) (fun W _ => x_idx22 (n := n) (c := ca) (x := .tmp 43) (y := .tmp 44) (by kernel_rfl) (by kernel_rfl) (by kernel_rfl) HLT.out) hS1 ?_
              refine tk 29 46 (.pointer (some ⟨xb, xo + i * 3 + 2, none⟩)) (fuel := 9) rfl (by kernel_rfl) (by kernel_rfl) (by kernel_rfl) (by kernel_rfl) noPanic_false (by kernel_rfl) (fun _ _ => by kernel_rfl) hS1 ?_
              refine tk 30 47 (.slice x.a p x.c) (fuel := 8) rfl (by kernel_rfl) (by kernel_rfl) (by kernel_rfl) (by kernel_rfl) noPanic_false (by kernel_rfl) (fun W hW => x_loadT (x := .tmp 46) (t := 39) (g := xb) (j := xo + i * 3 + 2) Try.underlying39 rfl (by kernel_rfl) (by kernel_rfl) (range_after HX.out hW 2 _ rfl)) hS1 ?_
              refine tk 31 48 (.slice (some ⟨yb, yo, none⟩) n cb) (fuel := 7) rfl (by kernel_rfl) (by kernel_rfl) (by kernel_rfl) (by kernel_rfl) noPanic_false (by kernel_rfl) (fun _ _ => by kernel_rfl) hS1 ?_
              refine tk 32 49 (.int .i64 (i : Int)) (fuel := 6) rfl (by kernel_rfl) (by kernel_rfl) (by kernel_rfl) (by kernel_rfl) noPanic_false (by kernel_rfl) (fun _ _ => by kernel_rfl) hS1 ?_
              refine tk 33 50 (.pointer (some ⟨yb, yo + i * 3, none⟩)) (fuel := 5) rfl (by kernel_rfl) (by kernel_rfl) (by kernel_rfl) (by kernel_rfl) noPanic_false (by kernel_rfl) (fun W _ => x_idx22 (n := n) (c := cb) (x := .tmp 48) (y := .tmp 49) (by kernel_rfl) (by kernel_rfl) (by kernel_rfl) HLT.out) hS1 ?_
              refine tk 34 51 (.pointer (some ⟨yb, yo + i * 3 + 2, none⟩)) (fuel := 4) rfl (by kernel_rfl) (by kernel_rfl) (by kernel_rfl) (by kernel_rfl) noPanic_false (by kernel_rfl) (fun _ _ => by kernel_rfl) hS1 ?_
              refine tk 35 52 (.slice y.a r y.c) (fuel := 3) rfl (by kernel_rfl) (by kernel_rfl) (by kernel_rfl) (by kernel_rfl) noPanic_false (by kernel_rfl) (fun W hW => x_loadT (x := .tmp 51) (t := 39) (g := yb) (j := yo + i * 3 + 2) Try.underlying39 rfl (by kernel_rfl) (by kernel_rfl) (range_after HY.out hW 2 _ rfl)) hS1 ?_
              refine tkCallZ 36 53 26 #[.slice x.a p x.c, .slice y.a r y.c] (fun v w' => v = .bool false ∧ After w1 w') (fuel := 2) rfl (by kernel_rfl) (by kernel_rfl) (by kernel_rfl) (fun _ => by kernel_rfl) ((HC2.out _ hS1).mono (fun e w' ⟨he, h⟩ => ⟨_, he, by rw [HD3.out], h⟩)) ?_
              intro v2 w2 ⟨hv2, k2⟩
              subst hv2
              have hS2 : After wr w2 := hS1.trans k2
              clear k2
              refine ⟨hS2, ?_⟩
              refine tk 37 54 (.bool true) (fuel := 1) rfl (by kernel_rfl) (by kernel_rfl) (by kernel_rfl) (by kernel_rfl) noPanic_false (by kernel_rfl) (fun _ _ => by kernel_rfl) hS2 ?_
              refine tk 38 55 (.bool true) (fuel := 0) rfl (by kernel_rfl) (by kernel_rfl) (by kernel_rfl) (by kernel_rfl) noPanic_false (by kernel_rfl) (fun _ _ => by kernel_rfl) hS2 ?_
              refine wpAnyH_done (by kernel_rfl) (NoPanic.normal ?_) _
              have HN : Hid (After w _) := HI.out.aft.trans (hS2)
              have HNL : Hid (¬ rsof la = rsof lb) := fun e => by have h1 := HXY.out; rw [e] at h1; exact HNE.out (Option.some.inj (h1.1.symm.trans h1.2))
              clear hS0
              go_simp
              go_wp2
              refine bodyPost_ret (v := .bool false) (by simp [results, Try.results13, go_sem]) rfl ⟨by rw [decide_eq_false HNL.out], HN.out⟩
          · have HD2 : Hid (decide (bof x.X = bof y.X) = false) := decide_eq_false h2
            have HNE : Hid (¬ rof x = rof y) := fun e => h2 (Prod.mk.inj (Prod.mk.inj e).2).1
            clear h1 h2
            go_wp2
            refine wp_region_noPanic ?_
            refine wp_region_held_drew (S := After wr) (by kernel_rfl) (After.drew (After.refl wr)) ?_
            intro hS0
            refine tk 0 17 (.slice (some ⟨xb, xo, none⟩) n ca) (fuel := 38) rfl (by kernel_rfl) (by kernel_rfl) (by kernel_rfl) (by kernel_rfl) noPanic_false (by kernel_rfl) (fun _ _ => by kernel_rfl) hS0 ?_
            refine tk 1 18 (.int .i64 (i : Int)) (fuel := 37) rfl (by kernel_rfl) (by kernel_rfl) (by kernel_rfl) (by kernel_rfl) noPanic_false (by kernel_rfl) (fun _ _ => by kernel_rfl) hS0 ?_
            refine tk 2 19 (.pointer (some ⟨xb, xo + i * 3, none⟩)) (fuel := 36) rfl (by kernel_rfl) (by kernel_rfl) (by kernel_rfl) (by kernel_rfl) noPanic_false (by kernel_rfl) (fun W _ => x_idx22 (n := n) (c := ca) (x := .tmp 17) (y := .tmp 18) (by kernel_rfl) (by kernel_rfl) (by kernel_rfl) HLT.out) hS0 ?_
            refine tk 3 20 (.pointer (some ⟨xb, xo + i * 3, none⟩)) (fuel := 35) rfl (by kernel_rfl) (by kernel_rfl) (by kernel_rfl) (by kernel_rfl) noPanic_false (by kernel_rfl) (fun _ _ => by kernel_rfl) hS0 ?_
            refine tk 4 21 (.string (strOf x.nm)) (fuel := 34) rfl (by kernel_rfl) (by kernel_rfl) (by kernel_rfl) (by kernel_rfl) noPanic_false (by kernel_rfl) (fun W hW => x_loadT (x := .tmp 20) (t := 9) (g := xb) (j := xo + i * 3 + 0) Try.underlying9 rfl (by kernel_rfl) (by kernel_rfl) (range_after HX.out hW 0 _ rfl)) hS0 ?_
            refine tk 5 22 (.slice (some ⟨yb, yo, none⟩) n cb) (fuel := 33) rfl (by kernel_rfl) (by kernel_rfl) (by kernel_rfl) (by kernel_rfl) noPanic_false (by kernel_rfl) (fun _ _ => by kernel_rfl) hS0 ?_
            refine tk 6 23 (.int .i64 (i : Int)) (fuel := 32) rfl (by kernel_rfl) (by kernel_rfl) (by kernel_rfl) (by kernel_rfl) noPanic_false (by kernel_rfl) (fun _ _ => by kernel_rfl) hS0 ?_
            refine tk 7 24 (.pointer (some ⟨yb, yo + i * 3, none⟩)) (fuel := 31) rfl (by kernel_rfl) (by kernel_rfl) (by kernel_rfl) (by kernel_rfl) noPanic_false (by kernel_rfl) (fun W _ => x_idx22 (n := n) (c := cb) (x := .tmp 22) (y := .tmp 23) (by kernel_rfl) (by kernel_rfl) (by kernel_rfl) HLT.out) hS0 ?_
            refine tk 8 25 (.pointer (some ⟨yb, yo + i * 3, none⟩)) (fuel := 30) rfl (by kernel_rfl) (by kernel_rfl) (by kernel_rfl) (by kernel_rfl) noPanic_false (by kernel_rfl) (fun _ _ => by kernel_rfl) hS0 ?_
            refine tk 9 26 (.string (strOf y.nm)) (fuel := 29) rfl (by kernel_rfl) (by kernel_rfl) (by kernel_rfl) (by kernel_rfl) noPanic_false (by kernel_rfl) (fun W hW => x_loadT (x := .tmp 25) (t := 9) (g := yb) (j := yo + i * 3 + 0) Try.underlying9 rfl (by kernel_rfl) (by kernel_rfl) (range_after HY.out hW 0 _ rfl)) hS0 ?_
            refine tk 10 27 (.bool false) (fuel := 28) rfl (by kernel_rfl) (by kernel_rfl) (by kernel_rfl) (by kernel_rfl) noPanic_false (by kernel_rfl) (fun W _ => (x_ne9 (s := x.nm) (t := y.nm) (x := .tmp 21) (y := .tmp 26) (by kernel_rfl) (by kernel_rfl) (by kernel_rfl)).trans (by rw [HD1.out]; rfl)) hS0 ?_
            refine tk 11 28 (.bool false) (fuel := 27) rfl (by kernel_rfl) (by kernel_rfl) (by kernel_rfl) (by kernel_rfl) noPanic_false (by kernel_rfl) (fun _ _ => by kernel_rfl) hS0 ?_
            refine tk 12 29 (.slice (some ⟨xb, xo, none⟩) n ca) (fuel := 26) rfl (by kernel_rfl) (by kernel_rfl) (by kernel_rfl) (by kernel_rfl) noPanic_false (by kernel_rfl) (fun _ _ => by kernel_rfl) hS0 ?_
            refine tk 13 30 (.int .i64 (i : Int)) (fuel := 25) rfl (by kernel_rfl) (by kernel_rfl) (by kernel_rfl) (by kernel_rfl) noPanic_false (by kernel_rfl) (fun _ _ => by kernel_rfl) hS0 ?_
            refine tk 14 31 (.pointer (some ⟨xb, xo + i * 3, none⟩)) (fuel := 24) rfl (by kernel_rfl) (by kernel_rfl) (by kernel_rfl) (by kernel_rfl) noPanic_false (by kernel_rfl) (fun W _ => x_idx22 (n := n) (c := ca) (x := .tmp 29) (y := .tmp 30) (by kernel_rfl) (by kernel_rfl) (by kernel_rfl) HLT.out) hS0 ?_
            refine tk 15 32 (.pointer (some ⟨xb, xo + i * 3 + 1, none⟩)) (fuel := 23) rfl (by kernel_rfl) (by kernel_rfl) (by kernel_rfl) (by kernel_rfl) noPanic_false (by kernel_rfl) (fun _ _ => by kernel_rfl) hS0 ?_
            refine tk 16 33 (.slice x.ba k x.bc) (fuel := 22) rfl (by kernel_rfl) (by kernel_rfl) (by kernel_rfl) (by kernel_rfl) noPanic_false (by kernel_rfl) (fun W hW => x_loadT (x := .tmp 32) (t := 38) (g := xb) (j := xo + i * 3 + 1) Try.underlying38 rfl (by kernel_rfl) (by kernel_rfl) (range_after HX.out hW 1 _ rfl)) hS0 ?_
            refine tk 17 34 (.slice (some ⟨yb, yo, none⟩) n cb) (fuel := 21) rfl (by kernel_rfl) (by kernel_rfl) (by kernel_rfl) (by kernel_rfl) noPanic_false (by kernel_rfl) (fun _ _ => by kernel_rfl) hS0 ?_
            refine tk 18 35 (.int .i64 (i : Int)) (fuel := 20) rfl (by kernel_rfl) (by kernel_rfl) (by kernel_rfl) (by kernel_rfl) noPanic_false (by kernel_rfl) (fun _ _ => by kernel_rfl) hS0 ?_
            refine tk 19 36 (.pointer (some ⟨yb, yo + i * 3, none⟩)) (fuel := 19) rfl (by kernel_rfl) (by kernel_rfl) (by kernel_rfl) (by kernel_rfl) noPanic_false (by kernel_rfl) (fun W _ => x_idx22 (n := n) (c := cb) (x := .tmp 34) (y := .tmp 35) (by kernel_rfl) (by kernel_rfl) (by kernel_rfl) HLT.out) hS0 ?_
            refine tk 20 37 (.pointer (some ⟨yb, yo + i * 3 + 1, none⟩)) (fuel := 18) rfl (by kernel_rfl) (by kernel_rfl) (by kernel_rfl) (by kernel_rfl) noPanic_false (by kernel_rfl) (fun _ _ => by kernel_rfl) hS0 ?_
            refine tk 21 38 (.slice y.ba q y.bc) (fuel := 17) rfl (by kernel_rfl) (by kernel_rfl) (by kernel_rfl) (by kernel_rfl) noPanic_false (by kernel_rfl) (fun W hW => x_loadT (x := .tmp 37) (t := 38) (g := yb) (j := yo + i * 3 + 1) Try.underlying38 rfl (by kernel_rfl) (by kernel_rfl) (range_after HY.out hW 1 _ rfl)) hS0 ?_
            refine tkCallZ 22 39 25 #[.slice x.ba k x.bc, .slice y.ba q y.bc] (fun v w' => v = .bool false ∧ After wr.drew w') (fuel := 16) rfl (by kernel_rfl) (by kernel_rfl) (by kernel_rfl) (fun _ => by kernel_rfl) ((HC1.out _ (After.drew (After.refl wr))).mono (fun e w' ⟨he, h⟩ => ⟨_, he, by rw [HD2.out], h⟩)) ?_
            intro v1 w1 ⟨hv1, k1⟩
            subst hv1
            have hS1 : After wr w1 := (After.drew (After.refl wr)).trans k1
            clear k1
            refine ⟨hS1, ?_⟩
            refine tk 23 40 (.bool true) (fuel := 15) rfl (by kernel_rfl) (by kernel_rfl) (by kernel_rfl) (by kernel_rfl) noPanic_false (by kernel_rfl) (fun _ _ => by kernel_rfl) hS1 ?_
            refine tk 24 41 (.bool true) (fuel := 14) rfl (by kernel_rfl) (by kernel_rfl) (by kernel_rfl) (by kernel_rfl) noPanic_false (by kernel_rfl) (fun _ _ => by kernel_rfl) hS1 ?_
            refine tk 25 42 (.bool true) (fuel := 13) rfl (by kernel_rfl) (by kernel_rfl) (by kernel_rfl) (by kernel_rfl) noPanic_false (by kernel_rfl) (fun _ _ => by kernel_rfl) hS1 ?_
            refine tkSkip 26 43 (fuel := 12) rfl (by kernel_rfl) (by kernel_rfl) (by kernel_rfl) (by kernel_rfl) noPanic_false (by kernel_rfl) hS1 ?_
            refine tkSkip 27 44 (fuel := 11) rfl (by kernel_rfl) (by kernel_rfl) (by kernel_rfl) (by kernel_rfl) noPanic_false (by kernel_rfl) hS1 ?_
            refine tkSkip 28 45 (fuel := 10) rfl (by kernel_rfl) (by kernel_rfl) (by kernel_rfl) (by kernel_rfl) noPanic_false (by kernel_rfl) hS1 ?_
            refine tkSkip 29 46 (fuel := 9) rfl (by kernel_rfl) (by kernel_rfl) (by kernel_rfl) (by kernel_rfl) noPanic_false (by kernel_rfl) hS1 ?_
            refine tkSkip 30 47 (fuel := 8) rfl (by kernel_rfl) (by kernel_rfl) (by kernel_rfl) (by kernel_rfl) noPanic_false (by kernel_rfl) hS1 ?_
            refine tkSkip 31 48 (fuel := 7) rfl (by kernel_rfl) (by kernel_rfl) (by kernel_rfl) (by kernel_rfl) noPanic_false (by kernel_rfl) hS1 ?_
            refine tkSkip 32 49 (fuel := 6) rfl (by kernel_rfl) (by kernel_rfl) (by kernel_rfl) (by kernel_rfl) noPanic_false (by kernel_rfl) hS1 ?_
            refine tkSkip 33 50 (fuel := 5) rfl (by kernel_rfl) (by kernel_rfl) (by kernel_rfl) (by kernel_rfl) noPanic_false (by kernel_rfl) hS1 ?_
            refine tkSkip 34 51 (fuel := 4) rfl (by kernel_rfl) (by kernel_rfl) (by kernel_rfl) (by kernel_rfl) noPanic_false (by kernel_rfl) hS1 ?_
            refine tkSkip 35 52 (fuel := 3) rfl (by kernel_rfl) (by kernel_rfl) (by kernel_rfl) (by kernel_rfl) noPanic_false (by kernel_rfl) hS1 ?_
            refine tkSkip 36 53 (fuel := 2) rfl (by kernel_rfl) (by kernel_rfl) (by kernel_rfl) (by kernel_rfl) noPanic_false (by kernel_rfl) hS1 ?_
            refine tkSkip 37 54 (fuel := 1) rfl (by kernel_rfl) (by kernel_rfl) (by kernel_rfl) (by kernel_rfl) noPanic_false (by kernel_rfl) hS1 ?_
            refine tk 38 55 (.bool true) (fuel := 0) rfl (by kernel_rfl) (by kernel_rfl) (by kernel_rfl) (by kernel_rfl) noPanic_false (by kernel_rfl) (fun _ _ => by kernel_rfl) hS1 ?_
            refine wpAnyH_done (by kernel_rfl) (NoPanic.normal ?_) _
            have HN : Hid (After w _) := HI.out.aft.trans (hS1)
            have HNL : Hid (¬ rsof la = rsof lb) := fun e => by have h1 := HXY.out; rw [e] at h1; exact HNE.out (Option.some.inj (h1.1.symm.trans h1.2))
            clear hS0
            go_simp
            go_wp2
            refine bodyPost_ret (v := .bool false) (by simp [results, Try.results13, go_sem]) rfl ⟨by rw [decide_eq_false HNL.out], HN.out⟩
        · have HD1 : Hid (decide (x.nm = y.nm) = false) := decide_eq_false h1
          have HNE : Hid (¬ rof x = rof y) := fun e => h1 (Prod.mk.inj e).1
          clear h1
          go_wp2
          refine wp_region_noPanic ?_
          refine wp_region_held_drew (S := After wr) (by kernel_rfl) (After.drew (After.refl wr)) ?_
          intro hS0
          refine tk 0 17 (.slice (some ⟨xb, xo, none⟩) n ca) (fuel := 38) rfl (by kernel_rfl) (by kernel_rfl) (by kernel_rfl) (by kernel_rfl) noPanic_false (by kernel_rfl) (fun _ _ => by kernel_rfl) hS0 ?_
          refine tk 1 18 (.int .i64 (i : Int)) (fuel := 37) rfl (by kernel_rfl) (by kernel_rfl) (by kernel_rfl) (by kernel_rfl) noPanic_false (by kernel_rfl) (fun _ _ => by kernel_rfl) hS0 ?_
          refine tk 2 19 (.pointer (some ⟨xb, xo + i * 3, none⟩)) (fuel := 36) rfl (by kernel_rfl) (by kernel_rfl) (by kernel_rfl) (by kernel_rfl) noPanic_false (by kernel_rfl) (fun W _ => x_idx22 (n := n) (c := ca) (x := .tmp 17) (y := .tmp 18) (by kernel_rfl) (by kernel_rfl) (by kernel_rfl) HLT.out) hS0 ?_
          refine tk 3 20 (.pointer (some ⟨xb, xo + i * 3, none⟩)) (fuel := 35) rfl (by kernel_rfl) (by kernel_rfl) (by kernel_rfl) (by kernel_rfl) noPanic_false (by kernel_rfl) (fun _ _ => by kernel_rfl) hS0 ?_
          refine tk 4 21 (.string (strOf x.nm)) (fuel := 34) rfl (by kernel_rfl) (by kernel_rfl) (by kernel_rfl) (by kernel_rfl) noPanic_false (by kernel_rfl) (fun W hW => x_loadT (x := .tmp 20) (t := 9) (g := xb) (j := xo + i * 3 + 0) Try.underlying9 rfl (by kernel_rfl) (by kernel_rfl) (range_after HX.out hW 0 _ rfl)) hS0 ?_
          refine tk 5 22 (.slice (some ⟨yb, yo, none⟩) n cb) (fuel := 33) rfl (by kernel_rfl) (by kernel_rfl) (by kernel_rfl) (by kernel_rfl) noPanic_false (by kernel_rfl) (fun _ _ => by kernel_rfl) hS0 ?_
          refine tk 6 23 (.int .i64 (i : Int)) (fuel := 32) rfl (by kernel_rfl) (by kernel_rfl) (by kernel_rfl) (by kernel_rfl) noPanic_false (by kernel_rfl) (fun _ _ => by kernel_rfl) hS0 ?_
          refine tk 7 24 (.pointer (some ⟨yb, yo + i * 3, none⟩)) (fuel := 31) rfl (by kernel_rfl) (by kernel_rfl) (by kernel_rfl) (by kernel_rfl) noPanic_false (by kernel_rfl) (fun W _ => x_idx22 (n := n) (c := cb) (x := .tmp 22) (y := .tmp 23) (by kernel_rfl) (by kernel_rfl) (by kernel_rfl) HLT.out) hS0 ?_
          refine tk 8 25 (.pointer (some ⟨yb, yo + i * 3, none⟩)) (fuel := 30) rfl (by kernel_rfl) (by kernel_rfl) (by kernel_rfl) (by kernel_rfl) noPanic_false (by kernel_rfl) (fun _ _ => by kernel_rfl) hS0 ?_
          refine tk 9 26 (.string (strOf y.nm)) (fuel := 29) rfl (by kernel_rfl) (by kernel_rfl) (by kernel_rfl) (by kernel_rfl) noPanic_false (by kernel_rfl) (fun W hW => x_loadT (x := .tmp 25) (t := 9) (g := yb) (j := yo + i * 3 + 0) Try.underlying9 rfl (by kernel_rfl) (by kernel_rfl) (range_after HY.out hW 0 _ rfl)) hS0 ?_
          refine tk 10 27 (.bool true) (fuel := 28) rfl (by kernel_rfl) (by kernel_rfl) (by kernel_rfl) (by kernel_rfl) noPanic_false (by kernel_rfl) (fun W _ => (x_ne9 (s := x.nm) (t := y.nm) (x := .tmp 21) (y := .tmp 26) (by kernel_rfl) (by kernel_rfl) (by kernel_rfl)).trans (by rw [HD1.out]; rfl)) hS0 ?_
          refine tk 11 28 (.bool true) (fuel := 27) rfl (by kernel_rfl) (by kernel_rfl) (by kernel_rfl) (by kernel_rfl) noPanic_false (by kernel_rfl) (fun _ _ => by kernel_rfl) hS0 ?_
          refine tkSkip 12 29 (fuel := 26) rfl (by kernel_rfl) (by kernel_rfl) (by kernel_rfl) (by kernel_rfl) noPanic_false (by kernel_rfl) hS0 ?_
          refine tkSkip 13 30 (fuel := 25) rfl (by kernel_rfl) (by kernel_rfl) (by kernel_rfl) (by kernel_rfl) noPanic_false (by kernel_rfl) hS0 ?_
          refine tkSkip 14 31 (fuel := 24) rfl (by kernel_rfl) (by kernel_rfl) (by kernel_rfl) (by kernel_rfl) noPanic_false (by kernel_rfl) hS0 ?_
          refine tkSkip 15 32 (fuel := 23) rfl (by kernel_rfl) (by kernel_rfl) (by kernel_rfl) (by kernel_rfl) noPanic_false (by kernel_rfl) hS0 ?_
          refine tkSkip 16 33 (fuel := 22) rfl (by kernel_rfl) (by kernel_rfl) (by kernel_rfl) (by kernel_rfl) noPanic_false (by kernel_rfl) hS0 ?_
          refine tkSkip 17 34 (fuel := 21) rfl (by kernel_rfl) (by kernel_rfl) (by kernel_rfl) (by kernel_rfl) noPanic_false (by kernel_rfl) hS0 ?_
          refine tkSkip 18 35 (fuel := 20) rfl (by kernel_rfl) (by kernel_rfl) (by kernel_rfl) (by kernel_rfl) noPanic_false (by kernel_rfl) hS0 ?_
          refine tkSkip 19 36 (fuel := 19) rfl (by kernel_rfl) (by kernel_rfl) (by kernel_rfl) (by kernel_rfl) noPanic_false (by kernel_rfl) hS0 ?_
          refine tkSkip 20 37 (fuel := 18) rfl (by kernel_rfl) (by kernel_rfl) (by kernel_rfl) (by kernel_rfl) noPanic_false (by kernel_rfl) hS0 ?_
          refine tkSkip 21 38 (fuel := 17) rfl (by kernel_rfl) (by kernel_rfl) (by kernel_rfl) (by kernel_rfl) noPanic_false (by kernel_rfl) hS0 ?_
          refine tkSkip 22 39 (fuel := 16) rfl (by kernel_rfl) (by kernel_rfl) (by kernel_rfl) (by kernel_rfl) noPanic_false (by kernel_rfl) hS0 ?_
          refine tkSkip 23 40 (fuel := 15) rfl (by kernel_rfl) (by kernel_rfl) (by kernel_rfl) (by kernel_rfl) noPanic_false (by kernel_rfl) hS0 ?_
          refine tk 24 41 (.bool true) (fuel := 14) rfl (by kernel_rfl) (by kernel_rfl) (by kernel_rfl) (by kernel_rfl) noPanic_false (by kernel_rfl) (fun _ _ => by kernel_rfl) hS0 ?_
          refine tk 25 42 (.bool true) (fuel := 13) rfl (by kernel_rfl) (by kernel_rfl) (by kernel_rfl) (by kernel_rfl) noPanic_false (by kernel_rfl) (fun _ _ => by kernel_rfl) hS0 ?_
          refine tkSkip 26 43 (fuel := 12) rfl (by kernel_rfl) (by kernel_rfl) (by kernel_rfl) (by kernel_rfl) noPanic_false (by kernel_rfl) hS0 ?_
          refine tkSkip 27 44 (fuel := 11) rfl (by kernel_rfl) (by kernel_rfl) (by kernel_rfl) (by kernel_rfl) noPanic_false (by kernel_rfl) hS0 ?_
          refine tkSkip 28 45 (fuel := 10) rfl (by kernel_rfl) (by kernel_rfl) (by kernel_rfl) (by kernel_rfl) noPanic_false (by kernel_rfl) hS0 ?_
          refine tkSkip 29 46 (fuel := 9) rfl (by kernel_rfl) (by kernel_rfl) (by kernel_rfl) (by kernel_rfl) noPanic_false (by kernel_rfl) hS0 ?_
          refine tkSkip 30 47 (fuel := 8) rfl (by kernel_rfl) (by kernel_rfl) (by kernel_rfl) (by kernel_rfl) noPanic_false (by kernel_rfl) hS0 ?_
          refine tkSkip 31 48 (fuel := 7) rfl (by kernel_rfl) (by kernel_rfl) (by kernel_rfl) (by kernel_rfl) noPanic_false (by kernel_rfl) hS0 ?_
          refine tkSkip 32 49 (fuel := 6) rfl (by kernel_rfl) (by kernel_rfl) (by kernel_rfl) (by kernel_rfl) noPanic_false (by kernel_rfl) hS0 ?_
          refine tkSkip 33 50 (fuel := 5) rfl (by kernel_rfl) (by kernel_rfl) (by kernel_rfl) (by kernel_rfl) noPanic_false (by kernel_rfl) hS0 ?_
          refine tkSkip 34 51 (fuel := 4) rfl (by kernel_rfl) (by kernel_rfl) (by kernel_rfl) (by kernel_rfl) noPanic_false (by kernel_rfl) hS0 ?_
          refine tkSkip 35 52 (fuel := 3) rfl (by kernel_rfl) (by kernel_rfl) (by kernel_rfl) (by kernel_rfl) noPanic_false (by kernel_rfl) hS0 ?_
          refine tkSkip 36 53 (fuel := 2) rfl (by kernel_rfl) (by kernel_rfl) (by kernel_rfl) (by kernel_rfl) noPanic_false (by kernel_rfl) hS0 ?_
          refine tkSkip 37 54 (fuel := 1) rfl (by kernel_rfl) (by kernel_rfl) (by kernel_rfl) (by kernel_rfl) noPanic_false (by kernel_rfl) hS0 ?_
          refine tk 38 55 (.bool true) (fuel := 0) rfl (by kernel_rfl) (by kernel_rfl) (by kernel_rfl) (by kernel_rfl) noPanic_false (by kernel_rfl) (fun _ _ => by kernel_rfl) hS0 ?_
          refine wpAnyH_done (by kernel_rfl) (NoPanic.normal ?_) _
          have HN : Hid (After w _) := HI.out.aft.trans (After.drew (After.refl wr))
          have HNL : Hid (¬ rsof la = rsof lb) := fun e => by have h1 := HXY.out; rw [e] at h1; exact HNE.out (Option.some.inj (h1.1.symm.trans h1.2))
          clear hS0
          go_simp
          go_wp2
          refine bodyPost_ret (v := .bool false) (by simp [results, Try.results13, go_sem]) rfl ⟨by rw [decide_eq_false HNL.out], HN.out⟩
      · have hii : ¬ (i : Int) < (n : Int) := by omega
        have HF : Hid (After w wr ∧ rsof la = rsof lb) := ⟨HI.out.aft, eq_of_pre HFA.out.2.2 HFB.out.2.2 (fun j hj => HI.out.pre j (by omega))⟩
        go_wp2
        refine bodyPost_ret (v := .bool true) (by simp [results, Try.results13, go_sem]) rfl ⟨by rw [decide_eq_true HF.out.2], HF.out.1⟩
  · have hnmi : ¬ (n : Int) = (m : Int) := by omega
    have HNE : Hid (¬ rsof la = rsof lb) := fun e => hnm (by rw [← hpa, ← hpb, e])
    go_enter Try.func13, Try.ntmps13
    go_wp2
    refine bodyPost_ret (v := .bool false) (by simp [results, Try.results13, go_sem]) rfl ⟨by rw [decide_eq_false HNE.out], After.refl w⟩
end Go.Proofs.Ytcmcapcagblafaa

namespace Go.Proofs.Ytcmcapcagblafaa
open Go.RowKit Go.Maps Dsk Leb
attribute [local go_sem] Oper.semAt_some
def awX : Rx := ⟨[97], none, 0, [], none, 0, []⟩
theorem awX_at (w : World) : RxAt w awX := ⟨BsAt.nil _ _, SlAt.nil _ _ _, fun x h => (by cases h), by decide, fun y h => (by cases h), by decide, by decide, fun _ => rfl, fun _ => rfl⟩
theorem aw_ok : MOk (rsof [awX]) := by
  refine ⟨by decide, fun r hr => ?_, fun i p q hp hq => ?_⟩
  · rw [show rsof [awX] = [rof awX] from rfl, List.mem_singleton] at hr
    subst hr
    exact ⟨by decide, by decide, by decide, ⟨List.Pairwise.nil, by decide, fun p h => (by cases h)⟩⟩
  · have h1 := (List.getElem?_eq_some_iff.1 hq).1
    simp [rsof] at h1
theorem aw_bytes : ixB (rsof [awX]) = [1, 1, 1, 97, 0, 0] := by
  have h0 : uintB 0 = [0] := by rw [uintB]; rfl
  have h1 : uintB 1 = [1] := by rw [uintB]; rfl
  simp [ixB, rsof, rof, rcB, brsB, hsB, textB, bof, awX, h0, h1]
theorem aw_putE : putE (rsof [awX]) = 0 := putE_ok aw_ok (by rw [aw_bytes]; decide)
theorem aw_gOk : gOk [1, 1, 1, 97, 0, 0] (rsof [awX]) := ⟨by decide, aw_bytes.symm, aw_ok, fun r hr => by
  rw [show rsof [awX] = [rof awX] from rfl, List.mem_singleton] at hr
  subst hr
  exact (awX_at default).r32⟩
set_option maxRecDepth 100000 in
set_option maxHeartbeats 12800000 in
theorem awake8 (w : World) : Calls Try.prog 8 #[] w fun e w' => e = .returned (.bool true) ∧ After w w' := by
  obtain ⟨g, hg⟩ : ∃ g, w.heap.size = g := ⟨_, rfl⟩
  obtain ⟨W0, hW0⟩ : ∃ W0, w.alloc (.cells (rxc awX).toArray 41) = W0 := ⟨_, rfl⟩
  have HA : Hid (After w W0 ∧ RsAt W0 (some ⟨g, 0, none⟩) [awX]) := by
    rw [← hW0, ← hg]
    exact ⟨after_alloc (After.refl w) _, rx_box, fun x hx => by rw [List.mem_singleton.1 hx]; exact awX_at _⟩
  have HP : Hid (Calls Try.prog 10 #[.slice (some ⟨g, 0, none⟩) 1 1] W0 fun e w' => ∃ a c, e = .returned (.tuple #[.slice a 6 c, .int .i64 0]) ∧ BytesAt w' a [1, 1, 1, 97, 0, 0] ∧ 6 ≤ c ∧ After W0 w') := (put10 (X := [awX]) (n := 1) (ca := 1) rfl (by omega) HA.out.2).mono (fun e w' h => by
    rcases h.ans with ⟨_, a, c, k, he, h1, h2, h3⟩ | ⟨h1, _⟩
    · rw [aw_bytes] at h1 h2
      have : k = 6 := by rw [← h1]; rfl
      subst this
      exact ⟨a, c, he, h2, h3, h.aft⟩
    · exact absurd aw_putE h1)
  have HG : Hid (∀ (W : World) (a : Option Addr) (c : Nat), BytesAt W a [1, 1, 1, 97, 0, 0] → 6 ≤ c → Calls Try.prog 14 #[.slice a 6 c] W fun e w' => ∃ b o c', e = .returned (.tuple #[.slice (some ⟨b, o, none⟩) 1 c', .int .i64 0]) ∧ w'.cell? ⟨b, o, none⟩ = some (.string ⟨#[97]⟩) ∧ After W w') := fun W a c hb hc => (get14 (n := 6) (cap := c) rfl hc (by omega) hb).mono (fun e w' h => by
    rcases h.ans with ⟨a2, c2, k2, X, h1, h2, h3, _, h5⟩ | ⟨h1, _⟩
    · have hX := gOk_inj h1 aw_gOk
      have hk : k2 = 1 := by rw [← h3, ← rsof_len X, hX]; rfl
      subst hk
      obtain ⟨x, rfl⟩ : ∃ x, X = [x] := by
        match X, h3 with
        | [x], _ => exact ⟨x, rfl⟩
      have hnm : x.nm = [97] := by
        have h9 : [rof x] = [rof awX] := hX
        injection h9 with h9 _
        exact congrArg Prod.fst h9
      obtain ⟨a3, c3, e3, hs⟩ := h5.at
      injection e3 with e4 _ _
      subst e4
      obtain ⟨b, o, rfl, hr⟩ := hs.sl.at (i := 0) (x := rxc x) rfl
      have hc0 := hr 0 (.string (strOf x.nm)) rfl
      rw [hnm] at hc0
      exact ⟨b, o, c2, h2, hc0, h.aft⟩
    · exact absurd aw_gOk (h1 _))
  have HAR : Hid ((rxc awX).toArray = #[.string ⟨#[97]⟩, .slice none 0 0, .slice none 0 0]) := rfl
  have HW0 : Hid (w.alloc (.cells (rxc awX).toArray 41) = W0) := hW0
  clear hW0
  go_enter Try.func8, Try.ntmps8
  go_wp2_with (first
    | (refine wpList_of_run rfl (x_bs22r (x := .tmp 6) (y := awX) rfl rfl) ?_; rw [HW0.out]; rw [hg])
    | (go_at_call 10; refine Calls.mono HP.out ?_; rintro e w1 ⟨a, c, rfl, hb, hc, ha⟩; have H1 : Hid (BytesAt w1 a [1, 1, 1, 97, 0, 0] ∧ 6 ≤ c ∧ After w w1) := ⟨hb, hc, HA.out.1.trans ha⟩; clear hb hc ha)
    | (go_at_call 14; refine Calls.mono (HG.out _ _ _ H1.out.1 H1.out.2.1) ?_; rintro e w2 ⟨b, o, c2, rfl, hcell, ha⟩; have H2 : Hid (BytesAt w2 a [1, 1, 1, 97, 0, 0] ∧ After w w2) := ⟨H1.out.1.after ha, H1.out.2.2.trans ha⟩; clear ha)
    | (refine wpList_of_run rfl (x_conv (x := .tmp 16) (s := ⟨#[1, 1, 1, 97, 0, 0]⟩) rfl rfl (conv_at (bs := [1, 1, 1, 97, 0, 0]) c H2.out.1)) ?_))
  refine bodyPost_ret (v := .bool true) (by simp [results, Try.results8, go_sem]) rfl ⟨rfl, H2.out.2⟩
end Go.Proofs.Ytcmcapcagblafaa

namespace Go.Proofs.Ytcmcapcagblafaa
open Go.RowKit Go.Maps Dsk Leb
attribute [local go_sem] Oper.semAt_some
theorem put_yes' {la : Option Addr} {ca n : Nat} {X : List Rx} (hl : X.length = n) (hn : n * 72 ≤ 140737488355328) (hp : putE (rsof X) = 0) {k : Nat} (hk : (ixB (rsof X)).length = k) {w : World} (hA : RsAt w la X) : Calls Try.prog 10 #[.slice la n ca] w fun e w' => ∃ a c, e = .returned (.tuple #[.slice a k c, .int .i64 0]) ∧ BytesAt w' a (ixB (rsof X)) ∧ k ≤ c ∧ After w w' :=
  (put10 hl hn hA).mono (fun e w' h => by
    rcases h.ans with ⟨_, a, c, k', he, h1, h2, h3⟩ | ⟨h1, _⟩
    · obtain rfl : k' = k := by rw [← h1, hk]
      exact ⟨a, c, he, h2, h3, h.aft⟩
    · exact absurd hp h1)
theorem put_no' {la : Option Addr} {ca n : Nat} {X : List Rx} (hl : X.length = n) (hn : n * 72 ≤ 140737488355328) (hp : putE (rsof X) ≠ 0) {w : World} (hA : RsAt w la X) : Calls Try.prog 10 #[.slice la n ca] w fun e w' => e = .returned (.tuple #[.slice none 0 0, .int .i64 (putE (rsof X) : Int)]) ∧ After w w' :=
  (put10 hl hn hA).mono (fun e w' h => by
    rcases h.ans with ⟨h1, _⟩ | ⟨_, h2⟩
    · exact absurd h1 hp
    · exact ⟨h2, h.aft⟩)
set_option maxRecDepth 100000 in
set_option maxHeartbeats 25600000 in
theorem puts3 {la : Option Addr} {n ca : Nat} {X : List Rx} (hl : X.length = n) (hn : n < 4611686018427387904) {w : World} (hA : RsAt w la X) : Calls Try.prog 3 #[.slice la n ca] w fun e w' => e = .returned (.bool true) ∧ After w w' := by
  have HL : Hid (RsAt w la X ∧ X.length = n ∧ n < 4611686018427387904) := ⟨hA, hl, hn⟩
  have HF7 : Hid (Calls Try.prog 7 #[.slice la n ca] w fun e w' => e = .returned (.bool (decide (prts X ≤ 600))) ∧ After w w') := few7 hl hn hA
  clear hA hl
  by_cases hf : prts X ≤ 600
  · have HFEW : Hid (decide (prts X ≤ 600) = true) := decide_eq_true hf
    have hn6 : n ≤ 600 := by have := prts_len X; rw [HL.out.2.1] at this; omega
    have HCP : Hid (∀ W, After w W → Calls Try.prog 9 #[.slice la n ca] W fun e w' => ∃ a c Z, e = .returned (.slice a n c) ∧ Z.length = n ∧ RsAt w' a Z ∧ rsof Z = rsof X ∧ After W w') := fun W hW => (copy9 (ca := ca) HL.out.2.1 (by omega) (HL.out.1.after hW)).mono (fun e w' ⟨a, c, Z, he, h1, h2, h3⟩ => by
      obtain ⟨a9, c9, e9, h9⟩ := h1.at
      injection e9 with e1 e2 _
      subst e1
      exact ⟨_, c, Z, he, e2.symm, h9, h2, h3⟩)
    have HSM : Hid (∀ (W : World) (a : Option Addr) (c : Nat) (Z : List Rx), Z.length = n → rsof Z = rsof X → After w W → RsAt W a Z → Calls Try.prog 13 #[.slice a n c, .slice la n ca] W fun e w' => e = .returned (.bool true) ∧ After W w') := fun W a c Z h1 h2 h3 h4 => (rsame13 (ca := c) (cb := ca) h1 HL.out.2.1 (by omega) h4 (HL.out.1.after h3)).mono (fun e w' ⟨he, h⟩ => ⟨by rw [he, decide_eq_true h2], h⟩)
    clear hf
    by_cases hp : putE (rsof X) = 0
    · obtain ⟨B, hB⟩ : ∃ B, ixB (rsof X) = B := ⟨_, rfl⟩
      obtain ⟨k, hk⟩ : ∃ k, B.length = k := ⟨_, rfl⟩
      have HK : Hid (B.length = k) := hk
      have HPZ : Hid (∀ (W : World) (a : Option Addr) (c : Nat) (Z : List Rx), Z.length = n → rsof Z = rsof X → RsAt W a Z → Calls Try.prog 10 #[.slice a n c] W fun e w' => ∃ a c, e = .returned (.tuple #[.slice a k c, .int .i64 0]) ∧ BytesAt w' a B ∧ k ≤ c ∧ After W w') := fun W a c Z h1 h2 h3 => by
        have := put_yes' (ca := c) (k := k) h1 (by omega) (by rw [h2]; exact hp) (by rw [h2, hB]; exact hk) h3
        rw [h2, hB] at this
        exact this
      have HRP : Hid (∀ W, After w W → Calls Try.prog 11 #[.slice la n ca] W fun e w' => ∃ a c, e = .returned (.tuple #[.slice a k c, .int .i64 0]) ∧ BytesAt w' a B ∧ After W w') := fun W hW => (rput11 (ca := ca) HL.out.2.1 HL.out.2.2 (HL.out.1.after hW)).mono (fun e w' h => by
        rcases h.ans with ⟨_, a, c, k', he, h1, h2, _⟩ | ⟨h1, _⟩
        · rw [hB] at h1 h2
          obtain rfl : k' = k := by rw [← h1, hk]
          exact ⟨a, c, he, h2, h.aft⟩
        · exact absurd hp h1)
      have HCK : Hid (∀ (W : World) (a : Option Addr) (c : Nat) (Z : List Rx), Z.length = n → rsof Z = rsof X → RsAt W a Z → Calls Try.prog 12 #[.slice a n c] W fun e w' => e = .returned (.int .i64 0) ∧ After W w') := fun W a c Z h1 h2 h3 => (check12 (ca := c) h1 (by omega) h3).mono (fun e w' ⟨he, h⟩ => ⟨by rw [he, h2, hp]; rfl, h⟩)
      clear hB hk hp
      go_enter Try.func3, Try.ntmps3
      go_wp2_with (first
        | (go_at_call 7; refine Calls.mono HF7.out ?_; rintro e w1 ⟨rfl, ha⟩; rw [HFEW.out]; have H1 : Hid (After w w1) := ha; clear ha)
        | (go_at_call 9; refine Calls.mono (HCP.out _ H1.out) ?_; rintro e w2 ⟨a2, c2, Z, rfl, h1, h2, h3, h4⟩; have H2 : Hid (Z.length = n ∧ RsAt w2 a2 Z ∧ rsof Z = rsof X ∧ After w w2) := ⟨h1, h2, h3, H1.out.trans h4⟩; clear h1 h2 h3 h4)
        | (go_at_call 10; refine Calls.mono (HPZ.out _ _ _ _ H2.out.1 H2.out.2.2.1 H2.out.2.1) ?_; rintro e w3 ⟨a3, c3, rfl, h1, h2, h3⟩; have H3 : Hid (BytesAt w3 a3 B ∧ RsAt w3 a2 Z ∧ After w w3) := ⟨h1, H2.out.2.1.after h3, H2.out.2.2.2.trans h3⟩; clear h1 h2 h3)
        | (go_at_call 11; refine Calls.mono (HRP.out _ H3.out.2.2) ?_; rintro e w4 ⟨a4, c4, rfl, h1, h2⟩; have H4 : Hid (BytesAt w4 a3 B ∧ BytesAt w4 a4 B ∧ RsAt w4 a2 Z ∧ After w w4) := ⟨H3.out.1.after h2, h1, H3.out.2.1.after h2, H3.out.2.2.trans h2⟩
           have hcv1 : (convert 26 9 (.slice a3 k c3)).run Try.prog w4 = .ok (.string (strOf B)) w4 := by have h9 := conv_at c3 H4.out.1; rw [HK.out] at h9; exact h9
           have hcv2 : (convert 26 9 (.slice a4 k c4)).run Try.prog w4 = .ok (.string (strOf B)) w4 := by have h9 := conv_at c4 H4.out.2.1; rw [HK.out] at h9; exact h9
           clear h1 h2)
        | (go_at_call 12; refine Calls.mono (HCK.out _ _ _ _ H2.out.1 H2.out.2.2.1 H4.out.2.2.1) ?_; rintro e w5 ⟨rfl, h1⟩; have H5 : Hid (RsAt w5 a2 Z ∧ After w w5) := ⟨H4.out.2.2.1.after h1, H4.out.2.2.2.trans h1⟩; clear h1)
        | (go_at_call 13; refine Calls.mono (HSM.out _ _ _ _ H2.out.1 H2.out.2.2.1 H5.out.2 H5.out.1) ?_; rintro e w6 ⟨rfl, h1⟩; have H6 : Hid (After w w6) := H5.out.2.trans h1; clear h1)
        | (go_at_call 8; refine Calls.mono (awake8 _) ?_; rintro e w7 ⟨rfl, h1⟩; have H7 : Hid (After w w7) := H6.out.trans h1; clear h1))
      refine bodyPost_ret (v := .bool true) (by simp [results, Try.results3, go_sem]) rfl ⟨rfl, H7.out⟩
    · obtain ⟨E, hE⟩ : ∃ E, putE (rsof X) = E := ⟨_, rfl⟩
      have HPZ : Hid (∀ (W : World) (a : Option Addr) (c : Nat) (Z : List Rx), Z.length = n → rsof Z = rsof X → RsAt W a Z → Calls Try.prog 10 #[.slice a n c] W fun e w' => e = .returned (.tuple #[.slice none 0 0, .int .i64 (E : Int)]) ∧ After W w') := fun W a c Z h1 h2 h3 => by
        have := put_no' (ca := c) h1 (by omega) (by rw [h2]; exact hp) h3
        rw [h2, hE] at this
        exact this
      have HRP : Hid (∀ W, After w W → Calls Try.prog 11 #[.slice la n ca] W fun e w' => e = .returned (.tuple #[.slice none 0 0, .int .i64 (E : Int)]) ∧ After W w') := fun W hW => (rput11 (ca := ca) HL.out.2.1 HL.out.2.2 (HL.out.1.after hW)).mono (fun e w' h => by
        rcases h.ans with ⟨h1, _⟩ | ⟨_, h2⟩
        · exact absurd h1 hp
        · rw [hE] at h2; exact ⟨h2, h.aft⟩)
      have HCK : Hid (∀ (W : World) (a : Option Addr) (c : Nat) (Z : List Rx), Z.length = n → rsof Z = rsof X → RsAt W a Z → Calls Try.prog 12 #[.slice a n c] W fun e w' => e = .returned (.int .i64 (E : Int)) ∧ After W w') := fun W a c Z h1 h2 h3 => (check12 (ca := c) h1 (by omega) h3).mono (fun e w' ⟨he, h⟩ => ⟨by rw [he, h2, hE], h⟩)
      have hcv0 : ∀ W : World, (convert 26 9 (.slice none 0 0)).run Try.prog W = .ok (.string (strOf [])) W := fun W => conv_at (bs := []) 0 (fun h => absurd rfl h)
      clear hp hE
      go_enter Try.func3, Try.ntmps3
      go_wp2_with (first
        | (go_at_call 7; refine Calls.mono HF7.out ?_; rintro e w1 ⟨rfl, ha⟩; rw [HFEW.out]; have H1 : Hid (After w w1) := ha; clear ha)
        | (go_at_call 9; refine Calls.mono (HCP.out _ H1.out) ?_; rintro e w2 ⟨a2, c2, Z, rfl, h1, h2, h3, h4⟩; have H2 : Hid (Z.length = n ∧ RsAt w2 a2 Z ∧ rsof Z = rsof X ∧ After w w2) := ⟨h1, h2, h3, H1.out.trans h4⟩; clear h1 h2 h3 h4)
        | (go_at_call 10; refine Calls.mono (HPZ.out _ _ _ _ H2.out.1 H2.out.2.2.1 H2.out.2.1) ?_; rintro e w3 ⟨rfl, h3⟩; have H3 : Hid (RsAt w3 a2 Z ∧ After w w3) := ⟨H2.out.2.1.after h3, H2.out.2.2.2.trans h3⟩; clear h3)
        | (go_at_call 11; refine Calls.mono (HRP.out _ H3.out.2) ?_; rintro e w4 ⟨rfl, h2⟩; have H4 : Hid (RsAt w4 a2 Z ∧ After w w4) := ⟨H3.out.1.after h2, H3.out.2.trans h2⟩; clear h2)
        | (go_at_call 12; refine Calls.mono (HCK.out _ _ _ _ H2.out.1 H2.out.2.2.1 H4.out.1) ?_; rintro e w5 ⟨rfl, h1⟩; have H5 : Hid (RsAt w5 a2 Z ∧ After w w5) := ⟨H4.out.1.after h1, H4.out.2.trans h1⟩; clear h1)
        | (go_at_call 13; refine Calls.mono (HSM.out _ _ _ _ H2.out.1 H2.out.2.2.1 H5.out.2 H5.out.1) ?_; rintro e w6 ⟨rfl, h1⟩; have H6 : Hid (After w w6) := H5.out.2.trans h1; clear h1)
        | (go_at_call 8; refine Calls.mono (awake8 _) ?_; rintro e w7 ⟨rfl, h1⟩; have H7 : Hid (After w w7) := H6.out.trans h1; clear h1))
      refine bodyPost_ret (v := .bool true) (by simp [results, Try.results3, go_sem]) rfl ⟨rfl, H7.out⟩
  · have HFEW : Hid (decide (prts X ≤ 600) = false) := decide_eq_false hf
    clear hf
    go_enter Try.func3, Try.ntmps3
    go_wp2_with (first
      | (go_at_call 7; refine Calls.mono HF7.out ?_; rintro e w1 ⟨rfl, ha⟩; rw [HFEW.out]; have H1 : Hid (After w w1) := ha; clear ha)
      | (go_at_call 8; refine Calls.mono (awake8 _) ?_; rintro e w7 ⟨rfl, h1⟩; have H7 : Hid (After w w7) := H1.out.trans h1; clear h1))
    refine bodyPost_ret (v := .bool true) (by simp [results, Try.results3, go_sem]) rfl ⟨rfl, H7.out⟩
end Go.Proofs.Ytcmcapcagblafaa

namespace Go.Proofs.Ytcmcapcagblafaa.IndexPuts
open Go.ChangeShapes Go.WideShapes Go.ChangeAt Go.RowKit Leb
open Go.ChangeMaps (open_string)

set_option maxRecDepth 100000 in
/-- What the walk gives, for every argument and every world. -/
theorem contract (H : Type) (enc : TypeId × Value → H) (W : World) (base : Nat) (args : Array Value) (ds gs : List (DataW H)) (before : List MemPlace)
    (hval : ∀ (j : Nat) t v, Try.f3.params[j]? = some t → args[j]? = some v → Value.okWide Try.prog W .any base t v)
    (hW : DataW.Whole enc Try.prog Try.f3.params.toList Rows.indexPutsSpec.vars false W args.toList ds gs before)
    (hsz : (DataW.weightsEach Try.prog (Try.f3.params.toList ++ (OpenSpec.ofChange Rows.indexPutsSpec).bare.plain.varTypes Try.prog) (ds ++ gs)).all (· ≤ reachBytes) = true) :
    Calls Try.prog 3 args W fun e W' => ∃ v, e = .returned v ∧ Rows.indexPutsSpec.post enc Try.prog Try.f3 false true false false W args v W' := by
  have hW' := hW
  obtain ⟨p, q, hA0, hV, rfl, hfz, hnd⟩ := hW
  have hA : DataW.TrodAll enc Try.prog W 0 (fun _ => true) true Try.f3.params.toList args.toList ds p := hA0
  rw [Try.params3] at hA hval hsz
  obtain ⟨v0, vs0, d0, ds0, p0, q0, hargs, rfl, rfl, h0, r0⟩ := trodAll_cons hA
  obtain ⟨rfl, rfl, rfl⟩ := trodAll_nil r0
  obtain rfl : args = #[v0] := by cases args; simp_all
  obtain ⟨rfl, rfl⟩ := trodVars_none hV
  have k0 := h0
  have lt0 : ∀ x ∈ p0, x.block < W.heap.size := by obtain ⟨m, hm⟩ := k0; exact DataW.trod_lt m _ _ _ hm
  obtain ⟨a0, len0, cap0, rfl⟩ := okWide_slice Try.underlying22 (hval 0 22 v0 rfl rfl)
  obtain ⟨l0, hl0, hn0, hb0, hz0⟩ := open_records (hval 0 22 _ rfl rfl) h0 (fun m hm => by have := List.all_eq_true.1 hsz m (DataW.weights_mem_each (j := 0) (t := 22) rfl rfl m hm); simpa using this)
  clear hA0 hA
  refine (puts3 (ca := cap0) hl0 (by omega) hb0).mono fun e W' ⟨he, bel⟩ => ?_
  subst he
  exact ⟨_, rfl, _, _, _, [], _, [], hW', trodAll_mk1 (shut_bool Try.underlying4 _), (trodAll_cons_mk (Below.trod laidOut (by kernel_rfl) (of_decide_eq_true (by kernel_rfl)) k0 bel lt0) (trodAll_mk0)), rfl, bel.frame _, fun h => by cases h⟩

set_option maxRecDepth 100000 in
/-- A world for the witness: the settled one. -/
theorem witness (os : Os) {H : Type} (enc : TypeId × Value → H) : ∃ (w : World) (tape : Tape) (i : Input), w.os = os ∧ (w.forCall tape i).Shaped Try.checked.prog ∧ i.vars = [] ∧ Input.okWide Try.checked.prog (w.forCall tape i) .any w.heap.size 3 i ∧
      (OpenSpec.ofChange Rows.indexPutsSpec).preRow enc Try.checked.prog Try.f3 Rows.indexPutsRow.domain false Rows.indexPutsRow.laid (w.forCall tape i).memory i.args ∧ ({} : Assume).holds Try.checked.prog (lone (Frame.enter Try.checked.prog 3 i.args .normal) [] (w.forCall tape i)) :=
  witness_row_at (enc := enc) (C := Try.checked) false (World.holding Try.prog os ⟨#[], #[], []⟩) #[.slice none 0 0] rfl (by kernel_rfl) (by kernel_rfl) (by kernel_rfl)
    (OpenSpec.preRow_of_cond 8 (x := ([.nil], [], [])) (by kernel_rfl) (by kernel_rfl) (fun k hk => by cases hk) (by kernel_rfl) (laidMet_nil _ _))

set_option maxRecDepth 100000 in
theorem lifted (os : Os) (started : os.Started) (H : Type) (enc : TypeId × Value → H) (F : Stop.Interp) :
    ReturnsInHanded {} Try.checked os 3 .any ((OpenSpec.ofChange Rows.indexPutsSpec).preRow enc Try.prog Try.f3 Rows.indexPutsRow.domain false Rows.indexPutsRow.laid) (((OpenSpec.ofChange Rows.indexPutsSpec).at F).post enc Try.prog Try.f3 false true false false) := by
  refine returnsInHanded_of_row (C := Try.checked) (s := OpenSpec.ofChange Rows.indexPutsSpec) own started (by kernel_rfl) Try.func3 (witness os enc) ?_
  intro W base args ds gs before hval hW _ _ hsz _ _ _
  exact contract H enc W base args ds gs before hval hW hsz

set_option maxRecDepth 100000 in
theorem said : Rows.IndexPutsSaid :=
  OpenClaim.holds_of_cond 3 Try.f3 rfl rfl rfl rfl rfl rfl rfl ⟨rfl, rfl, rfl, rfl, rfl⟩ rfl rfl rfl rfl rfl (by kernel_rfl) Try.func3 (by kernel_rfl)
    (of_decide_eq_true (by kernel_rfl)) (by unfold Func.isWrapper; first | (rw [if_pos (by decide +kernel)]; kernel_rfl) | (rw [if_neg (by decide +kernel)]; exact ⟨rfl, rfl⟩))
    (fun os started H enc _ F => by rw [OpenClaim.pre_eq_preRow]; exact lifted os started H enc F)
end Go.Proofs.Ytcmcapcagblafaa.IndexPuts
namespace Go.Proofs.Ytcmcapcagblafaa
theorem indexPuts_holds : Rows.IndexPutsSaid := IndexPuts.said
end Go.Proofs.Ytcmcapcagblafaa
