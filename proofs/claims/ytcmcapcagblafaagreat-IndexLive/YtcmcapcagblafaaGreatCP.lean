/-
  THE REFERENCE'S COPY (16).
-/
import Derived.Test.YtcmcapcagblafaaGreatRL
namespace Go.Proofs.YtcmcapcagblafaaGreat
open Go.RowKit Go.Maps Dsk
attribute [local go_sem] Oper.semAt_some
theorem cp_step {w wr w4 : World} {S : Tb} {i g c' vc : Nat} {va a' : Option Addr} {Z : List Bx} (h : LsI w S i (.slice va i vc) Z wr) {nm : Dsk.Nm} {l : List H} (hS : S[i]? = some (nm, l)) (hi : (i + 1) * 40 ≤ 140737488355328) (ho : OwnB w4 wr.heap.size (.slice (some ⟨g, 0, none⟩) 1 1) [⟨nm, a', c', l⟩]) (ha : After wr w4) :
    ∃ vb vd w6 Z', (Builtin.append_ #[30, 30] 30 #[.slice va i vc, .slice (some ⟨g, 0, none⟩) 1 1]).run Tryz.prog w4 = .ok (.slice vb (i + 1) vd) w6 ∧ KeptF (fun b => (Value.slice va i vc).ownBlock = some b) w4 w6 ∧ LsI w S (i + 1) (.slice vb (i + 1) vd) Z' w6 := by
  have hZ : Z.length = i := by
    obtain ⟨a, c, e, _⟩ := h.own.at
    injection e with _ e2 _
    exact e2.symm
  obtain ⟨ay, cy, ey, hy⟩ := ho.at
  simp only [List.length_singleton] at ey
  injection ey with e1 _ e3
  subst e1 e3
  have o4 := h.own.after ha
  have s4 := ha.size
  have s0 := h.aft.size
  obtain ⟨vb, vd, w6, r1, r2, r3, r4⟩ := run_appB 30 o4 (Y := [⟨nm, a', c', l⟩]) (m := 1) (c := 1) rfl hy (by omega) (by omega) (fun e => by cases e)
  rw [hZ] at r1 r2 r4
  refine ⟨vb, vd, w6, Z ++ [⟨nm, a', c', l⟩], r1, KeptF.of_grown r3 (fun b h => h), after_grown (h.aft.trans ha) r3 (by omega) (fun k hk => (own_lt o4.row.2 hk).1), o4.grow (fun y hy' => ?_) r2 r3 r4, ?_⟩
  · rw [List.mem_singleton] at hy'
    subst hy'
    refine ⟨ho.each _ (by simp), fun ad e => ?_⟩
    obtain ⟨h1, h2, _, h4⟩ := ho.ge _ (List.mem_singleton.2 rfl) ad e
    refine ⟨by omega, h2, fun e' => ?_, h4⟩
    have := h.own.lt e'
    omega
  · rw [bof_snoc, h.pre, List.take_add_one, hS]; rfl
theorem LsI.drew {w wr : World} {S : Tb} {i : Nat} {v : Value} {Z : List Bx} (h : LsI w S i v Z wr) : LsI w S i v Z wr.drew := ⟨After.drew h.aft, h.own.after (After.drew (After.refl wr)), h.pre⟩
set_option maxRecDepth 100000 in
set_option maxHeartbeats 6400000 in
theorem rcopy16 {la : Option Addr} {ca n : Nat} {X : List Bx} (hl : X.length = n) (hn : n * 40 ≤ 140737488355328) {w : World} (hA : BsAt w la X) : Calls Tryz.prog 21 #[.slice la n ca] w fun e w' => ∃ a c Z, e = .returned (.slice a n c) ∧ OwnB w' w.heap.size (.slice a n c) Z ∧ bof Z = bof X ∧ After w w' := by
  have HL : Hid (BsAt w la X ∧ X.length = n) := ⟨hA, hl⟩
  clear hA hl
  go_enter Tryz.func21, Tryz.ntmps21
  go_wp2
  go_loopw [3, 4] (fun v iv wr => ∃ (i : Nat) (va : Option Addr) (vc : Nat) (Z : List Bx), i ≤ n ∧ v = .slice va i vc ∧ iv = .int .i64 (i : Int) ∧ Hid (LsI w (bof X) i (.slice va i vc) Z wr)) (fun _ iv _ => n - (intOf iv).toNat)
  case atStart => exact ⟨0, none, 0, [], Nat.zero_le _, rfl, rfl, After.refl _, OwnB.nil _ _, by simp [bof]⟩
  case round =>
    obtain ⟨i, va, vc, Z, hin, rfl, rfl, HP⟩ := hrel
    by_cases hlt : i < n
    · have hii : (i : Int) < (n : Int) := by omega
      have HLT : Hid (i < n) := hlt
      obtain ⟨x, hx⟩ : ∃ x, X[i]? = some x := ⟨_, List.getElem?_eq_getElem (by rw [HL.out.2]; exact hlt)⟩
      have hxb := HL.out.1.each x (List.mem_of_getElem? hx)
      obtain ⟨xb, xo, hla, hlr⟩ := HL.out.1.sl.at (bs_get hx)
      subst hla
      obtain ⟨p, hp⟩ : ∃ p, x.l.length = p := ⟨_, rfl⟩
      have hxlt : xb < w.heap.size := range_lt hlr (by simp [brc])
      have HX : Hid (wr.rangeAt xb (xo + i * 2) [.string (strOf x.nm), .slice x.a p x.c]) := by have := range_after hlr HP.out.aft; unfold brc Bx.v at this; rw [hp] at this; exact this
      have HBO : Hid ((bof X)[i]? = some (x.nm, x.l)) := bof_get hx
      have HNE : Hid (¬ (Value.slice va i vc).ownBlock = some xb) := fun e => by have := (own_lt HP.out.own.row.2 e).1; omega
      have HXA : Hid (BxAt w x ∧ x.l.length = p) := ⟨hxb, hp⟩
      have C32 : Hid (∀ W, After w W → Calls Tryz.prog 33 #[.string (strOf x.nm), .slice x.a p x.c] W fun e w' => ∃ g a' c', e = .returned (.slice (some ⟨g, 0, none⟩) 1 1) ∧ OwnB w' W.heap.size (.slice (some ⟨g, 0, none⟩) 1 1) [⟨x.nm, a', c', x.l⟩] ∧ After W w') := fun W hW => own32 HXA.out.1.l32 HXA.out.2 (by have := HXA.out.1.fit; rw [HXA.out.2] at this; exact this) HXA.out.1.z (HXA.out.1.sl.after hW)
      clear hx hxb hlr hp hxlt
      go_wp2
      refine wp_region_noPanic ?_
      refine wp_region_held_drew (S := KeptF (fun b => (Value.slice va i vc).ownBlock = some b) wr) (by kernel_rfl) (KeptF.of_after (After.drew (After.refl wr))) ?_
      intro hS0
      refine tk 0 11 (.slice va i vc) (fuel := 13) rfl (by kernel_rfl) (by kernel_rfl) (by kernel_rfl) (by kernel_rfl) noPanic_false (by kernel_rfl) (fun _ _ => by kernel_rfl) hS0 ?_
      refine tk 1 12 (.slice (some ⟨xb, xo, none⟩) n ca) (fuel := 12) rfl (by kernel_rfl) (by kernel_rfl) (by kernel_rfl) (by kernel_rfl) noPanic_false (by kernel_rfl) (fun _ _ => by kernel_rfl) hS0 ?_
      refine tk 2 13 (.int .i64 (i : Int)) (fuel := 11) rfl (by kernel_rfl) (by kernel_rfl) (by kernel_rfl) (by kernel_rfl) noPanic_false (by kernel_rfl) (fun _ _ => by kernel_rfl) hS0 ?_
      refine tk 3 14 (.pointer (some ⟨xb, xo + i * 2, none⟩)) (fuel := 10) rfl (by kernel_rfl) (by kernel_rfl) (by kernel_rfl) (by kernel_rfl) noPanic_false (by kernel_rfl) (fun W _ => x_idx25 (n := n) (c := ca) (x := .tmp 12) (y := .tmp 13) (by kernel_rfl) (by kernel_rfl) (by kernel_rfl) HLT.out) hS0 ?_
      refine tk 4 15 (.pointer (some ⟨xb, xo + i * 2, none⟩)) (fuel := 9) rfl (by kernel_rfl) (by kernel_rfl) (by kernel_rfl) (by kernel_rfl) noPanic_false (by kernel_rfl) (fun _ _ => by kernel_rfl) hS0 ?_
      refine tk 5 16 (.string (strOf x.nm)) (fuel := 8) rfl (by kernel_rfl) (by kernel_rfl) (by kernel_rfl) (by kernel_rfl) noPanic_false (by kernel_rfl) (fun W hW => x_loadT (x := .tmp 15) (t := 9) (g := xb) (j := xo + i * 2 + 0) Tryz.underlying9 rfl (by kernel_rfl) (by kernel_rfl) (range_kept HX.out hW HNE.out 0 _ rfl)) hS0 ?_
      refine tk 6 17 (.slice (some ⟨xb, xo, none⟩) n ca) (fuel := 7) rfl (by kernel_rfl) (by kernel_rfl) (by kernel_rfl) (by kernel_rfl) noPanic_false (by kernel_rfl) (fun _ _ => by kernel_rfl) hS0 ?_
      refine tk 7 18 (.int .i64 (i : Int)) (fuel := 6) rfl (by kernel_rfl) (by kernel_rfl) (by kernel_rfl) (by kernel_rfl) noPanic_false (by kernel_rfl) (fun _ _ => by kernel_rfl) hS0 ?_
      refine tk 8 19 (.pointer (some ⟨xb, xo + i * 2, none⟩)) (fuel := 5) rfl (by kernel_rfl) (by kernel_rfl) (by kernel_rfl) (by kernel_rfl) noPanic_false (by kernel_rfl) (fun W _ => x_idx25 (n := n) (c := ca) (x := .tmp 17) (y := .tmp 18) (by kernel_rfl) (by kernel_rfl) (by kernel_rfl) HLT.out) hS0 ?_
      refine tk 9 20 (.pointer (some ⟨xb, xo + i * 2 + 1, none⟩)) (fuel := 4) rfl (by kernel_rfl) (by kernel_rfl) (by kernel_rfl) (by kernel_rfl) noPanic_false (by kernel_rfl) (fun _ _ => by kernel_rfl) hS0 ?_
      refine tk 10 21 (.slice x.a p x.c) (fuel := 3) rfl (by kernel_rfl) (by kernel_rfl) (by kernel_rfl) (by kernel_rfl) noPanic_false (by kernel_rfl) (fun W hW => x_loadT (x := .tmp 20) (t := 26) (g := xb) (j := xo + i * 2 + 1) Tryz.underlying26 rfl (by kernel_rfl) (by kernel_rfl) (range_kept HX.out hW HNE.out 1 _ rfl)) hS0 ?_
      refine tkCallZ 11 22 33 #[.string (strOf x.nm), .slice x.a p x.c] (fun v w' => ∃ g a' c', v = .slice (some ⟨g, 0, none⟩) 1 1 ∧ OwnB w' wr.drew.heap.size (.slice (some ⟨g, 0, none⟩) 1 1) [⟨x.nm, a', c', x.l⟩] ∧ After wr.drew w') (fuel := 2) rfl (by kernel_rfl) (by kernel_rfl) (by kernel_rfl) (fun _ => by kernel_rfl) ((C32.out wr.drew (After.drew HP.out.aft)).mono (fun e w' ⟨g, a', c', he, ho, ha⟩ => ⟨_, he, g, a', c', rfl, ho, ha⟩)) ?_
      intro v1 w4 ⟨g5, a5, c5, hv5, ho5, ha5⟩
      subst hv5
      have hk4 : KeptF (fun b => (Value.slice va i vc).ownBlock = some b) wr w4 := KeptF.of_after ((After.drew (After.refl wr)).trans ha5)
      refine ⟨hk4, ?_⟩
      obtain ⟨vb, vd, w6, Z', hr6, hk6, hN6⟩ := cp_step HP.out.drew HBO.out (by omega) ho5 ha5
      have hk46 := hk4.trans hk6 (fun _ _ h => h)
      refine tkRunS 12 23 (.slice vb (i + 1) vd) (w6) (fuel := 1) rfl (by kernel_rfl) (by kernel_rfl) (by kernel_rfl) (x_app (t := 30) (s := .tmp 11) (x := .tmp 22) rfl (by kernel_rfl) (by kernel_rfl) hr6) (hk46) ?_
      refine tk 13 3 (.slice vb (i + 1) vd) (fuel := 0) rfl (by kernel_rfl) (by kernel_rfl) (by kernel_rfl) (by kernel_rfl) noPanic_false (by kernel_rfl) (fun _ _ => by kernel_rfl) hk46 ?_
      refine wpAnyH_done (by kernel_rfl) (NoPanic.normal ?_) _
      have HN := show Hid _ from hN6
      clear hS0 ho5 ha5 hk4 hr6 hk6 hN6 hk46
      go_simp
      go_wp2
      go_roundw
      case rel => exact ⟨i + 1, vb, vd, Z', by omega, rfl, by go_num, HN⟩
      case measure => simp [intOf]; omega
    · have hii : ¬ (i : Int) < (n : Int) := by omega
      obtain rfl : i = n := by omega
      have hfull : bof Z = bof X := by rw [HP.out.pre, List.take_of_length_le]; rw [bof_len, HL.out.2]; exact Nat.le_refl _
      have HF := show Hid _ from hfull
      clear hfull
      go_wp2
      go_ret
      exact ⟨va, vc, rfl, Z, HP.out.own, HF.out, HP.out.aft⟩
end Go.Proofs.YtcmcapcagblafaaGreat
