/-
  gathered[Branch] (56).
-/
import Derived.Test.YtcmcapcagblafaaXG
namespace Go.Proofs.Ytcmcapcagblafaa
open Go.RowKit Go.Maps Dsk Leb
attribute [local go_sem] Oper.semAt_some
def GaB (w : World) (g m : Nat) (t : List UInt8) (e1 i : Nat) (v : Value) (bs' : List UInt8) (e' : Nat) (wr : World) : Prop := ∃ X : List Bx, X.length = i ∧ (∀ y ∈ X, y.nm.length ≤ 32 ∧ y.l.length ≤ 16) ∧ OwnB wr w.heap.size v X ∧ Stp (pMany pBr i) t e1 (bof X) bs' e' ∧ RdS wr g m bs' e' ∧ But g w wr
def GbT (w : World) (g m : Nat) (bs : List UInt8) (e most : Nat) (x : Ending) (w' : World) : Prop := ∃ a c k X bs' e', x = .returned (.slice a k c) ∧ X.length = k ∧ (∀ y ∈ X, y.nm.length ≤ 32 ∧ y.l.length ≤ 16) ∧ k ≤ most ∧ OwnB w' w.heap.size (.slice a k c) X ∧ Stp (pL most pBr) bs e (bof X) bs' e' ∧ RdS w' g m bs' e' ∧ But g w w'
theorem BrG.at {w w' : World} {g m : Nat} {bs bs' : List UInt8} {e e' : Nat} {y : Bx} (h : BrG w g m bs e y bs' e' w') : BxAt w' y ∧ ∀ ad, y.a = some ad → w.heap.size ≤ ad.block ∧ ad.block < w'.heap.size ∧ RwAt w' ad := by
  obtain ⟨a0, c0, e0, hs⟩ := h.own.sl
  rw [hs_len] at e0
  unfold Bx.v at e0
  injection e0 with e1 _ e3
  have hz : y.a = none → y.c = 0 := fun e => by
    rcases own_row h.own.2 with ⟨h1, _⟩ | ⟨g1, cap, cs, h1, _⟩
    · unfold Bx.v at h1; injection h1
    · unfold Bx.v at h1; rw [e] at h1; injection h1 with h2; cases h2
  refine ⟨⟨by rw [e1]; exact hs, h.l32, hz, by have := h.few; omega⟩, fun ad ha => ?_⟩
  rcases own_row h.own.2 with ⟨h1, _⟩ | ⟨g1, cap, cs, h1, h2, h3, _⟩
  · unfold Bx.v at h1; rw [ha] at h1; injection h1 with h2; cases h2
  · unfold Bx.v at h1; rw [ha] at h1; injection h1 with h4
    cases h4
    exact ⟨h2, h3.lt, rfl, rfl, cs, h3⟩
theorem OwnB.val {w : World} {base : Nat} {v : Value} {X : List Bx} (h : OwnB w base v X) {n : Nat} (hn : X.length = n) : ∃ a c, v = .slice a n c ∧ (a = none → c = 0) := h.row.val (by rw [bs_len]; exact hn)
theorem gaB_step {w w3 : World} {g m : Nat} {t : List UInt8} {e1 i : Nat} {v : Value} {b1 b2 : List UInt8} {e2 : Nat} {wr : World} {y : Bx} (hgm : m ≤ w.heap.size) (h : GaB w g m t e1 i v b1 0 wr) (hk : BrG wr g m b1 0 y b2 e2 w3) (hi : (i + 1) * 40 ≤ 140737488355328) :
    ∃ a c va vc w6, v = .slice a i c ∧ (Builtin.append_ #[38, 38] 38 #[.slice a i c, .slice (some ⟨w3.heap.size, 0, none⟩) 1 1]).run Try.prog (w3.alloc (.cells (brc y).toArray 65)) = .ok (.slice va (i + 1) vc) w6 ∧ GaB w g m t e1 (i + 1) (.slice va (i + 1) vc) b2 e2 w6 := by
  obtain ⟨X, h1, h2, h3, h4, h5, h6⟩ := h
  obtain ⟨a, c, rfl, _⟩ := h3.val h1
  obtain ⟨hy1, hy2⟩ := hk.at
  have hg : g < w.heap.size := Nat.lt_of_lt_of_le h5.gm hgm
  have hs6 := h6.size
  have hsb := hk.but.size
  have o2 := h3.but hk.but hg
  have o3 := o2.after (after_alloc (After.refl w3) (.cells (brc y).toArray 65))
  obtain ⟨va, vc, w6, r1, r2, r3, r4⟩ := run_appB 38 o3 (Y := [y]) (m := 1) (c := 1) rfl hy1.box (by omega) (by simp; omega) (fun e => by cases e)
  rw [h1] at r1 r2 r4
  refine ⟨a, c, va, vc, w6, rfl, r1, X ++ [y], by simp [h1], fun z hz => ?_, o3.grow (fun z hz => ?_) r2 r3 r4, ?_, (hk.rd.after (after_alloc (After.refl w3) _)).grown r3 (fun b e => by have := (own_lt o3.row.2 e).1; omega), ?_⟩
  · rcases List.mem_append.1 hz with hz | hz
    · exact h2 z hz
    · rw [List.mem_singleton.1 hz]; exact ⟨hk.nm, hk.few⟩
  · rw [List.mem_singleton.1 hz]
    refine ⟨hy1.after (after_alloc (After.refl w3) _), fun ad e => ?_⟩
    obtain ⟨q1, q2, q3⟩ := hy2 ad e
    refine ⟨by omega, by simp; omega, fun e' => ?_, q3.same (Below.heap_alloc w3 _ _ q2)⟩
    have := (own_lt h3.row.2 e').2.1
    omega
  · rw [bof_snoc]; exact h4.succ hk.stp
  · have hA := (h6.trans hk.but).trans (But.of_below (after_alloc (After.refl w3) (.cells (brc y).toArray 65)))
    refine ⟨r3.os.trans hA.os, r3.tape.trans hA.tape, r3.output.trans hA.output, Nat.le_trans hA.size r3.size, fun k hk' hne => ?_⟩
    rw [r3.block k (Nat.lt_of_lt_of_le hk' hA.size) (fun e => by have := (own_lt o3.row.2 e.symm).1; omega)]
    exact hA.block k hk' hne
set_option maxRecDepth 100000 in
set_option maxHeartbeats 6400000 in
theorem gather56 {w : World} {g m p0 : Nat} {bs : List UInt8} {e : Nat} (h : RdS w g m bs e) (hc : w.cell? ⟨p0, 0, none⟩ = some (.pointer (some ⟨g, 0, none⟩))) (hpg : p0 ≠ g) : Calls Try.prog 56 #[.pointer (some ⟨g, 0, none⟩), .int .u64 64, .func (.func 57) #[] #[.pointer (some ⟨p0, 0, none⟩)]] w (GbT w g m bs e 64) := by
  have HR : Hid (RdS w g m bs e ∧ w.cell? ⟨p0, 0, none⟩ = some (.pointer (some ⟨g, 0, none⟩)) ∧ p0 ≠ g) := ⟨h, hc, hpg⟩
  clear h hc hpg
  go_enter Try.func56, Try.ntmps56
  go_wp2_with (go_at_call 73; refine (uint73 64 HR.out.1).mono ?_; rintro x w1 ⟨n, t, e1, rfl, hn, hs, hr, hb⟩
               have H1 : Hid (n ≤ 64 ∧ Stp (pN 64) bs e n t e1 ∧ RdS w1 g m t e1 ∧ But g w w1) := ⟨hn, hs, hr, hb⟩
               clear hn hs hr hb)
  have hn63 : n < 9223372036854775808 := by have := H1.out.1; omega
  go_loopw [7, 11] (fun v iv wr => ∃ (i : Nat) (b' : List UInt8) (e' : Nat), i ≤ n ∧ iv = .int .u64 (i : Int) ∧ Hid (GaB w g m t e1 i v b' e' wr)) (fun _ iv _ => n - (intOf iv).toNat)
  case atStart => exact ⟨0, t, e1, Nat.zero_le _, rfl, [], rfl, fun y hy => (by cases hy), OwnB.nil _ _, Stp.zero t e1, H1.out.2.2.1, H1.out.2.2.2⟩
  case round =>
    obtain ⟨i, b', e', hin, rfl, HI⟩ := hrel
    obtain ⟨v, rfl⟩ : ∃ v, v = u7 := ⟨_, rfl⟩
    by_cases hlt : i < n
    · have hii : (i : Int) < (n : Int) := by omega
      have hib : (i + 1) * 40 ≤ 140737488355328 := by have := H1.out.1; omega
      have hi63 : i + 1 < 9223372036854775808 := by omega
      have HE60 : Hid (Calls Try.prog 60 #[.pointer (some ⟨g, 0, none⟩)] wr fun x w' => x = .returned (.int .i64 (e' : Int)) ∧ w' = wr) := by
        obtain ⟨l, _, _, _, _, h5, _⟩ := HI.out
        exact err60 h5
      have HIB : Hid ((i + 1) * 40 ≤ 140737488355328) := hib
      clear hib
      by_cases he : e' = 0
      · subst he
        have HH : Hid (Calls Try.prog 57 #[.pointer (some ⟨p0, 0, none⟩)] wr (BrT wr g m b' 0)) := by
          obtain ⟨l, _, _, _, _, h5, h6⟩ := HI.out
          exact clo57 h5 (h6.cell HR.out.2.2 HR.out.2.1) HR.out.2.2
        go_wp2_with (first
          | (go_at_call 60; refine Calls.mono HE60.out ?_; rintro x w9 ⟨rfl, hw9⟩; rw [hw9]; clear hw9 w9)
          | (go_at_call 57; refine Calls.mono HH.out ?_; rintro x w3 ⟨y, b2, e2, rfl, hy⟩
             obtain ⟨a, c, va, vc, w6, hv, hr6, hg6⟩ := gaB_step HR.out.1.mw HI.out hy HIB.out
             subst hv
             have H6 : Hid (GaB w g m t e1 (i + 1) (.slice va (i + 1) vc) b2 e2 w6) := hg6
             have H6R : Hid ((Builtin.append_ #[38, 38] 38 #[.slice a i c, .slice (some ⟨w3.heap.size, 0, none⟩) 1 1]).run Try.prog (w3.alloc (.cells (brc y).toArray 65)) = .ok (.slice va (i + 1) vc) w6) := hr6
             clear hy hr6 hg6)
          | (refine wpList_of_run rfl (x_bs25 (x := .tmp 18) (u := .string (strOf y.nm)) (v := y.v) rfl rfl) ?_)
          | (refine wpList_of_run rfl (x_app (t := 38) (s := .tmp 16) (x := .tmp 19) rfl rfl rfl H6R.out) ?_))
        go_roundw
        case rel => exact ⟨i + 1, b2, e2, by omega, by go_num, H6⟩
        case measure => simp [intOf]; omega
      · have hne : ¬ (e' : Int) = 0 := by omega
        have HF : Hid (GaB w g m t e1 i v b' e' wr ∧ e' ≠ 0 ∧ i ≤ n) := ⟨HI.out, he, hin⟩
        go_wp2_with (go_at_call 60; refine Calls.mono HE60.out ?_; rintro x w9 ⟨rfl, hw9⟩; rw [hw9]; clear hw9 w9)
        go_ret
        obtain ⟨⟨l, h1, h2, h3, h4, h5, h6⟩, h7, h8⟩ := HF.out
        obtain ⟨a, c, rfl, _⟩ := h3.val h1
        exact ⟨a, c, i, l, b', e', rfl, h1, h2, Nat.le_trans h8 H1.out.1, h3, H1.out.2.1.list h4 (.inr ⟨h7, h8⟩), h5, h6⟩
    · have hii : ¬ (i : Int) < (n : Int) := by omega
      have HF : Hid (GaB w g m t e1 i v b' e' wr ∧ i = n) := ⟨HI.out, by omega⟩
      go_wp2
      go_ret
      obtain ⟨⟨l, h1, h2, h3, h4, h5, h6⟩, h7⟩ := HF.out
      obtain ⟨a, c, rfl, _⟩ := h3.val h1
      exact ⟨a, c, i, l, b', e', rfl, h1, h2, by have := H1.out.1; omega, h3, H1.out.2.1.list h4 (.inl h7), h5, h6⟩
end Go.Proofs.Ytcmcapcagblafaa
