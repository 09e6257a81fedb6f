/-
  gathered[Hash] (58).
-/
import Derived.Test.YtcmcapcagblafaaXE
namespace Go.Proofs.Ytcmcapcagblafaa
open Go.RowKit Go.Maps Dsk Leb
attribute [local go_sem] Oper.semAt_some
/-- What the loop keeps: hashes of one's own. -/
def GaH (w : World) (g m : Nat) (t : List UInt8) (e1 i : Nat) (v : Value) (bs' : List UInt8) (e' : Nat) (wr : World) : Prop := ∃ l : List H, l.length = i ∧ All32 l ∧ OwnL wr w.heap.size 43 32 v (hsL l) ∧ Stp (pMany pX i) t e1 l bs' e' ∧ RdS wr g m bs' e' ∧ But g w wr
/-- What gathered tells. -/
def GhT (w : World) (g m : Nat) (bs : List UInt8) (e most : Nat) (x : Ending) (w' : World) : Prop := ∃ a c k l bs' e', x = .returned (.slice a k c) ∧ l.length = k ∧ All32 l ∧ k ≤ most ∧ OwnL w' w.heap.size 43 32 (.slice a k c) (hsL l) ∧ Stp (pHs most) bs e l bs' e' ∧ RdS w' g m bs' e' ∧ But g w w'
theorem slAt_one {w : World} {h : H} (hl : h.length = 32) : SlAt (w.alloc (.cells (c8 h).toArray 43)) 32 (some ⟨w.heap.size, 0, none⟩) (hsL [h]) :=
  ⟨uni_hs (fun x hx => by rw [List.mem_singleton.1 hx]; exact hl), fun _ => ⟨_, _, rfl, fun j u hu => by
    have := (RowIs.new w 43 (c8 h)).cell (j := j) (v := u) (by simpa [hsL] using hu)
    rw [Nat.zero_add]; exact this⟩⟩
theorem OwnL.but {w w' : World} {base g : Nat} {t : TypeId} {k : Nat} {v : Value} {L : List (List Value)} (h : OwnL w base t k v L) (hb : But g w w') (hg : g < base) : OwnL w' base t k v L :=
  h.same (fun b e => by obtain ⟨h1, h2, _⟩ := own_lt h.2 e; exact hb.block b h2 (by omega))
theorem OwnL.val {w : World} {base : Nat} {t : TypeId} {k : Nat} {v : Value} {L : List (List Value)} (h : OwnL w base t k v L) {n : Nat} (hn : L.length = n) : ∃ a c, v = .slice a n c ∧ (a = none → c = 0) := by
  rcases own_row h.2 with ⟨e, h0, _⟩ | ⟨g, cap, cs, e, _⟩
  · exact ⟨none, 0, by rw [e, ← hn, h0], fun _ => rfl⟩
  · exact ⟨_, _, by rw [e, hn], fun e' => by cases e'⟩
/-- One more. -/
theorem gaH_step {w w3 : World} {g m : Nat} {t : List UInt8} {e1 i : Nat} {v : Value} {b1 b2 : List UInt8} {e2 : Nat} {wr : World} {y : H} (hgm : m ≤ w.heap.size) (h : GaH w g m t e1 i v b1 0 wr) (hy : y.length = 32) (hk : Stp pX b1 0 y b2 e2) (hr : RdS w3 g m b2 e2) (hb : But g wr w3) (hi : (i + 1) * 32 ≤ 140737488355328) :
    ∃ a c va vc w6, v = .slice a i c ∧ (Builtin.append_ #[39, 39] 39 #[.slice a i c, .slice (some ⟨w3.heap.size, 0, none⟩) 1 1]).run Try.prog (w3.alloc (.cells (c8 y).toArray 43)) = .ok (.slice va (i + 1) vc) w6 ∧ GaH w g m t e1 (i + 1) (.slice va (i + 1) vc) b2 e2 w6 := by
  obtain ⟨l, h1, h2, h3, h4, h5, h6⟩ := h
  obtain ⟨a, c, rfl, _⟩ := h3.val (n := i) (by rw [hs_len]; exact h1)
  have hg : g < w.heap.size := Nat.lt_of_lt_of_le h5.gm hgm
  have o3 : OwnL (w3.alloc (.cells (c8 y).toArray 43)) w.heap.size 43 32 (.slice a i c) (hsL l) := (h3.but hb hg).same (fun b e => by
    have := (own_lt (h3.but hb hg).2 e).2.1
    exact Below.heap_alloc w3 _ b this)
  obtain ⟨q, hq, hz0⟩ := Option.map_eq_some_iff.1 info50
  simp only [Prod.mk.injEq] at hz0
  obtain ⟨hz1, hz2, hz3⟩ := hz0
  have hs6 := h6.size
  have hsb := hb.size
  obtain ⟨va, vc, w6, r1, r2, r3, _⟩ := run_appL (t := 39) 39 43 32 32 Try.underlying39 hq hz1 hz2 hz3 (by simp [Value.cells]) (by omega) o3 (N := hsL [y]) (m := 1) (c := 1) rfl (slAt_one hy) (hs_one _) (by rw [hs_len, h1]; unfold maxLen; omega) (by rw [hs_len, h1]; exact hi) (by simp; omega) (fun e => by cases e)
  rw [hs_len, h1] at r1 r2
  refine ⟨a, c, va, vc, w6, rfl, r1, l ++ [y], by simp [h1], fun x hx => ?_, by unfold hsL at r2 ⊢; rw [List.map_append]; exact r2, h4.succ hk, (hr.after (after_alloc (After.refl w3) _)).grown r3 (fun b e => by have := (own_lt o3.2 e).1; omega), ?_⟩
  · rcases List.mem_append.1 hx with hx | hx
    · exact h2 x hx
    · rw [List.mem_singleton.1 hx]; exact hy
  · have hA := (h6.trans hb).trans (But.of_below (after_alloc (After.refl w3) (.cells (c8 y).toArray 43)))
    refine ⟨r3.os.trans hA.os, r3.tape.trans hA.tape, r3.output.trans hA.output, Nat.le_trans hA.size r3.size, fun k hk hne => ?_⟩
    rw [r3.block k (Nat.lt_of_lt_of_le hk hA.size) (fun e => by have := (own_lt o3.2 e.symm).1; omega)]
    exact hA.block k hk hne
theorem x_bs39 {oi : Oper} {a : Act} {w : World} {x : Operand} {y : H} (hy : y.length = 32) (hop : oi.op = .buildSlice 39 1 #[(0, x)]) (hx : a.eval x = .agg (c8 y).toArray) : (execOp a.eval oi).run Try.prog w = .ok (.value (.slice (some ⟨w.heap.size, 0, none⟩) 1 1)) (w.alloc (.cells (c8 y).toArray 43)) := by
  have hb := bs22 w hy
  unfold hv at hb
  unfold execOp
  simp [hop, hx, hb]
set_option maxRecDepth 100000 in
set_option maxHeartbeats 6400000 in
theorem gather58 {w : World} {g m : Nat} {bs : List UInt8} {e most : Nat} (hmost : most ≤ 4096) (h : RdS w g m bs e) : Calls Try.prog 58 #[.pointer (some ⟨g, 0, none⟩), .int .u64 (most : Int), .func (.func 59) #[.pointer (some ⟨g, 0, none⟩)] #[]] w (GhT w g m bs e most) := by
  have HR : Hid (RdS w g m bs e) := h
  have HM : Hid (most ≤ 4096) := hmost
  clear h hmost
  go_enter Try.func58, Try.ntmps58
  go_wp2_with (go_at_call 73; refine (uint73 most HR.out).mono ?_; rintro x w1 ⟨n, t, e1, rfl, hn, hs, hr, hb⟩
               have H1 : Hid (n ≤ most ∧ Stp (pN most) bs e n t e1 ∧ RdS w1 g m t e1 ∧ But g w w1) := ⟨hn, hs, hr, hb⟩
               clear hn hs hr hb)
  have hn63 : n < 9223372036854775808 := by have := H1.out.1; have := HM.out; omega
  go_loopw [7, 11] (fun v iv wr => ∃ (i : Nat) (b' : List UInt8) (e' : Nat), i ≤ n ∧ iv = .int .u64 (i : Int) ∧ Hid (GaH w g m t e1 i v b' e' wr)) (fun _ iv _ => n - (intOf iv).toNat)
  case atStart => exact ⟨0, t, e1, Nat.zero_le _, rfl, [], rfl, All32.nil, OwnL.nil _ _ _ _, Stp.zero t e1, H1.out.2.2.1, H1.out.2.2.2⟩
  case round =>
    obtain ⟨i, b', e', hin, rfl, HI⟩ := hrel
    obtain ⟨v, rfl⟩ : ∃ v, v = u7 := ⟨_, rfl⟩
    by_cases hlt : i < n
    · have hii : (i : Int) < (n : Int) := by omega
      have hib : (i + 1) * 32 ≤ 140737488355328 := by have := H1.out.1; have := HM.out; omega
      have hi63 : i + 1 < 9223372036854775808 := by omega
      have HE60 : Hid (Calls Try.prog 60 #[.pointer (some ⟨g, 0, none⟩)] wr fun x w' => x = .returned (.int .i64 (e' : Int)) ∧ w' = wr) := by
        obtain ⟨l, _, _, _, _, h5, _⟩ := HI.out
        exact err60 h5
      have HIB : Hid ((i + 1) * 32 ≤ 140737488355328) := hib
      clear hib
      by_cases he : e' = 0
      · subst he
        have HH : Hid (Calls Try.prog 59 #[.pointer (some ⟨g, 0, none⟩)] wr fun x w' => ∃ y bs' e', x = .returned (.agg (c8 y).toArray) ∧ y.length = 32 ∧ Stp pX b' 0 y bs' e' ∧ RdS w' g m bs' e' ∧ But g wr w') := by
          obtain ⟨l, _, _, _, _, h5, _⟩ := HI.out
          exact hash59 h5
        go_wp2_with (first
          | (go_at_call 60; refine Calls.mono HE60.out ?_; rintro x w9 ⟨rfl, hw9⟩; rw [hw9]; clear hw9 w9)
          | (go_at_call 59; refine Calls.mono HH.out ?_; rintro x w3 ⟨y, b2, e2, rfl, hy, hs, hr, hb⟩
             obtain ⟨a, c, va, vc, w6, hv, hr6, hg6⟩ := gaH_step HR.out.mw HI.out hy hs hr hb HIB.out
             subst hv
             have H6 : Hid (GaH w g m t e1 (i + 1) (.slice va (i + 1) vc) b2 e2 w6) := hg6
             have H6R : Hid ((Builtin.append_ #[39, 39] 39 #[.slice a i c, .slice (some ⟨w3.heap.size, 0, none⟩) 1 1]).run Try.prog (w3.alloc (.cells (c8 y).toArray 43)) = .ok (.slice va (i + 1) vc) w6) := hr6
             have HY : Hid (y.length = 32) := hy
             clear hy hs hr hb hr6 hg6)
          | (refine wpList_of_run rfl (x_bs39 (x := .tmp 18) HY.out rfl rfl) ?_)
          | (refine wpList_of_run rfl (x_app (t := 39) (s := .tmp 16) (x := .tmp 19) rfl rfl rfl H6R.out) ?_))
        go_roundw
        case rel => exact ⟨i + 1, b2, e2, by omega, by go_num, H6⟩
        case measure => simp [intOf]; omega
      · have hne : ¬ (e' : Int) = 0 := by omega
        have HF : Hid (GaH w g m t e1 i v b' e' wr ∧ e' ≠ 0 ∧ i ≤ n) := ⟨HI.out, he, hin⟩
        go_wp2_with (go_at_call 60; refine Calls.mono HE60.out ?_; rintro x w9 ⟨rfl, hw9⟩; rw [hw9]; clear hw9 w9)
        go_ret
        obtain ⟨⟨l, h1, h2, h3, h4, h5, h6⟩, h7, h8⟩ := HF.out
        obtain ⟨a, c, rfl, _⟩ := h3.val (n := i) (by rw [hs_len]; exact h1)
        exact ⟨a, c, i, l, b', e', rfl, h1, h2, Nat.le_trans h8 H1.out.1, h3, H1.out.2.1.list h4 (.inr ⟨h7, h8⟩), h5, h6⟩
    · have hii : ¬ (i : Int) < (n : Int) := by omega
      have HF : Hid (GaH w g m t e1 i v b' e' wr ∧ i = n) := ⟨HI.out, by omega⟩
      go_wp2
      go_ret
      obtain ⟨⟨l, h1, h2, h3, h4, h5, h6⟩, h7⟩ := HF.out
      obtain ⟨a, c, rfl, _⟩ := h3.val (n := i) (by rw [hs_len]; exact h1)
      exact ⟨a, c, i, l, b', e', rfl, h1, h2, by have := H1.out.1; omega, h3, H1.out.2.1.list h4 (.inl h7), h5, h6⟩
end Go.Proofs.Ytcmcapcagblafaa
