/-
  gathered[Record] (53), records (28), index.Get (14).
-/
import Derived.Test.YtcmcapcagblafaaXI
namespace Go.Proofs.Ytcmcapcagblafaa
open Go.RowKit Go.Maps Dsk Leb
attribute [local go_sem] Oper.semAt_some
/-- Records of one's own. -/
structure OwnR (W : World) (B : Nat) (v : Value) (X : List Rx) : Prop where
  row : OwnL W B 41 3 v (rsL X)
  each : ∀ x ∈ X, RxO W B x
theorem OwnR.nil (W : World) (B : Nat) : OwnR W B (.slice none 0 0) [] := ⟨OwnL.nil _ _ _ _, fun x h => by simp at h⟩
theorem OwnR.at {W : World} {B : Nat} {v : Value} {X : List Rx} (h : OwnR W B v X) : ∃ a c, v = .slice a X.length c ∧ RsAt W a X := by
  obtain ⟨a, c, e, hs⟩ := h.row.sl
  rw [rs_len] at e
  exact ⟨a, c, e, hs, fun x hx => (h.each x hx).at'⟩
theorem OwnR.keep {w w' : World} {B : Nat} {v : Value} {X : List Rx} (h : OwnR w B v X) (hs : w.heap.size ≤ w'.heap.size) (hk : ∀ b, B ≤ b → b < w.heap.size → w'.heap[b]? = w.heap[b]?) : OwnR w' B v X :=
  ⟨h.row.same (fun b e => by obtain ⟨h1, h2, _⟩ := own_lt h.row.2 e; exact hk b h1 h2), fun x hx => (h.each x hx).keep hs (fun b t cs h1 h2 _ => hk b h1 h2.lt)⟩
theorem OwnR.but {w w' : World} {B g : Nat} {v : Value} {X : List Rx} (h : OwnR w B v X) (hb : But g w w') (hg : g < B) : OwnR w' B v X := h.keep hb.size (fun b h1 h2 => hb.block b h2 (by omega))
theorem OwnR.after {w w' : World} {B : Nat} {v : Value} {X : List Rx} (h : OwnR w B v X) (hb : After w w') : OwnR w' B v X := h.keep hb.size (fun b _ h2 => hb.block b h2)
theorem OwnR.lower {w : World} {B B' : Nat} {v : Value} {X : List Rx} (h : OwnR w B v X) (hb : B' ≤ B) : OwnR w B' v X := ⟨h.row.lower hb, fun x hx => (h.each x hx).lower hb⟩
theorem OwnR.val {w : World} {base : Nat} {v : Value} {X : List Rx} (h : OwnR w base v X) {n : Nat} (hn : X.length = n) : ∃ a c, v = .slice a n c ∧ (a = none → c = 0) := h.row.val (by rw [rs_len]; exact hn)
theorem info41 : (Try.prog.info? 41).map (fun i => (i.zero, i.size, i.bytes)) = some (some (.agg #[.string ⟨#[]⟩, .slice none 0 0, .slice none 0 0]), 3, 64) := by kernel_rfl
theorem rx_box {w : World} {x : Rx} : SlAt (w.alloc (.cells (rxc x).toArray 41)) 3 (some ⟨w.heap.size, 0, none⟩) (rsL [x]) :=
  ⟨uni_rs _, fun _ => ⟨_, _, rfl, fun j u hu => by
    have := (RowIs.new w 41 (rxc x)).cell (j := j) (v := u) (by simpa [rsL] using hu)
    rw [Nat.zero_add]; exact this⟩⟩
/-- A record behind records in a row. -/
theorem run_appR {w : World} {B : Nat} {v : Value} {X Y : List Rx} (ty : TypeId) (h : OwnR w B v X) {a : Option Addr} {m c : Nat} (hm : Y.length = m) (hs : SlAt w 3 a (rsL Y)) (hl : (X.length + m) * 64 ≤ 140737488355328) (hb : B ≤ w.heap.size) (hc : Y = [] → a = none → c = 0) (hY : ∀ y ∈ Y, RxO w B y) :
    ∃ va vc w', (Builtin.append_ #[22, 22] ty #[v, .slice a m c]).run Try.prog w = .ok (.slice va (X.length + m) vc) w' ∧ OwnR w' B (.slice va (X.length + m) vc) (X ++ Y) ∧ w.grownBy w' v.ownBlock := by
  obtain ⟨i, hi, hz⟩ := Option.map_eq_some_iff.1 info41
  simp only [Prod.mk.injEq] at hz
  obtain ⟨hz, hsz, hby⟩ := hz
  have := run_appL (t := 22) ty 41 3 64 Try.underlying22 hi hz hsz hby rfl (by omega) h.row (by rw [rs_len, hm]) hs (rs_one Y) (by rw [rs_len]; unfold maxLen; omega) (by rw [rs_len]; exact hl) hb (fun e => hc (by cases Y with | nil => rfl | cons x Y => simp [rsL] at e))
  rw [rs_len] at this
  obtain ⟨va, vc, w', r1, r2, r3, _⟩ := this
  refine ⟨va, vc, w', r1, ⟨by unfold rsL; rw [List.map_append]; exact r2, fun x hx => ?_⟩, r3⟩
  have hx0 : RxO w B x := by
    rcases List.mem_append.1 hx with hx | hx
    · exact h.each x hx
    · exact hY x hx
  refine hx0.keep r3.size (fun b t cs _ h2 ht => r3.block b h2.lt (fun e => ?_))
  obtain ⟨_, _, cs', h3⟩ := own_lt h.row.2 e.symm
  have := (h2.ty h3).1
  rcases ht with rfl | rfl <;> exact absurd this (by decide)
def GaR (w : World) (g m : Nat) (t : List UInt8) (e1 i : Nat) (v : Value) (bs' : List UInt8) (e' : Nat) (wr : World) : Prop := ∃ X : List Rx, X.length = i ∧ OwnR wr w.heap.size v X ∧ Stp (pMany pRc i) t e1 (rsof X) bs' e' ∧ RdS wr g m bs' e' ∧ But g w wr
def GrT (w : World) (g m : Nat) (bs : List UInt8) (e : Nat) (x : Ending) (w' : World) : Prop := ∃ a c k X bs' e', x = .returned (.slice a k c) ∧ X.length = k ∧ k ≤ 64 ∧ OwnR w' w.heap.size (.slice a k c) X ∧ Stp pIx bs e (rsof X) bs' e' ∧ RdS w' g m bs' e' ∧ But g w w'
theorem rsof_snoc (X : List Rx) (x : Rx) : rsof (X ++ [x]) = rsof X ++ [rof x] := by simp [rsof]
theorem gaR_step {w w3 : World} {g m : Nat} {t : List UInt8} {e1 i : Nat} {v : Value} {b1 b2 : List UInt8} {e2 : Nat} {wr : World} {y : Rx} (hgm : m ≤ w.heap.size) (h : GaR w g m t e1 i v b1 0 wr) (hk : RcG wr g m b1 0 y b2 e2 w3) (hi : (i + 1) * 64 ≤ 140737488355328) :
    ∃ a c va vc w6, v = .slice a i c ∧ (Builtin.append_ #[22, 22] 22 #[.slice a i c, .slice (some ⟨w3.heap.size, 0, none⟩) 1 1]).run Try.prog (w3.alloc (.cells (rxc y).toArray 41)) = .ok (.slice va (i + 1) vc) w6 ∧ GaR w g m t e1 (i + 1) (.slice va (i + 1) vc) b2 e2 w6 := by
  obtain ⟨X, h1, h3, h4, h5, h6⟩ := h
  obtain ⟨a, c, rfl, _⟩ := h3.val h1
  have hg : g < w.heap.size := Nat.lt_of_lt_of_le h5.gm hgm
  have hs6 := h6.size
  have hsb := hk.but.size
  have o2 := h3.but hk.but hg
  have hal : After w3 (w3.alloc (.cells (rxc y).toArray 41)) := after_alloc (After.refl w3) _
  have o3 := o2.after hal
  have oy : RxO (w3.alloc (.cells (rxc y).toArray 41)) w.heap.size y := (hk.own.lower hs6).keep hal.size (fun b t cs _ h2 _ => hal.block b h2.lt)
  obtain ⟨va, vc, w6, r1, r2, r3⟩ := run_appR 22 o3 (Y := [y]) (m := 1) (c := 1) rfl rx_box (by omega) (by simp; omega) (fun e => by cases e) (fun z hz => by rw [List.mem_singleton.1 hz]; exact oy)
  rw [h1] at r1 r2
  refine ⟨a, c, va, vc, w6, rfl, r1, X ++ [y], by simp [h1], r2, by rw [rsof_snoc]; exact h4.succ hk.stp, (hk.rd.after hal).grown r3 (fun b e => by have := (own_lt o3.row.2 e).1; omega), ?_⟩
  have hA := (h6.trans hk.but).trans (But.of_below hal)
  refine ⟨r3.os.trans hA.os, r3.tape.trans hA.tape, r3.output.trans hA.output, Nat.le_trans hA.size r3.size, fun k hk' hne => ?_⟩
  rw [r3.block k (Nat.lt_of_lt_of_le hk' hA.size) (fun e => by have := (own_lt o3.row.2 e.symm).1; omega)]
  exact hA.block k hk' hne
theorem x_bs22r {oi : Oper} {a : Act} {w : World} {x : Operand} {y : Rx} (hop : oi.op = .buildSlice 22 1 #[(0, x)]) (hx : a.eval x = .agg (rxc y).toArray) : (execOp a.eval oi).run Try.prog w = .ok (.value (.slice (some ⟨w.heap.size, 0, none⟩) 1 1)) (w.alloc (.cells (rxc y).toArray 41)) := by
  have hb : ∀ (s : ByteArray) (u v : Value), (Instr.buildSlice 22 1 #[(0, .agg #[.string s, u, v])]).run Try.prog w = .ok (.slice (some ⟨w.heap.size, 0, none⟩) 1 1) (w.alloc (.cells #[.string s, u, v] 41)) := fun s u v => by kernel_rfl
  have hb' := hb (strOf y.nm) (.slice y.ba y.X.length y.bc) (.slice y.a y.l.length y.c)
  unfold execOp
  simp only [hop]
  simp [hx, rxc, hb']
set_option maxRecDepth 100000 in
set_option maxHeartbeats 6400000 in
theorem gather53 {w : World} {g m p0 : Nat} {bs : List UInt8} {e : Nat} (h : RdS w g m bs e) (hc : w.cell? ⟨p0, 0, none⟩ = some (.pointer (some ⟨g, 0, none⟩))) (hpg : p0 ≠ g) : Calls Try.prog 53 #[.pointer (some ⟨g, 0, none⟩), .int .u64 64, .func (.func 54) #[] #[.pointer (some ⟨p0, 0, none⟩)]] w (GrT w g m bs e) := by
  have HR : Hid (RdS w g m bs e ∧ w.cell? ⟨p0, 0, none⟩ = some (.pointer (some ⟨g, 0, none⟩)) ∧ p0 ≠ g) := ⟨h, hc, hpg⟩
  clear h hc hpg
  go_enter Try.func53, Try.ntmps53
  go_wp2_with (go_at_call 73; refine (uint73 64 HR.out.1).mono ?_; rintro x w1 ⟨n, t, e1, rfl, hn, hs, hr, hb⟩
               have H1 : Hid (n ≤ 64 ∧ Stp (pN 64) bs e n t e1 ∧ RdS w1 g m t e1 ∧ But g w w1) := ⟨hn, hs, hr, hb⟩
               clear hn hs hr hb)
  have hn63 : n < 9223372036854775808 := by have := H1.out.1; omega
  go_loopw [7, 11] (fun v iv wr => ∃ (i : Nat) (b' : List UInt8) (e' : Nat), i ≤ n ∧ iv = .int .u64 (i : Int) ∧ Hid (GaR w g m t e1 i v b' e' wr)) (fun _ iv _ => n - (intOf iv).toNat)
  case atStart => exact ⟨0, t, e1, Nat.zero_le _, rfl, [], rfl, OwnR.nil _ _, Stp.zero t e1, H1.out.2.2.1, H1.out.2.2.2⟩
  case round =>
    obtain ⟨i, b', e', hin, rfl, HI⟩ := hrel
    obtain ⟨v, rfl⟩ : ∃ v, v = u7 := ⟨_, rfl⟩
    by_cases hlt : i < n
    · have hii : (i : Int) < (n : Int) := by omega
      have hib : (i + 1) * 64 ≤ 140737488355328 := by have := H1.out.1; omega
      have hi63 : i + 1 < 9223372036854775808 := by omega
      have HE60 : Hid (Calls Try.prog 60 #[.pointer (some ⟨g, 0, none⟩)] wr fun x w' => x = .returned (.int .i64 (e' : Int)) ∧ w' = wr) := by
        obtain ⟨l, _, _, _, h5, _⟩ := HI.out
        exact err60 h5
      have HIB : Hid ((i + 1) * 64 ≤ 140737488355328) := hib
      clear hib
      by_cases he : e' = 0
      · subst he
        have HH : Hid (Calls Try.prog 54 #[.pointer (some ⟨p0, 0, none⟩)] wr (RcT wr g m b' 0)) := by
          obtain ⟨l, _, _, _, h5, h6⟩ := HI.out
          exact clo54 h5 (h6.cell HR.out.2.2 HR.out.2.1) HR.out.2.2
        go_wp2_with (first
          | (go_at_call 60; refine Calls.mono HE60.out ?_; rintro x w9 ⟨rfl, hw9⟩; rw [hw9]; clear hw9 w9)
          | (go_at_call 54; refine Calls.mono HH.out ?_; rintro x w3 ⟨y, b2, e2, rfl, hy⟩
             obtain ⟨a, c, va, vc, w6, hv, hr6, hg6⟩ := gaR_step HR.out.1.mw HI.out hy HIB.out
             subst hv
             have H6 : Hid (GaR w g m t e1 (i + 1) (.slice va (i + 1) vc) b2 e2 w6) := hg6
             have H6R : Hid ((Builtin.append_ #[22, 22] 22 #[.slice a i c, .slice (some ⟨w3.heap.size, 0, none⟩) 1 1]).run Try.prog (w3.alloc (.cells (rxc y).toArray 41)) = .ok (.slice va (i + 1) vc) w6) := hr6
             clear hy hr6 hg6)
          | (refine wpList_of_run rfl (x_bs22r (x := .tmp 18) (y := y) rfl rfl) ?_)
          | (refine wpList_of_run rfl (x_app (t := 22) (s := .tmp 16) (x := .tmp 19) rfl rfl rfl H6R.out) ?_))
        go_roundw
        case rel => exact ⟨i + 1, b2, e2, by omega, by go_num, H6⟩
        case measure => simp [intOf]; omega
      · have hne : ¬ (e' : Int) = 0 := by omega
        have HF : Hid (GaR w g m t e1 i v b' e' wr ∧ e' ≠ 0 ∧ i ≤ n) := ⟨HI.out, he, hin⟩
        go_wp2_with (go_at_call 60; refine Calls.mono HE60.out ?_; rintro x w9 ⟨rfl, hw9⟩; rw [hw9]; clear hw9 w9)
        go_ret
        obtain ⟨⟨l, h1, h3, h4, h5, h6⟩, h7, h8⟩ := HF.out
        obtain ⟨a, c, rfl, _⟩ := h3.val h1
        exact ⟨a, c, i, l, b', e', rfl, h1, Nat.le_trans h8 H1.out.1, h3, H1.out.2.1.list h4 (.inr ⟨h7, h8⟩), h5, h6⟩
    · have hii : ¬ (i : Int) < (n : Int) := by omega
      have HF : Hid (GaR w g m t e1 i v b' e' wr ∧ i = n) := ⟨HI.out, by omega⟩
      go_wp2
      go_ret
      obtain ⟨⟨l, h1, h3, h4, h5, h6⟩, h7⟩ := HF.out
      obtain ⟨a, c, rfl, _⟩ := h3.val h1
      exact ⟨a, c, i, l, b', e', rfl, h1, by have := H1.out.1; omega, h3, H1.out.2.1.list h4 (.inl h7), h5, h6⟩
set_option maxRecDepth 100000 in
set_option maxHeartbeats 3200000 in
theorem records28 {w : World} {g m : Nat} {bs : List UInt8} {e : Nat} (h : RdS w g m bs e) : Calls Try.prog 28 #[.pointer (some ⟨g, 0, none⟩)] w (GrT w g m bs e) := by
  obtain ⟨g0, hg0⟩ : ∃ g0, w.heap.size = g0 := ⟨_, rfl⟩
  obtain ⟨W0, hW0⟩ : ∃ W0, w.alloc (.cells #[.pointer (some ⟨g, 0, none⟩)] 53) = W0 := ⟨_, rfl⟩
  have hA : After w W0 := by rw [← hW0]; exact after_alloc (After.refl w) _
  have hc : W0.cell? ⟨g0, 0, none⟩ = some (.pointer (some ⟨g, 0, none⟩)) := by rw [← hW0, ← hg0]; exact box_cell w _ 53
  have HR : Hid (After w W0 ∧ RdS W0 g m bs e ∧ W0.cell? ⟨g0, 0, none⟩ = some (.pointer (some ⟨g, 0, none⟩)) ∧ g0 ≠ g) := ⟨hA, h.after hA, hc, by have := h.gm; have := h.mw; omega⟩
  clear h hA
  go_enter Try.func28, Try.ntmps28
  go_wp2_with (first
    | (rw [hW0]; rw [hg0])
    | (go_at_call 53; refine (gather53 (p0 := g0) HR.out.2.1 HR.out.2.2.1 HR.out.2.2.2).mono ?_; rintro x w3 ⟨a, c, k, X, b2, e2, rfl, h1, h2, h3, h4, h5, h6⟩
       have H3 : Hid (X.length = k ∧ k ≤ 64 ∧ OwnR w3 w.heap.size (.slice a k c) X ∧ Stp pIx bs e (rsof X) b2 e2 ∧ RdS w3 g m b2 e2 ∧ But g w w3) := ⟨h1, h2, h3.lower HR.out.1.size, h4, h5, (But.of_below HR.out.1).trans h6⟩
       clear h1 h2 h3 h4 h5 h6))
  go_ret
  exact ⟨a, c, k, X, b2, e2, rfl, H3.out⟩
end Go.Proofs.Ytcmcapcagblafaa
