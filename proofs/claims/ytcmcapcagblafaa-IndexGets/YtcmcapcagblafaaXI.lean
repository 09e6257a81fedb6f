/-
  A record that is read: records$1 (54); gathered[Record] (53); records (28).
-/
import Derived.Test.YtcmcapcagblafaaXH
namespace Go.Proofs.Ytcmcapcagblafaa
open Go.RowKit Go.Maps Dsk Leb
attribute [local go_sem] Oper.semAt_some
theorem pRc_eq : pRc = fun b => (pT 32 b).bind fun r => ((fun b => (pL 64 pBr b).bind fun q => (pHs 4096 q.2).map fun s => ((q.1, s.1), s.2)) r.2).map fun s => ((r.1, s.1), s.2) := by
  funext b
  unfold pRc
  cases pT 32 b with
  | none => rfl
  | some r =>
    simp only [Option.bind_some]
    cases pL 64 pBr r.2 with
    | none => rfl
    | some q =>
      simp only [Option.bind_some]
      cases pHs 4096 q.2 <;> rfl
theorem Stp.three {bs b1 b2 b3 : List UInt8} {e e1 e2 e3 : Nat} {s : Dsk.Nm} {S : Tb} {l : List H} (h1 : Stp (pT 32) bs e s b1 e1) (h2 : Stp (pL 64 pBr) b1 e1 S b2 e2) (h3 : Stp (pHs 4096) b2 e2 l b3 e3) : Stp pRc bs e (s, (S, l)) b3 e3 := by
  rw [pRc_eq]
  exact h1.two (h2.two h3)
/-- A record of one's own: how great it is. -/
structure RxFit (x : Rx) : Prop where
  nm : x.nm.length ≤ maxLen
  few : x.l.length * 32 ≤ 140737488355328
  l32 : All32 x.l
  fewB : x.X.length * 40 ≤ 140737488355328
  bnm : ∀ y ∈ x.X, y.nm.length ≤ maxLen
structure RxO (W : World) (B : Nat) (x : Rx) : Prop where
  fit : RxFit x
  own : OwnL W B 43 32 (.slice x.a x.l.length x.c) (hsL x.l)
  ownB : OwnB W B (.slice x.ba x.X.length x.bc) x.X
theorem RxO.keep {W W' : World} {B : Nat} {x : Rx} (h : RxO W B x) (hs : W.heap.size ≤ W'.heap.size) (hk : ∀ b t cs, B ≤ b → RowIs W b t cs → t = 65 ∨ t = 43 → W'.heap[b]? = W.heap[b]?) : RxO W' B x :=
  ⟨h.fit, h.own.same (fun b e => by obtain ⟨h1, _, cs, h3⟩ := own_lt h.own.2 e; exact hk b 43 cs h1 h3 (.inr rfl)), h.ownB.keep hs hk⟩
theorem RxO.lower {W : World} {B B' : Nat} {x : Rx} (h : RxO W B x) (hb : B' ≤ B) : RxO W B' x :=
  ⟨h.fit, h.own.lower hb, ⟨h.ownB.row.lower hb, h.ownB.each, fun y hy ad e => by obtain ⟨h1, h2, h3, h4⟩ := h.ownB.ge y hy ad e; exact ⟨by omega, h2, h3, h4⟩⟩⟩
theorem RxO.at' {W : World} {B : Nat} {x : Rx} (h : RxO W B x) : RxAt W x := by
  obtain ⟨a0, c0, e0, hs⟩ := h.own.sl
  rw [hs_len] at e0
  injection e0 with e1 _ e3
  obtain ⟨a1, c1, e4, hb⟩ := h.ownB.at
  injection e4 with e5 _ e6
  have hz : x.a = none → x.c = 0 := fun e => by
    rcases own_row h.own.2 with ⟨h1, _⟩ | ⟨g1, cap, cs, h1, _⟩
    · injection h1
    · rw [e] at h1; injection h1 with h2; cases h2
  have hzb : x.ba = none → x.bc = 0 := fun e => by
    rcases own_row h.ownB.row.2 with ⟨h1, _⟩ | ⟨g1, cap, cs, h1, _⟩
    · injection h1
    · rw [e] at h1; injection h1 with h2; cases h2
  exact ⟨by rw [e5]; exact hb, by rw [e1]; exact hs, h.fit.l32, h.fit.nm, h.fit.bnm, h.fit.fewB, h.fit.few, hzb, hz⟩
structure RcG (w : World) (g m : Nat) (bs : List UInt8) (e : Nat) (x : Rx) (bs' : List UInt8) (e' : Nat) (w' : World) : Prop where
  own : RxO w' w.heap.size x
  stp : Stp pRc bs e (rof x) bs' e'
  rd : RdS w' g m bs' e'
  but : But g w w'
def RcT (w : World) (g m : Nat) (bs : List UInt8) (e : Nat) (z : Ending) (w' : World) : Prop := ∃ x bs' e', z = .returned (.agg (rxc x).toArray) ∧ RcG w g m bs e x bs' e' w'
/-- A store into the record that grows. -/
theorem but_cell {g : Nat} {w w1 : World} (h : But g w w1) {g0 : Nat} (hg : w.heap.size = g0) (j : Nat) (v : Value) {p0 : Nat} {u : Value} (hp : p0 < g0) (hc : w1.cell? ⟨p0, 0, none⟩ = some u) : But g w (w1.setCell ⟨g0, j, none⟩ v) ∧ (w1.setCell ⟨g0, j, none⟩ v).cell? ⟨p0, 0, none⟩ = some u := by
  refine ⟨h.setNew (by rw [hg]; exact Nat.le_refl _) v, ?_⟩
  rw [World.cell?_of_block (w := w1) (show (w1.setCell ⟨g0, j, none⟩ v).heap[(⟨p0, 0, none⟩ : Addr).block]? = w1.heap[(⟨p0, 0, none⟩ : Addr).block]? from heap_setCell_other w1 _ p0 _ (by simp only; omega))]
  exact hc
theorem OwnB.cellR {w : World} {B g0 j : Nat} {u v : Value} {X : List Bx} {cs : List Value} (h : OwnB w B v X) (hr : RowIs w g0 41 cs) : OwnB (w.setCell ⟨g0, j, none⟩ u) B v X :=
  h.keep (by simp) (fun b t ds _ h2 ht => heap_setCell_other w _ b _ (fun e => by
    simp only at e
    subst e
    have := (hr.ty h2).1
    rcases ht with rfl | rfl <;> exact absurd this (by decide)))
theorem OwnL.cell43 {w : World} {B g0 j : Nat} {u v : Value} {L : List (List Value)} {cs : List Value} (h : OwnL w B 43 32 v L) (hr : RowIs w g0 41 cs) : OwnL (w.setCell ⟨g0, j, none⟩ u) B 43 32 v L :=
  h.same (fun b e => heap_setCell_other w _ b _ (fun e1 => by
    obtain ⟨_, _, ds, h2⟩ := own_lt h.2 e
    simp only at e1
    subst e1
    exact absurd (hr.ty h2).1 (by decide)))
theorem RcG.row {w w' : World} {g m g0 : Nat} {bs bs' : List UInt8} {e e' : Nat} {x : Rx} (h : RcG w g m bs e x bs' e' w') (hm : m ≤ g0) (hg : w.heap.size ≤ g0) {cs : List Value} (hr : RowIs w' g0 41 cs) (ds : Array Value) : RcG w g m bs e x bs' e' (w'.setRow g0 ds) :=
  ⟨h.own.keep (by simp) (fun b t cs' _ h2 ht => setRow_other w' g0 b ds (fun e1 => by
    subst e1
    have := (hr.ty h2).1
    rcases ht with rfl | rfl <;> exact absurd this (by decide))), h.stp, h.rd.keep (fun b hb => setRow_other w' g0 b ds (by omega)) (by simp), ⟨h.but.os, h.but.tape, h.but.output, by have := h.but.size; simpa using this, fun k hk hne => by rw [setRow_other w' g0 k ds (by omega)]; exact h.but.block k hk hne⟩⟩
set_option maxRecDepth 100000 in
set_option maxHeartbeats 6400000 in
theorem clo54 {w : World} {g m p0 : Nat} {bs : List UInt8} {e : Nat} (h : RdS w g m bs e) (hc : w.cell? ⟨p0, 0, none⟩ = some (.pointer (some ⟨g, 0, none⟩))) (hpg : p0 ≠ g) : Calls Try.prog 54 #[.pointer (some ⟨p0, 0, none⟩)] w (RcT w g m bs e) := by
  obtain ⟨g0, hg0⟩ : ∃ g0, w.heap.size = g0 := ⟨_, rfl⟩
  obtain ⟨W0, hW0⟩ : ∃ W0, w.alloc (.cells #[.string (strOf []), .slice none 0 0, .slice none 0 0] 41) = W0 := ⟨_, rfl⟩
  have hA : After w W0 := by rw [← hW0]; exact after_alloc (After.refl w) _
  have HR0 : Hid (RowIs W0 g0 41 [.string (strOf []), .slice none 0 0, .slice none 0 0] ∧ After w W0 ∧ RdS W0 g m bs e) := by refine ⟨?_, hA, h.after hA⟩; rw [← hW0, ← hg0]; exact RowIs.new w 41 _
  have hp0 : p0 < w.heap.size := World.block_lt_of_cell? w _ hc
  have HPG : Hid (p0 ≠ g ∧ p0 < g0 ∧ g < g0 ∧ m ≤ g0 ∧ w.heap.size = g0 ∧ g0 ≠ g) := ⟨hpg, by omega, by have := h.gm; have := h.mw; omega, by have := h.mw; omega, hg0, by have := h.gm; have := h.mw; omega⟩
  have HC0 : Hid (W0.cell? ⟨p0, 0, none⟩ = some (.pointer (some ⟨g, 0, none⟩))) := cell_at hA hc
  have c0 := HC0.out
  have HAL : Hid ((w.alloc (.cells (rxc zrx).toArray 41)) = W0) := hW0
  clear h hc hpg hp0 hA hW0
  go_enter Try.func54, Try.ntmps54
  go_wp2_with (first
    | (refine wpList_of_run rfl (x_al41 rfl) ?_; rw [HAL.out]; rw [HPG.out.2.2.2.2.1])
    | (go_at_call 55; refine (text55 HR0.out.2.2).mono ?_; rintro x w1 ⟨s, b1, e1, rfl, hs, hst, hr, hb⟩
       have hrow := hb.row HR0.out.1 HPG.out.2.2.2.2.2
       have f0 := hrow.frozen 0
       have f1 := hrow.cell (j := 0) rfl
       obtain ⟨w2, hw2⟩ : ∃ w2, w1.setCell ⟨g0, 0, none⟩ (.string (strOf s)) = w2 := ⟨_, rfl⟩
       have H2 : Hid (RowIs w2 g0 41 [.string (strOf s), .slice none 0 0, .slice none 0 0] ∧ RdS w2 g m b1 e1 ∧ But g w w2 ∧ w2.cell? ⟨p0, 0, none⟩ = some (.pointer (some ⟨g, 0, none⟩)) ∧ Stp (pT 32) bs e s b1 e1 ∧ s.length ≤ 32) := by
         obtain ⟨k1, k2⟩ := but_cell (g0 := g0) ((But.of_below HR0.out.2.1).trans hb) HPG.out.2.2.2.2.1 0 (.string (strOf s)) HPG.out.2.1 (hb.cell (p := ⟨p0, 0, none⟩) HPG.out.1 HC0.out)
         rw [← hw2]
         exact ⟨RowIs.set hrow 0 _, hr.setNew (HPG.out.2.2.2.1) _, k1, k2, hst, hs⟩
       have HW2 : Hid (w1.setCell ⟨g0, 0, none⟩ (.string (strOf s)) = w2) := hw2
       have d0 := H2.out.2.2.2.1
       clear hs hst hr hb hw2 hrow)
    | (rw [HW2.out])
    | (go_at_call 56; refine (gather56 (p0 := p0) H2.out.2.1 H2.out.2.2.2.1 HPG.out.1).mono ?_; rintro x w3 ⟨ba, bc, k, X, b2, e2, rfl, hXk, hXf, hk64, ho, hst, hr, hb⟩
       have hrow := hb.row H2.out.1 HPG.out.2.2.2.2.2
       have f2 := hrow.frozen 1
       have f3 := hrow.cell (j := 1) rfl
       obtain ⟨w4, hw4⟩ : ∃ w4, w3.setCell ⟨g0, 1, none⟩ (.slice ba k bc) = w4 := ⟨_, rfl⟩
       have H4 : Hid (RowIs w4 g0 41 [.string (strOf s), .slice ba k bc, .slice none 0 0] ∧ RdS w4 g m b2 e2 ∧ But g w w4 ∧ w4.cell? ⟨p0, 0, none⟩ = some (.pointer (some ⟨g, 0, none⟩)) ∧ Stp (pL 64 pBr) b1 e1 (bof X) b2 e2 ∧ OwnB w4 w.heap.size (.slice ba k bc) X ∧ X.length = k ∧ k ≤ 64 ∧ ∀ y ∈ X, y.nm.length ≤ 32) := by
         obtain ⟨k1, k2⟩ := but_cell (g0 := g0) (H2.out.2.2.1.trans hb) HPG.out.2.2.2.2.1 1 (.slice ba k bc) HPG.out.2.1 (hb.cell (p := ⟨p0, 0, none⟩) HPG.out.1 H2.out.2.2.2.1)
         rw [← hw4]
         have hsz := H2.out.2.2.1.size
         have ho2 : OwnB w3 w.heap.size (.slice ba k bc) X := ⟨ho.row.lower hsz, ho.each, fun y hy ad e => by obtain ⟨h1, h2, h3, h4⟩ := ho.ge y hy ad e; exact ⟨by omega, h2, h3, h4⟩⟩
         exact ⟨RowIs.set hrow 1 _, hr.setNew (HPG.out.2.2.2.1) _, k1, k2, hst, ho2.cellR hrow, hXk, hk64, fun y hy => (hXf y hy).1⟩
       have HW4 : Hid (w3.setCell ⟨g0, 1, none⟩ (.slice ba k bc) = w4) := hw4
       have d4 := H4.out.2.2.2.1
       clear hXk hXf hk64 ho hst hr hb hw4 hrow)
    | (rw [HW4.out])
    | (go_at_call 58; refine (gather58 (most := 4096) (by omega) H4.out.2.1).mono ?_; rintro x w5 ⟨a, c, n, l, b3, e3, rfl, hln, h32, hn4, ho, hst, hr, hb⟩
       have hrow := hb.row H4.out.1 HPG.out.2.2.2.2.2
       have f4 := hrow.frozen 2
       have f5 := hrow.cell (j := 2) rfl
       obtain ⟨w6, hw6⟩ : ∃ w6, w5.setCell ⟨g0, 2, none⟩ (.slice a n c) = w6 := ⟨_, rfl⟩
       have H6 : Hid (RowIs w6 g0 41 [.string (strOf s), .slice ba k bc, .slice a n c] ∧ RcG w g m bs e ⟨s, ba, bc, X, a, c, l⟩ b3 e3 w6) := by
         obtain ⟨k1, _⟩ := but_cell (g0 := g0) (H4.out.2.2.1.trans hb) HPG.out.2.2.2.2.1 2 (.slice a n c) HPG.out.2.1 (hb.cell (p := ⟨p0, 0, none⟩) HPG.out.1 H4.out.2.2.2.1)
         rw [← hw6]
         have hsz := H4.out.2.2.1.size
         have hgw : g < w.heap.size := by have := HPG.out; omega
         have ho2 := ((ho.lower hsz).cell43 (j := 2) (u := .slice a n c) hrow)
         have hoB := ((H4.out.2.2.2.2.2.1.but hb hgw).cellR (j := 2) (u := .slice a n c) hrow)
         have hX := H4.out.2.2.2.2.2.2.1
         refine ⟨RowIs.set hrow 2 _, ⟨⟨by have h9 := H2.out.2.2.2.2.2; show s.length ≤ maxLen; unfold maxLen; omega, by show l.length * 32 ≤ _; rw [hln]; omega, h32, by show X.length * 40 ≤ _; rw [hX]; have := H4.out.2.2.2.2.2.2.2.1; omega, fun y hy => (by have h9 := H4.out.2.2.2.2.2.2.2.2 y hy; unfold maxLen; omega)⟩, ?_, ?_⟩, H2.out.2.2.2.2.1.three H4.out.2.2.2.2.1 hst, hr.setNew HPG.out.2.2.2.1 _, k1⟩
         · show OwnL _ _ _ _ (.slice a l.length c) _
           rw [hln]; exact ho2
         · show OwnB _ _ (.slice ba X.length bc) _
           rw [hX]; exact hoB
       have HW6 : Hid (w5.setCell ⟨g0, 2, none⟩ (.slice a n c) = w6) := hw6
       have HAR : Hid ((rxc ⟨s, ba, bc, X, a, c, l⟩).toArray = #[.string (strOf s), .slice ba k bc, .slice a n c]) := by unfold Hid rxc; rw [hln, H4.out.2.2.2.2.2.2.1]
       clear hln h32 hn4 ho hst hr hb hw6 hrow)
    | (rw [HW6.out])
    | (refine wpList_load_row rfl 41 (.tmp 1) rfl g0 rfl 41 (rxc ⟨s, ba, bc, X, a, c, l⟩).toArray (0, 0) _ (by rw [HAR.out]; exact H6.out.1) Try.underlying41 rfl (size41 _) ?_)
    | (refine wpList_store_row rfl 41 (.tmp 1) (.tmp 14) rfl g0 (rxc ⟨s, ba, bc, X, a, c, l⟩).toArray rfl rfl 41 (rxc ⟨s, ba, bc, X, a, c, l⟩).toArray (by rw [HAR.out]; exact H6.out.1) (size41 _) rfl (by simpa using rs_one [⟨s, ba, bc, X, a, c, l⟩] (rxc ⟨s, ba, bc, X, a, c, l⟩) (by simp [rsL])) ?_))
  refine bodyPost_ret (v := .agg (rxc ⟨s, ba, bc, X, a, c, l⟩).toArray) (results_cell_row Try.results54 _ _ g0 41 _ (0, 0) _ rfl (RowIs.setRow H6.out.1 _) Try.underlying41 rfl (size41 _)) rfl ⟨_, _, _, rfl, H6.out.2.row HPG.out.2.2.2.1 (by rw [HPG.out.2.2.2.2.1]; exact Nat.le_refl _) H6.out.1 _⟩
end Go.Proofs.Ytcmcapcagblafaa
