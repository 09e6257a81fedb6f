/-
  A branch that is read: records$1$1 (57); gathered[Branch] (56).
-/
import Derived.Test.YtcmcapcagblafaaXF
namespace Go.Proofs.Ytcmcapcagblafaa
open Go.RowKit Go.Maps Dsk Leb
attribute [local go_sem] Oper.semAt_some
theorem SlAt.keep {w w' : World} {k : Nat} {a : Option Addr} {L : List (List Value)} (h : SlAt w k a L) (hk : ∀ ad, a = some ad → w'.heap[ad.block]? = w.heap[ad.block]?) : SlAt w' k a L := ⟨h.1, fun hn => by
  obtain ⟨b, o, e, hr⟩ := h.2 hn
  exact ⟨b, o, e, fun j v hv => (World.cell?_of_block (w := w) (show w'.heap[(⟨b, o + j, none⟩ : Addr).block]? = w.heap[(⟨b, o + j, none⟩ : Addr).block]? from hk ⟨b, o, none⟩ e)).trans (hr j v hv)⟩⟩
theorem BxAt.keep {w w' : World} {x : Bx} (h : BxAt w x) (hk : ∀ ad, x.a = some ad → w'.heap[ad.block]? = w.heap[ad.block]?) : BxAt w' x := ⟨h.sl.keep hk, h.l32, h.z, h.fit⟩
/-- Branches of one's own stay where rows of branches and of hashes stay. -/
theorem OwnB.keep {w w' : World} {B : Nat} {v : Value} {X : List Bx} (h : OwnB w B v X) (hs : w.heap.size ≤ w'.heap.size) (hk : ∀ b t cs, B ≤ b → RowIs w b t cs → t = 65 ∨ t = 43 → w'.heap[b]? = w.heap[b]?) : OwnB w' B v X := by
  refine ⟨h.row.same (fun b e => ?_), fun x hx => (h.each x hx).keep (fun ad e => ?_), fun x hx ad e => ?_⟩
  · obtain ⟨h1, h2, cs, h3⟩ := own_lt h.row.2 e
    exact hk b 65 cs h1 h3 (.inl rfl)
  · obtain ⟨h1, _, _, _, _, cs, h4⟩ := h.ge x hx ad e
    exact hk _ 43 cs h1 h4 (.inr rfl)
  · obtain ⟨h1, h2, h3, h4⟩ := h.ge x hx ad e
    refine ⟨h1, Nat.lt_of_lt_of_le h2 hs, h3, h4.same ?_⟩
    obtain ⟨_, _, cs, h5⟩ := h4
    exact hk _ 43 cs h1 h5 (.inr rfl)
theorem OwnB.but {w w' : World} {B g : Nat} {v : Value} {X : List Bx} (h : OwnB w B v X) (hb : But g w w') (hg : g < B) : OwnB w' B v X :=
  h.keep hb.size (fun b t cs h1 h2 _ => hb.block b h2.lt (by omega))
theorem But.setNew {g : Nat} {a b : World} (h : But g a b) {p : Addr} (hp : a.heap.size ≤ p.block) (v : Value) : But g a (b.setCell p v) :=
  ⟨h.os, h.tape, h.output, by have := h.size; simpa using this, fun k hk hg => by rw [heap_setCell_other b _ k v (by omega)]; exact h.block k hk hg⟩
theorem RdS.setNew {w : World} {g m : Nat} {bs : List UInt8} {e : Nat} (h : RdS w g m bs e) {p : Addr} (hp : m ≤ p.block) (v : Value) : RdS (w.setCell p v) g m bs e :=
  h.keep (fun b hb => by rw [heap_setCell_other w _ b v (by omega)]) (by simp)
/-- A branch that was read. -/
structure BrG (w : World) (g m : Nat) (bs : List UInt8) (e : Nat) (y : Bx) (bs' : List UInt8) (e' : Nat) (w' : World) : Prop where
  nm : y.nm.length ≤ 32
  few : y.l.length ≤ 16
  l32 : All32 y.l
  own : OwnL w' w.heap.size 43 32 y.v (hsL y.l)
  stp : Stp pBr bs e (y.nm, y.l) bs' e'
  rd : RdS w' g m bs' e'
  but : But g w w'
def BrT (w : World) (g m : Nat) (bs : List UInt8) (e : Nat) (x : Ending) (w' : World) : Prop := ∃ y bs' e', x = .returned (.agg (brc y).toArray) ∧ BrG w g m bs e y bs' e' w'

theorem BrG.row {w w' : World} {g m g0 : Nat} {bs bs' : List UInt8} {e e' : Nat} {y : Bx} (h : BrG w g m bs e y bs' e' w') (hm : m ≤ g0) (hg : w.heap.size ≤ g0) {cs : List Value} (hr : RowIs w' g0 65 cs) (ds : Array Value) : BrG w g m bs e y bs' e' (w'.setRow g0 ds) :=
  ⟨h.nm, h.few, h.l32, h.own.same (fun b eb => setRow_other w' g0 b ds (fun e1 => by
    obtain ⟨_, _, cs', hr'⟩ := own_lt h.own.2 eb
    subst e1
    have := (hr.ty hr').1
    exact absurd this (by decide))), h.stp, h.rd.keep (fun b hb => setRow_other w' g0 b ds (by omega)) (by simp), ⟨h.but.os, h.but.tape, h.but.output, by have := h.but.size; simpa using this, fun k hk hne => by rw [setRow_other w' g0 k ds (by omega)]; exact h.but.block k hk hne⟩⟩
set_option maxRecDepth 100000 in
set_option maxHeartbeats 6400000 in
theorem clo57 {w : World} {g m p0 : Nat} {bs : List UInt8} {e : Nat} (h : RdS w g m bs e) (hc : w.cell? ⟨p0, 0, none⟩ = some (.pointer (some ⟨g, 0, none⟩))) (hpg : p0 ≠ g) : Calls Try.prog 57 #[.pointer (some ⟨p0, 0, none⟩)] w (BrT w g m bs e) := by
  obtain ⟨g0, hg0⟩ : ∃ g0, w.heap.size = g0 := ⟨_, rfl⟩
  obtain ⟨W0, hW0⟩ : ∃ W0, w.alloc (.cells #[.string (strOf []), .slice none 0 0] 65) = W0 := ⟨_, rfl⟩
  have hA : After w W0 := by rw [← hW0]; exact after_alloc (After.refl w) _
  have HR0 : Hid (RowIs W0 g0 65 [.string (strOf []), .slice none 0 0] ∧ After w W0 ∧ RdS W0 g m bs e) := by refine ⟨?_, hA, h.after hA⟩; rw [← hW0, ← hg0]; exact RowIs.new w 65 _
  have hp0 : p0 < w.heap.size := World.block_lt_of_cell? w _ hc
  have HPG : Hid (p0 ≠ g ∧ p0 < g0 ∧ g < g0 ∧ m ≤ g0 ∧ w.heap.size = g0) := ⟨hpg, by omega, by have := h.gm; have := h.mw; omega, by have := h.mw; omega, hg0⟩
  have HC0 : Hid (W0.cell? ⟨p0, 0, none⟩ = some (.pointer (some ⟨g, 0, none⟩))) := cell_at hA hc
  have c0 := HC0.out
  have HAL : Hid ((w.alloc (.cells (brc zbx).toArray 65)) = W0) := hW0
  clear h hc hpg hp0 hA hW0
  go_enter Try.func57, Try.ntmps57
  go_wp2_with (first
    | (refine wpList_of_run rfl (x_al48 rfl) ?_; rw [HAL.out]; rw [HPG.out.2.2.2.2])
    | (go_at_call 55; refine (text55 HR0.out.2.2).mono ?_; rintro x w1 ⟨s, b1, e1, rfl, hs, hst, hr, hb⟩
       have hrow := hb.row HR0.out.1 (by have := HPG.out.2.2.1; omega)
       have f0 := hrow.frozen 0
       have f1 := hrow.cell (j := 0) rfl
       obtain ⟨w2, hw2⟩ : ∃ w2, w1.setCell ⟨g0, 0, none⟩ (.string (strOf s)) = w2 := ⟨_, rfl⟩
       have H2 : Hid (RowIs w2 g0 65 [.string (strOf s), .slice none 0 0] ∧ RdS w2 g m b1 e1 ∧ But g w w2 ∧ w2.cell? ⟨p0, 0, none⟩ = some (.pointer (some ⟨g, 0, none⟩)) ∧ Stp (pT 32) bs e s b1 e1 ∧ s.length ≤ 32 ∧ g0 < w2.heap.size) := by
         rw [← hw2]
         have hbw : But g w w1 := (But.of_below HR0.out.2.1).trans hb
         refine ⟨RowIs.set hrow 0 _, hr.setNew (HPG.out.2.2.2.1) _, hbw.setNew (by rw [HPG.out.2.2.2.2]; exact Nat.le_refl _) _, ?_, hst, hs, ?_⟩
         · have hcc := hb.cell (p := ⟨p0, 0, none⟩) HPG.out.1 HC0.out
           rw [World.cell?_of_block (w := w1) (show (w1.setCell ⟨g0, 0, none⟩ (.string (strOf s))).heap[(⟨p0, 0, none⟩ : Addr).block]? = w1.heap[(⟨p0, 0, none⟩ : Addr).block]? from heap_setCell_other w1 _ p0 _ (by have := HPG.out.2.1; simp only; omega))]
           exact hcc
         · have := hrow.lt; simpa using this
       have HW2 : Hid (w1.setCell ⟨g0, 0, none⟩ (.string (strOf s)) = w2) := hw2
       have d0 := H2.out.2.2.2.1
       clear hs hst hr hb hw2 hrow)
    | (rw [HW2.out])
    | (go_at_call 58; refine (gather58 (most := 16) (by omega) H2.out.2.1).mono ?_; rintro x w3 ⟨a, c, k, l, b2, e2, rfl, hlk, h32, hk16, ho, hst, hr, hb⟩
       have hrow := hb.row H2.out.1 (by have := HPG.out.2.2.1; omega)
       have q0 := hrow.frozen 1
       have q1 := hrow.cell (j := 1) rfl
       obtain ⟨w4, hw4⟩ : ∃ w4, w3.setCell ⟨g0, 1, none⟩ (.slice a k c) = w4 := ⟨_, rfl⟩
       have H4 : Hid (RowIs w4 g0 65 [.string (strOf s), .slice a k c] ∧ BrG w g m bs e ⟨s, a, c, l⟩ b2 e2 w4 ∧ l.length = k) := by
         rw [← hw4]
         have hbw : But g w w3 := H2.out.2.2.1.trans hb
         have hss := H2.out.2.2.1.size
         refine ⟨RowIs.set hrow 1 _, ⟨H2.out.2.2.2.2.2.1, by rw [hlk]; exact hk16, h32, ?_, H2.out.2.2.2.2.1.two hst, hr.setNew HPG.out.2.2.2.1 _, hbw.setNew (by rw [HPG.out.2.2.2.2]; exact Nat.le_refl _) _⟩, hlk⟩
         have ho2 : OwnL (w3.setCell ⟨g0, 1, none⟩ (.slice a k c)) w2.heap.size 43 32 (.slice a k c) (hsL l) := ho.same (fun b eb => heap_setCell_other w3 _ b _ (by have h1 := (own_lt ho.2 eb).1; have h2 := H2.out.2.2.2.2.2.2; simp only; omega))
         have ho3 := ho2.lower hss
         show OwnL _ _ _ _ (.slice a l.length c) _
         rw [hlk]
         exact ho3
       have HW4 : Hid (w3.setCell ⟨g0, 1, none⟩ (.slice a k c) = w4) := hw4
       have HAR : Hid ((brc ⟨s, a, c, l⟩).toArray = #[.string (strOf s), .slice a k c]) := by unfold Hid brc Bx.v; rw [hlk]
       clear hlk h32 hk16 ho hst hr hb hw4 hrow)
    | (rw [HW4.out])
    | (refine wpList_load_row rfl 65 (.tmp 1) rfl g0 rfl 65 (brc ⟨s, a, c, l⟩).toArray (0, 0) _ (by rw [HAR.out]; exact H4.out.1) Try.underlying65 rfl (size48 _) ?_)
    | (refine wpList_store_row rfl 65 (.tmp 1) (.tmp 10) rfl g0 (brc ⟨s, a, c, l⟩).toArray rfl rfl 65 (brc ⟨s, a, c, l⟩).toArray (by rw [HAR.out]; exact H4.out.1) (size48 _) rfl (by simpa using bs_one [⟨s, a, c, l⟩] (brc ⟨s, a, c, l⟩) (by simp [bsL])) ?_))
  refine bodyPost_ret (v := .agg (brc ⟨s, a, c, l⟩).toArray) (results_cell_row Try.results57 _ _ g0 65 _ (0, 0) _ rfl (RowIs.setRow H4.out.1 _) Try.underlying65 rfl (size48 _)) rfl ⟨_, _, _, rfl, H4.out.2.1.row HPG.out.2.2.2.1 (by rw [HPG.out.2.2.2.2]; exact Nat.le_refl _) (H4.out.1) _⟩
end Go.Proofs.Ytcmcapcagblafaa
