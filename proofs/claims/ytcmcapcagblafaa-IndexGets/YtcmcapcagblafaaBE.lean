/-
  THE WALK OF (*Table).List (23).
-/
import Derived.Test.YtcmcapcagblafaaBD
namespace Go.Proofs.Ytcmcapcagblafaa
open Go.RowKit Go.Maps Dsk
attribute [local go_sem] Oper.semAt_some
theorem own_block {w : World} {B : Nat} {t : TypeId} {k n c : Nat} {a : Option Addr} {L : List (List Value)} (h : OwnL w B t k (.slice a n c) L) : ∀ ad, a = some ad → B ≤ ad.block ∧ ad.block < w.heap.size := fun ad e => by
  subst e
  rcases own_row h.2 with ⟨e, _⟩ | ⟨g, cap, cs, e, hb, hr, _⟩
  · cases e
  · cases e; exact ⟨hb, hr.lt⟩
theorem own_rw {w : World} {B k n c : Nat} {a : Option Addr} {L : List (List Value)} (h : OwnL w B 43 k (.slice a n c) L) : ∀ ad, a = some ad → RwAt w ad := fun ad e => by
  subst e
  rcases own_row h.2 with ⟨e, _⟩ | ⟨g, cap, cs, e, hb, hr, _⟩
  · cases e
  · cases e; exact ⟨rfl, rfl, cs, hr⟩
theorem OwnB.lt {w : World} {B : Nat} {v : Value} {X : List Bx} (h : OwnB w B v X) {b : Nat} (hb : v.ownBlock = some b) : b < w.heap.size := (own_lt h.row.2 hb).2.1
theorem OwnB.lower {w : World} {B B' : Nat} {v : Value} {X : List Bx} (h : OwnB w B v X) (hb : B' ≤ B) : OwnB w B' v X := ⟨h.row.lower hb, h.each, fun x hx ad e => ⟨Nat.le_trans hb (h.ge x hx ad e).1, (h.ge x hx ad e).2⟩⟩
theorem ls_step {w wr w4 : World} {S : Tb} {i m : Nat} {v : Value} {X : List Bx} (h : LsI w S i v X wr) {nm : Dsk.Nm} {l : List H} (hS : S[i]? = some (nm, l)) (h32 : All32 l) (hm : l.length = m) (hi : i ≤ 64) (hm16 : m ≤ 16) {a' : Option Addr} {c' : Nat} (ho : OwnL w4 wr.heap.size 43 32 (.slice a' m c') (hsL l)) (ha : After wr w4) (hz : a' = none → c' = 0) :
    ∃ va vc w6, (Builtin.append_ #[38, 38] 38 #[v, .slice (some ⟨w4.heap.size, 0, none⟩) 1 1]).run Try.prog (w4.alloc (.cells #[.string (strOf nm), .slice a' m c'] 65)) = .ok (.slice va (X.length + 1) vc) w6 ∧ LsI w S (i + 1) (.slice va (X.length + 1) vc) (X ++ [⟨nm, a', c', l⟩]) w6 := by
  have hX : X.length = i := by
    have := congrArg List.length h.pre
    rw [bof_len, List.length_take] at this
    have := (List.getElem?_eq_some_iff.1 hS).1
    omega
  obtain ⟨a2, c2, e2, hs2⟩ := ho.sl
  injection e2 with q1 q2 q3
  subst q1 q3
  have hx4 : BxAt w4 ⟨nm, a', c', l⟩ := ⟨hs2, h32, hz, by simp only; omega⟩
  have hbox := hx4.box
  have ev : Bx.v ⟨nm, a', c', l⟩ = .slice a' m c' := by unfold Bx.v; rw [hm]
  rw [ev] at hbox
  obtain ⟨w5, hw5⟩ : ∃ w5, w4.alloc (.cells #[.string (strOf nm), .slice a' m c'] 65) = w5 := ⟨_, rfl⟩
  have a45 : After w4 w5 := by rw [← hw5]; exact after_alloc (After.refl w4) _
  rw [hw5] at hbox ⊢
  have o5 : OwnB w5 w.heap.size v X := (h.own.after ha).after a45
  have s5 := a45.size
  have s4 := ha.size
  have s0 := h.aft.size
  obtain ⟨va, vc, w6, r1, r2, r3, r4⟩ := run_appB 38 o5 (Y := [⟨nm, a', c', l⟩]) (m := 1) (c := 1) rfl hbox (by omega) (by omega) (fun e => by cases e)
  refine ⟨va, vc, w6, r1, after_grown ((h.aft.trans ha).trans a45) r3 (by omega) (fun k hk => (own_lt o5.row.2 hk).1), o5.grow (fun y hy => ?_) r2 r3 r4, ?_⟩
  · rw [List.mem_singleton] at hy
    subst hy
    refine ⟨hx4.after a45, fun ad e => ?_⟩
    have hb := own_block ho ad e
    refine ⟨by omega, by omega, fun e' => ?_, (own_rw ho ad e).same (a45.block _ hb.2)⟩
    have := h.own.lt e'
    omega
  · rw [bof_snoc, h.pre, List.take_add_one, hS]; rfl
end Go.Proofs.Ytcmcapcagblafaa
