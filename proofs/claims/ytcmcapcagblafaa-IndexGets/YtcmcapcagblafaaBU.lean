/-
  BranchApart (7).
-/
import Derived.Test.YtcmcapcagblafaaBS
namespace Go.Proofs.Ytcmcapcagblafaa
open Go.RowKit Go.Maps Dsk
attribute [local go_sem] Oper.semAt_some
def erS (S : Tb) (x : Ac) : Nat := if x.k.toNat % 4 ≤ 1 then crE S x.nm x.l else if x.k.toNat % 4 = 2 then mvE S x.nm x.l else dlE S x.nm
theorem er_keep {S : Tb} {x : Ac} (h : erS S x ≠ 0) : stS S x = S := by
  unfold erS at h
  unfold stS
  split
  · rename_i h1; rw [if_pos h1] at h; unfold crS; rw [if_neg h]
  · rename_i h1
    rw [if_neg h1] at h
    split
    · rename_i h2; rw [if_pos h2] at h; unfold mvS; rw [if_neg h]
    · rename_i h2; rw [if_neg h2] at h; unfold dlS; rw [if_neg h]
theorem fget_put_ne {nm k : Dsk.Nm} {x : List H} {S : Tb} (hr : rising S) (hne : k ≠ nm) : fget nm (fput k x S) = fget nm S := by
  cases hg : fget nm S with
  | some y => exact rising_get (fput_rising _ _ hr) ((fput_mem _ _ _ _).2 (.inr ⟨fget_mem hg, fun e => hne e.symm⟩))
  | none =>
    cases hg2 : fget nm (fput k x S) with
    | none => rfl
    | some y =>
      have h1 := fget_mem hg2
      rcases (fput_mem _ _ _ _).1 h1 with e | ⟨h2, _⟩
      · cases e; exact absurd rfl hne
      · rw [rising_get hr h2] at hg; cases hg
theorem fget_del_ne {nm k : Dsk.Nm} {S : Tb} (hr : rising S) (hne : k ≠ nm) : fget nm (fdel k S) = fget nm S := by
  cases hg : fget nm S with
  | some y => exact rising_get (fdel_rising _ hr) ((fdel_mem _ _ _).2 ⟨fget_mem hg, fun e => hne e.symm⟩)
  | none =>
    cases hg2 : fget nm (fdel k S) with
    | none => rfl
    | some y =>
      have h1 := ((fdel_mem _ _ _).1 (fget_mem hg2)).1
      rw [rising_get hr h1] at hg; cases hg
theorem get_keep {S : Tb} (hr : rising S) {x : Ac} {nm : Dsk.Nm} (hne : x.nm ≠ nm) : fget nm (stS S x) = fget nm S := by
  unfold stS crS mvS dlS
  split
  · split
    · exact fget_put_ne hr hne
    · rfl
  · split
    · split
      · exact fget_put_ne hr hne
      · rfl
    · split
      · exact fget_del_ne hr hne
      · rfl
def zac : Ac := ⟨0, [], none, 0, []⟩
theorem one32 (x : Ac) : (acv x).toArray.all (·.oneCell') = true := by simp [acv, Value.oneCell']
theorem len0 {cs : List Ent} {nm : Dsk.Nm} {hl : List H} (h : fls cs = crS [] nm hl) (h2 : crS [] nm hl = []) : cs.length = 0 := by
  have := fls_len cs
  rw [h, h2] at this
  simpa using this.symm
/-- A table that stands, with all of it new. -/
structure TbI (w : World) (tb mb : Nat) (F : Nat → Prop) (cs : List Ent) (wr : World) : Prop where
  aft : After w wr
  tab : TbA wr F tb mb cs
  ok : TOk (fls cs)
  fs : ∀ b, F b → w.heap.size ≤ b ∧ b < wr.heap.size
theorem TbI.after {w wr w' : World} {tb mb : Nat} {F : Nat → Prop} {cs : List Ent} (h : TbI w tb mb F cs wr) (ha : After wr w') : TbI w tb mb F cs w' := ⟨h.aft.trans ha, h.tab.after ha, h.ok, fun b hb => ⟨(h.fs b hb).1, Nat.lt_of_lt_of_le (h.fs b hb).2 ha.size⟩⟩
theorem TbI.call {w wr w' : World} {tb mb : Nat} {F : Nat → Prop} {cs cs' : List Ent} (h : TbI w tb mb F cs wr) (ht : TbA w' (more F wr w') tb mb cs') (hk : KeptF (fun b => b = mb) wr w') (ho : TOk (fls cs')) : TbI w tb mb (more F wr w') cs' w' := by
  refine ⟨Below.trans h.aft (hk.below h.aft.size (fun b hb => by rw [hb]; exact (h.fs mb h.tab.fmb).1)), ht, ho, fun b hb => ?_⟩
  rcases hb with hb | hb
  · have := h.fs b hb; have := hk.size; exact ⟨by omega, by omega⟩
  · have := h.aft.size; exact ⟨by omega, by omega⟩
theorem same24_self {w : World} {X Y : List Bx} {a b : Option Addr} {n m c d : Nat} (hx : BsAt w a X) (hy : BsAt w b Y) (he : bof X = bof Y) (hn : X.length = n) (hm : Y.length = m) (hs : n ≤ 64) : Calls Try.prog 35 #[.slice a n c, .slice b m d] w fun e w' => e = .returned (.bool true) ∧ After w w' :=
  (same24 (ca := c) (cb := d) hn hm (by omega) hx hy).mono (fun e w' ⟨h1, h2⟩ => ⟨by rw [h1, he]; simp, h2⟩)
end Go.Proofs.Ytcmcapcagblafaa
