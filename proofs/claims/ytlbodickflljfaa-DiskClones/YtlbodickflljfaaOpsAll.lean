/-
  EACH CALL OF A DISK, WHATEVER COMES OF IT.
-/
import Derived.Test.YtlbodickflljfaaClone
namespace Go.Proofs.Ytlbodickflljfaa
open Go.RowKit Go.Maps Dsk
def getF (S : Dk) (nm : Nm) : Fl := (fget nm S.files).getD ⟨[], 0⟩
theorem getF_of {S : Dk} {nm : Nm} (h : findE S nm = 0) : fget nm S.files = some (getF S nm) := by
  obtain ⟨f, hf⟩ := fhas_some (findE_ok h).2
  unfold getF; rw [hf]; rfl
def removeE (S : Dk) (nm : Nm) : Nat := if findE S nm = 0 then stepE S else findE S nm
def removeS (S : Dk) (nm : Nm) : Dk := if findE S nm = 0 then stepS S S.done (fdel nm S.files) else S
def syncS (S : Dk) (nm : Nm) : Dk := if findE S nm = 0 then stepS S false (fput nm ⟨(getF S nm).data, (getF S nm).data.length⟩ S.files) else S
def appendE (S : Dk) (nm : Nm) (p : List UInt8) : Nat := if findE S nm = 0 then (if S.most - used S.files < p.length then 21 else stepE S) else findE S nm
def appendS (S : Dk) (nm : Nm) (p : List UInt8) : Dk := if findE S nm = 0 then (if S.most - used S.files < p.length then S else stepS S true (fput nm ⟨(getF S nm).data ++ p, (getF S nm).safe⟩ S.files)) else S
def cutBad (S : Dk) (nm : Nm) (k : Int) : Bool := decide (k < 0) || decide (((getF S nm).data.length : Int) < k)
def cutE (S : Dk) (nm : Nm) (k : Int) : Nat := if findE S nm = 0 then (if cutBad S nm k then 2 else stepE S) else findE S nm
def cutS (S : Dk) (nm : Nm) (k : Int) : Dk := if findE S nm = 0 then (if cutBad S nm k then S else stepS S S.done (fput nm ⟨(getF S nm).data.take k.toNat, k.toNat⟩ S.files)) else S
def renameE (S : Dk) (nm nw : Nm) : Nat := if refuse S [nm, nw] = 0 then (if findE S nm = 0 then stepE S else findE S nm) else refuse S [nm, nw]
def renameS (S : Dk) (nm nw : Nm) : Dk := if refuse S [nm, nw] = 0 then (if findE S nm = 0 then stepS S S.done (fput nw (getF S nm) (fdel nm S.files)) else S) else S
section
variable (F : Nat → Prop) (sb : Nat) (S : Dk) (hS : Ok S) (hst : S.steps < 4611686018427387904) (nm : Nm) (hl : nm.length ≤ maxLen) (w : World) (hd : DiskAt w F sb S) (hF : ∀ i, F i → i < w.heap.size)
include hS hst hl hd hF
theorem remove_any : Calls Try.prog 22 #[.pointer (some ⟨sb, 0, none⟩), .string (strOf nm)] w (SPost F w sb (removeE S nm) (removeS S nm)) := by
  unfold removeE removeS
  by_cases h : findE S nm = 0
  · rw [if_pos h, if_pos h]; exact remove_go F sb S hS hst nm hl w hd hF h
  · rw [if_neg h, if_neg h]; exact remove_bad F sb S nm hl w hd hF _ rfl h
theorem sync_any : Calls Try.prog 27 #[.pointer (some ⟨sb, 0, none⟩), .string (strOf nm)] w (SPost F w sb (removeE S nm) (syncS S nm)) := by
  unfold removeE syncS
  by_cases h : findE S nm = 0
  · rw [if_pos h, if_pos h]; exact sync_go F sb S hS hst nm hl w hd hF h _ (getF_of h)
  · rw [if_neg h, if_neg h]; exact sync_bad F sb S nm hl w hd hF _ rfl h
theorem append_any (pa : Option Addr) (pn pc : Nat) (p : List UInt8) (hp : p.length = pn) (hpa : BytesAt w pa p) (hpf : p ≠ [] → ∀ a, pa = some a → ¬ F a.block) :
    Calls Try.prog 24 #[.pointer (some ⟨sb, 0, none⟩), .string (strOf nm), .slice pa pn pc] w (SPost F w sb (appendE S nm p) (appendS S nm p)) := by
  unfold appendE appendS
  by_cases h : findE S nm = 0
  · rw [if_pos h, if_pos h, hp]
    by_cases hf : S.most - used S.files < pn
    · rw [if_pos hf, if_pos hf]; exact append_full F sb S hS nm hl pa pn pc w hd hF h _ (getF_of h) hf
    · rw [if_neg hf, if_neg hf]; exact append_go F sb S hS hst nm hl pa pn pc w hd hF h _ (getF_of h) p hp hpa hpf (by omega)
  · rw [if_neg h, if_neg h]; exact append_bad F sb S nm hl pa pn pc w hd hF _ rfl h
theorem cut_any (k : Int) : Calls Try.prog 33 #[.pointer (some ⟨sb, 0, none⟩), .string (strOf nm), .int .i64 k] w (SPost F w sb (cutE S nm k) (cutS S nm k)) := by
  unfold cutE cutS
  by_cases h : findE S nm = 0
  · rw [if_pos h, if_pos h]
    cases hb : cutBad S nm k with
    | true =>
      unfold cutBad at hb
      simp only [Bool.or_eq_true, decide_eq_true_eq] at hb
      rcases hb with hb | hb
      · exact cut_neg F sb S hS nm hl k w hd hF h _ (getF_of h) hb
      · exact cut_far F sb S hS nm hl k w hd hF h _ (getF_of h) hb
    | false =>
      unfold cutBad at hb
      simp only [Bool.or_eq_false_iff, decide_eq_false_iff_not] at hb
      exact cut_go F sb S hS hst nm hl k w hd hF h _ (getF_of h) (by omega) (by omega)
  · rw [if_neg h, if_neg h]; exact cut_bad F sb S nm hl k w hd hF _ rfl h
theorem rename_any (nw : Nm) (hlw : nw.length ≤ maxLen) : Calls Try.prog 32 #[.pointer (some ⟨sb, 0, none⟩), .string (strOf nm), .string (strOf nw)] w (SPost F w sb (renameE S nm nw) (renameS S nm nw)) := by
  unfold renameE renameS
  by_cases h0 : refuse S [nm, nw] = 0
  · rw [if_pos h0, if_pos h0]
    by_cases h : findE S nm = 0
    · rw [if_pos h, if_pos h]; exact rename_go F sb S hS hst nm nw hl hlw w hd hF h0 h _ (getF_of h)
    · rw [if_neg h, if_neg h]; exact rename_bad F sb S nm nw hl hlw w hd hF h0 _ rfl h
  · rw [if_neg h0, if_neg h0]; exact rename_refused F sb S nm nw hl hlw w hd hF _ rfl h0
end
theorem Ok.remove {S : Dk} (h : Ok S) (nm : Nm) : Ok (removeS S nm) := by
  unfold removeS; split
  · exact h.step _ (h.fs.del nm)
  · exact h
theorem Ok.sync {S : Dk} (h : Ok S) (nm : Nm) : Ok (syncS S nm) := by
  unfold syncS; split
  · rename_i hf
    exact h.step _ (h.fs.put (getF_of hf) (by have := h.used; simp only; omega) (Nat.le_refl _))
  · exact h
theorem Ok.append {S : Dk} (h : Ok S) (nm : Nm) (p : List UInt8) : Ok (appendS S nm p) := by
  unfold appendS; split
  · rename_i hf
    split
    · exact h
    · rename_i hp
      refine h.step _ (h.fs.put (getF_of hf) ?_ ?_)
      · have := h.used
        simp only [List.length_append]; omega
      · have := h.safe _ (fget_mem (getF_of hf))
        simp only [List.length_append] at this ⊢; omega
  · exact h
theorem Ok.cut {S : Dk} (h : Ok S) (nm : Nm) (k : Int) : Ok (cutS S nm k) := by
  unfold cutS; split
  · rename_i hf
    split
    · exact h
    · rename_i hb
      simp only [cutBad, Bool.not_eq_true, Bool.or_eq_false_iff, decide_eq_false_iff_not] at hb
      have h1 := h.used
      refine h.step _ (h.fs.put (getF_of hf) ?_ ?_)
      · simp only [List.length_take]; omega
      · simp only [List.length_take]; omega
  · exact h
theorem Ok.rename {S : Dk} (h : Ok S) (nm nw : Nm) : Ok (renameS S nm nw) := by
  unfold renameS; split
  · rename_i h0
    split
    · rename_i hf
      exact h.step _ (h.fs.ren (getF_of hf) (refuse_len h0 (nm := nw) (by simp)).1)
    · exact h
  · exact h
theorem stepS_steps (S : Dk) (d : Bool) (fs : List (Nm × Fl)) : (stepS S d fs).steps ≤ S.steps + 1 := by
  unfold stepS; split <;> simp
theorem create_steps (S : Dk) (nm : Nm) : (createS S nm).steps ≤ S.steps + 1 := by
  unfold createS; split
  · split
    · omega
    · split
      · omega
      · exact stepS_steps _ _ _
  · omega
theorem remove_steps (S : Dk) (nm : Nm) : (removeS S nm).steps ≤ S.steps + 1 := by
  unfold removeS; split
  · exact stepS_steps _ _ _
  · omega
theorem sync_steps (S : Dk) (nm : Nm) : (syncS S nm).steps ≤ S.steps + 1 := by
  unfold syncS; split
  · exact stepS_steps _ _ _
  · omega
theorem append_steps (S : Dk) (nm : Nm) (p : List UInt8) : (appendS S nm p).steps ≤ S.steps + 1 := by
  unfold appendS; split
  · split
    · omega
    · exact stepS_steps _ _ _
  · omega
theorem cut_steps (S : Dk) (nm : Nm) (k : Int) : (cutS S nm k).steps ≤ S.steps + 1 := by
  unfold cutS; split
  · split
    · omega
    · exact stepS_steps _ _ _
  · omega
theorem rename_steps (S : Dk) (nm nw : Nm) : (renameS S nm nw).steps ≤ S.steps + 1 := by
  unfold renameS; split
  · split
    · exact stepS_steps _ _ _
    · omega
  · omega
theorem fail_steps (S : Dk) (n : Int) (d : Bool) : (failD S n d).steps = S.steps := by
  unfold failD; split
  · rfl
  · split <;> rfl
end Go.Proofs.Ytlbodickflljfaa
