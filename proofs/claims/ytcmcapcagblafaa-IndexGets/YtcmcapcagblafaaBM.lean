/-
  TABLES OF BRANCHES: their mathematics.
-/
import Derived.Test.YtcmcapcagblafaaPM
import Derived.Test.YtcmcapcagblafaaRI
import Derived.Test.YtcmcapcagblafaaNames
namespace Go.Proofs.Ytcmcapcagblafaa
open Go Dsk
abbrev Tb := List (Dsk.Nm × List H)
/-- May hashes be heads? -/
def mayB (h : List H) : Bool := decide (h.length ≤ 16) && upB h
structure TOk (S : Tb) : Prop where
  ris : rising S
  few : S.length ≤ 64
  nam : ∀ p ∈ S, nmB p.1 = true
  may : ∀ p ∈ S, mayB p.2 = true
  l32 : ∀ p ∈ S, All32 p.2
def crE (S : Tb) (nm : Dsk.Nm) (h : List H) : Nat := if nmB nm = false then 30 else if mayB h = false then 41 else if fhas nm S = true then 23 else if 64 ≤ S.length then 21 else 0
def mvE (S : Tb) (nm : Dsk.Nm) (h : List H) : Nat := if fhas nm S = false then 45 else if mayB h = false then 41 else 0
def dlE (S : Tb) (nm : Dsk.Nm) : Nat := if fhas nm S = false then 45 else 0
def crS (S : Tb) (nm : Dsk.Nm) (h : List H) : Tb := if crE S nm h = 0 then fput nm h S else S
def mvS (S : Tb) (nm : Dsk.Nm) (h : List H) : Tb := if mvE S nm h = 0 then fput nm h S else S
def dlS (S : Tb) (nm : Dsk.Nm) : Tb := if dlE S nm = 0 then fdel nm S else S
theorem mayB_len {h : List H} (hm : mayB h = true) : h.length ≤ 16 := by
  unfold mayB at hm; simp at hm; exact hm.1
theorem nmB_len {s : List UInt8} (h : nmB s = true) : s.length ≤ 32 := by
  unfold nmB at h; simp at h; exact h.1.2
theorem TOk.nil : TOk [] := ⟨List.Pairwise.nil, by simp, fun _ h => by simp at h, fun _ h => by simp at h, fun _ h => by simp at h⟩
theorem fput_len_has {α : Type} {nm : Dsk.Nm} {x : α} {l : List (Dsk.Nm × α)} (h : fhas nm l = true) : (fput nm x l).length ≤ l.length := by
  unfold fput; rw [fins_len]; exact fdel_len_has h
theorem TOk.put {S : Tb} (h : TOk S) {nm : Dsk.Nm} {x : List H} (hn : nmB nm = true) (hm : mayB x = true) (h32 : All32 x) (hl : fhas nm S = true ∨ S.length < 64) : TOk (fput nm x S) := by
  refine ⟨fput_rising _ _ h.ris, ?_, fun p hp => ?_, fun p hp => ?_, fun p hp => ?_⟩
  · rcases hl with hl | hl
    · exact Nat.le_trans (fput_len_has hl) h.few
    · have := fput_len nm x S; omega
  · rcases (fput_mem nm x S p).1 hp with rfl | ⟨hp, _⟩
    · exact hn
    · exact h.nam p hp
  · rcases (fput_mem nm x S p).1 hp with rfl | ⟨hp, _⟩
    · exact hm
    · exact h.may p hp
  · rcases (fput_mem nm x S p).1 hp with rfl | ⟨hp, _⟩
    · exact h32
    · exact h.l32 p hp
theorem TOk.del {S : Tb} (h : TOk S) (nm : Dsk.Nm) : TOk (fdel nm S) := by
  refine ⟨fdel_rising _ h.ris, Nat.le_trans (fdel_len nm S) h.few, fun p hp => ?_, fun p hp => ?_, fun p hp => ?_⟩
  · exact h.nam p ((fdel_mem nm S p).1 hp).1
  · exact h.may p ((fdel_mem nm S p).1 hp).1
  · exact h.l32 p ((fdel_mem nm S p).1 hp).1
theorem fhas_nam {S : Tb} (h : TOk S) {nm : Dsk.Nm} (hh : fhas nm S = true) : nmB nm = true := by
  obtain ⟨x, hx⟩ := fhas_some hh
  exact h.nam _ (fget_mem hx)
theorem TOk.cr {S : Tb} (h : TOk S) (nm : Dsk.Nm) (x : List H) (h32 : All32 x) : TOk (crS S nm x) := by
  unfold crS
  split
  · rename_i he
    unfold crE at he
    split at he
    · cases he
    · rename_i hn
      split at he
      · cases he
      · rename_i hm
        split at he
        · cases he
        · split at he
          · cases he
          · exact h.put (by simpa using hn) (by simpa using hm) h32 (.inr (by omega))
  · exact h
theorem TOk.mv {S : Tb} (h : TOk S) (nm : Dsk.Nm) (x : List H) (h32 : All32 x) : TOk (mvS S nm x) := by
  unfold mvS
  split
  · rename_i he
    unfold mvE at he
    split at he
    · cases he
    · rename_i hn
      split at he
      · cases he
      · rename_i hm
        have hn' : fhas nm S = true := by simpa using hn
        exact h.put (fhas_nam h hn') (by simpa using hm) h32 (.inl hn')
  · exact h
theorem TOk.dl {S : Tb} (h : TOk S) (nm : Dsk.Nm) : TOk (dlS S nm) := by
  unfold dlS; split
  · exact h.del nm
  · exact h
/-- Where a name stands, or would. -/
def plc {α : Type} (nm : Dsk.Nm) : List (Dsk.Nm × α) → Nat
  | [] => 0
  | p :: r => if bytesBefore p.1 nm = true then plc nm r + 1 else 0
section
variable {α : Type}
theorem plc_le (nm : Dsk.Nm) : ∀ l : List (Dsk.Nm × α), plc nm l ≤ l.length
  | [] => Nat.le_refl _
  | p :: r => by
    have := plc_le nm r
    unfold plc; split <;> simp <;> omega
theorem plc_of (nm : Dsk.Nm) : ∀ (l : List (Dsk.Nm × α)) (i : Nat), i ≤ l.length → (∀ j p, j < i → l[j]? = some p → bytesBefore p.1 nm = true) → (∀ p, l[i]? = some p → bytesBefore p.1 nm = false) → i = plc nm l
  | [], i, h, _, _ => by simp at h; subst h; rfl
  | p :: r, 0, _, _, h => by unfold plc; rw [h p rfl]; simp
  | p :: r, i + 1, h, hj, hi => by
    unfold plc
    rw [hj 0 p (by omega) rfl]
    have := plc_of nm r i (by simpa using h) (fun j q hjq hq => hj (j + 1) q (by omega) (by simpa using hq)) (fun q hq => hi q (by simpa using hq))
    simp [← this]
theorem fhas_cons (nm : Dsk.Nm) (p : Dsk.Nm × α) (r : List (Dsk.Nm × α)) : fhas nm (p :: r) = (p.1 == nm || fhas nm r) := by simp [fhas]
theorem fdel_all {nm : Dsk.Nm} {l : List (Dsk.Nm × α)} (h : ∀ p ∈ l, p.1 ≠ nm) : fdel nm l = l := by
  unfold fdel; rw [List.filter_eq_self]; intro p hp; simp [h p hp]
theorem fdel_cons_ne {nm : Dsk.Nm} {p : Dsk.Nm × α} {r : List (Dsk.Nm × α)} (h : p.1 ≠ nm) : fdel nm (p :: r) = p :: fdel nm r := by simp [fdel, h]
theorem fins_head {x : Dsk.Nm × α} : ∀ {r : List (Dsk.Nm × α)}, (∀ p ∈ r, bytesBefore x.1 p.1 = true) → fins x r = x :: r
  | [], _ => rfl
  | y :: r, h => by unfold fins; rw [h y (by simp)]; simp
theorem fhas_false {nm : Dsk.Nm} {l : List (Dsk.Nm × α)} (h : ∀ p ∈ l, p.1 ≠ nm) : fhas nm l = false := by
  unfold fhas; rw [List.any_eq_false]; intro p hp; simp [h p hp]
theorem bb_ne {a b : Dsk.Nm} (h : bytesBefore a b = true) : a ≠ b := fun e => by rw [e, bb_irrefl] at h; cases h
theorem bb_asym {a b : Dsk.Nm} (h : bytesBefore a b = true) : bytesBefore b a = false := by
  cases hb : bytesBefore b a
  · rfl
  · have := bb_trans h hb; rw [bb_irrefl] at this; cases this
/-- All that stand ahead of a name, the name's own one, and what is behind it. -/
theorem plc_split (nm : Dsk.Nm) (x : α) : ∀ {l : List (Dsk.Nm × α)}, rising l →
    (fhas nm l = (match l[plc nm l]? with | some p => p.1 == nm | none => false)) ∧
    (fhas nm l = false → l.take (plc nm l) ++ (nm, x) :: l.drop (plc nm l) = fput nm x l) ∧
    (fhas nm l = true → l.take (plc nm l) ++ (nm, x) :: l.drop (plc nm l + 1) = fput nm x l ∧ l.take (plc nm l) ++ l.drop (plc nm l + 1) = fdel nm l)
  | [], _ => ⟨rfl, fun _ => rfl, fun h => by simp [fhas] at h⟩
  | p :: r, h => by
    obtain ⟨h1, h2⟩ := List.pairwise_cons.1 h
    obtain ⟨i1, i2, i3⟩ := plc_split nm x h2
    by_cases hb : bytesBefore p.1 nm = true
    · have hne := bb_ne hb
      have hpl : plc nm (p :: r) = plc nm r + 1 := by rw [plc, if_pos hb]
      have hf : fhas nm (p :: r) = fhas nm r := by rw [fhas_cons]; simp [hne]
      have hfi : ∀ t, fins (nm, x) (p :: t) = p :: fins (nm, x) t := fun t => by
        show (if bytesBefore nm p.1 = true then _ else _) = _
        rw [bb_asym hb]; simp
      rw [hpl, hf]
      simp only [List.getElem?_cons_succ, List.take_succ_cons, List.drop_succ_cons, List.cons_append]
      refine ⟨i1, fun hh => ?_, fun hh => ?_⟩
      · rw [i2 hh]; unfold fput; rw [fdel_cons_ne hne, hfi]
      · rw [(i3 hh).1, (i3 hh).2]; unfold fput; rw [fdel_cons_ne hne, hfi]; exact ⟨rfl, rfl⟩
    · have hb' : bytesBefore p.1 nm = false := by simpa using hb
      have hpl : plc nm (p :: r) = 0 := by rw [plc, if_neg hb]
      rw [hpl]
      simp only [List.getElem?_cons_zero, List.take_zero, List.drop_zero, List.nil_append, List.drop_succ_cons, Nat.zero_add]
      by_cases he : p.1 = nm
      · have hr : ∀ q ∈ r, bytesBefore nm q.1 = true := fun q hq => by rw [← he]; exact h1 q hq
        have hd : fdel nm (p :: r) = r := by
          have : fdel nm r = r := fdel_all (fun q hq => (bb_ne (hr q hq)).symm)
          simp [fdel, he] at this ⊢; exact this
        refine ⟨by rw [fhas_cons]; simp [he], fun hh => ?_, fun _ => ⟨?_, hd.symm⟩⟩
        · rw [fhas_cons] at hh; simp [he] at hh
        · unfold fput; rw [hd, fins_head hr]
      · have hb2 := bb_total he hb'
        have hr : ∀ q ∈ p :: r, bytesBefore nm q.1 = true := fun q hq => by
          rcases List.mem_cons.1 hq with rfl | hq
          · exact hb2
          · exact bb_trans hb2 (h1 q hq)
        have hf : fhas nm (p :: r) = false := fhas_false (fun q hq => (bb_ne (hr q hq)).symm)
        refine ⟨by rw [hf]; simp [he], fun _ => ?_, fun hh => ?_⟩
        · unfold fput; rw [fdel_all (fun q hq => (bb_ne (hr q hq)).symm), fins_head hr]
        · rw [hf] at hh; cases hh
end
end Go.Proofs.Ytcmcapcagblafaa
