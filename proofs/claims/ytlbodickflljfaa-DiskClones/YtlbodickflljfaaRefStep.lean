/-
  (stemmaref05.Disk).step, either, with, without, in the disk's own words.
-/
import Derived.Test.YtlbodickflljfaaRefPut
namespace Go.Proofs.Ytlbodickflljfaa
open Go.RowKit Go.Maps Dsk
/-- A slice of files. -/
structure FA (w : World) (ao : Option Addr) (n c : Nat) (l : List (Nm × Fl)) : Prop where
  at_ : FilesAt w ao l
  len : l.length = n
  cap : n ≤ c
  z : ao = none → c = 0
theorem FA.after {w w' : World} {ao : Option Addr} {n c : Nat} {l : List (Nm × Fl)} (h : FA w ao n c l) (ha : After w w') : FA w' ao n c l := ⟨h.at_.after ha, h.len, h.cap, h.z⟩
/-- What an operation of ref leaves. -/
def RPostR (w : World) (r : Nat) (S : Dk) (e : Ending) (w' : World) : Prop := ∃ v, e = .returned (.tuple #[v, .int .i64 (r : Int)]) ∧ RefAt w' v S ∧ After w w'
theorem RefAt.of {w : World} {S : Dk} {ao : Option Addr} {n c : Nat} {ar : Bool} {lf : Nat} {dn : Bool} (h : FA w ao n c S.files) (hr : S.down = false → ar = S.said ∧ lf = S.left ∧ dn = S.done) (hl : lf < 9223372036854775808) : RefAt w (.agg (rV S ao n c ar lf dn)) S :=
  ⟨ao, c, ar, lf, dn, by rw [h.len], h.at_, by rw [h.len]; exact h.cap, hr, hl, h.z⟩
theorem stepR {w : World} (S : Dk) (hst : S.steps < 4611686018427387904) (hl : S.left < 9223372036854775808) (ao ao1 ao2 : Option Addr) (n c n1 c1 n2 c2 : Nat) (fs : List (Nm × Fl)) (dif : Bool) (h1 : FA w ao1 n1 c1 fs) (h2 : FA w ao2 n2 c2 (if dif then fs else S.files)) :
    Calls Try.prog 60 #[.agg (rV S ao n c S.said S.left S.done), .agg (rV S ao1 n1 c1 S.said S.left S.done), .agg (rV S ao2 n2 c2 S.said S.left S.done)] w (RPostR w (stepE S) (stepS S dif fs)) := by
  cases hs : S.said with
  | false =>
    have hn : now S = false := by simp [now, hs]
    refine (rStep_not S ao ao1 ao2 n c n1 c1 n2 c2 false S.left S.done w rfl hst).mono (fun e w' ⟨he, ha⟩ => ?_)
    refine ⟨_, by rw [he]; unfold stepE; rw [hn]; rfl, ?_, ha⟩
    have e2 : stepS S dif fs = { S with files := fs, steps := S.steps + 1, left := S.left } := by unfold stepS; rw [hn, hs]; rfl
    rw [e2]
    exact RefAt.of (S := { S with files := fs, steps := S.steps + 1, left := S.left }) (h1.after ha) (fun _ => ⟨hs.symm, rfl, rfl⟩) hl
  | true =>
    by_cases h0 : S.left = 0
    · have hn : now S = true := by simp [now, hs, h0]
      refine (rStep_now S ao ao1 ao2 n c n1 c1 n2 c2 true S.left S.done w rfl h0).mono (fun e w' ⟨he, ha⟩ => ?_)
      refine ⟨_, by rw [he]; unfold stepE; rw [hn]; rfl, ?_, ha⟩
      have e2 : stepS S dif fs = { S with down := true, files := if dif then fs else S.files } := by unfold stepS; rw [hn]; rfl
      rw [e2]
      exact RefAt.of (S := { S with down := true, files := if dif then fs else S.files }) (h2.after ha) (fun h => by cases h) hl
    · have hn : now S = false := by simp [now, h0]
      refine (rStep_armed S ao ao1 ao2 n c n1 c1 n2 c2 true S.left S.done w rfl h0 hst hl).mono (fun e w' ⟨he, ha⟩ => ?_)
      refine ⟨_, by rw [he]; unfold stepE; rw [hn]; rfl, ?_, ha⟩
      have e2 : stepS S dif fs = { S with files := fs, steps := S.steps + 1, left := S.left - 1 } := by unfold stepS; rw [hn, hs]; rfl
      rw [e2]
      exact RefAt.of (S := { S with files := fs, steps := S.steps + 1, left := S.left - 1 }) (h1.after ha) (fun _ => ⟨hs.symm, rfl, rfl⟩) (by omega)
theorem eitherR {w : World} (S : Dk) (ao ao1 : Option Addr) (n c n1 c1 : Nat) (fs : List (Nm × Fl)) (h0 : FA w ao n c S.files) (h1 : FA w ao1 n1 c1 fs) :
    Calls Try.prog 61 #[.agg (rV S ao n c S.said S.left S.done), .agg (rV S ao1 n1 c1 S.said S.left S.done)] w fun e w' => ∃ ao2 n2 c2, e = .returned (.agg (rV S ao2 n2 c2 S.said S.left S.done)) ∧ FA w' ao2 n2 c2 (if S.done then fs else S.files) ∧ After w w' :=
  (rEither_any S ao ao1 n c n1 c1 S.said S.left S.done w).mono (fun e w' ⟨he, ha⟩ => by
    cases hd : S.done with
    | true => rw [hd] at he; exact ⟨ao1, n1, c1, he, h1.after ha, ha⟩
    | false => rw [hd] at he; exact ⟨ao, n, c, he, h0.after ha, ha⟩)
theorem withR {w : World} (S : Dk) (hS : Ok S) (ao : Option Addr) (n c : Nat) (nm : Nm) (x : Fl) (h0 : FA w ao n c S.files) :
    Calls Try.prog 59 #[.agg (rV S ao n c S.said S.left S.done), .agg #[.string (strOf nm), .string (strOf (x.data.take x.safe)), .string (strOf (x.data.drop x.safe))]] w fun e w' => ∃ ao2 n2 c2, e = .returned (.agg (rV S ao2 n2 c2 S.said S.left S.done)) ∧ FA w' ao2 n2 c2 (fput nm x S.files) ∧ After w w' := by
  obtain ⟨hat, rfl, hc, hz⟩ := h0
  have : Calls Try.prog 59 #[.agg (rV S ao S.files.length c S.said S.left S.done), .agg #[.string (strOf nm), .string (strOf (x.data.take x.safe)), .string (strOf (x.data.drop x.safe))]] w fun e w' => ∃ v, e = .returned v ∧ FlOut w S S.said S.left S.done (fput nm x S.files) v w' := by
    cases h : fhas nm S.files with
    | true => exact with_yes S hS ao c S.said S.left S.done nm w hat hc hz x h
    | false => exact with_no S hS ao c S.said S.left S.done nm w hat hc hz x h
  refine this.mono (fun e w' ⟨v, he, ho⟩ => ?_)
  obtain ⟨a2, c2, hv, hf, hc2, hz2⟩ := ho.ex
  exact ⟨a2, _, c2, by rw [he, hv], ⟨hf, rfl, hc2, hz2⟩, ho.aft⟩
theorem withoutR {w : World} (S : Dk) (hS : Ok S) (ao : Option Addr) (n c : Nat) (nm : Nm) (h0 : FA w ao n c S.files) :
    Calls Try.prog 62 #[.agg (rV S ao n c S.said S.left S.done), .string (strOf nm)] w fun e w' => ∃ ao2 n2 c2, e = .returned (.agg (rV S ao2 n2 c2 S.said S.left S.done)) ∧ FA w' ao2 n2 c2 (fdel nm S.files) ∧ After w w' := by
  obtain ⟨hat, rfl, hc, hz⟩ := h0
  have : Calls Try.prog 62 #[.agg (rV S ao S.files.length c S.said S.left S.done), .string (strOf nm)] w fun e w' => ∃ v, e = .returned v ∧ FlOut w S S.said S.left S.done (fdel nm S.files) v w' := by
    cases h : fhas nm S.files with
    | true => exact without_yes S hS ao c S.said S.left S.done nm w hat hc hz h
    | false => exact without_no S hS ao c S.said S.left S.done nm w hat hc hz h
  refine this.mono (fun e w' ⟨v, he, ho⟩ => ?_)
  obtain ⟨a2, c2, hv, hf, hc2, hz2⟩ := ho.ex
  exact ⟨a2, _, c2, by rw [he, hv], ⟨hf, rfl, hc2, hz2⟩, ho.aft⟩
theorem placeR {w : World} (S : Dk) (hS : Ok S) (ao : Option Addr) (n c : Nat) (ar : Bool) (lf : Nat) (dn : Bool) (nm : Nm) (h0 : FA w ao n c S.files) :
    Calls Try.prog 45 #[.agg (rV S ao n c ar lf dn), .string (strOf nm)] w fun e w' => ∃ k, Place nm S.files k ∧ e = .returned (.tuple #[.int .i64 (k : Int), .bool (fhas nm S.files)]) ∧ After w w' := by
  obtain ⟨hat, rfl, hc, hz⟩ := h0
  exact place_any S hS ao c ar lf dn nm w hat
end Go.Proofs.Ytlbodickflljfaa
