/-
  WHAT EACH CALL MAKES OF THE DISK, AND THAT IT STAYS WELL.
-/
import Derived.Test.YtlbodickflljfaaPlain
namespace Dsk
open Go
def used (l : List (Nm × Fl)) : Nat := (l.map fun p => p.2.data.length).sum
theorem used_cons (p : Nm × Fl) (l : List (Nm × Fl)) : used (p :: l) = p.2.data.length + used l := by simp [used]
theorem used_ins (x : Nm × Fl) : ∀ l, used (fins x l) = used l + x.2.data.length
  | [] => by simp [fins, used]
  | y :: r => by
    have ih := used_ins x r
    unfold fins
    split
    · simp only [used_cons]; omega
    · simp only [used_cons, ih]; omega
theorem used_del_le (nm : Nm) : ∀ l, used (fdel nm l) ≤ used l
  | [] => by simp [fdel, used]
  | y :: r => by
    have ih := used_del_le nm r
    unfold fdel at ih ⊢
    rw [List.filter_cons, used_cons]
    split
    · rw [used_cons]; omega
    · omega
theorem fdel_none (nm : Nm) : ∀ {α : Type} (l : List (Nm × α)), fhas nm l = false → fdel nm l = l
  | _, [], _ => rfl
  | _, y :: r, h => by
    simp only [fhas, List.any_cons, Bool.or_eq_false_iff] at h
    have ih := fdel_none nm r h.2
    unfold fdel at ih ⊢
    rw [List.filter_cons, h.1, ih]; rfl
theorem used_del (nm : Nm) {f : Fl} : ∀ l, rising l → fget nm l = some f → used (fdel nm l) + f.data.length = used l
  | [], _, h => by simp [fget] at h
  | y :: r, hr, h => by
    obtain ⟨h1, h2⟩ := List.pairwise_cons.1 hr
    unfold fget at h
    rw [List.find?_cons] at h
    unfold fdel
    rw [List.filter_cons, used_cons]
    cases e : (y.1 == nm)
    · rw [e] at h
      have ih := used_del nm r h2 h
      unfold fdel at ih
      simp only [Bool.not_false, if_true, used_cons]
      omega
    · rw [e] at h
      simp at h
      have hn : fhas nm r = false := by
        cases hh : fhas nm r
        · rfl
        · obtain ⟨x, hx⟩ := fhas_some hh
          have := h1 _ (fget_mem hx)
          simp only at this
          rw [beq_iff_eq.1 e, bb_irrefl] at this; cases this
      have := fdel_none nm r hn
      unfold fdel at this
      simp only [Bool.not_true, Bool.false_eq_true, if_false, this, h]
      omega
theorem used_put (nm : Nm) (f : Fl) {l : List (Nm × Fl)} {f0 : Fl} (hr : rising l) (h : fget nm l = some f0) : used (fput nm f l) + f0.data.length = used l + f.data.length := by
  have := used_del nm l hr h
  unfold fput; rw [used_ins]; simp only; omega
theorem used_put_le (nm : Nm) (f : Fl) (l : List (Nm × Fl)) : used (fput nm f l) ≤ used l + f.data.length := by
  have := used_del_le nm l
  unfold fput; rw [used_ins]; simp only; omega
theorem used_mem {l : List (Nm × Fl)} {p : Nm × Fl} (h : p ∈ l) : p.2.data.length ≤ used l := by
  induction l with
  | nil => simp at h
  | cons y r ih =>
    rw [used_cons]
    rcases List.mem_cons.1 h with rfl | h
    · omega
    · have := ih h; omega
def okByte (b : UInt8) : Bool := 33 ≤ b.toNat && b.toNat ≤ 126
def named (s : Nm) : Bool := decide (1 ≤ s.length) && decide (s.length ≤ 32) && s.all okByte
theorem named_len {s : Nm} (h : named s = true) : 1 ≤ s.length ∧ s.length ≤ 32 := by
  simp [named] at h; exact h.1
structure Ok (S : Dk) : Prop where
  most : S.most ≤ 16777216
  used : used S.files ≤ S.most
  count : S.files.length ≤ 64
  ris : rising S.files
  named : ∀ p ∈ S.files, named p.1 = true
  safe : ∀ p ∈ S.files, p.2.safe ≤ p.2.data.length
  left : S.left < 9223372036854775808
def refuse (S : Dk) (ns : List Nm) : Nat := if ns.all named then (if S.down then 20 else 0) else 30
def now (S : Dk) : Bool := S.said && (S.left == 0)
/-- A step: fs: the files, if it is done; dif: is it done where the power fails in it. -/
def stepS (S : Dk) (dif : Bool) (fs : List (Nm × Fl)) : Dk :=
  if now S then { S with down := true, files := if dif then fs else S.files }
  else { S with files := fs, steps := S.steps + 1, left := if S.said then S.left - 1 else S.left }
def stepE (S : Dk) : Nat := if now S then 20 else 0
def newS (most : Int) : Dk := ⟨(min (max most 0) 16777216).toNat, [], 0, false, false, 0, false⟩
def failS (S : Dk) (n : Nat) (done : Bool) : Dk := { S with said := true, left := n, done := done }
def stay (k : UInt8) (n : Nat) : Nat := if k = 255 then n else k.toNat % (n + 1)
theorem stay_le (k : UInt8) (n : Nat) : stay k n ≤ n := by
  unfold stay; split
  · omega
  · have := Nat.mod_lt k.toNat (show 0 < n + 1 by omega); omega
/-- How many bytes of the piece from one place to another stay. -/
def stays (keep : List UInt8) (n : Nat) : Nat := match keep with | [] => 0 | k :: _ => stay k n
theorem stays_le (keep : List UInt8) (n : Nat) : stays keep n ≤ n := by
  cases keep with
  | nil => simp [stays]
  | cons k _ => exact stay_le k n
def nextAt (i len : Nat) : Nat := min (i + 16 - i % 16) len
theorem nextAt_gt {i len : Nat} (h : i < len) : i < nextAt i len ∧ nextAt i len ≤ len := by
  unfold nextAt; have := Nat.mod_lt i (show 0 < 16 by omega); omega
/-- What stays of a file: its end, its bytes with noughts, what is left of keep. -/
def surv : Nat → Nat → Nat → List UInt8 → List UInt8 → Nat × List UInt8 × List UInt8
  | 0, _, e, d, k => (e, d, k)
  | fuel + 1, i, e, d, k =>
    if i < d.length then
      surv fuel (nextAt i d.length) (if 0 < stays k (nextAt i d.length - i) then i + stays k (nextAt i d.length - i) else e)
        (d.take (i + stays k (nextAt i d.length - i)) ++ List.replicate (nextAt i d.length - (i + stays k (nextAt i d.length - i))) 0 ++ d.drop (nextAt i d.length)) (k.drop 1)
    else (e, d, k)
def cutLen (i s n : Nat) (d : List UInt8) : List UInt8 := d.take (i + s) ++ List.replicate (n - (i + s)) 0 ++ d.drop n
theorem cutLen_len (i s n : Nat) (d : List UInt8) (h1 : i + s ≤ n) (h2 : n ≤ d.length) : (cutLen i s n d).length = d.length := by
  simp [cutLen]; omega
theorem surv_step (fuel i e : Nat) (d k : List UInt8) (h : i < d.length) {s n : Nat} (hn : nextAt i d.length = n) (hs : stays k (n - i) = s) :
    surv (fuel + 1) i e d k = surv fuel n (if 0 < s then i + s else e) (cutLen i s n d) (k.drop 1) := by
  subst hn; subst hs
  rw [surv, if_pos h]; rfl
theorem surv_end (fuel i e : Nat) (d k : List UInt8) (h : ¬ i < d.length) : surv fuel i e d k = (e, d, k) := by
  cases fuel with
  | zero => rfl
  | succ n => rw [surv, if_neg h]
theorem surv_more : ∀ (fuel i e : Nat) (d k : List UInt8), d.length - i ≤ fuel → ∀ m, surv (fuel + m) i e d k = surv fuel i e d k
  | 0, i, e, d, k, h, m => by rw [surv_end _ _ _ _ _ (by omega), surv_end _ _ _ _ _ (by omega)]
  | fuel + 1, i, e, d, k, h, m => by
    by_cases hi : i < d.length
    · obtain ⟨h1, h2⟩ := nextAt_gt hi
      obtain ⟨s, hs⟩ : ∃ s, stays k (nextAt i d.length - i) = s := ⟨_, rfl⟩
      have hsl : s ≤ nextAt i d.length - i := by rw [← hs]; exact stays_le _ _
      rw [show fuel + 1 + m = (fuel + m) + 1 by omega, surv_step _ _ _ _ _ hi rfl hs, surv_step _ _ _ _ _ hi rfl hs]
      exact surv_more fuel _ _ _ _ (by rw [cutLen_len _ _ _ _ (by omega) h2]; omega) m
    · rw [surv_end _ _ _ _ _ hi, surv_end _ _ _ _ _ hi]
def survF (f : Fl) (k : List UInt8) : Fl :=
  let r := surv f.data.length f.safe f.safe f.data k
  ⟨r.2.1.take r.1, r.1⟩
def survK (f : Fl) (k : List UInt8) : List UInt8 := (surv f.data.length f.safe f.safe f.data k).2.2
theorem surv_le : ∀ (fuel i e : Nat) (d k : List UInt8), i ≤ d.length → e ≤ i → (surv fuel i e d k).1 ≤ d.length ∧ (surv fuel i e d k).2.1.length = d.length
  | 0, i, e, d, k, h, he => ⟨by simp [surv]; omega, rfl⟩
  | fuel + 1, i, e, d, k, h, he => by
    by_cases hi : i < d.length
    · obtain ⟨h1, h2⟩ := nextAt_gt hi
      obtain ⟨s, hs⟩ : ∃ s, stays k (nextAt i d.length - i) = s := ⟨_, rfl⟩
      have hsl : s ≤ nextAt i d.length - i := by rw [← hs]; exact stays_le _ _
      rw [surv_step _ _ _ _ _ hi rfl hs]
      have hl := cutLen_len i s (nextAt i d.length) d (by omega) h2
      have := surv_le fuel (nextAt i d.length) (if 0 < s then i + s else e) (cutLen i s (nextAt i d.length) d) (k.drop 1) (by omega) (by split <;> omega)
      omega
    · rw [surv_end _ _ _ _ _ hi]; exact ⟨by simp; omega, rfl⟩
theorem survF_len (f : Fl) (k : List UInt8) (h : f.safe ≤ f.data.length) : (survF f k).data.length = (survF f k).safe ∧ (survF f k).data.length ≤ f.data.length := by
  have := surv_le f.data.length f.safe f.safe f.data k h (Nat.le_refl _)
  unfold survF
  simp only [List.length_take]
  omega
/-- Every file in its turn. -/
def survAll : List (Nm × Fl) → List UInt8 → List (Nm × Fl)
  | [], _ => []
  | p :: r, k => (p.1, survF p.2 k) :: survAll r (survK p.2 k)
def startS (S : Dk) (k : List UInt8) : Dk := ⟨S.most, survAll S.files k, S.steps, false, false, 0, false⟩
theorem survAll_names : ∀ (l : List (Nm × Fl)) (k : List UInt8), (survAll l k).map (·.1) = l.map (·.1)
  | [], _ => rfl
  | p :: r, k => by simp [survAll, survAll_names r]
theorem rising_names {α β : Type} {l : List (Nm × α)} {m : List (Nm × β)} (h : l.map (·.1) = m.map (·.1)) (hr : rising m) : rising l := by
  unfold rising at *
  have e1 := List.pairwise_map (l := m) (f := fun p => p.1) (R := fun a b => bytesBefore a b = true)
  have e2 := List.pairwise_map (l := l) (f := fun p => p.1) (R := fun a b => bytesBefore a b = true)
  rw [← e2, h, e1]; exact hr
theorem survAll_used : ∀ (l : List (Nm × Fl)) (k : List UInt8), (∀ p ∈ l, p.2.safe ≤ p.2.data.length) → used (survAll l k) ≤ used l
  | [], _, _ => by simp [survAll]
  | p :: r, k, h => by
    have := survAll_used r (survK p.2 k) (fun q hq => h q (by simp [hq]))
    have h1 := survF_len p.2 k (h p (by simp))
    simp only [survAll, used_cons]; omega
theorem survAll_safe : ∀ (l : List (Nm × Fl)) (k : List UInt8), (∀ p ∈ l, p.2.safe ≤ p.2.data.length) → ∀ p ∈ survAll l k, p.2.safe = p.2.data.length
  | [], _, _, p, hp => by simp [survAll] at hp
  | q :: r, k, h, p, hp => by
    simp only [survAll, List.mem_cons] at hp
    rcases hp with rfl | hp
    · exact (survF_len q.2 k (h q (by simp))).1.symm
    · exact survAll_safe r _ (fun x hx => h x (by simp [hx])) p hp
theorem survAll_len (l : List (Nm × Fl)) (k : List UInt8) : (survAll l k).length = l.length := by
  have := congrArg List.length (survAll_names l k); simpa using this
theorem Ok.new (most : Int) : Ok (newS most) :=
  ⟨by simp [newS]; omega, by simp [newS, Dsk.used], by simp [newS], List.Pairwise.nil, by simp [newS], by simp [newS], by simp [newS]⟩
theorem Ok.fail {S : Dk} (h : Ok S) (n : Nat) (hn : n < 9223372036854775808) (done : Bool) : Ok (failS S n done) := ⟨h.most, h.used, h.count, h.ris, h.named, h.safe, hn⟩
theorem Ok.start {S : Dk} (h : Ok S) (k : List UInt8) : Ok (startS S k) :=
  ⟨h.most, by have := survAll_used S.files k h.safe; have := h.used; simp only [startS]; omega, by simp only [startS]; rw [survAll_len]; exact h.count,
   rising_names (survAll_names _ _) h.ris, fun p hp => by
    have : p.1 ∈ (survAll S.files k).map (·.1) := List.mem_map.2 ⟨p, hp, rfl⟩
    rw [survAll_names] at this
    obtain ⟨q, hq, e⟩ := List.mem_map.1 this
    rw [← e]; exact h.named q hq, fun p hp => Nat.le_of_eq (survAll_safe _ _ h.safe p hp), by simp [startS]⟩
/-- Files that may stand on a disk. -/
structure FsOk (most : Nat) (l : List (Nm × Fl)) : Prop where
  used : used l ≤ most
  count : l.length ≤ 64
  ris : rising l
  named : ∀ p ∈ l, named p.1 = true
  safe : ∀ p ∈ l, p.2.safe ≤ p.2.data.length
theorem Ok.fs {S : Dk} (h : Ok S) : FsOk S.most S.files := ⟨h.used, h.count, h.ris, h.named, h.safe⟩
theorem Ok.step {S : Dk} (h : Ok S) (dif : Bool) {fs : List (Nm × Fl)} (hf : FsOk S.most fs) : Ok (stepS S dif fs) := by
  unfold stepS
  split
  · cases dif
    · exact ⟨h.most, h.used, h.count, h.ris, h.named, h.safe, h.left⟩
    · exact ⟨h.most, hf.used, hf.count, hf.ris, hf.named, hf.safe, h.left⟩
  · exact ⟨h.most, hf.used, hf.count, hf.ris, hf.named, hf.safe, by have := h.left; simp only; split <;> omega⟩
theorem FsOk.put {most : Nat} {l : List (Nm × Fl)} (h : FsOk most l) {nm : Nm} {f f0 : Fl} (hg : fget nm l = some f0) (hu : Dsk.used l + f.data.length ≤ most + f0.data.length) (hs : f.safe ≤ f.data.length) : FsOk most (fput nm f l) :=
  ⟨by have := used_put nm f h.ris hg; omega, by have h1 := fdel_len_has (fhas_get hg); have h2 := h.count; unfold fput; rw [fins_len]; omega, fput_rising _ _ h.ris,
   fun p hp => by
    rcases (fput_mem nm f l p).1 hp with rfl | ⟨hp, _⟩
    · have := h.named _ (fget_mem hg); exact this
    · exact h.named p hp, fun p hp => by
    rcases (fput_mem nm f l p).1 hp with rfl | ⟨hp, _⟩
    · exact hs
    · exact h.safe p hp⟩
theorem FsOk.new {most : Nat} {l : List (Nm × Fl)} (h : FsOk most l) {nm : Nm} (hn : Dsk.named nm = true) (hl : l.length < 64) : FsOk most (fput nm ⟨[], 0⟩ l) :=
  ⟨by have := used_put_le nm ⟨[], 0⟩ l; have := h.used; simp at *; omega, by have := fput_len nm (⟨[], 0⟩ : Fl) l; omega, fput_rising _ _ h.ris, fun p hp => by
    rcases (fput_mem nm _ l p).1 hp with rfl | ⟨hp, _⟩
    · exact hn
    · exact h.named p hp, fun p hp => by
    rcases (fput_mem nm _ l p).1 hp with rfl | ⟨hp, _⟩
    · simp
    · exact h.safe p hp⟩
theorem FsOk.del {most : Nat} {l : List (Nm × Fl)} (h : FsOk most l) (nm : Nm) : FsOk most (fdel nm l) :=
  ⟨by have := used_del_le nm l; have := h.used; omega, by have := fdel_len nm l; have := h.count; omega, fdel_rising _ h.ris, fun p hp => h.named p ((fdel_mem nm l p).1 hp).1, fun p hp => h.safe p ((fdel_mem nm l p).1 hp).1⟩
theorem FsOk.ren {most : Nat} {l : List (Nm × Fl)} (h : FsOk most l) {old now : Nm} {f : Fl} (hg : fget old l = some f) (hn : Dsk.named now = true) : FsOk most (fput now f (fdel old l)) := by
  have h1 := h.del old
  have h2 := used_del old l h.ris hg
  have h3 := used_put_le now f (fdel old l)
  have h4 := fput_len now f (fdel old l)
  have h5 := fdel_len_has (fhas_get hg)
  have := h.used
  have := h.count
  refine ⟨by omega, by omega, fput_rising _ _ h1.ris, fun p hp => ?_, fun p hp => ?_⟩
  · rcases (fput_mem now _ _ p).1 hp with rfl | ⟨hp, _⟩
    · exact hn
    · exact h1.named p hp
  · rcases (fput_mem now _ _ p).1 hp with rfl | ⟨hp, _⟩
    · have := h.safe _ (fget_mem hg); exact this
    · exact h1.safe p hp
end Dsk
