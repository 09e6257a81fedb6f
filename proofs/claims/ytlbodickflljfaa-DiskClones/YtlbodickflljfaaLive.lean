/-
  A DISK THAT IS ALIVE: all its blocks lie from a world's end up to a bound.
-/
import Derived.Test.YtlbodickflljfaaOpsAll
namespace Go.Proofs.Ytlbodickflljfaa
open Go.RowKit Go.Maps Dsk
/-- S lies at sb, in blocks that are new since w and lie ahead of L; nothing of w has turned. -/
structure Live (w : World) (L sb : Nat) (S : Dk) (W : World) : Prop where
  ok : Ok S
  ex : ∃ F, DiskAt W F sb S ∧ ∀ i, F i → w.heap.size ≤ i ∧ i < L
  le : L ≤ W.heap.size
  aft : After w W
theorem Live.after {w W W' : World} {L sb : Nat} {S : Dk} (h : Live w L sb S W) (ha : After W W') : Live w L sb S W' := by
  obtain ⟨F, hd, hF⟩ := h.ex
  exact ⟨h.ok, ⟨F, hd.after (fun i hi => by have := (hF i hi).2; have := h.le; omega) ha, hF⟩, by have := h.le; have := ha.size; omega, After.trans h.aft ha⟩
theorem Live.alloc {w W : World} {L sb : Nat} {S : Dk} (h : Live w L sb S W) (o : Obj) : Live w L sb S (W.alloc o) := h.after (after_alloc (After.refl W) o)
theorem Live.of {w W W' : World} {L sb : Nat} {S S' : Dk} {F : Nat → Prop} (h : After w W) (hW : L ≤ W.heap.size) (hF : ∀ i, F i → w.heap.size ≤ i ∧ i < L) (ok : Ok S') (t : Turn F W W') (d : DiskAt W' (more F W W') sb S') (_u : Live w L sb S W) : Live w W'.heap.size sb S' W' := by
  have hs := t.size
  refine ⟨ok, ⟨_, d, fun i hi => ?_⟩, Nat.le_refl _, ?_⟩
  · rcases hi with hi | ⟨h1, h2⟩
    · have := hF i hi; omega
    · have := h.size; omega
  · exact Below.trans h (Turn.below t h.size (fun i hi => (hF i hi).1))
/-- What a call that may turn the disk leaves. -/
def LPost (w : World) (sb : Nat) (r : Nat) (S : Dk) (e : Ending) (W : World) : Prop := e = .returned (.int .i64 (r : Int)) ∧ Live w W.heap.size sb S W
theorem SPost.live {w W : World} {L sb r : Nat} {S S' : Dk} {F : Nat → Prop} (h : Live w L sb S W) (hF : ∀ i, F i → w.heap.size ≤ i ∧ i < L) (ok : Ok S') {e : Ending} {W' : World} (p : SPost F W sb r S' e W') : LPost w sb r S' e W' :=
  ⟨p.1, Live.of h.aft h.le hF ok p.2.1 p.2.2 h⟩
section
variable {w W : World} {L sb : Nat} {S : Dk} (h : Live w L sb S W)
include h
theorem live_create (hst : S.steps < 4611686018427387904) (nm : Nm) (hl : nm.length ≤ maxLen) : Calls Try.prog 23 #[.pointer (some ⟨sb, 0, none⟩), .string (strOf nm)] W (LPost w sb (createE S nm) (createS S nm)) := by
  obtain ⟨F, hd, hF⟩ := h.ex
  exact (create_any F sb S h.ok hst nm hl W hd (fun i hi => by have := hF i hi; have := h.le; omega)).mono (fun e W' p => p.live h hF (Ok.create h.ok nm))
theorem live_remove (hst : S.steps < 4611686018427387904) (nm : Nm) (hl : nm.length ≤ maxLen) : Calls Try.prog 22 #[.pointer (some ⟨sb, 0, none⟩), .string (strOf nm)] W (LPost w sb (removeE S nm) (removeS S nm)) := by
  obtain ⟨F, hd, hF⟩ := h.ex
  exact (remove_any F sb S h.ok hst nm hl W hd (fun i hi => by have := hF i hi; have := h.le; omega)).mono (fun e W' p => p.live h hF (Ok.remove h.ok nm))
theorem live_sync (hst : S.steps < 4611686018427387904) (nm : Nm) (hl : nm.length ≤ maxLen) : Calls Try.prog 27 #[.pointer (some ⟨sb, 0, none⟩), .string (strOf nm)] W (LPost w sb (removeE S nm) (syncS S nm)) := by
  obtain ⟨F, hd, hF⟩ := h.ex
  exact (sync_any F sb S h.ok hst nm hl W hd (fun i hi => by have := hF i hi; have := h.le; omega)).mono (fun e W' p => p.live h hF (Ok.sync h.ok nm))
theorem live_append (hst : S.steps < 4611686018427387904) (nm : Nm) (hl : nm.length ≤ maxLen) (pa : Option Addr) (pn pc : Nat) (p : List UInt8) (hp : p.length = pn) (hpa : BytesAt W pa p) (hpf : p ≠ [] → ∀ a, pa = some a → a.block < w.heap.size ∨ L ≤ a.block) :
    Calls Try.prog 24 #[.pointer (some ⟨sb, 0, none⟩), .string (strOf nm), .slice pa pn pc] W (LPost w sb (appendE S nm p) (appendS S nm p)) := by
  obtain ⟨F, hd, hF⟩ := h.ex
  exact (append_any F sb S h.ok hst nm hl W hd (fun i hi => by have := hF i hi; have := h.le; omega) pa pn pc p hp hpa (fun hne a ha e => by have := hF _ e; have := hpf hne a ha; omega)).mono (fun e W' p' => p'.live h hF (Ok.append h.ok nm p))
theorem live_cut (hst : S.steps < 4611686018427387904) (nm : Nm) (hl : nm.length ≤ maxLen) (k : Int) : Calls Try.prog 33 #[.pointer (some ⟨sb, 0, none⟩), .string (strOf nm), .int .i64 k] W (LPost w sb (cutE S nm k) (cutS S nm k)) := by
  obtain ⟨F, hd, hF⟩ := h.ex
  exact (cut_any F sb S h.ok hst nm hl W hd (fun i hi => by have := hF i hi; have := h.le; omega) k).mono (fun e W' p => p.live h hF (Ok.cut h.ok nm k))
theorem live_rename (hst : S.steps < 4611686018427387904) (nm : Nm) (hl : nm.length ≤ maxLen) (nw : Nm) (hlw : nw.length ≤ maxLen) : Calls Try.prog 32 #[.pointer (some ⟨sb, 0, none⟩), .string (strOf nm), .string (strOf nw)] W (LPost w sb (renameE S nm nw) (renameS S nm nw)) := by
  obtain ⟨F, hd, hF⟩ := h.ex
  exact (rename_any F sb S h.ok hst nm hl W hd (fun i hi => by have := hF i hi; have := h.le; omega) nw hlw).mono (fun e W' p => p.live h hF (Ok.rename h.ok nm nw))
theorem live_fail (n : Int) (hn : n < 9223372036854775808) (done : Bool) : Calls Try.prog 30 #[.pointer (some ⟨sb, 0, none⟩), .int .i64 n, .bool done] W (LPost w sb (failE S n) (failD S n done)) := by
  obtain ⟨F, hd, hF⟩ := h.ex
  exact (fail_any F sb S n done W hd (fun i hi => by have := hF i hi; have := h.le; omega)).mono (fun e W' p => p.live h hF (Ok.failD h.ok hn done))
theorem live_start (ka : Option Addr) (kn kc : Nat) (keep : List UInt8) (hk : keep.length = kn) (hkc : kn ≤ kc) (hka : BytesAt W ka keep) (hkf : keep ≠ [] → ∀ a, ka = some a → a.block < w.heap.size ∨ L ≤ a.block) :
    Calls Try.prog 19 #[.pointer (some ⟨sb, 0, none⟩), .slice ka kn kc] W fun e W' => e = .returned (.tuple #[]) ∧ Live w W'.heap.size sb (startS S keep) W' := by
  obtain ⟨F, hd, hF⟩ := h.ex
  exact (start_any F sb S h.ok ka kn kc keep hk hkc W hd (fun i hi => by have := hF i hi; have := h.le; omega) hka (fun hne a ha e => by have := hF _ e; have := hkf hne a ha; omega)).mono (fun e W' ⟨h1, h2, h3⟩ => ⟨h1, Live.of h.aft h.le hF (h.ok.start keep) h2 h3 h⟩)
theorem live_read (nm : Nm) (hl : nm.length ≤ maxLen) : Calls Try.prog 16 #[.pointer (some ⟨sb, 0, none⟩), .string (strOf nm)] W (RPost W (findE S nm) (readB S nm)) := by
  obtain ⟨F, hd, hF⟩ := h.ex
  exact read_any F sb S h.ok nm hl W hd
theorem live_used : Calls Try.prog 26 #[.pointer (some ⟨sb, 0, none⟩)] W fun e W' => e = .returned (.int .i64 (used S.files : Int)) ∧ After W W' := by
  obtain ⟨F, hd, hF⟩ := h.ex
  exact used_any F sb S h.ok W hd
theorem live_list : Calls Try.prog 25 #[.pointer (some ⟨sb, 0, none⟩)] W fun e W' => ∃ v, e = .returned v ∧ OwnS W' W.heap.size v (S.files.map (·.1)) ∧ After W W' := by
  obtain ⟨F, hd, hF⟩ := h.ex
  exact list_any F sb S h.ok W hd
theorem live_steps : Calls Try.prog 31 #[.pointer (some ⟨sb, 0, none⟩)] W fun e W' => e = .returned (.int .i64 (S.steps : Int)) ∧ W' = W := by
  obtain ⟨F, hd, hF⟩ := h.ex
  exact steps_any F sb S W hd
theorem live_down : Calls Try.prog 29 #[.pointer (some ⟨sb, 0, none⟩)] W fun e W' => e = .returned (.bool S.down) ∧ W' = W := by
  obtain ⟨F, hd, hF⟩ := h.ex
  exact down_any F sb S W hd
theorem live_twin : Calls Try.prog 18 #[.pointer (some ⟨sb, 0, none⟩)] W fun e W' => e = .returned (.pointer (some ⟨W.heap.size, 0, none⟩)) ∧ After W W' ∧ Live W W'.heap.size W.heap.size S W' := by
  obtain ⟨F, hd, hF⟩ := h.ex
  exact (twin_any F sb S h.ok W hd).mono (fun e W' ⟨h1, h2, h3⟩ => ⟨h1, h2, h.ok, ⟨_, h3, fun i hi => hi⟩, Nat.le_refl _, h2⟩)
end
theorem live_new (most : Int) (w : World) : Calls Try.prog 11 #[.int .i64 most] w fun e w' => e = .returned (.pointer (some ⟨w.heap.size + 1, 0, none⟩)) ∧ Live w w'.heap.size (w.heap.size + 1) (newS most) w' :=
  (new_any most w).mono (fun _ _ ⟨h1, h2, _, h4⟩ => ⟨h1, Dsk.Ok.new most, ⟨_, h4, fun _ hi => hi⟩, Nat.le_refl _, h2⟩)
end Go.Proofs.Ytlbodickflljfaa
