/-
  THE DISK AND THE REFERENCE IN ONE MEMORY: what belongs to the one is not touched by the other.
-/
import Derived.Test.YtlbodickflljfaaSame
namespace Go.Proofs.Ytlbodickflljfaa
open Go.RowKit Go.Maps Dsk
/-- The disk's own blocks alone: none of them is a row of files. -/
theorem DiskAt.tight {W : World} {F : Nat → Prop} {sb : Nat} {S : Dk} (h : DiskAt W F sb S) : ∃ F0, DiskAt W F0 sb S ∧ (∀ i, F0 i → F i) ∧ ∀ i, F0 i → ¬ T75 W i := by
  obtain ⟨mb, cs, h1, h2, h3, h4, h5, h6⟩ := h
  refine ⟨fun i => i = sb ∨ i = mb ∨ ∃ c ∈ cs, rowB c.2.1 = some i, ⟨mb, cs, Or.inl rfl, Or.inr (Or.inl rfl), h3, h4, ⟨h5.file, fun c hc g hg => Or.inr (Or.inr ⟨c, hc, hg⟩), h5.apart⟩, h6⟩, ?_, ?_⟩
  · rintro i (rfl | rfl | ⟨c, hc, hg⟩)
    · exact h1
    · exact h2
    · exact h5.foot c hc i hg
  · rintro i hi ⟨cur, m, ht⟩
    rcases hi with rfl | rfl | ⟨c, hc, hg⟩
    · unfold RowIs at h3; rw [h3] at ht; simp at ht
    · obtain ⟨es, clock, hb, _⟩ := h4; rw [hb] at ht; simp at ht
    · obtain ⟨cur', hb⟩ := (h5.file c hc).block hg; rw [hb] at ht; simp at ht
theorem T75.lt {w : World} {b : Nat} (h : T75 w b) : b < w.heap.size := by
  obtain ⟨cur, m, hb⟩ := h
  rcases Nat.lt_or_ge b w.heap.size with h | h
  · exact h
  · rw [Array.getElem?_eq_none h] at hb; cases hb
/-- The reference's value stays what it is while its rows of files do. -/
theorem RefAt.rows {w w' : World} {v : Value} {S : Dk} (h : RefAt w v S) (hs : ∀ b, T75 w b → w'.heap[b]? = w.heap[b]?) : RefAt w' v S := by
  obtain ⟨ao, c, ar, lf, dn, h1, h2, h3⟩ := h.ex
  refine ⟨ao, c, ar, lf, dn, h1, fun hne => ?_, h3⟩
  obtain ⟨b, o, e, ht, hc⟩ := h2 hne
  have hb := hs b ht
  exact ⟨b, o, e, by obtain ⟨cur, m, ht⟩ := ht; exact ⟨cur, m, by rw [hb]; exact ht⟩, fun j p hj => ⟨by rw [World.cell?_of_block (a := ⟨b, _, none⟩) hb]; exact (hc j p hj).1, by rw [World.cell?_of_block (a := ⟨b, _, none⟩) hb]; exact (hc j p hj).2.1, by rw [World.cell?_of_block (a := ⟨b, _, none⟩) hb]; exact (hc j p hj).2.2⟩⟩
/-- A row that is no row of files is turned. -/
theorem RefAt.setRowAny {w : World} {v : Value} {S : Dk} {g t : Nat} {cs : List Value} (h : RefAt w v S) (hg : RowIs w g t cs) (ht : t ≠ 75) (R : Array Value) : RefAt (w.setRow g R) v S :=
  h.rows (fun b hb => Go.setRow_other _ _ _ _ (fun e => by
    obtain ⟨cur, m, hb⟩ := hb
    unfold RowIs at hg
    rw [e, hg] at hb; simp at hb; exact ht hb.2.1))
theorem RefAt.setOwn {w : World} {v : Value} {S : Dk} {g base cap n k : Nat} {bs : List UInt8} (h : RefAt w v S) (ho : Own w base (.slice (some ⟨g, 0, none⟩) n cap) bs) (u : Value) : RefAt (w.setCell ⟨g, k, none⟩ u) v S :=
  h.rows (fun b hb => heap_setCell_other _ _ _ _ (fun e => by
    obtain ⟨cur, m, hb⟩ := hb
    simp only at e
    obtain ⟨cur', hg⟩ := own_block (ho.mono (Nat.zero_le _)) (g := g) rfl
    rw [e, hg] at hb; simp at hb))
/-- Both, in one memory. -/
structure Joint (w0 : World) (F : Nat → Prop) (sb : Nat) (S : Dk) (v : Value) (W : World) : Prop where
  ok : Ok S
  disk : DiskAt W F sb S
  rng : ∀ i, F i → w0.heap.size ≤ i ∧ i < W.heap.size
  ref : RefAt W v S
  aft : After w0 W
theorem Joint.live {w0 : World} {F : Nat → Prop} {sb : Nat} {S : Dk} {v : Value} {W : World} (h : Joint w0 F sb S v W) : Live w0 W.heap.size sb S W := ⟨h.ok, ⟨F, h.disk, h.rng⟩, Nat.le_refl _, h.aft⟩
theorem Joint.after {w0 : World} {F : Nat → Prop} {sb : Nat} {S : Dk} {v : Value} {W W' : World} (h : Joint w0 F sb S v W) (ha : After W W') : Joint w0 F sb S v W' :=
  ⟨h.ok, h.disk.after (fun i hi => (h.rng i hi).2) ha, fun i hi => ⟨(h.rng i hi).1, by have := (h.rng i hi).2; have := ha.size; omega⟩, h.ref.after ha, After.trans h.aft ha⟩
/-- A box of the reference is laid anew. -/
theorem Joint.setRow {w0 : World} {F : Nat → Prop} {sb : Nat} {S : Dk} {v : Value} {W : World} {g t : Nat} {cs : List Value} (h : Joint w0 F sb S v W) (hg : RowIs W g t cs) (ht : t ≠ 75) (hF : ¬ F g) (h0 : w0.heap.size ≤ g) (R : Array Value) : Joint w0 F sb S v (W.setRow g R) :=
  ⟨h.ok, h.disk.same (fun i hi => Go.setRow_other _ _ _ _ (fun e => hF (e ▸ hi))), fun i hi => by have := h.rng i hi; simpa using this, h.ref.setRowAny hg ht R, Below.row h.aft h0 R⟩
/-- A disk ahead of a call: its blocks lie ahead of lo, none is a row of files. -/
structure Dat (w0 : World) (G : Nat → Prop) (lo sb : Nat) (S : Dk) (W : World) : Prop where
  ok : Ok S
  disk : ∃ F, DiskAt W F sb S ∧ (∀ i, F i → w0.heap.size ≤ i ∧ i < lo ∧ G i) ∧ ∀ i, F i → ¬ T75 W i
  le : lo ≤ W.heap.size
  ge : w0.heap.size ≤ lo
  aft : After w0 W
theorem Joint.dat {w0 : World} {F : Nat → Prop} {sb : Nat} {S : Dk} {v : Value} {W : World} (h : Joint w0 F sb S v W) : Dat w0 F W.heap.size sb S W := by
  obtain ⟨F0, hd0, hF0, ht⟩ := h.disk.tight
  exact ⟨h.ok, ⟨F0, hd0, fun i hi => ⟨(h.rng i (hF0 i hi)).1, (h.rng i (hF0 i hi)).2, hF0 i hi⟩, ht⟩, Nat.le_refl _, h.aft.size, h.aft⟩
theorem Dat.after {w0 : World} {G : Nat → Prop} {lo sb : Nat} {S : Dk} {W W' : World} (h : Dat w0 G lo sb S W) (ha : After W W') : Dat w0 G lo sb S W' := by
  obtain ⟨F, hd, hF, ht⟩ := h.disk
  have hlt : ∀ i, F i → i < W.heap.size := fun i hi => by have := (hF i hi).2.1; have := h.le; omega
  exact ⟨h.ok, ⟨F, hd.after hlt ha, hF, fun i hi ⟨cur, m, hb⟩ => ht i hi ⟨cur, m, by rw [← ha.block i (hlt i hi)]; exact hb⟩⟩, by have := h.le; have := ha.size; omega, h.ge, After.trans h.aft ha⟩
/-- A disk behind a call: its blocks lie ahead of lo, or from hi on. -/
structure Lives (w0 : World) (G : Nat → Prop) (lo hi sb : Nat) (S : Dk) (W : World) : Prop where
  ok : Ok S
  disk : ∃ F, DiskAt W F sb S ∧ ∀ i, F i → w0.heap.size ≤ i ∧ i < W.heap.size ∧ ((i < lo ∧ G i) ∨ hi ≤ i)
  ge : w0.heap.size ≤ lo
  aft : After w0 W
theorem Lives.after {w0 : World} {G : Nat → Prop} {lo hi sb : Nat} {S : Dk} {W W' : World} (h : Lives w0 G lo hi sb S W) (ha : After W W') : Lives w0 G lo hi sb S W' := by
  obtain ⟨F, hd, hF⟩ := h.disk
  exact ⟨h.ok, ⟨F, hd.after (fun i hi => (hF i hi).2.1) ha, fun i hi => ⟨(hF i hi).1, by have := (hF i hi).2.1; have := ha.size; omega, (hF i hi).2.2⟩⟩, h.ge, After.trans h.aft ha⟩
theorem Lives.setCell {w0 : World} {G : Nat → Prop} {lo hi sb : Nat} {S : Dk} {W : World} (h : Lives w0 G lo hi sb S W) (p : Addr) (h1 : lo ≤ p.block) (h2 : p.block < hi) (u : Value) : Lives w0 G lo hi sb S (W.setCell p u) := by
  obtain ⟨F, hd, hF⟩ := h.disk
  exact ⟨h.ok, ⟨F, hd.same (fun i hi => heap_setCell_other _ _ _ _ (fun e => by have := (hF i hi).2.2; omega)), fun i hi => by have := hF i hi; simpa using this⟩, h.ge, Below.setCell h.aft (by have := h.ge; omega) u⟩
theorem Lives.setRow {w0 : World} {G : Nat → Prop} {lo hi sb : Nat} {S : Dk} {W : World} (h : Lives w0 G lo hi sb S W) (g : Nat) (h1 : lo ≤ g) (h2 : g < hi) (R : Array Value) : Lives w0 G lo hi sb S (W.setRow g R) := by
  obtain ⟨F, hd, hF⟩ := h.disk
  exact ⟨h.ok, ⟨F, hd.same (fun i hi => Go.setRow_other _ _ _ _ (fun e => by have := (hF i hi).2.2; omega)), fun i hi => by have := hF i hi; simpa using this⟩, h.ge, Below.row h.aft (by have := h.ge; omega) R⟩
theorem Lives.joint {w0 : World} {G : Nat → Prop} {hi sb : Nat} {S : Dk} {v : Value} {w W : World} (h : Lives w0 G w.heap.size hi sb S W) (hh : w.heap.size ≤ hi) (hr : RefAt W v S) (hG : ∀ i, G i → w0.heap.size ≤ i ∧ i < w.heap.size) (hs : w.heap.size ≤ W.heap.size) : Joint w0 (more G w W) sb S v W := by
  obtain ⟨F, hd, hF⟩ := h.disk
  refine ⟨h.ok, hd.mono (fun i hi => ?_), fun i hi => ?_, hr, h.aft⟩
  · have := hF i hi
    rcases this.2.2 with h1 | h1
    · exact Or.inl h1.2
    · exact Or.inr ⟨by omega, this.2.1⟩
  · have := h.ge
    rcases hi with h1 | h1
    · have := hG i h1; omega
    · omega
/-- What a call of the disk leaves. -/
structure DPost (w0 : World) (G : Nat → Prop) (lo : Nat) (W : World) (sb : Nat) (S : Dk) (W' : World) : Prop where
  lives : Lives w0 G lo W.heap.size sb S W'
  keep : ∀ g, lo ≤ g → g < W.heap.size → W'.heap[g]? = W.heap[g]?
  ref : ∀ v T, RefAt W v T → RefAt W' v T
  size : W.heap.size ≤ W'.heap.size
  turn : Turn G W W'
  typ : ∀ b, T75 W b → W'.heap[b]? = W.heap[b]?
theorem DPost.of {w0 : World} {G : Nat → Prop} {lo sb : Nat} {S S' : Dk} {F : Nat → Prop} {W W' : World} (h : Dat w0 G lo sb S W) (hF : ∀ i, F i → w0.heap.size ≤ i ∧ i < lo ∧ G i) (hT : ∀ i, F i → ¬ T75 W i) (ok : Ok S') (t : Turn F W W') (d : DiskAt W' (more F W W') sb S') : DPost w0 G lo W sb S' W' := by
  have hs := t.size
  have hle := h.le
  refine ⟨⟨ok, ⟨_, d, fun i hi => ?_⟩, h.ge, Below.trans h.aft (Turn.below t h.aft.size (fun i hi => (hF i hi).1))⟩, fun g h1 h2 => t.block g h2 (fun e => by have := (hF g e).2; omega), fun v T hr => hr.rows (fun b hb => t.block b hb.lt (fun e => hT b e hb)), hs, t.mono (fun i _ hi => (hF i hi).2.2), fun b hb => t.block b hb.lt (fun e => hT b e hb)⟩
  rcases hi with hi | ⟨h1, h2⟩
  · have := hF i hi; exact ⟨this.1, by omega, Or.inl ⟨this.2.1, this.2.2⟩⟩
  · have := h.aft.size; omega
theorem Turn.setRow {F : Nat → Prop} {a b : World} (h : Turn F a b) {g : Nat} (hg : a.heap.size ≤ g) (R : Array Value) : Turn F a (b.setRow g R) :=
  ⟨h.os, h.tape, h.output, by have := h.size; simpa using this, fun k hk hn => by rw [Go.setRow_other _ _ _ _ (by omega)]; exact h.block k hk hn⟩
section
variable {w0 W : World} {lo sb : Nat} {S : Dk} {G : Nat → Prop} (h : Dat w0 G lo sb S W)
include h
theorem d_create (hst : S.steps < 4611686018427387904) (nm : Nm) (hl : nm.length ≤ maxLen) : Calls Try.prog 23 #[.pointer (some ⟨sb, 0, none⟩), .string (strOf nm)] W fun e W' => e = .returned (.int .i64 (createE S nm : Int)) ∧ DPost w0 G lo W sb (createS S nm) W' := by
  obtain ⟨F, hd, hF, hT⟩ := h.disk
  exact (create_any F sb S h.ok hst nm hl W hd (fun i hi => by have := hF i hi; have := h.le; omega)).mono (fun e W' p => ⟨p.1, DPost.of h hF hT (Ok.create h.ok nm) p.2.1 p.2.2⟩)
theorem d_remove (hst : S.steps < 4611686018427387904) (nm : Nm) (hl : nm.length ≤ maxLen) : Calls Try.prog 22 #[.pointer (some ⟨sb, 0, none⟩), .string (strOf nm)] W fun e W' => e = .returned (.int .i64 (removeE S nm : Int)) ∧ DPost w0 G lo W sb (removeS S nm) W' := by
  obtain ⟨F, hd, hF, hT⟩ := h.disk
  exact (remove_any F sb S h.ok hst nm hl W hd (fun i hi => by have := hF i hi; have := h.le; omega)).mono (fun e W' p => ⟨p.1, DPost.of h hF hT (Ok.remove h.ok nm) p.2.1 p.2.2⟩)
theorem d_sync (hst : S.steps < 4611686018427387904) (nm : Nm) (hl : nm.length ≤ maxLen) : Calls Try.prog 27 #[.pointer (some ⟨sb, 0, none⟩), .string (strOf nm)] W fun e W' => e = .returned (.int .i64 (removeE S nm : Int)) ∧ DPost w0 G lo W sb (syncS S nm) W' := by
  obtain ⟨F, hd, hF, hT⟩ := h.disk
  exact (sync_any F sb S h.ok hst nm hl W hd (fun i hi => by have := hF i hi; have := h.le; omega)).mono (fun e W' p => ⟨p.1, DPost.of h hF hT (Ok.sync h.ok nm) p.2.1 p.2.2⟩)
theorem d_append (hst : S.steps < 4611686018427387904) (nm : Nm) (hl : nm.length ≤ maxLen) (pa : Option Addr) (pn pc : Nat) (p : List UInt8) (hp : p.length = pn) (hpa : BytesAt W pa p) (hpf : p ≠ [] → ∀ a, pa = some a → lo ≤ a.block) :
    Calls Try.prog 24 #[.pointer (some ⟨sb, 0, none⟩), .string (strOf nm), .slice pa pn pc] W fun e W' => e = .returned (.int .i64 (appendE S nm p : Int)) ∧ DPost w0 G lo W sb (appendS S nm p) W' := by
  obtain ⟨F, hd, hF, hT⟩ := h.disk
  exact (append_any F sb S h.ok hst nm hl W hd (fun i hi => by have := hF i hi; have := h.le; omega) pa pn pc p hp hpa (fun hne a ha e => by have := hF _ e; have := hpf hne a ha; omega)).mono (fun e W' p' => ⟨p'.1, DPost.of h hF hT (Ok.append h.ok nm p) p'.2.1 p'.2.2⟩)
theorem d_cut (hst : S.steps < 4611686018427387904) (nm : Nm) (hl : nm.length ≤ maxLen) (k : Int) : Calls Try.prog 33 #[.pointer (some ⟨sb, 0, none⟩), .string (strOf nm), .int .i64 k] W fun e W' => e = .returned (.int .i64 (cutE S nm k : Int)) ∧ DPost w0 G lo W sb (cutS S nm k) W' := by
  obtain ⟨F, hd, hF, hT⟩ := h.disk
  exact (cut_any F sb S h.ok hst nm hl W hd (fun i hi => by have := hF i hi; have := h.le; omega) k).mono (fun e W' p => ⟨p.1, DPost.of h hF hT (Ok.cut h.ok nm k) p.2.1 p.2.2⟩)
theorem d_rename (hst : S.steps < 4611686018427387904) (nm : Nm) (hl : nm.length ≤ maxLen) (nw : Nm) (hlw : nw.length ≤ maxLen) : Calls Try.prog 32 #[.pointer (some ⟨sb, 0, none⟩), .string (strOf nm), .string (strOf nw)] W fun e W' => e = .returned (.int .i64 (renameE S nm nw : Int)) ∧ DPost w0 G lo W sb (renameS S nm nw) W' := by
  obtain ⟨F, hd, hF, hT⟩ := h.disk
  exact (rename_any F sb S h.ok hst nm hl W hd (fun i hi => by have := hF i hi; have := h.le; omega) nw hlw).mono (fun e W' p => ⟨p.1, DPost.of h hF hT (Ok.rename h.ok nm nw) p.2.1 p.2.2⟩)
theorem d_fail (n : Int) (hn : n < 9223372036854775808) (done : Bool) : Calls Try.prog 30 #[.pointer (some ⟨sb, 0, none⟩), .int .i64 n, .bool done] W fun e W' => e = .returned (.int .i64 (failE S n : Int)) ∧ DPost w0 G lo W sb (failD S n done) W' := by
  obtain ⟨F, hd, hF, hT⟩ := h.disk
  exact (fail_any F sb S n done W hd (fun i hi => by have := hF i hi; have := h.le; omega)).mono (fun e W' p => ⟨p.1, DPost.of h hF hT (Ok.failD h.ok hn done) p.2.1 p.2.2⟩)
theorem d_start (ka : Option Addr) (kn kc : Nat) (keep : List UInt8) (hk : keep.length = kn) (hkc : kn ≤ kc) (hka : BytesAt W ka keep) (hkf : keep ≠ [] → ∀ a, ka = some a → a.block < w0.heap.size ∨ lo ≤ a.block) :
    Calls Try.prog 19 #[.pointer (some ⟨sb, 0, none⟩), .slice ka kn kc] W fun e W' => e = .returned (.tuple #[]) ∧ DPost w0 G lo W sb (startS S keep) W' := by
  obtain ⟨F, hd, hF, hT⟩ := h.disk
  exact (start_any F sb S h.ok ka kn kc keep hk hkc W hd (fun i hi => by have := hF i hi; have := h.le; omega) hka (fun hne a ha e => by have := hF _ e; have := hkf hne a ha; omega)).mono (fun e W' ⟨h1, h2, h3⟩ => ⟨h1, DPost.of h hF hT (h.ok.start keep) h2 h3⟩)
end
end Go.Proofs.Ytlbodickflljfaa
