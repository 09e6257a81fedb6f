/-
  THE WALKS OF THE CLOSURES that a step is handed.
-/
import Derived.Test.YtlbodickflljfaaLaid
namespace Go.Proofs.Ytlbodickflljfaa
open Go.RowKit Go.Maps Dsk
theorem FileV.zero (w : World) : FileV w zF ⟨[], 0⟩ := ⟨_, rfl, Own.nil w 0⟩
theorem Turn.grow {G : Nat → Prop} {a b c : World} {row : Option Nat} (h : Turn G a b) (hg : b.grownBy c row) (hr : ∀ g, row = some g → G g ∨ a.heap.size ≤ g) : Turn G a c :=
  ⟨hg.os.trans h.os, hg.tape.trans h.tape, hg.output.trans h.output, Nat.le_trans h.size hg.size, fun k hk hn => (hg.block k (Nat.lt_of_lt_of_le hk h.size) (fun e => by
    rcases hr k e.symm with h1 | h1
    · exact hn h1
    · omega)).trans (h.block k hk hn)⟩
theorem row_of {w : World} {F : Nat → Prop} {sb mb : Nat} {S : Dk} {cs : List Ent} (h : Dr w F sb mb S cs) {nm : Nm} {sl : Value} {s : Int} {f : Fl} (hm : (nm, (Value.agg #[sl, .int .i64 s], f)) ∈ cs) {g : Nat} (hg : sl.ownBlock = some g) : F g ∧ (∀ c ∈ cs, c.1 ≠ nm → rowB c.2.1 ≠ some g) ∧ g ≠ mb ∧ g ≠ sb ∧ g < w.heap.size := by
  have h1 : rowB (Value.agg #[sl, .int .i64 s]) = some g := by rw [rowB_file]; exact hg
  refine ⟨h.rows.foot _ hm g h1, fun c hc hne => h.rows.apart _ hm c hc (fun e => hne e.symm) g h1, ?_⟩
  exact h.row_ne hm h1
/-- s[:k], of a row. -/
theorem Own.slice_hi {w : World} {ao : Option Addr} {n c : Nat} {bs : List UInt8} (h : Own w 0 (.slice ao n c) bs) {k : Nat} (hk : k ≤ n) (W : World) : (Instr.sliceAt 31 (.slice ao n c) none (some (.int .i64 (k : Int))) none).run Try.prog W = .ok (.slice ao k c) W := by
  obtain ⟨i, hi', _⟩ := Option.map_eq_some_iff.1 bytes5
  rcases h.2 with ⟨e, h0⟩ | ⟨g, cap, cur, e, _, _, hle, _⟩
  · simp at e
    obtain ⟨rfl, rfl, rfl⟩ := e
    obtain rfl : k = 0 := by omega
    simp [Instr.sliceAt, Instr.slice, run_underlying Try.underlying31, Instr.sliceBounds, Instr.sliceBound, asIntOf, sizeOf, typeInfo, hi']
  · simp at e
    obtain ⟨rfl, e2, rfl⟩ := e
    exact Go.Proofs.Ytlbodickflljfaa.slice_hi g 0 n c k (by omega) W

set_option maxRecDepth 100000 in
set_option maxHeartbeats 800000 in
theorem do_create (F : Nat → Prop) (sb mb : Nat) (S : Dk) (cs : List Ent) (w : World) (nm : Nm) (hl : nm.length ≤ 32) (p q : Nat) (hp : w.cell? ⟨p, 0, none⟩ = some (.pointer (some ⟨sb, 0, none⟩))) (hq : w.cell? ⟨q, 0, none⟩ = some (.string (strOf nm))) (np : ¬ F p) (nq : ¬ F q) (hcs : cs.length < 1000) :
    Does 51 #[.pointer (some ⟨p, 0, none⟩), .pointer (some ⟨q, 0, none⟩)] F sb mb S cs (fput nm ⟨[], 0⟩ S.files) w := by
  intro W S1 hS1 hT hr
  have hF : F sb ∧ F mb := ⟨hr.fsb, hr.fmb⟩
  have np' : p ≠ mb := fun e => np (e ▸ hF.2)
  have nq' : q ≠ mb := fun e => nq (e ▸ hF.2)
  have ns' : sb ≠ mb := fun e => hr.mb_ne e.symm
  have hp' := hT.cell (p := ⟨p, 0, none⟩) np hp
  have hq' := hT.cell (p := ⟨q, 0, none⟩) nq hq
  have hc1 := hr.row.cells68.c1
  have HR : Hid (Dr W F sb mb S1 cs) := hr
  have hml : nm.length ≤ maxLen := by unfold maxLen; omega
  have HML : Hid (nm.length ≤ maxLen) := hml
  have hcn : cs.length < maxLen := by unfold maxLen; omega
  clear hr hT hml hp hq
  go_enter Try.func51, Try.ntmps51
  go_wp2
  refine wp_region_noPanic ?_
  refine wp_region_held_drew (S := Turn (fun i => i = mb) W) (by kernel_rfl) (Turn.drew (Turn.refl _ W)) ?_
  intro hS0
  refine tk 0 2 (.pointer (some ⟨sb, 0, none⟩)) (fuel := 6) rfl (by kernel_rfl) (by kernel_rfl) (by kernel_rfl) (by kernel_rfl) noPanic_false (by kernel_rfl) (fun W hW => x_ld23 (x := .tmp 0) (g := p) (p := 0) (by kernel_rfl) (by kernel_rfl) (hW.cell (p := ⟨p, 0, none⟩) np' hp')) hS0 ?_
  refine tk 1 3 (.pointer (some ⟨sb, 0, none⟩)) (fuel := 5) rfl (by kernel_rfl) (by kernel_rfl) (by kernel_rfl) (by kernel_rfl) noPanic_false (by kernel_rfl) (fun _ _ => by kernel_rfl) hS0 ?_
  refine tk 2 4 (.pointer (some ⟨sb, 1, none⟩)) (fuel := 4) rfl (by kernel_rfl) (by kernel_rfl) (by kernel_rfl) (by kernel_rfl) noPanic_false (by kernel_rfl) (fun _ _ => by kernel_rfl) hS0 ?_
  refine tk 3 5 (.map (some mb)) (fuel := 3) rfl (by kernel_rfl) (by kernel_rfl) (by kernel_rfl) (by kernel_rfl) noPanic_false (by kernel_rfl) (fun W hW => x_ld64 (x := .tmp 4) (g := sb) (p := 1) (by kernel_rfl) (by kernel_rfl) (hW.cell (p := ⟨sb, 1, none⟩) ns' hc1)) hS0 ?_
  refine tk 4 6 (.string (strOf nm)) (fuel := 2) rfl (by kernel_rfl) (by kernel_rfl) (by kernel_rfl) (by kernel_rfl) noPanic_false (by kernel_rfl) (fun W hW => x_ld9 (x := .tmp 1) (g := q) (p := 0) (by kernel_rfl) (by kernel_rfl) (hW.cell (p := ⟨q, 0, none⟩) nq' hq')) hS0 ?_
  refine tk 5 7 (.agg #[.slice none 0 0, .int .i64 0]) (fuel := 1) rfl (by kernel_rfl) (by kernel_rfl) (by kernel_rfl) (by kernel_rfl) noPanic_false (by kernel_rfl) (fun _ _ => by kernel_rfl) hS0 ?_
  refine tkPut 6 (.tmp 5) (.tmp 6) (.tmp 7) mb (cs.length) (vals cs) (nm) (.agg #[.slice none 0 0, .int .i64 0]) (fuel := 0) rfl (by kernel_rfl) (by kernel_rfl) (by kernel_rfl) (by kernel_rfl) (by kernel_rfl) (by kernel_rfl) (by kernel_rfl) (ownsMap_same HR.out.own (show W.drew.heap[mb]? = W.heap[mb]? from rfl)) (hcn) (HML.out) ?_
  intro w1 h1 h2
  have hT1 : Turn (fun i => i = mb) W w1 := hS0.grow h2 (fun g e => Or.inl (by cases e; rfl))
  refine ⟨hT1, ?_⟩
  refine wpAnyH_done (by kernel_rfl) (NoPanic.normal ?_) _
  go_simp
  go_wp2
  have hD := HR.out.put (F' := more F W w1) (f := ⟨[], 0⟩) (fun i hi => Or.inl hi) (hT1.same HR.out.row.lt ns') h1 (fun c hc _ g hg => hT1.same (HR.out.row_ne hc hg).2.2 (HR.out.row_ne hc hg).1) (FileV.zero w1) (fun g hg => by cases hg)
  rw [hS1] at hD
  exact bodyPost_end (v := .tuple #[]) (results_none (by kernel_rfl) _ _ _) rfl ⟨rfl, hT1.mono (fun i _ e => by cases e; exact hF.2), hD.disk⟩
set_option maxRecDepth 100000 in
set_option maxHeartbeats 800000 in
theorem do_remove (F : Nat → Prop) (sb mb : Nat) (S : Dk) (cs : List Ent) (w : World) (nm : Nm) (hl : nm.length ≤ 32) (p q : Nat) (hp : w.cell? ⟨p, 0, none⟩ = some (.pointer (some ⟨sb, 0, none⟩))) (hq : w.cell? ⟨q, 0, none⟩ = some (.string (strOf nm))) (np : ¬ F p) (nq : ¬ F q) (hcs : cs.length < 1000) :
    Does 49 #[.pointer (some ⟨p, 0, none⟩), .pointer (some ⟨q, 0, none⟩)] F sb mb S cs (fdel nm S.files) w := by
  intro W S1 hS1 hT hr
  have hF : F sb ∧ F mb := ⟨hr.fsb, hr.fmb⟩
  have np' : p ≠ mb := fun e => np (e ▸ hF.2)
  have nq' : q ≠ mb := fun e => nq (e ▸ hF.2)
  have ns' : sb ≠ mb := fun e => hr.mb_ne e.symm
  have hp' := hT.cell (p := ⟨p, 0, none⟩) np hp
  have hq' := hT.cell (p := ⟨q, 0, none⟩) nq hq
  have hc1 := hr.row.cells68.c1
  have HR : Hid (Dr W F sb mb S1 cs) := hr
  have hml : nm.length ≤ maxLen := by unfold maxLen; omega
  have HML : Hid (nm.length ≤ maxLen) := hml
  have hcn : cs.length < maxLen := by unfold maxLen; omega
  clear hr hT hml hp hq
  go_enter Try.func49, Try.ntmps49
  go_wp2
  refine wp_region_noPanic ?_
  refine wp_region_held_drew (S := Turn (fun i => i = mb) W) (by kernel_rfl) (Turn.drew (Turn.refl _ W)) ?_
  intro hS0
  refine tk 0 2 (.pointer (some ⟨sb, 0, none⟩)) (fuel := 5) rfl (by kernel_rfl) (by kernel_rfl) (by kernel_rfl) (by kernel_rfl) noPanic_false (by kernel_rfl) (fun W hW => x_ld23 (x := .tmp 0) (g := p) (p := 0) (by kernel_rfl) (by kernel_rfl) (hW.cell (p := ⟨p, 0, none⟩) np' hp')) hS0 ?_
  refine tk 1 3 (.pointer (some ⟨sb, 0, none⟩)) (fuel := 4) rfl (by kernel_rfl) (by kernel_rfl) (by kernel_rfl) (by kernel_rfl) noPanic_false (by kernel_rfl) (fun _ _ => by kernel_rfl) hS0 ?_
  refine tk 2 4 (.pointer (some ⟨sb, 1, none⟩)) (fuel := 3) rfl (by kernel_rfl) (by kernel_rfl) (by kernel_rfl) (by kernel_rfl) noPanic_false (by kernel_rfl) (fun _ _ => by kernel_rfl) hS0 ?_
  refine tk 3 5 (.map (some mb)) (fuel := 2) rfl (by kernel_rfl) (by kernel_rfl) (by kernel_rfl) (by kernel_rfl) noPanic_false (by kernel_rfl) (fun W hW => x_ld64 (x := .tmp 4) (g := sb) (p := 1) (by kernel_rfl) (by kernel_rfl) (hW.cell (p := ⟨sb, 1, none⟩) ns' hc1)) hS0 ?_
  refine tk 4 6 (.string (strOf nm)) (fuel := 1) rfl (by kernel_rfl) (by kernel_rfl) (by kernel_rfl) (by kernel_rfl) noPanic_false (by kernel_rfl) (fun W hW => x_ld9 (x := .tmp 1) (g := q) (p := 0) (by kernel_rfl) (by kernel_rfl) (hW.cell (p := ⟨q, 0, none⟩) nq' hq')) hS0 ?_
  refine tkDel 5 (.tmp 5) (.tmp 6) mb (cs.length) (vals cs) (nm) (fuel := 0) rfl (by kernel_rfl) (by kernel_rfl) (by kernel_rfl) (by kernel_rfl) (by kernel_rfl) (by kernel_rfl) (ownsMap_same HR.out.own (show W.drew.heap[mb]? = W.heap[mb]? from rfl)) (HML.out) ?_
  intro w1 h1 h2
  have hT1 : Turn (fun i => i = mb) W w1 := hS0.grow h2 (fun g e => Or.inl (by cases e; rfl))
  refine ⟨hT1, ?_⟩
  refine wpAnyH_done (by kernel_rfl) (NoPanic.normal ?_) _
  go_simp
  go_wp2
  have hD := HR.out.del (hT1.same HR.out.row.lt ns') h1 (fun c hc g hg => hT1.same (HR.out.row_ne hc hg).2.2 (HR.out.row_ne hc hg).1)
  rw [hS1] at hD
  exact bodyPost_end (v := .tuple #[]) (results_none (by kernel_rfl) _ _ _) rfl ⟨rfl, hT1.mono (fun i _ e => by cases e; exact hF.2), hD.disk.mono (fun i hi => Or.inl hi)⟩
set_option maxRecDepth 100000 in
set_option maxHeartbeats 800000 in
theorem do_sync (F : Nat → Prop) (sb mb : Nat) (S : Dk) (cs : List Ent) (w : World) (nm : Nm) (hl : nm.length ≤ 32) (p q : Nat) (hp : w.cell? ⟨p, 0, none⟩ = some (.pointer (some ⟨sb, 0, none⟩))) (hq : w.cell? ⟨q, 0, none⟩ = some (.string (strOf nm))) (np : ¬ F p) (nq : ¬ F q) (hcs : cs.length < 1000) (fb n c : Nat) (ao : Option Addr) (f : Fl) (hf0 : w.cell? ⟨fb, 0, none⟩ = some (.slice ao n c)) (hf1 : w.cell? ⟨fb, 1, none⟩ = some (.int .i64 (f.safe : Int))) (nf : ¬ F fb) (hg : fget nm cs = some (.agg #[.slice ao n c, .int .i64 (f.safe : Int)], f)) :
    Does 55 #[.pointer (some ⟨fb, 0, none⟩), .pointer (some ⟨p, 0, none⟩), .pointer (some ⟨q, 0, none⟩)] F sb mb S cs (fput nm ⟨f.data, f.data.length⟩ S.files) w := by
  intro W S1 hS1 hT hr
  have hF : F sb ∧ F mb := ⟨hr.fsb, hr.fmb⟩
  have np' : p ≠ mb := fun e => np (e ▸ hF.2)
  have nq' : q ≠ mb := fun e => nq (e ▸ hF.2)
  have ns' : sb ≠ mb := fun e => hr.mb_ne e.symm
  have hp' := hT.cell (p := ⟨p, 0, none⟩) np hp
  have hq' := hT.cell (p := ⟨q, 0, none⟩) nq hq
  have hc1 := hr.row.cells68.c1
  have HR : Hid (Dr W F sb mb S1 cs) := hr
  have hml : nm.length ≤ maxLen := by unfold maxLen; omega
  have HML : Hid (nm.length ≤ maxLen) := hml
  have hcn : cs.length < maxLen := by unfold maxLen; omega
  have nf' : fb ≠ mb := fun e => nf (e ▸ hF.2)
  have hf0' := hT.cell (p := ⟨fb, 0, none⟩) nf hf0
  have hf1' := hT.cell (p := ⟨fb, 1, none⟩) nf hf1
  have hmem := fget_mem hg
  have hfile := hr.rows.file _ hmem
  obtain ⟨sl0, hsl0, hown0⟩ := hfile
  simp only [Value.agg.injEq] at hsl0
  obtain rfl : sl0 = .slice ao n c := by
    have := congrArg (fun x : Array Value => x[0]?) hsl0
    simpa using this.symm
  have HO0 : Hid (Own W 0 (.slice ao n c) f.data) := hown0
  have HM : Hid ((nm, (Value.agg #[.slice ao n c, .int .i64 (f.safe : Int)], f)) ∈ cs) := hmem
  have hnl : f.data.length = n := by
    obtain ⟨ao1, c1, e, _⟩ := Own.at hown0
    simp at e; omega
  have HNL : Hid (f.data.length = n) := hnl
  clear hf0 hf1 hsl0 hown0 hmem hg hnl
  clear hr hT hml hp hq
  go_enter Try.func55, Try.ntmps55
  go_wp2
  refine wp_region_noPanic ?_
  refine wp_region_held_drew (S := Turn (fun i => i = mb) W) (by kernel_rfl) (Turn.drew (Turn.refl _ W)) ?_
  intro hS0
  refine tk 0 3 (.pointer (some ⟨sb, 0, none⟩)) (fuel := 11) rfl (by kernel_rfl) (by kernel_rfl) (by kernel_rfl) (by kernel_rfl) noPanic_false (by kernel_rfl) (fun W hW => x_ld23 (x := .tmp 1) (g := p) (p := 0) (by kernel_rfl) (by kernel_rfl) (hW.cell (p := ⟨p, 0, none⟩) np' hp')) hS0 ?_
  refine tk 1 4 (.pointer (some ⟨sb, 0, none⟩)) (fuel := 10) rfl (by kernel_rfl) (by kernel_rfl) (by kernel_rfl) (by kernel_rfl) noPanic_false (by kernel_rfl) (fun _ _ => by kernel_rfl) hS0 ?_
  refine tk 2 5 (.pointer (some ⟨sb, 1, none⟩)) (fuel := 9) rfl (by kernel_rfl) (by kernel_rfl) (by kernel_rfl) (by kernel_rfl) noPanic_false (by kernel_rfl) (fun _ _ => by kernel_rfl) hS0 ?_
  refine tk 3 6 (.map (some mb)) (fuel := 8) rfl (by kernel_rfl) (by kernel_rfl) (by kernel_rfl) (by kernel_rfl) noPanic_false (by kernel_rfl) (fun W hW => x_ld64 (x := .tmp 5) (g := sb) (p := 1) (by kernel_rfl) (by kernel_rfl) (hW.cell (p := ⟨sb, 1, none⟩) ns' hc1)) hS0 ?_
  refine tk 4 7 (.string (strOf nm)) (fuel := 7) rfl (by kernel_rfl) (by kernel_rfl) (by kernel_rfl) (by kernel_rfl) noPanic_false (by kernel_rfl) (fun W hW => x_ld9 (x := .tmp 2) (g := q) (p := 0) (by kernel_rfl) (by kernel_rfl) (hW.cell (p := ⟨q, 0, none⟩) nq' hq')) hS0 ?_
  refine tk 5 8 (.pointer (some ⟨fb, 0, none⟩)) (fuel := 6) rfl (by kernel_rfl) (by kernel_rfl) (by kernel_rfl) (by kernel_rfl) noPanic_false (by kernel_rfl) (fun _ _ => by kernel_rfl) hS0 ?_
  refine tk 6 9 (.slice ao n c) (fuel := 5) rfl (by kernel_rfl) (by kernel_rfl) (by kernel_rfl) (by kernel_rfl) noPanic_false (by kernel_rfl) (fun W hW => x_ld31 (x := .tmp 8) (g := fb) (p := 0) (by kernel_rfl) (by kernel_rfl) (hW.cell (p := ⟨fb, 0, none⟩) nf' hf0')) hS0 ?_
  refine tk 7 10 (.pointer (some ⟨fb, 0, none⟩)) (fuel := 4) rfl (by kernel_rfl) (by kernel_rfl) (by kernel_rfl) (by kernel_rfl) noPanic_false (by kernel_rfl) (fun _ _ => by kernel_rfl) hS0 ?_
  refine tk 8 11 (.slice ao n c) (fuel := 3) rfl (by kernel_rfl) (by kernel_rfl) (by kernel_rfl) (by kernel_rfl) noPanic_false (by kernel_rfl) (fun W hW => x_ld31 (x := .tmp 10) (g := fb) (p := 0) (by kernel_rfl) (by kernel_rfl) (hW.cell (p := ⟨fb, 0, none⟩) nf' hf0')) hS0 ?_
  refine tk 9 12 (.int .i64 (n : Int)) (fuel := 2) rfl (by kernel_rfl) (by kernel_rfl) (by kernel_rfl) (by kernel_rfl) noPanic_false (by kernel_rfl) (fun _ _ => by kernel_rfl) hS0 ?_
  refine tk 10 13 (.agg #[.slice ao n c, .int .i64 (n : Int)]) (fuel := 1) rfl (by kernel_rfl) (by kernel_rfl) (by kernel_rfl) (by kernel_rfl) noPanic_false (by kernel_rfl) (fun _ _ => by kernel_rfl) hS0 ?_
  refine tkPut 11 (.tmp 6) (.tmp 7) (.tmp 13) mb (cs.length) (vals cs) (nm) (.agg #[.slice ao n c, .int .i64 (n : Int)]) (fuel := 0) rfl (by kernel_rfl) (by kernel_rfl) (by kernel_rfl) (by kernel_rfl) (by kernel_rfl) (by kernel_rfl) (by kernel_rfl) (ownsMap_same HR.out.own (show W.drew.heap[mb]? = W.heap[mb]? from rfl)) (hcn) (HML.out) ?_
  intro w1 h1 h2
  have hT1 : Turn (fun i => i = mb) W w1 := hS0.grow h2 (fun g e => Or.inl (by cases e; rfl))
  refine ⟨hT1, ?_⟩
  refine wpAnyH_done (by kernel_rfl) (NoPanic.normal ?_) _
  go_simp
  go_wp2
  have hD := HR.out.put (F' := more F W w1) (f := ⟨f.data, f.data.length⟩) (fun i hi => Or.inl hi) (hT1.same HR.out.row.lt ns') h1 (fun c hc _ g hg => hT1.same (HR.out.row_ne hc hg).2.2 (HR.out.row_ne hc hg).1)
    ⟨.slice ao n c, by rw [HNL.out], HO0.out.same (fun g hg => by obtain ⟨_, _, r3, _, r5⟩ := row_of HR.out HM.out hg; exact hT1.same r5 r3)⟩ (fun g hg => by
      rw [rowB_file] at hg
      obtain ⟨r1, r2, _⟩ := row_of HR.out HM.out hg
      exact ⟨Or.inl r1, r2⟩)
  rw [hS1] at hD
  exact bodyPost_end (v := .tuple #[]) (results_none (by kernel_rfl) _ _ _) rfl ⟨rfl, hT1.mono (fun i _ e => by cases e; exact hF.2), hD.disk⟩
set_option maxRecDepth 100000 in
set_option maxHeartbeats 800000 in
theorem do_append (F : Nat → Prop) (sb mb : Nat) (S : Dk) (cs : List Ent) (w : World) (nm : Nm) (hl : nm.length ≤ 32) (p q : Nat) (hp : w.cell? ⟨p, 0, none⟩ = some (.pointer (some ⟨sb, 0, none⟩))) (hq : w.cell? ⟨q, 0, none⟩ = some (.string (strOf nm))) (np : ¬ F p) (nq : ¬ F q) (hcs : cs.length < 1000) (fb n c : Nat) (ao : Option Addr) (f : Fl) (hf0 : w.cell? ⟨fb, 0, none⟩ = some (.slice ao n c)) (hf1 : w.cell? ⟨fb, 1, none⟩ = some (.int .i64 (f.safe : Int))) (nf : ¬ F fb) (hg : fget nm cs = some (.agg #[.slice ao n c, .int .i64 (f.safe : Int)], f))
    (pb pn pc : Nat) (pa : Option Addr) (news : List UInt8) (hpb : w.cell? ⟨pb, 0, none⟩ = some (.slice pa pn pc)) (npb : ¬ F pb) (hpn : news.length = pn) (hpa : BytesAt w pa news) (hpf : news ≠ [] → ∀ a, pa = some a → ¬ F a.block) (hbig : f.data.length + news.length ≤ 16777216) :
    Does 52 #[.pointer (some ⟨fb, 0, none⟩), .pointer (some ⟨pb, 0, none⟩), .pointer (some ⟨p, 0, none⟩), .pointer (some ⟨q, 0, none⟩)] F sb mb S cs (fput nm ⟨f.data ++ news, f.safe⟩ S.files) w := by
  intro W S1 hS1 hT hr
  have hF : F sb ∧ F mb := ⟨hr.fsb, hr.fmb⟩
  have np' : p ≠ mb := fun e => np (e ▸ hF.2)
  have nq' : q ≠ mb := fun e => nq (e ▸ hF.2)
  have ns' : sb ≠ mb := fun e => hr.mb_ne e.symm
  have hp' := hT.cell (p := ⟨p, 0, none⟩) np hp
  have hq' := hT.cell (p := ⟨q, 0, none⟩) nq hq
  have hc1 := hr.row.cells68.c1
  have HR : Hid (Dr W F sb mb S1 cs) := hr
  have hml : nm.length ≤ maxLen := by unfold maxLen; omega
  have HML : Hid (nm.length ≤ maxLen) := hml
  have hcn : cs.length < maxLen := by unfold maxLen; omega
  have nf' : fb ≠ mb := fun e => nf (e ▸ hF.2)
  have hf0' := hT.cell (p := ⟨fb, 0, none⟩) nf hf0
  have hf1' := hT.cell (p := ⟨fb, 1, none⟩) nf hf1
  have hmem := fget_mem hg
  have hfile := hr.rows.file _ hmem
  obtain ⟨sl0, hsl0, hown0⟩ := hfile
  simp only [Value.agg.injEq] at hsl0
  obtain rfl : sl0 = .slice ao n c := by
    have := congrArg (fun x : Array Value => x[0]?) hsl0
    simpa using this.symm
  have HO0 : Hid (Own W 0 (.slice ao n c) f.data) := hown0
  have HM : Hid ((nm, (Value.agg #[.slice ao n c, .int .i64 (f.safe : Int)], f)) ∈ cs) := hmem
  have hnl : f.data.length = n := by
    obtain ⟨ao1, c1, e, _⟩ := Own.at hown0
    simp at e; omega
  have HNL : Hid (f.data.length = n) := hnl
  clear hf0 hf1 hsl0 hown0 hmem hg hnl
  have npb' : pb ≠ mb := fun e => npb (e ▸ hF.2)
  have hpb' := hT.cell (p := ⟨pb, 0, none⟩) npb hpb
  have hpa' : BytesAt W pa news := fun hne => by
    obtain ⟨b, o, rfl, hc⟩ := hpa hne
    exact ⟨b, o, rfl, fun j hj => hT.cell (p := ⟨b, o + j, none⟩) (hpf hne ⟨b, o, none⟩ rfl) (hc j hj)⟩
  have HPA : Hid (BytesAt W pa news) := hpa'
  have HPN : Hid (news.length = pn) := hpn
  clear hpa hpb hpa' hpn hpf
  clear hr hT hml hp hq
  have ngf : ∀ g, (Value.slice ao n c).ownBlock = some g → F g ∧ g ≠ sb := fun g hg => by
    obtain ⟨r1, _, _, r4, _⟩ := row_of HR.out HM.out hg
    exact ⟨r1, r4⟩
  have nsG : ¬ (sb = mb ∨ (Value.slice ao n c).ownBlock = some sb) := fun e => e.elim ns' (fun e => (ngf _ e).2 rfl)
  have npG : ¬ (p = mb ∨ (Value.slice ao n c).ownBlock = some p) := fun e => e.elim np' (fun e => np (ngf _ e).1)
  have nqG : ¬ (q = mb ∨ (Value.slice ao n c).ownBlock = some q) := fun e => e.elim nq' (fun e => nq (ngf _ e).1)
  have nfG : ¬ (fb = mb ∨ (Value.slice ao n c).ownBlock = some fb) := fun e => e.elim nf' (fun e => nf (ngf _ e).1)
  have npbG : ¬ (pb = mb ∨ (Value.slice ao n c).ownBlock = some pb) := fun e => e.elim npb' (fun e => npb (ngf _ e).1)
  go_enter Try.func52, Try.ntmps52
  go_wp2
  refine wp_region_noPanic ?_
  refine wp_region_held_drew (S := Turn (fun i => i = mb ∨ (Value.slice ao n c).ownBlock = some i) W) (by kernel_rfl) (Turn.drew (Turn.refl _ W)) ?_
  intro hS0
  refine tk 0 4 (.pointer (some ⟨sb, 0, none⟩)) (fuel := 12) rfl (by kernel_rfl) (by kernel_rfl) (by kernel_rfl) (by kernel_rfl) noPanic_false (by kernel_rfl) (fun W hW => x_ld23 (x := .tmp 2) (g := p) (p := 0) (by kernel_rfl) (by kernel_rfl) (hW.cell (p := ⟨p, 0, none⟩) npG hp')) hS0 ?_
  refine tk 1 5 (.pointer (some ⟨sb, 0, none⟩)) (fuel := 11) rfl (by kernel_rfl) (by kernel_rfl) (by kernel_rfl) (by kernel_rfl) noPanic_false (by kernel_rfl) (fun _ _ => by kernel_rfl) hS0 ?_
  refine tk 2 6 (.pointer (some ⟨sb, 1, none⟩)) (fuel := 10) rfl (by kernel_rfl) (by kernel_rfl) (by kernel_rfl) (by kernel_rfl) noPanic_false (by kernel_rfl) (fun _ _ => by kernel_rfl) hS0 ?_
  refine tk 3 7 (.map (some mb)) (fuel := 9) rfl (by kernel_rfl) (by kernel_rfl) (by kernel_rfl) (by kernel_rfl) noPanic_false (by kernel_rfl) (fun W hW => x_ld64 (x := .tmp 6) (g := sb) (p := 1) (by kernel_rfl) (by kernel_rfl) (hW.cell (p := ⟨sb, 1, none⟩) nsG hc1)) hS0 ?_
  refine tk 4 8 (.string (strOf nm)) (fuel := 8) rfl (by kernel_rfl) (by kernel_rfl) (by kernel_rfl) (by kernel_rfl) noPanic_false (by kernel_rfl) (fun W hW => x_ld9 (x := .tmp 3) (g := q) (p := 0) (by kernel_rfl) (by kernel_rfl) (hW.cell (p := ⟨q, 0, none⟩) nqG hq')) hS0 ?_
  refine tk 5 9 (.pointer (some ⟨fb, 0, none⟩)) (fuel := 7) rfl (by kernel_rfl) (by kernel_rfl) (by kernel_rfl) (by kernel_rfl) noPanic_false (by kernel_rfl) (fun _ _ => by kernel_rfl) hS0 ?_
  refine tk 6 10 (.slice ao n c) (fuel := 6) rfl (by kernel_rfl) (by kernel_rfl) (by kernel_rfl) (by kernel_rfl) noPanic_false (by kernel_rfl) (fun W hW => x_ld31 (x := .tmp 9) (g := fb) (p := 0) (by kernel_rfl) (by kernel_rfl) (hW.cell (p := ⟨fb, 0, none⟩) nfG hf0')) hS0 ?_
  refine tk 7 11 (.slice pa pn pc) (fuel := 5) rfl (by kernel_rfl) (by kernel_rfl) (by kernel_rfl) (by kernel_rfl) noPanic_false (by kernel_rfl) (fun W hW => x_ld31 (x := .tmp 1) (g := pb) (p := 0) (by kernel_rfl) (by kernel_rfl) (hW.cell (p := ⟨pb, 0, none⟩) npbG hpb')) hS0 ?_
  refine tk 9 13 (.pointer (some ⟨fb, 1, none⟩)) (fuel := 4) rfl (by kernel_rfl) (by kernel_rfl) (by kernel_rfl) (by kernel_rfl) noPanic_false (by kernel_rfl) (fun _ _ => by kernel_rfl) hS0 ?_
  refine tk 10 14 (.int .i64 (f.safe : Int)) (fuel := 3) rfl (by kernel_rfl) (by kernel_rfl) (by kernel_rfl) (by kernel_rfl) noPanic_false (by kernel_rfl) (fun W hW => x_ld3 (x := .tmp 13) (g := fb) (p := 1) (by kernel_rfl) (by kernel_rfl) (hW.cell (p := ⟨fb, 1, none⟩) nfG hf1')) hS0 ?_
  refine tkApp 8 12 (.tmp 10) (.tmp 11) (.slice ao n c) (f.data) (pa) (pn) (pc) (news) (fuel := 2) rfl (by kernel_rfl) (by kernel_rfl) (by kernel_rfl) (by kernel_rfl) (by kernel_rfl) (HPN.out) (by kernel_rfl) (HO0.out) (HPA.out) (by omega) ?_
  intro v1 w1 o1 g1 l1
  have hT1 : Turn (fun i => i = mb ∨ (Value.slice ao n c).ownBlock = some i) W w1 := hS0.grow g1 (fun g e => Or.inl (Or.inr e))
  refine ⟨hT1, ?_⟩
  have hmb1 : w1.heap[mb]? = W.heap[mb]? := (g1.block mb HR.out.own.lt (fun e => (row_of HR.out HM.out e.symm).2.2.1 rfl)).trans rfl
  obtain ⟨k1, hk1⟩ : ∃ k, (f.data ++ news).length = k := ⟨_, rfl⟩
  obtain ⟨a1, c1, hv1, _, _⟩ := Own.sl o1 k1 hk1
  subst hv1
  refine tk 11 15 (.agg #[.slice a1 k1 c1, .int .i64 (f.safe : Int)]) (fuel := 1) rfl (by kernel_rfl) (by kernel_rfl) (by kernel_rfl) (by kernel_rfl) noPanic_false (by kernel_rfl) (fun _ _ => by kernel_rfl) hT1 ?_
  refine tkPut 12 (.tmp 7) (.tmp 8) (.tmp 15) mb (cs.length) (vals cs) (nm) (.agg #[.slice a1 k1 c1, .int .i64 (f.safe : Int)]) (fuel := 0) rfl (by kernel_rfl) (by kernel_rfl) (by kernel_rfl) (by kernel_rfl) (by kernel_rfl) (by kernel_rfl) (by kernel_rfl) (ownsMap_same HR.out.own hmb1) (hcn) (HML.out) ?_
  intro w2 h1 h2
  have hT2 : Turn (fun i => i = mb ∨ (Value.slice ao n c).ownBlock = some i) W w2 := hT1.grow h2 (fun g e => Or.inl (Or.inl (by cases e; rfl)))
  refine ⟨hT2, ?_⟩
  refine wpAnyH_done (by kernel_rfl) (NoPanic.normal ?_) _
  go_simp
  go_wp2
  have hmlt := HR.out.own.lt
  have hnew : ∀ g, (Value.slice a1 k1 c1).ownBlock = some g → ((Value.slice ao n c).ownBlock = some g ∨ g = W.heap.size) ∧ g < w1.heap.size := fun g hg => by
    refine ⟨?_, (World.ownsRow.lt o1 g hg).2⟩
    rcases l1 with e | e
    · exact Or.inl (e ▸ hg)
    · rw [hg] at e
      have : some g = some W.heap.size := e
      exact Or.inr (by simpa using this)
  have hs2 := h2.size
  have hD := HR.out.put (F' := more F W w2) (f := ⟨f.data ++ news, f.safe⟩) (fun i hi => Or.inl hi) (hT2.same HR.out.row.lt nsG) h1 (fun c hc hne g hg => hT2.same (HR.out.row_ne hc hg).2.2 (fun e => e.elim (HR.out.row_ne hc hg).1 (fun e => (row_of HR.out HM.out e).2.1 c hc hne hg)))
    ⟨.slice a1 k1 c1, rfl, o1.same (fun g hg => h2.block g (hnew g hg).2 (fun e => by
      cases e
      rcases (hnew _ hg).1 with e | e
      · exact (row_of HR.out HM.out e).2.2.1 rfl
      · omega))⟩ (fun g hg => by
      rw [rowB_file] at hg
      rcases (hnew g hg).1 with e | e
      · obtain ⟨r1, r2, _⟩ := row_of HR.out HM.out e
        exact ⟨Or.inl r1, r2⟩
      · exact ⟨Or.inr ⟨by omega, by have := (hnew g hg).2; omega⟩, fun c hc _ hcg => by have := (HR.out.row_ne hc hcg).2.2; omega⟩)
  rw [hS1] at hD
  exact bodyPost_end (v := .tuple #[]) (results_none (by kernel_rfl) _ _ _) rfl ⟨rfl, hT2.mono (fun i _ e => e.elim (fun e => by cases e; exact hF.2) (fun e => (ngf i e).1)), hD.disk⟩
theorem x_slh {oi : Oper} {a : Act} {x y : Operand} {w W : World} {ao : Option Addr} {n c k : Nat} {bs : List UInt8} (hop : oi.op = .slice 31 x none (some y) none) (hx : a.eval x = .slice ao n c) (hy : a.eval y = .int .i64 (k : Int)) (h : Own W 0 (.slice ao n c) bs) (hk : k ≤ n) : (execOp a.eval oi).run Try.prog w = .ok (.value (.slice ao k c)) w := by
  unfold execOp
  simp only [hop, hx, hy, Option.map, Sem.run_bind, h.slice_hi hk w, Result.andThen_ok]
  rfl
set_option maxRecDepth 100000 in
set_option maxHeartbeats 800000 in
theorem do_cut (F : Nat → Prop) (sb mb : Nat) (S : Dk) (cs : List Ent) (w : World) (nm : Nm) (hl : nm.length ≤ 32) (p q : Nat) (hp : w.cell? ⟨p, 0, none⟩ = some (.pointer (some ⟨sb, 0, none⟩))) (hq : w.cell? ⟨q, 0, none⟩ = some (.string (strOf nm))) (np : ¬ F p) (nq : ¬ F q) (hcs : cs.length < 1000) (fb n c : Nat) (ao : Option Addr) (f : Fl) (hf0 : w.cell? ⟨fb, 0, none⟩ = some (.slice ao n c)) (hf1 : w.cell? ⟨fb, 1, none⟩ = some (.int .i64 (f.safe : Int))) (nf : ¬ F fb) (hg : fget nm cs = some (.agg #[.slice ao n c, .int .i64 (f.safe : Int)], f))
    (kb k : Nat) (hkb : w.cell? ⟨kb, 0, none⟩ = some (.int .i64 (k : Int))) (nk : ¬ F kb) (hk : k ≤ n) (hbig : n ≤ 16777216) :
    Does 57 #[.pointer (some ⟨fb, 0, none⟩), .pointer (some ⟨kb, 0, none⟩), .pointer (some ⟨p, 0, none⟩), .pointer (some ⟨q, 0, none⟩)] F sb mb S cs (fput nm ⟨f.data.take k, k⟩ S.files) w := by
  intro W S1 hS1 hT hr
  have hF : F sb ∧ F mb := ⟨hr.fsb, hr.fmb⟩
  have np' : p ≠ mb := fun e => np (e ▸ hF.2)
  have nq' : q ≠ mb := fun e => nq (e ▸ hF.2)
  have ns' : sb ≠ mb := fun e => hr.mb_ne e.symm
  have hp' := hT.cell (p := ⟨p, 0, none⟩) np hp
  have hq' := hT.cell (p := ⟨q, 0, none⟩) nq hq
  have hc1 := hr.row.cells68.c1
  have HR : Hid (Dr W F sb mb S1 cs) := hr
  have hml : nm.length ≤ maxLen := by unfold maxLen; omega
  have HML : Hid (nm.length ≤ maxLen) := hml
  have hcn : cs.length < maxLen := by unfold maxLen; omega
  have nf' : fb ≠ mb := fun e => nf (e ▸ hF.2)
  have hf0' := hT.cell (p := ⟨fb, 0, none⟩) nf hf0
  have hf1' := hT.cell (p := ⟨fb, 1, none⟩) nf hf1
  have hmem := fget_mem hg
  have hfile := hr.rows.file _ hmem
  obtain ⟨sl0, hsl0, hown0⟩ := hfile
  simp only [Value.agg.injEq] at hsl0
  obtain rfl : sl0 = .slice ao n c := by
    have := congrArg (fun x : Array Value => x[0]?) hsl0
    simpa using this.symm
  have HO0 : Hid (Own W 0 (.slice ao n c) f.data) := hown0
  have HM : Hid ((nm, (Value.agg #[.slice ao n c, .int .i64 (f.safe : Int)], f)) ∈ cs) := hmem
  have hnl : f.data.length = n := by
    obtain ⟨ao1, c1, e, _⟩ := Own.at hown0
    simp at e; omega
  have HNL : Hid (f.data.length = n) := hnl
  clear hf0 hf1 hsl0 hown0 hmem hg hnl
  have nk' : kb ≠ mb := fun e => nk (e ▸ hF.2)
  have hkb' := hT.cell (p := ⟨kb, 0, none⟩) nk hkb
  clear hkb
  clear hr hT hml hp hq
  obtain ⟨_, _, hsl', hat, _⟩ := Own.sl HO0.out n HNL.out
  simp only [Value.slice.injEq] at hsl'
  obtain ⟨rfl, _, rfl⟩ := hsl'
  have hkl : (f.data.take k).length = k := by rw [List.length_take, HNL.out]; omega
  have HKL : Hid ((f.data.take k).length = k) := hkl
  have C := show Hid _ from fun (W1 : World) (h1 : After W W1) => safeFile_any ao c (f.data.take k) (by rw [hkl]; omega) W1 ((hat.take k).after h1)
  rw [hkl] at C
  clear hkl hat
  go_enter Try.func57, Try.ntmps57
  go_wp2
  refine wp_region_noPanic ?_
  refine wp_region_held_drew (S := Turn (fun i => i = mb) W) (by kernel_rfl) (Turn.drew (Turn.refl _ W)) ?_
  intro hS0
  refine tk 0 4 (.pointer (some ⟨sb, 0, none⟩)) (fuel := 10) rfl (by kernel_rfl) (by kernel_rfl) (by kernel_rfl) (by kernel_rfl) noPanic_false (by kernel_rfl) (fun W hW => x_ld23 (x := .tmp 2) (g := p) (p := 0) (by kernel_rfl) (by kernel_rfl) (hW.cell (p := ⟨p, 0, none⟩) np' hp')) hS0 ?_
  refine tk 1 5 (.pointer (some ⟨sb, 0, none⟩)) (fuel := 9) rfl (by kernel_rfl) (by kernel_rfl) (by kernel_rfl) (by kernel_rfl) noPanic_false (by kernel_rfl) (fun _ _ => by kernel_rfl) hS0 ?_
  refine tk 2 6 (.pointer (some ⟨sb, 1, none⟩)) (fuel := 8) rfl (by kernel_rfl) (by kernel_rfl) (by kernel_rfl) (by kernel_rfl) noPanic_false (by kernel_rfl) (fun _ _ => by kernel_rfl) hS0 ?_
  refine tk 3 7 (.map (some mb)) (fuel := 7) rfl (by kernel_rfl) (by kernel_rfl) (by kernel_rfl) (by kernel_rfl) noPanic_false (by kernel_rfl) (fun W hW => x_ld64 (x := .tmp 6) (g := sb) (p := 1) (by kernel_rfl) (by kernel_rfl) (hW.cell (p := ⟨sb, 1, none⟩) ns' hc1)) hS0 ?_
  refine tk 4 8 (.string (strOf nm)) (fuel := 6) rfl (by kernel_rfl) (by kernel_rfl) (by kernel_rfl) (by kernel_rfl) noPanic_false (by kernel_rfl) (fun W hW => x_ld9 (x := .tmp 3) (g := q) (p := 0) (by kernel_rfl) (by kernel_rfl) (hW.cell (p := ⟨q, 0, none⟩) nq' hq')) hS0 ?_
  refine tk 5 9 (.pointer (some ⟨fb, 0, none⟩)) (fuel := 5) rfl (by kernel_rfl) (by kernel_rfl) (by kernel_rfl) (by kernel_rfl) noPanic_false (by kernel_rfl) (fun _ _ => by kernel_rfl) hS0 ?_
  refine tk 6 10 (.slice ao n c) (fuel := 4) rfl (by kernel_rfl) (by kernel_rfl) (by kernel_rfl) (by kernel_rfl) noPanic_false (by kernel_rfl) (fun W hW => x_ld31 (x := .tmp 9) (g := fb) (p := 0) (by kernel_rfl) (by kernel_rfl) (hW.cell (p := ⟨fb, 0, none⟩) nf' hf0')) hS0 ?_
  refine tk 7 11 (.int .i64 (k : Int)) (fuel := 3) rfl (by kernel_rfl) (by kernel_rfl) (by kernel_rfl) (by kernel_rfl) noPanic_false (by kernel_rfl) (fun W hW => x_ld3 (x := .tmp 1) (g := kb) (p := 0) (by kernel_rfl) (by kernel_rfl) (hW.cell (p := ⟨kb, 0, none⟩) nk' hkb')) hS0 ?_
  refine tk 8 12 (.slice ao k c) (fuel := 2) rfl (by kernel_rfl) (by kernel_rfl) (by kernel_rfl) (by kernel_rfl) noPanic_false (by kernel_rfl) (fun _ _ => x_slh (x := .tmp 10) (y := .tmp 11) (by kernel_rfl) (by kernel_rfl) (by kernel_rfl) HO0.out hk) hS0 ?_
  refine tkCallS 9 13 58 #[.slice ao k c] (fun v w' => ∃ sl, v = .agg #[sl, .int .i64 (k : Int)] ∧ Own w' W.drew.heap.size sl (f.data.take k) ∧ After W.drew w') (fuel := 1) rfl (by kernel_rfl) (by kernel_rfl) (by kernel_rfl) (fun _ => by kernel_rfl) ((C.out W.drew (After.drew (After.refl W))).mono (fun e w' ⟨v, he, h1, h2⟩ => ⟨_, he, v, rfl, h1, h2⟩)) ?_
  intro v1 w1 ⟨sl1, hv1, o1, b1⟩
  have hA1 : After W w1 := After.trans (After.drew (After.refl W)) b1
  have hT0 : Turn (fun i => i = mb) W w1 := Turn.of_after hA1
  refine ⟨hT0, ?_⟩
  obtain ⟨a1, c1, hsl1, _, _⟩ := Own.sl o1 k HKL.out
  subst hsl1
  subst hv1
  refine tkPut 10 (.tmp 7) (.tmp 8) (.tmp 13) mb (cs.length) (vals cs) (nm) (.agg #[.slice a1 k c1, .int .i64 (k : Int)]) (fuel := 0) rfl (by kernel_rfl) (by kernel_rfl) (by kernel_rfl) (by kernel_rfl) (by kernel_rfl) (by kernel_rfl) (by kernel_rfl) (ownsMap_same HR.out.own (hA1.block mb HR.out.own.lt)) (hcn) (HML.out) ?_
  intro w2 h1 h2
  have hT1 : Turn (fun i => i = mb) W w2 := hT0.grow h2 (fun g e => Or.inl (by cases e; rfl))
  refine ⟨hT1, ?_⟩
  refine wpAnyH_done (by kernel_rfl) (NoPanic.normal ?_) _
  go_simp
  go_wp2
  have hmlt := HR.out.own.lt
  have hs2 := h2.size
  have hnew : ∀ g, (Value.slice a1 k c1).ownBlock = some g → W.heap.size ≤ g ∧ g < w1.heap.size := fun g hg => World.ownsRow.lt o1 g hg
  have hD := HR.out.put (F' := more F W w2) (f := ⟨f.data.take k, k⟩) (fun i hi => Or.inl hi) (hT1.same HR.out.row.lt ns') h1 (fun c hc _ g hg => hT1.same (HR.out.row_ne hc hg).2.2 (HR.out.row_ne hc hg).1)
    ⟨.slice a1 k c1, rfl, (o1.mono (Nat.zero_le _)).same (fun g hg => h2.block g (hnew g hg).2 (fun e => by
      cases e
      have := (hnew _ hg).1
      omega))⟩ (fun g hg => by
      rw [rowB_file] at hg
      have := hnew g hg
      exact ⟨Or.inr ⟨this.1, by omega⟩, fun c hc _ hcg => by have := (HR.out.row_ne hc hcg).2.2; omega⟩)
  rw [hS1] at hD
  exact bodyPost_end (v := .tuple #[]) (results_none (by kernel_rfl) _ _ _) rfl ⟨rfl, hT1.mono (fun i _ e => by cases e; exact hF.2), hD.disk⟩
set_option maxRecDepth 100000 in
set_option maxHeartbeats 800000 in
theorem do_rename (F : Nat → Prop) (sb mb : Nat) (S : Dk) (cs : List Ent) (w : World) (nm : Nm) (hl : nm.length ≤ 32) (p q : Nat) (hp : w.cell? ⟨p, 0, none⟩ = some (.pointer (some ⟨sb, 0, none⟩))) (hq : w.cell? ⟨q, 0, none⟩ = some (.string (strOf nm))) (np : ¬ F p) (nq : ¬ F q) (hcs : cs.length < 1000) (fb n c : Nat) (ao : Option Addr) (f : Fl) (hf0 : w.cell? ⟨fb, 0, none⟩ = some (.slice ao n c)) (hf1 : w.cell? ⟨fb, 1, none⟩ = some (.int .i64 (f.safe : Int))) (nf : ¬ F fb) (hg : fget nm cs = some (.agg #[.slice ao n c, .int .i64 (f.safe : Int)], f))
    (nb : Nat) (nw : Nm) (hnl : nw.length ≤ 32) (hnb : w.cell? ⟨nb, 0, none⟩ = some (.string (strOf nw))) (nn : ¬ F nb) :
    Does 56 #[.pointer (some ⟨p, 0, none⟩), .pointer (some ⟨q, 0, none⟩), .pointer (some ⟨fb, 0, none⟩), .pointer (some ⟨nb, 0, none⟩)] F sb mb S cs (fput nw f (fdel nm S.files)) w := by
  intro W S1 hS1 hT hr
  have hF : F sb ∧ F mb := ⟨hr.fsb, hr.fmb⟩
  have np' : p ≠ mb := fun e => np (e ▸ hF.2)
  have nq' : q ≠ mb := fun e => nq (e ▸ hF.2)
  have ns' : sb ≠ mb := fun e => hr.mb_ne e.symm
  have hp' := hT.cell (p := ⟨p, 0, none⟩) np hp
  have hq' := hT.cell (p := ⟨q, 0, none⟩) nq hq
  have hc1 := hr.row.cells68.c1
  have HR : Hid (Dr W F sb mb S1 cs) := hr
  have hml : nm.length ≤ maxLen := by unfold maxLen; omega
  have HML : Hid (nm.length ≤ maxLen) := hml
  have hcn : cs.length < maxLen := by unfold maxLen; omega
  have nf' : fb ≠ mb := fun e => nf (e ▸ hF.2)
  have hf0' := hT.cell (p := ⟨fb, 0, none⟩) nf hf0
  have hf1' := hT.cell (p := ⟨fb, 1, none⟩) nf hf1
  have hmem := fget_mem hg
  have hfile := hr.rows.file _ hmem
  obtain ⟨sl0, hsl0, hown0⟩ := hfile
  simp only [Value.agg.injEq] at hsl0
  obtain rfl : sl0 = .slice ao n c := by
    have := congrArg (fun x : Array Value => x[0]?) hsl0
    simpa using this.symm
  have HO0 : Hid (Own W 0 (.slice ao n c) f.data) := hown0
  have HM : Hid ((nm, (Value.agg #[.slice ao n c, .int .i64 (f.safe : Int)], f)) ∈ cs) := hmem
  have hnl : f.data.length = n := by
    obtain ⟨ao1, c1, e, _⟩ := Own.at hown0
    simp at e; omega
  have HNL : Hid (f.data.length = n) := hnl
  clear hf0 hf1 hsl0 hown0 hmem hg hnl
  have nnb' : nb ≠ mb := fun e => nn (e ▸ hF.2)
  have hnb' := hT.cell (p := ⟨nb, 0, none⟩) nn hnb
  have hwl : nw.length ≤ maxLen := by unfold maxLen; omega
  have HWL : Hid (nw.length ≤ maxLen) := hwl
  clear hnb hwl
  clear hr hT hml hp hq
  go_enter Try.func56, Try.ntmps56
  go_wp2
  refine wp_region_noPanic ?_
  refine wp_region_held_drew (S := Turn (fun i => i = mb) W) (by kernel_rfl) (Turn.drew (Turn.refl _ W)) ?_
  intro hS0
  refine tk 0 4 (.pointer (some ⟨sb, 0, none⟩)) (fuel := 5) rfl (by kernel_rfl) (by kernel_rfl) (by kernel_rfl) (by kernel_rfl) noPanic_false (by kernel_rfl) (fun W hW => x_ld23 (x := .tmp 0) (g := p) (p := 0) (by kernel_rfl) (by kernel_rfl) (hW.cell (p := ⟨p, 0, none⟩) np' hp')) hS0 ?_
  refine tk 1 5 (.pointer (some ⟨sb, 0, none⟩)) (fuel := 4) rfl (by kernel_rfl) (by kernel_rfl) (by kernel_rfl) (by kernel_rfl) noPanic_false (by kernel_rfl) (fun _ _ => by kernel_rfl) hS0 ?_
  refine tk 2 6 (.pointer (some ⟨sb, 1, none⟩)) (fuel := 3) rfl (by kernel_rfl) (by kernel_rfl) (by kernel_rfl) (by kernel_rfl) noPanic_false (by kernel_rfl) (fun _ _ => by kernel_rfl) hS0 ?_
  refine tk 3 7 (.map (some mb)) (fuel := 2) rfl (by kernel_rfl) (by kernel_rfl) (by kernel_rfl) (by kernel_rfl) noPanic_false (by kernel_rfl) (fun W hW => x_ld64 (x := .tmp 6) (g := sb) (p := 1) (by kernel_rfl) (by kernel_rfl) (hW.cell (p := ⟨sb, 1, none⟩) ns' hc1)) hS0 ?_
  refine tk 4 8 (.string (strOf nm)) (fuel := 1) rfl (by kernel_rfl) (by kernel_rfl) (by kernel_rfl) (by kernel_rfl) noPanic_false (by kernel_rfl) (fun W hW => x_ld9 (x := .tmp 1) (g := q) (p := 0) (by kernel_rfl) (by kernel_rfl) (hW.cell (p := ⟨q, 0, none⟩) nq' hq')) hS0 ?_
  refine tkDel 5 (.tmp 7) (.tmp 8) mb (cs.length) (vals cs) (nm) (fuel := 0) rfl (by kernel_rfl) (by kernel_rfl) (by kernel_rfl) (by kernel_rfl) (by kernel_rfl) (by kernel_rfl) (ownsMap_same HR.out.own (show W.drew.heap[mb]? = W.heap[mb]? from rfl)) (HML.out) ?_
  intro w1 h1 h2
  have hT1 : Turn (fun i => i = mb) W w1 := hS0.grow h2 (fun g e => Or.inl (by cases e; rfl))
  refine ⟨hT1, ?_⟩
  refine wpAnyH_done (by kernel_rfl) (NoPanic.normal ?_) _
  go_simp
  go_wp2
  have hD1 := HR.out.del (hT1.same HR.out.row.lt ns') h1 (fun c hc g hg => hT1.same (HR.out.row_ne hc hg).2.2 (HR.out.row_ne hc hg).1)
  have HD1 := show Hid (Dr _ _ _ _ _ _) from hD1
  have hp1 := hT1.cell (p := ⟨p, 0, none⟩) np' hp'
  have hnb1 := hT1.cell (p := ⟨nb, 0, none⟩) nnb' hnb'
  have hf01 := hT1.cell (p := ⟨fb, 0, none⟩) nf' hf0'
  have hf11 := hT1.cell (p := ⟨fb, 1, none⟩) nf' hf1'
  have hc11 := hT1.cell (p := ⟨sb, 1, none⟩) ns' hc1
  have hcn1 : (fdel nm cs).length < maxLen := Nat.lt_of_le_of_lt (fdel_len nm cs) hcn
  clear hD1
  refine wp_region_noPanic ?_
  refine wp_region_held_drew (S := Turn (fun i => i = mb) w1) (by kernel_rfl) (Turn.drew (Turn.refl _ w1)) ?_
  intro hS1x
  refine tk 0 9 (.pointer (some ⟨sb, 0, none⟩)) (fuel := 6) rfl (by kernel_rfl) (by kernel_rfl) (by kernel_rfl) (by kernel_rfl) noPanic_false (by kernel_rfl) (fun W hW => x_ld23 (x := .tmp 0) (g := p) (p := 0) (by kernel_rfl) (by kernel_rfl) (hW.cell (p := ⟨p, 0, none⟩) np' hp1)) hS1x ?_
  refine tk 1 10 (.pointer (some ⟨sb, 0, none⟩)) (fuel := 5) rfl (by kernel_rfl) (by kernel_rfl) (by kernel_rfl) (by kernel_rfl) noPanic_false (by kernel_rfl) (fun _ _ => by kernel_rfl) hS1x ?_
  refine tk 2 11 (.pointer (some ⟨sb, 1, none⟩)) (fuel := 4) rfl (by kernel_rfl) (by kernel_rfl) (by kernel_rfl) (by kernel_rfl) noPanic_false (by kernel_rfl) (fun _ _ => by kernel_rfl) hS1x ?_
  refine tk 3 12 (.map (some mb)) (fuel := 3) rfl (by kernel_rfl) (by kernel_rfl) (by kernel_rfl) (by kernel_rfl) noPanic_false (by kernel_rfl) (fun W hW => x_ld64 (x := .tmp 11) (g := sb) (p := 1) (by kernel_rfl) (by kernel_rfl) (hW.cell (p := ⟨sb, 1, none⟩) ns' hc11)) hS1x ?_
  refine tk 4 13 (.string (strOf nw)) (fuel := 2) rfl (by kernel_rfl) (by kernel_rfl) (by kernel_rfl) (by kernel_rfl) noPanic_false (by kernel_rfl) (fun W hW => x_ld9 (x := .tmp 3) (g := nb) (p := 0) (by kernel_rfl) (by kernel_rfl) (hW.cell (p := ⟨nb, 0, none⟩) nnb' hnb1)) hS1x ?_
  refine tk 5 14 (.agg #[.slice ao n c, .int .i64 (f.safe : Int)]) (fuel := 1) rfl (by kernel_rfl) (by kernel_rfl) (by kernel_rfl) (by kernel_rfl) noPanic_false (by kernel_rfl) (fun W hW => x_ld77 (x := .tmp 2) (g := fb) (p := 0) (by kernel_rfl) (by kernel_rfl) (hW.cell (p := ⟨fb, 0, none⟩) nf' hf01) (hW.cell (p := ⟨fb, 1, none⟩) nf' hf11)) hS1x ?_
  refine tkPut 6 (.tmp 12) (.tmp 13) (.tmp 14) mb ((fdel nm cs).length) (vals (fdel nm cs)) (nw) (.agg #[.slice ao n c, .int .i64 (f.safe : Int)]) (fuel := 0) rfl (by kernel_rfl) (by kernel_rfl) (by kernel_rfl) (by kernel_rfl) (by kernel_rfl) (by kernel_rfl) (by kernel_rfl) (ownsMap_same HD1.out.own (show w1.drew.heap[mb]? = w1.heap[mb]? from rfl)) (hcn1) (HWL.out) ?_
  intro w2 g1 g2
  have hT2 : Turn (fun i => i = mb) w1 w2 := hS1x.grow g2 (fun g e => Or.inl (by cases e; rfl))
  refine ⟨hT2, ?_⟩
  refine wpAnyH_done (by kernel_rfl) (NoPanic.normal ?_) _
  go_simp
  go_wp2
  have hT3 := hT1.trans hT2
  have hD := HD1.out.put (F' := more F W w2) (f := f) (fun i hi => Or.inl hi) (hT2.same HD1.out.row.lt ns') g1 (fun c hc _ g hg => hT2.same (HD1.out.row_ne hc hg).2.2 (HD1.out.row_ne hc hg).1)
    ⟨.slice ao n c, rfl, HO0.out.same (fun g hg => by obtain ⟨_, _, r3, _, r5⟩ := row_of HR.out HM.out hg; exact hT3.same r5 r3)⟩ (fun g hg => by
      rw [rowB_file] at hg
      obtain ⟨r1, r2, _⟩ := row_of HR.out HM.out hg
      exact ⟨Or.inl r1, fun c hc _ => r2 c ((fdel_mem nm cs c).1 hc).1 ((fdel_mem nm cs c).1 hc).2⟩)
  simp only [hS1] at hD
  exact bodyPost_end (v := .tuple #[]) (results_none (by kernel_rfl) _ _ _) rfl ⟨rfl, hT3.mono (fun i _ e => by cases e; exact hF.2), hD.disk⟩
end Go.Proofs.Ytlbodickflljfaa
