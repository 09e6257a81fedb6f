/-
  THE WALKS OF stemmaref08.Put AND stemmaref08.Copy.
-/
import Derived.Test.YtgmdolpjkaajfaaGreatDoorCS
namespace Go.Proofs.YtgmdolpjkaajfaaGreatDoor
open Go.RowKit Leb
set_option maxRecDepth 100000 in
set_option maxHeartbeats 2400000 in
theorem rputC_any (x : Chg) (d p : Sl) (w : World) (hx : ChAt w x d p) {q : Nat} {B : List UInt8} (hq : chgE x = q) (hB : chgB x = B) :
    Calls Tryz.prog 18 #[cV x d p] w (LdPost w q B) := by
  have HF : Hid (ChAt w x d p) := hx
  obtain ⟨k, hk⟩ : ∃ k, B.length = k := ⟨_, rfl⟩
  have HQ : Hid (chgE x = q ∧ chgB x = B ∧ B.length = k) := ⟨hq, hB, hk⟩
  obtain ⟨w0, hw0⟩ : ∃ w0, w.alloc (.cells (cc x d p).toArray 25) = w0 := ⟨_, rfl⟩
  have H0 : Hid (After w w0 ∧ RowIs w0 w.heap.size 25 (cc x d p)) := by
    rw [← hw0]; exact ⟨after_alloc (After.refl w) _, RowIs.new w 25 (cc x d p)⟩
  clear hx hq hB hk
  go_enter Tryz.func18, Tryz.ntmps18
  go_wp2_with (first
    | (go_at_call 24; refine Calls.mono (laid_any x d p w0 (HF.out.after H0.out.1) HQ.out.1 HQ.out.2.1) ?_; rintro e w1 ⟨v1, rfl, ho, ha⟩; have HO := show Hid (Own w1 w0.heap.size v1 B) from ho; obtain ⟨a1, c1, he1, _, _, _⟩ := own_sl ho HQ.out.2.2; subst he1; have H1 := show Hid (After w w1) from After.trans H0.out.1 ha; clear ho ha)
    | (refine wpList_load_row rfl 25 (.tmp 1) rfl w.heap.size rfl 25 _ (0, 0) _ H0.out.2 Tryz.underlying25 rfl (by kernel_rfl) ?_))
  go_ret2
  exact ⟨_, rfl, Own.mono HO.out H0.out.1.size, H1.out⟩

theorem bytes_blk {w w' : World} {ao : Option Addr} {bs : List UInt8} (h : BytesAt w ao bs) (hb : ∀ a, ao = some a → w'.heap[a.block]? = w.heap[a.block]?) : BytesAt w' ao bs := fun hn => by
  obtain ⟨b, o, e, hc⟩ := h hn
  exact ⟨b, o, e, fun j hj => by rw [World.cell?_of_block (w := w) (a := ⟨b, o + j, none⟩) (show _ from hb ⟨b, o, none⟩ e)]; exact hc j hj⟩
theorem ops_blk {w w' : World} {ao : Option Addr} {l : List Opn} (h : OpsAt w ao l) (hb : ∀ a, ao = some a → w'.heap[a.block]? = w.heap[a.block]?) : OpsAt w' ao l := fun hn => by
  obtain ⟨b, o, e, hc⟩ := h hn
  exact ⟨b, o, e, fun j x hj i v hv => by rw [World.cell?_of_block (w := w) (a := ⟨b, o + j * 5 + i, none⟩) (show _ from hb ⟨b, o, none⟩ e)]; exact hc j x hj i v hv⟩
theorem ownH_fresh (w : World) : HS.OwnH (w.alloc (.cells #[] 38)) w.heap.size (.slice (some ⟨w.heap.size, 0, none⟩) 0 0) [] := World.ownsRow_made w #[] 0 (Nat.le_refl _) (by decide) rfl
theorem ret25 {fn : Func} {p : Tmp} (h : fn.results = #[.cell p 25]) (tmps : Array Value) (w : World) (g : Nat) (cs : List Value) (hs : cs.length = 6) (hp : tmps.getD p undef = .pointer (some ⟨g, 0, none⟩)) (hg : RowIs w g 25 cs) : (results fn tmps).run Tryz.prog w = .ok (.agg cs.toArray) w :=
  results_cell_row h tmps w g 25 _ (0, 0) _ hp hg Tryz.underlying25 rfl (by rw [show (Tryz.prog.info? 25).map (·.size) = some 6 by kernel_rfl]; simp [hs])
set_option maxRecDepth 100000 in
set_option maxHeartbeats 2400000 in
theorem copy_any (x : Chg) (d p : Sl) (w : World) (hx : ChAt w x d p) (hdb : d.n * 32 ≤ 140737488355328) (hpb : p.n * 56 ≤ 140737488355328) :
    Calls Tryz.prog 16 #[cV x d p] w fun e w' => ∃ d' p', e = .returned (cV x d' p') ∧ ChAt w' x d' p' ∧ After w w' := by
  obtain ⟨au, sq, st, ds, nt, os⟩ := x
  obtain ⟨da, dn, dc⟩ := d
  obtain ⟨pa, pn, pc⟩ := p
  have HF : Hid (ChAt w ⟨au, sq, st, ds, nt, os⟩ ⟨da, dn, dc⟩ ⟨pa, pn, pc⟩ ∧ dn * 32 ≤ 140737488355328 ∧ pn * 56 ≤ 140737488355328) := ⟨hx, hdb, hpb⟩
  obtain ⟨w0, hw0⟩ : ∃ w0, (w.alloc (.cells (cc ⟨au, sq, st, ds, nt, os⟩ ⟨da, dn, dc⟩ ⟨pa, pn, pc⟩).toArray 25)).alloc (.cells #[.string ⟨#[]⟩, .int .i64 0, .int .i64 0, .slice none 0 0, .string ⟨#[]⟩, .slice none 0 0] 25) = w0 := ⟨_, rfl⟩
  have H0 : Hid (After w w0 ∧ RowIs w0 w.heap.size 25 (cc ⟨au, sq, st, ds, nt, os⟩ ⟨da, dn, dc⟩ ⟨pa, pn, pc⟩) ∧ RowIs w0 (w.heap.size + 1) 25 [.string ⟨#[]⟩, .int .i64 0, .int .i64 0, .slice none 0 0, .string ⟨#[]⟩, .slice none 0 0]) := by
    refine ⟨by rw [← hw0]; exact after_alloc (after_alloc (After.refl w) _) _, by rw [← hw0]; exact (RowIs.new w 25 (cc ⟨au, sq, st, ds, nt, os⟩ ⟨da, dn, dc⟩ ⟨pa, pn, pc⟩)).alloc _, ?_⟩
    have h := RowIs.new (w.alloc (.cells (cc ⟨au, sq, st, ds, nt, os⟩ ⟨da, dn, dc⟩ ⟨pa, pn, pc⟩).toArray 25)) 25 [.string ⟨#[]⟩, .int .i64 0, .int .i64 0, .slice none 0 0, .string ⟨#[]⟩, .slice none 0 0]
    rw [← hw0]
    simpa using h
  have e3 : (w0.alloc (.cells #[] 38)).cell? ⟨w.heap.size, 3, none⟩ = some (.slice da dn dc) := (H0.out.2.1.alloc _).cell (j := 3) rfl
  clear hx hdb hpb
  go_enter Tryz.func16, Tryz.ntmps16
  go_wp2_with (first
    | (at_builtin; have _u := H2.out; clear _u; refine wpList_append_ops rfl _ _ rfl w2.heap.size (.slice (some ⟨w2.heap.size, 0, none⟩) 0 0) [] rfl (OwnO.fresh w2) pa pc os pn HF.out.1.pn rfl (HF.out.1.ops.after (after_alloc H2.out.1 _)) (by simp only [List.length_nil]; have := HF.out.2.2; omega) (by simp) ?_; intro v3 w3 ho hg hbb; have ha := after_grown (after_alloc (After.refl w2) _) hg (Nat.le_refl _) (fun k hk => by cases hk; exact Nat.le_refl _); obtain ⟨a3, c3, he3, hat3, _, hbk3⟩ := ho.at; have HB3 := show Hid (∀ a, a3 = some a → w.heap.size + 1 < a.block) from fun a ha => Nat.lt_of_lt_of_le H2.out.2.2.1.lt (hbk3 a ha).1; clear hbk3; rw [List.nil_append, HF.out.1.pn] at he3; rw [List.nil_append] at hat3; subst he3; have H3 := show Hid (After w w3 ∧ RowIs w3 w.heap.size 25 (cc ⟨au, sq, st, ds, nt, os⟩ ⟨a1, dn, c1⟩ ⟨pa, pn, pc⟩) ∧ RowIs w3 (w.heap.size + 1) 25 [.string ⟨#[]⟩, .int .i64 0, .int .i64 0, .slice none 0 0, .string ⟨#[]⟩, .slice none 0 0] ∧ HS.HsAt w3 a1 ds ∧ OpsAt w3 a3 os) from ⟨After.trans H2.out.1 ha, H2.out.2.1.below ha H2.out.2.1.lt, H2.out.2.2.1.below ha H2.out.2.2.1.lt, H2.out.2.2.2.after ha, hat3⟩; have k5 := H3.out.2.1.cell (j := 5) rfl; have f5 := H3.out.2.1.frozen 5; obtain ⟨w4, hw4⟩ : ∃ w4, w3.setCell ⟨w.heap.size, 5, none⟩ (.slice a3 pn c3) = w4 := ⟨_, rfl⟩; have H4 := show Hid (After w w4 ∧ RowIs w4 w.heap.size 25 (cc ⟨au, sq, st, ds, nt, os⟩ ⟨a1, dn, c1⟩ ⟨a3, pn, c3⟩) ∧ RowIs w4 (w.heap.size + 1) 25 [.string ⟨#[]⟩, .int .i64 0, .int .i64 0, .slice none 0 0, .string ⟨#[]⟩, .slice none 0 0] ∧ HS.HsAt w4 a1 ds ∧ OpsAt w4 a3 os) from ⟨by rw [← hw4]; exact Below.setCell H3.out.1 (p := ⟨w.heap.size, 5, none⟩) (Nat.le_refl _) _, by rw [← hw4]; exact H3.out.2.1.set 5 _, by rw [← hw4]; exact H3.out.2.2.1.other _ _ (by simp), by rw [← hw4]; exact bytes_blk H3.out.2.2.2.1 (fun a ha => heap_setCell_other _ _ _ _ (by have := HB1.out a ha; show a.block ≠ w.heap.size; omega)), by rw [← hw4]; exact ops_blk H3.out.2.2.2.2 (fun a ha => heap_setCell_other _ _ _ _ (by have := HB3.out a ha; show a.block ≠ w.heap.size; omega))⟩; clear ho hg hbb ha hat3)
    | (at_builtin; refine HS.wpList_append_hashes rfl _ _ rfl w0.heap.size (.slice (some ⟨w0.heap.size, 0, none⟩) 0 0) [] rfl (ownH_fresh w0) da dc ds HF.out.1.d32 dn HF.out.1.dn rfl (HF.out.1.deps.after (after_alloc H0.out.1 _)) (by simp only [List.length_nil]; have := HF.out.2.1; have h := HF.out.1.dn; simp only at h; omega) (by simp) ?_; intro v1 w1 ho hg; have ha := after_grown (after_alloc (After.refl w0) _) hg (Nat.le_refl _) (fun k hk => by cases hk; exact Nat.le_refl _); obtain ⟨a1, c1, he1, hat1, _, hbk1, _⟩ := ho.at; have HB1 := show Hid (∀ a, a1 = some a → w.heap.size + 1 < a.block) from fun a ha => Nat.lt_of_lt_of_le H0.out.2.2.lt (hbk1 a ha).1; clear hbk1; rw [List.nil_append, HF.out.1.dn] at he1; rw [List.nil_append] at hat1; subst he1; have H1 := show Hid (After w w1 ∧ RowIs w1 w.heap.size 25 (cc ⟨au, sq, st, ds, nt, os⟩ ⟨da, dn, dc⟩ ⟨pa, pn, pc⟩) ∧ RowIs w1 (w.heap.size + 1) 25 [.string ⟨#[]⟩, .int .i64 0, .int .i64 0, .slice none 0 0, .string ⟨#[]⟩, .slice none 0 0] ∧ HS.HsAt w1 a1 ds) from ⟨After.trans H0.out.1 ha, H0.out.2.1.below ha H0.out.2.1.lt, H0.out.2.2.below ha H0.out.2.2.lt, hat1⟩; have k3 := H1.out.2.1.cell (j := 3) rfl; have f3 := H1.out.2.1.frozen 3; obtain ⟨w2, hw2⟩ : ∃ w2, w1.setCell ⟨w.heap.size, 3, none⟩ (.slice a1 dn c1) = w2 := ⟨_, rfl⟩; have H2 := show Hid (After w w2 ∧ RowIs w2 w.heap.size 25 (cc ⟨au, sq, st, ds, nt, os⟩ ⟨a1, dn, c1⟩ ⟨pa, pn, pc⟩) ∧ RowIs w2 (w.heap.size + 1) 25 [.string ⟨#[]⟩, .int .i64 0, .int .i64 0, .slice none 0 0, .string ⟨#[]⟩, .slice none 0 0] ∧ HS.HsAt w2 a1 ds) from ⟨by rw [← hw2]; exact Below.setCell H1.out.1 (p := ⟨w.heap.size, 3, none⟩) (Nat.le_refl _) _, by rw [← hw2]; exact H1.out.2.1.set 3 _, by rw [← hw2]; exact H1.out.2.2.1.other _ _ (by simp), by rw [← hw2]; exact bytes_blk H1.out.2.2.2 (fun a ha => heap_setCell_other _ _ _ _ (by have := HB1.out a ha; show a.block ≠ w.heap.size; omega))⟩; have e5 : (w2.alloc (.cells #[] 46)).cell? ⟨w.heap.size, 5, none⟩ = some (.slice pa pn pc) := (H2.out.2.1.alloc _).cell (j := 5) rfl; clear ho hg ha hat1)
    | (refine wpListG_of_run rfl (x_row25 (x := .tmp 1) (g := w.heap.size) (cs := cc ⟨au, sq, st, ds, nt, os⟩ ⟨a1, dn, c1⟩ ⟨a3, pn, c3⟩) rfl rfl H4.out.2.1 rfl) ?_)
    | (refine wpList_store_row rfl 25 (.tmp 2) (.tmp 13) rfl (w.heap.size + 1) (cc ⟨au, sq, st, ds, nt, os⟩ ⟨a1, dn, c1⟩ ⟨a3, pn, c3⟩).toArray rfl rfl 25 _ H4.out.2.2.1 (by kernel_rfl) rfl (by kernel_rfl) ?_))
  refine bodyPost_ret (ret25 Tryz.results16 _ _ (w.heap.size + 1) (cc ⟨au, sq, st, ds, nt, os⟩ ⟨a1, dn, c1⟩ ⟨a3, pn, c3⟩) rfl rfl (H4.out.2.2.1.setRow (cc ⟨au, sq, st, ds, nt, os⟩ ⟨a1, dn, c1⟩ ⟨a3, pn, c3⟩))) rfl ?_
  have hc := HF.out.1
  exact ⟨⟨a1, dn, c1⟩, ⟨a3, pn, c3⟩, rfl, ⟨bytes_blk H4.out.2.2.2.1 (fun a ha => setRow_other _ _ _ _ (by have := HB1.out a ha; omega)), ops_blk H4.out.2.2.2.2 (fun a ha => setRow_other _ _ _ _ (by have := HB3.out a ha; omega)), hc.dn, hc.pn, hc.d32, hc.ok, hc.s0, hc.s1, hc.t0, hc.t1, hc.al, hc.nl, hc.db, hc.pb⟩, Below.row H4.out.1 (by omega) _⟩
end Go.Proofs.YtgmdolpjkaajfaaGreatDoor
