/-
  THE WALKS OF (*Disk).Rename AND Fail.
-/
import Derived.Test.YtlbodickflljfaaAppend
namespace Go.Proofs.Ytlbodickflljfaa
open Go.RowKit Go.Maps Dsk
theorem refusal_two (sb : Nat) (S : Dk) (W : World) (nm nw : Nm) (hl : nm.length ≤ maxLen) (hw : nw.length ≤ maxLen) (hd : W.cell? ⟨sb, 3, none⟩ = some (.bool S.down)) :
    Calls Try.prog 50 #[.pointer (some ⟨sb, 0, none⟩), .slice (some ⟨W.heap.size, 0, none⟩) 2 2] (W.alloc (.cells #[.string (strOf nm), .string (strOf nw)] 9)) fun e w' => e = .returned (.int .i64 (refuse S [nm, nw] : Int)) ∧ w' = W.alloc (.cells #[.string (strOf nm), .string (strOf nw)] 9) :=
  refusal_any sb S (some ⟨W.heap.size, 0, none⟩) 2 [nm, nw] (by simp) (by simp [hl, hw]) _ (StrsAt.two W nm nw 9) (Lib.cell?_alloc_some _ hd)
theorem refusal_none (sb : Nat) (S : Dk) (W : World) (hd : W.cell? ⟨sb, 3, none⟩ = some (.bool S.down)) :
    Calls Try.prog 50 #[.pointer (some ⟨sb, 0, none⟩), .slice none 0 0] W fun e w' => e = .returned (.int .i64 (refuse S [] : Int)) ∧ w' = W :=
  refusal_any sb S none 0 [] (by simp) (by simp) _ (StrsAt.nil W) hd

set_option maxRecDepth 100000 in
set_option maxHeartbeats 1600000 in
theorem rename_nil (nm nw : Nm) (w : World) : Calls Try.prog 32 #[.pointer none, .string (strOf nm), .string (strOf nw)] w fun e w' => e = .returned (.int .i64 1) ∧ After w w' := by
  go_enter Try.func32, Try.ntmps32
  go_wp2_with (go_at_call 50; refine (refusal_nil _ _).mono ?_; rintro e w1 ⟨rfl, rfl⟩)
  go_ret
  exact ⟨rfl, after_alloc (after_alloc (after_alloc (after_alloc (After.refl w) _) _) _) _⟩
set_option maxRecDepth 100000 in
set_option maxHeartbeats 1600000 in
theorem rename_refused (F : Nat → Prop) (sb : Nat) (S : Dk) (nm nw : Nm) (hl : nm.length ≤ maxLen) (hlw : nw.length ≤ maxLen) (w : World) (hd : DiskAt w F sb S) (hF : ∀ i, F i → i < w.heap.size) (r : Nat) (hr : refuse S [nm, nw] = r) (h0 : ¬ r = 0) :
    Calls Try.prog 32 #[.pointer (some ⟨sb, 0, none⟩), .string (strOf nm), .string (strOf nw)] w (SPost F w sb r S) := by
  obtain ⟨mb, cs, hdr⟩ := hd.dr
  have HR : Hid (Dr w F sb mb S cs) := hdr
  have HD : Hid (DiskAt w F sb S) := hd
  have HF : Hid (∀ i, F i → i < w.heap.size) := hF
  have hA0 : After w (((w.alloc (.cells #[.pointer (some ⟨sb, 0, none⟩)] 23)).alloc (.cells #[.string (strOf nm)] 9)).alloc (.cells #[.string (strOf nw)] 9)) := after_alloc (after_alloc (after_alloc (After.refl w) _) _) _
  have CR := show Hid _ from refusal_two sb S _ nm nw hl hlw ((hdr.after hA0).row.cells68.c3)
  rw [show (((w.alloc (.cells #[.pointer (some ⟨sb, 0, none⟩)] 23)).alloc (.cells #[.string (strOf nm)] 9)).alloc (.cells #[.string (strOf nw)] 9)).heap.size = w.heap.size + 1 + 1 + 1 by simp] at CR
  have HA0 : Hid (After w ((((w.alloc (.cells #[.pointer (some ⟨sb, 0, none⟩)] 23)).alloc (.cells #[.string (strOf nm)] 9)).alloc (.cells #[.string (strOf nw)] 9)).alloc (.cells #[.string (strOf nm), .string (strOf nw)] 9))) := after_alloc hA0 _
  rw [hr] at CR
  have h0' : ((r : Int) != 0) = true := by simp; omega
  clear hdr hd hF hA0 hl hr
  go_enter Try.func32, Try.ntmps32
  go_wp2_with (go_at_call 50; refine Calls.mono CR.out ?_; rintro e w' ⟨rfl, rfl⟩)
  go_ret
  exact SPost.same HD.out HF.out HA0.out
set_option maxRecDepth 100000 in
set_option maxHeartbeats 1600000 in
theorem rename_bad (F : Nat → Prop) (sb : Nat) (S : Dk) (nm nw : Nm) (hl : nm.length ≤ maxLen) (hlw : nw.length ≤ maxLen) (w : World) (hd : DiskAt w F sb S) (hF : ∀ i, F i → i < w.heap.size) (hr0 : refuse S [nm, nw] = 0) (r : Nat) (hr : findE S nm = r) (h0 : ¬ r = 0) :
    Calls Try.prog 32 #[.pointer (some ⟨sb, 0, none⟩), .string (strOf nm), .string (strOf nw)] w (SPost F w sb r S) := by
  obtain ⟨mb, cs, hdr⟩ := hd.dr
  have HR : Hid (Dr w F sb mb S cs) := hdr
  have HD : Hid (DiskAt w F sb S) := hd
  have HF : Hid (∀ i, F i → i < w.heap.size) := hF
  have hA0 : After w (((w.alloc (.cells #[.pointer (some ⟨sb, 0, none⟩)] 23)).alloc (.cells #[.string (strOf nm)] 9)).alloc (.cells #[.string (strOf nw)] 9)) := after_alloc (after_alloc (after_alloc (After.refl w) _) _) _
  have CR := show Hid _ from refusal_two sb S _ nm nw hl hlw ((hdr.after hA0).row.cells68.c3)
  rw [show (((w.alloc (.cells #[.pointer (some ⟨sb, 0, none⟩)] 23)).alloc (.cells #[.string (strOf nm)] 9)).alloc (.cells #[.string (strOf nw)] 9)).heap.size = w.heap.size + 1 + 1 + 1 by simp] at CR
  have HA0 : Hid (After w ((((w.alloc (.cells #[.pointer (some ⟨sb, 0, none⟩)] 23)).alloc (.cells #[.string (strOf nm)] 9)).alloc (.cells #[.string (strOf nw)] 9)).alloc (.cells #[.string (strOf nm), .string (strOf nw)] 9))) := after_alloc hA0 _
  rw [hr0] at CR
  have C := show Hid _ from find_bad sb mb S cs nm hl _ (hdr.after HA0.out).toDs r hr h0
  unfold zF at C
  have h0' : ((r : Int) != 0) = true := by simp; omega
  clear hdr hd hF hA0 hl hr
  go_enter Try.func32, Try.ntmps32
  go_wp2_with (first
    | (go_at_call 50; refine Calls.mono CR.out ?_; rintro e w' ⟨rfl, rfl⟩)
    | (go_at_call 42; refine Calls.mono C.out ?_; rintro e w1 ⟨rfl, hb⟩; have HB := show Hid (After _ w1) from hb; clear hb))
  go_ret
  exact SPost.same HD.out HF.out (after_alloc (After.trans HA0.out HB.out) _)
set_option maxRecDepth 100000 in
set_option maxHeartbeats 1600000 in
theorem rename_go (F : Nat → Prop) (sb : Nat) (S : Dk) (hS : Ok S) (hst : S.steps < 4611686018427387904) (nm nw : Nm) (hl : nm.length ≤ maxLen) (hlw : nw.length ≤ maxLen) (w : World) (hd : DiskAt w F sb S) (hF : ∀ i, F i → i < w.heap.size) (hr0 : refuse S [nm, nw] = 0) (hr : findE S nm = 0) (f : Fl) (hgf0 : fget nm S.files = some f) :
    Calls Try.prog 32 #[.pointer (some ⟨sb, 0, none⟩), .string (strOf nm), .string (strOf nw)] w (SPost F w sb (stepE S) (stepS S S.done (fput nw f (fdel nm S.files)))) := by
  obtain ⟨mb, cs, hdr⟩ := hd.dr
  have HR : Hid (Dr w F sb mb S cs) := hdr
  have HD : Hid (DiskAt w F sb S) := hd
  have HF : Hid (∀ i, F i → i < w.heap.size) := hF
  have hA0 : After w (((w.alloc (.cells #[.pointer (some ⟨sb, 0, none⟩)] 23)).alloc (.cells #[.string (strOf nm)] 9)).alloc (.cells #[.string (strOf nw)] 9)) := after_alloc (after_alloc (after_alloc (After.refl w) _) _) _
  have CR := show Hid _ from refusal_two sb S _ nm nw hl hlw ((hdr.after hA0).row.cells68.c3)
  rw [show (((w.alloc (.cells #[.pointer (some ⟨sb, 0, none⟩)] 23)).alloc (.cells #[.string (strOf nm)] 9)).alloc (.cells #[.string (strOf nw)] 9)).heap.size = w.heap.size + 1 + 1 + 1 by simp] at CR
  have HA0 : Hid (After w ((((w.alloc (.cells #[.pointer (some ⟨sb, 0, none⟩)] 23)).alloc (.cells #[.string (strOf nm)] 9)).alloc (.cells #[.string (strOf nw)] 9)).alloc (.cells #[.string (strOf nm), .string (strOf nw)] 9))) := after_alloc hA0 _
  rw [hr0] at CR
  obtain ⟨h1r, h2r⟩ := findE_ok hr
  obtain ⟨ao, c, f0, hgc, hgf, hown, hat, hle⟩ := hdr.get h2r
  obtain rfl : f0 = f := by have := hgf.symm.trans hgf0; simpa using this
  have hl32 := (refuse_len h1r (List.mem_singleton.2 rfl)).2
  have hw32 := (refuse_len hr0 (nm := nw) (by simp)).2
  obtain ⟨n, hn⟩ : ∃ n, f0.data.length = n := ⟨_, rfl⟩
  have hcl : cs.length ≤ 64 := by have := hS.count; rw [← hdr.files] at this; simpa [fls] using this
  rw [hn] at hgc
  have HGC := show Hid _ from hgc
  have C := show Hid _ from find_ok sb mb S cs nm hl _ (hdr.after HA0.out).toDs h1r ao n c _ (vals_get hgc)
  have b0 : ((((w.alloc (.cells #[.pointer (some ⟨sb, 0, none⟩)] 23)).alloc (.cells #[.string (strOf nm)] 9)).alloc (.cells #[.string (strOf nw)] 9)).alloc (.cells #[.string (strOf nm), .string (strOf nw)] 9)).cell? ⟨w.heap.size, 0, none⟩ = some (.pointer (some ⟨sb, 0, none⟩)) := by
    have := Lib.cell?_alloc_some (.cells #[.string (strOf nm), .string (strOf nw)] 9) (Lib.cell?_alloc_some (.cells #[.string (strOf nw)] 9) (Lib.cell?_alloc_some (.cells #[.string (strOf nm)] 9) (cell_new1 w (.pointer (some ⟨sb, 0, none⟩)) 23)))
    exact this
  have b1 : ((((w.alloc (.cells #[.pointer (some ⟨sb, 0, none⟩)] 23)).alloc (.cells #[.string (strOf nm)] 9)).alloc (.cells #[.string (strOf nw)] 9)).alloc (.cells #[.string (strOf nm), .string (strOf nw)] 9)).cell? ⟨w.heap.size + 1, 0, none⟩ = some (.string (strOf nm)) := by
    have := Lib.cell?_alloc_some (.cells #[.string (strOf nm), .string (strOf nw)] 9) (Lib.cell?_alloc_some (.cells #[.string (strOf nw)] 9) (cell_new1 (w.alloc (.cells #[.pointer (some ⟨sb, 0, none⟩)] 23)) (.string (strOf nm)) 9))
    simp only [World.size_alloc] at this
    exact this
  have b2 : ((((w.alloc (.cells #[.pointer (some ⟨sb, 0, none⟩)] 23)).alloc (.cells #[.string (strOf nm)] 9)).alloc (.cells #[.string (strOf nw)] 9)).alloc (.cells #[.string (strOf nm), .string (strOf nw)] 9)).cell? ⟨w.heap.size + 1 + 1, 0, none⟩ = some (.string (strOf nw)) := by
    have := Lib.cell?_alloc_some (.cells #[.string (strOf nm), .string (strOf nw)] 9) (cell_new1 ((w.alloc (.cells #[.pointer (some ⟨sb, 0, none⟩)] 23)).alloc (.cells #[.string (strOf nm)] 9)) (.string (strOf nw)) 9)
    simp only [World.size_alloc] at this
    exact this
  have hs0 : ((((w.alloc (.cells #[.pointer (some ⟨sb, 0, none⟩)] 23)).alloc (.cells #[.string (strOf nm)] 9)).alloc (.cells #[.string (strOf nw)] 9)).alloc (.cells #[.string (strOf nm), .string (strOf nw)] 9)).heap.size = w.heap.size + 4 := by simp
  have HB0 := show Hid _ from (⟨b0, b1, b2⟩ : ((((w.alloc (.cells #[.pointer (some ⟨sb, 0, none⟩)] 23)).alloc (.cells #[.string (strOf nm)] 9)).alloc (.cells #[.string (strOf nw)] 9)).alloc (.cells #[.string (strOf nm), .string (strOf nw)] 9)).cell? ⟨w.heap.size, 0, none⟩ = some (.pointer (some ⟨sb, 0, none⟩)) ∧ ((((w.alloc (.cells #[.pointer (some ⟨sb, 0, none⟩)] 23)).alloc (.cells #[.string (strOf nm)] 9)).alloc (.cells #[.string (strOf nw)] 9)).alloc (.cells #[.string (strOf nm), .string (strOf nw)] 9)).cell? ⟨w.heap.size + 1, 0, none⟩ = some (.string (strOf nm)) ∧ ((((w.alloc (.cells #[.pointer (some ⟨sb, 0, none⟩)] 23)).alloc (.cells #[.string (strOf nm)] 9)).alloc (.cells #[.string (strOf nw)] 9)).alloc (.cells #[.string (strOf nm), .string (strOf nw)] 9)).cell? ⟨w.heap.size + 1 + 1, 0, none⟩ = some (.string (strOf nw)))
  clear hdr hd hF hA0 hgc hgf hown hl hr hn b0 b1 b2
  go_enter Try.func32, Try.ntmps32
  go_wp2_with (first
    | (go_at_call 50; refine Calls.mono CR.out ?_; rintro e w' ⟨rfl, rfl⟩)
    | (go_at_call 42; refine Calls.mono C.out ?_; rintro e w1 ⟨rfl, hb⟩; have HB := show Hid (After _ w1) from hb; have kd := fun o : Obj => Lib.cell?_alloc_some o ((Below.cell hb (p := ⟨w.heap.size, 0, none⟩) (by simp <;> omega)).trans HB0.out.1); clear hb))
  have hA1 : After w w1 := After.trans HA0.out HB.out
  obtain ⟨V, hV⟩ : ∃ V, w1.alloc (.cells #[.slice ao n c, .int .i64 (f0.safe : Int)] 77) = V := ⟨_, rfl⟩
  have hs1 : w.heap.size + 4 ≤ w1.heap.size := by have := HB.out.size; omega
  have hAV : After w V := by rw [← hV]; exact after_alloc hA1 _
  have hVs : V.heap.size = w1.heap.size + 1 := by rw [← hV]; simp
  have hAV0 : After ((((w.alloc (.cells #[.pointer (some ⟨sb, 0, none⟩)] 23)).alloc (.cells #[.string (strOf nm)] 9)).alloc (.cells #[.string (strOf nw)] 9)).alloc (.cells #[.string (strOf nm), .string (strOf nw)] 9)) V := by rw [← hV]; exact after_alloc HB.out _
  have kf0 : V.cell? ⟨w1.heap.size, 0, none⟩ = some (.slice ao n c) := by rw [← hV]; exact (RowIs.new w1 77 [.slice ao n c, .int .i64 (f0.safe : Int)]).cell (j := 0) rfl
  have kf1 : V.cell? ⟨w1.heap.size, 1, none⟩ = some (.int .i64 (f0.safe : Int)) := by rw [← hV]; exact (RowIs.new w1 77 [.slice ao n c, .int .i64 (f0.safe : Int)]).cell (j := 1) rfl
  have k0 : V.cell? ⟨w.heap.size, 0, none⟩ = some (.pointer (some ⟨sb, 0, none⟩)) := (Below.cell hAV0 (p := ⟨w.heap.size, 0, none⟩) (by simp <;> omega)).trans HB0.out.1
  have k1 : V.cell? ⟨w.heap.size + 1, 0, none⟩ = some (.string (strOf nm)) := (Below.cell hAV0 (p := ⟨w.heap.size + 1, 0, none⟩) (by simp <;> omega)).trans HB0.out.2.1
  have k2 : V.cell? ⟨w.heap.size + 1 + 1, 0, none⟩ = some (.string (strOf nw)) := (Below.cell hAV0 (p := ⟨w.heap.size + 1 + 1, 0, none⟩) (by simp <;> omega)).trans HB0.out.2.2
  have HDV := show Hid (Dr V F sb mb S cs) from HR.out.after hAV
  have n0 : ¬ F (w.heap.size) := fun e => by have := HF.out _ e; omega
  have n1 : ¬ F (w.heap.size + 1) := fun e => by have := HF.out _ e; omega
  have n2 : ¬ F (w.heap.size + 1 + 1) := fun e => by have := HF.out _ e; omega
  have nf : ¬ F w1.heap.size := fun e => by have := HF.out _ e; omega
  have hFV : ∀ i, F i → i < V.heap.size := fun i hi => by have := HF.out i hi; omega
  rw [hV]
  clear hV kd
  have hc6 := HDV.out.row.cells68.c6
  have CS := show Hid _ from step_any F sb mb S cs S.done 56 #[.pointer (some ⟨w.heap.size, 0, none⟩), .pointer (some ⟨w.heap.size + 1, 0, none⟩), .pointer (some ⟨w1.heap.size, 0, none⟩), .pointer (some ⟨w.heap.size + 1 + 1, 0, none⟩)] (fput nw f0 (fdel nm S.files)) V.drew hst hS (HDV.out.after (After.drew (After.refl V))) hFV (do_rename F sb mb S cs V.drew nm hl32 w.heap.size (w.heap.size + 1) k0 k1 n0 n1 (by omega) w1.heap.size n c ao f0 kf0 kf1 nf HGC.out (w.heap.size + 1 + 1) nw hw32 k2 n2) (fun W => by simp [go_sem])
  have hdone : (stepS S S.done (fput nw f0 (fdel nm S.files))).done = S.done := by unfold stepS; split <;> rfl
  refine wp_region_noPanic ?_
  refine wp_region_held_drew (S := (fun w' => Turn F V w' ∧ w'.cell? ⟨sb, 6, none⟩ = some (.bool S.done))) (by kernel_rfl) ⟨Turn.drew (Turn.refl _ V), hc6⟩ ?_
  intro hS0
  refine tk 0 27 (.pointer (some ⟨sb, 0, none⟩)) (fuel := 8) rfl (by kernel_rfl) (by kernel_rfl) (by kernel_rfl) (by kernel_rfl) noPanic_false (by kernel_rfl) (fun W hW => x_ld23 (x := .tmp 3) (g := w.heap.size) (p := 0) (by kernel_rfl) (by kernel_rfl) (hW.1.cell (p := ⟨w.heap.size, 0, none⟩) n0 k0)) hS0 ?_
  refine tk 1 28 (.pointer (some ⟨sb, 0, none⟩)) (fuel := 7) rfl (by kernel_rfl) (by kernel_rfl) (by kernel_rfl) (by kernel_rfl) noPanic_false (by kernel_rfl) (fun W hW => x_ld23 (x := .tmp 3) (g := w.heap.size) (p := 0) (by kernel_rfl) (by kernel_rfl) (hW.1.cell (p := ⟨w.heap.size, 0, none⟩) n0 k0)) hS0 ?_
  refine tk 2 29 (.pointer (some ⟨sb, 0, none⟩)) (fuel := 6) rfl (by kernel_rfl) (by kernel_rfl) (by kernel_rfl) (by kernel_rfl) noPanic_false (by kernel_rfl) (fun _ _ => by kernel_rfl) hS0 ?_
  refine tk 3 30 (.pointer (some ⟨sb, 4, none⟩)) (fuel := 5) rfl (by kernel_rfl) (by kernel_rfl) (by kernel_rfl) (by kernel_rfl) noPanic_false (by kernel_rfl) (fun _ _ => by kernel_rfl) hS0 ?_
  refine tk 4 31 (.pointer (some ⟨sb, 6, none⟩)) (fuel := 4) rfl (by kernel_rfl) (by kernel_rfl) (by kernel_rfl) (by kernel_rfl) noPanic_false (by kernel_rfl) (fun _ _ => by kernel_rfl) hS0 ?_
  refine tk 5 32 (.bool S.done) (fuel := 3) rfl (by kernel_rfl) (by kernel_rfl) (by kernel_rfl) (by kernel_rfl) noPanic_false (by kernel_rfl) (fun W hW => x_ld4 (x := .tmp 31) (g := sb) (p := 6) (by kernel_rfl) (by kernel_rfl) (hW.2)) hS0 ?_
  refine tk 6 33 (.func (.func 56) #[] #[.pointer (some ⟨w.heap.size, 0, none⟩), .pointer (some ⟨w.heap.size + 1, 0, none⟩), .pointer (some ⟨w1.heap.size, 0, none⟩), .pointer (some ⟨w.heap.size + 1 + 1, 0, none⟩)]) (fuel := 2) rfl (by kernel_rfl) (by kernel_rfl) (by kernel_rfl) (by kernel_rfl) noPanic_false (by kernel_rfl) (fun _ _ => by kernel_rfl) hS0 ?_
  refine tkCallS 7 34 48 #[.pointer (some ⟨sb, 0, none⟩), .bool S.done, .func (.func 56) #[] #[.pointer (some ⟨w.heap.size, 0, none⟩), .pointer (some ⟨w.heap.size + 1, 0, none⟩), .pointer (some ⟨w1.heap.size, 0, none⟩), .pointer (some ⟨w.heap.size + 1 + 1, 0, none⟩)]] (fun v w' => v = .int .i64 (stepE S : Int) ∧ Turn F V.drew w' ∧ DiskAt w' (more F V.drew w') sb (stepS S S.done (fput nw f0 (fdel nm S.files)))) (fuel := 1) rfl (by kernel_rfl) (by kernel_rfl) (by kernel_rfl) (fun _ => by kernel_rfl) (Calls.mono CS.out (fun e w' ⟨h1, h2, h3⟩ => ⟨_, h1, rfl, h2, h3⟩)) ?_
  intro v1 w2 ⟨hv1, t1, d1⟩
  subst hv1
  have hc6' : w2.cell? ⟨sb, 6, none⟩ = some (.bool S.done) := by
    obtain ⟨mb1, cs1, hr1⟩ := d1.dr
    have := hr1.row.cells68.c6
    rwa [hdone] at this
  have hT1 : Turn F V w2 := (Turn.drew (Turn.refl _ V)).trans t1
  refine ⟨⟨hT1, hc6'⟩, ?_⟩
  refine tk 8 6 (.int .i64 (stepE S : Int)) (fuel := 0) rfl (by kernel_rfl) (by kernel_rfl) (by kernel_rfl) (by kernel_rfl) noPanic_false (by kernel_rfl) (fun _ _ => by kernel_rfl) ⟨hT1, hc6'⟩ ?_
  refine wpAnyH_done (by kernel_rfl) (NoPanic.normal ?_) _
  have hAs := hAV.size
  go_simp
  go_wp2
  go_ret
  refine ⟨rfl, (Turn.of_after hAV).trans hT1, d1.mono (fun i hi => ?_)⟩
  rcases hi with hi | ⟨h1, h2⟩
  · exact Or.inl hi
  · exact Or.inr ⟨by have : V.heap.size ≤ i := h1; omega, h2⟩
set_option maxRecDepth 100000 in
set_option maxHeartbeats 800000 in
theorem fail_nil (n : Int) (done : Bool) (w : World) : Calls Try.prog 30 #[.pointer none, .int .i64 n, .bool done] w fun e w' => e = .returned (.int .i64 1) ∧ w' = w := by
  go_enter Try.func30, Try.ntmps30
  go_wp2_with (go_at_call 50; refine (refusal_nil _ _).mono ?_; rintro e w1 ⟨rfl, rfl⟩)
  go_ret
  exact ⟨rfl, rfl⟩
def failE (S : Dk) (n : Int) : Nat := if S.down then 20 else if n < 0 then 2 else 0
def failD (S : Dk) (n : Int) (done : Bool) : Dk := if S.down then S else if n < 0 then S else failS S n.toNat done
theorem Ok.failD {S : Dk} (h : Ok S) {n : Int} (hn : n < 9223372036854775808) (done : Bool) : Ok (failD S n done) := by
  unfold Ytlbodickflljfaa.failD
  split
  · exact h
  · split
    · exact h
    · exact h.fail _ (by omega) done
set_option maxRecDepth 100000 in
set_option maxHeartbeats 800000 in
theorem fail_any (F : Nat → Prop) (sb : Nat) (S : Dk) (n : Int) (done : Bool) (w : World) (hd : DiskAt w F sb S) (hF : ∀ i, F i → i < w.heap.size) : Calls Try.prog 30 #[.pointer (some ⟨sb, 0, none⟩), .int .i64 n, .bool done] w (SPost F w sb (failE S n) (failD S n done)) := by
  obtain ⟨mb, cs, hdr⟩ := hd.dr
  have HR : Hid (Dr w F sb mb S cs) := hdr
  have HD : Hid (DiskAt w F sb S) := hd
  have HF : Hid (∀ i, F i → i < w.heap.size) := hF
  have hc := hdr.row.cells68
  have h4 := hc.c4
  have h5 := hc.c5
  have h6 := hc.c6
  have hf := hc.fz
  have CR := show Hid _ from refusal_none sb S w hc.c3
  unfold failE failD
  have hre : refuse S [] = if S.down then 20 else 0 := by simp [refuse]
  rw [hre] at CR
  clear hdr hd hF hre hc
  cases hdn : S.down with
  | true =>
    rw [hdn] at CR
    go_enter Try.func30, Try.ntmps30
    go_wp2_with (go_at_call 50; refine Calls.mono CR.out ?_; rintro e w1 ⟨rfl, rfl⟩)
    go_ret
    exact SPost.same HD.out HF.out (After.refl _)
  | false =>
    rw [hdn] at CR
    by_cases hn : n < 0
    · simp only [Bool.false_eq_true, if_false, if_pos hn]
      go_enter Try.func30, Try.ntmps30
      go_wp2_with (go_at_call 50; refine Calls.mono CR.out ?_; rintro e w1 ⟨rfl, rfl⟩)
      go_ret
      exact SPost.same HD.out HF.out (After.refl _)
    · simp only [Bool.false_eq_true, if_false, if_neg hn]
      obtain ⟨m, rfl⟩ : ∃ m : Nat, n = (m : Int) := ⟨n.toNat, by omega⟩
      rw [Int.toNat_natCast]
      go_enter Try.func30, Try.ntmps30
      go_wp2_with (go_at_call 50; refine Calls.mono CR.out ?_; rintro e w1 ⟨rfl, rfl⟩)
      go_ret
      refine ⟨rfl, (((Turn.refl F _).setCell (p := ⟨sb, 4, none⟩) (Or.inl HR.out.fsb) _).setCell (p := ⟨sb, 5, none⟩) (Or.inl HR.out.fsb) _).setCell (p := ⟨sb, 6, none⟩) (Or.inl HR.out.fsb) _, ?_⟩
      have D4 := HR.out.setCells (S' := failS S m done) (((HR.out.row.set 4 (.bool true)).set 5 (.int .i64 (m : Int))).set 6 (.bool done)) rfl (fun i _ hne => by rw [heap_setCell_other _ _ i _ hne, heap_setCell_other _ _ i _ hne, heap_setCell_other _ _ i _ hne])
      exact D4.disk.mono (fun i hi => Or.inl hi)
end Go.Proofs.Ytlbodickflljfaa
