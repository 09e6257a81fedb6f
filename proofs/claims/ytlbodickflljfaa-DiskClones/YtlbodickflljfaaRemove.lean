/-
  THE WALKS OF (*Disk).Remove, Sync, Append, Cut, AND OF THOSE FOR NO DISK.
-/
import Derived.Test.YtlbodickflljfaaUsed
namespace Go.Proofs.Ytlbodickflljfaa
open Go.RowKit Go.Maps Dsk
theorem cell_new1 (w : World) (v : Value) (t : TypeId) : (w.alloc (.cells #[v] t)).cell? ⟨w.heap.size, 0, none⟩ = some v := (RowIs.new w t [v]).cell (j := 0) rfl

set_option maxRecDepth 100000 in
set_option maxHeartbeats 1600000 in
theorem remove_nil (nm : Nm) (w : World) : Calls Try.prog 22 #[.pointer none, .string (strOf nm)] w fun e w' => e = .returned (.int .i64 1) ∧ After w w' := by
  go_enter Try.func22, Try.ntmps22
  go_wp2_with (go_at_call 42; refine (find_nil nm _).mono ?_; unfold zF; rintro e w1 ⟨rfl, hb⟩; have HB := show Hid (After _ w1) from hb; clear hb)
  go_ret
  exact ⟨rfl, after_alloc (After.trans (after_alloc (after_alloc (After.refl w) _) _) HB.out) _⟩
set_option maxRecDepth 100000 in
set_option maxHeartbeats 1600000 in
theorem remove_bad (F : Nat → Prop) (sb : Nat) (S : Dk) (nm : Nm) (hl : nm.length ≤ maxLen) (w : World) (hd : DiskAt w F sb S) (hF : ∀ i, F i → i < w.heap.size) (r : Nat) (hr : findE S nm = r) (h0 : ¬ r = 0) :
    Calls Try.prog 22 #[.pointer (some ⟨sb, 0, none⟩), .string (strOf nm)] w (SPost F w sb r S) := by
  obtain ⟨mb, cs, hdr⟩ := hd.dr
  have HR : Hid (Dr w F sb mb S cs) := hdr
  have HD : Hid (DiskAt w F sb S) := hd
  have HF : Hid (∀ i, F i → i < w.heap.size) := hF
  have HL : Hid (nm.length ≤ maxLen) := hl
  have hA0 : After w ((w.alloc (.cells #[.pointer (some ⟨sb, 0, none⟩)] 23)).alloc (.cells #[.string (strOf nm)] 9)) := after_alloc (after_alloc (After.refl w) _) _
  have HA0 := show Hid (After _ _) from hA0
  have C := show Hid _ from find_bad sb mb S cs nm hl _ (hdr.after hA0).toDs r hr h0
  unfold zF at C
  have h0' : ((r : Int) != 0) = true := by simp; omega
  clear hdr hd hF hA0 hl hr
  go_enter Try.func22, Try.ntmps22
  go_wp2_with (go_at_call 42; refine Calls.mono C.out ?_; rintro e w1 ⟨rfl, hb⟩; have HB := show Hid (After _ w1) from hb; clear hb)
  go_ret
  exact SPost.same HD.out HF.out (after_alloc (After.trans HA0.out HB.out) _)
set_option maxRecDepth 100000 in
set_option maxHeartbeats 1600000 in
theorem remove_go (F : Nat → Prop) (sb : Nat) (S : Dk) (hS : Ok S) (hst : S.steps < 4611686018427387904) (nm : Nm) (hl : nm.length ≤ maxLen) (w : World) (hd : DiskAt w F sb S) (hF : ∀ i, F i → i < w.heap.size) (hr : findE S nm = 0) :
    Calls Try.prog 22 #[.pointer (some ⟨sb, 0, none⟩), .string (strOf nm)] w (SPost F w sb (stepE S) (stepS S S.done (fdel nm S.files))) := by
  obtain ⟨mb, cs, hdr⟩ := hd.dr
  have HR : Hid (Dr w F sb mb S cs) := hdr
  have HD : Hid (DiskAt w F sb S) := hd
  have HF : Hid (∀ i, F i → i < w.heap.size) := hF
  have HL : Hid (nm.length ≤ maxLen) := hl
  have hA0 : After w ((w.alloc (.cells #[.pointer (some ⟨sb, 0, none⟩)] 23)).alloc (.cells #[.string (strOf nm)] 9)) := after_alloc (after_alloc (After.refl w) _) _
  have HA0 := show Hid (After _ _) from hA0
  obtain ⟨h1r, h2r⟩ := findE_ok hr
  obtain ⟨ao, c, f, hgc, hgf, hown, hat, hle⟩ := hdr.get h2r
  have hl32 := (refuse_len h1r (List.mem_singleton.2 rfl)).2
  have hub : f.data.length ≤ 16777216 := by have h1 := used_mem (fget_mem hgf); have h2 := hS.used; have h3 := hS.most; simp only at h1; omega
  have HU : Hid (used S.files ≤ S.most) := hS.used
  obtain ⟨n, hn⟩ : ∃ n, f.data.length = n := ⟨_, rfl⟩
  have HN : Hid (f.data.length = n) := hn
  have hcl : cs.length ≤ 64 := by have := hS.count; rw [← hdr.files] at this; simpa [fls] using this
  rw [hn] at hgc hub hle
  have HGC := show Hid _ from hgc
  have HGF := show Hid _ from hgf
  have C := show Hid _ from find_ok sb mb S cs nm hl _ (hdr.after hA0).toDs h1r ao n c _ (vals_get hgc)
  have b0 : ((w.alloc (.cells #[.pointer (some ⟨sb, 0, none⟩)] 23)).alloc (.cells #[.string (strOf nm)] 9)).cell? ⟨w.heap.size, 0, none⟩ = some (.pointer (some ⟨sb, 0, none⟩)) := by
    have := Lib.cell?_alloc_some (.cells #[.string (strOf nm)] 9) (cell_new1 w (.pointer (some ⟨sb, 0, none⟩)) 23)
    exact this
  have b1 : ((w.alloc (.cells #[.pointer (some ⟨sb, 0, none⟩)] 23)).alloc (.cells #[.string (strOf nm)] 9)).cell? ⟨w.heap.size + 1, 0, none⟩ = some (.string (strOf nm)) := by
    have := cell_new1 (w.alloc (.cells #[.pointer (some ⟨sb, 0, none⟩)] 23)) (.string (strOf nm)) 9
    simp only [World.size_alloc] at this
    exact this
  have hs0 : ((w.alloc (.cells #[.pointer (some ⟨sb, 0, none⟩)] 23)).alloc (.cells #[.string (strOf nm)] 9)).heap.size = w.heap.size + 2 := by simp
  have HB0 := show Hid _ from (⟨b0, b1⟩ : ((w.alloc (.cells #[.pointer (some ⟨sb, 0, none⟩)] 23)).alloc (.cells #[.string (strOf nm)] 9)).cell? ⟨w.heap.size, 0, none⟩ = some (.pointer (some ⟨sb, 0, none⟩)) ∧ ((w.alloc (.cells #[.pointer (some ⟨sb, 0, none⟩)] 23)).alloc (.cells #[.string (strOf nm)] 9)).cell? ⟨w.heap.size + 1, 0, none⟩ = some (.string (strOf nm)))
  clear hdr hd hF hA0 hgc hgf hown hl hr hn b0 b1
  go_enter Try.func22, Try.ntmps22
  go_wp2_with (go_at_call 42; refine Calls.mono C.out ?_; rintro e w1 ⟨rfl, hb⟩; have HB := show Hid (After _ w1) from hb; have kd := fun o : Obj => Lib.cell?_alloc_some o ((Below.cell hb (p := ⟨w.heap.size, 0, none⟩) (by simp <;> omega)).trans HB0.out.1); clear hb)
  have hA1 : After w w1 := After.trans HA0.out HB.out
  obtain ⟨V, hV⟩ : ∃ V, w1.alloc (.cells #[.slice ao n c, .int .i64 (f.safe : Int)] 77) = V := ⟨_, rfl⟩
  have hs1 : w.heap.size + 2 ≤ w1.heap.size := by have := HB.out.size; omega
  have hAV : After w V := by rw [← hV]; exact after_alloc hA1 _
  have hVs : V.heap.size = w1.heap.size + 1 := by rw [← hV]; simp
  have hAV0 : After ((w.alloc (.cells #[.pointer (some ⟨sb, 0, none⟩)] 23)).alloc (.cells #[.string (strOf nm)] 9)) V := by rw [← hV]; exact after_alloc HB.out _
  have kf0 : V.cell? ⟨w1.heap.size, 0, none⟩ = some (.slice ao n c) := by rw [← hV]; exact (RowIs.new w1 77 [.slice ao n c, .int .i64 (f.safe : Int)]).cell (j := 0) rfl
  have kf1 : V.cell? ⟨w1.heap.size, 1, none⟩ = some (.int .i64 (f.safe : Int)) := by rw [← hV]; exact (RowIs.new w1 77 [.slice ao n c, .int .i64 (f.safe : Int)]).cell (j := 1) rfl
  have k0 : V.cell? ⟨w.heap.size, 0, none⟩ = some (.pointer (some ⟨sb, 0, none⟩)) := (Below.cell hAV0 (p := ⟨w.heap.size, 0, none⟩) (by simp <;> omega)).trans HB0.out.1
  have k1 : V.cell? ⟨w.heap.size + 1, 0, none⟩ = some (.string (strOf nm)) := (Below.cell hAV0 (p := ⟨w.heap.size + 1, 0, none⟩) (by simp <;> omega)).trans HB0.out.2
  have HDV := show Hid (Dr V F sb mb S cs) from HR.out.after hAV
  have n0 : ¬ F (w.heap.size) := fun e => by have := HF.out _ e; omega
  have n1 : ¬ F (w.heap.size + 1) := fun e => by have := HF.out _ e; omega
  have nf : ¬ F w1.heap.size := fun e => by have := HF.out _ e; omega
  have hFV : ∀ i, F i → i < V.heap.size := fun i hi => by have := HF.out i hi; omega
  rw [hV]
  clear hV
  have hc6 := HDV.out.row.cells68.c6
  have CS := show Hid _ from step_any F sb mb S cs S.done 49 #[.pointer (some ⟨w.heap.size, 0, none⟩), .pointer (some ⟨w.heap.size + 1, 0, none⟩)] (fdel nm S.files) V.drew hst hS (HDV.out.after (After.drew (After.refl V))) hFV (do_remove F sb mb S cs V.drew nm hl32 w.heap.size (w.heap.size + 1) k0 k1 n0 n1 (by omega)) (fun W => by simp [go_sem])
  have hdone : (stepS S S.done (fdel nm S.files)).done = S.done := by unfold stepS; split <;> rfl
  refine wp_region_noPanic ?_
  refine wp_region_held_drew (S := (fun w' => Turn F V w' ∧ w'.cell? ⟨sb, 6, none⟩ = some (.bool S.done))) (by kernel_rfl) ⟨Turn.drew (Turn.refl _ V), hc6⟩ ?_
  intro hS0
  refine tk 0 16 (.pointer (some ⟨sb, 0, none⟩)) (fuel := 8) rfl (by kernel_rfl) (by kernel_rfl) (by kernel_rfl) (by kernel_rfl) noPanic_false (by kernel_rfl) (fun W hW => x_ld23 (x := .tmp 2) (g := w.heap.size) (p := 0) (by kernel_rfl) (by kernel_rfl) (hW.1.cell (p := ⟨w.heap.size, 0, none⟩) n0 k0)) hS0 ?_
  refine tk 1 17 (.pointer (some ⟨sb, 0, none⟩)) (fuel := 7) rfl (by kernel_rfl) (by kernel_rfl) (by kernel_rfl) (by kernel_rfl) noPanic_false (by kernel_rfl) (fun W hW => x_ld23 (x := .tmp 2) (g := w.heap.size) (p := 0) (by kernel_rfl) (by kernel_rfl) (hW.1.cell (p := ⟨w.heap.size, 0, none⟩) n0 k0)) hS0 ?_
  refine tk 2 18 (.pointer (some ⟨sb, 0, none⟩)) (fuel := 6) rfl (by kernel_rfl) (by kernel_rfl) (by kernel_rfl) (by kernel_rfl) noPanic_false (by kernel_rfl) (fun _ _ => by kernel_rfl) hS0 ?_
  refine tk 3 19 (.pointer (some ⟨sb, 4, none⟩)) (fuel := 5) rfl (by kernel_rfl) (by kernel_rfl) (by kernel_rfl) (by kernel_rfl) noPanic_false (by kernel_rfl) (fun _ _ => by kernel_rfl) hS0 ?_
  refine tk 4 20 (.pointer (some ⟨sb, 6, none⟩)) (fuel := 4) rfl (by kernel_rfl) (by kernel_rfl) (by kernel_rfl) (by kernel_rfl) noPanic_false (by kernel_rfl) (fun _ _ => by kernel_rfl) hS0 ?_
  refine tk 5 21 (.bool S.done) (fuel := 3) rfl (by kernel_rfl) (by kernel_rfl) (by kernel_rfl) (by kernel_rfl) noPanic_false (by kernel_rfl) (fun W hW => x_ld4 (x := .tmp 20) (g := sb) (p := 6) (by kernel_rfl) (by kernel_rfl) (hW.2)) hS0 ?_
  refine tk 6 22 (.func (.func 49) #[] #[.pointer (some ⟨w.heap.size, 0, none⟩), .pointer (some ⟨w.heap.size + 1, 0, none⟩)]) (fuel := 2) rfl (by kernel_rfl) (by kernel_rfl) (by kernel_rfl) (by kernel_rfl) noPanic_false (by kernel_rfl) (fun _ _ => by kernel_rfl) hS0 ?_
  refine tkCallS 7 23 48 #[.pointer (some ⟨sb, 0, none⟩), .bool S.done, .func (.func 49) #[] #[.pointer (some ⟨w.heap.size, 0, none⟩), .pointer (some ⟨w.heap.size + 1, 0, none⟩)]] (fun v w' => v = .int .i64 (stepE S : Int) ∧ Turn F V.drew w' ∧ DiskAt w' (more F V.drew w') sb (stepS S S.done (fdel nm S.files))) (fuel := 1) rfl (by kernel_rfl) (by kernel_rfl) (by kernel_rfl) (fun _ => by kernel_rfl) (Calls.mono CS.out (fun e w' ⟨h1, h2, h3⟩ => ⟨_, h1, rfl, h2, h3⟩)) ?_
  intro v1 w2 ⟨hv1, t1, d1⟩
  subst hv1
  have hc6' : w2.cell? ⟨sb, 6, none⟩ = some (.bool S.done) := by
    obtain ⟨mb1, cs1, hr1⟩ := d1.dr
    have := hr1.row.cells68.c6
    rwa [hdone] at this
  have hT1 : Turn F V w2 := (Turn.drew (Turn.refl _ V)).trans t1
  refine ⟨⟨hT1, hc6'⟩, ?_⟩
  refine tk 8 4 (.int .i64 (stepE S : Int)) (fuel := 0) rfl (by kernel_rfl) (by kernel_rfl) (by kernel_rfl) (by kernel_rfl) noPanic_false (by kernel_rfl) (fun _ _ => by kernel_rfl) ⟨hT1, hc6'⟩ ?_
  refine wpAnyH_done (by kernel_rfl) (NoPanic.normal ?_) _
  have hAs := hAV.size
  go_simp
  go_wp2
  go_ret
  refine ⟨rfl, (Turn.of_after hAV).trans hT1, d1.mono (fun i hi => ?_)⟩
  rcases hi with hi | ⟨h1, h2⟩
  · exact Or.inl hi
  · exact Or.inr ⟨by have : V.heap.size ≤ i := h1; omega, h2⟩
set_option maxRecDepth 100000 in
set_option maxHeartbeats 1600000 in
theorem sync_nil (nm : Nm) (w : World) : Calls Try.prog 27 #[.pointer none, .string (strOf nm)] w fun e w' => e = .returned (.int .i64 1) ∧ After w w' := by
  go_enter Try.func27, Try.ntmps27
  go_wp2_with (go_at_call 42; refine (find_nil nm _).mono ?_; unfold zF; rintro e w1 ⟨rfl, hb⟩; have HB := show Hid (After _ w1) from hb; clear hb)
  go_ret
  exact ⟨rfl, after_alloc (After.trans (after_alloc (after_alloc (After.refl w) _) _) HB.out) _⟩
set_option maxRecDepth 100000 in
set_option maxHeartbeats 1600000 in
theorem sync_bad (F : Nat → Prop) (sb : Nat) (S : Dk) (nm : Nm) (hl : nm.length ≤ maxLen) (w : World) (hd : DiskAt w F sb S) (hF : ∀ i, F i → i < w.heap.size) (r : Nat) (hr : findE S nm = r) (h0 : ¬ r = 0) :
    Calls Try.prog 27 #[.pointer (some ⟨sb, 0, none⟩), .string (strOf nm)] w (SPost F w sb r S) := by
  obtain ⟨mb, cs, hdr⟩ := hd.dr
  have HR : Hid (Dr w F sb mb S cs) := hdr
  have HD : Hid (DiskAt w F sb S) := hd
  have HF : Hid (∀ i, F i → i < w.heap.size) := hF
  have HL : Hid (nm.length ≤ maxLen) := hl
  have hA0 : After w ((w.alloc (.cells #[.pointer (some ⟨sb, 0, none⟩)] 23)).alloc (.cells #[.string (strOf nm)] 9)) := after_alloc (after_alloc (After.refl w) _) _
  have HA0 := show Hid (After _ _) from hA0
  have C := show Hid _ from find_bad sb mb S cs nm hl _ (hdr.after hA0).toDs r hr h0
  unfold zF at C
  have h0' : ((r : Int) != 0) = true := by simp; omega
  clear hdr hd hF hA0 hl hr
  go_enter Try.func27, Try.ntmps27
  go_wp2_with (go_at_call 42; refine Calls.mono C.out ?_; rintro e w1 ⟨rfl, hb⟩; have HB := show Hid (After _ w1) from hb; clear hb)
  go_ret
  exact SPost.same HD.out HF.out (after_alloc (After.trans HA0.out HB.out) _)
set_option maxRecDepth 100000 in
set_option maxHeartbeats 1600000 in
theorem sync_go (F : Nat → Prop) (sb : Nat) (S : Dk) (hS : Ok S) (hst : S.steps < 4611686018427387904) (nm : Nm) (hl : nm.length ≤ maxLen) (w : World) (hd : DiskAt w F sb S) (hF : ∀ i, F i → i < w.heap.size) (hr : findE S nm = 0) (f : Fl) (hgf0 : fget nm S.files = some f) :
    Calls Try.prog 27 #[.pointer (some ⟨sb, 0, none⟩), .string (strOf nm)] w (SPost F w sb (stepE S) (stepS S false (fput nm ⟨f.data, f.data.length⟩ S.files))) := by
  obtain ⟨mb, cs, hdr⟩ := hd.dr
  have HR : Hid (Dr w F sb mb S cs) := hdr
  have HD : Hid (DiskAt w F sb S) := hd
  have HF : Hid (∀ i, F i → i < w.heap.size) := hF
  have HL : Hid (nm.length ≤ maxLen) := hl
  have hA0 : After w ((w.alloc (.cells #[.pointer (some ⟨sb, 0, none⟩)] 23)).alloc (.cells #[.string (strOf nm)] 9)) := after_alloc (after_alloc (After.refl w) _) _
  have HA0 := show Hid (After _ _) from hA0
  obtain ⟨h1r, h2r⟩ := findE_ok hr
  obtain ⟨ao, c, f0, hgc, hgf, hown, hat, hle⟩ := hdr.get h2r
  obtain rfl : f0 = f := by have := hgf.symm.trans hgf0; simpa using this
  have hl32 := (refuse_len h1r (List.mem_singleton.2 rfl)).2
  have hub : f0.data.length ≤ 16777216 := by have h1 := used_mem (fget_mem hgf); have h2 := hS.used; have h3 := hS.most; simp only at h1; omega
  have HU : Hid (used S.files ≤ S.most) := hS.used
  obtain ⟨n, hn⟩ : ∃ n, f0.data.length = n := ⟨_, rfl⟩
  have HN : Hid (f0.data.length = n) := hn
  have hcl : cs.length ≤ 64 := by have := hS.count; rw [← hdr.files] at this; simpa [fls] using this
  rw [hn] at hgc hub hle
  have HGC := show Hid _ from hgc
  have HGF := show Hid _ from hgf
  have C := show Hid _ from find_ok sb mb S cs nm hl _ (hdr.after hA0).toDs h1r ao n c _ (vals_get hgc)
  have b0 : ((w.alloc (.cells #[.pointer (some ⟨sb, 0, none⟩)] 23)).alloc (.cells #[.string (strOf nm)] 9)).cell? ⟨w.heap.size, 0, none⟩ = some (.pointer (some ⟨sb, 0, none⟩)) := by
    have := Lib.cell?_alloc_some (.cells #[.string (strOf nm)] 9) (cell_new1 w (.pointer (some ⟨sb, 0, none⟩)) 23)
    exact this
  have b1 : ((w.alloc (.cells #[.pointer (some ⟨sb, 0, none⟩)] 23)).alloc (.cells #[.string (strOf nm)] 9)).cell? ⟨w.heap.size + 1, 0, none⟩ = some (.string (strOf nm)) := by
    have := cell_new1 (w.alloc (.cells #[.pointer (some ⟨sb, 0, none⟩)] 23)) (.string (strOf nm)) 9
    simp only [World.size_alloc] at this
    exact this
  have hs0 : ((w.alloc (.cells #[.pointer (some ⟨sb, 0, none⟩)] 23)).alloc (.cells #[.string (strOf nm)] 9)).heap.size = w.heap.size + 2 := by simp
  have HB0 := show Hid _ from (⟨b0, b1⟩ : ((w.alloc (.cells #[.pointer (some ⟨sb, 0, none⟩)] 23)).alloc (.cells #[.string (strOf nm)] 9)).cell? ⟨w.heap.size, 0, none⟩ = some (.pointer (some ⟨sb, 0, none⟩)) ∧ ((w.alloc (.cells #[.pointer (some ⟨sb, 0, none⟩)] 23)).alloc (.cells #[.string (strOf nm)] 9)).cell? ⟨w.heap.size + 1, 0, none⟩ = some (.string (strOf nm)))
  clear hdr hd hF hA0 hgc hgf hown hl hr hn b0 b1
  have CS : Hid (∀ w1 : World, After ((w.alloc (.cells #[.pointer (some ⟨sb, 0, none⟩)] 23)).alloc (.cells #[.string (strOf nm)] 9)) w1 → Calls Try.prog 48 #[.pointer (some ⟨sb, 0, none⟩), .bool false, .func (.func 55) #[] #[.pointer (some ⟨w1.heap.size, 0, none⟩), .pointer (some ⟨w.heap.size, 0, none⟩), .pointer (some ⟨w.heap.size + 1, 0, none⟩)]] (w1.alloc (.cells #[.slice ao n c, .int .i64 (f0.safe : Int)] 77)) (SPost F (w1.alloc (.cells #[.slice ao n c, .int .i64 (f0.safe : Int)] 77)) sb (stepE S) (stepS S false (fput nm ⟨f0.data, f0.data.length⟩ S.files)))) := fun w1 hb => by
    have HB := show Hid (After _ w1) from hb
    have hA1 : After w w1 := After.trans HA0.out HB.out
    obtain ⟨V, hV⟩ : ∃ V, w1.alloc (.cells #[.slice ao n c, .int .i64 (f0.safe : Int)] 77) = V := ⟨_, rfl⟩
    have hs1 : w.heap.size + 2 ≤ w1.heap.size := by have := HB.out.size; omega
    have hAV : After w V := by rw [← hV]; exact after_alloc hA1 _
    have hVs : V.heap.size = w1.heap.size + 1 := by rw [← hV]; simp
    have hAV0 : After ((w.alloc (.cells #[.pointer (some ⟨sb, 0, none⟩)] 23)).alloc (.cells #[.string (strOf nm)] 9)) V := by rw [← hV]; exact after_alloc HB.out _
    have kf0 : V.cell? ⟨w1.heap.size, 0, none⟩ = some (.slice ao n c) := by rw [← hV]; exact (RowIs.new w1 77 [.slice ao n c, .int .i64 (f0.safe : Int)]).cell (j := 0) rfl
    have kf1 : V.cell? ⟨w1.heap.size, 1, none⟩ = some (.int .i64 (f0.safe : Int)) := by rw [← hV]; exact (RowIs.new w1 77 [.slice ao n c, .int .i64 (f0.safe : Int)]).cell (j := 1) rfl
    have k0 : V.cell? ⟨w.heap.size, 0, none⟩ = some (.pointer (some ⟨sb, 0, none⟩)) := (Below.cell hAV0 (p := ⟨w.heap.size, 0, none⟩) (by simp <;> omega)).trans HB0.out.1
    have k1 : V.cell? ⟨w.heap.size + 1, 0, none⟩ = some (.string (strOf nm)) := (Below.cell hAV0 (p := ⟨w.heap.size + 1, 0, none⟩) (by simp <;> omega)).trans HB0.out.2
    have HDV := show Hid (Dr V F sb mb S cs) from HR.out.after hAV
    have n0 : ¬ F (w.heap.size) := fun e => by have := HF.out _ e; omega
    have n1 : ¬ F (w.heap.size + 1) := fun e => by have := HF.out _ e; omega
    have nf : ¬ F w1.heap.size := fun e => by have := HF.out _ e; omega
    have hFV : ∀ i, F i → i < V.heap.size := fun i hi => by have := HF.out i hi; omega
  
    rw [hV]
    exact step_any F sb mb S cs false 55 #[.pointer (some ⟨w1.heap.size, 0, none⟩), .pointer (some ⟨w.heap.size, 0, none⟩), .pointer (some ⟨w.heap.size + 1, 0, none⟩)] (fput nm ⟨f0.data, f0.data.length⟩ S.files) V hst hS HDV.out hFV (do_sync F sb mb S cs V nm hl32 w.heap.size (w.heap.size + 1) k0 k1 n0 n1 (by omega) w1.heap.size n c ao f0 kf0 kf1 nf HGC.out) (fun W => by simp [go_sem])
  go_enter Try.func27, Try.ntmps27
  go_wp2_with (first
    | (go_at_call 42; refine Calls.mono C.out ?_; rintro e w1 ⟨rfl, hb⟩; have HB := show Hid (After _ w1) from hb; have kd := fun o : Obj => Lib.cell?_alloc_some o ((Below.cell hb (p := ⟨w.heap.size, 0, none⟩) (by simp <;> omega)).trans HB0.out.1); clear hb)
    | (go_at_call 48; refine Calls.mono (CS.out w1 HB.out) ?_; rintro e w2 ⟨rfl, t1, d1⟩))
  have hAV : After w (w1.alloc (.cells #[.slice ao n c, .int .i64 (f0.safe : Int)] 77)) := after_alloc (After.trans HA0.out HB.out) _
  have hAs := hAV.size
  go_ret
  refine ⟨rfl, (Turn.of_after hAV).trans t1, d1.mono (fun i hi => ?_)⟩
  rcases hi with hi | ⟨h1, h2⟩
  · exact Or.inl hi
  · exact Or.inr ⟨by omega, h2⟩
end Go.Proofs.Ytlbodickflljfaa
