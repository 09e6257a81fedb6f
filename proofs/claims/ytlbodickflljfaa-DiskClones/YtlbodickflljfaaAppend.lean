/-
  THE WALKS OF (*Disk).Append AND Cut.
-/
import Derived.Test.YtlbodickflljfaaRemove
namespace Go.Proofs.Ytlbodickflljfaa
open Go.RowKit Go.Maps Dsk
section
variable {o : Oper} {a : Act} {x y : Operand} {w : World}
theorem x_sub {p q : Nat} (hop : o.op = .binOp .sub 3 x y 3) (hx : a.eval x = .int .i64 (p : Int)) (hy : a.eval y = .int .i64 (q : Int)) (h : q ≤ p) (hb : p ≤ 16777216) : (execOp a.eval o).run Try.prog w = .ok (.value (.int .i64 ((p - q : Nat) : Int))) w := by
  unfold execOp
  have e : IntKind.i64.wrap ((p : Int) - (q : Int)) = ((p - q : Nat) : Int) := by
    simp [IntKind.wrap, IntKind.bits, IntKind.signed]; omega
  simp only [hop, hx, hy]
  simp [go_sem, e]
theorem x_gtrt {t : TypeId} {p q : Nat} (hop : o.op = .binOp .gtr t x y t) (hx : a.eval x = .int .i64 (p : Int)) (hy : a.eval y = .int .i64 (q : Int)) (h : q < p) : (execOp a.eval o).run Try.prog w = .ok (.value (.bool true)) w := by
  unfold execOp
  simp only [hop, hx, hy]
  simp [go_sem]; omega
end
set_option maxRecDepth 100000 in
set_option maxHeartbeats 1600000 in
theorem append_nil (nm : Nm) (pa : Option Addr) (pn pc : Nat) (w : World) : Calls Try.prog 24 #[.pointer none, .string (strOf nm), .slice pa pn pc] w fun e w' => e = .returned (.int .i64 1) ∧ After w w' := by
  go_enter Try.func24, Try.ntmps24
  go_wp2_with (go_at_call 42; refine (find_nil nm _).mono ?_; unfold zF; rintro e w1 ⟨rfl, hb⟩; have HB := show Hid (After _ w1) from hb; clear hb)
  go_ret
  exact ⟨rfl, after_alloc (After.trans (after_alloc (after_alloc (after_alloc (After.refl w) _) _) _) HB.out) _⟩
set_option maxRecDepth 100000 in
set_option maxHeartbeats 1600000 in
theorem append_bad (F : Nat → Prop) (sb : Nat) (S : Dk) (nm : Nm) (hl : nm.length ≤ maxLen) (pa : Option Addr) (pn pc : Nat) (w : World) (hd : DiskAt w F sb S) (hF : ∀ i, F i → i < w.heap.size) (r : Nat) (hr : findE S nm = r) (h0 : ¬ r = 0) :
    Calls Try.prog 24 #[.pointer (some ⟨sb, 0, none⟩), .string (strOf nm), .slice pa pn pc] w (SPost F w sb r S) := by
  obtain ⟨mb, cs, hdr⟩ := hd.dr
  have HR : Hid (Dr w F sb mb S cs) := hdr
  have HD : Hid (DiskAt w F sb S) := hd
  have HF : Hid (∀ i, F i → i < w.heap.size) := hF
  have HL : Hid (nm.length ≤ maxLen) := hl
  have hA0 : After w (((w.alloc (.cells #[.pointer (some ⟨sb, 0, none⟩)] 23)).alloc (.cells #[.string (strOf nm)] 9)).alloc (.cells #[.slice pa pn pc] 31)) := after_alloc (after_alloc (after_alloc (After.refl w) _) _) _
  have HA0 := show Hid (After _ _) from hA0
  have C := show Hid _ from find_bad sb mb S cs nm hl _ (hdr.after hA0).toDs r hr h0
  unfold zF at C
  have h0' : ((r : Int) != 0) = true := by simp; omega
  clear hdr hd hF hA0 hl hr
  go_enter Try.func24, Try.ntmps24
  go_wp2_with (go_at_call 42; refine Calls.mono C.out ?_; rintro e w1 ⟨rfl, hb⟩; have HB := show Hid (After _ w1) from hb; clear hb)
  go_ret
  exact SPost.same HD.out HF.out (after_alloc (After.trans HA0.out HB.out) _)
set_option maxRecDepth 100000 in
set_option maxHeartbeats 1600000 in
theorem append_full (F : Nat → Prop) (sb : Nat) (S : Dk) (hS : Ok S) (nm : Nm) (hl : nm.length ≤ maxLen) (pa : Option Addr) (pn pc : Nat) (w : World) (hd : DiskAt w F sb S) (hF : ∀ i, F i → i < w.heap.size) (hr : findE S nm = 0) (f : Fl) (hgf0 : fget nm S.files = some f) (hfull : S.most - used S.files < pn) :
    Calls Try.prog 24 #[.pointer (some ⟨sb, 0, none⟩), .string (strOf nm), .slice pa pn pc] w (SPost F w sb 21 S) := by
  obtain ⟨mb, cs, hdr⟩ := hd.dr
  have HR : Hid (Dr w F sb mb S cs) := hdr
  have HD : Hid (DiskAt w F sb S) := hd
  have HF : Hid (∀ i, F i → i < w.heap.size) := hF
  have HL : Hid (nm.length ≤ maxLen) := hl
  have hA0 : After w (((w.alloc (.cells #[.pointer (some ⟨sb, 0, none⟩)] 23)).alloc (.cells #[.string (strOf nm)] 9)).alloc (.cells #[.slice pa pn pc] 31)) := after_alloc (after_alloc (after_alloc (After.refl w) _) _) _
  have HA0 := show Hid (After _ _) from hA0
  obtain ⟨h1r, h2r⟩ := findE_ok hr
  obtain ⟨ao, c, f0, hgc, hgf, hown, hat, hle⟩ := hdr.get h2r
  obtain rfl : f0 = f := by have := hgf.symm.trans hgf0; simpa using this
  have hl32 := (refuse_len h1r (List.mem_singleton.2 rfl)).2
  have hub : f0.data.length ≤ 16777216 := by have h1 := used_mem (fget_mem hgf); have h2 := hS.used; have h3 := hS.most; simp only at h1; omega
  have HU : Hid (used S.files ≤ S.most) := hS.used
  obtain ⟨n, hn⟩ : ∃ n, f0.data.length = n := ⟨_, rfl⟩
  have HN : Hid (f0.data.length = n) := hn
  have hcl : cs.length ≤ 64 := by have := hS.count; rw [← hdr.files] at this; simpa [fls] using this
  rw [hn] at hgc hub hle
  have HGC := show Hid _ from hgc
  have HGF := show Hid _ from hgf
  have C := show Hid _ from find_ok sb mb S cs nm hl _ (hdr.after hA0).toDs h1r ao n c _ (vals_get hgc)
  have b0 : (((w.alloc (.cells #[.pointer (some ⟨sb, 0, none⟩)] 23)).alloc (.cells #[.string (strOf nm)] 9)).alloc (.cells #[.slice pa pn pc] 31)).cell? ⟨w.heap.size, 0, none⟩ = some (.pointer (some ⟨sb, 0, none⟩)) := by
    have := Lib.cell?_alloc_some (.cells #[.slice pa pn pc] 31) (Lib.cell?_alloc_some (.cells #[.string (strOf nm)] 9) (cell_new1 w (.pointer (some ⟨sb, 0, none⟩)) 23))
    exact this
  have b1 : (((w.alloc (.cells #[.pointer (some ⟨sb, 0, none⟩)] 23)).alloc (.cells #[.string (strOf nm)] 9)).alloc (.cells #[.slice pa pn pc] 31)).cell? ⟨w.heap.size + 1, 0, none⟩ = some (.string (strOf nm)) := by
    have := Lib.cell?_alloc_some (.cells #[.slice pa pn pc] 31) (cell_new1 (w.alloc (.cells #[.pointer (some ⟨sb, 0, none⟩)] 23)) (.string (strOf nm)) 9)
    simp only [World.size_alloc] at this
    exact this
  have b2 : (((w.alloc (.cells #[.pointer (some ⟨sb, 0, none⟩)] 23)).alloc (.cells #[.string (strOf nm)] 9)).alloc (.cells #[.slice pa pn pc] 31)).cell? ⟨w.heap.size + 1 + 1, 0, none⟩ = some (.slice pa pn pc) := by
    have := cell_new1 ((w.alloc (.cells #[.pointer (some ⟨sb, 0, none⟩)] 23)).alloc (.cells #[.string (strOf nm)] 9)) (.slice pa pn pc) 31
    simp only [World.size_alloc] at this
    exact this
  have hs0 : (((w.alloc (.cells #[.pointer (some ⟨sb, 0, none⟩)] 23)).alloc (.cells #[.string (strOf nm)] 9)).alloc (.cells #[.slice pa pn pc] 31)).heap.size = w.heap.size + 3 := by simp
  have HB0 := show Hid _ from (⟨b0, b1, b2⟩ : (((w.alloc (.cells #[.pointer (some ⟨sb, 0, none⟩)] 23)).alloc (.cells #[.string (strOf nm)] 9)).alloc (.cells #[.slice pa pn pc] 31)).cell? ⟨w.heap.size, 0, none⟩ = some (.pointer (some ⟨sb, 0, none⟩)) ∧ (((w.alloc (.cells #[.pointer (some ⟨sb, 0, none⟩)] 23)).alloc (.cells #[.string (strOf nm)] 9)).alloc (.cells #[.slice pa pn pc] 31)).cell? ⟨w.heap.size + 1, 0, none⟩ = some (.string (strOf nm)) ∧ (((w.alloc (.cells #[.pointer (some ⟨sb, 0, none⟩)] 23)).alloc (.cells #[.string (strOf nm)] 9)).alloc (.cells #[.slice pa pn pc] 31)).cell? ⟨w.heap.size + 1 + 1, 0, none⟩ = some (.slice pa pn pc))
  clear hdr hd hF hA0 hgc hgf hown hl hr hn b0 b1 b2
  go_enter Try.func24, Try.ntmps24
  go_wp2_with (go_at_call 42; refine Calls.mono C.out ?_; rintro e w1 ⟨rfl, hb⟩; have HB := show Hid (After _ w1) from hb; have kd := fun o : Obj => Lib.cell?_alloc_some o ((Below.cell hb (p := ⟨w.heap.size, 0, none⟩) (by simp <;> omega)).trans HB0.out.1); clear hb)
  have hA1 : After w w1 := After.trans HA0.out HB.out
  obtain ⟨V, hV⟩ : ∃ V, w1.alloc (.cells #[.slice ao n c, .int .i64 (f0.safe : Int)] 77) = V := ⟨_, rfl⟩
  have hs1 : w.heap.size + 3 ≤ w1.heap.size := by have := HB.out.size; omega
  have hAV : After w V := by rw [← hV]; exact after_alloc hA1 _
  have hVs : V.heap.size = w1.heap.size + 1 := by rw [← hV]; simp
  have hAV0 : After (((w.alloc (.cells #[.pointer (some ⟨sb, 0, none⟩)] 23)).alloc (.cells #[.string (strOf nm)] 9)).alloc (.cells #[.slice pa pn pc] 31)) V := by rw [← hV]; exact after_alloc HB.out _
  have kf0 : V.cell? ⟨w1.heap.size, 0, none⟩ = some (.slice ao n c) := by rw [← hV]; exact (RowIs.new w1 77 [.slice ao n c, .int .i64 (f0.safe : Int)]).cell (j := 0) rfl
  have kf1 : V.cell? ⟨w1.heap.size, 1, none⟩ = some (.int .i64 (f0.safe : Int)) := by rw [← hV]; exact (RowIs.new w1 77 [.slice ao n c, .int .i64 (f0.safe : Int)]).cell (j := 1) rfl
  have k0 : V.cell? ⟨w.heap.size, 0, none⟩ = some (.pointer (some ⟨sb, 0, none⟩)) := (Below.cell hAV0 (p := ⟨w.heap.size, 0, none⟩) (by simp <;> omega)).trans HB0.out.1
  have k1 : V.cell? ⟨w.heap.size + 1, 0, none⟩ = some (.string (strOf nm)) := (Below.cell hAV0 (p := ⟨w.heap.size + 1, 0, none⟩) (by simp <;> omega)).trans HB0.out.2.1
  have k2 : V.cell? ⟨w.heap.size + 1 + 1, 0, none⟩ = some (.slice pa pn pc) := (Below.cell hAV0 (p := ⟨w.heap.size + 1 + 1, 0, none⟩) (by simp <;> omega)).trans HB0.out.2.2
  have HDV := show Hid (Dr V F sb mb S cs) from HR.out.after hAV
  have n0 : ¬ F (w.heap.size) := fun e => by have := HF.out _ e; omega
  have n1 : ¬ F (w.heap.size + 1) := fun e => by have := HF.out _ e; omega
  have n2 : ¬ F (w.heap.size + 1 + 1) := fun e => by have := HF.out _ e; omega
  have nf : ¬ F w1.heap.size := fun e => by have := HF.out _ e; omega
  have hFV : ∀ i, F i → i < V.heap.size := fun i hi => by have := HF.out i hi; omega
  rw [hV]
  clear hV kd
  have hc0 := HDV.out.row.cells68.c0
  refine wp_region_noPanic ?_
  refine wp_region_held_drew (S := After V) (by kernel_rfl) (After.drew (After.refl V)) ?_
  intro hS0
  refine tk 0 18 (.slice pa pn pc) (fuel := 9) rfl (by kernel_rfl) (by kernel_rfl) (by kernel_rfl) (by kernel_rfl) noPanic_false (by kernel_rfl) (fun W hW => x_ld31 (x := .tmp 5) (g := w.heap.size + 1 + 1) (p := 0) (by kernel_rfl) (by kernel_rfl) ((Below.cell hW (p := ⟨w.heap.size + 1 + 1, 0, none⟩) (block_lt_of_cell k2)).trans k2)) hS0 ?_
  refine tk 1 19 (.int .i64 (pn : Int)) (fuel := 8) rfl (by kernel_rfl) (by kernel_rfl) (by kernel_rfl) (by kernel_rfl) noPanic_false (by kernel_rfl) (fun _ _ => by kernel_rfl) hS0 ?_
  refine tk 2 20 (.pointer (some ⟨sb, 0, none⟩)) (fuel := 7) rfl (by kernel_rfl) (by kernel_rfl) (by kernel_rfl) (by kernel_rfl) noPanic_false (by kernel_rfl) (fun W hW => x_ld23 (x := .tmp 3) (g := w.heap.size) (p := 0) (by kernel_rfl) (by kernel_rfl) ((Below.cell hW (p := ⟨w.heap.size, 0, none⟩) (block_lt_of_cell k0)).trans k0)) hS0 ?_
  refine tk 3 21 (.pointer (some ⟨sb, 0, none⟩)) (fuel := 6) rfl (by kernel_rfl) (by kernel_rfl) (by kernel_rfl) (by kernel_rfl) noPanic_false (by kernel_rfl) (fun _ _ => by kernel_rfl) hS0 ?_
  refine tk 4 22 (.pointer (some ⟨sb, 0, none⟩)) (fuel := 5) rfl (by kernel_rfl) (by kernel_rfl) (by kernel_rfl) (by kernel_rfl) noPanic_false (by kernel_rfl) (fun _ _ => by kernel_rfl) hS0 ?_
  refine tk 5 23 (.int .i64 (S.most : Int)) (fuel := 4) rfl (by kernel_rfl) (by kernel_rfl) (by kernel_rfl) (by kernel_rfl) noPanic_false (by kernel_rfl) (fun W hW => x_ld3 (x := .tmp 22) (g := sb) (p := 0) (by kernel_rfl) (by kernel_rfl) ((Below.cell hW (p := ⟨sb, 0, none⟩) (block_lt_of_cell hc0)).trans hc0)) hS0 ?_
  refine tk 6 24 (.pointer (some ⟨sb, 0, none⟩)) (fuel := 3) rfl (by kernel_rfl) (by kernel_rfl) (by kernel_rfl) (by kernel_rfl) noPanic_false (by kernel_rfl) (fun W hW => x_ld23 (x := .tmp 3) (g := w.heap.size) (p := 0) (by kernel_rfl) (by kernel_rfl) ((Below.cell hW (p := ⟨w.heap.size, 0, none⟩) (block_lt_of_cell k0)).trans k0)) hS0 ?_
  refine tkCallS 7 25 26 #[.pointer (some ⟨sb, 0, none⟩)] (fun v w' => v = .int .i64 (used S.files : Int) ∧ After V.drew w') (fuel := 2) rfl (by kernel_rfl) (by kernel_rfl) (by kernel_rfl) (fun _ => by kernel_rfl) ((used_any F sb S hS V.drew (HDV.out.after (After.drew (After.refl V))).disk).mono (fun e w' ⟨h1, h2⟩ => ⟨_, h1, rfl, h2⟩)) ?_
  intro v1 w2 ⟨hv1, hu2⟩
  subst hv1
  have hA2 : After V w2 := After.trans (After.drew (After.refl V)) hu2
  refine ⟨hA2, ?_⟩
  refine tk 8 26 (.int .i64 ((S.most - used S.files : Nat) : Int)) (fuel := 1) rfl (by kernel_rfl) (by kernel_rfl) (by kernel_rfl) (by kernel_rfl) noPanic_false (by kernel_rfl) (fun _ _ => x_sub (x := .tmp 23) (y := .tmp 25) (by kernel_rfl) (by kernel_rfl) (by kernel_rfl) hS.used hS.most) hA2 ?_
  refine tk 9 27 (.bool true) (fuel := 0) rfl (by kernel_rfl) (by kernel_rfl) (by kernel_rfl) (by kernel_rfl) noPanic_false (by kernel_rfl) (fun _ _ => x_gtrt (t := 3) (x := .tmp 19) (y := .tmp 26) (by kernel_rfl) (by kernel_rfl) (by kernel_rfl) hfull) hA2 ?_
  refine wpAnyH_done (by kernel_rfl) (NoPanic.normal ?_) _
  have HA2 : Hid (After w w2) := After.trans hAV hA2
  clear hc0 kf0 kf1 k0 k1 k2
  go_simp
  go_wp2
  go_ret
  exact SPost.same HD.out HF.out HA2.out
set_option maxRecDepth 100000 in
set_option maxHeartbeats 1600000 in
theorem append_go (F : Nat → Prop) (sb : Nat) (S : Dk) (hS : Ok S) (hst : S.steps < 4611686018427387904) (nm : Nm) (hl : nm.length ≤ maxLen) (pa : Option Addr) (pn pc : Nat) (w : World) (hd : DiskAt w F sb S) (hF : ∀ i, F i → i < w.heap.size) (hr : findE S nm = 0) (f : Fl) (hgf0 : fget nm S.files = some f) (news : List UInt8) (hpn : news.length = pn) (hpa : BytesAt w pa news) (hpf : news ≠ [] → ∀ a, pa = some a → ¬ F a.block) (hfull : pn ≤ S.most - used S.files) :
    Calls Try.prog 24 #[.pointer (some ⟨sb, 0, none⟩), .string (strOf nm), .slice pa pn pc] w (SPost F w sb (stepE S) (stepS S true (fput nm ⟨f.data ++ news, f.safe⟩ S.files))) := by
  obtain ⟨mb, cs, hdr⟩ := hd.dr
  have HR : Hid (Dr w F sb mb S cs) := hdr
  have HD : Hid (DiskAt w F sb S) := hd
  have HF : Hid (∀ i, F i → i < w.heap.size) := hF
  have HL : Hid (nm.length ≤ maxLen) := hl
  have hA0 : After w (((w.alloc (.cells #[.pointer (some ⟨sb, 0, none⟩)] 23)).alloc (.cells #[.string (strOf nm)] 9)).alloc (.cells #[.slice pa pn pc] 31)) := after_alloc (after_alloc (after_alloc (After.refl w) _) _) _
  have HA0 := show Hid (After _ _) from hA0
  obtain ⟨h1r, h2r⟩ := findE_ok hr
  obtain ⟨ao, c, f0, hgc, hgf, hown, hat, hle⟩ := hdr.get h2r
  obtain rfl : f0 = f := by have := hgf.symm.trans hgf0; simpa using this
  have hl32 := (refuse_len h1r (List.mem_singleton.2 rfl)).2
  have hub : f0.data.length ≤ 16777216 := by have h1 := used_mem (fget_mem hgf); have h2 := hS.used; have h3 := hS.most; simp only at h1; omega
  have HU : Hid (used S.files ≤ S.most) := hS.used
  obtain ⟨n, hn⟩ : ∃ n, f0.data.length = n := ⟨_, rfl⟩
  have HN : Hid (f0.data.length = n) := hn
  have hcl : cs.length ≤ 64 := by have := hS.count; rw [← hdr.files] at this; simpa [fls] using this
  rw [hn] at hgc hub hle
  have HGC := show Hid _ from hgc
  have HGF := show Hid _ from hgf
  have C := show Hid _ from find_ok sb mb S cs nm hl _ (hdr.after hA0).toDs h1r ao n c _ (vals_get hgc)
  have b0 : (((w.alloc (.cells #[.pointer (some ⟨sb, 0, none⟩)] 23)).alloc (.cells #[.string (strOf nm)] 9)).alloc (.cells #[.slice pa pn pc] 31)).cell? ⟨w.heap.size, 0, none⟩ = some (.pointer (some ⟨sb, 0, none⟩)) := by
    have := Lib.cell?_alloc_some (.cells #[.slice pa pn pc] 31) (Lib.cell?_alloc_some (.cells #[.string (strOf nm)] 9) (cell_new1 w (.pointer (some ⟨sb, 0, none⟩)) 23))
    exact this
  have b1 : (((w.alloc (.cells #[.pointer (some ⟨sb, 0, none⟩)] 23)).alloc (.cells #[.string (strOf nm)] 9)).alloc (.cells #[.slice pa pn pc] 31)).cell? ⟨w.heap.size + 1, 0, none⟩ = some (.string (strOf nm)) := by
    have := Lib.cell?_alloc_some (.cells #[.slice pa pn pc] 31) (cell_new1 (w.alloc (.cells #[.pointer (some ⟨sb, 0, none⟩)] 23)) (.string (strOf nm)) 9)
    simp only [World.size_alloc] at this
    exact this
  have b2 : (((w.alloc (.cells #[.pointer (some ⟨sb, 0, none⟩)] 23)).alloc (.cells #[.string (strOf nm)] 9)).alloc (.cells #[.slice pa pn pc] 31)).cell? ⟨w.heap.size + 1 + 1, 0, none⟩ = some (.slice pa pn pc) := by
    have := cell_new1 ((w.alloc (.cells #[.pointer (some ⟨sb, 0, none⟩)] 23)).alloc (.cells #[.string (strOf nm)] 9)) (.slice pa pn pc) 31
    simp only [World.size_alloc] at this
    exact this
  have hs0 : (((w.alloc (.cells #[.pointer (some ⟨sb, 0, none⟩)] 23)).alloc (.cells #[.string (strOf nm)] 9)).alloc (.cells #[.slice pa pn pc] 31)).heap.size = w.heap.size + 3 := by simp
  have HB0 := show Hid _ from (⟨b0, b1, b2⟩ : (((w.alloc (.cells #[.pointer (some ⟨sb, 0, none⟩)] 23)).alloc (.cells #[.string (strOf nm)] 9)).alloc (.cells #[.slice pa pn pc] 31)).cell? ⟨w.heap.size, 0, none⟩ = some (.pointer (some ⟨sb, 0, none⟩)) ∧ (((w.alloc (.cells #[.pointer (some ⟨sb, 0, none⟩)] 23)).alloc (.cells #[.string (strOf nm)] 9)).alloc (.cells #[.slice pa pn pc] 31)).cell? ⟨w.heap.size + 1, 0, none⟩ = some (.string (strOf nm)) ∧ (((w.alloc (.cells #[.pointer (some ⟨sb, 0, none⟩)] 23)).alloc (.cells #[.string (strOf nm)] 9)).alloc (.cells #[.slice pa pn pc] 31)).cell? ⟨w.heap.size + 1 + 1, 0, none⟩ = some (.slice pa pn pc))
  clear hdr hd hF hA0 hgc hgf hown hl hr hn b0 b1 b2
  go_enter Try.func24, Try.ntmps24
  go_wp2_with (go_at_call 42; refine Calls.mono C.out ?_; rintro e w1 ⟨rfl, hb⟩; have HB := show Hid (After _ w1) from hb; have kd := fun o : Obj => Lib.cell?_alloc_some o ((Below.cell hb (p := ⟨w.heap.size, 0, none⟩) (by simp <;> omega)).trans HB0.out.1); clear hb)
  have hA1 : After w w1 := After.trans HA0.out HB.out
  obtain ⟨V, hV⟩ : ∃ V, w1.alloc (.cells #[.slice ao n c, .int .i64 (f0.safe : Int)] 77) = V := ⟨_, rfl⟩
  have hs1 : w.heap.size + 3 ≤ w1.heap.size := by have := HB.out.size; omega
  have hAV : After w V := by rw [← hV]; exact after_alloc hA1 _
  have hVs : V.heap.size = w1.heap.size + 1 := by rw [← hV]; simp
  have hAV0 : After (((w.alloc (.cells #[.pointer (some ⟨sb, 0, none⟩)] 23)).alloc (.cells #[.string (strOf nm)] 9)).alloc (.cells #[.slice pa pn pc] 31)) V := by rw [← hV]; exact after_alloc HB.out _
  have kf0 : V.cell? ⟨w1.heap.size, 0, none⟩ = some (.slice ao n c) := by rw [← hV]; exact (RowIs.new w1 77 [.slice ao n c, .int .i64 (f0.safe : Int)]).cell (j := 0) rfl
  have kf1 : V.cell? ⟨w1.heap.size, 1, none⟩ = some (.int .i64 (f0.safe : Int)) := by rw [← hV]; exact (RowIs.new w1 77 [.slice ao n c, .int .i64 (f0.safe : Int)]).cell (j := 1) rfl
  have k0 : V.cell? ⟨w.heap.size, 0, none⟩ = some (.pointer (some ⟨sb, 0, none⟩)) := (Below.cell hAV0 (p := ⟨w.heap.size, 0, none⟩) (by simp <;> omega)).trans HB0.out.1
  have k1 : V.cell? ⟨w.heap.size + 1, 0, none⟩ = some (.string (strOf nm)) := (Below.cell hAV0 (p := ⟨w.heap.size + 1, 0, none⟩) (by simp <;> omega)).trans HB0.out.2.1
  have k2 : V.cell? ⟨w.heap.size + 1 + 1, 0, none⟩ = some (.slice pa pn pc) := (Below.cell hAV0 (p := ⟨w.heap.size + 1 + 1, 0, none⟩) (by simp <;> omega)).trans HB0.out.2.2
  have HDV := show Hid (Dr V F sb mb S cs) from HR.out.after hAV
  have n0 : ¬ F (w.heap.size) := fun e => by have := HF.out _ e; omega
  have n1 : ¬ F (w.heap.size + 1) := fun e => by have := HF.out _ e; omega
  have n2 : ¬ F (w.heap.size + 1 + 1) := fun e => by have := HF.out _ e; omega
  have nf : ¬ F w1.heap.size := fun e => by have := HF.out _ e; omega
  have hFV : ∀ i, F i → i < V.heap.size := fun i hi => by have := HF.out i hi; omega
  rw [hV]
  clear hV kd
  have hc0 := HDV.out.row.cells68.c0
  refine wp_region_noPanic ?_
  refine wp_region_held_drew (S := After V) (by kernel_rfl) (After.drew (After.refl V)) ?_
  intro hS0
  refine tk 0 18 (.slice pa pn pc) (fuel := 9) rfl (by kernel_rfl) (by kernel_rfl) (by kernel_rfl) (by kernel_rfl) noPanic_false (by kernel_rfl) (fun W hW => x_ld31 (x := .tmp 5) (g := w.heap.size + 1 + 1) (p := 0) (by kernel_rfl) (by kernel_rfl) ((Below.cell hW (p := ⟨w.heap.size + 1 + 1, 0, none⟩) (block_lt_of_cell k2)).trans k2)) hS0 ?_
  refine tk 1 19 (.int .i64 (pn : Int)) (fuel := 8) rfl (by kernel_rfl) (by kernel_rfl) (by kernel_rfl) (by kernel_rfl) noPanic_false (by kernel_rfl) (fun _ _ => by kernel_rfl) hS0 ?_
  refine tk 2 20 (.pointer (some ⟨sb, 0, none⟩)) (fuel := 7) rfl (by kernel_rfl) (by kernel_rfl) (by kernel_rfl) (by kernel_rfl) noPanic_false (by kernel_rfl) (fun W hW => x_ld23 (x := .tmp 3) (g := w.heap.size) (p := 0) (by kernel_rfl) (by kernel_rfl) ((Below.cell hW (p := ⟨w.heap.size, 0, none⟩) (block_lt_of_cell k0)).trans k0)) hS0 ?_
  refine tk 3 21 (.pointer (some ⟨sb, 0, none⟩)) (fuel := 6) rfl (by kernel_rfl) (by kernel_rfl) (by kernel_rfl) (by kernel_rfl) noPanic_false (by kernel_rfl) (fun _ _ => by kernel_rfl) hS0 ?_
  refine tk 4 22 (.pointer (some ⟨sb, 0, none⟩)) (fuel := 5) rfl (by kernel_rfl) (by kernel_rfl) (by kernel_rfl) (by kernel_rfl) noPanic_false (by kernel_rfl) (fun _ _ => by kernel_rfl) hS0 ?_
  refine tk 5 23 (.int .i64 (S.most : Int)) (fuel := 4) rfl (by kernel_rfl) (by kernel_rfl) (by kernel_rfl) (by kernel_rfl) noPanic_false (by kernel_rfl) (fun W hW => x_ld3 (x := .tmp 22) (g := sb) (p := 0) (by kernel_rfl) (by kernel_rfl) ((Below.cell hW (p := ⟨sb, 0, none⟩) (block_lt_of_cell hc0)).trans hc0)) hS0 ?_
  refine tk 6 24 (.pointer (some ⟨sb, 0, none⟩)) (fuel := 3) rfl (by kernel_rfl) (by kernel_rfl) (by kernel_rfl) (by kernel_rfl) noPanic_false (by kernel_rfl) (fun W hW => x_ld23 (x := .tmp 3) (g := w.heap.size) (p := 0) (by kernel_rfl) (by kernel_rfl) ((Below.cell hW (p := ⟨w.heap.size, 0, none⟩) (block_lt_of_cell k0)).trans k0)) hS0 ?_
  refine tkCallS 7 25 26 #[.pointer (some ⟨sb, 0, none⟩)] (fun v w' => v = .int .i64 (used S.files : Int) ∧ After V.drew w') (fuel := 2) rfl (by kernel_rfl) (by kernel_rfl) (by kernel_rfl) (fun _ => by kernel_rfl) ((used_any F sb S hS V.drew (HDV.out.after (After.drew (After.refl V))).disk).mono (fun e w' ⟨h1, h2⟩ => ⟨_, h1, rfl, h2⟩)) ?_
  intro v1 w2 ⟨hv1, hu2⟩
  subst hv1
  have hA2 : After V w2 := After.trans (After.drew (After.refl V)) hu2
  refine ⟨hA2, ?_⟩
  refine tk 8 26 (.int .i64 ((S.most - used S.files : Nat) : Int)) (fuel := 1) rfl (by kernel_rfl) (by kernel_rfl) (by kernel_rfl) (by kernel_rfl) noPanic_false (by kernel_rfl) (fun _ _ => x_sub (x := .tmp 23) (y := .tmp 25) (by kernel_rfl) (by kernel_rfl) (by kernel_rfl) hS.used hS.most) hA2 ?_
  refine tk 9 27 (.bool false) (fuel := 0) rfl (by kernel_rfl) (by kernel_rfl) (by kernel_rfl) (by kernel_rfl) noPanic_false (by kernel_rfl) (fun _ _ => x_gtr (t := 3) (x := .tmp 19) (y := .tmp 26) (by kernel_rfl) (by kernel_rfl) (by kernel_rfl) hfull) hA2 ?_
  refine wpAnyH_done (by kernel_rfl) (NoPanic.normal ?_) _
  have hAw : After w w2 := After.trans hAV hA2
  have kd : w2.cell? ⟨w.heap.size, 0, none⟩ = some (.pointer (some ⟨sb, 0, none⟩)) := (Below.cell hA2 (p := ⟨w.heap.size, 0, none⟩) (block_lt_of_cell k0)).trans k0
  have hbig : f0.data.length + news.length ≤ 16777216 := by have h1 := used_mem (fget_mem HGF.out); have h2 := hS.most; have h3 := HU.out; simp only at h1; omega
  have CS := show Hid _ from step_any F sb mb S cs true 52 #[.pointer (some ⟨w1.heap.size, 0, none⟩), .pointer (some ⟨w.heap.size + 1 + 1, 0, none⟩), .pointer (some ⟨w.heap.size, 0, none⟩), .pointer (some ⟨w.heap.size + 1, 0, none⟩)] (fput nm ⟨f0.data ++ news, f0.safe⟩ S.files) w2 hst hS (HDV.out.after hA2) (fun i hi => by have := hFV i hi; have := hA2.size; omega)
    (do_append F sb mb S cs w2 nm hl32 w.heap.size (w.heap.size + 1) kd ((Below.cell hA2 (p := ⟨w.heap.size + 1, 0, none⟩) (block_lt_of_cell k1)).trans k1) n0 n1 (by omega) w1.heap.size n c ao f0 ((Below.cell hA2 (p := ⟨w1.heap.size, 0, none⟩) (block_lt_of_cell kf0)).trans kf0) ((Below.cell hA2 (p := ⟨w1.heap.size, 1, none⟩) (block_lt_of_cell kf1)).trans kf1) nf HGC.out
      (w.heap.size + 1 + 1) pn pc pa news ((Below.cell hA2 (p := ⟨w.heap.size + 1 + 1, 0, none⟩) (block_lt_of_cell k2)).trans k2) n2 hpn (hpa.after hAw) hpf hbig) (fun W => by simp [go_sem])
  have HA2 : Hid (After w w2) := hAw
  clear hc0 kf0 kf1 k0 k1 k2 hAw hA2 hAV hAV0 hFV hS0 hu2 hpa hpf hA1
  go_simp
  go_wp2_with (go_at_call 48; refine Calls.mono CS.out ?_; rintro e w3 ⟨rfl, t1, d1⟩)
  have hAs := HA2.out.size
  go_ret
  refine ⟨rfl, (Turn.of_after HA2.out).trans t1, d1.mono (fun i hi => ?_)⟩
  rcases hi with hi | ⟨h1, h2⟩
  · exact Or.inl hi
  · exact Or.inr ⟨by omega, h2⟩
set_option maxRecDepth 100000 in
set_option maxHeartbeats 1600000 in
theorem cut_nil (nm : Nm) (k : Int) (w : World) : Calls Try.prog 33 #[.pointer none, .string (strOf nm), .int .i64 k] w fun e w' => e = .returned (.int .i64 1) ∧ After w w' := by
  go_enter Try.func33, Try.ntmps33
  go_wp2_with (go_at_call 42; refine (find_nil nm _).mono ?_; unfold zF; rintro e w1 ⟨rfl, hb⟩; have HB := show Hid (After _ w1) from hb; clear hb)
  go_ret
  exact ⟨rfl, after_alloc (After.trans (after_alloc (after_alloc (after_alloc (After.refl w) _) _) _) HB.out) _⟩
set_option maxRecDepth 100000 in
set_option maxHeartbeats 1600000 in
theorem cut_bad (F : Nat → Prop) (sb : Nat) (S : Dk) (nm : Nm) (hl : nm.length ≤ maxLen) (k : Int) (w : World) (hd : DiskAt w F sb S) (hF : ∀ i, F i → i < w.heap.size) (r : Nat) (hr : findE S nm = r) (h0 : ¬ r = 0) :
    Calls Try.prog 33 #[.pointer (some ⟨sb, 0, none⟩), .string (strOf nm), .int .i64 k] w (SPost F w sb r S) := by
  obtain ⟨mb, cs, hdr⟩ := hd.dr
  have HR : Hid (Dr w F sb mb S cs) := hdr
  have HD : Hid (DiskAt w F sb S) := hd
  have HF : Hid (∀ i, F i → i < w.heap.size) := hF
  have HL : Hid (nm.length ≤ maxLen) := hl
  have hA0 : After w (((w.alloc (.cells #[.pointer (some ⟨sb, 0, none⟩)] 23)).alloc (.cells #[.string (strOf nm)] 9)).alloc (.cells #[.int .i64 k] 3)) := after_alloc (after_alloc (after_alloc (After.refl w) _) _) _
  have HA0 := show Hid (After _ _) from hA0
  have C := show Hid _ from find_bad sb mb S cs nm hl _ (hdr.after hA0).toDs r hr h0
  unfold zF at C
  have h0' : ((r : Int) != 0) = true := by simp; omega
  clear hdr hd hF hA0 hl hr
  go_enter Try.func33, Try.ntmps33
  go_wp2_with (go_at_call 42; refine Calls.mono C.out ?_; rintro e w1 ⟨rfl, hb⟩; have HB := show Hid (After _ w1) from hb; clear hb)
  go_ret
  exact SPost.same HD.out HF.out (after_alloc (After.trans HA0.out HB.out) _)
set_option maxRecDepth 100000 in
set_option maxHeartbeats 1600000 in
theorem cut_neg (F : Nat → Prop) (sb : Nat) (S : Dk) (hS : Ok S) (nm : Nm) (hl : nm.length ≤ maxLen) (k : Int) (w : World) (hd : DiskAt w F sb S) (hF : ∀ i, F i → i < w.heap.size) (hr : findE S nm = 0) (f : Fl) (hgf0 : fget nm S.files = some f) (hk : k < 0) :
    Calls Try.prog 33 #[.pointer (some ⟨sb, 0, none⟩), .string (strOf nm), .int .i64 k] w (SPost F w sb 2 S) := by
  obtain ⟨mb, cs, hdr⟩ := hd.dr
  have HR : Hid (Dr w F sb mb S cs) := hdr
  have HD : Hid (DiskAt w F sb S) := hd
  have HF : Hid (∀ i, F i → i < w.heap.size) := hF
  have HL : Hid (nm.length ≤ maxLen) := hl
  have hA0 : After w (((w.alloc (.cells #[.pointer (some ⟨sb, 0, none⟩)] 23)).alloc (.cells #[.string (strOf nm)] 9)).alloc (.cells #[.int .i64 k] 3)) := after_alloc (after_alloc (after_alloc (After.refl w) _) _) _
  have HA0 := show Hid (After _ _) from hA0
  obtain ⟨h1r, h2r⟩ := findE_ok hr
  obtain ⟨ao, c, f0, hgc, hgf, hown, hat, hle⟩ := hdr.get h2r
  obtain rfl : f0 = f := by have := hgf.symm.trans hgf0; simpa using this
  have hl32 := (refuse_len h1r (List.mem_singleton.2 rfl)).2
  have hub : f0.data.length ≤ 16777216 := by have h1 := used_mem (fget_mem hgf); have h2 := hS.used; have h3 := hS.most; simp only at h1; omega
  have HU : Hid (used S.files ≤ S.most) := hS.used
  obtain ⟨n, hn⟩ : ∃ n, f0.data.length = n := ⟨_, rfl⟩
  have HN : Hid (f0.data.length = n) := hn
  have hcl : cs.length ≤ 64 := by have := hS.count; rw [← hdr.files] at this; simpa [fls] using this
  rw [hn] at hgc hub hle
  have HGC := show Hid _ from hgc
  have HGF := show Hid _ from hgf
  have C := show Hid _ from find_ok sb mb S cs nm hl _ (hdr.after hA0).toDs h1r ao n c _ (vals_get hgc)
  have b0 : (((w.alloc (.cells #[.pointer (some ⟨sb, 0, none⟩)] 23)).alloc (.cells #[.string (strOf nm)] 9)).alloc (.cells #[.int .i64 k] 3)).cell? ⟨w.heap.size, 0, none⟩ = some (.pointer (some ⟨sb, 0, none⟩)) := by
    have := Lib.cell?_alloc_some (.cells #[.int .i64 k] 3) (Lib.cell?_alloc_some (.cells #[.string (strOf nm)] 9) (cell_new1 w (.pointer (some ⟨sb, 0, none⟩)) 23))
    exact this
  have b1 : (((w.alloc (.cells #[.pointer (some ⟨sb, 0, none⟩)] 23)).alloc (.cells #[.string (strOf nm)] 9)).alloc (.cells #[.int .i64 k] 3)).cell? ⟨w.heap.size + 1, 0, none⟩ = some (.string (strOf nm)) := by
    have := Lib.cell?_alloc_some (.cells #[.int .i64 k] 3) (cell_new1 (w.alloc (.cells #[.pointer (some ⟨sb, 0, none⟩)] 23)) (.string (strOf nm)) 9)
    simp only [World.size_alloc] at this
    exact this
  have b2 : (((w.alloc (.cells #[.pointer (some ⟨sb, 0, none⟩)] 23)).alloc (.cells #[.string (strOf nm)] 9)).alloc (.cells #[.int .i64 k] 3)).cell? ⟨w.heap.size + 1 + 1, 0, none⟩ = some (.int .i64 k) := by
    have := cell_new1 ((w.alloc (.cells #[.pointer (some ⟨sb, 0, none⟩)] 23)).alloc (.cells #[.string (strOf nm)] 9)) (.int .i64 k) 3
    simp only [World.size_alloc] at this
    exact this
  have hs0 : (((w.alloc (.cells #[.pointer (some ⟨sb, 0, none⟩)] 23)).alloc (.cells #[.string (strOf nm)] 9)).alloc (.cells #[.int .i64 k] 3)).heap.size = w.heap.size + 3 := by simp
  have HB0 := show Hid _ from (⟨b0, b1, b2⟩ : (((w.alloc (.cells #[.pointer (some ⟨sb, 0, none⟩)] 23)).alloc (.cells #[.string (strOf nm)] 9)).alloc (.cells #[.int .i64 k] 3)).cell? ⟨w.heap.size, 0, none⟩ = some (.pointer (some ⟨sb, 0, none⟩)) ∧ (((w.alloc (.cells #[.pointer (some ⟨sb, 0, none⟩)] 23)).alloc (.cells #[.string (strOf nm)] 9)).alloc (.cells #[.int .i64 k] 3)).cell? ⟨w.heap.size + 1, 0, none⟩ = some (.string (strOf nm)) ∧ (((w.alloc (.cells #[.pointer (some ⟨sb, 0, none⟩)] 23)).alloc (.cells #[.string (strOf nm)] 9)).alloc (.cells #[.int .i64 k] 3)).cell? ⟨w.heap.size + 1 + 1, 0, none⟩ = some (.int .i64 k))
  clear hdr hd hF hA0 hgc hgf hown hl hr hn b0 b1 b2
  go_enter Try.func33, Try.ntmps33
  go_wp2_with (go_at_call 42; refine Calls.mono C.out ?_; rintro e w1 ⟨rfl, hb⟩; have HB := show Hid (After _ w1) from hb; have kd := fun o : Obj => Lib.cell?_alloc_some o ((Below.cell hb (p := ⟨w.heap.size, 0, none⟩) (by simp <;> omega)).trans HB0.out.1); have kk := fun o : Obj => Lib.cell?_alloc_some o ((Below.cell hb (p := ⟨w.heap.size + 1 + 1, 0, none⟩) (by simp <;> omega)).trans HB0.out.2.2); clear hb)
  go_ret
  exact SPost.same HD.out HF.out (after_alloc (After.trans HA0.out HB.out) _)
set_option maxRecDepth 100000 in
set_option maxHeartbeats 1600000 in
theorem cut_far (F : Nat → Prop) (sb : Nat) (S : Dk) (hS : Ok S) (nm : Nm) (hl : nm.length ≤ maxLen) (k : Int) (w : World) (hd : DiskAt w F sb S) (hF : ∀ i, F i → i < w.heap.size) (hr : findE S nm = 0) (f : Fl) (hgf0 : fget nm S.files = some f) (hk : (f.data.length : Int) < k) :
    Calls Try.prog 33 #[.pointer (some ⟨sb, 0, none⟩), .string (strOf nm), .int .i64 k] w (SPost F w sb 2 S) := by
  obtain ⟨mb, cs, hdr⟩ := hd.dr
  have HR : Hid (Dr w F sb mb S cs) := hdr
  have HD : Hid (DiskAt w F sb S) := hd
  have HF : Hid (∀ i, F i → i < w.heap.size) := hF
  have HL : Hid (nm.length ≤ maxLen) := hl
  have hA0 : After w (((w.alloc (.cells #[.pointer (some ⟨sb, 0, none⟩)] 23)).alloc (.cells #[.string (strOf nm)] 9)).alloc (.cells #[.int .i64 k] 3)) := after_alloc (after_alloc (after_alloc (After.refl w) _) _) _
  have HA0 := show Hid (After _ _) from hA0
  obtain ⟨h1r, h2r⟩ := findE_ok hr
  obtain ⟨ao, c, f0, hgc, hgf, hown, hat, hle⟩ := hdr.get h2r
  obtain rfl : f0 = f := by have := hgf.symm.trans hgf0; simpa using this
  have hl32 := (refuse_len h1r (List.mem_singleton.2 rfl)).2
  have hub : f0.data.length ≤ 16777216 := by have h1 := used_mem (fget_mem hgf); have h2 := hS.used; have h3 := hS.most; simp only at h1; omega
  have HU : Hid (used S.files ≤ S.most) := hS.used
  obtain ⟨n, hn⟩ : ∃ n, f0.data.length = n := ⟨_, rfl⟩
  have HN : Hid (f0.data.length = n) := hn
  have hcl : cs.length ≤ 64 := by have := hS.count; rw [← hdr.files] at this; simpa [fls] using this
  rw [hn] at hgc hub hle
  have HGC := show Hid _ from hgc
  have HGF := show Hid _ from hgf
  have C := show Hid _ from find_ok sb mb S cs nm hl _ (hdr.after hA0).toDs h1r ao n c _ (vals_get hgc)
  have b0 : (((w.alloc (.cells #[.pointer (some ⟨sb, 0, none⟩)] 23)).alloc (.cells #[.string (strOf nm)] 9)).alloc (.cells #[.int .i64 k] 3)).cell? ⟨w.heap.size, 0, none⟩ = some (.pointer (some ⟨sb, 0, none⟩)) := by
    have := Lib.cell?_alloc_some (.cells #[.int .i64 k] 3) (Lib.cell?_alloc_some (.cells #[.string (strOf nm)] 9) (cell_new1 w (.pointer (some ⟨sb, 0, none⟩)) 23))
    exact this
  have b1 : (((w.alloc (.cells #[.pointer (some ⟨sb, 0, none⟩)] 23)).alloc (.cells #[.string (strOf nm)] 9)).alloc (.cells #[.int .i64 k] 3)).cell? ⟨w.heap.size + 1, 0, none⟩ = some (.string (strOf nm)) := by
    have := Lib.cell?_alloc_some (.cells #[.int .i64 k] 3) (cell_new1 (w.alloc (.cells #[.pointer (some ⟨sb, 0, none⟩)] 23)) (.string (strOf nm)) 9)
    simp only [World.size_alloc] at this
    exact this
  have b2 : (((w.alloc (.cells #[.pointer (some ⟨sb, 0, none⟩)] 23)).alloc (.cells #[.string (strOf nm)] 9)).alloc (.cells #[.int .i64 k] 3)).cell? ⟨w.heap.size + 1 + 1, 0, none⟩ = some (.int .i64 k) := by
    have := cell_new1 ((w.alloc (.cells #[.pointer (some ⟨sb, 0, none⟩)] 23)).alloc (.cells #[.string (strOf nm)] 9)) (.int .i64 k) 3
    simp only [World.size_alloc] at this
    exact this
  have hs0 : (((w.alloc (.cells #[.pointer (some ⟨sb, 0, none⟩)] 23)).alloc (.cells #[.string (strOf nm)] 9)).alloc (.cells #[.int .i64 k] 3)).heap.size = w.heap.size + 3 := by simp
  have HB0 := show Hid _ from (⟨b0, b1, b2⟩ : (((w.alloc (.cells #[.pointer (some ⟨sb, 0, none⟩)] 23)).alloc (.cells #[.string (strOf nm)] 9)).alloc (.cells #[.int .i64 k] 3)).cell? ⟨w.heap.size, 0, none⟩ = some (.pointer (some ⟨sb, 0, none⟩)) ∧ (((w.alloc (.cells #[.pointer (some ⟨sb, 0, none⟩)] 23)).alloc (.cells #[.string (strOf nm)] 9)).alloc (.cells #[.int .i64 k] 3)).cell? ⟨w.heap.size + 1, 0, none⟩ = some (.string (strOf nm)) ∧ (((w.alloc (.cells #[.pointer (some ⟨sb, 0, none⟩)] 23)).alloc (.cells #[.string (strOf nm)] 9)).alloc (.cells #[.int .i64 k] 3)).cell? ⟨w.heap.size + 1 + 1, 0, none⟩ = some (.int .i64 k))
  clear hdr hd hF hA0 hgc hgf hown hl hr hn b0 b1 b2
  rw [HN.out] at hk
  have hk0 : ¬ k < 0 := by omega
  go_enter Try.func33, Try.ntmps33
  go_wp2_with (go_at_call 42; refine Calls.mono C.out ?_; rintro e w1 ⟨rfl, hb⟩; have HB := show Hid (After _ w1) from hb; have kd := fun o : Obj => Lib.cell?_alloc_some o ((Below.cell hb (p := ⟨w.heap.size, 0, none⟩) (by simp <;> omega)).trans HB0.out.1); have kk := fun o : Obj => Lib.cell?_alloc_some o ((Below.cell hb (p := ⟨w.heap.size + 1 + 1, 0, none⟩) (by simp <;> omega)).trans HB0.out.2.2); clear hb)
  go_ret
  exact SPost.same HD.out HF.out (after_alloc (After.trans HA0.out HB.out) _)
set_option maxRecDepth 100000 in
set_option maxHeartbeats 1600000 in
theorem cut_go (F : Nat → Prop) (sb : Nat) (S : Dk) (hS : Ok S) (hst : S.steps < 4611686018427387904) (nm : Nm) (hl : nm.length ≤ maxLen) (k : Int) (w : World) (hd : DiskAt w F sb S) (hF : ∀ i, F i → i < w.heap.size) (hr : findE S nm = 0) (f : Fl) (hgf0 : fget nm S.files = some f) (hk0 : 0 ≤ k) (hk : k ≤ (f.data.length : Int)) :
    Calls Try.prog 33 #[.pointer (some ⟨sb, 0, none⟩), .string (strOf nm), .int .i64 k] w (SPost F w sb (stepE S) (stepS S S.done (fput nm ⟨f.data.take k.toNat, k.toNat⟩ S.files))) := by
  obtain ⟨m, rfl⟩ : ∃ m : Nat, k = (m : Int) := ⟨k.toNat, by omega⟩
  rw [Int.toNat_natCast]
  obtain ⟨mb, cs, hdr⟩ := hd.dr
  have HR : Hid (Dr w F sb mb S cs) := hdr
  have HD : Hid (DiskAt w F sb S) := hd
  have HF : Hid (∀ i, F i → i < w.heap.size) := hF
  have HL : Hid (nm.length ≤ maxLen) := hl
  have hA0 : After w (((w.alloc (.cells #[.pointer (some ⟨sb, 0, none⟩)] 23)).alloc (.cells #[.string (strOf nm)] 9)).alloc (.cells #[.int .i64 (m : Int)] 3)) := after_alloc (after_alloc (after_alloc (After.refl w) _) _) _
  have HA0 := show Hid (After _ _) from hA0
  obtain ⟨h1r, h2r⟩ := findE_ok hr
  obtain ⟨ao, c, f0, hgc, hgf, hown, hat, hle⟩ := hdr.get h2r
  obtain rfl : f0 = f := by have := hgf.symm.trans hgf0; simpa using this
  have hl32 := (refuse_len h1r (List.mem_singleton.2 rfl)).2
  have hub : f0.data.length ≤ 16777216 := by have h1 := used_mem (fget_mem hgf); have h2 := hS.used; have h3 := hS.most; simp only at h1; omega
  have HU : Hid (used S.files ≤ S.most) := hS.used
  obtain ⟨n, hn⟩ : ∃ n, f0.data.length = n := ⟨_, rfl⟩
  have HN : Hid (f0.data.length = n) := hn
  have hcl : cs.length ≤ 64 := by have := hS.count; rw [← hdr.files] at this; simpa [fls] using this
  rw [hn] at hgc hub hle
  have HGC := show Hid _ from hgc
  have HGF := show Hid _ from hgf
  have C := show Hid _ from find_ok sb mb S cs nm hl _ (hdr.after hA0).toDs h1r ao n c _ (vals_get hgc)
  have b0 : (((w.alloc (.cells #[.pointer (some ⟨sb, 0, none⟩)] 23)).alloc (.cells #[.string (strOf nm)] 9)).alloc (.cells #[.int .i64 (m : Int)] 3)).cell? ⟨w.heap.size, 0, none⟩ = some (.pointer (some ⟨sb, 0, none⟩)) := by
    have := Lib.cell?_alloc_some (.cells #[.int .i64 (m : Int)] 3) (Lib.cell?_alloc_some (.cells #[.string (strOf nm)] 9) (cell_new1 w (.pointer (some ⟨sb, 0, none⟩)) 23))
    exact this
  have b1 : (((w.alloc (.cells #[.pointer (some ⟨sb, 0, none⟩)] 23)).alloc (.cells #[.string (strOf nm)] 9)).alloc (.cells #[.int .i64 (m : Int)] 3)).cell? ⟨w.heap.size + 1, 0, none⟩ = some (.string (strOf nm)) := by
    have := Lib.cell?_alloc_some (.cells #[.int .i64 (m : Int)] 3) (cell_new1 (w.alloc (.cells #[.pointer (some ⟨sb, 0, none⟩)] 23)) (.string (strOf nm)) 9)
    simp only [World.size_alloc] at this
    exact this
  have b2 : (((w.alloc (.cells #[.pointer (some ⟨sb, 0, none⟩)] 23)).alloc (.cells #[.string (strOf nm)] 9)).alloc (.cells #[.int .i64 (m : Int)] 3)).cell? ⟨w.heap.size + 1 + 1, 0, none⟩ = some (.int .i64 (m : Int)) := by
    have := cell_new1 ((w.alloc (.cells #[.pointer (some ⟨sb, 0, none⟩)] 23)).alloc (.cells #[.string (strOf nm)] 9)) (.int .i64 (m : Int)) 3
    simp only [World.size_alloc] at this
    exact this
  have hs0 : (((w.alloc (.cells #[.pointer (some ⟨sb, 0, none⟩)] 23)).alloc (.cells #[.string (strOf nm)] 9)).alloc (.cells #[.int .i64 (m : Int)] 3)).heap.size = w.heap.size + 3 := by simp
  have HB0 := show Hid _ from (⟨b0, b1, b2⟩ : (((w.alloc (.cells #[.pointer (some ⟨sb, 0, none⟩)] 23)).alloc (.cells #[.string (strOf nm)] 9)).alloc (.cells #[.int .i64 (m : Int)] 3)).cell? ⟨w.heap.size, 0, none⟩ = some (.pointer (some ⟨sb, 0, none⟩)) ∧ (((w.alloc (.cells #[.pointer (some ⟨sb, 0, none⟩)] 23)).alloc (.cells #[.string (strOf nm)] 9)).alloc (.cells #[.int .i64 (m : Int)] 3)).cell? ⟨w.heap.size + 1, 0, none⟩ = some (.string (strOf nm)) ∧ (((w.alloc (.cells #[.pointer (some ⟨sb, 0, none⟩)] 23)).alloc (.cells #[.string (strOf nm)] 9)).alloc (.cells #[.int .i64 (m : Int)] 3)).cell? ⟨w.heap.size + 1 + 1, 0, none⟩ = some (.int .i64 (m : Int)))
  clear hdr hd hF hA0 hgc hgf hown hl hr hn b0 b1 b2
  rw [HN.out] at hk
  have hm : m ≤ n := by omega
  go_enter Try.func33, Try.ntmps33
  go_wp2_with (go_at_call 42; refine Calls.mono C.out ?_; rintro e w1 ⟨rfl, hb⟩; have HB := show Hid (After _ w1) from hb; have kd := fun o : Obj => Lib.cell?_alloc_some o ((Below.cell hb (p := ⟨w.heap.size, 0, none⟩) (by simp <;> omega)).trans HB0.out.1); have kk := fun o : Obj => Lib.cell?_alloc_some o ((Below.cell hb (p := ⟨w.heap.size + 1 + 1, 0, none⟩) (by simp <;> omega)).trans HB0.out.2.2); clear hb)
  have hA1 : After w w1 := After.trans HA0.out HB.out
  obtain ⟨V, hV⟩ : ∃ V, w1.alloc (.cells #[.slice ao n c, .int .i64 (f0.safe : Int)] 77) = V := ⟨_, rfl⟩
  have hs1 : w.heap.size + 3 ≤ w1.heap.size := by have := HB.out.size; omega
  have hAV : After w V := by rw [← hV]; exact after_alloc hA1 _
  have hVs : V.heap.size = w1.heap.size + 1 := by rw [← hV]; simp
  have hAV0 : After (((w.alloc (.cells #[.pointer (some ⟨sb, 0, none⟩)] 23)).alloc (.cells #[.string (strOf nm)] 9)).alloc (.cells #[.int .i64 (m : Int)] 3)) V := by rw [← hV]; exact after_alloc HB.out _
  have kf0 : V.cell? ⟨w1.heap.size, 0, none⟩ = some (.slice ao n c) := by rw [← hV]; exact (RowIs.new w1 77 [.slice ao n c, .int .i64 (f0.safe : Int)]).cell (j := 0) rfl
  have kf1 : V.cell? ⟨w1.heap.size, 1, none⟩ = some (.int .i64 (f0.safe : Int)) := by rw [← hV]; exact (RowIs.new w1 77 [.slice ao n c, .int .i64 (f0.safe : Int)]).cell (j := 1) rfl
  have k0 : V.cell? ⟨w.heap.size, 0, none⟩ = some (.pointer (some ⟨sb, 0, none⟩)) := (Below.cell hAV0 (p := ⟨w.heap.size, 0, none⟩) (by simp <;> omega)).trans HB0.out.1
  have k1 : V.cell? ⟨w.heap.size + 1, 0, none⟩ = some (.string (strOf nm)) := (Below.cell hAV0 (p := ⟨w.heap.size + 1, 0, none⟩) (by simp <;> omega)).trans HB0.out.2.1
  have k2 : V.cell? ⟨w.heap.size + 1 + 1, 0, none⟩ = some (.int .i64 (m : Int)) := (Below.cell hAV0 (p := ⟨w.heap.size + 1 + 1, 0, none⟩) (by simp <;> omega)).trans HB0.out.2.2
  have HDV := show Hid (Dr V F sb mb S cs) from HR.out.after hAV
  have n0 : ¬ F (w.heap.size) := fun e => by have := HF.out _ e; omega
  have n1 : ¬ F (w.heap.size + 1) := fun e => by have := HF.out _ e; omega
  have n2 : ¬ F (w.heap.size + 1 + 1) := fun e => by have := HF.out _ e; omega
  have nf : ¬ F w1.heap.size := fun e => by have := HF.out _ e; omega
  have hFV : ∀ i, F i → i < V.heap.size := fun i hi => by have := HF.out i hi; omega
  rw [hV]
  clear hV kd kk
  have hc6 := HDV.out.row.cells68.c6
  have CS := show Hid _ from step_any F sb mb S cs S.done 57 #[.pointer (some ⟨w1.heap.size, 0, none⟩), .pointer (some ⟨w.heap.size + 1 + 1, 0, none⟩), .pointer (some ⟨w.heap.size, 0, none⟩), .pointer (some ⟨w.heap.size + 1, 0, none⟩)] (fput nm ⟨f0.data.take m, m⟩ S.files) V.drew hst hS (HDV.out.after (After.drew (After.refl V))) hFV (do_cut F sb mb S cs V.drew nm hl32 w.heap.size (w.heap.size + 1) k0 k1 n0 n1 (by omega) w1.heap.size n c ao f0 kf0 kf1 nf HGC.out (w.heap.size + 1 + 1) m k2 n2 hm hub) (fun W => by simp [go_sem])
  have hdone : (stepS S S.done (fput nm ⟨f0.data.take m, m⟩ S.files)).done = S.done := by unfold stepS; split <;> rfl
  refine wp_region_noPanic ?_
  refine wp_region_held_drew (S := (fun w' => Turn F V w' ∧ w'.cell? ⟨sb, 6, none⟩ = some (.bool S.done))) (by kernel_rfl) ⟨Turn.drew (Turn.refl _ V), hc6⟩ ?_
  intro hS0
  refine tk 0 27 (.pointer (some ⟨sb, 0, none⟩)) (fuel := 8) rfl (by kernel_rfl) (by kernel_rfl) (by kernel_rfl) (by kernel_rfl) noPanic_false (by kernel_rfl) (fun W hW => x_ld23 (x := .tmp 3) (g := w.heap.size) (p := 0) (by kernel_rfl) (by kernel_rfl) (hW.1.cell (p := ⟨w.heap.size, 0, none⟩) n0 k0)) hS0 ?_
  refine tk 1 28 (.pointer (some ⟨sb, 0, none⟩)) (fuel := 7) rfl (by kernel_rfl) (by kernel_rfl) (by kernel_rfl) (by kernel_rfl) noPanic_false (by kernel_rfl) (fun W hW => x_ld23 (x := .tmp 3) (g := w.heap.size) (p := 0) (by kernel_rfl) (by kernel_rfl) (hW.1.cell (p := ⟨w.heap.size, 0, none⟩) n0 k0)) hS0 ?_
  refine tk 2 29 (.pointer (some ⟨sb, 0, none⟩)) (fuel := 6) rfl (by kernel_rfl) (by kernel_rfl) (by kernel_rfl) (by kernel_rfl) noPanic_false (by kernel_rfl) (fun _ _ => by kernel_rfl) hS0 ?_
  refine tk 3 30 (.pointer (some ⟨sb, 4, none⟩)) (fuel := 5) rfl (by kernel_rfl) (by kernel_rfl) (by kernel_rfl) (by kernel_rfl) noPanic_false (by kernel_rfl) (fun _ _ => by kernel_rfl) hS0 ?_
  refine tk 4 31 (.pointer (some ⟨sb, 6, none⟩)) (fuel := 4) rfl (by kernel_rfl) (by kernel_rfl) (by kernel_rfl) (by kernel_rfl) noPanic_false (by kernel_rfl) (fun _ _ => by kernel_rfl) hS0 ?_
  refine tk 5 32 (.bool S.done) (fuel := 3) rfl (by kernel_rfl) (by kernel_rfl) (by kernel_rfl) (by kernel_rfl) noPanic_false (by kernel_rfl) (fun W hW => x_ld4 (x := .tmp 31) (g := sb) (p := 6) (by kernel_rfl) (by kernel_rfl) (hW.2)) hS0 ?_
  refine tk 6 33 (.func (.func 57) #[] #[.pointer (some ⟨w1.heap.size, 0, none⟩), .pointer (some ⟨w.heap.size + 1 + 1, 0, none⟩), .pointer (some ⟨w.heap.size, 0, none⟩), .pointer (some ⟨w.heap.size + 1, 0, none⟩)]) (fuel := 2) rfl (by kernel_rfl) (by kernel_rfl) (by kernel_rfl) (by kernel_rfl) noPanic_false (by kernel_rfl) (fun _ _ => by kernel_rfl) hS0 ?_
  refine tkCallS 7 34 48 #[.pointer (some ⟨sb, 0, none⟩), .bool S.done, .func (.func 57) #[] #[.pointer (some ⟨w1.heap.size, 0, none⟩), .pointer (some ⟨w.heap.size + 1 + 1, 0, none⟩), .pointer (some ⟨w.heap.size, 0, none⟩), .pointer (some ⟨w.heap.size + 1, 0, none⟩)]] (fun v w' => v = .int .i64 (stepE S : Int) ∧ Turn F V.drew w' ∧ DiskAt w' (more F V.drew w') sb (stepS S S.done (fput nm ⟨f0.data.take m, m⟩ S.files))) (fuel := 1) rfl (by kernel_rfl) (by kernel_rfl) (by kernel_rfl) (fun _ => by kernel_rfl) (Calls.mono CS.out (fun e w' ⟨h1, h2, h3⟩ => ⟨_, h1, rfl, h2, h3⟩)) ?_
  intro v1 w2 ⟨hv1, t1, d1⟩
  subst hv1
  have hc6' : w2.cell? ⟨sb, 6, none⟩ = some (.bool S.done) := by
    obtain ⟨mb1, cs1, hr1⟩ := d1.dr
    have := hr1.row.cells68.c6
    rwa [hdone] at this
  have hT1 : Turn F V w2 := (Turn.drew (Turn.refl _ V)).trans t1
  refine ⟨⟨hT1, hc6'⟩, ?_⟩
  refine tk 8 6 (.int .i64 (stepE S : Int)) (fuel := 0) rfl (by kernel_rfl) (by kernel_rfl) (by kernel_rfl) (by kernel_rfl) noPanic_false (by kernel_rfl) (fun _ _ => by kernel_rfl) ⟨hT1, hc6'⟩ ?_
  refine wpAnyH_done (by kernel_rfl) (NoPanic.normal ?_) _
  have hAs := hAV.size
  go_simp
  go_wp2
  go_ret
  refine ⟨rfl, (Turn.of_after hAV).trans hT1, d1.mono (fun i hi => ?_)⟩
  rcases hi with hi | ⟨h1, h2⟩
  · exact Or.inl hi
  · exact Or.inr ⟨by have : V.heap.size ≤ i := h1; omega, h2⟩
end Go.Proofs.Ytlbodickflljfaa
