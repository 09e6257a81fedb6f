/-
  THE WALK OF (stemmaref05.Disk).Append.
-/
import Derived.Test.YtlbodickflljfaaRefSync
namespace Go.Proofs.Ytlbodickflljfaa
open Go.RowKit Go.Maps Dsk
theorem strOf_app (a b : List UInt8) : strOf a ++ strOf b = strOf (a ++ b) := by
  apply ByteArray.ext
  simp [strOf]
set_option maxRecDepth 100000 in
set_option maxHeartbeats 3200000 in
theorem rAppend_refused (S : Dk) (hS : Ok S) (ao : Option Addr) (n c : Nat) (ar : Bool) (lf : Nat) (dn : Bool) (hrel : S.down = false → ar = S.said ∧ lf = S.left ∧ dn = S.done) (hlf : lf < 9223372036854775808) (nm : Nm) (hl : ∀ s ∈ [nm], s.length ≤ maxLen) (p : Nm) (w : World) (hf : FA w ao n c S.files) (r : Nat) (hr : refuse S [nm] = r) (h0 : ¬ r = 0) :
    Calls Try.prog 35 #[.agg (rV S ao n c ar lf dn), .string (strOf nm), .string (strOf p)] w (RPostR w r S) := by
  have HREL : Hid ((S.down = false → ar = S.said ∧ lf = S.left ∧ dn = S.done) ∧ lf < 9223372036854775808) := ⟨hrel, hlf⟩
  have HL : Hid (∀ s ∈ [nm], s.length ≤ maxLen) := hl
  have HRR : Hid (refuse S [nm] = r) := hr
  have h0' : ((r : Int) != 0) = true := by simp; omega
  obtain ⟨is, his⟩ : ∃ is, fhas nm S.files = is := ⟨_, rfl⟩
  have HIS : Hid (fhas nm S.files = is) := his
  clear hrel hlf hl hr his
  have HF : Hid (FA w ao n c S.files) := hf
  have HO : Hid (Ok S) := hS
  unfold rV
  clear hf hS
  go_enter Try.func35, Try.ntmps35
  go_wp2_with fail
  obtain ⟨w0, hw0⟩ : ∃ w0, ((w.alloc (.cells #[.int .i64 (S.most : Int), .slice ao n c, .int .i64 (S.steps : Int), .bool ar, .int .i64 (lf : Int), .bool dn, .bool S.down] 27)).alloc (.cells #[.int .i64 0, .slice none 0 0, .int .i64 0, .bool false, .int .i64 0, .bool false, .bool false] 27)).alloc (.cells #[.string (strOf nm)] 9) = w0 := ⟨_, rfl⟩
  rw [hw0]
  have HA0 : Hid (After w w0) := by rw [← hw0]; exact after_alloc (after_alloc (after_alloc (After.refl w) _) _) _
  have HR0 : Hid (RowIs w0 w.heap.size 27 [.int .i64 (S.most : Int), .slice ao n c, .int .i64 (S.steps : Int), .bool ar, .int .i64 (lf : Int), .bool dn, .bool S.down]) := by rw [← hw0]; exact ((RowIs.new w 27 _).alloc _).alloc _
  have HS0 : Hid (RowIs w0 (w.heap.size + 1) 27 [.int .i64 0, .slice none 0 0, .int .i64 0, .bool false, .int .i64 0, .bool false, .bool false]) := by rw [← hw0]; exact (row_last _ _ (by simp) _).alloc _
  have HST : Hid (StrsAt w0 (some ⟨w.heap.size + 1 + 1, 0, none⟩) [nm]) := by
    rw [← hw0]
    have := StrsAt.one ((w.alloc (.cells #[.int .i64 (S.most : Int), .slice ao n c, .int .i64 (S.steps : Int), .bool ar, .int .i64 (lf : Int), .bool dn, .bool S.down] 27)).alloc (.cells #[.int .i64 0, .slice none 0 0, .int .i64 0, .bool false, .int .i64 0, .bool false, .bool false] 27)) nm 9
    rw [show ((w.alloc (.cells #[.int .i64 (S.most : Int), .slice ao n c, .int .i64 (S.steps : Int), .bool ar, .int .i64 (lf : Int), .bool dn, .bool S.down] 27)).alloc (.cells #[.int .i64 0, .slice none 0 0, .int .i64 0, .bool false, .int .i64 0, .bool false, .bool false] 27)).heap.size = w.heap.size + 1 + 1 by simp] at this
    exact this
  clear hw0
  go_wp2_with (first
    | (go_at_call 44; refine (rFirst_any S ao n c ar lf dn _ 1 [nm] (by simp) (by simp) (by simpa using HL.out) w0 HST.out).mono ?_; rw [HRR.out]; rintro e w1 ⟨rfl, h1⟩; have HR1 := show Hid (RowIs w1 _ _ _) from HR0.out.below h1 HR0.out.lt; have HS1 := show Hid (RowIs w1 _ _ _) from HS0.out.below h1 HS0.out.lt; have HA1 : Hid (After w w1) := After.trans HA0.out h1; clear h1)
    | (refine wpList_load_row rfl 27 _ rfl (w.heap.size) rfl 27 _ (0, 0) _ HR1.out Try.underlying27 rfl (by kernel_rfl) ?_)
    | (go_at_call 45; refine (placeR S HO.out ao n c ar lf dn nm (HF.out.after HA1.out)).mono ?_; rw [HIS.out]; rintro e w2 ⟨k, hpl, rfl, h2⟩; have HPL := show Hid (Place _ _ _) from hpl; have HR2 := show Hid (RowIs w2 _ _ _) from HR1.out.below h2 HR1.out.lt; have HS2 := show Hid (RowIs w2 _ _ _) from HS1.out.below h2 HS1.out.lt; have HA2 : Hid (After w w2) := After.trans HA1.out h2; clear h2 hpl)
    | (refine wpList_load_row rfl 27 _ rfl (w.heap.size) rfl 27 _ (0, 0) _ HR2.out Try.underlying27 rfl (by kernel_rfl) ?_)
    | (refine wpList_store_row rfl 27 _ _ rfl (w.heap.size + 1) _ rfl rfl 27 _ HS2.out (by kernel_rfl) rfl (by kernel_rfl) ?_))
  have HAX := after_setRow (g := w.heap.size + 1) HA2.out (Nat.le_succ _) [.int .i64 (S.most : Int), .slice ao n c, .int .i64 (S.steps : Int), .bool ar, .int .i64 (lf : Int), .bool dn, .bool S.down].toArray
  exact bodyPost_ret (ret27t Try.results35 _ _ (w.heap.size + 1) [.int .i64 (S.most : Int), .slice ao n c, .int .i64 (S.steps : Int), .bool ar, .int .i64 (lf : Int), .bool dn, .bool S.down] rfl (RowIs.setRow HS2.out _) rfl _ rfl) rfl ⟨_, rfl, RefAt.of (HF.out.after HAX) HREL.out.1 HREL.out.2, after_setRow HA2.out (Nat.le_succ _) _⟩
set_option maxRecDepth 100000 in
set_option maxHeartbeats 3200000 in
theorem rAppend_none (S : Dk) (hS : Ok S) (ao : Option Addr) (n c : Nat) (nm : Nm) (hl : ∀ s ∈ [nm], s.length ≤ maxLen) (p : Nm) (hst : S.steps < 4611686018427387904) (w : World) (hf : FA w ao n c S.files) (h0 : refuse S [nm] = 0) (his : fhas nm S.files = false) :
    Calls Try.prog 35 #[.agg (rV S ao n c S.said S.left S.done), .string (strOf nm), .string (strOf p)] w (RPostR w 22 S) := by
  have HL : Hid (∀ s ∈ [nm], s.length ≤ maxLen) := hl
  have HRR : Hid (refuse S [nm] = 0) := h0
  have HSTP : Hid (S.steps < 4611686018427387904) := hst
  clear hl h0 hst
  have HIS : Hid (fhas nm S.files = false) := his
  clear his
  have HF : Hid (FA w ao n c S.files) := hf
  have HO : Hid (Ok S) := hS
  unfold rV
  clear hf hS
  go_enter Try.func35, Try.ntmps35
  go_wp2_with fail
  obtain ⟨w0, hw0⟩ : ∃ w0, ((w.alloc (.cells #[.int .i64 (S.most : Int), .slice ao n c, .int .i64 (S.steps : Int), .bool S.said, .int .i64 (S.left : Int), .bool S.done, .bool S.down] 27)).alloc (.cells #[.int .i64 0, .slice none 0 0, .int .i64 0, .bool false, .int .i64 0, .bool false, .bool false] 27)).alloc (.cells #[.string (strOf nm)] 9) = w0 := ⟨_, rfl⟩
  rw [hw0]
  have HA0 : Hid (After w w0) := by rw [← hw0]; exact after_alloc (after_alloc (after_alloc (After.refl w) _) _) _
  have HR0 : Hid (RowIs w0 w.heap.size 27 [.int .i64 (S.most : Int), .slice ao n c, .int .i64 (S.steps : Int), .bool S.said, .int .i64 (S.left : Int), .bool S.done, .bool S.down]) := by rw [← hw0]; exact ((RowIs.new w 27 _).alloc _).alloc _
  have HS0 : Hid (RowIs w0 (w.heap.size + 1) 27 [.int .i64 0, .slice none 0 0, .int .i64 0, .bool false, .int .i64 0, .bool false, .bool false]) := by rw [← hw0]; exact (row_last _ _ (by simp) _).alloc _
  have HST : Hid (StrsAt w0 (some ⟨w.heap.size + 1 + 1, 0, none⟩) [nm]) := by
    rw [← hw0]
    have := StrsAt.one ((w.alloc (.cells #[.int .i64 (S.most : Int), .slice ao n c, .int .i64 (S.steps : Int), .bool S.said, .int .i64 (S.left : Int), .bool S.done, .bool S.down] 27)).alloc (.cells #[.int .i64 0, .slice none 0 0, .int .i64 0, .bool false, .int .i64 0, .bool false, .bool false] 27)) nm 9
    rw [show ((w.alloc (.cells #[.int .i64 (S.most : Int), .slice ao n c, .int .i64 (S.steps : Int), .bool S.said, .int .i64 (S.left : Int), .bool S.done, .bool S.down] 27)).alloc (.cells #[.int .i64 0, .slice none 0 0, .int .i64 0, .bool false, .int .i64 0, .bool false, .bool false] 27)).heap.size = w.heap.size + 1 + 1 by simp] at this
    exact this
  clear hw0
  go_wp2_with (first
    | (go_at_call 44; refine (rFirst_any S ao n c S.said S.left S.done _ 1 [nm] (by simp) (by simp) (by simpa using HL.out) w0 HST.out).mono ?_; rw [HRR.out]; rintro e w1 ⟨rfl, h1⟩; have HR1 := show Hid (RowIs w1 _ _ _) from HR0.out.below h1 HR0.out.lt; have HS1 := show Hid (RowIs w1 _ _ _) from HS0.out.below h1 HS0.out.lt; have HA1 : Hid (After w w1) := After.trans HA0.out h1; clear h1)
    | (refine wpList_load_row rfl 27 _ rfl (w.heap.size) rfl 27 _ (0, 0) _ HR1.out Try.underlying27 rfl (by kernel_rfl) ?_)
    | (go_at_call 45; refine (placeR S HO.out ao n c S.said S.left S.done nm (HF.out.after HA1.out)).mono ?_; rw [HIS.out]; rintro e w2 ⟨k, hpl, rfl, h2⟩; have HPL := show Hid (Place _ _ _) from hpl; have HR2 := show Hid (RowIs w2 _ _ _) from HR1.out.below h2 HR1.out.lt; have HS2 := show Hid (RowIs w2 _ _ _) from HS1.out.below h2 HS1.out.lt; have HA2 : Hid (After w w2) := After.trans HA1.out h2; clear h2 hpl)
    | (refine wpList_load_row rfl 27 _ rfl (w.heap.size) rfl 27 _ (0, 0) _ HR2.out Try.underlying27 rfl (by kernel_rfl) ?_)
    | (refine wpList_store_row rfl 27 _ _ rfl (w.heap.size + 1) _ rfl rfl 27 _ HS2.out (by kernel_rfl) rfl (by kernel_rfl) ?_))
  have HAX := after_setRow (g := w.heap.size + 1) HA2.out (Nat.le_succ _) [.int .i64 (S.most : Int), .slice ao n c, .int .i64 (S.steps : Int), .bool S.said, .int .i64 (S.left : Int), .bool S.done, .bool S.down].toArray
  exact bodyPost_ret (ret27t Try.results35 _ _ (w.heap.size + 1) [.int .i64 (S.most : Int), .slice ao n c, .int .i64 (S.steps : Int), .bool S.said, .int .i64 (S.left : Int), .bool S.done, .bool S.down] rfl (RowIs.setRow HS2.out _) rfl _ rfl) rfl ⟨_, rfl, RefAt.of (HF.out.after HAX) (fun _ => ⟨rfl, rfl, rfl⟩) HO.out.left, after_setRow HA2.out (Nat.le_succ _) _⟩
set_option maxRecDepth 100000 in
set_option maxHeartbeats 3200000 in
theorem rAppend_full (S : Dk) (hS : Ok S) (ao : Option Addr) (n c : Nat) (nm : Nm) (hl : ∀ s ∈ [nm], s.length ≤ maxLen) (p : Nm) (hst : S.steps < 4611686018427387904) (w : World) (hf : FA w ao n c S.files) (h0 : refuse S [nm] = 0) (his : fhas nm S.files = true) (f : Fl) (hg : fget nm S.files = some f) (hfull : S.most - used S.files < p.length) :
    Calls Try.prog 35 #[.agg (rV S ao n c S.said S.left S.done), .string (strOf nm), .string (strOf p)] w (RPostR w 21 S) := by
  have HL : Hid (∀ s ∈ [nm], s.length ≤ maxLen) := hl
  have HRR : Hid (refuse S [nm] = 0) := h0
  have HSTP : Hid (S.steps < 4611686018427387904) := hst
  clear hl h0 hst
  obtain ⟨P, hP⟩ : ∃ P, strOf p = P := ⟨_, rfl⟩
  have HP : Hid (strOf p = P) := hP
  obtain ⟨pn, hpn⟩ : ∃ pn, P.size = pn := ⟨_, rfl⟩
  have HPN : Hid (P.size = pn) := hpn
  have HPL2 : Hid (p.length = pn) := by unfold Hid; rw [← hpn, ← hP, strOf_size]
  obtain ⟨u, hu⟩ : ∃ u, used S.files = u := ⟨_, rfl⟩
  have HU : Hid (used S.files = u) := hu
  have HFULL : Hid (S.most - u < pn) := by have := hfull; rw [hu, HPL2.out] at this; exact this
  have HSAFE : Hid (f.safe ≤ f.data.length) := hS.safe _ (fget_mem hg)
  rw [hP]
  clear hfull hP hpn hu
  have HIS : Hid (fhas nm S.files = true) := his
  have HG : Hid (fget nm S.files = some f) := hg
  have HFB : Hid (f.data.length ≤ 16777216) := by have h1 := used_mem (fget_mem hg); have h2 := hS.used; have h3 := hS.most; simp only at h1; unfold Hid; omega
  have HRI : Hid (rising S.files) := hS.ris
  clear his hg
  have HF : Hid (FA w ao n c S.files) := hf
  have HO : Hid (Ok S) := hS
  unfold rV
  clear hf hS
  go_enter Try.func35, Try.ntmps35
  go_wp2_with fail
  obtain ⟨w0, hw0⟩ : ∃ w0, ((w.alloc (.cells #[.int .i64 (S.most : Int), .slice ao n c, .int .i64 (S.steps : Int), .bool S.said, .int .i64 (S.left : Int), .bool S.done, .bool S.down] 27)).alloc (.cells #[.int .i64 0, .slice none 0 0, .int .i64 0, .bool false, .int .i64 0, .bool false, .bool false] 27)).alloc (.cells #[.string (strOf nm)] 9) = w0 := ⟨_, rfl⟩
  rw [hw0]
  have HA0 : Hid (After w w0) := by rw [← hw0]; exact after_alloc (after_alloc (after_alloc (After.refl w) _) _) _
  have HR0 : Hid (RowIs w0 w.heap.size 27 [.int .i64 (S.most : Int), .slice ao n c, .int .i64 (S.steps : Int), .bool S.said, .int .i64 (S.left : Int), .bool S.done, .bool S.down]) := by rw [← hw0]; exact ((RowIs.new w 27 _).alloc _).alloc _
  have HS0 : Hid (RowIs w0 (w.heap.size + 1) 27 [.int .i64 0, .slice none 0 0, .int .i64 0, .bool false, .int .i64 0, .bool false, .bool false]) := by rw [← hw0]; exact (row_last _ _ (by simp) _).alloc _
  have HST : Hid (StrsAt w0 (some ⟨w.heap.size + 1 + 1, 0, none⟩) [nm]) := by
    rw [← hw0]
    have := StrsAt.one ((w.alloc (.cells #[.int .i64 (S.most : Int), .slice ao n c, .int .i64 (S.steps : Int), .bool S.said, .int .i64 (S.left : Int), .bool S.done, .bool S.down] 27)).alloc (.cells #[.int .i64 0, .slice none 0 0, .int .i64 0, .bool false, .int .i64 0, .bool false, .bool false] 27)) nm 9
    rw [show ((w.alloc (.cells #[.int .i64 (S.most : Int), .slice ao n c, .int .i64 (S.steps : Int), .bool S.said, .int .i64 (S.left : Int), .bool S.done, .bool S.down] 27)).alloc (.cells #[.int .i64 0, .slice none 0 0, .int .i64 0, .bool false, .int .i64 0, .bool false, .bool false] 27)).heap.size = w.heap.size + 1 + 1 by simp] at this
    exact this
  clear hw0
  go_wp2_with (first
    | (go_at_call 44; refine (rFirst_any S ao n c S.said S.left S.done _ 1 [nm] (by simp) (by simp) (by simpa using HL.out) w0 HST.out).mono ?_; rw [HRR.out]; rintro e w1 ⟨rfl, h1⟩; have HR1 := show Hid (RowIs w1 _ _ _) from HR0.out.below h1 HR0.out.lt; have HS1 := show Hid (RowIs w1 _ _ _) from HS0.out.below h1 HS0.out.lt; have HA1 : Hid (After w w1) := After.trans HA0.out h1; clear h1)
    | (refine wpList_load_row rfl 27 _ rfl (w.heap.size) rfl 27 _ (0, 0) _ HR1.out Try.underlying27 rfl (by kernel_rfl) ?_)
    | (go_at_call 45; refine (placeR S HO.out ao n c S.said S.left S.done nm (HF.out.after HA1.out)).mono ?_; rw [HIS.out]; rintro e w2 ⟨k, hpl, rfl, h2⟩; have HPL := show Hid (Place nm S.files k) from hpl; have HR2 := show Hid (RowIs w2 _ _ _) from HR1.out.below h2 HR1.out.lt; have HS2 := show Hid (RowIs w2 _ _ _) from HS1.out.below h2 HS1.out.lt; have HA2 : Hid (After w w2) := After.trans HA1.out h2; clear h2 hpl; obtain ⟨f', hk, hg'⟩ := HPL.out.get HRI.out HIS.out; have hff : f' = f := (by have := HG.out; rw [hg'] at this; exact Option.some.inj this); subst hff; have hkn : k < n := (by have := (List.getElem?_eq_some_iff.1 hk).1; rw [HF.out.len] at this; exact this); have hki : (k : Int) < (n : Int) := (by omega); obtain ⟨fb, fo, hao, _, hfc⟩ := HF.out.at_ (by intro h; rw [h] at hk; simp at hk); obtain ⟨e0, e1, e2⟩ := hfc k _ hk; have d0 := cell_after HA2.out e0; have d1 := cell_after HA2.out e1; have d2 := cell_after HA2.out e2; have c1 := HR2.out.cell (j := 1) rfl; subst hao; simp only at d0 d1 d2; obtain ⟨s1, hs1⟩ : ∃ s1, strOf (f'.data.take f'.safe) = s1 := ⟨_, rfl⟩; obtain ⟨s2, hs2⟩ : ∃ s2, strOf (f'.data.drop f'.safe) = s2 := ⟨_, rfl⟩; have HSS : Hid (s1 ++ s2 = strOf f'.data) := (by rw [← hs1, ← hs2]; exact strOf_cat f'.data f'.safe); have HS12 : Hid (strOf (f'.data.take f'.safe) = s1 ∧ strOf (f'.data.drop f'.safe) = s2) := ⟨hs1, hs2⟩; have HSZ : Hid (s1.size + s2.size ≤ 16777216) := (by have := HFB.out; unfold Hid; rw [← hs1, ← hs2, strOf_size, strOf_size, List.length_take, List.length_drop]; omega); rw [hs1] at d1; rw [hs2] at d2; clear hfc e0 e1 e2 hs1 hs2 hg' hk))
  refine wp_region_noPanic ?_
  refine wp_region_held_drew (S := (fun W => RowIs W w.heap.size 27 [.int .i64 (S.most : Int), .slice (some ⟨fb, fo, none⟩) n c, .int .i64 (S.steps : Int), .bool S.said, .int .i64 (S.left : Int), .bool S.done, .bool S.down])) (by kernel_rfl) HR2.out.drew ?_
  intro hS0
  have hA0 : After w2 w2.drew := After.drew (After.refl w2)
  refine tk 0 33 (.string P) (fuel := 8) rfl (by kernel_rfl) (by kernel_rfl) (by kernel_rfl) (by kernel_rfl) noPanic_false (by kernel_rfl) (fun _ _ => by kernel_rfl) hS0 ?_
  refine tk 1 34 (.int .i64 (pn : Int)) (fuel := 7) rfl (by kernel_rfl) (by kernel_rfl) (by kernel_rfl) (by kernel_rfl) noPanic_false (by kernel_rfl) (fun W _ => by rw [← HPN.out]; kernel_rfl) hS0 ?_
  refine tk 2 35 (.pointer (some ⟨w.heap.size, 0, none⟩)) (fuel := 6) rfl (by kernel_rfl) (by kernel_rfl) (by kernel_rfl) (by kernel_rfl) noPanic_false (by kernel_rfl) (fun _ _ => by kernel_rfl) hS0 ?_
  refine tk 3 36 (.int .i64 (S.most : Int)) (fuel := 5) rfl (by kernel_rfl) (by kernel_rfl) (by kernel_rfl) (by kernel_rfl) noPanic_false (by kernel_rfl) (fun W hW => x_ld3 (x := .tmp 35) (g := w.heap.size) (p := 0) (by kernel_rfl) (by kernel_rfl) (hW.cell (j := 0) rfl)) hS0 ?_
  refine tk 4 37 (.agg #[.int .i64 (S.most : Int), .slice (some ⟨fb, fo, none⟩) n c, .int .i64 (S.steps : Int), .bool S.said, .int .i64 (S.left : Int), .bool S.done, .bool S.down]) (fuel := 4) rfl (by kernel_rfl) (by kernel_rfl) (by kernel_rfl) (by kernel_rfl) noPanic_false (by kernel_rfl) (fun W hW => x_row27 (x := .tmp 3) (g := w.heap.size) (by kernel_rfl) (by kernel_rfl) hW rfl) hS0 ?_
  refine tkCallS 5 38 41 #[.agg #[.int .i64 (S.most : Int), .slice (some ⟨fb, fo, none⟩) n c, .int .i64 (S.steps : Int), .bool S.said, .int .i64 (S.left : Int), .bool S.done, .bool S.down]] (fun v w' => v = .int .i64 (u : Int) ∧ After w2 w') (fuel := 3) rfl (by kernel_rfl) (by kernel_rfl) (by kernel_rfl) (fun _ => by kernel_rfl) ((usedR S HO.out (some ⟨fb, fo, none⟩) n c S.said S.left S.done _ ((HF.out.after HA2.out).after hA0)).mono (fun e w' ⟨he, h3⟩ => ⟨_, he, by rw [HU.out], After.trans hA0 h3⟩)) ?_
  rintro v5 w5 ⟨rfl, hA5⟩
  have hT5 := HR2.out.below hA5 HR2.out.lt
  refine ⟨hT5, ?_⟩
  refine tk 6 39 (.int .i64 ((S.most - u : Nat) : Int)) (fuel := 2) rfl (by kernel_rfl) (by kernel_rfl) (by kernel_rfl) (by kernel_rfl) noPanic_false (by kernel_rfl) (fun W _ => x_sub (x := .tmp 36) (y := .tmp 38) (p := S.most) (q := u) (by kernel_rfl) (by kernel_rfl) (by kernel_rfl) (by have := HO.out.used; have := HU.out; omega) HO.out.most) hT5 ?_
  refine tk 7 40 (.bool true) (fuel := 1) rfl (by kernel_rfl) (by kernel_rfl) (by kernel_rfl) (by kernel_rfl) noPanic_false (by kernel_rfl) (fun W _ => x_gtrt (t := 3) (x := .tmp 34) (y := .tmp 39) (p := pn) (q := S.most - u) (by kernel_rfl) (by kernel_rfl) (by kernel_rfl) HFULL.out) hT5 ?_
  refine tk 8 32 (.bool true) (fuel := 0) rfl (by kernel_rfl) (by kernel_rfl) (by kernel_rfl) (by kernel_rfl) noPanic_false (by kernel_rfl) (fun _ _ => by kernel_rfl) hT5 ?_
  refine wpAnyH_done (by kernel_rfl) (NoPanic.normal ?_) _
  have HA5 : Hid (After w w5) := After.trans HA2.out hA5
  have HR5 := show Hid (RowIs w5 _ _ _) from hT5
  have HS5 := show Hid (RowIs w5 _ _ _) from HS2.out.below hA5 HS2.out.lt
  have c5 := cell_after hA5 c1
  have q0 := cell_after hA5 d0
  have q1 := cell_after hA5 d1
  have q2 := cell_after hA5 d2
  clear hS0 hA0 hT5 hA5 c1 d0 d1 d2
  go_simp
  go_wp2_with (first
    | (refine wpList_load_row rfl 27 _ rfl (w.heap.size) rfl 27 _ (0, 0) _ HR5.out Try.underlying27 rfl (by kernel_rfl) ?_)
    | (refine wpList_store_row rfl 27 _ _ rfl (w.heap.size + 1) _ rfl rfl 27 _ HS5.out (by kernel_rfl) rfl (by kernel_rfl) ?_))
  have HAX := after_setRow (g := w.heap.size + 1) HA5.out (Nat.le_succ _) [.int .i64 (S.most : Int), .slice (some ⟨fb, fo, none⟩) n c, .int .i64 (S.steps : Int), .bool S.said, .int .i64 (S.left : Int), .bool S.done, .bool S.down].toArray
  exact bodyPost_ret (ret27t Try.results35 _ _ (w.heap.size + 1) [.int .i64 (S.most : Int), .slice (some ⟨fb, fo, none⟩) n c, .int .i64 (S.steps : Int), .bool S.said, .int .i64 (S.left : Int), .bool S.done, .bool S.down] rfl (RowIs.setRow HS5.out _) rfl _ rfl) rfl ⟨_, rfl, RefAt.of (HF.out.after HAX) (fun _ => ⟨rfl, rfl, rfl⟩) HO.out.left, HAX⟩
set_option maxRecDepth 100000 in
set_option maxHeartbeats 3200000 in
theorem rAppend_ok (S : Dk) (hS : Ok S) (ao : Option Addr) (n c : Nat) (nm : Nm) (hl : ∀ s ∈ [nm], s.length ≤ maxLen) (p : Nm) (hst : S.steps < 4611686018427387904) (w : World) (hf : FA w ao n c S.files) (h0 : refuse S [nm] = 0) (his : fhas nm S.files = true) (f : Fl) (hg : fget nm S.files = some f) (hfull : ¬ S.most - used S.files < p.length) :
    Calls Try.prog 35 #[.agg (rV S ao n c S.said S.left S.done), .string (strOf nm), .string (strOf p)] w (RPostR w (stepE S) (stepS S true (fput nm ⟨f.data ++ p, f.safe⟩ S.files))) := by
  have HL : Hid (∀ s ∈ [nm], s.length ≤ maxLen) := hl
  have HRR : Hid (refuse S [nm] = 0) := h0
  have HSTP : Hid (S.steps < 4611686018427387904) := hst
  clear hl h0 hst
  obtain ⟨P, hP⟩ : ∃ P, strOf p = P := ⟨_, rfl⟩
  have HP : Hid (strOf p = P) := hP
  obtain ⟨pn, hpn⟩ : ∃ pn, P.size = pn := ⟨_, rfl⟩
  have HPN : Hid (P.size = pn) := hpn
  have HPL2 : Hid (p.length = pn) := by unfold Hid; rw [← hpn, ← hP, strOf_size]
  obtain ⟨u, hu⟩ : ∃ u, used S.files = u := ⟨_, rfl⟩
  have HU : Hid (used S.files = u) := hu
  have HFULL : Hid (¬ S.most - u < pn) := by have := hfull; rw [hu, HPL2.out] at this; exact this
  have HSAFE : Hid (f.safe ≤ f.data.length) := hS.safe _ (fget_mem hg)
  rw [hP]
  clear hfull hP hpn hu
  have HIS : Hid (fhas nm S.files = true) := his
  have HG : Hid (fget nm S.files = some f) := hg
  have HFB : Hid (f.data.length ≤ 16777216) := by have h1 := used_mem (fget_mem hg); have h2 := hS.used; have h3 := hS.most; simp only at h1; unfold Hid; omega
  have HRI : Hid (rising S.files) := hS.ris
  clear his hg
  have HF : Hid (FA w ao n c S.files) := hf
  have HO : Hid (Ok S) := hS
  unfold rV
  clear hf hS
  go_enter Try.func35, Try.ntmps35
  go_wp2_with fail
  obtain ⟨w0, hw0⟩ : ∃ w0, ((w.alloc (.cells #[.int .i64 (S.most : Int), .slice ao n c, .int .i64 (S.steps : Int), .bool S.said, .int .i64 (S.left : Int), .bool S.done, .bool S.down] 27)).alloc (.cells #[.int .i64 0, .slice none 0 0, .int .i64 0, .bool false, .int .i64 0, .bool false, .bool false] 27)).alloc (.cells #[.string (strOf nm)] 9) = w0 := ⟨_, rfl⟩
  rw [hw0]
  have HA0 : Hid (After w w0) := by rw [← hw0]; exact after_alloc (after_alloc (after_alloc (After.refl w) _) _) _
  have HR0 : Hid (RowIs w0 w.heap.size 27 [.int .i64 (S.most : Int), .slice ao n c, .int .i64 (S.steps : Int), .bool S.said, .int .i64 (S.left : Int), .bool S.done, .bool S.down]) := by rw [← hw0]; exact ((RowIs.new w 27 _).alloc _).alloc _
  have HS0 : Hid (RowIs w0 (w.heap.size + 1) 27 [.int .i64 0, .slice none 0 0, .int .i64 0, .bool false, .int .i64 0, .bool false, .bool false]) := by rw [← hw0]; exact (row_last _ _ (by simp) _).alloc _
  have HST : Hid (StrsAt w0 (some ⟨w.heap.size + 1 + 1, 0, none⟩) [nm]) := by
    rw [← hw0]
    have := StrsAt.one ((w.alloc (.cells #[.int .i64 (S.most : Int), .slice ao n c, .int .i64 (S.steps : Int), .bool S.said, .int .i64 (S.left : Int), .bool S.done, .bool S.down] 27)).alloc (.cells #[.int .i64 0, .slice none 0 0, .int .i64 0, .bool false, .int .i64 0, .bool false, .bool false] 27)) nm 9
    rw [show ((w.alloc (.cells #[.int .i64 (S.most : Int), .slice ao n c, .int .i64 (S.steps : Int), .bool S.said, .int .i64 (S.left : Int), .bool S.done, .bool S.down] 27)).alloc (.cells #[.int .i64 0, .slice none 0 0, .int .i64 0, .bool false, .int .i64 0, .bool false, .bool false] 27)).heap.size = w.heap.size + 1 + 1 by simp] at this
    exact this
  clear hw0
  go_wp2_with (first
    | (go_at_call 44; refine (rFirst_any S ao n c S.said S.left S.done _ 1 [nm] (by simp) (by simp) (by simpa using HL.out) w0 HST.out).mono ?_; rw [HRR.out]; rintro e w1 ⟨rfl, h1⟩; have HR1 := show Hid (RowIs w1 _ _ _) from HR0.out.below h1 HR0.out.lt; have HS1 := show Hid (RowIs w1 _ _ _) from HS0.out.below h1 HS0.out.lt; have HA1 : Hid (After w w1) := After.trans HA0.out h1; clear h1)
    | (refine wpList_load_row rfl 27 _ rfl (w.heap.size) rfl 27 _ (0, 0) _ HR1.out Try.underlying27 rfl (by kernel_rfl) ?_)
    | (go_at_call 45; refine (placeR S HO.out ao n c S.said S.left S.done nm (HF.out.after HA1.out)).mono ?_; rw [HIS.out]; rintro e w2 ⟨k, hpl, rfl, h2⟩; have HPL := show Hid (Place nm S.files k) from hpl; have HR2 := show Hid (RowIs w2 _ _ _) from HR1.out.below h2 HR1.out.lt; have HS2 := show Hid (RowIs w2 _ _ _) from HS1.out.below h2 HS1.out.lt; have HA2 : Hid (After w w2) := After.trans HA1.out h2; clear h2 hpl; obtain ⟨f', hk, hg'⟩ := HPL.out.get HRI.out HIS.out; have hff : f' = f := (by have := HG.out; rw [hg'] at this; exact Option.some.inj this); subst hff; have hkn : k < n := (by have := (List.getElem?_eq_some_iff.1 hk).1; rw [HF.out.len] at this; exact this); have hki : (k : Int) < (n : Int) := (by omega); obtain ⟨fb, fo, hao, _, hfc⟩ := HF.out.at_ (by intro h; rw [h] at hk; simp at hk); obtain ⟨e0, e1, e2⟩ := hfc k _ hk; have d0 := cell_after HA2.out e0; have d1 := cell_after HA2.out e1; have d2 := cell_after HA2.out e2; have c1 := HR2.out.cell (j := 1) rfl; subst hao; simp only at d0 d1 d2; obtain ⟨s1, hs1⟩ : ∃ s1, strOf (f'.data.take f'.safe) = s1 := ⟨_, rfl⟩; obtain ⟨s2, hs2⟩ : ∃ s2, strOf (f'.data.drop f'.safe) = s2 := ⟨_, rfl⟩; have HSS : Hid (s1 ++ s2 = strOf f'.data) := (by rw [← hs1, ← hs2]; exact strOf_cat f'.data f'.safe); have HS12 : Hid (strOf (f'.data.take f'.safe) = s1 ∧ strOf (f'.data.drop f'.safe) = s2) := ⟨hs1, hs2⟩; have HSZ : Hid (s1.size + s2.size ≤ 16777216) := (by have := HFB.out; unfold Hid; rw [← hs1, ← hs2, strOf_size, strOf_size, List.length_take, List.length_drop]; omega); rw [hs1] at d1; rw [hs2] at d2; clear hfc e0 e1 e2 hs1 hs2 hg' hk))
  refine wp_region_noPanic ?_
  refine wp_region_held_drew (S := (fun W => RowIs W w.heap.size 27 [.int .i64 (S.most : Int), .slice (some ⟨fb, fo, none⟩) n c, .int .i64 (S.steps : Int), .bool S.said, .int .i64 (S.left : Int), .bool S.done, .bool S.down])) (by kernel_rfl) HR2.out.drew ?_
  intro hS0
  have hA0 : After w2 w2.drew := After.drew (After.refl w2)
  refine tk 0 33 (.string P) (fuel := 8) rfl (by kernel_rfl) (by kernel_rfl) (by kernel_rfl) (by kernel_rfl) noPanic_false (by kernel_rfl) (fun _ _ => by kernel_rfl) hS0 ?_
  refine tk 1 34 (.int .i64 (pn : Int)) (fuel := 7) rfl (by kernel_rfl) (by kernel_rfl) (by kernel_rfl) (by kernel_rfl) noPanic_false (by kernel_rfl) (fun W _ => by rw [← HPN.out]; kernel_rfl) hS0 ?_
  refine tk 2 35 (.pointer (some ⟨w.heap.size, 0, none⟩)) (fuel := 6) rfl (by kernel_rfl) (by kernel_rfl) (by kernel_rfl) (by kernel_rfl) noPanic_false (by kernel_rfl) (fun _ _ => by kernel_rfl) hS0 ?_
  refine tk 3 36 (.int .i64 (S.most : Int)) (fuel := 5) rfl (by kernel_rfl) (by kernel_rfl) (by kernel_rfl) (by kernel_rfl) noPanic_false (by kernel_rfl) (fun W hW => x_ld3 (x := .tmp 35) (g := w.heap.size) (p := 0) (by kernel_rfl) (by kernel_rfl) (hW.cell (j := 0) rfl)) hS0 ?_
  refine tk 4 37 (.agg #[.int .i64 (S.most : Int), .slice (some ⟨fb, fo, none⟩) n c, .int .i64 (S.steps : Int), .bool S.said, .int .i64 (S.left : Int), .bool S.done, .bool S.down]) (fuel := 4) rfl (by kernel_rfl) (by kernel_rfl) (by kernel_rfl) (by kernel_rfl) noPanic_false (by kernel_rfl) (fun W hW => x_row27 (x := .tmp 3) (g := w.heap.size) (by kernel_rfl) (by kernel_rfl) hW rfl) hS0 ?_
  refine tkCallS 5 38 41 #[.agg #[.int .i64 (S.most : Int), .slice (some ⟨fb, fo, none⟩) n c, .int .i64 (S.steps : Int), .bool S.said, .int .i64 (S.left : Int), .bool S.done, .bool S.down]] (fun v w' => v = .int .i64 (u : Int) ∧ After w2 w') (fuel := 3) rfl (by kernel_rfl) (by kernel_rfl) (by kernel_rfl) (fun _ => by kernel_rfl) ((usedR S HO.out (some ⟨fb, fo, none⟩) n c S.said S.left S.done _ ((HF.out.after HA2.out).after hA0)).mono (fun e w' ⟨he, h3⟩ => ⟨_, he, by rw [HU.out], After.trans hA0 h3⟩)) ?_
  rintro v5 w5 ⟨rfl, hA5⟩
  have hT5 := HR2.out.below hA5 HR2.out.lt
  refine ⟨hT5, ?_⟩
  refine tk 6 39 (.int .i64 ((S.most - u : Nat) : Int)) (fuel := 2) rfl (by kernel_rfl) (by kernel_rfl) (by kernel_rfl) (by kernel_rfl) noPanic_false (by kernel_rfl) (fun W _ => x_sub (x := .tmp 36) (y := .tmp 38) (p := S.most) (q := u) (by kernel_rfl) (by kernel_rfl) (by kernel_rfl) (by have := HO.out.used; have := HU.out; omega) HO.out.most) hT5 ?_
  refine tk 7 40 (.bool false) (fuel := 1) rfl (by kernel_rfl) (by kernel_rfl) (by kernel_rfl) (by kernel_rfl) noPanic_false (by kernel_rfl) (fun W _ => x_gtr (t := 3) (x := .tmp 34) (y := .tmp 39) (p := pn) (q := S.most - u) (by kernel_rfl) (by kernel_rfl) (by kernel_rfl) (by have := HFULL.out; omega)) hT5 ?_
  refine tk 8 32 (.bool false) (fuel := 0) rfl (by kernel_rfl) (by kernel_rfl) (by kernel_rfl) (by kernel_rfl) noPanic_false (by kernel_rfl) (fun _ _ => by kernel_rfl) hT5 ?_
  refine wpAnyH_done (by kernel_rfl) (NoPanic.normal ?_) _
  have HA5 : Hid (After w w5) := After.trans HA2.out hA5
  have HR5 := show Hid (RowIs w5 _ _ _) from hT5
  have HS5 := show Hid (RowIs w5 _ _ _) from HS2.out.below hA5 HS2.out.lt
  have c5 := cell_after hA5 c1
  have q0 := cell_after hA5 d0
  have q1 := cell_after hA5 d1
  have q2 := cell_after hA5 d2
  clear hS0 hA0 hT5 hA5 c1 d0 d1 d2
  go_simp
  have HSZ2 : Hid (s2.size + P.size ≤ 16777216) := by
    have h1 := HFULL.out; have h2 := HO.out.most; have h3 := HO.out.used; have h4 := used_mem (fget_mem HG.out)
    have h5 : s2.size ≤ f'.data.length := by rw [← HS12.out.2, strOf_size, List.length_drop]; omega
    rw [HU.out] at h3 h4; simp only at h4; rw [HPN.out]; unfold Hid; omega
  have HE1 : Hid (strOf ((f'.data ++ p).take f'.safe) = s1) := by unfold Hid; rw [List.take_append_of_le_length HSAFE.out]; exact HS12.out.1
  have HE2 : Hid (strOf ((f'.data ++ p).drop f'.safe) = s2 ++ P) := by unfold Hid; rw [List.drop_append_of_le_length HSAFE.out, ← strOf_app, HS12.out.2, HP.out]
  have z1 : s2.size + P.size ≤ 16777216 := HSZ2.out
  have z2 : ¬ (9223372036854775807 < s2.size + P.size) := by omega
  have z3 : ¬ ((9223372036854775807 : Int) < ((s2.size + P.size : Nat) : Int)) := by omega
  have z4 : ¬ ((9223372036854775807 : Int) < (s2.size : Int) + (P.size : Int)) := by omega
  go_wp2_with (first
    | (refine wpList_load_row rfl 27 _ rfl (w.heap.size) rfl 27 _ (0, 0) _ (HR5.out.alloc _) Try.underlying27 rfl (by kernel_rfl) ?_)
    | (go_at_call 59; refine (withR' S HO.out (some ⟨fb, fo, none⟩) n c nm ⟨f'.data ++ p, f'.safe⟩ s1 (s2 ++ P) HE1.out HE2.out (HF.out.after (after_alloc HA5.out _))).mono ?_; rintro e w6 ⟨a6, n6, c6, rfl, hf6, h6⟩; have HF6 := show Hid (FA w6 a6 n6 c6 _) from hf6; have HA6 : Hid (After w w6) := After.trans (after_alloc HA5.out _) h6; have HR6 := show Hid (RowIs w6 _ _ _) from (HR5.out.alloc _).below h6 (HR5.out.alloc _).lt; have HS6 := show Hid (RowIs w6 _ _ _) from (HS5.out.alloc _).below h6 (HS5.out.alloc _).lt; unfold rV; clear h6 hf6)
    | (refine wpList_load_row rfl 27 _ rfl (w.heap.size) rfl 27 _ (0, 0) _ (HR6.out.alloc _) Try.underlying27 rfl (by kernel_rfl) ?_)
    | (go_at_call 60; refine (stepR S HSTP.out HO.out.left (some ⟨fb, fo, none⟩) a6 a6 n c n6 c6 n6 c6 (fput nm ⟨f'.data ++ p, f'.safe⟩ S.files) true (HF6.out.after (after_alloc (After.refl w6) _)) (by simpa using HF6.out.after (after_alloc (After.refl w6) _))).mono ?_; rintro e w7 ⟨v1, rfl, hr7, h7⟩; obtain ⟨ao7, c7, ar7, lf7, dn7, hv7, _⟩ := hr7.ex; have HA7 : Hid (After w w7) := After.trans (after_alloc HA6.out _) h7; have HS7 := show Hid (RowIs w7 _ _ _) from (HS6.out.alloc _).below h7 (HS6.out.alloc _).lt; subst hv7; have HR7 := show Hid (RefAt w7 _ _) from hr7; unfold rV; clear h7 hr7)
    | (refine wpList_store_row rfl 27 _ _ rfl (w.heap.size + 1) _ rfl rfl 27 _ HS7.out (by kernel_rfl) rfl (by kernel_rfl) ?_))
  exact bodyPost_ret (ret27t Try.results35 _ _ (w.heap.size + 1) [_, _, _, _, _, _, _] rfl (RowIs.setRow HS7.out _) rfl _ rfl) rfl ⟨_, rfl, HR7.out.setRow HS7.out _, after_setRow HA7.out (Nat.le_succ _) _⟩
theorem appendR (S : Dk) (hS : Ok S) (hst : S.steps < 4611686018427387904) (nm : Nm) (hl : nm.length ≤ maxLen) (p : Nm) (w : World) (v : Value) (h : RefAt w v S) : Calls Try.prog 35 #[v, .string (strOf nm), .string (strOf p)] w (RPostR w (appendE S nm p) (appendS S nm p)) := by
  obtain ⟨ao, c, ar, lf, dn, rfl, hat, hc, hrel, hlf, hz⟩ := h.ex
  have hf : FA w ao S.files.length c S.files := ⟨hat, rfl, hc, hz⟩
  have hl' : ∀ s ∈ [nm], s.length ≤ maxLen := by simpa using hl
  unfold appendE appendS
  rcases find_cases S nm with ⟨h0, hi, he⟩ | ⟨h0, hi, he⟩ | ⟨h0, he⟩
  · obtain ⟨rfl, rfl, rfl⟩ := hrel (refuse_up h0)
    rw [if_pos he, if_pos he]
    by_cases hfu : S.most - used S.files < p.length
    · rw [if_pos hfu, if_pos hfu]; exact rAppend_full S hS ao _ c nm hl' p hst w hf h0 hi _ (getF_of he) hfu
    · rw [if_neg hfu, if_neg hfu]; exact rAppend_ok S hS ao _ c nm hl' p hst w hf h0 hi _ (getF_of he) hfu
  · obtain ⟨rfl, rfl, rfl⟩ := hrel (refuse_up h0)
    rw [if_neg (by omega), if_neg (by omega), he]; exact rAppend_none S hS ao _ c nm hl' p hst w hf h0 hi
  · rw [if_neg (by omega), if_neg (by omega), he]
    exact rAppend_refused S hS ao _ c ar lf dn hrel hlf nm hl' p w hf _ rfl h0
end Go.Proofs.Ytlbodickflljfaa
