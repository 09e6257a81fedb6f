/-
  THE WALK OF (stemmaref05.Disk).Rename.
-/
import Derived.Test.YtlbodickflljfaaRefCut
namespace Go.Proofs.Ytlbodickflljfaa
open Go.RowKit Go.Maps Dsk
theorem ok_del {S : Dk} (h : Ok S) (nm : Nm) : Ok { S with files := fdel nm S.files } :=
  ⟨h.most, Nat.le_trans (used_del_le nm S.files) h.used, Nat.le_trans (fdel_len nm S.files) h.count, fdel_rising nm h.ris, fun p hp => h.named p ((fdel_mem nm S.files p).1 hp).1, fun p hp => h.safe p ((fdel_mem nm S.files p).1 hp).1, h.left⟩
set_option maxRecDepth 100000 in
set_option maxHeartbeats 3200000 in
theorem rRename_refused (S : Dk) (hS : Ok S) (ao : Option Addr) (n c : Nat) (ar : Bool) (lf : Nat) (dn : Bool) (hrel : S.down = false → ar = S.said ∧ lf = S.left ∧ dn = S.done) (hlf : lf < 9223372036854775808) (old : Nm) (now : Nm) (hl : ∀ s ∈ [old, now], s.length ≤ maxLen)  (w : World) (hf : FA w ao n c S.files) (r : Nat) (hr : refuse S [old, now] = r) (h0 : ¬ r = 0) :
    Calls Try.prog 37 #[.agg (rV S ao n c ar lf dn), .string (strOf old), .string (strOf now)] w (RPostR w r S) := by
  have HREL : Hid ((S.down = false → ar = S.said ∧ lf = S.left ∧ dn = S.done) ∧ lf < 9223372036854775808) := ⟨hrel, hlf⟩
  have HL : Hid (∀ s ∈ [old, now], s.length ≤ maxLen) := hl
  have HRR : Hid (refuse S [old, now] = r) := hr
  have h0' : ((r : Int) != 0) = true := by simp; omega
  obtain ⟨is, his⟩ : ∃ is, fhas old S.files = is := ⟨_, rfl⟩
  have HIS : Hid (fhas old S.files = is) := his
  clear hrel hlf hl hr his
  have HF : Hid (FA w ao n c S.files) := hf
  have HO : Hid (Ok S) := hS
  unfold rV
  clear hf hS
  go_enter Try.func37, Try.ntmps37
  go_wp2_with fail
  obtain ⟨w0, hw0⟩ : ∃ w0, ((w.alloc (.cells #[.int .i64 (S.most : Int), .slice ao n c, .int .i64 (S.steps : Int), .bool ar, .int .i64 (lf : Int), .bool dn, .bool S.down] 27)).alloc (.cells #[.int .i64 0, .slice none 0 0, .int .i64 0, .bool false, .int .i64 0, .bool false, .bool false] 27)).alloc (.cells #[.string (strOf old), .string (strOf now)] 9) = w0 := ⟨_, rfl⟩
  rw [hw0]
  have HA0 : Hid (After w w0) := by rw [← hw0]; exact after_alloc (after_alloc (after_alloc (After.refl w) _) _) _
  have HR0 : Hid (RowIs w0 w.heap.size 27 [.int .i64 (S.most : Int), .slice ao n c, .int .i64 (S.steps : Int), .bool ar, .int .i64 (lf : Int), .bool dn, .bool S.down]) := by rw [← hw0]; exact ((RowIs.new w 27 _).alloc _).alloc _
  have HS0 : Hid (RowIs w0 (w.heap.size + 1) 27 [.int .i64 0, .slice none 0 0, .int .i64 0, .bool false, .int .i64 0, .bool false, .bool false]) := by rw [← hw0]; exact (row_last _ _ (by simp) _).alloc _
  have HST : Hid (StrsAt w0 (some ⟨w.heap.size + 1 + 1, 0, none⟩) [old, now]) := by
    rw [← hw0]
    have := StrsAt.two ((w.alloc (.cells #[.int .i64 (S.most : Int), .slice ao n c, .int .i64 (S.steps : Int), .bool ar, .int .i64 (lf : Int), .bool dn, .bool S.down] 27)).alloc (.cells #[.int .i64 0, .slice none 0 0, .int .i64 0, .bool false, .int .i64 0, .bool false, .bool false] 27)) old now 9
    rw [show ((w.alloc (.cells #[.int .i64 (S.most : Int), .slice ao n c, .int .i64 (S.steps : Int), .bool ar, .int .i64 (lf : Int), .bool dn, .bool S.down] 27)).alloc (.cells #[.int .i64 0, .slice none 0 0, .int .i64 0, .bool false, .int .i64 0, .bool false, .bool false] 27)).heap.size = w.heap.size + 1 + 1 by simp] at this
    exact this
  clear hw0
  go_wp2_with (first
    | (go_at_call 44; refine (rFirst_any S ao n c ar lf dn _ 2 [old, now] (by simp) (by simp) (by simpa using HL.out) w0 HST.out).mono ?_; rw [HRR.out]; rintro e w1 ⟨rfl, h1⟩; have HR1 := show Hid (RowIs w1 _ _ _) from HR0.out.below h1 HR0.out.lt; have HS1 := show Hid (RowIs w1 _ _ _) from HS0.out.below h1 HS0.out.lt; have HA1 : Hid (After w w1) := After.trans HA0.out h1; clear h1)
    | (refine wpList_load_row rfl 27 _ rfl (w.heap.size) rfl 27 _ (0, 0) _ HR1.out Try.underlying27 rfl (by kernel_rfl) ?_)
    | (go_at_call 45; refine (placeR S HO.out ao n c ar lf dn old (HF.out.after HA1.out)).mono ?_; rw [HIS.out]; rintro e w2 ⟨k, hpl, rfl, h2⟩; have HPL := show Hid (Place _ _ _) from hpl; have HR2 := show Hid (RowIs w2 _ _ _) from HR1.out.below h2 HR1.out.lt; have HS2 := show Hid (RowIs w2 _ _ _) from HS1.out.below h2 HS1.out.lt; have HA2 : Hid (After w w2) := After.trans HA1.out h2; clear h2 hpl)
    | (refine wpList_load_row rfl 27 _ rfl (w.heap.size) rfl 27 _ (0, 0) _ HR2.out Try.underlying27 rfl (by kernel_rfl) ?_)
    | (refine wpList_store_row rfl 27 _ _ rfl (w.heap.size + 1) _ rfl rfl 27 _ HS2.out (by kernel_rfl) rfl (by kernel_rfl) ?_))
  have HAX := after_setRow (g := w.heap.size + 1) HA2.out (Nat.le_succ _) [.int .i64 (S.most : Int), .slice ao n c, .int .i64 (S.steps : Int), .bool ar, .int .i64 (lf : Int), .bool dn, .bool S.down].toArray
  exact bodyPost_ret (ret27t Try.results37 _ _ (w.heap.size + 1) [.int .i64 (S.most : Int), .slice ao n c, .int .i64 (S.steps : Int), .bool ar, .int .i64 (lf : Int), .bool dn, .bool S.down] rfl (RowIs.setRow HS2.out _) rfl _ rfl) rfl ⟨_, rfl, RefAt.of (HF.out.after HAX) HREL.out.1 HREL.out.2, after_setRow HA2.out (Nat.le_succ _) _⟩
set_option maxRecDepth 100000 in
set_option maxHeartbeats 3200000 in
theorem rRename_none (S : Dk) (hS : Ok S) (ao : Option Addr) (n c : Nat) (old : Nm) (now : Nm) (hl : ∀ s ∈ [old, now], s.length ≤ maxLen)  (hst : S.steps < 4611686018427387904) (w : World) (hf : FA w ao n c S.files) (h0 : refuse S [old, now] = 0) (his : fhas old S.files = false) :
    Calls Try.prog 37 #[.agg (rV S ao n c S.said S.left S.done), .string (strOf old), .string (strOf now)] w (RPostR w 22 S) := by
  have HL : Hid (∀ s ∈ [old, now], s.length ≤ maxLen) := hl
  have HRR : Hid (refuse S [old, now] = 0) := h0
  have HSTP : Hid (S.steps < 4611686018427387904) := hst
  clear hl h0 hst
  have HIS : Hid (fhas old S.files = false) := his
  clear his
  have HF : Hid (FA w ao n c S.files) := hf
  have HO : Hid (Ok S) := hS
  unfold rV
  clear hf hS
  go_enter Try.func37, Try.ntmps37
  go_wp2_with fail
  obtain ⟨w0, hw0⟩ : ∃ w0, ((w.alloc (.cells #[.int .i64 (S.most : Int), .slice ao n c, .int .i64 (S.steps : Int), .bool S.said, .int .i64 (S.left : Int), .bool S.done, .bool S.down] 27)).alloc (.cells #[.int .i64 0, .slice none 0 0, .int .i64 0, .bool false, .int .i64 0, .bool false, .bool false] 27)).alloc (.cells #[.string (strOf old), .string (strOf now)] 9) = w0 := ⟨_, rfl⟩
  rw [hw0]
  have HA0 : Hid (After w w0) := by rw [← hw0]; exact after_alloc (after_alloc (after_alloc (After.refl w) _) _) _
  have HR0 : Hid (RowIs w0 w.heap.size 27 [.int .i64 (S.most : Int), .slice ao n c, .int .i64 (S.steps : Int), .bool S.said, .int .i64 (S.left : Int), .bool S.done, .bool S.down]) := by rw [← hw0]; exact ((RowIs.new w 27 _).alloc _).alloc _
  have HS0 : Hid (RowIs w0 (w.heap.size + 1) 27 [.int .i64 0, .slice none 0 0, .int .i64 0, .bool false, .int .i64 0, .bool false, .bool false]) := by rw [← hw0]; exact (row_last _ _ (by simp) _).alloc _
  have HST : Hid (StrsAt w0 (some ⟨w.heap.size + 1 + 1, 0, none⟩) [old, now]) := by
    rw [← hw0]
    have := StrsAt.two ((w.alloc (.cells #[.int .i64 (S.most : Int), .slice ao n c, .int .i64 (S.steps : Int), .bool S.said, .int .i64 (S.left : Int), .bool S.done, .bool S.down] 27)).alloc (.cells #[.int .i64 0, .slice none 0 0, .int .i64 0, .bool false, .int .i64 0, .bool false, .bool false] 27)) old now 9
    rw [show ((w.alloc (.cells #[.int .i64 (S.most : Int), .slice ao n c, .int .i64 (S.steps : Int), .bool S.said, .int .i64 (S.left : Int), .bool S.done, .bool S.down] 27)).alloc (.cells #[.int .i64 0, .slice none 0 0, .int .i64 0, .bool false, .int .i64 0, .bool false, .bool false] 27)).heap.size = w.heap.size + 1 + 1 by simp] at this
    exact this
  clear hw0
  go_wp2_with (first
    | (go_at_call 44; refine (rFirst_any S ao n c S.said S.left S.done _ 2 [old, now] (by simp) (by simp) (by simpa using HL.out) w0 HST.out).mono ?_; rw [HRR.out]; rintro e w1 ⟨rfl, h1⟩; have HR1 := show Hid (RowIs w1 _ _ _) from HR0.out.below h1 HR0.out.lt; have HS1 := show Hid (RowIs w1 _ _ _) from HS0.out.below h1 HS0.out.lt; have HA1 : Hid (After w w1) := After.trans HA0.out h1; clear h1)
    | (refine wpList_load_row rfl 27 _ rfl (w.heap.size) rfl 27 _ (0, 0) _ HR1.out Try.underlying27 rfl (by kernel_rfl) ?_)
    | (go_at_call 45; refine (placeR S HO.out ao n c S.said S.left S.done old (HF.out.after HA1.out)).mono ?_; rw [HIS.out]; rintro e w2 ⟨k, hpl, rfl, h2⟩; have HPL := show Hid (Place _ _ _) from hpl; have HR2 := show Hid (RowIs w2 _ _ _) from HR1.out.below h2 HR1.out.lt; have HS2 := show Hid (RowIs w2 _ _ _) from HS1.out.below h2 HS1.out.lt; have HA2 : Hid (After w w2) := After.trans HA1.out h2; clear h2 hpl)
    | (refine wpList_load_row rfl 27 _ rfl (w.heap.size) rfl 27 _ (0, 0) _ HR2.out Try.underlying27 rfl (by kernel_rfl) ?_)
    | (refine wpList_store_row rfl 27 _ _ rfl (w.heap.size + 1) _ rfl rfl 27 _ HS2.out (by kernel_rfl) rfl (by kernel_rfl) ?_))
  have HAX := after_setRow (g := w.heap.size + 1) HA2.out (Nat.le_succ _) [.int .i64 (S.most : Int), .slice ao n c, .int .i64 (S.steps : Int), .bool S.said, .int .i64 (S.left : Int), .bool S.done, .bool S.down].toArray
  exact bodyPost_ret (ret27t Try.results37 _ _ (w.heap.size + 1) [.int .i64 (S.most : Int), .slice ao n c, .int .i64 (S.steps : Int), .bool S.said, .int .i64 (S.left : Int), .bool S.done, .bool S.down] rfl (RowIs.setRow HS2.out _) rfl _ rfl) rfl ⟨_, rfl, RefAt.of (HF.out.after HAX) (fun _ => ⟨rfl, rfl, rfl⟩) HO.out.left, after_setRow HA2.out (Nat.le_succ _) _⟩
set_option maxRecDepth 100000 in
set_option maxHeartbeats 3200000 in
theorem rRename_ok (S : Dk) (hS : Ok S) (ao : Option Addr) (n c : Nat) (old : Nm) (now : Nm) (hl : ∀ s ∈ [old, now], s.length ≤ maxLen)  (hst : S.steps < 4611686018427387904) (w : World) (hf : FA w ao n c S.files) (h0 : refuse S [old, now] = 0) (his : fhas old S.files = true) (f : Fl) (hg : fget old S.files = some f) :
    Calls Try.prog 37 #[.agg (rV S ao n c S.said S.left S.done), .string (strOf old), .string (strOf now)] w (RPostR w (stepE S) (stepS S S.done (fput now f (fdel old S.files)))) := by
  have HL : Hid (∀ s ∈ [old, now], s.length ≤ maxLen) := hl
  have HRR : Hid (refuse S [old, now] = 0) := h0
  have HSTP : Hid (S.steps < 4611686018427387904) := hst
  clear hl h0 hst
  have HIS : Hid (fhas old S.files = true) := his
  have HG : Hid (fget old S.files = some f) := hg
  have HFB : Hid (f.data.length ≤ 16777216) := by have h1 := used_mem (fget_mem hg); have h2 := hS.used; have h3 := hS.most; simp only at h1; unfold Hid; omega
  have HRI : Hid (rising S.files) := hS.ris
  clear his hg
  have HF : Hid (FA w ao n c S.files) := hf
  have HO : Hid (Ok S) := hS
  unfold rV
  clear hf hS
  go_enter Try.func37, Try.ntmps37
  go_wp2_with fail
  obtain ⟨w0, hw0⟩ : ∃ w0, ((w.alloc (.cells #[.int .i64 (S.most : Int), .slice ao n c, .int .i64 (S.steps : Int), .bool S.said, .int .i64 (S.left : Int), .bool S.done, .bool S.down] 27)).alloc (.cells #[.int .i64 0, .slice none 0 0, .int .i64 0, .bool false, .int .i64 0, .bool false, .bool false] 27)).alloc (.cells #[.string (strOf old), .string (strOf now)] 9) = w0 := ⟨_, rfl⟩
  rw [hw0]
  have HA0 : Hid (After w w0) := by rw [← hw0]; exact after_alloc (after_alloc (after_alloc (After.refl w) _) _) _
  have HR0 : Hid (RowIs w0 w.heap.size 27 [.int .i64 (S.most : Int), .slice ao n c, .int .i64 (S.steps : Int), .bool S.said, .int .i64 (S.left : Int), .bool S.done, .bool S.down]) := by rw [← hw0]; exact ((RowIs.new w 27 _).alloc _).alloc _
  have HS0 : Hid (RowIs w0 (w.heap.size + 1) 27 [.int .i64 0, .slice none 0 0, .int .i64 0, .bool false, .int .i64 0, .bool false, .bool false]) := by rw [← hw0]; exact (row_last _ _ (by simp) _).alloc _
  have HST : Hid (StrsAt w0 (some ⟨w.heap.size + 1 + 1, 0, none⟩) [old, now]) := by
    rw [← hw0]
    have := StrsAt.two ((w.alloc (.cells #[.int .i64 (S.most : Int), .slice ao n c, .int .i64 (S.steps : Int), .bool S.said, .int .i64 (S.left : Int), .bool S.done, .bool S.down] 27)).alloc (.cells #[.int .i64 0, .slice none 0 0, .int .i64 0, .bool false, .int .i64 0, .bool false, .bool false] 27)) old now 9
    rw [show ((w.alloc (.cells #[.int .i64 (S.most : Int), .slice ao n c, .int .i64 (S.steps : Int), .bool S.said, .int .i64 (S.left : Int), .bool S.done, .bool S.down] 27)).alloc (.cells #[.int .i64 0, .slice none 0 0, .int .i64 0, .bool false, .int .i64 0, .bool false, .bool false] 27)).heap.size = w.heap.size + 1 + 1 by simp] at this
    exact this
  clear hw0
  go_wp2_with (first
    | (go_at_call 44; refine (rFirst_any S ao n c S.said S.left S.done _ 2 [old, now] (by simp) (by simp) (by simpa using HL.out) w0 HST.out).mono ?_; rw [HRR.out]; rintro e w1 ⟨rfl, h1⟩; have HR1 := show Hid (RowIs w1 _ _ _) from HR0.out.below h1 HR0.out.lt; have HS1 := show Hid (RowIs w1 _ _ _) from HS0.out.below h1 HS0.out.lt; have HA1 : Hid (After w w1) := After.trans HA0.out h1; clear h1)
    | (refine wpList_load_row rfl 27 _ rfl (w.heap.size) rfl 27 _ (0, 0) _ HR1.out Try.underlying27 rfl (by kernel_rfl) ?_)
    | (go_at_call 45; refine (placeR S HO.out ao n c S.said S.left S.done old (HF.out.after HA1.out)).mono ?_; rw [HIS.out]; rintro e w2 ⟨k, hpl, rfl, h2⟩; have HPL := show Hid (Place old S.files k) from hpl; have HR2 := show Hid (RowIs w2 _ _ _) from HR1.out.below h2 HR1.out.lt; have HS2 := show Hid (RowIs w2 _ _ _) from HS1.out.below h2 HS1.out.lt; have HA2 : Hid (After w w2) := After.trans HA1.out h2; clear h2 hpl; obtain ⟨f', hk, hg'⟩ := HPL.out.get HRI.out HIS.out; have hff : f' = f := (by have := HG.out; rw [hg'] at this; exact Option.some.inj this); subst hff; have hkn : k < n := (by have := (List.getElem?_eq_some_iff.1 hk).1; rw [HF.out.len] at this; exact this); have hki : (k : Int) < (n : Int) := (by omega); obtain ⟨fb, fo, hao, _, hfc⟩ := HF.out.at_ (by intro h; rw [h] at hk; simp at hk); obtain ⟨e0, e1, e2⟩ := hfc k _ hk; have d0 := cell_after HA2.out e0; have d1 := cell_after HA2.out e1; have d2 := cell_after HA2.out e2; have c1 := HR2.out.cell (j := 1) rfl; subst hao; simp only at d0 d1 d2; obtain ⟨s1, hs1⟩ : ∃ s1, strOf (f'.data.take f'.safe) = s1 := ⟨_, rfl⟩; obtain ⟨s2, hs2⟩ : ∃ s2, strOf (f'.data.drop f'.safe) = s2 := ⟨_, rfl⟩; have HSS : Hid (s1 ++ s2 = strOf f'.data) := (by rw [← hs1, ← hs2]; exact strOf_cat f'.data f'.safe); have HS12 : Hid (strOf (f'.data.take f'.safe) = s1 ∧ strOf (f'.data.drop f'.safe) = s2) := ⟨hs1, hs2⟩; have HSZ : Hid (s1.size + s2.size ≤ 16777216) := (by have := HFB.out; unfold Hid; rw [← hs1, ← hs2, strOf_size, strOf_size, List.length_take, List.length_drop]; omega); rw [hs1] at d1; rw [hs2] at d2; clear hfc e0 e1 e2 hs1 hs2 hg' hk))
  obtain ⟨gf, hgf⟩ : ∃ gf, w2.heap.size = gf := ⟨_, rfl⟩
  obtain ⟨w3, hw3⟩ : ∃ w3, w2.alloc (.cells #[.string (strOf old), .string s1, .string s2] 75) = w3 := ⟨_, rfl⟩
  rw [hgf, hw3]
  have hA23 : After w2 w3 := by rw [← hw3]; exact after_alloc (After.refl w2) _
  have HT3 : Hid (RowIs w3 gf 75 [.string (strOf old), .string s1, .string s2]) := by rw [← hw3, ← hgf]; exact RowIs.new w2 75 _
  have HR3 := show Hid (RowIs w3 _ _ _) from HR2.out.below hA23 HR2.out.lt
  have HS3 := show Hid (RowIs w3 _ _ _) from HS2.out.below hA23 HS2.out.lt
  have HA3 : Hid (After w w3) := After.trans HA2.out hA23
  have HGF : Hid (w.heap.size + 1 < gf) := by have := HS2.out.lt; unfold Hid; omega
  clear hgf hw3 hA23 d0 d1 d2 c1
  refine wp_region_noPanic ?_
  refine wp_region_held_drew (S := (fun W => RowIs W w.heap.size 27 [.int .i64 (S.most : Int), .slice (some ⟨fb, fo, none⟩) n c, .int .i64 (S.steps : Int), .bool S.said, .int .i64 (S.left : Int), .bool S.done, .bool S.down] ∧ RowIs W gf 75 [.string (strOf old), .string s1, .string s2])) (by kernel_rfl) ⟨HR3.out.drew, HT3.out.drew⟩ ?_
  intro hS0
  have hA0 : After w3 w3.drew := After.drew (After.refl w3)
  refine tk 0 38 (.agg #[.int .i64 (S.most : Int), .slice (some ⟨fb, fo, none⟩) n c, .int .i64 (S.steps : Int), .bool S.said, .int .i64 (S.left : Int), .bool S.done, .bool S.down]) (fuel := 11) rfl (by kernel_rfl) (by kernel_rfl) (by kernel_rfl) (by kernel_rfl) noPanic_false (by kernel_rfl) (fun W hW => x_row27 (x := .tmp 3) (g := w.heap.size) (by kernel_rfl) (by kernel_rfl) hW.1 rfl) hS0 ?_
  refine tk 1 39 (.string (strOf old)) (fuel := 10) rfl (by kernel_rfl) (by kernel_rfl) (by kernel_rfl) (by kernel_rfl) noPanic_false (by kernel_rfl) (fun _ _ => by kernel_rfl) hS0 ?_
  refine tk 3 41 (.string (strOf now)) (fuel := 9) rfl (by kernel_rfl) (by kernel_rfl) (by kernel_rfl) (by kernel_rfl) noPanic_false (by kernel_rfl) (fun _ _ => by kernel_rfl) hS0 ?_
  refine tk 4 42 (.pointer (some ⟨gf, 1, none⟩)) (fuel := 8) rfl (by kernel_rfl) (by kernel_rfl) (by kernel_rfl) (by kernel_rfl) noPanic_false (by kernel_rfl) (fun _ _ => by kernel_rfl) hS0 ?_
  refine tk 5 43 (.string s1) (fuel := 7) rfl (by kernel_rfl) (by kernel_rfl) (by kernel_rfl) (by kernel_rfl) noPanic_false (by kernel_rfl) (fun W hW => x_ld9 (x := .tmp 42) (g := gf) (p := 1) (by kernel_rfl) (by kernel_rfl) (hW.2.cell (j := 1) rfl)) hS0 ?_
  refine tk 6 44 (.pointer (some ⟨gf, 2, none⟩)) (fuel := 6) rfl (by kernel_rfl) (by kernel_rfl) (by kernel_rfl) (by kernel_rfl) noPanic_false (by kernel_rfl) (fun _ _ => by kernel_rfl) hS0 ?_
  refine tk 7 45 (.string s2) (fuel := 5) rfl (by kernel_rfl) (by kernel_rfl) (by kernel_rfl) (by kernel_rfl) noPanic_false (by kernel_rfl) (fun W hW => x_ld9 (x := .tmp 44) (g := gf) (p := 2) (by kernel_rfl) (by kernel_rfl) (hW.2.cell (j := 2) rfl)) hS0 ?_
  refine tk 8 46 (.agg #[.string (strOf now), .string s1, .string s2]) (fuel := 4) rfl (by kernel_rfl) (by kernel_rfl) (by kernel_rfl) (by kernel_rfl) noPanic_false (by kernel_rfl) (fun _ _ => by kernel_rfl) hS0 ?_
  refine wpAnyH_all (rs := [2, 10]) (by kernel_rfl) (by simp) (fun i hi => ?_)
  have hi2 : i = 2 ∨ i = 10 := by simpa using hi
  clear hi
  rcases hi2 with rfl | rfl
  · refine opCall 2 40 62 #[.agg #[.int .i64 (S.most : Int), .slice (some ⟨fb, fo, none⟩) n c, .int .i64 (S.steps : Int), .bool S.said, .int .i64 (S.left : Int), .bool S.done, .bool S.down], .string (strOf old)] (fun v w' => ∃ a2 n2 c2, v = .agg #[.int .i64 (S.most : Int), .slice a2 n2 c2, .int .i64 (S.steps : Int), .bool S.said, .int .i64 (S.left : Int), .bool S.done, .bool S.down] ∧ FA w' a2 n2 c2 (fdel old S.files) ∧ After w3.drew w') rfl (by kernel_rfl) (by kernel_rfl) (fun _ => by kernel_rfl) ((withoutR S HO.out (some ⟨fb, fo, none⟩) n c old ((HF.out.after HA3.out).after hA0)).mono (fun e w' ⟨a2, n2, c2, he, h2, h3⟩ => ⟨_, he, a2, n2, c2, rfl, h2, h3⟩)) ?_
    rintro v5 w5 ⟨a5, n5, c5, rfl, hf5, hA5'⟩
    have hA5 : After w3 w5 := After.trans hA0 hA5'
    refine ⟨⟨HR3.out.below hA5 HR3.out.lt, HT3.out.below hA5 HT3.out.lt⟩, ?_⟩
    refine wpAnyH_all (rs := [9, 10]) (by kernel_rfl) (by simp) (fun i hi => ?_)
    have hi2 : i = 9 ∨ i = 10 := by simpa using hi
    clear hi
    rcases hi2 with rfl | rfl
    · refine opCall 9 47 59 #[.agg #[.int .i64 (S.most : Int), .slice a5 n5 c5, .int .i64 (S.steps : Int), .bool S.said, .int .i64 (S.left : Int), .bool S.done, .bool S.down], .agg #[.string (strOf now), .string s1, .string s2]] (fun v w' => ∃ a2 n2 c2, v = .agg #[.int .i64 (S.most : Int), .slice a2 n2 c2, .int .i64 (S.steps : Int), .bool S.said, .int .i64 (S.left : Int), .bool S.done, .bool S.down] ∧ FA w' a2 n2 c2 (fput now f' (fdel old S.files)) ∧ After w5 w') rfl (by kernel_rfl) (by kernel_rfl) (fun _ => by kernel_rfl) ((withR' { S with files := fdel old S.files } (ok_del HO.out old) a5 n5 c5 now f' s1 s2 HS12.out.1 HS12.out.2 (hf5)).mono (fun e w' ⟨a2, n2, c2, he, h2, h3⟩ => ⟨_, he, a2, n2, c2, rfl, h2, h3⟩)) ?_
      rintro v6 w6 ⟨a3, n3, c3, rfl, hf6, hA6'⟩
      have hA6 : After w3 w6 := After.trans hA5 hA6'
      refine ⟨⟨HR3.out.below hA6 HR3.out.lt, HT3.out.below hA6 HT3.out.lt⟩, ?_⟩
      refine tkAlloc 10 12 27 #[.int .i64 0, .slice none 0 0, .int .i64 0, .bool false, .int .i64 0, .bool false, .bool false] (fuel := 1) rfl (by kernel_rfl) (by kernel_rfl) (by kernel_rfl) (fun _ => by kernel_rfl) ⟨(HR3.out.below hA6 HR3.out.lt).alloc _, (HT3.out.below hA6 HT3.out.lt).alloc _⟩ ?_
      have hz := row_last w6 _ rfl [.int .i64 0, .slice none 0 0, .int .i64 0, .bool false, .int .i64 0, .bool false, .bool false]
      have hA7 : After w3 (w6.alloc (.cells #[.int .i64 0, .slice none 0 0, .int .i64 0, .bool false, .int .i64 0, .bool false, .bool false] 27)) := after_alloc hA6 _
      have hT9 := And.intro (HR3.out.below hA7 HR3.out.lt) (HT3.out.below hA7 HT3.out.lt)
      refine tkStore 11 w6.heap.size 27 (.tmp 12) (.tmp 47) #[.int .i64 (S.most : Int), .slice a3 n3 c3, .int .i64 (S.steps : Int), .bool S.said, .int .i64 (S.left : Int), .bool S.done, .bool S.down] #[.int .i64 0, .slice none 0 0, .int .i64 0, .bool false, .int .i64 0, .bool false, .bool false] 27 (fuel := 0) rfl (by kernel_rfl) (by kernel_rfl) (by kernel_rfl) (by kernel_rfl) (by kernel_rfl) (by kernel_rfl) hz (by kernel_rfl) rfl (by kernel_rfl) ⟨hT9.1.setRow_other _ (by have := HR3.out.lt; have : w3.heap.size ≤ w6.heap.size := hA6.size; omega), hT9.2.setRow_other _ (by have := HT3.out.lt; have : w3.heap.size ≤ w6.heap.size := hA6.size; omega)⟩ ?_
      refine wpAnyH_done (by kernel_rfl) (NoPanic.normal ?_) _
      have hA34 : After w3 ((w6.alloc (.cells #[.int .i64 0, .slice none 0 0, .int .i64 0, .bool false, .int .i64 0, .bool false, .bool false] 27)).setRow w6.heap.size #[.int .i64 (S.most : Int), .slice a3 n3 c3, .int .i64 (S.steps : Int), .bool S.said, .int .i64 (S.left : Int), .bool S.done, .bool S.down]) := after_setRow hA7 hA6.size _
      have HF3x := (hf6.after (after_alloc (After.refl w6) (.cells #[.int .i64 0, .slice none 0 0, .int .i64 0, .bool false, .int .i64 0, .bool false, .bool false] 27))).setRow hz #[.int .i64 (S.most : Int), .slice a3 n3 c3, .int .i64 (S.steps : Int), .bool S.said, .int .i64 (S.left : Int), .bool S.done, .bool S.down]
      have HT4x := RowIs.setRow hz [.int .i64 (S.most : Int), .slice a3 n3 c3, .int .i64 (S.steps : Int), .bool S.said, .int .i64 (S.left : Int), .bool S.done, .bool S.down]
      have HG3x : w.heap.size + 1 < w6.heap.size := by have := HS3.out.lt; have : w3.heap.size ≤ w6.heap.size := hA6.size; omega
      obtain ⟨g3, hg3⟩ : ∃ g3, w6.heap.size = g3 := ⟨_, rfl⟩
      rw [hg3] at hA34 HF3x HT4x HG3x ⊢
      obtain ⟨w4, hw4⟩ : ∃ w4, (w6.alloc (.cells #[.int .i64 0, .slice none 0 0, .int .i64 0, .bool false, .int .i64 0, .bool false, .bool false] 27)).setRow g3 #[.int .i64 (S.most : Int), .slice a3 n3 c3, .int .i64 (S.steps : Int), .bool S.said, .int .i64 (S.left : Int), .bool S.done, .bool S.down] = w4 := ⟨_, rfl⟩
      have hw4' : (w6.alloc (.cells #[.int .i64 0, .slice none 0 0, .int .i64 0, .bool false, .int .i64 0, .bool false, .bool false] 27)).setRow g3 [.int .i64 (S.most : Int), .slice a3 n3 c3, .int .i64 (S.steps : Int), .bool S.said, .int .i64 (S.left : Int), .bool S.done, .bool S.down].toArray = w4 := hw4
      rw [hw4] at hA34 HF3x ⊢
      rw [hw4'] at HT4x
      clear hw4 hw4' hg3 hT9
      have HR4 := show Hid (RowIs w4 _ _ _) from HR3.out.below hA34 HR3.out.lt
      have HS4 := show Hid (RowIs w4 _ _ _) from HS3.out.below hA34 HS3.out.lt
      have HA4 : Hid (After w w4) := After.trans HA3.out hA34
      have HT4 : Hid (RowIs w4 g3 27 [.int .i64 (S.most : Int), .slice a3 n3 c3, .int .i64 (S.steps : Int), .bool S.said, .int .i64 (S.left : Int), .bool S.done, .bool S.down]) := HT4x
      have HF3 : Hid (FA w4 a3 n3 c3 (fput now f' (fdel old S.files))) := HF3x
      have HG3 : Hid (w.heap.size + 1 < g3) := HG3x
      clear hA34 HF3x HT4x HG3x hA0 hS0 hz hA7 hA6 hA6' hf6 hA5 hA5' hf5
      go_simp
      go_wp2_with fail
      refine wp_region_noPanic ?_
      refine wp_region_held_drew (S := (fun W => RowIs W w.heap.size 27 [.int .i64 (S.most : Int), .slice (some ⟨fb, fo, none⟩) n c, .int .i64 (S.steps : Int), .bool S.said, .int .i64 (S.left : Int), .bool S.done, .bool S.down] ∧ RowIs W g3 27 [.int .i64 (S.most : Int), .slice a3 n3 c3, .int .i64 (S.steps : Int), .bool S.said, .int .i64 (S.left : Int), .bool S.done, .bool S.down])) (by kernel_rfl) ⟨HR4.out.drew, HT4.out.drew⟩ ?_
      intro hS0
      have hA0 : After w4 w4.drew := After.drew (After.refl w4)
      refine tk 0 48 (.agg #[.int .i64 (S.most : Int), .slice (some ⟨fb, fo, none⟩) n c, .int .i64 (S.steps : Int), .bool S.said, .int .i64 (S.left : Int), .bool S.done, .bool S.down]) (fuel := 9) rfl (by kernel_rfl) (by kernel_rfl) (by kernel_rfl) (by kernel_rfl) noPanic_false (by kernel_rfl) (fun W hW => x_row27 (x := .tmp 3) (g := w.heap.size) (by kernel_rfl) (by kernel_rfl) hW.1 rfl) hS0 ?_
      refine tk 1 49 (.agg #[.int .i64 (S.most : Int), .slice a3 n3 c3, .int .i64 (S.steps : Int), .bool S.said, .int .i64 (S.left : Int), .bool S.done, .bool S.down]) (fuel := 8) rfl (by kernel_rfl) (by kernel_rfl) (by kernel_rfl) (by kernel_rfl) noPanic_false (by kernel_rfl) (fun W hW => x_row27 (x := .tmp 12) (g := g3) (by kernel_rfl) (by kernel_rfl) hW.2 rfl) hS0 ?_
      refine tk 2 50 (.agg #[.int .i64 (S.most : Int), .slice (some ⟨fb, fo, none⟩) n c, .int .i64 (S.steps : Int), .bool S.said, .int .i64 (S.left : Int), .bool S.done, .bool S.down]) (fuel := 7) rfl (by kernel_rfl) (by kernel_rfl) (by kernel_rfl) (by kernel_rfl) noPanic_false (by kernel_rfl) (fun W hW => x_row27 (x := .tmp 3) (g := w.heap.size) (by kernel_rfl) (by kernel_rfl) hW.1 rfl) hS0 ?_
      refine tk 3 51 (.agg #[.int .i64 (S.most : Int), .slice a3 n3 c3, .int .i64 (S.steps : Int), .bool S.said, .int .i64 (S.left : Int), .bool S.done, .bool S.down]) (fuel := 6) rfl (by kernel_rfl) (by kernel_rfl) (by kernel_rfl) (by kernel_rfl) noPanic_false (by kernel_rfl) (fun W hW => x_row27 (x := .tmp 12) (g := g3) (by kernel_rfl) (by kernel_rfl) hW.2 rfl) hS0 ?_
      refine tkCallS 4 52 61 #[.agg #[.int .i64 (S.most : Int), .slice (some ⟨fb, fo, none⟩) n c, .int .i64 (S.steps : Int), .bool S.said, .int .i64 (S.left : Int), .bool S.done, .bool S.down], .agg #[.int .i64 (S.most : Int), .slice a3 n3 c3, .int .i64 (S.steps : Int), .bool S.said, .int .i64 (S.left : Int), .bool S.done, .bool S.down]] (fun v w' => ∃ a2 n2 c2, v = .agg #[.int .i64 (S.most : Int), .slice a2 n2 c2, .int .i64 (S.steps : Int), .bool S.said, .int .i64 (S.left : Int), .bool S.done, .bool S.down] ∧ FA w' a2 n2 c2 (if S.done then fput now f' (fdel old S.files) else S.files) ∧ After w4 w') (fuel := 5) rfl (by kernel_rfl) (by kernel_rfl) (by kernel_rfl) (fun _ => by kernel_rfl) ((eitherR S (some ⟨fb, fo, none⟩) a3 n c n3 c3 (fput now f' (fdel old S.files)) ((HF.out.after HA4.out).after hA0) (HF3.out.after hA0)).mono (fun e w' ⟨a2, n2, c2, he, h2, h3⟩ => ⟨_, he, a2, n2, c2, rfl, h2, After.trans hA0 h3⟩)) ?_
      rintro v5 w5 ⟨a5, n5, c5, rfl, hf5, hA5⟩
      refine ⟨⟨HR4.out.below hA5 HR4.out.lt, HT4.out.below hA5 HT4.out.lt⟩, ?_⟩
      refine tkCallS 5 53 60 #[.agg #[.int .i64 (S.most : Int), .slice (some ⟨fb, fo, none⟩) n c, .int .i64 (S.steps : Int), .bool S.said, .int .i64 (S.left : Int), .bool S.done, .bool S.down], .agg #[.int .i64 (S.most : Int), .slice a3 n3 c3, .int .i64 (S.steps : Int), .bool S.said, .int .i64 (S.left : Int), .bool S.done, .bool S.down], .agg #[.int .i64 (S.most : Int), .slice a5 n5 c5, .int .i64 (S.steps : Int), .bool S.said, .int .i64 (S.left : Int), .bool S.done, .bool S.down]] (fun v w' => ∃ v1, v = .tuple #[v1, .int .i64 (stepE S : Int)] ∧ RefAt w' v1 (stepS S S.done (fput now f' (fdel old S.files))) ∧ After w4 w') (fuel := 4) rfl (by kernel_rfl) (by kernel_rfl) (by kernel_rfl) (fun _ => by kernel_rfl) ((stepR S HSTP.out HO.out.left (some ⟨fb, fo, none⟩) a3 a5 n c n3 c3 n5 c5 (fput now f' (fdel old S.files)) S.done (HF3.out.after hA5) hf5).mono (fun e w' ⟨v1, he, h2, h3⟩ => ⟨_, he, v1, rfl, h2, After.trans hA5 h3⟩)) ?_
      rintro v6 w6 ⟨v1, rfl, hr6, hA6⟩
      have hT6 := And.intro (HR4.out.below hA6 HR4.out.lt) (HT4.out.below hA6 HT4.out.lt)
      refine ⟨hT6, ?_⟩
      obtain ⟨ao7, c7, ar7, lf7, dn7, hv7, _⟩ := hr6.ex
      have hv7' : v1 = .agg (rV (stepS S S.done (fput now f' (fdel old S.files))) ao7 (stepS S S.done (fput now f' (fdel old S.files))).files.length c7 ar7 lf7 dn7) := hv7
      obtain ⟨R7, hR7⟩ : ∃ R7, rV (stepS S S.done (fput now f' (fdel old S.files))) ao7 (stepS S S.done (fput now f' (fdel old S.files))).files.length c7 ar7 lf7 dn7 = R7 := ⟨_, rfl⟩
      have h77 : R7.size = 7 := by rw [← hR7]; rfl
      have h71 : R7.all (·.oneCell') = true := by rw [← hR7]; kernel_rfl
      rw [hR7] at hv7'
      subst hv7'
      have HR6 := show Hid (RefAt w6 (.agg R7) _) from hr6
      clear hv7 hr6
      refine tk 6 54 (.agg R7) (fuel := 3) rfl (by kernel_rfl) (by kernel_rfl) (by kernel_rfl) (by kernel_rfl) noPanic_false (by kernel_rfl) (fun _ _ => by kernel_rfl) hT6 ?_
      refine tk 7 55 (.int .i64 (stepE S : Int)) (fuel := 2) rfl (by kernel_rfl) (by kernel_rfl) (by kernel_rfl) (by kernel_rfl) noPanic_false (by kernel_rfl) (fun _ _ => by kernel_rfl) hT6 ?_
      have HW6 := HS4.out.below hA6 HS4.out.lt
      have HWA : After w w6 := After.trans HA4.out hA6
      have hT7 := And.intro (hT6.1.setRow_other (g' := w.heap.size + 1) R7 (by omega)) (hT6.2.setRow_other (g' := w.heap.size + 1) R7 (by have := HG3.out; omega))
      refine tkStore 8 (w.heap.size + 1) 27 (.tmp 6) (.tmp 54) R7 #[.int .i64 0, .slice none 0 0, .int .i64 0, .bool false, .int .i64 0, .bool false, .bool false] 27 (fuel := 1) rfl (by kernel_rfl) (by kernel_rfl) (by kernel_rfl) (by kernel_rfl) (by kernel_rfl) (by kernel_rfl) HW6 (by rw [h77]; kernel_rfl) (by rw [h77]; rfl) h71 hT7 ?_
      refine tk 9 7 (.int .i64 (stepE S : Int)) (fuel := 0) rfl (by kernel_rfl) (by kernel_rfl) (by kernel_rfl) (by kernel_rfl) noPanic_false (by kernel_rfl) (fun _ _ => by kernel_rfl) hT7 ?_
      refine wpAnyH_done (by kernel_rfl) (NoPanic.normal ?_) _
      have HAX := after_setRow (g := w.heap.size + 1) HWA (Nat.le_succ _) R7
      have HRX := HR6.out.setRow HW6 R7
      have HW6x := show Hid (RowIs w6 _ _ _) from HW6
      clear hT6 hT7 hA6 HW6 hA0 hS0 hA5 hf5
      go_simp
      go_wp2
      exact bodyPost_ret (ret27t Try.results37 _ _ (w.heap.size + 1) R7.toList rfl (by have := RowIs.setRow HW6x.out R7.toList; simpa using this) (by simpa using h77) _ rfl) rfl ⟨_, rfl, HRX, HAX⟩
    · refine opVal 10 12 (.pointer (some ⟨w5.heap.size, 0, none⟩)) (w5.alloc (.cells #[.int .i64 0, .slice none 0 0, .int .i64 0, .bool false, .int .i64 0, .bool false, .bool false] 27)) rfl (by kernel_rfl) (by kernel_rfl) (by kernel_rfl) ?_
      have hA6 : After w3 (w5.alloc (.cells #[.int .i64 0, .slice none 0 0, .int .i64 0, .bool false, .int .i64 0, .bool false, .bool false] 27)) := after_alloc hA5 _
      have hz1 := row_last w5 _ rfl [.int .i64 0, .slice none 0 0, .int .i64 0, .bool false, .int .i64 0, .bool false, .bool false]
      refine ⟨⟨HR3.out.below hA6 HR3.out.lt, HT3.out.below hA6 HT3.out.lt⟩, ?_⟩
      refine tkCallS 9 47 59 #[.agg #[.int .i64 (S.most : Int), .slice a5 n5 c5, .int .i64 (S.steps : Int), .bool S.said, .int .i64 (S.left : Int), .bool S.done, .bool S.down], .agg #[.string (strOf now), .string s1, .string s2]] (fun v w' => ∃ a2 n2 c2, v = .agg #[.int .i64 (S.most : Int), .slice a2 n2 c2, .int .i64 (S.steps : Int), .bool S.said, .int .i64 (S.left : Int), .bool S.done, .bool S.down] ∧ FA w' a2 n2 c2 (fput now f' (fdel old S.files)) ∧ After (w5.alloc (.cells #[.int .i64 0, .slice none 0 0, .int .i64 0, .bool false, .int .i64 0, .bool false, .bool false] 27)) w') (fuel := 1) rfl (by kernel_rfl) (by kernel_rfl) (by kernel_rfl) (fun _ => by kernel_rfl) ((withR' { S with files := fdel old S.files } (ok_del HO.out old) a5 n5 c5 now f' s1 s2 HS12.out.1 HS12.out.2 (hf5.after (after_alloc (After.refl w5) _))).mono (fun e w' ⟨a2, n2, c2, he, h2, h3⟩ => ⟨_, he, a2, n2, c2, rfl, h2, h3⟩)) ?_
      rintro v6 w6 ⟨a3, n3, c3, rfl, hf6, hA6'⟩
      have hA7 : After w3 w6 := After.trans hA6 hA6'
      have hz := hz1.below hA6' hz1.lt
      refine ⟨⟨HR3.out.below hA7 HR3.out.lt, HT3.out.below hA7 HT3.out.lt⟩, ?_⟩
      have hT9 := And.intro (HR3.out.below hA7 HR3.out.lt) (HT3.out.below hA7 HT3.out.lt)
      refine tkStore 11 w5.heap.size 27 (.tmp 12) (.tmp 47) #[.int .i64 (S.most : Int), .slice a3 n3 c3, .int .i64 (S.steps : Int), .bool S.said, .int .i64 (S.left : Int), .bool S.done, .bool S.down] #[.int .i64 0, .slice none 0 0, .int .i64 0, .bool false, .int .i64 0, .bool false, .bool false] 27 (fuel := 0) rfl (by kernel_rfl) (by kernel_rfl) (by kernel_rfl) (by kernel_rfl) (by kernel_rfl) (by kernel_rfl) hz (by kernel_rfl) rfl (by kernel_rfl) ⟨hT9.1.setRow_other _ (by have := HR3.out.lt; have : w3.heap.size ≤ w5.heap.size := hA5.size; omega), hT9.2.setRow_other _ (by have := HT3.out.lt; have : w3.heap.size ≤ w5.heap.size := hA5.size; omega)⟩ ?_
      refine wpAnyH_done (by kernel_rfl) (NoPanic.normal ?_) _
      have hA34 : After w3 (w6.setRow w5.heap.size #[.int .i64 (S.most : Int), .slice a3 n3 c3, .int .i64 (S.steps : Int), .bool S.said, .int .i64 (S.left : Int), .bool S.done, .bool S.down]) := after_setRow hA7 hA5.size _
      have HF3x := (hf6).setRow hz #[.int .i64 (S.most : Int), .slice a3 n3 c3, .int .i64 (S.steps : Int), .bool S.said, .int .i64 (S.left : Int), .bool S.done, .bool S.down]
      have HT4x := RowIs.setRow hz [.int .i64 (S.most : Int), .slice a3 n3 c3, .int .i64 (S.steps : Int), .bool S.said, .int .i64 (S.left : Int), .bool S.done, .bool S.down]
      have HG3x : w.heap.size + 1 < w5.heap.size := by have := HS3.out.lt; have : w3.heap.size ≤ w5.heap.size := hA5.size; omega
      obtain ⟨g3, hg3⟩ : ∃ g3, w5.heap.size = g3 := ⟨_, rfl⟩
      rw [hg3] at hA34 HF3x HT4x HG3x ⊢
      obtain ⟨w4, hw4⟩ : ∃ w4, w6.setRow g3 #[.int .i64 (S.most : Int), .slice a3 n3 c3, .int .i64 (S.steps : Int), .bool S.said, .int .i64 (S.left : Int), .bool S.done, .bool S.down] = w4 := ⟨_, rfl⟩
      have hw4' : w6.setRow g3 [.int .i64 (S.most : Int), .slice a3 n3 c3, .int .i64 (S.steps : Int), .bool S.said, .int .i64 (S.left : Int), .bool S.done, .bool S.down].toArray = w4 := hw4
      rw [hw4] at hA34 HF3x ⊢
      rw [hw4'] at HT4x
      clear hw4 hw4' hg3 hT9
      have HR4 := show Hid (RowIs w4 _ _ _) from HR3.out.below hA34 HR3.out.lt
      have HS4 := show Hid (RowIs w4 _ _ _) from HS3.out.below hA34 HS3.out.lt
      have HA4 : Hid (After w w4) := After.trans HA3.out hA34
      have HT4 : Hid (RowIs w4 g3 27 [.int .i64 (S.most : Int), .slice a3 n3 c3, .int .i64 (S.steps : Int), .bool S.said, .int .i64 (S.left : Int), .bool S.done, .bool S.down]) := HT4x
      have HF3 : Hid (FA w4 a3 n3 c3 (fput now f' (fdel old S.files))) := HF3x
      have HG3 : Hid (w.heap.size + 1 < g3) := HG3x
      clear hA34 HF3x HT4x HG3x hA0 hS0 hz hz1 hA7 hA6 hA6' hf6 hA5 hA5' hf5
      go_simp
      go_wp2_with fail
      refine wp_region_noPanic ?_
      refine wp_region_held_drew (S := (fun W => RowIs W w.heap.size 27 [.int .i64 (S.most : Int), .slice (some ⟨fb, fo, none⟩) n c, .int .i64 (S.steps : Int), .bool S.said, .int .i64 (S.left : Int), .bool S.done, .bool S.down] ∧ RowIs W g3 27 [.int .i64 (S.most : Int), .slice a3 n3 c3, .int .i64 (S.steps : Int), .bool S.said, .int .i64 (S.left : Int), .bool S.done, .bool S.down])) (by kernel_rfl) ⟨HR4.out.drew, HT4.out.drew⟩ ?_
      intro hS0
      have hA0 : After w4 w4.drew := After.drew (After.refl w4)
      refine tk 0 48 (.agg #[.int .i64 (S.most : Int), .slice (some ⟨fb, fo, none⟩) n c, .int .i64 (S.steps : Int), .bool S.said, .int .i64 (S.left : Int), .bool S.done, .bool S.down]) (fuel := 9) rfl (by kernel_rfl) (by kernel_rfl) (by kernel_rfl) (by kernel_rfl) noPanic_false (by kernel_rfl) (fun W hW => x_row27 (x := .tmp 3) (g := w.heap.size) (by kernel_rfl) (by kernel_rfl) hW.1 rfl) hS0 ?_
      refine tk 1 49 (.agg #[.int .i64 (S.most : Int), .slice a3 n3 c3, .int .i64 (S.steps : Int), .bool S.said, .int .i64 (S.left : Int), .bool S.done, .bool S.down]) (fuel := 8) rfl (by kernel_rfl) (by kernel_rfl) (by kernel_rfl) (by kernel_rfl) noPanic_false (by kernel_rfl) (fun W hW => x_row27 (x := .tmp 12) (g := g3) (by kernel_rfl) (by kernel_rfl) hW.2 rfl) hS0 ?_
      refine tk 2 50 (.agg #[.int .i64 (S.most : Int), .slice (some ⟨fb, fo, none⟩) n c, .int .i64 (S.steps : Int), .bool S.said, .int .i64 (S.left : Int), .bool S.done, .bool S.down]) (fuel := 7) rfl (by kernel_rfl) (by kernel_rfl) (by kernel_rfl) (by kernel_rfl) noPanic_false (by kernel_rfl) (fun W hW => x_row27 (x := .tmp 3) (g := w.heap.size) (by kernel_rfl) (by kernel_rfl) hW.1 rfl) hS0 ?_
      refine tk 3 51 (.agg #[.int .i64 (S.most : Int), .slice a3 n3 c3, .int .i64 (S.steps : Int), .bool S.said, .int .i64 (S.left : Int), .bool S.done, .bool S.down]) (fuel := 6) rfl (by kernel_rfl) (by kernel_rfl) (by kernel_rfl) (by kernel_rfl) noPanic_false (by kernel_rfl) (fun W hW => x_row27 (x := .tmp 12) (g := g3) (by kernel_rfl) (by kernel_rfl) hW.2 rfl) hS0 ?_
      refine tkCallS 4 52 61 #[.agg #[.int .i64 (S.most : Int), .slice (some ⟨fb, fo, none⟩) n c, .int .i64 (S.steps : Int), .bool S.said, .int .i64 (S.left : Int), .bool S.done, .bool S.down], .agg #[.int .i64 (S.most : Int), .slice a3 n3 c3, .int .i64 (S.steps : Int), .bool S.said, .int .i64 (S.left : Int), .bool S.done, .bool S.down]] (fun v w' => ∃ a2 n2 c2, v = .agg #[.int .i64 (S.most : Int), .slice a2 n2 c2, .int .i64 (S.steps : Int), .bool S.said, .int .i64 (S.left : Int), .bool S.done, .bool S.down] ∧ FA w' a2 n2 c2 (if S.done then fput now f' (fdel old S.files) else S.files) ∧ After w4 w') (fuel := 5) rfl (by kernel_rfl) (by kernel_rfl) (by kernel_rfl) (fun _ => by kernel_rfl) ((eitherR S (some ⟨fb, fo, none⟩) a3 n c n3 c3 (fput now f' (fdel old S.files)) ((HF.out.after HA4.out).after hA0) (HF3.out.after hA0)).mono (fun e w' ⟨a2, n2, c2, he, h2, h3⟩ => ⟨_, he, a2, n2, c2, rfl, h2, After.trans hA0 h3⟩)) ?_
      rintro v5 w5 ⟨a5, n5, c5, rfl, hf5, hA5⟩
      refine ⟨⟨HR4.out.below hA5 HR4.out.lt, HT4.out.below hA5 HT4.out.lt⟩, ?_⟩
      refine tkCallS 5 53 60 #[.agg #[.int .i64 (S.most : Int), .slice (some ⟨fb, fo, none⟩) n c, .int .i64 (S.steps : Int), .bool S.said, .int .i64 (S.left : Int), .bool S.done, .bool S.down], .agg #[.int .i64 (S.most : Int), .slice a3 n3 c3, .int .i64 (S.steps : Int), .bool S.said, .int .i64 (S.left : Int), .bool S.done, .bool S.down], .agg #[.int .i64 (S.most : Int), .slice a5 n5 c5, .int .i64 (S.steps : Int), .bool S.said, .int .i64 (S.left : Int), .bool S.done, .bool S.down]] (fun v w' => ∃ v1, v = .tuple #[v1, .int .i64 (stepE S : Int)] ∧ RefAt w' v1 (stepS S S.done (fput now f' (fdel old S.files))) ∧ After w4 w') (fuel := 4) rfl (by kernel_rfl) (by kernel_rfl) (by kernel_rfl) (fun _ => by kernel_rfl) ((stepR S HSTP.out HO.out.left (some ⟨fb, fo, none⟩) a3 a5 n c n3 c3 n5 c5 (fput now f' (fdel old S.files)) S.done (HF3.out.after hA5) hf5).mono (fun e w' ⟨v1, he, h2, h3⟩ => ⟨_, he, v1, rfl, h2, After.trans hA5 h3⟩)) ?_
      rintro v6 w6 ⟨v1, rfl, hr6, hA6⟩
      have hT6 := And.intro (HR4.out.below hA6 HR4.out.lt) (HT4.out.below hA6 HT4.out.lt)
      refine ⟨hT6, ?_⟩
      obtain ⟨ao7, c7, ar7, lf7, dn7, hv7, _⟩ := hr6.ex
      have hv7' : v1 = .agg (rV (stepS S S.done (fput now f' (fdel old S.files))) ao7 (stepS S S.done (fput now f' (fdel old S.files))).files.length c7 ar7 lf7 dn7) := hv7
      obtain ⟨R7, hR7⟩ : ∃ R7, rV (stepS S S.done (fput now f' (fdel old S.files))) ao7 (stepS S S.done (fput now f' (fdel old S.files))).files.length c7 ar7 lf7 dn7 = R7 := ⟨_, rfl⟩
      have h77 : R7.size = 7 := by rw [← hR7]; rfl
      have h71 : R7.all (·.oneCell') = true := by rw [← hR7]; kernel_rfl
      rw [hR7] at hv7'
      subst hv7'
      have HR6 := show Hid (RefAt w6 (.agg R7) _) from hr6
      clear hv7 hr6
      refine tk 6 54 (.agg R7) (fuel := 3) rfl (by kernel_rfl) (by kernel_rfl) (by kernel_rfl) (by kernel_rfl) noPanic_false (by kernel_rfl) (fun _ _ => by kernel_rfl) hT6 ?_
      refine tk 7 55 (.int .i64 (stepE S : Int)) (fuel := 2) rfl (by kernel_rfl) (by kernel_rfl) (by kernel_rfl) (by kernel_rfl) noPanic_false (by kernel_rfl) (fun _ _ => by kernel_rfl) hT6 ?_
      have HW6 := HS4.out.below hA6 HS4.out.lt
      have HWA : After w w6 := After.trans HA4.out hA6
      have hT7 := And.intro (hT6.1.setRow_other (g' := w.heap.size + 1) R7 (by omega)) (hT6.2.setRow_other (g' := w.heap.size + 1) R7 (by have := HG3.out; omega))
      refine tkStore 8 (w.heap.size + 1) 27 (.tmp 6) (.tmp 54) R7 #[.int .i64 0, .slice none 0 0, .int .i64 0, .bool false, .int .i64 0, .bool false, .bool false] 27 (fuel := 1) rfl (by kernel_rfl) (by kernel_rfl) (by kernel_rfl) (by kernel_rfl) (by kernel_rfl) (by kernel_rfl) HW6 (by rw [h77]; kernel_rfl) (by rw [h77]; rfl) h71 hT7 ?_
      refine tk 9 7 (.int .i64 (stepE S : Int)) (fuel := 0) rfl (by kernel_rfl) (by kernel_rfl) (by kernel_rfl) (by kernel_rfl) noPanic_false (by kernel_rfl) (fun _ _ => by kernel_rfl) hT7 ?_
      refine wpAnyH_done (by kernel_rfl) (NoPanic.normal ?_) _
      have HAX := after_setRow (g := w.heap.size + 1) HWA (Nat.le_succ _) R7
      have HRX := HR6.out.setRow HW6 R7
      have HW6x := show Hid (RowIs w6 _ _ _) from HW6
      clear hT6 hT7 hA6 HW6 hA0 hS0 hA5 hf5
      go_simp
      go_wp2
      exact bodyPost_ret (ret27t Try.results37 _ _ (w.heap.size + 1) R7.toList rfl (by have := RowIs.setRow HW6x.out R7.toList; simpa using this) (by simpa using h77) _ rfl) rfl ⟨_, rfl, HRX, HAX⟩
  · refine opVal 10 12 (.pointer (some ⟨w3.heap.size, 0, none⟩)) (w3.drew.alloc (.cells #[.int .i64 0, .slice none 0 0, .int .i64 0, .bool false, .int .i64 0, .bool false, .bool false] 27)) rfl (by kernel_rfl) (by kernel_rfl) (by kernel_rfl) ?_
    have hA1 : After w3 (w3.drew.alloc (.cells #[.int .i64 0, .slice none 0 0, .int .i64 0, .bool false, .int .i64 0, .bool false, .bool false] 27)) := after_alloc hA0 _
    have hz1 : RowIs (w3.drew.alloc (.cells #[.int .i64 0, .slice none 0 0, .int .i64 0, .bool false, .int .i64 0, .bool false, .bool false] 27)) w3.heap.size 27 [.int .i64 0, .slice none 0 0, .int .i64 0, .bool false, .int .i64 0, .bool false, .bool false] := row_last w3.drew _ rfl _
    refine ⟨⟨HR3.out.below hA1 HR3.out.lt, HT3.out.below hA1 HT3.out.lt⟩, ?_⟩
    refine tkCallS 2 40 62 #[.agg #[.int .i64 (S.most : Int), .slice (some ⟨fb, fo, none⟩) n c, .int .i64 (S.steps : Int), .bool S.said, .int .i64 (S.left : Int), .bool S.done, .bool S.down], .string (strOf old)] (fun v w' => ∃ a2 n2 c2, v = .agg #[.int .i64 (S.most : Int), .slice a2 n2 c2, .int .i64 (S.steps : Int), .bool S.said, .int .i64 (S.left : Int), .bool S.done, .bool S.down] ∧ FA w' a2 n2 c2 (fdel old S.files) ∧ After (w3.drew.alloc (.cells #[.int .i64 0, .slice none 0 0, .int .i64 0, .bool false, .int .i64 0, .bool false, .bool false] 27)) w') (fuel := 2) rfl (by kernel_rfl) (by kernel_rfl) (by kernel_rfl) (fun _ => by kernel_rfl) ((withoutR S HO.out (some ⟨fb, fo, none⟩) n c old ((HF.out.after HA3.out).after hA1)).mono (fun e w' ⟨a2, n2, c2, he, h2, h3⟩ => ⟨_, he, a2, n2, c2, rfl, h2, h3⟩)) ?_
    rintro v5 w5 ⟨a5, n5, c5, rfl, hf5, hA5'⟩
    have hA5 : After w3 w5 := After.trans hA1 hA5'
    have hz2 := hz1.below hA5' hz1.lt
    refine ⟨⟨HR3.out.below hA5 HR3.out.lt, HT3.out.below hA5 HT3.out.lt⟩, ?_⟩
    refine tkCallS 9 47 59 #[.agg #[.int .i64 (S.most : Int), .slice a5 n5 c5, .int .i64 (S.steps : Int), .bool S.said, .int .i64 (S.left : Int), .bool S.done, .bool S.down], .agg #[.string (strOf now), .string s1, .string s2]] (fun v w' => ∃ a2 n2 c2, v = .agg #[.int .i64 (S.most : Int), .slice a2 n2 c2, .int .i64 (S.steps : Int), .bool S.said, .int .i64 (S.left : Int), .bool S.done, .bool S.down] ∧ FA w' a2 n2 c2 (fput now f' (fdel old S.files)) ∧ After w5 w') (fuel := 1) rfl (by kernel_rfl) (by kernel_rfl) (by kernel_rfl) (fun _ => by kernel_rfl) ((withR' { S with files := fdel old S.files } (ok_del HO.out old) a5 n5 c5 now f' s1 s2 HS12.out.1 HS12.out.2 (hf5)).mono (fun e w' ⟨a2, n2, c2, he, h2, h3⟩ => ⟨_, he, a2, n2, c2, rfl, h2, h3⟩)) ?_
    rintro v6 w6 ⟨a3, n3, c3, rfl, hf6, hA6'⟩
    have hA7 : After w3 w6 := After.trans hA5 hA6'
    have hz := hz2.below hA6' hz2.lt
    refine ⟨⟨HR3.out.below hA7 HR3.out.lt, HT3.out.below hA7 HT3.out.lt⟩, ?_⟩
    have hT9 := And.intro (HR3.out.below hA7 HR3.out.lt) (HT3.out.below hA7 HT3.out.lt)
    refine tkStore 11 w3.heap.size 27 (.tmp 12) (.tmp 47) #[.int .i64 (S.most : Int), .slice a3 n3 c3, .int .i64 (S.steps : Int), .bool S.said, .int .i64 (S.left : Int), .bool S.done, .bool S.down] #[.int .i64 0, .slice none 0 0, .int .i64 0, .bool false, .int .i64 0, .bool false, .bool false] 27 (fuel := 0) rfl (by kernel_rfl) (by kernel_rfl) (by kernel_rfl) (by kernel_rfl) (by kernel_rfl) (by kernel_rfl) hz (by kernel_rfl) rfl (by kernel_rfl) ⟨hT9.1.setRow_other _ (by have := HR3.out.lt; have : w3.heap.size ≤ w3.heap.size := (Nat.le_refl _); omega), hT9.2.setRow_other _ (by have := HT3.out.lt; have : w3.heap.size ≤ w3.heap.size := (Nat.le_refl _); omega)⟩ ?_
    refine wpAnyH_done (by kernel_rfl) (NoPanic.normal ?_) _
    have hA34 : After w3 (w6.setRow w3.heap.size #[.int .i64 (S.most : Int), .slice a3 n3 c3, .int .i64 (S.steps : Int), .bool S.said, .int .i64 (S.left : Int), .bool S.done, .bool S.down]) := after_setRow hA7 (Nat.le_refl _) _
    have HF3x := (hf6).setRow hz #[.int .i64 (S.most : Int), .slice a3 n3 c3, .int .i64 (S.steps : Int), .bool S.said, .int .i64 (S.left : Int), .bool S.done, .bool S.down]
    have HT4x := RowIs.setRow hz [.int .i64 (S.most : Int), .slice a3 n3 c3, .int .i64 (S.steps : Int), .bool S.said, .int .i64 (S.left : Int), .bool S.done, .bool S.down]
    have HG3x : w.heap.size + 1 < w3.heap.size := by have := HS3.out.lt; have : w3.heap.size ≤ w3.heap.size := (Nat.le_refl _); omega
    obtain ⟨g3, hg3⟩ : ∃ g3, w3.heap.size = g3 := ⟨_, rfl⟩
    rw [hg3] at hA34 HF3x HT4x HG3x ⊢
    obtain ⟨w4, hw4⟩ : ∃ w4, w6.setRow g3 #[.int .i64 (S.most : Int), .slice a3 n3 c3, .int .i64 (S.steps : Int), .bool S.said, .int .i64 (S.left : Int), .bool S.done, .bool S.down] = w4 := ⟨_, rfl⟩
    have hw4' : w6.setRow g3 [.int .i64 (S.most : Int), .slice a3 n3 c3, .int .i64 (S.steps : Int), .bool S.said, .int .i64 (S.left : Int), .bool S.done, .bool S.down].toArray = w4 := hw4
    rw [hw4] at hA34 HF3x ⊢
    rw [hw4'] at HT4x
    clear hw4 hw4' hg3 hT9
    have HR4 := show Hid (RowIs w4 _ _ _) from HR3.out.below hA34 HR3.out.lt
    have HS4 := show Hid (RowIs w4 _ _ _) from HS3.out.below hA34 HS3.out.lt
    have HA4 : Hid (After w w4) := After.trans HA3.out hA34
    have HT4 : Hid (RowIs w4 g3 27 [.int .i64 (S.most : Int), .slice a3 n3 c3, .int .i64 (S.steps : Int), .bool S.said, .int .i64 (S.left : Int), .bool S.done, .bool S.down]) := HT4x
    have HF3 : Hid (FA w4 a3 n3 c3 (fput now f' (fdel old S.files))) := HF3x
    have HG3 : Hid (w.heap.size + 1 < g3) := HG3x
    clear hA34 HF3x HT4x HG3x hA0 hS0 hz hz1 hz2 hA1 hA7 hA6' hf6 hA5 hA5' hf5
    go_simp
    go_wp2_with fail
    refine wp_region_noPanic ?_
    refine wp_region_held_drew (S := (fun W => RowIs W w.heap.size 27 [.int .i64 (S.most : Int), .slice (some ⟨fb, fo, none⟩) n c, .int .i64 (S.steps : Int), .bool S.said, .int .i64 (S.left : Int), .bool S.done, .bool S.down] ∧ RowIs W g3 27 [.int .i64 (S.most : Int), .slice a3 n3 c3, .int .i64 (S.steps : Int), .bool S.said, .int .i64 (S.left : Int), .bool S.done, .bool S.down])) (by kernel_rfl) ⟨HR4.out.drew, HT4.out.drew⟩ ?_
    intro hS0
    have hA0 : After w4 w4.drew := After.drew (After.refl w4)
    refine tk 0 48 (.agg #[.int .i64 (S.most : Int), .slice (some ⟨fb, fo, none⟩) n c, .int .i64 (S.steps : Int), .bool S.said, .int .i64 (S.left : Int), .bool S.done, .bool S.down]) (fuel := 9) rfl (by kernel_rfl) (by kernel_rfl) (by kernel_rfl) (by kernel_rfl) noPanic_false (by kernel_rfl) (fun W hW => x_row27 (x := .tmp 3) (g := w.heap.size) (by kernel_rfl) (by kernel_rfl) hW.1 rfl) hS0 ?_
    refine tk 1 49 (.agg #[.int .i64 (S.most : Int), .slice a3 n3 c3, .int .i64 (S.steps : Int), .bool S.said, .int .i64 (S.left : Int), .bool S.done, .bool S.down]) (fuel := 8) rfl (by kernel_rfl) (by kernel_rfl) (by kernel_rfl) (by kernel_rfl) noPanic_false (by kernel_rfl) (fun W hW => x_row27 (x := .tmp 12) (g := g3) (by kernel_rfl) (by kernel_rfl) hW.2 rfl) hS0 ?_
    refine tk 2 50 (.agg #[.int .i64 (S.most : Int), .slice (some ⟨fb, fo, none⟩) n c, .int .i64 (S.steps : Int), .bool S.said, .int .i64 (S.left : Int), .bool S.done, .bool S.down]) (fuel := 7) rfl (by kernel_rfl) (by kernel_rfl) (by kernel_rfl) (by kernel_rfl) noPanic_false (by kernel_rfl) (fun W hW => x_row27 (x := .tmp 3) (g := w.heap.size) (by kernel_rfl) (by kernel_rfl) hW.1 rfl) hS0 ?_
    refine tk 3 51 (.agg #[.int .i64 (S.most : Int), .slice a3 n3 c3, .int .i64 (S.steps : Int), .bool S.said, .int .i64 (S.left : Int), .bool S.done, .bool S.down]) (fuel := 6) rfl (by kernel_rfl) (by kernel_rfl) (by kernel_rfl) (by kernel_rfl) noPanic_false (by kernel_rfl) (fun W hW => x_row27 (x := .tmp 12) (g := g3) (by kernel_rfl) (by kernel_rfl) hW.2 rfl) hS0 ?_
    refine tkCallS 4 52 61 #[.agg #[.int .i64 (S.most : Int), .slice (some ⟨fb, fo, none⟩) n c, .int .i64 (S.steps : Int), .bool S.said, .int .i64 (S.left : Int), .bool S.done, .bool S.down], .agg #[.int .i64 (S.most : Int), .slice a3 n3 c3, .int .i64 (S.steps : Int), .bool S.said, .int .i64 (S.left : Int), .bool S.done, .bool S.down]] (fun v w' => ∃ a2 n2 c2, v = .agg #[.int .i64 (S.most : Int), .slice a2 n2 c2, .int .i64 (S.steps : Int), .bool S.said, .int .i64 (S.left : Int), .bool S.done, .bool S.down] ∧ FA w' a2 n2 c2 (if S.done then fput now f' (fdel old S.files) else S.files) ∧ After w4 w') (fuel := 5) rfl (by kernel_rfl) (by kernel_rfl) (by kernel_rfl) (fun _ => by kernel_rfl) ((eitherR S (some ⟨fb, fo, none⟩) a3 n c n3 c3 (fput now f' (fdel old S.files)) ((HF.out.after HA4.out).after hA0) (HF3.out.after hA0)).mono (fun e w' ⟨a2, n2, c2, he, h2, h3⟩ => ⟨_, he, a2, n2, c2, rfl, h2, After.trans hA0 h3⟩)) ?_
    rintro v5 w5 ⟨a5, n5, c5, rfl, hf5, hA5⟩
    refine ⟨⟨HR4.out.below hA5 HR4.out.lt, HT4.out.below hA5 HT4.out.lt⟩, ?_⟩
    refine tkCallS 5 53 60 #[.agg #[.int .i64 (S.most : Int), .slice (some ⟨fb, fo, none⟩) n c, .int .i64 (S.steps : Int), .bool S.said, .int .i64 (S.left : Int), .bool S.done, .bool S.down], .agg #[.int .i64 (S.most : Int), .slice a3 n3 c3, .int .i64 (S.steps : Int), .bool S.said, .int .i64 (S.left : Int), .bool S.done, .bool S.down], .agg #[.int .i64 (S.most : Int), .slice a5 n5 c5, .int .i64 (S.steps : Int), .bool S.said, .int .i64 (S.left : Int), .bool S.done, .bool S.down]] (fun v w' => ∃ v1, v = .tuple #[v1, .int .i64 (stepE S : Int)] ∧ RefAt w' v1 (stepS S S.done (fput now f' (fdel old S.files))) ∧ After w4 w') (fuel := 4) rfl (by kernel_rfl) (by kernel_rfl) (by kernel_rfl) (fun _ => by kernel_rfl) ((stepR S HSTP.out HO.out.left (some ⟨fb, fo, none⟩) a3 a5 n c n3 c3 n5 c5 (fput now f' (fdel old S.files)) S.done (HF3.out.after hA5) hf5).mono (fun e w' ⟨v1, he, h2, h3⟩ => ⟨_, he, v1, rfl, h2, After.trans hA5 h3⟩)) ?_
    rintro v6 w6 ⟨v1, rfl, hr6, hA6⟩
    have hT6 := And.intro (HR4.out.below hA6 HR4.out.lt) (HT4.out.below hA6 HT4.out.lt)
    refine ⟨hT6, ?_⟩
    obtain ⟨ao7, c7, ar7, lf7, dn7, hv7, _⟩ := hr6.ex
    have hv7' : v1 = .agg (rV (stepS S S.done (fput now f' (fdel old S.files))) ao7 (stepS S S.done (fput now f' (fdel old S.files))).files.length c7 ar7 lf7 dn7) := hv7
    obtain ⟨R7, hR7⟩ : ∃ R7, rV (stepS S S.done (fput now f' (fdel old S.files))) ao7 (stepS S S.done (fput now f' (fdel old S.files))).files.length c7 ar7 lf7 dn7 = R7 := ⟨_, rfl⟩
    have h77 : R7.size = 7 := by rw [← hR7]; rfl
    have h71 : R7.all (·.oneCell') = true := by rw [← hR7]; kernel_rfl
    rw [hR7] at hv7'
    subst hv7'
    have HR6 := show Hid (RefAt w6 (.agg R7) _) from hr6
    clear hv7 hr6
    refine tk 6 54 (.agg R7) (fuel := 3) rfl (by kernel_rfl) (by kernel_rfl) (by kernel_rfl) (by kernel_rfl) noPanic_false (by kernel_rfl) (fun _ _ => by kernel_rfl) hT6 ?_
    refine tk 7 55 (.int .i64 (stepE S : Int)) (fuel := 2) rfl (by kernel_rfl) (by kernel_rfl) (by kernel_rfl) (by kernel_rfl) noPanic_false (by kernel_rfl) (fun _ _ => by kernel_rfl) hT6 ?_
    have HW6 := HS4.out.below hA6 HS4.out.lt
    have HWA : After w w6 := After.trans HA4.out hA6
    have hT7 := And.intro (hT6.1.setRow_other (g' := w.heap.size + 1) R7 (by omega)) (hT6.2.setRow_other (g' := w.heap.size + 1) R7 (by have := HG3.out; omega))
    refine tkStore 8 (w.heap.size + 1) 27 (.tmp 6) (.tmp 54) R7 #[.int .i64 0, .slice none 0 0, .int .i64 0, .bool false, .int .i64 0, .bool false, .bool false] 27 (fuel := 1) rfl (by kernel_rfl) (by kernel_rfl) (by kernel_rfl) (by kernel_rfl) (by kernel_rfl) (by kernel_rfl) HW6 (by rw [h77]; kernel_rfl) (by rw [h77]; rfl) h71 hT7 ?_
    refine tk 9 7 (.int .i64 (stepE S : Int)) (fuel := 0) rfl (by kernel_rfl) (by kernel_rfl) (by kernel_rfl) (by kernel_rfl) noPanic_false (by kernel_rfl) (fun _ _ => by kernel_rfl) hT7 ?_
    refine wpAnyH_done (by kernel_rfl) (NoPanic.normal ?_) _
    have HAX := after_setRow (g := w.heap.size + 1) HWA (Nat.le_succ _) R7
    have HRX := HR6.out.setRow HW6 R7
    have HW6x := show Hid (RowIs w6 _ _ _) from HW6
    clear hT6 hT7 hA6 HW6 hA0 hS0 hA5 hf5
    go_simp
    go_wp2
    exact bodyPost_ret (ret27t Try.results37 _ _ (w.heap.size + 1) R7.toList rfl (by have := RowIs.setRow HW6x.out R7.toList; simpa using this) (by simpa using h77) _ rfl) rfl ⟨_, rfl, HRX, HAX⟩
theorem renameR (S : Dk) (hS : Ok S) (hst : S.steps < 4611686018427387904) (nm : Nm) (hl : nm.length ≤ maxLen) (nw : Nm) (hlw : nw.length ≤ maxLen) (w : World) (v : Value) (h : RefAt w v S) : Calls Try.prog 37 #[v, .string (strOf nm), .string (strOf nw)] w (RPostR w (renameE S nm nw) (renameS S nm nw)) := by
  obtain ⟨ao, c, ar, lf, dn, rfl, hat, hc, hrel, hlf, hz⟩ := h.ex
  have hf : FA w ao S.files.length c S.files := ⟨hat, rfl, hc, hz⟩
  have hl' : ∀ s ∈ [nm, nw], s.length ≤ maxLen := by
    intro s hs
    simp only [List.mem_cons, List.not_mem_nil, or_false] at hs
    rcases hs with rfl | rfl
    · exact hl
    · exact hlw
  unfold renameE renameS
  by_cases h0 : refuse S [nm, nw] = 0
  · obtain ⟨rfl, rfl, rfl⟩ := hrel (refuse_up h0)
    rw [if_pos h0, if_pos h0]
    have h1 : refuse S [nm] = 0 := by
      have hd := refuse_up h0
      have hn : named nm = true := by
        unfold refuse at h0
        split at h0
        · rename_i ha; simp only [List.all_cons, Bool.and_eq_true] at ha; exact ha.1
        · cases h0
      simp [refuse, hn, hd]
    rcases find_cases S nm with ⟨_, hi, he⟩ | ⟨_, hi, he⟩ | ⟨h2, _⟩
    · rw [if_pos he, if_pos he]; exact rRename_ok S hS ao _ c nm nw hl' hst w hf h0 hi _ (getF_of he)
    · rw [if_neg (by omega), if_neg (by omega), he]; exact rRename_none S hS ao _ c nm nw hl' hst w hf h0 hi
    · exact absurd h1 h2
  · rw [if_neg h0, if_neg h0]
    exact rRename_refused S hS ao _ c ar lf dn hrel hlf nm nw hl' w hf _ rfl h0
end Go.Proofs.Ytlbodickflljfaa
