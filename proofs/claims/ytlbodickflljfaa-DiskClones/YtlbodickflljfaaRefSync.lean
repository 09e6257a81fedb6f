/-
  THE WALKS OF (stemmaref05.Disk).Sync.
-/
import Derived.Test.YtlbodickflljfaaRefRead
namespace Go.Proofs.Ytlbodickflljfaa
open Go.RowKit Go.Maps Dsk
theorem x_add9 {oi : Oper} {a : Act} {w : World} {x y : Operand} {s t : ByteArray} (hop : oi.op = .binOp .add 9 x y 9) (hx : a.eval x = .string s) (hy : a.eval y = .string t) (hb : s.size + t.size ≤ 9223372036854775807) : (execOp a.eval oi).run Try.prog w = .ok (.value (.string (s ++ t))) w := by
  have h : ¬ ((s.size + t.size : Nat) : Int) > IntKind.i64.max := by rw [show IntKind.i64.max = 9223372036854775807 from rfl]; omega
  unfold execOp
  simp only [hop, hx, hy, binOp, Op.stringOp, if_neg h]
  simp [eqGuard]
theorem withR' {w : World} (S : Dk) (hS : Ok S) (ao : Option Addr) (n c : Nat) (nm : Nm) (x : Fl) (s1 s2 : ByteArray) (e1 : strOf (x.data.take x.safe) = s1) (e2 : strOf (x.data.drop x.safe) = s2) (h0 : FA w ao n c S.files) :
    Calls Try.prog 59 #[.agg (rV S ao n c S.said S.left S.done), .agg #[.string (strOf nm), .string s1, .string s2]] w fun e w' => ∃ ao2 n2 c2, e = .returned (.agg (rV S ao2 n2 c2 S.said S.left S.done)) ∧ FA w' ao2 n2 c2 (fput nm x S.files) ∧ After w w' := by
  subst e1 e2
  exact withR S hS ao n c nm x h0
set_option maxRecDepth 100000 in
set_option maxHeartbeats 3200000 in
theorem rSync_refused (S : Dk) (hS : Ok S) (ao : Option Addr) (n c : Nat) (ar : Bool) (lf : Nat) (dn : Bool) (hrel : S.down = false → ar = S.said ∧ lf = S.left ∧ dn = S.done) (hlf : lf < 9223372036854775808) (nm : Nm) (hl : ∀ s ∈ [nm], s.length ≤ maxLen)  (w : World) (hf : FA w ao n c S.files) (r : Nat) (hr : refuse S [nm] = r) (h0 : ¬ r = 0) :
    Calls Try.prog 36 #[.agg (rV S ao n c ar lf dn), .string (strOf nm)] w (RPostR w r S) := by
  have HREL : Hid ((S.down = false → ar = S.said ∧ lf = S.left ∧ dn = S.done) ∧ lf < 9223372036854775808) := ⟨hrel, hlf⟩
  have HL : Hid (∀ s ∈ [nm], s.length ≤ maxLen) := hl
  have HRR : Hid (refuse S [nm] = r) := hr
  have h0' : ((r : Int) != 0) = true := by simp; omega
  obtain ⟨is, his⟩ : ∃ is, fhas nm S.files = is := ⟨_, rfl⟩
  have HIS : Hid (fhas nm S.files = is) := his
  clear hrel hlf hl hr his
  have HF : Hid (FA w ao n c S.files) := hf
  have HO : Hid (Ok S) := hS
  unfold rV
  clear hf hS
  go_enter Try.func36, Try.ntmps36
  go_wp2_with fail
  obtain ⟨w0, hw0⟩ : ∃ w0, ((w.alloc (.cells #[.int .i64 (S.most : Int), .slice ao n c, .int .i64 (S.steps : Int), .bool ar, .int .i64 (lf : Int), .bool dn, .bool S.down] 27)).alloc (.cells #[.int .i64 0, .slice none 0 0, .int .i64 0, .bool false, .int .i64 0, .bool false, .bool false] 27)).alloc (.cells #[.string (strOf nm)] 9) = w0 := ⟨_, rfl⟩
  rw [hw0]
  have HA0 : Hid (After w w0) := by rw [← hw0]; exact after_alloc (after_alloc (after_alloc (After.refl w) _) _) _
  have HR0 : Hid (RowIs w0 w.heap.size 27 [.int .i64 (S.most : Int), .slice ao n c, .int .i64 (S.steps : Int), .bool ar, .int .i64 (lf : Int), .bool dn, .bool S.down]) := by rw [← hw0]; exact ((RowIs.new w 27 _).alloc _).alloc _
  have HS0 : Hid (RowIs w0 (w.heap.size + 1) 27 [.int .i64 0, .slice none 0 0, .int .i64 0, .bool false, .int .i64 0, .bool false, .bool false]) := by rw [← hw0]; exact (row_last _ _ (by simp) _).alloc _
  have HST : Hid (StrsAt w0 (some ⟨w.heap.size + 1 + 1, 0, none⟩) [nm]) := by
    rw [← hw0]
    have := StrsAt.one ((w.alloc (.cells #[.int .i64 (S.most : Int), .slice ao n c, .int .i64 (S.steps : Int), .bool ar, .int .i64 (lf : Int), .bool dn, .bool S.down] 27)).alloc (.cells #[.int .i64 0, .slice none 0 0, .int .i64 0, .bool false, .int .i64 0, .bool false, .bool false] 27)) nm 9
    rw [show ((w.alloc (.cells #[.int .i64 (S.most : Int), .slice ao n c, .int .i64 (S.steps : Int), .bool ar, .int .i64 (lf : Int), .bool dn, .bool S.down] 27)).alloc (.cells #[.int .i64 0, .slice none 0 0, .int .i64 0, .bool false, .int .i64 0, .bool false, .bool false] 27)).heap.size = w.heap.size + 1 + 1 by simp] at this
    exact this
  clear hw0
  go_wp2_with (first
    | (go_at_call 44; refine (rFirst_any S ao n c ar lf dn _ 1 [nm] (by simp) (by simp) (by simpa using HL.out) w0 HST.out).mono ?_; rw [HRR.out]; rintro e w1 ⟨rfl, h1⟩; have HR1 := show Hid (RowIs w1 _ _ _) from HR0.out.below h1 HR0.out.lt; have HS1 := show Hid (RowIs w1 _ _ _) from HS0.out.below h1 HS0.out.lt; have HA1 : Hid (After w w1) := After.trans HA0.out h1; clear h1)
    | (refine wpList_load_row rfl 27 _ rfl (w.heap.size) rfl 27 _ (0, 0) _ HR1.out Try.underlying27 rfl (by kernel_rfl) ?_)
    | (go_at_call 45; refine (placeR S HO.out ao n c ar lf dn nm (HF.out.after HA1.out)).mono ?_; rw [HIS.out]; rintro e w2 ⟨k, hpl, rfl, h2⟩; have HPL := show Hid (Place _ _ _) from hpl; have HR2 := show Hid (RowIs w2 _ _ _) from HR1.out.below h2 HR1.out.lt; have HS2 := show Hid (RowIs w2 _ _ _) from HS1.out.below h2 HS1.out.lt; have HA2 : Hid (After w w2) := After.trans HA1.out h2; clear h2 hpl)
    | (refine wpList_load_row rfl 27 _ rfl (w.heap.size) rfl 27 _ (0, 0) _ HR2.out Try.underlying27 rfl (by kernel_rfl) ?_)
    | (refine wpList_store_row rfl 27 _ _ rfl (w.heap.size + 1) _ rfl rfl 27 _ HS2.out (by kernel_rfl) rfl (by kernel_rfl) ?_))
  have HAX := after_setRow (g := w.heap.size + 1) HA2.out (Nat.le_succ _) [.int .i64 (S.most : Int), .slice ao n c, .int .i64 (S.steps : Int), .bool ar, .int .i64 (lf : Int), .bool dn, .bool S.down].toArray
  exact bodyPost_ret (ret27t Try.results36 _ _ (w.heap.size + 1) [.int .i64 (S.most : Int), .slice ao n c, .int .i64 (S.steps : Int), .bool ar, .int .i64 (lf : Int), .bool dn, .bool S.down] rfl (RowIs.setRow HS2.out _) rfl _ rfl) rfl ⟨_, rfl, RefAt.of (HF.out.after HAX) HREL.out.1 HREL.out.2, after_setRow HA2.out (Nat.le_succ _) _⟩
set_option maxRecDepth 100000 in
set_option maxHeartbeats 3200000 in
theorem rSync_none (S : Dk) (hS : Ok S) (ao : Option Addr) (n c : Nat) (nm : Nm) (hl : ∀ s ∈ [nm], s.length ≤ maxLen)  (hst : S.steps < 4611686018427387904) (w : World) (hf : FA w ao n c S.files) (h0 : refuse S [nm] = 0) (his : fhas nm S.files = false) :
    Calls Try.prog 36 #[.agg (rV S ao n c S.said S.left S.done), .string (strOf nm)] w (RPostR w 22 S) := by
  have HL : Hid (∀ s ∈ [nm], s.length ≤ maxLen) := hl
  have HRR : Hid (refuse S [nm] = 0) := h0
  have HSTP : Hid (S.steps < 4611686018427387904) := hst
  clear hl h0 hst
  have HIS : Hid (fhas nm S.files = false) := his
  clear his
  have HF : Hid (FA w ao n c S.files) := hf
  have HO : Hid (Ok S) := hS
  unfold rV
  clear hf hS
  go_enter Try.func36, Try.ntmps36
  go_wp2_with fail
  obtain ⟨w0, hw0⟩ : ∃ w0, ((w.alloc (.cells #[.int .i64 (S.most : Int), .slice ao n c, .int .i64 (S.steps : Int), .bool S.said, .int .i64 (S.left : Int), .bool S.done, .bool S.down] 27)).alloc (.cells #[.int .i64 0, .slice none 0 0, .int .i64 0, .bool false, .int .i64 0, .bool false, .bool false] 27)).alloc (.cells #[.string (strOf nm)] 9) = w0 := ⟨_, rfl⟩
  rw [hw0]
  have HA0 : Hid (After w w0) := by rw [← hw0]; exact after_alloc (after_alloc (after_alloc (After.refl w) _) _) _
  have HR0 : Hid (RowIs w0 w.heap.size 27 [.int .i64 (S.most : Int), .slice ao n c, .int .i64 (S.steps : Int), .bool S.said, .int .i64 (S.left : Int), .bool S.done, .bool S.down]) := by rw [← hw0]; exact ((RowIs.new w 27 _).alloc _).alloc _
  have HS0 : Hid (RowIs w0 (w.heap.size + 1) 27 [.int .i64 0, .slice none 0 0, .int .i64 0, .bool false, .int .i64 0, .bool false, .bool false]) := by rw [← hw0]; exact (row_last _ _ (by simp) _).alloc _
  have HST : Hid (StrsAt w0 (some ⟨w.heap.size + 1 + 1, 0, none⟩) [nm]) := by
    rw [← hw0]
    have := StrsAt.one ((w.alloc (.cells #[.int .i64 (S.most : Int), .slice ao n c, .int .i64 (S.steps : Int), .bool S.said, .int .i64 (S.left : Int), .bool S.done, .bool S.down] 27)).alloc (.cells #[.int .i64 0, .slice none 0 0, .int .i64 0, .bool false, .int .i64 0, .bool false, .bool false] 27)) nm 9
    rw [show ((w.alloc (.cells #[.int .i64 (S.most : Int), .slice ao n c, .int .i64 (S.steps : Int), .bool S.said, .int .i64 (S.left : Int), .bool S.done, .bool S.down] 27)).alloc (.cells #[.int .i64 0, .slice none 0 0, .int .i64 0, .bool false, .int .i64 0, .bool false, .bool false] 27)).heap.size = w.heap.size + 1 + 1 by simp] at this
    exact this
  clear hw0
  go_wp2_with (first
    | (go_at_call 44; refine (rFirst_any S ao n c S.said S.left S.done _ 1 [nm] (by simp) (by simp) (by simpa using HL.out) w0 HST.out).mono ?_; rw [HRR.out]; rintro e w1 ⟨rfl, h1⟩; have HR1 := show Hid (RowIs w1 _ _ _) from HR0.out.below h1 HR0.out.lt; have HS1 := show Hid (RowIs w1 _ _ _) from HS0.out.below h1 HS0.out.lt; have HA1 : Hid (After w w1) := After.trans HA0.out h1; clear h1)
    | (refine wpList_load_row rfl 27 _ rfl (w.heap.size) rfl 27 _ (0, 0) _ HR1.out Try.underlying27 rfl (by kernel_rfl) ?_)
    | (go_at_call 45; refine (placeR S HO.out ao n c S.said S.left S.done nm (HF.out.after HA1.out)).mono ?_; rw [HIS.out]; rintro e w2 ⟨k, hpl, rfl, h2⟩; have HPL := show Hid (Place _ _ _) from hpl; have HR2 := show Hid (RowIs w2 _ _ _) from HR1.out.below h2 HR1.out.lt; have HS2 := show Hid (RowIs w2 _ _ _) from HS1.out.below h2 HS1.out.lt; have HA2 : Hid (After w w2) := After.trans HA1.out h2; clear h2 hpl)
    | (refine wpList_load_row rfl 27 _ rfl (w.heap.size) rfl 27 _ (0, 0) _ HR2.out Try.underlying27 rfl (by kernel_rfl) ?_)
    | (refine wpList_store_row rfl 27 _ _ rfl (w.heap.size + 1) _ rfl rfl 27 _ HS2.out (by kernel_rfl) rfl (by kernel_rfl) ?_))
  have HAX := after_setRow (g := w.heap.size + 1) HA2.out (Nat.le_succ _) [.int .i64 (S.most : Int), .slice ao n c, .int .i64 (S.steps : Int), .bool S.said, .int .i64 (S.left : Int), .bool S.done, .bool S.down].toArray
  exact bodyPost_ret (ret27t Try.results36 _ _ (w.heap.size + 1) [.int .i64 (S.most : Int), .slice ao n c, .int .i64 (S.steps : Int), .bool S.said, .int .i64 (S.left : Int), .bool S.done, .bool S.down] rfl (RowIs.setRow HS2.out _) rfl _ rfl) rfl ⟨_, rfl, RefAt.of (HF.out.after HAX) (fun _ => ⟨rfl, rfl, rfl⟩) HO.out.left, after_setRow HA2.out (Nat.le_succ _) _⟩
set_option maxRecDepth 100000 in
set_option maxHeartbeats 3200000 in
theorem rSync_ok (S : Dk) (hS : Ok S) (ao : Option Addr) (n c : Nat) (nm : Nm) (hl : ∀ s ∈ [nm], s.length ≤ maxLen)  (hst : S.steps < 4611686018427387904) (w : World) (hf : FA w ao n c S.files) (h0 : refuse S [nm] = 0) (his : fhas nm S.files = true) (f : Fl) (hg : fget nm S.files = some f) :
    Calls Try.prog 36 #[.agg (rV S ao n c S.said S.left S.done), .string (strOf nm)] w (RPostR w (stepE S) (stepS S false (fput nm ⟨f.data, f.data.length⟩ S.files))) := by
  have HL : Hid (∀ s ∈ [nm], s.length ≤ maxLen) := hl
  have HRR : Hid (refuse S [nm] = 0) := h0
  have HSTP : Hid (S.steps < 4611686018427387904) := hst
  clear hl h0 hst
  have HIS : Hid (fhas nm S.files = true) := his
  have HG : Hid (fget nm S.files = some f) := hg
  have HFB : Hid (f.data.length ≤ 16777216) := by have h1 := used_mem (fget_mem hg); have h2 := hS.used; have h3 := hS.most; simp only at h1; unfold Hid; omega
  have HRI : Hid (rising S.files) := hS.ris
  clear his hg
  have HF : Hid (FA w ao n c S.files) := hf
  have HO : Hid (Ok S) := hS
  unfold rV
  clear hf hS
  go_enter Try.func36, Try.ntmps36
  go_wp2_with fail
  obtain ⟨w0, hw0⟩ : ∃ w0, ((w.alloc (.cells #[.int .i64 (S.most : Int), .slice ao n c, .int .i64 (S.steps : Int), .bool S.said, .int .i64 (S.left : Int), .bool S.done, .bool S.down] 27)).alloc (.cells #[.int .i64 0, .slice none 0 0, .int .i64 0, .bool false, .int .i64 0, .bool false, .bool false] 27)).alloc (.cells #[.string (strOf nm)] 9) = w0 := ⟨_, rfl⟩
  rw [hw0]
  have HA0 : Hid (After w w0) := by rw [← hw0]; exact after_alloc (after_alloc (after_alloc (After.refl w) _) _) _
  have HR0 : Hid (RowIs w0 w.heap.size 27 [.int .i64 (S.most : Int), .slice ao n c, .int .i64 (S.steps : Int), .bool S.said, .int .i64 (S.left : Int), .bool S.done, .bool S.down]) := by rw [← hw0]; exact ((RowIs.new w 27 _).alloc _).alloc _
  have HS0 : Hid (RowIs w0 (w.heap.size + 1) 27 [.int .i64 0, .slice none 0 0, .int .i64 0, .bool false, .int .i64 0, .bool false, .bool false]) := by rw [← hw0]; exact (row_last _ _ (by simp) _).alloc _
  have HST : Hid (StrsAt w0 (some ⟨w.heap.size + 1 + 1, 0, none⟩) [nm]) := by
    rw [← hw0]
    have := StrsAt.one ((w.alloc (.cells #[.int .i64 (S.most : Int), .slice ao n c, .int .i64 (S.steps : Int), .bool S.said, .int .i64 (S.left : Int), .bool S.done, .bool S.down] 27)).alloc (.cells #[.int .i64 0, .slice none 0 0, .int .i64 0, .bool false, .int .i64 0, .bool false, .bool false] 27)) nm 9
    rw [show ((w.alloc (.cells #[.int .i64 (S.most : Int), .slice ao n c, .int .i64 (S.steps : Int), .bool S.said, .int .i64 (S.left : Int), .bool S.done, .bool S.down] 27)).alloc (.cells #[.int .i64 0, .slice none 0 0, .int .i64 0, .bool false, .int .i64 0, .bool false, .bool false] 27)).heap.size = w.heap.size + 1 + 1 by simp] at this
    exact this
  clear hw0
  go_wp2_with (first
    | (go_at_call 44; refine (rFirst_any S ao n c S.said S.left S.done _ 1 [nm] (by simp) (by simp) (by simpa using HL.out) w0 HST.out).mono ?_; rw [HRR.out]; rintro e w1 ⟨rfl, h1⟩; have HR1 := show Hid (RowIs w1 _ _ _) from HR0.out.below h1 HR0.out.lt; have HS1 := show Hid (RowIs w1 _ _ _) from HS0.out.below h1 HS0.out.lt; have HA1 : Hid (After w w1) := After.trans HA0.out h1; clear h1)
    | (refine wpList_load_row rfl 27 _ rfl (w.heap.size) rfl 27 _ (0, 0) _ HR1.out Try.underlying27 rfl (by kernel_rfl) ?_)
    | (go_at_call 45; refine (placeR S HO.out ao n c S.said S.left S.done nm (HF.out.after HA1.out)).mono ?_; rw [HIS.out]; rintro e w2 ⟨k, hpl, rfl, h2⟩; have HPL := show Hid (Place nm S.files k) from hpl; have HR2 := show Hid (RowIs w2 _ _ _) from HR1.out.below h2 HR1.out.lt; have HS2 := show Hid (RowIs w2 _ _ _) from HS1.out.below h2 HS1.out.lt; have HA2 : Hid (After w w2) := After.trans HA1.out h2; clear h2 hpl; obtain ⟨f', hk, hg'⟩ := HPL.out.get HRI.out HIS.out; have hff : f' = f := (by have := HG.out; rw [hg'] at this; exact Option.some.inj this); subst hff; have hkn : k < n := (by have := (List.getElem?_eq_some_iff.1 hk).1; rw [HF.out.len] at this; exact this); have hki : (k : Int) < (n : Int) := (by omega); obtain ⟨fb, fo, hao, _, hfc⟩ := HF.out.at_ (by intro h; rw [h] at hk; simp at hk); obtain ⟨e0, e1, e2⟩ := hfc k _ hk; have d0 := cell_after HA2.out e0; have d1 := cell_after HA2.out e1; have d2 := cell_after HA2.out e2; have c1 := HR2.out.cell (j := 1) rfl; subst hao; simp only at d0 d1 d2; obtain ⟨s1, hs1⟩ : ∃ s1, strOf (f'.data.take f'.safe) = s1 := ⟨_, rfl⟩; obtain ⟨s2, hs2⟩ : ∃ s2, strOf (f'.data.drop f'.safe) = s2 := ⟨_, rfl⟩; have HSS : Hid (s1 ++ s2 = strOf f'.data) := (by rw [← hs1, ← hs2]; exact strOf_cat f'.data f'.safe); have HS12 : Hid (strOf (f'.data.take f'.safe) = s1 ∧ strOf (f'.data.drop f'.safe) = s2) := ⟨hs1, hs2⟩; have HSZ : Hid (s1.size + s2.size ≤ 16777216) := (by have := HFB.out; unfold Hid; rw [← hs1, ← hs2, strOf_size, strOf_size, List.length_take, List.length_drop]; omega); rw [hs1] at d1; rw [hs2] at d2; clear hfc e0 e1 e2 hs1 hs2 hg' hk))
  obtain ⟨g3, hg3⟩ : ∃ g3, w2.heap.size = g3 := ⟨_, rfl⟩
  obtain ⟨w4, hw4⟩ : ∃ w4, w2.alloc (.cells #[.string (strOf nm), .string s1, .string s2] 75) = w4 := ⟨_, rfl⟩
  rw [hg3, hw4]
  have hA34 : After w2 w4 := by rw [← hw4]; exact after_alloc (After.refl w2) _
  have HT4 : Hid (RowIs w4 g3 75 [.string (strOf nm), .string s1, .string s2]) := by rw [← hw4, ← hg3]; exact RowIs.new w2 75 _
  have HR4 := show Hid (RowIs w4 _ _ _) from HR2.out.below hA34 HR2.out.lt
  have HS4 := show Hid (RowIs w4 _ _ _) from HS2.out.below hA34 HS2.out.lt
  have HA4 : Hid (After w w4) := After.trans HA2.out hA34
  have HG3 : Hid (w.heap.size + 1 < g3) := by have := HS2.out.lt; unfold Hid; omega
  clear hg3 hw4 hA34 d0 d1 d2 c1
  refine wp_region_noPanic ?_
  refine wp_region_held_drew (S := (fun W => RowIs W w.heap.size 27 [.int .i64 (S.most : Int), .slice (some ⟨fb, fo, none⟩) n c, .int .i64 (S.steps : Int), .bool S.said, .int .i64 (S.left : Int), .bool S.done, .bool S.down] ∧ RowIs W g3 75 [.string (strOf nm), .string s1, .string s2])) (by kernel_rfl) ⟨HR4.out.drew, HT4.out.drew⟩ ?_
  intro hS0
  have hA0 : After w4 w4.drew := After.drew (After.refl w4)
  refine tk 0 34 (.agg #[.int .i64 (S.most : Int), .slice (some ⟨fb, fo, none⟩) n c, .int .i64 (S.steps : Int), .bool S.said, .int .i64 (S.left : Int), .bool S.done, .bool S.down]) (fuel := 16) rfl (by kernel_rfl) (by kernel_rfl) (by kernel_rfl) (by kernel_rfl) noPanic_false (by kernel_rfl) (fun W hW => x_row27 (x := .tmp 2) (g := w.heap.size) (by kernel_rfl) (by kernel_rfl) hW.1 rfl) hS0 ?_
  refine tk 1 35 (.agg #[.int .i64 (S.most : Int), .slice (some ⟨fb, fo, none⟩) n c, .int .i64 (S.steps : Int), .bool S.said, .int .i64 (S.left : Int), .bool S.done, .bool S.down]) (fuel := 15) rfl (by kernel_rfl) (by kernel_rfl) (by kernel_rfl) (by kernel_rfl) noPanic_false (by kernel_rfl) (fun W hW => x_row27 (x := .tmp 2) (g := w.heap.size) (by kernel_rfl) (by kernel_rfl) hW.1 rfl) hS0 ?_
  refine tk 2 36 (.pointer (some ⟨g3, 0, none⟩)) (fuel := 14) rfl (by kernel_rfl) (by kernel_rfl) (by kernel_rfl) (by kernel_rfl) noPanic_false (by kernel_rfl) (fun _ _ => by kernel_rfl) hS0 ?_
  refine tk 3 37 (.string (strOf nm)) (fuel := 13) rfl (by kernel_rfl) (by kernel_rfl) (by kernel_rfl) (by kernel_rfl) noPanic_false (by kernel_rfl) (fun W hW => x_ld9 (x := .tmp 36) (g := g3) (p := 0) (by kernel_rfl) (by kernel_rfl) (hW.2.cell (j := 0) rfl)) hS0 ?_
  refine tk 4 38 (.pointer (some ⟨g3, 1, none⟩)) (fuel := 12) rfl (by kernel_rfl) (by kernel_rfl) (by kernel_rfl) (by kernel_rfl) noPanic_false (by kernel_rfl) (fun _ _ => by kernel_rfl) hS0 ?_
  refine tk 5 39 (.string s1) (fuel := 11) rfl (by kernel_rfl) (by kernel_rfl) (by kernel_rfl) (by kernel_rfl) noPanic_false (by kernel_rfl) (fun W hW => x_ld9 (x := .tmp 38) (g := g3) (p := 1) (by kernel_rfl) (by kernel_rfl) (hW.2.cell (j := 1) rfl)) hS0 ?_
  refine tk 6 40 (.pointer (some ⟨g3, 2, none⟩)) (fuel := 10) rfl (by kernel_rfl) (by kernel_rfl) (by kernel_rfl) (by kernel_rfl) noPanic_false (by kernel_rfl) (fun _ _ => by kernel_rfl) hS0 ?_
  refine tk 7 41 (.string s2) (fuel := 9) rfl (by kernel_rfl) (by kernel_rfl) (by kernel_rfl) (by kernel_rfl) noPanic_false (by kernel_rfl) (fun W hW => x_ld9 (x := .tmp 40) (g := g3) (p := 2) (by kernel_rfl) (by kernel_rfl) (hW.2.cell (j := 2) rfl)) hS0 ?_
  refine tk 8 42 (.string (s1 ++ s2)) (fuel := 8) rfl (by kernel_rfl) (by kernel_rfl) (by kernel_rfl) (by kernel_rfl) noPanic_false (by kernel_rfl) (fun W _ => x_add9 (x := .tmp 39) (y := .tmp 41) (by kernel_rfl) (by kernel_rfl) (by kernel_rfl) (by have := HSZ.out; omega)) hS0 ?_
  refine tk 9 43 (.agg #[.string (strOf nm), .string (s1 ++ s2), .string ⟨#[]⟩]) (fuel := 7) rfl (by kernel_rfl) (by kernel_rfl) (by kernel_rfl) (by kernel_rfl) noPanic_false (by kernel_rfl) (fun _ _ => by kernel_rfl) hS0 ?_
  refine tk 11 45 (.agg #[.int .i64 (S.most : Int), .slice (some ⟨fb, fo, none⟩) n c, .int .i64 (S.steps : Int), .bool S.said, .int .i64 (S.left : Int), .bool S.done, .bool S.down]) (fuel := 6) rfl (by kernel_rfl) (by kernel_rfl) (by kernel_rfl) (by kernel_rfl) noPanic_false (by kernel_rfl) (fun W hW => x_row27 (x := .tmp 2) (g := w.heap.size) (by kernel_rfl) (by kernel_rfl) hW.1 rfl) hS0 ?_
  refine tkCallS 10 44 59 #[.agg #[.int .i64 (S.most : Int), .slice (some ⟨fb, fo, none⟩) n c, .int .i64 (S.steps : Int), .bool S.said, .int .i64 (S.left : Int), .bool S.done, .bool S.down], .agg #[.string (strOf nm), .string (s1 ++ s2), .string ⟨#[]⟩]] (fun v w' => ∃ a2 n2 c2, v = .agg #[.int .i64 (S.most : Int), .slice a2 n2 c2, .int .i64 (S.steps : Int), .bool S.said, .int .i64 (S.left : Int), .bool S.done, .bool S.down] ∧ FA w' a2 n2 c2 (fput nm ⟨f'.data, f'.data.length⟩ S.files) ∧ After w4 w') (fuel := 5) rfl (by kernel_rfl) (by kernel_rfl) (by kernel_rfl) (fun _ => by kernel_rfl) ((withR' S HO.out (some ⟨fb, fo, none⟩) n c nm ⟨f'.data, f'.data.length⟩ (s1 ++ s2) ⟨#[]⟩ (by rw [HSS.out]; simp) (by simp [strOf]) ((HF.out.after HA4.out).after hA0)).mono (fun e w' ⟨a2, n2, c2, he, h2, h3⟩ => ⟨_, he, a2, n2, c2, rfl, h2, After.trans hA0 h3⟩)) ?_
  rintro v5 w5 ⟨a5, n5, c5, rfl, hf5, hA5⟩
  refine ⟨⟨HR4.out.below hA5 HR4.out.lt, HT4.out.below hA5 HT4.out.lt⟩, ?_⟩
  refine tkCallS 12 46 60 #[.agg #[.int .i64 (S.most : Int), .slice (some ⟨fb, fo, none⟩) n c, .int .i64 (S.steps : Int), .bool S.said, .int .i64 (S.left : Int), .bool S.done, .bool S.down], .agg #[.int .i64 (S.most : Int), .slice a5 n5 c5, .int .i64 (S.steps : Int), .bool S.said, .int .i64 (S.left : Int), .bool S.done, .bool S.down], .agg #[.int .i64 (S.most : Int), .slice (some ⟨fb, fo, none⟩) n c, .int .i64 (S.steps : Int), .bool S.said, .int .i64 (S.left : Int), .bool S.done, .bool S.down]] (fun v w' => ∃ v1, v = .tuple #[v1, .int .i64 (stepE S : Int)] ∧ RefAt w' v1 (stepS S false (fput nm ⟨f'.data, f'.data.length⟩ S.files)) ∧ After w4 w') (fuel := 4) rfl (by kernel_rfl) (by kernel_rfl) (by kernel_rfl) (fun _ => by kernel_rfl) ((stepR S HSTP.out HO.out.left (some ⟨fb, fo, none⟩) a5 (some ⟨fb, fo, none⟩) n c n5 c5 n c (fput nm ⟨f'.data, f'.data.length⟩ S.files) false hf5 (by simpa using ((HF.out.after HA4.out).after hA5))).mono (fun e w' ⟨v1, he, h2, h3⟩ => ⟨_, he, v1, rfl, h2, After.trans hA5 h3⟩)) ?_
  rintro v6 w6 ⟨v1, rfl, hr6, hA6⟩
  have hT6 := And.intro (HR4.out.below hA6 HR4.out.lt) (HT4.out.below hA6 HT4.out.lt)
  refine ⟨hT6, ?_⟩
  obtain ⟨ao7, c7, ar7, lf7, dn7, hv7, _⟩ := hr6.ex
  have hv7' : v1 = .agg (rV (stepS S false (fput nm ⟨f'.data, f'.data.length⟩ S.files)) ao7 (stepS S false (fput nm ⟨f'.data, f'.data.length⟩ S.files)).files.length c7 ar7 lf7 dn7) := hv7
  obtain ⟨R7, hR7⟩ : ∃ R7, rV (stepS S false (fput nm ⟨f'.data, f'.data.length⟩ S.files)) ao7 (stepS S false (fput nm ⟨f'.data, f'.data.length⟩ S.files)).files.length c7 ar7 lf7 dn7 = R7 := ⟨_, rfl⟩
  have h77 : R7.size = 7 := by rw [← hR7]; rfl
  have h71 : R7.all (·.oneCell') = true := by rw [← hR7]; kernel_rfl
  rw [hR7] at hv7'
  subst hv7'
  have HR6 := show Hid (RefAt w6 (.agg R7) _) from hr6
  clear hv7 hr6
  refine tk 13 47 (.agg R7) (fuel := 3) rfl (by kernel_rfl) (by kernel_rfl) (by kernel_rfl) (by kernel_rfl) noPanic_false (by kernel_rfl) (fun _ _ => by kernel_rfl) hT6 ?_
  refine tk 14 48 (.int .i64 (stepE S : Int)) (fuel := 2) rfl (by kernel_rfl) (by kernel_rfl) (by kernel_rfl) (by kernel_rfl) noPanic_false (by kernel_rfl) (fun _ _ => by kernel_rfl) hT6 ?_
  have HW6 := HS4.out.below hA6 HS4.out.lt
  have HWA : After w w6 := After.trans HA4.out hA6
  have hT7 := And.intro (hT6.1.setRow_other (g' := w.heap.size + 1) R7 (by omega)) (hT6.2.setRow_other (g' := w.heap.size + 1) R7 (by have := HG3.out; omega))
  refine tkStore 15 (w.heap.size + 1) 27 (.tmp 4) (.tmp 47) R7 #[.int .i64 0, .slice none 0 0, .int .i64 0, .bool false, .int .i64 0, .bool false, .bool false] 27 (fuel := 1) rfl (by kernel_rfl) (by kernel_rfl) (by kernel_rfl) (by kernel_rfl) (by kernel_rfl) (by kernel_rfl) HW6 (by rw [h77]; kernel_rfl) (by rw [h77]; rfl) h71 hT7 ?_
  refine tk 16 5 (.int .i64 (stepE S : Int)) (fuel := 0) rfl (by kernel_rfl) (by kernel_rfl) (by kernel_rfl) (by kernel_rfl) noPanic_false (by kernel_rfl) (fun _ _ => by kernel_rfl) hT7 ?_
  refine wpAnyH_done (by kernel_rfl) (NoPanic.normal ?_) _
  have HAX := after_setRow (g := w.heap.size + 1) HWA (Nat.le_succ _) R7
  have HRX := HR6.out.setRow HW6 R7
  have HW6x := show Hid (RowIs w6 _ _ _) from HW6
  clear hT6 hT7 hA6 HW6 hA0 hS0 hA5 hf5
  go_simp
  go_wp2
  exact bodyPost_ret (ret27t Try.results36 _ _ (w.heap.size + 1) R7.toList rfl (by have := RowIs.setRow HW6x.out R7.toList; simpa using this) (by simpa using h77) _ rfl) rfl ⟨_, rfl, HRX, HAX⟩
theorem syncR (S : Dk) (hS : Ok S) (hst : S.steps < 4611686018427387904) (nm : Nm) (hl : nm.length ≤ maxLen) (w : World) (v : Value) (h : RefAt w v S) : Calls Try.prog 36 #[v, .string (strOf nm)] w (RPostR w (removeE S nm) (syncS S nm)) := by
  obtain ⟨ao, c, ar, lf, dn, rfl, hat, hc, hrel, hlf, hz⟩ := h.ex
  have hf : FA w ao S.files.length c S.files := ⟨hat, rfl, hc, hz⟩
  have hl' : ∀ s ∈ [nm], s.length ≤ maxLen := by simpa using hl
  unfold removeE syncS
  rcases find_cases S nm with ⟨h0, hi, he⟩ | ⟨h0, hi, he⟩ | ⟨h0, he⟩
  · obtain ⟨rfl, rfl, rfl⟩ := hrel (refuse_up h0)
    rw [if_pos he, if_pos he]; exact rSync_ok S hS ao _ c nm hl' hst w hf h0 hi _ (getF_of he)
  · obtain ⟨rfl, rfl, rfl⟩ := hrel (refuse_up h0)
    rw [if_neg (by omega), if_neg (by omega), he]; exact rSync_none S hS ao _ c nm hl' hst w hf h0 hi
  · rw [if_neg (by omega), if_neg (by omega), he]
    exact rSync_refused S hS ao _ c ar lf dn hrel hlf nm hl' w hf _ rfl h0
end Go.Proofs.Ytlbodickflljfaa
