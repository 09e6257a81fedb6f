/-
  THE WALK OF (stemmaref05.Disk).Cut.
-/
import Derived.Test.YtlbodickflljfaaRefAppend
import Derived.Deep.QuietTactic
import Derived.BigQuiet
namespace Go.Proofs.Ytlbodickflljfaa
open Go.RowKit Go.Maps Dsk
theorem sl9 (l : List UInt8) (k : Nat) (hk : k ≤ l.length) (w : World) : (Instr.sliceAt 9 (.string (strOf l)) none (some (.int .i64 (k : Int))) none).run Try.prog w = .ok (.string (strOf (l.take k))) w := by
  have hs : (strOf l).size = l.length := strOf_size l
  rw [run_sliceAt_string (P := Try.prog) w 9 _ _ _ _ Try.underlying9, run_slice_string_h (P := Try.prog) w 9 (strOf l) Try.underlying9 .i64 (k : Int) (by omega) (by rw [hs]; omega)]
  have e : (strOf l).extract 0 k = strOf (l.take k) := by
    apply ByteArray.ext
    simp [strOf]
  simp [e]
theorem x_sl9 {oi : Oper} {a : Act} {w : World} {x y : Operand} {l : List UInt8} {k : Nat} (hop : oi.op = .slice 9 x none (some y) none) (hx : a.eval x = .string (strOf l)) (hy : a.eval y = .int .i64 (k : Int)) (hk : k ≤ l.length) : (execOp a.eval oi).run Try.prog w = .ok (.value (.string (strOf (l.take k)))) w := by
  unfold execOp
  simp only [hop, hx, hy, Option.map, Sem.run_bind, sl9 l k hk w, Result.andThen_ok]
  rfl
theorem opCall {ops : Array Oper} {Q : Exit → Act → World → Prop} {K : Act → World → Prop} {a : Act} {w : World} {oi : Oper} (i d : Nat) (f : FuncId) (args : Array Value) (R : Value → World → Prop) (hi : ops[i]? = some oi) (hd : oi.dst = some d) (hw : Region.wanted oi (yielded ops a.tmps) = true)
    (hrun : ∀ w, (execOp a.eval oi).run Try.prog w = .ok (.enter f args) w) (hc : Calls Try.prog f args w fun e w' => ∃ v, e = .returned v ∧ R v w') (h : ∀ v w', R v w' → K (a.put (some d) v) w') : wpOp Try.prog ops Q i K a w := by
  refine wpOp_step hi (fun K' hK => ?_)
  rw [if_pos hw]
  unfold Oper.wp
  rw [hrun, Oper.upon_enter]
  refine hc.mono (fun e w' ⟨v, he, hr⟩ => ?_)
  subst he
  rw [hd]
  exact hK _ _ (h v w' hr)
theorem FA.setRow {w : World} {ao : Option Addr} {n c : Nat} {l : List (Nm × Fl)} {g : Nat} (h : FA w ao n c l) (hz : RowIs w g 27 [.int .i64 0, .slice none 0 0, .int .i64 0, .bool false, .int .i64 0, .bool false, .bool false]) (R : Array Value) : FA (w.setRow g R) ao n c l := by
  refine ⟨fun hne => ?_, h.len, h.cap, h.z⟩
  obtain ⟨b, o, e, ht, hc⟩ := h.at_ hne
  have hb : b ≠ g := fun e2 => by
    subst e2
    obtain ⟨p, hp⟩ : ∃ p, l[0]? = some p := by cases hh : l with | nil => exact absurd hh hne | cons p _ => exact ⟨p, rfl⟩
    exact no_string hz (hc 0 p hp).1
  exact ⟨b, o, e, by obtain ⟨cur, m, ht⟩ := ht; exact ⟨cur, m, by rw [Go.setRow_other _ _ _ _ hb]; exact ht⟩, fun j p hj => ⟨by rw [cell_setRow_other _ _ _ _ hb]; exact (hc j p hj).1, by rw [cell_setRow_other _ _ _ _ hb]; exact (hc j p hj).2.1, by rw [cell_setRow_other _ _ _ _ hb]; exact (hc j p hj).2.2⟩⟩
set_option maxRecDepth 100000 in
set_option maxHeartbeats 3200000 in
theorem rCut_refused (S : Dk) (hS : Ok S) (ao : Option Addr) (n c : Nat) (ar : Bool) (lf : Nat) (dn : Bool) (hrel : S.down = false → ar = S.said ∧ lf = S.left ∧ dn = S.done) (hlf : lf < 9223372036854775808) (nm : Nm) (hl : ∀ s ∈ [nm], s.length ≤ maxLen) (m : Int) (w : World) (hf : FA w ao n c S.files) (r : Nat) (hr : refuse S [nm] = r) (h0 : ¬ r = 0) :
    Calls Try.prog 40 #[.agg (rV S ao n c ar lf dn), .string (strOf nm), .int .i64 m] w (RPostR w r S) := by
  have HREL : Hid ((S.down = false → ar = S.said ∧ lf = S.left ∧ dn = S.done) ∧ lf < 9223372036854775808) := ⟨hrel, hlf⟩
  have HL : Hid (∀ s ∈ [nm], s.length ≤ maxLen) := hl
  have HRR : Hid (refuse S [nm] = r) := hr
  have h0' : ((r : Int) != 0) = true := by simp; omega
  obtain ⟨is, his⟩ : ∃ is, fhas nm S.files = is := ⟨_, rfl⟩
  have HIS : Hid (fhas nm S.files = is) := his
  clear hrel hlf hl hr his
  have HF : Hid (FA w ao n c S.files) := hf
  have HO : Hid (Ok S) := hS
  unfold rV
  clear hf hS
  go_enter Try.func40, Try.ntmps40
  go_wp2_with fail
  obtain ⟨w0, hw0⟩ : ∃ w0, ((w.alloc (.cells #[.int .i64 (S.most : Int), .slice ao n c, .int .i64 (S.steps : Int), .bool ar, .int .i64 (lf : Int), .bool dn, .bool S.down] 27)).alloc (.cells #[.int .i64 0, .slice none 0 0, .int .i64 0, .bool false, .int .i64 0, .bool false, .bool false] 27)).alloc (.cells #[.string (strOf nm)] 9) = w0 := ⟨_, rfl⟩
  rw [hw0]
  have HA0 : Hid (After w w0) := by rw [← hw0]; exact after_alloc (after_alloc (after_alloc (After.refl w) _) _) _
  have HR0 : Hid (RowIs w0 w.heap.size 27 [.int .i64 (S.most : Int), .slice ao n c, .int .i64 (S.steps : Int), .bool ar, .int .i64 (lf : Int), .bool dn, .bool S.down]) := by rw [← hw0]; exact ((RowIs.new w 27 _).alloc _).alloc _
  have HS0 : Hid (RowIs w0 (w.heap.size + 1) 27 [.int .i64 0, .slice none 0 0, .int .i64 0, .bool false, .int .i64 0, .bool false, .bool false]) := by rw [← hw0]; exact (row_last _ _ (by simp) _).alloc _
  have HST : Hid (StrsAt w0 (some ⟨w.heap.size + 1 + 1, 0, none⟩) [nm]) := by
    rw [← hw0]
    have := StrsAt.one ((w.alloc (.cells #[.int .i64 (S.most : Int), .slice ao n c, .int .i64 (S.steps : Int), .bool ar, .int .i64 (lf : Int), .bool dn, .bool S.down] 27)).alloc (.cells #[.int .i64 0, .slice none 0 0, .int .i64 0, .bool false, .int .i64 0, .bool false, .bool false] 27)) nm 9
    rw [show ((w.alloc (.cells #[.int .i64 (S.most : Int), .slice ao n c, .int .i64 (S.steps : Int), .bool ar, .int .i64 (lf : Int), .bool dn, .bool S.down] 27)).alloc (.cells #[.int .i64 0, .slice none 0 0, .int .i64 0, .bool false, .int .i64 0, .bool false, .bool false] 27)).heap.size = w.heap.size + 1 + 1 by simp] at this
    exact this
  clear hw0
  go_wp2_with (first
    | (go_at_call 44; refine (rFirst_any S ao n c ar lf dn _ 1 [nm] (by simp) (by simp) (by simpa using HL.out) w0 HST.out).mono ?_; rw [HRR.out]; rintro e w1 ⟨rfl, h1⟩; have HR1 := show Hid (RowIs w1 _ _ _) from HR0.out.below h1 HR0.out.lt; have HS1 := show Hid (RowIs w1 _ _ _) from HS0.out.below h1 HS0.out.lt; have HA1 : Hid (After w w1) := After.trans HA0.out h1; clear h1)
    | (refine wpList_load_row rfl 27 _ rfl (w.heap.size) rfl 27 _ (0, 0) _ HR1.out Try.underlying27 rfl (by kernel_rfl) ?_)
    | (go_at_call 45; refine (placeR S HO.out ao n c ar lf dn nm (HF.out.after HA1.out)).mono ?_; rw [HIS.out]; rintro e w2 ⟨k, hpl, rfl, h2⟩; have HPL := show Hid (Place _ _ _) from hpl; have HR2 := show Hid (RowIs w2 _ _ _) from HR1.out.below h2 HR1.out.lt; have HS2 := show Hid (RowIs w2 _ _ _) from HS1.out.below h2 HS1.out.lt; have HA2 : Hid (After w w2) := After.trans HA1.out h2; clear h2 hpl)
    | (refine wpList_load_row rfl 27 _ rfl (w.heap.size) rfl 27 _ (0, 0) _ HR2.out Try.underlying27 rfl (by kernel_rfl) ?_)
    | (refine wpList_store_row rfl 27 _ _ rfl (w.heap.size + 1) _ rfl rfl 27 _ HS2.out (by kernel_rfl) rfl (by kernel_rfl) ?_))
  have HAX := after_setRow (g := w.heap.size + 1) HA2.out (Nat.le_succ _) [.int .i64 (S.most : Int), .slice ao n c, .int .i64 (S.steps : Int), .bool ar, .int .i64 (lf : Int), .bool dn, .bool S.down].toArray
  exact bodyPost_ret (ret27t Try.results40 _ _ (w.heap.size + 1) [.int .i64 (S.most : Int), .slice ao n c, .int .i64 (S.steps : Int), .bool ar, .int .i64 (lf : Int), .bool dn, .bool S.down] rfl (RowIs.setRow HS2.out _) rfl _ rfl) rfl ⟨_, rfl, RefAt.of (HF.out.after HAX) HREL.out.1 HREL.out.2, after_setRow HA2.out (Nat.le_succ _) _⟩
set_option maxRecDepth 100000 in
set_option maxHeartbeats 3200000 in
theorem rCut_none (S : Dk) (hS : Ok S) (ao : Option Addr) (n c : Nat) (nm : Nm) (hl : ∀ s ∈ [nm], s.length ≤ maxLen) (m : Int) (hst : S.steps < 4611686018427387904) (w : World) (hf : FA w ao n c S.files) (h0 : refuse S [nm] = 0) (his : fhas nm S.files = false) :
    Calls Try.prog 40 #[.agg (rV S ao n c S.said S.left S.done), .string (strOf nm), .int .i64 m] w (RPostR w 22 S) := by
  have HL : Hid (∀ s ∈ [nm], s.length ≤ maxLen) := hl
  have HRR : Hid (refuse S [nm] = 0) := h0
  have HSTP : Hid (S.steps < 4611686018427387904) := hst
  clear hl h0 hst
  have HIS : Hid (fhas nm S.files = false) := his
  clear his
  have HF : Hid (FA w ao n c S.files) := hf
  have HO : Hid (Ok S) := hS
  unfold rV
  clear hf hS
  go_enter Try.func40, Try.ntmps40
  go_wp2_with fail
  obtain ⟨w0, hw0⟩ : ∃ w0, ((w.alloc (.cells #[.int .i64 (S.most : Int), .slice ao n c, .int .i64 (S.steps : Int), .bool S.said, .int .i64 (S.left : Int), .bool S.done, .bool S.down] 27)).alloc (.cells #[.int .i64 0, .slice none 0 0, .int .i64 0, .bool false, .int .i64 0, .bool false, .bool false] 27)).alloc (.cells #[.string (strOf nm)] 9) = w0 := ⟨_, rfl⟩
  rw [hw0]
  have HA0 : Hid (After w w0) := by rw [← hw0]; exact after_alloc (after_alloc (after_alloc (After.refl w) _) _) _
  have HR0 : Hid (RowIs w0 w.heap.size 27 [.int .i64 (S.most : Int), .slice ao n c, .int .i64 (S.steps : Int), .bool S.said, .int .i64 (S.left : Int), .bool S.done, .bool S.down]) := by rw [← hw0]; exact ((RowIs.new w 27 _).alloc _).alloc _
  have HS0 : Hid (RowIs w0 (w.heap.size + 1) 27 [.int .i64 0, .slice none 0 0, .int .i64 0, .bool false, .int .i64 0, .bool false, .bool false]) := by rw [← hw0]; exact (row_last _ _ (by simp) _).alloc _
  have HST : Hid (StrsAt w0 (some ⟨w.heap.size + 1 + 1, 0, none⟩) [nm]) := by
    rw [← hw0]
    have := StrsAt.one ((w.alloc (.cells #[.int .i64 (S.most : Int), .slice ao n c, .int .i64 (S.steps : Int), .bool S.said, .int .i64 (S.left : Int), .bool S.done, .bool S.down] 27)).alloc (.cells #[.int .i64 0, .slice none 0 0, .int .i64 0, .bool false, .int .i64 0, .bool false, .bool false] 27)) nm 9
    rw [show ((w.alloc (.cells #[.int .i64 (S.most : Int), .slice ao n c, .int .i64 (S.steps : Int), .bool S.said, .int .i64 (S.left : Int), .bool S.done, .bool S.down] 27)).alloc (.cells #[.int .i64 0, .slice none 0 0, .int .i64 0, .bool false, .int .i64 0, .bool false, .bool false] 27)).heap.size = w.heap.size + 1 + 1 by simp] at this
    exact this
  clear hw0
  go_wp2_with (first
    | (go_at_call 44; refine (rFirst_any S ao n c S.said S.left S.done _ 1 [nm] (by simp) (by simp) (by simpa using HL.out) w0 HST.out).mono ?_; rw [HRR.out]; rintro e w1 ⟨rfl, h1⟩; have HR1 := show Hid (RowIs w1 _ _ _) from HR0.out.below h1 HR0.out.lt; have HS1 := show Hid (RowIs w1 _ _ _) from HS0.out.below h1 HS0.out.lt; have HA1 : Hid (After w w1) := After.trans HA0.out h1; clear h1)
    | (refine wpList_load_row rfl 27 _ rfl (w.heap.size) rfl 27 _ (0, 0) _ HR1.out Try.underlying27 rfl (by kernel_rfl) ?_)
    | (go_at_call 45; refine (placeR S HO.out ao n c S.said S.left S.done nm (HF.out.after HA1.out)).mono ?_; rw [HIS.out]; rintro e w2 ⟨k, hpl, rfl, h2⟩; have HPL := show Hid (Place _ _ _) from hpl; have HR2 := show Hid (RowIs w2 _ _ _) from HR1.out.below h2 HR1.out.lt; have HS2 := show Hid (RowIs w2 _ _ _) from HS1.out.below h2 HS1.out.lt; have HA2 : Hid (After w w2) := After.trans HA1.out h2; clear h2 hpl)
    | (refine wpList_load_row rfl 27 _ rfl (w.heap.size) rfl 27 _ (0, 0) _ HR2.out Try.underlying27 rfl (by kernel_rfl) ?_)
    | (refine wpList_store_row rfl 27 _ _ rfl (w.heap.size + 1) _ rfl rfl 27 _ HS2.out (by kernel_rfl) rfl (by kernel_rfl) ?_))
  have HAX := after_setRow (g := w.heap.size + 1) HA2.out (Nat.le_succ _) [.int .i64 (S.most : Int), .slice ao n c, .int .i64 (S.steps : Int), .bool S.said, .int .i64 (S.left : Int), .bool S.done, .bool S.down].toArray
  exact bodyPost_ret (ret27t Try.results40 _ _ (w.heap.size + 1) [.int .i64 (S.most : Int), .slice ao n c, .int .i64 (S.steps : Int), .bool S.said, .int .i64 (S.left : Int), .bool S.done, .bool S.down] rfl (RowIs.setRow HS2.out _) rfl _ rfl) rfl ⟨_, rfl, RefAt.of (HF.out.after HAX) (fun _ => ⟨rfl, rfl, rfl⟩) HO.out.left, after_setRow HA2.out (Nat.le_succ _) _⟩
set_option maxRecDepth 100000 in
set_option maxHeartbeats 3200000 in
theorem rCut_neg (S : Dk) (hS : Ok S) (ao : Option Addr) (n c : Nat) (nm : Nm) (hl : ∀ s ∈ [nm], s.length ≤ maxLen) (m : Int) (hst : S.steps < 4611686018427387904) (w : World) (hf : FA w ao n c S.files) (h0 : refuse S [nm] = 0) (his : fhas nm S.files = true) (f : Fl) (hg : fget nm S.files = some f) (hm : m < 0 ∧ f.data.length = f.data.length) :
    Calls Try.prog 40 #[.agg (rV S ao n c S.said S.left S.done), .string (strOf nm), .int .i64 m] w (RPostR w 2 S) := by
  have HL : Hid (∀ s ∈ [nm], s.length ≤ maxLen) := hl
  have HRR : Hid (refuse S [nm] = 0) := h0
  have HSTP : Hid (S.steps < 4611686018427387904) := hst
  clear hl h0 hst
  obtain ⟨dl, hdl⟩ : ∃ dl, f.data.length = dl := ⟨_, rfl⟩
  have HDL : Hid (f.data.length = dl) := hdl
  have hm := hm.1
  clear hdl
  have HIS : Hid (fhas nm S.files = true) := his
  have HG : Hid (fget nm S.files = some f) := hg
  have HFB : Hid (f.data.length ≤ 16777216) := by have h1 := used_mem (fget_mem hg); have h2 := hS.used; have h3 := hS.most; simp only at h1; unfold Hid; omega
  have HRI : Hid (rising S.files) := hS.ris
  clear his hg
  have HF : Hid (FA w ao n c S.files) := hf
  have HO : Hid (Ok S) := hS
  unfold rV
  clear hf hS
  go_enter Try.func40, Try.ntmps40
  go_wp2_with fail
  obtain ⟨w0, hw0⟩ : ∃ w0, ((w.alloc (.cells #[.int .i64 (S.most : Int), .slice ao n c, .int .i64 (S.steps : Int), .bool S.said, .int .i64 (S.left : Int), .bool S.done, .bool S.down] 27)).alloc (.cells #[.int .i64 0, .slice none 0 0, .int .i64 0, .bool false, .int .i64 0, .bool false, .bool false] 27)).alloc (.cells #[.string (strOf nm)] 9) = w0 := ⟨_, rfl⟩
  rw [hw0]
  have HA0 : Hid (After w w0) := by rw [← hw0]; exact after_alloc (after_alloc (after_alloc (After.refl w) _) _) _
  have HR0 : Hid (RowIs w0 w.heap.size 27 [.int .i64 (S.most : Int), .slice ao n c, .int .i64 (S.steps : Int), .bool S.said, .int .i64 (S.left : Int), .bool S.done, .bool S.down]) := by rw [← hw0]; exact ((RowIs.new w 27 _).alloc _).alloc _
  have HS0 : Hid (RowIs w0 (w.heap.size + 1) 27 [.int .i64 0, .slice none 0 0, .int .i64 0, .bool false, .int .i64 0, .bool false, .bool false]) := by rw [← hw0]; exact (row_last _ _ (by simp) _).alloc _
  have HST : Hid (StrsAt w0 (some ⟨w.heap.size + 1 + 1, 0, none⟩) [nm]) := by
    rw [← hw0]
    have := StrsAt.one ((w.alloc (.cells #[.int .i64 (S.most : Int), .slice ao n c, .int .i64 (S.steps : Int), .bool S.said, .int .i64 (S.left : Int), .bool S.done, .bool S.down] 27)).alloc (.cells #[.int .i64 0, .slice none 0 0, .int .i64 0, .bool false, .int .i64 0, .bool false, .bool false] 27)) nm 9
    rw [show ((w.alloc (.cells #[.int .i64 (S.most : Int), .slice ao n c, .int .i64 (S.steps : Int), .bool S.said, .int .i64 (S.left : Int), .bool S.done, .bool S.down] 27)).alloc (.cells #[.int .i64 0, .slice none 0 0, .int .i64 0, .bool false, .int .i64 0, .bool false, .bool false] 27)).heap.size = w.heap.size + 1 + 1 by simp] at this
    exact this
  clear hw0
  go_wp2_with (first
    | (go_at_call 44; refine (rFirst_any S ao n c S.said S.left S.done _ 1 [nm] (by simp) (by simp) (by simpa using HL.out) w0 HST.out).mono ?_; rw [HRR.out]; rintro e w1 ⟨rfl, h1⟩; have HR1 := show Hid (RowIs w1 _ _ _) from HR0.out.below h1 HR0.out.lt; have HS1 := show Hid (RowIs w1 _ _ _) from HS0.out.below h1 HS0.out.lt; have HA1 : Hid (After w w1) := After.trans HA0.out h1; clear h1)
    | (refine wpList_load_row rfl 27 _ rfl (w.heap.size) rfl 27 _ (0, 0) _ HR1.out Try.underlying27 rfl (by kernel_rfl) ?_)
    | (go_at_call 45; refine (placeR S HO.out ao n c S.said S.left S.done nm (HF.out.after HA1.out)).mono ?_; rw [HIS.out]; rintro e w2 ⟨k, hpl, rfl, h2⟩; have HPL := show Hid (Place nm S.files k) from hpl; have HR2 := show Hid (RowIs w2 _ _ _) from HR1.out.below h2 HR1.out.lt; have HS2 := show Hid (RowIs w2 _ _ _) from HS1.out.below h2 HS1.out.lt; have HA2 : Hid (After w w2) := After.trans HA1.out h2; clear h2 hpl; obtain ⟨f', hk, hg'⟩ := HPL.out.get HRI.out HIS.out; have hff : f' = f := (by have := HG.out; rw [hg'] at this; exact Option.some.inj this); subst hff; have hkn : k < n := (by have := (List.getElem?_eq_some_iff.1 hk).1; rw [HF.out.len] at this; exact this); have hki : (k : Int) < (n : Int) := (by omega); obtain ⟨fb, fo, hao, _, hfc⟩ := HF.out.at_ (by intro h; rw [h] at hk; simp at hk); obtain ⟨e0, e1, e2⟩ := hfc k _ hk; have d0 := cell_after HA2.out e0; have d1 := cell_after HA2.out e1; have d2 := cell_after HA2.out e2; have c1 := HR2.out.cell (j := 1) rfl; subst hao; simp only at d0 d1 d2; obtain ⟨s1, hs1⟩ : ∃ s1, strOf (f'.data.take f'.safe) = s1 := ⟨_, rfl⟩; obtain ⟨s2, hs2⟩ : ∃ s2, strOf (f'.data.drop f'.safe) = s2 := ⟨_, rfl⟩; have HSS : Hid (s1 ++ s2 = strOf f'.data) := (by rw [← hs1, ← hs2]; exact strOf_cat f'.data f'.safe); have HS12 : Hid (strOf (f'.data.take f'.safe) = s1 ∧ strOf (f'.data.drop f'.safe) = s2) := ⟨hs1, hs2⟩; have HSZ : Hid (s1.size + s2.size ≤ 16777216) := (by have := HFB.out; unfold Hid; rw [← hs1, ← hs2, strOf_size, strOf_size, List.length_take, List.length_drop]; omega); rw [hs1] at d1; rw [hs2] at d2; clear hfc e0 e1 e2 hs1 hs2 hg' hk))
  have hsz : (s1 ++ s2).size = dl := by have := HDL.out; rw [HSS.out, strOf_size]; exact this
  have z1 : s1.size + s2.size ≤ 16777216 := HSZ.out
  have z2 : ¬ (9223372036854775807 < s1.size + s2.size) := by omega
  have z3 : ¬ ((9223372036854775807 : Int) < ((s1.size + s2.size : Nat) : Int)) := by omega
  have z4 : ¬ ((9223372036854775807 : Int) < (s1.size : Int) + (s2.size : Int)) := by omega
  go_wp2_with fail
  go_quiet (fail)
  obtain ⟨w3, hw3⟩ : ∃ w3, w2.drewN nq = w3 := ⟨_, rfl⟩
  have h3 : After w2 w3 := by rw [← hw3]; exact below_drewN (After.refl w2) _
  rw [hw3]
  have HR3 := show Hid (RowIs w3 _ _ _) from HR2.out.below h3 HR2.out.lt; have HS3 := show Hid (RowIs w3 _ _ _) from HS2.out.below h3 HS2.out.lt; have HA3 : Hid (After w w3) := After.trans HA2.out h3
  clear hw3 h3 d0 d1 d2 c1 z1 z2 z3 z4
  go_wp2_with (first
    | (refine wpList_load_row rfl 27 _ rfl (w.heap.size) rfl 27 _ (0, 0) _ HR3.out Try.underlying27 rfl (by kernel_rfl) ?_)
    | (refine wpList_store_row rfl 27 _ _ rfl (w.heap.size + 1) _ rfl rfl 27 _ HS3.out (by kernel_rfl) rfl (by kernel_rfl) ?_))
  have HAX := after_setRow (g := w.heap.size + 1) HA3.out (Nat.le_succ _) [.int .i64 (S.most : Int), .slice (some ⟨fb, fo, none⟩) n c, .int .i64 (S.steps : Int), .bool S.said, .int .i64 (S.left : Int), .bool S.done, .bool S.down].toArray
  exact bodyPost_ret (ret27t Try.results40 _ _ (w.heap.size + 1) [.int .i64 (S.most : Int), .slice (some ⟨fb, fo, none⟩) n c, .int .i64 (S.steps : Int), .bool S.said, .int .i64 (S.left : Int), .bool S.done, .bool S.down] rfl (RowIs.setRow HS3.out _) rfl _ rfl) rfl ⟨_, rfl, RefAt.of (HF.out.after HAX) (fun _ => ⟨rfl, rfl, rfl⟩) HO.out.left, HAX⟩
set_option maxRecDepth 100000 in
set_option maxHeartbeats 3200000 in
theorem rCut_big (S : Dk) (hS : Ok S) (ao : Option Addr) (n c : Nat) (nm : Nm) (hl : ∀ s ∈ [nm], s.length ≤ maxLen) (m : Int) (hst : S.steps < 4611686018427387904) (w : World) (hf : FA w ao n c S.files) (h0 : refuse S [nm] = 0) (his : fhas nm S.files = true) (f : Fl) (hg : fget nm S.files = some f) (hm : ¬ m < 0 ∧ (f.data.length : Int) < m) :
    Calls Try.prog 40 #[.agg (rV S ao n c S.said S.left S.done), .string (strOf nm), .int .i64 m] w (RPostR w 2 S) := by
  have HL : Hid (∀ s ∈ [nm], s.length ≤ maxLen) := hl
  have HRR : Hid (refuse S [nm] = 0) := h0
  have HSTP : Hid (S.steps < 4611686018427387904) := hst
  clear hl h0 hst
  obtain ⟨dl, hdl⟩ : ∃ dl, f.data.length = dl := ⟨_, rfl⟩
  have HDL : Hid (f.data.length = dl) := hdl
  rw [hdl] at hm
  clear hdl
  have HIS : Hid (fhas nm S.files = true) := his
  have HG : Hid (fget nm S.files = some f) := hg
  have HFB : Hid (f.data.length ≤ 16777216) := by have h1 := used_mem (fget_mem hg); have h2 := hS.used; have h3 := hS.most; simp only at h1; unfold Hid; omega
  have HRI : Hid (rising S.files) := hS.ris
  clear his hg
  have HF : Hid (FA w ao n c S.files) := hf
  have HO : Hid (Ok S) := hS
  unfold rV
  clear hf hS
  go_enter Try.func40, Try.ntmps40
  go_wp2_with fail
  obtain ⟨w0, hw0⟩ : ∃ w0, ((w.alloc (.cells #[.int .i64 (S.most : Int), .slice ao n c, .int .i64 (S.steps : Int), .bool S.said, .int .i64 (S.left : Int), .bool S.done, .bool S.down] 27)).alloc (.cells #[.int .i64 0, .slice none 0 0, .int .i64 0, .bool false, .int .i64 0, .bool false, .bool false] 27)).alloc (.cells #[.string (strOf nm)] 9) = w0 := ⟨_, rfl⟩
  rw [hw0]
  have HA0 : Hid (After w w0) := by rw [← hw0]; exact after_alloc (after_alloc (after_alloc (After.refl w) _) _) _
  have HR0 : Hid (RowIs w0 w.heap.size 27 [.int .i64 (S.most : Int), .slice ao n c, .int .i64 (S.steps : Int), .bool S.said, .int .i64 (S.left : Int), .bool S.done, .bool S.down]) := by rw [← hw0]; exact ((RowIs.new w 27 _).alloc _).alloc _
  have HS0 : Hid (RowIs w0 (w.heap.size + 1) 27 [.int .i64 0, .slice none 0 0, .int .i64 0, .bool false, .int .i64 0, .bool false, .bool false]) := by rw [← hw0]; exact (row_last _ _ (by simp) _).alloc _
  have HST : Hid (StrsAt w0 (some ⟨w.heap.size + 1 + 1, 0, none⟩) [nm]) := by
    rw [← hw0]
    have := StrsAt.one ((w.alloc (.cells #[.int .i64 (S.most : Int), .slice ao n c, .int .i64 (S.steps : Int), .bool S.said, .int .i64 (S.left : Int), .bool S.done, .bool S.down] 27)).alloc (.cells #[.int .i64 0, .slice none 0 0, .int .i64 0, .bool false, .int .i64 0, .bool false, .bool false] 27)) nm 9
    rw [show ((w.alloc (.cells #[.int .i64 (S.most : Int), .slice ao n c, .int .i64 (S.steps : Int), .bool S.said, .int .i64 (S.left : Int), .bool S.done, .bool S.down] 27)).alloc (.cells #[.int .i64 0, .slice none 0 0, .int .i64 0, .bool false, .int .i64 0, .bool false, .bool false] 27)).heap.size = w.heap.size + 1 + 1 by simp] at this
    exact this
  clear hw0
  go_wp2_with (first
    | (go_at_call 44; refine (rFirst_any S ao n c S.said S.left S.done _ 1 [nm] (by simp) (by simp) (by simpa using HL.out) w0 HST.out).mono ?_; rw [HRR.out]; rintro e w1 ⟨rfl, h1⟩; have HR1 := show Hid (RowIs w1 _ _ _) from HR0.out.below h1 HR0.out.lt; have HS1 := show Hid (RowIs w1 _ _ _) from HS0.out.below h1 HS0.out.lt; have HA1 : Hid (After w w1) := After.trans HA0.out h1; clear h1)
    | (refine wpList_load_row rfl 27 _ rfl (w.heap.size) rfl 27 _ (0, 0) _ HR1.out Try.underlying27 rfl (by kernel_rfl) ?_)
    | (go_at_call 45; refine (placeR S HO.out ao n c S.said S.left S.done nm (HF.out.after HA1.out)).mono ?_; rw [HIS.out]; rintro e w2 ⟨k, hpl, rfl, h2⟩; have HPL := show Hid (Place nm S.files k) from hpl; have HR2 := show Hid (RowIs w2 _ _ _) from HR1.out.below h2 HR1.out.lt; have HS2 := show Hid (RowIs w2 _ _ _) from HS1.out.below h2 HS1.out.lt; have HA2 : Hid (After w w2) := After.trans HA1.out h2; clear h2 hpl; obtain ⟨f', hk, hg'⟩ := HPL.out.get HRI.out HIS.out; have hff : f' = f := (by have := HG.out; rw [hg'] at this; exact Option.some.inj this); subst hff; have hkn : k < n := (by have := (List.getElem?_eq_some_iff.1 hk).1; rw [HF.out.len] at this; exact this); have hki : (k : Int) < (n : Int) := (by omega); obtain ⟨fb, fo, hao, _, hfc⟩ := HF.out.at_ (by intro h; rw [h] at hk; simp at hk); obtain ⟨e0, e1, e2⟩ := hfc k _ hk; have d0 := cell_after HA2.out e0; have d1 := cell_after HA2.out e1; have d2 := cell_after HA2.out e2; have c1 := HR2.out.cell (j := 1) rfl; subst hao; simp only at d0 d1 d2; obtain ⟨s1, hs1⟩ : ∃ s1, strOf (f'.data.take f'.safe) = s1 := ⟨_, rfl⟩; obtain ⟨s2, hs2⟩ : ∃ s2, strOf (f'.data.drop f'.safe) = s2 := ⟨_, rfl⟩; have HSS : Hid (s1 ++ s2 = strOf f'.data) := (by rw [← hs1, ← hs2]; exact strOf_cat f'.data f'.safe); have HS12 : Hid (strOf (f'.data.take f'.safe) = s1 ∧ strOf (f'.data.drop f'.safe) = s2) := ⟨hs1, hs2⟩; have HSZ : Hid (s1.size + s2.size ≤ 16777216) := (by have := HFB.out; unfold Hid; rw [← hs1, ← hs2, strOf_size, strOf_size, List.length_take, List.length_drop]; omega); rw [hs1] at d1; rw [hs2] at d2; clear hfc e0 e1 e2 hs1 hs2 hg' hk))
  have hm1 := hm.1
  have hm2 := hm.2
  have hsz : (s1 ++ s2).size = dl := by have := HDL.out; rw [HSS.out, strOf_size]; exact this
  have z1 : s1.size + s2.size ≤ 16777216 := HSZ.out
  have z2 : ¬ (9223372036854775807 < s1.size + s2.size) := by omega
  have z3 : ¬ ((9223372036854775807 : Int) < ((s1.size + s2.size : Nat) : Int)) := by omega
  have z4 : ¬ ((9223372036854775807 : Int) < (s1.size : Int) + (s2.size : Int)) := by omega
  go_wp2_with fail
  go_quiet (fail)
  obtain ⟨w3, hw3⟩ : ∃ w3, w2.drewN nq = w3 := ⟨_, rfl⟩
  have h3 : After w2 w3 := by rw [← hw3]; exact below_drewN (After.refl w2) _
  rw [hw3]
  have HR3 := show Hid (RowIs w3 _ _ _) from HR2.out.below h3 HR2.out.lt; have HS3 := show Hid (RowIs w3 _ _ _) from HS2.out.below h3 HS2.out.lt; have HA3 : Hid (After w w3) := After.trans HA2.out h3
  clear hw3 h3 d0 d1 d2 c1 z1 z2 z3 z4
  go_wp2_with (first
    | (refine wpList_load_row rfl 27 _ rfl (w.heap.size) rfl 27 _ (0, 0) _ HR3.out Try.underlying27 rfl (by kernel_rfl) ?_)
    | (refine wpList_store_row rfl 27 _ _ rfl (w.heap.size + 1) _ rfl rfl 27 _ HS3.out (by kernel_rfl) rfl (by kernel_rfl) ?_))
  have HAX := after_setRow (g := w.heap.size + 1) HA3.out (Nat.le_succ _) [.int .i64 (S.most : Int), .slice (some ⟨fb, fo, none⟩) n c, .int .i64 (S.steps : Int), .bool S.said, .int .i64 (S.left : Int), .bool S.done, .bool S.down].toArray
  exact bodyPost_ret (ret27t Try.results40 _ _ (w.heap.size + 1) [.int .i64 (S.most : Int), .slice (some ⟨fb, fo, none⟩) n c, .int .i64 (S.steps : Int), .bool S.said, .int .i64 (S.left : Int), .bool S.done, .bool S.down] rfl (RowIs.setRow HS3.out _) rfl _ rfl) rfl ⟨_, rfl, RefAt.of (HF.out.after HAX) (fun _ => ⟨rfl, rfl, rfl⟩) HO.out.left, HAX⟩
set_option maxRecDepth 100000 in
set_option maxHeartbeats 3200000 in
theorem rCut_ok (S : Dk) (hS : Ok S) (ao : Option Addr) (n c : Nat) (nm : Nm) (hl : ∀ s ∈ [nm], s.length ≤ maxLen) (m : Int) (hst : S.steps < 4611686018427387904) (w : World) (hf : FA w ao n c S.files) (h0 : refuse S [nm] = 0) (his : fhas nm S.files = true) (f : Fl) (hg : fget nm S.files = some f) (j : Nat) (hmj : m = (j : Int)) (hm : j ≤ f.data.length) :
    Calls Try.prog 40 #[.agg (rV S ao n c S.said S.left S.done), .string (strOf nm), .int .i64 m] w (RPostR w (stepE S) (stepS S S.done (fput nm ⟨f.data.take j, j⟩ S.files))) := by
  have HL : Hid (∀ s ∈ [nm], s.length ≤ maxLen) := hl
  have HRR : Hid (refuse S [nm] = 0) := h0
  have HSTP : Hid (S.steps < 4611686018427387904) := hst
  clear hl h0 hst
  obtain ⟨dl, hdl⟩ : ∃ dl, f.data.length = dl := ⟨_, rfl⟩
  have HDL : Hid (f.data.length = dl) := hdl
  rw [hdl] at hm
  clear hdl
  have HIS : Hid (fhas nm S.files = true) := his
  have HG : Hid (fget nm S.files = some f) := hg
  have HFB : Hid (f.data.length ≤ 16777216) := by have h1 := used_mem (fget_mem hg); have h2 := hS.used; have h3 := hS.most; simp only at h1; unfold Hid; omega
  have HRI : Hid (rising S.files) := hS.ris
  clear his hg
  have HF : Hid (FA w ao n c S.files) := hf
  have HO : Hid (Ok S) := hS
  unfold rV
  clear hf hS
  go_enter Try.func40, Try.ntmps40
  go_wp2_with fail
  obtain ⟨w0, hw0⟩ : ∃ w0, ((w.alloc (.cells #[.int .i64 (S.most : Int), .slice ao n c, .int .i64 (S.steps : Int), .bool S.said, .int .i64 (S.left : Int), .bool S.done, .bool S.down] 27)).alloc (.cells #[.int .i64 0, .slice none 0 0, .int .i64 0, .bool false, .int .i64 0, .bool false, .bool false] 27)).alloc (.cells #[.string (strOf nm)] 9) = w0 := ⟨_, rfl⟩
  rw [hw0]
  have HA0 : Hid (After w w0) := by rw [← hw0]; exact after_alloc (after_alloc (after_alloc (After.refl w) _) _) _
  have HR0 : Hid (RowIs w0 w.heap.size 27 [.int .i64 (S.most : Int), .slice ao n c, .int .i64 (S.steps : Int), .bool S.said, .int .i64 (S.left : Int), .bool S.done, .bool S.down]) := by rw [← hw0]; exact ((RowIs.new w 27 _).alloc _).alloc _
  have HS0 : Hid (RowIs w0 (w.heap.size + 1) 27 [.int .i64 0, .slice none 0 0, .int .i64 0, .bool false, .int .i64 0, .bool false, .bool false]) := by rw [← hw0]; exact (row_last _ _ (by simp) _).alloc _
  have HST : Hid (StrsAt w0 (some ⟨w.heap.size + 1 + 1, 0, none⟩) [nm]) := by
    rw [← hw0]
    have := StrsAt.one ((w.alloc (.cells #[.int .i64 (S.most : Int), .slice ao n c, .int .i64 (S.steps : Int), .bool S.said, .int .i64 (S.left : Int), .bool S.done, .bool S.down] 27)).alloc (.cells #[.int .i64 0, .slice none 0 0, .int .i64 0, .bool false, .int .i64 0, .bool false, .bool false] 27)) nm 9
    rw [show ((w.alloc (.cells #[.int .i64 (S.most : Int), .slice ao n c, .int .i64 (S.steps : Int), .bool S.said, .int .i64 (S.left : Int), .bool S.done, .bool S.down] 27)).alloc (.cells #[.int .i64 0, .slice none 0 0, .int .i64 0, .bool false, .int .i64 0, .bool false, .bool false] 27)).heap.size = w.heap.size + 1 + 1 by simp] at this
    exact this
  clear hw0
  go_wp2_with (first
    | (go_at_call 44; refine (rFirst_any S ao n c S.said S.left S.done _ 1 [nm] (by simp) (by simp) (by simpa using HL.out) w0 HST.out).mono ?_; rw [HRR.out]; rintro e w1 ⟨rfl, h1⟩; have HR1 := show Hid (RowIs w1 _ _ _) from HR0.out.below h1 HR0.out.lt; have HS1 := show Hid (RowIs w1 _ _ _) from HS0.out.below h1 HS0.out.lt; have HA1 : Hid (After w w1) := After.trans HA0.out h1; clear h1)
    | (refine wpList_load_row rfl 27 _ rfl (w.heap.size) rfl 27 _ (0, 0) _ HR1.out Try.underlying27 rfl (by kernel_rfl) ?_)
    | (go_at_call 45; refine (placeR S HO.out ao n c S.said S.left S.done nm (HF.out.after HA1.out)).mono ?_; rw [HIS.out]; rintro e w2 ⟨k, hpl, rfl, h2⟩; have HPL := show Hid (Place nm S.files k) from hpl; have HR2 := show Hid (RowIs w2 _ _ _) from HR1.out.below h2 HR1.out.lt; have HS2 := show Hid (RowIs w2 _ _ _) from HS1.out.below h2 HS1.out.lt; have HA2 : Hid (After w w2) := After.trans HA1.out h2; clear h2 hpl; obtain ⟨f', hk, hg'⟩ := HPL.out.get HRI.out HIS.out; have hff : f' = f := (by have := HG.out; rw [hg'] at this; exact Option.some.inj this); subst hff; have hkn : k < n := (by have := (List.getElem?_eq_some_iff.1 hk).1; rw [HF.out.len] at this; exact this); have hki : (k : Int) < (n : Int) := (by omega); obtain ⟨fb, fo, hao, _, hfc⟩ := HF.out.at_ (by intro h; rw [h] at hk; simp at hk); obtain ⟨e0, e1, e2⟩ := hfc k _ hk; have d0 := cell_after HA2.out e0; have d1 := cell_after HA2.out e1; have d2 := cell_after HA2.out e2; have c1 := HR2.out.cell (j := 1) rfl; subst hao; simp only at d0 d1 d2; obtain ⟨s1, hs1⟩ : ∃ s1, strOf (f'.data.take f'.safe) = s1 := ⟨_, rfl⟩; obtain ⟨s2, hs2⟩ : ∃ s2, strOf (f'.data.drop f'.safe) = s2 := ⟨_, rfl⟩; have HSS : Hid (s1 ++ s2 = strOf f'.data) := (by rw [← hs1, ← hs2]; exact strOf_cat f'.data f'.safe); have HS12 : Hid (strOf (f'.data.take f'.safe) = s1 ∧ strOf (f'.data.drop f'.safe) = s2) := ⟨hs1, hs2⟩; have HSZ : Hid (s1.size + s2.size ≤ 16777216) := (by have := HFB.out; unfold Hid; rw [← hs1, ← hs2, strOf_size, strOf_size, List.length_take, List.length_drop]; omega); rw [hs1] at d1; rw [hs2] at d2; clear hfc e0 e1 e2 hs1 hs2 hg' hk))
  subst hmj
  have hm1 : ¬ (j : Int) < 0 := by omega
  have hm2 : ¬ (dl : Int) < (j : Int) := by omega
  have hsz : (s1 ++ s2).size = dl := by have := HDL.out; rw [HSS.out, strOf_size]; exact this
  have z1 : s1.size + s2.size ≤ 16777216 := HSZ.out
  have z2 : ¬ (9223372036854775807 < s1.size + s2.size) := by omega
  have z3 : ¬ ((9223372036854775807 : Int) < ((s1.size + s2.size : Nat) : Int)) := by omega
  have z4 : ¬ ((9223372036854775807 : Int) < (s1.size : Int) + (s2.size : Int)) := by omega
  go_wp2_with fail
  go_quiet (fail)
  obtain ⟨w3, hw3⟩ : ∃ w3, w2.drewN nq = w3 := ⟨_, rfl⟩
  have h3 : After w2 w3 := by rw [← hw3]; exact below_drewN (After.refl w2) _
  rw [hw3]
  have HR3 := show Hid (RowIs w3 _ _ _) from HR2.out.below h3 HR2.out.lt; have HS3 := show Hid (RowIs w3 _ _ _) from HS2.out.below h3 HS2.out.lt; have HA3 : Hid (After w w3) := After.trans HA2.out h3
  clear hw3 h3 d0 d1 d2 c1 z1 z2 z3 z4
  go_wp2_with fail
  refine wp_region_noPanic ?_
  refine wp_region_held_drew (S := (fun W => RowIs W w.heap.size 27 [.int .i64 (S.most : Int), .slice (some ⟨fb, fo, none⟩) n c, .int .i64 (S.steps : Int), .bool S.said, .int .i64 (S.left : Int), .bool S.done, .bool S.down])) (by kernel_rfl) HR3.out.drew ?_
  intro hS0
  have hA0 : After w3 w3.drew := After.drew (After.refl w3)
  refine tk 0 54 (.agg #[.int .i64 (S.most : Int), .slice (some ⟨fb, fo, none⟩) n c, .int .i64 (S.steps : Int), .bool S.said, .int .i64 (S.left : Int), .bool S.done, .bool S.down]) (fuel := 8) rfl (by kernel_rfl) (by kernel_rfl) (by kernel_rfl) (by kernel_rfl) noPanic_false (by kernel_rfl) (fun W hW => x_row27 (x := .tmp 3) (g := w.heap.size) (by kernel_rfl) (by kernel_rfl) hW rfl) hS0 ?_
  refine tk 1 55 (.string (strOf nm)) (fuel := 7) rfl (by kernel_rfl) (by kernel_rfl) (by kernel_rfl) (by kernel_rfl) noPanic_false (by kernel_rfl) (fun _ _ => by kernel_rfl) hS0 ?_
  refine tk 2 56 (.string (strOf f'.data)) (fuel := 6) rfl (by kernel_rfl) (by kernel_rfl) (by kernel_rfl) (by kernel_rfl) noPanic_false (by kernel_rfl) (fun W _ => by rw [← HSS.out]; kernel_rfl) hS0 ?_
  refine tk 3 57 (.int .i64 (j : Int)) (fuel := 5) rfl (by kernel_rfl) (by kernel_rfl) (by kernel_rfl) (by kernel_rfl) noPanic_false (by kernel_rfl) (fun _ _ => by kernel_rfl) hS0 ?_
  refine tk 4 58 (.string (strOf (f'.data.take j))) (fuel := 4) rfl (by kernel_rfl) (by kernel_rfl) (by kernel_rfl) (by kernel_rfl) noPanic_false (by kernel_rfl) (fun W _ => x_sl9 (x := .tmp 56) (y := .tmp 57) (k := j) (by kernel_rfl) (by kernel_rfl) (by kernel_rfl) (by rw [HDL.out]; omega)) hS0 ?_
  refine tk 5 59 (.agg #[.string (strOf nm), .string (strOf (f'.data.take j)), .string ⟨#[]⟩]) (fuel := 3) rfl (by kernel_rfl) (by kernel_rfl) (by kernel_rfl) (by kernel_rfl) noPanic_false (by kernel_rfl) (fun _ _ => by kernel_rfl) hS0 ?_
  refine wpAnyH_all (rs := [6, 7]) (by kernel_rfl) (by simp) (fun i hi => ?_)
  have hi2 : i = 6 ∨ i = 7 := by simpa using hi
  clear hi
  rcases hi2 with rfl | rfl
  · refine opCall 6 60 59 #[.agg #[.int .i64 (S.most : Int), .slice (some ⟨fb, fo, none⟩) n c, .int .i64 (S.steps : Int), .bool S.said, .int .i64 (S.left : Int), .bool S.done, .bool S.down], .agg #[.string (strOf nm), .string (strOf (f'.data.take j)), .string ⟨#[]⟩]] (fun v w' => ∃ a2 n2 c2, v = .agg #[.int .i64 (S.most : Int), .slice a2 n2 c2, .int .i64 (S.steps : Int), .bool S.said, .int .i64 (S.left : Int), .bool S.done, .bool S.down] ∧ FA w' a2 n2 c2 (fput nm ⟨f'.data.take j, j⟩ S.files) ∧ After w3.drew w') rfl (by kernel_rfl) (by kernel_rfl) (fun _ => by kernel_rfl) ((withR' S HO.out (some ⟨fb, fo, none⟩) n c nm ⟨f'.data.take j, j⟩ (strOf (f'.data.take j)) ⟨#[]⟩ (by simp only [List.take_take, Nat.min_self]) (by simp [strOf]) ((HF.out.after HA3.out).after hA0)).mono (fun e w' ⟨a2, n2, c2, he, h2, h3⟩ => ⟨_, he, a2, n2, c2, rfl, h2, h3⟩)) ?_
    rintro v5 w5 ⟨a3, n3, c3, rfl, hf5, hA5'⟩
    have hA5 : After w3 w5 := After.trans hA0 hA5'
    have hT5 := HR3.out.below hA5 HR3.out.lt
    refine ⟨hT5, ?_⟩
    refine tkAlloc 7 12 27 #[.int .i64 0, .slice none 0 0, .int .i64 0, .bool false, .int .i64 0, .bool false, .bool false] (fuel := 1) rfl (by kernel_rfl) (by kernel_rfl) (by kernel_rfl) (fun _ => by kernel_rfl) (hT5.alloc _) ?_
    have hz5 := row_last w5 _ rfl [.int .i64 0, .slice none 0 0, .int .i64 0, .bool false, .int .i64 0, .bool false, .bool false]
    refine tkStore 8 w5.heap.size 27 (.tmp 12) (.tmp 60) #[.int .i64 (S.most : Int), .slice a3 n3 c3, .int .i64 (S.steps : Int), .bool S.said, .int .i64 (S.left : Int), .bool S.done, .bool S.down] #[.int .i64 0, .slice none 0 0, .int .i64 0, .bool false, .int .i64 0, .bool false, .bool false] 27 (fuel := 0) rfl (by kernel_rfl) (by kernel_rfl) (by kernel_rfl) (by kernel_rfl) (by kernel_rfl) (by kernel_rfl) hz5 (by kernel_rfl) rfl (by kernel_rfl) ((hT5.alloc _).setRow_other _ (by have := hT5.lt; omega)) ?_
    refine wpAnyH_done (by kernel_rfl) (NoPanic.normal ?_) _
    have hA34 : After w3 ((w5.alloc (.cells #[.int .i64 0, .slice none 0 0, .int .i64 0, .bool false, .int .i64 0, .bool false, .bool false] 27)).setRow w5.heap.size #[.int .i64 (S.most : Int), .slice a3 n3 c3, .int .i64 (S.steps : Int), .bool S.said, .int .i64 (S.left : Int), .bool S.done, .bool S.down]) := after_setRow (after_alloc hA5 _) hA5.size _
    have HF3x := (hf5.after (after_alloc (After.refl w5) (.cells #[.int .i64 0, .slice none 0 0, .int .i64 0, .bool false, .int .i64 0, .bool false, .bool false] 27))).setRow hz5 #[.int .i64 (S.most : Int), .slice a3 n3 c3, .int .i64 (S.steps : Int), .bool S.said, .int .i64 (S.left : Int), .bool S.done, .bool S.down]
    have HT4x := RowIs.setRow hz5 [.int .i64 (S.most : Int), .slice a3 n3 c3, .int .i64 (S.steps : Int), .bool S.said, .int .i64 (S.left : Int), .bool S.done, .bool S.down]
    have HG3x : w.heap.size + 1 < w5.heap.size := by have := HS3.out.lt; have := hA5.size; omega
    clear hz5 hT5 hA5 hA5' hf5
    obtain ⟨g3, hg3⟩ : ∃ g3, w5.heap.size = g3 := ⟨_, rfl⟩
    rw [hg3] at hA34 HF3x HT4x HG3x ⊢
    obtain ⟨w4, hw4⟩ : ∃ w4, (w5.alloc (.cells #[.int .i64 0, .slice none 0 0, .int .i64 0, .bool false, .int .i64 0, .bool false, .bool false] 27)).setRow g3 #[.int .i64 (S.most : Int), .slice a3 n3 c3, .int .i64 (S.steps : Int), .bool S.said, .int .i64 (S.left : Int), .bool S.done, .bool S.down] = w4 := ⟨_, rfl⟩
    have hw4' : (w5.alloc (.cells #[.int .i64 0, .slice none 0 0, .int .i64 0, .bool false, .int .i64 0, .bool false, .bool false] 27)).setRow g3 [.int .i64 (S.most : Int), .slice a3 n3 c3, .int .i64 (S.steps : Int), .bool S.said, .int .i64 (S.left : Int), .bool S.done, .bool S.down].toArray = w4 := hw4
    rw [hw4] at hA34 HF3x ⊢
    rw [hw4'] at HT4x
    clear hw4 hw4' hg3
    have HR4 := show Hid (RowIs w4 _ _ _) from HR3.out.below hA34 HR3.out.lt
    have HS4 := show Hid (RowIs w4 _ _ _) from HS3.out.below hA34 HS3.out.lt
    have HA4 : Hid (After w w4) := After.trans HA3.out hA34
    have HT4 : Hid (RowIs w4 g3 27 [.int .i64 (S.most : Int), .slice a3 n3 c3, .int .i64 (S.steps : Int), .bool S.said, .int .i64 (S.left : Int), .bool S.done, .bool S.down]) := HT4x
    have HF3 : Hid (FA w4 a3 n3 c3 (fput nm ⟨f'.data.take j, j⟩ S.files)) := HF3x
    have HG3 : Hid (w.heap.size + 1 < g3) := HG3x
    clear hA34 HF3x HT4x HG3x hA0 hS0
    go_simp
    go_wp2_with fail
    refine wp_region_noPanic ?_
    refine wp_region_held_drew (S := (fun W => RowIs W w.heap.size 27 [.int .i64 (S.most : Int), .slice (some ⟨fb, fo, none⟩) n c, .int .i64 (S.steps : Int), .bool S.said, .int .i64 (S.left : Int), .bool S.done, .bool S.down] ∧ RowIs W g3 27 [.int .i64 (S.most : Int), .slice a3 n3 c3, .int .i64 (S.steps : Int), .bool S.said, .int .i64 (S.left : Int), .bool S.done, .bool S.down])) (by kernel_rfl) ⟨HR4.out.drew, HT4.out.drew⟩ ?_
    intro hS0
    have hA0 : After w4 w4.drew := After.drew (After.refl w4)
    refine tk 0 61 (.agg #[.int .i64 (S.most : Int), .slice (some ⟨fb, fo, none⟩) n c, .int .i64 (S.steps : Int), .bool S.said, .int .i64 (S.left : Int), .bool S.done, .bool S.down]) (fuel := 9) rfl (by kernel_rfl) (by kernel_rfl) (by kernel_rfl) (by kernel_rfl) noPanic_false (by kernel_rfl) (fun W hW => x_row27 (x := .tmp 3) (g := w.heap.size) (by kernel_rfl) (by kernel_rfl) hW.1 rfl) hS0 ?_
    refine tk 1 62 (.agg #[.int .i64 (S.most : Int), .slice a3 n3 c3, .int .i64 (S.steps : Int), .bool S.said, .int .i64 (S.left : Int), .bool S.done, .bool S.down]) (fuel := 8) rfl (by kernel_rfl) (by kernel_rfl) (by kernel_rfl) (by kernel_rfl) noPanic_false (by kernel_rfl) (fun W hW => x_row27 (x := .tmp 12) (g := g3) (by kernel_rfl) (by kernel_rfl) hW.2 rfl) hS0 ?_
    refine tk 2 63 (.agg #[.int .i64 (S.most : Int), .slice (some ⟨fb, fo, none⟩) n c, .int .i64 (S.steps : Int), .bool S.said, .int .i64 (S.left : Int), .bool S.done, .bool S.down]) (fuel := 7) rfl (by kernel_rfl) (by kernel_rfl) (by kernel_rfl) (by kernel_rfl) noPanic_false (by kernel_rfl) (fun W hW => x_row27 (x := .tmp 3) (g := w.heap.size) (by kernel_rfl) (by kernel_rfl) hW.1 rfl) hS0 ?_
    refine tk 3 64 (.agg #[.int .i64 (S.most : Int), .slice a3 n3 c3, .int .i64 (S.steps : Int), .bool S.said, .int .i64 (S.left : Int), .bool S.done, .bool S.down]) (fuel := 6) rfl (by kernel_rfl) (by kernel_rfl) (by kernel_rfl) (by kernel_rfl) noPanic_false (by kernel_rfl) (fun W hW => x_row27 (x := .tmp 12) (g := g3) (by kernel_rfl) (by kernel_rfl) hW.2 rfl) hS0 ?_
    refine tkCallS 4 65 61 #[.agg #[.int .i64 (S.most : Int), .slice (some ⟨fb, fo, none⟩) n c, .int .i64 (S.steps : Int), .bool S.said, .int .i64 (S.left : Int), .bool S.done, .bool S.down], .agg #[.int .i64 (S.most : Int), .slice a3 n3 c3, .int .i64 (S.steps : Int), .bool S.said, .int .i64 (S.left : Int), .bool S.done, .bool S.down]] (fun v w' => ∃ a2 n2 c2, v = .agg #[.int .i64 (S.most : Int), .slice a2 n2 c2, .int .i64 (S.steps : Int), .bool S.said, .int .i64 (S.left : Int), .bool S.done, .bool S.down] ∧ FA w' a2 n2 c2 (if S.done then fput nm ⟨f'.data.take j, j⟩ S.files else S.files) ∧ After w4 w') (fuel := 5) rfl (by kernel_rfl) (by kernel_rfl) (by kernel_rfl) (fun _ => by kernel_rfl) ((eitherR S (some ⟨fb, fo, none⟩) a3 n c n3 c3 (fput nm ⟨f'.data.take j, j⟩ S.files) ((HF.out.after HA4.out).after hA0) (HF3.out.after hA0)).mono (fun e w' ⟨a2, n2, c2, he, h2, h3⟩ => ⟨_, he, a2, n2, c2, rfl, h2, After.trans hA0 h3⟩)) ?_
    rintro v5 w5 ⟨a5, n5, c5, rfl, hf5, hA5⟩
    refine ⟨⟨HR4.out.below hA5 HR4.out.lt, HT4.out.below hA5 HT4.out.lt⟩, ?_⟩
    refine tkCallS 5 66 60 #[.agg #[.int .i64 (S.most : Int), .slice (some ⟨fb, fo, none⟩) n c, .int .i64 (S.steps : Int), .bool S.said, .int .i64 (S.left : Int), .bool S.done, .bool S.down], .agg #[.int .i64 (S.most : Int), .slice a3 n3 c3, .int .i64 (S.steps : Int), .bool S.said, .int .i64 (S.left : Int), .bool S.done, .bool S.down], .agg #[.int .i64 (S.most : Int), .slice a5 n5 c5, .int .i64 (S.steps : Int), .bool S.said, .int .i64 (S.left : Int), .bool S.done, .bool S.down]] (fun v w' => ∃ v1, v = .tuple #[v1, .int .i64 (stepE S : Int)] ∧ RefAt w' v1 (stepS S S.done (fput nm ⟨f'.data.take j, j⟩ S.files)) ∧ After w4 w') (fuel := 4) rfl (by kernel_rfl) (by kernel_rfl) (by kernel_rfl) (fun _ => by kernel_rfl) ((stepR S HSTP.out HO.out.left (some ⟨fb, fo, none⟩) a3 a5 n c n3 c3 n5 c5 (fput nm ⟨f'.data.take j, j⟩ S.files) S.done (HF3.out.after hA5) hf5).mono (fun e w' ⟨v1, he, h2, h3⟩ => ⟨_, he, v1, rfl, h2, After.trans hA5 h3⟩)) ?_
    rintro v6 w6 ⟨v1, rfl, hr6, hA6⟩
    have hT6 := And.intro (HR4.out.below hA6 HR4.out.lt) (HT4.out.below hA6 HT4.out.lt)
    refine ⟨hT6, ?_⟩
    obtain ⟨ao7, c7, ar7, lf7, dn7, hv7, _⟩ := hr6.ex
    have hv7' : v1 = .agg (rV (stepS S S.done (fput nm ⟨f'.data.take j, j⟩ S.files)) ao7 (stepS S S.done (fput nm ⟨f'.data.take j, j⟩ S.files)).files.length c7 ar7 lf7 dn7) := hv7
    obtain ⟨R7, hR7⟩ : ∃ R7, rV (stepS S S.done (fput nm ⟨f'.data.take j, j⟩ S.files)) ao7 (stepS S S.done (fput nm ⟨f'.data.take j, j⟩ S.files)).files.length c7 ar7 lf7 dn7 = R7 := ⟨_, rfl⟩
    have h77 : R7.size = 7 := by rw [← hR7]; rfl
    have h71 : R7.all (·.oneCell') = true := by rw [← hR7]; kernel_rfl
    rw [hR7] at hv7'
    subst hv7'
    have HR6 := show Hid (RefAt w6 (.agg R7) _) from hr6
    clear hv7 hr6
    refine tk 6 67 (.agg R7) (fuel := 3) rfl (by kernel_rfl) (by kernel_rfl) (by kernel_rfl) (by kernel_rfl) noPanic_false (by kernel_rfl) (fun _ _ => by kernel_rfl) hT6 ?_
    refine tk 7 68 (.int .i64 (stepE S : Int)) (fuel := 2) rfl (by kernel_rfl) (by kernel_rfl) (by kernel_rfl) (by kernel_rfl) noPanic_false (by kernel_rfl) (fun _ _ => by kernel_rfl) hT6 ?_
    have HW6 := HS4.out.below hA6 HS4.out.lt
    have HWA : After w w6 := After.trans HA4.out hA6
    have hT7 := And.intro (hT6.1.setRow_other (g' := w.heap.size + 1) R7 (by omega)) (hT6.2.setRow_other (g' := w.heap.size + 1) R7 (by have := HG3.out; omega))
    refine tkStore 8 (w.heap.size + 1) 27 (.tmp 6) (.tmp 67) R7 #[.int .i64 0, .slice none 0 0, .int .i64 0, .bool false, .int .i64 0, .bool false, .bool false] 27 (fuel := 1) rfl (by kernel_rfl) (by kernel_rfl) (by kernel_rfl) (by kernel_rfl) (by kernel_rfl) (by kernel_rfl) HW6 (by rw [h77]; kernel_rfl) (by rw [h77]; rfl) h71 hT7 ?_
    refine tk 9 7 (.int .i64 (stepE S : Int)) (fuel := 0) rfl (by kernel_rfl) (by kernel_rfl) (by kernel_rfl) (by kernel_rfl) noPanic_false (by kernel_rfl) (fun _ _ => by kernel_rfl) hT7 ?_
    refine wpAnyH_done (by kernel_rfl) (NoPanic.normal ?_) _
    have HAX := after_setRow (g := w.heap.size + 1) HWA (Nat.le_succ _) R7
    have HRX := HR6.out.setRow HW6 R7
    have HW6x := show Hid (RowIs w6 _ _ _) from HW6
    clear hT6 hT7 hA6 HW6 hA0 hS0 hA5 hf5
    go_simp
    go_wp2
    exact bodyPost_ret (ret27t Try.results40 _ _ (w.heap.size + 1) R7.toList rfl (by have := RowIs.setRow HW6x.out R7.toList; simpa using this) (by simpa using h77) _ rfl) rfl ⟨_, rfl, HRX, HAX⟩
  · refine opVal 7 12 (.pointer (some ⟨w3.heap.size, 0, none⟩)) (w3.drew.alloc (.cells #[.int .i64 0, .slice none 0 0, .int .i64 0, .bool false, .int .i64 0, .bool false, .bool false] 27)) rfl (by kernel_rfl) (by kernel_rfl) (by kernel_rfl) ?_
    have hA1 : After w3 (w3.drew.alloc (.cells #[.int .i64 0, .slice none 0 0, .int .i64 0, .bool false, .int .i64 0, .bool false, .bool false] 27)) := after_alloc hA0 _
    have hz1 : RowIs (w3.drew.alloc (.cells #[.int .i64 0, .slice none 0 0, .int .i64 0, .bool false, .int .i64 0, .bool false, .bool false] 27)) w3.heap.size 27 [.int .i64 0, .slice none 0 0, .int .i64 0, .bool false, .int .i64 0, .bool false, .bool false] := row_last w3.drew _ rfl _
    refine ⟨HR3.out.below hA1 HR3.out.lt, ?_⟩
    refine tkCallS 6 60 59 #[.agg #[.int .i64 (S.most : Int), .slice (some ⟨fb, fo, none⟩) n c, .int .i64 (S.steps : Int), .bool S.said, .int .i64 (S.left : Int), .bool S.done, .bool S.down], .agg #[.string (strOf nm), .string (strOf (f'.data.take j)), .string ⟨#[]⟩]] (fun v w' => ∃ a2 n2 c2, v = .agg #[.int .i64 (S.most : Int), .slice a2 n2 c2, .int .i64 (S.steps : Int), .bool S.said, .int .i64 (S.left : Int), .bool S.done, .bool S.down] ∧ FA w' a2 n2 c2 (fput nm ⟨f'.data.take j, j⟩ S.files) ∧ After (w3.drew.alloc (.cells #[.int .i64 0, .slice none 0 0, .int .i64 0, .bool false, .int .i64 0, .bool false, .bool false] 27)) w') (fuel := 1) rfl (by kernel_rfl) (by kernel_rfl) (by kernel_rfl) (fun _ => by kernel_rfl) ((withR' S HO.out (some ⟨fb, fo, none⟩) n c nm ⟨f'.data.take j, j⟩ (strOf (f'.data.take j)) ⟨#[]⟩ (by simp only [List.take_take, Nat.min_self]) (by simp [strOf]) ((HF.out.after HA3.out).after hA1)).mono (fun e w' ⟨a2, n2, c2, he, h2, h3⟩ => ⟨_, he, a2, n2, c2, rfl, h2, h3⟩)) ?_
    rintro v5 w5 ⟨a3, n3, c3, rfl, hf5, hA5'⟩
    have hA5 : After w3 w5 := After.trans hA1 hA5'
    have hT5 := HR3.out.below hA5 HR3.out.lt
    refine ⟨hT5, ?_⟩
    have hz5 := hz1.below hA5' hz1.lt
    refine tkStore 8 w3.heap.size 27 (.tmp 12) (.tmp 60) #[.int .i64 (S.most : Int), .slice a3 n3 c3, .int .i64 (S.steps : Int), .bool S.said, .int .i64 (S.left : Int), .bool S.done, .bool S.down] #[.int .i64 0, .slice none 0 0, .int .i64 0, .bool false, .int .i64 0, .bool false, .bool false] 27 (fuel := 0) rfl (by kernel_rfl) (by kernel_rfl) (by kernel_rfl) (by kernel_rfl) (by kernel_rfl) (by kernel_rfl) hz5 (by kernel_rfl) rfl (by kernel_rfl) (hT5.setRow_other _ (by have := HR3.out.lt; omega)) ?_
    refine wpAnyH_done (by kernel_rfl) (NoPanic.normal ?_) _
    have hA34 : After w3 (w5.setRow w3.heap.size #[.int .i64 (S.most : Int), .slice a3 n3 c3, .int .i64 (S.steps : Int), .bool S.said, .int .i64 (S.left : Int), .bool S.done, .bool S.down]) := after_setRow hA5 (Nat.le_refl _) _
    have HF3x := hf5.setRow hz5 #[.int .i64 (S.most : Int), .slice a3 n3 c3, .int .i64 (S.steps : Int), .bool S.said, .int .i64 (S.left : Int), .bool S.done, .bool S.down]
    have HT4x := RowIs.setRow hz5 [.int .i64 (S.most : Int), .slice a3 n3 c3, .int .i64 (S.steps : Int), .bool S.said, .int .i64 (S.left : Int), .bool S.done, .bool S.down]
    have HG3x : w.heap.size + 1 < w3.heap.size := HS3.out.lt
    clear hz5 hT5 hA5 hA5' hf5 hz1 hA1
    obtain ⟨g3, hg3⟩ : ∃ g3, w3.heap.size = g3 := ⟨_, rfl⟩
    rw [hg3] at hA34 HF3x HT4x HG3x ⊢
    obtain ⟨w4, hw4⟩ : ∃ w4, w5.setRow g3 #[.int .i64 (S.most : Int), .slice a3 n3 c3, .int .i64 (S.steps : Int), .bool S.said, .int .i64 (S.left : Int), .bool S.done, .bool S.down] = w4 := ⟨_, rfl⟩
    have hw4' : w5.setRow g3 [.int .i64 (S.most : Int), .slice a3 n3 c3, .int .i64 (S.steps : Int), .bool S.said, .int .i64 (S.left : Int), .bool S.done, .bool S.down].toArray = w4 := hw4
    rw [hw4] at hA34 HF3x ⊢
    rw [hw4'] at HT4x
    clear hw4 hw4' hg3
    have HR4 := show Hid (RowIs w4 _ _ _) from HR3.out.below hA34 HR3.out.lt
    have HS4 := show Hid (RowIs w4 _ _ _) from HS3.out.below hA34 HS3.out.lt
    have HA4 : Hid (After w w4) := After.trans HA3.out hA34
    have HT4 : Hid (RowIs w4 g3 27 [.int .i64 (S.most : Int), .slice a3 n3 c3, .int .i64 (S.steps : Int), .bool S.said, .int .i64 (S.left : Int), .bool S.done, .bool S.down]) := HT4x
    have HF3 : Hid (FA w4 a3 n3 c3 (fput nm ⟨f'.data.take j, j⟩ S.files)) := HF3x
    have HG3 : Hid (w.heap.size + 1 < g3) := HG3x
    clear hA34 HF3x HT4x HG3x hA0 hS0
    go_simp
    go_wp2_with fail
    refine wp_region_noPanic ?_
    refine wp_region_held_drew (S := (fun W => RowIs W w.heap.size 27 [.int .i64 (S.most : Int), .slice (some ⟨fb, fo, none⟩) n c, .int .i64 (S.steps : Int), .bool S.said, .int .i64 (S.left : Int), .bool S.done, .bool S.down] ∧ RowIs W g3 27 [.int .i64 (S.most : Int), .slice a3 n3 c3, .int .i64 (S.steps : Int), .bool S.said, .int .i64 (S.left : Int), .bool S.done, .bool S.down])) (by kernel_rfl) ⟨HR4.out.drew, HT4.out.drew⟩ ?_
    intro hS0
    have hA0 : After w4 w4.drew := After.drew (After.refl w4)
    refine tk 0 61 (.agg #[.int .i64 (S.most : Int), .slice (some ⟨fb, fo, none⟩) n c, .int .i64 (S.steps : Int), .bool S.said, .int .i64 (S.left : Int), .bool S.done, .bool S.down]) (fuel := 9) rfl (by kernel_rfl) (by kernel_rfl) (by kernel_rfl) (by kernel_rfl) noPanic_false (by kernel_rfl) (fun W hW => x_row27 (x := .tmp 3) (g := w.heap.size) (by kernel_rfl) (by kernel_rfl) hW.1 rfl) hS0 ?_
    refine tk 1 62 (.agg #[.int .i64 (S.most : Int), .slice a3 n3 c3, .int .i64 (S.steps : Int), .bool S.said, .int .i64 (S.left : Int), .bool S.done, .bool S.down]) (fuel := 8) rfl (by kernel_rfl) (by kernel_rfl) (by kernel_rfl) (by kernel_rfl) noPanic_false (by kernel_rfl) (fun W hW => x_row27 (x := .tmp 12) (g := g3) (by kernel_rfl) (by kernel_rfl) hW.2 rfl) hS0 ?_
    refine tk 2 63 (.agg #[.int .i64 (S.most : Int), .slice (some ⟨fb, fo, none⟩) n c, .int .i64 (S.steps : Int), .bool S.said, .int .i64 (S.left : Int), .bool S.done, .bool S.down]) (fuel := 7) rfl (by kernel_rfl) (by kernel_rfl) (by kernel_rfl) (by kernel_rfl) noPanic_false (by kernel_rfl) (fun W hW => x_row27 (x := .tmp 3) (g := w.heap.size) (by kernel_rfl) (by kernel_rfl) hW.1 rfl) hS0 ?_
    refine tk 3 64 (.agg #[.int .i64 (S.most : Int), .slice a3 n3 c3, .int .i64 (S.steps : Int), .bool S.said, .int .i64 (S.left : Int), .bool S.done, .bool S.down]) (fuel := 6) rfl (by kernel_rfl) (by kernel_rfl) (by kernel_rfl) (by kernel_rfl) noPanic_false (by kernel_rfl) (fun W hW => x_row27 (x := .tmp 12) (g := g3) (by kernel_rfl) (by kernel_rfl) hW.2 rfl) hS0 ?_
    refine tkCallS 4 65 61 #[.agg #[.int .i64 (S.most : Int), .slice (some ⟨fb, fo, none⟩) n c, .int .i64 (S.steps : Int), .bool S.said, .int .i64 (S.left : Int), .bool S.done, .bool S.down], .agg #[.int .i64 (S.most : Int), .slice a3 n3 c3, .int .i64 (S.steps : Int), .bool S.said, .int .i64 (S.left : Int), .bool S.done, .bool S.down]] (fun v w' => ∃ a2 n2 c2, v = .agg #[.int .i64 (S.most : Int), .slice a2 n2 c2, .int .i64 (S.steps : Int), .bool S.said, .int .i64 (S.left : Int), .bool S.done, .bool S.down] ∧ FA w' a2 n2 c2 (if S.done then fput nm ⟨f'.data.take j, j⟩ S.files else S.files) ∧ After w4 w') (fuel := 5) rfl (by kernel_rfl) (by kernel_rfl) (by kernel_rfl) (fun _ => by kernel_rfl) ((eitherR S (some ⟨fb, fo, none⟩) a3 n c n3 c3 (fput nm ⟨f'.data.take j, j⟩ S.files) ((HF.out.after HA4.out).after hA0) (HF3.out.after hA0)).mono (fun e w' ⟨a2, n2, c2, he, h2, h3⟩ => ⟨_, he, a2, n2, c2, rfl, h2, After.trans hA0 h3⟩)) ?_
    rintro v5 w5 ⟨a5, n5, c5, rfl, hf5, hA5⟩
    refine ⟨⟨HR4.out.below hA5 HR4.out.lt, HT4.out.below hA5 HT4.out.lt⟩, ?_⟩
    refine tkCallS 5 66 60 #[.agg #[.int .i64 (S.most : Int), .slice (some ⟨fb, fo, none⟩) n c, .int .i64 (S.steps : Int), .bool S.said, .int .i64 (S.left : Int), .bool S.done, .bool S.down], .agg #[.int .i64 (S.most : Int), .slice a3 n3 c3, .int .i64 (S.steps : Int), .bool S.said, .int .i64 (S.left : Int), .bool S.done, .bool S.down], .agg #[.int .i64 (S.most : Int), .slice a5 n5 c5, .int .i64 (S.steps : Int), .bool S.said, .int .i64 (S.left : Int), .bool S.done, .bool S.down]] (fun v w' => ∃ v1, v = .tuple #[v1, .int .i64 (stepE S : Int)] ∧ RefAt w' v1 (stepS S S.done (fput nm ⟨f'.data.take j, j⟩ S.files)) ∧ After w4 w') (fuel := 4) rfl (by kernel_rfl) (by kernel_rfl) (by kernel_rfl) (fun _ => by kernel_rfl) ((stepR S HSTP.out HO.out.left (some ⟨fb, fo, none⟩) a3 a5 n c n3 c3 n5 c5 (fput nm ⟨f'.data.take j, j⟩ S.files) S.done (HF3.out.after hA5) hf5).mono (fun e w' ⟨v1, he, h2, h3⟩ => ⟨_, he, v1, rfl, h2, After.trans hA5 h3⟩)) ?_
    rintro v6 w6 ⟨v1, rfl, hr6, hA6⟩
    have hT6 := And.intro (HR4.out.below hA6 HR4.out.lt) (HT4.out.below hA6 HT4.out.lt)
    refine ⟨hT6, ?_⟩
    obtain ⟨ao7, c7, ar7, lf7, dn7, hv7, _⟩ := hr6.ex
    have hv7' : v1 = .agg (rV (stepS S S.done (fput nm ⟨f'.data.take j, j⟩ S.files)) ao7 (stepS S S.done (fput nm ⟨f'.data.take j, j⟩ S.files)).files.length c7 ar7 lf7 dn7) := hv7
    obtain ⟨R7, hR7⟩ : ∃ R7, rV (stepS S S.done (fput nm ⟨f'.data.take j, j⟩ S.files)) ao7 (stepS S S.done (fput nm ⟨f'.data.take j, j⟩ S.files)).files.length c7 ar7 lf7 dn7 = R7 := ⟨_, rfl⟩
    have h77 : R7.size = 7 := by rw [← hR7]; rfl
    have h71 : R7.all (·.oneCell') = true := by rw [← hR7]; kernel_rfl
    rw [hR7] at hv7'
    subst hv7'
    have HR6 := show Hid (RefAt w6 (.agg R7) _) from hr6
    clear hv7 hr6
    refine tk 6 67 (.agg R7) (fuel := 3) rfl (by kernel_rfl) (by kernel_rfl) (by kernel_rfl) (by kernel_rfl) noPanic_false (by kernel_rfl) (fun _ _ => by kernel_rfl) hT6 ?_
    refine tk 7 68 (.int .i64 (stepE S : Int)) (fuel := 2) rfl (by kernel_rfl) (by kernel_rfl) (by kernel_rfl) (by kernel_rfl) noPanic_false (by kernel_rfl) (fun _ _ => by kernel_rfl) hT6 ?_
    have HW6 := HS4.out.below hA6 HS4.out.lt
    have HWA : After w w6 := After.trans HA4.out hA6
    have hT7 := And.intro (hT6.1.setRow_other (g' := w.heap.size + 1) R7 (by omega)) (hT6.2.setRow_other (g' := w.heap.size + 1) R7 (by have := HG3.out; omega))
    refine tkStore 8 (w.heap.size + 1) 27 (.tmp 6) (.tmp 67) R7 #[.int .i64 0, .slice none 0 0, .int .i64 0, .bool false, .int .i64 0, .bool false, .bool false] 27 (fuel := 1) rfl (by kernel_rfl) (by kernel_rfl) (by kernel_rfl) (by kernel_rfl) (by kernel_rfl) (by kernel_rfl) HW6 (by rw [h77]; kernel_rfl) (by rw [h77]; rfl) h71 hT7 ?_
    refine tk 9 7 (.int .i64 (stepE S : Int)) (fuel := 0) rfl (by kernel_rfl) (by kernel_rfl) (by kernel_rfl) (by kernel_rfl) noPanic_false (by kernel_rfl) (fun _ _ => by kernel_rfl) hT7 ?_
    refine wpAnyH_done (by kernel_rfl) (NoPanic.normal ?_) _
    have HAX := after_setRow (g := w.heap.size + 1) HWA (Nat.le_succ _) R7
    have HRX := HR6.out.setRow HW6 R7
    have HW6x := show Hid (RowIs w6 _ _ _) from HW6
    clear hT6 hT7 hA6 HW6 hA0 hS0 hA5 hf5
    go_simp
    go_wp2
    exact bodyPost_ret (ret27t Try.results40 _ _ (w.heap.size + 1) R7.toList rfl (by have := RowIs.setRow HW6x.out R7.toList; simpa using this) (by simpa using h77) _ rfl) rfl ⟨_, rfl, HRX, HAX⟩
  
theorem cutR (S : Dk) (hS : Ok S) (hst : S.steps < 4611686018427387904) (nm : Nm) (hl : nm.length ≤ maxLen) (m : Int) (w : World) (v : Value) (h : RefAt w v S) : Calls Try.prog 40 #[v, .string (strOf nm), .int .i64 m] w (RPostR w (cutE S nm m) (cutS S nm m)) := by
  obtain ⟨ao, c, ar, lf, dn, rfl, hat, hc, hrel, hlf, hz⟩ := h.ex
  have hf : FA w ao S.files.length c S.files := ⟨hat, rfl, hc, hz⟩
  have hl' : ∀ s ∈ [nm], s.length ≤ maxLen := by simpa using hl
  unfold cutE cutS
  rcases find_cases S nm with ⟨h0, hi, he⟩ | ⟨h0, hi, he⟩ | ⟨h0, he⟩
  · obtain ⟨rfl, rfl, rfl⟩ := hrel (refuse_up h0)
    rw [if_pos he, if_pos he]
    by_cases h1 : m < 0
    · have hb : cutBad S nm m = true := by simp [cutBad, h1]
      rw [if_pos hb, if_pos hb]; exact rCut_neg S hS ao _ c nm hl' m hst w hf h0 hi _ (getF_of he) ⟨h1, rfl⟩
    · by_cases h2 : ((getF S nm).data.length : Int) < m
      · have hb : cutBad S nm m = true := by simp [cutBad, h2]
        rw [if_pos hb, if_pos hb]; exact rCut_big S hS ao _ c nm hl' m hst w hf h0 hi _ (getF_of he) ⟨h1, h2⟩
      · have hb : ¬ cutBad S nm m = true := by simp [cutBad]; omega
        rw [if_neg hb, if_neg hb]
        exact rCut_ok S hS ao _ c nm hl' m hst w hf h0 hi _ (getF_of he) m.toNat (by omega) (by omega)
  · obtain ⟨rfl, rfl, rfl⟩ := hrel (refuse_up h0)
    rw [if_neg (by omega), if_neg (by omega), he]; exact rCut_none S hS ao _ c nm hl' m hst w hf h0 hi
  · rw [if_neg (by omega), if_neg (by omega), he]
    exact rCut_refused S hS ao _ c ar lf dn hrel hlf nm hl' m w hf _ rfl h0
end Go.Proofs.Ytlbodickflljfaa
