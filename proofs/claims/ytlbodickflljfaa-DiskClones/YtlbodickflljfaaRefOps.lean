/-
  THE WALKS OF (stemmaref05.Disk).Create, Remove.
-/
import Derived.Test.YtlbodickflljfaaRefStep
namespace Go.Proofs.Ytlbodickflljfaa
open Go.RowKit Go.Maps Dsk
theorem no_string {w : World} {g j : Nat} {s : ByteArray} (h : RowIs w g 27 [.int .i64 0, .slice none 0 0, .int .i64 0, .bool false, .int .i64 0, .bool false, .bool false]) : w.cell? ⟨g, j, none⟩ ≠ some (.string s) := by
  intro hc
  rcases Nat.lt_or_ge j 7 with hj | hj
  · have e := h.cell (j := j) (List.getElem?_eq_getElem hj)
    rw [hc] at e
    have e2 := Option.some.inj e
    have : j = 0 ∨ j = 1 ∨ j = 2 ∨ j = 3 ∨ j = 4 ∨ j = 5 ∨ j = 6 := by omega
    rcases this with rfl | rfl | rfl | rfl | rfl | rfl | rfl <;> cases e2
  · rw [cell_of_row _ _ _ _ _ _ h, Array.getElem?_eq_none (by simpa using hj)] at hc
    cases hc
theorem RefAt.setRow {w : World} {v : Value} {S : Dk} {g : Nat} (h : RefAt w v S) (hz : RowIs w g 27 [.int .i64 0, .slice none 0 0, .int .i64 0, .bool false, .int .i64 0, .bool false, .bool false]) (R : Array Value) : RefAt (w.setRow g R) v S := by
  obtain ⟨ao, c, ar, lf, dn, h1, h2, h3⟩ := h.ex
  refine ⟨ao, c, ar, lf, dn, h1, fun hne => ?_, h3⟩
  obtain ⟨b, o, e, ht, hc⟩ := h2 hne
  have hb : b ≠ g := fun e2 => by
    subst e2
    obtain ⟨p, hp⟩ : ∃ p, S.files[0]? = some p := by cases hh : S.files with | nil => exact absurd hh hne | cons p _ => exact ⟨p, rfl⟩
    exact no_string hz (hc 0 p hp).1
  exact ⟨b, o, e, by obtain ⟨cur, m, ht⟩ := ht; exact ⟨cur, m, by rw [Go.setRow_other _ _ _ _ hb]; exact ht⟩, fun j p hj => ⟨by rw [cell_setRow_other _ _ _ _ hb]; exact (hc j p hj).1, by rw [cell_setRow_other _ _ _ _ hb]; exact (hc j p hj).2.1, by rw [cell_setRow_other _ _ _ _ hb]; exact (hc j p hj).2.2⟩⟩
theorem x_row27 {oi : Oper} {a : Act} {w : World} {x : Operand} {g : Nat} {cs : List Value} (hop : oi.op = .load 27 x) (hx : a.eval x = .pointer (some ⟨g, 0, none⟩)) (hg : RowIs w g 27 cs) (hl : cs.length = 7) : (execOp a.eval oi).run Try.prog w = .ok (.value (.agg cs.toArray)) w := by
  have hi : (Try.prog.info? 27).map (·.size) = some cs.toArray.size := by rw [show (Try.prog.info? 27).map (·.size) = some 7 by kernel_rfl]; simp [hl]
  unfold execOp
  simp only [hop, hx, Instr.loadAt, Instr.sureAddr, Sem.run_bind, Sem.run_pure, Result.andThen_ok, run_loadVar_row w g 27 27 cs.toArray (0, 0) _ hg Try.underlying27 rfl hi]
set_option maxRecDepth 100000 in
set_option maxHeartbeats 3200000 in
theorem rCreate_refused (S : Dk) (hS : Ok S) (ao : Option Addr) (n c : Nat) (ar : Bool) (lf : Nat) (dn : Bool) (hrel : S.down = false → ar = S.said ∧ lf = S.left ∧ dn = S.done) (hlf : lf < 9223372036854775808) (nm : Nm) (hl : ∀ s ∈ [nm], s.length ≤ maxLen)  (w : World) (hf : FA w ao n c S.files) (r : Nat) (hr : refuse S [nm] = r) (h0 : ¬ r = 0) :
    Calls Try.prog 34 #[.agg (rV S ao n c ar lf dn), .string (strOf nm)] w (RPostR w r S) := by
  have HREL : Hid ((S.down = false → ar = S.said ∧ lf = S.left ∧ dn = S.done) ∧ lf < 9223372036854775808) := ⟨hrel, hlf⟩
  have HL : Hid (∀ s ∈ [nm], s.length ≤ maxLen) := hl
  have HRR : Hid (refuse S [nm] = r) := hr
  have h0' : ((r : Int) != 0) = true := by simp; omega
  obtain ⟨is, his⟩ : ∃ is, fhas nm S.files = is := ⟨_, rfl⟩
  have HIS : Hid (fhas nm S.files = is) := his
  clear hrel hlf hl hr his
  have HF : Hid (FA w ao n c S.files) := hf
  have HO : Hid (Ok S) := hS
  unfold rV
  clear hf hS
  go_enter Try.func34, Try.ntmps34
  go_wp2_with fail
  obtain ⟨w0, hw0⟩ : ∃ w0, ((w.alloc (.cells #[.int .i64 (S.most : Int), .slice ao n c, .int .i64 (S.steps : Int), .bool ar, .int .i64 (lf : Int), .bool dn, .bool S.down] 27)).alloc (.cells #[.int .i64 0, .slice none 0 0, .int .i64 0, .bool false, .int .i64 0, .bool false, .bool false] 27)).alloc (.cells #[.string (strOf nm)] 9) = w0 := ⟨_, rfl⟩
  rw [hw0]
  have HA0 : Hid (After w w0) := by rw [← hw0]; exact after_alloc (after_alloc (after_alloc (After.refl w) _) _) _
  have HR0 : Hid (RowIs w0 w.heap.size 27 [.int .i64 (S.most : Int), .slice ao n c, .int .i64 (S.steps : Int), .bool ar, .int .i64 (lf : Int), .bool dn, .bool S.down]) := by rw [← hw0]; exact ((RowIs.new w 27 _).alloc _).alloc _
  have HS0 : Hid (RowIs w0 (w.heap.size + 1) 27 [.int .i64 0, .slice none 0 0, .int .i64 0, .bool false, .int .i64 0, .bool false, .bool false]) := by rw [← hw0]; exact (row_last _ _ (by simp) _).alloc _
  have HST : Hid (StrsAt w0 (some ⟨w.heap.size + 1 + 1, 0, none⟩) [nm]) := by
    rw [← hw0]
    have := StrsAt.one ((w.alloc (.cells #[.int .i64 (S.most : Int), .slice ao n c, .int .i64 (S.steps : Int), .bool ar, .int .i64 (lf : Int), .bool dn, .bool S.down] 27)).alloc (.cells #[.int .i64 0, .slice none 0 0, .int .i64 0, .bool false, .int .i64 0, .bool false, .bool false] 27)) nm 9
    rw [show ((w.alloc (.cells #[.int .i64 (S.most : Int), .slice ao n c, .int .i64 (S.steps : Int), .bool ar, .int .i64 (lf : Int), .bool dn, .bool S.down] 27)).alloc (.cells #[.int .i64 0, .slice none 0 0, .int .i64 0, .bool false, .int .i64 0, .bool false, .bool false] 27)).heap.size = w.heap.size + 1 + 1 by simp] at this
    exact this
  clear hw0
  go_wp2_with (first
    | (go_at_call 44; refine (rFirst_any S ao n c ar lf dn _ 1 [nm] (by simp) (by simp) (by simpa using HL.out) w0 HST.out).mono ?_; rw [HRR.out]; rintro e w1 ⟨rfl, h1⟩; have HR1 := show Hid (RowIs w1 _ _ _) from HR0.out.below h1 HR0.out.lt; have HS1 := show Hid (RowIs w1 _ _ _) from HS0.out.below h1 HS0.out.lt; have HA1 : Hid (After w w1) := After.trans HA0.out h1; clear h1)
    | (refine wpList_load_row rfl 27 _ rfl (w.heap.size) rfl 27 _ (0, 0) _ HR1.out Try.underlying27 rfl (by kernel_rfl) ?_)
    | (go_at_call 45; refine (placeR S HO.out ao n c ar lf dn nm (HF.out.after HA1.out)).mono ?_; rw [HIS.out]; rintro e w2 ⟨k, hpl, rfl, h2⟩; have HPL := show Hid (Place _ _ _) from hpl; have HR2 := show Hid (RowIs w2 _ _ _) from HR1.out.below h2 HR1.out.lt; have HS2 := show Hid (RowIs w2 _ _ _) from HS1.out.below h2 HS1.out.lt; have HA2 : Hid (After w w2) := After.trans HA1.out h2; clear h2 hpl)
    | (refine wpList_load_row rfl 27 _ rfl (w.heap.size) rfl 27 _ (0, 0) _ HR2.out Try.underlying27 rfl (by kernel_rfl) ?_)
    | (refine wpList_store_row rfl 27 _ _ rfl (w.heap.size + 1) _ rfl rfl 27 _ HS2.out (by kernel_rfl) rfl (by kernel_rfl) ?_))
  have HAX := after_setRow (g := w.heap.size + 1) HA2.out (Nat.le_succ _) [.int .i64 (S.most : Int), .slice ao n c, .int .i64 (S.steps : Int), .bool ar, .int .i64 (lf : Int), .bool dn, .bool S.down].toArray
  exact bodyPost_ret (ret27t Try.results34 _ _ (w.heap.size + 1) [.int .i64 (S.most : Int), .slice ao n c, .int .i64 (S.steps : Int), .bool ar, .int .i64 (lf : Int), .bool dn, .bool S.down] rfl (RowIs.setRow HS2.out _) rfl _ rfl) rfl ⟨_, rfl, RefAt.of (HF.out.after HAX) HREL.out.1 HREL.out.2, after_setRow HA2.out (Nat.le_succ _) _⟩
set_option maxRecDepth 100000 in
set_option maxHeartbeats 3200000 in
theorem rCreate_there (S : Dk) (hS : Ok S) (ao : Option Addr) (n c : Nat) (nm : Nm) (hl : ∀ s ∈ [nm], s.length ≤ maxLen)  (hst : S.steps < 4611686018427387904) (w : World) (hf : FA w ao n c S.files) (h0 : refuse S [nm] = 0) (his : fhas nm S.files = true) :
    Calls Try.prog 34 #[.agg (rV S ao n c S.said S.left S.done), .string (strOf nm)] w (RPostR w 23 S) := by
  have HL : Hid (∀ s ∈ [nm], s.length ≤ maxLen) := hl
  have HRR : Hid (refuse S [nm] = 0) := h0
  have HSTP : Hid (S.steps < 4611686018427387904) := hst
  clear hl h0 hst
  have HIS : Hid (fhas nm S.files = true) := his
  clear his
  have HF : Hid (FA w ao n c S.files) := hf
  have HO : Hid (Ok S) := hS
  unfold rV
  clear hf hS
  go_enter Try.func34, Try.ntmps34
  go_wp2_with fail
  obtain ⟨w0, hw0⟩ : ∃ w0, ((w.alloc (.cells #[.int .i64 (S.most : Int), .slice ao n c, .int .i64 (S.steps : Int), .bool S.said, .int .i64 (S.left : Int), .bool S.done, .bool S.down] 27)).alloc (.cells #[.int .i64 0, .slice none 0 0, .int .i64 0, .bool false, .int .i64 0, .bool false, .bool false] 27)).alloc (.cells #[.string (strOf nm)] 9) = w0 := ⟨_, rfl⟩
  rw [hw0]
  have HA0 : Hid (After w w0) := by rw [← hw0]; exact after_alloc (after_alloc (after_alloc (After.refl w) _) _) _
  have HR0 : Hid (RowIs w0 w.heap.size 27 [.int .i64 (S.most : Int), .slice ao n c, .int .i64 (S.steps : Int), .bool S.said, .int .i64 (S.left : Int), .bool S.done, .bool S.down]) := by rw [← hw0]; exact ((RowIs.new w 27 _).alloc _).alloc _
  have HS0 : Hid (RowIs w0 (w.heap.size + 1) 27 [.int .i64 0, .slice none 0 0, .int .i64 0, .bool false, .int .i64 0, .bool false, .bool false]) := by rw [← hw0]; exact (row_last _ _ (by simp) _).alloc _
  have HST : Hid (StrsAt w0 (some ⟨w.heap.size + 1 + 1, 0, none⟩) [nm]) := by
    rw [← hw0]
    have := StrsAt.one ((w.alloc (.cells #[.int .i64 (S.most : Int), .slice ao n c, .int .i64 (S.steps : Int), .bool S.said, .int .i64 (S.left : Int), .bool S.done, .bool S.down] 27)).alloc (.cells #[.int .i64 0, .slice none 0 0, .int .i64 0, .bool false, .int .i64 0, .bool false, .bool false] 27)) nm 9
    rw [show ((w.alloc (.cells #[.int .i64 (S.most : Int), .slice ao n c, .int .i64 (S.steps : Int), .bool S.said, .int .i64 (S.left : Int), .bool S.done, .bool S.down] 27)).alloc (.cells #[.int .i64 0, .slice none 0 0, .int .i64 0, .bool false, .int .i64 0, .bool false, .bool false] 27)).heap.size = w.heap.size + 1 + 1 by simp] at this
    exact this
  clear hw0
  go_wp2_with (first
    | (go_at_call 44; refine (rFirst_any S ao n c S.said S.left S.done _ 1 [nm] (by simp) (by simp) (by simpa using HL.out) w0 HST.out).mono ?_; rw [HRR.out]; rintro e w1 ⟨rfl, h1⟩; have HR1 := show Hid (RowIs w1 _ _ _) from HR0.out.below h1 HR0.out.lt; have HS1 := show Hid (RowIs w1 _ _ _) from HS0.out.below h1 HS0.out.lt; have HA1 : Hid (After w w1) := After.trans HA0.out h1; clear h1)
    | (refine wpList_load_row rfl 27 _ rfl (w.heap.size) rfl 27 _ (0, 0) _ HR1.out Try.underlying27 rfl (by kernel_rfl) ?_)
    | (go_at_call 45; refine (placeR S HO.out ao n c S.said S.left S.done nm (HF.out.after HA1.out)).mono ?_; rw [HIS.out]; rintro e w2 ⟨k, hpl, rfl, h2⟩; have HPL := show Hid (Place _ _ _) from hpl; have HR2 := show Hid (RowIs w2 _ _ _) from HR1.out.below h2 HR1.out.lt; have HS2 := show Hid (RowIs w2 _ _ _) from HS1.out.below h2 HS1.out.lt; have HA2 : Hid (After w w2) := After.trans HA1.out h2; clear h2 hpl)
    | (refine wpList_load_row rfl 27 _ rfl (w.heap.size) rfl 27 _ (0, 0) _ HR2.out Try.underlying27 rfl (by kernel_rfl) ?_)
    | (refine wpList_store_row rfl 27 _ _ rfl (w.heap.size + 1) _ rfl rfl 27 _ HS2.out (by kernel_rfl) rfl (by kernel_rfl) ?_))
  have HAX := after_setRow (g := w.heap.size + 1) HA2.out (Nat.le_succ _) [.int .i64 (S.most : Int), .slice ao n c, .int .i64 (S.steps : Int), .bool S.said, .int .i64 (S.left : Int), .bool S.done, .bool S.down].toArray
  exact bodyPost_ret (ret27t Try.results34 _ _ (w.heap.size + 1) [.int .i64 (S.most : Int), .slice ao n c, .int .i64 (S.steps : Int), .bool S.said, .int .i64 (S.left : Int), .bool S.done, .bool S.down] rfl (RowIs.setRow HS2.out _) rfl _ rfl) rfl ⟨_, rfl, RefAt.of (HF.out.after HAX) (fun _ => ⟨rfl, rfl, rfl⟩) HO.out.left, after_setRow HA2.out (Nat.le_succ _) _⟩
set_option maxRecDepth 100000 in
set_option maxHeartbeats 3200000 in
theorem rCreate_full (S : Dk) (hS : Ok S) (ao : Option Addr) (n c : Nat) (nm : Nm) (hl : ∀ s ∈ [nm], s.length ≤ maxLen)  (hst : S.steps < 4611686018427387904) (w : World) (hf : FA w ao n c S.files) (h0 : refuse S [nm] = 0) (his : fhas nm S.files = false) (h64 : 64 ≤ n) :
    Calls Try.prog 34 #[.agg (rV S ao n c S.said S.left S.done), .string (strOf nm)] w (RPostR w 21 S) := by
  have HL : Hid (∀ s ∈ [nm], s.length ≤ maxLen) := hl
  have HRR : Hid (refuse S [nm] = 0) := h0
  have HSTP : Hid (S.steps < 4611686018427387904) := hst
  clear hl h0 hst
  have HIS : Hid (fhas nm S.files = false) := his
  have h64' : (64 : Int) ≤ (n : Int) := by omega
  clear his h64
  have HF : Hid (FA w ao n c S.files) := hf
  have HO : Hid (Ok S) := hS
  unfold rV
  clear hf hS
  go_enter Try.func34, Try.ntmps34
  go_wp2_with fail
  obtain ⟨w0, hw0⟩ : ∃ w0, ((w.alloc (.cells #[.int .i64 (S.most : Int), .slice ao n c, .int .i64 (S.steps : Int), .bool S.said, .int .i64 (S.left : Int), .bool S.done, .bool S.down] 27)).alloc (.cells #[.int .i64 0, .slice none 0 0, .int .i64 0, .bool false, .int .i64 0, .bool false, .bool false] 27)).alloc (.cells #[.string (strOf nm)] 9) = w0 := ⟨_, rfl⟩
  rw [hw0]
  have HA0 : Hid (After w w0) := by rw [← hw0]; exact after_alloc (after_alloc (after_alloc (After.refl w) _) _) _
  have HR0 : Hid (RowIs w0 w.heap.size 27 [.int .i64 (S.most : Int), .slice ao n c, .int .i64 (S.steps : Int), .bool S.said, .int .i64 (S.left : Int), .bool S.done, .bool S.down]) := by rw [← hw0]; exact ((RowIs.new w 27 _).alloc _).alloc _
  have HS0 : Hid (RowIs w0 (w.heap.size + 1) 27 [.int .i64 0, .slice none 0 0, .int .i64 0, .bool false, .int .i64 0, .bool false, .bool false]) := by rw [← hw0]; exact (row_last _ _ (by simp) _).alloc _
  have HST : Hid (StrsAt w0 (some ⟨w.heap.size + 1 + 1, 0, none⟩) [nm]) := by
    rw [← hw0]
    have := StrsAt.one ((w.alloc (.cells #[.int .i64 (S.most : Int), .slice ao n c, .int .i64 (S.steps : Int), .bool S.said, .int .i64 (S.left : Int), .bool S.done, .bool S.down] 27)).alloc (.cells #[.int .i64 0, .slice none 0 0, .int .i64 0, .bool false, .int .i64 0, .bool false, .bool false] 27)) nm 9
    rw [show ((w.alloc (.cells #[.int .i64 (S.most : Int), .slice ao n c, .int .i64 (S.steps : Int), .bool S.said, .int .i64 (S.left : Int), .bool S.done, .bool S.down] 27)).alloc (.cells #[.int .i64 0, .slice none 0 0, .int .i64 0, .bool false, .int .i64 0, .bool false, .bool false] 27)).heap.size = w.heap.size + 1 + 1 by simp] at this
    exact this
  clear hw0
  go_wp2_with (first
    | (go_at_call 44; refine (rFirst_any S ao n c S.said S.left S.done _ 1 [nm] (by simp) (by simp) (by simpa using HL.out) w0 HST.out).mono ?_; rw [HRR.out]; rintro e w1 ⟨rfl, h1⟩; have HR1 := show Hid (RowIs w1 _ _ _) from HR0.out.below h1 HR0.out.lt; have HS1 := show Hid (RowIs w1 _ _ _) from HS0.out.below h1 HS0.out.lt; have HA1 : Hid (After w w1) := After.trans HA0.out h1; clear h1)
    | (refine wpList_load_row rfl 27 _ rfl (w.heap.size) rfl 27 _ (0, 0) _ HR1.out Try.underlying27 rfl (by kernel_rfl) ?_)
    | (go_at_call 45; refine (placeR S HO.out ao n c S.said S.left S.done nm (HF.out.after HA1.out)).mono ?_; rw [HIS.out]; rintro e w2 ⟨k, hpl, rfl, h2⟩; have HPL := show Hid (Place _ _ _) from hpl; have c2 := HR1.out.cell (j := 1) rfl; have c2 := cell_after h2 c2; have HR2 := show Hid (RowIs w2 _ _ _) from HR1.out.below h2 HR1.out.lt; have HS2 := show Hid (RowIs w2 _ _ _) from HS1.out.below h2 HS1.out.lt; have HA2 : Hid (After w w2) := After.trans HA1.out h2; clear h2 hpl)
    | (refine wpList_load_row rfl 27 _ rfl (w.heap.size) rfl 27 _ (0, 0) _ HR2.out Try.underlying27 rfl (by kernel_rfl) ?_)
    | (refine wpList_store_row rfl 27 _ _ rfl (w.heap.size + 1) _ rfl rfl 27 _ HS2.out (by kernel_rfl) rfl (by kernel_rfl) ?_))
  have HAX := after_setRow (g := w.heap.size + 1) HA2.out (Nat.le_succ _) [.int .i64 (S.most : Int), .slice ao n c, .int .i64 (S.steps : Int), .bool S.said, .int .i64 (S.left : Int), .bool S.done, .bool S.down].toArray
  exact bodyPost_ret (ret27t Try.results34 _ _ (w.heap.size + 1) [.int .i64 (S.most : Int), .slice ao n c, .int .i64 (S.steps : Int), .bool S.said, .int .i64 (S.left : Int), .bool S.done, .bool S.down] rfl (RowIs.setRow HS2.out _) rfl _ rfl) rfl ⟨_, rfl, RefAt.of (HF.out.after HAX) (fun _ => ⟨rfl, rfl, rfl⟩) HO.out.left, after_setRow HA2.out (Nat.le_succ _) _⟩
set_option maxRecDepth 100000 in
set_option maxHeartbeats 3200000 in
theorem rCreate_ok (S : Dk) (hS : Ok S) (ao : Option Addr) (n c : Nat) (nm : Nm) (hl : ∀ s ∈ [nm], s.length ≤ maxLen)  (hst : S.steps < 4611686018427387904) (w : World) (hf : FA w ao n c S.files) (h0 : refuse S [nm] = 0) (his : fhas nm S.files = false) (h64 : ¬ 64 ≤ n) :
    Calls Try.prog 34 #[.agg (rV S ao n c S.said S.left S.done), .string (strOf nm)] w (RPostR w (stepE S) (stepS S S.done (fput nm ⟨[], 0⟩ S.files))) := by
  have HL : Hid (∀ s ∈ [nm], s.length ≤ maxLen) := hl
  have HRR : Hid (refuse S [nm] = 0) := h0
  have HSTP : Hid (S.steps < 4611686018427387904) := hst
  clear hl h0 hst
  have HIS : Hid (fhas nm S.files = false) := his
  have h64' : ¬ (64 : Int) ≤ (n : Int) := by omega
  clear his h64
  have HF : Hid (FA w ao n c S.files) := hf
  have HO : Hid (Ok S) := hS
  unfold rV
  clear hf hS
  go_enter Try.func34, Try.ntmps34
  go_wp2_with fail
  obtain ⟨w0, hw0⟩ : ∃ w0, ((w.alloc (.cells #[.int .i64 (S.most : Int), .slice ao n c, .int .i64 (S.steps : Int), .bool S.said, .int .i64 (S.left : Int), .bool S.done, .bool S.down] 27)).alloc (.cells #[.int .i64 0, .slice none 0 0, .int .i64 0, .bool false, .int .i64 0, .bool false, .bool false] 27)).alloc (.cells #[.string (strOf nm)] 9) = w0 := ⟨_, rfl⟩
  rw [hw0]
  have HA0 : Hid (After w w0) := by rw [← hw0]; exact after_alloc (after_alloc (after_alloc (After.refl w) _) _) _
  have HR0 : Hid (RowIs w0 w.heap.size 27 [.int .i64 (S.most : Int), .slice ao n c, .int .i64 (S.steps : Int), .bool S.said, .int .i64 (S.left : Int), .bool S.done, .bool S.down]) := by rw [← hw0]; exact ((RowIs.new w 27 _).alloc _).alloc _
  have HS0 : Hid (RowIs w0 (w.heap.size + 1) 27 [.int .i64 0, .slice none 0 0, .int .i64 0, .bool false, .int .i64 0, .bool false, .bool false]) := by rw [← hw0]; exact (row_last _ _ (by simp) _).alloc _
  have HST : Hid (StrsAt w0 (some ⟨w.heap.size + 1 + 1, 0, none⟩) [nm]) := by
    rw [← hw0]
    have := StrsAt.one ((w.alloc (.cells #[.int .i64 (S.most : Int), .slice ao n c, .int .i64 (S.steps : Int), .bool S.said, .int .i64 (S.left : Int), .bool S.done, .bool S.down] 27)).alloc (.cells #[.int .i64 0, .slice none 0 0, .int .i64 0, .bool false, .int .i64 0, .bool false, .bool false] 27)) nm 9
    rw [show ((w.alloc (.cells #[.int .i64 (S.most : Int), .slice ao n c, .int .i64 (S.steps : Int), .bool S.said, .int .i64 (S.left : Int), .bool S.done, .bool S.down] 27)).alloc (.cells #[.int .i64 0, .slice none 0 0, .int .i64 0, .bool false, .int .i64 0, .bool false, .bool false] 27)).heap.size = w.heap.size + 1 + 1 by simp] at this
    exact this
  clear hw0
  go_wp2_with (first
    | (go_at_call 44; refine (rFirst_any S ao n c S.said S.left S.done _ 1 [nm] (by simp) (by simp) (by simpa using HL.out) w0 HST.out).mono ?_; rw [HRR.out]; rintro e w1 ⟨rfl, h1⟩; have HR1 := show Hid (RowIs w1 _ _ _) from HR0.out.below h1 HR0.out.lt; have HS1 := show Hid (RowIs w1 _ _ _) from HS0.out.below h1 HS0.out.lt; have HA1 : Hid (After w w1) := After.trans HA0.out h1; clear h1)
    | (refine wpList_load_row rfl 27 _ rfl (w.heap.size) rfl 27 _ (0, 0) _ HR1.out Try.underlying27 rfl (by kernel_rfl) ?_)
    | (go_at_call 45; refine (placeR S HO.out ao n c S.said S.left S.done nm (HF.out.after HA1.out)).mono ?_; rw [HIS.out]; rintro e w2 ⟨k, hpl, rfl, h2⟩; have HPL := show Hid (Place _ _ _) from hpl; have c2 := HR1.out.cell (j := 1) rfl; have c2 := cell_after h2 c2; have HR2 := show Hid (RowIs w2 _ _ _) from HR1.out.below h2 HR1.out.lt; have HS2 := show Hid (RowIs w2 _ _ _) from HS1.out.below h2 HS1.out.lt; have HA2 : Hid (After w w2) := After.trans HA1.out h2; clear h2 hpl)
    | (refine wpList_load_row rfl 27 _ rfl (w.heap.size) rfl 27 _ (0, 0) _ HR2.out Try.underlying27 rfl (by kernel_rfl) ?_)
    | (go_at_call 59; refine (withR S HO.out ao n c nm ⟨[], 0⟩ (HF.out.after HA2.out)).mono ?_; rintro e w3 ⟨a3, n3, c3, rfl, hf3, h3⟩; have HF3x := show Hid (FA w3 a3 n3 c3 _) from hf3; have HR3 := show Hid (RowIs w3 _ _ _) from HR2.out.below h3 HR2.out.lt; have HS3 := show Hid (RowIs w3 _ _ _) from HS2.out.below h3 HS2.out.lt; have HA3 : Hid (After w w3) := After.trans HA2.out h3; unfold rV; clear h3 hf3))
  obtain ⟨g3, hg3⟩ : ∃ g3, w3.heap.size = g3 := ⟨_, rfl⟩
  obtain ⟨w4, hw4⟩ : ∃ w4, w3.alloc (.cells #[.int .i64 (S.most : Int), .slice a3 n3 c3, .int .i64 (S.steps : Int), .bool S.said, .int .i64 (S.left : Int), .bool S.done, .bool S.down] 27) = w4 := ⟨_, rfl⟩
  rw [hg3, hw4]
  have hA34 : After w3 w4 := by rw [← hw4]; exact after_alloc (After.refl w3) _
  have HT4 : Hid (RowIs w4 g3 27 [.int .i64 (S.most : Int), .slice a3 n3 c3, .int .i64 (S.steps : Int), .bool S.said, .int .i64 (S.left : Int), .bool S.done, .bool S.down]) := by rw [← hw4]; exact row_last _ _ hg3 _
  have HR4 := show Hid (RowIs w4 _ _ _) from HR3.out.below hA34 HR3.out.lt
  have HS4 := show Hid (RowIs w4 _ _ _) from HS3.out.below hA34 HS3.out.lt
  have HA4 : Hid (After w w4) := After.trans HA3.out hA34
  have HF3 : Hid (FA w4 a3 n3 c3 (fput nm ⟨[], 0⟩ S.files)) := HF3x.out.after hA34
  have HG3 : Hid (w.heap.size + 1 < g3) := by have := HS3.out.lt; unfold Hid; omega
  clear hg3 hw4 hA34
  refine wp_region_noPanic ?_
  refine wp_region_held_drew (S := (fun W => RowIs W w.heap.size 27 [.int .i64 (S.most : Int), .slice ao n c, .int .i64 (S.steps : Int), .bool S.said, .int .i64 (S.left : Int), .bool S.done, .bool S.down] ∧ RowIs W g3 27 [.int .i64 (S.most : Int), .slice a3 n3 c3, .int .i64 (S.steps : Int), .bool S.said, .int .i64 (S.left : Int), .bool S.done, .bool S.down])) (by kernel_rfl) ⟨HR4.out.drew, HT4.out.drew⟩ ?_
  intro hS0
  have hA0 : After w4 w4.drew := After.drew (After.refl w4)
  refine tk 0 38 (.agg #[.int .i64 (S.most : Int), .slice ao n c, .int .i64 (S.steps : Int), .bool S.said, .int .i64 (S.left : Int), .bool S.done, .bool S.down]) (fuel := 9) rfl (by kernel_rfl) (by kernel_rfl) (by kernel_rfl) (by kernel_rfl) noPanic_false (by kernel_rfl) (fun W hW => x_row27 (x := .tmp 2) (g := w.heap.size) (by kernel_rfl) (by kernel_rfl) hW.1 rfl) hS0 ?_
  refine tk 1 39 (.agg #[.int .i64 (S.most : Int), .slice a3 n3 c3, .int .i64 (S.steps : Int), .bool S.said, .int .i64 (S.left : Int), .bool S.done, .bool S.down]) (fuel := 8) rfl (by kernel_rfl) (by kernel_rfl) (by kernel_rfl) (by kernel_rfl) noPanic_false (by kernel_rfl) (fun W hW => x_row27 (x := .tmp 9) (g := g3) (by kernel_rfl) (by kernel_rfl) hW.2 rfl) hS0 ?_
  refine tk 2 40 (.agg #[.int .i64 (S.most : Int), .slice ao n c, .int .i64 (S.steps : Int), .bool S.said, .int .i64 (S.left : Int), .bool S.done, .bool S.down]) (fuel := 7) rfl (by kernel_rfl) (by kernel_rfl) (by kernel_rfl) (by kernel_rfl) noPanic_false (by kernel_rfl) (fun W hW => x_row27 (x := .tmp 2) (g := w.heap.size) (by kernel_rfl) (by kernel_rfl) hW.1 rfl) hS0 ?_
  refine tk 3 41 (.agg #[.int .i64 (S.most : Int), .slice a3 n3 c3, .int .i64 (S.steps : Int), .bool S.said, .int .i64 (S.left : Int), .bool S.done, .bool S.down]) (fuel := 6) rfl (by kernel_rfl) (by kernel_rfl) (by kernel_rfl) (by kernel_rfl) noPanic_false (by kernel_rfl) (fun W hW => x_row27 (x := .tmp 9) (g := g3) (by kernel_rfl) (by kernel_rfl) hW.2 rfl) hS0 ?_
  refine tkCallS 4 42 61 #[.agg #[.int .i64 (S.most : Int), .slice ao n c, .int .i64 (S.steps : Int), .bool S.said, .int .i64 (S.left : Int), .bool S.done, .bool S.down], .agg #[.int .i64 (S.most : Int), .slice a3 n3 c3, .int .i64 (S.steps : Int), .bool S.said, .int .i64 (S.left : Int), .bool S.done, .bool S.down]] (fun v w' => ∃ a2 n2 c2, v = .agg #[.int .i64 (S.most : Int), .slice a2 n2 c2, .int .i64 (S.steps : Int), .bool S.said, .int .i64 (S.left : Int), .bool S.done, .bool S.down] ∧ FA w' a2 n2 c2 (if S.done then fput nm ⟨[], 0⟩ S.files else S.files) ∧ After w4 w') (fuel := 5) rfl (by kernel_rfl) (by kernel_rfl) (by kernel_rfl) (fun _ => by kernel_rfl) ((eitherR S ao a3 n c n3 c3 (fput nm ⟨[], 0⟩ S.files) ((HF.out.after HA4.out).after hA0) (HF3.out.after hA0)).mono (fun e w' ⟨a2, n2, c2, he, h2, h3⟩ => ⟨_, he, a2, n2, c2, rfl, h2, After.trans hA0 h3⟩)) ?_
  rintro v5 w5 ⟨a5, n5, c5, rfl, hf5, hA5⟩
  refine ⟨⟨HR4.out.below hA5 HR4.out.lt, HT4.out.below hA5 HT4.out.lt⟩, ?_⟩
  refine tkCallS 5 43 60 #[.agg #[.int .i64 (S.most : Int), .slice ao n c, .int .i64 (S.steps : Int), .bool S.said, .int .i64 (S.left : Int), .bool S.done, .bool S.down], .agg #[.int .i64 (S.most : Int), .slice a3 n3 c3, .int .i64 (S.steps : Int), .bool S.said, .int .i64 (S.left : Int), .bool S.done, .bool S.down], .agg #[.int .i64 (S.most : Int), .slice a5 n5 c5, .int .i64 (S.steps : Int), .bool S.said, .int .i64 (S.left : Int), .bool S.done, .bool S.down]] (fun v w' => ∃ v1, v = .tuple #[v1, .int .i64 (stepE S : Int)] ∧ RefAt w' v1 (stepS S S.done (fput nm ⟨[], 0⟩ S.files)) ∧ After w4 w') (fuel := 4) rfl (by kernel_rfl) (by kernel_rfl) (by kernel_rfl) (fun _ => by kernel_rfl) ((stepR S HSTP.out HO.out.left ao a3 a5 n c n3 c3 n5 c5 (fput nm ⟨[], 0⟩ S.files) S.done (HF3.out.after hA5) hf5).mono (fun e w' ⟨v1, he, h2, h3⟩ => ⟨_, he, v1, rfl, h2, After.trans hA5 h3⟩)) ?_
  rintro v6 w6 ⟨v1, rfl, hr6, hA6⟩
  have hT6 := And.intro (HR4.out.below hA6 HR4.out.lt) (HT4.out.below hA6 HT4.out.lt)
  refine ⟨hT6, ?_⟩
  obtain ⟨ao7, c7, ar7, lf7, dn7, hv7, _⟩ := hr6.ex
  have hv7' : v1 = .agg (rV (stepS S S.done (fput nm ⟨[], 0⟩ S.files)) ao7 (stepS S S.done (fput nm ⟨[], 0⟩ S.files)).files.length c7 ar7 lf7 dn7) := hv7
  obtain ⟨R7, hR7⟩ : ∃ R7, rV (stepS S S.done (fput nm ⟨[], 0⟩ S.files)) ao7 (stepS S S.done (fput nm ⟨[], 0⟩ S.files)).files.length c7 ar7 lf7 dn7 = R7 := ⟨_, rfl⟩
  have h77 : R7.size = 7 := by rw [← hR7]; rfl
  have h71 : R7.all (·.oneCell') = true := by rw [← hR7]; kernel_rfl
  rw [hR7] at hv7'
  subst hv7'
  have HR6 := show Hid (RefAt w6 (.agg R7) _) from hr6
  clear hv7 hr6
  refine tk 6 44 (.agg R7) (fuel := 3) rfl (by kernel_rfl) (by kernel_rfl) (by kernel_rfl) (by kernel_rfl) noPanic_false (by kernel_rfl) (fun _ _ => by kernel_rfl) hT6 ?_
  refine tk 7 45 (.int .i64 (stepE S : Int)) (fuel := 2) rfl (by kernel_rfl) (by kernel_rfl) (by kernel_rfl) (by kernel_rfl) noPanic_false (by kernel_rfl) (fun _ _ => by kernel_rfl) hT6 ?_
  have HW6 := HS4.out.below hA6 HS4.out.lt
  have HWA : After w w6 := After.trans HA4.out hA6
  have hT7 := And.intro (hT6.1.setRow_other (g' := w.heap.size + 1) R7 (by omega)) (hT6.2.setRow_other (g' := w.heap.size + 1) R7 (by have := HG3.out; omega))
  refine tkStore 8 (w.heap.size + 1) 27 (.tmp 4) (.tmp 44) R7 #[.int .i64 0, .slice none 0 0, .int .i64 0, .bool false, .int .i64 0, .bool false, .bool false] 27 (fuel := 1) rfl (by kernel_rfl) (by kernel_rfl) (by kernel_rfl) (by kernel_rfl) (by kernel_rfl) (by kernel_rfl) HW6 (by rw [h77]; kernel_rfl) (by rw [h77]; rfl) h71 hT7 ?_
  refine tk 9 5 (.int .i64 (stepE S : Int)) (fuel := 0) rfl (by kernel_rfl) (by kernel_rfl) (by kernel_rfl) (by kernel_rfl) noPanic_false (by kernel_rfl) (fun _ _ => by kernel_rfl) hT7 ?_
  refine wpAnyH_done (by kernel_rfl) (NoPanic.normal ?_) _
  have HAX := after_setRow (g := w.heap.size + 1) HWA (Nat.le_succ _) R7
  have HRX := HR6.out.setRow HW6 R7
  have HW6x := show Hid (RowIs w6 _ _ _) from HW6
  clear hT6 hT7 hA6 HW6 hA0 hS0 hA5 hf5
  go_simp
  go_wp2
  exact bodyPost_ret (ret27t Try.results34 _ _ (w.heap.size + 1) R7.toList rfl (by have := RowIs.setRow HW6x.out R7.toList; simpa using this) (by simpa using h77) _ rfl) rfl ⟨_, rfl, HRX, HAX⟩
set_option maxRecDepth 100000 in
set_option maxHeartbeats 3200000 in
theorem rRemove_refused (S : Dk) (hS : Ok S) (ao : Option Addr) (n c : Nat) (ar : Bool) (lf : Nat) (dn : Bool) (hrel : S.down = false → ar = S.said ∧ lf = S.left ∧ dn = S.done) (hlf : lf < 9223372036854775808) (nm : Nm) (hl : ∀ s ∈ [nm], s.length ≤ maxLen)  (w : World) (hf : FA w ao n c S.files) (r : Nat) (hr : refuse S [nm] = r) (h0 : ¬ r = 0) :
    Calls Try.prog 38 #[.agg (rV S ao n c ar lf dn), .string (strOf nm)] w (RPostR w r S) := by
  have HREL : Hid ((S.down = false → ar = S.said ∧ lf = S.left ∧ dn = S.done) ∧ lf < 9223372036854775808) := ⟨hrel, hlf⟩
  have HL : Hid (∀ s ∈ [nm], s.length ≤ maxLen) := hl
  have HRR : Hid (refuse S [nm] = r) := hr
  have h0' : ((r : Int) != 0) = true := by simp; omega
  obtain ⟨is, his⟩ : ∃ is, fhas nm S.files = is := ⟨_, rfl⟩
  have HIS : Hid (fhas nm S.files = is) := his
  clear hrel hlf hl hr his
  have HF : Hid (FA w ao n c S.files) := hf
  have HO : Hid (Ok S) := hS
  unfold rV
  clear hf hS
  go_enter Try.func38, Try.ntmps38
  go_wp2_with fail
  obtain ⟨w0, hw0⟩ : ∃ w0, ((w.alloc (.cells #[.int .i64 (S.most : Int), .slice ao n c, .int .i64 (S.steps : Int), .bool ar, .int .i64 (lf : Int), .bool dn, .bool S.down] 27)).alloc (.cells #[.int .i64 0, .slice none 0 0, .int .i64 0, .bool false, .int .i64 0, .bool false, .bool false] 27)).alloc (.cells #[.string (strOf nm)] 9) = w0 := ⟨_, rfl⟩
  rw [hw0]
  have HA0 : Hid (After w w0) := by rw [← hw0]; exact after_alloc (after_alloc (after_alloc (After.refl w) _) _) _
  have HR0 : Hid (RowIs w0 w.heap.size 27 [.int .i64 (S.most : Int), .slice ao n c, .int .i64 (S.steps : Int), .bool ar, .int .i64 (lf : Int), .bool dn, .bool S.down]) := by rw [← hw0]; exact ((RowIs.new w 27 _).alloc _).alloc _
  have HS0 : Hid (RowIs w0 (w.heap.size + 1) 27 [.int .i64 0, .slice none 0 0, .int .i64 0, .bool false, .int .i64 0, .bool false, .bool false]) := by rw [← hw0]; exact (row_last _ _ (by simp) _).alloc _
  have HST : Hid (StrsAt w0 (some ⟨w.heap.size + 1 + 1, 0, none⟩) [nm]) := by
    rw [← hw0]
    have := StrsAt.one ((w.alloc (.cells #[.int .i64 (S.most : Int), .slice ao n c, .int .i64 (S.steps : Int), .bool ar, .int .i64 (lf : Int), .bool dn, .bool S.down] 27)).alloc (.cells #[.int .i64 0, .slice none 0 0, .int .i64 0, .bool false, .int .i64 0, .bool false, .bool false] 27)) nm 9
    rw [show ((w.alloc (.cells #[.int .i64 (S.most : Int), .slice ao n c, .int .i64 (S.steps : Int), .bool ar, .int .i64 (lf : Int), .bool dn, .bool S.down] 27)).alloc (.cells #[.int .i64 0, .slice none 0 0, .int .i64 0, .bool false, .int .i64 0, .bool false, .bool false] 27)).heap.size = w.heap.size + 1 + 1 by simp] at this
    exact this
  clear hw0
  go_wp2_with (first
    | (go_at_call 44; refine (rFirst_any S ao n c ar lf dn _ 1 [nm] (by simp) (by simp) (by simpa using HL.out) w0 HST.out).mono ?_; rw [HRR.out]; rintro e w1 ⟨rfl, h1⟩; have HR1 := show Hid (RowIs w1 _ _ _) from HR0.out.below h1 HR0.out.lt; have HS1 := show Hid (RowIs w1 _ _ _) from HS0.out.below h1 HS0.out.lt; have HA1 : Hid (After w w1) := After.trans HA0.out h1; clear h1)
    | (refine wpList_load_row rfl 27 _ rfl (w.heap.size) rfl 27 _ (0, 0) _ HR1.out Try.underlying27 rfl (by kernel_rfl) ?_)
    | (go_at_call 45; refine (placeR S HO.out ao n c ar lf dn nm (HF.out.after HA1.out)).mono ?_; rw [HIS.out]; rintro e w2 ⟨k, hpl, rfl, h2⟩; have HPL := show Hid (Place _ _ _) from hpl; have HR2 := show Hid (RowIs w2 _ _ _) from HR1.out.below h2 HR1.out.lt; have HS2 := show Hid (RowIs w2 _ _ _) from HS1.out.below h2 HS1.out.lt; have HA2 : Hid (After w w2) := After.trans HA1.out h2; clear h2 hpl)
    | (refine wpList_load_row rfl 27 _ rfl (w.heap.size) rfl 27 _ (0, 0) _ HR2.out Try.underlying27 rfl (by kernel_rfl) ?_)
    | (refine wpList_store_row rfl 27 _ _ rfl (w.heap.size + 1) _ rfl rfl 27 _ HS2.out (by kernel_rfl) rfl (by kernel_rfl) ?_))
  have HAX := after_setRow (g := w.heap.size + 1) HA2.out (Nat.le_succ _) [.int .i64 (S.most : Int), .slice ao n c, .int .i64 (S.steps : Int), .bool ar, .int .i64 (lf : Int), .bool dn, .bool S.down].toArray
  exact bodyPost_ret (ret27t Try.results38 _ _ (w.heap.size + 1) [.int .i64 (S.most : Int), .slice ao n c, .int .i64 (S.steps : Int), .bool ar, .int .i64 (lf : Int), .bool dn, .bool S.down] rfl (RowIs.setRow HS2.out _) rfl _ rfl) rfl ⟨_, rfl, RefAt.of (HF.out.after HAX) HREL.out.1 HREL.out.2, after_setRow HA2.out (Nat.le_succ _) _⟩
set_option maxRecDepth 100000 in
set_option maxHeartbeats 3200000 in
theorem rRemove_none (S : Dk) (hS : Ok S) (ao : Option Addr) (n c : Nat) (nm : Nm) (hl : ∀ s ∈ [nm], s.length ≤ maxLen)  (hst : S.steps < 4611686018427387904) (w : World) (hf : FA w ao n c S.files) (h0 : refuse S [nm] = 0) (his : fhas nm S.files = false) :
    Calls Try.prog 38 #[.agg (rV S ao n c S.said S.left S.done), .string (strOf nm)] w (RPostR w 22 S) := by
  have HL : Hid (∀ s ∈ [nm], s.length ≤ maxLen) := hl
  have HRR : Hid (refuse S [nm] = 0) := h0
  have HSTP : Hid (S.steps < 4611686018427387904) := hst
  clear hl h0 hst
  have HIS : Hid (fhas nm S.files = false) := his
  clear his
  have HF : Hid (FA w ao n c S.files) := hf
  have HO : Hid (Ok S) := hS
  unfold rV
  clear hf hS
  go_enter Try.func38, Try.ntmps38
  go_wp2_with fail
  obtain ⟨w0, hw0⟩ : ∃ w0, ((w.alloc (.cells #[.int .i64 (S.most : Int), .slice ao n c, .int .i64 (S.steps : Int), .bool S.said, .int .i64 (S.left : Int), .bool S.done, .bool S.down] 27)).alloc (.cells #[.int .i64 0, .slice none 0 0, .int .i64 0, .bool false, .int .i64 0, .bool false, .bool false] 27)).alloc (.cells #[.string (strOf nm)] 9) = w0 := ⟨_, rfl⟩
  rw [hw0]
  have HA0 : Hid (After w w0) := by rw [← hw0]; exact after_alloc (after_alloc (after_alloc (After.refl w) _) _) _
  have HR0 : Hid (RowIs w0 w.heap.size 27 [.int .i64 (S.most : Int), .slice ao n c, .int .i64 (S.steps : Int), .bool S.said, .int .i64 (S.left : Int), .bool S.done, .bool S.down]) := by rw [← hw0]; exact ((RowIs.new w 27 _).alloc _).alloc _
  have HS0 : Hid (RowIs w0 (w.heap.size + 1) 27 [.int .i64 0, .slice none 0 0, .int .i64 0, .bool false, .int .i64 0, .bool false, .bool false]) := by rw [← hw0]; exact (row_last _ _ (by simp) _).alloc _
  have HST : Hid (StrsAt w0 (some ⟨w.heap.size + 1 + 1, 0, none⟩) [nm]) := by
    rw [← hw0]
    have := StrsAt.one ((w.alloc (.cells #[.int .i64 (S.most : Int), .slice ao n c, .int .i64 (S.steps : Int), .bool S.said, .int .i64 (S.left : Int), .bool S.done, .bool S.down] 27)).alloc (.cells #[.int .i64 0, .slice none 0 0, .int .i64 0, .bool false, .int .i64 0, .bool false, .bool false] 27)) nm 9
    rw [show ((w.alloc (.cells #[.int .i64 (S.most : Int), .slice ao n c, .int .i64 (S.steps : Int), .bool S.said, .int .i64 (S.left : Int), .bool S.done, .bool S.down] 27)).alloc (.cells #[.int .i64 0, .slice none 0 0, .int .i64 0, .bool false, .int .i64 0, .bool false, .bool false] 27)).heap.size = w.heap.size + 1 + 1 by simp] at this
    exact this
  clear hw0
  go_wp2_with (first
    | (go_at_call 44; refine (rFirst_any S ao n c S.said S.left S.done _ 1 [nm] (by simp) (by simp) (by simpa using HL.out) w0 HST.out).mono ?_; rw [HRR.out]; rintro e w1 ⟨rfl, h1⟩; have HR1 := show Hid (RowIs w1 _ _ _) from HR0.out.below h1 HR0.out.lt; have HS1 := show Hid (RowIs w1 _ _ _) from HS0.out.below h1 HS0.out.lt; have HA1 : Hid (After w w1) := After.trans HA0.out h1; clear h1)
    | (refine wpList_load_row rfl 27 _ rfl (w.heap.size) rfl 27 _ (0, 0) _ HR1.out Try.underlying27 rfl (by kernel_rfl) ?_)
    | (go_at_call 45; refine (placeR S HO.out ao n c S.said S.left S.done nm (HF.out.after HA1.out)).mono ?_; rw [HIS.out]; rintro e w2 ⟨k, hpl, rfl, h2⟩; have HPL := show Hid (Place _ _ _) from hpl; have HR2 := show Hid (RowIs w2 _ _ _) from HR1.out.below h2 HR1.out.lt; have HS2 := show Hid (RowIs w2 _ _ _) from HS1.out.below h2 HS1.out.lt; have HA2 : Hid (After w w2) := After.trans HA1.out h2; clear h2 hpl)
    | (refine wpList_load_row rfl 27 _ rfl (w.heap.size) rfl 27 _ (0, 0) _ HR2.out Try.underlying27 rfl (by kernel_rfl) ?_)
    | (refine wpList_store_row rfl 27 _ _ rfl (w.heap.size + 1) _ rfl rfl 27 _ HS2.out (by kernel_rfl) rfl (by kernel_rfl) ?_))
  have HAX := after_setRow (g := w.heap.size + 1) HA2.out (Nat.le_succ _) [.int .i64 (S.most : Int), .slice ao n c, .int .i64 (S.steps : Int), .bool S.said, .int .i64 (S.left : Int), .bool S.done, .bool S.down].toArray
  exact bodyPost_ret (ret27t Try.results38 _ _ (w.heap.size + 1) [.int .i64 (S.most : Int), .slice ao n c, .int .i64 (S.steps : Int), .bool S.said, .int .i64 (S.left : Int), .bool S.done, .bool S.down] rfl (RowIs.setRow HS2.out _) rfl _ rfl) rfl ⟨_, rfl, RefAt.of (HF.out.after HAX) (fun _ => ⟨rfl, rfl, rfl⟩) HO.out.left, after_setRow HA2.out (Nat.le_succ _) _⟩
set_option maxRecDepth 100000 in
set_option maxHeartbeats 3200000 in
theorem rRemove_ok (S : Dk) (hS : Ok S) (ao : Option Addr) (n c : Nat) (nm : Nm) (hl : ∀ s ∈ [nm], s.length ≤ maxLen)  (hst : S.steps < 4611686018427387904) (w : World) (hf : FA w ao n c S.files) (h0 : refuse S [nm] = 0) (his : fhas nm S.files = true) :
    Calls Try.prog 38 #[.agg (rV S ao n c S.said S.left S.done), .string (strOf nm)] w (RPostR w (stepE S) (stepS S S.done (fdel nm S.files))) := by
  have HL : Hid (∀ s ∈ [nm], s.length ≤ maxLen) := hl
  have HRR : Hid (refuse S [nm] = 0) := h0
  have HSTP : Hid (S.steps < 4611686018427387904) := hst
  clear hl h0 hst
  have HIS : Hid (fhas nm S.files = true) := his
  clear his
  have HF : Hid (FA w ao n c S.files) := hf
  have HO : Hid (Ok S) := hS
  unfold rV
  clear hf hS
  go_enter Try.func38, Try.ntmps38
  go_wp2_with fail
  obtain ⟨w0, hw0⟩ : ∃ w0, ((w.alloc (.cells #[.int .i64 (S.most : Int), .slice ao n c, .int .i64 (S.steps : Int), .bool S.said, .int .i64 (S.left : Int), .bool S.done, .bool S.down] 27)).alloc (.cells #[.int .i64 0, .slice none 0 0, .int .i64 0, .bool false, .int .i64 0, .bool false, .bool false] 27)).alloc (.cells #[.string (strOf nm)] 9) = w0 := ⟨_, rfl⟩
  rw [hw0]
  have HA0 : Hid (After w w0) := by rw [← hw0]; exact after_alloc (after_alloc (after_alloc (After.refl w) _) _) _
  have HR0 : Hid (RowIs w0 w.heap.size 27 [.int .i64 (S.most : Int), .slice ao n c, .int .i64 (S.steps : Int), .bool S.said, .int .i64 (S.left : Int), .bool S.done, .bool S.down]) := by rw [← hw0]; exact ((RowIs.new w 27 _).alloc _).alloc _
  have HS0 : Hid (RowIs w0 (w.heap.size + 1) 27 [.int .i64 0, .slice none 0 0, .int .i64 0, .bool false, .int .i64 0, .bool false, .bool false]) := by rw [← hw0]; exact (row_last _ _ (by simp) _).alloc _
  have HST : Hid (StrsAt w0 (some ⟨w.heap.size + 1 + 1, 0, none⟩) [nm]) := by
    rw [← hw0]
    have := StrsAt.one ((w.alloc (.cells #[.int .i64 (S.most : Int), .slice ao n c, .int .i64 (S.steps : Int), .bool S.said, .int .i64 (S.left : Int), .bool S.done, .bool S.down] 27)).alloc (.cells #[.int .i64 0, .slice none 0 0, .int .i64 0, .bool false, .int .i64 0, .bool false, .bool false] 27)) nm 9
    rw [show ((w.alloc (.cells #[.int .i64 (S.most : Int), .slice ao n c, .int .i64 (S.steps : Int), .bool S.said, .int .i64 (S.left : Int), .bool S.done, .bool S.down] 27)).alloc (.cells #[.int .i64 0, .slice none 0 0, .int .i64 0, .bool false, .int .i64 0, .bool false, .bool false] 27)).heap.size = w.heap.size + 1 + 1 by simp] at this
    exact this
  clear hw0
  go_wp2_with (first
    | (go_at_call 44; refine (rFirst_any S ao n c S.said S.left S.done _ 1 [nm] (by simp) (by simp) (by simpa using HL.out) w0 HST.out).mono ?_; rw [HRR.out]; rintro e w1 ⟨rfl, h1⟩; have HR1 := show Hid (RowIs w1 _ _ _) from HR0.out.below h1 HR0.out.lt; have HS1 := show Hid (RowIs w1 _ _ _) from HS0.out.below h1 HS0.out.lt; have HA1 : Hid (After w w1) := After.trans HA0.out h1; clear h1)
    | (refine wpList_load_row rfl 27 _ rfl (w.heap.size) rfl 27 _ (0, 0) _ HR1.out Try.underlying27 rfl (by kernel_rfl) ?_)
    | (go_at_call 45; refine (placeR S HO.out ao n c S.said S.left S.done nm (HF.out.after HA1.out)).mono ?_; rw [HIS.out]; rintro e w2 ⟨k, hpl, rfl, h2⟩; have HPL := show Hid (Place _ _ _) from hpl; have HR2 := show Hid (RowIs w2 _ _ _) from HR1.out.below h2 HR1.out.lt; have HS2 := show Hid (RowIs w2 _ _ _) from HS1.out.below h2 HS1.out.lt; have HA2 : Hid (After w w2) := After.trans HA1.out h2; clear h2 hpl)
    | (refine wpList_load_row rfl 27 _ rfl (w.heap.size) rfl 27 _ (0, 0) _ HR2.out Try.underlying27 rfl (by kernel_rfl) ?_)
    | (go_at_call 62; refine (withoutR S HO.out ao n c nm (HF.out.after HA2.out)).mono ?_; rintro e w3 ⟨a3, n3, c3, rfl, hf3, h3⟩; have HF3x := show Hid (FA w3 a3 n3 c3 _) from hf3; have HR3 := show Hid (RowIs w3 _ _ _) from HR2.out.below h3 HR2.out.lt; have HS3 := show Hid (RowIs w3 _ _ _) from HS2.out.below h3 HS2.out.lt; have HA3 : Hid (After w w3) := After.trans HA2.out h3; unfold rV; clear h3 hf3))
  obtain ⟨g3, hg3⟩ : ∃ g3, w3.heap.size = g3 := ⟨_, rfl⟩
  obtain ⟨w4, hw4⟩ : ∃ w4, w3.alloc (.cells #[.int .i64 (S.most : Int), .slice a3 n3 c3, .int .i64 (S.steps : Int), .bool S.said, .int .i64 (S.left : Int), .bool S.done, .bool S.down] 27) = w4 := ⟨_, rfl⟩
  rw [hg3, hw4]
  have hA34 : After w3 w4 := by rw [← hw4]; exact after_alloc (After.refl w3) _
  have HT4 : Hid (RowIs w4 g3 27 [.int .i64 (S.most : Int), .slice a3 n3 c3, .int .i64 (S.steps : Int), .bool S.said, .int .i64 (S.left : Int), .bool S.done, .bool S.down]) := by rw [← hw4]; exact row_last _ _ hg3 _
  have HR4 := show Hid (RowIs w4 _ _ _) from HR3.out.below hA34 HR3.out.lt
  have HS4 := show Hid (RowIs w4 _ _ _) from HS3.out.below hA34 HS3.out.lt
  have HA4 : Hid (After w w4) := After.trans HA3.out hA34
  have HF3 : Hid (FA w4 a3 n3 c3 (fdel nm S.files)) := HF3x.out.after hA34
  have HG3 : Hid (w.heap.size + 1 < g3) := by have := HS3.out.lt; unfold Hid; omega
  clear hg3 hw4 hA34
  refine wp_region_noPanic ?_
  refine wp_region_held_drew (S := (fun W => RowIs W w.heap.size 27 [.int .i64 (S.most : Int), .slice ao n c, .int .i64 (S.steps : Int), .bool S.said, .int .i64 (S.left : Int), .bool S.done, .bool S.down] ∧ RowIs W g3 27 [.int .i64 (S.most : Int), .slice a3 n3 c3, .int .i64 (S.steps : Int), .bool S.said, .int .i64 (S.left : Int), .bool S.done, .bool S.down])) (by kernel_rfl) ⟨HR4.out.drew, HT4.out.drew⟩ ?_
  intro hS0
  have hA0 : After w4 w4.drew := After.drew (After.refl w4)
  refine tk 0 32 (.agg #[.int .i64 (S.most : Int), .slice ao n c, .int .i64 (S.steps : Int), .bool S.said, .int .i64 (S.left : Int), .bool S.done, .bool S.down]) (fuel := 9) rfl (by kernel_rfl) (by kernel_rfl) (by kernel_rfl) (by kernel_rfl) noPanic_false (by kernel_rfl) (fun W hW => x_row27 (x := .tmp 2) (g := w.heap.size) (by kernel_rfl) (by kernel_rfl) hW.1 rfl) hS0 ?_
  refine tk 1 33 (.agg #[.int .i64 (S.most : Int), .slice a3 n3 c3, .int .i64 (S.steps : Int), .bool S.said, .int .i64 (S.left : Int), .bool S.done, .bool S.down]) (fuel := 8) rfl (by kernel_rfl) (by kernel_rfl) (by kernel_rfl) (by kernel_rfl) noPanic_false (by kernel_rfl) (fun W hW => x_row27 (x := .tmp 9) (g := g3) (by kernel_rfl) (by kernel_rfl) hW.2 rfl) hS0 ?_
  refine tk 2 34 (.agg #[.int .i64 (S.most : Int), .slice ao n c, .int .i64 (S.steps : Int), .bool S.said, .int .i64 (S.left : Int), .bool S.done, .bool S.down]) (fuel := 7) rfl (by kernel_rfl) (by kernel_rfl) (by kernel_rfl) (by kernel_rfl) noPanic_false (by kernel_rfl) (fun W hW => x_row27 (x := .tmp 2) (g := w.heap.size) (by kernel_rfl) (by kernel_rfl) hW.1 rfl) hS0 ?_
  refine tk 3 35 (.agg #[.int .i64 (S.most : Int), .slice a3 n3 c3, .int .i64 (S.steps : Int), .bool S.said, .int .i64 (S.left : Int), .bool S.done, .bool S.down]) (fuel := 6) rfl (by kernel_rfl) (by kernel_rfl) (by kernel_rfl) (by kernel_rfl) noPanic_false (by kernel_rfl) (fun W hW => x_row27 (x := .tmp 9) (g := g3) (by kernel_rfl) (by kernel_rfl) hW.2 rfl) hS0 ?_
  refine tkCallS 4 36 61 #[.agg #[.int .i64 (S.most : Int), .slice ao n c, .int .i64 (S.steps : Int), .bool S.said, .int .i64 (S.left : Int), .bool S.done, .bool S.down], .agg #[.int .i64 (S.most : Int), .slice a3 n3 c3, .int .i64 (S.steps : Int), .bool S.said, .int .i64 (S.left : Int), .bool S.done, .bool S.down]] (fun v w' => ∃ a2 n2 c2, v = .agg #[.int .i64 (S.most : Int), .slice a2 n2 c2, .int .i64 (S.steps : Int), .bool S.said, .int .i64 (S.left : Int), .bool S.done, .bool S.down] ∧ FA w' a2 n2 c2 (if S.done then fdel nm S.files else S.files) ∧ After w4 w') (fuel := 5) rfl (by kernel_rfl) (by kernel_rfl) (by kernel_rfl) (fun _ => by kernel_rfl) ((eitherR S ao a3 n c n3 c3 (fdel nm S.files) ((HF.out.after HA4.out).after hA0) (HF3.out.after hA0)).mono (fun e w' ⟨a2, n2, c2, he, h2, h3⟩ => ⟨_, he, a2, n2, c2, rfl, h2, After.trans hA0 h3⟩)) ?_
  rintro v5 w5 ⟨a5, n5, c5, rfl, hf5, hA5⟩
  refine ⟨⟨HR4.out.below hA5 HR4.out.lt, HT4.out.below hA5 HT4.out.lt⟩, ?_⟩
  refine tkCallS 5 37 60 #[.agg #[.int .i64 (S.most : Int), .slice ao n c, .int .i64 (S.steps : Int), .bool S.said, .int .i64 (S.left : Int), .bool S.done, .bool S.down], .agg #[.int .i64 (S.most : Int), .slice a3 n3 c3, .int .i64 (S.steps : Int), .bool S.said, .int .i64 (S.left : Int), .bool S.done, .bool S.down], .agg #[.int .i64 (S.most : Int), .slice a5 n5 c5, .int .i64 (S.steps : Int), .bool S.said, .int .i64 (S.left : Int), .bool S.done, .bool S.down]] (fun v w' => ∃ v1, v = .tuple #[v1, .int .i64 (stepE S : Int)] ∧ RefAt w' v1 (stepS S S.done (fdel nm S.files)) ∧ After w4 w') (fuel := 4) rfl (by kernel_rfl) (by kernel_rfl) (by kernel_rfl) (fun _ => by kernel_rfl) ((stepR S HSTP.out HO.out.left ao a3 a5 n c n3 c3 n5 c5 (fdel nm S.files) S.done (HF3.out.after hA5) hf5).mono (fun e w' ⟨v1, he, h2, h3⟩ => ⟨_, he, v1, rfl, h2, After.trans hA5 h3⟩)) ?_
  rintro v6 w6 ⟨v1, rfl, hr6, hA6⟩
  have hT6 := And.intro (HR4.out.below hA6 HR4.out.lt) (HT4.out.below hA6 HT4.out.lt)
  refine ⟨hT6, ?_⟩
  obtain ⟨ao7, c7, ar7, lf7, dn7, hv7, _⟩ := hr6.ex
  have hv7' : v1 = .agg (rV (stepS S S.done (fdel nm S.files)) ao7 (stepS S S.done (fdel nm S.files)).files.length c7 ar7 lf7 dn7) := hv7
  obtain ⟨R7, hR7⟩ : ∃ R7, rV (stepS S S.done (fdel nm S.files)) ao7 (stepS S S.done (fdel nm S.files)).files.length c7 ar7 lf7 dn7 = R7 := ⟨_, rfl⟩
  have h77 : R7.size = 7 := by rw [← hR7]; rfl
  have h71 : R7.all (·.oneCell') = true := by rw [← hR7]; kernel_rfl
  rw [hR7] at hv7'
  subst hv7'
  have HR6 := show Hid (RefAt w6 (.agg R7) _) from hr6
  clear hv7 hr6
  refine tk 6 38 (.agg R7) (fuel := 3) rfl (by kernel_rfl) (by kernel_rfl) (by kernel_rfl) (by kernel_rfl) noPanic_false (by kernel_rfl) (fun _ _ => by kernel_rfl) hT6 ?_
  refine tk 7 39 (.int .i64 (stepE S : Int)) (fuel := 2) rfl (by kernel_rfl) (by kernel_rfl) (by kernel_rfl) (by kernel_rfl) noPanic_false (by kernel_rfl) (fun _ _ => by kernel_rfl) hT6 ?_
  have HW6 := HS4.out.below hA6 HS4.out.lt
  have HWA : After w w6 := After.trans HA4.out hA6
  have hT7 := And.intro (hT6.1.setRow_other (g' := w.heap.size + 1) R7 (by omega)) (hT6.2.setRow_other (g' := w.heap.size + 1) R7 (by have := HG3.out; omega))
  refine tkStore 8 (w.heap.size + 1) 27 (.tmp 4) (.tmp 38) R7 #[.int .i64 0, .slice none 0 0, .int .i64 0, .bool false, .int .i64 0, .bool false, .bool false] 27 (fuel := 1) rfl (by kernel_rfl) (by kernel_rfl) (by kernel_rfl) (by kernel_rfl) (by kernel_rfl) (by kernel_rfl) HW6 (by rw [h77]; kernel_rfl) (by rw [h77]; rfl) h71 hT7 ?_
  refine tk 9 5 (.int .i64 (stepE S : Int)) (fuel := 0) rfl (by kernel_rfl) (by kernel_rfl) (by kernel_rfl) (by kernel_rfl) noPanic_false (by kernel_rfl) (fun _ _ => by kernel_rfl) hT7 ?_
  refine wpAnyH_done (by kernel_rfl) (NoPanic.normal ?_) _
  have HAX := after_setRow (g := w.heap.size + 1) HWA (Nat.le_succ _) R7
  have HRX := HR6.out.setRow HW6 R7
  have HW6x := show Hid (RowIs w6 _ _ _) from HW6
  clear hT6 hT7 hA6 HW6 hA0 hS0 hA5 hf5
  go_simp
  go_wp2
  exact bodyPost_ret (ret27t Try.results38 _ _ (w.heap.size + 1) R7.toList rfl (by have := RowIs.setRow HW6x.out R7.toList; simpa using this) (by simpa using h77) _ rfl) rfl ⟨_, rfl, HRX, HAX⟩
theorem refuse_up {S : Dk} {ns : List Nm} (h : refuse S ns = 0) : S.down = false := by
  unfold refuse at h
  split at h
  · cases hd : S.down with
    | false => rfl
    | true => rw [hd] at h; simp at h
  · cases h
theorem createR (S : Dk) (hS : Ok S) (hst : S.steps < 4611686018427387904) (nm : Nm) (hl : nm.length ≤ maxLen) (w : World) (v : Value) (h : RefAt w v S) : Calls Try.prog 34 #[v, .string (strOf nm)] w (RPostR w (createE S nm) (createS S nm)) := by
  obtain ⟨ao, c, ar, lf, dn, rfl, hat, hc, hrel, hlf, hz⟩ := h.ex
  have hf : FA w ao S.files.length c S.files := ⟨hat, rfl, hc, hz⟩
  have hl' : ∀ s ∈ [nm], s.length ≤ maxLen := by simpa using hl
  unfold createE createS
  by_cases h0 : refuse S [nm] = 0
  · obtain ⟨rfl, rfl, rfl⟩ := hrel (refuse_up h0)
    rw [if_pos h0, if_pos h0]
    cases hi : fhas nm S.files with
    | true => exact rCreate_there S hS ao _ c nm hl' hst w hf h0 hi
    | false =>
      simp only [Bool.false_eq_true, if_false]
      by_cases h6 : 64 ≤ S.files.length
      · rw [if_pos h6, if_pos h6]; exact rCreate_full S hS ao _ c nm hl' hst w hf h0 hi h6
      · rw [if_neg h6, if_neg h6]; exact rCreate_ok S hS ao _ c nm hl' hst w hf h0 hi h6
  · rw [if_neg h0, if_neg h0]
    exact rCreate_refused S hS ao _ c ar lf dn hrel hlf nm hl' w hf _ rfl h0
theorem find_cases (S : Dk) (nm : Nm) : (refuse S [nm] = 0 ∧ fhas nm S.files = true ∧ findE S nm = 0) ∨ (refuse S [nm] = 0 ∧ fhas nm S.files = false ∧ findE S nm = 22) ∨ (¬ refuse S [nm] = 0 ∧ findE S nm = refuse S [nm]) := by
  unfold findE
  by_cases h0 : refuse S [nm] = 0
  · rw [if_pos h0]
    cases hi : fhas nm S.files with
    | true => exact Or.inl ⟨h0, rfl, rfl⟩
    | false => exact Or.inr (Or.inl ⟨h0, rfl, rfl⟩)
  · rw [if_neg h0]; exact Or.inr (Or.inr ⟨h0, rfl⟩)
theorem removeR (S : Dk) (hS : Ok S) (hst : S.steps < 4611686018427387904) (nm : Nm) (hl : nm.length ≤ maxLen) (w : World) (v : Value) (h : RefAt w v S) : Calls Try.prog 38 #[v, .string (strOf nm)] w (RPostR w (removeE S nm) (removeS S nm)) := by
  obtain ⟨ao, c, ar, lf, dn, rfl, hat, hc, hrel, hlf, hz⟩ := h.ex
  have hf : FA w ao S.files.length c S.files := ⟨hat, rfl, hc, hz⟩
  have hl' : ∀ s ∈ [nm], s.length ≤ maxLen := by simpa using hl
  unfold removeE removeS
  rcases find_cases S nm with ⟨h0, hi, he⟩ | ⟨h0, hi, he⟩ | ⟨h0, he⟩
  · obtain ⟨rfl, rfl, rfl⟩ := hrel (refuse_up h0)
    rw [if_pos he, if_pos he]; exact rRemove_ok S hS ao _ c nm hl' hst w hf h0 hi
  · obtain ⟨rfl, rfl, rfl⟩ := hrel (refuse_up h0)
    rw [if_neg (by omega), if_neg (by omega), he]; exact rRemove_none S hS ao _ c nm hl' hst w hf h0 hi
  · rw [if_neg (by omega), if_neg (by omega), he]
    exact rRemove_refused S hS ao _ c ar lf dn hrel hlf nm hl' w hf _ rfl h0
end Go.Proofs.Ytlbodickflljfaa
