/-
  THE WALKS OF (stemmaref05.Disk).Used, Read; Fail in the disk's own words.
-/
import Derived.Test.YtlbodickflljfaaRefOps
import Derived.Deep.QuietTactic
import Derived.BigQuiet
namespace Go.Proofs.Ytlbodickflljfaa
open Go.RowKit Go.Maps Dsk
theorem sum2 (q a b : Nat) (h : q + (a + b) ≤ 16777216) : wrap64 ((q : Int) + wrap64 ((a : Int) + (b : Int))) = ((q + (a + b) : Nat) : Int) := by
  unfold wrap64; omega
theorem strOf_cat (l : List UInt8) (k : Nat) : strOf (l.take k) ++ strOf (l.drop k) = strOf l := by
  have : l = l.take k ++ l.drop k := (List.take_append_drop k l).symm
  conv => rhs; rw [this]
  apply ByteArray.ext
  simp [strOf]
theorem failR (S : Dk) (n : Int) (hn : n < 9223372036854775808) (done : Bool) (w : World) (v : Value) (h : RefAt w v S) : Calls Try.prog 39 #[v, .int .i64 n, .bool done] w (RPostR w (failE S n) (failD S n done)) := by
  obtain ⟨ao, c, ar, lf, dn, rfl, hat, hc, hrel, hlf, hz⟩ := h.ex
  have hf : FA w ao S.files.length c S.files := ⟨hat, rfl, hc, hz⟩
  unfold failE failD
  cases hd : S.down with
  | true =>
    refine (rFail_down S ao _ c ar lf dn w hd n done).mono (fun e w' ⟨he, ha⟩ => ⟨_, he, RefAt.of (hf.after ha) hrel hlf, ha⟩)
  | false =>
    by_cases h0 : n < 0
    · simp only [Bool.false_eq_true, if_false, h0, if_true]
      exact (rFail_arg S ao _ c ar lf dn w hd n h0 done).mono (fun e w' ⟨he, ha⟩ => ⟨_, he, RefAt.of (hf.after ha) hrel hlf, ha⟩)
    · simp only [Bool.false_eq_true, if_false, h0]
      obtain ⟨k, rfl⟩ : ∃ k : Nat, n = (k : Int) := ⟨n.toNat, by omega⟩
      exact (rFail_ok S ao _ c ar lf dn w hd k done).mono (fun e w' ⟨he, ha⟩ => ⟨_, he, RefAt.of (S := failS S k done) (hf.after ha) (fun _ => ⟨rfl, rfl, rfl⟩) (by omega), ha⟩)

set_option maxRecDepth 100000 in
set_option maxHeartbeats 3200000 in
theorem usedR (S : Dk) (hS : Ok S) (ao : Option Addr) (n c : Nat) (ar : Bool) (lf : Nat) (dn : Bool) (w : World) (hf : FA w ao n c S.files) :
    Calls Try.prog 41 #[.agg (rV S ao n c ar lf dn)] w fun e w' => e = .returned (.int .i64 (used S.files : Int)) ∧ After w w' := by
  have HF : Hid (FA w ao n c S.files) := hf
  have hbig : used S.files ≤ 16777216 := Nat.le_trans hS.used hS.most
  have hcnt : n ≤ 64 := by have := hS.count; rw [hf.len] at this; exact this
  have HSF : Hid (∀ p ∈ S.files, p.2.safe ≤ p.2.data.length) := hS.safe
  obtain ⟨l, hl⟩ : ∃ l, S.files = l := ⟨_, rfl⟩
  rw [hl] at HF HSF hbig ⊢
  have HB : Hid (used l ≤ 16777216) := hbig
  unfold rV
  clear hf hS hl hbig
  go_enter Try.func41, Try.ntmps41
  go_wp2
  obtain ⟨w0, hw0⟩ : ∃ w0, w.alloc (.cells #[.int .i64 (S.most : Int), .slice ao n c, .int .i64 (S.steps : Int), .bool ar, .int .i64 (lf : Int), .bool dn, .bool S.down] 27) = w0 := ⟨_, rfl⟩
  rw [hw0]
  have HA0 : Hid (After w w0) := by rw [← hw0]; exact after_alloc (After.refl w) _
  have h1 : w0.cell? ⟨w.heap.size, 1, none⟩ = some (.slice ao n c) := by rw [← hw0]; exact (RowIs.new w 27 [.int .i64 (S.most : Int), .slice ao n c, .int .i64 (S.steps : Int), .bool ar, .int .i64 (lf : Int), .bool dn, .bool S.down]).cell rfl
  clear hw0
  go_loopw [3, 4] (fun m i wr => ∃ k q : Nat, k ≤ n ∧ m = .int .i64 q ∧ i = .int .i64 k ∧ Hid (used (l.take k) = q) ∧ Hid (After w0 wr)) (fun _ i _ => n - (intOf i).toNat)
  case atStart => exact ⟨0, 0, Nat.zero_le _, rfl, rfl, rfl, After.refl _⟩
  case round =>
    obtain ⟨k, q, hk, rfl, rfl, HQ, HAW⟩ := hrel
    have h1' := cell_after HAW.out h1
    by_cases hlt : k < n
    · obtain ⟨p, hp⟩ : ∃ p, l[k]? = some p := ⟨_, List.getElem?_eq_getElem (by rw [HF.out.len]; exact hlt)⟩
      obtain ⟨fb, fo, hao, _, hfc⟩ := HF.out.at_ (by intro h; rw [h] at hp; simp at hp)
      subst hao
      obtain ⟨_, e1, e2⟩ := hfc k p hp
      have d1 := cell_after (After.trans HA0.out HAW.out) e1
      have d2 := cell_after (After.trans HA0.out HAW.out) e2
      have hsafe := HSF.out p (List.mem_of_getElem? hp)
      obtain ⟨s1, hs1⟩ : ∃ s1, strOf (p.2.data.take p.2.safe) = s1 := ⟨_, rfl⟩
      obtain ⟨s2, hs2⟩ : ∃ s2, strOf (p.2.data.drop p.2.safe) = s2 := ⟨_, rfl⟩
      have z1 : s1.size + s2.size = p.2.data.length := by rw [← hs1, ← hs2, strOf_size, strOf_size, List.length_take, List.length_drop]; omega
      have hn2 := used_take l k p hp
      have hle := used_take_le l (k + 1)
      rw [hs1] at d1
      rw [hs2] at d2
      have HQ2 : Hid (used (l.take (k + 1)) = q + (s1.size + s2.size)) := by unfold Hid; rw [hn2, HQ.out, z1]
      have HQB : Hid (q + (s1.size + s2.size) ≤ 16777216) := by have := HB.out; have := HQ2.out; unfold Hid; omega
      have hki : (k : Int) < (n : Int) := by omega
      clear hfc e1 e2 hs1 hs2 z1 hn2 hle hsafe hp
      go_wp2_with fail
      go_quiet (fail)
      go_wp2
      go_roundw
      case rel => exact ⟨k + 1, q + (s1.size + s2.size), by omega, congrArg (Value.int IntKind.i64) (sum2 _ _ _ HQB.out), by go_num, HQ2, below_drewN HAW.out _⟩
      case measure => simp [intOf]; omega
    · have HE : Hid (used l = q) := by have := HQ.out; rw [List.take_of_length_le (by rw [HF.out.len]; omega)] at this; exact this
      go_wp2
      go_ret
      exact ⟨by rw [HE.out]; simp, After.trans HA0.out HAW.out⟩
set_option maxRecDepth 100000 in
set_option maxHeartbeats 3200000 in
theorem rRead_refused (S : Dk) (hS : Ok S) (ao : Option Addr) (n c : Nat) (ar : Bool) (lf : Nat) (dn : Bool) (nm : Nm) (hl : ∀ s ∈ [nm], s.length ≤ maxLen) (w : World) (hf : FA w ao n c S.files) (r : Nat) (hr : refuse S [nm] = r) (h0 : ¬ r = 0) :
    Calls Try.prog 17 #[.agg (rV S ao n c ar lf dn), .string (strOf nm)] w fun e w' => e = .returned (.tuple #[.string (strOf []), .int .i64 (r : Int)]) ∧ After w w' := by
  have HL : Hid (∀ s ∈ [nm], s.length ≤ maxLen) := hl
  have HRR : Hid (refuse S [nm] = r) := hr
  have h0' : ((r : Int) != 0) = true := by simp; omega
  obtain ⟨is, his⟩ : ∃ is, fhas nm S.files = is := ⟨_, rfl⟩
  have HIS : Hid (fhas nm S.files = is) := his
  clear hr his
  clear hl
  have HF : Hid (FA w ao n c S.files) := hf
  have HO : Hid (Ok S) := hS
  unfold rV
  clear hf hS
  go_enter Try.func17, Try.ntmps17
  go_wp2_with fail
  obtain ⟨w0, hw0⟩ : ∃ w0, (w.alloc (.cells #[.int .i64 (S.most : Int), .slice ao n c, .int .i64 (S.steps : Int), .bool ar, .int .i64 (lf : Int), .bool dn, .bool S.down] 27)).alloc (.cells #[.string (strOf nm)] 9) = w0 := ⟨_, rfl⟩
  rw [hw0]
  have HA0 : Hid (After w w0) := by rw [← hw0]; exact after_alloc (after_alloc (After.refl w) _) _
  have HR0 : Hid (RowIs w0 w.heap.size 27 [.int .i64 (S.most : Int), .slice ao n c, .int .i64 (S.steps : Int), .bool ar, .int .i64 (lf : Int), .bool dn, .bool S.down]) := by rw [← hw0]; exact (RowIs.new w 27 _).alloc _
  have HST : Hid (StrsAt w0 (some ⟨w.heap.size + 1, 0, none⟩) [nm]) := by
    rw [← hw0]
    have := StrsAt.one (w.alloc (.cells #[.int .i64 (S.most : Int), .slice ao n c, .int .i64 (S.steps : Int), .bool ar, .int .i64 (lf : Int), .bool dn, .bool S.down] 27)) nm 9
    rw [show (w.alloc (.cells #[.int .i64 (S.most : Int), .slice ao n c, .int .i64 (S.steps : Int), .bool ar, .int .i64 (lf : Int), .bool dn, .bool S.down] 27)).heap.size = w.heap.size + 1 by simp] at this
    exact this
  clear hw0
  go_wp2_with (first
    | (go_at_call 44; refine (rFirst_any S ao n c ar lf dn _ 1 [nm] (by simp) (by simp) (by simpa using HL.out) w0 HST.out).mono ?_; rw [HRR.out]; rintro e w1 ⟨rfl, h1⟩; have HR1 := show Hid (RowIs w1 _ _ _) from HR0.out.below h1 HR0.out.lt; have HA1 : Hid (After w w1) := After.trans HA0.out h1; clear h1)
    | (refine wpList_load_row rfl 27 _ rfl (w.heap.size) rfl 27 _ (0, 0) _ HR1.out Try.underlying27 rfl (by kernel_rfl) ?_)
    | (go_at_call 45; refine (placeR S HO.out ao n c ar lf dn nm (HF.out.after HA1.out)).mono ?_; rw [HIS.out]; rintro e w2 ⟨k, hpl, rfl, h2⟩; have HPL := show Hid (Place nm S.files k) from hpl; have HR2 := show Hid (RowIs w2 _ _ _) from HR1.out.below h2 HR1.out.lt; have HA2 : Hid (After w w2) := After.trans HA1.out h2; clear h2 hpl))
  go_ret2
  exact ⟨rfl, HA2.out⟩
set_option maxRecDepth 100000 in
set_option maxHeartbeats 3200000 in
theorem rRead_none (S : Dk) (hS : Ok S) (ao : Option Addr) (n c : Nat) (ar : Bool) (lf : Nat) (dn : Bool) (nm : Nm) (hl : ∀ s ∈ [nm], s.length ≤ maxLen) (w : World) (hf : FA w ao n c S.files) (h0 : refuse S [nm] = 0) (his : fhas nm S.files = false) :
    Calls Try.prog 17 #[.agg (rV S ao n c ar lf dn), .string (strOf nm)] w fun e w' => e = .returned (.tuple #[.string (strOf []), .int .i64 22]) ∧ After w w' := by
  have HL : Hid (∀ s ∈ [nm], s.length ≤ maxLen) := hl
  have HRR : Hid (refuse S [nm] = 0) := h0
  have HIS : Hid (fhas nm S.files = false) := his
  clear h0 his
  clear hl
  have HF : Hid (FA w ao n c S.files) := hf
  have HO : Hid (Ok S) := hS
  unfold rV
  clear hf hS
  go_enter Try.func17, Try.ntmps17
  go_wp2_with fail
  obtain ⟨w0, hw0⟩ : ∃ w0, (w.alloc (.cells #[.int .i64 (S.most : Int), .slice ao n c, .int .i64 (S.steps : Int), .bool ar, .int .i64 (lf : Int), .bool dn, .bool S.down] 27)).alloc (.cells #[.string (strOf nm)] 9) = w0 := ⟨_, rfl⟩
  rw [hw0]
  have HA0 : Hid (After w w0) := by rw [← hw0]; exact after_alloc (after_alloc (After.refl w) _) _
  have HR0 : Hid (RowIs w0 w.heap.size 27 [.int .i64 (S.most : Int), .slice ao n c, .int .i64 (S.steps : Int), .bool ar, .int .i64 (lf : Int), .bool dn, .bool S.down]) := by rw [← hw0]; exact (RowIs.new w 27 _).alloc _
  have HST : Hid (StrsAt w0 (some ⟨w.heap.size + 1, 0, none⟩) [nm]) := by
    rw [← hw0]
    have := StrsAt.one (w.alloc (.cells #[.int .i64 (S.most : Int), .slice ao n c, .int .i64 (S.steps : Int), .bool ar, .int .i64 (lf : Int), .bool dn, .bool S.down] 27)) nm 9
    rw [show (w.alloc (.cells #[.int .i64 (S.most : Int), .slice ao n c, .int .i64 (S.steps : Int), .bool ar, .int .i64 (lf : Int), .bool dn, .bool S.down] 27)).heap.size = w.heap.size + 1 by simp] at this
    exact this
  clear hw0
  go_wp2_with (first
    | (go_at_call 44; refine (rFirst_any S ao n c ar lf dn _ 1 [nm] (by simp) (by simp) (by simpa using HL.out) w0 HST.out).mono ?_; rw [HRR.out]; rintro e w1 ⟨rfl, h1⟩; have HR1 := show Hid (RowIs w1 _ _ _) from HR0.out.below h1 HR0.out.lt; have HA1 : Hid (After w w1) := After.trans HA0.out h1; clear h1)
    | (refine wpList_load_row rfl 27 _ rfl (w.heap.size) rfl 27 _ (0, 0) _ HR1.out Try.underlying27 rfl (by kernel_rfl) ?_)
    | (go_at_call 45; refine (placeR S HO.out ao n c ar lf dn nm (HF.out.after HA1.out)).mono ?_; rw [HIS.out]; rintro e w2 ⟨k, hpl, rfl, h2⟩; have HPL := show Hid (Place nm S.files k) from hpl; have HR2 := show Hid (RowIs w2 _ _ _) from HR1.out.below h2 HR1.out.lt; have HA2 : Hid (After w w2) := After.trans HA1.out h2; clear h2 hpl))
  go_ret2
  exact ⟨rfl, HA2.out⟩
set_option maxRecDepth 100000 in
set_option maxHeartbeats 3200000 in
theorem rRead_ok (S : Dk) (hS : Ok S) (ao : Option Addr) (n c : Nat) (ar : Bool) (lf : Nat) (dn : Bool) (nm : Nm) (hl : ∀ s ∈ [nm], s.length ≤ maxLen) (w : World) (hf : FA w ao n c S.files) (h0 : refuse S [nm] = 0) (his : fhas nm S.files = true) (f : Fl) (hg : fget nm S.files = some f) :
    Calls Try.prog 17 #[.agg (rV S ao n c ar lf dn), .string (strOf nm)] w fun e w' => e = .returned (.tuple #[.string (strOf f.data), .int .i64 0]) ∧ After w w' := by
  have HL : Hid (∀ s ∈ [nm], s.length ≤ maxLen) := hl
  have HRR : Hid (refuse S [nm] = 0) := h0
  have HIS : Hid (fhas nm S.files = true) := his
  have HG : Hid (fget nm S.files = some f) := hg
  have HFB : Hid (f.data.length ≤ 16777216) := by have h1 := used_mem (fget_mem hg); have h2 := hS.used; have h3 := hS.most; simp only at h1; unfold Hid; omega
  have HRI : Hid (rising S.files) := hS.ris
  clear h0 his hg
  clear hl
  have HF : Hid (FA w ao n c S.files) := hf
  have HO : Hid (Ok S) := hS
  unfold rV
  clear hf hS
  go_enter Try.func17, Try.ntmps17
  go_wp2_with fail
  obtain ⟨w0, hw0⟩ : ∃ w0, (w.alloc (.cells #[.int .i64 (S.most : Int), .slice ao n c, .int .i64 (S.steps : Int), .bool ar, .int .i64 (lf : Int), .bool dn, .bool S.down] 27)).alloc (.cells #[.string (strOf nm)] 9) = w0 := ⟨_, rfl⟩
  rw [hw0]
  have HA0 : Hid (After w w0) := by rw [← hw0]; exact after_alloc (after_alloc (After.refl w) _) _
  have HR0 : Hid (RowIs w0 w.heap.size 27 [.int .i64 (S.most : Int), .slice ao n c, .int .i64 (S.steps : Int), .bool ar, .int .i64 (lf : Int), .bool dn, .bool S.down]) := by rw [← hw0]; exact (RowIs.new w 27 _).alloc _
  have HST : Hid (StrsAt w0 (some ⟨w.heap.size + 1, 0, none⟩) [nm]) := by
    rw [← hw0]
    have := StrsAt.one (w.alloc (.cells #[.int .i64 (S.most : Int), .slice ao n c, .int .i64 (S.steps : Int), .bool ar, .int .i64 (lf : Int), .bool dn, .bool S.down] 27)) nm 9
    rw [show (w.alloc (.cells #[.int .i64 (S.most : Int), .slice ao n c, .int .i64 (S.steps : Int), .bool ar, .int .i64 (lf : Int), .bool dn, .bool S.down] 27)).heap.size = w.heap.size + 1 by simp] at this
    exact this
  clear hw0
  go_wp2_with (first
    | (go_at_call 44; refine (rFirst_any S ao n c ar lf dn _ 1 [nm] (by simp) (by simp) (by simpa using HL.out) w0 HST.out).mono ?_; rw [HRR.out]; rintro e w1 ⟨rfl, h1⟩; have HR1 := show Hid (RowIs w1 _ _ _) from HR0.out.below h1 HR0.out.lt; have HA1 : Hid (After w w1) := After.trans HA0.out h1; clear h1)
    | (refine wpList_load_row rfl 27 _ rfl (w.heap.size) rfl 27 _ (0, 0) _ HR1.out Try.underlying27 rfl (by kernel_rfl) ?_)
    | (go_at_call 45; refine (placeR S HO.out ao n c ar lf dn nm (HF.out.after HA1.out)).mono ?_; rw [HIS.out]; rintro e w2 ⟨k, hpl, rfl, h2⟩; have HPL := show Hid (Place nm S.files k) from hpl; have HR2 := show Hid (RowIs w2 _ _ _) from HR1.out.below h2 HR1.out.lt; have HA2 : Hid (After w w2) := After.trans HA1.out h2; clear h2 hpl))
  obtain ⟨f', hk, hg'⟩ := HPL.out.get HRI.out HIS.out
  obtain rfl : f' = f := by have := HG.out; rw [hg'] at this; exact Option.some.inj this
  have hkn : k < n := by have := (List.getElem?_eq_some_iff.1 hk).1; rw [HF.out.len] at this; exact this
  have hki : (k : Int) < (n : Int) := by omega
  obtain ⟨fb, fo, hao, _, hfc⟩ := HF.out.at_ (by intro h; rw [h] at hk; simp at hk)
  obtain ⟨_, e1, e2⟩ := hfc k _ hk
  have d1 := cell_after HA2.out e1
  have d2 := cell_after HA2.out e2
  have c1 := HR2.out.cell (j := 1) rfl
  subst hao
  simp only at d1 d2
  obtain ⟨s1, hs1⟩ : ∃ s1, strOf (f'.data.take f'.safe) = s1 := ⟨_, rfl⟩
  obtain ⟨s2, hs2⟩ : ∃ s2, strOf (f'.data.drop f'.safe) = s2 := ⟨_, rfl⟩
  have HSS : Hid (s1 ++ s2 = strOf f'.data) := by rw [← hs1, ← hs2]; exact strOf_cat f'.data f'.safe
  have z1 : s1.size + s2.size ≤ 16777216 := by have := HFB.out; rw [← hs1, ← hs2, strOf_size, strOf_size, List.length_take, List.length_drop]; omega
  have z2 : ¬ (9223372036854775807 < s1.size + s2.size) := by omega
  have z3 : ¬ ((9223372036854775807 : Int) < ((s1.size + s2.size : Nat) : Int)) := by omega
  have z4 : ¬ ((9223372036854775807 : Int) < (s1.size : Int) + (s2.size : Int)) := by omega
  rw [hs1] at d1
  rw [hs2] at d2
  clear hfc e1 e2 hs1 hs2 hg' hk
  go_wp2_with fail
  go_quiet (fail)
  go_wp2
  go_ret2
  exact ⟨by rw [← HSS.out]; rfl, below_drewN HA2.out _⟩
theorem readR (S : Dk) (hS : Ok S) (nm : Nm) (hl : nm.length ≤ maxLen) (w : World) (v : Value) (h : RefAt w v S) : Calls Try.prog 17 #[v, .string (strOf nm)] w fun e w' => e = .returned (.tuple #[.string (strOf (readB S nm)), .int .i64 (findE S nm : Int)]) ∧ After w w' := by
  obtain ⟨ao, c, ar, lf, dn, rfl, hat, hc, hrel, hlf, hz⟩ := h.ex
  have hf : FA w ao S.files.length c S.files := ⟨hat, rfl, hc, hz⟩
  have hl' : ∀ s ∈ [nm], s.length ≤ maxLen := by simpa using hl
  unfold readB
  rcases find_cases S nm with ⟨h0, hi, he⟩ | ⟨h0, hi, he⟩ | ⟨h0, he⟩
  · obtain ⟨f, hg⟩ := fhas_some hi
    rw [if_pos he, he, hg]; exact rRead_ok S hS ao _ c ar lf dn nm hl' w hf h0 hi f hg
  · rw [if_neg (by omega), he]; exact rRead_none S hS ao _ c ar lf dn nm hl' w hf h0 hi
  · rw [if_neg (by omega), he]; exact rRead_refused S hS ao _ c ar lf dn nm hl' w hf _ rfl h0
end Go.Proofs.Ytlbodickflljfaa
