/-
  THE WALKS OF (stemmaref05.Disk).without, with.
-/
import Derived.Test.YtlbodickflljfaaRefFiles
namespace Go.Proofs.Ytlbodickflljfaa
open Go.RowKit Go.Maps Dsk
theorem after_setRow {w w1 : World} {g : Nat} (h : After w w1) (hg : w.heap.size ≤ g) (cs : Array Value) : After w (w1.setRow g cs) := Below.row h hg _
/-- What is left of files: where, how many. -/
structure FlOut (w : World) (S : Dk) (ar : Bool) (lf : Nat) (dn : Bool) (l : List (Nm × Fl)) (v : Value) (w' : World) : Prop where
  ex : ∃ ao c, v = .agg (rV S ao l.length c ar lf dn) ∧ FilesAt w' ao l ∧ l.length ≤ c ∧ (ao = none → c = 0)
  aft : After w w'
theorem OwnFl.same {w w' : World} {base : Nat} {v : Value} {l : List (Nm × Fl)} (h : OwnFl w base v l) (hh : ∀ g, v.ownBlock = some g → w'.heap[g]? = w.heap[g]?) : OwnFl w' base v l := by
  refine ⟨h.1, ?_⟩
  rcases h.2 with hn | ⟨g, cap, cur, rfl, q1, q2, rest⟩
  · exact .inl hn
  · exact .inr ⟨g, cap, cur, rfl, q1, by rw [hh g rfl]; exact q2, rest⟩
theorem OwnFl.files {w : World} {base n c : Nat} {ao : Option Addr} {l : List (Nm × Fl)} (h : OwnFl w base (.slice ao n c) l) : FilesAt w ao l := by
  obtain ⟨a, cap, e, hf, _⟩ := h.at
  injection e with e1
  rw [e1]; exact hf
theorem OwnFl.two {w : World} {base n c : Nat} {ao : Option Addr} {l : List (Nm × Fl)} (h : OwnFl w base (.slice ao n c) l) (p : Addr) (hp : p.block < base) (v : Value) (g : Nat) (hg : g < base) (cs : Array Value) : FilesAt ((w.setCell p v).setRow g cs) ao l :=
  OwnFl.files (h.same (fun k hk => by have := (h.lt k hk).1; rw [Go.setRow_other _ _ _ _ (by omega), heap_setCell_other _ _ _ _ (by omega)]))

set_option maxRecDepth 100000 in
set_option maxHeartbeats 1600000 in
theorem without_no (S : Dk) (hS : Ok S) (ao : Option Addr) (c : Nat) (ar : Bool) (lf : Nat) (dn : Bool) (nm : Nm) (w : World) (hat : FilesAt w ao S.files) (hcap : S.files.length ≤ c) (hz : ao = none → c = 0) (his : fhas nm S.files = false) :
    Calls Try.prog 62 #[.agg (rV S ao S.files.length c ar lf dn), .string (strOf nm)] w fun e w' => ∃ v, e = .returned v ∧ FlOut w S ar lf dn (fdel nm S.files) v w' := by
  have C45 := show Hid (∀ W, After w W → _) from fun W hW => place_any S hS ao c ar lf dn nm W (hat.after hW)
  have HF : Hid (FilesAt w ao S.files) := hat
  have HRI : Hid (rising S.files) := hS.ris
  have hcnt := hS.count
  obtain ⟨l, hl⟩ : ∃ l, S.files = l := ⟨_, rfl⟩
  rw [hl] at C45 HF HRI hcnt hcap his ⊢
  obtain ⟨n, hn⟩ : ∃ n, l.length = n := ⟨_, rfl⟩
  have HN : Hid (l.length = n) := hn
  rw [hn, his] at C45
  rw [hn] at hcnt hcap ⊢
  have HIS : Hid (fhas nm l = false) := his
  unfold rV at C45 ⊢
  clear hat hn his hS hl
  have HZ : Hid (ao = none → c = 0) := hz
  have HD : Hid (fdel nm l = l) := fdel_none nm l HIS.out
  clear hz hcnt
  have HCAP : Hid (n ≤ c) := hcap
  clear hcap
  go_enter Try.func62, Try.ntmps62
  go_wp2_with fail
  obtain ⟨w0, hw0⟩ : ∃ w0, (w.alloc (.cells #[.int .i64 (S.most : Int), .slice ao n c, .int .i64 (S.steps : Int), .bool ar, .int .i64 (lf : Int), .bool dn, .bool S.down] 27)).alloc (.cells #[.int .i64 0, .slice none 0 0, .int .i64 0, .bool false, .int .i64 0, .bool false, .bool false] 27) = w0 := ⟨_, rfl⟩
  rw [hw0]
  have HA0 : Hid (After w w0) := by rw [← hw0]; exact after_alloc (after_alloc (After.refl w) _) _
  have HR0 : Hid (RowIs w0 w.heap.size 27 [.int .i64 (S.most : Int), .slice ao n c, .int .i64 (S.steps : Int), .bool ar, .int .i64 (lf : Int), .bool dn, .bool S.down]) := by rw [← hw0]; exact (RowIs.new w 27 _).alloc _
  have HR1 : Hid (RowIs w0 (w.heap.size + 1) 27 [.int .i64 0, .slice none 0 0, .int .i64 0, .bool false, .int .i64 0, .bool false, .bool false]) := by rw [← hw0]; exact row_last _ _ (by simp) _
  clear hw0
  go_wp2_with (first
    | (go_at_call 45; refine Calls.mono (C45.out w0 HA0.out) ?_; rintro e w1 ⟨k, hpl, rfl, h1⟩; have HR2 := show Hid (RowIs w1 _ _ _) from HR0.out.below h1 HR0.out.lt; have HR3 := show Hid (RowIs w1 _ _ _) from HR1.out.below h1 HR1.out.lt; have HA1 : Hid (After w w1) := After.trans HA0.out h1; clear h1)
    | (refine wpList_load_row rfl 27 (.tmp 2) rfl w.heap.size rfl 27 _ (0, 0) _ HR2.out Try.underlying27 rfl (by kernel_rfl) ?_)
    | (refine wpList_store_row rfl 27 (.tmp 4) (.tmp 29) rfl (w.heap.size + 1) _ rfl rfl 27 _ HR3.out (by kernel_rfl) rfl (by kernel_rfl) ?_))
  refine bodyPost_ret (ret27 Try.results62 _ _ (w.heap.size + 1) [.int .i64 (S.most : Int), .slice ao n c, .int .i64 (S.steps : Int), .bool ar, .int .i64 (lf : Int), .bool dn, .bool S.down] rfl (RowIs.setRow HR3.out _) rfl) rfl ⟨_, rfl, ⟨ao, c, ?_, ?_, ?_, HZ.out⟩, after_setRow HA1.out (Nat.le_succ _) _⟩
  · rw [HD.out, HN.out]; rfl
  · rw [HD.out]; exact HF.out.after (after_setRow HA1.out (Nat.le_succ _) _)
  · rw [HD.out, HN.out]; exact HCAP.out
set_option maxRecDepth 100000 in
set_option maxHeartbeats 1600000 in
theorem without_yes (S : Dk) (hS : Ok S) (ao : Option Addr) (c : Nat) (ar : Bool) (lf : Nat) (dn : Bool) (nm : Nm) (w : World) (hat : FilesAt w ao S.files) (hcap : S.files.length ≤ c) (hz : ao = none → c = 0) (his : fhas nm S.files = true) :
    Calls Try.prog 62 #[.agg (rV S ao S.files.length c ar lf dn), .string (strOf nm)] w fun e w' => ∃ v, e = .returned v ∧ FlOut w S ar lf dn (fdel nm S.files) v w' := by
  have C45 := show Hid (∀ W, After w W → _) from fun W hW => place_any S hS ao c ar lf dn nm W (hat.after hW)
  have HF : Hid (FilesAt w ao S.files) := hat
  have HRI : Hid (rising S.files) := hS.ris
  have hcnt := hS.count
  obtain ⟨l, hl⟩ : ∃ l, S.files = l := ⟨_, rfl⟩
  rw [hl] at C45 HF HRI hcnt hcap his ⊢
  obtain ⟨n, hn⟩ : ∃ n, l.length = n := ⟨_, rfl⟩
  have HN : Hid (l.length = n) := hn
  rw [hn, his] at C45
  rw [hn] at hcnt hcap ⊢
  have HIS : Hid (fhas nm l = true) := his
  unfold rV at C45 ⊢
  clear hat hn his hS hl
  have HZ : Hid (ao = none → c = 0) := hz
  clear hz
  go_enter Try.func62, Try.ntmps62
  go_wp2_with fail
  obtain ⟨w0, hw0⟩ : ∃ w0, (w.alloc (.cells #[.int .i64 (S.most : Int), .slice ao n c, .int .i64 (S.steps : Int), .bool ar, .int .i64 (lf : Int), .bool dn, .bool S.down] 27)).alloc (.cells #[.int .i64 0, .slice none 0 0, .int .i64 0, .bool false, .int .i64 0, .bool false, .bool false] 27) = w0 := ⟨_, rfl⟩
  rw [hw0]
  have HA0 : Hid (After w w0) := by rw [← hw0]; exact after_alloc (after_alloc (After.refl w) _) _
  have HR0 : Hid (RowIs w0 w.heap.size 27 [.int .i64 (S.most : Int), .slice ao n c, .int .i64 (S.steps : Int), .bool ar, .int .i64 (lf : Int), .bool dn, .bool S.down]) := by rw [← hw0]; exact (RowIs.new w 27 _).alloc _
  have HR1 : Hid (RowIs w0 (w.heap.size + 1) 27 [.int .i64 0, .slice none 0 0, .int .i64 0, .bool false, .int .i64 0, .bool false, .bool false]) := by rw [← hw0]; exact row_last _ _ (by simp) _
  have HS0 : Hid (w0.heap.size = w.heap.size + 1 + 1) := by rw [← hw0]; simp [Hid]
  clear hw0
  go_wp2_with (first
    | (go_at_call 45; refine Calls.mono (C45.out w0 HA0.out) ?_; rintro e w1 ⟨k, hpl, rfl, h1⟩; have HPL : Hid (Place nm l k) := hpl; have hkn : k < n := (by obtain ⟨f, hf⟩ := (hpl.has HRI.out).1 HIS.out; have := (List.getElem?_eq_some_iff.1 hf).1; rw [HN.out] at this; exact this); obtain ⟨k1, hk1⟩ : ∃ k1, k + 1 = k1 := ⟨_, rfl⟩; have hki : (k : Int) + 1 = (k1 : Int) := (by omega); have SH := fun W => sl25_hi ao n c k (by omega) HZ.out W; have SL := fun W => sl25_lo ao n c k1 hcap (by omega) HZ.out W; have HR2 := show Hid (RowIs w1 _ _ _) from HR0.out.below h1 HR0.out.lt; have HR3 := show Hid (RowIs w1 _ _ _) from HR1.out.below h1 HR1.out.lt; have HA1 : Hid (After w w1) := After.trans HA0.out h1; have c1 := HR2.out.cell (j := 1) rfl; have HW1 : Hid (w.heap.size + 1 < w1.heap.size) := (by have := h1.size; have := HS0.out; unfold Hid; omega); clear h1 hpl)
    | (at_builtin; refine wpList_append_files rfl (.tmp 15) (.tmp 19) rfl w1.heap.size (.slice none 0 0) [] rfl (OwnFl.nil w1 _) ao c (l.take k) k (by rw [List.length_take, HN.out]; omega) rfl ((HF.out.after HA1.out).take k) (by rw [List.length_nil, List.length_take, HN.out]; omega) (Nat.le_refl _) ?_; intro v2 w2 ho2 hg2; rw [List.nil_append] at ho2; have HO2 : Hid (OwnFl w2 w1.heap.size v2 (l.take k)) := ho2; have HA2 : Hid (After w1 w2) := after_grown (After.refl w1) hg2 (Nat.le_refl _) (fun k hk => by cases hk); have c2 := cell_after HA2.out c1; clear ho2 hg2)
    | (at_builtin; refine wpList_append_files rfl (.tmp 21) (.tmp 26) rfl w1.heap.size v2 (l.take k) rfl HO2.out (cut25 ao k1 c) (c - k1) (l.drop k1) (n - k1) (by rw [List.length_drop, HN.out]) rfl (((HF.out.after HA1.out).after HA2.out).drop k1 c (by rw [HN.out]; exact hcap)) (by rw [List.length_take, List.length_drop, HN.out]; omega) HA2.out.size ?_; intro v3 w3 ho3 hg3; have HO3 : Hid (OwnFl w3 w1.heap.size v3 (l.take k ++ l.drop k1)) := ho3; obtain ⟨a3, c3, hv3, hf3, hc3, hz3⟩ := ho3.at; obtain ⟨n3, hn3⟩ : ∃ n3, (l.take k ++ l.drop k1).length = n3 := ⟨_, rfl⟩; rw [hn3] at hv3 hc3; subst hv3; have HF3 := show Hid (FilesAt w3 a3 (l.take k ++ l.drop k1) ∧ n3 ≤ c3 ∧ (a3 = none → c3 = 0)) from ⟨hf3, hc3, hz3⟩; have HN3 : Hid ((l.take k ++ l.drop k1).length = n3) := hn3; have HA3 : Hid (After w1 w3) := after_grown HA2.out hg3 (Nat.le_refl _) (fun k hk => (HO2.out.lt k hk).1); have c3' := cell_after HA3.out c1; have HR4 := show Hid (RowIs w3 _ _ _) from HR2.out.below HA3.out HR2.out.lt; have HR5 := show Hid (RowIs w3 _ _ _) from HR3.out.below HA3.out HR3.out.lt; have fz := HR4.out.frozen 1; have HR6 := show Hid (RowIs (w3.setCell ⟨w.heap.size, 1, none⟩ (.slice a3 n3 c3)) w.heap.size 27 [.int .i64 (S.most : Int), .slice a3 n3 c3, .int .i64 (S.steps : Int), .bool ar, .int .i64 (lf : Int), .bool dn, .bool S.down]) from HR4.out.set 1 _; have HR7 := show Hid (RowIs (w3.setCell ⟨w.heap.size, 1, none⟩ (.slice a3 n3 c3)) _ _ _) from HR5.out.other ⟨w.heap.size, 1, none⟩ (.slice a3 n3 c3) (by simp); clear ho3 hg3 hf3 hc3 hz3 hn3)
    | (refine wpList_load_row rfl 27 (.tmp 2) rfl w.heap.size rfl 27 _ (0, 0) _ HR6.out Try.underlying27 rfl (by kernel_rfl) ?_)
    | (refine wpList_store_row rfl 27 (.tmp 4) (.tmp 29) rfl (w.heap.size + 1) _ rfl rfl 27 _ HR7.out (by kernel_rfl) rfl (by kernel_rfl) ?_))
  have HD : Hid (fdel nm l = l.take k ++ l.drop k1) := by have := HPL.out.del HRI.out; rw [HIS.out, if_pos rfl, hk1] at this; exact this
  have HAX := after_setRow (g := w.heap.size + 1) (Below.setCell (After.trans HA1.out HA3.out) (p := ⟨w.heap.size, 1, none⟩) (Nat.le_refl _) (.slice a3 n3 c3)) (Nat.le_succ _) [.int .i64 (S.most : Int), .slice a3 n3 c3, .int .i64 (S.steps : Int), .bool ar, .int .i64 (lf : Int), .bool dn, .bool S.down].toArray
  refine bodyPost_ret (ret27 Try.results62 _ _ (w.heap.size + 1) [.int .i64 (S.most : Int), .slice a3 n3 c3, .int .i64 (S.steps : Int), .bool ar, .int .i64 (lf : Int), .bool dn, .bool S.down] rfl (RowIs.setRow HR7.out _) rfl) rfl ⟨_, rfl, ⟨a3, c3, ?_, ?_, ?_, HF3.out.2.2⟩, HAX⟩
  · rw [HD.out, HN3.out]; rfl
  · rw [HD.out]; exact HO3.out.two _ (by have := HW1.out; simp only; omega) _ _ HW1.out _
  · rw [HD.out, HN3.out]; exact HF3.out.2.1
end Go.Proofs.Ytlbodickflljfaa
