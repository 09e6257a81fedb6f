/-
  THE WALK OF stemmalaw08.ChangeApart.
-/
import Derived.Test.YtgmdolpjkaajfaaGreatDoorCI
namespace Go.Proofs.YtgmdolpjkaajfaaGreatDoor
open Go.RowKit Leb
theorem x_streqn {o : Oper} {a : Act} {x y : Operand} {w : World} {s t : List UInt8} (hop : o.op = .binOp .eql 9 x y 9) (hx : a.eval x = .string (strOf s)) (hy : a.eval y = .string (strOf t)) (h : ¬ s = t) : (execOp a.eval o).run Tryz.prog w = .ok (.value (.bool false)) w := by
  unfold execOp
  simp only [hop, hx, hy]
  simp [go_sem, strOf_toList, h]
theorem conv_n {W : World} {ao : Option Addr} {bs : List UInt8} {n : Nat} (cap : Nat) (hn : bs.length = n) (h : BytesAt W ao bs) : (convert 32 9 (.slice ao n cap)).run Tryz.prog W = .ok (.string (strOf bs)) W := by
  rw [← hn]; exact conv_at cap h
/-- What the rest of ChangeApart wants of the third argument. -/
structure RawC (w : World) (ao : Option Addr) (n c : Nat) (bs : List UInt8) : Prop where
  at_ : BytesAt w ao bs
  len : bs.length = n
  cap : n ≤ c
  nil : ao = none → n = 0
  big : n ≤ 140737488355328
  tab : SH.Tab w
set_option maxRecDepth 100000 in
set_option maxHeartbeats 2400000 in
theorem capart_A_n (x y : Chg) (d p d' p' : Sl) (ao : Option Addr) (n c : Nat) (bs : List UInt8) (w : World) {q1 q2 : Nat} (B1 B2 : List UInt8) (hx : ChAt w x d p) (hy : ChAt w y d' p') (HR : Hid (RawC w ao n c bs)) (hq1 : ¬ q1 = 0) (hE1 : chgE x = q1) (hE2 : chgE y = q2) (hB1 : chgB x = B1) (hB2 : chgB y = B2) (HG : Hid (getC bs = none)) :
    Calls Tryz.prog 7 #[cV x d p, cV y d' p', .slice ao n c] w fun e w' => e = .returned (.bool true) ∧ After w w' := by
  have HF : Hid (ChAt w x d p ∧ ChAt w y d' p') := ⟨hx, hy⟩
  have HE : Hid (chgE x = q1 ∧ chgE y = q2 ∧ chgB x = B1 ∧ chgB y = B2) := ⟨hE1, hE2, hB1, hB2⟩
  obtain ⟨k1, hk1⟩ : ∃ k, B1.length = k := ⟨_, rfl⟩
  obtain ⟨k2, hk2⟩ : ∃ k, B2.length = k := ⟨_, rfl⟩
  have HL : Hid (B1.length = k1 ∧ B2.length = k2) := ⟨hk1, hk2⟩
  obtain ⟨w0, hw0⟩ : ∃ w0, (w.alloc (.cells (cc x d p).toArray 25)).alloc (.cells (cc y d' p').toArray 25) = w0 := ⟨_, rfl⟩
  have H0 : Hid (After w w0 ∧ RowIs w0 w.heap.size 25 (cc x d p) ∧ RowIs w0 (w.heap.size + 1) 25 (cc y d' p')) := by
    refine ⟨by rw [← hw0]; exact after_alloc (after_alloc (After.refl w) _) _, by rw [← hw0]; exact (RowIs.new w 25 (cc x d p)).alloc _, ?_⟩
    have h := RowIs.new (w.alloc (.cells (cc x d p).toArray 25)) 25 (cc y d' p')
    rw [← hw0]
    simpa using h
  clear hx hy hE1 hE2 hB1 hB2 hk1 hk2
  go_enter Tryz.func7, Tryz.ntmps7
  go_wp2_with (first
    | (go_at_call 17; have _u := H1.out; clear _u; refine Calls.mono (cput_k y d' p' w1 (HF.out.2.after H1.out.1) HE.out.2.1 HE.out.2.2.2) ?_; rintro e w2 ⟨v2, rfl, ho, ha⟩; obtain ⟨a2, c2, he2, hat2, _, _⟩ := own_sl ho HL.out.2; subst he2; have H2 := show Hid (After w w2 ∧ RowIs w2 w.heap.size 25 (cc x d p) ∧ RowIs w2 (w.heap.size + 1) 25 (cc y d' p') ∧ BytesAt w2 a1 B1 ∧ BytesAt w2 a2 B2) from ⟨After.trans H1.out.1 ha, H1.out.2.1.below ha H1.out.2.1.lt, H1.out.2.2.1.below ha H1.out.2.2.1.lt, H1.out.2.2.2.after ha, hat2⟩; clear ho ha hat2)
    | (refine wpList_load_row rfl 25 (.tmp 4) rfl (w.heap.size + 1) rfl 25 _ (0, 0) _ H1.out.2.2.1 Tryz.underlying25 rfl (by kernel_rfl) ?_)
    | (go_at_call 17; refine Calls.mono (cput_k x d p w0 (HF.out.1.after H0.out.1) HE.out.1 HE.out.2.2.1) ?_; rintro e w1 ⟨v1, rfl, ho, ha⟩; obtain ⟨a1, c1, he1, hat1, _, _⟩ := own_sl ho HL.out.1; subst he1; have H1 := show Hid (After w w1 ∧ RowIs w1 w.heap.size 25 (cc x d p) ∧ RowIs w1 (w.heap.size + 1) 25 (cc y d' p') ∧ BytesAt w1 a1 B1) from ⟨After.trans H0.out.1 ha, H0.out.2.1.below ha H0.out.2.1.lt, H0.out.2.2.below ha H0.out.2.2.lt, hat1⟩; clear ho ha hat1)
    | (refine wpList_load_row rfl 25 (.tmp 3) rfl w.heap.size rfl 25 _ (0, 0) _ H0.out.2.1 Tryz.underlying25 rfl (by kernel_rfl) ?_))
  refine wp_region_noPanic ?_
  refine wp_region_held_drew (S := After w2) (by kernel_rfl) (After.drew (After.refl w2)) ?_
  intro hS0
  refine tk 0 25 (.int .i64 (q1 : Int)) (fuel := 16) rfl (by kernel_rfl) (by kernel_rfl) (by kernel_rfl) (by kernel_rfl) noPanic_false (by kernel_rfl) (fun _ _ => by kernel_rfl) hS0 ?_
  refine tk 1 26 (.bool false) (fuel := 15) rfl (by kernel_rfl) (by kernel_rfl) (by kernel_rfl) (by kernel_rfl) noPanic_false (by kernel_rfl) (fun _ _ => x_ne0 (t := 26) (x := .tmp 25) (y := .const (.int .i64 0)) (q := q1) (by kernel_rfl) (by kernel_rfl) (by kernel_rfl) hq1) hS0 ?_
  refine tk 2 27 (.bool false) (fuel := 14) rfl (by kernel_rfl) (by kernel_rfl) (by kernel_rfl) (by kernel_rfl) noPanic_false (by kernel_rfl) (fun _ _ => by kernel_rfl) hS0 ?_
  refine tkSkip 3 28 (fuel := 13) rfl (by kernel_rfl) (by kernel_rfl) (by kernel_rfl) (by kernel_rfl) noPanic_false (by kernel_rfl) hS0 ?_
  refine tkSkip 4 29 (fuel := 12) rfl (by kernel_rfl) (by kernel_rfl) (by kernel_rfl) (by kernel_rfl) noPanic_false (by kernel_rfl) hS0 ?_
  refine tk 5 30 (.bool false) (fuel := 11) rfl (by kernel_rfl) (by kernel_rfl) (by kernel_rfl) (by kernel_rfl) noPanic_false (by kernel_rfl) (fun _ _ => by kernel_rfl) hS0 ?_
  refine tk 6 31 (.bool false) (fuel := 10) rfl (by kernel_rfl) (by kernel_rfl) (by kernel_rfl) (by kernel_rfl) noPanic_false (by kernel_rfl) (fun _ _ => by kernel_rfl) hS0 ?_
  refine tkSkip 7 32 (fuel := 9) rfl (by kernel_rfl) (by kernel_rfl) (by kernel_rfl) (by kernel_rfl) noPanic_false (by kernel_rfl) hS0 ?_
  refine tkSkip 8 33 (fuel := 8) rfl (by kernel_rfl) (by kernel_rfl) (by kernel_rfl) (by kernel_rfl) noPanic_false (by kernel_rfl) hS0 ?_
  refine tkSkip 9 34 (fuel := 7) rfl (by kernel_rfl) (by kernel_rfl) (by kernel_rfl) (by kernel_rfl) noPanic_false (by kernel_rfl) hS0 ?_
  refine tkSkip 10 35 (fuel := 6) rfl (by kernel_rfl) (by kernel_rfl) (by kernel_rfl) (by kernel_rfl) noPanic_false (by kernel_rfl) hS0 ?_
  refine tkSkip 11 36 (fuel := 5) rfl (by kernel_rfl) (by kernel_rfl) (by kernel_rfl) (by kernel_rfl) noPanic_false (by kernel_rfl) hS0 ?_
  refine tkSkip 12 37 (fuel := 4) rfl (by kernel_rfl) (by kernel_rfl) (by kernel_rfl) (by kernel_rfl) noPanic_false (by kernel_rfl) hS0 ?_
  refine tkSkip 13 38 (fuel := 3) rfl (by kernel_rfl) (by kernel_rfl) (by kernel_rfl) (by kernel_rfl) noPanic_false (by kernel_rfl) hS0 ?_
  refine tkSkip 14 39 (fuel := 2) rfl (by kernel_rfl) (by kernel_rfl) (by kernel_rfl) (by kernel_rfl) noPanic_false (by kernel_rfl) hS0 ?_
  refine tkSkip 15 40 (fuel := 1) rfl (by kernel_rfl) (by kernel_rfl) (by kernel_rfl) (by kernel_rfl) noPanic_false (by kernel_rfl) hS0 ?_
  refine tk 16 41 (.bool false) (fuel := 0) rfl (by kernel_rfl) (by kernel_rfl) (by kernel_rfl) (by kernel_rfl) noPanic_false (by kernel_rfl) (fun _ _ => by kernel_rfl) hS0 ?_
  refine wpAnyH_done (by kernel_rfl) (NoPanic.normal ?_) _
  have HU : Hid (After w w2.drew) := After.trans H2.out.1 hS0
  clear hS0
  revert HU
  generalize w2.drew = u
  intro HU
  go_simp
  go_wp2_with (first
    | (go_at_call 15; refine Calls.mono (awake_any u2 (Tab_after HR.out.tab H2u.out)) ?_; rintro e u3 ⟨rfl, ha⟩; have H3u := show Hid (After w u3) from After.trans H2u.out ha; clear ha)
    | (refine wpList_store_row rfl 25 (.tmp 11) (.tmp 45) rfl u1.heap.size _ rfl rfl 25 _ (RowIs.new u1 25 [.string ⟨#[]⟩, .int .i64 0, .int .i64 0, .slice none 0 0, .string ⟨#[]⟩, .slice none 0 0]) (by kernel_rfl) rfl (by kernel_rfl) ?_; have H2u := show Hid (After w ((u1.alloc (.cells #[.string ⟨#[]⟩, .int .i64 0, .int .i64 0, .slice none 0 0, .string ⟨#[]⟩, .slice none 0 0] 25)).setRow u1.heap.size zc.toArray)) from After.trans H1u.out (Below.row (after_alloc (After.refl u1) _) (Nat.le_refl _) _); obtain ⟨gu, hgu⟩ : ∃ g, u1.heap.size = g := ⟨_, rfl⟩; revert H2u; generalize ((u1.alloc (.cells #[.string ⟨#[]⟩, .int .i64 0, .int .i64 0, .slice none 0 0, .string ⟨#[]⟩, .slice none 0 0] 25)).setRow u1.heap.size zc.toArray) = u2; rw [hgu]; intro H2u; clear hgu)
    | (go_at_call 21; have _u := HU.out; clear _u; refine Calls.mono (get_n ao n c bs HR.out.len HR.out.cap HR.out.nil HR.out.big u (HR.out.at_.after HU.out) HG.out) ?_; rintro e u1 ⟨rfl, ha⟩; have H1u := show Hid (After w u1) from After.trans HU.out ha; clear ha))
  go_ret
  exact ⟨rfl, H3u.out⟩
set_option maxRecDepth 100000 in
set_option maxHeartbeats 2400000 in
theorem capart_A_s (x y : Chg) (d p d' p' : Sl) (ao : Option Addr) (n c : Nat) (bs : List UInt8) (w : World) {q1 q2 : Nat} (B1 B2 : List UInt8) (hx : ChAt w x d p) (hy : ChAt w y d' p') (HR : Hid (RawC w ao n c bs)) (hq1 : ¬ q1 = 0) (hE1 : chgE x = q1) (hE2 : chgE y = q2) (hB1 : chgB x = B1) (hB2 : chgB y = B2) (z : Chg) (HG : Hid (getC bs = some z ∧ chgE z = 0 ∧ chgB z = bs)) :
    Calls Tryz.prog 7 #[cV x d p, cV y d' p', .slice ao n c] w fun e w' => e = .returned (.bool true) ∧ After w w' := by
  have HF : Hid (ChAt w x d p ∧ ChAt w y d' p') := ⟨hx, hy⟩
  have HE : Hid (chgE x = q1 ∧ chgE y = q2 ∧ chgB x = B1 ∧ chgB y = B2) := ⟨hE1, hE2, hB1, hB2⟩
  obtain ⟨k1, hk1⟩ : ∃ k, B1.length = k := ⟨_, rfl⟩
  obtain ⟨k2, hk2⟩ : ∃ k, B2.length = k := ⟨_, rfl⟩
  have HL : Hid (B1.length = k1 ∧ B2.length = k2) := ⟨hk1, hk2⟩
  obtain ⟨w0, hw0⟩ : ∃ w0, (w.alloc (.cells (cc x d p).toArray 25)).alloc (.cells (cc y d' p').toArray 25) = w0 := ⟨_, rfl⟩
  have H0 : Hid (After w w0 ∧ RowIs w0 w.heap.size 25 (cc x d p) ∧ RowIs w0 (w.heap.size + 1) 25 (cc y d' p')) := by
    refine ⟨by rw [← hw0]; exact after_alloc (after_alloc (After.refl w) _) _, by rw [← hw0]; exact (RowIs.new w 25 (cc x d p)).alloc _, ?_⟩
    have h := RowIs.new (w.alloc (.cells (cc x d p).toArray 25)) 25 (cc y d' p')
    rw [← hw0]
    simpa using h
  clear hx hy hE1 hE2 hB1 hB2 hk1 hk2
  go_enter Tryz.func7, Tryz.ntmps7
  go_wp2_with (first
    | (go_at_call 17; have _u := H1.out; clear _u; refine Calls.mono (cput_k y d' p' w1 (HF.out.2.after H1.out.1) HE.out.2.1 HE.out.2.2.2) ?_; rintro e w2 ⟨v2, rfl, ho, ha⟩; obtain ⟨a2, c2, he2, hat2, _, _⟩ := own_sl ho HL.out.2; subst he2; have H2 := show Hid (After w w2 ∧ RowIs w2 w.heap.size 25 (cc x d p) ∧ RowIs w2 (w.heap.size + 1) 25 (cc y d' p') ∧ BytesAt w2 a1 B1 ∧ BytesAt w2 a2 B2) from ⟨After.trans H1.out.1 ha, H1.out.2.1.below ha H1.out.2.1.lt, H1.out.2.2.1.below ha H1.out.2.2.1.lt, H1.out.2.2.2.after ha, hat2⟩; clear ho ha hat2)
    | (refine wpList_load_row rfl 25 (.tmp 4) rfl (w.heap.size + 1) rfl 25 _ (0, 0) _ H1.out.2.2.1 Tryz.underlying25 rfl (by kernel_rfl) ?_)
    | (go_at_call 17; refine Calls.mono (cput_k x d p w0 (HF.out.1.after H0.out.1) HE.out.1 HE.out.2.2.1) ?_; rintro e w1 ⟨v1, rfl, ho, ha⟩; obtain ⟨a1, c1, he1, hat1, _, _⟩ := own_sl ho HL.out.1; subst he1; have H1 := show Hid (After w w1 ∧ RowIs w1 w.heap.size 25 (cc x d p) ∧ RowIs w1 (w.heap.size + 1) 25 (cc y d' p') ∧ BytesAt w1 a1 B1) from ⟨After.trans H0.out.1 ha, H0.out.2.1.below ha H0.out.2.1.lt, H0.out.2.2.below ha H0.out.2.2.lt, hat1⟩; clear ho ha hat1)
    | (refine wpList_load_row rfl 25 (.tmp 3) rfl w.heap.size rfl 25 _ (0, 0) _ H0.out.2.1 Tryz.underlying25 rfl (by kernel_rfl) ?_))
  refine wp_region_noPanic ?_
  refine wp_region_held_drew (S := After w2) (by kernel_rfl) (After.drew (After.refl w2)) ?_
  intro hS0
  refine tk 0 25 (.int .i64 (q1 : Int)) (fuel := 16) rfl (by kernel_rfl) (by kernel_rfl) (by kernel_rfl) (by kernel_rfl) noPanic_false (by kernel_rfl) (fun _ _ => by kernel_rfl) hS0 ?_
  refine tk 1 26 (.bool false) (fuel := 15) rfl (by kernel_rfl) (by kernel_rfl) (by kernel_rfl) (by kernel_rfl) noPanic_false (by kernel_rfl) (fun _ _ => x_ne0 (t := 26) (x := .tmp 25) (y := .const (.int .i64 0)) (q := q1) (by kernel_rfl) (by kernel_rfl) (by kernel_rfl) hq1) hS0 ?_
  refine tk 2 27 (.bool false) (fuel := 14) rfl (by kernel_rfl) (by kernel_rfl) (by kernel_rfl) (by kernel_rfl) noPanic_false (by kernel_rfl) (fun _ _ => by kernel_rfl) hS0 ?_
  refine tkSkip 3 28 (fuel := 13) rfl (by kernel_rfl) (by kernel_rfl) (by kernel_rfl) (by kernel_rfl) noPanic_false (by kernel_rfl) hS0 ?_
  refine tkSkip 4 29 (fuel := 12) rfl (by kernel_rfl) (by kernel_rfl) (by kernel_rfl) (by kernel_rfl) noPanic_false (by kernel_rfl) hS0 ?_
  refine tk 5 30 (.bool false) (fuel := 11) rfl (by kernel_rfl) (by kernel_rfl) (by kernel_rfl) (by kernel_rfl) noPanic_false (by kernel_rfl) (fun _ _ => by kernel_rfl) hS0 ?_
  refine tk 6 31 (.bool false) (fuel := 10) rfl (by kernel_rfl) (by kernel_rfl) (by kernel_rfl) (by kernel_rfl) noPanic_false (by kernel_rfl) (fun _ _ => by kernel_rfl) hS0 ?_
  refine tkSkip 7 32 (fuel := 9) rfl (by kernel_rfl) (by kernel_rfl) (by kernel_rfl) (by kernel_rfl) noPanic_false (by kernel_rfl) hS0 ?_
  refine tkSkip 8 33 (fuel := 8) rfl (by kernel_rfl) (by kernel_rfl) (by kernel_rfl) (by kernel_rfl) noPanic_false (by kernel_rfl) hS0 ?_
  refine tkSkip 9 34 (fuel := 7) rfl (by kernel_rfl) (by kernel_rfl) (by kernel_rfl) (by kernel_rfl) noPanic_false (by kernel_rfl) hS0 ?_
  refine tkSkip 10 35 (fuel := 6) rfl (by kernel_rfl) (by kernel_rfl) (by kernel_rfl) (by kernel_rfl) noPanic_false (by kernel_rfl) hS0 ?_
  refine tkSkip 11 36 (fuel := 5) rfl (by kernel_rfl) (by kernel_rfl) (by kernel_rfl) (by kernel_rfl) noPanic_false (by kernel_rfl) hS0 ?_
  refine tkSkip 12 37 (fuel := 4) rfl (by kernel_rfl) (by kernel_rfl) (by kernel_rfl) (by kernel_rfl) noPanic_false (by kernel_rfl) hS0 ?_
  refine tkSkip 13 38 (fuel := 3) rfl (by kernel_rfl) (by kernel_rfl) (by kernel_rfl) (by kernel_rfl) noPanic_false (by kernel_rfl) hS0 ?_
  refine tkSkip 14 39 (fuel := 2) rfl (by kernel_rfl) (by kernel_rfl) (by kernel_rfl) (by kernel_rfl) noPanic_false (by kernel_rfl) hS0 ?_
  refine tkSkip 15 40 (fuel := 1) rfl (by kernel_rfl) (by kernel_rfl) (by kernel_rfl) (by kernel_rfl) noPanic_false (by kernel_rfl) hS0 ?_
  refine tk 16 41 (.bool false) (fuel := 0) rfl (by kernel_rfl) (by kernel_rfl) (by kernel_rfl) (by kernel_rfl) noPanic_false (by kernel_rfl) (fun _ _ => by kernel_rfl) hS0 ?_
  refine wpAnyH_done (by kernel_rfl) (NoPanic.normal ?_) _
  have HU : Hid (After w w2.drew) := After.trans H2.out.1 hS0
  clear hS0
  revert HU
  generalize w2.drew = u
  intro HU
  go_simp
  go_wp2_with (first
    | (go_at_call 15; have _u := H4u.out; clear _u; refine Calls.mono (awake_any u4 (Tab_after HR.out.tab H4u.out)) ?_; rintro e u5 ⟨rfl, ha⟩; have H5u := show Hid (After w u5) from After.trans H4u.out ha; clear ha)
    | (go_at_call 17; have _u := H2u.out; clear _u; refine Calls.mono (cput_k z d3 p3 u2 H2u.out.2.2 HG.out.2.1 HG.out.2.2) ?_; rintro e u4 ⟨v4, rfl, ho, ha⟩; obtain ⟨a4, c4, he4, hat4, _, _⟩ := own_sl ho HR.out.len; subst he4; have H4u := show Hid (After w u4) from After.trans H2u.out.1 ha; have cv1 : (convert 32 9 (.slice a4 n c4)).run Tryz.prog u4 = .ok (.string (strOf bs)) u4 := conv_n c4 HR.out.len hat4; have cv2 : (convert 32 9 (.slice ao n c)).run Tryz.prog u4 = .ok (.string (strOf bs)) u4 := conv_n c HR.out.len (HR.out.at_.after H4u.out); clear ho ha hat4)
    | (refine wpList_load_row rfl 25 (.tmp 11) rfl gu rfl 25 _ (0, 0) _ H2u.out.2.1 Tryz.underlying25 rfl (by kernel_rfl) ?_)
    | (refine wpList_store_row rfl 25 (.tmp 11) (.tmp 45) rfl u1.heap.size _ rfl rfl 25 _ (RowIs.new u1 25 [.string ⟨#[]⟩, .int .i64 0, .int .i64 0, .slice none 0 0, .string ⟨#[]⟩, .slice none 0 0]) (by kernel_rfl) rfl (by kernel_rfl) ?_; have H2u := show Hid (After w ((u1.alloc (.cells #[.string ⟨#[]⟩, .int .i64 0, .int .i64 0, .slice none 0 0, .string ⟨#[]⟩, .slice none 0 0] 25)).setRow u1.heap.size (cc z d3 p3).toArray) ∧ RowIs ((u1.alloc (.cells #[.string ⟨#[]⟩, .int .i64 0, .int .i64 0, .slice none 0 0, .string ⟨#[]⟩, .slice none 0 0] 25)).setRow u1.heap.size (cc z d3 p3).toArray) u1.heap.size 25 (cc z d3 p3) ∧ ChAt ((u1.alloc (.cells #[.string ⟨#[]⟩, .int .i64 0, .int .i64 0, .slice none 0 0, .string ⟨#[]⟩, .slice none 0 0] 25)).setRow u1.heap.size (cc z d3 p3).toArray) z d3 p3) from ⟨After.trans H1u.out.1 (Below.row (after_alloc (After.refl u1) _) (Nat.le_refl _) _), RowIs.setRow (RowIs.new u1 25 [.string ⟨#[]⟩, .int .i64 0, .int .i64 0, .slice none 0 0, .string ⟨#[]⟩, .slice none 0 0]) _, H1u.out.2.after (Below.row (after_alloc (After.refl u1) _) (Nat.le_refl _) _)⟩; obtain ⟨gu, hgu⟩ : ∃ g, u1.heap.size = g := ⟨_, rfl⟩; revert H2u; generalize ((u1.alloc (.cells #[.string ⟨#[]⟩, .int .i64 0, .int .i64 0, .slice none 0 0, .string ⟨#[]⟩, .slice none 0 0] 25)).setRow u1.heap.size (cc z d3 p3).toArray) = u2; rw [hgu]; intro H2u; clear hgu)
    | (go_at_call 21; have _u := HU.out; clear _u; refine Calls.mono (get_c ao n c bs HR.out.len HR.out.cap HR.out.nil HR.out.big u (HR.out.at_.after HU.out) HG.out.1) ?_; rintro e u1 ⟨d3, p3, he, ha, hch⟩; subst he; have H1u := show Hid (After w u1 ∧ ChAt u1 z d3 p3) from ⟨After.trans HU.out ha, hch⟩; clear ha hch))
  go_ret
  exact ⟨rfl, H5u.out⟩
set_option maxRecDepth 100000 in
set_option maxHeartbeats 2400000 in
theorem capart_B_n (x y : Chg) (d p d' p' : Sl) (ao : Option Addr) (n c : Nat) (bs : List UInt8) (w : World) {q2 : Nat} (B1 B2 : List UInt8) (hx : ChAt w x d p) (hy : ChAt w y d' p') (HR : Hid (RawC w ao n c bs)) (hq2 : ¬ q2 = 0) (hE1 : chgE x = 0) (hE2 : chgE y = q2) (hB1 : chgB x = B1) (hB2 : chgB y = B2) (HG : Hid (getC bs = none)) :
    Calls Tryz.prog 7 #[cV x d p, cV y d' p', .slice ao n c] w fun e w' => e = .returned (.bool true) ∧ After w w' := by
  have HF : Hid (ChAt w x d p ∧ ChAt w y d' p') := ⟨hx, hy⟩
  have HE : Hid (chgE x = 0 ∧ chgE y = q2 ∧ chgB x = B1 ∧ chgB y = B2) := ⟨hE1, hE2, hB1, hB2⟩
  obtain ⟨k1, hk1⟩ : ∃ k, B1.length = k := ⟨_, rfl⟩
  obtain ⟨k2, hk2⟩ : ∃ k, B2.length = k := ⟨_, rfl⟩
  have HL : Hid (B1.length = k1 ∧ B2.length = k2) := ⟨hk1, hk2⟩
  obtain ⟨w0, hw0⟩ : ∃ w0, (w.alloc (.cells (cc x d p).toArray 25)).alloc (.cells (cc y d' p').toArray 25) = w0 := ⟨_, rfl⟩
  have H0 : Hid (After w w0 ∧ RowIs w0 w.heap.size 25 (cc x d p) ∧ RowIs w0 (w.heap.size + 1) 25 (cc y d' p')) := by
    refine ⟨by rw [← hw0]; exact after_alloc (after_alloc (After.refl w) _) _, by rw [← hw0]; exact (RowIs.new w 25 (cc x d p)).alloc _, ?_⟩
    have h := RowIs.new (w.alloc (.cells (cc x d p).toArray 25)) 25 (cc y d' p')
    rw [← hw0]
    simpa using h
  clear hx hy hE1 hE2 hB1 hB2 hk1 hk2
  go_enter Tryz.func7, Tryz.ntmps7
  go_wp2_with (first
    | (go_at_call 17; have _u := H1.out; clear _u; refine Calls.mono (cput_k y d' p' w1 (HF.out.2.after H1.out.1) HE.out.2.1 HE.out.2.2.2) ?_; rintro e w2 ⟨v2, rfl, ho, ha⟩; obtain ⟨a2, c2, he2, hat2, _, _⟩ := own_sl ho HL.out.2; subst he2; have H2 := show Hid (After w w2 ∧ RowIs w2 w.heap.size 25 (cc x d p) ∧ RowIs w2 (w.heap.size + 1) 25 (cc y d' p') ∧ BytesAt w2 a1 B1 ∧ BytesAt w2 a2 B2) from ⟨After.trans H1.out.1 ha, H1.out.2.1.below ha H1.out.2.1.lt, H1.out.2.2.1.below ha H1.out.2.2.1.lt, H1.out.2.2.2.after ha, hat2⟩; clear ho ha hat2)
    | (refine wpList_load_row rfl 25 (.tmp 4) rfl (w.heap.size + 1) rfl 25 _ (0, 0) _ H1.out.2.2.1 Tryz.underlying25 rfl (by kernel_rfl) ?_)
    | (go_at_call 17; refine Calls.mono (cput_k x d p w0 (HF.out.1.after H0.out.1) HE.out.1 HE.out.2.2.1) ?_; rintro e w1 ⟨v1, rfl, ho, ha⟩; obtain ⟨a1, c1, he1, hat1, _, _⟩ := own_sl ho HL.out.1; subst he1; have H1 := show Hid (After w w1 ∧ RowIs w1 w.heap.size 25 (cc x d p) ∧ RowIs w1 (w.heap.size + 1) 25 (cc y d' p') ∧ BytesAt w1 a1 B1) from ⟨After.trans H0.out.1 ha, H0.out.2.1.below ha H0.out.2.1.lt, H0.out.2.2.below ha H0.out.2.2.lt, hat1⟩; clear ho ha hat1)
    | (refine wpList_load_row rfl 25 (.tmp 3) rfl w.heap.size rfl 25 _ (0, 0) _ H0.out.2.1 Tryz.underlying25 rfl (by kernel_rfl) ?_))
  refine wp_region_noPanic ?_
  refine wp_region_held_drew (S := After w2) (by kernel_rfl) (After.drew (After.refl w2)) ?_
  intro hS0
  refine tk 0 25 (.int .i64 0) (fuel := 16) rfl (by kernel_rfl) (by kernel_rfl) (by kernel_rfl) (by kernel_rfl) noPanic_false (by kernel_rfl) (fun _ _ => by kernel_rfl) hS0 ?_
  refine tk 1 26 (.bool true) (fuel := 15) rfl (by kernel_rfl) (by kernel_rfl) (by kernel_rfl) (by kernel_rfl) noPanic_false (by kernel_rfl) (fun _ _ => by kernel_rfl) hS0 ?_
  refine tk 2 27 (.bool true) (fuel := 14) rfl (by kernel_rfl) (by kernel_rfl) (by kernel_rfl) (by kernel_rfl) noPanic_false (by kernel_rfl) (fun _ _ => by kernel_rfl) hS0 ?_
  refine tk 3 28 (.int .i64 (q2 : Int)) (fuel := 13) rfl (by kernel_rfl) (by kernel_rfl) (by kernel_rfl) (by kernel_rfl) noPanic_false (by kernel_rfl) (fun _ _ => by kernel_rfl) hS0 ?_
  refine tk 4 29 (.bool false) (fuel := 12) rfl (by kernel_rfl) (by kernel_rfl) (by kernel_rfl) (by kernel_rfl) noPanic_false (by kernel_rfl) (fun _ _ => x_ne0 (t := 26) (x := .tmp 28) (y := .const (.int .i64 0)) (q := q2) (by kernel_rfl) (by kernel_rfl) (by kernel_rfl) hq2) hS0 ?_
  refine tk 5 30 (.bool false) (fuel := 11) rfl (by kernel_rfl) (by kernel_rfl) (by kernel_rfl) (by kernel_rfl) noPanic_false (by kernel_rfl) (fun _ _ => by kernel_rfl) hS0 ?_
  refine tk 6 31 (.bool false) (fuel := 10) rfl (by kernel_rfl) (by kernel_rfl) (by kernel_rfl) (by kernel_rfl) noPanic_false (by kernel_rfl) (fun _ _ => by kernel_rfl) hS0 ?_
  refine tkSkip 7 32 (fuel := 9) rfl (by kernel_rfl) (by kernel_rfl) (by kernel_rfl) (by kernel_rfl) noPanic_false (by kernel_rfl) hS0 ?_
  refine tkSkip 8 33 (fuel := 8) rfl (by kernel_rfl) (by kernel_rfl) (by kernel_rfl) (by kernel_rfl) noPanic_false (by kernel_rfl) hS0 ?_
  refine tkSkip 9 34 (fuel := 7) rfl (by kernel_rfl) (by kernel_rfl) (by kernel_rfl) (by kernel_rfl) noPanic_false (by kernel_rfl) hS0 ?_
  refine tkSkip 10 35 (fuel := 6) rfl (by kernel_rfl) (by kernel_rfl) (by kernel_rfl) (by kernel_rfl) noPanic_false (by kernel_rfl) hS0 ?_
  refine tkSkip 11 36 (fuel := 5) rfl (by kernel_rfl) (by kernel_rfl) (by kernel_rfl) (by kernel_rfl) noPanic_false (by kernel_rfl) hS0 ?_
  refine tkSkip 12 37 (fuel := 4) rfl (by kernel_rfl) (by kernel_rfl) (by kernel_rfl) (by kernel_rfl) noPanic_false (by kernel_rfl) hS0 ?_
  refine tkSkip 13 38 (fuel := 3) rfl (by kernel_rfl) (by kernel_rfl) (by kernel_rfl) (by kernel_rfl) noPanic_false (by kernel_rfl) hS0 ?_
  refine tkSkip 14 39 (fuel := 2) rfl (by kernel_rfl) (by kernel_rfl) (by kernel_rfl) (by kernel_rfl) noPanic_false (by kernel_rfl) hS0 ?_
  refine tkSkip 15 40 (fuel := 1) rfl (by kernel_rfl) (by kernel_rfl) (by kernel_rfl) (by kernel_rfl) noPanic_false (by kernel_rfl) hS0 ?_
  refine tk 16 41 (.bool false) (fuel := 0) rfl (by kernel_rfl) (by kernel_rfl) (by kernel_rfl) (by kernel_rfl) noPanic_false (by kernel_rfl) (fun _ _ => by kernel_rfl) hS0 ?_
  refine wpAnyH_done (by kernel_rfl) (NoPanic.normal ?_) _
  have HU : Hid (After w w2.drew) := After.trans H2.out.1 hS0
  clear hS0
  revert HU
  generalize w2.drew = u
  intro HU
  go_simp
  go_wp2_with (first
    | (go_at_call 15; refine Calls.mono (awake_any u2 (Tab_after HR.out.tab H2u.out)) ?_; rintro e u3 ⟨rfl, ha⟩; have H3u := show Hid (After w u3) from After.trans H2u.out ha; clear ha)
    | (refine wpList_store_row rfl 25 (.tmp 11) (.tmp 45) rfl u1.heap.size _ rfl rfl 25 _ (RowIs.new u1 25 [.string ⟨#[]⟩, .int .i64 0, .int .i64 0, .slice none 0 0, .string ⟨#[]⟩, .slice none 0 0]) (by kernel_rfl) rfl (by kernel_rfl) ?_; have H2u := show Hid (After w ((u1.alloc (.cells #[.string ⟨#[]⟩, .int .i64 0, .int .i64 0, .slice none 0 0, .string ⟨#[]⟩, .slice none 0 0] 25)).setRow u1.heap.size zc.toArray)) from After.trans H1u.out (Below.row (after_alloc (After.refl u1) _) (Nat.le_refl _) _); obtain ⟨gu, hgu⟩ : ∃ g, u1.heap.size = g := ⟨_, rfl⟩; revert H2u; generalize ((u1.alloc (.cells #[.string ⟨#[]⟩, .int .i64 0, .int .i64 0, .slice none 0 0, .string ⟨#[]⟩, .slice none 0 0] 25)).setRow u1.heap.size zc.toArray) = u2; rw [hgu]; intro H2u; clear hgu)
    | (go_at_call 21; have _u := HU.out; clear _u; refine Calls.mono (get_n ao n c bs HR.out.len HR.out.cap HR.out.nil HR.out.big u (HR.out.at_.after HU.out) HG.out) ?_; rintro e u1 ⟨rfl, ha⟩; have H1u := show Hid (After w u1) from After.trans HU.out ha; clear ha))
  go_ret
  exact ⟨rfl, H3u.out⟩
set_option maxRecDepth 100000 in
set_option maxHeartbeats 2400000 in
theorem capart_B_s (x y : Chg) (d p d' p' : Sl) (ao : Option Addr) (n c : Nat) (bs : List UInt8) (w : World) {q2 : Nat} (B1 B2 : List UInt8) (hx : ChAt w x d p) (hy : ChAt w y d' p') (HR : Hid (RawC w ao n c bs)) (hq2 : ¬ q2 = 0) (hE1 : chgE x = 0) (hE2 : chgE y = q2) (hB1 : chgB x = B1) (hB2 : chgB y = B2) (z : Chg) (HG : Hid (getC bs = some z ∧ chgE z = 0 ∧ chgB z = bs)) :
    Calls Tryz.prog 7 #[cV x d p, cV y d' p', .slice ao n c] w fun e w' => e = .returned (.bool true) ∧ After w w' := by
  have HF : Hid (ChAt w x d p ∧ ChAt w y d' p') := ⟨hx, hy⟩
  have HE : Hid (chgE x = 0 ∧ chgE y = q2 ∧ chgB x = B1 ∧ chgB y = B2) := ⟨hE1, hE2, hB1, hB2⟩
  obtain ⟨k1, hk1⟩ : ∃ k, B1.length = k := ⟨_, rfl⟩
  obtain ⟨k2, hk2⟩ : ∃ k, B2.length = k := ⟨_, rfl⟩
  have HL : Hid (B1.length = k1 ∧ B2.length = k2) := ⟨hk1, hk2⟩
  obtain ⟨w0, hw0⟩ : ∃ w0, (w.alloc (.cells (cc x d p).toArray 25)).alloc (.cells (cc y d' p').toArray 25) = w0 := ⟨_, rfl⟩
  have H0 : Hid (After w w0 ∧ RowIs w0 w.heap.size 25 (cc x d p) ∧ RowIs w0 (w.heap.size + 1) 25 (cc y d' p')) := by
    refine ⟨by rw [← hw0]; exact after_alloc (after_alloc (After.refl w) _) _, by rw [← hw0]; exact (RowIs.new w 25 (cc x d p)).alloc _, ?_⟩
    have h := RowIs.new (w.alloc (.cells (cc x d p).toArray 25)) 25 (cc y d' p')
    rw [← hw0]
    simpa using h
  clear hx hy hE1 hE2 hB1 hB2 hk1 hk2
  go_enter Tryz.func7, Tryz.ntmps7
  go_wp2_with (first
    | (go_at_call 17; have _u := H1.out; clear _u; refine Calls.mono (cput_k y d' p' w1 (HF.out.2.after H1.out.1) HE.out.2.1 HE.out.2.2.2) ?_; rintro e w2 ⟨v2, rfl, ho, ha⟩; obtain ⟨a2, c2, he2, hat2, _, _⟩ := own_sl ho HL.out.2; subst he2; have H2 := show Hid (After w w2 ∧ RowIs w2 w.heap.size 25 (cc x d p) ∧ RowIs w2 (w.heap.size + 1) 25 (cc y d' p') ∧ BytesAt w2 a1 B1 ∧ BytesAt w2 a2 B2) from ⟨After.trans H1.out.1 ha, H1.out.2.1.below ha H1.out.2.1.lt, H1.out.2.2.1.below ha H1.out.2.2.1.lt, H1.out.2.2.2.after ha, hat2⟩; clear ho ha hat2)
    | (refine wpList_load_row rfl 25 (.tmp 4) rfl (w.heap.size + 1) rfl 25 _ (0, 0) _ H1.out.2.2.1 Tryz.underlying25 rfl (by kernel_rfl) ?_)
    | (go_at_call 17; refine Calls.mono (cput_k x d p w0 (HF.out.1.after H0.out.1) HE.out.1 HE.out.2.2.1) ?_; rintro e w1 ⟨v1, rfl, ho, ha⟩; obtain ⟨a1, c1, he1, hat1, _, _⟩ := own_sl ho HL.out.1; subst he1; have H1 := show Hid (After w w1 ∧ RowIs w1 w.heap.size 25 (cc x d p) ∧ RowIs w1 (w.heap.size + 1) 25 (cc y d' p') ∧ BytesAt w1 a1 B1) from ⟨After.trans H0.out.1 ha, H0.out.2.1.below ha H0.out.2.1.lt, H0.out.2.2.below ha H0.out.2.2.lt, hat1⟩; clear ho ha hat1)
    | (refine wpList_load_row rfl 25 (.tmp 3) rfl w.heap.size rfl 25 _ (0, 0) _ H0.out.2.1 Tryz.underlying25 rfl (by kernel_rfl) ?_))
  refine wp_region_noPanic ?_
  refine wp_region_held_drew (S := After w2) (by kernel_rfl) (After.drew (After.refl w2)) ?_
  intro hS0
  refine tk 0 25 (.int .i64 0) (fuel := 16) rfl (by kernel_rfl) (by kernel_rfl) (by kernel_rfl) (by kernel_rfl) noPanic_false (by kernel_rfl) (fun _ _ => by kernel_rfl) hS0 ?_
  refine tk 1 26 (.bool true) (fuel := 15) rfl (by kernel_rfl) (by kernel_rfl) (by kernel_rfl) (by kernel_rfl) noPanic_false (by kernel_rfl) (fun _ _ => by kernel_rfl) hS0 ?_
  refine tk 2 27 (.bool true) (fuel := 14) rfl (by kernel_rfl) (by kernel_rfl) (by kernel_rfl) (by kernel_rfl) noPanic_false (by kernel_rfl) (fun _ _ => by kernel_rfl) hS0 ?_
  refine tk 3 28 (.int .i64 (q2 : Int)) (fuel := 13) rfl (by kernel_rfl) (by kernel_rfl) (by kernel_rfl) (by kernel_rfl) noPanic_false (by kernel_rfl) (fun _ _ => by kernel_rfl) hS0 ?_
  refine tk 4 29 (.bool false) (fuel := 12) rfl (by kernel_rfl) (by kernel_rfl) (by kernel_rfl) (by kernel_rfl) noPanic_false (by kernel_rfl) (fun _ _ => x_ne0 (t := 26) (x := .tmp 28) (y := .const (.int .i64 0)) (q := q2) (by kernel_rfl) (by kernel_rfl) (by kernel_rfl) hq2) hS0 ?_
  refine tk 5 30 (.bool false) (fuel := 11) rfl (by kernel_rfl) (by kernel_rfl) (by kernel_rfl) (by kernel_rfl) noPanic_false (by kernel_rfl) (fun _ _ => by kernel_rfl) hS0 ?_
  refine tk 6 31 (.bool false) (fuel := 10) rfl (by kernel_rfl) (by kernel_rfl) (by kernel_rfl) (by kernel_rfl) noPanic_false (by kernel_rfl) (fun _ _ => by kernel_rfl) hS0 ?_
  refine tkSkip 7 32 (fuel := 9) rfl (by kernel_rfl) (by kernel_rfl) (by kernel_rfl) (by kernel_rfl) noPanic_false (by kernel_rfl) hS0 ?_
  refine tkSkip 8 33 (fuel := 8) rfl (by kernel_rfl) (by kernel_rfl) (by kernel_rfl) (by kernel_rfl) noPanic_false (by kernel_rfl) hS0 ?_
  refine tkSkip 9 34 (fuel := 7) rfl (by kernel_rfl) (by kernel_rfl) (by kernel_rfl) (by kernel_rfl) noPanic_false (by kernel_rfl) hS0 ?_
  refine tkSkip 10 35 (fuel := 6) rfl (by kernel_rfl) (by kernel_rfl) (by kernel_rfl) (by kernel_rfl) noPanic_false (by kernel_rfl) hS0 ?_
  refine tkSkip 11 36 (fuel := 5) rfl (by kernel_rfl) (by kernel_rfl) (by kernel_rfl) (by kernel_rfl) noPanic_false (by kernel_rfl) hS0 ?_
  refine tkSkip 12 37 (fuel := 4) rfl (by kernel_rfl) (by kernel_rfl) (by kernel_rfl) (by kernel_rfl) noPanic_false (by kernel_rfl) hS0 ?_
  refine tkSkip 13 38 (fuel := 3) rfl (by kernel_rfl) (by kernel_rfl) (by kernel_rfl) (by kernel_rfl) noPanic_false (by kernel_rfl) hS0 ?_
  refine tkSkip 14 39 (fuel := 2) rfl (by kernel_rfl) (by kernel_rfl) (by kernel_rfl) (by kernel_rfl) noPanic_false (by kernel_rfl) hS0 ?_
  refine tkSkip 15 40 (fuel := 1) rfl (by kernel_rfl) (by kernel_rfl) (by kernel_rfl) (by kernel_rfl) noPanic_false (by kernel_rfl) hS0 ?_
  refine tk 16 41 (.bool false) (fuel := 0) rfl (by kernel_rfl) (by kernel_rfl) (by kernel_rfl) (by kernel_rfl) noPanic_false (by kernel_rfl) (fun _ _ => by kernel_rfl) hS0 ?_
  refine wpAnyH_done (by kernel_rfl) (NoPanic.normal ?_) _
  have HU : Hid (After w w2.drew) := After.trans H2.out.1 hS0
  clear hS0
  revert HU
  generalize w2.drew = u
  intro HU
  go_simp
  go_wp2_with (first
    | (go_at_call 15; have _u := H4u.out; clear _u; refine Calls.mono (awake_any u4 (Tab_after HR.out.tab H4u.out)) ?_; rintro e u5 ⟨rfl, ha⟩; have H5u := show Hid (After w u5) from After.trans H4u.out ha; clear ha)
    | (go_at_call 17; have _u := H2u.out; clear _u; refine Calls.mono (cput_k z d3 p3 u2 H2u.out.2.2 HG.out.2.1 HG.out.2.2) ?_; rintro e u4 ⟨v4, rfl, ho, ha⟩; obtain ⟨a4, c4, he4, hat4, _, _⟩ := own_sl ho HR.out.len; subst he4; have H4u := show Hid (After w u4) from After.trans H2u.out.1 ha; have cv1 : (convert 32 9 (.slice a4 n c4)).run Tryz.prog u4 = .ok (.string (strOf bs)) u4 := conv_n c4 HR.out.len hat4; have cv2 : (convert 32 9 (.slice ao n c)).run Tryz.prog u4 = .ok (.string (strOf bs)) u4 := conv_n c HR.out.len (HR.out.at_.after H4u.out); clear ho ha hat4)
    | (refine wpList_load_row rfl 25 (.tmp 11) rfl gu rfl 25 _ (0, 0) _ H2u.out.2.1 Tryz.underlying25 rfl (by kernel_rfl) ?_)
    | (refine wpList_store_row rfl 25 (.tmp 11) (.tmp 45) rfl u1.heap.size _ rfl rfl 25 _ (RowIs.new u1 25 [.string ⟨#[]⟩, .int .i64 0, .int .i64 0, .slice none 0 0, .string ⟨#[]⟩, .slice none 0 0]) (by kernel_rfl) rfl (by kernel_rfl) ?_; have H2u := show Hid (After w ((u1.alloc (.cells #[.string ⟨#[]⟩, .int .i64 0, .int .i64 0, .slice none 0 0, .string ⟨#[]⟩, .slice none 0 0] 25)).setRow u1.heap.size (cc z d3 p3).toArray) ∧ RowIs ((u1.alloc (.cells #[.string ⟨#[]⟩, .int .i64 0, .int .i64 0, .slice none 0 0, .string ⟨#[]⟩, .slice none 0 0] 25)).setRow u1.heap.size (cc z d3 p3).toArray) u1.heap.size 25 (cc z d3 p3) ∧ ChAt ((u1.alloc (.cells #[.string ⟨#[]⟩, .int .i64 0, .int .i64 0, .slice none 0 0, .string ⟨#[]⟩, .slice none 0 0] 25)).setRow u1.heap.size (cc z d3 p3).toArray) z d3 p3) from ⟨After.trans H1u.out.1 (Below.row (after_alloc (After.refl u1) _) (Nat.le_refl _) _), RowIs.setRow (RowIs.new u1 25 [.string ⟨#[]⟩, .int .i64 0, .int .i64 0, .slice none 0 0, .string ⟨#[]⟩, .slice none 0 0]) _, H1u.out.2.after (Below.row (after_alloc (After.refl u1) _) (Nat.le_refl _) _)⟩; obtain ⟨gu, hgu⟩ : ∃ g, u1.heap.size = g := ⟨_, rfl⟩; revert H2u; generalize ((u1.alloc (.cells #[.string ⟨#[]⟩, .int .i64 0, .int .i64 0, .slice none 0 0, .string ⟨#[]⟩, .slice none 0 0] 25)).setRow u1.heap.size (cc z d3 p3).toArray) = u2; rw [hgu]; intro H2u; clear hgu)
    | (go_at_call 21; have _u := HU.out; clear _u; refine Calls.mono (get_c ao n c bs HR.out.len HR.out.cap HR.out.nil HR.out.big u (HR.out.at_.after HU.out) HG.out.1) ?_; rintro e u1 ⟨d3, p3, he, ha, hch⟩; subst he; have H1u := show Hid (After w u1 ∧ ChAt u1 z d3 p3) from ⟨After.trans HU.out ha, hch⟩; clear ha hch))
  go_ret
  exact ⟨rfl, H5u.out⟩
set_option maxRecDepth 100000 in
set_option maxHeartbeats 2400000 in
theorem capart_Ct_n (x y : Chg) (d p d' p' : Sl) (ao : Option Addr) (n c : Nat) (bs : List UInt8) (w : World) (B1 B2 : List UInt8) (hx : ChAt w x d p) (hy : ChAt w y d' p') (HR : Hid (RawC w ao n c bs)) (hE1 : chgE x = 0) (hE2 : chgE y = 0) (HB : Hid (B1 = B2 ∧ x = y)) (hB1 : chgB x = B1) (hB2 : chgB y = B2) (HG : Hid (getC bs = none)) :
    Calls Tryz.prog 7 #[cV x d p, cV y d' p', .slice ao n c] w fun e w' => e = .returned (.bool true) ∧ After w w' := by
  have HF : Hid (ChAt w x d p ∧ ChAt w y d' p') := ⟨hx, hy⟩
  have HE : Hid (chgE x = 0 ∧ chgE y = 0 ∧ chgB x = B1 ∧ chgB y = B2) := ⟨hE1, hE2, hB1, hB2⟩
  obtain ⟨k1, hk1⟩ : ∃ k, B1.length = k := ⟨_, rfl⟩
  obtain ⟨k2, hk2⟩ : ∃ k, B2.length = k := ⟨_, rfl⟩
  have HL : Hid (B1.length = k1 ∧ B2.length = k2) := ⟨hk1, hk2⟩
  obtain ⟨w0, hw0⟩ : ∃ w0, (w.alloc (.cells (cc x d p).toArray 25)).alloc (.cells (cc y d' p').toArray 25) = w0 := ⟨_, rfl⟩
  have H0 : Hid (After w w0 ∧ RowIs w0 w.heap.size 25 (cc x d p) ∧ RowIs w0 (w.heap.size + 1) 25 (cc y d' p')) := by
    refine ⟨by rw [← hw0]; exact after_alloc (after_alloc (After.refl w) _) _, by rw [← hw0]; exact (RowIs.new w 25 (cc x d p)).alloc _, ?_⟩
    have h := RowIs.new (w.alloc (.cells (cc x d p).toArray 25)) 25 (cc y d' p')
    rw [← hw0]
    simpa using h
  clear hx hy hE1 hE2 hB1 hB2 hk1 hk2
  go_enter Tryz.func7, Tryz.ntmps7
  go_wp2_with (first
    | (go_at_call 17; have _u := H1.out; clear _u; refine Calls.mono (cput_k y d' p' w1 (HF.out.2.after H1.out.1) HE.out.2.1 HE.out.2.2.2) ?_; rintro e w2 ⟨v2, rfl, ho, ha⟩; obtain ⟨a2, c2, he2, hat2, _, _⟩ := own_sl ho HL.out.2; subst he2; have H2 := show Hid (After w w2 ∧ RowIs w2 w.heap.size 25 (cc x d p) ∧ RowIs w2 (w.heap.size + 1) 25 (cc y d' p') ∧ BytesAt w2 a1 B1 ∧ BytesAt w2 a2 B2) from ⟨After.trans H1.out.1 ha, H1.out.2.1.below ha H1.out.2.1.lt, H1.out.2.2.1.below ha H1.out.2.2.1.lt, H1.out.2.2.2.after ha, hat2⟩; clear ho ha hat2)
    | (refine wpList_load_row rfl 25 (.tmp 4) rfl (w.heap.size + 1) rfl 25 _ (0, 0) _ H1.out.2.2.1 Tryz.underlying25 rfl (by kernel_rfl) ?_)
    | (go_at_call 17; refine Calls.mono (cput_k x d p w0 (HF.out.1.after H0.out.1) HE.out.1 HE.out.2.2.1) ?_; rintro e w1 ⟨v1, rfl, ho, ha⟩; obtain ⟨a1, c1, he1, hat1, _, _⟩ := own_sl ho HL.out.1; subst he1; have H1 := show Hid (After w w1 ∧ RowIs w1 w.heap.size 25 (cc x d p) ∧ RowIs w1 (w.heap.size + 1) 25 (cc y d' p') ∧ BytesAt w1 a1 B1) from ⟨After.trans H0.out.1 ha, H0.out.2.1.below ha H0.out.2.1.lt, H0.out.2.2.below ha H0.out.2.2.lt, hat1⟩; clear ho ha hat1)
    | (refine wpList_load_row rfl 25 (.tmp 3) rfl w.heap.size rfl 25 _ (0, 0) _ H0.out.2.1 Tryz.underlying25 rfl (by kernel_rfl) ?_))
  refine wp_region_noPanic ?_
  refine wp_region_held_drew (S := After w2) (by kernel_rfl) (After.drew (After.refl w2)) ?_
  intro hS0
  refine tk 0 25 (.int .i64 0) (fuel := 16) rfl (by kernel_rfl) (by kernel_rfl) (by kernel_rfl) (by kernel_rfl) noPanic_false (by kernel_rfl) (fun _ _ => by kernel_rfl) hS0 ?_
  refine tk 1 26 (.bool true) (fuel := 15) rfl (by kernel_rfl) (by kernel_rfl) (by kernel_rfl) (by kernel_rfl) noPanic_false (by kernel_rfl) (fun _ _ => by kernel_rfl) hS0 ?_
  refine tk 2 27 (.bool true) (fuel := 14) rfl (by kernel_rfl) (by kernel_rfl) (by kernel_rfl) (by kernel_rfl) noPanic_false (by kernel_rfl) (fun _ _ => by kernel_rfl) hS0 ?_
  refine tk 3 28 (.int .i64 0) (fuel := 13) rfl (by kernel_rfl) (by kernel_rfl) (by kernel_rfl) (by kernel_rfl) noPanic_false (by kernel_rfl) (fun _ _ => by kernel_rfl) hS0 ?_
  refine tk 4 29 (.bool true) (fuel := 12) rfl (by kernel_rfl) (by kernel_rfl) (by kernel_rfl) (by kernel_rfl) noPanic_false (by kernel_rfl) (fun _ _ => by kernel_rfl) hS0 ?_
  refine tk 5 30 (.bool true) (fuel := 11) rfl (by kernel_rfl) (by kernel_rfl) (by kernel_rfl) (by kernel_rfl) noPanic_false (by kernel_rfl) (fun _ _ => by kernel_rfl) hS0 ?_
  refine tk 6 31 (.bool true) (fuel := 10) rfl (by kernel_rfl) (by kernel_rfl) (by kernel_rfl) (by kernel_rfl) noPanic_false (by kernel_rfl) (fun _ _ => by kernel_rfl) hS0 ?_
  refine tk 7 32 (.slice a1 k1 c1) (fuel := 9) rfl (by kernel_rfl) (by kernel_rfl) (by kernel_rfl) (by kernel_rfl) noPanic_false (by kernel_rfl) (fun _ _ => by kernel_rfl) hS0 ?_
  refine tk 8 33 (.string (strOf B1)) (fuel := 8) rfl (by kernel_rfl) (by kernel_rfl) (by kernel_rfl) (by kernel_rfl) noPanic_false (by kernel_rfl) (fun W hW => x_conv (x := .tmp 32) (v := .slice a1 k1 c1) (by kernel_rfl) (by kernel_rfl) (conv_n c1 HL.out.1 (H2.out.2.2.2.1.after hW))) hS0 ?_
  refine tk 9 34 (.slice a2 k2 c2) (fuel := 7) rfl (by kernel_rfl) (by kernel_rfl) (by kernel_rfl) (by kernel_rfl) noPanic_false (by kernel_rfl) (fun _ _ => by kernel_rfl) hS0 ?_
  refine tk 10 35 (.string (strOf B2)) (fuel := 6) rfl (by kernel_rfl) (by kernel_rfl) (by kernel_rfl) (by kernel_rfl) noPanic_false (by kernel_rfl) (fun W hW => x_conv (x := .tmp 34) (v := .slice a2 k2 c2) (by kernel_rfl) (by kernel_rfl) (conv_n c2 HL.out.2 (H2.out.2.2.2.2.after hW))) hS0 ?_
  refine tk 11 36 (.bool true) (fuel := 5) rfl (by kernel_rfl) (by kernel_rfl) (by kernel_rfl) (by kernel_rfl) noPanic_false (by kernel_rfl) (fun _ _ => x_streq (x := .tmp 33) (y := .tmp 35) (s := strOf B1) (t := strOf B2) (by kernel_rfl) (by kernel_rfl) (by kernel_rfl) (by rw [HB.out.1])) hS0 ?_
  refine tk 12 37 (cV x d p) (fuel := 4) rfl (by kernel_rfl) (by kernel_rfl) (by kernel_rfl) (by kernel_rfl) noPanic_false (by kernel_rfl) (fun W hW => x_row25 (x := .tmp 3) (g := w.heap.size) (cs := cc x d p) (by kernel_rfl) (by kernel_rfl) (H2.out.2.1.below hW H2.out.2.1.lt) rfl) hS0 ?_
  refine tk 13 38 (cV y d' p') (fuel := 3) rfl (by kernel_rfl) (by kernel_rfl) (by kernel_rfl) (by kernel_rfl) noPanic_false (by kernel_rfl) (fun W hW => x_row25 (x := .tmp 4) (g := w.heap.size + 1) (cs := cc y d' p') (by kernel_rfl) (by kernel_rfl) (H2.out.2.2.1.below hW H2.out.2.2.1.lt) rfl) hS0 ?_
  refine tkCall 14 39 13 #[cV x d p, cV y d' p'] (fun v _ => v = .bool true) (fuel := 2) rfl (by kernel_rfl) (by kernel_rfl) (by kernel_rfl) (fun _ => by kernel_rfl) hS0 ((csame_any x y d p d' p' w2.drew (HF.out.1.after (After.trans H2.out.1 hS0)) (HF.out.2.after (After.trans H2.out.1 hS0))).mono (fun e w' h => ⟨_, h.1, by rw [decide_eq_true HB.out.2], h.2⟩)) ?_
  rintro v u rfl ha
  have HU : Hid (After w u) := After.trans (After.trans H2.out.1 hS0) ha
  clear hS0 ha
  have hS0 := After.refl u
  refine tk 15 40 (.bool false) (fuel := 1) rfl (by kernel_rfl) (by kernel_rfl) (by kernel_rfl) (by kernel_rfl) noPanic_false (by kernel_rfl) (fun _ _ => by kernel_rfl) hS0 ?_
  refine tk 16 41 (.bool false) (fuel := 0) rfl (by kernel_rfl) (by kernel_rfl) (by kernel_rfl) (by kernel_rfl) noPanic_false (by kernel_rfl) (fun _ _ => by kernel_rfl) hS0 ?_
  refine wpAnyH_done (by kernel_rfl) (NoPanic.normal ?_) _
  clear hS0
  go_simp
  go_wp2_with (first
    | (go_at_call 15; refine Calls.mono (awake_any u2 (Tab_after HR.out.tab H2u.out)) ?_; rintro e u3 ⟨rfl, ha⟩; have H3u := show Hid (After w u3) from After.trans H2u.out ha; clear ha)
    | (refine wpList_store_row rfl 25 (.tmp 11) (.tmp 45) rfl u1.heap.size _ rfl rfl 25 _ (RowIs.new u1 25 [.string ⟨#[]⟩, .int .i64 0, .int .i64 0, .slice none 0 0, .string ⟨#[]⟩, .slice none 0 0]) (by kernel_rfl) rfl (by kernel_rfl) ?_; have H2u := show Hid (After w ((u1.alloc (.cells #[.string ⟨#[]⟩, .int .i64 0, .int .i64 0, .slice none 0 0, .string ⟨#[]⟩, .slice none 0 0] 25)).setRow u1.heap.size zc.toArray)) from After.trans H1u.out (Below.row (after_alloc (After.refl u1) _) (Nat.le_refl _) _); obtain ⟨gu, hgu⟩ : ∃ g, u1.heap.size = g := ⟨_, rfl⟩; revert H2u; generalize ((u1.alloc (.cells #[.string ⟨#[]⟩, .int .i64 0, .int .i64 0, .slice none 0 0, .string ⟨#[]⟩, .slice none 0 0] 25)).setRow u1.heap.size zc.toArray) = u2; rw [hgu]; intro H2u; clear hgu)
    | (go_at_call 21; have _u := HU.out; clear _u; refine Calls.mono (get_n ao n c bs HR.out.len HR.out.cap HR.out.nil HR.out.big u (HR.out.at_.after HU.out) HG.out) ?_; rintro e u1 ⟨rfl, ha⟩; have H1u := show Hid (After w u1) from After.trans HU.out ha; clear ha))
  go_ret
  exact ⟨rfl, H3u.out⟩
set_option maxRecDepth 100000 in
set_option maxHeartbeats 2400000 in
theorem capart_Ct_s (x y : Chg) (d p d' p' : Sl) (ao : Option Addr) (n c : Nat) (bs : List UInt8) (w : World) (B1 B2 : List UInt8) (hx : ChAt w x d p) (hy : ChAt w y d' p') (HR : Hid (RawC w ao n c bs)) (hE1 : chgE x = 0) (hE2 : chgE y = 0) (HB : Hid (B1 = B2 ∧ x = y)) (hB1 : chgB x = B1) (hB2 : chgB y = B2) (z : Chg) (HG : Hid (getC bs = some z ∧ chgE z = 0 ∧ chgB z = bs)) :
    Calls Tryz.prog 7 #[cV x d p, cV y d' p', .slice ao n c] w fun e w' => e = .returned (.bool true) ∧ After w w' := by
  have HF : Hid (ChAt w x d p ∧ ChAt w y d' p') := ⟨hx, hy⟩
  have HE : Hid (chgE x = 0 ∧ chgE y = 0 ∧ chgB x = B1 ∧ chgB y = B2) := ⟨hE1, hE2, hB1, hB2⟩
  obtain ⟨k1, hk1⟩ : ∃ k, B1.length = k := ⟨_, rfl⟩
  obtain ⟨k2, hk2⟩ : ∃ k, B2.length = k := ⟨_, rfl⟩
  have HL : Hid (B1.length = k1 ∧ B2.length = k2) := ⟨hk1, hk2⟩
  obtain ⟨w0, hw0⟩ : ∃ w0, (w.alloc (.cells (cc x d p).toArray 25)).alloc (.cells (cc y d' p').toArray 25) = w0 := ⟨_, rfl⟩
  have H0 : Hid (After w w0 ∧ RowIs w0 w.heap.size 25 (cc x d p) ∧ RowIs w0 (w.heap.size + 1) 25 (cc y d' p')) := by
    refine ⟨by rw [← hw0]; exact after_alloc (after_alloc (After.refl w) _) _, by rw [← hw0]; exact (RowIs.new w 25 (cc x d p)).alloc _, ?_⟩
    have h := RowIs.new (w.alloc (.cells (cc x d p).toArray 25)) 25 (cc y d' p')
    rw [← hw0]
    simpa using h
  clear hx hy hE1 hE2 hB1 hB2 hk1 hk2
  go_enter Tryz.func7, Tryz.ntmps7
  go_wp2_with (first
    | (go_at_call 17; have _u := H1.out; clear _u; refine Calls.mono (cput_k y d' p' w1 (HF.out.2.after H1.out.1) HE.out.2.1 HE.out.2.2.2) ?_; rintro e w2 ⟨v2, rfl, ho, ha⟩; obtain ⟨a2, c2, he2, hat2, _, _⟩ := own_sl ho HL.out.2; subst he2; have H2 := show Hid (After w w2 ∧ RowIs w2 w.heap.size 25 (cc x d p) ∧ RowIs w2 (w.heap.size + 1) 25 (cc y d' p') ∧ BytesAt w2 a1 B1 ∧ BytesAt w2 a2 B2) from ⟨After.trans H1.out.1 ha, H1.out.2.1.below ha H1.out.2.1.lt, H1.out.2.2.1.below ha H1.out.2.2.1.lt, H1.out.2.2.2.after ha, hat2⟩; clear ho ha hat2)
    | (refine wpList_load_row rfl 25 (.tmp 4) rfl (w.heap.size + 1) rfl 25 _ (0, 0) _ H1.out.2.2.1 Tryz.underlying25 rfl (by kernel_rfl) ?_)
    | (go_at_call 17; refine Calls.mono (cput_k x d p w0 (HF.out.1.after H0.out.1) HE.out.1 HE.out.2.2.1) ?_; rintro e w1 ⟨v1, rfl, ho, ha⟩; obtain ⟨a1, c1, he1, hat1, _, _⟩ := own_sl ho HL.out.1; subst he1; have H1 := show Hid (After w w1 ∧ RowIs w1 w.heap.size 25 (cc x d p) ∧ RowIs w1 (w.heap.size + 1) 25 (cc y d' p') ∧ BytesAt w1 a1 B1) from ⟨After.trans H0.out.1 ha, H0.out.2.1.below ha H0.out.2.1.lt, H0.out.2.2.below ha H0.out.2.2.lt, hat1⟩; clear ho ha hat1)
    | (refine wpList_load_row rfl 25 (.tmp 3) rfl w.heap.size rfl 25 _ (0, 0) _ H0.out.2.1 Tryz.underlying25 rfl (by kernel_rfl) ?_))
  refine wp_region_noPanic ?_
  refine wp_region_held_drew (S := After w2) (by kernel_rfl) (After.drew (After.refl w2)) ?_
  intro hS0
  refine tk 0 25 (.int .i64 0) (fuel := 16) rfl (by kernel_rfl) (by kernel_rfl) (by kernel_rfl) (by kernel_rfl) noPanic_false (by kernel_rfl) (fun _ _ => by kernel_rfl) hS0 ?_
  refine tk 1 26 (.bool true) (fuel := 15) rfl (by kernel_rfl) (by kernel_rfl) (by kernel_rfl) (by kernel_rfl) noPanic_false (by kernel_rfl) (fun _ _ => by kernel_rfl) hS0 ?_
  refine tk 2 27 (.bool true) (fuel := 14) rfl (by kernel_rfl) (by kernel_rfl) (by kernel_rfl) (by kernel_rfl) noPanic_false (by kernel_rfl) (fun _ _ => by kernel_rfl) hS0 ?_
  refine tk 3 28 (.int .i64 0) (fuel := 13) rfl (by kernel_rfl) (by kernel_rfl) (by kernel_rfl) (by kernel_rfl) noPanic_false (by kernel_rfl) (fun _ _ => by kernel_rfl) hS0 ?_
  refine tk 4 29 (.bool true) (fuel := 12) rfl (by kernel_rfl) (by kernel_rfl) (by kernel_rfl) (by kernel_rfl) noPanic_false (by kernel_rfl) (fun _ _ => by kernel_rfl) hS0 ?_
  refine tk 5 30 (.bool true) (fuel := 11) rfl (by kernel_rfl) (by kernel_rfl) (by kernel_rfl) (by kernel_rfl) noPanic_false (by kernel_rfl) (fun _ _ => by kernel_rfl) hS0 ?_
  refine tk 6 31 (.bool true) (fuel := 10) rfl (by kernel_rfl) (by kernel_rfl) (by kernel_rfl) (by kernel_rfl) noPanic_false (by kernel_rfl) (fun _ _ => by kernel_rfl) hS0 ?_
  refine tk 7 32 (.slice a1 k1 c1) (fuel := 9) rfl (by kernel_rfl) (by kernel_rfl) (by kernel_rfl) (by kernel_rfl) noPanic_false (by kernel_rfl) (fun _ _ => by kernel_rfl) hS0 ?_
  refine tk 8 33 (.string (strOf B1)) (fuel := 8) rfl (by kernel_rfl) (by kernel_rfl) (by kernel_rfl) (by kernel_rfl) noPanic_false (by kernel_rfl) (fun W hW => x_conv (x := .tmp 32) (v := .slice a1 k1 c1) (by kernel_rfl) (by kernel_rfl) (conv_n c1 HL.out.1 (H2.out.2.2.2.1.after hW))) hS0 ?_
  refine tk 9 34 (.slice a2 k2 c2) (fuel := 7) rfl (by kernel_rfl) (by kernel_rfl) (by kernel_rfl) (by kernel_rfl) noPanic_false (by kernel_rfl) (fun _ _ => by kernel_rfl) hS0 ?_
  refine tk 10 35 (.string (strOf B2)) (fuel := 6) rfl (by kernel_rfl) (by kernel_rfl) (by kernel_rfl) (by kernel_rfl) noPanic_false (by kernel_rfl) (fun W hW => x_conv (x := .tmp 34) (v := .slice a2 k2 c2) (by kernel_rfl) (by kernel_rfl) (conv_n c2 HL.out.2 (H2.out.2.2.2.2.after hW))) hS0 ?_
  refine tk 11 36 (.bool true) (fuel := 5) rfl (by kernel_rfl) (by kernel_rfl) (by kernel_rfl) (by kernel_rfl) noPanic_false (by kernel_rfl) (fun _ _ => x_streq (x := .tmp 33) (y := .tmp 35) (s := strOf B1) (t := strOf B2) (by kernel_rfl) (by kernel_rfl) (by kernel_rfl) (by rw [HB.out.1])) hS0 ?_
  refine tk 12 37 (cV x d p) (fuel := 4) rfl (by kernel_rfl) (by kernel_rfl) (by kernel_rfl) (by kernel_rfl) noPanic_false (by kernel_rfl) (fun W hW => x_row25 (x := .tmp 3) (g := w.heap.size) (cs := cc x d p) (by kernel_rfl) (by kernel_rfl) (H2.out.2.1.below hW H2.out.2.1.lt) rfl) hS0 ?_
  refine tk 13 38 (cV y d' p') (fuel := 3) rfl (by kernel_rfl) (by kernel_rfl) (by kernel_rfl) (by kernel_rfl) noPanic_false (by kernel_rfl) (fun W hW => x_row25 (x := .tmp 4) (g := w.heap.size + 1) (cs := cc y d' p') (by kernel_rfl) (by kernel_rfl) (H2.out.2.2.1.below hW H2.out.2.2.1.lt) rfl) hS0 ?_
  refine tkCall 14 39 13 #[cV x d p, cV y d' p'] (fun v _ => v = .bool true) (fuel := 2) rfl (by kernel_rfl) (by kernel_rfl) (by kernel_rfl) (fun _ => by kernel_rfl) hS0 ((csame_any x y d p d' p' w2.drew (HF.out.1.after (After.trans H2.out.1 hS0)) (HF.out.2.after (After.trans H2.out.1 hS0))).mono (fun e w' h => ⟨_, h.1, by rw [decide_eq_true HB.out.2], h.2⟩)) ?_
  rintro v u rfl ha
  have HU : Hid (After w u) := After.trans (After.trans H2.out.1 hS0) ha
  clear hS0 ha
  have hS0 := After.refl u
  refine tk 15 40 (.bool false) (fuel := 1) rfl (by kernel_rfl) (by kernel_rfl) (by kernel_rfl) (by kernel_rfl) noPanic_false (by kernel_rfl) (fun _ _ => by kernel_rfl) hS0 ?_
  refine tk 16 41 (.bool false) (fuel := 0) rfl (by kernel_rfl) (by kernel_rfl) (by kernel_rfl) (by kernel_rfl) noPanic_false (by kernel_rfl) (fun _ _ => by kernel_rfl) hS0 ?_
  refine wpAnyH_done (by kernel_rfl) (NoPanic.normal ?_) _
  clear hS0
  go_simp
  go_wp2_with (first
    | (go_at_call 15; have _u := H4u.out; clear _u; refine Calls.mono (awake_any u4 (Tab_after HR.out.tab H4u.out)) ?_; rintro e u5 ⟨rfl, ha⟩; have H5u := show Hid (After w u5) from After.trans H4u.out ha; clear ha)
    | (go_at_call 17; have _u := H2u.out; clear _u; refine Calls.mono (cput_k z d3 p3 u2 H2u.out.2.2 HG.out.2.1 HG.out.2.2) ?_; rintro e u4 ⟨v4, rfl, ho, ha⟩; obtain ⟨a4, c4, he4, hat4, _, _⟩ := own_sl ho HR.out.len; subst he4; have H4u := show Hid (After w u4) from After.trans H2u.out.1 ha; have cv1 : (convert 32 9 (.slice a4 n c4)).run Tryz.prog u4 = .ok (.string (strOf bs)) u4 := conv_n c4 HR.out.len hat4; have cv2 : (convert 32 9 (.slice ao n c)).run Tryz.prog u4 = .ok (.string (strOf bs)) u4 := conv_n c HR.out.len (HR.out.at_.after H4u.out); clear ho ha hat4)
    | (refine wpList_load_row rfl 25 (.tmp 11) rfl gu rfl 25 _ (0, 0) _ H2u.out.2.1 Tryz.underlying25 rfl (by kernel_rfl) ?_)
    | (refine wpList_store_row rfl 25 (.tmp 11) (.tmp 45) rfl u1.heap.size _ rfl rfl 25 _ (RowIs.new u1 25 [.string ⟨#[]⟩, .int .i64 0, .int .i64 0, .slice none 0 0, .string ⟨#[]⟩, .slice none 0 0]) (by kernel_rfl) rfl (by kernel_rfl) ?_; have H2u := show Hid (After w ((u1.alloc (.cells #[.string ⟨#[]⟩, .int .i64 0, .int .i64 0, .slice none 0 0, .string ⟨#[]⟩, .slice none 0 0] 25)).setRow u1.heap.size (cc z d3 p3).toArray) ∧ RowIs ((u1.alloc (.cells #[.string ⟨#[]⟩, .int .i64 0, .int .i64 0, .slice none 0 0, .string ⟨#[]⟩, .slice none 0 0] 25)).setRow u1.heap.size (cc z d3 p3).toArray) u1.heap.size 25 (cc z d3 p3) ∧ ChAt ((u1.alloc (.cells #[.string ⟨#[]⟩, .int .i64 0, .int .i64 0, .slice none 0 0, .string ⟨#[]⟩, .slice none 0 0] 25)).setRow u1.heap.size (cc z d3 p3).toArray) z d3 p3) from ⟨After.trans H1u.out.1 (Below.row (after_alloc (After.refl u1) _) (Nat.le_refl _) _), RowIs.setRow (RowIs.new u1 25 [.string ⟨#[]⟩, .int .i64 0, .int .i64 0, .slice none 0 0, .string ⟨#[]⟩, .slice none 0 0]) _, H1u.out.2.after (Below.row (after_alloc (After.refl u1) _) (Nat.le_refl _) _)⟩; obtain ⟨gu, hgu⟩ : ∃ g, u1.heap.size = g := ⟨_, rfl⟩; revert H2u; generalize ((u1.alloc (.cells #[.string ⟨#[]⟩, .int .i64 0, .int .i64 0, .slice none 0 0, .string ⟨#[]⟩, .slice none 0 0] 25)).setRow u1.heap.size (cc z d3 p3).toArray) = u2; rw [hgu]; intro H2u; clear hgu)
    | (go_at_call 21; have _u := HU.out; clear _u; refine Calls.mono (get_c ao n c bs HR.out.len HR.out.cap HR.out.nil HR.out.big u (HR.out.at_.after HU.out) HG.out.1) ?_; rintro e u1 ⟨d3, p3, he, ha, hch⟩; subst he; have H1u := show Hid (After w u1 ∧ ChAt u1 z d3 p3) from ⟨After.trans HU.out ha, hch⟩; clear ha hch))
  go_ret
  exact ⟨rfl, H5u.out⟩
set_option maxRecDepth 100000 in
set_option maxHeartbeats 2400000 in
theorem capart_Cf_n (x y : Chg) (d p d' p' : Sl) (ao : Option Addr) (n c : Nat) (bs : List UInt8) (w : World) (B1 B2 : List UInt8) (hx : ChAt w x d p) (hy : ChAt w y d' p') (HR : Hid (RawC w ao n c bs)) (hE1 : chgE x = 0) (hE2 : chgE y = 0) (HB : Hid (¬ B1 = B2 ∧ ¬ x = y)) (hB1 : chgB x = B1) (hB2 : chgB y = B2) (HG : Hid (getC bs = none)) :
    Calls Tryz.prog 7 #[cV x d p, cV y d' p', .slice ao n c] w fun e w' => e = .returned (.bool true) ∧ After w w' := by
  have HF : Hid (ChAt w x d p ∧ ChAt w y d' p') := ⟨hx, hy⟩
  have HE : Hid (chgE x = 0 ∧ chgE y = 0 ∧ chgB x = B1 ∧ chgB y = B2) := ⟨hE1, hE2, hB1, hB2⟩
  obtain ⟨k1, hk1⟩ : ∃ k, B1.length = k := ⟨_, rfl⟩
  obtain ⟨k2, hk2⟩ : ∃ k, B2.length = k := ⟨_, rfl⟩
  have HL : Hid (B1.length = k1 ∧ B2.length = k2) := ⟨hk1, hk2⟩
  obtain ⟨w0, hw0⟩ : ∃ w0, (w.alloc (.cells (cc x d p).toArray 25)).alloc (.cells (cc y d' p').toArray 25) = w0 := ⟨_, rfl⟩
  have H0 : Hid (After w w0 ∧ RowIs w0 w.heap.size 25 (cc x d p) ∧ RowIs w0 (w.heap.size + 1) 25 (cc y d' p')) := by
    refine ⟨by rw [← hw0]; exact after_alloc (after_alloc (After.refl w) _) _, by rw [← hw0]; exact (RowIs.new w 25 (cc x d p)).alloc _, ?_⟩
    have h := RowIs.new (w.alloc (.cells (cc x d p).toArray 25)) 25 (cc y d' p')
    rw [← hw0]
    simpa using h
  clear hx hy hE1 hE2 hB1 hB2 hk1 hk2
  go_enter Tryz.func7, Tryz.ntmps7
  go_wp2_with (first
    | (go_at_call 17; have _u := H1.out; clear _u; refine Calls.mono (cput_k y d' p' w1 (HF.out.2.after H1.out.1) HE.out.2.1 HE.out.2.2.2) ?_; rintro e w2 ⟨v2, rfl, ho, ha⟩; obtain ⟨a2, c2, he2, hat2, _, _⟩ := own_sl ho HL.out.2; subst he2; have H2 := show Hid (After w w2 ∧ RowIs w2 w.heap.size 25 (cc x d p) ∧ RowIs w2 (w.heap.size + 1) 25 (cc y d' p') ∧ BytesAt w2 a1 B1 ∧ BytesAt w2 a2 B2) from ⟨After.trans H1.out.1 ha, H1.out.2.1.below ha H1.out.2.1.lt, H1.out.2.2.1.below ha H1.out.2.2.1.lt, H1.out.2.2.2.after ha, hat2⟩; clear ho ha hat2)
    | (refine wpList_load_row rfl 25 (.tmp 4) rfl (w.heap.size + 1) rfl 25 _ (0, 0) _ H1.out.2.2.1 Tryz.underlying25 rfl (by kernel_rfl) ?_)
    | (go_at_call 17; refine Calls.mono (cput_k x d p w0 (HF.out.1.after H0.out.1) HE.out.1 HE.out.2.2.1) ?_; rintro e w1 ⟨v1, rfl, ho, ha⟩; obtain ⟨a1, c1, he1, hat1, _, _⟩ := own_sl ho HL.out.1; subst he1; have H1 := show Hid (After w w1 ∧ RowIs w1 w.heap.size 25 (cc x d p) ∧ RowIs w1 (w.heap.size + 1) 25 (cc y d' p') ∧ BytesAt w1 a1 B1) from ⟨After.trans H0.out.1 ha, H0.out.2.1.below ha H0.out.2.1.lt, H0.out.2.2.below ha H0.out.2.2.lt, hat1⟩; clear ho ha hat1)
    | (refine wpList_load_row rfl 25 (.tmp 3) rfl w.heap.size rfl 25 _ (0, 0) _ H0.out.2.1 Tryz.underlying25 rfl (by kernel_rfl) ?_))
  refine wp_region_noPanic ?_
  refine wp_region_held_drew (S := After w2) (by kernel_rfl) (After.drew (After.refl w2)) ?_
  intro hS0
  refine tk 0 25 (.int .i64 0) (fuel := 16) rfl (by kernel_rfl) (by kernel_rfl) (by kernel_rfl) (by kernel_rfl) noPanic_false (by kernel_rfl) (fun _ _ => by kernel_rfl) hS0 ?_
  refine tk 1 26 (.bool true) (fuel := 15) rfl (by kernel_rfl) (by kernel_rfl) (by kernel_rfl) (by kernel_rfl) noPanic_false (by kernel_rfl) (fun _ _ => by kernel_rfl) hS0 ?_
  refine tk 2 27 (.bool true) (fuel := 14) rfl (by kernel_rfl) (by kernel_rfl) (by kernel_rfl) (by kernel_rfl) noPanic_false (by kernel_rfl) (fun _ _ => by kernel_rfl) hS0 ?_
  refine tk 3 28 (.int .i64 0) (fuel := 13) rfl (by kernel_rfl) (by kernel_rfl) (by kernel_rfl) (by kernel_rfl) noPanic_false (by kernel_rfl) (fun _ _ => by kernel_rfl) hS0 ?_
  refine tk 4 29 (.bool true) (fuel := 12) rfl (by kernel_rfl) (by kernel_rfl) (by kernel_rfl) (by kernel_rfl) noPanic_false (by kernel_rfl) (fun _ _ => by kernel_rfl) hS0 ?_
  refine tk 5 30 (.bool true) (fuel := 11) rfl (by kernel_rfl) (by kernel_rfl) (by kernel_rfl) (by kernel_rfl) noPanic_false (by kernel_rfl) (fun _ _ => by kernel_rfl) hS0 ?_
  refine tk 6 31 (.bool true) (fuel := 10) rfl (by kernel_rfl) (by kernel_rfl) (by kernel_rfl) (by kernel_rfl) noPanic_false (by kernel_rfl) (fun _ _ => by kernel_rfl) hS0 ?_
  refine tk 7 32 (.slice a1 k1 c1) (fuel := 9) rfl (by kernel_rfl) (by kernel_rfl) (by kernel_rfl) (by kernel_rfl) noPanic_false (by kernel_rfl) (fun _ _ => by kernel_rfl) hS0 ?_
  refine tk 8 33 (.string (strOf B1)) (fuel := 8) rfl (by kernel_rfl) (by kernel_rfl) (by kernel_rfl) (by kernel_rfl) noPanic_false (by kernel_rfl) (fun W hW => x_conv (x := .tmp 32) (v := .slice a1 k1 c1) (by kernel_rfl) (by kernel_rfl) (conv_n c1 HL.out.1 (H2.out.2.2.2.1.after hW))) hS0 ?_
  refine tk 9 34 (.slice a2 k2 c2) (fuel := 7) rfl (by kernel_rfl) (by kernel_rfl) (by kernel_rfl) (by kernel_rfl) noPanic_false (by kernel_rfl) (fun _ _ => by kernel_rfl) hS0 ?_
  refine tk 10 35 (.string (strOf B2)) (fuel := 6) rfl (by kernel_rfl) (by kernel_rfl) (by kernel_rfl) (by kernel_rfl) noPanic_false (by kernel_rfl) (fun W hW => x_conv (x := .tmp 34) (v := .slice a2 k2 c2) (by kernel_rfl) (by kernel_rfl) (conv_n c2 HL.out.2 (H2.out.2.2.2.2.after hW))) hS0 ?_
  refine tk 11 36 (.bool false) (fuel := 5) rfl (by kernel_rfl) (by kernel_rfl) (by kernel_rfl) (by kernel_rfl) noPanic_false (by kernel_rfl) (fun _ _ => x_streqn (x := .tmp 33) (y := .tmp 35) (s := B1) (t := B2) (by kernel_rfl) (by kernel_rfl) (by kernel_rfl) HB.out.1) hS0 ?_
  refine tk 12 37 (cV x d p) (fuel := 4) rfl (by kernel_rfl) (by kernel_rfl) (by kernel_rfl) (by kernel_rfl) noPanic_false (by kernel_rfl) (fun W hW => x_row25 (x := .tmp 3) (g := w.heap.size) (cs := cc x d p) (by kernel_rfl) (by kernel_rfl) (H2.out.2.1.below hW H2.out.2.1.lt) rfl) hS0 ?_
  refine tk 13 38 (cV y d' p') (fuel := 3) rfl (by kernel_rfl) (by kernel_rfl) (by kernel_rfl) (by kernel_rfl) noPanic_false (by kernel_rfl) (fun W hW => x_row25 (x := .tmp 4) (g := w.heap.size + 1) (cs := cc y d' p') (by kernel_rfl) (by kernel_rfl) (H2.out.2.2.1.below hW H2.out.2.2.1.lt) rfl) hS0 ?_
  refine tkCall 14 39 13 #[cV x d p, cV y d' p'] (fun v _ => v = .bool false) (fuel := 2) rfl (by kernel_rfl) (by kernel_rfl) (by kernel_rfl) (fun _ => by kernel_rfl) hS0 ((csame_any x y d p d' p' w2.drew (HF.out.1.after (After.trans H2.out.1 hS0)) (HF.out.2.after (After.trans H2.out.1 hS0))).mono (fun e w' h => ⟨_, h.1, by rw [decide_eq_false HB.out.2], h.2⟩)) ?_
  rintro v u rfl ha
  have HU : Hid (After w u) := After.trans (After.trans H2.out.1 hS0) ha
  clear hS0 ha
  have hS0 := After.refl u
  refine tk 15 40 (.bool false) (fuel := 1) rfl (by kernel_rfl) (by kernel_rfl) (by kernel_rfl) (by kernel_rfl) noPanic_false (by kernel_rfl) (fun _ _ => by kernel_rfl) hS0 ?_
  refine tk 16 41 (.bool false) (fuel := 0) rfl (by kernel_rfl) (by kernel_rfl) (by kernel_rfl) (by kernel_rfl) noPanic_false (by kernel_rfl) (fun _ _ => by kernel_rfl) hS0 ?_
  refine wpAnyH_done (by kernel_rfl) (NoPanic.normal ?_) _
  clear hS0
  go_simp
  go_wp2_with (first
    | (go_at_call 15; refine Calls.mono (awake_any u2 (Tab_after HR.out.tab H2u.out)) ?_; rintro e u3 ⟨rfl, ha⟩; have H3u := show Hid (After w u3) from After.trans H2u.out ha; clear ha)
    | (refine wpList_store_row rfl 25 (.tmp 11) (.tmp 45) rfl u1.heap.size _ rfl rfl 25 _ (RowIs.new u1 25 [.string ⟨#[]⟩, .int .i64 0, .int .i64 0, .slice none 0 0, .string ⟨#[]⟩, .slice none 0 0]) (by kernel_rfl) rfl (by kernel_rfl) ?_; have H2u := show Hid (After w ((u1.alloc (.cells #[.string ⟨#[]⟩, .int .i64 0, .int .i64 0, .slice none 0 0, .string ⟨#[]⟩, .slice none 0 0] 25)).setRow u1.heap.size zc.toArray)) from After.trans H1u.out (Below.row (after_alloc (After.refl u1) _) (Nat.le_refl _) _); obtain ⟨gu, hgu⟩ : ∃ g, u1.heap.size = g := ⟨_, rfl⟩; revert H2u; generalize ((u1.alloc (.cells #[.string ⟨#[]⟩, .int .i64 0, .int .i64 0, .slice none 0 0, .string ⟨#[]⟩, .slice none 0 0] 25)).setRow u1.heap.size zc.toArray) = u2; rw [hgu]; intro H2u; clear hgu)
    | (go_at_call 21; have _u := HU.out; clear _u; refine Calls.mono (get_n ao n c bs HR.out.len HR.out.cap HR.out.nil HR.out.big u (HR.out.at_.after HU.out) HG.out) ?_; rintro e u1 ⟨rfl, ha⟩; have H1u := show Hid (After w u1) from After.trans HU.out ha; clear ha))
  go_ret
  exact ⟨rfl, H3u.out⟩
set_option maxRecDepth 100000 in
set_option maxHeartbeats 2400000 in
theorem capart_Cf_s (x y : Chg) (d p d' p' : Sl) (ao : Option Addr) (n c : Nat) (bs : List UInt8) (w : World) (B1 B2 : List UInt8) (hx : ChAt w x d p) (hy : ChAt w y d' p') (HR : Hid (RawC w ao n c bs)) (hE1 : chgE x = 0) (hE2 : chgE y = 0) (HB : Hid (¬ B1 = B2 ∧ ¬ x = y)) (hB1 : chgB x = B1) (hB2 : chgB y = B2) (z : Chg) (HG : Hid (getC bs = some z ∧ chgE z = 0 ∧ chgB z = bs)) :
    Calls Tryz.prog 7 #[cV x d p, cV y d' p', .slice ao n c] w fun e w' => e = .returned (.bool true) ∧ After w w' := by
  have HF : Hid (ChAt w x d p ∧ ChAt w y d' p') := ⟨hx, hy⟩
  have HE : Hid (chgE x = 0 ∧ chgE y = 0 ∧ chgB x = B1 ∧ chgB y = B2) := ⟨hE1, hE2, hB1, hB2⟩
  obtain ⟨k1, hk1⟩ : ∃ k, B1.length = k := ⟨_, rfl⟩
  obtain ⟨k2, hk2⟩ : ∃ k, B2.length = k := ⟨_, rfl⟩
  have HL : Hid (B1.length = k1 ∧ B2.length = k2) := ⟨hk1, hk2⟩
  obtain ⟨w0, hw0⟩ : ∃ w0, (w.alloc (.cells (cc x d p).toArray 25)).alloc (.cells (cc y d' p').toArray 25) = w0 := ⟨_, rfl⟩
  have H0 : Hid (After w w0 ∧ RowIs w0 w.heap.size 25 (cc x d p) ∧ RowIs w0 (w.heap.size + 1) 25 (cc y d' p')) := by
    refine ⟨by rw [← hw0]; exact after_alloc (after_alloc (After.refl w) _) _, by rw [← hw0]; exact (RowIs.new w 25 (cc x d p)).alloc _, ?_⟩
    have h := RowIs.new (w.alloc (.cells (cc x d p).toArray 25)) 25 (cc y d' p')
    rw [← hw0]
    simpa using h
  clear hx hy hE1 hE2 hB1 hB2 hk1 hk2
  go_enter Tryz.func7, Tryz.ntmps7
  go_wp2_with (first
    | (go_at_call 17; have _u := H1.out; clear _u; refine Calls.mono (cput_k y d' p' w1 (HF.out.2.after H1.out.1) HE.out.2.1 HE.out.2.2.2) ?_; rintro e w2 ⟨v2, rfl, ho, ha⟩; obtain ⟨a2, c2, he2, hat2, _, _⟩ := own_sl ho HL.out.2; subst he2; have H2 := show Hid (After w w2 ∧ RowIs w2 w.heap.size 25 (cc x d p) ∧ RowIs w2 (w.heap.size + 1) 25 (cc y d' p') ∧ BytesAt w2 a1 B1 ∧ BytesAt w2 a2 B2) from ⟨After.trans H1.out.1 ha, H1.out.2.1.below ha H1.out.2.1.lt, H1.out.2.2.1.below ha H1.out.2.2.1.lt, H1.out.2.2.2.after ha, hat2⟩; clear ho ha hat2)
    | (refine wpList_load_row rfl 25 (.tmp 4) rfl (w.heap.size + 1) rfl 25 _ (0, 0) _ H1.out.2.2.1 Tryz.underlying25 rfl (by kernel_rfl) ?_)
    | (go_at_call 17; refine Calls.mono (cput_k x d p w0 (HF.out.1.after H0.out.1) HE.out.1 HE.out.2.2.1) ?_; rintro e w1 ⟨v1, rfl, ho, ha⟩; obtain ⟨a1, c1, he1, hat1, _, _⟩ := own_sl ho HL.out.1; subst he1; have H1 := show Hid (After w w1 ∧ RowIs w1 w.heap.size 25 (cc x d p) ∧ RowIs w1 (w.heap.size + 1) 25 (cc y d' p') ∧ BytesAt w1 a1 B1) from ⟨After.trans H0.out.1 ha, H0.out.2.1.below ha H0.out.2.1.lt, H0.out.2.2.below ha H0.out.2.2.lt, hat1⟩; clear ho ha hat1)
    | (refine wpList_load_row rfl 25 (.tmp 3) rfl w.heap.size rfl 25 _ (0, 0) _ H0.out.2.1 Tryz.underlying25 rfl (by kernel_rfl) ?_))
  refine wp_region_noPanic ?_
  refine wp_region_held_drew (S := After w2) (by kernel_rfl) (After.drew (After.refl w2)) ?_
  intro hS0
  refine tk 0 25 (.int .i64 0) (fuel := 16) rfl (by kernel_rfl) (by kernel_rfl) (by kernel_rfl) (by kernel_rfl) noPanic_false (by kernel_rfl) (fun _ _ => by kernel_rfl) hS0 ?_
  refine tk 1 26 (.bool true) (fuel := 15) rfl (by kernel_rfl) (by kernel_rfl) (by kernel_rfl) (by kernel_rfl) noPanic_false (by kernel_rfl) (fun _ _ => by kernel_rfl) hS0 ?_
  refine tk 2 27 (.bool true) (fuel := 14) rfl (by kernel_rfl) (by kernel_rfl) (by kernel_rfl) (by kernel_rfl) noPanic_false (by kernel_rfl) (fun _ _ => by kernel_rfl) hS0 ?_
  refine tk 3 28 (.int .i64 0) (fuel := 13) rfl (by kernel_rfl) (by kernel_rfl) (by kernel_rfl) (by kernel_rfl) noPanic_false (by kernel_rfl) (fun _ _ => by kernel_rfl) hS0 ?_
  refine tk 4 29 (.bool true) (fuel := 12) rfl (by kernel_rfl) (by kernel_rfl) (by kernel_rfl) (by kernel_rfl) noPanic_false (by kernel_rfl) (fun _ _ => by kernel_rfl) hS0 ?_
  refine tk 5 30 (.bool true) (fuel := 11) rfl (by kernel_rfl) (by kernel_rfl) (by kernel_rfl) (by kernel_rfl) noPanic_false (by kernel_rfl) (fun _ _ => by kernel_rfl) hS0 ?_
  refine tk 6 31 (.bool true) (fuel := 10) rfl (by kernel_rfl) (by kernel_rfl) (by kernel_rfl) (by kernel_rfl) noPanic_false (by kernel_rfl) (fun _ _ => by kernel_rfl) hS0 ?_
  refine tk 7 32 (.slice a1 k1 c1) (fuel := 9) rfl (by kernel_rfl) (by kernel_rfl) (by kernel_rfl) (by kernel_rfl) noPanic_false (by kernel_rfl) (fun _ _ => by kernel_rfl) hS0 ?_
  refine tk 8 33 (.string (strOf B1)) (fuel := 8) rfl (by kernel_rfl) (by kernel_rfl) (by kernel_rfl) (by kernel_rfl) noPanic_false (by kernel_rfl) (fun W hW => x_conv (x := .tmp 32) (v := .slice a1 k1 c1) (by kernel_rfl) (by kernel_rfl) (conv_n c1 HL.out.1 (H2.out.2.2.2.1.after hW))) hS0 ?_
  refine tk 9 34 (.slice a2 k2 c2) (fuel := 7) rfl (by kernel_rfl) (by kernel_rfl) (by kernel_rfl) (by kernel_rfl) noPanic_false (by kernel_rfl) (fun _ _ => by kernel_rfl) hS0 ?_
  refine tk 10 35 (.string (strOf B2)) (fuel := 6) rfl (by kernel_rfl) (by kernel_rfl) (by kernel_rfl) (by kernel_rfl) noPanic_false (by kernel_rfl) (fun W hW => x_conv (x := .tmp 34) (v := .slice a2 k2 c2) (by kernel_rfl) (by kernel_rfl) (conv_n c2 HL.out.2 (H2.out.2.2.2.2.after hW))) hS0 ?_
  refine tk 11 36 (.bool false) (fuel := 5) rfl (by kernel_rfl) (by kernel_rfl) (by kernel_rfl) (by kernel_rfl) noPanic_false (by kernel_rfl) (fun _ _ => x_streqn (x := .tmp 33) (y := .tmp 35) (s := B1) (t := B2) (by kernel_rfl) (by kernel_rfl) (by kernel_rfl) HB.out.1) hS0 ?_
  refine tk 12 37 (cV x d p) (fuel := 4) rfl (by kernel_rfl) (by kernel_rfl) (by kernel_rfl) (by kernel_rfl) noPanic_false (by kernel_rfl) (fun W hW => x_row25 (x := .tmp 3) (g := w.heap.size) (cs := cc x d p) (by kernel_rfl) (by kernel_rfl) (H2.out.2.1.below hW H2.out.2.1.lt) rfl) hS0 ?_
  refine tk 13 38 (cV y d' p') (fuel := 3) rfl (by kernel_rfl) (by kernel_rfl) (by kernel_rfl) (by kernel_rfl) noPanic_false (by kernel_rfl) (fun W hW => x_row25 (x := .tmp 4) (g := w.heap.size + 1) (cs := cc y d' p') (by kernel_rfl) (by kernel_rfl) (H2.out.2.2.1.below hW H2.out.2.2.1.lt) rfl) hS0 ?_
  refine tkCall 14 39 13 #[cV x d p, cV y d' p'] (fun v _ => v = .bool false) (fuel := 2) rfl (by kernel_rfl) (by kernel_rfl) (by kernel_rfl) (fun _ => by kernel_rfl) hS0 ((csame_any x y d p d' p' w2.drew (HF.out.1.after (After.trans H2.out.1 hS0)) (HF.out.2.after (After.trans H2.out.1 hS0))).mono (fun e w' h => ⟨_, h.1, by rw [decide_eq_false HB.out.2], h.2⟩)) ?_
  rintro v u rfl ha
  have HU : Hid (After w u) := After.trans (After.trans H2.out.1 hS0) ha
  clear hS0 ha
  have hS0 := After.refl u
  refine tk 15 40 (.bool false) (fuel := 1) rfl (by kernel_rfl) (by kernel_rfl) (by kernel_rfl) (by kernel_rfl) noPanic_false (by kernel_rfl) (fun _ _ => by kernel_rfl) hS0 ?_
  refine tk 16 41 (.bool false) (fuel := 0) rfl (by kernel_rfl) (by kernel_rfl) (by kernel_rfl) (by kernel_rfl) noPanic_false (by kernel_rfl) (fun _ _ => by kernel_rfl) hS0 ?_
  refine wpAnyH_done (by kernel_rfl) (NoPanic.normal ?_) _
  clear hS0
  go_simp
  go_wp2_with (first
    | (go_at_call 15; have _u := H4u.out; clear _u; refine Calls.mono (awake_any u4 (Tab_after HR.out.tab H4u.out)) ?_; rintro e u5 ⟨rfl, ha⟩; have H5u := show Hid (After w u5) from After.trans H4u.out ha; clear ha)
    | (go_at_call 17; have _u := H2u.out; clear _u; refine Calls.mono (cput_k z d3 p3 u2 H2u.out.2.2 HG.out.2.1 HG.out.2.2) ?_; rintro e u4 ⟨v4, rfl, ho, ha⟩; obtain ⟨a4, c4, he4, hat4, _, _⟩ := own_sl ho HR.out.len; subst he4; have H4u := show Hid (After w u4) from After.trans H2u.out.1 ha; have cv1 : (convert 32 9 (.slice a4 n c4)).run Tryz.prog u4 = .ok (.string (strOf bs)) u4 := conv_n c4 HR.out.len hat4; have cv2 : (convert 32 9 (.slice ao n c)).run Tryz.prog u4 = .ok (.string (strOf bs)) u4 := conv_n c HR.out.len (HR.out.at_.after H4u.out); clear ho ha hat4)
    | (refine wpList_load_row rfl 25 (.tmp 11) rfl gu rfl 25 _ (0, 0) _ H2u.out.2.1 Tryz.underlying25 rfl (by kernel_rfl) ?_)
    | (refine wpList_store_row rfl 25 (.tmp 11) (.tmp 45) rfl u1.heap.size _ rfl rfl 25 _ (RowIs.new u1 25 [.string ⟨#[]⟩, .int .i64 0, .int .i64 0, .slice none 0 0, .string ⟨#[]⟩, .slice none 0 0]) (by kernel_rfl) rfl (by kernel_rfl) ?_; have H2u := show Hid (After w ((u1.alloc (.cells #[.string ⟨#[]⟩, .int .i64 0, .int .i64 0, .slice none 0 0, .string ⟨#[]⟩, .slice none 0 0] 25)).setRow u1.heap.size (cc z d3 p3).toArray) ∧ RowIs ((u1.alloc (.cells #[.string ⟨#[]⟩, .int .i64 0, .int .i64 0, .slice none 0 0, .string ⟨#[]⟩, .slice none 0 0] 25)).setRow u1.heap.size (cc z d3 p3).toArray) u1.heap.size 25 (cc z d3 p3) ∧ ChAt ((u1.alloc (.cells #[.string ⟨#[]⟩, .int .i64 0, .int .i64 0, .slice none 0 0, .string ⟨#[]⟩, .slice none 0 0] 25)).setRow u1.heap.size (cc z d3 p3).toArray) z d3 p3) from ⟨After.trans H1u.out.1 (Below.row (after_alloc (After.refl u1) _) (Nat.le_refl _) _), RowIs.setRow (RowIs.new u1 25 [.string ⟨#[]⟩, .int .i64 0, .int .i64 0, .slice none 0 0, .string ⟨#[]⟩, .slice none 0 0]) _, H1u.out.2.after (Below.row (after_alloc (After.refl u1) _) (Nat.le_refl _) _)⟩; obtain ⟨gu, hgu⟩ : ∃ g, u1.heap.size = g := ⟨_, rfl⟩; revert H2u; generalize ((u1.alloc (.cells #[.string ⟨#[]⟩, .int .i64 0, .int .i64 0, .slice none 0 0, .string ⟨#[]⟩, .slice none 0 0] 25)).setRow u1.heap.size (cc z d3 p3).toArray) = u2; rw [hgu]; intro H2u; clear hgu)
    | (go_at_call 21; have _u := HU.out; clear _u; refine Calls.mono (get_c ao n c bs HR.out.len HR.out.cap HR.out.nil HR.out.big u (HR.out.at_.after HU.out) HG.out.1) ?_; rintro e u1 ⟨d3, p3, he, ha, hch⟩; subst he; have H1u := show Hid (After w u1 ∧ ChAt u1 z d3 p3) from ⟨After.trans HU.out ha, hch⟩; clear ha hch))
  go_ret
  exact ⟨rfl, H5u.out⟩
theorem capart_any (x y : Chg) (d p d' p' : Sl) (ao : Option Addr) (n c : Nat) (bs : List UInt8) (w : World) (hx : ChAt w x d p) (hy : ChAt w y d' p') (HR : Hid (RawC w ao n c bs)) :
    Calls Tryz.prog 7 #[cV x d p, cV y d' p', .slice ao n c] w fun e w' => e = .returned (.bool true) ∧ After w w' := by
  have hin : chgE x = 0 → chgE y = 0 → (chgB x = chgB y ↔ x = y) := fun h1 h2 => by
    unfold chgB
    rw [if_pos h1, if_pos h2]
    exact ⟨fun e => layC_inj ⟨chgE_zero.1 h1, hx.d32, hx.ok⟩ ⟨chgE_zero.1 h2, hy.d32, hy.ok⟩ e, fun e => by rw [e]⟩
  cases hg : getC bs with
  | none =>
    by_cases h1 : chgE x = 0
    case neg => exact capart_A_n x y d p d' p' ao n c bs w _ _ hx hy HR h1 rfl rfl rfl rfl hg
    by_cases h2 : chgE y = 0
    case neg => exact capart_B_n x y d p d' p' ao n c bs w _ _ hx hy HR h2 h1 rfl rfl rfl hg
    by_cases h3 : x = y
    · exact capart_Ct_n x y d p d' p' ao n c bs w _ _ hx hy HR h1 h2 ⟨(hin h1 h2).2 h3, h3⟩ rfl rfl hg
    · exact capart_Cf_n x y d p d' p' ao n c bs w _ _ hx hy HR h1 h2 ⟨fun e => h3 ((hin h1 h2).1 e), h3⟩ rfl rfl hg
  | some z =>
    have hz := getC_some hg
    have HG : Hid (getC bs = some z ∧ chgE z = 0 ∧ chgB z = bs) := ⟨hg, hz.1, by unfold chgB; rw [if_pos hz.1, hz.2]⟩
    by_cases h1 : chgE x = 0
    case neg => exact capart_A_s x y d p d' p' ao n c bs w _ _ hx hy HR h1 rfl rfl rfl rfl z HG
    by_cases h2 : chgE y = 0
    case neg => exact capart_B_s x y d p d' p' ao n c bs w _ _ hx hy HR h2 h1 rfl rfl rfl z HG
    by_cases h3 : x = y
    · exact capart_Ct_s x y d p d' p' ao n c bs w _ _ hx hy HR h1 h2 ⟨(hin h1 h2).2 h3, h3⟩ rfl rfl z HG
    · exact capart_Cf_s x y d p d' p' ao n c bs w _ _ hx hy HR h1 h2 ⟨fun e => h3 ((hin h1 h2).1 e), h3⟩ rfl rfl z HG
end Go.Proofs.YtgmdolpjkaajfaaGreatDoor
