/-
  THE WALK OF stemmalaw08.ChangePuts.
-/
import Derived.Test.YtgmdolpjkaajfaaGreatDoorCR
import Derived.Test.YtgmdolpjkaajfaaGreatDoorCY
import Derived.Test.YtgmdolpjkaajfaaGreatDoorCZ
namespace Go.Proofs.YtgmdolpjkaajfaaGreatDoor
open Go.RowKit Leb
theorem x_ieqp {o : Oper} {a : Act} {x y : Operand} {w : World} {t : TypeId} {z : Int} (hop : o.op = .binOp .eql t x y t) (hx : a.eval x = .int .i64 z) (hy : a.eval y = .int .i64 z) : (execOp a.eval o).run Tryz.prog w = .ok (.value (.bool true)) w := by
  unfold execOp; simp only [hop, hx, hy]; simp [go_sem]
theorem x_heq {o : Oper} {a : Act} {x y : Operand} {w : World} {s : List UInt8} (hs : s.length = 32) (hop : o.op = .binOp .eql 38 x y 38) (hx : a.eval x = .agg (c8 s).toArray) (hy : a.eval y = .agg (c8 s).toArray) : (execOp a.eval o).run Tryz.prog w = .ok (.value (.bool true)) w := by
  have he := HS.eq24 s s hs hs w
  rw [decide_eq_true rfl] at he
  have hm : Tryz.prog.eqGuardType Tryz.prog.depth 38 = false := by kernel_rfl
  unfold execOp
  simp only [hop, hx, hy, Sem.run_bind, run_eqGuard_agg w .eql 38 x y _ _ hm, run_eql_struct, he, Result.andThen_ok]
  rfl
theorem conv_m {W : World} {ao : Option Addr} {bs : List UInt8} {n : Nat} (cap : Nat) (hn : bs.length = n) (h : BytesAt W ao bs) : (convert 32 9 (.slice ao n cap)).run Tryz.prog W = .ok (.string (strOf bs)) W := by
  rw [← hn]; exact conv_at cap h
set_option maxRecDepth 100000 in
set_option maxHeartbeats 4000000 in
theorem cputs_any (x : Chg) (d p : Sl) (w : World) (hx : ChAt w x d p) (hdb : d.n * 32 ≤ 140737488355328) (hpb : p.n * 56 ≤ 140737488355328) (ht : SH.Tab w) :
    Calls Tryz.prog 4 #[cV x d p] w fun e w' => e = .returned (.bool true) ∧ After w w' := by
  have HF : Hid (ChAt w x d p ∧ SH.Tab w) := ⟨hx, ht⟩
  obtain ⟨q, hq⟩ : ∃ q, chgE x = q := ⟨_, rfl⟩
  obtain ⟨B, hB⟩ : ∃ B, chgB x = B := ⟨_, rfl⟩
  obtain ⟨k, hk⟩ : ∃ k, B.length = k := ⟨_, rfl⟩
  obtain ⟨S, hS⟩ : ∃ S, hashC x = S := ⟨_, rfl⟩
  have hSl : S.length = 32 := by rw [← hS]; exact hashC_len x
  have HQ : Hid (chgE x = q ∧ chgB x = B ∧ B.length = k) := ⟨hq, hB, hk⟩
  have HS' : Hid (hashC x = S ∧ S.length = 32) := ⟨hS, hSl⟩
  obtain ⟨w0, hw0⟩ : ∃ w0, w.alloc (.cells (cc x d p).toArray 25) = w0 := ⟨_, rfl⟩
  have H0 : Hid (After w w0 ∧ RowIs w0 w.heap.size 25 (cc x d p)) := by
    rw [← hw0]; exact ⟨after_alloc (After.refl w) _, RowIs.new w 25 (cc x d p)⟩
  have HC := show Hid _ from copy_any x d p w0 (hx.after H0.out.1) hdb hpb
  clear hx ht hq hB hk hS hSl hdb hpb
  go_enter Tryz.func4, Tryz.ntmps4
  go_wp2_with (first
    | (go_at_call 18; refine Calls.mono (rputC_any x d p w3 (HF.out.1.after H3.out.1) HQ.out.1 HQ.out.2.1) ?_; rintro e w4 ⟨v4, rfl, ho, ha⟩; obtain ⟨a4, c4, he4, hat4, _, _⟩ := own_sl ho HQ.out.2.2; subst he4; have H4 := show Hid (After w w4 ∧ RowIs w4 w.heap.size 25 (cc x d p) ∧ RowIs w4 g2 25 (cc x d' p') ∧ ChAt w4 x d' p' ∧ BytesAt w4 a3 B ∧ BytesAt w4 a4 B) from ⟨After.trans H3.out.1 ha, H3.out.2.1.below ha H3.out.2.1.lt, H3.out.2.2.1.below ha H3.out.2.2.1.lt, H3.out.2.2.2.1.after ha, H3.out.2.2.2.2.after ha, hat4⟩; clear ho ha hat4)
    | (refine wpListG_of_run rfl (x_row25 (x := .tmp 1) (g := w.heap.size) (cs := cc x d p) rfl rfl H3.out.2.1 rfl) ?_)
    | (go_at_call 17; refine Calls.mono (cput_k x d' p' w2 H2.out.2.2.1 HQ.out.1 HQ.out.2.1) ?_; rintro e w3 ⟨v3, rfl, ho, ha⟩; obtain ⟨a3, c3, he3, hat3, _, _⟩ := own_sl ho HQ.out.2.2; subst he3; have H3 := show Hid (After w w3 ∧ RowIs w3 w.heap.size 25 (cc x d p) ∧ RowIs w3 g2 25 (cc x d' p') ∧ ChAt w3 x d' p' ∧ BytesAt w3 a3 B) from ⟨After.trans H2.out.1 ha, H2.out.2.1.below ha H2.out.2.1.lt, H2.out.2.2.2.below ha H2.out.2.2.2.lt, H2.out.2.2.1.after ha, hat3⟩; clear ho ha hat3)
    | (refine wpListG_of_run rfl (x_row25 (x := .tmp 3) (g := g2) (cs := cc x d' p') rfl rfl H2.out.2.2.2 rfl) ?_)
    | (refine wpList_store_row rfl 25 (.tmp 3) (.tmp 9) rfl w1.heap.size _ rfl rfl 25 _ (RowIs.new w1 25 [.string ⟨#[]⟩, .int .i64 0, .int .i64 0, .slice none 0 0, .string ⟨#[]⟩, .slice none 0 0]) (by kernel_rfl) rfl (by kernel_rfl) ?_; have H2 := show Hid (After w ((w1.alloc (.cells #[.string ⟨#[]⟩, .int .i64 0, .int .i64 0, .slice none 0 0, .string ⟨#[]⟩, .slice none 0 0] 25)).setRow w1.heap.size (cc x d' p').toArray) ∧ RowIs ((w1.alloc (.cells #[.string ⟨#[]⟩, .int .i64 0, .int .i64 0, .slice none 0 0, .string ⟨#[]⟩, .slice none 0 0] 25)).setRow w1.heap.size (cc x d' p').toArray) w.heap.size 25 (cc x d p) ∧ ChAt ((w1.alloc (.cells #[.string ⟨#[]⟩, .int .i64 0, .int .i64 0, .slice none 0 0, .string ⟨#[]⟩, .slice none 0 0] 25)).setRow w1.heap.size (cc x d' p').toArray) x d' p' ∧ RowIs ((w1.alloc (.cells #[.string ⟨#[]⟩, .int .i64 0, .int .i64 0, .slice none 0 0, .string ⟨#[]⟩, .slice none 0 0] 25)).setRow w1.heap.size (cc x d' p').toArray) w1.heap.size 25 (cc x d' p')) from ⟨Below.row (after_alloc H1.out.1 _) H1.out.1.size _, (H1.out.2.1.alloc _).setRow_other _ (Nat.ne_of_lt H1.out.2.1.lt), H1.out.2.2.after (Below.row (after_alloc (After.refl w1) _) (Nat.le_refl _) _), RowIs.setRow (RowIs.new w1 25 [.string ⟨#[]⟩, .int .i64 0, .int .i64 0, .slice none 0 0, .string ⟨#[]⟩, .slice none 0 0]) _⟩; obtain ⟨g2, hg2⟩ : ∃ g, w1.heap.size = g := ⟨_, rfl⟩; revert H2; generalize (w1.alloc (.cells #[.string ⟨#[]⟩, .int .i64 0, .int .i64 0, .slice none 0 0, .string ⟨#[]⟩, .slice none 0 0] 25)).setRow w1.heap.size (cc x d' p').toArray = w2; rw [hg2]; intro H2; clear hg2)
    | (go_at_call 16; refine Calls.mono HC.out ?_; rintro e w1 ⟨d', p', he, hch, ha⟩; subst he; have H1 := show Hid (After w w1 ∧ RowIs w1 w.heap.size 25 (cc x d p) ∧ ChAt w1 x d' p') from ⟨After.trans H0.out.1 ha, H0.out.2.below ha H0.out.2.lt, hch⟩; clear ha hch)
    | (refine wpListG_of_run rfl (x_row25 (x := .tmp 1) (g := w.heap.size) (cs := cc x d p) rfl rfl H0.out.2 rfl) ?_))
  have C19 : Hid (∀ W, After w4 W → Calls Tryz.prog 19 #[cV x d' p'] W fun e w' => ∃ v, e = .returned v ∧ (v = .agg (c8 S).toArray) ∧ After W w') := fun W hW => Calls.mono (hash_any x d' p' W (H4.out.2.2.2.1.after hW) (Tab_after HF.out.2 (After.trans H4.out.1 hW))) (by rintro e w' ⟨rfl, ha⟩; exact ⟨_, rfl, by rw [HS'.out.1], ha⟩)
  have C20 : Hid (∀ W, After w4 W → Calls Tryz.prog 20 #[cV x d p] W fun e w' => ∃ v, e = .returned v ∧ (v = .agg (c8 S).toArray) ∧ After W w') := fun W hW => Calls.mono (rhash_any x d p W (HF.out.1.after (After.trans H4.out.1 hW))) (by rintro e w' ⟨rfl, ha⟩; exact ⟨_, rfl, by rw [HS'.out.1], ha⟩)
  have C14 : Hid (∀ W, After w4 W → Calls Tryz.prog 14 #[cV x d' p', cV x d p] W fun e w' => ∃ v, e = .returned v ∧ (v = .bool true) ∧ After W w') := fun W hW => Calls.mono (rsame_eq x d' p' d p W (H4.out.2.2.2.1.after hW) (HF.out.1.after (After.trans H4.out.1 hW))) (by rintro e w' ⟨rfl, ha⟩; exact ⟨_, rfl, rfl, ha⟩)
  have C15 : Hid (∀ W, After w4 W → Calls Tryz.prog 15 #[] W fun e w' => ∃ v, e = .returned v ∧ (v = .bool true) ∧ After W w') := fun W hW => Calls.mono (awake_any W (Tab_after HF.out.2 (After.trans H4.out.1 hW))) (by rintro e w' ⟨rfl, ha⟩; exact ⟨_, rfl, rfl, ha⟩)
  refine wp_region_noPanic ?_
  refine wp_region_held_drew (S := After w4) (by kernel_rfl) (After.drew (After.refl w4)) ?_
  intro hS0
  refine tk 0 20 (.slice a3 k c3) (fuel := 25) rfl (by kernel_rfl) (by kernel_rfl) (by kernel_rfl) (by kernel_rfl) noPanic_false (by kernel_rfl) (fun _ _ => by kernel_rfl) hS0 ?_
  refine tk 2 22 (.slice a4 k c4) (fuel := 24) rfl (by kernel_rfl) (by kernel_rfl) (by kernel_rfl) (by kernel_rfl) noPanic_false (by kernel_rfl) (fun _ _ => by kernel_rfl) hS0 ?_
  refine tk 1 21 (.string (strOf B)) (fuel := 23) rfl (by kernel_rfl) (by kernel_rfl) (by kernel_rfl) (by kernel_rfl) noPanic_false (by kernel_rfl) (fun W hW => x_conv (x := .tmp 20) (v := .slice a3 k c3) (by kernel_rfl) (by kernel_rfl) (conv_m c3 HQ.out.2.2 (H4.out.2.2.2.2.1.after hW))) hS0 ?_
  refine tk 3 23 (.string (strOf B)) (fuel := 22) rfl (by kernel_rfl) (by kernel_rfl) (by kernel_rfl) (by kernel_rfl) noPanic_false (by kernel_rfl) (fun W hW => x_conv (x := .tmp 22) (v := .slice a4 k c4) (by kernel_rfl) (by kernel_rfl) (conv_m c4 HQ.out.2.2 (H4.out.2.2.2.2.2.after hW))) hS0 ?_
  refine tk 4 24 (.bool true) (fuel := 21) rfl (by kernel_rfl) (by kernel_rfl) (by kernel_rfl) (by kernel_rfl) noPanic_false (by kernel_rfl) (fun W _ => x_streq (s := strOf B) (t := strOf B) (x := .tmp 21) (y := .tmp 23) (by kernel_rfl) (by kernel_rfl) (by kernel_rfl) rfl) hS0 ?_
  refine tk 5 25 (.bool true) (fuel := 20) rfl (by kernel_rfl) (by kernel_rfl) (by kernel_rfl) (by kernel_rfl) noPanic_false (by kernel_rfl) (fun _ _ => by kernel_rfl) hS0 ?_
  refine tk 6 26 (.int .i64 (q : Int)) (fuel := 19) rfl (by kernel_rfl) (by kernel_rfl) (by kernel_rfl) (by kernel_rfl) noPanic_false (by kernel_rfl) (fun _ _ => by kernel_rfl) hS0 ?_
  refine tk 7 27 (.int .i64 (q : Int)) (fuel := 18) rfl (by kernel_rfl) (by kernel_rfl) (by kernel_rfl) (by kernel_rfl) noPanic_false (by kernel_rfl) (fun _ _ => by kernel_rfl) hS0 ?_
  refine tk 8 28 (.bool true) (fuel := 17) rfl (by kernel_rfl) (by kernel_rfl) (by kernel_rfl) (by kernel_rfl) noPanic_false (by kernel_rfl) (fun W _ => x_ieqp (t := 3) (z := (q : Int)) (x := .tmp 26) (y := .tmp 27) (by kernel_rfl) (by kernel_rfl) (by kernel_rfl)) hS0 ?_
  refine tk 9 29 (.bool true) (fuel := 16) rfl (by kernel_rfl) (by kernel_rfl) (by kernel_rfl) (by kernel_rfl) noPanic_false (by kernel_rfl) (fun _ _ => by kernel_rfl) hS0 ?_
  refine tk 10 30 (.bool true) (fuel := 15) rfl (by kernel_rfl) (by kernel_rfl) (by kernel_rfl) (by kernel_rfl) noPanic_false (by kernel_rfl) (fun _ _ => by kernel_rfl) hS0 ?_
  refine tk 11 31 (cV x d' p') (fuel := 14) rfl (by kernel_rfl) (by kernel_rfl) (by kernel_rfl) (by kernel_rfl) noPanic_false (by kernel_rfl) (fun W hW => x_row25 (x := .tmp 3) (g := g2) (cs := cc x d' p') (by kernel_rfl) (by kernel_rfl) (H4.out.2.2.1.below hW H4.out.2.2.1.lt) rfl) hS0 ?_
  refine tk 13 33 (cV x d p) (fuel := 13) rfl (by kernel_rfl) (by kernel_rfl) (by kernel_rfl) (by kernel_rfl) noPanic_false (by kernel_rfl) (fun W hW => x_row25 (x := .tmp 1) (g := w.heap.size) (cs := cc x d p) (by kernel_rfl) (by kernel_rfl) (H4.out.2.1.below hW H4.out.2.1.lt) rfl) hS0 ?_
  refine tkCallK 12 32 19 #[cV x d' p'] (fun v _ => v = .agg (c8 S).toArray) (fuel := 12) rfl (by kernel_rfl) (by kernel_rfl) (by kernel_rfl) (fun _ => by kernel_rfl) hS0 (C19.out _ hS0) ?_
  rintro v12 w5 rfl _ hS12
  refine tkCallK 14 34 20 #[cV x d p] (fun v _ => v = .agg (c8 S).toArray) (fuel := 11) rfl (by kernel_rfl) (by kernel_rfl) (by kernel_rfl) (fun _ => by kernel_rfl) hS12 (C20.out _ hS12) ?_
  rintro v14 w6 rfl _ hS14
  refine tk 15 35 (.bool true) (fuel := 10) rfl (by kernel_rfl) (by kernel_rfl) (by kernel_rfl) (by kernel_rfl) noPanic_false (by kernel_rfl) (fun W _ => x_heq (s := S) (x := .tmp 32) (y := .tmp 34) HS'.out.2 (by kernel_rfl) (by kernel_rfl) (by kernel_rfl)) hS14 ?_
  refine tk 16 36 (.bool true) (fuel := 9) rfl (by kernel_rfl) (by kernel_rfl) (by kernel_rfl) (by kernel_rfl) noPanic_false (by kernel_rfl) (fun _ _ => by kernel_rfl) hS14 ?_
  refine tk 17 37 (.bool true) (fuel := 8) rfl (by kernel_rfl) (by kernel_rfl) (by kernel_rfl) (by kernel_rfl) noPanic_false (by kernel_rfl) (fun _ _ => by kernel_rfl) hS14 ?_
  refine tk 18 38 (cV x d' p') (fuel := 7) rfl (by kernel_rfl) (by kernel_rfl) (by kernel_rfl) (by kernel_rfl) noPanic_false (by kernel_rfl) (fun W hW => x_row25 (x := .tmp 3) (g := g2) (cs := cc x d' p') (by kernel_rfl) (by kernel_rfl) (H4.out.2.2.1.below hW H4.out.2.2.1.lt) rfl) hS14 ?_
  refine tk 19 39 (cV x d p) (fuel := 6) rfl (by kernel_rfl) (by kernel_rfl) (by kernel_rfl) (by kernel_rfl) noPanic_false (by kernel_rfl) (fun W hW => x_row25 (x := .tmp 1) (g := w.heap.size) (cs := cc x d p) (by kernel_rfl) (by kernel_rfl) (H4.out.2.1.below hW H4.out.2.1.lt) rfl) hS14 ?_
  refine tkCallK 20 40 14 #[cV x d' p', cV x d p] (fun v _ => v = .bool true) (fuel := 5) rfl (by kernel_rfl) (by kernel_rfl) (by kernel_rfl) (fun _ => by kernel_rfl) hS14 (C14.out _ hS14) ?_
  rintro v20 w7 rfl _ hS20
  refine tk 21 41 (.bool true) (fuel := 4) rfl (by kernel_rfl) (by kernel_rfl) (by kernel_rfl) (by kernel_rfl) noPanic_false (by kernel_rfl) (fun _ _ => by kernel_rfl) hS20 ?_
  refine tk 22 42 (.bool true) (fuel := 3) rfl (by kernel_rfl) (by kernel_rfl) (by kernel_rfl) (by kernel_rfl) noPanic_false (by kernel_rfl) (fun _ _ => by kernel_rfl) hS20 ?_
  refine tkCallK 23 43 15 #[] (fun v _ => v = .bool true) (fuel := 2) rfl (by kernel_rfl) (by kernel_rfl) (by kernel_rfl) (fun _ => by kernel_rfl) hS20 (C15.out _ hS20) ?_
  rintro v23 w8 rfl _ hS23
  refine tk 24 44 (.bool true) (fuel := 1) rfl (by kernel_rfl) (by kernel_rfl) (by kernel_rfl) (by kernel_rfl) noPanic_false (by kernel_rfl) (fun _ _ => by kernel_rfl) hS23 ?_
  refine tk 25 2 (.bool true) (fuel := 0) rfl (by kernel_rfl) (by kernel_rfl) (by kernel_rfl) (by kernel_rfl) noPanic_false (by kernel_rfl) (fun _ _ => by kernel_rfl) hS23 ?_
  refine wpAnyH_done (by kernel_rfl) (NoPanic.normal ?_) _
  have HE : Hid (After w w8) := After.trans H4.out.1 hS23
  clear hS23
  go_simp
  go_wp2
  go_ret
  exact ⟨rfl, HE.out⟩
end Go.Proofs.YtgmdolpjkaajfaaGreatDoor
