/-
  THE WALKS OF change.Check, change.Same (of equal ones) AND stemmalaw08.ChangeBack.
-/
import Derived.Test.YtgmdolpjkaajfaaGreatDoorCG
namespace Go.Proofs.YtgmdolpjkaajfaaGreatDoor
open Go.RowKit Leb
set_option maxRecDepth 100000 in
set_option maxHeartbeats 2400000 in
theorem ccheck_any (x : Chg) (d p : Sl) (w : World) (hx : ChAt w x d p) {q : Nat} (hq : chgE x = q) :
    Calls Tryz.prog 9 #[cV x d p] w fun e w' => e = .returned (.int .i64 (q : Int)) ∧ After w w' := by
  have HF : Hid (ChAt w x d p) := hx
  obtain ⟨B, hB⟩ : ∃ B, chgB x = B := ⟨_, rfl⟩
  obtain ⟨k, hk⟩ : ∃ k, B.length = k := ⟨_, rfl⟩
  have HQ : Hid (chgE x = q ∧ chgB x = B ∧ B.length = k) := ⟨hq, hB, hk⟩
  obtain ⟨w0, hw0⟩ : ∃ w0, w.alloc (.cells (cc x d p).toArray 25) = w0 := ⟨_, rfl⟩
  have H0 : Hid (After w w0 ∧ RowIs w0 w.heap.size 25 (cc x d p)) := by
    rw [← hw0]; exact ⟨after_alloc (After.refl w) _, RowIs.new w 25 (cc x d p)⟩
  clear hx hq hB hk
  go_enter Tryz.func9, Tryz.ntmps9
  go_wp2_with (first
    | (go_at_call 17; refine Calls.mono (cput_k x d p w0 (HF.out.after H0.out.1) HQ.out.1 HQ.out.2.1) ?_; rintro e w1 ⟨v1, rfl, ho, ha⟩; obtain ⟨a1, c1, he1, _, _, _⟩ := own_sl ho HQ.out.2.2; subst he1; have H1 := show Hid (After w w1) from After.trans H0.out.1 ha; clear ho ha)
    | (refine wpList_load_row rfl 25 (.tmp 1) rfl w.heap.size rfl 25 _ (0, 0) _ H0.out.2 Tryz.underlying25 rfl (by kernel_rfl) ?_))
  go_ret
  exact ⟨rfl, H1.out⟩

set_option maxRecDepth 100000 in
set_option maxHeartbeats 2400000 in
theorem csame_eq (x : Chg) (d p d' p' : Sl) (w : World) (h : ChAt w x d p) (h' : ChAt w x d' p') :
    Calls Tryz.prog 13 #[cV x d p, cV x d' p'] w fun e w' => e = .returned (.bool true) ∧ After w w' := by
  have HF : Hid (ChAt w x d p ∧ ChAt w x d' p') := ⟨h, h'⟩
  clear h h'
  obtain ⟨au, sq, st, ds, nt, os⟩ := x
  go_enter Tryz.func13, Tryz.ntmps13
  go_wp2_with (first
    | (go_at_call 28; refine Calls.mono (same19 p.a p'.a p.c p'.c os os p.n p'.n HF.out.1.pn HF.out.2.pn HF.out.1.pb w1 (HF.out.1.ops.after H1.out) (HF.out.2.ops.after H1.out)) ?_; rw [decide_eq_true rfl]; rintro e w2 ⟨rfl, ha⟩; have H2 := show Hid (After w w2) from After.trans H1.out ha; clear ha)
    | (go_at_call 27; refine Calls.mono (HS.same17 d.a d'.a d.c d'.c ds ds HF.out.1.d32 HF.out.2.d32 d.n d'.n HF.out.1.dn HF.out.2.dn HF.out.1.db _ (HF.out.1.deps.after (after_alloc (after_alloc (After.refl w) _) _)) (HF.out.2.deps.after (after_alloc (after_alloc (After.refl w) _) _))) ?_; rw [decide_eq_true rfl]; rintro e w1 ⟨rfl, ha⟩; have hb0 := (RowIs.new w 25 [.string (strOf au), .int .i64 sq, .int .i64 st, .slice d.a d.n d.c, .string (strOf nt), .slice p.a p.n p.c]).alloc (.cells #[.string (strOf au), .int .i64 sq, .int .i64 st, .slice d'.a d'.n d'.c, .string (strOf nt), .slice p'.a p'.n p'.c] 25); have hb1 := RowIs.new (w.alloc (.cells #[.string (strOf au), .int .i64 sq, .int .i64 st, .slice d.a d.n d.c, .string (strOf nt), .slice p.a p.n p.c] 25)) 25 [.string (strOf au), .int .i64 sq, .int .i64 st, .slice d'.a d'.n d'.c, .string (strOf nt), .slice p'.a p'.n p'.c]; have r0 := hb0.below ha hb0.lt; have r1 := hb1.below ha hb1.lt; rw [show (w.alloc (.cells #[.string (strOf au), .int .i64 sq, .int .i64 st, .slice d.a d.n d.c, .string (strOf nt), .slice p.a p.n p.c] 25)).heap.size = w.heap.size + 1 by simp] at r1; have f4 := r0.cell (j := 4) rfl; have f5 := r0.cell (j := 5) rfl; have e4 := r1.cell (j := 4) rfl; have e5 := r1.cell (j := 5) rfl; have H1 := show Hid (After w w1) from After.trans (after_alloc (after_alloc (After.refl w) _) _) ha; clear ha hb0 hb1 r0 r1))
  go_ret
  exact ⟨rfl, H2.out⟩

/-- A change of which Put gave its bytes: in a place, with one that was read of it. -/
structure BkI (w : World) (x : Chg) (d p : Sl) (B : List UInt8) (b1 o1 : Nat) (d2 p2 : Sl) (g3 : Nat) (W : World) : Prop where
  aft : After w W
  r0 : RowIs W w.heap.size 25 (cc x d p)
  r3 : RowIs W g3 25 (cc x d2 p2)
  b : BytesAt W (some ⟨b1, o1, none⟩) B
  c : ChAt W x d2 p2
theorem BkI.after {w : World} {x : Chg} {d p : Sl} {B : List UInt8} {b1 o1 : Nat} {d2 p2 : Sl} {g3 : Nat} {W W' : World} (h : BkI w x d p B b1 o1 d2 p2 g3 W) (ha : After W W') : BkI w x d p B b1 o1 d2 p2 g3 W' :=
  ⟨After.trans h.aft ha, h.r0.below ha h.r0.lt, h.r3.below ha h.r3.lt, h.b.after ha, h.c.after ha⟩
theorem cput_some (x : Chg) (d p : Sl) (w : World) (hx : ChAt w x d p) {B : List UInt8} (hq : chgE x = 0) (hB : chgB x = B) {k : Nat} (hk : B.length = k) (hp : 0 < k) :
    Calls Tryz.prog 17 #[cV x d p] w fun e w' => ∃ b o c, e = .returned (.tuple #[.slice (some ⟨b, o, none⟩) k c, .int .i64 0]) ∧ BytesAt w' (some ⟨b, o, none⟩) B ∧ k ≤ c ∧ After w w' := by
  refine Calls.mono (cput_k x d p w hx hq hB) ?_
  rintro e w' ⟨v, rfl, ho, ha⟩
  obtain ⟨a, c, rfl, h1, h2, _⟩ := own_sl ho hk
  obtain ⟨b, o, rfl, _⟩ := h1 (fun e => by rw [e] at hk; simp at hk; omega)
  exact ⟨b, o, c, rfl, h1, h2, ha⟩

set_option maxRecDepth 100000 in
set_option maxHeartbeats 2400000 in
theorem cback_bad (x : Chg) (d p : Sl) (w : World) (hx : ChAt w x d p) (ht : SH.Tab w) (hq0 : ¬ chgE x = 0) :
    Calls Tryz.prog 6 #[cV x d p] w fun e w' => e = .returned (.bool true) ∧ After w w' := by
  have HF : Hid (ChAt w x d p ∧ SH.Tab w) := ⟨hx, ht⟩
  obtain ⟨q, hq⟩ : ∃ q, chgE x = q := ⟨_, rfl⟩
  have HQ : Hid (chgE x = q ∧ chgB x = []) := ⟨hq, by unfold chgB; rw [if_neg hq0]⟩
  rw [hq] at hq0
  obtain ⟨S, hS⟩ : ∃ S, hashC x = S := ⟨_, rfl⟩
  have heq : ∀ W : World, (Op.equalIn 10000 38 (.agg (c8 S).toArray) (.agg #[.int .u8 0, .int .u8 0, .int .u8 0, .int .u8 0, .int .u8 0, .int .u8 0, .int .u8 0, .int .u8 0, .int .u8 0, .int .u8 0, .int .u8 0, .int .u8 0, .int .u8 0, .int .u8 0, .int .u8 0, .int .u8 0, .int .u8 0, .int .u8 0, .int .u8 0, .int .u8 0, .int .u8 0, .int .u8 0, .int .u8 0, .int .u8 0, .int .u8 0, .int .u8 0, .int .u8 0, .int .u8 0, .int .u8 0, .int .u8 0, .int .u8 0, .int .u8 0])).run Tryz.prog W = .ok true W := fun W => by
    have h := HS.eq24 S zeroHash (by rw [← hS]; exact hashC_len _) rfl W
    rw [decide_eq_true (by rw [← hS]; unfold hashC; rw [hq, if_neg hq0])] at h
    exact h
  have HS' : Hid (hashC x = S) := hS
  obtain ⟨w0, hw0⟩ : ∃ w0, w.alloc (.cells (cc x d p).toArray 25) = w0 := ⟨_, rfl⟩
  have H0 : Hid (After w w0 ∧ RowIs w0 w.heap.size 25 (cc x d p)) := by
    rw [← hw0]; exact ⟨after_alloc (After.refl w) _, RowIs.new w 25 (cc x d p)⟩
  have fi : ¬ (q : Int) = 0 := by omega
  have fb : ((q : Int) == 0) = false := beq_eq_false_iff_ne.2 fi
  have fn : ((q : Int) != 0) = true := by simp [bne, fb]
  clear hx ht hq hS
  go_enter Tryz.func6, Tryz.ntmps6
  go_wp2_with (first
    | (go_at_call 15; refine Calls.mono (awake_any w3 (Tab_after HF.out.2 H3.out)) ?_; rintro e w4 ⟨rfl, ha⟩; have H4 := show Hid (After w w4) from After.trans H3.out ha; clear ha)
    | (go_at_call 19; refine Calls.mono (hash_any x d p w2 (HF.out.1.after H2.out.1) (Tab_after HF.out.2 H2.out.1)) ?_; rw [HS'.out]; rintro e w3 ⟨rfl, ha⟩; have H3 := show Hid (After w w3) from After.trans H2.out.1 ha; clear ha)
    | (have _u := H2.out; clear _u; refine wpListG_of_run rfl (x_row25 (x := .tmp 1) (g := w.heap.size) (cs := cc x d p) rfl rfl H2.out.2 rfl) ?_)
    | (go_at_call 9; refine Calls.mono (ccheck_any x d p w1 (HF.out.1.after H1.out.1) HQ.out.1) ?_; rintro e w2 ⟨rfl, ha⟩; have H2 := show Hid (After w w2 ∧ RowIs w2 w.heap.size 25 (cc x d p)) from ⟨After.trans H1.out.1 ha, H1.out.2.below ha H1.out.2.lt⟩; clear ha)
    | (refine wpList_load_row rfl 25 (.tmp 1) rfl w.heap.size rfl 25 _ (0, 0) _ H1.out.2 Tryz.underlying25 rfl (by kernel_rfl) ?_)
    | (go_at_call 17; refine Calls.mono (cput_k x d p w0 (HF.out.1.after H0.out.1) HQ.out.1 HQ.out.2) ?_; rintro e w1 ⟨v1, rfl, ho, ha⟩; obtain ⟨a1, c1, he1, _, _, _⟩ := own_sl ho (k := 0) rfl; subst he1; have H1 := show Hid (After w w1 ∧ RowIs w1 w.heap.size 25 (cc x d p)) from ⟨After.trans H0.out.1 ha, H0.out.2.below ha H0.out.2.lt⟩; clear ho ha)
    | (refine wpList_load_row rfl 25 (.tmp 1) rfl w.heap.size rfl 25 _ (0, 0) _ H0.out.2 Tryz.underlying25 rfl (by kernel_rfl) ?_))
  go_ret
  exact ⟨rfl, H4.out⟩

set_option maxRecDepth 100000 in
set_option maxHeartbeats 2400000 in
theorem cback_good (x : Chg) (d p : Sl) (w : World) (hx : ChAt w x d p) (ht : SH.Tab w) (hq : chgE x = 0) :
    Calls Tryz.prog 6 #[cV x d p] w fun e w' => e = .returned (.bool true) ∧ After w w' := by
  have hgd : CGood x := ⟨chgE_zero.1 hq, hx.d32, hx.ok⟩
  obtain ⟨B, hB⟩ : ∃ B, chgB x = B := ⟨_, rfl⟩
  have hBL : layC x = B := by rw [← hB]; unfold chgB; rw [if_pos hq]
  have hlen : B.length ≤ 65536 := by rw [← hBL]; exact hgd.len
  have hpos : 1 ≤ B.length := by rw [← hBL]; exact layC_pos x
  obtain ⟨K, hK⟩ : ∃ K, B.length = K := ⟨_, rfl⟩
  obtain ⟨k1, hk1⟩ : ∃ k1, K = k1 + 1 := ⟨K - 1, by omega⟩
  have HF : Hid (ChAt w x d p ∧ SH.Tab w ∧ chgE x = 0 ∧ chgB x = B) := ⟨hx, ht, hq, hB⟩
  have HK : Hid (B.length = K ∧ K = k1 + 1 ∧ (B.take k1).length = k1 ∧ K ≤ 65536) := ⟨hK, hk1, by rw [List.length_take]; omega, by omega⟩
  have HKP : Hid (0 < K) := by show 0 < K; omega
  have HG : Hid (getC B = some x ∧ getC (B ++ [0]) = none ∧ getC (B.take k1) = none) := ⟨by rw [← hBL]; exact getC_back hgd, by rw [← hBL]; exact getC_more hgd 0, by rw [← hBL]; exact getC_less hgd (by rw [hBL]; omega)⟩
  obtain ⟨K2, hK2⟩ : ∃ K2, (B ++ [0]).length = K2 := ⟨_, rfl⟩
  have HK2 : Hid ((B ++ [0]).length = K2 ∧ K2 ≤ 140737488355328) := ⟨hK2, by rw [← hK2, List.length_append, hK]; simp; omega⟩
  have HS0 : Hid (hashC x = SH.sumP B) := by unfold Hid hashC; rw [hq, if_pos rfl, hBL]
  obtain ⟨S, hS⟩ : ∃ S, SH.sumP B = S := ⟨_, rfl⟩
  have heq : ∀ W : World, (Op.equalIn 10000 38 (.agg (c8 S).toArray) (.agg (c8 S).toArray)).run Tryz.prog W = .ok true W := fun W => by
    have h := HS.eq24 S S (by rw [← hS]; exact SH.sumP_len _) (by rw [← hS]; exact SH.sumP_len _) W
    rw [decide_eq_true rfl] at h
    exact h
  have HS' : Hid (SH.sumP B = S) := hS
  obtain ⟨w0, hw0⟩ : ∃ w0, w.alloc (.cells (cc x d p).toArray 25) = w0 := ⟨_, rfl⟩
  have H0 : Hid (After w w0 ∧ RowIs w0 w.heap.size 25 (cc x d p)) := by
    rw [← hw0]; exact ⟨after_alloc (After.refl w) _, RowIs.new w 25 (cc x d p)⟩
  have hK0 : ((K : Int) == 0) = false := beq_eq_false_iff_ne.2 (by omega)
  have hKz : ¬ (K : Int) = 0 := by omega
  clear hx ht hq hS hgd hB hBL hlen hpos hK hk1 hK2
  go_enter Tryz.func6, Tryz.ntmps6
  go_wp2_with (first
    | (go_at_call 15; refine Calls.mono (awake_any w13 (Tab_after HF.out.2.1 H13.out.aft)) ?_; rintro e w14 ⟨rfl, ha⟩; have H14 := show Hid (After w w14) from After.trans H13.out.aft ha; clear ha)
    | (go_at_call 23; refine Calls.mono (sum_k (some ⟨b1, o1, none⟩) K c1 B HK.out.1 HC.out (by have := HK.out.2.2.2; omega) w12 (Tab_after HF.out.2.1 H12.out.aft) H12.out.b) ?_; rw [HS'.out]; rintro e w13 ⟨rfl, ha⟩; have H13 := show Hid (BkI w x d p B b1 o1 d2 p2 g3 w13) from H12.out.after ha; clear ha)
    | (go_at_call 19; refine Calls.mono (hash_any x d p w11 (HF.out.1.after H11.out.aft) (Tab_after HF.out.2.1 H11.out.aft)) ?_; rw [HS0.out, HS'.out]; rintro e w12 ⟨rfl, ha⟩; have H12 := show Hid (BkI w x d p B b1 o1 d2 p2 g3 w12) from H11.out.after ha; clear ha)
    | (have _u := H11.out; clear _u; refine wpListG_of_run rfl (x_row25 (x := .tmp 1) (g := w.heap.size) (cs := cc x d p) rfl rfl H11.out.r0 rfl) ?_)
    | (go_at_call 9; refine Calls.mono (ccheck_any x d p w10 (HF.out.1.after H10.out.aft) HF.out.2.2.1) ?_; rintro e w11 ⟨rfl, ha⟩; have H11 := show Hid (BkI w x d p B b1 o1 d2 p2 g3 w11) from H10.out.after ha; clear ha)
    | (have _u := H10.out; clear _u; refine wpListG_of_run rfl (x_row25 (x := .tmp 1) (g := w.heap.size) (cs := cc x d p) rfl rfl H10.out.r0 rfl) ?_)
    | (go_at_call 13; refine Calls.mono (csame_eq x d2 p2 d p w9 H9.out.c (HF.out.1.after H9.out.aft)) ?_; rintro e w10 ⟨rfl, ha⟩; have H10 := show Hid (BkI w x d p B b1 o1 d2 p2 g3 w10) from H9.out.after ha; clear ha)
    | (have _u := H9.out; clear _u; refine wpListG_of_run rfl (x_row25 (x := .tmp 1) (g := w.heap.size) (cs := cc x d p) rfl rfl H9.out.r0 rfl) ?_)
    | (have _u := H9.out; clear _u; refine wpListG_of_run rfl (x_row25 (x := .tmp 5) (g := g3) (cs := cc x d2 p2) rfl rfl H9.out.r3 rfl) ?_)
    | (refine wpList_store_row rfl 25 (.tmp 9) (.tmp 60) rfl w8.heap.size _ rfl rfl 25 _ (RowIs.new w8 25 [.string ⟨#[]⟩, .int .i64 0, .int .i64 0, .slice none 0 0, .string ⟨#[]⟩, .slice none 0 0]) (by kernel_rfl) rfl (by kernel_rfl) ?_; have H9 := show Hid (BkI w x d p B b1 o1 d2 p2 g3  ((w8.alloc (.cells #[.string ⟨#[]⟩, .int .i64 0, .int .i64 0, .slice none 0 0, .string ⟨#[]⟩, .slice none 0 0] 25)).setRow w8.heap.size zc.toArray)) from H8.out.after (Below.row (after_alloc (After.refl w8) _) (Nat.le_refl _) _); obtain ⟨g9, hg9⟩ : ∃ g, w8.heap.size = g := ⟨_, rfl⟩; revert H9; generalize ((w8.alloc (.cells #[.string ⟨#[]⟩, .int .i64 0, .int .i64 0, .slice none 0 0, .string ⟨#[]⟩, .slice none 0 0] 25)).setRow w8.heap.size zc.toArray) = w9; rw [hg9]; intro H9; clear hg9)
    | (go_at_call 21; have _u := H7.out; clear _u; refine Calls.mono (get_n (some ⟨b1, o1, none⟩) k1 c1 (B.take k1) HK.out.2.2.1 (by have := HC.out; have := HK.out.2.1; omega) (fun e => by cases e) (by have := HK.out.2.2.2; have := HK.out.2.1; omega) w7 (H7.out.b.take k1) HG.out.2.2) ?_; rintro e w8 ⟨rfl, ha⟩; have H8 := show Hid (BkI w x d p B b1 o1 d2 p2 g3 w8) from H7.out.after ha; clear ha)
    | (refine wpList_of_run' rfl (x_slice (b := b1) (off := o1) (len := K) (cap := c1) (k := k1) (x := .tmp 54) (y := .tmp 57) rfl rfl rfl (by have := HC.out; have := HK.out.2.1; omega)) ?_)
    | (refine wpList_of_run' rfl (x_sub1 (K := K) (k := k1) (x := .tmp 56) (y := .const (.int .i64 1)) rfl rfl rfl HK.out.2.1 (by have := HK.out.2.2.2; omega)) ?_)
    | (refine wpList_store_row rfl 25 (.tmp 7) (.tmp 51) rfl w6.heap.size _ rfl rfl 25 _ (RowIs.new w6 25 [.string ⟨#[]⟩, .int .i64 0, .int .i64 0, .slice none 0 0, .string ⟨#[]⟩, .slice none 0 0]) (by kernel_rfl) rfl (by kernel_rfl) ?_; have H7 := show Hid (BkI w x d p B b1 o1 d2 p2 g3  ((w6.alloc (.cells #[.string ⟨#[]⟩, .int .i64 0, .int .i64 0, .slice none 0 0, .string ⟨#[]⟩, .slice none 0 0] 25)).setRow w6.heap.size zc.toArray)) from H6.out.after (Below.row (after_alloc (After.refl w6) _) (Nat.le_refl _) _); obtain ⟨g7, hg7⟩ : ∃ g, w6.heap.size = g := ⟨_, rfl⟩; revert H7; generalize ((w6.alloc (.cells #[.string ⟨#[]⟩, .int .i64 0, .int .i64 0, .slice none 0 0, .string ⟨#[]⟩, .slice none 0 0] 25)).setRow w6.heap.size zc.toArray) = w7; rw [hg7]; intro H7; clear hg7)
    | (go_at_call 21; have _u := H5.out; clear _u; refine Calls.mono (get_n a5 K2 c5 (B ++ [0]) HK2.out.1 H5.out.2.2.1 H5.out.2.2.2 HK2.out.2 w5 H5.out.2.1 HG.out.2.1) ?_; rintro e w6 ⟨rfl, ha⟩; have H6 := show Hid (BkI w x d p B b1 o1 d2 p2 g3 w6) from H5.out.1.after ha; clear ha)
    | (at_builtin; have _u := H4.out; clear _u; refine wpList_append_any rfl _ _ rfl w3.heap.size v4 B rfl (H4.out.1.below (after_alloc (After.refl w4) _) (Nat.le_refl _)) (some ⟨w4.heap.size, 0, none⟩) 1 [0] 1 rfl rfl (bytes_0 w4) (by have := HK.out.2.2.2; rw [HK.out.1]; simp; omega) (by have := H4.out.2.size; simp; omega) ?_; intro v5 w5 ho hg; have HA5 := show Hid (After w3 w5) from after_grown (After.trans H4.out.2 (after_alloc (After.refl w4) _)) hg (Nat.le_refl _) (fun k hk => (World.ownsRow.lt H4.out.1 k hk).1); obtain ⟨a5, c5, he5, hb5, hc5, hz5⟩ := own_sl ho HK2.out.1; subst he5; have H5 := show Hid (BkI w x d p B b1 o1 d2 p2 g3 w5 ∧ BytesAt w5 a5 (B ++ [0]) ∧ K2 ≤ c5 ∧ (a5 = none → K2 = 0)) from ⟨H3.out.after HA5.out, hb5, hc5, hz5⟩; clear ho hg hb5 hc5 hz5 HA5)
    | (at_builtin; have _u := H3.out; clear _u; refine wpList_append_any rfl _ _ rfl w3.heap.size (.slice (some ⟨w3.heap.size, 0, none⟩) 0 0) [] rfl (Own.fresh w3) (some ⟨b1, o1, none⟩) c1 B K HK.out.1 rfl (H3.out.b.after (after_alloc (After.refl w3) _)) (by rw [HK.out.1]; have := HK.out.2.2.2; simp; omega) (by simp) ?_; intro v4 w4 ho hg; have H4 := show Hid (Own w4 w3.heap.size v4 B ∧ After w3 w4) from ⟨ho, after_grown (after_alloc (After.refl w3) _) hg (Nat.le_refl _) (fun k hk => by cases hk; exact Nat.le_refl _)⟩; clear ho hg)
    | (refine wpList_store_row rfl 25 (.tmp 5) (.tmp 42) rfl w2.heap.size _ rfl rfl 25 _ (RowIs.new w2 25 [.string ⟨#[]⟩, .int .i64 0, .int .i64 0, .slice none 0 0, .string ⟨#[]⟩, .slice none 0 0]) (by kernel_rfl) rfl (by kernel_rfl) ?_; have H3 := show Hid (BkI w x d p B b1 o1 d2 p2 w2.heap.size ((w2.alloc (.cells #[.string ⟨#[]⟩, .int .i64 0, .int .i64 0, .slice none 0 0, .string ⟨#[]⟩, .slice none 0 0] 25)).setRow w2.heap.size (cc x d2 p2).toArray)) from ⟨After.trans H2.out.1 (Below.row (after_alloc (After.refl w2) _) (Nat.le_refl _) _), H2.out.2.1.below (Below.row (after_alloc (After.refl w2) _) (Nat.le_refl _) _) H2.out.2.1.lt, RowIs.setRow (RowIs.new w2 25 [.string ⟨#[]⟩, .int .i64 0, .int .i64 0, .slice none 0 0, .string ⟨#[]⟩, .slice none 0 0]) _, H2.out.2.2.1.after (Below.row (after_alloc (After.refl w2) _) (Nat.le_refl _) _), H2.out.2.2.2.after (Below.row (after_alloc (After.refl w2) _) (Nat.le_refl _) _)⟩; obtain ⟨g3, hg3⟩ : ∃ g, w2.heap.size = g := ⟨_, rfl⟩; revert H3; generalize ((w2.alloc (.cells #[.string ⟨#[]⟩, .int .i64 0, .int .i64 0, .slice none 0 0, .string ⟨#[]⟩, .slice none 0 0] 25)).setRow w2.heap.size (cc x d2 p2).toArray) = w3; rw [hg3]; intro H3; clear hg3)
    | (go_at_call 21; have _u := H1.out; clear _u; refine Calls.mono (get_c (some ⟨b1, o1, none⟩) K c1 B HK.out.1 HC.out (fun e => by cases e) (by have := HK.out.2.2.2; omega) w1 H1.out.2.2 HG.out.1) ?_; rintro e w2 ⟨d2, p2, he, ha, hch⟩; subst he; have H2 := show Hid (After w w2 ∧ RowIs w2 w.heap.size 25 (cc x d p) ∧ BytesAt w2 (some ⟨b1, o1, none⟩) B ∧ ChAt w2 x d2 p2) from ⟨After.trans H1.out.1 ha, H1.out.2.1.below ha H1.out.2.1.lt, H1.out.2.2.after ha, hch⟩; clear ha hch)
    | (go_at_call 17; refine Calls.mono (cput_some x d p w0 (HF.out.1.after H0.out.1) HF.out.2.2.1 HF.out.2.2.2 HK.out.1 HKP.out) ?_; rintro e w1 ⟨b1, o1, c1, he, h1, h2, ha⟩; subst he; have HC := show Hid (K ≤ c1) from h2; have H1 := show Hid (After w w1 ∧ RowIs w1 w.heap.size 25 (cc x d p) ∧ BytesAt w1 (some ⟨b1, o1, none⟩) B) from ⟨After.trans H0.out.1 ha, H0.out.2.below ha H0.out.2.lt, h1⟩; clear h1 h2 ha)
    | (refine wpList_load_row rfl 25 (.tmp 1) rfl w.heap.size rfl 25 _ (0, 0) _ H0.out.2 Tryz.underlying25 rfl (by kernel_rfl) ?_))
  go_ret
  exact ⟨rfl, H14.out⟩
theorem cback_any (x : Chg) (d p : Sl) (w : World) (hx : ChAt w x d p) (ht : SH.Tab w) :
    Calls Tryz.prog 6 #[cV x d p] w fun e w' => e = .returned (.bool true) ∧ After w w' := by
  by_cases h : chgE x = 0
  · exact cback_good x d p w hx ht h
  · exact cback_bad x d p w hx ht h
end Go.Proofs.YtgmdolpjkaajfaaGreatDoor
