/-
  stemmaref08.Same, of any two.
-/
import Derived.Test.YtgmdolpjkaajfaaGreatDoorCQ
namespace Go.Proofs.YtgmdolpjkaajfaaGreatDoor
open Go.RowKit Leb

set_option maxRecDepth 100000 in
set_option maxHeartbeats 2400000 in
theorem rsame_n0 (au au' : List UInt8) (sq sq' : Int) (st st' : Int) (ds ds' : List (List UInt8)) (nt nt' : List UInt8) (os os' : List Opn) (d p d' p' : Sl) (w : World) (h : ChAt w ⟨au, sq, st, ds, nt, os⟩ d p) (h' : ChAt w ⟨au', sq', st', ds', nt', os'⟩ d' p') (hne : ¬ au = au') :
    Calls Tryz.prog 14 #[cV ⟨au, sq, st, ds, nt, os⟩ d p, cV ⟨au', sq', st', ds', nt', os'⟩ d' p'] w fun e w' => e = .returned (.bool false) ∧ After w w' := by
  have HF : Hid (ChAt w ⟨au, sq, st, ds, nt, os⟩ d p ∧ ChAt w ⟨au', sq', st', ds', nt', os'⟩ d' p') := ⟨h, h'⟩
  clear h h'
  have s1 := strOf_nq hne
  have s2 : ((strOf au).toList == (strOf au').toList) = false := beq_eq_false_iff_ne.2 s1
  go_enter Tryz.func14, Tryz.ntmps14
  go_wp2
  go_ret
  exact ⟨rfl, after_alloc (after_alloc (After.refl w) _) _⟩

set_option maxRecDepth 100000 in
set_option maxHeartbeats 2400000 in
theorem rsame_n1 (au : List UInt8) (sq sq' : Int) (st st' : Int) (ds ds' : List (List UInt8)) (nt nt' : List UInt8) (os os' : List Opn) (d p d' p' : Sl) (w : World) (h : ChAt w ⟨au, sq, st, ds, nt, os⟩ d p) (h' : ChAt w ⟨au, sq', st', ds', nt', os'⟩ d' p') (hne : ¬ sq = sq') :
    Calls Tryz.prog 14 #[cV ⟨au, sq, st, ds, nt, os⟩ d p, cV ⟨au, sq', st', ds', nt', os'⟩ d' p'] w fun e w' => e = .returned (.bool false) ∧ After w w' := by
  have HF : Hid (ChAt w ⟨au, sq, st, ds, nt, os⟩ d p ∧ ChAt w ⟨au, sq', st', ds', nt', os'⟩ d' p') := ⟨h, h'⟩
  clear h h'
  have s2 : (sq == sq') = false := beq_eq_false_iff_ne.2 hne
  go_enter Tryz.func14, Tryz.ntmps14
  go_wp2
  go_ret
  exact ⟨rfl, after_alloc (after_alloc (After.refl w) _) _⟩

set_option maxRecDepth 100000 in
set_option maxHeartbeats 2400000 in
theorem rsame_n2 (au : List UInt8) (sq : Int) (st st' : Int) (ds ds' : List (List UInt8)) (nt nt' : List UInt8) (os os' : List Opn) (d p d' p' : Sl) (w : World) (h : ChAt w ⟨au, sq, st, ds, nt, os⟩ d p) (h' : ChAt w ⟨au, sq, st', ds', nt', os'⟩ d' p') (hne : ¬ st = st') :
    Calls Tryz.prog 14 #[cV ⟨au, sq, st, ds, nt, os⟩ d p, cV ⟨au, sq, st', ds', nt', os'⟩ d' p'] w fun e w' => e = .returned (.bool false) ∧ After w w' := by
  have HF : Hid (ChAt w ⟨au, sq, st, ds, nt, os⟩ d p ∧ ChAt w ⟨au, sq, st', ds', nt', os'⟩ d' p') := ⟨h, h'⟩
  clear h h'
  have s2 : (st == st') = false := beq_eq_false_iff_ne.2 hne
  go_enter Tryz.func14, Tryz.ntmps14
  go_wp2
  go_ret
  exact ⟨rfl, after_alloc (after_alloc (After.refl w) _) _⟩

set_option maxRecDepth 100000 in
set_option maxHeartbeats 2400000 in
theorem rsame_n3 (au : List UInt8) (sq : Int) (st : Int) (ds ds' : List (List UInt8)) (nt nt' : List UInt8) (os os' : List Opn) (d p d' p' : Sl) (w : World) (h : ChAt w ⟨au, sq, st, ds, nt, os⟩ d p) (h' : ChAt w ⟨au, sq, st, ds', nt', os'⟩ d' p') (hne : ¬ ds = ds') :
    Calls Tryz.prog 14 #[cV ⟨au, sq, st, ds, nt, os⟩ d p, cV ⟨au, sq, st, ds', nt', os'⟩ d' p'] w fun e w' => e = .returned (.bool false) ∧ After w w' := by
  have HF : Hid (ChAt w ⟨au, sq, st, ds, nt, os⟩ d p ∧ ChAt w ⟨au, sq, st, ds', nt', os'⟩ d' p') := ⟨h, h'⟩
  clear h h'
  have HN : Hid (¬ ds = ds') := hne
  clear hne
  go_enter Tryz.func14, Tryz.ntmps14
  go_wp2_with (go_at_call 29; refine Calls.mono (HS.same13 d.a d'.a d.c d'.c ds ds' HF.out.1.d32 HF.out.2.d32 d.n d'.n HF.out.1.dn HF.out.2.dn HF.out.1.db _ (HF.out.1.deps.after (after_alloc (after_alloc (After.refl w) _) _)) (HF.out.2.deps.after (after_alloc (after_alloc (After.refl w) _) _))) ?_; rw [decide_eq_false HN.out]; rintro e w1 ⟨rfl, ha⟩; have hb0 := (RowIs.new w 25 [.string (strOf au), .int .i64 sq, .int .i64 st, .slice d.a d.n d.c, .string (strOf nt), .slice p.a p.n p.c]).alloc (.cells #[.string (strOf au), .int .i64 sq, .int .i64 st, .slice d'.a d'.n d'.c, .string (strOf nt'), .slice p'.a p'.n p'.c] 25); have hb1 := RowIs.new (w.alloc (.cells #[.string (strOf au), .int .i64 sq, .int .i64 st, .slice d.a d.n d.c, .string (strOf nt), .slice p.a p.n p.c] 25)) 25 [.string (strOf au), .int .i64 sq, .int .i64 st, .slice d'.a d'.n d'.c, .string (strOf nt'), .slice p'.a p'.n p'.c]; have r0 := hb0.below ha hb0.lt; have r1 := hb1.below ha hb1.lt; rw [show (w.alloc (.cells #[.string (strOf au), .int .i64 sq, .int .i64 st, .slice d.a d.n d.c, .string (strOf nt), .slice p.a p.n p.c] 25)).heap.size = w.heap.size + 1 by simp] at r1; have f4 := r0.cell (j := 4) rfl; have f5 := r0.cell (j := 5) rfl; have e4 := r1.cell (j := 4) rfl; have e5 := r1.cell (j := 5) rfl; have H1 := show Hid (After w w1) from After.trans (after_alloc (after_alloc (After.refl w) _) _) ha; clear ha hb0 hb1 r0 r1)
  go_ret
  exact ⟨rfl, H1.out⟩

set_option maxRecDepth 100000 in
set_option maxHeartbeats 2400000 in
theorem rsame_n4 (au : List UInt8) (sq : Int) (st : Int) (ds : List (List UInt8)) (nt nt' : List UInt8) (os os' : List Opn) (d p d' p' : Sl) (w : World) (h : ChAt w ⟨au, sq, st, ds, nt, os⟩ d p) (h' : ChAt w ⟨au, sq, st, ds, nt', os'⟩ d' p') (hne : ¬ nt = nt') :
    Calls Tryz.prog 14 #[cV ⟨au, sq, st, ds, nt, os⟩ d p, cV ⟨au, sq, st, ds, nt', os'⟩ d' p'] w fun e w' => e = .returned (.bool false) ∧ After w w' := by
  have HF : Hid (ChAt w ⟨au, sq, st, ds, nt, os⟩ d p ∧ ChAt w ⟨au, sq, st, ds, nt', os'⟩ d' p') := ⟨h, h'⟩
  clear h h'
  have s1 := strOf_nq hne
  have s2 : ((strOf nt).toList == (strOf nt').toList) = false := beq_eq_false_iff_ne.2 s1
  go_enter Tryz.func14, Tryz.ntmps14
  go_wp2_with (go_at_call 29; refine Calls.mono (HS.same13 d.a d'.a d.c d'.c ds ds HF.out.1.d32 HF.out.2.d32 d.n d'.n HF.out.1.dn HF.out.2.dn HF.out.1.db _ (HF.out.1.deps.after (after_alloc (after_alloc (After.refl w) _) _)) (HF.out.2.deps.after (after_alloc (after_alloc (After.refl w) _) _))) ?_; rw [decide_eq_true rfl]; rintro e w1 ⟨rfl, ha⟩; have hb0 := (RowIs.new w 25 [.string (strOf au), .int .i64 sq, .int .i64 st, .slice d.a d.n d.c, .string (strOf nt), .slice p.a p.n p.c]).alloc (.cells #[.string (strOf au), .int .i64 sq, .int .i64 st, .slice d'.a d'.n d'.c, .string (strOf nt'), .slice p'.a p'.n p'.c] 25); have hb1 := RowIs.new (w.alloc (.cells #[.string (strOf au), .int .i64 sq, .int .i64 st, .slice d.a d.n d.c, .string (strOf nt), .slice p.a p.n p.c] 25)) 25 [.string (strOf au), .int .i64 sq, .int .i64 st, .slice d'.a d'.n d'.c, .string (strOf nt'), .slice p'.a p'.n p'.c]; have r0 := hb0.below ha hb0.lt; have r1 := hb1.below ha hb1.lt; rw [show (w.alloc (.cells #[.string (strOf au), .int .i64 sq, .int .i64 st, .slice d.a d.n d.c, .string (strOf nt), .slice p.a p.n p.c] 25)).heap.size = w.heap.size + 1 by simp] at r1; have f4 := r0.cell (j := 4) rfl; have f5 := r0.cell (j := 5) rfl; have e4 := r1.cell (j := 4) rfl; have e5 := r1.cell (j := 5) rfl; have H1 := show Hid (After w w1) from After.trans (after_alloc (after_alloc (After.refl w) _) _) ha; clear ha hb0 hb1 r0 r1)
  go_ret
  exact ⟨rfl, H1.out⟩

set_option maxRecDepth 100000 in
set_option maxHeartbeats 2400000 in
theorem rsame_n5 (au : List UInt8) (sq : Int) (st : Int) (ds : List (List UInt8)) (nt : List UInt8) (os os' : List Opn) (d p d' p' : Sl) (w : World) (h : ChAt w ⟨au, sq, st, ds, nt, os⟩ d p) (h' : ChAt w ⟨au, sq, st, ds, nt, os'⟩ d' p') (hne : ¬ os = os') :
    Calls Tryz.prog 14 #[cV ⟨au, sq, st, ds, nt, os⟩ d p, cV ⟨au, sq, st, ds, nt, os'⟩ d' p'] w fun e w' => e = .returned (.bool false) ∧ After w w' := by
  have HF : Hid (ChAt w ⟨au, sq, st, ds, nt, os⟩ d p ∧ ChAt w ⟨au, sq, st, ds, nt, os'⟩ d' p') := ⟨h, h'⟩
  clear h h'
  have HN : Hid (¬ os = os') := hne
  clear hne
  go_enter Tryz.func14, Tryz.ntmps14
  go_wp2_with (first | (go_at_call 30; refine Calls.mono (rsame16 p.a p'.a p.c p'.c os os' p.n p'.n HF.out.1.pn HF.out.2.pn HF.out.1.pb w1 (HF.out.1.ops.after H1.out) (HF.out.2.ops.after H1.out)) ?_; rw [decide_eq_false HN.out]; rintro e w2 ⟨rfl, ha⟩; have H2 := show Hid (After w w2) from After.trans H1.out ha; clear ha) | (go_at_call 29; refine Calls.mono (HS.same13 d.a d'.a d.c d'.c ds ds HF.out.1.d32 HF.out.2.d32 d.n d'.n HF.out.1.dn HF.out.2.dn HF.out.1.db _ (HF.out.1.deps.after (after_alloc (after_alloc (After.refl w) _) _)) (HF.out.2.deps.after (after_alloc (after_alloc (After.refl w) _) _))) ?_; rw [decide_eq_true rfl]; rintro e w1 ⟨rfl, ha⟩; have hb0 := (RowIs.new w 25 [.string (strOf au), .int .i64 sq, .int .i64 st, .slice d.a d.n d.c, .string (strOf nt), .slice p.a p.n p.c]).alloc (.cells #[.string (strOf au), .int .i64 sq, .int .i64 st, .slice d'.a d'.n d'.c, .string (strOf nt), .slice p'.a p'.n p'.c] 25); have hb1 := RowIs.new (w.alloc (.cells #[.string (strOf au), .int .i64 sq, .int .i64 st, .slice d.a d.n d.c, .string (strOf nt), .slice p.a p.n p.c] 25)) 25 [.string (strOf au), .int .i64 sq, .int .i64 st, .slice d'.a d'.n d'.c, .string (strOf nt), .slice p'.a p'.n p'.c]; have r0 := hb0.below ha hb0.lt; have r1 := hb1.below ha hb1.lt; rw [show (w.alloc (.cells #[.string (strOf au), .int .i64 sq, .int .i64 st, .slice d.a d.n d.c, .string (strOf nt), .slice p.a p.n p.c] 25)).heap.size = w.heap.size + 1 by simp] at r1; have f4 := r0.cell (j := 4) rfl; have f5 := r0.cell (j := 5) rfl; have e4 := r1.cell (j := 4) rfl; have e5 := r1.cell (j := 5) rfl; have H1 := show Hid (After w w1) from After.trans (after_alloc (after_alloc (After.refl w) _) _) ha; clear ha hb0 hb1 r0 r1))
  go_ret
  exact ⟨rfl, H2.out⟩

theorem rsame_any (x y : Chg) (d p d' p' : Sl) (w : World) (h : ChAt w x d p) (h' : ChAt w y d' p') :
    Calls Tryz.prog 14 #[cV x d p, cV y d' p'] w fun e w' => e = .returned (.bool (decide (x = y))) ∧ After w w' := by
  by_cases hxy : x = y
  · subst hxy; rw [decide_eq_true rfl]; exact rsame_eq x d p d' p' w h h'
  rw [decide_eq_false hxy]
  obtain ⟨au, sq, st, ds, nt, os⟩ := x
  obtain ⟨au', sq', st', ds', nt', os'⟩ := y
  by_cases e0 : au = au'
  case neg => exact rsame_n0 au au' sq sq' st st' ds ds' nt nt' os os' d p d' p' w h h' e0
  subst e0
  by_cases e1 : sq = sq'
  case neg => exact rsame_n1 au sq sq' st st' ds ds' nt nt' os os' d p d' p' w h h' e1
  subst e1
  by_cases e2 : st = st'
  case neg => exact rsame_n2 au sq st st' ds ds' nt nt' os os' d p d' p' w h h' e2
  subst e2
  by_cases e3 : ds = ds'
  case neg => exact rsame_n3 au sq st ds ds' nt nt' os os' d p d' p' w h h' e3
  subst e3
  by_cases e4 : nt = nt'
  case neg => exact rsame_n4 au sq st ds nt nt' os os' d p d' p' w h h' e4
  subst e4
  by_cases e5 : os = os'
  case neg => exact rsame_n5 au sq st ds nt os os' d p d' p' w h h' e5
  subst e5
  exact absurd rfl hxy
end Go.Proofs.YtgmdolpjkaajfaaGreatDoor
