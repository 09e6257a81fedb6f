/-
  index.Same: its closure (34), EqualFunc (33), Same (16).
-/
import Derived.Test.YtcmcapcagblafaaGreatXC
namespace Go.Proofs.YtcmcapcagblafaaGreat
open Go.RowKit Go.Maps Dsk
attribute [local go_sem] Oper.semAt_some
instance decRc : DecidableEq Rc := inferInstanceAs (DecidableEq (List UInt8 × (List (List UInt8 × List (List UInt8)) × List (List UInt8))))
set_option maxRecDepth 100000 in
set_option maxHeartbeats 3200000 in
theorem same34 {x y : Rx} {w : World} (hx : RxAt w x) (hy : RxAt w y) : Calls Tryz.prog 17 #[.agg (rxc x).toArray, .agg (rxc y).toArray] w fun e w' => e = .returned (.bool (decide (rof x = rof y))) ∧ After w w' := by
  obtain ⟨s, ba, bc, X, a, c, l⟩ := x
  obtain ⟨t, da, dc, Y, b, d, m⟩ := y
  obtain ⟨n, hn⟩ : ∃ n, l.length = n := ⟨_, rfl⟩
  obtain ⟨k, hk⟩ : ∃ k, m.length = k := ⟨_, rfl⟩
  obtain ⟨p, hp⟩ : ∃ p, X.length = p := ⟨_, rfl⟩
  obtain ⟨q, hq⟩ : ∃ q, Y.length = q := ⟨_, rfl⟩
  obtain ⟨W0, hW0⟩ : ∃ W0, (w.alloc (.cells #[.string (strOf s), .slice ba p bc, .slice a n c] 32)).alloc (.cells #[.string (strOf t), .slice da q dc, .slice b k d] 32) = W0 := ⟨_, rfl⟩
  have HR : RowIs W0 w.heap.size 32 [.string (strOf s), .slice ba p bc, .slice a n c] ∧ RowIs W0 (w.heap.size + 1) 32 [.string (strOf t), .slice da q dc, .slice b k d] ∧ After w W0 := by
    refine ⟨?_, ?_, ?_⟩
    · rw [← hW0]; exact (RowIs.new w 32 [.string (strOf s), .slice ba p bc, .slice a n c]).alloc _
    · rw [← hW0]; have := RowIs.new (w.alloc (.cells #[.string (strOf s), .slice ba p bc, .slice a n c] 32)) 32 [.string (strOf t), .slice da q dc, .slice b k d]; rwa [World.size_alloc] at this
    · rw [← hW0]; exact after_alloc (after_alloc (After.refl w) _) _
  have HQ : Hid (RowIs W0 w.heap.size 32 [.string (strOf s), .slice ba p bc, .slice a n c] ∧ RowIs W0 (w.heap.size + 1) 32 [.string (strOf t), .slice da q dc, .slice b k d]) := ⟨HR.1, HR.2.1⟩
  have c0 := HR.1.cell (j := 0) rfl
  have c1 := HR.1.cell (j := 1) rfl
  have d0 := HR.2.1.cell (j := 0) rfl
  have d1 := HR.2.1.cell (j := 1) rfl
  have HA : Hid (After w W0) := HR.2.2
  have hfx := hx.fitC
  have hfX := hx.fitB
  simp only at hfx hfX
  have HB : Hid (Calls Tryz.prog 18 #[.slice ba p bc, .slice da q dc] W0 fun e w' => e = .returned (.bool (decide (bof X = bof Y))) ∧ After W0 w') := same24 (ca := bc) (cb := dc) hp hq (by omega) (hx.bs.after HR.2.2) (hy.bs.after HR.2.2)
  have HC : Hid (∀ W, After W0 W → Calls Tryz.prog 19 #[.slice a n c, .slice b k d] W fun e w' => e = .returned (.bool (decide (l = m))) ∧ After W w') := fun W hW => same53 (ca := c) (cb := d) hx.l32 hy.l32 hn hk (by omega) (hx.sl.after (HR.2.2.trans hW)) (hy.sl.after (HR.2.2.trans hW))
  simp only [rxc]
  rw [hn, hk, hp, hq]
  clear hx hy HR hfx hfX
  by_cases hst : s = t
  · subst hst
    by_cases hXY : bof X = bof Y
    · have HD : Hid (decide (rof ⟨s, ba, bc, X, a, c, l⟩ = rof ⟨s, da, dc, Y, b, d, m⟩) = decide (l = m)) := by simp [Hid, rof, hXY]
      have HBT : Hid (Calls Tryz.prog 18 #[.slice ba p bc, .slice da q dc] W0 fun e w' => e = .returned (.bool true) ∧ After W0 w') := by have := HB.out; rw [decide_eq_true hXY] at this; exact this
      obtain ⟨z, hz⟩ : ∃ z, decide (l = m) = z := ⟨_, rfl⟩
      rw [hz] at HC HD
      clear hXY
      go_enter Tryz.func17, Tryz.ntmps17
      go_wp2_with (first
        | (rw [hW0])
        | (go_at_call 18; refine Calls.mono HBT.out ?_; rintro e w2 ⟨rfl, ha2⟩; have H2 : Hid (After W0 w2) := ha2
           have e0 := (HQ.out.1.below ha2 HQ.out.1.lt).cell (j := 2) rfl
           have e1 := (HQ.out.2.below ha2 HQ.out.2.lt).cell (j := 2) rfl
           clear ha2)
        | (go_at_call 19; refine Calls.mono (HC.out _ H2.out) ?_; rintro e w3 ⟨rfl, ha3⟩; have HA3 := show Hid (After w w3) from (HA.out.trans H2.out).trans ha3; clear ha3))
      go_ret
      exact ⟨by rw [HD.out]; rfl, HA3.out⟩
    · have HD : Hid (decide (rof ⟨s, ba, bc, X, a, c, l⟩ = rof ⟨s, da, dc, Y, b, d, m⟩) = false) := by simp [Hid, rof, hXY]
      have HBT : Hid (Calls Tryz.prog 18 #[.slice ba p bc, .slice da q dc] W0 fun e w' => e = .returned (.bool false) ∧ After W0 w') := by have := HB.out; rw [decide_eq_false hXY] at this; exact this
      clear hXY
      go_enter Tryz.func17, Tryz.ntmps17
      go_wp2_with (first
        | (rw [hW0])
        | (go_at_call 18; refine Calls.mono HBT.out ?_; rintro e w2 ⟨rfl, ha2⟩; have H2 : Hid (After W0 w2) := ha2; clear ha2))
      go_ret
      exact ⟨by rw [HD.out]; rfl, HA.out.trans H2.out⟩
  · have hne : strOf s ≠ strOf t := strOf_ne hst
    have HD : Hid (decide (rof ⟨s, ba, bc, X, a, c, l⟩ = rof ⟨t, da, dc, Y, b, d, m⟩) = false) := decide_eq_false (fun e => hst (Prod.mk.inj e).1)
    go_enter Tryz.func17, Tryz.ntmps17
    go_wp2_with (first
      | (rw [hW0])
      | (refine wpList_of_run rfl (x_eq9 (x := .tmp 6) (y := .tmp 8) (s := s) (t := t) rfl rfl rfl) ?_; rw [decide_eq_false hst]))
    go_ret
    exact ⟨by rw [HD.out]; rfl, HA.out⟩
set_option maxRecDepth 100000 in
set_option maxHeartbeats 6400000 in
theorem equalF33 {ao bo : Option Addr} {ca cb : Nat} {la lb : List Rx} {n m : Nat} (hla : la.length = n) (hlb : lb.length = m) (hbig : n ≤ 9223372036854775807) {w : World} (hA : RsAt w ao la) (hB : RsAt w bo lb) :
    Calls Tryz.prog 16 #[.slice ao n ca, .slice bo m cb, .func (.func 17) #[] #[]] w fun e w' => e = .returned (.bool (decide (rsof la = rsof lb))) ∧ After w w' := by
  have hpa : (rsof la).length = n := by rw [rsof_len, hla]
  have hpb : (rsof lb).length = m := by rw [rsof_len, hlb]
  by_cases hnm : n = m
  · subst hnm
    have HFA : Hid (RsAt w ao la ∧ la.length = n ∧ (rsof la).length = n) := ⟨hA, hla, hpa⟩
    have HFB : Hid (RsAt w bo lb ∧ lb.length = n ∧ (rsof lb).length = n) := ⟨hB, hlb, hpb⟩
    clear hA hB hla hlb hpa hpb
    go_enter Tryz.func16, Tryz.ntmps16
    go_wp2_with fail
    go_loopw [17] (fun iv wr => ∃ i : Nat, i ≤ n ∧ iv = .int .i64 (i : Int) ∧ Hid (SmI w (rsof la) (rsof lb) i wr)) (fun iv _ => n - (intOf iv).toNat)
    case atStart => exact ⟨0, Nat.zero_le _, rfl, After.refl w, fun j hj => by omega⟩
    case round =>
      obtain ⟨i, hin, rfl, HI⟩ := hrel
      by_cases hlt : i < n
      · have hii : (i : Int) < (n : Int) := by omega
        have HLT : Hid (i < n) := hlt
        obtain ⟨x, hx⟩ : ∃ x, la[i]? = some x := ⟨_, List.getElem?_eq_getElem (by rw [HFA.out.2.1]; exact hlt)⟩
        obtain ⟨y, hy⟩ : ∃ y, lb[i]? = some y := ⟨_, List.getElem?_eq_getElem (by rw [HFB.out.2.1]; exact hlt)⟩
        obtain ⟨xb, xo, hxa, hxr⟩ := HFA.out.1.sl.at (rs_get hx)
        obtain ⟨yb, yo, hya, hyr⟩ := HFB.out.1.sl.at (rs_get hy)
        subst hxa hya
        obtain ⟨W1, hW1⟩ : ∃ W1, (wr.alloc (.cells (rxc zrx).toArray 32)).setRow wr.heap.size (rxc x).toArray = W1 := ⟨_, rfl⟩
        obtain ⟨W2, hW2⟩ : ∃ W2, (W1.alloc (.cells (rxc zrx).toArray 32)).setRow W1.heap.size (rxc y).toArray = W2 := ⟨_, rfl⟩
        have HP1 := show Hid _ from put41 hW1
        have HP2 := show Hid _ from put41 hW2
        have HG1 := show Hid _ from hW1
        have HG2 := show Hid _ from hW2
        have HAA : Hid (After w W2 ∧ RowIs W2 wr.heap.size 32 (rxc x) ∧ RowIs W2 W1.heap.size 32 (rxc y)) := ⟨(HI.out.aft.trans HP1.out.2.2).trans HP2.out.2.2, HP1.out.2.1.below HP2.out.2.2 HP1.out.2.1.lt, HP2.out.2.1⟩
        have HX : Hid (wr.rangeAt xb (xo + i * 3) (rxc x)) := range_after hxr HI.out.aft
        have HY : Hid (W1.rangeAt yb (yo + i * 3) (rxc y)) := range_after hyr (HI.out.aft.trans HP1.out.2.2)
        have HC : Hid (Calls Tryz.prog 17 #[.agg (rxc x).toArray, .agg (rxc y).toArray] W2 fun e w' => e = .returned (.bool (decide (rof x = rof y))) ∧ After W2 w') := same34 ((HFA.out.1.each x (List.mem_of_getElem? hx)).after HAA.out.1) ((HFB.out.1.each y (List.mem_of_getElem? hy)).after HAA.out.1)
        have HXY : Hid ((rsof la)[i]? = some (rof x) ∧ (rsof lb)[i]? = some (rof y)) := ⟨rsof_get hx, rsof_get hy⟩
        clear hx hy hxr hyr hW1 hW2
        by_cases hxy : rof x = rof y
        · have HD : Hid (decide (rof x = rof y) = true) := decide_eq_true hxy
          go_wp2_with (first
            | (refine wpList_of_run rfl (x_idx22 (x := .tmp 15) (y := .tmp 17) (b := xb) (f := xo) (n := n) (c := ca) (i := i) rfl (by kernel_rfl) (by kernel_rfl) HLT.out) ?_)
            | (refine wpList_of_run rfl (x_ld41 (x := .tmp 20) (g := xb) (p := xo + i * 3) (y := x) rfl (by kernel_rfl) HX.out) ?_)
            | (refine wpList_of_run rfl (x_al41 rfl) ?_)
            | (refine wpList_store_row rfl 32 (.tmp 8) (.tmp 21) rfl wr.heap.size (rxc x).toArray rfl rfl 32 _ HP1.out.1 (size41 x) rfl (by simpa using rs_one [x] (rxc x) (by simp [rsL])) ?_; rw [HG1.out])
            | (refine wpList_of_run rfl (x_idx22 (x := .tmp 22) (y := .tmp 23) (b := yb) (f := yo) (n := n) (c := cb) (i := i) rfl (by kernel_rfl) (by kernel_rfl) HLT.out) ?_)
            | (refine wpList_of_run rfl (x_ld41 (x := .tmp 24) (g := yb) (p := yo + i * 3) (y := y) rfl (by kernel_rfl) HY.out) ?_)
            | (refine wpList_store_row rfl 32 (.tmp 9) (.tmp 25) rfl W1.heap.size (rxc y).toArray rfl rfl 32 _ HP2.out.1 (size41 y) rfl (by simpa using rs_one [y] (rxc y) (by simp [rsL])) ?_; rw [HG2.out])
            | (refine wpList_load_row rfl 32 (.tmp 8) rfl wr.heap.size rfl 32 (rxc x).toArray (0, 0) _ HAA.out.2.1 Tryz.underlying32 rfl (size41 x) ?_)
            | (refine wpList_load_row rfl 32 (.tmp 9) rfl W1.heap.size rfl 32 (rxc y).toArray (0, 0) _ HAA.out.2.2 Tryz.underlying32 rfl (size41 y) ?_)
            | (go_at_call 17; refine Calls.mono HC.out ?_; rintro e w3 ⟨rfl, ha3⟩; rw [HD.out]; have H3 := show Hid (After W2 w3) from ha3; clear ha3))
          go_roundw
          case rel => exact ⟨i + 1, by omega, by go_num, HAA.out.1.trans H3.out, fun j hj => by
            by_cases e : j = i
            · subst e; rw [HXY.out.1, HXY.out.2, hxy]
            · exact HI.out.pre j (by omega)⟩
          case measure => simp [intOf]; omega
        · have HD : Hid (decide (rof x = rof y) = false) := decide_eq_false hxy
          go_wp2_with (first
            | (refine wpList_of_run rfl (x_idx22 (x := .tmp 15) (y := .tmp 17) (b := xb) (f := xo) (n := n) (c := ca) (i := i) rfl (by kernel_rfl) (by kernel_rfl) HLT.out) ?_)
            | (refine wpList_of_run rfl (x_ld41 (x := .tmp 20) (g := xb) (p := xo + i * 3) (y := x) rfl (by kernel_rfl) HX.out) ?_)
            | (refine wpList_of_run rfl (x_al41 rfl) ?_)
            | (refine wpList_store_row rfl 32 (.tmp 8) (.tmp 21) rfl wr.heap.size (rxc x).toArray rfl rfl 32 _ HP1.out.1 (size41 x) rfl (by simpa using rs_one [x] (rxc x) (by simp [rsL])) ?_; rw [HG1.out])
            | (refine wpList_of_run rfl (x_idx22 (x := .tmp 22) (y := .tmp 23) (b := yb) (f := yo) (n := n) (c := cb) (i := i) rfl (by kernel_rfl) (by kernel_rfl) HLT.out) ?_)
            | (refine wpList_of_run rfl (x_ld41 (x := .tmp 24) (g := yb) (p := yo + i * 3) (y := y) rfl (by kernel_rfl) HY.out) ?_)
            | (refine wpList_store_row rfl 32 (.tmp 9) (.tmp 25) rfl W1.heap.size (rxc y).toArray rfl rfl 32 _ HP2.out.1 (size41 y) rfl (by simpa using rs_one [y] (rxc y) (by simp [rsL])) ?_; rw [HG2.out])
            | (refine wpList_load_row rfl 32 (.tmp 8) rfl wr.heap.size rfl 32 (rxc x).toArray (0, 0) _ HAA.out.2.1 Tryz.underlying32 rfl (size41 x) ?_)
            | (refine wpList_load_row rfl 32 (.tmp 9) rfl W1.heap.size rfl 32 (rxc y).toArray (0, 0) _ HAA.out.2.2 Tryz.underlying32 rfl (size41 y) ?_)
            | (go_at_call 17; refine Calls.mono HC.out ?_; rintro e w3 ⟨rfl, ha3⟩; rw [HD.out]; have H3 := show Hid (After W2 w3) from ha3; clear ha3))
          go_ret
          refine ⟨?_, HAA.out.1.trans H3.out⟩
          have : ¬ rsof la = rsof lb := fun e => by have h1 := HXY.out; rw [e] at h1; exact hxy (Option.some.inj (h1.1.symm.trans h1.2))
          simp [this]
      · have hii : ¬ (i : Int) < (n : Int) := by omega
        go_wp2
        go_ret
        refine ⟨?_, HI.out.aft⟩
        have : rsof la = rsof lb := eq_of_pre HFA.out.2.2 HFB.out.2.2 (fun j hj => HI.out.pre j (by omega))
        simp [this]
  · have hnmi : ¬ (n : Int) = (m : Int) := by omega
    have : ¬ rsof la = rsof lb := fun e => hnm (by rw [← hpa, ← hpb, e])
    go_enter Tryz.func16, Tryz.ntmps16
    go_wp2
    go_ret
    exact ⟨by simp [this], After.refl w⟩
set_option maxRecDepth 100000 in
set_option maxHeartbeats 6400000 in
theorem same16 {ao bo : Option Addr} {ca cb : Nat} {la lb : List Rx} {n m : Nat} (hla : la.length = n) (hlb : lb.length = m) (hbig : n ≤ 9223372036854775807) {w : World} (hA : RsAt w ao la) (hB : RsAt w bo lb) :
    Calls Tryz.prog 9 #[.slice ao n ca, .slice bo m cb] w fun e w' => e = .returned (.bool (decide (rsof la = rsof lb))) ∧ After w w' := by
  have HC := show Hid _ from equalF33 (ca := ca) (cb := cb) hla hlb hbig hA hB
  clear hA hB hla hlb
  go_enter Tryz.func9, Tryz.ntmps9
  go_wp2_with (go_at_call 16; refine Calls.mono HC.out ?_; rintro e w2 ⟨rfl, ha2⟩; have HA2 := show Hid (After w w2) from ha2; clear ha2)
  go_ret
  exact ⟨rfl, HA2.out⟩
end Go.Proofs.YtcmcapcagblafaaGreat
