/-
  THE WALK OF ref.Open, FROM THE SUM ON.
-/
import Derived.Test.YtjmjianilcdphaaRefOpenBad
namespace Go.Proofs.Ytjmjianilcdphaa
open Go.RowKit Leb
section
variable {ops : Array Oper} {Q : Exit → Act → World → Prop} {S : World → Prop} {fuel : Nat} {listed : Array Bool} {a : Act} {w : World} {oi : Oper}
/-- Number i, which alone may come up, is a call, by its contract. -/
theorem tkCallS (i d : Nat) (f : FuncId) (args : Array Value) (R : Value → World → Prop) (hi : ops[i]? = some oi) (hd : oi.dst = some d) (hr : Region.ready .any ops listed = [i])
    (hw : Region.wanted oi (yielded ops a.tmps) = true) (hrun : ∀ w, (execOp a.eval oi).run Try.prog w = .ok (.enter f args) w)
    (hc : Calls Try.prog f args w fun e w' => ∃ v, e = .returned v ∧ R v w') (hS : ∀ v w', R v w' → S w')
    (h : ∀ v w', R v w' → wpAnyH Try.prog .any ops Q S fuel (listed.setIfInBounds i true) (a.put (some d) v) w') : wpAnyH Try.prog .any ops Q S (fuel + 1) listed a w :=
  wpAnyH_all hr (by simp) (fun j hj => by
    obtain rfl : j = i := by simpa using hj
    refine wpOp_step hi (fun K' hK => ?_)
    rw [if_pos hw]
    unfold Oper.wp
    rw [hrun, Oper.upon_enter]
    refine hc.mono (fun e w' ⟨v, he, hr⟩ => ?_)
    subst he
    rw [hd]
    exact hK _ _ ⟨hS v w' hr, h v w' hr⟩)
end
theorem take_sum (bs : List UInt8) (E : Nat) : bs.take (E + 4) = bs.take E ++ (bs.drop E).take 4 := by rw [List.take_add]
theorem size36 : (Try.prog.info? 36).map (·.size) = some 2 := by kernel_rfl

set_option maxRecDepth 100000 in
set_option maxHeartbeats 800000 in
theorem ropen_sum (b o cap : Nat) (bs : List UInt8) (n : Nat) (hn : bs.length = n) (hp : 0 < n) (hcap : n ≤ cap) (hbig : n ≤ 140737488355328) (w : World) (hat : BytesAt w (some ⟨b, o, none⟩) bs) (k : UInt8) (KK V : Nat) (H : OpSum bs k KK V) : Calls Try.prog 15 #[.slice (some ⟨b, o, none⟩) n cap] w (RZ w 6) := by
  have hc0 := rcell0 b o bs n hn hp w hat
  have HAT : Hid (BytesAt w (some ⟨b, o, none⟩) bs) := hat
  have HN : Hid (bs.length = n) := hn
  clear hat hn
  have hk0 := u8_eq0 k
  have hn0 : ((n : Int) == 0) = false := by simp; omega
  obtain ⟨hne, hk, hkz, hE, hK, hV, hL, hlen, hsum⟩ := H
  rw [HN.out] at hlen
  rw [hk] at hc0
  rw [decide_eq_false hkz] at hk0
  have hs1 := sl1 b o cap n hp hcap
  have C31 := show Hid _ from rgetU b o cap bs n HN.out hcap w HAT.out
  simp only [hV, hK, hE] at C31
  have HSUM := show Hid _ from hsum
  have HKD : Hid (bs.getD 0 0 = k) := hk
  clear hV hK hE hk hne hsum
  go_enter Try.func15, Try.ntmps15
  go_wp2_with (go_at_call 28; refine (C31.out _ (after_alloc (After.refl w) _)).mono ?_; rintro e w1 ⟨rfl, hb1⟩; have B1 : Hid (After w w1) := After.trans (after_alloc (After.refl w) _) hb1; have hRf : RowIs w1 w.heap.size 36 [.int .u8 0, .slice none 0 0] := (RowIs.new w 36 [.int .u8 0, .slice none 0 0]).below hb1 (by simp); have HRf : Hid (RowIs w1 w.heap.size 36 [.int .u8 0, .slice none 0 0]) := hRf; have q0 := hRf.cell (j := 0) rfl; have q1 := hRf.cell (j := 1) rfl; have f0 := hRf.frozen 0; have f1 := hRf.frozen 1; clear hRf; clear hb1)
  obtain ⟨E, hE⟩ : ∃ E, 1 + KK + V = E := ⟨_, rfl⟩
  have hE1 : (1 : Int) + (KK : Int) + (V : Int) = (E : Int) := by omega
  have HT1 := HAT.out.after B1.out
  obtain ⟨T, hT⟩ : ∃ T, bs.take E = T := ⟨_, rfl⟩
  obtain ⟨Y, hY⟩ : ∃ Y, bs.take (E + 4) = Y := ⟨_, rfl⟩
  have hTl : T.length = E := by rw [← hT, List.length_take, HN.out]; omega
  have hS6 := HSUM.out
  rw [hE, hT] at hS6
  refine wp_region_noPanic ?_
  refine wp_region_held_drew (S := After w1) (by kernel_rfl) (After.drew (After.refl w1)) ?_
  intro hS0
  refine tk 1 48 (.slice (some ⟨b, o, none⟩) n cap) (fuel := 12) rfl (by kernel_rfl) (by kernel_rfl) (by kernel_rfl) (by kernel_rfl) noPanic_false (by kernel_rfl) (fun _ _ => by kernel_rfl) hS0 ?_
  refine tk 2 49 (.int .i64 (E : Int)) (fuel := 11) rfl (by kernel_rfl) (by kernel_rfl) (by kernel_rfl) (by kernel_rfl) noPanic_false (by kernel_rfl) (fun _ _ => by rw [← hE1]; kernel_rfl) hS0 ?_
  refine tk 3 50 (.slice (some ⟨b, o, none⟩) E cap) (fuel := 10) rfl (by kernel_rfl) (by kernel_rfl) (by kernel_rfl) (by kernel_rfl) noPanic_false (by kernel_rfl) (fun _ _ => x_slice (x := .tmp 48) (y := .tmp 49) (b := b) (off := o) (len := n) (cap := cap) (k := E) (by kernel_rfl) (by kernel_rfl) (by kernel_rfl) (by omega)) hS0 ?_
  refine tk 7 54 (.slice (some ⟨b, o, none⟩) n cap) (fuel := 9) rfl (by kernel_rfl) (by kernel_rfl) (by kernel_rfl) (by kernel_rfl) noPanic_false (by kernel_rfl) (fun _ _ => by kernel_rfl) hS0 ?_
  refine tk 8 55 (.int .i64 (E : Int)) (fuel := 8) rfl (by kernel_rfl) (by kernel_rfl) (by kernel_rfl) (by kernel_rfl) noPanic_false (by kernel_rfl) (fun _ _ => by rw [← hE1]; kernel_rfl) hS0 ?_
  refine tk 9 56 (.int .i64 ((E + 4 : Nat) : Int)) (fuel := 7) rfl (by kernel_rfl) (by kernel_rfl) (by kernel_rfl) (by kernel_rfl) noPanic_false (by kernel_rfl) (fun _ _ => x_add4 (x := .tmp 55) (y := .const (.int .i64 4)) (n := E) (by kernel_rfl) (by kernel_rfl) (by kernel_rfl) (by omega)) hS0 ?_
  refine tk 10 57 (.slice (some ⟨b, o, none⟩) (E + 4) cap) (fuel := 6) rfl (by kernel_rfl) (by kernel_rfl) (by kernel_rfl) (by kernel_rfl) noPanic_false (by kernel_rfl) (fun _ _ => x_slice (x := .tmp 54) (y := .tmp 56) (b := b) (off := o) (len := n) (cap := cap) (k := E + 4) (by kernel_rfl) (by kernel_rfl) (by kernel_rfl) (by omega)) hS0 ?_
  refine tk 11 58 (.string (strOf Y)) (fuel := 5) rfl (by kernel_rfl) (by kernel_rfl) (by kernel_rfl) (by kernel_rfl) noPanic_false (by kernel_rfl) (fun W hW => x_conv (x := .tmp 57) (by kernel_rfl) (by kernel_rfl) (by rw [← hY]; exact conv_take cap (E + 4) (HT1.after hW) (by rw [HN.out]; omega))) hS0 ?_
  refine tkVal 0 47 (.slice (some ⟨w1.drew.heap.size, 0, none⟩) 0 0) (w1.drew.alloc (.cells #[] 5)) (fuel := 4) rfl (by kernel_rfl) (by kernel_rfl) (by kernel_rfl) (x_fresh (by kernel_rfl)) (after_alloc hS0 _) ?_
  have hA2 : After w1 (w1.drew.alloc (.cells #[] 5)) := after_alloc hS0 _
  refine tkApp 4 51 (.tmp 47) (.tmp 50) (fuel := 3) rfl (by kernel_rfl) (by kernel_rfl) (by kernel_rfl) (by kernel_rfl) w1.drew.heap.size _ [] (by kernel_rfl) (Own.fresh w1.drew) (Nat.le_refl _) (some ⟨b, o, none⟩) cap T E hTl (by kernel_rfl) (by rw [← hT]; exact (HT1.after hA2).take E) (by simp only [List.length_nil]; omega) (by simp) hA2 ?_
  intro v3 w3 ho3 t3 _
  rw [List.nil_append] at ho3
  refine tkCallS 5 52 24 #[v3] (fun v w' => Own w' w1.drew.heap.size v (withSum T) ∧ Below w1.drew.heap.size w3 w') (fuel := 2) rfl (by kernel_rfl) (by kernel_rfl) (by kernel_rfl) (fun _ => by kernel_rfl) (summed_any w1.drew.heap.size v3 T (by omega) w3 ho3 t3.size) (fun v w' h => Below.trans t3 h.2) ?_
  intro v4 w4 r4
  have t4 : After w1 w4 := Below.trans t3 r4.2
  refine tkVal 6 53 (.string (strOf (withSum T))) w4 (fuel := 1) rfl (by kernel_rfl) (by kernel_rfl) (by kernel_rfl) (x_conv (x := .tmp 52) (by kernel_rfl) (by kernel_rfl) r4.1.conv) t4 ?_
  refine tk 12 59 (.bool true) (fuel := 0) rfl (by kernel_rfl) (by kernel_rfl) (by kernel_rfl) (by kernel_rfl) noPanic_false (by kernel_rfl) (fun _ _ => x_strneq (x := .tmp 53) (y := .tmp 58) (p := withSum T) (q := Y) (by kernel_rfl) (by kernel_rfl) (by kernel_rfl) (fun he => hS6 (by rw [← hY, take_sum, hT] at he; exact List.append_cancel_left he))) t4 ?_
  refine wpAnyH_done (by kernel_rfl) (NoPanic.normal ?_) _
  go_simp
  have hR4 : RowIs w4 w.heap.size 36 [.int .u8 0, .slice none 0 0] := HRf.out.below t4 HRf.out.lt
  have B4 : After w w4 := After.trans B1.out t4
  have HR4 : Hid (RowIs w4 w.heap.size 36 [.int .u8 0, .slice none 0 0]) := hR4
  have HB4 : Hid (After w w4) := B4
  have p0 := hR4.cell (j := 0) rfl
  have p1 := hR4.cell (j := 1) rfl
  have g0 := hR4.frozen 0
  have g1 := hR4.frozen 1
  clear hR4 B4 r4 ho3 t3 t4 hA2 hS0 hE1
  go_wp2
  have r1 := (HR4.out.set 0 (.int .u8 0)).set 1 (.slice none 0 0)
  have b1 := after_set (after_set HB4.out ⟨w.heap.size, 0, none⟩ (Nat.le_refl _) (.int .u8 0)) ⟨w.heap.size, 1, none⟩ (Nat.le_refl _) (.slice none 0 0)
  generalize (w4.setCell ⟨w.heap.size, 0, none⟩ (.int .u8 0)).setCell ⟨w.heap.size, 1, none⟩ (.slice none 0 0) = w9 at r1 b1 ⊢
  have h0 := r1.cell (j := 0) rfl
  have h1 := r1.cell (j := 1) rfl
  exact bodyPost_ret (v := .tuple #[.agg #[.int .u8 0, .slice none 0 0], .int .i64 0, .int .i64 6]) (by simp [results, Try.results15, go_sem, h0, h1]) rfl ⟨rfl, b1⟩

set_option maxRecDepth 100000 in
set_option maxHeartbeats 800000 in
theorem ropen_ok (b o cap : Nat) (bs : List UInt8) (n : Nat) (hn : bs.length = n) (hp : 0 < n) (hcap : n ≤ cap) (hbig : n ≤ 140737488355328) (w : World) (hat : BytesAt w (some ⟨b, o, none⟩) bs) (k : UInt8) (KK V : Nat) (H : OpOk bs k KK V) :
    Calls Try.prog 15 #[.slice (some ⟨b, o, none⟩) n cap] w fun x w' => ∃ v, x = .returned (.tuple #[.agg #[.int .u8 (k.toNat : Int), v], .int .i64 ((1 + KK + V + 4 : Nat) : Int), .int .i64 0]) ∧ Own w' w.heap.size v ((bs.drop (1 + KK)).take V) ∧ After w w' := by
  have hc0 := rcell0 b o bs n hn hp w hat
  have HAT : Hid (BytesAt w (some ⟨b, o, none⟩) bs) := hat
  have HN : Hid (bs.length = n) := hn
  clear hat hn
  have hk0 := u8_eq0 k
  have hn0 : ((n : Int) == 0) = false := by simp; omega
  obtain ⟨hne, hk, hkz, hE, hK, hV, hL, hlen, hsum⟩ := H
  rw [HN.out] at hlen
  rw [hk] at hc0
  rw [decide_eq_false hkz] at hk0
  have hs1 := sl1 b o cap n hp hcap
  have C31 := show Hid _ from rgetU b o cap bs n HN.out hcap w HAT.out
  simp only [hV, hK, hE] at C31
  have HSUM := show Hid _ from hsum
  have HKD : Hid (bs.getD 0 0 = k) := hk
  clear hV hK hE hk hne hsum
  go_enter Try.func15, Try.ntmps15
  go_wp2_with (go_at_call 28; refine (C31.out _ (after_alloc (After.refl w) _)).mono ?_; rintro e w1 ⟨rfl, hb1⟩; have B1 : Hid (After w w1) := After.trans (after_alloc (After.refl w) _) hb1; have hRf : RowIs w1 w.heap.size 36 [.int .u8 0, .slice none 0 0] := (RowIs.new w 36 [.int .u8 0, .slice none 0 0]).below hb1 (by simp); have HRf : Hid (RowIs w1 w.heap.size 36 [.int .u8 0, .slice none 0 0]) := hRf; have q0 := hRf.cell (j := 0) rfl; have q1 := hRf.cell (j := 1) rfl; have f0 := hRf.frozen 0; have f1 := hRf.frozen 1; clear hRf; clear hb1)
  obtain ⟨E, hE⟩ : ∃ E, 1 + KK + V = E := ⟨_, rfl⟩
  have hE1 : (1 : Int) + (KK : Int) + (V : Int) = (E : Int) := by omega
  have HT1 := HAT.out.after B1.out
  obtain ⟨T, hT⟩ : ∃ T, bs.take E = T := ⟨_, rfl⟩
  obtain ⟨Y, hY⟩ : ∃ Y, bs.take (E + 4) = Y := ⟨_, rfl⟩
  have hTl : T.length = E := by rw [← hT, List.length_take, HN.out]; omega
  have hS6 := HSUM.out
  rw [hE, hT] at hS6
  refine wp_region_noPanic ?_
  refine wp_region_held_drew (S := After w1) (by kernel_rfl) (After.drew (After.refl w1)) ?_
  intro hS0
  refine tk 1 48 (.slice (some ⟨b, o, none⟩) n cap) (fuel := 12) rfl (by kernel_rfl) (by kernel_rfl) (by kernel_rfl) (by kernel_rfl) noPanic_false (by kernel_rfl) (fun _ _ => by kernel_rfl) hS0 ?_
  refine tk 2 49 (.int .i64 (E : Int)) (fuel := 11) rfl (by kernel_rfl) (by kernel_rfl) (by kernel_rfl) (by kernel_rfl) noPanic_false (by kernel_rfl) (fun _ _ => by rw [← hE1]; kernel_rfl) hS0 ?_
  refine tk 3 50 (.slice (some ⟨b, o, none⟩) E cap) (fuel := 10) rfl (by kernel_rfl) (by kernel_rfl) (by kernel_rfl) (by kernel_rfl) noPanic_false (by kernel_rfl) (fun _ _ => x_slice (x := .tmp 48) (y := .tmp 49) (b := b) (off := o) (len := n) (cap := cap) (k := E) (by kernel_rfl) (by kernel_rfl) (by kernel_rfl) (by omega)) hS0 ?_
  refine tk 7 54 (.slice (some ⟨b, o, none⟩) n cap) (fuel := 9) rfl (by kernel_rfl) (by kernel_rfl) (by kernel_rfl) (by kernel_rfl) noPanic_false (by kernel_rfl) (fun _ _ => by kernel_rfl) hS0 ?_
  refine tk 8 55 (.int .i64 (E : Int)) (fuel := 8) rfl (by kernel_rfl) (by kernel_rfl) (by kernel_rfl) (by kernel_rfl) noPanic_false (by kernel_rfl) (fun _ _ => by rw [← hE1]; kernel_rfl) hS0 ?_
  refine tk 9 56 (.int .i64 ((E + 4 : Nat) : Int)) (fuel := 7) rfl (by kernel_rfl) (by kernel_rfl) (by kernel_rfl) (by kernel_rfl) noPanic_false (by kernel_rfl) (fun _ _ => x_add4 (x := .tmp 55) (y := .const (.int .i64 4)) (n := E) (by kernel_rfl) (by kernel_rfl) (by kernel_rfl) (by omega)) hS0 ?_
  refine tk 10 57 (.slice (some ⟨b, o, none⟩) (E + 4) cap) (fuel := 6) rfl (by kernel_rfl) (by kernel_rfl) (by kernel_rfl) (by kernel_rfl) noPanic_false (by kernel_rfl) (fun _ _ => x_slice (x := .tmp 54) (y := .tmp 56) (b := b) (off := o) (len := n) (cap := cap) (k := E + 4) (by kernel_rfl) (by kernel_rfl) (by kernel_rfl) (by omega)) hS0 ?_
  refine tk 11 58 (.string (strOf Y)) (fuel := 5) rfl (by kernel_rfl) (by kernel_rfl) (by kernel_rfl) (by kernel_rfl) noPanic_false (by kernel_rfl) (fun W hW => x_conv (x := .tmp 57) (by kernel_rfl) (by kernel_rfl) (by rw [← hY]; exact conv_take cap (E + 4) (HT1.after hW) (by rw [HN.out]; omega))) hS0 ?_
  refine tkVal 0 47 (.slice (some ⟨w1.drew.heap.size, 0, none⟩) 0 0) (w1.drew.alloc (.cells #[] 5)) (fuel := 4) rfl (by kernel_rfl) (by kernel_rfl) (by kernel_rfl) (x_fresh (by kernel_rfl)) (after_alloc hS0 _) ?_
  have hA2 : After w1 (w1.drew.alloc (.cells #[] 5)) := after_alloc hS0 _
  refine tkApp 4 51 (.tmp 47) (.tmp 50) (fuel := 3) rfl (by kernel_rfl) (by kernel_rfl) (by kernel_rfl) (by kernel_rfl) w1.drew.heap.size _ [] (by kernel_rfl) (Own.fresh w1.drew) (Nat.le_refl _) (some ⟨b, o, none⟩) cap T E hTl (by kernel_rfl) (by rw [← hT]; exact (HT1.after hA2).take E) (by simp only [List.length_nil]; omega) (by simp) hA2 ?_
  intro v3 w3 ho3 t3 _
  rw [List.nil_append] at ho3
  refine tkCallS 5 52 24 #[v3] (fun v w' => Own w' w1.drew.heap.size v (withSum T) ∧ Below w1.drew.heap.size w3 w') (fuel := 2) rfl (by kernel_rfl) (by kernel_rfl) (by kernel_rfl) (fun _ => by kernel_rfl) (summed_any w1.drew.heap.size v3 T (by omega) w3 ho3 t3.size) (fun v w' h => Below.trans t3 h.2) ?_
  intro v4 w4 r4
  have t4 : After w1 w4 := Below.trans t3 r4.2
  refine tkVal 6 53 (.string (strOf (withSum T))) w4 (fuel := 1) rfl (by kernel_rfl) (by kernel_rfl) (by kernel_rfl) (x_conv (x := .tmp 52) (by kernel_rfl) (by kernel_rfl) r4.1.conv) t4 ?_
  refine tk 12 59 (.bool false) (fuel := 0) rfl (by kernel_rfl) (by kernel_rfl) (by kernel_rfl) (by kernel_rfl) noPanic_false (by kernel_rfl) (fun _ _ => x_streqf (x := .tmp 53) (y := .tmp 58) (s := strOf (withSum T)) (t := strOf Y) (by kernel_rfl) (by kernel_rfl) (by kernel_rfl) (by rw [← hY, take_sum, hT, ← hS6]; rfl)) t4 ?_
  refine wpAnyH_done (by kernel_rfl) (NoPanic.normal ?_) _
  go_simp
  go_wp2
  have hR4 : RowIs w4 w.heap.size 36 [.int .u8 0, .slice none 0 0] := HRf.out.below t4 HRf.out.lt
  have B4 : After w w4 := After.trans B1.out t4
  have hk3 : ∀ W, After w W → W.cell? ⟨b, o, none⟩ = some (.int .u8 (k.toNat : Int)) := fun W hW => by
    obtain ⟨b', o', he, hc⟩ := (HAT.out.after hW) (by intro h; have := HN.out; rw [h] at this; simp at this; omega)
    cases he
    have := hc 0 (by rw [HN.out]; omega)
    have h0 : bs.getD 0 0 = k := HKD.out
    rwa [h0] at this
  obtain ⟨ST, hST⟩ : ∃ ST, 1 + KK = ST := ⟨_, rfl⟩
  obtain ⟨D, hD⟩ : ∃ D, (bs.drop ST).take V = D := ⟨_, rfl⟩
  have hDl : D.length = E - ST := by rw [← hD, List.length_take, List.length_drop, HN.out]; omega
  have hDat : ∀ W, After w W → BytesAt W (some ⟨b, o + ST, none⟩) D := fun W hW => by rw [← hD]; exact ((HAT.out.after hW).dropAt ST).take V
  refine wp_region_noPanic ?_
  refine wp_region_held_drew (S := After w) (by kernel_rfl) (After.drew B4) ?_
  intro hS5
  have hR5 : RowIs w4.drew w.heap.size 36 [.int .u8 0, .slice none 0 0] := hR4
  refine tk 0 61 (.slice (some ⟨b, o, none⟩) n cap) (fuel := 15) rfl (by kernel_rfl) (by kernel_rfl) (by kernel_rfl) (by kernel_rfl) noPanic_false (by kernel_rfl) (fun _ _ => by kernel_rfl) hS5 ?_
  refine tk 1 62 (.pointer (some ⟨b, o, none⟩)) (fuel := 14) rfl (by kernel_rfl) (by kernel_rfl) (by kernel_rfl) (by kernel_rfl) noPanic_false (by kernel_rfl) (fun _ _ => x_index22 (x := .tmp 61) (y := .const (.int .i64 0)) (b := b) (off := o) (len := n) (cap := cap) (by kernel_rfl) (by kernel_rfl) (by kernel_rfl) hp) hS5 ?_
  refine tk 2 63 (.int .u8 (k.toNat : Int)) (fuel := 13) rfl (by kernel_rfl) (by kernel_rfl) (by kernel_rfl) (by kernel_rfl) noPanic_false (by kernel_rfl) (fun W hW => x_load5 (x := .tmp 62) (g := b) (p := o) (by kernel_rfl) (by kernel_rfl) (hk3 W hW)) hS5 ?_
  refine tk 4 65 (.slice (some ⟨b, o, none⟩) n cap) (fuel := 12) rfl (by kernel_rfl) (by kernel_rfl) (by kernel_rfl) (by kernel_rfl) noPanic_false (by kernel_rfl) (fun _ _ => by kernel_rfl) hS5 ?_
  refine tk 5 66 (.int .i64 (KK : Int)) (fuel := 11) rfl (by kernel_rfl) (by kernel_rfl) (by kernel_rfl) (by kernel_rfl) noPanic_false (by kernel_rfl) (fun _ _ => by kernel_rfl) hS5 ?_
  refine tk 6 67 (.int .i64 ((1 + KK : Nat) : Int)) (fuel := 10) rfl (by kernel_rfl) (by kernel_rfl) (by kernel_rfl) (by kernel_rfl) noPanic_false (by kernel_rfl) (fun _ _ => x_add1 (x := .const (.int .i64 1)) (y := .tmp 66) (n := KK) (by kernel_rfl) (by kernel_rfl) (by kernel_rfl) (by omega)) hS5 ?_
  refine tk 7 68 (.int .i64 (E : Int)) (fuel := 9) rfl (by kernel_rfl) (by kernel_rfl) (by kernel_rfl) (by kernel_rfl) noPanic_false (by kernel_rfl) (fun _ _ => by kernel_rfl) hS5 ?_
  refine tk 8 69 (.slice (some ⟨b, o + ST, none⟩) (E - ST) (cap - ST)) (fuel := 8) rfl (by kernel_rfl) (by kernel_rfl) (by kernel_rfl) (by kernel_rfl) noPanic_false (by kernel_rfl) (fun _ _ => by subst hST; exact x_lohi (x := .tmp 65) (y := .tmp 67) (z := .tmp 68) (b := b) (off := o) (len := n) (cap := cap) (lo := 1 + KK) (hi := E) (by kernel_rfl) (by kernel_rfl) (by kernel_rfl) (by kernel_rfl) (by omega) (by omega) (by omega)) hS5 ?_
  refine tk 11 72 (.int .i64 (E : Int)) (fuel := 7) rfl (by kernel_rfl) (by kernel_rfl) (by kernel_rfl) (by kernel_rfl) noPanic_false (by kernel_rfl) (fun _ _ => by kernel_rfl) hS5 ?_
  refine tk 12 73 (.int .i64 ((E + 4 : Nat) : Int)) (fuel := 6) rfl (by kernel_rfl) (by kernel_rfl) (by kernel_rfl) (by kernel_rfl) noPanic_false (by kernel_rfl) (fun _ _ => x_add4 (x := .tmp 72) (y := .const (.int .i64 4)) (n := E) (by kernel_rfl) (by kernel_rfl) (by kernel_rfl) (by omega)) hS5 ?_
  refine tkVal 3 64 (.slice (some ⟨w4.drew.heap.size, 0, none⟩) 0 0) (w4.drew.alloc (.cells #[] 5)) (fuel := 5) rfl (by kernel_rfl) (by kernel_rfl) (by kernel_rfl) (x_fresh (by kernel_rfl)) (after_alloc hS5 _) ?_
  have hA6 : After w (w4.drew.alloc (.cells #[] 5)) := after_alloc hS5 _
  refine tkApp 9 70 (.tmp 64) (.tmp 69) (fuel := 4) rfl (by kernel_rfl) (by kernel_rfl) (by kernel_rfl) (by kernel_rfl) w4.drew.heap.size _ [] (by kernel_rfl) (Own.fresh w4.drew) hS5.size (some ⟨b, o + ST, none⟩) (cap - ST) D (E - ST) hDl (by kernel_rfl) (hDat _ hA6) (by simp only [List.length_nil]; omega) (by simp) hA6 ?_
  intro v7 w7 ho7 t7 hg7
  rw [List.nil_append] at ho7
  have hR7 : RowIs w7 w.heap.size 36 [.int .u8 0, .slice none 0 0] := by
    unfold RowIs
    have h6 := hR5.alloc (.cells #[] 5)
    rw [hg7.block w.heap.size h6.lt (fun he => by have := (World.ownsRow.lt (Own.fresh w4.drew) _ he.symm).1; have := hR5.lt; omega)]
    exact h6
  obtain ⟨a7, c7, hv7, _, _, _⟩ := Own.at ho7
  rw [hDl] at hv7
  subst hv7
  refine tk 10 71 (.agg #[.int .u8 (k.toNat : Int), .slice a7 (E - ST) c7]) (fuel := 3) rfl (by kernel_rfl) (by kernel_rfl) (by kernel_rfl) (by kernel_rfl) noPanic_false (by kernel_rfl) (fun _ _ => by kernel_rfl) t7 ?_
  refine tkStore 13 w.heap.size 36 (.tmp 2) (.tmp 71) #[.int .u8 (k.toNat : Int), .slice a7 (E - ST) c7] #[.int .u8 0, .slice none 0 0] 36 (fuel := 2) rfl (by kernel_rfl) (by kernel_rfl) (by kernel_rfl) (by kernel_rfl) (by kernel_rfl) (by kernel_rfl) hR7 size36 rfl (by kernel_rfl) (Below.row t7 (Nat.le_refl _) _) ?_
  refine tk 14 3 (.int .i64 ((E + 4 : Nat) : Int)) (fuel := 1) rfl (by kernel_rfl) (by kernel_rfl) (by kernel_rfl) (by kernel_rfl) noPanic_false (by kernel_rfl) (fun _ _ => by kernel_rfl) (Below.row t7 (Nat.le_refl _) _) ?_
  refine tk 15 4 (.int .i64 0) (fuel := 0) rfl (by kernel_rfl) (by kernel_rfl) (by kernel_rfl) (by kernel_rfl) noPanic_false (by kernel_rfl) (fun _ _ => by kernel_rfl) (Below.row t7 (Nat.le_refl _) _) ?_
  refine wpAnyH_done (by kernel_rfl) (NoPanic.normal ?_) _
  have hR8 : RowIs (w7.setRow w.heap.size #[.int .u8 (k.toNat : Int), (.slice a7 (E - ST) c7)]) w.heap.size 36 [.int .u8 (k.toNat : Int), (.slice a7 (E - ST) c7)] := hR7.setRow [.int .u8 (k.toNat : Int), (.slice a7 (E - ST) c7)]
  have h80 := hR8.cell (j := 0) rfl
  have h81 := hR8.cell (j := 1) rfl
  have HO8 : Own (w7.setRow w.heap.size #[.int .u8 (k.toNat : Int), (.slice a7 (E - ST) c7)]) w.heap.size (.slice a7 (E - ST) c7) D := Own.mono (Own.keep ho7 (fun j hj => Go.setRow_other w7 w.heap.size j _ (by have := (World.ownsRow.lt ho7 j hj).1; have := hR5.lt; omega))) hS5.size
  have HB8 : After w (w7.setRow w.heap.size #[.int .u8 (k.toNat : Int), (.slice a7 (E - ST) c7)]) := Below.row t7 (Nat.le_refl _) _
  generalize hW8 : w7.setRow w.heap.size #[.int .u8 (k.toNat : Int), (.slice a7 (E - ST) c7)] = w8 at h80 h81 HO8 HB8 ⊢
  have HO9 := show Hid _ from HO8
  have HB9 := show Hid _ from HB8
  clear hW8 hR8 HO8 HB8
  go_simp
  go_wp2
  exact bodyPost_ret (v := .tuple #[.agg #[.int .u8 (k.toNat : Int), (.slice a7 (E - ST) c7)], .int .i64 ((E + 4 : Nat) : Int), .int .i64 0]) (by simp [results, Try.results15, go_sem, h80, h81]) rfl ⟨_, by rw [hE], by rw [hST, hD]; exact HO9.out, HB9.out⟩
theorem ropen_any (ao : Option Addr) (cap : Nat) (bs : List UInt8) (hcap : bs.length ≤ cap) (hbig : bs.length ≤ 140737488355328) (w : World) (hat : BytesAt w ao bs) : Calls Try.prog 15 #[.slice ao bs.length cap] w (OPost w bs) := by
  have bad : ∀ n : Nat, opE bs = n → ¬ n = 0 → Calls Try.prog 15 #[.slice ao bs.length cap] w (RZ w (n : Int)) → Calls Try.prog 15 #[.slice ao bs.length cap] w (OPost w bs) := fun n h h0 hc => hc.mono (fun e w' ⟨he, hb⟩ => by subst he; exact OPost.bad h h0 hb)
  by_cases hne : bs = []
  · refine bad 22 (by unfold opE; rw [if_pos hne]) (by omega) ?_
    subst hne
    exact ropen_none ao cap w
  · obtain ⟨b, o, rfl, hc⟩ := hat hne
    have hp : 0 < bs.length := List.length_pos_iff.2 hne
    by_cases hz : bs.getD 0 0 = 0
    · exact bad 4 (by unfold opE; rw [if_neg hne, if_pos hz]) (by omega) (ropen_zero b o cap bs _ rfl hp w hat hz)
    · by_cases hE : guE (bs.drop 1) = 0
      · by_cases hL : 1048576 < opV bs
        · exact bad 5 (by unfold opE; rw [if_neg hne, if_neg hz, if_neg (by simpa using hE), if_pos hL]) (by omega) (ropen_long b o cap bs _ rfl hp hcap w hat hz hE _ rfl hL)
        · by_cases hC : bs.length < opEnd bs + 4
          · exact bad 3 (by unfold opE; rw [if_neg hne, if_neg hz, if_neg (by simpa using hE), if_neg hL, if_pos hC]) (by omega) (ropen_cut b o cap bs _ rfl hp hcap hbig w hat hz hE _ rfl (by unfold opV at hL; omega) _ rfl (by unfold opEnd opK opV at hC; omega))
          · by_cases hS : le4 (crc (bs.take (opEnd bs))) = (bs.drop (opEnd bs)).take 4
            · have h : opE bs = 0 := by unfold opE; rw [if_neg hne, if_neg hz, if_neg (by simpa using hE), if_neg hL, if_neg hC, if_neg (by simpa using hS)]
              have H : OpOk bs (bs.getD 0 0) (opK bs) (opV bs) := ⟨hne, rfl, hz, hE, rfl, rfl, by omega, by unfold opEnd at hC; omega, hS⟩
              refine (ropen_ok b o cap bs _ rfl hp hcap hbig w hat _ _ _ H).mono ?_
              rintro e w' ⟨v, rfl, ho, hb⟩
              have e1 : opKind bs = bs.getD 0 0 := by unfold opKind; rw [if_pos h]
              have e2 : opUsed bs = 1 + opK bs + opV bs + 4 := by unfold opUsed opEnd; rw [if_pos h]
              have e3 : opBody bs = (bs.drop (1 + opK bs)).take (opV bs) := by unfold opBody; rw [if_pos h]
              exact ⟨v, by rw [e1, e2, h]; rfl, by rw [e3]; exact ho, hb⟩
            · exact bad 6 (by unfold opE; rw [if_neg hne, if_neg hz, if_neg (by simpa using hE), if_neg hL, if_neg hC, if_pos hS]) (by omega) (ropen_sum b o cap bs _ rfl hp hcap hbig w hat _ _ _ ⟨hne, rfl, hz, hE, rfl, rfl, by unfold opV at hL; omega, by unfold opEnd opK opV at hC; omega, hS⟩)
      · exact bad _ (by unfold opE; rw [if_neg hne, if_neg hz, if_pos hE]) hE (ropen_gu b o cap bs _ rfl hp hcap w hat hz _ rfl hE)
end Go.Proofs.Ytjmjianilcdphaa