/-
  index.laid (23), index.Put (10), index.Check (12).
-/
import Derived.Test.YtcmcapcagblafaaXC
namespace Go.Proofs.Ytcmcapcagblafaa
open Go.RowKit Go.Maps Dsk Leb
attribute [local go_sem] Oper.semAt_some
/-- Bytes of one's own, and all else as it was. -/
structure OwA (w : World) (bs : List UInt8) (v : Value) (wr : World) : Prop where
  own : Own wr w.heap.size v bs
  aft : After w wr
theorem OwA.more {w w1 w2 : World} {bs : List UInt8} {v : Value} (h : OwA w bs v w1) (ha : After w1 w2) : OwA w bs v w2 := ⟨Own.below h.own ha (Nat.le_refl _), h.aft.trans ha⟩
/-- An append to one's own bytes. -/
theorem OwA.app {w w1 w2 : World} {bs bs' : List UInt8} {v v' : Value} (h : OwA w bs v w1) (ho : Own w2 w.heap.size v' bs') (hg : w1.grownBy w2 v.ownBlock) : OwA w bs' v' w2 :=
  ⟨ho, after_grown h.aft hg (Nat.le_refl _) (fun j hj => (World.ownsRow.lt h.own j hj).1)⟩
/-- What is no row of bytes stays where bytes grow. -/
theorem RowIs.keep {w w' : World} {g base : Nat} {t : TypeId} {cs : List Value} {v : Value} {bs : List UInt8} (h : RowIs w g t cs) (ht : t ≠ 5) (ho : Own w base v bs) (hg : w.grownBy w' v.ownBlock) : RowIs w' g t cs := by
  have hne : v.ownBlock ≠ some g := fun e => by
    obtain ⟨_, _, cs', hr⟩ := own_lt ho e
    exact ht (h.ty hr).1
  unfold RowIs
  rw [hg.block g h.lt (Ne.symm hne)]
  exact h
theorem put_sl {ao : Option Addr} {ca : Nat} {l : List H} (h32 : All32 l) {n k : Nat} (hl : l.length = n) (hk : (hsB l).length = k) (hbig : n * 32 + 20 ≤ 140737488355328) {w : World} (hA : SlAt w 32 ao (hsL l)) :
    Calls Try.prog 45 #[.slice ao n ca] w fun e w' => ∃ a c, e = .returned (.slice a k c) ∧ BytesAt w' a (hsB l) ∧ After w w' := by
  refine (put_any ao ca l h32 n hl hbig w (hA.hs h32)).mono ?_
  rintro e w' ⟨v, rfl, ho, ha⟩
  rw [putB_all l hl] at ho
  obtain ⟨a, c, rfl, hb, _⟩ := ho.at
  exact ⟨a, c, by rw [hk], hb, ha⟩
theorem x_bs26 {oi : Oper} {a : Act} {w : World} (hop : oi.op = .buildSlice 26 1 #[(0, .const (.int .u8 1))]) : (execOp a.eval oi).run Try.prog w = .ok (.value (.slice (some ⟨w.heap.size, 0, none⟩) 1 1)) (w.alloc (.cells #[.int .u8 1] 5)) := by
  have hb : (Instr.buildSlice 26 1 #[(0, .int .u8 1)]).run Try.prog w = .ok (.slice (some ⟨w.heap.size, 0, none⟩) 1 1) (w.alloc (.cells #[.int .u8 1] 5)) := by kernel_rfl
  have he : a.eval (.const (.int .u8 1)) = .int .u8 1 := rfl
  unfold execOp
  simp [hop, he, hb]
theorem owa_one (w : World) : OwA w [1] (.slice (some ⟨w.heap.size, 0, none⟩) 1 1) (w.alloc (.cells #[.int .u8 1] 5)) :=
  ⟨row_own (Nat.le_refl _) (RowIs.new w 5 [.int .u8 1]) (Nat.le_refl _) (by decide) rfl rfl, after_alloc (After.refl w) _⟩
/-- The bytes of the first records. -/
def preR (L : List Rc) (i : Nat) : List UInt8 := (1 : UInt8) :: (uintB L.length ++ ((L.take i).map rcB).flatten)
theorem preR_next {L : List Rc} {i : Nat} {r : Rc} (h : L[i]? = some r) : preR L i ++ rcB r = preR L (i + 1) := by
  unfold preR; rw [List.take_add_one, h]; simp
theorem preR_all {L : List Rc} {n : Nat} (h : L.length ≤ n) : preR L n = ixB L := by unfold preR ixB; rw [List.take_of_length_le h]
theorem preR_len {L : List Rc} (hk : MOk L) (h32 : ∀ r ∈ L, R32 r) (i : Nat) : (preR L i).length ≤ 13000000 := by
  unfold preR
  have h1 := flat_bound (f := rcB) (k := 200000) (l := L.take i) (fun r hr => rcB_len (hk.each r (List.mem_of_mem_take hr)) (h32 r (List.mem_of_mem_take hr)))
  have h2 := hk.few
  have h3 := uintB_len10 L.length (by omega)
  have h4 : (L.take i).length ≤ 64 := by rw [List.length_take]; omega
  have h5 : (L.take i).length * 200000 ≤ 64 * 200000 := Nat.mul_le_mul_right _ h4
  simp only [List.length_cons, List.length_append]
  omega
def preB (S : Tb) (j : Nat) : List UInt8 := uintB S.length ++ ((S.take j).map brB).flatten
theorem preB_next {S : Tb} {j : Nat} {p : Dsk.Nm × List H} (h : S[j]? = some p) : preB S j ++ brB p = preB S (j + 1) := by
  unfold preB; rw [List.take_add_one, h]; simp
theorem preB_all {S : Tb} {n : Nat} (h : S.length ≤ n) : preB S n = brsB S := by unfold preB brsB; rw [List.take_of_length_le h]
theorem preB_len {S : Tb} (hk : LOk S) (h32 : ∀ p ∈ S, All32 p.2) (j : Nat) : (preB S j).length ≤ 38410 := by
  unfold preB
  have h1 := flat_bound (f := brB) (k := 600) (l := S.take j) (fun p hp => brB_len (hk.each p (List.mem_of_mem_take hp)).1 (hk.each p (List.mem_of_mem_take hp)).2 (h32 p (List.mem_of_mem_take hp)))
  have h2 := hk.few
  have h3 := uintB_len10 S.length (by omega)
  have h4 : (S.take j).length ≤ 64 := by rw [List.length_take]; omega
  have h5 : (S.take j).length * 600 ≤ 64 * 600 := Nat.mul_le_mul_right _ h4
  simp only [List.length_append]
  omega
set_option maxRecDepth 100000 in
set_option maxHeartbeats 25600000 in
theorem laid23 {la : Option Addr} {ca n : Nat} {X : List Rx} (hl : X.length = n) (hok : MOk (rsof X)) {w : World} (hA : RsAt w la X) : Calls Try.prog 23 #[.slice la n ca] w fun e w' => ∃ v, e = .returned v ∧ OwA w (ixB (rsof X)) v w' := by
  have hn64 : n ≤ 64 := by have := hok.few; rw [rsof_len, hl] at this; exact this
  have HL : Hid (RsAt w la X ∧ X.length = n ∧ MOk (rsof X)) := ⟨hA, hl, hok⟩
  have HPL : Hid (∀ i, (preR (rsof X) i).length ≤ 13000000) := fun i => preR_len hok hA.r32 i
  have HP0 : Hid ([1] ++ uintB n = preR (rsof X) 0) := by unfold preR Hid; rw [rsof_len, hl]; simp
  obtain ⟨k0, hk0⟩ : ∃ k0, (uintB n).length = k0 := ⟨_, rfl⟩
  have hk10 : k0 ≤ 10 := by rw [← hk0]; exact uintB_len10 n (by omega)
  have HU : Hid (∀ W : World, Calls Try.prog 43 #[.int .u64 (n : Int)] W fun e w' => ∃ a c, e = .returned (.slice a k0 c) ∧ BytesAt w' a (uintB n) ∧ After W w') := fun W => uint_sl n k0 (by omega) hk0 W
  have HK0 : Hid ((uintB n).length = k0) := hk0
  have hn63 : n < 9223372036854775808 := by omega
  clear hA hl hok hk0
  go_enter Try.func23, Try.ntmps23
  go_wp2_with (first
    | (refine wpList_of_run rfl (x_bs26 rfl) ?_
       obtain ⟨v1, hv1⟩ : ∃ v1 : Value, (.slice (some ⟨w.heap.size, 0, none⟩) 1 1 : Value) = v1 := ⟨_, rfl⟩
       obtain ⟨w1, hw1⟩ : ∃ w1, w.alloc (.cells #[.int .u8 1] 5) = w1 := ⟨_, rfl⟩
       have HO1 : Hid (OwA w [1] v1 w1) := by rw [← hv1, ← hw1]; exact owa_one w
       rw [hv1, hw1]; clear hv1 hw1)
    | (go_at_call 43; refine Calls.mono (HU.out _) ?_; rintro e w2 ⟨a2, c2, rfl, hb2, ha2⟩; have H2 : Hid (BytesAt w2 a2 (uintB n) ∧ OwA w [1] v1 w2) := ⟨hb2, HO1.out.more ha2⟩; clear hb2 ha2)
    | (at_builtin; refine wpList_append_any rfl (.tmp 8) (.tmp 12) rfl w.heap.size v1 [1] rfl H2.out.2.own a2 c2 (uintB n) k0 HK0.out rfl H2.out.1 (by have := HK0.out; simp only [List.length_cons, List.length_nil]; omega) H2.out.2.aft.size ?_
       intro v3 w3 ho3 hg3
       have H3 : Hid (OwA w (preR (rsof X) 0) v3 w3) := H2.out.2.app (by rw [← HP0.out]; exact ho3) hg3
       clear ho3 hg3))
  go_loopw [3, 16] (fun v iv wr => ∃ i : Nat, i ≤ n ∧ iv = .int .i64 (i : Int) ∧ Hid (OwA w (preR (rsof X) i) v wr)) (fun _ iv _ => n - (intOf iv).toNat)
  case atStart => exact ⟨0, Nat.zero_le _, rfl, H3⟩
  case round =>
    obtain ⟨i, hin, rfl, HI⟩ := hrel
    obtain ⟨v, rfl⟩ : ∃ v, v = u3 := ⟨_, rfl⟩
    by_cases hlt : i < n
    · have hii : (i : Int) < (n : Int) := by omega
      have HLT : Hid (i < n) := hlt
      obtain ⟨x, hx⟩ : ∃ x, X[i]? = some x := ⟨_, List.getElem?_eq_getElem (by rw [HL.out.2.1]; exact hlt)⟩
      have hxb := HL.out.1.each x (List.mem_of_getElem? hx)
      have hro := HL.out.2.2.at' hx
      obtain ⟨xb, xo, hla, hlr⟩ := HL.out.1.sl.at (rs_get hx)
      subst hla
      have HX : Hid (wr.rangeAt xb (xo + i * 3) (rxc x)) := range_after hlr HI.out.aft
      obtain ⟨k, hk⟩ : ∃ k, x.X.length = k := ⟨_, rfl⟩
      obtain ⟨p, hp⟩ : ∃ p, x.l.length = p := ⟨_, rfl⟩
      have hk64 : k ≤ 64 := by have := hro.brs.few; rw [show (rof x).2.1.length = x.X.length from bof_len _, hk] at this; exact this
      have hp4 : p ≤ 4096 := by have := hro.few; rw [show (rof x).2.2.length = x.l.length from rfl, hp] at this; exact this
      have hk63 : k < 9223372036854775808 := by omega
      have hnm : x.nm.length ≤ 32 := nmB_len hro.nam
      obtain ⟨s0, hs0⟩ : ∃ s0, (textB x.nm).length = s0 := ⟨_, rfl⟩
      obtain ⟨s1, hs1⟩ : ∃ s1, (uintB k).length = s1 := ⟨_, rfl⟩
      obtain ⟨s2, hs2⟩ : ∃ s2, (hsB x.l).length = s2 := ⟨_, rfl⟩
      have hs0b : s0 ≤ 42 := by rw [← hs0]; exact textB_len hnm
      have hs1b : s1 ≤ 10 := by rw [← hs1]; exact uintB_len10 k (by omega)
      have hs2b : s2 ≤ 131082 := by rw [← hs2]; have := hsB_len hxb.l32 (by rw [hp]; exact hp4); omega
      have HS : Hid ((textB x.nm).length = s0 ∧ (uintB k).length = s1 ∧ (hsB x.l).length = s2) := ⟨hs0, hs1, hs2⟩
      obtain ⟨w2, hw2⟩ : ∃ w2, (wr.alloc (.cells (rxc zrx).toArray 41)).setRow wr.heap.size (rxc x).toArray = w2 := ⟨_, rfl⟩
      have hbb := put41 hw2
      obtain ⟨gb, hgb⟩ : ∃ gb, wr.heap.size = gb := ⟨_, rfl⟩
      have HB := show Hid _ from hbb
      have HGW := show Hid _ from hw2
      rw [hgb] at HB HGW
      have HGA := show Hid (wr.heap.size = gb) from hgb
      have hb' := HB.out.2.1
      unfold rxc at hb'
      rw [hk, hp] at hb'
      have HBR : Hid (RowIs w2 gb 41 [.string (strOf x.nm), .slice x.ba k x.bc, .slice x.a p x.c]) := hb'
      have HI2 : Hid (OwA w (preR (rsof X) i) v w2) := HI.out.more HB.out.2.2
      have HXA : Hid (RxAt w x ∧ x.X.length = k ∧ x.l.length = p ∧ X[i]? = some x ∧ ROk (rof x)) := ⟨hxb, hk, hp, hx, hro⟩
      have HTX : Hid (∀ W : World, Calls Try.prog 44 #[.string (strOf x.nm)] W fun e w' => ∃ a c, e = .returned (.slice a s0 c) ∧ BytesAt w' a (textB x.nm) ∧ After W w') := fun W => text_sl x.nm s0 (by omega) hs0 W
      have HUK : Hid (∀ W : World, Calls Try.prog 43 #[.int .u64 (k : Int)] W fun e w' => ∃ a c, e = .returned (.slice a s1 c) ∧ BytesAt w' a (uintB k) ∧ After W w') := fun W => uint_sl k s1 (by omega) hs1 W
      have HBL : Hid (∀ j, (preB (bof x.X) j).length ≤ 38410) := fun j => preB_len hro.brs hxb.r32.brs j
      have HB0 : Hid (uintB k = preB (bof x.X) 0) := by unfold preB Hid; rw [bof_len, hk]; simp
      have HPI : Hid ((preR (rsof X) i).length ≤ 13000000) := HPL.out i
      have d0 := HBR.out.cell (j := 0) rfl
      clear hx hxb hlr hk hp hw2 hbb hgb hb' hs0 hs1 hs2 hro hnm
      go_wp2_with (first
        | (refine wpList_of_run rfl (x_ix22 (x := .tmp 14) (y := .tmp 16) (b := xb) (f := xo) (n := n) (c := ca) (i := i) rfl (by kernel_rfl) (by kernel_rfl) HLT.out) ?_)
        | (refine wpList_of_run rfl (x_ld41 (x := .tmp 18) (g := xb) (p := xo + i * 3) (y := x) rfl (by kernel_rfl) HX.out) ?_)
        | (refine wpList_of_run rfl (x_al41 rfl) ?_; rw [HGA.out])
        | (refine wpList_store_row rfl 41 (.tmp 5) (.tmp 19) rfl gb (rxc x).toArray (by kernel_rfl) (by kernel_rfl) 41 _ HB.out.1 (size41 x) rfl (by simpa using rs_one [x] (rxc x) (by simp [rsL])) ?_; rw [HGW.out])
        | (go_at_call 44; refine Calls.mono (HTX.out _) ?_; rintro e w3 ⟨a3, c3, rfl, hb3, ha3⟩; have H3a : Hid (BytesAt w3 a3 (textB x.nm) ∧ OwA w (preR (rsof X) i) v w3 ∧ After w2 w3) := ⟨hb3, HI2.out.more ha3, ha3⟩; clear hb3 ha3)
        | (at_builtin; refine wpList_append_any rfl (.tmp 20) (.tmp 23) rfl w.heap.size v (preR (rsof X) i) rfl H3a.out.2.1.own a3 c3 (textB x.nm) s0 HS.out.1 rfl H3a.out.1 (by have := HS.out.1; have := HPI.out; omega) H3a.out.2.1.aft.size ?_
           intro v4 w4 ho4 hg4
           have H4 : Hid (OwA w (preR (rsof X) i ++ textB x.nm) v4 w4 ∧ RowIs w4 gb 41 [.string (strOf x.nm), .slice x.ba k x.bc, .slice x.a p x.c]) := ⟨H3a.out.2.1.app ho4 hg4, (HBR.out.below H3a.out.2.2 HBR.out.lt).keep (by decide) H3a.out.2.1.own hg4⟩
           have d1 := H4.out.2.cell (j := 1) rfl
           clear ho4 hg4)
        | (go_at_call 43; refine Calls.mono (HUK.out _) ?_; rintro e w5 ⟨a5, c5, rfl, hb5, ha5⟩; have H5 : Hid (BytesAt w5 a5 (uintB k) ∧ OwA w (preR (rsof X) i ++ textB x.nm) v4 w5 ∧ After w4 w5) := ⟨hb5, H4.out.1.more ha5, ha5⟩; clear hb5 ha5)
        | (at_builtin; refine wpList_append_any rfl (.tmp 25) (.tmp 30) rfl w.heap.size v4 (preR (rsof X) i ++ textB x.nm) rfl H5.out.2.1.own a5 c5 (uintB k) s1 HS.out.2.1 rfl H5.out.1 (by have := HS.out.1; have := HS.out.2.1; have := HPI.out; rw [List.length_append]; omega) H5.out.2.1.aft.size ?_
           intro v6 w6 ho6 hg6
           have H6 : Hid (OwA w (preR (rsof X) i ++ textB x.nm ++ preB (bof x.X) 0) v6 w6) := by rw [← HB0.out]; exact H5.out.2.1.app ho6 hg6
           have H6b : Hid (RowIs w6 gb 41 [.string (strOf x.nm), .slice x.ba k x.bc, .slice x.a p x.c]) := (H4.out.2.below H5.out.2.2 H4.out.2.lt).keep (by decide) H5.out.2.1.own hg6
           have e1 := H6b.out.cell (j := 1) rfl
           clear ho6 hg6))
      clear d0 d1
      go_loopw [3, 35] (fun v' jv wj => ∃ j : Nat, j ≤ k ∧ jv = .int .i64 (j : Int) ∧ Hid (OwA w (preR (rsof X) i ++ textB x.nm ++ preB (bof x.X) j) v' wj ∧ RowIs wj gb 41 [.string (strOf x.nm), .slice x.ba k x.bc, .slice x.a p x.c])) (fun _ jv _ => k - (intOf jv).toNat)
      case atStart => exact ⟨0, Nat.zero_le _, rfl, H6.out, H6b.out⟩
      case round =>
        obtain ⟨j, hjk, rfl, HJ⟩ := hrel
        obtain ⟨vj, rfl⟩ : ∃ v, v = u3 := ⟨_, rfl⟩
        by_cases hlt2 : j < k
        · have hjj : (j : Int) < (k : Int) := by omega
          have HLT2 : Hid (j < k) := hlt2
          obtain ⟨y, hy⟩ : ∃ y, x.X[j]? = some y := ⟨_, List.getElem?_eq_getElem (by rw [HXA.out.2.1]; exact hlt2)⟩
          have hyb := HXA.out.1.bs.each y (List.mem_of_getElem? hy)
          have hyo := HXA.out.2.2.2.2.brs.each _ (List.mem_of_getElem? (bof_get hy))
          obtain ⟨yb, yo, hya, hyr⟩ := HXA.out.1.bs.sl.at (bs_get hy)
          have HYA : Hid (x.ba = some ⟨yb, yo, none⟩) := hya
          have HY : Hid (wr.rangeAt yb (yo + j * 2) (brc y)) := range_after hyr HJ.out.1.aft
          obtain ⟨q, hq⟩ : ∃ q, y.l.length = q := ⟨_, rfl⟩
          have hq16 : q ≤ 16 := by rw [← hq]; exact mayB_len hyo.2
          have hynm : y.nm.length ≤ 32 := nmB_len hyo.1
          obtain ⟨t0, ht0⟩ : ∃ t0, (textB y.nm).length = t0 := ⟨_, rfl⟩
          obtain ⟨t1, ht1⟩ : ∃ t1, (hsB y.l).length = t1 := ⟨_, rfl⟩
          have ht0b : t0 ≤ 42 := by rw [← ht0]; exact textB_len hynm
          have ht1b : t1 ≤ 522 := by rw [← ht1]; have := hsB_len hyb.l32 (by omega); omega
          have HT : Hid ((textB y.nm).length = t0 ∧ (hsB y.l).length = t1) := ⟨ht0, ht1⟩
          obtain ⟨x2, hx2⟩ : ∃ x2, (wr.alloc (.cells (brc zbx).toArray 65)).setRow wr.heap.size (brc y).toArray = x2 := ⟨_, rfl⟩
          have hbb := put48 hx2
          obtain ⟨hb, hhb⟩ : ∃ hb, wr.heap.size = hb := ⟨_, rfl⟩
          have HC := show Hid _ from hbb
          have HGX := show Hid _ from hx2
          rw [hhb] at HC HGX
          have HGC := show Hid (wr.heap.size = hb) from hhb
          have hc' := HC.out.2.1
          unfold brc Bx.v at hc'
          rw [hq] at hc'
          have HCR : Hid (RowIs x2 hb 65 [.string (strOf y.nm), .slice y.a q y.c]) := hc'
          have HJ2 : Hid (OwA w (preR (rsof X) i ++ textB x.nm ++ preB (bof x.X) j) vj x2 ∧ RowIs x2 gb 41 [.string (strOf x.nm), .slice x.ba k x.bc, .slice x.a p x.c]) := ⟨HJ.out.1.more HC.out.2.2, HJ.out.2.below HC.out.2.2 HJ.out.2.lt⟩
          have HTY : Hid (∀ W : World, Calls Try.prog 44 #[.string (strOf y.nm)] W fun e w' => ∃ a c, e = .returned (.slice a t0 c) ∧ BytesAt w' a (textB y.nm) ∧ After W w') := fun W => text_sl y.nm t0 (by omega) ht0 W
          have HPY : Hid (∀ W : World, After w W → Calls Try.prog 45 #[.slice y.a q y.c] W fun e w' => ∃ a c, e = .returned (.slice a t1 c) ∧ BytesAt w' a (hsB y.l) ∧ After W w') := fun W hW => put_sl (ca := y.c) hyb.l32 hq ht1 (by omega) (hyb.sl.after hW)
          have HBN : Hid (preB (bof x.X) j ++ brB (y.nm, y.l) = preB (bof x.X) (j + 1)) := preB_next (bof_get hy)
          have HBJ : Hid ((preB (bof x.X) j).length ≤ 38410) := HBL.out j
          have b0 := HCR.out.cell (j := 0) rfl
          clear hy hyb hyr hya hq hx2 hbb hhb hc' ht0 ht1 hyo
          go_wp2_with (first
            | (refine wpList_of_run rfl (x_idx25 (x := .tmp 33) (y := .tmp 35) (b := yb) (f := yo) (n := k) (c := x.bc) (i := j) rfl (by rw [← HYA.out]; kernel_rfl) (by kernel_rfl) HLT2.out) ?_)
            | (refine wpList_of_run rfl (x_ld48 (x := .tmp 37) (g := yb) (p := yo + j * 2) (y := y) rfl (by kernel_rfl) HY.out) ?_)
            | (refine wpList_of_run rfl (x_al48 rfl) ?_; rw [HGC.out])
            | (refine wpList_store_row rfl 65 (.tmp 7) (.tmp 38) rfl hb (brc y).toArray (by kernel_rfl) (by kernel_rfl) 65 _ HC.out.1 (size48 y) rfl (by simpa using bs_one [y] (brc y) (by simp [bsL])) ?_; rw [HGX.out])
            | (go_at_call 44; refine Calls.mono (HTY.out _) ?_; rintro e x3 ⟨a3, c3, rfl, hb3, ha3⟩; have J3 : Hid (BytesAt x3 a3 (textB y.nm) ∧ OwA w (preR (rsof X) i ++ textB x.nm ++ preB (bof x.X) j) vj x3 ∧ After x2 x3) := ⟨hb3, HJ2.out.1.more ha3, ha3⟩; clear hb3 ha3)
            | (at_builtin; refine wpList_append_any rfl (.tmp 39) (.tmp 42) rfl w.heap.size vj (preR (rsof X) i ++ textB x.nm ++ preB (bof x.X) j) rfl J3.out.2.1.own a3 c3 (textB y.nm) t0 HT.out.1 rfl J3.out.1 (by have := HT.out.1; have := HPI.out; have := HS.out.1; have := HBJ.out; rw [List.length_append, List.length_append]; omega) J3.out.2.1.aft.size ?_
               intro v4 x4 ho4 hg4
               have J4 : Hid (OwA w (preR (rsof X) i ++ textB x.nm ++ preB (bof x.X) j ++ textB y.nm) v4 x4 ∧ RowIs x4 gb 41 [.string (strOf x.nm), .slice x.ba k x.bc, .slice x.a p x.c] ∧ RowIs x4 hb 65 [.string (strOf y.nm), .slice y.a q y.c]) := ⟨J3.out.2.1.app ho4 hg4, (HJ2.out.2.below J3.out.2.2 HJ2.out.2.lt).keep (by decide) J3.out.2.1.own hg4, (HCR.out.below J3.out.2.2 HCR.out.lt).keep (by decide) J3.out.2.1.own hg4⟩
               have b1 := J4.out.2.2.cell (j := 1) rfl
               clear ho4 hg4)
            | (go_at_call 45; refine Calls.mono (HPY.out _ J4.out.1.aft) ?_; rintro e x5 ⟨a5, c5, rfl, hb5, ha5⟩; have J5 : Hid (BytesAt x5 a5 (hsB y.l) ∧ OwA w (preR (rsof X) i ++ textB x.nm ++ preB (bof x.X) j ++ textB y.nm) v4 x5 ∧ After x4 x5) := ⟨hb5, J4.out.1.more ha5, ha5⟩; clear hb5 ha5)
            | (at_builtin; refine wpList_append_any rfl (.tmp 44) (.tmp 47) rfl w.heap.size v4 (preR (rsof X) i ++ textB x.nm ++ preB (bof x.X) j ++ textB y.nm) rfl J5.out.2.1.own a5 c5 (hsB y.l) t1 HT.out.2 rfl J5.out.1 (by have := HT.out.1; have := HT.out.2; have := HPI.out; have := HS.out.1; have := HBJ.out; rw [List.length_append, List.length_append, List.length_append]; omega) J5.out.2.1.aft.size ?_
               intro v6 x6 ho6 hg6
               have J6 : Hid (OwA w (preR (rsof X) i ++ textB x.nm ++ preB (bof x.X) (j + 1)) v6 x6 ∧ RowIs x6 gb 41 [.string (strOf x.nm), .slice x.ba k x.bc, .slice x.a p x.c]) := ⟨by
                   have h9 := J5.out.2.1.app ho6 hg6
                   rw [← HBN.out]
                   simpa only [brB, List.append_assoc] using h9, (J4.out.2.1.below J5.out.2.2 J4.out.2.1.lt).keep (by decide) J5.out.2.1.own hg6⟩
               clear ho6 hg6))
          go_roundw
          case rel => exact ⟨j + 1, by omega, by go_num, J6⟩
          case measure => simp [intOf]; omega
        · have hjj : ¬ (j : Int) < (k : Int) := by omega
          have HJE : Hid (OwA w (preR (rsof X) i ++ textB x.nm ++ brsB (bof x.X)) vj wr) := by
            rw [← preB_all (n := j) (by rw [bof_len, HXA.out.2.1]; omega)]; exact HJ.out.1
          have hBB : (brsB (bof x.X)).length ≤ 38410 := by rw [← preB_all (n := k) (by rw [bof_len, HXA.out.2.1]; omega)]; exact HBL.out k
          have HBB : Hid ((brsB (bof x.X)).length ≤ 38410) := hBB
          have e2 := HJ.out.2.cell (j := 2) rfl
          have HPX : Hid (∀ W : World, After w W → Calls Try.prog 45 #[.slice x.a p x.c] W fun e w' => ∃ a c, e = .returned (.slice a s2 c) ∧ BytesAt w' a (hsB x.l) ∧ After W w') := fun W hW => put_sl (ca := x.c) HXA.out.1.l32 HXA.out.2.2.1 HS.out.2.2 (by omega) (HXA.out.1.sl.after hW)
          have HRN : Hid (preR (rsof X) i ++ textB x.nm ++ brsB (bof x.X) ++ hsB x.l = preR (rsof X) (i + 1)) := by
            have h9 : preR (rsof X) i ++ (textB x.nm ++ (brsB (bof x.X) ++ hsB x.l)) = preR (rsof X) (i + 1) := preR_next (rsof_get HXA.out.2.2.2.1)
            unfold Hid
            rw [← h9]; simp only [List.append_assoc]
          clear hBB
          go_wp2_with (first
            | (go_at_call 45; refine Calls.mono (HPX.out _ HJE.out.aft) ?_; rintro e x5 ⟨a5, c5, rfl, hb5, ha5⟩; have J5 : Hid (BytesAt x5 a5 (hsB x.l) ∧ OwA w (preR (rsof X) i ++ textB x.nm ++ brsB (bof x.X)) vj x5) := ⟨hb5, HJE.out.more ha5⟩; clear hb5 ha5)
            | (at_builtin; refine wpList_append_any rfl (.tmp 50) (.tmp 53) rfl w.heap.size vj (preR (rsof X) i ++ textB x.nm ++ brsB (bof x.X)) rfl J5.out.2.own a5 c5 (hsB x.l) s2 HS.out.2.2 rfl J5.out.1 (by have := HS.out.1; have := HS.out.2.2; have := HPI.out; have := HBB.out; rw [List.length_append, List.length_append]; omega) J5.out.2.aft.size ?_
               intro v6 x6 ho6 hg6
               have J6 : Hid (OwA w (preR (rsof X) (i + 1)) v6 x6) := by
                   rw [← HRN.out]
                   exact J5.out.2.app ho6 hg6
               clear ho6 hg6))
          go_roundw
          case rel => exact ⟨i + 1, by omega, by go_num, J6⟩
          case measure => simp [intOf]; omega
    · have hii : ¬ (i : Int) < (n : Int) := by omega
      have HF : Hid (OwA w (ixB (rsof X)) v wr) := by rw [← preR_all (n := i) (by rw [rsof_len, HL.out.2.1]; omega)]; exact HI.out
      go_wp2
      go_ret
      exact ⟨_, rfl, HF.out⟩
theorem maybe_yes {la : Option Addr} {ca n : Nat} {X : List Rx} (hl : X.length = n) (hn : n * 72 ≤ 140737488355328) (hk : MOk (rsof X)) {w : World} (hA : RsAt w la X) : Calls Try.prog 22 #[.slice la n ca] w fun e w' => e = .returned (.bool true) ∧ After w w' :=
  (maybe22 hl hn hA).mono (fun e w' ⟨b, he, hb, ha⟩ => ⟨by rw [he, hb.2 hk], ha⟩)
theorem maybe_no {la : Option Addr} {ca n : Nat} {X : List Rx} (hl : X.length = n) (hn : n * 72 ≤ 140737488355328) (hk : ¬ MOk (rsof X)) {w : World} (hA : RsAt w la X) : Calls Try.prog 22 #[.slice la n ca] w fun e w' => e = .returned (.bool false) ∧ After w w' :=
  (maybe22 hl hn hA).mono (fun e w' ⟨b, he, hb, ha⟩ => ⟨by rw [he, show b = false from Bool.eq_false_iff.2 (fun h => hk (hb.1 h))], ha⟩)
open Classical in
/-- Put's error. -/
noncomputable def putE (L : List Rc) : Nat := if MOk L then (if 524288 < (ixB L).length then 5 else 0) else 4
theorem putE_form {L : List Rc} (h : ¬ MOk L) : putE L = 4 := by unfold putE; rw [if_neg h]
theorem putE_long {L : List Rc} (h : MOk L) (hl : 524288 < (ixB L).length) : putE L = 5 := by unfold putE; rw [if_pos h, if_pos hl]
theorem putE_ok {L : List Rc} (h : MOk L) (hl : ¬ 524288 < (ixB L).length) : putE L = 0 := by unfold putE; rw [if_pos h, if_neg hl]
theorem putE_zero {L : List Rc} (h : putE L = 0) : MOk L ∧ (ixB L).length ≤ 524288 := by
  unfold putE at h
  split at h
  · rename_i h1
    split at h
    · cases h
    · exact ⟨h1, by omega⟩
  · cases h
/-- What Put tells. -/
structure PutT (L : List Rc) (w : World) (e : Ending) (w' : World) : Prop where
  aft : After w w'
  ans : (putE L = 0 ∧ ∃ a c k, e = .returned (.tuple #[.slice a k c, .int .i64 0]) ∧ (ixB L).length = k ∧ BytesAt w' a (ixB L) ∧ k ≤ c) ∨ (putE L ≠ 0 ∧ e = .returned (.tuple #[.slice none 0 0, .int .i64 (putE L : Int)]))
set_option maxRecDepth 100000 in
set_option maxHeartbeats 6400000 in
theorem put10 {la : Option Addr} {ca n : Nat} {X : List Rx} (hl : X.length = n) (hn : n * 72 ≤ 140737488355328) {w : World} (hA : RsAt w la X) : Calls Try.prog 10 #[.slice la n ca] w (PutT (rsof X) w) := by
  have HL : Hid (RsAt w la X ∧ X.length = n ∧ n * 72 ≤ 140737488355328) := ⟨hA, hl, hn⟩
  clear hA hl hn
  by_cases hm : MOk (rsof X)
  · have HC : Hid (Calls Try.prog 22 #[.slice la n ca] w fun e w' => e = .returned (.bool true) ∧ After w w') := maybe_yes HL.out.2.1 HL.out.2.2 hm HL.out.1
    obtain ⟨k, hk⟩ : ∃ k, (ixB (rsof X)).length = k := ⟨_, rfl⟩
    have HD : Hid (∀ w1, After w w1 → Calls Try.prog 23 #[.slice la n ca] w1 fun e w' => ∃ a c, e = .returned (.slice a k c) ∧ BytesAt w' a (ixB (rsof X)) ∧ k ≤ c ∧ After w1 w') := fun w1 h1 => (laid23 HL.out.2.1 hm (HL.out.1.after h1)).mono (fun e w' ⟨v, he, ho⟩ => by
      obtain ⟨a, c, rfl, hb, hc, _⟩ := ho.own.at
      exact ⟨a, c, by rw [he, hk], hb, by rw [← hk]; exact hc, ho.aft⟩)
    have HK : Hid ((ixB (rsof X)).length = k ∧ MOk (rsof X)) := ⟨hk, hm⟩
    clear hm hk
    by_cases hlong : 524288 < k
    · have hlong' : (524288 : Int) < (k : Int) := by omega
      have HE : Hid (putE (rsof X) = 5) := putE_long HK.out.2 (by rw [HK.out.1]; exact hlong)
      clear hlong
      go_enter Try.func10, Try.ntmps10
      go_wp2_with (first
        | (go_at_call 22; refine Calls.mono HC.out ?_; rintro e w1 ⟨rfl, h1⟩; have H1 : Hid (After w w1) := h1; clear h1)
        | (go_at_call 23; refine Calls.mono (HD.out _ H1.out) ?_; rintro e w2 ⟨a2, c2, rfl, hb2, hc2, ha2⟩; have H2 : Hid (After w w2) := H1.out.trans ha2; clear hb2 hc2 ha2))
      refine bodyPost_ret (v := .tuple #[.slice none 0 0, .int .i64 5]) (by simp [results, Try.results10, go_sem]) rfl ⟨H2.out, .inr ⟨by rw [HE.out]; decide, by rw [HE.out]; rfl⟩⟩
    · have hlong' : ¬ (524288 : Int) < (k : Int) := by omega
      have HE : Hid (putE (rsof X) = 0) := putE_ok HK.out.2 (by rw [HK.out.1]; exact hlong)
      clear hlong
      go_enter Try.func10, Try.ntmps10
      go_wp2_with (first
        | (go_at_call 22; refine Calls.mono HC.out ?_; rintro e w1 ⟨rfl, h1⟩; have H1 : Hid (After w w1) := h1; clear h1)
        | (go_at_call 23; refine Calls.mono (HD.out _ H1.out) ?_; rintro e w2 ⟨a2, c2, rfl, hb2, hc2, ha2⟩; have H2 : Hid (After w w2 ∧ BytesAt w2 a2 (ixB (rsof X)) ∧ k ≤ c2) := ⟨H1.out.trans ha2, hb2, hc2⟩; clear hb2 hc2 ha2))
      refine bodyPost_ret (v := .tuple #[.slice a2 k c2, .int .i64 0]) (by simp [results, Try.results10, go_sem]) rfl ⟨H2.out.1, .inl ⟨HE.out, _, _, _, rfl, HK.out.1, H2.out.2.1, H2.out.2.2⟩⟩
  · have HC : Hid (Calls Try.prog 22 #[.slice la n ca] w fun e w' => e = .returned (.bool false) ∧ After w w') := maybe_no HL.out.2.1 HL.out.2.2 hm HL.out.1
    have HE : Hid (putE (rsof X) = 4) := putE_form hm
    clear hm
    go_enter Try.func10, Try.ntmps10
    go_wp2_with (go_at_call 22; refine Calls.mono HC.out ?_; rintro e w1 ⟨rfl, h1⟩; have H1 : Hid (After w w1) := h1; clear h1)
    refine bodyPost_ret (v := .tuple #[.slice none 0 0, .int .i64 4]) (by simp [results, Try.results10, go_sem]) rfl ⟨H1.out, .inr ⟨by rw [HE.out]; decide, by rw [HE.out]; rfl⟩⟩
theorem PutT.two {L : List Rc} {w : World} {e : Ending} {w' : World} (h : PutT L w e w') : ∃ a k c, e = .returned (.tuple #[.slice a k c, .int .i64 (putE L : Int)]) ∧ After w w' := by
  rcases h.ans with ⟨h0, a, c, k, he, _⟩ | ⟨_, he⟩
  · exact ⟨a, k, c, by rw [he, h0]; rfl, h.aft⟩
  · exact ⟨none, 0, 0, he, h.aft⟩
set_option maxRecDepth 100000 in
set_option maxHeartbeats 6400000 in
theorem check12 {la : Option Addr} {ca n : Nat} {X : List Rx} (hl : X.length = n) (hn : n * 72 ≤ 140737488355328) {w : World} (hA : RsAt w la X) : Calls Try.prog 12 #[.slice la n ca] w fun e w' => e = .returned (.int .i64 (putE (rsof X) : Int)) ∧ After w w' := by
  have HC : Hid (Calls Try.prog 10 #[.slice la n ca] w fun e w' => ∃ a k c, e = .returned (.tuple #[.slice a k c, .int .i64 (putE (rsof X) : Int)]) ∧ After w w') := (put10 hl hn hA).mono (fun e w' h => h.two)
  clear hA hl
  go_enter Try.func12, Try.ntmps12
  go_wp2_with (go_at_call 10; refine Calls.mono HC.out ?_; rintro e w1 ⟨a1, k1, c1, rfl, h1⟩; have H1 : Hid (After w w1) := h1; clear h1)
  refine bodyPost_ret (v := .int .i64 (putE (rsof X) : Int)) (by simp [results, Try.results12, go_sem]) rfl ⟨rfl, H1.out⟩
end Go.Proofs.Ytcmcapcagblafaa
