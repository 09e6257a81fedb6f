/-
  The reference's Get of a list of hashes (of the seat of hashes, carried over).
-/
import Derived.Test.YtcmcapcagblafaaHA
import Derived.Test.YtcmcapcagblafaaLC
namespace Go.Proofs.Ytcmcapcagblafaa
open Go.RowKit
section
open Go.RowKit Leb
/-- A hash whose first c bytes are told. -/
def pt (bs : List UInt8) (p c : Nat) : Hs := (List.range 32).map fun j => if j < c then bs.getD (p + j) 0 else 0
theorem pt_len (bs : List UInt8) (p c : Nat) : (pt bs p c).length = 32 := by simp [pt]
theorem pt_get (bs : List UInt8) (p c j : Nat) (hj : j < 32) : (pt bs p c)[j]? = some (if j < c then bs.getD (p + j) 0 else 0) := by simp [pt, hj]
theorem pt_set (bs : List UInt8) (p c : Nat) (_hc : c < 32) : (c8 (pt bs p c)).set c (.int .u8 ((bs.getD (p + c) 0).toNat : Int)) = c8 (pt bs p (c + 1)) := by
  have h1 : (c8 (pt bs p c)).set c (.int .u8 ((bs.getD (p + c) 0).toNat : Int)) = c8 ((pt bs p c).set c (bs.getD (p + c) 0)) := by unfold c8; rw [List.map_set]
  rw [h1]
  congr 1
  apply List.ext_getElem?
  intro j
  by_cases hj : j < 32
  · rw [List.getElem?_set]
    by_cases e : c = j
    · subst e; rw [if_pos rfl, if_pos (by rw [pt_len]; exact hj), pt_get _ _ _ _ hj, if_pos (by omega)]
    · rw [if_neg e, pt_get _ _ _ _ hj, pt_get _ _ _ _ hj]
      by_cases h2 : j < c
      · rw [if_pos h2, if_pos (by omega)]
      · rw [if_neg h2, if_neg (by omega)]
  · rw [List.getElem?_eq_none (by rw [List.length_set, pt_len]; omega), List.getElem?_eq_none (by rw [pt_len]; omega)]
theorem pt_all {bs : List UInt8} {k j n : Nat} (h : k + n * 32 ≤ bs.length) (hj : j < n) : pt bs (k + j * 32) 32 = hAt bs k j := by
  have hl := hAt_len h hj
  apply List.ext_getElem?
  intro q
  by_cases hq : q < 32
  · rw [pt_get _ _ _ _ hq, if_pos hq]
    unfold hAt
    rw [List.getElem?_take_of_lt hq, List.getElem?_drop, List.getD_eq_getElem?_getD]
    have : (j + 1) * 32 ≤ n * 32 := Nat.mul_le_mul_right 32 hj
    rw [List.getElem?_eq_getElem (by omega)]; rfl
  · rw [List.getElem?_eq_none (by rw [pt_len]; omega), List.getElem?_eq_none (by rw [hl]; omega)]
section
variable {oi : Oper} {a : Act} {w : World} {x y : Operand}
theorem x_mul32 {p r : Nat} (hop : oi.op = .binOp .mul 3 (.const (.int .i64 32)) y 3) (hy : a.eval y = .int .i64 (p : Int)) (hr : r = 32 * p) (hb : r < 4611686018427387904) : (execOp a.eval oi).run Try.prog w = .ok (.value (.int .i64 (r : Int))) w := by
  subst hr
  unfold execOp
  simp only [hop, hy]
  simp [go_sem, Act.eval, IntKind.wrap, IntKind.bits, IntKind.signed]
  omega
theorem x_addN {p q r : Nat} (hop : oi.op = .binOp .add 3 x y 3) (hx : a.eval x = .int .i64 (p : Int)) (hy : a.eval y = .int .i64 (q : Int)) (hr : r = p + q) (hb : r < 4611686018427387904) : (execOp a.eval oi).run Try.prog w = .ok (.value (.int .i64 (r : Int))) w := by
  subst hr
  unfold execOp
  simp only [hop, hx, hy]
  simp [go_sem, IntKind.wrap, IntKind.bits, IntKind.signed]
  omega
end
structure OtI (w : World) (bs : List UInt8) (k i : Nat) (v : Value) (wr : World) : Prop where
  own : OwnH wr w.heap.size v (gL bs k i)
  aft : After w wr
structure InI (w0 : World) (B : Nat) (bs : List UInt8) (p c : Nat) (wr : World) : Prop where
  row : RowIs wr B 43 (c8 (pt bs p c))
  aft : After w0 wr
theorem zeros24 : (zeroValue 43).run Try.prog = fun w => .ok (.agg (c8 zero32).toArray) w := by funext w; kernel_rfl
set_option maxRecDepth 100000 in
set_option maxHeartbeats 3200000 in
theorem rget_any (ao : Option Addr) (cap : Nat) (bs : List UInt8) (m : Int) (hcap : bs.length ≤ cap) (hbig : bs.length ≤ 140737488355328) (hm : m ≤ 9223372036854775807) (hm2 : -9223372036854775808 ≤ m) (w : World) (hat : BytesAt w ao bs) :
    Calls Try.prog 32 #[.slice ao bs.length cap, .int .i64 m] w fun e w' => ∃ v, e = .returned (.tuple #[v, .int .i64 (hgK bs m : Int), .int .i64 (hgE bs m : Int)]) ∧ OwnH w' w.heap.size v (hgL bs m) ∧ After w w' := by
  obtain ⟨L, hL⟩ : ∃ L, bs.length = L := ⟨_, rfl⟩
  obtain ⟨n, hn⟩ : ∃ n, guV bs = n := ⟨_, rfl⟩
  obtain ⟨k, hk⟩ : ∃ k, guK bs = k := ⟨_, rfl⟩
  obtain ⟨q, hq⟩ : ∃ q, guE bs = q := ⟨_, rfl⟩
  have hkL : k ≤ L := by rw [← hk, ← hL]; exact guK_le bs
  have hnl : n < 18446744073709551616 := by rw [← hn]; exact guV_lt bs
  have hC : Calls Try.prog 62 #[.slice ao L cap] w fun e w' => e = .returned (.tuple #[.int .u64 (n : Int), .int .i64 (k : Int), .int .i64 (q : Int)]) ∧ After w w' := by
    have := rgetUint_any ao cap bs hcap w hat
    rw [hL, hn, hk, hq] at this; exact this
  have HC := show Hid _ from hC
  have HAT : Hid (BytesAt w ao bs ∧ bs.length = L ∧ guV bs = n ∧ guK bs = k ∧ guE bs = q) := ⟨hat, hL, hn, hk, hq⟩
  rw [hL] at hcap hbig ⊢
  have hE : hgE bs m = if q = 0 then (if m < 0 ∨ m < (n : Int) then 5 else if (L - k) / 32 < n then 3 else if upB (gL bs k n) = true then 0 else 4) else q := by unfold hgE; rw [hn, hk, hq, hL]
  have HE := show Hid (hgE bs m = _) from hE
  clear hat hL hn hk hC hE
  by_cases hq0 : q = 0
  · subst hq0
    by_cases hm0 : m < 0
    · have he : hgE bs m = 5 := by rw [HE.out, if_pos rfl, if_pos (Or.inl hm0)]
      obtain ⟨e1, e2⟩ := hg_bad he (by omega)
      rw [he, e1, e2]
      clear he e1 e2 hq
      go_enter Try.func32, Try.ntmps32
      go_wp2_with (go_at_call 62; refine Calls.mono HC.out ?_; rintro e w1 ⟨rfl, ha1⟩; have HA1 := show Hid (After w w1) from ha1; clear ha1)
      go_ret3
      exact ⟨_, rfl, OwnH.nil _ _, HA1.out⟩
    · obtain ⟨M, rfl⟩ : ∃ M : Nat, m = (M : Int) := ⟨m.toNat, by omega⟩
      by_cases hmn : M < n
      · have he : hgE bs M = 5 := by rw [HE.out, if_pos rfl, if_pos (Or.inr (by omega))]
        obtain ⟨e1, e2⟩ := hg_bad he (by omega)
        rw [he, e1, e2]
        have hmi : (M : Int) < (n : Int) := by omega
        clear he e1 e2 hq
        go_enter Try.func32, Try.ntmps32
        go_wp2_with (go_at_call 62; refine Calls.mono HC.out ?_; rintro e w1 ⟨rfl, ha1⟩; have HA1 := show Hid (After w w1) from ha1; clear ha1)
        go_ret3
        exact ⟨_, rfl, OwnH.nil _ _, HA1.out⟩
      · have hmi : ¬ (M : Int) < (n : Int) := by omega
        obtain ⟨r, hr⟩ : ∃ r, L - k = r := ⟨_, rfl⟩
        have hri : (L : Int) - (k : Int) = (r : Int) := by omega
        obtain ⟨c, hc⟩ : ∃ c, r / 32 = c := ⟨_, rfl⟩
        have hdv : (r : Int).tdiv 32 = (c : Int) := by rw [Int.tdiv_eq_ediv_of_nonneg (by omega)]; omega
        have hcL : c ≤ 140737488355328 := by omega
        have hrL : r ≤ 140737488355328 := by omega
        by_cases hcn : c < n
        · have he : hgE bs M = 3 := by rw [HE.out, if_pos rfl, if_neg (by omega), hr, hc, if_pos hcn]
          obtain ⟨e1, e2⟩ := hg_bad he (by omega)
          rw [he, e1, e2]
          have hci : (c : Int) < (n : Int) := by omega
          clear he e1 e2 hq hc hr
          go_enter Try.func32, Try.ntmps32
          go_wp2_with (go_at_call 62; refine Calls.mono HC.out ?_; rintro e w1 ⟨rfl, ha1⟩; have HA1 := show Hid (After w w1) from ha1; clear ha1)
          go_ret3
          exact ⟨_, rfl, OwnH.nil _ _, HA1.out⟩
        · have hci : ¬ (c : Int) < (n : Int) := by omega
          have hkn : k + n * 32 ≤ L := by omega
          have hn2 : n ≤ 4398046511104 := by omega
          have HE2 : Hid (hgE bs M = if upB (gL bs k n) = true then 0 else 4) := by unfold Hid; rw [HE.out, if_pos rfl, if_neg (by omega), hr, hc, if_neg hcn]
          have HKN : Hid (k + n * 32 ≤ bs.length) := by unfold Hid; rw [HAT.out.2.1]; exact hkn
          clear hq hc HE hr
          go_enter Try.func32, Try.ntmps32
          go_wp2_with (go_at_call 62; refine Calls.mono HC.out ?_; rintro e w1 ⟨rfl, ha1⟩; have HA1 := show Hid (After w w1) from ha1; clear ha1)
          have HO0 : Hid (OtI w bs k 0 (.slice none 0 0) w1) := ⟨OwnH.nil _ _, HA1.out⟩
          clear HC HA1
          go_loopw [10, 11] (fun v iv wr => ∃ i : Nat, i ≤ n ∧ iv = .int .i64 (i : Int) ∧ Hid (OtI w bs k i v wr)) (fun _ iv _ => n - (intOf iv).toNat)
          case atStart => exact ⟨0, Nat.zero_le _, rfl, HO0⟩
          case round =>
            obtain ⟨i, hin, rfl, HI⟩ := hrel
            obtain ⟨v, rfl⟩ : ∃ v, v = u10 := ⟨_, rfl⟩
            obtain ⟨w0, rfl⟩ : ∃ w0, w0 = wr := ⟨_, rfl⟩
            by_cases hlt : i < n
            · have hii : (i : Int) < (n : Int) := by omega
              obtain ⟨p, hp⟩ : ∃ p, p = k + i * 32 := ⟨_, rfl⟩
              have HP : Hid (p = k + i * 32) := hp
              have hpL : p + 32 ≤ L := by have h2 := HKN.out; rw [HAT.out.2.1] at h2; have : (i + 1) * 32 ≤ n * 32 := Nat.mul_le_mul_right 32 hlt; omega
              obtain ⟨t, ht⟩ : ∃ t, t = 32 * i := ⟨_, rfl⟩
              have HT : Hid (t = 32 * i ∧ p = k + t) := ⟨ht, by omega⟩
              have htb : t < 140737488355328 := by omega
              obtain ⟨b, o, hao, hcs⟩ := HAT.out.1 (by intro e; have := HAT.out.2.1; rw [e] at this; simp at this; omega)
              subst hao
              have HCS : Hid (∀ j, j < L → w.cell? ⟨b, o + j, none⟩ = some (.int .u8 ((bs.getD j 0).toNat : Int))) := fun j hj => hcs j (by rw [HAT.out.2.1]; exact hj)
              have HI0 : Hid (InI w0 w0.heap.size bs p 0 (w0.alloc (.cells (c8 zero32).toArray 43))) := ⟨by
                have e : zero32 = pt bs p 0 := rfl
                rw [← e]; exact RowIs.new w0 43 _, after_alloc (After.refl w0) _⟩
              have hz := zeros24
              clear hp ht hcs
              go_wp2_with fail
              obtain ⟨B, hB⟩ : ∃ B, w0.heap.size = B := ⟨_, rfl⟩
              rw [hB] at HI0
              rw [hB]
              have HB : Hid (w0.heap.size = B) := hB
              clear hz hB
              go_loopw [13] (fun cv wr => ∃ c : Nat, c ≤ 32 ∧ cv = .int .i64 (c : Int) ∧ Hid (InI w0 B bs p c wr)) (fun cv _ => 32 - (intOf cv).toNat)
              case atStart => exact ⟨0, by omega, rfl, HI0⟩
              case round =>
                obtain ⟨c1, hc1, rfl, HJ⟩ := hrel
                by_cases hc2 : c1 < 32
                · have hci2 : (c1 : Int) < 32 := by omega
                  obtain ⟨s, hs⟩ : ∃ s, s = p + c1 := ⟨_, rfl⟩
                  have HSS : Hid (s = p + c1) := hs
                  have hsL : s < L := by omega
                  have hcl : wr.cell? ⟨b, o + s, none⟩ = some (.int .u8 ((bs.getD s 0).toNat : Int)) := cell_at HJ.out.aft (cell_at HI.out.aft (HCS.out s hsL))
                  have hfr := HJ.out.row.frozen c1
                  have hcc := HJ.out.row.cell (c8_get (pt bs p c1) c1 (by rw [pt_len]; exact hc2))
                  have hrl := HJ.out.row.lt
                  have HNX : Hid (InI w0 B bs p (c1 + 1) (wr.setCell ⟨B, c1, none⟩ (.int .u8 ((bs.getD s 0).toNat : Int)))) := ⟨by rw [← pt_set bs p c1 hc2, hs]; exact HJ.out.row.set c1 _, Below.setCell HJ.out.aft (by rw [HB.out]; exact Nat.le_refl _) _⟩
                  generalize (bs.getD s 0).toNat = xb at hcl HNX
                  generalize ((pt bs p c1).getD c1 0).toNat = xo at hcc
                  clear hs
                  go_wp2_with (first
                    | (refine wpList_of_run rfl (x_mul32 (p := i) (r := t) rfl rfl HT.out.1 (by omega)) ?_)
                    | (refine wpList_of_run rfl (x_addN (x := .tmp 54) (y := .tmp 56) (p := k) (q := t) (r := p) rfl rfl rfl HT.out.2 (by omega)) ?_)
                    | (refine wpList_of_run rfl (x_addN (x := .tmp 57) (y := .tmp 58) (p := p) (q := c1) (r := s) rfl rfl rfl HSS.out (by omega)) ?_))
                  go_roundw
                  case rel => exact ⟨c1 + 1, by omega, by go_num, HNX⟩
                  case measure => simp [intOf]; omega
                · have hci2 : ¬ (c1 : Int) < 32 := by omega
                  have HROW : Hid (wr.heap[B]? = some (.cells (c8 (hAt bs k i)).toArray 43 (0, 0))) := by
                    have := HJ.out.row
                    rw [show c1 = 32 by omega, HP.out, pt_all HKN.out hlt] at this
                    exact this
                  have H32 : Hid ((hAt bs k i).length = 32) := hAt_len HKN.out hlt
                  have HA3 : Hid (After w wr) := After.trans HI.out.aft HJ.out.aft
                  have HO3 : Hid (OwnH wr w.heap.size v (gL bs k i)) := HI.out.own.after HJ.out.aft
                  have HGS : Hid (gL bs k i ++ [hAt bs k i] = gL bs k (i + 1)) := (gL_succ bs k i).symm
                  have HKB : Hid (((gL bs k i).length + [hAt bs k i].length) * 32 ≤ 140737488355328) := by unfold Hid; rw [gL_len]; simp only [List.length_cons, List.length_nil]; omega
                  generalize hAt bs k i = h at HROW H32 HGS HKB
                  go_wp2_with (first
                    | (refine wpList_load_row rfl 43 (.tmp 12) rfl B rfl 43 (c8 h).toArray (0, 0) _ HROW.out Try.underlying43 rfl (size24a H32.out) ?_)
                    | (refine wpList_bs22 rfl (.tmp 64) rfl H32.out rfl ?_)
                    | (at_builtin; refine wpList_append_hashes rfl _ _ rfl w.heap.size v (gL bs k i) rfl (HO3.out.after (after_alloc (After.refl _) _)) (some ⟨_, 0, none⟩) 1 [h] (All32.cons H32.out All32.nil) 1 rfl rfl (HsAt.one _ h) HKB.out (by simp; have := HA3.out.size; omega) ?_
                       intro v' w6 ho6 hg6
                       rw [HGS.out] at ho6
                       have HNX := show Hid (OtI w bs k (i + 1) v' w6) from ⟨ho6, after_grown (after_alloc HA3.out _) hg6 (Nat.le_refl _) (fun j hj => (HO3.out.lt j hj).1)⟩
                       clear ho6 hg6))
                  go_roundw
                  case rel => exact ⟨i + 1, by omega, by go_num, HNX⟩
                  case measure => simp [intOf]; omega
            · have hii : ¬ (i : Int) < (n : Int) := by omega
              have hie : i = n := by omega
              have HOW : Hid (OwnH w0 w.heap.size v (gL bs k n)) := by have := HI.out.own; rw [hie] at this; exact this
              obtain ⟨ga, gc, hge, hgat, _⟩ := HOW.out.at
              rw [gL_len] at hge
              subst hge
              have HA : Hid (After w w0) := HI.out.aft
              have hR := rising44 (ao := ga) (ca := gc) (gL_32 HKN.out) (gL_len _ _ _) (by omega) (HsAt.sl (gL_32 HKN.out) hgat)
              obtain ⟨t, ht⟩ : ∃ t, t = 32 * n := ⟨_, rfl⟩
              obtain ⟨U, hU⟩ : ∃ U, U = k + t := ⟨_, rfl⟩
              have HUN : Hid (U = k + n * 32) := by unfold Hid; omega
              have HT : Hid (t = 32 * n ∧ U = k + t) := ⟨ht, hU⟩
              have htb : t < 4611686018427387904 := by omega
              have hUb : U < 4611686018427387904 := by omega
              clear ht hU
              by_cases hu : upB (gL bs k n) = true
              · rw [hu] at hR
                have HR := show Hid _ from hR
                have he : hgE bs M = 0 := by rw [HE2.out, if_pos hu]
                have e1 : hgK bs M = k + n * 32 := by unfold hgK; rw [if_pos he, HAT.out.2.2.1, HAT.out.2.2.2.1]
                have e2 : hgL bs M = gL bs k n := by unfold hgL; rw [if_pos he, HAT.out.2.2.1, HAT.out.2.2.2.1]
                have HEE : Hid (hgE bs M = 0 ∧ hgK bs M = U ∧ hgL bs M = gL bs k n) := ⟨he, by rw [e1, HUN.out], e2⟩
                clear hR hu he e1 e2 hie HI
                go_wp2_with (first
                  | (go_at_call 49; refine Calls.mono HR.out ?_; rintro e w3 ⟨rfl, ha3⟩; have HA3 := show Hid (After w0 w3) from ha3; clear ha3)
                  | (refine wpList_of_run rfl (x_mul32 (p := n) (r := t) rfl rfl HT.out.1 (by omega)) ?_)
                  | (refine wpList_of_run rfl (x_addN (x := .tmp 71) (y := .tmp 74) (p := k) (q := t) (r := U) rfl rfl rfl HT.out.2 (by omega)) ?_))
                go_ret3
                refine ⟨.slice ga n gc, ?_, ?_, After.trans HA.out HA3.out⟩
                · rw [HEE.out.1, HEE.out.2.1]; rfl
                · rw [HEE.out.2.2]; exact HOW.out.after HA3.out
              · have hu' : upB (gL bs k n) = false := Bool.eq_false_iff.2 hu
                rw [hu'] at hR
                have HR := show Hid _ from hR
                have he : hgE bs M = 4 := by rw [HE2.out, if_neg hu]
                obtain ⟨e1, e2⟩ := hg_bad he (by omega)
                have HEE : Hid (hgE bs M = 4 ∧ hgK bs M = 0 ∧ hgL bs M = []) := ⟨he, e1, e2⟩
                clear hR hu hu' he e1 e2 hie HI
                go_wp2_with (go_at_call 49; refine Calls.mono HR.out ?_; rintro e w3 ⟨rfl, ha3⟩; have HA3 := show Hid (After w0 w3) from ha3; clear ha3)
                go_ret3
                refine ⟨.slice none 0 0, ?_, ?_, After.trans HA.out HA3.out⟩
                · rw [HEE.out.1, HEE.out.2.1]; rfl
                · rw [HEE.out.2.2]; exact OwnH.nil _ _
  · have he : hgE bs m = q := by rw [HE.out, if_neg hq0]
    obtain ⟨e1, e2⟩ := hg_bad he hq0
    rw [he, e1, e2]
    have hq0i : ((q : Int) != 0) = true := by simp; omega
    clear he e1 e2 hq
    go_enter Try.func32, Try.ntmps32
    go_wp2_with (go_at_call 62; refine Calls.mono HC.out ?_; rintro e w1 ⟨rfl, ha1⟩; have HA1 := show Hid (After w w1) from ha1; clear ha1)
    go_ret3
    exact ⟨_, rfl, OwnH.nil _ _, HA1.out⟩
end
end Go.Proofs.Ytcmcapcagblafaa
