/-
  THE WALK OF hashes.Get.
-/
import Derived.Test.YtedghldjpkabmaaGetKit
namespace Go.Proofs.Ytedghldjpkabmaa
open Go.RowKit Go.Sort Leb
/-- What Get tells. -/
def ghE (bs : List UInt8) (m : Int) : Nat := if guE bs = 0 then (if m < 0 ∨ m < (guV bs : Int) then 5 else if (bs.length - guK bs) / 32 < guV bs then 3 else if upB (gL bs (guK bs) (guV bs)) = true then 0 else 4) else guE bs
def ghK (bs : List UInt8) (m : Int) : Nat := if ghE bs m = 0 then guK bs + guV bs * 32 else 0
def ghL (bs : List UInt8) (m : Int) : List Hs := if ghE bs m = 0 then gL bs (guK bs) (guV bs) else []
theorem gh_bad {bs : List UInt8} {m : Int} {q : Nat} (h : ghE bs m = q) (hq : q ≠ 0) : ghK bs m = 0 ∧ ghL bs m = [] := by
  unfold ghK ghL; rw [h, if_neg hq, if_neg hq]; exact ⟨rfl, rfl⟩
section
variable {o : Oper} {a : Act} {x y z : Operand} {w : World}
theorem slice_lohi (b off len cap lo hi : Nat) (h1 : lo ≤ hi) (h2 : hi ≤ cap) (h3 : lo < cap) (W : World) : (Instr.sliceAt 32 (.slice (some ⟨b, off, none⟩) len cap) (some (.int .i64 (lo : Int))) (some (.int .i64 (hi : Int))) none).run Try.prog W = .ok (.slice (some ⟨b, off + lo, none⟩) (hi - lo) (cap - lo)) W := by
  obtain ⟨i, hi', hz⟩ := Option.map_eq_some_iff.1 bytes5
  simp only [Prod.mk.injEq] at hz
  have h3' : ¬ cap = lo := by omega
  simp [Instr.sliceAt, Instr.slice, run_underlying Try.underlying32, Instr.sliceBounds, Instr.sliceBound, asIntOf, sizeOf, typeInfo, hi', hz.2.1, h2, h1, h3', Addr.add]
theorem x_lohi {b off len cap lo hi : Nat} (hop : o.op = .slice 32 x (some y) (some z) none) (hx : a.eval x = .slice (some ⟨b, off, none⟩) len cap) (hy : a.eval y = .int .i64 (lo : Int)) (hz : a.eval z = .int .i64 (hi : Int)) (h1 : lo ≤ hi) (h2 : hi ≤ cap) (h3 : lo < cap) : (execOp a.eval o).run Try.prog w = .ok (.value (.slice (some ⟨b, off + lo, none⟩) (hi - lo) (cap - lo))) w := by
  unfold execOp
  simp only [hop, hx, hy, hz, Option.map, Sem.run_bind, slice_lohi b off len cap lo hi h1 h2 h3 w, Result.andThen_ok]
  rfl
theorem x_arr24 {b off len cap : Nat} (hop : o.op = .sliceToArrayPointer 24 x) (hx : a.eval x = .slice (some ⟨b, off, none⟩) len cap) (h : 32 ≤ len) : (execOp a.eval o).run Try.prog w = .ok (.value (.pointer (some ⟨b, off, none⟩))) w := by
  unfold execOp
  simp only [hop, hx]
  simp [go_sem, Instr.arrayAt, run_underlying Try.underlying24]
  exact h
end
theorem range_bytes {w : World} {b o : Nat} {bs : List UInt8} (h : BytesAt w (some ⟨b, o, none⟩) bs) {k j n : Nat} (hk : k + n * 32 ≤ bs.length) (hj : j < n) : w.rangeAt b (o + (k + j * 32)) (c8 (hAt bs k j)) := fun q v hv => by
  have hl := hAt_len hk hj
  have hq : q < 32 := by have := (List.getElem?_eq_some_iff.1 hv).1; rwa [c8_len, hl] at this
  have hj2 : (j + 1) * 32 ≤ n * 32 := Nat.mul_le_mul_right 32 hj
  obtain ⟨b', o', e, hc⟩ := h (by intro e; rw [e] at hk; simp at hk; omega)
  cases e
  rw [c8_get _ q (by omega)] at hv
  rw [Nat.add_assoc, hc (k + j * 32 + q) (by omega), ← hv]
  unfold hAt
  simp [List.getD_eq_getElem?_getD, List.getElem?_drop, hq]
theorem OwnH.hs {w : World} {base g n cap : Nat} {l : List Hs} (h : OwnH w base (.slice (some ⟨g, 0, none⟩) n cap) l) : HsAt w (some ⟨g, 0, none⟩) l := by
  obtain ⟨ao, c, e, hat, _⟩ := h.at
  cases e; exact hat
structure GtI (w : World) (g n : Nat) (bs : List UInt8) (k i : Nat) (wr : World) : Prop where
  own : OwnH wr g (.slice (some ⟨g, 0, none⟩) n n) (gl bs k n i)
  aft : After w wr
theorem GtI.next {w wr : World} {g n k i : Nat} {bs : List UInt8} (h : GtI w g n bs k i wr) (hk : k + n * 32 ≤ bs.length) (hi : i < n) (hg : w.heap.size ≤ g) : GtI w g n bs k (i + 1) (wr.setCells g (i * 32) (c8 (hAt bs k i))) := by
  refine ⟨?_, ?_⟩
  · have := h.own.set (gl_32 hk) (hAt_len hk hi) hi
    rwa [gl_set bs k n i hi] at this
  · exact after_grown h.aft (grown_setCells (w0 := wr) (g := g) ⟨rfl, rfl, rfl, Nat.le_refl _, fun _ _ _ => rfl⟩ _ _) hg (fun j hj => by cases hj; exact Nat.le_refl _)
theorem GtI.there {w wr : World} {g n k i : Nat} {bs : List UInt8} (h : GtI w g n bs k i wr) (hi : i < n) : wr.there g (i * 32) 32 := by
  obtain ⟨cur, hg, hcs, hnc, _⟩ := h.own.row
  refine fun j hj => ⟨?_, frozen_of_row wr g _ _ 24 hg⟩
  rw [cell_of_row wr g _ cur 24 (0, 0) hg, Array.getElem?_eq_getElem (by rw [hcs]; omega)]; rfl
set_option maxRecDepth 100000 in
set_option maxHeartbeats 3200000 in
theorem get_any (ao : Option Addr) (cap : Nat) (bs : List UInt8) (m : Int) (hcap : bs.length ≤ cap) (hbig : bs.length ≤ 140737488355328) (hm : m ≤ 9223372036854775807) (hm2 : -9223372036854775808 ≤ m) (w : World) (hat : BytesAt w ao bs) :
    Calls Try.prog 30 #[.slice ao bs.length cap, .int .i64 m] w fun e w' => ∃ v, e = .returned (.tuple #[v, .int .i64 (ghK bs m : Int), .int .i64 (ghE bs m : Int)]) ∧ OwnH w' w.heap.size v (ghL bs m) ∧ After w w' := by
  obtain ⟨L, hL⟩ : ∃ L, bs.length = L := ⟨_, rfl⟩
  obtain ⟨n, hn⟩ : ∃ n, guV bs = n := ⟨_, rfl⟩
  obtain ⟨k, hk⟩ : ∃ k, guK bs = k := ⟨_, rfl⟩
  obtain ⟨q, hq⟩ : ∃ q, guE bs = q := ⟨_, rfl⟩
  have hkL : k ≤ L := by rw [← hk, ← hL]; exact guK_le bs
  have hnl : n < 18446744073709551616 := by rw [← hn]; exact guV_lt bs
  have hC : Calls Try.prog 47 #[.slice ao L cap] w fun e w' => e = .returned (.tuple #[.int .u64 (n : Int), .int .i64 (k : Int), .int .i64 (q : Int)]) ∧ After w w' := by
    have := LB.gu_0 ao cap hcap w hat hn hk hq
    rw [hL] at this; exact this
  have HC := show Hid _ from hC
  have HAT : Hid (BytesAt w ao bs ∧ bs.length = L ∧ guV bs = n ∧ guK bs = k ∧ guE bs = q) := ⟨hat, hL, hn, hk, hq⟩
  rw [hL] at hcap hbig ⊢
  have hE : ghE bs m = if q = 0 then (if m < 0 ∨ m < (n : Int) then 5 else if (L - k) / 32 < n then 3 else if upB (gL bs k n) = true then 0 else 4) else q := by unfold ghE; rw [hn, hk, hq, hL]
  have HE := show Hid (ghE bs m = _) from hE
  clear hat hL hn hk hC hE
  by_cases hq0 : q = 0
  · subst hq0
    by_cases hm0 : m < 0
    · have he : ghE bs m = 5 := by rw [HE.out, if_pos rfl, if_pos (Or.inl hm0)]
      obtain ⟨e1, e2⟩ := gh_bad he (by omega)
      rw [he, e1, e2]
      clear he e1 e2 hq
      go_enter Try.func30, Try.ntmps30
      go_wp2_with (go_at_call 47; refine Calls.mono HC.out ?_; rintro e w1 ⟨rfl, ha1⟩; have HA1 := show Hid (After w w1) from ha1; clear ha1)
      go_ret3
      exact ⟨_, rfl, OwnH.nil _ _, HA1.out⟩
    · obtain ⟨M, rfl⟩ : ∃ M : Nat, m = (M : Int) := ⟨m.toNat, by omega⟩
      by_cases hmn : M < n
      · have he : ghE bs M = 5 := by rw [HE.out, if_pos rfl, if_pos (Or.inr (by omega))]
        obtain ⟨e1, e2⟩ := gh_bad he (by omega)
        rw [he, e1, e2]
        have hmi : (M : Int) < (n : Int) := by omega
        clear he e1 e2 hq
        go_enter Try.func30, Try.ntmps30
        go_wp2_with (go_at_call 47; refine Calls.mono HC.out ?_; rintro e w1 ⟨rfl, ha1⟩; have HA1 := show Hid (After w w1) from ha1; clear ha1)
        go_ret3
        exact ⟨_, rfl, OwnH.nil _ _, HA1.out⟩
      · have hmi : ¬ (M : Int) < (n : Int) := by omega
        obtain ⟨c, hc⟩ : ∃ c, (L - k) / 32 = c := ⟨_, rfl⟩
        have hdv : ((L : Int) - (k : Int)).tdiv 32 = (c : Int) := by
          have e : (L : Int) - (k : Int) = ((L - k : Nat) : Int) := by omega
          rw [e, Int.tdiv_eq_ediv_of_nonneg (by omega)]; omega
        have hcL : c ≤ 140737488355328 := by omega
        by_cases hcn : c < n
        · have he : ghE bs M = 3 := by rw [HE.out, if_pos rfl, if_neg (by omega), hc, if_pos hcn]
          obtain ⟨e1, e2⟩ := gh_bad he (by omega)
          rw [he, e1, e2]
          have hci : (c : Int) < (n : Int) := by omega
          clear he e1 e2 hq hc
          go_enter Try.func30, Try.ntmps30
          go_wp2_with (go_at_call 47; refine Calls.mono HC.out ?_; rintro e w1 ⟨rfl, ha1⟩; have HA1 := show Hid (After w w1) from ha1; clear ha1)
          go_ret3
          exact ⟨_, rfl, OwnH.nil _ _, HA1.out⟩
        · have hci : ¬ (c : Int) < (n : Int) := by omega
          have hkn : k + n * 32 ≤ L := by omega
          have hn2 : n ≤ 4398046511104 := by omega
          have HE2 : Hid (ghE bs M = if upB (gL bs k n) = true then 0 else 4) := by unfold Hid; rw [HE.out, if_pos rfl, if_neg (by omega), hc, if_neg hcn]
          have HKN : Hid (k + n * 32 ≤ bs.length) := by unfold Hid; rw [HAT.out.2.1]; exact hkn
          clear hq hc HE
          go_enter Try.func30, Try.ntmps30
          go_wp2_with (first
            | (go_at_call 47; refine Calls.mono HC.out ?_; rintro e w1 ⟨rfl, ha1⟩; have HA1 := show Hid (After w w1) from ha1; clear ha1; obtain ⟨cs, hmk, how⟩ := make_full w1 n hn2 bs k; have HOW := show Hid (OwnH _ _ _ _) from how; clear how))
          obtain ⟨g, hg⟩ : ∃ g, w1.heap.size = g := ⟨_, rfl⟩
          obtain ⟨w2, hw2⟩ : ∃ w2, w1.alloc (.cells cs 24) = w2 := ⟨_, rfl⟩
          rw [hg, hw2] at HOW
          rw [hg, hw2]
          have HGW : Hid (w.heap.size ≤ g) := by unfold Hid; rw [← hg]; exact HA1.out.size
          have HG0 : Hid (GtI w g n bs k 0 w2) := ⟨HOW.out, by rw [← hw2]; exact after_alloc HA1.out _⟩
          clear hg hw2 hmk HOW HA1 HC
          go_loopw [5, 38] (fun uv iv wr => ∃ i U : Nat, i ≤ n ∧ iv = .int .i64 (i : Int) ∧ uv = .int .i64 (U : Int) ∧ Hid (U = k + i * 32) ∧ Hid (GtI w g n bs k i wr)) (fun _ iv _ => n - (intOf iv).toNat)
          case atStart => exact ⟨0, k, Nat.zero_le _, rfl, rfl, by unfold Hid; omega, HG0⟩
          case round =>
            obtain ⟨i, U, hin, rfl, rfl, HU, HI⟩ := hrel
            by_cases hlt : i < n
            · have hii : (i : Int) < (n : Int) := by omega
              have hU : U + 32 ≤ L := by have := HU.out; have h2 := HKN.out; rw [HAT.out.2.1] at h2; have : (i + 1) * 32 ≤ n * 32 := Nat.mul_le_mul_right 32 hlt; omega
              obtain ⟨b, o, hao, _⟩ := HAT.out.1 (by intro e; have := HAT.out.2.1; rw [e] at this; simp at this; omega)
              subst hao
              have HR : Hid (wr.rangeAt b (o + U) (c8 (hAt bs k i))) := by unfold Hid; rw [HU.out]; exact range_after (range_bytes HAT.out.1 HKN.out hlt) HI.out.aft
              have H32 : Hid ((hAt bs k i).length = 32) := hAt_len HKN.out hlt
              have HTH : Hid (wr.there g (i * 32) 32) := HI.out.there hlt
              have HNX : Hid (GtI w g n bs k (i + 1) (wr.setCells g (i * 32) (c8 (hAt bs k i)))) := HI.out.next HKN.out hlt HGW.out
              generalize hAt bs k i = h at HR H32 HNX
              go_wp2_with (first
                | (refine wpList_of_run rfl (x_lohi (b := b) (off := o) (len := L) (cap := cap) (lo := U) (hi := U + 32) rfl rfl rfl rfl (by omega) (by omega) (by omega)) ?_; rw [show U + 32 - U = 32 by omega])
                | (refine wpList_of_run rfl (x_arr24 (b := b) (off := o + U) (len := 32) (cap := cap - U) rfl rfl (by omega)) ?_)
                | (refine wpList_load_mid rfl 24 (.tmp 48) rfl b (o + U) rfl (c8 h) _ HR.out Try.underlying24 rfl (size24' H32.out) ?_)
                | (refine wpList_store_mid rfl 24 (.tmp 50) (.tmp 49) rfl g (i * 32) (c8 h).toArray rfl rfl (by simp [c8_len, H32.out]; exact HTH.out) (size24a H32.out) (hs_one h) ?_))
              go_roundw
              case rel => exact ⟨i + 1, U + 32, by omega, by go_num, by go_num, by unfold Hid; rw [HU.out]; omega, HNX⟩
              case measure => simp [intOf]; omega
            · have hii : ¬ (i : Int) < (n : Int) := by omega
              have hie : i = n := by omega
              have HOW : Hid (OwnH wr g (.slice (some ⟨g, 0, none⟩) n n) (gL bs k n)) := by
                have := HI.out.own; rw [hie, gl_all] at this; exact this
              have HUN : Hid (U = k + n * 32) := by unfold Hid; rw [HU.out, hie]
              have HA : Hid (After w wr) := HI.out.aft
              have hR := rising15 (some ⟨g, 0, none⟩) n (gL bs k n) (gL_32 HKN.out) n (gL_len _ _ _) (by omega) wr HOW.out.hs
              by_cases hu : upB (gL bs k n) = true
              · rw [hu] at hR
                have HR := show Hid _ from hR
                have he : ghE bs M = 0 := by rw [HE2.out, if_pos hu]
                have e1 : ghK bs M = k + n * 32 := by unfold ghK; rw [if_pos he, HAT.out.2.2.1, HAT.out.2.2.2.1]
                have e2 : ghL bs M = gL bs k n := by unfold ghL; rw [if_pos he, HAT.out.2.2.1, HAT.out.2.2.2.1]
                have HEE : Hid (ghE bs M = 0 ∧ ghK bs M = U ∧ ghL bs M = gL bs k n) := ⟨he, by rw [e1, HUN.out], e2⟩
                clear hR hu he e1 e2 hie HI HU
                go_wp2_with (go_at_call 15; refine Calls.mono HR.out ?_; rintro e w3 ⟨rfl, ha3⟩; have HA3 := show Hid (After wr w3) from ha3; clear ha3)
                go_ret3
                refine ⟨.slice (some ⟨g, 0, none⟩) n n, ?_, ?_, After.trans HA.out HA3.out⟩
                · rw [HEE.out.1, HEE.out.2.1]; rfl
                · rw [HEE.out.2.2]; exact (HOW.out.after HA3.out).mono HGW.out
              · have hu' : upB (gL bs k n) = false := Bool.eq_false_iff.2 hu
                rw [hu'] at hR
                have HR := show Hid _ from hR
                have he : ghE bs M = 4 := by rw [HE2.out, if_neg hu]
                obtain ⟨e1, e2⟩ := gh_bad he (by omega)
                have HEE : Hid (ghE bs M = 4 ∧ ghK bs M = 0 ∧ ghL bs M = []) := ⟨he, e1, e2⟩
                clear hR hu hu' he e1 e2 hie HI HU
                go_wp2_with (go_at_call 15; refine Calls.mono HR.out ?_; rintro e w3 ⟨rfl, ha3⟩; have HA3 := show Hid (After wr w3) from ha3; clear ha3)
                go_ret3
                refine ⟨.slice none 0 0, ?_, ?_, After.trans HA.out HA3.out⟩
                · rw [HEE.out.1, HEE.out.2.1]; rfl
                · rw [HEE.out.2.2]; exact OwnH.nil _ _
  · have he : ghE bs m = q := by rw [HE.out, if_neg hq0]
    obtain ⟨e1, e2⟩ := gh_bad he hq0
    rw [he, e1, e2]
    have hq0i : ((q : Int) != 0) = true := by simp; omega
    clear he e1 e2 hq
    go_enter Try.func30, Try.ntmps30
    go_wp2_with (go_at_call 47; refine Calls.mono HC.out ?_; rintro e w1 ⟨rfl, ha1⟩; have HA1 := show Hid (After w w1) from ha1; clear ha1)
    go_ret3
    exact ⟨_, rfl, OwnH.nil _ _, HA1.out⟩
end Go.Proofs.Ytedghldjpkabmaa
