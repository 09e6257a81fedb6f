/-
  THE WALK OF leb.GetText.
-/
import Derived.Test.YtfeepebiahekkaaGetsTwo
namespace Go.Proofs.Ytfeepebiahekkaa
open Go.RowKit Leb
/-- b[lo:hi], of a slice that is not nil. -/
theorem slice_mid (b o len cap lo hi : Nat) (h1 : lo ≤ hi) (h2 : hi ≤ cap) (bs : List UInt8) (hl : bs.length = len) (hh : hi ≤ len) : ∃ ao : Option Addr, (∀ W : World, BytesAt W (some ⟨b, o, none⟩) bs → BytesAt W ao ((bs.drop lo).take (hi - lo))) ∧
    ∀ W : World, (Instr.sliceAt 23 (.slice (some ⟨b, o, none⟩) len cap) (some (.int .i64 (lo : Int))) (some (.int .i64 (hi : Int))) none).run Try.prog W = .ok (.slice ao (hi - lo) (cap - lo)) W := by
  obtain ⟨i, hi', hz⟩ := Option.map_eq_some_iff.1 bytes5
  simp only [Prod.mk.injEq] at hz
  obtain ⟨_, hsz, _⟩ := hz
  refine ⟨if cap = lo then some ⟨b, o, none⟩ else some ((⟨b, o, none⟩ : Addr).add lo), fun W hW hn => ?_, fun W => ?_⟩
  · have hlt : lo < hi := by
      rcases Nat.lt_or_ge lo hi with h | h
      · exact h
      · rw [show hi - lo = 0 by omega] at hn; simp at hn
    obtain ⟨b', o', he, hc⟩ := hW (by intro h; subst h; simp at hl; omega)
    cases he
    refine ⟨b, o + lo, by rw [if_neg (by omega), Addr.add_mid], fun j hj => ?_⟩
    simp only [List.length_take, List.length_drop] at hj
    rw [Nat.add_assoc, hc (lo + j) (by omega)]
    have h3 : j < hi - lo := by omega
    simp [List.getD_eq_getElem?_getD, List.getElem?_drop, h3]
  · by_cases hcl : cap = lo
    · simp [Instr.sliceAt, Instr.slice, run_underlying Try.underlying23, Instr.sliceBounds, Instr.sliceBound, asIntOf, sizeOf, typeInfo, hi', hsz, hcl]
      rw [if_pos (by omega), if_pos h1]
    · simp [Instr.sliceAt, Instr.slice, run_underlying Try.underlying23, Instr.sliceBounds, Instr.sliceBound, asIntOf, sizeOf, typeInfo, hi', hsz, hcl]
      rw [if_pos h2, if_pos h1]
theorem gt_0 {bs : List UInt8} {most : Int} {k n : Nat} (h0 : guE bs = 0) (hk : guK bs = k) (hn : guV bs = n) (h1 : ¬ most < (n : Int)) (h2 : ¬ bs.length < k + n) : gtE bs most = 0 ∧ gtK bs most = k + n ∧ gtS bs most = (bs.drop k).take n := by
  have e : gtE bs most = 0 := by unfold gtE; rw [if_pos h0, hk, hn, if_neg h1, if_neg h2]
  exact ⟨e, by unfold gtK; rw [if_pos e, hk, hn], by unfold gtS; rw [if_pos e, hk, hn]⟩
theorem gt_e {bs : List UInt8} {most : Int} {q : Nat} (hq : gtE bs most = q) (h0 : ¬ q = 0) : gtE bs most = q ∧ gtK bs most = 0 ∧ gtS bs most = [] := by
  have h0' : ¬ gtE bs most = 0 := by rw [hq]; exact h0
  exact ⟨hq, by unfold gtK; rw [if_neg h0'], by unfold gtS; rw [if_neg h0']⟩
theorem gu_0 {bs : List UInt8} (ao : Option Addr) (cap : Nat) (hcap : bs.length ≤ cap) (w : World) (hat : BytesAt w ao bs) {n k q : Nat} (hn : guV bs = n) (hk : guK bs = k) (hq : guE bs = q) :
    Calls Try.prog 18 #[.slice ao bs.length cap] w fun e w' => e = .returned (.tuple #[.int .u64 (n : Int), .int .i64 (k : Int), .int .i64 (q : Int)]) ∧ Below w.heap.size w w' := by
  have := getUint_any ao cap bs hcap w hat
  rw [hn, hk, hq] at this
  exact this
theorem guK_pos {bs : List UInt8} (h : guE bs = 0) : 0 < guK bs := by
  have h0 : (grp 10 bs).1 = 0 := by unfold guE at h; split at h; assumption; assumption
  unfold guK; rw [if_pos h]; exact (grp_le 10 bs h0).2.2
theorem strOf_nil : (⟨#[]⟩ : ByteArray) = strOf [] := rfl
set_option maxRecDepth 100000 in
set_option maxHeartbeats 800000 in
theorem getText_any (ao : Option Addr) (cap : Nat) (bs : List UInt8) (most : Int) (hcap : bs.length ≤ cap) (hbig : bs.length ≤ 281474976710656) (hm0 : -9223372036854775808 ≤ most) (hm1 : most ≤ 9223372036854775807) (w : World) (hat : BytesAt w ao bs) :
    Calls Try.prog 22 #[.slice ao bs.length cap, .int .i64 most] w fun e w' => e = .returned (.tuple #[.string (strOf (gtS bs most)), .int .i64 (gtK bs most : Int), .int .i64 (gtE bs most : Int)]) ∧ Below w.heap.size w w' := by
  have HAT : Hid (BytesAt w ao bs) := hat
  clear hat
  obtain ⟨k, hk⟩ : ∃ k, guK bs = k := ⟨_, rfl⟩
  obtain ⟨n, hn⟩ : ∃ n, guV bs = n := ⟨_, rfl⟩
  have hn64 : n < 18446744073709551616 := hn ▸ guV_lt bs
  have hkl : k ≤ bs.length := hk ▸ guK_le bs
  have HK : Hid (guK bs = k) := hk
  have HN : Hid (guV bs = n) := hn
  by_cases h0 : guE bs = 0
  · have H0 : Hid (guE bs = 0) := h0
    have hkp : 0 < k := hk ▸ guK_pos h0
    by_cases h1 : most < (n : Int)
    · obtain ⟨e1, e2, e3⟩ := gt_e (bs := bs) (most := most) (q := 5) (by unfold gtE; rw [if_pos h0, hn, if_pos h1]) (by omega)
      rw [e1, e2, e3]
      clear e1 e2 e3 h0 hk hn
      by_cases hneg : most < 0
      · go_enter Try.func22, Try.ntmps22
        go_wp2_with (go_at_call 18; refine (gu_0 ao cap hcap _ HAT.out HN.out HK.out H0.out).mono ?_; rintro e w1 ⟨rfl, hb1⟩)
        go_ret3
        exact ⟨rfl, hb1⟩
      · go_enter Try.func22, Try.ntmps22
        go_wp2_with (go_at_call 18; refine (gu_0 ao cap hcap _ HAT.out HN.out HK.out H0.out).mono ?_; rintro e w1 ⟨rfl, hb1⟩)
        go_ret3
        exact ⟨rfl, hb1⟩
    · by_cases h2 : bs.length < k + n
      · obtain ⟨e1, e2, e3⟩ := gt_e (bs := bs) (most := most) (q := 3) (by unfold gtE; rw [if_pos h0, hn, hk, if_neg h1, if_pos h2]) (by omega)
        rw [e1, e2, e3]
        clear e1 e2 e3 h0 hk hn
        have hsub : (bs.length : Int) - (k : Int) = ((bs.length - k : Nat) : Int) := by omega
        go_enter Try.func22, Try.ntmps22
        go_wp2_with (go_at_call 18; refine (gu_0 ao cap hcap _ HAT.out HN.out HK.out H0.out).mono ?_; rintro e w1 ⟨rfl, hb1⟩)
        go_ret3
        exact ⟨rfl, hb1⟩
      · obtain ⟨e1, e2, e3⟩ := gt_0 h0 hk hn h1 h2
        rw [e1, e2, e3]
        clear e1 e2 e3 h0 hk hn
        obtain ⟨b, o, rfl, _⟩ := HAT.out (by intro h; simp [h] at hkl; omega)
        obtain ⟨ao', hat', hsl⟩ := slice_mid b o bs.length cap k (k + n) (by omega) (by omega) bs rfl (by omega)
        rw [show k + n - k = n by omega] at hat' hsl
        rw [show ((k + n : Nat) : Int) = (k : Int) + (n : Int) by omega] at hsl ⊢
        have HAT' : Hid (∀ W : World, BytesAt W (some ⟨b, o, none⟩) bs → BytesAt W ao' ((bs.drop k).take n)) := hat'
        clear hat'
        have hlen : ((bs.drop k).take n).length = n := by simp; omega
        have HL : Hid (((bs.drop k).take n).length = n) := hlen
        clear hlen
        have hcv : ∀ W, After w W → (convert 23 9 (.slice ao' n (cap - k))).run Try.prog W = .ok (.string (strOf ((bs.drop k).take n))) W := fun W hW => by
          have := conv_at (cap - k) (HAT'.out W (HAT.out.after hW))
          rwa [HL.out] at this
        go_enter Try.func22, Try.ntmps22
        go_wp2_with (go_at_call 18; refine (gu_0 _ cap hcap _ HAT.out HN.out HK.out H0.out).mono ?_; rintro e w1 ⟨rfl, hb1⟩; replace hcv := hcv w1 hb1)
        go_ret3
        exact ⟨rfl, hb1⟩
  · obtain ⟨q, hq⟩ : ∃ q, guE bs = q := ⟨_, rfl⟩
    have hq0 : ¬ q = 0 := hq ▸ h0
    obtain ⟨e1, e2, e3⟩ := gt_e (bs := bs) (most := most) (q := q) (by unfold gtE; rw [if_neg h0, hq]) hq0
    rw [e1, e2, e3]
    have HQ : Hid (guE bs = q) := hq
    clear e1 e2 e3 h0 hk hn hq
    go_enter Try.func22, Try.ntmps22
    go_wp2_with (go_at_call 18; refine (gu_0 ao cap hcap _ HAT.out HN.out HK.out HQ.out).mono ?_; rintro e w1 ⟨rfl, hb1⟩)
    go_ret3
    exact ⟨rfl, hb1⟩
end Go.Proofs.Ytfeepebiahekkaa
