/-
  THE WALK OF stemmalaw04.FrameBack.
-/
import Derived.Test.YtjmjianilcdphaaCutPlain
namespace Go.Proofs.Ytjmjianilcdphaa
open Go.RowKit Leb
set_option maxRecDepth 100000 in
set_option maxHeartbeats 3200000 in
theorem frameBack_any (ao : Option Addr) (cap : Nat) (ps : List (UInt8 × List UInt8)) (hn : ps.length ≤ 1048576) (hps : ∀ p ∈ ps, p.2.length ≤ 1048576) (hbig : (laidB ps).length ≤ 4194000) (z : Nat) (hz : z ≤ 65535) (w : World) (hat : PiecesIn w ao ps) :
    Calls Try.prog 6 #[.slice ao ps.length cap, .int .u16 (z : Int)] w fun e w' => e = .returned (.bool true) ∧ Below w.heap.size w w' := by
  have HAT : Hid (PiecesIn w ao ps) := hat
  have C19 := show Hid _ from laid_any ao cap ps hn hps (by omega) w hat
  have hsc := scan_laid ps [] hps
  rw [scan_nil, List.append_nil] at hsc
  simp only [List.append_nil, Nat.add_zero] at hsc
  have C20 : Hid (∀ (m : Nat) (a1 : Option Addr) (c1 : Nat) (W : World), m ≤ ps.length → FramesAt W a1 (norm (ps.take m)) → PiecesIn W ao ps → Calls Try.prog 20 #[.slice a1 m c1, .slice ao ps.length cap] W fun e w' => e = .returned (.bool true) ∧ Below W.heap.size W w') := fun m a1 c1 W hm h1 h2 => whole_any a1 ao c1 cap ps m hm hn W h1 h2
  have HCS : Hid (∀ j k : Nat, j ≤ ps.length → pl ps j ≤ k → k ≤ (laidB ps).length → (j = ps.length ∨ k < pl ps (j + 1)) → scan ((laidB ps).take k) = (norm (ps.take j), pl ps j, if pl ps j = k then 0 else 3)) := fun j k => cut_scan ps hps j k
  have HEG : Hid (∀ j, j < ps.length → (endsI ps)[j]?.getD 0 = (pl ps (j + 1) : Int)) := endsI_get ps
  have HEL : Hid ((endsI ps).length = ps.length) := endsI_len ps
  have HPA : Hid (pl ps ps.length = (laidB ps).length) := pl_all ps
  have HNM : Hid (∀ m, m ≤ ps.length → (norm (ps.take m)).length = m) := fun m hm => by unfold norm; rw [List.length_map, List.length_take]; omega
  have HPM : Hid (∀ j, j ≤ ps.length → pl ps j ≤ (laidB ps).length) := fun j _ => laid_le ps j
  have HN0 : Hid (norm ps = norm (ps.take ps.length)) := (by unfold Hid; rw [List.take_length])
  obtain ⟨B, hB⟩ : ∃ B, laidB ps = B := ⟨_, rfl⟩
  obtain ⟨n, hn'⟩ : ∃ n, ps.length = n := ⟨_, rfl⟩
  obtain ⟨L, hL⟩ : ∃ n, B.length = n := ⟨_, rfl⟩
  obtain ⟨G, hG⟩ : ∃ n, endsI ps = n := ⟨_, rfl⟩
  have HNF : Hid ((norm ps).length = n) := (by unfold Hid norm; rw [List.length_map]; exact hn')
  rw [hB, hL] at hsc hbig HPA HPM
  rw [hB, hG] at C19
  rw [hB, hL, hn'] at HCS
  rw [hG, hn'] at HEG HEL
  rw [hn'] at C19 C20 hn HPA HNM HPM HN0 ⊢
  have HL : Hid (B.length = L) := hL
  have C16 : Hid (∀ (a : Option Addr) (c k : Nat) (W : World), L ≤ c → k ≤ L → BytesAt W a B → Calls Try.prog 16 #[.slice a k c] W (SPost 33 W (scan (B.take k)))) := fun a c k W hc hk h => by
    have hl : (B.take k).length = k := by rw [List.length_take, hL]; omega
    have := scan_any a c (B.take k) (by rw [hl]; omega) (by rw [hl]; omega) W (h.take k) (fun h0 => by subst h0; rw [bytesAt_none h]; simp)
    rwa [hl] at this
  have C16a : Hid (∀ (a : Option Addr) (c : Nat) (W : World), L ≤ c → BytesAt W a B → Calls Try.prog 16 #[.slice a L c] W (SPost 33 W (norm ps, L, 0))) := fun a c W hc h => by
    have := C16.out a c L W hc (Nat.le_refl _) h
    rwa [List.take_of_length_le (by omega), hsc] at this
  unfold SPost at C16 C16a
  simp only at C16 C16a
  obtain ⟨kk, hkk⟩ : ∃ kk, z % (L + 1) = kk := ⟨_, rfl⟩
  have hkL : kk ≤ L := by rw [← hkk]; have := Nat.mod_lt z (by omega : 0 < L + 1); omega
  have hki : (z : Int) % ((L : Int) + 1) = (kk : Int) := by have := Int.natCast_emod z (L + 1); rw [hkk] at this; rw [this]; rfl
  have hL0 : ¬ ((L : Int) + 1 = 0) := by omega
  clear hat hsc hB hn' hL hG hps hkk
  go_enter Try.func6, Try.ntmps6
  go_wp2_with (first
    | (go_at_call 19; refine Calls.mono C19.out ?_; rintro e w1 ⟨v1, ve1, rfl, ho1, hoe, hb1⟩; obtain ⟨a1, c1, hv1, hat1, hc1, hs1, hs2⟩ := Own.at' ho1; obtain ⟨a0, c0, hv0, hat0, _⟩ := OwnN.at hoe; rw [HL.out] at hv1 hc1; rw [HEL.out] at hv0; subst hv1; subst hv0; have HT1 : Hid (BytesAt w1 a1 B) := hat1; have HI1 : Hid (IntsAt w1 a0 G) := hat0; have HC1 : Hid (L ≤ c1) := hc1; have HS1 : Hid (a1 = none → c1 = 0) := hs1; have HS2 : Hid (∀ a, a1 = some a → ∃ g, a = ⟨g, 0, none⟩) := hs2; have B1 : Hid (After w w1) := hb1; clear ho1 hb1 hat1 hoe hat0 hc1 hs1 hs2)
    | (go_at_call 16; refine (C16a.out a1 c1 w1 HC1.out HT1.out).mono ?_; rintro e w5 ⟨v5, rfl, ho5, hb5⟩; obtain ⟨a5, c5, hv5, hf5⟩ := OwnF.at ho5; rw [HNF.out] at hv5; subst hv5; have HF5 : Hid (FramesAt w5 a5 (norm ps)) := hf5; have A5 : Hid (After w1 w5) := hb5; clear ho5 hb5 hf5)
    | (go_at_call 20; refine (C20.out n a5 c5 w5 (Nat.le_refl _) (by rw [← HN0.out]; exact HF5.out) (HAT.out.after (After.trans B1.out A5.out))).mono ?_; rintro e w6 ⟨rfl, hb6⟩; have A6 : Hid (After w1 w6) := After.trans A5.out hb6; clear hb6))
  rw [hki]
  clear hki hL0 hz
  go_loopw [13, 14, 15] (fun m la i wr => ∃ j : Nat, j ≤ n ∧ i = .int .i64 j ∧ m = .int .i64 j ∧ la = .int .i64 (pl ps j : Int) ∧ Hid (pl ps j ≤ kk) ∧ Hid (After w1 wr)) (fun _ _ i _ => n - (intOf i).toNat)
  case atStart => exact ⟨0, by omega, rfl, rfl, rfl, by unfold Hid; rw [pl_zero]; omega, A6.out⟩
  case round =>
    obtain ⟨j, hj, rfl, rfl, rfl, HP, HA⟩ := hrel
    by_cases hstep : j < n ∧ pl ps (j + 1) ≤ kk
    · obtain ⟨hlt, hle⟩ := hstep
      have hGl : j < G.length := (by rw [HEL.out]; exact hlt)
      obtain ⟨b0, o0, rfl, hc0⟩ := HI1.out (by intro h; rw [h] at hGl; simp at hGl)
      have hcj := hc0 j hGl
      rw [HEG.out j hlt] at hcj
      obtain ⟨q, hq⟩ : ∃ q, pl ps (j + 1) = q := ⟨_, rfl⟩
      rw [hq] at hcj hle
      have HQ : Hid (pl ps (j + 1) = q) := hq
      have hcr : wr.cell? ⟨b0, o0 + j, none⟩ = some (.int .i64 (q : Int)) := (Below.cell HA.out (p := ⟨b0, o0 + j, none⟩) (block_lt_of_cell hcj)).trans hcj
      clear hcj hc0 hGl hq
      go_wp2
      go_roundw
      case rel => exact ⟨j + 1, by omega, by go_num, by go_num, by rw [HQ.out], by unfold Hid; rw [HQ.out]; exact hle, HA.out⟩
      case measure => simp [intOf]; omega
    · have hend : j = n ∨ kk < pl ps (j + 1) := by omega
      have HCR : Hid (j < n → ∃ b0 o0, a0 = some ⟨b0, o0, none⟩ ∧ ∃ q : Nat, kk < q ∧ wr.cell? ⟨b0, o0 + j, none⟩ = some (.int .i64 (q : Int))) := fun hlt => by
        have hGl : j < G.length := (by rw [HEL.out]; exact hlt)
        obtain ⟨b0, o0, h0, hc0⟩ := HI1.out (by intro h; rw [h] at hGl; simp at hGl)
        have hcj := hc0 j hGl
        rw [HEG.out j hlt] at hcj
        exact ⟨b0, o0, h0, pl ps (j + 1), by omega, (Below.cell HA.out (p := ⟨b0, o0 + j, none⟩) (block_lt_of_cell hcj)).trans hcj⟩
      have HSC := show Hid _ from HCS.out j kk hj HP.out hkL hend
      have C16b := show Hid _ from C16.out a1 c1 kk wr HC1.out hkL (HT1.out.after HA.out)
      rw [HSC.out] at C16b
      have hsl := fun W => slice_upto a1 L c1 kk (Nat.le_trans hkL HC1.out) HS1.out HS2.out W
      have HMJ : Hid ((norm (ps.take j)).length = j) := HNM.out j hj
      obtain ⟨q, hq⟩ : ∃ q, pl ps j = q := ⟨_, rfl⟩
      rw [hq] at C16b HP ⊢
      have HQ : Hid (q ≤ kk) := HP.out
      clear hq HP hend HSC
      by_cases hqk : q = kk
      · subst hqk
        rw [if_pos rfl] at C16b
        by_cases hjn : j < n
        · obtain ⟨b0, o0, rfl, q2, hq2, hcr⟩ := HCR.out hjn
          clear HCR
          go_wp2_with (first
            | (go_at_call 16; refine Calls.mono C16b.out ?_; rintro e w7 ⟨v7, rfl, ho7, hb7⟩; obtain ⟨a7, c7, hv7, hf7⟩ := OwnF.at ho7; simp only [HMJ.out] at hv7; subst hv7; have HF7 : Hid (FramesAt w7 a7 (norm (ps.take j))) := hf7; have A7 : Hid (After w1 w7) := After.trans HA.out hb7; clear ho7 hb7 hf7)
            | (go_at_call 20; refine (C20.out j a7 c7 w7 hj HF7.out (HAT.out.after (After.trans B1.out A7.out))).mono ?_; rintro e w8 ⟨rfl, hb8⟩; have A8 : Hid (After w1 w8) := After.trans A7.out hb8; clear hb8)
            | (go_at_call 13; refine (awake_any _).mono ?_; rintro e w9 ⟨rfl, hb9⟩; have B9 : Hid (After w w9) := After.trans B1.out (After.trans A8.out hb9); clear hb9))
          go_ret
          exact ⟨rfl, B9.out⟩
        · obtain rfl : j = n := by omega
          clear HCR
          go_wp2_with (first
            | (go_at_call 16; refine Calls.mono C16b.out ?_; rintro e w7 ⟨v7, rfl, ho7, hb7⟩; obtain ⟨a7, c7, hv7, hf7⟩ := OwnF.at ho7; simp only [HMJ.out] at hv7; subst hv7; have HF7 : Hid (FramesAt w7 a7 (norm (ps.take j))) := hf7; have A7 : Hid (After w1 w7) := After.trans HA.out hb7; clear ho7 hb7 hf7)
            | (go_at_call 20; refine (C20.out j a7 c7 w7 hj HF7.out (HAT.out.after (After.trans B1.out A7.out))).mono ?_; rintro e w8 ⟨rfl, hb8⟩; have A8 : Hid (After w1 w8) := After.trans A7.out hb8; clear hb8)
            | (go_at_call 13; refine (awake_any _).mono ?_; rintro e w9 ⟨rfl, hb9⟩; have B9 : Hid (After w w9) := After.trans B1.out (After.trans A8.out hb9); clear hb9))
          go_ret
          exact ⟨rfl, B9.out⟩
      · rw [if_neg hqk] at C16b
        have hqi : ((q : Int) == (kk : Int)) = false := by simp; omega
        by_cases hjn : j < n
        · obtain ⟨b0, o0, rfl, q2, hq2, hcr⟩ := HCR.out hjn
          clear HCR
          go_wp2_with (first
            | (go_at_call 16; refine Calls.mono C16b.out ?_; rintro e w7 ⟨v7, rfl, ho7, hb7⟩; obtain ⟨a7, c7, hv7, hf7⟩ := OwnF.at ho7; simp only [HMJ.out] at hv7; subst hv7; have HF7 : Hid (FramesAt w7 a7 (norm (ps.take j))) := hf7; have A7 : Hid (After w1 w7) := After.trans HA.out hb7; clear ho7 hb7 hf7)
            | (go_at_call 20; refine (C20.out j a7 c7 w7 hj HF7.out (HAT.out.after (After.trans B1.out A7.out))).mono ?_; rintro e w8 ⟨rfl, hb8⟩; have A8 : Hid (After w1 w8) := After.trans A7.out hb8; clear hb8)
            | (go_at_call 13; refine (awake_any _).mono ?_; rintro e w9 ⟨rfl, hb9⟩; have B9 : Hid (After w w9) := After.trans B1.out (After.trans A8.out hb9); clear hb9))
          go_ret
          exact ⟨rfl, B9.out⟩
        · obtain rfl : j = n := by omega
          clear HCR
          go_wp2_with (first
            | (go_at_call 16; refine Calls.mono C16b.out ?_; rintro e w7 ⟨v7, rfl, ho7, hb7⟩; obtain ⟨a7, c7, hv7, hf7⟩ := OwnF.at ho7; simp only [HMJ.out] at hv7; subst hv7; have HF7 : Hid (FramesAt w7 a7 (norm (ps.take j))) := hf7; have A7 : Hid (After w1 w7) := After.trans HA.out hb7; clear ho7 hb7 hf7)
            | (go_at_call 20; refine (C20.out j a7 c7 w7 hj HF7.out (HAT.out.after (After.trans B1.out A7.out))).mono ?_; rintro e w8 ⟨rfl, hb8⟩; have A8 : Hid (After w1 w8) := After.trans A7.out hb8; clear hb8)
            | (go_at_call 13; refine (awake_any _).mono ?_; rintro e w9 ⟨rfl, hb9⟩; have B9 : Hid (After w w9) := After.trans B1.out (After.trans A8.out hb9); clear hb9))
          go_ret
          exact ⟨rfl, B9.out⟩
end Go.Proofs.Ytjmjianilcdphaa
