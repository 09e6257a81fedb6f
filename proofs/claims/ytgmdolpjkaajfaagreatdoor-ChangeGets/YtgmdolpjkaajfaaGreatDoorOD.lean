/-
  CONTRACTS: Texts
-/
import Derived.Test.YtgmdolpjkaajfaaGreatDoorOA
namespace Go.Proofs.YtgmdolpjkaajfaaGreatDoor
open Go.RowKit Leb
set_option maxHeartbeats 400000 in
theorem text_any (s : List UInt8) (hs : s.length ≤ 140737488351232) (w : World) :
    Calls Tryz.prog 68 #[.string (strOf s)] w fun e w' => ∃ v, e = .returned v ∧ Own w' w.heap.size v (textB s) ∧ Below w.heap.size w w' := by
  have hsz := strOf_size s
  have HS : Hid (s.length ≤ 140737488351232) := hs
  have hcv : (s.length : Int) < 18446744073709551616 := by omega
  go_enter Tryz.func68, Tryz.ntmps68
  go_wp2_with (first
    | (go_at_call 69; refine (uint_any s.length (by omega) _).mono ?_; rintro e w1 ⟨v1, rfl, ho1, hb1⟩)
    | (at_builtin; refine wpList_append_text rfl _ _ rfl w.heap.size v1 (uintB s.length) rfl ho1 s rfl (by have := uintB_len10 s.length (by omega); omega) hb1.size ?_; intro v2 w2 ho2 hg2))
  go_ret
  exact ⟨_, rfl, ho2, below_grown hb1 hg2 (fun k hk => (World.ownsRow.lt ho1 k hk).1) hb1.size⟩
set_option maxHeartbeats 400000 in
theorem rtext_any (s : List UInt8) (hs : s.length ≤ 140737488351232) (w : World) :
    Calls Tryz.prog 58 #[.string (strOf s)] w fun e w' => ∃ v, e = .returned v ∧ Own w' w.heap.size v (textB s) ∧ Below w.heap.size w w' := by
  have hsz := strOf_size s
  have HS : Hid (s.length ≤ 140737488351232) := hs
  have hcv : (s.length : Int) < 18446744073709551616 := by omega
  go_enter Tryz.func58, Tryz.ntmps58
  go_wp2_with (first
    | (go_at_call 59; refine (ruint_any s.length (by omega) _).mono ?_; rintro e w1 ⟨v1, rfl, ho1, hb1⟩)
    | (at_builtin; refine wpList_append_text rfl _ _ rfl w.heap.size v1 (uintB s.length) rfl ho1 s rfl (by have := uintB_len10 s.length (by omega); omega) hb1.size ?_; intro v2 w2 ho2 hg2))
  go_ret
  exact ⟨_, rfl, ho2, below_grown hb1 hg2 (fun k hk => (World.ownsRow.lt ho1 k hk).1) hb1.size⟩

set_option maxRecDepth 100000 in
set_option maxHeartbeats 800000 in
theorem getText_any (ao : Option Addr) (cap : Nat) (bs : List UInt8) (most : Int) (hcap : bs.length ≤ cap) (hbig : bs.length ≤ 281474976710656) (hm0 : -9223372036854775808 ≤ most) (hm1 : most ≤ 9223372036854775807) (w : World) (hat : BytesAt w ao bs) :
    Calls Tryz.prog 115 #[.slice ao bs.length cap, .int .i64 most] w fun e w' => e = .returned (.tuple #[.string (strOf (gtS bs most)), .int .i64 (gtK bs most : Int), .int .i64 (gtE bs most : Int)]) ∧ Below w.heap.size w w' := by
  have HAT : Hid (BytesAt w ao bs) := hat
  clear hat
  obtain ⟨k, hk⟩ : ∃ k, guK bs = k := ⟨_, rfl⟩
  obtain ⟨n, hn⟩ : ∃ n, guV bs = n := ⟨_, rfl⟩
  have hn64 : n < 18446744073709551616 := hn ▸ guV_lt bs
  have hkl : k ≤ bs.length := hk ▸ guK_le bs
  have HK : Hid (guK bs = k) := hk
  have HN : Hid (guV bs = n) := hn
  by_cases h0 : guE bs = 0
  · have H0 : Hid (guE bs = 0) := h0
    have hkp : 0 < k := hk ▸ guK_pos h0
    by_cases h1 : most < (n : Int)
    · obtain ⟨e1, e2, e3⟩ := gt_e (bs := bs) (most := most) (q := 5) (by unfold gtE; rw [if_pos h0, hn, if_pos h1]) (by omega)
      rw [e1, e2, e3]
      clear e1 e2 e3 h0 hk hn
      by_cases hneg : most < 0
      · go_enter Tryz.func115, Tryz.ntmps115
        go_wp2_with (go_at_call 112; refine (gu_0 ao cap hcap _ HAT.out HN.out HK.out H0.out).mono ?_; rintro e w1 ⟨rfl, hb1⟩)
        go_ret3
        exact ⟨rfl, hb1⟩
      · go_enter Tryz.func115, Tryz.ntmps115
        go_wp2_with (go_at_call 112; refine (gu_0 ao cap hcap _ HAT.out HN.out HK.out H0.out).mono ?_; rintro e w1 ⟨rfl, hb1⟩)
        go_ret3
        exact ⟨rfl, hb1⟩
    · by_cases h2 : bs.length < k + n
      · obtain ⟨e1, e2, e3⟩ := gt_e (bs := bs) (most := most) (q := 3) (by unfold gtE; rw [if_pos h0, hn, hk, if_neg h1, if_pos h2]) (by omega)
        rw [e1, e2, e3]
        clear e1 e2 e3 h0 hk hn
        have hsub : (bs.length : Int) - (k : Int) = ((bs.length - k : Nat) : Int) := by omega
        go_enter Tryz.func115, Tryz.ntmps115
        go_wp2_with (go_at_call 112; refine (gu_0 ao cap hcap _ HAT.out HN.out HK.out H0.out).mono ?_; rintro e w1 ⟨rfl, hb1⟩)
        go_ret3
        exact ⟨rfl, hb1⟩
      · obtain ⟨e1, e2, e3⟩ := gt_0 h0 hk hn h1 h2
        rw [e1, e2, e3]
        clear e1 e2 e3 h0 hk hn
        obtain ⟨b, o, rfl, _⟩ := HAT.out (by intro h; simp [h] at hkl; omega)
        obtain ⟨ao', hat', hsl⟩ := slice_mid b o bs.length cap k (k + n) (by omega) (by omega) bs rfl (by omega)
        rw [show k + n - k = n by omega] at hat' hsl
        rw [show ((k + n : Nat) : Int) = (k : Int) + (n : Int) by omega] at hsl ⊢
        have HAT' : Hid (∀ W : World, BytesAt W (some ⟨b, o, none⟩) bs → BytesAt W ao' ((bs.drop k).take n)) := hat'
        clear hat'
        have hlen : ((bs.drop k).take n).length = n := by simp; omega
        have HL : Hid (((bs.drop k).take n).length = n) := hlen
        clear hlen
        have hcv : ∀ W, After w W → (convert 32 9 (.slice ao' n (cap - k))).run Tryz.prog W = .ok (.string (strOf ((bs.drop k).take n))) W := fun W hW => by
          have := conv_at (cap - k) (HAT'.out W (HAT.out.after hW))
          rwa [HL.out] at this
        go_enter Tryz.func115, Tryz.ntmps115
        go_wp2_with (go_at_call 112; refine (gu_0 _ cap hcap _ HAT.out HN.out HK.out H0.out).mono ?_; rintro e w1 ⟨rfl, hb1⟩; replace hcv := hcv w1 hb1)
        go_ret3
        exact ⟨rfl, hb1⟩
  · obtain ⟨q, hq⟩ : ∃ q, guE bs = q := ⟨_, rfl⟩
    have hq0 : ¬ q = 0 := hq ▸ h0
    obtain ⟨e1, e2, e3⟩ := gt_e (bs := bs) (most := most) (q := q) (by unfold gtE; rw [if_neg h0, hq]) hq0
    rw [e1, e2, e3]
    have HQ : Hid (guE bs = q) := hq
    clear e1 e2 e3 h0 hk hn hq
    go_enter Tryz.func115, Tryz.ntmps115
    go_wp2_with (go_at_call 112; refine (gu_0 ao cap hcap _ HAT.out HN.out HK.out HQ.out).mono ?_; rintro e w1 ⟨rfl, hb1⟩)
    go_ret3
    exact ⟨rfl, hb1⟩
theorem rgu_0 {bs : List UInt8} (ao : Option Addr) (cap : Nat) (hcap : bs.length ≤ cap) (w : World) (hat : BytesAt w ao bs) {n k q : Nat} (hn : guV bs = n) (hk : guK bs = k) (hq : guE bs = q) :
    Calls Tryz.prog 83 #[.slice ao bs.length cap] w fun e w' => e = .returned (.tuple #[.int .u64 (n : Int), .int .i64 (k : Int), .int .i64 (q : Int)]) ∧ Below w.heap.size w w' := by
  have := rgetUint_any ao cap bs hcap w hat
  rw [hn, hk, hq] at this
  exact this
set_option maxRecDepth 100000 in
set_option maxHeartbeats 800000 in
theorem rgetText_any (ao : Option Addr) (cap : Nat) (bs : List UInt8) (most : Int) (hcap : bs.length ≤ cap) (hbig : bs.length ≤ 281474976710656) (hm0 : -9223372036854775808 ≤ most) (hm1 : most ≤ 9223372036854775807) (w : World) (hat : BytesAt w ao bs) :
    Calls Tryz.prog 81 #[.slice ao bs.length cap, .int .i64 most] w fun e w' => e = .returned (.tuple #[.string (strOf (gtS bs most)), .int .i64 (gtK bs most : Int), .int .i64 (gtE bs most : Int)]) ∧ Below w.heap.size w w' := by
  have HAT : Hid (BytesAt w ao bs) := hat
  clear hat
  obtain ⟨k, hk⟩ : ∃ k, guK bs = k := ⟨_, rfl⟩
  obtain ⟨n, hn⟩ : ∃ n, guV bs = n := ⟨_, rfl⟩
  have hn64 : n < 18446744073709551616 := hn ▸ guV_lt bs
  have hkl : k ≤ bs.length := hk ▸ guK_le bs
  have HK : Hid (guK bs = k) := hk
  have HN : Hid (guV bs = n) := hn
  by_cases h0 : guE bs = 0
  · have H0 : Hid (guE bs = 0) := h0
    have hkp : 0 < k := hk ▸ guK_pos h0
    by_cases h1 : most < (n : Int)
    · obtain ⟨e1, e2, e3⟩ := gt_e (bs := bs) (most := most) (q := 5) (by unfold gtE; rw [if_pos h0, hn, if_pos h1]) (by omega)
      rw [e1, e2, e3]
      clear e1 e2 e3 h0 hk hn
      by_cases hneg : most < 0
      · go_enter Tryz.func81, Tryz.ntmps81
        go_wp2_with (go_at_call 83; refine (rgu_0 ao cap hcap _ HAT.out HN.out HK.out H0.out).mono ?_; rintro e w1 ⟨rfl, hb1⟩)
        go_ret3
        exact ⟨rfl, hb1⟩
      · go_enter Tryz.func81, Tryz.ntmps81
        go_wp2_with (go_at_call 83; refine (rgu_0 ao cap hcap _ HAT.out HN.out HK.out H0.out).mono ?_; rintro e w1 ⟨rfl, hb1⟩)
        go_ret3
        exact ⟨rfl, hb1⟩
    · by_cases h2 : bs.length < k + n
      · obtain ⟨e1, e2, e3⟩ := gt_e (bs := bs) (most := most) (q := 3) (by unfold gtE; rw [if_pos h0, hn, hk, if_neg h1, if_pos h2]) (by omega)
        rw [e1, e2, e3]
        clear e1 e2 e3 h0 hk hn
        have hsub : (bs.length : Int) - (k : Int) = ((bs.length - k : Nat) : Int) := by omega
        go_enter Tryz.func81, Tryz.ntmps81
        go_wp2_with (go_at_call 83; refine (rgu_0 ao cap hcap _ HAT.out HN.out HK.out H0.out).mono ?_; rintro e w1 ⟨rfl, hb1⟩)
        go_ret3
        exact ⟨rfl, hb1⟩
      · obtain ⟨e1, e2, e3⟩ := gt_0 h0 hk hn h1 h2
        rw [e1, e2, e3]
        clear e1 e2 e3 h0 hk hn
        obtain ⟨b, o, rfl, _⟩ := HAT.out (by intro h; simp [h] at hkl; omega)
        obtain ⟨ao', hat', hsl⟩ := slice_mid b o bs.length cap k (k + n) (by omega) (by omega) bs rfl (by omega)
        rw [show k + n - k = n by omega] at hat' hsl
        rw [show ((k + n : Nat) : Int) = (k : Int) + (n : Int) by omega] at hsl ⊢
        have HAT' : Hid (∀ W : World, BytesAt W (some ⟨b, o, none⟩) bs → BytesAt W ao' ((bs.drop k).take n)) := hat'
        clear hat'
        have hlen : ((bs.drop k).take n).length = n := by simp; omega
        have HL : Hid (((bs.drop k).take n).length = n) := hlen
        clear hlen
        have hcv : ∀ W, After w W → (convert 32 9 (.slice ao' n (cap - k))).run Tryz.prog W = .ok (.string (strOf ((bs.drop k).take n))) W := fun W hW => by
          have := conv_at (cap - k) (HAT'.out W (HAT.out.after hW))
          rwa [HL.out] at this
        go_enter Tryz.func81, Tryz.ntmps81
        go_wp2_with (go_at_call 83; refine (rgu_0 _ cap hcap _ HAT.out HN.out HK.out H0.out).mono ?_; rintro e w1 ⟨rfl, hb1⟩; replace hcv := hcv w1 hb1)
        go_ret3
        exact ⟨rfl, hb1⟩
  · obtain ⟨q, hq⟩ : ∃ q, guE bs = q := ⟨_, rfl⟩
    have hq0 : ¬ q = 0 := hq ▸ h0
    obtain ⟨e1, e2, e3⟩ := gt_e (bs := bs) (most := most) (q := q) (by unfold gtE; rw [if_neg h0, hq]) hq0
    rw [e1, e2, e3]
    have HQ : Hid (guE bs = q) := hq
    clear e1 e2 e3 h0 hk hn hq
    go_enter Tryz.func81, Tryz.ntmps81
    go_wp2_with (go_at_call 83; refine (rgu_0 ao cap hcap _ HAT.out HN.out HK.out HQ.out).mono ?_; rintro e w1 ⟨rfl, hb1⟩)
    go_ret3
    exact ⟨rfl, hb1⟩
end Go.Proofs.YtgmdolpjkaajfaaGreatDoor
