/-
  THE WALK OF stemmalaw09.BloomNever.
-/
import Derived.Test.YtgcgblecendijaaBA
namespace Go.Proofs.Ytgcgblecendijaa
open Go.RowKit Leb

set_option maxRecDepth 100000 in
set_option maxHeartbeats 4000000 in
theorem never_any (ao : Option Addr) (n ca : Nat) (l : List Hs) (h32 : All32 l) (hl : l.length = n) (hbig : n ≤ 1152921504606846976) (seed : Nat) (hsd : seed < 4294967296) (bits : Int) (w : World) (hA : HsAt w ao l) :
    Calls Try.prog 6 #[.slice ao n ca, .int .u32 (seed : Int), .int .i64 bits] w fun e w' => e = .returned (.bool true) ∧ After w w' := by
  have HL : Hid (All32 l ∧ l.length = n ∧ seed < 4294967296 ∧ HsAt w ao l) := ⟨h32, hl, hsd, hA⟩
  clear h32 hl hsd hA
  by_cases hn : n ≤ 1000
  · have HF : Hid (decide (n ≤ 1000) = true) := decide_eq_true hn
    go_enter Try.func6, Try.ntmps6
    go_wp2_with (first
      | (go_at_call 11; refine Calls.mono (bmake_any ao n ca l HL.out.1 HL.out.2.1 (by omega) seed HL.out.2.2.1 bits w HL.out.2.2.2) ?_; rintro e w1 ⟨s, v1, rfl, hs, ho, ha⟩; obtain ⟨a1, c1, rfl, hat, hle, _⟩ := ho.at; have hsl : s.length ≤ n := (by have := hs.le; rw [HL.out.2.1] at this; exact this); have hok : (mkP s seed (bitsN bits)).Ok := mkP_ok (by omega) HL.out.2.2.1 (bitsN_ok bits).1 (bitsN_ok bits).2; obtain ⟨B, hB⟩ : ∃ B, mkB s seed (bitsN bits) = B := ⟨_, rfl⟩; obtain ⟨K, hK⟩ : ∃ K, B.length = K := ⟨_, rfl⟩; rw [hB] at hat hle ⊢; rw [hK] at hle ⊢; have H1 := show Hid (After w w1 ∧ BytesAt w1 a1 B ∧ B.length = K ∧ K ≤ c1 ∧ K ≤ 600000 ∧ ckE B = 0 ∧ (rdP B).many = s.length ∧ s.length ≤ n ∧ (∀ h, h ∈ l → hasB B h = true) ∧ (s.length = 0 ↔ n = 0)) from ⟨ha, hat, hK, hle, by rw [← hK, ← hB]; exact mkB_len hok, by rw [← hB]; exact (rd_mk hok).2.2, by rw [← hB, (rd_mk hok).1]; rfl, hsl, fun h hh => by rw [← hB]; exact has_mk hok ((hs.mem h).2 hh), by rw [← HL.out.2.1, List.length_eq_zero_iff, List.length_eq_zero_iff]; exact ⟨fun e => List.eq_nil_iff_forall_not_mem.2 (fun x hx => by have := (hs.mem x).2 hx; rw [e] at this; cases this), fun e => List.eq_nil_iff_forall_not_mem.2 (fun x hx => by have := (hs.mem x).1 hx; rw [e] at this; cases this)⟩⟩; clear ho ha hat hle hs hsl hok hB hK)
      | (go_at_call 9; refine Calls.mono (few_any ao n ca hbig w HF.out) ?_; rintro e w0 ⟨rfl, h0⟩; have h0' := h0.symm; clear h0; subst h0'))
    go_loopw [8] (fun i wr => ∃ (k : Nat), k ≤ n ∧ i = .int .i64 k ∧ Hid (After w1 wr)) (fun i _ => n - (intOf i).toNat)
    case atStart => exact ⟨0, by omega, rfl, After.refl _⟩
    case round =>
      obtain ⟨k, hk, rfl, HA⟩ := hrel
      by_cases hlt : k < n
      · have hki : (k : Int) < (n : Int) := by omega
        obtain ⟨h, hh⟩ : ∃ h, l[k]? = some h := ⟨_, List.getElem?_eq_getElem (by rw [HL.out.2.1]; exact hlt)⟩
        obtain ⟨b, f, rfl, hrange⟩ := HL.out.2.2.2.get HL.out.1 (by intro e; rw [e] at hh; simp at hh)
        have HH : Hid (h.length = 32 ∧ wr.rangeAt b (f + k * 32) (c8 h) ∧ hasB B h = true) := ⟨HL.out.1.at hh, range_after (hrange k h hh) (H1.out.1.trans HA.out), H1.out.2.2.2.2.2.2.2.2.1 h (List.mem_of_getElem? hh)⟩
        clear hh hrange
        go_wp2_with (first
          | (refine wpList_of_run rfl (x_idx22 (x := .tmp 24) (y := .tmp 25) (b := b) (f := f) (n := n) (k := k) rfl rfl rfl hlt) ?_)
          | (refine wpList_of_run rfl (x_ld24 HH.out.1 (x := .tmp 26) (g := b) (p := f + k * 32) rfl rfl HH.out.2.1) ?_)
          | (go_at_call 17; refine Calls.mono (bhas_any a1 K c1 B h HH.out.1 H1.out.2.2.1 H1.out.2.2.2.1 (by have := H1.out.2.2.2.2.1; omega) wr (H1.out.2.1.after HA.out)) ?_; rintro e w2 ⟨rfl, ha⟩; rw [HH.out.2.2]; have H2 := show Hid (After w1 w2) from HA.out.trans ha; clear ha))
        go_roundw
        case rel => exact ⟨k + 1, by omega, by go_num, H2.out⟩
        case measure => simp [intOf]; omega
      · obtain rfl : k = n := by omega
        have hki : ¬ (k : Int) < (k : Int) := by omega
        obtain ⟨M, hM⟩ : ∃ M, s.length = M := ⟨_, rfl⟩
        have HM : Hid ((rdP B).many = M ∧ ckE B = 0) := ⟨by rw [← hM]; exact H1.out.2.2.2.2.2.2.1, H1.out.2.2.2.2.2.1⟩
        have hMk : (M : Int) ≤ (k : Int) := by have := H1.out.2.2.2.2.2.2.2.1; omega
        have hMz : M = 0 ↔ k = 0 := by rw [← hM]; exact H1.out.2.2.2.2.2.2.2.2.2
        have hKb : Hid (K ≤ 1152921504606846976) := by have := H1.out.2.2.2.2.1; show K ≤ _; omega
        clear hM
        by_cases hz : M = 0
        · have hk0 := hMz.1 hz
          have m0 : ¬ (0 : Int) < (M : Int) := by omega
          have k0 : ¬ (0 : Int) < (k : Int) := by omega
          clear hMz hz hk0
          go_wp2_with (first
            | (go_at_call 10; have _u := H4.out; clear _u; refine Calls.mono (awake_any w5) ?_; rintro e w6 ⟨rfl, ha⟩; have H6 := show Hid (After w1 w6) from H4.out.2.trans ha; clear ha)
            | (go_at_call 15; have _u := H3.out; clear _u; refine Calls.mono (bmany_any a1 K c1 B H1.out.2.2.1 H1.out.2.2.2.1 hKb.out w4 (H1.out.2.1.after H3.out.2)) ?_; rintro e w5 ⟨rfl, ha⟩; rw [HM.out.1]; have H4 := show Hid (True ∧ After w1 w5) from ⟨trivial, H3.out.2.trans ha⟩; clear ha H3)
            | (go_at_call 15; have _u := H2.out; clear _u; refine Calls.mono (bmany_any a1 K c1 B H1.out.2.2.1 H1.out.2.2.2.1 hKb.out w3 (H1.out.2.1.after H2.out.2)) ?_; rintro e w4 ⟨rfl, ha⟩; rw [HM.out.1]; have H3 := show Hid (True ∧ After w1 w4) from ⟨trivial, H2.out.2.trans ha⟩; clear ha H2)
            | (go_at_call 13; refine Calls.mono (bcheck_any a1 K c1 B H1.out.2.2.1 H1.out.2.2.2.1 hKb.out wr (H1.out.2.1.after HA.out)) ?_; rintro e w3 ⟨rfl, ha⟩; rw [HM.out.2]; have H2 := show Hid (True ∧ After w1 w3) from ⟨trivial, HA.out.trans ha⟩; clear ha))
          go_ret
          exact ⟨rfl, H1.out.1.trans H6.out⟩
        · have hk0 : ¬ k = 0 := fun e => hz (hMz.2 e)
          have m0 : (0 : Int) < (M : Int) := by omega
          have k0 : (0 : Int) < (k : Int) := by omega
          clear hMz hz hk0
          go_wp2_with (first
            | (go_at_call 10; have _u := H4.out; clear _u; refine Calls.mono (awake_any w5) ?_; rintro e w6 ⟨rfl, ha⟩; have H6 := show Hid (After w1 w6) from H4.out.2.trans ha; clear ha)
            | (go_at_call 15; have _u := H3.out; clear _u; refine Calls.mono (bmany_any a1 K c1 B H1.out.2.2.1 H1.out.2.2.2.1 hKb.out w4 (H1.out.2.1.after H3.out.2)) ?_; rintro e w5 ⟨rfl, ha⟩; rw [HM.out.1]; have H4 := show Hid (True ∧ After w1 w5) from ⟨trivial, H3.out.2.trans ha⟩; clear ha H3)
            | (go_at_call 15; have _u := H2.out; clear _u; refine Calls.mono (bmany_any a1 K c1 B H1.out.2.2.1 H1.out.2.2.2.1 hKb.out w3 (H1.out.2.1.after H2.out.2)) ?_; rintro e w4 ⟨rfl, ha⟩; rw [HM.out.1]; have H3 := show Hid (True ∧ After w1 w4) from ⟨trivial, H2.out.2.trans ha⟩; clear ha H2)
            | (go_at_call 13; refine Calls.mono (bcheck_any a1 K c1 B H1.out.2.2.1 H1.out.2.2.2.1 hKb.out wr (H1.out.2.1.after HA.out)) ?_; rintro e w3 ⟨rfl, ha⟩; rw [HM.out.2]; have H2 := show Hid (True ∧ After w1 w3) from ⟨trivial, HA.out.trans ha⟩; clear ha))
          go_ret
          exact ⟨rfl, H1.out.1.trans H6.out⟩
  · have HF : Hid (decide (n ≤ 1000) = false) := decide_eq_false hn
    go_enter Try.func6, Try.ntmps6
    go_wp2_with (first
      | (go_at_call 10; refine Calls.mono (awake_any w) ?_; rintro e w6 ⟨rfl, ha⟩; have H6 := show Hid (After w w6) from ha; clear ha)
      | (go_at_call 9; refine Calls.mono (few_any ao n ca hbig w HF.out) ?_; rintro e w0 ⟨rfl, h0⟩; have h0' := h0.symm; clear h0; subst h0'))
    go_ret
    exact ⟨rfl, H6.out⟩
end Go.Proofs.Ytgcgblecendijaa
