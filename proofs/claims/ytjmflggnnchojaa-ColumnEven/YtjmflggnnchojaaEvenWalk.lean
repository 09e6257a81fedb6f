/-
  THE WALK OF stemmalaw03.ColumnEven.
-/
import Derived.Test.YtjmflggnnchojaaBackMath
import Derived.Test.YtjmflggnnchojaaAwake
namespace Go.Proofs.Ytjmflggnnchojaa
open Go.RowKit Leb
set_option maxRecDepth 100000 in
set_option maxHeartbeats 1600000 in
theorem even_any (f s : Int) (n : Nat) (hf : -9223372036854775808 ≤ f ∧ f ≤ 9223372036854775807) (hs : -9223372036854775808 ≤ s ∧ s ≤ 9223372036854775807) (hn : n ≤ 255) (w : World) :
    Calls Try.prog 9 #[.int .i64 f, .int .i64 s, .int .u8 (n : Int)] w fun e w' => e = .returned (.bool true) ∧ Below w.heap.size w w' := by
  have HF : Hid (-9223372036854775808 ≤ f ∧ f ≤ 9223372036854775807) := hf
  obtain ⟨hb1, hb2⟩ := even_len f s hf hs n hn
  have C12 : Hid (∀ a c W, IntsAt W a (evs f s n) → Calls Try.prog 12 #[.slice a n c] W fun e W' => ∃ v, e = .returned v ∧ Own W' W.heap.size v (runsB (diffs (evs f s n))) ∧ After W W') := fun a c W h => by
    have := deltas_any a c (evs f s n) (by rw [evs_len]; omega) W h
    rwa [evs_len] at this
  have C22 : Hid (∀ a c W, BytesAt W a (runsB (diffs (evs f s n))) → Calls Try.prog 22 #[.slice a (runsB (diffs (evs f s n))).length c, .int .i64 255] W fun x w' => GPost W (evs f s n, (runsB (diffs (evs f s n))).length, 0) x w') := fun a c W h => by
    have := getDeltas_any a c (runsB (diffs (evs f s n))) (by omega) 255 (by omega) (by omega) W h
    have hg := getR_back (diffs (evs f s n)) [] 255 (diffs_int _) (by rw [diffs_len, evs_len]; exact hn)
    rw [List.append_nil] at hg
    rw [hg] at this
    simp only [dsums_diffs (evs f s n) (evs_int f s hf n)] at this
    exact this
  have C14 : Hid (∀ a1 a2 c1 c2 W, IntsAt W a1 (evs f s n) → IntsAt W a2 (evs f s n) → Calls Try.prog 14 #[.slice a1 n c1, .slice a2 n c2] W fun e w' => e = .returned (.bool true) ∧ Below W.heap.size W w') := fun a1 a2 c1 c2 W h1 h2 => by
    have := same_any a1 a2 c1 c2 (evs f s n) (evs f s n) (by rw [evs_len]; omega) W h1 h2
    rw [evs_len] at this
    simpa using this
  obtain ⟨B, hB⟩ : ∃ B, runsB (diffs (evs f s n)) = B := ⟨_, rfl⟩
  rw [hB] at hb1 hb2
  simp only [hB] at C12 C22
  obtain ⟨L, hL⟩ : ∃ L, B.length = L := ⟨_, rfl⟩
  rw [hL] at hb1 hb2
  have HL : Hid (B.length = L) := hL
  clear hB hf hs
  go_enter Try.func9, Try.ntmps9
  go_wp2
  go_loopw [0, 7, 8] (fun x v i wr => ∃ (k : Nat), k ≤ n ∧ i = .int .i64 k ∧ (∃ a, x = .int .i64 a ∧ Hid (a = fr f s k)) ∧ Hid (OwnI wr w.heap.size v (evs f s k)) ∧ Hid (After w wr)) (fun _ _ i _ => n - (intOf i).toNat)
  case atStart => exact ⟨0, by omega, rfl, ⟨f, rfl, rfl⟩, OwnI.nil _ _, After.refl _⟩
  case round =>
    obtain ⟨k, hk, rfl, ⟨a, rfl, HA⟩, HO, HB⟩ := hrel
    by_cases hlt : k < n
    · have HLN : Hid ((evs f s k).length + 1 ≤ 1048576) := by unfold Hid; rw [evs_len]; omega
      go_wp2_with (at_builtin; refine wpList_append_ints rfl _ _ rfl w.heap.size _ (evs f s k) rfl (OwnI.keep HO.out (fun i hi => (after_alloc (After.refl _) _).block i (World.ownsRow.lt HO.out i hi).2)) ⟨wr.heap.size, 0, none⟩ 1 [a] 1 rfl rfl (fun i hi => by obtain rfl : i = 0 := (by simp at hi; omega); exact box_cell _ _ _) (by have := HLN.out; simp only [List.length_cons, List.length_nil]; omega) (by have := HB.out.size; simp; omega) ?_; intro v6 w6 ho6 hg6; have HO6 : Hid (OwnI w6 w.heap.size v6 (evs f s (k + 1))) := (by unfold Hid; rw [evs_next, ← HA.out]; exact ho6); have HB6 : Hid (After w w6) := after_grown (after_alloc HB.out _) hg6 (Nat.le_refl _) (fun k hk => (World.ownsRow.lt HO.out k hk).1); clear ho6 hg6)
      go_roundw
      case rel => exact ⟨k + 1, by omega, by go_num, ⟨_, rfl, by unfold Hid fr; rw [HA.out]⟩, HO6.out, HB6.out⟩
      case measure => simp [intOf]; omega
    · obtain rfl : k = n := by omega
      obtain ⟨va, vc, hv, hint, _, hvl⟩ := OwnI.at HO.out
      rw [evs_len] at hv
      subst hv
      have HI : Hid (IntsAt wr va (evs f s k)) := hint
      clear hint hvl HO
      go_wp2_with (first
        | (go_at_call 12; refine (C12.out va vc _ HI.out).mono ?_; rintro x w1 ⟨v1, rfl, ho1, hb1'⟩; obtain ⟨a1, c1, hv1, hat1, hc1, hl1⟩ := Own.at ho1; rw [HL.out] at hv1; subst hv1; have HT1 : Hid (BytesAt w1 a1 B) := hat1; have HI1 : Hid (IntsAt w1 va (evs f s k)) := HI.out.after hb1'; have B1 : Hid (After w w1) := After.trans HB.out hb1'; clear ho1 hb1' hat1 hc1 hl1)
        | (go_at_call 22; refine Calls.mono (by have := C22.out a1 c1 w1 HT1.out; rw [HL.out] at this; exact this) ?_; rintro x w2 ⟨v2, rfl, ho2, hb2'⟩; obtain ⟨a2, c2, hv2, hI2, hc2, hl2⟩ := OwnI.at ho2; replace hv2 : v2 = .slice a2 k c2 := hv2.trans (by rw [evs_len]); subst hv2; have HI2 : Hid (IntsAt w2 a2 (evs f s k)) := hI2; have HI12 : Hid (IntsAt w2 va (evs f s k)) := HI1.out.after hb2'; have B2 : Hid (After w w2) := After.trans B1.out hb2'; clear ho2 hb2' hI2 hc2 hl2)
        | (go_at_call 14; refine (C14.out a2 va c2 vc _ HI2.out HI12.out).mono ?_; rintro x w3 ⟨rfl, hb3⟩; have B3 : Hid (After w w3) := After.trans B2.out hb3; clear hb3)
        | (go_at_call 15; refine (awake_any _).mono ?_; rintro x w4 ⟨rfl, hb4⟩; have B4 : Hid (After w w4) := After.trans B3.out hb4; clear hb4))
      go_ret
      exact ⟨rfl, B4.out⟩
end Go.Proofs.Ytjmflggnnchojaa
