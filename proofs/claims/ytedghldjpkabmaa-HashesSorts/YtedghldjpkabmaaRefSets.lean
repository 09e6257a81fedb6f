/-
  THE WALKS OF stemmaref06.Sort, Union, Minus AND Meet.
-/
import Derived.Test.YtedghldjpkabmaaRefWith
namespace Go.Proofs.Ytedghldjpkabmaa
open Go.RowKit Go.Sort
/-- What the loops keep: a rising list of what was met. -/
structure WI (w : World) (o : Option Addr) (k c : Nat) (s : List Hs) (p : Hs → Prop) (wr : World) : Prop where
  ws : WS wr o k c s
  mem : ∀ x, x ∈ s ↔ p x
  aft : After w wr
theorem mem_take_succ {l : List Hs} {i : Nat} {h : Hs} (hi : l[i]? = some h) (x : Hs) : x ∈ l.take (i + 1) ↔ x = h ∨ x ∈ l.take i := by
  rw [List.take_add_one, hi]; simp [or_comm]
def TellW (w : World) (N : Nat) (p : Hs → Prop) (e : Ending) (w' : World) : Prop := ∃ (o : Option Addr) (k c : Nat) (s : List Hs), e = .returned (.slice o k c) ∧ WI w o k c s p w' ∧ k ≤ N

set_option maxRecDepth 100000 in
set_option maxHeartbeats 3200000 in
theorem rsort14 (ao : Option Addr) (n ca : Nat) (l : List Hs) (h32 : All32 l) (hl : l.length = n) (hn : n ≤ 50000) (w : World) (hA : HsAt w ao l) :
    Calls Try.prog 14 #[.slice ao n ca] w (TellW w n (fun x => x ∈ l)) := by
  have HL : Hid (HsAt w ao l ∧ All32 l ∧ l.length = n) := ⟨hA, h32, hl⟩
  clear hA h32 hl
  go_enter Try.func14, Try.ntmps14
  go_wp2_with fail
  go_loopw [3, 4] (fun vo vi wr => ∃ (i : Nat) (oo : Option Addr) (k c : Nat) (s : List Hs), vi = .int .i64 (i : Int) ∧ vo = .slice oo k c ∧ i ≤ n ∧ k ≤ i ∧ Hid (WI w oo k c s (fun x => x ∈ l.take i) wr)) (fun _ vi _ => n - (intOf vi).toNat)
  case atStart => exact ⟨0, none, 0, 0, [], rfl, rfl, Nat.zero_le _, Nat.le_refl _, ⟨fun h => absurd rfl h, All32.nil, List.Pairwise.nil, rfl, Nat.le_refl _, fun _ => rfl⟩, fun x => by simp, After.refl w⟩
  case round =>
    obtain ⟨i, oo, k, c, s, rfl, rfl, hin, hki, HI⟩ := hrel
    by_cases hlt : i < n
    · obtain ⟨h, hh⟩ : ∃ h, l[i]? = some h := ⟨_, List.getElem?_eq_getElem (by rw [HL.out.2.2]; exact hlt)⟩
      have HLH : Hid (l[i]? = some h) := hh
      obtain ⟨b, o, hao, hrg⟩ := HL.out.1.get HL.out.2.1 (fun e => by rw [e] at hh; simp at hh)
      subst hao
      have HR : Hid (wr.rangeAt b (o + i * 32) (c8 h)) := range_after (hrg i h hh) HI.out.aft
      have H32 : Hid (h.length = 32) := HL.out.2.1.at hh
      have hii : (i : Int) < (n : Int) := by omega
      clear hh hrg
      go_wp2_with (first
        | (refine wpList_load_mid rfl 24 (.tmp 14) rfl b (o + i * 32) rfl (c8 h) _ HR.out Try.underlying24 rfl (size24' H32.out) ?_)
        | (go_at_call 36; refine Calls.mono (with_any oo k c s h H32.out (by omega) wr HI.out.ws) ?_; rintro e w3 ⟨o3, k3, c3, s3, rfl, hw3, hm3, hk3, ha3⟩; have H3 := show Hid (WS w3 o3 k3 c3 s3 ∧ (∀ x, x ∈ s3 ↔ x = h ∨ x ∈ s) ∧ After wr w3) from ⟨hw3, hm3, ha3⟩; clear hw3 hm3 ha3))
      go_roundw
      case rel => exact ⟨i + 1, o3, k3, c3, s3, by go_num, rfl, by omega, by omega, H3.out.1, fun x => by rw [H3.out.2.1 x, HI.out.mem x, mem_take_succ HLH.out], After.trans HI.out.aft H3.out.2.2⟩
      case measure => simp [intOf]; omega
    · obtain rfl : i = n := by omega
      have hii : ¬ (i : Int) < (i : Int) := by omega
      go_wp2
      go_ret
      exact ⟨oo, k, c, s, rfl, ⟨HI.out.ws, fun x => by rw [HI.out.mem x, ← HL.out.2.2, List.take_length], HI.out.aft⟩, hki⟩

set_option maxRecDepth 100000 in
set_option maxHeartbeats 3200000 in
theorem runion21 (ao bo : Option Addr) (m ma n ca : Nat) (l0 l : List Hs) (h320 : All32 l0) (hl0 : l0.length = m) (h32 : All32 l) (hl : l.length = n) (hm : m ≤ 40000) (hn : n ≤ 40000) (w : World) (hA0 : HsAt w ao l0) (hA : HsAt w bo l) :
    Calls Try.prog 21 #[.slice ao m ma, .slice bo n ca] w (TellW w (m + n) (fun x => x ∈ l0 ∨ x ∈ l)) := by
  have HL : Hid (HsAt w bo l ∧ All32 l ∧ l.length = n) := ⟨hA, h32, hl⟩
  have HC := show Hid _ from rsort14 ao m ma l0 h320 hl0 (by omega) w hA0
  clear hA h32 hl hA0 h320 hl0
  go_enter Try.func21, Try.ntmps21
  go_wp2_with (go_at_call 14; refine Calls.mono HC.out ?_; rintro e w1 ⟨o1, k1, c1, s1, rfl, h1, hk1⟩; have H1 := show Hid (WI _ _ _ _ _ _ _) from h1; clear h1)
  go_loopw [5, 6] (fun vo vi wr => ∃ (i : Nat) (oo : Option Addr) (k c : Nat) (s : List Hs), vi = .int .i64 (i : Int) ∧ vo = .slice oo k c ∧ i ≤ n ∧ k ≤ m + i ∧ Hid (WI w oo k c s (fun x => x ∈ l0 ∨ x ∈ l.take i) wr)) (fun _ vi _ => n - (intOf vi).toNat)
  case atStart => exact ⟨0, o1, k1, c1, s1, rfl, rfl, Nat.zero_le _, by omega, H1.out.ws, fun x => by rw [H1.out.mem x]; simp, H1.out.aft⟩
  case round =>
    obtain ⟨i, oo, k, c, s, rfl, rfl, hin, hki, HI⟩ := hrel
    by_cases hlt : i < n
    · obtain ⟨h, hh⟩ : ∃ h, l[i]? = some h := ⟨_, List.getElem?_eq_getElem (by rw [HL.out.2.2]; exact hlt)⟩
      have HLH : Hid (l[i]? = some h) := hh
      obtain ⟨b, o, hao, hrg⟩ := HL.out.1.get HL.out.2.1 (fun e => by rw [e] at hh; simp at hh)
      subst hao
      have HR : Hid (wr.rangeAt b (o + i * 32) (c8 h)) := range_after (hrg i h hh) HI.out.aft
      have H32 : Hid (h.length = 32) := HL.out.2.1.at hh
      have hii : (i : Int) < (n : Int) := by omega
      clear hh hrg
      go_wp2_with (first
        | (refine wpList_load_mid rfl 24 (.tmp 18) rfl b (o + i * 32) rfl (c8 h) _ HR.out Try.underlying24 rfl (size24' H32.out) ?_)
        | (go_at_call 36; refine Calls.mono (with_any oo k c s h H32.out (by omega) wr HI.out.ws) ?_; rintro e w3 ⟨o3, k3, c3, s3, rfl, hw3, hm3, hk3, ha3⟩; have H3 := show Hid (WS w3 o3 k3 c3 s3 ∧ (∀ x, x ∈ s3 ↔ x = h ∨ x ∈ s) ∧ After wr w3) from ⟨hw3, hm3, ha3⟩; clear hw3 hm3 ha3))
      go_roundw
      case rel => exact ⟨i + 1, o3, k3, c3, s3, by go_num, rfl, by omega, by omega, H3.out.1, fun x => by
        rw [H3.out.2.1 x, HI.out.mem x, mem_take_succ HLH.out]
        by_cases e1 : x = h <;> by_cases e2 : x ∈ l0 <;> simp [e1, e2], After.trans HI.out.aft H3.out.2.2⟩
      case measure => simp [intOf]; omega
    · obtain rfl : i = n := by omega
      have hii : ¬ (i : Int) < (i : Int) := by omega
      go_wp2
      go_ret
      exact ⟨oo, k, c, s, rfl, ⟨HI.out.ws, fun x => by rw [HI.out.mem x, ← HL.out.2.2, List.take_length], HI.out.aft⟩, hki⟩

set_option maxRecDepth 100000 in
set_option maxHeartbeats 3200000 in
theorem rminus23 (ao bo : Option Addr) (n ca m ma : Nat) (l l0 : List Hs) (h32 : All32 l) (hl : l.length = n) (h320 : All32 l0) (hl0 : l0.length = m) (hn : n ≤ 40000) (hm : m ≤ 40000) (w : World) (hA : HsAt w ao l) (hA0 : HsAt w bo l0) :
    Calls Try.prog 23 #[.slice ao n ca, .slice bo m ma] w (TellW w n (fun x => x ∈ l ∧ ¬ x ∈ l0)) := by
  have HL : Hid (HsAt w ao l ∧ All32 l ∧ l.length = n) := ⟨hA, h32, hl⟩
  have HB : Hid (HsAt w bo l0 ∧ All32 l0 ∧ l0.length = m) := ⟨hA0, h320, hl0⟩
  clear hA h32 hl hA0 h320 hl0
  go_enter Try.func23, Try.ntmps23
  go_wp2_with fail
  go_loopw [5, 6] (fun vo vi wr => ∃ (i : Nat) (oo : Option Addr) (k c : Nat) (s : List Hs), vi = .int .i64 (i : Int) ∧ vo = .slice oo k c ∧ i ≤ n ∧ k ≤ i ∧ Hid (WI w oo k c s (fun x => x ∈ l.take i ∧ ¬ x ∈ l0) wr)) (fun _ vi _ => n - (intOf vi).toNat)
  case atStart => exact ⟨0, none, 0, 0, [], rfl, rfl, Nat.zero_le _, Nat.le_refl _, ⟨fun h => absurd rfl h, All32.nil, List.Pairwise.nil, rfl, Nat.le_refl _, fun _ => rfl⟩, fun x => by simp, After.refl w⟩
  case round =>
    obtain ⟨i, oo, k, c, s, rfl, rfl, hin, hki, HI⟩ := hrel
    by_cases hlt : i < n
    · obtain ⟨h, hh⟩ : ∃ h, l[i]? = some h := ⟨_, List.getElem?_eq_getElem (by rw [HL.out.2.2]; exact hlt)⟩
      have HLH : Hid (l[i]? = some h) := hh
      obtain ⟨b, o, hao, hrg⟩ := HL.out.1.get HL.out.2.1 (fun e => by rw [e] at hh; simp at hh)
      subst hao
      have HR : Hid (wr.rangeAt b (o + i * 32) (c8 h)) := range_after (hrg i h hh) HI.out.aft
      have H32 : Hid (h.length = 32) := HL.out.2.1.at hh
      have hii : (i : Int) < (n : Int) := by omega
      clear hh hrg
      cases hmb : decide (h ∈ l0) with
      | false =>
        have HMB : Hid (decide (h ∈ l0) = false) := hmb
        go_wp2_with (first
        | (refine wpList_load_mid rfl 24 (.tmp 23) rfl b (o + i * 32) rfl (c8 h) _ HR2.out Try.underlying24 rfl (size24' H32.out) ?_)
        | (go_at_call 36; refine Calls.mono (with_any oo k c s h H32.out (by omega) w2 (HI.out.ws.after HA2.out)) ?_; rintro e w3 ⟨o3, k3, c3, s3, rfl, hw3, hm3, hk3, ha3⟩; have H3 := show Hid (WS w3 o3 k3 c3 s3 ∧ (∀ x, x ∈ s3 ↔ x = h ∨ x ∈ s) ∧ After w2 w3) from ⟨hw3, hm3, ha3⟩; clear hw3 hm3 ha3)
        | (go_at_call 19; refine Calls.mono (rhas19 bo ma l0 h H32.out HB.out.2.1 m HB.out.2.2 (by omega) wr (HB.out.1.after HI.out.aft)) ?_; rintro e w2 ⟨rfl, ha2⟩; rw [hmb]; have HA2 := show Hid (After wr w2) from ha2; have HR2 := show Hid _ from range_after HR.out ha2; clear ha2)
        | (refine wpList_load_mid rfl 24 (.tmp 16) rfl b (o + i * 32) rfl (c8 h) _ HR.out Try.underlying24 rfl (size24' H32.out) ?_))
        go_roundw
        case rel => exact ⟨i + 1, o3, k3, c3, s3, by go_num, rfl, by omega, by omega, H3.out.1, fun x => by
          rw [H3.out.2.1 x, HI.out.mem x, mem_take_succ HLH.out]
          have hd := HMB.out
          simp only [decide_eq_false_iff_not] at hd
          by_cases e1 : x = h
          · subst e1; simp [hd]
          · simp [e1], After.trans HI.out.aft (After.trans HA2.out H3.out.2.2)⟩
        case measure => simp [intOf]; omega
      | true =>
        have HMB : Hid (decide (h ∈ l0) = true) := hmb
        go_wp2_with (first
        | (go_at_call 19; refine Calls.mono (rhas19 bo ma l0 h H32.out HB.out.2.1 m HB.out.2.2 (by omega) wr (HB.out.1.after HI.out.aft)) ?_; rintro e w2 ⟨rfl, ha2⟩; rw [hmb]; have HA2 := show Hid (After wr w2) from ha2; have HR2 := show Hid _ from range_after HR.out ha2; clear ha2)
        | (refine wpList_load_mid rfl 24 (.tmp 16) rfl b (o + i * 32) rfl (c8 h) _ HR.out Try.underlying24 rfl (size24' H32.out) ?_))
        go_roundw
        case rel => exact ⟨i + 1, oo, k, c, s, by go_num, rfl, by omega, by omega, HI.out.ws.after HA2.out, fun x => by
          rw [HI.out.mem x, mem_take_succ HLH.out]
          have hd := HMB.out
          simp only [decide_eq_true_eq] at hd
          by_cases e1 : x = h
          · subst e1; simp [hd]
          · simp [e1], After.trans HI.out.aft HA2.out⟩
        case measure => simp [intOf]; omega
    · obtain rfl : i = n := by omega
      have hii : ¬ (i : Int) < (i : Int) := by omega
      go_wp2
      go_ret
      exact ⟨oo, k, c, s, rfl, ⟨HI.out.ws, fun x => by rw [HI.out.mem x, ← HL.out.2.2, List.take_length], HI.out.aft⟩, hki⟩

set_option maxRecDepth 100000 in
set_option maxHeartbeats 3200000 in
theorem rmeet25 (ao bo : Option Addr) (n ca m ma : Nat) (l l0 : List Hs) (h32 : All32 l) (hl : l.length = n) (h320 : All32 l0) (hl0 : l0.length = m) (hn : n ≤ 40000) (hm : m ≤ 40000) (w : World) (hA : HsAt w ao l) (hA0 : HsAt w bo l0) :
    Calls Try.prog 25 #[.slice ao n ca, .slice bo m ma] w (TellW w n (fun x => x ∈ l ∧ x ∈ l0)) := by
  have HL : Hid (HsAt w ao l ∧ All32 l ∧ l.length = n) := ⟨hA, h32, hl⟩
  have HB : Hid (HsAt w bo l0 ∧ All32 l0 ∧ l0.length = m) := ⟨hA0, h320, hl0⟩
  clear hA h32 hl hA0 h320 hl0
  go_enter Try.func25, Try.ntmps25
  go_wp2_with fail
  go_loopw [5, 6] (fun vo vi wr => ∃ (i : Nat) (oo : Option Addr) (k c : Nat) (s : List Hs), vi = .int .i64 (i : Int) ∧ vo = .slice oo k c ∧ i ≤ n ∧ k ≤ i ∧ Hid (WI w oo k c s (fun x => x ∈ l.take i ∧ x ∈ l0) wr)) (fun _ vi _ => n - (intOf vi).toNat)
  case atStart => exact ⟨0, none, 0, 0, [], rfl, rfl, Nat.zero_le _, Nat.le_refl _, ⟨fun h => absurd rfl h, All32.nil, List.Pairwise.nil, rfl, Nat.le_refl _, fun _ => rfl⟩, fun x => by simp, After.refl w⟩
  case round =>
    obtain ⟨i, oo, k, c, s, rfl, rfl, hin, hki, HI⟩ := hrel
    by_cases hlt : i < n
    · obtain ⟨h, hh⟩ : ∃ h, l[i]? = some h := ⟨_, List.getElem?_eq_getElem (by rw [HL.out.2.2]; exact hlt)⟩
      have HLH : Hid (l[i]? = some h) := hh
      obtain ⟨b, o, hao, hrg⟩ := HL.out.1.get HL.out.2.1 (fun e => by rw [e] at hh; simp at hh)
      subst hao
      have HR : Hid (wr.rangeAt b (o + i * 32) (c8 h)) := range_after (hrg i h hh) HI.out.aft
      have H32 : Hid (h.length = 32) := HL.out.2.1.at hh
      have hii : (i : Int) < (n : Int) := by omega
      clear hh hrg
      cases hmb : decide (h ∈ l0) with
      | true =>
        have HMB : Hid (decide (h ∈ l0) = true) := hmb
        go_wp2_with (first
        | (refine wpList_load_mid rfl 24 (.tmp 22) rfl b (o + i * 32) rfl (c8 h) _ HR2.out Try.underlying24 rfl (size24' H32.out) ?_)
        | (go_at_call 36; refine Calls.mono (with_any oo k c s h H32.out (by omega) w2 (HI.out.ws.after HA2.out)) ?_; rintro e w3 ⟨o3, k3, c3, s3, rfl, hw3, hm3, hk3, ha3⟩; have H3 := show Hid (WS w3 o3 k3 c3 s3 ∧ (∀ x, x ∈ s3 ↔ x = h ∨ x ∈ s) ∧ After w2 w3) from ⟨hw3, hm3, ha3⟩; clear hw3 hm3 ha3)
        | (go_at_call 19; refine Calls.mono (rhas19 bo ma l0 h H32.out HB.out.2.1 m HB.out.2.2 (by omega) wr (HB.out.1.after HI.out.aft)) ?_; rintro e w2 ⟨rfl, ha2⟩; rw [hmb]; have HA2 := show Hid (After wr w2) from ha2; have HR2 := show Hid _ from range_after HR.out ha2; clear ha2)
        | (refine wpList_load_mid rfl 24 (.tmp 16) rfl b (o + i * 32) rfl (c8 h) _ HR.out Try.underlying24 rfl (size24' H32.out) ?_))
        go_roundw
        case rel => exact ⟨i + 1, o3, k3, c3, s3, by go_num, rfl, by omega, by omega, H3.out.1, fun x => by
          rw [H3.out.2.1 x, HI.out.mem x, mem_take_succ HLH.out]
          have hd := HMB.out
          simp only [decide_eq_true_eq] at hd
          by_cases e1 : x = h
          · subst e1; simp [hd]
          · simp [e1], After.trans HI.out.aft (After.trans HA2.out H3.out.2.2)⟩
        case measure => simp [intOf]; omega
      | false =>
        have HMB : Hid (decide (h ∈ l0) = false) := hmb
        go_wp2_with (first
        | (go_at_call 19; refine Calls.mono (rhas19 bo ma l0 h H32.out HB.out.2.1 m HB.out.2.2 (by omega) wr (HB.out.1.after HI.out.aft)) ?_; rintro e w2 ⟨rfl, ha2⟩; rw [hmb]; have HA2 := show Hid (After wr w2) from ha2; have HR2 := show Hid _ from range_after HR.out ha2; clear ha2)
        | (refine wpList_load_mid rfl 24 (.tmp 16) rfl b (o + i * 32) rfl (c8 h) _ HR.out Try.underlying24 rfl (size24' H32.out) ?_))
        go_roundw
        case rel => exact ⟨i + 1, oo, k, c, s, by go_num, rfl, by omega, by omega, HI.out.ws.after HA2.out, fun x => by
          rw [HI.out.mem x, mem_take_succ HLH.out]
          have hd := HMB.out
          simp only [decide_eq_false_iff_not] at hd
          by_cases e1 : x = h
          · subst e1; simp [hd]
          · simp [e1], After.trans HI.out.aft HA2.out⟩
        case measure => simp [intOf]; omega
    · obtain rfl : i = n := by omega
      have hii : ¬ (i : Int) < (i : Int) := by omega
      go_wp2
      go_ret
      exact ⟨oo, k, c, s, rfl, ⟨HI.out.ws, fun x => by rw [HI.out.mem x, ← HL.out.2.2, List.take_length], HI.out.aft⟩, hki⟩

end Go.Proofs.Ytedghldjpkabmaa
