/-
  THE WALKS OF stemmaref06.Sort, Union, Minus AND Meet.
-/
import Derived.Test.YtgcgblecendijaaRefWith
namespace Go.Proofs.Ytgcgblecendijaa
open Go.RowKit Go.Sort
/-- What the loops keep: a rising list of what was met. -/
structure WI (w : World) (o : Option Addr) (k c : Nat) (s : List Hs) (p : Hs → Prop) (wr : World) : Prop where
  ws : WS wr o k c s
  mem : ∀ x, x ∈ s ↔ p x
  aft : After w wr
theorem mem_take_succ {l : List Hs} {i : Nat} {h : Hs} (hi : l[i]? = some h) (x : Hs) : x ∈ l.take (i + 1) ↔ x = h ∨ x ∈ l.take i := by
  rw [List.take_add_one, hi]; simp [or_comm]
def TellW (w : World) (N : Nat) (p : Hs → Prop) (e : Ending) (w' : World) : Prop := ∃ (o : Option Addr) (k c : Nat) (s : List Hs), e = .returned (.slice o k c) ∧ WI w o k c s p w' ∧ k ≤ N

set_option maxRecDepth 100000 in
set_option maxHeartbeats 3200000 in
theorem rsort14 (ao : Option Addr) (n ca : Nat) (l : List Hs) (h32 : All32 l) (hl : l.length = n) (hn : n ≤ 50000) (w : World) (hA : HsAt w ao l) :
    Calls Try.prog 23 #[.slice ao n ca] w (TellW w n (fun x => x ∈ l)) := by
  have HL : Hid (HsAt w ao l ∧ All32 l ∧ l.length = n) := ⟨hA, h32, hl⟩
  clear hA h32 hl
  go_enter Try.func23, Try.ntmps23
  go_wp2_with fail
  go_loopw [3, 4] (fun vo vi wr => ∃ (i : Nat) (oo : Option Addr) (k c : Nat) (s : List Hs), vi = .int .i64 (i : Int) ∧ vo = .slice oo k c ∧ i ≤ n ∧ k ≤ i ∧ Hid (WI w oo k c s (fun x => x ∈ l.take i) wr)) (fun _ vi _ => n - (intOf vi).toNat)
  case atStart => exact ⟨0, none, 0, 0, [], rfl, rfl, Nat.zero_le _, Nat.le_refl _, ⟨fun h => absurd rfl h, All32.nil, List.Pairwise.nil, rfl, Nat.le_refl _, fun _ => rfl⟩, fun x => by simp, After.refl w⟩
  case round =>
    obtain ⟨i, oo, k, c, s, rfl, rfl, hin, hki, HI⟩ := hrel
    by_cases hlt : i < n
    · obtain ⟨h, hh⟩ : ∃ h, l[i]? = some h := ⟨_, List.getElem?_eq_getElem (by rw [HL.out.2.2]; exact hlt)⟩
      have HLH : Hid (l[i]? = some h) := hh
      obtain ⟨b, o, hao, hrg⟩ := HL.out.1.get HL.out.2.1 (fun e => by rw [e] at hh; simp at hh)
      subst hao
      have HR : Hid (wr.rangeAt b (o + i * 32) (c8 h)) := range_after (hrg i h hh) HI.out.aft
      have H32 : Hid (h.length = 32) := HL.out.2.1.at hh
      have hii : (i : Int) < (n : Int) := by omega
      clear hh hrg
      go_wp2_with (first
        | (refine wpList_load_mid rfl 29 (.tmp 14) rfl b (o + i * 32) rfl (c8 h) _ HR.out Try.underlying29 rfl (size24' H32.out) ?_)
        | (go_at_call 33; refine Calls.mono (with_any oo k c s h H32.out (by omega) wr HI.out.ws) ?_; rintro e w3 ⟨o3, k3, c3, s3, rfl, hw3, hm3, hk3, ha3⟩; have H3 := show Hid (WS w3 o3 k3 c3 s3 ∧ (∀ x, x ∈ s3 ↔ x = h ∨ x ∈ s) ∧ After wr w3) from ⟨hw3, hm3, ha3⟩; clear hw3 hm3 ha3))
      go_roundw
      case rel => exact ⟨i + 1, o3, k3, c3, s3, by go_num, rfl, by omega, by omega, H3.out.1, fun x => by rw [H3.out.2.1 x, HI.out.mem x, mem_take_succ HLH.out], After.trans HI.out.aft H3.out.2.2⟩
      case measure => simp [intOf]; omega
    · obtain rfl : i = n := by omega
      have hii : ¬ (i : Int) < (i : Int) := by omega
      go_wp2
      go_ret
      exact ⟨oo, k, c, s, rfl, ⟨HI.out.ws, fun x => by rw [HI.out.mem x, ← HL.out.2.2, List.take_length], HI.out.aft⟩, hki⟩

end Go.Proofs.Ytgcgblecendijaa
