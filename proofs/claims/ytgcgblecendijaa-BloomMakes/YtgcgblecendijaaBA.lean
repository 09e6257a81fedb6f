/-
  A FILTER THAT IS MADE IS READ AS IT WAS; THE WALKS OF stemmalaw09.awake AND few.
-/
import Derived.Test.YtgcgblecendijaaBN
namespace Go.Proofs.Ytgcgblecendijaa
open Go.RowKit Leb
theorem rd_head {p : Prt} (hp : p.Ok) {f : List UInt8} (hf : f.length = p.size) : rdOk (headB p ++ f) ∧ rdR (headB p ++ f) = p ∧ rst (headB p ++ f) 3 = f := by
  obtain ⟨m, s, b⟩ := p
  have hm : m < 18446744073709551616 := by have := hp.many; show m < _; have h : m ≤ 65536 := this; omega
  have hs : s < 18446744073709551616 := by have h : s < 4294967296 := hp.seed; omega
  have hb : b < 18446744073709551616 := by have h : b ≤ 64 := hp.bits'; omega
  have e0 : headB ⟨m, s, b⟩ ++ f = uintB m ++ (uintB s ++ (uintB b ++ f)) := by simp [headB]
  obtain ⟨a1, a2, a3⟩ := gu_back m (uintB s ++ (uintB b ++ f)) hm
  obtain ⟨b1, b2, b3⟩ := gu_back s (uintB b ++ f) hs
  obtain ⟨c1, c2, c3⟩ := gu_back b f hb
  have r0 : rst (headB ⟨m, s, b⟩ ++ f) 0 = uintB m ++ (uintB s ++ (uintB b ++ f)) := e0
  have r1 : rst (headB ⟨m, s, b⟩ ++ f) 1 = uintB s ++ (uintB b ++ f) := by
    show (rst _ 0).drop (guK (rst _ 0)) = _
    rw [r0, a2, List.drop_left']; rfl
  have r2 : rst (headB ⟨m, s, b⟩ ++ f) 2 = uintB b ++ f := by
    show (rst _ 1).drop (guK (rst _ 1)) = _
    rw [r1, b2, List.drop_left']; rfl
  have r3 : rst (headB ⟨m, s, b⟩ ++ f) 3 = f := by
    show (rst _ 2).drop (guK (rst _ 2)) = _
    rw [r2, c2, List.drop_left']; rfl
  have hR : rdR (headB ⟨m, s, b⟩ ++ f) = ⟨m, s, b⟩ := by unfold rdR nmb; rw [r0, r1, r2, a3, b3, c3]
  exact ⟨⟨by rw [r0]; exact a1, by rw [r1]; exact b1, by rw [r2]; exact c1, by rw [hR]; exact hp, by rw [r3, hR]; exact hf⟩, hR, r3⟩
theorem mkP_ok {s : List Hs} {seed b : Nat} (h1 : s.length ≤ 65536) (h2 : seed < 4294967296) (h3 : 1 ≤ b) (h4 : b ≤ 64) : (mkP s seed b).Ok := ⟨h1, h2, h3, h4⟩
theorem rd_mk {s : List Hs} {seed b : Nat} (hp : (mkP s seed b).Ok) : rdP (mkB s seed b) = mkP s seed b ∧ rdB (mkB s seed b) = (mkP s seed b).fieldOf s ∧ ckE (mkB s seed b) = 0 := by
  obtain ⟨h1, h2, h3⟩ := rd_head hp (f := (mkP s seed b).fieldOf s) (Prt.fieldOf_len _ _)
  obtain ⟨y1, y2⟩ := rd_yes h1
  unfold mkB
  exact ⟨y1.trans h2, y2.trans h3, by unfold ckE; rw [if_pos h1]⟩
theorem has_mk {s : List Hs} {seed b : Nat} (hp : (mkP s seed b).Ok) {h : Hs} (hh : h ∈ s) : hasB (mkB s seed b) h = true := by
  obtain ⟨h1, h2, _⟩ := rd_mk hp
  have hl : 0 < s.length := List.length_pos_iff.2 (fun e => by rw [e] at hh; cases hh)
  unfold hasB
  rw [h1, h2, if_neg (show ¬ (mkP s seed b).many = 0 from fun e => by have : s.length = 0 := e; omega)]
  exact Prt.never (by have := hp.size_pos hl; unfold Prt.all; omega) hh
theorem mkB_len {s : List Hs} {seed b : Nat} (hp : (mkP s seed b).Ok) : (mkB s seed b).length ≤ 600000 := by
  have h1 := headB_len (mkP s seed b) (by have := hp.many; omega) (by have := hp.seed; omega) (by have := hp.bits'; omega)
  have h2 := hp.size
  unfold mkB
  rw [List.length_append, Prt.fieldOf_len]; omega
theorem uintB_small {n : Nat} (h : n < 128) : uintB n = [UInt8.ofNat n] := by unfold uintB; rw [if_pos h]
theorem ck_nil : ckE [] = 4 := by
  unfold ckE
  rw [if_neg]
  intro h
  have := h.1
  revert this
  decide
theorem srt_one {s : List Hs} {h : Hs} (hs : Srt [h] s) : s = [h] := by
  have hm : h ∈ s := (hs.mem h).2 (by simp)
  have hl := hs.le
  cases s with
  | nil => cases hm
  | cons x t =>
    have : t = [] := by simpa using hl
    subst this
    rw [List.mem_singleton.1 hm]
theorem mkB_awake : mkB [zero32] 0 8 = [1, 0, 8, 1] := by
  unfold mkB headB mkP
  simp only [List.length_cons, List.length_nil, Nat.zero_add]
  rw [uintB_small (show (1 : Nat) < 128 by omega), uintB_small (show (0 : Nat) < 128 by omega), uintB_small (show (8 : Nat) < 128 by omega)]
  decide

set_option maxRecDepth 100000 in
set_option maxHeartbeats 4000000 in
theorem awake_any (w : World) : Calls Try.prog 10 #[] w fun e w' => e = .returned (.bool true) ∧ After w w' := by
  have hok : (mkP [zero32] 0 8).Ok := mkP_ok (by decide) (by decide) (by decide) (by decide)
  obtain ⟨m1, m2, m3⟩ := rd_mk hok
  have hh := has_mk hok (h := zero32) (by simp)
  rw [mkB_awake] at m1 m2 m3 hh
  have hm : (rdP [1, 0, 8, 1]).many = 1 := by rw [m1]; rfl
  have HQ : Hid (hasB [1, 0, 8, 1] zero32 = true ∧ (rdP [1, 0, 8, 1]).many = 1 ∧ ckE [] = 4) := ⟨hh, hm, ck_nil⟩
  clear hok m1 m2 m3 hh hm
  obtain ⟨w0, hw0⟩ : ∃ w0, w.alloc (.cells (c8 zero32).toArray 29) = w0 := ⟨_, rfl⟩
  have H0 : Hid (After w w0 ∧ HsAt w0 (some ⟨w.heap.size, 0, none⟩) [zero32]) := by rw [← hw0]; exact ⟨after_alloc (After.refl w) _, HsAt.one w zero32⟩
  have HC : Hid (Calls Try.prog 11 #[.slice (some ⟨w.heap.size, 0, none⟩) 1 1, .int .u32 0, .int .i64 8] w0 fun e w' => ∃ v, e = .returned v ∧ Own w' w0.heap.size v [1, 0, 8, 1] ∧ After w0 w') :=
    (bmake_any (some ⟨w.heap.size, 0, none⟩) 1 1 [zero32] (All32.cons rfl All32.nil) rfl (by omega) 0 (by omega) 8 w0 H0.out.2).mono (fun e w' ⟨s, v, he, hs, ho, ha⟩ => ⟨v, he, by rw [srt_one hs, show bitsN 8 = 8 by decide, mkB_awake] at ho; exact ho, ha⟩)
  go_enter Try.func10, Try.ntmps10
  go_wp2_with (first
    | (go_at_call 11; refine Calls.mono HC.out ?_; rintro e w1 ⟨v1, rfl, ho, ha⟩; obtain ⟨a1, c1, rfl, hat, hle, _⟩ := ho.at; have H1 := show Hid (After w w1 ∧ BytesAt w1 a1 [1, 0, 8, 1] ∧ 4 ≤ c1) from ⟨H0.out.1.trans ha, hat, hle⟩; have hcv : (convert 26 9 (.slice a1 4 c1)).run Try.prog w1 = .ok (.string ⟨#[1, 0, 8, 1]⟩) w1 := conv_at c1 hat; simp only [List.length_cons, List.length_nil, Nat.zero_add, Nat.reduceAdd]; clear ho ha hat hle)
    | (refine wpList_bs22 rfl (.tmp 2) rfl (h := zero32) rfl rfl ?_; simp only [hw0])
    | (go_at_call 17; refine Calls.mono (bhas_any a1 4 c1 [1, 0, 8, 1] zero32 rfl rfl H1.out.2.2 (by omega) w1 H1.out.2.1) ?_; rintro e w2 ⟨rfl, ha⟩; rw [HQ.out.1]; have H2 := show Hid (After w w2 ∧ BytesAt w2 a1 [1, 0, 8, 1]) from ⟨H1.out.1.trans ha, H1.out.2.1.after ha⟩; clear ha)
    | (go_at_call 15; refine Calls.mono (bmany_any a1 4 c1 [1, 0, 8, 1] rfl H1.out.2.2 (by omega) w2 H2.out.2) ?_; rintro e w3 ⟨rfl, ha⟩; rw [HQ.out.2.1]; have H3 := show Hid (After w w3) from H2.out.1.trans ha; clear ha)
    | (go_at_call 13; refine Calls.mono (bcheck_any none 0 0 [] rfl (by omega) (by omega) w3 (fun e => absurd rfl e)) ?_; rintro e w4 ⟨rfl, ha⟩; rw [HQ.out.2.2]; have H4 := show Hid (After w w4) from H3.out.trans ha; clear ha))
  go_ret
  exact ⟨rfl, H4.out⟩

set_option maxRecDepth 100000 in
theorem few_any (ao : Option Addr) (n ca : Nat) (hbig : n ≤ 1152921504606846976) (w : World) {t : Bool} (ht : decide (n ≤ 1000) = t) : Calls Try.prog 9 #[.slice ao n ca] w fun e w' => e = .returned (.bool t) ∧ w' = w := by
  subst ht
  by_cases h : n ≤ 1000
  · have hz : (n : Int) ≤ 1000 := by omega
    go_enter Try.func9, Try.ntmps9
    go_wp2
    go_ret
    simp [h]
  · have hz : ¬ (n : Int) ≤ 1000 := by omega
    go_enter Try.func9, Try.ntmps9
    go_wp2
    go_ret
    simp
end Go.Proofs.Ytgcgblecendijaa
