/-
  THE WALKS OF frame.Seal AND OF ref.Seal.
-/
import Derived.Test.YtjmjianilcdphaaJoin
import Derived.Laws.OwnMore
namespace Leb
/-- A frame without its sum; with it. -/
def headB (k : UInt8) (bs : List UInt8) : List UInt8 := k :: (uintB bs.length ++ bs)
def withSum (h : List UInt8) : List UInt8 := h ++ le4 (crc h)
def frameB (k : UInt8) (bs : List UInt8) : List UInt8 := withSum (headB k bs)
/-- What Seal tells. -/
def sealB (k : UInt8) (bs : List UInt8) : List UInt8 := if k = 0 then [] else if 1048576 < bs.length then [] else frameB k bs
def sealE (k : UInt8) (bs : List UInt8) : Nat := if k = 0 then 2 else if 1048576 < bs.length then 5 else 0
end Leb
namespace Go.Proofs.Ytjmjianilcdphaa
open Go.RowKit Leb
theorem three_cells (w : World) (t : TypeId) (a b c : Value) : (w.alloc (.cells #[a, b, c] t)).cell? ⟨w.heap.size, 0, none⟩ = some a ∧ (w.alloc (.cells #[a, b, c] t)).cell? ⟨w.heap.size, 1, none⟩ = some b ∧ (w.alloc (.cells #[a, b, c] t)).cell? ⟨w.heap.size, 2, none⟩ = some c := by
  have h : RowIs (w.alloc (.cells #[a, b, c] t)) w.heap.size t [a, b, c] := RowIs.new w t [a, b, c]
  exact ⟨h.cell rfl, h.cell rfl, h.cell rfl⟩
theorem pieces3 (w : World) (t : TypeId) (a1 a2 a3 : Option Addr) (c1 c2 c3 : Nat) (p1 p2 p3 : List UInt8) (n1 n2 n3 : Nat) (h1 : p1.length = n1) (h2 : p2.length = n2) (h3 : p3.length = n3) (b1 : BytesAt w a1 p1) (b2 : BytesAt w a2 p2) (b3 : BytesAt w a3 p3) :
    PiecesAt (w.alloc (.cells #[.slice a1 n1 c1, .slice a2 n2 c2, .slice a3 n3 c3] t)) w.heap.size [p1, p2, p3] := by
  subst h1 h2 h3
  obtain ⟨q1, q2, q3⟩ := three_cells w t (.slice a1 p1.length c1) (.slice a2 p2.length c2) (.slice a3 p3.length c3)
  have hA : After w (w.alloc (.cells #[.slice a1 p1.length c1, .slice a2 p2.length c2, .slice a3 p3.length c3] t)) := after_alloc (After.refl w) _
  intro j hj
  match j, hj with
  | 0, _ => exact ⟨a1, c1, q1, b1.after hA⟩
  | 1, _ => exact ⟨a2, c2, q2, b2.after hA⟩
  | 2, _ => exact ⟨a3, c3, q3, b3.after hA⟩
  | j + 3, hj => exact absurd hj (by simp)
theorem u8_eq0 (k : UInt8) : ((k.toNat : Int) == 0) = decide (k = 0) := by
  rw [Bool.eq_iff_iff, beq_iff_eq, decide_eq_true_iff]
  constructor
  · intro h; exact UInt8.toNat_inj.1 (by simpa using h)
  · intro h; subst h; rfl
set_option maxRecDepth 100000 in
set_option maxHeartbeats 800000 in
theorem seal_any (k : UInt8) (ao : Option Addr) (cap : Nat) (bs : List UInt8) (hbig : bs.length ≤ 140737488355328) (w : World) (hat : BytesAt w ao bs) :
    Calls Try.prog 9 #[.int .u8 (k.toNat : Int), .slice ao bs.length cap] w fun e w' => ∃ v, e = .returned (.tuple #[v, .int .i64 (sealE k bs : Int)]) ∧ Own w' w.heap.size v (sealB k bs) ∧ After w w' := by
  have HAT : Hid (BytesAt w ao bs) := hat
  have hk0 := u8_eq0 k
  clear hat
  by_cases hk : k = 0
  · subst hk
    clear hk0
    go_enter Try.func9, Try.ntmps9
    go_wp2
    go_ret2
    exact ⟨_, rfl, Own.nil _ _, After.refl _⟩
  · rw [decide_eq_false hk] at hk0
    by_cases hlong : 1048576 < bs.length
    · have e1 : sealE k bs = 5 := by unfold sealE; rw [if_neg hk, if_pos hlong]
      have e2 : sealB k bs = [] := by unfold sealB; rw [if_neg hk, if_pos hlong]
      rw [e1, e2]
      clear e1 e2
      go_enter Try.func9, Try.ntmps9
      go_wp2
      go_ret2
      exact ⟨_, rfl, Own.nil _ _, After.refl _⟩
    · have e1 : sealE k bs = 0 := by unfold sealE; rw [if_neg hk, if_neg hlong]
      have e2 : sealB k bs = withSum (headB k bs) := by unfold sealB; rw [if_neg hk, if_neg hlong]; rfl
      rw [e1, e2]
      clear e1 e2
      have HL10 : Hid ((uintB bs.length).length ≤ 10) := uintB_len10 _ (by omega)
      go_enter Try.func9, Try.ntmps9
      go_wp2_with (first
        | (go_at_call 22; refine (uint_any bs.length (by omega) _).mono ?_; rintro e w1 ⟨v1, rfl, ho1, hb1⟩; obtain ⟨a1, c1, hv1, hat1, _, _⟩ := Own.at ho1; obtain ⟨L, hL⟩ : ∃ n, (uintB bs.length).length = n := ⟨_, rfl⟩; rw [hL] at hv1; subst hv1; have HL : Hid ((uintB bs.length).length = L) := hL; have HT1 : Hid (BytesAt w1 a1 (uintB bs.length)) := hat1; have HB1 : Hid (After (w.alloc (.cells #[.int .u8 (k.toNat : Int)] 5)) w1) := hb1; clear hat1 hb1 ho1 hL)
        | (go_at_call 21; refine (join_any w1.heap.size 3 3 [[k], uintB bs.length, bs] rfl (by omega) (by have := HL10.out; simp; omega) _ (pieces3 w1 22 (some ⟨w.heap.size, 0, none⟩) a1 ao 1 c1 cap [k] (uintB bs.length) bs 1 L bs.length rfl HL.out rfl ((one_at w 5 k).after HB1.out) HT1.out (HAT.out.after (After.trans (after_alloc (After.refl w) _) HB1.out)))).mono ?_; rintro e w2 ⟨v2, rfl, ho2, hb2⟩; have ho3 := Own.mono (base' := w.heap.size) ho2 (by have := HB1.out.size; simp at this ⊢; omega); have HO2 : Hid (Own w2 w.heap.size v2 (withSum (headB k bs))) := (by unfold Hid; simpa [withSum, headB] using ho3); clear ho3; have HB2 : Hid (After w w2) := After.trans (After.trans (after_alloc (After.refl w) _) HB1.out) (After.trans (after_alloc (After.refl w1) _) hb2); clear ho2 hb2))
      go_ret2
      exact ⟨_, rfl, HO2.out, HB2.out⟩
set_option maxRecDepth 100000 in
set_option maxHeartbeats 800000 in
theorem summed_any (base : Nat) (v : Value) (bs : List UInt8) (hbig : bs.length + 4 ≤ 140737488355328) (w : World) (hown : Own w base v bs) (hbase : base ≤ w.heap.size) :
    Calls Try.prog 24 #[v] w fun e w' => ∃ v', e = .returned v' ∧ Own w' base v' (withSum bs) ∧ Below base w w' := by
  obtain ⟨a, c, hv, hat, _, _⟩ := Own.at hown
  have HO : Hid (Own w base v bs) := hown
  have HL := show Hid _ from le4_cells (crc bs)
  have h0 := n32_lo (crc bs)
  have C12 := rcrc_any a c bs (by omega) w hat
  obtain ⟨b0, b1, b2, b3, hle⟩ : ∃ b0 b1 b2 b3, le4 (crc bs) = [b0, b1, b2, b3] := ⟨_, _, _, _, rfl⟩
  have HLE : Hid (withSum bs = bs ++ [b0, b1, b2, b3]) := (by unfold Hid withSum; rw [hle])
  rw [hle] at HL
  obtain ⟨x, hx⟩ : ∃ x, crc bs = x := ⟨_, rfl⟩
  rw [hx] at h0 HL C12
  have HL2 : Hid (Obj.cells #[.int .u8 (n32 x % 256), .int .u8 (n32 x / 256 % 256), .int .u8 (n32 x / 65536 % 256), .int .u8 (n32 x / 16777216 % 256)] 5 = Obj.cells #[.int .u8 (b0.toNat : Int), .int .u8 (b1.toNat : Int), .int .u8 (b2.toNat : Int), .int .u8 (b3.toNat : Int)] 5) := (by unfold Hid; rw [← HL.out]; rfl)
  have HC12 := show Hid _ from C12
  obtain ⟨L, hL⟩ : ∃ L, bs.length = L := ⟨_, rfl⟩
  have HLL : Hid (bs.length = L) := hL
  rw [hL] at hv HC12 hbig
  subst hv
  clear hat hx hle C12 hown HL hL
  go_enter Try.func24, Try.ntmps24
  go_wp2_with (first
    | (go_at_call 12; refine Calls.mono HC12.out ?_; rintro e w1 ⟨rfl, rfl⟩)
    | (at_builtin; rw [HL2.out]; refine wpList_append_any rfl _ _ rfl base _ bs rfl (Own.below HO.out (after_alloc (After.refl _) _) (Nat.le_refl _)) (some ⟨w1.heap.size, 0, none⟩) 4 [b0, b1, b2, b3] 4 rfl rfl (four_at w1 5 b0 b1 b2 b3) (by have := HLL.out; simp; omega) (by simp; omega) ?_; intro v5 w5 ho5 hg5; have HO5 : Hid (Own w5 base v5 (bs ++ [b0, b1, b2, b3])) := ho5; have HB5 : Hid (Below base w1 w5) := below_grown ((Below.refl _ _).alloc (by omega) _) hg5 (fun k hk => (World.ownsRow.lt HO.out k hk).1) (by simp; omega); clear ho5 hg5))
  go_ret
  exact ⟨_, rfl, by rw [HLE.out]; exact HO5.out, HB5.out⟩
theorem Own.lit1 (w : World) (k : UInt8) : Own (w.alloc (.cells #[.int .u8 (k.toNat : Int)] 5)) w.heap.size (.slice (some ⟨w.heap.size, 0, none⟩) 1 1) [k] :=
  World.ownsRow_lit w #[.int .u8 (k.toNat : Int)] 1 (Nat.le_refl _) (by decide) rfl
set_option maxRecDepth 100000 in
set_option maxHeartbeats 800000 in
theorem rseal_any (k : UInt8) (ao : Option Addr) (cap : Nat) (bs : List UInt8) (hbig : bs.length ≤ 140737488355328) (w : World) (hat : BytesAt w ao bs) :
    Calls Try.prog 10 #[.int .u8 (k.toNat : Int), .slice ao bs.length cap] w fun e w' => ∃ v, e = .returned (.tuple #[v, .int .i64 (sealE k bs : Int)]) ∧ Own w' w.heap.size v (sealB k bs) ∧ After w w' := by
  have HAT : Hid (BytesAt w ao bs) := hat
  have hk0 := u8_eq0 k
  clear hat
  by_cases hk : k = 0
  · subst hk
    clear hk0
    go_enter Try.func10, Try.ntmps10
    go_wp2
    go_ret2
    exact ⟨_, rfl, Own.nil _ _, After.refl _⟩
  · rw [decide_eq_false hk] at hk0
    by_cases hlong : 1048576 < bs.length
    · have e1 : sealE k bs = 5 := by unfold sealE; rw [if_neg hk, if_pos hlong]
      have e2 : sealB k bs = [] := by unfold sealB; rw [if_neg hk, if_pos hlong]
      rw [e1, e2]
      clear e1 e2
      go_enter Try.func10, Try.ntmps10
      go_wp2
      go_ret2
      exact ⟨_, rfl, Own.nil _ _, After.refl _⟩
    · have e1 : sealE k bs = 0 := by unfold sealE; rw [if_neg hk, if_neg hlong]
      have e2 : sealB k bs = withSum (headB k bs) := by unfold sealB; rw [if_neg hk, if_neg hlong]; rfl
      rw [e1, e2]
      clear e1 e2
      have HL10 : Hid ((uintB bs.length).length ≤ 10) := uintB_len10 _ (by omega)
      obtain ⟨U, hU⟩ : ∃ U, uintB bs.length = U := ⟨_, rfl⟩
      have HH : Hid (headB k bs = [k] ++ U ++ bs) := (by unfold Hid headB; rw [hU]; rfl)
      have C23 := show Hid _ from fun W => ruint_any bs.length (by omega) W
      rw [hU] at HL10 C23
      clear hU
      go_enter Try.func10, Try.ntmps10
      go_wp2_with (first
        | (go_at_call 23; refine (C23.out _).mono ?_; rintro e w1 ⟨v1, rfl, ho1, hb1⟩; obtain ⟨a1, c1, hv1, hat1, _, _⟩ := Own.at ho1; obtain ⟨L, hL⟩ : ∃ n, U.length = n := ⟨_, rfl⟩; rw [hL] at hv1; subst hv1; have HL : Hid (U.length = L) := hL; have HT1 : Hid (BytesAt w1 a1 U) := hat1; have HB1 : Hid (After (w.alloc (.cells #[.int .u8 (k.toNat : Int)] 5)) w1) := hb1; have HO1 : Hid (Own w1 w.heap.size (.slice (some ⟨w.heap.size, 0, none⟩) 1 1) [k]) := Own.below (Own.lit1 w k) hb1 (Nat.le_refl _); have HA1 : Hid (After w w1) := After.trans (after_alloc (After.refl w) _) hb1; clear hat1 hb1 ho1 hL)
        | (at_builtin; refine wpList_append_any rfl (.tmp 13) (.tmp 17) rfl w.heap.size _ [k] rfl HO1.out a1 c1 U L HL.out rfl HT1.out (by have := HL10.out; simp; omega) HA1.out.size ?_; intro v2 w2 ho2 hg2; have HO2 : Hid (Own w2 w.heap.size v2 ([k] ++ U)) := ho2; have HA2 : Hid (After w w2) := after_grown HA1.out hg2 (Nat.le_refl _) (fun k hk => (World.ownsRow.lt HO1.out k hk).1); clear ho2 hg2)
        | (at_builtin; refine wpList_append_any rfl (.tmp 19) (.tmp 20) rfl w.heap.size _ ([k] ++ U) rfl HO2.out ao cap bs _ rfl rfl (HAT.out.after HA2.out) (by have := HL10.out; simp; omega) HA2.out.size ?_; intro v3 w3 ho3 hg3; have HO3 : Hid (Own w3 w.heap.size v3 (headB k bs)) := (by unfold Hid; rw [HH.out]; exact ho3); have HA3 : Hid (After w w3) := after_grown HA2.out hg3 (Nat.le_refl _) (fun k hk => (World.ownsRow.lt HO2.out k hk).1); clear ho3 hg3)
        | (go_at_call 24; refine (summed_any w.heap.size v3 (headB k bs) (by rw [HH.out]; have := HL10.out; simp; omega) w3 HO3.out HA3.out.size).mono ?_; rintro e w4 ⟨v4, rfl, ho4, hb4⟩; have HO4 : Hid (Own w4 w.heap.size v4 (withSum (headB k bs))) := ho4; have HA4 : Hid (After w w4) := Below.trans HA3.out hb4; clear ho4 hb4))
      go_ret2
      exact ⟨_, rfl, HO4.out, HA4.out⟩
end Go.Proofs.Ytjmjianilcdphaa
