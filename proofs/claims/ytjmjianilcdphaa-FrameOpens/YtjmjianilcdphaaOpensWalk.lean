/-
  THE WALK OF stemmalaw04.FrameOpens.
-/
import Derived.Test.YtjmjianilcdphaaRefOpen
namespace Go.Proofs.Ytjmjianilcdphaa
open Go.RowKit Leb
theorem Own.form {w : World} {base : Nat} {v : Value} {l : List UInt8} (h : Own w base v l) (hn : l ≠ []) : ∃ g cap, v = .slice (some ⟨g, 0, none⟩) l.length cap ∧ base ≤ g ∧ l.length ≤ cap := by
  rcases h.2 with ⟨rfl, h0⟩ | ⟨g, cap, cur, rfl, hb, hg, hnc, _, hcs, ht⟩
  · exact absurd (List.eq_nil_of_length_eq_zero h0) hn
  · exact ⟨g, cap, rfl, hb, hnc⟩
theorem opBody_le (bs : List UInt8) : (opBody bs).length ≤ bs.length := by
  unfold opBody
  split
  · rw [List.length_take, List.length_drop]; omega
  · simp
theorem byte_up (b : UInt8) : ((b.toNat : Int) + 1) % 256 = ((b + 1).toNat : Int) := by
  rw [UInt8.toNat_add]
  simp
/-- A byte of an own row, one more. -/
theorem Own.up {w : World} {base g cap L : Nat} {l : List UInt8} (hL : l.length = L) (h : Own w base (.slice (some ⟨g, 0, none⟩) L cap) l) (k : Nat) (hk : k < L) :
    ∃ b : UInt8, w.cell? ⟨g, k, none⟩ = some (.int .u8 (b.toNat : Int)) ∧ w.frozen? ⟨g, k, none⟩ = false ∧ Own (w.setCell ⟨g, k, none⟩ (.int .u8 ((b + 1).toNat : Int))) base (.slice (some ⟨g, 0, none⟩) L cap) (l.set k (b + 1)) ∧ w.grownBy (w.setCell ⟨g, k, none⟩ (.int .u8 ((b + 1).toNat : Int))) (some g) := by
  subst hL
  obtain ⟨h1, h2⟩ := World.ownsRow.stored h k (.int .u8 (((l.getD k 0) + 1).toNat : Int))
  refine ⟨l.getD k 0, by rw [World.ownsRow.cellAt h k (by omega), c8_get l k hk], World.ownsRow.frozenAt h k, ?_, h2⟩
  unfold Own
  rw [List.length_set]
  have : (c8 l).set k (.int .u8 (((l.getD k 0) + 1).toNat : Int)) = c8 (l.set k (l.getD k 0 + 1)) := by unfold c8; rw [List.map_set]
  rwa [this] at h1
set_option maxRecDepth 100000 in
set_option maxHeartbeats 1600000 in
theorem opens_any (ao : Option Addr) (cap : Nat) (bs : List UInt8) (hcap : bs.length ≤ cap) (hbig : bs.length ≤ 140737488355328) (w : World) (hat : BytesAt w ao bs) :
    Calls Try.prog 4 #[.slice ao bs.length cap] w fun e w' => e = .returned (.bool true) ∧ Below w.heap.size w w' := by
  have C14 := show Hid _ from fun a c W (hc : bs.length ≤ c) h => open_any a c bs hc hbig W h
  have C15 := show Hid _ from fun W h => ropen_any ao cap bs hcap hbig W h
  have HV := show Hid _ from fun a c W (h : BytesAt W a bs) => conv_at c h
  have HAT : Hid (BytesAt w ao bs) := hat
  unfold OPost at C14 C15
  obtain ⟨D, hD⟩ : ∃ R, opBody bs = R := ⟨_, rfl⟩
  obtain ⟨E, hE⟩ : ∃ E, opE bs = E := ⟨_, rfl⟩
  obtain ⟨U, hU⟩ : ∃ E, opUsed bs = E := ⟨_, rfl⟩
  obtain ⟨k, hk⟩ : ∃ k : Int, ((opKind bs).toNat : Int) = k := ⟨_, rfl⟩
  obtain ⟨n, hn⟩ : ∃ n, bs.length = n := ⟨_, rfl⟩
  simp only [hD, hE, hU, hk, hn] at C14 C15
  rw [hn] at hbig HV hcap ⊢
  have HN : Hid (bs.length = n) := hn
  obtain ⟨L, hL⟩ : ∃ L, D.length = L := ⟨_, rfl⟩
  have HL : Hid (D.length = L) := hL
  have hLb : L ≤ 140737488355328 := by rw [← hL, ← hD]; exact Nat.le_trans (opBody_le bs) (by omega)
  clear hat hD hE hU hk hn hL
  go_enter Try.func4, Try.ntmps4
  go_wp2_with (first
    | (at_builtin; refine wpList_append_any rfl _ _ rfl w.heap.size _ [] rfl (Own.fresh w) ao cap bs n HN.out rfl (HAT.out.after (after_alloc (After.refl w) _)) (by have := HN.out; simp; omega) (by simp) ?_; intro v1 w1 ho1 hg1; rw [List.nil_append] at ho1; have B1 : Hid (After w w1) := after_grown (after_alloc (After.refl w) _) hg1 (Nat.le_refl _) (fun k hk => (World.ownsRow.lt (Own.fresh w) k hk).1); obtain ⟨a1, c1, hv1, hat1, hc1, _⟩ := Own.at ho1; rw [HN.out] at hv1 hc1; subst hv1; have HT1 : Hid (BytesAt w1 a1 bs) := hat1; have HC1 : Hid (n ≤ c1) := hc1; clear ho1 hg1 hat1 hc1)
    | (go_at_call 14; refine (C14.out a1 c1 w1 HC1.out HT1.out).mono ?_; rintro e w2 ⟨v2, rfl, ho2, hb2⟩; obtain ⟨a2, c2, hv2, hat2, _, _⟩ := Own.at ho2; rw [HL.out] at hv2; subst hv2; have HO2 : Hid (Own w2 w1.heap.size (.slice a2 L c2) D) := ho2; have B2 : Hid (After w1 w2) := hb2; have HGL : Hid (∀ k, (Value.slice a2 L c2).ownBlock = some k → k < w2.heap.size) := fun k hk => (World.ownsRow.lt ho2 k hk).2; clear ho2 hb2 hat2)
    | (go_at_call 15; refine (C15.out _ (HAT.out.after (after_alloc (After.trans B1.out B2.out) _))).mono ?_; rintro e w3 ⟨v3, rfl, ho3, hb3⟩; obtain ⟨a3, c3, hv3, hat3, _, _⟩ := Own.at ho3; rw [HL.out] at hv3; subst hv3; have HO3 : Hid (Own w3 (w2.alloc (.cells #[.int .u8 k, .slice a2 L c2] 33)).heap.size (.slice a3 L c3) D) := ho3; have B3 : Hid (After (w2.alloc (.cells #[.int .u8 k, .slice a2 L c2] 33)) w3) := hb3; have hRx : RowIs w3 w2.heap.size 33 [.int .u8 k, .slice a2 L c2] := (RowIs.new w2 33 [.int .u8 k, .slice a2 L c2]).below hb3 (by simp); have HRx : Hid (RowIs w3 w2.heap.size 33 [.int .u8 k, .slice a2 L c2]) := hRx; have hRy := hRx.alloc (.cells #[.int .u8 k, .slice a3 L c3] 36); have q0 := hRy.cell (j := 0) rfl; have q1 := hRy.cell (j := 1) rfl; have hq2 := (Own.below HO2.out (After.trans (after_alloc (After.refl w2) _) (After.trans hb3 (after_alloc (After.refl w3) (.cells #[.int .u8 k, .slice a3 L c3] 36)))) (Nat.le_refl _)).conv; have hq3 := (Own.below ho3 (after_alloc (After.refl w3) (.cells #[.int .u8 k, .slice a3 L c3] 36)) (Nat.le_refl _)).conv; clear ho3 hb3 hat3 hRx hRy))
  have HOs : Hid (Own (w3.alloc (.cells #[.int .u8 k, .slice a3 L c3] 36)) w1.heap.size (.slice a2 L c2) D) := Own.below HO2.out (After.trans (after_alloc (After.refl w2) _) (After.trans B3.out (after_alloc (After.refl w3) _))) (Nat.le_refl _)
  have HRs : Hid (RowIs (w3.alloc (.cells #[.int .u8 k, .slice a3 L c3] 36)) w2.heap.size 33 [.int .u8 k, .slice a2 L c2]) := HRx.out.alloc _
  have HAs : Hid (After w1 (w3.alloc (.cells #[.int .u8 k, .slice a3 L c3] 36))) := After.trans B2.out (After.trans (after_alloc (After.refl w2) _) (After.trans B3.out (after_alloc (After.refl w3) _)))
  clear q0 q1 hq2 hq3
  go_loopw [10] (fun i wr => ∃ (j : Nat) (l : List UInt8), j ≤ L ∧ i = .int .i64 j ∧ Hid (l.length = L) ∧ Hid (Own wr w1.heap.size (.slice a2 L c2) l) ∧ Hid (RowIs wr w2.heap.size 33 [.int .u8 k, .slice a2 L c2]) ∧ Hid (After w1 wr)) (fun i _ => L - (intOf i).toNat)
  case atStart => exact ⟨0, D, by omega, rfl, HL.out, HOs.out, HRs.out, HAs.out⟩
  case round =>
    clear HOs HRs HAs
    obtain ⟨j, l, hj, rfl, HLL, HO, HR, HA⟩ := hrel
    have q1 := HR.out.cell (j := 1) rfl
    by_cases hlt : j < L
    · obtain ⟨g, cg, hv, hbg, _⟩ := Own.form HO.out (by intro h; have := HLL.out; rw [h] at this; simp at this; omega)
      rw [HLL.out] at hv
      obtain ⟨rfl, _, rfl⟩ : a2 = some ⟨g, 0, none⟩ ∧ L = L ∧ c2 = cg := by injection hv with h1 h2 h3; exact ⟨h1, rfl, h3⟩
      obtain ⟨y, hy, hf, ho4, hg4⟩ := Own.up HLL.out HO.out j hlt
      have hgl := HGL.out g rfl
      have hup := byte_up y
      obtain ⟨z, hz⟩ : ∃ z, y + 1 = z := ⟨_, rfl⟩
      rw [hz] at hup ho4 hg4
      have HO4 := show Hid _ from ho4
      have HG4 := show Hid _ from hg4
      have HR4 : Hid (RowIs (wr.setCell ⟨g, j, none⟩ (.int .u8 (z.toNat : Int))) w2.heap.size 33 [.int .u8 k, .slice (some ⟨g, 0, none⟩) L c2]) := HR.out.other ⟨g, j, none⟩ _ (by show w2.heap.size ≠ g; omega)
      clear ho4 hg4 hv hz
      go_wp2
      go_roundw
      case rel => exact ⟨j + 1, _, by omega, by go_num, by unfold Hid; rw [List.length_set]; exact HLL.out, HO4.out, HR4.out, after_grown HA.out HG4.out (Nat.le_refl _) (fun k hk => by cases hk; exact hbg)⟩
      case measure => simp [intOf]; omega
    · have q3 := HV.out a1 c1 wr (HT1.out.after HA.out)
      have q4 := HV.out ao cap wr (HAT.out.after (After.trans B1.out HA.out))
      go_wp2_with (go_at_call 13; refine (awake_any _).mono ?_; rintro e w6 ⟨rfl, hb6⟩; have B6 : Hid (After w w6) := After.trans (After.trans B1.out HA.out) hb6; clear hb6)
      go_ret
      exact ⟨rfl, B6.out⟩
end Go.Proofs.Ytjmjianilcdphaa
