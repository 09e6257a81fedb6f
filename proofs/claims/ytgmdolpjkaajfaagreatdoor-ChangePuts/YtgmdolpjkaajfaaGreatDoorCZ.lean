/-
  THE WALK OF stemmaref08.Hash.
-/
import Derived.Test.YtgmdolpjkaajfaaGreatDoorCS
import Derived.Test.YtgmdolpjkaajfaaGreatDoorSD
namespace Go.Proofs.YtgmdolpjkaajfaaGreatDoor
open Go.RowKit Leb
theorem rsum_k (a : Option Addr) (n c : Nat) (bs : List UInt8) (hn : bs.length = n) (hb : n ≤ 1000000000) (w : World) (hat : BytesAt w a bs) :
    Calls Tryz.prog 45 #[.slice a n c] w fun e w' => e = .returned (.agg (c8 (SH.sumP bs)).toArray) ∧ After w w' := by
  subst hn
  exact SH.refSum_any a c bs (by omega) w hat

set_option maxRecDepth 100000 in
set_option maxHeartbeats 2400000 in
theorem rhash_any (x : Chg) (d p : Sl) (w : World) (hx : ChAt w x d p) :
    Calls Tryz.prog 20 #[cV x d p] w fun e w' => e = .returned (.agg (c8 (hashC x)).toArray) ∧ After w w' := by
  have hl : chgE x = 0 → (layC x).length ≤ 1000000000 := fun h => Nat.le_trans (CGood.len ⟨chgE_zero.1 h, hx.d32, hx.ok⟩) (by omega)
  have HF : Hid (ChAt w x d p ∧ (chgE x = 0 → (layC x).length ≤ 1000000000)) := ⟨hx, hl⟩
  obtain ⟨q, hq⟩ : ∃ q, chgE x = q := ⟨_, rfl⟩
  obtain ⟨B, hB⟩ : ∃ B, chgB x = B := ⟨_, rfl⟩
  have HQ : Hid (chgE x = q ∧ chgB x = B) := ⟨hq, hB⟩
  obtain ⟨w0, hw0⟩ : ∃ w0, ((w.alloc (.cells (cc x d p).toArray 25)).alloc (.cells (c8 zeroHash).toArray 38)) = w0 := ⟨_, rfl⟩
  have H0 : Hid (After w w0 ∧ RowIs w0 w.heap.size 25 (cc x d p) ∧ RowIs w0 (w.heap.size + 1) 38 (c8 zeroHash)) := by
    refine ⟨by rw [← hw0]; exact after_alloc (after_alloc (After.refl w) _) _, by rw [← hw0]; exact (RowIs.new w 25 (cc x d p)).alloc _, ?_⟩
    have h := RowIs.new (w.alloc (.cells (cc x d p).toArray 25)) 38 (c8 zeroHash)
    rw [← hw0]
    simpa using h
  have hw0' : (w.alloc (.cells (cc x d p).toArray 25)).alloc (.cells #[.int .u8 0, .int .u8 0, .int .u8 0, .int .u8 0, .int .u8 0, .int .u8 0, .int .u8 0, .int .u8 0, .int .u8 0, .int .u8 0, .int .u8 0, .int .u8 0, .int .u8 0, .int .u8 0, .int .u8 0, .int .u8 0, .int .u8 0, .int .u8 0, .int .u8 0, .int .u8 0, .int .u8 0, .int .u8 0, .int .u8 0, .int .u8 0, .int .u8 0, .int .u8 0, .int .u8 0, .int .u8 0, .int .u8 0, .int .u8 0, .int .u8 0, .int .u8 0] 38) = w0 := hw0
  clear hx hl hq hB hw0
  by_cases hq0 : q = 0
  case neg =>
    have fi : ¬ (q : Int) = 0 := by omega
    have fb : ((q : Int) == 0) = false := beq_eq_false_iff_ne.2 fi
    have fn : ((q : Int) != 0) = true := by simp [bne, fb]
    have HH : Hid (hashC x = zeroHash) := by unfold Hid hashC; rw [HQ.out.1, if_neg hq0]
    go_enter Tryz.func20, Tryz.ntmps20
    go_wp2_with (first
      | (refine wpList_store_row rfl 38 (.tmp 2) (.tmp 12) rfl (w.heap.size + 1) (c8 zeroHash).toArray rfl rfl 38 _ H1.out.2 (size38a zeroHash rfl) rfl (HS.hs_one zeroHash) ?_)
      | (go_at_call 24; refine Calls.mono (laid_any x d p w0 (HF.out.1.after H0.out.1) HQ.out.1 HQ.out.2) ?_; rintro e w1 ⟨v1, rfl, ho, ha⟩; have H1 := show Hid (After w w1 ∧ RowIs w1 (w.heap.size + 1) 38 (c8 zeroHash)) from ⟨After.trans H0.out.1 ha, H0.out.2.2.below ha H0.out.2.2.lt⟩; clear ho ha)
      | (refine wpList_load_row rfl 25 (.tmp 1) rfl w.heap.size rfl 25 _ (0, 0) _ H0.out.2.1 Tryz.underlying25 rfl (by kernel_rfl) ?_))
    refine bodyPost_ret (ret38 Tryz.results20 _ _ (w.heap.size + 1) zeroHash rfl rfl (H1.out.2.setRow (c8 zeroHash))) rfl ?_
    exact ⟨by rw [HH.out], Below.row H1.out.1 (by omega) _⟩
  subst hq0
  have HBL : Hid (layC x = B ∧ hashC x = SH.sumP B) := by
    have h := HQ.out.2
    unfold chgB at h
    rw [HQ.out.1, if_pos rfl] at h
    exact ⟨h, by unfold hashC; rw [HQ.out.1, if_pos rfl, h]⟩
  obtain ⟨k, hk⟩ : ∃ k, B.length = k := ⟨_, rfl⟩
  have HK : Hid (B.length = k ∧ k ≤ 1000000000) := ⟨hk, by rw [← hk, ← HBL.out.1]; exact HF.out.2 HQ.out.1⟩
  clear hk
  go_enter Tryz.func20, Tryz.ntmps20
  go_wp2_with (first
    | (refine wpList_store_row rfl 38 (.tmp 2) (.tmp 14) rfl (w.heap.size + 1) (c8 (SH.sumP B)).toArray rfl rfl 38 _ H2.out.2 (size38a _ (SH.sumP_len _)) (by simp [c8_len, SH.sumP_len, zeroHash]) (HS.hs_one (SH.sumP B)) ?_)
    | (go_at_call 45; refine Calls.mono (rsum_k a1 k c1 B HK.out.1 HK.out.2 w1 H1.out.2.2.1) ?_; rintro e w2 ⟨rfl, ha⟩; have H2 := show Hid (After w w2 ∧ RowIs w2 (w.heap.size + 1) 38 (c8 zeroHash)) from ⟨After.trans H1.out.1 ha, H1.out.2.1.below ha H1.out.2.1.lt⟩; clear ha)
    | (go_at_call 24; refine Calls.mono (laid_any x d p w0 (HF.out.1.after H0.out.1) HQ.out.1 HQ.out.2) ?_; rintro e w1 ⟨v1, rfl, ho, ha⟩; obtain ⟨a1, c1, he1, hat1, hc1, _⟩ := own_sl ho HK.out.1; subst he1; have H1 := show Hid (After w w1 ∧ RowIs w1 (w.heap.size + 1) 38 (c8 zeroHash) ∧ BytesAt w1 a1 B ∧ k ≤ c1) from ⟨After.trans H0.out.1 ha, H0.out.2.2.below ha H0.out.2.2.lt, hat1, hc1⟩; clear ho ha hat1 hc1)
    | (refine wpList_load_row rfl 25 (.tmp 1) rfl w.heap.size rfl 25 _ (0, 0) _ H0.out.2.1 Tryz.underlying25 rfl (by kernel_rfl) ?_))
  refine bodyPost_ret (ret38 Tryz.results20 _ _ (w.heap.size + 1) (SH.sumP B) (SH.sumP_len _) rfl (H2.out.2.setRow (c8 (SH.sumP B)))) rfl ?_
  exact ⟨by rw [HBL.out.2], Below.row H2.out.1 (by omega) _⟩
end Go.Proofs.YtgmdolpjkaajfaaGreatDoor
