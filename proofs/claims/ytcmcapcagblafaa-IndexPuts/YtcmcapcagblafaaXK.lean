/-
  index.Get (14).
-/
import Derived.Test.YtcmcapcagblafaaXJ
namespace Go.Proofs.Ytcmcapcagblafaa
open Go.RowKit Go.Maps Dsk Leb
attribute [local go_sem] Oper.semAt_some
set_option maxHeartbeats 400000 in
/-- leb.Read, as a state. -/
theorem read27 (ao : Option Addr) (cap : Nat) (bs : List UInt8) {n : Nat} (hn : bs.length = n) (hbig : n ≤ 524288) (w : World) (hat : BytesAt w ao bs) :
    Calls Try.prog 27 #[.slice ao n cap] w fun e w' => ∃ g, e = .returned (.pointer (some ⟨g, 0, none⟩)) ∧ RdS w' g w'.heap.size bs 0 ∧ w.heap.size ≤ g ∧ After w w' := by
  subst hn
  have HAT : Hid (BytesAt w ao bs ∧ bs.length ≤ 524288) := ⟨hat, hbig⟩
  clear hat
  go_enter Try.func27, Try.ntmps27
  go_wp2_with (go_at_call 52; refine (clone_any ao cap bs (by omega) _ HAT.out.1).mono ?_; rintro e w1 ⟨v1, rfl, ho1, hb1⟩; obtain ⟨a1, c1, rfl, hat1, hc1, hl1⟩ := ho1.at)
  go_ret
  refine ⟨w1.heap.size, rfl, ⟨⟨a1, c1, ⟨RowIs.new w1 88 [.slice a1 bs.length c1, .int .i64 0], hat1.after (after_alloc (After.refl w1) _), hc1, fun h => ?_, fun a ha => ?_⟩, fun a ha => ?_⟩, HAT.out.2, by simp, Nat.le_refl _⟩, hb1.size, after_alloc hb1 _⟩
  · subst h; exact bytesAt_none hat1
  · have := (hl1 a ha).2; omega
  · have := (hl1 a ha).2; simp; omega
/-- What Get tells. -/
structure GetT (raw : List UInt8) (w : World) (e : Ending) (w' : World) : Prop where
  aft : After w w'
  ans : (∃ a c k X, gOk raw (rsof X) ∧ e = .returned (.tuple #[.slice a k c, .int .i64 0]) ∧ X.length = k ∧ k ≤ 64 ∧ OwnR w' w.heap.size (.slice a k c) X) ∨ ((∀ L, ¬ gOk raw L) ∧ e = .returned (.tuple #[.slice none 0 0, .int .i64 4]))
theorem sdE_zero {bs : List UInt8} {e : Nat} (h : sdE bs e = 0) : e = 0 ∧ bs = [] := by
  unfold sdE at h
  split at h
  · rename_i h0
    split at h
    · rename_i h1; exact ⟨h0, List.eq_nil_of_length_eq_zero h1⟩
    · cases h
  · rename_i h0; exact absurd h h0
theorem sdE_ne {t bs : List UInt8} {L : List Rc} {e : Nat} (h : sdE bs e ≠ 0) (hs : Stp pIx t 0 L bs e) : ∀ M, pIx t ≠ some (M, []) := fun M hM => by
  by_cases h0 : e = 0
  · subst h0
    have h1 := hs.ok.2
    rw [hM] at h1
    cases h1
    exact h rfl
  · rw [hs.bad h0 rfl] at hM; cases hM
theorem no_gOk_nil : ∀ L, ¬ gOk [] L := fun L h => by have := h.2.1; unfold ixB at this; cases this
theorem no_gOk_long {raw : List UInt8} (h : 524288 < raw.length) : ∀ L, ¬ gOk raw L := fun L k => by have := k.1; omega
theorem no_gOk_head {x : UInt8} {t : List UInt8} (h : x ≠ 1) : ∀ L, ¬ gOk (x :: t) L := fun L k => by have := k.2.1; unfold ixB at this; injection this with h1 _; exact h h1
theorem no_gOk_rest {t : List UInt8} (h : ∀ M, pIx t ≠ some (M, [])) : ∀ L, ¬ gOk (1 :: t) L := fun L k => by
  obtain ⟨_, ⟨t', e, h2⟩, _⟩ := gOk_iff.1 k
  cases e
  exact h L h2
theorem no_gOk_may {t : List UInt8} {L : List Rc} (h : pIx t = some (L, [])) (hm : ¬ MOk L) : ∀ M, ¬ gOk (1 :: t) M := fun M k => by
  obtain ⟨_, ⟨t', e, h2⟩, h3⟩ := gOk_iff.1 k
  cases e
  rw [h] at h2; cases h2
  exact hm h3
set_option maxRecDepth 100000 in
set_option maxHeartbeats 12800000 in
theorem get14 {ao : Option Addr} {cap n : Nat} {raw : List UInt8} (hn : raw.length = n) (hcap : n ≤ cap) (hbig : n ≤ 140737488355328) {w : World} (hat : BytesAt w ao raw) : Calls Try.prog 14 #[.slice ao n cap] w (GetT raw w) := by
  cases raw with
  | nil =>
    obtain rfl : n = 0 := by rw [← hn]; rfl
    go_enter Try.func14, Try.ntmps14
    go_wp2
    refine bodyPost_ret (v := .tuple #[.slice none 0 0, .int .i64 4]) (by simp [results, Try.results14, go_sem]) rfl ⟨After.refl w, .inr ⟨no_gOk_nil, rfl⟩⟩
  | cons x t =>
    have hn0 : n ≠ 0 := by rw [← hn]; simp
    have hnz : ¬ (n : Int) = 0 := by omega
    have hpos : (0 : Int) < (n : Int) := by omega
    by_cases hl : 524288 < n
    · have hl' : (524288 : Int) < (n : Int) := by omega
      have HF : Hid (∀ L, ¬ gOk (x :: t) L) := no_gOk_long (by rw [hn]; exact hl)
      clear hat hn hl
      go_enter Try.func14, Try.ntmps14
      go_wp2
      refine bodyPost_ret (v := .tuple #[.slice none 0 0, .int .i64 4]) (by simp [results, Try.results14, go_sem]) rfl ⟨After.refl w, .inr ⟨HF.out, rfl⟩⟩
    · have hl' : ¬ (524288 : Int) < (n : Int) := by omega
      obtain ⟨b, o, hao, hce⟩ := hat (by simp)
      subst hao
      have c0 : w.cell? ⟨b, o, none⟩ = some (.int .u8 (x.toNat : Int)) := hce 0 (by simp)
      by_cases hx : x = 1
      · subst hx
        have c0' : w.cell? ⟨b, o, none⟩ = some (.int .u8 1) := c0
        obtain ⟨k, hk⟩ : ∃ k, n = k + 1 := ⟨n - 1, by omega⟩
        have htl : t.length = k := by have := hn; simp at this; omega
        obtain ⟨a1, ha1⟩ : ∃ a1, cutAt (some ⟨b, o, none⟩) 1 cap = a1 := ⟨_, rfl⟩
        obtain ⟨c1, hc1⟩ : ∃ c1, cap - 1 = c1 := ⟨_, rfl⟩
        have hsl : ∀ W, (Instr.sliceAt 26 (.slice (some ⟨b, o, none⟩) n cap) (some (.int .i64 1)) none none).run Try.prog W = .ok (.slice a1 k c1) W := fun W => by
          have := slice_from (some ⟨b, o, none⟩) n cap 1 (fun h => by cases h) hcap (by omega) W
          rw [ha1, hc1, show n - 1 = k by omega] at this
          exact this
        have HT : Hid (BytesAt w a1 t ∧ t.length = k ∧ k ≤ 524288) := ⟨by
          have := hat.cut 1 cap (by rw [hn]; exact hcap)
          rw [ha1] at this
          exact this, htl, by omega⟩
        have HRD : Hid (∀ W, After w W → Calls Try.prog 27 #[.slice a1 k c1] W fun e w' => ∃ g, e = .returned (.pointer (some ⟨g, 0, none⟩)) ∧ RdS w' g w'.heap.size t 0 ∧ W.heap.size ≤ g ∧ After W w') := fun W hW => read27 a1 c1 t HT.out.2.1 HT.out.2.2 W (HT.out.1.after hW)
        have HX : Hid (Calls Try.prog 27 #[.slice a1 k c1] w fun e w' => ∃ g, e = .returned (.pointer (some ⟨g, 0, none⟩)) ∧ RdS w' g w'.heap.size t 0 ∧ w.heap.size ≤ g ∧ After w w') := HRD.out w (After.refl w)
        have HL : Hid (¬ 524288 < n ∧ (1 :: t).length = n) := ⟨hl, hn⟩
        clear hat hce c0 hn hl hk htl ha1 hc1
        go_enter Try.func14, Try.ntmps14
        go_wp2_with (first
          | (go_at_call 27; refine Calls.mono HX.out ?_; rintro e w1 ⟨g, rfl, hr, hg, ha⟩; have H1 : Hid (RdS w1 g w1.heap.size t 0 ∧ w.heap.size ≤ g ∧ After w w1) := ⟨hr, hg, ha⟩; clear hr hg ha)
          | (go_at_call 28; refine (records28 H1.out.1).mono ?_; rintro e w2 ⟨a2, c2, k2, X, bs', e', rfl, h1, h2, h3, h4, h5, h6⟩
             have H2 : Hid (X.length = k2 ∧ k2 ≤ 64 ∧ OwnR w2 w1.heap.size (.slice a2 k2 c2) X ∧ Stp pIx t 0 (rsof X) bs' e' ∧ RdS w2 g w1.heap.size bs' e' ∧ After w w2) := ⟨h1, h2, h3, h4, h5, by
               have hb := (But.of_below (g := g) H1.out.2.2).trans h6
               exact ⟨hb.os, hb.tape, hb.output, hb.size, fun j hj => hb.block j hj (by have := H1.out.2.1; omega)⟩⟩
             have HD : Hid (Calls Try.prog 29 #[.pointer (some ⟨g, 0, none⟩)] w2 fun x w' => x = .returned (.int .i64 (sdE bs' e' : Int)) ∧ w' = w2) := done29 h5
             clear h1 h2 h3 h4 h5 h6
             obtain ⟨d, hd⟩ : ∃ d, sdE bs' e' = d := ⟨_, rfl⟩
             rw [hd] at HD
             have HS : Hid (sdE bs' e' = d) := hd
             clear hd))
        by_cases hd0 : d = 0
        · subst hd0
          have hz := sdE_zero HS.out
          have HP : Hid (pIx t = some (rsof X, [])) := by
            have h9 := H2.out.2.2.2.1
            rw [hz.1, hz.2] at h9
            exact h9.ok.2
          clear hz
          by_cases hm : MOk (rsof X)
          · have HM : Hid (Calls Try.prog 22 #[.slice a2 k2 c2] w2 fun e w' => e = .returned (.bool true) ∧ After w2 w') := by
              obtain ⟨a9, c9, e9, h9⟩ := H2.out.2.2.1.at
              rw [H2.out.1] at e9
              injection e9 with e1 _ e3
              subst e1 e3
              exact maybe_yes H2.out.1 (by have := H2.out.2.1; omega) hm h9
            have HG : Hid (gOk (1 :: t) (rsof X)) := gOk_iff.2 ⟨by have := HL.out; omega, ⟨t, rfl, HP.out⟩, hm⟩
            clear hm
            go_wp2_with (first
              | (go_at_call 29; refine Calls.mono HD.out ?_; rintro e w9 ⟨rfl, hw9⟩; rw [hw9]; clear hw9 w9)
              | (go_at_call 22; refine Calls.mono HM.out ?_; rintro e w3 ⟨rfl, h3⟩; have H3 : Hid (After w2 w3) := h3; clear h3))
            refine bodyPost_ret (v := .tuple #[.slice a2 k2 c2, .int .i64 0]) (by simp [results, Try.results14, go_sem]) rfl ⟨H2.out.2.2.2.2.2.trans H3.out, .inl ⟨_, _, _, X, HG.out, rfl, H2.out.1, H2.out.2.1, (H2.out.2.2.1.after H3.out).lower H1.out.2.2.size⟩⟩
          · have HM : Hid (Calls Try.prog 22 #[.slice a2 k2 c2] w2 fun e w' => e = .returned (.bool false) ∧ After w2 w') := by
              obtain ⟨a9, c9, e9, h9⟩ := H2.out.2.2.1.at
              rw [H2.out.1] at e9
              injection e9 with e1 _ e3
              subst e1 e3
              exact maybe_no H2.out.1 (by have := H2.out.2.1; omega) hm h9
            have HG : Hid (∀ L, ¬ gOk (1 :: t) L) := no_gOk_may HP.out hm
            clear hm
            go_wp2_with (first
              | (go_at_call 29; refine Calls.mono HD.out ?_; rintro e w9 ⟨rfl, hw9⟩; rw [hw9]; clear hw9 w9)
              | (go_at_call 22; refine Calls.mono HM.out ?_; rintro e w3 ⟨rfl, h3⟩; have H3 : Hid (After w2 w3) := h3; clear h3))
            refine bodyPost_ret (v := .tuple #[.slice none 0 0, .int .i64 4]) (by simp [results, Try.results14, go_sem]) rfl ⟨H2.out.2.2.2.2.2.trans H3.out, .inr ⟨HG.out, rfl⟩⟩
        · have hdz : ¬ (d : Int) = 0 := by omega
          have HG : Hid (∀ L, ¬ gOk (1 :: t) L) := no_gOk_rest (sdE_ne (by rw [HS.out]; exact hd0) H2.out.2.2.2.1)
          go_wp2_with (first
            | (go_at_call 29; refine Calls.mono HD.out ?_; rintro e w9 ⟨rfl, hw9⟩; rw [hw9]; clear hw9 w9))
          refine bodyPost_ret (v := .tuple #[.slice none 0 0, .int .i64 4]) (by simp [results, Try.results14, go_sem]) rfl ⟨H2.out.2.2.2.2.2, .inr ⟨HG.out, rfl⟩⟩
      · have hx1 : ¬ (x.toNat : Int) = 1 := fun h => hx (UInt8.toNat_inj.1 (by have : x.toNat = 1 := by omega
                                                                               rw [this]; rfl))
        have HF : Hid (∀ L, ¬ gOk (x :: t) L) := no_gOk_head hx
        have hx2 : ((x.toNat : Int) != 1) = true := bne_iff_ne.2 hx1
        clear hat hce hn hx
        go_enter Try.func14, Try.ntmps14
        go_wp2
        refine bodyPost_ret (v := .tuple #[.slice none 0 0, .int .i64 4]) (by simp [results, Try.results14, go_sem]) rfl ⟨After.refl w, .inr ⟨HF.out, rfl⟩⟩
end Go.Proofs.Ytcmcapcagblafaa
