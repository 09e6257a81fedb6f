/-
  THE WALK OF stemmaref05.stays.
-/
import Derived.Test.YtlbodickflljfaaStaysRow
namespace Go.Proofs.Ytlbodickflljfaa
open Go.RowKit Go.Maps Dsk
structure StyI (w0 : World) (base : Nat) (data keep : List UInt8) (safe i e t : Nat) (all : List UInt8) (av : Value) (wr : World) : Prop where
  sty : StyR data keep safe (safe + i) e t all
  own : OwnC wr base av all
  aft : After w0 wr
  ti : t ≤ i
theorem StyR.len {data keep : List UInt8} {safe I e t : Nat} {all : List UInt8} (h : StyR data keep safe I e t all) : all.length = I := by
  obtain ⟨fuel, d, h1, h2, h3, h4, h5⟩ := h.ex
  rw [h2, List.length_take, h3]; have := h.le; omega
/-- What a piece's round appends. -/
def pieceL (data : List UInt8) (I n k : Nat) : List UInt8 := (data.drop I).take k ++ List.replicate (n - k) 0
theorem pieceL_len {data : List UInt8} {I n k : Nat} (hk : k ≤ n) (hn : I + n ≤ data.length) : (pieceL data I n k).length = n := by simp [pieceL]; omega
theorem pieceL_lt {data : List UInt8} {I n k c : Nat} (hk : k ≤ n) (hn : I + n ≤ data.length) (hc : c < k) : (pieceL data I n k)[c]? = some (data.getD (I + c) 0) := by
  unfold pieceL
  rw [List.getElem?_append_left (by simp; omega), List.getElem?_take_of_lt hc, List.getElem?_drop]
  simp [List.getD, List.getElem?_eq_getElem (show I + c < data.length by omega)]
theorem pieceL_ge {data : List UInt8} {I n k c : Nat} (hk : k ≤ n) (hn : I + n ≤ data.length) (hc : ¬ c < k) (hcn : c < n) : (pieceL data I n k)[c]? = some 0 := by
  unfold pieceL
  rw [List.getElem?_append_right (by simp; omega)]
  have : (List.take k (List.drop I data)).length = k := by simp; omega
  rw [this, List.getElem?_replicate_of_lt (by omega)]
theorem take_snoc {α : Type} {l : List α} {c : Nat} {b : α} (all : List α) (h : l[c]? = some b) : (all ++ l.take c) ++ [b] = all ++ l.take (c + 1) := by
  rw [List.take_add_one, h]; simp
structure InR (w0 : World) (base : Nat) (all piece : List UInt8) (I e k c e' : Nat) (av : Value) (wr : World) : Prop where
  own : OwnC wr base av (all ++ piece.take c)
  aft : After w0 wr
  ee : e' = if 0 < min c k then I + min c k else e
theorem stays_at {keep : List UInt8} {t n : Nat} {kk : UInt8} (h : keep[t]? = some kk) : stays (keep.drop t) n = stay kk n := by
  obtain ⟨hl, e⟩ := List.getElem?_eq_some_iff.1 h
  rw [List.drop_eq_getElem_cons hl, e]; rfl
theorem stays_past {keep : List UInt8} {t n : Nat} (h : keep.length ≤ t) : stays (keep.drop t) n = 0 := by
  rw [List.drop_of_length_le h]; rfl
set_option maxRecDepth 100000 in
set_option maxHeartbeats 3200000 in
theorem stays_any (nm : Nm) (data : List UInt8) (safe : Nat) (hs : safe ≤ data.length) (hb : data.length ≤ 16777216) (ka : Option Addr) (kn kc : Nat) (keep : List UInt8) (hk : keep.length = kn) (hkn : kn ≤ 140737488355328) (w : World) (hka : BytesAt w ka keep) :
    Calls Try.prog 47 #[.agg #[.string (strOf nm), .string (strOf (data.take safe)), .string (strOf (data.drop safe))], .slice ka kn kc] w fun e w' => ∃ t : Nat, e = .returned (.tuple #[.string (strOf (survF ⟨data, safe⟩ keep).data), .int .i64 (t : Int)]) ∧ survK ⟨data, safe⟩ keep = keep.drop t ∧ t ≤ 16777216 ∧ After w w' := by
  obtain ⟨m, hm⟩ : ∃ m, data.length - safe = m := ⟨_, rfl⟩
  obtain ⟨s1, hs1⟩ : ∃ s1, strOf (data.take safe) = s1 := ⟨_, rfl⟩
  obtain ⟨s2, hs2⟩ : ∃ s2, strOf (data.drop safe) = s2 := ⟨_, rfl⟩
  have z1 : s1.size = safe := by rw [← hs1, strOf_size, List.length_take]; omega
  have z2 : s2.size = m := by rw [← hs2, strOf_size, List.length_drop]; omega
  have HC2 : Hid (∀ (j : Nat) (h : j < s2.size), s2[j] = data.getD (safe + j) 0) := fun j h => by
    subst hs2
    have : j < (data.drop safe).length := by rw [strOf_size] at h; exact h
    show (strOf (data.drop safe)).data[j] = _
    simp only [strOf, List.getElem_toArray, List.getElem_drop]
    rw [List.length_drop] at this
    simp [List.getD, List.getElem?_eq_getElem (show safe + j < data.length by omega)]
  have HS1 : Hid (strOf (data.take safe) = s1) := hs1
  have HML : Hid (data.length = safe + m) := by unfold Hid; omega
  have HKA : Hid (BytesAt w ka keep) := hka
  have HK : Hid (keep.length = kn) := hk
  have hmb : safe + m ≤ 16777216 := by omega
  rw [hs1, hs2]
  clear hs1 hs2 hm hka hk hs hb
  go_enter Try.func47, Try.ntmps47
  go_wp2_with fail
  obtain ⟨w0, hw0⟩ : ∃ w0, w.alloc (.cells #[.string (strOf nm), .string s1, .string s2] 75) = w0 := ⟨_, rfl⟩
  rw [hw0]
  have HA0 : Hid (After w w0) := by rw [← hw0]; exact after_alloc (After.refl w) _
  have HF1 : Hid (w0.cell? ⟨w.heap.size, 1, none⟩ = some (.string s1)) := by rw [← hw0]; exact (RowIs.new w 75 [.string (strOf nm), .string s1, .string s2]).cell rfl
  have HF2 : Hid (w0.cell? ⟨w.heap.size, 2, none⟩ = some (.string s2)) := by rw [← hw0]; exact (RowIs.new w 75 [.string (strOf nm), .string s1, .string s2]).cell rfl
  clear hw0
  have f1 := HF1.out
  obtain ⟨v1, w1, hrun, ho1, ha1⟩ := conv_bytes w0 (data.take safe) (by rw [List.length_take, HML.out]; omega)
  rw [HS1.out] at hrun
  have HO1 := show Hid (OwnC _ _ _ _) from ho1
  have HA1 : Hid (After w0 w1) := ha1
  obtain ⟨g1, c1, hv1, _, _⟩ := ho1.at
  rw [List.length_take, HML.out, Nat.min_eq_left (Nat.le_add_right _ _)] at hv1
  subst hv1
  clear ho1 ha1
  rw [hrun]
  clear hrun
  go_simp
  go_wp2_with fail
  go_loopw [6, 7, 8, 9] (fun av ev tv iv wr => ∃ (i e t : Nat) (all : List UInt8), i ≤ m ∧ ev = .int .i64 (e : Int) ∧ tv = .int .i64 (t : Int) ∧ iv = .int .i64 (i : Int) ∧ Hid (StyI w0 w0.heap.size data keep safe i e t all av wr)) (fun _ _ _ iv _ => m - (intOf iv).toNat)
  case atStart => exact ⟨0, safe, 0, data.take safe, Nat.zero_le _, rfl, rfl, rfl, StyR.start data keep safe (by rw [HML.out]; omega), HO1.out, HA1.out, Nat.le_refl _⟩
  case round =>
    obtain ⟨i, e, t, all, him, rfl, rfl, rfl, HS⟩ := hrel
    obtain ⟨av, rfl⟩ : ∃ av, av = u6 := ⟨_, rfl⟩
    obtain ⟨wo, rfl⟩ : ∃ wo, wo = wr := ⟨_, rfl⟩
    have f1 := cell_after HS.out.aft HF1.out
    have f2 := cell_after HS.out.aft HF2.out
    have hti := HS.out.ti
    by_cases hlt : i < m
    · obtain ⟨I, hI⟩ : ∃ I, safe + i = I := ⟨_, rfl⟩
      have hIi : (safe : Int) + (i : Int) = (I : Int) := by omega
      obtain ⟨q, hq⟩ : ∃ q, I % 16 = q := ⟨_, rfl⟩
      have hqi : (I : Int) % 16 = (q : Int) := by omega
      have hq16 : q < 16 := by omega
      obtain ⟨n, hn⟩ : ∃ n, nextAt I data.length - I = n := ⟨_, rfl⟩
      have hnb := nextAt_gt (i := I) (len := data.length) (by rw [HML.out]; omega)
      have hn16 : n ≤ 16 ∧ 0 < n := by have := hn; unfold nextAt at this; omega
      have hnm : i + n ≤ m := by have := HML.out; omega
      have hni : min ((16 : Int) - (q : Int)) ((m : Int) - (i : Int)) = (n : Int) := by
        have h1 := hn; have h2 := HML.out; unfold nextAt at h1; rw [hq] at h1; omega
      have HN : Hid (n = nextAt I data.length - I) := hn.symm
      have hiltI : I < data.length := by rw [HML.out]; omega
      have HIL : Hid (I < data.length) := hiltI
      have HII : Hid (safe + i = I) := hI
      have hIb : I + n ≤ 16777216 := by have := HML.out; omega
      obtain ⟨k, hkd⟩ : ∃ k, stays (keep.drop t) n = k := ⟨_, rfl⟩
      have hkn2 : k ≤ n := by rw [← hkd]; exact stays_le _ _
      have HKD : Hid (k = stays (keep.drop t) n) := hkd.symm
      have HSTY : Hid (StyR data keep safe I e t all) := by have := HS.out.sty; rw [hI] at this; exact this
      have HST2 := show Hid _ from HSTY.out.step HIL.out HN.out HKD.out
      have HAL : Hid (all.length = I) := HSTY.out.len
      have HIN : Hid (I + n ≤ data.length) := by have := hn; unfold Hid; omega
      have IN0 : Hid (InR w0 w0.heap.size all (pieceL data I n k) I e k 0 e av wo) := ⟨by simpa using HS.out.own, HS.out.aft, by simp⟩
      have TI : Hid (t ≤ i) := hti
      have FIN : Hid (∀ (av' : Value) (wr' : World) (e' : Nat), InR w0 w0.heap.size all (pieceL data I n k) I e k n e' av' wr' → StyI w0 w0.heap.size data keep safe (i + n) e' (t + 1) (all ++ pieceL data I n k) av' wr') := fun av' wr' e' h => by
        have h1 := h.own
        rw [List.take_of_length_le (by rw [pieceL_len hkn2 HIN.out]; exact Nat.le_refl _)] at h1
        refine ⟨?_, h1, h.aft, by have := TI.out; have := hn16.2; omega⟩
        have h2 := HST2.out
        have h3 := h.ee
        rw [Nat.min_eq_right hkn2] at h3
        rw [h3, show safe + (i + n) = I + n by have := HII.out; omega]
        exact h2
      obtain ⟨hn16a, hn16b⟩ := hn16
      have hil : ¬ ((m : Int) < (i : Int)) := by omega
      clear hn hq hI hnb hkd HS HST2 hiltI
      have hcase : (∃ kk, keep[t]? = some kk ∧ kk = 255) ∨ (∃ kk, keep[t]? = some kk ∧ ¬ kk = 255) ∨ kn ≤ t := by
        by_cases h : t < kn
        · have h2 : t < keep.length := by rw [HK.out]; exact h
          by_cases h3 : keep[t] = 255
          · exact Or.inl ⟨_, List.getElem?_eq_getElem h2, h3⟩
          · exact Or.inr (Or.inl ⟨_, List.getElem?_eq_getElem h2, h3⟩)
        · exact Or.inr (Or.inr (by omega))
      rcases hcase with ⟨kk, hkk, hk255⟩ | ⟨kk, hkk, hk255⟩ | hpast
      · have htl : t < kn := by have := (List.getElem?_eq_some_iff.1 hkk).1; rw [HK.out] at this; exact this
        have hti2 : (t : Int) < (kn : Int) := by omega
        have hka2 : ∃ b o, ka = some ⟨b, o, none⟩ ∧ wo.cell? ⟨b, o + t, none⟩ = some (.int .u8 (kk.toNat : Int)) := by
          obtain ⟨b, o, e1, hc⟩ := HKA.out (by intro h; rw [h] at hkk; simp at hkk)
          refine ⟨b, o, e1, ?_⟩
          have := hc t (by rw [HK.out]; exact htl)
          rw [show keep.getD t 0 = kk by simp [List.getD, hkk]] at this
          exact cell_after (After.trans HA0.out IN0.out.aft) this
        obtain ⟨kb, ko, hkae, hkc⟩ := hka2
        subst hkae
        have hkst := stays_at (n := n) hkk
        have hkl := kk.toNat_lt
        have HKS : Hid (k = stay kk n) := by unfold Hid; rw [HKD.out, hkst]
        have hk2 : (kk.toNat : Int) = 255 := by rw [hk255]; rfl
        have hkn3 : k = n := by rw [HKS.out]; unfold stay; rw [if_pos hk255]
        clear hk255
        clear hkst hkk
        go_wp2
        go_loopw [6, 7, 13] (fun av' ev cv wr' => ∃ (c e' : Nat), c ≤ n ∧ ev = .int .i64 (e' : Int) ∧ cv = .int .i64 (c : Int) ∧ Hid (InR w0 w0.heap.size all (pieceL data I n k) I e k c e' av' wr')) (fun _ _ cv _ => n - (intOf cv).toNat)
        case atStart => exact ⟨0, e, Nat.zero_le _, rfl, rfl, IN0⟩
        case round =>
          obtain ⟨c, e', hcn, rfl, rfl, HI⟩ := hrel
          have g2 := cell_after HI.out.aft HF2.out
          by_cases hcl : c < n
          · by_cases hck : c < k
            · have hcki : (c : Int) < (k : Int) := by omega
              obtain ⟨x, hx⟩ : ∃ x, s2[i + c]'(by rw [z2]; omega) = x := ⟨_, rfl⟩
              have hxp : (pieceL data I n k)[c]? = some x := by
                rw [pieceL_lt hkn2 HIN.out hck, ← hx, HC2.out (i + c) (by rw [z2]; omega), ← HII.out, Nat.add_assoc]
              have HXP : Hid ((pieceL data I n k)[c]? = some x) := hxp
              have hicm : i + c < s2.size := by rw [z2]; omega
              clear hxp
              go_wp2_with (at_builtin; refine wpList_append_ownC rfl _ _ rfl w0.heap.size u6 (all ++ (pieceL data I n k).take c) rfl (HI.out.own.after (after_alloc (After.refl _) _)) ⟨wr.heap.size, 0, none⟩ 1 (x) rfl (BytesAt.one wr x) (by rw [List.length_append, HAL.out, List.length_take, pieceL_len hkn2 HIN.out]; omega) (by have := HI.out.aft.size; simp; omega) ?_; intro v2 w2 ho2 hb2; rw [take_snoc all HXP.out] at ho2; have HO2 := show Hid (OwnC _ _ _ _) from ho2; have HA2 : Hid (After w0 w2) := Below.trans (after_alloc HI.out.aft _) hb2; clear ho2 hb2)
              go_roundw
              case rel => exact ⟨c + 1, I + c + 1, by omega, by go_num, by go_num, HO2.out, HA2.out, by rw [Nat.min_eq_left (by omega), if_pos (by omega)]; rfl⟩
              case measure => simp [intOf]; omega
            · exact absurd hcl (by omega)
          · have hce : c = n := by omega
            subst hce
            go_wp2
            go_roundw
            case rel => exact ⟨i + c, e', t + 1, all ++ pieceL data I c k, by omega, rfl, by go_num, by go_num, FIN.out _ _ _ HI.out⟩
            case measure => simp [intOf]; omega
      · have htl : t < kn := by have := (List.getElem?_eq_some_iff.1 hkk).1; rw [HK.out] at this; exact this
        have hti2 : (t : Int) < (kn : Int) := by omega
        have hka2 : ∃ b o, ka = some ⟨b, o, none⟩ ∧ wo.cell? ⟨b, o + t, none⟩ = some (.int .u8 (kk.toNat : Int)) := by
          obtain ⟨b, o, e1, hc⟩ := HKA.out (by intro h; rw [h] at hkk; simp at hkk)
          refine ⟨b, o, e1, ?_⟩
          have := hc t (by rw [HK.out]; exact htl)
          rw [show keep.getD t 0 = kk by simp [List.getD, hkk]] at this
          exact cell_after (After.trans HA0.out IN0.out.aft) this
        obtain ⟨kb, ko, hkae, hkc⟩ := hka2
        subst hkae
        have hkst := stays_at (n := n) hkk
        have hkl := kk.toNat_lt
        have HKS : Hid (k = stay kk n) := by unfold Hid; rw [HKD.out, hkst]
        have hk2 : ¬ (kk.toNat : Int) = 255 := fun h => hk255 (by rw [← UInt8.toNat_inj]; simp; omega)
        have hkn3 : k = kk.toNat % (n + 1) := by rw [HKS.out]; unfold stay; rw [if_neg hk255]
        have hkn4 : (kk.toNat : Int) % ((n : Int) + 1) = (k : Int) := by rw [hkn3]; simp
        have hkn5 : Hid (k = kk.toNat % (n + 1)) := hkn3
        clear hk255 hkn3
        clear hkst hkk
        go_wp2
        go_loopw [6, 7, 13] (fun av' ev cv wr' => ∃ (c e' : Nat), c ≤ n ∧ ev = .int .i64 (e' : Int) ∧ cv = .int .i64 (c : Int) ∧ Hid (InR w0 w0.heap.size all (pieceL data I n k) I e k c e' av' wr')) (fun _ _ cv _ => n - (intOf cv).toNat)
        case atStart => exact ⟨0, e, Nat.zero_le _, rfl, rfl, IN0⟩
        case round =>
          obtain ⟨c, e', hcn, rfl, rfl, HI⟩ := hrel
          have g2 := cell_after HI.out.aft HF2.out
          by_cases hcl : c < n
          · by_cases hck : c < k
            · have hcki : (c : Int) < (k : Int) := by omega
              obtain ⟨x, hx⟩ : ∃ x, s2[i + c]'(by rw [z2]; omega) = x := ⟨_, rfl⟩
              have hxp : (pieceL data I n k)[c]? = some x := by
                rw [pieceL_lt hkn2 HIN.out hck, ← hx, HC2.out (i + c) (by rw [z2]; omega), ← HII.out, Nat.add_assoc]
              have HXP : Hid ((pieceL data I n k)[c]? = some x) := hxp
              have hicm : i + c < s2.size := by rw [z2]; omega
              clear hxp
              go_wp2_with (at_builtin; refine wpList_append_ownC rfl _ _ rfl w0.heap.size u6 (all ++ (pieceL data I n k).take c) rfl (HI.out.own.after (after_alloc (After.refl _) _)) ⟨wr.heap.size, 0, none⟩ 1 (x) rfl (BytesAt.one wr x) (by rw [List.length_append, HAL.out, List.length_take, pieceL_len hkn2 HIN.out]; omega) (by have := HI.out.aft.size; simp; omega) ?_; intro v2 w2 ho2 hb2; rw [take_snoc all HXP.out] at ho2; have HO2 := show Hid (OwnC _ _ _ _) from ho2; have HA2 : Hid (After w0 w2) := Below.trans (after_alloc HI.out.aft _) hb2; clear ho2 hb2)
              go_roundw
              case rel => exact ⟨c + 1, I + c + 1, by omega, by go_num, by go_num, HO2.out, HA2.out, by rw [Nat.min_eq_left (by omega), if_pos (by omega)]; rfl⟩
              case measure => simp [intOf]; omega
            · have hcki : ¬ (c : Int) < (k : Int) := by omega
              have HXP : Hid ((pieceL data I n k)[c]? = some 0) := pieceL_ge hkn2 HIN.out hck hcl
              go_wp2_with (at_builtin; refine wpList_append_ownC rfl _ _ rfl w0.heap.size u6 (all ++ (pieceL data I n k).take c) rfl (HI.out.own.after (after_alloc (After.refl _) _)) ⟨wr.heap.size, 0, none⟩ 1 (0) rfl (BytesAt.one wr 0) (by rw [List.length_append, HAL.out, List.length_take, pieceL_len hkn2 HIN.out]; omega) (by have := HI.out.aft.size; simp; omega) ?_; intro v2 w2 ho2 hb2; rw [take_snoc all HXP.out] at ho2; have HO2 := show Hid (OwnC _ _ _ _) from ho2; have HA2 : Hid (After w0 w2) := Below.trans (after_alloc HI.out.aft _) hb2; clear ho2 hb2)
              go_roundw
              case rel => exact ⟨c + 1, e', by omega, rfl, by go_num, HO2.out, HA2.out, by rw [HI.out.ee, Nat.min_eq_right (show k ≤ c by omega), Nat.min_eq_right (show k ≤ c + 1 by omega)]⟩
              case measure => simp [intOf]; omega
          · have hce : c = n := by omega
            subst hce
            go_wp2
            go_roundw
            case rel => exact ⟨i + c, e', t + 1, all ++ pieceL data I c k, by omega, rfl, by go_num, by go_num, FIN.out _ _ _ HI.out⟩
            case measure => simp [intOf]; omega
      · have hti2 : ¬ (t : Int) < (kn : Int) := by omega
        have hk0 : k = 0 := by rw [HKD.out, stays_past (by rw [HK.out]; exact hpast)]
        clear hpast
        go_wp2
        go_loopw [6, 7, 13] (fun av' ev cv wr' => ∃ (c e' : Nat), c ≤ n ∧ ev = .int .i64 (e' : Int) ∧ cv = .int .i64 (c : Int) ∧ Hid (InR w0 w0.heap.size all (pieceL data I n k) I e k c e' av' wr')) (fun _ _ cv _ => n - (intOf cv).toNat)
        case atStart => exact ⟨0, e, Nat.zero_le _, rfl, rfl, IN0⟩
        case round =>
          obtain ⟨c, e', hcn, rfl, rfl, HI⟩ := hrel
          have g2 := cell_after HI.out.aft HF2.out
          by_cases hcl : c < n
          · by_cases hck : c < k
            · exact absurd hck (by omega)
            · have hcki : ¬ (c : Int) < 0 := by omega
              have HXP : Hid ((pieceL data I n k)[c]? = some 0) := pieceL_ge hkn2 HIN.out hck hcl
              go_wp2_with (at_builtin; refine wpList_append_ownC rfl _ _ rfl w0.heap.size u6 (all ++ (pieceL data I n k).take c) rfl (HI.out.own.after (after_alloc (After.refl _) _)) ⟨wr.heap.size, 0, none⟩ 1 (0) rfl (BytesAt.one wr 0) (by rw [List.length_append, HAL.out, List.length_take, pieceL_len hkn2 HIN.out]; omega) (by have := HI.out.aft.size; simp; omega) ?_; intro v2 w2 ho2 hb2; rw [take_snoc all HXP.out] at ho2; have HO2 := show Hid (OwnC _ _ _ _) from ho2; have HA2 : Hid (After w0 w2) := Below.trans (after_alloc HI.out.aft _) hb2; clear ho2 hb2)
              go_roundw
              case rel => exact ⟨c + 1, e', by omega, rfl, by go_num, HO2.out, HA2.out, by rw [HI.out.ee, Nat.min_eq_right (show k ≤ c by omega), Nat.min_eq_right (show k ≤ c + 1 by omega)]⟩
              case measure => simp [intOf]; omega
          · have hce : c = n := by omega
            subst hce
            go_wp2
            go_roundw
            case rel => exact ⟨i + c, e', t + 1, all ++ pieceL data I c k, by omega, rfl, by go_num, by go_num, FIN.out _ _ _ HI.out⟩
            case measure => simp [intOf]; omega
    · have him2 : i = m := by omega
      have hdn := HS.out.sty.done (by rw [HML.out]; omega)
      obtain ⟨g, cg, hav, hbt, hcg⟩ := HS.out.own.at
      rw [HS.out.sty.len] at hav hcg
      have hee := HS.out.sty.ee
      subst hav
      have hsl := slice_hi g 0 (safe + i) cg e (by omega) wo
      have hcv := conv_take cg e hbt (by rw [HS.out.sty.len]; omega)
      have HD : Hid (survF ⟨data, safe⟩ keep = ⟨all.take e, e⟩ ∧ survK ⟨data, safe⟩ keep = keep.drop t) := hdn
      clear hbt hdn
      go_wp2
      go_ret2
      exact ⟨t, by rw [HD.out.1]; rfl, HD.out.2, by omega, After.trans HA0.out HS.out.aft⟩
end Go.Proofs.Ytlbodickflljfaa
