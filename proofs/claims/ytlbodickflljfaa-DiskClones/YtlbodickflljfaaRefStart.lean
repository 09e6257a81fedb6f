/-
  THE WALK OF (stemmaref05.Disk).Start.
-/
import Derived.Test.YtlbodickflljfaaStays
namespace Go.Proofs.Ytlbodickflljfaa
open Go.RowKit Go.Maps Dsk
theorem files_one (W : World) (nm : Nm) (x : Fl) (h : x.data.length = x.safe) : FilesAt (W.alloc (.cells #[.string (strOf nm), .string (strOf x.data), .string ⟨#[]⟩] 75)) (some ⟨W.heap.size, 0, none⟩) [(nm, x)] := fun _ => by
  have hr := RowIs.new W 75 [.string (strOf nm), .string (strOf x.data), .string ⟨#[]⟩]
  refine ⟨W.heap.size, 0, rfl, ⟨_, _, heap_alloc_new W _⟩, fun j p hj => ?_⟩
  cases j with
  | succ j => simp at hj
  | zero =>
    obtain rfl : (nm, x) = p := by simpa using hj
    simp only [Nat.zero_mul, Nat.zero_add]
    rw [List.take_of_length_le (by omega), List.drop_of_length_le (by omega)]
    exact ⟨hr.cell (j := 0) rfl, hr.cell (j := 1) rfl, hr.cell (j := 2) rfl⟩
theorem survAll_step {l : List (Nm × Fl)} {keep K : List UInt8} {P : List (Nm × Fl)} {j : Nat} {p : Nm × Fl} (h : survAll l keep = P ++ survAll (l.drop j) K) (hj : l[j]? = some p) : survAll l keep = (P ++ [(p.1, survF p.2 K)]) ++ survAll (l.drop (j + 1)) (survK p.2 K) := by
  obtain ⟨hl, e⟩ := List.getElem?_eq_some_iff.1 hj
  rw [h, List.drop_eq_getElem_cons hl, e]; simp [survAll]
structure StaI (w w0 : World) (base : Nat) (l : List (Nm × Fl)) (keep : List UInt8) (j : Nat) (K : List UInt8) (P : List (Nm × Fl)) (ka' : Option Addr) (kn' kc' : Nat) (lv : Value) (wr : World) : Prop where
  res : survAll l keep = P ++ survAll (l.drop j) K
  pl : P.length = j
  own : OwnFl wr base lv P
  kl : K.length = kn'
  kc : kn' ≤ kc'
  at_ : BytesAt w ka' K
  aft : After w0 wr
  kb : kn' ≤ 140737488355328
set_option maxRecDepth 100000 in
set_option maxHeartbeats 3200000 in
theorem startR (S : Dk) (hS : Ok S) (ka : Option Addr) (kn kc : Nat) (keep : List UInt8) (hk : keep.length = kn) (hkc : kn ≤ kc) (hkb : kn ≤ 140737488355328) (w : World) (v : Value) (h : RefAt w v S) (hka : BytesAt w ka keep) :
    Calls Try.prog 20 #[v, .slice ka kn kc] w fun e w' => ∃ v', e = .returned v' ∧ RefAt w' v' (startS S keep) ∧ After w w' := by
  obtain ⟨ao, c, ar, lf, dn, rfl, hat, hc, hrel, hlf, hz⟩ := h.ex
  have HF : Hid (FilesAt w ao S.files) := hat
  have hcnt : S.files.length ≤ 64 := hS.count
  have HBIG : Hid (∀ p ∈ S.files, p.2.safe ≤ p.2.data.length ∧ p.2.data.length ≤ 16777216) := fun p hp => ⟨hS.safe p hp, by have h1 := used_mem hp; have h2 := hS.used; have h3 := hS.most; omega⟩
  have HST : Hid (startS S keep = ⟨S.most, survAll S.files keep, S.steps, false, false, 0, false⟩) := rfl
  obtain ⟨R, hR⟩ : ∃ R, startS S keep = R := ⟨_, rfl⟩
  rw [hR] at HST ⊢
  obtain ⟨l, hl⟩ : ∃ l, S.files = l := ⟨_, rfl⟩
  rw [hl] at HF HBIG HST hcnt
  unfold rV
  rw [hl]
  obtain ⟨n, hn⟩ : ∃ n, l.length = n := ⟨_, rfl⟩
  have HN : Hid (l.length = n) := hn
  rw [hn] at hcnt ⊢
  have HK : Hid (keep.length = kn ∧ kn ≤ kc ∧ kn ≤ 140737488355328 ∧ BytesAt w ka keep) := ⟨hk, hkc, hkb, hka⟩
  clear hat hrel hlf hz hc h hS hl hn hR hk hkc hkb hka
  go_enter Try.func20, Try.ntmps20
  go_wp2_with fail
  obtain ⟨w0, hw0⟩ : ∃ w0, (w.alloc (.cells #[.int .i64 (S.most : Int), .slice ao n c, .int .i64 (S.steps : Int), .bool ar, .int .i64 (lf : Int), .bool dn, .bool S.down] 27)).alloc (.cells #[.int .i64 0, .slice none 0 0, .int .i64 0, .bool false, .int .i64 0, .bool false, .bool false] 27) = w0 := ⟨_, rfl⟩
  rw [hw0]
  have HA0 : Hid (After w w0) := by rw [← hw0]; exact after_alloc (after_alloc (After.refl w) _) _
  have HR0 : Hid (RowIs w0 w.heap.size 27 [.int .i64 (S.most : Int), .slice ao n c, .int .i64 (S.steps : Int), .bool ar, .int .i64 (lf : Int), .bool dn, .bool S.down]) := by rw [← hw0]; exact (RowIs.new w 27 _).alloc _
  have HR1 : Hid (RowIs w0 (w.heap.size + 1) 27 [.int .i64 0, .slice none 0 0, .int .i64 0, .bool false, .int .i64 0, .bool false, .bool false]) := by rw [← hw0]; exact row_last _ _ (by simp) _
  have HS0 : Hid (w0.heap.size = w.heap.size + 1 + 1) := by rw [← hw0]; simp [Hid]
  clear hw0
  go_loopw [1, 5, 6] (fun kv lv iv wr => ∃ (j : Nat) (K : List UInt8) (P : List (Nm × Fl)) (ka' : Option Addr) (kn' kc' : Nat), j ≤ n ∧ kv = .slice ka' kn' kc' ∧ iv = .int .i64 (j : Int) ∧ Hid (StaI w w0 w0.heap.size l keep j K P ka' kn' kc' lv wr)) (fun _ _ iv _ => n - (intOf iv).toNat)
  case atStart => exact ⟨0, keep, [], ka, kn, kc, Nat.zero_le _, rfl, rfl, by simp, rfl, OwnFl.nil _ _, HK.out.1, HK.out.2.1, HK.out.2.2.2, After.refl _, HK.out.2.2.1⟩
  case round =>
    obtain ⟨j, K, P, ka', kn', kc', hjn, rfl, rfl, HI⟩ := hrel
    obtain ⟨lv, rfl⟩ : ∃ lv, lv = u5 := ⟨_, rfl⟩
    have HRR := show Hid (RowIs wr _ _ _) from HR0.out.below HI.out.aft HR0.out.lt
    have c1 := HRR.out.cell (j := 1) rfl
    by_cases hlt : j < n
    · have hji : (j : Int) < (n : Int) := by omega
      obtain ⟨p, hp⟩ : ∃ p, l[j]? = some p := ⟨_, List.getElem?_eq_getElem (by rw [HN.out]; exact hlt)⟩
      obtain ⟨fb, fo, hao, _, hfc⟩ := HF.out (by intro h; rw [h] at hp; simp at hp)
      obtain ⟨e0, e1, e2⟩ := hfc j p hp
      have d0 := cell_after (After.trans HA0.out HI.out.aft) e0
      have d1 := cell_after (After.trans HA0.out HI.out.aft) e1
      have d2 := cell_after (After.trans HA0.out HI.out.aft) e2
      subst hao
      obtain ⟨nm, f⟩ := p
      have HP : Hid (l[j]? = some (nm, f)) := hp
      obtain ⟨hf1, hf2⟩ := HBIG.out _ (List.mem_of_getElem? hp)
      have C47 := show Hid _ from stays_any nm f.data f.safe hf1 hf2 ka' kn' kc' K HI.out.kl HI.out.kb wr (HI.out.at_.after (After.trans HA0.out HI.out.aft))
      have HSL : Hid ((survF f K).data.length = (survF f K).safe) := (survF_len f K hf1).1
      have e3 : (⟨f.data, f.safe⟩ : Fl) = f := rfl
      rw [e3] at C47
      obtain ⟨s1, hs1⟩ : ∃ s1, strOf (f.data.take f.safe) = s1 := ⟨_, rfl⟩
      obtain ⟨s2, hs2⟩ : ∃ s2, strOf (f.data.drop f.safe) = s2 := ⟨_, rfl⟩
      obtain ⟨s3, hs3⟩ : ∃ s3, strOf (survF f K).data = s3 := ⟨_, rfl⟩
      have HS3 : Hid (strOf (survF f K).data = s3) := hs3
      simp only at d0 d1 d2
      rw [hs1] at d1 C47
      rw [hs2] at d2 C47
      rw [hs3] at C47
      have hkc' := HI.out.kc
      have hkb' := HI.out.kb
      clear hfc e0 e1 e2 hs1 hs2 hs3 hp hf1 hf2
      go_wp2_with (first
        | (go_at_call 47; refine Calls.mono C47.out ?_; rintro e w1 ⟨t, rfl, hsk, htb, ha1⟩; have HSK : Hid (survK f K = K.drop t) := hsk; have HA1 : Hid (After wr w1) := ha1; obtain ⟨u, hu⟩ : ∃ u, min t kn' = u := ⟨_, rfl⟩; have hui : min (t : Int) (kn' : Int) = (u : Int) := (by omega); have hule : u ≤ kn' := (by omega); have HU : Hid (min t kn' = u) := hu; have SF := slice_from ka' kn' kc' u (fun h => by have h2 := HI.out.at_; rw [h] at h2; have h3 := bytesAt_none h2; have h4 := HI.out.kl; rw [h3] at h4; exact h4.symm) hkc' hule w1; have c1' := cell_after ha1 c1; have d0' := cell_after ha1 d0; clear hsk ha1 hu)
        | (at_builtin; refine wpList_append_files rfl (.tmp 32) (.tmp 41) rfl w0.heap.size lv P rfl ((HI.out.own.same (fun g hg => HA1.out.block g (HI.out.own.lt g hg).2)).same (fun g hg => Below.heap_alloc w1 _ g (by have := (HI.out.own.lt g hg).2; have := HA1.out.size; omega))) (some ⟨w1.heap.size, 0, none⟩) 1 [(nm, survF f K)] 1 rfl rfl (by have := files_one w1 nm (survF f K) HSL.out; rw [HS3.out] at this; exact this) (by rw [HI.out.pl]; simp; omega) (by have := HI.out.aft.size; have := HA1.out.size; simp; omega) ?_; intro v2 w2 ho2 hg2; have HO2 := show Hid (OwnFl _ _ _ _) from ho2; have HA2 : Hid (After w0 w2) := after_grown (after_alloc (After.trans HI.out.aft HA1.out) _) hg2 (Nat.le_refl _) (fun k hk => (HI.out.own.lt k hk).1); clear ho2 hg2))
      go_roundw
      case rel => exact ⟨j + 1, K.drop t, P ++ [(nm, survF f K)], cutAt ka' u kc', kn' - u, kc' - u, by omega, rfl, by go_num, by have h1 := survAll_step HI.out.res HP.out; rw [HSK.out] at h1; exact h1, by rw [List.length_append, HI.out.pl]; rfl, HO2.out, by rw [List.length_drop, HI.out.kl]; have := HU.out; omega, by omega, by
        have h1 := HI.out.at_.cut u kc' (by rw [HI.out.kl]; exact hkc')
        have h2 : K.drop t = K.drop u := by
          have h3 := HU.out
          by_cases h4 : t ≤ kn'
          · rw [show u = t by omega]
          · rw [show u = kn' by omega, List.drop_of_length_le (by rw [HI.out.kl]; omega), List.drop_of_length_le (by rw [HI.out.kl]; omega)]
        rw [h2]; exact h1, HA2.out, by omega⟩
      case measure => simp [intOf]; omega
    · have HP : Hid (survAll l keep = P) := by
        have := HI.out.res
        rw [List.drop_of_length_le (by rw [HN.out]; omega)] at this
        unfold Hid; simpa [survAll] using this
      have HRZ := show Hid (RowIs wr _ _ _) from HR1.out.below HI.out.aft HR1.out.lt
      have c0 := HRR.out.cell (j := 0) rfl
      have c2 := HRR.out.cell (j := 2) rfl
      obtain ⟨la, lc, hlv, hlf, hlc, hlz⟩ := HI.out.own.at
      rw [HI.out.pl] at hlv hlc
      subst hlv
      have HLV : Hid (FilesAt wr la P ∧ j ≤ lc ∧ (la = none → lc = 0)) := ⟨hlf, hlc, hlz⟩
      have HOW : Hid (OwnFl wr w0.heap.size (.slice la j lc) P) := HI.out.own
      clear hlf hlc hlz
      go_wp2_with (refine wpList_store_row rfl 27 (.tmp 4) (.tmp 48) rfl (w.heap.size + 1) _ rfl rfl 27 _ HRZ.out (by kernel_rfl) rfl (by kernel_rfl) ?_)
      have HAX := after_setRow (g := w.heap.size + 1) (After.trans HA0.out HI.out.aft) (Nat.le_succ _) [.int .i64 (S.most : Int), .slice la j lc, .int .i64 (S.steps : Int), .bool false, .int .i64 0, .bool false, .bool false].toArray
      refine bodyPost_ret (ret27 Try.results20 _ _ (w.heap.size + 1) [.int .i64 (S.most : Int), .slice la j lc, .int .i64 (S.steps : Int), .bool false, .int .i64 0, .bool false, .bool false] rfl (RowIs.setRow HRZ.out _) rfl) rfl ⟨_, rfl, ?_, HAX⟩
      rw [HST.out, HP.out]
      refine ⟨la, lc, false, 0, false, ?_, ?_, ?_, fun _ => ⟨rfl, rfl, rfl⟩, by omega, HLV.out.2.2⟩
      · simp only [rV, HI.out.pl]; rfl
      · exact OwnFl.files (HOW.out.same (fun k hk => Go.setRow_other _ _ _ _ (by have := (HOW.out.lt k hk).1; have := HS0.out; omega)))
      · simp only [HI.out.pl]; exact HLV.out.2.1
end Go.Proofs.Ytlbodickflljfaa
