/-
  THE WALKS OF frame.Scan AND OF ref.Scan.
-/
import Derived.Test.YtjmjianilcdphaaScanPlain
namespace Go.Proofs.Ytjmjianilcdphaa
open Go.RowKit Leb
theorem info33 : (Try.prog.info? 33).map (fun i => (i.zero, i.size, i.bytes)) = some (some (.agg #[.int .u8 0, .slice none 0 0]), 2, 32) := by kernel_rfl
theorem info36 : (Try.prog.info? 36).map (fun i => (i.zero, i.size, i.bytes)) = some (some (.agg #[.int .u8 0, .slice none 0 0]), 2, 32) := by kernel_rfl
theorem two_cells (w : World) (t : TypeId) (a b : Value) : (w.alloc (.cells #[a, b] t)).cell? ((⟨w.heap.size, 0, none⟩ : Addr).add 0) = some a ∧ (w.alloc (.cells #[a, b] t)).cell? ((⟨w.heap.size, 0, none⟩ : Addr).add 1) = some b := by
  have h : RowIs (w.alloc (.cells #[a, b] t)) w.heap.size t [a, b] := RowIs.new w t [a, b]
  rw [Addr.add_mid, Addr.add_mid]
  exact ⟨h.cell rfl, h.cell rfl⟩
theorem two_cells' (w : World) (ob : Obj) (t : TypeId) (a b : Value) : ((w.alloc ob).alloc (.cells #[a, b] t)).cell? ((⟨w.heap.size + 1, 0, none⟩ : Addr).add 0) = some a ∧ ((w.alloc ob).alloc (.cells #[a, b] t)).cell? ((⟨w.heap.size + 1, 0, none⟩ : Addr).add 1) = some b := by
  have h := two_cells (w.alloc ob) t a b
  have e : (w.alloc ob).heap.size = w.heap.size + 1 := by simp
  rwa [e] at h
/-- What Scan tells, of either program. -/
def SPost (te : TypeId) (w : World) (R : List (UInt8 × List UInt8) × Nat × Nat) (x : Ending) (w' : World) : Prop :=
  ∃ v, x = .returned (.tuple #[v, .int .i64 (R.2.1 : Int), .int .i64 (R.2.2 : Int)]) ∧ OwnF te w' w.heap.size v R.1 ∧ After w w'
theorem scF_none {f : Nat} {bs : List UInt8} (h : opE bs = 22) : scF f bs = ([], 0, 0) := by
  cases f with
  | zero => rfl
  | succ f => unfold scF; rw [if_pos h]
theorem scF_bad {f : Nat} {bs : List UInt8} (h1 : opE bs ≠ 22) (h2 : opE bs ≠ 0) : scF (f + 1) bs = ([], 0, opE bs) := by
  rw [scF, if_neg h1, if_neg h2]
theorem scF_next {f : Nat} {bs : List UInt8} (h2 : opE bs = 0) : scF (f + 1) bs = ((opKind bs, opBody bs) :: (scF f (bs.drop (opUsed bs))).1, opUsed bs + (scF f (bs.drop (opUsed bs))).2.1, (scF f (bs.drop (opUsed bs))).2.2) := by
  rw [scF, if_neg (by omega), if_pos h2]
/-- F frames have been read, up to place p. -/
structure Sc (bs : List UInt8) (F : List (UInt8 × List UInt8)) (p : Nat) : Prop where
  le : p ≤ bs.length
  few : F.length ≤ p
  all : ∃ f, bs.length - p < f ∧ scan bs = (F ++ (scF f (bs.drop p)).1, p + (scF f (bs.drop p)).2.1, (scF f (bs.drop p)).2.2)
theorem Sc.start (bs : List UInt8) : Sc bs [] 0 := ⟨Nat.zero_le _, Nat.le_refl _, bs.length + 1, by omega, by unfold scan; simp⟩
theorem Sc.none {bs : List UInt8} {F : List (UInt8 × List UInt8)} {p : Nat} (h : Sc bs F p) (he : opE (bs.drop p) = 22) : scan bs = (F, p, 0) := by
  obtain ⟨_, _, f, _, e⟩ := h
  rw [e, scF_none he]
  simp
theorem Sc.bad {bs : List UInt8} {F : List (UInt8 × List UInt8)} {p : Nat} (h : Sc bs F p) (h1 : opE (bs.drop p) ≠ 22) (h2 : opE (bs.drop p) ≠ 0) : scan bs = (F, p, opE (bs.drop p)) := by
  obtain ⟨_, _, f, hf, e⟩ := h
  obtain ⟨f, rfl⟩ : ∃ g, f = g + 1 := ⟨f - 1, by omega⟩
  rw [e, scF_bad h1 h2]
  simp
theorem Sc.next {bs : List UInt8} {F : List (UInt8 × List UInt8)} {p : Nat} (h : Sc bs F p) (h2 : opE (bs.drop p) = 0) : Sc bs (F ++ [(opKind (bs.drop p), opBody (bs.drop p))]) (p + opUsed (bs.drop p)) := by
  obtain ⟨h1, hF, f, hf, e⟩ := h
  obtain ⟨f, rfl⟩ : ∃ g, f = g + 1 := ⟨f - 1, by omega⟩
  have hu := opUsed_pos _ h2
  rw [List.length_drop] at hu
  refine ⟨by omega, by simp; omega, f, by omega, ?_⟩
  rw [e, scF_next h2, List.drop_drop]
  simp [Nat.add_assoc]

set_option maxRecDepth 100000 in
set_option maxHeartbeats 1600000 in
theorem scan_any (ao : Option Addr) (cap : Nat) (bs : List UInt8) (hcap : bs.length ≤ cap) (hbig : bs.length ≤ 4194304) (w : World) (hat : BytesAt w ao bs) (hz : ao = none → bs.length = 0) : Calls Try.prog 16 #[.slice ao bs.length cap] w (SPost 33 w (scan bs)) := by
  have HAT : Hid (BytesAt w ao bs) := hat
  have HZ : Hid (ao = none → bs.length = 0) := hz
  obtain ⟨n, hn⟩ : ∃ n, bs.length = n := ⟨_, rfl⟩
  have HN : Hid (bs.length = n) := hn
  have COP : Hid (∀ (W : World) (p : Nat), After w W → p ≤ n → Calls Try.prog 14 #[.slice (cutAt ao p cap) (n - p) (cap - p)] W (OPost W (bs.drop p))) := fun W p hW hp => by
    have := open_any (cutAt ao p cap) (cap - p) (bs.drop p) (by rw [List.length_drop]; omega) (by rw [List.length_drop]; omega) W ((hat.cut p cap hcap).after hW)
    rwa [List.length_drop, hn] at this
  rw [hn] at hcap hbig HZ ⊢
  clear hat hz hn
  go_enter Try.func16, Try.ntmps16
  go_wp2
  go_loopw [2, 3] (fun v i wr => ∃ (p : Nat) (F : List (UInt8 × List UInt8)), i = .int .i64 p ∧ Hid (Sc bs F p) ∧ Hid (OwnF 33 wr w.heap.size v F) ∧ Hid (After w wr)) (fun _ i _ => n - (intOf i).toNat)
  case atStart => exact ⟨0, [], rfl, Sc.start bs, OwnF.nil _ _ _, After.refl _⟩
  case round =>
    obtain ⟨p, F, rfl, HS, HO, HA⟩ := hrel
    have hp : p ≤ n := by have := HS.out.le; rwa [HN.out] at this
    have hFp : F.length ≤ 4194304 := by have := HS.out.few; omega
    have hsl := fun W => slice_from ao n cap p HZ.out hcap hp W
    have C14 := show Hid _ from COP.out wr p HA.out hp
    unfold OPost at C14
    have HDL : Hid ((bs.drop p).length = n - p) := by unfold Hid; rw [List.length_drop, HN.out]
    have HUP := show Hid _ from opUsed_pos (bs.drop p)
    have HS1 := show Hid _ from HS.out.none
    have HS2 := show Hid _ from HS.out.bad
    have HS3 := show Hid _ from HS.out.next
    obtain ⟨D, hD⟩ : ∃ D, opBody (bs.drop p) = D := ⟨_, rfl⟩
    obtain ⟨E, hE⟩ : ∃ D, opE (bs.drop p) = D := ⟨_, rfl⟩
    obtain ⟨U, hU⟩ : ∃ D, opUsed (bs.drop p) = D := ⟨_, rfl⟩
    obtain ⟨k, hk⟩ : ∃ D, opKind (bs.drop p) = D := ⟨_, rfl⟩
    simp only [hD, hE, hU, hk] at C14 HUP HS1 HS2 HS3
    obtain ⟨L, hL⟩ : ∃ L, D.length = L := ⟨_, rfl⟩
    have HL : Hid (D.length = L) := hL
    clear hD hE hU hk hL
    by_cases hE22 : E = 22
    · subst hE22
      have HT : Hid (scan bs = (F, p, 0)) := HS1.out rfl
      go_wp2_with (go_at_call 14; refine Calls.mono C14.out ?_; rintro e w2 ⟨v2, rfl, ho2, hb2⟩; obtain ⟨a2, c2, hv2, _, _, _⟩ := Own.at ho2; rw [HL.out] at hv2; subst hv2; have B2 : Hid (After wr w2) := hb2; clear ho2 hb2)
      go_ret3
      rw [HT.out]
      exact ⟨_, rfl, HO.out.below (After.trans B2.out (after_alloc (After.refl w2) _)), After.trans HA.out (After.trans B2.out (after_alloc (After.refl w2) _))⟩
    · by_cases hE0 : E = 0
      · subst hE0
        have hUb := HUP.out rfl
        rw [HDL.out] at hUb
        have HN3 := show Hid _ from HS3.out rfl
        go_wp2_with (first
          | (go_at_call 14; refine Calls.mono C14.out ?_; rintro e w2 ⟨v2, rfl, ho2, hb2⟩; obtain ⟨a2, c2, hv2, _, _, _⟩ := Own.at ho2; rw [HL.out] at hv2; subst hv2; have HO2 : Hid (Own w2 wr.heap.size (.slice a2 L c2) D) := ho2; have B2 : Hid (After wr w2) := hb2; clear ho2 hb2)
          | (at_builtin; refine wpList_append_frame 33 40 Try.underlying40 info33 (by decide) rfl _ _ rfl w.heap.size _ F rfl (HO.out.below (After.trans B2.out (after_alloc (after_alloc (After.refl w2) _) _))) ⟨w2.heap.size + 1, 0, none⟩ 1 k (.slice a2 L c2) D (Own.mono (Own.below HO2.out (after_alloc (after_alloc (After.refl w2) _) _) (Nat.le_refl _)) HA.out.size) rfl (two_cells' w2 _ _ _ _).1 (two_cells' w2 _ _ _ _).2 (by omega) (by have := HA.out.size; have := B2.out.size; simp; omega) ?_; intro v3 w3 ho3 hg3; have HO3 : Hid (OwnF 33 w3 w.heap.size v3 (F ++ [(k, D)])) := ho3; have B3 : Hid (After w w3) := after_grown (After.trans HA.out (After.trans B2.out (after_alloc (after_alloc (After.refl w2) _) _))) hg3 (Nat.le_refl _) (fun k hk => (HO.out.lt k hk).1); clear ho3 hg3))
        go_roundw
        case rel => exact ⟨p + U, F ++ [(k, D)], by go_num, HN3.out, HO3.out, B3.out⟩
        case measure => simp [intOf]; omega
      · have HT : Hid (scan bs = (F, p, E)) := HS2.out hE22 hE0
        go_wp2_with (go_at_call 14; refine Calls.mono C14.out ?_; rintro e w2 ⟨v2, rfl, ho2, hb2⟩; obtain ⟨a2, c2, hv2, _, _, _⟩ := Own.at ho2; rw [HL.out] at hv2; subst hv2; have B2 : Hid (After wr w2) := hb2; clear ho2 hb2)
        go_ret3
        rw [HT.out]
        exact ⟨_, rfl, HO.out.below (After.trans B2.out (after_alloc (After.refl w2) _)), After.trans HA.out (After.trans B2.out (after_alloc (After.refl w2) _))⟩

set_option maxRecDepth 100000 in
set_option maxHeartbeats 1600000 in
theorem rscan_any (ao : Option Addr) (cap : Nat) (bs : List UInt8) (hcap : bs.length ≤ cap) (hbig : bs.length ≤ 4194304) (w : World) (hat : BytesAt w ao bs) (hz : ao = none → bs.length = 0) : Calls Try.prog 17 #[.slice ao bs.length cap] w (SPost 36 w (scan bs)) := by
  have HAT : Hid (BytesAt w ao bs) := hat
  have HZ : Hid (ao = none → bs.length = 0) := hz
  obtain ⟨n, hn⟩ : ∃ n, bs.length = n := ⟨_, rfl⟩
  have HN : Hid (bs.length = n) := hn
  have COP : Hid (∀ (W : World) (p : Nat), After w W → p ≤ n → Calls Try.prog 15 #[.slice (cutAt ao p cap) (n - p) (cap - p)] W (OPost W (bs.drop p))) := fun W p hW hp => by
    have := ropen_any (cutAt ao p cap) (cap - p) (bs.drop p) (by rw [List.length_drop]; omega) (by rw [List.length_drop]; omega) W ((hat.cut p cap hcap).after hW)
    rwa [List.length_drop, hn] at this
  rw [hn] at hcap hbig HZ ⊢
  clear hat hz hn
  go_enter Try.func17, Try.ntmps17
  go_wp2
  go_loopw [5, 6] (fun v i wr => ∃ (p : Nat) (F : List (UInt8 × List UInt8)), i = .int .i64 p ∧ Hid (Sc bs F p) ∧ Hid (OwnF 36 wr w.heap.size v F) ∧ Hid (After w wr)) (fun _ i _ => n - (intOf i).toNat)
  case atStart => exact ⟨0, [], rfl, Sc.start bs, OwnF.nil _ _ _, After.refl _⟩
  case round =>
    obtain ⟨p, F, rfl, HS, HO, HA⟩ := hrel
    have hp : p ≤ n := by have := HS.out.le; rwa [HN.out] at this
    have hFp : F.length ≤ 4194304 := by have := HS.out.few; omega
    have hsl := fun W => slice_from ao n cap p HZ.out hcap hp W
    have C14 := show Hid _ from COP.out wr p HA.out hp
    unfold OPost at C14
    have HDL : Hid ((bs.drop p).length = n - p) := by unfold Hid; rw [List.length_drop, HN.out]
    have HUP := show Hid _ from opUsed_pos (bs.drop p)
    have HS1 := show Hid _ from HS.out.none
    have HS2 := show Hid _ from HS.out.bad
    have HS3 := show Hid _ from HS.out.next
    obtain ⟨D, hD⟩ : ∃ D, opBody (bs.drop p) = D := ⟨_, rfl⟩
    obtain ⟨E, hE⟩ : ∃ D, opE (bs.drop p) = D := ⟨_, rfl⟩
    obtain ⟨U, hU⟩ : ∃ D, opUsed (bs.drop p) = D := ⟨_, rfl⟩
    obtain ⟨k, hk⟩ : ∃ D, opKind (bs.drop p) = D := ⟨_, rfl⟩
    simp only [hD, hE, hU, hk] at C14 HUP HS1 HS2 HS3
    obtain ⟨L, hL⟩ : ∃ L, D.length = L := ⟨_, rfl⟩
    have HL : Hid (D.length = L) := hL
    clear hD hE hU hk hL
    by_cases hE22 : E = 22
    · subst hE22
      have HT : Hid (scan bs = (F, p, 0)) := HS1.out rfl
      go_wp2_with (go_at_call 15; refine Calls.mono C14.out ?_; rintro e w2 ⟨v2, rfl, ho2, hb2⟩; obtain ⟨a2, c2, hv2, _, _, _⟩ := Own.at ho2; rw [HL.out] at hv2; subst hv2; have B2 : Hid (After wr w2) := hb2; clear ho2 hb2)
      go_ret3
      rw [HT.out]
      exact ⟨_, rfl, HO.out.below (After.trans B2.out (after_alloc (After.refl w2) _)), After.trans HA.out (After.trans B2.out (after_alloc (After.refl w2) _))⟩
    · by_cases hE0 : E = 0
      · subst hE0
        have hUb := HUP.out rfl
        rw [HDL.out] at hUb
        have HN3 := show Hid _ from HS3.out rfl
        go_wp2_with (first
          | (go_at_call 15; refine Calls.mono C14.out ?_; rintro e w2 ⟨v2, rfl, ho2, hb2⟩; obtain ⟨a2, c2, hv2, _, _, _⟩ := Own.at ho2; rw [HL.out] at hv2; subst hv2; have HO2 : Hid (Own w2 wr.heap.size (.slice a2 L c2) D) := ho2; have B2 : Hid (After wr w2) := hb2; clear ho2 hb2)
          | (at_builtin; refine wpList_append_frame 36 43 Try.underlying43 info36 (by decide) rfl _ _ rfl w.heap.size _ F rfl (HO.out.below (After.trans B2.out (after_alloc (after_alloc (After.refl w2) _) _))) ⟨w2.heap.size + 1, 0, none⟩ 1 k (.slice a2 L c2) D (Own.mono (Own.below HO2.out (after_alloc (after_alloc (After.refl w2) _) _) (Nat.le_refl _)) HA.out.size) rfl (two_cells' w2 _ _ _ _).1 (two_cells' w2 _ _ _ _).2 (by omega) (by have := HA.out.size; have := B2.out.size; simp; omega) ?_; intro v3 w3 ho3 hg3; have HO3 : Hid (OwnF 36 w3 w.heap.size v3 (F ++ [(k, D)])) := ho3; have B3 : Hid (After w w3) := after_grown (After.trans HA.out (After.trans B2.out (after_alloc (after_alloc (After.refl w2) _) _))) hg3 (Nat.le_refl _) (fun k hk => (HO.out.lt k hk).1); clear ho3 hg3))
        go_roundw
        case rel => exact ⟨p + U, F ++ [(k, D)], by go_num, HN3.out, HO3.out, B3.out⟩
        case measure => simp [intOf]; omega
      · have HT : Hid (scan bs = (F, p, E)) := HS2.out hE22 hE0
        go_wp2_with (go_at_call 15; refine Calls.mono C14.out ?_; rintro e w2 ⟨v2, rfl, ho2, hb2⟩; obtain ⟨a2, c2, hv2, _, _, _⟩ := Own.at ho2; rw [HL.out] at hv2; subst hv2; have B2 : Hid (After wr w2) := hb2; clear ho2 hb2)
        go_ret3
        rw [HT.out]
        exact ⟨_, rfl, HO.out.below (After.trans B2.out (after_alloc (After.refl w2) _)), After.trans HA.out (After.trans B2.out (after_alloc (After.refl w2) _))⟩

end Go.Proofs.Ytjmjianilcdphaa