/-
  THE WALK OF stemmalaw03.ColumnFlags.
-/
import Derived.Test.YtjmflggnnchojaaFlagsPut
import Derived.Test.YtjmflggnnchojaaFlagsBack
import Derived.Test.YtjmflggnnchojaaOnlyWalk
namespace Go.Proofs.Ytjmflggnnchojaa
open Go.RowKit Leb
set_option maxRecDepth 100000 in
set_option maxHeartbeats 1600000 in
theorem flags_ok (ao bo : Option Addr) (cap bc : Nat) (l : List Bool) (t R : List UInt8) (L T : Nat) (hn : l.length ≤ 1048576) (hshort : l.length ≤ 65536) (w : World) (hI : BoolsAt w ao l) (hTT : BytesAt w bo t) (hL : R.length = L) (hT : t.length = T) (bL : L ≤ 30000000) (bT : T ≤ 1048576)
    (c16 : Calls Try.prog 16 #[.slice ao l.length cap] w fun e W' => ∃ v, e = .returned v ∧ Own W' w.heap.size v R ∧ After w W')
    (c17 : ∀ W, BoolsAt W ao l → Calls Try.prog 17 #[.slice ao l.length cap] W fun e W' => ∃ v, e = .returned v ∧ Own W' W.heap.size v R ∧ After W W')
    (c18 : ∀ a c W, BytesAt W a (R ++ t) → Calls Try.prog 18 #[.slice a (L + T) c, .int .i64 (l.length : Int)] W fun x w' => GPostB W (l, L, 0) x w') :
    Calls Try.prog 4 #[.slice ao l.length cap, .slice bo T bc] w fun e w' => e = .returned (.bool true) ∧ Below w.heap.size w w' := by
  have HI : Hid (BoolsAt w ao l) := hI
  have HTT : Hid (BytesAt w bo t) := hTT
  have HL : Hid (R.length = L) := hL
  have HT : Hid (t.length = T) := hT
  have C16 := show Hid _ from c16
  have C17 := show Hid _ from c17
  have C18 := show Hid _ from c18
  clear hI hTT c16 c17 c18
  go_enter Try.func4, Try.ntmps4
  go_wp2_with (go_at_call 16; refine Calls.mono C16.out ?_; rintro x w1 ⟨v1, rfl, ho1, hb1⟩; have HO1 : Hid (Own w1 w.heap.size v1 R) := ho1; have B1 : Hid (After w w1) := hb1; obtain ⟨a1, c1, hv1, hat1, _, _⟩ := Own.at ho1; rw [HL.out] at hv1; subst hv1; have HT1 : Hid (BytesAt w1 a1 R) := hat1; clear ho1 hb1 hat1)
  refine wp_region_noPanic ?_
  refine wp_region_held_drew (S := After w1) (by kernel_rfl) (After.drew (After.refl w1)) ?_
  intro hS0
  refine tk 0 11 (.slice a1 L c1) (fuel := 5) rfl (by kernel_rfl) (by kernel_rfl) (by kernel_rfl) (by kernel_rfl) noPanic_false (by kernel_rfl) (fun _ _ => by kernel_rfl) hS0 ?_
  refine tk 1 12 (.string (strOf R)) (fuel := 4) rfl (by kernel_rfl) (by kernel_rfl) (by kernel_rfl) (by kernel_rfl) noPanic_false (by kernel_rfl) (fun W hW => x_conv (x := .tmp 11) (by kernel_rfl) (by kernel_rfl) (Own.convA HO1.out hW)) hS0 ?_
  refine tk 2 13 (.slice ao l.length cap) (fuel := 3) rfl (by kernel_rfl) (by kernel_rfl) (by kernel_rfl) (by kernel_rfl) noPanic_false (by kernel_rfl) (fun _ _ => by kernel_rfl) hS0 ?_
  refine tkCall 3 14 17 #[.slice ao l.length cap] _ (fuel := 2) rfl (by kernel_rfl) (by kernel_rfl) (by kernel_rfl) (fun _ => by kernel_rfl) hS0 (C17.out _ (HI.out.after (After.trans B1.out hS0))) ?_
  intro v2 w2 r2 s2
  refine tk 4 15 (.string (strOf R)) (fuel := 1) rfl (by kernel_rfl) (by kernel_rfl) (by kernel_rfl) (by kernel_rfl) noPanic_false (by kernel_rfl) (fun W hW => x_conv (x := .tmp 14) (by kernel_rfl) (by kernel_rfl) (Own.convA r2 hW)) (After.refl w2) ?_
  refine tk 5 16 (.bool false) (fuel := 0) rfl (by kernel_rfl) (by kernel_rfl) (by kernel_rfl) (by kernel_rfl) noPanic_false (by kernel_rfl) (fun _ _ => x_streqf (x := .tmp 12) (y := .tmp 15) (s := strOf R) (t := strOf R) (by kernel_rfl) (by kernel_rfl) (by kernel_rfl) rfl) (After.refl w2) ?_
  refine wpAnyH_done (by kernel_rfl) (NoPanic.normal ?_) _
  go_simp
  have B2 : Hid (After w w2) := After.trans (After.trans B1.out hS0) s2
  have HT2 : Hid (BytesAt w2 a1 R) := HT1.out.after (After.trans hS0 s2)
  clear r2 s2 hS0
  go_wp2_with (first
    | (at_builtin; refine wpList_append_any rfl (.tmp 18) (.tmp 19) rfl w2.heap.size _ [] rfl (Own.fresh w2) a1 c1 R L HL.out rfl (HT2.out.after (after_alloc (After.refl w2) _)) (by simp; omega) (by simp) ?_; intro v3 w3 ho3 hg3; rw [List.nil_append] at ho3; have HO3 : Hid (Own w3 w2.heap.size v3 R) := ho3; have A23 : Hid (After w2 w3) := after_grown (after_alloc (After.refl w2) _) hg3 (Nat.le_refl _) (fun k hk => (World.ownsRow.lt (Own.fresh w2) k hk).1); clear ho3 hg3)
    | (at_builtin; refine wpList_append_any rfl (.tmp 20) (.tmp 21) rfl w2.heap.size _ R rfl HO3.out bo bc t T HT.out rfl (HTT.out.after (After.trans B2.out A23.out)) (by omega) A23.out.size ?_; intro v4 w4 ho4 hg4; have A24 : Hid (After w2 w4) := after_grown A23.out hg4 (Nat.le_refl _) (fun k hk => (World.ownsRow.lt HO3.out k hk).1); obtain ⟨a4, c4, hv4, hat4, _, _⟩ := Own.at ho4; rw [List.length_append, HL.out, HT.out] at hv4; subst hv4; have HT4 : Hid (BytesAt w4 a4 (R ++ t)) := hat4; clear ho4 hg4 hat4)
    | (go_at_call 18; refine (C18.out a4 c4 w4 HT4.out).mono ?_; rintro x w5 ⟨v5, rfl, ho5, hb5⟩; obtain ⟨a5, c5, hv5, hI5, _, _⟩ := OwnB.at ho5; subst hv5; have HI5 : Hid (BoolsAt w5 a5 l) := hI5; have B5 : Hid (After w w5) := After.trans B2.out (After.trans A24.out hb5); have HI0 : Hid (BoolsAt w5 ao l) := HI.out.after B5.out; clear ho5 hb5 hI5)
    | (go_at_call 19; refine (alike_any a5 ao c5 cap l l (by omega) _ HI5.out HI0.out).mono ?_; rintro x w6 ⟨rfl, hb6⟩; have B6 : Hid (After w w6) := After.trans B5.out hb6; clear hb6; simp only [decide_true])
    | (go_at_call 15; refine (awake_any _).mono ?_; rintro x w11 ⟨rfl, hb11⟩; have B11 : Hid (After w w11) := After.trans B6.out hb11; clear hb11))
  all_goals
    go_ret
    exact ⟨rfl, B11.out⟩
set_option maxRecDepth 100000 in
set_option maxHeartbeats 1600000 in
theorem flags_long (ao bo : Option Addr) (cap bc : Nat) (l : List Bool) (t R : List UInt8) (L T : Nat) (hn : l.length ≤ 1048576) (hlong : 65536 < l.length) (w : World) (hI : BoolsAt w ao l) (hTT : BytesAt w bo t) (hL : R.length = L) (hT : t.length = T) (bL : L ≤ 30000000) (bT : T ≤ 1048576)
    (c16 : Calls Try.prog 16 #[.slice ao l.length cap] w fun e W' => ∃ v, e = .returned v ∧ Own W' w.heap.size v R ∧ After w W')
    (c17 : ∀ W, BoolsAt W ao l → Calls Try.prog 17 #[.slice ao l.length cap] W fun e W' => ∃ v, e = .returned v ∧ Own W' W.heap.size v R ∧ After W W')
    (c18 : ∀ a c W, BytesAt W a (R ++ t) → Calls Try.prog 18 #[.slice a (L + T) c, .int .i64 (l.length : Int)] W fun x w' => GPostB W (([] : List Bool), 0, 5) x w') :
    Calls Try.prog 4 #[.slice ao l.length cap, .slice bo T bc] w fun e w' => e = .returned (.bool true) ∧ Below w.heap.size w w' := by
  have HI : Hid (BoolsAt w ao l) := hI
  have HTT : Hid (BytesAt w bo t) := hTT
  have HL : Hid (R.length = L) := hL
  have HT : Hid (t.length = T) := hT
  have C16 := show Hid _ from c16
  have C17 := show Hid _ from c17
  have C18 := show Hid _ from c18
  clear hI hTT c16 c17 c18
  go_enter Try.func4, Try.ntmps4
  go_wp2_with (go_at_call 16; refine Calls.mono C16.out ?_; rintro x w1 ⟨v1, rfl, ho1, hb1⟩; have HO1 : Hid (Own w1 w.heap.size v1 R) := ho1; have B1 : Hid (After w w1) := hb1; obtain ⟨a1, c1, hv1, hat1, _, _⟩ := Own.at ho1; rw [HL.out] at hv1; subst hv1; have HT1 : Hid (BytesAt w1 a1 R) := hat1; clear ho1 hb1 hat1)
  refine wp_region_noPanic ?_
  refine wp_region_held_drew (S := After w1) (by kernel_rfl) (After.drew (After.refl w1)) ?_
  intro hS0
  refine tk 0 11 (.slice a1 L c1) (fuel := 5) rfl (by kernel_rfl) (by kernel_rfl) (by kernel_rfl) (by kernel_rfl) noPanic_false (by kernel_rfl) (fun _ _ => by kernel_rfl) hS0 ?_
  refine tk 1 12 (.string (strOf R)) (fuel := 4) rfl (by kernel_rfl) (by kernel_rfl) (by kernel_rfl) (by kernel_rfl) noPanic_false (by kernel_rfl) (fun W hW => x_conv (x := .tmp 11) (by kernel_rfl) (by kernel_rfl) (Own.convA HO1.out hW)) hS0 ?_
  refine tk 2 13 (.slice ao l.length cap) (fuel := 3) rfl (by kernel_rfl) (by kernel_rfl) (by kernel_rfl) (by kernel_rfl) noPanic_false (by kernel_rfl) (fun _ _ => by kernel_rfl) hS0 ?_
  refine tkCall 3 14 17 #[.slice ao l.length cap] _ (fuel := 2) rfl (by kernel_rfl) (by kernel_rfl) (by kernel_rfl) (fun _ => by kernel_rfl) hS0 (C17.out _ (HI.out.after (After.trans B1.out hS0))) ?_
  intro v2 w2 r2 s2
  refine tk 4 15 (.string (strOf R)) (fuel := 1) rfl (by kernel_rfl) (by kernel_rfl) (by kernel_rfl) (by kernel_rfl) noPanic_false (by kernel_rfl) (fun W hW => x_conv (x := .tmp 14) (by kernel_rfl) (by kernel_rfl) (Own.convA r2 hW)) (After.refl w2) ?_
  refine tk 5 16 (.bool false) (fuel := 0) rfl (by kernel_rfl) (by kernel_rfl) (by kernel_rfl) (by kernel_rfl) noPanic_false (by kernel_rfl) (fun _ _ => x_streqf (x := .tmp 12) (y := .tmp 15) (s := strOf R) (t := strOf R) (by kernel_rfl) (by kernel_rfl) (by kernel_rfl) rfl) (After.refl w2) ?_
  refine wpAnyH_done (by kernel_rfl) (NoPanic.normal ?_) _
  go_simp
  have B2 : Hid (After w w2) := After.trans (After.trans B1.out hS0) s2
  have HT2 : Hid (BytesAt w2 a1 R) := HT1.out.after (After.trans hS0 s2)
  clear r2 s2 hS0
  go_wp2_with (first
    | (at_builtin; refine wpList_append_any rfl (.tmp 18) (.tmp 19) rfl w2.heap.size _ [] rfl (Own.fresh w2) a1 c1 R L HL.out rfl (HT2.out.after (after_alloc (After.refl w2) _)) (by simp; omega) (by simp) ?_; intro v3 w3 ho3 hg3; rw [List.nil_append] at ho3; have HO3 : Hid (Own w3 w2.heap.size v3 R) := ho3; have A23 : Hid (After w2 w3) := after_grown (after_alloc (After.refl w2) _) hg3 (Nat.le_refl _) (fun k hk => (World.ownsRow.lt (Own.fresh w2) k hk).1); clear ho3 hg3)
    | (at_builtin; refine wpList_append_any rfl (.tmp 20) (.tmp 21) rfl w2.heap.size _ R rfl HO3.out bo bc t T HT.out rfl (HTT.out.after (After.trans B2.out A23.out)) (by omega) A23.out.size ?_; intro v4 w4 ho4 hg4; have A24 : Hid (After w2 w4) := after_grown A23.out hg4 (Nat.le_refl _) (fun k hk => (World.ownsRow.lt HO3.out k hk).1); obtain ⟨a4, c4, hv4, hat4, _, _⟩ := Own.at ho4; rw [List.length_append, HL.out, HT.out] at hv4; subst hv4; have HT4 : Hid (BytesAt w4 a4 (R ++ t)) := hat4; clear ho4 hg4 hat4)
    | (go_at_call 18; refine (C18.out a4 c4 w4 HT4.out).mono ?_; rintro x w5 ⟨v5, rfl, ho5, hb5⟩; obtain ⟨a5, c5, hv5, hI5, _, _⟩ := OwnB.at ho5; subst hv5; have HI5 : Hid (BoolsAt w5 a5 ([] : List Bool)) := hI5; have B5 : Hid (After w w5) := After.trans B2.out (After.trans A24.out hb5); have HI0 : Hid (BoolsAt w5 ao l) := HI.out.after B5.out; clear ho5 hb5 hI5)
    | (go_at_call 15; refine (awake_any _).mono ?_; rintro x w11 ⟨rfl, hb11⟩; have B11 : Hid (After w w11) := After.trans B5.out hb11; clear hb11))
  all_goals
    go_ret
    exact ⟨rfl, B11.out⟩
theorem flagsLaw_any (ao bo : Option Addr) (cap bc : Nat) (l : List Bool) (t : List UInt8) (hn : l.length ≤ 1048575) (ht : t.length ≤ 1048576) (w : World) (hI : BoolsAt w ao l) (hT : BytesAt w bo t) :
    Calls Try.prog 4 #[.slice ao l.length cap, .slice bo t.length bc] w fun e w' => e = .returned (.bool true) ∧ Below w.heap.size w w' := by
  have hlt : ∀ a, ao = some a → l ≠ [] → a.block < w.heap.size := fun a ha hne => by
    obtain ⟨b, o, he, hc⟩ := hI hne
    rw [he] at ha
    cases ha
    exact block_lt_of_cell (hc 0 (List.length_pos_iff.2 hne))
  have c16 := flags_any ao cap l (by omega) w hI hlt
  have c17 := fun W (h : BoolsAt W ao l) => putFlags_any ao cap l (by omega) W h
  have bL : (flagsB l).length ≤ 30000000 := by
    have h1 := flagLens_le _ l rfl
    have h2 := laidU_len (flagLens l) (fun n hn' => by have := flagLens_mem l n hn'; omega)
    have h3 := uintB_len10 (flagLens l).length (by omega)
    unfold flagsB
    rw [List.length_append]
    omega
  have g18 := fun a c W (h : BytesAt W a (flagsB l ++ t)) => getFlags_any a c (flagsB l ++ t) (by rw [List.length_append]; omega) (l.length : Int) (by omega) (by omega) W h
  simp only [List.length_append] at g18
  by_cases hle : l.length ≤ 65536
  · refine flags_ok ao bo cap bc l t _ _ _ (by omega) hle w hI hT rfl rfl bL ht c16 c17 (fun a c W h => ?_)
    have := g18 a c W h
    rw [getF_back l t _ (by unfold clampM; split <;> (try split) <;> omega)] at this
    exact this
  · refine flags_long ao bo cap bc l t _ _ _ (by omega) (by omega) w hI hT rfl rfl bL ht c16 c17 (fun a c W h => ?_)
    have := g18 a c W h
    rw [getF_long l t _ (by unfold clampM; split <;> (try split) <;> omega) (by omega)] at this
    exact this
end Go.Proofs.Ytjmflggnnchojaa

