/-
  THE WALK OF stemmalaw03.ColumnBack.
-/
import Derived.Test.YtjmflggnnchojaaLongMath
import Derived.Test.YtjmflggnnchojaaAwake
namespace Go.Proofs.Ytjmflggnnchojaa
open Go.RowKit Leb
set_option maxRecDepth 100000 in
set_option maxHeartbeats 1600000 in
theorem back_ok (ao bo : Option Addr) (cap bc : Nat) (l : List Int) (t R1 R2 : List UInt8) (L1 L2 T : Nat) (most : Int) (hn : l.length ≤ 1048575) (hle : (l.length : Int) ≤ most) (hle2 : l.length ≤ 65536) (w : World) (hI : IntsAt w ao l) (hTT : BytesAt w bo t) (hL1 : R1.length = L1) (hL2 : R2.length = L2) (hT : t.length = T) (b1 : L1 ≤ 30000000) (b2 : L2 ≤ 30000000) (b3 : T ≤ 1048576)
    (c10 : Calls Try.prog 10 #[.slice ao l.length cap] w fun e W' => ∃ v, e = .returned v ∧ Own W' w.heap.size v R1 ∧ After w W')
    (c12 : ∀ W, IntsAt W ao l → Calls Try.prog 12 #[.slice ao l.length cap] W fun e W' => ∃ v, e = .returned v ∧ Own W' W.heap.size v R2 ∧ After W W')
    (c20 : ∀ a c W, BytesAt W a (R1 ++ t) → Calls Try.prog 20 #[.slice a (L1 + T) c, .int .i64 most] W fun x w' => GPost W (l, L1, 0) x w')
    (c22 : ∀ a c W, BytesAt W a (R2 ++ t) → Calls Try.prog 22 #[.slice a (L2 + T) c, .int .i64 most] W fun x w' => GPost W (l, L2, 0) x w') :
    Calls Try.prog 7 #[.slice ao l.length cap, .slice bo T bc, .int .i64 most] w fun e w' => e = .returned (.bool true) ∧ Below w.heap.size w w' := by
  have HI : Hid (IntsAt w ao l) := hI
  have HTT : Hid (BytesAt w bo t) := hTT
  have HL1 : Hid (R1.length = L1) := hL1
  have HL2 : Hid (R2.length = L2) := hL2
  have HT : Hid (t.length = T) := hT
  have C10 := show Hid _ from c10
  have C12 := show Hid _ from c12
  have C20 := show Hid _ from c20
  have C22 := show Hid _ from c22
  clear hI hTT c10 c12 c20 c22
  go_enter Try.func7, Try.ntmps7
  go_wp2_with (first
    | (go_at_call 10; refine Calls.mono C10.out ?_; rintro x w1 ⟨v1, rfl, ho1, hb1⟩; obtain ⟨a1, c1, hv1, hat1, _, _⟩ := Own.at ho1; rw [HL1.out] at hv1; subst hv1; have HT1 : Hid (BytesAt w1 a1 R1) := hat1; have B1 : Hid (After w w1) := hb1; clear ho1 hb1 hat1)
    | (go_at_call 12; refine (C12.out w1 (HI.out.after B1.out)).mono ?_; rintro x w2 ⟨v2, rfl, ho2, hb2⟩; obtain ⟨a2, c2, hv2, hat2, _, _⟩ := Own.at ho2; rw [HL2.out] at hv2; subst hv2; have HT2 : Hid (BytesAt w2 a2 R2) := hat2; have HT12 : Hid (BytesAt w2 a1 R1) := HT1.out.after hb2; have B2 : Hid (After w w2) := After.trans B1.out hb2; clear ho2 hb2 hat2)
    | (at_builtin; refine wpList_append_any rfl (.tmp 20) (.tmp 21) rfl w2.heap.size _ [] rfl (Own.fresh w2) a1 c1 R1 L1 HL1.out rfl (HT12.out.after (after_alloc (After.refl w2) _)) (by simp; omega) (by simp) ?_; intro v3 w3 ho3 hg3; rw [List.nil_append] at ho3; have HO3 : Hid (Own w3 w2.heap.size v3 R1) := ho3; have A23 : Hid (After w2 w3) := after_grown (after_alloc (After.refl w2) _) hg3 (Nat.le_refl _) (fun k hk => (World.ownsRow.lt (Own.fresh w2) k hk).1); clear ho3 hg3)
    | (at_builtin; refine wpList_append_any rfl (.tmp 22) (.tmp 23) rfl w2.heap.size _ R1 rfl HO3.out bo bc t T HT.out rfl (HTT.out.after (After.trans B2.out A23.out)) (by omega) A23.out.size ?_; intro v4 w4 ho4 hg4; have A24 : Hid (After w2 w4) := after_grown A23.out hg4 (Nat.le_refl _) (fun k hk => (World.ownsRow.lt HO3.out k hk).1); obtain ⟨a4, c4, hv4, hat4, _, _⟩ := Own.at ho4; rw [List.length_append, HL1.out, HT.out] at hv4; subst hv4; have HT4 : Hid (BytesAt w4 a4 (R1 ++ t)) := hat4; clear ho4 hg4 hat4)
    | (go_at_call 20; refine (C20.out a4 c4 w4 HT4.out).mono ?_; rintro x w5 ⟨v5, rfl, ho5, hb5⟩; obtain ⟨a5, c5, hv5, hI5, _, _⟩ := OwnI.at ho5; subst hv5; have HI5 : Hid (IntsAt w5 a5 l) := hI5; have A25 : Hid (After w2 w5) := After.trans A24.out hb5; have HT25 : Hid (BytesAt w5 a2 R2) := HT2.out.after A25.out; have B5 : Hid (After w w5) := After.trans B2.out A25.out; clear ho5 hb5 hI5)
    | (at_builtin; refine wpList_append_any rfl (.tmp 31) (.tmp 32) rfl w5.heap.size _ [] rfl (Own.fresh w5) a2 c2 R2 L2 HL2.out rfl (HT25.out.after (after_alloc (After.refl w5) _)) (by simp; omega) (by simp) ?_; intro v6 w6 ho6 hg6; rw [List.nil_append] at ho6; have HO6 : Hid (Own w6 w5.heap.size v6 R2) := ho6; have A56 : Hid (After w5 w6) := after_grown (after_alloc (After.refl w5) _) hg6 (Nat.le_refl _) (fun k hk => (World.ownsRow.lt (Own.fresh w5) k hk).1); clear ho6 hg6)
    | (at_builtin; refine wpList_append_any rfl (.tmp 33) (.tmp 34) rfl w5.heap.size _ R2 rfl HO6.out bo bc t T HT.out rfl (HTT.out.after (After.trans B5.out A56.out)) (by omega) A56.out.size ?_; intro v7 w7 ho7 hg7; have A57 : Hid (After w5 w7) := after_grown A56.out hg7 (Nat.le_refl _) (fun k hk => (World.ownsRow.lt HO6.out k hk).1); obtain ⟨a7, c7, hv7, hat7, _, _⟩ := Own.at ho7; rw [List.length_append, HL2.out, HT.out] at hv7; subst hv7; have HT7 : Hid (BytesAt w7 a7 (R2 ++ t)) := hat7; clear ho7 hg7 hat7)
    | (go_at_call 22; refine (C22.out a7 c7 w7 HT7.out).mono ?_; rintro x w8 ⟨v8, rfl, ho8, hb8⟩; obtain ⟨a8, c8, hv8, hI8, _, _⟩ := OwnI.at ho8; subst hv8; have HI8 : Hid (IntsAt w8 a8 l) := hI8; have A58 : Hid (After w5 w8) := After.trans A57.out hb8; have HI58 : Hid (IntsAt w8 a5 l) := HI5.out.after A58.out; have B8 : Hid (After w w8) := After.trans B5.out A58.out; have HI0 : Hid (IntsAt w8 ao l) := HI.out.after B8.out; clear ho8 hb8 hI8)
    | (go_at_call 14; have _u := HI80.out; clear _u; refine (same_any a8 ao c8 cap l l (by omega) _ HI89.out HI80.out).mono ?_; rintro x w10 ⟨rfl, hb10⟩; have B10 : Hid (After w w10) := After.trans B9.out hb10; clear hb10; simp only [decide_true])
    | (go_at_call 14; refine (same_any a5 ao c5 cap l l (by omega) _ HI58.out HI0.out).mono ?_; rintro x w9 ⟨rfl, hb9⟩; have B9 : Hid (After w w9) := After.trans B8.out hb9; have HI80 : Hid (IntsAt w9 ao l) := HI0.out.after hb9; have HI89 : Hid (IntsAt w9 a8 l) := HI8.out.after hb9; clear hb9; simp only [decide_true])
    | (go_at_call 15; refine (awake_any _).mono ?_; rintro x w11 ⟨rfl, hb11⟩; have B11 : Hid (After w w11) := After.trans B10.out hb11; clear hb11))
  all_goals
    go_ret
    exact ⟨rfl, B11.out⟩
set_option maxRecDepth 100000 in
set_option maxHeartbeats 1600000 in
theorem back_long (ao bo : Option Addr) (cap bc : Nat) (l : List Int) (t R1 R2 : List UInt8) (L1 L2 T : Nat) (most : Int) (hn : l.length ≤ 1048575) (hne : ¬ l.length = 0) (hgt : most < (l.length : Int) ∨ 65536 < l.length) (w : World) (hI : IntsAt w ao l) (hTT : BytesAt w bo t) (hL1 : R1.length = L1) (hL2 : R2.length = L2) (hT : t.length = T) (b1 : L1 ≤ 30000000) (b2 : L2 ≤ 30000000) (b3 : T ≤ 1048576)
    (c10 : Calls Try.prog 10 #[.slice ao l.length cap] w fun e W' => ∃ v, e = .returned v ∧ Own W' w.heap.size v R1 ∧ After w W')
    (c12 : ∀ W, IntsAt W ao l → Calls Try.prog 12 #[.slice ao l.length cap] W fun e W' => ∃ v, e = .returned v ∧ Own W' W.heap.size v R2 ∧ After W W')
    (c20 : ∀ a c W, BytesAt W a (R1 ++ t) → Calls Try.prog 20 #[.slice a (L1 + T) c, .int .i64 most] W fun x w' => GPost W (([] : List Int), 0, 5) x w')
    (c22 : ∀ a c W, BytesAt W a (R2 ++ t) → Calls Try.prog 22 #[.slice a (L2 + T) c, .int .i64 most] W fun x w' => GPost W (([] : List Int), 0, 5) x w') :
    Calls Try.prog 7 #[.slice ao l.length cap, .slice bo T bc, .int .i64 most] w fun e w' => e = .returned (.bool true) ∧ Below w.heap.size w w' := by
  have HI : Hid (IntsAt w ao l) := hI
  have HTT : Hid (BytesAt w bo t) := hTT
  have HL1 : Hid (R1.length = L1) := hL1
  have HL2 : Hid (R2.length = L2) := hL2
  have HT : Hid (t.length = T) := hT
  have C10 := show Hid _ from c10
  have C12 := show Hid _ from c12
  have C20 := show Hid _ from c20
  have C22 := show Hid _ from c22
  clear hI hTT c10 c12 c20 c22
  go_enter Try.func7, Try.ntmps7
  go_wp2_with (first
    | (go_at_call 10; refine Calls.mono C10.out ?_; rintro x w1 ⟨v1, rfl, ho1, hb1⟩; obtain ⟨a1, c1, hv1, hat1, _, _⟩ := Own.at ho1; rw [HL1.out] at hv1; subst hv1; have HT1 : Hid (BytesAt w1 a1 R1) := hat1; have B1 : Hid (After w w1) := hb1; clear ho1 hb1 hat1)
    | (go_at_call 12; refine (C12.out w1 (HI.out.after B1.out)).mono ?_; rintro x w2 ⟨v2, rfl, ho2, hb2⟩; obtain ⟨a2, c2, hv2, hat2, _, _⟩ := Own.at ho2; rw [HL2.out] at hv2; subst hv2; have HT2 : Hid (BytesAt w2 a2 R2) := hat2; have HT12 : Hid (BytesAt w2 a1 R1) := HT1.out.after hb2; have B2 : Hid (After w w2) := After.trans B1.out hb2; clear ho2 hb2 hat2)
    | (at_builtin; refine wpList_append_any rfl (.tmp 20) (.tmp 21) rfl w2.heap.size _ [] rfl (Own.fresh w2) a1 c1 R1 L1 HL1.out rfl (HT12.out.after (after_alloc (After.refl w2) _)) (by simp; omega) (by simp) ?_; intro v3 w3 ho3 hg3; rw [List.nil_append] at ho3; have HO3 : Hid (Own w3 w2.heap.size v3 R1) := ho3; have A23 : Hid (After w2 w3) := after_grown (after_alloc (After.refl w2) _) hg3 (Nat.le_refl _) (fun k hk => (World.ownsRow.lt (Own.fresh w2) k hk).1); clear ho3 hg3)
    | (at_builtin; refine wpList_append_any rfl (.tmp 22) (.tmp 23) rfl w2.heap.size _ R1 rfl HO3.out bo bc t T HT.out rfl (HTT.out.after (After.trans B2.out A23.out)) (by omega) A23.out.size ?_; intro v4 w4 ho4 hg4; have A24 : Hid (After w2 w4) := after_grown A23.out hg4 (Nat.le_refl _) (fun k hk => (World.ownsRow.lt HO3.out k hk).1); obtain ⟨a4, c4, hv4, hat4, _, _⟩ := Own.at ho4; rw [List.length_append, HL1.out, HT.out] at hv4; subst hv4; have HT4 : Hid (BytesAt w4 a4 (R1 ++ t)) := hat4; clear ho4 hg4 hat4)
    | (go_at_call 20; refine (C20.out a4 c4 w4 HT4.out).mono ?_; rintro x w5 ⟨v5, rfl, ho5, hb5⟩; obtain ⟨a5, c5, hv5, hI5, _, _⟩ := OwnI.at ho5; subst hv5; have HI5 : Hid (IntsAt w5 a5 ([] : List Int)) := hI5; have A25 : Hid (After w2 w5) := After.trans A24.out hb5; have HT25 : Hid (BytesAt w5 a2 R2) := HT2.out.after A25.out; have B5 : Hid (After w w5) := After.trans B2.out A25.out; clear ho5 hb5 hI5)
    | (at_builtin; refine wpList_append_any rfl (.tmp 31) (.tmp 32) rfl w5.heap.size _ [] rfl (Own.fresh w5) a2 c2 R2 L2 HL2.out rfl (HT25.out.after (after_alloc (After.refl w5) _)) (by simp; omega) (by simp) ?_; intro v6 w6 ho6 hg6; rw [List.nil_append] at ho6; have HO6 : Hid (Own w6 w5.heap.size v6 R2) := ho6; have A56 : Hid (After w5 w6) := after_grown (after_alloc (After.refl w5) _) hg6 (Nat.le_refl _) (fun k hk => (World.ownsRow.lt (Own.fresh w5) k hk).1); clear ho6 hg6)
    | (at_builtin; refine wpList_append_any rfl (.tmp 33) (.tmp 34) rfl w5.heap.size _ R2 rfl HO6.out bo bc t T HT.out rfl (HTT.out.after (After.trans B5.out A56.out)) (by omega) A56.out.size ?_; intro v7 w7 ho7 hg7; have A57 : Hid (After w5 w7) := after_grown A56.out hg7 (Nat.le_refl _) (fun k hk => (World.ownsRow.lt HO6.out k hk).1); obtain ⟨a7, c7, hv7, hat7, _, _⟩ := Own.at ho7; rw [List.length_append, HL2.out, HT.out] at hv7; subst hv7; have HT7 : Hid (BytesAt w7 a7 (R2 ++ t)) := hat7; clear ho7 hg7 hat7)
    | (go_at_call 22; refine (C22.out a7 c7 w7 HT7.out).mono ?_; rintro x w8 ⟨v8, rfl, ho8, hb8⟩; obtain ⟨a8, c8, hv8, hI8, _, _⟩ := OwnI.at ho8; subst hv8; have HI8 : Hid (IntsAt w8 a8 ([] : List Int)) := hI8; have A58 : Hid (After w5 w8) := After.trans A57.out hb8; have HI58 : Hid (IntsAt w8 a5 ([] : List Int)) := HI5.out.after A58.out; have B8 : Hid (After w w8) := After.trans B5.out A58.out; have HI0 : Hid (IntsAt w8 ao l) := HI.out.after B8.out; clear ho8 hb8 hI8)
    | (go_at_call 15; refine (awake_any _).mono ?_; rintro x w11 ⟨rfl, hb11⟩; have B11 : Hid (After w w11) := After.trans B8.out hb11; clear hb11))
  all_goals
    go_ret
    exact ⟨rfl, B11.out⟩
set_option maxRecDepth 100000 in
set_option maxHeartbeats 1600000 in
theorem back_none (ao bo : Option Addr) (cap bc : Nat) (e : Nat) (t R1 R2 : List UInt8) (L1 L2 T : Nat) (most : Int) (hgt : most < 0) (X Y : List Int) (u v : Nat) (w : World) (hI : IntsAt w ao []) (hTT : BytesAt w bo t) (hL1 : R1.length = L1) (hL2 : R2.length = L2) (hT : t.length = T) (b1 : L1 ≤ 30000000) (b2 : L2 ≤ 30000000) (b3 : T ≤ 1048576)
    (c10 : Calls Try.prog 10 #[.slice ao 0 cap] w fun e W' => ∃ v, e = .returned v ∧ Own W' w.heap.size v R1 ∧ After w W')
    (c12 : ∀ W, IntsAt W ao [] → Calls Try.prog 12 #[.slice ao 0 cap] W fun e W' => ∃ v, e = .returned v ∧ Own W' W.heap.size v R2 ∧ After W W')
    (c20 : ∀ a c W, BytesAt W a (R1 ++ t) → Calls Try.prog 20 #[.slice a (L1 + T) c, .int .i64 most] W fun x w' => GPost W (X, u, e) x w')
    (c22 : ∀ a c W, BytesAt W a (R2 ++ t) → Calls Try.prog 22 #[.slice a (L2 + T) c, .int .i64 most] W fun x w' => GPost W (Y, v, e) x w') :
    Calls Try.prog 7 #[.slice ao 0 cap, .slice bo T bc, .int .i64 most] w fun e w' => e = .returned (.bool true) ∧ Below w.heap.size w w' := by
  have HI : Hid (IntsAt w ao []) := hI
  have HTT : Hid (BytesAt w bo t) := hTT
  have HL1 : Hid (R1.length = L1) := hL1
  have HL2 : Hid (R2.length = L2) := hL2
  have HT : Hid (t.length = T) := hT
  have C10 := show Hid _ from c10
  have C12 := show Hid _ from c12
  have C20 := show Hid _ from c20
  have C22 := show Hid _ from c22
  clear hI hTT c10 c12 c20 c22
  go_enter Try.func7, Try.ntmps7
  go_wp2_with (first
    | (go_at_call 10; refine Calls.mono C10.out ?_; rintro x w1 ⟨v1, rfl, ho1, hb1⟩; obtain ⟨a1, c1, hv1, hat1, _, _⟩ := Own.at ho1; rw [HL1.out] at hv1; subst hv1; have HT1 : Hid (BytesAt w1 a1 R1) := hat1; have B1 : Hid (After w w1) := hb1; clear ho1 hb1 hat1)
    | (go_at_call 12; refine (C12.out w1 (HI.out.after B1.out)).mono ?_; rintro x w2 ⟨v2, rfl, ho2, hb2⟩; obtain ⟨a2, c2, hv2, hat2, _, _⟩ := Own.at ho2; rw [HL2.out] at hv2; subst hv2; have HT2 : Hid (BytesAt w2 a2 R2) := hat2; have HT12 : Hid (BytesAt w2 a1 R1) := HT1.out.after hb2; have B2 : Hid (After w w2) := After.trans B1.out hb2; clear ho2 hb2 hat2)
    | (at_builtin; refine wpList_append_any rfl (.tmp 20) (.tmp 21) rfl w2.heap.size _ [] rfl (Own.fresh w2) a1 c1 R1 L1 HL1.out rfl (HT12.out.after (after_alloc (After.refl w2) _)) (by simp; omega) (by simp) ?_; intro v3 w3 ho3 hg3; rw [List.nil_append] at ho3; have HO3 : Hid (Own w3 w2.heap.size v3 R1) := ho3; have A23 : Hid (After w2 w3) := after_grown (after_alloc (After.refl w2) _) hg3 (Nat.le_refl _) (fun k hk => (World.ownsRow.lt (Own.fresh w2) k hk).1); clear ho3 hg3)
    | (at_builtin; refine wpList_append_any rfl (.tmp 22) (.tmp 23) rfl w2.heap.size _ R1 rfl HO3.out bo bc t T HT.out rfl (HTT.out.after (After.trans B2.out A23.out)) (by omega) A23.out.size ?_; intro v4 w4 ho4 hg4; have A24 : Hid (After w2 w4) := after_grown A23.out hg4 (Nat.le_refl _) (fun k hk => (World.ownsRow.lt HO3.out k hk).1); obtain ⟨a4, c4, hv4, hat4, _, _⟩ := Own.at ho4; rw [List.length_append, HL1.out, HT.out] at hv4; subst hv4; have HT4 : Hid (BytesAt w4 a4 (R1 ++ t)) := hat4; clear ho4 hg4 hat4)
    | (go_at_call 20; refine (C20.out a4 c4 w4 HT4.out).mono ?_; rintro x w5 ⟨v5, rfl, ho5, hb5⟩; obtain ⟨a5, c5, hv5, hI5, _, _⟩ := OwnI.at ho5; subst hv5; have HI5 : Hid (IntsAt w5 a5 X) := hI5; have A25 : Hid (After w2 w5) := After.trans A24.out hb5; have HT25 : Hid (BytesAt w5 a2 R2) := HT2.out.after A25.out; have B5 : Hid (After w w5) := After.trans B2.out A25.out; clear ho5 hb5 hI5)
    | (at_builtin; refine wpList_append_any rfl (.tmp 31) (.tmp 32) rfl w5.heap.size _ [] rfl (Own.fresh w5) a2 c2 R2 L2 HL2.out rfl (HT25.out.after (after_alloc (After.refl w5) _)) (by simp; omega) (by simp) ?_; intro v6 w6 ho6 hg6; rw [List.nil_append] at ho6; have HO6 : Hid (Own w6 w5.heap.size v6 R2) := ho6; have A56 : Hid (After w5 w6) := after_grown (after_alloc (After.refl w5) _) hg6 (Nat.le_refl _) (fun k hk => (World.ownsRow.lt (Own.fresh w5) k hk).1); clear ho6 hg6)
    | (at_builtin; refine wpList_append_any rfl (.tmp 33) (.tmp 34) rfl w5.heap.size _ R2 rfl HO6.out bo bc t T HT.out rfl (HTT.out.after (After.trans B5.out A56.out)) (by omega) A56.out.size ?_; intro v7 w7 ho7 hg7; have A57 : Hid (After w5 w7) := after_grown A56.out hg7 (Nat.le_refl _) (fun k hk => (World.ownsRow.lt HO6.out k hk).1); obtain ⟨a7, c7, hv7, hat7, _, _⟩ := Own.at ho7; rw [List.length_append, HL2.out, HT.out] at hv7; subst hv7; have HT7 : Hid (BytesAt w7 a7 (R2 ++ t)) := hat7; clear ho7 hg7 hat7)
    | (go_at_call 22; refine (C22.out a7 c7 w7 HT7.out).mono ?_; rintro x w8 ⟨v8, rfl, ho8, hb8⟩; obtain ⟨a8, c8, hv8, hI8, _, _⟩ := OwnI.at ho8; subst hv8; have HI8 : Hid (IntsAt w8 a8 Y) := hI8; have A58 : Hid (After w5 w8) := After.trans A57.out hb8; have HI58 : Hid (IntsAt w8 a5 X) := HI5.out.after A58.out; have B8 : Hid (After w w8) := After.trans B5.out A58.out; have HI0 : Hid (IntsAt w8 ao []) := HI.out.after B8.out; clear ho8 hb8 hI8)
    | (go_at_call 15; refine (awake_any _).mono ?_; rintro x w11 ⟨rfl, hb11⟩; have B11 : Hid (After w w11) := After.trans B8.out hb11; clear hb11))
  all_goals
    go_ret
    exact ⟨rfl, B11.out⟩
end Go.Proofs.Ytjmflggnnchojaa
