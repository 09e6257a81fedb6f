/-
  THE WALK OF stemmalaw06.HashesBack.
-/
import Derived.Test.YtedghldjpkabmaaTold
import Derived.Test.YtedghldjpkabmaaGet2
import Derived.Test.YtedghldjpkabmaaGetsLaw
import Derived.Test.YtedghldjpkabmaaPut
namespace Go.Proofs.Ytedghldjpkabmaa
open Go.RowKit Go.Sort Leb
theorem gL_app {s : List Hs} (h32 : All32 s) (a t : List UInt8) : gL (a ++ (s.flatten ++ t)) a.length s.length = s := by
  apply List.ext_getElem?
  intro j
  unfold gL
  by_cases hj : j < s.length
  · rw [List.getElem?_map, List.getElem?_range hj, Option.map_some, List.getElem?_eq_getElem hj]
    congr 1
    unfold hAt
    rw [← List.drop_drop, List.drop_left, List.drop_append_of_le_length (by rw [flat_len h32]; omega), flat_drop j h32, List.drop_eq_getElem_cons hj, List.flatten_cons, List.append_assoc]
    have hl : (s[j]).length = 32 := h32 _ (List.getElem_mem hj)
    rw [← hl, List.take_left]
  · rw [List.getElem?_eq_none (by simp; omega), List.getElem?_eq_none (by omega)]
theorem gL_flat (bs : List UInt8) (k : Nat) : ∀ n, k + n * 32 ≤ bs.length → (gL bs k n).flatten = (bs.drop k).take (n * 32)
  | 0, _ => by simp [gL]
  | n + 1, h => by
    rw [gL_succ, List.flatten_append, gL_flat bs k n (by omega)]
    unfold hAt
    simp only [List.flatten_cons, List.flatten_nil, List.append_nil]
    rw [show (n + 1) * 32 = n * 32 + 32 by omega, List.take_add, List.drop_drop]
theorem put_back {s : List Hs} {n : Nat} (h32 : All32 s) (hu : Up s) (hn : s.length = n) (hb : n ≤ 1000000) (t : List UInt8) : ghE (putB s n n ++ t) (n : Int) = 0 ∧ ghK (putB s n n ++ t) (n : Int) = (putB s n n).length ∧ ghL (putB s n n ++ t) (n : Int) = s := by
  subst hn
  have e : putB s s.length s.length ++ t = uintB s.length ++ (s.flatten ++ t) := by unfold putB; rw [List.take_length, List.append_assoc]
  have el : (putB s s.length s.length).length = (uintB s.length).length + s.length * 32 := by unfold putB; rw [List.take_length, List.length_append, flat_len h32]
  obtain ⟨g1, g2, g3⟩ := gu_back s.length (s.flatten ++ t) (by omega)
  have hE : ghE (uintB s.length ++ (s.flatten ++ t)) (s.length : Int) = 0 := by
    unfold ghE
    rw [g1, g2, g3, if_pos rfl, if_neg (by omega), gL_app h32, hu.upB h32, if_neg (by rw [List.length_append, List.length_append, flat_len h32]; omega), if_pos rfl]
  rw [e, el]
  refine ⟨hE, ?_, ?_⟩
  · unfold ghK; rw [hE, if_pos rfl, g2, g3]
  · unfold ghL; rw [hE, if_pos rfl, g2, g3, gL_app h32]
theorem put_less {s : List Hs} {n : Nat} (hn : s.length = n) (hb : n ≤ 1000000) : ghE (putB s n n) ((n : Int) - 1) = 5 := by
  subst hn
  have e : putB s s.length s.length = uintB s.length ++ s.flatten := by unfold putB; rw [List.take_length]
  obtain ⟨g1, _, g3⟩ := gu_back s.length s.flatten (by omega)
  rw [e]
  unfold ghE
  rw [g1, g3, if_pos rfl, if_pos (Or.inr (by omega))]
theorem put_take {bs : List UInt8} {m : Int} (h : ghE bs m = 0) (hm : m ≤ 1048576) : ghK bs m ≤ bs.length ∧ bs ≠ [] ∧ (ghL bs m).length ≤ 1048576 ∧ putB (ghL bs m) (ghL bs m).length (ghL bs m).length = bs.take (ghK bs m) := by
  have h' := h
  unfold ghE at h'
  split at h'
  · rename_i h0
    split at h'
    · cases h'
    · rename_i h1
      split at h'
      · cases h'
      · rename_i h2
        have hk := guK_le bs
        have hv : guK bs + guV bs * 32 ≤ bs.length := by
          have : guV bs ≤ (bs.length - guK bs) / 32 := Nat.le_of_not_lt h2
          omega
        have hb := gu_only bs h0
        have hne : bs ≠ [] := fun e => by rw [e] at hb; simp at hb; exact uintB_ne _ hb
        unfold ghK ghL
        rw [h, if_pos rfl, if_pos rfl]
        refine ⟨hv, hne, by rw [gL_len]; omega, ?_⟩
        unfold putB
        rw [List.take_length, gL_len, gL_flat bs _ _ hv, hb, ← List.take_add]
  · rename_i h0; exact absurd h' h0

theorem back_get {s : List Hs} {n : Nat} {B : List UInt8} {L2 Lb : Nat} {be : List UInt8} (h32 : All32 s) (hu : Up s) (hn : s.length = n) (hB : putB s n n = B) (hL : B.length = L2) (hb : be.length = Lb) (h1 : n ≤ 2000) (h2 : L2 + Lb ≤ 200000000000000) (W : World) (pa : Option Addr) (pc : Nat) (hc : L2 + Lb ≤ pc) (hat : BytesAt W pa (B ++ be)) :
    Calls Try.prog 30 #[.slice pa (L2 + Lb) pc, .int .i64 (n : Int)] W fun e w' => ∃ v, e = .returned (.tuple #[v, .int .i64 (L2 : Int), .int .i64 0]) ∧ OwnH w' W.heap.size v s ∧ After W w' := by
  have hl : (B ++ be).length = L2 + Lb := by rw [List.length_append, hL, hb]
  obtain ⟨e1, e2, e3⟩ := put_back h32 hu hn (by omega) be
  rw [hB] at e1 e2 e3
  have := get_wide pa pc (B ++ be) (n : Int) (by rw [hl]; exact hc) (by rw [hl]; omega) (Or.inr (by omega)) (by omega) (by omega) W hat
  rw [hl, e1, e2, e3, hL] at this
  exact this
theorem back_less {s : List Hs} {n : Nat} {B : List UInt8} {L2 : Nat} {p : Option Addr} {pc : Nat} (hn : s.length = n) (hB : putB s n n = B) (hL : B.length = L2) (hc : L2 ≤ pc) (h1 : n ≤ 2000) (h2 : L2 ≤ 70000) (W : World) (hat : BytesAt W p B) :
    Calls Try.prog 30 #[.slice p L2 pc, .int .i64 ((n : Int) - 1)] W fun e w' => ∃ v, e = .returned (.tuple #[v, .int .i64 (ghK B ((n : Int) - 1) : Int), .int .i64 5]) ∧ OwnH w' W.heap.size v (ghL B ((n : Int) - 1)) ∧ After W w' := by
  have e1 := put_less hn (by omega)
  rw [hB] at e1
  have := get_wide p pc B ((n : Int) - 1) (by rw [hL]; exact hc) (by rw [hL]; omega) (Or.inl (by rw [hL]; omega)) (by omega) (by omega) W hat
  rw [e1, hL] at this
  exact this
set_option maxRecDepth 100000 in
set_option maxHeartbeats 6400000 in
theorem back_any (a0 a1 : Option Addr) (c0 cb : Nat) (l0 : List Hs) (be : List UInt8) (h0 : All32 l0) (n0 Lb : Nat) (e0 : l0.length = n0) (eb : be.length = Lb) (b0 : n0 ≤ 1152921504606846976) (hcb : Lb ≤ cb) (bb0 : Lb ≤ 140737488355328) (w : World) (A0 : HsAt w a0 l0) (A1 : BytesAt w a1 be) :
    Calls Try.prog 9 #[.slice a0 n0 c0, .slice a1 Lb cb] w fun e w' => e = .returned (.bool true) ∧ After w w' := by
  have HST0 : Hid (LsAll w [(a0, n0, l0)]) := LsAll.cons ⟨A0, h0, e0⟩ (fun _ h => by simp at h)
  have HBE : Hid (BytesAt w a1 be ∧ be.length = Lb ∧ Lb ≤ cb) := ⟨A1, eb, hcb⟩
  by_cases f0 : n0 ≤ 2000
  · have H0 : Hid (decide (n0 ≤ 2000) = true) := decide_eq_true f0
    by_cases hq : ghE be 1048576 = 0
    · obtain ⟨t1, t2, t3, t4⟩ := put_take hq (by omega)
      have hC6 : ∀ W : World, BytesAt W a1 be → Calls Try.prog 30 #[.slice a1 Lb cb, .int .i64 1048576] W fun e w' => ∃ v, e = .returned (.tuple #[v, .int .i64 (ghK be 1048576 : Int), .int .i64 0]) ∧ OwnH w' W.heap.size v (ghL be 1048576) ∧ After W w' := fun W hat => by
        have := get_wide a1 cb be 1048576 (by omega) (by omega) (Or.inr (by omega)) (by omega) (by omega) W hat
        rw [hq, eb] at this
        exact this
      have HG : Hid (All32 (ghL be 1048576) ∧ (ghL be 1048576).length ≤ 1048576) := ⟨ghL_32 be _, t3⟩
      obtain ⟨bb, bo, hab, _⟩ := A1 t2
      have HPT0 : Hid (putB (ghL be 1048576) (ghL be 1048576).length (ghL be 1048576).length = be.take (ghK be 1048576)) := t4
      rw [eb] at t1
      generalize ghK be 1048576 = K6 at hC6 t1 HPT0
      generalize ghL be 1048576 = G6 at hC6 HG HPT0
      have HC6 := show Hid _ from hC6
      have hK6 : K6 ≤ Lb := t1
      have HAB : Hid (a1 = some ⟨bb, bo, none⟩) := hab
      subst hab
      clear A0 A1 h0 e0 eb b0 t1 t2 t3 t4 hC6 hq
      go_enter Try.func9, Try.ntmps9
      go_wp2_with (first
        | (go_at_call 10; refine Calls.mono (few_any a0 n0 c0 (by omega) w (t := true) H0.out) ?_; rintro e wx ⟨rfl, hwx⟩; have hwy := hwx.symm; clear hwx; subst hwy)
        | (go_at_call 30; refine Calls.mono (HC6.out w5 (HBE.out.1.after HA5.out)) ?_; rintro e w6 ⟨v6, rfl, ho6, ha6⟩; obtain ⟨g6, c6, rfl, hg6, _⟩ := ho6.at; obtain ⟨n6, hn6⟩ : ∃ n6, G6.length = n6 := ⟨_, rfl⟩; rw [hn6]; have HA6 := show Hid (After w w6) from After.trans HA5.out ha6; have HA56 := show Hid (After w5 w6) from ha6; have HG6 := show Hid (HsAt w6 g6 G6 ∧ All32 G6 ∧ G6.length = n6 ∧ n6 ≤ 1048576) from ⟨hg6, HG.out.1, hn6, (by rw [← hn6]; exact HG.out.2)⟩; have hn6b := HG6.out.2.2.2; clear ho6 ha6 hg6 hn6)
        | (go_at_call 30; refine Calls.mono (HC5.out w4 p4 c4 HP4.out.2 HP4.out.1) ?_; rintro e w5 ⟨v5, rfl, ho5, ha5⟩; obtain ⟨g5, c5, rfl, hg5, _⟩ := ho5.at; rw [HK1.out]; have HA5 := show Hid (After w w5) from After.trans HA4.out ha5; have HA45 := show Hid (After w4 w5) from ha5; have HG5 := show Hid (HsAt w5 g5 s1) from hg5; clear ho5 ha5 hg5)
        | (at_builtin; have _u := HO3.out; clear _u; refine wpList_append_anyw rfl _ _ rfl w2.heap.size v3 B rfl HO3.out (some ⟨bb, bo, none⟩) cb be Lb HBE.out.2.1 rfl (HBE.out.1.after HA3.out) (by rw [HBE.out.2.1, HL2.out]; omega) HZ3.out ?_; intro v4 w4 ho4 hgr4; have HA24 := show Hid (After w2 w4) from after_grown HA23.out hgr4 (Nat.le_refl _) (fun j hj => (ho3lt.out j hj)); have HA4 := show Hid (After w w4) from After.trans HA2.out HA24.out; obtain ⟨p4, c4, rfl, hp4, hc4⟩ := Own.sl ho4 (L2 + Lb) (by rw [List.length_append, HL2.out, HBE.out.2.1]); have HP4 := show Hid (BytesAt w4 p4 (B ++ be) ∧ L2 + Lb ≤ c4) from ⟨hp4, hc4⟩; clear ho4 hgr4 hp4 hc4)
        | (at_builtin; refine wpList_append_any rfl _ _ rfl w2.heap.size (.slice (some ⟨w2.heap.size, 0, none⟩) 0 0) [] rfl (Own.fresh w2) p2 cp2 B L2 HL2.out rfl (HP2.out.1.after (after_alloc (After.refl w2) _)) (by rw [HL2.out]; simp; omega) (by simp) ?_; intro v3 w3 ho3 hgr3; rw [List.nil_append] at ho3; have HA23 := show Hid (After w2 w3) from after_grown (after_alloc (After.refl w2) _) hgr3 (Nat.le_refl _) (fun j hj => by cases hj; exact Nat.le_refl _); have HA3 := show Hid (After w w3) from After.trans HA2.out HA23.out; have HO3 := show Hid (Own w3 w2.heap.size v3 B) from ho3; have HZ3 := show Hid (w2.heap.size ≤ w3.heap.size) from HA23.out.size; have ho3lt := show Hid (∀ j, v3.ownBlock = some j → w2.heap.size ≤ j) from fun j hj => (World.ownsRow.lt ho3 j hj).1; clear ho3 hgr3)
        | (go_at_call 26; refine Calls.mono (put_any o1 c1 s1 HT1.out.2.1 k1 HK1.out (by omega) w1 HT1.out.1) ?_; rintro e w2 ⟨v2, rfl, ho2, ha2⟩; obtain ⟨B, hB⟩ : ∃ B, putB s1 k1 k1 = B := ⟨_, rfl⟩; have HB := show Hid (putB s1 k1 k1 = B) from hB; rw [hB] at ho2; obtain ⟨L2, hL2⟩ : ∃ L2, B.length = L2 := ⟨_, rfl⟩; have HL2 := show Hid (B.length = L2) from hL2; have hL2b : L2 ≤ 70000 := (by rw [← hL2, ← hB]; have h1 := putB_len (l := s1) (n := k1) (i := k1) HT1.out.2.1; have h2 := uintB_len10 k1 (by omega); omega); obtain ⟨p2, cp2, rfl, hp2, hcp2⟩ := Own.sl ho2 L2 hL2; have HP2 := show Hid (BytesAt w2 p2 B ∧ L2 ≤ cp2) from ⟨hp2, hcp2⟩; have HA2 := show Hid (After w w2) from After.trans HA1.out ha2; have HA12 := show Hid (After w1 w2) from ha2; have HC5 := show Hid (∀ (W : World) (pa : Option Addr) (pc : Nat), L2 + Lb ≤ pc → BytesAt W pa (B ++ be) → Calls Try.prog 30 #[.slice pa (L2 + Lb) pc, .int .i64 (k1 : Int)] W fun e w' => ∃ v, e = .returned (.tuple #[v, .int .i64 (L2 : Int), .int .i64 0]) ∧ OwnH w' W.heap.size v s1 ∧ After W w') from back_get HT1.out.2.1 HT1.out.2.2 HK1.out hB hL2 HBE.out.2.1 (by omega) (by omega); have HC9 := show Hid (∀ (W : World), BytesAt W p2 B → Calls Try.prog 30 #[.slice p2 L2 cp2, .int .i64 ((k1 : Int) - 1)] W fun e w' => ∃ v, e = .returned (.tuple #[v, .int .i64 (ghK B ((k1 : Int) - 1) : Int), .int .i64 5]) ∧ OwnH w' W.heap.size v (ghL B ((k1 : Int) - 1)) ∧ After W w') from back_less HK1.out hB hL2 hcp2 (by omega) (by omega); have hLL : ((L2 : Int) == (L2 : Int)) = true := (by simp); clear ho2 ha2 hB hL2 hp2 hcp2)
        | (go_at_call 12; refine Calls.mono (sort_at HST0.out (l := l0) c0 (by simp) (by omega)) ?_; rintro e w1 ⟨o1, k1, c1, s1, rfl, hl, hr, ha⟩; have HT1 := show Hid (HsAt w1 o1 s1 ∧ All32 s1 ∧ Up s1) from ⟨(hl (o1, k1, s1) (by simp)).at_, (hl (o1, k1, s1) (by simp)).a32, hr.up⟩; have HK1 := show Hid (s1.length = k1) from hr.len; have hk1 := hr.le; have HA1 := show Hid (After w w1) from ha; clear hl hr ha))
      have HPT : Hid (putB G6 n6 n6 = be.take K6) := by have h1 := HPT0.out; rw [HG6.out.2.2.1] at h1; exact h1
      refine wp_region_noPanic ?_
      refine wp_region_held_drew (S := After w6) (by kernel_rfl) (After.drew (After.refl w6)) ?_
      intro hS0
      refine tk 0 42 (.int .i64 0) (fuel := 17) rfl (by kernel_rfl) (by kernel_rfl) (by kernel_rfl) (by kernel_rfl) noPanic_false (by kernel_rfl) (fun _ _ => by kernel_rfl) hS0 ?_
      refine tk 1 43 (.bool true) (fuel := 16) rfl (by kernel_rfl) (by kernel_rfl) (by kernel_rfl) (by kernel_rfl) noPanic_false (by kernel_rfl) (fun _ _ => by kernel_rfl) hS0 ?_
      refine tk 2 44 (.bool true) (fuel := 15) rfl (by kernel_rfl) (by kernel_rfl) (by kernel_rfl) (by kernel_rfl) noPanic_false (by kernel_rfl) (fun _ _ => by kernel_rfl) hS0 ?_
      refine tk 3 45 (.int .i64 (K6 : Int)) (fuel := 14) rfl (by kernel_rfl) (by kernel_rfl) (by kernel_rfl) (by kernel_rfl) noPanic_false (by kernel_rfl) (fun _ _ => by kernel_rfl) hS0 ?_
      refine tk 4 46 (.slice (some ⟨bb, bo, none⟩) Lb cb) (fuel := 13) rfl (by kernel_rfl) (by kernel_rfl) (by kernel_rfl) (by kernel_rfl) noPanic_false (by kernel_rfl) (fun _ _ => by kernel_rfl) hS0 ?_
      refine tk 5 47 (.int .i64 (Lb : Int)) (fuel := 12) rfl (by kernel_rfl) (by kernel_rfl) (by kernel_rfl) (by kernel_rfl) noPanic_false (by kernel_rfl) (fun _ _ => by kernel_rfl) hS0 ?_
      refine tk 6 48 (.bool false) (fuel := 11) rfl (by kernel_rfl) (by kernel_rfl) (by kernel_rfl) (by kernel_rfl) noPanic_false (by kernel_rfl) (fun W hW => x_gtr (t := 3) (p := K6) (q := Lb) (x := .tmp 45) (y := .tmp 47) (by kernel_rfl) (by kernel_rfl) (by kernel_rfl) hK6) hS0 ?_
      refine tk 7 49 (.bool false) (fuel := 10) rfl (by kernel_rfl) (by kernel_rfl) (by kernel_rfl) (by kernel_rfl) noPanic_false (by kernel_rfl) (fun _ _ => by kernel_rfl) hS0 ?_
      refine tk 8 50 (.slice g6 n6 c6) (fuel := 9) rfl (by kernel_rfl) (by kernel_rfl) (by kernel_rfl) (by kernel_rfl) noPanic_false (by kernel_rfl) (fun _ _ => by kernel_rfl) hS0 ?_
      refine tk 11 53 (.slice (some ⟨bb, bo, none⟩) Lb cb) (fuel := 8) rfl (by kernel_rfl) (by kernel_rfl) (by kernel_rfl) (by kernel_rfl) noPanic_false (by kernel_rfl) (fun _ _ => by kernel_rfl) hS0 ?_
      refine tk 12 54 (.int .i64 (K6 : Int)) (fuel := 7) rfl (by kernel_rfl) (by kernel_rfl) (by kernel_rfl) (by kernel_rfl) noPanic_false (by kernel_rfl) (fun _ _ => by kernel_rfl) hS0 ?_
      refine tk 13 55 (.slice (some ⟨bb, bo, none⟩) K6 cb) (fuel := 6) rfl (by kernel_rfl) (by kernel_rfl) (by kernel_rfl) (by kernel_rfl) noPanic_false (by kernel_rfl) (fun W hW => x_slice (b := bb) (off := bo) (len := Lb) (cap := cb) (k := K6) (x := .tmp 53) (y := .tmp 54) (by kernel_rfl) (by kernel_rfl) (by kernel_rfl) (by omega)) hS0 ?_
      refine tk 14 56 (.string (strOf (be.take K6))) (fuel := 5) rfl (by kernel_rfl) (by kernel_rfl) (by kernel_rfl) (by kernel_rfl) noPanic_false (by kernel_rfl) (fun W hW => x_conv (x := .tmp 55) (v := .slice (some ⟨bb, bo, none⟩) K6 cb) (by kernel_rfl) (by kernel_rfl) (conv_take cb K6 ((HBE.out.1.after HA6.out).after hW) (by rw [HBE.out.2.1]; exact hK6))) hS0 ?_
      refine tkCallS 9 51 26 #[.slice g6 n6 c6] (fun v w' => Own w' w6.drew.heap.size v (putB G6 n6 n6) ∧ After w6 w') (fuel := 4) rfl (by kernel_rfl) (by kernel_rfl) (by kernel_rfl) (fun _ => by kernel_rfl) ((put_any g6 c6 G6 HG6.out.2.1 n6 HG6.out.2.2.1 (by omega) w6.drew (HG6.out.1.after hS0)).mono (fun e w' ⟨v, he, ho, ha⟩ => ⟨v, he, ho, After.trans hS0 ha⟩)) ?_
      intro v7 w7 ⟨ho7, ha7⟩
      refine ⟨ha7, ?_⟩
      refine turnH (T := After w7) (fun W hW => After.trans ha7 hW) _ _ _ _ ?_
      have hS7 : After w7 w7 := After.refl w7
      refine tk 10 52 (.string (strOf (putB G6 n6 n6))) (fuel := 3) rfl (by kernel_rfl) (by kernel_rfl) (by kernel_rfl) (by kernel_rfl) noPanic_false (by kernel_rfl) (fun W hW => x_conv (x := .tmp 51) (v := v7) (by kernel_rfl) (by kernel_rfl) (Own.convA ho7 hW)) hS7 ?_
      refine tk 15 57 (.bool false) (fuel := 2) rfl (by kernel_rfl) (by kernel_rfl) (by kernel_rfl) (by kernel_rfl) noPanic_false (by kernel_rfl) (fun W hW => x_streqf (s := strOf (putB G6 n6 n6)) (t := strOf (be.take K6)) (x := .tmp 52) (y := .tmp 56) (by kernel_rfl) (by kernel_rfl) (by kernel_rfl) (by rw [HPT.out])) hS7 ?_
      refine tk 16 58 (.bool false) (fuel := 1) rfl (by kernel_rfl) (by kernel_rfl) (by kernel_rfl) (by kernel_rfl) noPanic_false (by kernel_rfl) (fun _ _ => by kernel_rfl) hS7 ?_
      refine tk 17 59 (.bool false) (fuel := 0) rfl (by kernel_rfl) (by kernel_rfl) (by kernel_rfl) (by kernel_rfl) noPanic_false (by kernel_rfl) (fun _ _ => by kernel_rfl) hS7 ?_
      refine wpAnyH_done (by kernel_rfl) (NoPanic.normal ?_) _
      have HA7 := show Hid (After w w7) from After.trans HA6.out ha7
      have HA67 := show Hid (After w6 w7) from ha7
      clear hS0 hS7 ha7 ho7
      go_simp
      go_wp2_with (first
        | (go_at_call 11; refine Calls.mono (awake_any _) ?_; rintro e w10 ⟨rfl, ha10⟩; have HA10 := show Hid (After w w10) from After.trans HA9.out ha10; clear ha10)
        | (go_at_call 17; refine Calls.mono (same17 g5 o1 c5 c1 s1 s1 HT1.out.2.1 HT1.out.2.1 k1 k1 HK1.out HK1.out (by omega) w8 (HG5.out.after (After.trans HA56.out (After.trans HA67.out HA78.out))) (HT1.out.1.after (After.trans HA12.out (After.trans HA24.out (After.trans HA45.out (After.trans HA56.out (After.trans HA67.out HA78.out))))))) ?_; rintro e w9 ⟨rfl, ha9⟩; simp only [decide_true]; have HA9 := show Hid (After w w9) from After.trans HA8.out ha9; clear ha9)
        | (go_at_call 30; refine Calls.mono (HC9.out w7 (HP2.out.1.after (After.trans HA24.out (After.trans HA45.out (After.trans HA56.out HA67.out))))) ?_; rintro e w8 ⟨v8, rfl, ho8, ha8⟩; have HA8 := show Hid (After w w8) from After.trans HA7.out ha8; have HA78 := show Hid (After w7 w8) from ha8; clear ho8 ha8))
      go_ret
      exact ⟨rfl, HA10.out⟩
    · obtain ⟨q6, hq6e⟩ : ∃ q6, ghE be 1048576 = q6 := ⟨_, rfl⟩
      have hq6 : ¬ q6 = 0 := by rw [← hq6e]; exact hq
      have hC6 : ∀ W : World, BytesAt W a1 be → Calls Try.prog 30 #[.slice a1 Lb cb, .int .i64 1048576] W fun e w' => ∃ v, e = .returned (.tuple #[v, .int .i64 (ghK be 1048576 : Int), .int .i64 (q6 : Int)]) ∧ OwnH w' W.heap.size v (ghL be 1048576) ∧ After W w' := fun W hat => by
        have := get_wide a1 cb be 1048576 (by omega) (by omega) (Or.inr (by omega)) (by omega) (by omega) W hat
        rw [hq6e, eb] at this
        exact this
      have HG : Hid (All32 (ghL be 1048576) ∧ (ghL be 1048576).length ≤ 1048576) := ⟨ghL_32 be _, by rw [(gh_bad hq6e hq6).2]; simp⟩
      generalize ghK be 1048576 = K6 at hC6
      generalize ghL be 1048576 = G6 at hC6 HG
      have HC6 := show Hid _ from hC6
      clear A0 A1 h0 e0 eb b0 hC6 hq hq6e
      go_enter Try.func9, Try.ntmps9
      go_wp2_with (first
        | (go_at_call 10; refine Calls.mono (few_any a0 n0 c0 (by omega) w (t := true) H0.out) ?_; rintro e wx ⟨rfl, hwx⟩; have hwy := hwx.symm; clear hwx; subst hwy)
        | (go_at_call 30; refine Calls.mono (HC6.out w5 (HBE.out.1.after HA5.out)) ?_; rintro e w6 ⟨v6, rfl, ho6, ha6⟩; obtain ⟨g6, c6, rfl, hg6, _⟩ := ho6.at; obtain ⟨n6, hn6⟩ : ∃ n6, G6.length = n6 := ⟨_, rfl⟩; rw [hn6]; have HA6 := show Hid (After w w6) from After.trans HA5.out ha6; have HA56 := show Hid (After w5 w6) from ha6; have HG6 := show Hid (HsAt w6 g6 G6 ∧ All32 G6 ∧ G6.length = n6 ∧ n6 ≤ 1048576) from ⟨hg6, HG.out.1, hn6, (by rw [← hn6]; exact HG.out.2)⟩; have hn6b := HG6.out.2.2.2; clear ho6 ha6 hg6 hn6)
        | (go_at_call 30; refine Calls.mono (HC5.out w4 p4 c4 HP4.out.2 HP4.out.1) ?_; rintro e w5 ⟨v5, rfl, ho5, ha5⟩; obtain ⟨g5, c5, rfl, hg5, _⟩ := ho5.at; rw [HK1.out]; have HA5 := show Hid (After w w5) from After.trans HA4.out ha5; have HA45 := show Hid (After w4 w5) from ha5; have HG5 := show Hid (HsAt w5 g5 s1) from hg5; clear ho5 ha5 hg5)
        | (at_builtin; have _u := HO3.out; clear _u; refine wpList_append_anyw rfl _ _ rfl w2.heap.size v3 B rfl HO3.out a1 cb be Lb HBE.out.2.1 rfl (HBE.out.1.after HA3.out) (by rw [HBE.out.2.1, HL2.out]; omega) HZ3.out ?_; intro v4 w4 ho4 hgr4; have HA24 := show Hid (After w2 w4) from after_grown HA23.out hgr4 (Nat.le_refl _) (fun j hj => (ho3lt.out j hj)); have HA4 := show Hid (After w w4) from After.trans HA2.out HA24.out; obtain ⟨p4, c4, rfl, hp4, hc4⟩ := Own.sl ho4 (L2 + Lb) (by rw [List.length_append, HL2.out, HBE.out.2.1]); have HP4 := show Hid (BytesAt w4 p4 (B ++ be) ∧ L2 + Lb ≤ c4) from ⟨hp4, hc4⟩; clear ho4 hgr4 hp4 hc4)
        | (at_builtin; refine wpList_append_any rfl _ _ rfl w2.heap.size (.slice (some ⟨w2.heap.size, 0, none⟩) 0 0) [] rfl (Own.fresh w2) p2 cp2 B L2 HL2.out rfl (HP2.out.1.after (after_alloc (After.refl w2) _)) (by rw [HL2.out]; simp; omega) (by simp) ?_; intro v3 w3 ho3 hgr3; rw [List.nil_append] at ho3; have HA23 := show Hid (After w2 w3) from after_grown (after_alloc (After.refl w2) _) hgr3 (Nat.le_refl _) (fun j hj => by cases hj; exact Nat.le_refl _); have HA3 := show Hid (After w w3) from After.trans HA2.out HA23.out; have HO3 := show Hid (Own w3 w2.heap.size v3 B) from ho3; have HZ3 := show Hid (w2.heap.size ≤ w3.heap.size) from HA23.out.size; have ho3lt := show Hid (∀ j, v3.ownBlock = some j → w2.heap.size ≤ j) from fun j hj => (World.ownsRow.lt ho3 j hj).1; clear ho3 hgr3)
        | (go_at_call 26; refine Calls.mono (put_any o1 c1 s1 HT1.out.2.1 k1 HK1.out (by omega) w1 HT1.out.1) ?_; rintro e w2 ⟨v2, rfl, ho2, ha2⟩; obtain ⟨B, hB⟩ : ∃ B, putB s1 k1 k1 = B := ⟨_, rfl⟩; have HB := show Hid (putB s1 k1 k1 = B) from hB; rw [hB] at ho2; obtain ⟨L2, hL2⟩ : ∃ L2, B.length = L2 := ⟨_, rfl⟩; have HL2 := show Hid (B.length = L2) from hL2; have hL2b : L2 ≤ 70000 := (by rw [← hL2, ← hB]; have h1 := putB_len (l := s1) (n := k1) (i := k1) HT1.out.2.1; have h2 := uintB_len10 k1 (by omega); omega); obtain ⟨p2, cp2, rfl, hp2, hcp2⟩ := Own.sl ho2 L2 hL2; have HP2 := show Hid (BytesAt w2 p2 B ∧ L2 ≤ cp2) from ⟨hp2, hcp2⟩; have HA2 := show Hid (After w w2) from After.trans HA1.out ha2; have HA12 := show Hid (After w1 w2) from ha2; have HC5 := show Hid (∀ (W : World) (pa : Option Addr) (pc : Nat), L2 + Lb ≤ pc → BytesAt W pa (B ++ be) → Calls Try.prog 30 #[.slice pa (L2 + Lb) pc, .int .i64 (k1 : Int)] W fun e w' => ∃ v, e = .returned (.tuple #[v, .int .i64 (L2 : Int), .int .i64 0]) ∧ OwnH w' W.heap.size v s1 ∧ After W w') from back_get HT1.out.2.1 HT1.out.2.2 HK1.out hB hL2 HBE.out.2.1 (by omega) (by omega); have HC9 := show Hid (∀ (W : World), BytesAt W p2 B → Calls Try.prog 30 #[.slice p2 L2 cp2, .int .i64 ((k1 : Int) - 1)] W fun e w' => ∃ v, e = .returned (.tuple #[v, .int .i64 (ghK B ((k1 : Int) - 1) : Int), .int .i64 5]) ∧ OwnH w' W.heap.size v (ghL B ((k1 : Int) - 1)) ∧ After W w') from back_less HK1.out hB hL2 hcp2 (by omega) (by omega); have hLL : ((L2 : Int) == (L2 : Int)) = true := (by simp); clear ho2 ha2 hB hL2 hp2 hcp2)
        | (go_at_call 12; refine Calls.mono (sort_at HST0.out (l := l0) c0 (by simp) (by omega)) ?_; rintro e w1 ⟨o1, k1, c1, s1, rfl, hl, hr, ha⟩; have HT1 := show Hid (HsAt w1 o1 s1 ∧ All32 s1 ∧ Up s1) from ⟨(hl (o1, k1, s1) (by simp)).at_, (hl (o1, k1, s1) (by simp)).a32, hr.up⟩; have HK1 := show Hid (s1.length = k1) from hr.len; have hk1 := hr.le; have HA1 := show Hid (After w w1) from ha; clear hl hr ha))
      refine wp_region_noPanic ?_
      refine wp_region_held_drew (S := After w6) (by kernel_rfl) (After.drew (After.refl w6)) ?_
      intro hS0
      refine tk 0 42 (.int .i64 (q6 : Int)) (fuel := 17) rfl (by kernel_rfl) (by kernel_rfl) (by kernel_rfl) (by kernel_rfl) noPanic_false (by kernel_rfl) (fun _ _ => by kernel_rfl) hS0 ?_
      refine tk 1 43 (.bool false) (fuel := 16) rfl (by kernel_rfl) (by kernel_rfl) (by kernel_rfl) (by kernel_rfl) noPanic_false (by kernel_rfl) (fun W hW => x_ne0 (t := 35) (q := q6) (x := .tmp 42) (y := .const (.int .i64 0)) (by kernel_rfl) (by kernel_rfl) (by kernel_rfl) hq6) hS0 ?_
      refine tk 2 44 (.bool false) (fuel := 15) rfl (by kernel_rfl) (by kernel_rfl) (by kernel_rfl) (by kernel_rfl) noPanic_false (by kernel_rfl) (fun _ _ => by kernel_rfl) hS0 ?_
      refine tkSkip 3 45 (fuel := 14) rfl (by kernel_rfl) (by kernel_rfl) (by kernel_rfl) (by kernel_rfl) noPanic_false (by kernel_rfl) hS0 ?_
      refine tkSkip 4 46 (fuel := 13) rfl (by kernel_rfl) (by kernel_rfl) (by kernel_rfl) (by kernel_rfl) noPanic_false (by kernel_rfl) hS0 ?_
      refine tkSkip 5 47 (fuel := 12) rfl (by kernel_rfl) (by kernel_rfl) (by kernel_rfl) (by kernel_rfl) noPanic_false (by kernel_rfl) hS0 ?_
      refine tkSkip 6 48 (fuel := 11) rfl (by kernel_rfl) (by kernel_rfl) (by kernel_rfl) (by kernel_rfl) noPanic_false (by kernel_rfl) hS0 ?_
      refine tkSkip 7 49 (fuel := 10) rfl (by kernel_rfl) (by kernel_rfl) (by kernel_rfl) (by kernel_rfl) noPanic_false (by kernel_rfl) hS0 ?_
      refine tkSkip 8 50 (fuel := 9) rfl (by kernel_rfl) (by kernel_rfl) (by kernel_rfl) (by kernel_rfl) noPanic_false (by kernel_rfl) hS0 ?_
      refine tkSkip 9 51 (fuel := 8) rfl (by kernel_rfl) (by kernel_rfl) (by kernel_rfl) (by kernel_rfl) noPanic_false (by kernel_rfl) hS0 ?_
      refine tkSkip 10 52 (fuel := 7) rfl (by kernel_rfl) (by kernel_rfl) (by kernel_rfl) (by kernel_rfl) noPanic_false (by kernel_rfl) hS0 ?_
      refine tkSkip 11 53 (fuel := 6) rfl (by kernel_rfl) (by kernel_rfl) (by kernel_rfl) (by kernel_rfl) noPanic_false (by kernel_rfl) hS0 ?_
      refine tkSkip 12 54 (fuel := 5) rfl (by kernel_rfl) (by kernel_rfl) (by kernel_rfl) (by kernel_rfl) noPanic_false (by kernel_rfl) hS0 ?_
      refine tkSkip 13 55 (fuel := 4) rfl (by kernel_rfl) (by kernel_rfl) (by kernel_rfl) (by kernel_rfl) noPanic_false (by kernel_rfl) hS0 ?_
      refine tkSkip 14 56 (fuel := 3) rfl (by kernel_rfl) (by kernel_rfl) (by kernel_rfl) (by kernel_rfl) noPanic_false (by kernel_rfl) hS0 ?_
      refine tkSkip 15 57 (fuel := 2) rfl (by kernel_rfl) (by kernel_rfl) (by kernel_rfl) (by kernel_rfl) noPanic_false (by kernel_rfl) hS0 ?_
      refine tkSkip 16 58 (fuel := 1) rfl (by kernel_rfl) (by kernel_rfl) (by kernel_rfl) (by kernel_rfl) noPanic_false (by kernel_rfl) hS0 ?_
      refine tk 17 59 (.bool false) (fuel := 0) rfl (by kernel_rfl) (by kernel_rfl) (by kernel_rfl) (by kernel_rfl) noPanic_false (by kernel_rfl) (fun _ _ => by kernel_rfl) hS0 ?_
      refine wpAnyH_done (by kernel_rfl) (NoPanic.normal ?_) _
      have HA7 := show Hid (After w w6.drew) from After.drew HA6.out
      have HA67 := show Hid (After w6 w6.drew) from hS0
      clear hS0
      obtain ⟨w7, hw7⟩ : ∃ w7, w6.drew = w7 := ⟨_, rfl⟩
      rw [hw7] at HA7 HA67
      rw [hw7]
      clear hw7
      go_simp
      go_wp2_with (first
        | (go_at_call 11; refine Calls.mono (awake_any _) ?_; rintro e w10 ⟨rfl, ha10⟩; have HA10 := show Hid (After w w10) from After.trans HA9.out ha10; clear ha10)
        | (go_at_call 17; refine Calls.mono (same17 g5 o1 c5 c1 s1 s1 HT1.out.2.1 HT1.out.2.1 k1 k1 HK1.out HK1.out (by omega) w8 (HG5.out.after (After.trans HA56.out (After.trans HA67.out HA78.out))) (HT1.out.1.after (After.trans HA12.out (After.trans HA24.out (After.trans HA45.out (After.trans HA56.out (After.trans HA67.out HA78.out))))))) ?_; rintro e w9 ⟨rfl, ha9⟩; simp only [decide_true]; have HA9 := show Hid (After w w9) from After.trans HA8.out ha9; clear ha9)
        | (go_at_call 30; refine Calls.mono (HC9.out w7 (HP2.out.1.after (After.trans HA24.out (After.trans HA45.out (After.trans HA56.out HA67.out))))) ?_; rintro e w8 ⟨v8, rfl, ho8, ha8⟩; have HA8 := show Hid (After w w8) from After.trans HA7.out ha8; have HA78 := show Hid (After w7 w8) from ha8; clear ho8 ha8))
      go_ret
      exact ⟨rfl, HA10.out⟩
  · have H0 : Hid (decide (n0 ≤ 2000) = false) := decide_eq_false f0
    go_enter Try.func9, Try.ntmps9
    go_wp2_with (first | (go_at_call 10; refine Calls.mono (few_any a0 n0 c0 (by omega) w (t := false) H0.out) ?_; rintro e wx ⟨rfl, hwx⟩; have hwy := hwx.symm; clear hwx; subst hwy) | (go_at_call 11; refine Calls.mono (awake_any _) ?_; rintro e w1 ⟨rfl, ha⟩; have HA1 := show Hid (After w w1) from ha; clear ha))
    go_ret
    exact ⟨rfl, HA1.out⟩
end Go.Proofs.Ytedghldjpkabmaa
