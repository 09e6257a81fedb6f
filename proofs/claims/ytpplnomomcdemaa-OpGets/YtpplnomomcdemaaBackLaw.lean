/-
  THE WALK OF stemmalaw07.OpBack.
-/
import Derived.Test.YtpplnomomcdemaaBackKit
namespace Go.Proofs.Ytpplnomomcdemaa
open Go.RowKit Leb
theorem wpList_of_run' {ops : Array Oper} {rest : List Oper} {o : Oper} {a : Act} {Q : Exit → Act → World → Prop} {w w' : World} {v : Value} (hg : o.guard = none) (hr : (execOp a.eval o).run Try.prog w = .ok (.value v) w') (h : wpList Try.prog ops Q rest (a.put o.dst v) w') : wpList Try.prog ops Q (o :: rest) a w :=
  wpList_plain hg fun K hK => by unfold Oper.wp; rw [hr]; exact hK _ _ h
theorem x_sub1 {o : Oper} {a : Act} {x y : Operand} {w : World} {K k : Nat} (hop : o.op = .binOp .sub 3 x y 3) (hx : a.eval x = .int .i64 (K : Int)) (hy : a.eval y = .int .i64 1) (h : K = k + 1) (hb : K ≤ 1000000000) : (execOp a.eval o).run Try.prog w = .ok (.value (.int .i64 (k : Int))) w := by
  have e : IntKind.i64.wrap ((K : Int) - 1) = (k : Int) := by rw [IntKind.wrap_i64]; omega
  unfold execOp
  simp only [hop, hx, hy]
  simp [go_sem, e]

theorem put_some (ao : Option Addr) (n ca : Nat) (l : List Opn) (hl : l.length = n) (hg : Good l) (w : World) (hA : OpsAt w ao l) {k : Nat} (hk : (layB l).length = k) (hp : 0 < k) :
    Calls Try.prog 14 #[.slice ao n ca] w fun e w' => ∃ b o c, e = .returned (.tuple #[.slice (some ⟨b, o, none⟩) k c, .int .i64 0]) ∧ BytesAt w' (some ⟨b, o, none⟩) (layB l) ∧ k ≤ c ∧ After w w' := by
  refine Calls.mono (put_good ao n ca l hl hg w hA rfl hk) ?_
  rintro e w' ⟨a, c, rfl, h1, h2, h3, ha⟩
  obtain ⟨b, o, rfl, _⟩ := h1 (fun e => by rw [e] at hk; simp at hk; omega)
  exact ⟨b, o, c, rfl, h1, h2, ha⟩

set_option maxRecDepth 100000 in
set_option maxHeartbeats 2400000 in
theorem back_n (ao bo : Option Addr) (n ca nb cb : Nat) (l : List Opn) (bs : List UInt8) (hl : l.length = n) (hok : ∀ x ∈ l, x.Ok) (hbn : n ≤ 1152921504606846976) (hnb : bs.length = nb) (w : World) (hA : OpsAt w ao l) (hB : BytesAt w bo bs) (HG1 : Hid (Calls Try.prog 17 #[.slice bo nb cb] w fun e w' => e = .returned (.tuple #[.slice none 0 0, .int .i64 4]) ∧ After w w')) :
    Calls Try.prog 7 #[.slice ao n ca, .slice bo nb cb] w fun e w' => e = .returned (.bool true) ∧ After w w' := by
  have HF : Hid (l.length = n ∧ OpsAt w ao l ∧ bs.length = nb ∧ BytesAt w bo bs) := ⟨hl, hA, hnb, hB⟩
  have HOK : Hid (∀ x ∈ l, x.Ok) := hok
  obtain ⟨q, hq⟩ : ∃ q, putE l = q := ⟨_, rfl⟩
  have HQ : Hid (putE l = q) := hq
  by_cases hq0 : q = 0
  · subst hq0
    have HGD : Hid (Good l) := (good_iff hok).1 hq
    obtain ⟨K, hK⟩ : ∃ K, (layB l).length = K := ⟨_, rfl⟩
    have hKp : 0 < K := by rw [← hK]; exact layB_pos l
    have hKb : K ≤ 200000000 := by rw [← hK]; exact layB_len HGD.out
    obtain ⟨k1, hk1⟩ : ∃ k1, K = k1 + 1 := ⟨K - 1, by omega⟩
    have HK : Hid ((layB l).length = K ∧ K = k1 + 1 ∧ ((layB l).take k1).length = k1 ∧ K ≤ 1000000000) := ⟨hK, hk1, by rw [List.length_take]; omega, by omega⟩
    have HKP : Hid (0 < K) := hKp
    have HLess : Hid (getM ((layB l).take k1) = none) := back_less HGD.out (by omega) (by unfold maxLen; omega)
    have HMore : Hid (getM (layB l ++ [0]) = none) := back_more HGD.out (by unfold maxLen; omega) 0
    obtain ⟨K2, hK2⟩ : ∃ K2, (layB l ++ [0]).length = K2 := ⟨_, rfl⟩
    have HK2 : Hid ((layB l ++ [0]).length = K2 ∧ K2 ≤ 140737488355328) := ⟨hK2, by rw [← hK2, List.length_append, hK]; simp; omega⟩
    have hK0 : ((K : Int) == 0) = false := beq_eq_false_iff_ne.2 (by omega)
    have hKz : ¬ (K : Int) = 0 := by omega
    clear hl hok hnb hA hB hq hK hKb hk1 hK2 hKp
    go_enter Try.func7, Try.ntmps7
    go_wp2_with (first
      | (go_at_call 13; have _u := HAW.out; clear _u; refine Calls.mono (awake_any w11) ?_; rintro e w20 ⟨rfl, ha⟩; have H20 := show Hid (After w w20) from After.trans HAW.out ha; clear ha)
      | (go_at_call 17; have _u := H10.out; clear _u; refine Calls.mono (get_none (some ⟨b5, o5, none⟩) k1 c5 ((layB l).take k1) HK.out.2.2.1 (by have := H5.out.2.1; have := HK.out.2.1; omega) (fun e => by cases e) (by have := HK.out.2.2.2; have := HK.out.2.1; omega) w10 ((H5.out.1.take k1).after H10.out.2) HLess.out) ?_; rintro e w11 ⟨rfl, ha⟩; have HAW := show Hid (After w w11) from After.trans H10.out.1 ha; clear ha)
      | (refine wpList_of_run' rfl (x_slice (b := b5) (off := o5) (len := K) (cap := c5) (k := k1) (x := .tmp 83) (y := .tmp 86) rfl rfl rfl (by have := H5.out.2.1; have := HK.out.2.1; omega)) ?_)
      | (refine wpList_of_run' rfl (x_sub1 (K := K) (k := k1) (x := .tmp 85) (y := .const (.int .i64 1)) rfl rfl rfl HK.out.2.1 HK.out.2.2.2) ?_)
      | (go_at_call 19; refine Calls.mono (same19 (some ⟨g6, 0, none⟩) ao n ca l l n n HF.out.1 HF.out.1 hbn w9 (H6.out.1.after H9.out.2.2) (HF.out.2.1.after H9.out.1)) ?_; rw [decide_eq_true rfl]; rintro e w10 ⟨rfl, ha⟩; have H10 := show Hid (After w w10 ∧ After w5 w10) from ⟨After.trans H9.out.1 ha, After.trans H9.out.2.1 ha⟩; clear ha)
      | (go_at_call 17; have _u := H8.out; clear _u; refine Calls.mono (get_none a8 K2 c8 (layB l ++ [0]) HK2.out.1 H8.out.2.1 H8.out.2.2.1 HK2.out.2 w8 H8.out.1 HMore.out) ?_; rintro e w9 ⟨rfl, ha⟩; have H9 := show Hid (After w w9 ∧ After w5 w9 ∧ After w6 w9) from ⟨After.trans H6.out.2.2 (After.trans H8.out.2.2.2 ha), After.trans H6.out.2.1 (After.trans H8.out.2.2.2 ha), After.trans H8.out.2.2.2 ha⟩; clear ha)
      | (at_builtin; have _u := H7.out; clear _u; refine wpList_append_any rfl _ _ rfl w6.heap.size v7 (layB l) rfl (H7.out.1.below (after_alloc (After.refl w7) _) (Nat.le_refl _)) (some ⟨w7.heap.size, 0, none⟩) 1 [0] 1 rfl rfl (bytes_0 w7) (by have := HK.out.1; have := HK.out.2.2.2; rw [HK.out.1]; simp; omega) (by have := H7.out.2.size; simp; omega) ?_; intro v8 w8 ho hg; have HA8 := show Hid (After w6 w8) from after_grown (After.trans H7.out.2 (after_alloc (After.refl w7) _)) hg (Nat.le_refl _) (fun k hk => (World.ownsRow.lt H7.out.1 k hk).1); obtain ⟨a8, c8, he8, hb8, hc8, hz8⟩ := own_sl ho HK2.out.1; subst he8; have H8 := show Hid (BytesAt w8 a8 (layB l ++ [0]) ∧ K2 ≤ c8 ∧ (a8 = none → K2 = 0) ∧ After w6 w8) from ⟨hb8, hc8, hz8, HA8.out⟩; clear ho hg hb8 hc8 hz8)
      | (at_builtin; have _u := H6.out; clear _u; refine wpList_append_any rfl _ _ rfl w6.heap.size (.slice (some ⟨w6.heap.size, 0, none⟩) 0 0) [] rfl (Own.fresh w6) (some ⟨b5, o5, none⟩) c5 (layB l) K HK.out.1 rfl (H5.out.1.after (After.trans H6.out.2.1 (after_alloc (After.refl w6) _))) (by rw [HK.out.1]; have := HK.out.2.2.2; simp; omega) (by simp) ?_; intro v7 w7 ho hg; have H7 := show Hid (Own w7 w6.heap.size v7 (layB l) ∧ After w6 w7) from ⟨ho, after_grown (after_alloc (After.refl w6) _) hg (Nat.le_refl _) (fun k hk => by cases hk; exact Nat.le_refl _)⟩; clear ho hg)
      | (go_at_call 17; have _u := H5.out; clear _u; refine Calls.mono (get_good (some ⟨b5, o5, none⟩) K c5 l n HF.out.1 HGD.out rfl HK.out.1 H5.out.2.1 (fun e => by cases e) (by have := HK.out.2.2.2; omega) w5 H5.out.1) ?_; rintro e w6 ⟨g6, he, hA6, ha⟩; subst he; have H6 := show Hid (OpsAt w6 (some ⟨g6, 0, none⟩) l ∧ After w5 w6 ∧ After w w6) from ⟨hA6, ha, After.trans H5.out.2.2 ha⟩; clear ha hA6)
      | (go_at_call 14; have _u := H1.out; clear _u; refine Calls.mono (put_some ao n ca l HF.out.1 HGD.out w1 (HF.out.2.1.after H1.out) HK.out.1 HKP.out) ?_; rintro e w5 ⟨b5, o5, c5, he, h1, h2, ha⟩; subst he; have H5 := show Hid (BytesAt w5 (some ⟨b5, o5, none⟩) (layB l) ∧ K ≤ c5 ∧ After w w5) from ⟨h1, h2, After.trans H1.out ha⟩; clear h1 h2 ha)
      | (go_at_call 17; refine Calls.mono HG1.out ?_; rintro e w1 ⟨rfl, ha⟩; have H1 := show Hid (After w w1) from ha; clear ha))
    go_ret
    exact ⟨rfl, H20.out⟩
  · have hqi : ¬ (q : Int) = 0 := by omega
    have hqb : ((q : Int) == 0) = false := beq_eq_false_iff_ne.2 hqi
    have hqn : ((q : Int) != 0) = true := by simp [bne, hqb]
    clear hl hok hnb hA hB hq
    go_enter Try.func7, Try.ntmps7
    go_wp2_with (first
      | (go_at_call 13; have _u := HAW.out; clear _u; refine Calls.mono (awake_any w5) ?_; rintro e w20 ⟨rfl, ha⟩; have H20 := show Hid (After w w20) from After.trans HAW.out ha; clear ha)
      | (go_at_call 14; have _u := H1.out; clear _u; refine Calls.mono (put_bad ao n ca l HF.out.1 HOK.out hbn w1 (HF.out.2.1.after H1.out) HQ.out hq0) ?_; rintro e w5 ⟨a5, c5, he, ha⟩; subst he; have HAW := show Hid (After w w5) from After.trans H1.out ha; clear ha)
      | (go_at_call 17; refine Calls.mono HG1.out ?_; rintro e w1 ⟨rfl, ha⟩; have H1 := show Hid (After w w1) from ha; clear ha))
    go_ret
    exact ⟨rfl, H20.out⟩

set_option maxRecDepth 100000 in
set_option maxHeartbeats 2400000 in
theorem back_s (ao bo : Option Addr) (n ca nb cb : Nat) (l : List Opn) (bs : List UInt8) (hl : l.length = n) (hok : ∀ x ∈ l, x.Ok) (hbn : n ≤ 1152921504606846976) (hnb : bs.length = nb) (w : World) (hA : OpsAt w ao l) (hB : BytesAt w bo bs) (X : List Opn) (nx : Nat) (HX : Hid (X.length = nx ∧ Good X ∧ layB X = bs)) (HG1 : Hid (Calls Try.prog 17 #[.slice bo nb cb] w fun e w' => ∃ g, e = .returned (.tuple #[.slice (some ⟨g, 0, none⟩) nx nx, .int .i64 0]) ∧ OpsAt w' (some ⟨g, 0, none⟩) X ∧ After w w')) :
    Calls Try.prog 7 #[.slice ao n ca, .slice bo nb cb] w fun e w' => e = .returned (.bool true) ∧ After w w' := by
  have HF : Hid (l.length = n ∧ OpsAt w ao l ∧ bs.length = nb ∧ BytesAt w bo bs) := ⟨hl, hA, hnb, hB⟩
  have HOK : Hid (∀ x ∈ l, x.Ok) := hok
  obtain ⟨q, hq⟩ : ∃ q, putE l = q := ⟨_, rfl⟩
  have HQ : Hid (putE l = q) := hq
  by_cases hq0 : q = 0
  · subst hq0
    have HGD : Hid (Good l) := (good_iff hok).1 hq
    obtain ⟨K, hK⟩ : ∃ K, (layB l).length = K := ⟨_, rfl⟩
    have hKp : 0 < K := by rw [← hK]; exact layB_pos l
    have hKb : K ≤ 200000000 := by rw [← hK]; exact layB_len HGD.out
    obtain ⟨k1, hk1⟩ : ∃ k1, K = k1 + 1 := ⟨K - 1, by omega⟩
    have HK : Hid ((layB l).length = K ∧ K = k1 + 1 ∧ ((layB l).take k1).length = k1 ∧ K ≤ 1000000000) := ⟨hK, hk1, by rw [List.length_take]; omega, by omega⟩
    have HKP : Hid (0 < K) := hKp
    have HLess : Hid (getM ((layB l).take k1) = none) := back_less HGD.out (by omega) (by unfold maxLen; omega)
    have HMore : Hid (getM (layB l ++ [0]) = none) := back_more HGD.out (by unfold maxLen; omega) 0
    obtain ⟨K2, hK2⟩ : ∃ K2, (layB l ++ [0]).length = K2 := ⟨_, rfl⟩
    have HK2 : Hid ((layB l ++ [0]).length = K2 ∧ K2 ≤ 140737488355328) := ⟨hK2, by rw [← hK2, List.length_append, hK]; simp; omega⟩
    have hK0 : ((K : Int) == 0) = false := beq_eq_false_iff_ne.2 (by omega)
    have hKz : ¬ (K : Int) = 0 := by omega
    clear hl hok hnb hA hB hq hK hKb hk1 hK2 hKp
    go_enter Try.func7, Try.ntmps7
    go_wp2_with (first
      | (go_at_call 13; have _u := HAW.out; clear _u; refine Calls.mono (awake_any w11) ?_; rintro e w20 ⟨rfl, ha⟩; have H20 := show Hid (After w w20) from After.trans HAW.out ha; clear ha)
      | (go_at_call 17; have _u := H10.out; clear _u; refine Calls.mono (get_none (some ⟨b5, o5, none⟩) k1 c5 ((layB l).take k1) HK.out.2.2.1 (by have := H5.out.2.1; have := HK.out.2.1; omega) (fun e => by cases e) (by have := HK.out.2.2.2; have := HK.out.2.1; omega) w10 ((H5.out.1.take k1).after H10.out.2) HLess.out) ?_; rintro e w11 ⟨rfl, ha⟩; have HAW := show Hid (After w w11) from After.trans H10.out.1 ha; clear ha)
      | (refine wpList_of_run' rfl (x_slice (b := b5) (off := o5) (len := K) (cap := c5) (k := k1) (x := .tmp 83) (y := .tmp 86) rfl rfl rfl (by have := H5.out.2.1; have := HK.out.2.1; omega)) ?_)
      | (refine wpList_of_run' rfl (x_sub1 (K := K) (k := k1) (x := .tmp 85) (y := .const (.int .i64 1)) rfl rfl rfl HK.out.2.1 HK.out.2.2.2) ?_)
      | (go_at_call 19; refine Calls.mono (same19 (some ⟨g6, 0, none⟩) ao n ca l l n n HF.out.1 HF.out.1 hbn w9 (H6.out.1.after H9.out.2.2) (HF.out.2.1.after H9.out.1)) ?_; rw [decide_eq_true rfl]; rintro e w10 ⟨rfl, ha⟩; have H10 := show Hid (After w w10 ∧ After w5 w10) from ⟨After.trans H9.out.1 ha, After.trans H9.out.2.1 ha⟩; clear ha)
      | (go_at_call 17; have _u := H8.out; clear _u; refine Calls.mono (get_none a8 K2 c8 (layB l ++ [0]) HK2.out.1 H8.out.2.1 H8.out.2.2.1 HK2.out.2 w8 H8.out.1 HMore.out) ?_; rintro e w9 ⟨rfl, ha⟩; have H9 := show Hid (After w w9 ∧ After w5 w9 ∧ After w6 w9) from ⟨After.trans H6.out.2.2 (After.trans H8.out.2.2.2 ha), After.trans H6.out.2.1 (After.trans H8.out.2.2.2 ha), After.trans H8.out.2.2.2 ha⟩; clear ha)
      | (at_builtin; have _u := H7.out; clear _u; refine wpList_append_any rfl _ _ rfl w6.heap.size v7 (layB l) rfl (H7.out.1.below (after_alloc (After.refl w7) _) (Nat.le_refl _)) (some ⟨w7.heap.size, 0, none⟩) 1 [0] 1 rfl rfl (bytes_0 w7) (by have := HK.out.1; have := HK.out.2.2.2; rw [HK.out.1]; simp; omega) (by have := H7.out.2.size; simp; omega) ?_; intro v8 w8 ho hg; have HA8 := show Hid (After w6 w8) from after_grown (After.trans H7.out.2 (after_alloc (After.refl w7) _)) hg (Nat.le_refl _) (fun k hk => (World.ownsRow.lt H7.out.1 k hk).1); obtain ⟨a8, c8, he8, hb8, hc8, hz8⟩ := own_sl ho HK2.out.1; subst he8; have H8 := show Hid (BytesAt w8 a8 (layB l ++ [0]) ∧ K2 ≤ c8 ∧ (a8 = none → K2 = 0) ∧ After w6 w8) from ⟨hb8, hc8, hz8, HA8.out⟩; clear ho hg hb8 hc8 hz8)
      | (at_builtin; have _u := H6.out; clear _u; refine wpList_append_any rfl _ _ rfl w6.heap.size (.slice (some ⟨w6.heap.size, 0, none⟩) 0 0) [] rfl (Own.fresh w6) (some ⟨b5, o5, none⟩) c5 (layB l) K HK.out.1 rfl (H5.out.1.after (After.trans H6.out.2.1 (after_alloc (After.refl w6) _))) (by rw [HK.out.1]; have := HK.out.2.2.2; simp; omega) (by simp) ?_; intro v7 w7 ho hg; have H7 := show Hid (Own w7 w6.heap.size v7 (layB l) ∧ After w6 w7) from ⟨ho, after_grown (after_alloc (After.refl w6) _) hg (Nat.le_refl _) (fun k hk => by cases hk; exact Nat.le_refl _)⟩; clear ho hg)
      | (go_at_call 17; have _u := H5.out; clear _u; refine Calls.mono (get_good (some ⟨b5, o5, none⟩) K c5 l n HF.out.1 HGD.out rfl HK.out.1 H5.out.2.1 (fun e => by cases e) (by have := HK.out.2.2.2; omega) w5 H5.out.1) ?_; rintro e w6 ⟨g6, he, hA6, ha⟩; subst he; have H6 := show Hid (OpsAt w6 (some ⟨g6, 0, none⟩) l ∧ After w5 w6 ∧ After w w6) from ⟨hA6, ha, After.trans H5.out.2.2 ha⟩; clear ha hA6)
      | (go_at_call 14; have _u := H1.out; clear _u; refine Calls.mono (put_some ao n ca l HF.out.1 HGD.out w1 (HF.out.2.1.after H1.out) HK.out.1 HKP.out) ?_; rintro e w5 ⟨b5, o5, c5, he, h1, h2, ha⟩; subst he; have H5 := show Hid (BytesAt w5 (some ⟨b5, o5, none⟩) (layB l) ∧ K ≤ c5 ∧ After w w5) from ⟨h1, h2, After.trans H1.out ha⟩; clear h1 h2 ha)
      | (go_at_call 14; have _u := H0.out; clear _u; refine Calls.mono (put_good (some ⟨g0, 0, none⟩) nx nx X HX.out.1 HX.out.2.1 w0 H0.out.1 HX.out.2.2 HF.out.2.2.1) ?_; rintro e w1 ⟨a1, c1, he, h1, _, _, ha⟩; subst he; have H1 := show Hid (After w w1) from After.trans H0.out.2 ha; have v1 : (convert 30 9 (.slice a1 nb c1)).run Try.prog w1 = .ok (.string (strOf bs)) w1 := (by have h := conv_at c1 h1; rw [HF.out.2.2.1] at h; exact h); have v2 : (convert 30 9 (.slice bo nb cb)).run Try.prog w1 = .ok (.string (strOf bs)) w1 := (by have h := conv_at cb (HF.out.2.2.2.after H1.out); rw [HF.out.2.2.1] at h; exact h); clear h1 ha H0)
      | (go_at_call 17; refine Calls.mono HG1.out ?_; rintro e w0 ⟨g0, he, hA0, ha⟩; subst he; have H0 := show Hid (OpsAt w0 (some ⟨g0, 0, none⟩) X ∧ After w w0) from ⟨hA0, ha⟩; clear ha hA0))
    go_ret
    exact ⟨rfl, H20.out⟩
  · have hqi : ¬ (q : Int) = 0 := by omega
    have hqb : ((q : Int) == 0) = false := beq_eq_false_iff_ne.2 hqi
    have hqn : ((q : Int) != 0) = true := by simp [bne, hqb]
    clear hl hok hnb hA hB hq
    go_enter Try.func7, Try.ntmps7
    go_wp2_with (first
      | (go_at_call 13; have _u := HAW.out; clear _u; refine Calls.mono (awake_any w5) ?_; rintro e w20 ⟨rfl, ha⟩; have H20 := show Hid (After w w20) from After.trans HAW.out ha; clear ha)
      | (go_at_call 14; have _u := H1.out; clear _u; refine Calls.mono (put_bad ao n ca l HF.out.1 HOK.out hbn w1 (HF.out.2.1.after H1.out) HQ.out hq0) ?_; rintro e w5 ⟨a5, c5, he, ha⟩; subst he; have HAW := show Hid (After w w5) from After.trans H1.out ha; clear ha)
      | (go_at_call 14; have _u := H0.out; clear _u; refine Calls.mono (put_good (some ⟨g0, 0, none⟩) nx nx X HX.out.1 HX.out.2.1 w0 H0.out.1 HX.out.2.2 HF.out.2.2.1) ?_; rintro e w1 ⟨a1, c1, he, h1, _, _, ha⟩; subst he; have H1 := show Hid (After w w1) from After.trans H0.out.2 ha; have v1 : (convert 30 9 (.slice a1 nb c1)).run Try.prog w1 = .ok (.string (strOf bs)) w1 := (by have h := conv_at c1 h1; rw [HF.out.2.2.1] at h; exact h); have v2 : (convert 30 9 (.slice bo nb cb)).run Try.prog w1 = .ok (.string (strOf bs)) w1 := (by have h := conv_at cb (HF.out.2.2.2.after H1.out); rw [HF.out.2.2.1] at h; exact h); clear h1 ha H0)
      | (go_at_call 17; refine Calls.mono HG1.out ?_; rintro e w0 ⟨g0, he, hA0, ha⟩; subst he; have H0 := show Hid (OpsAt w0 (some ⟨g0, 0, none⟩) X ∧ After w w0) from ⟨hA0, ha⟩; clear ha hA0))
    go_ret
    exact ⟨rfl, H20.out⟩

theorem back_any (ao bo : Option Addr) (n ca nb cb : Nat) (l : List Opn) (bs : List UInt8) (hl : l.length = n) (hok : ∀ x ∈ l, x.Ok) (hbn : n ≤ 1152921504606846976) (hnb : bs.length = nb) (hcb : nb ≤ cb) (hbb : nb ≤ 140737488355328) (w : World) (hA : OpsAt w ao l) (hB : BytesAt w bo bs) :
    Calls Try.prog 7 #[.slice ao n ca, .slice bo nb cb] w fun e w' => e = .returned (.bool true) ∧ After w w' := by
  have hzb : bo = none → nb = 0 := fun e => by subst e; have := bytesAt_none hB; rw [this] at hnb; simpa using hnb.symm
  cases hg : getM bs with
  | none => exact back_n ao bo n ca nb cb l bs hl hok hbn hnb w hA hB (get_none bo nb cb bs hnb hcb hzb hbb w hB hg)
  | some X =>
    obtain ⟨_, h2, h3⟩ := getM_some (by rw [hnb]; unfold maxLen; omega) hg
    exact back_s ao bo n ca nb cb l bs hl hok hbn hnb w hA hB X X.length ⟨rfl, h3, h2⟩ (get_good bo nb cb X X.length rfl h3 h2 hnb hcb hzb hbb w hB)
end Go.Proofs.Ytpplnomomcdemaa
