/-
  THE WALK OF stemmalaw07.OpMost.
-/
import Derived.Test.YtpplnomomcdemaaOpsOwn
namespace Go.Proofs.Ytpplnomomcdemaa
open Go.RowKit Leb
theorem bs29 (W : World) (a c d : Int) (s t : ByteArray) : (Instr.buildSlice 29 1 #[(0, .agg #[.int .i64 a, .string s, .int .i64 c, .int .i64 d, .string t])]).run Try.prog W = .ok (.slice (some ⟨W.heap.size, 0, none⟩) 1 1) (W.alloc (.cells #[.int .i64 a, .string s, .int .i64 c, .int .i64 d, .string t] 23)) := by kernel_rfl
theorem bs29z (W : World) : (Instr.buildSlice 29 0 #[]).run Try.prog W = .ok (.slice (some ⟨W.heap.size, 0, none⟩) 0 0) (W.alloc (.cells #[] 23)) := by kernel_rfl
theorem x_bs29 {oi : Oper} {a : Act} {w : World} {x : Operand} {y : Opn} (hop : oi.op = .buildSlice 29 1 #[(0, x)]) (hx : a.eval x = opV y) : (execOp a.eval oi).run Try.prog w = .ok (.value (.slice (some ⟨w.heap.size, 0, none⟩) 1 1)) (w.alloc (.cells (oc y).toArray 23)) := by
  unfold execOp
  simp only [hop, List.map_toArray, List.map_cons, List.map_nil, hx, Sem.run_bind, bs29 w, Result.andThen_ok]
  rfl
theorem x_bs29z {oi : Oper} {a : Act} {w : World} (hop : oi.op = .buildSlice 29 0 #[]) : (execOp a.eval oi).run Try.prog w = .ok (.value (.slice (some ⟨w.heap.size, 0, none⟩) 0 0)) (w.alloc (.cells #[] 23)) := by
  unfold execOp
  simp only [hop, List.map_toArray, List.map_nil, Sem.run_bind, bs29z w, Result.andThen_ok]
  rfl
theorem good_rep {x : Opn} (hx : x.Ok) (hm : mayB x = true) : Good (List.replicate 256 x) :=
  ⟨by rw [List.length_replicate]; exact Nat.le_refl _, fun y hy => by rw [(List.mem_replicate.1 hy).2]; exact hx, fun y hy => by rw [(List.mem_replicate.1 hy).2]; exact hm⟩
theorem putE_more (x : Opn) : putE (List.replicate 256 x ++ [x]) = 5 := by
  unfold putE
  rw [if_pos (by rw [List.length_append, List.length_replicate]; simp)]
theorem putE_one {x : Opn} (hm : mayB x = false) : putE [x] = 40 := by
  unfold putE
  rw [if_neg (by simp), if_neg (by simp [hm])]
set_option maxRecDepth 100000 in
set_option maxHeartbeats 2400000 in
theorem most_any (x : Opn) (hx : x.Ok) (w : World) : Calls Try.prog 8 #[opV x] w fun e w' => e = .returned (.bool true) ∧ After w w' := by
  have HX : Hid x.Ok := hx
  obtain ⟨w0, hw0⟩ : ∃ w0, w.alloc (.cells (oc x).toArray 23) = w0 := ⟨_, rfl⟩
  have HW0 : Hid (After w w0 ∧ RowIs w0 w.heap.size 23 (oc x)) := ⟨by rw [← hw0]; exact after_alloc (After.refl w) _, by rw [← hw0]; exact RowIs.new w 23 (oc x)⟩
  clear hx
  cases hm : mayB x with
  | false =>
    have HE : Hid (putE [x] = 40) := putE_one hm
    have HM : Hid (errOf (mayB x) = 40) := by rw [hm]; rfl
    clear hm
    obtain ⟨k, nm, p, b, tx⟩ := x
    go_enter Try.func8, Try.ntmps8
    go_wp2_with (first
      | (go_at_call 13; refine Calls.mono (awake_any w2) ?_; rintro e w3 ⟨rfl, ha⟩; have H3 := show Hid (After w w3) from After.trans H2.out ha; clear ha)
      | (go_at_call 14; refine Calls.mono (put_bad (some ⟨w1.heap.size, 0, none⟩) 1 1 [⟨k, nm, p, b, tx⟩] rfl (fun y hy => by rw [List.mem_singleton.1 hy]; exact HX.out) (by omega) _ (ops_one w1 ⟨k, nm, p, b, tx⟩) HE.out (by omega)) ?_; rintro e w2 ⟨a2, c2, he, ha⟩; subst he; have H2 := show Hid (After w w2) from After.trans H1.out.1 (After.trans (after_alloc (After.refl w1) _) ha); clear ha)
      | (refine wpList_load_row rfl 23 (.tmp 1) rfl w.heap.size rfl 23 _ (0, 0) _ H1.out.2 Try.underlying23 rfl (by kernel_rfl) ?_)
      | (go_at_call 9; refine Calls.mono (check_any ⟨k, nm, p, b, tx⟩ HX.out w0) ?_; rw [HM.out]; rintro e w1 ⟨rfl, ha⟩; have H1 := show Hid (After w w1 ∧ RowIs w1 w.heap.size 23 _) from ⟨After.trans HW0.out.1 ha, HW0.out.2.below ha HW0.out.2.lt⟩; clear ha)
      | (refine wpList_load_row rfl 23 (.tmp 1) rfl w.heap.size rfl 23 _ (0, 0) _ HW0.out.2 Try.underlying23 rfl (by kernel_rfl) ?_; clear hw0))
    go_ret
    exact ⟨rfl, H3.out⟩
  | true =>
    have HM : Hid (errOf (mayB x) = 0) := by rw [hm]; rfl
    have HGD : Hid (Good (List.replicate 256 x)) := good_rep HX.out hm
    have HPE : Hid (putE (List.replicate 256 x ++ [x]) = 5) := putE_more x
    clear hm
    obtain ⟨k, nm, p, b, tx⟩ := x
    go_enter Try.func8, Try.ntmps8
    go_wp2_with (first
      | (go_at_call 9; refine Calls.mono (check_any ⟨k, nm, p, b, tx⟩ HX.out w0) ?_; rw [HM.out]; rintro e w1 ⟨rfl, ha⟩; have H1 := show Hid (After w w1 ∧ RowIs w1 w.heap.size 23 _) from ⟨After.trans HW0.out.1 ha, HW0.out.2.below ha HW0.out.2.lt⟩; clear ha)
      | (refine wpList_load_row rfl 23 (.tmp 1) rfl w.heap.size rfl 23 _ (0, 0) _ HW0.out.2 Try.underlying23 rfl (by kernel_rfl) ?_; clear hw0))
    go_loopw [5, 6] (fun v i wr => ∃ (n : Nat), n ≤ 256 ∧ i = .int .i64 n ∧ Hid (OwnO wr w1.heap.size v (List.replicate n ⟨k, nm, p, b, tx⟩)) ∧ Hid (After w1 wr)) (fun _ i _ => 256 - (intOf i).toNat)
    case atStart => exact ⟨0, by omega, rfl, OwnO.nil _ _, After.refl _⟩
    case round =>
      obtain ⟨n, hn, rfl, HO, HBr⟩ := hrel
      by_cases hlt : n < 256
      · have hni : (n : Int) < 256 := by omega
        have HRr := show Hid (RowIs wr w.heap.size 23 _) from H1.out.2.below HBr.out H1.out.2.lt
        go_wp2_with (first
          | (at_builtin; refine wpList_append_ops rfl _ _ rfl w1.heap.size _ (List.replicate n ⟨k, nm, p, b, tx⟩) rfl (HO.out.after (after_alloc (After.refl wr) _)) (some ⟨wr.heap.size, 0, none⟩) 1 [⟨k, nm, p, b, tx⟩] 1 rfl rfl (ops_one wr ⟨k, nm, p, b, tx⟩) (by rw [List.length_replicate]; omega) (by have := HBr.out.size; simp; omega) ?_; intro v6 w6 ho6 hg6 _; have HO6 := show Hid (OwnO w6 w1.heap.size v6 (List.replicate (n + 1) ⟨k, nm, p, b, tx⟩)) from (by rw [List.replicate_succ']; exact ho6); have HB6 := show Hid (After w1 w6) from after_grown (after_alloc HBr.out _) hg6 (Nat.le_refl _) (fun q hq => (World.ownsRow.lt HO.out q hq).1); clear ho6 hg6)
          | (refine wpList_load_row rfl 23 (.tmp 1) rfl w.heap.size rfl 23 _ (0, 0) _ HRr.out Try.underlying23 rfl (by kernel_rfl) ?_))
        go_roundw
        case rel => exact ⟨n + 1, by omega, by go_num, HO6.out, HB6.out⟩
        case measure => simp [intOf]; omega
      · obtain rfl : n = 256 := by omega
        obtain ⟨ao, cap, hv, hA, hcap, _⟩ := HO.out.at
        rw [List.length_replicate] at hv hcap
        subst hv
        obtain ⟨y, hy⟩ : ∃ y : Opn, (⟨k, nm, p, b, tx⟩ : Opn) = y := ⟨_, rfl⟩
        rw [hy] at HO HGD HPE hA
        obtain ⟨L, hL⟩ : ∃ L, List.replicate 256 y = L := ⟨_, rfl⟩
        rw [hL] at HO HGD HPE hA
        obtain ⟨K, hK⟩ : ∃ K, (layB L).length = K := ⟨_, rfl⟩
        have HK : Hid ((layB L).length = K ∧ 0 < K ∧ K ≤ 200000000) := ⟨hK, by rw [← hK]; exact layB_pos L, by rw [← hK]; exact layB_len HGD.out⟩
        have HL : Hid (L.length = 256 ∧ OpsAt wr ao L ∧ (L ++ [y]).length = 257 ∧ ∀ z ∈ L ++ [y], z.Ok) := ⟨by rw [← hL, List.length_replicate], hA, by rw [← hL]; simp, fun z hz => (List.mem_append.1 hz).elim (fun h => HGD.out.ok z h) (fun h => by rw [List.mem_singleton.1 h, ← hy]; exact HX.out)⟩
        have HRW := show Hid (wr.rangeAt w.heap.size 0 (oc y)) from (by rw [← hy]; exact fun j v hj => by { rw [Nat.zero_add]; exact (H1.out.2.below HBr.out H1.out.2.lt).cell hj })
        clear hA hK hL hy
        go_wp2_with (first
          | (go_at_call 17; refine Calls.mono (get_good (some ⟨b2, o2, none⟩) K c2 L 256 HL.out.1 HGD.out rfl HK.out.1 H2.out.2.1 (fun e => by cases e) (by have := HK.out.2.2; omega) w2 H2.out.1) ?_; rintro e w3 ⟨g3, he, hA3, ha⟩; subst he; have H3 := show Hid (OpsAt w3 (some ⟨g3, 0, none⟩) L ∧ After wr w3) from ⟨hA3, After.trans H2.out.2.2 ha⟩; clear ha hA3)
          | (go_at_call 14; refine Calls.mono (put_some ao 256 cap L HL.out.1 HGD.out wr HL.out.2.1 HK.out.1 HK.out.2.1) ?_; rintro e w2 ⟨b2, o2, c2, he, h1, h2, ha⟩; subst he; have H2 := show Hid (BytesAt w2 (some ⟨b2, o2, none⟩) (layB L) ∧ K ≤ c2 ∧ After wr w2) from ⟨h1, h2, ha⟩; clear h1 h2 ha))
        have HBW := show Hid (After w wr) from After.trans H1.out.1 HBr.out
        have HR3 := show Hid (w3.rangeAt w.heap.size 0 (oc y)) from range_after HRW.out H3.out.2
        have HA3 := show Hid (OpsAt w3 ao L) from HL.out.2.1.after H3.out.2
        refine wp_region_noPanic ?_
        refine wp_region_held_drew (S := After w3) (by kernel_rfl) (After.drew (After.refl w3)) ?_
        intro hS0
        refine tk 1 47 (.slice ao 256 cap) (fuel := 11) rfl (by kernel_rfl) (by kernel_rfl) (by kernel_rfl) (by kernel_rfl) noPanic_false (by kernel_rfl) (fun _ _ => by kernel_rfl) hS0 ?_
        refine tk 3 49 (opV y) (fuel := 10) rfl (by kernel_rfl) (by kernel_rfl) (by kernel_rfl) (by kernel_rfl) noPanic_false (by kernel_rfl) (fun W hW => x_ld23 (x := .tmp 1) (g := w.heap.size) (p := 0) (by kernel_rfl) (by kernel_rfl) (range_after HR3.out hW)) hS0 ?_
        refine wpAnyH_all (rs := [0, 4]) (by kernel_rfl) (by simp) (fun i hi => ?_)
        have hi2 : i = 0 ∨ i = 4 := by simpa using hi
        clear hi
        rcases hi2 with rfl | rfl
        · refine opVal 0 46 (.slice (some ⟨w3.drew.heap.size, 0, none⟩) 0 0) (w3.drew.alloc (.cells #[] 23)) rfl (by kernel_rfl) (by kernel_rfl) (x_bs29z (w := w3.drew) (by kernel_rfl)) ?_
          have hAwa : After w3 (w3.drew.alloc (.cells #[] 23)) := after_alloc hS0 _
          have howa : OwnO (w3.drew.alloc (.cells #[] 23)) w3.heap.size (.slice (some ⟨w3.drew.heap.size, 0, none⟩) 0 0) [] := World.ownsRow_made w3.drew #[] 0 hS0.size (by decide) rfl
          obtain ⟨gwa, hgwa⟩ : ∃ g, w3.drew.heap.size = g := ⟨_, rfl⟩
          obtain ⟨wa, hwa⟩ : ∃ W, w3.drew.alloc (.cells #[] 23) = W := ⟨_, rfl⟩
          rw [hwa, hgwa] at howa
          rw [hwa] at hAwa
          rw [hwa, hgwa]
          clear hwa hgwa
          refine ⟨hAwa, ?_⟩
          refine wpAnyH_all (rs := [2, 4]) (by kernel_rfl) (by simp) (fun i hi => ?_)
          have hi2 : i = 2 ∨ i = 4 := by simpa using hi
          clear hi
          rcases hi2 with rfl | rfl
          · refine opAppO 2 48 (.tmp 46) (.tmp 47) w3.heap.size (.slice (some ⟨gwa, 0, none⟩) 0 0) [] ao 256 cap L rfl (by kernel_rfl) (by kernel_rfl) (by kernel_rfl) (by kernel_rfl) HL.out.1 (by kernel_rfl) howa (HA3.out.after hAwa) (by simp) (hAwa.size) ?_
            intro vb wb hob hgb
            rw [List.nil_append] at hob
            have hAb : After w3 wb := after_grown hAwa hgb (Nat.le_refl _) (fun q hq => (World.ownsRow.lt howa q hq).1)
            refine ⟨hAb, ?_⟩
            refine wpAnyH_all (rs := [4]) (by kernel_rfl) (by simp) (fun i hi => ?_)
            obtain rfl : i = 4 := by simpa using hi
            clear hi
            refine opVal 4 50 (.slice (some ⟨wb.heap.size, 0, none⟩) 1 1) (wb.alloc (.cells (oc y).toArray 23)) rfl (by kernel_rfl) (by kernel_rfl) (x_bs29 (w := wb) (x := .tmp 49) (by kernel_rfl) (by kernel_rfl)) ?_
            have hAwc : After w3 (wb.alloc (.cells (oc y).toArray 23)) := after_alloc hAb _
            have howc : OpsAt (wb.alloc (.cells (oc y).toArray 23)) (some ⟨wb.heap.size, 0, none⟩) [y] := ops_one wb y
            obtain ⟨gwc, hgwc⟩ : ∃ g, wb.heap.size = g := ⟨_, rfl⟩
            obtain ⟨wc, hwc⟩ : ∃ W, wb.alloc (.cells (oc y).toArray 23) = W := ⟨_, rfl⟩
            rw [hwc, hgwc] at howc
            rw [hwc] at hAwc
            rw [hwc, hgwc]
            have hoc := hob.after (show After wb wc from by rw [← hwc]; exact after_alloc (After.refl wb) _)
            clear hwc hgwc
            refine ⟨hAwc, ?_⟩
            refine wpAnyH_all (rs := [5]) (by kernel_rfl) (by simp) (fun i hi => ?_)
            obtain rfl : i = 5 := by simpa using hi
            clear hi
            refine opAppO 5 51 (.tmp 48) (.tmp 50) w3.heap.size vb L (some ⟨gwc, 0, none⟩) 1 1 [y] rfl (by kernel_rfl) (by kernel_rfl) (by kernel_rfl) (by kernel_rfl) rfl (by kernel_rfl) hoc howc (by rw [HL.out.1]; omega) (hAwc.size) ?_
            intro v8 w8 ho8 hg8
            have hA8 : After w3 w8 := after_grown hAwc hg8 (Nat.le_refl _) (fun q hq => (World.ownsRow.lt hoc q hq).1)
            obtain ⟨a8, c8, hv8, hA9, _, _⟩ := ho8.at
            rw [HL.out.2.2.1] at hv8
            subst hv8
            refine ⟨hA8, ?_⟩
            refine tkCall 6 52 14 #[.slice a8 257 c8] (fun v w => ∃ a9 c9, v = .tuple #[.slice a9 0 c9, .int .i64 5]) (fuel := 5) rfl (by kernel_rfl) (by kernel_rfl) (by kernel_rfl) (fun _ => by kernel_rfl) hA8 ?_ ?_
            · refine Calls.mono (put_bad a8 257 c8 (L ++ [y]) HL.out.2.2.1 HL.out.2.2.2 (by omega) w8 hA9 HPE.out (by omega)) ?_
              rintro e w9 ⟨a9, c9, he, ha⟩
              exact ⟨_, he, ⟨a9, c9, rfl⟩, ha⟩
            intro v9 w9 hv9 hA10
            obtain ⟨a9, c9, rfl⟩ := hv9
            have hS9 := After.refl w9
            refine tk 7 45 (.tuple #[.slice a9 0 c9, .int .i64 5]) (fuel := 4) rfl (by kernel_rfl) (by kernel_rfl) (by kernel_rfl) (by kernel_rfl) noPanic_false (by kernel_rfl) (fun _ _ => by kernel_rfl) hS9 ?_
            refine tk 8 53 (.slice a9 0 c9) (fuel := 3) rfl (by kernel_rfl) (by kernel_rfl) (by kernel_rfl) (by kernel_rfl) noPanic_false (by kernel_rfl) (fun _ _ => by kernel_rfl) hS9 ?_
            refine tk 9 54 (.int .i64 5) (fuel := 2) rfl (by kernel_rfl) (by kernel_rfl) (by kernel_rfl) (by kernel_rfl) noPanic_false (by kernel_rfl) (fun _ _ => by kernel_rfl) hS9 ?_
            refine tk 10 11 (.slice a9 0 c9) (fuel := 1) rfl (by kernel_rfl) (by kernel_rfl) (by kernel_rfl) (by kernel_rfl) noPanic_false (by kernel_rfl) (fun _ _ => by kernel_rfl) hS9 ?_
            refine tk 11 12 (.int .i64 5) (fuel := 0) rfl (by kernel_rfl) (by kernel_rfl) (by kernel_rfl) (by kernel_rfl) noPanic_false (by kernel_rfl) (fun _ _ => by kernel_rfl) hS9 ?_
            refine wpAnyH_done (by kernel_rfl) (NoPanic.normal ?_) _
            have H9 := show Hid (After w w9 ∧ After w3 w9) from ⟨After.trans HBW.out (After.trans H3.out.2 (After.trans hA8 hA10)), After.trans hA8 hA10⟩
            have HA9 := show Hid (OpsAt w9 (some ⟨g3, 0, none⟩) L ∧ OpsAt w9 ao L) from ⟨H3.out.1.after (After.trans hA8 hA10), HA3.out.after (After.trans hA8 hA10)⟩
            clear hS9 hA10 hA8 hA9 ho8 hg8
            clear howc hoc hob hgb howa hAwa hAb hAwc hS0
            go_simp
            go_wp2_with (first
              | (go_at_call 13; refine Calls.mono (awake_any w10) ?_; rintro e w11 ⟨rfl, ha⟩; have H11 := show Hid (After w w11) from After.trans H10.out ha; clear ha)
              | (go_at_call 19; refine Calls.mono (same19 (some ⟨g3, 0, none⟩) ao 256 cap L L 256 256 HL.out.1 HL.out.1 (by omega) w9 HA9.out.1 HA9.out.2) ?_; rw [decide_eq_true rfl]; rintro e w10 ⟨rfl, ha⟩; have H10 := show Hid (After w w10) from After.trans H9.out.1 ha; clear ha))
            go_ret
            exact ⟨rfl, H11.out⟩
          · refine opVal 4 50 (.slice (some ⟨wa.heap.size, 0, none⟩) 1 1) (wa.alloc (.cells (oc y).toArray 23)) rfl (by kernel_rfl) (by kernel_rfl) (x_bs29 (w := wa) (x := .tmp 49) (by kernel_rfl) (by kernel_rfl)) ?_
            have hAwb : After w3 (wa.alloc (.cells (oc y).toArray 23)) := after_alloc hAwa _
            have howb : OpsAt (wa.alloc (.cells (oc y).toArray 23)) (some ⟨wa.heap.size, 0, none⟩) [y] := ops_one wa y
            obtain ⟨gwb, hgwb⟩ : ∃ g, wa.heap.size = g := ⟨_, rfl⟩
            obtain ⟨wb, hwb⟩ : ∃ W, wa.alloc (.cells (oc y).toArray 23) = W := ⟨_, rfl⟩
            rw [hwb, hgwb] at howb
            rw [hwb] at hAwb
            rw [hwb, hgwb]
            have hob := howa.after (show After wa wb from by rw [← hwb]; exact after_alloc (After.refl wa) _)
            have hne : gwa < gwb := by rw [← hgwb]; exact (World.ownsRow.lt howa gwa rfl).2
            clear hwb hgwb
            refine ⟨hAwb, ?_⟩
            refine wpAnyH_all (rs := [2]) (by kernel_rfl) (by simp) (fun i hi => ?_)
            obtain rfl : i = 2 := by simpa using hi
            clear hi
            refine opAppO 2 48 (.tmp 46) (.tmp 47) w3.heap.size (.slice (some ⟨gwa, 0, none⟩) 0 0) [] ao 256 cap L rfl (by kernel_rfl) (by kernel_rfl) (by kernel_rfl) (by kernel_rfl) HL.out.1 (by kernel_rfl) hob (HA3.out.after hAwb) (by simp) (hAwb.size) ?_
            intro vc wc hoc hgc
            rw [List.nil_append] at hoc
            have hAc : After w3 wc := after_grown hAwb hgc (Nat.le_refl _) (fun q hq => (World.ownsRow.lt hob q hq).1)
            have hoz : OpsAt wc (some ⟨gwb, 0, none⟩) [y] := ops_grown howb hgc (fun e => by have e2 := Option.some.inj e; simp only at e2; omega)
            refine ⟨hAc, ?_⟩
            refine wpAnyH_all (rs := [5]) (by kernel_rfl) (by simp) (fun i hi => ?_)
            obtain rfl : i = 5 := by simpa using hi
            clear hi
            refine opAppO 5 51 (.tmp 48) (.tmp 50) w3.heap.size vc L (some ⟨gwb, 0, none⟩) 1 1 [y] rfl (by kernel_rfl) (by kernel_rfl) (by kernel_rfl) (by kernel_rfl) rfl (by kernel_rfl) hoc hoz (by rw [HL.out.1]; omega) (hAc.size) ?_
            intro v8 w8 ho8 hg8
            have hA8 : After w3 w8 := after_grown hAc hg8 (Nat.le_refl _) (fun q hq => (World.ownsRow.lt hoc q hq).1)
            obtain ⟨a8, c8, hv8, hA9, _, _⟩ := ho8.at
            rw [HL.out.2.2.1] at hv8
            subst hv8
            refine ⟨hA8, ?_⟩
            refine tkCall 6 52 14 #[.slice a8 257 c8] (fun v w => ∃ a9 c9, v = .tuple #[.slice a9 0 c9, .int .i64 5]) (fuel := 5) rfl (by kernel_rfl) (by kernel_rfl) (by kernel_rfl) (fun _ => by kernel_rfl) hA8 ?_ ?_
            · refine Calls.mono (put_bad a8 257 c8 (L ++ [y]) HL.out.2.2.1 HL.out.2.2.2 (by omega) w8 hA9 HPE.out (by omega)) ?_
              rintro e w9 ⟨a9, c9, he, ha⟩
              exact ⟨_, he, ⟨a9, c9, rfl⟩, ha⟩
            intro v9 w9 hv9 hA10
            obtain ⟨a9, c9, rfl⟩ := hv9
            have hS9 := After.refl w9
            refine tk 7 45 (.tuple #[.slice a9 0 c9, .int .i64 5]) (fuel := 4) rfl (by kernel_rfl) (by kernel_rfl) (by kernel_rfl) (by kernel_rfl) noPanic_false (by kernel_rfl) (fun _ _ => by kernel_rfl) hS9 ?_
            refine tk 8 53 (.slice a9 0 c9) (fuel := 3) rfl (by kernel_rfl) (by kernel_rfl) (by kernel_rfl) (by kernel_rfl) noPanic_false (by kernel_rfl) (fun _ _ => by kernel_rfl) hS9 ?_
            refine tk 9 54 (.int .i64 5) (fuel := 2) rfl (by kernel_rfl) (by kernel_rfl) (by kernel_rfl) (by kernel_rfl) noPanic_false (by kernel_rfl) (fun _ _ => by kernel_rfl) hS9 ?_
            refine tk 10 11 (.slice a9 0 c9) (fuel := 1) rfl (by kernel_rfl) (by kernel_rfl) (by kernel_rfl) (by kernel_rfl) noPanic_false (by kernel_rfl) (fun _ _ => by kernel_rfl) hS9 ?_
            refine tk 11 12 (.int .i64 5) (fuel := 0) rfl (by kernel_rfl) (by kernel_rfl) (by kernel_rfl) (by kernel_rfl) noPanic_false (by kernel_rfl) (fun _ _ => by kernel_rfl) hS9 ?_
            refine wpAnyH_done (by kernel_rfl) (NoPanic.normal ?_) _
            have H9 := show Hid (After w w9 ∧ After w3 w9) from ⟨After.trans HBW.out (After.trans H3.out.2 (After.trans hA8 hA10)), After.trans hA8 hA10⟩
            have HA9 := show Hid (OpsAt w9 (some ⟨g3, 0, none⟩) L ∧ OpsAt w9 ao L) from ⟨H3.out.1.after (After.trans hA8 hA10), HA3.out.after (After.trans hA8 hA10)⟩
            clear hS9 hA10 hA8 hA9 ho8 hg8
            clear hoz hoc hob hgc howa howb hAwa hAwb hAc hS0
            go_simp
            go_wp2_with (first
              | (go_at_call 13; refine Calls.mono (awake_any w10) ?_; rintro e w11 ⟨rfl, ha⟩; have H11 := show Hid (After w w11) from After.trans H10.out ha; clear ha)
              | (go_at_call 19; refine Calls.mono (same19 (some ⟨g3, 0, none⟩) ao 256 cap L L 256 256 HL.out.1 HL.out.1 (by omega) w9 HA9.out.1 HA9.out.2) ?_; rw [decide_eq_true rfl]; rintro e w10 ⟨rfl, ha⟩; have H10 := show Hid (After w w10) from After.trans H9.out.1 ha; clear ha))
            go_ret
            exact ⟨rfl, H11.out⟩
        · refine opVal 4 50 (.slice (some ⟨w3.drew.heap.size, 0, none⟩) 1 1) (w3.drew.alloc (.cells (oc y).toArray 23)) rfl (by kernel_rfl) (by kernel_rfl) (x_bs29 (w := w3.drew) (x := .tmp 49) (by kernel_rfl) (by kernel_rfl)) ?_
          have hAwa : After w3 (w3.drew.alloc (.cells (oc y).toArray 23)) := after_alloc hS0 _
          have howa : OpsAt (w3.drew.alloc (.cells (oc y).toArray 23)) (some ⟨w3.drew.heap.size, 0, none⟩) [y] := ops_one w3.drew y
          obtain ⟨gwa, hgwa⟩ : ∃ g, w3.drew.heap.size = g := ⟨_, rfl⟩
          obtain ⟨wa, hwa⟩ : ∃ W, w3.drew.alloc (.cells (oc y).toArray 23) = W := ⟨_, rfl⟩
          rw [hwa, hgwa] at howa
          rw [hwa] at hAwa
          rw [hwa, hgwa]
          clear hwa hgwa
          refine ⟨hAwa, ?_⟩
          refine wpAnyH_all (rs := [0]) (by kernel_rfl) (by simp) (fun i hi => ?_)
          obtain rfl : i = 0 := by simpa using hi
          clear hi
          refine opVal 0 46 (.slice (some ⟨wa.heap.size, 0, none⟩) 0 0) (wa.alloc (.cells #[] 23)) rfl (by kernel_rfl) (by kernel_rfl) (x_bs29z (w := wa) (by kernel_rfl)) ?_
          have hAwb : After w3 (wa.alloc (.cells #[] 23)) := after_alloc hAwa _
          have howb : OwnO (wa.alloc (.cells #[] 23)) w3.heap.size (.slice (some ⟨wa.heap.size, 0, none⟩) 0 0) [] := World.ownsRow_made wa #[] 0 hAwa.size (by decide) rfl
          obtain ⟨gwb, hgwb⟩ : ∃ g, wa.heap.size = g := ⟨_, rfl⟩
          obtain ⟨wb, hwb⟩ : ∃ W, wa.alloc (.cells #[] 23) = W := ⟨_, rfl⟩
          rw [hwb, hgwb] at howb
          rw [hwb] at hAwb
          rw [hwb, hgwb]
          have hob := howa.after (show After wa wb from by rw [← hwb]; exact after_alloc (After.refl wa) _)
          have hne : gwa < gwb := by rw [← hgwb]; exact ops_lt howa
          clear hwb hgwb
          refine ⟨hAwb, ?_⟩
          refine wpAnyH_all (rs := [2]) (by kernel_rfl) (by simp) (fun i hi => ?_)
          obtain rfl : i = 2 := by simpa using hi
          clear hi
          refine opAppO 2 48 (.tmp 46) (.tmp 47) w3.heap.size (.slice (some ⟨gwb, 0, none⟩) 0 0) [] ao 256 cap L rfl (by kernel_rfl) (by kernel_rfl) (by kernel_rfl) (by kernel_rfl) HL.out.1 (by kernel_rfl) howb (HA3.out.after hAwb) (by simp) (hAwb.size) ?_
          intro vc wc hoc hgc
          rw [List.nil_append] at hoc
          have hAc : After w3 wc := after_grown hAwb hgc (Nat.le_refl _) (fun q hq => (World.ownsRow.lt howb q hq).1)
          have hoz : OpsAt wc (some ⟨gwa, 0, none⟩) [y] := ops_grown hob hgc (fun e => by have e2 := Option.some.inj e; simp only at e2; omega)
          refine ⟨hAc, ?_⟩
          refine wpAnyH_all (rs := [5]) (by kernel_rfl) (by simp) (fun i hi => ?_)
          obtain rfl : i = 5 := by simpa using hi
          clear hi
          refine opAppO 5 51 (.tmp 48) (.tmp 50) w3.heap.size vc L (some ⟨gwa, 0, none⟩) 1 1 [y] rfl (by kernel_rfl) (by kernel_rfl) (by kernel_rfl) (by kernel_rfl) rfl (by kernel_rfl) hoc hoz (by rw [HL.out.1]; omega) (hAc.size) ?_
          intro v8 w8 ho8 hg8
          have hA8 : After w3 w8 := after_grown hAc hg8 (Nat.le_refl _) (fun q hq => (World.ownsRow.lt hoc q hq).1)
          obtain ⟨a8, c8, hv8, hA9, _, _⟩ := ho8.at
          rw [HL.out.2.2.1] at hv8
          subst hv8
          refine ⟨hA8, ?_⟩
          refine tkCall 6 52 14 #[.slice a8 257 c8] (fun v w => ∃ a9 c9, v = .tuple #[.slice a9 0 c9, .int .i64 5]) (fuel := 5) rfl (by kernel_rfl) (by kernel_rfl) (by kernel_rfl) (fun _ => by kernel_rfl) hA8 ?_ ?_
          · refine Calls.mono (put_bad a8 257 c8 (L ++ [y]) HL.out.2.2.1 HL.out.2.2.2 (by omega) w8 hA9 HPE.out (by omega)) ?_
            rintro e w9 ⟨a9, c9, he, ha⟩
            exact ⟨_, he, ⟨a9, c9, rfl⟩, ha⟩
          intro v9 w9 hv9 hA10
          obtain ⟨a9, c9, rfl⟩ := hv9
          have hS9 := After.refl w9
          refine tk 7 45 (.tuple #[.slice a9 0 c9, .int .i64 5]) (fuel := 4) rfl (by kernel_rfl) (by kernel_rfl) (by kernel_rfl) (by kernel_rfl) noPanic_false (by kernel_rfl) (fun _ _ => by kernel_rfl) hS9 ?_
          refine tk 8 53 (.slice a9 0 c9) (fuel := 3) rfl (by kernel_rfl) (by kernel_rfl) (by kernel_rfl) (by kernel_rfl) noPanic_false (by kernel_rfl) (fun _ _ => by kernel_rfl) hS9 ?_
          refine tk 9 54 (.int .i64 5) (fuel := 2) rfl (by kernel_rfl) (by kernel_rfl) (by kernel_rfl) (by kernel_rfl) noPanic_false (by kernel_rfl) (fun _ _ => by kernel_rfl) hS9 ?_
          refine tk 10 11 (.slice a9 0 c9) (fuel := 1) rfl (by kernel_rfl) (by kernel_rfl) (by kernel_rfl) (by kernel_rfl) noPanic_false (by kernel_rfl) (fun _ _ => by kernel_rfl) hS9 ?_
          refine tk 11 12 (.int .i64 5) (fuel := 0) rfl (by kernel_rfl) (by kernel_rfl) (by kernel_rfl) (by kernel_rfl) noPanic_false (by kernel_rfl) (fun _ _ => by kernel_rfl) hS9 ?_
          refine wpAnyH_done (by kernel_rfl) (NoPanic.normal ?_) _
          have H9 := show Hid (After w w9 ∧ After w3 w9) from ⟨After.trans HBW.out (After.trans H3.out.2 (After.trans hA8 hA10)), After.trans hA8 hA10⟩
          have HA9 := show Hid (OpsAt w9 (some ⟨g3, 0, none⟩) L ∧ OpsAt w9 ao L) from ⟨H3.out.1.after (After.trans hA8 hA10), HA3.out.after (After.trans hA8 hA10)⟩
          clear hS9 hA10 hA8 hA9 ho8 hg8
          clear hoz hoc hob hgc howa howb hAwa hAwb hAc hS0
          go_simp
          go_wp2_with (first
            | (go_at_call 13; refine Calls.mono (awake_any w10) ?_; rintro e w11 ⟨rfl, ha⟩; have H11 := show Hid (After w w11) from After.trans H10.out ha; clear ha)
            | (go_at_call 19; refine Calls.mono (same19 (some ⟨g3, 0, none⟩) ao 256 cap L L 256 256 HL.out.1 HL.out.1 (by omega) w9 HA9.out.1 HA9.out.2) ?_; rw [decide_eq_true rfl]; rintro e w10 ⟨rfl, ha⟩; have H10 := show Hid (After w w10) from After.trans H9.out.1 ha; clear ha))
          go_ret
          exact ⟨rfl, H11.out⟩
end Go.Proofs.Ytpplnomomcdemaa