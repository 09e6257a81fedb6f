/-
  THE WALK OF ref.Flags.
-/
import Derived.Test.YtjmflggnnchojaaPutKit
namespace Go.Proofs.Ytjmflggnnchojaa
open Go.RowKit Leb
theorem cnts_len (l : List Bool) : (cnts l).length ≤ l.length + 1 := by unfold cnts; rw [List.length_map]; exact flagLens_le _ l rfl
theorem take_snocB (l : List Bool) (k : Nat) (hk : k < l.length) : l.take (k + 1) = l.take k ++ [l[k]?.getD false] := by
  rw [List.take_add_one, List.getElem?_eq_getElem hk]; rfl
def lastB (l : List Bool) (k : Nat) : Bool := (l.take k).getLast?.getD false
theorem lastB_some (l : List Bool) (k : Nat) (h0 : k ≠ 0) (hk : k ≤ l.length) : (l.take k).getLast? = some (lastB l k) := by
  unfold lastB
  have : l.take k ≠ [] := by intro h; have := congrArg List.length h; rw [List.length_take, List.length_nil] at this; omega
  rw [List.getLast?_eq_some_getLast this]; rfl
theorem lastB_next (l : List Bool) (k : Nat) (hk : k < l.length) : lastB l (k + 1) = l[k]?.getD false := by
  unfold lastB; rw [take_snocB l k hk]; simp
set_option maxRecDepth 100000 in
set_option maxHeartbeats 1600000 in
theorem putFlags_any (ao : Option Addr) (cap : Nat) (l : List Bool) (hn : l.length ≤ 1048576) (w : World) (hI : BoolsAt w ao l) :
    Calls Try.prog 17 #[.slice ao l.length cap] w fun e W' => ∃ v, e = .returned v ∧ Own W' w.heap.size v (flagsB l) ∧ After w W' := by
  have HI : Hid (BoolsAt w ao l) := hI
  clear hI
  go_enter Try.func17, Try.ntmps17
  go_wp2
  go_loopw [3, 4, 5] (fun v t i wr => ∃ (k : Nat) (c : Bool), k ≤ l.length ∧ i = .int .i64 k ∧ t = .bool c ∧ Hid (c = lastB l k) ∧ Hid (OwnN wr w.heap.size v (cnts (l.take k))) ∧ Hid (After w wr)) (fun _ _ i _ => l.length - (intOf i).toNat)
  case atStart => exact ⟨0, false, by omega, rfl, rfl, rfl, OwnN.nil _ _, After.refl _⟩
  case round =>
    obtain ⟨k, c, hk, rfl, rfl, HA, HO, HBr⟩ := hrel
    by_cases hlt : k < l.length
    · obtain ⟨b, o, rfl, hc⟩ := HI.out (by intro h; simp [h] at hlt)
      have hck := hc k hlt
      obtain ⟨x, HX, HCK⟩ : ∃ x : Bool, Hid (x = l[k]?.getD false) ∧ Hid (w.cell? ⟨b, o + k, none⟩ = some (.bool x)) := ⟨_, rfl, hck⟩
      clear hc hck
      by_cases hk0 : k = 0
      · subst hk0
        obtain rfl : c = false := HA.out
        have HO0 : Hid (OwnN wr w.heap.size _ ([] : List Int)) := HO.out
        clear HO
        cases x with
        | false =>
          go_wp2_with (at_builtin; refine wpList_append_counts rfl _ _ rfl w.heap.size _ ([] : List Int) rfl (OwnN.keep HO0.out (fun i hi => (after_alloc (After.refl _) _).block i (World.ownsRow.lt HO0.out i hi).2)) ⟨wr.heap.size, 0, none⟩ 1 [0] 1 rfl rfl (fun i hi => by obtain rfl : i = 0 := (by simp at hi; omega); exact box_cell _ _ _) (by simp) (by have := HBr.out.size; simp; omega) ?_; intro v6 w6 ho6 hg6; have HB6 : Hid (After w w6) := after_grown (after_alloc HBr.out _) hg6 (Nat.le_refl _) (fun k hk => (World.ownsRow.lt HO0.out k hk).1); have hx6 : w6.cell? ⟨b, o, none⟩ = some (.bool false) := (Below.cell HB6.out (p := ⟨b, o, none⟩) (block_lt_of_cell HCK.out)).trans HCK.out; have HO6 : Hid (OwnN w6 w.heap.size v6 (([] : List Int) ++ [0])) := ho6; clear ho6 hg6; obtain ⟨g6, c6, hv6, hbg6, hc6⟩ := OwnN.form HO6.out (by simp); subst hv6; obtain ⟨hy6, hf6, ho8, hg8⟩ := OwnN.bump (pre := []) (m := 0) (z := 1) rfl HO6.out; have HO8 := show Hid _ from ho8; have HG8 := show Hid _ from hg8; clear ho8 hg8)
          go_roundw
          case rel => exact ⟨0 + 1, _, by omega, by go_num, rfl, by unfold Hid; rw [lastB_next l 0 hlt, ← HX.out], by unfold Hid; rw [take_snocB l 0 hlt, ← HX.out]; exact HO8.out, after_grown HB6.out HG8.out (Nat.le_refl _) (fun k hk => by cases hk; exact hbg6)⟩
          case measure => simp [intOf]; omega
        | true =>
          go_wp2_with (first | (have _u := HO5.out; clear _u; at_builtin; refine wpList_append_counts rfl _ _ rfl w.heap.size _ (([] : List Int) ++ [0]) rfl (OwnN.keep HO5.out (fun i hi => (after_alloc (After.refl _) _).block i (World.ownsRow.lt HO5.out i hi).2)) ⟨w5.heap.size, 0, none⟩ 1 [0] 1 rfl rfl (fun i hi => by obtain rfl : i = 0 := (by simp at hi; omega); exact box_cell _ _ _) (by simp) (by have := HB5.out.size; simp; omega) ?_; intro v6 w6 ho6 hg6; have HB6 : Hid (After w w6) := after_grown (after_alloc HB5.out _) hg6 (Nat.le_refl _) (fun k hk => (World.ownsRow.lt HO5.out k hk).1); have hx6 : w6.cell? ⟨b, o, none⟩ = some (.bool true) := (Below.cell HB6.out (p := ⟨b, o, none⟩) (block_lt_of_cell HCK.out)).trans HCK.out; have HO6 : Hid (OwnN w6 w.heap.size v6 ((([] : List Int) ++ [0]) ++ [0])) := ho6; clear ho6 hg6; obtain ⟨g6, c6, hv6, hbg6, hc6⟩ := OwnN.form HO6.out (by simp); subst hv6; obtain ⟨hy6, hf6, ho8, hg8⟩ := OwnN.bump (pre := [0]) (m := 1) (z := 1) rfl HO6.out; have HO8 := show Hid _ from ho8; have HG8 := show Hid _ from hg8; clear ho8 hg8) | (at_builtin; refine wpList_append_counts rfl _ _ rfl w.heap.size _ ([] : List Int) rfl (OwnN.keep HO0.out (fun i hi => (after_alloc (After.refl _) _).block i (World.ownsRow.lt HO0.out i hi).2)) ⟨wr.heap.size, 0, none⟩ 1 [0] 1 rfl rfl (fun i hi => by obtain rfl : i = 0 := (by simp at hi; omega); exact box_cell _ _ _) (by simp) (by have := HBr.out.size; simp; omega) ?_; intro v5 w5 ho5 hg5; have HB5 : Hid (After w w5) := after_grown (after_alloc HBr.out _) hg5 (Nat.le_refl _) (fun k hk => (World.ownsRow.lt HO0.out k hk).1); have hx5 : w5.cell? ⟨b, o, none⟩ = some (.bool true) := (Below.cell HB5.out (p := ⟨b, o, none⟩) (block_lt_of_cell HCK.out)).trans HCK.out; have HO5 : Hid (OwnN w5 w.heap.size v5 (([] : List Int) ++ [0])) := ho5; clear ho5 hg5))
          go_roundw
          case rel => exact ⟨0 + 1, _, by omega, by go_num, rfl, by unfold Hid; rw [lastB_next l 0 hlt, ← HX.out], by unfold Hid; rw [take_snocB l 0 hlt, ← HX.out]; exact HO8.out, after_grown HB6.out HG8.out (Nat.le_refl _) (fun k hk => by cases hk; exact hbg6)⟩
          case measure => simp [intOf]; omega
      · have HLS : Hid ((l.take k).getLast? = some c) := (by unfold Hid; rw [HA.out]; exact lastB_some l k hk0 hk)
        obtain ⟨K, HK⟩ : ∃ K, Hid (cnts (l.take k) = K) := ⟨_, rfl⟩
        have HKL : Hid (K.length ≤ 1048577) := (by unfold Hid; rw [← HK.out]; have := cnts_len (l.take k); rw [List.length_take] at this; omega)
        have HO0 : Hid (OwnN wr w.heap.size _ K) := (by unfold Hid; rw [← HK.out]; exact HO.out)
        clear HO
        have hx : wr.cell? ⟨b, o + k, none⟩ = some (.bool x) := (Below.cell HBr.out (p := ⟨b, o + k, none⟩) (block_lt_of_cell HCK.out)).trans HCK.out
        by_cases hxc : x = c
        · subst hxc
          obtain ⟨pre, V, hp1, hp2⟩ := flagLens_same _ _ HLS.out
          have hV : V ≤ 1048576 := (by have := flagLens_mem (l.take k) V (by rw [hp1]; simp); rw [List.length_take] at this; omega)
          obtain ⟨p, hp⟩ : ∃ p : List Int, pre.map (fun n : Nat => (n : Int)) = p := ⟨_, rfl⟩
          have HN : Hid (cnts (l.take (k + 1)) = p ++ [(V : Int) + 1]) := (by unfold Hid; rw [take_snocB l k hlt, ← HX.out]; unfold cnts; rw [hp2, List.map_append, hp]; rfl)
          obtain rfl : K = p ++ [(V : Int)] := (by rw [← HK.out]; unfold cnts; rw [hp1, List.map_append, hp]; rfl)
          obtain ⟨m, hm⟩ : ∃ m, p.length = m := ⟨_, rfl⟩
          have HM : Hid (p.length = m) := hm
          have hmb : m ≤ 1048577 := (by have := HKL.out; simp at this; omega)
          obtain ⟨g6, c6, hv6, hbg6, hc6⟩ := OwnN.form HO0.out (by simp)
          rw [List.length_append, HM.out] at hv6
          simp only [List.length_cons, List.length_nil] at hv6
          subst hv6
          obtain ⟨hy6, hf6, ho8, hg8⟩ := OwnN.bump (pre := p) (m := m) (z := (V : Int) + 1) HM.out HO0.out
          have HO8 := show Hid _ from ho8
          have HG8 := show Hid _ from hg8
          clear ho8 hg8 hp1 hp2 hp hm hc6
          cases x
          · go_wp2
            go_roundw
            case rel => exact ⟨k + 1, _, by omega, by go_num, rfl, by unfold Hid; rw [lastB_next l k hlt, ← HX.out], by unfold Hid; rw [HN.out]; exact HO8.out, after_grown HBr.out HG8.out (Nat.le_refl _) (fun k hk => by cases hk; exact hbg6)⟩
            case measure => simp [intOf]; omega
          · go_wp2
            go_roundw
            case rel => exact ⟨k + 1, _, by omega, by go_num, rfl, by unfold Hid; rw [lastB_next l k hlt, ← HX.out], by unfold Hid; rw [HN.out]; exact HO8.out, after_grown HBr.out HG8.out (Nat.le_refl _) (fun k hk => by cases hk; exact hbg6)⟩
            case measure => simp [intOf]; omega
        · have HN : Hid (cnts (l.take (k + 1)) = K ++ [1]) := (by unfold Hid; rw [take_snocB l k hlt, ← HX.out, ← HK.out]; unfold cnts; rw [flagLens_other _ x c HLS.out (fun h => hxc h.symm)]; simp)
          obtain ⟨m, hm⟩ : ∃ m, K.length = m := ⟨_, rfl⟩
          have HM : Hid (K.length = m) := hm
          have hmb : m ≤ 1048577 := (by have := HKL.out; omega)
          clear hm
          cases x <;> cases c
          · exact absurd rfl hxc
          · go_wp2_with (at_builtin; refine wpList_append_counts rfl _ _ rfl w.heap.size _ K rfl (OwnN.keep HO0.out (fun i hi => (after_alloc (After.refl _) _).block i (World.ownsRow.lt HO0.out i hi).2)) ⟨wr.heap.size, 0, none⟩ 1 [0] 1 rfl rfl (fun i hi => by obtain rfl : i = 0 := (by simp at hi; omega); exact box_cell _ _ _) (by have := HKL.out; simp; omega) (by have := HBr.out.size; simp; omega) ?_; intro v6 w6 ho6 hg6; have HB6 : Hid (After w w6) := after_grown (after_alloc HBr.out _) hg6 (Nat.le_refl _) (fun k hk => (World.ownsRow.lt HO0.out k hk).1); have hx6 : w6.cell? ⟨b, o + k, none⟩ = some (.bool false) := (Below.cell HB6.out (p := ⟨b, o + k, none⟩) (block_lt_of_cell HCK.out)).trans HCK.out; have HO6 : Hid (OwnN w6 w.heap.size v6 (K ++ [0])) := ho6; clear ho6 hg6; obtain ⟨g6, c6, hv6, hbg6, hc6⟩ := OwnN.form HO6.out (by simp); rw [List.length_append, HM.out] at hv6; simp only [List.length_cons, List.length_nil] at hv6; subst hv6; obtain ⟨hy6, hf6, ho8, hg8⟩ := OwnN.bump (pre := K) (m := m) (z := 1) HM.out HO6.out; have HO8 := show Hid _ from ho8; have HG8 := show Hid _ from hg8; clear ho8 hg8)
            go_roundw
            case rel => exact ⟨k + 1, _, by omega, by go_num, rfl, by unfold Hid; rw [lastB_next l k hlt, ← HX.out], by unfold Hid; rw [HN.out]; exact HO8.out, after_grown HB6.out HG8.out (Nat.le_refl _) (fun k hk => by cases hk; exact hbg6)⟩
            case measure => simp [intOf]; omega
          · go_wp2_with (at_builtin; refine wpList_append_counts rfl _ _ rfl w.heap.size _ K rfl (OwnN.keep HO0.out (fun i hi => (after_alloc (After.refl _) _).block i (World.ownsRow.lt HO0.out i hi).2)) ⟨wr.heap.size, 0, none⟩ 1 [0] 1 rfl rfl (fun i hi => by obtain rfl : i = 0 := (by simp at hi; omega); exact box_cell _ _ _) (by have := HKL.out; simp; omega) (by have := HBr.out.size; simp; omega) ?_; intro v6 w6 ho6 hg6; have HB6 : Hid (After w w6) := after_grown (after_alloc HBr.out _) hg6 (Nat.le_refl _) (fun k hk => (World.ownsRow.lt HO0.out k hk).1); have hx6 : w6.cell? ⟨b, o + k, none⟩ = some (.bool true) := (Below.cell HB6.out (p := ⟨b, o + k, none⟩) (block_lt_of_cell HCK.out)).trans HCK.out; have HO6 : Hid (OwnN w6 w.heap.size v6 (K ++ [0])) := ho6; clear ho6 hg6; obtain ⟨g6, c6, hv6, hbg6, hc6⟩ := OwnN.form HO6.out (by simp); rw [List.length_append, HM.out] at hv6; simp only [List.length_cons, List.length_nil] at hv6; subst hv6; obtain ⟨hy6, hf6, ho8, hg8⟩ := OwnN.bump (pre := K) (m := m) (z := 1) HM.out HO6.out; have HO8 := show Hid _ from ho8; have HG8 := show Hid _ from hg8; clear ho8 hg8)
            go_roundw
            case rel => exact ⟨k + 1, _, by omega, by go_num, rfl, by unfold Hid; rw [lastB_next l k hlt, ← HX.out], by unfold Hid; rw [HN.out]; exact HO8.out, after_grown HB6.out HG8.out (Nat.le_refl _) (fun k hk => by cases hk; exact hbg6)⟩
            case measure => simp [intOf]; omega
          · exact absurd rfl hxc
    · obtain hkk : k = l.length := by omega
      obtain ⟨wm, hwm⟩ : ∃ wm, wm = wr := ⟨_, rfl⟩
      subst hwm
      have HO1 := HO.out
      rw [hkk, List.take_length] at HO1
      have hKN := cnts_len l
      have HFM : Hid (∀ n ∈ flagLens l, n ≤ l.length) := flagLens_mem l
      have HBL : Hid ((flagsB l).length ≤ 30000000) := (by
        have h1 := flagLens_le _ l rfl
        have h2 := laidU_len (flagLens l) (fun n hn' => by have := flagLens_mem l n hn'; omega)
        have h3 := uintB_len10 (flagLens l).length (by omega)
        unfold Hid flagsB
        rw [List.length_append]
        omega)
      obtain ⟨F, hF⟩ : ∃ F, flagLens l = F := ⟨_, rfl⟩
      obtain ⟨N, hN⟩ : ∃ N, F.length = N := ⟨_, rfl⟩
      have HFB : Hid (flagsB l = uintB N ++ laidU F) := (by unfold Hid flagsB; rw [hF, hN])
      have hcn : cnts l = F.map (fun n : Nat => (n : Int)) := (by unfold cnts; rw [hF])
      rw [hcn] at HO1 hKN
      rw [hF] at HFM
      obtain ⟨va, vc, hv, hint, _, hvl⟩ := OwnN.at HO1
      rw [List.length_map, hN] at hv
      rw [List.length_map, hN] at hKN
      subst hv
      have HINT : Hid (IntsAt wm va (F.map (fun n : Nat => (n : Int)))) := hint
      have HN : Hid (F.length = N) := hN
      have hNB : N ≤ 1048577 := by omega
      clear hint HO1 HO hN hF hcn hKN
      go_wp2_with (go_at_call 29; refine (ruint_any N (by omega) _).mono ?_; rintro e w1 ⟨v1, rfl, ho1, hb1⟩; have HO1 : Hid (Own w1 wm.heap.size v1 (uintB N)) := ho1; have HB1 : Hid (After wm w1) := hb1; clear ho1 hb1)
      go_loopw [6, 7] (fun v i ws => ∃ j : Nat, j ≤ N ∧ i = .int .i64 j ∧ Hid (Own ws wm.heap.size v (uintB N ++ laidU (F.take j))) ∧ Hid (After wm ws)) (fun _ i _ => N - (intOf i).toNat)
      case atStart => exact ⟨0, by omega, rfl, by unfold Hid; simpa [laidU] using HO1.out, HB1.out⟩
      case round =>
        obtain ⟨j, hj, rfl, HOr, HAr⟩ := hrel
        by_cases hjl : j < N
        · have hjF : j < F.length := (by rw [HN.out]; exact hjl)
          obtain ⟨b2, o2, rfl, hc2⟩ := HINT.out (by intro h; have := congrArg List.length h; rw [List.length_map, HN.out, List.length_nil] at this; omega)
          obtain ⟨y, hy⟩ : ∃ y : Nat, F[j]?.getD 0 = y := ⟨_, rfl⟩
          have hyv : F[j]? = some y := (by rw [List.getElem?_eq_getElem hjF] at hy ⊢; rw [← hy]; rfl)
          have hcj := hc2 j (by rw [List.length_map]; exact hjF)
          rw [List.getElem?_map, hyv, Option.map_some, Option.getD_some] at hcj
          have hyl : y ≤ 1048576 := (by have := HFM.out y (List.mem_of_getElem? hyv); omega)
          have hcj' : wr.cell? ⟨b2, o2 + j, none⟩ = some (.int .i64 (y : Int)) := (Below.cell HAr.out (p := ⟨b2, o2 + j, none⟩) (block_lt_of_cell hcj)).trans hcj
          have HT : Hid (uintB N ++ laidU (F.take (j + 1)) = uintB N ++ laidU (F.take j) ++ uintB y) := (by unfold Hid; rw [List.take_add_one, hyv, Option.toList_some, laidU_app, List.append_assoc]; simp [laidU])
          have HLL : Hid ((uintB N ++ laidU (F.take j)).length ≤ 30000000) := (by
            unfold Hid
            have h1 := HBL.out
            rw [HFB.out, ← List.take_append_drop j F, laidU_app] at h1
            simp only [List.length_append] at h1 ⊢
            omega)
          obtain ⟨T, HTT⟩ : ∃ T, Hid (uintB N ++ laidU (F.take j) = T) := ⟨_, rfl⟩
          rw [HTT.out] at HT HLL HOr
          clear hy hyv hcj hc2 hjF
          go_wp2_with (first
            | (go_at_call 29; refine (ruint_any y (by omega) _).mono ?_; rintro e w2 ⟨v2, rfl, ho2, hb2⟩; obtain ⟨a2, c2, hv2, hat2, _, _⟩ := Own.at ho2; obtain ⟨ly, hly⟩ : ∃ n, (uintB y).length = n := ⟨_, rfl⟩; rw [hly] at hv2; subst hv2; have HLY : Hid ((uintB y).length = ly) := hly; have hlyb : ly ≤ 10 := (by have := uintB_len10 y (by omega); omega); have HT2 : Hid (BytesAt w2 a2 (uintB y)) := hat2; have HB2 : Hid (After wr w2) := hb2; have HO2 : Hid (Own w2 wm.heap.size _ T) := Own.below HOr.out hb2 (Nat.le_refl _); clear ho2 hb2 hat2 hly)
            | (at_builtin; refine wpList_append_any rfl _ _ rfl wm.heap.size _ T rfl HO2.out a2 c2 (uintB y) ly HLY.out rfl HT2.out (by have := HLL.out; have := HLY.out; omega) (Nat.le_trans HAr.out.size HB2.out.size) ?_; intro v3 w3 ho3 hg3; have HO3 : Hid (Own w3 wm.heap.size v3 (T ++ uintB y)) := ho3; have HB3 : Hid (After wm w3) := after_grown (After.trans HAr.out HB2.out) hg3 (Nat.le_refl _) (fun k hk => (World.ownsRow.lt HO2.out k hk).1); clear ho3 hg3))
          go_roundw
          case rel => exact ⟨j + 1, by omega, by go_num, by unfold Hid; rw [HT.out]; exact HO3.out, HB3.out⟩
          case measure => simp [intOf]; omega
        · obtain rfl : j = N := by omega
          go_wp2
          go_ret
          refine ⟨_, rfl, ?_, After.trans HBr.out HAr.out⟩
          rw [HFB.out]
          have := HOr.out
          rw [← HN.out, List.take_length, HN.out] at this
          exact Own.mono this HBr.out.size
end Go.Proofs.Ytjmflggnnchojaa
