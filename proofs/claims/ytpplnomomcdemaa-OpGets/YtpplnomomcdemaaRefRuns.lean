/-
  THE WALK OF ref.GetRuns.
-/
import Derived.Test.YtpplnomomcdemaaRefKit
namespace Go.Proofs.Ytpplnomomcdemaa
open Go.RowKit Leb
set_option maxRecDepth 100000 in
set_option maxHeartbeats 3200000 in
theorem refRuns_any (ao : Option Addr) (cap : Nat) (bs : List UInt8) (hcap : bs.length ≤ cap) (hz : ao = none → bs.length = 0) (hbig : bs.length ≤ 140737488355328) (most : Int) (hm0 : -9223372036854775808 ≤ most) (hm1 : most ≤ 9223372036854775807) (w : World) (hat : BytesAt w ao bs) :
    Calls Try.prog 31 #[.slice ao bs.length cap, .int .i64 most] w fun x w' => GPost w (getR bs most) x w' := by
  obtain ⟨M, hM⟩ : ∃ M, clampM most = M := ⟨_, rfl⟩
  have hM5 : M ≤ 65536 := by rw [← hM]; exact clampM_le most
  have C37 : Hid (∀ W, Calls Try.prog 58 #[.int .i64 most] W fun e w' => e = .returned (.int .i64 (M : Int)) ∧ w' = W) := fun W => bounded_any most M hM hm0 hm1 W
  have C38 : Hid (∀ W, After w W → ∀ p, p ≤ bs.length → Calls Try.prog 33 #[.slice (cutAt ao p cap) (bs.length - p) (cap - p)] W fun e w' => e = .returned (.tuple #[.int .u64 (guV (bs.drop p) : Int), .int .i64 (guK (bs.drop p) : Int), .int .i64 (guE (bs.drop p) : Int)]) ∧ Below W.heap.size W w') := fun W hW p hp => by
    have := rgetUint_any (cutAt ao p cap) (cap - p) (bs.drop p) (by simp; omega) W ((hat.cut p cap hcap).after hW)
    rwa [List.length_drop] at this
  have C39 : Hid (∀ W, After w W → ∀ p, p ≤ bs.length → Calls Try.prog 59 #[.slice (cutAt ao p cap) (bs.length - p) (cap - p)] W fun e w' => e = .returned (.tuple #[.int .i64 (giV (bs.drop p)), .int .i64 (giK (bs.drop p) : Int), .int .i64 (giE (bs.drop p) : Int)]) ∧ Below W.heap.size W w') := fun W hW p hp => by
    have := rgetInt_any (cutAt ao p cap) (cap - p) (bs.drop p) (by simp; omega) W ((hat.cut p cap hcap).after hW)
    rwa [List.length_drop] at this
  have SL : Hid (∀ (W : World) (p : Nat), p ≤ bs.length → (Instr.sliceAt 30 (.slice ao bs.length cap) (some (.int .i64 (p : Int))) none none).run Try.prog W = .ok (.slice (cutAt ao p cap) (bs.length - p) (cap - p)) W) := fun W p hp => slice_from ao bs.length cap p hz hcap hp W
  have C38a := show Hid _ from rgetUint_any ao cap bs hcap w hat
  obtain ⟨N, hN⟩ : ∃ v, guV bs = v := ⟨_, rfl⟩
  obtain ⟨K0, hK0⟩ : ∃ v, guK bs = v := ⟨_, rfl⟩
  obtain ⟨E0, hE0⟩ : ∃ v, guE bs = v := ⟨_, rfl⟩
  have hK0l : K0 ≤ bs.length := by rw [← hK0]; exact guK_le bs
  rw [hN, hK0, hE0] at C38a
  by_cases h0 : E0 = 0
  · subst h0
    by_cases hNM : M < N
    · rw [getR_5 hE0 hN (by rw [hM]; exact hNM)]
      clear hM hN hK0 hE0 hat hz
      go_enter Try.func31, Try.ntmps31
      go_wp2_with (first
        | (go_at_call 58; refine (C37.out _).mono ?_; rintro x w2 ⟨rfl, hw2⟩; have hw3 := hw2.symm; clear hw2; subst hw3)
        | (go_at_call 33; refine Calls.mono C38a.out ?_; rintro x w1 ⟨rfl, hb1⟩))
      go_ret3
      exact ⟨_, rfl, OwnI.nil _ _, hb1⟩
    · have HG : Hid (fin bs.length (rr M N (bs.drop K0) []) = getR bs most) := by unfold Hid; rw [getR_0 (most := most) hE0 hN hK0 (by rw [hM]; omega), hM]
      obtain ⟨G, hG⟩ : ∃ G, getR bs most = G := ⟨_, rfl⟩
      rw [hG] at HG ⊢
      clear hM hN hK0 hE0 hat hz hG
      go_enter Try.func31, Try.ntmps31
      go_wp2_with (first
        | (go_at_call 58; refine (C37.out _).mono ?_; rintro x w2 ⟨rfl, hw2⟩; have hw3 := hw2.symm; clear hw2; subst hw3)
        | (go_at_call 33; refine Calls.mono C38a.out ?_; rintro x w1 ⟨rfl, hb1⟩; have HB1 : Hid (After w w1) := hb1; clear hb1))
      go_loopw [8, 10, 11] (fun at' v i wr => ∃ (k p : Nat) (acc : List Int), k ≤ N ∧ p ≤ bs.length ∧ i = .int .u64 k ∧ at' = .int .i64 p ∧ Hid (OwnI wr w.heap.size v acc) ∧ acc.length ≤ M ∧ Hid (After w wr) ∧ Hid (fin bs.length (rr M (N - k) (bs.drop p) acc) = G)) (fun _ _ i _ => N - (intOf i).toNat)
      case atStart => exact ⟨0, K0, [], by omega, hK0l, rfl, rfl, OwnI.nil _ _, by simp, HB1.out, HG.out⟩
      case round =>
        obtain ⟨k, p, acc, hk, hpl, rfl, rfl, HO, hacc, HB, HSP⟩ := hrel
        by_cases hkN : k < N
        · obtain ⟨va, vc, rfl, hint, hvc, hvl⟩ := OwnI.at HO.out
          have HKN : Hid (k + 1 ≤ N) := hkN
          obtain ⟨room, hroom⟩ : ∃ r, M - acc.length = r := ⟨_, rfl⟩
          rw [show N - k = (N - (k + 1)) + 1 by omega] at HSP
          have hroomI : (M : Int) - (acc.length : Int) = (room : Int) := by omega
          have HACC : Hid (acc.length + room = M) := by unfold Hid; omega
          have C38r := show Hid _ from C38.out wr HB.out p hpl
          have hsl1 := SL.out wr p hpl
          obtain ⟨b, hb⟩ : ∃ b, bs.drop p = b := ⟨_, rfl⟩
          rw [hb] at HSP C38r
          obtain ⟨V, hV⟩ : ∃ v, guV b = v := ⟨_, rfl⟩
          obtain ⟨K, hK⟩ : ∃ v, guK b = v := ⟨_, rfl⟩
          obtain ⟨E, hE⟩ : ∃ v, guE b = v := ⟨_, rfl⟩
          have hKl : p + K ≤ bs.length := by have := guK_le b; rw [hK, ← hb, List.length_drop] at this; omega
          rw [hV, hK, hE] at C38r
          obtain ⟨q, hq⟩ : ∃ q, p + K = q := ⟨_, rfl⟩
          have hqI : (p : Int) + (K : Int) = (q : Int) := by omega
          have hql : q ≤ bs.length := by omega
          have hb2 : b.drop K = bs.drop q := by rw [← hb, List.drop_drop, hq]
          by_cases hE0 : E = 0
          · subst hE0
            by_cases hV0 : V = 0
            · subst hV0
              have HE : Hid (G = ([], 0, 4)) := HSP.out.symm.trans (fin_4 hE hV)
              clear HSP
              go_wp2_with (first
                | (go_at_call 33; refine Calls.mono C38r.out ?_; rintro x w2 ⟨rfl, hb2⟩; have HB2 : Hid (After w w2) := HB.out.trans hb2; have HB12 : Hid (After wr w2) := hb2; clear hb2 hsl1))
              go_ret3
              rw [HE.out]
              exact ⟨_, rfl, OwnI.nil _ _, HB2.out⟩
            · by_cases hVr : room < V
              · have HE : Hid (G = ([], 0, 5)) := HSP.out.symm.trans (fin_5 hE hV (by omega))
                clear HSP
                go_wp2_with (first
                  | (go_at_call 33; refine Calls.mono C38r.out ?_; rintro x w2 ⟨rfl, hb2⟩; have HB2 : Hid (After w w2) := HB.out.trans hb2; have HB12 : Hid (After wr w2) := hb2; clear hb2 hsl1))
                go_ret3
                rw [HE.out]
                exact ⟨_, rfl, OwnI.nil _ _, HB2.out⟩
              · obtain ⟨n, hn⟩ : ∃ v, giV (bs.drop q) = v := ⟨_, rfl⟩
                obtain ⟨J, hJ⟩ : ∃ v, giK (bs.drop q) = v := ⟨_, rfl⟩
                obtain ⟨F, hF⟩ : ∃ v, giE (bs.drop q) = v := ⟨_, rfl⟩
                have C39r := show Hid (∀ W, After w W → _) from fun W hW => C39.out W hW q hql
                simp only [hn, hJ, hF] at C39r
                have hJl : q + J ≤ bs.length := by have := giK_le (bs.drop q); rw [hJ, List.length_drop] at this; omega
                obtain ⟨r, hr⟩ : ∃ r, q + J = r := ⟨_, rfl⟩
                have hrI : (q : Int) + (J : Int) = (r : Int) := by omega
                have hrl : r ≤ bs.length := by omega
                by_cases hF0 : F = 0
                · subst hF0
                  by_cases hae : acc = []
                  · subst hae
                    have hrm : room = M := by have := HACC.out; simpa using this
                    subst hrm
                    have HSP2 : Hid (fin bs.length (rr room (N - (k + 1)) (bs.drop r) ([] ++ List.replicate V n)) = G) := by
                      have := fin_next (n := bs.length) (k := N - (k + 1)) hE hV hK hb2 (by omega) (by simpa using hVr) hF hn hJ (acc := []) (by simp)
                      rw [List.drop_drop, hr] at this
                      exact this.symm.trans HSP.out
                    clear HSP hroomI hint hvl hacc
                    have HACL : Hid (V ≤ room) := by unfold Hid; omega
                    go_wp2_with (first
                      | (go_at_call 33; refine Calls.mono C38r.out ?_; rintro x w2 ⟨rfl, hb2⟩; have HB2 : Hid (After w w2) := HB.out.trans hb2; have HB12 : Hid (After wr w2) := hb2; have hsl2 := SL.out w2 q hql; clear hb2 hsl1)
                      | (go_at_call 59; refine Calls.mono (C39r.out w2 HB2.out) ?_; rintro x w3 ⟨rfl, hb3⟩; have HB3 : Hid (After w w3) := HB2.out.trans hb3; have HB13 : Hid (After wr w3) := HB12.out.trans hb3; clear hb3 hsl2))
                    have HO3 : Hid (OwnI w3 w.heap.size (.slice va 0 vc) []) := OwnI.keep HO.out (fun j hj => HB13.out.block j (World.ownsRow.lt HO.out j hj).2)
                    go_loopw [10, 17] (fun v c wq => ∃ (j : Nat), j ≤ V ∧ c = .int .u64 j ∧ Hid (OwnI wq w.heap.size v (([] : List Int) ++ List.replicate j n)) ∧ Hid (After w wq)) (fun _ c _ => V - (intOf c).toNat)
                    case atStart => exact ⟨0, by omega, rfl, by rw [List.replicate_zero, List.append_nil]; exact HO3.out, HB3.out⟩
                    case round =>
                      obtain ⟨j, hj, rfl, HOq, HBq⟩ := hrel
                      by_cases hjV : j < V
                      · have HRO : Hid (([] : List Int).length + j + 1 ≤ 65536) := by have := HACC.out; have := HACL.out; unfold Hid; omega
                        go_wp2_with (at_builtin; refine wpList_append_ints rfl _ _ rfl w.heap.size _ (([] : List Int) ++ List.replicate j n) rfl (OwnI.keep HOq.out (fun i hi => (after_alloc (After.refl _) _).block i (World.ownsRow.lt HOq.out i hi).2)) ⟨wr.heap.size, 0, none⟩ 1 [n] 1 rfl rfl (fun i hi => by obtain rfl : i = 0 := (by simp at hi; omega); exact box_cell _ _ _) (by have := HRO.out; simp; omega) (by have := HBq.out.size; simp; omega) ?_; intro v6 w6 ho6 hg6; have HO6 : Hid (OwnI w6 w.heap.size v6 (([] : List Int) ++ List.replicate (j + 1) n)) := (by unfold Hid; rw [List.replicate_succ', ← List.append_assoc]; exact ho6); have HB6 : Hid (After w w6) := after_grown (after_alloc HBq.out _) hg6 (Nat.le_refl _) (fun k hk => (World.ownsRow.lt HOq.out k hk).1); clear ho6 hg6)
                        go_roundw
                        case rel => exact ⟨j + 1, by omega, by go_num, HO6.out, HB6.out⟩
                        case measure => simp [intOf]; omega
                      · obtain rfl : j = V := by omega
                        go_wp2
                        go_roundw
                        case rel => exact ⟨k + 1, r, _, HKN.out, hrl, by go_num, rfl, HOq.out, by have := HACC.out; have := HACL.out; simp; omega, HBq.out, HSP2.out⟩
                        case measure => have := HKN.out; simp [intOf]; omega
                  · obtain ⟨ql, hql'⟩ : ∃ ql, acc.length = ql + 1 := ⟨acc.length - 1, by have := List.length_pos_iff.2 hae; omega⟩
                    obtain ⟨lb, lo, rfl, hcells⟩ := hint hae
                    obtain ⟨y, hy⟩ : ∃ y, acc[acc.length - 1]?.getD 0 = y := ⟨_, rfl⟩
                    have HY : Hid (wr.cell? ⟨lb, lo + ql, none⟩ = some (.int .i64 y)) := by
                      have := hcells (acc.length - 1) (by omega)
                      rw [hy, show acc.length - 1 = ql by omega] at this
                      exact this
                    have HACL : Hid (V ≤ room) := by unfold Hid; omega
                    by_cases hny : n = y
                    · have hs : acc ≠ [] ∧ giV (bs.drop q) = acc[acc.length - 1]?.getD 0 := ⟨hae, by rw [hn, hy]; exact hny⟩
                      have HE : Hid (G = ([], 0, 4)) := HSP.out.symm.trans (fin_same hE hV hK hb2 (by omega) (by omega) hF hs)
                      rw [hql'] at hroomI ⊢
                      clear HSP hs hcells hae hy hint hvl hvc
                      subst hny
                      go_wp2_with (first
                        | (go_at_call 33; refine Calls.mono C38r.out ?_; rintro x w2 ⟨rfl, hb2⟩; have HB2 : Hid (After w w2) := HB.out.trans hb2; have HB12 : Hid (After wr w2) := hb2; have hsl2 := SL.out w2 q hql; clear hb2 hsl1)
                        | (go_at_call 59; refine Calls.mono (C39r.out w2 HB2.out) ?_; rintro x w3 ⟨rfl, hb3⟩; have HB3 : Hid (After w w3) := HB2.out.trans hb3; have HB13 : Hid (After wr w3) := HB12.out.trans hb3; have hy3 := (Below.cell HB13.out (p := ⟨lb, lo + ql, none⟩) (block_lt_of_cell HY.out)).trans HY.out; clear hb3 hsl2))
                      go_ret3
                      rw [HE.out]
                      exact ⟨_, rfl, OwnI.nil _ _, HB3.out⟩
                    · have HSP2 : Hid (fin bs.length (rr M (N - (k + 1)) (bs.drop r) (acc ++ List.replicate V n)) = G) := by
                        have := fin_next (n := bs.length) (k := N - (k + 1)) hE hV hK hb2 (by omega) (show V ≤ M - acc.length by omega) hF hn hJ (fun h => hny (by rw [← hy]; exact h.2))
                        rw [List.drop_drop, hr] at this
                        exact this.symm.trans HSP.out
                      have HO' : Hid (OwnI wr w.heap.size (.slice (some ⟨lb, lo, none⟩) (ql + 1) vc) acc) := by have := HO.out; rw [hql'] at this; exact this
                      have HQL : Hid (acc.length = ql + 1) := hql'
                      rw [hql'] at hroomI ⊢
                      clear HSP hcells hae hy hint hvl hvc hql' HO hacc hroom
                      have hynb : (y == n) = false := by simpa using fun h : y = n => hny h.symm
                      go_wp2_with (first
                        | (go_at_call 33; refine Calls.mono C38r.out ?_; rintro x w2 ⟨rfl, hb2⟩; have HB2 : Hid (After w w2) := HB.out.trans hb2; have HB12 : Hid (After wr w2) := hb2; have hsl2 := SL.out w2 q hql; clear hb2 hsl1)
                        | (go_at_call 59; refine Calls.mono (C39r.out w2 HB2.out) ?_; rintro x w3 ⟨rfl, hb3⟩; have HB3 : Hid (After w w3) := HB2.out.trans hb3; have HB13 : Hid (After wr w3) := HB12.out.trans hb3; have hy3 := (Below.cell HB13.out (p := ⟨lb, lo + ql, none⟩) (block_lt_of_cell HY.out)).trans HY.out; clear hb3 hsl2))
                      have HO3 : Hid (OwnI w3 w.heap.size (.slice (some ⟨lb, lo, none⟩) (ql + 1) vc) acc) := OwnI.keep HO'.out (fun j hj => HB13.out.block j (World.ownsRow.lt HO'.out j hj).2)
                      go_loopw [10, 17] (fun v c wq => ∃ (j : Nat), j ≤ V ∧ c = .int .u64 j ∧ Hid (OwnI wq w.heap.size v (acc ++ List.replicate j n)) ∧ Hid (After w wq)) (fun _ c _ => V - (intOf c).toNat)
                      case atStart => exact ⟨0, by omega, rfl, by rw [List.replicate_zero, List.append_nil]; exact HO3.out, HB3.out⟩
                      case round =>
                        obtain ⟨j, hj, rfl, HOq, HBq⟩ := hrel
                        by_cases hjV : j < V
                        · have HRO : Hid (acc.length + j + 1 ≤ 65536) := by have := HACC.out; have := HACL.out; unfold Hid; omega
                          go_wp2_with (at_builtin; refine wpList_append_ints rfl _ _ rfl w.heap.size _ (acc ++ List.replicate j n) rfl (OwnI.keep HOq.out (fun i hi => (after_alloc (After.refl _) _).block i (World.ownsRow.lt HOq.out i hi).2)) ⟨wr.heap.size, 0, none⟩ 1 [n] 1 rfl rfl (fun i hi => by obtain rfl : i = 0 := (by simp at hi; omega); exact box_cell _ _ _) (by have := HRO.out; simp; omega) (by have := HBq.out.size; simp; omega) ?_; intro v6 w6 ho6 hg6; have HO6 : Hid (OwnI w6 w.heap.size v6 (acc ++ List.replicate (j + 1) n)) := (by unfold Hid; rw [List.replicate_succ', ← List.append_assoc]; exact ho6); have HB6 : Hid (After w w6) := after_grown (after_alloc HBq.out _) hg6 (Nat.le_refl _) (fun k hk => (World.ownsRow.lt HOq.out k hk).1); clear ho6 hg6)
                          go_roundw
                          case rel => exact ⟨j + 1, by omega, by go_num, HO6.out, HB6.out⟩
                          case measure => simp [intOf]; omega
                        · obtain rfl : j = V := by omega
                          go_wp2
                          go_roundw
                          case rel => exact ⟨k + 1, r, _, HKN.out, hrl, by go_num, rfl, HOq.out, by have := HACC.out; have := HACL.out; simp; omega, HBq.out, HSP2.out⟩
                          case measure => have := HKN.out; simp [intOf]; omega
                · have HE : Hid (G = ([], 0, F)) := HSP.out.symm.trans (fin_ie hE hV hK hb2 (by omega) (by omega) hF hF0)
                  clear HSP
                  go_wp2_with (first
                    | (go_at_call 33; refine Calls.mono C38r.out ?_; rintro x w2 ⟨rfl, hb2⟩; have HB2 : Hid (After w w2) := HB.out.trans hb2; have HB12 : Hid (After wr w2) := hb2; have hsl2 := SL.out w2 q hql; clear hb2 hsl1)
                    | (go_at_call 59; refine Calls.mono (C39r.out w2 HB2.out) ?_; rintro x w3 ⟨rfl, hb3⟩; have HB3 : Hid (After w w3) := HB2.out.trans hb3; have HB13 : Hid (After wr w3) := HB12.out.trans hb3; clear hb3 hsl2))
                  go_ret3
                  rw [HE.out]
                  exact ⟨_, rfl, OwnI.nil _ _, HB3.out⟩
          · have HE : Hid (G = ([], 0, E)) := HSP.out.symm.trans (fin_e hE hE0)
            clear HSP
            go_wp2_with (first
              | (go_at_call 33; refine Calls.mono C38r.out ?_; rintro x w2 ⟨rfl, hb2⟩; have HB2 : Hid (After w w2) := HB.out.trans hb2; have HB12 : Hid (After wr w2) := hb2; clear hb2 hsl1))
            go_ret3
            rw [HE.out]
            exact ⟨_, rfl, OwnI.nil _ _, HB2.out⟩
        · obtain rfl : k = N := by omega
          have HE : Hid (G = (acc, p, 0)) := by
            have := HSP.out
            rw [Nat.sub_self] at this
            rw [show rr M 0 (bs.drop p) acc = (acc, bs.drop p, 0) from rfl] at this
            refine this.symm.trans ?_
            show (acc, bs.length - (bs.drop p).length, 0) = _
            rw [List.length_drop, show bs.length - (bs.length - p) = p by omega]
          clear HSP
          go_wp2
          go_ret3
          rw [HE.out]
          exact ⟨_, rfl, HO.out, HB.out⟩
  · rw [getR_e hE0 h0]
    clear hM hN hK0 hE0 hat hz
    go_enter Try.func31, Try.ntmps31
    go_wp2_with (first
      | (go_at_call 58; refine (C37.out _).mono ?_; rintro x w2 ⟨rfl, hw2⟩; have hw3 := hw2.symm; clear hw2; subst hw3)
      | (go_at_call 33; refine Calls.mono C38a.out ?_; rintro x w1 ⟨rfl, hb1⟩))
    go_ret3
    exact ⟨_, rfl, OwnI.nil _ _, hb1⟩
end Go.Proofs.Ytpplnomomcdemaa
