/-
  THE WALK OF ref.GetFlags.
-/
import Derived.Test.YtjmflggnnchojaaGetFlags
namespace Go.Proofs.Ytjmflggnnchojaa
open Go.RowKit Leb
def finB (n : Nat) (R : List Bool × List UInt8 × Nat) : List Bool × Nat × Nat := if R.2.2 = 0 then (R.1, n - R.2.1.length, 0) else ([], 0, R.2.2)
theorem getF_fin (bs : List UInt8) (most : Int) : getF bs most = finB bs.length (readF bs (clampM most)) := rfl
theorem getF_e {bs : List UInt8} {most : Int} {e : Nat} (h : guE bs = e) (he : ¬ e = 0) : getF bs most = ([], 0, e) := by
  have h1 : suE bs 0 (clampM most + 1) = e := ruE_e h he
  rw [getF_fin]
  unfold readF
  rw [h1, if_neg he]
  unfold finB
  exact if_neg he
theorem getF_5 {bs : List UInt8} {most : Int} {v : Nat} (h : guE bs = 0) (hv : guV bs = v) (hm : clampM most + 1 < v) : getF bs most = ([], 0, 5) := by
  have h1 : suE bs 0 (clampM most + 1) = 5 := ruE_5 h hv hm
  rw [getF_fin]
  unfold readF
  rw [h1]
  rfl
theorem getF_0 {bs : List UInt8} {most : Int} {v k : Nat} (h : guE bs = 0) (hv : guV bs = v) (hk : guK bs = k) (hm : v ≤ clampM most + 1) : getF bs most = finB bs.length (rf (clampM most) v v 0 (bs.drop k) []) := by
  obtain ⟨h1, h2, h3⟩ := ruE_0 h hv hm
  have g1 : suE bs 0 (clampM most + 1) = 0 := h1
  have g2 : suV bs 0 (clampM most + 1) = v := h2
  have g3 : suB bs 0 (clampM most + 1) = bs.drop k := by show bs.drop (ruK bs (clampM most + 1)) = _; rw [h3, hk]
  rw [getF_fin]
  unfold readF
  rw [if_pos g1, g2, g3]
theorem finB_e {n M N k i e : Nat} {b : List UInt8} {acc : List Bool} (h : guE b = e) (he : ¬ e = 0) : finB n (rf M N (k + 1) i b acc) = ([], 0, e) := by
  have h1 : suE b 0 (M - acc.length) = e := ruE_e h he
  have h2 : rlE b 0 (M - acc.length) (leastOf N i) = e := by unfold rlE; rw [h1, if_neg he]
  unfold rf
  rw [h2, if_neg he]
  exact if_neg he
theorem finB_4 {n M N k i : Nat} {b : List UInt8} {acc : List Bool} (h : guE b = 0) (hv : guV b = 0) (hl : leastOf N i = 1) : finB n (rf M N (k + 1) i b acc) = ([], 0, 4) := by
  obtain ⟨h1, h2, _⟩ := ruE_0 (m := M - acc.length) h hv (by omega)
  have g1 : suE b 0 (M - acc.length) = 0 := h1
  have g2 : suV b 0 (M - acc.length) = 0 := h2
  have g3 : rlE b 0 (M - acc.length) (leastOf N i) = 4 := by unfold rlE; rw [if_pos g1, g2, hl]; rfl
  unfold rf
  rw [g3]
  rfl
theorem finB_5 {n M N k i v : Nat} {b : List UInt8} {acc : List Bool} (h : guE b = 0) (hv : guV b = v) (hm : M - acc.length < v) : finB n (rf M N (k + 1) i b acc) = ([], 0, 5) := by
  have g1 : suE b 0 (M - acc.length) = 5 := ruE_5 h hv hm
  have g3 : rlE b 0 (M - acc.length) (leastOf N i) = 5 := by unfold rlE; rw [g1]; rfl
  unfold rf
  rw [g3]
  rfl
theorem finB_next {n M N k i v K : Nat} {β : Bool} {b : List UInt8} {acc : List Bool} (h : guE b = 0) (hv : guV b = v) (hK : guK b = K) (hm : v ≤ M - acc.length) (hl : leastOf N i ≤ v) (hβ : ((i : Int) % 2 == 1) = β) : finB n (rf M N (k + 1) i b acc) = finB n (rf M N k (i + 1) (b.drop K) (acc ++ List.replicate v β)) := by
  obtain ⟨h1', h2, h3⟩ := ruE_0 h hv hm
  have g1 : suE b 0 (M - acc.length) = 0 := h1'
  have g2 : suV b 0 (M - acc.length) = v := h2
  have g3 : rlE b 0 (M - acc.length) (leastOf N i) = 0 := by unfold rlE; rw [if_pos g1, g2, if_neg (by omega)]
  have g4 : rlV b 0 (M - acc.length) (leastOf N i) = v := by unfold rlV; rw [if_pos g3, g2]
  have g5 : suB b 0 (M - acc.length) = b.drop K := by show b.drop (ruK b (M - acc.length)) = _; rw [h3, hK]
  rw [rf, if_pos g3, g4, g5, hβ]
set_option maxRecDepth 100000 in
set_option maxHeartbeats 3200000 in
theorem refFlags_any (ao : Option Addr) (cap : Nat) (bs : List UInt8) (hcap : bs.length ≤ cap) (hz : ao = none → bs.length = 0) (hbig : bs.length ≤ 140737488355328) (most : Int) (hm0 : -9223372036854775808 ≤ most) (hm1 : most ≤ 9223372036854775807) (w : World) (hat : BytesAt w ao bs) :
    Calls Try.prog 24 #[.slice ao bs.length cap, .int .i64 most] w fun x w' => GPostB w (getF bs most) x w' := by
  obtain ⟨M, hM⟩ : ∃ M, clampM most = M := ⟨_, rfl⟩
  have hM5 : M ≤ 65536 := by rw [← hM]; exact clampM_le most
  have C37 : Hid (∀ W, Calls Try.prog 37 #[.int .i64 most] W fun e w' => e = .returned (.int .i64 (M : Int)) ∧ w' = W) := fun W => bounded_any most M hM hm0 hm1 W
  have C38 : Hid (∀ W, After w W → ∀ p, p ≤ bs.length → Calls Try.prog 38 #[.slice (cutAt ao p cap) (bs.length - p) (cap - p)] W fun e w' => e = .returned (.tuple #[.int .u64 (guV (bs.drop p) : Int), .int .i64 (guK (bs.drop p) : Int), .int .i64 (guE (bs.drop p) : Int)]) ∧ Below W.heap.size W w') := fun W hW p hp => by
    have := rgetUint_any (cutAt ao p cap) (cap - p) (bs.drop p) (by simp; omega) W ((hat.cut p cap hcap).after hW)
    rwa [List.length_drop] at this
  have SL : Hid (∀ (W : World) (p : Nat), p ≤ bs.length → (Instr.sliceAt 23 (.slice ao bs.length cap) (some (.int .i64 (p : Int))) none none).run Try.prog W = .ok (.slice (cutAt ao p cap) (bs.length - p) (cap - p)) W) := fun W p hp => slice_from ao bs.length cap p hz hcap hp W
  have C38a := show Hid _ from rgetUint_any ao cap bs hcap w hat
  obtain ⟨N, hN⟩ : ∃ v, guV bs = v := ⟨_, rfl⟩
  obtain ⟨K0, hK0⟩ : ∃ v, guK bs = v := ⟨_, rfl⟩
  obtain ⟨E0, hE0⟩ : ∃ v, guE bs = v := ⟨_, rfl⟩
  have hK0l : K0 ≤ bs.length := by rw [← hK0]; exact guK_le bs
  rw [hN, hK0, hE0] at C38a
  by_cases h0 : E0 = 0
  · subst h0
    by_cases hNM : M + 1 < N
    · rw [getF_5 hE0 hN (by rw [hM]; exact hNM)]
      clear hM hN hK0 hE0 hat hz
      go_enter Try.func24, Try.ntmps24
      go_wp2_with (first
        | (go_at_call 37; refine (C37.out _).mono ?_; rintro x w2 ⟨rfl, hw2⟩; have hw3 := hw2.symm; clear hw2; subst hw3)
        | (go_at_call 38; refine Calls.mono C38a.out ?_; rintro x w1 ⟨rfl, hb1⟩))
      go_ret3
      exact ⟨_, rfl, OwnB.nil _ _, hb1⟩
    · have HG : Hid (finB bs.length (rf M N N 0 (bs.drop K0) []) = getF bs most) := by unfold Hid; rw [getF_0 (most := most) hE0 hN hK0 (by rw [hM]; omega), hM]
      obtain ⟨G, hG⟩ : ∃ G, getF bs most = G := ⟨_, rfl⟩
      rw [hG] at HG ⊢
      clear hM hN hK0 hE0 hat hz hG
      go_enter Try.func24, Try.ntmps24
      go_wp2_with (first
        | (go_at_call 37; refine (C37.out _).mono ?_; rintro x w2 ⟨rfl, hw2⟩; have hw3 := hw2.symm; clear hw2; subst hw3)
        | (go_at_call 38; refine Calls.mono C38a.out ?_; rintro x w1 ⟨rfl, hb1⟩; have HB1 : Hid (After w w1) := hb1; clear hb1))
      go_loopw [8, 10, 11] (fun at' v i wr => ∃ (k p : Nat) (acc : List Bool), k ≤ N ∧ p ≤ bs.length ∧ i = .int .u64 k ∧ at' = .int .i64 p ∧ Hid (OwnB wr w.heap.size v acc) ∧ acc.length ≤ M ∧ Hid (After w wr) ∧ Hid (finB bs.length (rf M N (N - k) k (bs.drop p) acc) = G)) (fun _ _ i _ => N - (intOf i).toNat)
      case atStart => exact ⟨0, K0, [], by omega, hK0l, rfl, rfl, OwnB.nil _ _, by simp, HB1.out, HG.out⟩
      case round =>
        obtain ⟨k, p, acc, hk, hpl, rfl, rfl, HO, hacc, HB, HSP⟩ := hrel
        by_cases hkN : k < N
        · obtain ⟨va, vc, rfl, hint, hvc, hvl⟩ := OwnB.at HO.out
          have HKN : Hid (k + 1 ≤ N) := hkN
          obtain ⟨room, hroom⟩ : ∃ r, M - acc.length = r := ⟨_, rfl⟩
          rw [show N - k = (N - (k + 1)) + 1 by omega] at HSP
          have hroomI : (M : Int) - (acc.length : Int) = (room : Int) := by omega
          have HACC : Hid (acc.length + room = M) := by unfold Hid; omega
          have C38r := show Hid _ from C38.out wr HB.out p hpl
          have hsl1 := SL.out wr p hpl
          obtain ⟨b, hb⟩ : ∃ b, bs.drop p = b := ⟨_, rfl⟩
          rw [hb] at HSP C38r
          obtain ⟨V, hV⟩ : ∃ v, guV b = v := ⟨_, rfl⟩
          obtain ⟨K, hK⟩ : ∃ v, guK b = v := ⟨_, rfl⟩
          obtain ⟨E, hE⟩ : ∃ v, guE b = v := ⟨_, rfl⟩
          have hKl : p + K ≤ bs.length := by have := guK_le b; rw [hK, ← hb, List.length_drop] at this; omega
          rw [hV, hK, hE] at C38r
          obtain ⟨q, hq⟩ : ∃ q, p + K = q := ⟨_, rfl⟩
          have hqI : (p : Int) + (K : Int) = (q : Int) := by omega
          have hql : q ≤ bs.length := by omega
          have hb2 : b.drop K = bs.drop q := by rw [← hb, List.drop_drop, hq]
          obtain ⟨β, hβ⟩ : ∃ β, ((k : Int) % 2 == 1) = β := ⟨_, rfl⟩
          by_cases hE0 : E = 0
          · subst hE0
            by_cases hV0 : V = 0
            · subst hV0
              by_cases hk0 : k = 0
              · subst hk0
                by_cases hN1 : N = 1
                · subst hN1
                  have HE : Hid (G = ([], 0, 4)) := HSP.out.symm.trans (finB_4 hE hV rfl)
                  clear HSP
                  go_wp2_with (go_at_call 38; refine Calls.mono C38r.out ?_; rintro x w2 ⟨rfl, hb2⟩; have HB2 : Hid (After w w2) := HB.out.trans hb2; have HB12 : Hid (After wr w2) := hb2; clear hb2 hsl1)
                  go_ret3
                  rw [HE.out]
                  exact ⟨_, rfl, OwnB.nil _ _, HB2.out⟩
                · obtain rfl : false = β := by rw [← hβ]; decide
                  have HACL : Hid (0 ≤ room) := Nat.zero_le _
                  have hN2 : 1 < N := by omega
                  have HSP2 : Hid (finB bs.length (rf M N (N - (0 + 1)) (0 + 1) (bs.drop q) (acc ++ List.replicate 0 false)) = G) := by
                    have := finB_next (n := bs.length) (M := M) (N := N) (k := N - (0 + 1)) (i := 0) (acc := acc) hE hV hK (by omega) (by unfold leastOf; rw [if_pos ⟨rfl, hN2⟩]; omega) hβ
                    rw [hb2] at this
                    exact this.symm.trans HSP.out
                  clear HSP hint hvl
                  go_wp2_with (go_at_call 38; refine Calls.mono C38r.out ?_; rintro x w2 ⟨rfl, hb2⟩; have HB2 : Hid (After w w2) := HB.out.trans hb2; have HB12 : Hid (After wr w2) := hb2; clear hb2 hsl1)
                  have HO3 : Hid (OwnB w2 w.heap.size (.slice va acc.length vc) acc) := OwnB.keep HO.out (fun j hj => HB12.out.block j (World.ownsRow.lt HO.out j hj).2)
                  go_loopw [10, 15] (fun v c wq => ∃ (j : Nat), j ≤ 0 ∧ c = .int .u64 j ∧ Hid (OwnB wq w.heap.size v (acc ++ List.replicate j false)) ∧ Hid (After w wq)) (fun _ c _ => 0 - (intOf c).toNat)
                  case atStart => exact ⟨0, by omega, rfl, by rw [List.replicate_zero, List.append_nil]; exact HO3.out, HB2.out⟩
                  case round =>
                    obtain ⟨j, hj, rfl, HOq, HBq⟩ := hrel
                    by_cases hjV : j < 0
                    · omega
                    · obtain rfl : j = 0 := by omega
                      go_wp2
                      go_roundw
                      case rel => exact ⟨0 + 1, q, _, HKN.out, hql, by go_num, by go_num, HOq.out, by have := HACC.out; have := HACL.out; simp; omega, HBq.out, HSP2.out⟩
                      case measure => have := HKN.out; simp [intOf]; omega
              · have HE : Hid (G = ([], 0, 4)) := HSP.out.symm.trans (finB_4 hE hV (by unfold leastOf; rw [if_neg (fun h => hk0 h.1)]))
                clear HSP
                go_wp2_with (go_at_call 38; refine Calls.mono C38r.out ?_; rintro x w2 ⟨rfl, hb2⟩; have HB2 : Hid (After w w2) := HB.out.trans hb2; have HB12 : Hid (After wr w2) := hb2; clear hb2 hsl1)
                go_ret3
                rw [HE.out]
                exact ⟨_, rfl, OwnB.nil _ _, HB2.out⟩
            · by_cases hVr : room < V
              · have HE : Hid (G = ([], 0, 5)) := HSP.out.symm.trans (finB_5 hE hV (by omega))
                clear HSP
                go_wp2_with (go_at_call 38; refine Calls.mono C38r.out ?_; rintro x w2 ⟨rfl, hb2⟩; have HB2 : Hid (After w w2) := HB.out.trans hb2; have HB12 : Hid (After wr w2) := hb2; clear hb2 hsl1)
                go_ret3
                rw [HE.out]
                exact ⟨_, rfl, OwnB.nil _ _, HB2.out⟩
              · have HACL : Hid (V ≤ room) := by unfold Hid; omega
                have HSP2 : Hid (finB bs.length (rf M N (N - (k + 1)) (k + 1) (bs.drop q) (acc ++ List.replicate V β)) = G) := by
                  have := finB_next (n := bs.length) (M := M) (N := N) (k := N - (k + 1)) (i := k) (acc := acc) hE hV hK (by omega) (by unfold leastOf; split <;> omega) hβ
                  rw [hb2] at this
                  exact this.symm.trans HSP.out
                clear HSP hint hvl
                go_wp2_with (go_at_call 38; refine Calls.mono C38r.out ?_; rintro x w2 ⟨rfl, hb2⟩; have HB2 : Hid (After w w2) := HB.out.trans hb2; have HB12 : Hid (After wr w2) := hb2; clear hb2 hsl1)
                have HO3 : Hid (OwnB w2 w.heap.size (.slice va acc.length vc) acc) := OwnB.keep HO.out (fun j hj => HB12.out.block j (World.ownsRow.lt HO.out j hj).2)
                go_loopw [10, 15] (fun v c wq => ∃ (j : Nat), j ≤ V ∧ c = .int .u64 j ∧ Hid (OwnB wq w.heap.size v (acc ++ List.replicate j β)) ∧ Hid (After w wq)) (fun _ c _ => V - (intOf c).toNat)
                case atStart => exact ⟨0, by omega, rfl, by rw [List.replicate_zero, List.append_nil]; exact HO3.out, HB2.out⟩
                case round =>
                  obtain ⟨j, hj, rfl, HOq, HBq⟩ := hrel
                  by_cases hjV : j < V
                  · have HRO : Hid (acc.length + j + 1 ≤ 65536) := by have := HACC.out; have := HACL.out; unfold Hid; omega
                    go_wp2_with (at_builtin; refine wpList_append_bools rfl _ _ rfl w.heap.size _ (acc ++ List.replicate j β) rfl (OwnB.keep HOq.out (fun i hi => (after_alloc (After.refl _) _).block i (World.ownsRow.lt HOq.out i hi).2)) ⟨wr.heap.size, 0, none⟩ 1 [β] 1 rfl rfl (fun i hi => by obtain rfl : i = 0 := (by simp at hi; omega); exact box_cell _ _ _) (by have := HRO.out; simp; omega) (by have := HBq.out.size; simp; omega) ?_; intro v6 w6 ho6 hg6; have HO6 : Hid (OwnB w6 w.heap.size v6 (acc ++ List.replicate (j + 1) β)) := (by unfold Hid; rw [List.replicate_succ', ← List.append_assoc]; exact ho6); have HB6 : Hid (After w w6) := after_grown (after_alloc HBq.out _) hg6 (Nat.le_refl _) (fun k hk => (World.ownsRow.lt HOq.out k hk).1); clear ho6 hg6)
                    go_roundw
                    case rel => exact ⟨j + 1, by omega, by go_num, HO6.out, HB6.out⟩
                    case measure => simp [intOf]; omega
                  · obtain rfl : j = V := by omega
                    go_wp2
                    go_roundw
                    case rel => exact ⟨k + 1, q, _, HKN.out, hql, by go_num, by go_num, HOq.out, by have := HACC.out; have := HACL.out; simp; omega, HBq.out, HSP2.out⟩
                    case measure => have := HKN.out; simp [intOf]; omega
          · have HE : Hid (G = ([], 0, E)) := HSP.out.symm.trans (finB_e hE hE0)
            clear HSP
            go_wp2_with (go_at_call 38; refine Calls.mono C38r.out ?_; rintro x w2 ⟨rfl, hb2⟩; have HB2 : Hid (After w w2) := HB.out.trans hb2; have HB12 : Hid (After wr w2) := hb2; clear hb2 hsl1)
            go_ret3
            rw [HE.out]
            exact ⟨_, rfl, OwnB.nil _ _, HB2.out⟩
        · obtain rfl : k = N := by omega
          have HE : Hid (G = (acc, p, 0)) := by
            have := HSP.out
            rw [Nat.sub_self] at this
            rw [show rf M k 0 k (bs.drop p) acc = (acc, bs.drop p, 0) from rfl] at this
            refine this.symm.trans ?_
            show (acc, bs.length - (bs.drop p).length, 0) = _
            rw [List.length_drop, show bs.length - (bs.length - p) = p by omega]
          clear HSP
          go_wp2
          go_ret3
          rw [HE.out]
          exact ⟨_, rfl, HO.out, HB.out⟩
  · rw [getF_e hE0 h0]
    clear hM hN hK0 hE0 hat hz
    go_enter Try.func24, Try.ntmps24
    go_wp2_with (first
      | (go_at_call 37; refine (C37.out _).mono ?_; rintro x w2 ⟨rfl, hw2⟩; have hw3 := hw2.symm; clear hw2; subst hw3)
      | (go_at_call 38; refine Calls.mono C38a.out ?_; rintro x w1 ⟨rfl, hb1⟩))
    go_ret3
    exact ⟨_, rfl, OwnB.nil _ _, hb1⟩
end Go.Proofs.Ytjmflggnnchojaa
