/-
  ref.GetRuns: ITS STEPS IN WORDS OF rr; bounded.
-/
import Derived.Test.YtpplnomomcdemaaGetDeltas
import Derived.Test.YtpplnomomcdemaaRunsWalk
import Derived.Test.YtpplnomomcdemaaRoundKit
import Derived.Test.YtpplnomomcdemaaRefInt
namespace Go.Proofs.Ytpplnomomcdemaa
open Go.RowKit Leb
def fin (n : Nat) (R : List Int × List UInt8 × Nat) : List Int × Nat × Nat := if R.2.2 = 0 then (R.1, n - R.2.1.length, 0) else ([], 0, R.2.2)
theorem getR_fin (bs : List UInt8) (most : Int) : getR bs most = fin bs.length (readR bs (clampM most)) := rfl
theorem ruE_e {b : List UInt8} {m e : Nat} (h : guE b = e) (he : ¬ e = 0) : ruE b m = e := by unfold ruE; rw [h, if_neg he]
theorem ruE_5 {b : List UInt8} {m v : Nat} (h : guE b = 0) (hv : guV b = v) (hm : m < v) : ruE b m = 5 := by unfold ruE; rw [if_pos h, hv, if_pos hm]
theorem ruE_0 {b : List UInt8} {m v : Nat} (h : guE b = 0) (hv : guV b = v) (hm : v ≤ m) : ruE b m = 0 ∧ ruV b m = v ∧ ruK b m = guK b := by
  have h1 : ruE b m = 0 := by unfold ruE; rw [if_pos h, hv, if_neg (by omega)]
  exact ⟨h1, by unfold ruV; rw [if_pos h1, hv], by unfold ruK; rw [if_pos h1]⟩
theorem getR_e {bs : List UInt8} {most : Int} {e : Nat} (h : guE bs = e) (he : ¬ e = 0) : getR bs most = ([], 0, e) := by
  have h1 : suE bs 0 (clampM most) = e := ruE_e h he
  rw [getR_fin]
  unfold readR
  rw [h1, if_neg he]
  unfold fin
  exact if_neg he
theorem getR_5 {bs : List UInt8} {most : Int} {v : Nat} (h : guE bs = 0) (hv : guV bs = v) (hm : clampM most < v) : getR bs most = ([], 0, 5) := by
  have h1 : suE bs 0 (clampM most) = 5 := ruE_5 h hv hm
  rw [getR_fin]
  unfold readR
  rw [h1]
  rfl
theorem getR_0 {bs : List UInt8} {most : Int} {v k : Nat} (h : guE bs = 0) (hv : guV bs = v) (hk : guK bs = k) (hm : v ≤ clampM most) : getR bs most = fin bs.length (rr (clampM most) v (bs.drop k) []) := by
  obtain ⟨h1, h2, h3⟩ := ruE_0 h hv hm
  have g1 : suE bs 0 (clampM most) = 0 := h1
  have g2 : suV bs 0 (clampM most) = v := h2
  have g3 : suB bs 0 (clampM most) = bs.drop k := by show bs.drop (ruK bs (clampM most)) = _; rw [h3, hk]
  rw [getR_fin]
  unfold readR
  rw [if_pos g1, g2, g3]
theorem fin_e {n M k e : Nat} {b : List UInt8} {acc : List Int} (h : guE b = e) (he : ¬ e = 0) : fin n (rr M (k + 1) b acc) = ([], 0, e) := by
  have h1 : suE b 0 (M - acc.length) = e := ruE_e h he
  have h2 : rlE b 0 (M - acc.length) 1 = e := by unfold rlE; rw [h1, if_neg he]
  unfold rr
  rw [h2, if_neg he]
  exact if_neg he
theorem fin_4 {n M k : Nat} {b : List UInt8} {acc : List Int} (h : guE b = 0) (hv : guV b = 0) : fin n (rr M (k + 1) b acc) = ([], 0, 4) := by
  obtain ⟨h1, h2, _⟩ := ruE_0 (m := M - acc.length) h hv (by omega)
  have g1 : suE b 0 (M - acc.length) = 0 := h1
  have g2 : suV b 0 (M - acc.length) = 0 := h2
  have g3 : rlE b 0 (M - acc.length) 1 = 4 := by unfold rlE; rw [if_pos g1, g2]; rfl
  unfold rr
  rw [g3]
  rfl
theorem fin_5 {n M k v : Nat} {b : List UInt8} {acc : List Int} (h : guE b = 0) (hv : guV b = v) (hm : M - acc.length < v) : fin n (rr M (k + 1) b acc) = ([], 0, 5) := by
  have g1 : suE b 0 (M - acc.length) = 5 := ruE_5 h hv hm
  have g3 : rlE b 0 (M - acc.length) 1 = 5 := by unfold rlE; rw [g1]; rfl
  unfold rr
  rw [g3]
  rfl
theorem rr_step {M k v K : Nat} {b b2 : List UInt8} {acc : List Int} (h : guE b = 0) (hv : guV b = v) (hK : guK b = K) (hb2 : b.drop K = b2) (h1 : 1 ≤ v) (hm : v ≤ M - acc.length) :
    rr M (k + 1) b acc = if giE b2 = 0 then (if acc ≠ [] ∧ giV b2 = acc[acc.length - 1]?.getD 0 then ([], siB b2 0, 4) else rr M k (b2.drop (giK b2)) (acc ++ List.replicate v (giV b2))) else ([], siB b2 0, giE b2) := by
  obtain ⟨h1', h2, h3⟩ := ruE_0 h hv hm
  have g1 : suE b 0 (M - acc.length) = 0 := h1'
  have g2 : suV b 0 (M - acc.length) = v := h2
  have g3 : rlE b 0 (M - acc.length) 1 = 0 := by unfold rlE; rw [if_pos g1, g2, if_neg (by omega)]
  have g4 : rlV b 0 (M - acc.length) 1 = v := by unfold rlV; rw [if_pos g3, g2]
  have g5 : suB b 0 (M - acc.length) = b2 := by show b.drop (ruK b (M - acc.length)) = _; rw [h3, hK, hb2]
  rw [rr, if_pos g3, g4, g5]
  rfl
theorem fin_ie {n M k v K e : Nat} {b b2 : List UInt8} {acc : List Int} (h : guE b = 0) (hv : guV b = v) (hK : guK b = K) (hb2 : b.drop K = b2) (h1 : 1 ≤ v) (hm : v ≤ M - acc.length) (hi : giE b2 = e) (he : ¬ e = 0) : fin n (rr M (k + 1) b acc) = ([], 0, e) := by
  rw [rr_step h hv hK hb2 h1 hm, hi, if_neg he]
  exact if_neg he
theorem fin_same {n M k v K : Nat} {b b2 : List UInt8} {acc : List Int} (h : guE b = 0) (hv : guV b = v) (hK : guK b = K) (hb2 : b.drop K = b2) (h1 : 1 ≤ v) (hm : v ≤ M - acc.length) (hi : giE b2 = 0) (hs : acc ≠ [] ∧ giV b2 = acc[acc.length - 1]?.getD 0) : fin n (rr M (k + 1) b acc) = ([], 0, 4) := by
  rw [rr_step h hv hK hb2 h1 hm, if_pos hi, if_pos hs]
  rfl
theorem fin_next {n M k v K J : Nat} {x : Int} {b b2 : List UInt8} {acc : List Int} (h : guE b = 0) (hv : guV b = v) (hK : guK b = K) (hb2 : b.drop K = b2) (h1 : 1 ≤ v) (hm : v ≤ M - acc.length) (hi : giE b2 = 0) (hx : giV b2 = x) (hJ : giK b2 = J) (hs : ¬ (acc ≠ [] ∧ x = acc[acc.length - 1]?.getD 0)) : fin n (rr M (k + 1) b acc) = fin n (rr M k (b2.drop J) (acc ++ List.replicate v x)) := by
  rw [rr_step h hv hK hb2 h1 hm, if_pos hi, hx, if_neg hs, hJ]
set_option maxHeartbeats 400000 in
theorem bounded_any (most : Int) (M : Nat) (hM : clampM most = M) (hm0 : -9223372036854775808 ≤ most) (hm1 : most ≤ 9223372036854775807) (w : World) :
    Calls Try.prog 58 #[.int .i64 most] w fun e w' => e = .returned (.int .i64 (M : Int)) ∧ w' = w := by
  have hcl : most < 0 ∧ M = 0 ∨ 65536 < most ∧ M = 65536 ∨ 0 ≤ most ∧ most ≤ 65536 ∧ most = (M : Int) := by
    unfold clampM at hM
    split at hM
    · exact .inl ⟨by assumption, hM.symm⟩
    · split at hM
      · exact .inr (.inl ⟨by assumption, hM.symm⟩)
      · exact .inr (.inr ⟨by omega, by omega, by omega⟩)
  clear hM
  rcases hcl with ⟨hc1, rfl⟩ | ⟨hc1, rfl⟩ | ⟨hc1, hc2, rfl⟩
  all_goals
    go_enter Try.func58, Try.ntmps58
    go_wp2
    all_goals
      go_ret
      first
        | exact ⟨rfl, rfl⟩
        | (exfalso; omega)
        | (obtain rfl : M = 0 := by omega
           exact ⟨rfl, rfl⟩)
end Go.Proofs.Ytpplnomomcdemaa
