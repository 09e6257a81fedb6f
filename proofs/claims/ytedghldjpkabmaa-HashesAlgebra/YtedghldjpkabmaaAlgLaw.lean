/-
  THE WALK OF stemmalaw06.HashesAlgebra.
-/
import Derived.Test.YtedghldjpkabmaaTold
namespace Go.Proofs.Ytedghldjpkabmaa
open Go.RowKit
theorem nodup_le : ∀ {s t : List Hs}, s.Nodup → (∀ x ∈ s, x ∈ t) → s.length ≤ t.length
  | [], _, _, _ => Nat.zero_le _
  | x :: s, t, hn, h => by
    have hx : x ∈ t := h x (by simp)
    have hn2 := List.nodup_cons.1 hn
    have ih := nodup_le (s := s) (t := t.erase x) hn2.2 (fun y hy => by
      have hne : y ≠ x := fun e => hn2.1 (e ▸ hy)
      exact (List.mem_erase_of_ne hne).2 (h y (by simp [hy])))
    rw [List.length_erase_of_mem hx] at ih
    have : 0 < t.length := List.length_pos_of_mem hx
    simp only [List.length_cons]
    omega
theorem alg_len {a b u x y m : List Hs} {ku kx ky km Nu Nx Ny Nm : Nat} (hu : Res u ku Nu (fun h => h ∈ a ∨ h ∈ b)) (hm : Res m km Nm (fun h => h ∈ a ∧ h ∈ b)) (hx : Res x kx Nx (fun h => h ∈ a ∧ ¬ h ∈ b)) (hy : Res y ky Ny (fun h => h ∈ b ∧ ¬ h ∈ a)) : ku = kx + ky + km := by
  have hd : (x ++ (y ++ m)).Nodup := by
    rw [List.nodup_append]
    refine ⟨hx.up.nodup, ?_, ?_⟩
    · rw [List.nodup_append]
      refine ⟨hy.up.nodup, hm.up.nodup, fun p hp q hq e => ?_⟩
      subst e
      exact ((hy.mem p).1 hp).2 ((hm.mem p).1 hq).1
    · intro p hp q hq e
      subst e
      rcases List.mem_append.1 hq with h | h
      · exact ((hx.mem p).1 hp).2 ((hy.mem p).1 h).1
      · exact ((hx.mem p).1 hp).2 ((hm.mem p).1 h).2
  have hs : ∀ p, p ∈ x ++ (y ++ m) ↔ p ∈ u := fun p => by
    have e1 := hx.mem p; have e2 := hy.mem p; have e3 := hm.mem p; have e4 := hu.mem p
    by_cases h1 : p ∈ a <;> by_cases h2 : p ∈ b <;> simp [e1, e2, e3, e4, h1, h2]
  have l1 := nodup_le hd (fun p hp => (hs p).1 hp)
  have l2 := nodup_le hu.up.nodup (fun p hp => (hs p).2 hp)
  have := hu.len; have := hx.len; have := hy.len; have := hm.len
  simp only [List.length_append] at l1 l2
  omega
theorem alg_union {a b u x y m xy u3 : List Hs} {ku kx ky km kxy ku3 Nu Nx Ny Nm Nxy Nu3 : Nat} (hu : Res u ku Nu (fun h => h ∈ a ∨ h ∈ b)) (hm : Res m km Nm (fun h => h ∈ a ∧ h ∈ b)) (hx : Res x kx Nx (fun h => h ∈ a ∧ ¬ h ∈ b)) (hy : Res y ky Ny (fun h => h ∈ b ∧ ¬ h ∈ a))
    (hxy : Res xy kxy Nxy (fun h => h ∈ x ∨ h ∈ y)) (h3 : Res u3 ku3 Nu3 (fun h => h ∈ xy ∨ h ∈ m)) : u = u3 := hu.eq h3 (fun p => by
  have e1 := hx.mem p; have e2 := hy.mem p; have e3 := hm.mem p; have e4 := hxy.mem p
  by_cases h1 : p ∈ a <;> by_cases h2 : p ∈ b <;> simp [e1, e2, e3, e4, h1, h2])
theorem alg_minus {a b c u cu ca cab : List Hs} {ku k1 k2 k3 Nu N1 N2 N3 : Nat} (hu : Res u ku Nu (fun h => h ∈ a ∨ h ∈ b)) (h1 : Res cu k1 N1 (fun h => h ∈ c ∧ ¬ h ∈ u)) (h2 : Res ca k2 N2 (fun h => h ∈ c ∧ ¬ h ∈ a)) (h3 : Res cab k3 N3 (fun h => h ∈ ca ∧ ¬ h ∈ b)) : cu = cab := h1.eq h3 (fun p => by
  have e1 := hu.mem p; have e2 := h2.mem p
  by_cases h1 : p ∈ a <;> by_cases h2 : p ∈ b <;> by_cases h3 : p ∈ c <;> simp [e1, e2, h1, h2, h3])
theorem alg_meet {a b c u mu ma mb mab : List Hs} {ku k1 k2 k3 k4 Nu N1 N2 N3 N4 : Nat} (hu : Res u ku Nu (fun h => h ∈ a ∨ h ∈ b)) (h1 : Res mu k1 N1 (fun h => h ∈ c ∧ h ∈ u)) (h2 : Res ma k2 N2 (fun h => h ∈ c ∧ h ∈ a)) (h3 : Res mb k3 N3 (fun h => h ∈ c ∧ h ∈ b)) (h4 : Res mab k4 N4 (fun h => h ∈ ma ∨ h ∈ mb)) : mu = mab := h1.eq h4 (fun p => by
  have e1 := hu.mem p; have e2 := h2.mem p; have e3 := h3.mem p
  by_cases h1 : p ∈ a <;> by_cases h2 : p ∈ b <;> by_cases h3 : p ∈ c <;> simp [e1, e2, e3, h1, h2, h3])
theorem Res.none {s : List Hs} {k N : Nat} {p : Hs → Prop} (h : Res s k N p) (e : ∀ x, ¬ p x) : k = 0 := by
  have : s = [] := List.eq_nil_iff_forall_not_mem.2 (fun x hx => e x ((h.mem x).1 hx))
  rw [← h.len, this]; rfl

set_option maxRecDepth 100000 in
set_option maxHeartbeats 6400000 in
theorem algebra_any (a0 a1 a2 : Option Addr) (c0 c1 c2 : Nat) (l0 l1 l2 : List Hs) (h0 : All32 l0) (h1 : All32 l1) (h2 : All32 l2) (n0 n1 n2 : Nat) (e0 : l0.length = n0) (e1 : l1.length = n1) (e2 : l2.length = n2) (b0 : n0 ≤ 1152921504606846976) (b1 : n1 ≤ 1152921504606846976) (b2 : n2 ≤ 1152921504606846976) (w : World) (A0 : HsAt w a0 l0) (A1 : HsAt w a1 l1) (A2 : HsAt w a2 l2) :
    Calls Try.prog 8 #[.slice a0 n0 c0, .slice a1 n1 c1, .slice a2 n2 c2] w fun e w' => e = .returned (.bool true) ∧ After w w' := by
  have HST0 : Hid (LsAll w [(a0, n0, l0), (a1, n1, l1), (a2, n2, l2)]) := LsAll.cons ⟨A0, h0, e0⟩ (LsAll.cons ⟨A1, h1, e1⟩ (LsAll.cons ⟨A2, h2, e2⟩ (fun _ h => by simp at h)))
  have HA0 : Hid (After w w) := After.refl w
  clear A0 A1 A2 h0 h1 h2 e0 e1 e2
  by_cases f0 : n0 ≤ 2000
  · have H0 : Hid (decide (n0 ≤ 2000) = true) := decide_eq_true f0
    by_cases f1 : n1 ≤ 2000
    · have H1 : Hid (decide (n1 ≤ 2000) = true) := decide_eq_true f1
      by_cases f2 : n2 ≤ 2000
      · have H2 : Hid (decide (n2 ≤ 2000) = true) := decide_eq_true f2
        clear b0 b1 b2
        go_enter Try.func8, Try.ntmps8
        go_wp2_with (first
          | (go_at_call 10; refine Calls.mono (few_any a0 n0 c0 (by omega) w (t := true) H0.out) ?_; rintro e wx ⟨rfl, hwx⟩; have hwy := hwx.symm; clear hwx; subst hwy)
          | (go_at_call 10; refine Calls.mono (few_any a1 n1 c1 (by omega) w (t := true) H1.out) ?_; rintro e wx ⟨rfl, hwx⟩; have hwy := hwx.symm; clear hwx; subst hwy)
          | (go_at_call 10; refine Calls.mono (few_any a2 n2 c2 (by omega) w (t := true) H2.out) ?_; rintro e wx ⟨rfl, hwx⟩; have hwy := hwx.symm; clear hwx; subst hwy)
          | (go_at_call 11; have _u := HST25.out; clear _u; refine Calls.mono (awake_any _) ?_; rintro e w26 ⟨rfl, ha⟩; have HA26 := show Hid (After w w26) from After.trans HA25.out ha; clear ha)
          | (go_at_call 15; refine Calls.mono (rising_at HST24.out (l := su) c_u (by simp) (by omega) HRu.out.up) ?_; rintro e w25 ⟨rfl, hl, ha⟩; have HST25 := show Hid (LsAll _ _) from hl; have HA25 := show Hid (After w w25) from After.trans HA24.out ha; clear hl ha)
          | (go_at_call 17; refine Calls.mono (same_at HST23.out (la := ssu) (lb := su) c_su c_u (by simp) (by simp) (by omega) (decide_eq_true (HRsu.out.up.unique HRu.out.up HRsu.out.mem))) ?_; rintro e w24 ⟨rfl, hl, ha⟩; have HST24 := show Hid (LsAll _ _) from hl; have HA24 := show Hid (After w w24) from After.trans HA23.out ha; clear hl ha)
          | (go_at_call 12; refine Calls.mono (sort_at HST22.out (l := su) c_u (by simp) (by omega)) ?_; rintro e w23 ⟨osu, ksu, c_su, ssu, rfl, hl, hr, ha⟩; have HST23 := show Hid (LsAll _ _) from hl; have HRsu := show Hid (Res _ _ _ _) from hr; have HA23 := show Hid (After w w23) from After.trans HA22.out ha; have hksu := hr.le; clear hl hr ha)
          | (go_at_call 22; refine Calls.mono (minus_at HST21.out (la := sx) (lb := l0) c_x c0 (by simp) (by simp) (by omega)) ?_; rintro e w22 ⟨oxa, kxa, c_xa, sxa, rfl, hl, hr, ha⟩; have HST22 := show Hid (LsAll _ _) from hl; have HRxa := show Hid (Res _ _ _ _) from hr; have HA22 := show Hid (After w w22) from After.trans HA21.out ha; have hkxa := hr.le; obtain ⟨zxa, hzxa⟩ : ∃ z, z = kxa := ⟨_, rfl⟩; have hz2xa : kxa = 0 := hr.none (fun h hh => hh.2 ((HRx.out.mem h).1 hh.1).1); have hzbxa : ((kxa : Int) == 0) = true := (by rw [hz2xa]; rfl); clear hz2xa hzxa; clear hl hr ha)
          | (go_at_call 24; refine Calls.mono (meet_at HST20.out (la := sx) (lb := l1) c_x c1 (by simp) (by simp) (by omega)) ?_; rintro e w21 ⟨oxb, kxb, c_xb, sxb, rfl, hl, hr, ha⟩; have HST21 := show Hid (LsAll _ _) from hl; have HRxb := show Hid (Res _ _ _ _) from hr; have HA21 := show Hid (After w w21) from After.trans HA20.out ha; have hkxb := hr.le; obtain ⟨zxb, hzxb⟩ : ∃ z, z = kxb := ⟨_, rfl⟩; have hz2xb : kxb = 0 := hr.none (fun h hh => ((HRx.out.mem h).1 hh.1).2 hh.2); have hzbxb : ((kxb : Int) == 0) = true := (by rw [hz2xb]; rfl); clear hz2xb hzxb; clear hl hr ha)
          | (go_at_call 17; refine Calls.mono (same_at HST19.out (la := smu) (lb := smab) c_mu c_mab (by simp) (by simp) (by omega) (decide_eq_true (alg_meet HRu.out HRmu.out HRma.out HRmb.out HRmab.out))) ?_; rintro e w20 ⟨rfl, hl, ha⟩; have HST20 := show Hid (LsAll _ _) from hl; have HA20 := show Hid (After w w20) from After.trans HA19.out ha; clear hl ha)
          | (go_at_call 20; refine Calls.mono (union_at HST18.out (la := sma) (lb := smb) c_ma c_mb (by simp) (by simp) (by omega)) ?_; rintro e w19 ⟨omab, kmab, c_mab, smab, rfl, hl, hr, ha⟩; have HST19 := show Hid (LsAll _ _) from hl; have HRmab := show Hid (Res _ _ _ _) from hr; have HA19 := show Hid (After w w19) from After.trans HA18.out ha; have hkmab := hr.le; clear hl hr ha)
          | (go_at_call 24; refine Calls.mono (meet_at HST17.out (la := l2) (lb := l1) c2 c1 (by simp) (by simp) (by omega)) ?_; rintro e w18 ⟨omb, kmb, c_mb, smb, rfl, hl, hr, ha⟩; have HST18 := show Hid (LsAll _ _) from hl; have HRmb := show Hid (Res _ _ _ _) from hr; have HA18 := show Hid (After w w18) from After.trans HA17.out ha; have hkmb := hr.le; clear hl hr ha)
          | (go_at_call 24; refine Calls.mono (meet_at HST16.out (la := l2) (lb := l0) c2 c0 (by simp) (by simp) (by omega)) ?_; rintro e w17 ⟨oma, kma, c_ma, sma, rfl, hl, hr, ha⟩; have HST17 := show Hid (LsAll _ _) from hl; have HRma := show Hid (Res _ _ _ _) from hr; have HA17 := show Hid (After w w17) from After.trans HA16.out ha; have hkma := hr.le; clear hl hr ha)
          | (go_at_call 24; refine Calls.mono (meet_at HST15.out (la := l2) (lb := su) c2 c_u (by simp) (by simp) (by omega)) ?_; rintro e w16 ⟨omu, kmu, c_mu, smu, rfl, hl, hr, ha⟩; have HST16 := show Hid (LsAll _ _) from hl; have HRmu := show Hid (Res _ _ _ _) from hr; have HA16 := show Hid (After w w16) from After.trans HA15.out ha; have hkmu := hr.le; clear hl hr ha)
          | (go_at_call 17; refine Calls.mono (same_at HST14.out (la := scu) (lb := scab) c_cu c_cab (by simp) (by simp) (by omega) (decide_eq_true (alg_minus HRu.out HRcu.out HRca.out HRcab.out))) ?_; rintro e w15 ⟨rfl, hl, ha⟩; have HST15 := show Hid (LsAll _ _) from hl; have HA15 := show Hid (After w w15) from After.trans HA14.out ha; clear hl ha)
          | (go_at_call 22; refine Calls.mono (minus_at HST13.out (la := sca) (lb := l1) c_ca c1 (by simp) (by simp) (by omega)) ?_; rintro e w14 ⟨ocab, kcab, c_cab, scab, rfl, hl, hr, ha⟩; have HST14 := show Hid (LsAll _ _) from hl; have HRcab := show Hid (Res _ _ _ _) from hr; have HA14 := show Hid (After w w14) from After.trans HA13.out ha; have hkcab := hr.le; clear hl hr ha)
          | (go_at_call 22; refine Calls.mono (minus_at HST12.out (la := l2) (lb := l0) c2 c0 (by simp) (by simp) (by omega)) ?_; rintro e w13 ⟨oca, kca, c_ca, sca, rfl, hl, hr, ha⟩; have HST13 := show Hid (LsAll _ _) from hl; have HRca := show Hid (Res _ _ _ _) from hr; have HA13 := show Hid (After w w13) from After.trans HA12.out ha; have hkca := hr.le; clear hl hr ha)
          | (go_at_call 22; refine Calls.mono (minus_at HST11.out (la := l2) (lb := su) c2 c_u (by simp) (by simp) (by omega)) ?_; rintro e w12 ⟨ocu, kcu, c_cu, scu, rfl, hl, hr, ha⟩; have HST12 := show Hid (LsAll _ _) from hl; have HRcu := show Hid (Res _ _ _ _) from hr; have HA12 := show Hid (After w w12) from After.trans HA11.out ha; have hkcu := hr.le; clear hl hr ha)
          | (go_at_call 17; refine Calls.mono (same_at HST10.out (la := su) (lb := su3) c_u c_u3 (by simp) (by simp) (by omega) (decide_eq_true (alg_union HRu.out HRm.out HRx.out HRy.out HRxy.out HRu3.out))) ?_; rintro e w11 ⟨rfl, hl, ha⟩; have HST11 := show Hid (LsAll _ _) from hl; have HA11 := show Hid (After w w11) from After.trans HA10.out ha; clear hl ha)
          | (go_at_call 20; refine Calls.mono (union_at HST9.out (la := sxy) (lb := sm) c_xy c_m (by simp) (by simp) (by omega)) ?_; rintro e w10 ⟨ou3, ku3, c_u3, su3, rfl, hl, hr, ha⟩; have HST10 := show Hid (LsAll _ _) from hl; have HRu3 := show Hid (Res _ _ _ _) from hr; have HA10 := show Hid (After w w10) from After.trans HA9.out ha; have hku3 := hr.le; clear hl hr ha)
          | (go_at_call 20; refine Calls.mono (union_at HST8.out (la := sx) (lb := sy) c_x c_y (by simp) (by simp) (by omega)) ?_; rintro e w9 ⟨oxy, kxy, c_xy, sxy, rfl, hl, hr, ha⟩; have HST9 := show Hid (LsAll _ _) from hl; have HRxy := show Hid (Res _ _ _ _) from hr; have HA9 := show Hid (After w w9) from After.trans HA8.out ha; have hkxy := hr.le; clear hl hr ha)
          | (go_at_call 17; refine Calls.mono (same_at HST7.out (la := sm) (lb := sm2) c_m c_m2 (by simp) (by simp) (by omega) (decide_eq_true (HRm.out.eq HRm2.out (fun _ => and_comm)))) ?_; rintro e w8 ⟨rfl, hl, ha⟩; have HST8 := show Hid (LsAll _ _) from hl; have HA8 := show Hid (After w w8) from After.trans HA7.out ha; clear hl ha)
          | (go_at_call 24; refine Calls.mono (meet_at HST6.out (la := l1) (lb := l0) c1 c0 (by simp) (by simp) (by omega)) ?_; rintro e w7 ⟨om2, km2, c_m2, sm2, rfl, hl, hr, ha⟩; have HST7 := show Hid (LsAll _ _) from hl; have HRm2 := show Hid (Res _ _ _ _) from hr; have HA7 := show Hid (After w w7) from After.trans HA6.out ha; have hkm2 := hr.le; clear hl hr ha)
          | (go_at_call 17; refine Calls.mono (same_at HST5.out (la := su) (lb := su2) c_u c_u2 (by simp) (by simp) (by omega) (decide_eq_true (HRu.out.eq HRu2.out (fun _ => or_comm)))) ?_; rintro e w6 ⟨rfl, hl, ha⟩; have HST6 := show Hid (LsAll _ _) from hl; have HA6 := show Hid (After w w6) from After.trans HA5.out ha; clear hl ha)
          | (go_at_call 20; refine Calls.mono (union_at HST4.out (la := l1) (lb := l0) c1 c0 (by simp) (by simp) (by omega)) ?_; rintro e w5 ⟨ou2, ku2, c_u2, su2, rfl, hl, hr, ha⟩; have HST5 := show Hid (LsAll _ _) from hl; have HRu2 := show Hid (Res _ _ _ _) from hr; have HA5 := show Hid (After w w5) from After.trans HA4.out ha; have hku2 := hr.le; clear hl hr ha)
          | (go_at_call 22; refine Calls.mono (minus_at HST3.out (la := l1) (lb := l0) c1 c0 (by simp) (by simp) (by omega)) ?_; rintro e w4 ⟨oy, ky, c_y, sy, rfl, hl, hr, ha⟩; have HST4 := show Hid (LsAll _ _) from hl; have HRy := show Hid (Res _ _ _ _) from hr; have HA4 := show Hid (After w w4) from After.trans HA3.out ha; have hky := hr.le; have hlb : ((ku : Int) == (kx : Int) + (ky : Int) + (km : Int)) = true := (by rw [alg_len HRu.out HRm.out HRx.out hr]; simp); have hln : ((ku : Int) != (kx : Int) + (ky : Int) + (km : Int)) = false := (by simp only [bne, hlb]; rfl); clear hl hr ha)
          | (go_at_call 22; refine Calls.mono (minus_at HST2.out (la := l0) (lb := l1) c0 c1 (by simp) (by simp) (by omega)) ?_; rintro e w3 ⟨ox, kx, c_x, sx, rfl, hl, hr, ha⟩; have HST3 := show Hid (LsAll _ _) from hl; have HRx := show Hid (Res _ _ _ _) from hr; have HA3 := show Hid (After w w3) from After.trans HA2.out ha; have hkx := hr.le; clear hl hr ha)
          | (go_at_call 24; refine Calls.mono (meet_at HST1.out (la := l0) (lb := l1) c0 c1 (by simp) (by simp) (by omega)) ?_; rintro e w2 ⟨om, km, c_m, sm, rfl, hl, hr, ha⟩; have HST2 := show Hid (LsAll _ _) from hl; have HRm := show Hid (Res _ _ _ _) from hr; have HA2 := show Hid (After w w2) from After.trans HA1.out ha; have hkm := hr.le; clear hl hr ha)
          | (go_at_call 20; refine Calls.mono (union_at HST0.out (la := l0) (lb := l1) c0 c1 (by simp) (by simp) (by omega)) ?_; rintro e w1 ⟨ou, ku, c_u, su, rfl, hl, hr, ha⟩; have HST1 := show Hid (LsAll _ _) from hl; have HRu := show Hid (Res _ _ _ _) from hr; have HA1 := show Hid (After w w1) from After.trans HA0.out ha; have hku := hr.le; clear hl hr ha))
        go_ret
        exact ⟨rfl, HA26.out⟩
      · have H2 : Hid (decide (n2 ≤ 2000) = false) := decide_eq_false f2
        go_enter Try.func8, Try.ntmps8
        go_wp2_with (first | (go_at_call 10; refine Calls.mono (few_any a0 n0 c0 (by omega) w (t := true) H0.out) ?_; rintro e wx ⟨rfl, hwx⟩; have hwy := hwx.symm; clear hwx; subst hwy) | (go_at_call 10; refine Calls.mono (few_any a1 n1 c1 (by omega) w (t := true) H1.out) ?_; rintro e wx ⟨rfl, hwx⟩; have hwy := hwx.symm; clear hwx; subst hwy) | (go_at_call 10; refine Calls.mono (few_any a2 n2 c2 (by omega) w (t := false) H2.out) ?_; rintro e wx ⟨rfl, hwx⟩; have hwy := hwx.symm; clear hwx; subst hwy) | (go_at_call 11; refine Calls.mono (awake_any _) ?_; rintro e w1 ⟨rfl, ha⟩; have HA1 := show Hid (After w w1) from ha; clear ha))
        go_ret
        exact ⟨rfl, HA1.out⟩
    · have H1 : Hid (decide (n1 ≤ 2000) = false) := decide_eq_false f1
      go_enter Try.func8, Try.ntmps8
      go_wp2_with (first | (go_at_call 10; refine Calls.mono (few_any a0 n0 c0 (by omega) w (t := true) H0.out) ?_; rintro e wx ⟨rfl, hwx⟩; have hwy := hwx.symm; clear hwx; subst hwy) | (go_at_call 10; refine Calls.mono (few_any a1 n1 c1 (by omega) w (t := false) H1.out) ?_; rintro e wx ⟨rfl, hwx⟩; have hwy := hwx.symm; clear hwx; subst hwy) | (go_at_call 11; refine Calls.mono (awake_any _) ?_; rintro e w1 ⟨rfl, ha⟩; have HA1 := show Hid (After w w1) from ha; clear ha))
      go_ret
      exact ⟨rfl, HA1.out⟩
  · have H0 : Hid (decide (n0 ≤ 2000) = false) := decide_eq_false f0
    go_enter Try.func8, Try.ntmps8
    go_wp2_with (first | (go_at_call 10; refine Calls.mono (few_any a0 n0 c0 (by omega) w (t := false) H0.out) ?_; rintro e wx ⟨rfl, hwx⟩; have hwy := hwx.symm; clear hwx; subst hwy) | (go_at_call 11; refine Calls.mono (awake_any _) ?_; rintro e w1 ⟨rfl, ha⟩; have HA1 := show Hid (After w w1) from ha; clear ha))
    go_ret
    exact ⟨rfl, HA1.out⟩
end Go.Proofs.Ytedghldjpkabmaa
