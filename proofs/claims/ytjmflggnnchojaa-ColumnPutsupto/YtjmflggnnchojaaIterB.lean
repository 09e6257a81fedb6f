/-
  THE ITERATOR runsOf[bool].
-/
import Derived.Test.YtjmflggnnchojaaRoundKit
namespace Go.Proofs.Ytjmflggnnchojaa
open Go.RowKit Go.Shelf Leb
attribute [local go_sem] Oper.semAt_some
abbrev RunB := { x : Bool × Nat // x.2 ≤ 1048576 }
/-- A slice of truths. -/
def BoolsAt (w : World) (ao : Option Addr) (l : List Bool) : Prop := l ≠ [] → ∃ b o, ao = some ⟨b, o, none⟩ ∧ ∀ j, j < l.length → w.cell? ⟨b, o + j, none⟩ = some (.bool (l[j]?.getD false))
theorem runsOfB_any (v : Value) (w : World) (hv : ∃ a n c, v = .slice a n c) : CallsIn Fence.wide 3 Try.prog 32 #[v] w fun e w' => e = .returned (.func (.func 41) #[] #[.pointer (some ⟨w.heap.size, 0, none⟩)]) ∧ w' = w.alloc (.cells #[v] 28) := by
  obtain ⟨a, n, c, rfl⟩ := hv
  refine callsIn_of_wp Try.func32 rfl trivial ?_ rfl
  simp only [Try.ntmps32, List.size_toArray, List.length_cons, List.length_nil, Nat.reduceAdd, Nat.reduceSub, Array.replicate_succ, Array.replicate_zero, List.push_toArray, List.append_toArray, List.nil_append, List.cons_append]
  gi_wp2
  go_ret
  exact ⟨rfl, rfl⟩
theorem runB_ok (l : List Bool) (hn : l.length ≤ 1048576) (s i : Nat) (hi : i < l.length) : i + 1 - s ≤ 1048576 := by omega
set_option maxRecDepth 100000 in
set_option maxHeartbeats 2000000 in
theorem runsB_in (lp Bs n₀ b off cap : Nat) (l : List Bool) (hn : l.length ≤ 1048576) (hb : b < n₀) (J Jx : List RunB → World → Prop)
    (hY : ∀ pre x W, J pre W → pre.length < l.length → YieldAt Fence.wide (3 - 1) Try.prog lp #[.bool x.1.1, .int .i64 (x.1.2 : Int)] W fun e W' =>
      (e = .returned (.bool true) ∧ J (pre ++ [x]) W' ∧ Kb n₀ Bs W W') ∨ (e = .returned (.bool false) ∧ Jx (pre ++ [x]) W'))
    (hD : ∀ pre W, J pre W → J pre W.drew)
    (W : World) (hBs : W.cell? ⟨Bs, 0, none⟩ = some (.slice (some ⟨b, off, none⟩) l.length cap)) (hc : ∀ j, j < l.length → W.cell? ⟨b, off + j, none⟩ = some (.bool (l[j]?.getD false))) (h0 : J [] W) :
    CallsIn Fence.wide 3 Try.prog 41 #[.func (.yield lp) #[] #[], .pointer (some ⟨Bs, 0, none⟩)] W fun e W' => (∃ v, e = .returned v) ∧
      ((∃ ys : List RunB, ys.map (·.1) = runs l ∧ J ys W') ∨ (∃ pre : List RunB, Jx pre W')) := by
  refine callsIn_of_wp Try.func41 rfl trivial ?_ rfl
  simp only [Try.ntmps41, List.size_toArray, List.length_cons, List.length_nil, Nat.reduceAdd, Nat.reduceSub, Array.replicate_succ, Array.replicate_zero, List.push_toArray, List.append_toArray, List.nil_append, List.cons_append]
  gi_wp2
  gi_loopw [3, 7] (fun s i wr => ∃ (k m : Nat) (pre : List RunB), m ≤ k ∧ k ≤ l.length ∧ i = .int .i64 k ∧ s = .int .i64 m ∧ (∀ j, m ≤ j → j ≤ k → j < l.length → l[j]?.getD false = l[m]?.getD false) ∧ (k = l.length → m = k) ∧ (0 < m → m < l.length → l[m - 1]?.getD false ≠ l[m]?.getD false) ∧ pre.map (·.1) = runs (l.take m) ∧ J pre wr ∧ Kb n₀ Bs W wr)
    (fun _ i _ => l.length - (intOf i).toNat)
  case atStart => exact ⟨0, 0, [], by omega, by omega, rfl, rfl, fun j h1 h2 _ => (by obtain rfl : j = 0 := Nat.le_zero.1 h2; rfl), fun h => h.symm ▸ rfl, fun h => by omega, rfl, h0, Kb.refl _ _ _⟩
  case round =>
    obtain ⟨k, m, pre, hmk, hk, rfl, rfl, hsame, hend, hbr, hpre, hJ, hnx⟩ := hrel
    have HSAME := show Hid _ from hsame
    have HEND := show Hid _ from hend
    have HBR := show Hid _ from hbr
    have HPRE := show Hid _ from hpre
    have hbs : wr.cell? ⟨Bs, 0, none⟩ = some (.slice (some ⟨b, off, none⟩) l.length cap) := hnx.box hBs
    by_cases hlt : k < l.length
    · have hcm : wr.cell? ⟨b, off + m, none⟩ = some (.bool (l[m]?.getD false)) := (hnx.1.cell (p := ⟨b, off + m, none⟩) hb).trans (hc m (by omega))
      obtain ⟨x, HX⟩ : ∃ x, Hid (l[m]?.getD false = x) := ⟨_, rfl⟩
      rw [HX.out] at hcm
      have HLT : Hid (k < l.length) := hlt
      have HMK : Hid (m ≤ k) := hmk
      by_cases hl1 : k + 1 < l.length
      · obtain ⟨y, HY⟩ : ∃ x, Hid (l[k + 1]?.getD false = x) := ⟨_, rfl⟩
        have hck : wr.cell? ⟨b, off + (k + 1), none⟩ = some (.bool y) := by rw [← HY.out]; exact (hnx.1.cell (p := ⟨b, off + (k + 1), none⟩) hb).trans (hc (k + 1) hl1)
        have HL1 : Hid (k + 1 < l.length) := hl1
        have bk : (k : Int) + 1 < (l.length : Int) := by omega
        have bm : (m : Int) < (l.length : Int) := by omega
        clear hsame hend hbr hpre hBs hc
        by_cases hxy : y = x
        · subst hxy
          gi_wp2
          gi_region
          all_goals gi_wp2
          go_roundw
          case rel => exact ⟨k + 1, m, pre, by have := HMK.out; omega, by have := HLT.out; omega, by go_num, rfl, fun j h1 h2 h3 => by
            rcases Nat.lt_or_ge j (k + 1) with h | h
            · exact HSAME.out j h1 (by omega) h3
            · obtain rfl : j = k + 1 := by omega
              rw [HX.out, HY.out], fun h => by have := HL1.out; omega, HBR.out, HPRE.out, hD _ _ hJ, hnx.drew⟩
          case measure => simp [intOf]; omega
        · have hxy' : (y == x) = false := by simpa using hxy
          have ok := runB_ok l hn m k HLT.out
          have hlen : pre.length < l.length := by
            have h1 := congrArg List.length HPRE.out
            have h2 := runs_len (l.take m)
            simp only [List.length_map, List.length_take] at h1 h2
            have := HLT.out; have := HMK.out
            omega
          have HST : Hid (∀ j, m ≤ j → j ≤ k → l[j]?.getD false = l[m]?.getD false) := fun j h1 h2 => HSAME.out j h1 h2 (by have := HLT.out; omega)
          have HRUN : Hid (runs (l.take (k + 1)) = runs (l.take m) ++ [(x, k + 1 - m)]) := by
            have := runs_stretch l false m k HMK.out HLT.out HST.out (fun h => HBR.out h (by have := HLT.out; have := HMK.out; omega))
            rw [HX.out] at this
            exact this
          obtain ⟨fn, tmps, assign, body, hy, hR⟩ := hY pre ⟨(x, k + 1 - m), ok⟩ wr.drew (hD _ _ hJ) hlen
          have ekm : ((k + 1 - m : Nat) : Int) = (k : Int) + 1 - (m : Int) := by have := HMK.out; omega
          dsimp only at hy
          rw [ekm] at hy
          gi_wp2
          gi_region
          all_goals gi_wp2
          all_goals refine hR.mono ?_
          all_goals rintro e W3 (⟨rfl, hJ3, hk3⟩ | ⟨rfl, hJx3⟩)
          · gi_wp2
            go_roundw
            case rel => exact ⟨k + 1, k + 1, pre ++ [⟨(x, k + 1 - m), ok⟩], Nat.le_refl _, HLT.out, by go_num, by go_num, fun j h1 h2 _ => (by obtain rfl : j = k + 1 := Nat.le_antisymm h2 h1; rfl), fun _ => rfl, fun _ _ => (by rw [show k + 1 - 1 = k by omega, HST.out k HMK.out (Nat.le_refl _), HX.out, HY.out]; exact fun h => hxy h.symm), by rw [List.map_append, HPRE.out, HRUN.out]; rfl, hJ3, hnx.drew.trans hk3⟩
            case measure => have := HLT.out; simp [intOf]; omega
          · gi_wp2
            refine bodyPost_ret (results_none rfl _ _ _) rfl ?_
            exact ⟨⟨_, rfl⟩, .inr ⟨_, hJx3⟩⟩
      · have hke : k + 1 = l.length := by omega
        have HKE : Hid (k + 1 = l.length) := hke
        have HWK : Hid (IntKind.i64.wrap ((k : Int) + 1) = (l.length : Int)) := by unfold Hid; rw [wrap_i64i]; unfold Leb.wrap64; omega
        have bm : (m : Int) < (l.length : Int) := by omega
        clear hsame hend hbr hpre hBs hc
        have ok := runB_ok l hn m k HLT.out
        have hlen : pre.length < l.length := by
          have h1 := congrArg List.length HPRE.out
          have h2 := runs_len (l.take m)
          simp only [List.length_map, List.length_take] at h1 h2
          have := HLT.out; have := HMK.out
          omega
        have HST : Hid (∀ j, m ≤ j → j ≤ k → l[j]?.getD false = l[m]?.getD false) := fun j h1 h2 => HSAME.out j h1 h2 (by have := HLT.out; omega)
        have HRUN : Hid (runs (l.take (k + 1)) = runs (l.take m) ++ [(x, k + 1 - m)]) := by
          have := runs_stretch l false m k HMK.out HLT.out HST.out (fun h => HBR.out h (by have := HLT.out; have := HMK.out; omega))
          rw [HX.out] at this
          exact this
        obtain ⟨fn, tmps, assign, body, hy, hR⟩ := hY pre ⟨(x, k + 1 - m), ok⟩ wr.drew (hD _ _ hJ) hlen
        have ekm : ((k + 1 - m : Nat) : Int) = (k : Int) + 1 - (m : Int) := by have := HMK.out; omega
        dsimp only at hy
        rw [ekm] at hy
        gi_wp2
        refine wpIn_region_noPanic ?_
        refine wpIn_region_any (by kernel_rfl) ?_
        refine tkIn 0 10 (.int .i64 (k : Int)) (fuel := 16) rfl rfl (by kernel_rfl) (by kernel_rfl) (by kernel_rfl) (by kernel_rfl) noPanic_false (fun _ => by kernel_rfl) (by kernel_rfl) (fun _ => by kernel_rfl) ?_
        refine tkIn 1 11 (.int .i64 (l.length : Int)) (fuel := 15) rfl rfl (by kernel_rfl) (by kernel_rfl) (by kernel_rfl) (by kernel_rfl) noPanic_false (fun _ => by kernel_rfl) (by kernel_rfl) (fun _ => x_addi3 (x := .tmp 10) (y := .const (.int .i64 1)) (by kernel_rfl) (by kernel_rfl) (by kernel_rfl) HWK.out) ?_
        refine oneIn 2 12 (.slice (some ⟨b, off, none⟩) l.length cap) wr.drew (fuel := 14) rfl (by kernel_rfl) (by kernel_rfl) (by kernel_rfl) (fun _ => trivial) rfl (x_loadT (t := 28) (x := .tmp 1) (g := Bs) (j := 0) Try.underlying28 rfl (by kernel_rfl) (by kernel_rfl) hbs) ?_
        refine tkIn 3 13 (.int .i64 (l.length : Int)) (fuel := 13) rfl rfl (by kernel_rfl) (by kernel_rfl) (by kernel_rfl) (by kernel_rfl) noPanic_false (fun _ => by kernel_rfl) (by kernel_rfl) (fun _ => by kernel_rfl) ?_
        refine tkIn 4 14 (.bool false) (fuel := 12) rfl rfl (by kernel_rfl) (by kernel_rfl) (by kernel_rfl) (by kernel_rfl) noPanic_false (fun _ => by kernel_rfl) (by kernel_rfl) (fun _ => x_lssf (x := .tmp 11) (y := .tmp 13) (p := (l.length : Int)) (by kernel_rfl) (by kernel_rfl) (by kernel_rfl)) ?_
        refine tkIn 5 15 (.bool false) (fuel := 11) rfl rfl (by kernel_rfl) (by kernel_rfl) (by kernel_rfl) (by kernel_rfl) noPanic_false (fun _ => by kernel_rfl) (by kernel_rfl) (fun _ => by kernel_rfl) ?_
        refine tkInSkip 6 16 (fuel := 10) rfl rfl (by kernel_rfl) (by kernel_rfl) (by kernel_rfl) (by kernel_rfl) noPanic_false (fun _ => by kernel_rfl) (by kernel_rfl) ?_
        refine tkInSkip 7 17 (fuel := 9) rfl rfl (by kernel_rfl) (by kernel_rfl) (by kernel_rfl) (by kernel_rfl) noPanic_false (fun _ => by kernel_rfl) (by kernel_rfl) ?_
        refine tkInSkip 8 18 (fuel := 8) rfl rfl (by kernel_rfl) (by kernel_rfl) (by kernel_rfl) (by kernel_rfl) noPanic_false (fun _ => by kernel_rfl) (by kernel_rfl) ?_
        refine tkInSkip 9 19 (fuel := 7) rfl rfl (by kernel_rfl) (by kernel_rfl) (by kernel_rfl) (by kernel_rfl) noPanic_false (fun _ => by kernel_rfl) (by kernel_rfl) ?_
        refine tkInSkip 10 20 (fuel := 6) rfl rfl (by kernel_rfl) (by kernel_rfl) (by kernel_rfl) (by kernel_rfl) noPanic_false (fun _ => by kernel_rfl) (by kernel_rfl) ?_
        refine tkInSkip 11 21 (fuel := 5) rfl rfl (by kernel_rfl) (by kernel_rfl) (by kernel_rfl) (by kernel_rfl) noPanic_false (fun _ => by kernel_rfl) (by kernel_rfl) ?_
        refine tkInSkip 12 22 (fuel := 4) rfl rfl (by kernel_rfl) (by kernel_rfl) (by kernel_rfl) (by kernel_rfl) noPanic_false (fun _ => by kernel_rfl) (by kernel_rfl) ?_
        refine tkInSkip 13 23 (fuel := 3) rfl rfl (by kernel_rfl) (by kernel_rfl) (by kernel_rfl) (by kernel_rfl) noPanic_false (fun _ => by kernel_rfl) (by kernel_rfl) ?_
        refine tkInSkip 14 24 (fuel := 2) rfl rfl (by kernel_rfl) (by kernel_rfl) (by kernel_rfl) (by kernel_rfl) noPanic_false (fun _ => by kernel_rfl) (by kernel_rfl) ?_
        refine tkInSkip 15 25 (fuel := 1) rfl rfl (by kernel_rfl) (by kernel_rfl) (by kernel_rfl) (by kernel_rfl) noPanic_false (fun _ => by kernel_rfl) (by kernel_rfl) ?_
        refine tkIn 16 26 (.bool false) (fuel := 0) rfl rfl (by kernel_rfl) (by kernel_rfl) (by kernel_rfl) (by kernel_rfl) noPanic_false (fun _ => by kernel_rfl) (by kernel_rfl) (fun _ => by kernel_rfl) ?_
        refine wpAnyIn_done (by kernel_rfl) (NoPanic.normal ?_) _
        go_simp
        gi_wp2
        all_goals refine hR.mono ?_
        all_goals rintro e W3 (⟨rfl, hJ3, hk3⟩ | ⟨rfl, hJx3⟩)
        · gi_wp2
          go_roundw
          case rel => exact ⟨k + 1, k + 1, pre ++ [⟨(x, k + 1 - m), ok⟩], Nat.le_refl _, HLT.out, by go_num, by go_num, fun j h1 h2 _ => (by obtain rfl : j = k + 1 := Nat.le_antisymm h2 h1; rfl), fun _ => rfl, fun _ h => (by have := HKE.out; omega), by rw [List.map_append, HPRE.out, HRUN.out]; rfl, hJ3, hnx.drew.trans hk3⟩
          case measure => have := HLT.out; simp [intOf]; omega
        · gi_wp2
          refine bodyPost_ret (results_none rfl _ _ _) rfl ?_
          exact ⟨⟨_, rfl⟩, .inr ⟨_, hJx3⟩⟩
    · have hkl : k = l.length := by omega
      have HE := HEND.out hkl
      have HP : Hid (pre.map (·.1) = runs l) := by
        unfold Hid; rw [HPRE.out, HE, hkl, List.take_length]
      clear hsame hend hbr hpre hBs hc
      gi_wp2
      go_end0
      exact ⟨⟨_, rfl⟩, .inl ⟨_, HP.out, hJ⟩⟩
set_option maxRecDepth 100000 in
set_option maxHeartbeats 1000000 in
theorem runsB_nil (lp Bs cap : Nat) (ao : Option Addr) (J : List RunB → World → Prop) (W : World) (hBs : W.cell? ⟨Bs, 0, none⟩ = some (.slice ao 0 cap)) (h0 : J [] W) :
    CallsIn Fence.wide 3 Try.prog 41 #[.func (.yield lp) #[] #[], .pointer (some ⟨Bs, 0, none⟩)] W fun e W' => (∃ v, e = .returned v) ∧ J [] W' := by
  refine callsIn_of_wp Try.func41 rfl trivial ?_ rfl
  simp only [Try.ntmps41, List.size_toArray, List.length_cons, List.length_nil, Nat.reduceAdd, Nat.reduceSub, Array.replicate_succ, Array.replicate_zero, List.push_toArray, List.append_toArray, List.nil_append, List.cons_append]
  gi_wp2
  gi_loopw [7] (fun i wr => i = .int .i64 0 ∧ J [] wr) (fun _ _ => 0)
  case atStart => exact ⟨rfl, h0⟩
  case round =>
    obtain ⟨rfl, hJs⟩ := hrel
    gi_wp2
    go_end0
    exact ⟨⟨_, rfl⟩, hJs⟩
theorem runsB_stops (Bs n₀ cap : Nat) (ao : Option Addr) (l : List Bool) (hn : l.length ≤ 1048576) (w : World) (hBs : Bs < w.heap.size) (hn₀ : n₀ ≤ w.heap.size)
    (hc : w.cell? ⟨Bs, 0, none⟩ = some (.slice ao l.length cap)) (hI : BoolsAt w ao l) (hlt : ∀ a, ao = some a → l ≠ [] → a.block < n₀) :
    SeqStopsK Fence.wide 3 Try.prog 41 #[.pointer (some ⟨Bs, 0, none⟩)] (fun x : RunB => #[Value.bool x.1.1, Value.int .i64 (x.1.2 : Int)]) (Kb n₀ Bs) (fun ys => ys.map (·.1) = runs l) (fun _ => True) l.length w := fun lp J Jx W hW hJ _ hY h0 => by
  have hW' : Below n₀ w W := hW.mono hn₀
  have hc' := (hW.cell (p := ⟨Bs, 0, none⟩) hBs).trans hc
  by_cases hne : l = []
  · subst hne
    exact (runsB_nil lp Bs cap ao J W hc' h0).mono fun e W' ⟨he, hj⟩ => ⟨he, .inl ⟨[], rfl, hj⟩⟩
  · obtain ⟨b, off, rfl, hcs⟩ := hI hne
    have hb := hlt _ rfl hne
    refine (runsB_in lp Bs n₀ b off cap l hn hb J Jx hY (fun pre A hA => hJ pre A A.drew none hA ⟨rfl, rfl, rfl, Nat.le_refl _, fun _ _ _ => rfl⟩ (fun r h => by cases h)) W hc' (fun j hj => (hW'.cell (p := ⟨b, off + j, none⟩) hb).trans (hcs j hj)) h0).mono ?_
    rintro e W' ⟨he, ⟨ys, h1, hj⟩ | ⟨pre, hj⟩⟩
    · exact ⟨he, .inl ⟨_, h1, hj⟩⟩
    · exact ⟨he, .inr ⟨_, trivial, hj⟩⟩
end Go.Proofs.Ytjmflggnnchojaa
