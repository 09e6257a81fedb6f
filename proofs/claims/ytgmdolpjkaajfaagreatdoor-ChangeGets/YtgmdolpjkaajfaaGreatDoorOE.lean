/-
  CONTRACTS: Iter RoundKit RunsKit RunsWalk Rep Read ReadRuns
-/
import Derived.Test.YtgmdolpjkaajfaaGreatDoorOC
import Derived.RangeFuncNested
import Derived.RangeFuncBox
import Derived.RangeFuncBound
import Derived.RangeFuncCalls
import Derived.RangeFuncLeaves
import Derived.Shelf.Abstract
import Derived.Shelf.RegionOpen
import Derived.OwnWalkIn
import Derived.TacticsInMore
import Derived.LoopNIn
import Derived.LoopIn
import Derived.Maps.AppendAt
import Derived.Laws.CopyRow
namespace Go.Proofs.YtgmdolpjkaajfaaGreatDoor
open Go.RowKit Go.Shelf Leb
attribute [local go_sem] Oper.semAt_some
/-- The greatest stretches of one and the same thing. -/
def runs {α : Type} [DecidableEq α] : List α → List (α × Nat)
  | [] => []
  | x :: xs => match runs xs with
    | [] => [(x, 1)]
    | (y, n) :: r => if x = y then (y, n + 1) :: r else (x, 1) :: (y, n) :: r
theorem runs_nil_iff {α : Type} [DecidableEq α] : ∀ l : List α, runs l = [] ↔ l = []
  | [] => by simp [runs]
  | x :: xs => by
    simp only [runs, reduceCtorEq, iff_false]
    split
    · simp
    · split <;> simp
theorem runs_len {α : Type} [DecidableEq α] : ∀ l : List α, (runs l).length ≤ l.length
  | [] => by simp [runs]
  | x :: xs => by
    have ih := runs_len xs
    simp only [runs]
    split
    · simp
    · rename_i y n r h
      rw [h] at ih
      split <;> simp at ih ⊢ <;> omega
theorem runs_rep {α : Type} [DecidableEq α] (x : α) : ∀ n, runs (List.replicate (n + 1) x) = [(x, n + 1)]
  | 0 => by simp [runs]
  | n + 1 => by
    rw [List.replicate_succ, runs, runs_rep x n]
    simp
theorem runs_snoc {α : Type} [DecidableEq α] (x : α) (n : Nat) : ∀ a : List α, (∀ y, a.getLast? = some y → y ≠ x) → runs (a ++ List.replicate (n + 1) x) = runs a ++ [(x, n + 1)]
  | [], _ => by simp [runs, runs_rep]
  | [y], h => by
    have hy : y ≠ x := h y (by simp)
    rw [List.singleton_append, runs, runs_rep]
    simp [runs, hy]
  | y :: z :: a, h => by
    have ih := runs_snoc x n (z :: a) (fun w hw => h w (by rw [List.getLast?_cons_cons]; exact hw))
    rw [List.cons_append, runs, ih]
    show _ = runs (y :: (z :: a)) ++ _
    conv => rhs; rw [runs]
    cases hr : runs (z :: a) with
    | nil => exact absurd ((runs_nil_iff _).1 hr) (by simp)
    | cons p r =>
      obtain ⟨u, m⟩ := p
      simp only [List.cons_append]
      split <;> simp
/-- A stretch from s to i. -/
theorem runs_stretch {α : Type} [DecidableEq α] (l : List α) (d : α) (s i : Nat) (hs : s ≤ i) (hi : i < l.length) (hsame : ∀ j, s ≤ j → j ≤ i → l[j]?.getD d = l[s]?.getD d) (hb : 0 < s → l[s - 1]?.getD d ≠ l[s]?.getD d) :
    runs (l.take (i + 1)) = runs (l.take s) ++ [(l[s]?.getD d, i + 1 - s)] := by
  have e : l.take (i + 1) = l.take s ++ List.replicate (i - s + 1) (l[s]?.getD d) := by
    apply List.ext_getElem
    · simp; omega
    · intro j h1 h2
      simp only [List.length_take] at h1
      by_cases hj : j < s
      · rw [List.getElem_append_left (by simp; omega)]
        simp
      · rw [List.getElem_append_right (by simp; omega)]
        have := hsame j (by omega) (by omega)
        simp [List.getElem?_eq_getElem (show j < l.length by omega)] at this
        simp [this]
  rw [e, runs_snoc _ _ _ (fun y hy => ?_), show i - s + 1 = i + 1 - s by omega]
  intro he
  subst he
  rw [List.getLast?_take] at hy
  split at hy
  · cases hy
  · rename_i h0
    have h1 := hb (by omega)
    apply h1
    rw [List.getElem?_eq_getElem (show s - 1 < l.length by omega)] at hy ⊢
    simpa using hy
abbrev RunI := { x : Int × Nat // -9223372036854775808 ≤ x.1 ∧ x.1 ≤ 9223372036854775807 ∧ x.2 ≤ 1048576 }
/-- A slice of int64. -/
def IntsAt (w : World) (ao : Option Addr) (l : List Int) : Prop := l ≠ [] → ∃ b o, ao = some ⟨b, o, none⟩ ∧ ∀ j, j < l.length → w.cell? ⟨b, o + j, none⟩ = some (.int .i64 (l[j]?.getD 0))
theorem runsOfI_any (v : Value) (w : World) (hv : ∃ a n c, v = .slice a n c) : CallsIn Fence.wide 3 Tryz.prog 131 #[v] w fun e w' => e = .returned (.func (.func 144) #[] #[.pointer (some ⟨w.heap.size, 0, none⟩)]) ∧ w' = w.alloc (.cells #[v] 106) := by
  obtain ⟨a, n, c, rfl⟩ := hv
  refine callsIn_of_wp Tryz.func131 rfl trivial ?_ rfl
  simp only [Tryz.ntmps131, List.size_toArray, List.length_cons, List.length_nil, Nat.reduceAdd, Nat.reduceSub, Array.replicate_succ, Array.replicate_zero, List.push_toArray, List.append_toArray, List.nil_append, List.cons_append]
  gi_wp2
  go_ret
  exact ⟨rfl, rfl⟩
section
variable {ops : Array Oper} {Q : Exit → Act → World → Prop} {F : Fence} {n fuel : Nat} {listed : Array Bool} {a : Act} {w : World} {oi : Oper} {K : Act → World → Prop}
/-- In a fence: number i comes up and yields v. -/
theorem opValIn (i d : Nat) (v : Value) (w' : World) (hi : ops[i]? = some oi) (hd : oi.dst = some d) (hw : Region.wanted oi (yielded ops a.tmps) = true) (hF : ∀ f, F.fn f) (hsem : oi.semAt F.round a.eval = execOp a.eval oi)
    (hrun : (execOp a.eval oi).run Tryz.prog w = .ok (.value v) w') (h : K (a.put (some d) v) w') : wpOpIn F n Tryz.prog ops Q i K a w := by
  refine wpOpIn_step hi (fun K' hK => ?_)
  rw [if_pos hw]
  refine ⟨fun f _ => hF f, ?_⟩
  rw [hsem, hrun, Oper.uponIn_value, hd]
  exact hK _ _ h
/-- In a fence: number i, which alone may come up, yields v. -/
theorem oneIn (i d : Nat) (v : Value) (w' : World) (hi : ops[i]? = some oi) (hd : oi.dst = some d) (hr : Region.ready .any ops listed = [i]) (hw : Region.wanted oi (yielded ops a.tmps) = true) (hF : ∀ f, F.fn f) (hsem : oi.semAt F.round a.eval = execOp a.eval oi)
    (hrun : (execOp a.eval oi).run Tryz.prog w = .ok (.value v) w') (h : wpAnyIn F n Tryz.prog .any ops Q fuel (listed.setIfInBounds i true) (a.put (some d) v) w') : wpAnyIn F n Tryz.prog .any ops Q (fuel + 1) listed a w :=
  wpAnyIn_all hr (by simp) (fun j hj => by
    obtain rfl : j = i := by simpa using hj
    exact opValIn j d v w' hi hd hw hF hsem hrun h)
/-- In a fence, outside rounds: number i is taken first. -/
theorem tkIn (i d : Nat) (v : Value) (hro : F.round = none) (hi : ops[i]? = some oi) (hd : oi.dst = some d) (hs : Region.noSelect ops = true) (hf : Region.free .any ops listed i = true) (hr : (Region.ready .any ops listed).contains i = true)
    (hQ : ∀ c a w, Q (.panic c) a w → False) (hab : ∀ w, oi.about Tryz.prog w a.eval = none) (hw : Region.wanted oi (yielded ops a.tmps) = true) (hx : ∀ w, (execOp a.eval oi).run Tryz.prog w = .ok (.value v) w)
    (h : wpAnyIn F n Tryz.prog .any ops Q fuel (listed.setIfInBounds i true) (a.put (some d) v) w) : wpAnyIn F n Tryz.prog .any ops Q (fuel + 1) listed a w :=
  wpAnyIn_take hro hi hs hf hr (fun c a w h => (hQ c _ w h).elim) ⟨.inl ⟨hw, hx⟩, hab⟩ (by rw [hd]; exact h)
theorem tkInSkip (i d : Nat) (hro : F.round = none) (hi : ops[i]? = some oi) (hd : oi.dst = some d) (hs : Region.noSelect ops = true) (hf : Region.free .any ops listed i = true) (hr : (Region.ready .any ops listed).contains i = true)
    (hQ : ∀ c a w, Q (.panic c) a w → False) (hab : ∀ w, oi.about Tryz.prog w a.eval = none) (hw : Region.wanted oi (yielded ops a.tmps) = false)
    (h : wpAnyIn F n Tryz.prog .any ops Q fuel (listed.setIfInBounds i true) (a.put (some d) undef) w) : wpAnyIn F n Tryz.prog .any ops Q (fuel + 1) listed a w :=
  wpAnyIn_take hro hi hs hf hr (fun c a w h => (hQ c _ w h).elim) ⟨.inr ⟨hw, rfl⟩, hab⟩ (by rw [hd]; exact h)
theorem wpIn_region_noPanic {id : Nat} {b : Bool} (h : (Code.region id ops b).wpIn F n Tryz.prog (NoPanic Q) a w) : (Code.region id ops b).wpIn F n Tryz.prog Q a w :=
  Code.wpIn_mono NoPanic.imp h
end
theorem x_addi3 {o : Oper} {a : Act} {x y : Operand} {p q r : Int} {w : World} (hop : o.op = .binOp .add 3 x y 3) (hx : a.eval x = .int .i64 p) (hy : a.eval y = .int .i64 q) (h : IntKind.i64.wrap (p + q) = r) : (execOp a.eval o).run Tryz.prog w = .ok (.value (.int .i64 r)) w := by
  unfold execOp
  simp only [hop, hx, hy]
  rw [← h]
  simp [go_sem]
theorem x_lssf {o : Oper} {a : Act} {x y : Operand} {p : Int} {w : World} (hop : o.op = .binOp .lss 3 x y 3) (hx : a.eval x = .int .i64 p) (hy : a.eval y = .int .i64 p) : (execOp a.eval o).run Tryz.prog w = .ok (.value (.bool false)) w := by
  unfold execOp
  simp only [hop, hx, hy]
  simp [go_sem]
theorem x_loadT {o : Oper} {a : Act} {x : Operand} {t : TypeId} {ds : TypeDesc} {g j : Nat} {v : Value} {w : World} (hu : Tryz.prog.underlying t = some ds) (hd : ds.isRow = false) (hop : o.op = .load t x) (hx : a.eval x = .pointer (some ⟨g, j, none⟩)) (h : w.cell? ⟨g, j, none⟩ = some v) : (execOp a.eval o).run Tryz.prog w = .ok (.value v) w := by
  have hag : (isAgg t).run Tryz.prog w = .ok false w := by
    unfold isAgg; rw [Sem.run_bind, run_underlying hu w]
    cases ds <;> first | rfl | simp [TypeDesc.isRow] at hd
  unfold execOp
  simp only [hop, hx, Instr.loadAt, Instr.sureAddr, Sem.run_bind, Sem.run_pure, Result.andThen_ok, loadVar, hag]
  simp [h, go_sem]
theorem runI_ok (l : List Int) (hl : ∀ x ∈ l, -9223372036854775808 ≤ x ∧ x ≤ 9223372036854775807) (hn : l.length ≤ 1048576) (s i : Nat) (hi : i < l.length) (hs : s ≤ i) : -9223372036854775808 ≤ l[s]?.getD 0 ∧ l[s]?.getD 0 ≤ 9223372036854775807 ∧ i + 1 - s ≤ 1048576 := by
  have h := hl (l[s]) (List.getElem_mem (by omega))
  rw [List.getElem?_eq_getElem (show s < l.length by omega)]
  exact ⟨h.1, h.2, by omega⟩
/-- What a round keeps: what lay below n₀, and the box of the list. -/
def Kb (n₀ Bs : Nat) (A B : World) : Prop := Below n₀ A B ∧ B.heap[Bs]? = A.heap[Bs]?
theorem Kb.refl (n₀ Bs : Nat) (A : World) : Kb n₀ Bs A A := ⟨Below.refl _ _, rfl⟩
theorem Kb.trans {n₀ Bs : Nat} {A B C : World} (h : Kb n₀ Bs A B) (k : Kb n₀ Bs B C) : Kb n₀ Bs A C := ⟨h.1.trans k.1, k.2.trans h.2⟩
theorem Kb.drew {n₀ Bs : Nat} {A B : World} (h : Kb n₀ Bs A B) : Kb n₀ Bs A B.drew := ⟨h.1.drew, h.2⟩
theorem Kb.box {n₀ Bs : Nat} {A B : World} (h : Kb n₀ Bs A B) {v : Value} (hc : A.cell? ⟨Bs, 0, none⟩ = some v) : B.cell? ⟨Bs, 0, none⟩ = some v := (World.cell?_of_block (a := ⟨Bs, 0, none⟩) h.2).trans hc
set_option maxRecDepth 100000 in
set_option maxHeartbeats 2000000 in
theorem runsI_in (lp Bs n₀ b off cap : Nat) (l : List Int) (hl : ∀ x ∈ l, -9223372036854775808 ≤ x ∧ x ≤ 9223372036854775807) (hn : l.length ≤ 1048576) (hb : b < n₀) (J Jx : List RunI → World → Prop)
    (hY : ∀ pre x W, J pre W → pre.length < l.length → YieldAt Fence.wide (3 - 1) Tryz.prog lp #[.int .i64 x.1.1, .int .i64 (x.1.2 : Int)] W fun e W' =>
      (e = .returned (.bool true) ∧ J (pre ++ [x]) W' ∧ Kb n₀ Bs W W') ∨ (e = .returned (.bool false) ∧ Jx (pre ++ [x]) W'))
    (hD : ∀ pre W, J pre W → J pre W.drew)
    (W : World) (hBs : W.cell? ⟨Bs, 0, none⟩ = some (.slice (some ⟨b, off, none⟩) l.length cap)) (hc : ∀ j, j < l.length → W.cell? ⟨b, off + j, none⟩ = some (.int .i64 (l[j]?.getD 0))) (h0 : J [] W) :
    CallsIn Fence.wide 3 Tryz.prog 144 #[.func (.yield lp) #[] #[], .pointer (some ⟨Bs, 0, none⟩)] W fun e W' => (∃ v, e = .returned v) ∧
      ((∃ ys : List RunI, ys.map (·.1) = runs l ∧ J ys W') ∨ (∃ pre : List RunI, Jx pre W')) := by
  refine callsIn_of_wp Tryz.func144 rfl trivial ?_ rfl
  simp only [Tryz.ntmps144, List.size_toArray, List.length_cons, List.length_nil, Nat.reduceAdd, Nat.reduceSub, Array.replicate_succ, Array.replicate_zero, List.push_toArray, List.append_toArray, List.nil_append, List.cons_append]
  gi_wp2
  gi_loopw [3, 7] (fun s i wr => ∃ (k m : Nat) (pre : List RunI), m ≤ k ∧ k ≤ l.length ∧ i = .int .i64 k ∧ s = .int .i64 m ∧ (∀ j, m ≤ j → j ≤ k → j < l.length → l[j]?.getD 0 = l[m]?.getD 0) ∧ (k = l.length → m = k) ∧ (0 < m → m < l.length → l[m - 1]?.getD 0 ≠ l[m]?.getD 0) ∧ pre.map (·.1) = runs (l.take m) ∧ J pre wr ∧ Kb n₀ Bs W wr)
    (fun _ i _ => l.length - (intOf i).toNat)
  case atStart => exact ⟨0, 0, [], by omega, by omega, rfl, rfl, fun j h1 h2 _ => (by obtain rfl : j = 0 := Nat.le_zero.1 h2; rfl), fun h => h.symm ▸ rfl, fun h => by omega, rfl, h0, Kb.refl _ _ _⟩
  case round =>
    obtain ⟨k, m, pre, hmk, hk, rfl, rfl, hsame, hend, hbr, hpre, hJ, hnx⟩ := hrel
    have HSAME := show Hid _ from hsame
    have HEND := show Hid _ from hend
    have HBR := show Hid _ from hbr
    have HPRE := show Hid _ from hpre
    have hbs : wr.cell? ⟨Bs, 0, none⟩ = some (.slice (some ⟨b, off, none⟩) l.length cap) := hnx.box hBs
    by_cases hlt : k < l.length
    · have hcm : wr.cell? ⟨b, off + m, none⟩ = some (.int .i64 (l[m]?.getD 0)) := (hnx.1.cell (p := ⟨b, off + m, none⟩) hb).trans (hc m (by omega))
      obtain ⟨x, HX⟩ : ∃ x, Hid (l[m]?.getD 0 = x) := ⟨_, rfl⟩
      rw [HX.out] at hcm
      have HLT : Hid (k < l.length) := hlt
      have HMK : Hid (m ≤ k) := hmk
      by_cases hl1 : k + 1 < l.length
      · obtain ⟨y, HY⟩ : ∃ x, Hid (l[k + 1]?.getD 0 = x) := ⟨_, rfl⟩
        have hck : wr.cell? ⟨b, off + (k + 1), none⟩ = some (.int .i64 y) := by rw [← HY.out]; exact (hnx.1.cell (p := ⟨b, off + (k + 1), none⟩) hb).trans (hc (k + 1) hl1)
        have HL1 : Hid (k + 1 < l.length) := hl1
        have bk : (k : Int) + 1 < (l.length : Int) := by omega
        have bm : (m : Int) < (l.length : Int) := by omega
        clear hsame hend hbr hpre hBs hc
        by_cases hxy : y = x
        · subst hxy
          gi_wp2
          gi_region
          all_goals gi_wp2
          go_roundw
          case rel => exact ⟨k + 1, m, pre, by have := HMK.out; omega, by have := HLT.out; omega, by go_num, rfl, fun j h1 h2 h3 => by
            rcases Nat.lt_or_ge j (k + 1) with h | h
            · exact HSAME.out j h1 (by omega) h3
            · obtain rfl : j = k + 1 := by omega
              rw [HX.out, HY.out], fun h => by have := HL1.out; omega, HBR.out, HPRE.out, hD _ _ hJ, hnx.drew⟩
          case measure => simp [intOf]; omega
        · have hxy' : (y == x) = false := by simpa using hxy
          have ok := runI_ok l hl hn m k HLT.out HMK.out
          rw [HX.out] at ok
          have hlen : pre.length < l.length := by
            have h1 := congrArg List.length HPRE.out
            have h2 := runs_len (l.take m)
            simp only [List.length_map, List.length_take] at h1 h2
            have := HLT.out; have := HMK.out
            omega
          have HST : Hid (∀ j, m ≤ j → j ≤ k → l[j]?.getD 0 = l[m]?.getD 0) := fun j h1 h2 => HSAME.out j h1 h2 (by have := HLT.out; omega)
          have HRUN : Hid (runs (l.take (k + 1)) = runs (l.take m) ++ [(x, k + 1 - m)]) := by
            have := runs_stretch l 0 m k HMK.out HLT.out HST.out (fun h => HBR.out h (by have := HLT.out; have := HMK.out; omega))
            rw [HX.out] at this
            exact this
          obtain ⟨fn, tmps, assign, body, hy, hR⟩ := hY pre ⟨(x, k + 1 - m), ok⟩ wr.drew (hD _ _ hJ) hlen
          have ekm : ((k + 1 - m : Nat) : Int) = (k : Int) + 1 - (m : Int) := by have := HMK.out; omega
          dsimp only at hy
          rw [ekm] at hy
          gi_wp2
          gi_region
          all_goals gi_wp2
          all_goals refine hR.mono ?_
          all_goals rintro e W3 (⟨rfl, hJ3, hk3⟩ | ⟨rfl, hJx3⟩)
          · gi_wp2
            go_roundw
            case rel => exact ⟨k + 1, k + 1, pre ++ [⟨(x, k + 1 - m), ok⟩], Nat.le_refl _, HLT.out, by go_num, by go_num, fun j h1 h2 _ => (by obtain rfl : j = k + 1 := Nat.le_antisymm h2 h1; rfl), fun _ => rfl, fun _ _ => (by rw [show k + 1 - 1 = k by omega, HST.out k HMK.out (Nat.le_refl _), HX.out, HY.out]; exact fun h => hxy h.symm), by rw [List.map_append, HPRE.out, HRUN.out]; rfl, hJ3, hnx.drew.trans hk3⟩
            case measure => have := HLT.out; simp [intOf]; omega
          · gi_wp2
            refine bodyPost_ret (results_none rfl _ _ _) rfl ?_
            exact ⟨⟨_, rfl⟩, .inr ⟨_, hJx3⟩⟩
      · have hke : k + 1 = l.length := by omega
        have HKE : Hid (k + 1 = l.length) := hke
        have HWK : Hid (IntKind.i64.wrap ((k : Int) + 1) = (l.length : Int)) := by unfold Hid; rw [wrap_i64i]; unfold Leb.wrap64; omega
        have bm : (m : Int) < (l.length : Int) := by omega
        clear hsame hend hbr hpre hBs hc
        have ok := runI_ok l hl hn m k HLT.out HMK.out
        rw [HX.out] at ok
        have hlen : pre.length < l.length := by
          have h1 := congrArg List.length HPRE.out
          have h2 := runs_len (l.take m)
          simp only [List.length_map, List.length_take] at h1 h2
          have := HLT.out; have := HMK.out
          omega
        have HST : Hid (∀ j, m ≤ j → j ≤ k → l[j]?.getD 0 = l[m]?.getD 0) := fun j h1 h2 => HSAME.out j h1 h2 (by have := HLT.out; omega)
        have HRUN : Hid (runs (l.take (k + 1)) = runs (l.take m) ++ [(x, k + 1 - m)]) := by
          have := runs_stretch l 0 m k HMK.out HLT.out HST.out (fun h => HBR.out h (by have := HLT.out; have := HMK.out; omega))
          rw [HX.out] at this
          exact this
        obtain ⟨fn, tmps, assign, body, hy, hR⟩ := hY pre ⟨(x, k + 1 - m), ok⟩ wr.drew (hD _ _ hJ) hlen
        have ekm : ((k + 1 - m : Nat) : Int) = (k : Int) + 1 - (m : Int) := by have := HMK.out; omega
        dsimp only at hy
        rw [ekm] at hy
        gi_wp2
        refine wpIn_region_noPanic ?_
        refine wpIn_region_any (by kernel_rfl) ?_
        refine tkIn 0 10 (.int .i64 (k : Int)) (fuel := 16) rfl rfl (by kernel_rfl) (by kernel_rfl) (by kernel_rfl) (by kernel_rfl) noPanic_false (fun _ => by kernel_rfl) (by kernel_rfl) (fun _ => by kernel_rfl) ?_
        refine tkIn 1 11 (.int .i64 (l.length : Int)) (fuel := 15) rfl rfl (by kernel_rfl) (by kernel_rfl) (by kernel_rfl) (by kernel_rfl) noPanic_false (fun _ => by kernel_rfl) (by kernel_rfl) (fun _ => x_addi3 (x := .tmp 10) (y := .const (.int .i64 1)) (by kernel_rfl) (by kernel_rfl) (by kernel_rfl) HWK.out) ?_
        refine oneIn 2 12 (.slice (some ⟨b, off, none⟩) l.length cap) wr.drew (fuel := 14) rfl (by kernel_rfl) (by kernel_rfl) (by kernel_rfl) (fun _ => trivial) rfl (x_loadT (t := 106) (x := .tmp 1) (g := Bs) (j := 0) Tryz.underlying106 rfl (by kernel_rfl) (by kernel_rfl) hbs) ?_
        refine tkIn 3 13 (.int .i64 (l.length : Int)) (fuel := 13) rfl rfl (by kernel_rfl) (by kernel_rfl) (by kernel_rfl) (by kernel_rfl) noPanic_false (fun _ => by kernel_rfl) (by kernel_rfl) (fun _ => by kernel_rfl) ?_
        refine tkIn 4 14 (.bool false) (fuel := 12) rfl rfl (by kernel_rfl) (by kernel_rfl) (by kernel_rfl) (by kernel_rfl) noPanic_false (fun _ => by kernel_rfl) (by kernel_rfl) (fun _ => x_lssf (x := .tmp 11) (y := .tmp 13) (p := (l.length : Int)) (by kernel_rfl) (by kernel_rfl) (by kernel_rfl)) ?_
        refine tkIn 5 15 (.bool false) (fuel := 11) rfl rfl (by kernel_rfl) (by kernel_rfl) (by kernel_rfl) (by kernel_rfl) noPanic_false (fun _ => by kernel_rfl) (by kernel_rfl) (fun _ => by kernel_rfl) ?_
        refine tkInSkip 6 16 (fuel := 10) rfl rfl (by kernel_rfl) (by kernel_rfl) (by kernel_rfl) (by kernel_rfl) noPanic_false (fun _ => by kernel_rfl) (by kernel_rfl) ?_
        refine tkInSkip 7 17 (fuel := 9) rfl rfl (by kernel_rfl) (by kernel_rfl) (by kernel_rfl) (by kernel_rfl) noPanic_false (fun _ => by kernel_rfl) (by kernel_rfl) ?_
        refine tkInSkip 8 18 (fuel := 8) rfl rfl (by kernel_rfl) (by kernel_rfl) (by kernel_rfl) (by kernel_rfl) noPanic_false (fun _ => by kernel_rfl) (by kernel_rfl) ?_
        refine tkInSkip 9 19 (fuel := 7) rfl rfl (by kernel_rfl) (by kernel_rfl) (by kernel_rfl) (by kernel_rfl) noPanic_false (fun _ => by kernel_rfl) (by kernel_rfl) ?_
        refine tkInSkip 10 20 (fuel := 6) rfl rfl (by kernel_rfl) (by kernel_rfl) (by kernel_rfl) (by kernel_rfl) noPanic_false (fun _ => by kernel_rfl) (by kernel_rfl) ?_
        refine tkInSkip 11 21 (fuel := 5) rfl rfl (by kernel_rfl) (by kernel_rfl) (by kernel_rfl) (by kernel_rfl) noPanic_false (fun _ => by kernel_rfl) (by kernel_rfl) ?_
        refine tkInSkip 12 22 (fuel := 4) rfl rfl (by kernel_rfl) (by kernel_rfl) (by kernel_rfl) (by kernel_rfl) noPanic_false (fun _ => by kernel_rfl) (by kernel_rfl) ?_
        refine tkInSkip 13 23 (fuel := 3) rfl rfl (by kernel_rfl) (by kernel_rfl) (by kernel_rfl) (by kernel_rfl) noPanic_false (fun _ => by kernel_rfl) (by kernel_rfl) ?_
        refine tkInSkip 14 24 (fuel := 2) rfl rfl (by kernel_rfl) (by kernel_rfl) (by kernel_rfl) (by kernel_rfl) noPanic_false (fun _ => by kernel_rfl) (by kernel_rfl) ?_
        refine tkInSkip 15 25 (fuel := 1) rfl rfl (by kernel_rfl) (by kernel_rfl) (by kernel_rfl) (by kernel_rfl) noPanic_false (fun _ => by kernel_rfl) (by kernel_rfl) ?_
        refine tkIn 16 26 (.bool false) (fuel := 0) rfl rfl (by kernel_rfl) (by kernel_rfl) (by kernel_rfl) (by kernel_rfl) noPanic_false (fun _ => by kernel_rfl) (by kernel_rfl) (fun _ => by kernel_rfl) ?_
        refine wpAnyIn_done (by kernel_rfl) (NoPanic.normal ?_) _
        go_simp
        gi_wp2
        all_goals refine hR.mono ?_
        all_goals rintro e W3 (⟨rfl, hJ3, hk3⟩ | ⟨rfl, hJx3⟩)
        · gi_wp2
          go_roundw
          case rel => exact ⟨k + 1, k + 1, pre ++ [⟨(x, k + 1 - m), ok⟩], Nat.le_refl _, HLT.out, by go_num, by go_num, fun j h1 h2 _ => (by obtain rfl : j = k + 1 := Nat.le_antisymm h2 h1; rfl), fun _ => rfl, fun _ h => (by have := HKE.out; omega), by rw [List.map_append, HPRE.out, HRUN.out]; rfl, hJ3, hnx.drew.trans hk3⟩
          case measure => have := HLT.out; simp [intOf]; omega
        · gi_wp2
          refine bodyPost_ret (results_none rfl _ _ _) rfl ?_
          exact ⟨⟨_, rfl⟩, .inr ⟨_, hJx3⟩⟩
    · have hkl : k = l.length := by omega
      have HE := HEND.out hkl
      have HP : Hid (pre.map (·.1) = runs l) := by
        unfold Hid; rw [HPRE.out, HE, hkl, List.take_length]
      clear hsame hend hbr hpre hBs hc
      gi_wp2
      go_end0
      exact ⟨⟨_, rfl⟩, .inl ⟨_, HP.out, hJ⟩⟩
set_option maxRecDepth 100000 in
set_option maxHeartbeats 1000000 in
theorem runsI_nil (lp Bs cap : Nat) (ao : Option Addr) (J : List RunI → World → Prop) (W : World) (hBs : W.cell? ⟨Bs, 0, none⟩ = some (.slice ao 0 cap)) (h0 : J [] W) :
    CallsIn Fence.wide 3 Tryz.prog 144 #[.func (.yield lp) #[] #[], .pointer (some ⟨Bs, 0, none⟩)] W fun e W' => (∃ v, e = .returned v) ∧ J [] W' := by
  refine callsIn_of_wp Tryz.func144 rfl trivial ?_ rfl
  simp only [Tryz.ntmps144, List.size_toArray, List.length_cons, List.length_nil, Nat.reduceAdd, Nat.reduceSub, Array.replicate_succ, Array.replicate_zero, List.push_toArray, List.append_toArray, List.nil_append, List.cons_append]
  gi_wp2
  gi_loopw [7] (fun i wr => i = .int .i64 0 ∧ J [] wr) (fun _ _ => 0)
  case atStart => exact ⟨rfl, h0⟩
  case round =>
    obtain ⟨rfl, hJs⟩ := hrel
    gi_wp2
    go_end0
    exact ⟨⟨_, rfl⟩, hJs⟩
theorem runsI_stops (Bs n₀ cap : Nat) (ao : Option Addr) (l : List Int) (hl : ∀ x ∈ l, -9223372036854775808 ≤ x ∧ x ≤ 9223372036854775807) (hn : l.length ≤ 1048576) (w : World) (hBs : Bs < w.heap.size) (hn₀ : n₀ ≤ w.heap.size)
    (hc : w.cell? ⟨Bs, 0, none⟩ = some (.slice ao l.length cap)) (hI : IntsAt w ao l) (hlt : ∀ a, ao = some a → l ≠ [] → a.block < n₀) :
    SeqStopsK Fence.wide 3 Tryz.prog 144 #[.pointer (some ⟨Bs, 0, none⟩)] (fun x : RunI => #[Value.int .i64 x.1.1, Value.int .i64 (x.1.2 : Int)]) (Kb n₀ Bs) (fun ys => ys.map (·.1) = runs l) (fun _ => True) l.length w := fun lp J Jx W hW hJ _ hY h0 => by
  have hW' : Below n₀ w W := hW.mono hn₀
  have hc' := (hW.cell (p := ⟨Bs, 0, none⟩) hBs).trans hc
  by_cases hne : l = []
  · subst hne
    exact (runsI_nil lp Bs cap ao J W hc' h0).mono fun e W' ⟨he, hj⟩ => ⟨he, .inl ⟨[], rfl, hj⟩⟩
  · obtain ⟨b, off, rfl, hcs⟩ := hI hne
    have hb := hlt _ rfl hne
    refine (runsI_in lp Bs n₀ b off cap l hl hn hb J Jx hY (fun pre A hA => hJ pre A A.drew none hA ⟨rfl, rfl, rfl, Nat.le_refl _, fun _ _ _ => rfl⟩ (fun r h => by cases h)) W hc' (fun j hj => (hW'.cell (p := ⟨b, off + j, none⟩) hb).trans (hcs j hj)) h0).mono ?_
    rintro e W' ⟨he, ⟨ys, h1, hj⟩ | ⟨pre, hj⟩⟩
    · exact ⟨he, .inl ⟨_, h1, hj⟩⟩
    · exact ⟨he, .inr ⟨_, trivial, hj⟩⟩
end Go.Proofs.YtgmdolpjkaajfaaGreatDoor
namespace Go.Proofs.YtgmdolpjkaajfaaGreatDoor
open Go.RowKit Go.Shelf Leb
section
variable {ops : Array Oper} {Q : Exit → Act → World → Prop} {F : Fence} {n fuel : Nat} {listed : Array Bool} {a : Act} {w : World} {oi : Oper} {K : Act → World → Prop}
theorem opCallIn (i d : Nat) (f : FuncId) (args : Array Value) (R : Value → World → Prop) (hi : ops[i]? = some oi) (hd : oi.dst = some d) (hw : Region.wanted oi (yielded ops a.tmps) = true) (hF : ∀ f, F.fn f) (hdep : F.depth = none) (hsem : oi.semAt F.round a.eval = execOp a.eval oi)
    (hrun : ∀ w, (execOp a.eval oi).run Tryz.prog w = .ok (.enter f args) w) (hc : CallsIn F (n - 1) Tryz.prog f args w fun e w' => ∃ v, e = .returned v ∧ R v w') (h : ∀ v w', R v w' → K (a.put (some d) v) w') : wpOpIn F n Tryz.prog ops Q i K a w := by
  refine wpOpIn_step hi (fun K' hK => ?_)
  rw [if_pos hw]
  refine ⟨fun f _ => hF f, ?_⟩
  rw [hsem, hrun, Oper.uponIn_enter]
  refine ⟨fun hd => (by rw [hdep] at hd; cases hd), hc.mono (fun e w' ⟨v, he, hr⟩ => ?_)⟩
  subst he
  rw [hd]
  exact hK _ _ (h v w' hr)
/-- append to a row of the call's own, as a run. -/
theorem run_append_any (w : World) (ty : TypeId) (base : Nat) (v : Value) (bs : List UInt8) (hown : Own w base v bs) (ao : Option Addr) (c : Nat) (news : List UInt8) (k : Nat) (hk : news.length = k) (hnews : BytesAt w ao news)
    (hbytes : bs.length + news.length ≤ 140737488355328) (hbase : base ≤ w.heap.size) :
    ∃ v' w', (Builtin.append_ #[32, 32] ty #[v, .slice ao k c]).run Tryz.prog w = .ok v' w' ∧ Own w' base v' (bs ++ news) ∧ w.grownBy w' v.ownBlock := by
  subst hk
  obtain ⟨i, hi, hz⟩ := Option.map_eq_some_iff.1 bytes5
  simp only [Prod.mk.injEq] at hz
  obtain ⟨hz, hsz, hby⟩ := hz
  cases ao with
  | some ad =>
    obtain ⟨v', w', h1, h2, h3, _⟩ := run_append_own (P := Tryz.prog) w base 32 ty 5 i (.int .u8 0) 1 1 Tryz.underlying32 hi hz hsz hby rfl (by omega) v bs.length (c8 bs) hown ad news.length c (c8 news) (by simp [c8_len]) (fun j u hu => by
      have hj := (List.getElem?_eq_some_iff.1 hu).1
      rw [c8_len] at hj
      obtain ⟨b, o, he, hc⟩ := hnews (by intro h; simp [h] at hj)
      cases he
      rw [c8_get news j hj] at hu
      rw [Addr.add_mid, hc j hj, hu]) (c8_one _) (by unfold maxLen; omega) (by omega) hbase
    exact ⟨v', w', h1, by unfold Own; rw [c8_append, List.length_append]; exact h2, h3⟩
  | none =>
    obtain rfl : news = [] := Classical.byContradiction fun hn => by obtain ⟨b, o, he, _⟩ := hnews hn; cases he
    obtain ⟨ao', cap', hv, _, hle, _⟩ := hown.at
    refine ⟨v, w, ?_, by rw [List.append_nil]; exact hown, ⟨rfl, rfl, rfl, Nat.le_refl _, fun _ _ _ => rfl⟩⟩
    rw [hv]
    exact run_append_nothing (P := Tryz.prog) w 32 32 ty 5 i Tryz.underlying32 hi ao' bs.length cap' hle (.slice none 0 c) (Src.ofNil w Tryz.underlying32 c)
theorem opAppIn (i d : Nat) (s x : Operand) (hi : ops[i]? = some oi) (hd : oi.dst = some d) (hw : Region.wanted oi (yielded ops a.tmps) = true) (hF : ∀ f, F.fn f) (hsem : oi.semAt F.round a.eval = execOp a.eval oi)
    (hop : oi.op = .call { callee := .builtin .append, args := #[s, x], argTypes := #[32, 32] }) (base : Nat) (v : Value) (bs : List UInt8) (hs : a.eval s = v) (hown : Own w base v bs)
    (ao : Option Addr) (c : Nat) (news : List UInt8) (k : Nat) (hk : news.length = k) (hx : a.eval x = .slice ao k c) (hnews : BytesAt w ao news)
    (hbytes : bs.length + news.length ≤ 140737488355328) (hbase : base ≤ w.heap.size)
    (h : ∀ v' w', Own w' base v' (bs ++ news) → w.grownBy w' v.ownBlock → K (a.put (some d) v') w') : wpOpIn F n Tryz.prog ops Q i K a w := by
  obtain ⟨v', w', h1, h2, h3⟩ := run_append_any w oi.type base v bs hown ao c news k hk hnews hbytes hbase
  refine opValIn i d v' w' hi hd hw hF hsem ?_ (h v' w' h2 h3)
  simp [execOp, hop, resolve, invoke, builtin, hs, hx, h1, Result.andThen]
/-- A store of one slice into its box. -/
theorem opStoreIn (i : Nat) (t : TypeId) (x y : Operand) (B : Nat) (ao : Option Addr) (len cap : Nat) (u : Value) (hi : ops[i]? = some oi) (hd : oi.dst = none) (hop : oi.op = .store 32 x y) (hw : Region.wanted oi (yielded ops a.tmps) = true) (hF : ∀ f, F.fn f) (hsem : oi.semAt F.round a.eval = execOp a.eval oi)
    (hx : a.eval x = .pointer (some ⟨B, 0, none⟩)) (hy : a.eval y = .slice ao len cap) (hb : Boxed w B t u) (h : K (a.put none undef) (w.setCell ⟨B, 0, none⟩ (.slice ao len cap))) : wpOpIn F n Tryz.prog ops Q i K a w := by
  have hc := hb.cell
  have hf := hb.frozen
  have hrun : (execOp a.eval oi).run Tryz.prog w = .ok .skip (w.setCell ⟨B, 0, none⟩ (.slice ao len cap)) := by
    unfold execOp
    simp only [hop, hx, hy]
    simp [go_sem, hc, hf, Instr.storeAt, Instr.sureAddr]
  refine wpOpIn_step hi (fun K' hK => ?_)
  rw [if_pos hw]
  refine ⟨fun f _ => hF f, ?_⟩
  rw [hsem, hrun, Oper.uponIn_skip, hd]
  exact hK _ _ h
end
end Go.Proofs.YtgmdolpjkaajfaaGreatDoor
namespace Go.Proofs.YtgmdolpjkaajfaaGreatDoor
open Go.RowKit Go.Shelf Leb
attribute [local go_sem] Oper.semAt_some
def laidI (rs : List (Int × Nat)) : List UInt8 := rs.flatMap fun x => uintB x.2 ++ intB x.1
def runsB (l : List Int) : List UInt8 := uintB (runs l).length ++ laidI (runs l)
theorem laidI_snoc (pre : List RunI) (x : RunI) : laidI ((pre ++ [x]).map (·.1)) = laidI (pre.map (·.1)) ++ uintB x.1.2 ++ intB x.1.1 := by simp [laidI]
theorem runI_len (x : RunI) : (uintB x.1.2).length ≤ 10 ∧ (intB x.1.1).length ≤ 10 := ⟨uintB_len10 _ (by have := x.2.2.2; omega), intB_len10 _ x.2.1 x.2.2.1⟩
theorem laidI_len : ∀ pre : List RunI, (laidI (pre.map (·.1))).length ≤ 20 * pre.length
  | [] => by simp [laidI]
  | x :: r => by
    have h1 := runI_len x
    have h2 := laidI_len r
    simp only [laidI, List.map_cons, List.flatMap_cons, List.length_append, List.length_cons] at h2 ⊢
    omega
theorem Own.keep' {w w' : World} {B : Nat} {v : Value} {l : List UInt8} (h : Own w B v l) (hk : ∀ k, v.ownBlock = some k → w'.heap[k]? = w.heap[k]?) : Own w' B v l := by
  refine ⟨h.1, ?_⟩
  rcases h.2 with hn | ⟨g, cap, cur, rfl, h1, h2, rest⟩
  · exact .inl hn
  · exact .inr ⟨g, cap, cur, rfl, h1, by rw [hk g rfl]; exact h2, rest⟩
/-- A round's state: from the round's start Ws on. -/
structure RI (w : World) (B Bs : Nat) (sv : Value) (Ws W : World) (v : Value) (ls : List UInt8) (m : Nat) : Prop where
  bl : Boxed W w.heap.size 32 v
  br : Boxed W (w.heap.size + 1) 3 (.int .i64 (m : Int))
  bs : Boxed W Bs 106 sv
  own : Own W w.heap.size v ls
  bel : Below w.heap.size w W
  kf : KeepsFrom B Ws W
  kb : Kb w.heap.size Bs Ws W
theorem grown_cells {B Bs : Nat} {w W W' : World} {row : Option Nat} (hbel : Below w.heap.size w W) (hbs : Bs < W.heap.size) (hg : W.grownBy W' row) (hr : ∀ g, row = some g → w.heap.size ≤ g ∧ g ≠ Bs ∧ ∃ c t f, W.heap[g]? = some (.cells c t f)) :
    Below w.heap.size w W' ∧ KeepsFrom B W W' ∧ Kb w.heap.size Bs W W' := by
  have h1 : Below w.heap.size W W' := ⟨hg.os, hg.tape, hg.output, hg.size, fun k hk => hg.block k (Nat.lt_of_lt_of_le hk hbel.size) (fun e => by have := (hr k e.symm).1; omega)⟩
  refine ⟨hbel.trans h1, ⟨hg.size, fun k o _ hk ho => ?_⟩, h1, hg.block Bs hbs (fun e => (hr Bs e.symm).2.1 rfl)⟩
  rw [hg.block k (Array.getElem?_eq_some_iff.1 hk).1 (fun e => by
    obtain ⟨_, _, c, t, f, hc⟩ := hr k e.symm
    rw [hc] at hk; cases hk; cases ho)]
  exact hk
theorem own_cells {W : World} {base : Nat} {v : Value} {ls : List UInt8} (h : Own W base v ls) {g : Nat} (hg : v.ownBlock = some g) : ∃ c t f, W.heap[g]? = some (.cells c t f) := by
  rcases h.2 with ⟨rfl, _⟩ | ⟨g', cap, cur, rfl, _, h2, _⟩
  · cases hg
  · cases hg; exact ⟨_, _, _, h2⟩
section
variable {w : World} {B Bs : Nat} {sv : Value} {Ws W W' : World} {v : Value} {ls : List UInt8} {m : Nat}
theorem RI.drew (h : RI w B Bs sv Ws W v ls m) : RI w B Bs sv Ws W.drew v ls m := ⟨h.bl, h.br, h.bs, h.own, h.bel.drew, h.kf.trans ((KeepsOthers.drew _).from _), h.kb.drew⟩
theorem RI.after (h : RI w B Bs sv Ws W v ls m) (hA : After W W') : RI w B Bs sv Ws W' v ls m := by
  have hg : W.grownBy W' none := ⟨hA.os, hA.tape, hA.output, hA.size, fun k hk _ => hA.block k hk⟩
  obtain ⟨c1, c2, c3⟩ := grown_cells (B := B) h.bel h.bs.lt hg (fun g e => by cases e)
  exact ⟨h.bl.kept hg (by simp), h.br.kept hg (by simp), h.bs.kept hg (by simp), Own.below h.own hA (Nat.le_refl _), c1, h.kf.trans c2, h.kb.trans c3⟩
/-- Behind an append: the row has grown; the box is as it was. -/
theorem RI.app (h : RI w B Bs sv Ws W v ls m) {v' : Value} {ls' : List UInt8} (ho : Own W' w.heap.size v' ls') (hg : W.grownBy W' v.ownBlock) (hsz : v'.ownBlock = none ∨ True) :
    Boxed W' w.heap.size 32 v ∧ Boxed W' (w.heap.size + 1) 3 (.int .i64 (m : Int)) ∧ Boxed W' Bs 106 sv ∧ Below w.heap.size w W' ∧ KeepsFrom B Ws W' ∧ Kb w.heap.size Bs Ws W' := by
  have _ := ho
  have _ := hsz
  obtain ⟨c1, c2, c3⟩ := grown_cells (B := B) h.bel h.bs.lt hg (fun g e => ⟨(World.ownsRow.lt h.own g e).1, fun he => Boxed.not_row h.bs (by decide) h.own (by rw [e, he]), own_cells h.own e⟩)
  exact ⟨h.bl.kept hg (Boxed.not_row h.bl (by decide) h.own), h.br.kept hg (Boxed.not_row h.br (by decide) h.own), h.bs.kept hg (Boxed.not_row h.bs (by decide) h.own), c1, h.kf.trans c2, h.kb.trans c3⟩
end
theorem RI.store {w : World} {B Bs : Nat} {sv : Value} {Ws W : World} {v v' : Value} {ls : List UInt8} {m : Nat} (hn : w.heap.size + 1 < Bs) (h : Boxed W w.heap.size 32 v ∧ Boxed W (w.heap.size + 1) 3 (.int .i64 (m : Int)) ∧ Boxed W Bs 106 sv ∧ Below w.heap.size w W ∧ KeepsFrom B Ws W ∧ Kb w.heap.size Bs Ws W) (ho : Own W w.heap.size v' ls) :
    RI w B Bs sv Ws (W.setCell ⟨w.heap.size, 0, none⟩ v') v' ls m := by
  obtain ⟨h1, h2, h3, h4, h5, h6⟩ := h
  have hg := grownBy_setCell' W w.heap.size v'
  obtain ⟨c1, c2, c3⟩ := grown_cells (B := B) h4 h3.lt hg (fun g e => by cases e; exact ⟨Nat.le_refl _, by omega, _, _, _, h1⟩)
  refine ⟨h1.set v', h2.kept hg (by simp), h3.kept hg (by simp; omega), ?_, c1, h5.trans c2, h6.trans c3⟩
  refine Own.keep' ho (fun g e => ?_)
  have hne : some w.heap.size ≠ v'.ownBlock := Boxed.not_row h1 (by decide) ho
  rw [heap_setCell_other W _ g v' (by show g ≠ w.heap.size; intro he; exact hne (by rw [e, he]))]
theorem RI.count {w : World} {B Bs : Nat} {sv : Value} {Ws W : World} {v : Value} {ls : List UInt8} {m : Nat} (hn : w.heap.size + 1 < Bs) (h : RI w B Bs sv Ws W v ls m) : RI w B Bs sv Ws (W.setCell ⟨w.heap.size + 1, 0, none⟩ (.int .i64 ((m : Int) + 1))) v ls (m + 1) := by
  have hg := grownBy_setCell' W (w.heap.size + 1) (.int .i64 ((m : Int) + 1))
  obtain ⟨c1, c2, c3⟩ := grown_cells (B := B) h.bel h.bs.lt hg (fun g e => by cases e; exact ⟨by omega, by omega, _, _, _, h.br⟩)
  refine ⟨h.bl.kept hg (by simp), h.br.set _, h.bs.kept hg (by simp; omega), ?_, c1, h.kf.trans c2, h.kb.trans c3⟩
  refine Own.keep' h.own (fun g e => ?_)
  have hne : some (w.heap.size + 1) ≠ v.ownBlock := Boxed.not_row h.br (by decide) h.own
  rw [heap_setCell_other W _ g _ (by show g ≠ w.heap.size + 1; intro he; exact hne (by rw [e, he]))]
theorem x_conv49 {o : Oper} {a : Act} {x : Operand} {p : Nat} {w : World} (hp : p < 18446744073709551616) (hop : o.op = .convert 3 69 x) (hx : a.eval x = .int .i64 (p : Int)) : (execOp a.eval o).run Tryz.prog w = .ok (.value (.int .u64 (p : Int))) w := by
  unfold execOp
  simp only [hop, hx]
  have e : IntKind.u64.wrap (p : Int) = (p : Int) := by simp [IntKind.wrap, IntKind.bits, IntKind.signed]; omega
  simp [go_sem, e]
end Go.Proofs.YtgmdolpjkaajfaaGreatDoor
namespace Go.Proofs.YtgmdolpjkaajfaaGreatDoor
open Go.RowKit Go.Shelf Leb
attribute [local go_sem] Oper.semAt_some
theorem with_world {p : World → Prop} {W : World} (G : World → Prop) (h : G W) (k : ∀ W', G W' → p W') : p W := k W h
set_option maxRecDepth 100000 in
set_option maxHeartbeats 4000000 in
theorem runs_any (ao : Option Addr) (cap : Nat) (l : List Int) (hl : ∀ x ∈ l, -9223372036854775808 ≤ x ∧ x ≤ 9223372036854775807) (hn : l.length ≤ 1048576) (w : World) (hI : IntsAt w ao l) (hlt : ∀ a, ao = some a → l ≠ [] → a.block < w.heap.size) :
    Calls Tryz.prog 98 #[.slice ao l.length cap] w fun e W' => ∃ v, e = .returned v ∧ Own W' w.heap.size v (runsB l) ∧ After w W' := by
  refine (callsIn_wide (n := 4)).1 ?_
  refine callsIn_of_wp_marks Tryz.func98 rfl trivial ?_ rfl
  simp only [Tryz.ntmps98, List.size_toArray, List.length_cons, List.length_nil, Nat.reduceAdd, Nat.reduceSub, Array.replicate_succ, Array.replicate_zero, List.push_toArray, List.append_toArray, List.nil_append, List.cons_append]
  gi_wp2_with (refine ⟨trivial, ?_⟩; gi_at_call 131; refine (runsOfI_any _ _ ⟨_, _, _, rfl⟩).mono ?_; rintro e w' ⟨rfl, rfl⟩)
  obtain ⟨W0, hW0⟩ : ∃ W0, ((w.alloc (.cells #[.slice none 0 0] 32)).alloc (.cells #[.int .i64 0] 3)).alloc (.cells #[(.slice ao l.length cap)] 106) = W0 := ⟨_, rfl⟩
  have hsz : W0.heap.size = w.heap.size + 3 := by rw [← hW0]; simp
  have hB0 : Below w.heap.size w W0 := by rw [← hW0]; exact (((Below.refl _ w).alloc (Nat.le_refl _) _).alloc (by simp) _).alloc (by simp; omega) _
  have bL : Boxed W0 w.heap.size 32 (.slice none 0 0) := by rw [← hW0]; exact ((Boxed.new w 32 _).alloc _).alloc _
  have bR : Boxed W0 (w.heap.size + 1) 3 (.int .i64 0) := by
    rw [← hW0]
    have := Boxed.new (w.alloc (.cells #[.slice none 0 0] 32)) 3 (.int .i64 0)
    rw [World.size_alloc] at this
    exact this.alloc _
  have bS : Boxed W0 (w.heap.size + 2) 106 (.slice ao l.length cap) := by
    rw [← hW0]
    have := Boxed.new ((w.alloc (.cells #[.slice none 0 0] 32)).alloc (.cells #[.int .i64 0] 3)) 106 (.slice ao l.length cap)
    rw [World.size_alloc, World.size_alloc] at this
    exact this
  simp only [hW0]
  refine wpIn_rangeFunc_ownG rfl (by omega) (gf := 144) (lb := #[.pointer (some ⟨w.heap.size + 2, 0, none⟩)]) rfl trivial (enters_of Tryz.func144 (by kernel_rfl) rfl)
    (runsI_stops (w.heap.size + 2) w.heap.size cap ao l hl hn W0 (by omega) hB0.size bS.cell (fun hne => by
      obtain ⟨b, o, rfl, hc⟩ := hI hne
      exact ⟨b, o, rfl, fun j hj => (hB0.cell (p := ⟨b, o + j, none⟩) (hlt ⟨b, o, none⟩ rfl hne)).trans (hc j hj)⟩) hlt) Kb.trans (fun W lp o o' h1 h2 h3 h4 => ⟨belowK_b hB0.size W lp o o' h1 h2 h3 h4, World.putObj_heap_other (by omega)⟩) (Below.refl _ _) (fun _ => rfl)
    (fun pre W => (∃ v, Boxed W w.heap.size 32 v ∧ Own W w.heap.size v (laidI (pre.map (·.1)))) ∧ Boxed W (w.heap.size + 1) 3 (.int .i64 (pre.length : Int)) ∧ Boxed W (w.heap.size + 2) 106 (.slice ao l.length cap) ∧ Below w.heap.size w W)
    (fun _ _ _ => False)
    (fun pre W W' row hs hg hr => by
      have hne : ∀ {g : Nat} {t : TypeId} {u : Value}, Boxed W g t u → some g ≠ row := fun hb e => by
        obtain ⟨_, o, ho, hc⟩ := hr _ e.symm
        rw [show W.heap[_]? = _ from hb] at ho; cases ho; cases hc
      obtain ⟨⟨v, h1, h2⟩, h3, h4, h5⟩ := hs
      refine ⟨⟨v, h1.kept hg (hne h1), Own.keep' h2 (fun g e => ?_)⟩, h3.kept hg (hne h3), h4.kept hg (hne h4), h5.grown hg h5.size (fun k e => Nat.le_trans hB0.size (hr k e).1)⟩
      obtain ⟨c, t, f, hc⟩ := own_cells h2 e
      exact hg.block g (Array.getElem?_eq_some_iff.1 hc).1 (fun e' => by obtain ⟨_, o, ho, hc'⟩ := hr g e'.symm; rw [hc] at ho; cases ho; cases hc'))
    (fun _ _ _ _ _ hs _ _ => hs)
    ⟨⟨_, bL, Own.nil _ _⟩, bR, bS, hB0⟩
    (fun x => { tmps := #[(.slice ao l.length cap), undef, .slice none 0 0, (.pointer (some ⟨w.heap.size, 0, none⟩)), (.pointer (some ⟨w.heap.size + 1, 0, none⟩)), .int .i64 x.1.1, .int .i64 (x.1.2 : Int), (.slice ao l.length cap), .func (.func 144) #[] #[.pointer (some ⟨w.heap.size + 2, 0, none⟩)], .int .i64 x.1.1, .int .i64 (x.1.2 : Int), undef, undef, undef, undef, undef, undef, undef, undef, undef, undef, undef, undef, undef, undef, undef, undef], defers := [] }) ?assign ?body ?done ?stop
  case assign =>
    intro lp x W K hK
    gi_wp2
    exact hK
  case body =>
    rintro lp pre x W ⟨⟨v, h1, h2⟩, h3, h4, h5⟩ hltN
    have hc := h3.cell
    have hf := h3.frozen
    have K0 : RI w W0.heap.size (w.heap.size + 2) (.slice ao l.length cap) W W v (laidI (pre.map (·.1))) pre.length := ⟨h1, h3, h4, h2, h5, KeepsFrom.refl _ _, Kb.refl _ _ _⟩
    have K1 := show Hid _ from RI.count (by omega) K0
    have hpl : pre.length ≤ 1048576 := by omega
    have HB1 : Hid ((laidI (pre.map (·.1))).length + (uintB x.1.2).length ≤ 140737488355328) := by
      have := laidI_len pre; have := runI_len x; unfold Hid; omega
    obtain ⟨f1, HF1⟩ : ∃ f, Hid (laidI (pre.map (·.1)) ++ uintB x.1.2 = f) := ⟨_, rfl⟩
    obtain ⟨f2, HF2⟩ : ∃ f, Hid (f1 ++ intB x.1.1 = f) := ⟨_, rfl⟩
    have HPL : Hid ((pre ++ [x]).length = pre.length + 1) := by unfold Hid; simp
    have HB2 : Hid (f1.length + (intB x.1.1).length ≤ 140737488355328) := by
      have := laidI_len pre; have := runI_len x; unfold Hid; rw [← HF1.out, List.length_append]; omega
    clear h1 h2 h3 h4 h5 K0
    gi_wp2
    refine wpIn_region_any (by kernel_rfl) ?_
    refine with_world (p := fun W' => wpAnyIn _ _ _ _ _ _ _ _ _ W') (fun W' => RI w W0.heap.size (w.heap.size + 2) (.slice ao l.length cap) W W' v (laidI (pre.map (·.1))) (pre.length + 1)) K1.out.drew ?_
    clear K1 hc hf
    intro Wd Kd
    refine wpAnyIn_all (rs := [0, 1]) (fuel := 5) (by kernel_rfl) (by simp) (fun j hj => ?_)
    simp only [List.mem_cons, List.not_mem_nil, or_false] at hj
    rcases hj with rfl | rfl
    · refine opValIn 0 13 v Wd rfl (by kernel_rfl) (by kernel_rfl) (fun _ => trivial) (Oper.semAt_plain _ _ _ (fun _ h => by cases h)) (x_loadT (t := 32) (x := .tmp 3) (g := w.heap.size) (j := 0) Tryz.underlying32 rfl (by kernel_rfl) (by kernel_rfl) Kd.bl.cell) ?_
      refine wpAnyIn_all (rs := [1]) (fuel := 4) (by kernel_rfl) (by simp) (fun j hj => ?_)
      obtain rfl : j = 1 := by simpa using hj
      refine opValIn 1 14 (.int .i64 (x.1.2 : Int)) Wd rfl (by kernel_rfl) (by kernel_rfl) (fun _ => trivial) (Oper.semAt_plain _ _ _ (fun _ h => by cases h)) (by kernel_rfl) ?_
      refine wpAnyIn_all (rs := [2]) (fuel := 3) (by kernel_rfl) (by simp) (fun j hj => ?_)
      obtain rfl : j = 2 := by simpa using hj
      refine opValIn 2 15 (.int .u64 (x.1.2 : Int)) Wd rfl (by kernel_rfl) (by kernel_rfl) (fun _ => trivial) (Oper.semAt_plain _ _ _ (fun _ h => by cases h)) (x_conv49 (x := .tmp 14) (p := x.1.2) (by have := x.2.2.2; omega) (by kernel_rfl) (by kernel_rfl)) ?_
      refine wpAnyIn_all (rs := [3]) (fuel := 2) (by kernel_rfl) (by simp) (fun j hj => ?_)
      obtain rfl : j = 3 := by simpa using hj
      refine opCallIn 3 16 69 #[.int .u64 (x.1.2 : Int)] (fun u W' => Own W' Wd.heap.size u (uintB x.1.2) ∧ After Wd W') rfl (by kernel_rfl) (by kernel_rfl) (fun _ => trivial) rfl (Oper.semAt_plain _ _ _ (fun _ h => by cases h)) (fun _ => by kernel_rfl) (CallsIn.inRound lp (callsIn_wide.2 ((uint_any x.1.2 (by have := x.2.2.2; omega) Wd).mono (fun _ _ ⟨u, h1, h2, h3⟩ => ⟨u, h1, h2, h3⟩)))) ?_
      rintro u Wdc ⟨hu, hWdc⟩
      obtain ⟨ua, uc, rfl, hua, _, _⟩ := hu.at
      have KWdc := Kd.after hWdc
      refine wpAnyIn_all (rs := [4]) (fuel := 1) (by kernel_rfl) (by simp) (fun j hj => ?_)
      obtain rfl : j = 4 := by simpa using hj
      refine opAppIn 4 17 (.tmp 13) (.tmp 16) rfl (by kernel_rfl) (by kernel_rfl) (fun _ => trivial) (Oper.semAt_plain _ _ _ (fun _ h => by cases h)) (by kernel_rfl) w.heap.size _ (laidI (pre.map (·.1))) (by kernel_rfl) KWdc.own ua uc (uintB x.1.2) ((uintB x.1.2)).length rfl (by kernel_rfl) hua HB1.out KWdc.bel.size ?_
      intro v' Wdca ho' hg'
      rw [HF1.out] at ho'
      have AWdca := KWdc.app ho' hg' (.inr trivial)
      obtain ⟨va, vc, rfl, _, _, _⟩ := ho'.at
      refine wpAnyIn_all (rs := [5]) (fuel := 0) (by kernel_rfl) (by simp) (fun j hj => ?_)
      obtain rfl : j = 5 := by simpa using hj
      refine opStoreIn 5 32 (.tmp 3) (.tmp 17) w.heap.size va f1.length vc _ rfl (by kernel_rfl) (by kernel_rfl) (by kernel_rfl) (fun _ => trivial) (Oper.semAt_plain _ _ _ (fun _ h => by cases h)) (by kernel_rfl) (by kernel_rfl) AWdca.1 ?_
      have KE := RI.store (by omega) AWdca ho'
      refine wpAnyIn_done (by kernel_rfl) ?_ _
      go_simp
      gi_wp2
      refine wpIn_region_any (by kernel_rfl) ?_
      refine with_world (p := fun W' => wpAnyIn _ _ _ _ _ _ _ _ _ W') (fun W' => RI w W0.heap.size (w.heap.size + 2) (.slice ao l.length cap) W W' (.slice va f1.length vc) f1 (pre.length + 1)) KE.drew ?_
      clear KE
      intro Wd Kd
      refine wpAnyIn_all (rs := [0, 1]) (fuel := 4) (by kernel_rfl) (by simp) (fun j hj => ?_)
      simp only [List.mem_cons, List.not_mem_nil, or_false] at hj
      rcases hj with rfl | rfl
      · refine opValIn 0 18 (.slice va f1.length vc) Wd rfl (by kernel_rfl) (by kernel_rfl) (fun _ => trivial) (Oper.semAt_plain _ _ _ (fun _ h => by cases h)) (x_loadT (t := 32) (x := .tmp 3) (g := w.heap.size) (j := 0) Tryz.underlying32 rfl (by kernel_rfl) (by kernel_rfl) Kd.bl.cell) ?_
        refine wpAnyIn_all (rs := [1]) (fuel := 3) (by kernel_rfl) (by simp) (fun j hj => ?_)
        obtain rfl : j = 1 := by simpa using hj
        refine opValIn 1 19 (.int .i64 x.1.1) Wd rfl (by kernel_rfl) (by kernel_rfl) (fun _ => trivial) (Oper.semAt_plain _ _ _ (fun _ h => by cases h)) (by kernel_rfl) ?_
        refine wpAnyIn_all (rs := [2]) (fuel := 2) (by kernel_rfl) (by simp) (fun j hj => ?_)
        obtain rfl : j = 2 := by simpa using hj
        refine opCallIn 2 20 132 #[.int .i64 x.1.1] (fun u W' => Own W' Wd.heap.size u (intB x.1.1) ∧ After Wd W') rfl (by kernel_rfl) (by kernel_rfl) (fun _ => trivial) rfl (Oper.semAt_plain _ _ _ (fun _ h => by cases h)) (fun _ => by kernel_rfl) (CallsIn.inRound lp (callsIn_wide.2 ((int_any x.1.1 x.2.1 x.2.2.1 Wd).mono (fun _ _ ⟨u, h1, h2, h3⟩ => ⟨u, h1, h2, h3⟩)))) ?_
        rintro u Wdc ⟨hu, hWdc⟩
        obtain ⟨ua, uc, rfl, hua, _, _⟩ := hu.at
        have KWdc := Kd.after hWdc
        refine wpAnyIn_all (rs := [3]) (fuel := 1) (by kernel_rfl) (by simp) (fun j hj => ?_)
        obtain rfl : j = 3 := by simpa using hj
        refine opAppIn 3 21 (.tmp 18) (.tmp 20) rfl (by kernel_rfl) (by kernel_rfl) (fun _ => trivial) (Oper.semAt_plain _ _ _ (fun _ h => by cases h)) (by kernel_rfl) w.heap.size _ f1 (by kernel_rfl) KWdc.own ua uc (intB x.1.1) ((intB x.1.1)).length rfl (by kernel_rfl) hua HB2.out KWdc.bel.size ?_
        intro v' Wdca ho' hg'
        rw [HF2.out] at ho'
        have AWdca := KWdc.app ho' hg' (.inr trivial)
        obtain ⟨va, vc, rfl, _, _, _⟩ := ho'.at
        refine wpAnyIn_all (rs := [4]) (fuel := 0) (by kernel_rfl) (by simp) (fun j hj => ?_)
        obtain rfl : j = 4 := by simpa using hj
        refine opStoreIn 4 32 (.tmp 3) (.tmp 21) w.heap.size va f2.length vc _ rfl (by kernel_rfl) (by kernel_rfl) (by kernel_rfl) (fun _ => trivial) (Oper.semAt_plain _ _ _ (fun _ h => by cases h)) (by kernel_rfl) (by kernel_rfl) AWdca.1 ?_
        have KE := RI.store (by omega) AWdca ho'
        refine wpAnyIn_done (by kernel_rfl) ?_ _
        exact ⟨KE.kf, KE.kb, ⟨⟨_, KE.bl, by rw [laidI_snoc, HF1.out, HF2.out]; exact KE.own⟩, by rw [HPL.out]; exact KE.br, KE.bs, KE.bel⟩⟩
      · refine opValIn 1 19 (.int .i64 x.1.1) Wd rfl (by kernel_rfl) (by kernel_rfl) (fun _ => trivial) (Oper.semAt_plain _ _ _ (fun _ h => by cases h)) (by kernel_rfl) ?_
        refine wpAnyIn_all (rs := [0, 2]) (fuel := 3) (by kernel_rfl) (by simp) (fun j hj => ?_)
        simp only [List.mem_cons, List.not_mem_nil, or_false] at hj
        rcases hj with rfl | rfl
        · refine opValIn 0 18 (.slice va f1.length vc) Wd rfl (by kernel_rfl) (by kernel_rfl) (fun _ => trivial) (Oper.semAt_plain _ _ _ (fun _ h => by cases h)) (x_loadT (t := 32) (x := .tmp 3) (g := w.heap.size) (j := 0) Tryz.underlying32 rfl (by kernel_rfl) (by kernel_rfl) Kd.bl.cell) ?_
          refine wpAnyIn_all (rs := [2]) (fuel := 2) (by kernel_rfl) (by simp) (fun j hj => ?_)
          obtain rfl : j = 2 := by simpa using hj
          refine opCallIn 2 20 132 #[.int .i64 x.1.1] (fun u W' => Own W' Wd.heap.size u (intB x.1.1) ∧ After Wd W') rfl (by kernel_rfl) (by kernel_rfl) (fun _ => trivial) rfl (Oper.semAt_plain _ _ _ (fun _ h => by cases h)) (fun _ => by kernel_rfl) (CallsIn.inRound lp (callsIn_wide.2 ((int_any x.1.1 x.2.1 x.2.2.1 Wd).mono (fun _ _ ⟨u, h1, h2, h3⟩ => ⟨u, h1, h2, h3⟩)))) ?_
          rintro u Wdc ⟨hu, hWdc⟩
          obtain ⟨ua, uc, rfl, hua, _, _⟩ := hu.at
          have KWdc := Kd.after hWdc
          refine wpAnyIn_all (rs := [3]) (fuel := 1) (by kernel_rfl) (by simp) (fun j hj => ?_)
          obtain rfl : j = 3 := by simpa using hj
          refine opAppIn 3 21 (.tmp 18) (.tmp 20) rfl (by kernel_rfl) (by kernel_rfl) (fun _ => trivial) (Oper.semAt_plain _ _ _ (fun _ h => by cases h)) (by kernel_rfl) w.heap.size _ f1 (by kernel_rfl) KWdc.own ua uc (intB x.1.1) ((intB x.1.1)).length rfl (by kernel_rfl) hua HB2.out KWdc.bel.size ?_
          intro v' Wdca ho' hg'
          rw [HF2.out] at ho'
          have AWdca := KWdc.app ho' hg' (.inr trivial)
          obtain ⟨va, vc, rfl, _, _, _⟩ := ho'.at
          refine wpAnyIn_all (rs := [4]) (fuel := 0) (by kernel_rfl) (by simp) (fun j hj => ?_)
          obtain rfl : j = 4 := by simpa using hj
          refine opStoreIn 4 32 (.tmp 3) (.tmp 21) w.heap.size va f2.length vc _ rfl (by kernel_rfl) (by kernel_rfl) (by kernel_rfl) (fun _ => trivial) (Oper.semAt_plain _ _ _ (fun _ h => by cases h)) (by kernel_rfl) (by kernel_rfl) AWdca.1 ?_
          have KE := RI.store (by omega) AWdca ho'
          refine wpAnyIn_done (by kernel_rfl) ?_ _
          exact ⟨KE.kf, KE.kb, ⟨⟨_, KE.bl, by rw [laidI_snoc, HF1.out, HF2.out]; exact KE.own⟩, by rw [HPL.out]; exact KE.br, KE.bs, KE.bel⟩⟩
        · refine opCallIn 2 20 132 #[.int .i64 x.1.1] (fun u W' => Own W' Wd.heap.size u (intB x.1.1) ∧ After Wd W') rfl (by kernel_rfl) (by kernel_rfl) (fun _ => trivial) rfl (Oper.semAt_plain _ _ _ (fun _ h => by cases h)) (fun _ => by kernel_rfl) (CallsIn.inRound lp (callsIn_wide.2 ((int_any x.1.1 x.2.1 x.2.2.1 Wd).mono (fun _ _ ⟨u, h1, h2, h3⟩ => ⟨u, h1, h2, h3⟩)))) ?_
          rintro u Wdc ⟨hu, hWdc⟩
          obtain ⟨ua, uc, rfl, hua, _, _⟩ := hu.at
          have KWdc := Kd.after hWdc
          refine wpAnyIn_all (rs := [0]) (fuel := 2) (by kernel_rfl) (by simp) (fun j hj => ?_)
          obtain rfl : j = 0 := by simpa using hj
          refine opValIn 0 18 (.slice va f1.length vc) Wdc rfl (by kernel_rfl) (by kernel_rfl) (fun _ => trivial) (Oper.semAt_plain _ _ _ (fun _ h => by cases h)) (x_loadT (t := 32) (x := .tmp 3) (g := w.heap.size) (j := 0) Tryz.underlying32 rfl (by kernel_rfl) (by kernel_rfl) KWdc.bl.cell) ?_
          refine wpAnyIn_all (rs := [3]) (fuel := 1) (by kernel_rfl) (by simp) (fun j hj => ?_)
          obtain rfl : j = 3 := by simpa using hj
          refine opAppIn 3 21 (.tmp 18) (.tmp 20) rfl (by kernel_rfl) (by kernel_rfl) (fun _ => trivial) (Oper.semAt_plain _ _ _ (fun _ h => by cases h)) (by kernel_rfl) w.heap.size _ f1 (by kernel_rfl) KWdc.own ua uc (intB x.1.1) ((intB x.1.1)).length rfl (by kernel_rfl) hua HB2.out KWdc.bel.size ?_
          intro v' Wdca ho' hg'
          rw [HF2.out] at ho'
          have AWdca := KWdc.app ho' hg' (.inr trivial)
          obtain ⟨va, vc, rfl, _, _, _⟩ := ho'.at
          refine wpAnyIn_all (rs := [4]) (fuel := 0) (by kernel_rfl) (by simp) (fun j hj => ?_)
          obtain rfl : j = 4 := by simpa using hj
          refine opStoreIn 4 32 (.tmp 3) (.tmp 21) w.heap.size va f2.length vc _ rfl (by kernel_rfl) (by kernel_rfl) (by kernel_rfl) (fun _ => trivial) (Oper.semAt_plain _ _ _ (fun _ h => by cases h)) (by kernel_rfl) (by kernel_rfl) AWdca.1 ?_
          have KE := RI.store (by omega) AWdca ho'
          refine wpAnyIn_done (by kernel_rfl) ?_ _
          exact ⟨KE.kf, KE.kb, ⟨⟨_, KE.bl, by rw [laidI_snoc, HF1.out, HF2.out]; exact KE.own⟩, by rw [HPL.out]; exact KE.br, KE.bs, KE.bel⟩⟩
    · refine opValIn 1 14 (.int .i64 (x.1.2 : Int)) Wd rfl (by kernel_rfl) (by kernel_rfl) (fun _ => trivial) (Oper.semAt_plain _ _ _ (fun _ h => by cases h)) (by kernel_rfl) ?_
      refine wpAnyIn_all (rs := [0, 2]) (fuel := 4) (by kernel_rfl) (by simp) (fun j hj => ?_)
      simp only [List.mem_cons, List.not_mem_nil, or_false] at hj
      rcases hj with rfl | rfl
      · refine opValIn 0 13 v Wd rfl (by kernel_rfl) (by kernel_rfl) (fun _ => trivial) (Oper.semAt_plain _ _ _ (fun _ h => by cases h)) (x_loadT (t := 32) (x := .tmp 3) (g := w.heap.size) (j := 0) Tryz.underlying32 rfl (by kernel_rfl) (by kernel_rfl) Kd.bl.cell) ?_
        refine wpAnyIn_all (rs := [2]) (fuel := 3) (by kernel_rfl) (by simp) (fun j hj => ?_)
        obtain rfl : j = 2 := by simpa using hj
        refine opValIn 2 15 (.int .u64 (x.1.2 : Int)) Wd rfl (by kernel_rfl) (by kernel_rfl) (fun _ => trivial) (Oper.semAt_plain _ _ _ (fun _ h => by cases h)) (x_conv49 (x := .tmp 14) (p := x.1.2) (by have := x.2.2.2; omega) (by kernel_rfl) (by kernel_rfl)) ?_
        refine wpAnyIn_all (rs := [3]) (fuel := 2) (by kernel_rfl) (by simp) (fun j hj => ?_)
        obtain rfl : j = 3 := by simpa using hj
        refine opCallIn 3 16 69 #[.int .u64 (x.1.2 : Int)] (fun u W' => Own W' Wd.heap.size u (uintB x.1.2) ∧ After Wd W') rfl (by kernel_rfl) (by kernel_rfl) (fun _ => trivial) rfl (Oper.semAt_plain _ _ _ (fun _ h => by cases h)) (fun _ => by kernel_rfl) (CallsIn.inRound lp (callsIn_wide.2 ((uint_any x.1.2 (by have := x.2.2.2; omega) Wd).mono (fun _ _ ⟨u, h1, h2, h3⟩ => ⟨u, h1, h2, h3⟩)))) ?_
        rintro u Wdc ⟨hu, hWdc⟩
        obtain ⟨ua, uc, rfl, hua, _, _⟩ := hu.at
        have KWdc := Kd.after hWdc
        refine wpAnyIn_all (rs := [4]) (fuel := 1) (by kernel_rfl) (by simp) (fun j hj => ?_)
        obtain rfl : j = 4 := by simpa using hj
        refine opAppIn 4 17 (.tmp 13) (.tmp 16) rfl (by kernel_rfl) (by kernel_rfl) (fun _ => trivial) (Oper.semAt_plain _ _ _ (fun _ h => by cases h)) (by kernel_rfl) w.heap.size _ (laidI (pre.map (·.1))) (by kernel_rfl) KWdc.own ua uc (uintB x.1.2) ((uintB x.1.2)).length rfl (by kernel_rfl) hua HB1.out KWdc.bel.size ?_
        intro v' Wdca ho' hg'
        rw [HF1.out] at ho'
        have AWdca := KWdc.app ho' hg' (.inr trivial)
        obtain ⟨va, vc, rfl, _, _, _⟩ := ho'.at
        refine wpAnyIn_all (rs := [5]) (fuel := 0) (by kernel_rfl) (by simp) (fun j hj => ?_)
        obtain rfl : j = 5 := by simpa using hj
        refine opStoreIn 5 32 (.tmp 3) (.tmp 17) w.heap.size va f1.length vc _ rfl (by kernel_rfl) (by kernel_rfl) (by kernel_rfl) (fun _ => trivial) (Oper.semAt_plain _ _ _ (fun _ h => by cases h)) (by kernel_rfl) (by kernel_rfl) AWdca.1 ?_
        have KE := RI.store (by omega) AWdca ho'
        refine wpAnyIn_done (by kernel_rfl) ?_ _
        go_simp
        gi_wp2
        refine wpIn_region_any (by kernel_rfl) ?_
        refine with_world (p := fun W' => wpAnyIn _ _ _ _ _ _ _ _ _ W') (fun W' => RI w W0.heap.size (w.heap.size + 2) (.slice ao l.length cap) W W' (.slice va f1.length vc) f1 (pre.length + 1)) KE.drew ?_
        clear KE
        intro Wd Kd
        refine wpAnyIn_all (rs := [0, 1]) (fuel := 4) (by kernel_rfl) (by simp) (fun j hj => ?_)
        simp only [List.mem_cons, List.not_mem_nil, or_false] at hj
        rcases hj with rfl | rfl
        · refine opValIn 0 18 (.slice va f1.length vc) Wd rfl (by kernel_rfl) (by kernel_rfl) (fun _ => trivial) (Oper.semAt_plain _ _ _ (fun _ h => by cases h)) (x_loadT (t := 32) (x := .tmp 3) (g := w.heap.size) (j := 0) Tryz.underlying32 rfl (by kernel_rfl) (by kernel_rfl) Kd.bl.cell) ?_
          refine wpAnyIn_all (rs := [1]) (fuel := 3) (by kernel_rfl) (by simp) (fun j hj => ?_)
          obtain rfl : j = 1 := by simpa using hj
          refine opValIn 1 19 (.int .i64 x.1.1) Wd rfl (by kernel_rfl) (by kernel_rfl) (fun _ => trivial) (Oper.semAt_plain _ _ _ (fun _ h => by cases h)) (by kernel_rfl) ?_
          refine wpAnyIn_all (rs := [2]) (fuel := 2) (by kernel_rfl) (by simp) (fun j hj => ?_)
          obtain rfl : j = 2 := by simpa using hj
          refine opCallIn 2 20 132 #[.int .i64 x.1.1] (fun u W' => Own W' Wd.heap.size u (intB x.1.1) ∧ After Wd W') rfl (by kernel_rfl) (by kernel_rfl) (fun _ => trivial) rfl (Oper.semAt_plain _ _ _ (fun _ h => by cases h)) (fun _ => by kernel_rfl) (CallsIn.inRound lp (callsIn_wide.2 ((int_any x.1.1 x.2.1 x.2.2.1 Wd).mono (fun _ _ ⟨u, h1, h2, h3⟩ => ⟨u, h1, h2, h3⟩)))) ?_
          rintro u Wdc ⟨hu, hWdc⟩
          obtain ⟨ua, uc, rfl, hua, _, _⟩ := hu.at
          have KWdc := Kd.after hWdc
          refine wpAnyIn_all (rs := [3]) (fuel := 1) (by kernel_rfl) (by simp) (fun j hj => ?_)
          obtain rfl : j = 3 := by simpa using hj
          refine opAppIn 3 21 (.tmp 18) (.tmp 20) rfl (by kernel_rfl) (by kernel_rfl) (fun _ => trivial) (Oper.semAt_plain _ _ _ (fun _ h => by cases h)) (by kernel_rfl) w.heap.size _ f1 (by kernel_rfl) KWdc.own ua uc (intB x.1.1) ((intB x.1.1)).length rfl (by kernel_rfl) hua HB2.out KWdc.bel.size ?_
          intro v' Wdca ho' hg'
          rw [HF2.out] at ho'
          have AWdca := KWdc.app ho' hg' (.inr trivial)
          obtain ⟨va, vc, rfl, _, _, _⟩ := ho'.at
          refine wpAnyIn_all (rs := [4]) (fuel := 0) (by kernel_rfl) (by simp) (fun j hj => ?_)
          obtain rfl : j = 4 := by simpa using hj
          refine opStoreIn 4 32 (.tmp 3) (.tmp 21) w.heap.size va f2.length vc _ rfl (by kernel_rfl) (by kernel_rfl) (by kernel_rfl) (fun _ => trivial) (Oper.semAt_plain _ _ _ (fun _ h => by cases h)) (by kernel_rfl) (by kernel_rfl) AWdca.1 ?_
          have KE := RI.store (by omega) AWdca ho'
          refine wpAnyIn_done (by kernel_rfl) ?_ _
          exact ⟨KE.kf, KE.kb, ⟨⟨_, KE.bl, by rw [laidI_snoc, HF1.out, HF2.out]; exact KE.own⟩, by rw [HPL.out]; exact KE.br, KE.bs, KE.bel⟩⟩
        · refine opValIn 1 19 (.int .i64 x.1.1) Wd rfl (by kernel_rfl) (by kernel_rfl) (fun _ => trivial) (Oper.semAt_plain _ _ _ (fun _ h => by cases h)) (by kernel_rfl) ?_
          refine wpAnyIn_all (rs := [0, 2]) (fuel := 3) (by kernel_rfl) (by simp) (fun j hj => ?_)
          simp only [List.mem_cons, List.not_mem_nil, or_false] at hj
          rcases hj with rfl | rfl
          · refine opValIn 0 18 (.slice va f1.length vc) Wd rfl (by kernel_rfl) (by kernel_rfl) (fun _ => trivial) (Oper.semAt_plain _ _ _ (fun _ h => by cases h)) (x_loadT (t := 32) (x := .tmp 3) (g := w.heap.size) (j := 0) Tryz.underlying32 rfl (by kernel_rfl) (by kernel_rfl) Kd.bl.cell) ?_
            refine wpAnyIn_all (rs := [2]) (fuel := 2) (by kernel_rfl) (by simp) (fun j hj => ?_)
            obtain rfl : j = 2 := by simpa using hj
            refine opCallIn 2 20 132 #[.int .i64 x.1.1] (fun u W' => Own W' Wd.heap.size u (intB x.1.1) ∧ After Wd W') rfl (by kernel_rfl) (by kernel_rfl) (fun _ => trivial) rfl (Oper.semAt_plain _ _ _ (fun _ h => by cases h)) (fun _ => by kernel_rfl) (CallsIn.inRound lp (callsIn_wide.2 ((int_any x.1.1 x.2.1 x.2.2.1 Wd).mono (fun _ _ ⟨u, h1, h2, h3⟩ => ⟨u, h1, h2, h3⟩)))) ?_
            rintro u Wdc ⟨hu, hWdc⟩
            obtain ⟨ua, uc, rfl, hua, _, _⟩ := hu.at
            have KWdc := Kd.after hWdc
            refine wpAnyIn_all (rs := [3]) (fuel := 1) (by kernel_rfl) (by simp) (fun j hj => ?_)
            obtain rfl : j = 3 := by simpa using hj
            refine opAppIn 3 21 (.tmp 18) (.tmp 20) rfl (by kernel_rfl) (by kernel_rfl) (fun _ => trivial) (Oper.semAt_plain _ _ _ (fun _ h => by cases h)) (by kernel_rfl) w.heap.size _ f1 (by kernel_rfl) KWdc.own ua uc (intB x.1.1) ((intB x.1.1)).length rfl (by kernel_rfl) hua HB2.out KWdc.bel.size ?_
            intro v' Wdca ho' hg'
            rw [HF2.out] at ho'
            have AWdca := KWdc.app ho' hg' (.inr trivial)
            obtain ⟨va, vc, rfl, _, _, _⟩ := ho'.at
            refine wpAnyIn_all (rs := [4]) (fuel := 0) (by kernel_rfl) (by simp) (fun j hj => ?_)
            obtain rfl : j = 4 := by simpa using hj
            refine opStoreIn 4 32 (.tmp 3) (.tmp 21) w.heap.size va f2.length vc _ rfl (by kernel_rfl) (by kernel_rfl) (by kernel_rfl) (fun _ => trivial) (Oper.semAt_plain _ _ _ (fun _ h => by cases h)) (by kernel_rfl) (by kernel_rfl) AWdca.1 ?_
            have KE := RI.store (by omega) AWdca ho'
            refine wpAnyIn_done (by kernel_rfl) ?_ _
            exact ⟨KE.kf, KE.kb, ⟨⟨_, KE.bl, by rw [laidI_snoc, HF1.out, HF2.out]; exact KE.own⟩, by rw [HPL.out]; exact KE.br, KE.bs, KE.bel⟩⟩
          · refine opCallIn 2 20 132 #[.int .i64 x.1.1] (fun u W' => Own W' Wd.heap.size u (intB x.1.1) ∧ After Wd W') rfl (by kernel_rfl) (by kernel_rfl) (fun _ => trivial) rfl (Oper.semAt_plain _ _ _ (fun _ h => by cases h)) (fun _ => by kernel_rfl) (CallsIn.inRound lp (callsIn_wide.2 ((int_any x.1.1 x.2.1 x.2.2.1 Wd).mono (fun _ _ ⟨u, h1, h2, h3⟩ => ⟨u, h1, h2, h3⟩)))) ?_
            rintro u Wdc ⟨hu, hWdc⟩
            obtain ⟨ua, uc, rfl, hua, _, _⟩ := hu.at
            have KWdc := Kd.after hWdc
            refine wpAnyIn_all (rs := [0]) (fuel := 2) (by kernel_rfl) (by simp) (fun j hj => ?_)
            obtain rfl : j = 0 := by simpa using hj
            refine opValIn 0 18 (.slice va f1.length vc) Wdc rfl (by kernel_rfl) (by kernel_rfl) (fun _ => trivial) (Oper.semAt_plain _ _ _ (fun _ h => by cases h)) (x_loadT (t := 32) (x := .tmp 3) (g := w.heap.size) (j := 0) Tryz.underlying32 rfl (by kernel_rfl) (by kernel_rfl) KWdc.bl.cell) ?_
            refine wpAnyIn_all (rs := [3]) (fuel := 1) (by kernel_rfl) (by simp) (fun j hj => ?_)
            obtain rfl : j = 3 := by simpa using hj
            refine opAppIn 3 21 (.tmp 18) (.tmp 20) rfl (by kernel_rfl) (by kernel_rfl) (fun _ => trivial) (Oper.semAt_plain _ _ _ (fun _ h => by cases h)) (by kernel_rfl) w.heap.size _ f1 (by kernel_rfl) KWdc.own ua uc (intB x.1.1) ((intB x.1.1)).length rfl (by kernel_rfl) hua HB2.out KWdc.bel.size ?_
            intro v' Wdca ho' hg'
            rw [HF2.out] at ho'
            have AWdca := KWdc.app ho' hg' (.inr trivial)
            obtain ⟨va, vc, rfl, _, _, _⟩ := ho'.at
            refine wpAnyIn_all (rs := [4]) (fuel := 0) (by kernel_rfl) (by simp) (fun j hj => ?_)
            obtain rfl : j = 4 := by simpa using hj
            refine opStoreIn 4 32 (.tmp 3) (.tmp 21) w.heap.size va f2.length vc _ rfl (by kernel_rfl) (by kernel_rfl) (by kernel_rfl) (fun _ => trivial) (Oper.semAt_plain _ _ _ (fun _ h => by cases h)) (by kernel_rfl) (by kernel_rfl) AWdca.1 ?_
            have KE := RI.store (by omega) AWdca ho'
            refine wpAnyIn_done (by kernel_rfl) ?_ _
            exact ⟨KE.kf, KE.kb, ⟨⟨_, KE.bl, by rw [laidI_snoc, HF1.out, HF2.out]; exact KE.own⟩, by rw [HPL.out]; exact KE.br, KE.bs, KE.bel⟩⟩
      · refine opValIn 2 15 (.int .u64 (x.1.2 : Int)) Wd rfl (by kernel_rfl) (by kernel_rfl) (fun _ => trivial) (Oper.semAt_plain _ _ _ (fun _ h => by cases h)) (x_conv49 (x := .tmp 14) (p := x.1.2) (by have := x.2.2.2; omega) (by kernel_rfl) (by kernel_rfl)) ?_
        refine wpAnyIn_all (rs := [0, 3]) (fuel := 3) (by kernel_rfl) (by simp) (fun j hj => ?_)
        simp only [List.mem_cons, List.not_mem_nil, or_false] at hj
        rcases hj with rfl | rfl
        · refine opValIn 0 13 v Wd rfl (by kernel_rfl) (by kernel_rfl) (fun _ => trivial) (Oper.semAt_plain _ _ _ (fun _ h => by cases h)) (x_loadT (t := 32) (x := .tmp 3) (g := w.heap.size) (j := 0) Tryz.underlying32 rfl (by kernel_rfl) (by kernel_rfl) Kd.bl.cell) ?_
          refine wpAnyIn_all (rs := [3]) (fuel := 2) (by kernel_rfl) (by simp) (fun j hj => ?_)
          obtain rfl : j = 3 := by simpa using hj
          refine opCallIn 3 16 69 #[.int .u64 (x.1.2 : Int)] (fun u W' => Own W' Wd.heap.size u (uintB x.1.2) ∧ After Wd W') rfl (by kernel_rfl) (by kernel_rfl) (fun _ => trivial) rfl (Oper.semAt_plain _ _ _ (fun _ h => by cases h)) (fun _ => by kernel_rfl) (CallsIn.inRound lp (callsIn_wide.2 ((uint_any x.1.2 (by have := x.2.2.2; omega) Wd).mono (fun _ _ ⟨u, h1, h2, h3⟩ => ⟨u, h1, h2, h3⟩)))) ?_
          rintro u Wdc ⟨hu, hWdc⟩
          obtain ⟨ua, uc, rfl, hua, _, _⟩ := hu.at
          have KWdc := Kd.after hWdc
          refine wpAnyIn_all (rs := [4]) (fuel := 1) (by kernel_rfl) (by simp) (fun j hj => ?_)
          obtain rfl : j = 4 := by simpa using hj
          refine opAppIn 4 17 (.tmp 13) (.tmp 16) rfl (by kernel_rfl) (by kernel_rfl) (fun _ => trivial) (Oper.semAt_plain _ _ _ (fun _ h => by cases h)) (by kernel_rfl) w.heap.size _ (laidI (pre.map (·.1))) (by kernel_rfl) KWdc.own ua uc (uintB x.1.2) ((uintB x.1.2)).length rfl (by kernel_rfl) hua HB1.out KWdc.bel.size ?_
          intro v' Wdca ho' hg'
          rw [HF1.out] at ho'
          have AWdca := KWdc.app ho' hg' (.inr trivial)
          obtain ⟨va, vc, rfl, _, _, _⟩ := ho'.at
          refine wpAnyIn_all (rs := [5]) (fuel := 0) (by kernel_rfl) (by simp) (fun j hj => ?_)
          obtain rfl : j = 5 := by simpa using hj
          refine opStoreIn 5 32 (.tmp 3) (.tmp 17) w.heap.size va f1.length vc _ rfl (by kernel_rfl) (by kernel_rfl) (by kernel_rfl) (fun _ => trivial) (Oper.semAt_plain _ _ _ (fun _ h => by cases h)) (by kernel_rfl) (by kernel_rfl) AWdca.1 ?_
          have KE := RI.store (by omega) AWdca ho'
          refine wpAnyIn_done (by kernel_rfl) ?_ _
          go_simp
          gi_wp2
          refine wpIn_region_any (by kernel_rfl) ?_
          refine with_world (p := fun W' => wpAnyIn _ _ _ _ _ _ _ _ _ W') (fun W' => RI w W0.heap.size (w.heap.size + 2) (.slice ao l.length cap) W W' (.slice va f1.length vc) f1 (pre.length + 1)) KE.drew ?_
          clear KE
          intro Wd Kd
          refine wpAnyIn_all (rs := [0, 1]) (fuel := 4) (by kernel_rfl) (by simp) (fun j hj => ?_)
          simp only [List.mem_cons, List.not_mem_nil, or_false] at hj
          rcases hj with rfl | rfl
          · refine opValIn 0 18 (.slice va f1.length vc) Wd rfl (by kernel_rfl) (by kernel_rfl) (fun _ => trivial) (Oper.semAt_plain _ _ _ (fun _ h => by cases h)) (x_loadT (t := 32) (x := .tmp 3) (g := w.heap.size) (j := 0) Tryz.underlying32 rfl (by kernel_rfl) (by kernel_rfl) Kd.bl.cell) ?_
            refine wpAnyIn_all (rs := [1]) (fuel := 3) (by kernel_rfl) (by simp) (fun j hj => ?_)
            obtain rfl : j = 1 := by simpa using hj
            refine opValIn 1 19 (.int .i64 x.1.1) Wd rfl (by kernel_rfl) (by kernel_rfl) (fun _ => trivial) (Oper.semAt_plain _ _ _ (fun _ h => by cases h)) (by kernel_rfl) ?_
            refine wpAnyIn_all (rs := [2]) (fuel := 2) (by kernel_rfl) (by simp) (fun j hj => ?_)
            obtain rfl : j = 2 := by simpa using hj
            refine opCallIn 2 20 132 #[.int .i64 x.1.1] (fun u W' => Own W' Wd.heap.size u (intB x.1.1) ∧ After Wd W') rfl (by kernel_rfl) (by kernel_rfl) (fun _ => trivial) rfl (Oper.semAt_plain _ _ _ (fun _ h => by cases h)) (fun _ => by kernel_rfl) (CallsIn.inRound lp (callsIn_wide.2 ((int_any x.1.1 x.2.1 x.2.2.1 Wd).mono (fun _ _ ⟨u, h1, h2, h3⟩ => ⟨u, h1, h2, h3⟩)))) ?_
            rintro u Wdc ⟨hu, hWdc⟩
            obtain ⟨ua, uc, rfl, hua, _, _⟩ := hu.at
            have KWdc := Kd.after hWdc
            refine wpAnyIn_all (rs := [3]) (fuel := 1) (by kernel_rfl) (by simp) (fun j hj => ?_)
            obtain rfl : j = 3 := by simpa using hj
            refine opAppIn 3 21 (.tmp 18) (.tmp 20) rfl (by kernel_rfl) (by kernel_rfl) (fun _ => trivial) (Oper.semAt_plain _ _ _ (fun _ h => by cases h)) (by kernel_rfl) w.heap.size _ f1 (by kernel_rfl) KWdc.own ua uc (intB x.1.1) ((intB x.1.1)).length rfl (by kernel_rfl) hua HB2.out KWdc.bel.size ?_
            intro v' Wdca ho' hg'
            rw [HF2.out] at ho'
            have AWdca := KWdc.app ho' hg' (.inr trivial)
            obtain ⟨va, vc, rfl, _, _, _⟩ := ho'.at
            refine wpAnyIn_all (rs := [4]) (fuel := 0) (by kernel_rfl) (by simp) (fun j hj => ?_)
            obtain rfl : j = 4 := by simpa using hj
            refine opStoreIn 4 32 (.tmp 3) (.tmp 21) w.heap.size va f2.length vc _ rfl (by kernel_rfl) (by kernel_rfl) (by kernel_rfl) (fun _ => trivial) (Oper.semAt_plain _ _ _ (fun _ h => by cases h)) (by kernel_rfl) (by kernel_rfl) AWdca.1 ?_
            have KE := RI.store (by omega) AWdca ho'
            refine wpAnyIn_done (by kernel_rfl) ?_ _
            exact ⟨KE.kf, KE.kb, ⟨⟨_, KE.bl, by rw [laidI_snoc, HF1.out, HF2.out]; exact KE.own⟩, by rw [HPL.out]; exact KE.br, KE.bs, KE.bel⟩⟩
          · refine opValIn 1 19 (.int .i64 x.1.1) Wd rfl (by kernel_rfl) (by kernel_rfl) (fun _ => trivial) (Oper.semAt_plain _ _ _ (fun _ h => by cases h)) (by kernel_rfl) ?_
            refine wpAnyIn_all (rs := [0, 2]) (fuel := 3) (by kernel_rfl) (by simp) (fun j hj => ?_)
            simp only [List.mem_cons, List.not_mem_nil, or_false] at hj
            rcases hj with rfl | rfl
            · refine opValIn 0 18 (.slice va f1.length vc) Wd rfl (by kernel_rfl) (by kernel_rfl) (fun _ => trivial) (Oper.semAt_plain _ _ _ (fun _ h => by cases h)) (x_loadT (t := 32) (x := .tmp 3) (g := w.heap.size) (j := 0) Tryz.underlying32 rfl (by kernel_rfl) (by kernel_rfl) Kd.bl.cell) ?_
              refine wpAnyIn_all (rs := [2]) (fuel := 2) (by kernel_rfl) (by simp) (fun j hj => ?_)
              obtain rfl : j = 2 := by simpa using hj
              refine opCallIn 2 20 132 #[.int .i64 x.1.1] (fun u W' => Own W' Wd.heap.size u (intB x.1.1) ∧ After Wd W') rfl (by kernel_rfl) (by kernel_rfl) (fun _ => trivial) rfl (Oper.semAt_plain _ _ _ (fun _ h => by cases h)) (fun _ => by kernel_rfl) (CallsIn.inRound lp (callsIn_wide.2 ((int_any x.1.1 x.2.1 x.2.2.1 Wd).mono (fun _ _ ⟨u, h1, h2, h3⟩ => ⟨u, h1, h2, h3⟩)))) ?_
              rintro u Wdc ⟨hu, hWdc⟩
              obtain ⟨ua, uc, rfl, hua, _, _⟩ := hu.at
              have KWdc := Kd.after hWdc
              refine wpAnyIn_all (rs := [3]) (fuel := 1) (by kernel_rfl) (by simp) (fun j hj => ?_)
              obtain rfl : j = 3 := by simpa using hj
              refine opAppIn 3 21 (.tmp 18) (.tmp 20) rfl (by kernel_rfl) (by kernel_rfl) (fun _ => trivial) (Oper.semAt_plain _ _ _ (fun _ h => by cases h)) (by kernel_rfl) w.heap.size _ f1 (by kernel_rfl) KWdc.own ua uc (intB x.1.1) ((intB x.1.1)).length rfl (by kernel_rfl) hua HB2.out KWdc.bel.size ?_
              intro v' Wdca ho' hg'
              rw [HF2.out] at ho'
              have AWdca := KWdc.app ho' hg' (.inr trivial)
              obtain ⟨va, vc, rfl, _, _, _⟩ := ho'.at
              refine wpAnyIn_all (rs := [4]) (fuel := 0) (by kernel_rfl) (by simp) (fun j hj => ?_)
              obtain rfl : j = 4 := by simpa using hj
              refine opStoreIn 4 32 (.tmp 3) (.tmp 21) w.heap.size va f2.length vc _ rfl (by kernel_rfl) (by kernel_rfl) (by kernel_rfl) (fun _ => trivial) (Oper.semAt_plain _ _ _ (fun _ h => by cases h)) (by kernel_rfl) (by kernel_rfl) AWdca.1 ?_
              have KE := RI.store (by omega) AWdca ho'
              refine wpAnyIn_done (by kernel_rfl) ?_ _
              exact ⟨KE.kf, KE.kb, ⟨⟨_, KE.bl, by rw [laidI_snoc, HF1.out, HF2.out]; exact KE.own⟩, by rw [HPL.out]; exact KE.br, KE.bs, KE.bel⟩⟩
            · refine opCallIn 2 20 132 #[.int .i64 x.1.1] (fun u W' => Own W' Wd.heap.size u (intB x.1.1) ∧ After Wd W') rfl (by kernel_rfl) (by kernel_rfl) (fun _ => trivial) rfl (Oper.semAt_plain _ _ _ (fun _ h => by cases h)) (fun _ => by kernel_rfl) (CallsIn.inRound lp (callsIn_wide.2 ((int_any x.1.1 x.2.1 x.2.2.1 Wd).mono (fun _ _ ⟨u, h1, h2, h3⟩ => ⟨u, h1, h2, h3⟩)))) ?_
              rintro u Wdc ⟨hu, hWdc⟩
              obtain ⟨ua, uc, rfl, hua, _, _⟩ := hu.at
              have KWdc := Kd.after hWdc
              refine wpAnyIn_all (rs := [0]) (fuel := 2) (by kernel_rfl) (by simp) (fun j hj => ?_)
              obtain rfl : j = 0 := by simpa using hj
              refine opValIn 0 18 (.slice va f1.length vc) Wdc rfl (by kernel_rfl) (by kernel_rfl) (fun _ => trivial) (Oper.semAt_plain _ _ _ (fun _ h => by cases h)) (x_loadT (t := 32) (x := .tmp 3) (g := w.heap.size) (j := 0) Tryz.underlying32 rfl (by kernel_rfl) (by kernel_rfl) KWdc.bl.cell) ?_
              refine wpAnyIn_all (rs := [3]) (fuel := 1) (by kernel_rfl) (by simp) (fun j hj => ?_)
              obtain rfl : j = 3 := by simpa using hj
              refine opAppIn 3 21 (.tmp 18) (.tmp 20) rfl (by kernel_rfl) (by kernel_rfl) (fun _ => trivial) (Oper.semAt_plain _ _ _ (fun _ h => by cases h)) (by kernel_rfl) w.heap.size _ f1 (by kernel_rfl) KWdc.own ua uc (intB x.1.1) ((intB x.1.1)).length rfl (by kernel_rfl) hua HB2.out KWdc.bel.size ?_
              intro v' Wdca ho' hg'
              rw [HF2.out] at ho'
              have AWdca := KWdc.app ho' hg' (.inr trivial)
              obtain ⟨va, vc, rfl, _, _, _⟩ := ho'.at
              refine wpAnyIn_all (rs := [4]) (fuel := 0) (by kernel_rfl) (by simp) (fun j hj => ?_)
              obtain rfl : j = 4 := by simpa using hj
              refine opStoreIn 4 32 (.tmp 3) (.tmp 21) w.heap.size va f2.length vc _ rfl (by kernel_rfl) (by kernel_rfl) (by kernel_rfl) (fun _ => trivial) (Oper.semAt_plain _ _ _ (fun _ h => by cases h)) (by kernel_rfl) (by kernel_rfl) AWdca.1 ?_
              have KE := RI.store (by omega) AWdca ho'
              refine wpAnyIn_done (by kernel_rfl) ?_ _
              exact ⟨KE.kf, KE.kb, ⟨⟨_, KE.bl, by rw [laidI_snoc, HF1.out, HF2.out]; exact KE.own⟩, by rw [HPL.out]; exact KE.br, KE.bs, KE.bel⟩⟩
        · refine opCallIn 3 16 69 #[.int .u64 (x.1.2 : Int)] (fun u W' => Own W' Wd.heap.size u (uintB x.1.2) ∧ After Wd W') rfl (by kernel_rfl) (by kernel_rfl) (fun _ => trivial) rfl (Oper.semAt_plain _ _ _ (fun _ h => by cases h)) (fun _ => by kernel_rfl) (CallsIn.inRound lp (callsIn_wide.2 ((uint_any x.1.2 (by have := x.2.2.2; omega) Wd).mono (fun _ _ ⟨u, h1, h2, h3⟩ => ⟨u, h1, h2, h3⟩)))) ?_
          rintro u Wdc ⟨hu, hWdc⟩
          obtain ⟨ua, uc, rfl, hua, _, _⟩ := hu.at
          have KWdc := Kd.after hWdc
          refine wpAnyIn_all (rs := [0]) (fuel := 2) (by kernel_rfl) (by simp) (fun j hj => ?_)
          obtain rfl : j = 0 := by simpa using hj
          refine opValIn 0 13 v Wdc rfl (by kernel_rfl) (by kernel_rfl) (fun _ => trivial) (Oper.semAt_plain _ _ _ (fun _ h => by cases h)) (x_loadT (t := 32) (x := .tmp 3) (g := w.heap.size) (j := 0) Tryz.underlying32 rfl (by kernel_rfl) (by kernel_rfl) KWdc.bl.cell) ?_
          refine wpAnyIn_all (rs := [4]) (fuel := 1) (by kernel_rfl) (by simp) (fun j hj => ?_)
          obtain rfl : j = 4 := by simpa using hj
          refine opAppIn 4 17 (.tmp 13) (.tmp 16) rfl (by kernel_rfl) (by kernel_rfl) (fun _ => trivial) (Oper.semAt_plain _ _ _ (fun _ h => by cases h)) (by kernel_rfl) w.heap.size _ (laidI (pre.map (·.1))) (by kernel_rfl) KWdc.own ua uc (uintB x.1.2) ((uintB x.1.2)).length rfl (by kernel_rfl) hua HB1.out KWdc.bel.size ?_
          intro v' Wdca ho' hg'
          rw [HF1.out] at ho'
          have AWdca := KWdc.app ho' hg' (.inr trivial)
          obtain ⟨va, vc, rfl, _, _, _⟩ := ho'.at
          refine wpAnyIn_all (rs := [5]) (fuel := 0) (by kernel_rfl) (by simp) (fun j hj => ?_)
          obtain rfl : j = 5 := by simpa using hj
          refine opStoreIn 5 32 (.tmp 3) (.tmp 17) w.heap.size va f1.length vc _ rfl (by kernel_rfl) (by kernel_rfl) (by kernel_rfl) (fun _ => trivial) (Oper.semAt_plain _ _ _ (fun _ h => by cases h)) (by kernel_rfl) (by kernel_rfl) AWdca.1 ?_
          have KE := RI.store (by omega) AWdca ho'
          refine wpAnyIn_done (by kernel_rfl) ?_ _
          go_simp
          gi_wp2
          refine wpIn_region_any (by kernel_rfl) ?_
          refine with_world (p := fun W' => wpAnyIn _ _ _ _ _ _ _ _ _ W') (fun W' => RI w W0.heap.size (w.heap.size + 2) (.slice ao l.length cap) W W' (.slice va f1.length vc) f1 (pre.length + 1)) KE.drew ?_
          clear KE
          intro Wd Kd
          refine wpAnyIn_all (rs := [0, 1]) (fuel := 4) (by kernel_rfl) (by simp) (fun j hj => ?_)
          simp only [List.mem_cons, List.not_mem_nil, or_false] at hj
          rcases hj with rfl | rfl
          · refine opValIn 0 18 (.slice va f1.length vc) Wd rfl (by kernel_rfl) (by kernel_rfl) (fun _ => trivial) (Oper.semAt_plain _ _ _ (fun _ h => by cases h)) (x_loadT (t := 32) (x := .tmp 3) (g := w.heap.size) (j := 0) Tryz.underlying32 rfl (by kernel_rfl) (by kernel_rfl) Kd.bl.cell) ?_
            refine wpAnyIn_all (rs := [1]) (fuel := 3) (by kernel_rfl) (by simp) (fun j hj => ?_)
            obtain rfl : j = 1 := by simpa using hj
            refine opValIn 1 19 (.int .i64 x.1.1) Wd rfl (by kernel_rfl) (by kernel_rfl) (fun _ => trivial) (Oper.semAt_plain _ _ _ (fun _ h => by cases h)) (by kernel_rfl) ?_
            refine wpAnyIn_all (rs := [2]) (fuel := 2) (by kernel_rfl) (by simp) (fun j hj => ?_)
            obtain rfl : j = 2 := by simpa using hj
            refine opCallIn 2 20 132 #[.int .i64 x.1.1] (fun u W' => Own W' Wd.heap.size u (intB x.1.1) ∧ After Wd W') rfl (by kernel_rfl) (by kernel_rfl) (fun _ => trivial) rfl (Oper.semAt_plain _ _ _ (fun _ h => by cases h)) (fun _ => by kernel_rfl) (CallsIn.inRound lp (callsIn_wide.2 ((int_any x.1.1 x.2.1 x.2.2.1 Wd).mono (fun _ _ ⟨u, h1, h2, h3⟩ => ⟨u, h1, h2, h3⟩)))) ?_
            rintro u Wdc ⟨hu, hWdc⟩
            obtain ⟨ua, uc, rfl, hua, _, _⟩ := hu.at
            have KWdc := Kd.after hWdc
            refine wpAnyIn_all (rs := [3]) (fuel := 1) (by kernel_rfl) (by simp) (fun j hj => ?_)
            obtain rfl : j = 3 := by simpa using hj
            refine opAppIn 3 21 (.tmp 18) (.tmp 20) rfl (by kernel_rfl) (by kernel_rfl) (fun _ => trivial) (Oper.semAt_plain _ _ _ (fun _ h => by cases h)) (by kernel_rfl) w.heap.size _ f1 (by kernel_rfl) KWdc.own ua uc (intB x.1.1) ((intB x.1.1)).length rfl (by kernel_rfl) hua HB2.out KWdc.bel.size ?_
            intro v' Wdca ho' hg'
            rw [HF2.out] at ho'
            have AWdca := KWdc.app ho' hg' (.inr trivial)
            obtain ⟨va, vc, rfl, _, _, _⟩ := ho'.at
            refine wpAnyIn_all (rs := [4]) (fuel := 0) (by kernel_rfl) (by simp) (fun j hj => ?_)
            obtain rfl : j = 4 := by simpa using hj
            refine opStoreIn 4 32 (.tmp 3) (.tmp 21) w.heap.size va f2.length vc _ rfl (by kernel_rfl) (by kernel_rfl) (by kernel_rfl) (fun _ => trivial) (Oper.semAt_plain _ _ _ (fun _ h => by cases h)) (by kernel_rfl) (by kernel_rfl) AWdca.1 ?_
            have KE := RI.store (by omega) AWdca ho'
            refine wpAnyIn_done (by kernel_rfl) ?_ _
            exact ⟨KE.kf, KE.kb, ⟨⟨_, KE.bl, by rw [laidI_snoc, HF1.out, HF2.out]; exact KE.own⟩, by rw [HPL.out]; exact KE.br, KE.bs, KE.bel⟩⟩
          · refine opValIn 1 19 (.int .i64 x.1.1) Wd rfl (by kernel_rfl) (by kernel_rfl) (fun _ => trivial) (Oper.semAt_plain _ _ _ (fun _ h => by cases h)) (by kernel_rfl) ?_
            refine wpAnyIn_all (rs := [0, 2]) (fuel := 3) (by kernel_rfl) (by simp) (fun j hj => ?_)
            simp only [List.mem_cons, List.not_mem_nil, or_false] at hj
            rcases hj with rfl | rfl
            · refine opValIn 0 18 (.slice va f1.length vc) Wd rfl (by kernel_rfl) (by kernel_rfl) (fun _ => trivial) (Oper.semAt_plain _ _ _ (fun _ h => by cases h)) (x_loadT (t := 32) (x := .tmp 3) (g := w.heap.size) (j := 0) Tryz.underlying32 rfl (by kernel_rfl) (by kernel_rfl) Kd.bl.cell) ?_
              refine wpAnyIn_all (rs := [2]) (fuel := 2) (by kernel_rfl) (by simp) (fun j hj => ?_)
              obtain rfl : j = 2 := by simpa using hj
              refine opCallIn 2 20 132 #[.int .i64 x.1.1] (fun u W' => Own W' Wd.heap.size u (intB x.1.1) ∧ After Wd W') rfl (by kernel_rfl) (by kernel_rfl) (fun _ => trivial) rfl (Oper.semAt_plain _ _ _ (fun _ h => by cases h)) (fun _ => by kernel_rfl) (CallsIn.inRound lp (callsIn_wide.2 ((int_any x.1.1 x.2.1 x.2.2.1 Wd).mono (fun _ _ ⟨u, h1, h2, h3⟩ => ⟨u, h1, h2, h3⟩)))) ?_
              rintro u Wdc ⟨hu, hWdc⟩
              obtain ⟨ua, uc, rfl, hua, _, _⟩ := hu.at
              have KWdc := Kd.after hWdc
              refine wpAnyIn_all (rs := [3]) (fuel := 1) (by kernel_rfl) (by simp) (fun j hj => ?_)
              obtain rfl : j = 3 := by simpa using hj
              refine opAppIn 3 21 (.tmp 18) (.tmp 20) rfl (by kernel_rfl) (by kernel_rfl) (fun _ => trivial) (Oper.semAt_plain _ _ _ (fun _ h => by cases h)) (by kernel_rfl) w.heap.size _ f1 (by kernel_rfl) KWdc.own ua uc (intB x.1.1) ((intB x.1.1)).length rfl (by kernel_rfl) hua HB2.out KWdc.bel.size ?_
              intro v' Wdca ho' hg'
              rw [HF2.out] at ho'
              have AWdca := KWdc.app ho' hg' (.inr trivial)
              obtain ⟨va, vc, rfl, _, _, _⟩ := ho'.at
              refine wpAnyIn_all (rs := [4]) (fuel := 0) (by kernel_rfl) (by simp) (fun j hj => ?_)
              obtain rfl : j = 4 := by simpa using hj
              refine opStoreIn 4 32 (.tmp 3) (.tmp 21) w.heap.size va f2.length vc _ rfl (by kernel_rfl) (by kernel_rfl) (by kernel_rfl) (fun _ => trivial) (Oper.semAt_plain _ _ _ (fun _ h => by cases h)) (by kernel_rfl) (by kernel_rfl) AWdca.1 ?_
              have KE := RI.store (by omega) AWdca ho'
              refine wpAnyIn_done (by kernel_rfl) ?_ _
              exact ⟨KE.kf, KE.kb, ⟨⟨_, KE.bl, by rw [laidI_snoc, HF1.out, HF2.out]; exact KE.own⟩, by rw [HPL.out]; exact KE.br, KE.bs, KE.bel⟩⟩
            · refine opCallIn 2 20 132 #[.int .i64 x.1.1] (fun u W' => Own W' Wd.heap.size u (intB x.1.1) ∧ After Wd W') rfl (by kernel_rfl) (by kernel_rfl) (fun _ => trivial) rfl (Oper.semAt_plain _ _ _ (fun _ h => by cases h)) (fun _ => by kernel_rfl) (CallsIn.inRound lp (callsIn_wide.2 ((int_any x.1.1 x.2.1 x.2.2.1 Wd).mono (fun _ _ ⟨u, h1, h2, h3⟩ => ⟨u, h1, h2, h3⟩)))) ?_
              rintro u Wdc ⟨hu, hWdc⟩
              obtain ⟨ua, uc, rfl, hua, _, _⟩ := hu.at
              have KWdc := Kd.after hWdc
              refine wpAnyIn_all (rs := [0]) (fuel := 2) (by kernel_rfl) (by simp) (fun j hj => ?_)
              obtain rfl : j = 0 := by simpa using hj
              refine opValIn 0 18 (.slice va f1.length vc) Wdc rfl (by kernel_rfl) (by kernel_rfl) (fun _ => trivial) (Oper.semAt_plain _ _ _ (fun _ h => by cases h)) (x_loadT (t := 32) (x := .tmp 3) (g := w.heap.size) (j := 0) Tryz.underlying32 rfl (by kernel_rfl) (by kernel_rfl) KWdc.bl.cell) ?_
              refine wpAnyIn_all (rs := [3]) (fuel := 1) (by kernel_rfl) (by simp) (fun j hj => ?_)
              obtain rfl : j = 3 := by simpa using hj
              refine opAppIn 3 21 (.tmp 18) (.tmp 20) rfl (by kernel_rfl) (by kernel_rfl) (fun _ => trivial) (Oper.semAt_plain _ _ _ (fun _ h => by cases h)) (by kernel_rfl) w.heap.size _ f1 (by kernel_rfl) KWdc.own ua uc (intB x.1.1) ((intB x.1.1)).length rfl (by kernel_rfl) hua HB2.out KWdc.bel.size ?_
              intro v' Wdca ho' hg'
              rw [HF2.out] at ho'
              have AWdca := KWdc.app ho' hg' (.inr trivial)
              obtain ⟨va, vc, rfl, _, _, _⟩ := ho'.at
              refine wpAnyIn_all (rs := [4]) (fuel := 0) (by kernel_rfl) (by simp) (fun j hj => ?_)
              obtain rfl : j = 4 := by simpa using hj
              refine opStoreIn 4 32 (.tmp 3) (.tmp 21) w.heap.size va f2.length vc _ rfl (by kernel_rfl) (by kernel_rfl) (by kernel_rfl) (fun _ => trivial) (Oper.semAt_plain _ _ _ (fun _ h => by cases h)) (by kernel_rfl) (by kernel_rfl) AWdca.1 ?_
              have KE := RI.store (by omega) AWdca ho'
              refine wpAnyIn_done (by kernel_rfl) ?_ _
              exact ⟨KE.kf, KE.kb, ⟨⟨_, KE.bl, by rw [laidI_snoc, HF1.out, HF2.out]; exact KE.own⟩, by rw [HPL.out]; exact KE.br, KE.bs, KE.bel⟩⟩
  case done =>
    rintro D ys W hD hys ⟨⟨v, h1, h2⟩, h3, h4, h5⟩ hK
    have hm : ys.length = (runs l).length := by rw [← hys]; simp
    have hml := runs_len l
    obtain ⟨m, hmm⟩ : ∃ m, ys.length = m := ⟨_, rfl⟩
    have h20 := laidI_len ys
    rw [hys] at h2 h20
    rw [hmm] at h3 hm h20
    obtain ⟨lb, HLB⟩ : ∃ x, Hid (laidI (runs l) = x) := ⟨_, rfl⟩
    rw [HLB.out] at h2 h20
    have HRB : Hid (uintB m ++ lb = runsB l) := by unfold Hid runsB; rw [hm, HLB.out]
    have HBB : Hid ((uintB m).length + lb.length ≤ 140737488355328) := by have := uintB_len10 m (by omega); unfold Hid; omega
    obtain ⟨va, vc, rfl, hat, _, _⟩ := h2.at
    have HAT0 := show Hid (BytesAt W va lb) from hat
    have HWW : Hid (Below w.heap.size w W) := h5
    have HKD0 : Hid (W.heap[D]? = some (.deferred (some []))) := hK
    have HDW : Hid (w.heap.size ≤ D) := by unfold Hid; omega
    have H1 := show Hid (Boxed W w.heap.size 32 (.slice va lb.length vc)) from h1
    have H3 := show Hid (Boxed W (w.heap.size + 1) 3 (.int .i64 (m : Int))) from h3
    have bm : m ≤ 1048576 := by omega
    clear h1 h2 h3 h4 h5 hK hat hD h20 hm hml hmm hys
    gi_wp2
    refine wpIn_region_any (by kernel_rfl) ?_
    refine with_world (p := fun W' => wpAnyIn _ _ _ _ _ _ _ _ _ W') (fun W' => After W W') (After.drew (After.refl W)) ?_
    intro Wd hWd
    have HLD : Hid (∀ W', After Wd W' → W'.cell? ⟨w.heap.size + 1, 0, none⟩ = some (.int .i64 (m : Int))) := fun W' hA => (Below.cell (hWd.trans hA) (p := ⟨w.heap.size + 1, 0, none⟩) H3.out.lt).trans H3.out.cell
    have HLV : Hid (∀ W', After Wd W' → W'.cell? ⟨w.heap.size, 0, none⟩ = some (.slice va lb.length vc)) := fun W' hA => (Below.cell (hWd.trans hA) (p := ⟨w.heap.size, 0, none⟩) H1.out.lt).trans H1.out.cell
    have HAT : Hid (∀ W', After Wd W' → BytesAt W' va lb) := fun W' hA => HAT0.out.after (hWd.trans hA)
    have hDl : D < W.heap.size := (Array.getElem?_eq_some_iff.1 HKD0.out).1
    have HKD : Hid (Wd.heap[D]? = some (.deferred (some []))) := (hWd.block D hDl).trans HKD0.out
    have HDL : Hid (D < Wd.heap.size) := Nat.lt_of_lt_of_le hDl hWd.size
    have HWd : Hid (Below w.heap.size w Wd) := HWW.out.trans (Below.mono hWd HWW.out.size)
    have hS0 : After Wd Wd := After.refl Wd
    refine wpAnyIn_all (rs := [0, 3]) (fuel := 5) (by kernel_rfl) (by simp) (fun j hj => ?_)
    simp only [List.mem_cons, List.not_mem_nil, or_false] at hj
    rcases hj with rfl | rfl
    · refine opValIn 0 22 (.int .i64 (m : Int)) Wd rfl (by kernel_rfl) (by kernel_rfl) (fun _ => trivial) rfl (x_loadT (t := 3) (x := .tmp 4) (g := w.heap.size + 1) (j := 0) Tryz.underlying3 rfl (by kernel_rfl) (by kernel_rfl) (HLD.out _ hS0)) ?_
      refine wpAnyIn_all (rs := [1, 3]) (fuel := 4) (by kernel_rfl) (by simp) (fun j hj => ?_)
      simp only [List.mem_cons, List.not_mem_nil, or_false] at hj
      rcases hj with rfl | rfl
      · refine opValIn 1 23 (.int .u64 (m : Int)) Wd rfl (by kernel_rfl) (by kernel_rfl) (fun _ => trivial) rfl (x_conv49 (x := .tmp 22) (p := m) (by omega) (by kernel_rfl) (by kernel_rfl)) ?_
        refine wpAnyIn_all (rs := [2, 3]) (fuel := 3) (by kernel_rfl) (by simp) (fun j hj => ?_)
        simp only [List.mem_cons, List.not_mem_nil, or_false] at hj
        rcases hj with rfl | rfl
        · refine opCallIn 2 24 69 #[.int .u64 (m : Int)] (fun u W' => Own W' Wd.heap.size u (uintB m) ∧ After Wd W') rfl (by kernel_rfl) (by kernel_rfl) (fun _ => trivial) rfl rfl (fun _ => by kernel_rfl) (callsIn_wide.2 ((uint_any m (by omega) Wd).mono (fun _ _ ⟨u, h1, h2, h3⟩ => ⟨u, h1, h2, h3⟩))) ?_
          rintro u Wdc ⟨hu, hWdc⟩
          have AWdc : After Wd Wdc := hS0.trans hWdc
          have hu1 := hu.mono hS0.size
          refine wpAnyIn_all (rs := [3]) (fuel := 2) (by kernel_rfl) (by simp) (fun j hj => ?_)
          obtain rfl : j = 3 := by simpa using hj
          refine opValIn 3 25 (.slice va lb.length vc) Wdc rfl (by kernel_rfl) (by kernel_rfl) (fun _ => trivial) rfl (x_loadT (t := 32) (x := .tmp 3) (g := w.heap.size) (j := 0) Tryz.underlying32 rfl (by kernel_rfl) (by kernel_rfl) (HLV.out _ AWdc)) ?_
          refine wpAnyIn_all (rs := [4]) (fuel := 1) (by kernel_rfl) (by simp) (fun j hj => ?_)
          obtain rfl : j = 4 := by simpa using hj
          refine opAppIn 4 26 (.tmp 24) (.tmp 25) rfl (by kernel_rfl) (by kernel_rfl) (fun _ => trivial) rfl (by kernel_rfl) Wd.heap.size _ (uintB m) (by kernel_rfl) hu1 va vc lb lb.length rfl (by kernel_rfl) (HAT.out _ AWdc) HBB.out AWdc.size ?_
          intro v' Wdca ho' hg'
          rw [HRB.out] at ho'
          have B' : After Wd Wdca := after_grown AWdc hg' (Nat.le_refl _) (fun k hk => (World.ownsRow.lt hu1 k hk).1)
          refine wpAnyIn_all (rs := [5]) (fuel := 0) (by kernel_rfl) (by simp) (fun j hj => ?_)
          obtain rfl : j = 5 := by simpa using hj
          refine opValIn 5 2 v' Wdca rfl (by kernel_rfl) (by kernel_rfl) (fun _ => trivial) rfl (by kernel_rfl) ?_
          refine wpAnyIn_done (by kernel_rfl) ?_ _
          have HO' := show Hid (Own _ _ v' (runsB l)) from ho'
          clear ho' hg'
          go_simp
          gi_wp2
          have hK' : Wdca.heap[D]? = some (.deferred (some [])) := (B'.block D HDL.out).trans HKD.out
          refine ⟨by simp, .inl ⟨_, _, rfl, run_takeDeferred hK', ?_⟩⟩
          exact ⟨_, results_tmp rfl _ _ _, v', rfl, ownsRow_putObj (Own.mono HO'.out HWd.out.size) _ hK' rfl, (HWd.out.trans (B'.mono HWd.out.size)).trans (belowK_b (w := w) (Nat.le_refl _) Wdca D _ _ HDW.out hK' rfl rfl)⟩
        · refine opValIn 3 25 (.slice va lb.length vc) Wd rfl (by kernel_rfl) (by kernel_rfl) (fun _ => trivial) rfl (x_loadT (t := 32) (x := .tmp 3) (g := w.heap.size) (j := 0) Tryz.underlying32 rfl (by kernel_rfl) (by kernel_rfl) (HLV.out _ hS0)) ?_
          refine wpAnyIn_all (rs := [2]) (fuel := 2) (by kernel_rfl) (by simp) (fun j hj => ?_)
          obtain rfl : j = 2 := by simpa using hj
          refine opCallIn 2 24 69 #[.int .u64 (m : Int)] (fun u W' => Own W' Wd.heap.size u (uintB m) ∧ After Wd W') rfl (by kernel_rfl) (by kernel_rfl) (fun _ => trivial) rfl rfl (fun _ => by kernel_rfl) (callsIn_wide.2 ((uint_any m (by omega) Wd).mono (fun _ _ ⟨u, h1, h2, h3⟩ => ⟨u, h1, h2, h3⟩))) ?_
          rintro u Wdc ⟨hu, hWdc⟩
          have AWdc : After Wd Wdc := hS0.trans hWdc
          have hu1 := hu.mono hS0.size
          refine wpAnyIn_all (rs := [4]) (fuel := 1) (by kernel_rfl) (by simp) (fun j hj => ?_)
          obtain rfl : j = 4 := by simpa using hj
          refine opAppIn 4 26 (.tmp 24) (.tmp 25) rfl (by kernel_rfl) (by kernel_rfl) (fun _ => trivial) rfl (by kernel_rfl) Wd.heap.size _ (uintB m) (by kernel_rfl) hu1 va vc lb lb.length rfl (by kernel_rfl) (HAT.out _ AWdc) HBB.out AWdc.size ?_
          intro v' Wdca ho' hg'
          rw [HRB.out] at ho'
          have B' : After Wd Wdca := after_grown AWdc hg' (Nat.le_refl _) (fun k hk => (World.ownsRow.lt hu1 k hk).1)
          refine wpAnyIn_all (rs := [5]) (fuel := 0) (by kernel_rfl) (by simp) (fun j hj => ?_)
          obtain rfl : j = 5 := by simpa using hj
          refine opValIn 5 2 v' Wdca rfl (by kernel_rfl) (by kernel_rfl) (fun _ => trivial) rfl (by kernel_rfl) ?_
          refine wpAnyIn_done (by kernel_rfl) ?_ _
          have HO' := show Hid (Own _ _ v' (runsB l)) from ho'
          clear ho' hg'
          go_simp
          gi_wp2
          have hK' : Wdca.heap[D]? = some (.deferred (some [])) := (B'.block D HDL.out).trans HKD.out
          refine ⟨by simp, .inl ⟨_, _, rfl, run_takeDeferred hK', ?_⟩⟩
          exact ⟨_, results_tmp rfl _ _ _, v', rfl, ownsRow_putObj (Own.mono HO'.out HWd.out.size) _ hK' rfl, (HWd.out.trans (B'.mono HWd.out.size)).trans (belowK_b (w := w) (Nat.le_refl _) Wdca D _ _ HDW.out hK' rfl rfl)⟩
      · refine opValIn 3 25 (.slice va lb.length vc) Wd rfl (by kernel_rfl) (by kernel_rfl) (fun _ => trivial) rfl (x_loadT (t := 32) (x := .tmp 3) (g := w.heap.size) (j := 0) Tryz.underlying32 rfl (by kernel_rfl) (by kernel_rfl) (HLV.out _ hS0)) ?_
        refine wpAnyIn_all (rs := [1]) (fuel := 3) (by kernel_rfl) (by simp) (fun j hj => ?_)
        obtain rfl : j = 1 := by simpa using hj
        refine opValIn 1 23 (.int .u64 (m : Int)) Wd rfl (by kernel_rfl) (by kernel_rfl) (fun _ => trivial) rfl (x_conv49 (x := .tmp 22) (p := m) (by omega) (by kernel_rfl) (by kernel_rfl)) ?_
        refine wpAnyIn_all (rs := [2]) (fuel := 2) (by kernel_rfl) (by simp) (fun j hj => ?_)
        obtain rfl : j = 2 := by simpa using hj
        refine opCallIn 2 24 69 #[.int .u64 (m : Int)] (fun u W' => Own W' Wd.heap.size u (uintB m) ∧ After Wd W') rfl (by kernel_rfl) (by kernel_rfl) (fun _ => trivial) rfl rfl (fun _ => by kernel_rfl) (callsIn_wide.2 ((uint_any m (by omega) Wd).mono (fun _ _ ⟨u, h1, h2, h3⟩ => ⟨u, h1, h2, h3⟩))) ?_
        rintro u Wdc ⟨hu, hWdc⟩
        have AWdc : After Wd Wdc := hS0.trans hWdc
        have hu1 := hu.mono hS0.size
        refine wpAnyIn_all (rs := [4]) (fuel := 1) (by kernel_rfl) (by simp) (fun j hj => ?_)
        obtain rfl : j = 4 := by simpa using hj
        refine opAppIn 4 26 (.tmp 24) (.tmp 25) rfl (by kernel_rfl) (by kernel_rfl) (fun _ => trivial) rfl (by kernel_rfl) Wd.heap.size _ (uintB m) (by kernel_rfl) hu1 va vc lb lb.length rfl (by kernel_rfl) (HAT.out _ AWdc) HBB.out AWdc.size ?_
        intro v' Wdca ho' hg'
        rw [HRB.out] at ho'
        have B' : After Wd Wdca := after_grown AWdc hg' (Nat.le_refl _) (fun k hk => (World.ownsRow.lt hu1 k hk).1)
        refine wpAnyIn_all (rs := [5]) (fuel := 0) (by kernel_rfl) (by simp) (fun j hj => ?_)
        obtain rfl : j = 5 := by simpa using hj
        refine opValIn 5 2 v' Wdca rfl (by kernel_rfl) (by kernel_rfl) (fun _ => trivial) rfl (by kernel_rfl) ?_
        refine wpAnyIn_done (by kernel_rfl) ?_ _
        have HO' := show Hid (Own _ _ v' (runsB l)) from ho'
        clear ho' hg'
        go_simp
        gi_wp2
        have hK' : Wdca.heap[D]? = some (.deferred (some [])) := (B'.block D HDL.out).trans HKD.out
        refine ⟨by simp, .inl ⟨_, _, rfl, run_takeDeferred hK', ?_⟩⟩
        exact ⟨_, results_tmp rfl _ _ _, v', rfl, ownsRow_putObj (Own.mono HO'.out HWd.out.size) _ hK' rfl, (HWd.out.trans (B'.mono HWd.out.size)).trans (belowK_b (w := w) (Nat.le_refl _) Wdca D _ _ HDW.out hK' rfl rfl)⟩
    · refine opValIn 3 25 (.slice va lb.length vc) Wd rfl (by kernel_rfl) (by kernel_rfl) (fun _ => trivial) rfl (x_loadT (t := 32) (x := .tmp 3) (g := w.heap.size) (j := 0) Tryz.underlying32 rfl (by kernel_rfl) (by kernel_rfl) (HLV.out _ hS0)) ?_
      refine wpAnyIn_all (rs := [0]) (fuel := 4) (by kernel_rfl) (by simp) (fun j hj => ?_)
      obtain rfl : j = 0 := by simpa using hj
      refine opValIn 0 22 (.int .i64 (m : Int)) Wd rfl (by kernel_rfl) (by kernel_rfl) (fun _ => trivial) rfl (x_loadT (t := 3) (x := .tmp 4) (g := w.heap.size + 1) (j := 0) Tryz.underlying3 rfl (by kernel_rfl) (by kernel_rfl) (HLD.out _ hS0)) ?_
      refine wpAnyIn_all (rs := [1]) (fuel := 3) (by kernel_rfl) (by simp) (fun j hj => ?_)
      obtain rfl : j = 1 := by simpa using hj
      refine opValIn 1 23 (.int .u64 (m : Int)) Wd rfl (by kernel_rfl) (by kernel_rfl) (fun _ => trivial) rfl (x_conv49 (x := .tmp 22) (p := m) (by omega) (by kernel_rfl) (by kernel_rfl)) ?_
      refine wpAnyIn_all (rs := [2]) (fuel := 2) (by kernel_rfl) (by simp) (fun j hj => ?_)
      obtain rfl : j = 2 := by simpa using hj
      refine opCallIn 2 24 69 #[.int .u64 (m : Int)] (fun u W' => Own W' Wd.heap.size u (uintB m) ∧ After Wd W') rfl (by kernel_rfl) (by kernel_rfl) (fun _ => trivial) rfl rfl (fun _ => by kernel_rfl) (callsIn_wide.2 ((uint_any m (by omega) Wd).mono (fun _ _ ⟨u, h1, h2, h3⟩ => ⟨u, h1, h2, h3⟩))) ?_
      rintro u Wdc ⟨hu, hWdc⟩
      have AWdc : After Wd Wdc := hS0.trans hWdc
      have hu1 := hu.mono hS0.size
      refine wpAnyIn_all (rs := [4]) (fuel := 1) (by kernel_rfl) (by simp) (fun j hj => ?_)
      obtain rfl : j = 4 := by simpa using hj
      refine opAppIn 4 26 (.tmp 24) (.tmp 25) rfl (by kernel_rfl) (by kernel_rfl) (fun _ => trivial) rfl (by kernel_rfl) Wd.heap.size _ (uintB m) (by kernel_rfl) hu1 va vc lb lb.length rfl (by kernel_rfl) (HAT.out _ AWdc) HBB.out AWdc.size ?_
      intro v' Wdca ho' hg'
      rw [HRB.out] at ho'
      have B' : After Wd Wdca := after_grown AWdc hg' (Nat.le_refl _) (fun k hk => (World.ownsRow.lt hu1 k hk).1)
      refine wpAnyIn_all (rs := [5]) (fuel := 0) (by kernel_rfl) (by simp) (fun j hj => ?_)
      obtain rfl : j = 5 := by simpa using hj
      refine opValIn 5 2 v' Wdca rfl (by kernel_rfl) (by kernel_rfl) (fun _ => trivial) rfl (by kernel_rfl) ?_
      refine wpAnyIn_done (by kernel_rfl) ?_ _
      have HO' := show Hid (Own _ _ v' (runsB l)) from ho'
      clear ho' hg'
      go_simp
      gi_wp2
      have hK' : Wdca.heap[D]? = some (.deferred (some [])) := (B'.block D HDL.out).trans HKD.out
      refine ⟨by simp, .inl ⟨_, _, rfl, run_takeDeferred hK', ?_⟩⟩
      exact ⟨_, results_tmp rfl _ _ _, v', rfl, ownsRow_putObj (Own.mono HO'.out HWd.out.size) _ hK' rfl, (HWd.out.trans (B'.mono HWd.out.size)).trans (belowK_b (w := w) (Nat.le_refl _) Wdca D _ _ HDW.out hK' rfl rfl)⟩
  case stop =>
    rintro D c pre W _ _ h _
    exact h.elim
end Go.Proofs.YtgmdolpjkaajfaaGreatDoor
namespace Go.Proofs.YtgmdolpjkaajfaaGreatDoor
open Go.RowKit Leb
theorem and_low32 (c : Nat) (hc : c < 4294967296) : bits .and .u64 (c : Int) 4294967295 = (c : Int) := by
  have e : bits .and .u64 (c : Int) 4294967295 = IntKind.u64.wrap (((c % 18446744073709551616) % 2 ^ 32 : Nat) : Int) := by
    show IntKind.u64.wrap (((BitVec.ofInt 64 (c : Int) &&& BitVec.ofInt 64 4294967295).toNat : Nat) : Int) = _
    rw [BitVec.toNat_and, BitVec.toNat_ofInt, ← Nat.and_two_pow_sub_one_eq_mod]
    have h1 : ((c : Int) % (2 ^ 64 : Nat)).toNat = c % 18446744073709551616 := by omega
    rw [h1]
    rfl
  rw [e]
  simp [IntKind.wrap, IntKind.bits, IntKind.signed]
  omega
set_option maxHeartbeats 400000 in
theorem mul64_one (c : Nat) (hc : c ≤ 1048576) (w : World) : Calls Tryz.prog 156 #[.int .u64 1, .int .u64 (c : Int)] w fun e w' => e = .returned (.tuple #[.int .u64 0, .int .u64 (c : Int)]) ∧ w' = w := by
  have ha := and_low32 c (by omega)
  have hb : bits .and .u64 1 4294967295 = 1 := by decide
  have hd : (c : Int) / 4294967296 = 0 := by omega
  have h0 : bits .and .u64 0 4294967295 = 0 := by decide
  go_enter Tryz.func156, Tryz.ntmps156
  go_wp2
  go_ret2
  exact ⟨rfl, rfl⟩
set_option maxHeartbeats 400000 in
theorem mul_one' (c : Nat) (hc : c ≤ 1048576) (w : World) : Calls Tryz.prog 154 #[.int .u64 1, .int .u64 (c : Int)] w fun e w' => e = .returned (.tuple #[.int .u64 0, .int .u64 (c : Int)]) ∧ w' = w := by
  go_enter Tryz.func154, Tryz.ntmps154
  go_wp2_with (go_at_call 156; refine (mul64_one c hc _).mono ?_; rintro e w1 ⟨rfl, rfl⟩)
  go_ret2
  exact ⟨rfl, rfl⟩
section
variable {ops : Array Oper} {Q : Exit → Act → World → Prop} {S : World → Prop} {fuel : Nat} {listed : Array Bool} {a : Act} {w : World} {oi : Oper}
/-- Number i, which alone may come up, yields v and turns the world. -/
theorem tkOne (i d : Nat) (v : Value) (w' : World) (hi : ops[i]? = some oi) (hd : oi.dst = some d) (hr : Region.ready .any ops listed = [i]) (hw : Region.wanted oi (yielded ops a.tmps) = true)
    (hrun : (execOp a.eval oi).run Tryz.prog w = .ok (.value v) w') (hS : S w') (h : wpAnyH Tryz.prog .any ops Q S fuel (listed.setIfInBounds i true) (a.put (some d) v) w') : wpAnyH Tryz.prog .any ops Q S (fuel + 1) listed a w :=
  wpAnyH_all hr (by simp) (fun j hj => by
    obtain rfl : j = i := by simpa using hj
    refine wpOp_step hi (fun K' hK => ?_)
    rw [if_pos hw]
    unfold Oper.wp
    rw [hrun]
    have hh := hK (a.put (some d) v) w' ⟨hS, h⟩
    rw [← hd] at hh
    exact hh)
end
def ci (l : List Int) : List Value := l.map (Value.int .i64)
theorem ci_len (l : List Int) : (ci l).length = l.length := by simp [ci]
theorem ci_one (l : List Int) : ∀ v ∈ ci l, v.oneCell' = true := by intro v hv; obtain ⟨b, _, rfl⟩ := List.mem_map.1 hv; rfl
theorem ci_get (l : List Int) (j : Nat) (h : j < l.length) : (ci l)[j]? = some (.int .i64 (l[j]?.getD 0)) := by simp [ci, h]
theorem info2 : (Tryz.prog.info? 2).map (fun i => (i.zero, i.size, i.bytes)) = some (some (.int .i64 0), 1, 8) := by kernel_rfl
theorem info2s : (Tryz.prog.info? 2).map (·.size) = some 1 := by kernel_rfl
theorem made_zeroI (c : Nat) : madeCells (Value.cells (.int .i64 0)) c = (ci (List.replicate c 0)).toArray := by
  apply Array.ext_getElem?
  intro i
  simp only [madeCells, ci, List.map_replicate]
  by_cases h : i < c
  · simp [h, Value.cells, Nat.mod_one]
  · simp [h]
theorem make_ints (W : World) (l c : Nat) (hlc : l ≤ c) (hc : c ≤ 1048576) :
    (Instr.makeSlice 106 (.int .i64 (l : Int)) (.int .i64 (c : Int))).run Tryz.prog W = .ok (.slice (some ⟨W.heap.size, 0, none⟩) l c) (W.alloc (.cells (ci (List.replicate c 0)).toArray 2)) := by
  obtain ⟨i, hi, hz⟩ := Option.map_eq_some_iff.1 info2
  simp only [Prod.mk.injEq] at hz
  obtain ⟨hz, hs, hb⟩ := hz
  have := run_make (P := Tryz.prog) W 106 2 i (.int .i64 0) Tryz.underlying106 hi hz .i64 .i64 l c (by omega) (by omega) (by rw [hb]; omega) (by omega)
  rw [this, hs, Nat.mul_one, Int.toNat_natCast, Int.toNat_natCast, made_zeroI]
theorem sliceI_from (b o n c lo : Nat) (h : lo < n) (h2 : n ≤ c) (W : World) : (Instr.sliceAt 106 (.slice (some ⟨b, o, none⟩) n c) (some (.int .i64 (lo : Int))) none none).run Tryz.prog W = .ok (.slice (some ⟨b, o + lo, none⟩) (n - lo) (c - lo)) W := by
  obtain ⟨i, hi', hz⟩ := Option.map_eq_some_iff.1 info2s
  simp [Instr.sliceAt, Instr.slice, run_underlying Tryz.underlying106, Instr.sliceBounds, Instr.sliceBound, asIntOf, sizeOf, typeInfo, hi', hz, show lo ≤ n by omega, show ¬ c = lo by omega, Addr.add_mid]
theorem sliceI_to (b o n c hi : Nat) (h : hi ≤ c) (_h0 : 0 < c) (W : World) : (Instr.sliceAt 106 (.slice (some ⟨b, o, none⟩) n c) none (some (.int .i64 (hi : Int))) none).run Tryz.prog W = .ok (.slice (some ⟨b, o, none⟩) hi c) W := by
  obtain ⟨i, hi', hz⟩ := Option.map_eq_some_iff.1 info2s
  simp [Instr.sliceAt, Instr.slice, run_underlying Tryz.underlying106, Instr.sliceBounds, Instr.sliceBound, asIntOf, sizeOf, typeInfo, hi', h, Addr.add]
theorem x_slI {o : Oper} {a : Act} {x : Operand} {lo hi : Option Operand} {u v : Value} {w : World} (hop : o.op = .slice 106 x lo hi none) (hx : a.eval x = u) (h : (Instr.sliceAt 106 u (lo.map a.eval) (hi.map a.eval) none).run Tryz.prog w = .ok v w) : (execOp a.eval o).run Tryz.prog w = .ok (.value v) w := by
  unfold execOp
  simp only [hop, hx, Option.map_none, Sem.run_bind, h, Result.andThen_ok]
  rfl
/-- c numbers, the first m of which are laid. -/
def repTo (n : Int) (c m : Nat) : List Int := List.replicate m n ++ List.replicate (c - m) 0
theorem repTo_len (n : Int) (c m : Nat) (h : m ≤ c) : (repTo n c m).length = c := by simp [repTo]; omega
theorem repTo_more (n : Int) (c m k : Nat) (_h : m + k ≤ c) : (ci (repTo n c m)).take m ++ ci (List.replicate k n) ++ (ci (repTo n c m)).drop (m + k) = ci (repTo n c (m + k)) := by
  have h1 : (repTo n c m).take m = List.replicate m n := by simp [repTo]
  have h2 : (repTo n c m).drop (m + k) = List.replicate (c - (m + k)) 0 := by
    unfold repTo
    rw [List.drop_append]
    simp
    omega
  unfold ci
  rw [← List.map_take, ← List.map_drop, h1, h2, ← List.map_append, ← List.map_append]
  congr 1
  unfold repTo
  rw [List.replicate_append_replicate]
theorem x_copyI {o : Oper} {a : Act} {d s : Operand} {u v r : Value} {w w' : World} (hop : o.op = .call { callee := .builtin .copy, args := #[d, s], argTypes := #[106, 106] }) (hd : a.eval d = u) (hs : a.eval s = v) (h : ∀ ty, (Builtin.copy_ #[106, 106] ty #[u, v]).run Tryz.prog w = .ok r w') : (execOp a.eval o).run Tryz.prog w = .ok (.value r) w' := by
  simp [execOp, hop, resolve, invoke, builtin, hd, hs, h, Result.andThen]
def RepRel (n : Int) (c : Nat) (w : World) (m : Nat) (wr : World) : Prop := After w wr ∧ RowIs wr w.heap.size 2 (ci (repTo n c m))
theorem RepRel.more {n : Int} {c : Nat} {w wr : World} {m : Nat} (h : RepRel n c w m wr) (m' : Nat) : RepRel n c w m' (wr.setRow w.heap.size (ci (repTo n c m')).toArray) := ⟨Below.row h.1 (Nat.le_refl _) _, h.2.setRow _⟩
theorem copy_rep {n : Int} {c : Nat} {w : World} {g m k : Nat} (hr : RowIs w g 2 (ci (repTo n c m))) (hk : k = Nat.min m (c - m)) (hm : m ≤ c) (ty : TypeId) :
    (Builtin.copy_ #[106, 106] ty #[.slice (some ⟨g, 0 + m, none⟩) (c - m) (c - m), .slice (some ⟨g, 0, none⟩) m c]).run Tryz.prog w = .ok (.int .i64 (k : Int)) (w.setRow g (ci (repTo n c (m + k))).toArray) := by
  have hkm : k ≤ m := by rw [hk]; exact Nat.min_le_left _ _
  have hkc : k ≤ c - m := by rw [hk]; exact Nat.min_le_right _ _
  have h := run_copy_row (P := Tryz.prog) w 106 106 ty 2 g (0 + m) (c - m) (c - m) ⟨g, 0, none⟩ m c (ci (repTo n c m)).toArray 2 (ci (List.replicate k n)) Tryz.underlying106 info2s hr (by rw [ci_len, List.length_replicate, hk]) (fun j v hv => by
    have hj := (List.getElem?_eq_some_iff.1 hv).1
    rw [ci_len, List.length_replicate] at hj
    rw [ci_get _ j (by simpa using hj)] at hv
    rw [Addr.add_mid]
    have := hr.cell (j := 0 + j) (by rw [Nat.zero_add]; exact ci_get (repTo n c m) j (by rw [repTo_len n c m hm]; omega))
    rw [this, ← hv]
    congr 3
    simp [repTo, List.getElem?_append, show j < m by omega, hj]) (by simp [ci_len, repTo_len n c m hm]; omega) (ci_one _)
  rw [h]
  have e : (ci (repTo n c m)).take (0 + m) ++ ci (List.replicate k n) ++ (ci (repTo n c m)).drop (0 + m + k) = ci (repTo n c (m + k)) := by
    rw [Nat.zero_add]; exact repTo_more n c m k (by omega)
  rw [show (ci (List.replicate k n)).length = k by simp [ci_len]]
  exact congrArg (fun r : List Value => Result.ok (Value.int .i64 (k : Int)) (w.setRow g r.toArray)) e
theorem copy_first {n : Int} {c : Nat} {w : World} {g g0 : Nat} (hr : RowIs w g 2 (ci (repTo n c 0))) (h1 : 1 ≤ c) (hc : w.cell? ⟨g0, 0, none⟩ = some (.int .i64 n)) (ty : TypeId) :
    (Builtin.copy_ #[106, 106] ty #[.slice (some ⟨g, 0, none⟩) c c, .slice (some ⟨g0, 0, none⟩) 1 1]).run Tryz.prog w = .ok (.int .i64 1) (w.setRow g (ci (repTo n c 1)).toArray) := by
  have h := run_copy_row (P := Tryz.prog) w 106 106 ty 2 g 0 c c ⟨g0, 0, none⟩ 1 1 (ci (repTo n c 0)).toArray 2 (ci (List.replicate 1 n)) Tryz.underlying106 info2s hr (by rw [ci_len, List.length_replicate]; exact (Nat.min_eq_left h1).symm) (fun j v hv => by
    have hj := (List.getElem?_eq_some_iff.1 hv).1
    rw [ci_len, List.length_replicate] at hj
    obtain rfl : j = 0 := by omega
    cases hv
    exact hc) (by simp [ci_len, repTo_len n c 0 (by omega)]; omega) (ci_one _)
  rw [h]
  have e := repTo_more n c 0 1 (by omega)
  rw [show (ci (List.replicate 1 n)).length = 1 by simp [ci_len]]
  exact congrArg (fun r : List Value => Result.ok (Value.int .i64 1) (w.setRow g r.toArray)) e
theorem wpList_run {ops : Array Oper} {rest : List Oper} {o : Oper} {a : Act} {w : World} {Q : Exit → Act → World → Prop} (hg : o.guard = none) (v : Value) (w' : World) (hrun : (execOp a.eval o).run Tryz.prog w = .ok (.value v) w')
    (h : wpList Tryz.prog ops Q rest (a.put o.dst v) w') : wpList Tryz.prog ops Q (o :: rest) a w := wpList_plain hg fun K hK => by
  unfold Oper.wp
  rw [hrun]
  exact hK _ _ h
set_option maxRecDepth 100000 in
set_option maxHeartbeats 800000 in
theorem repeat_any (n : Int) (c : Nat) (h1 : 1 ≤ c) (h2 : c ≤ 1048576) (g0 : Nat) (w : World) (hc0 : w.cell? ⟨g0, 0, none⟩ = some (.int .i64 n)) :
    Calls Tryz.prog 151 #[.slice (some ⟨g0, 0, none⟩) 1 1, .int .i64 (c : Int)] w fun e w' => e = .returned (.slice (some ⟨w.heap.size, 0, none⟩) c c) ∧ RowIs w' w.heap.size 2 (ci (List.replicate c n)) ∧ After w w' := by
  have hmk := fun W => make_ints W c c (Nat.le_refl _) h2
  have R0 : Hid (RepRel n c w 0 (w.alloc (.cells (ci (List.replicate c 0)).toArray 2))) := ⟨after_alloc (After.refl w) _, by have := RowIs.new w 2 (ci (List.replicate c 0)); simpa [repTo] using this⟩
  have hlt := block_lt_of_cell hc0
  have HC1 : Hid (∀ ty, (Builtin.copy_ #[106, 106] ty #[.slice (some ⟨w.heap.size, 0, none⟩) c c, .slice (some ⟨g0, 0, none⟩) 1 1]).run Tryz.prog (w.alloc (.cells (ci (List.replicate c 0)).toArray 2)) = .ok (.int .i64 1) ((w.alloc (.cells (ci (List.replicate c 0)).toArray 2)).setRow w.heap.size (ci (repTo n c 1)).toArray)) := fun ty => copy_first R0.out.2 h1 (by rw [Below.cell R0.out.1 (p := ⟨g0, 0, none⟩) hlt]; exact hc0) ty
  have R1 : Hid (RepRel n c w 1 ((w.alloc (.cells (ci (List.replicate c 0)).toArray 2)).setRow w.heap.size (ci (repTo n c 1)).toArray)) := R0.out.more 1
  clear R0 hc0 hlt
  go_enter Tryz.func151, Tryz.ntmps151
  go_wp2_with (first
    | (go_at_call 154; refine (mul_one' c h2 _).mono ?_; rintro e w1 ⟨rfl, hw1⟩; have hw2 := hw1.symm; clear hw1; subst hw2)
    | (refine wpList_run rfl (.int .i64 1) _ (x_copyI (d := .tmp 31) (s := .tmp 32) rfl rfl rfl HC1.out) ?_))
  obtain ⟨G, HG⟩ : ∃ G, Hid (w.heap.size = G) := ⟨_, rfl⟩
  clear hmk HC1
  revert R1
  refine with_world (p := fun W => Hid (RepRel n c w 1 W) → Code.wp _ _ _ _ W) (fun _ => True) trivial ?_
  intro W1 _ R1
  rw [HG.out]
  go_loopw [8] (fun i wr => ∃ m : Nat, 1 ≤ m ∧ m ≤ c ∧ i = .int .i64 m ∧ RepRel n c w m wr) (fun i _ => c - (intOf i).toNat)
  case atStart => exact ⟨1, by omega, h1, rfl, R1.out⟩
  case round =>
    clear R1
    obtain ⟨m, hm1, hmc, rfl, hR⟩ := hrel
    by_cases hlt : m < c
    · obtain ⟨k, hkE⟩ : ∃ k, Nat.min m (c - m) = k := ⟨_, rfl⟩
      have hk1 : 1 ≤ k := by rw [← hkE]; exact Nat.le_min.2 ⟨hm1, by omega⟩
      have hk2 : k ≤ c - m := by rw [← hkE]; exact Nat.min_le_right _ _
      have HS1 : Hid (∀ W, (Instr.sliceAt 106 (.slice (some ⟨G, 0, none⟩) c c) (some (.int .i64 (m : Int))) none none).run Tryz.prog W = .ok (.slice (some ⟨G, 0 + m, none⟩) (c - m) (c - m)) W) := fun W => sliceI_from G 0 c c m hlt (Nat.le_refl _) W
      have HS2 : Hid (∀ W, (Instr.sliceAt 106 (.slice (some ⟨G, 0, none⟩) c c) none (some (.int .i64 (m : Int))) none).run Tryz.prog W = .ok (.slice (some ⟨G, 0, none⟩) m c) W) := fun W => sliceI_to G 0 c c m hmc (by omega) W
      have HCP : Hid (∀ ty, (Builtin.copy_ #[106, 106] ty #[.slice (some ⟨G, 0 + m, none⟩) (c - m) (c - m), .slice (some ⟨G, 0, none⟩) m c]).run Tryz.prog wr.drew = .ok (.int .i64 (k : Int)) (wr.drew.setRow G (ci (repTo n c (m + k))).toArray)) := fun ty => copy_rep (by rw [← HG.out]; exact hR.2) hkE.symm hmc ty
      have HWK : Hid (IntKind.i64.wrap ((m : Int) + (k : Int)) = ((m + k : Nat) : Int)) := by unfold Hid; rw [wrap_i64i]; unfold Leb.wrap64; omega
      have HN : Hid (RepRel n c w (m + k) (wr.drew.setRow G (ci (repTo n c (m + k))).toArray)) := by
        unfold Hid; rw [← HG.out]; exact RepRel.more ⟨hR.1.drew, hR.2⟩ _
      clear hR hkE
      go_wp2
      refine wp_region_noPanic ?_
      refine wp_region_held_drew (S := fun _ => True) (by kernel_rfl) trivial ?_
      intro _
      refine tk 0 38 (.int .i64 (m : Int)) (fuel := 9) rfl (by kernel_rfl) (by kernel_rfl) (by kernel_rfl) (by kernel_rfl) noPanic_false (by kernel_rfl) (fun _ _ => by kernel_rfl) trivial ?_
      refine tk 1 39 (.slice (some ⟨G, 0, none⟩) c c) (fuel := 8) rfl (by kernel_rfl) (by kernel_rfl) (by kernel_rfl) (by kernel_rfl) noPanic_false (by kernel_rfl) (fun _ _ => by kernel_rfl) trivial ?_
      refine tk 2 40 (.int .i64 (m : Int)) (fuel := 7) rfl (by kernel_rfl) (by kernel_rfl) (by kernel_rfl) (by kernel_rfl) noPanic_false (by kernel_rfl) (fun _ _ => by kernel_rfl) trivial ?_
      refine tk 3 41 (.slice (some ⟨G, 0 + m, none⟩) (c - m) (c - m)) (fuel := 6) rfl (by kernel_rfl) (by kernel_rfl) (by kernel_rfl) (by kernel_rfl) noPanic_false (by kernel_rfl) (fun W _ => x_slI (x := .tmp 39) (lo := some (.tmp 40)) (hi := none) (by kernel_rfl) (by kernel_rfl) (HS1.out W)) trivial ?_
      refine tk 4 42 (.slice (some ⟨G, 0, none⟩) c c) (fuel := 5) rfl (by kernel_rfl) (by kernel_rfl) (by kernel_rfl) (by kernel_rfl) noPanic_false (by kernel_rfl) (fun _ _ => by kernel_rfl) trivial ?_
      refine tk 5 43 (.int .i64 (m : Int)) (fuel := 4) rfl (by kernel_rfl) (by kernel_rfl) (by kernel_rfl) (by kernel_rfl) noPanic_false (by kernel_rfl) (fun _ _ => by kernel_rfl) trivial ?_
      refine tk 6 44 (.slice (some ⟨G, 0, none⟩) m c) (fuel := 3) rfl (by kernel_rfl) (by kernel_rfl) (by kernel_rfl) (by kernel_rfl) noPanic_false (by kernel_rfl) (fun W _ => x_slI (x := .tmp 42) (lo := none) (hi := some (.tmp 43)) (by kernel_rfl) (by kernel_rfl) (HS2.out W)) trivial ?_
      refine tkOne 7 45 (.int .i64 (k : Int)) (wr.drew.setRow G (ci (repTo n c (m + k))).toArray) (fuel := 2) rfl (by kernel_rfl) (by kernel_rfl) (by kernel_rfl) (x_copyI (d := .tmp 41) (s := .tmp 44) (by kernel_rfl) (by kernel_rfl) (by kernel_rfl) HCP.out) trivial ?_
      refine tk 8 46 (.int .i64 ((m + k : Nat) : Int)) (fuel := 1) rfl (by kernel_rfl) (by kernel_rfl) (by kernel_rfl) (by kernel_rfl) noPanic_false (by kernel_rfl) (fun _ _ => x_addi3 (x := .tmp 38) (y := .tmp 45) (by kernel_rfl) (by kernel_rfl) (by kernel_rfl) HWK.out) trivial ?_
      refine tk 9 8 (.int .i64 ((m + k : Nat) : Int)) (fuel := 0) rfl (by kernel_rfl) (by kernel_rfl) (by kernel_rfl) (by kernel_rfl) noPanic_false (by kernel_rfl) (fun _ _ => by kernel_rfl) trivial ?_
      refine wpAnyH_done (by kernel_rfl) (NoPanic.normal ?_) _
      go_simp
      go_wp2
      go_roundw
      case rel => exact ⟨m + k, by omega, by omega, by go_num, HN.out⟩
      case measure => simp [intOf]; omega
    · obtain rfl : m = c := by omega
      have HR : Hid (RepRel n m w m wr) := hR
      clear hR
      go_wp2
      go_ret
      refine ⟨by rw [HG.out]; rfl, by have := HR.out.2; simpa [repTo] using this, HR.out.1⟩
end Go.Proofs.YtgmdolpjkaajfaaGreatDoor
namespace Go.Proofs.YtgmdolpjkaajfaaGreatDoor
open Go.RowKit Leb
/-- What readLength tells, leaves. -/
def rlE (bs : List UInt8) (e room least : Nat) : Nat := if suE bs e room = 0 then (if suV bs e room < least then 4 else 0) else suE bs e room
def rlV (bs : List UInt8) (e room least : Nat) : Nat := if rlE bs e room least = 0 then suV bs e room else 0
theorem suV_le (bs : List UInt8) (e m : Nat) : suV bs e m ≤ m := by
  unfold suV
  split
  · unfold ruV
    split
    · rename_i h
      unfold ruE at h
      split at h
      · split at h
        · cases h
        · omega
      · omega
    · omega
  · omega
set_option maxRecDepth 100000 in
set_option maxHeartbeats 400000 in
theorem readLength_any (g : Nat) (bs : List UInt8) (e : Nat) (ao : Option Addr) (cap room least : Nat) (hr : room ≤ 1048576) (_hl : least ≤ 1) (w : World) (hR : Rd w g bs e ao cap) :
    Calls Tryz.prog 149 #[.pointer (some ⟨g, 0, none⟩), .int .i64 (room : Int), .int .i64 (least : Int)] w fun x w' => x = .returned (.tuple #[.int .i64 (rlV bs e room least : Int), .int .i64 (rlE bs e room least : Int)]) ∧ Nx g w ao (suB bs e room) (suE bs e room) w' := by
  have HC := show Hid _ from rUint_any g bs e ao cap room w hR
  have hvl := suV_le bs e room
  obtain ⟨v, hv⟩ : ∃ v, suV bs e room = v := ⟨_, rfl⟩
  obtain ⟨b2, hb2⟩ : ∃ v, suB bs e room = v := ⟨_, rfl⟩
  obtain ⟨e2, he2⟩ : ∃ v, suE bs e room = v := ⟨_, rfl⟩
  have HE : Hid (rlE bs e room least = if e2 = 0 then (if v < least then 4 else 0) else e2) := by unfold Hid rlE; rw [he2, hv]
  have HV : Hid (rlV bs e room least = if rlE bs e room least = 0 then v else 0) := by unfold Hid rlV; rw [hv]
  rw [hv] at hvl
  rw [hv, hb2, he2] at HC
  rw [hb2, he2]
  clear hv hb2 he2 hR
  by_cases h0 : e2 = 0
  · subst h0
    by_cases hlt : v < least
    · have e1 : rlE bs e room least = 4 := by rw [HE.out]; simp [hlt]
      have e2 : rlV bs e room least = 0 := by rw [HV.out, e1]; rfl
      rw [e1, e2]
      clear HE HV e1 e2
      go_enter Tryz.func149, Tryz.ntmps149
      go_wp2_with (first
        | (go_at_call 74; refine Calls.mono HC.out ?_; rintro x w1 ⟨rfl, hn1⟩; have HN := show Hid _ from hn1; obtain ⟨a1, c1, hr1, _, _⟩ := hn1; have HR1 := show Hid _ from hr1; clear hr1)
        | (go_at_call 78; refine (rErr_any g _ _ _ _ _ HR1.out).mono ?_; rintro x w2 ⟨rfl, hw2⟩; have hw3 := hw2.symm; clear hw2; subst hw3))
      go_ret2
      exact ⟨rfl, HN.out⟩
    · have e1 : rlE bs e room least = 0 := by rw [HE.out]; simp [hlt]
      have e2 : rlV bs e room least = v := by rw [HV.out, e1]; rfl
      rw [e1, e2]
      clear HE HV e1 e2
      go_enter Tryz.func149, Tryz.ntmps149
      go_wp2_with (first
        | (go_at_call 74; refine Calls.mono HC.out ?_; rintro x w1 ⟨rfl, hn1⟩; have HN := show Hid _ from hn1; obtain ⟨a1, c1, hr1, _, _⟩ := hn1; have HR1 := show Hid _ from hr1; clear hr1)
        | (go_at_call 78; refine (rErr_any g _ _ _ _ _ HR1.out).mono ?_; rintro x w2 ⟨rfl, hw2⟩; have hw3 := hw2.symm; clear hw2; subst hw3))
      go_ret2
      exact ⟨rfl, HN.out⟩
  · have e1 : rlE bs e room least = e2 := by rw [HE.out]; simp [h0]
    have e3 : rlV bs e room least = 0 := by rw [HV.out, e1]; simp [h0]
    rw [e1, e3]
    clear HE HV e1 e3
    go_enter Tryz.func149, Tryz.ntmps149
    go_wp2_with (first
      | (go_at_call 74; refine Calls.mono HC.out ?_; rintro x w1 ⟨rfl, hn1⟩; have HN := show Hid _ from hn1; obtain ⟨a1, c1, hr1, _, _⟩ := hn1; have HR1 := show Hid _ from hr1; clear hr1)
      | (go_at_call 78; refine (rErr_any g _ _ _ _ _ HR1.out).mono ?_; rintro x w2 ⟨rfl, hw2⟩; have hw3 := hw2.symm; clear hw2; subst hw3))
    go_ret2
    exact ⟨rfl, HN.out⟩
/-- A row of the call's own that holds numbers. -/
def OwnI (w : World) (base : Nat) (v : Value) (l : List Int) : Prop := w.ownsRow base 2 1 v l.length (ci l)
theorem OwnI.nil (w : World) (base : Nat) : OwnI w base (.slice none 0 0) [] := World.ownsRow_nil w base 2 1
theorem OwnI.keep {w w' : World} {B : Nat} {v : Value} {l : List Int} (h : OwnI w B v l) (hk : ∀ k, v.ownBlock = some k → w'.heap[k]? = w.heap[k]?) : OwnI w' B v l := by
  refine ⟨h.1, ?_⟩
  rcases h.2 with hn | ⟨g, cap, cur, rfl, h1, h2, rest⟩
  · exact .inl hn
  · exact .inr ⟨g, cap, cur, rfl, h1, by rw [hk g rfl]; exact h2, rest⟩
theorem OwnI.at {w : World} {base : Nat} {v : Value} {l : List Int} (h : OwnI w base v l) : ∃ ao cap, v = .slice ao l.length cap ∧ IntsAt w ao l ∧ l.length ≤ cap ∧ (∀ a, ao = some a → base ≤ a.block ∧ a.block < w.heap.size) := by
  have hlt := World.ownsRow.lt h
  have hc := fun g hg => World.ownsRow.cells (g := g) h hg
  rcases h.2 with ⟨rfl, h0⟩ | ⟨g, cap, cur, rfl, hb, hg, hnc, _, hcs, ht⟩
  · obtain rfl : l = [] := List.eq_nil_of_length_eq_zero h0
    exact ⟨none, 0, rfl, fun h => absurd rfl h, Nat.le_refl _, fun _ h => by cases h⟩
  · refine ⟨some ⟨g, 0, none⟩, cap, rfl, fun _ => ⟨g, 0, rfl, fun j hj => ?_⟩, hnc, fun a ha => ?_⟩
    · have := hc g rfl j _ (ci_get l j hj)
      rwa [Addr.add_mid] at this
    · cases ha; exact hlt g rfl
theorem ci_append (l m : List Int) : ci (l ++ m) = ci l ++ ci m := by simp [ci]
/-- append(own, xs...), xs a row that is known whole. -/
theorem wpList_append_ints {w : World} {ops : Array Oper} {rest : List Oper} {o : Oper} {a : Act} {Q : Exit → Act → World → Prop} (hgd : o.guard = none) (s x : Operand)
    (ho : o.op = .call { callee := .builtin .append, args := #[s, x], argTypes := #[106, 106] })
    (base : Nat) (v : Value) (l : List Int) (hs : a.eval s = v) (hown : OwnI w base v l)
    (ao : Addr) (c : Nat) (news : List Int) (k : Nat) (hk : news.length = k) (hx : a.eval x = .slice (some ao) k c) (hnews : ∀ j, j < news.length → w.cell? (ao.add j) = some (.int .i64 (news[j]?.getD 0)))
    (hbytes : l.length + news.length ≤ 1048576) (hbase : base ≤ w.heap.size)
    (h : ∀ v' w', OwnI w' base v' (l ++ news) → w.grownBy w' v.ownBlock → wpList Tryz.prog ops Q rest (a.put o.dst v') w') : wpList Tryz.prog ops Q (o :: rest) a w := by
  subst hk
  obtain ⟨i, hi, hz⟩ := Option.map_eq_some_iff.1 info2
  simp only [Prod.mk.injEq] at hz
  obtain ⟨hz, hsz, hby⟩ := hz
  refine wpList_append_own w hgd s x 106 ho base 2 i (.int .i64 0) 1 8 Tryz.underlying106 hi hz hsz hby rfl (by omega) v l.length (ci l) hs hown ao news.length c (ci news) hx (by simp [ci_len]) ?_ (ci_one _) (by unfold maxLen; omega) (by omega) hbase ?_
  · intro j u hu
    have hj := (List.getElem?_eq_some_iff.1 hu).1
    rw [ci_len] at hj
    rw [ci_get news j hj] at hu
    rw [hnews j hj, hu]
  · intro v' w' h1 h2 _
    exact h v' w' (by unfold OwnI; rw [ci_append, List.length_append]; exact h1) h2
/-- What readRuns makes of k runs more. -/
def rr (most : Nat) : Nat → List UInt8 → List Int → List Int × List UInt8 × Nat
  | 0, bs, acc => (acc, bs, 0)
  | k + 1, bs, acc =>
    if rlE bs 0 (most - acc.length) 1 = 0 then
      if siE (suB bs 0 (most - acc.length)) 0 = 0 then
        if acc ≠ [] ∧ siV (suB bs 0 (most - acc.length)) 0 = acc[acc.length - 1]?.getD 0 then ([], siB (suB bs 0 (most - acc.length)) 0, 4)
        else rr most k (siB (suB bs 0 (most - acc.length)) 0) (acc ++ List.replicate (rlV bs 0 (most - acc.length) 1) (siV (suB bs 0 (most - acc.length)) 0))
      else ([], siB (suB bs 0 (most - acc.length)) 0, siE (suB bs 0 (most - acc.length)) 0)
    else ([], suB bs 0 (most - acc.length), rlE bs 0 (most - acc.length) 1)
/-- The state of readRuns: the reader at block g, the numbers in a row of its own. -/
structure RRel (w : World) (g : Nat) (W : World) (bs : List UInt8) (ao : Option Addr) (cap : Nat) (v : Value) (acc : List Int) : Prop where
  rd : Rd W g bs 0 ao cap
  but : But g w W
  own : OwnI W w.heap.size v acc
  near : ∀ a, ao = some a → a.block < w.heap.size
theorem Nx.near {g B : Nat} {w w' : World} {ao : Option Addr} {bs : List UInt8} {e : Nat} (h : Nx g w ao bs e w') (hn : ∀ a, ao = some a → a.block < B) : ∃ ao' cap', Rd w' g bs e ao' cap' ∧ But g w w' ∧ ∀ a, ao' = some a → a.block < B := by
  obtain ⟨ao', cap', h1, h2, h3⟩ := h
  exact ⟨ao', cap', h1, h2, fun a ha => by obtain ⟨b, hb, he⟩ := h3 a ha; rw [← he]; exact hn b hb⟩
theorem OwnI.but {w w' : World} {g B : Nat} {v : Value} {l : List Int} (h : OwnI w B v l) (hb : But g w w') (hg : g < B) : OwnI w' B v l :=
  h.keep (fun k hk => hb.block k (World.ownsRow.lt h k hk).2 (by have := (World.ownsRow.lt h k hk).1; omega))
theorem RRel.grown {w w5 w6 : World} {g : Nat} {bs : List UInt8} {ao : Option Addr} {cap : Nat} {v v' : Value} {acc acc' : List Int} (hg : g < w.heap.size) (hrd : Rd w5 g bs 0 ao cap) (hbt : But g w w5) (hnr : ∀ a, ao = some a → a.block < w.heap.size) (ho5 : OwnI w5 w.heap.size v acc) (ho : OwnI w6 w.heap.size v' acc') (hgr : w5.grownBy w6 v.ownBlock) : RRel w g w6 bs ao cap v' acc' := by
  have hblk : ∀ k, k < w.heap.size → w6.heap[k]? = w5.heap[k]? := fun k hk => hgr.block k (Nat.lt_of_lt_of_le hk hbt.size) (fun e => by have := (World.ownsRow.lt ho5 k e.symm).1; omega)
  have hB : Below w.heap.size w5 w6 := ⟨hgr.os, hgr.tape, hgr.output, hgr.size, hblk⟩
  refine ⟨⟨hrd.row.below hB hg, hrd.at'.below hB (fun a ha _ => hnr a ha), hrd.cap, hrd.nil, hrd.apart⟩, ⟨hB.os.trans hbt.os, hB.tape.trans hbt.tape, hB.output.trans hbt.output, Nat.le_trans hbt.size hB.size, fun k hk hne => (hblk k hk).trans (hbt.block k hk hne)⟩, ho, hnr⟩
end Go.Proofs.YtgmdolpjkaajfaaGreatDoor
namespace Go.Proofs.YtgmdolpjkaajfaaGreatDoor
open Go.RowKit Leb
def readR (bs : List UInt8) (most : Nat) : List Int × List UInt8 × Nat :=
  if suE bs 0 most = 0 then rr most (suV bs 0 most) (suB bs 0 most) [] else ([], suB bs 0 most, suE bs 0 most)
/-- What readRuns leaves. -/
def RPost (w : World) (g : Nat) (R : List Int × List UInt8 × Nat) (x : Ending) (w' : World) : Prop :=
  ∃ v, x = .returned (.tuple #[v, .int .i64 (R.2.2 : Int)]) ∧ OwnI w' w.heap.size v R.1 ∧ But g w w' ∧ (R.2.2 = 0 → ∃ ao' cap', Rd w' g R.2.1 0 ao' cap')
theorem RPost.err {w w' : World} {g : Nat} {b : List UInt8} {E : Nat} (hE : ¬ E = 0) (hb : But g w w') : RPost w g ([], b, E) (.returned (.tuple #[.slice none 0 0, .int .i64 (E : Int)])) w' := ⟨_, rfl, OwnI.nil _ _, hb, fun h => absurd h hE⟩
theorem OwnI.cellAt {w : World} {B lb lo n c : Nat} {l : List Int} (h : OwnI w B (.slice (some ⟨lb, lo, none⟩) n c) l) (j : Nat) (hj : j < l.length) : w.cell? ⟨lb, lo + j, none⟩ = some (.int .i64 (l[j]?.getD 0)) := by
  obtain ⟨ao, cap, hv, hI, _, _⟩ := h.at
  simp only [Value.slice.injEq] at hv
  obtain ⟨b, o, he, hc⟩ := hI (by intro h; simp [h] at hj)
  rw [he] at hv
  obtain ⟨hv, _, _⟩ := hv
  cases hv
  exact hc j hj
set_option maxRecDepth 100000 in
set_option maxHeartbeats 3200000 in
theorem readRuns_any (g : Nat) (bs : List UInt8) (ao : Option Addr) (cap most : Nat) (hm : most ≤ 65536) (w : World) (hR : Rd w g bs 0 ao cap) (hnear : ∀ a, ao = some a → a.block < w.heap.size) :
    Calls Tryz.prog 147 #[.pointer (some ⟨g, 0, none⟩), .int .i64 (most : Int)] w fun x w' => RPost w g (readR bs most) x w' := by
  have hg : g < w.heap.size := hR.row.lt
  have HC := show Hid _ from rUint_any g bs 0 ao cap most w hR
  have hNl := suV_le bs 0 most
  obtain ⟨N, hN⟩ : ∃ v, suV bs 0 most = v := ⟨_, rfl⟩
  obtain ⟨b1, hb1⟩ : ∃ v, suB bs 0 most = v := ⟨_, rfl⟩
  obtain ⟨e1, he1⟩ : ∃ v, suE bs 0 most = v := ⟨_, rfl⟩
  have hN0 : ¬ e1 = 0 → N = 0 := fun h => by
    rw [← hN]; show ruV bs most = 0; unfold ruV; rw [if_neg (by rw [← he1] at h; exact h)]
  obtain ⟨R, HRR⟩ : ∃ R, Hid (readR bs most = R) := ⟨_, rfl⟩
  have HRD : Hid (R = if e1 = 0 then rr most N b1 [] else ([], b1, e1)) := by unfold Hid; rw [← HRR.out]; unfold readR; rw [he1, hN, hb1]
  rw [hN] at hNl
  rw [hN, hb1, he1] at HC
  rw [HRR.out]
  have HNE := show Hid _ from hnear
  clear hN hb1 he1 hR HRR hnear
  by_cases h0 : e1 = 0
  · subst h0
    have HR0 : Hid (rr most N b1 [] = R) := by unfold Hid; rw [HRD.out]; simp
    clear HRD hN0
    go_enter Tryz.func147, Tryz.ntmps147
    go_wp2_with (go_at_call 74; refine Calls.mono HC.out ?_; rintro x w1 ⟨rfl, hn1⟩; obtain ⟨a1, c1, hr1, hbt1, hnr1⟩ := Nx.near hn1 HNE.out; have HL0 : Hid (RRel w g w1 b1 a1 c1 (.slice none 0 0) []) := ⟨hr1, hbt1, OwnI.nil _ _, hnr1⟩; clear hn1 hr1 hbt1 hnr1)
    go_loopw [6, 15] (fun v i wr => ∃ (k : Nat) (b : List UInt8) (ax : Option Addr) (cx : Nat) (acc : List Int), k ≤ N ∧ i = .int .u64 k ∧ RRel w g wr b ax cx v acc ∧ acc.length ≤ most ∧ rr most (N - k) b acc = R) (fun _ i _ => N - (intOf i).toNat)
    case atStart => exact ⟨0, b1, a1, c1, [], by omega, rfl, HL0.out, by simp, HR0.out⟩
    case round =>
      clear HL0 HR0
      obtain ⟨k, b, ax, cx, acc, hk, rfl, hrel, hacc, hspec⟩ := hrel
      by_cases hkN : k < N
      · obtain ⟨va, vc, rfl, hint, hvc, hvl⟩ := hrel.own.at
        obtain ⟨room, hroom⟩ : ∃ r, most - acc.length = r := ⟨_, rfl⟩
        rw [show N - k = (N - (k + 1)) + 1 by omega, rr, hroom] at hspec
        have C45 := show Hid _ from readLength_any g b 0 ax cx room 1 (by omega) (Nat.le_refl _) wr hrel.rd
        obtain ⟨V, hV⟩ : ∃ v, rlV b 0 room 1 = v := ⟨_, rfl⟩
        obtain ⟨E, hE⟩ : ∃ v, rlE b 0 room 1 = v := ⟨_, rfl⟩
        obtain ⟨b2, hb2⟩ : ∃ v, suB b 0 room = v := ⟨_, rfl⟩
        obtain ⟨e2, he2⟩ : ∃ v, suE b 0 room = v := ⟨_, rfl⟩
        have hE2 : E = 0 → e2 = 0 ∧ 1 ≤ V ∧ V ≤ room := fun h => by
          have h1 := suV_le b 0 room
          rw [← hE] at h
          have h2 : rlV b 0 room 1 = suV b 0 room := by unfold rlV; rw [if_pos h]
          unfold rlE at h
          rw [← he2, ← hV, h2]
          split at h
          · split at h
            · cases h
            · rename_i h3 h4; exact ⟨h3, by omega, h1⟩
          · omega
        rw [hV, hE, hb2, he2] at C45
        rw [hE, hb2, hV] at hspec
        have HRL := show Hid _ from hrel
        have HSP := show Hid _ from hspec
        have HKN : Hid (k + 1 ≤ N) := hkN
        have hxl : (acc.length : Int) ≤ (most : Int) := by omega
        have hroomI : (most : Int) - (acc.length : Int) = (room : Int) := by omega
        have HACC : Hid (acc.length + room = most) := by unfold Hid; omega
        clear hV hE hb2 he2 hrel hspec hvl hvc
        by_cases hE0 : E = 0
        · obtain ⟨h20, hV1, hVr⟩ := hE2 hE0
          subst hE0 h20
          have HSPx := show Hid _ from (if_pos rfl).symm.trans HSP.out
          clear HSP
          have HSP := HSPx
          clear HSPx
          have C48 : Hid (∀ W c2 a2, Rd W g b2 0 a2 c2 → _) := fun W c2 a2 h => rInt_any g b2 0 a2 c2 W h
          obtain ⟨n, hn⟩ : ∃ v, siV b2 0 = v := ⟨_, rfl⟩
          obtain ⟨b3, hb3⟩ : ∃ v, siB b2 0 = v := ⟨_, rfl⟩
          obtain ⟨e3, he3⟩ : ∃ v, siE b2 0 = v := ⟨_, rfl⟩
          simp only [hn, hb3, he3] at C48
          rw [hn, hb3, he3] at HSP
          clear hn hb3 he3 hE2
          by_cases he3 : e3 = 0
          · subst he3
            have HSPx := show Hid _ from (if_pos rfl).symm.trans HSP.out
            clear HSP
            have HSP := HSPx
            clear HSPx
            by_cases hae : acc = []
            · subst hae
              have hrm : room = most := by have := HACC.out; simpa using this
              subst hrm
              clear hroomI hxl
              have h := HSP.out
              rw [if_neg (by simp)] at h
              have HSP2 := show Hid _ from h
              clear HSP h
              go_wp2_with (first
                | (go_at_call 149; refine Calls.mono C45.out ?_; rintro x w2 ⟨rfl, hn2⟩; obtain ⟨a2, c2, hr2, hbt2, hnr2⟩ := Nx.near hn2 HRL.out.near; have HB2 : Hid (But g w w2) := HRL.out.but.trans hbt2; have HO2 : Hid (OwnI w2 w.heap.size (.slice va 0 vc) []) := OwnI.but HRL.out.own hbt2 hg; have HRd2 := show Hid (Rd w2 g b2 0 a2 c2) from hr2; clear hn2 hr2 hbt2)
                | (go_at_call 150; refine Calls.mono (C48.out _ c2 a2 HRd2.out) ?_; rintro x w3 ⟨rfl, hn3⟩; obtain ⟨a3, c3, hr3, hbt3, hnr3⟩ := Nx.near hn3 hnr2; have HB3 : Hid (But g w w3) := HB2.out.trans hbt3; have HO3 : Hid (OwnI w3 w.heap.size (.slice va 0 vc) []) := OwnI.but HO2.out hbt3 hg; have HRd3 := show Hid (Rd w3 g b3 0 a3 c3) from hr3; clear hn3 hr3 hbt3)
                | (go_at_call 78; refine (rErr_any g b3 0 a3 c3 _ HRd3.out).mono ?_; rintro x w4 ⟨rfl, hw4⟩; have hw5 := hw4.symm; clear hw4; subst hw5)
                | (go_at_call 151; refine (repeat_any n V hV1 (by omega) w3.heap.size _ (box_cell w3 _ _)).mono ?_; rintro x w5 ⟨rfl, hrow5, hA5⟩; have hA35 : After w3 w5 := (after_alloc (After.refl w3) _).trans hA5; have HO5 : Hid (OwnI w5 w.heap.size (.slice va 0 vc) []) := OwnI.keep HO3.out (fun j hj => hA35.block j (World.ownsRow.lt HO3.out j hj).2); have HB5 : Hid (But g w w5) := HB3.out.trans (But.of_below hA35); have HRd5 := show Hid (Rd w5 g b3 0 a3 c3) from Rd.after HRd3.out hA35; have HROW := show Hid (RowIs w5 (w3.heap.size + 1) 2 (ci (List.replicate V n))) from (by have := hrow5; rw [show (w3.alloc (.cells #[.int .i64 n] 2)).heap.size = w3.heap.size + 1 by simp] at this; exact this); have hsz5 : w.heap.size ≤ w5.heap.size := HB5.out.size; clear hrow5 hA5 hA35)
                | (at_builtin; refine wpList_append_ints rfl (.tmp 49) (.tmp 53) rfl w.heap.size _ [] rfl HO5.out ⟨w3.heap.size + 1, 0, none⟩ V (List.replicate V n) V (by simp) rfl (fun j hj => by rw [Addr.add_mid, Nat.zero_add]; exact RowIs.cell HROW.out (ci_get _ j hj)) (by have := HACC.out; rw [List.length_replicate]; omega) hsz5 ?_; intro v6 w6 ho6 hg6; have HR6 := show Hid (RRel w g w6 b3 a3 c3 v6 ([] ++ List.replicate V n)) from RRel.grown hg HRd5.out HB5.out hnr3 HO5.out ho6 hg6; clear ho6 hg6))
              go_roundw
              case rel => exact ⟨k + 1, b3, a3, c3, _, HKN.out, by go_num, HR6.out, by have := HACC.out; simp at this ⊢; omega, HSP2.out⟩
              case measure => have := HKN.out; simp [intOf]; omega
            · obtain ⟨q, hq⟩ : ∃ q, acc.length = q + 1 := ⟨acc.length - 1, by have : acc.length ≠ 0 := fun h => hae (List.eq_nil_of_length_eq_zero h); omega⟩
              have HANE : Hid (acc ≠ []) := hae
              obtain ⟨lb, lo, rfl, _⟩ := hint hae
              have HQ : Hid (acc.length = q + 1) := hq
              obtain ⟨y, hy⟩ : ∃ y, acc[acc.length - 1]?.getD 0 = y := ⟨_, rfl⟩
              rw [hy] at HSP
              rw [hq, show q + 1 - 1 = q by omega] at hy
              have HY := show Hid (acc[q]?.getD 0 = y) from hy
              rw [hq] at HACC HRL ⊢
              have hroomJ : (most : Int) - ((q : Int) + 1) = (room : Int) := by rw [hq] at hroomI; omega
              have hqm : (q : Int) + 1 ≤ (most : Int) := by rw [hq] at hxl; omega
              clear hq hy hroomI hxl
              by_cases hny : n = y
              · subst hny
                have h := HSP.out
                rw [if_pos ⟨hae, rfl⟩] at h
                have HSP2 := show Hid _ from h
                clear HSP h hae
                go_wp2_with (first
                  | (go_at_call 149; refine Calls.mono C45.out ?_; rintro x w2 ⟨rfl, hn2⟩; obtain ⟨a2, c2, hr2, hbt2, hnr2⟩ := Nx.near hn2 HRL.out.near; have HB2 : Hid (But g w w2) := HRL.out.but.trans hbt2; have HO2 : Hid (OwnI w2 w.heap.size (.slice (some ⟨lb, lo, none⟩) (q + 1) vc) acc) := OwnI.but HRL.out.own hbt2 hg; have HRd2 := show Hid (Rd w2 g b2 0 a2 c2) from hr2; clear hn2 hr2 hbt2)
                  | (go_at_call 150; refine Calls.mono (C48.out _ c2 a2 HRd2.out) ?_; rintro x w3 ⟨rfl, hn3⟩; obtain ⟨a3, c3, hr3, hbt3, hnr3⟩ := Nx.near hn3 hnr2; have HB3 : Hid (But g w w3) := HB2.out.trans hbt3; have HO3 : Hid (OwnI w3 w.heap.size (.slice (some ⟨lb, lo, none⟩) (q + 1) vc) acc) := OwnI.but HO2.out hbt3 hg; have HRd3 := show Hid (Rd w3 g b3 0 a3 c3) from hr3; clear hn3 hr3 hbt3; have hcl : w3.cell? ⟨lb, lo + q, none⟩ = some (.int .i64 n) := (by have := OwnI.cellAt HO3.out q (by have := HQ.out; omega); rw [HY.out] at this; exact this))
                  | (go_at_call 78; refine (rErr_any g b3 0 a3 c3 _ HRd3.out).mono ?_; rintro x w4 ⟨rfl, hw4⟩; have hw5 := hw4.symm; clear hw4; subst hw5))
                go_ret2
                rw [← HSP2.out]
                exact RPost.err (by decide) HB3.out
              · have h := HSP.out
                rw [if_neg (fun h => hny h.2)] at h
                have HSP2 := show Hid _ from h
                have hnyb : (n == y) = false := by simpa using hny
                clear HSP h hae
                go_wp2_with (first
                  | (go_at_call 149; refine Calls.mono C45.out ?_; rintro x w2 ⟨rfl, hn2⟩; obtain ⟨a2, c2, hr2, hbt2, hnr2⟩ := Nx.near hn2 HRL.out.near; have HB2 : Hid (But g w w2) := HRL.out.but.trans hbt2; have HO2 : Hid (OwnI w2 w.heap.size (.slice (some ⟨lb, lo, none⟩) (q + 1) vc) acc) := OwnI.but HRL.out.own hbt2 hg; have HRd2 := show Hid (Rd w2 g b2 0 a2 c2) from hr2; clear hn2 hr2 hbt2)
                  | (go_at_call 150; refine Calls.mono (C48.out _ c2 a2 HRd2.out) ?_; rintro x w3 ⟨rfl, hn3⟩; obtain ⟨a3, c3, hr3, hbt3, hnr3⟩ := Nx.near hn3 hnr2; have HB3 : Hid (But g w w3) := HB2.out.trans hbt3; have HO3 : Hid (OwnI w3 w.heap.size (.slice (some ⟨lb, lo, none⟩) (q + 1) vc) acc) := OwnI.but HO2.out hbt3 hg; have HRd3 := show Hid (Rd w3 g b3 0 a3 c3) from hr3; clear hn3 hr3 hbt3; have hcl : w3.cell? ⟨lb, lo + q, none⟩ = some (.int .i64 y) := (by have := OwnI.cellAt HO3.out q (by have := HQ.out; omega); rw [HY.out] at this; exact this))
                  | (go_at_call 78; refine (rErr_any g b3 0 a3 c3 _ HRd3.out).mono ?_; rintro x w4 ⟨rfl, hw4⟩; have hw5 := hw4.symm; clear hw4; subst hw5)
                  | (go_at_call 151; refine (repeat_any n V hV1 (by omega) w3.heap.size _ (box_cell w3 _ _)).mono ?_; rintro x w5 ⟨rfl, hrow5, hA5⟩; have hA35 : After w3 w5 := (after_alloc (After.refl w3) _).trans hA5; have HO5 : Hid (OwnI w5 w.heap.size (.slice (some ⟨lb, lo, none⟩) (q + 1) vc) acc) := OwnI.keep HO3.out (fun j hj => hA35.block j (World.ownsRow.lt HO3.out j hj).2); have HB5 : Hid (But g w w5) := HB3.out.trans (But.of_below hA35); have HRd5 := show Hid (Rd w5 g b3 0 a3 c3) from Rd.after HRd3.out hA35; have HROW := show Hid (RowIs w5 (w3.heap.size + 1) 2 (ci (List.replicate V n))) from (by have := hrow5; rw [show (w3.alloc (.cells #[.int .i64 n] 2)).heap.size = w3.heap.size + 1 by simp] at this; exact this); have hsz5 : w.heap.size ≤ w5.heap.size := HB5.out.size; clear hrow5 hA5 hA35)
                  | (at_builtin; refine wpList_append_ints rfl (.tmp 49) (.tmp 53) rfl w.heap.size _ acc rfl HO5.out ⟨w3.heap.size + 1, 0, none⟩ V (List.replicate V n) V (by simp) rfl (fun j hj => by rw [Addr.add_mid, Nat.zero_add]; exact RowIs.cell HROW.out (ci_get _ j hj)) (by have := HACC.out; have := HQ.out; rw [List.length_replicate]; omega) hsz5 ?_; intro v6 w6 ho6 hg6; have HR6 := show Hid (RRel w g w6 b3 a3 c3 v6 (acc ++ List.replicate V n)) from RRel.grown hg HRd5.out HB5.out hnr3 HO5.out ho6 hg6; clear ho6 hg6))
                go_roundw
                case rel => exact ⟨k + 1, b3, a3, c3, _, HKN.out, by go_num, HR6.out, by have := HACC.out; have := HQ.out; simp; omega, HSP2.out⟩
                case measure => have := HKN.out; simp [intOf]; omega
          · have h := HSP.out
            rw [if_neg he3] at h
            have HSP2 := show Hid _ from h
            clear HSP h
            go_wp2_with (first
              | (go_at_call 149; refine Calls.mono C45.out ?_; rintro x w2 ⟨rfl, hn2⟩; obtain ⟨a2, c2, hr2, hbt2, hnr2⟩ := Nx.near hn2 HRL.out.near; have HB2 : Hid (But g w w2) := HRL.out.but.trans hbt2; have HO2 : Hid (OwnI w2 w.heap.size (.slice va acc.length vc) acc) := OwnI.but HRL.out.own hbt2 hg; have HRd2 := show Hid (Rd w2 g b2 0 a2 c2) from hr2; clear hn2 hr2 hbt2)
              | (go_at_call 150; refine Calls.mono (C48.out _ c2 a2 HRd2.out) ?_; rintro x w3 ⟨rfl, hn3⟩; obtain ⟨a3, c3, hr3, hbt3, hnr3⟩ := Nx.near hn3 hnr2; have HB3 : Hid (But g w w3) := HB2.out.trans hbt3; have HO3 : Hid (OwnI w3 w.heap.size (.slice va acc.length vc) acc) := OwnI.but HO2.out hbt3 hg; have HRd3 := show Hid (Rd w3 g b3 e3 a3 c3) from hr3; clear hn3 hr3 hbt3)
              | (go_at_call 78; refine (rErr_any g b3 e3 a3 c3 _ HRd3.out).mono ?_; rintro x w4 ⟨rfl, hw4⟩; have hw5 := hw4.symm; clear hw4; subst hw5))
            go_ret2
            rw [← HSP2.out]
            exact RPost.err he3 HB3.out
        · go_wp2_with (go_at_call 149; refine Calls.mono C45.out ?_; rintro x w2 ⟨rfl, hn2⟩; obtain ⟨a2, c2, hr2, hbt2, hnr2⟩ := Nx.near hn2 HRL.out.near; have HB2 : Hid (But g w w2) := HRL.out.but.trans hbt2; clear hn2 hr2 hbt2 hnr2)
          go_ret2
          have h := HSP.out
          rw [if_neg hE0] at h
          rw [← h]
          exact RPost.err hE0 HB2.out
      · obtain rfl : k = N := by omega
        rw [Nat.sub_self] at hspec
        have HSP := show Hid ((acc, b, 0) = R) from hspec
        have HRL := show Hid _ from hrel
        clear hspec hrel
        go_wp2_with (go_at_call 78; refine (rErr_any g b 0 ax cx _ HRL.out.rd).mono ?_; rintro x w4 ⟨rfl, hw4⟩; have hw5 := hw4.symm; clear hw4; subst hw5)
        go_ret2
        rw [← HSP.out]
        exact ⟨_, rfl, HRL.out.own, HRL.out.but, fun _ => ⟨_, _, HRL.out.rd⟩⟩
  · have hz := hN0 h0
    subst hz
    have HR1 : Hid (([], b1, e1) = R) := by unfold Hid; rw [HRD.out, if_neg h0]
    clear HRD hN0
    go_enter Tryz.func147, Tryz.ntmps147
    go_wp2_with (go_at_call 74; refine Calls.mono HC.out ?_; rintro x w1 ⟨rfl, hn1⟩; obtain ⟨a1, c1, hr1, hbt1, hnr1⟩ := Nx.near hn1 HNE.out; have HRd1 := show Hid (Rd w1 g b1 e1 a1 c1) from hr1; have HB1 := show Hid (But g w w1) from hbt1; clear hn1 hr1 hbt1 hnr1)
    go_loopw [6, 15] (fun v i wr => v = .slice none 0 0 ∧ i = .int .u64 0 ∧ wr = w1) (fun _ _ _ => 0)
    case atStart => exact ⟨rfl, rfl, rfl⟩
    case round =>
      obtain ⟨rfl, rfl, rfl⟩ := hrel
      go_wp2_with (go_at_call 78; refine (rErr_any g b1 e1 a1 c1 _ HRd1.out).mono ?_; rintro x w4 ⟨rfl, hw4⟩; have hw5 := hw4.symm; clear hw4; subst hw5)
      go_ret2
      rw [← HR1.out]
      exact RPost.err h0 HB1.out
end Go.Proofs.YtgmdolpjkaajfaaGreatDoor
