/-
  THE RUNS OF A LIST, AND THE ITERATOR runsOf[int64].
-/
import Derived.Test.YtpplnomomcdemaaMethods
import Derived.Test.YtpplnomomcdemaaRefInt
import Derived.RangeFuncNested
import Derived.RangeFuncBox
import Derived.RangeFuncBound
import Derived.RangeFuncCalls
import Derived.RangeFuncLeaves
import Derived.Shelf.Abstract
import Derived.Shelf.RegionOpen
import Derived.OwnWalkIn
import Derived.TacticsInMore
import Derived.LoopNIn
import Derived.LoopIn
import Derived.Maps.AppendAt
namespace Go.Proofs.Ytpplnomomcdemaa
open Go.RowKit Go.Shelf Leb
attribute [local go_sem] Oper.semAt_some
/-- The greatest stretches of one and the same thing. -/
def runs {α : Type} [DecidableEq α] : List α → List (α × Nat)
  | [] => []
  | x :: xs => match runs xs with
    | [] => [(x, 1)]
    | (y, n) :: r => if x = y then (y, n + 1) :: r else (x, 1) :: (y, n) :: r
theorem runs_nil_iff {α : Type} [DecidableEq α] : ∀ l : List α, runs l = [] ↔ l = []
  | [] => by simp [runs]
  | x :: xs => by
    simp only [runs, reduceCtorEq, iff_false]
    split
    · simp
    · split <;> simp
theorem runs_len {α : Type} [DecidableEq α] : ∀ l : List α, (runs l).length ≤ l.length
  | [] => by simp [runs]
  | x :: xs => by
    have ih := runs_len xs
    simp only [runs]
    split
    · simp
    · rename_i y n r h
      rw [h] at ih
      split <;> simp at ih ⊢ <;> omega
theorem runs_rep {α : Type} [DecidableEq α] (x : α) : ∀ n, runs (List.replicate (n + 1) x) = [(x, n + 1)]
  | 0 => by simp [runs]
  | n + 1 => by
    rw [List.replicate_succ, runs, runs_rep x n]
    simp
theorem runs_snoc {α : Type} [DecidableEq α] (x : α) (n : Nat) : ∀ a : List α, (∀ y, a.getLast? = some y → y ≠ x) → runs (a ++ List.replicate (n + 1) x) = runs a ++ [(x, n + 1)]
  | [], _ => by simp [runs, runs_rep]
  | [y], h => by
    have hy : y ≠ x := h y (by simp)
    rw [List.singleton_append, runs, runs_rep]
    simp [runs, hy]
  | y :: z :: a, h => by
    have ih := runs_snoc x n (z :: a) (fun w hw => h w (by rw [List.getLast?_cons_cons]; exact hw))
    rw [List.cons_append, runs, ih]
    show _ = runs (y :: (z :: a)) ++ _
    conv => rhs; rw [runs]
    cases hr : runs (z :: a) with
    | nil => exact absurd ((runs_nil_iff _).1 hr) (by simp)
    | cons p r =>
      obtain ⟨u, m⟩ := p
      simp only [List.cons_append]
      split <;> simp
/-- A stretch from s to i. -/
theorem runs_stretch {α : Type} [DecidableEq α] (l : List α) (d : α) (s i : Nat) (hs : s ≤ i) (hi : i < l.length) (hsame : ∀ j, s ≤ j → j ≤ i → l[j]?.getD d = l[s]?.getD d) (hb : 0 < s → l[s - 1]?.getD d ≠ l[s]?.getD d) :
    runs (l.take (i + 1)) = runs (l.take s) ++ [(l[s]?.getD d, i + 1 - s)] := by
  have e : l.take (i + 1) = l.take s ++ List.replicate (i - s + 1) (l[s]?.getD d) := by
    apply List.ext_getElem
    · simp; omega
    · intro j h1 h2
      simp only [List.length_take] at h1
      by_cases hj : j < s
      · rw [List.getElem_append_left (by simp; omega)]
        simp
      · rw [List.getElem_append_right (by simp; omega)]
        have := hsame j (by omega) (by omega)
        simp [List.getElem?_eq_getElem (show j < l.length by omega)] at this
        simp [this]
  rw [e, runs_snoc _ _ _ (fun y hy => ?_), show i - s + 1 = i + 1 - s by omega]
  intro he
  subst he
  rw [List.getLast?_take] at hy
  split at hy
  · cases hy
  · rename_i h0
    have h1 := hb (by omega)
    apply h1
    rw [List.getElem?_eq_getElem (show s - 1 < l.length by omega)] at hy ⊢
    simpa using hy
abbrev RunI := { x : Int × Nat // -9223372036854775808 ≤ x.1 ∧ x.1 ≤ 9223372036854775807 ∧ x.2 ≤ 1048576 }
/-- A slice of int64. -/
def IntsAt (w : World) (ao : Option Addr) (l : List Int) : Prop := l ≠ [] → ∃ b o, ao = some ⟨b, o, none⟩ ∧ ∀ j, j < l.length → w.cell? ⟨b, o + j, none⟩ = some (.int .i64 (l[j]?.getD 0))
theorem runsOfI_any (v : Value) (w : World) (hv : ∃ a n c, v = .slice a n c) : CallsIn Fence.wide 3 Try.prog 61 #[v] w fun e w' => e = .returned (.func (.func 70) #[] #[.pointer (some ⟨w.heap.size, 0, none⟩)]) ∧ w' = w.alloc (.cells #[v] 46) := by
  obtain ⟨a, n, c, rfl⟩ := hv
  refine callsIn_of_wp Try.func61 rfl trivial ?_ rfl
  simp only [Try.ntmps61, List.size_toArray, List.length_cons, List.length_nil, Nat.reduceAdd, Nat.reduceSub, Array.replicate_succ, Array.replicate_zero, List.push_toArray, List.append_toArray, List.nil_append, List.cons_append]
  gi_wp2
  go_ret
  exact ⟨rfl, rfl⟩
section
variable {ops : Array Oper} {Q : Exit → Act → World → Prop} {F : Fence} {n fuel : Nat} {listed : Array Bool} {a : Act} {w : World} {oi : Oper} {K : Act → World → Prop}
/-- In a fence: number i comes up and yields v. -/
theorem opValIn (i d : Nat) (v : Value) (w' : World) (hi : ops[i]? = some oi) (hd : oi.dst = some d) (hw : Region.wanted oi (yielded ops a.tmps) = true) (hF : ∀ f, F.fn f) (hsem : oi.semAt F.round a.eval = execOp a.eval oi)
    (hrun : (execOp a.eval oi).run Try.prog w = .ok (.value v) w') (h : K (a.put (some d) v) w') : wpOpIn F n Try.prog ops Q i K a w := by
  refine wpOpIn_step hi (fun K' hK => ?_)
  rw [if_pos hw]
  refine ⟨fun f _ => hF f, ?_⟩
  rw [hsem, hrun, Oper.uponIn_value, hd]
  exact hK _ _ h
/-- In a fence: number i, which alone may come up, yields v. -/
theorem oneIn (i d : Nat) (v : Value) (w' : World) (hi : ops[i]? = some oi) (hd : oi.dst = some d) (hr : Region.ready .any ops listed = [i]) (hw : Region.wanted oi (yielded ops a.tmps) = true) (hF : ∀ f, F.fn f) (hsem : oi.semAt F.round a.eval = execOp a.eval oi)
    (hrun : (execOp a.eval oi).run Try.prog w = .ok (.value v) w') (h : wpAnyIn F n Try.prog .any ops Q fuel (listed.setIfInBounds i true) (a.put (some d) v) w') : wpAnyIn F n Try.prog .any ops Q (fuel + 1) listed a w :=
  wpAnyIn_all hr (by simp) (fun j hj => by
    obtain rfl : j = i := by simpa using hj
    exact opValIn j d v w' hi hd hw hF hsem hrun h)
/-- In a fence, outside rounds: number i is taken first. -/
theorem tkIn (i d : Nat) (v : Value) (hro : F.round = none) (hi : ops[i]? = some oi) (hd : oi.dst = some d) (hs : Region.noSelect ops = true) (hf : Region.free .any ops listed i = true) (hr : (Region.ready .any ops listed).contains i = true)
    (hQ : ∀ c a w, Q (.panic c) a w → False) (hab : ∀ w, oi.about Try.prog w a.eval = none) (hw : Region.wanted oi (yielded ops a.tmps) = true) (hx : ∀ w, (execOp a.eval oi).run Try.prog w = .ok (.value v) w)
    (h : wpAnyIn F n Try.prog .any ops Q fuel (listed.setIfInBounds i true) (a.put (some d) v) w) : wpAnyIn F n Try.prog .any ops Q (fuel + 1) listed a w :=
  wpAnyIn_take hro hi hs hf hr (fun c a w h => (hQ c _ w h).elim) ⟨.inl ⟨hw, hx⟩, hab⟩ (by rw [hd]; exact h)
theorem tkInSkip (i d : Nat) (hro : F.round = none) (hi : ops[i]? = some oi) (hd : oi.dst = some d) (hs : Region.noSelect ops = true) (hf : Region.free .any ops listed i = true) (hr : (Region.ready .any ops listed).contains i = true)
    (hQ : ∀ c a w, Q (.panic c) a w → False) (hab : ∀ w, oi.about Try.prog w a.eval = none) (hw : Region.wanted oi (yielded ops a.tmps) = false)
    (h : wpAnyIn F n Try.prog .any ops Q fuel (listed.setIfInBounds i true) (a.put (some d) undef) w) : wpAnyIn F n Try.prog .any ops Q (fuel + 1) listed a w :=
  wpAnyIn_take hro hi hs hf hr (fun c a w h => (hQ c _ w h).elim) ⟨.inr ⟨hw, rfl⟩, hab⟩ (by rw [hd]; exact h)
theorem wpIn_region_noPanic {id : Nat} {b : Bool} (h : (Code.region id ops b).wpIn F n Try.prog (NoPanic Q) a w) : (Code.region id ops b).wpIn F n Try.prog Q a w :=
  Code.wpIn_mono NoPanic.imp h
end
theorem x_addi3 {o : Oper} {a : Act} {x y : Operand} {p q r : Int} {w : World} (hop : o.op = .binOp .add 3 x y 3) (hx : a.eval x = .int .i64 p) (hy : a.eval y = .int .i64 q) (h : IntKind.i64.wrap (p + q) = r) : (execOp a.eval o).run Try.prog w = .ok (.value (.int .i64 r)) w := by
  unfold execOp
  simp only [hop, hx, hy]
  rw [← h]
  simp [go_sem]
theorem x_lssf {o : Oper} {a : Act} {x y : Operand} {p : Int} {w : World} (hop : o.op = .binOp .lss 3 x y 3) (hx : a.eval x = .int .i64 p) (hy : a.eval y = .int .i64 p) : (execOp a.eval o).run Try.prog w = .ok (.value (.bool false)) w := by
  unfold execOp
  simp only [hop, hx, hy]
  simp [go_sem]
theorem x_loadT {o : Oper} {a : Act} {x : Operand} {t : TypeId} {ds : TypeDesc} {g j : Nat} {v : Value} {w : World} (hu : Try.prog.underlying t = some ds) (hd : ds.isRow = false) (hop : o.op = .load t x) (hx : a.eval x = .pointer (some ⟨g, j, none⟩)) (h : w.cell? ⟨g, j, none⟩ = some v) : (execOp a.eval o).run Try.prog w = .ok (.value v) w := by
  have hag : (isAgg t).run Try.prog w = .ok false w := by
    unfold isAgg; rw [Sem.run_bind, run_underlying hu w]
    cases ds <;> first | rfl | simp [TypeDesc.isRow] at hd
  unfold execOp
  simp only [hop, hx, Instr.loadAt, Instr.sureAddr, Sem.run_bind, Sem.run_pure, Result.andThen_ok, loadVar, hag]
  simp [h, go_sem]
theorem runI_ok (l : List Int) (hl : ∀ x ∈ l, -9223372036854775808 ≤ x ∧ x ≤ 9223372036854775807) (hn : l.length ≤ 1048576) (s i : Nat) (hi : i < l.length) (hs : s ≤ i) : -9223372036854775808 ≤ l[s]?.getD 0 ∧ l[s]?.getD 0 ≤ 9223372036854775807 ∧ i + 1 - s ≤ 1048576 := by
  have h := hl (l[s]) (List.getElem_mem (by omega))
  rw [List.getElem?_eq_getElem (show s < l.length by omega)]
  exact ⟨h.1, h.2, by omega⟩
/-- What a round keeps: what lay below n₀, and the box of the list. -/
def Kb (n₀ Bs : Nat) (A B : World) : Prop := Below n₀ A B ∧ B.heap[Bs]? = A.heap[Bs]?
theorem Kb.refl (n₀ Bs : Nat) (A : World) : Kb n₀ Bs A A := ⟨Below.refl _ _, rfl⟩
theorem Kb.trans {n₀ Bs : Nat} {A B C : World} (h : Kb n₀ Bs A B) (k : Kb n₀ Bs B C) : Kb n₀ Bs A C := ⟨h.1.trans k.1, k.2.trans h.2⟩
theorem Kb.drew {n₀ Bs : Nat} {A B : World} (h : Kb n₀ Bs A B) : Kb n₀ Bs A B.drew := ⟨h.1.drew, h.2⟩
theorem Kb.box {n₀ Bs : Nat} {A B : World} (h : Kb n₀ Bs A B) {v : Value} (hc : A.cell? ⟨Bs, 0, none⟩ = some v) : B.cell? ⟨Bs, 0, none⟩ = some v := (World.cell?_of_block (a := ⟨Bs, 0, none⟩) h.2).trans hc
set_option maxRecDepth 100000 in
set_option maxHeartbeats 2000000 in
theorem runsI_in (lp Bs n₀ b off cap : Nat) (l : List Int) (hl : ∀ x ∈ l, -9223372036854775808 ≤ x ∧ x ≤ 9223372036854775807) (hn : l.length ≤ 1048576) (hb : b < n₀) (J Jx : List RunI → World → Prop)
    (hY : ∀ pre x W, J pre W → pre.length < l.length → YieldAt Fence.wide (3 - 1) Try.prog lp #[.int .i64 x.1.1, .int .i64 (x.1.2 : Int)] W fun e W' =>
      (e = .returned (.bool true) ∧ J (pre ++ [x]) W' ∧ Kb n₀ Bs W W') ∨ (e = .returned (.bool false) ∧ Jx (pre ++ [x]) W'))
    (hD : ∀ pre W, J pre W → J pre W.drew)
    (W : World) (hBs : W.cell? ⟨Bs, 0, none⟩ = some (.slice (some ⟨b, off, none⟩) l.length cap)) (hc : ∀ j, j < l.length → W.cell? ⟨b, off + j, none⟩ = some (.int .i64 (l[j]?.getD 0))) (h0 : J [] W) :
    CallsIn Fence.wide 3 Try.prog 70 #[.func (.yield lp) #[] #[], .pointer (some ⟨Bs, 0, none⟩)] W fun e W' => (∃ v, e = .returned v) ∧
      ((∃ ys : List RunI, ys.map (·.1) = runs l ∧ J ys W') ∨ (∃ pre : List RunI, Jx pre W')) := by
  refine callsIn_of_wp Try.func70 rfl trivial ?_ rfl
  simp only [Try.ntmps70, List.size_toArray, List.length_cons, List.length_nil, Nat.reduceAdd, Nat.reduceSub, Array.replicate_succ, Array.replicate_zero, List.push_toArray, List.append_toArray, List.nil_append, List.cons_append]
  gi_wp2
  gi_loopw [3, 7] (fun s i wr => ∃ (k m : Nat) (pre : List RunI), m ≤ k ∧ k ≤ l.length ∧ i = .int .i64 k ∧ s = .int .i64 m ∧ (∀ j, m ≤ j → j ≤ k → j < l.length → l[j]?.getD 0 = l[m]?.getD 0) ∧ (k = l.length → m = k) ∧ (0 < m → m < l.length → l[m - 1]?.getD 0 ≠ l[m]?.getD 0) ∧ pre.map (·.1) = runs (l.take m) ∧ J pre wr ∧ Kb n₀ Bs W wr)
    (fun _ i _ => l.length - (intOf i).toNat)
  case atStart => exact ⟨0, 0, [], by omega, by omega, rfl, rfl, fun j h1 h2 _ => (by obtain rfl : j = 0 := Nat.le_zero.1 h2; rfl), fun h => h.symm ▸ rfl, fun h => by omega, rfl, h0, Kb.refl _ _ _⟩
  case round =>
    obtain ⟨k, m, pre, hmk, hk, rfl, rfl, hsame, hend, hbr, hpre, hJ, hnx⟩ := hrel
    have HSAME := show Hid _ from hsame
    have HEND := show Hid _ from hend
    have HBR := show Hid _ from hbr
    have HPRE := show Hid _ from hpre
    have hbs : wr.cell? ⟨Bs, 0, none⟩ = some (.slice (some ⟨b, off, none⟩) l.length cap) := hnx.box hBs
    by_cases hlt : k < l.length
    · have hcm : wr.cell? ⟨b, off + m, none⟩ = some (.int .i64 (l[m]?.getD 0)) := (hnx.1.cell (p := ⟨b, off + m, none⟩) hb).trans (hc m (by omega))
      obtain ⟨x, HX⟩ : ∃ x, Hid (l[m]?.getD 0 = x) := ⟨_, rfl⟩
      rw [HX.out] at hcm
      have HLT : Hid (k < l.length) := hlt
      have HMK : Hid (m ≤ k) := hmk
      by_cases hl1 : k + 1 < l.length
      · obtain ⟨y, HY⟩ : ∃ x, Hid (l[k + 1]?.getD 0 = x) := ⟨_, rfl⟩
        have hck : wr.cell? ⟨b, off + (k + 1), none⟩ = some (.int .i64 y) := by rw [← HY.out]; exact (hnx.1.cell (p := ⟨b, off + (k + 1), none⟩) hb).trans (hc (k + 1) hl1)
        have HL1 : Hid (k + 1 < l.length) := hl1
        have bk : (k : Int) + 1 < (l.length : Int) := by omega
        have bm : (m : Int) < (l.length : Int) := by omega
        clear hsame hend hbr hpre hBs hc
        by_cases hxy : y = x
        · subst hxy
          gi_wp2
          gi_region
          all_goals gi_wp2
          go_roundw
          case rel => exact ⟨k + 1, m, pre, by have := HMK.out; omega, by have := HLT.out; omega, by go_num, rfl, fun j h1 h2 h3 => by
            rcases Nat.lt_or_ge j (k + 1) with h | h
            · exact HSAME.out j h1 (by omega) h3
            · obtain rfl : j = k + 1 := by omega
              rw [HX.out, HY.out], fun h => by have := HL1.out; omega, HBR.out, HPRE.out, hD _ _ hJ, hnx.drew⟩
          case measure => simp [intOf]; omega
        · have hxy' : (y == x) = false := by simpa using hxy
          have ok := runI_ok l hl hn m k HLT.out HMK.out
          rw [HX.out] at ok
          have hlen : pre.length < l.length := by
            have h1 := congrArg List.length HPRE.out
            have h2 := runs_len (l.take m)
            simp only [List.length_map, List.length_take] at h1 h2
            have := HLT.out; have := HMK.out
            omega
          have HST : Hid (∀ j, m ≤ j → j ≤ k → l[j]?.getD 0 = l[m]?.getD 0) := fun j h1 h2 => HSAME.out j h1 h2 (by have := HLT.out; omega)
          have HRUN : Hid (runs (l.take (k + 1)) = runs (l.take m) ++ [(x, k + 1 - m)]) := by
            have := runs_stretch l 0 m k HMK.out HLT.out HST.out (fun h => HBR.out h (by have := HLT.out; have := HMK.out; omega))
            rw [HX.out] at this
            exact this
          obtain ⟨fn, tmps, assign, body, hy, hR⟩ := hY pre ⟨(x, k + 1 - m), ok⟩ wr.drew (hD _ _ hJ) hlen
          have ekm : ((k + 1 - m : Nat) : Int) = (k : Int) + 1 - (m : Int) := by have := HMK.out; omega
          dsimp only at hy
          rw [ekm] at hy
          gi_wp2
          gi_region
          all_goals gi_wp2
          all_goals refine hR.mono ?_
          all_goals rintro e W3 (⟨rfl, hJ3, hk3⟩ | ⟨rfl, hJx3⟩)
          · gi_wp2
            go_roundw
            case rel => exact ⟨k + 1, k + 1, pre ++ [⟨(x, k + 1 - m), ok⟩], Nat.le_refl _, HLT.out, by go_num, by go_num, fun j h1 h2 _ => (by obtain rfl : j = k + 1 := Nat.le_antisymm h2 h1; rfl), fun _ => rfl, fun _ _ => (by rw [show k + 1 - 1 = k by omega, HST.out k HMK.out (Nat.le_refl _), HX.out, HY.out]; exact fun h => hxy h.symm), by rw [List.map_append, HPRE.out, HRUN.out]; rfl, hJ3, hnx.drew.trans hk3⟩
            case measure => have := HLT.out; simp [intOf]; omega
          · gi_wp2
            refine bodyPost_ret (results_none rfl _ _ _) rfl ?_
            exact ⟨⟨_, rfl⟩, .inr ⟨_, hJx3⟩⟩
      · have hke : k + 1 = l.length := by omega
        have HKE : Hid (k + 1 = l.length) := hke
        have HWK : Hid (IntKind.i64.wrap ((k : Int) + 1) = (l.length : Int)) := by unfold Hid; rw [wrap_i64i]; unfold Leb.wrap64; omega
        have bm : (m : Int) < (l.length : Int) := by omega
        clear hsame hend hbr hpre hBs hc
        have ok := runI_ok l hl hn m k HLT.out HMK.out
        rw [HX.out] at ok
        have hlen : pre.length < l.length := by
          have h1 := congrArg List.length HPRE.out
          have h2 := runs_len (l.take m)
          simp only [List.length_map, List.length_take] at h1 h2
          have := HLT.out; have := HMK.out
          omega
        have HST : Hid (∀ j, m ≤ j → j ≤ k → l[j]?.getD 0 = l[m]?.getD 0) := fun j h1 h2 => HSAME.out j h1 h2 (by have := HLT.out; omega)
        have HRUN : Hid (runs (l.take (k + 1)) = runs (l.take m) ++ [(x, k + 1 - m)]) := by
          have := runs_stretch l 0 m k HMK.out HLT.out HST.out (fun h => HBR.out h (by have := HLT.out; have := HMK.out; omega))
          rw [HX.out] at this
          exact this
        obtain ⟨fn, tmps, assign, body, hy, hR⟩ := hY pre ⟨(x, k + 1 - m), ok⟩ wr.drew (hD _ _ hJ) hlen
        have ekm : ((k + 1 - m : Nat) : Int) = (k : Int) + 1 - (m : Int) := by have := HMK.out; omega
        dsimp only at hy
        rw [ekm] at hy
        gi_wp2
        refine wpIn_region_noPanic ?_
        refine wpIn_region_any (by kernel_rfl) ?_
        refine tkIn 0 10 (.int .i64 (k : Int)) (fuel := 16) rfl rfl (by kernel_rfl) (by kernel_rfl) (by kernel_rfl) (by kernel_rfl) noPanic_false (fun _ => by kernel_rfl) (by kernel_rfl) (fun _ => by kernel_rfl) ?_
        refine tkIn 1 11 (.int .i64 (l.length : Int)) (fuel := 15) rfl rfl (by kernel_rfl) (by kernel_rfl) (by kernel_rfl) (by kernel_rfl) noPanic_false (fun _ => by kernel_rfl) (by kernel_rfl) (fun _ => x_addi3 (x := .tmp 10) (y := .const (.int .i64 1)) (by kernel_rfl) (by kernel_rfl) (by kernel_rfl) HWK.out) ?_
        refine oneIn 2 12 (.slice (some ⟨b, off, none⟩) l.length cap) wr.drew (fuel := 14) rfl (by kernel_rfl) (by kernel_rfl) (by kernel_rfl) (fun _ => trivial) rfl (x_loadT (t := 46) (x := .tmp 1) (g := Bs) (j := 0) Try.underlying46 rfl (by kernel_rfl) (by kernel_rfl) hbs) ?_
        refine tkIn 3 13 (.int .i64 (l.length : Int)) (fuel := 13) rfl rfl (by kernel_rfl) (by kernel_rfl) (by kernel_rfl) (by kernel_rfl) noPanic_false (fun _ => by kernel_rfl) (by kernel_rfl) (fun _ => by kernel_rfl) ?_
        refine tkIn 4 14 (.bool false) (fuel := 12) rfl rfl (by kernel_rfl) (by kernel_rfl) (by kernel_rfl) (by kernel_rfl) noPanic_false (fun _ => by kernel_rfl) (by kernel_rfl) (fun _ => x_lssf (x := .tmp 11) (y := .tmp 13) (p := (l.length : Int)) (by kernel_rfl) (by kernel_rfl) (by kernel_rfl)) ?_
        refine tkIn 5 15 (.bool false) (fuel := 11) rfl rfl (by kernel_rfl) (by kernel_rfl) (by kernel_rfl) (by kernel_rfl) noPanic_false (fun _ => by kernel_rfl) (by kernel_rfl) (fun _ => by kernel_rfl) ?_
        refine tkInSkip 6 16 (fuel := 10) rfl rfl (by kernel_rfl) (by kernel_rfl) (by kernel_rfl) (by kernel_rfl) noPanic_false (fun _ => by kernel_rfl) (by kernel_rfl) ?_
        refine tkInSkip 7 17 (fuel := 9) rfl rfl (by kernel_rfl) (by kernel_rfl) (by kernel_rfl) (by kernel_rfl) noPanic_false (fun _ => by kernel_rfl) (by kernel_rfl) ?_
        refine tkInSkip 8 18 (fuel := 8) rfl rfl (by kernel_rfl) (by kernel_rfl) (by kernel_rfl) (by kernel_rfl) noPanic_false (fun _ => by kernel_rfl) (by kernel_rfl) ?_
        refine tkInSkip 9 19 (fuel := 7) rfl rfl (by kernel_rfl) (by kernel_rfl) (by kernel_rfl) (by kernel_rfl) noPanic_false (fun _ => by kernel_rfl) (by kernel_rfl) ?_
        refine tkInSkip 10 20 (fuel := 6) rfl rfl (by kernel_rfl) (by kernel_rfl) (by kernel_rfl) (by kernel_rfl) noPanic_false (fun _ => by kernel_rfl) (by kernel_rfl) ?_
        refine tkInSkip 11 21 (fuel := 5) rfl rfl (by kernel_rfl) (by kernel_rfl) (by kernel_rfl) (by kernel_rfl) noPanic_false (fun _ => by kernel_rfl) (by kernel_rfl) ?_
        refine tkInSkip 12 22 (fuel := 4) rfl rfl (by kernel_rfl) (by kernel_rfl) (by kernel_rfl) (by kernel_rfl) noPanic_false (fun _ => by kernel_rfl) (by kernel_rfl) ?_
        refine tkInSkip 13 23 (fuel := 3) rfl rfl (by kernel_rfl) (by kernel_rfl) (by kernel_rfl) (by kernel_rfl) noPanic_false (fun _ => by kernel_rfl) (by kernel_rfl) ?_
        refine tkInSkip 14 24 (fuel := 2) rfl rfl (by kernel_rfl) (by kernel_rfl) (by kernel_rfl) (by kernel_rfl) noPanic_false (fun _ => by kernel_rfl) (by kernel_rfl) ?_
        refine tkInSkip 15 25 (fuel := 1) rfl rfl (by kernel_rfl) (by kernel_rfl) (by kernel_rfl) (by kernel_rfl) noPanic_false (fun _ => by kernel_rfl) (by kernel_rfl) ?_
        refine tkIn 16 26 (.bool false) (fuel := 0) rfl rfl (by kernel_rfl) (by kernel_rfl) (by kernel_rfl) (by kernel_rfl) noPanic_false (fun _ => by kernel_rfl) (by kernel_rfl) (fun _ => by kernel_rfl) ?_
        refine wpAnyIn_done (by kernel_rfl) (NoPanic.normal ?_) _
        go_simp
        gi_wp2
        all_goals refine hR.mono ?_
        all_goals rintro e W3 (⟨rfl, hJ3, hk3⟩ | ⟨rfl, hJx3⟩)
        · gi_wp2
          go_roundw
          case rel => exact ⟨k + 1, k + 1, pre ++ [⟨(x, k + 1 - m), ok⟩], Nat.le_refl _, HLT.out, by go_num, by go_num, fun j h1 h2 _ => (by obtain rfl : j = k + 1 := Nat.le_antisymm h2 h1; rfl), fun _ => rfl, fun _ h => (by have := HKE.out; omega), by rw [List.map_append, HPRE.out, HRUN.out]; rfl, hJ3, hnx.drew.trans hk3⟩
          case measure => have := HLT.out; simp [intOf]; omega
        · gi_wp2
          refine bodyPost_ret (results_none rfl _ _ _) rfl ?_
          exact ⟨⟨_, rfl⟩, .inr ⟨_, hJx3⟩⟩
    · have hkl : k = l.length := by omega
      have HE := HEND.out hkl
      have HP : Hid (pre.map (·.1) = runs l) := by
        unfold Hid; rw [HPRE.out, HE, hkl, List.take_length]
      clear hsame hend hbr hpre hBs hc
      gi_wp2
      go_end0
      exact ⟨⟨_, rfl⟩, .inl ⟨_, HP.out, hJ⟩⟩
set_option maxRecDepth 100000 in
set_option maxHeartbeats 1000000 in
theorem runsI_nil (lp Bs cap : Nat) (ao : Option Addr) (J : List RunI → World → Prop) (W : World) (hBs : W.cell? ⟨Bs, 0, none⟩ = some (.slice ao 0 cap)) (h0 : J [] W) :
    CallsIn Fence.wide 3 Try.prog 70 #[.func (.yield lp) #[] #[], .pointer (some ⟨Bs, 0, none⟩)] W fun e W' => (∃ v, e = .returned v) ∧ J [] W' := by
  refine callsIn_of_wp Try.func70 rfl trivial ?_ rfl
  simp only [Try.ntmps70, List.size_toArray, List.length_cons, List.length_nil, Nat.reduceAdd, Nat.reduceSub, Array.replicate_succ, Array.replicate_zero, List.push_toArray, List.append_toArray, List.nil_append, List.cons_append]
  gi_wp2
  gi_loopw [7] (fun i wr => i = .int .i64 0 ∧ J [] wr) (fun _ _ => 0)
  case atStart => exact ⟨rfl, h0⟩
  case round =>
    obtain ⟨rfl, hJs⟩ := hrel
    gi_wp2
    go_end0
    exact ⟨⟨_, rfl⟩, hJs⟩
theorem runsI_stops (Bs n₀ cap : Nat) (ao : Option Addr) (l : List Int) (hl : ∀ x ∈ l, -9223372036854775808 ≤ x ∧ x ≤ 9223372036854775807) (hn : l.length ≤ 1048576) (w : World) (hBs : Bs < w.heap.size) (hn₀ : n₀ ≤ w.heap.size)
    (hc : w.cell? ⟨Bs, 0, none⟩ = some (.slice ao l.length cap)) (hI : IntsAt w ao l) (hlt : ∀ a, ao = some a → l ≠ [] → a.block < n₀) :
    SeqStopsK Fence.wide 3 Try.prog 70 #[.pointer (some ⟨Bs, 0, none⟩)] (fun x : RunI => #[Value.int .i64 x.1.1, Value.int .i64 (x.1.2 : Int)]) (Kb n₀ Bs) (fun ys => ys.map (·.1) = runs l) (fun _ => True) l.length w := fun lp J Jx W hW hJ _ hY h0 => by
  have hW' : Below n₀ w W := hW.mono hn₀
  have hc' := (hW.cell (p := ⟨Bs, 0, none⟩) hBs).trans hc
  by_cases hne : l = []
  · subst hne
    exact (runsI_nil lp Bs cap ao J W hc' h0).mono fun e W' ⟨he, hj⟩ => ⟨he, .inl ⟨[], rfl, hj⟩⟩
  · obtain ⟨b, off, rfl, hcs⟩ := hI hne
    have hb := hlt _ rfl hne
    refine (runsI_in lp Bs n₀ b off cap l hl hn hb J Jx hY (fun pre A hA => hJ pre A A.drew none hA ⟨rfl, rfl, rfl, Nat.le_refl _, fun _ _ _ => rfl⟩ (fun r h => by cases h)) W hc' (fun j hj => (hW'.cell (p := ⟨b, off + j, none⟩) hb).trans (hcs j hj)) h0).mono ?_
    rintro e W' ⟨he, ⟨ys, h1, hj⟩ | ⟨pre, hj⟩⟩
    · exact ⟨he, .inl ⟨_, h1, hj⟩⟩
    · exact ⟨he, .inr ⟨_, trivial, hj⟩⟩
end Go.Proofs.Ytpplnomomcdemaa
