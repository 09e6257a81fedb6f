/-
  THE WALKS OF stemmaref05.New, (Disk).either, step, Fail.
-/
import Derived.Test.YtlbodickflljfaaRefPlace
import Derived.Laws.Rows
namespace Go.Proofs.Ytlbodickflljfaa
open Go.RowKit Go.Maps Dsk
theorem ret27 {fn : Func} {p : Tmp} (h : fn.results = #[.cell p 27]) (tmps : Array Value) (w : World) (g : Nat) (cs : List Value) (hp : tmps.getD p undef = .pointer (some ⟨g, 0, none⟩)) (hg : RowIs w g 27 cs) (hl : cs.length = 7) :
    (results fn tmps).run Try.prog w = .ok (.agg cs.toArray) w :=
  results_cell_row h tmps w g 27 _ (0, 0) _ hp hg Try.underlying27 rfl (by rw [show (Try.prog.info? 27).map (·.size) = some 7 by kernel_rfl]; simp [hl])
theorem ret27t {fn : Func} {p q : Tmp} (h : fn.results = #[.cell p 27, .tmp q]) (tmps : Array Value) (w : World) (g : Nat) (cs : List Value) (hp : tmps.getD p undef = .pointer (some ⟨g, 0, none⟩)) (hg : RowIs w g 27 cs) (hl : cs.length = 7) (v : Value) (hv : tmps.getD q undef = v) :
    (results fn tmps).run Try.prog w = .ok (.tuple #[.agg cs.toArray, v]) w := by
  have hp' : tmps[p]?.getD undef = .pointer (some ⟨g, 0, none⟩) := by simpa using hp
  have hv' : tmps[q]?.getD undef = v := by simpa using hv
  have hi : (Try.prog.info? 27).map (·.size) = some cs.toArray.size := by rw [show (Try.prog.info? 27).map (·.size) = some 7 by kernel_rfl]; simp [hl]
  simp [results, h, hp', hv', asAddr, run_loadVar_row w g 27 27 cs.toArray (0, 0) _ hg Try.underlying27 rfl hi]
theorem row_last (W : World) (g : Nat) (hg : W.heap.size = g) (cs : List Value) : RowIs (W.alloc (.cells cs.toArray 27)) g 27 cs := hg ▸ RowIs.new W 27 cs
set_option maxRecDepth 100000 in
set_option maxHeartbeats 1600000 in
theorem rNew_any (most : Int) (w : World) : Calls Try.prog 12 #[.int .i64 most] w fun e w' => ∃ v, e = .returned v ∧ RefAt w' v (newS most) ∧ After w w' := by
  go_enter Try.func12, Try.ntmps12
  go_wp2
  refine bodyPost_ret (ret27 Try.results12 _ _ w.heap.size [.int .i64 (max 0 (min most 16777216)), .slice none 0 0, .int .i64 0, .bool false, .int .i64 0, .bool false, .bool false] rfl (row_last w _ rfl _) rfl) rfl ⟨_, rfl, ⟨none, 0, false, 0, false, ?_, fun h => absurd rfl h, Nat.le_refl _, fun _ => ⟨rfl, rfl, rfl⟩, by omega, fun _ => rfl⟩, after_alloc (After.refl w) _⟩
  have e : max 0 (min most 16777216) = (((min (max most 0) 16777216).toNat : Nat) : Int) := by omega
  rw [e]; rfl
section
variable (S : Dk) (ao ao1 ao2 : Option Addr) (n c n1 c1 n2 c2 : Nat) (ar : Bool) (lf : Nat) (dn : Bool) (w : World)
set_option maxRecDepth 100000 in
set_option maxHeartbeats 1600000 in
theorem rEither_any : Calls Try.prog 61 #[.agg (rV S ao n c ar lf dn), .agg (rV S ao1 n1 c1 ar lf dn)] w fun e w' => e = .returned (.agg (if dn then rV S ao1 n1 c1 ar lf dn else rV S ao n c ar lf dn)) ∧ After w w' := by
  unfold rV
  cases dn with
  | true =>
    go_enter Try.func61, Try.ntmps61
    go_wp2
    exact bodyPost_ret (ret27 Try.results61 _ _ (w.heap.size + 1 + 1) [_, _, _, _, _, _, _] rfl (row_last _ _ (by simp) _) rfl) rfl ⟨rfl, after_alloc (after_alloc (after_alloc (After.refl w) _) _) _⟩
  | false =>
    go_enter Try.func61, Try.ntmps61
    go_wp2
    exact bodyPost_ret (ret27 Try.results61 _ _ (w.heap.size + 1 + 1) [_, _, _, _, _, _, _] rfl (row_last _ _ (by simp) _) rfl) rfl ⟨rfl, after_alloc (after_alloc (after_alloc (After.refl w) _) _) _⟩
set_option maxRecDepth 100000 in
set_option maxHeartbeats 1600000 in
theorem rStep_now (h1 : ar = true) (h2 : lf = 0) : Calls Try.prog 60 #[.agg (rV S ao n c ar lf dn), .agg (rV S ao1 n1 c1 ar lf dn), .agg (rV S ao2 n2 c2 ar lf dn)] w fun e w' => e = .returned (.tuple #[.agg (rV { S with down := true } ao2 n2 c2 false lf dn), .int .i64 20]) ∧ After w w' := by
  subst h1
  have hz : ((lf : Int) == 0) = true := by simp [h2]
  clear h2
  unfold rV
  go_enter Try.func60, Try.ntmps60
  go_wp2
  exact bodyPost_ret (ret27t Try.results60 _ _ (w.heap.size + 1 + 1 + 1) [_, _, _, _, _, _, _] rfl (row_last _ _ (by simp) _) rfl _ rfl) rfl ⟨rfl, after_alloc (after_alloc (after_alloc (after_alloc (After.refl w) _) _) _) _⟩
set_option maxRecDepth 100000 in
set_option maxHeartbeats 1600000 in
theorem rStep_armed (h1 : ar = true) (h2 : ¬ lf = 0) (hst : S.steps < 4611686018427387904) (hlf : lf < 9223372036854775808) : Calls Try.prog 60 #[.agg (rV S ao n c ar lf dn), .agg (rV S ao1 n1 c1 ar lf dn), .agg (rV S ao2 n2 c2 ar lf dn)] w fun e w' => e = .returned (.tuple #[.agg (rV { S with steps := S.steps + 1 } ao1 n1 c1 true (lf - 1) dn), .int .i64 0]) ∧ After w w' := by
  subst h1
  have hz : ((lf : Int) == 0) = false := by simp [h2]
  have e1 : (lf : Int) - 1 = ((lf - 1 : Nat) : Int) := by omega
  have E1 : Hid ((lf : Int) - 1 = ((lf - 1 : Nat) : Int)) := e1
  clear h2 e1
  unfold rV
  go_enter Try.func60, Try.ntmps60
  go_wp2
  refine bodyPost_ret (ret27t Try.results60 _ _ (w.heap.size + 1 + 1 + 1) [_, _, _, _, _, _, _] rfl (row_last _ _ (by simp) _) rfl _ rfl) rfl ⟨?_, after_alloc (after_alloc (after_alloc (after_alloc (After.refl w) _) _) _) _⟩
  rw [E1.out]; rfl
set_option maxRecDepth 100000 in
set_option maxHeartbeats 1600000 in
theorem rStep_not (h1 : ar = false) (hst : S.steps < 4611686018427387904) : Calls Try.prog 60 #[.agg (rV S ao n c ar lf dn), .agg (rV S ao1 n1 c1 ar lf dn), .agg (rV S ao2 n2 c2 ar lf dn)] w fun e w' => e = .returned (.tuple #[.agg (rV { S with steps := S.steps + 1 } ao1 n1 c1 false lf dn), .int .i64 0]) ∧ After w w' := by
  subst h1
  unfold rV
  go_enter Try.func60, Try.ntmps60
  go_wp2
  exact bodyPost_ret (ret27t Try.results60 _ _ (w.heap.size + 1 + 1 + 1) [_, _, _, _, _, _, _] rfl (row_last _ _ (by simp) _) rfl _ rfl) rfl ⟨rfl, after_alloc (after_alloc (after_alloc (after_alloc (After.refl w) _) _) _) _⟩
set_option maxRecDepth 100000 in
set_option maxHeartbeats 1600000 in
theorem rFail_down (h1 : S.down = true) (k : Int) (d : Bool) : Calls Try.prog 39 #[.agg (rV S ao n c ar lf dn), .int .i64 k, .bool d] w fun e w' => e = .returned (.tuple #[.agg (rV S ao n c ar lf dn), .int .i64 20]) ∧ After w w' := by
  unfold rV
  rw [h1]
  clear h1
  go_enter Try.func39, Try.ntmps39
  go_wp2
  exact bodyPost_ret (ret27t Try.results39 _ _ (w.heap.size + 1) [_, _, _, _, _, _, _] rfl (row_last _ _ (by simp) _) rfl _ rfl) rfl ⟨rfl, after_alloc (after_alloc (After.refl w) _) _⟩
set_option maxRecDepth 100000 in
set_option maxHeartbeats 1600000 in
theorem rFail_arg (h1 : S.down = false) (k : Int) (hk : k < 0) (d : Bool) : Calls Try.prog 39 #[.agg (rV S ao n c ar lf dn), .int .i64 k, .bool d] w fun e w' => e = .returned (.tuple #[.agg (rV S ao n c ar lf dn), .int .i64 2]) ∧ After w w' := by
  unfold rV
  rw [h1]
  clear h1
  go_enter Try.func39, Try.ntmps39
  go_wp2
  exact bodyPost_ret (ret27t Try.results39 _ _ (w.heap.size + 1) [_, _, _, _, _, _, _] rfl (row_last _ _ (by simp) _) rfl _ rfl) rfl ⟨rfl, after_alloc (after_alloc (After.refl w) _) _⟩
set_option maxRecDepth 100000 in
set_option maxHeartbeats 1600000 in
theorem rFail_ok (h1 : S.down = false) (k : Nat) (d : Bool) : Calls Try.prog 39 #[.agg (rV S ao n c ar lf dn), .int .i64 (k : Int), .bool d] w fun e w' => e = .returned (.tuple #[.agg (rV S ao n c true k d), .int .i64 0]) ∧ After w w' := by
  unfold rV
  rw [h1]
  clear h1
  have hk : ¬ (k : Int) < 0 := by omega
  go_enter Try.func39, Try.ntmps39
  go_wp2
  exact bodyPost_ret (ret27t Try.results39 _ _ (w.heap.size + 1) [_, _, _, _, _, _, _] rfl (row_last _ _ (by simp) _) rfl _ rfl) rfl ⟨rfl, after_alloc (after_alloc (After.refl w) _) _⟩
end
end Go.Proofs.Ytlbodickflljfaa
