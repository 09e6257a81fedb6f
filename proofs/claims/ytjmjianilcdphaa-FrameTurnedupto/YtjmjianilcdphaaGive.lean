/-
  THE WALKS OF frame.giveUpIf AND OF frame.reasonOf; of the closure that recovers.
-/
import Derived.Test.YtjmjianilcdphaaSeal
import Derived.Recover
namespace Go.Proofs.Ytjmjianilcdphaa
open Go.RowKit Leb
/-- What reading gives up with. -/
def gv (e : Int) : Value := .iface 72 (.agg #[.int .i64 e])
def gc (e : Int) : List PanicEntry := [{ v := gv e, recovered := false }]
set_option maxRecDepth 100000 in
theorem give_no (c : Bool) (hc : c = false) (e : Int) (w : World) : Calls Try.prog 30 #[.bool c, .int .i64 e] w fun x w' => x = .returned (.tuple #[]) ∧ w' = w := by
  subst hc
  go_enter Try.func30, Try.ntmps30
  go_wp2
  go_end0
  exact ⟨rfl, rfl⟩
set_option maxRecDepth 100000 in
theorem give_yes (c : Bool) (hc : c = true) (e : Int) (w : World) : Calls Try.prog 30 #[.bool c, .int .i64 e] w fun x w' => x = .panicked (gc e) ∧ w' = w := by
  subst hc
  go_enter Try.func30, Try.ntmps30
  go_wp2
  exact ⟨rfl, rfl, rfl⟩
set_option maxRecDepth 100000 in
theorem reason_nil (w : World) : Calls Try.prog 26 #[.nilIface] w fun x w' => x = .returned (.int .i64 0) ∧ w' = w := by
  go_enter Try.func26, Try.ntmps26
  go_wp2
  go_ret
  exact ⟨rfl, rfl⟩
set_option maxRecDepth 100000 in
theorem reason_gv (e : Int) (w : World) : Calls Try.prog 26 #[.iface 72 (.agg #[.int .i64 e])] w fun x w' => x = .returned (.int .i64 e) ∧ After w w' := by
  have hta : ∀ W : World, (Instr.typeAssert (.iface 72 (.agg #[.int .i64 e])) 20 72 true).run Try.prog W = .ok (.tuple #[.agg #[.int .i64 (e : Int)], .bool true]) W := fun W => by kernel_rfl
  go_enter Try.func26, Try.ntmps26
  go_wp2
  go_ret
  exact ⟨rfl, after_alloc (After.refl w) _⟩
set_option maxRecDepth 100000 in
theorem catch_idle (g : Nat) (w : World) (y : Value) (hR : RowIs w g 23 [y]) :
    CallsD Try.prog 25 #[.pointer (some ⟨g, 0, none⟩)] .returning w fun e u' w' => e = .returned (.tuple #[]) ∧ u' = .returning ∧ w' = w.setCell ⟨g, 0, none⟩ (.int .i64 0) := by
  have hc := hR.cell (j := 0) rfl
  have hf := hR.frozen 0
  refine callsD_of_wpS Try.func25 rfl fun c₀ cs hu => ?_
  apply wpS_region
  simp [wpOpsS, go_sem, recoverD, hu, Try.ntmps25]
  refine (reason_nil w).mono ?_
  rintro e w1 ⟨rfl, rfl⟩
  cases c₀
  simp_all [go_sem, bodyPostS, results, Try.results25]
set_option maxRecDepth 100000 in
theorem catch_gv (n : Int) (g : Nat) (w : World) (y : Value) (hR : RowIs w g 23 [y]) :
    CallsD Try.prog 25 #[.pointer (some ⟨g, 0, none⟩)] (.panicking (gc n)) w fun e u' w' => e = .returned (.tuple #[]) ∧ u' = .panicking [{ v := gv n, recovered := true }] ∧ ∃ w1, After w w1 ∧ w' = w1.setCell ⟨g, 0, none⟩ (.int .i64 n) := by
  refine callsD_of_wpS Try.func25 rfl fun c₀ cs hu => ?_
  apply wpS_region
  simp [wpOpsS, go_sem, recoverD, hu, Try.ntmps25, gc]
  refine (reason_gv n w).mono ?_
  rintro e w1 ⟨rfl, hb⟩
  have hR1 : RowIs w1 g 23 [y] := hR.below hb hR.lt
  have hc := hR1.cell (j := 0) rfl
  have hf := hR1.frozen 0
  cases c₀
  simp_all [go_sem, bodyPostS, results, Try.results25]
  exact ⟨w1, hb, rfl⟩
end Go.Proofs.Ytjmjianilcdphaa
