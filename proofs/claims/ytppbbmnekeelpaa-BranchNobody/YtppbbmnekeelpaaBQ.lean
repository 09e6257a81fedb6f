/-
  A TABLE THAT IS NOT THERE; BranchNobody (6).
-/
import Derived.Test.YtppbbmnekeelpaaPO
namespace Go.Proofs.Ytppbbmnekeelpaa
open Go.RowKit Dsk
attribute [local go_sem] Oper.semAt_some
set_option maxRecDepth 100000 in
set_option maxHeartbeats 400000 in
theorem create20_nil (u v : Value) (w : World) : Calls Try.prog 20 #[.pointer none, u, v] w fun e w' => e = .returned (.int .i64 1) ∧ w = w' := by
  go_enter Try.func20, Try.ntmps20
  go_wp2
  go_ret
  exact ⟨rfl, rfl⟩
set_option maxRecDepth 100000 in
set_option maxHeartbeats 400000 in
theorem move21_nil (u v : Value) (w : World) : Calls Try.prog 21 #[.pointer none, u, v] w fun e w' => e = .returned (.int .i64 1) ∧ w = w' := by
  go_enter Try.func21, Try.ntmps21
  go_wp2
  go_ret
  exact ⟨rfl, rfl⟩
set_option maxRecDepth 100000 in
set_option maxHeartbeats 400000 in
theorem delete22_nil (u : Value) (w : World) : Calls Try.prog 22 #[.pointer none, u] w fun e w' => e = .returned (.int .i64 1) ∧ w = w' := by
  go_enter Try.func22, Try.ntmps22
  go_wp2
  go_ret
  exact ⟨rfl, rfl⟩
set_option maxRecDepth 100000 in
set_option maxHeartbeats 400000 in
theorem heads12_none (u : Value) (w : World) : Calls Try.prog 12 #[.pointer none, u] w fun e w' => e = .returned (.tuple #[.slice none 0 0, .int .i64 1]) ∧ w = w' := by
  go_enter Try.func12, Try.ntmps12
  go_wp2
  refine bodyPost_ret (v := .tuple #[.slice none 0 0, .int .i64 1]) (by simp [results, Try.results12, go_sem]) rfl ⟨rfl, rfl⟩
set_option maxRecDepth 100000 in
set_option maxHeartbeats 400000 in
theorem fork19_nil (w : World) : Calls Try.prog 19 #[.pointer none] w fun e w' => e = .returned (.pointer none) ∧ w = w' := by
  go_enter Try.func19, Try.ntmps19
  go_wp2
  go_ret
  exact ⟨rfl, rfl⟩
set_option maxRecDepth 100000 in
set_option maxHeartbeats 3200000 in
theorem nobody6 (u v : Value) (w : World) : Calls Try.prog 6 #[u, v] w fun e w' => e = .returned (.bool true) ∧ After w w' := by
  go_enter Try.func6, Try.ntmps6
  go_wp2_with (first
    | (go_at_call 12; refine Calls.mono (heads12_none u _) ?_; rintro e w1 ⟨rfl, rfl⟩)
    | (go_at_call 20; refine Calls.mono (create20_nil u v _) ?_; rintro e w2 ⟨rfl, rfl⟩)
    | (go_at_call 21; refine Calls.mono (move21_nil u v _) ?_; rintro e w3 ⟨rfl, rfl⟩)
    | (go_at_call 22; refine Calls.mono (delete22_nil u _) ?_; rintro e w4 ⟨rfl, rfl⟩)
    | (go_at_call 23; refine Calls.mono (list23_nil _) ?_; rintro e w5 ⟨rfl, h5⟩; have H5 := show Hid (After w w5) from h5; clear h5)
    | (go_at_call 19; refine Calls.mono (fork19_nil _) ?_; rintro e w6 ⟨rfl, rfl⟩)
    | (go_at_call 15; refine Calls.mono (awake15 _) ?_; rintro e w7 ⟨rfl, h7⟩; have H7 := show Hid (After w w7) from H5.out.trans h7; clear h7))
  go_ret
  exact ⟨rfl, H7.out⟩
end Go.Proofs.Ytppbbmnekeelpaa
