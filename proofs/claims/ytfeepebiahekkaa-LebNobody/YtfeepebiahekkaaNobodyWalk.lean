/-
  THE WALK OF stemmalaw02.LebNobody.
-/
import Derived.Test.YtfeepebiahekkaaRow
namespace Go.Proofs.Ytfeepebiahekkaa
open Go.RowKit Leb
set_option maxRecDepth 100000 in
set_option maxHeartbeats 400000 in
theorem nobody_any (n : Int) (_h0 : -9223372036854775808 ≤ n) (_h1 : n ≤ 9223372036854775807) (w : World) :
    Calls Try.prog 10 #[.int .i64 n] w fun e w' => e = .returned (.bool true) ∧ Below w.heap.size w w' := by
  have heq : ∀ W : World, (Op.equalIn 10000 61 (.agg (c8 zeroHash).toArray) (.agg (c8 zeroHash).toArray)).run Try.prog W = .ok true W := fun W => by
    rw [eq61 _ _ rfl rfl]; simp
  go_enter Try.func10, Try.ntmps10
  go_wp2_with (first
    | (go_at_call 25; refine (rUint_nil 1 _).mono ?_; rintro e w1 ⟨rfl, hb1⟩)
    | (go_at_call 27; refine (rInt_nil _).mono ?_; rintro e w' ⟨rfl, rfl⟩)
    | (go_at_call 29; refine (rText_nil _ _).mono ?_; rintro e w2 ⟨rfl, hb2⟩; have B2 : After w w2 := After.trans hb1 hb2)
    | (go_at_call 31; refine (rHash_nil _).mono ?_; rintro e w3 ⟨rfl, hb3⟩; have B3 : After w w3 := After.trans B2 hb3)
    | (refine wpListG_built rfl 61 #[] rfl (c8 zeroHash).toArray (by kernel_rfl) ?_)
    | (go_at_call 33; refine (rLeft_nil _).mono ?_; rintro e w' ⟨rfl, rfl⟩)
    | (go_at_call 34; refine (rErr_nil _).mono ?_; rintro e w' ⟨rfl, rfl⟩)
    | (go_at_call 35; refine (rDone_nil _).mono ?_; rintro e w' ⟨rfl, rfl⟩)
    | (go_at_call 17; refine (awake_any _).mono ?_; rintro e w5 ⟨rfl, hb5⟩; have B5 : After w w5 := After.trans B3 hb5))
  go_ret
  exact ⟨rfl, B5⟩
end Go.Proofs.Ytfeepebiahekkaa
