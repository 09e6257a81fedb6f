/-
  WHAT A ROW OF CALLS LEAVES; BranchPlays (3).
-/
import Derived.Test.YtcmcapcagblafaaGreatPO
namespace Go.Proofs.YtcmcapcagblafaaGreat
open Go.RowKit Dsk
attribute [local go_sem] Oper.semAt_some
theorem range_kept {W W' : World} {G : Nat → Prop} {b o : Nat} {l : List Value} (hr : W.rangeAt b o l) (hk : KeptF G W W') (hG : ¬ G b) : W'.rangeAt b o l := fun j v hv => by
  have hc := hr j v hv
  exact Eq.trans (World.cell?_of_block (w := W) (show W'.heap[(⟨b, o + j, none⟩ : Addr).block]? = W.heap[(⟨b, o + j, none⟩ : Addr).block]? from hk.block b (World.block_lt_of_cell? W _ hc) hG)) hc
theorem uni_ac (l : List Ac) : Uni 3 (l.map acv) := fun x hx => by obtain ⟨y, _, rfl⟩ := List.mem_map.1 hx; rfl
theorem same_self {l : List H} (h32 : All32 l) (hs : l.length ≤ 16) {a b : Option Addr} {n m c d : Nat} (hn : l.length = n) (hm : l.length = m) {w : World} (ha : SlAt w 32 a (hsL l)) (hb : SlAt w 32 b (hsL l)) : Calls Tryz.prog 6 #[.slice a n c, .slice b m d] w fun e w' => e = .returned (.bool true) ∧ After w w' :=
  (rsame31 (la := l) (lb := l) (ca := c) (cb := d) h32 h32 hn hm (by omega) ha hb).mono (fun e w' ⟨he, h⟩ => ⟨by rw [he]; simp, h⟩)
end Go.Proofs.YtcmcapcagblafaaGreat
