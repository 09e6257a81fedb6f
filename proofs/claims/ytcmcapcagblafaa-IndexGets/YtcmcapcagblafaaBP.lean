/-
  WHAT A ROW OF CALLS LEAVES; BranchPlays (3).
-/
import Derived.Test.YtcmcapcagblafaaPO
namespace Go.Proofs.Ytcmcapcagblafaa
open Go.RowKit Dsk
attribute [local go_sem] Oper.semAt_some
theorem range_kept {W W' : World} {G : Nat → Prop} {b o : Nat} {l : List Value} (hr : W.rangeAt b o l) (hk : KeptF G W W') (hG : ¬ G b) : W'.rangeAt b o l := fun j v hv => by
  have hc := hr j v hv
  exact Eq.trans (World.cell?_of_block (w := W) (show W'.heap[(⟨b, o + j, none⟩ : Addr).block]? = W.heap[(⟨b, o + j, none⟩ : Addr).block]? from hk.block b (World.block_lt_of_cell? W _ hc) hG)) hc
theorem uni_ac (l : List Ac) : Uni 3 (l.map acv) := fun x hx => by obtain ⟨y, _, rfl⟩ := List.mem_map.1 hx; rfl
/-- How things stand behind some calls: the table, and the reference's one in its box gr. -/
structure PlI (w : World) (tb mb gr : Nat) (F : Nat → Prop) (a : Option Addr) (n c : Nat) (cs : List Ent) (X : List Bx) (wr : World) : Prop where
  aft : After w wr
  tab : TbA wr F tb mb cs
  ref : RT wr a n c X
  box : RowIs wr gr 82 [.slice a n c]
  eq : bof X = fls cs
  ok : TOk (fls cs)
  fs : ∀ b, F b → w.heap.size ≤ b ∧ b < wr.heap.size
  ngr : ¬ F gr
  gge : w.heap.size ≤ gr
  nt : NT gr a X
theorem PlI.after {w wr w' : World} {tb mb gr n c : Nat} {F : Nat → Prop} {a : Option Addr} {cs : List Ent} {X : List Bx} (h : PlI w tb mb gr F a n c cs X wr) (ha : After wr w') : PlI w tb mb gr F a n c cs X w' :=
  ⟨h.aft.trans ha, h.tab.after ha, h.ref.after ha, h.box.below ha h.box.lt, h.eq, h.ok, fun b hb => ⟨(h.fs b hb).1, Nat.lt_of_lt_of_le (h.fs b hb).2 ha.size⟩, h.ngr, h.gge, h.nt⟩
theorem pl_step {w wr w1 : World} {tb mb gr n c n' c' : Nat} {F : Nat → Prop} {a a' : Option Addr} {cs : List Ent} {X : List Bx} {x : Ac} (h : PlI w tb mb gr F a n c cs X wr) (h32 : All32 x.l) (hD : DoP wr F tb mb a X (stS (fls cs) x) w1 a' n' c') : ∃ cs' X', RowIs w1 gr 82 [.slice a n c] ∧ PlI w tb mb gr (more F wr w1) a' n' c' cs' X' (w1.setRow gr #[.slice a' n' c']) ∧ KeptF (fun b => b = mb ∨ b = gr) wr w1 ∧ KeptF (fun b => b = mb ∨ b = gr) wr (w1.setRow gr #[.slice a' n' c']) ∧ fls cs' = stS (fls cs) x := by
  obtain ⟨X', cs', k1, k2, k3, k4, k5, k6⟩ := hD
  have hmr : gr ≠ mb := fun e => h.ngr (e ▸ h.tab.fmb)
  have hb1 : RowIs w1 gr 82 [.slice a n c] := k5.row h.box hmr
  have hlt : gr < wr.heap.size := h.box.lt
  have kk : KeptF (fun b => b = gr) w1 (w1.setRow gr #[.slice a' n' c']) := ⟨rfl, rfl, rfl, by rw [size_setRow]; exact Nat.le_refl _, fun b _ hb => setRow_other _ _ _ _ hb⟩
  have k7 : KeptF (fun b => b = mb ∨ b = gr) wr w1 := k5.mono (fun _ _ h => .inl h)
  refine ⟨cs', X', hb1, ?_, k7, k7.trans kk (fun _ _ h => .inr h), k1⟩
  refine ⟨?_, k3.kept kk (fun b _ hm e => ?_), k4.kept kk (fun g e => by rw [e]; exact k6 gr hlt h.nt), hb1.setRow _, by rw [k1, k2], by rw [k1]; exact stS_ok h.ok h32, fun b hm => ?_, fun hm => ?_, h.gge, k6 gr hlt h.nt⟩
  · refine Below.trans (Below.trans h.aft (k5.below h.aft.size (fun b hb => ?_))) (kk.below (Nat.le_trans h.aft.size k5.size) (fun b hb => by rw [hb]; exact h.gge))
    rw [hb]; exact (h.fs mb h.tab.fmb).1
  · rw [e] at hm
    rcases hm with hm | hm
    · exact h.ngr hm
    · omega
  · have hs : w1.heap.size ≤ (w1.setRow gr #[.slice a' n' c']).heap.size := kk.size
    rcases hm with hm | hm
    · have := h.fs b hm; have := k5.size; exact ⟨by omega, by omega⟩
    · have := h.aft.size; exact ⟨by omega, by omega⟩
  · rcases hm with hm | hm
    · exact h.ngr hm
    · omega
theorem pl_start {w w1 : World} (hT : TbA w1 (fun b => w.heap.size ≤ b ∧ b < w1.heap.size) (w.heap.size + 1) w.heap.size []) (ha : After w w1) : PlI w (w.heap.size + 1) w.heap.size w1.heap.size (fun b => w.heap.size ≤ b ∧ b < w1.heap.size) none 0 0 [] [] (w1.alloc (.cells #[.slice none 0 0] 82)) := by
  have h2 := after_alloc (After.refl w1) (.cells #[.slice none 0 0] 82)
  exact ⟨ha.trans h2, hT.after h2, ⟨BsAt.nil _ _, rfl, Nat.le_refl _, fun _ => rfl⟩, RowIs.new w1 82 [.slice none 0 0], rfl, TOk.nil, fun b hb => ⟨hb.1, by have := h2.size; omega⟩, fun h => by omega, ha.size, ⟨fun _ h => (by cases h), fun _ h => by simp at h⟩⟩
theorem same_self {l : List H} (h32 : All32 l) (hs : l.length ≤ 16) {a b : Option Addr} {n m c d : Nat} (hn : l.length = n) (hm : l.length = m) {w : World} (ha : SlAt w 32 a (hsL l)) (hb : SlAt w 32 b (hsL l)) : Calls Try.prog 26 #[.slice a n c, .slice b m d] w fun e w' => e = .returned (.bool true) ∧ After w w' :=
  (rsame31 (la := l) (lb := l) (ca := c) (cb := d) h32 h32 hn hm (by omega) ha hb).mono (fun e w' ⟨he, h⟩ => ⟨by rw [he]; simp, h⟩)
end Go.Proofs.Ytcmcapcagblafaa
