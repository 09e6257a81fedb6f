/-
  A FORK (19); BranchForks (5).
-/
import Derived.Test.YtcmcapcagblafaaBP
namespace Go.Proofs.Ytcmcapcagblafaa
open Go.RowKit Go.Maps Dsk
attribute [local go_sem] Oper.semAt_some
theorem x_al27 {oi : Oper} {a : Act} {w : World} (hop : oi.op = .alloc 82) : (execOp a.eval oi).run Try.prog w = .ok (.value (.pointer (some ⟨w.heap.size, 0, none⟩))) (w.alloc (.cells #[.slice none 0 0] 82)) := by
  have hz : (zeroValue 82).run Try.prog w = .ok (.agg #[.slice none 0 0]) w := by kernel_rfl
  unfold execOp
  simp only [hop]
  simp [go_sem, hz, Value.cells]
/-- Entries but for those that are left. -/
def gone (left : Lit → Bool) (S : Tb) : Tb := S.filter fun p => !left (.string p.1)
theorem gone_rising {left : Lit → Bool} {S : Tb} (h : rising S) : rising (gone left S) := List.Pairwise.filter _ h
theorem gone_none {left : Lit → Bool} (h : ∀ z, left z = false) (S : Tb) : gone left S = S := by
  unfold gone; rw [List.filter_eq_self]; intro p _; simp [h]
theorem gone_all {left : Lit → Bool} {S : Tb} (h : ∀ p ∈ S, left (.string p.1) = true) : gone left S = [] := by
  unfold gone; rw [List.filter_eq_nil_iff]; intro p hp; simp [h p hp]
theorem gone_step {left : Lit → Bool} {S : Tb} (hr : rising S) {nm : Dsk.Nm} {l : List H} (hm : (nm, l) ∈ S) : gone (fun z => left z && !z.sameKey (.string nm)) S = fput nm l (gone left S) := by
  have sk : ∀ a : Dsk.Nm, (Lit.string a).sameKey (.string nm) = (a == nm) := fun _ => rfl
  refine eq_of_mem (gone_rising hr) (fput_rising _ _ (gone_rising hr)) (fun p => ?_)
  rw [fput_mem]
  unfold gone
  simp only [List.mem_filter, sk, Bool.not_and, Bool.not_not, Bool.or_eq_true, Bool.not_eq_true', beq_iff_eq]
  constructor
  · rintro ⟨hp, h | h⟩
    · by_cases e : p.1 = nm
      · left
        obtain ⟨a, b⟩ := p
        simp only at e
        subst e
        have h1 := rising_get hr hp
        have h2 := rising_get hr hm
        rw [h1] at h2; cases h2; rfl
      · exact .inr ⟨⟨hp, h⟩, e⟩
    · left
      obtain ⟨a, b⟩ := p
      simp only at h
      subst h
      have h1 := rising_get hr hp
      have h2 := rising_get hr hm
      rw [h1] at h2; cases h2; rfl
  · rintro (rfl | ⟨⟨hp, h⟩, _⟩)
    · exact ⟨hm, .inr rfl⟩
    · exact ⟨hp, .inl h⟩
theorem gone_len (left : Lit → Bool) (S : Tb) : (gone left S).length ≤ S.length := List.length_filter_le _ _
section
variable {w : World} {ops : Array Oper} {rest : List Oper} {o : Oper} {a : Act} {Q : Exit → Act → World → Prop}
/-- The step of a range over the table's map. -/
theorem wpList_next_tab (hg : o.guard = none) (it : Operand) (hop : o.op = Op.next it false) (mb r n : Nat) (cs : List Ent) (F : Nat → Prop) (W0 : World) (hen : ∀ c ∈ cs, EnAt W0 F c) (left : Lit → Bool) (cnt : Nat) (hit : a.eval it = .pointer (some ⟨r, 0, none⟩))
    (h : w.ranges Try.prog 9 Rv mb r n (.map (toE (vals cs))) left cnt)
    (hDone : cnt = 0 → (∀ kl, left kl = false) → wpList Try.prog ops Q rest (a.put o.dst (.tuple #[.bool false])) w)
    (hMore : ∀ (nm : Dsk.Nm) (ao : Option Addr) (m c : Nat) (l : List H) (w' : World) (cnt' : Nat), (nm, (.slice ao m c, l)) ∈ cs → l.length = m → left (.string nm) = true →
      w'.ranges Try.prog 9 Rv mb r n (.map (toE (vals cs))) (fun z => left z && !z.sameKey (.string nm)) cnt' → cnt' < cnt → w.grownBy w' (some r) → w'.heap.size = w.heap.size →
      (Instr.entry (.pointer (some ⟨r, 0, none⟩))).run Try.prog w' = .ok (.tuple #[.string (strOf nm), .slice ao m c]) w' →
      wpList Try.prog ops Q rest (a.put o.dst (.tuple #[.bool true, .string (strOf nm), .slice ao m c])) w') :
    wpList Try.prog ops Q (o :: rest) a w := by
  refine wpList_plain hg fun K' hK' => ?_
  unfold Oper.wp
  rcases h.next law9 o.type with ⟨h0, hl, hrun⟩ | ⟨key, v, kl, y, w', cnt', hkey, hlk, hv, hat, hrun, hrg, hlt, hgr, hsz, hen2⟩
  · simp [execOp, hop, hit, hrun, Result.andThen]
    exact hK' _ _ (hDone h0 hl)
  · obtain ⟨nm, hx, hkl, _⟩ := Maps.keyOf_str Try.underlying9 hkey
    subst hx
    subst hkl
    have ex : Go.Proofs.encStr nm = .string (strOf nm) := rfl
    rw [ex] at hrun hen2
    obtain ⟨y1, y2⟩ := y
    have hy := Rv_inv hv
    have h1 := hat .nil
    rw [at_E] at h1
    cases hgv : fget nm (vals cs) with
    | none => rw [hgv] at h1; simp only at h1; rw [hy] at h1; cases h1
    | some v' =>
      rw [hgv] at h1
      simp only at h1
      rw [hy] at h1
      simp only [DataW.held.injEq] at h1
      subst h1
      rw [fget_vals] at hgv
      obtain ⟨⟨v2, l⟩, hgc, e⟩ := Option.map_eq_some_iff.1 hgv
      simp only at e
      subst e
      have hm := fget_mem hgc
      obtain ⟨ao, k, e2, _⟩ := hen _ hm
      simp only at e2
      subst e2
      simp [execOp, hop, hit, hrun, Result.andThen]
      exact hK' _ _ (hMore nm ao l.length k l w' cnt' hm rfl hlk hrg hlt hgr hsz hen2)
end
/-- How far a fork has come. -/
structure FkI (w w0 : World) (F : Nat → Prop) (cs : List Ent) (tb2 mb2 : Nat) (left : Lit → Bool) (wr : World) : Prop where
  aft : After w wr
  new : ∃ F2 cs2, TbA wr F2 tb2 mb2 cs2 ∧ fls cs2 = gone left (fls cs) ∧ (∀ b, F2 b → w.heap.size ≤ b ∧ b < wr.heap.size) ∧ ¬ F2 w0.heap.size
theorem fk_start {w w0 wN : World} {F : Nat → Prop} {tb mb : Nat} {cs : List Ent} (_hT : TbA w F tb mb cs) {D : DataW Value} (hD : D = .map (toE (vals cs))) (hN : TbA wN (fun b => w.heap.size ≤ b ∧ b < wN.heap.size) (w.heap.size + 1) w.heap.size []) (ha : After w wN) (hg : wN.grownBy w0 none) : FkI w wN F cs (w.heap.size + 1) w.heap.size (Maps.has D) w0 := by
  have h0 : After wN w0 := ⟨hg.os, hg.tape, hg.output, hg.size, fun k hk => hg.block k hk (by simp)⟩
  refine ⟨ha.trans h0, _, [], hN.after h0, ?_, fun b hb => ⟨hb.1, Nat.lt_of_lt_of_le hb.2 h0.size⟩, fun h => by omega⟩
  rw [gone_all (fun p hp => ?_)]
  · rfl
  · rw [hD, has_E, fhas_vals]
    unfold fhas
    exact List.any_eq_true.2 ⟨p, hp, by simp⟩
theorem fk_step {w w0 wr w1 : World} {F : Nat → Prop} {tb mb : Nat} {cs : List Ent} {tb2 mb2 : Nat} {left : Lit → Bool} (h : FkI w w0 F cs tb2 mb2 left wr) (hT : TbA w F tb mb cs) (hcs : TOk (fls cs)) (hF : ∀ b, F b → b < w.heap.size) {nm : Dsk.Nm} {ao : Option Addr} {m c : Nat} {l : List H} (hm : (nm, (.slice ao m c, l)) ∈ cs) (hlm : l.length = m) (hg : wr.grownBy w1 (some w0.heap.size)) (hw0 : w.heap.size ≤ w0.heap.size) (hw0r : w0.heap.size < w1.heap.size) {n cnt : Nat} {D : DataW Value} (hr : w1.ranges Try.prog 9 Rv mb w0.heap.size n D (fun z => left z && !z.sameKey (.string nm)) cnt) :
    Calls Try.prog 112 #[.pointer (some ⟨tb2, 0, none⟩), .string (strOf nm), .slice ao m c] w1 fun e w2 => e = .returned (.tuple #[]) ∧ FkI w w0 F cs tb2 mb2 (fun z => left z && !z.sameKey (.string nm)) w2 ∧ w2.ranges Try.prog 9 Rv mb w0.heap.size n D (fun z => left z && !z.sameKey (.string nm)) cnt := by
  obtain ⟨ha, F2, cs2, k1, k2, k3, k4⟩ := h
  have hf : (nm, l) ∈ fls cs := List.mem_map.2 ⟨_, hm, rfl⟩
  have hkr : KeptF (fun b => b = w0.heap.size) wr w1 := KeptF.of_grown hg (fun b e => (Option.some.inj e).symm)
  have a1 : After w w1 := Below.trans ha (hkr.below ha.size (fun b hb => by rw [hb]; exact hw0))
  have t1 := k1.kept hkr (fun b _ hb e => k4 (e ▸ hb))
  have hen := (hT.after a1).ent _ hm
  obtain ⟨a', c', e', hs, hz, _⟩ := hen
  simp only at e' hs
  rw [hlm] at e'
  cases e'
  have hmb : mb < w.heap.size := hF _ hT.fmb
  have hmb2 : w.heap.size ≤ mb2 := (k3 _ k1.fmb).1
  refine (lay35 (nm := nm) (nmB_len (hcs.nam _ hf)) (by have h1 := gone_len left (fls cs); rw [← k2, fls_len] at h1; have := hcs.few; omega) (hcs.l32 _ hf) hlm (by have := mayB_len (hcs.may _ hf); simp only at this; omega) hz hs t1).mono (fun e w2 ⟨he, v, hT2, hK2⟩ => ⟨he, ⟨?_, _, _, hT2, ?_, fun b hb => ?_, fun hb => ?_⟩, ?_⟩)
  · exact Below.trans a1 (hK2.below a1.size (fun b hb => by rw [hb]; exact hmb2))
  · rw [fls_put, k2]; exact (gone_step hcs.ris hf).symm
  · rcases hb with hb | hb
    · have := k3 b hb; have := hg.size; have := hK2.size; exact ⟨by omega, by omega⟩
    · have := a1.size; exact ⟨by omega, by omega⟩
  · rcases hb with hb | hb
    · exact k4 hb
    · omega
  · exact hr.kept (row := some mb2) ⟨hK2.os, hK2.tape, hK2.output, hK2.size, fun k hk hne => hK2.block k hk (fun e => hne (by rw [e]))⟩ (fun e => by have := Option.some.inj e; omega) (fun e => k4 (by rw [Option.some.inj e]; exact k1.fmb))
end Go.Proofs.Ytcmcapcagblafaa
