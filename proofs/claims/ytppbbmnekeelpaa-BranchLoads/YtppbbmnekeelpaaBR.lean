/-
  A FORK (19); BranchForks (5).
-/
import Derived.Test.YtppbbmnekeelpaaBP
namespace Go.Proofs.Ytppbbmnekeelpaa
open Go.RowKit Go.Maps Dsk
attribute [local go_sem] Oper.semAt_some
theorem x_al27 {oi : Oper} {a : Act} {w : World} (hop : oi.op = .alloc 27) : (execOp a.eval oi).run Try.prog w = .ok (.value (.pointer (some ⟨w.heap.size, 0, none⟩))) (w.alloc (.cells #[.slice none 0 0] 27)) := by
  have hz : (zeroValue 27).run Try.prog w = .ok (.agg #[.slice none 0 0]) w := by kernel_rfl
  unfold execOp
  simp only [hop]
  simp [go_sem, hz, Value.cells]
/-- Entries but for those that are left. -/
def gone (left : Lit → Bool) (S : Tb) : Tb := S.filter fun p => !left (.string p.1)
theorem gone_rising {left : Lit → Bool} {S : Tb} (h : rising S) : rising (gone left S) := List.Pairwise.filter _ h
theorem gone_none {left : Lit → Bool} (h : ∀ z, left z = false) (S : Tb) : gone left S = S := by
  unfold gone; rw [List.filter_eq_self]; intro p _; simp [h]
theorem gone_all {left : Lit → Bool} {S : Tb} (h : ∀ p ∈ S, left (.string p.1) = true) : gone left S = [] := by
  unfold gone; rw [List.filter_eq_nil_iff]; intro p hp; simp [h p hp]
theorem gone_step {left : Lit → Bool} {S : Tb} (hr : rising S) {nm : Dsk.Nm} {l : List H} (hm : (nm, l) ∈ S) : gone (fun z => left z && !z.sameKey (.string nm)) S = fput nm l (gone left S) := by
  have sk : ∀ a : Dsk.Nm, (Lit.string a).sameKey (.string nm) = (a == nm) := fun _ => rfl
  refine eq_of_mem (gone_rising hr) (fput_rising _ _ (gone_rising hr)) (fun p => ?_)
  rw [fput_mem]
  unfold gone
  simp only [List.mem_filter, sk, Bool.not_and, Bool.not_not, Bool.or_eq_true, Bool.not_eq_true', beq_iff_eq]
  constructor
  · rintro ⟨hp, h | h⟩
    · by_cases e : p.1 = nm
      · left
        obtain ⟨a, b⟩ := p
        simp only at e
        subst e
        have h1 := rising_get hr hp
        have h2 := rising_get hr hm
        rw [h1] at h2; cases h2; rfl
      · exact .inr ⟨⟨hp, h⟩, e⟩
    · left
      obtain ⟨a, b⟩ := p
      simp only at h
      subst h
      have h1 := rising_get hr hp
      have h2 := rising_get hr hm
      rw [h1] at h2; cases h2; rfl
  · rintro (rfl | ⟨⟨hp, h⟩, _⟩)
    · exact ⟨hm, .inr rfl⟩
    · exact ⟨hp, .inl h⟩
theorem gone_len (left : Lit → Bool) (S : Tb) : (gone left S).length ≤ S.length := List.length_filter_le _ _
section
variable {w : World} {ops : Array Oper} {rest : List Oper} {o : Oper} {a : Act} {Q : Exit → Act → World → Prop}
/-- The step of a range over the table's map. -/
theorem wpList_next_tab (hg : o.guard = none) (it : Operand) (hop : o.op = Op.next it false) (mb r n : Nat) (cs : List Ent) (F : Nat → Prop) (W0 : World) (hen : ∀ c ∈ cs, EnAt W0 F c) (left : Lit → Bool) (cnt : Nat) (hit : a.eval it = .pointer (some ⟨r, 0, none⟩))
    (h : w.ranges Try.prog 9 Rv mb r n (.map (toE (vals cs))) left cnt)
    (hDone : cnt = 0 → (∀ kl, left kl = false) → wpList Try.prog ops Q rest (a.put o.dst (.tuple #[.bool false])) w)
    (hMore : ∀ (nm : Dsk.Nm) (ao : Option Addr) (m c : Nat) (l : List H) (w' : World) (cnt' : Nat), (nm, (.slice ao m c, l)) ∈ cs → l.length = m → left (.string nm) = true →
      w'.ranges Try.prog 9 Rv mb r n (.map (toE (vals cs))) (fun z => left z && !z.sameKey (.string nm)) cnt' → cnt' < cnt → w.grownBy w' (some r) → w'.heap.size = w.heap.size →
      (Instr.entry (.pointer (some ⟨r, 0, none⟩))).run Try.prog w' = .ok (.tuple #[.string (strOf nm), .slice ao m c]) w' →
      wpList Try.prog ops Q rest (a.put o.dst (.tuple #[.bool true, .string (strOf nm), .slice ao m c])) w') :
    wpList Try.prog ops Q (o :: rest) a w := by
  refine wpList_plain hg fun K' hK' => ?_
  unfold Oper.wp
  rcases h.next law9 o.type with ⟨h0, hl, hrun⟩ | ⟨key, v, kl, y, w', cnt', hkey, hlk, hv, hat, hrun, hrg, hlt, hgr, hsz, hen2⟩
  · simp [execOp, hop, hit, hrun, Result.andThen]
    exact hK' _ _ (hDone h0 hl)
  · obtain ⟨nm, hx, hkl, _⟩ := Maps.keyOf_str Try.underlying9 hkey
    subst hx
    subst hkl
    have ex : Go.Proofs.encStr nm = .string (strOf nm) := rfl
    rw [ex] at hrun hen2
    obtain ⟨y1, y2⟩ := y
    have hy := Rv_inv hv
    have h1 := hat .nil
    rw [at_E] at h1
    cases hgv : fget nm (vals cs) with
    | none => rw [hgv] at h1; simp only at h1; rw [hy] at h1; cases h1
    | some v' =>
      rw [hgv] at h1
      simp only at h1
      rw [hy] at h1
      simp only [DataW.held.injEq] at h1
      subst h1
      rw [fget_vals] at hgv
      obtain ⟨⟨v2, l⟩, hgc, e⟩ := Option.map_eq_some_iff.1 hgv
      simp only at e
      subst e
      have hm := fget_mem hgc
      obtain ⟨ao, k, e2, _⟩ := hen _ hm
      simp only at e2
      subst e2
      simp [execOp, hop, hit, hrun, Result.andThen]
      exact hK' _ _ (hMore nm ao l.length k l w' cnt' hm rfl hlk hrg hlt hgr hsz hen2)
end
/-- How far a fork has come. -/
structure FkI (w w0 : World) (F : Nat → Prop) (cs : List Ent) (tb2 mb2 : Nat) (left : Lit → Bool) (wr : World) : Prop where
  aft : After w wr
  new : ∃ F2 cs2, TbA wr F2 tb2 mb2 cs2 ∧ fls cs2 = gone left (fls cs) ∧ (∀ b, F2 b → w.heap.size ≤ b ∧ b < wr.heap.size) ∧ ¬ F2 w0.heap.size
theorem fk_start {w w0 wN : World} {F : Nat → Prop} {tb mb : Nat} {cs : List Ent} (_hT : TbA w F tb mb cs) {D : DataW Value} (hD : D = .map (toE (vals cs))) (hN : TbA wN (fun b => w.heap.size ≤ b ∧ b < wN.heap.size) (w.heap.size + 1) w.heap.size []) (ha : After w wN) (hg : wN.grownBy w0 none) : FkI w wN F cs (w.heap.size + 1) w.heap.size (Maps.has D) w0 := by
  have h0 : After wN w0 := ⟨hg.os, hg.tape, hg.output, hg.size, fun k hk => hg.block k hk (by simp)⟩
  refine ⟨ha.trans h0, _, [], hN.after h0, ?_, fun b hb => ⟨hb.1, Nat.lt_of_lt_of_le hb.2 h0.size⟩, fun h => by omega⟩
  rw [gone_all (fun p hp => ?_)]
  · rfl
  · rw [hD, has_E, fhas_vals]
    unfold fhas
    exact List.any_eq_true.2 ⟨p, hp, by simp⟩
theorem fk_step {w w0 wr w1 : World} {F : Nat → Prop} {tb mb : Nat} {cs : List Ent} {tb2 mb2 : Nat} {left : Lit → Bool} (h : FkI w w0 F cs tb2 mb2 left wr) (hT : TbA w F tb mb cs) (hcs : TOk (fls cs)) (hF : ∀ b, F b → b < w.heap.size) {nm : Dsk.Nm} {ao : Option Addr} {m c : Nat} {l : List H} (hm : (nm, (.slice ao m c, l)) ∈ cs) (hlm : l.length = m) (hg : wr.grownBy w1 (some w0.heap.size)) (hw0 : w.heap.size ≤ w0.heap.size) (hw0r : w0.heap.size < w1.heap.size) {n cnt : Nat} {D : DataW Value} (hr : w1.ranges Try.prog 9 Rv mb w0.heap.size n D (fun z => left z && !z.sameKey (.string nm)) cnt) :
    Calls Try.prog 35 #[.pointer (some ⟨tb2, 0, none⟩), .string (strOf nm), .slice ao m c] w1 fun e w2 => e = .returned (.tuple #[]) ∧ FkI w w0 F cs tb2 mb2 (fun z => left z && !z.sameKey (.string nm)) w2 ∧ w2.ranges Try.prog 9 Rv mb w0.heap.size n D (fun z => left z && !z.sameKey (.string nm)) cnt := by
  obtain ⟨ha, F2, cs2, k1, k2, k3, k4⟩ := h
  have hf : (nm, l) ∈ fls cs := List.mem_map.2 ⟨_, hm, rfl⟩
  have hkr : KeptF (fun b => b = w0.heap.size) wr w1 := KeptF.of_grown hg (fun b e => (Option.some.inj e).symm)
  have a1 : After w w1 := Below.trans ha (hkr.below ha.size (fun b hb => by rw [hb]; exact hw0))
  have t1 := k1.kept hkr (fun b _ hb e => k4 (e ▸ hb))
  have hen := (hT.after a1).ent _ hm
  obtain ⟨a', c', e', hs, hz, _⟩ := hen
  simp only at e' hs
  rw [hlm] at e'
  cases e'
  have hmb : mb < w.heap.size := hF _ hT.fmb
  have hmb2 : w.heap.size ≤ mb2 := (k3 _ k1.fmb).1
  refine (lay35 (nm := nm) (nmB_len (hcs.nam _ hf)) (by have h1 := gone_len left (fls cs); rw [← k2, fls_len] at h1; have := hcs.few; omega) (hcs.l32 _ hf) hlm (by have := mayB_len (hcs.may _ hf); simp only at this; omega) hz hs t1).mono (fun e w2 ⟨he, v, hT2, hK2⟩ => ⟨he, ⟨?_, _, _, hT2, ?_, fun b hb => ?_, fun hb => ?_⟩, ?_⟩)
  · exact Below.trans a1 (hK2.below a1.size (fun b hb => by rw [hb]; exact hmb2))
  · rw [fls_put, k2]; exact (gone_step hcs.ris hf).symm
  · rcases hb with hb | hb
    · have := k3 b hb; have := hg.size; have := hK2.size; exact ⟨by omega, by omega⟩
    · have := a1.size; exact ⟨by omega, by omega⟩
  · rcases hb with hb | hb
    · exact k4 hb
    · omega
  · exact hr.kept (row := some mb2) ⟨hK2.os, hK2.tape, hK2.output, hK2.size, fun k hk hne => hK2.block k hk (fun e => hne (by rw [e]))⟩ (fun e => by have := Option.some.inj e; omega) (fun e => k4 (by rw [Option.some.inj e]; exact k1.fmb))
set_option maxRecDepth 100000 in
set_option maxHeartbeats 3200000 in
theorem fork19 {F : Nat → Prop} {tb mb : Nat} {cs : List Ent} (hcs : TOk (fls cs)) {w : World} (hF : ∀ b, F b → b < w.heap.size) (hT : TbA w F tb mb cs) : Calls Try.prog 19 #[.pointer (some ⟨tb, 0, none⟩)] w fun e w' => ∃ tb2 mb2 F2 cs2, e = .returned (.pointer (some ⟨tb2, 0, none⟩)) ∧ TbA w' F2 tb2 mb2 cs2 ∧ fls cs2 = fls cs ∧ (∀ b, F2 b → w.heap.size ≤ b ∧ b < w'.heap.size) ∧ After w w' := by
  have HT : Hid (TbA w F tb mb cs ∧ TOk (fls cs) ∧ ∀ b, F b → b < w.heap.size) := ⟨hT, hcs, hF⟩
  clear hT hcs hF
  obtain ⟨mb2, hmb2⟩ : ∃ mb2, w.heap.size = mb2 := ⟨_, rfl⟩
  obtain ⟨tb2, htb2⟩ : ∃ tb2, mb2 + 1 = tb2 := ⟨_, rfl⟩
  have HN : Hid (w.heap.size = mb2 ∧ mb2 + 1 = tb2) := ⟨hmb2, htb2⟩
  have HC9 := show Hid _ from new9 w
  clear hmb2 htb2
  go_enter Try.func19, Try.ntmps19
  go_wp2_with (first
    | (go_at_call 9; refine Calls.mono HC9.out ?_; rintro e wN ⟨rfl, h1, h2⟩; have HB := show Hid (TbA wN (fun b => w.heap.size ≤ b ∧ b < wN.heap.size) (w.heap.size + 1) w.heap.size [] ∧ After w wN) from ⟨h1, h2⟩; have c1 := (HT.out.1.after h2).row.cell (j := 0) rfl; clear h1 h2; rw [HN.out.1, HN.out.2]; obtain ⟨r, hr⟩ : ∃ r, wN.heap.size = r := ⟨_, rfl⟩; have HRR := show Hid (wN.heap.size = r) from hr; clear hr)
    | (at_range; refine wpList_range_own _ rfl _ 60 rfl 9 30 law9 Try.underlying60 Rv mb cs.length (.map (toE (vals cs))) rfl (HT.out.1.after HB.out.2).own ?_; intro w0 hrg0 hg0 hs0)
    | go_in)
  go_frame
  have HRG0 : Hid (w0.ranges Try.prog 9 Rv mb wN.heap.size cs.length (.map (toE (vals cs))) (Maps.has (.map (toE (vals cs)))) _) := hrg0
  have HF0 := show Hid _ from fk_start HT.out.1 rfl HB.out.1 HB.out.2 hg0
  clear hrg0 hg0 hs0
  rw [HN.out.1, HN.out.2] at HF0
  rw [HRR.out] at HRG0
  simp only [HRR.out]
  go_loopw [4] (fun _ wr => ∃ left cnt, Hid (wr.ranges Try.prog 9 Rv mb r cs.length (.map (toE (vals cs))) left cnt) ∧ Hid (FkI w wN F cs tb2 mb2 left wr)) (fun _ wr => wr.rangeLeft mb r)
  case atStart => exact ⟨_, _, HRG0, HF0⟩
  case round =>
    obtain ⟨left, cnt, hrg, HI⟩ := hrel
    go_wp2_with (first | (at_next; refine wpList_next_tab rfl _ rfl mb r cs.length cs F w HT.out.1.ent left cnt rfl hrg.out ?_ ?_) | go_in)
    · intro _ hl0
      have HL0 := show Hid (∀ kl, left kl = false) from hl0
      clear hl0
      go_wp2
      go_ret
      obtain ⟨F2, cs2, k1, k2, k3, _⟩ := HI.out.new
      exact ⟨_, _, F2, cs2, rfl, k1, by rw [k2, gone_none HL0.out], k3, HI.out.aft⟩
    · intro nm ao m c l w1 cnt1 hm hlm hlk hrg1 hlt hg1 hs1 hen
      have hrlt : wN.heap.size < w1.heap.size := by rw [HRR.out]; exact hrg1.lt
      have CL := show Hid _ from fk_step HI.out HT.out.1 HT.out.2.1 HT.out.2.2 hm hlm (by rw [HRR.out]; exact hg1) HB.out.2.size hrlt (by rw [HRR.out]; exact hrg1)
      rw [HRR.out] at CL
      have HM : Hid (cnt1 < cnt) := hlt
      clear hm hlm hlk hrg1 hlt hg1 hs1 hrlt
      go_wp2_with (go_at_call 35; refine Calls.mono CL.out ?_; rintro e w2 ⟨rfl, k1, k2⟩; have H2 := show Hid _ from k1; have HR2 : Hid (w2.ranges Try.prog 9 Rv mb r cs.length (.map (toE (vals cs))) (fun z => left z && !z.sameKey (.string nm)) cnt1) := k2; clear k1 k2)
      go_roundw
      case rel => exact ⟨_, _, HR2, H2⟩
      case measure => rw [HR2.out.left_eq, hrg.out.left_eq]; exact HM.out
end Go.Proofs.Ytppbbmnekeelpaa
