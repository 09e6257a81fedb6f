/-
  WHAT A ROW OF CALLS LEAVES; BranchPlays (3).
-/
import Derived.Test.YtppbbmnekeelpaaPO
namespace Go.Proofs.Ytppbbmnekeelpaa
open Go.RowKit Dsk
attribute [local go_sem] Oper.semAt_some
theorem x_idx22 {oi : Oper} {a : Act} {w : World} {x y : Operand} {b f n c i : Nat} (hop : oi.op = .indexAddr 22 x y) (hx : a.eval x = .slice (some ⟨b, f, none⟩) n c) (hy : a.eval y = .int .i64 (i : Int)) (hk : i < n) : (execOp a.eval oi).run Try.prog w = .ok (.value (.pointer (some ⟨b, f + i * 3, none⟩))) w := x_idxT (e := 32) (k := 3) Try.underlying22 (by kernel_rfl) hop hx hy hk
theorem size32 (x : Ac) : (Try.prog.info? 32).map (·.size) = some (acv x).length := by show _ = some 3; kernel_rfl
theorem x_ld32 {oi : Oper} {a : Act} {w : World} {x : Operand} {g p : Nat} {y : Ac} (hop : oi.op = .load 32 x) (hx : a.eval x = .pointer (some ⟨g, p, none⟩)) (hc : w.rangeAt g p (acv y)) : (execOp a.eval oi).run Try.prog w = .ok (.value (.agg (acv y).toArray)) w := by
  unfold execOp
  simp only [hop, hx, Instr.loadAt, Instr.sureAddr, Sem.run_bind, Sem.run_pure, Result.andThen_ok, run_loadVar_mid w g p 32 (acv y) _ hc Try.underlying32 rfl (size32 y)]
theorem range_kept {W W' : World} {G : Nat → Prop} {b o : Nat} {l : List Value} (hr : W.rangeAt b o l) (hk : KeptF G W W') (hG : ¬ G b) : W'.rangeAt b o l := fun j v hv => by
  have hc := hr j v hv
  exact Eq.trans (World.cell?_of_block (w := W) (show W'.heap[(⟨b, o + j, none⟩ : Addr).block]? = W.heap[(⟨b, o + j, none⟩ : Addr).block]? from hk.block b (World.block_lt_of_cell? W _ hc) hG)) hc
theorem uni_ac (l : List Ac) : Uni 3 (l.map acv) := fun x hx => by obtain ⟨y, _, rfl⟩ := List.mem_map.1 hx; rfl
/-- How things stand behind some calls: the table, and the reference's one in its box gr. -/
structure PlI (w : World) (tb mb gr : Nat) (F : Nat → Prop) (a : Option Addr) (n c : Nat) (cs : List Ent) (X : List Bx) (wr : World) : Prop where
  aft : After w wr
  tab : TbA wr F tb mb cs
  ref : RT wr a n c X
  box : RowIs wr gr 27 [.slice a n c]
  eq : bof X = fls cs
  ok : TOk (fls cs)
  fs : ∀ b, F b → w.heap.size ≤ b ∧ b < wr.heap.size
  ngr : ¬ F gr
  gge : w.heap.size ≤ gr
  nt : NT gr a X
theorem PlI.after {w wr w' : World} {tb mb gr n c : Nat} {F : Nat → Prop} {a : Option Addr} {cs : List Ent} {X : List Bx} (h : PlI w tb mb gr F a n c cs X wr) (ha : After wr w') : PlI w tb mb gr F a n c cs X w' :=
  ⟨h.aft.trans ha, h.tab.after ha, h.ref.after ha, h.box.below ha h.box.lt, h.eq, h.ok, fun b hb => ⟨(h.fs b hb).1, Nat.lt_of_lt_of_le (h.fs b hb).2 ha.size⟩, h.ngr, h.gge, h.nt⟩
theorem pl_step {w wr w1 : World} {tb mb gr n c n' c' : Nat} {F : Nat → Prop} {a a' : Option Addr} {cs : List Ent} {X : List Bx} {x : Ac} (h : PlI w tb mb gr F a n c cs X wr) (h32 : All32 x.l) (hD : DoP wr F tb mb a X (stS (fls cs) x) w1 a' n' c') : ∃ cs' X', RowIs w1 gr 27 [.slice a n c] ∧ PlI w tb mb gr (more F wr w1) a' n' c' cs' X' (w1.setRow gr #[.slice a' n' c']) ∧ KeptF (fun b => b = mb ∨ b = gr) wr w1 ∧ KeptF (fun b => b = mb ∨ b = gr) wr (w1.setRow gr #[.slice a' n' c']) ∧ fls cs' = stS (fls cs) x := by
  obtain ⟨X', cs', k1, k2, k3, k4, k5, k6⟩ := hD
  have hmr : gr ≠ mb := fun e => h.ngr (e ▸ h.tab.fmb)
  have hb1 : RowIs w1 gr 27 [.slice a n c] := k5.row h.box hmr
  have hlt : gr < wr.heap.size := h.box.lt
  have kk : KeptF (fun b => b = gr) w1 (w1.setRow gr #[.slice a' n' c']) := ⟨rfl, rfl, rfl, by rw [size_setRow]; exact Nat.le_refl _, fun b _ hb => setRow_other _ _ _ _ hb⟩
  have k7 : KeptF (fun b => b = mb ∨ b = gr) wr w1 := k5.mono (fun _ _ h => .inl h)
  refine ⟨cs', X', hb1, ?_, k7, k7.trans kk (fun _ _ h => .inr h), k1⟩
  refine ⟨?_, k3.kept kk (fun b _ hm e => ?_), k4.kept kk (fun g e => by rw [e]; exact k6 gr hlt h.nt), hb1.setRow _, by rw [k1, k2], by rw [k1]; exact stS_ok h.ok h32, fun b hm => ?_, fun hm => ?_, h.gge, k6 gr hlt h.nt⟩
  · refine Below.trans (Below.trans h.aft (k5.below h.aft.size (fun b hb => ?_))) (kk.below (Nat.le_trans h.aft.size k5.size) (fun b hb => by rw [hb]; exact h.gge))
    rw [hb]; exact (h.fs mb h.tab.fmb).1
  · rw [e] at hm
    rcases hm with hm | hm
    · exact h.ngr hm
    · omega
  · have hs : w1.heap.size ≤ (w1.setRow gr #[.slice a' n' c']).heap.size := kk.size
    rcases hm with hm | hm
    · have := h.fs b hm; have := k5.size; exact ⟨by omega, by omega⟩
    · have := h.aft.size; exact ⟨by omega, by omega⟩
  · rcases hm with hm | hm
    · exact h.ngr hm
    · omega
theorem PlI.same {w wr : World} {tb mb gr n c : Nat} {F : Nat → Prop} {a : Option Addr} {cs : List Ent} {X : List Bx} (h : PlI w tb mb gr F a n c cs X wr) : Calls Try.prog 11 #[.pointer (some ⟨tb, 0, none⟩), .agg #[.slice a n c]] wr fun e w' => e = .returned (.bool true) ∧ After wr w' := by
  have := same11 (S := fls cs) (fun W hW => list23 h.ok (h.tab.after hW)) h.ok.few h.ref.at_ h.ref.len (c := c)
  rw [h.eq, decide_eq_true rfl] at this
  exact this
theorem pl_start {w w1 : World} (hT : TbA w1 (fun b => w.heap.size ≤ b ∧ b < w1.heap.size) (w.heap.size + 1) w.heap.size []) (ha : After w w1) : PlI w (w.heap.size + 1) w.heap.size w1.heap.size (fun b => w.heap.size ≤ b ∧ b < w1.heap.size) none 0 0 [] [] (w1.alloc (.cells #[.slice none 0 0] 27)) := by
  have h2 := after_alloc (After.refl w1) (.cells #[.slice none 0 0] 27)
  exact ⟨ha.trans h2, hT.after h2, ⟨BsAt.nil _ _, rfl, Nat.le_refl _, fun _ => rfl⟩, RowIs.new w1 27 [.slice none 0 0], rfl, TOk.nil, fun b hb => ⟨hb.1, by have := h2.size; omega⟩, fun h => by omega, ha.size, ⟨fun _ h => (by cases h), fun _ h => by simp at h⟩⟩
theorem same_self {l : List H} (h32 : All32 l) (hs : l.length ≤ 16) {a b : Option Addr} {n m c d : Nat} (hn : l.length = n) (hm : l.length = m) {w : World} (ha : SlAt w 32 a (hsL l)) (hb : SlAt w 32 b (hsL l)) : Calls Try.prog 14 #[.slice a n c, .slice b m d] w fun e w' => e = .returned (.bool true) ∧ After w w' :=
  (rsame31 (la := l) (lb := l) (ca := c) (cb := d) h32 h32 hn hm (by omega) ha hb).mono (fun e w' ⟨he, h⟩ => ⟨by rw [he]; simp, h⟩)
set_option maxRecDepth 100000 in
set_option maxHeartbeats 12800000 in
theorem plays3 {la : Option Addr} {ca n : Nat} {l : List Ac} {nm : Dsk.Nm} (hl : l.length = n) (hn : n * 48 ≤ 140737488355328) (hnm : nm.length ≤ maxLen) {w : World} (hA : AcsAt w la l) : Calls Try.prog 3 #[.slice la n ca, .string (strOf nm)] w fun e w' => e = .returned (.bool true) ∧ After w w' := by
  have HL : Hid (AcsAt w la l ∧ l.length = n ∧ nm.length ≤ maxLen) := ⟨hA, hl, hnm⟩
  clear hA hl hnm
  obtain ⟨mb, hmb⟩ : ∃ mb, w.heap.size = mb := ⟨_, rfl⟩
  obtain ⟨tb, htb⟩ : ∃ tb, mb + 1 = tb := ⟨_, rfl⟩
  have HC9 := show Hid _ from new9 w
  have HN : Hid (w.heap.size = mb ∧ mb + 1 = tb) := ⟨hmb, htb⟩
  clear hmb htb
  go_enter Try.func3, Try.ntmps3
  go_wp2_with (first
    | (go_at_call 9; refine Calls.mono HC9.out ?_; rintro e w1 ⟨rfl, h1, h2⟩; have h3 := pl_start h1 h2; rw [HN.out.1, HN.out.2] at h3 ⊢; obtain ⟨F0, hF0⟩ : ∃ F0 : Nat → Prop, (fun b => mb ≤ b ∧ b < w1.heap.size) = F0 := ⟨_, rfl⟩; rw [hF0] at h3; clear hF0; obtain ⟨gr, hgr⟩ : ∃ gr, w1.heap.size = gr := ⟨_, rfl⟩; obtain ⟨w2, hw2⟩ : ∃ w2, w1.alloc (.cells #[.slice none 0 0] 27) = w2 := ⟨_, rfl⟩; rw [hgr, hw2] at h3; have H0 := show Hid (PlI w tb mb gr F0 none 0 0 [] [] w2) from h3; clear h1 h2 h3)
    | (rw [hw2]; rw [hgr]))
  clear hw2 hgr
  go_loopw [7, 8] (fun okv iv wr => ∃ (i : Nat) (F : Nat → Prop) (ra : Option Addr) (rn rc : Nat) (cs : List Ent) (X : List Bx), i ≤ n ∧ okv = .bool true ∧ iv = .int .i64 (i : Int) ∧ Hid (PlI w tb mb gr F ra rn rc cs X wr)) (fun _ iv _ => n - (intOf iv).toNat)
  case atStart => exact ⟨0, F0, none, 0, 0, [], [], Nat.zero_le _, rfl, rfl, H0⟩
  case round =>
    obtain ⟨i, F, ra, rn, rc, cs, X, hin, rfl, rfl, HP⟩ := hrel
    by_cases hlt : i < n
    · have hii : (i : Int) < (n : Int) := by omega
      have HLT : Hid (i < n) := hlt
      obtain ⟨x, hx⟩ : ∃ x, l[i]? = some x := ⟨_, List.getElem?_eq_getElem (by rw [HL.out.2.1]; exact hlt)⟩
      have hxm := HL.out.1.2 x (List.mem_of_getElem? hx)
      obtain ⟨ab, ao, hla, hlr⟩ := HL.out.1.1.at (i := i) (x := acv x) (by rw [List.getElem?_map, hx]; rfl)
      subst hla
      have HPD : Hid (PlI w tb mb gr F ra rn rc cs X wr.drew) := HP.out.after (After.drew (After.refl wr))
      have HX : Hid (wr.rangeAt ab (ao + i * 3) (acv x) ∧ ¬ (ab = mb ∨ ab = gr) ∧ AcAt wr.drew x) := by
        have hlt2 : ab < w.heap.size := range_lt hlr (by simp [acv])
        refine ⟨range_after hlr HP.out.aft, fun h => ?_, hxm.ck (CK.of_after (HP.out.aft.trans (After.drew (After.refl wr))))⟩
        rcases h with h | h
        · have := (HP.out.fs mb HP.out.tab.fmb).1; omega
        · have := HP.out.gge; omega
      clear hx hxm hlr

      go_wp2_with fail
      refine wp_region_noPanic ?_
      refine wp_region_held_drew (S := KeptF (fun b => b = mb ∨ b = gr) wr) (by kernel_rfl) (KeptF.of_after (After.drew (After.refl wr))) ?_
      intro hS0
      refine tk 0 23 (.pointer (some ⟨tb, 0, none⟩)) (fuel := 11) rfl (by kernel_rfl) (by kernel_rfl) (by kernel_rfl) (by kernel_rfl) noPanic_false (by kernel_rfl) (fun _ _ => by kernel_rfl) hS0 ?_
      refine tk 2 25 (.slice (some ⟨ab, ao, none⟩) n ca) (fuel := 10) rfl (by kernel_rfl) (by kernel_rfl) (by kernel_rfl) (by kernel_rfl) noPanic_false (by kernel_rfl) (fun _ _ => by kernel_rfl) hS0 ?_
      refine tk 3 26 (.int .i64 (i : Int)) (fuel := 9) rfl (by kernel_rfl) (by kernel_rfl) (by kernel_rfl) (by kernel_rfl) noPanic_false (by kernel_rfl) (fun _ _ => by kernel_rfl) hS0 ?_
      refine tk 4 27 (.pointer (some ⟨ab, ao + i * 3, none⟩)) (fuel := 8) rfl (by kernel_rfl) (by kernel_rfl) (by kernel_rfl) (by kernel_rfl) noPanic_false (by kernel_rfl) (fun W _ => x_idx22 (n := n) (c := ca) (x := .tmp 25) (y := .tmp 26) (by kernel_rfl) (by kernel_rfl) (by kernel_rfl) HLT.out) hS0 ?_
      refine tk 5 28 (.agg (acv x).toArray) (fuel := 7) rfl (by kernel_rfl) (by kernel_rfl) (by kernel_rfl) (by kernel_rfl) noPanic_false (by kernel_rfl) (fun W hW => x_ld32 (x := .tmp 27) (g := ab) (p := ao + i * 3) (by kernel_rfl) (by kernel_rfl) (range_kept HX.out.1 hW HX.out.2.1)) hS0 ?_
      refine tkRunS 1 24 (.agg #[.slice ra rn rc]) (wr.drew) (fuel := 6) rfl (by kernel_rfl) (by kernel_rfl) (by kernel_rfl) (x_ld27 (x := .tmp 6) (g := gr) (by kernel_rfl) (by kernel_rfl) HPD.out.box) (hS0) ?_
      refine tkCallZ 6 29 10 #[.pointer (some ⟨tb, 0, none⟩), .agg #[.slice ra rn rc], .agg (acv x).toArray] (fun v w' => ∃ a' n' c', v = .tuple #[.agg #[.slice a' n' c'], .bool true] ∧ DoP wr.drew F tb mb ra X (stS (fls cs) x) w' a' n' c') (fuel := 5) rfl (by kernel_rfl) (by kernel_rfl) (by kernel_rfl) (fun _ => by kernel_rfl) ((do10 (fun b hb => (HPD.out.fs b hb).2) HPD.out.tab HPD.out.ok HPD.out.ref HPD.out.eq HX.out.2.2).mono (fun e w' ⟨a', n', c', he, hD⟩ => ⟨_, he, a', n', c', rfl, hD⟩)) ?_
      intro v1 w1 ⟨a', n', c', hv1, hD⟩
      subst hv1
      obtain ⟨cs', X', hrow, hP', hk1, hk2, hfl⟩ := pl_step HPD.out HX.out.2.2.l32 hD
      have hk0 := hS0.trans hk1 (fun _ _ h => h)
      refine ⟨hk0, ?_⟩
      refine tk 7 22 (.tuple #[.agg #[.slice a' n' c'], .bool true]) (fuel := 4) rfl (by kernel_rfl) (by kernel_rfl) (by kernel_rfl) (by kernel_rfl) noPanic_false (by kernel_rfl) (fun _ _ => by kernel_rfl) hk0 ?_
      refine tk 8 30 (.agg #[.slice a' n' c']) (fuel := 3) rfl (by kernel_rfl) (by kernel_rfl) (by kernel_rfl) (by kernel_rfl) noPanic_false (by kernel_rfl) (fun _ _ => by kernel_rfl) hk0 ?_
      refine tk 9 31 (.bool true) (fuel := 2) rfl (by kernel_rfl) (by kernel_rfl) (by kernel_rfl) (by kernel_rfl) noPanic_false (by kernel_rfl) (fun _ _ => by kernel_rfl) hk0 ?_
      refine tkStoreS 10 (w1.setRow gr #[.slice a' n' c']) (fuel := 1) rfl (by kernel_rfl) (by kernel_rfl) (by kernel_rfl) (x_stR (x := .tmp 6) (y := .tmp 30) (g := gr) (cells := #[.slice a' n' c']) (by kernel_rfl) (by kernel_rfl) (by kernel_rfl) hrow (size27 a' n' c') rfl (one27 a' n' c')) (hS0.trans hk2 (fun _ _ h => h)) ?_
      refine tk 11 7 (.bool true) (fuel := 0) rfl (by kernel_rfl) (by kernel_rfl) (by kernel_rfl) (by kernel_rfl) noPanic_false (by kernel_rfl) (fun _ _ => by kernel_rfl) (hS0.trans hk2 (fun _ _ h => h)) ?_
      refine wpAnyH_done (by kernel_rfl) (NoPanic.normal ?_) _
      have HP1 := show Hid (PlI w tb mb gr (more F wr.drew w1) a' n' c' cs' X' (w1.setRow gr #[.slice a' n' c'])) from hP'
      obtain ⟨wn, hwn⟩ : ∃ wn, w1.setRow gr #[.slice a' n' c'] = wn := ⟨_, rfl⟩
      rw [hwn] at HP1 ⊢
      have HFL := show Hid (fls cs' = stS (fls cs) x) from hfl
      clear hS0 hD hrow hP' hk1 hk2 hk0 hwn hfl
      go_simp
      go_wp2_with (first
        | (refine wpListG_of_run (by kernel_rfl) (x_ld27 (x := .tmp 6) (g := gr) rfl (by kernel_rfl) HP1.out.box) ?_)
        | (go_at_call 11; refine Calls.mono HP1.out.same ?_; rintro e w3 ⟨rfl, h3⟩; have HP3 := show Hid _ from HP1.out.after h3; clear h3))
      go_roundw
      case rel => exact ⟨i + 1, _, a', n', c', cs', X', by omega, rfl, by go_num, HP3⟩
      case measure => simp [intOf]; omega
    · have hii : ¬ (i : Int) < (n : Int) := by omega
      obtain ⟨E, hE⟩ : ∃ E : Nat, dlE (fls cs) nm = E := ⟨_, rfl⟩
      obtain ⟨hl0, hhl⟩ : ∃ hl0, (fget nm (fls cs)).getD [] = hl0 := ⟨_, rfl⟩
      have C12 := show Hid _ from heads12 (nm := nm) HL.out.2.2 HP.out.ok HP.out.tab
      have C13 : Hid (∀ W, After wr W → Calls Try.prog 13 #[.agg #[.slice ra rn rc], .string (strOf nm)] W fun e w' => ∃ a' n' c', e = .returned (.tuple #[.slice a' n' c', .int .i64 (dlE (fls cs) nm : Int)]) ∧ n' = ((fget nm (fls cs)).getD []).length ∧ SlAt w' 32 a' (hsL ((fget nm (fls cs)).getD [])) ∧ After W w') := fun W hW => by
        have := rheads13 (nm := nm) (a := ra) (n := rn) (c := rc) (X := X) (by rw [HP.out.eq]; exact HP.out.ok) (HP.out.ref.after hW)
        rw [HP.out.eq] at this
        exact this
      rw [hE, hhl] at C12 C13
      have H32 : Hid (All32 hl0 ∧ hl0.length ≤ 16) := by
        rw [← hhl]
        cases hg : fget nm (fls cs) with
        | none => exact ⟨all_nil, by simp⟩
        | some y => exact ⟨HP.out.ok.l32 _ (fget_mem hg), mayB_len (HP.out.ok.may _ (fget_mem hg))⟩
      clear hE hhl
      go_wp2_with (first
        | (go_at_call 12; refine Calls.mono C12.out ?_; rintro e w3 ⟨pa, pn, pc, rfl, k1, k2, k3, _⟩; obtain ⟨pa', pc', pe, ps⟩ := k2.sl; injection pe with pe1 pe2 pe3; subst pe1 pe3; clear pe2; have H3 := show Hid (pn = hl0.length ∧ SlAt w3 32 pa (hsL hl0) ∧ After wr w3 ∧ RowIs w3 gr 27 [.slice ra rn rc]) from ⟨k1, ps, k3, HP.out.box.below k3 HP.out.box.lt⟩; clear k1 k2 k3 ps)
        | (refine wpList_load_row rfl 27 (.tmp 6) rfl gr (by kernel_rfl) 27 #[.slice ra rn rc] (0, 0) _ H3.out.2.2.2 Try.underlying27 rfl (size27 ra rn rc) ?_)
        | (go_at_call 13; refine Calls.mono (C13.out w3 H3.out.2.2.1) ?_; rintro e w4 ⟨qa, qn, qc, rfl, k1, k2, k3⟩; have H4 := show Hid (qn = hl0.length ∧ SlAt w4 32 qa (hsL hl0) ∧ After wr w4 ∧ SlAt w4 32 pa (hsL hl0)) from ⟨k1, k2, H3.out.2.2.1.trans k3, H3.out.2.1.after k3⟩; clear k1 k2 k3)
        | (go_at_call 14; refine Calls.mono (same_self H32.out.1 H32.out.2 H3.out.1.symm H4.out.1.symm H4.out.2.2.2 H4.out.2.1) ?_; rintro e w5 ⟨rfl, h5⟩; have HP5 := show Hid _ from HP.out.after (H4.out.2.2.1.trans h5); clear h5)
        | (refine wpListG_of_run (by kernel_rfl) (x_ld27 (x := .tmp 6) (g := gr) rfl (by kernel_rfl) HP5.out.box) ?_)
        | (go_at_call 11; refine Calls.mono HP5.out.same ?_; rintro e w6 ⟨rfl, h6⟩; have HP6 := show Hid _ from HP5.out.after h6; clear h6)
        | (go_at_call 15; refine Calls.mono (awake15 w6) ?_; rintro e w7 ⟨rfl, h7⟩; have H7 := show Hid (After w w7) from HP6.out.aft.trans h7; clear h7))
      go_ret
      exact ⟨rfl, H7.out⟩
end Go.Proofs.Ytppbbmnekeelpaa
