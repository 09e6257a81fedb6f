/-
  branch.Load (17).
-/
import Derived.Test.YtcmcapcagblafaaBU
namespace Go.Proofs.Ytcmcapcagblafaa
open Go.RowKit Go.Maps Dsk
attribute [local go_sem] Oper.semAt_some
/-- The lists that are tables. -/
structure LOk (S : Tb) : Prop where
  ris : rising S
  few : S.length ≤ 64
  each : ∀ p ∈ S, nmB p.1 = true ∧ mayB p.2 = true
theorem TOk.lok {S : Tb} (h : TOk S) : LOk S := ⟨h.ris, h.few, fun p hp => ⟨h.nam p hp, h.may p hp⟩⟩
theorem lok_take {S : Tb} (h : LOk S) (i : Nat) {p : Dsk.Nm × List H} (hp : S[i]? = some p) : crE (S.take i) p.1 p.2 = 0 := by
  have hi := (List.getElem?_eq_some_iff.1 hp).1
  obtain ⟨h1, h2⟩ := h.each p (List.mem_of_getElem? hp)
  have h3 : fhas p.1 (S.take i) = false := fhas_false (fun q hq => by
    obtain ⟨j, hj⟩ := List.getElem?_of_mem hq
    rw [List.getElem?_take] at hj
    split at hj
    · rename_i hji
      have := (List.pairwise_iff_getElem.1 h.ris) j i (by omega) hi hji
      rw [(List.getElem?_eq_some_iff.1 hj).2, (List.getElem?_eq_some_iff.1 hp).2] at this
      exact bb_ne this
    · cases hj)
  have h4 : ¬ 64 ≤ (S.take i).length := by rw [List.length_take]; have := h.few; omega
  unfold crE
  rw [h1, h2, h3]
  simp
  rw [List.length_take] at h4
  omega
theorem fput_end {S : Tb} (_hr : rising S) {nm : Dsk.Nm} {l : List H} (h : ∀ p ∈ S, bytesBefore p.1 nm = true) : fput nm l S = S ++ [(nm, l)] := by
  have hd : fdel nm S = S := fdel_all (fun p hp => bb_ne (h p hp))
  have key : ∀ T : Tb, (∀ p ∈ T, bytesBefore p.1 nm = true) → fins (nm, l) T = T ++ [(nm, l)] := fun T => by
    induction T with
    | nil => intro _; rfl
    | cons y r ih =>
      intro hT
      show (if bytesBefore nm y.1 = true then _ else _) = _
      rw [bb_asym (hT y (by simp))]
      simp [ih (fun p hp => hT p (by simp [hp]))]
  unfold fput
  rw [hd, key S h]
theorem cr_parts {S : Tb} {nm : Dsk.Nm} {l : List H} (h : crE S nm l = 0) : nmB nm = true ∧ mayB l = true ∧ S.length < 64 := by
  unfold crE at h
  split at h
  · cases h
  · rename_i h1
    split at h
    · cases h
    · rename_i h2
      split at h
      · cases h
      · split at h
        · cases h
        · exact ⟨by simpa using h1, by simpa using h2, by omega⟩
/-- One more. -/
theorem lok_next {S : Tb} {i : Nat} {nm : Dsk.Nm} {l : List H} (hp : S[i]? = some (nm, l)) (hT : TOk (S.take i)) (hadj : ∀ q, i ≠ 0 → S[i - 1]? = some q → bytesBefore q.1 nm = true) (hE : crE (S.take i) nm l = 0) : crS (S.take i) nm l = S.take (i + 1) := by
  have hi := (List.getElem?_eq_some_iff.1 hp).1
  have h1 : ∀ p ∈ S.take i, bytesBefore p.1 nm = true := fun p hq => by
    obtain ⟨j, hj⟩ := List.getElem?_of_mem hq
    have hjl := (List.getElem?_eq_some_iff.1 hj).1
    rw [List.length_take] at hjl
    have hj2 : S[j]? = some p := by
      rw [List.getElem?_take] at hj
      split at hj
      · exact hj
      · cases hj
    obtain ⟨q, hq'⟩ : ∃ q, S[i - 1]? = some q := ⟨_, List.getElem?_eq_getElem (by omega)⟩
    have h2 := hadj q (by omega) hq'
    by_cases e : j = i - 1
    · subst e; rw [hj2] at hq'; cases hq'; exact h2
    · have hq3 : (S.take i)[i - 1]? = some q := by rw [List.getElem?_take, if_pos (by omega)]; exact hq'
      have h3 := (List.pairwise_iff_getElem.1 hT.ris) j (i - 1) (by rw [List.length_take]; omega) (by rw [List.length_take]; omega) (by omega)
      rw [(List.getElem?_eq_some_iff.1 hj).2, (List.getElem?_eq_some_iff.1 hq3).2] at h3
      exact bb_trans h3 h2
  unfold crS
  rw [hE, if_pos rfl, fput_end hT.ris h1, List.take_add_one, hp]
  rfl
theorem lok_bad {S : Tb} {i : Nat} {p q : Dsk.Nm × List H} (hi : i ≠ 0) (hp : S[i]? = some p) (hq : S[i - 1]? = some q) (h : bytesBefore q.1 p.1 = false) : ¬ LOk S := fun hk => by
  have h1 := (List.getElem?_eq_some_iff.1 hp)
  have h2 := (List.getElem?_eq_some_iff.1 hq)
  have := (List.pairwise_iff_getElem.1 hk.ris) (i - 1) i h2.1 h1.1 (by omega)
  rw [h1.2, h2.2, h] at this
  cases this
theorem x_gtr0 {oi : Oper} {a : Act} {w : World} {x : Operand} {k : Nat} (hop : oi.op = .binOp .gtr 3 x (.const (.int .i64 0)) 3) (hx : a.eval x = .int .i64 (k : Int)) : (execOp a.eval oi).run Try.prog w = .ok (.value (.bool (decide (0 < k)))) w := by
  have hk : a.eval (.const (.int .i64 0)) = .int .i64 0 := rfl
  unfold execOp
  simp only [hop, hx, hk]
  by_cases h : 0 < k
  · simp [go_sem, h]
  · simp [go_sem, h]
/-- What Load tells. -/
def LdP (w : World) (S : Tb) (e : Ending) (w' : World) : Prop := (LOk S ∧ ∃ tb mb F cs, e = .returned (.tuple #[.pointer (some ⟨tb, 0, none⟩), .int .i64 0]) ∧ TbI w tb mb F cs w' ∧ fls cs = S) ∨ (¬ LOk S ∧ e = .returned (.tuple #[.pointer none, .int .i64 4]) ∧ After w w')
theorem x_ne34 {oi : Oper} {a : Act} {w : World} {x : Operand} {k : Nat} (h : k ≠ 0) (hop : oi.op = .binOp .neq 27 x (.const (.int .i64 0)) 27) (hx : a.eval x = .int .i64 (k : Int)) : (execOp a.eval oi).run Try.prog w = .ok (.value (.bool true)) w := by
  have hk : a.eval (.const (.int .i64 0)) = .int .i64 0 := rfl
  unfold execOp
  simp only [hop, hx, hk]
  simp [go_sem, h]
set_option maxRecDepth 100000 in
set_option maxHeartbeats 25600000 in
theorem load17 {la : Option Addr} {ca n : Nat} {X : List Bx} (hl : X.length = n) (hn : n * 40 ≤ 140737488355328) (hnm : ∀ x ∈ X, x.nm.length ≤ maxLen) {w : World} (hA : BsAt w la X) : Calls Try.prog 70 #[.slice la n ca] w (LdP w (bof X)) := by
  have HL : Hid (BsAt w la X ∧ X.length = n ∧ (∀ x ∈ X, x.nm.length ≤ maxLen)) := ⟨hA, hl, hnm⟩
  clear hA hl hnm
  obtain ⟨mb, hmb⟩ : ∃ mb, w.heap.size = mb := ⟨_, rfl⟩
  obtain ⟨tb, htb⟩ : ∃ tb, mb + 1 = tb := ⟨_, rfl⟩
  have HC9 := show Hid _ from new9 w
  have HN : Hid (w.heap.size = mb ∧ mb + 1 = tb) := ⟨hmb, htb⟩
  clear hmb htb
  go_enter Try.func70, Try.ntmps70
  go_wp2_with (go_at_call 86; refine Calls.mono HC9.out ?_; rintro e w1 ⟨rfl, h1, h2⟩; rw [HN.out.1, HN.out.2] at h1 ⊢; have H1 := show Hid (TbI w tb mb (fun b => mb ≤ b ∧ b < w1.heap.size) [] w1) from ⟨h2, h1, TOk.nil, fun b hb => ⟨by rw [HN.out.1]; exact hb.1, hb.2⟩⟩; clear h1 h2)
  go_loopw [10] (fun iv wr => ∃ (i : Nat) (F : Nat → Prop) (cs : List Ent), i ≤ n ∧ iv = .int .i64 (i : Int) ∧ Hid (TbI w tb mb F cs wr ∧ fls cs = (bof X).take i)) (fun iv _ => n - (intOf iv).toNat)
  case atStart => exact ⟨0, _, [], Nat.zero_le _, rfl, H1.out, rfl⟩
  case round =>
    obtain ⟨i, F, cs, hin, rfl, HPP⟩ := hrel
    have HP := show Hid _ from HPP.out.1
    have HFL := show Hid _ from HPP.out.2
    clear HPP
    by_cases hlt : i < n
    · have hii : (i : Int) < (n : Int) := by omega
      have HLT : Hid (i < n) := hlt
      obtain ⟨x, hx⟩ : ∃ x, X[i]? = some x := ⟨_, List.getElem?_eq_getElem (by rw [HL.out.2.1]; exact hlt)⟩
      have hxb := HL.out.1.each x (List.mem_of_getElem? hx)
      obtain ⟨xb, xo, hla, hlr⟩ := HL.out.1.sl.at (bs_get hx)
      subst hla
      obtain ⟨p, hp⟩ : ∃ p, x.l.length = p := ⟨_, rfl⟩
      have hxlt : xb < w.heap.size := range_lt hlr (by simp [brc])
      have HX : Hid (wr.rangeAt xb (xo + i * 2) (brc x)) := range_after hlr HP.out.aft
      have HXA : Hid (BxAt w x ∧ x.nm.length ≤ maxLen ∧ x.l.length = p) := ⟨hxb, HL.out.2.2 x (List.mem_of_getElem? hx), hp⟩
      obtain ⟨w2, hw2⟩ : ∃ w2, (wr.alloc (.cells (brc zbx).toArray 65)).setRow wr.heap.size (brc x).toArray = w2 := ⟨_, rfl⟩
      have hbb := put48 hw2
      obtain ⟨gb, hgb⟩ : ∃ gb, wr.heap.size = gb := ⟨_, rfl⟩
      have HB := show Hid _ from hbb
      have HGW := show Hid _ from hw2
      rw [hgb] at HB HGW
      have HGA := show Hid (wr.heap.size = gb) from hgb
      have hb' := HB.out.2.1
      unfold brc Bx.v at hb'
      rw [hp] at hb'
      have HBR := show Hid (RowIs w2 gb 65 [.string (strOf x.nm), .slice x.a p x.c]) from hb'
      have HP2 := show Hid _ from HP.out.after HB.out.2.2
      have HNE : Hid (¬ xb = mb ∧ ¬ gb = mb) := ⟨fun e => by have := (HP.out.fs mb HP.out.tab.fmb).1; omega, fun e => by have := (HP.out.fs mb HP.out.tab.fmb).2; have := HGA.out; omega⟩
      have HBO : Hid ((bof X)[i]? = some (x.nm, x.l) ∧ True) := ⟨bof_get hx, trivial⟩
      obtain ⟨E, hE⟩ : ∃ E : Nat, crE (fls cs) x.nm x.l = E := ⟨_, rfl⟩
      have HE : Hid (crE (fls cs) x.nm x.l = E) := hE
      clear hx hxb hlr hp hxlt hw2 hbb hgb hb' hE
      by_cases hi0 : i = 0
      · have HI0 : Hid (decide (0 < i) = false) := by rw [hi0]; exact (rfl : decide (0 < 0) = false)
        have HBO : Hid ((bof X)[i]? = some (x.nm, x.l) ∧ ∀ q, i ≠ 0 → (bof X)[i - 1]? = some q → bytesBefore q.1 x.nm = true) := ⟨HBO.out.1, fun q h => absurd hi0 h⟩
        clear hi0
        go_wp2_with (first
          | (refine wpList_of_run rfl (x_idx25 (x := .tmp 8) (y := .tmp 10) (b := xb) (f := xo) (n := n) (c := ca) (i := i) rfl (by kernel_rfl) (by kernel_rfl) HLT.out) ?_)
          | (refine wpList_of_run rfl (x_ld48 (x := .tmp 13) (g := xb) (p := xo + i * 2) (y := x) rfl (by kernel_rfl) HX.out) ?_)
          | (refine wpList_of_run rfl (x_al48 rfl) ?_; rw [HGA.out])
          | (refine wpList_store_row rfl 65 (.tmp 6) (.tmp 14) rfl gb (brc x).toArray (by kernel_rfl) (by kernel_rfl) 65 _ HB.out.1 (size48 x) rfl (by simpa using brc_one x) ?_; rw [HGW.out]))
        by_cases hE0 : E = 0
        · subst hE0
          refine wp_region_noPanic ?_
          refine wp_region_held_drew (S := KeptF (fun b => b = mb) w2) (by kernel_rfl) (KeptF.of_after (After.drew (After.refl w2))) ?_
          intro hS0
          refine tk 0 15 (.int .i64 (i : Int)) (fuel := 21) rfl (by kernel_rfl) (by kernel_rfl) (by kernel_rfl) (by kernel_rfl) noPanic_false (by kernel_rfl) (fun _ _ => by kernel_rfl) hS0 ?_
          refine tk 1 16 (.bool false) (fuel := 20) rfl (by kernel_rfl) (by kernel_rfl) (by kernel_rfl) (by kernel_rfl) noPanic_false (by kernel_rfl) (fun W _ => (x_gtr0 (x := .tmp 15) (k := i) (by kernel_rfl) (by kernel_rfl)).trans (by rw [HI0.out])) hS0 ?_
          refine tk 2 17 (.bool false) (fuel := 19) rfl (by kernel_rfl) (by kernel_rfl) (by kernel_rfl) (by kernel_rfl) noPanic_false (by kernel_rfl) (fun _ _ => by kernel_rfl) hS0 ?_
          refine tkSkip 3 18 (fuel := 18) rfl (by kernel_rfl) (by kernel_rfl) (by kernel_rfl) (by kernel_rfl) noPanic_false (by kernel_rfl) hS0 ?_
          refine tkSkip 4 19 (fuel := 17) rfl (by kernel_rfl) (by kernel_rfl) (by kernel_rfl) (by kernel_rfl) noPanic_false (by kernel_rfl) hS0 ?_
          refine tkSkip 5 20 (fuel := 16) rfl (by kernel_rfl) (by kernel_rfl) (by kernel_rfl) (by kernel_rfl) noPanic_false (by kernel_rfl) hS0 ?_
          refine tkSkip 6 21 (fuel := 15) rfl (by kernel_rfl) (by kernel_rfl) (by kernel_rfl) (by kernel_rfl) noPanic_false (by kernel_rfl) hS0 ?_
          refine tkSkip 7 22 (fuel := 14) rfl (by kernel_rfl) (by kernel_rfl) (by kernel_rfl) (by kernel_rfl) noPanic_false (by kernel_rfl) hS0 ?_
          refine tkSkip 8 23 (fuel := 13) rfl (by kernel_rfl) (by kernel_rfl) (by kernel_rfl) (by kernel_rfl) noPanic_false (by kernel_rfl) hS0 ?_
          refine tkSkip 9 24 (fuel := 12) rfl (by kernel_rfl) (by kernel_rfl) (by kernel_rfl) (by kernel_rfl) noPanic_false (by kernel_rfl) hS0 ?_
          refine tkSkip 10 25 (fuel := 11) rfl (by kernel_rfl) (by kernel_rfl) (by kernel_rfl) (by kernel_rfl) noPanic_false (by kernel_rfl) hS0 ?_
          refine tkSkip 11 26 (fuel := 10) rfl (by kernel_rfl) (by kernel_rfl) (by kernel_rfl) (by kernel_rfl) noPanic_false (by kernel_rfl) hS0 ?_
          refine tk 12 27 (.bool false) (fuel := 9) rfl (by kernel_rfl) (by kernel_rfl) (by kernel_rfl) (by kernel_rfl) noPanic_false (by kernel_rfl) (fun _ _ => by kernel_rfl) hS0 ?_
          refine tk 13 28 (.bool false) (fuel := 8) rfl (by kernel_rfl) (by kernel_rfl) (by kernel_rfl) (by kernel_rfl) noPanic_false (by kernel_rfl) (fun _ _ => by kernel_rfl) hS0 ?_
          refine tk 14 29 (.pointer (some ⟨tb, 0, none⟩)) (fuel := 7) rfl (by kernel_rfl) (by kernel_rfl) (by kernel_rfl) (by kernel_rfl) noPanic_false (by kernel_rfl) (fun _ _ => by kernel_rfl) hS0 ?_
          refine tk 15 30 (.pointer (some ⟨gb, 0, none⟩)) (fuel := 6) rfl (by kernel_rfl) (by kernel_rfl) (by kernel_rfl) (by kernel_rfl) noPanic_false (by kernel_rfl) (fun _ _ => by kernel_rfl) hS0 ?_
          refine tk 16 31 (.string (strOf x.nm)) (fuel := 5) rfl (by kernel_rfl) (by kernel_rfl) (by kernel_rfl) (by kernel_rfl) noPanic_false (by kernel_rfl) (fun W hW => x_loadT (x := .tmp 30) (t := 9) (g := gb) (j := 0) Try.underlying9 rfl (by kernel_rfl) (by kernel_rfl) ((hW.row HBR.out HNE.out.2).cell (j := 0) rfl)) hS0 ?_
          refine tk 17 32 (.pointer (some ⟨gb, 1, none⟩)) (fuel := 4) rfl (by kernel_rfl) (by kernel_rfl) (by kernel_rfl) (by kernel_rfl) noPanic_false (by kernel_rfl) (fun _ _ => by kernel_rfl) hS0 ?_
          refine tk 18 33 (.slice x.a p x.c) (fuel := 3) rfl (by kernel_rfl) (by kernel_rfl) (by kernel_rfl) (by kernel_rfl) noPanic_false (by kernel_rfl) (fun W hW => x_loadT (x := .tmp 32) (t := 39) (g := gb) (j := 1) Try.underlying39 rfl (by kernel_rfl) (by kernel_rfl) ((hW.row HBR.out HNE.out.2).cell (j := 1) rfl)) hS0 ?_
          refine tkCallZ 19 34 87 #[.pointer (some ⟨tb, 0, none⟩), .string (strOf x.nm), .slice x.a p x.c] (fun v w' => v = .int .i64 0 ∧ ∃ cs', fls cs' = crS (fls cs) x.nm x.l ∧ TbA w' (more F w2.drew w') tb mb cs' ∧ KeptF (fun b => b = mb) w2.drew w') (fuel := 2) rfl (by kernel_rfl) (by kernel_rfl) (by kernel_rfl) (fun _ => by kernel_rfl) ((create20 (nm := x.nm) HXA.out.2.1 HP2.out.ok HXA.out.1.l32 HXA.out.2.2 HXA.out.1.z (HXA.out.1.sl.after (HP2.out.aft.trans (After.drew (After.refl w2)))) (HP2.out.tab.after (After.drew (After.refl w2)))).mono (fun e w' ⟨he, h⟩ => ⟨_, he, by rw [HE.out] <;> rfl, h⟩)) ?_
          intro v1 w1 ⟨hv1, cs', k1, k2, k3⟩
          subst hv1
          refine ⟨hS0.trans k3 (fun _ _ h => h), ?_⟩
          refine tk 20 35 (.bool false) (fuel := 1) rfl (by kernel_rfl) (by kernel_rfl) (by kernel_rfl) (by kernel_rfl) noPanic_false (by kernel_rfl) (fun _ _ => by kernel_rfl) (hS0.trans k3 (fun _ _ h => h)) ?_
          refine tk 21 36 (.bool false) (fuel := 0) rfl (by kernel_rfl) (by kernel_rfl) (by kernel_rfl) (by kernel_rfl) noPanic_false (by kernel_rfl) (fun _ _ => by kernel_rfl) (hS0.trans k3 (fun _ _ h => h)) ?_
          refine wpAnyH_done (by kernel_rfl) (NoPanic.normal ?_) _
          have hcr := lok_next (S := bof X) (i := i) (nm := x.nm) (l := x.l) HBO.out.1 (by rw [← HFL.out]; exact HP.out.ok) HBO.out.2 (by rw [← HFL.out]; exact HE.out)
          rw [← HFL.out] at hcr
          rw [hcr] at k1
          have HN : Hid (TbI w tb mb _ cs' w1 ∧ fls cs' = (bof X).take (i + 1)) := ⟨(HP2.out.after (After.drew (After.refl w2))).call k2 k3 (by rw [k1, ← hcr]; exact HP.out.ok.cr _ _ HXA.out.1.l32), k1⟩
          clear hS0 k1 k2 k3 hcr
          go_simp
          go_wp2
          go_roundw
          case rel => exact ⟨i + 1, _, cs', by omega, by go_num, HN⟩
          case measure => simp [intOf]; omega
        · have hne : ¬ (E : Int) = 0 := by omega
          refine wp_region_noPanic ?_
          refine wp_region_held_drew (S := KeptF (fun b => b = mb) w2) (by kernel_rfl) (KeptF.of_after (After.drew (After.refl w2))) ?_
          intro hS0
          refine tk 0 15 (.int .i64 (i : Int)) (fuel := 21) rfl (by kernel_rfl) (by kernel_rfl) (by kernel_rfl) (by kernel_rfl) noPanic_false (by kernel_rfl) (fun _ _ => by kernel_rfl) hS0 ?_
          refine tk 1 16 (.bool false) (fuel := 20) rfl (by kernel_rfl) (by kernel_rfl) (by kernel_rfl) (by kernel_rfl) noPanic_false (by kernel_rfl) (fun W _ => (x_gtr0 (x := .tmp 15) (k := i) (by kernel_rfl) (by kernel_rfl)).trans (by rw [HI0.out])) hS0 ?_
          refine tk 2 17 (.bool false) (fuel := 19) rfl (by kernel_rfl) (by kernel_rfl) (by kernel_rfl) (by kernel_rfl) noPanic_false (by kernel_rfl) (fun _ _ => by kernel_rfl) hS0 ?_
          refine tkSkip 3 18 (fuel := 18) rfl (by kernel_rfl) (by kernel_rfl) (by kernel_rfl) (by kernel_rfl) noPanic_false (by kernel_rfl) hS0 ?_
          refine tkSkip 4 19 (fuel := 17) rfl (by kernel_rfl) (by kernel_rfl) (by kernel_rfl) (by kernel_rfl) noPanic_false (by kernel_rfl) hS0 ?_
          refine tkSkip 5 20 (fuel := 16) rfl (by kernel_rfl) (by kernel_rfl) (by kernel_rfl) (by kernel_rfl) noPanic_false (by kernel_rfl) hS0 ?_
          refine tkSkip 6 21 (fuel := 15) rfl (by kernel_rfl) (by kernel_rfl) (by kernel_rfl) (by kernel_rfl) noPanic_false (by kernel_rfl) hS0 ?_
          refine tkSkip 7 22 (fuel := 14) rfl (by kernel_rfl) (by kernel_rfl) (by kernel_rfl) (by kernel_rfl) noPanic_false (by kernel_rfl) hS0 ?_
          refine tkSkip 8 23 (fuel := 13) rfl (by kernel_rfl) (by kernel_rfl) (by kernel_rfl) (by kernel_rfl) noPanic_false (by kernel_rfl) hS0 ?_
          refine tkSkip 9 24 (fuel := 12) rfl (by kernel_rfl) (by kernel_rfl) (by kernel_rfl) (by kernel_rfl) noPanic_false (by kernel_rfl) hS0 ?_
          refine tkSkip 10 25 (fuel := 11) rfl (by kernel_rfl) (by kernel_rfl) (by kernel_rfl) (by kernel_rfl) noPanic_false (by kernel_rfl) hS0 ?_
          refine tkSkip 11 26 (fuel := 10) rfl (by kernel_rfl) (by kernel_rfl) (by kernel_rfl) (by kernel_rfl) noPanic_false (by kernel_rfl) hS0 ?_
          refine tk 12 27 (.bool false) (fuel := 9) rfl (by kernel_rfl) (by kernel_rfl) (by kernel_rfl) (by kernel_rfl) noPanic_false (by kernel_rfl) (fun _ _ => by kernel_rfl) hS0 ?_
          refine tk 13 28 (.bool false) (fuel := 8) rfl (by kernel_rfl) (by kernel_rfl) (by kernel_rfl) (by kernel_rfl) noPanic_false (by kernel_rfl) (fun _ _ => by kernel_rfl) hS0 ?_
          refine tk 14 29 (.pointer (some ⟨tb, 0, none⟩)) (fuel := 7) rfl (by kernel_rfl) (by kernel_rfl) (by kernel_rfl) (by kernel_rfl) noPanic_false (by kernel_rfl) (fun _ _ => by kernel_rfl) hS0 ?_
          refine tk 15 30 (.pointer (some ⟨gb, 0, none⟩)) (fuel := 6) rfl (by kernel_rfl) (by kernel_rfl) (by kernel_rfl) (by kernel_rfl) noPanic_false (by kernel_rfl) (fun _ _ => by kernel_rfl) hS0 ?_
          refine tk 16 31 (.string (strOf x.nm)) (fuel := 5) rfl (by kernel_rfl) (by kernel_rfl) (by kernel_rfl) (by kernel_rfl) noPanic_false (by kernel_rfl) (fun W hW => x_loadT (x := .tmp 30) (t := 9) (g := gb) (j := 0) Try.underlying9 rfl (by kernel_rfl) (by kernel_rfl) ((hW.row HBR.out HNE.out.2).cell (j := 0) rfl)) hS0 ?_
          refine tk 17 32 (.pointer (some ⟨gb, 1, none⟩)) (fuel := 4) rfl (by kernel_rfl) (by kernel_rfl) (by kernel_rfl) (by kernel_rfl) noPanic_false (by kernel_rfl) (fun _ _ => by kernel_rfl) hS0 ?_
          refine tk 18 33 (.slice x.a p x.c) (fuel := 3) rfl (by kernel_rfl) (by kernel_rfl) (by kernel_rfl) (by kernel_rfl) noPanic_false (by kernel_rfl) (fun W hW => x_loadT (x := .tmp 32) (t := 39) (g := gb) (j := 1) Try.underlying39 rfl (by kernel_rfl) (by kernel_rfl) ((hW.row HBR.out HNE.out.2).cell (j := 1) rfl)) hS0 ?_
          refine tkCallZ 19 34 87 #[.pointer (some ⟨tb, 0, none⟩), .string (strOf x.nm), .slice x.a p x.c] (fun v w' => v = .int .i64 (E : Int) ∧ ∃ cs', fls cs' = crS (fls cs) x.nm x.l ∧ TbA w' (more F w2.drew w') tb mb cs' ∧ KeptF (fun b => b = mb) w2.drew w') (fuel := 2) rfl (by kernel_rfl) (by kernel_rfl) (by kernel_rfl) (fun _ => by kernel_rfl) ((create20 (nm := x.nm) HXA.out.2.1 HP2.out.ok HXA.out.1.l32 HXA.out.2.2 HXA.out.1.z (HXA.out.1.sl.after (HP2.out.aft.trans (After.drew (After.refl w2)))) (HP2.out.tab.after (After.drew (After.refl w2)))).mono (fun e w' ⟨he, h⟩ => ⟨_, he, by rw [HE.out] <;> rfl, h⟩)) ?_
          intro v1 w1 ⟨hv1, cs', k1, k2, k3⟩
          subst hv1
          refine ⟨hS0.trans k3 (fun _ _ h => h), ?_⟩
          refine tk 20 35 (.bool true) (fuel := 1) rfl (by kernel_rfl) (by kernel_rfl) (by kernel_rfl) (by kernel_rfl) noPanic_false (by kernel_rfl) (fun W _ => x_ne34 (k := E) (x := .tmp 34) hE0 (by kernel_rfl) (by kernel_rfl)) (hS0.trans k3 (fun _ _ h => h)) ?_
          refine tk 21 36 (.bool true) (fuel := 0) rfl (by kernel_rfl) (by kernel_rfl) (by kernel_rfl) (by kernel_rfl) noPanic_false (by kernel_rfl) (fun _ _ => by kernel_rfl) (hS0.trans k3 (fun _ _ h => h)) ?_
          refine wpAnyH_done (by kernel_rfl) (NoPanic.normal ?_) _
          have HFI : Hid (After w w1) := ((HP2.out.after (After.drew (After.refl w2))).call (F := F) (cs' := cs') k2 k3 (by rw [k1]; exact HP.out.ok.cr _ _ HXA.out.1.l32)).aft
          have HBAD : Hid (¬ LOk (bof X)) := fun hk => by have h1 := lok_take hk i HBO.out.1; rw [← HFL.out] at h1; simp only at h1; rw [HE.out] at h1; exact hE0 h1
          clear hS0 k1 k2 k3
          go_simp
          go_wp2
          refine bodyPost_ret (v := .tuple #[.pointer none, .int .i64 4]) (by simp [results, Try.results70, go_sem]) rfl (.inr ⟨HBAD.out, rfl, HFI.out⟩)
      · obtain ⟨j, hj⟩ : ∃ j, i = j + 1 := ⟨i - 1, by omega⟩
        have HI0 : Hid (decide (0 < i) = true) := decide_eq_true (by omega)
        have HJ : Hid (i = j + 1 ∧ i < 4611686018427387904 ∧ j < n) := ⟨hj, by omega, by omega⟩
        obtain ⟨y, hy⟩ : ∃ y, X[j]? = some y := ⟨_, List.getElem?_eq_getElem (by rw [HL.out.2.1]; omega)⟩
        obtain ⟨yb, yo, hya, hyr⟩ := HL.out.1.sl.at (bs_get hy)
        cases hya
        have HY : Hid (w2.rangeAt xb (xo + j * 2) (brc y)) := range_after hyr HP2.out.aft
        have HYO : Hid ((bof X)[j]? = some (y.nm, y.l)) := bof_get hy
        clear hj hy hyr hi0
        go_wp2_with (first
          | (refine wpList_of_run rfl (x_idx25 (x := .tmp 8) (y := .tmp 10) (b := xb) (f := xo) (n := n) (c := ca) (i := i) rfl (by kernel_rfl) (by kernel_rfl) HLT.out) ?_)
          | (refine wpList_of_run rfl (x_ld48 (x := .tmp 13) (g := xb) (p := xo + i * 2) (y := x) rfl (by kernel_rfl) HX.out) ?_)
          | (refine wpList_of_run rfl (x_al48 rfl) ?_; rw [HGA.out])
          | (refine wpList_store_row rfl 65 (.tmp 6) (.tmp 14) rfl gb (brc x).toArray (by kernel_rfl) (by kernel_rfl) 65 _ HB.out.1 (size48 x) rfl (by simpa using brc_one x) ?_; rw [HGW.out]))
        by_cases hge : bytesBefore y.nm x.nm = true
        · have HGE : Hid (bytesBefore y.nm x.nm = true) := hge
          have HBO : Hid ((bof X)[i]? = some (x.nm, x.l) ∧ ∀ q, i ≠ 0 → (bof X)[i - 1]? = some q → bytesBefore q.1 x.nm = true) := ⟨HBO.out.1, fun q _ h => by rw [HJ.out.1, Nat.add_sub_cancel, HYO.out] at h; cases h; exact HGE.out⟩
          clear hge
          by_cases hE0 : E = 0
          · subst hE0
            refine wp_region_noPanic ?_
            refine wp_region_held_drew (S := KeptF (fun b => b = mb) w2) (by kernel_rfl) (KeptF.of_after (After.drew (After.refl w2))) ?_
            intro hS0
            refine tk 0 15 (.int .i64 (i : Int)) (fuel := 21) rfl (by kernel_rfl) (by kernel_rfl) (by kernel_rfl) (by kernel_rfl) noPanic_false (by kernel_rfl) (fun _ _ => by kernel_rfl) hS0 ?_
            refine tk 1 16 (.bool true) (fuel := 20) rfl (by kernel_rfl) (by kernel_rfl) (by kernel_rfl) (by kernel_rfl) noPanic_false (by kernel_rfl) (fun W _ => (x_gtr0 (x := .tmp 15) (k := i) (by kernel_rfl) (by kernel_rfl)).trans (by rw [HI0.out])) hS0 ?_
            refine tk 2 17 (.bool true) (fuel := 19) rfl (by kernel_rfl) (by kernel_rfl) (by kernel_rfl) (by kernel_rfl) noPanic_false (by kernel_rfl) (fun _ _ => by kernel_rfl) hS0 ?_
            refine tk 3 18 (.slice (some ⟨xb, xo, none⟩) n ca) (fuel := 18) rfl (by kernel_rfl) (by kernel_rfl) (by kernel_rfl) (by kernel_rfl) noPanic_false (by kernel_rfl) (fun _ _ => by kernel_rfl) hS0 ?_
            refine tk 4 19 (.int .i64 (i : Int)) (fuel := 17) rfl (by kernel_rfl) (by kernel_rfl) (by kernel_rfl) (by kernel_rfl) noPanic_false (by kernel_rfl) (fun _ _ => by kernel_rfl) hS0 ?_
            refine tk 5 20 (.int .i64 (j : Int)) (fuel := 16) rfl (by kernel_rfl) (by kernel_rfl) (by kernel_rfl) (by kernel_rfl) noPanic_false (by kernel_rfl) (fun W _ => x_sub1 (k := i) (i := j) (x := .tmp 19) (by kernel_rfl) (by kernel_rfl) HJ.out.1 HJ.out.2.1) hS0 ?_
            refine tk 6 21 (.pointer (some ⟨xb, xo + j * 2, none⟩)) (fuel := 15) rfl (by kernel_rfl) (by kernel_rfl) (by kernel_rfl) (by kernel_rfl) noPanic_false (by kernel_rfl) (fun W _ => x_idx25 (n := n) (c := ca) (x := .tmp 18) (y := .tmp 20) (by kernel_rfl) (by kernel_rfl) (by kernel_rfl) HJ.out.2.2) hS0 ?_
            refine tk 7 22 (.pointer (some ⟨xb, xo + j * 2, none⟩)) (fuel := 14) rfl (by kernel_rfl) (by kernel_rfl) (by kernel_rfl) (by kernel_rfl) noPanic_false (by kernel_rfl) (fun _ _ => by kernel_rfl) hS0 ?_
            refine tk 8 23 (.string (strOf y.nm)) (fuel := 13) rfl (by kernel_rfl) (by kernel_rfl) (by kernel_rfl) (by kernel_rfl) noPanic_false (by kernel_rfl) (fun W hW => x_loadT (x := .tmp 22) (t := 9) (g := xb) (j := xo + j * 2 + 0) Try.underlying9 rfl (by kernel_rfl) (by kernel_rfl) (range_kept HY.out hW HNE.out.1 0 _ rfl)) hS0 ?_
            refine tk 9 24 (.pointer (some ⟨gb, 0, none⟩)) (fuel := 12) rfl (by kernel_rfl) (by kernel_rfl) (by kernel_rfl) (by kernel_rfl) noPanic_false (by kernel_rfl) (fun _ _ => by kernel_rfl) hS0 ?_
            refine tk 10 25 (.string (strOf x.nm)) (fuel := 11) rfl (by kernel_rfl) (by kernel_rfl) (by kernel_rfl) (by kernel_rfl) noPanic_false (by kernel_rfl) (fun W hW => x_loadT (x := .tmp 24) (t := 9) (g := gb) (j := 0) Try.underlying9 rfl (by kernel_rfl) (by kernel_rfl) ((hW.row HBR.out HNE.out.2).cell (j := 0) rfl)) hS0 ?_
            refine tk 11 26 (.bool false) (fuel := 10) rfl (by kernel_rfl) (by kernel_rfl) (by kernel_rfl) (by kernel_rfl) noPanic_false (by kernel_rfl) (fun W _ => (x_geq9 (s := y.nm) (t := x.nm) (x := .tmp 23) (y := .tmp 25) (by kernel_rfl) (by kernel_rfl) (by kernel_rfl)).trans (by rw [HGE.out]; rfl)) hS0 ?_
            refine tk 12 27 (.bool false) (fuel := 9) rfl (by kernel_rfl) (by kernel_rfl) (by kernel_rfl) (by kernel_rfl) noPanic_false (by kernel_rfl) (fun _ _ => by kernel_rfl) hS0 ?_
            refine tk 13 28 (.bool false) (fuel := 8) rfl (by kernel_rfl) (by kernel_rfl) (by kernel_rfl) (by kernel_rfl) noPanic_false (by kernel_rfl) (fun _ _ => by kernel_rfl) hS0 ?_
            refine tk 14 29 (.pointer (some ⟨tb, 0, none⟩)) (fuel := 7) rfl (by kernel_rfl) (by kernel_rfl) (by kernel_rfl) (by kernel_rfl) noPanic_false (by kernel_rfl) (fun _ _ => by kernel_rfl) hS0 ?_
            refine tk 15 30 (.pointer (some ⟨gb, 0, none⟩)) (fuel := 6) rfl (by kernel_rfl) (by kernel_rfl) (by kernel_rfl) (by kernel_rfl) noPanic_false (by kernel_rfl) (fun _ _ => by kernel_rfl) hS0 ?_
            refine tk 16 31 (.string (strOf x.nm)) (fuel := 5) rfl (by kernel_rfl) (by kernel_rfl) (by kernel_rfl) (by kernel_rfl) noPanic_false (by kernel_rfl) (fun W hW => x_loadT (x := .tmp 30) (t := 9) (g := gb) (j := 0) Try.underlying9 rfl (by kernel_rfl) (by kernel_rfl) ((hW.row HBR.out HNE.out.2).cell (j := 0) rfl)) hS0 ?_
            refine tk 17 32 (.pointer (some ⟨gb, 1, none⟩)) (fuel := 4) rfl (by kernel_rfl) (by kernel_rfl) (by kernel_rfl) (by kernel_rfl) noPanic_false (by kernel_rfl) (fun _ _ => by kernel_rfl) hS0 ?_
            refine tk 18 33 (.slice x.a p x.c) (fuel := 3) rfl (by kernel_rfl) (by kernel_rfl) (by kernel_rfl) (by kernel_rfl) noPanic_false (by kernel_rfl) (fun W hW => x_loadT (x := .tmp 32) (t := 39) (g := gb) (j := 1) Try.underlying39 rfl (by kernel_rfl) (by kernel_rfl) ((hW.row HBR.out HNE.out.2).cell (j := 1) rfl)) hS0 ?_
            refine tkCallZ 19 34 87 #[.pointer (some ⟨tb, 0, none⟩), .string (strOf x.nm), .slice x.a p x.c] (fun v w' => v = .int .i64 0 ∧ ∃ cs', fls cs' = crS (fls cs) x.nm x.l ∧ TbA w' (more F w2.drew w') tb mb cs' ∧ KeptF (fun b => b = mb) w2.drew w') (fuel := 2) rfl (by kernel_rfl) (by kernel_rfl) (by kernel_rfl) (fun _ => by kernel_rfl) ((create20 (nm := x.nm) HXA.out.2.1 HP2.out.ok HXA.out.1.l32 HXA.out.2.2 HXA.out.1.z (HXA.out.1.sl.after (HP2.out.aft.trans (After.drew (After.refl w2)))) (HP2.out.tab.after (After.drew (After.refl w2)))).mono (fun e w' ⟨he, h⟩ => ⟨_, he, by rw [HE.out] <;> rfl, h⟩)) ?_
            intro v1 w1 ⟨hv1, cs', k1, k2, k3⟩
            subst hv1
            refine ⟨hS0.trans k3 (fun _ _ h => h), ?_⟩
            refine tk 20 35 (.bool false) (fuel := 1) rfl (by kernel_rfl) (by kernel_rfl) (by kernel_rfl) (by kernel_rfl) noPanic_false (by kernel_rfl) (fun _ _ => by kernel_rfl) (hS0.trans k3 (fun _ _ h => h)) ?_
            refine tk 21 36 (.bool false) (fuel := 0) rfl (by kernel_rfl) (by kernel_rfl) (by kernel_rfl) (by kernel_rfl) noPanic_false (by kernel_rfl) (fun _ _ => by kernel_rfl) (hS0.trans k3 (fun _ _ h => h)) ?_
            refine wpAnyH_done (by kernel_rfl) (NoPanic.normal ?_) _
            have hcr := lok_next (S := bof X) (i := i) (nm := x.nm) (l := x.l) HBO.out.1 (by rw [← HFL.out]; exact HP.out.ok) HBO.out.2 (by rw [← HFL.out]; exact HE.out)
            rw [← HFL.out] at hcr
            rw [hcr] at k1
            have HN : Hid (TbI w tb mb _ cs' w1 ∧ fls cs' = (bof X).take (i + 1)) := ⟨(HP2.out.after (After.drew (After.refl w2))).call k2 k3 (by rw [k1, ← hcr]; exact HP.out.ok.cr _ _ HXA.out.1.l32), k1⟩
            clear hS0 k1 k2 k3 hcr
            go_simp
            go_wp2
            go_roundw
            case rel => exact ⟨i + 1, _, cs', by omega, by go_num, HN⟩
            case measure => simp [intOf]; omega
          · have hne : ¬ (E : Int) = 0 := by omega
            refine wp_region_noPanic ?_
            refine wp_region_held_drew (S := KeptF (fun b => b = mb) w2) (by kernel_rfl) (KeptF.of_after (After.drew (After.refl w2))) ?_
            intro hS0
            refine tk 0 15 (.int .i64 (i : Int)) (fuel := 21) rfl (by kernel_rfl) (by kernel_rfl) (by kernel_rfl) (by kernel_rfl) noPanic_false (by kernel_rfl) (fun _ _ => by kernel_rfl) hS0 ?_
            refine tk 1 16 (.bool true) (fuel := 20) rfl (by kernel_rfl) (by kernel_rfl) (by kernel_rfl) (by kernel_rfl) noPanic_false (by kernel_rfl) (fun W _ => (x_gtr0 (x := .tmp 15) (k := i) (by kernel_rfl) (by kernel_rfl)).trans (by rw [HI0.out])) hS0 ?_
            refine tk 2 17 (.bool true) (fuel := 19) rfl (by kernel_rfl) (by kernel_rfl) (by kernel_rfl) (by kernel_rfl) noPanic_false (by kernel_rfl) (fun _ _ => by kernel_rfl) hS0 ?_
            refine tk 3 18 (.slice (some ⟨xb, xo, none⟩) n ca) (fuel := 18) rfl (by kernel_rfl) (by kernel_rfl) (by kernel_rfl) (by kernel_rfl) noPanic_false (by kernel_rfl) (fun _ _ => by kernel_rfl) hS0 ?_
            refine tk 4 19 (.int .i64 (i : Int)) (fuel := 17) rfl (by kernel_rfl) (by kernel_rfl) (by kernel_rfl) (by kernel_rfl) noPanic_false (by kernel_rfl) (fun _ _ => by kernel_rfl) hS0 ?_
            refine tk 5 20 (.int .i64 (j : Int)) (fuel := 16) rfl (by kernel_rfl) (by kernel_rfl) (by kernel_rfl) (by kernel_rfl) noPanic_false (by kernel_rfl) (fun W _ => x_sub1 (k := i) (i := j) (x := .tmp 19) (by kernel_rfl) (by kernel_rfl) HJ.out.1 HJ.out.2.1) hS0 ?_
            refine tk 6 21 (.pointer (some ⟨xb, xo + j * 2, none⟩)) (fuel := 15) rfl (by kernel_rfl) (by kernel_rfl) (by kernel_rfl) (by kernel_rfl) noPanic_false (by kernel_rfl) (fun W _ => x_idx25 (n := n) (c := ca) (x := .tmp 18) (y := .tmp 20) (by kernel_rfl) (by kernel_rfl) (by kernel_rfl) HJ.out.2.2) hS0 ?_
            refine tk 7 22 (.pointer (some ⟨xb, xo + j * 2, none⟩)) (fuel := 14) rfl (by kernel_rfl) (by kernel_rfl) (by kernel_rfl) (by kernel_rfl) noPanic_false (by kernel_rfl) (fun _ _ => by kernel_rfl) hS0 ?_
            refine tk 8 23 (.string (strOf y.nm)) (fuel := 13) rfl (by kernel_rfl) (by kernel_rfl) (by kernel_rfl) (by kernel_rfl) noPanic_false (by kernel_rfl) (fun W hW => x_loadT (x := .tmp 22) (t := 9) (g := xb) (j := xo + j * 2 + 0) Try.underlying9 rfl (by kernel_rfl) (by kernel_rfl) (range_kept HY.out hW HNE.out.1 0 _ rfl)) hS0 ?_
            refine tk 9 24 (.pointer (some ⟨gb, 0, none⟩)) (fuel := 12) rfl (by kernel_rfl) (by kernel_rfl) (by kernel_rfl) (by kernel_rfl) noPanic_false (by kernel_rfl) (fun _ _ => by kernel_rfl) hS0 ?_
            refine tk 10 25 (.string (strOf x.nm)) (fuel := 11) rfl (by kernel_rfl) (by kernel_rfl) (by kernel_rfl) (by kernel_rfl) noPanic_false (by kernel_rfl) (fun W hW => x_loadT (x := .tmp 24) (t := 9) (g := gb) (j := 0) Try.underlying9 rfl (by kernel_rfl) (by kernel_rfl) ((hW.row HBR.out HNE.out.2).cell (j := 0) rfl)) hS0 ?_
            refine tk 11 26 (.bool false) (fuel := 10) rfl (by kernel_rfl) (by kernel_rfl) (by kernel_rfl) (by kernel_rfl) noPanic_false (by kernel_rfl) (fun W _ => (x_geq9 (s := y.nm) (t := x.nm) (x := .tmp 23) (y := .tmp 25) (by kernel_rfl) (by kernel_rfl) (by kernel_rfl)).trans (by rw [HGE.out]; rfl)) hS0 ?_
            refine tk 12 27 (.bool false) (fuel := 9) rfl (by kernel_rfl) (by kernel_rfl) (by kernel_rfl) (by kernel_rfl) noPanic_false (by kernel_rfl) (fun _ _ => by kernel_rfl) hS0 ?_
            refine tk 13 28 (.bool false) (fuel := 8) rfl (by kernel_rfl) (by kernel_rfl) (by kernel_rfl) (by kernel_rfl) noPanic_false (by kernel_rfl) (fun _ _ => by kernel_rfl) hS0 ?_
            refine tk 14 29 (.pointer (some ⟨tb, 0, none⟩)) (fuel := 7) rfl (by kernel_rfl) (by kernel_rfl) (by kernel_rfl) (by kernel_rfl) noPanic_false (by kernel_rfl) (fun _ _ => by kernel_rfl) hS0 ?_
            refine tk 15 30 (.pointer (some ⟨gb, 0, none⟩)) (fuel := 6) rfl (by kernel_rfl) (by kernel_rfl) (by kernel_rfl) (by kernel_rfl) noPanic_false (by kernel_rfl) (fun _ _ => by kernel_rfl) hS0 ?_
            refine tk 16 31 (.string (strOf x.nm)) (fuel := 5) rfl (by kernel_rfl) (by kernel_rfl) (by kernel_rfl) (by kernel_rfl) noPanic_false (by kernel_rfl) (fun W hW => x_loadT (x := .tmp 30) (t := 9) (g := gb) (j := 0) Try.underlying9 rfl (by kernel_rfl) (by kernel_rfl) ((hW.row HBR.out HNE.out.2).cell (j := 0) rfl)) hS0 ?_
            refine tk 17 32 (.pointer (some ⟨gb, 1, none⟩)) (fuel := 4) rfl (by kernel_rfl) (by kernel_rfl) (by kernel_rfl) (by kernel_rfl) noPanic_false (by kernel_rfl) (fun _ _ => by kernel_rfl) hS0 ?_
            refine tk 18 33 (.slice x.a p x.c) (fuel := 3) rfl (by kernel_rfl) (by kernel_rfl) (by kernel_rfl) (by kernel_rfl) noPanic_false (by kernel_rfl) (fun W hW => x_loadT (x := .tmp 32) (t := 39) (g := gb) (j := 1) Try.underlying39 rfl (by kernel_rfl) (by kernel_rfl) ((hW.row HBR.out HNE.out.2).cell (j := 1) rfl)) hS0 ?_
            refine tkCallZ 19 34 87 #[.pointer (some ⟨tb, 0, none⟩), .string (strOf x.nm), .slice x.a p x.c] (fun v w' => v = .int .i64 (E : Int) ∧ ∃ cs', fls cs' = crS (fls cs) x.nm x.l ∧ TbA w' (more F w2.drew w') tb mb cs' ∧ KeptF (fun b => b = mb) w2.drew w') (fuel := 2) rfl (by kernel_rfl) (by kernel_rfl) (by kernel_rfl) (fun _ => by kernel_rfl) ((create20 (nm := x.nm) HXA.out.2.1 HP2.out.ok HXA.out.1.l32 HXA.out.2.2 HXA.out.1.z (HXA.out.1.sl.after (HP2.out.aft.trans (After.drew (After.refl w2)))) (HP2.out.tab.after (After.drew (After.refl w2)))).mono (fun e w' ⟨he, h⟩ => ⟨_, he, by rw [HE.out] <;> rfl, h⟩)) ?_
            intro v1 w1 ⟨hv1, cs', k1, k2, k3⟩
            subst hv1
            refine ⟨hS0.trans k3 (fun _ _ h => h), ?_⟩
            refine tk 20 35 (.bool true) (fuel := 1) rfl (by kernel_rfl) (by kernel_rfl) (by kernel_rfl) (by kernel_rfl) noPanic_false (by kernel_rfl) (fun W _ => x_ne34 (k := E) (x := .tmp 34) hE0 (by kernel_rfl) (by kernel_rfl)) (hS0.trans k3 (fun _ _ h => h)) ?_
            refine tk 21 36 (.bool true) (fuel := 0) rfl (by kernel_rfl) (by kernel_rfl) (by kernel_rfl) (by kernel_rfl) noPanic_false (by kernel_rfl) (fun _ _ => by kernel_rfl) (hS0.trans k3 (fun _ _ h => h)) ?_
            refine wpAnyH_done (by kernel_rfl) (NoPanic.normal ?_) _
            have HFI : Hid (After w w1) := ((HP2.out.after (After.drew (After.refl w2))).call (F := F) (cs' := cs') k2 k3 (by rw [k1]; exact HP.out.ok.cr _ _ HXA.out.1.l32)).aft
            have HBAD : Hid (¬ LOk (bof X)) := fun hk => by have h1 := lok_take hk i HBO.out.1; rw [← HFL.out] at h1; simp only at h1; rw [HE.out] at h1; exact hE0 h1
            clear hS0 k1 k2 k3
            go_simp
            go_wp2
            refine bodyPost_ret (v := .tuple #[.pointer none, .int .i64 4]) (by simp [results, Try.results70, go_sem]) rfl (.inr ⟨HBAD.out, rfl, HFI.out⟩)
        · have HGE : Hid (bytesBefore y.nm x.nm = false) := by have h9 : bytesBefore y.nm x.nm = false := by simpa using hge
                                                               exact h9
          have HBAD : Hid (¬ LOk (bof X)) := lok_bad (i := i) (by have := HJ.out.1; omega) HBO.out.1 (by rw [HJ.out.1, Nat.add_sub_cancel]; exact HYO.out) HGE.out
          clear hge
          refine wp_region_noPanic ?_
          refine wp_region_held_drew (S := KeptF (fun b => b = mb) w2) (by kernel_rfl) (KeptF.of_after (After.drew (After.refl w2))) ?_
          intro hS0
          refine tk 0 15 (.int .i64 (i : Int)) (fuel := 21) rfl (by kernel_rfl) (by kernel_rfl) (by kernel_rfl) (by kernel_rfl) noPanic_false (by kernel_rfl) (fun _ _ => by kernel_rfl) hS0 ?_
          refine tk 1 16 (.bool true) (fuel := 20) rfl (by kernel_rfl) (by kernel_rfl) (by kernel_rfl) (by kernel_rfl) noPanic_false (by kernel_rfl) (fun W _ => (x_gtr0 (x := .tmp 15) (k := i) (by kernel_rfl) (by kernel_rfl)).trans (by rw [HI0.out])) hS0 ?_
          refine tk 2 17 (.bool true) (fuel := 19) rfl (by kernel_rfl) (by kernel_rfl) (by kernel_rfl) (by kernel_rfl) noPanic_false (by kernel_rfl) (fun _ _ => by kernel_rfl) hS0 ?_
          refine tk 3 18 (.slice (some ⟨xb, xo, none⟩) n ca) (fuel := 18) rfl (by kernel_rfl) (by kernel_rfl) (by kernel_rfl) (by kernel_rfl) noPanic_false (by kernel_rfl) (fun _ _ => by kernel_rfl) hS0 ?_
          refine tk 4 19 (.int .i64 (i : Int)) (fuel := 17) rfl (by kernel_rfl) (by kernel_rfl) (by kernel_rfl) (by kernel_rfl) noPanic_false (by kernel_rfl) (fun _ _ => by kernel_rfl) hS0 ?_
          refine tk 5 20 (.int .i64 (j : Int)) (fuel := 16) rfl (by kernel_rfl) (by kernel_rfl) (by kernel_rfl) (by kernel_rfl) noPanic_false (by kernel_rfl) (fun W _ => x_sub1 (k := i) (i := j) (x := .tmp 19) (by kernel_rfl) (by kernel_rfl) HJ.out.1 HJ.out.2.1) hS0 ?_
          refine tk 6 21 (.pointer (some ⟨xb, xo + j * 2, none⟩)) (fuel := 15) rfl (by kernel_rfl) (by kernel_rfl) (by kernel_rfl) (by kernel_rfl) noPanic_false (by kernel_rfl) (fun W _ => x_idx25 (n := n) (c := ca) (x := .tmp 18) (y := .tmp 20) (by kernel_rfl) (by kernel_rfl) (by kernel_rfl) HJ.out.2.2) hS0 ?_
          refine tk 7 22 (.pointer (some ⟨xb, xo + j * 2, none⟩)) (fuel := 14) rfl (by kernel_rfl) (by kernel_rfl) (by kernel_rfl) (by kernel_rfl) noPanic_false (by kernel_rfl) (fun _ _ => by kernel_rfl) hS0 ?_
          refine tk 8 23 (.string (strOf y.nm)) (fuel := 13) rfl (by kernel_rfl) (by kernel_rfl) (by kernel_rfl) (by kernel_rfl) noPanic_false (by kernel_rfl) (fun W hW => x_loadT (x := .tmp 22) (t := 9) (g := xb) (j := xo + j * 2 + 0) Try.underlying9 rfl (by kernel_rfl) (by kernel_rfl) (range_kept HY.out hW HNE.out.1 0 _ rfl)) hS0 ?_
          refine tk 9 24 (.pointer (some ⟨gb, 0, none⟩)) (fuel := 12) rfl (by kernel_rfl) (by kernel_rfl) (by kernel_rfl) (by kernel_rfl) noPanic_false (by kernel_rfl) (fun _ _ => by kernel_rfl) hS0 ?_
          refine tk 10 25 (.string (strOf x.nm)) (fuel := 11) rfl (by kernel_rfl) (by kernel_rfl) (by kernel_rfl) (by kernel_rfl) noPanic_false (by kernel_rfl) (fun W hW => x_loadT (x := .tmp 24) (t := 9) (g := gb) (j := 0) Try.underlying9 rfl (by kernel_rfl) (by kernel_rfl) ((hW.row HBR.out HNE.out.2).cell (j := 0) rfl)) hS0 ?_
          refine tk 11 26 (.bool true) (fuel := 10) rfl (by kernel_rfl) (by kernel_rfl) (by kernel_rfl) (by kernel_rfl) noPanic_false (by kernel_rfl) (fun W _ => (x_geq9 (s := y.nm) (t := x.nm) (x := .tmp 23) (y := .tmp 25) (by kernel_rfl) (by kernel_rfl) (by kernel_rfl)).trans (by rw [HGE.out]; rfl)) hS0 ?_
          refine tk 12 27 (.bool true) (fuel := 9) rfl (by kernel_rfl) (by kernel_rfl) (by kernel_rfl) (by kernel_rfl) noPanic_false (by kernel_rfl) (fun _ _ => by kernel_rfl) hS0 ?_
          refine tk 13 28 (.bool true) (fuel := 8) rfl (by kernel_rfl) (by kernel_rfl) (by kernel_rfl) (by kernel_rfl) noPanic_false (by kernel_rfl) (fun _ _ => by kernel_rfl) hS0 ?_
          refine tkSkip 14 29 (fuel := 7) rfl (by kernel_rfl) (by kernel_rfl) (by kernel_rfl) (by kernel_rfl) noPanic_false (by kernel_rfl) hS0 ?_
          refine tkSkip 15 30 (fuel := 6) rfl (by kernel_rfl) (by kernel_rfl) (by kernel_rfl) (by kernel_rfl) noPanic_false (by kernel_rfl) hS0 ?_
          refine tkSkip 16 31 (fuel := 5) rfl (by kernel_rfl) (by kernel_rfl) (by kernel_rfl) (by kernel_rfl) noPanic_false (by kernel_rfl) hS0 ?_
          refine tkSkip 17 32 (fuel := 4) rfl (by kernel_rfl) (by kernel_rfl) (by kernel_rfl) (by kernel_rfl) noPanic_false (by kernel_rfl) hS0 ?_
          refine tkSkip 18 33 (fuel := 3) rfl (by kernel_rfl) (by kernel_rfl) (by kernel_rfl) (by kernel_rfl) noPanic_false (by kernel_rfl) hS0 ?_
          refine tkSkip 19 34 (fuel := 2) rfl (by kernel_rfl) (by kernel_rfl) (by kernel_rfl) (by kernel_rfl) noPanic_false (by kernel_rfl) hS0 ?_
          refine tkSkip 20 35 (fuel := 1) rfl (by kernel_rfl) (by kernel_rfl) (by kernel_rfl) (by kernel_rfl) noPanic_false (by kernel_rfl) hS0 ?_
          refine tk 21 36 (.bool true) (fuel := 0) rfl (by kernel_rfl) (by kernel_rfl) (by kernel_rfl) (by kernel_rfl) noPanic_false (by kernel_rfl) (fun _ _ => by kernel_rfl) hS0 ?_
          refine wpAnyH_done (by kernel_rfl) (NoPanic.normal ?_) _
          have HFI : Hid (After w w2.drew) := HP2.out.aft.trans (After.drew (After.refl w2))
          clear hS0
          go_simp
          go_wp2
          refine bodyPost_ret (v := .tuple #[.pointer none, .int .i64 4]) (by simp [results, Try.results70, go_sem]) rfl (.inr ⟨HBAD.out, rfl, HFI.out⟩)
    · have hii : ¬ (i : Int) < (n : Int) := by omega
      have hfull : fls cs = bof X := by rw [HFL.out, List.take_of_length_le]; rw [bof_len, HL.out.2.1]; omega
      have HFU := show Hid _ from hfull
      clear hfull
      go_wp2
      refine bodyPost_ret (v := .tuple #[.pointer (some ⟨tb, 0, none⟩), .int .i64 0]) (by simp [results, Try.results70, go_sem]) rfl (.inl ⟨by rw [← HFU.out]; exact HP.out.ok.lok, _, _, F, cs, rfl, HP.out, HFU.out⟩)
end Go.Proofs.Ytcmcapcagblafaa
