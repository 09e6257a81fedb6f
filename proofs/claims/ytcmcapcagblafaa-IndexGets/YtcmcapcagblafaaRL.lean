/-
  THE REFERENCE'S LOAD (18).
-/
import Derived.Test.YtcmcapcagblafaaBX
namespace Go.Proofs.Ytcmcapcagblafaa
open Go.RowKit Go.Maps Dsk
attribute [local go_sem] Oper.semAt_some
section
variable {ops : Array Oper} {Q : Exit → Act → World → Prop} {S : World → Prop} {fuel : Nat} {listed : Array Bool} {a : Act} {w : World} {oi : Oper}
theorem tkTwo (i k : Nat) (hr : Region.ready .any ops listed = [i, k])
    (h1 : wpOp Try.prog ops Q i (fun a w => S w ∧ wpAnyH Try.prog .any ops Q S fuel (listed.setIfInBounds i true) a w) a w)
    (h2 : wpOp Try.prog ops Q k (fun a w => S w ∧ wpAnyH Try.prog .any ops Q S fuel (listed.setIfInBounds k true) a w) a w) : wpAnyH Try.prog .any ops Q S (fuel + 1) listed a w :=
  wpAnyH_all hr (by simp) (fun j hj => by
    rcases (by simpa using hj : j = i ∨ j = k) with rfl | rfl
    · exact h1
    · exact h2)
theorem x_st25 {x y : Operand} {g p n c : Nat} {b : Option Addr} {u : Value} (hop : oi.op = .store 38 x y) (hx : a.eval x = .pointer (some ⟨g, p, none⟩)) (hy : a.eval y = .slice b n c) (hc : w.cell? ⟨g, p, none⟩ = some u) (hf : w.frozen? ⟨g, p, none⟩ = false) : (execOp a.eval oi).run Try.prog w = .ok .skip (w.setCell ⟨g, p, none⟩ (.slice b n c)) := by
  unfold execOp
  simp only [hop, hx, hy]
  simp [go_sem, hc, hf, Instr.storeAt, Instr.sureAddr]
end
theorem OwnB.cell {W : World} {B g o : Nat} {u v : Value} {X : List Bx} (h : OwnB W B v X) (hg : g < B) : OwnB (W.setCell ⟨g, o, none⟩ u) B v X := by
  have hh : ∀ b, B ≤ b → (W.setCell ⟨g, o, none⟩ u).heap[b]? = W.heap[b]? := fun b hb => Below.heap_setCell W ⟨g, o, none⟩ u b (fun e => by simp only at e; omega)
  have hs : W.heap.size ≤ (W.setCell ⟨g, o, none⟩ u).heap.size := by show W.heap.size ≤ (W.heap.modify _ _).size; rw [Array.size_modify]; exact Nat.le_refl _
  refine ⟨h.row.same (fun b hb => hh b (own_lt h.row.2 hb).1), fun x hx => ?_, fun x hx ad e => ?_⟩
  · have := h.each x hx
    exact ⟨this.sl.same (fun ad e => hh _ (h.ge x hx ad e).1), this.l32, this.z, this.fit⟩
  · obtain ⟨h1, h2, h3, h4⟩ := h.ge x hx ad e
    exact ⟨h1, Nat.lt_of_lt_of_le h2 hs, h3, h4.same (hh _ h1)⟩
theorem OwnB.row0 {W : World} {B g : Nat} {cs : Array Value} {v : Value} {X : List Bx} (h : OwnB W B v X) (hg : g < B) : OwnB (W.setRow g cs) B v X := by
  have hh : ∀ b, B ≤ b → (W.setRow g cs).heap[b]? = W.heap[b]? := fun b hb => setRow_other _ _ _ _ (by omega)
  have hs : W.heap.size ≤ (W.setRow g cs).heap.size := by simp
  refine ⟨h.row.same (fun b hb => hh b (own_lt h.row.2 hb).1), fun x hx => ?_, fun x hx ad e => ?_⟩
  · have := h.each x hx
    exact ⟨this.sl.same (fun ad e => hh _ (h.ge x hx ad e).1), this.l32, this.z, this.fit⟩
  · obtain ⟨h1, h2, h3, h4⟩ := h.ge x hx ad e
    exact ⟨h1, Nat.lt_of_lt_of_le h2 hs, h3, h4.same (hh _ h1)⟩
theorem lok_up {S : Tb} {i : Nat} {nm : Dsk.Nm} {l : List H} (hp : S[i]? = some (nm, l)) (hT : LOk (S.take i)) (h64 : i < 64) (hadj : ∀ q, i ≠ 0 → S[i - 1]? = some q → bytesBefore q.1 nm = true) (hn : nmB nm = true) (hm : mayB l = true) : LOk (S.take (i + 1)) := by
  have hi := (List.getElem?_eq_some_iff.1 hp).1
  have h1 : ∀ p ∈ S.take i, bytesBefore p.1 nm = true := fun p hq => by
    obtain ⟨j, hj⟩ := List.getElem?_of_mem hq
    have hjl := (List.getElem?_eq_some_iff.1 hj).1
    rw [List.length_take] at hjl
    have hj2 : S[j]? = some p := by
      rw [List.getElem?_take] at hj
      split at hj
      · exact hj
      · cases hj
    obtain ⟨q, hq'⟩ : ∃ q, S[i - 1]? = some q := ⟨_, List.getElem?_eq_getElem (by omega)⟩
    have h2 := hadj q (by omega) hq'
    by_cases e : j = i - 1
    · subst e; rw [hj2] at hq'; cases hq'; exact h2
    · have hq3 : (S.take i)[i - 1]? = some q := by rw [List.getElem?_take, if_pos (by omega)]; exact hq'
      have h3 := (List.pairwise_iff_getElem.1 hT.ris) j (i - 1) (by rw [List.length_take]; omega) (by rw [List.length_take]; omega) (by omega)
      rw [(List.getElem?_eq_some_iff.1 hj).2, (List.getElem?_eq_some_iff.1 hq3).2] at h3
      exact bb_trans h3 h2
  have e : S.take (i + 1) = S.take i ++ [(nm, l)] := by rw [List.take_add_one, hp]; rfl
  rw [e]
  refine ⟨List.pairwise_append.2 ⟨hT.ris, List.pairwise_singleton _ _, fun p hq q hq2 => ?_⟩, ?_, fun p hq => ?_⟩
  · rw [List.mem_singleton] at hq2; subst hq2; exact h1 p hq
  · rw [List.length_append, List.length_take, List.length_singleton]; omega
  · rcases List.mem_append.1 hq with hq | hq
    · exact hT.each p hq
    · rw [List.mem_singleton] at hq; subst hq; exact ⟨hn, hm⟩
theorem lok_name {S : Tb} {i : Nat} {nm : Dsk.Nm} {l : List H} (hp : S[i]? = some (nm, l)) (h : nmB nm = false) : ¬ LOk S := fun hk => by
  have := (hk.each _ (List.mem_of_getElem? hp)).1
  simp only at this
  rw [h] at this
  cases this
theorem lok_heads {S : Tb} {i : Nat} {nm : Dsk.Nm} {l : List H} (hp : S[i]? = some (nm, l)) (h : mayB l = false) : ¬ LOk S := fun hk => by
  have := (hk.each _ (List.mem_of_getElem? hp)).2
  simp only at this
  rw [h] at this
  cases this
/-- How far the reference's Load has come. -/
structure RLd (w : World) (S : Tb) (g0 i : Nat) (v : Value) (Z : List Bx) (wr : World) : Prop where
  aft : After w wr
  sz : w.heap.size = g0
  r0 : RowIs wr g0 82 [.slice none 0 0]
  r1 : RowIs wr (g0 + 1) 82 [v]
  own : OwnB wr (g0 + 2) v Z
  pre : bof Z = S.take i
  lok : LOk (S.take i)
theorem RLd.after {w wr w' : World} {S : Tb} {g0 i : Nat} {v : Value} {Z : List Bx} (h : RLd w S g0 i v Z wr) (ha : After wr w') : RLd w S g0 i v Z w' := ⟨h.aft.trans ha, h.sz, h.r0.below ha h.r0.lt, h.r1.below ha h.r1.lt, h.own.after ha, h.pre, h.lok⟩
theorem rl_step {w wr w4 : World} {S : Tb} {g0 i g c' vc : Nat} {va a' : Option Addr} {Z : List Bx} (h : RLd w S g0 i (.slice va i vc) Z wr) {nm : Dsk.Nm} {l : List H} (hS : S[i]? = some (nm, l)) (hl : LOk (S.take (i + 1))) (hi : i < 64) (ho : OwnB w4 wr.heap.size (.slice (some ⟨g, 0, none⟩) 1 1) [⟨nm, a', c', l⟩]) (ha : After wr w4) :
    ∃ vb vd w6 Z', (Builtin.append_ #[38, 38] 38 #[.slice va i vc, .slice (some ⟨g, 0, none⟩) 1 1]).run Try.prog w4 = .ok (.slice vb (i + 1) vd) w6 ∧ KeptF (fun b => b = g0 + 1 ∨ (Value.slice va i vc).ownBlock = some b) w4 w6 ∧ RowIs w6 (g0 + 1) 82 [.slice va i vc] ∧ RLd w S g0 (i + 1) (.slice vb (i + 1) vd) Z' (w6.setCell ⟨g0 + 1, 0, none⟩ (.slice vb (i + 1) vd)) := by
  have hZ : Z.length = i := by
    obtain ⟨a, c, e, _⟩ := h.own.at
    injection e with _ e2 _
    exact e2.symm
  obtain ⟨ay, cy, ey, hy⟩ := ho.at
  simp only [List.length_singleton] at ey
  injection ey with e1 _ e3
  subst e1 e3
  have o4 := h.own.after ha
  have s4 := ha.size
  have s1 := h.r1.lt
  have s0 := h.sz
  obtain ⟨vb, vd, w6, r1, r2, r3, r4⟩ := run_appB 38 o4 (Y := [⟨nm, a', c', l⟩]) (m := 1) (c := 1) rfl hy (by omega) (by omega) (fun e => by cases e)
  rw [hZ] at r1 r2 r4
  have k0 : KeptF (fun b => (Value.slice va i vc).ownBlock = some b) w4 w6 := KeptF.of_grown r3 (fun b h => h)
  have hno : ∀ b, b < g0 + 2 → ¬ (Value.slice va i vc).ownBlock = some b := fun b hb e => by have := (own_lt o4.row.2 e).1; omega
  have q1 := k0.row (h.after ha).r1 (hno _ (by omega))
  have q0 := k0.row (h.after ha).r0 (hno _ (by omega))
  refine ⟨vb, vd, w6, Z ++ [⟨nm, a', c', l⟩], r1, k0.mono (fun _ _ e => .inr e), q1, ?_, h.sz, q0.setOther (by omega) _, ?_, ?_, ?_, hl⟩
  · have a6 := after_grown (h.aft.trans ha) r3 (B := g0 + 2) (by omega) (fun k hk => (own_lt o4.row.2 hk).1)
    have k6 : KeptF (fun b => b = g0 + 1) w6 (w6.setCell ⟨g0 + 1, 0, none⟩ (.slice vb (i + 1) vd)) := KeptF.set _ _ _ rfl
    have b6 : Below w.heap.size w6 (w6.setCell ⟨g0 + 1, 0, none⟩ (.slice vb (i + 1) vd)) := k6.below a6.size (fun x e => by omega)
    exact Below.trans a6 b6
  · exact q1.set 0 _
  · refine (o4.grow (fun y hy' => ?_) r2 r3 r4).cell (by omega)
    rw [List.mem_singleton] at hy'
    subst hy'
    refine ⟨ho.each _ (by simp), fun ad e => ?_⟩
    obtain ⟨h1, h2, _, h4⟩ := ho.ge _ (List.mem_singleton.2 rfl) ad e
    refine ⟨by omega, h2, fun e' => ?_, h4⟩
    have := h.own.lt e'
    omega
  · rw [bof_snoc, h.pre, List.take_add_one, hS]; rfl
set_option maxRecDepth 100000 in
set_option maxHeartbeats 25600000 in
theorem rload18 {la : Option Addr} {ca n : Nat} {X : List Bx} (hl : X.length = n) (hnm : ∀ x ∈ X, x.nm.length ≤ maxLen) {w : World} (hA : BsAt w la X) : Calls Try.prog 47 #[.slice la n ca] w fun e w' => (LOk (bof X) ∧ ∃ a c Z, e = .returned (.tuple #[.agg #[.slice a n c], .int .i64 0]) ∧ OwnB w' w.heap.size (.slice a n c) Z ∧ bof Z = bof X ∧ After w w') ∨ (¬ LOk (bof X) ∧ e = .returned (.tuple #[.agg #[.slice none 0 0], .int .i64 4]) ∧ After w w') := by
  have HL : Hid (BsAt w la X ∧ X.length = n ∧ (∀ x ∈ X, x.nm.length ≤ maxLen)) := ⟨hA, hl, hnm⟩
  clear hA hl hnm
  obtain ⟨g0, hg0⟩ : ∃ g0, w.heap.size = g0 := ⟨_, rfl⟩
  obtain ⟨W1, hW1⟩ : ∃ W1, w.alloc (.cells #[.slice none 0 0] 82) = W1 := ⟨_, rfl⟩
  obtain ⟨W2, hW2⟩ : ∃ W2, W1.alloc (.cells #[.slice none 0 0] 82) = W2 := ⟨_, rfl⟩
  have hg1 : W1.heap.size = g0 + 1 := by rw [← hW1, World.size_alloc, hg0]
  have H1 : Hid (RowIs W1 g0 82 [.slice none 0 0] ∧ After w W1 ∧ w.heap.size = g0) := ⟨by rw [← hW1, ← hg0]; exact RowIs.new w 82 [.slice none 0 0], by rw [← hW1]; exact after_alloc (After.refl w) _, hg0⟩
  have H2 : Hid (RLd w (bof X) g0 0 (.slice none 0 0) [] W2) := by
    have a12 : After W1 W2 := by rw [← hW2]; exact after_alloc (After.refl W1) _
    refine ⟨H1.out.2.1.trans a12, hg0, H1.out.1.below a12 H1.out.1.lt, ?_, OwnB.nil _ _, by simp [bof], ?_⟩
    · rw [← hW2, ← hg1]; exact RowIs.new W1 82 [.slice none 0 0]
    · rw [List.take_zero]; exact ⟨List.Pairwise.nil, by simp, fun p h => by simp at h⟩
  by_cases h64 : n > 64
  · have h64i : (n : Int) > 64 := by omega
    have HBAD : Hid (¬ LOk (bof X)) := fun hk => by have := hk.few; rw [bof_len, HL.out.2.1] at this; omega
    go_enter Try.func47, Try.ntmps47
    go_wp2_with (first
      | (rw [hW1]; rw [hg0])
      | (refine wpList_of_run rfl (x_bld27 rfl) ?_)
      | (refine wpList_store_row rfl 82 (.tmp 2) (.tmp 9) rfl g0 #[.slice none 0 0] (by kernel_rfl) (by kernel_rfl) 82 _ H1.out.1 (size27 none 0 0) rfl (one27 none 0 0) ?_))
    refine bodyPost_ret (ret27t Try.results47 _ _ g0 (.slice none 0 0) (.int .i64 4) (by kernel_rfl) (H1.out.1.setRow _) (by kernel_rfl)) rfl (.inr ⟨HBAD.out, rfl, Below.row H1.out.2.1 (by have := H1.out.2.2; omega) _⟩)
  · have h64i : ¬ (n : Int) > 64 := by omega
    go_enter Try.func47, Try.ntmps47
    go_wp2_with (first
      | (rw [hW1]; rw [hg0])
      | (rw [hW2]; rw [hg1]))
    clear hW1 hW2 hg1 H1 hg0 h64i
    go_loopw [5] (fun iv wr => ∃ (i : Nat) (va : Option Addr) (vc : Nat) (Z : List Bx), i ≤ n ∧ iv = .int .i64 (i : Int) ∧ Hid (RLd w (bof X) g0 i (.slice va i vc) Z wr)) (fun iv _ => n - (intOf iv).toNat)
    case atStart => exact ⟨0, none, 0, [], Nat.zero_le _, rfl, H2.out⟩
    case round =>
      obtain ⟨i, va, vc, Z, hin, rfl, HP⟩ := hrel
      by_cases hlt : i < n
      · have hii : (i : Int) < (n : Int) := by omega
        have HLT : Hid (i < n) := hlt
        obtain ⟨x, hx⟩ : ∃ x, X[i]? = some x := ⟨_, List.getElem?_eq_getElem (by rw [HL.out.2.1]; exact hlt)⟩
        have hxb := HL.out.1.each x (List.mem_of_getElem? hx)
        obtain ⟨xb, xo, hla, hlr⟩ := HL.out.1.sl.at (bs_get hx)
        subst hla
        obtain ⟨p, hp⟩ : ∃ p, x.l.length = p := ⟨_, rfl⟩
        have hxlt : xb < w.heap.size := range_lt hlr (by simp [brc])
        have HX : Hid (wr.rangeAt xb (xo + i * 2) [.string (strOf x.nm), .slice x.a p x.c]) := by have := range_after hlr HP.out.aft; unfold brc Bx.v at this; rw [hp] at this; exact this
        have HXA : Hid (BxAt w x ∧ x.nm.length ≤ maxLen ∧ x.l.length = p) := ⟨hxb, HL.out.2.2 x (List.mem_of_getElem? hx), hp⟩
        have HBO : Hid ((bof X)[i]? = some (x.nm, x.l)) := bof_get hx
        have HNE : Hid (¬ (xb = g0 + 1 ∨ (Value.slice va i vc).ownBlock = some xb)) := fun e => by
          have h1 := HP.out.sz
          rcases e with e | e
          · omega
          · have := (own_lt HP.out.own.row.2 e).1; omega
        have C33 := show Hid (∀ W, Calls Try.prog 48 #[.string (strOf x.nm)] W fun e w' => e = .returned (.bool (nmB x.nm)) ∧ After W w') from fun W => (rname33 HXA.out.2.1 W).mono (fun e w' ⟨h1, h2⟩ => ⟨h1, by rw [h2]; exact After.refl W⟩)
        have C34 := show Hid (∀ W, After wr W → Calls Try.prog 71 #[.slice x.a p x.c] W fun e w' => e = .returned (.bool (mayB x.l)) ∧ After W w') from fun W hW => may34 HXA.out.1.l32 HXA.out.2.2 (HXA.out.1.sl.after (HP.out.aft.trans hW))
        have C32 : Hid (∀ W, After w W → Calls Try.prog 41 #[.string (strOf x.nm), .slice x.a p x.c] W fun e w' => ∃ g a' c', e = .returned (.slice (some ⟨g, 0, none⟩) 1 1) ∧ OwnB w' W.heap.size (.slice (some ⟨g, 0, none⟩) 1 1) [⟨x.nm, a', c', x.l⟩] ∧ After W w') := fun W hW => own32 HXA.out.1.l32 HXA.out.2.2 (by have := HXA.out.1.fit; rw [HXA.out.2.2] at this; exact this) HXA.out.1.z (HXA.out.1.sl.after hW)
        clear hx hxb hlr hp hxlt
        cases hn : nmB x.nm
        · rw [hn] at C33
          have HNB : Hid (nmB x.nm = false) := hn
          clear hn
          go_wp2
          refine wp_region_noPanic ?_
          refine wp_region_held_drew (S := After wr) (by kernel_rfl) (After.drew (After.refl wr)) ?_
          intro hS0
          refine tk 0 16 (.slice (some ⟨xb, xo, none⟩) n ca) (fuel := 33) rfl (by kernel_rfl) (by kernel_rfl) (by kernel_rfl) (by kernel_rfl) noPanic_false (by kernel_rfl) (fun _ _ => by kernel_rfl) hS0 ?_
          refine tk 1 17 (.int .i64 (i : Int)) (fuel := 32) rfl (by kernel_rfl) (by kernel_rfl) (by kernel_rfl) (by kernel_rfl) noPanic_false (by kernel_rfl) (fun _ _ => by kernel_rfl) hS0 ?_
          refine tk 2 18 (.pointer (some ⟨xb, xo + i * 2, none⟩)) (fuel := 31) rfl (by kernel_rfl) (by kernel_rfl) (by kernel_rfl) (by kernel_rfl) noPanic_false (by kernel_rfl) (fun W _ => x_idx25 (n := n) (c := ca) (x := .tmp 16) (y := .tmp 17) (by kernel_rfl) (by kernel_rfl) (by kernel_rfl) HLT.out) hS0 ?_
          refine tk 3 19 (.pointer (some ⟨xb, xo + i * 2, none⟩)) (fuel := 30) rfl (by kernel_rfl) (by kernel_rfl) (by kernel_rfl) (by kernel_rfl) noPanic_false (by kernel_rfl) (fun _ _ => by kernel_rfl) hS0 ?_
          refine tk 4 20 (.string (strOf x.nm)) (fuel := 29) rfl (by kernel_rfl) (by kernel_rfl) (by kernel_rfl) (by kernel_rfl) noPanic_false (by kernel_rfl) (fun W hW => x_loadT (x := .tmp 19) (t := 9) (g := xb) (j := xo + i * 2 + 0) Try.underlying9 rfl (by kernel_rfl) (by kernel_rfl) (range_after HX.out hW 0 _ rfl)) hS0 ?_
          refine tkCallZ 5 21 48 #[.string (strOf x.nm)] (fun v w' => v = .bool false ∧ After wr w') (fuel := 28) rfl (by kernel_rfl) (by kernel_rfl) (by kernel_rfl) (fun _ => by kernel_rfl) ((C33.out wr.drew).mono (fun e w' ⟨he, h⟩ => ⟨_, he, rfl, (After.drew (After.refl wr)).trans h⟩)) ?_
          intro v5 w5 ⟨hv5, hS5⟩
          subst hv5
          refine ⟨hS5, ?_⟩
          refine tk 6 22 (.bool true) (fuel := 27) rfl (by kernel_rfl) (by kernel_rfl) (by kernel_rfl) (by kernel_rfl) noPanic_false (by kernel_rfl) (fun _ _ => by kernel_rfl) hS5 ?_
          refine tk 7 23 (.bool true) (fuel := 26) rfl (by kernel_rfl) (by kernel_rfl) (by kernel_rfl) (by kernel_rfl) noPanic_false (by kernel_rfl) (fun _ _ => by kernel_rfl) hS5 ?_
          refine tkSkip 8 24 (fuel := 25) rfl (by kernel_rfl) (by kernel_rfl) (by kernel_rfl) (by kernel_rfl) noPanic_false (by kernel_rfl) hS5 ?_
          refine tkSkip 9 25 (fuel := 24) rfl (by kernel_rfl) (by kernel_rfl) (by kernel_rfl) (by kernel_rfl) noPanic_false (by kernel_rfl) hS5 ?_
          refine tkSkip 10 26 (fuel := 23) rfl (by kernel_rfl) (by kernel_rfl) (by kernel_rfl) (by kernel_rfl) noPanic_false (by kernel_rfl) hS5 ?_
          refine tkSkip 11 27 (fuel := 22) rfl (by kernel_rfl) (by kernel_rfl) (by kernel_rfl) (by kernel_rfl) noPanic_false (by kernel_rfl) hS5 ?_
          refine tkSkip 12 28 (fuel := 21) rfl (by kernel_rfl) (by kernel_rfl) (by kernel_rfl) (by kernel_rfl) noPanic_false (by kernel_rfl) hS5 ?_
          refine tkSkip 13 29 (fuel := 20) rfl (by kernel_rfl) (by kernel_rfl) (by kernel_rfl) (by kernel_rfl) noPanic_false (by kernel_rfl) hS5 ?_
          refine tkSkip 14 30 (fuel := 19) rfl (by kernel_rfl) (by kernel_rfl) (by kernel_rfl) (by kernel_rfl) noPanic_false (by kernel_rfl) hS5 ?_
          refine tk 15 31 (.bool true) (fuel := 18) rfl (by kernel_rfl) (by kernel_rfl) (by kernel_rfl) (by kernel_rfl) noPanic_false (by kernel_rfl) (fun _ _ => by kernel_rfl) hS5 ?_
          refine tk 16 32 (.bool true) (fuel := 17) rfl (by kernel_rfl) (by kernel_rfl) (by kernel_rfl) (by kernel_rfl) noPanic_false (by kernel_rfl) (fun _ _ => by kernel_rfl) hS5 ?_
          refine tkSkip 17 33 (fuel := 16) rfl (by kernel_rfl) (by kernel_rfl) (by kernel_rfl) (by kernel_rfl) noPanic_false (by kernel_rfl) hS5 ?_
          refine tkSkip 18 34 (fuel := 15) rfl (by kernel_rfl) (by kernel_rfl) (by kernel_rfl) (by kernel_rfl) noPanic_false (by kernel_rfl) hS5 ?_
          refine tkSkip 19 35 (fuel := 14) rfl (by kernel_rfl) (by kernel_rfl) (by kernel_rfl) (by kernel_rfl) noPanic_false (by kernel_rfl) hS5 ?_
          refine tkSkip 20 36 (fuel := 13) rfl (by kernel_rfl) (by kernel_rfl) (by kernel_rfl) (by kernel_rfl) noPanic_false (by kernel_rfl) hS5 ?_
          refine tkSkip 21 37 (fuel := 12) rfl (by kernel_rfl) (by kernel_rfl) (by kernel_rfl) (by kernel_rfl) noPanic_false (by kernel_rfl) hS5 ?_
          refine tkSkip 22 38 (fuel := 11) rfl (by kernel_rfl) (by kernel_rfl) (by kernel_rfl) (by kernel_rfl) noPanic_false (by kernel_rfl) hS5 ?_
          refine tkSkip 23 39 (fuel := 10) rfl (by kernel_rfl) (by kernel_rfl) (by kernel_rfl) (by kernel_rfl) noPanic_false (by kernel_rfl) hS5 ?_
          refine tkSkip 24 40 (fuel := 9) rfl (by kernel_rfl) (by kernel_rfl) (by kernel_rfl) (by kernel_rfl) noPanic_false (by kernel_rfl) hS5 ?_
          refine tkSkip 25 41 (fuel := 8) rfl (by kernel_rfl) (by kernel_rfl) (by kernel_rfl) (by kernel_rfl) noPanic_false (by kernel_rfl) hS5 ?_
          refine tkSkip 26 42 (fuel := 7) rfl (by kernel_rfl) (by kernel_rfl) (by kernel_rfl) (by kernel_rfl) noPanic_false (by kernel_rfl) hS5 ?_
          refine tkSkip 27 43 (fuel := 6) rfl (by kernel_rfl) (by kernel_rfl) (by kernel_rfl) (by kernel_rfl) noPanic_false (by kernel_rfl) hS5 ?_
          refine tkSkip 28 44 (fuel := 5) rfl (by kernel_rfl) (by kernel_rfl) (by kernel_rfl) (by kernel_rfl) noPanic_false (by kernel_rfl) hS5 ?_
          refine tkSkip 29 45 (fuel := 4) rfl (by kernel_rfl) (by kernel_rfl) (by kernel_rfl) (by kernel_rfl) noPanic_false (by kernel_rfl) hS5 ?_
          refine tkSkip 30 46 (fuel := 3) rfl (by kernel_rfl) (by kernel_rfl) (by kernel_rfl) (by kernel_rfl) noPanic_false (by kernel_rfl) hS5 ?_
          refine tkSkip 31 47 (fuel := 2) rfl (by kernel_rfl) (by kernel_rfl) (by kernel_rfl) (by kernel_rfl) noPanic_false (by kernel_rfl) hS5 ?_
          refine tkSkip 32 48 (fuel := 1) rfl (by kernel_rfl) (by kernel_rfl) (by kernel_rfl) (by kernel_rfl) noPanic_false (by kernel_rfl) hS5 ?_
          refine tk 33 49 (.bool true) (fuel := 0) rfl (by kernel_rfl) (by kernel_rfl) (by kernel_rfl) (by kernel_rfl) noPanic_false (by kernel_rfl) (fun _ _ => by kernel_rfl) hS5 ?_
          refine wpAnyH_done (by kernel_rfl) (NoPanic.normal ?_) _
          have H8 : Hid (RLd w (bof X) g0 i (.slice va i vc) Z _) := HP.out.after hS5
          have HBAD : Hid (¬ LOk (bof X)) := lok_name HBO.out HNB.out
          clear hS0 hS5
          go_simp
          go_wp2_with (first
            | (refine wpList_of_run rfl (x_bld27 rfl) ?_)
            | (refine wpList_store_row rfl 82 (.tmp 2) (.tmp 50) rfl g0 #[.slice none 0 0] (by kernel_rfl) (by kernel_rfl) 82 _ H8.out.r0 (size27 none 0 0) rfl (one27 none 0 0) ?_))
          refine bodyPost_ret (ret27t Try.results47 _ _ g0 (.slice none 0 0) (.int .i64 4) (by kernel_rfl) (H8.out.r0.setRow _) (by kernel_rfl)) rfl (.inr ⟨HBAD.out, rfl, (Below.row H8.out.aft (by have := H8.out.sz; omega) _)⟩)
        · rw [hn] at C33
          have HNB : Hid (nmB x.nm = true) := hn
          clear hn
          cases hm : mayB x.l
          · rw [hm] at C34
            have HMB : Hid (mayB x.l = false) := hm
            clear hm
            go_wp2
            refine wp_region_noPanic ?_
            refine wp_region_held_drew (S := After wr) (by kernel_rfl) (After.drew (After.refl wr)) ?_
            intro hS0
            refine tk 0 16 (.slice (some ⟨xb, xo, none⟩) n ca) (fuel := 33) rfl (by kernel_rfl) (by kernel_rfl) (by kernel_rfl) (by kernel_rfl) noPanic_false (by kernel_rfl) (fun _ _ => by kernel_rfl) hS0 ?_
            refine tk 1 17 (.int .i64 (i : Int)) (fuel := 32) rfl (by kernel_rfl) (by kernel_rfl) (by kernel_rfl) (by kernel_rfl) noPanic_false (by kernel_rfl) (fun _ _ => by kernel_rfl) hS0 ?_
            refine tk 2 18 (.pointer (some ⟨xb, xo + i * 2, none⟩)) (fuel := 31) rfl (by kernel_rfl) (by kernel_rfl) (by kernel_rfl) (by kernel_rfl) noPanic_false (by kernel_rfl) (fun W _ => x_idx25 (n := n) (c := ca) (x := .tmp 16) (y := .tmp 17) (by kernel_rfl) (by kernel_rfl) (by kernel_rfl) HLT.out) hS0 ?_
            refine tk 3 19 (.pointer (some ⟨xb, xo + i * 2, none⟩)) (fuel := 30) rfl (by kernel_rfl) (by kernel_rfl) (by kernel_rfl) (by kernel_rfl) noPanic_false (by kernel_rfl) (fun _ _ => by kernel_rfl) hS0 ?_
            refine tk 4 20 (.string (strOf x.nm)) (fuel := 29) rfl (by kernel_rfl) (by kernel_rfl) (by kernel_rfl) (by kernel_rfl) noPanic_false (by kernel_rfl) (fun W hW => x_loadT (x := .tmp 19) (t := 9) (g := xb) (j := xo + i * 2 + 0) Try.underlying9 rfl (by kernel_rfl) (by kernel_rfl) (range_after HX.out hW 0 _ rfl)) hS0 ?_
            refine tkCallZ 5 21 48 #[.string (strOf x.nm)] (fun v w' => v = .bool true ∧ After wr w') (fuel := 28) rfl (by kernel_rfl) (by kernel_rfl) (by kernel_rfl) (fun _ => by kernel_rfl) ((C33.out wr.drew).mono (fun e w' ⟨he, h⟩ => ⟨_, he, rfl, (After.drew (After.refl wr)).trans h⟩)) ?_
            intro v5 w5 ⟨hv5, hS5⟩
            subst hv5
            refine ⟨hS5, ?_⟩
            refine tk 6 22 (.bool false) (fuel := 27) rfl (by kernel_rfl) (by kernel_rfl) (by kernel_rfl) (by kernel_rfl) noPanic_false (by kernel_rfl) (fun _ _ => by kernel_rfl) hS5 ?_
            refine tk 7 23 (.bool false) (fuel := 26) rfl (by kernel_rfl) (by kernel_rfl) (by kernel_rfl) (by kernel_rfl) noPanic_false (by kernel_rfl) (fun _ _ => by kernel_rfl) hS5 ?_
            refine tk 8 24 (.slice (some ⟨xb, xo, none⟩) n ca) (fuel := 25) rfl (by kernel_rfl) (by kernel_rfl) (by kernel_rfl) (by kernel_rfl) noPanic_false (by kernel_rfl) (fun _ _ => by kernel_rfl) hS5 ?_
            refine tk 9 25 (.int .i64 (i : Int)) (fuel := 24) rfl (by kernel_rfl) (by kernel_rfl) (by kernel_rfl) (by kernel_rfl) noPanic_false (by kernel_rfl) (fun _ _ => by kernel_rfl) hS5 ?_
            refine tk 10 26 (.pointer (some ⟨xb, xo + i * 2, none⟩)) (fuel := 23) rfl (by kernel_rfl) (by kernel_rfl) (by kernel_rfl) (by kernel_rfl) noPanic_false (by kernel_rfl) (fun W _ => x_idx25 (n := n) (c := ca) (x := .tmp 24) (y := .tmp 25) (by kernel_rfl) (by kernel_rfl) (by kernel_rfl) HLT.out) hS5 ?_
            refine tk 11 27 (.pointer (some ⟨xb, xo + i * 2 + 1, none⟩)) (fuel := 22) rfl (by kernel_rfl) (by kernel_rfl) (by kernel_rfl) (by kernel_rfl) noPanic_false (by kernel_rfl) (fun _ _ => by kernel_rfl) hS5 ?_
            refine tk 12 28 (.slice x.a p x.c) (fuel := 21) rfl (by kernel_rfl) (by kernel_rfl) (by kernel_rfl) (by kernel_rfl) noPanic_false (by kernel_rfl) (fun W hW => x_loadT (x := .tmp 27) (t := 39) (g := xb) (j := xo + i * 2 + 1) Try.underlying39 rfl (by kernel_rfl) (by kernel_rfl) (range_after HX.out hW 1 _ rfl)) hS5 ?_
            refine tkCallZ 13 29 71 #[.slice x.a p x.c] (fun v w' => v = .bool false ∧ After wr w') (fuel := 20) rfl (by kernel_rfl) (by kernel_rfl) (by kernel_rfl) (fun _ => by kernel_rfl) ((C34.out w5 hS5).mono (fun e w' ⟨he, h⟩ => ⟨_, he, rfl, hS5.trans h⟩)) ?_
            intro v7 w7 ⟨hv7, hS7⟩
            subst hv7
            refine ⟨hS7, ?_⟩
            refine tk 14 30 (.bool true) (fuel := 19) rfl (by kernel_rfl) (by kernel_rfl) (by kernel_rfl) (by kernel_rfl) noPanic_false (by kernel_rfl) (fun _ _ => by kernel_rfl) hS7 ?_
            refine tk 15 31 (.bool true) (fuel := 18) rfl (by kernel_rfl) (by kernel_rfl) (by kernel_rfl) (by kernel_rfl) noPanic_false (by kernel_rfl) (fun _ _ => by kernel_rfl) hS7 ?_
            refine tk 16 32 (.bool true) (fuel := 17) rfl (by kernel_rfl) (by kernel_rfl) (by kernel_rfl) (by kernel_rfl) noPanic_false (by kernel_rfl) (fun _ _ => by kernel_rfl) hS7 ?_
            refine tkSkip 17 33 (fuel := 16) rfl (by kernel_rfl) (by kernel_rfl) (by kernel_rfl) (by kernel_rfl) noPanic_false (by kernel_rfl) hS7 ?_
            refine tkSkip 18 34 (fuel := 15) rfl (by kernel_rfl) (by kernel_rfl) (by kernel_rfl) (by kernel_rfl) noPanic_false (by kernel_rfl) hS7 ?_
            refine tkSkip 19 35 (fuel := 14) rfl (by kernel_rfl) (by kernel_rfl) (by kernel_rfl) (by kernel_rfl) noPanic_false (by kernel_rfl) hS7 ?_
            refine tkSkip 20 36 (fuel := 13) rfl (by kernel_rfl) (by kernel_rfl) (by kernel_rfl) (by kernel_rfl) noPanic_false (by kernel_rfl) hS7 ?_
            refine tkSkip 21 37 (fuel := 12) rfl (by kernel_rfl) (by kernel_rfl) (by kernel_rfl) (by kernel_rfl) noPanic_false (by kernel_rfl) hS7 ?_
            refine tkSkip 22 38 (fuel := 11) rfl (by kernel_rfl) (by kernel_rfl) (by kernel_rfl) (by kernel_rfl) noPanic_false (by kernel_rfl) hS7 ?_
            refine tkSkip 23 39 (fuel := 10) rfl (by kernel_rfl) (by kernel_rfl) (by kernel_rfl) (by kernel_rfl) noPanic_false (by kernel_rfl) hS7 ?_
            refine tkSkip 24 40 (fuel := 9) rfl (by kernel_rfl) (by kernel_rfl) (by kernel_rfl) (by kernel_rfl) noPanic_false (by kernel_rfl) hS7 ?_
            refine tkSkip 25 41 (fuel := 8) rfl (by kernel_rfl) (by kernel_rfl) (by kernel_rfl) (by kernel_rfl) noPanic_false (by kernel_rfl) hS7 ?_
            refine tkSkip 26 42 (fuel := 7) rfl (by kernel_rfl) (by kernel_rfl) (by kernel_rfl) (by kernel_rfl) noPanic_false (by kernel_rfl) hS7 ?_
            refine tkSkip 27 43 (fuel := 6) rfl (by kernel_rfl) (by kernel_rfl) (by kernel_rfl) (by kernel_rfl) noPanic_false (by kernel_rfl) hS7 ?_
            refine tkSkip 28 44 (fuel := 5) rfl (by kernel_rfl) (by kernel_rfl) (by kernel_rfl) (by kernel_rfl) noPanic_false (by kernel_rfl) hS7 ?_
            refine tkSkip 29 45 (fuel := 4) rfl (by kernel_rfl) (by kernel_rfl) (by kernel_rfl) (by kernel_rfl) noPanic_false (by kernel_rfl) hS7 ?_
            refine tkSkip 30 46 (fuel := 3) rfl (by kernel_rfl) (by kernel_rfl) (by kernel_rfl) (by kernel_rfl) noPanic_false (by kernel_rfl) hS7 ?_
            refine tkSkip 31 47 (fuel := 2) rfl (by kernel_rfl) (by kernel_rfl) (by kernel_rfl) (by kernel_rfl) noPanic_false (by kernel_rfl) hS7 ?_
            refine tkSkip 32 48 (fuel := 1) rfl (by kernel_rfl) (by kernel_rfl) (by kernel_rfl) (by kernel_rfl) noPanic_false (by kernel_rfl) hS7 ?_
            refine tk 33 49 (.bool true) (fuel := 0) rfl (by kernel_rfl) (by kernel_rfl) (by kernel_rfl) (by kernel_rfl) noPanic_false (by kernel_rfl) (fun _ _ => by kernel_rfl) hS7 ?_
            refine wpAnyH_done (by kernel_rfl) (NoPanic.normal ?_) _
            have H8 : Hid (RLd w (bof X) g0 i (.slice va i vc) Z _) := HP.out.after hS7
            have HBAD : Hid (¬ LOk (bof X)) := lok_heads HBO.out HMB.out
            clear hS0 hS5 hS7
            go_simp
            go_wp2_with (first
              | (refine wpList_of_run rfl (x_bld27 rfl) ?_)
              | (refine wpList_store_row rfl 82 (.tmp 2) (.tmp 50) rfl g0 #[.slice none 0 0] (by kernel_rfl) (by kernel_rfl) 82 _ H8.out.r0 (size27 none 0 0) rfl (one27 none 0 0) ?_))
            refine bodyPost_ret (ret27t Try.results47 _ _ g0 (.slice none 0 0) (.int .i64 4) (by kernel_rfl) (H8.out.r0.setRow _) (by kernel_rfl)) rfl (.inr ⟨HBAD.out, rfl, (Below.row H8.out.aft (by have := H8.out.sz; omega) _)⟩)
          · rw [hm] at C34
            have HMB : Hid (mayB x.l = true) := hm
            clear hm
            by_cases hi0 : i = 0
            · have HI0 : Hid (decide (0 < i) = false) := by rw [hi0]; exact (rfl : decide (0 < 0) = false)
              have HLK : Hid (LOk ((bof X).take (i + 1))) := lok_up HBO.out HP.out.lok (by omega) (fun q h => absurd hi0 h) HNB.out HMB.out
              clear hi0
              go_wp2
              refine wp_region_noPanic ?_
              refine wp_region_held_drew (S := After wr) (by kernel_rfl) (After.drew (After.refl wr)) ?_
              intro hS0
              refine tk 0 16 (.slice (some ⟨xb, xo, none⟩) n ca) (fuel := 33) rfl (by kernel_rfl) (by kernel_rfl) (by kernel_rfl) (by kernel_rfl) noPanic_false (by kernel_rfl) (fun _ _ => by kernel_rfl) hS0 ?_
              refine tk 1 17 (.int .i64 (i : Int)) (fuel := 32) rfl (by kernel_rfl) (by kernel_rfl) (by kernel_rfl) (by kernel_rfl) noPanic_false (by kernel_rfl) (fun _ _ => by kernel_rfl) hS0 ?_
              refine tk 2 18 (.pointer (some ⟨xb, xo + i * 2, none⟩)) (fuel := 31) rfl (by kernel_rfl) (by kernel_rfl) (by kernel_rfl) (by kernel_rfl) noPanic_false (by kernel_rfl) (fun W _ => x_idx25 (n := n) (c := ca) (x := .tmp 16) (y := .tmp 17) (by kernel_rfl) (by kernel_rfl) (by kernel_rfl) HLT.out) hS0 ?_
              refine tk 3 19 (.pointer (some ⟨xb, xo + i * 2, none⟩)) (fuel := 30) rfl (by kernel_rfl) (by kernel_rfl) (by kernel_rfl) (by kernel_rfl) noPanic_false (by kernel_rfl) (fun _ _ => by kernel_rfl) hS0 ?_
              refine tk 4 20 (.string (strOf x.nm)) (fuel := 29) rfl (by kernel_rfl) (by kernel_rfl) (by kernel_rfl) (by kernel_rfl) noPanic_false (by kernel_rfl) (fun W hW => x_loadT (x := .tmp 19) (t := 9) (g := xb) (j := xo + i * 2 + 0) Try.underlying9 rfl (by kernel_rfl) (by kernel_rfl) (range_after HX.out hW 0 _ rfl)) hS0 ?_
              refine tkCallZ 5 21 48 #[.string (strOf x.nm)] (fun v w' => v = .bool true ∧ After wr w') (fuel := 28) rfl (by kernel_rfl) (by kernel_rfl) (by kernel_rfl) (fun _ => by kernel_rfl) ((C33.out wr.drew).mono (fun e w' ⟨he, h⟩ => ⟨_, he, rfl, (After.drew (After.refl wr)).trans h⟩)) ?_
              intro v5 w5 ⟨hv5, hS5⟩
              subst hv5
              refine ⟨hS5, ?_⟩
              refine tk 6 22 (.bool false) (fuel := 27) rfl (by kernel_rfl) (by kernel_rfl) (by kernel_rfl) (by kernel_rfl) noPanic_false (by kernel_rfl) (fun _ _ => by kernel_rfl) hS5 ?_
              refine tk 7 23 (.bool false) (fuel := 26) rfl (by kernel_rfl) (by kernel_rfl) (by kernel_rfl) (by kernel_rfl) noPanic_false (by kernel_rfl) (fun _ _ => by kernel_rfl) hS5 ?_
              refine tk 8 24 (.slice (some ⟨xb, xo, none⟩) n ca) (fuel := 25) rfl (by kernel_rfl) (by kernel_rfl) (by kernel_rfl) (by kernel_rfl) noPanic_false (by kernel_rfl) (fun _ _ => by kernel_rfl) hS5 ?_
              refine tk 9 25 (.int .i64 (i : Int)) (fuel := 24) rfl (by kernel_rfl) (by kernel_rfl) (by kernel_rfl) (by kernel_rfl) noPanic_false (by kernel_rfl) (fun _ _ => by kernel_rfl) hS5 ?_
              refine tk 10 26 (.pointer (some ⟨xb, xo + i * 2, none⟩)) (fuel := 23) rfl (by kernel_rfl) (by kernel_rfl) (by kernel_rfl) (by kernel_rfl) noPanic_false (by kernel_rfl) (fun W _ => x_idx25 (n := n) (c := ca) (x := .tmp 24) (y := .tmp 25) (by kernel_rfl) (by kernel_rfl) (by kernel_rfl) HLT.out) hS5 ?_
              refine tk 11 27 (.pointer (some ⟨xb, xo + i * 2 + 1, none⟩)) (fuel := 22) rfl (by kernel_rfl) (by kernel_rfl) (by kernel_rfl) (by kernel_rfl) noPanic_false (by kernel_rfl) (fun _ _ => by kernel_rfl) hS5 ?_
              refine tk 12 28 (.slice x.a p x.c) (fuel := 21) rfl (by kernel_rfl) (by kernel_rfl) (by kernel_rfl) (by kernel_rfl) noPanic_false (by kernel_rfl) (fun W hW => x_loadT (x := .tmp 27) (t := 39) (g := xb) (j := xo + i * 2 + 1) Try.underlying39 rfl (by kernel_rfl) (by kernel_rfl) (range_after HX.out hW 1 _ rfl)) hS5 ?_
              refine tkCallZ 13 29 71 #[.slice x.a p x.c] (fun v w' => v = .bool true ∧ After wr w') (fuel := 20) rfl (by kernel_rfl) (by kernel_rfl) (by kernel_rfl) (fun _ => by kernel_rfl) ((C34.out w5 hS5).mono (fun e w' ⟨he, h⟩ => ⟨_, he, rfl, hS5.trans h⟩)) ?_
              intro v7 w7 ⟨hv7, hS7⟩
              subst hv7
              refine ⟨hS7, ?_⟩
              refine tk 14 30 (.bool false) (fuel := 19) rfl (by kernel_rfl) (by kernel_rfl) (by kernel_rfl) (by kernel_rfl) noPanic_false (by kernel_rfl) (fun _ _ => by kernel_rfl) hS7 ?_
              refine tk 15 31 (.bool false) (fuel := 18) rfl (by kernel_rfl) (by kernel_rfl) (by kernel_rfl) (by kernel_rfl) noPanic_false (by kernel_rfl) (fun _ _ => by kernel_rfl) hS7 ?_
              refine tk 16 32 (.bool false) (fuel := 17) rfl (by kernel_rfl) (by kernel_rfl) (by kernel_rfl) (by kernel_rfl) noPanic_false (by kernel_rfl) (fun _ _ => by kernel_rfl) hS7 ?_
              refine tk 17 33 (.int .i64 (i : Int)) (fuel := 16) rfl (by kernel_rfl) (by kernel_rfl) (by kernel_rfl) (by kernel_rfl) noPanic_false (by kernel_rfl) (fun _ _ => by kernel_rfl) hS7 ?_
              refine tk 18 34 (.bool false) (fuel := 15) rfl (by kernel_rfl) (by kernel_rfl) (by kernel_rfl) (by kernel_rfl) noPanic_false (by kernel_rfl) (fun W _ => (x_gtr0 (x := .tmp 33) (k := i) (by kernel_rfl) (by kernel_rfl)).trans (by rw [HI0.out])) hS7 ?_
              refine tk 19 35 (.bool false) (fuel := 14) rfl (by kernel_rfl) (by kernel_rfl) (by kernel_rfl) (by kernel_rfl) noPanic_false (by kernel_rfl) (fun _ _ => by kernel_rfl) hS7 ?_
              refine tkSkip 20 36 (fuel := 13) rfl (by kernel_rfl) (by kernel_rfl) (by kernel_rfl) (by kernel_rfl) noPanic_false (by kernel_rfl) hS7 ?_
              refine tkSkip 21 37 (fuel := 12) rfl (by kernel_rfl) (by kernel_rfl) (by kernel_rfl) (by kernel_rfl) noPanic_false (by kernel_rfl) hS7 ?_
              refine tkSkip 22 38 (fuel := 11) rfl (by kernel_rfl) (by kernel_rfl) (by kernel_rfl) (by kernel_rfl) noPanic_false (by kernel_rfl) hS7 ?_
              refine tkSkip 23 39 (fuel := 10) rfl (by kernel_rfl) (by kernel_rfl) (by kernel_rfl) (by kernel_rfl) noPanic_false (by kernel_rfl) hS7 ?_
              refine tkSkip 24 40 (fuel := 9) rfl (by kernel_rfl) (by kernel_rfl) (by kernel_rfl) (by kernel_rfl) noPanic_false (by kernel_rfl) hS7 ?_
              refine tkSkip 25 41 (fuel := 8) rfl (by kernel_rfl) (by kernel_rfl) (by kernel_rfl) (by kernel_rfl) noPanic_false (by kernel_rfl) hS7 ?_
              refine tkSkip 26 42 (fuel := 7) rfl (by kernel_rfl) (by kernel_rfl) (by kernel_rfl) (by kernel_rfl) noPanic_false (by kernel_rfl) hS7 ?_
              refine tkSkip 27 43 (fuel := 6) rfl (by kernel_rfl) (by kernel_rfl) (by kernel_rfl) (by kernel_rfl) noPanic_false (by kernel_rfl) hS7 ?_
              refine tkSkip 28 44 (fuel := 5) rfl (by kernel_rfl) (by kernel_rfl) (by kernel_rfl) (by kernel_rfl) noPanic_false (by kernel_rfl) hS7 ?_
              refine tkSkip 29 45 (fuel := 4) rfl (by kernel_rfl) (by kernel_rfl) (by kernel_rfl) (by kernel_rfl) noPanic_false (by kernel_rfl) hS7 ?_
              refine tkSkip 30 46 (fuel := 3) rfl (by kernel_rfl) (by kernel_rfl) (by kernel_rfl) (by kernel_rfl) noPanic_false (by kernel_rfl) hS7 ?_
              refine tkSkip 31 47 (fuel := 2) rfl (by kernel_rfl) (by kernel_rfl) (by kernel_rfl) (by kernel_rfl) noPanic_false (by kernel_rfl) hS7 ?_
              refine tk 32 48 (.bool false) (fuel := 1) rfl (by kernel_rfl) (by kernel_rfl) (by kernel_rfl) (by kernel_rfl) noPanic_false (by kernel_rfl) (fun _ _ => by kernel_rfl) hS7 ?_
              refine tk 33 49 (.bool false) (fuel := 0) rfl (by kernel_rfl) (by kernel_rfl) (by kernel_rfl) (by kernel_rfl) noPanic_false (by kernel_rfl) (fun _ _ => by kernel_rfl) hS7 ?_
              refine wpAnyH_done (by kernel_rfl) (NoPanic.normal ?_) _
              have H7 : Hid (RLd w (bof X) g0 i (.slice va i vc) Z w7.drew) := (HP.out.after hS7).after (After.drew (After.refl w7))
              have HX7 : Hid (w7.rangeAt xb (xo + i * 2) [.string (strOf x.nm), .slice x.a p x.c]) := range_after HX.out hS7
              clear hS0 hS5 hS7
              go_simp
              go_wp2
              refine wp_region_noPanic ?_
              refine wp_region_held_drew (S := KeptF (fun b => b = g0 + 1 ∨ (Value.slice va i vc).ownBlock = some b) w7) (by kernel_rfl) (KeptF.of_after (After.drew (After.refl w7))) ?_
              intro hS0
              refine tk 0 51 (.pointer (some ⟨g0 + 1, 0, none⟩)) (fuel := 15) rfl (by kernel_rfl) (by kernel_rfl) (by kernel_rfl) (by kernel_rfl) noPanic_false (by kernel_rfl) (fun _ _ => by kernel_rfl) hS0 ?_
              refine tk 2 53 (.slice (some ⟨xb, xo, none⟩) n ca) (fuel := 14) rfl (by kernel_rfl) (by kernel_rfl) (by kernel_rfl) (by kernel_rfl) noPanic_false (by kernel_rfl) (fun _ _ => by kernel_rfl) hS0 ?_
              refine tk 3 54 (.int .i64 (i : Int)) (fuel := 13) rfl (by kernel_rfl) (by kernel_rfl) (by kernel_rfl) (by kernel_rfl) noPanic_false (by kernel_rfl) (fun _ _ => by kernel_rfl) hS0 ?_
              refine tk 4 55 (.pointer (some ⟨xb, xo + i * 2, none⟩)) (fuel := 12) rfl (by kernel_rfl) (by kernel_rfl) (by kernel_rfl) (by kernel_rfl) noPanic_false (by kernel_rfl) (fun W _ => x_idx25 (n := n) (c := ca) (x := .tmp 53) (y := .tmp 54) (by kernel_rfl) (by kernel_rfl) (by kernel_rfl) HLT.out) hS0 ?_
              refine tk 5 56 (.pointer (some ⟨xb, xo + i * 2, none⟩)) (fuel := 11) rfl (by kernel_rfl) (by kernel_rfl) (by kernel_rfl) (by kernel_rfl) noPanic_false (by kernel_rfl) (fun _ _ => by kernel_rfl) hS0 ?_
              refine tk 6 57 (.string (strOf x.nm)) (fuel := 10) rfl (by kernel_rfl) (by kernel_rfl) (by kernel_rfl) (by kernel_rfl) noPanic_false (by kernel_rfl) (fun W hW => x_loadT (x := .tmp 56) (t := 9) (g := xb) (j := xo + i * 2 + 0) Try.underlying9 rfl (by kernel_rfl) (by kernel_rfl) (range_kept HX7.out hW HNE.out 0 _ rfl)) hS0 ?_
              refine tk 7 58 (.slice (some ⟨xb, xo, none⟩) n ca) (fuel := 9) rfl (by kernel_rfl) (by kernel_rfl) (by kernel_rfl) (by kernel_rfl) noPanic_false (by kernel_rfl) (fun _ _ => by kernel_rfl) hS0 ?_
              refine tk 8 59 (.int .i64 (i : Int)) (fuel := 8) rfl (by kernel_rfl) (by kernel_rfl) (by kernel_rfl) (by kernel_rfl) noPanic_false (by kernel_rfl) (fun _ _ => by kernel_rfl) hS0 ?_
              refine tk 9 60 (.pointer (some ⟨xb, xo + i * 2, none⟩)) (fuel := 7) rfl (by kernel_rfl) (by kernel_rfl) (by kernel_rfl) (by kernel_rfl) noPanic_false (by kernel_rfl) (fun W _ => x_idx25 (n := n) (c := ca) (x := .tmp 58) (y := .tmp 59) (by kernel_rfl) (by kernel_rfl) (by kernel_rfl) HLT.out) hS0 ?_
              refine tk 10 61 (.pointer (some ⟨xb, xo + i * 2 + 1, none⟩)) (fuel := 6) rfl (by kernel_rfl) (by kernel_rfl) (by kernel_rfl) (by kernel_rfl) noPanic_false (by kernel_rfl) (fun _ _ => by kernel_rfl) hS0 ?_
              refine tk 11 62 (.slice x.a p x.c) (fuel := 5) rfl (by kernel_rfl) (by kernel_rfl) (by kernel_rfl) (by kernel_rfl) noPanic_false (by kernel_rfl) (fun W hW => x_loadT (x := .tmp 61) (t := 39) (g := xb) (j := xo + i * 2 + 1) Try.underlying39 rfl (by kernel_rfl) (by kernel_rfl) (range_kept HX7.out hW HNE.out 1 _ rfl)) hS0 ?_
              refine tkTwo 1 12 (fuel := 4) (by kernel_rfl) (opVal 1 52 (.slice va i vc) w7.drew rfl rfl (by kernel_rfl) (x_loadT (x := .tmp 51) (t := 38) (g := g0 + 1) (j := 0) Try.underlying38 rfl (by kernel_rfl) (by kernel_rfl) (H7.out.r1.cell (j := 0) rfl)) ⟨hS0, ?_⟩) (opCallK 12 63 41 #[.string (strOf x.nm), .slice x.a p x.c] (fun v w' => ∃ g a' c', v = .slice (some ⟨g, 0, none⟩) 1 1 ∧ OwnB w' w7.drew.heap.size (.slice (some ⟨g, 0, none⟩) 1 1) [⟨x.nm, a', c', x.l⟩] ∧ After w7.drew w') rfl rfl (by kernel_rfl) (fun _ => by kernel_rfl) ((C32.out w7.drew H7.out.aft).mono (fun e w' ⟨g, a', c', he, ho, ha⟩ => ⟨_, he, g, a', c', rfl, ho, ha⟩)) (fun v1 w4 ⟨g5, a5, c5, hv5, ho5, ha5⟩ => ?_))
              · refine tkCallZ 12 63 41 #[.string (strOf x.nm), .slice x.a p x.c] (fun v w' => ∃ g a' c', v = .slice (some ⟨g, 0, none⟩) 1 1 ∧ OwnB w' w7.drew.heap.size (.slice (some ⟨g, 0, none⟩) 1 1) [⟨x.nm, a', c', x.l⟩] ∧ After w7.drew w') (fuel := 3) rfl (by kernel_rfl) (by kernel_rfl) (by kernel_rfl) (fun _ => by kernel_rfl) ((C32.out w7.drew H7.out.aft).mono (fun e w' ⟨g, a', c', he, ho, ha⟩ => ⟨_, he, g, a', c', rfl, ho, ha⟩)) ?_
                intro v1 w4 ⟨g5, a5, c5, hv5, ho5, ha5⟩
                subst hv5
                have hk4 : KeptF (fun b => b = g0 + 1 ∨ (Value.slice va i vc).ownBlock = some b) w7 w4 := KeptF.of_after ((After.drew (After.refl w7)).trans ha5)
                refine ⟨hk4, ?_⟩
                obtain ⟨vb, vd, w6, Z', hr6, hk6, hrow6, hN6⟩ := rl_step H7.out HBO.out HLK.out (by omega) ho5 ha5
                have hk46 := hk4.trans hk6 (fun _ _ h => h)
                refine tkRunS 13 64 (.slice vb (i + 1) vd) (w6) (fuel := 2) rfl (by kernel_rfl) (by kernel_rfl) (by kernel_rfl) (x_app (t := 38) (s := .tmp 52) (x := .tmp 63) rfl (by kernel_rfl) (by kernel_rfl) hr6) (hk46) ?_
                refine tk 14 65 (.pointer (some ⟨g0 + 1, 0, none⟩)) (fuel := 1) rfl (by kernel_rfl) (by kernel_rfl) (by kernel_rfl) (by kernel_rfl) noPanic_false (by kernel_rfl) (fun _ _ => by kernel_rfl) hk46 ?_
                refine tkStoreS 15 (w6.setCell ⟨g0 + 1, 0, none⟩ (.slice vb (i + 1) vd)) (fuel := 0) rfl (by kernel_rfl) (by kernel_rfl) (by kernel_rfl) (x_st25 (x := .tmp 65) (y := .tmp 64) (g := g0 + 1) (p := 0) (by kernel_rfl) (by kernel_rfl) (by kernel_rfl) (hrow6.cell (j := 0) rfl) (hrow6.frozen 0)) (hk46.trans (KeptF.set _ _ _ (.inl rfl)) (fun _ _ h => h)) ?_
                refine wpAnyH_done (by kernel_rfl) (NoPanic.normal ?_) _
                obtain ⟨wn, hwn⟩ : ∃ wn, w6.setCell ⟨g0 + 1, 0, none⟩ (.slice vb (i + 1) vd) = wn := ⟨_, rfl⟩
                rw [hwn] at hN6 ⊢
                have HN := show Hid _ from hN6
                clear hS0 ho5 ha5 hk4 hr6 hk6 hrow6 hN6 hk46 hwn
                go_simp
                go_wp2
                go_roundw
                case rel => exact ⟨i + 1, vb, vd, Z', by omega, by go_num, HN⟩
                case measure => simp [intOf]; omega
              · subst hv5
                have hk4 : KeptF (fun b => b = g0 + 1 ∨ (Value.slice va i vc).ownBlock = some b) w7 w4 := KeptF.of_after ((After.drew (After.refl w7)).trans ha5)
                refine ⟨hk4, ?_⟩
                refine tkRunS 1 52 (.slice va i vc) w4 (fuel := 3) rfl (by kernel_rfl) (by kernel_rfl) (by kernel_rfl) (x_loadT (x := .tmp 51) (t := 38) (g := g0 + 1) (j := 0) Try.underlying38 rfl (by kernel_rfl) (by kernel_rfl) ((H7.out.after ha5).r1.cell (j := 0) rfl)) hk4 ?_
                obtain ⟨vb, vd, w6, Z', hr6, hk6, hrow6, hN6⟩ := rl_step H7.out HBO.out HLK.out (by omega) ho5 ha5
                have hk46 := hk4.trans hk6 (fun _ _ h => h)
                refine tkRunS 13 64 (.slice vb (i + 1) vd) (w6) (fuel := 2) rfl (by kernel_rfl) (by kernel_rfl) (by kernel_rfl) (x_app (t := 38) (s := .tmp 52) (x := .tmp 63) rfl (by kernel_rfl) (by kernel_rfl) hr6) (hk46) ?_
                refine tk 14 65 (.pointer (some ⟨g0 + 1, 0, none⟩)) (fuel := 1) rfl (by kernel_rfl) (by kernel_rfl) (by kernel_rfl) (by kernel_rfl) noPanic_false (by kernel_rfl) (fun _ _ => by kernel_rfl) hk46 ?_
                refine tkStoreS 15 (w6.setCell ⟨g0 + 1, 0, none⟩ (.slice vb (i + 1) vd)) (fuel := 0) rfl (by kernel_rfl) (by kernel_rfl) (by kernel_rfl) (x_st25 (x := .tmp 65) (y := .tmp 64) (g := g0 + 1) (p := 0) (by kernel_rfl) (by kernel_rfl) (by kernel_rfl) (hrow6.cell (j := 0) rfl) (hrow6.frozen 0)) (hk46.trans (KeptF.set _ _ _ (.inl rfl)) (fun _ _ h => h)) ?_
                refine wpAnyH_done (by kernel_rfl) (NoPanic.normal ?_) _
                obtain ⟨wn, hwn⟩ : ∃ wn, w6.setCell ⟨g0 + 1, 0, none⟩ (.slice vb (i + 1) vd) = wn := ⟨_, rfl⟩
                rw [hwn] at hN6 ⊢
                have HN := show Hid _ from hN6
                clear hS0 ho5 ha5 hk4 hr6 hk6 hrow6 hN6 hk46 hwn
                go_simp
                go_wp2
                go_roundw
                case rel => exact ⟨i + 1, vb, vd, Z', by omega, by go_num, HN⟩
                case measure => simp [intOf]; omega
            · obtain ⟨j, hj⟩ : ∃ j, i = j + 1 := ⟨i - 1, by omega⟩
              have HI0 : Hid (decide (0 < i) = true) := decide_eq_true (by omega)
              have HJ : Hid (i = j + 1 ∧ i < 4611686018427387904 ∧ j < n) := ⟨hj, by omega, by omega⟩
              obtain ⟨y, hy⟩ : ∃ y, X[j]? = some y := ⟨_, List.getElem?_eq_getElem (by rw [HL.out.2.1]; omega)⟩
              obtain ⟨yb, yo, hya, hyr⟩ := HL.out.1.sl.at (bs_get hy)
              cases hya
              have HY : Hid (wr.rangeAt xb (xo + j * 2) (brc y)) := range_after hyr HP.out.aft
              have HYO : Hid ((bof X)[j]? = some (y.nm, y.l)) := bof_get hy
              clear hj hy hyr
              cases hge : bytesBefore y.nm x.nm
              · have HGE : Hid (bytesBefore y.nm x.nm = false) := hge
                clear hge hi0
                go_wp2
                refine wp_region_noPanic ?_
                refine wp_region_held_drew (S := After wr) (by kernel_rfl) (After.drew (After.refl wr)) ?_
                intro hS0
                refine tk 0 16 (.slice (some ⟨xb, xo, none⟩) n ca) (fuel := 33) rfl (by kernel_rfl) (by kernel_rfl) (by kernel_rfl) (by kernel_rfl) noPanic_false (by kernel_rfl) (fun _ _ => by kernel_rfl) hS0 ?_
                refine tk 1 17 (.int .i64 (i : Int)) (fuel := 32) rfl (by kernel_rfl) (by kernel_rfl) (by kernel_rfl) (by kernel_rfl) noPanic_false (by kernel_rfl) (fun _ _ => by kernel_rfl) hS0 ?_
                refine tk 2 18 (.pointer (some ⟨xb, xo + i * 2, none⟩)) (fuel := 31) rfl (by kernel_rfl) (by kernel_rfl) (by kernel_rfl) (by kernel_rfl) noPanic_false (by kernel_rfl) (fun W _ => x_idx25 (n := n) (c := ca) (x := .tmp 16) (y := .tmp 17) (by kernel_rfl) (by kernel_rfl) (by kernel_rfl) HLT.out) hS0 ?_
                refine tk 3 19 (.pointer (some ⟨xb, xo + i * 2, none⟩)) (fuel := 30) rfl (by kernel_rfl) (by kernel_rfl) (by kernel_rfl) (by kernel_rfl) noPanic_false (by kernel_rfl) (fun _ _ => by kernel_rfl) hS0 ?_
                refine tk 4 20 (.string (strOf x.nm)) (fuel := 29) rfl (by kernel_rfl) (by kernel_rfl) (by kernel_rfl) (by kernel_rfl) noPanic_false (by kernel_rfl) (fun W hW => x_loadT (x := .tmp 19) (t := 9) (g := xb) (j := xo + i * 2 + 0) Try.underlying9 rfl (by kernel_rfl) (by kernel_rfl) (range_after HX.out hW 0 _ rfl)) hS0 ?_
                refine tkCallZ 5 21 48 #[.string (strOf x.nm)] (fun v w' => v = .bool true ∧ After wr w') (fuel := 28) rfl (by kernel_rfl) (by kernel_rfl) (by kernel_rfl) (fun _ => by kernel_rfl) ((C33.out wr.drew).mono (fun e w' ⟨he, h⟩ => ⟨_, he, rfl, (After.drew (After.refl wr)).trans h⟩)) ?_
                intro v5 w5 ⟨hv5, hS5⟩
                subst hv5
                refine ⟨hS5, ?_⟩
                refine tk 6 22 (.bool false) (fuel := 27) rfl (by kernel_rfl) (by kernel_rfl) (by kernel_rfl) (by kernel_rfl) noPanic_false (by kernel_rfl) (fun _ _ => by kernel_rfl) hS5 ?_
                refine tk 7 23 (.bool false) (fuel := 26) rfl (by kernel_rfl) (by kernel_rfl) (by kernel_rfl) (by kernel_rfl) noPanic_false (by kernel_rfl) (fun _ _ => by kernel_rfl) hS5 ?_
                refine tk 8 24 (.slice (some ⟨xb, xo, none⟩) n ca) (fuel := 25) rfl (by kernel_rfl) (by kernel_rfl) (by kernel_rfl) (by kernel_rfl) noPanic_false (by kernel_rfl) (fun _ _ => by kernel_rfl) hS5 ?_
                refine tk 9 25 (.int .i64 (i : Int)) (fuel := 24) rfl (by kernel_rfl) (by kernel_rfl) (by kernel_rfl) (by kernel_rfl) noPanic_false (by kernel_rfl) (fun _ _ => by kernel_rfl) hS5 ?_
                refine tk 10 26 (.pointer (some ⟨xb, xo + i * 2, none⟩)) (fuel := 23) rfl (by kernel_rfl) (by kernel_rfl) (by kernel_rfl) (by kernel_rfl) noPanic_false (by kernel_rfl) (fun W _ => x_idx25 (n := n) (c := ca) (x := .tmp 24) (y := .tmp 25) (by kernel_rfl) (by kernel_rfl) (by kernel_rfl) HLT.out) hS5 ?_
                refine tk 11 27 (.pointer (some ⟨xb, xo + i * 2 + 1, none⟩)) (fuel := 22) rfl (by kernel_rfl) (by kernel_rfl) (by kernel_rfl) (by kernel_rfl) noPanic_false (by kernel_rfl) (fun _ _ => by kernel_rfl) hS5 ?_
                refine tk 12 28 (.slice x.a p x.c) (fuel := 21) rfl (by kernel_rfl) (by kernel_rfl) (by kernel_rfl) (by kernel_rfl) noPanic_false (by kernel_rfl) (fun W hW => x_loadT (x := .tmp 27) (t := 39) (g := xb) (j := xo + i * 2 + 1) Try.underlying39 rfl (by kernel_rfl) (by kernel_rfl) (range_after HX.out hW 1 _ rfl)) hS5 ?_
                refine tkCallZ 13 29 71 #[.slice x.a p x.c] (fun v w' => v = .bool true ∧ After wr w') (fuel := 20) rfl (by kernel_rfl) (by kernel_rfl) (by kernel_rfl) (fun _ => by kernel_rfl) ((C34.out w5 hS5).mono (fun e w' ⟨he, h⟩ => ⟨_, he, rfl, hS5.trans h⟩)) ?_
                intro v7 w7 ⟨hv7, hS7⟩
                subst hv7
                refine ⟨hS7, ?_⟩
                refine tk 14 30 (.bool false) (fuel := 19) rfl (by kernel_rfl) (by kernel_rfl) (by kernel_rfl) (by kernel_rfl) noPanic_false (by kernel_rfl) (fun _ _ => by kernel_rfl) hS7 ?_
                refine tk 15 31 (.bool false) (fuel := 18) rfl (by kernel_rfl) (by kernel_rfl) (by kernel_rfl) (by kernel_rfl) noPanic_false (by kernel_rfl) (fun _ _ => by kernel_rfl) hS7 ?_
                refine tk 16 32 (.bool false) (fuel := 17) rfl (by kernel_rfl) (by kernel_rfl) (by kernel_rfl) (by kernel_rfl) noPanic_false (by kernel_rfl) (fun _ _ => by kernel_rfl) hS7 ?_
                refine tk 17 33 (.int .i64 (i : Int)) (fuel := 16) rfl (by kernel_rfl) (by kernel_rfl) (by kernel_rfl) (by kernel_rfl) noPanic_false (by kernel_rfl) (fun _ _ => by kernel_rfl) hS7 ?_
                refine tk 18 34 (.bool true) (fuel := 15) rfl (by kernel_rfl) (by kernel_rfl) (by kernel_rfl) (by kernel_rfl) noPanic_false (by kernel_rfl) (fun W _ => (x_gtr0 (x := .tmp 33) (k := i) (by kernel_rfl) (by kernel_rfl)).trans (by rw [HI0.out])) hS7 ?_
                refine tk 19 35 (.bool true) (fuel := 14) rfl (by kernel_rfl) (by kernel_rfl) (by kernel_rfl) (by kernel_rfl) noPanic_false (by kernel_rfl) (fun _ _ => by kernel_rfl) hS7 ?_
                refine tk 20 36 (.slice (some ⟨xb, xo, none⟩) n ca) (fuel := 13) rfl (by kernel_rfl) (by kernel_rfl) (by kernel_rfl) (by kernel_rfl) noPanic_false (by kernel_rfl) (fun _ _ => by kernel_rfl) hS7 ?_
                refine tk 21 37 (.int .i64 (i : Int)) (fuel := 12) rfl (by kernel_rfl) (by kernel_rfl) (by kernel_rfl) (by kernel_rfl) noPanic_false (by kernel_rfl) (fun _ _ => by kernel_rfl) hS7 ?_
                refine tk 22 38 (.int .i64 (j : Int)) (fuel := 11) rfl (by kernel_rfl) (by kernel_rfl) (by kernel_rfl) (by kernel_rfl) noPanic_false (by kernel_rfl) (fun W _ => x_sub1 (k := i) (i := j) (x := .tmp 37) (by kernel_rfl) (by kernel_rfl) HJ.out.1 HJ.out.2.1) hS7 ?_
                refine tk 23 39 (.pointer (some ⟨xb, xo + j * 2, none⟩)) (fuel := 10) rfl (by kernel_rfl) (by kernel_rfl) (by kernel_rfl) (by kernel_rfl) noPanic_false (by kernel_rfl) (fun W _ => x_idx25 (n := n) (c := ca) (x := .tmp 36) (y := .tmp 38) (by kernel_rfl) (by kernel_rfl) (by kernel_rfl) HJ.out.2.2) hS7 ?_
                refine tk 24 40 (.pointer (some ⟨xb, xo + j * 2, none⟩)) (fuel := 9) rfl (by kernel_rfl) (by kernel_rfl) (by kernel_rfl) (by kernel_rfl) noPanic_false (by kernel_rfl) (fun _ _ => by kernel_rfl) hS7 ?_
                refine tk 25 41 (.string (strOf y.nm)) (fuel := 8) rfl (by kernel_rfl) (by kernel_rfl) (by kernel_rfl) (by kernel_rfl) noPanic_false (by kernel_rfl) (fun W hW => x_loadT (x := .tmp 40) (t := 9) (g := xb) (j := xo + j * 2 + 0) Try.underlying9 rfl (by kernel_rfl) (by kernel_rfl) (range_after HY.out hW 0 _ rfl)) hS7 ?_
                refine tk 26 42 (.slice (some ⟨xb, xo, none⟩) n ca) (fuel := 7) rfl (by kernel_rfl) (by kernel_rfl) (by kernel_rfl) (by kernel_rfl) noPanic_false (by kernel_rfl) (fun _ _ => by kernel_rfl) hS7 ?_
                refine tk 27 43 (.int .i64 (i : Int)) (fuel := 6) rfl (by kernel_rfl) (by kernel_rfl) (by kernel_rfl) (by kernel_rfl) noPanic_false (by kernel_rfl) (fun _ _ => by kernel_rfl) hS7 ?_
                refine tk 28 44 (.pointer (some ⟨xb, xo + i * 2, none⟩)) (fuel := 5) rfl (by kernel_rfl) (by kernel_rfl) (by kernel_rfl) (by kernel_rfl) noPanic_false (by kernel_rfl) (fun W _ => x_idx25 (n := n) (c := ca) (x := .tmp 42) (y := .tmp 43) (by kernel_rfl) (by kernel_rfl) (by kernel_rfl) HLT.out) hS7 ?_
                refine tk 29 45 (.pointer (some ⟨xb, xo + i * 2, none⟩)) (fuel := 4) rfl (by kernel_rfl) (by kernel_rfl) (by kernel_rfl) (by kernel_rfl) noPanic_false (by kernel_rfl) (fun _ _ => by kernel_rfl) hS7 ?_
                refine tk 30 46 (.string (strOf x.nm)) (fuel := 3) rfl (by kernel_rfl) (by kernel_rfl) (by kernel_rfl) (by kernel_rfl) noPanic_false (by kernel_rfl) (fun W hW => x_loadT (x := .tmp 45) (t := 9) (g := xb) (j := xo + i * 2 + 0) Try.underlying9 rfl (by kernel_rfl) (by kernel_rfl) (range_after HX.out hW 0 _ rfl)) hS7 ?_
                refine tk 31 47 (.bool true) (fuel := 2) rfl (by kernel_rfl) (by kernel_rfl) (by kernel_rfl) (by kernel_rfl) noPanic_false (by kernel_rfl) (fun W _ => (x_geq9 (s := y.nm) (t := x.nm) (x := .tmp 41) (y := .tmp 46) (by kernel_rfl) (by kernel_rfl) (by kernel_rfl)).trans (by rw [HGE.out]; rfl)) hS7 ?_
                refine tk 32 48 (.bool true) (fuel := 1) rfl (by kernel_rfl) (by kernel_rfl) (by kernel_rfl) (by kernel_rfl) noPanic_false (by kernel_rfl) (fun _ _ => by kernel_rfl) hS7 ?_
                refine tk 33 49 (.bool true) (fuel := 0) rfl (by kernel_rfl) (by kernel_rfl) (by kernel_rfl) (by kernel_rfl) noPanic_false (by kernel_rfl) (fun _ _ => by kernel_rfl) hS7 ?_
                refine wpAnyH_done (by kernel_rfl) (NoPanic.normal ?_) _
                have H8 : Hid (RLd w (bof X) g0 i (.slice va i vc) Z _) := HP.out.after hS7
                have HBAD : Hid (¬ LOk (bof X)) := lok_bad (i := i) (by have := HJ.out.1; omega) HBO.out (by rw [HJ.out.1, Nat.add_sub_cancel]; exact HYO.out) HGE.out
                clear hS0 hS5 hS7
                go_simp
                go_wp2_with (first
                  | (refine wpList_of_run rfl (x_bld27 rfl) ?_)
                  | (refine wpList_store_row rfl 82 (.tmp 2) (.tmp 50) rfl g0 #[.slice none 0 0] (by kernel_rfl) (by kernel_rfl) 82 _ H8.out.r0 (size27 none 0 0) rfl (one27 none 0 0) ?_))
                refine bodyPost_ret (ret27t Try.results47 _ _ g0 (.slice none 0 0) (.int .i64 4) (by kernel_rfl) (H8.out.r0.setRow _) (by kernel_rfl)) rfl (.inr ⟨HBAD.out, rfl, (Below.row H8.out.aft (by have := H8.out.sz; omega) _)⟩)
              · have HGE : Hid (bytesBefore y.nm x.nm = true) := hge
                have HLK : Hid (LOk ((bof X).take (i + 1))) := lok_up HBO.out HP.out.lok (by omega) (fun q _ h => by rw [HJ.out.1, Nat.add_sub_cancel, HYO.out] at h; cases h; exact HGE.out) HNB.out HMB.out
                clear hge hi0
                go_wp2
                refine wp_region_noPanic ?_
                refine wp_region_held_drew (S := After wr) (by kernel_rfl) (After.drew (After.refl wr)) ?_
                intro hS0
                refine tk 0 16 (.slice (some ⟨xb, xo, none⟩) n ca) (fuel := 33) rfl (by kernel_rfl) (by kernel_rfl) (by kernel_rfl) (by kernel_rfl) noPanic_false (by kernel_rfl) (fun _ _ => by kernel_rfl) hS0 ?_
                refine tk 1 17 (.int .i64 (i : Int)) (fuel := 32) rfl (by kernel_rfl) (by kernel_rfl) (by kernel_rfl) (by kernel_rfl) noPanic_false (by kernel_rfl) (fun _ _ => by kernel_rfl) hS0 ?_
                refine tk 2 18 (.pointer (some ⟨xb, xo + i * 2, none⟩)) (fuel := 31) rfl (by kernel_rfl) (by kernel_rfl) (by kernel_rfl) (by kernel_rfl) noPanic_false (by kernel_rfl) (fun W _ => x_idx25 (n := n) (c := ca) (x := .tmp 16) (y := .tmp 17) (by kernel_rfl) (by kernel_rfl) (by kernel_rfl) HLT.out) hS0 ?_
                refine tk 3 19 (.pointer (some ⟨xb, xo + i * 2, none⟩)) (fuel := 30) rfl (by kernel_rfl) (by kernel_rfl) (by kernel_rfl) (by kernel_rfl) noPanic_false (by kernel_rfl) (fun _ _ => by kernel_rfl) hS0 ?_
                refine tk 4 20 (.string (strOf x.nm)) (fuel := 29) rfl (by kernel_rfl) (by kernel_rfl) (by kernel_rfl) (by kernel_rfl) noPanic_false (by kernel_rfl) (fun W hW => x_loadT (x := .tmp 19) (t := 9) (g := xb) (j := xo + i * 2 + 0) Try.underlying9 rfl (by kernel_rfl) (by kernel_rfl) (range_after HX.out hW 0 _ rfl)) hS0 ?_
                refine tkCallZ 5 21 48 #[.string (strOf x.nm)] (fun v w' => v = .bool true ∧ After wr w') (fuel := 28) rfl (by kernel_rfl) (by kernel_rfl) (by kernel_rfl) (fun _ => by kernel_rfl) ((C33.out wr.drew).mono (fun e w' ⟨he, h⟩ => ⟨_, he, rfl, (After.drew (After.refl wr)).trans h⟩)) ?_
                intro v5 w5 ⟨hv5, hS5⟩
                subst hv5
                refine ⟨hS5, ?_⟩
                refine tk 6 22 (.bool false) (fuel := 27) rfl (by kernel_rfl) (by kernel_rfl) (by kernel_rfl) (by kernel_rfl) noPanic_false (by kernel_rfl) (fun _ _ => by kernel_rfl) hS5 ?_
                refine tk 7 23 (.bool false) (fuel := 26) rfl (by kernel_rfl) (by kernel_rfl) (by kernel_rfl) (by kernel_rfl) noPanic_false (by kernel_rfl) (fun _ _ => by kernel_rfl) hS5 ?_
                refine tk 8 24 (.slice (some ⟨xb, xo, none⟩) n ca) (fuel := 25) rfl (by kernel_rfl) (by kernel_rfl) (by kernel_rfl) (by kernel_rfl) noPanic_false (by kernel_rfl) (fun _ _ => by kernel_rfl) hS5 ?_
                refine tk 9 25 (.int .i64 (i : Int)) (fuel := 24) rfl (by kernel_rfl) (by kernel_rfl) (by kernel_rfl) (by kernel_rfl) noPanic_false (by kernel_rfl) (fun _ _ => by kernel_rfl) hS5 ?_
                refine tk 10 26 (.pointer (some ⟨xb, xo + i * 2, none⟩)) (fuel := 23) rfl (by kernel_rfl) (by kernel_rfl) (by kernel_rfl) (by kernel_rfl) noPanic_false (by kernel_rfl) (fun W _ => x_idx25 (n := n) (c := ca) (x := .tmp 24) (y := .tmp 25) (by kernel_rfl) (by kernel_rfl) (by kernel_rfl) HLT.out) hS5 ?_
                refine tk 11 27 (.pointer (some ⟨xb, xo + i * 2 + 1, none⟩)) (fuel := 22) rfl (by kernel_rfl) (by kernel_rfl) (by kernel_rfl) (by kernel_rfl) noPanic_false (by kernel_rfl) (fun _ _ => by kernel_rfl) hS5 ?_
                refine tk 12 28 (.slice x.a p x.c) (fuel := 21) rfl (by kernel_rfl) (by kernel_rfl) (by kernel_rfl) (by kernel_rfl) noPanic_false (by kernel_rfl) (fun W hW => x_loadT (x := .tmp 27) (t := 39) (g := xb) (j := xo + i * 2 + 1) Try.underlying39 rfl (by kernel_rfl) (by kernel_rfl) (range_after HX.out hW 1 _ rfl)) hS5 ?_
                refine tkCallZ 13 29 71 #[.slice x.a p x.c] (fun v w' => v = .bool true ∧ After wr w') (fuel := 20) rfl (by kernel_rfl) (by kernel_rfl) (by kernel_rfl) (fun _ => by kernel_rfl) ((C34.out w5 hS5).mono (fun e w' ⟨he, h⟩ => ⟨_, he, rfl, hS5.trans h⟩)) ?_
                intro v7 w7 ⟨hv7, hS7⟩
                subst hv7
                refine ⟨hS7, ?_⟩
                refine tk 14 30 (.bool false) (fuel := 19) rfl (by kernel_rfl) (by kernel_rfl) (by kernel_rfl) (by kernel_rfl) noPanic_false (by kernel_rfl) (fun _ _ => by kernel_rfl) hS7 ?_
                refine tk 15 31 (.bool false) (fuel := 18) rfl (by kernel_rfl) (by kernel_rfl) (by kernel_rfl) (by kernel_rfl) noPanic_false (by kernel_rfl) (fun _ _ => by kernel_rfl) hS7 ?_
                refine tk 16 32 (.bool false) (fuel := 17) rfl (by kernel_rfl) (by kernel_rfl) (by kernel_rfl) (by kernel_rfl) noPanic_false (by kernel_rfl) (fun _ _ => by kernel_rfl) hS7 ?_
                refine tk 17 33 (.int .i64 (i : Int)) (fuel := 16) rfl (by kernel_rfl) (by kernel_rfl) (by kernel_rfl) (by kernel_rfl) noPanic_false (by kernel_rfl) (fun _ _ => by kernel_rfl) hS7 ?_
                refine tk 18 34 (.bool true) (fuel := 15) rfl (by kernel_rfl) (by kernel_rfl) (by kernel_rfl) (by kernel_rfl) noPanic_false (by kernel_rfl) (fun W _ => (x_gtr0 (x := .tmp 33) (k := i) (by kernel_rfl) (by kernel_rfl)).trans (by rw [HI0.out])) hS7 ?_
                refine tk 19 35 (.bool true) (fuel := 14) rfl (by kernel_rfl) (by kernel_rfl) (by kernel_rfl) (by kernel_rfl) noPanic_false (by kernel_rfl) (fun _ _ => by kernel_rfl) hS7 ?_
                refine tk 20 36 (.slice (some ⟨xb, xo, none⟩) n ca) (fuel := 13) rfl (by kernel_rfl) (by kernel_rfl) (by kernel_rfl) (by kernel_rfl) noPanic_false (by kernel_rfl) (fun _ _ => by kernel_rfl) hS7 ?_
                refine tk 21 37 (.int .i64 (i : Int)) (fuel := 12) rfl (by kernel_rfl) (by kernel_rfl) (by kernel_rfl) (by kernel_rfl) noPanic_false (by kernel_rfl) (fun _ _ => by kernel_rfl) hS7 ?_
                refine tk 22 38 (.int .i64 (j : Int)) (fuel := 11) rfl (by kernel_rfl) (by kernel_rfl) (by kernel_rfl) (by kernel_rfl) noPanic_false (by kernel_rfl) (fun W _ => x_sub1 (k := i) (i := j) (x := .tmp 37) (by kernel_rfl) (by kernel_rfl) HJ.out.1 HJ.out.2.1) hS7 ?_
                refine tk 23 39 (.pointer (some ⟨xb, xo + j * 2, none⟩)) (fuel := 10) rfl (by kernel_rfl) (by kernel_rfl) (by kernel_rfl) (by kernel_rfl) noPanic_false (by kernel_rfl) (fun W _ => x_idx25 (n := n) (c := ca) (x := .tmp 36) (y := .tmp 38) (by kernel_rfl) (by kernel_rfl) (by kernel_rfl) HJ.out.2.2) hS7 ?_
                refine tk 24 40 (.pointer (some ⟨xb, xo + j * 2, none⟩)) (fuel := 9) rfl (by kernel_rfl) (by kernel_rfl) (by kernel_rfl) (by kernel_rfl) noPanic_false (by kernel_rfl) (fun _ _ => by kernel_rfl) hS7 ?_
                refine tk 25 41 (.string (strOf y.nm)) (fuel := 8) rfl (by kernel_rfl) (by kernel_rfl) (by kernel_rfl) (by kernel_rfl) noPanic_false (by kernel_rfl) (fun W hW => x_loadT (x := .tmp 40) (t := 9) (g := xb) (j := xo + j * 2 + 0) Try.underlying9 rfl (by kernel_rfl) (by kernel_rfl) (range_after HY.out hW 0 _ rfl)) hS7 ?_
                refine tk 26 42 (.slice (some ⟨xb, xo, none⟩) n ca) (fuel := 7) rfl (by kernel_rfl) (by kernel_rfl) (by kernel_rfl) (by kernel_rfl) noPanic_false (by kernel_rfl) (fun _ _ => by kernel_rfl) hS7 ?_
                refine tk 27 43 (.int .i64 (i : Int)) (fuel := 6) rfl (by kernel_rfl) (by kernel_rfl) (by kernel_rfl) (by kernel_rfl) noPanic_false (by kernel_rfl) (fun _ _ => by kernel_rfl) hS7 ?_
                refine tk 28 44 (.pointer (some ⟨xb, xo + i * 2, none⟩)) (fuel := 5) rfl (by kernel_rfl) (by kernel_rfl) (by kernel_rfl) (by kernel_rfl) noPanic_false (by kernel_rfl) (fun W _ => x_idx25 (n := n) (c := ca) (x := .tmp 42) (y := .tmp 43) (by kernel_rfl) (by kernel_rfl) (by kernel_rfl) HLT.out) hS7 ?_
                refine tk 29 45 (.pointer (some ⟨xb, xo + i * 2, none⟩)) (fuel := 4) rfl (by kernel_rfl) (by kernel_rfl) (by kernel_rfl) (by kernel_rfl) noPanic_false (by kernel_rfl) (fun _ _ => by kernel_rfl) hS7 ?_
                refine tk 30 46 (.string (strOf x.nm)) (fuel := 3) rfl (by kernel_rfl) (by kernel_rfl) (by kernel_rfl) (by kernel_rfl) noPanic_false (by kernel_rfl) (fun W hW => x_loadT (x := .tmp 45) (t := 9) (g := xb) (j := xo + i * 2 + 0) Try.underlying9 rfl (by kernel_rfl) (by kernel_rfl) (range_after HX.out hW 0 _ rfl)) hS7 ?_
                refine tk 31 47 (.bool false) (fuel := 2) rfl (by kernel_rfl) (by kernel_rfl) (by kernel_rfl) (by kernel_rfl) noPanic_false (by kernel_rfl) (fun W _ => (x_geq9 (s := y.nm) (t := x.nm) (x := .tmp 41) (y := .tmp 46) (by kernel_rfl) (by kernel_rfl) (by kernel_rfl)).trans (by rw [HGE.out]; rfl)) hS7 ?_
                refine tk 32 48 (.bool false) (fuel := 1) rfl (by kernel_rfl) (by kernel_rfl) (by kernel_rfl) (by kernel_rfl) noPanic_false (by kernel_rfl) (fun _ _ => by kernel_rfl) hS7 ?_
                refine tk 33 49 (.bool false) (fuel := 0) rfl (by kernel_rfl) (by kernel_rfl) (by kernel_rfl) (by kernel_rfl) noPanic_false (by kernel_rfl) (fun _ _ => by kernel_rfl) hS7 ?_
                refine wpAnyH_done (by kernel_rfl) (NoPanic.normal ?_) _
                have H7 : Hid (RLd w (bof X) g0 i (.slice va i vc) Z w7.drew) := (HP.out.after hS7).after (After.drew (After.refl w7))
                have HX7 : Hid (w7.rangeAt xb (xo + i * 2) [.string (strOf x.nm), .slice x.a p x.c]) := range_after HX.out hS7
                clear hS0 hS5 hS7
                go_simp
                go_wp2
                refine wp_region_noPanic ?_
                refine wp_region_held_drew (S := KeptF (fun b => b = g0 + 1 ∨ (Value.slice va i vc).ownBlock = some b) w7) (by kernel_rfl) (KeptF.of_after (After.drew (After.refl w7))) ?_
                intro hS0
                refine tk 0 51 (.pointer (some ⟨g0 + 1, 0, none⟩)) (fuel := 15) rfl (by kernel_rfl) (by kernel_rfl) (by kernel_rfl) (by kernel_rfl) noPanic_false (by kernel_rfl) (fun _ _ => by kernel_rfl) hS0 ?_
                refine tk 2 53 (.slice (some ⟨xb, xo, none⟩) n ca) (fuel := 14) rfl (by kernel_rfl) (by kernel_rfl) (by kernel_rfl) (by kernel_rfl) noPanic_false (by kernel_rfl) (fun _ _ => by kernel_rfl) hS0 ?_
                refine tk 3 54 (.int .i64 (i : Int)) (fuel := 13) rfl (by kernel_rfl) (by kernel_rfl) (by kernel_rfl) (by kernel_rfl) noPanic_false (by kernel_rfl) (fun _ _ => by kernel_rfl) hS0 ?_
                refine tk 4 55 (.pointer (some ⟨xb, xo + i * 2, none⟩)) (fuel := 12) rfl (by kernel_rfl) (by kernel_rfl) (by kernel_rfl) (by kernel_rfl) noPanic_false (by kernel_rfl) (fun W _ => x_idx25 (n := n) (c := ca) (x := .tmp 53) (y := .tmp 54) (by kernel_rfl) (by kernel_rfl) (by kernel_rfl) HLT.out) hS0 ?_
                refine tk 5 56 (.pointer (some ⟨xb, xo + i * 2, none⟩)) (fuel := 11) rfl (by kernel_rfl) (by kernel_rfl) (by kernel_rfl) (by kernel_rfl) noPanic_false (by kernel_rfl) (fun _ _ => by kernel_rfl) hS0 ?_
                refine tk 6 57 (.string (strOf x.nm)) (fuel := 10) rfl (by kernel_rfl) (by kernel_rfl) (by kernel_rfl) (by kernel_rfl) noPanic_false (by kernel_rfl) (fun W hW => x_loadT (x := .tmp 56) (t := 9) (g := xb) (j := xo + i * 2 + 0) Try.underlying9 rfl (by kernel_rfl) (by kernel_rfl) (range_kept HX7.out hW HNE.out 0 _ rfl)) hS0 ?_
                refine tk 7 58 (.slice (some ⟨xb, xo, none⟩) n ca) (fuel := 9) rfl (by kernel_rfl) (by kernel_rfl) (by kernel_rfl) (by kernel_rfl) noPanic_false (by kernel_rfl) (fun _ _ => by kernel_rfl) hS0 ?_
                refine tk 8 59 (.int .i64 (i : Int)) (fuel := 8) rfl (by kernel_rfl) (by kernel_rfl) (by kernel_rfl) (by kernel_rfl) noPanic_false (by kernel_rfl) (fun _ _ => by kernel_rfl) hS0 ?_
                refine tk 9 60 (.pointer (some ⟨xb, xo + i * 2, none⟩)) (fuel := 7) rfl (by kernel_rfl) (by kernel_rfl) (by kernel_rfl) (by kernel_rfl) noPanic_false (by kernel_rfl) (fun W _ => x_idx25 (n := n) (c := ca) (x := .tmp 58) (y := .tmp 59) (by kernel_rfl) (by kernel_rfl) (by kernel_rfl) HLT.out) hS0 ?_
                refine tk 10 61 (.pointer (some ⟨xb, xo + i * 2 + 1, none⟩)) (fuel := 6) rfl (by kernel_rfl) (by kernel_rfl) (by kernel_rfl) (by kernel_rfl) noPanic_false (by kernel_rfl) (fun _ _ => by kernel_rfl) hS0 ?_
                refine tk 11 62 (.slice x.a p x.c) (fuel := 5) rfl (by kernel_rfl) (by kernel_rfl) (by kernel_rfl) (by kernel_rfl) noPanic_false (by kernel_rfl) (fun W hW => x_loadT (x := .tmp 61) (t := 39) (g := xb) (j := xo + i * 2 + 1) Try.underlying39 rfl (by kernel_rfl) (by kernel_rfl) (range_kept HX7.out hW HNE.out 1 _ rfl)) hS0 ?_
                refine tkTwo 1 12 (fuel := 4) (by kernel_rfl) (opVal 1 52 (.slice va i vc) w7.drew rfl rfl (by kernel_rfl) (x_loadT (x := .tmp 51) (t := 38) (g := g0 + 1) (j := 0) Try.underlying38 rfl (by kernel_rfl) (by kernel_rfl) (H7.out.r1.cell (j := 0) rfl)) ⟨hS0, ?_⟩) (opCallK 12 63 41 #[.string (strOf x.nm), .slice x.a p x.c] (fun v w' => ∃ g a' c', v = .slice (some ⟨g, 0, none⟩) 1 1 ∧ OwnB w' w7.drew.heap.size (.slice (some ⟨g, 0, none⟩) 1 1) [⟨x.nm, a', c', x.l⟩] ∧ After w7.drew w') rfl rfl (by kernel_rfl) (fun _ => by kernel_rfl) ((C32.out w7.drew H7.out.aft).mono (fun e w' ⟨g, a', c', he, ho, ha⟩ => ⟨_, he, g, a', c', rfl, ho, ha⟩)) (fun v1 w4 ⟨g5, a5, c5, hv5, ho5, ha5⟩ => ?_))
                · refine tkCallZ 12 63 41 #[.string (strOf x.nm), .slice x.a p x.c] (fun v w' => ∃ g a' c', v = .slice (some ⟨g, 0, none⟩) 1 1 ∧ OwnB w' w7.drew.heap.size (.slice (some ⟨g, 0, none⟩) 1 1) [⟨x.nm, a', c', x.l⟩] ∧ After w7.drew w') (fuel := 3) rfl (by kernel_rfl) (by kernel_rfl) (by kernel_rfl) (fun _ => by kernel_rfl) ((C32.out w7.drew H7.out.aft).mono (fun e w' ⟨g, a', c', he, ho, ha⟩ => ⟨_, he, g, a', c', rfl, ho, ha⟩)) ?_
                  intro v1 w4 ⟨g5, a5, c5, hv5, ho5, ha5⟩
                  subst hv5
                  have hk4 : KeptF (fun b => b = g0 + 1 ∨ (Value.slice va i vc).ownBlock = some b) w7 w4 := KeptF.of_after ((After.drew (After.refl w7)).trans ha5)
                  refine ⟨hk4, ?_⟩
                  obtain ⟨vb, vd, w6, Z', hr6, hk6, hrow6, hN6⟩ := rl_step H7.out HBO.out HLK.out (by omega) ho5 ha5
                  have hk46 := hk4.trans hk6 (fun _ _ h => h)
                  refine tkRunS 13 64 (.slice vb (i + 1) vd) (w6) (fuel := 2) rfl (by kernel_rfl) (by kernel_rfl) (by kernel_rfl) (x_app (t := 38) (s := .tmp 52) (x := .tmp 63) rfl (by kernel_rfl) (by kernel_rfl) hr6) (hk46) ?_
                  refine tk 14 65 (.pointer (some ⟨g0 + 1, 0, none⟩)) (fuel := 1) rfl (by kernel_rfl) (by kernel_rfl) (by kernel_rfl) (by kernel_rfl) noPanic_false (by kernel_rfl) (fun _ _ => by kernel_rfl) hk46 ?_
                  refine tkStoreS 15 (w6.setCell ⟨g0 + 1, 0, none⟩ (.slice vb (i + 1) vd)) (fuel := 0) rfl (by kernel_rfl) (by kernel_rfl) (by kernel_rfl) (x_st25 (x := .tmp 65) (y := .tmp 64) (g := g0 + 1) (p := 0) (by kernel_rfl) (by kernel_rfl) (by kernel_rfl) (hrow6.cell (j := 0) rfl) (hrow6.frozen 0)) (hk46.trans (KeptF.set _ _ _ (.inl rfl)) (fun _ _ h => h)) ?_
                  refine wpAnyH_done (by kernel_rfl) (NoPanic.normal ?_) _
                  obtain ⟨wn, hwn⟩ : ∃ wn, w6.setCell ⟨g0 + 1, 0, none⟩ (.slice vb (i + 1) vd) = wn := ⟨_, rfl⟩
                  rw [hwn] at hN6 ⊢
                  have HN := show Hid _ from hN6
                  clear hS0 ho5 ha5 hk4 hr6 hk6 hrow6 hN6 hk46 hwn
                  go_simp
                  go_wp2
                  go_roundw
                  case rel => exact ⟨i + 1, vb, vd, Z', by omega, by go_num, HN⟩
                  case measure => simp [intOf]; omega
                · subst hv5
                  have hk4 : KeptF (fun b => b = g0 + 1 ∨ (Value.slice va i vc).ownBlock = some b) w7 w4 := KeptF.of_after ((After.drew (After.refl w7)).trans ha5)
                  refine ⟨hk4, ?_⟩
                  refine tkRunS 1 52 (.slice va i vc) w4 (fuel := 3) rfl (by kernel_rfl) (by kernel_rfl) (by kernel_rfl) (x_loadT (x := .tmp 51) (t := 38) (g := g0 + 1) (j := 0) Try.underlying38 rfl (by kernel_rfl) (by kernel_rfl) ((H7.out.after ha5).r1.cell (j := 0) rfl)) hk4 ?_
                  obtain ⟨vb, vd, w6, Z', hr6, hk6, hrow6, hN6⟩ := rl_step H7.out HBO.out HLK.out (by omega) ho5 ha5
                  have hk46 := hk4.trans hk6 (fun _ _ h => h)
                  refine tkRunS 13 64 (.slice vb (i + 1) vd) (w6) (fuel := 2) rfl (by kernel_rfl) (by kernel_rfl) (by kernel_rfl) (x_app (t := 38) (s := .tmp 52) (x := .tmp 63) rfl (by kernel_rfl) (by kernel_rfl) hr6) (hk46) ?_
                  refine tk 14 65 (.pointer (some ⟨g0 + 1, 0, none⟩)) (fuel := 1) rfl (by kernel_rfl) (by kernel_rfl) (by kernel_rfl) (by kernel_rfl) noPanic_false (by kernel_rfl) (fun _ _ => by kernel_rfl) hk46 ?_
                  refine tkStoreS 15 (w6.setCell ⟨g0 + 1, 0, none⟩ (.slice vb (i + 1) vd)) (fuel := 0) rfl (by kernel_rfl) (by kernel_rfl) (by kernel_rfl) (x_st25 (x := .tmp 65) (y := .tmp 64) (g := g0 + 1) (p := 0) (by kernel_rfl) (by kernel_rfl) (by kernel_rfl) (hrow6.cell (j := 0) rfl) (hrow6.frozen 0)) (hk46.trans (KeptF.set _ _ _ (.inl rfl)) (fun _ _ h => h)) ?_
                  refine wpAnyH_done (by kernel_rfl) (NoPanic.normal ?_) _
                  obtain ⟨wn, hwn⟩ : ∃ wn, w6.setCell ⟨g0 + 1, 0, none⟩ (.slice vb (i + 1) vd) = wn := ⟨_, rfl⟩
                  rw [hwn] at hN6 ⊢
                  have HN := show Hid _ from hN6
                  clear hS0 ho5 ha5 hk4 hr6 hk6 hrow6 hN6 hk46 hwn
                  go_simp
                  go_wp2
                  go_roundw
                  case rel => exact ⟨i + 1, vb, vd, Z', by omega, by go_num, HN⟩
                  case measure => simp [intOf]; omega
      · have hii : ¬ (i : Int) < (n : Int) := by omega
        obtain rfl : i = n := by omega
        have hfull : bof Z = bof X := by rw [HP.out.pre, List.take_of_length_le]; rw [bof_len, HL.out.2.1]; exact Nat.le_refl _
        have HFU := show Hid _ from hfull
        have HOK : Hid (LOk (bof X)) := by have := HP.out.lok; rw [← HP.out.pre, hfull] at this; exact this
        clear hfull
        go_wp2_with (first
          | (refine wpList_load_row rfl 82 (.tmp 4) rfl (g0 + 1) (by kernel_rfl) 82 #[.slice va i vc] (0, 0) _ HP.out.r1 Try.underlying82 rfl (size27 va i vc) ?_)
          | (refine wpList_store_row rfl 82 (.tmp 2) (.tmp 66) rfl g0 #[.slice va i vc] (by kernel_rfl) (by kernel_rfl) 82 _ HP.out.r0 (size27 none 0 0) rfl (one27 va i vc) ?_))
        have HF : Hid (OwnB (wr.setRow g0 #[.slice va i vc]) w.heap.size (.slice va i vc) Z ∧ After w (wr.setRow g0 #[.slice va i vc])) := ⟨(HP.out.own.row0 (by omega)).lower (by have := HP.out.sz; omega), Below.row HP.out.aft (by have := HP.out.sz; omega) _⟩
        refine bodyPost_ret (ret27t Try.results47 _ _ g0 (.slice va i vc) (.int .i64 0) (by kernel_rfl) (HP.out.r0.setRow [.slice va i vc]) (by kernel_rfl)) rfl (.inl ⟨HOK.out, va, vc, rfl, Z, HF.out.1, HFU.out, HF.out.2⟩)
end Go.Proofs.Ytcmcapcagblafaa
