/-
  THE WALK OF change.firstNo, of the questions that change.Put asks, and of change.Put.
-/
import Derived.Test.YtgmdolpjkaajfaaGreatDoorCB
namespace Go.Proofs.YtgmdolpjkaajfaaGreatDoor
open Go.RowKit Leb

set_option maxRecDepth 100000 in
set_option maxHeartbeats 2400000 in
theorem firstNo_any (b o n : Nat) (hn : n ≤ 100) (P : Nat → World → Prop) (E : Nat → Nat) (K : Nat → Nat) (C : Nat → Array Value) (w : World)
    (hcell : ∀ i, i < n → (∀ j, j < i → E j = 0) → ∀ W, P i W → W.cell? ⟨b, o + i, none⟩ = some (.func (.func (K i)) #[] (C i)))
    (heK : ∀ i, i < n → ∀ args w, (callFunc (K i) args).run Tryz.prog w = .ok (.enter (K i) args) w)
    (hK : ∀ i, i < n → (∀ j, j < i → E j = 0) → ∀ W, P i W → Calls Tryz.prog (K i) (C i) W fun e w' => e = .returned (.int .i64 (E i : Int)) ∧ P (i + 1) w')
    (h0 : P 0 w) : Calls Tryz.prog 31 #[.slice (some ⟨b, o, none⟩) n n] w fun e w' => ∃ (q i : Nat), e = .returned (.int .i64 (q : Int)) ∧ P i w' ∧ ((q = 0 ∧ i = n ∧ ∀ j, j < n → E j = 0) ∨ ∃ j, j < n ∧ i = j + 1 ∧ (∀ k, k < j → E k = 0) ∧ E j = q ∧ ¬ q = 0) := by
  have HC := show Hid (∀ i, i < n → (∀ j, j < i → E j = 0) → ∀ W, P i W → W.cell? ⟨b, o + i, none⟩ = some (.func (.func (K i)) #[] (C i))) from hcell
  have HE := show Hid (∀ i, i < n → ∀ args w, (callFunc (K i) args).run Tryz.prog w = .ok (.enter (K i) args) w) from heK
  have HK := show Hid (∀ i, i < n → (∀ j, j < i → E j = 0) → ∀ W, P i W → Calls Tryz.prog (K i) (C i) W fun e w' => e = .returned (.int .i64 (E i : Int)) ∧ P (i + 1) w') from hK
  have H0 : Hid (P 0 w) := h0
  clear hcell heK hK h0
  go_enter Tryz.func31, Tryz.ntmps31
  go_wp2
  go_loopw [8] (fun vi wr => ∃ i : Nat, vi = .int .i64 (i : Int) ∧ i ≤ n ∧ Hid (P i wr ∧ ∀ j, j < i → E j = 0)) (fun vi _ => n - (intOf vi).toNat)
  case atStart => exact ⟨0, rfl, Nat.zero_le _, H0.out, fun j hj => absurd hj (by omega)⟩
  case round =>
    obtain ⟨i, rfl, hi, HI⟩ := hrel
    by_cases hlt : i < n
    · have hii : (i : Int) < (n : Int) := by omega
      have hc := HC.out i hlt HI.out.2 wr HI.out.1
      have he := HE.out i hlt
      have HKI := show Hid (Calls Tryz.prog (K i) (C i) wr fun e w' => e = .returned (.int .i64 (E i : Int)) ∧ P (i + 1) w') from HK.out i hlt HI.out.2 wr HI.out.1
      obtain ⟨k, hk⟩ : ∃ k, K i = k := ⟨_, rfl⟩
      obtain ⟨cs, hcs⟩ : ∃ cs, C i = cs := ⟨_, rfl⟩
      obtain ⟨q, hq⟩ : ∃ q, E i = q := ⟨_, rfl⟩
      rw [hk, hcs] at hc
      rw [hk] at he
      rw [hk, hcs, hq] at HKI
      have HQ : Hid (E i = q) := hq
      clear hk hcs hq
      by_cases hq0 : q = 0
      · subst hq0
        go_wp2_with (go_at_fn k; refine Calls.mono HKI.out ?_; rintro e w1 ⟨rfl, hp⟩; have H1 := show Hid (P (i + 1) w1) from hp; clear hp)
        go_roundw
        case rel => exact ⟨i + 1, by go_num, by omega, H1.out, fun j hj => by
          by_cases hji : j = i
          · subst hji; exact HQ.out
          · exact HI.out.2 j (by omega)⟩
        case measure => simp [intOf]; omega
      · have fi : ¬ (q : Int) = 0 := by omega
        have fb : ((q : Int) == 0) = false := beq_eq_false_iff_ne.2 fi
        have fn : ((q : Int) != 0) = true := by simp [bne, fb]
        go_wp2_with (go_at_fn k; refine Calls.mono HKI.out ?_; rintro e w1 ⟨rfl, hp⟩; have H1 := show Hid (P (i + 1) w1) from hp; clear hp)
        go_ret
        exact ⟨q, i + 1, rfl, H1.out, .inr ⟨i, hlt, rfl, HI.out.2, HQ.out, hq0⟩⟩
    · obtain rfl : i = n := by omega
      have hii : ¬ (i : Int) < (i : Int) := by omega
      go_wp2
      go_ret
      exact ⟨0, rfl, i, HI.out.1, .inl ⟨rfl, rfl, HI.out.2⟩⟩
theorem own_other {w : World} {base : Nat} {v : Value} {bs : List UInt8} (h : Own w base v bs) {a : Addr} {u : Value} (hg : ∀ g, v.ownBlock = some g → g ≠ a.block) : Own (w.setCell a u) base v bs := by
  refine ⟨h.1, ?_⟩
  rcases h.2 with hn | ⟨g, cap, cur, rfl, h1, h2, rest⟩
  · exact .inl hn
  · refine .inr ⟨g, cap, cur, rfl, h1, ?_, rest⟩
    rw [Below.heap_setCell _ _ _ _ (hg g rfl)]
    exact h2
theorem eOf_zero {m : Bool} {e : Nat} (he : ¬ e = 0) (h : eOf m e = 0) : m = true := by
  unfold eOf at h
  cases m with
  | true => rfl
  | false => exact absurd h he
theorem num_of {z : Int} {e : Nat} (h : eOf (numB z) (e + 1) = 0) : ∃ n : Nat, z = (n : Int) ∧ n ≤ 1099511627776 := by
  have h1 := eOf_zero (by omega) h
  unfold numB at h1
  simp only [Bool.and_eq_true, decide_eq_true_eq] at h1
  exact ⟨z.toNat, by omega, by omega⟩
theorem name_len {x : Chg} (h : chE x 0 = 0) : x.author.length ≤ 2000 := by
  have h1 : nmB x.author = true := eOf_zero (e := 30) (by omega) h
  unfold nmB at h1
  simp only [Bool.and_eq_true, decide_eq_true_eq] at h1
  omega
theorem deps_len {x : Chg} (h : chE x 3 = 0) : x.deps.length ≤ 16 := by
  have h1 : depsB x.deps = true := eOf_zero (e := 41) (by omega) h
  unfold depsB at h1
  simp only [Bool.and_eq_true, decide_eq_true_eq] at h1
  exact h1.1
theorem note_len {x : Chg} (h : chE x 4 = 0) : x.note.length ≤ 1024 := of_decide_eq_true (eOf_zero (e := 5) (by omega) h)

/-- What the questions keep: the change in its box, the questions, what was laid. -/
structure PI (w : World) (x : Chg) (d p : Sl) (fs : List Value) (i : Nat) (W : World) : Prop where
  aft : After w W
  box : RowIs W w.heap.size 25 (cc x d p)
  fns : RowIs W (w.heap.size + 3) 58 fs
  ops : ∃ v, RowIs W (w.heap.size + 1) 32 [v] ∧ (6 ≤ i → Own W (w.heap.size + 4) v (layB x.ops))
  laid : ∃ v, RowIs W (w.heap.size + 2) 32 [v] ∧ (7 ≤ i → Own W (w.heap.size + 4) v (layC x))
  size : w.heap.size + 4 ≤ W.heap.size
theorem PI.next {w W W' : World} {x : Chg} {d p : Sl} {fs : List Value} {i : Nat} (h : PI w x d p fs i W) (ha : After W W') (hi : i < 5) : PI w x d p fs (i + 1) W' := by
  obtain ⟨v, hv, _⟩ := h.ops
  obtain ⟨u, hu, _⟩ := h.laid
  exact ⟨After.trans h.aft ha, h.box.below ha h.box.lt, h.fns.below ha h.fns.lt, ⟨v, hv.below ha hv.lt, fun h6 => absurd h6 (by omega)⟩, ⟨u, hu.below ha hu.lt, fun h7 => absurd h7 (by omega)⟩, Nat.le_trans h.size ha.size⟩

set_option maxRecDepth 100000 in
set_option maxHeartbeats 2400000 in
theorem ask0 {w W : World} {x : Chg} {d p : Sl} {fs : List Value} (hx : ChAt w x d p) (h : PI w x d p fs 0 W) :
    Calls Tryz.prog 32 #[.pointer (some ⟨w.heap.size, 0, none⟩)] W fun e w' => e = .returned (.int .i64 (chE x 0 : Int)) ∧ PI w x d p fs 1 w' := by
  have H := show Hid (ChAt w x d p ∧ PI w x d p fs 0 W) from ⟨hx, h⟩
  have c0 := h.box.cell (j := 0) rfl
  clear hx h
  go_enter Tryz.func32, Tryz.ntmps32
  go_wp2_with (first
    | (go_at_call 33; have _u := H1.out; clear _u; refine Calls.mono (unless_any (nmB x.author) 30 _) ?_; rintro e w2 ⟨rfl, hw⟩; have hw2 := hw.symm; clear hw; subst hw2)
    | (go_at_call 34; refine Calls.mono (name_one (strOf x.author) _ (by rw [strOf_size]; exact H.out.1.al)) ?_; rintro e w1 ⟨rfl, hw⟩; rw [data_strOf]; have hw2 := hw.symm; clear hw; subst hw2; have H1 := show Hid True from trivial))
  go_ret
  exact ⟨rfl, H.out.2.next (After.refl _) (by omega)⟩
set_option maxRecDepth 100000 in
set_option maxHeartbeats 2400000 in
theorem ask1 {w W : World} {x : Chg} {d p : Sl} {fs : List Value} (hx : ChAt w x d p) (h : PI w x d p fs 1 W) :
    Calls Tryz.prog 35 #[.pointer (some ⟨w.heap.size, 0, none⟩)] W fun e w' => e = .returned (.int .i64 (chE x 1 : Int)) ∧ PI w x d p fs 2 w' := by
  have H := show Hid (ChAt w x d p ∧ PI w x d p fs 1 W) from ⟨hx, h⟩
  have c1 := h.box.cell (j := 1) rfl
  clear hx h
  go_enter Tryz.func35, Tryz.ntmps35
  go_wp2_with (first
    | (go_at_call 33; have _u := H1.out; clear _u; refine Calls.mono (unless_any (numB x.seq) 42 _) ?_; rintro e w2 ⟨rfl, hw⟩; have hw2 := hw.symm; clear hw; subst hw2)
    | (go_at_call 36; refine Calls.mono (isNumber_any x.seq _) ?_; rintro e w1 ⟨rfl, hw⟩; have hw2 := hw.symm; clear hw; subst hw2; have H1 := show Hid True from trivial))
  go_ret
  exact ⟨rfl, H.out.2.next (After.refl _) (by omega)⟩
set_option maxRecDepth 100000 in
set_option maxHeartbeats 2400000 in
theorem ask2 {w W : World} {x : Chg} {d p : Sl} {fs : List Value} (hx : ChAt w x d p) (h : PI w x d p fs 2 W) :
    Calls Tryz.prog 37 #[.pointer (some ⟨w.heap.size, 0, none⟩)] W fun e w' => e = .returned (.int .i64 (chE x 2 : Int)) ∧ PI w x d p fs 3 w' := by
  have H := show Hid (ChAt w x d p ∧ PI w x d p fs 2 W) from ⟨hx, h⟩
  have c2 := h.box.cell (j := 2) rfl
  clear hx h
  go_enter Tryz.func37, Tryz.ntmps37
  go_wp2_with (first
    | (go_at_call 33; have _u := H1.out; clear _u; refine Calls.mono (unless_any (numB x.start) 43 _) ?_; rintro e w2 ⟨rfl, hw⟩; have hw2 := hw.symm; clear hw; subst hw2)
    | (go_at_call 36; refine Calls.mono (isNumber_any x.start _) ?_; rintro e w1 ⟨rfl, hw⟩; have hw2 := hw.symm; clear hw; subst hw2; have H1 := show Hid True from trivial))
  go_ret
  exact ⟨rfl, H.out.2.next (After.refl _) (by omega)⟩
set_option maxRecDepth 100000 in
set_option maxHeartbeats 2400000 in
theorem ask3 {w W : World} {x : Chg} {d p : Sl} {fs : List Value} (hx : ChAt w x d p) (h : PI w x d p fs 3 W) :
    Calls Tryz.prog 38 #[.pointer (some ⟨w.heap.size, 0, none⟩)] W fun e w' => e = .returned (.int .i64 (chE x 3 : Int)) ∧ PI w x d p fs 4 w' := by
  have H := show Hid (ChAt w x d p ∧ PI w x d p fs 3 W) from ⟨hx, h⟩
  have c3 := h.box.cell (j := 3) rfl
  clear hx h
  go_enter Tryz.func38, Tryz.ntmps38
  go_wp2_with (first
    | (go_at_call 33; have _u := H1.out; clear _u; refine Calls.mono (unless_any (depsB x.deps) 41 w1) ?_; rintro e w2 ⟨rfl, hw⟩; have hw2 := hw.symm; clear hw; subst hw2)
    | (go_at_call 39; refine Calls.mono (areDeps_any d.a d.n d.c x.deps H.out.1.d32 H.out.1.dn H.out.1.db _ (H.out.1.deps.after H.out.2.aft)) ?_; rintro e w1 ⟨rfl, ha⟩; have H1 := show Hid (After W w1) from ha; clear ha))
  go_ret
  exact ⟨rfl, H.out.2.next H1.out (by omega)⟩
set_option maxRecDepth 100000 in
set_option maxHeartbeats 2400000 in
theorem ask4 {w W : World} {x : Chg} {d p : Sl} {fs : List Value} (hx : ChAt w x d p) (h : PI w x d p fs 4 W) :
    Calls Tryz.prog 40 #[.pointer (some ⟨w.heap.size, 0, none⟩)] W fun e w' => e = .returned (.int .i64 (chE x 4 : Int)) ∧ PI w x d p fs 5 w' := by
  have H := show Hid (ChAt w x d p ∧ PI w x d p fs 4 W) from ⟨hx, h⟩
  have c4 := h.box.cell (j := 4) rfl
  clear hx h
  obtain ⟨k, hk⟩ : ∃ k, x.note.length = k := ⟨_, rfl⟩
  have hsz : (strOf x.note).size = k := by rw [strOf_size, hk]
  have HE : Hid (chE x 4 = eOf (decide (k ≤ 1024)) 5) := by unfold Hid; rw [← hk]; rfl
  clear hk
  by_cases hk4 : k ≤ 1024
  · have hki : (k : Int) ≤ 1024 := by omega
    rw [decide_eq_true hk4] at HE
    go_enter Tryz.func40, Tryz.ntmps40
    go_wp2_with (go_at_call 33; refine Calls.mono (unless_any true 5 _) ?_; rintro e w2 ⟨rfl, hw⟩; have hw2 := hw.symm; clear hw; subst hw2)
    go_ret
    exact ⟨by rw [HE.out]; rfl, H.out.2.next (After.refl _) (by omega)⟩
  · have hki : ¬ (k : Int) ≤ 1024 := by omega
    rw [decide_eq_false hk4] at HE
    go_enter Tryz.func40, Tryz.ntmps40
    go_wp2_with (go_at_call 33; refine Calls.mono (unless_any false 5 _) ?_; rintro e w2 ⟨rfl, hw⟩; have hw2 := hw.symm; clear hw; subst hw2)
    go_ret
    exact ⟨by rw [HE.out]; rfl, H.out.2.next (After.refl _) (by omega)⟩
set_option maxRecDepth 100000 in
set_option maxHeartbeats 2400000 in
theorem ask5 {w W : World} {x : Chg} {d p : Sl} {fs : List Value} (hx : ChAt w x d p) (h : PI w x d p fs 5 W) :
    Calls Tryz.prog 41 #[.pointer (some ⟨w.heap.size, 0, none⟩), .pointer (some ⟨w.heap.size + 1, 0, none⟩)] W fun e w' => e = .returned (.int .i64 (chE x 5 : Int)) ∧ (chE x 5 = 0 → PI w x d p fs 6 w') ∧ After w w' := by
  have H := show Hid (ChAt w x d p ∧ PI w x d p fs 5 W) from ⟨hx, h⟩
  have c5 := h.box.cell (j := 5) rfl
  obtain ⟨q, hq⟩ : ∃ q, putE x.ops = q := ⟨_, rfl⟩
  obtain ⟨B, hB⟩ : ∃ B, putBs x.ops = B := ⟨_, rfl⟩
  obtain ⟨kB, hkB⟩ : ∃ k, B.length = k := ⟨_, rfl⟩
  have HQ : Hid (putE x.ops = q ∧ putBs x.ops = B ∧ B.length = kB) := ⟨hq, hB, hkB⟩
  clear hx h hq hB hkB
  go_enter Tryz.func41, Tryz.ntmps41
  go_wp2_with (go_at_call 42; go_must (refine Calls.mono (put_k p.a p.n p.c x.ops H.out.1.pn H.out.1.ok H.out.1.pb _ (H.out.1.ops.after H.out.2.aft) HQ.out.1 HQ.out.2.1) ?_; rintro e w1 ⟨v1, rfl, ho, ha⟩; obtain ⟨a1, c1, he1, _, _, _⟩ := own_sl ho HQ.out.2.2; subst he1; obtain ⟨v0, hv0, _⟩ := H.out.2.ops; have hr1 := hv0.below ha hv0.lt; have g0 := hr1.cell (j := 0) rfl; have g0f := hr1.frozen 0; have H1 := show Hid (Own w1 W.heap.size (.slice a1 kB c1) B ∧ After W w1 ∧ RowIs w1 (w.heap.size + 1) 32 [v0]) from ⟨ho, ha, hr1⟩; clear ho ha hr1 hv0))
  have hset := H1.out.2.2.set 0 (.slice a1 kB c1)
  have haw : After w (w1.setCell ⟨w.heap.size + 1, 0, none⟩ (.slice a1 kB c1)) := Below.setCell (After.trans H.out.2.aft H1.out.2.1) (p := ⟨w.heap.size + 1, 0, none⟩) (by simp) _
  have hoth : ∀ {g : Nat} {t : TypeId} {cs : List Value}, RowIs W g t cs → g ≠ w.heap.size + 1 → RowIs (w1.setCell ⟨w.heap.size + 1, 0, none⟩ (.slice a1 kB c1)) g t cs := fun hr hg => (hr.below H1.out.2.1 hr.lt).other _ _ hg
  go_ret
  refine ⟨by show _ = Ending.returned (.int .i64 (putE x.ops : Int)); rw [HQ.out.1]; rfl, fun h0 => ?_, haw⟩
  obtain ⟨u, hu, _⟩ := H.out.2.laid
  have hB : B = layB x.ops := by rw [← HQ.out.2.1]; unfold putBs; rw [if_pos (show putE x.ops = 0 from h0)]
  refine ⟨haw, hoth H.out.2.box (by omega), hoth H.out.2.fns (by omega), ⟨_, hset, fun _ => ?_⟩, ⟨u, hoth hu (by omega), fun h7 => absurd h7 (by omega)⟩, ?_⟩
  · rw [← hB]
    have h1 := H1.out.1.mono H.out.2.size
    exact own_other h1 (fun g hg => by have := (World.ownsRow.lt H1.out.1 g hg).1; have := H.out.2.size; show g ≠ w.heap.size + 1; omega)
  · have h1 := H.out.2.size
    have h2 := H1.out.2.1.size
    simp
    omega
theorem chE6_len {x : Chg} : chE x 6 = eOf (decide ((layC x).length ≤ 65536)) 5 := rfl

set_option maxRecDepth 100000 in
set_option maxHeartbeats 2400000 in
theorem ask6 {w W : World} {x : Chg} {d p : Sl} {fs : List Value} (hx : ChAt w x d p) (hE : ∀ j, j < 6 → chE x j = 0) (h : PI w x d p fs 6 W) :
    Calls Tryz.prog 43 #[.pointer (some ⟨w.heap.size, 0, none⟩), .pointer (some ⟨w.heap.size + 1, 0, none⟩), .pointer (some ⟨w.heap.size + 2, 0, none⟩)] W fun e w' => e = .returned (.int .i64 (chE x 6 : Int)) ∧ PI w x d p fs 7 w' := by
  obtain ⟨vo, hvo, hown⟩ := h.ops
  obtain ⟨vl, hvl, _⟩ := h.laid
  have c0 := hvo.cell (j := 0) rfl
  obtain ⟨sq, hsq, hsq1⟩ := num_of (hE 1 (by omega))
  obtain ⟨st, hst, hst1⟩ := num_of (hE 2 (by omega))
  have hau := name_len (hE 0 (by omega))
  have hdn : d.n ≤ 16 := by rw [← hx.dn]; exact deps_len (hE 3 (by omega))
  have hnt : x.note.length ≤ 2000 := by have := note_len (hE 4 (by omega)); omega
  have hgood : Good x.ops := (good_iff hx.ok).1 (hE 5 (by omega))
  have hBl := layB_len hgood
  obtain ⟨ab, cb, hvb, hat, _, _⟩ := own_sl (hown (by omega)) rfl
  subst hvb
  have HLC : Hid (layX x.author sq st x.deps x.note (layB x.ops) = layC x) := by unfold Hid layC; rw [hsq, hst, Int.toNat_natCast, Int.toNat_natCast]
  have HC := show Hid _ from clay_any x d p sq st hsq1 hst1 hau hnt hdn (layB x.ops) ⟨ab, (layB x.ops).length, cb⟩ hBl hsq hst W (hx.after h.aft) ⟨rfl, hat, rfl⟩
  rw [HLC.out] at HC
  obtain ⟨k, hk⟩ : ∃ k, (layC x).length = k := ⟨_, rfl⟩
  have HK : Hid ((layC x).length = k) := hk
  have HEK : Hid (chE x 6 = eOf (decide (k ≤ 65536)) 5) := by unfold Hid; rw [chE6_len, hk]
  have H := show Hid (PI w x d p fs 6 W ∧ RowIs W (w.heap.size + 2) 32 [vl] ∧ RowIs W (w.heap.size + 1) 32 [.slice ab (layB x.ops).length cb]) from ⟨h, hvl, hvo⟩
  clear hx hE h hvo hvl hown hsq hst hau hdn hnt hgood hBl hat hk
  obtain ⟨kb, hkb⟩ : ∃ k, (layB x.ops).length = k := ⟨_, rfl⟩
  rw [hkb] at HC c0 H
  clear hkb
  by_cases hk6 : k ≤ 65536
  · have hki : (k : Int) ≤ 65536 := by omega
    rw [decide_eq_true hk6] at HEK
    go_enter Tryz.func43, Tryz.ntmps43
    go_wp2_with (first
      | (go_at_call 33; (try rw [hd6]); (refine Calls.mono (unless_any true 5 _) ?_; rintro e w2 ⟨rfl, hw⟩; have hw2 := hw.symm; clear hw; subst hw2))
      | (go_at_call 44; refine Calls.mono HC.out ?_; rintro e w1 ⟨v1, rfl, ho, ha⟩; obtain ⟨a1, c1, he1, hat1, _, _⟩ := own_sl ho HK.out; subst he1; have hr2 := H.out.2.1.below ha H.out.2.1.lt; have g2 := hr2.cell (j := 0) rfl; have g2f := hr2.frozen 0; have H1 := show Hid (Own w1 W.heap.size (.slice a1 k c1) (layC x) ∧ After W w1 ∧ RowIs w1 (w.heap.size + 2) 32 [vl]) from ⟨ho, ha, hr2⟩; clear ho ha hr2 hat1)
      | (refine wpList_load_row rfl 25 (.tmp 0) rfl w.heap.size rfl 25 _ (0, 0) _ H.out.1.box Tryz.underlying25 rfl (by kernel_rfl) ?_))
    have hset := H1.out.2.2.set 0 (.slice a1 k c1)
    have haw : After w (w1.setCell ⟨w.heap.size + 2, 0, none⟩ (.slice a1 k c1)) := Below.setCell (After.trans H.out.1.aft H1.out.2.1) (p := ⟨w.heap.size + 2, 0, none⟩) (by simp) _
    have hoth : ∀ {g : Nat} {t : TypeId} {cs : List Value}, RowIs W g t cs → g ≠ w.heap.size + 2 → RowIs (w1.setCell ⟨w.heap.size + 2, 0, none⟩ (.slice a1 k c1)) g t cs := fun hr hg => (hr.below H1.out.2.1 hr.lt).other _ _ hg
    go_ret
    refine ⟨by rw [HEK.out]; rfl, haw, hoth H.out.1.box (by omega), hoth H.out.1.fns (by omega), ?_, ⟨_, hset, fun _ => ?_⟩, ?_⟩
    · obtain ⟨vq, hvq, hq⟩ := H.out.1.ops
      refine ⟨vq, hoth hvq (by omega), fun _ => ?_⟩
      have h1 := hq (by omega)
      have h2 := h1.below H1.out.2.1 (Nat.le_refl _)
      exact own_other h2 (fun g hg => by have := (World.ownsRow.lt h1 g hg).1; show g ≠ w.heap.size + 2; omega)
    · have h1 := H1.out.1.mono H.out.1.size
      exact own_other h1 (fun g hg => by have := (World.ownsRow.lt H1.out.1 g hg).1; have := H.out.1.size; show g ≠ w.heap.size + 2; omega)
    · have h1 := H.out.1.size
      have h2 := H1.out.2.1.size
      simp
      omega
  · have hki : ¬ (k : Int) ≤ 65536 := by omega
    have hd6 : decide ((k : Int) ≤ 65536) = false := decide_eq_false hki
    rw [decide_eq_false hk6] at HEK
    go_enter Tryz.func43, Tryz.ntmps43
    go_wp2_with (first
      | (go_at_call 33; (try rw [hd6]); (refine Calls.mono (unless_any false 5 _) ?_; rintro e w2 ⟨rfl, hw⟩; have hw2 := hw.symm; clear hw; subst hw2))
      | (go_at_call 44; refine Calls.mono HC.out ?_; rintro e w1 ⟨v1, rfl, ho, ha⟩; obtain ⟨a1, c1, he1, hat1, _, _⟩ := own_sl ho HK.out; subst he1; have hr2 := H.out.2.1.below ha H.out.2.1.lt; have g2 := hr2.cell (j := 0) rfl; have g2f := hr2.frozen 0; have H1 := show Hid (Own w1 W.heap.size (.slice a1 k c1) (layC x) ∧ After W w1 ∧ RowIs w1 (w.heap.size + 2) 32 [vl]) from ⟨ho, ha, hr2⟩; clear ho ha hr2 hat1)
      | (refine wpList_load_row rfl 25 (.tmp 0) rfl w.heap.size rfl 25 _ (0, 0) _ H.out.1.box Tryz.underlying25 rfl (by kernel_rfl) ?_))
    have hset := H1.out.2.2.set 0 (.slice a1 k c1)
    have haw : After w (w1.setCell ⟨w.heap.size + 2, 0, none⟩ (.slice a1 k c1)) := Below.setCell (After.trans H.out.1.aft H1.out.2.1) (p := ⟨w.heap.size + 2, 0, none⟩) (by simp) _
    have hoth : ∀ {g : Nat} {t : TypeId} {cs : List Value}, RowIs W g t cs → g ≠ w.heap.size + 2 → RowIs (w1.setCell ⟨w.heap.size + 2, 0, none⟩ (.slice a1 k c1)) g t cs := fun hr hg => (hr.below H1.out.2.1 hr.lt).other _ _ hg
    go_ret
    refine ⟨by rw [HEK.out]; rfl, haw, hoth H.out.1.box (by omega), hoth H.out.1.fns (by omega), ?_, ⟨_, hset, fun _ => ?_⟩, ?_⟩
    · obtain ⟨vq, hvq, hq⟩ := H.out.1.ops
      refine ⟨vq, hoth hvq (by omega), fun _ => ?_⟩
      have h1 := hq (by omega)
      have h2 := h1.below H1.out.2.1 (Nat.le_refl _)
      exact own_other h2 (fun g hg => by have := (World.ownsRow.lt h1 g hg).1; show g ≠ w.heap.size + 2; omega)
    · have h1 := H1.out.1.mono H.out.1.size
      exact own_other h1 (fun g hg => by have := (World.ownsRow.lt H1.out.1 g hg).1; have := H.out.1.size; show g ≠ w.heap.size + 2; omega)
    · have h1 := H.out.1.size
      have h2 := H1.out.2.1.size
      simp
      omega
def kOf : Nat → Nat
  | 0 => 32
  | 1 => 35
  | 2 => 37
  | 3 => 38
  | 4 => 40
  | 5 => 41
  | _ => 43
def cOf (g : Nat) : Nat → Array Value
  | 0 => #[.pointer (some ⟨g, 0, none⟩)]
  | 1 => #[.pointer (some ⟨g, 0, none⟩)]
  | 2 => #[.pointer (some ⟨g, 0, none⟩)]
  | 3 => #[.pointer (some ⟨g, 0, none⟩)]
  | 4 => #[.pointer (some ⟨g, 0, none⟩)]
  | 5 => #[.pointer (some ⟨g, 0, none⟩), .pointer (some ⟨g + 1, 0, none⟩)]
  | _ => #[.pointer (some ⟨g, 0, none⟩), .pointer (some ⟨g + 1, 0, none⟩), .pointer (some ⟨g + 2, 0, none⟩)]
/-- The error of a change; 0: it may be. -/
def chgE (x : Chg) : Nat := if chE x 0 = 0 then if chE x 1 = 0 then if chE x 2 = 0 then if chE x 3 = 0 then if chE x 4 = 0 then if chE x 5 = 0 then chE x 6 else chE x 5 else chE x 4 else chE x 3 else chE x 2 else chE x 1 else chE x 0
theorem chgE_zero {x : Chg} : chgE x = 0 ↔ ∀ j, j < 7 → chE x j = 0 := by
  unfold chgE
  constructor
  · intro h j hj
    split at h
    · split at h
      · split at h
        · split at h
          · split at h
            · split at h
              · match j, hj with
                | 0, _ => assumption
                | 1, _ => assumption
                | 2, _ => assumption
                | 3, _ => assumption
                | 4, _ => assumption
                | 5, _ => assumption
                | 6, _ => exact h
              · contradiction
            · contradiction
          · contradiction
        · contradiction
      · contradiction
    · contradiction
  · intro h
    rw [if_pos (h 0 (by omega)), if_pos (h 1 (by omega)), if_pos (h 2 (by omega)), if_pos (h 3 (by omega)), if_pos (h 4 (by omega)), if_pos (h 5 (by omega))]
    exact h 6 (by omega)
theorem chgE_at {x : Chg} {j q : Nat} (hj : j < 7) (h : ∀ k, k < j → chE x k = 0) (hq : chE x j = q) (h0 : ¬ q = 0) : chgE x = q := by
  unfold chgE
  subst hq
  match j, hj with
  | 0, _ => rw [if_neg h0]
  | 1, _ => rw [if_pos (h 0 (by omega)), if_neg h0]
  | 2, _ => rw [if_pos (h 0 (by omega)), if_pos (h 1 (by omega)), if_neg h0]
  | 3, _ => rw [if_pos (h 0 (by omega)), if_pos (h 1 (by omega)), if_pos (h 2 (by omega)), if_neg h0]
  | 4, _ => rw [if_pos (h 0 (by omega)), if_pos (h 1 (by omega)), if_pos (h 2 (by omega)), if_pos (h 3 (by omega)), if_neg h0]
  | 5, _ => rw [if_pos (h 0 (by omega)), if_pos (h 1 (by omega)), if_pos (h 2 (by omega)), if_pos (h 3 (by omega)), if_pos (h 4 (by omega)), if_neg h0]
  | 6, _ => rw [if_pos (h 0 (by omega)), if_pos (h 1 (by omega)), if_pos (h 2 (by omega)), if_pos (h 3 (by omega)), if_pos (h 4 (by omega)), if_pos (h 5 (by omega))]
abbrev qs (g : Nat) : List Value := [.func (.func 32) #[] #[.pointer (some ⟨g, 0, none⟩)], .func (.func 35) #[] #[.pointer (some ⟨g, 0, none⟩)], .func (.func 37) #[] #[.pointer (some ⟨g, 0, none⟩)], .func (.func 38) #[] #[.pointer (some ⟨g, 0, none⟩)], .func (.func 40) #[] #[.pointer (some ⟨g, 0, none⟩)], .func (.func 41) #[] #[.pointer (some ⟨g, 0, none⟩), .pointer (some ⟨g + 1, 0, none⟩)], .func (.func 43) #[] #[.pointer (some ⟨g, 0, none⟩), .pointer (some ⟨g + 1, 0, none⟩), .pointer (some ⟨g + 2, 0, none⟩)]]
/-- The questions that Put asks. -/
theorem asks {w W : World} {x : Chg} {d p : Sl} (hx : ChAt w x d p) (h : PI w x d p (qs w.heap.size) 0 W) :
    Calls Tryz.prog 31 #[.slice (some ⟨w.heap.size + 3, 0, none⟩) 7 7] W fun e w' => e = .returned (.int .i64 (chgE x : Int)) ∧ After w w' ∧ (chgE x = 0 → PI w x d p (qs w.heap.size) 7 w') := by
  refine Calls.mono (firstNo_any (w.heap.size + 3) 0 7 (by omega) (fun i W => (PI w x d p (qs w.heap.size) i W ∨ (6 ≤ i ∧ ¬ chE x 5 = 0)) ∧ After w W) (chE x) kOf (cOf w.heap.size) W ?_ ?_ ?_ ⟨.inl h, h.aft⟩) ?_
  · intro i hi hE W' hP
    have hPI : PI w x d p (qs w.heap.size) i W' := hP.1.elim id (fun h => absurd (hE 5 (by omega)) h.2)
    rw [Nat.zero_add]
    match i, hi with
    | 0, _ => exact hPI.fns.cell (j := 0) rfl
    | 1, _ => exact hPI.fns.cell (j := 1) rfl
    | 2, _ => exact hPI.fns.cell (j := 2) rfl
    | 3, _ => exact hPI.fns.cell (j := 3) rfl
    | 4, _ => exact hPI.fns.cell (j := 4) rfl
    | 5, _ => exact hPI.fns.cell (j := 5) rfl
    | 6, _ => exact hPI.fns.cell (j := 6) rfl
  · intro i hi
    match i, hi with
    | 0, _ => exact enters_of Tryz.func32 (by kernel_rfl) rfl
    | 1, _ => exact enters_of Tryz.func35 (by kernel_rfl) rfl
    | 2, _ => exact enters_of Tryz.func37 (by kernel_rfl) rfl
    | 3, _ => exact enters_of Tryz.func38 (by kernel_rfl) rfl
    | 4, _ => exact enters_of Tryz.func40 (by kernel_rfl) rfl
    | 5, _ => exact enters_of Tryz.func41 (by kernel_rfl) rfl
    | 6, _ => exact enters_of Tryz.func43 (by kernel_rfl) rfl
  · intro i hi hE W' hP
    have hPI : PI w x d p (qs w.heap.size) i W' := hP.1.elim id (fun h => absurd (hE 5 (by omega)) h.2)
    match i, hi with
    | 0, _ => exact (ask0 hx hPI).mono (fun _ _ h => ⟨h.1, .inl h.2, h.2.aft⟩)
    | 1, _ => exact (ask1 hx hPI).mono (fun _ _ h => ⟨h.1, .inl h.2, h.2.aft⟩)
    | 2, _ => exact (ask2 hx hPI).mono (fun _ _ h => ⟨h.1, .inl h.2, h.2.aft⟩)
    | 3, _ => exact (ask3 hx hPI).mono (fun _ _ h => ⟨h.1, .inl h.2, h.2.aft⟩)
    | 4, _ => exact (ask4 hx hPI).mono (fun _ _ h => ⟨h.1, .inl h.2, h.2.aft⟩)
    | 5, _ => exact (ask5 hx hPI).mono (fun _ _ h => ⟨h.1, (Decidable.em (chE x 5 = 0)).elim (fun h0 => .inl (h.2.1 h0)) (fun h0 => .inr ⟨Nat.le_refl _, h0⟩), h.2.2⟩)
    | 6, _ => exact (ask6 hx hE hPI).mono (fun _ _ h => ⟨h.1, .inl h.2, h.2.aft⟩)
  · rintro e w' ⟨q, i, rfl, ⟨hp, ha⟩, hc⟩
    rcases hc with ⟨rfl, rfl, h0⟩ | ⟨j, hj, rfl, hk, hq, hq0⟩
    · have hz := chgE_zero.2 h0
      refine ⟨by rw [hz], ha, fun _ => ?_⟩
      rcases hp with hp | ⟨_, h5⟩
      · exact hp
      · exact absurd (h0 5 (by omega)) h5
    · have hz := chgE_at hj hk hq hq0
      exact ⟨by rw [hz], ha, fun h => absurd (hz ▸ h) hq0⟩

/-- What Put lays. -/
def chgB (x : Chg) : List UInt8 := if chgE x = 0 then layC x else []
theorem pi0 {w : World} (x : Chg) (d p : Sl) : PI w x d p (qs w.heap.size) 0 ((((w.alloc (.cells (cc x d p).toArray 25)).alloc (.cells #[.slice none 0 0] 32)).alloc (.cells #[.slice none 0 0] 32)).alloc (.cells (qs w.heap.size).toArray 58)) := by
  refine ⟨after_alloc (after_alloc (after_alloc (after_alloc (After.refl w) _) _) _) _, ?_, ?_, ⟨.slice none 0 0, ?_, fun h => absurd h (by omega)⟩, ⟨.slice none 0 0, ?_, fun h => absurd h (by omega)⟩, by simp⟩
  · exact (((RowIs.new w 25 (cc x d p)).alloc _).alloc _).alloc _
  · have h := RowIs.new (((w.alloc (.cells (cc x d p).toArray 25)).alloc (.cells #[.slice none 0 0] 32)).alloc (.cells #[.slice none 0 0] 32)) 58 (qs w.heap.size)
    simpa using h
  · have h := RowIs.new (w.alloc (.cells (cc x d p).toArray 25)) 32 [.slice none 0 0]
    have h2 := (h.alloc (.cells #[.slice none 0 0] 32)).alloc (.cells (qs w.heap.size).toArray 58)
    simpa using h2
  · have h := RowIs.new ((w.alloc (.cells (cc x d p).toArray 25)).alloc (.cells #[.slice none 0 0] 32)) 32 [.slice none 0 0]
    have h2 := h.alloc (.cells (qs w.heap.size).toArray 58)
    simpa using h2
set_option maxRecDepth 100000 in
set_option maxHeartbeats 2400000 in
theorem cput_any (x : Chg) (d p : Sl) (w : World) (hx : ChAt w x d p) :
    Calls Tryz.prog 17 #[cV x d p] w fun e w' => ∃ v, e = .returned (.tuple #[v, .int .i64 (chgE x : Int)]) ∧ Own w' w.heap.size v (chgB x) ∧ After w w' := by
  have HA := show Hid _ from asks hx (pi0 x d p)
  obtain ⟨q, hq⟩ : ∃ q, chgE x = q := ⟨_, rfl⟩
  rw [hq] at HA
  have HQ : Hid (chgE x = q) := hq
  clear hx hq
  by_cases hq0 : q = 0
  · subst hq0
    go_enter Tryz.func17, Tryz.ntmps17
    go_wp2_with (go_at_call 31; refine Calls.mono HA.out ?_; rintro e w1 ⟨rfl, ha, hp⟩; obtain ⟨v1, hr1, ho1⟩ := (hp rfl).laid; have ho := ho1 (by omega); obtain ⟨a1, c1, he1, _, _, _⟩ := own_sl ho rfl; subst he1; have g0 := hr1.cell (j := 0) rfl; have H1 := show Hid (After w w1 ∧ Own w1 w.heap.size (.slice a1 (layC x).length c1) (layC x)) from ⟨ha, ho.mono (by omega)⟩; clear ha hp ho ho1 hr1)
    go_ret2
    exact ⟨_, by rw [HQ.out]; rfl, by unfold chgB; rw [HQ.out, if_pos rfl]; exact H1.out.2, H1.out.1⟩
  · have fi : ¬ (q : Int) = 0 := by omega
    have fb : ((q : Int) == 0) = false := beq_eq_false_iff_ne.2 fi
    have fn : ((q : Int) != 0) = true := by simp [bne, fb]
    go_enter Tryz.func17, Tryz.ntmps17
    go_wp2_with (go_at_call 31; refine Calls.mono HA.out ?_; rintro e w1 ⟨rfl, ha, hp⟩; have H1 := show Hid (After w w1) from ha; clear ha hp)
    go_ret2
    exact ⟨_, by rw [HQ.out]; rfl, by unfold chgB; rw [HQ.out, if_neg hq0]; exact Own.nil _ _, H1.out⟩

end Go.Proofs.YtgmdolpjkaajfaaGreatDoor
