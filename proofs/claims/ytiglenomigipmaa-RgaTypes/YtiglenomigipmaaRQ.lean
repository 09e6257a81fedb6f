/-
  inOrder's closure (51): the row is gone through, for whatever loop body.
-/
import Derived.Test.YtiglenomigipmaaRP
namespace Go.Proofs.Ytiglenomigipmaa
open Go.RowKit Go.Shelf
attribute [local go_sem] Oper.semAt_some
theorem roundIn_any {m m' : Nat} {P : Program} {l : Nat} {f : FuncId} {tmps : Array Value} {assign body : Code} {w : World} {R : Ending → World → Prop} (h : RoundIn Fence.wide m P l f tmps assign body w R) : RoundIn Fence.wide m' P l f tmps assign body w R := ⟨h.1, fun c cs _ => h.2 c cs (room_wide _)⟩
theorem yieldAt_any {m : Nat} (m' : Nat) {P : Program} {l : Nat} {args : Array Value} {W : World} {R : Ending → World → Prop} (h : YieldAt Fence.wide m P l args W R) : YieldAt Fence.wide m' P l args W R := by
  obtain ⟨fn, tmps, assign, body, hy, hR⟩ := h
  exact ⟨fn, tmps, assign, body, hy, roundIn_any hR⟩
/-- A loop's invariant speaks of what lay ahead of T0, and of its own blocks. -/
structure Jok (T0 : Nat) (J : List Nat → (Nat → Prop) → World → Prop) : Prop where
  keep : ∀ V F A B, J V F A → KeptF (fun b => T0 ≤ b ∧ ¬ F b) A B → J V F B
  lt : ∀ V F A, J V F A → ∀ b, F b → b < A.heap.size
/-- What a round leaves. -/
def YR (J Jx : List Nat → (Nat → Prop) → World → Prop) (V : List Nat) (F : Nat → Prop) (W : World) (e : Ending) (W' : World) : Prop :=
  (e = .returned (.bool true) ∧ ∃ F', J V F' W' ∧ KeptF F W W' ∧ ∀ b, F' b → F b ∨ W.heap.size ≤ b) ∨ (e = .returned (.bool false) ∧ ∃ F', Jx V F' W' ∧ KeptF F W W' ∧ ∀ b, F' b → F b ∨ W.heap.size ≤ b)
theorem slice86 (b n cap k : Nat) (hk : k ≤ cap) (W : World) : (Instr.sliceAt 86 (.slice (some ⟨b, 0, none⟩) n cap) none (some (.int .i64 (k : Int))) none).run Try.prog W = .ok (.slice (some ⟨b, 0, none⟩) k cap) W := by
  obtain ⟨i, hi', _⟩ := Option.map_eq_some_iff.1 info3
  by_cases h0 : cap = 0
  · obtain rfl : k = 0 := by omega
    simp [Instr.sliceAt, Instr.slice, run_underlying Try.underlying86, Instr.sliceBounds, Instr.sliceBound, asIntOf, sizeOf, typeInfo, hi', h0]
  · simp [Instr.sliceAt, Instr.slice, run_underlying Try.underlying86, Instr.sliceBounds, Instr.sliceBound, asIntOf, sizeOf, typeInfo, hi', h0, hk]
    rfl
section
variable {oi : Oper} {a : Act} {w : World}
theorem x_sl86 {x y : Operand} {b n cap k : Nat} (hop : oi.op = .slice 86 x none (some y) none) (hx : a.eval x = .slice (some ⟨b, 0, none⟩) n cap) (hy : a.eval y = .int .i64 (k : Int)) (hk : k ≤ cap) : (execOp a.eval oi).run Try.prog w = .ok (.value (.slice (some ⟨b, 0, none⟩) k cap)) w := by
  unfold execOp
  simp [hop, hx, hy, slice86 b n cap k hk]
theorem x_idx86z {x y : Operand} {b n c k : Nat} (hop : oi.op = .indexAddr 86 x y) (hx : a.eval x = .slice (some ⟨b, 0, none⟩) n c) (hy : a.eval y = .int .i64 (k : Int)) (hk : k < n) : (execOp a.eval oi).run Try.prog w = .ok (.value (.pointer (some ⟨b, k, none⟩))) w := by
  have := x_idx86 (w := w) hop hx hy hk
  rwa [Nat.zero_add] at this
theorem x_idx720 {x : Operand} {b n c : Nat} (hop : oi.op = .indexAddr 72 x (.const (.int .i64 0))) (hx : a.eval x = .slice (some ⟨b, 0, none⟩) n c) (hn : 0 < n) : (execOp a.eval oi).run Try.prog w = .ok (.value (.pointer (some ⟨b, 0, none⟩))) w := by
  have := x_idx72z (w := w) (k := 0) hop hx rfl hn
  rwa [Nat.zero_mul] at this
theorem x_ld63 {x : Operand} {g p : Nat} {s : Stm} (hs : s.id.Ok) (hop : oi.op = .load 63 x) (hx : a.eval x = .pointer (some ⟨g, p, none⟩)) (hc : w.rangeAt g p (ccell s.id s.ch s.gone)) : (execOp a.eval oi).run Try.prog w = .ok (.value (.agg (ccell s.id s.ch s.gone).toArray)) w := by
  have e : (Try.prog.info? 63).map (·.size) = some 35 := by kernel_rfl
  have hi : (Try.prog.info? 63).map (·.size) = some (ccell s.id s.ch s.gone).length := by rw [e, ccell_len hs]
  unfold execOp
  simp only [hop, hx, Instr.loadAt, Instr.sureAddr, Sem.run_bind, Sem.run_pure, Result.andThen_ok, run_loadVar_mid w g p 63 (ccell s.id s.ch s.gone) _ hc Try.underlying63 rfl hi]
end
theorem range_c {w : World} {g p : Nat} {s : Stm} {v : Value} (h : w.rangeAt g p (scell s v)) : w.rangeAt g p (ccell s.id s.ch s.gone) := fun j u hu => h j u (by
  have e : scell s v = ccell s.id s.ch s.gone ++ [v] := by simp [scell, ccell]
  rw [e, List.getElem?_append_left (List.getElem?_eq_some_iff.1 hu).1]; exact hu)
theorem range_below {w : World} {g p : Nat} {s : Stm} {v : Value} (hs : s.id.Ok) (h : w.rangeAt g p (scell s v)) : w.cell? ⟨g, p + 35, none⟩ = some v := h 35 v (by unfold scell; rw [List.getElem?_append_right (by rw [idc_len hs]; omega), idc_len hs]; rfl)
/-- The loop's invariant. -/
def OI (N : Nat) (st : List Stm) (J : List Nat → (Nat → Prop) → World → Prop) (F0 : Nat → Prop) (W : World) (kk : Nat) (vt : Value) (wr : World) : Prop :=
  ∃ (V T : List Nat) (F : Nat → Prop), kk = N - V.length ∧ (∃ ta tn tc, vt = .slice ta tn tc ∧ T.length = tn) ∧ OwnI wr W.heap.size vt T ∧ Reach st V T ∧ J V F wr ∧ KeptF F0 W wr ∧ (∀ b, F b → F0 b ∨ W.heap.size ≤ b) ∧ (∀ b, vt.ownBlock = some b → ¬ F b)
set_option maxRecDepth 100000 in
set_option maxHeartbeats 6400000 in
theorem ord_in (lp gr m : Nat) {base g N : Nat} {st : List Stm} {D : RwD} (J Jx : List Nat → (Nat → Prop) → World → Prop) {W : World} {F0 : Nat → Prop} (hJ : Jok W.heap.size J)
    (hY : ∀ V F t s W1 T, J V F W1 → KeptF F0 W W1 → V.length < N → Reach st V (T ++ [t]) → st[t]? = some s → YieldAt Fence.wide m Try.prog lp #[.agg (ccell s.id s.ch s.gone).toArray] W1 (YR J Jx (V ++ [t]) F W1))
    (hN : ∀ V T, Reach st V T → V.length + T.length ≤ N) (hin : ∀ V T, Reach st V T → ∀ t ∈ T, t < st.length) (hsm : N ≤ 1000000)
    (hR : RowAt W base g st D) (hG : RowIs W gr 25 [.pointer (some ⟨g, 0, none⟩)]) (hF : ∀ b, Foot g D b → ¬ F0 b) (hFg : ¬ F0 gr) (h0 : J [] F0 W) :
    CallsIn Fence.wide (m + 1) Try.prog 51 #[.func (.yield lp) #[] #[], .pointer (some ⟨gr, 0, none⟩)] W fun e W' => (∃ v, e = .returned v) ∧ ∃ V F', ((Reach st V [] ∧ J V F' W') ∨ Jx V F' W') ∧ KeptF F0 W W' ∧ ∀ b, F' b → F0 b ∨ W.heap.size ≤ b := by
  obtain ⟨gs, cap, hsv, hcap, hst⟩ := hR.sv
  obtain ⟨n, hn⟩ : ∃ n, st.length = n := ⟨_, rfl⟩
  rw [hn] at hsv hcap
  obtain ⟨s0, hs0⟩ : ∃ s, st[0]? = some s := by
    cases hq : st with
    | nil => exact absurd hq hR.pos
    | cons s l => exact ⟨s, rfl⟩
  obtain ⟨v0, hv0, ho0⟩ := hR.v hs0
  obtain ⟨a0, c0, hv0f⟩ := sl_form ho0
  have HN : Hid (st.length = n ∧ 0 < n) := ⟨hn, by rw [← hn]; exact (List.getElem?_eq_some_iff.1 hs0).1⟩
  have HJ : Hid (Jok W.heap.size J) := hJ
  have HY : Hid (∀ V F t s W1 T, J V F W1 → KeptF F0 W W1 → V.length < N → Reach st V (T ++ [t]) → st[t]? = some s → YieldAt Fence.wide m Try.prog lp #[.agg (ccell s.id s.ch s.gone).toArray] W1 (YR J Jx (V ++ [t]) F W1)) := hY
  have HRN : Hid ((∀ V T, Reach st V T → V.length + T.length ≤ N) ∧ (∀ V T, Reach st V T → ∀ t ∈ T, t < st.length) ∧ N ≤ 1000000) := ⟨hN, hin, hsm⟩
  have HR : Hid (RowAt W base g st D) := hR
  have HG : Hid (RowIs W gr 25 [.pointer (some ⟨g, 0, none⟩)]) := hG
  have HF : Hid ((∀ b, Foot g D b → ¬ F0 b) ∧ ¬ F0 gr) := ⟨hF, hFg⟩
  have HSV : Hid (D.sv = .slice (some ⟨gs, 0, none⟩) n cap) := hsv
  have HS0 : Hid (Reach st [] s0.below) := Reach.start hs0
  have HB0 : Hid (RowIs W g 75 [.slice (some ⟨gs, 0, none⟩) n cap, .map (some D.gm)]) := by have := hR.box; rw [hsv] at this; exact this
  have cg : W.cell? ⟨gr, 0, none⟩ = some (.pointer (some ⟨g, 0, none⟩)) := HG.out.cell rfl
  have cb : W.cell? ⟨g, 0, none⟩ = some (.slice (some ⟨gs, 0, none⟩) n cap) := HB0.out.cell rfl
  have cv : W.cell? ⟨gs, 35, none⟩ = some (.slice a0 s0.below.length c0) := by
    have := range_below (hR.ok s0 (List.mem_of_getElem? hs0)) (hst 0 s0 v0 hs0 hv0)
    rw [hv0f] at this
    simpa using this
  have HC0 : Hid (Calls Try.prog 40 #[.slice a0 s0.below.length c0] W fun e w' => ∃ v', e = .returned v' ∧ OwnI w' W.heap.size v' s0.below ∧ After W w') := by
    rw [hv0f] at ho0
    exact clone_any ho0 (by have := hN [] s0.below HS0.out; simp at this; omega)
  have HJ0 : Hid (J [] F0 W) := h0
  clear hJ hY hN hin hsm hR hG hF hFg h0 hst hsv hs0 hv0 ho0 hv0f hn hcap
  refine callsIn_of_wp Try.func51 rfl trivial ?_ rfl
  simp only [Try.ntmps51, List.size_toArray, List.length_cons, List.length_nil, Nat.reduceAdd, Nat.reduceSub, Array.replicate_succ, Array.replicate_zero, List.push_toArray, List.append_toArray, List.nil_append, List.cons_append]
  refine wpIn_seq ?_
  refine wpIn_wide.2 ?_
  go_wp2_with fail
  refine wpIn_seq ?_
  refine wpIn_wide.2 ?_
  go_wp2_with (first
    | (refine wpList_of_run rfl (x_idx720 (x := .tmp 11) (b := gs) (n := n) (c := cap) rfl rfl HN.out.2) ?_)
    | (go_at_call 40; refine Calls.mono HC0.out ?_; rintro e w0 ⟨v', rfl, ho, ha⟩; obtain ⟨a1, c1, hvf⟩ := sl_form ho; subst hvf; have H0 := show Hid (OwnI w0 W.heap.size (.slice a1 s0.below.length c1) s0.below ∧ After W w0) from ⟨ho, ha⟩; clear ho ha))
  have HI0 : Hid (OI N st J F0 W (N - 0) (.slice a1 s0.below.length c1) w0) := ⟨[], s0.below, F0, rfl, ⟨_, _, _, rfl, rfl⟩, H0.out.1, HS0.out, HJ.out.keep _ _ _ _ HJ0.out (KeptF.of_after H0.out.2), KeptF.of_after H0.out.2, fun b hb => .inl hb, fun b hb h => by
    have := HJ.out.lt _ _ _ HJ0.out b h
    have := (own_lt H0.out.1 hb).1
    omega⟩
  clear cg cb cv HC0 HJ0 H0 HS0
  gi_wp2
  gi_loopw [3] (fun vt wr => ∃ kk, Hid (OI N st J F0 W kk vt wr)) (fun vt wr => leastOf (fun kk => OI N st J F0 W kk vt wr))
  case atStart => exact ⟨_, HI0.out⟩
  case round =>
    obtain ⟨kk0, hk0⟩ := hrel
    obtain ⟨kk, hkk⟩ : ∃ kk, leastOf (fun kk => OI N st J F0 W kk u3 wr) = kk := ⟨_, rfl⟩
    have hI := (leastOf_spec (p := fun kk => OI N st J F0 W kk u3 wr) ⟨kk0, hk0.out⟩).1
    rw [hkk] at hI
    have HKK : Hid (leastOf (fun kk => OI N st J F0 W kk u3 wr) = kk) := hkk
    clear hk0 hkk HI0
    obtain ⟨V, T, F, hkv, ⟨ta, tn, tc, rfl, htn⟩, ho, hre, hj, hkf, hfn, hfb⟩ := hI
    have HRW : Hid (RowAt wr base g st D ∧ RowIs wr gr 25 [.pointer (some ⟨g, 0, none⟩)]) := ⟨HR.out.same (fun b hb => hkf.block b (HR.out.foot hb).2 (HF.out.1 b hb)) hkf.size, hkf.row HG.out HF.out.2⟩
    rcases List.eq_nil_or_concat T with rfl | ⟨T', t, rfl⟩
    · obtain rfl : tn = 0 := by simpa using htn.symm
      have HFIN : Hid (Reach st V [] ∧ J V F wr ∧ KeptF F0 W wr ∧ ∀ b, F b → F0 b ∨ W.heap.size ≤ b) := ⟨hre, hj, hkf, hfn⟩
      clear hkv ho hre hj hkf hfn hfb htn
      gi_wp2
      go_end0
      exact ⟨⟨_, rfl⟩, V, F, .inl ⟨HFIN.out.1, HFIN.out.2.1⟩, HFIN.out.2.2.1, HFIN.out.2.2.2⟩
    · rw [List.concat_eq_append] at *
      obtain ⟨k, hk⟩ : ∃ k, T'.length = k := ⟨_, rfl⟩
      obtain rfl : tn = k + 1 := by rw [← htn]; simp [hk]
      obtain ⟨tb, tcc, hvf, htc, htl⟩ := ho.sl (by simp)
      injection hvf with e1 e2 e3
      subst e1 e3
      obtain ⟨s, hs⟩ : ∃ s, st[t]? = some s := ⟨_, List.getElem?_eq_getElem (HRN.out.2.1 V _ hre t (by simp))⟩
      have hok := HR.out.ok s (List.mem_of_getElem? hs)
      obtain ⟨vb, hvb, hob⟩ := HRW.out.1.v hs
      obtain ⟨ba, bc, hbf⟩ := sl_form hob
      obtain ⟨bn, hbn⟩ : ∃ bn, s.below.length = bn := ⟨_, rfl⟩
      rw [hbn] at hbf
      subst hbf
      obtain ⟨gs2, cap2, hsv2, _, hst⟩ := HRW.out.1.sv
      rw [HSV.out] at hsv2
      have egs : gs = gs2 := by cases hsv2; rfl
      subst egs
      have hrg := hst t s _ hs hvb
      have HGR : Hid (RowIs wr gr 25 [.pointer (some ⟨g, 0, none⟩)]) := HRW.out.2
      have HBX : Hid (RowIs wr g 75 [.slice (some ⟨gs, 0, none⟩) n cap, .map (some D.gm)]) := by have := HRW.out.1.box; rw [HSV.out] at this; exact this
      have HTC : Hid (∀ W', After wr W' → W'.cell? ⟨tb, k, none⟩ = some (pv t)) := fun W' hW' => by
        have h1 := htl k t (by rw [← hk]; simp)
        exact (Below.cell hW' (p := ⟨tb, k, none⟩) (World.block_lt_of_cell? wr _ h1)).trans h1
      have HTN : Hid (t < n) := by rw [← HN.out.1]; exact (List.getElem?_eq_some_iff.1 hs).1
      have hgt : tb ≠ gs := fun e => by
        obtain ⟨_, _, cs, hc⟩ := own_lt ho (b := tb) rfl
        obtain ⟨_, _, cs', hc'⟩ := own_lt HRW.out.1.row.2 (b := gs) (by rw [HSV.out]; rfl)
        subst e
        exact absurd (hc.ty hc').1 (by decide)
      have hgslt : gs < wr.heap.size := (own_lt HRW.out.1.row.2 (b := gs) (by rw [HSV.out]; rfl)).2.1
      have HVC : Hid (∀ W', KeptF (fun b => b = tb) wr.drew W' → W'.cell? ⟨gs, t * 36 + 35, none⟩ = some (.slice ba bn bc)) := fun W' hW' => (World.cell?_of_block (hW'.block gs hgslt (Ne.symm hgt))).trans (range_below hok hrg)
      have HKC : Hid (k ≤ tc) := by
        have h1 : (T' ++ [t]).length = k + 1 := by simp [hk]
        show k ≤ tc
        omega
      have htake : OwnI wr.drew.drew W.heap.size (.slice (some ⟨tb, 0, none⟩) k tc) T' := by
        have h1 : OwnI wr.drew.drew W.heap.size (.slice (some ⟨tb, 0, none⟩) (k + 1) tc) (T' ++ [t]) := ho
        have h2 := h1.take (k := k) (by simp [hk])
        rwa [List.take_left' hk] at h2
      have hlim : T'.length + bn ≤ 1000000000 := by
        have h1 := HRN.out.1 _ _ (Reach.step hre hs)
        simp [hbn] at h1
        have := HRN.out.2.2
        omega
      obtain ⟨ta2, tn2, tc2, w2, hr2, ho2, hg2, hl2, hn2⟩ : ∃ ta2 tn2 tc2 w2, (Builtin.append_ #[86, 86] 86 #[.slice (some ⟨tb, 0, none⟩) k tc, .slice ba bn bc]).run Try.prog wr.drew.drew = .ok (.slice ta2 tn2 tc2) w2 ∧ OwnI w2 W.heap.size (.slice ta2 tn2 tc2) (T' ++ s.below) ∧ wr.drew.drew.grownBy w2 (some tb) ∧ ((Value.slice ta2 tn2 tc2).ownBlock = some tb ∨ (Value.slice ta2 tn2 tc2).ownBlock = some wr.heap.size) ∧ (T' ++ s.below).length = tn2 := by
        have fin : ∀ v' w2, (Builtin.append_ #[86, 86] 86 #[.slice (some ⟨tb, 0, none⟩) k tc, .slice ba bn bc]).run Try.prog wr.drew.drew = .ok v' w2 → OwnI w2 W.heap.size v' (T' ++ s.below) → wr.drew.drew.grownBy w2 (some tb) → (v'.ownBlock = some tb ∨ v'.ownBlock = some wr.heap.size) → ∃ ta2 tn2 tc2 w2, (Builtin.append_ #[86, 86] 86 #[.slice (some ⟨tb, 0, none⟩) k tc, .slice ba bn bc]).run Try.prog wr.drew.drew = .ok (.slice ta2 tn2 tc2) w2 ∧ OwnI w2 W.heap.size (.slice ta2 tn2 tc2) (T' ++ s.below) ∧ wr.drew.drew.grownBy w2 (some tb) ∧ ((Value.slice ta2 tn2 tc2).ownBlock = some tb ∨ (Value.slice ta2 tn2 tc2).ownBlock = some wr.heap.size) ∧ (T' ++ s.below).length = tn2 := fun v' w2 h1 h2 h3 h4 => by
          obtain ⟨x, y, hxy⟩ := sl_form h2
          subst hxy
          exact ⟨_, _, _, w2, h1, h2, h3, h4, rfl⟩
        have hob2 : OwnI wr.drew.drew base (.slice ba bn bc) s.below := hob
        rcases own_row hob2 with ⟨hv, hl0, _⟩ | ⟨g3, cap3, cs3, hv, _, hr3, _, _, _, ht3⟩
        · have e0 : s.below = [] := List.eq_nil_of_length_eq_zero hl0
          have h1 := run_appN0 86 htake
          rw [← hv] at h1
          refine fin _ _ h1 (by rw [e0, List.append_nil]; exact htake) ⟨rfl, rfl, rfl, Nat.le_refl _, fun _ _ _ => rfl⟩ (.inl rfl)
        · have e1 : ba = some ⟨g3, 0, none⟩ := by cases hv; rfl
          subst e1
          obtain ⟨v', w2, h1, h2, h3, h4⟩ := run_appN (c := bc) 86 htake (ad := ⟨g3, 0, none⟩) (news := s.below) hbn (fun j u hu => by
            rw [Addr.add_lit]
            rw [← ht3, List.getElem?_take] at hu
            split at hu
            · exact hr3.cellsAt j u hu
            · cases hu) hlim (Nat.le_trans hkf.size (Nat.le_refl _))
          exact fin v' w2 h1 h2 h3 h4
      have hk2 : KeptF (fun b => b = tb) wr.drew w2 := (KeptF.of_after (After.drew (After.refl wr.drew))).trans (KeptF.of_grown (F := fun b => b = tb) hg2 (fun b hb => by cases hb; rfl)) (fun _ _ h => h)
      have HAP : Hid ((Builtin.append_ #[86, 86] 86 #[.slice (some ⟨tb, 0, none⟩) k tc, .slice ba bn bc]).run Try.prog wr.drew.drew = .ok (.slice ta2 tn2 tc2) w2 ∧ OwnI w2 W.heap.size (.slice ta2 tn2 tc2) (T' ++ s.below) ∧ KeptF (fun b => b = tb) wr.drew w2 ∧ ((Value.slice ta2 tn2 tc2).ownBlock = some tb ∨ (Value.slice ta2 tn2 tc2).ownBlock = some wr.heap.size) ∧ (T' ++ s.below).length = tn2) := ⟨hr2, ho2, hk2, hl2, hn2⟩
      have htbT : W.heap.size ≤ tb := (own_lt ho (b := tb) rfl).1
      have htbF : ¬ F tb := hfb tb rfl
      have hkw : KeptF (fun b => b = tb) wr w2 := (KeptF.of_after (After.drew (After.refl wr))).trans hk2 (fun _ _ h => h)
      have hj2 : J V F w2 := HJ.out.keep _ _ _ _ hj (hkw.mono (fun x _ hx => by subst hx; exact ⟨htbT, htbF⟩))
      have hkf2 : KeptF F0 W w2 := hkf.trans hkw (fun x hx h => absurd hx (by omega))
      have HST : Hid (w2.rangeAt gs (t * 36) (ccell s.id s.ch s.gone) ∧ s.id.Ok) := ⟨fun j u hu => (World.cell?_of_block (hkw.block gs hgslt (Ne.symm hgt))).trans (range_c hrg j u hu), hok⟩
      have hwlt : ∀ b, (Value.slice ta2 tn2 tc2).ownBlock = some b → b < w2.heap.size ∧ ¬ F b := fun b hb => by
        refine ⟨(own_lt ho2 hb).2.1, fun hF => ?_⟩
        rcases hl2 with e | e
        · rw [e] at hb; cases hb; exact htbF hF
        · rw [e] at hb; cases hb; exact absurd (HJ.out.lt _ _ _ hj _ hF) (Nat.lt_irrefl _)
      obtain ⟨fn, tmps, assign, body, hy, hR2⟩ := HY.out V F t s w2 T' hj2 hkf2 (by have := HRN.out.1 _ _ hre; simp at this; omega) hre hs
      have HX : Hid (kk = N - V.length ∧ V.length < N ∧ Reach st (V ++ [t]) (T' ++ s.below) ∧ KeptF F0 W w2 ∧ (∀ b, F b → F0 b ∨ W.heap.size ≤ b) ∧ (∀ b, (Value.slice ta2 tn2 tc2).ownBlock = some b → b < w2.heap.size ∧ ¬ F b)) := ⟨hkv, by have := HRN.out.1 _ _ hre; simp at this; omega, Reach.step hre hs, hkf2, hfn, hwlt⟩
      have hkpos : (0 : Int) < (k : Int) + 1 := by omega
      have hkb : k ≤ 1000000 := by
        have h1 := HRN.out.1 _ _ hre
        have := HRN.out.2.2
        simp [hk] at h1
        omega
      have hkw64 : wrap64 (k : Int) = (k : Int) := by unfold wrap64; omega
      clear e2 htake hlim hr2 ho2 hg2 hl2 hn2 hk2 htbT htbF hkw hj2 hkf2 hwlt hkv htn ho hre hj hkf hfn hfb hrg hst hsv2 hob hvb hok hgt hgslt htl htc hs
      gi_wp2
      refine wpIn_wide.2 ?_
      refine wp_region_noPanic ?_
      refine wp_region_held_drew (S := After wr) (by kernel_rfl) (After.drew (After.refl _)) ?_
      intro hS0
      refine tk 0 22 (.pointer (some ⟨g, 0, none⟩)) (fuel := 9) rfl (by kernel_rfl) (by kernel_rfl) (by kernel_rfl) (by kernel_rfl) noPanic_false (by kernel_rfl) (fun W hW => x_loadT (x := .tmp 1) (t := 25) (g := gr) (j := 0) Try.underlying25 rfl (by kernel_rfl) (by kernel_rfl) ((HGR.out.below hW HGR.out.lt).cell (j := 0) rfl)) hS0 ?_
      refine tk 1 23 (.pointer (some ⟨g, 0, none⟩)) (fuel := 8) rfl (by kernel_rfl) (by kernel_rfl) (by kernel_rfl) (by kernel_rfl) noPanic_false (by kernel_rfl) (fun _ _ => by kernel_rfl) hS0 ?_
      refine tk 2 24 (.pointer (some ⟨g, 0, none⟩)) (fuel := 7) rfl (by kernel_rfl) (by kernel_rfl) (by kernel_rfl) (by kernel_rfl) noPanic_false (by kernel_rfl) (fun _ _ => by kernel_rfl) hS0 ?_
      refine tk 3 25 (.slice (some ⟨gs, 0, none⟩) n cap) (fuel := 6) rfl (by kernel_rfl) (by kernel_rfl) (by kernel_rfl) (by kernel_rfl) noPanic_false (by kernel_rfl) (fun W hW => x_loadT (x := .tmp 24) (t := 72) (g := g) (j := 0) Try.underlying72 rfl (by kernel_rfl) (by kernel_rfl) ((HBX.out.below hW HBX.out.lt).cell (j := 0) rfl)) hS0 ?_
      refine tk 4 26 (.slice (some ⟨tb, 0, none⟩) (k + 1) tc) (fuel := 5) rfl (by kernel_rfl) (by kernel_rfl) (by kernel_rfl) (by kernel_rfl) noPanic_false (by kernel_rfl) (fun _ _ => by kernel_rfl) hS0 ?_
      refine tk 5 27 (.int .i64 (k : Int)) (fuel := 4) rfl (by kernel_rfl) (by kernel_rfl) (by kernel_rfl) (by kernel_rfl) noPanic_false (by kernel_rfl) (fun _ _ => by kernel_rfl) hS0 ?_
      refine tk 6 28 (.pointer (some ⟨tb, k, none⟩)) (fuel := 3) rfl (by kernel_rfl) (by kernel_rfl) (by kernel_rfl) (by kernel_rfl) noPanic_false (by kernel_rfl) (fun W hW => x_idx86z (x := .tmp 26) (y := .tmp 27) (b := tb) (n := k + 1) (c := tc) (k := k) (by kernel_rfl) (by kernel_rfl) (by kernel_rfl) (Nat.lt_succ_self k)) hS0 ?_
      refine tk 7 29 (pv t) (fuel := 2) rfl (by kernel_rfl) (by kernel_rfl) (by kernel_rfl) (by kernel_rfl) noPanic_false (by kernel_rfl) (fun W hW => x_loadT (x := .tmp 28) (t := 3) (g := tb) (j := k) Try.underlying3 rfl (by kernel_rfl) (by kernel_rfl) (HTC.out W hW)) hS0 ?_
      refine tk 8 30 (.pointer (some ⟨gs, t * 36, none⟩)) (fuel := 1) rfl (by kernel_rfl) (by kernel_rfl) (by kernel_rfl) (by kernel_rfl) noPanic_false (by kernel_rfl) (fun W hW => x_idx72z (x := .tmp 25) (y := .tmp 29) (b := gs) (n := n) (c := cap) (k := t) (by kernel_rfl) (by kernel_rfl) (by kernel_rfl) HTN.out) hS0 ?_
      refine tk 9 5 (.pointer (some ⟨gs, t * 36, none⟩)) (fuel := 0) rfl (by kernel_rfl) (by kernel_rfl) (by kernel_rfl) (by kernel_rfl) noPanic_false (by kernel_rfl) (fun _ _ => by kernel_rfl) hS0 ?_
      refine wpAnyH_done (by kernel_rfl) (NoPanic.normal ?_) _
      clear hS0
      go_simp
      gi_wp2
      refine wpIn_wide.2 ?_
      refine wp_region_noPanic ?_
      refine wp_region_held_drew (S := KeptF (fun b => b = tb) wr.drew) (by kernel_rfl) (KeptF.of_after (After.drew (After.refl _))) ?_
      intro hS1
      refine tk 0 31 (.slice (some ⟨tb, 0, none⟩) (k + 1) tc) (fuel := 8) rfl (by kernel_rfl) (by kernel_rfl) (by kernel_rfl) (by kernel_rfl) noPanic_false (by kernel_rfl) (fun _ _ => by kernel_rfl) hS1 ?_
      refine tk 1 32 (.int .i64 (k : Int)) (fuel := 7) rfl (by kernel_rfl) (by kernel_rfl) (by kernel_rfl) (by kernel_rfl) noPanic_false (by kernel_rfl) (fun _ _ => by kernel_rfl) hS1 ?_
      refine tk 2 33 (.slice (some ⟨tb, 0, none⟩) k tc) (fuel := 6) rfl (by kernel_rfl) (by kernel_rfl) (by kernel_rfl) (by kernel_rfl) noPanic_false (by kernel_rfl) (fun W hW => x_sl86 (x := .tmp 31) (y := .tmp 32) (b := tb) (n := k + 1) (cap := tc) (k := k) (by kernel_rfl) (by kernel_rfl) (by kernel_rfl) HKC.out) hS1 ?_
      refine tk 3 34 (.pointer (some ⟨gs, t * 36, none⟩)) (fuel := 5) rfl (by kernel_rfl) (by kernel_rfl) (by kernel_rfl) (by kernel_rfl) noPanic_false (by kernel_rfl) (fun _ _ => by kernel_rfl) hS1 ?_
      refine tk 4 35 (.pointer (some ⟨gs, t * 36, none⟩)) (fuel := 4) rfl (by kernel_rfl) (by kernel_rfl) (by kernel_rfl) (by kernel_rfl) noPanic_false (by kernel_rfl) (fun _ _ => by kernel_rfl) hS1 ?_
      refine tk 5 36 (.pointer (some ⟨gs, t * 36 + 35, none⟩)) (fuel := 3) rfl (by kernel_rfl) (by kernel_rfl) (by kernel_rfl) (by kernel_rfl) noPanic_false (by kernel_rfl) (fun _ _ => by kernel_rfl) hS1 ?_
      refine tk 6 37 (.slice ba bn bc) (fuel := 2) rfl (by kernel_rfl) (by kernel_rfl) (by kernel_rfl) (by kernel_rfl) noPanic_false (by kernel_rfl) (fun W hW => x_loadT (x := .tmp 36) (t := 86) (g := gs) (j := t * 36 + 35) Try.underlying86 rfl (by kernel_rfl) (by kernel_rfl) (HVC.out W hW)) hS1 ?_
      refine tkRunS 7 38 (.slice ta2 tn2 tc2) (w2) (fuel := 1) rfl (by kernel_rfl) (by kernel_rfl) (by kernel_rfl) (x_app86 (s := .tmp 33) (x := .tmp 37) (by kernel_rfl) (by kernel_rfl) (by kernel_rfl) HAP.out.1) (HAP.out.2.2.1) ?_
      refine tk 8 3 (.slice ta2 tn2 tc2) (fuel := 0) rfl (by kernel_rfl) (by kernel_rfl) (by kernel_rfl) (by kernel_rfl) noPanic_false (by kernel_rfl) (fun _ _ => by kernel_rfl) HAP.out.2.2.1 ?_
      refine wpAnyH_done (by kernel_rfl) (NoPanic.normal ?_) _
      clear hS1
      go_simp
      gi_wp2_with (refine wpListIn_run rfl (fun _ => trivial) (fun _ h => by cases h) (x_ld63 (x := .tmp 42) (g := gs) (p := t * 36) (s := s) HST.out.2 rfl rfl HST.out.1) ?_)
      refine hR2.mono ?_
      rintro e W3 (⟨rfl, F', hj3, hk3, hn3⟩ | ⟨rfl, F', hx3, hk3, hn3⟩)
      · have HO : Hid (OI N st J F0 W (N - (V ++ [t]).length) (.slice ta2 tn2 tc2) W3) := ⟨V ++ [t], T' ++ s.below, F', rfl, ⟨_, _, _, rfl, HAP.out.2.2.2.2⟩, HAP.out.2.1.same (fun b hb => hk3.block b (HX.out.2.2.2.2.2 b hb).1 (HX.out.2.2.2.2.2 b hb).2), HX.out.2.2.1, hj3, HX.out.2.2.2.1.trans hk3 (fun x hx h => (HX.out.2.2.2.2.1 x h).resolve_right (by omega)), fun b hb => (hn3 b hb).elim (HX.out.2.2.2.2.1 b) (fun h => .inr (Nat.le_trans HX.out.2.2.2.1.size h)), fun b hb h => (hn3 b h).elim (HX.out.2.2.2.2.2 b hb).2 (fun h2 => absurd (HX.out.2.2.2.2.2 b hb).1 (by omega))⟩
        clear hR2 hy hj3 hk3 hn3
        gi_wp2
        go_roundw
        case rel => exact ⟨_, HO.out⟩
        case measure =>
          have h1 := (leastOf_spec (p := fun kk => OI N st J F0 W kk (.slice ta2 tn2 tc2) W3) ⟨_, HO.out⟩).2 _ HO.out
          have h2 := HX.out.1
          have h3 := HX.out.2.1
          have h4 := HKK.out
          simp only [List.length_append, List.length_singleton] at h1
          omega
      · have HO : Hid (Jx (V ++ [t]) F' W3 ∧ KeptF F0 W W3 ∧ ∀ b, F' b → F0 b ∨ W.heap.size ≤ b) := ⟨hx3, HX.out.2.2.2.1.trans hk3 (fun x hx h => (HX.out.2.2.2.2.1 x h).resolve_right (by omega)), fun b hb => (hn3 b hb).elim (HX.out.2.2.2.2.1 b) (fun h => .inr (Nat.le_trans HX.out.2.2.2.1.size h))⟩
        clear hR2 hy hx3 hk3 hn3
        gi_wp2
        refine bodyPost_ret (results_none rfl _ _ _) rfl ?_
        exact ⟨⟨_, rfl⟩, _, F', .inr HO.out.1, HO.out.2⟩
end Go.Proofs.Ytiglenomigipmaa
