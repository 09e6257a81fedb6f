/-
  THE WALK OF column.Runs.
-/
import Derived.Test.YtpplnomomcdemaaRunsKit
namespace Go.Proofs.Ytpplnomomcdemaa
open Go.RowKit Go.Shelf Leb
attribute [local go_sem] Oper.semAt_some
theorem with_world {p : World → Prop} {W : World} (G : World → Prop) (h : G W) (k : ∀ W', G W' → p W') : p W := k W h
set_option maxRecDepth 100000 in
set_option maxHeartbeats 4000000 in
theorem runs_any (ao : Option Addr) (cap : Nat) (l : List Int) (hl : ∀ x ∈ l, -9223372036854775808 ≤ x ∧ x ≤ 9223372036854775807) (hn : l.length ≤ 1048576) (w : World) (hI : IntsAt w ao l) (hlt : ∀ a, ao = some a → l ≠ [] → a.block < w.heap.size) :
    Calls Try.prog 40 #[.slice ao l.length cap] w fun e W' => ∃ v, e = .returned v ∧ Own W' w.heap.size v (runsB l) ∧ After w W' := by
  refine (callsIn_wide (n := 4)).1 ?_
  refine callsIn_of_wp_marks Try.func40 rfl trivial ?_ rfl
  simp only [Try.ntmps40, List.size_toArray, List.length_cons, List.length_nil, Nat.reduceAdd, Nat.reduceSub, Array.replicate_succ, Array.replicate_zero, List.push_toArray, List.append_toArray, List.nil_append, List.cons_append]
  gi_wp2_with (refine ⟨trivial, ?_⟩; gi_at_call 61; refine (runsOfI_any _ _ ⟨_, _, _, rfl⟩).mono ?_; rintro e w' ⟨rfl, rfl⟩)
  obtain ⟨W0, hW0⟩ : ∃ W0, ((w.alloc (.cells #[.slice none 0 0] 30)).alloc (.cells #[.int .i64 0] 3)).alloc (.cells #[(.slice ao l.length cap)] 46) = W0 := ⟨_, rfl⟩
  have hsz : W0.heap.size = w.heap.size + 3 := by rw [← hW0]; simp
  have hB0 : Below w.heap.size w W0 := by rw [← hW0]; exact (((Below.refl _ w).alloc (Nat.le_refl _) _).alloc (by simp) _).alloc (by simp; omega) _
  have bL : Boxed W0 w.heap.size 30 (.slice none 0 0) := by rw [← hW0]; exact ((Boxed.new w 30 _).alloc _).alloc _
  have bR : Boxed W0 (w.heap.size + 1) 3 (.int .i64 0) := by
    rw [← hW0]
    have := Boxed.new (w.alloc (.cells #[.slice none 0 0] 30)) 3 (.int .i64 0)
    rw [World.size_alloc] at this
    exact this.alloc _
  have bS : Boxed W0 (w.heap.size + 2) 46 (.slice ao l.length cap) := by
    rw [← hW0]
    have := Boxed.new ((w.alloc (.cells #[.slice none 0 0] 30)).alloc (.cells #[.int .i64 0] 3)) 46 (.slice ao l.length cap)
    rw [World.size_alloc, World.size_alloc] at this
    exact this
  simp only [hW0]
  refine wpIn_rangeFunc_ownG rfl (by omega) (gf := 70) (lb := #[.pointer (some ⟨w.heap.size + 2, 0, none⟩)]) rfl trivial (enters_of Try.func70 (by kernel_rfl) rfl)
    (runsI_stops (w.heap.size + 2) w.heap.size cap ao l hl hn W0 (by omega) hB0.size bS.cell (fun hne => by
      obtain ⟨b, o, rfl, hc⟩ := hI hne
      exact ⟨b, o, rfl, fun j hj => (hB0.cell (p := ⟨b, o + j, none⟩) (hlt ⟨b, o, none⟩ rfl hne)).trans (hc j hj)⟩) hlt) Kb.trans (fun W lp o o' h1 h2 h3 h4 => ⟨belowK_b hB0.size W lp o o' h1 h2 h3 h4, World.putObj_heap_other (by omega)⟩) (Below.refl _ _) (fun _ => rfl)
    (fun pre W => (∃ v, Boxed W w.heap.size 30 v ∧ Own W w.heap.size v (laidI (pre.map (·.1)))) ∧ Boxed W (w.heap.size + 1) 3 (.int .i64 (pre.length : Int)) ∧ Boxed W (w.heap.size + 2) 46 (.slice ao l.length cap) ∧ Below w.heap.size w W)
    (fun _ _ _ => False)
    (fun pre W W' row hs hg hr => by
      have hne : ∀ {g : Nat} {t : TypeId} {u : Value}, Boxed W g t u → some g ≠ row := fun hb e => by
        obtain ⟨_, o, ho, hc⟩ := hr _ e.symm
        rw [show W.heap[_]? = _ from hb] at ho; cases ho; cases hc
      obtain ⟨⟨v, h1, h2⟩, h3, h4, h5⟩ := hs
      refine ⟨⟨v, h1.kept hg (hne h1), Own.keep' h2 (fun g e => ?_)⟩, h3.kept hg (hne h3), h4.kept hg (hne h4), h5.grown hg h5.size (fun k e => Nat.le_trans hB0.size (hr k e).1)⟩
      obtain ⟨c, t, f, hc⟩ := own_cells h2 e
      exact hg.block g (Array.getElem?_eq_some_iff.1 hc).1 (fun e' => by obtain ⟨_, o, ho, hc'⟩ := hr g e'.symm; rw [hc] at ho; cases ho; cases hc'))
    (fun _ _ _ _ _ hs _ _ => hs)
    ⟨⟨_, bL, Own.nil _ _⟩, bR, bS, hB0⟩
    (fun x => { tmps := #[(.slice ao l.length cap), undef, .slice none 0 0, (.pointer (some ⟨w.heap.size, 0, none⟩)), (.pointer (some ⟨w.heap.size + 1, 0, none⟩)), .int .i64 x.1.1, .int .i64 (x.1.2 : Int), (.slice ao l.length cap), .func (.func 70) #[] #[.pointer (some ⟨w.heap.size + 2, 0, none⟩)], .int .i64 x.1.1, .int .i64 (x.1.2 : Int), undef, undef, undef, undef, undef, undef, undef, undef, undef, undef, undef, undef, undef, undef, undef, undef], defers := [] }) ?assign ?body ?done ?stop
  case assign =>
    intro lp x W K hK
    gi_wp2
    exact hK
  case body =>
    rintro lp pre x W ⟨⟨v, h1, h2⟩, h3, h4, h5⟩ hltN
    have hc := h3.cell
    have hf := h3.frozen
    have K0 : RI w W0.heap.size (w.heap.size + 2) (.slice ao l.length cap) W W v (laidI (pre.map (·.1))) pre.length := ⟨h1, h3, h4, h2, h5, KeepsFrom.refl _ _, Kb.refl _ _ _⟩
    have K1 := show Hid _ from RI.count (by omega) K0
    have hpl : pre.length ≤ 1048576 := by omega
    have HB1 : Hid ((laidI (pre.map (·.1))).length + (uintB x.1.2).length ≤ 140737488355328) := by
      have := laidI_len pre; have := runI_len x; unfold Hid; omega
    obtain ⟨f1, HF1⟩ : ∃ f, Hid (laidI (pre.map (·.1)) ++ uintB x.1.2 = f) := ⟨_, rfl⟩
    obtain ⟨f2, HF2⟩ : ∃ f, Hid (f1 ++ intB x.1.1 = f) := ⟨_, rfl⟩
    have HPL : Hid ((pre ++ [x]).length = pre.length + 1) := by unfold Hid; simp
    have HB2 : Hid (f1.length + (intB x.1.1).length ≤ 140737488355328) := by
      have := laidI_len pre; have := runI_len x; unfold Hid; rw [← HF1.out, List.length_append]; omega
    clear h1 h2 h3 h4 h5 K0
    gi_wp2
    refine wpIn_region_any (by kernel_rfl) ?_
    refine with_world (p := fun W' => wpAnyIn _ _ _ _ _ _ _ _ _ W') (fun W' => RI w W0.heap.size (w.heap.size + 2) (.slice ao l.length cap) W W' v (laidI (pre.map (·.1))) (pre.length + 1)) K1.out.drew ?_
    clear K1 hc hf
    intro Wd Kd
    refine wpAnyIn_all (rs := [0, 1]) (fuel := 5) (by kernel_rfl) (by simp) (fun j hj => ?_)
    simp only [List.mem_cons, List.not_mem_nil, or_false] at hj
    rcases hj with rfl | rfl
    · refine opValIn 0 13 v Wd rfl (by kernel_rfl) (by kernel_rfl) (fun _ => trivial) (Oper.semAt_plain _ _ _ (fun _ h => by cases h)) (x_loadT (t := 30) (x := .tmp 3) (g := w.heap.size) (j := 0) Try.underlying30 rfl (by kernel_rfl) (by kernel_rfl) Kd.bl.cell) ?_
      refine wpAnyIn_all (rs := [1]) (fuel := 4) (by kernel_rfl) (by simp) (fun j hj => ?_)
      obtain rfl : j = 1 := by simpa using hj
      refine opValIn 1 14 (.int .i64 (x.1.2 : Int)) Wd rfl (by kernel_rfl) (by kernel_rfl) (fun _ => trivial) (Oper.semAt_plain _ _ _ (fun _ h => by cases h)) (by kernel_rfl) ?_
      refine wpAnyIn_all (rs := [2]) (fuel := 3) (by kernel_rfl) (by simp) (fun j hj => ?_)
      obtain rfl : j = 2 := by simpa using hj
      refine opValIn 2 15 (.int .u64 (x.1.2 : Int)) Wd rfl (by kernel_rfl) (by kernel_rfl) (fun _ => trivial) (Oper.semAt_plain _ _ _ (fun _ h => by cases h)) (x_conv49 (x := .tmp 14) (p := x.1.2) (by have := x.2.2.2; omega) (by kernel_rfl) (by kernel_rfl)) ?_
      refine wpAnyIn_all (rs := [3]) (fuel := 2) (by kernel_rfl) (by simp) (fun j hj => ?_)
      obtain rfl : j = 3 := by simpa using hj
      refine opCallIn 3 16 62 #[.int .u64 (x.1.2 : Int)] (fun u W' => Own W' Wd.heap.size u (uintB x.1.2) ∧ After Wd W') rfl (by kernel_rfl) (by kernel_rfl) (fun _ => trivial) rfl (Oper.semAt_plain _ _ _ (fun _ h => by cases h)) (fun _ => by kernel_rfl) (CallsIn.inRound lp (callsIn_wide.2 ((uint_any x.1.2 (by have := x.2.2.2; omega) Wd).mono (fun _ _ ⟨u, h1, h2, h3⟩ => ⟨u, h1, h2, h3⟩)))) ?_
      rintro u Wdc ⟨hu, hWdc⟩
      obtain ⟨ua, uc, rfl, hua, _, _⟩ := hu.at
      have KWdc := Kd.after hWdc
      refine wpAnyIn_all (rs := [4]) (fuel := 1) (by kernel_rfl) (by simp) (fun j hj => ?_)
      obtain rfl : j = 4 := by simpa using hj
      refine opAppIn 4 17 (.tmp 13) (.tmp 16) rfl (by kernel_rfl) (by kernel_rfl) (fun _ => trivial) (Oper.semAt_plain _ _ _ (fun _ h => by cases h)) (by kernel_rfl) w.heap.size _ (laidI (pre.map (·.1))) (by kernel_rfl) KWdc.own ua uc (uintB x.1.2) ((uintB x.1.2)).length rfl (by kernel_rfl) hua HB1.out KWdc.bel.size ?_
      intro v' Wdca ho' hg'
      rw [HF1.out] at ho'
      have AWdca := KWdc.app ho' hg' (.inr trivial)
      obtain ⟨va, vc, rfl, _, _, _⟩ := ho'.at
      refine wpAnyIn_all (rs := [5]) (fuel := 0) (by kernel_rfl) (by simp) (fun j hj => ?_)
      obtain rfl : j = 5 := by simpa using hj
      refine opStoreIn 5 30 (.tmp 3) (.tmp 17) w.heap.size va f1.length vc _ rfl (by kernel_rfl) (by kernel_rfl) (by kernel_rfl) (fun _ => trivial) (Oper.semAt_plain _ _ _ (fun _ h => by cases h)) (by kernel_rfl) (by kernel_rfl) AWdca.1 ?_
      have KE := RI.store (by omega) AWdca ho'
      refine wpAnyIn_done (by kernel_rfl) ?_ _
      go_simp
      gi_wp2
      refine wpIn_region_any (by kernel_rfl) ?_
      refine with_world (p := fun W' => wpAnyIn _ _ _ _ _ _ _ _ _ W') (fun W' => RI w W0.heap.size (w.heap.size + 2) (.slice ao l.length cap) W W' (.slice va f1.length vc) f1 (pre.length + 1)) KE.drew ?_
      clear KE
      intro Wd Kd
      refine wpAnyIn_all (rs := [0, 1]) (fuel := 4) (by kernel_rfl) (by simp) (fun j hj => ?_)
      simp only [List.mem_cons, List.not_mem_nil, or_false] at hj
      rcases hj with rfl | rfl
      · refine opValIn 0 18 (.slice va f1.length vc) Wd rfl (by kernel_rfl) (by kernel_rfl) (fun _ => trivial) (Oper.semAt_plain _ _ _ (fun _ h => by cases h)) (x_loadT (t := 30) (x := .tmp 3) (g := w.heap.size) (j := 0) Try.underlying30 rfl (by kernel_rfl) (by kernel_rfl) Kd.bl.cell) ?_
        refine wpAnyIn_all (rs := [1]) (fuel := 3) (by kernel_rfl) (by simp) (fun j hj => ?_)
        obtain rfl : j = 1 := by simpa using hj
        refine opValIn 1 19 (.int .i64 x.1.1) Wd rfl (by kernel_rfl) (by kernel_rfl) (fun _ => trivial) (Oper.semAt_plain _ _ _ (fun _ h => by cases h)) (by kernel_rfl) ?_
        refine wpAnyIn_all (rs := [2]) (fuel := 2) (by kernel_rfl) (by simp) (fun j hj => ?_)
        obtain rfl : j = 2 := by simpa using hj
        refine opCallIn 2 20 63 #[.int .i64 x.1.1] (fun u W' => Own W' Wd.heap.size u (intB x.1.1) ∧ After Wd W') rfl (by kernel_rfl) (by kernel_rfl) (fun _ => trivial) rfl (Oper.semAt_plain _ _ _ (fun _ h => by cases h)) (fun _ => by kernel_rfl) (CallsIn.inRound lp (callsIn_wide.2 ((int_any x.1.1 x.2.1 x.2.2.1 Wd).mono (fun _ _ ⟨u, h1, h2, h3⟩ => ⟨u, h1, h2, h3⟩)))) ?_
        rintro u Wdc ⟨hu, hWdc⟩
        obtain ⟨ua, uc, rfl, hua, _, _⟩ := hu.at
        have KWdc := Kd.after hWdc
        refine wpAnyIn_all (rs := [3]) (fuel := 1) (by kernel_rfl) (by simp) (fun j hj => ?_)
        obtain rfl : j = 3 := by simpa using hj
        refine opAppIn 3 21 (.tmp 18) (.tmp 20) rfl (by kernel_rfl) (by kernel_rfl) (fun _ => trivial) (Oper.semAt_plain _ _ _ (fun _ h => by cases h)) (by kernel_rfl) w.heap.size _ f1 (by kernel_rfl) KWdc.own ua uc (intB x.1.1) ((intB x.1.1)).length rfl (by kernel_rfl) hua HB2.out KWdc.bel.size ?_
        intro v' Wdca ho' hg'
        rw [HF2.out] at ho'
        have AWdca := KWdc.app ho' hg' (.inr trivial)
        obtain ⟨va, vc, rfl, _, _, _⟩ := ho'.at
        refine wpAnyIn_all (rs := [4]) (fuel := 0) (by kernel_rfl) (by simp) (fun j hj => ?_)
        obtain rfl : j = 4 := by simpa using hj
        refine opStoreIn 4 30 (.tmp 3) (.tmp 21) w.heap.size va f2.length vc _ rfl (by kernel_rfl) (by kernel_rfl) (by kernel_rfl) (fun _ => trivial) (Oper.semAt_plain _ _ _ (fun _ h => by cases h)) (by kernel_rfl) (by kernel_rfl) AWdca.1 ?_
        have KE := RI.store (by omega) AWdca ho'
        refine wpAnyIn_done (by kernel_rfl) ?_ _
        exact ⟨KE.kf, KE.kb, ⟨⟨_, KE.bl, by rw [laidI_snoc, HF1.out, HF2.out]; exact KE.own⟩, by rw [HPL.out]; exact KE.br, KE.bs, KE.bel⟩⟩
      · refine opValIn 1 19 (.int .i64 x.1.1) Wd rfl (by kernel_rfl) (by kernel_rfl) (fun _ => trivial) (Oper.semAt_plain _ _ _ (fun _ h => by cases h)) (by kernel_rfl) ?_
        refine wpAnyIn_all (rs := [0, 2]) (fuel := 3) (by kernel_rfl) (by simp) (fun j hj => ?_)
        simp only [List.mem_cons, List.not_mem_nil, or_false] at hj
        rcases hj with rfl | rfl
        · refine opValIn 0 18 (.slice va f1.length vc) Wd rfl (by kernel_rfl) (by kernel_rfl) (fun _ => trivial) (Oper.semAt_plain _ _ _ (fun _ h => by cases h)) (x_loadT (t := 30) (x := .tmp 3) (g := w.heap.size) (j := 0) Try.underlying30 rfl (by kernel_rfl) (by kernel_rfl) Kd.bl.cell) ?_
          refine wpAnyIn_all (rs := [2]) (fuel := 2) (by kernel_rfl) (by simp) (fun j hj => ?_)
          obtain rfl : j = 2 := by simpa using hj
          refine opCallIn 2 20 63 #[.int .i64 x.1.1] (fun u W' => Own W' Wd.heap.size u (intB x.1.1) ∧ After Wd W') rfl (by kernel_rfl) (by kernel_rfl) (fun _ => trivial) rfl (Oper.semAt_plain _ _ _ (fun _ h => by cases h)) (fun _ => by kernel_rfl) (CallsIn.inRound lp (callsIn_wide.2 ((int_any x.1.1 x.2.1 x.2.2.1 Wd).mono (fun _ _ ⟨u, h1, h2, h3⟩ => ⟨u, h1, h2, h3⟩)))) ?_
          rintro u Wdc ⟨hu, hWdc⟩
          obtain ⟨ua, uc, rfl, hua, _, _⟩ := hu.at
          have KWdc := Kd.after hWdc
          refine wpAnyIn_all (rs := [3]) (fuel := 1) (by kernel_rfl) (by simp) (fun j hj => ?_)
          obtain rfl : j = 3 := by simpa using hj
          refine opAppIn 3 21 (.tmp 18) (.tmp 20) rfl (by kernel_rfl) (by kernel_rfl) (fun _ => trivial) (Oper.semAt_plain _ _ _ (fun _ h => by cases h)) (by kernel_rfl) w.heap.size _ f1 (by kernel_rfl) KWdc.own ua uc (intB x.1.1) ((intB x.1.1)).length rfl (by kernel_rfl) hua HB2.out KWdc.bel.size ?_
          intro v' Wdca ho' hg'
          rw [HF2.out] at ho'
          have AWdca := KWdc.app ho' hg' (.inr trivial)
          obtain ⟨va, vc, rfl, _, _, _⟩ := ho'.at
          refine wpAnyIn_all (rs := [4]) (fuel := 0) (by kernel_rfl) (by simp) (fun j hj => ?_)
          obtain rfl : j = 4 := by simpa using hj
          refine opStoreIn 4 30 (.tmp 3) (.tmp 21) w.heap.size va f2.length vc _ rfl (by kernel_rfl) (by kernel_rfl) (by kernel_rfl) (fun _ => trivial) (Oper.semAt_plain _ _ _ (fun _ h => by cases h)) (by kernel_rfl) (by kernel_rfl) AWdca.1 ?_
          have KE := RI.store (by omega) AWdca ho'
          refine wpAnyIn_done (by kernel_rfl) ?_ _
          exact ⟨KE.kf, KE.kb, ⟨⟨_, KE.bl, by rw [laidI_snoc, HF1.out, HF2.out]; exact KE.own⟩, by rw [HPL.out]; exact KE.br, KE.bs, KE.bel⟩⟩
        · refine opCallIn 2 20 63 #[.int .i64 x.1.1] (fun u W' => Own W' Wd.heap.size u (intB x.1.1) ∧ After Wd W') rfl (by kernel_rfl) (by kernel_rfl) (fun _ => trivial) rfl (Oper.semAt_plain _ _ _ (fun _ h => by cases h)) (fun _ => by kernel_rfl) (CallsIn.inRound lp (callsIn_wide.2 ((int_any x.1.1 x.2.1 x.2.2.1 Wd).mono (fun _ _ ⟨u, h1, h2, h3⟩ => ⟨u, h1, h2, h3⟩)))) ?_
          rintro u Wdc ⟨hu, hWdc⟩
          obtain ⟨ua, uc, rfl, hua, _, _⟩ := hu.at
          have KWdc := Kd.after hWdc
          refine wpAnyIn_all (rs := [0]) (fuel := 2) (by kernel_rfl) (by simp) (fun j hj => ?_)
          obtain rfl : j = 0 := by simpa using hj
          refine opValIn 0 18 (.slice va f1.length vc) Wdc rfl (by kernel_rfl) (by kernel_rfl) (fun _ => trivial) (Oper.semAt_plain _ _ _ (fun _ h => by cases h)) (x_loadT (t := 30) (x := .tmp 3) (g := w.heap.size) (j := 0) Try.underlying30 rfl (by kernel_rfl) (by kernel_rfl) KWdc.bl.cell) ?_
          refine wpAnyIn_all (rs := [3]) (fuel := 1) (by kernel_rfl) (by simp) (fun j hj => ?_)
          obtain rfl : j = 3 := by simpa using hj
          refine opAppIn 3 21 (.tmp 18) (.tmp 20) rfl (by kernel_rfl) (by kernel_rfl) (fun _ => trivial) (Oper.semAt_plain _ _ _ (fun _ h => by cases h)) (by kernel_rfl) w.heap.size _ f1 (by kernel_rfl) KWdc.own ua uc (intB x.1.1) ((intB x.1.1)).length rfl (by kernel_rfl) hua HB2.out KWdc.bel.size ?_
          intro v' Wdca ho' hg'
          rw [HF2.out] at ho'
          have AWdca := KWdc.app ho' hg' (.inr trivial)
          obtain ⟨va, vc, rfl, _, _, _⟩ := ho'.at
          refine wpAnyIn_all (rs := [4]) (fuel := 0) (by kernel_rfl) (by simp) (fun j hj => ?_)
          obtain rfl : j = 4 := by simpa using hj
          refine opStoreIn 4 30 (.tmp 3) (.tmp 21) w.heap.size va f2.length vc _ rfl (by kernel_rfl) (by kernel_rfl) (by kernel_rfl) (fun _ => trivial) (Oper.semAt_plain _ _ _ (fun _ h => by cases h)) (by kernel_rfl) (by kernel_rfl) AWdca.1 ?_
          have KE := RI.store (by omega) AWdca ho'
          refine wpAnyIn_done (by kernel_rfl) ?_ _
          exact ⟨KE.kf, KE.kb, ⟨⟨_, KE.bl, by rw [laidI_snoc, HF1.out, HF2.out]; exact KE.own⟩, by rw [HPL.out]; exact KE.br, KE.bs, KE.bel⟩⟩
    · refine opValIn 1 14 (.int .i64 (x.1.2 : Int)) Wd rfl (by kernel_rfl) (by kernel_rfl) (fun _ => trivial) (Oper.semAt_plain _ _ _ (fun _ h => by cases h)) (by kernel_rfl) ?_
      refine wpAnyIn_all (rs := [0, 2]) (fuel := 4) (by kernel_rfl) (by simp) (fun j hj => ?_)
      simp only [List.mem_cons, List.not_mem_nil, or_false] at hj
      rcases hj with rfl | rfl
      · refine opValIn 0 13 v Wd rfl (by kernel_rfl) (by kernel_rfl) (fun _ => trivial) (Oper.semAt_plain _ _ _ (fun _ h => by cases h)) (x_loadT (t := 30) (x := .tmp 3) (g := w.heap.size) (j := 0) Try.underlying30 rfl (by kernel_rfl) (by kernel_rfl) Kd.bl.cell) ?_
        refine wpAnyIn_all (rs := [2]) (fuel := 3) (by kernel_rfl) (by simp) (fun j hj => ?_)
        obtain rfl : j = 2 := by simpa using hj
        refine opValIn 2 15 (.int .u64 (x.1.2 : Int)) Wd rfl (by kernel_rfl) (by kernel_rfl) (fun _ => trivial) (Oper.semAt_plain _ _ _ (fun _ h => by cases h)) (x_conv49 (x := .tmp 14) (p := x.1.2) (by have := x.2.2.2; omega) (by kernel_rfl) (by kernel_rfl)) ?_
        refine wpAnyIn_all (rs := [3]) (fuel := 2) (by kernel_rfl) (by simp) (fun j hj => ?_)
        obtain rfl : j = 3 := by simpa using hj
        refine opCallIn 3 16 62 #[.int .u64 (x.1.2 : Int)] (fun u W' => Own W' Wd.heap.size u (uintB x.1.2) ∧ After Wd W') rfl (by kernel_rfl) (by kernel_rfl) (fun _ => trivial) rfl (Oper.semAt_plain _ _ _ (fun _ h => by cases h)) (fun _ => by kernel_rfl) (CallsIn.inRound lp (callsIn_wide.2 ((uint_any x.1.2 (by have := x.2.2.2; omega) Wd).mono (fun _ _ ⟨u, h1, h2, h3⟩ => ⟨u, h1, h2, h3⟩)))) ?_
        rintro u Wdc ⟨hu, hWdc⟩
        obtain ⟨ua, uc, rfl, hua, _, _⟩ := hu.at
        have KWdc := Kd.after hWdc
        refine wpAnyIn_all (rs := [4]) (fuel := 1) (by kernel_rfl) (by simp) (fun j hj => ?_)
        obtain rfl : j = 4 := by simpa using hj
        refine opAppIn 4 17 (.tmp 13) (.tmp 16) rfl (by kernel_rfl) (by kernel_rfl) (fun _ => trivial) (Oper.semAt_plain _ _ _ (fun _ h => by cases h)) (by kernel_rfl) w.heap.size _ (laidI (pre.map (·.1))) (by kernel_rfl) KWdc.own ua uc (uintB x.1.2) ((uintB x.1.2)).length rfl (by kernel_rfl) hua HB1.out KWdc.bel.size ?_
        intro v' Wdca ho' hg'
        rw [HF1.out] at ho'
        have AWdca := KWdc.app ho' hg' (.inr trivial)
        obtain ⟨va, vc, rfl, _, _, _⟩ := ho'.at
        refine wpAnyIn_all (rs := [5]) (fuel := 0) (by kernel_rfl) (by simp) (fun j hj => ?_)
        obtain rfl : j = 5 := by simpa using hj
        refine opStoreIn 5 30 (.tmp 3) (.tmp 17) w.heap.size va f1.length vc _ rfl (by kernel_rfl) (by kernel_rfl) (by kernel_rfl) (fun _ => trivial) (Oper.semAt_plain _ _ _ (fun _ h => by cases h)) (by kernel_rfl) (by kernel_rfl) AWdca.1 ?_
        have KE := RI.store (by omega) AWdca ho'
        refine wpAnyIn_done (by kernel_rfl) ?_ _
        go_simp
        gi_wp2
        refine wpIn_region_any (by kernel_rfl) ?_
        refine with_world (p := fun W' => wpAnyIn _ _ _ _ _ _ _ _ _ W') (fun W' => RI w W0.heap.size (w.heap.size + 2) (.slice ao l.length cap) W W' (.slice va f1.length vc) f1 (pre.length + 1)) KE.drew ?_
        clear KE
        intro Wd Kd
        refine wpAnyIn_all (rs := [0, 1]) (fuel := 4) (by kernel_rfl) (by simp) (fun j hj => ?_)
        simp only [List.mem_cons, List.not_mem_nil, or_false] at hj
        rcases hj with rfl | rfl
        · refine opValIn 0 18 (.slice va f1.length vc) Wd rfl (by kernel_rfl) (by kernel_rfl) (fun _ => trivial) (Oper.semAt_plain _ _ _ (fun _ h => by cases h)) (x_loadT (t := 30) (x := .tmp 3) (g := w.heap.size) (j := 0) Try.underlying30 rfl (by kernel_rfl) (by kernel_rfl) Kd.bl.cell) ?_
          refine wpAnyIn_all (rs := [1]) (fuel := 3) (by kernel_rfl) (by simp) (fun j hj => ?_)
          obtain rfl : j = 1 := by simpa using hj
          refine opValIn 1 19 (.int .i64 x.1.1) Wd rfl (by kernel_rfl) (by kernel_rfl) (fun _ => trivial) (Oper.semAt_plain _ _ _ (fun _ h => by cases h)) (by kernel_rfl) ?_
          refine wpAnyIn_all (rs := [2]) (fuel := 2) (by kernel_rfl) (by simp) (fun j hj => ?_)
          obtain rfl : j = 2 := by simpa using hj
          refine opCallIn 2 20 63 #[.int .i64 x.1.1] (fun u W' => Own W' Wd.heap.size u (intB x.1.1) ∧ After Wd W') rfl (by kernel_rfl) (by kernel_rfl) (fun _ => trivial) rfl (Oper.semAt_plain _ _ _ (fun _ h => by cases h)) (fun _ => by kernel_rfl) (CallsIn.inRound lp (callsIn_wide.2 ((int_any x.1.1 x.2.1 x.2.2.1 Wd).mono (fun _ _ ⟨u, h1, h2, h3⟩ => ⟨u, h1, h2, h3⟩)))) ?_
          rintro u Wdc ⟨hu, hWdc⟩
          obtain ⟨ua, uc, rfl, hua, _, _⟩ := hu.at
          have KWdc := Kd.after hWdc
          refine wpAnyIn_all (rs := [3]) (fuel := 1) (by kernel_rfl) (by simp) (fun j hj => ?_)
          obtain rfl : j = 3 := by simpa using hj
          refine opAppIn 3 21 (.tmp 18) (.tmp 20) rfl (by kernel_rfl) (by kernel_rfl) (fun _ => trivial) (Oper.semAt_plain _ _ _ (fun _ h => by cases h)) (by kernel_rfl) w.heap.size _ f1 (by kernel_rfl) KWdc.own ua uc (intB x.1.1) ((intB x.1.1)).length rfl (by kernel_rfl) hua HB2.out KWdc.bel.size ?_
          intro v' Wdca ho' hg'
          rw [HF2.out] at ho'
          have AWdca := KWdc.app ho' hg' (.inr trivial)
          obtain ⟨va, vc, rfl, _, _, _⟩ := ho'.at
          refine wpAnyIn_all (rs := [4]) (fuel := 0) (by kernel_rfl) (by simp) (fun j hj => ?_)
          obtain rfl : j = 4 := by simpa using hj
          refine opStoreIn 4 30 (.tmp 3) (.tmp 21) w.heap.size va f2.length vc _ rfl (by kernel_rfl) (by kernel_rfl) (by kernel_rfl) (fun _ => trivial) (Oper.semAt_plain _ _ _ (fun _ h => by cases h)) (by kernel_rfl) (by kernel_rfl) AWdca.1 ?_
          have KE := RI.store (by omega) AWdca ho'
          refine wpAnyIn_done (by kernel_rfl) ?_ _
          exact ⟨KE.kf, KE.kb, ⟨⟨_, KE.bl, by rw [laidI_snoc, HF1.out, HF2.out]; exact KE.own⟩, by rw [HPL.out]; exact KE.br, KE.bs, KE.bel⟩⟩
        · refine opValIn 1 19 (.int .i64 x.1.1) Wd rfl (by kernel_rfl) (by kernel_rfl) (fun _ => trivial) (Oper.semAt_plain _ _ _ (fun _ h => by cases h)) (by kernel_rfl) ?_
          refine wpAnyIn_all (rs := [0, 2]) (fuel := 3) (by kernel_rfl) (by simp) (fun j hj => ?_)
          simp only [List.mem_cons, List.not_mem_nil, or_false] at hj
          rcases hj with rfl | rfl
          · refine opValIn 0 18 (.slice va f1.length vc) Wd rfl (by kernel_rfl) (by kernel_rfl) (fun _ => trivial) (Oper.semAt_plain _ _ _ (fun _ h => by cases h)) (x_loadT (t := 30) (x := .tmp 3) (g := w.heap.size) (j := 0) Try.underlying30 rfl (by kernel_rfl) (by kernel_rfl) Kd.bl.cell) ?_
            refine wpAnyIn_all (rs := [2]) (fuel := 2) (by kernel_rfl) (by simp) (fun j hj => ?_)
            obtain rfl : j = 2 := by simpa using hj
            refine opCallIn 2 20 63 #[.int .i64 x.1.1] (fun u W' => Own W' Wd.heap.size u (intB x.1.1) ∧ After Wd W') rfl (by kernel_rfl) (by kernel_rfl) (fun _ => trivial) rfl (Oper.semAt_plain _ _ _ (fun _ h => by cases h)) (fun _ => by kernel_rfl) (CallsIn.inRound lp (callsIn_wide.2 ((int_any x.1.1 x.2.1 x.2.2.1 Wd).mono (fun _ _ ⟨u, h1, h2, h3⟩ => ⟨u, h1, h2, h3⟩)))) ?_
            rintro u Wdc ⟨hu, hWdc⟩
            obtain ⟨ua, uc, rfl, hua, _, _⟩ := hu.at
            have KWdc := Kd.after hWdc
            refine wpAnyIn_all (rs := [3]) (fuel := 1) (by kernel_rfl) (by simp) (fun j hj => ?_)
            obtain rfl : j = 3 := by simpa using hj
            refine opAppIn 3 21 (.tmp 18) (.tmp 20) rfl (by kernel_rfl) (by kernel_rfl) (fun _ => trivial) (Oper.semAt_plain _ _ _ (fun _ h => by cases h)) (by kernel_rfl) w.heap.size _ f1 (by kernel_rfl) KWdc.own ua uc (intB x.1.1) ((intB x.1.1)).length rfl (by kernel_rfl) hua HB2.out KWdc.bel.size ?_
            intro v' Wdca ho' hg'
            rw [HF2.out] at ho'
            have AWdca := KWdc.app ho' hg' (.inr trivial)
            obtain ⟨va, vc, rfl, _, _, _⟩ := ho'.at
            refine wpAnyIn_all (rs := [4]) (fuel := 0) (by kernel_rfl) (by simp) (fun j hj => ?_)
            obtain rfl : j = 4 := by simpa using hj
            refine opStoreIn 4 30 (.tmp 3) (.tmp 21) w.heap.size va f2.length vc _ rfl (by kernel_rfl) (by kernel_rfl) (by kernel_rfl) (fun _ => trivial) (Oper.semAt_plain _ _ _ (fun _ h => by cases h)) (by kernel_rfl) (by kernel_rfl) AWdca.1 ?_
            have KE := RI.store (by omega) AWdca ho'
            refine wpAnyIn_done (by kernel_rfl) ?_ _
            exact ⟨KE.kf, KE.kb, ⟨⟨_, KE.bl, by rw [laidI_snoc, HF1.out, HF2.out]; exact KE.own⟩, by rw [HPL.out]; exact KE.br, KE.bs, KE.bel⟩⟩
          · refine opCallIn 2 20 63 #[.int .i64 x.1.1] (fun u W' => Own W' Wd.heap.size u (intB x.1.1) ∧ After Wd W') rfl (by kernel_rfl) (by kernel_rfl) (fun _ => trivial) rfl (Oper.semAt_plain _ _ _ (fun _ h => by cases h)) (fun _ => by kernel_rfl) (CallsIn.inRound lp (callsIn_wide.2 ((int_any x.1.1 x.2.1 x.2.2.1 Wd).mono (fun _ _ ⟨u, h1, h2, h3⟩ => ⟨u, h1, h2, h3⟩)))) ?_
            rintro u Wdc ⟨hu, hWdc⟩
            obtain ⟨ua, uc, rfl, hua, _, _⟩ := hu.at
            have KWdc := Kd.after hWdc
            refine wpAnyIn_all (rs := [0]) (fuel := 2) (by kernel_rfl) (by simp) (fun j hj => ?_)
            obtain rfl : j = 0 := by simpa using hj
            refine opValIn 0 18 (.slice va f1.length vc) Wdc rfl (by kernel_rfl) (by kernel_rfl) (fun _ => trivial) (Oper.semAt_plain _ _ _ (fun _ h => by cases h)) (x_loadT (t := 30) (x := .tmp 3) (g := w.heap.size) (j := 0) Try.underlying30 rfl (by kernel_rfl) (by kernel_rfl) KWdc.bl.cell) ?_
            refine wpAnyIn_all (rs := [3]) (fuel := 1) (by kernel_rfl) (by simp) (fun j hj => ?_)
            obtain rfl : j = 3 := by simpa using hj
            refine opAppIn 3 21 (.tmp 18) (.tmp 20) rfl (by kernel_rfl) (by kernel_rfl) (fun _ => trivial) (Oper.semAt_plain _ _ _ (fun _ h => by cases h)) (by kernel_rfl) w.heap.size _ f1 (by kernel_rfl) KWdc.own ua uc (intB x.1.1) ((intB x.1.1)).length rfl (by kernel_rfl) hua HB2.out KWdc.bel.size ?_
            intro v' Wdca ho' hg'
            rw [HF2.out] at ho'
            have AWdca := KWdc.app ho' hg' (.inr trivial)
            obtain ⟨va, vc, rfl, _, _, _⟩ := ho'.at
            refine wpAnyIn_all (rs := [4]) (fuel := 0) (by kernel_rfl) (by simp) (fun j hj => ?_)
            obtain rfl : j = 4 := by simpa using hj
            refine opStoreIn 4 30 (.tmp 3) (.tmp 21) w.heap.size va f2.length vc _ rfl (by kernel_rfl) (by kernel_rfl) (by kernel_rfl) (fun _ => trivial) (Oper.semAt_plain _ _ _ (fun _ h => by cases h)) (by kernel_rfl) (by kernel_rfl) AWdca.1 ?_
            have KE := RI.store (by omega) AWdca ho'
            refine wpAnyIn_done (by kernel_rfl) ?_ _
            exact ⟨KE.kf, KE.kb, ⟨⟨_, KE.bl, by rw [laidI_snoc, HF1.out, HF2.out]; exact KE.own⟩, by rw [HPL.out]; exact KE.br, KE.bs, KE.bel⟩⟩
      · refine opValIn 2 15 (.int .u64 (x.1.2 : Int)) Wd rfl (by kernel_rfl) (by kernel_rfl) (fun _ => trivial) (Oper.semAt_plain _ _ _ (fun _ h => by cases h)) (x_conv49 (x := .tmp 14) (p := x.1.2) (by have := x.2.2.2; omega) (by kernel_rfl) (by kernel_rfl)) ?_
        refine wpAnyIn_all (rs := [0, 3]) (fuel := 3) (by kernel_rfl) (by simp) (fun j hj => ?_)
        simp only [List.mem_cons, List.not_mem_nil, or_false] at hj
        rcases hj with rfl | rfl
        · refine opValIn 0 13 v Wd rfl (by kernel_rfl) (by kernel_rfl) (fun _ => trivial) (Oper.semAt_plain _ _ _ (fun _ h => by cases h)) (x_loadT (t := 30) (x := .tmp 3) (g := w.heap.size) (j := 0) Try.underlying30 rfl (by kernel_rfl) (by kernel_rfl) Kd.bl.cell) ?_
          refine wpAnyIn_all (rs := [3]) (fuel := 2) (by kernel_rfl) (by simp) (fun j hj => ?_)
          obtain rfl : j = 3 := by simpa using hj
          refine opCallIn 3 16 62 #[.int .u64 (x.1.2 : Int)] (fun u W' => Own W' Wd.heap.size u (uintB x.1.2) ∧ After Wd W') rfl (by kernel_rfl) (by kernel_rfl) (fun _ => trivial) rfl (Oper.semAt_plain _ _ _ (fun _ h => by cases h)) (fun _ => by kernel_rfl) (CallsIn.inRound lp (callsIn_wide.2 ((uint_any x.1.2 (by have := x.2.2.2; omega) Wd).mono (fun _ _ ⟨u, h1, h2, h3⟩ => ⟨u, h1, h2, h3⟩)))) ?_
          rintro u Wdc ⟨hu, hWdc⟩
          obtain ⟨ua, uc, rfl, hua, _, _⟩ := hu.at
          have KWdc := Kd.after hWdc
          refine wpAnyIn_all (rs := [4]) (fuel := 1) (by kernel_rfl) (by simp) (fun j hj => ?_)
          obtain rfl : j = 4 := by simpa using hj
          refine opAppIn 4 17 (.tmp 13) (.tmp 16) rfl (by kernel_rfl) (by kernel_rfl) (fun _ => trivial) (Oper.semAt_plain _ _ _ (fun _ h => by cases h)) (by kernel_rfl) w.heap.size _ (laidI (pre.map (·.1))) (by kernel_rfl) KWdc.own ua uc (uintB x.1.2) ((uintB x.1.2)).length rfl (by kernel_rfl) hua HB1.out KWdc.bel.size ?_
          intro v' Wdca ho' hg'
          rw [HF1.out] at ho'
          have AWdca := KWdc.app ho' hg' (.inr trivial)
          obtain ⟨va, vc, rfl, _, _, _⟩ := ho'.at
          refine wpAnyIn_all (rs := [5]) (fuel := 0) (by kernel_rfl) (by simp) (fun j hj => ?_)
          obtain rfl : j = 5 := by simpa using hj
          refine opStoreIn 5 30 (.tmp 3) (.tmp 17) w.heap.size va f1.length vc _ rfl (by kernel_rfl) (by kernel_rfl) (by kernel_rfl) (fun _ => trivial) (Oper.semAt_plain _ _ _ (fun _ h => by cases h)) (by kernel_rfl) (by kernel_rfl) AWdca.1 ?_
          have KE := RI.store (by omega) AWdca ho'
          refine wpAnyIn_done (by kernel_rfl) ?_ _
          go_simp
          gi_wp2
          refine wpIn_region_any (by kernel_rfl) ?_
          refine with_world (p := fun W' => wpAnyIn _ _ _ _ _ _ _ _ _ W') (fun W' => RI w W0.heap.size (w.heap.size + 2) (.slice ao l.length cap) W W' (.slice va f1.length vc) f1 (pre.length + 1)) KE.drew ?_
          clear KE
          intro Wd Kd
          refine wpAnyIn_all (rs := [0, 1]) (fuel := 4) (by kernel_rfl) (by simp) (fun j hj => ?_)
          simp only [List.mem_cons, List.not_mem_nil, or_false] at hj
          rcases hj with rfl | rfl
          · refine opValIn 0 18 (.slice va f1.length vc) Wd rfl (by kernel_rfl) (by kernel_rfl) (fun _ => trivial) (Oper.semAt_plain _ _ _ (fun _ h => by cases h)) (x_loadT (t := 30) (x := .tmp 3) (g := w.heap.size) (j := 0) Try.underlying30 rfl (by kernel_rfl) (by kernel_rfl) Kd.bl.cell) ?_
            refine wpAnyIn_all (rs := [1]) (fuel := 3) (by kernel_rfl) (by simp) (fun j hj => ?_)
            obtain rfl : j = 1 := by simpa using hj
            refine opValIn 1 19 (.int .i64 x.1.1) Wd rfl (by kernel_rfl) (by kernel_rfl) (fun _ => trivial) (Oper.semAt_plain _ _ _ (fun _ h => by cases h)) (by kernel_rfl) ?_
            refine wpAnyIn_all (rs := [2]) (fuel := 2) (by kernel_rfl) (by simp) (fun j hj => ?_)
            obtain rfl : j = 2 := by simpa using hj
            refine opCallIn 2 20 63 #[.int .i64 x.1.1] (fun u W' => Own W' Wd.heap.size u (intB x.1.1) ∧ After Wd W') rfl (by kernel_rfl) (by kernel_rfl) (fun _ => trivial) rfl (Oper.semAt_plain _ _ _ (fun _ h => by cases h)) (fun _ => by kernel_rfl) (CallsIn.inRound lp (callsIn_wide.2 ((int_any x.1.1 x.2.1 x.2.2.1 Wd).mono (fun _ _ ⟨u, h1, h2, h3⟩ => ⟨u, h1, h2, h3⟩)))) ?_
            rintro u Wdc ⟨hu, hWdc⟩
            obtain ⟨ua, uc, rfl, hua, _, _⟩ := hu.at
            have KWdc := Kd.after hWdc
            refine wpAnyIn_all (rs := [3]) (fuel := 1) (by kernel_rfl) (by simp) (fun j hj => ?_)
            obtain rfl : j = 3 := by simpa using hj
            refine opAppIn 3 21 (.tmp 18) (.tmp 20) rfl (by kernel_rfl) (by kernel_rfl) (fun _ => trivial) (Oper.semAt_plain _ _ _ (fun _ h => by cases h)) (by kernel_rfl) w.heap.size _ f1 (by kernel_rfl) KWdc.own ua uc (intB x.1.1) ((intB x.1.1)).length rfl (by kernel_rfl) hua HB2.out KWdc.bel.size ?_
            intro v' Wdca ho' hg'
            rw [HF2.out] at ho'
            have AWdca := KWdc.app ho' hg' (.inr trivial)
            obtain ⟨va, vc, rfl, _, _, _⟩ := ho'.at
            refine wpAnyIn_all (rs := [4]) (fuel := 0) (by kernel_rfl) (by simp) (fun j hj => ?_)
            obtain rfl : j = 4 := by simpa using hj
            refine opStoreIn 4 30 (.tmp 3) (.tmp 21) w.heap.size va f2.length vc _ rfl (by kernel_rfl) (by kernel_rfl) (by kernel_rfl) (fun _ => trivial) (Oper.semAt_plain _ _ _ (fun _ h => by cases h)) (by kernel_rfl) (by kernel_rfl) AWdca.1 ?_
            have KE := RI.store (by omega) AWdca ho'
            refine wpAnyIn_done (by kernel_rfl) ?_ _
            exact ⟨KE.kf, KE.kb, ⟨⟨_, KE.bl, by rw [laidI_snoc, HF1.out, HF2.out]; exact KE.own⟩, by rw [HPL.out]; exact KE.br, KE.bs, KE.bel⟩⟩
          · refine opValIn 1 19 (.int .i64 x.1.1) Wd rfl (by kernel_rfl) (by kernel_rfl) (fun _ => trivial) (Oper.semAt_plain _ _ _ (fun _ h => by cases h)) (by kernel_rfl) ?_
            refine wpAnyIn_all (rs := [0, 2]) (fuel := 3) (by kernel_rfl) (by simp) (fun j hj => ?_)
            simp only [List.mem_cons, List.not_mem_nil, or_false] at hj
            rcases hj with rfl | rfl
            · refine opValIn 0 18 (.slice va f1.length vc) Wd rfl (by kernel_rfl) (by kernel_rfl) (fun _ => trivial) (Oper.semAt_plain _ _ _ (fun _ h => by cases h)) (x_loadT (t := 30) (x := .tmp 3) (g := w.heap.size) (j := 0) Try.underlying30 rfl (by kernel_rfl) (by kernel_rfl) Kd.bl.cell) ?_
              refine wpAnyIn_all (rs := [2]) (fuel := 2) (by kernel_rfl) (by simp) (fun j hj => ?_)
              obtain rfl : j = 2 := by simpa using hj
              refine opCallIn 2 20 63 #[.int .i64 x.1.1] (fun u W' => Own W' Wd.heap.size u (intB x.1.1) ∧ After Wd W') rfl (by kernel_rfl) (by kernel_rfl) (fun _ => trivial) rfl (Oper.semAt_plain _ _ _ (fun _ h => by cases h)) (fun _ => by kernel_rfl) (CallsIn.inRound lp (callsIn_wide.2 ((int_any x.1.1 x.2.1 x.2.2.1 Wd).mono (fun _ _ ⟨u, h1, h2, h3⟩ => ⟨u, h1, h2, h3⟩)))) ?_
              rintro u Wdc ⟨hu, hWdc⟩
              obtain ⟨ua, uc, rfl, hua, _, _⟩ := hu.at
              have KWdc := Kd.after hWdc
              refine wpAnyIn_all (rs := [3]) (fuel := 1) (by kernel_rfl) (by simp) (fun j hj => ?_)
              obtain rfl : j = 3 := by simpa using hj
              refine opAppIn 3 21 (.tmp 18) (.tmp 20) rfl (by kernel_rfl) (by kernel_rfl) (fun _ => trivial) (Oper.semAt_plain _ _ _ (fun _ h => by cases h)) (by kernel_rfl) w.heap.size _ f1 (by kernel_rfl) KWdc.own ua uc (intB x.1.1) ((intB x.1.1)).length rfl (by kernel_rfl) hua HB2.out KWdc.bel.size ?_
              intro v' Wdca ho' hg'
              rw [HF2.out] at ho'
              have AWdca := KWdc.app ho' hg' (.inr trivial)
              obtain ⟨va, vc, rfl, _, _, _⟩ := ho'.at
              refine wpAnyIn_all (rs := [4]) (fuel := 0) (by kernel_rfl) (by simp) (fun j hj => ?_)
              obtain rfl : j = 4 := by simpa using hj
              refine opStoreIn 4 30 (.tmp 3) (.tmp 21) w.heap.size va f2.length vc _ rfl (by kernel_rfl) (by kernel_rfl) (by kernel_rfl) (fun _ => trivial) (Oper.semAt_plain _ _ _ (fun _ h => by cases h)) (by kernel_rfl) (by kernel_rfl) AWdca.1 ?_
              have KE := RI.store (by omega) AWdca ho'
              refine wpAnyIn_done (by kernel_rfl) ?_ _
              exact ⟨KE.kf, KE.kb, ⟨⟨_, KE.bl, by rw [laidI_snoc, HF1.out, HF2.out]; exact KE.own⟩, by rw [HPL.out]; exact KE.br, KE.bs, KE.bel⟩⟩
            · refine opCallIn 2 20 63 #[.int .i64 x.1.1] (fun u W' => Own W' Wd.heap.size u (intB x.1.1) ∧ After Wd W') rfl (by kernel_rfl) (by kernel_rfl) (fun _ => trivial) rfl (Oper.semAt_plain _ _ _ (fun _ h => by cases h)) (fun _ => by kernel_rfl) (CallsIn.inRound lp (callsIn_wide.2 ((int_any x.1.1 x.2.1 x.2.2.1 Wd).mono (fun _ _ ⟨u, h1, h2, h3⟩ => ⟨u, h1, h2, h3⟩)))) ?_
              rintro u Wdc ⟨hu, hWdc⟩
              obtain ⟨ua, uc, rfl, hua, _, _⟩ := hu.at
              have KWdc := Kd.after hWdc
              refine wpAnyIn_all (rs := [0]) (fuel := 2) (by kernel_rfl) (by simp) (fun j hj => ?_)
              obtain rfl : j = 0 := by simpa using hj
              refine opValIn 0 18 (.slice va f1.length vc) Wdc rfl (by kernel_rfl) (by kernel_rfl) (fun _ => trivial) (Oper.semAt_plain _ _ _ (fun _ h => by cases h)) (x_loadT (t := 30) (x := .tmp 3) (g := w.heap.size) (j := 0) Try.underlying30 rfl (by kernel_rfl) (by kernel_rfl) KWdc.bl.cell) ?_
              refine wpAnyIn_all (rs := [3]) (fuel := 1) (by kernel_rfl) (by simp) (fun j hj => ?_)
              obtain rfl : j = 3 := by simpa using hj
              refine opAppIn 3 21 (.tmp 18) (.tmp 20) rfl (by kernel_rfl) (by kernel_rfl) (fun _ => trivial) (Oper.semAt_plain _ _ _ (fun _ h => by cases h)) (by kernel_rfl) w.heap.size _ f1 (by kernel_rfl) KWdc.own ua uc (intB x.1.1) ((intB x.1.1)).length rfl (by kernel_rfl) hua HB2.out KWdc.bel.size ?_
              intro v' Wdca ho' hg'
              rw [HF2.out] at ho'
              have AWdca := KWdc.app ho' hg' (.inr trivial)
              obtain ⟨va, vc, rfl, _, _, _⟩ := ho'.at
              refine wpAnyIn_all (rs := [4]) (fuel := 0) (by kernel_rfl) (by simp) (fun j hj => ?_)
              obtain rfl : j = 4 := by simpa using hj
              refine opStoreIn 4 30 (.tmp 3) (.tmp 21) w.heap.size va f2.length vc _ rfl (by kernel_rfl) (by kernel_rfl) (by kernel_rfl) (fun _ => trivial) (Oper.semAt_plain _ _ _ (fun _ h => by cases h)) (by kernel_rfl) (by kernel_rfl) AWdca.1 ?_
              have KE := RI.store (by omega) AWdca ho'
              refine wpAnyIn_done (by kernel_rfl) ?_ _
              exact ⟨KE.kf, KE.kb, ⟨⟨_, KE.bl, by rw [laidI_snoc, HF1.out, HF2.out]; exact KE.own⟩, by rw [HPL.out]; exact KE.br, KE.bs, KE.bel⟩⟩
        · refine opCallIn 3 16 62 #[.int .u64 (x.1.2 : Int)] (fun u W' => Own W' Wd.heap.size u (uintB x.1.2) ∧ After Wd W') rfl (by kernel_rfl) (by kernel_rfl) (fun _ => trivial) rfl (Oper.semAt_plain _ _ _ (fun _ h => by cases h)) (fun _ => by kernel_rfl) (CallsIn.inRound lp (callsIn_wide.2 ((uint_any x.1.2 (by have := x.2.2.2; omega) Wd).mono (fun _ _ ⟨u, h1, h2, h3⟩ => ⟨u, h1, h2, h3⟩)))) ?_
          rintro u Wdc ⟨hu, hWdc⟩
          obtain ⟨ua, uc, rfl, hua, _, _⟩ := hu.at
          have KWdc := Kd.after hWdc
          refine wpAnyIn_all (rs := [0]) (fuel := 2) (by kernel_rfl) (by simp) (fun j hj => ?_)
          obtain rfl : j = 0 := by simpa using hj
          refine opValIn 0 13 v Wdc rfl (by kernel_rfl) (by kernel_rfl) (fun _ => trivial) (Oper.semAt_plain _ _ _ (fun _ h => by cases h)) (x_loadT (t := 30) (x := .tmp 3) (g := w.heap.size) (j := 0) Try.underlying30 rfl (by kernel_rfl) (by kernel_rfl) KWdc.bl.cell) ?_
          refine wpAnyIn_all (rs := [4]) (fuel := 1) (by kernel_rfl) (by simp) (fun j hj => ?_)
          obtain rfl : j = 4 := by simpa using hj
          refine opAppIn 4 17 (.tmp 13) (.tmp 16) rfl (by kernel_rfl) (by kernel_rfl) (fun _ => trivial) (Oper.semAt_plain _ _ _ (fun _ h => by cases h)) (by kernel_rfl) w.heap.size _ (laidI (pre.map (·.1))) (by kernel_rfl) KWdc.own ua uc (uintB x.1.2) ((uintB x.1.2)).length rfl (by kernel_rfl) hua HB1.out KWdc.bel.size ?_
          intro v' Wdca ho' hg'
          rw [HF1.out] at ho'
          have AWdca := KWdc.app ho' hg' (.inr trivial)
          obtain ⟨va, vc, rfl, _, _, _⟩ := ho'.at
          refine wpAnyIn_all (rs := [5]) (fuel := 0) (by kernel_rfl) (by simp) (fun j hj => ?_)
          obtain rfl : j = 5 := by simpa using hj
          refine opStoreIn 5 30 (.tmp 3) (.tmp 17) w.heap.size va f1.length vc _ rfl (by kernel_rfl) (by kernel_rfl) (by kernel_rfl) (fun _ => trivial) (Oper.semAt_plain _ _ _ (fun _ h => by cases h)) (by kernel_rfl) (by kernel_rfl) AWdca.1 ?_
          have KE := RI.store (by omega) AWdca ho'
          refine wpAnyIn_done (by kernel_rfl) ?_ _
          go_simp
          gi_wp2
          refine wpIn_region_any (by kernel_rfl) ?_
          refine with_world (p := fun W' => wpAnyIn _ _ _ _ _ _ _ _ _ W') (fun W' => RI w W0.heap.size (w.heap.size + 2) (.slice ao l.length cap) W W' (.slice va f1.length vc) f1 (pre.length + 1)) KE.drew ?_
          clear KE
          intro Wd Kd
          refine wpAnyIn_all (rs := [0, 1]) (fuel := 4) (by kernel_rfl) (by simp) (fun j hj => ?_)
          simp only [List.mem_cons, List.not_mem_nil, or_false] at hj
          rcases hj with rfl | rfl
          · refine opValIn 0 18 (.slice va f1.length vc) Wd rfl (by kernel_rfl) (by kernel_rfl) (fun _ => trivial) (Oper.semAt_plain _ _ _ (fun _ h => by cases h)) (x_loadT (t := 30) (x := .tmp 3) (g := w.heap.size) (j := 0) Try.underlying30 rfl (by kernel_rfl) (by kernel_rfl) Kd.bl.cell) ?_
            refine wpAnyIn_all (rs := [1]) (fuel := 3) (by kernel_rfl) (by simp) (fun j hj => ?_)
            obtain rfl : j = 1 := by simpa using hj
            refine opValIn 1 19 (.int .i64 x.1.1) Wd rfl (by kernel_rfl) (by kernel_rfl) (fun _ => trivial) (Oper.semAt_plain _ _ _ (fun _ h => by cases h)) (by kernel_rfl) ?_
            refine wpAnyIn_all (rs := [2]) (fuel := 2) (by kernel_rfl) (by simp) (fun j hj => ?_)
            obtain rfl : j = 2 := by simpa using hj
            refine opCallIn 2 20 63 #[.int .i64 x.1.1] (fun u W' => Own W' Wd.heap.size u (intB x.1.1) ∧ After Wd W') rfl (by kernel_rfl) (by kernel_rfl) (fun _ => trivial) rfl (Oper.semAt_plain _ _ _ (fun _ h => by cases h)) (fun _ => by kernel_rfl) (CallsIn.inRound lp (callsIn_wide.2 ((int_any x.1.1 x.2.1 x.2.2.1 Wd).mono (fun _ _ ⟨u, h1, h2, h3⟩ => ⟨u, h1, h2, h3⟩)))) ?_
            rintro u Wdc ⟨hu, hWdc⟩
            obtain ⟨ua, uc, rfl, hua, _, _⟩ := hu.at
            have KWdc := Kd.after hWdc
            refine wpAnyIn_all (rs := [3]) (fuel := 1) (by kernel_rfl) (by simp) (fun j hj => ?_)
            obtain rfl : j = 3 := by simpa using hj
            refine opAppIn 3 21 (.tmp 18) (.tmp 20) rfl (by kernel_rfl) (by kernel_rfl) (fun _ => trivial) (Oper.semAt_plain _ _ _ (fun _ h => by cases h)) (by kernel_rfl) w.heap.size _ f1 (by kernel_rfl) KWdc.own ua uc (intB x.1.1) ((intB x.1.1)).length rfl (by kernel_rfl) hua HB2.out KWdc.bel.size ?_
            intro v' Wdca ho' hg'
            rw [HF2.out] at ho'
            have AWdca := KWdc.app ho' hg' (.inr trivial)
            obtain ⟨va, vc, rfl, _, _, _⟩ := ho'.at
            refine wpAnyIn_all (rs := [4]) (fuel := 0) (by kernel_rfl) (by simp) (fun j hj => ?_)
            obtain rfl : j = 4 := by simpa using hj
            refine opStoreIn 4 30 (.tmp 3) (.tmp 21) w.heap.size va f2.length vc _ rfl (by kernel_rfl) (by kernel_rfl) (by kernel_rfl) (fun _ => trivial) (Oper.semAt_plain _ _ _ (fun _ h => by cases h)) (by kernel_rfl) (by kernel_rfl) AWdca.1 ?_
            have KE := RI.store (by omega) AWdca ho'
            refine wpAnyIn_done (by kernel_rfl) ?_ _
            exact ⟨KE.kf, KE.kb, ⟨⟨_, KE.bl, by rw [laidI_snoc, HF1.out, HF2.out]; exact KE.own⟩, by rw [HPL.out]; exact KE.br, KE.bs, KE.bel⟩⟩
          · refine opValIn 1 19 (.int .i64 x.1.1) Wd rfl (by kernel_rfl) (by kernel_rfl) (fun _ => trivial) (Oper.semAt_plain _ _ _ (fun _ h => by cases h)) (by kernel_rfl) ?_
            refine wpAnyIn_all (rs := [0, 2]) (fuel := 3) (by kernel_rfl) (by simp) (fun j hj => ?_)
            simp only [List.mem_cons, List.not_mem_nil, or_false] at hj
            rcases hj with rfl | rfl
            · refine opValIn 0 18 (.slice va f1.length vc) Wd rfl (by kernel_rfl) (by kernel_rfl) (fun _ => trivial) (Oper.semAt_plain _ _ _ (fun _ h => by cases h)) (x_loadT (t := 30) (x := .tmp 3) (g := w.heap.size) (j := 0) Try.underlying30 rfl (by kernel_rfl) (by kernel_rfl) Kd.bl.cell) ?_
              refine wpAnyIn_all (rs := [2]) (fuel := 2) (by kernel_rfl) (by simp) (fun j hj => ?_)
              obtain rfl : j = 2 := by simpa using hj
              refine opCallIn 2 20 63 #[.int .i64 x.1.1] (fun u W' => Own W' Wd.heap.size u (intB x.1.1) ∧ After Wd W') rfl (by kernel_rfl) (by kernel_rfl) (fun _ => trivial) rfl (Oper.semAt_plain _ _ _ (fun _ h => by cases h)) (fun _ => by kernel_rfl) (CallsIn.inRound lp (callsIn_wide.2 ((int_any x.1.1 x.2.1 x.2.2.1 Wd).mono (fun _ _ ⟨u, h1, h2, h3⟩ => ⟨u, h1, h2, h3⟩)))) ?_
              rintro u Wdc ⟨hu, hWdc⟩
              obtain ⟨ua, uc, rfl, hua, _, _⟩ := hu.at
              have KWdc := Kd.after hWdc
              refine wpAnyIn_all (rs := [3]) (fuel := 1) (by kernel_rfl) (by simp) (fun j hj => ?_)
              obtain rfl : j = 3 := by simpa using hj
              refine opAppIn 3 21 (.tmp 18) (.tmp 20) rfl (by kernel_rfl) (by kernel_rfl) (fun _ => trivial) (Oper.semAt_plain _ _ _ (fun _ h => by cases h)) (by kernel_rfl) w.heap.size _ f1 (by kernel_rfl) KWdc.own ua uc (intB x.1.1) ((intB x.1.1)).length rfl (by kernel_rfl) hua HB2.out KWdc.bel.size ?_
              intro v' Wdca ho' hg'
              rw [HF2.out] at ho'
              have AWdca := KWdc.app ho' hg' (.inr trivial)
              obtain ⟨va, vc, rfl, _, _, _⟩ := ho'.at
              refine wpAnyIn_all (rs := [4]) (fuel := 0) (by kernel_rfl) (by simp) (fun j hj => ?_)
              obtain rfl : j = 4 := by simpa using hj
              refine opStoreIn 4 30 (.tmp 3) (.tmp 21) w.heap.size va f2.length vc _ rfl (by kernel_rfl) (by kernel_rfl) (by kernel_rfl) (fun _ => trivial) (Oper.semAt_plain _ _ _ (fun _ h => by cases h)) (by kernel_rfl) (by kernel_rfl) AWdca.1 ?_
              have KE := RI.store (by omega) AWdca ho'
              refine wpAnyIn_done (by kernel_rfl) ?_ _
              exact ⟨KE.kf, KE.kb, ⟨⟨_, KE.bl, by rw [laidI_snoc, HF1.out, HF2.out]; exact KE.own⟩, by rw [HPL.out]; exact KE.br, KE.bs, KE.bel⟩⟩
            · refine opCallIn 2 20 63 #[.int .i64 x.1.1] (fun u W' => Own W' Wd.heap.size u (intB x.1.1) ∧ After Wd W') rfl (by kernel_rfl) (by kernel_rfl) (fun _ => trivial) rfl (Oper.semAt_plain _ _ _ (fun _ h => by cases h)) (fun _ => by kernel_rfl) (CallsIn.inRound lp (callsIn_wide.2 ((int_any x.1.1 x.2.1 x.2.2.1 Wd).mono (fun _ _ ⟨u, h1, h2, h3⟩ => ⟨u, h1, h2, h3⟩)))) ?_
              rintro u Wdc ⟨hu, hWdc⟩
              obtain ⟨ua, uc, rfl, hua, _, _⟩ := hu.at
              have KWdc := Kd.after hWdc
              refine wpAnyIn_all (rs := [0]) (fuel := 2) (by kernel_rfl) (by simp) (fun j hj => ?_)
              obtain rfl : j = 0 := by simpa using hj
              refine opValIn 0 18 (.slice va f1.length vc) Wdc rfl (by kernel_rfl) (by kernel_rfl) (fun _ => trivial) (Oper.semAt_plain _ _ _ (fun _ h => by cases h)) (x_loadT (t := 30) (x := .tmp 3) (g := w.heap.size) (j := 0) Try.underlying30 rfl (by kernel_rfl) (by kernel_rfl) KWdc.bl.cell) ?_
              refine wpAnyIn_all (rs := [3]) (fuel := 1) (by kernel_rfl) (by simp) (fun j hj => ?_)
              obtain rfl : j = 3 := by simpa using hj
              refine opAppIn 3 21 (.tmp 18) (.tmp 20) rfl (by kernel_rfl) (by kernel_rfl) (fun _ => trivial) (Oper.semAt_plain _ _ _ (fun _ h => by cases h)) (by kernel_rfl) w.heap.size _ f1 (by kernel_rfl) KWdc.own ua uc (intB x.1.1) ((intB x.1.1)).length rfl (by kernel_rfl) hua HB2.out KWdc.bel.size ?_
              intro v' Wdca ho' hg'
              rw [HF2.out] at ho'
              have AWdca := KWdc.app ho' hg' (.inr trivial)
              obtain ⟨va, vc, rfl, _, _, _⟩ := ho'.at
              refine wpAnyIn_all (rs := [4]) (fuel := 0) (by kernel_rfl) (by simp) (fun j hj => ?_)
              obtain rfl : j = 4 := by simpa using hj
              refine opStoreIn 4 30 (.tmp 3) (.tmp 21) w.heap.size va f2.length vc _ rfl (by kernel_rfl) (by kernel_rfl) (by kernel_rfl) (fun _ => trivial) (Oper.semAt_plain _ _ _ (fun _ h => by cases h)) (by kernel_rfl) (by kernel_rfl) AWdca.1 ?_
              have KE := RI.store (by omega) AWdca ho'
              refine wpAnyIn_done (by kernel_rfl) ?_ _
              exact ⟨KE.kf, KE.kb, ⟨⟨_, KE.bl, by rw [laidI_snoc, HF1.out, HF2.out]; exact KE.own⟩, by rw [HPL.out]; exact KE.br, KE.bs, KE.bel⟩⟩
  case done =>
    rintro D ys W hD hys ⟨⟨v, h1, h2⟩, h3, h4, h5⟩ hK
    have hm : ys.length = (runs l).length := by rw [← hys]; simp
    have hml := runs_len l
    obtain ⟨m, hmm⟩ : ∃ m, ys.length = m := ⟨_, rfl⟩
    have h20 := laidI_len ys
    rw [hys] at h2 h20
    rw [hmm] at h3 hm h20
    obtain ⟨lb, HLB⟩ : ∃ x, Hid (laidI (runs l) = x) := ⟨_, rfl⟩
    rw [HLB.out] at h2 h20
    have HRB : Hid (uintB m ++ lb = runsB l) := by unfold Hid runsB; rw [hm, HLB.out]
    have HBB : Hid ((uintB m).length + lb.length ≤ 140737488355328) := by have := uintB_len10 m (by omega); unfold Hid; omega
    obtain ⟨va, vc, rfl, hat, _, _⟩ := h2.at
    have HAT0 := show Hid (BytesAt W va lb) from hat
    have HWW : Hid (Below w.heap.size w W) := h5
    have HKD0 : Hid (W.heap[D]? = some (.deferred (some []))) := hK
    have HDW : Hid (w.heap.size ≤ D) := by unfold Hid; omega
    have H1 := show Hid (Boxed W w.heap.size 30 (.slice va lb.length vc)) from h1
    have H3 := show Hid (Boxed W (w.heap.size + 1) 3 (.int .i64 (m : Int))) from h3
    have bm : m ≤ 1048576 := by omega
    clear h1 h2 h3 h4 h5 hK hat hD h20 hm hml hmm hys
    gi_wp2
    refine wpIn_region_any (by kernel_rfl) ?_
    refine with_world (p := fun W' => wpAnyIn _ _ _ _ _ _ _ _ _ W') (fun W' => After W W') (After.drew (After.refl W)) ?_
    intro Wd hWd
    have HLD : Hid (∀ W', After Wd W' → W'.cell? ⟨w.heap.size + 1, 0, none⟩ = some (.int .i64 (m : Int))) := fun W' hA => (Below.cell (hWd.trans hA) (p := ⟨w.heap.size + 1, 0, none⟩) H3.out.lt).trans H3.out.cell
    have HLV : Hid (∀ W', After Wd W' → W'.cell? ⟨w.heap.size, 0, none⟩ = some (.slice va lb.length vc)) := fun W' hA => (Below.cell (hWd.trans hA) (p := ⟨w.heap.size, 0, none⟩) H1.out.lt).trans H1.out.cell
    have HAT : Hid (∀ W', After Wd W' → BytesAt W' va lb) := fun W' hA => HAT0.out.after (hWd.trans hA)
    have hDl : D < W.heap.size := (Array.getElem?_eq_some_iff.1 HKD0.out).1
    have HKD : Hid (Wd.heap[D]? = some (.deferred (some []))) := (hWd.block D hDl).trans HKD0.out
    have HDL : Hid (D < Wd.heap.size) := Nat.lt_of_lt_of_le hDl hWd.size
    have HWd : Hid (Below w.heap.size w Wd) := HWW.out.trans (Below.mono hWd HWW.out.size)
    have hS0 : After Wd Wd := After.refl Wd
    refine wpAnyIn_all (rs := [0, 3]) (fuel := 5) (by kernel_rfl) (by simp) (fun j hj => ?_)
    simp only [List.mem_cons, List.not_mem_nil, or_false] at hj
    rcases hj with rfl | rfl
    · refine opValIn 0 22 (.int .i64 (m : Int)) Wd rfl (by kernel_rfl) (by kernel_rfl) (fun _ => trivial) rfl (x_loadT (t := 3) (x := .tmp 4) (g := w.heap.size + 1) (j := 0) Try.underlying3 rfl (by kernel_rfl) (by kernel_rfl) (HLD.out _ hS0)) ?_
      refine wpAnyIn_all (rs := [1, 3]) (fuel := 4) (by kernel_rfl) (by simp) (fun j hj => ?_)
      simp only [List.mem_cons, List.not_mem_nil, or_false] at hj
      rcases hj with rfl | rfl
      · refine opValIn 1 23 (.int .u64 (m : Int)) Wd rfl (by kernel_rfl) (by kernel_rfl) (fun _ => trivial) rfl (x_conv49 (x := .tmp 22) (p := m) (by omega) (by kernel_rfl) (by kernel_rfl)) ?_
        refine wpAnyIn_all (rs := [2, 3]) (fuel := 3) (by kernel_rfl) (by simp) (fun j hj => ?_)
        simp only [List.mem_cons, List.not_mem_nil, or_false] at hj
        rcases hj with rfl | rfl
        · refine opCallIn 2 24 62 #[.int .u64 (m : Int)] (fun u W' => Own W' Wd.heap.size u (uintB m) ∧ After Wd W') rfl (by kernel_rfl) (by kernel_rfl) (fun _ => trivial) rfl rfl (fun _ => by kernel_rfl) (callsIn_wide.2 ((uint_any m (by omega) Wd).mono (fun _ _ ⟨u, h1, h2, h3⟩ => ⟨u, h1, h2, h3⟩))) ?_
          rintro u Wdc ⟨hu, hWdc⟩
          have AWdc : After Wd Wdc := hS0.trans hWdc
          have hu1 := hu.mono hS0.size
          refine wpAnyIn_all (rs := [3]) (fuel := 2) (by kernel_rfl) (by simp) (fun j hj => ?_)
          obtain rfl : j = 3 := by simpa using hj
          refine opValIn 3 25 (.slice va lb.length vc) Wdc rfl (by kernel_rfl) (by kernel_rfl) (fun _ => trivial) rfl (x_loadT (t := 30) (x := .tmp 3) (g := w.heap.size) (j := 0) Try.underlying30 rfl (by kernel_rfl) (by kernel_rfl) (HLV.out _ AWdc)) ?_
          refine wpAnyIn_all (rs := [4]) (fuel := 1) (by kernel_rfl) (by simp) (fun j hj => ?_)
          obtain rfl : j = 4 := by simpa using hj
          refine opAppIn 4 26 (.tmp 24) (.tmp 25) rfl (by kernel_rfl) (by kernel_rfl) (fun _ => trivial) rfl (by kernel_rfl) Wd.heap.size _ (uintB m) (by kernel_rfl) hu1 va vc lb lb.length rfl (by kernel_rfl) (HAT.out _ AWdc) HBB.out AWdc.size ?_
          intro v' Wdca ho' hg'
          rw [HRB.out] at ho'
          have B' : After Wd Wdca := after_grown AWdc hg' (Nat.le_refl _) (fun k hk => (World.ownsRow.lt hu1 k hk).1)
          refine wpAnyIn_all (rs := [5]) (fuel := 0) (by kernel_rfl) (by simp) (fun j hj => ?_)
          obtain rfl : j = 5 := by simpa using hj
          refine opValIn 5 2 v' Wdca rfl (by kernel_rfl) (by kernel_rfl) (fun _ => trivial) rfl (by kernel_rfl) ?_
          refine wpAnyIn_done (by kernel_rfl) ?_ _
          have HO' := show Hid (Own _ _ v' (runsB l)) from ho'
          clear ho' hg'
          go_simp
          gi_wp2
          have hK' : Wdca.heap[D]? = some (.deferred (some [])) := (B'.block D HDL.out).trans HKD.out
          refine ⟨by simp, .inl ⟨_, _, rfl, run_takeDeferred hK', ?_⟩⟩
          exact ⟨_, results_tmp rfl _ _ _, v', rfl, ownsRow_putObj (Own.mono HO'.out HWd.out.size) _ hK' rfl, (HWd.out.trans (B'.mono HWd.out.size)).trans (belowK_b (w := w) (Nat.le_refl _) Wdca D _ _ HDW.out hK' rfl rfl)⟩
        · refine opValIn 3 25 (.slice va lb.length vc) Wd rfl (by kernel_rfl) (by kernel_rfl) (fun _ => trivial) rfl (x_loadT (t := 30) (x := .tmp 3) (g := w.heap.size) (j := 0) Try.underlying30 rfl (by kernel_rfl) (by kernel_rfl) (HLV.out _ hS0)) ?_
          refine wpAnyIn_all (rs := [2]) (fuel := 2) (by kernel_rfl) (by simp) (fun j hj => ?_)
          obtain rfl : j = 2 := by simpa using hj
          refine opCallIn 2 24 62 #[.int .u64 (m : Int)] (fun u W' => Own W' Wd.heap.size u (uintB m) ∧ After Wd W') rfl (by kernel_rfl) (by kernel_rfl) (fun _ => trivial) rfl rfl (fun _ => by kernel_rfl) (callsIn_wide.2 ((uint_any m (by omega) Wd).mono (fun _ _ ⟨u, h1, h2, h3⟩ => ⟨u, h1, h2, h3⟩))) ?_
          rintro u Wdc ⟨hu, hWdc⟩
          have AWdc : After Wd Wdc := hS0.trans hWdc
          have hu1 := hu.mono hS0.size
          refine wpAnyIn_all (rs := [4]) (fuel := 1) (by kernel_rfl) (by simp) (fun j hj => ?_)
          obtain rfl : j = 4 := by simpa using hj
          refine opAppIn 4 26 (.tmp 24) (.tmp 25) rfl (by kernel_rfl) (by kernel_rfl) (fun _ => trivial) rfl (by kernel_rfl) Wd.heap.size _ (uintB m) (by kernel_rfl) hu1 va vc lb lb.length rfl (by kernel_rfl) (HAT.out _ AWdc) HBB.out AWdc.size ?_
          intro v' Wdca ho' hg'
          rw [HRB.out] at ho'
          have B' : After Wd Wdca := after_grown AWdc hg' (Nat.le_refl _) (fun k hk => (World.ownsRow.lt hu1 k hk).1)
          refine wpAnyIn_all (rs := [5]) (fuel := 0) (by kernel_rfl) (by simp) (fun j hj => ?_)
          obtain rfl : j = 5 := by simpa using hj
          refine opValIn 5 2 v' Wdca rfl (by kernel_rfl) (by kernel_rfl) (fun _ => trivial) rfl (by kernel_rfl) ?_
          refine wpAnyIn_done (by kernel_rfl) ?_ _
          have HO' := show Hid (Own _ _ v' (runsB l)) from ho'
          clear ho' hg'
          go_simp
          gi_wp2
          have hK' : Wdca.heap[D]? = some (.deferred (some [])) := (B'.block D HDL.out).trans HKD.out
          refine ⟨by simp, .inl ⟨_, _, rfl, run_takeDeferred hK', ?_⟩⟩
          exact ⟨_, results_tmp rfl _ _ _, v', rfl, ownsRow_putObj (Own.mono HO'.out HWd.out.size) _ hK' rfl, (HWd.out.trans (B'.mono HWd.out.size)).trans (belowK_b (w := w) (Nat.le_refl _) Wdca D _ _ HDW.out hK' rfl rfl)⟩
      · refine opValIn 3 25 (.slice va lb.length vc) Wd rfl (by kernel_rfl) (by kernel_rfl) (fun _ => trivial) rfl (x_loadT (t := 30) (x := .tmp 3) (g := w.heap.size) (j := 0) Try.underlying30 rfl (by kernel_rfl) (by kernel_rfl) (HLV.out _ hS0)) ?_
        refine wpAnyIn_all (rs := [1]) (fuel := 3) (by kernel_rfl) (by simp) (fun j hj => ?_)
        obtain rfl : j = 1 := by simpa using hj
        refine opValIn 1 23 (.int .u64 (m : Int)) Wd rfl (by kernel_rfl) (by kernel_rfl) (fun _ => trivial) rfl (x_conv49 (x := .tmp 22) (p := m) (by omega) (by kernel_rfl) (by kernel_rfl)) ?_
        refine wpAnyIn_all (rs := [2]) (fuel := 2) (by kernel_rfl) (by simp) (fun j hj => ?_)
        obtain rfl : j = 2 := by simpa using hj
        refine opCallIn 2 24 62 #[.int .u64 (m : Int)] (fun u W' => Own W' Wd.heap.size u (uintB m) ∧ After Wd W') rfl (by kernel_rfl) (by kernel_rfl) (fun _ => trivial) rfl rfl (fun _ => by kernel_rfl) (callsIn_wide.2 ((uint_any m (by omega) Wd).mono (fun _ _ ⟨u, h1, h2, h3⟩ => ⟨u, h1, h2, h3⟩))) ?_
        rintro u Wdc ⟨hu, hWdc⟩
        have AWdc : After Wd Wdc := hS0.trans hWdc
        have hu1 := hu.mono hS0.size
        refine wpAnyIn_all (rs := [4]) (fuel := 1) (by kernel_rfl) (by simp) (fun j hj => ?_)
        obtain rfl : j = 4 := by simpa using hj
        refine opAppIn 4 26 (.tmp 24) (.tmp 25) rfl (by kernel_rfl) (by kernel_rfl) (fun _ => trivial) rfl (by kernel_rfl) Wd.heap.size _ (uintB m) (by kernel_rfl) hu1 va vc lb lb.length rfl (by kernel_rfl) (HAT.out _ AWdc) HBB.out AWdc.size ?_
        intro v' Wdca ho' hg'
        rw [HRB.out] at ho'
        have B' : After Wd Wdca := after_grown AWdc hg' (Nat.le_refl _) (fun k hk => (World.ownsRow.lt hu1 k hk).1)
        refine wpAnyIn_all (rs := [5]) (fuel := 0) (by kernel_rfl) (by simp) (fun j hj => ?_)
        obtain rfl : j = 5 := by simpa using hj
        refine opValIn 5 2 v' Wdca rfl (by kernel_rfl) (by kernel_rfl) (fun _ => trivial) rfl (by kernel_rfl) ?_
        refine wpAnyIn_done (by kernel_rfl) ?_ _
        have HO' := show Hid (Own _ _ v' (runsB l)) from ho'
        clear ho' hg'
        go_simp
        gi_wp2
        have hK' : Wdca.heap[D]? = some (.deferred (some [])) := (B'.block D HDL.out).trans HKD.out
        refine ⟨by simp, .inl ⟨_, _, rfl, run_takeDeferred hK', ?_⟩⟩
        exact ⟨_, results_tmp rfl _ _ _, v', rfl, ownsRow_putObj (Own.mono HO'.out HWd.out.size) _ hK' rfl, (HWd.out.trans (B'.mono HWd.out.size)).trans (belowK_b (w := w) (Nat.le_refl _) Wdca D _ _ HDW.out hK' rfl rfl)⟩
    · refine opValIn 3 25 (.slice va lb.length vc) Wd rfl (by kernel_rfl) (by kernel_rfl) (fun _ => trivial) rfl (x_loadT (t := 30) (x := .tmp 3) (g := w.heap.size) (j := 0) Try.underlying30 rfl (by kernel_rfl) (by kernel_rfl) (HLV.out _ hS0)) ?_
      refine wpAnyIn_all (rs := [0]) (fuel := 4) (by kernel_rfl) (by simp) (fun j hj => ?_)
      obtain rfl : j = 0 := by simpa using hj
      refine opValIn 0 22 (.int .i64 (m : Int)) Wd rfl (by kernel_rfl) (by kernel_rfl) (fun _ => trivial) rfl (x_loadT (t := 3) (x := .tmp 4) (g := w.heap.size + 1) (j := 0) Try.underlying3 rfl (by kernel_rfl) (by kernel_rfl) (HLD.out _ hS0)) ?_
      refine wpAnyIn_all (rs := [1]) (fuel := 3) (by kernel_rfl) (by simp) (fun j hj => ?_)
      obtain rfl : j = 1 := by simpa using hj
      refine opValIn 1 23 (.int .u64 (m : Int)) Wd rfl (by kernel_rfl) (by kernel_rfl) (fun _ => trivial) rfl (x_conv49 (x := .tmp 22) (p := m) (by omega) (by kernel_rfl) (by kernel_rfl)) ?_
      refine wpAnyIn_all (rs := [2]) (fuel := 2) (by kernel_rfl) (by simp) (fun j hj => ?_)
      obtain rfl : j = 2 := by simpa using hj
      refine opCallIn 2 24 62 #[.int .u64 (m : Int)] (fun u W' => Own W' Wd.heap.size u (uintB m) ∧ After Wd W') rfl (by kernel_rfl) (by kernel_rfl) (fun _ => trivial) rfl rfl (fun _ => by kernel_rfl) (callsIn_wide.2 ((uint_any m (by omega) Wd).mono (fun _ _ ⟨u, h1, h2, h3⟩ => ⟨u, h1, h2, h3⟩))) ?_
      rintro u Wdc ⟨hu, hWdc⟩
      have AWdc : After Wd Wdc := hS0.trans hWdc
      have hu1 := hu.mono hS0.size
      refine wpAnyIn_all (rs := [4]) (fuel := 1) (by kernel_rfl) (by simp) (fun j hj => ?_)
      obtain rfl : j = 4 := by simpa using hj
      refine opAppIn 4 26 (.tmp 24) (.tmp 25) rfl (by kernel_rfl) (by kernel_rfl) (fun _ => trivial) rfl (by kernel_rfl) Wd.heap.size _ (uintB m) (by kernel_rfl) hu1 va vc lb lb.length rfl (by kernel_rfl) (HAT.out _ AWdc) HBB.out AWdc.size ?_
      intro v' Wdca ho' hg'
      rw [HRB.out] at ho'
      have B' : After Wd Wdca := after_grown AWdc hg' (Nat.le_refl _) (fun k hk => (World.ownsRow.lt hu1 k hk).1)
      refine wpAnyIn_all (rs := [5]) (fuel := 0) (by kernel_rfl) (by simp) (fun j hj => ?_)
      obtain rfl : j = 5 := by simpa using hj
      refine opValIn 5 2 v' Wdca rfl (by kernel_rfl) (by kernel_rfl) (fun _ => trivial) rfl (by kernel_rfl) ?_
      refine wpAnyIn_done (by kernel_rfl) ?_ _
      have HO' := show Hid (Own _ _ v' (runsB l)) from ho'
      clear ho' hg'
      go_simp
      gi_wp2
      have hK' : Wdca.heap[D]? = some (.deferred (some [])) := (B'.block D HDL.out).trans HKD.out
      refine ⟨by simp, .inl ⟨_, _, rfl, run_takeDeferred hK', ?_⟩⟩
      exact ⟨_, results_tmp rfl _ _ _, v', rfl, ownsRow_putObj (Own.mono HO'.out HWd.out.size) _ hK' rfl, (HWd.out.trans (B'.mono HWd.out.size)).trans (belowK_b (w := w) (Nat.le_refl _) Wdca D _ _ HDW.out hK' rfl rfl)⟩
  case stop =>
    rintro D c pre W _ _ h _
    exact h.elim
end Go.Proofs.Ytpplnomomcdemaa
