/-
  THE WALK OF column.Flags.
-/
import Derived.Test.YtjmflggnnchojaaFlagsKit
namespace Go.Proofs.Ytjmflggnnchojaa
open Go.RowKit Go.Shelf Leb
attribute [local go_sem] Oper.semAt_some
set_option maxRecDepth 100000 in
set_option maxHeartbeats 4000000 in
theorem flags_nil (ao : Option Addr) (cap : Nat) (w : World) :
    CallsIn Fence.wide 4 Try.prog 16 #[(.slice ao 0 cap)] w fun e W' => ∃ v, e = .returned v ∧ Own W' w.heap.size v (flagsB ([] : List Bool)) ∧ After w W' := by
  have hn : ([] : List Bool).length ≤ 1048576 := by simp
  have hpfx : ∀ n ∈ ([] : List Nat), n ≤ 1048576 := by simp
  have hpfl : ([] : List Nat).length ≤ 1 := by simp
  have hpfe : (if (([] : List Bool)).head? = some true then [0] else []) = ([] : List Nat) := by rfl
  refine callsIn_of_wp_marks Try.func16 rfl trivial ?_ rfl
  simp only [Try.ntmps16, List.size_toArray, List.length_cons, List.length_nil, Nat.reduceAdd, Nat.reduceSub, Array.replicate_succ, Array.replicate_zero, List.push_toArray, List.append_toArray, List.nil_append, List.cons_append]
  gi_wp2_with (refine ⟨trivial, ?_⟩; gi_at_call 32; refine (runsOfB_any _ _ ⟨_, _, _, rfl⟩).mono ?_; rintro e w' ⟨rfl, rfl⟩)
  obtain ⟨W0, hW0⟩ : ∃ W0, ((w.alloc (.cells #[.slice none 0 0] 23)).alloc (.cells #[.int .i64 0] 3)).alloc (.cells #[(.slice ao 0 cap)] 28) = W0 := ⟨_, rfl⟩
  have hsz : W0.heap.size = w.heap.size + 3 := by rw [← hW0]; simp
  have hB0 : Below w.heap.size w W0 := by rw [← hW0]; exact (((Below.refl _ w).alloc (Nat.le_refl _) _).alloc (by simp) _).alloc (by simp; omega) _
  have bL : Boxed W0 w.heap.size 23 (.slice none 0 0) := by rw [← hW0]; exact ((Boxed.new w 23 _).alloc _).alloc _
  have bR : Boxed W0 (w.heap.size + 1) 3 (.int .i64 ((([] : List Nat).length + ([] : List RunB).length : Nat) : Int)) := by
    rw [← hW0]
    have := Boxed.new (w.alloc (.cells #[.slice none 0 0] 23)) 3 (.int .i64 0)
    rw [World.size_alloc] at this
    exact this.alloc _
  have bS : Boxed W0 (w.heap.size + 2) 28 (.slice ao 0 cap) := by
    rw [← hW0]
    have := Boxed.new ((w.alloc (.cells #[.slice none 0 0] 23)).alloc (.cells #[.int .i64 0] 3)) 28 (.slice ao 0 cap)
    rw [World.size_alloc, World.size_alloc] at this
    exact this
  have hO0 : Own W0 w.heap.size (.slice none 0 0) (laidU (([] : List Nat) ++ ([] : List RunB).map (·.1.2))) := Own.nil _ _
  have hBs1 : w.heap.size + 1 < w.heap.size + 2 := by omega
  simp only [hW0]
  have hI0 : BoolsAt W0 ao [] := fun h => absurd rfl h
  have hlt0 : ∀ a, ao = some a → ([] : List Bool) ≠ [] → a.block < w.heap.size := fun _ _ h => absurd rfl h
  refine wpIn_rangeFunc_ownG rfl (by omega) (gf := 41) (lb := #[.pointer (some ⟨(w.heap.size + 2), 0, none⟩)]) rfl trivial (enters_of Try.func41 (by kernel_rfl) rfl)
    (runsB_stops (w.heap.size + 2) w.heap.size cap _ ([] : List Bool) hn W0 bS.lt hB0.size bS.cell hI0 hlt0) Kb.trans (fun W lp o o' h1 h2 h3 h4 => ⟨belowK_b hB0.size W lp o o' h1 h2 h3 h4, World.putObj_heap_other (by have := bS.lt; omega)⟩) (Below.refl _ _) (fun _ => rfl)
    (fun pre W => (∃ v, Boxed W w.heap.size 23 v ∧ Own W w.heap.size v (laidU (([] : List Nat) ++ pre.map (·.1.2)))) ∧ Boxed W (w.heap.size + 1) 3 (.int .i64 ((([] : List Nat).length + pre.length : Nat) : Int)) ∧ Boxed W (w.heap.size + 2) 28 (.slice ao 0 cap) ∧ Below w.heap.size w W)
    (fun _ _ _ => False)
    (fun pre W W' row hs hg hr => by
      have hne : ∀ {g : Nat} {t : TypeId} {u : Value}, Boxed W g t u → some g ≠ row := fun hb e => by
        obtain ⟨_, o, ho, hc⟩ := hr _ e.symm
        rw [show W.heap[_]? = _ from hb] at ho; cases ho; cases hc
      obtain ⟨⟨v, h1, h2⟩, h3, h4, h5⟩ := hs
      refine ⟨⟨v, h1.kept hg (hne h1), Own.keep' h2 (fun g e => ?_)⟩, h3.kept hg (hne h3), h4.kept hg (hne h4), h5.grown hg h5.size (fun k e => Nat.le_trans hB0.size (hr k e).1)⟩
      obtain ⟨c, t, f, hc⟩ := own_cells h2 e
      exact hg.block g (Array.getElem?_eq_some_iff.1 hc).1 (fun e' => by obtain ⟨_, o, ho, hc'⟩ := hr g e'.symm; rw [hc] at ho; cases ho; cases hc'))
    (fun _ _ _ _ _ hs _ _ => hs)
    ⟨⟨_, bL, hO0⟩, bR, bS, hB0⟩
    (fun x => { tmps := #[(.slice ao 0 cap), undef, (.slice none 0 0), (.pointer (some ⟨w.heap.size, 0, none⟩)), (.pointer (some ⟨w.heap.size + 1, 0, none⟩)), undef, (.int .i64 (x.1.2 : Int)), (.slice ao 0 cap), (.int .i64 0), (.bool false), (.bool false), undef, undef, undef, (.bool false), undef, undef, undef, undef, undef, (.slice ao 0 cap), (.func (.func 41) #[] #[.pointer (some ⟨w.heap.size + 2, 0, none⟩)]), (.bool x.1.1), (.int .i64 (x.1.2 : Int)), undef, undef, undef, undef, undef, undef, undef, undef, undef, undef, undef, undef], defers := [] }) ?assign ?body ?done ?stop
  case assign =>
    intro lp x W K hK
    gi_wp2
    exact hK
  case body =>
    rintro lp pre x W ⟨⟨v, h1, h2⟩, h3, h4, h5⟩ hltN
    have hc := h3.cell
    have hf := h3.frozen
    have K0 : RB w W0.heap.size (w.heap.size + 2) (.slice ao 0 cap) W W v (laidU (([] : List Nat) ++ pre.map (·.1.2))) (([] : List Nat).length + pre.length) := ⟨h1, h3, h4, h2, h5, KeepsFrom.refl _ _, Kb.refl _ _ _⟩
    have K1 := show Hid _ from RB.count hBs1 K0
    have hpl : pre.length ≤ 1048576 := by omega
    have HB1 : Hid ((laidU (([] : List Nat) ++ pre.map (·.1.2))).length + (uintB x.1.2).length ≤ 140737488355328) := by
      have h6 := laidU_len (([] : List Nat) ++ pre.map (·.1.2)) (fun n hn => by
        rcases List.mem_append.1 hn with h | h
        · exact hpfx n h
        · obtain ⟨y, _, rfl⟩ := List.mem_map.1 h; exact y.2)
      have h7 := uintB_len10 x.1.2 (by have := x.2; omega)
      unfold Hid
      simp only [List.length_append, List.length_map] at h6
      have := hpfl
      omega
    obtain ⟨f1, HF1⟩ : ∃ f, Hid ((laidU (([] : List Nat) ++ pre.map (·.1.2))) ++ uintB x.1.2 = f) := ⟨_, rfl⟩
    have HPL : Hid (([] : List Nat).length + (pre ++ [x]).length = ([] : List Nat).length + pre.length + 1) := by unfold Hid; simp only [List.length_append, List.length_cons, List.length_nil]; omega
    generalize hmm : ([] : List Nat).length + pre.length = mm at *
    clear h1 h2 h3 h4 h5 K0
    gi_wp2
    refine wpIn_region_any (by kernel_rfl) ?_
    refine with_world (p := fun W' => wpAnyIn _ _ _ _ _ _ _ _ _ W') (fun W' => RB w W0.heap.size (w.heap.size + 2) (.slice ao 0 cap) W W' v (laidU (([] : List Nat) ++ pre.map (·.1.2))) (mm + 1)) K1.out.drew ?_
    clear K1 hc hf
    intro Wd Kd
    refine wpAnyIn_all (rs := [0, 1]) (fuel := 5) (by kernel_rfl) (by simp) (fun j hj => ?_)
    simp only [List.mem_cons, List.not_mem_nil, or_false] at hj
    rcases hj with rfl | rfl
    · refine opValIn 0 26 v Wd rfl (by kernel_rfl) (by kernel_rfl) (fun _ => trivial) (Oper.semAt_plain _ _ _ (fun _ h => by cases h)) (x_loadT (t := 23) (x := .tmp 3) (g := w.heap.size) (j := 0) Try.underlying23 rfl (by kernel_rfl) (by kernel_rfl) Kd.bl.cell) ?_
      refine wpAnyIn_all (rs := [1]) (fuel := 4) (by kernel_rfl) (by simp) (fun j hj => ?_)
      obtain rfl : j = 1 := by simpa using hj
      refine opValIn 1 27 (.int .i64 (x.1.2 : Int)) Wd rfl (by kernel_rfl) (by kernel_rfl) (fun _ => trivial) (Oper.semAt_plain _ _ _ (fun _ h => by cases h)) (by kernel_rfl) ?_
      refine wpAnyIn_all (rs := [2]) (fuel := 3) (by kernel_rfl) (by simp) (fun j hj => ?_)
      obtain rfl : j = 2 := by simpa using hj
      refine opValIn 2 28 (.int .u64 (x.1.2 : Int)) Wd rfl (by kernel_rfl) (by kernel_rfl) (fun _ => trivial) (Oper.semAt_plain _ _ _ (fun _ h => by cases h)) (x_conv49 (x := .tmp 27) (p := x.1.2) (by have := x.2; omega) (by kernel_rfl) (by kernel_rfl)) ?_
      refine wpAnyIn_all (rs := [3]) (fuel := 2) (by kernel_rfl) (by simp) (fun j hj => ?_)
      obtain rfl : j = 3 := by simpa using hj
      refine opCallIn 3 29 26 #[.int .u64 (x.1.2 : Int)] (fun u W' => Own W' Wd.heap.size u (uintB x.1.2) ∧ After Wd W') rfl (by kernel_rfl) (by kernel_rfl) (fun _ => trivial) rfl (Oper.semAt_plain _ _ _ (fun _ h => by cases h)) (fun _ => by kernel_rfl) (CallsIn.inRound lp (callsIn_wide.2 ((uint_any x.1.2 (by have := x.2; omega) Wd).mono (fun _ _ ⟨u, h1, h2, h3⟩ => ⟨u, h1, h2, h3⟩)))) ?_
      rintro u Wdc ⟨hu, hWdc⟩
      obtain ⟨ua, uc, rfl, hua, _, _⟩ := hu.at
      have KWdc := Kd.after hWdc
      refine wpAnyIn_all (rs := [4]) (fuel := 1) (by kernel_rfl) (by simp) (fun j hj => ?_)
      obtain rfl : j = 4 := by simpa using hj
      refine opAppIn 4 30 (.tmp 26) (.tmp 29) rfl (by kernel_rfl) (by kernel_rfl) (fun _ => trivial) (Oper.semAt_plain _ _ _ (fun _ h => by cases h)) (by kernel_rfl) w.heap.size _ (laidU (([] : List Nat) ++ pre.map (·.1.2))) (by kernel_rfl) KWdc.own ua uc (uintB x.1.2) ((uintB x.1.2)).length rfl (by kernel_rfl) hua HB1.out KWdc.bel.size ?_
      intro v' Wdca ho' hg'
      rw [HF1.out] at ho'
      have AWdca := KWdc.app ho' hg' (.inr trivial)
      obtain ⟨va, vc, rfl, _, _, _⟩ := ho'.at
      refine wpAnyIn_all (rs := [5]) (fuel := 0) (by kernel_rfl) (by simp) (fun j hj => ?_)
      obtain rfl : j = 5 := by simpa using hj
      refine opStoreIn 5 23 (.tmp 3) (.tmp 30) w.heap.size va f1.length vc _ rfl (by kernel_rfl) (by kernel_rfl) (by kernel_rfl) (fun _ => trivial) (Oper.semAt_plain _ _ _ (fun _ h => by cases h)) (by kernel_rfl) (by kernel_rfl) AWdca.1 ?_
      have KE := RB.store hBs1 AWdca ho'
      refine wpAnyIn_done (by kernel_rfl) ?_ _
      exact ⟨KE.kf, KE.kb, ⟨⟨_, KE.bl, by rw [laidU_snoc, HF1.out]; exact KE.own⟩, by rw [HPL.out]; exact KE.br, KE.bs, KE.bel⟩⟩
    · refine opValIn 1 27 (.int .i64 (x.1.2 : Int)) Wd rfl (by kernel_rfl) (by kernel_rfl) (fun _ => trivial) (Oper.semAt_plain _ _ _ (fun _ h => by cases h)) (by kernel_rfl) ?_
      refine wpAnyIn_all (rs := [0, 2]) (fuel := 4) (by kernel_rfl) (by simp) (fun j hj => ?_)
      simp only [List.mem_cons, List.not_mem_nil, or_false] at hj
      rcases hj with rfl | rfl
      · refine opValIn 0 26 v Wd rfl (by kernel_rfl) (by kernel_rfl) (fun _ => trivial) (Oper.semAt_plain _ _ _ (fun _ h => by cases h)) (x_loadT (t := 23) (x := .tmp 3) (g := w.heap.size) (j := 0) Try.underlying23 rfl (by kernel_rfl) (by kernel_rfl) Kd.bl.cell) ?_
        refine wpAnyIn_all (rs := [2]) (fuel := 3) (by kernel_rfl) (by simp) (fun j hj => ?_)
        obtain rfl : j = 2 := by simpa using hj
        refine opValIn 2 28 (.int .u64 (x.1.2 : Int)) Wd rfl (by kernel_rfl) (by kernel_rfl) (fun _ => trivial) (Oper.semAt_plain _ _ _ (fun _ h => by cases h)) (x_conv49 (x := .tmp 27) (p := x.1.2) (by have := x.2; omega) (by kernel_rfl) (by kernel_rfl)) ?_
        refine wpAnyIn_all (rs := [3]) (fuel := 2) (by kernel_rfl) (by simp) (fun j hj => ?_)
        obtain rfl : j = 3 := by simpa using hj
        refine opCallIn 3 29 26 #[.int .u64 (x.1.2 : Int)] (fun u W' => Own W' Wd.heap.size u (uintB x.1.2) ∧ After Wd W') rfl (by kernel_rfl) (by kernel_rfl) (fun _ => trivial) rfl (Oper.semAt_plain _ _ _ (fun _ h => by cases h)) (fun _ => by kernel_rfl) (CallsIn.inRound lp (callsIn_wide.2 ((uint_any x.1.2 (by have := x.2; omega) Wd).mono (fun _ _ ⟨u, h1, h2, h3⟩ => ⟨u, h1, h2, h3⟩)))) ?_
        rintro u Wdc ⟨hu, hWdc⟩
        obtain ⟨ua, uc, rfl, hua, _, _⟩ := hu.at
        have KWdc := Kd.after hWdc
        refine wpAnyIn_all (rs := [4]) (fuel := 1) (by kernel_rfl) (by simp) (fun j hj => ?_)
        obtain rfl : j = 4 := by simpa using hj
        refine opAppIn 4 30 (.tmp 26) (.tmp 29) rfl (by kernel_rfl) (by kernel_rfl) (fun _ => trivial) (Oper.semAt_plain _ _ _ (fun _ h => by cases h)) (by kernel_rfl) w.heap.size _ (laidU (([] : List Nat) ++ pre.map (·.1.2))) (by kernel_rfl) KWdc.own ua uc (uintB x.1.2) ((uintB x.1.2)).length rfl (by kernel_rfl) hua HB1.out KWdc.bel.size ?_
        intro v' Wdca ho' hg'
        rw [HF1.out] at ho'
        have AWdca := KWdc.app ho' hg' (.inr trivial)
        obtain ⟨va, vc, rfl, _, _, _⟩ := ho'.at
        refine wpAnyIn_all (rs := [5]) (fuel := 0) (by kernel_rfl) (by simp) (fun j hj => ?_)
        obtain rfl : j = 5 := by simpa using hj
        refine opStoreIn 5 23 (.tmp 3) (.tmp 30) w.heap.size va f1.length vc _ rfl (by kernel_rfl) (by kernel_rfl) (by kernel_rfl) (fun _ => trivial) (Oper.semAt_plain _ _ _ (fun _ h => by cases h)) (by kernel_rfl) (by kernel_rfl) AWdca.1 ?_
        have KE := RB.store hBs1 AWdca ho'
        refine wpAnyIn_done (by kernel_rfl) ?_ _
        exact ⟨KE.kf, KE.kb, ⟨⟨_, KE.bl, by rw [laidU_snoc, HF1.out]; exact KE.own⟩, by rw [HPL.out]; exact KE.br, KE.bs, KE.bel⟩⟩
      · refine opValIn 2 28 (.int .u64 (x.1.2 : Int)) Wd rfl (by kernel_rfl) (by kernel_rfl) (fun _ => trivial) (Oper.semAt_plain _ _ _ (fun _ h => by cases h)) (x_conv49 (x := .tmp 27) (p := x.1.2) (by have := x.2; omega) (by kernel_rfl) (by kernel_rfl)) ?_
        refine wpAnyIn_all (rs := [0, 3]) (fuel := 3) (by kernel_rfl) (by simp) (fun j hj => ?_)
        simp only [List.mem_cons, List.not_mem_nil, or_false] at hj
        rcases hj with rfl | rfl
        · refine opValIn 0 26 v Wd rfl (by kernel_rfl) (by kernel_rfl) (fun _ => trivial) (Oper.semAt_plain _ _ _ (fun _ h => by cases h)) (x_loadT (t := 23) (x := .tmp 3) (g := w.heap.size) (j := 0) Try.underlying23 rfl (by kernel_rfl) (by kernel_rfl) Kd.bl.cell) ?_
          refine wpAnyIn_all (rs := [3]) (fuel := 2) (by kernel_rfl) (by simp) (fun j hj => ?_)
          obtain rfl : j = 3 := by simpa using hj
          refine opCallIn 3 29 26 #[.int .u64 (x.1.2 : Int)] (fun u W' => Own W' Wd.heap.size u (uintB x.1.2) ∧ After Wd W') rfl (by kernel_rfl) (by kernel_rfl) (fun _ => trivial) rfl (Oper.semAt_plain _ _ _ (fun _ h => by cases h)) (fun _ => by kernel_rfl) (CallsIn.inRound lp (callsIn_wide.2 ((uint_any x.1.2 (by have := x.2; omega) Wd).mono (fun _ _ ⟨u, h1, h2, h3⟩ => ⟨u, h1, h2, h3⟩)))) ?_
          rintro u Wdc ⟨hu, hWdc⟩
          obtain ⟨ua, uc, rfl, hua, _, _⟩ := hu.at
          have KWdc := Kd.after hWdc
          refine wpAnyIn_all (rs := [4]) (fuel := 1) (by kernel_rfl) (by simp) (fun j hj => ?_)
          obtain rfl : j = 4 := by simpa using hj
          refine opAppIn 4 30 (.tmp 26) (.tmp 29) rfl (by kernel_rfl) (by kernel_rfl) (fun _ => trivial) (Oper.semAt_plain _ _ _ (fun _ h => by cases h)) (by kernel_rfl) w.heap.size _ (laidU (([] : List Nat) ++ pre.map (·.1.2))) (by kernel_rfl) KWdc.own ua uc (uintB x.1.2) ((uintB x.1.2)).length rfl (by kernel_rfl) hua HB1.out KWdc.bel.size ?_
          intro v' Wdca ho' hg'
          rw [HF1.out] at ho'
          have AWdca := KWdc.app ho' hg' (.inr trivial)
          obtain ⟨va, vc, rfl, _, _, _⟩ := ho'.at
          refine wpAnyIn_all (rs := [5]) (fuel := 0) (by kernel_rfl) (by simp) (fun j hj => ?_)
          obtain rfl : j = 5 := by simpa using hj
          refine opStoreIn 5 23 (.tmp 3) (.tmp 30) w.heap.size va f1.length vc _ rfl (by kernel_rfl) (by kernel_rfl) (by kernel_rfl) (fun _ => trivial) (Oper.semAt_plain _ _ _ (fun _ h => by cases h)) (by kernel_rfl) (by kernel_rfl) AWdca.1 ?_
          have KE := RB.store hBs1 AWdca ho'
          refine wpAnyIn_done (by kernel_rfl) ?_ _
          exact ⟨KE.kf, KE.kb, ⟨⟨_, KE.bl, by rw [laidU_snoc, HF1.out]; exact KE.own⟩, by rw [HPL.out]; exact KE.br, KE.bs, KE.bel⟩⟩
        · refine opCallIn 3 29 26 #[.int .u64 (x.1.2 : Int)] (fun u W' => Own W' Wd.heap.size u (uintB x.1.2) ∧ After Wd W') rfl (by kernel_rfl) (by kernel_rfl) (fun _ => trivial) rfl (Oper.semAt_plain _ _ _ (fun _ h => by cases h)) (fun _ => by kernel_rfl) (CallsIn.inRound lp (callsIn_wide.2 ((uint_any x.1.2 (by have := x.2; omega) Wd).mono (fun _ _ ⟨u, h1, h2, h3⟩ => ⟨u, h1, h2, h3⟩)))) ?_
          rintro u Wdc ⟨hu, hWdc⟩
          obtain ⟨ua, uc, rfl, hua, _, _⟩ := hu.at
          have KWdc := Kd.after hWdc
          refine wpAnyIn_all (rs := [0]) (fuel := 2) (by kernel_rfl) (by simp) (fun j hj => ?_)
          obtain rfl : j = 0 := by simpa using hj
          refine opValIn 0 26 v Wdc rfl (by kernel_rfl) (by kernel_rfl) (fun _ => trivial) (Oper.semAt_plain _ _ _ (fun _ h => by cases h)) (x_loadT (t := 23) (x := .tmp 3) (g := w.heap.size) (j := 0) Try.underlying23 rfl (by kernel_rfl) (by kernel_rfl) KWdc.bl.cell) ?_
          refine wpAnyIn_all (rs := [4]) (fuel := 1) (by kernel_rfl) (by simp) (fun j hj => ?_)
          obtain rfl : j = 4 := by simpa using hj
          refine opAppIn 4 30 (.tmp 26) (.tmp 29) rfl (by kernel_rfl) (by kernel_rfl) (fun _ => trivial) (Oper.semAt_plain _ _ _ (fun _ h => by cases h)) (by kernel_rfl) w.heap.size _ (laidU (([] : List Nat) ++ pre.map (·.1.2))) (by kernel_rfl) KWdc.own ua uc (uintB x.1.2) ((uintB x.1.2)).length rfl (by kernel_rfl) hua HB1.out KWdc.bel.size ?_
          intro v' Wdca ho' hg'
          rw [HF1.out] at ho'
          have AWdca := KWdc.app ho' hg' (.inr trivial)
          obtain ⟨va, vc, rfl, _, _, _⟩ := ho'.at
          refine wpAnyIn_all (rs := [5]) (fuel := 0) (by kernel_rfl) (by simp) (fun j hj => ?_)
          obtain rfl : j = 5 := by simpa using hj
          refine opStoreIn 5 23 (.tmp 3) (.tmp 30) w.heap.size va f1.length vc _ rfl (by kernel_rfl) (by kernel_rfl) (by kernel_rfl) (fun _ => trivial) (Oper.semAt_plain _ _ _ (fun _ h => by cases h)) (by kernel_rfl) (by kernel_rfl) AWdca.1 ?_
          have KE := RB.store hBs1 AWdca ho'
          refine wpAnyIn_done (by kernel_rfl) ?_ _
          exact ⟨KE.kf, KE.kb, ⟨⟨_, KE.bl, by rw [laidU_snoc, HF1.out]; exact KE.own⟩, by rw [HPL.out]; exact KE.br, KE.bs, KE.bel⟩⟩
  case done =>
    rintro D ys W hD hys ⟨⟨v, h1, h2⟩, h3, h4, h5⟩ hK
    have hfl : ([] : List Nat) ++ ys.map (·.1.2) = flagLens ([] : List Bool) := by
      have := congrArg (List.map (·.2)) hys
      rw [List.map_map] at this
      unfold flagLens
      rw [← this, hpfe]
      rfl
    have hm : ([] : List Nat).length + ys.length = (flagLens ([] : List Bool)).length := by rw [← hfl]; simp only [List.length_append, List.length_map]
    have hml := runs_len ([] : List Bool)
    have hyl : ys.length = (runs ([] : List Bool)).length := by rw [← hys]; simp
    have h20 := laidU_len (flagLens ([] : List Bool)) (fun n hn => by
      rw [← hfl] at hn
      rcases List.mem_append.1 hn with h | h
      · exact hpfx n h
      · obtain ⟨y, _, rfl⟩ := List.mem_map.1 h; exact y.2)
    obtain ⟨m, hmm⟩ : ∃ m, ([] : List Nat).length + ys.length = m := ⟨_, rfl⟩
    have bm : m ≤ 1048577 := by have := hpfl; omega
    rw [hfl] at h2
    rw [hmm] at h3 hm
    rw [← hm] at h20
    obtain ⟨lb, HLB⟩ : ∃ x, Hid (laidU (flagLens ([] : List Bool)) = x) := ⟨_, rfl⟩
    rw [HLB.out] at h2 h20
    have HRB : Hid (uintB m ++ lb = flagsB ([] : List Bool)) := by unfold Hid flagsB; rw [hm, HLB.out]
    have HBB : Hid ((uintB m).length + lb.length ≤ 140737488355328) := by have := uintB_len10 m (by omega); unfold Hid; omega
    obtain ⟨va, vc, rfl, hat, _, _⟩ := h2.at
    have HAT0 := show Hid (BytesAt W va lb) from hat
    have HWW : Hid (Below w.heap.size w W) := h5
    have HKD0 : Hid (W.heap[D]? = some (.deferred (some []))) := hK
    have HDW : Hid (w.heap.size ≤ D) := Nat.le_trans hB0.size hD
    have H1 := show Hid (Boxed W w.heap.size 23 (.slice va lb.length vc)) from h1
    have H3 := show Hid (Boxed W (w.heap.size + 1) 3 (.int .i64 (m : Int))) from h3
    clear h1 h2 h3 h4 h5 hK hat hD h20 hm hml hmm hys hfl hyl
    gi_wp2
    refine wpIn_region_any (by kernel_rfl) ?_
    refine with_world (p := fun W' => wpAnyIn _ _ _ _ _ _ _ _ _ W') (fun W' => After W W') (After.drew (After.refl W)) ?_
    intro Wd hWd
    have HLD : Hid (∀ W', After Wd W' → W'.cell? ⟨w.heap.size + 1, 0, none⟩ = some (.int .i64 (m : Int))) := fun W' hA => (Below.cell (hWd.trans hA) (p := ⟨w.heap.size + 1, 0, none⟩) H3.out.lt).trans H3.out.cell
    have HLV : Hid (∀ W', After Wd W' → W'.cell? ⟨w.heap.size, 0, none⟩ = some (.slice va lb.length vc)) := fun W' hA => (Below.cell (hWd.trans hA) (p := ⟨w.heap.size, 0, none⟩) H1.out.lt).trans H1.out.cell
    have HAT : Hid (∀ W', After Wd W' → BytesAt W' va lb) := fun W' hA => HAT0.out.after (hWd.trans hA)
    have hDl : D < W.heap.size := (Array.getElem?_eq_some_iff.1 HKD0.out).1
    have HKD : Hid (Wd.heap[D]? = some (.deferred (some []))) := (hWd.block D hDl).trans HKD0.out
    have HDL : Hid (D < Wd.heap.size) := Nat.lt_of_lt_of_le hDl hWd.size
    have HWd : Hid (Below w.heap.size w Wd) := HWW.out.trans (Below.mono hWd HWW.out.size)
    have hS0 : After Wd Wd := After.refl Wd
    refine wpAnyIn_all (rs := [0, 3]) (fuel := 5) (by kernel_rfl) (by simp) (fun j hj => ?_)
    simp only [List.mem_cons, List.not_mem_nil, or_false] at hj
    rcases hj with rfl | rfl
    · refine opValIn 0 31 (.int .i64 (m : Int)) Wd rfl (by kernel_rfl) (by kernel_rfl) (fun _ => trivial) rfl (x_loadT (t := 3) (x := .tmp 4) (g := w.heap.size + 1) (j := 0) Try.underlying3 rfl (by kernel_rfl) (by kernel_rfl) (HLD.out _ hS0)) ?_
      refine wpAnyIn_all (rs := [1, 3]) (fuel := 4) (by kernel_rfl) (by simp) (fun j hj => ?_)
      simp only [List.mem_cons, List.not_mem_nil, or_false] at hj
      rcases hj with rfl | rfl
      · refine opValIn 1 32 (.int .u64 (m : Int)) Wd rfl (by kernel_rfl) (by kernel_rfl) (fun _ => trivial) rfl (x_conv49 (x := .tmp 31) (p := m) (by omega) (by kernel_rfl) (by kernel_rfl)) ?_
        refine wpAnyIn_all (rs := [2, 3]) (fuel := 3) (by kernel_rfl) (by simp) (fun j hj => ?_)
        simp only [List.mem_cons, List.not_mem_nil, or_false] at hj
        rcases hj with rfl | rfl
        · refine opCallIn 2 33 26 #[.int .u64 (m : Int)] (fun u W' => Own W' Wd.heap.size u (uintB m) ∧ After Wd W') rfl (by kernel_rfl) (by kernel_rfl) (fun _ => trivial) rfl rfl (fun _ => by kernel_rfl) (callsIn_wide.2 ((uint_any m (by omega) Wd).mono (fun _ _ ⟨u, h1, h2, h3⟩ => ⟨u, h1, h2, h3⟩))) ?_
          rintro u Wdc ⟨hu, hWdc⟩
          have AWdc : After Wd Wdc := hS0.trans hWdc
          have hu1 := hu.mono hS0.size
          refine wpAnyIn_all (rs := [3]) (fuel := 2) (by kernel_rfl) (by simp) (fun j hj => ?_)
          obtain rfl : j = 3 := by simpa using hj
          refine opValIn 3 34 (.slice va lb.length vc) Wdc rfl (by kernel_rfl) (by kernel_rfl) (fun _ => trivial) rfl (x_loadT (t := 23) (x := .tmp 3) (g := w.heap.size) (j := 0) Try.underlying23 rfl (by kernel_rfl) (by kernel_rfl) (HLV.out _ AWdc)) ?_
          refine wpAnyIn_all (rs := [4]) (fuel := 1) (by kernel_rfl) (by simp) (fun j hj => ?_)
          obtain rfl : j = 4 := by simpa using hj
          refine opAppIn 4 35 (.tmp 33) (.tmp 34) rfl (by kernel_rfl) (by kernel_rfl) (fun _ => trivial) rfl (by kernel_rfl) Wd.heap.size _ (uintB m) (by kernel_rfl) hu1 va vc lb lb.length rfl (by kernel_rfl) (HAT.out _ AWdc) HBB.out AWdc.size ?_
          intro v' Wdca ho' hg'
          rw [HRB.out] at ho'
          have B' : After Wd Wdca := after_grown AWdc hg' (Nat.le_refl _) (fun k hk => (World.ownsRow.lt hu1 k hk).1)
          refine wpAnyIn_all (rs := [5]) (fuel := 0) (by kernel_rfl) (by simp) (fun j hj => ?_)
          obtain rfl : j = 5 := by simpa using hj
          refine opValIn 5 2 v' Wdca rfl (by kernel_rfl) (by kernel_rfl) (fun _ => trivial) rfl (by kernel_rfl) ?_
          refine wpAnyIn_done (by kernel_rfl) ?_ _
          have HO' := show Hid (Own _ _ v' (flagsB ([] : List Bool))) from ho'
          clear ho' hg'
          go_simp
          gi_wp2
          have hK' : Wdca.heap[D]? = some (.deferred (some [])) := (B'.block D HDL.out).trans HKD.out
          refine ⟨by simp, .inl ⟨_, _, rfl, run_takeDeferred hK', ?_⟩⟩
          exact ⟨_, results_tmp rfl _ _ _, v', rfl, ownsRow_putObj (Own.mono HO'.out HWd.out.size) _ hK' rfl, (HWd.out.trans (B'.mono HWd.out.size)).trans (belowK_b (w := w) (Nat.le_refl _) Wdca D _ _ HDW.out hK' rfl rfl)⟩
        · refine opValIn 3 34 (.slice va lb.length vc) Wd rfl (by kernel_rfl) (by kernel_rfl) (fun _ => trivial) rfl (x_loadT (t := 23) (x := .tmp 3) (g := w.heap.size) (j := 0) Try.underlying23 rfl (by kernel_rfl) (by kernel_rfl) (HLV.out _ hS0)) ?_
          refine wpAnyIn_all (rs := [2]) (fuel := 2) (by kernel_rfl) (by simp) (fun j hj => ?_)
          obtain rfl : j = 2 := by simpa using hj
          refine opCallIn 2 33 26 #[.int .u64 (m : Int)] (fun u W' => Own W' Wd.heap.size u (uintB m) ∧ After Wd W') rfl (by kernel_rfl) (by kernel_rfl) (fun _ => trivial) rfl rfl (fun _ => by kernel_rfl) (callsIn_wide.2 ((uint_any m (by omega) Wd).mono (fun _ _ ⟨u, h1, h2, h3⟩ => ⟨u, h1, h2, h3⟩))) ?_
          rintro u Wdc ⟨hu, hWdc⟩
          have AWdc : After Wd Wdc := hS0.trans hWdc
          have hu1 := hu.mono hS0.size
          refine wpAnyIn_all (rs := [4]) (fuel := 1) (by kernel_rfl) (by simp) (fun j hj => ?_)
          obtain rfl : j = 4 := by simpa using hj
          refine opAppIn 4 35 (.tmp 33) (.tmp 34) rfl (by kernel_rfl) (by kernel_rfl) (fun _ => trivial) rfl (by kernel_rfl) Wd.heap.size _ (uintB m) (by kernel_rfl) hu1 va vc lb lb.length rfl (by kernel_rfl) (HAT.out _ AWdc) HBB.out AWdc.size ?_
          intro v' Wdca ho' hg'
          rw [HRB.out] at ho'
          have B' : After Wd Wdca := after_grown AWdc hg' (Nat.le_refl _) (fun k hk => (World.ownsRow.lt hu1 k hk).1)
          refine wpAnyIn_all (rs := [5]) (fuel := 0) (by kernel_rfl) (by simp) (fun j hj => ?_)
          obtain rfl : j = 5 := by simpa using hj
          refine opValIn 5 2 v' Wdca rfl (by kernel_rfl) (by kernel_rfl) (fun _ => trivial) rfl (by kernel_rfl) ?_
          refine wpAnyIn_done (by kernel_rfl) ?_ _
          have HO' := show Hid (Own _ _ v' (flagsB ([] : List Bool))) from ho'
          clear ho' hg'
          go_simp
          gi_wp2
          have hK' : Wdca.heap[D]? = some (.deferred (some [])) := (B'.block D HDL.out).trans HKD.out
          refine ⟨by simp, .inl ⟨_, _, rfl, run_takeDeferred hK', ?_⟩⟩
          exact ⟨_, results_tmp rfl _ _ _, v', rfl, ownsRow_putObj (Own.mono HO'.out HWd.out.size) _ hK' rfl, (HWd.out.trans (B'.mono HWd.out.size)).trans (belowK_b (w := w) (Nat.le_refl _) Wdca D _ _ HDW.out hK' rfl rfl)⟩
      · refine opValIn 3 34 (.slice va lb.length vc) Wd rfl (by kernel_rfl) (by kernel_rfl) (fun _ => trivial) rfl (x_loadT (t := 23) (x := .tmp 3) (g := w.heap.size) (j := 0) Try.underlying23 rfl (by kernel_rfl) (by kernel_rfl) (HLV.out _ hS0)) ?_
        refine wpAnyIn_all (rs := [1]) (fuel := 3) (by kernel_rfl) (by simp) (fun j hj => ?_)
        obtain rfl : j = 1 := by simpa using hj
        refine opValIn 1 32 (.int .u64 (m : Int)) Wd rfl (by kernel_rfl) (by kernel_rfl) (fun _ => trivial) rfl (x_conv49 (x := .tmp 31) (p := m) (by omega) (by kernel_rfl) (by kernel_rfl)) ?_
        refine wpAnyIn_all (rs := [2]) (fuel := 2) (by kernel_rfl) (by simp) (fun j hj => ?_)
        obtain rfl : j = 2 := by simpa using hj
        refine opCallIn 2 33 26 #[.int .u64 (m : Int)] (fun u W' => Own W' Wd.heap.size u (uintB m) ∧ After Wd W') rfl (by kernel_rfl) (by kernel_rfl) (fun _ => trivial) rfl rfl (fun _ => by kernel_rfl) (callsIn_wide.2 ((uint_any m (by omega) Wd).mono (fun _ _ ⟨u, h1, h2, h3⟩ => ⟨u, h1, h2, h3⟩))) ?_
        rintro u Wdc ⟨hu, hWdc⟩
        have AWdc : After Wd Wdc := hS0.trans hWdc
        have hu1 := hu.mono hS0.size
        refine wpAnyIn_all (rs := [4]) (fuel := 1) (by kernel_rfl) (by simp) (fun j hj => ?_)
        obtain rfl : j = 4 := by simpa using hj
        refine opAppIn 4 35 (.tmp 33) (.tmp 34) rfl (by kernel_rfl) (by kernel_rfl) (fun _ => trivial) rfl (by kernel_rfl) Wd.heap.size _ (uintB m) (by kernel_rfl) hu1 va vc lb lb.length rfl (by kernel_rfl) (HAT.out _ AWdc) HBB.out AWdc.size ?_
        intro v' Wdca ho' hg'
        rw [HRB.out] at ho'
        have B' : After Wd Wdca := after_grown AWdc hg' (Nat.le_refl _) (fun k hk => (World.ownsRow.lt hu1 k hk).1)
        refine wpAnyIn_all (rs := [5]) (fuel := 0) (by kernel_rfl) (by simp) (fun j hj => ?_)
        obtain rfl : j = 5 := by simpa using hj
        refine opValIn 5 2 v' Wdca rfl (by kernel_rfl) (by kernel_rfl) (fun _ => trivial) rfl (by kernel_rfl) ?_
        refine wpAnyIn_done (by kernel_rfl) ?_ _
        have HO' := show Hid (Own _ _ v' (flagsB ([] : List Bool))) from ho'
        clear ho' hg'
        go_simp
        gi_wp2
        have hK' : Wdca.heap[D]? = some (.deferred (some [])) := (B'.block D HDL.out).trans HKD.out
        refine ⟨by simp, .inl ⟨_, _, rfl, run_takeDeferred hK', ?_⟩⟩
        exact ⟨_, results_tmp rfl _ _ _, v', rfl, ownsRow_putObj (Own.mono HO'.out HWd.out.size) _ hK' rfl, (HWd.out.trans (B'.mono HWd.out.size)).trans (belowK_b (w := w) (Nat.le_refl _) Wdca D _ _ HDW.out hK' rfl rfl)⟩
    · refine opValIn 3 34 (.slice va lb.length vc) Wd rfl (by kernel_rfl) (by kernel_rfl) (fun _ => trivial) rfl (x_loadT (t := 23) (x := .tmp 3) (g := w.heap.size) (j := 0) Try.underlying23 rfl (by kernel_rfl) (by kernel_rfl) (HLV.out _ hS0)) ?_
      refine wpAnyIn_all (rs := [0]) (fuel := 4) (by kernel_rfl) (by simp) (fun j hj => ?_)
      obtain rfl : j = 0 := by simpa using hj
      refine opValIn 0 31 (.int .i64 (m : Int)) Wd rfl (by kernel_rfl) (by kernel_rfl) (fun _ => trivial) rfl (x_loadT (t := 3) (x := .tmp 4) (g := w.heap.size + 1) (j := 0) Try.underlying3 rfl (by kernel_rfl) (by kernel_rfl) (HLD.out _ hS0)) ?_
      refine wpAnyIn_all (rs := [1]) (fuel := 3) (by kernel_rfl) (by simp) (fun j hj => ?_)
      obtain rfl : j = 1 := by simpa using hj
      refine opValIn 1 32 (.int .u64 (m : Int)) Wd rfl (by kernel_rfl) (by kernel_rfl) (fun _ => trivial) rfl (x_conv49 (x := .tmp 31) (p := m) (by omega) (by kernel_rfl) (by kernel_rfl)) ?_
      refine wpAnyIn_all (rs := [2]) (fuel := 2) (by kernel_rfl) (by simp) (fun j hj => ?_)
      obtain rfl : j = 2 := by simpa using hj
      refine opCallIn 2 33 26 #[.int .u64 (m : Int)] (fun u W' => Own W' Wd.heap.size u (uintB m) ∧ After Wd W') rfl (by kernel_rfl) (by kernel_rfl) (fun _ => trivial) rfl rfl (fun _ => by kernel_rfl) (callsIn_wide.2 ((uint_any m (by omega) Wd).mono (fun _ _ ⟨u, h1, h2, h3⟩ => ⟨u, h1, h2, h3⟩))) ?_
      rintro u Wdc ⟨hu, hWdc⟩
      have AWdc : After Wd Wdc := hS0.trans hWdc
      have hu1 := hu.mono hS0.size
      refine wpAnyIn_all (rs := [4]) (fuel := 1) (by kernel_rfl) (by simp) (fun j hj => ?_)
      obtain rfl : j = 4 := by simpa using hj
      refine opAppIn 4 35 (.tmp 33) (.tmp 34) rfl (by kernel_rfl) (by kernel_rfl) (fun _ => trivial) rfl (by kernel_rfl) Wd.heap.size _ (uintB m) (by kernel_rfl) hu1 va vc lb lb.length rfl (by kernel_rfl) (HAT.out _ AWdc) HBB.out AWdc.size ?_
      intro v' Wdca ho' hg'
      rw [HRB.out] at ho'
      have B' : After Wd Wdca := after_grown AWdc hg' (Nat.le_refl _) (fun k hk => (World.ownsRow.lt hu1 k hk).1)
      refine wpAnyIn_all (rs := [5]) (fuel := 0) (by kernel_rfl) (by simp) (fun j hj => ?_)
      obtain rfl : j = 5 := by simpa using hj
      refine opValIn 5 2 v' Wdca rfl (by kernel_rfl) (by kernel_rfl) (fun _ => trivial) rfl (by kernel_rfl) ?_
      refine wpAnyIn_done (by kernel_rfl) ?_ _
      have HO' := show Hid (Own _ _ v' (flagsB ([] : List Bool))) from ho'
      clear ho' hg'
      go_simp
      gi_wp2
      have hK' : Wdca.heap[D]? = some (.deferred (some [])) := (B'.block D HDL.out).trans HKD.out
      refine ⟨by simp, .inl ⟨_, _, rfl, run_takeDeferred hK', ?_⟩⟩
      exact ⟨_, results_tmp rfl _ _ _, v', rfl, ownsRow_putObj (Own.mono HO'.out HWd.out.size) _ hK' rfl, (HWd.out.trans (B'.mono HWd.out.size)).trans (belowK_b (w := w) (Nat.le_refl _) Wdca D _ _ HDW.out hK' rfl rfl)⟩
  case stop =>
    rintro D c pre W _ _ h _
    exact h.elim
set_option maxRecDepth 100000 in
set_option maxHeartbeats 4000000 in
theorem flags_false (b o : Nat) (cap : Nat) (r : List Bool) (hn : (false :: r).length ≤ 1048576) (w : World) (hI : BoolsAt w (some ⟨b, o, none⟩) (false :: r)) (hlt : b < w.heap.size) :
    CallsIn Fence.wide 4 Try.prog 16 #[(.slice (some ⟨b, o, none⟩) (r.length + 1) cap)] w fun e W' => ∃ v, e = .returned v ∧ Own W' w.heap.size v (flagsB (false :: r)) ∧ After w W' := by
  have hc0 : w.cell? ⟨b, o, none⟩ = some (.bool false) := by
    obtain ⟨b', o', he, hc⟩ := hI (by simp)
    cases he
    have := hc 0 (by simp)
    simpa using this
  have hpfx : ∀ n ∈ ([] : List Nat), n ≤ 1048576 := by simp
  have hpfl : ([] : List Nat).length ≤ 1 := by simp
  have hpfe : (if ((false :: r)).head? = some true then [0] else []) = ([] : List Nat) := by simp
  refine callsIn_of_wp_marks Try.func16 rfl trivial ?_ rfl
  simp only [Try.ntmps16, List.size_toArray, List.length_cons, List.length_nil, Nat.reduceAdd, Nat.reduceSub, Array.replicate_succ, Array.replicate_zero, List.push_toArray, List.append_toArray, List.nil_append, List.cons_append]
  gi_wp2_with (refine ⟨trivial, ?_⟩; gi_at_call 32; refine (runsOfB_any _ _ ⟨_, _, _, rfl⟩).mono ?_; rintro e w' ⟨rfl, rfl⟩)
  obtain ⟨W0, hW0⟩ : ∃ W0, ((w.alloc (.cells #[.slice none 0 0] 23)).alloc (.cells #[.int .i64 0] 3)).alloc (.cells #[(.slice (some ⟨b, o, none⟩) (r.length + 1) cap)] 28) = W0 := ⟨_, rfl⟩
  have hsz : W0.heap.size = w.heap.size + 3 := by rw [← hW0]; simp
  have hB0 : Below w.heap.size w W0 := by rw [← hW0]; exact (((Below.refl _ w).alloc (Nat.le_refl _) _).alloc (by simp) _).alloc (by simp; omega) _
  have bL : Boxed W0 w.heap.size 23 (.slice none 0 0) := by rw [← hW0]; exact ((Boxed.new w 23 _).alloc _).alloc _
  have bR : Boxed W0 (w.heap.size + 1) 3 (.int .i64 ((([] : List Nat).length + ([] : List RunB).length : Nat) : Int)) := by
    rw [← hW0]
    have := Boxed.new (w.alloc (.cells #[.slice none 0 0] 23)) 3 (.int .i64 0)
    rw [World.size_alloc] at this
    exact this.alloc _
  have bS : Boxed W0 (w.heap.size + 2) 28 (.slice (some ⟨b, o, none⟩) (r.length + 1) cap) := by
    rw [← hW0]
    have := Boxed.new ((w.alloc (.cells #[.slice none 0 0] 23)).alloc (.cells #[.int .i64 0] 3)) 28 (.slice (some ⟨b, o, none⟩) (r.length + 1) cap)
    rw [World.size_alloc, World.size_alloc] at this
    exact this
  have hO0 : Own W0 w.heap.size (.slice none 0 0) (laidU (([] : List Nat) ++ ([] : List RunB).map (·.1.2))) := Own.nil _ _
  have hBs1 : w.heap.size + 1 < w.heap.size + 2 := by omega
  simp only [hW0]
  have hI0 : BoolsAt W0 (some ⟨b, o, none⟩) (false :: r) := fun hne => by
    obtain ⟨b', o', he, hc⟩ := hI hne
    cases he
    exact ⟨b, o, rfl, fun j hj => (hB0.cell (p := ⟨b, o + j, none⟩) hlt).trans (hc j hj)⟩
  have hlt0 : ∀ a, some (⟨b, o, none⟩ : Addr) = some a → (false :: r) ≠ [] → a.block < w.heap.size := fun a ha _ => by cases ha; exact hlt
  refine wpIn_rangeFunc_ownG rfl (by omega) (gf := 41) (lb := #[.pointer (some ⟨(w.heap.size + 2), 0, none⟩)]) rfl trivial (enters_of Try.func41 (by kernel_rfl) rfl)
    (runsB_stops (w.heap.size + 2) w.heap.size cap _ (false :: r) hn W0 bS.lt hB0.size bS.cell hI0 hlt0) Kb.trans (fun W lp o o' h1 h2 h3 h4 => ⟨belowK_b hB0.size W lp o o' h1 h2 h3 h4, World.putObj_heap_other (by have := bS.lt; omega)⟩) (Below.refl _ _) (fun _ => rfl)
    (fun pre W => (∃ v, Boxed W w.heap.size 23 v ∧ Own W w.heap.size v (laidU (([] : List Nat) ++ pre.map (·.1.2)))) ∧ Boxed W (w.heap.size + 1) 3 (.int .i64 ((([] : List Nat).length + pre.length : Nat) : Int)) ∧ Boxed W (w.heap.size + 2) 28 (.slice (some ⟨b, o, none⟩) (r.length + 1) cap) ∧ Below w.heap.size w W)
    (fun _ _ _ => False)
    (fun pre W W' row hs hg hr => by
      have hne : ∀ {g : Nat} {t : TypeId} {u : Value}, Boxed W g t u → some g ≠ row := fun hb e => by
        obtain ⟨_, o, ho, hc⟩ := hr _ e.symm
        rw [show W.heap[_]? = _ from hb] at ho; cases ho; cases hc
      obtain ⟨⟨v, h1, h2⟩, h3, h4, h5⟩ := hs
      refine ⟨⟨v, h1.kept hg (hne h1), Own.keep' h2 (fun g e => ?_)⟩, h3.kept hg (hne h3), h4.kept hg (hne h4), h5.grown hg h5.size (fun k e => Nat.le_trans hB0.size (hr k e).1)⟩
      obtain ⟨c, t, f, hc⟩ := own_cells h2 e
      exact hg.block g (Array.getElem?_eq_some_iff.1 hc).1 (fun e' => by obtain ⟨_, o, ho, hc'⟩ := hr g e'.symm; rw [hc] at ho; cases ho; cases hc'))
    (fun _ _ _ _ _ hs _ _ => hs)
    ⟨⟨_, bL, hO0⟩, bR, bS, hB0⟩
    (fun x => { tmps := #[(.slice (some ⟨b, o, none⟩) (r.length + 1) cap), undef, (.slice none 0 0), (.pointer (some ⟨w.heap.size, 0, none⟩)), (.pointer (some ⟨w.heap.size + 1, 0, none⟩)), undef, (.int .i64 (x.1.2 : Int)), (.slice (some ⟨b, o, none⟩) (r.length + 1) cap), (.int .i64 ((r.length : Int) + 1)), (.bool true), (.bool true), (.slice (some ⟨b, o, none⟩) (r.length + 1) cap), (.pointer (some ⟨b, o, none⟩)), (.bool false), (.bool false), undef, undef, undef, undef, undef, (.slice (some ⟨b, o, none⟩) (r.length + 1) cap), (.func (.func 41) #[] #[.pointer (some ⟨w.heap.size + 2, 0, none⟩)]), (.bool x.1.1), (.int .i64 (x.1.2 : Int)), undef, undef, undef, undef, undef, undef, undef, undef, undef, undef, undef, undef], defers := [] }) ?assign ?body ?done ?stop
  case assign =>
    intro lp x W K hK
    gi_wp2
    exact hK
  case body =>
    rintro lp pre x W ⟨⟨v, h1, h2⟩, h3, h4, h5⟩ hltN
    have hc := h3.cell
    have hf := h3.frozen
    have K0 : RB w W0.heap.size (w.heap.size + 2) (.slice (some ⟨b, o, none⟩) (r.length + 1) cap) W W v (laidU (([] : List Nat) ++ pre.map (·.1.2))) (([] : List Nat).length + pre.length) := ⟨h1, h3, h4, h2, h5, KeepsFrom.refl _ _, Kb.refl _ _ _⟩
    have K1 := show Hid _ from RB.count hBs1 K0
    have hpl : pre.length ≤ 1048576 := by omega
    have HB1 : Hid ((laidU (([] : List Nat) ++ pre.map (·.1.2))).length + (uintB x.1.2).length ≤ 140737488355328) := by
      have h6 := laidU_len (([] : List Nat) ++ pre.map (·.1.2)) (fun n hn => by
        rcases List.mem_append.1 hn with h | h
        · exact hpfx n h
        · obtain ⟨y, _, rfl⟩ := List.mem_map.1 h; exact y.2)
      have h7 := uintB_len10 x.1.2 (by have := x.2; omega)
      unfold Hid
      simp only [List.length_append, List.length_map] at h6
      have := hpfl
      omega
    obtain ⟨f1, HF1⟩ : ∃ f, Hid ((laidU (([] : List Nat) ++ pre.map (·.1.2))) ++ uintB x.1.2 = f) := ⟨_, rfl⟩
    have HPL : Hid (([] : List Nat).length + (pre ++ [x]).length = ([] : List Nat).length + pre.length + 1) := by unfold Hid; simp only [List.length_append, List.length_cons, List.length_nil]; omega
    generalize hmm : ([] : List Nat).length + pre.length = mm at *
    clear h1 h2 h3 h4 h5 K0
    gi_wp2
    refine wpIn_region_any (by kernel_rfl) ?_
    refine with_world (p := fun W' => wpAnyIn _ _ _ _ _ _ _ _ _ W') (fun W' => RB w W0.heap.size (w.heap.size + 2) (.slice (some ⟨b, o, none⟩) (r.length + 1) cap) W W' v (laidU (([] : List Nat) ++ pre.map (·.1.2))) (mm + 1)) K1.out.drew ?_
    clear K1 hc hf
    intro Wd Kd
    refine wpAnyIn_all (rs := [0, 1]) (fuel := 5) (by kernel_rfl) (by simp) (fun j hj => ?_)
    simp only [List.mem_cons, List.not_mem_nil, or_false] at hj
    rcases hj with rfl | rfl
    · refine opValIn 0 26 v Wd rfl (by kernel_rfl) (by kernel_rfl) (fun _ => trivial) (Oper.semAt_plain _ _ _ (fun _ h => by cases h)) (x_loadT (t := 23) (x := .tmp 3) (g := w.heap.size) (j := 0) Try.underlying23 rfl (by kernel_rfl) (by kernel_rfl) Kd.bl.cell) ?_
      refine wpAnyIn_all (rs := [1]) (fuel := 4) (by kernel_rfl) (by simp) (fun j hj => ?_)
      obtain rfl : j = 1 := by simpa using hj
      refine opValIn 1 27 (.int .i64 (x.1.2 : Int)) Wd rfl (by kernel_rfl) (by kernel_rfl) (fun _ => trivial) (Oper.semAt_plain _ _ _ (fun _ h => by cases h)) (by kernel_rfl) ?_
      refine wpAnyIn_all (rs := [2]) (fuel := 3) (by kernel_rfl) (by simp) (fun j hj => ?_)
      obtain rfl : j = 2 := by simpa using hj
      refine opValIn 2 28 (.int .u64 (x.1.2 : Int)) Wd rfl (by kernel_rfl) (by kernel_rfl) (fun _ => trivial) (Oper.semAt_plain _ _ _ (fun _ h => by cases h)) (x_conv49 (x := .tmp 27) (p := x.1.2) (by have := x.2; omega) (by kernel_rfl) (by kernel_rfl)) ?_
      refine wpAnyIn_all (rs := [3]) (fuel := 2) (by kernel_rfl) (by simp) (fun j hj => ?_)
      obtain rfl : j = 3 := by simpa using hj
      refine opCallIn 3 29 26 #[.int .u64 (x.1.2 : Int)] (fun u W' => Own W' Wd.heap.size u (uintB x.1.2) ∧ After Wd W') rfl (by kernel_rfl) (by kernel_rfl) (fun _ => trivial) rfl (Oper.semAt_plain _ _ _ (fun _ h => by cases h)) (fun _ => by kernel_rfl) (CallsIn.inRound lp (callsIn_wide.2 ((uint_any x.1.2 (by have := x.2; omega) Wd).mono (fun _ _ ⟨u, h1, h2, h3⟩ => ⟨u, h1, h2, h3⟩)))) ?_
      rintro u Wdc ⟨hu, hWdc⟩
      obtain ⟨ua, uc, rfl, hua, _, _⟩ := hu.at
      have KWdc := Kd.after hWdc
      refine wpAnyIn_all (rs := [4]) (fuel := 1) (by kernel_rfl) (by simp) (fun j hj => ?_)
      obtain rfl : j = 4 := by simpa using hj
      refine opAppIn 4 30 (.tmp 26) (.tmp 29) rfl (by kernel_rfl) (by kernel_rfl) (fun _ => trivial) (Oper.semAt_plain _ _ _ (fun _ h => by cases h)) (by kernel_rfl) w.heap.size _ (laidU (([] : List Nat) ++ pre.map (·.1.2))) (by kernel_rfl) KWdc.own ua uc (uintB x.1.2) ((uintB x.1.2)).length rfl (by kernel_rfl) hua HB1.out KWdc.bel.size ?_
      intro v' Wdca ho' hg'
      rw [HF1.out] at ho'
      have AWdca := KWdc.app ho' hg' (.inr trivial)
      obtain ⟨va, vc, rfl, _, _, _⟩ := ho'.at
      refine wpAnyIn_all (rs := [5]) (fuel := 0) (by kernel_rfl) (by simp) (fun j hj => ?_)
      obtain rfl : j = 5 := by simpa using hj
      refine opStoreIn 5 23 (.tmp 3) (.tmp 30) w.heap.size va f1.length vc _ rfl (by kernel_rfl) (by kernel_rfl) (by kernel_rfl) (fun _ => trivial) (Oper.semAt_plain _ _ _ (fun _ h => by cases h)) (by kernel_rfl) (by kernel_rfl) AWdca.1 ?_
      have KE := RB.store hBs1 AWdca ho'
      refine wpAnyIn_done (by kernel_rfl) ?_ _
      exact ⟨KE.kf, KE.kb, ⟨⟨_, KE.bl, by rw [laidU_snoc, HF1.out]; exact KE.own⟩, by rw [HPL.out]; exact KE.br, KE.bs, KE.bel⟩⟩
    · refine opValIn 1 27 (.int .i64 (x.1.2 : Int)) Wd rfl (by kernel_rfl) (by kernel_rfl) (fun _ => trivial) (Oper.semAt_plain _ _ _ (fun _ h => by cases h)) (by kernel_rfl) ?_
      refine wpAnyIn_all (rs := [0, 2]) (fuel := 4) (by kernel_rfl) (by simp) (fun j hj => ?_)
      simp only [List.mem_cons, List.not_mem_nil, or_false] at hj
      rcases hj with rfl | rfl
      · refine opValIn 0 26 v Wd rfl (by kernel_rfl) (by kernel_rfl) (fun _ => trivial) (Oper.semAt_plain _ _ _ (fun _ h => by cases h)) (x_loadT (t := 23) (x := .tmp 3) (g := w.heap.size) (j := 0) Try.underlying23 rfl (by kernel_rfl) (by kernel_rfl) Kd.bl.cell) ?_
        refine wpAnyIn_all (rs := [2]) (fuel := 3) (by kernel_rfl) (by simp) (fun j hj => ?_)
        obtain rfl : j = 2 := by simpa using hj
        refine opValIn 2 28 (.int .u64 (x.1.2 : Int)) Wd rfl (by kernel_rfl) (by kernel_rfl) (fun _ => trivial) (Oper.semAt_plain _ _ _ (fun _ h => by cases h)) (x_conv49 (x := .tmp 27) (p := x.1.2) (by have := x.2; omega) (by kernel_rfl) (by kernel_rfl)) ?_
        refine wpAnyIn_all (rs := [3]) (fuel := 2) (by kernel_rfl) (by simp) (fun j hj => ?_)
        obtain rfl : j = 3 := by simpa using hj
        refine opCallIn 3 29 26 #[.int .u64 (x.1.2 : Int)] (fun u W' => Own W' Wd.heap.size u (uintB x.1.2) ∧ After Wd W') rfl (by kernel_rfl) (by kernel_rfl) (fun _ => trivial) rfl (Oper.semAt_plain _ _ _ (fun _ h => by cases h)) (fun _ => by kernel_rfl) (CallsIn.inRound lp (callsIn_wide.2 ((uint_any x.1.2 (by have := x.2; omega) Wd).mono (fun _ _ ⟨u, h1, h2, h3⟩ => ⟨u, h1, h2, h3⟩)))) ?_
        rintro u Wdc ⟨hu, hWdc⟩
        obtain ⟨ua, uc, rfl, hua, _, _⟩ := hu.at
        have KWdc := Kd.after hWdc
        refine wpAnyIn_all (rs := [4]) (fuel := 1) (by kernel_rfl) (by simp) (fun j hj => ?_)
        obtain rfl : j = 4 := by simpa using hj
        refine opAppIn 4 30 (.tmp 26) (.tmp 29) rfl (by kernel_rfl) (by kernel_rfl) (fun _ => trivial) (Oper.semAt_plain _ _ _ (fun _ h => by cases h)) (by kernel_rfl) w.heap.size _ (laidU (([] : List Nat) ++ pre.map (·.1.2))) (by kernel_rfl) KWdc.own ua uc (uintB x.1.2) ((uintB x.1.2)).length rfl (by kernel_rfl) hua HB1.out KWdc.bel.size ?_
        intro v' Wdca ho' hg'
        rw [HF1.out] at ho'
        have AWdca := KWdc.app ho' hg' (.inr trivial)
        obtain ⟨va, vc, rfl, _, _, _⟩ := ho'.at
        refine wpAnyIn_all (rs := [5]) (fuel := 0) (by kernel_rfl) (by simp) (fun j hj => ?_)
        obtain rfl : j = 5 := by simpa using hj
        refine opStoreIn 5 23 (.tmp 3) (.tmp 30) w.heap.size va f1.length vc _ rfl (by kernel_rfl) (by kernel_rfl) (by kernel_rfl) (fun _ => trivial) (Oper.semAt_plain _ _ _ (fun _ h => by cases h)) (by kernel_rfl) (by kernel_rfl) AWdca.1 ?_
        have KE := RB.store hBs1 AWdca ho'
        refine wpAnyIn_done (by kernel_rfl) ?_ _
        exact ⟨KE.kf, KE.kb, ⟨⟨_, KE.bl, by rw [laidU_snoc, HF1.out]; exact KE.own⟩, by rw [HPL.out]; exact KE.br, KE.bs, KE.bel⟩⟩
      · refine opValIn 2 28 (.int .u64 (x.1.2 : Int)) Wd rfl (by kernel_rfl) (by kernel_rfl) (fun _ => trivial) (Oper.semAt_plain _ _ _ (fun _ h => by cases h)) (x_conv49 (x := .tmp 27) (p := x.1.2) (by have := x.2; omega) (by kernel_rfl) (by kernel_rfl)) ?_
        refine wpAnyIn_all (rs := [0, 3]) (fuel := 3) (by kernel_rfl) (by simp) (fun j hj => ?_)
        simp only [List.mem_cons, List.not_mem_nil, or_false] at hj
        rcases hj with rfl | rfl
        · refine opValIn 0 26 v Wd rfl (by kernel_rfl) (by kernel_rfl) (fun _ => trivial) (Oper.semAt_plain _ _ _ (fun _ h => by cases h)) (x_loadT (t := 23) (x := .tmp 3) (g := w.heap.size) (j := 0) Try.underlying23 rfl (by kernel_rfl) (by kernel_rfl) Kd.bl.cell) ?_
          refine wpAnyIn_all (rs := [3]) (fuel := 2) (by kernel_rfl) (by simp) (fun j hj => ?_)
          obtain rfl : j = 3 := by simpa using hj
          refine opCallIn 3 29 26 #[.int .u64 (x.1.2 : Int)] (fun u W' => Own W' Wd.heap.size u (uintB x.1.2) ∧ After Wd W') rfl (by kernel_rfl) (by kernel_rfl) (fun _ => trivial) rfl (Oper.semAt_plain _ _ _ (fun _ h => by cases h)) (fun _ => by kernel_rfl) (CallsIn.inRound lp (callsIn_wide.2 ((uint_any x.1.2 (by have := x.2; omega) Wd).mono (fun _ _ ⟨u, h1, h2, h3⟩ => ⟨u, h1, h2, h3⟩)))) ?_
          rintro u Wdc ⟨hu, hWdc⟩
          obtain ⟨ua, uc, rfl, hua, _, _⟩ := hu.at
          have KWdc := Kd.after hWdc
          refine wpAnyIn_all (rs := [4]) (fuel := 1) (by kernel_rfl) (by simp) (fun j hj => ?_)
          obtain rfl : j = 4 := by simpa using hj
          refine opAppIn 4 30 (.tmp 26) (.tmp 29) rfl (by kernel_rfl) (by kernel_rfl) (fun _ => trivial) (Oper.semAt_plain _ _ _ (fun _ h => by cases h)) (by kernel_rfl) w.heap.size _ (laidU (([] : List Nat) ++ pre.map (·.1.2))) (by kernel_rfl) KWdc.own ua uc (uintB x.1.2) ((uintB x.1.2)).length rfl (by kernel_rfl) hua HB1.out KWdc.bel.size ?_
          intro v' Wdca ho' hg'
          rw [HF1.out] at ho'
          have AWdca := KWdc.app ho' hg' (.inr trivial)
          obtain ⟨va, vc, rfl, _, _, _⟩ := ho'.at
          refine wpAnyIn_all (rs := [5]) (fuel := 0) (by kernel_rfl) (by simp) (fun j hj => ?_)
          obtain rfl : j = 5 := by simpa using hj
          refine opStoreIn 5 23 (.tmp 3) (.tmp 30) w.heap.size va f1.length vc _ rfl (by kernel_rfl) (by kernel_rfl) (by kernel_rfl) (fun _ => trivial) (Oper.semAt_plain _ _ _ (fun _ h => by cases h)) (by kernel_rfl) (by kernel_rfl) AWdca.1 ?_
          have KE := RB.store hBs1 AWdca ho'
          refine wpAnyIn_done (by kernel_rfl) ?_ _
          exact ⟨KE.kf, KE.kb, ⟨⟨_, KE.bl, by rw [laidU_snoc, HF1.out]; exact KE.own⟩, by rw [HPL.out]; exact KE.br, KE.bs, KE.bel⟩⟩
        · refine opCallIn 3 29 26 #[.int .u64 (x.1.2 : Int)] (fun u W' => Own W' Wd.heap.size u (uintB x.1.2) ∧ After Wd W') rfl (by kernel_rfl) (by kernel_rfl) (fun _ => trivial) rfl (Oper.semAt_plain _ _ _ (fun _ h => by cases h)) (fun _ => by kernel_rfl) (CallsIn.inRound lp (callsIn_wide.2 ((uint_any x.1.2 (by have := x.2; omega) Wd).mono (fun _ _ ⟨u, h1, h2, h3⟩ => ⟨u, h1, h2, h3⟩)))) ?_
          rintro u Wdc ⟨hu, hWdc⟩
          obtain ⟨ua, uc, rfl, hua, _, _⟩ := hu.at
          have KWdc := Kd.after hWdc
          refine wpAnyIn_all (rs := [0]) (fuel := 2) (by kernel_rfl) (by simp) (fun j hj => ?_)
          obtain rfl : j = 0 := by simpa using hj
          refine opValIn 0 26 v Wdc rfl (by kernel_rfl) (by kernel_rfl) (fun _ => trivial) (Oper.semAt_plain _ _ _ (fun _ h => by cases h)) (x_loadT (t := 23) (x := .tmp 3) (g := w.heap.size) (j := 0) Try.underlying23 rfl (by kernel_rfl) (by kernel_rfl) KWdc.bl.cell) ?_
          refine wpAnyIn_all (rs := [4]) (fuel := 1) (by kernel_rfl) (by simp) (fun j hj => ?_)
          obtain rfl : j = 4 := by simpa using hj
          refine opAppIn 4 30 (.tmp 26) (.tmp 29) rfl (by kernel_rfl) (by kernel_rfl) (fun _ => trivial) (Oper.semAt_plain _ _ _ (fun _ h => by cases h)) (by kernel_rfl) w.heap.size _ (laidU (([] : List Nat) ++ pre.map (·.1.2))) (by kernel_rfl) KWdc.own ua uc (uintB x.1.2) ((uintB x.1.2)).length rfl (by kernel_rfl) hua HB1.out KWdc.bel.size ?_
          intro v' Wdca ho' hg'
          rw [HF1.out] at ho'
          have AWdca := KWdc.app ho' hg' (.inr trivial)
          obtain ⟨va, vc, rfl, _, _, _⟩ := ho'.at
          refine wpAnyIn_all (rs := [5]) (fuel := 0) (by kernel_rfl) (by simp) (fun j hj => ?_)
          obtain rfl : j = 5 := by simpa using hj
          refine opStoreIn 5 23 (.tmp 3) (.tmp 30) w.heap.size va f1.length vc _ rfl (by kernel_rfl) (by kernel_rfl) (by kernel_rfl) (fun _ => trivial) (Oper.semAt_plain _ _ _ (fun _ h => by cases h)) (by kernel_rfl) (by kernel_rfl) AWdca.1 ?_
          have KE := RB.store hBs1 AWdca ho'
          refine wpAnyIn_done (by kernel_rfl) ?_ _
          exact ⟨KE.kf, KE.kb, ⟨⟨_, KE.bl, by rw [laidU_snoc, HF1.out]; exact KE.own⟩, by rw [HPL.out]; exact KE.br, KE.bs, KE.bel⟩⟩
  case done =>
    rintro D ys W hD hys ⟨⟨v, h1, h2⟩, h3, h4, h5⟩ hK
    have hfl : ([] : List Nat) ++ ys.map (·.1.2) = flagLens (false :: r) := by
      have := congrArg (List.map (·.2)) hys
      rw [List.map_map] at this
      unfold flagLens
      rw [← this, hpfe]
      rfl
    have hm : ([] : List Nat).length + ys.length = (flagLens (false :: r)).length := by rw [← hfl]; simp only [List.length_append, List.length_map]
    have hml := runs_len (false :: r)
    have hyl : ys.length = (runs (false :: r)).length := by rw [← hys]; simp
    have h20 := laidU_len (flagLens (false :: r)) (fun n hn => by
      rw [← hfl] at hn
      rcases List.mem_append.1 hn with h | h
      · exact hpfx n h
      · obtain ⟨y, _, rfl⟩ := List.mem_map.1 h; exact y.2)
    obtain ⟨m, hmm⟩ : ∃ m, ([] : List Nat).length + ys.length = m := ⟨_, rfl⟩
    have bm : m ≤ 1048577 := by have := hpfl; omega
    rw [hfl] at h2
    rw [hmm] at h3 hm
    rw [← hm] at h20
    obtain ⟨lb, HLB⟩ : ∃ x, Hid (laidU (flagLens (false :: r)) = x) := ⟨_, rfl⟩
    rw [HLB.out] at h2 h20
    have HRB : Hid (uintB m ++ lb = flagsB (false :: r)) := by unfold Hid flagsB; rw [hm, HLB.out]
    have HBB : Hid ((uintB m).length + lb.length ≤ 140737488355328) := by have := uintB_len10 m (by omega); unfold Hid; omega
    obtain ⟨va, vc, rfl, hat, _, _⟩ := h2.at
    have HAT0 := show Hid (BytesAt W va lb) from hat
    have HWW : Hid (Below w.heap.size w W) := h5
    have HKD0 : Hid (W.heap[D]? = some (.deferred (some []))) := hK
    have HDW : Hid (w.heap.size ≤ D) := Nat.le_trans hB0.size hD
    have H1 := show Hid (Boxed W w.heap.size 23 (.slice va lb.length vc)) from h1
    have H3 := show Hid (Boxed W (w.heap.size + 1) 3 (.int .i64 (m : Int))) from h3
    clear h1 h2 h3 h4 h5 hK hat hD h20 hm hml hmm hys hfl hyl
    gi_wp2
    refine wpIn_region_any (by kernel_rfl) ?_
    refine with_world (p := fun W' => wpAnyIn _ _ _ _ _ _ _ _ _ W') (fun W' => After W W') (After.drew (After.refl W)) ?_
    intro Wd hWd
    have HLD : Hid (∀ W', After Wd W' → W'.cell? ⟨w.heap.size + 1, 0, none⟩ = some (.int .i64 (m : Int))) := fun W' hA => (Below.cell (hWd.trans hA) (p := ⟨w.heap.size + 1, 0, none⟩) H3.out.lt).trans H3.out.cell
    have HLV : Hid (∀ W', After Wd W' → W'.cell? ⟨w.heap.size, 0, none⟩ = some (.slice va lb.length vc)) := fun W' hA => (Below.cell (hWd.trans hA) (p := ⟨w.heap.size, 0, none⟩) H1.out.lt).trans H1.out.cell
    have HAT : Hid (∀ W', After Wd W' → BytesAt W' va lb) := fun W' hA => HAT0.out.after (hWd.trans hA)
    have hDl : D < W.heap.size := (Array.getElem?_eq_some_iff.1 HKD0.out).1
    have HKD : Hid (Wd.heap[D]? = some (.deferred (some []))) := (hWd.block D hDl).trans HKD0.out
    have HDL : Hid (D < Wd.heap.size) := Nat.lt_of_lt_of_le hDl hWd.size
    have HWd : Hid (Below w.heap.size w Wd) := HWW.out.trans (Below.mono hWd HWW.out.size)
    have hS0 : After Wd Wd := After.refl Wd
    refine wpAnyIn_all (rs := [0, 3]) (fuel := 5) (by kernel_rfl) (by simp) (fun j hj => ?_)
    simp only [List.mem_cons, List.not_mem_nil, or_false] at hj
    rcases hj with rfl | rfl
    · refine opValIn 0 31 (.int .i64 (m : Int)) Wd rfl (by kernel_rfl) (by kernel_rfl) (fun _ => trivial) rfl (x_loadT (t := 3) (x := .tmp 4) (g := w.heap.size + 1) (j := 0) Try.underlying3 rfl (by kernel_rfl) (by kernel_rfl) (HLD.out _ hS0)) ?_
      refine wpAnyIn_all (rs := [1, 3]) (fuel := 4) (by kernel_rfl) (by simp) (fun j hj => ?_)
      simp only [List.mem_cons, List.not_mem_nil, or_false] at hj
      rcases hj with rfl | rfl
      · refine opValIn 1 32 (.int .u64 (m : Int)) Wd rfl (by kernel_rfl) (by kernel_rfl) (fun _ => trivial) rfl (x_conv49 (x := .tmp 31) (p := m) (by omega) (by kernel_rfl) (by kernel_rfl)) ?_
        refine wpAnyIn_all (rs := [2, 3]) (fuel := 3) (by kernel_rfl) (by simp) (fun j hj => ?_)
        simp only [List.mem_cons, List.not_mem_nil, or_false] at hj
        rcases hj with rfl | rfl
        · refine opCallIn 2 33 26 #[.int .u64 (m : Int)] (fun u W' => Own W' Wd.heap.size u (uintB m) ∧ After Wd W') rfl (by kernel_rfl) (by kernel_rfl) (fun _ => trivial) rfl rfl (fun _ => by kernel_rfl) (callsIn_wide.2 ((uint_any m (by omega) Wd).mono (fun _ _ ⟨u, h1, h2, h3⟩ => ⟨u, h1, h2, h3⟩))) ?_
          rintro u Wdc ⟨hu, hWdc⟩
          have AWdc : After Wd Wdc := hS0.trans hWdc
          have hu1 := hu.mono hS0.size
          refine wpAnyIn_all (rs := [3]) (fuel := 2) (by kernel_rfl) (by simp) (fun j hj => ?_)
          obtain rfl : j = 3 := by simpa using hj
          refine opValIn 3 34 (.slice va lb.length vc) Wdc rfl (by kernel_rfl) (by kernel_rfl) (fun _ => trivial) rfl (x_loadT (t := 23) (x := .tmp 3) (g := w.heap.size) (j := 0) Try.underlying23 rfl (by kernel_rfl) (by kernel_rfl) (HLV.out _ AWdc)) ?_
          refine wpAnyIn_all (rs := [4]) (fuel := 1) (by kernel_rfl) (by simp) (fun j hj => ?_)
          obtain rfl : j = 4 := by simpa using hj
          refine opAppIn 4 35 (.tmp 33) (.tmp 34) rfl (by kernel_rfl) (by kernel_rfl) (fun _ => trivial) rfl (by kernel_rfl) Wd.heap.size _ (uintB m) (by kernel_rfl) hu1 va vc lb lb.length rfl (by kernel_rfl) (HAT.out _ AWdc) HBB.out AWdc.size ?_
          intro v' Wdca ho' hg'
          rw [HRB.out] at ho'
          have B' : After Wd Wdca := after_grown AWdc hg' (Nat.le_refl _) (fun k hk => (World.ownsRow.lt hu1 k hk).1)
          refine wpAnyIn_all (rs := [5]) (fuel := 0) (by kernel_rfl) (by simp) (fun j hj => ?_)
          obtain rfl : j = 5 := by simpa using hj
          refine opValIn 5 2 v' Wdca rfl (by kernel_rfl) (by kernel_rfl) (fun _ => trivial) rfl (by kernel_rfl) ?_
          refine wpAnyIn_done (by kernel_rfl) ?_ _
          have HO' := show Hid (Own _ _ v' (flagsB (false :: r))) from ho'
          clear ho' hg'
          go_simp
          gi_wp2
          have hK' : Wdca.heap[D]? = some (.deferred (some [])) := (B'.block D HDL.out).trans HKD.out
          refine ⟨by simp, .inl ⟨_, _, rfl, run_takeDeferred hK', ?_⟩⟩
          exact ⟨_, results_tmp rfl _ _ _, v', rfl, ownsRow_putObj (Own.mono HO'.out HWd.out.size) _ hK' rfl, (HWd.out.trans (B'.mono HWd.out.size)).trans (belowK_b (w := w) (Nat.le_refl _) Wdca D _ _ HDW.out hK' rfl rfl)⟩
        · refine opValIn 3 34 (.slice va lb.length vc) Wd rfl (by kernel_rfl) (by kernel_rfl) (fun _ => trivial) rfl (x_loadT (t := 23) (x := .tmp 3) (g := w.heap.size) (j := 0) Try.underlying23 rfl (by kernel_rfl) (by kernel_rfl) (HLV.out _ hS0)) ?_
          refine wpAnyIn_all (rs := [2]) (fuel := 2) (by kernel_rfl) (by simp) (fun j hj => ?_)
          obtain rfl : j = 2 := by simpa using hj
          refine opCallIn 2 33 26 #[.int .u64 (m : Int)] (fun u W' => Own W' Wd.heap.size u (uintB m) ∧ After Wd W') rfl (by kernel_rfl) (by kernel_rfl) (fun _ => trivial) rfl rfl (fun _ => by kernel_rfl) (callsIn_wide.2 ((uint_any m (by omega) Wd).mono (fun _ _ ⟨u, h1, h2, h3⟩ => ⟨u, h1, h2, h3⟩))) ?_
          rintro u Wdc ⟨hu, hWdc⟩
          have AWdc : After Wd Wdc := hS0.trans hWdc
          have hu1 := hu.mono hS0.size
          refine wpAnyIn_all (rs := [4]) (fuel := 1) (by kernel_rfl) (by simp) (fun j hj => ?_)
          obtain rfl : j = 4 := by simpa using hj
          refine opAppIn 4 35 (.tmp 33) (.tmp 34) rfl (by kernel_rfl) (by kernel_rfl) (fun _ => trivial) rfl (by kernel_rfl) Wd.heap.size _ (uintB m) (by kernel_rfl) hu1 va vc lb lb.length rfl (by kernel_rfl) (HAT.out _ AWdc) HBB.out AWdc.size ?_
          intro v' Wdca ho' hg'
          rw [HRB.out] at ho'
          have B' : After Wd Wdca := after_grown AWdc hg' (Nat.le_refl _) (fun k hk => (World.ownsRow.lt hu1 k hk).1)
          refine wpAnyIn_all (rs := [5]) (fuel := 0) (by kernel_rfl) (by simp) (fun j hj => ?_)
          obtain rfl : j = 5 := by simpa using hj
          refine opValIn 5 2 v' Wdca rfl (by kernel_rfl) (by kernel_rfl) (fun _ => trivial) rfl (by kernel_rfl) ?_
          refine wpAnyIn_done (by kernel_rfl) ?_ _
          have HO' := show Hid (Own _ _ v' (flagsB (false :: r))) from ho'
          clear ho' hg'
          go_simp
          gi_wp2
          have hK' : Wdca.heap[D]? = some (.deferred (some [])) := (B'.block D HDL.out).trans HKD.out
          refine ⟨by simp, .inl ⟨_, _, rfl, run_takeDeferred hK', ?_⟩⟩
          exact ⟨_, results_tmp rfl _ _ _, v', rfl, ownsRow_putObj (Own.mono HO'.out HWd.out.size) _ hK' rfl, (HWd.out.trans (B'.mono HWd.out.size)).trans (belowK_b (w := w) (Nat.le_refl _) Wdca D _ _ HDW.out hK' rfl rfl)⟩
      · refine opValIn 3 34 (.slice va lb.length vc) Wd rfl (by kernel_rfl) (by kernel_rfl) (fun _ => trivial) rfl (x_loadT (t := 23) (x := .tmp 3) (g := w.heap.size) (j := 0) Try.underlying23 rfl (by kernel_rfl) (by kernel_rfl) (HLV.out _ hS0)) ?_
        refine wpAnyIn_all (rs := [1]) (fuel := 3) (by kernel_rfl) (by simp) (fun j hj => ?_)
        obtain rfl : j = 1 := by simpa using hj
        refine opValIn 1 32 (.int .u64 (m : Int)) Wd rfl (by kernel_rfl) (by kernel_rfl) (fun _ => trivial) rfl (x_conv49 (x := .tmp 31) (p := m) (by omega) (by kernel_rfl) (by kernel_rfl)) ?_
        refine wpAnyIn_all (rs := [2]) (fuel := 2) (by kernel_rfl) (by simp) (fun j hj => ?_)
        obtain rfl : j = 2 := by simpa using hj
        refine opCallIn 2 33 26 #[.int .u64 (m : Int)] (fun u W' => Own W' Wd.heap.size u (uintB m) ∧ After Wd W') rfl (by kernel_rfl) (by kernel_rfl) (fun _ => trivial) rfl rfl (fun _ => by kernel_rfl) (callsIn_wide.2 ((uint_any m (by omega) Wd).mono (fun _ _ ⟨u, h1, h2, h3⟩ => ⟨u, h1, h2, h3⟩))) ?_
        rintro u Wdc ⟨hu, hWdc⟩
        have AWdc : After Wd Wdc := hS0.trans hWdc
        have hu1 := hu.mono hS0.size
        refine wpAnyIn_all (rs := [4]) (fuel := 1) (by kernel_rfl) (by simp) (fun j hj => ?_)
        obtain rfl : j = 4 := by simpa using hj
        refine opAppIn 4 35 (.tmp 33) (.tmp 34) rfl (by kernel_rfl) (by kernel_rfl) (fun _ => trivial) rfl (by kernel_rfl) Wd.heap.size _ (uintB m) (by kernel_rfl) hu1 va vc lb lb.length rfl (by kernel_rfl) (HAT.out _ AWdc) HBB.out AWdc.size ?_
        intro v' Wdca ho' hg'
        rw [HRB.out] at ho'
        have B' : After Wd Wdca := after_grown AWdc hg' (Nat.le_refl _) (fun k hk => (World.ownsRow.lt hu1 k hk).1)
        refine wpAnyIn_all (rs := [5]) (fuel := 0) (by kernel_rfl) (by simp) (fun j hj => ?_)
        obtain rfl : j = 5 := by simpa using hj
        refine opValIn 5 2 v' Wdca rfl (by kernel_rfl) (by kernel_rfl) (fun _ => trivial) rfl (by kernel_rfl) ?_
        refine wpAnyIn_done (by kernel_rfl) ?_ _
        have HO' := show Hid (Own _ _ v' (flagsB (false :: r))) from ho'
        clear ho' hg'
        go_simp
        gi_wp2
        have hK' : Wdca.heap[D]? = some (.deferred (some [])) := (B'.block D HDL.out).trans HKD.out
        refine ⟨by simp, .inl ⟨_, _, rfl, run_takeDeferred hK', ?_⟩⟩
        exact ⟨_, results_tmp rfl _ _ _, v', rfl, ownsRow_putObj (Own.mono HO'.out HWd.out.size) _ hK' rfl, (HWd.out.trans (B'.mono HWd.out.size)).trans (belowK_b (w := w) (Nat.le_refl _) Wdca D _ _ HDW.out hK' rfl rfl)⟩
    · refine opValIn 3 34 (.slice va lb.length vc) Wd rfl (by kernel_rfl) (by kernel_rfl) (fun _ => trivial) rfl (x_loadT (t := 23) (x := .tmp 3) (g := w.heap.size) (j := 0) Try.underlying23 rfl (by kernel_rfl) (by kernel_rfl) (HLV.out _ hS0)) ?_
      refine wpAnyIn_all (rs := [0]) (fuel := 4) (by kernel_rfl) (by simp) (fun j hj => ?_)
      obtain rfl : j = 0 := by simpa using hj
      refine opValIn 0 31 (.int .i64 (m : Int)) Wd rfl (by kernel_rfl) (by kernel_rfl) (fun _ => trivial) rfl (x_loadT (t := 3) (x := .tmp 4) (g := w.heap.size + 1) (j := 0) Try.underlying3 rfl (by kernel_rfl) (by kernel_rfl) (HLD.out _ hS0)) ?_
      refine wpAnyIn_all (rs := [1]) (fuel := 3) (by kernel_rfl) (by simp) (fun j hj => ?_)
      obtain rfl : j = 1 := by simpa using hj
      refine opValIn 1 32 (.int .u64 (m : Int)) Wd rfl (by kernel_rfl) (by kernel_rfl) (fun _ => trivial) rfl (x_conv49 (x := .tmp 31) (p := m) (by omega) (by kernel_rfl) (by kernel_rfl)) ?_
      refine wpAnyIn_all (rs := [2]) (fuel := 2) (by kernel_rfl) (by simp) (fun j hj => ?_)
      obtain rfl : j = 2 := by simpa using hj
      refine opCallIn 2 33 26 #[.int .u64 (m : Int)] (fun u W' => Own W' Wd.heap.size u (uintB m) ∧ After Wd W') rfl (by kernel_rfl) (by kernel_rfl) (fun _ => trivial) rfl rfl (fun _ => by kernel_rfl) (callsIn_wide.2 ((uint_any m (by omega) Wd).mono (fun _ _ ⟨u, h1, h2, h3⟩ => ⟨u, h1, h2, h3⟩))) ?_
      rintro u Wdc ⟨hu, hWdc⟩
      have AWdc : After Wd Wdc := hS0.trans hWdc
      have hu1 := hu.mono hS0.size
      refine wpAnyIn_all (rs := [4]) (fuel := 1) (by kernel_rfl) (by simp) (fun j hj => ?_)
      obtain rfl : j = 4 := by simpa using hj
      refine opAppIn 4 35 (.tmp 33) (.tmp 34) rfl (by kernel_rfl) (by kernel_rfl) (fun _ => trivial) rfl (by kernel_rfl) Wd.heap.size _ (uintB m) (by kernel_rfl) hu1 va vc lb lb.length rfl (by kernel_rfl) (HAT.out _ AWdc) HBB.out AWdc.size ?_
      intro v' Wdca ho' hg'
      rw [HRB.out] at ho'
      have B' : After Wd Wdca := after_grown AWdc hg' (Nat.le_refl _) (fun k hk => (World.ownsRow.lt hu1 k hk).1)
      refine wpAnyIn_all (rs := [5]) (fuel := 0) (by kernel_rfl) (by simp) (fun j hj => ?_)
      obtain rfl : j = 5 := by simpa using hj
      refine opValIn 5 2 v' Wdca rfl (by kernel_rfl) (by kernel_rfl) (fun _ => trivial) rfl (by kernel_rfl) ?_
      refine wpAnyIn_done (by kernel_rfl) ?_ _
      have HO' := show Hid (Own _ _ v' (flagsB (false :: r))) from ho'
      clear ho' hg'
      go_simp
      gi_wp2
      have hK' : Wdca.heap[D]? = some (.deferred (some [])) := (B'.block D HDL.out).trans HKD.out
      refine ⟨by simp, .inl ⟨_, _, rfl, run_takeDeferred hK', ?_⟩⟩
      exact ⟨_, results_tmp rfl _ _ _, v', rfl, ownsRow_putObj (Own.mono HO'.out HWd.out.size) _ hK' rfl, (HWd.out.trans (B'.mono HWd.out.size)).trans (belowK_b (w := w) (Nat.le_refl _) Wdca D _ _ HDW.out hK' rfl rfl)⟩
  case stop =>
    rintro D c pre W _ _ h _
    exact h.elim
set_option maxRecDepth 100000 in
set_option maxHeartbeats 8000000 in
theorem flags_true (b o : Nat) (cap : Nat) (r : List Bool) (hn : (true :: r).length ≤ 1048576) (w : World) (hI : BoolsAt w (some ⟨b, o, none⟩) (true :: r)) (hlt : b < w.heap.size) :
    CallsIn Fence.wide 4 Try.prog 16 #[(.slice (some ⟨b, o, none⟩) (r.length + 1) cap)] w fun e W' => ∃ v, e = .returned v ∧ Own W' w.heap.size v (flagsB (true :: r)) ∧ After w W' := by
  have hc0 : w.cell? ⟨b, o, none⟩ = some (.bool true) := by
    obtain ⟨b', o', he, hc⟩ := hI (by simp)
    cases he
    have := hc 0 (by simp)
    simpa using this
  have hpfx : ∀ n ∈ ([0] : List Nat), n ≤ 1048576 := by simp
  have hpfl : ([0] : List Nat).length ≤ 1 := by simp
  have hpfe : (if ((true :: r)).head? = some true then [0] else []) = ([0] : List Nat) := by simp
  refine callsIn_of_wp_marks Try.func16 rfl trivial ?_ rfl
  simp only [Try.ntmps16, List.size_toArray, List.length_cons, List.length_nil, Nat.reduceAdd, Nat.reduceSub, Array.replicate_succ, Array.replicate_zero, List.push_toArray, List.append_toArray, List.nil_append, List.cons_append]
  gi_wp2
  refine wpIn_region_any (by kernel_rfl) ?_
  refine with_world (p := fun W' => wpAnyIn _ _ _ _ _ _ _ _ _ W') (fun W' => Below w.heap.size w W' ∧ Boxed W' w.heap.size 23 (.slice none 0 0) ∧ Boxed W' (w.heap.size + 1) 3 (.int .i64 1)) ⟨(((Below.refl _ w).alloc (Nat.le_refl _) _).alloc (by simp) _).drew, (Boxed.new w 23 (.slice none 0 0)).alloc _, (by have := Boxed.new (w.alloc (.cells #[.slice none 0 0] 23)) 3 (.int .i64 1); rw [World.size_alloc] at this; exact this)⟩ ?_
  intro Wd hWd
  have HWd : Hid (Below w.heap.size w Wd) := hWd.1
  have HL : Hid (∀ W', After Wd W' → Boxed W' w.heap.size 23 (.slice none 0 0)) := fun W' hA => (hA.block _ hWd.2.1.lt).trans hWd.2.1
  have HR : Hid (∀ W', After Wd W' → Boxed W' (w.heap.size + 1) 3 (.int .i64 1)) := fun W' hA => (hA.block _ hWd.2.2.lt).trans hWd.2.2
  have hS0 : After Wd Wd := After.refl Wd
  clear hWd
  refine wpAnyIn_all (rs := [0, 1]) (fuel := 3) (by kernel_rfl) (by simp) (fun j hj => ?_)
  simp only [List.mem_cons, List.not_mem_nil, or_false] at hj
  rcases hj with rfl | rfl
  · refine opValIn 0 17 (.slice none 0 0) Wd rfl (by kernel_rfl) (by kernel_rfl) (fun _ => trivial) rfl (x_loadT (t := 23) (x := .tmp 3) (g := w.heap.size) (j := 0) Try.underlying23 rfl (by kernel_rfl) (by kernel_rfl) (HL.out _ hS0).cell) ?_
    refine wpAnyIn_all (rs := [1]) (fuel := 2) (by kernel_rfl) (by simp) (fun j hj => ?_)
    obtain rfl : j = 1 := by simpa using hj
    refine opCallIn 1 18 26 #[.int .u64 0] (fun u W' => Own W' Wd.heap.size u (uintB 0) ∧ After Wd W') rfl (by kernel_rfl) (by kernel_rfl) (fun _ => trivial) rfl rfl (fun _ => by kernel_rfl) (callsIn_wide.2 ((uint_any 0 (by omega) Wd).mono (fun _ _ ⟨u, h1, h2, h3⟩ => ⟨u, h1, h2, h3⟩))) ?_
    rintro u Wdc ⟨hu, hWdc⟩
    obtain ⟨ua, uc, hue, hua, _, _⟩ := hu.at
    rw [show (uintB 0).length = 1 from by decide +kernel] at hue
    subst hue
    have AWdc : After Wd Wdc := hS0.trans hWdc
    refine wpAnyIn_all (rs := [2]) (fuel := 1) (by kernel_rfl) (by simp) (fun j hj => ?_)
    obtain rfl : j = 2 := by simpa using hj
    refine opAppIn 2 19 (.tmp 17) (.tmp 18) rfl (by kernel_rfl) (by kernel_rfl) (fun _ => trivial) rfl (by kernel_rfl) w.heap.size _ [] (by kernel_rfl) (Own.nil _ _) ua uc (uintB 0) 1 (by decide +kernel) (by kernel_rfl) hua (by decide +kernel) (Nat.le_trans HWd.out.size AWdc.size) ?_
    intro v' Wdca ho' hg'
    rw [List.nil_append] at ho'
    have B' : After Wd Wdca := after_grown AWdc hg' (Nat.le_refl _) (fun k hk => by cases hk)
    obtain ⟨va, vc, hve, _, _, _⟩ := ho'.at
    rw [show (uintB 0).length = 1 from by decide +kernel] at hve
    subst hve
    refine wpAnyIn_all (rs := [3]) (fuel := 0) (by kernel_rfl) (by simp) (fun j hj => ?_)
    obtain rfl : j = 3 := by simpa using hj
    refine opStoreIn 3 23 (.tmp 3) (.tmp 19) w.heap.size va 1 vc _ rfl (by kernel_rfl) (by kernel_rfl) (by kernel_rfl) (fun _ => trivial) rfl (by kernel_rfl) (by kernel_rfl) (HL.out _ B') ?_
    have hE : Below w.heap.size w (Wdca.setCell ⟨w.heap.size, 0, none⟩ (.slice va 1 vc)) ∧ Boxed (Wdca.setCell ⟨w.heap.size, 0, none⟩ (.slice va 1 vc)) w.heap.size 23 (.slice va 1 vc) ∧ Boxed (Wdca.setCell ⟨w.heap.size, 0, none⟩ (.slice va 1 vc)) (w.heap.size + 1) 3 (.int .i64 1) ∧ Own (Wdca.setCell ⟨w.heap.size, 0, none⟩ (.slice va 1 vc)) w.heap.size (.slice va 1 vc) (uintB 0) := by
      have hB := HWd.out.trans (Below.mono B' HWd.out.size)
      have hgg := grownBy_setCell' Wdca w.heap.size (.slice va 1 vc)
      refine ⟨hB.setCell (p := ⟨w.heap.size, 0, none⟩) (Nat.le_refl _) _, (HL.out _ B').set _, (HR.out _ B').kept hgg (by simp), Own.keep' ho' (fun g e => ?_)⟩
      have hne : some w.heap.size ≠ Value.ownBlock (.slice va 1 vc) := Boxed.not_row (HL.out _ B') (by decide) ho'
      rw [heap_setCell_other Wdca _ g _ (by show g ≠ w.heap.size; intro he; exact hne (by rw [e, he]))]
    clear ho' hg'
    refine with_world (p := fun W' => wpAnyIn _ _ _ _ _ _ _ _ _ W') (fun W' => Below w.heap.size w W' ∧ Boxed W' w.heap.size 23 (.slice va 1 vc) ∧ Boxed W' (w.heap.size + 1) 3 (.int .i64 1) ∧ Own W' w.heap.size (.slice va 1 vc) (uintB 0)) hE ?_
    clear hE
    intro W5 hW5
    have HW5 := show Hid _ from hW5
    clear hW5
    refine wpAnyIn_done (by kernel_rfl) ?_ _
    go_simp
    gi_wp2_with (refine ⟨trivial, ?_⟩; gi_at_call 32; refine (runsOfB_any _ _ ⟨_, _, _, rfl⟩).mono ?_; rintro e w' ⟨rfl, rfl⟩)
    obtain ⟨W0, hW0⟩ : ∃ W0, W5.alloc (.cells #[(.slice (some ⟨b, o, none⟩) (r.length + 1) cap)] 28) = W0 := ⟨_, rfl⟩
    obtain ⟨Bs, hBsE⟩ : ∃ Bs, W5.heap.size = Bs := ⟨_, rfl⟩
    have bS : Boxed W0 Bs 28 (.slice (some ⟨b, o, none⟩) (r.length + 1) cap) := by rw [← hW0, ← hBsE]; exact Boxed.new W5 28 _
    have hB0 : Below w.heap.size w W0 := by rw [← hW0]; exact HW5.out.1.alloc HW5.out.1.size _
    have bL : Boxed W0 w.heap.size 23 (.slice va 1 vc) := by rw [← hW0]; exact HW5.out.2.1.alloc _
    have bR : Boxed W0 (w.heap.size + 1) 3 (.int .i64 ((([0] : List Nat).length + ([] : List RunB).length : Nat) : Int)) := by rw [← hW0]; exact HW5.out.2.2.1.alloc _
    have hO0 : Own W0 w.heap.size (.slice va 1 vc) (laidU (([0] : List Nat) ++ ([] : List RunB).map (·.1.2))) := by
      have h : Own W0 w.heap.size (.slice va 1 vc) (uintB 0) := by rw [← hW0]; exact Own.below HW5.out.2.2.2 (after_alloc (After.refl W5) _) (Nat.le_refl _)
      have e : laidU (([0] : List Nat) ++ ([] : List RunB).map (·.1.2)) = uintB 0 := by simp [laidU]
      rw [e]; exact h
    have hBs1 : w.heap.size + 1 < Bs := by rw [← hBsE]; exact HW5.out.2.2.1.lt
    simp only [hW0, hBsE]
    have hI0 : BoolsAt W0 (some ⟨b, o, none⟩) (true :: r) := fun hne => by
      obtain ⟨b', o', he, hc⟩ := hI hne
      cases he
      exact ⟨b, o, rfl, fun j hj => (hB0.cell (p := ⟨b, o + j, none⟩) hlt).trans (hc j hj)⟩
    have hlt0 : ∀ a, some (⟨b, o, none⟩ : Addr) = some a → (true :: r) ≠ [] → a.block < w.heap.size := fun a ha _ => by cases ha; exact hlt
    refine wpIn_rangeFunc_ownG rfl (by omega) (gf := 41) (lb := #[.pointer (some ⟨Bs, 0, none⟩)]) rfl trivial (enters_of Try.func41 (by kernel_rfl) rfl)
      (runsB_stops Bs w.heap.size cap _ (true :: r) hn W0 bS.lt hB0.size bS.cell hI0 hlt0) Kb.trans (fun W lp o o' h1 h2 h3 h4 => ⟨belowK_b hB0.size W lp o o' h1 h2 h3 h4, World.putObj_heap_other (by have := bS.lt; omega)⟩) (Below.refl _ _) (fun _ => rfl)
      (fun pre W => (∃ v, Boxed W w.heap.size 23 v ∧ Own W w.heap.size v (laidU (([0] : List Nat) ++ pre.map (·.1.2)))) ∧ Boxed W (w.heap.size + 1) 3 (.int .i64 ((([0] : List Nat).length + pre.length : Nat) : Int)) ∧ Boxed W Bs 28 (.slice (some ⟨b, o, none⟩) (r.length + 1) cap) ∧ Below w.heap.size w W)
      (fun _ _ _ => False)
      (fun pre W W' row hs hg hr => by
        have hne : ∀ {g : Nat} {t : TypeId} {u : Value}, Boxed W g t u → some g ≠ row := fun hb e => by
          obtain ⟨_, o, ho, hc⟩ := hr _ e.symm
          rw [show W.heap[_]? = _ from hb] at ho; cases ho; cases hc
        obtain ⟨⟨v, h1, h2⟩, h3, h4, h5⟩ := hs
        refine ⟨⟨v, h1.kept hg (hne h1), Own.keep' h2 (fun g e => ?_)⟩, h3.kept hg (hne h3), h4.kept hg (hne h4), h5.grown hg h5.size (fun k e => Nat.le_trans hB0.size (hr k e).1)⟩
        obtain ⟨c, t, f, hc⟩ := own_cells h2 e
        exact hg.block g (Array.getElem?_eq_some_iff.1 hc).1 (fun e' => by obtain ⟨_, o, ho, hc'⟩ := hr g e'.symm; rw [hc] at ho; cases ho; cases hc'))
      (fun _ _ _ _ _ hs _ _ => hs)
      ⟨⟨_, bL, hO0⟩, bR, bS, hB0⟩
      (fun x => { tmps := #[(.slice (some ⟨b, o, none⟩) (r.length + 1) cap), undef, (.slice none 0 0), (.pointer (some ⟨w.heap.size, 0, none⟩)), (.pointer (some ⟨w.heap.size + 1, 0, none⟩)), undef, (.int .i64 (x.1.2 : Int)), (.slice (some ⟨b, o, none⟩) (r.length + 1) cap), (.int .i64 ((r.length : Int) + 1)), (.bool true), (.bool true), (.slice (some ⟨b, o, none⟩) (r.length + 1) cap), (.pointer (some ⟨b, o, none⟩)), (.bool true), (.bool true), (.int .i64 0), (.int .i64 1), (.slice none 0 0), (.slice ua 1 uc), (.slice va 1 vc), (.slice (some ⟨b, o, none⟩) (r.length + 1) cap), (.func (.func 41) #[] #[.pointer (some ⟨Bs, 0, none⟩)]), (.bool x.1.1), (.int .i64 (x.1.2 : Int)), undef, undef, undef, undef, undef, undef, undef, undef, undef, undef, undef, undef], defers := [] }) ?assign ?body ?done ?stop
    case assign =>
      intro lp x W K hK
      gi_wp2
      exact hK
    case body =>
      rintro lp pre x W ⟨⟨v, h1, h2⟩, h3, h4, h5⟩ hltN
      have hc := h3.cell
      have hf := h3.frozen
      have K0 : RB w W0.heap.size Bs (.slice (some ⟨b, o, none⟩) (r.length + 1) cap) W W v (laidU (([0] : List Nat) ++ pre.map (·.1.2))) (([0] : List Nat).length + pre.length) := ⟨h1, h3, h4, h2, h5, KeepsFrom.refl _ _, Kb.refl _ _ _⟩
      have K1 := show Hid _ from RB.count hBs1 K0
      have hpl : pre.length ≤ 1048576 := by omega
      have HB1 : Hid ((laidU (([0] : List Nat) ++ pre.map (·.1.2))).length + (uintB x.1.2).length ≤ 140737488355328) := by
        have h6 := laidU_len (([0] : List Nat) ++ pre.map (·.1.2)) (fun n hn => by
          rcases List.mem_append.1 hn with h | h
          · exact hpfx n h
          · obtain ⟨y, _, rfl⟩ := List.mem_map.1 h; exact y.2)
        have h7 := uintB_len10 x.1.2 (by have := x.2; omega)
        unfold Hid
        simp only [List.length_append, List.length_map] at h6
        have := hpfl
        omega
      obtain ⟨f1, HF1⟩ : ∃ f, Hid ((laidU (([0] : List Nat) ++ pre.map (·.1.2))) ++ uintB x.1.2 = f) := ⟨_, rfl⟩
      have HPL : Hid (([0] : List Nat).length + (pre ++ [x]).length = ([0] : List Nat).length + pre.length + 1) := by unfold Hid; simp only [List.length_append, List.length_cons, List.length_nil]; omega
      generalize hmm : ([0] : List Nat).length + pre.length = mm at *
      clear h1 h2 h3 h4 h5 K0
      gi_wp2
      refine wpIn_region_any (by kernel_rfl) ?_
      refine with_world (p := fun W' => wpAnyIn _ _ _ _ _ _ _ _ _ W') (fun W' => RB w W0.heap.size Bs (.slice (some ⟨b, o, none⟩) (r.length + 1) cap) W W' v (laidU (([0] : List Nat) ++ pre.map (·.1.2))) (mm + 1)) K1.out.drew ?_
      clear K1 hc hf
      intro Wd Kd
      refine wpAnyIn_all (rs := [0, 1]) (fuel := 5) (by kernel_rfl) (by simp) (fun j hj => ?_)
      simp only [List.mem_cons, List.not_mem_nil, or_false] at hj
      rcases hj with rfl | rfl
      · refine opValIn 0 26 v Wd rfl (by kernel_rfl) (by kernel_rfl) (fun _ => trivial) (Oper.semAt_plain _ _ _ (fun _ h => by cases h)) (x_loadT (t := 23) (x := .tmp 3) (g := w.heap.size) (j := 0) Try.underlying23 rfl (by kernel_rfl) (by kernel_rfl) Kd.bl.cell) ?_
        refine wpAnyIn_all (rs := [1]) (fuel := 4) (by kernel_rfl) (by simp) (fun j hj => ?_)
        obtain rfl : j = 1 := by simpa using hj
        refine opValIn 1 27 (.int .i64 (x.1.2 : Int)) Wd rfl (by kernel_rfl) (by kernel_rfl) (fun _ => trivial) (Oper.semAt_plain _ _ _ (fun _ h => by cases h)) (by kernel_rfl) ?_
        refine wpAnyIn_all (rs := [2]) (fuel := 3) (by kernel_rfl) (by simp) (fun j hj => ?_)
        obtain rfl : j = 2 := by simpa using hj
        refine opValIn 2 28 (.int .u64 (x.1.2 : Int)) Wd rfl (by kernel_rfl) (by kernel_rfl) (fun _ => trivial) (Oper.semAt_plain _ _ _ (fun _ h => by cases h)) (x_conv49 (x := .tmp 27) (p := x.1.2) (by have := x.2; omega) (by kernel_rfl) (by kernel_rfl)) ?_
        refine wpAnyIn_all (rs := [3]) (fuel := 2) (by kernel_rfl) (by simp) (fun j hj => ?_)
        obtain rfl : j = 3 := by simpa using hj
        refine opCallIn 3 29 26 #[.int .u64 (x.1.2 : Int)] (fun u W' => Own W' Wd.heap.size u (uintB x.1.2) ∧ After Wd W') rfl (by kernel_rfl) (by kernel_rfl) (fun _ => trivial) rfl (Oper.semAt_plain _ _ _ (fun _ h => by cases h)) (fun _ => by kernel_rfl) (CallsIn.inRound lp (callsIn_wide.2 ((uint_any x.1.2 (by have := x.2; omega) Wd).mono (fun _ _ ⟨u, h1, h2, h3⟩ => ⟨u, h1, h2, h3⟩)))) ?_
        rintro u Wdc ⟨hu, hWdc⟩
        obtain ⟨ua, uc, rfl, hua, _, _⟩ := hu.at
        have KWdc := Kd.after hWdc
        refine wpAnyIn_all (rs := [4]) (fuel := 1) (by kernel_rfl) (by simp) (fun j hj => ?_)
        obtain rfl : j = 4 := by simpa using hj
        refine opAppIn 4 30 (.tmp 26) (.tmp 29) rfl (by kernel_rfl) (by kernel_rfl) (fun _ => trivial) (Oper.semAt_plain _ _ _ (fun _ h => by cases h)) (by kernel_rfl) w.heap.size _ (laidU (([0] : List Nat) ++ pre.map (·.1.2))) (by kernel_rfl) KWdc.own ua uc (uintB x.1.2) ((uintB x.1.2)).length rfl (by kernel_rfl) hua HB1.out KWdc.bel.size ?_
        intro v' Wdca ho' hg'
        rw [HF1.out] at ho'
        have AWdca := KWdc.app ho' hg' (.inr trivial)
        obtain ⟨va, vc, rfl, _, _, _⟩ := ho'.at
        refine wpAnyIn_all (rs := [5]) (fuel := 0) (by kernel_rfl) (by simp) (fun j hj => ?_)
        obtain rfl : j = 5 := by simpa using hj
        refine opStoreIn 5 23 (.tmp 3) (.tmp 30) w.heap.size va f1.length vc _ rfl (by kernel_rfl) (by kernel_rfl) (by kernel_rfl) (fun _ => trivial) (Oper.semAt_plain _ _ _ (fun _ h => by cases h)) (by kernel_rfl) (by kernel_rfl) AWdca.1 ?_
        have KE := RB.store hBs1 AWdca ho'
        refine wpAnyIn_done (by kernel_rfl) ?_ _
        exact ⟨KE.kf, KE.kb, ⟨⟨_, KE.bl, by rw [laidU_snoc, HF1.out]; exact KE.own⟩, by rw [HPL.out]; exact KE.br, KE.bs, KE.bel⟩⟩
      · refine opValIn 1 27 (.int .i64 (x.1.2 : Int)) Wd rfl (by kernel_rfl) (by kernel_rfl) (fun _ => trivial) (Oper.semAt_plain _ _ _ (fun _ h => by cases h)) (by kernel_rfl) ?_
        refine wpAnyIn_all (rs := [0, 2]) (fuel := 4) (by kernel_rfl) (by simp) (fun j hj => ?_)
        simp only [List.mem_cons, List.not_mem_nil, or_false] at hj
        rcases hj with rfl | rfl
        · refine opValIn 0 26 v Wd rfl (by kernel_rfl) (by kernel_rfl) (fun _ => trivial) (Oper.semAt_plain _ _ _ (fun _ h => by cases h)) (x_loadT (t := 23) (x := .tmp 3) (g := w.heap.size) (j := 0) Try.underlying23 rfl (by kernel_rfl) (by kernel_rfl) Kd.bl.cell) ?_
          refine wpAnyIn_all (rs := [2]) (fuel := 3) (by kernel_rfl) (by simp) (fun j hj => ?_)
          obtain rfl : j = 2 := by simpa using hj
          refine opValIn 2 28 (.int .u64 (x.1.2 : Int)) Wd rfl (by kernel_rfl) (by kernel_rfl) (fun _ => trivial) (Oper.semAt_plain _ _ _ (fun _ h => by cases h)) (x_conv49 (x := .tmp 27) (p := x.1.2) (by have := x.2; omega) (by kernel_rfl) (by kernel_rfl)) ?_
          refine wpAnyIn_all (rs := [3]) (fuel := 2) (by kernel_rfl) (by simp) (fun j hj => ?_)
          obtain rfl : j = 3 := by simpa using hj
          refine opCallIn 3 29 26 #[.int .u64 (x.1.2 : Int)] (fun u W' => Own W' Wd.heap.size u (uintB x.1.2) ∧ After Wd W') rfl (by kernel_rfl) (by kernel_rfl) (fun _ => trivial) rfl (Oper.semAt_plain _ _ _ (fun _ h => by cases h)) (fun _ => by kernel_rfl) (CallsIn.inRound lp (callsIn_wide.2 ((uint_any x.1.2 (by have := x.2; omega) Wd).mono (fun _ _ ⟨u, h1, h2, h3⟩ => ⟨u, h1, h2, h3⟩)))) ?_
          rintro u Wdc ⟨hu, hWdc⟩
          obtain ⟨ua, uc, rfl, hua, _, _⟩ := hu.at
          have KWdc := Kd.after hWdc
          refine wpAnyIn_all (rs := [4]) (fuel := 1) (by kernel_rfl) (by simp) (fun j hj => ?_)
          obtain rfl : j = 4 := by simpa using hj
          refine opAppIn 4 30 (.tmp 26) (.tmp 29) rfl (by kernel_rfl) (by kernel_rfl) (fun _ => trivial) (Oper.semAt_plain _ _ _ (fun _ h => by cases h)) (by kernel_rfl) w.heap.size _ (laidU (([0] : List Nat) ++ pre.map (·.1.2))) (by kernel_rfl) KWdc.own ua uc (uintB x.1.2) ((uintB x.1.2)).length rfl (by kernel_rfl) hua HB1.out KWdc.bel.size ?_
          intro v' Wdca ho' hg'
          rw [HF1.out] at ho'
          have AWdca := KWdc.app ho' hg' (.inr trivial)
          obtain ⟨va, vc, rfl, _, _, _⟩ := ho'.at
          refine wpAnyIn_all (rs := [5]) (fuel := 0) (by kernel_rfl) (by simp) (fun j hj => ?_)
          obtain rfl : j = 5 := by simpa using hj
          refine opStoreIn 5 23 (.tmp 3) (.tmp 30) w.heap.size va f1.length vc _ rfl (by kernel_rfl) (by kernel_rfl) (by kernel_rfl) (fun _ => trivial) (Oper.semAt_plain _ _ _ (fun _ h => by cases h)) (by kernel_rfl) (by kernel_rfl) AWdca.1 ?_
          have KE := RB.store hBs1 AWdca ho'
          refine wpAnyIn_done (by kernel_rfl) ?_ _
          exact ⟨KE.kf, KE.kb, ⟨⟨_, KE.bl, by rw [laidU_snoc, HF1.out]; exact KE.own⟩, by rw [HPL.out]; exact KE.br, KE.bs, KE.bel⟩⟩
        · refine opValIn 2 28 (.int .u64 (x.1.2 : Int)) Wd rfl (by kernel_rfl) (by kernel_rfl) (fun _ => trivial) (Oper.semAt_plain _ _ _ (fun _ h => by cases h)) (x_conv49 (x := .tmp 27) (p := x.1.2) (by have := x.2; omega) (by kernel_rfl) (by kernel_rfl)) ?_
          refine wpAnyIn_all (rs := [0, 3]) (fuel := 3) (by kernel_rfl) (by simp) (fun j hj => ?_)
          simp only [List.mem_cons, List.not_mem_nil, or_false] at hj
          rcases hj with rfl | rfl
          · refine opValIn 0 26 v Wd rfl (by kernel_rfl) (by kernel_rfl) (fun _ => trivial) (Oper.semAt_plain _ _ _ (fun _ h => by cases h)) (x_loadT (t := 23) (x := .tmp 3) (g := w.heap.size) (j := 0) Try.underlying23 rfl (by kernel_rfl) (by kernel_rfl) Kd.bl.cell) ?_
            refine wpAnyIn_all (rs := [3]) (fuel := 2) (by kernel_rfl) (by simp) (fun j hj => ?_)
            obtain rfl : j = 3 := by simpa using hj
            refine opCallIn 3 29 26 #[.int .u64 (x.1.2 : Int)] (fun u W' => Own W' Wd.heap.size u (uintB x.1.2) ∧ After Wd W') rfl (by kernel_rfl) (by kernel_rfl) (fun _ => trivial) rfl (Oper.semAt_plain _ _ _ (fun _ h => by cases h)) (fun _ => by kernel_rfl) (CallsIn.inRound lp (callsIn_wide.2 ((uint_any x.1.2 (by have := x.2; omega) Wd).mono (fun _ _ ⟨u, h1, h2, h3⟩ => ⟨u, h1, h2, h3⟩)))) ?_
            rintro u Wdc ⟨hu, hWdc⟩
            obtain ⟨ua, uc, rfl, hua, _, _⟩ := hu.at
            have KWdc := Kd.after hWdc
            refine wpAnyIn_all (rs := [4]) (fuel := 1) (by kernel_rfl) (by simp) (fun j hj => ?_)
            obtain rfl : j = 4 := by simpa using hj
            refine opAppIn 4 30 (.tmp 26) (.tmp 29) rfl (by kernel_rfl) (by kernel_rfl) (fun _ => trivial) (Oper.semAt_plain _ _ _ (fun _ h => by cases h)) (by kernel_rfl) w.heap.size _ (laidU (([0] : List Nat) ++ pre.map (·.1.2))) (by kernel_rfl) KWdc.own ua uc (uintB x.1.2) ((uintB x.1.2)).length rfl (by kernel_rfl) hua HB1.out KWdc.bel.size ?_
            intro v' Wdca ho' hg'
            rw [HF1.out] at ho'
            have AWdca := KWdc.app ho' hg' (.inr trivial)
            obtain ⟨va, vc, rfl, _, _, _⟩ := ho'.at
            refine wpAnyIn_all (rs := [5]) (fuel := 0) (by kernel_rfl) (by simp) (fun j hj => ?_)
            obtain rfl : j = 5 := by simpa using hj
            refine opStoreIn 5 23 (.tmp 3) (.tmp 30) w.heap.size va f1.length vc _ rfl (by kernel_rfl) (by kernel_rfl) (by kernel_rfl) (fun _ => trivial) (Oper.semAt_plain _ _ _ (fun _ h => by cases h)) (by kernel_rfl) (by kernel_rfl) AWdca.1 ?_
            have KE := RB.store hBs1 AWdca ho'
            refine wpAnyIn_done (by kernel_rfl) ?_ _
            exact ⟨KE.kf, KE.kb, ⟨⟨_, KE.bl, by rw [laidU_snoc, HF1.out]; exact KE.own⟩, by rw [HPL.out]; exact KE.br, KE.bs, KE.bel⟩⟩
          · refine opCallIn 3 29 26 #[.int .u64 (x.1.2 : Int)] (fun u W' => Own W' Wd.heap.size u (uintB x.1.2) ∧ After Wd W') rfl (by kernel_rfl) (by kernel_rfl) (fun _ => trivial) rfl (Oper.semAt_plain _ _ _ (fun _ h => by cases h)) (fun _ => by kernel_rfl) (CallsIn.inRound lp (callsIn_wide.2 ((uint_any x.1.2 (by have := x.2; omega) Wd).mono (fun _ _ ⟨u, h1, h2, h3⟩ => ⟨u, h1, h2, h3⟩)))) ?_
            rintro u Wdc ⟨hu, hWdc⟩
            obtain ⟨ua, uc, rfl, hua, _, _⟩ := hu.at
            have KWdc := Kd.after hWdc
            refine wpAnyIn_all (rs := [0]) (fuel := 2) (by kernel_rfl) (by simp) (fun j hj => ?_)
            obtain rfl : j = 0 := by simpa using hj
            refine opValIn 0 26 v Wdc rfl (by kernel_rfl) (by kernel_rfl) (fun _ => trivial) (Oper.semAt_plain _ _ _ (fun _ h => by cases h)) (x_loadT (t := 23) (x := .tmp 3) (g := w.heap.size) (j := 0) Try.underlying23 rfl (by kernel_rfl) (by kernel_rfl) KWdc.bl.cell) ?_
            refine wpAnyIn_all (rs := [4]) (fuel := 1) (by kernel_rfl) (by simp) (fun j hj => ?_)
            obtain rfl : j = 4 := by simpa using hj
            refine opAppIn 4 30 (.tmp 26) (.tmp 29) rfl (by kernel_rfl) (by kernel_rfl) (fun _ => trivial) (Oper.semAt_plain _ _ _ (fun _ h => by cases h)) (by kernel_rfl) w.heap.size _ (laidU (([0] : List Nat) ++ pre.map (·.1.2))) (by kernel_rfl) KWdc.own ua uc (uintB x.1.2) ((uintB x.1.2)).length rfl (by kernel_rfl) hua HB1.out KWdc.bel.size ?_
            intro v' Wdca ho' hg'
            rw [HF1.out] at ho'
            have AWdca := KWdc.app ho' hg' (.inr trivial)
            obtain ⟨va, vc, rfl, _, _, _⟩ := ho'.at
            refine wpAnyIn_all (rs := [5]) (fuel := 0) (by kernel_rfl) (by simp) (fun j hj => ?_)
            obtain rfl : j = 5 := by simpa using hj
            refine opStoreIn 5 23 (.tmp 3) (.tmp 30) w.heap.size va f1.length vc _ rfl (by kernel_rfl) (by kernel_rfl) (by kernel_rfl) (fun _ => trivial) (Oper.semAt_plain _ _ _ (fun _ h => by cases h)) (by kernel_rfl) (by kernel_rfl) AWdca.1 ?_
            have KE := RB.store hBs1 AWdca ho'
            refine wpAnyIn_done (by kernel_rfl) ?_ _
            exact ⟨KE.kf, KE.kb, ⟨⟨_, KE.bl, by rw [laidU_snoc, HF1.out]; exact KE.own⟩, by rw [HPL.out]; exact KE.br, KE.bs, KE.bel⟩⟩
    case done =>
      rintro D ys W hD hys ⟨⟨v, h1, h2⟩, h3, h4, h5⟩ hK
      have hfl : ([0] : List Nat) ++ ys.map (·.1.2) = flagLens (true :: r) := by
        have := congrArg (List.map (·.2)) hys
        rw [List.map_map] at this
        unfold flagLens
        rw [← this, hpfe]
        rfl
      have hm : ([0] : List Nat).length + ys.length = (flagLens (true :: r)).length := by rw [← hfl]; simp only [List.length_append, List.length_map]
      have hml := runs_len (true :: r)
      have hyl : ys.length = (runs (true :: r)).length := by rw [← hys]; simp
      have h20 := laidU_len (flagLens (true :: r)) (fun n hn => by
        rw [← hfl] at hn
        rcases List.mem_append.1 hn with h | h
        · exact hpfx n h
        · obtain ⟨y, _, rfl⟩ := List.mem_map.1 h; exact y.2)
      obtain ⟨m, hmm⟩ : ∃ m, ([0] : List Nat).length + ys.length = m := ⟨_, rfl⟩
      have bm : m ≤ 1048577 := by have := hpfl; omega
      rw [hfl] at h2
      rw [hmm] at h3 hm
      rw [← hm] at h20
      obtain ⟨lb, HLB⟩ : ∃ x, Hid (laidU (flagLens (true :: r)) = x) := ⟨_, rfl⟩
      rw [HLB.out] at h2 h20
      have HRB : Hid (uintB m ++ lb = flagsB (true :: r)) := by unfold Hid flagsB; rw [hm, HLB.out]
      have HBB : Hid ((uintB m).length + lb.length ≤ 140737488355328) := by have := uintB_len10 m (by omega); unfold Hid; omega
      obtain ⟨va, vc, rfl, hat, _, _⟩ := h2.at
      have HAT0 := show Hid (BytesAt W va lb) from hat
      have HWW : Hid (Below w.heap.size w W) := h5
      have HKD0 : Hid (W.heap[D]? = some (.deferred (some []))) := hK
      have HDW : Hid (w.heap.size ≤ D) := Nat.le_trans hB0.size hD
      have H1 := show Hid (Boxed W w.heap.size 23 (.slice va lb.length vc)) from h1
      have H3 := show Hid (Boxed W (w.heap.size + 1) 3 (.int .i64 (m : Int))) from h3
      clear h1 h2 h3 h4 h5 hK hat hD h20 hm hml hmm hys hfl hyl
      gi_wp2
      refine wpIn_region_any (by kernel_rfl) ?_
      refine with_world (p := fun W' => wpAnyIn _ _ _ _ _ _ _ _ _ W') (fun W' => After W W') (After.drew (After.refl W)) ?_
      intro Wd hWd
      have HLD : Hid (∀ W', After Wd W' → W'.cell? ⟨w.heap.size + 1, 0, none⟩ = some (.int .i64 (m : Int))) := fun W' hA => (Below.cell (hWd.trans hA) (p := ⟨w.heap.size + 1, 0, none⟩) H3.out.lt).trans H3.out.cell
      have HLV : Hid (∀ W', After Wd W' → W'.cell? ⟨w.heap.size, 0, none⟩ = some (.slice va lb.length vc)) := fun W' hA => (Below.cell (hWd.trans hA) (p := ⟨w.heap.size, 0, none⟩) H1.out.lt).trans H1.out.cell
      have HAT : Hid (∀ W', After Wd W' → BytesAt W' va lb) := fun W' hA => HAT0.out.after (hWd.trans hA)
      have hDl : D < W.heap.size := (Array.getElem?_eq_some_iff.1 HKD0.out).1
      have HKD : Hid (Wd.heap[D]? = some (.deferred (some []))) := (hWd.block D hDl).trans HKD0.out
      have HDL : Hid (D < Wd.heap.size) := Nat.lt_of_lt_of_le hDl hWd.size
      have HWd : Hid (Below w.heap.size w Wd) := HWW.out.trans (Below.mono hWd HWW.out.size)
      have hS0 : After Wd Wd := After.refl Wd
      refine wpAnyIn_all (rs := [0, 3]) (fuel := 5) (by kernel_rfl) (by simp) (fun j hj => ?_)
      simp only [List.mem_cons, List.not_mem_nil, or_false] at hj
      rcases hj with rfl | rfl
      · refine opValIn 0 31 (.int .i64 (m : Int)) Wd rfl (by kernel_rfl) (by kernel_rfl) (fun _ => trivial) rfl (x_loadT (t := 3) (x := .tmp 4) (g := w.heap.size + 1) (j := 0) Try.underlying3 rfl (by kernel_rfl) (by kernel_rfl) (HLD.out _ hS0)) ?_
        refine wpAnyIn_all (rs := [1, 3]) (fuel := 4) (by kernel_rfl) (by simp) (fun j hj => ?_)
        simp only [List.mem_cons, List.not_mem_nil, or_false] at hj
        rcases hj with rfl | rfl
        · refine opValIn 1 32 (.int .u64 (m : Int)) Wd rfl (by kernel_rfl) (by kernel_rfl) (fun _ => trivial) rfl (x_conv49 (x := .tmp 31) (p := m) (by omega) (by kernel_rfl) (by kernel_rfl)) ?_
          refine wpAnyIn_all (rs := [2, 3]) (fuel := 3) (by kernel_rfl) (by simp) (fun j hj => ?_)
          simp only [List.mem_cons, List.not_mem_nil, or_false] at hj
          rcases hj with rfl | rfl
          · refine opCallIn 2 33 26 #[.int .u64 (m : Int)] (fun u W' => Own W' Wd.heap.size u (uintB m) ∧ After Wd W') rfl (by kernel_rfl) (by kernel_rfl) (fun _ => trivial) rfl rfl (fun _ => by kernel_rfl) (callsIn_wide.2 ((uint_any m (by omega) Wd).mono (fun _ _ ⟨u, h1, h2, h3⟩ => ⟨u, h1, h2, h3⟩))) ?_
            rintro u Wdc ⟨hu, hWdc⟩
            have AWdc : After Wd Wdc := hS0.trans hWdc
            have hu1 := hu.mono hS0.size
            refine wpAnyIn_all (rs := [3]) (fuel := 2) (by kernel_rfl) (by simp) (fun j hj => ?_)
            obtain rfl : j = 3 := by simpa using hj
            refine opValIn 3 34 (.slice va lb.length vc) Wdc rfl (by kernel_rfl) (by kernel_rfl) (fun _ => trivial) rfl (x_loadT (t := 23) (x := .tmp 3) (g := w.heap.size) (j := 0) Try.underlying23 rfl (by kernel_rfl) (by kernel_rfl) (HLV.out _ AWdc)) ?_
            refine wpAnyIn_all (rs := [4]) (fuel := 1) (by kernel_rfl) (by simp) (fun j hj => ?_)
            obtain rfl : j = 4 := by simpa using hj
            refine opAppIn 4 35 (.tmp 33) (.tmp 34) rfl (by kernel_rfl) (by kernel_rfl) (fun _ => trivial) rfl (by kernel_rfl) Wd.heap.size _ (uintB m) (by kernel_rfl) hu1 va vc lb lb.length rfl (by kernel_rfl) (HAT.out _ AWdc) HBB.out AWdc.size ?_
            intro v' Wdca ho' hg'
            rw [HRB.out] at ho'
            have B' : After Wd Wdca := after_grown AWdc hg' (Nat.le_refl _) (fun k hk => (World.ownsRow.lt hu1 k hk).1)
            refine wpAnyIn_all (rs := [5]) (fuel := 0) (by kernel_rfl) (by simp) (fun j hj => ?_)
            obtain rfl : j = 5 := by simpa using hj
            refine opValIn 5 2 v' Wdca rfl (by kernel_rfl) (by kernel_rfl) (fun _ => trivial) rfl (by kernel_rfl) ?_
            refine wpAnyIn_done (by kernel_rfl) ?_ _
            have HO' := show Hid (Own _ _ v' (flagsB (true :: r))) from ho'
            clear ho' hg'
            go_simp
            gi_wp2
            have hK' : Wdca.heap[D]? = some (.deferred (some [])) := (B'.block D HDL.out).trans HKD.out
            refine ⟨by simp, .inl ⟨_, _, rfl, run_takeDeferred hK', ?_⟩⟩
            exact ⟨_, results_tmp rfl _ _ _, v', rfl, ownsRow_putObj (Own.mono HO'.out HWd.out.size) _ hK' rfl, (HWd.out.trans (B'.mono HWd.out.size)).trans (belowK_b (w := w) (Nat.le_refl _) Wdca D _ _ HDW.out hK' rfl rfl)⟩
          · refine opValIn 3 34 (.slice va lb.length vc) Wd rfl (by kernel_rfl) (by kernel_rfl) (fun _ => trivial) rfl (x_loadT (t := 23) (x := .tmp 3) (g := w.heap.size) (j := 0) Try.underlying23 rfl (by kernel_rfl) (by kernel_rfl) (HLV.out _ hS0)) ?_
            refine wpAnyIn_all (rs := [2]) (fuel := 2) (by kernel_rfl) (by simp) (fun j hj => ?_)
            obtain rfl : j = 2 := by simpa using hj
            refine opCallIn 2 33 26 #[.int .u64 (m : Int)] (fun u W' => Own W' Wd.heap.size u (uintB m) ∧ After Wd W') rfl (by kernel_rfl) (by kernel_rfl) (fun _ => trivial) rfl rfl (fun _ => by kernel_rfl) (callsIn_wide.2 ((uint_any m (by omega) Wd).mono (fun _ _ ⟨u, h1, h2, h3⟩ => ⟨u, h1, h2, h3⟩))) ?_
            rintro u Wdc ⟨hu, hWdc⟩
            have AWdc : After Wd Wdc := hS0.trans hWdc
            have hu1 := hu.mono hS0.size
            refine wpAnyIn_all (rs := [4]) (fuel := 1) (by kernel_rfl) (by simp) (fun j hj => ?_)
            obtain rfl : j = 4 := by simpa using hj
            refine opAppIn 4 35 (.tmp 33) (.tmp 34) rfl (by kernel_rfl) (by kernel_rfl) (fun _ => trivial) rfl (by kernel_rfl) Wd.heap.size _ (uintB m) (by kernel_rfl) hu1 va vc lb lb.length rfl (by kernel_rfl) (HAT.out _ AWdc) HBB.out AWdc.size ?_
            intro v' Wdca ho' hg'
            rw [HRB.out] at ho'
            have B' : After Wd Wdca := after_grown AWdc hg' (Nat.le_refl _) (fun k hk => (World.ownsRow.lt hu1 k hk).1)
            refine wpAnyIn_all (rs := [5]) (fuel := 0) (by kernel_rfl) (by simp) (fun j hj => ?_)
            obtain rfl : j = 5 := by simpa using hj
            refine opValIn 5 2 v' Wdca rfl (by kernel_rfl) (by kernel_rfl) (fun _ => trivial) rfl (by kernel_rfl) ?_
            refine wpAnyIn_done (by kernel_rfl) ?_ _
            have HO' := show Hid (Own _ _ v' (flagsB (true :: r))) from ho'
            clear ho' hg'
            go_simp
            gi_wp2
            have hK' : Wdca.heap[D]? = some (.deferred (some [])) := (B'.block D HDL.out).trans HKD.out
            refine ⟨by simp, .inl ⟨_, _, rfl, run_takeDeferred hK', ?_⟩⟩
            exact ⟨_, results_tmp rfl _ _ _, v', rfl, ownsRow_putObj (Own.mono HO'.out HWd.out.size) _ hK' rfl, (HWd.out.trans (B'.mono HWd.out.size)).trans (belowK_b (w := w) (Nat.le_refl _) Wdca D _ _ HDW.out hK' rfl rfl)⟩
        · refine opValIn 3 34 (.slice va lb.length vc) Wd rfl (by kernel_rfl) (by kernel_rfl) (fun _ => trivial) rfl (x_loadT (t := 23) (x := .tmp 3) (g := w.heap.size) (j := 0) Try.underlying23 rfl (by kernel_rfl) (by kernel_rfl) (HLV.out _ hS0)) ?_
          refine wpAnyIn_all (rs := [1]) (fuel := 3) (by kernel_rfl) (by simp) (fun j hj => ?_)
          obtain rfl : j = 1 := by simpa using hj
          refine opValIn 1 32 (.int .u64 (m : Int)) Wd rfl (by kernel_rfl) (by kernel_rfl) (fun _ => trivial) rfl (x_conv49 (x := .tmp 31) (p := m) (by omega) (by kernel_rfl) (by kernel_rfl)) ?_
          refine wpAnyIn_all (rs := [2]) (fuel := 2) (by kernel_rfl) (by simp) (fun j hj => ?_)
          obtain rfl : j = 2 := by simpa using hj
          refine opCallIn 2 33 26 #[.int .u64 (m : Int)] (fun u W' => Own W' Wd.heap.size u (uintB m) ∧ After Wd W') rfl (by kernel_rfl) (by kernel_rfl) (fun _ => trivial) rfl rfl (fun _ => by kernel_rfl) (callsIn_wide.2 ((uint_any m (by omega) Wd).mono (fun _ _ ⟨u, h1, h2, h3⟩ => ⟨u, h1, h2, h3⟩))) ?_
          rintro u Wdc ⟨hu, hWdc⟩
          have AWdc : After Wd Wdc := hS0.trans hWdc
          have hu1 := hu.mono hS0.size
          refine wpAnyIn_all (rs := [4]) (fuel := 1) (by kernel_rfl) (by simp) (fun j hj => ?_)
          obtain rfl : j = 4 := by simpa using hj
          refine opAppIn 4 35 (.tmp 33) (.tmp 34) rfl (by kernel_rfl) (by kernel_rfl) (fun _ => trivial) rfl (by kernel_rfl) Wd.heap.size _ (uintB m) (by kernel_rfl) hu1 va vc lb lb.length rfl (by kernel_rfl) (HAT.out _ AWdc) HBB.out AWdc.size ?_
          intro v' Wdca ho' hg'
          rw [HRB.out] at ho'
          have B' : After Wd Wdca := after_grown AWdc hg' (Nat.le_refl _) (fun k hk => (World.ownsRow.lt hu1 k hk).1)
          refine wpAnyIn_all (rs := [5]) (fuel := 0) (by kernel_rfl) (by simp) (fun j hj => ?_)
          obtain rfl : j = 5 := by simpa using hj
          refine opValIn 5 2 v' Wdca rfl (by kernel_rfl) (by kernel_rfl) (fun _ => trivial) rfl (by kernel_rfl) ?_
          refine wpAnyIn_done (by kernel_rfl) ?_ _
          have HO' := show Hid (Own _ _ v' (flagsB (true :: r))) from ho'
          clear ho' hg'
          go_simp
          gi_wp2
          have hK' : Wdca.heap[D]? = some (.deferred (some [])) := (B'.block D HDL.out).trans HKD.out
          refine ⟨by simp, .inl ⟨_, _, rfl, run_takeDeferred hK', ?_⟩⟩
          exact ⟨_, results_tmp rfl _ _ _, v', rfl, ownsRow_putObj (Own.mono HO'.out HWd.out.size) _ hK' rfl, (HWd.out.trans (B'.mono HWd.out.size)).trans (belowK_b (w := w) (Nat.le_refl _) Wdca D _ _ HDW.out hK' rfl rfl)⟩
      · refine opValIn 3 34 (.slice va lb.length vc) Wd rfl (by kernel_rfl) (by kernel_rfl) (fun _ => trivial) rfl (x_loadT (t := 23) (x := .tmp 3) (g := w.heap.size) (j := 0) Try.underlying23 rfl (by kernel_rfl) (by kernel_rfl) (HLV.out _ hS0)) ?_
        refine wpAnyIn_all (rs := [0]) (fuel := 4) (by kernel_rfl) (by simp) (fun j hj => ?_)
        obtain rfl : j = 0 := by simpa using hj
        refine opValIn 0 31 (.int .i64 (m : Int)) Wd rfl (by kernel_rfl) (by kernel_rfl) (fun _ => trivial) rfl (x_loadT (t := 3) (x := .tmp 4) (g := w.heap.size + 1) (j := 0) Try.underlying3 rfl (by kernel_rfl) (by kernel_rfl) (HLD.out _ hS0)) ?_
        refine wpAnyIn_all (rs := [1]) (fuel := 3) (by kernel_rfl) (by simp) (fun j hj => ?_)
        obtain rfl : j = 1 := by simpa using hj
        refine opValIn 1 32 (.int .u64 (m : Int)) Wd rfl (by kernel_rfl) (by kernel_rfl) (fun _ => trivial) rfl (x_conv49 (x := .tmp 31) (p := m) (by omega) (by kernel_rfl) (by kernel_rfl)) ?_
        refine wpAnyIn_all (rs := [2]) (fuel := 2) (by kernel_rfl) (by simp) (fun j hj => ?_)
        obtain rfl : j = 2 := by simpa using hj
        refine opCallIn 2 33 26 #[.int .u64 (m : Int)] (fun u W' => Own W' Wd.heap.size u (uintB m) ∧ After Wd W') rfl (by kernel_rfl) (by kernel_rfl) (fun _ => trivial) rfl rfl (fun _ => by kernel_rfl) (callsIn_wide.2 ((uint_any m (by omega) Wd).mono (fun _ _ ⟨u, h1, h2, h3⟩ => ⟨u, h1, h2, h3⟩))) ?_
        rintro u Wdc ⟨hu, hWdc⟩
        have AWdc : After Wd Wdc := hS0.trans hWdc
        have hu1 := hu.mono hS0.size
        refine wpAnyIn_all (rs := [4]) (fuel := 1) (by kernel_rfl) (by simp) (fun j hj => ?_)
        obtain rfl : j = 4 := by simpa using hj
        refine opAppIn 4 35 (.tmp 33) (.tmp 34) rfl (by kernel_rfl) (by kernel_rfl) (fun _ => trivial) rfl (by kernel_rfl) Wd.heap.size _ (uintB m) (by kernel_rfl) hu1 va vc lb lb.length rfl (by kernel_rfl) (HAT.out _ AWdc) HBB.out AWdc.size ?_
        intro v' Wdca ho' hg'
        rw [HRB.out] at ho'
        have B' : After Wd Wdca := after_grown AWdc hg' (Nat.le_refl _) (fun k hk => (World.ownsRow.lt hu1 k hk).1)
        refine wpAnyIn_all (rs := [5]) (fuel := 0) (by kernel_rfl) (by simp) (fun j hj => ?_)
        obtain rfl : j = 5 := by simpa using hj
        refine opValIn 5 2 v' Wdca rfl (by kernel_rfl) (by kernel_rfl) (fun _ => trivial) rfl (by kernel_rfl) ?_
        refine wpAnyIn_done (by kernel_rfl) ?_ _
        have HO' := show Hid (Own _ _ v' (flagsB (true :: r))) from ho'
        clear ho' hg'
        go_simp
        gi_wp2
        have hK' : Wdca.heap[D]? = some (.deferred (some [])) := (B'.block D HDL.out).trans HKD.out
        refine ⟨by simp, .inl ⟨_, _, rfl, run_takeDeferred hK', ?_⟩⟩
        exact ⟨_, results_tmp rfl _ _ _, v', rfl, ownsRow_putObj (Own.mono HO'.out HWd.out.size) _ hK' rfl, (HWd.out.trans (B'.mono HWd.out.size)).trans (belowK_b (w := w) (Nat.le_refl _) Wdca D _ _ HDW.out hK' rfl rfl)⟩
    case stop =>
      rintro D c pre W _ _ h _
      exact h.elim
  · refine opCallIn 1 18 26 #[.int .u64 0] (fun u W' => Own W' Wd.heap.size u (uintB 0) ∧ After Wd W') rfl (by kernel_rfl) (by kernel_rfl) (fun _ => trivial) rfl rfl (fun _ => by kernel_rfl) (callsIn_wide.2 ((uint_any 0 (by omega) Wd).mono (fun _ _ ⟨u, h1, h2, h3⟩ => ⟨u, h1, h2, h3⟩))) ?_
    rintro u Wdc ⟨hu, hWdc⟩
    obtain ⟨ua, uc, hue, hua, _, _⟩ := hu.at
    rw [show (uintB 0).length = 1 from by decide +kernel] at hue
    subst hue
    have AWdc : After Wd Wdc := hS0.trans hWdc
    refine wpAnyIn_all (rs := [0]) (fuel := 2) (by kernel_rfl) (by simp) (fun j hj => ?_)
    obtain rfl : j = 0 := by simpa using hj
    refine opValIn 0 17 (.slice none 0 0) Wdc rfl (by kernel_rfl) (by kernel_rfl) (fun _ => trivial) rfl (x_loadT (t := 23) (x := .tmp 3) (g := w.heap.size) (j := 0) Try.underlying23 rfl (by kernel_rfl) (by kernel_rfl) (HL.out _ AWdc).cell) ?_
    refine wpAnyIn_all (rs := [2]) (fuel := 1) (by kernel_rfl) (by simp) (fun j hj => ?_)
    obtain rfl : j = 2 := by simpa using hj
    refine opAppIn 2 19 (.tmp 17) (.tmp 18) rfl (by kernel_rfl) (by kernel_rfl) (fun _ => trivial) rfl (by kernel_rfl) w.heap.size _ [] (by kernel_rfl) (Own.nil _ _) ua uc (uintB 0) 1 (by decide +kernel) (by kernel_rfl) hua (by decide +kernel) (Nat.le_trans HWd.out.size AWdc.size) ?_
    intro v' Wdca ho' hg'
    rw [List.nil_append] at ho'
    have B' : After Wd Wdca := after_grown AWdc hg' (Nat.le_refl _) (fun k hk => by cases hk)
    obtain ⟨va, vc, hve, _, _, _⟩ := ho'.at
    rw [show (uintB 0).length = 1 from by decide +kernel] at hve
    subst hve
    refine wpAnyIn_all (rs := [3]) (fuel := 0) (by kernel_rfl) (by simp) (fun j hj => ?_)
    obtain rfl : j = 3 := by simpa using hj
    refine opStoreIn 3 23 (.tmp 3) (.tmp 19) w.heap.size va 1 vc _ rfl (by kernel_rfl) (by kernel_rfl) (by kernel_rfl) (fun _ => trivial) rfl (by kernel_rfl) (by kernel_rfl) (HL.out _ B') ?_
    have hE : Below w.heap.size w (Wdca.setCell ⟨w.heap.size, 0, none⟩ (.slice va 1 vc)) ∧ Boxed (Wdca.setCell ⟨w.heap.size, 0, none⟩ (.slice va 1 vc)) w.heap.size 23 (.slice va 1 vc) ∧ Boxed (Wdca.setCell ⟨w.heap.size, 0, none⟩ (.slice va 1 vc)) (w.heap.size + 1) 3 (.int .i64 1) ∧ Own (Wdca.setCell ⟨w.heap.size, 0, none⟩ (.slice va 1 vc)) w.heap.size (.slice va 1 vc) (uintB 0) := by
      have hB := HWd.out.trans (Below.mono B' HWd.out.size)
      have hgg := grownBy_setCell' Wdca w.heap.size (.slice va 1 vc)
      refine ⟨hB.setCell (p := ⟨w.heap.size, 0, none⟩) (Nat.le_refl _) _, (HL.out _ B').set _, (HR.out _ B').kept hgg (by simp), Own.keep' ho' (fun g e => ?_)⟩
      have hne : some w.heap.size ≠ Value.ownBlock (.slice va 1 vc) := Boxed.not_row (HL.out _ B') (by decide) ho'
      rw [heap_setCell_other Wdca _ g _ (by show g ≠ w.heap.size; intro he; exact hne (by rw [e, he]))]
    clear ho' hg'
    refine with_world (p := fun W' => wpAnyIn _ _ _ _ _ _ _ _ _ W') (fun W' => Below w.heap.size w W' ∧ Boxed W' w.heap.size 23 (.slice va 1 vc) ∧ Boxed W' (w.heap.size + 1) 3 (.int .i64 1) ∧ Own W' w.heap.size (.slice va 1 vc) (uintB 0)) hE ?_
    clear hE
    intro W5 hW5
    have HW5 := show Hid _ from hW5
    clear hW5
    refine wpAnyIn_done (by kernel_rfl) ?_ _
    go_simp
    gi_wp2_with (refine ⟨trivial, ?_⟩; gi_at_call 32; refine (runsOfB_any _ _ ⟨_, _, _, rfl⟩).mono ?_; rintro e w' ⟨rfl, rfl⟩)
    obtain ⟨W0, hW0⟩ : ∃ W0, W5.alloc (.cells #[(.slice (some ⟨b, o, none⟩) (r.length + 1) cap)] 28) = W0 := ⟨_, rfl⟩
    obtain ⟨Bs, hBsE⟩ : ∃ Bs, W5.heap.size = Bs := ⟨_, rfl⟩
    have bS : Boxed W0 Bs 28 (.slice (some ⟨b, o, none⟩) (r.length + 1) cap) := by rw [← hW0, ← hBsE]; exact Boxed.new W5 28 _
    have hB0 : Below w.heap.size w W0 := by rw [← hW0]; exact HW5.out.1.alloc HW5.out.1.size _
    have bL : Boxed W0 w.heap.size 23 (.slice va 1 vc) := by rw [← hW0]; exact HW5.out.2.1.alloc _
    have bR : Boxed W0 (w.heap.size + 1) 3 (.int .i64 ((([0] : List Nat).length + ([] : List RunB).length : Nat) : Int)) := by rw [← hW0]; exact HW5.out.2.2.1.alloc _
    have hO0 : Own W0 w.heap.size (.slice va 1 vc) (laidU (([0] : List Nat) ++ ([] : List RunB).map (·.1.2))) := by
      have h : Own W0 w.heap.size (.slice va 1 vc) (uintB 0) := by rw [← hW0]; exact Own.below HW5.out.2.2.2 (after_alloc (After.refl W5) _) (Nat.le_refl _)
      have e : laidU (([0] : List Nat) ++ ([] : List RunB).map (·.1.2)) = uintB 0 := by simp [laidU]
      rw [e]; exact h
    have hBs1 : w.heap.size + 1 < Bs := by rw [← hBsE]; exact HW5.out.2.2.1.lt
    simp only [hW0, hBsE]
    have hI0 : BoolsAt W0 (some ⟨b, o, none⟩) (true :: r) := fun hne => by
      obtain ⟨b', o', he, hc⟩ := hI hne
      cases he
      exact ⟨b, o, rfl, fun j hj => (hB0.cell (p := ⟨b, o + j, none⟩) hlt).trans (hc j hj)⟩
    have hlt0 : ∀ a, some (⟨b, o, none⟩ : Addr) = some a → (true :: r) ≠ [] → a.block < w.heap.size := fun a ha _ => by cases ha; exact hlt
    refine wpIn_rangeFunc_ownG rfl (by omega) (gf := 41) (lb := #[.pointer (some ⟨Bs, 0, none⟩)]) rfl trivial (enters_of Try.func41 (by kernel_rfl) rfl)
      (runsB_stops Bs w.heap.size cap _ (true :: r) hn W0 bS.lt hB0.size bS.cell hI0 hlt0) Kb.trans (fun W lp o o' h1 h2 h3 h4 => ⟨belowK_b hB0.size W lp o o' h1 h2 h3 h4, World.putObj_heap_other (by have := bS.lt; omega)⟩) (Below.refl _ _) (fun _ => rfl)
      (fun pre W => (∃ v, Boxed W w.heap.size 23 v ∧ Own W w.heap.size v (laidU (([0] : List Nat) ++ pre.map (·.1.2)))) ∧ Boxed W (w.heap.size + 1) 3 (.int .i64 ((([0] : List Nat).length + pre.length : Nat) : Int)) ∧ Boxed W Bs 28 (.slice (some ⟨b, o, none⟩) (r.length + 1) cap) ∧ Below w.heap.size w W)
      (fun _ _ _ => False)
      (fun pre W W' row hs hg hr => by
        have hne : ∀ {g : Nat} {t : TypeId} {u : Value}, Boxed W g t u → some g ≠ row := fun hb e => by
          obtain ⟨_, o, ho, hc⟩ := hr _ e.symm
          rw [show W.heap[_]? = _ from hb] at ho; cases ho; cases hc
        obtain ⟨⟨v, h1, h2⟩, h3, h4, h5⟩ := hs
        refine ⟨⟨v, h1.kept hg (hne h1), Own.keep' h2 (fun g e => ?_)⟩, h3.kept hg (hne h3), h4.kept hg (hne h4), h5.grown hg h5.size (fun k e => Nat.le_trans hB0.size (hr k e).1)⟩
        obtain ⟨c, t, f, hc⟩ := own_cells h2 e
        exact hg.block g (Array.getElem?_eq_some_iff.1 hc).1 (fun e' => by obtain ⟨_, o, ho, hc'⟩ := hr g e'.symm; rw [hc] at ho; cases ho; cases hc'))
      (fun _ _ _ _ _ hs _ _ => hs)
      ⟨⟨_, bL, hO0⟩, bR, bS, hB0⟩
      (fun x => { tmps := #[(.slice (some ⟨b, o, none⟩) (r.length + 1) cap), undef, (.slice none 0 0), (.pointer (some ⟨w.heap.size, 0, none⟩)), (.pointer (some ⟨w.heap.size + 1, 0, none⟩)), undef, (.int .i64 (x.1.2 : Int)), (.slice (some ⟨b, o, none⟩) (r.length + 1) cap), (.int .i64 ((r.length : Int) + 1)), (.bool true), (.bool true), (.slice (some ⟨b, o, none⟩) (r.length + 1) cap), (.pointer (some ⟨b, o, none⟩)), (.bool true), (.bool true), (.int .i64 0), (.int .i64 1), (.slice none 0 0), (.slice ua 1 uc), (.slice va 1 vc), (.slice (some ⟨b, o, none⟩) (r.length + 1) cap), (.func (.func 41) #[] #[.pointer (some ⟨Bs, 0, none⟩)]), (.bool x.1.1), (.int .i64 (x.1.2 : Int)), undef, undef, undef, undef, undef, undef, undef, undef, undef, undef, undef, undef], defers := [] }) ?assign ?body ?done ?stop
    case assign =>
      intro lp x W K hK
      gi_wp2
      exact hK
    case body =>
      rintro lp pre x W ⟨⟨v, h1, h2⟩, h3, h4, h5⟩ hltN
      have hc := h3.cell
      have hf := h3.frozen
      have K0 : RB w W0.heap.size Bs (.slice (some ⟨b, o, none⟩) (r.length + 1) cap) W W v (laidU (([0] : List Nat) ++ pre.map (·.1.2))) (([0] : List Nat).length + pre.length) := ⟨h1, h3, h4, h2, h5, KeepsFrom.refl _ _, Kb.refl _ _ _⟩
      have K1 := show Hid _ from RB.count hBs1 K0
      have hpl : pre.length ≤ 1048576 := by omega
      have HB1 : Hid ((laidU (([0] : List Nat) ++ pre.map (·.1.2))).length + (uintB x.1.2).length ≤ 140737488355328) := by
        have h6 := laidU_len (([0] : List Nat) ++ pre.map (·.1.2)) (fun n hn => by
          rcases List.mem_append.1 hn with h | h
          · exact hpfx n h
          · obtain ⟨y, _, rfl⟩ := List.mem_map.1 h; exact y.2)
        have h7 := uintB_len10 x.1.2 (by have := x.2; omega)
        unfold Hid
        simp only [List.length_append, List.length_map] at h6
        have := hpfl
        omega
      obtain ⟨f1, HF1⟩ : ∃ f, Hid ((laidU (([0] : List Nat) ++ pre.map (·.1.2))) ++ uintB x.1.2 = f) := ⟨_, rfl⟩
      have HPL : Hid (([0] : List Nat).length + (pre ++ [x]).length = ([0] : List Nat).length + pre.length + 1) := by unfold Hid; simp only [List.length_append, List.length_cons, List.length_nil]; omega
      generalize hmm : ([0] : List Nat).length + pre.length = mm at *
      clear h1 h2 h3 h4 h5 K0
      gi_wp2
      refine wpIn_region_any (by kernel_rfl) ?_
      refine with_world (p := fun W' => wpAnyIn _ _ _ _ _ _ _ _ _ W') (fun W' => RB w W0.heap.size Bs (.slice (some ⟨b, o, none⟩) (r.length + 1) cap) W W' v (laidU (([0] : List Nat) ++ pre.map (·.1.2))) (mm + 1)) K1.out.drew ?_
      clear K1 hc hf
      intro Wd Kd
      refine wpAnyIn_all (rs := [0, 1]) (fuel := 5) (by kernel_rfl) (by simp) (fun j hj => ?_)
      simp only [List.mem_cons, List.not_mem_nil, or_false] at hj
      rcases hj with rfl | rfl
      · refine opValIn 0 26 v Wd rfl (by kernel_rfl) (by kernel_rfl) (fun _ => trivial) (Oper.semAt_plain _ _ _ (fun _ h => by cases h)) (x_loadT (t := 23) (x := .tmp 3) (g := w.heap.size) (j := 0) Try.underlying23 rfl (by kernel_rfl) (by kernel_rfl) Kd.bl.cell) ?_
        refine wpAnyIn_all (rs := [1]) (fuel := 4) (by kernel_rfl) (by simp) (fun j hj => ?_)
        obtain rfl : j = 1 := by simpa using hj
        refine opValIn 1 27 (.int .i64 (x.1.2 : Int)) Wd rfl (by kernel_rfl) (by kernel_rfl) (fun _ => trivial) (Oper.semAt_plain _ _ _ (fun _ h => by cases h)) (by kernel_rfl) ?_
        refine wpAnyIn_all (rs := [2]) (fuel := 3) (by kernel_rfl) (by simp) (fun j hj => ?_)
        obtain rfl : j = 2 := by simpa using hj
        refine opValIn 2 28 (.int .u64 (x.1.2 : Int)) Wd rfl (by kernel_rfl) (by kernel_rfl) (fun _ => trivial) (Oper.semAt_plain _ _ _ (fun _ h => by cases h)) (x_conv49 (x := .tmp 27) (p := x.1.2) (by have := x.2; omega) (by kernel_rfl) (by kernel_rfl)) ?_
        refine wpAnyIn_all (rs := [3]) (fuel := 2) (by kernel_rfl) (by simp) (fun j hj => ?_)
        obtain rfl : j = 3 := by simpa using hj
        refine opCallIn 3 29 26 #[.int .u64 (x.1.2 : Int)] (fun u W' => Own W' Wd.heap.size u (uintB x.1.2) ∧ After Wd W') rfl (by kernel_rfl) (by kernel_rfl) (fun _ => trivial) rfl (Oper.semAt_plain _ _ _ (fun _ h => by cases h)) (fun _ => by kernel_rfl) (CallsIn.inRound lp (callsIn_wide.2 ((uint_any x.1.2 (by have := x.2; omega) Wd).mono (fun _ _ ⟨u, h1, h2, h3⟩ => ⟨u, h1, h2, h3⟩)))) ?_
        rintro u Wdc ⟨hu, hWdc⟩
        obtain ⟨ua, uc, rfl, hua, _, _⟩ := hu.at
        have KWdc := Kd.after hWdc
        refine wpAnyIn_all (rs := [4]) (fuel := 1) (by kernel_rfl) (by simp) (fun j hj => ?_)
        obtain rfl : j = 4 := by simpa using hj
        refine opAppIn 4 30 (.tmp 26) (.tmp 29) rfl (by kernel_rfl) (by kernel_rfl) (fun _ => trivial) (Oper.semAt_plain _ _ _ (fun _ h => by cases h)) (by kernel_rfl) w.heap.size _ (laidU (([0] : List Nat) ++ pre.map (·.1.2))) (by kernel_rfl) KWdc.own ua uc (uintB x.1.2) ((uintB x.1.2)).length rfl (by kernel_rfl) hua HB1.out KWdc.bel.size ?_
        intro v' Wdca ho' hg'
        rw [HF1.out] at ho'
        have AWdca := KWdc.app ho' hg' (.inr trivial)
        obtain ⟨va, vc, rfl, _, _, _⟩ := ho'.at
        refine wpAnyIn_all (rs := [5]) (fuel := 0) (by kernel_rfl) (by simp) (fun j hj => ?_)
        obtain rfl : j = 5 := by simpa using hj
        refine opStoreIn 5 23 (.tmp 3) (.tmp 30) w.heap.size va f1.length vc _ rfl (by kernel_rfl) (by kernel_rfl) (by kernel_rfl) (fun _ => trivial) (Oper.semAt_plain _ _ _ (fun _ h => by cases h)) (by kernel_rfl) (by kernel_rfl) AWdca.1 ?_
        have KE := RB.store hBs1 AWdca ho'
        refine wpAnyIn_done (by kernel_rfl) ?_ _
        exact ⟨KE.kf, KE.kb, ⟨⟨_, KE.bl, by rw [laidU_snoc, HF1.out]; exact KE.own⟩, by rw [HPL.out]; exact KE.br, KE.bs, KE.bel⟩⟩
      · refine opValIn 1 27 (.int .i64 (x.1.2 : Int)) Wd rfl (by kernel_rfl) (by kernel_rfl) (fun _ => trivial) (Oper.semAt_plain _ _ _ (fun _ h => by cases h)) (by kernel_rfl) ?_
        refine wpAnyIn_all (rs := [0, 2]) (fuel := 4) (by kernel_rfl) (by simp) (fun j hj => ?_)
        simp only [List.mem_cons, List.not_mem_nil, or_false] at hj
        rcases hj with rfl | rfl
        · refine opValIn 0 26 v Wd rfl (by kernel_rfl) (by kernel_rfl) (fun _ => trivial) (Oper.semAt_plain _ _ _ (fun _ h => by cases h)) (x_loadT (t := 23) (x := .tmp 3) (g := w.heap.size) (j := 0) Try.underlying23 rfl (by kernel_rfl) (by kernel_rfl) Kd.bl.cell) ?_
          refine wpAnyIn_all (rs := [2]) (fuel := 3) (by kernel_rfl) (by simp) (fun j hj => ?_)
          obtain rfl : j = 2 := by simpa using hj
          refine opValIn 2 28 (.int .u64 (x.1.2 : Int)) Wd rfl (by kernel_rfl) (by kernel_rfl) (fun _ => trivial) (Oper.semAt_plain _ _ _ (fun _ h => by cases h)) (x_conv49 (x := .tmp 27) (p := x.1.2) (by have := x.2; omega) (by kernel_rfl) (by kernel_rfl)) ?_
          refine wpAnyIn_all (rs := [3]) (fuel := 2) (by kernel_rfl) (by simp) (fun j hj => ?_)
          obtain rfl : j = 3 := by simpa using hj
          refine opCallIn 3 29 26 #[.int .u64 (x.1.2 : Int)] (fun u W' => Own W' Wd.heap.size u (uintB x.1.2) ∧ After Wd W') rfl (by kernel_rfl) (by kernel_rfl) (fun _ => trivial) rfl (Oper.semAt_plain _ _ _ (fun _ h => by cases h)) (fun _ => by kernel_rfl) (CallsIn.inRound lp (callsIn_wide.2 ((uint_any x.1.2 (by have := x.2; omega) Wd).mono (fun _ _ ⟨u, h1, h2, h3⟩ => ⟨u, h1, h2, h3⟩)))) ?_
          rintro u Wdc ⟨hu, hWdc⟩
          obtain ⟨ua, uc, rfl, hua, _, _⟩ := hu.at
          have KWdc := Kd.after hWdc
          refine wpAnyIn_all (rs := [4]) (fuel := 1) (by kernel_rfl) (by simp) (fun j hj => ?_)
          obtain rfl : j = 4 := by simpa using hj
          refine opAppIn 4 30 (.tmp 26) (.tmp 29) rfl (by kernel_rfl) (by kernel_rfl) (fun _ => trivial) (Oper.semAt_plain _ _ _ (fun _ h => by cases h)) (by kernel_rfl) w.heap.size _ (laidU (([0] : List Nat) ++ pre.map (·.1.2))) (by kernel_rfl) KWdc.own ua uc (uintB x.1.2) ((uintB x.1.2)).length rfl (by kernel_rfl) hua HB1.out KWdc.bel.size ?_
          intro v' Wdca ho' hg'
          rw [HF1.out] at ho'
          have AWdca := KWdc.app ho' hg' (.inr trivial)
          obtain ⟨va, vc, rfl, _, _, _⟩ := ho'.at
          refine wpAnyIn_all (rs := [5]) (fuel := 0) (by kernel_rfl) (by simp) (fun j hj => ?_)
          obtain rfl : j = 5 := by simpa using hj
          refine opStoreIn 5 23 (.tmp 3) (.tmp 30) w.heap.size va f1.length vc _ rfl (by kernel_rfl) (by kernel_rfl) (by kernel_rfl) (fun _ => trivial) (Oper.semAt_plain _ _ _ (fun _ h => by cases h)) (by kernel_rfl) (by kernel_rfl) AWdca.1 ?_
          have KE := RB.store hBs1 AWdca ho'
          refine wpAnyIn_done (by kernel_rfl) ?_ _
          exact ⟨KE.kf, KE.kb, ⟨⟨_, KE.bl, by rw [laidU_snoc, HF1.out]; exact KE.own⟩, by rw [HPL.out]; exact KE.br, KE.bs, KE.bel⟩⟩
        · refine opValIn 2 28 (.int .u64 (x.1.2 : Int)) Wd rfl (by kernel_rfl) (by kernel_rfl) (fun _ => trivial) (Oper.semAt_plain _ _ _ (fun _ h => by cases h)) (x_conv49 (x := .tmp 27) (p := x.1.2) (by have := x.2; omega) (by kernel_rfl) (by kernel_rfl)) ?_
          refine wpAnyIn_all (rs := [0, 3]) (fuel := 3) (by kernel_rfl) (by simp) (fun j hj => ?_)
          simp only [List.mem_cons, List.not_mem_nil, or_false] at hj
          rcases hj with rfl | rfl
          · refine opValIn 0 26 v Wd rfl (by kernel_rfl) (by kernel_rfl) (fun _ => trivial) (Oper.semAt_plain _ _ _ (fun _ h => by cases h)) (x_loadT (t := 23) (x := .tmp 3) (g := w.heap.size) (j := 0) Try.underlying23 rfl (by kernel_rfl) (by kernel_rfl) Kd.bl.cell) ?_
            refine wpAnyIn_all (rs := [3]) (fuel := 2) (by kernel_rfl) (by simp) (fun j hj => ?_)
            obtain rfl : j = 3 := by simpa using hj
            refine opCallIn 3 29 26 #[.int .u64 (x.1.2 : Int)] (fun u W' => Own W' Wd.heap.size u (uintB x.1.2) ∧ After Wd W') rfl (by kernel_rfl) (by kernel_rfl) (fun _ => trivial) rfl (Oper.semAt_plain _ _ _ (fun _ h => by cases h)) (fun _ => by kernel_rfl) (CallsIn.inRound lp (callsIn_wide.2 ((uint_any x.1.2 (by have := x.2; omega) Wd).mono (fun _ _ ⟨u, h1, h2, h3⟩ => ⟨u, h1, h2, h3⟩)))) ?_
            rintro u Wdc ⟨hu, hWdc⟩
            obtain ⟨ua, uc, rfl, hua, _, _⟩ := hu.at
            have KWdc := Kd.after hWdc
            refine wpAnyIn_all (rs := [4]) (fuel := 1) (by kernel_rfl) (by simp) (fun j hj => ?_)
            obtain rfl : j = 4 := by simpa using hj
            refine opAppIn 4 30 (.tmp 26) (.tmp 29) rfl (by kernel_rfl) (by kernel_rfl) (fun _ => trivial) (Oper.semAt_plain _ _ _ (fun _ h => by cases h)) (by kernel_rfl) w.heap.size _ (laidU (([0] : List Nat) ++ pre.map (·.1.2))) (by kernel_rfl) KWdc.own ua uc (uintB x.1.2) ((uintB x.1.2)).length rfl (by kernel_rfl) hua HB1.out KWdc.bel.size ?_
            intro v' Wdca ho' hg'
            rw [HF1.out] at ho'
            have AWdca := KWdc.app ho' hg' (.inr trivial)
            obtain ⟨va, vc, rfl, _, _, _⟩ := ho'.at
            refine wpAnyIn_all (rs := [5]) (fuel := 0) (by kernel_rfl) (by simp) (fun j hj => ?_)
            obtain rfl : j = 5 := by simpa using hj
            refine opStoreIn 5 23 (.tmp 3) (.tmp 30) w.heap.size va f1.length vc _ rfl (by kernel_rfl) (by kernel_rfl) (by kernel_rfl) (fun _ => trivial) (Oper.semAt_plain _ _ _ (fun _ h => by cases h)) (by kernel_rfl) (by kernel_rfl) AWdca.1 ?_
            have KE := RB.store hBs1 AWdca ho'
            refine wpAnyIn_done (by kernel_rfl) ?_ _
            exact ⟨KE.kf, KE.kb, ⟨⟨_, KE.bl, by rw [laidU_snoc, HF1.out]; exact KE.own⟩, by rw [HPL.out]; exact KE.br, KE.bs, KE.bel⟩⟩
          · refine opCallIn 3 29 26 #[.int .u64 (x.1.2 : Int)] (fun u W' => Own W' Wd.heap.size u (uintB x.1.2) ∧ After Wd W') rfl (by kernel_rfl) (by kernel_rfl) (fun _ => trivial) rfl (Oper.semAt_plain _ _ _ (fun _ h => by cases h)) (fun _ => by kernel_rfl) (CallsIn.inRound lp (callsIn_wide.2 ((uint_any x.1.2 (by have := x.2; omega) Wd).mono (fun _ _ ⟨u, h1, h2, h3⟩ => ⟨u, h1, h2, h3⟩)))) ?_
            rintro u Wdc ⟨hu, hWdc⟩
            obtain ⟨ua, uc, rfl, hua, _, _⟩ := hu.at
            have KWdc := Kd.after hWdc
            refine wpAnyIn_all (rs := [0]) (fuel := 2) (by kernel_rfl) (by simp) (fun j hj => ?_)
            obtain rfl : j = 0 := by simpa using hj
            refine opValIn 0 26 v Wdc rfl (by kernel_rfl) (by kernel_rfl) (fun _ => trivial) (Oper.semAt_plain _ _ _ (fun _ h => by cases h)) (x_loadT (t := 23) (x := .tmp 3) (g := w.heap.size) (j := 0) Try.underlying23 rfl (by kernel_rfl) (by kernel_rfl) KWdc.bl.cell) ?_
            refine wpAnyIn_all (rs := [4]) (fuel := 1) (by kernel_rfl) (by simp) (fun j hj => ?_)
            obtain rfl : j = 4 := by simpa using hj
            refine opAppIn 4 30 (.tmp 26) (.tmp 29) rfl (by kernel_rfl) (by kernel_rfl) (fun _ => trivial) (Oper.semAt_plain _ _ _ (fun _ h => by cases h)) (by kernel_rfl) w.heap.size _ (laidU (([0] : List Nat) ++ pre.map (·.1.2))) (by kernel_rfl) KWdc.own ua uc (uintB x.1.2) ((uintB x.1.2)).length rfl (by kernel_rfl) hua HB1.out KWdc.bel.size ?_
            intro v' Wdca ho' hg'
            rw [HF1.out] at ho'
            have AWdca := KWdc.app ho' hg' (.inr trivial)
            obtain ⟨va, vc, rfl, _, _, _⟩ := ho'.at
            refine wpAnyIn_all (rs := [5]) (fuel := 0) (by kernel_rfl) (by simp) (fun j hj => ?_)
            obtain rfl : j = 5 := by simpa using hj
            refine opStoreIn 5 23 (.tmp 3) (.tmp 30) w.heap.size va f1.length vc _ rfl (by kernel_rfl) (by kernel_rfl) (by kernel_rfl) (fun _ => trivial) (Oper.semAt_plain _ _ _ (fun _ h => by cases h)) (by kernel_rfl) (by kernel_rfl) AWdca.1 ?_
            have KE := RB.store hBs1 AWdca ho'
            refine wpAnyIn_done (by kernel_rfl) ?_ _
            exact ⟨KE.kf, KE.kb, ⟨⟨_, KE.bl, by rw [laidU_snoc, HF1.out]; exact KE.own⟩, by rw [HPL.out]; exact KE.br, KE.bs, KE.bel⟩⟩
    case done =>
      rintro D ys W hD hys ⟨⟨v, h1, h2⟩, h3, h4, h5⟩ hK
      have hfl : ([0] : List Nat) ++ ys.map (·.1.2) = flagLens (true :: r) := by
        have := congrArg (List.map (·.2)) hys
        rw [List.map_map] at this
        unfold flagLens
        rw [← this, hpfe]
        rfl
      have hm : ([0] : List Nat).length + ys.length = (flagLens (true :: r)).length := by rw [← hfl]; simp only [List.length_append, List.length_map]
      have hml := runs_len (true :: r)
      have hyl : ys.length = (runs (true :: r)).length := by rw [← hys]; simp
      have h20 := laidU_len (flagLens (true :: r)) (fun n hn => by
        rw [← hfl] at hn
        rcases List.mem_append.1 hn with h | h
        · exact hpfx n h
        · obtain ⟨y, _, rfl⟩ := List.mem_map.1 h; exact y.2)
      obtain ⟨m, hmm⟩ : ∃ m, ([0] : List Nat).length + ys.length = m := ⟨_, rfl⟩
      have bm : m ≤ 1048577 := by have := hpfl; omega
      rw [hfl] at h2
      rw [hmm] at h3 hm
      rw [← hm] at h20
      obtain ⟨lb, HLB⟩ : ∃ x, Hid (laidU (flagLens (true :: r)) = x) := ⟨_, rfl⟩
      rw [HLB.out] at h2 h20
      have HRB : Hid (uintB m ++ lb = flagsB (true :: r)) := by unfold Hid flagsB; rw [hm, HLB.out]
      have HBB : Hid ((uintB m).length + lb.length ≤ 140737488355328) := by have := uintB_len10 m (by omega); unfold Hid; omega
      obtain ⟨va, vc, rfl, hat, _, _⟩ := h2.at
      have HAT0 := show Hid (BytesAt W va lb) from hat
      have HWW : Hid (Below w.heap.size w W) := h5
      have HKD0 : Hid (W.heap[D]? = some (.deferred (some []))) := hK
      have HDW : Hid (w.heap.size ≤ D) := Nat.le_trans hB0.size hD
      have H1 := show Hid (Boxed W w.heap.size 23 (.slice va lb.length vc)) from h1
      have H3 := show Hid (Boxed W (w.heap.size + 1) 3 (.int .i64 (m : Int))) from h3
      clear h1 h2 h3 h4 h5 hK hat hD h20 hm hml hmm hys hfl hyl
      gi_wp2
      refine wpIn_region_any (by kernel_rfl) ?_
      refine with_world (p := fun W' => wpAnyIn _ _ _ _ _ _ _ _ _ W') (fun W' => After W W') (After.drew (After.refl W)) ?_
      intro Wd hWd
      have HLD : Hid (∀ W', After Wd W' → W'.cell? ⟨w.heap.size + 1, 0, none⟩ = some (.int .i64 (m : Int))) := fun W' hA => (Below.cell (hWd.trans hA) (p := ⟨w.heap.size + 1, 0, none⟩) H3.out.lt).trans H3.out.cell
      have HLV : Hid (∀ W', After Wd W' → W'.cell? ⟨w.heap.size, 0, none⟩ = some (.slice va lb.length vc)) := fun W' hA => (Below.cell (hWd.trans hA) (p := ⟨w.heap.size, 0, none⟩) H1.out.lt).trans H1.out.cell
      have HAT : Hid (∀ W', After Wd W' → BytesAt W' va lb) := fun W' hA => HAT0.out.after (hWd.trans hA)
      have hDl : D < W.heap.size := (Array.getElem?_eq_some_iff.1 HKD0.out).1
      have HKD : Hid (Wd.heap[D]? = some (.deferred (some []))) := (hWd.block D hDl).trans HKD0.out
      have HDL : Hid (D < Wd.heap.size) := Nat.lt_of_lt_of_le hDl hWd.size
      have HWd : Hid (Below w.heap.size w Wd) := HWW.out.trans (Below.mono hWd HWW.out.size)
      have hS0 : After Wd Wd := After.refl Wd
      refine wpAnyIn_all (rs := [0, 3]) (fuel := 5) (by kernel_rfl) (by simp) (fun j hj => ?_)
      simp only [List.mem_cons, List.not_mem_nil, or_false] at hj
      rcases hj with rfl | rfl
      · refine opValIn 0 31 (.int .i64 (m : Int)) Wd rfl (by kernel_rfl) (by kernel_rfl) (fun _ => trivial) rfl (x_loadT (t := 3) (x := .tmp 4) (g := w.heap.size + 1) (j := 0) Try.underlying3 rfl (by kernel_rfl) (by kernel_rfl) (HLD.out _ hS0)) ?_
        refine wpAnyIn_all (rs := [1, 3]) (fuel := 4) (by kernel_rfl) (by simp) (fun j hj => ?_)
        simp only [List.mem_cons, List.not_mem_nil, or_false] at hj
        rcases hj with rfl | rfl
        · refine opValIn 1 32 (.int .u64 (m : Int)) Wd rfl (by kernel_rfl) (by kernel_rfl) (fun _ => trivial) rfl (x_conv49 (x := .tmp 31) (p := m) (by omega) (by kernel_rfl) (by kernel_rfl)) ?_
          refine wpAnyIn_all (rs := [2, 3]) (fuel := 3) (by kernel_rfl) (by simp) (fun j hj => ?_)
          simp only [List.mem_cons, List.not_mem_nil, or_false] at hj
          rcases hj with rfl | rfl
          · refine opCallIn 2 33 26 #[.int .u64 (m : Int)] (fun u W' => Own W' Wd.heap.size u (uintB m) ∧ After Wd W') rfl (by kernel_rfl) (by kernel_rfl) (fun _ => trivial) rfl rfl (fun _ => by kernel_rfl) (callsIn_wide.2 ((uint_any m (by omega) Wd).mono (fun _ _ ⟨u, h1, h2, h3⟩ => ⟨u, h1, h2, h3⟩))) ?_
            rintro u Wdc ⟨hu, hWdc⟩
            have AWdc : After Wd Wdc := hS0.trans hWdc
            have hu1 := hu.mono hS0.size
            refine wpAnyIn_all (rs := [3]) (fuel := 2) (by kernel_rfl) (by simp) (fun j hj => ?_)
            obtain rfl : j = 3 := by simpa using hj
            refine opValIn 3 34 (.slice va lb.length vc) Wdc rfl (by kernel_rfl) (by kernel_rfl) (fun _ => trivial) rfl (x_loadT (t := 23) (x := .tmp 3) (g := w.heap.size) (j := 0) Try.underlying23 rfl (by kernel_rfl) (by kernel_rfl) (HLV.out _ AWdc)) ?_
            refine wpAnyIn_all (rs := [4]) (fuel := 1) (by kernel_rfl) (by simp) (fun j hj => ?_)
            obtain rfl : j = 4 := by simpa using hj
            refine opAppIn 4 35 (.tmp 33) (.tmp 34) rfl (by kernel_rfl) (by kernel_rfl) (fun _ => trivial) rfl (by kernel_rfl) Wd.heap.size _ (uintB m) (by kernel_rfl) hu1 va vc lb lb.length rfl (by kernel_rfl) (HAT.out _ AWdc) HBB.out AWdc.size ?_
            intro v' Wdca ho' hg'
            rw [HRB.out] at ho'
            have B' : After Wd Wdca := after_grown AWdc hg' (Nat.le_refl _) (fun k hk => (World.ownsRow.lt hu1 k hk).1)
            refine wpAnyIn_all (rs := [5]) (fuel := 0) (by kernel_rfl) (by simp) (fun j hj => ?_)
            obtain rfl : j = 5 := by simpa using hj
            refine opValIn 5 2 v' Wdca rfl (by kernel_rfl) (by kernel_rfl) (fun _ => trivial) rfl (by kernel_rfl) ?_
            refine wpAnyIn_done (by kernel_rfl) ?_ _
            have HO' := show Hid (Own _ _ v' (flagsB (true :: r))) from ho'
            clear ho' hg'
            go_simp
            gi_wp2
            have hK' : Wdca.heap[D]? = some (.deferred (some [])) := (B'.block D HDL.out).trans HKD.out
            refine ⟨by simp, .inl ⟨_, _, rfl, run_takeDeferred hK', ?_⟩⟩
            exact ⟨_, results_tmp rfl _ _ _, v', rfl, ownsRow_putObj (Own.mono HO'.out HWd.out.size) _ hK' rfl, (HWd.out.trans (B'.mono HWd.out.size)).trans (belowK_b (w := w) (Nat.le_refl _) Wdca D _ _ HDW.out hK' rfl rfl)⟩
          · refine opValIn 3 34 (.slice va lb.length vc) Wd rfl (by kernel_rfl) (by kernel_rfl) (fun _ => trivial) rfl (x_loadT (t := 23) (x := .tmp 3) (g := w.heap.size) (j := 0) Try.underlying23 rfl (by kernel_rfl) (by kernel_rfl) (HLV.out _ hS0)) ?_
            refine wpAnyIn_all (rs := [2]) (fuel := 2) (by kernel_rfl) (by simp) (fun j hj => ?_)
            obtain rfl : j = 2 := by simpa using hj
            refine opCallIn 2 33 26 #[.int .u64 (m : Int)] (fun u W' => Own W' Wd.heap.size u (uintB m) ∧ After Wd W') rfl (by kernel_rfl) (by kernel_rfl) (fun _ => trivial) rfl rfl (fun _ => by kernel_rfl) (callsIn_wide.2 ((uint_any m (by omega) Wd).mono (fun _ _ ⟨u, h1, h2, h3⟩ => ⟨u, h1, h2, h3⟩))) ?_
            rintro u Wdc ⟨hu, hWdc⟩
            have AWdc : After Wd Wdc := hS0.trans hWdc
            have hu1 := hu.mono hS0.size
            refine wpAnyIn_all (rs := [4]) (fuel := 1) (by kernel_rfl) (by simp) (fun j hj => ?_)
            obtain rfl : j = 4 := by simpa using hj
            refine opAppIn 4 35 (.tmp 33) (.tmp 34) rfl (by kernel_rfl) (by kernel_rfl) (fun _ => trivial) rfl (by kernel_rfl) Wd.heap.size _ (uintB m) (by kernel_rfl) hu1 va vc lb lb.length rfl (by kernel_rfl) (HAT.out _ AWdc) HBB.out AWdc.size ?_
            intro v' Wdca ho' hg'
            rw [HRB.out] at ho'
            have B' : After Wd Wdca := after_grown AWdc hg' (Nat.le_refl _) (fun k hk => (World.ownsRow.lt hu1 k hk).1)
            refine wpAnyIn_all (rs := [5]) (fuel := 0) (by kernel_rfl) (by simp) (fun j hj => ?_)
            obtain rfl : j = 5 := by simpa using hj
            refine opValIn 5 2 v' Wdca rfl (by kernel_rfl) (by kernel_rfl) (fun _ => trivial) rfl (by kernel_rfl) ?_
            refine wpAnyIn_done (by kernel_rfl) ?_ _
            have HO' := show Hid (Own _ _ v' (flagsB (true :: r))) from ho'
            clear ho' hg'
            go_simp
            gi_wp2
            have hK' : Wdca.heap[D]? = some (.deferred (some [])) := (B'.block D HDL.out).trans HKD.out
            refine ⟨by simp, .inl ⟨_, _, rfl, run_takeDeferred hK', ?_⟩⟩
            exact ⟨_, results_tmp rfl _ _ _, v', rfl, ownsRow_putObj (Own.mono HO'.out HWd.out.size) _ hK' rfl, (HWd.out.trans (B'.mono HWd.out.size)).trans (belowK_b (w := w) (Nat.le_refl _) Wdca D _ _ HDW.out hK' rfl rfl)⟩
        · refine opValIn 3 34 (.slice va lb.length vc) Wd rfl (by kernel_rfl) (by kernel_rfl) (fun _ => trivial) rfl (x_loadT (t := 23) (x := .tmp 3) (g := w.heap.size) (j := 0) Try.underlying23 rfl (by kernel_rfl) (by kernel_rfl) (HLV.out _ hS0)) ?_
          refine wpAnyIn_all (rs := [1]) (fuel := 3) (by kernel_rfl) (by simp) (fun j hj => ?_)
          obtain rfl : j = 1 := by simpa using hj
          refine opValIn 1 32 (.int .u64 (m : Int)) Wd rfl (by kernel_rfl) (by kernel_rfl) (fun _ => trivial) rfl (x_conv49 (x := .tmp 31) (p := m) (by omega) (by kernel_rfl) (by kernel_rfl)) ?_
          refine wpAnyIn_all (rs := [2]) (fuel := 2) (by kernel_rfl) (by simp) (fun j hj => ?_)
          obtain rfl : j = 2 := by simpa using hj
          refine opCallIn 2 33 26 #[.int .u64 (m : Int)] (fun u W' => Own W' Wd.heap.size u (uintB m) ∧ After Wd W') rfl (by kernel_rfl) (by kernel_rfl) (fun _ => trivial) rfl rfl (fun _ => by kernel_rfl) (callsIn_wide.2 ((uint_any m (by omega) Wd).mono (fun _ _ ⟨u, h1, h2, h3⟩ => ⟨u, h1, h2, h3⟩))) ?_
          rintro u Wdc ⟨hu, hWdc⟩
          have AWdc : After Wd Wdc := hS0.trans hWdc
          have hu1 := hu.mono hS0.size
          refine wpAnyIn_all (rs := [4]) (fuel := 1) (by kernel_rfl) (by simp) (fun j hj => ?_)
          obtain rfl : j = 4 := by simpa using hj
          refine opAppIn 4 35 (.tmp 33) (.tmp 34) rfl (by kernel_rfl) (by kernel_rfl) (fun _ => trivial) rfl (by kernel_rfl) Wd.heap.size _ (uintB m) (by kernel_rfl) hu1 va vc lb lb.length rfl (by kernel_rfl) (HAT.out _ AWdc) HBB.out AWdc.size ?_
          intro v' Wdca ho' hg'
          rw [HRB.out] at ho'
          have B' : After Wd Wdca := after_grown AWdc hg' (Nat.le_refl _) (fun k hk => (World.ownsRow.lt hu1 k hk).1)
          refine wpAnyIn_all (rs := [5]) (fuel := 0) (by kernel_rfl) (by simp) (fun j hj => ?_)
          obtain rfl : j = 5 := by simpa using hj
          refine opValIn 5 2 v' Wdca rfl (by kernel_rfl) (by kernel_rfl) (fun _ => trivial) rfl (by kernel_rfl) ?_
          refine wpAnyIn_done (by kernel_rfl) ?_ _
          have HO' := show Hid (Own _ _ v' (flagsB (true :: r))) from ho'
          clear ho' hg'
          go_simp
          gi_wp2
          have hK' : Wdca.heap[D]? = some (.deferred (some [])) := (B'.block D HDL.out).trans HKD.out
          refine ⟨by simp, .inl ⟨_, _, rfl, run_takeDeferred hK', ?_⟩⟩
          exact ⟨_, results_tmp rfl _ _ _, v', rfl, ownsRow_putObj (Own.mono HO'.out HWd.out.size) _ hK' rfl, (HWd.out.trans (B'.mono HWd.out.size)).trans (belowK_b (w := w) (Nat.le_refl _) Wdca D _ _ HDW.out hK' rfl rfl)⟩
      · refine opValIn 3 34 (.slice va lb.length vc) Wd rfl (by kernel_rfl) (by kernel_rfl) (fun _ => trivial) rfl (x_loadT (t := 23) (x := .tmp 3) (g := w.heap.size) (j := 0) Try.underlying23 rfl (by kernel_rfl) (by kernel_rfl) (HLV.out _ hS0)) ?_
        refine wpAnyIn_all (rs := [0]) (fuel := 4) (by kernel_rfl) (by simp) (fun j hj => ?_)
        obtain rfl : j = 0 := by simpa using hj
        refine opValIn 0 31 (.int .i64 (m : Int)) Wd rfl (by kernel_rfl) (by kernel_rfl) (fun _ => trivial) rfl (x_loadT (t := 3) (x := .tmp 4) (g := w.heap.size + 1) (j := 0) Try.underlying3 rfl (by kernel_rfl) (by kernel_rfl) (HLD.out _ hS0)) ?_
        refine wpAnyIn_all (rs := [1]) (fuel := 3) (by kernel_rfl) (by simp) (fun j hj => ?_)
        obtain rfl : j = 1 := by simpa using hj
        refine opValIn 1 32 (.int .u64 (m : Int)) Wd rfl (by kernel_rfl) (by kernel_rfl) (fun _ => trivial) rfl (x_conv49 (x := .tmp 31) (p := m) (by omega) (by kernel_rfl) (by kernel_rfl)) ?_
        refine wpAnyIn_all (rs := [2]) (fuel := 2) (by kernel_rfl) (by simp) (fun j hj => ?_)
        obtain rfl : j = 2 := by simpa using hj
        refine opCallIn 2 33 26 #[.int .u64 (m : Int)] (fun u W' => Own W' Wd.heap.size u (uintB m) ∧ After Wd W') rfl (by kernel_rfl) (by kernel_rfl) (fun _ => trivial) rfl rfl (fun _ => by kernel_rfl) (callsIn_wide.2 ((uint_any m (by omega) Wd).mono (fun _ _ ⟨u, h1, h2, h3⟩ => ⟨u, h1, h2, h3⟩))) ?_
        rintro u Wdc ⟨hu, hWdc⟩
        have AWdc : After Wd Wdc := hS0.trans hWdc
        have hu1 := hu.mono hS0.size
        refine wpAnyIn_all (rs := [4]) (fuel := 1) (by kernel_rfl) (by simp) (fun j hj => ?_)
        obtain rfl : j = 4 := by simpa using hj
        refine opAppIn 4 35 (.tmp 33) (.tmp 34) rfl (by kernel_rfl) (by kernel_rfl) (fun _ => trivial) rfl (by kernel_rfl) Wd.heap.size _ (uintB m) (by kernel_rfl) hu1 va vc lb lb.length rfl (by kernel_rfl) (HAT.out _ AWdc) HBB.out AWdc.size ?_
        intro v' Wdca ho' hg'
        rw [HRB.out] at ho'
        have B' : After Wd Wdca := after_grown AWdc hg' (Nat.le_refl _) (fun k hk => (World.ownsRow.lt hu1 k hk).1)
        refine wpAnyIn_all (rs := [5]) (fuel := 0) (by kernel_rfl) (by simp) (fun j hj => ?_)
        obtain rfl : j = 5 := by simpa using hj
        refine opValIn 5 2 v' Wdca rfl (by kernel_rfl) (by kernel_rfl) (fun _ => trivial) rfl (by kernel_rfl) ?_
        refine wpAnyIn_done (by kernel_rfl) ?_ _
        have HO' := show Hid (Own _ _ v' (flagsB (true :: r))) from ho'
        clear ho' hg'
        go_simp
        gi_wp2
        have hK' : Wdca.heap[D]? = some (.deferred (some [])) := (B'.block D HDL.out).trans HKD.out
        refine ⟨by simp, .inl ⟨_, _, rfl, run_takeDeferred hK', ?_⟩⟩
        exact ⟨_, results_tmp rfl _ _ _, v', rfl, ownsRow_putObj (Own.mono HO'.out HWd.out.size) _ hK' rfl, (HWd.out.trans (B'.mono HWd.out.size)).trans (belowK_b (w := w) (Nat.le_refl _) Wdca D _ _ HDW.out hK' rfl rfl)⟩
    case stop =>
      rintro D c pre W _ _ h _
      exact h.elim
theorem flags_any (ao : Option Addr) (cap : Nat) (l : List Bool) (hn : l.length ≤ 1048576) (w : World) (hI : BoolsAt w ao l) (hlt : ∀ a, ao = some a → l ≠ [] → a.block < w.heap.size) :
    Calls Try.prog 16 #[.slice ao l.length cap] w fun e W' => ∃ v, e = .returned v ∧ Own W' w.heap.size v (flagsB l) ∧ After w W' := by
  refine (callsIn_wide (n := 4)).1 ?_
  cases l with
  | nil => exact flags_nil ao cap w
  | cons x r =>
    obtain ⟨b, o, rfl, _⟩ := hI (by simp)
    have hb := hlt _ rfl (by simp)
    cases x
    · exact flags_false b o cap r hn w hI hb
    · exact flags_true b o cap r hn w hI hb
end Go.Proofs.Ytjmflggnnchojaa
