/-
  CALLS ON BOTH, ONE BEHIND THE OTHER; THE WALK OF stemmalaw05.DiskPlays.
-/
import Derived.Test.YtlbodickflljfaaDo
import Derived.Test.YtlbodickflljfaaActs
namespace Go.Proofs.Ytlbodickflljfaa
open Go.RowKit Go.Maps Dsk
/-- What a loop of calls keeps: both are S; the reference's value lies in the box gr. -/
structure PlI (w : World) (S : Dk) (sb gr : Nat) (F : Nat → Prop) (R : Array Value) (j : Nat) (wr : World) : Prop where
  jt : Joint w F sb S (.agg R) wr
  nf : ¬ F gr
  row : wr.heap[gr]? = some (.cells R 27 (0, 0))
  r7 : R.size = 7
  r1 : R.all (·.oneCell') = true
  st : S.steps ≤ j
  gw : w.heap.size ≤ gr
theorem heap_lt {w : World} {g : Nat} {o : Obj} (h : w.heap[g]? = some o) : g < w.heap.size := by
  rcases Nat.lt_or_ge g w.heap.size with h' | h'
  · exact h'
  · rw [Array.getElem?_eq_none h'] at h; cases h
theorem PlI.after {w : World} {S : Dk} {sb gr : Nat} {F : Nat → Prop} {R : Array Value} {j : Nat} {wr w' : World} (h : PlI w S sb gr F R j wr) (ha : After wr w') : PlI w S sb gr F R j w' :=
  ⟨h.jt.after ha, h.nf, by rw [ha.block gr (heap_lt h.row)]; exact h.row, h.r7, h.r1, h.st, h.gw⟩
theorem PlI.next {w : World} {S : Dk} {sb gr : Nat} {F : Nat → Prop} {R : Array Value} {j : Nat} {wr w' : World} (h : PlI w S sb gr F R j wr) {a : Act5} {v' : Value} (hj : Joint w (more F wr w') sb (actS S a) v' w') (ht : Turn F wr w') :
    w'.heap[gr]? = some (.cells R 27 (0, 0)) ∧ ∃ R', v' = .agg R' ∧ R'.size = 7 ∧ R'.all (·.oneCell') = true ∧ PlI w (actS S a) sb gr (more F wr w') R' (j + 1) (w'.setRow gr R') := by
  have hlt := heap_lt h.row
  have hrow : w'.heap[gr]? = some (.cells R 27 (0, 0)) := by rw [ht.block gr hlt h.nf]; exact h.row
  obtain ⟨R', hv, h7, h1⟩ := hj.ref.shape
  subst hv
  have hnf : ¬ more F wr w' gr := fun e => by
    rcases e with e | ⟨e, _⟩
    · exact h.nf e
    · omega
  have hri : RowIs w' gr 27 R.toList := by unfold RowIs; simpa using hrow
  refine ⟨hrow, R', rfl, h7, h1, hj.setRow hri (by decide) hnf h.gw R', hnf, setRow_heap w' gr _ _ 27 _ hrow, h7, h1, ?_, h.gw⟩
  have := actS_steps S a
  have := h.st
  omega
theorem PlI.start {w w1 w2 : World} {S : Dk} {sb : Nat} {v : Value} (h1 : Live w w1.heap.size sb S w1) (h2 : RefAt w2 v S) (ha : After w1 w2) (hs : S.steps = 0) :
    ∃ F R, v = .agg R ∧ R.size = 7 ∧ R.all (·.oneCell') = true ∧ PlI w S sb w2.heap.size F R 0 ((w2.alloc (.cells #[.int .i64 0, .slice none 0 0, .int .i64 0, .bool false, .int .i64 0, .bool false, .bool false] 27)).setRow w2.heap.size R) := by
  obtain ⟨F, hd, hF⟩ := h1.ex
  obtain ⟨R, hv, h7, hr1⟩ := h2.shape
  subst hv
  have hj : Joint w F sb S (.agg R) w2 := ⟨h1.ok, hd.after (fun i hi => (hF i hi).2) ha, fun i hi => ⟨(hF i hi).1, by have := (hF i hi).2; have := ha.size; omega⟩, h2, After.trans h1.aft ha⟩
  have hnf : ¬ F w2.heap.size := fun e => by have := (hF _ e).2; have := ha.size; omega
  have hrow := row_last w2 _ rfl [.int .i64 0, .slice none 0 0, .int .i64 0, .bool false, .int .i64 0, .bool false, .bool false]
  exact ⟨F, R, rfl, h7, hr1, (hj.after (after_alloc (After.refl w2) _)).setRow hrow (by decide) hnf hj.aft.size R, hnf, setRow_heap _ _ _ _ 27 _ hrow, h7, hr1, by omega, hj.aft.size⟩
theorem x_rowR {oi : Oper} {a : Act} {w : World} {x : Operand} {g : Nat} {R : Array Value} (hop : oi.op = .load 27 x) (hx : a.eval x = .pointer (some ⟨g, 0, none⟩)) (hg : w.heap[g]? = some (.cells R 27 (0, 0))) (hl : R.size = 7) : (execOp a.eval oi).run Try.prog w = .ok (.value (.agg R)) w := by
  have hi : (Try.prog.info? 27).map (·.size) = some R.size := by rw [show (Try.prog.info? 27).map (·.size) = some 7 by kernel_rfl]; simp [hl]
  unfold execOp
  simp only [hop, hx, Instr.loadAt, Instr.sureAddr, Sem.run_bind, Sem.run_pure, Result.andThen_ok, run_loadVar_row w g 27 27 R (0, 0) _ hg Try.underlying27 rfl hi]
theorem x_idx22 {o : Oper} {a : Act} {x y : Operand} {w : World} {b f n c k : Nat} (hop : o.op = .indexAddr 22 x y) (hx : a.eval x = .slice (some ⟨b, f, none⟩) n c) (hy : a.eval y = .int .i64 (k : Int)) (hk : k < n) : (execOp a.eval o).run Try.prog w = .ok (.value (.pointer (some ⟨b, f + k * 6, none⟩))) w := by
  have hk' : (k : Int) < (n : Int) := by omega
  obtain ⟨i, hi, hz⟩ := Option.map_eq_some_iff.1 size33
  unfold execOp; simp only [hop, hx, hy]; simp [go_sem, hk', hi, hz, sizeOf, typeInfo]
theorem x_ld33 {oi : Oper} {a : Act} {w : World} {x : Operand} {g p : Nat} {q : Act5} (hop : oi.op = .load 33 x) (hx : a.eval x = .pointer (some ⟨g, p, none⟩)) (h : ActIs w g p q) : (execOp a.eval oi).run Try.prog w = .ok (.value (.agg #[.int .u8 (q.kind.toNat : Int), .string (strOf q.name), .string (strOf q.now), .slice q.pa q.pn q.pc, .int .i64 q.n, .bool q.done])) w := by
  unfold execOp; simp only [hop, hx]; simp [go_sem, h.c0, h.c1, h.c2, h.c3, h.c4, h.c5]

theorem wpListG_load_str {w : World} {ops : Array Oper} {rest : List Oper} {o : Oper} {ac : Act} {Q : Exit → Act → World → Prop} (hw : Region.wanted o (yielded ops ac.tmps) = true) (x : Operand) (ho : o.op = .load 27 x)
    (g : Nat) (hx : ac.eval x = .pointer (some ⟨g, 0, none⟩)) (R : Array Value) (hg : w.heap[g]? = some (.cells R 27 (0, 0))) (h7 : R.size = 7)
    (h : wpList Try.prog ops Q rest (ac.put o.dst (.agg R)) w) : wpList Try.prog ops Q (o :: rest) ac w :=
  wpList_step fun K hK => by rw [if_pos hw]; exact wp_load_row 27 x ho g hx 27 R (0, 0) _ hg Try.underlying27 rfl (by rw [h7]; kernel_rfl) (hK _ _ h)
set_option maxRecDepth 100000 in
set_option maxHeartbeats 3200000 in
theorem plays_any (most : Int) (ao : Option Addr) (c : Nat) (l : List Act5) (hn : l.length ≤ 140737488355328) (w : World) (hat : ActsAt w ao l) :
    Calls Try.prog 3 #[.int .i64 most, .slice ao l.length c] w fun e w' => e = .returned (.bool true) ∧ Below w.heap.size w w' := by
  have HAT : Hid (ActsAt w ao l) := hat
  obtain ⟨n, hl⟩ : ∃ n, l.length = n := ⟨_, rfl⟩
  have HN : Hid (l.length = n) := hl
  rw [hl] at hn ⊢
  obtain ⟨S0, hS0⟩ : ∃ S0, newS most = S0 := ⟨_, rfl⟩
  have HS0 : Hid (newS most = S0) := hS0
  have HST0 : Hid (S0.steps = 0) := by rw [← hS0]; rfl
  clear hat hl hS0
  go_enter Try.func3, Try.ntmps3
  go_wp2_with (first
    | (go_at_call 11; refine (live_new most w).mono ?_; rw [HS0.out]; rintro e w1 ⟨rfl, h1⟩; have H1 := show Hid (Live _ _ _ _ _) from h1; clear h1)
    | (go_at_call 12; refine (rNew_any most w1).mono ?_; rw [HS0.out]; rintro e w2 ⟨v2, rfl, h2, ha2⟩; obtain ⟨F0, R0, hv2, h07, h01, hp0⟩ := PlI.start H1.out h2 ha2 HST0.out; subst hv2; have HP0 := show Hid (PlI _ _ _ _ _ _ _ _) from hp0; clear hp0 h2 ha2)
    | (refine wpList_store_row rfl 27 (.tmp 6) (.tmp 12) rfl w2.heap.size R0 rfl rfl 27 _ (row_last w2 _ rfl _) (by rw [h07]; kernel_rfl) (by rw [h07]; rfl) h01 ?_))
  obtain ⟨gr, hgr⟩ : ∃ gr, w2.heap.size = gr := ⟨_, rfl⟩
  rw [hgr] at HP0 ⊢
  obtain ⟨w3, hw3⟩ : ∃ w3, (w2.alloc (.cells #[.int .i64 0, .slice none 0 0, .int .i64 0, .bool false, .int .i64 0, .bool false, .bool false] 27)).setRow gr R0 = w3 := ⟨_, rfl⟩
  rw [hw3] at HP0 ⊢
  obtain ⟨sb, hsb⟩ : ∃ sb, w.heap.size + 1 = sb := ⟨_, rfl⟩
  rw [hsb] at HP0 ⊢
  clear hw3 hgr h07 h01 H1 hsb
  go_loopw [7, 8] (fun kv iv wr => ∃ (j : Nat) (F : Nat → Prop) (R : Array Value), j ≤ n ∧ kv = .bool true ∧ iv = .int .i64 (j : Int) ∧ Hid (PlI w (playS S0 (l.take j)) sb gr F R j wr)) (fun _ iv _ => n - (intOf iv).toNat)
  case atStart => exact ⟨0, F0, R0, Nat.zero_le _, rfl, rfl, by rw [List.take_zero]; exact HP0.out⟩
  case round =>
    obtain ⟨j, F, R, hjn, rfl, rfl, HI⟩ := hrel
    by_cases hlt : j < n
    · have hji : (j : Int) < (n : Int) := by omega
      obtain ⟨a, ha⟩ : ∃ a, l[j]? = some a := ⟨l[j]'(by rw [HN.out]; exact hlt), List.getElem?_eq_getElem _⟩
      obtain ⟨b, o, hao, hac⟩ := HAT.out (by intro h; have := HN.out; rw [h] at this; simp at this; omega)
      have HACT := show Hid (ActIs w _ _ _) from hac j a ha
      have HNX : Hid (playS S0 (l.take (j + 1)) = actS (playS S0 (l.take j)) a) := by
        unfold Hid; rw [List.take_add_one, ha]
        simp [playS, List.foldl_append]
      obtain ⟨S, hS⟩ : ∃ S, playS S0 (l.take j) = S := ⟨_, rfl⟩
      rw [hS] at HI HNX
      subst hao
      clear hac ha hS
      go_wp2_with fail
      refine wp_region_noPanic ?_
      refine wp_region_held_drew (S := (fun W => ActIs W b (o + j * 6) a)) (by kernel_rfl) (HACT.out.after (After.drew HI.out.jt.aft)) ?_
      intro hD0
      refine tk 0 22 (.pointer (some ⟨sb, 0, none⟩)) (fuel := 11) rfl (by kernel_rfl) (by kernel_rfl) (by kernel_rfl) (by kernel_rfl) noPanic_false (by kernel_rfl) (fun _ _ => by kernel_rfl) hD0 ?_
      refine tk 2 24 (.slice (some ⟨b, o, none⟩) n c) (fuel := 10) rfl (by kernel_rfl) (by kernel_rfl) (by kernel_rfl) (by kernel_rfl) noPanic_false (by kernel_rfl) (fun _ _ => by kernel_rfl) hD0 ?_
      refine tk 3 25 (.int .i64 (j : Int)) (fuel := 9) rfl (by kernel_rfl) (by kernel_rfl) (by kernel_rfl) (by kernel_rfl) noPanic_false (by kernel_rfl) (fun _ _ => by kernel_rfl) hD0 ?_
      refine tk 4 26 (.pointer (some ⟨b, o + j * 6, none⟩)) (fuel := 8) rfl (by kernel_rfl) (by kernel_rfl) (by kernel_rfl) (by kernel_rfl) noPanic_false (by kernel_rfl) (fun W _ => x_idx22 (n := n) (c := c) (x := .tmp 24) (y := .tmp 25) (by kernel_rfl) (by kernel_rfl) (by kernel_rfl) hlt) hD0 ?_
      refine tk 5 27 (.agg #[.int .u8 (a.kind.toNat : Int), .string (strOf a.name), .string (strOf a.now), .slice a.pa a.pn a.pc, .int .i64 a.n, .bool a.done]) (fuel := 7) rfl (by kernel_rfl) (by kernel_rfl) (by kernel_rfl) (by kernel_rfl) noPanic_false (by kernel_rfl) (fun W hW => x_ld33 (x := .tmp 26) (g := b) (p := o + j * 6) (q := a) (by kernel_rfl) (by kernel_rfl) hW) hD0 ?_
      refine tkVal 1 23 (.agg R) (fuel := 6) rfl (by kernel_rfl) (by kernel_rfl) (by kernel_rfl) (x_rowR (x := .tmp 6) (g := gr) (by kernel_rfl) (by kernel_rfl) (HI.out.after (After.drew (After.refl wr))).row HI.out.r7) hD0 ?_
      refine tkCallS 6 28 13 #[.pointer (some ⟨sb, 0, none⟩), .agg R, .agg #[.int .u8 (a.kind.toNat : Int), .string (strOf a.name), .string (strOf a.now), .slice a.pa a.pn a.pc, .int .i64 a.n, .bool a.done]] (fun v w' => ∃ v', v = .tuple #[v', .bool true] ∧ Joint w (more F wr.drew w') sb (actS S a) v' w' ∧ Turn F wr.drew w') (fuel := 5) rfl (by kernel_rfl) (by kernel_rfl) (by kernel_rfl) (fun _ => by kernel_rfl) ((do_any (HI.out.after (After.drew (After.refl wr))).jt (by have := HI.out.st; omega) a HACT.out.v).mono (fun e w' ⟨v', he, h1, h2, _⟩ => ⟨_, he, v', rfl, h1, h2⟩)) ?_
      intro v4 w4 h4
      obtain ⟨v5, hv4, hj4, ht4⟩ := h4
      subst hv4
      obtain ⟨hrow4, R', hv5, h57, h51, hpl⟩ := (HI.out.after (After.drew (After.refl wr))).next hj4 ht4
      subst hv5
      have hS4 := HACT.out.after hj4.aft
      refine ⟨hS4, ?_⟩
      refine tk 7 21 (.tuple #[.agg R', .bool true]) (fuel := 4) rfl (by kernel_rfl) (by kernel_rfl) (by kernel_rfl) (by kernel_rfl) noPanic_false (by kernel_rfl) (fun _ _ => by kernel_rfl) hS4 ?_
      refine tk 8 29 (.agg R') (fuel := 3) rfl (by kernel_rfl) (by kernel_rfl) (by kernel_rfl) (by kernel_rfl) noPanic_false (by kernel_rfl) (fun _ _ => by kernel_rfl) hS4 ?_
      refine tk 9 30 (.bool true) (fuel := 2) rfl (by kernel_rfl) (by kernel_rfl) (by kernel_rfl) (by kernel_rfl) noPanic_false (by kernel_rfl) (fun _ _ => by kernel_rfl) hS4 ?_
      have hS5 := HACT.out.after hpl.jt.aft
      refine tkStore 10 gr 27 (.tmp 6) (.tmp 29) R' R 27 (fuel := 1) rfl (by kernel_rfl) (by kernel_rfl) (by kernel_rfl) (by kernel_rfl) (by kernel_rfl) (by kernel_rfl) hrow4 (by rw [h57]; kernel_rfl) (by rw [h57]; exact HI.out.r7) h51 hS5 ?_
      refine tk 11 7 (.bool true) (fuel := 0) rfl (by kernel_rfl) (by kernel_rfl) (by kernel_rfl) (by kernel_rfl) noPanic_false (by kernel_rfl) (fun _ _ => by kernel_rfl) hS5 ?_
      refine wpAnyH_done (by kernel_rfl) (NoPanic.normal ?_) _
      have HPL := show Hid (PlI _ _ _ _ _ _ _ _) from hpl
      have HFE := show Hid (R'.size = 7 ∧ R'.all (·.oneCell') = true) from ⟨h57, h51⟩
      obtain ⟨F', hF'⟩ : ∃ F', more F wr.drew w4 = F' := ⟨_, rfl⟩
      rw [hF'] at HPL
      obtain ⟨w5, hw5⟩ : ∃ w5, w4.setRow gr R' = w5 := ⟨_, rfl⟩
      rw [hw5] at HPL ⊢
      clear hD0 hS4 hS5 hj4 ht4 hrow4 hpl hF' hw5
      go_simp
      go_wp2_with (first
        | (refine wpListG_load_str (by kernel_rfl) (.tmp 6) rfl gr rfl R' HPL.out.row HFE.out.1 ?_)
        | (go_at_call 14; refine (same_any HPL.out.jt.live _ HPL.out.jt.ref).mono ?_; rintro e w6 ⟨rfl, ha6⟩; have HP6 := show Hid (PlI _ _ _ _ _ _ _ _) from HPL.out.after ha6; clear ha6))
      go_roundw
      case rel => exact ⟨j + 1, F', R', by omega, rfl, by go_num, by rw [HNX.out]; exact HP6.out⟩
      case measure => simp [intOf]; omega
    · go_wp2_with (first
        | (refine wpList_load_row rfl 27 (.tmp 6) rfl gr rfl 27 R (0, 0) _ HI.out.row Try.underlying27 rfl (by rw [HI.out.r7]; kernel_rfl) ?_)
        | (go_at_call 14; refine (same_any HI.out.jt.live _ HI.out.jt.ref).mono ?_; rintro e w6 ⟨rfl, ha6⟩; have HA6 : Hid (After w w6) := After.trans HI.out.jt.aft ha6; clear ha6)
        | (go_at_call 15; refine (awake_any w6).mono ?_; rintro e w7 ⟨rfl, ha7⟩; have HA7 : Hid (After w w7) := After.trans HA6.out ha7; clear ha7))
      go_ret
      exact ⟨rfl, HA7.out⟩
end Go.Proofs.Ytlbodickflljfaa
