/-
  The reference's Insert (32): a cell that is put.
-/
import Derived.Test.YtiglenomigipmaaSE
namespace Go.Proofs.Ytiglenomigipmaa
open Go.RowKit Go.Shelf
attribute [local go_sem] Oper.semAt_some
set_option maxRecDepth 100000 in
theorem built68 {b d : H} (h32 : b.length = 32) (k32 : d.length = 32) (c e ch : Int) : Try.prog.built 68 [(0, .agg (Value.int .i64 c :: c8 b).toArray), (1, .agg (Value.int .i64 e :: c8 d).toArray), (2, .int .u8 ch), (3, .bool false)] = some ((Value.int .i64 c :: c8 b) ++ ((Value.int .i64 e :: c8 d) ++ [Value.int .u8 ch, .bool false])).toArray := by
  obtain ⟨b0, b1, b2, b3, b4, b5, b6, b7, b8, b9, b10, b11, b12, b13, b14, b15, b16, b17, b18, b19, b20, b21, b22, b23, b24, b25, b26, b27, b28, b29, b30, b31, rfl⟩ := len32 h32
  obtain ⟨d0, d1, d2, d3, d4, d5, d6, d7, d8, d9, d10, d11, d12, d13, d14, d15, d16, d17, d18, d19, d20, d21, d22, d23, d24, d25, d26, d27, d28, d29, d30, d31, rfl⟩ := len32 k32
  kernel_rfl
section
variable {oi : Oper} {a : Act} {w : World}
theorem x_bld68 {x y z : Operand} {id af : Idn} {ch : UInt8} (hid : id.Ok) (haf : af.Ok) (hop : oi.op = .build 68 #[(0, x), (1, y), (2, z), (3, .const (.bool false))]) (hx : a.eval x = idv id) (hy : a.eval y = idv af) (hz : a.eval z = .int .u8 (ch.toNat : Int)) : (execOp a.eval oi).run Try.prog w = .ok (.value (.agg (rcell ⟨id, af, ch, false⟩).toArray)) w := by
  have h := run_build (P := Try.prog) w 68 #[(0, idv id), (1, idv af), (2, .int .u8 (ch.toNat : Int)), (3, .bool false)] (rcell ⟨id, af, ch, false⟩).toArray (built68 hid.len haf.len _ _ _)
  have hk : a.eval (.const (.bool false)) = .bool false := rfl
  unfold execOp
  simp only [hop]
  simp [hx, hy, hz, hk, h]
set_option maxRecDepth 100000 in
theorem x_bs27 {x : Operand} {cs : List Value} (hl : cs.length = 68) (hop : oi.op = .buildSlice 27 1 #[(0, x)]) (hx : a.eval x = .agg cs.toArray) : (execOp a.eval oi).run Try.prog w = .ok (.value (.slice (some ⟨w.heap.size, 0, none⟩) 1 1)) (w.alloc (.cells cs.toArray 68)) := by
  obtain ⟨i, z, hi, hz, hsz, hby, hzc⟩ := info68
  have hzs : z.cells.size = 68 := by rw [hzc]; simp [rcell_len zRC_ok]
  have hb : (Instr.buildSlice 27 1 #[(0, .agg cs.toArray)]).run Try.prog w = .ok (.slice (some ⟨w.heap.size, 0, none⟩) 1 1) (w.alloc (.cells cs.toArray 68)) := by
    refine run_buildSlice (P := Try.prog) w 27 68 1 #[(0, .agg cs.toArray)] cs.toArray i z Try.underlying27 hi hz (by rw [hsz]; omega) (by rw [hsz]; omega) ?_
    rw [hsz]
    have := Great.fill_whole (s := 68) (by omega) [Value.agg cs.toArray] ((Array.range (1 * 68)).map (z.cells[· % z.cells.size]!)) (fun v hv' => by rw [List.mem_singleton] at hv'; subst hv'; simp [Value.cells, hl]) (by simp)
    refine Eq.trans this ?_
    simp [Value.cells]
  unfold execOp
  simp [hop, hx, hb]
end
theorem app_nil {W : World} {base : Nat} {v : Value} {l : List RC} (h : RowR W base v l) (hl : l.length ≤ 100000) : ∃ v' W', (Builtin.append_ #[27, 27] 27 #[.slice none 0 0, v]).run Try.prog W = .ok v' W' ∧ RowR W' W.heap.size v' l ∧ After W W' := by
  obtain ⟨v', w2, h1, h2, h3, h4⟩ := run_app27 (w := W) (base := W.heap.size) 27 (RowR.nil W _) h.src (by simp; omega) (Nat.le_refl _)
  exact ⟨v', w2, h1, by simpa using h2, grown_none h3⟩
theorem app_one {W8 W : World} {base g : Nat} {v : Value} {l : List RC} {c : RC} (hk : After W8 W) (hb : W8.heap.size ≤ base) (hbw : base ≤ W.heap.size) (h : RowR W base v l) (hl : l.length ≤ 100000) (hc : c.Ok) (hr : RowIs W g 68 (rcell c)) : ∃ g' m c' W', (Builtin.append_ #[27, 27] 27 #[v, .slice (some ⟨g, 0, none⟩) 1 1]).run Try.prog W = .ok (.slice (some ⟨g', 0, none⟩) m c') W' ∧ RowR W' base (.slice (some ⟨g', 0, none⟩) m c') (l ++ [c]) ∧ After W8 W' ∧ base ≤ g' := by
  have hs : SrcR W (.slice (some ⟨g, 0, none⟩) 1 1) [c] := ⟨fun d hd => by rw [List.mem_singleton] at hd; rw [hd]; exact hc, .inr ⟨g, 0, 1, rfl, by simpa using hr.range0⟩⟩
  obtain ⟨v', w2, h1, h2, h3, h4⟩ := run_app27 (w := W) (base := base) 27 h hs (by simp; omega) hbw
  obtain ⟨g', c', hv, hb'⟩ := h2.hold (i := l.length) (c := c) (by simp)
  subst hv
  refine ⟨g', _, c', w2, h1, h2, ?_, hb'⟩
  refine ⟨h3.os.trans hk.os, h3.tape.trans hk.tape, h3.output.trans hk.output, Nat.le_trans hk.size h3.size, fun b hb2 => ?_⟩
  refine (h3.block b (Nat.lt_of_lt_of_le hb2 hk.size) (fun e => ?_)).trans (hk.block b hb2)
  have := (own_lt h.2.2 e.symm).1
  omega
theorem ins_facts {w W0 W8 W3 W4 : World} {base gr gz g' m' c' : Nat} {v : Value} {l : List RC} (hA : After w W0) (h1 : RowIs W8 gr 29 [v]) (h2 : RowIs W8 gz 29 [.slice none 0 0]) (h8 : After W0 W8) (hR : RowR W3 W8.heap.size (.slice (some ⟨g', 0, none⟩) m' c') l) (h3 : After W8 W3) (hg : W8.heap.size ≤ g') (hb : base ≤ w.heap.size ∧ gr = w.heap.size ∧ gz = w.heap.size + 1 + 1 + 1) (hW : W3.setCell ⟨gr, 0, none⟩ (.slice (some ⟨g', 0, none⟩) m' c') = W4) :
    RowIs W4 gr 29 [.slice (some ⟨g', 0, none⟩) m' c'] ∧ RowIs W4 gz 29 [.slice none 0 0] ∧ RowR W4 W8.heap.size (.slice (some ⟨g', 0, none⟩) m' c') l ∧ After w W4 ∧ W8.heap.size ≤ g' ∧ gz < W8.heap.size ∧ base ≤ W8.heap.size := by
  obtain ⟨hb1, hb2, hb3⟩ := hb
  have l1 := h1.lt
  have l2 := h2.lt
  rw [← hW]
  refine ⟨(h1.below h3 l1).set 0 _, (h2.below h3 l2).other _ _ (by show ¬ gz = gr; omega), hR.same (fun b hb => ?_), Below.setCell ((hA.trans h8).trans h3) (p := ⟨gr, 0, none⟩) (by show w.heap.size ≤ gr; omega) _, hg, l2, by omega⟩
  cases hb
  exact Below.heap_setCell W3 ⟨gr, 0, none⟩ _ _ (by show g' ≠ gr; omega)
set_option maxRecDepth 100000 in
set_option maxHeartbeats 1600000 in
theorem rInsert_okA {w : World} {base : Nat} {v : Value} {l : List RC} (h : RowR w base v l) {af id : Idn} (haf : af.Ok) (hid : id.Ok) (ch : UInt8) (hl : l.length ≤ 100000) (hb : base ≤ w.heap.size) (h1 : ¬ id.c < 1) (h2 : ¬ id.c ≤ af.c) (h3 : rplc l id = none) (hz : af = zId) :
    Calls Try.prog 32 #[.agg #[v], idv af, idv id, .int .u8 (ch.toNat : Int)] w fun e w' => ∃ v', e = .returned (.tuple #[.agg #[v'], .int .i64 0]) ∧ RowR w' base v' (l ++ [⟨id, af, ch, false⟩]) ∧ After w w' := by
  obtain ⟨va, cap, rfl⟩ := h.sl
  obtain ⟨n, hn⟩ : ∃ n, l.length = n := ⟨_, rfl⟩
  rw [hn] at h ⊢
  obtain ⟨W0, hW0⟩ : ∃ W0, (((w.alloc (.cells #[.slice va n cap] 29)).alloc (.cells (idc af).toArray 40)).alloc (.cells (idc id).toArray 40)).alloc (.cells #[.slice none 0 0] 29) = W0 := ⟨_, rfl⟩
  have HA : Hid (After w W0 ∧ RowIs W0 (w.heap.size + 1) 40 (idc af) ∧ RowIs W0 (w.heap.size + 1 + 1) 40 (idc id)) := by
    rw [← hW0]
    refine ⟨after_alloc (after_alloc (after_alloc (after_alloc (After.refl w) _) _) _) _, ?_, ?_⟩
    · have := RowIs.new (w.alloc (.cells #[.slice va n cap] 29)) 40 (idc af)
      rw [World.size_alloc] at this
      exact (this.alloc _).alloc _
    · have := RowIs.new ((w.alloc (.cells #[.slice va n cap] 29)).alloc (.cells (idc af).toArray 40)) 40 (idc id)
      rw [World.size_alloc, World.size_alloc] at this
      exact this.alloc _
  have HB : Hid (RowIs W0 w.heap.size 29 [.slice va n cap] ∧ RowIs W0 (w.heap.size + 1 + 1 + 1) 29 [.slice none 0 0]) := by
    rw [← hW0]
    refine ⟨(((RowIs.new w 29 [.slice va n cap]).alloc _).alloc _).alloc _, ?_⟩
    have := RowIs.new (((w.alloc (.cells #[.slice va n cap] 29)).alloc (.cells (idc af).toArray 40)).alloc (.cells (idc id).toArray 40)) 29 [.slice none 0 0]
    rwa [World.size_alloc, World.size_alloc, World.size_alloc] at this
  have HB1 : Hid (∀ w1, After W0 w1 → RowIs w1 w.heap.size 29 [.slice va n cap] ∧ RowIs w1 (w.heap.size + 1 + 1 + 1) 29 [.slice none 0 0] ∧ RowIs w1 (w.heap.size + 1) 40 (idc af) ∧ RowIs w1 (w.heap.size + 1 + 1) 40 (idc id)) := fun w1 hw => ⟨HB.out.1.below hw HB.out.1.lt, HB.out.2.below hw HB.out.2.lt, HA.out.2.1.below hw HA.out.2.1.lt, HA.out.2.2.below hw HA.out.2.2.lt⟩
  have HOK : Hid (af.Ok ∧ id.Ok) := ⟨haf, hid⟩
  have HCOK : Hid (RC.Ok ⟨id, af, ch, false⟩) := ⟨hid, haf⟩
  have cid : W0.cell? ⟨w.heap.size + 1 + 1, 0, none⟩ = some (.int .i64 id.c) := HA.out.2.2.cell rfl
  have caf : W0.cell? ⟨w.heap.size + 1, 0, none⟩ = some (.int .i64 af.c) := HA.out.2.1.cell rfl
  have HC1 : Hid (Calls Try.prog 30 #[.agg #[.slice va n cap], .agg (idc id).toArray] W0 fun e w' => e = .returned (.int .i64 (-1)) ∧ After W0 w') := by
    have := Find_any (h.after HA.out.1) hid (by omega)
    rw [h3] at this; exact this
  have HNE : Hid ((!decide (af = zId)) = false) := by unfold Hid; simp [hz]
  have HR : Hid (RowR w base (.slice va n cap) l ∧ l.length ≤ 100000) := ⟨h, hl⟩
  have HBS : Hid (base ≤ w.heap.size) := hb
  clear h haf hid hl hb h3 hz hn
  unfold idv
  go_enter Try.func32, Try.ntmps32
  go_wp2_with (first
      | (rw [hW0])
      | (refine wpList_of_run rfl ((x_al29 rfl).trans (by rw [hW0])) ?_)
      | (refine wpList_load_row rfl 29 (.tmp 4) rfl w.heap.size rfl 29 #[.slice va n cap] (0, 0) _ (HB.out.1) Try.underlying29 rfl (size29 _) ?_)
      | (refine wpList_load_row rfl 40 (.tmp 6) rfl (w.heap.size + 1 + 1) rfl 40 (idc id).toArray (0, 0) _ HA.out.2.2 Try.underlying40 rfl (size40 HOK.out.2) ?_)
      | (go_at_call 30; refine Calls.mono HC1.out ?_; clear HC1; rintro e w1 ⟨rfl, hw1⟩; have H1 := show Hid (After W0 w1 ∧ (RowIs w1 w.heap.size 29 [.slice va n cap] ∧ RowIs w1 (w.heap.size + 1 + 1 + 1) 29 [.slice none 0 0] ∧ RowIs w1 (w.heap.size + 1) 40 (idc af) ∧ RowIs w1 (w.heap.size + 1 + 1) 40 (idc id))) from ⟨hw1, HB1.out w1 hw1⟩; clear hw1)
      | (refine wpList_load_row rfl 40 (.tmp 5) rfl (w.heap.size + 1) rfl 40 (idc af).toArray (0, 0) _ H1.out.2.2.2.1 Try.underlying40 rfl (size40 HOK.out.1) ?_)
      | (refine wpList_of_run rfl (x_zb40 rfl) ?_)
      | (refine wpList_of_run rfl (x_neId40 (x := .tmp 30) (y := .tmp 31) (h := af) (k := zId) HOK.out.1 zId_ok rfl rfl rfl) ?_; rw [HNE.out]))
  have HA8 : Hid (After W0 w1) := H1.out.1
  have H8 := show Hid _ from H1.out.2
  refine wp_region_noPanic ?_
  refine wp_region_held_drew (S := KeptF (fun b => b = w.heap.size) w1) (by kernel_rfl) (KeptF.of_after (After.drew (After.refl _))) ?_
  intro hS0
  refine tk 0 40 (.slice none 0 0) (fuel := 11) rfl (by kernel_rfl) (by kernel_rfl) (by kernel_rfl) (by kernel_rfl) noPanic_false (by kernel_rfl) (fun _ _ => by kernel_rfl) hS0 ?_
  refine tk 1 41 (.pointer (some ⟨w.heap.size, 0, none⟩)) (fuel := 10) rfl (by kernel_rfl) (by kernel_rfl) (by kernel_rfl) (by kernel_rfl) noPanic_false (by kernel_rfl) (fun _ _ => by kernel_rfl) hS0 ?_
  refine tk 4 44 (idv id) (fuel := 9) rfl (by kernel_rfl) (by kernel_rfl) (by kernel_rfl) (by kernel_rfl) noPanic_false (by kernel_rfl) (fun W hW => x_ld40m (x := .tmp 6) (g := w.heap.size + 1 + 1) (p := 0) HOK.out.2 (by kernel_rfl) (by kernel_rfl) (hW.row H8.out.2.2.2 (by omega)).range0) hS0 ?_
  refine tk 5 45 (idv af) (fuel := 8) rfl (by kernel_rfl) (by kernel_rfl) (by kernel_rfl) (by kernel_rfl) noPanic_false (by kernel_rfl) (fun W hW => x_ld40m (x := .tmp 5) (g := w.heap.size + 1) (p := 0) HOK.out.1 (by kernel_rfl) (by kernel_rfl) (hW.row H8.out.2.2.1 (by omega)).range0) hS0 ?_
  refine tk 6 46 (.int .u8 (ch.toNat : Int)) (fuel := 7) rfl (by kernel_rfl) (by kernel_rfl) (by kernel_rfl) (by kernel_rfl) noPanic_false (by kernel_rfl) (fun _ _ => by kernel_rfl) hS0 ?_
  refine tk 7 47 (.agg (rcell ⟨id, af, ch, false⟩).toArray) (fuel := 6) rfl (by kernel_rfl) (by kernel_rfl) (by kernel_rfl) (by kernel_rfl) noPanic_false (by kernel_rfl) (fun W hW => x_bld68 (x := .tmp 44) (y := .tmp 45) (z := .tmp 46) HOK.out.2 HOK.out.1 (by kernel_rfl) (by kernel_rfl) (by kernel_rfl) (by kernel_rfl)) hS0 ?_
  have hd8 : After w1 w1.drew := After.drew (After.refl _)
  have RD : RowR w1.drew base (.slice va n cap) l := (HR.out.1.after (HA.out.1.trans HA8.out)).after hd8
  refine wpAnyH_all (rs := [2, 8]) (by kernel_rfl) (by simp) (fun ii hi => ?_)
  have hi2 : ii = 2 ∨ ii = 8 := by simpa using hi
  clear hi
  rcases hi2 with rfl | rfl
  · refine opVal 2 42 (.slice va n cap) (w1.drew) rfl (by kernel_rfl) (by kernel_rfl) (x_loadT (x := .tmp 41) (t := 27) (g := w.heap.size) (j := 0) Try.underlying27 rfl (by kernel_rfl) (by kernel_rfl) ((H8.out.1.below hd8 H8.out.1.lt).cell (j := 0) rfl)) ⟨KeptF.of_after hd8, ?_⟩
    refine wpAnyH_all (rs := [3, 8]) (by kernel_rfl) (by simp) (fun ii hi => ?_)
    have hi2 : ii = 3 ∨ ii = 8 := by simpa using hi
    clear hi
    rcases hi2 with rfl | rfl
    · obtain ⟨v1, W1, hp1, hp2, hp3⟩ := app_nil RD HR.out.2
      have hz1 : RowIs (W1.alloc (.cells (rcell ⟨id, af, ch, false⟩).toArray 68)) W1.heap.size 68 (rcell ⟨id, af, ch, false⟩) := RowIs.new W1 68 _
      refine opVal 3 43 v1 W1 rfl (by kernel_rfl) (by kernel_rfl) (x_app27 (s := .tmp 40) (x := .tmp 42) (v := .slice none 0 0) (u := .slice va n cap) (by kernel_rfl) (by kernel_rfl) (by kernel_rfl) hp1) ⟨KeptF.of_after (hd8.trans hp3), ?_⟩
      refine tkRunS 8 48 (.slice (some ⟨W1.heap.size, 0, none⟩) 1 1) (W1.alloc (.cells (rcell ⟨id, af, ch, false⟩).toArray 68)) (fuel := 3) rfl (by kernel_rfl) (by kernel_rfl) (by kernel_rfl) (x_bs27 (x := .tmp 47) (cs := rcell ⟨id, af, ch, false⟩) (rcell_len HCOK.out) (by kernel_rfl) (by kernel_rfl)) (KeptF.of_after (after_alloc (hd8.trans hp3) _)) ?_
      obtain ⟨g', m', c', W3, hq1, hq2, hq3, hq4⟩ := app_one (W8 := w1) (W := W1.alloc (.cells (rcell ⟨id, af, ch, false⟩).toArray 68)) (base := w1.heap.size) (g := W1.heap.size) (v := v1) (c := ⟨id, af, ch, false⟩) (after_alloc (hd8.trans hp3) _) (Nat.le_refl _) (after_alloc (hd8.trans hp3) _).size ((hp2.after (after_alloc (After.refl W1) _)).mono hd8.size) HR.out.2 HCOK.out hz1
      refine tkRunS 9 49 (.slice (some ⟨g', 0, none⟩) m' c') W3 (fuel := 2) rfl (by kernel_rfl) (by kernel_rfl) (by kernel_rfl) (x_app27 (s := .tmp 43) (x := .tmp 48) (v := v1) (u := .slice (some ⟨W1.heap.size, 0, none⟩) 1 1) (by kernel_rfl) (by kernel_rfl) (by kernel_rfl) hq1) (KeptF.of_after hq3) ?_
      have k3 : RowIs W3 w.heap.size 29 [.slice va n cap] := H8.out.1.below hq3 H8.out.1.lt
      refine tk 10 50 (.pointer (some ⟨w.heap.size, 0, none⟩)) (fuel := 1) rfl (by kernel_rfl) (by kernel_rfl) (by kernel_rfl) (by kernel_rfl) noPanic_false (by kernel_rfl) (fun _ _ => by kernel_rfl) (KeptF.of_after hq3) ?_
      refine tkStoreS 11 (W3.setCell ⟨w.heap.size, 0, none⟩ (.slice (some ⟨g', 0, none⟩) m' c')) (fuel := 0) rfl (by kernel_rfl) (by kernel_rfl) (by kernel_rfl) (x_st27 (x := .tmp 50) (y := .tmp 49) (g := w.heap.size) (p := 0) (va := some ⟨g', 0, none⟩) (m := m') (c := c') (by kernel_rfl) (by kernel_rfl) (by kernel_rfl) (k3.cell (j := 0) rfl) (k3.frozen 0)) ((KeptF.of_after hq3).trans (KeptF.set (F := fun b => b = w.heap.size) W3 ⟨w.heap.size, 0, none⟩ _ rfl) (fun _ _ h => h)) ?_
      refine wpAnyH_done (by kernel_rfl) (NoPanic.normal ?_) _
      obtain ⟨W4, hW4⟩ : ∃ W4, W3.setCell ⟨w.heap.size, 0, none⟩ (.slice (some ⟨g', 0, none⟩) m' c') = W4 := ⟨_, rfl⟩
      have H9 := show Hid (RowIs W4 w.heap.size 29 [.slice (some ⟨g', 0, none⟩) m' c'] ∧ RowIs W4 (w.heap.size + 1 + 1 + 1) 29 [.slice none 0 0] ∧ RowR W4 w1.heap.size (.slice (some ⟨g', 0, none⟩) m' c') (l ++ [⟨id, af, ch, false⟩]) ∧ After w W4 ∧ w1.heap.size ≤ g' ∧ w.heap.size + 1 + 1 + 1 < w1.heap.size ∧ base ≤ w1.heap.size) from ins_facts HA.out.1 H8.out.1 H8.out.2.1 HA8.out hq2 hq3 hq4 ⟨HBS.out, rfl, rfl⟩ hW4
      rw [hW4]
      clear hW4 hq1 hq2 hq3 hq4 k3 hp1 hp2 hp3 hz1 RD hd8
      go_simp
      go_wp2_with (first
        | (refine wpList_load_row rfl 29 (.tmp 4) rfl w.heap.size rfl 29 #[.slice (some ⟨g', 0, none⟩) m' c'] (0, 0) _ H9.out.1 Try.underlying29 rfl (size29 _) ?_)
        | (refine wpList_store_row rfl 29 (.tmp 8) (.tmp 51) rfl (w.heap.size + 1 + 1 + 1) #[.slice (some ⟨g', 0, none⟩) m' c'] rfl rfl 29 _ H9.out.2.1 (size29 _) rfl (by simp [Value.oneCell']) ?_))
      have hg : RowIs (W4.setRow (w.heap.size + 1 + 1 + 1) #[.slice (some ⟨g', 0, none⟩) m' c']) (w.heap.size + 1 + 1 + 1) 29 [.slice (some ⟨g', 0, none⟩) m' c'] := H9.out.2.1.setRow _
      refine ⟨rfl, _, ret29 Try.results32 _ _ (w.heap.size + 1 + 1 + 1) (.slice (some ⟨g', 0, none⟩) m' c') (.int .i64 0) rfl hg rfl, _, rfl, ?_, Below.row H9.out.2.2.2.1 (by omega) _⟩
      refine (H9.out.2.2.1.same (fun b hb => ?_)).mono H9.out.2.2.2.2.2.2
      cases hb
      have hz1 := H9.out.2.2.2.2.1
      have hz2 := H9.out.2.2.2.2.2.1
      exact Go.setRow_other _ _ _ _ (by show g' ≠ w.heap.size + 1 + 1 + 1; omega)
    · obtain ⟨v1, W1, hp1, hp2, hp3⟩ := app_nil (RD.after (after_alloc (After.refl _) (.cells (rcell ⟨id, af, ch, false⟩).toArray 68))) HR.out.2
      have hz0 : RowIs ((w1.drew).alloc (.cells (rcell ⟨id, af, ch, false⟩).toArray 68)) (w1.drew).heap.size 68 (rcell ⟨id, af, ch, false⟩) := RowIs.new _ 68 _
      have hz1 : RowIs W1 (w1.drew).heap.size 68 (rcell ⟨id, af, ch, false⟩) := hz0.below hp3 hz0.lt
      have hd9 : After w1 ((w1.drew).alloc (.cells (rcell ⟨id, af, ch, false⟩).toArray 68)) := after_alloc hd8 _
      refine opVal 8 48 (.slice (some ⟨(w1.drew).heap.size, 0, none⟩) 1 1) ((w1.drew).alloc (.cells (rcell ⟨id, af, ch, false⟩).toArray 68)) rfl (by kernel_rfl) (by kernel_rfl) (x_bs27 (x := .tmp 47) (cs := rcell ⟨id, af, ch, false⟩) (rcell_len HCOK.out) (by kernel_rfl) (by kernel_rfl)) ⟨KeptF.of_after hd9, ?_⟩
      refine tkRunS 3 43 v1 W1 (fuel := 3) rfl (by kernel_rfl) (by kernel_rfl) (by kernel_rfl) (x_app27 (s := .tmp 40) (x := .tmp 42) (v := .slice none 0 0) (u := .slice va n cap) (by kernel_rfl) (by kernel_rfl) (by kernel_rfl) hp1) (KeptF.of_after (hd9.trans hp3)) ?_
      obtain ⟨g', m', c', W3, hq1, hq2, hq3, hq4⟩ := app_one (W8 := w1) (W := W1) (base := w1.heap.size) (g := (w1.drew).heap.size) (v := v1) (c := ⟨id, af, ch, false⟩) (hd9.trans hp3) (Nat.le_refl _) (hd9.trans hp3).size (hp2.mono hd9.size) HR.out.2 HCOK.out hz1
      refine tkRunS 9 49 (.slice (some ⟨g', 0, none⟩) m' c') W3 (fuel := 2) rfl (by kernel_rfl) (by kernel_rfl) (by kernel_rfl) (x_app27 (s := .tmp 43) (x := .tmp 48) (v := v1) (u := .slice (some ⟨(w1.drew).heap.size, 0, none⟩) 1 1) (by kernel_rfl) (by kernel_rfl) (by kernel_rfl) hq1) (KeptF.of_after hq3) ?_
      have k3 : RowIs W3 w.heap.size 29 [.slice va n cap] := H8.out.1.below hq3 H8.out.1.lt
      refine tk 10 50 (.pointer (some ⟨w.heap.size, 0, none⟩)) (fuel := 1) rfl (by kernel_rfl) (by kernel_rfl) (by kernel_rfl) (by kernel_rfl) noPanic_false (by kernel_rfl) (fun _ _ => by kernel_rfl) (KeptF.of_after hq3) ?_
      refine tkStoreS 11 (W3.setCell ⟨w.heap.size, 0, none⟩ (.slice (some ⟨g', 0, none⟩) m' c')) (fuel := 0) rfl (by kernel_rfl) (by kernel_rfl) (by kernel_rfl) (x_st27 (x := .tmp 50) (y := .tmp 49) (g := w.heap.size) (p := 0) (va := some ⟨g', 0, none⟩) (m := m') (c := c') (by kernel_rfl) (by kernel_rfl) (by kernel_rfl) (k3.cell (j := 0) rfl) (k3.frozen 0)) ((KeptF.of_after hq3).trans (KeptF.set (F := fun b => b = w.heap.size) W3 ⟨w.heap.size, 0, none⟩ _ rfl) (fun _ _ h => h)) ?_
      refine wpAnyH_done (by kernel_rfl) (NoPanic.normal ?_) _
      obtain ⟨W4, hW4⟩ : ∃ W4, W3.setCell ⟨w.heap.size, 0, none⟩ (.slice (some ⟨g', 0, none⟩) m' c') = W4 := ⟨_, rfl⟩
      have H9 := show Hid (RowIs W4 w.heap.size 29 [.slice (some ⟨g', 0, none⟩) m' c'] ∧ RowIs W4 (w.heap.size + 1 + 1 + 1) 29 [.slice none 0 0] ∧ RowR W4 w1.heap.size (.slice (some ⟨g', 0, none⟩) m' c') (l ++ [⟨id, af, ch, false⟩]) ∧ After w W4 ∧ w1.heap.size ≤ g' ∧ w.heap.size + 1 + 1 + 1 < w1.heap.size ∧ base ≤ w1.heap.size) from ins_facts HA.out.1 H8.out.1 H8.out.2.1 HA8.out hq2 hq3 hq4 ⟨HBS.out, rfl, rfl⟩ hW4
      rw [hW4]
      clear hW4 hq1 hq2 hq3 hq4 k3 hp1 hp2 hp3 hz0 hz1 hd9 RD hd8
      go_simp
      go_wp2_with (first
        | (refine wpList_load_row rfl 29 (.tmp 4) rfl w.heap.size rfl 29 #[.slice (some ⟨g', 0, none⟩) m' c'] (0, 0) _ H9.out.1 Try.underlying29 rfl (size29 _) ?_)
        | (refine wpList_store_row rfl 29 (.tmp 8) (.tmp 51) rfl (w.heap.size + 1 + 1 + 1) #[.slice (some ⟨g', 0, none⟩) m' c'] rfl rfl 29 _ H9.out.2.1 (size29 _) rfl (by simp [Value.oneCell']) ?_))
      have hg : RowIs (W4.setRow (w.heap.size + 1 + 1 + 1) #[.slice (some ⟨g', 0, none⟩) m' c']) (w.heap.size + 1 + 1 + 1) 29 [.slice (some ⟨g', 0, none⟩) m' c'] := H9.out.2.1.setRow _
      refine ⟨rfl, _, ret29 Try.results32 _ _ (w.heap.size + 1 + 1 + 1) (.slice (some ⟨g', 0, none⟩) m' c') (.int .i64 0) rfl hg rfl, _, rfl, ?_, Below.row H9.out.2.2.2.1 (by omega) _⟩
      refine (H9.out.2.2.1.same (fun b hb => ?_)).mono H9.out.2.2.2.2.2.2
      cases hb
      have hz1 := H9.out.2.2.2.2.1
      have hz2 := H9.out.2.2.2.2.2.1
      exact Go.setRow_other _ _ _ _ (by show g' ≠ w.heap.size + 1 + 1 + 1; omega)
  · obtain ⟨v1, W1, hp1, hp2, hp3⟩ := app_nil (RD.after (after_alloc (After.refl _) (.cells (rcell ⟨id, af, ch, false⟩).toArray 68))) HR.out.2
    have hz0 : RowIs ((w1.drew).alloc (.cells (rcell ⟨id, af, ch, false⟩).toArray 68)) (w1.drew).heap.size 68 (rcell ⟨id, af, ch, false⟩) := RowIs.new _ 68 _
    have hz1 : RowIs W1 (w1.drew).heap.size 68 (rcell ⟨id, af, ch, false⟩) := hz0.below hp3 hz0.lt
    have hd9 : After w1 ((w1.drew).alloc (.cells (rcell ⟨id, af, ch, false⟩).toArray 68)) := after_alloc hd8 _
    refine opVal 8 48 (.slice (some ⟨(w1.drew).heap.size, 0, none⟩) 1 1) ((w1.drew).alloc (.cells (rcell ⟨id, af, ch, false⟩).toArray 68)) rfl (by kernel_rfl) (by kernel_rfl) (x_bs27 (x := .tmp 47) (cs := rcell ⟨id, af, ch, false⟩) (rcell_len HCOK.out) (by kernel_rfl) (by kernel_rfl)) ⟨KeptF.of_after hd9, ?_⟩
    refine tkRunS 2 42 (.slice va n cap) ((w1.drew).alloc (.cells (rcell ⟨id, af, ch, false⟩).toArray 68)) (fuel := 4) rfl (by kernel_rfl) (by kernel_rfl) (by kernel_rfl) (x_loadT (x := .tmp 41) (t := 27) (g := w.heap.size) (j := 0) Try.underlying27 rfl (by kernel_rfl) (by kernel_rfl) ((H8.out.1.below hd9 H8.out.1.lt).cell (j := 0) rfl)) (KeptF.of_after hd9) ?_
    refine tkRunS 3 43 v1 W1 (fuel := 3) rfl (by kernel_rfl) (by kernel_rfl) (by kernel_rfl) (x_app27 (s := .tmp 40) (x := .tmp 42) (v := .slice none 0 0) (u := .slice va n cap) (by kernel_rfl) (by kernel_rfl) (by kernel_rfl) hp1) (KeptF.of_after (hd9.trans hp3)) ?_
    obtain ⟨g', m', c', W3, hq1, hq2, hq3, hq4⟩ := app_one (W8 := w1) (W := W1) (base := w1.heap.size) (g := (w1.drew).heap.size) (v := v1) (c := ⟨id, af, ch, false⟩) (hd9.trans hp3) (Nat.le_refl _) (hd9.trans hp3).size (hp2.mono hd9.size) HR.out.2 HCOK.out hz1
    refine tkRunS 9 49 (.slice (some ⟨g', 0, none⟩) m' c') W3 (fuel := 2) rfl (by kernel_rfl) (by kernel_rfl) (by kernel_rfl) (x_app27 (s := .tmp 43) (x := .tmp 48) (v := v1) (u := .slice (some ⟨(w1.drew).heap.size, 0, none⟩) 1 1) (by kernel_rfl) (by kernel_rfl) (by kernel_rfl) hq1) (KeptF.of_after hq3) ?_
    have k3 : RowIs W3 w.heap.size 29 [.slice va n cap] := H8.out.1.below hq3 H8.out.1.lt
    refine tk 10 50 (.pointer (some ⟨w.heap.size, 0, none⟩)) (fuel := 1) rfl (by kernel_rfl) (by kernel_rfl) (by kernel_rfl) (by kernel_rfl) noPanic_false (by kernel_rfl) (fun _ _ => by kernel_rfl) (KeptF.of_after hq3) ?_
    refine tkStoreS 11 (W3.setCell ⟨w.heap.size, 0, none⟩ (.slice (some ⟨g', 0, none⟩) m' c')) (fuel := 0) rfl (by kernel_rfl) (by kernel_rfl) (by kernel_rfl) (x_st27 (x := .tmp 50) (y := .tmp 49) (g := w.heap.size) (p := 0) (va := some ⟨g', 0, none⟩) (m := m') (c := c') (by kernel_rfl) (by kernel_rfl) (by kernel_rfl) (k3.cell (j := 0) rfl) (k3.frozen 0)) ((KeptF.of_after hq3).trans (KeptF.set (F := fun b => b = w.heap.size) W3 ⟨w.heap.size, 0, none⟩ _ rfl) (fun _ _ h => h)) ?_
    refine wpAnyH_done (by kernel_rfl) (NoPanic.normal ?_) _
    obtain ⟨W4, hW4⟩ : ∃ W4, W3.setCell ⟨w.heap.size, 0, none⟩ (.slice (some ⟨g', 0, none⟩) m' c') = W4 := ⟨_, rfl⟩
    have H9 := show Hid (RowIs W4 w.heap.size 29 [.slice (some ⟨g', 0, none⟩) m' c'] ∧ RowIs W4 (w.heap.size + 1 + 1 + 1) 29 [.slice none 0 0] ∧ RowR W4 w1.heap.size (.slice (some ⟨g', 0, none⟩) m' c') (l ++ [⟨id, af, ch, false⟩]) ∧ After w W4 ∧ w1.heap.size ≤ g' ∧ w.heap.size + 1 + 1 + 1 < w1.heap.size ∧ base ≤ w1.heap.size) from ins_facts HA.out.1 H8.out.1 H8.out.2.1 HA8.out hq2 hq3 hq4 ⟨HBS.out, rfl, rfl⟩ hW4
    rw [hW4]
    clear hW4 hq1 hq2 hq3 hq4 k3 hp1 hp2 hp3 hz0 hz1 hd9 RD hd8
    go_simp
    go_wp2_with (first
      | (refine wpList_load_row rfl 29 (.tmp 4) rfl w.heap.size rfl 29 #[.slice (some ⟨g', 0, none⟩) m' c'] (0, 0) _ H9.out.1 Try.underlying29 rfl (size29 _) ?_)
      | (refine wpList_store_row rfl 29 (.tmp 8) (.tmp 51) rfl (w.heap.size + 1 + 1 + 1) #[.slice (some ⟨g', 0, none⟩) m' c'] rfl rfl 29 _ H9.out.2.1 (size29 _) rfl (by simp [Value.oneCell']) ?_))
    have hg : RowIs (W4.setRow (w.heap.size + 1 + 1 + 1) #[.slice (some ⟨g', 0, none⟩) m' c']) (w.heap.size + 1 + 1 + 1) 29 [.slice (some ⟨g', 0, none⟩) m' c'] := H9.out.2.1.setRow _
    refine ⟨rfl, _, ret29 Try.results32 _ _ (w.heap.size + 1 + 1 + 1) (.slice (some ⟨g', 0, none⟩) m' c') (.int .i64 0) rfl hg rfl, _, rfl, ?_, Below.row H9.out.2.2.2.1 (by omega) _⟩
    refine (H9.out.2.2.1.same (fun b hb => ?_)).mono H9.out.2.2.2.2.2.2
    cases hb
    have hz1 := H9.out.2.2.2.2.1
    have hz2 := H9.out.2.2.2.2.2.1
    exact Go.setRow_other _ _ _ _ (by show g' ≠ w.heap.size + 1 + 1 + 1; omega)
set_option maxRecDepth 100000 in
set_option maxHeartbeats 1600000 in
theorem rInsert_okB {w : World} {base : Nat} {v : Value} {l : List RC} (h : RowR w base v l) {af id : Idn} (haf : af.Ok) (hid : id.Ok) (ch : UInt8) (hl : l.length ≤ 100000) (hb : base ≤ w.heap.size) (h1 : ¬ id.c < 1) (h2 : ¬ id.c ≤ af.c) (h3 : rplc l id = none) (hz : af ≠ zId) {k : Nat} (hk : rplc l af = some k) :
    Calls Try.prog 32 #[.agg #[v], idv af, idv id, .int .u8 (ch.toNat : Int)] w fun e w' => ∃ v', e = .returned (.tuple #[.agg #[v'], .int .i64 0]) ∧ RowR w' base v' (l ++ [⟨id, af, ch, false⟩]) ∧ After w w' := by
  obtain ⟨va, cap, rfl⟩ := h.sl
  obtain ⟨n, hn⟩ : ∃ n, l.length = n := ⟨_, rfl⟩
  rw [hn] at h ⊢
  obtain ⟨W0, hW0⟩ : ∃ W0, (((w.alloc (.cells #[.slice va n cap] 29)).alloc (.cells (idc af).toArray 40)).alloc (.cells (idc id).toArray 40)).alloc (.cells #[.slice none 0 0] 29) = W0 := ⟨_, rfl⟩
  have HA : Hid (After w W0 ∧ RowIs W0 (w.heap.size + 1) 40 (idc af) ∧ RowIs W0 (w.heap.size + 1 + 1) 40 (idc id)) := by
    rw [← hW0]
    refine ⟨after_alloc (after_alloc (after_alloc (after_alloc (After.refl w) _) _) _) _, ?_, ?_⟩
    · have := RowIs.new (w.alloc (.cells #[.slice va n cap] 29)) 40 (idc af)
      rw [World.size_alloc] at this
      exact (this.alloc _).alloc _
    · have := RowIs.new ((w.alloc (.cells #[.slice va n cap] 29)).alloc (.cells (idc af).toArray 40)) 40 (idc id)
      rw [World.size_alloc, World.size_alloc] at this
      exact this.alloc _
  have HB : Hid (RowIs W0 w.heap.size 29 [.slice va n cap] ∧ RowIs W0 (w.heap.size + 1 + 1 + 1) 29 [.slice none 0 0]) := by
    rw [← hW0]
    refine ⟨(((RowIs.new w 29 [.slice va n cap]).alloc _).alloc _).alloc _, ?_⟩
    have := RowIs.new (((w.alloc (.cells #[.slice va n cap] 29)).alloc (.cells (idc af).toArray 40)).alloc (.cells (idc id).toArray 40)) 29 [.slice none 0 0]
    rwa [World.size_alloc, World.size_alloc, World.size_alloc] at this
  have HB1 : Hid (∀ w1, After W0 w1 → RowIs w1 w.heap.size 29 [.slice va n cap] ∧ RowIs w1 (w.heap.size + 1 + 1 + 1) 29 [.slice none 0 0] ∧ RowIs w1 (w.heap.size + 1) 40 (idc af) ∧ RowIs w1 (w.heap.size + 1 + 1) 40 (idc id)) := fun w1 hw => ⟨HB.out.1.below hw HB.out.1.lt, HB.out.2.below hw HB.out.2.lt, HA.out.2.1.below hw HA.out.2.1.lt, HA.out.2.2.below hw HA.out.2.2.lt⟩
  have HOK : Hid (af.Ok ∧ id.Ok) := ⟨haf, hid⟩
  have HCOK : Hid (RC.Ok ⟨id, af, ch, false⟩) := ⟨hid, haf⟩
  have cid : W0.cell? ⟨w.heap.size + 1 + 1, 0, none⟩ = some (.int .i64 id.c) := HA.out.2.2.cell rfl
  have caf : W0.cell? ⟨w.heap.size + 1, 0, none⟩ = some (.int .i64 af.c) := HA.out.2.1.cell rfl
  have HC1 : Hid (Calls Try.prog 30 #[.agg #[.slice va n cap], .agg (idc id).toArray] W0 fun e w' => e = .returned (.int .i64 (-1)) ∧ After W0 w') := by
    have := Find_any (h.after HA.out.1) hid (by omega)
    rw [h3] at this; exact this
  have HC2 : Hid (∀ w1, After W0 w1 → Calls Try.prog 30 #[.agg #[.slice va n cap], .agg (idc af).toArray] w1 fun e w' => e = .returned (.int .i64 (k : Int)) ∧ After w1 w') := fun w1 hw => by
    have := Find_any (h.after (HA.out.1.trans hw)) haf (by omega)
    rw [hk] at this; exact this
  have hk0 : ¬ (k : Int) < 0 := by omega
  have HNE : Hid ((!decide (af = zId)) = true) := by unfold Hid; simp [hz]
  clear hk
  have HR : Hid (RowR w base (.slice va n cap) l ∧ l.length ≤ 100000) := ⟨h, hl⟩
  have HBS : Hid (base ≤ w.heap.size) := hb
  clear h haf hid hl hb h3 hz hn
  unfold idv
  go_enter Try.func32, Try.ntmps32
  go_wp2_with (first
      | (rw [hW0])
      | (refine wpList_of_run rfl ((x_al29 rfl).trans (by rw [hW0])) ?_)
      | (refine wpList_load_row rfl 29 (.tmp 4) rfl w.heap.size rfl 29 #[.slice va n cap] (0, 0) _ (HB.out.1) Try.underlying29 rfl (size29 _) ?_)
      | (refine wpList_load_row rfl 40 (.tmp 6) rfl (w.heap.size + 1 + 1) rfl 40 (idc id).toArray (0, 0) _ HA.out.2.2 Try.underlying40 rfl (size40 HOK.out.2) ?_)
      | (go_at_call 30; refine Calls.mono HC1.out ?_; clear HC1; rintro e w1 ⟨rfl, hw1⟩; have H1 := show Hid (After W0 w1 ∧ (RowIs w1 w.heap.size 29 [.slice va n cap] ∧ RowIs w1 (w.heap.size + 1 + 1 + 1) 29 [.slice none 0 0] ∧ RowIs w1 (w.heap.size + 1) 40 (idc af) ∧ RowIs w1 (w.heap.size + 1 + 1) 40 (idc id))) from ⟨hw1, HB1.out w1 hw1⟩; clear hw1)
      | (refine wpList_load_row rfl 40 (.tmp 5) rfl (w.heap.size + 1) rfl 40 (idc af).toArray (0, 0) _ H1.out.2.2.2.1 Try.underlying40 rfl (size40 HOK.out.1) ?_)
      | (refine wpList_of_run rfl (x_zb40 rfl) ?_)
      | (refine wpList_of_run rfl (x_neId40 (x := .tmp 30) (y := .tmp 31) (h := af) (k := zId) HOK.out.1 zId_ok rfl rfl rfl) ?_; rw [HNE.out])
      | (refine wpListG_of_run (v := .agg #[.slice va n cap]) (w' := w1) (by kernel_rfl) (x_ld29 (x := .tmp 4) (g := w.heap.size) rfl rfl H1.out.2.1) ?_)
      | (refine wpListG_of_run (by kernel_rfl) (x_ld40m (x := .tmp 5) (g := w.heap.size + 1) (p := 0) (y := af) HOK.out.1 rfl rfl H1.out.2.2.2.1.range0) ?_)
      | (go_at_call 30; refine Calls.mono (HC2.out w1 H1.out.1) ?_; rintro e w2 ⟨rfl, hw1⟩; have H2 := show Hid (After W0 w2 ∧ (RowIs w2 w.heap.size 29 [.slice va n cap] ∧ RowIs w2 (w.heap.size + 1 + 1 + 1) 29 [.slice none 0 0] ∧ RowIs w2 (w.heap.size + 1) 40 (idc af) ∧ RowIs w2 (w.heap.size + 1 + 1) 40 (idc id))) from ⟨H1.out.1.trans hw1, HB1.out w2 (H1.out.1.trans hw1)⟩; clear hw1))
  have HA8 : Hid (After W0 w2) := H2.out.1
  have H8 := show Hid _ from H2.out.2
  refine wp_region_noPanic ?_
  refine wp_region_held_drew (S := KeptF (fun b => b = w.heap.size) w2) (by kernel_rfl) (KeptF.of_after (After.drew (After.refl _))) ?_
  intro hS0
  refine tk 0 40 (.slice none 0 0) (fuel := 11) rfl (by kernel_rfl) (by kernel_rfl) (by kernel_rfl) (by kernel_rfl) noPanic_false (by kernel_rfl) (fun _ _ => by kernel_rfl) hS0 ?_
  refine tk 1 41 (.pointer (some ⟨w.heap.size, 0, none⟩)) (fuel := 10) rfl (by kernel_rfl) (by kernel_rfl) (by kernel_rfl) (by kernel_rfl) noPanic_false (by kernel_rfl) (fun _ _ => by kernel_rfl) hS0 ?_
  refine tk 4 44 (idv id) (fuel := 9) rfl (by kernel_rfl) (by kernel_rfl) (by kernel_rfl) (by kernel_rfl) noPanic_false (by kernel_rfl) (fun W hW => x_ld40m (x := .tmp 6) (g := w.heap.size + 1 + 1) (p := 0) HOK.out.2 (by kernel_rfl) (by kernel_rfl) (hW.row H8.out.2.2.2 (by omega)).range0) hS0 ?_
  refine tk 5 45 (idv af) (fuel := 8) rfl (by kernel_rfl) (by kernel_rfl) (by kernel_rfl) (by kernel_rfl) noPanic_false (by kernel_rfl) (fun W hW => x_ld40m (x := .tmp 5) (g := w.heap.size + 1) (p := 0) HOK.out.1 (by kernel_rfl) (by kernel_rfl) (hW.row H8.out.2.2.1 (by omega)).range0) hS0 ?_
  refine tk 6 46 (.int .u8 (ch.toNat : Int)) (fuel := 7) rfl (by kernel_rfl) (by kernel_rfl) (by kernel_rfl) (by kernel_rfl) noPanic_false (by kernel_rfl) (fun _ _ => by kernel_rfl) hS0 ?_
  refine tk 7 47 (.agg (rcell ⟨id, af, ch, false⟩).toArray) (fuel := 6) rfl (by kernel_rfl) (by kernel_rfl) (by kernel_rfl) (by kernel_rfl) noPanic_false (by kernel_rfl) (fun W hW => x_bld68 (x := .tmp 44) (y := .tmp 45) (z := .tmp 46) HOK.out.2 HOK.out.1 (by kernel_rfl) (by kernel_rfl) (by kernel_rfl) (by kernel_rfl)) hS0 ?_
  have hd8 : After w2 w2.drew := After.drew (After.refl _)
  have RD : RowR w2.drew base (.slice va n cap) l := (HR.out.1.after (HA.out.1.trans HA8.out)).after hd8
  refine wpAnyH_all (rs := [2, 8]) (by kernel_rfl) (by simp) (fun ii hi => ?_)
  have hi2 : ii = 2 ∨ ii = 8 := by simpa using hi
  clear hi
  rcases hi2 with rfl | rfl
  · refine opVal 2 42 (.slice va n cap) (w2.drew) rfl (by kernel_rfl) (by kernel_rfl) (x_loadT (x := .tmp 41) (t := 27) (g := w.heap.size) (j := 0) Try.underlying27 rfl (by kernel_rfl) (by kernel_rfl) ((H8.out.1.below hd8 H8.out.1.lt).cell (j := 0) rfl)) ⟨KeptF.of_after hd8, ?_⟩
    refine wpAnyH_all (rs := [3, 8]) (by kernel_rfl) (by simp) (fun ii hi => ?_)
    have hi2 : ii = 3 ∨ ii = 8 := by simpa using hi
    clear hi
    rcases hi2 with rfl | rfl
    · obtain ⟨v1, W1, hp1, hp2, hp3⟩ := app_nil RD HR.out.2
      have hz1 : RowIs (W1.alloc (.cells (rcell ⟨id, af, ch, false⟩).toArray 68)) W1.heap.size 68 (rcell ⟨id, af, ch, false⟩) := RowIs.new W1 68 _
      refine opVal 3 43 v1 W1 rfl (by kernel_rfl) (by kernel_rfl) (x_app27 (s := .tmp 40) (x := .tmp 42) (v := .slice none 0 0) (u := .slice va n cap) (by kernel_rfl) (by kernel_rfl) (by kernel_rfl) hp1) ⟨KeptF.of_after (hd8.trans hp3), ?_⟩
      refine tkRunS 8 48 (.slice (some ⟨W1.heap.size, 0, none⟩) 1 1) (W1.alloc (.cells (rcell ⟨id, af, ch, false⟩).toArray 68)) (fuel := 3) rfl (by kernel_rfl) (by kernel_rfl) (by kernel_rfl) (x_bs27 (x := .tmp 47) (cs := rcell ⟨id, af, ch, false⟩) (rcell_len HCOK.out) (by kernel_rfl) (by kernel_rfl)) (KeptF.of_after (after_alloc (hd8.trans hp3) _)) ?_
      obtain ⟨g', m', c', W3, hq1, hq2, hq3, hq4⟩ := app_one (W8 := w2) (W := W1.alloc (.cells (rcell ⟨id, af, ch, false⟩).toArray 68)) (base := w2.heap.size) (g := W1.heap.size) (v := v1) (c := ⟨id, af, ch, false⟩) (after_alloc (hd8.trans hp3) _) (Nat.le_refl _) (after_alloc (hd8.trans hp3) _).size ((hp2.after (after_alloc (After.refl W1) _)).mono hd8.size) HR.out.2 HCOK.out hz1
      refine tkRunS 9 49 (.slice (some ⟨g', 0, none⟩) m' c') W3 (fuel := 2) rfl (by kernel_rfl) (by kernel_rfl) (by kernel_rfl) (x_app27 (s := .tmp 43) (x := .tmp 48) (v := v1) (u := .slice (some ⟨W1.heap.size, 0, none⟩) 1 1) (by kernel_rfl) (by kernel_rfl) (by kernel_rfl) hq1) (KeptF.of_after hq3) ?_
      have k3 : RowIs W3 w.heap.size 29 [.slice va n cap] := H8.out.1.below hq3 H8.out.1.lt
      refine tk 10 50 (.pointer (some ⟨w.heap.size, 0, none⟩)) (fuel := 1) rfl (by kernel_rfl) (by kernel_rfl) (by kernel_rfl) (by kernel_rfl) noPanic_false (by kernel_rfl) (fun _ _ => by kernel_rfl) (KeptF.of_after hq3) ?_
      refine tkStoreS 11 (W3.setCell ⟨w.heap.size, 0, none⟩ (.slice (some ⟨g', 0, none⟩) m' c')) (fuel := 0) rfl (by kernel_rfl) (by kernel_rfl) (by kernel_rfl) (x_st27 (x := .tmp 50) (y := .tmp 49) (g := w.heap.size) (p := 0) (va := some ⟨g', 0, none⟩) (m := m') (c := c') (by kernel_rfl) (by kernel_rfl) (by kernel_rfl) (k3.cell (j := 0) rfl) (k3.frozen 0)) ((KeptF.of_after hq3).trans (KeptF.set (F := fun b => b = w.heap.size) W3 ⟨w.heap.size, 0, none⟩ _ rfl) (fun _ _ h => h)) ?_
      refine wpAnyH_done (by kernel_rfl) (NoPanic.normal ?_) _
      obtain ⟨W4, hW4⟩ : ∃ W4, W3.setCell ⟨w.heap.size, 0, none⟩ (.slice (some ⟨g', 0, none⟩) m' c') = W4 := ⟨_, rfl⟩
      have H9 := show Hid (RowIs W4 w.heap.size 29 [.slice (some ⟨g', 0, none⟩) m' c'] ∧ RowIs W4 (w.heap.size + 1 + 1 + 1) 29 [.slice none 0 0] ∧ RowR W4 w2.heap.size (.slice (some ⟨g', 0, none⟩) m' c') (l ++ [⟨id, af, ch, false⟩]) ∧ After w W4 ∧ w2.heap.size ≤ g' ∧ w.heap.size + 1 + 1 + 1 < w2.heap.size ∧ base ≤ w2.heap.size) from ins_facts HA.out.1 H8.out.1 H8.out.2.1 HA8.out hq2 hq3 hq4 ⟨HBS.out, rfl, rfl⟩ hW4
      rw [hW4]
      clear hW4 hq1 hq2 hq3 hq4 k3 hp1 hp2 hp3 hz1 RD hd8
      go_simp
      go_wp2_with (first
        | (refine wpList_load_row rfl 29 (.tmp 4) rfl w.heap.size rfl 29 #[.slice (some ⟨g', 0, none⟩) m' c'] (0, 0) _ H9.out.1 Try.underlying29 rfl (size29 _) ?_)
        | (refine wpList_store_row rfl 29 (.tmp 8) (.tmp 51) rfl (w.heap.size + 1 + 1 + 1) #[.slice (some ⟨g', 0, none⟩) m' c'] rfl rfl 29 _ H9.out.2.1 (size29 _) rfl (by simp [Value.oneCell']) ?_))
      have hg : RowIs (W4.setRow (w.heap.size + 1 + 1 + 1) #[.slice (some ⟨g', 0, none⟩) m' c']) (w.heap.size + 1 + 1 + 1) 29 [.slice (some ⟨g', 0, none⟩) m' c'] := H9.out.2.1.setRow _
      refine ⟨rfl, _, ret29 Try.results32 _ _ (w.heap.size + 1 + 1 + 1) (.slice (some ⟨g', 0, none⟩) m' c') (.int .i64 0) rfl hg rfl, _, rfl, ?_, Below.row H9.out.2.2.2.1 (by omega) _⟩
      refine (H9.out.2.2.1.same (fun b hb => ?_)).mono H9.out.2.2.2.2.2.2
      cases hb
      have hz1 := H9.out.2.2.2.2.1
      have hz2 := H9.out.2.2.2.2.2.1
      exact Go.setRow_other _ _ _ _ (by show g' ≠ w.heap.size + 1 + 1 + 1; omega)
    · obtain ⟨v1, W1, hp1, hp2, hp3⟩ := app_nil (RD.after (after_alloc (After.refl _) (.cells (rcell ⟨id, af, ch, false⟩).toArray 68))) HR.out.2
      have hz0 : RowIs ((w2.drew).alloc (.cells (rcell ⟨id, af, ch, false⟩).toArray 68)) (w2.drew).heap.size 68 (rcell ⟨id, af, ch, false⟩) := RowIs.new _ 68 _
      have hz1 : RowIs W1 (w2.drew).heap.size 68 (rcell ⟨id, af, ch, false⟩) := hz0.below hp3 hz0.lt
      have hd9 : After w2 ((w2.drew).alloc (.cells (rcell ⟨id, af, ch, false⟩).toArray 68)) := after_alloc hd8 _
      refine opVal 8 48 (.slice (some ⟨(w2.drew).heap.size, 0, none⟩) 1 1) ((w2.drew).alloc (.cells (rcell ⟨id, af, ch, false⟩).toArray 68)) rfl (by kernel_rfl) (by kernel_rfl) (x_bs27 (x := .tmp 47) (cs := rcell ⟨id, af, ch, false⟩) (rcell_len HCOK.out) (by kernel_rfl) (by kernel_rfl)) ⟨KeptF.of_after hd9, ?_⟩
      refine tkRunS 3 43 v1 W1 (fuel := 3) rfl (by kernel_rfl) (by kernel_rfl) (by kernel_rfl) (x_app27 (s := .tmp 40) (x := .tmp 42) (v := .slice none 0 0) (u := .slice va n cap) (by kernel_rfl) (by kernel_rfl) (by kernel_rfl) hp1) (KeptF.of_after (hd9.trans hp3)) ?_
      obtain ⟨g', m', c', W3, hq1, hq2, hq3, hq4⟩ := app_one (W8 := w2) (W := W1) (base := w2.heap.size) (g := (w2.drew).heap.size) (v := v1) (c := ⟨id, af, ch, false⟩) (hd9.trans hp3) (Nat.le_refl _) (hd9.trans hp3).size (hp2.mono hd9.size) HR.out.2 HCOK.out hz1
      refine tkRunS 9 49 (.slice (some ⟨g', 0, none⟩) m' c') W3 (fuel := 2) rfl (by kernel_rfl) (by kernel_rfl) (by kernel_rfl) (x_app27 (s := .tmp 43) (x := .tmp 48) (v := v1) (u := .slice (some ⟨(w2.drew).heap.size, 0, none⟩) 1 1) (by kernel_rfl) (by kernel_rfl) (by kernel_rfl) hq1) (KeptF.of_after hq3) ?_
      have k3 : RowIs W3 w.heap.size 29 [.slice va n cap] := H8.out.1.below hq3 H8.out.1.lt
      refine tk 10 50 (.pointer (some ⟨w.heap.size, 0, none⟩)) (fuel := 1) rfl (by kernel_rfl) (by kernel_rfl) (by kernel_rfl) (by kernel_rfl) noPanic_false (by kernel_rfl) (fun _ _ => by kernel_rfl) (KeptF.of_after hq3) ?_
      refine tkStoreS 11 (W3.setCell ⟨w.heap.size, 0, none⟩ (.slice (some ⟨g', 0, none⟩) m' c')) (fuel := 0) rfl (by kernel_rfl) (by kernel_rfl) (by kernel_rfl) (x_st27 (x := .tmp 50) (y := .tmp 49) (g := w.heap.size) (p := 0) (va := some ⟨g', 0, none⟩) (m := m') (c := c') (by kernel_rfl) (by kernel_rfl) (by kernel_rfl) (k3.cell (j := 0) rfl) (k3.frozen 0)) ((KeptF.of_after hq3).trans (KeptF.set (F := fun b => b = w.heap.size) W3 ⟨w.heap.size, 0, none⟩ _ rfl) (fun _ _ h => h)) ?_
      refine wpAnyH_done (by kernel_rfl) (NoPanic.normal ?_) _
      obtain ⟨W4, hW4⟩ : ∃ W4, W3.setCell ⟨w.heap.size, 0, none⟩ (.slice (some ⟨g', 0, none⟩) m' c') = W4 := ⟨_, rfl⟩
      have H9 := show Hid (RowIs W4 w.heap.size 29 [.slice (some ⟨g', 0, none⟩) m' c'] ∧ RowIs W4 (w.heap.size + 1 + 1 + 1) 29 [.slice none 0 0] ∧ RowR W4 w2.heap.size (.slice (some ⟨g', 0, none⟩) m' c') (l ++ [⟨id, af, ch, false⟩]) ∧ After w W4 ∧ w2.heap.size ≤ g' ∧ w.heap.size + 1 + 1 + 1 < w2.heap.size ∧ base ≤ w2.heap.size) from ins_facts HA.out.1 H8.out.1 H8.out.2.1 HA8.out hq2 hq3 hq4 ⟨HBS.out, rfl, rfl⟩ hW4
      rw [hW4]
      clear hW4 hq1 hq2 hq3 hq4 k3 hp1 hp2 hp3 hz0 hz1 hd9 RD hd8
      go_simp
      go_wp2_with (first
        | (refine wpList_load_row rfl 29 (.tmp 4) rfl w.heap.size rfl 29 #[.slice (some ⟨g', 0, none⟩) m' c'] (0, 0) _ H9.out.1 Try.underlying29 rfl (size29 _) ?_)
        | (refine wpList_store_row rfl 29 (.tmp 8) (.tmp 51) rfl (w.heap.size + 1 + 1 + 1) #[.slice (some ⟨g', 0, none⟩) m' c'] rfl rfl 29 _ H9.out.2.1 (size29 _) rfl (by simp [Value.oneCell']) ?_))
      have hg : RowIs (W4.setRow (w.heap.size + 1 + 1 + 1) #[.slice (some ⟨g', 0, none⟩) m' c']) (w.heap.size + 1 + 1 + 1) 29 [.slice (some ⟨g', 0, none⟩) m' c'] := H9.out.2.1.setRow _
      refine ⟨rfl, _, ret29 Try.results32 _ _ (w.heap.size + 1 + 1 + 1) (.slice (some ⟨g', 0, none⟩) m' c') (.int .i64 0) rfl hg rfl, _, rfl, ?_, Below.row H9.out.2.2.2.1 (by omega) _⟩
      refine (H9.out.2.2.1.same (fun b hb => ?_)).mono H9.out.2.2.2.2.2.2
      cases hb
      have hz1 := H9.out.2.2.2.2.1
      have hz2 := H9.out.2.2.2.2.2.1
      exact Go.setRow_other _ _ _ _ (by show g' ≠ w.heap.size + 1 + 1 + 1; omega)
  · obtain ⟨v1, W1, hp1, hp2, hp3⟩ := app_nil (RD.after (after_alloc (After.refl _) (.cells (rcell ⟨id, af, ch, false⟩).toArray 68))) HR.out.2
    have hz0 : RowIs ((w2.drew).alloc (.cells (rcell ⟨id, af, ch, false⟩).toArray 68)) (w2.drew).heap.size 68 (rcell ⟨id, af, ch, false⟩) := RowIs.new _ 68 _
    have hz1 : RowIs W1 (w2.drew).heap.size 68 (rcell ⟨id, af, ch, false⟩) := hz0.below hp3 hz0.lt
    have hd9 : After w2 ((w2.drew).alloc (.cells (rcell ⟨id, af, ch, false⟩).toArray 68)) := after_alloc hd8 _
    refine opVal 8 48 (.slice (some ⟨(w2.drew).heap.size, 0, none⟩) 1 1) ((w2.drew).alloc (.cells (rcell ⟨id, af, ch, false⟩).toArray 68)) rfl (by kernel_rfl) (by kernel_rfl) (x_bs27 (x := .tmp 47) (cs := rcell ⟨id, af, ch, false⟩) (rcell_len HCOK.out) (by kernel_rfl) (by kernel_rfl)) ⟨KeptF.of_after hd9, ?_⟩
    refine tkRunS 2 42 (.slice va n cap) ((w2.drew).alloc (.cells (rcell ⟨id, af, ch, false⟩).toArray 68)) (fuel := 4) rfl (by kernel_rfl) (by kernel_rfl) (by kernel_rfl) (x_loadT (x := .tmp 41) (t := 27) (g := w.heap.size) (j := 0) Try.underlying27 rfl (by kernel_rfl) (by kernel_rfl) ((H8.out.1.below hd9 H8.out.1.lt).cell (j := 0) rfl)) (KeptF.of_after hd9) ?_
    refine tkRunS 3 43 v1 W1 (fuel := 3) rfl (by kernel_rfl) (by kernel_rfl) (by kernel_rfl) (x_app27 (s := .tmp 40) (x := .tmp 42) (v := .slice none 0 0) (u := .slice va n cap) (by kernel_rfl) (by kernel_rfl) (by kernel_rfl) hp1) (KeptF.of_after (hd9.trans hp3)) ?_
    obtain ⟨g', m', c', W3, hq1, hq2, hq3, hq4⟩ := app_one (W8 := w2) (W := W1) (base := w2.heap.size) (g := (w2.drew).heap.size) (v := v1) (c := ⟨id, af, ch, false⟩) (hd9.trans hp3) (Nat.le_refl _) (hd9.trans hp3).size (hp2.mono hd9.size) HR.out.2 HCOK.out hz1
    refine tkRunS 9 49 (.slice (some ⟨g', 0, none⟩) m' c') W3 (fuel := 2) rfl (by kernel_rfl) (by kernel_rfl) (by kernel_rfl) (x_app27 (s := .tmp 43) (x := .tmp 48) (v := v1) (u := .slice (some ⟨(w2.drew).heap.size, 0, none⟩) 1 1) (by kernel_rfl) (by kernel_rfl) (by kernel_rfl) hq1) (KeptF.of_after hq3) ?_
    have k3 : RowIs W3 w.heap.size 29 [.slice va n cap] := H8.out.1.below hq3 H8.out.1.lt
    refine tk 10 50 (.pointer (some ⟨w.heap.size, 0, none⟩)) (fuel := 1) rfl (by kernel_rfl) (by kernel_rfl) (by kernel_rfl) (by kernel_rfl) noPanic_false (by kernel_rfl) (fun _ _ => by kernel_rfl) (KeptF.of_after hq3) ?_
    refine tkStoreS 11 (W3.setCell ⟨w.heap.size, 0, none⟩ (.slice (some ⟨g', 0, none⟩) m' c')) (fuel := 0) rfl (by kernel_rfl) (by kernel_rfl) (by kernel_rfl) (x_st27 (x := .tmp 50) (y := .tmp 49) (g := w.heap.size) (p := 0) (va := some ⟨g', 0, none⟩) (m := m') (c := c') (by kernel_rfl) (by kernel_rfl) (by kernel_rfl) (k3.cell (j := 0) rfl) (k3.frozen 0)) ((KeptF.of_after hq3).trans (KeptF.set (F := fun b => b = w.heap.size) W3 ⟨w.heap.size, 0, none⟩ _ rfl) (fun _ _ h => h)) ?_
    refine wpAnyH_done (by kernel_rfl) (NoPanic.normal ?_) _
    obtain ⟨W4, hW4⟩ : ∃ W4, W3.setCell ⟨w.heap.size, 0, none⟩ (.slice (some ⟨g', 0, none⟩) m' c') = W4 := ⟨_, rfl⟩
    have H9 := show Hid (RowIs W4 w.heap.size 29 [.slice (some ⟨g', 0, none⟩) m' c'] ∧ RowIs W4 (w.heap.size + 1 + 1 + 1) 29 [.slice none 0 0] ∧ RowR W4 w2.heap.size (.slice (some ⟨g', 0, none⟩) m' c') (l ++ [⟨id, af, ch, false⟩]) ∧ After w W4 ∧ w2.heap.size ≤ g' ∧ w.heap.size + 1 + 1 + 1 < w2.heap.size ∧ base ≤ w2.heap.size) from ins_facts HA.out.1 H8.out.1 H8.out.2.1 HA8.out hq2 hq3 hq4 ⟨HBS.out, rfl, rfl⟩ hW4
    rw [hW4]
    clear hW4 hq1 hq2 hq3 hq4 k3 hp1 hp2 hp3 hz0 hz1 hd9 RD hd8
    go_simp
    go_wp2_with (first
      | (refine wpList_load_row rfl 29 (.tmp 4) rfl w.heap.size rfl 29 #[.slice (some ⟨g', 0, none⟩) m' c'] (0, 0) _ H9.out.1 Try.underlying29 rfl (size29 _) ?_)
      | (refine wpList_store_row rfl 29 (.tmp 8) (.tmp 51) rfl (w.heap.size + 1 + 1 + 1) #[.slice (some ⟨g', 0, none⟩) m' c'] rfl rfl 29 _ H9.out.2.1 (size29 _) rfl (by simp [Value.oneCell']) ?_))
    have hg : RowIs (W4.setRow (w.heap.size + 1 + 1 + 1) #[.slice (some ⟨g', 0, none⟩) m' c']) (w.heap.size + 1 + 1 + 1) 29 [.slice (some ⟨g', 0, none⟩) m' c'] := H9.out.2.1.setRow _
    refine ⟨rfl, _, ret29 Try.results32 _ _ (w.heap.size + 1 + 1 + 1) (.slice (some ⟨g', 0, none⟩) m' c') (.int .i64 0) rfl hg rfl, _, rfl, ?_, Below.row H9.out.2.2.2.1 (by omega) _⟩
    refine (H9.out.2.2.1.same (fun b hb => ?_)).mono H9.out.2.2.2.2.2.2
    cases hb
    have hz1 := H9.out.2.2.2.2.1
    have hz2 := H9.out.2.2.2.2.2.1
    exact Go.setRow_other _ _ _ _ (by show g' ≠ w.heap.size + 1 + 1 + 1; omega)
end Go.Proofs.Ytiglenomigipmaa
