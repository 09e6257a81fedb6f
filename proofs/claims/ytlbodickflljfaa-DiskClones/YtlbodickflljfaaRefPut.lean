/-
  THE WALK OF (stemmaref05.Disk).with.
-/
import Derived.Test.YtlbodickflljfaaRefWith
namespace Go.Proofs.Ytlbodickflljfaa
open Go.RowKit Go.Maps Dsk
theorem bs25 (W : World) (s t u : ByteArray) : (Instr.buildSlice 25 1 #[(0, .agg #[.string s, .string t, .string u])]).run Try.prog W = .ok (.slice (some ⟨W.heap.size, 0, none⟩) 1 1) (W.alloc (.cells #[.string s, .string t, .string u] 75)) := by kernel_rfl
theorem files_cells {w : World} {ad : Addr} {news : List (Nm × Fl)} (hnews : FilesAt w (some ad) news) : ∀ j u, (c75 news)[j]? = some u → w.cell? (ad.add j) = some u := by
  intro j u hu
  have hj := (List.getElem?_eq_some_iff.1 hu).1
  rw [c75_len] at hj
  obtain ⟨b, o, he, _, hc⟩ := hnews (by intro h; simp [h] at hj)
  cases he
  obtain ⟨p, hp⟩ : ∃ p, news[j / 3]? = some p := ⟨_, List.getElem?_eq_getElem (by omega)⟩
  obtain ⟨h0, h1, h2⟩ := hc (j / 3) p hp
  have hg := c75_get news (j / 3) (j % 3) p hp (Nat.mod_lt _ (by omega))
  rw [show j / 3 * 3 + j % 3 = j by omega, hu] at hg
  rw [Addr.add_mid]
  have hr : j % 3 = 0 ∨ j % 3 = 1 ∨ j % 3 = 2 := by omega
  rcases hr with hr | hr | hr
  · rw [hr] at hg; rw [show o + j = o + j / 3 * 3 by omega, h0]; exact hg.symm
  · rw [hr] at hg; rw [show o + j = o + j / 3 * 3 + 1 by omega, h1]; exact hg.symm
  · rw [hr] at hg; rw [show o + j = o + j / 3 * 3 + 2 by omega, h2]; exact hg.symm
section
variable {ops : Array Oper} {Q : Exit → Act → World → Prop} {K : Act → World → Prop} {a : Act} {w : World} {oi : Oper}
theorem x_ld25 {x : Operand} {g p : Nat} {v : Value} (hop : oi.op = .load 25 x) (hx : a.eval x = .pointer (some ⟨g, p, none⟩)) (hc : w.cell? ⟨g, p, none⟩ = some v) : (execOp a.eval oi).run Try.prog w = .ok (.value v) w := by
  unfold execOp; simp only [hop, hx]; simp [go_sem, hc]
theorem x_ld75 {x : Operand} {g p : Nat} {v u t : Value} (hop : oi.op = .load 75 x) (hx : a.eval x = .pointer (some ⟨g, p, none⟩)) (hc : w.cell? ⟨g, p, none⟩ = some v) (hc1 : w.cell? ⟨g, p + 1, none⟩ = some u) (hc2 : w.cell? ⟨g, p + 2, none⟩ = some t) : (execOp a.eval oi).run Try.prog w = .ok (.value (.agg #[v, u, t])) w := by
  unfold execOp; simp only [hop, hx]; simp [go_sem, hc, hc1, hc2]
theorem x_sl25 {x y : Operand} {ao : Option Addr} {n c k : Nat} (hop : oi.op = .slice 25 x none (some y) none) (hx : a.eval x = .slice ao n c) (hy : a.eval y = .int .i64 (k : Int)) (hk : k ≤ c) (hz : ao = none → c = 0) : (execOp a.eval oi).run Try.prog w = .ok (.value (.slice ao k c)) w := by
  unfold execOp
  simp only [hop, hx, hy, Option.map, Sem.run_bind, sl25_hi ao n c k hk hz w, Result.andThen_ok]
  rfl
theorem x_bs25 {x : Operand} {s t u : ByteArray} (hop : oi.op = .buildSlice 25 1 #[(0, x)]) (hx : a.eval x = .agg #[.string s, .string t, .string u]) : (execOp a.eval oi).run Try.prog w = .ok (.value (.slice (some ⟨w.heap.size, 0, none⟩) 1 1)) (w.alloc (.cells #[.string s, .string t, .string u] 75)) := by
  unfold execOp
  simp only [hop, List.map_toArray, List.map_cons, List.map_nil, hx, Sem.run_bind, bs25 w s t u, Result.andThen_ok]
  rfl
theorem opVal (i d : Nat) (v : Value) (w' : World) (hi : ops[i]? = some oi) (hd : oi.dst = some d) (hw : Region.wanted oi (yielded ops a.tmps) = true)
    (hrun : (execOp a.eval oi).run Try.prog w = .ok (.value v) w') (h : K (a.put (some d) v) w') : wpOp Try.prog ops Q i K a w := by
  refine wpOp_step hi (fun K' hK => ?_)
  rw [if_pos hw]
  unfold Oper.wp
  rw [hrun]
  rw [← hd] at h
  exact hK _ _ h
theorem opAppF (i d : Nat) (s x : Operand) (base : Nat) (sl : Value) (l : List (Nm × Fl)) (ao : Option Addr) (k c : Nat) (news : List (Nm × Fl)) (hi : ops[i]? = some oi) (hd : oi.dst = some d) (ho : oi.op = .call { callee := .builtin .append, args := #[s, x], argTypes := #[25, 25] })
    (hw : Region.wanted oi (yielded ops a.tmps) = true) (hs : a.eval s = sl) (hk : news.length = k) (hx : a.eval x = .slice ao k c) (hown : OwnFl w base sl l) (hat : FilesAt w ao news) (hbig : l.length + news.length ≤ 1000) (hbase : base ≤ w.heap.size)
    (h : ∀ v' w', OwnFl w' base v' (l ++ news) → w.grownBy w' sl.ownBlock → K (a.put (some d) v') w') : wpOp Try.prog ops Q i K a w := by
  refine wpOp_step hi (fun K' hK => ?_)
  rw [if_pos hw]
  obtain ⟨inf, hinf, hz⟩ := Option.map_eq_some_iff.1 info75
  simp only [Prod.mk.injEq] at hz
  obtain ⟨hz, hsz, hby⟩ := hz
  have hrun : ∃ v' w', (Builtin.append_ #[25, 25] oi.type #[sl, .slice ao k c]).run Try.prog w = .ok v' w' ∧ OwnFl w' base v' (l ++ news) ∧ w.grownBy w' sl.ownBlock := by
    subst hk
    cases ao with
    | none =>
      obtain rfl : news = [] := Classical.byContradiction fun hn => by obtain ⟨b, o, he, _⟩ := hat hn; cases he
      obtain ⟨ao', cap', hv, _, hle, _⟩ := hown.at
      have hr := run_append_nothing (P := Try.prog) w 25 25 oi.type 75 inf Try.underlying25 hinf ao' l.length cap' hle (.slice none 0 c) (Src.ofNil w Try.underlying25 c)
      rw [← hv] at hr
      exact ⟨sl, w, hr, by rw [List.append_nil]; exact hown, ⟨rfl, rfl, rfl, Nat.le_refl _, fun _ _ _ => rfl⟩⟩
    | some ad =>
      obtain ⟨v', w', h1, h2, h3, _, h5⟩ := run_append_own_at (P := Try.prog) w base 25 oi.type 75 inf (.agg #[.string ⟨#[]⟩, .string ⟨#[]⟩, .string ⟨#[]⟩]) 3 48 Try.underlying25 hinf hz hsz hby rfl (by omega) sl l.length (c75 l) hown ad news.length c (c75 news) (c75_len news) (files_cells hat) (c75_one _) (by unfold maxLen; omega) (by omega) hbase
      exact ⟨v', w', h1, by unfold OwnFl; rw [c75_append, List.length_append]; exact h2, h3⟩
  obtain ⟨v', w', h1, h2, h3⟩ := hrun
  unfold Oper.wp
  simp [execOp, ho, resolve, invoke, builtin, hs, hx, h1, Result.andThen]
  show K' (a.put oi.dst v') w'
  rw [hd]
  exact hK _ _ (h v' w' h2 h3)
end
theorem FilesAt.one (w : World) (p : Nm × Fl) : FilesAt (w.alloc (.cells #[.string (strOf p.1), .string (strOf (p.2.data.take p.2.safe)), .string (strOf (p.2.data.drop p.2.safe))] 75)) (some ⟨w.heap.size, 0, none⟩) [p] := fun _ => by
  refine ⟨w.heap.size, 0, rfl, ⟨_, _, heap_alloc_new w _⟩, fun j q hj => ?_⟩
  have hj0 : j = 0 := by have := (List.getElem?_eq_some_iff.1 hj).1; simpa using this
  subst hj0
  simp at hj
  subst hj
  have hr := RowIs.new w 75 [.string (strOf p.1), .string (strOf (p.2.data.take p.2.safe)), .string (strOf (p.2.data.drop p.2.safe))]
  exact ⟨hr.cell (j := 0) rfl, hr.cell (j := 1) rfl, hr.cell (j := 2) rfl⟩
set_option maxRecDepth 100000 in
set_option maxHeartbeats 3200000 in
theorem with_yes (S : Dk) (hS : Ok S) (ao : Option Addr) (c : Nat) (ar : Bool) (lf : Nat) (dn : Bool) (nm : Nm) (w : World) (hat : FilesAt w ao S.files) (hcap : S.files.length ≤ c) (hz : ao = none → c = 0) (x : Fl) (his : fhas nm S.files = true) :
    Calls Try.prog 59 #[.agg (rV S ao S.files.length c ar lf dn), .agg #[.string (strOf nm), .string (strOf (x.data.take x.safe)), .string (strOf (x.data.drop x.safe))]] w fun e w' => ∃ v, e = .returned v ∧ FlOut w S ar lf dn (fput nm x S.files) v w' := by
  have C45 := show Hid (∀ W, After w W → _) from fun W hW => place_any S hS ao c ar lf dn nm W (hat.after hW)
  have HF : Hid (FilesAt w ao S.files) := hat
  have HRI : Hid (rising S.files) := hS.ris
  have hcnt := hS.count
  obtain ⟨l, hl⟩ : ∃ l, S.files = l := ⟨_, rfl⟩
  rw [hl] at C45 HF HRI hcnt hcap his ⊢
  obtain ⟨n, hn⟩ : ∃ n, l.length = n := ⟨_, rfl⟩
  have HN : Hid (l.length = n) := hn
  rw [hn, his] at C45
  rw [hn] at hcnt hcap ⊢
  have HIS : Hid (fhas nm l = true) := his
  unfold rV at C45 ⊢
  clear hat hn his hS hl
  have HZ : Hid (ao = none → c = 0) := hz
  clear hz
  obtain ⟨f1, hf1⟩ : ∃ f1, strOf (x.data.take x.safe) = f1 := ⟨_, rfl⟩
  obtain ⟨f2, hf2⟩ : ∃ f2, strOf (x.data.drop x.safe) = f2 := ⟨_, rfl⟩
  have HFX : Hid (strOf (x.data.take x.safe) = f1 ∧ strOf (x.data.drop x.safe) = f2) := ⟨hf1, hf2⟩
  rw [hf1, hf2]
  clear hf1 hf2
  go_enter Try.func59, Try.ntmps59
  go_wp2_with fail
  obtain ⟨w0, hw0⟩ : ∃ w0, ((w.alloc (.cells #[.int .i64 (S.most : Int), .slice ao n c, .int .i64 (S.steps : Int), .bool ar, .int .i64 (lf : Int), .bool dn, .bool S.down] 27)).alloc (.cells #[.string (strOf nm), .string f1, .string f2] 75)).alloc (.cells #[.int .i64 0, .slice none 0 0, .int .i64 0, .bool false, .int .i64 0, .bool false, .bool false] 27) = w0 := ⟨_, rfl⟩
  rw [hw0]
  have HA0 : Hid (After w w0) := by rw [← hw0]; exact after_alloc (after_alloc (after_alloc (After.refl w) _) _) _
  have HR0 : Hid (RowIs w0 w.heap.size 27 [.int .i64 (S.most : Int), .slice ao n c, .int .i64 (S.steps : Int), .bool ar, .int .i64 (lf : Int), .bool dn, .bool S.down]) := by rw [← hw0]; exact ((RowIs.new w 27 _).alloc _).alloc _
  have HR1 : Hid (RowIs w0 (w.heap.size + 1 + 1) 27 [.int .i64 0, .slice none 0 0, .int .i64 0, .bool false, .int .i64 0, .bool false, .bool false]) := by rw [← hw0]; exact row_last _ _ (by simp) _
  have HS0 : Hid (w0.heap.size = w.heap.size + 1 + 1 + 1) := by rw [← hw0]; simp [Hid]
  have HRF : Hid (RowIs w0 (w.heap.size + 1) 75 [.string (strOf nm), .string f1, .string f2]) := by
    rw [← hw0]
    have := RowIs.new (w.alloc (.cells #[.int .i64 (S.most : Int), .slice ao n c, .int .i64 (S.steps : Int), .bool ar, .int .i64 (lf : Int), .bool dn, .bool S.down] 27)) 75 [.string (strOf nm), .string f1, .string f2]
    rw [show (w.alloc (.cells #[.int .i64 (S.most : Int), .slice ao n c, .int .i64 (S.steps : Int), .bool ar, .int .i64 (lf : Int), .bool dn, .bool S.down] 27)).heap.size = w.heap.size + 1 by simp] at this
    exact this.alloc _
  have cf0 := HRF.out.cell (j := 0) rfl
  clear hw0
  go_wp2_with (first
    | (go_at_call 45; refine Calls.mono (C45.out w0 HA0.out) ?_; rintro e w1 ⟨k, hpl, rfl, h1⟩; have HPL : Hid (Place nm l k) := hpl; have hkn : k ≤ n := (by have := hpl.le; rw [HN.out] at this; exact this); have HR2 := show Hid (RowIs w1 _ _ _) from HR0.out.below h1 HR0.out.lt; have HR3 := show Hid (RowIs w1 _ _ _) from HR1.out.below h1 HR1.out.lt; have HRG := show Hid (RowIs w1 _ _ _) from HRF.out.below h1 HRF.out.lt; have HA1 : Hid (After w w1) := After.trans HA0.out h1; have HW1 : Hid (w.heap.size + 1 + 1 < w1.heap.size) := (by have := h1.size; have := HS0.out; unfold Hid; omega); clear h1 hpl)
    | (refine wpList_load_row rfl 27 (.tmp 2) rfl w.heap.size rfl 27 _ (0, 0) _ HR0.out Try.underlying27 rfl (by kernel_rfl) ?_))
  have hkl : k < n := by obtain ⟨f, hf⟩ := (HPL.out.has HRI.out).1 HIS.out; have := (List.getElem?_eq_some_iff.1 hf).1; rw [HN.out] at this; exact this
  obtain ⟨k1, hk1⟩ : ∃ k1, k + 1 = k1 := ⟨_, rfl⟩
  have hki : (k : Int) + 1 = (k1 : Int) := by omega
  have HK1 : Hid ((if fhas nm l = true then k + 1 else k) = k1) := by unfold Hid; rw [HIS.out]; simpa using hk1
  have hk1n : k1 ≤ n := by omega
  have SL := fun W => sl25_lo ao n c k1 hcap hk1n HZ.out W
  have c1 := HR2.out.cell (j := 1) rfl
  have g0 := HRG.out.cell (j := 0) rfl
  have g1 := HRG.out.cell (j := 1) rfl
  have g2 := HRG.out.cell (j := 2) rfl
  refine wp_region_noPanic ?_
  refine wp_region_held_drew (S := After w1) (by kernel_rfl) (After.drew (After.refl w1)) ?_
  intro hS0
  refine tk 0 15 (.slice none 0 0) (fuel := 9) rfl (by kernel_rfl) (by kernel_rfl) (by kernel_rfl) (by kernel_rfl) noPanic_false (by kernel_rfl) (fun _ _ => by kernel_rfl) hS0 ?_
  refine tk 1 16 (.pointer (some ⟨w.heap.size, 1, none⟩)) (fuel := 8) rfl (by kernel_rfl) (by kernel_rfl) (by kernel_rfl) (by kernel_rfl) noPanic_false (by kernel_rfl) (fun _ _ => by kernel_rfl) hS0 ?_
  refine tk 2 17 (.slice ao n c) (fuel := 7) rfl (by kernel_rfl) (by kernel_rfl) (by kernel_rfl) (by kernel_rfl) noPanic_false (by kernel_rfl) (fun W hW => x_ld25 (x := .tmp 16) (by kernel_rfl) (by kernel_rfl) (cell_after hW c1)) hS0 ?_
  refine tk 3 18 (.int .i64 (k : Int)) (fuel := 6) rfl (by kernel_rfl) (by kernel_rfl) (by kernel_rfl) (by kernel_rfl) noPanic_false (by kernel_rfl) (fun _ _ => by kernel_rfl) hS0 ?_
  refine tk 4 19 (.slice ao k c) (fuel := 5) rfl (by kernel_rfl) (by kernel_rfl) (by kernel_rfl) (by kernel_rfl) noPanic_false (by kernel_rfl) (fun W _ => x_sl25 (x := .tmp 17) (y := .tmp 18) (n := n) (k := k) (by kernel_rfl) (by kernel_rfl) (by kernel_rfl) (by omega) HZ.out) hS0 ?_
  refine tk 6 21 (.agg #[.string (strOf nm), .string f1, .string f2]) (fuel := 4) rfl (by kernel_rfl) (by kernel_rfl) (by kernel_rfl) (by kernel_rfl) noPanic_false (by kernel_rfl) (fun W hW => x_ld75 (x := .tmp 3) (p := 0) (g := w.heap.size + 1) (by kernel_rfl) (by kernel_rfl) (cell_after hW g0) (cell_after hW g1) (cell_after hW g2)) hS0 ?_
  refine wpAnyH_all (rs := [5, 7]) (by kernel_rfl) (by simp) (fun i hi => ?_)
  have hi2 : i = 5 ∨ i = 7 := by simpa using hi
  clear hi
  rcases hi2 with rfl | rfl
  · refine opAppF 5 20 (.tmp 15) (.tmp 19) w1.heap.size (.slice none 0 0) [] ao k c (l.take k) rfl (by kernel_rfl) (by kernel_rfl) (by kernel_rfl) (by kernel_rfl) (by rw [List.length_take, HN.out]; omega) (by kernel_rfl) (OwnFl.nil _ _) ((HF.out.after (After.drew HA1.out)).take k) (by rw [List.length_nil, List.length_take, HN.out]; omega) (Nat.le_refl _) ?_
    intro v2 w2 ho2 hg2
    rw [List.nil_append] at ho2
    have hA2 : After w1 w2 := after_grown hS0 hg2 (Nat.le_refl _) (fun k hk => by cases hk)
    refine ⟨hA2, ?_⟩
    refine wpAnyH_all (rs := [7]) (by kernel_rfl) (by simp) (fun i hi => ?_)
    obtain rfl : i = 7 := by simpa using hi
    clear hi
    refine opVal 7 22 (.slice (some ⟨w2.heap.size, 0, none⟩) 1 1) (w2.alloc (.cells #[.string (strOf nm), .string f1, .string f2] 75)) rfl (by kernel_rfl) (by kernel_rfl) (x_bs25 (x := .tmp 21) (by kernel_rfl) (by kernel_rfl)) ?_
    refine ⟨after_alloc hA2 _, ?_⟩
    refine wpAnyH_all (rs := [8]) (by kernel_rfl) (by simp) (fun i hi => ?_)
    obtain rfl : i = 8 := by simpa using hi
    clear hi
    refine opAppF 8 23 (.tmp 20) (.tmp 22) w1.heap.size v2 (l.take k) (some ⟨w2.heap.size, 0, none⟩) 1 1 [(nm, x)] rfl (by kernel_rfl) (by kernel_rfl) (by kernel_rfl) (by kernel_rfl) rfl (by kernel_rfl) (ho2.same (fun g hg => Below.heap_alloc w2 _ g (ho2.lt g hg).2)) (by have := FilesAt.one w2 (nm, x); simp only [HFX.out.1, HFX.out.2] at this; exact this) (by rw [List.length_take, HN.out]; simp only [List.length_cons, List.length_nil]; omega) (by have := hA2.size; simp; omega) ?_
    intro v3 w3 ho3 hg3
    have hA3 : After w1 w3 := after_grown (after_alloc hA2 _) hg3 (Nat.le_refl _) (fun g hg => (ho2.lt g hg).1)
    refine ⟨hA3, ?_⟩
    refine tk 9 7 v3 (fuel := 0) rfl (by kernel_rfl) (by kernel_rfl) (by kernel_rfl) (by kernel_rfl) noPanic_false (by kernel_rfl) (fun _ _ => by kernel_rfl) hA3 ?_
    refine wpAnyH_done (by kernel_rfl) (NoPanic.normal ?_) _
    have HO3 : Hid (OwnFl w3 w1.heap.size v3 (l.take k ++ [(nm, x)])) := ho3
    have HA3 : Hid (After w1 w3) := hA3
    have c3 := cell_after hA3 c1
    clear ho3 hA3 c1 g0 g1 g2
    go_simp
    go_wp2_with (first
      | (at_builtin; refine wpList_append_files rfl (.tmp 27) (.tmp 31) rfl w1.heap.size v3 (l.take k ++ [(nm, x)]) rfl HO3.out (cut25 ao k1 c) (c - k1) (l.drop k1) (n - k1) (by rw [List.length_drop, HN.out]) rfl (((HF.out.after HA1.out).after HA3.out).drop k1 c (by rw [HN.out]; exact hcap)) (by rw [List.length_append, List.length_take, List.length_drop, HN.out]; simp only [List.length_cons, List.length_nil]; omega) HA3.out.size ?_; intro v4 w4 ho4 hg4; have HO4 : Hid (OwnFl w4 w1.heap.size v4 (l.take k ++ [(nm, x)] ++ l.drop k1)) := ho4; obtain ⟨a3, c3', hv3, hf3, hc3, hz3⟩ := ho4.at; obtain ⟨n3, hn3⟩ : ∃ n3, (l.take k ++ [(nm, x)] ++ l.drop k1).length = n3 := ⟨_, rfl⟩; rw [hn3] at hv3 hc3; subst hv3; have HF3 := show Hid (n3 ≤ c3' ∧ (a3 = none → c3' = 0)) from ⟨hc3, hz3⟩; have HN3 : Hid ((l.take k ++ [(nm, x)] ++ l.drop k1).length = n3) := hn3; have HA4 : Hid (After w1 w4) := after_grown HA3.out hg4 (Nat.le_refl _) (fun k hk => (HO3.out.lt k hk).1); have HR4 := show Hid (RowIs w4 _ _ _) from HR2.out.below HA4.out HR2.out.lt; have HR5 := show Hid (RowIs w4 _ _ _) from HR3.out.below HA4.out HR3.out.lt; have c4 := HR4.out.cell (j := 1) rfl; have fz := HR4.out.frozen 1; have HR6 := show Hid (RowIs (w4.setCell ⟨w.heap.size, 1, none⟩ (.slice a3 n3 c3')) w.heap.size 27 [.int .i64 (S.most : Int), .slice a3 n3 c3', .int .i64 (S.steps : Int), .bool ar, .int .i64 (lf : Int), .bool dn, .bool S.down]) from HR4.out.set 1 _; have HR7 := show Hid (RowIs (w4.setCell ⟨w.heap.size, 1, none⟩ (.slice a3 n3 c3')) _ _ _) from HR5.out.other ⟨w.heap.size, 1, none⟩ (.slice a3 n3 c3') (by simp only; omega); clear ho4 hg4 hf3 hc3 hz3 hn3)
      | (refine wpList_load_row rfl 27 (.tmp 2) rfl w.heap.size rfl 27 _ (0, 0) _ HR6.out Try.underlying27 rfl (by kernel_rfl) ?_)
      | (refine wpList_store_row rfl 27 (.tmp 4) (.tmp 34) rfl (w.heap.size + 1 + 1) _ rfl rfl 27 _ HR7.out (by kernel_rfl) rfl (by kernel_rfl) ?_))
    have HD : Hid (fput nm x l = l.take k ++ [(nm, x)] ++ l.drop k1) := by have := HPL.out.put HRI.out x; rw [HK1.out] at this; rw [this]; simp [Hid]
    have HAX := after_setRow (g := w.heap.size + 1 + 1) (Below.setCell (After.trans HA1.out HA4.out) (p := ⟨w.heap.size, 1, none⟩) (Nat.le_refl _) (.slice a3 n3 c3')) (by omega) [.int .i64 (S.most : Int), .slice a3 n3 c3', .int .i64 (S.steps : Int), .bool ar, .int .i64 (lf : Int), .bool dn, .bool S.down].toArray
    refine bodyPost_ret (ret27 Try.results59 _ _ (w.heap.size + 1 + 1) [.int .i64 (S.most : Int), .slice a3 n3 c3', .int .i64 (S.steps : Int), .bool ar, .int .i64 (lf : Int), .bool dn, .bool S.down] rfl (RowIs.setRow HR7.out _) rfl) rfl ⟨_, rfl, ⟨a3, c3', ?_, ?_, ?_, HF3.out.2⟩, HAX⟩
    · rw [HD.out, HN3.out]; rfl
    · rw [HD.out]; exact HO4.out.two _ (by have := HW1.out; simp only; omega) _ _ HW1.out _
    · rw [HD.out, HN3.out]; exact HF3.out.1
  · refine opVal 7 22 (.slice (some ⟨w1.heap.size, 0, none⟩) 1 1) (w1.drew.alloc (.cells #[.string (strOf nm), .string f1, .string f2] 75)) rfl (by kernel_rfl) (by kernel_rfl) (x_bs25 (w := w1.drew) (x := .tmp 21) (by kernel_rfl) (by kernel_rfl)) ?_
    have hA2 : After w1 (w1.drew.alloc (.cells #[.string (strOf nm), .string f1, .string f2] 75)) := after_alloc hS0 _
    obtain ⟨w2, hw2⟩ : ∃ w2, w1.drew.alloc (.cells #[.string (strOf nm), .string f1, .string f2] 75) = w2 := ⟨_, rfl⟩
    have hone : FilesAt w2 (some ⟨w1.heap.size, 0, none⟩) [(nm, x)] := by rw [← hw2]; have := FilesAt.one w1.drew (nm, x); simp only [HFX.out.1, HFX.out.2] at this; exact this
    rw [hw2] at hA2 ⊢
    have hw2s : w1.heap.size < w2.heap.size := by rw [← hw2]; simp
    clear hw2
    refine ⟨hA2, ?_⟩
    refine wpAnyH_all (rs := [5]) (by kernel_rfl) (by simp) (fun i hi => ?_)
    obtain rfl : i = 5 := by simpa using hi
    clear hi
    refine opAppF 5 20 (.tmp 15) (.tmp 19) w1.heap.size (.slice none 0 0) [] ao k c (l.take k) rfl (by kernel_rfl) (by kernel_rfl) (by kernel_rfl) (by kernel_rfl) (by rw [List.length_take, HN.out]; omega) (by kernel_rfl) (OwnFl.nil _ _) ((HF.out.after (After.trans HA1.out hA2)).take k) (by rw [List.length_nil, List.length_take, HN.out]; omega) (by omega) ?_
    intro v2 w4 ho2 hg2
    rw [List.nil_append] at ho2
    have hA4 : After w2 w4 := after_grown (After.refl w2) hg2 (Nat.le_refl _) (fun k hk => by cases hk)
    refine ⟨After.trans hA2 hA4, ?_⟩
    refine wpAnyH_all (rs := [8]) (by kernel_rfl) (by simp) (fun i hi => ?_)
    obtain rfl : i = 8 := by simpa using hi
    clear hi
    refine opAppF 8 23 (.tmp 20) (.tmp 22) w1.heap.size v2 (l.take k) (some ⟨w1.heap.size, 0, none⟩) 1 1 [(nm, x)] rfl (by kernel_rfl) (by kernel_rfl) (by kernel_rfl) (by kernel_rfl) rfl (by kernel_rfl) ho2 (hone.after hA4) (by rw [List.length_take, HN.out]; simp only [List.length_cons, List.length_nil]; omega) (by have := hA4.size; omega) ?_
    intro v3 w3 ho3 hg3
    have hA3 : After w1 w3 := after_grown (After.trans hA2 hA4) hg3 (Nat.le_refl _) (fun g hg => (ho2.lt g hg).1)
    refine ⟨hA3, ?_⟩
    refine tk 9 7 v3 (fuel := 0) rfl (by kernel_rfl) (by kernel_rfl) (by kernel_rfl) (by kernel_rfl) noPanic_false (by kernel_rfl) (fun _ _ => by kernel_rfl) hA3 ?_
    refine wpAnyH_done (by kernel_rfl) (NoPanic.normal ?_) _
    clear hone hw2s hA2 hA4
    have HO3 : Hid (OwnFl w3 w1.heap.size v3 (l.take k ++ [(nm, x)])) := ho3
    have HA3 : Hid (After w1 w3) := hA3
    have c3 := cell_after hA3 c1
    clear ho3 hA3 c1 g0 g1 g2
    go_simp
    go_wp2_with (first
      | (at_builtin; refine wpList_append_files rfl (.tmp 27) (.tmp 31) rfl w1.heap.size v3 (l.take k ++ [(nm, x)]) rfl HO3.out (cut25 ao k1 c) (c - k1) (l.drop k1) (n - k1) (by rw [List.length_drop, HN.out]) rfl (((HF.out.after HA1.out).after HA3.out).drop k1 c (by rw [HN.out]; exact hcap)) (by rw [List.length_append, List.length_take, List.length_drop, HN.out]; simp only [List.length_cons, List.length_nil]; omega) HA3.out.size ?_; intro v4 w4 ho4 hg4; have HO4 : Hid (OwnFl w4 w1.heap.size v4 (l.take k ++ [(nm, x)] ++ l.drop k1)) := ho4; obtain ⟨a3, c3', hv3, hf3, hc3, hz3⟩ := ho4.at; obtain ⟨n3, hn3⟩ : ∃ n3, (l.take k ++ [(nm, x)] ++ l.drop k1).length = n3 := ⟨_, rfl⟩; rw [hn3] at hv3 hc3; subst hv3; have HF3 := show Hid (n3 ≤ c3' ∧ (a3 = none → c3' = 0)) from ⟨hc3, hz3⟩; have HN3 : Hid ((l.take k ++ [(nm, x)] ++ l.drop k1).length = n3) := hn3; have HA4 : Hid (After w1 w4) := after_grown HA3.out hg4 (Nat.le_refl _) (fun k hk => (HO3.out.lt k hk).1); have HR4 := show Hid (RowIs w4 _ _ _) from HR2.out.below HA4.out HR2.out.lt; have HR5 := show Hid (RowIs w4 _ _ _) from HR3.out.below HA4.out HR3.out.lt; have c4 := HR4.out.cell (j := 1) rfl; have fz := HR4.out.frozen 1; have HR6 := show Hid (RowIs (w4.setCell ⟨w.heap.size, 1, none⟩ (.slice a3 n3 c3')) w.heap.size 27 [.int .i64 (S.most : Int), .slice a3 n3 c3', .int .i64 (S.steps : Int), .bool ar, .int .i64 (lf : Int), .bool dn, .bool S.down]) from HR4.out.set 1 _; have HR7 := show Hid (RowIs (w4.setCell ⟨w.heap.size, 1, none⟩ (.slice a3 n3 c3')) _ _ _) from HR5.out.other ⟨w.heap.size, 1, none⟩ (.slice a3 n3 c3') (by simp only; omega); clear ho4 hg4 hf3 hc3 hz3 hn3)
      | (refine wpList_load_row rfl 27 (.tmp 2) rfl w.heap.size rfl 27 _ (0, 0) _ HR6.out Try.underlying27 rfl (by kernel_rfl) ?_)
      | (refine wpList_store_row rfl 27 (.tmp 4) (.tmp 34) rfl (w.heap.size + 1 + 1) _ rfl rfl 27 _ HR7.out (by kernel_rfl) rfl (by kernel_rfl) ?_))
    have HD : Hid (fput nm x l = l.take k ++ [(nm, x)] ++ l.drop k1) := by have := HPL.out.put HRI.out x; rw [HK1.out] at this; rw [this]; simp [Hid]
    have HAX := after_setRow (g := w.heap.size + 1 + 1) (Below.setCell (After.trans HA1.out HA4.out) (p := ⟨w.heap.size, 1, none⟩) (Nat.le_refl _) (.slice a3 n3 c3')) (by omega) [.int .i64 (S.most : Int), .slice a3 n3 c3', .int .i64 (S.steps : Int), .bool ar, .int .i64 (lf : Int), .bool dn, .bool S.down].toArray
    refine bodyPost_ret (ret27 Try.results59 _ _ (w.heap.size + 1 + 1) [.int .i64 (S.most : Int), .slice a3 n3 c3', .int .i64 (S.steps : Int), .bool ar, .int .i64 (lf : Int), .bool dn, .bool S.down] rfl (RowIs.setRow HR7.out _) rfl) rfl ⟨_, rfl, ⟨a3, c3', ?_, ?_, ?_, HF3.out.2⟩, HAX⟩
    · rw [HD.out, HN3.out]; rfl
    · rw [HD.out]; exact HO4.out.two _ (by have := HW1.out; simp only; omega) _ _ HW1.out _
    · rw [HD.out, HN3.out]; exact HF3.out.1
set_option maxRecDepth 100000 in
set_option maxHeartbeats 3200000 in
theorem with_no (S : Dk) (hS : Ok S) (ao : Option Addr) (c : Nat) (ar : Bool) (lf : Nat) (dn : Bool) (nm : Nm) (w : World) (hat : FilesAt w ao S.files) (hcap : S.files.length ≤ c) (hz : ao = none → c = 0) (x : Fl) (his : fhas nm S.files = false) :
    Calls Try.prog 59 #[.agg (rV S ao S.files.length c ar lf dn), .agg #[.string (strOf nm), .string (strOf (x.data.take x.safe)), .string (strOf (x.data.drop x.safe))]] w fun e w' => ∃ v, e = .returned v ∧ FlOut w S ar lf dn (fput nm x S.files) v w' := by
  have C45 := show Hid (∀ W, After w W → _) from fun W hW => place_any S hS ao c ar lf dn nm W (hat.after hW)
  have HF : Hid (FilesAt w ao S.files) := hat
  have HRI : Hid (rising S.files) := hS.ris
  have hcnt := hS.count
  obtain ⟨l, hl⟩ : ∃ l, S.files = l := ⟨_, rfl⟩
  rw [hl] at C45 HF HRI hcnt hcap his ⊢
  obtain ⟨n, hn⟩ : ∃ n, l.length = n := ⟨_, rfl⟩
  have HN : Hid (l.length = n) := hn
  rw [hn, his] at C45
  rw [hn] at hcnt hcap ⊢
  have HIS : Hid (fhas nm l = false) := his
  unfold rV at C45 ⊢
  clear hat hn his hS hl
  have HZ : Hid (ao = none → c = 0) := hz
  clear hz
  obtain ⟨f1, hf1⟩ : ∃ f1, strOf (x.data.take x.safe) = f1 := ⟨_, rfl⟩
  obtain ⟨f2, hf2⟩ : ∃ f2, strOf (x.data.drop x.safe) = f2 := ⟨_, rfl⟩
  have HFX : Hid (strOf (x.data.take x.safe) = f1 ∧ strOf (x.data.drop x.safe) = f2) := ⟨hf1, hf2⟩
  rw [hf1, hf2]
  clear hf1 hf2
  go_enter Try.func59, Try.ntmps59
  go_wp2_with fail
  obtain ⟨w0, hw0⟩ : ∃ w0, ((w.alloc (.cells #[.int .i64 (S.most : Int), .slice ao n c, .int .i64 (S.steps : Int), .bool ar, .int .i64 (lf : Int), .bool dn, .bool S.down] 27)).alloc (.cells #[.string (strOf nm), .string f1, .string f2] 75)).alloc (.cells #[.int .i64 0, .slice none 0 0, .int .i64 0, .bool false, .int .i64 0, .bool false, .bool false] 27) = w0 := ⟨_, rfl⟩
  rw [hw0]
  have HA0 : Hid (After w w0) := by rw [← hw0]; exact after_alloc (after_alloc (after_alloc (After.refl w) _) _) _
  have HR0 : Hid (RowIs w0 w.heap.size 27 [.int .i64 (S.most : Int), .slice ao n c, .int .i64 (S.steps : Int), .bool ar, .int .i64 (lf : Int), .bool dn, .bool S.down]) := by rw [← hw0]; exact ((RowIs.new w 27 _).alloc _).alloc _
  have HR1 : Hid (RowIs w0 (w.heap.size + 1 + 1) 27 [.int .i64 0, .slice none 0 0, .int .i64 0, .bool false, .int .i64 0, .bool false, .bool false]) := by rw [← hw0]; exact row_last _ _ (by simp) _
  have HS0 : Hid (w0.heap.size = w.heap.size + 1 + 1 + 1) := by rw [← hw0]; simp [Hid]
  have HRF : Hid (RowIs w0 (w.heap.size + 1) 75 [.string (strOf nm), .string f1, .string f2]) := by
    rw [← hw0]
    have := RowIs.new (w.alloc (.cells #[.int .i64 (S.most : Int), .slice ao n c, .int .i64 (S.steps : Int), .bool ar, .int .i64 (lf : Int), .bool dn, .bool S.down] 27)) 75 [.string (strOf nm), .string f1, .string f2]
    rw [show (w.alloc (.cells #[.int .i64 (S.most : Int), .slice ao n c, .int .i64 (S.steps : Int), .bool ar, .int .i64 (lf : Int), .bool dn, .bool S.down] 27)).heap.size = w.heap.size + 1 by simp] at this
    exact this.alloc _
  have cf0 := HRF.out.cell (j := 0) rfl
  clear hw0
  go_wp2_with (first
    | (go_at_call 45; refine Calls.mono (C45.out w0 HA0.out) ?_; rintro e w1 ⟨k, hpl, rfl, h1⟩; have HPL : Hid (Place nm l k) := hpl; have hkn : k ≤ n := (by have := hpl.le; rw [HN.out] at this; exact this); have HR2 := show Hid (RowIs w1 _ _ _) from HR0.out.below h1 HR0.out.lt; have HR3 := show Hid (RowIs w1 _ _ _) from HR1.out.below h1 HR1.out.lt; have HRG := show Hid (RowIs w1 _ _ _) from HRF.out.below h1 HRF.out.lt; have HA1 : Hid (After w w1) := After.trans HA0.out h1; have HW1 : Hid (w.heap.size + 1 + 1 < w1.heap.size) := (by have := h1.size; have := HS0.out; unfold Hid; omega); clear h1 hpl)
    | (refine wpList_load_row rfl 27 (.tmp 2) rfl w.heap.size rfl 27 _ (0, 0) _ HR0.out Try.underlying27 rfl (by kernel_rfl) ?_))
  obtain ⟨k1, hk1⟩ : ∃ k1, k = k1 := ⟨_, rfl⟩
  have HK1 : Hid ((if fhas nm l = true then k + 1 else k) = k1) := by unfold Hid; rw [HIS.out]; simpa using hk1
  have hk1n : k1 ≤ n := by omega
  have SL := fun W => sl25_lo ao n c k1 hcap hk1n HZ.out W
  have c1 := HR2.out.cell (j := 1) rfl
  have g0 := HRG.out.cell (j := 0) rfl
  have g1 := HRG.out.cell (j := 1) rfl
  have g2 := HRG.out.cell (j := 2) rfl
  refine wp_region_noPanic ?_
  refine wp_region_held_drew (S := After w1) (by kernel_rfl) (After.drew (After.refl w1)) ?_
  intro hS0
  refine tk 0 15 (.slice none 0 0) (fuel := 9) rfl (by kernel_rfl) (by kernel_rfl) (by kernel_rfl) (by kernel_rfl) noPanic_false (by kernel_rfl) (fun _ _ => by kernel_rfl) hS0 ?_
  refine tk 1 16 (.pointer (some ⟨w.heap.size, 1, none⟩)) (fuel := 8) rfl (by kernel_rfl) (by kernel_rfl) (by kernel_rfl) (by kernel_rfl) noPanic_false (by kernel_rfl) (fun _ _ => by kernel_rfl) hS0 ?_
  refine tk 2 17 (.slice ao n c) (fuel := 7) rfl (by kernel_rfl) (by kernel_rfl) (by kernel_rfl) (by kernel_rfl) noPanic_false (by kernel_rfl) (fun W hW => x_ld25 (x := .tmp 16) (by kernel_rfl) (by kernel_rfl) (cell_after hW c1)) hS0 ?_
  refine tk 3 18 (.int .i64 (k : Int)) (fuel := 6) rfl (by kernel_rfl) (by kernel_rfl) (by kernel_rfl) (by kernel_rfl) noPanic_false (by kernel_rfl) (fun _ _ => by kernel_rfl) hS0 ?_
  refine tk 4 19 (.slice ao k c) (fuel := 5) rfl (by kernel_rfl) (by kernel_rfl) (by kernel_rfl) (by kernel_rfl) noPanic_false (by kernel_rfl) (fun W _ => x_sl25 (x := .tmp 17) (y := .tmp 18) (n := n) (k := k) (by kernel_rfl) (by kernel_rfl) (by kernel_rfl) (by omega) HZ.out) hS0 ?_
  refine tk 6 21 (.agg #[.string (strOf nm), .string f1, .string f2]) (fuel := 4) rfl (by kernel_rfl) (by kernel_rfl) (by kernel_rfl) (by kernel_rfl) noPanic_false (by kernel_rfl) (fun W hW => x_ld75 (x := .tmp 3) (p := 0) (g := w.heap.size + 1) (by kernel_rfl) (by kernel_rfl) (cell_after hW g0) (cell_after hW g1) (cell_after hW g2)) hS0 ?_
  refine wpAnyH_all (rs := [5, 7]) (by kernel_rfl) (by simp) (fun i hi => ?_)
  have hi2 : i = 5 ∨ i = 7 := by simpa using hi
  clear hi
  rcases hi2 with rfl | rfl
  · refine opAppF 5 20 (.tmp 15) (.tmp 19) w1.heap.size (.slice none 0 0) [] ao k c (l.take k) rfl (by kernel_rfl) (by kernel_rfl) (by kernel_rfl) (by kernel_rfl) (by rw [List.length_take, HN.out]; omega) (by kernel_rfl) (OwnFl.nil _ _) ((HF.out.after (After.drew HA1.out)).take k) (by rw [List.length_nil, List.length_take, HN.out]; omega) (Nat.le_refl _) ?_
    intro v2 w2 ho2 hg2
    rw [List.nil_append] at ho2
    have hA2 : After w1 w2 := after_grown hS0 hg2 (Nat.le_refl _) (fun k hk => by cases hk)
    refine ⟨hA2, ?_⟩
    refine wpAnyH_all (rs := [7]) (by kernel_rfl) (by simp) (fun i hi => ?_)
    obtain rfl : i = 7 := by simpa using hi
    clear hi
    refine opVal 7 22 (.slice (some ⟨w2.heap.size, 0, none⟩) 1 1) (w2.alloc (.cells #[.string (strOf nm), .string f1, .string f2] 75)) rfl (by kernel_rfl) (by kernel_rfl) (x_bs25 (x := .tmp 21) (by kernel_rfl) (by kernel_rfl)) ?_
    refine ⟨after_alloc hA2 _, ?_⟩
    refine wpAnyH_all (rs := [8]) (by kernel_rfl) (by simp) (fun i hi => ?_)
    obtain rfl : i = 8 := by simpa using hi
    clear hi
    refine opAppF 8 23 (.tmp 20) (.tmp 22) w1.heap.size v2 (l.take k) (some ⟨w2.heap.size, 0, none⟩) 1 1 [(nm, x)] rfl (by kernel_rfl) (by kernel_rfl) (by kernel_rfl) (by kernel_rfl) rfl (by kernel_rfl) (ho2.same (fun g hg => Below.heap_alloc w2 _ g (ho2.lt g hg).2)) (by have := FilesAt.one w2 (nm, x); simp only [HFX.out.1, HFX.out.2] at this; exact this) (by rw [List.length_take, HN.out]; simp only [List.length_cons, List.length_nil]; omega) (by have := hA2.size; simp; omega) ?_
    intro v3 w3 ho3 hg3
    have hA3 : After w1 w3 := after_grown (after_alloc hA2 _) hg3 (Nat.le_refl _) (fun g hg => (ho2.lt g hg).1)
    refine ⟨hA3, ?_⟩
    refine tk 9 7 v3 (fuel := 0) rfl (by kernel_rfl) (by kernel_rfl) (by kernel_rfl) (by kernel_rfl) noPanic_false (by kernel_rfl) (fun _ _ => by kernel_rfl) hA3 ?_
    refine wpAnyH_done (by kernel_rfl) (NoPanic.normal ?_) _
    have HO3 : Hid (OwnFl w3 w1.heap.size v3 (l.take k ++ [(nm, x)])) := ho3
    have HA3 : Hid (After w1 w3) := hA3
    have c3 := cell_after hA3 c1
    clear ho3 hA3 c1 g0 g1 g2
    go_simp
    go_wp2_with (first
      | (at_builtin; refine wpList_append_files rfl (.tmp 27) (.tmp 31) rfl w1.heap.size v3 (l.take k ++ [(nm, x)]) rfl HO3.out (cut25 ao k1 c) (c - k1) (l.drop k1) (n - k1) (by rw [List.length_drop, HN.out]) rfl (((HF.out.after HA1.out).after HA3.out).drop k1 c (by rw [HN.out]; exact hcap)) (by rw [List.length_append, List.length_take, List.length_drop, HN.out]; simp only [List.length_cons, List.length_nil]; omega) HA3.out.size ?_; intro v4 w4 ho4 hg4; have HO4 : Hid (OwnFl w4 w1.heap.size v4 (l.take k ++ [(nm, x)] ++ l.drop k1)) := ho4; obtain ⟨a3, c3', hv3, hf3, hc3, hz3⟩ := ho4.at; obtain ⟨n3, hn3⟩ : ∃ n3, (l.take k ++ [(nm, x)] ++ l.drop k1).length = n3 := ⟨_, rfl⟩; rw [hn3] at hv3 hc3; subst hv3; have HF3 := show Hid (n3 ≤ c3' ∧ (a3 = none → c3' = 0)) from ⟨hc3, hz3⟩; have HN3 : Hid ((l.take k ++ [(nm, x)] ++ l.drop k1).length = n3) := hn3; have HA4 : Hid (After w1 w4) := after_grown HA3.out hg4 (Nat.le_refl _) (fun k hk => (HO3.out.lt k hk).1); have HR4 := show Hid (RowIs w4 _ _ _) from HR2.out.below HA4.out HR2.out.lt; have HR5 := show Hid (RowIs w4 _ _ _) from HR3.out.below HA4.out HR3.out.lt; have c4 := HR4.out.cell (j := 1) rfl; have fz := HR4.out.frozen 1; have HR6 := show Hid (RowIs (w4.setCell ⟨w.heap.size, 1, none⟩ (.slice a3 n3 c3')) w.heap.size 27 [.int .i64 (S.most : Int), .slice a3 n3 c3', .int .i64 (S.steps : Int), .bool ar, .int .i64 (lf : Int), .bool dn, .bool S.down]) from HR4.out.set 1 _; have HR7 := show Hid (RowIs (w4.setCell ⟨w.heap.size, 1, none⟩ (.slice a3 n3 c3')) _ _ _) from HR5.out.other ⟨w.heap.size, 1, none⟩ (.slice a3 n3 c3') (by simp only; omega); clear ho4 hg4 hf3 hc3 hz3 hn3)
      | (refine wpList_load_row rfl 27 (.tmp 2) rfl w.heap.size rfl 27 _ (0, 0) _ HR6.out Try.underlying27 rfl (by kernel_rfl) ?_)
      | (refine wpList_store_row rfl 27 (.tmp 4) (.tmp 34) rfl (w.heap.size + 1 + 1) _ rfl rfl 27 _ HR7.out (by kernel_rfl) rfl (by kernel_rfl) ?_))
    have HD : Hid (fput nm x l = l.take k ++ [(nm, x)] ++ l.drop k1) := by have := HPL.out.put HRI.out x; rw [HK1.out] at this; rw [this]; simp [Hid]
    have HAX := after_setRow (g := w.heap.size + 1 + 1) (Below.setCell (After.trans HA1.out HA4.out) (p := ⟨w.heap.size, 1, none⟩) (Nat.le_refl _) (.slice a3 n3 c3')) (by omega) [.int .i64 (S.most : Int), .slice a3 n3 c3', .int .i64 (S.steps : Int), .bool ar, .int .i64 (lf : Int), .bool dn, .bool S.down].toArray
    refine bodyPost_ret (ret27 Try.results59 _ _ (w.heap.size + 1 + 1) [.int .i64 (S.most : Int), .slice a3 n3 c3', .int .i64 (S.steps : Int), .bool ar, .int .i64 (lf : Int), .bool dn, .bool S.down] rfl (RowIs.setRow HR7.out _) rfl) rfl ⟨_, rfl, ⟨a3, c3', ?_, ?_, ?_, HF3.out.2⟩, HAX⟩
    · rw [HD.out, HN3.out]; rfl
    · rw [HD.out]; exact HO4.out.two _ (by have := HW1.out; simp only; omega) _ _ HW1.out _
    · rw [HD.out, HN3.out]; exact HF3.out.1
  · refine opVal 7 22 (.slice (some ⟨w1.heap.size, 0, none⟩) 1 1) (w1.drew.alloc (.cells #[.string (strOf nm), .string f1, .string f2] 75)) rfl (by kernel_rfl) (by kernel_rfl) (x_bs25 (w := w1.drew) (x := .tmp 21) (by kernel_rfl) (by kernel_rfl)) ?_
    have hA2 : After w1 (w1.drew.alloc (.cells #[.string (strOf nm), .string f1, .string f2] 75)) := after_alloc hS0 _
    obtain ⟨w2, hw2⟩ : ∃ w2, w1.drew.alloc (.cells #[.string (strOf nm), .string f1, .string f2] 75) = w2 := ⟨_, rfl⟩
    have hone : FilesAt w2 (some ⟨w1.heap.size, 0, none⟩) [(nm, x)] := by rw [← hw2]; have := FilesAt.one w1.drew (nm, x); simp only [HFX.out.1, HFX.out.2] at this; exact this
    rw [hw2] at hA2 ⊢
    have hw2s : w1.heap.size < w2.heap.size := by rw [← hw2]; simp
    clear hw2
    refine ⟨hA2, ?_⟩
    refine wpAnyH_all (rs := [5]) (by kernel_rfl) (by simp) (fun i hi => ?_)
    obtain rfl : i = 5 := by simpa using hi
    clear hi
    refine opAppF 5 20 (.tmp 15) (.tmp 19) w1.heap.size (.slice none 0 0) [] ao k c (l.take k) rfl (by kernel_rfl) (by kernel_rfl) (by kernel_rfl) (by kernel_rfl) (by rw [List.length_take, HN.out]; omega) (by kernel_rfl) (OwnFl.nil _ _) ((HF.out.after (After.trans HA1.out hA2)).take k) (by rw [List.length_nil, List.length_take, HN.out]; omega) (by omega) ?_
    intro v2 w4 ho2 hg2
    rw [List.nil_append] at ho2
    have hA4 : After w2 w4 := after_grown (After.refl w2) hg2 (Nat.le_refl _) (fun k hk => by cases hk)
    refine ⟨After.trans hA2 hA4, ?_⟩
    refine wpAnyH_all (rs := [8]) (by kernel_rfl) (by simp) (fun i hi => ?_)
    obtain rfl : i = 8 := by simpa using hi
    clear hi
    refine opAppF 8 23 (.tmp 20) (.tmp 22) w1.heap.size v2 (l.take k) (some ⟨w1.heap.size, 0, none⟩) 1 1 [(nm, x)] rfl (by kernel_rfl) (by kernel_rfl) (by kernel_rfl) (by kernel_rfl) rfl (by kernel_rfl) ho2 (hone.after hA4) (by rw [List.length_take, HN.out]; simp only [List.length_cons, List.length_nil]; omega) (by have := hA4.size; omega) ?_
    intro v3 w3 ho3 hg3
    have hA3 : After w1 w3 := after_grown (After.trans hA2 hA4) hg3 (Nat.le_refl _) (fun g hg => (ho2.lt g hg).1)
    refine ⟨hA3, ?_⟩
    refine tk 9 7 v3 (fuel := 0) rfl (by kernel_rfl) (by kernel_rfl) (by kernel_rfl) (by kernel_rfl) noPanic_false (by kernel_rfl) (fun _ _ => by kernel_rfl) hA3 ?_
    refine wpAnyH_done (by kernel_rfl) (NoPanic.normal ?_) _
    clear hone hw2s hA2 hA4
    have HO3 : Hid (OwnFl w3 w1.heap.size v3 (l.take k ++ [(nm, x)])) := ho3
    have HA3 : Hid (After w1 w3) := hA3
    have c3 := cell_after hA3 c1
    clear ho3 hA3 c1 g0 g1 g2
    go_simp
    go_wp2_with (first
      | (at_builtin; refine wpList_append_files rfl (.tmp 27) (.tmp 31) rfl w1.heap.size v3 (l.take k ++ [(nm, x)]) rfl HO3.out (cut25 ao k1 c) (c - k1) (l.drop k1) (n - k1) (by rw [List.length_drop, HN.out]) rfl (((HF.out.after HA1.out).after HA3.out).drop k1 c (by rw [HN.out]; exact hcap)) (by rw [List.length_append, List.length_take, List.length_drop, HN.out]; simp only [List.length_cons, List.length_nil]; omega) HA3.out.size ?_; intro v4 w4 ho4 hg4; have HO4 : Hid (OwnFl w4 w1.heap.size v4 (l.take k ++ [(nm, x)] ++ l.drop k1)) := ho4; obtain ⟨a3, c3', hv3, hf3, hc3, hz3⟩ := ho4.at; obtain ⟨n3, hn3⟩ : ∃ n3, (l.take k ++ [(nm, x)] ++ l.drop k1).length = n3 := ⟨_, rfl⟩; rw [hn3] at hv3 hc3; subst hv3; have HF3 := show Hid (n3 ≤ c3' ∧ (a3 = none → c3' = 0)) from ⟨hc3, hz3⟩; have HN3 : Hid ((l.take k ++ [(nm, x)] ++ l.drop k1).length = n3) := hn3; have HA4 : Hid (After w1 w4) := after_grown HA3.out hg4 (Nat.le_refl _) (fun k hk => (HO3.out.lt k hk).1); have HR4 := show Hid (RowIs w4 _ _ _) from HR2.out.below HA4.out HR2.out.lt; have HR5 := show Hid (RowIs w4 _ _ _) from HR3.out.below HA4.out HR3.out.lt; have c4 := HR4.out.cell (j := 1) rfl; have fz := HR4.out.frozen 1; have HR6 := show Hid (RowIs (w4.setCell ⟨w.heap.size, 1, none⟩ (.slice a3 n3 c3')) w.heap.size 27 [.int .i64 (S.most : Int), .slice a3 n3 c3', .int .i64 (S.steps : Int), .bool ar, .int .i64 (lf : Int), .bool dn, .bool S.down]) from HR4.out.set 1 _; have HR7 := show Hid (RowIs (w4.setCell ⟨w.heap.size, 1, none⟩ (.slice a3 n3 c3')) _ _ _) from HR5.out.other ⟨w.heap.size, 1, none⟩ (.slice a3 n3 c3') (by simp only; omega); clear ho4 hg4 hf3 hc3 hz3 hn3)
      | (refine wpList_load_row rfl 27 (.tmp 2) rfl w.heap.size rfl 27 _ (0, 0) _ HR6.out Try.underlying27 rfl (by kernel_rfl) ?_)
      | (refine wpList_store_row rfl 27 (.tmp 4) (.tmp 34) rfl (w.heap.size + 1 + 1) _ rfl rfl 27 _ HR7.out (by kernel_rfl) rfl (by kernel_rfl) ?_))
    have HD : Hid (fput nm x l = l.take k ++ [(nm, x)] ++ l.drop k1) := by have := HPL.out.put HRI.out x; rw [HK1.out] at this; rw [this]; simp [Hid]
    have HAX := after_setRow (g := w.heap.size + 1 + 1) (Below.setCell (After.trans HA1.out HA4.out) (p := ⟨w.heap.size, 1, none⟩) (Nat.le_refl _) (.slice a3 n3 c3')) (by omega) [.int .i64 (S.most : Int), .slice a3 n3 c3', .int .i64 (S.steps : Int), .bool ar, .int .i64 (lf : Int), .bool dn, .bool S.down].toArray
    refine bodyPost_ret (ret27 Try.results59 _ _ (w.heap.size + 1 + 1) [.int .i64 (S.most : Int), .slice a3 n3 c3', .int .i64 (S.steps : Int), .bool ar, .int .i64 (lf : Int), .bool dn, .bool S.down] rfl (RowIs.setRow HR7.out _) rfl) rfl ⟨_, rfl, ⟨a3, c3', ?_, ?_, ?_, HF3.out.2⟩, HAX⟩
    · rw [HD.out, HN3.out]; rfl
    · rw [HD.out]; exact HO4.out.two _ (by have := HW1.out; simp only; omega) _ _ HW1.out _
    · rw [HD.out, HN3.out]; exact HF3.out.1
end Go.Proofs.Ytlbodickflljfaa
