/-
  doc (17): of a draft that has one text.
-/
import Derived.Test.YtiihdhnmgbhgkaaPO
namespace Go.Proofs.Ytiihdhnmgbhgkaa
open Go.RowKit Go.Maps Go.Sort Dsk
attribute [local go_sem] Oper.semAt_some
theorem NmR.nil {w w' : World} {v : Value} {ss : List Nm} (h : NmR [] w w' v ss) : ss = [] := List.eq_nil_iff_forall_not_mem.2 (fun s hs => by obtain ⟨e, he, _⟩ := (h.iff s).1 hs; simp at he)
theorem NmR.one {w w' : World} {v u : Value} {nm : Nm} {ss : List Nm} (h : NmR [(nm, u)] w w' v ss) : ss = [nm] := by
  have h1 : ∀ s, s ∈ ss ↔ s = nm := fun s => by rw [h.iff]; simp [eq_comm]
  have hn := h.nod
  match ss, h1, hn with
  | [], h1, _ => exact absurd ((h1 nm).2 rfl) (by simp)
  | [s], h1, _ => rw [(h1 s).1 (by simp)]
  | s :: t :: r, h1, hn =>
    have e1 := (h1 s).1 (by simp)
    have e2 := (h1 t).1 (by simp)
    rw [e1, e2] at hn
    simp at hn
theorem size26 (u v z : Value) : (Try.prog.info? 26).map (·.size) = some (#[u, v, z] : Array Value).size := by show _ = some 3; kernel_rfl
theorem info57 : ∃ i z, Try.prog.info? 57 = some i ∧ i.zero = some z ∧ i.size = 2 ∧ i.bytes = 32 ∧ z.cells.size = 2 := by
  have h : (Try.prog.info? 57).map (fun i => (i.zero.map (·.cells.size), i.size, i.bytes)) = some (some 2, 2, 32) := by kernel_rfl
  obtain ⟨i, hi, hz⟩ := Option.map_eq_some_iff.1 h
  simp only [Prod.mk.injEq] at hz
  obtain ⟨hz, hs, hb⟩ := hz
  obtain ⟨z, hz1, hz2⟩ := Option.map_eq_some_iff.1 hz
  exact ⟨i, z, hi, hz1, hs, hb, hz2⟩
section
variable {oi : Oper} {a : Act} {w : World}
theorem x_al26 (hop : oi.op = .alloc 26) : (execOp a.eval oi).run Try.prog w = .ok (.value (.pointer (some ⟨w.heap.size, 0, none⟩))) (w.alloc (.cells #[.slice none 0 0, .slice none 0 0, .slice none 0 0] 26)) := by
  have hz : (zeroValue 26).run Try.prog w = .ok (.agg #[.slice none 0 0, .slice none 0 0, .slice none 0 0]) w := by kernel_rfl
  unfold execOp
  simp only [hop]
  simp [go_sem, hz, Value.cells]
theorem x_bs99 {x : Operand} {m : Nat} (hop : oi.op = .buildSlice 99 1 #[(0, x)]) (hx : a.eval x = .map (some m)) : (execOp a.eval oi).run Try.prog w = .ok (.value (.slice (some ⟨w.heap.size, 0, none⟩) 1 1)) (w.alloc (.cells #[.map (some m)] 76)) := by
  have hb : (Instr.buildSlice 99 1 #[(0, .map (some m))]).run Try.prog w = .ok (.slice (some ⟨w.heap.size, 0, none⟩) 1 1) (w.alloc (.cells #[.map (some m)] 76)) := by kernel_rfl
  unfold execOp
  simp [hop, hx, hb]
theorem x_bs101 {x : Operand} {m : Nat} (hop : oi.op = .buildSlice 101 1 #[(0, x)]) (hx : a.eval x = .map (some m)) : (execOp a.eval oi).run Try.prog w = .ok (.value (.slice (some ⟨w.heap.size, 0, none⟩) 1 1)) (w.alloc (.cells #[.map (some m)] 78)) := by
  have hb : (Instr.buildSlice 101 1 #[(0, .map (some m))]).run Try.prog w = .ok (.slice (some ⟨w.heap.size, 0, none⟩) 1 1) (w.alloc (.cells #[.map (some m)] 78)) := by kernel_rfl
  unfold execOp
  simp [hop, hx, hb]
theorem x_bs102 {x : Operand} {m : Nat} (hop : oi.op = .buildSlice 102 1 #[(0, x)]) (hx : a.eval x = .map (some m)) : (execOp a.eval oi).run Try.prog w = .ok (.value (.slice (some ⟨w.heap.size, 0, none⟩) 1 1)) (w.alloc (.cells #[.map (some m)] 72)) := by
  have hb : (Instr.buildSlice 102 1 #[(0, .map (some m))]).run Try.prog w = .ok (.slice (some ⟨w.heap.size, 0, none⟩) 1 1) (w.alloc (.cells #[.map (some m)] 72)) := by kernel_rfl
  unfold execOp
  simp [hop, hx, hb]
theorem x_bld57 {x y : Operand} {s t : ByteArray} (hop : oi.op = .build 57 #[(0, x), (1, y)]) (hx : a.eval x = .string s) (hy : a.eval y = .string t) : (execOp a.eval oi).run Try.prog w = .ok (.value (.agg #[.string s, .string t])) w := by
  have h := run_build (P := Try.prog) w 57 #[(0, .string s), (1, .string t)] #[.string s, .string t] (by kernel_rfl)
  unfold execOp
  simp only [hop]
  simp [hx, hy, h]
theorem x_bs24 {x : Operand} {s t : ByteArray} (hop : oi.op = .buildSlice 24 1 #[(0, x)]) (hx : a.eval x = .agg #[.string s, .string t]) : (execOp a.eval oi).run Try.prog w = .ok (.value (.slice (some ⟨w.heap.size, 0, none⟩) 1 1)) (w.alloc (.cells #[.string s, .string t] 57)) := by
  have hb : (Instr.buildSlice 24 1 #[(0, .agg #[.string s, .string t])]).run Try.prog w = .ok (.slice (some ⟨w.heap.size, 0, none⟩) 1 1) (w.alloc (.cells #[.string s, .string t] 57)) := by kernel_rfl
  unfold execOp
  simp [hop, hx, hb]
theorem x_app24 {s x : Operand} {v u v' : Value} {w' : World} (hop : oi.op = .call { callee := .builtin .append, args := #[s, x], argTypes := #[24, 24] }) (hs : a.eval s = v) (hx : a.eval x = u) (hr : (Builtin.append_ #[24, 24] oi.type #[v, u]).run Try.prog w = .ok v' w') : (execOp a.eval oi).run Try.prog w = .ok (.value v') w' := by
  unfold execOp
  simp only [hop, resolve, invoke, builtin, Sem.run_bind, Sem.run_pure, Result.andThen_ok, List.map_toArray, List.map_cons, List.map_nil, hs, hx, hr]
theorem x_st24 {x y : Operand} {g p : Nat} {va : Option Addr} {m c : Nat} {u : Value} (hop : oi.op = .store 24 x y) (hx : a.eval x = .pointer (some ⟨g, p, none⟩)) (hy : a.eval y = .slice va m c) (hc : w.cell? ⟨g, p, none⟩ = some u) (hf : w.frozen? ⟨g, p, none⟩ = false) : (execOp a.eval oi).run Try.prog w = .ok .skip (w.setCell ⟨g, p, none⟩ (.slice va m c)) := by
  unfold execOp
  simp only [hop, hx, hy]
  simp [go_sem, hc, hf, Instr.storeAt, Instr.sureAddr]
end
theorem ret26 {fn : Func} {p : Tmp} (h : fn.results = #[.cell p 26]) (tmps : Array Value) (w : World) (g : Nat) (u v z : Value) (hp : tmps.getD p undef = .pointer (some ⟨g, 0, none⟩)) (hg : RowIs w g 26 [u, v, z]) : (results fn tmps).run Try.prog w = .ok (.agg #[u, v, z]) w := by
  have hp' : tmps[p]?.getD undef = .pointer (some ⟨g, 0, none⟩) := by simpa using hp
  simp [results, h, hp', asAddr, run_loadVar_row w g 26 26 #[u, v, z] (0, 0) _ hg Try.underlying26 rfl (size26 u v z)]
section
variable {ops : Array Oper} {Q : Exit → Act → World → Prop} {S : World → Prop} {fuel : Nat} {listed : Array Bool} {a : Act} {w : World} {oi oj : Oper}
/-- Two are ready: a value, and a call. -/
theorem tkVC (i d : Nat) (v : Value) (w1 : World) (j e : Nat) (f : FuncId) (args : Array Value) (R : Value → World → Prop) (hr : Region.ready .any ops listed = [i, j]) (hi : ops[i]? = some oi) (hd : oi.dst = some d) (hw : Region.wanted oi (yielded ops a.tmps) = true) (hrun : (execOp a.eval oi).run Try.prog w = .ok (.value v) w1) (hj : ops[j]? = some oj) (he : oj.dst = some e) (hwj : Region.wanted oj (yielded ops a.tmps) = true) (hrunj : ∀ w, (execOp a.eval oj).run Try.prog w = .ok (.enter f args) w) (hc : Calls Try.prog f args w fun e w' => ∃ v, e = .returned v ∧ R v w')
    (hA : S w1 ∧ wpAnyH Try.prog .any ops Q S fuel (listed.setIfInBounds i true) (a.put (some d) v) w1) (hB : ∀ v w', R v w' → S w' ∧ wpAnyH Try.prog .any ops Q S fuel (listed.setIfInBounds j true) (a.put (some e) v) w') : wpAnyH Try.prog .any ops Q S (fuel + 1) listed a w :=
  wpAnyH_all hr (by simp) (fun ii hii => by
    have h2 : ii = i ∨ ii = j := by simpa using hii
    rcases h2 with rfl | rfl
    · exact opVal ii d v w1 hi hd hw hrun hA
    · exact opCallK ii e f args R hj he hwj hrunj hc hB)
theorem tkVV (i d : Nat) (v : Value) (w1 : World) (j e : Nat) (u : Value) (w2 : World) (hr : Region.ready .any ops listed = [i, j]) (hi : ops[i]? = some oi) (hd : oi.dst = some d) (hw : Region.wanted oi (yielded ops a.tmps) = true) (hrun : (execOp a.eval oi).run Try.prog w = .ok (.value v) w1) (hj : ops[j]? = some oj) (he : oj.dst = some e) (hwj : Region.wanted oj (yielded ops a.tmps) = true) (hrunj : (execOp a.eval oj).run Try.prog w = .ok (.value u) w2)
    (hA : S w1 ∧ wpAnyH Try.prog .any ops Q S fuel (listed.setIfInBounds i true) (a.put (some d) v) w1) (hB : S w2 ∧ wpAnyH Try.prog .any ops Q S fuel (listed.setIfInBounds j true) (a.put (some e) u) w2) : wpAnyH Try.prog .any ops Q S (fuel + 1) listed a w :=
  wpAnyH_all hr (by simp) (fun ii hii => by
    have h2 : ii = i ∨ ii = j := by simpa using hii
    rcases h2 with rfl | rfl
    · exact opVal ii d v w1 hi hd hw hrun hA
    · exact opVal ii e u w2 hj he hwj hrunj hB)
end
theorem app24_one {W : World} {g : Nat} {s t : ByteArray} (hr : RowIs W g 57 [.string s, .string t]) : ∃ va vc W', (Builtin.append_ #[24, 24] 24 #[.slice none 0 0, .slice (some ⟨g, 0, none⟩) 1 1]).run Try.prog W = .ok (.slice va 1 vc) W' ∧ OwnL W' W.heap.size 57 2 (.slice va 1 vc) [[.string s, .string t]] ∧ After W W' := by
  obtain ⟨i, z, hi, hz, hsz, hby, hzc⟩ := info57
  have hsl : SlAt W 2 (some ⟨g, 0, none⟩) [[.string s, .string t]] := ⟨fun u hu => by rw [List.mem_singleton] at hu; subst hu; rfl, fun _ => ⟨_, _, rfl, fun j v hv => by rw [Nat.zero_add]; exact hr.cell (by simpa using hv)⟩⟩
  obtain ⟨va, vc, W', r1, r2, r3, _⟩ := run_appL (w := W) 24 24 57 2 32 Try.underlying24 hi hz hsz hby hzc (by omega) (OwnL.nil W W.heap.size 57 2) (N := [[.string s, .string t]]) (a := some ⟨g, 0, none⟩) (m := 1) (c := 1) rfl hsl (fun u hu => by rw [List.mem_singleton] at hu; subst hu; intro y hy; simp at hy; rcases hy with rfl | rfl <;> rfl) (by decide) (by decide) (Nat.le_refl _) (fun h => by cases h)
  exact ⟨va, vc, W', r1, r2, grown_after (After.refl W) (OwnL.nil W W.heap.size 57 2).2 (Nat.le_refl _) r3⟩
set_option maxRecDepth 100000 in
set_option maxHeartbeats 12800000 in
theorem doc17_one {w : World} {B gd me mc mt : Nat} {nm : Nm} {ao : Option Addr} {n c : Nat} {a b : Nm} (h : DrAt w B gd me mc mt [] [] [(nm, .agg #[.slice ao n c, .string (strOf b)])]) (ho : Own w B (.slice ao n c) a) (hsz : a.length + b.length ≤ 1000000) (hnl : nm.length ≤ 1000) :
    Calls Try.prog 17 #[.pointer (some ⟨gd, 0, none⟩)] w fun e w' => ∃ ta tc, e = .returned (.agg #[.slice none 0 0, .slice none 0 0, .slice ta 1 tc]) ∧ OwnL w' w.heap.size 57 2 (.slice ta 1 tc) [[.string (strOf nm), .string (strOf (a ++ b))]] ∧ After w w' := by
  obtain ⟨W0, hW0⟩ : ∃ W0, w.alloc (.cells #[.slice none 0 0, .slice none 0 0, .slice none 0 0] 26) = W0 := ⟨_, rfl⟩
  obtain ⟨W1, hW1⟩ : ∃ W1, W0.alloc (.cells #[.slice none 0 0, .slice none 0 0, .slice none 0 0] 26) = W1 := ⟨_, rfl⟩
  obtain ⟨g2, hg2⟩ : ∃ g2, w.heap.size = g2 := ⟨_, rfl⟩
  obtain ⟨g3, hg3⟩ : ∃ g3, W0.heap.size = g3 := ⟨_, rfl⟩
  have a0 : After w W0 := by rw [← hW0]; exact after_alloc (After.refl w) _
  have a1 : After W0 W1 := by rw [← hW1]; exact after_alloc (After.refl W0) _
  have r0 : RowIs W0 g2 26 [.slice none 0 0, .slice none 0 0, .slice none 0 0] := by rw [← hW0, ← hg2]; exact RowIs.new w 26 _
  have r1 : RowIs W1 g3 26 [.slice none 0 0, .slice none 0 0, .slice none 0 0] := by rw [← hW1, ← hg3]; exact RowIs.new W0 26 _
  have HR : Hid (RowIs W1 g2 26 [.slice none 0 0, .slice none 0 0, .slice none 0 0] ∧ RowIs W1 g3 26 [.slice none 0 0, .slice none 0 0, .slice none 0 0] ∧ After w W1 ∧ g2 ≠ g3 ∧ w.heap.size ≤ g2 ∧ w.heap.size ≤ g3) := ⟨r0.below a1 r0.lt, r1, a0.trans a1, by rw [← hg3]; have := r0.lt; omega, by omega, by rw [← hg3]; exact a0.size⟩
  have HD : Hid (DrAt w B gd me mc mt [] [] [(nm, .agg #[.slice ao n c, .string (strOf b)])] ∧ Own w B (.slice ao n c) a ∧ a.length + b.length ≤ 1000000 ∧ nm.length ≤ 1000) := ⟨h, ho, hsz, hnl⟩
  have hd1 := h.after (a0.trans a1)
  have c0 := hd1.row.cell (j := 0) rfl
  have HG2 := show Hid _ from hg2
  have HG3 := show Hid _ from hg3
  clear h ho hsz hnl a0 a1 r0 r1 hd1
  go_enter Try.func17, Try.ntmps17
  go_wp2_with (first
    | (refine wpList_of_run rfl ((x_al26 rfl).trans (by rw [hW0, HG2.out])) ?_)
    | (refine wpList_of_run rfl ((x_al26 rfl).trans (by rw [hW1, HG3.out])) ?_)
    | (refine wpList_of_run rfl (x_bs99 (x := .tmp 13) (m := me) rfl (by kernel_rfl)) ?_)
    | (go_at_call 40; refine Calls.mono (names40 (T := []) ((RowIs.new W1 76 [.map (some me)]).cell (j := 0) rfl) ((HD.out.1.after HR.out.2.2.1).e.after (after_alloc (After.refl W1) _)) (by decide)) ?_; rintro e w4 ⟨v4, rfl, ss4, hn4⟩; have e4 := hn4.nil; obtain ⟨la4, lc4, hv4, _⟩ := hn4.own.sl; rw [e4, show (stL ([] : List Nm)).length = 0 from rfl] at hv4; subst hv4; have H4 := show Hid (After W1 w4) from (after_alloc (After.refl W1) _).trans hn4.aft; have c1 := ((HD.out.1.after HR.out.2.2.1).after H4.out).row.cell (j := 1) rfl; clear hn4 e4))
  go_loopw [17] (fun iv wr => iv = .int .i64 0 ∧ wr = w4) (fun _ _ => 0)
  case atStart => exact ⟨rfl, rfl⟩
  case round =>
    obtain ⟨rfl, hwr⟩ := hrel
    rw [hwr]
    clear hwr
    go_wp2_with (first
      | (refine wpList_of_run rfl (x_bs101 (x := .tmp 40) (m := mc) rfl (by kernel_rfl)) ?_)
      | (go_at_call 42; refine Calls.mono (names42 (T := []) ((RowIs.new w4 78 [.map (some mc)]).cell (j := 0) rfl) (((HD.out.1.after HR.out.2.2.1).after H4.out).c.after (after_alloc (After.refl w4) _)) (by decide)) ?_; rintro e w6 ⟨v6, rfl, ss6, hn6⟩; have e6 := hn6.nil; obtain ⟨la6, lc6, hv6, _⟩ := hn6.own.sl; rw [e6, show (stL ([] : List Nm)).length = 0 from rfl] at hv6; subst hv6; have H6 := show Hid (After W1 w6) from H4.out.trans ((after_alloc (After.refl w4) _).trans hn6.aft); have c2 := ((HD.out.1.after HR.out.2.2.1).after H6.out).row.cell (j := 2) rfl; clear hn6 e6))
    go_loopw [44] (fun iv wr => iv = .int .i64 0 ∧ wr = w6) (fun _ _ => 0)
    case atStart => exact ⟨rfl, rfl⟩
    case round =>
      obtain ⟨rfl, hwr⟩ := hrel
      rw [hwr]
      clear hwr
      go_wp2_with (first
        | (refine wpList_of_run rfl (x_bs102 (x := .tmp 63) (m := mt) rfl (by kernel_rfl)) ?_)
        | (go_at_call 43; refine Calls.mono (names43 (T := [(nm, .agg #[.slice ao n c, .string (strOf b)])]) ((RowIs.new w6 72 [.map (some mt)]).cell (j := 0) rfl) (((HD.out.1.after HR.out.2.2.1).after H6.out).t.after (after_alloc (After.refl w6) _)) (by show (1 : Nat) ≤ 1000000; omega)) ?_; rintro e w8 ⟨v8, rfl, ss8, hn8⟩; have e8 := hn8.one; obtain ⟨la8, lc8, hv8, hs8⟩ := hn8.own.sl; rw [e8] at hv8 hs8; have hv8 : v8 = .slice la8 1 lc8 := hv8; subst hv8; have HA8 := show Hid (After W1 w8) from H6.out.trans ((after_alloc (After.refl w6) _).trans hn8.aft); have HS8 := show Hid (SlAt w8 1 la8 (stL [nm])) from hs8; clear hn8 e8 hs8))
      obtain ⟨b8, o8, hla, hrg8⟩ := SlAt.at HS8.out (i := 0) (x := [.string (strOf nm)]) rfl
      subst hla
      have HRG : Hid (w8.cell? ⟨b8, o8 + 0 * 1, none⟩ = some (.string (strOf nm))) := hrg8 0 _ rfl
      have H8 : Hid (RowIs w8 g2 26 [.slice none 0 0, .slice none 0 0, .slice none 0 0] ∧ RowIs w8 g3 26 [.slice none 0 0, .slice none 0 0, .slice none 0 0] ∧ DrAt w8 B gd me mc mt [] [] [(nm, .agg #[.slice ao n c, .string (strOf b)])] ∧ Own w8 B (.slice ao n c) a ∧ After w w8 ∧ True ∧ gd ≠ g3 ∧ mt ≠ g3) := by
        have hd := (HD.out.1.after HR.out.2.2.1).after HA8.out
        have r3 := HR.out.2.1.below HA8.out HR.out.2.1.lt
        exact ⟨HR.out.1.below HA8.out HR.out.1.lt, r3, hd, HD.out.2.1.below (HR.out.2.2.1.trans HA8.out) (Nat.le_refl _), HR.out.2.2.1.trans HA8.out, trivial, fun e => by have h3 := r3; rw [← e] at h3; exact absurd (h3.ty hd.row).1 (by decide), hd.t.ne r3⟩
      have HNL : Hid (nm.length ≤ maxLen ∧ (fget nm [(nm, .agg #[.slice ao n c, .string (strOf b)])]).getD zT = .agg #[.slice ao n c, .string (strOf b)]) := ⟨by have := HD.out.2.2.2; unfold maxLen; omega, by simp [fget]⟩
      have HNL2 : Hid (a.length + b.length ≤ 9223372036854775807) := by have := HD.out.2.2.1; show _ ≤ _; omega
      clear hrg8
      go_loopw [67] (fun iv wr => (iv = .int .i64 0 ∧ wr = w8) ∨ (iv = .int .i64 1 ∧ ∃ ta tc, Hid (RowIs wr g3 26 [.slice none 0 0, .slice none 0 0, .slice ta 1 tc] ∧ RowIs wr g2 26 [.slice none 0 0, .slice none 0 0, .slice none 0 0] ∧ OwnL wr w.heap.size 57 2 (.slice ta 1 tc) [[.string (strOf nm), .string (strOf (a ++ b))]] ∧ After w wr))) (fun iv _ => 1 - (intOf iv).toNat)
      case atStart => exact .inl ⟨rfl, rfl⟩
      case round =>
        rcases hrel with ⟨rfl, hwr⟩ | ⟨rfl, ta, tc, HF⟩
        · rw [hwr]
          clear hwr
          go_wp2_with (first
            | (refine wpList_of_run rfl (x_idx38 (x := .tmp 65) (y := .tmp 67) (b := b8) (f := o8) (n := 1) (c := lc8) (k := 0) rfl (by kernel_rfl) (by kernel_rfl) (by decide)) ?_)
            | (refine wpList_of_run rfl (x_loadT (x := .tmp 69) (t := 9) (g := b8) (j := o8 + 0 * 1) Try.underlying9 rfl rfl (by kernel_rfl) HRG.out) ?_))
          refine wp_region_noPanic ?_
          refine wp_region_held_drew (S := KeptF (fun b => b = g3) w8) (by kernel_rfl) (KeptF.of_after (After.drew (After.refl _))) ?_
          intro hS0
          refine tk 0 71 (.pointer (some ⟨g3, 2, none⟩)) (fuel := 14) rfl (by kernel_rfl) (by kernel_rfl) (by kernel_rfl) (by kernel_rfl) noPanic_false (by kernel_rfl) (fun _ _ => by kernel_rfl) hS0 ?_
          refine tk 2 73 (.string (strOf nm)) (fuel := 13) rfl (by kernel_rfl) (by kernel_rfl) (by kernel_rfl) (by kernel_rfl) noPanic_false (by kernel_rfl) (fun _ _ => by kernel_rfl) hS0 ?_
          refine tk 3 74 (.pointer (some ⟨gd, 0, none⟩)) (fuel := 12) rfl (by kernel_rfl) (by kernel_rfl) (by kernel_rfl) (by kernel_rfl) noPanic_false (by kernel_rfl) (fun _ _ => by kernel_rfl) hS0 ?_
          refine tk 4 75 (.pointer (some ⟨gd, 0, none⟩)) (fuel := 11) rfl (by kernel_rfl) (by kernel_rfl) (by kernel_rfl) (by kernel_rfl) noPanic_false (by kernel_rfl) (fun _ _ => by kernel_rfl) hS0 ?_
          refine tk 5 76 (.pointer (some ⟨gd, 2, none⟩)) (fuel := 10) rfl (by kernel_rfl) (by kernel_rfl) (by kernel_rfl) (by kernel_rfl) noPanic_false (by kernel_rfl) (fun _ _ => by kernel_rfl) hS0 ?_
          refine tk 6 77 (.map (some mt)) (fuel := 9) rfl (by kernel_rfl) (by kernel_rfl) (by kernel_rfl) (by kernel_rfl) noPanic_false (by kernel_rfl) (fun W hW => x_loadT (x := .tmp 76) (t := 72) (g := gd) (j := 2) Try.underlying72 rfl (by kernel_rfl) (by kernel_rfl) ((hW.row H8.out.2.2.1.row H8.out.2.2.2.2.2.2.1).cell (j := 2) rfl)) hS0 ?_
          refine tk 7 78 (.string (strOf nm)) (fuel := 8) rfl (by kernel_rfl) (by kernel_rfl) (by kernel_rfl) (by kernel_rfl) noPanic_false (by kernel_rfl) (fun _ _ => by kernel_rfl) hS0 ?_
          refine tk 8 79 (.agg #[.slice ao n c, .string (strOf b)]) (fuel := 7) rfl (by kernel_rfl) (by kernel_rfl) (by kernel_rfl) (by kernel_rfl) noPanic_false (by kernel_rfl) (fun W hW => x_look72 (m := .tmp 77) (x := .tmp 78) (by kernel_rfl) (by kernel_rfl) (by kernel_rfl) (ownsMap_same H8.out.2.2.1.t.own (hW.block mt H8.out.2.2.1.t.own.lt H8.out.2.2.2.2.2.2.2)) HNL.out.1 HNL.out.2) hS0 ?_
          have d8 : After w8 w8.drew := After.drew (After.refl w8)
          have l8 : w8.drew.cell? ⟨g3, 2, none⟩ = some (.slice none 0 0) := (H8.out.2.1.below d8 H8.out.2.1.lt).cell (j := 2) rfl
          refine tkVC 1 72 (.slice none 0 0) w8.drew 9 80 44 #[.agg #[.slice ao n c, .string (strOf b)]] (fun v w' => v = .string (strOf (a ++ b)) ∧ After w8 w') (fuel := 6) (by kernel_rfl) rfl (by kernel_rfl) (by kernel_rfl) (x_loadT (x := .tmp 71) (t := 24) (g := g3) (j := 2) Try.underlying24 rfl (by kernel_rfl) (by kernel_rfl) (l8)) rfl (by kernel_rfl) (by kernel_rfl) (fun _ => by kernel_rfl) (Calls.mono (chars44 (H8.out.2.2.2.1.below d8 (Nat.le_refl _)) HNL2.out) (fun e w' ⟨he, ha⟩ => ⟨_, he, rfl, d8.trans ha⟩)) ⟨KeptF.of_after d8, ?_⟩ ?_
          · refine tkCallZ 9 80 44 #[.agg #[.slice ao n c, .string (strOf b)]] (fun v w' => v = .string (strOf (a ++ b)) ∧ After w8 w') (fuel := 5) rfl (by kernel_rfl) (by kernel_rfl) (by kernel_rfl) (fun _ => by kernel_rfl) (Calls.mono (chars44 (H8.out.2.2.2.1.below d8 (Nat.le_refl _)) HNL2.out) (fun e w' ⟨he, ha⟩ => ⟨_, he, rfl, d8.trans ha⟩)) ?_
            intro v9 w9 ⟨hv9, a9⟩
            subst hv9
            refine ⟨KeptF.of_after a9, ?_⟩
            refine tk 10 81 (.agg #[.string (strOf nm), .string (strOf (a ++ b))]) (fuel := 4) rfl (by kernel_rfl) (by kernel_rfl) (by kernel_rfl) (by kernel_rfl) noPanic_false (by kernel_rfl) (fun W _ => x_bld57 (x := .tmp 73) (y := .tmp 80) (by kernel_rfl) (by kernel_rfl) (by kernel_rfl)) (KeptF.of_after a9) ?_
            obtain ⟨g11, hg11⟩ : ∃ g11, w9.heap.size = g11 := ⟨_, rfl⟩
            obtain ⟨W11, hW11⟩ : ∃ W11, w9.alloc (.cells #[.string (strOf nm), .string (strOf (a ++ b))] 57) = W11 := ⟨_, rfl⟩
            have RW11 : RowIs W11 g11 57 [.string (strOf nm), .string (strOf (a ++ b))] := by rw [← hW11, ← hg11]; exact RowIs.new w9 57 _
            have AW11 : After w8 W11 := by rw [← hW11]; exact after_alloc a9 _
            refine tkRunS 11 82 (.slice (some ⟨g11, 0, none⟩) 1 1) W11 (fuel := 3) rfl (by kernel_rfl) (by kernel_rfl) (by kernel_rfl) ((x_bs24 (x := .tmp 81) (by kernel_rfl) (by kernel_rfl)).trans (by rw [hW11, hg11])) (KeptF.of_after AW11) ?_
            obtain ⟨ta, tc, W12, q1, q2, q3⟩ := app24_one (W := W11) RW11
            refine tkRunS 12 83 (.slice ta 1 tc) W12 (fuel := 2) rfl (by kernel_rfl) (by kernel_rfl) (by kernel_rfl) (x_app24 (s := .tmp 72) (x := .tmp 82) (v := .slice none 0 0) (u := .slice (some ⟨g11, 0, none⟩) 1 1) (by kernel_rfl) (by kernel_rfl) (by kernel_rfl) q1) (KeptF.of_after (AW11.trans q3)) ?_
            refine tk 13 84 (.pointer (some ⟨g3, 2, none⟩)) (fuel := 1) rfl (by kernel_rfl) (by kernel_rfl) (by kernel_rfl) (by kernel_rfl) noPanic_false (by kernel_rfl) (fun _ _ => by kernel_rfl) (KeptF.of_after (AW11.trans q3)) ?_
            have r12 : RowIs W12 g3 26 [.slice none 0 0, .slice none 0 0, .slice none 0 0] := H8.out.2.1.below (AW11.trans q3) H8.out.2.1.lt
            obtain ⟨W13, hW13⟩ : ∃ W13, W12.setCell ⟨g3, 2, none⟩ (.slice ta 1 tc) = W13 := ⟨_, rfl⟩
            have k13 : KeptF (fun b => b = g3) W12 W13 := by rw [← hW13]; exact KeptF.set (F := fun b => b = g3) W12 ⟨g3, 2, none⟩ _ rfl
            have r13 : RowIs W13 g3 26 [.slice none 0 0, .slice none 0 0, .slice ta 1 tc] := by rw [← hW13]; exact r12.set 2 _
            refine tkStoreS 14 (W12.setCell ⟨g3, 2, none⟩ (.slice ta 1 tc)) (fuel := 0) rfl (by kernel_rfl) (by kernel_rfl) (by kernel_rfl) (x_st24 (x := .tmp 84) (y := .tmp 83) (g := g3) (p := 2) (va := ta) (m := 1) (c := tc) (by kernel_rfl) (by kernel_rfl) (by kernel_rfl) (r12.cell rfl) (r12.frozen 2)) (by rw [hW13]; exact (KeptF.of_after (F := fun b => b = g3) (AW11.trans q3)).trans k13 (fun _ _ h => h)) ?_
            refine wpAnyH_done (by kernel_rfl) (NoPanic.normal ?_) _
            rw [hW13]
            have H13 := show Hid (RowIs W13 g3 26 [.slice none 0 0, .slice none 0 0, .slice ta 1 tc] ∧ RowIs W13 g2 26 [.slice none 0 0, .slice none 0 0, .slice none 0 0] ∧ OwnL W13 w.heap.size 57 2 (.slice ta 1 tc) [[.string (strOf nm), .string (strOf (a ++ b))]] ∧ After w W13) from by
              have hr2 : RowIs W12 g2 26 [.slice none 0 0, .slice none 0 0, .slice none 0 0] := H8.out.1.below (AW11.trans q3) H8.out.1.lt
              have aw := H8.out.2.2.2.2.1.trans (AW11.trans q3)
              refine ⟨r13, k13.row hr2 HR.out.2.2.2.1, (q2.same (fun b hb => ?_)).mono (H8.out.2.2.2.2.1.trans AW11).size, ?_⟩
              · obtain ⟨_, hl, cs, hr⟩ := own_lt q2.2 hb
                exact k13.block b hl (fun e => by have e : b = g3 := e; rw [e] at hr; exact absurd (hr.ty r12).1 (by decide))
              · rw [← hW13]
                exact Below.setCell aw (p := ⟨g3, 2, none⟩) HR.out.2.2.2.2.2 _
            clear q1 q2 q3 r12 k13 r13 hW13 RW11 AW11 a9 hg11 hW11 l8 d8 hS0
            go_simp
            go_wp2_with fail
            go_roundw
            case rel => exact .inr ⟨by go_num, ta, tc, H13⟩
            case measure => simp [intOf]
          · intro v9 w9 ⟨hv9, a9⟩
            subst hv9
            refine ⟨KeptF.of_after a9, ?_⟩
            refine tk 10 81 (.agg #[.string (strOf nm), .string (strOf (a ++ b))]) (fuel := 5) rfl (by kernel_rfl) (by kernel_rfl) (by kernel_rfl) (by kernel_rfl) noPanic_false (by kernel_rfl) (fun W _ => x_bld57 (x := .tmp 73) (y := .tmp 80) (by kernel_rfl) (by kernel_rfl) (by kernel_rfl)) (KeptF.of_after a9) ?_
            obtain ⟨g11, hg11⟩ : ∃ g11, w9.heap.size = g11 := ⟨_, rfl⟩
            obtain ⟨W11, hW11⟩ : ∃ W11, w9.alloc (.cells #[.string (strOf nm), .string (strOf (a ++ b))] 57) = W11 := ⟨_, rfl⟩
            have RW11 : RowIs W11 g11 57 [.string (strOf nm), .string (strOf (a ++ b))] := by rw [← hW11, ← hg11]; exact RowIs.new w9 57 _
            have AW11 : After w8 W11 := by rw [← hW11]; exact after_alloc a9 _
            have l9 : w9.cell? ⟨g3, 2, none⟩ = some (.slice none 0 0) := (H8.out.2.1.below a9 H8.out.2.1.lt).cell (j := 2) rfl
            have l11 : W11.cell? ⟨g3, 2, none⟩ = some (.slice none 0 0) := (H8.out.2.1.below AW11 H8.out.2.1.lt).cell (j := 2) rfl
            refine tkVV 1 72 (.slice none 0 0) w9 11 82 (.slice (some ⟨g11, 0, none⟩) 1 1) W11 (fuel := 4) (by kernel_rfl) rfl (by kernel_rfl) (by kernel_rfl) (x_loadT (x := .tmp 71) (t := 24) (g := g3) (j := 2) Try.underlying24 rfl (by kernel_rfl) (by kernel_rfl) (l9)) rfl (by kernel_rfl) (by kernel_rfl) ((x_bs24 (x := .tmp 81) (by kernel_rfl) (by kernel_rfl)).trans (by rw [hW11, hg11])) ⟨KeptF.of_after a9, ?_⟩ ⟨KeptF.of_after AW11, ?_⟩
            · refine tkRunS 11 82 (.slice (some ⟨g11, 0, none⟩) 1 1) W11 (fuel := 3) rfl (by kernel_rfl) (by kernel_rfl) (by kernel_rfl) ((x_bs24 (x := .tmp 81) (by kernel_rfl) (by kernel_rfl)).trans (by rw [hW11, hg11])) (KeptF.of_after AW11) ?_
              obtain ⟨ta, tc, W12, q1, q2, q3⟩ := app24_one (W := W11) RW11
              refine tkRunS 12 83 (.slice ta 1 tc) W12 (fuel := 2) rfl (by kernel_rfl) (by kernel_rfl) (by kernel_rfl) (x_app24 (s := .tmp 72) (x := .tmp 82) (v := .slice none 0 0) (u := .slice (some ⟨g11, 0, none⟩) 1 1) (by kernel_rfl) (by kernel_rfl) (by kernel_rfl) q1) (KeptF.of_after (AW11.trans q3)) ?_
              refine tk 13 84 (.pointer (some ⟨g3, 2, none⟩)) (fuel := 1) rfl (by kernel_rfl) (by kernel_rfl) (by kernel_rfl) (by kernel_rfl) noPanic_false (by kernel_rfl) (fun _ _ => by kernel_rfl) (KeptF.of_after (AW11.trans q3)) ?_
              have r12 : RowIs W12 g3 26 [.slice none 0 0, .slice none 0 0, .slice none 0 0] := H8.out.2.1.below (AW11.trans q3) H8.out.2.1.lt
              obtain ⟨W13, hW13⟩ : ∃ W13, W12.setCell ⟨g3, 2, none⟩ (.slice ta 1 tc) = W13 := ⟨_, rfl⟩
              have k13 : KeptF (fun b => b = g3) W12 W13 := by rw [← hW13]; exact KeptF.set (F := fun b => b = g3) W12 ⟨g3, 2, none⟩ _ rfl
              have r13 : RowIs W13 g3 26 [.slice none 0 0, .slice none 0 0, .slice ta 1 tc] := by rw [← hW13]; exact r12.set 2 _
              refine tkStoreS 14 (W12.setCell ⟨g3, 2, none⟩ (.slice ta 1 tc)) (fuel := 0) rfl (by kernel_rfl) (by kernel_rfl) (by kernel_rfl) (x_st24 (x := .tmp 84) (y := .tmp 83) (g := g3) (p := 2) (va := ta) (m := 1) (c := tc) (by kernel_rfl) (by kernel_rfl) (by kernel_rfl) (r12.cell rfl) (r12.frozen 2)) (by rw [hW13]; exact (KeptF.of_after (F := fun b => b = g3) (AW11.trans q3)).trans k13 (fun _ _ h => h)) ?_
              refine wpAnyH_done (by kernel_rfl) (NoPanic.normal ?_) _
              rw [hW13]
              have H13 := show Hid (RowIs W13 g3 26 [.slice none 0 0, .slice none 0 0, .slice ta 1 tc] ∧ RowIs W13 g2 26 [.slice none 0 0, .slice none 0 0, .slice none 0 0] ∧ OwnL W13 w.heap.size 57 2 (.slice ta 1 tc) [[.string (strOf nm), .string (strOf (a ++ b))]] ∧ After w W13) from by
                have hr2 : RowIs W12 g2 26 [.slice none 0 0, .slice none 0 0, .slice none 0 0] := H8.out.1.below (AW11.trans q3) H8.out.1.lt
                have aw := H8.out.2.2.2.2.1.trans (AW11.trans q3)
                refine ⟨r13, k13.row hr2 HR.out.2.2.2.1, (q2.same (fun b hb => ?_)).mono (H8.out.2.2.2.2.1.trans AW11).size, ?_⟩
                · obtain ⟨_, hl, cs, hr⟩ := own_lt q2.2 hb
                  exact k13.block b hl (fun e => by have e : b = g3 := e; rw [e] at hr; exact absurd (hr.ty r12).1 (by decide))
                · rw [← hW13]
                  exact Below.setCell aw (p := ⟨g3, 2, none⟩) HR.out.2.2.2.2.2 _
              clear q1 q2 q3 r12 k13 r13 hW13 RW11 AW11 a9 hg11 hW11 l8 l9 l11 d8 hS0
              go_simp
              go_wp2_with fail
              go_roundw
              case rel => exact .inr ⟨by go_num, ta, tc, H13⟩
              case measure => simp [intOf]
            · refine tkRunS 1 72 (.slice none 0 0) W11 (fuel := 3) rfl (by kernel_rfl) (by kernel_rfl) (by kernel_rfl) (x_loadT (x := .tmp 71) (t := 24) (g := g3) (j := 2) Try.underlying24 rfl (by kernel_rfl) (by kernel_rfl) (l11)) (KeptF.of_after AW11) ?_
              obtain ⟨ta, tc, W12, q1, q2, q3⟩ := app24_one (W := W11) RW11
              refine tkRunS 12 83 (.slice ta 1 tc) W12 (fuel := 2) rfl (by kernel_rfl) (by kernel_rfl) (by kernel_rfl) (x_app24 (s := .tmp 72) (x := .tmp 82) (v := .slice none 0 0) (u := .slice (some ⟨g11, 0, none⟩) 1 1) (by kernel_rfl) (by kernel_rfl) (by kernel_rfl) q1) (KeptF.of_after (AW11.trans q3)) ?_
              refine tk 13 84 (.pointer (some ⟨g3, 2, none⟩)) (fuel := 1) rfl (by kernel_rfl) (by kernel_rfl) (by kernel_rfl) (by kernel_rfl) noPanic_false (by kernel_rfl) (fun _ _ => by kernel_rfl) (KeptF.of_after (AW11.trans q3)) ?_
              have r12 : RowIs W12 g3 26 [.slice none 0 0, .slice none 0 0, .slice none 0 0] := H8.out.2.1.below (AW11.trans q3) H8.out.2.1.lt
              obtain ⟨W13, hW13⟩ : ∃ W13, W12.setCell ⟨g3, 2, none⟩ (.slice ta 1 tc) = W13 := ⟨_, rfl⟩
              have k13 : KeptF (fun b => b = g3) W12 W13 := by rw [← hW13]; exact KeptF.set (F := fun b => b = g3) W12 ⟨g3, 2, none⟩ _ rfl
              have r13 : RowIs W13 g3 26 [.slice none 0 0, .slice none 0 0, .slice ta 1 tc] := by rw [← hW13]; exact r12.set 2 _
              refine tkStoreS 14 (W12.setCell ⟨g3, 2, none⟩ (.slice ta 1 tc)) (fuel := 0) rfl (by kernel_rfl) (by kernel_rfl) (by kernel_rfl) (x_st24 (x := .tmp 84) (y := .tmp 83) (g := g3) (p := 2) (va := ta) (m := 1) (c := tc) (by kernel_rfl) (by kernel_rfl) (by kernel_rfl) (r12.cell rfl) (r12.frozen 2)) (by rw [hW13]; exact (KeptF.of_after (F := fun b => b = g3) (AW11.trans q3)).trans k13 (fun _ _ h => h)) ?_
              refine wpAnyH_done (by kernel_rfl) (NoPanic.normal ?_) _
              rw [hW13]
              have H13 := show Hid (RowIs W13 g3 26 [.slice none 0 0, .slice none 0 0, .slice ta 1 tc] ∧ RowIs W13 g2 26 [.slice none 0 0, .slice none 0 0, .slice none 0 0] ∧ OwnL W13 w.heap.size 57 2 (.slice ta 1 tc) [[.string (strOf nm), .string (strOf (a ++ b))]] ∧ After w W13) from by
                have hr2 : RowIs W12 g2 26 [.slice none 0 0, .slice none 0 0, .slice none 0 0] := H8.out.1.below (AW11.trans q3) H8.out.1.lt
                have aw := H8.out.2.2.2.2.1.trans (AW11.trans q3)
                refine ⟨r13, k13.row hr2 HR.out.2.2.2.1, (q2.same (fun b hb => ?_)).mono (H8.out.2.2.2.2.1.trans AW11).size, ?_⟩
                · obtain ⟨_, hl, cs, hr⟩ := own_lt q2.2 hb
                  exact k13.block b hl (fun e => by have e : b = g3 := e; rw [e] at hr; exact absurd (hr.ty r12).1 (by decide))
                · rw [← hW13]
                  exact Below.setCell aw (p := ⟨g3, 2, none⟩) HR.out.2.2.2.2.2 _
              clear q1 q2 q3 r12 k13 r13 hW13 RW11 AW11 a9 hg11 hW11 l8 l9 l11 d8 hS0
              go_simp
              go_wp2_with fail
              go_roundw
              case rel => exact .inr ⟨by go_num, ta, tc, H13⟩
              case measure => simp [intOf]
        · go_wp2_with (first
            | (refine wpList_load_row rfl 26 (.tmp 3) rfl g3 rfl 26 #[.slice none 0 0, .slice none 0 0, .slice ta 1 tc] (0, 0) _ HF.out.1 Try.underlying26 rfl (size26 _ _ _) ?_)
            | (refine wpList_store_row rfl 26 (.tmp 2) (.tmp 86) rfl g2 #[.slice none 0 0, .slice none 0 0, .slice ta 1 tc] rfl rfl 26 _ HF.out.2.1 (size26 _ _ _) rfl (by simp [Value.oneCell']) ?_))
          have hg : RowIs (wr.setRow g2 #[.slice none 0 0, .slice none 0 0, .slice ta 1 tc]) g2 26 [.slice none 0 0, .slice none 0 0, .slice ta 1 tc] := HF.out.2.1.setRow _
          refine ⟨rfl, _, ret26 Try.results17 _ _ g2 _ _ _ rfl hg, ta, tc, rfl, HF.out.2.2.1.same (fun b hb => ?_), Below.row HF.out.2.2.2 HR.out.2.2.2.2.1 _⟩
          obtain ⟨_, _, cs, hr⟩ := own_lt HF.out.2.2.1.2 hb
          exact Go.setRow_other _ _ _ _ (fun e => by rw [e] at hr; exact absurd (hr.ty HF.out.2.1).1 (by decide))
end Go.Proofs.Ytiihdhnmgbhgkaa
