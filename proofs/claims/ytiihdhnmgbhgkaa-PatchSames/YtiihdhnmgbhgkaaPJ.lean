/-
  applyText (39): a text that stays.
-/
import Derived.Test.YtiihdhnmgbhgkaaPI
namespace Go.Proofs.Ytiihdhnmgbhgkaa
open Go.RowKit Go.Maps Dsk
attribute [local go_sem] Oper.semAt_some
theorem MpAt.ne {W : World} {mb g : Nat} {l : List (Nm × Value)} {t : TypeId} {cs : List Value} (h : MpAt W mb l) (hr : RowIs W g t cs) : mb ≠ g := fun e => by
  obtain ⟨es, clock, hb, _⟩ := h.own
  unfold RowIs at hr
  rw [← e, hb] at hr
  cases hr
theorem DrAt.kept {F : Nat → Prop} {W W' : World} {B gd me mc mt : Nat} {E C T : List (Nm × Value)} (h : DrAt W B gd me mc mt E C T) (hk : KeptF F W W') (hF : ∀ j, F j → ∃ t cs, RowIs W j t cs ∧ t ≠ 81) : DrAt W' B gd me mc mt E C T := by
  have hm : ∀ {mb : Nat} {l : List (Nm × Value)}, MpAt W mb l → MpAt W' mb l := fun {mb l} hm => ⟨ownsMap_same hm.own (hk.block mb hm.own.lt (fun q => by obtain ⟨t, cs, hr, _⟩ := hF _ q; exact hm.ne hr rfl)), hm.ris⟩
  exact ⟨hk.row h.row (fun q => by obtain ⟨t, cs, hr, ht⟩ := hF _ q; exact ht (hr.ty h.row).1), hm h.e, hm h.c, hm h.t, h.ne, h.ge⟩
theorem from56_any {w : World} {base : Nat} {ao : Option Addr} {n c k : Nat} {a b : Nm} (h : Own w base (.slice ao n c) a) (hk : k ≤ a.length + b.length) (hb : a.length + b.length ≤ 140737488355328) (hbase : base ≤ w.heap.size) :
    Calls Try.prog 56 #[.agg #[.slice ao n c, .string (strOf b)], .int .i64 (k : Int)] w fun e w' => ∃ va vn vc, e = .returned (.agg #[.slice va vn vc, .string (strOf ((a ++ b).drop k))]) ∧ Own w' base (.slice va vn vc) ((a ++ b).take k) ∧ KeptF (fun j => (Value.slice ao n c).ownBlock = some j) w w' := by
  by_cases hlt : k < a.length
  · refine Calls.mono (from56_in h hlt (by omega)) (fun e w' ⟨he, ho, ha⟩ => ⟨ao, k, c, ?_, ?_, KeptF.of_after ha⟩)
    · rw [he, List.drop_append_of_le_length (by omega)]
    · rw [List.take_append_of_le_length (by omega)]; exact ho
  · refine Calls.mono (from56_out h (by omega) hk hb hbase) (fun e w' ⟨va, vn, vc, he, ho, ha⟩ => ⟨va, vn, vc, ?_, ?_, ha⟩)
    · have e1 : a.drop k = [] := List.drop_of_length_le (by omega)
      rw [he, List.drop_append, e1, List.nil_append]
    · have e2 : a.take k = a := List.take_of_length_le (by omega)
      rw [List.take_append, e2]; exact ho
theorem zero75 (w : World) : (zeroValue 75).run Try.prog w = .ok (.agg #[.slice none 0 0, .string (strOf [])]) w := by kernel_rfl
def zT : Value := .agg #[.slice none 0 0, .string (strOf [])]
theorem look72 {w : World} {mb n : Nat} {l : List (Nm × Value)} (hown : w.ownsMap Try.prog 9 Rv mb n (.map (toE l))) {nm : Nm} (hl : nm.length ≤ maxLen) {v : Value} (hg : (fget nm l).getD zT = v) :
    (Instr.lookup 72 (.map (some mb)) (.string (strOf nm)) false).run Try.prog w = .ok v w := by
  obtain ⟨v', ps, hrun, hv⟩ := hown.lookup law9 Try.underlying72 (zero75 w) (zd := .held zT) (zp := []) rfl (key9 nm hl)
  have := Rv_inv hv
  rw [at_E] at this
  have e : v' = v := by
    rw [← hg]
    cases hf : fget nm l with
    | none => rw [hf] at this; simp at this; exact this.symm
    | some u => rw [hf] at this; simp at this; exact this.symm
  rw [← e]
  exact hrun
section
variable {oi : Oper} {a : Act} {w : World}
theorem x_look72 {m x : Operand} {mb n : Nat} {l : List (Nm × Value)} {nm : Nm} {v : Value} (hop : oi.op = .lookup 72 m x false) (hm : a.eval m = .map (some mb)) (hx : a.eval x = .string (strOf nm)) (hown : w.ownsMap Try.prog 9 Rv mb n (.map (toE l))) (hl : nm.length ≤ maxLen) (hg : (fget nm l).getD zT = v) : (execOp a.eval oi).run Try.prog w = .ok (.value v) w := by
  unfold execOp
  simp only [hop, hm, hx, Sem.run_bind, look72 hown hl hg, Result.andThen_ok]
  rfl
theorem x_ld75 {x : Operand} {g : Nat} {u v : Value} (hop : oi.op = .load 75 x) (hx : a.eval x = .pointer (some ⟨g, 0, none⟩)) (hr : RowIs w g 75 [u, v]) : (execOp a.eval oi).run Try.prog w = .ok (.value (.agg #[u, v])) w := by
  unfold execOp
  simp only [hop, hx, Instr.loadAt, Instr.sureAddr, Sem.run_bind, Sem.run_pure, Result.andThen_ok, run_loadVar_row w g 75 75 #[u, v] (0, 0) _ hr Try.underlying75 rfl (size75 u v)]
theorem x_lss0 {x : Operand} {k : Nat} (hop : oi.op = .binOp .lss 3 x (.const (.int .i64 0)) 3) (hx : a.eval x = .int .i64 (k : Int)) : (execOp a.eval oi).run Try.prog w = .ok (.value (.bool false)) w := by
  have hk : a.eval (.const (.int .i64 0)) = .int .i64 0 := rfl
  unfold execOp; simp only [hop, hx, hk]
  simp [go_sem]
theorem x_gtrF {x y : Operand} {p q : Nat} (h : p ≤ q) (hop : oi.op = .binOp .gtr 3 x y 3) (hx : a.eval x = .int .i64 (p : Int)) (hy : a.eval y = .int .i64 (q : Int)) : (execOp a.eval oi).run Try.prog w = .ok (.value (.bool false)) w := by
  unfold execOp; simp only [hop, hx, hy]
  simp [go_sem]; omega
theorem x_st9 {x y : Operand} {g p : Nat} {s : ByteArray} {u : Value} (hop : oi.op = .store 9 x y) (hx : a.eval x = .pointer (some ⟨g, p, none⟩)) (hy : a.eval y = .string s) (hc : w.cell? ⟨g, p, none⟩ = some u) (hf : w.frozen? ⟨g, p, none⟩ = false) : (execOp a.eval oi).run Try.prog w = .ok .skip (w.setCell ⟨g, p, none⟩ (.string s)) := by
  unfold execOp
  simp only [hop, hx, hy]
  simp [go_sem, hc, hf, Instr.storeAt, Instr.sureAddr]
theorem x_st73 {x y : Operand} {g p : Nat} {va : Option Addr} {m c : Nat} {u : Value} (hop : oi.op = .store 73 x y) (hx : a.eval x = .pointer (some ⟨g, p, none⟩)) (hy : a.eval y = .slice va m c) (hc : w.cell? ⟨g, p, none⟩ = some u) (hf : w.frozen? ⟨g, p, none⟩ = false) : (execOp a.eval oi).run Try.prog w = .ok .skip (w.setCell ⟨g, p, none⟩ (.slice va m c)) := by
  unfold execOp
  simp only [hop, hx, hy]
  simp [go_sem, hc, hf, Instr.storeAt, Instr.sureAddr]
end
section
variable {ops : Array Oper} {Q : Exit → Act → World → Prop} {T : World → Prop} {fuel : Nat} {listed : Array Bool} {a : Act} {w : World} {oi : Oper}
/-- Number i, which alone may come up, stores into the map. -/
theorem tkPut (i : Nat) (m x v : Operand) (mb n : Nat) (l : List (Nm × Value)) (nm : Nm) (val : Value) (hi : ops[i]? = some oi) (hd : oi.dst = none) (ho : oi.op = .mapUpdate 72 m x v) (hr : Region.ready .any ops listed = [i])
    (hw : Region.wanted oi (yielded ops a.tmps) = true) (hm : a.eval m = .map (some mb)) (hx : a.eval x = .string (strOf nm)) (hv : a.eval v = val)
    (hown : w.ownsMap Try.prog 9 Rv mb n (.map (toE l))) (hn : n < maxLen) (hl : nm.length ≤ maxLen)
    (h : ∀ w', w'.ownsMap Try.prog 9 Rv mb (n + 1) (.map (toE (fput nm val l))) → w.grownBy w' (some mb) → T w' ∧ wpAnyH Try.prog .any ops Q T fuel (listed.setIfInBounds i true) (a.put none undef) w') : wpAnyH Try.prog .any ops Q T (fuel + 1) listed a w :=
  wpAnyH_all hr (by simp) (fun j hj => by
    obtain rfl : j = i := by simpa using hj
    refine wpOp_step hi (fun K' hK => ?_)
    rw [if_pos hw]
    obtain ⟨w', hrun, h1, h2⟩ := hown.update law9 Try.underlying72 hn (key9 nm hl) (val := val) (d := .held val) (ps := []) rfl
    rw [put_E] at h1
    unfold Oper.wp
    simp [execOp, ho, hm, hx, hv, hrun, Result.andThen]
    show K' (a.put oi.dst undef) w'
    rw [hd]
    exact hK _ _ (h w' h1 h2))
end
structure AtS (W : World) (B gd me mc mt : Nat) (E C T : List (Nm × Value)) (g3 g5 : Nat) (x : Px) (u v : Value) : Prop where
  r3 : RowIs W g3 46 (pxc x)
  r5 : RowIs W g5 75 [u, v]
  dr : DrAt W B gd me mc mt E C T
section
variable {W W' : World} {B gd me mc mt : Nat} {E C T : List (Nm × Value)} {g3 g5 : Nat} {x : Px} {u v : Value}
theorem AtS.put5 (h : AtS W B gd me mc mt E C T g3 g5 x u v) (hk : KeptF (fun b => b = g5) W W') {u' v' : Value} (hr : RowIs W' g5 75 [u', v']) : AtS W' B gd me mc mt E C T g3 g5 x u' v' :=
  ⟨hk.row h.r3 (fun q => by have q : g3 = g5 := q; have h5 := h.r5; rw [← q] at h5; exact absurd (h.r3.ty h5).1 (by decide)), hr, h.dr.kept hk (fun j hj => ⟨75, [u, v], by have hj : j = g5 := hj; rw [hj]; exact h.r5, by decide⟩)⟩
theorem AtS.row5 {F : Nat → Prop} (h : AtS W B gd me mc mt E C T g3 g5 x u v) (hk : KeptF F W W') (hF : ∀ j, F j → ∃ cs, RowIs W j 5 cs) : AtS W' B gd me mc mt E C T g3 g5 x u v :=
  ⟨hk.row h.r3 (fun q => by obtain ⟨cs, hr⟩ := hF _ q; exact absurd (hr.ty h.r3).1 (by decide)), hk.row h.r5 (fun q => by obtain ⟨cs, hr⟩ := hF _ q; exact absurd (hr.ty h.r5).1 (by decide)), h.dr.kept hk (fun j hj => by obtain ⟨cs, hr⟩ := hF _ hj; exact ⟨5, cs, hr, by decide⟩)⟩
theorem AtS.after (h : AtS W B gd me mc mt E C T g3 g5 x u v) (ha : After W W') : AtS W' B gd me mc mt E C T g3 g5 x u v := ⟨h.r3.below ha h.r3.lt, h.r5.below ha h.r5.lt, h.dr.after ha⟩
end
theorem Own.put5 {W W' : World} {B : Nat} {sl : Value} {bs : Nm} {g5 : Nat} {t : TypeId} {cs : List Value} (h : Own W B sl bs) (hr : RowIs W g5 t cs) (ht : t ≠ 5) (hk : KeptF (fun b => b = g5) W W') : Own W' B sl bs := h.same (fun g hg => by
  obtain ⟨_, hl, cs', hr'⟩ := own_lt h hg
  exact hk.block g hl (fun q => by have q : g = g5 := q; rw [q] at hr'; exact ht (hr.ty hr').1))
theorem kept_setRow {W : World} {g : Nat} (cs : Array Value) : KeptF (fun b => b = g) W (W.setRow g cs) := ⟨rfl, rfl, rfl, by simp, fun b _ hb => Go.setRow_other _ _ _ _ hb⟩
theorem own_five {W : World} {B : Nat} {sl : Value} {bs : Nm} (h : Own W B sl bs) : ∀ j, sl.ownBlock = some j → ∃ cs, RowIs W j 5 cs := fun _ hj => (own_lt h hj).2.2
theorem x_nz {oi : Oper} {a : Act} {w : World} {x : Operand} {p : Nat} (h : 0 < p) (hop : oi.op = .binOp .eql 3 x (.const (.int .i64 0)) 3) (hx : a.eval x = .int .i64 (p : Int)) : (execOp a.eval oi).run Try.prog w = .ok (.value (.bool false)) w := by
  have hk : a.eval (.const (.int .i64 0)) = .int .i64 0 := rfl
  unfold execOp; simp only [hop, hx, hk]
  simp [go_sem]; omega
set_option maxRecDepth 100000 in
set_option maxHeartbeats 12800000 in
theorem applyText39 {w : World} {B gd me mc mt : Nat} {E C T : List (Nm × Value)} (h : DrAt w B gd me mc mt E C T) {x : Px} {ao : Option Addr} {n c k q : Nat} {a b : Nm} (hg : (fget x.p.name T).getD zT = .agg #[.slice ao n c, .string (strOf b)]) (ho : Own w B (.slice ao n c) a) (hBw : B ≤ w.heap.size)
    (hnm : x.p.name.length ≤ 1000) (hgone : x.p.gone = false) (hat : x.p.at_ = (k : Int)) (hcut : x.p.cut = (q : Int)) (hk : k ≤ a.length + b.length) (hq : q ≤ a.length + b.length - k) (hsz : a.length + b.length + x.p.put.length ≤ 1000000) (hT : T.length ≤ 1000000) (hne : 0 < ((a ++ b).take k ++ x.p.put).length + (((a ++ b).drop k).drop q).length) :
    Calls Try.prog 39 #[.pointer (some ⟨gd, 0, none⟩), .agg (pxc x).toArray] w fun e w' => ∃ va vn vc, e = .returned (.int .i64 0) ∧ DrAt w' B gd me mc mt E C (fput x.p.name (.agg #[.slice va vn vc, .string (strOf (((a ++ b).drop k).drop q))]) T) ∧ Own w' B (.slice va vn vc) ((a ++ b).take k ++ x.p.put) ∧ KeptF (fun j => B ≤ j) w w' := by
  have hn : a.length = n := by
    obtain ⟨ao', cap, e, _⟩ := ho.at
    injection e with _ e2 _
    exact e2.symm
  obtain ⟨W0, hW0⟩ : ∃ W0, w.alloc (.cells (pxc x).toArray 46) = W0 := ⟨_, rfl⟩
  obtain ⟨g3, hg3⟩ : ∃ g3, w.heap.size = g3 := ⟨_, rfl⟩
  obtain ⟨g5, hg5⟩ : ∃ g5, W0.drew.heap.size = g5 := ⟨_, rfl⟩
  have a0 : After w W0 := by rw [← hW0]; exact after_alloc (After.refl w) _
  have HB : Hid (RowIs W0 g3 46 (pxc x)) := by show RowIs _ _ _ _; rw [← hW0, ← hg3]; exact RowIs.new w 46 _
  have HD : Hid (DrAt W0 B gd me mc mt E C T) := h.after a0
  have HNM : Hid (x.p.name.length ≤ maxLen ∧ (fget x.p.name T).getD zT = .agg #[.slice ao n c, .string (strOf b)]) := ⟨by unfold maxLen; omega, hg⟩
  obtain ⟨W2, hW2⟩ : ∃ W2, (W0.drew.alloc (.cells #[.slice none 0 0, .string (strOf [])] 75)).setRow g5 #[.slice ao n c, .string (strOf b)] = W2 := ⟨_, rfl⟩
  have HZ : Hid (RowIs (W0.drew.alloc (.cells #[.slice none 0 0, .string (strOf [])] 75)) g5 75 [.slice none 0 0, .string (strOf [])]) := by show RowIs _ _ _ _; rw [← hg5]; exact RowIs.new W0.drew 75 _
  have a02 : After W0 W2 := by
    rw [← hW2]
    exact Below.row (after_alloc (After.drew (After.refl W0)) _) (by rw [← hg5]; exact (After.drew (After.refl W0)).size) _
  have HW2 : Hid (After W0 W2 ∧ RowIs W2 g3 46 (pxc x) ∧ RowIs W2 g5 75 [.slice ao n c, .string (strOf b)] ∧ DrAt W2 B gd me mc mt E C T ∧ Own W2 B (.slice ao n c) a ∧ After w W2) := ⟨a02, HB.out.below a02 HB.out.lt, by rw [← hW2]; exact HZ.out.setRow _, HD.out.after a02, ho.below (a0.trans a02) (Nat.le_refl _), a0.trans a02⟩
  have HSZ : Hid (n + b.length ≤ 9223372036854775807) := by show _ ≤ _; omega
  have HKQ : Hid (k ≤ n + b.length ∧ q ≤ n + b.length - k) := ⟨by omega, by omega⟩
  have HCE : Hid ((pxc x)[4]? = some (.bool false) ∧ (pxc x)[5]? = some (.int .i64 (k : Int)) ∧ (pxc x)[6]? = some (.int .i64 (q : Int))) := by
    refine ⟨?_, ?_, ?_⟩
    · show some (Value.bool x.p.gone) = _; rw [hgone]
    · show some (Value.int .i64 x.p.at_) = _; rw [hat]
    · show some (Value.int .i64 x.p.cut) = _; rw [hcut]
  have HG3 : Hid (w.heap.size ≤ g3 ∧ w.heap.size ≤ g5 ∧ g3 < g5) := ⟨by omega, by rw [← hg5]; exact a0.size, by rw [← hg5]; exact HB.out.lt⟩
  have HFA : Hid (Own w B (.slice ao n c) a ∧ a.length = n ∧ k ≤ a.length + b.length ∧ a.length + b.length + x.p.put.length ≤ 1000000 ∧ B ≤ w.heap.size ∧ T.length ≤ 1000000 ∧ q ≤ a.length + b.length - k ∧ 0 < ((a ++ b).take k ++ x.p.put).length + (((a ++ b).drop k).drop q).length) := ⟨ho, hn, hk, hsz, hBw, hT, hq, hne⟩
  clear h hg ho hBw hnm hgone hat hcut hk hq hsz hT hne a0 a02 hn
  go_enter Try.func39, Try.ntmps39
  go_wp2_with (first
    | (rw [hW0]))
  refine wp_region_noPanic ?_
  refine wp_region_held_drew (S := After W0) (by kernel_rfl) (After.drew (After.refl _)) ?_
  intro hS0
  refine tk 0 6 (.pointer (some ⟨gd, 0, none⟩)) (fuel := 8) rfl (by kernel_rfl) (by kernel_rfl) (by kernel_rfl) (by kernel_rfl) noPanic_false (by kernel_rfl) (fun _ _ => by kernel_rfl) hS0 ?_
  refine tk 1 7 (.pointer (some ⟨gd, 0, none⟩)) (fuel := 7) rfl (by kernel_rfl) (by kernel_rfl) (by kernel_rfl) (by kernel_rfl) noPanic_false (by kernel_rfl) (fun _ _ => by kernel_rfl) hS0 ?_
  refine tk 2 8 (.pointer (some ⟨gd, 2, none⟩)) (fuel := 6) rfl (by kernel_rfl) (by kernel_rfl) (by kernel_rfl) (by kernel_rfl) noPanic_false (by kernel_rfl) (fun _ _ => by kernel_rfl) hS0 ?_
  refine tk 3 9 (.map (some mt)) (fuel := 5) rfl (by kernel_rfl) (by kernel_rfl) (by kernel_rfl) (by kernel_rfl) noPanic_false (by kernel_rfl) (fun W hW => x_loadT (x := .tmp 8) (t := 72) (g := gd) (j := 2) Try.underlying72 rfl (by kernel_rfl) (by kernel_rfl) ((HD.out.after hW).row.cell (j := 2) rfl)) hS0 ?_
  refine tk 4 10 (.pointer (some ⟨g3, 1, none⟩)) (fuel := 4) rfl (by kernel_rfl) (by kernel_rfl) (by kernel_rfl) (by kernel_rfl) noPanic_false (by kernel_rfl) (fun _ _ => by kernel_rfl) hS0 ?_
  refine tk 5 11 (.string (strOf x.p.name)) (fuel := 3) rfl (by kernel_rfl) (by kernel_rfl) (by kernel_rfl) (by kernel_rfl) noPanic_false (by kernel_rfl) (fun W hW => x_loadT (x := .tmp 10) (t := 9) (g := g3) (j := 1) Try.underlying9 rfl (by kernel_rfl) (by kernel_rfl) ((HB.out.below hW HB.out.lt).cell (j := 1) rfl)) hS0 ?_
  refine tk 6 12 (.agg #[.slice ao n c, .string (strOf b)]) (fuel := 2) rfl (by kernel_rfl) (by kernel_rfl) (by kernel_rfl) (by kernel_rfl) noPanic_false (by kernel_rfl) (fun W hW => x_look72 (m := .tmp 9) (x := .tmp 11) (by kernel_rfl) (by kernel_rfl) (by kernel_rfl) (HD.out.after hW).t.own HNM.out.1 HNM.out.2) hS0 ?_
  refine tkRunS 7 5 (.pointer (some ⟨g5, 0, none⟩)) (W0.drew.alloc (.cells #[.slice none 0 0, .string (strOf [])] 75)) (fuel := 1) rfl (by kernel_rfl) (by kernel_rfl) (by kernel_rfl) ((x_al75 (by kernel_rfl)).trans (by rw [hg5])) (after_alloc hS0 _) ?_
  refine tkStore 8 g5 75 (.tmp 5) (.tmp 12) #[.slice ao n c, .string (strOf b)] #[.slice none 0 0, .string (strOf [])] 75 (fuel := 0) rfl (by kernel_rfl) (by kernel_rfl) (by kernel_rfl) (by kernel_rfl) (by kernel_rfl) (by kernel_rfl) (show RowIs _ g5 75 _ from HZ.out) (size75 _ _) rfl (by simp [Value.oneCell']) (by rw [hW2]; exact HW2.out.1) ?_
  refine wpAnyH_done (by kernel_rfl) (NoPanic.normal ?_) _
  rw [hW2]
  clear hS0
  go_simp
  go_wp2_with fail
  refine wp_region_noPanic ?_
  refine wp_region_held_drew (S := After W2) (by kernel_rfl) (After.drew (After.refl _)) ?_
  intro hS0
  refine tk 0 13 (.pointer (some ⟨g3, 4, none⟩)) (fuel := 28) rfl (by kernel_rfl) (by kernel_rfl) (by kernel_rfl) (by kernel_rfl) noPanic_false (by kernel_rfl) (fun _ _ => by kernel_rfl) hS0 ?_
  refine tk 1 14 (.bool false) (fuel := 27) rfl (by kernel_rfl) (by kernel_rfl) (by kernel_rfl) (by kernel_rfl) noPanic_false (by kernel_rfl) (fun W hW => x_loadT (x := .tmp 13) (t := 4) (g := g3) (j := 4) Try.underlying4 rfl (by kernel_rfl) (by kernel_rfl) ((HW2.out.2.1.below hW HW2.out.2.1.lt).cell (j := 4) HCE.out.1)) hS0 ?_
  refine tk 2 15 (.bool false) (fuel := 26) rfl (by kernel_rfl) (by kernel_rfl) (by kernel_rfl) (by kernel_rfl) noPanic_false (by kernel_rfl) (fun _ _ => by kernel_rfl) hS0 ?_
  refine tk 3 16 (.pointer (some ⟨g3, 5, none⟩)) (fuel := 25) rfl (by kernel_rfl) (by kernel_rfl) (by kernel_rfl) (by kernel_rfl) noPanic_false (by kernel_rfl) (fun _ _ => by kernel_rfl) hS0 ?_
  refine tk 4 17 (.int .i64 (k : Int)) (fuel := 24) rfl (by kernel_rfl) (by kernel_rfl) (by kernel_rfl) (by kernel_rfl) noPanic_false (by kernel_rfl) (fun W hW => x_loadT (x := .tmp 16) (t := 3) (g := g3) (j := 5) Try.underlying3 rfl (by kernel_rfl) (by kernel_rfl) ((HW2.out.2.1.below hW HW2.out.2.1.lt).cell (j := 5) HCE.out.2.1)) hS0 ?_
  refine tk 5 18 (.bool false) (fuel := 23) rfl (by kernel_rfl) (by kernel_rfl) (by kernel_rfl) (by kernel_rfl) noPanic_false (by kernel_rfl) (fun W _ => x_lss0 (x := .tmp 17) (k := k) (by kernel_rfl) (by kernel_rfl)) hS0 ?_
  refine tk 6 19 (.bool false) (fuel := 22) rfl (by kernel_rfl) (by kernel_rfl) (by kernel_rfl) (by kernel_rfl) noPanic_false (by kernel_rfl) (fun _ _ => by kernel_rfl) hS0 ?_
  refine tk 7 20 (.bool false) (fuel := 21) rfl (by kernel_rfl) (by kernel_rfl) (by kernel_rfl) (by kernel_rfl) noPanic_false (by kernel_rfl) (fun _ _ => by kernel_rfl) hS0 ?_
  refine tk 8 21 (.pointer (some ⟨g3, 5, none⟩)) (fuel := 20) rfl (by kernel_rfl) (by kernel_rfl) (by kernel_rfl) (by kernel_rfl) noPanic_false (by kernel_rfl) (fun _ _ => by kernel_rfl) hS0 ?_
  refine tk 9 22 (.int .i64 (k : Int)) (fuel := 19) rfl (by kernel_rfl) (by kernel_rfl) (by kernel_rfl) (by kernel_rfl) noPanic_false (by kernel_rfl) (fun W hW => x_loadT (x := .tmp 21) (t := 3) (g := g3) (j := 5) Try.underlying3 rfl (by kernel_rfl) (by kernel_rfl) ((HW2.out.2.1.below hW HW2.out.2.1.lt).cell (j := 5) HCE.out.2.1)) hS0 ?_
  refine tk 10 23 (.agg #[.slice ao n c, .string (strOf b)]) (fuel := 18) rfl (by kernel_rfl) (by kernel_rfl) (by kernel_rfl) (by kernel_rfl) noPanic_false (by kernel_rfl) (fun W hW => x_ld75 (x := .tmp 5) (by kernel_rfl) (by kernel_rfl) (HW2.out.2.2.1.below hW HW2.out.2.2.1.lt)) hS0 ?_
  refine tkCallZ 11 24 55 #[.agg #[.slice ao n c, .string (strOf b)]] (fun v w' => v = .int .i64 ((n + b.length : Nat) : Int) ∧ After W2 w') (fuel := 17) rfl (by kernel_rfl) (by kernel_rfl) (by kernel_rfl) (fun _ => by kernel_rfl) (Calls.mono (size55 HSZ.out) (fun e w' ⟨he, ha⟩ => ⟨_, he, rfl, hS0.trans ha⟩)) ?_
  intro v3 w3 ⟨hv3, a3⟩
  subst hv3
  refine ⟨a3, ?_⟩
  refine tk 12 25 (.bool false) (fuel := 16) rfl (by kernel_rfl) (by kernel_rfl) (by kernel_rfl) (by kernel_rfl) noPanic_false (by kernel_rfl) (fun W _ => x_gtrF (x := .tmp 22) (y := .tmp 24) (p := k) (q := n + b.length) HKQ.out.1 (by kernel_rfl) (by kernel_rfl) (by kernel_rfl)) a3 ?_
  refine tk 13 26 (.bool false) (fuel := 15) rfl (by kernel_rfl) (by kernel_rfl) (by kernel_rfl) (by kernel_rfl) noPanic_false (by kernel_rfl) (fun _ _ => by kernel_rfl) a3 ?_
  refine tk 14 27 (.bool false) (fuel := 14) rfl (by kernel_rfl) (by kernel_rfl) (by kernel_rfl) (by kernel_rfl) noPanic_false (by kernel_rfl) (fun _ _ => by kernel_rfl) a3 ?_
  refine tk 15 28 (.pointer (some ⟨g3, 6, none⟩)) (fuel := 13) rfl (by kernel_rfl) (by kernel_rfl) (by kernel_rfl) (by kernel_rfl) noPanic_false (by kernel_rfl) (fun _ _ => by kernel_rfl) a3 ?_
  refine tk 16 29 (.int .i64 (q : Int)) (fuel := 12) rfl (by kernel_rfl) (by kernel_rfl) (by kernel_rfl) (by kernel_rfl) noPanic_false (by kernel_rfl) (fun W hW => x_loadT (x := .tmp 28) (t := 3) (g := g3) (j := 6) Try.underlying3 rfl (by kernel_rfl) (by kernel_rfl) ((HW2.out.2.1.below hW HW2.out.2.1.lt).cell (j := 6) HCE.out.2.2)) a3 ?_
  refine tk 17 30 (.bool false) (fuel := 11) rfl (by kernel_rfl) (by kernel_rfl) (by kernel_rfl) (by kernel_rfl) noPanic_false (by kernel_rfl) (fun W _ => x_lss0 (x := .tmp 29) (k := q) (by kernel_rfl) (by kernel_rfl)) a3 ?_
  refine tk 18 31 (.bool false) (fuel := 10) rfl (by kernel_rfl) (by kernel_rfl) (by kernel_rfl) (by kernel_rfl) noPanic_false (by kernel_rfl) (fun _ _ => by kernel_rfl) a3 ?_
  refine tk 19 32 (.bool false) (fuel := 9) rfl (by kernel_rfl) (by kernel_rfl) (by kernel_rfl) (by kernel_rfl) noPanic_false (by kernel_rfl) (fun _ _ => by kernel_rfl) a3 ?_
  refine tk 20 33 (.pointer (some ⟨g3, 6, none⟩)) (fuel := 8) rfl (by kernel_rfl) (by kernel_rfl) (by kernel_rfl) (by kernel_rfl) noPanic_false (by kernel_rfl) (fun _ _ => by kernel_rfl) a3 ?_
  refine tk 21 34 (.int .i64 (q : Int)) (fuel := 7) rfl (by kernel_rfl) (by kernel_rfl) (by kernel_rfl) (by kernel_rfl) noPanic_false (by kernel_rfl) (fun W hW => x_loadT (x := .tmp 33) (t := 3) (g := g3) (j := 6) Try.underlying3 rfl (by kernel_rfl) (by kernel_rfl) ((HW2.out.2.1.below hW HW2.out.2.1.lt).cell (j := 6) HCE.out.2.2)) a3 ?_
  refine tk 22 35 (.agg #[.slice ao n c, .string (strOf b)]) (fuel := 6) rfl (by kernel_rfl) (by kernel_rfl) (by kernel_rfl) (by kernel_rfl) noPanic_false (by kernel_rfl) (fun W hW => x_ld75 (x := .tmp 5) (by kernel_rfl) (by kernel_rfl) (HW2.out.2.2.1.below hW HW2.out.2.2.1.lt)) a3 ?_
  refine tk 24 37 (.pointer (some ⟨g3, 5, none⟩)) (fuel := 5) rfl (by kernel_rfl) (by kernel_rfl) (by kernel_rfl) (by kernel_rfl) noPanic_false (by kernel_rfl) (fun _ _ => by kernel_rfl) a3 ?_
  refine tk 25 38 (.int .i64 (k : Int)) (fuel := 4) rfl (by kernel_rfl) (by kernel_rfl) (by kernel_rfl) (by kernel_rfl) noPanic_false (by kernel_rfl) (fun W hW => x_loadT (x := .tmp 37) (t := 3) (g := g3) (j := 5) Try.underlying3 rfl (by kernel_rfl) (by kernel_rfl) ((HW2.out.2.1.below hW HW2.out.2.1.lt).cell (j := 5) HCE.out.2.1)) a3 ?_
  refine tkCallZ 23 36 55 #[.agg #[.slice ao n c, .string (strOf b)]] (fun v w' => v = .int .i64 ((n + b.length : Nat) : Int) ∧ After W2 w') (fuel := 3) rfl (by kernel_rfl) (by kernel_rfl) (by kernel_rfl) (fun _ => by kernel_rfl) (Calls.mono (size55 HSZ.out) (fun e w' ⟨he, ha⟩ => ⟨_, he, rfl, a3.trans ha⟩)) ?_
  intro v4 w4 ⟨hv4, a4⟩
  subst hv4
  refine ⟨a4, ?_⟩
  refine tk 26 39 (.int .i64 ((n + b.length - k : Nat) : Int)) (fuel := 2) rfl (by kernel_rfl) (by kernel_rfl) (by kernel_rfl) (by kernel_rfl) noPanic_false (by kernel_rfl) (fun W _ => x_subn (x := .tmp 36) (y := .tmp 38) (p := n + b.length) (q := k) HKQ.out.1 HSZ.out (by kernel_rfl) (by kernel_rfl) (by kernel_rfl)) a4 ?_
  refine tk 27 40 (.bool false) (fuel := 1) rfl (by kernel_rfl) (by kernel_rfl) (by kernel_rfl) (by kernel_rfl) noPanic_false (by kernel_rfl) (fun W _ => x_gtrF (x := .tmp 34) (y := .tmp 39) (p := q) (q := n + b.length - k) HKQ.out.2 (by kernel_rfl) (by kernel_rfl) (by kernel_rfl)) a4 ?_
  refine tk 28 41 (.bool false) (fuel := 0) rfl (by kernel_rfl) (by kernel_rfl) (by kernel_rfl) (by kernel_rfl) noPanic_false (by kernel_rfl) (fun _ _ => by kernel_rfl) a4 ?_
  refine wpAnyH_done (by kernel_rfl) (NoPanic.normal ?_) _
  have HW4 := show Hid (RowIs w4 g3 46 (pxc x) ∧ RowIs w4 g5 75 [.slice ao n c, .string (strOf b)] ∧ DrAt w4 B gd me mc mt E C T ∧ Own w4 B (.slice ao n c) a ∧ After w w4) from ⟨HW2.out.2.1.below a4 HW2.out.2.1.lt, HW2.out.2.2.1.below a4 HW2.out.2.2.1.lt, HW2.out.2.2.2.1.after a4, HW2.out.2.2.2.2.1.below a4 (Nat.le_refl _), HW2.out.2.2.2.2.2.trans a4⟩
  clear hS0 a3 a4
  go_simp
  have c5 := HW4.out.1.cell HCE.out.2.1
  go_wp2_with (first
    | (refine wpList_of_run rfl (x_ld75 (x := .tmp 5) rfl (by kernel_rfl) HW4.out.2.1) ?_)
    | (go_at_call 56; refine Calls.mono (from56_any HW4.out.2.2.2.1 HFA.out.2.2.1 (by have := HFA.out.2.2.2.1; omega) (by have := HFA.out.2.2.2.2.1; have := HW4.out.2.2.2.2.size; omega)) ?_; rintro e w5 ⟨va, vn, vc, rfl, ho5, hk5⟩; apply of_stop))
  unfold Stp
  obtain ⟨s1, hs1⟩ : ∃ s1, (a ++ b).drop k = s1 := ⟨_, rfl⟩
  obtain ⟨t1, ht1⟩ : ∃ t1, (a ++ b).take k = t1 := ⟨_, rfl⟩
  obtain ⟨s2, hs2⟩ : ∃ s2, s1.drop q = s2 := ⟨_, rfl⟩
  rw [ht1] at ho5
  have H4 : AtS w4 B gd me mc mt E C T g3 g5 x (.slice ao n c) (.string (strOf b)) := ⟨HW4.out.1, HW4.out.2.1, HW4.out.2.2.1⟩
  have H5 := H4.row5 hk5 (own_five HW4.out.2.2.2.1)
  obtain ⟨W6, hW6⟩ : ∃ W6, w5.setRow g5 #[.slice va vn vc, .string (strOf s1)] = W6 := ⟨_, rfl⟩
  have k6 : KeptF (fun b => b = g5) w5 W6 := by rw [← hW6]; exact kept_setRow _
  have H6 : AtS W6 B gd me mc mt E C T g3 g5 x (.slice va vn vc) (.string (strOf s1)) := H5.put5 k6 (by rw [← hW6]; exact H5.r5.setRow _)
  have o6 := ho5.put5 H5.r5 (by decide) k6
  obtain ⟨W7, hW7⟩ : ∃ W7, W6.setCell ⟨g5, 1, none⟩ (.string (strOf s2)) = W7 := ⟨_, rfl⟩
  have k7 : KeptF (fun b => b = g5) W6 W7 := by rw [← hW7]; exact KeptF.set (F := fun b => b = g5) W6 ⟨g5, 1, none⟩ _ rfl
  have H7 : AtS W7 B gd me mc mt E C T g3 g5 x (.slice va vn vc) (.string (strOf s2)) := H6.put5 k7 (by rw [← hW7]; exact H6.r5.set 1 _)
  have o7 := o6.put5 H6.r5 (by decide) k7
  have lt1 : t1.length ≤ a.length + b.length := by rw [← ht1, List.length_take, List.length_append]; omega
  have hB7 : B ≤ W7.heap.size := Nat.le_trans HFA.out.2.2.2.2.1 (Nat.le_trans HW4.out.2.2.2.2.size (Nat.le_trans hk5.size (Nat.le_trans k6.size k7.size)))
  obtain ⟨pa, pn, pc, W8, hap, o8, hg8⟩ := app73 (s := x.p.put) o7 (by have := HFA.out.2.2.2.1; omega) hB7
  have k8 : KeptF (fun j => (Value.slice va vn vc).ownBlock = some j) W7 W8 := KeptF.of_grown hg8 (fun b hb => hb)
  have H8 := H7.row5 k8 (own_five o7)
  obtain ⟨W9, hW9⟩ : ∃ W9, W8.setCell ⟨g5, 0, none⟩ (.slice pa pn pc) = W9 := ⟨_, rfl⟩
  have k9 : KeptF (fun b => b = g5) W8 W9 := by rw [← hW9]; exact KeptF.set (F := fun b => b = g5) W8 ⟨g5, 0, none⟩ _ rfl
  have H9 : AtS W9 B gd me mc mt E C T g3 g5 x (.slice pa pn pc) (.string (strOf s2)) := H8.put5 k9 (by rw [← hW9]; exact H8.r5.set 0 _)
  have o9 := o8.put5 H8.r5 (by decide) k9
  have hpn : pn = t1.length + x.p.put.length := by
    obtain ⟨ao', cap, e, _⟩ := o9.at
    injection e with _ e2 _
    rw [e2, List.length_append]
  have kw : KeptF (fun j => B ≤ j) w W9 := by
    have hBw := HFA.out.2.2.2.2.1
    have q5 : ∀ j, j = g5 → B ≤ j := fun j hj => by have := HG3.out.2.1; omega
    have k1 : KeptF (fun j => B ≤ j) w w4 := KeptF.of_after HW4.out.2.2.2.2
    have k2 := k1.trans hk5 (fun j _ hj => (own_lt HW4.out.2.2.2.1 hj).1)
    have k3 := k2.trans k6 (fun j _ hj => q5 j hj)
    have k4 := k3.trans k7 (fun j _ hj => q5 j hj)
    have k5 := k4.trans k8 (fun j _ hj => (own_lt o7 hj).1)
    exact k5.trans k9 (fun j _ hj => q5 j hj)
  have HKW := show Hid _ from kw
  have HNT : Hid (gd ≠ mt ∧ g3 ≠ mt ∧ g5 ≠ mt) := ⟨(H9.dr.t.ne H9.dr.row).symm, (H9.dr.t.ne H9.r3).symm, (H9.dr.t.ne H9.r5).symm⟩
  have HAP := show Hid _ from hap
  have HG6 := show Hid _ from hW6
  have HG7 := show Hid _ from hW7
  have HG9 := show Hid _ from hW9
  have HW9 : Hid (AtS W9 B gd me mc mt E C T g3 g5 x (.slice pa pn pc) (.string (strOf s2)) ∧ Own W9 B (.slice pa pn pc) (t1 ++ x.p.put) ∧ pn = t1.length + x.p.put.length) := ⟨H9, o9, hpn⟩
  have HTL : Hid (T.length < maxLen) := by have := HFA.out.2.2.2.2.2.1; show _ < _; unfold maxLen; omega
  have HQ1 : Hid (q ≤ s1.length) := by have := HFA.out.2.2.2.2.2.2.1; show _ ≤ _; rw [← hs1, List.length_drop, List.length_append]; exact this
  have HE := show Hid _ from hs2
  have HH5 := show Hid _ from H5.r5
  have HC7 : Hid (W6.cell? ⟨g5, 1, none⟩ = some (.string (strOf s1)) ∧ W6.frozen? ⟨g5, 1, none⟩ = false) := ⟨H6.r5.cell rfl, H6.r5.frozen 1⟩
  have HC9 : Hid (W8.cell? ⟨g5, 0, none⟩ = some (.slice va vn vc) ∧ W8.frozen? ⟨g5, 0, none⟩ = false) := ⟨H8.r5.cell rfl, H8.r5.frozen 0⟩
  have e6 := H6.r3.cell HCE.out.2.2
  have e7 := H7.r3.cell (j := 7) rfl
  have e8 := H7.r5.cell (j := 0) rfl
  have e9 := H6.r5.cell (j := 1) rfl
  rw [hs1]
  clear kw hap hW6 hW7 hW9 k6 k7 k8 k9 H4 H5 H6 H7 H8 H9 o6 o7 o8 o9 hg8 ho5 hk5 hpn lt1 hB7 hs2
  go_wp2_with (first
    | (refine wpList_store_row rfl 75 (.tmp 5) (.tmp 45) rfl g5 #[.slice va vn vc, .string (strOf s1)] rfl rfl 75 _ HH5.out (size75 _ _) rfl (by simp [Value.oneCell']) ?_; rw [HG6.out])
    | (refine wpList_of_run rfl (x_sl9l (x := .tmp 47) (y := .tmp 49) (l := s1) (k := q) rfl (by kernel_rfl) (by kernel_rfl) HQ1.out) ?_; rw [HE.out])
    | (refine wpList_st rfl (x_st9 (x := .tmp 51) (y := .tmp 50) (g := g5) (p := 1) (s := strOf s2) rfl (by kernel_rfl) (by kernel_rfl) HC7.out.1 HC7.out.2) ?_; rw [HG7.out])
    | (refine wpList_of_run rfl (x_appS (s := .tmp 53) (x := .tmp 55) rfl (by kernel_rfl) (by kernel_rfl) HAP.out) ?_)
    | (refine wpList_st rfl (x_st73 (x := .tmp 57) (y := .tmp 56) (g := g5) (p := 0) (va := pa) (m := pn) (c := pc) rfl (by kernel_rfl) (by kernel_rfl) HC9.out.1 HC9.out.2) ?_; rw [HG9.out]))
  refine wp_region_noPanic ?_
  refine wp_region_held_drew (S := KeptF (fun b => b = mt) W9) (by kernel_rfl) (KeptF.of_after (After.drew (After.refl _))) ?_
  intro hS0
  refine tk 0 58 (.pointer (some ⟨gd, 0, none⟩)) (fuel := 7) rfl (by kernel_rfl) (by kernel_rfl) (by kernel_rfl) (by kernel_rfl) noPanic_false (by kernel_rfl) (fun _ _ => by kernel_rfl) hS0 ?_
  refine tk 1 59 (.pointer (some ⟨gd, 0, none⟩)) (fuel := 6) rfl (by kernel_rfl) (by kernel_rfl) (by kernel_rfl) (by kernel_rfl) noPanic_false (by kernel_rfl) (fun _ _ => by kernel_rfl) hS0 ?_
  refine tk 2 60 (.pointer (some ⟨gd, 2, none⟩)) (fuel := 5) rfl (by kernel_rfl) (by kernel_rfl) (by kernel_rfl) (by kernel_rfl) noPanic_false (by kernel_rfl) (fun _ _ => by kernel_rfl) hS0 ?_
  refine tk 3 61 (.map (some mt)) (fuel := 4) rfl (by kernel_rfl) (by kernel_rfl) (by kernel_rfl) (by kernel_rfl) noPanic_false (by kernel_rfl) (fun W hW => x_loadT (x := .tmp 60) (t := 72) (g := gd) (j := 2) Try.underlying72 rfl (by kernel_rfl) (by kernel_rfl) ((hW.row HW9.out.1.dr.row HNT.out.1).cell (j := 2) rfl)) hS0 ?_
  refine tk 4 62 (.pointer (some ⟨g3, 1, none⟩)) (fuel := 3) rfl (by kernel_rfl) (by kernel_rfl) (by kernel_rfl) (by kernel_rfl) noPanic_false (by kernel_rfl) (fun _ _ => by kernel_rfl) hS0 ?_
  refine tk 5 63 (.string (strOf x.p.name)) (fuel := 2) rfl (by kernel_rfl) (by kernel_rfl) (by kernel_rfl) (by kernel_rfl) noPanic_false (by kernel_rfl) (fun W hW => x_loadT (x := .tmp 62) (t := 9) (g := g3) (j := 1) Try.underlying9 rfl (by kernel_rfl) (by kernel_rfl) ((hW.row HW9.out.1.r3 HNT.out.2.1).cell (j := 1) rfl)) hS0 ?_
  refine tk 6 64 (.agg #[.slice pa pn pc, .string (strOf s2)]) (fuel := 1) rfl (by kernel_rfl) (by kernel_rfl) (by kernel_rfl) (by kernel_rfl) noPanic_false (by kernel_rfl) (fun W hW => x_ld75 (x := .tmp 5) (by kernel_rfl) (by kernel_rfl) (hW.row HW9.out.1.r5 HNT.out.2.2)) hS0 ?_
  refine tkPut 7 (.tmp 61) (.tmp 63) (.tmp 64) mt T.length T x.p.name (.agg #[.slice pa pn pc, .string (strOf s2)]) (fuel := 0) rfl (by kernel_rfl) (by kernel_rfl) (by kernel_rfl) (by kernel_rfl) (by kernel_rfl) (by kernel_rfl) (by kernel_rfl) (HW9.out.1.after (After.drew (After.refl W9))).dr.t.own HTL.out HNM.out.1 ?_
  intro w10 hm10 hg10
  have ad : After W9 W9.drew := After.drew (After.refl W9)
  have k10 : KeptF (fun b => b = mt) W9 w10 := (KeptF.of_after (F := fun b => b = mt) ad).trans (KeptF.of_grown (F := fun b => b = mt) hg10 (fun b hb => by cases hb; rfl)) (fun _ _ h => h)
  refine ⟨k10, ?_⟩
  refine wpAnyH_done (by kernel_rfl) (NoPanic.normal ?_) _
  have H10 : Hid (RowIs w10 g5 75 [.slice pa pn pc, .string (strOf s2)] ∧ DrAt w10 B gd me mc mt E C (fput x.p.name (.agg #[.slice pa pn pc, .string (strOf s2)]) T) ∧ Own w10 B (.slice pa pn pc) (t1 ++ x.p.put) ∧ KeptF (fun j => B ≤ j) w w10) := by
    have hd := HW9.out.1.dr
    refine ⟨k10.row HW9.out.1.r5 HNT.out.2.2, ⟨k10.row hd.row HNT.out.1, ⟨ownsMap_same hd.e.own (k10.block me hd.e.own.lt hd.ne.2.1), hd.e.ris⟩, ⟨ownsMap_same hd.c.own (k10.block mc hd.c.own.lt hd.ne.2.2), hd.c.ris⟩, ⟨ownsMap_tight hm10, fput_rising _ _ hd.t.ris⟩, hd.ne, hd.ge⟩, HW9.out.2.1.same (fun g hg => ?_), HKW.out.trans k10 (fun j _ hj => by have hj : j = mt := hj; rw [hj]; exact hd.ge.2.2.2)⟩
    obtain ⟨_, hl, cs', hr'⟩ := own_lt HW9.out.2.1 hg
    exact k10.block g hl (fun q => (hd.t.ne hr') (Eq.symm q))
  have HPN : Hid (0 < pn + s2.length ∧ pn + s2.length ≤ 9223372036854775807) := by
    have h1 := HW9.out.2.2
    have h2 := HFA.out.2.2.2.2.2.2.2
    have h3 := HFA.out.2.2.2.1
    rw [ht1, hs1, HE.out, List.length_append] at h2
    have l1 : t1.length ≤ a.length + b.length := by rw [← ht1, List.length_take, List.length_append]; omega
    have l2 : s2.length ≤ a.length + b.length := by rw [← HE.out, ← hs1, List.length_drop, List.length_drop, List.length_append]; omega
    exact ⟨by omega, by omega⟩
  clear k10 hm10 hg10 ad hS0
  go_simp
  go_wp2_with (first
    | (refine wpList_of_run rfl (x_ld75 (x := .tmp 5) rfl (by kernel_rfl) H10.out.1) ?_)
    | (go_at_call 55; refine Calls.mono (size55 HPN.out.2) ?_; rintro e w11 ⟨rfl, ha11⟩; have H11 := show Hid (After w10 w11) from ha11; clear ha11)
    | (refine wpList_of_run rfl (x_nz (x := .tmp 66) (p := pn + s2.length) HPN.out.1 rfl (by kernel_rfl)) ?_))
  go_ret
  refine ⟨pa, pn, pc, rfl, ?_, ?_, H10.out.2.2.2.trans (KeptF.of_after (F := fun j => B ≤ j) H11.out) (fun _ _ h => h)⟩
  · rw [hs1, HE.out]; exact H10.out.2.1.after H11.out
  · rw [ht1]; exact H10.out.2.2.1.below H11.out (Nat.le_refl _)
end Go.Proofs.Ytiihdhnmgbhgkaa
