/-
  THE WALKS OF (*Disk).Used, List, Down, Steps, New.
-/
import Derived.Test.YtlbodickflljfaaCreate
namespace Go.Proofs.Ytlbodickflljfaa
open Go.RowKit Go.Maps Dsk
def sumL (left : Lit → Bool) (l : List (Nm × Fl)) : Nat := (l.map fun p => if left (.string p.1) then 0 else p.2.data.length).sum
theorem sumL_le (left : Lit → Bool) : ∀ l, sumL left l ≤ used l
  | [] => by simp [sumL, used]
  | p :: r => by
    have := sumL_le left r
    rw [used_cons]
    simp only [sumL, List.map_cons, List.sum_cons] at this ⊢
    split <;> omega
theorem sumL_none (left : Lit → Bool) (h : ∀ z, left z = false) : ∀ l, sumL left l = used l
  | [] => by simp [sumL, used]
  | p :: r => by
    have := sumL_none left h r
    rw [used_cons]
    simp only [sumL, List.map_cons, List.sum_cons, h] at this ⊢
    simp at this ⊢; exact this
theorem sumL_all (left : Lit → Bool) : ∀ l : List (Nm × Fl), (∀ p ∈ l, left (.string p.1) = true) → sumL left l = 0
  | [], _ => rfl
  | p :: r, h => by
    have := sumL_all left r (fun q hq => h q (by simp [hq]))
    simp only [sumL, List.map_cons, List.sum_cons, h p (by simp)] at this ⊢
    simpa using this
theorem sumL_eq (left left' : Lit → Bool) : ∀ l : List (Nm × Fl), (∀ p ∈ l, left' (.string p.1) = left (.string p.1)) → sumL left' l = sumL left l
  | [], _ => rfl
  | p :: r, h => by
    have := sumL_eq left left' r (fun q hq => h q (by simp [hq]))
    simp only [sumL, List.map_cons, List.sum_cons, h p (by simp)] at this ⊢
    omega
theorem sumL_step (left : Lit → Bool) {nm : Nm} {f : Fl} : ∀ l : List (Nm × Fl), rising l → fget nm l = some f → left (.string nm) = true → sumL (fun z => left z && !z.sameKey (.string nm)) l = sumL left l + f.data.length
  | [], _, h, _ => by simp [fget] at h
  | p :: r, hr, h, hl => by
    obtain ⟨h1, h2⟩ := List.pairwise_cons.1 hr
    unfold fget at h
    rw [List.find?_cons] at h
    cases e : (p.1 == nm)
    · rw [e] at h
      have ih := sumL_step left r h2 h hl
      have e' : (Lit.string p.1).sameKey (.string nm) = false := e
      simp only [sumL, List.map_cons, List.sum_cons, e', Bool.not_false, Bool.and_true] at ih ⊢
      omega
    · rw [e] at h
      simp at h
      have e' : (Lit.string p.1).sameKey (.string nm) = true := e
      have hp : p.1 = nm := beq_iff_eq.1 e
      have ih := sumL_eq left (fun z => left z && !z.sameKey (.string nm)) r (fun q hq => by
        have h3 := h1 q hq
        have : (Lit.string q.1).sameKey (.string nm) = false := by
          show (q.1 == nm) = false
          cases hb : (q.1 == nm)
          · rfl
          · rw [beq_iff_eq.1 hb, ← hp, bb_irrefl] at h3; cases h3
        show (left (.string q.1) && !(Lit.string q.1).sameKey (.string nm)) = left (.string q.1)
        rw [this]; simp)
      have a2 : left (.string p.1) = true := by rw [hp]; exact hl
      simp only [sumL, List.map_cons, List.sum_cons] at ih ⊢
      have a3 : (true && !(Lit.string p.1).sameKey (.string nm)) = false := by rw [e']; rfl
      simp only [a2, a3, if_true, Bool.false_eq_true, if_false]
      rw [h]
      omega
section
variable {w : World} {ops : Array Oper} {rest : List Oper} {o : Oper} {a : Act} {Q : Exit → Act → World → Prop}
/-- Every entry's value: a slice and a number. -/
def Shaped (cs : List Ent) : Prop := ∀ c ∈ cs, ∃ ao k, c.2.1 = .agg #[.slice ao c.2.2.data.length k, .int .i64 (c.2.2.safe : Int)]
theorem Dr.shaped {w : World} {F : Nat → Prop} {sb mb : Nat} {S : Dk} {cs : List Ent} (h : Dr w F sb mb S cs) : Shaped cs := fun c hc => by
  obtain ⟨sl, hv, ho⟩ := h.rows.file c hc
  obtain ⟨ao, k, hsl, _⟩ := Own.sl ho _ rfl
  exact ⟨ao, k, by rw [hv, hsl]⟩
/-- The step of a range over the files. -/
theorem wpList_next_files (hg : o.guard = none) (it : Operand) (hop : o.op = Op.next it false) (mb r n : Nat) (cs : List Ent) (hsh : Shaped cs) (left : Lit → Bool) (cnt : Nat) (hit : a.eval it = .pointer (some ⟨r, 0, none⟩))
    (h : w.ranges Try.prog 9 Rv mb r n (.map (toE (vals cs))) left cnt)
    (hDone : cnt = 0 → (∀ kl, left kl = false) → wpList Try.prog ops Q rest (a.put o.dst (.tuple #[.bool false])) w)
    (hMore : ∀ (nm : Nm) (ao : Option Addr) (k : Nat) (f : Fl) (w' : World) (cnt' : Nat), fget nm cs = some (.agg #[.slice ao f.data.length k, .int .i64 (f.safe : Int)], f) → left (.string nm) = true →
      w'.ranges Try.prog 9 Rv mb r n (.map (toE (vals cs))) (fun z => left z && !z.sameKey (.string nm)) cnt' → cnt' < cnt → w.grownBy w' (some r) → w'.heap.size = w.heap.size →
      (Instr.entry (.pointer (some ⟨r, 0, none⟩))).run Try.prog w' = .ok (.tuple #[.string (strOf nm), .agg #[.slice ao f.data.length k, .int .i64 (f.safe : Int)]]) w' →
      wpList Try.prog ops Q rest (a.put o.dst (.tuple #[.bool true, .string (strOf nm), .agg #[.slice ao f.data.length k, .int .i64 (f.safe : Int)]])) w') :
    wpList Try.prog ops Q (o :: rest) a w := by
  refine wpList_plain hg fun K' hK' => ?_
  unfold Oper.wp
  rcases h.next law9 o.type with ⟨h0, hl, hrun⟩ | ⟨key, v, kl, y, w', cnt', hkey, hlk, hv, hat, hrun, hrg, hlt, hgr, hsz, hen⟩
  · simp [execOp, hop, hit, hrun, Result.andThen]
    exact hK' _ _ (hDone h0 hl)
  · obtain ⟨nm, hx, hkl, _⟩ := Maps.keyOf_str Try.underlying9 hkey
    subst hx
    subst hkl
    have ex : Go.Proofs.encStr nm = .string (strOf nm) := rfl
    rw [ex] at hrun hen
    obtain ⟨y1, y2⟩ := y
    have hy := Rv_inv hv
    have h1 := hat .nil
    rw [at_E] at h1
    cases hgv : fget nm (vals cs) with
    | none => rw [hgv] at h1; simp only at h1; rw [hy] at h1; cases h1
    | some v' =>
      rw [hgv] at h1
      simp only at h1
      rw [hy] at h1
      simp only [DataW.held.injEq] at h1
      subst h1
      unfold vals at hgv
      rw [fget_map] at hgv
      obtain ⟨⟨v2, f⟩, hgc, e⟩ := Option.map_eq_some_iff.1 hgv
      simp only at e
      subst e
      obtain ⟨ao, k, e2⟩ := hsh _ (fget_mem hgc)
      simp only at e2
      subst e2
      simp [execOp, hop, hit, hrun, Result.andThen]
      exact hK' _ _ (hMore nm ao k f w' cnt' hgc hlk hrg hlt hgr hsz hen)
end
set_option maxHeartbeats 400000 in
theorem used_nil (w : World) : Calls Try.prog 26 #[.pointer none] w fun e w' => e = .returned (.int .i64 0) ∧ w' = w := by
  go_enter Try.func26, Try.ntmps26
  go_wp2
  go_ret
  exact ⟨rfl, rfl⟩
set_option maxRecDepth 100000 in
set_option maxHeartbeats 1600000 in
theorem used_any (F : Nat → Prop) (sb : Nat) (S : Dk) (hS : Ok S) (w : World) (hd : DiskAt w F sb S) : Calls Try.prog 26 #[.pointer (some ⟨sb, 0, none⟩)] w fun e w' => e = .returned (.int .i64 (used S.files : Int)) ∧ After w w' := by
  obtain ⟨mb, cs, hr⟩ := hd.dr
  have HR : Hid (Dr w F sb mb S cs) := hr
  have HS : Hid (Ok S) := hS
  have hc1 := hr.row.cells68.c1
  have hub : used S.files ≤ 16777216 := Nat.le_trans hS.used hS.most
  clear hr hd hS
  go_enter Try.func26, Try.ntmps26
  go_wp2_with (first | (at_range; refine wpList_range_own _ rfl _ 64 rfl 9 77 law9 Try.underlying64 Rv mb cs.length (.map (toE (vals cs))) rfl HR.out.own ?_; intro w0 hrg0 hg0 hs0) | go_in)
  go_frame
  have HRG0 := show Hid _ from hrg0
  have HA0 : Hid (After w w0) := ⟨hg0.os, hg0.tape, hg0.output, hg0.size, fun k hk => hg0.block k hk (by simp)⟩
  clear hrg0 hg0
  go_loopw [3] (fun u wr => ∃ left cnt, Hid (wr.ranges Try.prog 9 Rv mb w.heap.size cs.length (.map (toE (vals cs))) left cnt) ∧ u = .int .i64 (sumL left S.files : Int) ∧ Hid (After w wr)) (fun _ wr => wr.rangeLeft mb w.heap.size)
  case atStart =>
    refine ⟨_, _, HRG0, ?_, HA0⟩
    rw [sumL_all _ S.files (fun p hp => by rw [has_E]; unfold vals; rw [fhas_map, ← fhas_map (fun x : Value × Fl => x.2), show cs.map (onV fun x => x.2) = S.files from HR.out.files]; exact List.any_eq_true.2 ⟨p, hp, by simp⟩)]; rfl
  case round =>
    obtain ⟨left, cnt, hrg, rfl, hA⟩ := hrel
    have hle := sumL_le left S.files
    go_wp2_with (first | (at_next; refine wpList_next_files rfl _ rfl mb w.heap.size cs.length cs HR.out.shaped left cnt rfl hrg.out ?_ ?_) | go_in)
    · intro _ hl0
      have HL0 := show Hid (∀ kl, left kl = false) from hl0
      clear hl0
      go_wp2
      go_ret
      exact ⟨ret_int (by rw [sumL_none left HL0.out]), hA.out⟩
    · intro nm ao k f w1 cnt1 hgc hlk hrg1 hlt hg1 hs1 hen
      have HRG1 := show Hid (World.ranges _ _ _ _ _ _ _ _ _ _) from hrg1
      have hfl : fget nm S.files = some f := by rw [← HR.out.files]; exact fls_get hgc
      have hst := sumL_step left S.files HS.out.ris hfl hlk
      have hle2 := sumL_le (fun z => left z && !z.sameKey (.string nm)) S.files
      have HST := show Hid (sumL (fun z => left z && !z.sameKey (.string nm)) S.files = sumL left S.files + f.data.length) from hst
      obtain ⟨n, hn⟩ : ∃ n, f.data.length = n := ⟨_, rfl⟩
      obtain ⟨u, hu⟩ : ∃ u, sumL left S.files = u := ⟨_, rfl⟩
      rw [hn, hu] at HST hst
      rw [hn] at hen
      rw [hn, hu]
      have hb : u + n ≤ 16777216 := by omega
      have HA1 : Hid (After w w1) := below_grown hA.out hg1 (fun k hk => by cases hk; exact Nat.le_refl _) hA.out.size
      have HM : Hid (cnt1 < cnt) := hlt
      clear hgc hlk hrg1 hlt hg1 hfl hst hle2 hle hn hu
      go_wp2
      go_roundw
      case rel => exact ⟨_, _, HRG1.out.alloc _, by rw [HST.out]; go_num, after_alloc HA1.out _⟩
      case measure => rw [(HRG1.out.alloc _).left_eq, hrg.out.left_eq]; exact HM.out
/-- Texts in a row of the call's own. -/
def OwnS (w : World) (base : Nat) (v : Value) (ns : List Nm) : Prop := w.ownsRow base 9 1 v ns.length (ns.map fun s => .string (strOf s))
theorem bb_lt : ∀ {a b : Nm}, bytesBefore a b = true → a < b
  | [], [], h => by simp [bytesBefore] at h
  | [], _ :: _, _ => List.nil_lt_cons _ _
  | _ :: _, [], h => by simp [bytesBefore] at h
  | a :: r, b :: s, h => by
    simp only [bytesBefore, Bool.or_eq_true, decide_eq_true_eq, Bool.and_eq_true, beq_iff_eq] at h
    rw [List.cons_lt_cons_iff]
    rcases h with h | ⟨h1, h2⟩
    · exact Or.inl h
    · exact Or.inr ⟨h1, bb_lt h2⟩
theorem sorted_names {α : Type} {l : List (Nm × α)} (h : rising l) {ss : List Nm} (hp : ss.Perm (l.map (·.1))) : ss.mergeSort (fun x y => decide (x ≤ y)) = l.map (·.1) := by
  have h1 := mergeSort_of_perm hp
  refine h1.trans (List.mergeSort_of_pairwise ?_)
  rw [List.pairwise_map]
  exact h.imp (fun {a b} hab => by simp only [leB, decide_eq_true_eq]; exact List.le_of_lt (bb_lt hab))
set_option maxHeartbeats 400000 in
theorem list_nil (w : World) : Calls Try.prog 25 #[.pointer none] w fun e w' => e = .returned (.slice none 0 0) ∧ w' = w := by
  go_enter Try.func25, Try.ntmps25
  go_wp2
  go_ret
  exact ⟨rfl, rfl⟩
set_option maxRecDepth 100000 in
set_option maxHeartbeats 1600000 in
theorem list_any (F : Nat → Prop) (sb : Nat) (S : Dk) (hS : Ok S) (w : World) (hd : DiskAt w F sb S) : Calls Try.prog 25 #[.pointer (some ⟨sb, 0, none⟩)] w fun e w' => ∃ v, e = .returned v ∧ OwnS w' w.heap.size v (S.files.map (·.1)) ∧ After w w' := by
  obtain ⟨mb, cs, hr⟩ := hd.dr
  have hc1 := hr.row.cells68.c1
  have hcl : cs.length ≤ 64 := by have := hS.count; rw [← hr.files] at this; simpa [fls] using this
  have hsz : Maps.size (DataW.map (toE (vals cs))) = cs.length := by rw [size_E]; simp [vals]
  have hks : Go.strKeys (DataW.map (toE (vals cs))) = S.files.map (·.1) := by rw [keys_E, ← hr.files]; simp [vals, fls, onV]
  have C1 := show Hid _ from (callsIn_wide (n := 5)).1 (sh_maps_Keys_54 (some mb) w)
  have C2 := show Hid _ from (callsIn_wide (n := 5)).1 (sh_slices_Sorted_keys_53_54 mb cs.length (.map (toE (vals cs))) Rv w hr.own (by rw [hsz]; unfold maxLen; omega) (by rw [hsz]; omega))
  have HK := show Hid _ from hks
  have HS : Hid (Ok S) := hS
  clear hr hd hsz hks hS
  go_enter Try.func25, Try.ntmps25
  go_wp2_with (first
    | (go_at_call 54; refine Calls.mono C1.out ?_; rintro e w' ⟨rfl, rfl⟩)
    | (go_at_call 53; refine Calls.mono C2.out ?_; rintro e w' ⟨v, ss, rfl, hSp, hrow, hnil, hb⟩))
  go_ret
  rw [HK.out] at hSp
  have hlen : ss.length = (S.files.map (·.1)).length := hSp.length_eq
  refine ⟨v, rfl, ?_, After.trans (after_alloc (After.refl w) _) hb⟩
  unfold OwnS
  rw [sorted_names HS.out.ris hSp, hlen] at hrow
  refine ⟨hrow.1, ?_⟩
  rcases hrow.2 with hn | ⟨g, cap, cur, e1, h1, rest⟩
  · exact .inl hn
  · exact .inr ⟨g, cap, cur, e1, by simp at h1; omega, rest⟩
set_option maxHeartbeats 400000 in
theorem steps_nil (w : World) : Calls Try.prog 31 #[.pointer none] w fun e w' => e = .returned (.int .i64 0) ∧ w' = w := by
  go_enter Try.func31, Try.ntmps31
  go_wp2
  go_ret
  exact ⟨rfl, rfl⟩
set_option maxHeartbeats 400000 in
theorem steps_any (F : Nat → Prop) (sb : Nat) (S : Dk) (w : World) (hd : DiskAt w F sb S) : Calls Try.prog 31 #[.pointer (some ⟨sb, 0, none⟩)] w fun e w' => e = .returned (.int .i64 (S.steps : Int)) ∧ w' = w := by
  obtain ⟨mb, cs, hr⟩ := hd.dr
  have hc2 := hr.row.cells68.c2
  clear hr hd
  go_enter Try.func31, Try.ntmps31
  go_wp2
  go_ret
  exact ⟨rfl, rfl⟩
set_option maxHeartbeats 400000 in
theorem down_nil (w : World) : Calls Try.prog 29 #[.pointer none] w fun e w' => e = .returned (.bool false) ∧ w' = w := by
  go_enter Try.func29, Try.ntmps29
  go_wp2
  go_ret
  exact ⟨rfl, rfl⟩
set_option maxHeartbeats 400000 in
theorem down_any (F : Nat → Prop) (sb : Nat) (S : Dk) (w : World) (hd : DiskAt w F sb S) : Calls Try.prog 29 #[.pointer (some ⟨sb, 0, none⟩)] w fun e w' => e = .returned (.bool S.down) ∧ w' = w := by
  obtain ⟨mb, cs, hr⟩ := hd.dr
  have hc3 := hr.row.cells68.c3
  clear hr hd
  go_enter Try.func29, Try.ntmps29
  go_wp2
  go_ret
  exact ⟨rfl, rfl⟩
set_option maxRecDepth 100000 in
set_option maxHeartbeats 400000 in
theorem new_any (most : Int) (w : World) : Calls Try.prog 11 #[.int .i64 most] w fun e w' => e = .returned (.pointer (some ⟨w.heap.size + 1, 0, none⟩)) ∧ After w w' ∧ w'.heap.size = w.heap.size + 2 ∧ DiskAt w' (fun i => w.heap.size ≤ i ∧ i < w'.heap.size) (w.heap.size + 1) (newS most) := by
  have hmm := @run_makeMap Try.prog
  go_enter Try.func11, Try.ntmps11
  go_wp2
  have hmo : min (max most 0) 16777216 = (((min (max most 0) 16777216).toNat : Nat) : Int) := by omega
  go_ret
  refine ⟨rfl, after_alloc (after_alloc (After.refl w) _) _, by simp, w.heap.size, [], ⟨by omega, by simp⟩, ⟨Nat.le_refl _, by simp; omega⟩, ?_, ?_, ⟨by simp, by simp, by simp⟩, rfl⟩
  · have := RowIs.new (w.alloc (.map #[] 0)) 68 (cells68 (newS most) w.heap.size)
    rw [show (w.alloc (.map #[] 0)).heap.size = w.heap.size + 1 by simp] at this
    simp only [cells68, newS] at this ⊢
    rw [← hmo] at this ⊢
    exact this
  · exact (World.ownsMap_made w Try.prog 9 Rv).alloc _
end Go.Proofs.Ytlbodickflljfaa
