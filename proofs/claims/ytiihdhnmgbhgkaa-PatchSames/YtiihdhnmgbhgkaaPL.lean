/-
  names (40, 42, 43): the names of a map, each once, rising.
-/
import Derived.Test.YtiihdhnmgbhgkaaPK
import Derived.Test.YtiihdhnmgbhgkaaSH
import Derived.Sort.MapsRangeIn
import Derived.Sort.OwnSorted
namespace Go.Proofs.Ytiihdhnmgbhgkaa
open Go.RowKit Go.Maps Go.Sort Dsk
attribute [local go_sem] Oper.semAt_some
section
variable {w : World} {ops : Array Oper} {rest : List Oper} {o : Oper} {a : Act} {Q : Exit → Act → World → Prop}
theorem key9_inv {key : Value} {kl : Lit} (h : keyOf Try.prog 9 key = some kl) : ∃ nm : Nm, key = .string (strOf nm) ∧ kl = .string nm := by
  obtain ⟨s, hs⟩ := Maps.keyOf_string_inv Try.underlying9 h
  subst hs
  refine ⟨s.data.toList, by rw [show strOf s.data.toList = s from by unfold strOf; rw [Array.toArray_toList]], ?_⟩
  rw [keyOf_string Try.underlying9] at h
  simp [mapKey, Try.underlying9] at h
  exact h.2.symm
/-- The step of a range over a map by strings. -/
theorem wpList_next_strs (hg : o.guard = none) (it : Operand) (hop : o.op = Op.next it false) (mb r n : Nat) (l : List (Nm × Value)) (left : Lit → Bool) (cnt : Nat) (hit : a.eval it = .pointer (some ⟨r, 0, none⟩))
    (h : w.ranges Try.prog 9 Rv mb r n (.map (toE l)) left cnt)
    (hDone : (∀ kl, left kl = false) → wpList Try.prog ops Q rest (a.put o.dst (.tuple #[.bool false])) w)
    (hMore : ∀ (nm : Nm) (v : Value) (w' : World) (cnt' : Nat), fget nm l = some v → left (.string nm) = true →
      w'.ranges Try.prog 9 Rv mb r n (.map (toE l)) (fun z => left z && !z.sameKey (.string nm)) cnt' → cnt' < cnt → w.grownBy w' (some r) → w'.heap.size = w.heap.size →
      (Instr.entry (.pointer (some ⟨r, 0, none⟩))).run Try.prog w' = .ok (.tuple #[.string (strOf nm), v]) w' →
      wpList Try.prog ops Q rest (a.put o.dst (.tuple #[.bool true, .string (strOf nm), v])) w') :
    wpList Try.prog ops Q (o :: rest) a w := by
  refine wpList_plain hg fun K' hK' => ?_
  unfold Oper.wp
  rcases h.next law9 o.type with ⟨h0, hl, hrun⟩ | ⟨key, v, kl, y, w', cnt', hkey, hlk, hv, hat, hrun, hrg, hlt, hgr, hsz, hen⟩
  · simp [execOp, hop, hit, hrun, Result.andThen]
    exact hK' _ _ (hDone hl)
  · obtain ⟨nm, hx, hkl⟩ := key9_inv hkey
    subst hx
    subst hkl
    obtain ⟨y1, y2⟩ := y
    have hy := Rv_inv hv
    have h1 := hat .nil
    rw [at_E] at h1
    cases hgv : fget nm l with
    | none => rw [hgv] at h1; simp only at h1; rw [hy] at h1; cases h1
    | some v' =>
      rw [hgv] at h1
      simp only at h1
      rw [hy] at h1
      simp only [DataW.held.injEq] at h1
      subst h1
      simp [execOp, hop, hit, hrun, Result.andThen]
      exact hK' _ _ (hMore nm _ w' cnt' hgv hlk hrg hlt hgr hsz hen)
end
theorem encStr_eq (s : Nm) : encStr s = .string (strOf s) := rfl
theorem st_enc (ss : List Nm) : (stL ss).flatten = ss.map encStr := by
  unfold stL
  induction ss with
  | nil => rfl
  | cons s ss ih => simp only [List.map_cons, List.flatten_cons, ih]; rfl
theorem own_strs {W : World} {B : Nat} {v : Value} {ss : List Nm} (h : W.ownsRow B 9 1 v ss.length (ss.map encStr)) : OwnL W B 9 1 v (stL ss) := ⟨uni_st ss, by rw [st_enc]; unfold stL; rw [List.length_map]; exact h⟩
theorem sort57_own {w : World} {B : Nat} {v : Value} {ss : List Nm} (h : OwnL w B 9 1 v (stL ss)) (hl : ss.length ≤ 1000000) :
    Calls Try.prog 57 #[v] w fun e w' => e = .returned (.tuple #[]) ∧ OwnL w' B 9 1 v (stL (ss.mergeSort fun x y => decide (x ≤ y))) ∧ w.grownBy w' v.ownBlock := by
  by_cases hn : ss = []
  · subst hn
    obtain ⟨a, c, e, _⟩ := h.sl
    subst e
    refine Calls.mono (sh_slices_Sort_string_none a c w) (fun e w' ⟨he, hw⟩ => ⟨he, ?_, ?_⟩)
    · rw [hw]; simpa using h
    · rw [hw]; exact ⟨rfl, rfl, rfl, Nat.le_refl _, fun _ _ _ => rfl⟩
  · have hle : (stL ss).length = ss.length := by unfold stL; rw [List.length_map]
    obtain ⟨g, cap, cs, hv, hb, hr, hnc, hcm, hcl, ht⟩ := h.row (fun e => hn (by have := congrArg List.length e; rw [hle] at this; exact List.eq_nil_of_length_eq_zero this))
    rw [hle] at hv hnc ht
    subst hv
    rw [st_enc, Nat.mul_one] at ht
    have hH : Holds encStr w g 0 ss.toArray := holds_of_block hr (by simpa using ht)
    refine Calls.mono (sh_slices_Sort_string g 0 cap ss w hH hr.lt (by omega)) (fun e w' ⟨he, n, os, hw⟩ => ⟨he, ?_, ?_⟩)
    · have hl2 : (ss.mergeSort fun x y => decide (x ≤ y)).length = ss.length := List.length_mergeSort _
      have := ownsRow_sorted (n := n) (os := os) (ts := ss.mergeSort fun x y => decide (x ≤ y)) hl2 hb hr hnc hcm (by simpa using hcl)
      rw [hw]
      refine own_strs ?_
      rw [hl2]; exact this
    · rw [hw]; exact grownBy_sorted _
theorem compact58_own {w : World} {B : Nat} {v : Value} {ss : List Nm} (h : OwnL w B 9 1 v (stL ss)) (hl : ss.length ≤ 1000000) (hc : Lib.compact ss = ss) :
    Calls Try.prog 58 #[v] w fun e w' => e = .returned v ∧ OwnL w' B 9 1 v (stL ss) ∧ w.grownBy w' v.ownBlock := by
  by_cases hn : ss = []
  · subst hn
    obtain ⟨a, c, e, _⟩ := h.sl
    subst e
    refine Calls.mono (sh_slices_Compact_string_empty a c w) (fun e w' ⟨he, hw⟩ => ⟨he, ?_, ?_⟩)
    · rw [hw]; exact h
    · rw [hw]; exact ⟨rfl, rfl, rfl, Nat.le_refl _, fun _ _ _ => rfl⟩
  · have hle : (stL ss).length = ss.length := by unfold stL; rw [List.length_map]
    obtain ⟨g, cap, cs, hv, hb, hr, hnc, hcm, hcl, ht⟩ := h.row (fun e => hn (by have := congrArg List.length e; rw [hle] at this; exact List.eq_nil_of_length_eq_zero this))
    rw [hle] at hv hnc ht
    subst hv
    rw [st_enc, Nat.mul_one] at ht
    have hH : Holds encStr w g 0 ss.toArray := holds_of_block hr (by simpa using ht)
    refine Calls.mono (sh_slices_Compact_string g 0 cap ss w hH (by omega) hnc) (fun e w' ⟨he, q, hw⟩ => ⟨?_, ?_, ?_⟩)
    · rw [he, hc]
    · rw [hc, Nat.sub_self] at hw
      have e0 : putRow encStr (Sort.ahead w q) g 0 ss.toArray = grow (putRow encStr (Sort.ahead w q) g 0 ss.toArray) #[] := (grow_empty _).symm
      simp only [List.replicate_zero, List.append_nil] at hw
      rw [hw, e0]
      exact own_strs (ownsRow_sorted (n := q) (os := #[]) (ts := ss) rfl hb hr hnc hcm (by simpa using hcl))
    · rw [hc, Nat.sub_self] at hw
      have e0 : putRow encStr (Sort.ahead w q) g 0 ss.toArray = grow (putRow encStr (Sort.ahead w q) g 0 ss.toArray) #[] := (grow_empty _).symm
      simp only [List.replicate_zero, List.append_nil] at hw
      rw [hw, e0]
      exact grownBy_sorted _
theorem x_bs38_1 {oi : Oper} {a : Act} {w : World} {x : Operand} {s : ByteArray} (hop : oi.op = .buildSlice 38 1 #[(0, x)]) (hx : a.eval x = .string s) : (execOp a.eval oi).run Try.prog w = .ok (.value (.slice (some ⟨w.heap.size, 0, none⟩) 1 1)) (w.alloc (.cells #[.string s] 9)) := by
  have hb : (Instr.buildSlice 38 1 #[(0, .string s)]).run Try.prog w = .ok (.slice (some ⟨w.heap.size, 0, none⟩) 1 1) (w.alloc (.cells #[.string s] 9)) := by kernel_rfl
  unfold execOp
  simp [hop, hx, hb]
structure NmI (T : List (Nm × Value)) (w : World) (mb r : Nat) (left : Lit → Bool) (cnt : Nat) (ss : List Nm) (v : Value) (wr : World) : Prop where
  rng : wr.ranges Try.prog 9 Rv mb r T.length (.map (toE T)) left cnt
  aft : After w wr
  own : OwnL wr w.heap.size 9 1 v (stL ss)
  all : ∀ e ∈ T, left (.string e.1) = true ∨ e.1 ∈ ss
  in_ : ∀ s ∈ ss, (∃ e ∈ T, e.1 = s) ∧ left (.string s) = false
  nod : ss.Nodup
theorem nodup_sub : ∀ {l m : List Nm}, l.Nodup → (∀ x ∈ l, x ∈ m) → l.length ≤ m.length
  | [], _, _, _ => Nat.zero_le _
  | x :: l, m, hn, hs => by
    have hx : x ∈ m := hs x (by simp)
    have hn2 := (List.nodup_cons.1 hn)
    have := nodup_sub (m := m.erase x) hn2.2 (fun y hy => (List.mem_erase_of_ne (fun e => hn2.1 (by rw [← e]; exact hy))).2 (hs y (by simp [hy])))
    rw [List.length_erase_of_mem hx] at this
    have := List.length_pos_of_mem hx
    simp only [List.length_cons]
    omega
theorem NmI.few {T : List (Nm × Value)} {w : World} {mb r : Nat} {left : Lit → Bool} {cnt : Nat} {ss : List Nm} {v : Value} {wr : World} (h : NmI T w mb r left cnt ss v wr) : ss.length ≤ T.length := by
  have := nodup_sub (m := T.map (·.1)) h.nod (fun s hs => by obtain ⟨e, he, rfl⟩ := (h.in_ s hs).1; exact List.mem_map_of_mem he)
  rwa [List.length_map] at this
/-- One name more. -/
theorem NmI.next {T : List (Nm × Value)} {w : World} {mb r : Nat} {left : Lit → Bool} {cnt : Nat} {ss : List Nm} {la : Option Addr} {ln lc : Nat} {wr : World} (h : NmI T w mb r left cnt ss (.slice la ln lc) wr) (hT : T.length ≤ 1000000) {nm : Nm} {u : Value} {w1 : World} {cnt' : Nat} (hg : fget nm T = some u) (hlk : left (.string nm) = true) (hrg : w1.ranges Try.prog 9 Rv mb r T.length (.map (toE T)) (fun z => left z && !z.sameKey (.string nm)) cnt') (hgr : wr.grownBy w1 (some r)) (hr : w.heap.size ≤ r) (hmb : mb < w.heap.size) :
    ∃ na nn nc w3, (Builtin.append_ #[38, 38] 38 #[.slice la ln lc, .slice (some ⟨w1.heap.size, 0, none⟩) 1 1]).run Try.prog (w1.alloc (.cells #[.string (strOf nm)] 9)) = .ok (.slice na nn nc) w3 ∧ NmI T w mb r (fun z => left z && !z.sameKey (.string nm)) cnt' (ss ++ [nm]) (.slice na nn nc) w3 := by
  obtain ⟨ii, z, hi, hz, hsz, hby, hzc⟩ := info9
  have hri := row_ne_iter h.own.2 h.rng
  have a1 : After w w1 := ⟨hgr.os.trans h.aft.os, hgr.tape.trans h.aft.tape, hgr.output.trans h.aft.output, Nat.le_trans h.aft.size hgr.size, fun b hb => (hgr.block b (Nat.lt_of_lt_of_le hb h.aft.size) (fun e => by injection e with e; omega)).trans (h.aft.block b hb)⟩
  have o1 : OwnL w1 w.heap.size 9 1 (.slice la ln lc) (stL ss) := h.own.same (fun b hb => hgr.block b (own_lt h.own.2 hb).2.1 (fun e => hri (by rw [← e]; exact hb.symm)))
  obtain ⟨W2, hW2⟩ : ∃ W2, w1.alloc (.cells #[.string (strOf nm)] 9) = W2 := ⟨_, rfl⟩
  have a12 : After w1 W2 := by rw [← hW2]; exact after_alloc (After.refl w1) _
  have r2 : RowIs W2 w1.heap.size 9 [.string (strOf nm)] := by rw [← hW2]; exact RowIs.new w1 9 _
  have hsl : SlAt W2 1 (some ⟨w1.heap.size, 0, none⟩) [[.string (strOf nm)]] := ⟨fun u hu => by rw [List.mem_singleton] at hu; subst hu; rfl, fun _ => ⟨_, _, rfl, fun j v hv => by rw [Nat.zero_add]; exact r2.cell (by simpa using hv)⟩⟩
  have hyl : (stL ss).length = ss.length := by unfold stL; rw [List.length_map]
  have hfew := h.few
  have o2 := o1.after a12
  obtain ⟨na, nc, w3, q1, q2, q3, _⟩ := run_appL (w := W2) 38 38 9 1 16 Try.underlying38 hi hz hsz hby hzc (by omega) o2 (N := [[.string (strOf nm)]]) (a := some ⟨w1.heap.size, 0, none⟩) (m := 1) (c := 1) rfl hsl (fun u hu => by rw [List.mem_singleton] at hu; subst hu; intro y hy; rw [List.mem_singleton] at hy; subst hy; rfl) (by rw [hyl]; unfold maxLen; omega) (by rw [hyl]; omega) (by have := (a1.trans a12).size; omega) (fun h => by cases h)
  have rg2 : W2.ranges Try.prog 9 Rv mb r T.length (.map (toE T)) (fun z => left z && !z.sameKey (.string nm)) cnt' := by rw [← hW2]; exact hrg.alloc _
  refine ⟨na, _, nc, w3, by rw [hW2]; exact q1, ⟨rg2.kept q3 (row_ne_low o2.2 hmb) (row_ne_iter o2.2 rg2), grown_after (a1.trans a12) o2.2 (Nat.le_refl _) q3, by
    have e : stL (ss ++ [nm]) = stL ss ++ [[.string (strOf nm)]] := by unfold stL; rw [List.map_append]; rfl
    rw [e]; exact q2, fun e he => ?_, fun s hs => ?_, ?_⟩⟩
  · by_cases e1 : e.1 = nm
    · right; rw [e1]; simp
    · rcases h.all e he with h1 | h1
      · left
        have : (Lit.string e.1).sameKey (Lit.string nm) = (e.1 == nm) := rfl
        show (left (.string e.1) && !(Lit.string e.1).sameKey (Lit.string nm)) = true
        rw [h1, this]; simp [e1]
      · right; simp [h1]
  · rcases List.mem_append.1 hs with hs | hs
    · have := h.in_ s hs
      refine ⟨this.1, ?_⟩
      show (left (.string s) && _) = false
      rw [this.2]; rfl
    · rw [List.mem_singleton] at hs
      subst hs
      refine ⟨⟨_, fget_mem hg, rfl⟩, ?_⟩
      have : (Lit.string s).sameKey (Lit.string s) = (s == s) := rfl
      show (left (.string s) && !(Lit.string s).sameKey (Lit.string s)) = false
      rw [this]; simp
  · rw [List.nodup_append]
    refine ⟨h.nod, by simp, fun x hx y hy e => ?_⟩
    rw [List.mem_singleton] at hy
    subst hy; subst e
    have := (h.in_ _ hx).2
    rw [hlk] at this; cases this
end Go.Proofs.Ytiihdhnmgbhgkaa
