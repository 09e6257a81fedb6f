/-
  THE WALK OF stemmaref06.With.
-/
import Derived.Test.YtgcgblecendijaaPdq
import Derived.Test.YtgcgblecendijaaEasy
namespace Go.Proofs.Ytgcgblecendijaa
open Go.RowKit Go.Sort
theorem info24b : (Try.prog.info? 29).map (fun i => (i.hasPointers, i.size, i.bytes)) = some (false, 32, 32) := by kernel_rfl
def cut22 (ao : Option Addr) (k c : Nat) : Option Addr := if c = k then ao else ao.map fun a => a.add (k * 32)
theorem HsAt.take {w : World} {ao : Option Addr} {l : List Hs} (h : HsAt w ao l) (h32 : All32 l) (k : Nat) : HsAt w ao (l.take k) := by
  unfold HsAt
  rw [← flat_take k h32]
  exact BytesAt.take h _
theorem HsAt.drop {w : World} {ao : Option Addr} {l : List Hs} (h : HsAt w ao l) (h32 : All32 l) (k c : Nat) (hc : l.length ≤ c) : HsAt w (cut22 ao k c) (l.drop k) := by
  intro hne
  have hne' : l.drop k ≠ [] := fun e => by rw [e] at hne; simp at hne
  have hk : k < l.length := by
    rcases Nat.lt_or_ge k l.length with h | h
    · exact h
    · rw [List.drop_eq_nil_of_le h] at hne'; exact absurd rfl hne'
  obtain ⟨b, o, e, hcc⟩ := h (flat_ne h32 (fun e => by rw [e] at hk; simp at hk))
  refine ⟨b, o + k * 32, by rw [e]; unfold cut22; rw [if_neg (by omega)]; simp [Addr.add_mid], fun j hj => ?_⟩
  have hl : j < l.flatten.length - k * 32 := by rw [← flat_drop k h32, List.length_drop] at hj; exact hj
  have := hcc (k * 32 + j) (by omega)
  rw [← flat_drop k h32]
  simp only [List.getD, List.getElem?_drop] at this ⊢
  rw [show o + k * 32 + j = o + (k * 32 + j) by omega]
  exact this

theorem sl22_hi (ao : Option Addr) (n c k : Nat) (hk : k ≤ c) (hz : ao = none → c = 0) (W : World) : (Instr.sliceAt 22 (.slice ao n c) none (some (.int .i64 (k : Int))) none).run Try.prog W = .ok (.slice ao k c) W := by
  obtain ⟨i, hi', hzz⟩ := Option.map_eq_some_iff.1 info24b
  simp only [Prod.mk.injEq] at hzz
  obtain ⟨_, hsz, _⟩ := hzz
  cases ao with
  | none =>
    obtain rfl : c = 0 := hz rfl
    obtain rfl : k = 0 := by omega
    simp [Instr.sliceAt, Instr.slice, run_underlying Try.underlying22, Instr.sliceBounds, Instr.sliceBound, asIntOf, sizeOf, typeInfo, hi']
  | some a =>
    by_cases h0 : c = 0
    · obtain rfl : k = 0 := by omega
      simp [Instr.sliceAt, Instr.slice, run_underlying Try.underlying22, Instr.sliceBounds, Instr.sliceBound, asIntOf, sizeOf, typeInfo, hi', h0]
    · simp [Instr.sliceAt, Instr.slice, run_underlying Try.underlying22, Instr.sliceBounds, Instr.sliceBound, asIntOf, sizeOf, typeInfo, hi', hk, Addr.add]
theorem sl22_lo (ao : Option Addr) (n c k : Nat) (hn : n ≤ c) (hk : k ≤ n) (hz : ao = none → c = 0) (W : World) : (Instr.sliceAt 22 (.slice ao n c) (some (.int .i64 (k : Int))) none none).run Try.prog W = .ok (.slice (cut22 ao k c) (n - k) (c - k)) W := by
  obtain ⟨i, hi', hzz⟩ := Option.map_eq_some_iff.1 info24b
  simp only [Prod.mk.injEq] at hzz
  obtain ⟨_, hsz, _⟩ := hzz
  cases ao with
  | none =>
    obtain rfl : c = 0 := hz rfl
    obtain rfl : n = 0 := by omega
    obtain rfl : k = 0 := by omega
    simp [Instr.sliceAt, Instr.slice, run_underlying Try.underlying22, Instr.sliceBounds, Instr.sliceBound, asIntOf, sizeOf, typeInfo, hi', cut22]
  | some a =>
    by_cases h : c = k
    · simp [Instr.sliceAt, Instr.slice, run_underlying Try.underlying22, Instr.sliceBounds, Instr.sliceBound, asIntOf, sizeOf, typeInfo, hi', hsz, cut22, h]
      intro h2; omega
    · simp [Instr.sliceAt, Instr.slice, run_underlying Try.underlying22, Instr.sliceBounds, Instr.sliceBound, asIntOf, sizeOf, typeInfo, hi', hsz, cut22, h, hk]

section
variable {ops : Array Oper} {Q : Exit → Act → World → Prop} {K : Act → World → Prop} {a : Act} {w : World} {oi : Oper}
theorem x_sl22 {x y : Operand} {ao : Option Addr} {n c k : Nat} (hop : oi.op = .slice 22 x none (some y) none) (hx : a.eval x = .slice ao n c) (hy : a.eval y = .int .i64 (k : Int)) (hk : k ≤ c) (hz : ao = none → c = 0) : (execOp a.eval oi).run Try.prog w = .ok (.value (.slice ao k c)) w := by
  unfold execOp
  simp only [hop, hx, hy, Option.map, Sem.run_bind, sl22_hi ao n c k hk hz w, Result.andThen_ok]
  rfl
theorem x_bs22 {x : Operand} {h : Hs} (h32 : h.length = 32) (hop : oi.op = .buildSlice 22 1 #[(0, x)]) (hx : a.eval x = hv h) : (execOp a.eval oi).run Try.prog w = .ok (.value (.slice (some ⟨w.heap.size, 0, none⟩) 1 1)) (w.alloc (.cells (c8 h).toArray 29)) := by
  unfold execOp
  simp [hop, hx, bs22 w h32]
theorem x_lssT {x y : Operand} {p q : Nat} (hop : oi.op = .binOp .lss 3 x y 3) (hx : a.eval x = .int .i64 (p : Int)) (hy : a.eval y = .int .i64 (q : Int)) (h : p < q) : (execOp a.eval oi).run Try.prog w = .ok (.value (.bool true)) w := by
  unfold execOp
  simp only [hop, hx, hy]
  simp [go_sem]; omega
theorem x_lssF {x y : Operand} {p q : Nat} (hop : oi.op = .binOp .lss 3 x y 3) (hx : a.eval x = .int .i64 (p : Int)) (hy : a.eval y = .int .i64 (q : Int)) (h : ¬ p < q) : (execOp a.eval oi).run Try.prog w = .ok (.value (.bool false)) w := by
  unfold execOp
  simp only [hop, hx, hy]
  simp [go_sem]; omega
theorem opVal (i d : Nat) (v : Value) (w' : World) (hi : ops[i]? = some oi) (hd : oi.dst = some d) (hw : Region.wanted oi (yielded ops a.tmps) = true)
    (hrun : (execOp a.eval oi).run Try.prog w = .ok (.value v) w') (h : K (a.put (some d) v) w') : wpOp Try.prog ops Q i K a w := by
  refine wpOp_step hi (fun K' hK => ?_)
  rw [if_pos hw]
  unfold Oper.wp
  rw [hrun]
  rw [← hd] at h
  exact hK _ _ h
theorem opAppH (i d : Nat) (s x : Operand) (base : Nat) (sl : Value) (l : List Hs) (ao : Option Addr) (k c : Nat) (news : List Hs) (hi : ops[i]? = some oi) (hd : oi.dst = some d) (ho : oi.op = .call { callee := .builtin .append, args := #[s, x], argTypes := #[22, 22] })
    (hw : Region.wanted oi (yielded ops a.tmps) = true) (hs : a.eval s = sl) (hk : news.length = k) (hx : a.eval x = .slice ao k c) (h32 : All32 news) (hown : OwnH w base sl l) (hat : HsAt w ao news) (hbig : l.length + news.length ≤ 1000000) (hbase : base ≤ w.heap.size)
    (h : ∀ v' w', OwnH w' base v' (l ++ news) → w.grownBy w' sl.ownBlock → K (a.put (some d) v') w') : wpOp Try.prog ops Q i K a w := by
  refine wpOp_step hi (fun K' hK => ?_)
  rw [if_pos hw]
  obtain ⟨inf, z, hinf, hz, hsz, hby, hzs, _⟩ := info24
  have hrun : ∃ v' w', (Builtin.append_ #[22, 22] oi.type #[sl, .slice ao k c]).run Try.prog w = .ok v' w' ∧ OwnH w' base v' (l ++ news) ∧ w.grownBy w' sl.ownBlock := by
    subst hk
    cases ao with
    | none =>
      obtain rfl : news = [] := Classical.byContradiction fun hn => by obtain ⟨b, o, he, _⟩ := hat (flat_ne h32 hn); cases he
      obtain ⟨ao', cap', hv, _, hle, _⟩ := hown.at
      have hr := run_append_nothing (P := Try.prog) w 22 22 oi.type 29 inf Try.underlying22 hinf ao' l.length cap' hle (.slice none 0 c) (Src.ofNil w Try.underlying22 c)
      rw [← hv] at hr
      exact ⟨sl, w, hr, by rw [List.append_nil]; exact hown, ⟨rfl, rfl, rfl, Nat.le_refl _, fun _ _ _ => rfl⟩⟩
    | some ad =>
      obtain ⟨v', w', h1, h2, h3, _⟩ := run_append_own (P := Try.prog) w base 22 oi.type 29 inf z 32 32 Try.underlying22 hinf hz hsz hby hzs (by omega) sl l.length (c8 l.flatten) hown ad news.length c (c8 news.flatten) (by rw [c8_len, flat_len h32]) (fun j u hu => by
        have hj := (List.getElem?_eq_some_iff.1 hu).1
        rw [c8_len] at hj
        obtain ⟨b, o, he, hc⟩ := hat (by intro h; rw [h] at hj; simp at hj)
        cases he
        rw [c8_get _ j hj] at hu
        rw [Addr.add_mid, hc j hj, hu]) (c8_one _) (by unfold maxLen; omega) (by omega) hbase
      exact ⟨v', w', h1, by unfold OwnH; rw [List.flatten_append, c8_append, List.length_append]; exact h2, h3⟩
  obtain ⟨v', w', h1, h2, h3⟩ := hrun
  unfold Oper.wp
  simp [execOp, ho, resolve, invoke, builtin, hs, hx, h1, Result.andThen]
  show K' (a.put oi.dst v') w'
  rw [hd]
  exact hK _ _ (h v' w' h2 h3)
end
/-- A rising list in memory. -/
structure WS (W : World) (ao : Option Addr) (n ca : Nat) (l : List Hs) : Prop where
  at_ : HsAt W ao l
  a32 : All32 l
  up : Up l
  len : l.length = n
  cap : n ≤ ca
  nil : ao = none → ca = 0
theorem WS.after {W W' : World} {ao : Option Addr} {n ca : Nat} {l : List Hs} (h : WS W ao n ca l) (ha : After W W') : WS W' ao n ca l := ⟨h.at_.after ha, h.a32, h.up, h.len, h.cap, h.nil⟩
def With (W : World) (l : List Hs) (n : Nat) (h : Hs) (e : Ending) (w' : World) : Prop :=
  ∃ (o : Option Addr) (k c : Nat) (s : List Hs), e = .returned (.slice o k c) ∧ WS w' o k c s ∧ (∀ x, x ∈ s ↔ x = h ∨ x ∈ l) ∧ k ≤ n + 1 ∧ After W w'
theorem Up.ins {l : List Hs} {h : Hs} {i : Nat} (hu : Up l) (h32 : All32 l) (hh : h.length = 32) (hb : ∀ j x, j < i → l[j]? = some x → ltB x h = true) (ha : ∀ x, l[i]? = some x → ltB x h = false ∧ ¬ x = h) : Up (l.take i ++ [h] ++ l.drop i) := by
  have hlt : ∀ x ∈ l.take i, ltStr x h = true := fun x hx => by
    obtain ⟨j, hj, e⟩ := List.getElem_of_mem hx
    have hj2 : j < i := by have := hj; rw [List.length_take] at this; omega
    have e2 : l[j]? = some x := by rw [← e, List.getElem_take]; exact List.getElem?_eq_getElem _
    rw [← ltB_str _ _ (by rw [hh, h32.at e2])]
    exact hb j x hj2 e2
  have hgt : ∀ x ∈ l.drop i, ltStr h x = true := fun x hx => by
    obtain ⟨y, hy⟩ : ∃ y, l[i]? = some y := by
      rcases Nat.lt_or_ge i l.length with hi | hi
      · exact ⟨_, List.getElem?_eq_getElem hi⟩
      · rw [List.drop_eq_nil_of_le hi] at hx; simp at hx
    have hy32 := h32.at hy
    obtain ⟨hi, ey⟩ := List.getElem?_eq_some_iff.1 hy
    obtain ⟨f1, f2⟩ := ha y hy
    rw [ltB_str _ _ (by rw [hh, hy32])] at f1
    have f3 : ltStr h y = true := ltStr_total f1 (fun e => f2 e.symm)
    rw [List.drop_eq_getElem_cons hi, ey] at hx
    rcases List.mem_cons.1 hx with rfl | hx
    · exact f3
    · have hp : ltStr y x = true := by
        have hd : Up (l.drop i) := List.Pairwise.drop hu
        rw [List.drop_eq_getElem_cons hi, ey] at hd
        exact (List.pairwise_cons.1 hd).1 x hx
      exact swo_ltStr.trans _ _ _ f3 hp
  unfold Up
  rw [List.append_assoc, List.pairwise_append]
  refine ⟨List.Pairwise.take hu, ?_, ?_⟩
  · rw [List.singleton_append]
    exact List.Pairwise.cons hgt (List.Pairwise.drop hu)
  · intro x hx y hy
    rcases List.mem_append.1 hy with hy | hy
    · simp at hy; subst hy; exact hlt x hx
    · exact swo_ltStr.trans _ _ _ (hlt x hx) (hgt y hy)
theorem mem_ins {l : List Hs} {h : Hs} (i : Nat) (x : Hs) : x ∈ l.take i ++ [h] ++ l.drop i ↔ x = h ∨ x ∈ l := by
  have e : x ∈ l ↔ x ∈ l.take i ∨ x ∈ l.drop i := by rw [← List.mem_append, List.take_append_drop]
  rw [List.mem_append, List.mem_append, List.mem_singleton, e]
  by_cases h1 : x = h <;> by_cases h2 : x ∈ l.take i <;> by_cases h3 : x ∈ l.drop i <;> simp [h1, h2, h3]
theorem All32.ins {l : List Hs} {h : Hs} (h32 : All32 l) (hh : h.length = 32) (i : Nat) : All32 (l.take i ++ [h] ++ l.drop i) := fun x hx => by
  rcases (mem_ins i x).1 hx with rfl | hx
  · exact hh
  · exact h32 x hx
theorem With.put {W w' : World} {l : List Hs} {n ca i : Nat} {h : Hs} {ao : Option Addr} (hw : WS W ao n ca l) (hh : h.length = 32) (hb : ∀ j x, j < i → l[j]? = some x → ltB x h = true) (ha : ∀ x, l[i]? = some x → ltB x h = false ∧ ¬ x = h) {v : Value} {base : Nat} (ho : OwnH w' base v (l.take i ++ [h] ++ l.drop i)) (hA : After W w') : With W l n h (.returned v) w' := by
  obtain ⟨o, c, rfl, hat, hc, _, hz⟩ := ho.at
  refine ⟨o, _, c, _, rfl, ⟨hat, hw.a32.ins hh i, hw.up.ins hw.a32 hh hb ha, rfl, hc, hz⟩, mem_ins i, ?_, hA⟩
  have := hw.len
  simp only [List.length_append, List.length_take, List.length_drop, List.length_cons, List.length_nil]
  omega
theorem With.same {W w' : World} {l : List Hs} {n ca i : Nat} {h : Hs} {ao : Option Addr} (hw : WS W ao n ca l) (hi : l[i]? = some h) (hA : After W w') : With W l n h (.returned (.slice ao n ca)) w' := by
  refine ⟨ao, n, ca, l, rfl, hw.after hA, fun x => ⟨Or.inr, fun h => ?_⟩, by omega, hA⟩
  rcases h with rfl | h
  · exact List.mem_of_getElem? hi
  · exact h

set_option maxRecDepth 100000 in
set_option maxHeartbeats 6400000 in
theorem with_any (ao : Option Addr) (n ca : Nat) (l : List Hs) (h : Hs) (hh : h.length = 32) (hn : n ≤ 100000) (w : World) (hw : WS w ao n ca l) :
    Calls Try.prog 33 #[.slice ao n ca, hv h] w (With w l n h) := by
  have HW : Hid (WS w ao n ca l) := hw
  have HH : Hid (h.length = 32) := hh
  have HBX0 : Hid ((w.alloc (.cells (c8 h).toArray 29)).rangeAt w.heap.size 0 (c8 h)) := fun j v hj => by rw [Nat.zero_add]; exact (RowIs.new w 29 (c8 h)).cell hj
  have HA01 : Hid (After w (w.alloc (.cells (c8 h).toArray 29))) := after_alloc (After.refl w) _
  have hcan : n ≤ ca := hw.cap
  clear hw hh
  unfold hv
  go_enter Try.func33, Try.ntmps33
  go_wp2_with fail
  obtain ⟨B, hB⟩ : ∃ B, w.heap.size = B := ⟨_, rfl⟩
  rw [hB] at HBX0
  rw [hB]
  obtain ⟨w1, hw1⟩ : ∃ w1, w.alloc (.cells (c8 h).toArray 29) = w1 := ⟨_, rfl⟩
  rw [hw1] at HBX0 HA01
  rw [hw1]
  have HBX : Hid (w1.rangeAt B 0 (c8 h)) := HBX0
  clear hw1 hB HBX0
  go_loopw [5] (fun vi wr => ∃ i : Nat, vi = .int .i64 (i : Int) ∧ i ≤ n ∧ Hid (After w1 wr ∧ ∀ j x, j < i → l[j]? = some x → ltB x h = true)) (fun vi _ => n - (intOf vi).toNat)
  case atStart => exact ⟨0, rfl, Nat.zero_le _, After.refl w1, fun j _ hj => by omega⟩
  case round =>
    obtain ⟨i, rfl, hile, HI⟩ := hrel
    go_wp2_with fail
    by_cases hin : i < n
    · obtain ⟨x, hx⟩ : ∃ x, l[i]? = some x := ⟨_, List.getElem?_eq_getElem (by rw [HW.out.len]; exact hin)⟩
      have HLX : Hid (l[i]? = some x) := hx
      obtain ⟨b, o, hao, hrg⟩ := HW.out.at_.get HW.out.a32 (fun e => by rw [e] at hx; simp at hx)
      obtain rfl := hao
      have HX : Hid (x.length = 32 ∧ wr.rangeAt b (o + i * 32) (c8 x) ∧ wr.rangeAt B 0 (c8 h)) := ⟨HW.out.a32.at hx, range_after (hrg i x hx) (After.trans HA01.out HI.out.1), range_after HBX.out HI.out.1⟩
      clear hx hrg
      refine wp_region_noPanic ?_
      refine wp_region_held_drew (S := After wr) (by kernel_rfl) (After.drew (After.refl wr)) ?_
      intro hS0
      refine tk 0 7 (.int .i64 (i : Int)) (fuel := 11) rfl (by kernel_rfl) (by kernel_rfl) (by kernel_rfl) (by kernel_rfl) noPanic_false (by kernel_rfl) (fun _ _ => by kernel_rfl) hS0 ?_
      refine tk 1 8 (.slice (some ⟨b, o, none⟩) n ca) (fuel := 10) rfl (by kernel_rfl) (by kernel_rfl) (by kernel_rfl) (by kernel_rfl) noPanic_false (by kernel_rfl) (fun _ _ => by kernel_rfl) hS0 ?_
      refine tk 2 9 (.int .i64 (n : Int)) (fuel := 9) rfl (by kernel_rfl) (by kernel_rfl) (by kernel_rfl) (by kernel_rfl) noPanic_false (by kernel_rfl) (fun _ _ => by kernel_rfl) hS0 ?_
      refine tk 3 10 (.bool true) (fuel := 8) rfl (by kernel_rfl) (by kernel_rfl) (by kernel_rfl) (by kernel_rfl) noPanic_false (by kernel_rfl) (fun _ _ => x_lssT (p := i) (q := n) (x := .tmp 7) (y := .tmp 9) (by kernel_rfl) (by kernel_rfl) (by kernel_rfl) hin) hS0 ?_
      refine tk 4 11 (.bool true) (fuel := 7) rfl (by kernel_rfl) (by kernel_rfl) (by kernel_rfl) (by kernel_rfl) noPanic_false (by kernel_rfl) (fun _ _ => by kernel_rfl) hS0 ?_
      refine tk 5 12 (.slice (some ⟨b, o, none⟩) n ca) (fuel := 6) rfl (by kernel_rfl) (by kernel_rfl) (by kernel_rfl) (by kernel_rfl) noPanic_false (by kernel_rfl) (fun _ _ => by kernel_rfl) hS0 ?_
      refine tk 6 13 (.int .i64 (i : Int)) (fuel := 5) rfl (by kernel_rfl) (by kernel_rfl) (by kernel_rfl) (by kernel_rfl) noPanic_false (by kernel_rfl) (fun _ _ => by kernel_rfl) hS0 ?_
      refine tk 7 14 (.pointer (some ⟨b, o + i * 32, none⟩)) (fuel := 4) rfl (by kernel_rfl) (by kernel_rfl) (by kernel_rfl) (by kernel_rfl) noPanic_false (by kernel_rfl) (fun W _ => x_idx22 (n := n) (c := ca) (x := .tmp 12) (y := .tmp 13) (by kernel_rfl) (by kernel_rfl) (by kernel_rfl) hin) hS0 ?_
      refine tk 8 15 (hv x) (fuel := 3) rfl (by kernel_rfl) (by kernel_rfl) (by kernel_rfl) (by kernel_rfl) noPanic_false (by kernel_rfl) (fun W hW => x_ld24 HX.out.1 (x := .tmp 14) (g := b) (p := o + i * 32) (by kernel_rfl) (by kernel_rfl) (range_after HX.out.2.1 hW)) hS0 ?_
      refine tk 9 16 (hv h) (fuel := 2) rfl (by kernel_rfl) (by kernel_rfl) (by kernel_rfl) (by kernel_rfl) noPanic_false (by kernel_rfl) (fun W hW => x_ld24 HH.out (x := .tmp 3) (g := B) (p := 0) (by kernel_rfl) (by kernel_rfl) (range_after HX.out.2.2 hW)) hS0 ?_
      refine tkCallS 10 17 41 #[hv x, hv h] (fun v w' => v = .bool (ltB x h) ∧ After wr w') (fuel := 1) rfl (by kernel_rfl) (by kernel_rfl) (by kernel_rfl) (fun _ => by kernel_rfl) ((refLess_any x h HX.out.1 HH.out wr.drew).mono (fun e w' ⟨he, ha⟩ => ⟨_, he, rfl, After.trans hS0 ha⟩)) ?_
      intro v2 w2 ⟨hv2, hA2⟩
      subst hv2
      refine ⟨hA2, ?_⟩
      refine tk 11 18 (.bool (ltB x h)) (fuel := 0) rfl (by kernel_rfl) (by kernel_rfl) (by kernel_rfl) (by kernel_rfl) noPanic_false (by kernel_rfl) (fun _ _ => by kernel_rfl) hA2 ?_
      refine wpAnyH_done (by kernel_rfl) (NoPanic.normal ?_) _
      have HA2 := show Hid (After wr w2) from hA2
      clear hA2 hS0
      cases hlb : ltB x h with
      | true =>
        have HLB : Hid (ltB x h = true) := hlb
        clear hlb
        go_simp
        go_wp2_with fail
        go_roundw
        case rel => exact ⟨i + 1, by go_num, by omega, After.trans HI.out.1 HA2.out, fun j y hj hy => by
          rcases Nat.lt_or_ge j i with hji | hji
          · exact HI.out.2 j y hji hy
          · obtain rfl : j = i := by omega
            rw [HLX.out] at hy; cases hy; exact HLB.out⟩
        case measure => simp [intOf]; omega
      | false =>
        have HLB : Hid (ltB x h = false) := hlb
        clear hlb
        go_simp
        go_wp2_with fail
        refine wp_region_noPanic ?_
        refine wp_region_held_drew (S := After w2) (by kernel_rfl) (After.drew (After.refl w2)) ?_
        intro hT0
        refine tk 0 21 (.int .i64 (i : Int)) (fuel := 11) rfl (by kernel_rfl) (by kernel_rfl) (by kernel_rfl) (by kernel_rfl) noPanic_false (by kernel_rfl) (fun _ _ => by kernel_rfl) hT0 ?_
        refine tk 1 22 (.slice (some ⟨b, o, none⟩) n ca) (fuel := 10) rfl (by kernel_rfl) (by kernel_rfl) (by kernel_rfl) (by kernel_rfl) noPanic_false (by kernel_rfl) (fun _ _ => by kernel_rfl) hT0 ?_
        refine tk 2 23 (.int .i64 (n : Int)) (fuel := 9) rfl (by kernel_rfl) (by kernel_rfl) (by kernel_rfl) (by kernel_rfl) noPanic_false (by kernel_rfl) (fun _ _ => by kernel_rfl) hT0 ?_
        refine tk 3 24 (.bool true) (fuel := 8) rfl (by kernel_rfl) (by kernel_rfl) (by kernel_rfl) (by kernel_rfl) noPanic_false (by kernel_rfl) (fun _ _ => x_lssT (p := i) (q := n) (x := .tmp 21) (y := .tmp 23) (by kernel_rfl) (by kernel_rfl) (by kernel_rfl) hin) hT0 ?_
        refine tk 4 25 (.bool true) (fuel := 7) rfl (by kernel_rfl) (by kernel_rfl) (by kernel_rfl) (by kernel_rfl) noPanic_false (by kernel_rfl) (fun _ _ => by kernel_rfl) hT0 ?_
        refine tk 5 26 (.slice (some ⟨b, o, none⟩) n ca) (fuel := 6) rfl (by kernel_rfl) (by kernel_rfl) (by kernel_rfl) (by kernel_rfl) noPanic_false (by kernel_rfl) (fun _ _ => by kernel_rfl) hT0 ?_
        refine tk 6 27 (.int .i64 (i : Int)) (fuel := 5) rfl (by kernel_rfl) (by kernel_rfl) (by kernel_rfl) (by kernel_rfl) noPanic_false (by kernel_rfl) (fun _ _ => by kernel_rfl) hT0 ?_
        refine tk 7 28 (.pointer (some ⟨b, o + i * 32, none⟩)) (fuel := 4) rfl (by kernel_rfl) (by kernel_rfl) (by kernel_rfl) (by kernel_rfl) noPanic_false (by kernel_rfl) (fun W _ => x_idx22 (n := n) (c := ca) (x := .tmp 26) (y := .tmp 27) (by kernel_rfl) (by kernel_rfl) (by kernel_rfl) hin) hT0 ?_
        refine tk 8 29 (hv x) (fuel := 3) rfl (by kernel_rfl) (by kernel_rfl) (by kernel_rfl) (by kernel_rfl) noPanic_false (by kernel_rfl) (fun W hW => x_ld24 HX.out.1 (x := .tmp 28) (g := b) (p := o + i * 32) (by kernel_rfl) (by kernel_rfl) (range_after HX.out.2.1 (After.trans HA2.out hW))) hT0 ?_
        refine tk 9 30 (hv h) (fuel := 2) rfl (by kernel_rfl) (by kernel_rfl) (by kernel_rfl) (by kernel_rfl) noPanic_false (by kernel_rfl) (fun W hW => x_ld24 HH.out (x := .tmp 3) (g := B) (p := 0) (by kernel_rfl) (by kernel_rfl) (range_after HX.out.2.2 (After.trans HA2.out hW))) hT0 ?_
        refine tk 10 31 (.bool (decide (x = h))) (fuel := 1) rfl (by kernel_rfl) (by kernel_rfl) (by kernel_rfl) (by kernel_rfl) noPanic_false (by kernel_rfl) (fun W hW => x_eq24 HX.out.1 HH.out (x := .tmp 29) (y := .tmp 30) (by kernel_rfl) (by kernel_rfl) (by kernel_rfl)) hT0 ?_
        refine tk 11 32 (.bool (decide (x = h))) (fuel := 0) rfl (by kernel_rfl) (by kernel_rfl) (by kernel_rfl) (by kernel_rfl) noPanic_false (by kernel_rfl) (fun _ _ => by kernel_rfl) hT0 ?_
        refine wpAnyH_done (by kernel_rfl) (NoPanic.normal ?_) _
        have HA3 := show Hid (After w2 w2.drew) from hT0
        clear hT0
        obtain ⟨w3, hw3⟩ : ∃ w3, w2.drew = w3 := ⟨_, rfl⟩
        rw [hw3] at HA3
        rw [hw3]
        clear hw3
        have HA13 : Hid (After w1 w3) := After.trans HI.out.1 (After.trans HA2.out HA3.out)
        have HAW3 : Hid (After w w3) := After.trans HA01.out HA13.out
        by_cases hxh : x = h
        · rw [decide_eq_true hxh]
          have HLH : Hid (l[i]? = some h) := by rw [← hxh]; exact HLX.out
          clear hxh
          go_simp
          go_wp2_with fail
          go_ret
          exact With.same HW.out HLH.out HAW3.out
        · rw [decide_eq_false hxh]
          have HAI : Hid (∀ y, l[i]? = some y → ltB y h = false ∧ ¬ y = h) := fun y hy => by rw [HLX.out] at hy; cases hy; exact ⟨HLB.out, hxh⟩
          clear hxh
          go_simp
          go_wp2_with fail
          have HW3 : Hid (WS w3 (some ⟨b, o, none⟩) n ca l) := HW.out.after HAW3.out
          have HB3 : Hid (w3.rangeAt B 0 (c8 h)) := range_after HBX.out HA13.out
          refine wp_region_noPanic ?_
          refine wp_region_held_drew (S := After w3) (by kernel_rfl) (After.drew (After.refl w3)) ?_
          intro hU0
          refine tk 0 34 (.slice none 0 0) (fuel := 8) rfl (by kernel_rfl) (by kernel_rfl) (by kernel_rfl) (by kernel_rfl) noPanic_false (by kernel_rfl) (fun _ _ => by kernel_rfl) hU0 ?_
          refine tk 1 35 (.slice (some ⟨b, o, none⟩) n ca) (fuel := 7) rfl (by kernel_rfl) (by kernel_rfl) (by kernel_rfl) (by kernel_rfl) noPanic_false (by kernel_rfl) (fun _ _ => by kernel_rfl) hU0 ?_
          refine tk 2 36 (.int .i64 (i : Int)) (fuel := 6) rfl (by kernel_rfl) (by kernel_rfl) (by kernel_rfl) (by kernel_rfl) noPanic_false (by kernel_rfl) (fun _ _ => by kernel_rfl) hU0 ?_
          refine tk 3 37 (.slice (some ⟨b, o, none⟩) i ca) (fuel := 5) rfl (by kernel_rfl) (by kernel_rfl) (by kernel_rfl) (by kernel_rfl) noPanic_false (by kernel_rfl) (fun W _ => x_sl22 (x := .tmp 35) (y := .tmp 36) (n := n) (k := i) (by kernel_rfl) (by kernel_rfl) (by kernel_rfl) (by omega) HW.out.nil) hU0 ?_
          refine tk 5 39 (hv h) (fuel := 4) rfl (by kernel_rfl) (by kernel_rfl) (by kernel_rfl) (by kernel_rfl) noPanic_false (by kernel_rfl) (fun W hW => x_ld24 HH.out (x := .tmp 3) (g := B) (p := 0) (by kernel_rfl) (by kernel_rfl) (range_after HB3.out hW)) hU0 ?_
          refine wpAnyH_all (rs := [4, 6]) (by kernel_rfl) (by simp) (fun i' hi => ?_)
          have hi2 : i' = 4 ∨ i' = 6 := by simpa using hi
          clear hi
          rcases hi2 with rfl | rfl
          · refine opAppH 4 38 (.tmp 34) (.tmp 37) w3.heap.size (.slice none 0 0) [] (some ⟨b, o, none⟩) i ca (l.take i) rfl (by kernel_rfl) (by kernel_rfl) (by kernel_rfl) (by kernel_rfl) (by rw [List.length_take, HW.out.len]; omega) (by kernel_rfl) (fun x hx => HW.out.a32 x (List.mem_of_mem_take hx)) (OwnH.nil _ _) ((HW3.out.after hU0).at_.take HW.out.a32 i) (by rw [List.length_nil, List.length_take, HW.out.len]; omega) (Nat.le_refl _) ?_
            intro v4 w4 ho4 hg4
            rw [List.nil_append] at ho4
            have hA4 : After w3 w4 := after_grown hU0 hg4 (Nat.le_refl _) (fun k hk => by cases hk)
            refine ⟨hA4, ?_⟩
            refine wpAnyH_all (rs := [6]) (by kernel_rfl) (by simp) (fun i' hi => ?_)
            obtain rfl : i' = 6 := by simpa using hi
            clear hi
            refine opVal 6 40 (.slice (some ⟨w4.heap.size, 0, none⟩) 1 1) (w4.alloc (.cells (c8 h).toArray 29)) rfl (by kernel_rfl) (by kernel_rfl) (x_bs22 HH.out (x := .tmp 39) (by kernel_rfl) (by kernel_rfl)) ?_
            refine ⟨after_alloc hA4 _, ?_⟩
            refine wpAnyH_all (rs := [7]) (by kernel_rfl) (by simp) (fun i' hi => ?_)
            obtain rfl : i' = 7 := by simpa using hi
            clear hi
            refine opAppH 7 41 (.tmp 38) (.tmp 40) w3.heap.size v4 (l.take i) (some ⟨w4.heap.size, 0, none⟩) 1 1 [h] rfl (by kernel_rfl) (by kernel_rfl) (by kernel_rfl) (by kernel_rfl) rfl (by kernel_rfl) (All32.cons HH.out All32.nil) (ho4.after (after_alloc (After.refl w4) _)) (HsAt.one w4 h) (by rw [List.length_take, HW.out.len]; simp only [List.length_cons, List.length_nil]; omega) (by have := hA4.size; simp; omega) ?_
            intro v6 w6 ho6 hg6
            have hA6 : After w3 w6 := after_grown (after_alloc hA4 _) hg6 (Nat.le_refl _) (fun g hg => (ho4.lt g hg).1)
            refine ⟨hA6, ?_⟩
            clear ho4 hg4 hA4 hg6 hU0
            refine tk 8 6 v6 (fuel := 0) rfl (by kernel_rfl) (by kernel_rfl) (by kernel_rfl) (by kernel_rfl) noPanic_false (by kernel_rfl) (fun _ _ => by kernel_rfl) hA6 ?_
            refine wpAnyH_done (by kernel_rfl) (NoPanic.normal ?_) _
            have HO6 : Hid (OwnH w6 w3.heap.size v6 (l.take i ++ [h])) := ho6
            have HA6 : Hid (After w3 w6) := hA6
            clear ho6 hA6
            have SL8 := fun W => sl22_lo (some ⟨b, o, none⟩) n ca i HW.out.cap hile HW.out.nil W
            go_simp
            go_wp2_with (at_builtin; refine wpList_append_hashes rfl (.tmp 42) (.tmp 45) rfl w3.heap.size v6 (l.take i ++ [h]) rfl HO6.out (cut22 (some ⟨b, o, none⟩) i ca) (ca - i) (l.drop i) (fun x hx => HW.out.a32 x (List.mem_of_mem_drop hx)) (n - i) (by rw [List.length_drop, HW.out.len]) rfl ((HW3.out.at_.after HA6.out).drop HW.out.a32 i ca (by rw [HW.out.len]; exact HW.out.cap)) (by rw [List.length_append, List.length_take, List.length_drop, HW.out.len]; simp only [List.length_cons, List.length_nil]; omega) HA6.out.size ?_; intro v8 w8 ho8 hg8; have HO8 := show Hid (OwnH w8 w3.heap.size v8 (l.take i ++ [h] ++ l.drop i)) from ho8; have HA8 := show Hid (After w3 w8) from after_grown HA6.out hg8 (Nat.le_refl _) (fun g hg => (HO6.out.lt g hg).1); clear ho8 hg8)
            go_ret
            exact With.put HW.out HH.out HI.out.2 HAI.out HO8.out (After.trans HAW3.out HA8.out)
          · refine opVal 6 40 (.slice (some ⟨w3.heap.size, 0, none⟩) 1 1) (w3.drew.alloc (.cells (c8 h).toArray 29)) rfl (by kernel_rfl) (by kernel_rfl) (x_bs22 (w := w3.drew) HH.out (x := .tmp 39) (by kernel_rfl) (by kernel_rfl)) ?_
            have hA4 : After w3 (w3.drew.alloc (.cells (c8 h).toArray 29)) := after_alloc hU0 _
            obtain ⟨w4, hw4⟩ : ∃ w4, w3.drew.alloc (.cells (c8 h).toArray 29) = w4 := ⟨_, rfl⟩
            have hone : HsAt w4 (some ⟨w3.heap.size, 0, none⟩) [h] := by rw [← hw4]; exact HsAt.one w3.drew h
            have hz4 : w3.heap.size ≤ w4.heap.size := by rw [← hw4]; simp
            rw [hw4] at hA4
            rw [hw4]
            clear hw4
            refine ⟨hA4, ?_⟩
            refine wpAnyH_all (rs := [4]) (by kernel_rfl) (by simp) (fun i' hi => ?_)
            obtain rfl : i' = 4 := by simpa using hi
            clear hi
            refine opAppH 4 38 (.tmp 34) (.tmp 37) w3.heap.size (.slice none 0 0) [] (some ⟨b, o, none⟩) i ca (l.take i) rfl (by kernel_rfl) (by kernel_rfl) (by kernel_rfl) (by kernel_rfl) (by rw [List.length_take, HW.out.len]; omega) (by kernel_rfl) (fun x hx => HW.out.a32 x (List.mem_of_mem_take hx)) (OwnH.nil _ _) ((HW3.out.after hA4).at_.take HW.out.a32 i) (by rw [List.length_nil, List.length_take, HW.out.len]; omega) (hz4) ?_
            intro v4 w5 ho4 hg4
            rw [List.nil_append] at ho4
            have hA5 : After w4 w5 := after_grown (After.refl w4) hg4 (Nat.le_refl _) (fun k hk => by cases hk)
            refine ⟨After.trans hA4 hA5, ?_⟩
            refine wpAnyH_all (rs := [7]) (by kernel_rfl) (by simp) (fun i' hi => ?_)
            obtain rfl : i' = 7 := by simpa using hi
            clear hi
            refine opAppH 7 41 (.tmp 38) (.tmp 40) w3.heap.size v4 (l.take i) (some ⟨w3.heap.size, 0, none⟩) 1 1 [h] rfl (by kernel_rfl) (by kernel_rfl) (by kernel_rfl) (by kernel_rfl) rfl (by kernel_rfl) (All32.cons HH.out All32.nil) ho4 (hone.after hA5) (by rw [List.length_take, HW.out.len]; simp only [List.length_cons, List.length_nil]; omega) (by have := hA5.size; omega) ?_
            intro v6 w6 ho6 hg6
            have hA6 : After w3 w6 := after_grown (After.trans hA4 hA5) hg6 (Nat.le_refl _) (fun g hg => (ho4.lt g hg).1)
            refine ⟨hA6, ?_⟩
            clear ho4 hg4 hA4 hA5 hg6 hU0 hone hz4
            refine tk 8 6 v6 (fuel := 0) rfl (by kernel_rfl) (by kernel_rfl) (by kernel_rfl) (by kernel_rfl) noPanic_false (by kernel_rfl) (fun _ _ => by kernel_rfl) hA6 ?_
            refine wpAnyH_done (by kernel_rfl) (NoPanic.normal ?_) _
            have HO6 : Hid (OwnH w6 w3.heap.size v6 (l.take i ++ [h])) := ho6
            have HA6 : Hid (After w3 w6) := hA6
            clear ho6 hA6
            have SL8 := fun W => sl22_lo (some ⟨b, o, none⟩) n ca i HW.out.cap hile HW.out.nil W
            go_simp
            go_wp2_with (at_builtin; refine wpList_append_hashes rfl (.tmp 42) (.tmp 45) rfl w3.heap.size v6 (l.take i ++ [h]) rfl HO6.out (cut22 (some ⟨b, o, none⟩) i ca) (ca - i) (l.drop i) (fun x hx => HW.out.a32 x (List.mem_of_mem_drop hx)) (n - i) (by rw [List.length_drop, HW.out.len]) rfl ((HW3.out.at_.after HA6.out).drop HW.out.a32 i ca (by rw [HW.out.len]; exact HW.out.cap)) (by rw [List.length_append, List.length_take, List.length_drop, HW.out.len]; simp only [List.length_cons, List.length_nil]; omega) HA6.out.size ?_; intro v8 w8 ho8 hg8; have HO8 := show Hid (OwnH w8 w3.heap.size v8 (l.take i ++ [h] ++ l.drop i)) from ho8; have HA8 := show Hid (After w3 w8) from after_grown HA6.out hg8 (Nat.le_refl _) (fun g hg => (HO6.out.lt g hg).1); clear ho8 hg8)
            go_ret
            exact With.put HW.out HH.out HI.out.2 HAI.out HO8.out (After.trans HAW3.out HA8.out)
    · have HLX : Hid (l[i]? = none) := List.getElem?_eq_none (by rw [HW.out.len]; omega)
      refine wp_region_noPanic ?_
      refine wp_region_held_drew (S := After wr) (by kernel_rfl) (After.drew (After.refl wr)) ?_
      intro hS0
      refine tk 0 7 (.int .i64 (i : Int)) (fuel := 11) rfl (by kernel_rfl) (by kernel_rfl) (by kernel_rfl) (by kernel_rfl) noPanic_false (by kernel_rfl) (fun _ _ => by kernel_rfl) hS0 ?_
      refine tk 1 8 (.slice ao n ca) (fuel := 10) rfl (by kernel_rfl) (by kernel_rfl) (by kernel_rfl) (by kernel_rfl) noPanic_false (by kernel_rfl) (fun _ _ => by kernel_rfl) hS0 ?_
      refine tk 2 9 (.int .i64 (n : Int)) (fuel := 9) rfl (by kernel_rfl) (by kernel_rfl) (by kernel_rfl) (by kernel_rfl) noPanic_false (by kernel_rfl) (fun _ _ => by kernel_rfl) hS0 ?_
      refine tk 3 10 (.bool false) (fuel := 8) rfl (by kernel_rfl) (by kernel_rfl) (by kernel_rfl) (by kernel_rfl) noPanic_false (by kernel_rfl) (fun _ _ => x_lssF (p := i) (q := n) (x := .tmp 7) (y := .tmp 9) (by kernel_rfl) (by kernel_rfl) (by kernel_rfl) hin) hS0 ?_
      refine tk 4 11 (.bool false) (fuel := 7) rfl (by kernel_rfl) (by kernel_rfl) (by kernel_rfl) (by kernel_rfl) noPanic_false (by kernel_rfl) (fun _ _ => by kernel_rfl) hS0 ?_
      refine tkSkip 5 12 (fuel := 6) rfl (by kernel_rfl) (by kernel_rfl) (by kernel_rfl) (by kernel_rfl) noPanic_false (by kernel_rfl) hS0 ?_
      refine tkSkip 6 13 (fuel := 5) rfl (by kernel_rfl) (by kernel_rfl) (by kernel_rfl) (by kernel_rfl) noPanic_false (by kernel_rfl) hS0 ?_
      refine tkSkip 7 14 (fuel := 4) rfl (by kernel_rfl) (by kernel_rfl) (by kernel_rfl) (by kernel_rfl) noPanic_false (by kernel_rfl) hS0 ?_
      refine tkSkip 8 15 (fuel := 3) rfl (by kernel_rfl) (by kernel_rfl) (by kernel_rfl) (by kernel_rfl) noPanic_false (by kernel_rfl) hS0 ?_
      refine tkSkip 9 16 (fuel := 2) rfl (by kernel_rfl) (by kernel_rfl) (by kernel_rfl) (by kernel_rfl) noPanic_false (by kernel_rfl) hS0 ?_
      refine tkSkip 10 17 (fuel := 1) rfl (by kernel_rfl) (by kernel_rfl) (by kernel_rfl) (by kernel_rfl) noPanic_false (by kernel_rfl) hS0 ?_
      refine tk 11 18 (.bool false) (fuel := 0) rfl (by kernel_rfl) (by kernel_rfl) (by kernel_rfl) (by kernel_rfl) noPanic_false (by kernel_rfl) (fun _ _ => by kernel_rfl) hS0 ?_
      refine wpAnyH_done (by kernel_rfl) (NoPanic.normal ?_) _
      have HA2 := show Hid (After wr wr.drew) from hS0
      clear hS0
      obtain ⟨w2, hw2⟩ : ∃ w2, wr.drew = w2 := ⟨_, rfl⟩
      rw [hw2] at HA2
      rw [hw2]
      clear hw2
      go_simp
      go_wp2_with fail
      refine wp_region_noPanic ?_
      refine wp_region_held_drew (S := After w2) (by kernel_rfl) (After.drew (After.refl w2)) ?_
      intro hT0
      refine tk 0 21 (.int .i64 (i : Int)) (fuel := 11) rfl (by kernel_rfl) (by kernel_rfl) (by kernel_rfl) (by kernel_rfl) noPanic_false (by kernel_rfl) (fun _ _ => by kernel_rfl) hT0 ?_
      refine tk 1 22 (.slice ao n ca) (fuel := 10) rfl (by kernel_rfl) (by kernel_rfl) (by kernel_rfl) (by kernel_rfl) noPanic_false (by kernel_rfl) (fun _ _ => by kernel_rfl) hT0 ?_
      refine tk 2 23 (.int .i64 (n : Int)) (fuel := 9) rfl (by kernel_rfl) (by kernel_rfl) (by kernel_rfl) (by kernel_rfl) noPanic_false (by kernel_rfl) (fun _ _ => by kernel_rfl) hT0 ?_
      refine tk 3 24 (.bool false) (fuel := 8) rfl (by kernel_rfl) (by kernel_rfl) (by kernel_rfl) (by kernel_rfl) noPanic_false (by kernel_rfl) (fun _ _ => x_lssF (p := i) (q := n) (x := .tmp 21) (y := .tmp 23) (by kernel_rfl) (by kernel_rfl) (by kernel_rfl) hin) hT0 ?_
      refine tk 4 25 (.bool false) (fuel := 7) rfl (by kernel_rfl) (by kernel_rfl) (by kernel_rfl) (by kernel_rfl) noPanic_false (by kernel_rfl) (fun _ _ => by kernel_rfl) hT0 ?_
      refine tkSkip 5 26 (fuel := 6) rfl (by kernel_rfl) (by kernel_rfl) (by kernel_rfl) (by kernel_rfl) noPanic_false (by kernel_rfl) hT0 ?_
      refine tkSkip 6 27 (fuel := 5) rfl (by kernel_rfl) (by kernel_rfl) (by kernel_rfl) (by kernel_rfl) noPanic_false (by kernel_rfl) hT0 ?_
      refine tkSkip 7 28 (fuel := 4) rfl (by kernel_rfl) (by kernel_rfl) (by kernel_rfl) (by kernel_rfl) noPanic_false (by kernel_rfl) hT0 ?_
      refine tkSkip 8 29 (fuel := 3) rfl (by kernel_rfl) (by kernel_rfl) (by kernel_rfl) (by kernel_rfl) noPanic_false (by kernel_rfl) hT0 ?_
      refine tkSkip 9 30 (fuel := 2) rfl (by kernel_rfl) (by kernel_rfl) (by kernel_rfl) (by kernel_rfl) noPanic_false (by kernel_rfl) hT0 ?_
      refine tkSkip 10 31 (fuel := 1) rfl (by kernel_rfl) (by kernel_rfl) (by kernel_rfl) (by kernel_rfl) noPanic_false (by kernel_rfl) hT0 ?_
      refine tk 11 32 (.bool false) (fuel := 0) rfl (by kernel_rfl) (by kernel_rfl) (by kernel_rfl) (by kernel_rfl) noPanic_false (by kernel_rfl) (fun _ _ => by kernel_rfl) hT0 ?_
      refine wpAnyH_done (by kernel_rfl) (NoPanic.normal ?_) _
      have HA3 := show Hid (After w2 w2.drew) from hT0
      clear hT0
      obtain ⟨w3, hw3⟩ : ∃ w3, w2.drew = w3 := ⟨_, rfl⟩
      rw [hw3] at HA3
      rw [hw3]
      clear hw3
      have HA13 : Hid (After w1 w3) := After.trans HI.out.1 (After.trans HA2.out HA3.out)
      have HAW3 : Hid (After w w3) := After.trans HA01.out HA13.out
      have HAI : Hid (∀ y, l[i]? = some y → ltB y h = false ∧ ¬ y = h) := fun y hy => by rw [HLX.out] at hy; cases hy
      go_simp
      go_wp2_with fail
      have HW3 : Hid (WS w3 ao n ca l) := HW.out.after HAW3.out
      have HB3 : Hid (w3.rangeAt B 0 (c8 h)) := range_after HBX.out HA13.out
      refine wp_region_noPanic ?_
      refine wp_region_held_drew (S := After w3) (by kernel_rfl) (After.drew (After.refl w3)) ?_
      intro hU0
      refine tk 0 34 (.slice none 0 0) (fuel := 8) rfl (by kernel_rfl) (by kernel_rfl) (by kernel_rfl) (by kernel_rfl) noPanic_false (by kernel_rfl) (fun _ _ => by kernel_rfl) hU0 ?_
      refine tk 1 35 (.slice ao n ca) (fuel := 7) rfl (by kernel_rfl) (by kernel_rfl) (by kernel_rfl) (by kernel_rfl) noPanic_false (by kernel_rfl) (fun _ _ => by kernel_rfl) hU0 ?_
      refine tk 2 36 (.int .i64 (i : Int)) (fuel := 6) rfl (by kernel_rfl) (by kernel_rfl) (by kernel_rfl) (by kernel_rfl) noPanic_false (by kernel_rfl) (fun _ _ => by kernel_rfl) hU0 ?_
      refine tk 3 37 (.slice ao i ca) (fuel := 5) rfl (by kernel_rfl) (by kernel_rfl) (by kernel_rfl) (by kernel_rfl) noPanic_false (by kernel_rfl) (fun W _ => x_sl22 (x := .tmp 35) (y := .tmp 36) (n := n) (k := i) (by kernel_rfl) (by kernel_rfl) (by kernel_rfl) (by omega) HW.out.nil) hU0 ?_
      refine tk 5 39 (hv h) (fuel := 4) rfl (by kernel_rfl) (by kernel_rfl) (by kernel_rfl) (by kernel_rfl) noPanic_false (by kernel_rfl) (fun W hW => x_ld24 HH.out (x := .tmp 3) (g := B) (p := 0) (by kernel_rfl) (by kernel_rfl) (range_after HB3.out hW)) hU0 ?_
      refine wpAnyH_all (rs := [4, 6]) (by kernel_rfl) (by simp) (fun i' hi => ?_)
      have hi2 : i' = 4 ∨ i' = 6 := by simpa using hi
      clear hi
      rcases hi2 with rfl | rfl
      · refine opAppH 4 38 (.tmp 34) (.tmp 37) w3.heap.size (.slice none 0 0) [] ao i ca (l.take i) rfl (by kernel_rfl) (by kernel_rfl) (by kernel_rfl) (by kernel_rfl) (by rw [List.length_take, HW.out.len]; omega) (by kernel_rfl) (fun x hx => HW.out.a32 x (List.mem_of_mem_take hx)) (OwnH.nil _ _) ((HW3.out.after hU0).at_.take HW.out.a32 i) (by rw [List.length_nil, List.length_take, HW.out.len]; omega) (Nat.le_refl _) ?_
        intro v4 w4 ho4 hg4
        rw [List.nil_append] at ho4
        have hA4 : After w3 w4 := after_grown hU0 hg4 (Nat.le_refl _) (fun k hk => by cases hk)
        refine ⟨hA4, ?_⟩
        refine wpAnyH_all (rs := [6]) (by kernel_rfl) (by simp) (fun i' hi => ?_)
        obtain rfl : i' = 6 := by simpa using hi
        clear hi
        refine opVal 6 40 (.slice (some ⟨w4.heap.size, 0, none⟩) 1 1) (w4.alloc (.cells (c8 h).toArray 29)) rfl (by kernel_rfl) (by kernel_rfl) (x_bs22 HH.out (x := .tmp 39) (by kernel_rfl) (by kernel_rfl)) ?_
        refine ⟨after_alloc hA4 _, ?_⟩
        refine wpAnyH_all (rs := [7]) (by kernel_rfl) (by simp) (fun i' hi => ?_)
        obtain rfl : i' = 7 := by simpa using hi
        clear hi
        refine opAppH 7 41 (.tmp 38) (.tmp 40) w3.heap.size v4 (l.take i) (some ⟨w4.heap.size, 0, none⟩) 1 1 [h] rfl (by kernel_rfl) (by kernel_rfl) (by kernel_rfl) (by kernel_rfl) rfl (by kernel_rfl) (All32.cons HH.out All32.nil) (ho4.after (after_alloc (After.refl w4) _)) (HsAt.one w4 h) (by rw [List.length_take, HW.out.len]; simp only [List.length_cons, List.length_nil]; omega) (by have := hA4.size; simp; omega) ?_
        intro v6 w6 ho6 hg6
        have hA6 : After w3 w6 := after_grown (after_alloc hA4 _) hg6 (Nat.le_refl _) (fun g hg => (ho4.lt g hg).1)
        refine ⟨hA6, ?_⟩
        clear ho4 hg4 hA4 hg6 hU0
        refine tk 8 6 v6 (fuel := 0) rfl (by kernel_rfl) (by kernel_rfl) (by kernel_rfl) (by kernel_rfl) noPanic_false (by kernel_rfl) (fun _ _ => by kernel_rfl) hA6 ?_
        refine wpAnyH_done (by kernel_rfl) (NoPanic.normal ?_) _
        have HO6 : Hid (OwnH w6 w3.heap.size v6 (l.take i ++ [h])) := ho6
        have HA6 : Hid (After w3 w6) := hA6
        clear ho6 hA6
        have SL8 := fun W => sl22_lo ao n ca i HW.out.cap hile HW.out.nil W
        go_simp
        go_wp2_with (at_builtin; refine wpList_append_hashes rfl (.tmp 42) (.tmp 45) rfl w3.heap.size v6 (l.take i ++ [h]) rfl HO6.out (cut22 ao i ca) (ca - i) (l.drop i) (fun x hx => HW.out.a32 x (List.mem_of_mem_drop hx)) (n - i) (by rw [List.length_drop, HW.out.len]) rfl ((HW3.out.at_.after HA6.out).drop HW.out.a32 i ca (by rw [HW.out.len]; exact HW.out.cap)) (by rw [List.length_append, List.length_take, List.length_drop, HW.out.len]; simp only [List.length_cons, List.length_nil]; omega) HA6.out.size ?_; intro v8 w8 ho8 hg8; have HO8 := show Hid (OwnH w8 w3.heap.size v8 (l.take i ++ [h] ++ l.drop i)) from ho8; have HA8 := show Hid (After w3 w8) from after_grown HA6.out hg8 (Nat.le_refl _) (fun g hg => (HO6.out.lt g hg).1); clear ho8 hg8)
        go_ret
        exact With.put HW.out HH.out HI.out.2 HAI.out HO8.out (After.trans HAW3.out HA8.out)
      · refine opVal 6 40 (.slice (some ⟨w3.heap.size, 0, none⟩) 1 1) (w3.drew.alloc (.cells (c8 h).toArray 29)) rfl (by kernel_rfl) (by kernel_rfl) (x_bs22 (w := w3.drew) HH.out (x := .tmp 39) (by kernel_rfl) (by kernel_rfl)) ?_
        have hA4 : After w3 (w3.drew.alloc (.cells (c8 h).toArray 29)) := after_alloc hU0 _
        obtain ⟨w4, hw4⟩ : ∃ w4, w3.drew.alloc (.cells (c8 h).toArray 29) = w4 := ⟨_, rfl⟩
        have hone : HsAt w4 (some ⟨w3.heap.size, 0, none⟩) [h] := by rw [← hw4]; exact HsAt.one w3.drew h
        have hz4 : w3.heap.size ≤ w4.heap.size := by rw [← hw4]; simp
        rw [hw4] at hA4
        rw [hw4]
        clear hw4
        refine ⟨hA4, ?_⟩
        refine wpAnyH_all (rs := [4]) (by kernel_rfl) (by simp) (fun i' hi => ?_)
        obtain rfl : i' = 4 := by simpa using hi
        clear hi
        refine opAppH 4 38 (.tmp 34) (.tmp 37) w3.heap.size (.slice none 0 0) [] ao i ca (l.take i) rfl (by kernel_rfl) (by kernel_rfl) (by kernel_rfl) (by kernel_rfl) (by rw [List.length_take, HW.out.len]; omega) (by kernel_rfl) (fun x hx => HW.out.a32 x (List.mem_of_mem_take hx)) (OwnH.nil _ _) ((HW3.out.after hA4).at_.take HW.out.a32 i) (by rw [List.length_nil, List.length_take, HW.out.len]; omega) (hz4) ?_
        intro v4 w5 ho4 hg4
        rw [List.nil_append] at ho4
        have hA5 : After w4 w5 := after_grown (After.refl w4) hg4 (Nat.le_refl _) (fun k hk => by cases hk)
        refine ⟨After.trans hA4 hA5, ?_⟩
        refine wpAnyH_all (rs := [7]) (by kernel_rfl) (by simp) (fun i' hi => ?_)
        obtain rfl : i' = 7 := by simpa using hi
        clear hi
        refine opAppH 7 41 (.tmp 38) (.tmp 40) w3.heap.size v4 (l.take i) (some ⟨w3.heap.size, 0, none⟩) 1 1 [h] rfl (by kernel_rfl) (by kernel_rfl) (by kernel_rfl) (by kernel_rfl) rfl (by kernel_rfl) (All32.cons HH.out All32.nil) ho4 (hone.after hA5) (by rw [List.length_take, HW.out.len]; simp only [List.length_cons, List.length_nil]; omega) (by have := hA5.size; omega) ?_
        intro v6 w6 ho6 hg6
        have hA6 : After w3 w6 := after_grown (After.trans hA4 hA5) hg6 (Nat.le_refl _) (fun g hg => (ho4.lt g hg).1)
        refine ⟨hA6, ?_⟩
        clear ho4 hg4 hA4 hA5 hg6 hU0 hone hz4
        refine tk 8 6 v6 (fuel := 0) rfl (by kernel_rfl) (by kernel_rfl) (by kernel_rfl) (by kernel_rfl) noPanic_false (by kernel_rfl) (fun _ _ => by kernel_rfl) hA6 ?_
        refine wpAnyH_done (by kernel_rfl) (NoPanic.normal ?_) _
        have HO6 : Hid (OwnH w6 w3.heap.size v6 (l.take i ++ [h])) := ho6
        have HA6 : Hid (After w3 w6) := hA6
        clear ho6 hA6
        have SL8 := fun W => sl22_lo ao n ca i HW.out.cap hile HW.out.nil W
        go_simp
        go_wp2_with (at_builtin; refine wpList_append_hashes rfl (.tmp 42) (.tmp 45) rfl w3.heap.size v6 (l.take i ++ [h]) rfl HO6.out (cut22 ao i ca) (ca - i) (l.drop i) (fun x hx => HW.out.a32 x (List.mem_of_mem_drop hx)) (n - i) (by rw [List.length_drop, HW.out.len]) rfl ((HW3.out.at_.after HA6.out).drop HW.out.a32 i ca (by rw [HW.out.len]; exact HW.out.cap)) (by rw [List.length_append, List.length_take, List.length_drop, HW.out.len]; simp only [List.length_cons, List.length_nil]; omega) HA6.out.size ?_; intro v8 w8 ho8 hg8; have HO8 := show Hid (OwnH w8 w3.heap.size v8 (l.take i ++ [h] ++ l.drop i)) from ho8; have HA8 := show Hid (After w3 w8) from after_grown HA6.out hg8 (Nat.le_refl _) (fun g hg => (HO6.out.lt g hg).1); clear ho8 hg8)
        go_ret
        exact With.put HW.out HH.out HI.out.2 HAI.out HO8.out (After.trans HAW3.out HA8.out)
end Go.Proofs.Ytgcgblecendijaa
