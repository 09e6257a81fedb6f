/-
  Parts of the reference's rows; what below (46) stands on.
-/
import Derived.Test.YtiglenomigipmaaSR
namespace Go.Proofs.Ytiglenomigipmaa
open Go.RowKit Go.Shelf
attribute [local go_sem] Oper.semAt_some
def cut27 (ao : Option Addr) (k c : Nat) : Option Addr := if c = k then ao else ao.map fun a => a.add (k * 68)
theorem sl27_hi (ao : Option Addr) (n c k : Nat) (hk : k ≤ c) (hz : ao = none → c = 0) (W : World) : (Instr.sliceAt 27 (.slice ao n c) none (some (.int .i64 (k : Int))) none).run Try.prog W = .ok (.slice ao k c) W := by
  obtain ⟨i, z, hi', _, hsz, _, _⟩ := info68
  cases ao with
  | none =>
    obtain rfl : c = 0 := hz rfl
    obtain rfl : k = 0 := by omega
    simp [Instr.sliceAt, Instr.slice, run_underlying Try.underlying27, Instr.sliceBounds, Instr.sliceBound, asIntOf, sizeOf, typeInfo, hi']
  | some a =>
    by_cases h0 : c = 0
    · obtain rfl : k = 0 := by omega
      simp [Instr.sliceAt, Instr.slice, run_underlying Try.underlying27, Instr.sliceBounds, Instr.sliceBound, asIntOf, sizeOf, typeInfo, hi', h0]
    · simp [Instr.sliceAt, Instr.slice, run_underlying Try.underlying27, Instr.sliceBounds, Instr.sliceBound, asIntOf, sizeOf, typeInfo, hi', hk, Addr.add]
theorem sl27_lo (ao : Option Addr) (n c k : Nat) (hn : n ≤ c) (hk : k ≤ n) (hz : ao = none → c = 0) (W : World) : (Instr.sliceAt 27 (.slice ao n c) (some (.int .i64 (k : Int))) none none).run Try.prog W = .ok (.slice (cut27 ao k c) (n - k) (c - k)) W := by
  obtain ⟨i, z, hi', _, hsz, _, _⟩ := info68
  cases ao with
  | none =>
    obtain rfl : c = 0 := hz rfl
    obtain rfl : n = 0 := by omega
    obtain rfl : k = 0 := by omega
    simp [Instr.sliceAt, Instr.slice, run_underlying Try.underlying27, Instr.sliceBounds, Instr.sliceBound, asIntOf, sizeOf, typeInfo, hi', cut27]
  | some a =>
    by_cases h : c = k
    · simp [Instr.sliceAt, Instr.slice, run_underlying Try.underlying27, Instr.sliceBounds, Instr.sliceBound, asIntOf, sizeOf, typeInfo, hi', hsz, cut27, h]
      intro h2; omega
    · simp [Instr.sliceAt, Instr.slice, run_underlying Try.underlying27, Instr.sliceBounds, Instr.sliceBound, asIntOf, sizeOf, typeInfo, hi', hsz, cut27, h, hk]
theorem size68r {c : RC} (h : c.Ok) : (Try.prog.info? 68).map (·.size) = some (rcell c).length := by rw [rcell_len h]; kernel_rfl
theorem size68 {c : RC} (h : c.Ok) : (Try.prog.info? 68).map (·.size) = some (rcell c).toArray.size := by rw [List.size_toArray]; exact size68r h
section
variable {oi : Oper} {a : Act} {w : World}
theorem x_sl27h {x y : Operand} {ao : Option Addr} {n c k : Nat} (hop : oi.op = .slice 27 x none (some y) none) (hx : a.eval x = .slice ao n c) (hy : a.eval y = .int .i64 (k : Int)) (hk : k ≤ c) (hz : ao = none → c = 0) : (execOp a.eval oi).run Try.prog w = .ok (.value (.slice ao k c)) w := by
  unfold execOp
  simp only [hop, hx, hy, Option.map, Sem.run_bind, sl27_hi ao n c k hk hz w, Result.andThen_ok]
  rfl
theorem x_sl27l {x y : Operand} {ao a' : Option Addr} {n c k j c' : Nat} (hop : oi.op = .slice 27 x (some y) none none) (hx : a.eval x = .slice ao n c) (hy : a.eval y = .int .i64 (k : Int)) (hn : n ≤ c) (hk : k ≤ n) (hz : ao = none → c = 0) (ha : cut27 ao k c = a') (hj : n - k = j) (hc : c - k = c') : (execOp a.eval oi).run Try.prog w = .ok (.value (.slice a' j c')) w := by
  subst ha hj hc
  unfold execOp
  simp only [hop, hx, hy, Option.map, Sem.run_bind, sl27_lo ao n c k hn hk hz w, Result.andThen_ok]
  rfl
theorem x_ld68m {x : Operand} {g p : Nat} {c : RC} (hc : c.Ok) (hop : oi.op = .load 68 x) (hx : a.eval x = .pointer (some ⟨g, p, none⟩)) (hr : w.rangeAt g p (rcell c)) : (execOp a.eval oi).run Try.prog w = .ok (.value (.agg (rcell c).toArray)) w := by
  unfold execOp
  simp only [hop, hx, Instr.loadAt, Instr.sureAddr, Sem.run_bind, Sem.run_pure, Result.andThen_ok, run_loadVar_mid w g p 68 (rcell c) _ hr Try.underlying68 rfl (size68r hc)]
theorem x_al68 (hop : oi.op = .alloc 68) : (execOp a.eval oi).run Try.prog w = .ok (.value (.pointer (some ⟨w.heap.size, 0, none⟩))) (w.alloc (.cells (rcell zRC).toArray 68)) := by
  have hz : (zeroValue 68).run Try.prog w = .ok (.agg (rcell zRC).toArray) w := by kernel_rfl
  unfold execOp
  simp only [hop]
  simp [go_sem, hz, Value.cells]
theorem x_lss {x y : Operand} {p q : Nat} (hop : oi.op = .binOp .lss 3 x y 3) (hx : a.eval x = .int .i64 (p : Int)) (hy : a.eval y = .int .i64 (q : Int)) : (execOp a.eval oi).run Try.prog w = .ok (.value (.bool (decide (p < q)))) w := by
  unfold execOp
  simp only [hop, hx, hy]
  by_cases h : p < q
  · simp [go_sem, h]
  · simp [go_sem, h]
end
theorem range_raf {w : World} {g p : Nat} {c : RC} (hok : c.Ok) (h : w.rangeAt g p (rcell c)) : w.rangeAt g (p + 33) (idc c.af) := fun j u hu => by
  have := h (33 + j) u (by
    unfold rcell
    rw [List.getElem?_append_right (by rw [idc_len hok.id]; omega), idc_len hok.id, show 33 + j - 33 = j by omega, List.getElem?_append_left (List.getElem?_eq_some_iff.1 hu).1]
    exact hu)
  rwa [← Nat.add_assoc] at this
theorem RowR.cap {w : World} {base : Nat} {va : Option Addr} {n cap : Nat} {l : List RC} (h : RowR w base (.slice va n cap) l) : l.length = n ∧ n ≤ cap ∧ (va = none → cap = 0) := by
  rcases own_row h.2.2 with ⟨hv, h0, _⟩ | ⟨g, cap', cs, hv, _, _, hnc, _⟩
  · rw [List.length_map] at h0
    cases hv
    exact ⟨h0, by omega, fun _ => rfl⟩
  · rw [List.length_map] at hv hnc
    cases hv
    exact ⟨rfl, hnc, fun e => by cases e⟩
theorem flat_parts (l : List RC) (k : Nat) : (l.map rcell).flatten = ((l.take k).map rcell).flatten ++ ((l.drop k).map rcell).flatten := by
  rw [← List.flatten_append, ← List.map_append, List.take_append_drop]
theorem SrcR.take {w : World} {va : Option Addr} {n cap k : Nat} {l : List RC} (h : SrcR w (.slice va n cap) l) (hk : k ≤ n) (hn : l.length = n) : SrcR w (.slice va k cap) (l.take k) := by
  refine ⟨fun c hc => h.1 c (List.mem_of_mem_take hc), ?_⟩
  rcases h.2 with ⟨hu, rfl⟩ | ⟨g, p, c, hu, hr⟩
  · cases hu
    obtain rfl : k = 0 := by omega
    exact .inl ⟨rfl, rfl⟩
  · cases hu
    refine .inr ⟨g, p, _, by rw [List.length_take, Nat.min_eq_left (by omega)], fun j u hu => hr j u ?_⟩
    rw [flat_parts l k, List.getElem?_append_left (List.getElem?_eq_some_iff.1 hu).1]; exact hu
theorem SrcR.drop {w : World} {va : Option Addr} {n cap k : Nat} {l : List RC} (h : SrcR w (.slice va n cap) l) (hk : k ≤ n) (hn : l.length = n) (hc : n ≤ cap) (hz : va = none → cap = 0) : SrcR w (.slice (cut27 va k cap) (n - k) (cap - k)) (l.drop k) := by
  refine ⟨fun c hc => h.1 c (List.mem_of_mem_drop hc), ?_⟩
  rcases h.2 with ⟨hu, rfl⟩ | ⟨g, p, c, hu, hr⟩
  · cases hu
    obtain rfl : k = 0 := by omega
    exact .inl ⟨rfl, rfl⟩
  · cases hu
    by_cases e : cap = k
    · subst e
      have e2 : l.drop cap = [] := List.drop_eq_nil_of_le (by omega)
      refine .inr ⟨g, p, cap - cap, ?_, fun j u hu => ?_⟩
      · unfold cut27
        rw [if_pos rfl, List.length_drop]
      · rw [e2] at hu; simp at hu
    · refine .inr ⟨g, p + k * 68, cap - k, ?_, fun j u hu => ?_⟩
      · unfold cut27
        rw [if_neg e, List.length_drop]
        simp [Addr.add_lit]
      · have hl : ((l.take k).map rcell).flatten.length = k * 68 := by
          rw [fl_len (Uni.rc (fun c hc => h.1 c (List.mem_of_mem_take hc))), List.length_map, List.length_take, Nat.min_eq_left (by omega)]
        have := hr (k * 68 + j) u (by rw [flat_parts l k, List.getElem?_append_right (by omega), hl, show k * 68 + j - k * 68 = j by omega]; exact hu)
        rwa [← Nat.add_assoc] at this
theorem gIns_at {c : RC} : ∀ {ks : List RC} {k : Nat}, k ≤ ks.length → (∀ (j : Nat) (d : RC), j < k → ks[j]? = some d → ltI c.id d.id = true) → (∀ d, ks[k]? = some d → ltI c.id d.id = false) → gIns RC.id c ks = ks.take k ++ c :: ks.drop k
  | [], k, hk, _, _ => by
    obtain rfl : k = 0 := by simpa using hk
    rfl
  | d :: ks, 0, _, _, h2 => by
    have := h2 d (by simp)
    simp [gIns, this]
  | d :: ks, k + 1, hk, h1, h2 => by
    have h3 := h1 0 d (by omega) (by simp)
    have ih := gIns_at (c := c) (ks := ks) (k := k) (by simpa using hk) (fun j e hj he => h1 (j + 1) e (by omega) (by simpa using he)) (fun e he => h2 e (by simpa using he))
    simp [gIns, h3, ih]
theorem app_nilS {W : World} {u : Value} {l : List RC} (h : SrcR W u l) (hl : l.length ≤ 100000) : ∃ v' W', (Builtin.append_ #[27, 27] 27 #[.slice none 0 0, u]).run Try.prog W = .ok v' W' ∧ RowR W' W.heap.size v' l ∧ After W W' := by
  obtain ⟨v', w2, h1, h2, h3, h4⟩ := run_app27 (w := W) (base := W.heap.size) 27 (RowR.nil W _) h (by simp; omega) (Nat.le_refl _)
  exact ⟨v', w2, h1, by simpa using h2, grown_none h3⟩
theorem app_any {W8 W : World} {base : Nat} {v u : Value} {l m : List RC} (hk : After W8 W) (hb : W8.heap.size ≤ base) (hbw : base ≤ W.heap.size) (h : RowR W base v l) (hs : SrcR W u m) (hl : l.length + m.length ≤ 1000000) : ∃ va n c W', (Builtin.append_ #[27, 27] 27 #[v, u]).run Try.prog W = .ok (.slice va n c) W' ∧ RowR W' base (.slice va n c) (l ++ m) ∧ After W8 W' := by
  obtain ⟨v', w2, h1, h2, h3, h4⟩ := run_app27 (w := W) (base := base) 27 h hs hl hbw
  obtain ⟨va, c, hv⟩ := h2.sl
  subst hv
  refine ⟨va, _, c, w2, h1, h2, ?_⟩
  refine ⟨h3.os.trans hk.os, h3.tape.trans hk.tape, h3.output.trans hk.output, Nat.le_trans hk.size h3.size, fun b hb2 => ?_⟩
  refine (h3.block b (Nat.lt_of_lt_of_le hb2 hk.size) (fun e => ?_)).trans (hk.block b hb2)
  have := (own_lt h.2.2 e.symm).1
  omega
theorem SrcR.one {W : World} {g : Nat} {c : RC} (hc : c.Ok) (hr : RowIs W g 68 (rcell c)) : SrcR W (.slice (some ⟨g, 0, none⟩) 1 1) [c] := ⟨fun d hd => by rw [List.mem_singleton] at hd; rw [hd]; exact hc, .inr ⟨g, 0, 1, rfl, by simpa using hr.range0⟩⟩
theorem kids_snoc {l : List RC} {i : Nat} {c : RC} (hc : l[i]? = some c) (x : Idn) : kids (l.take (i + 1)) x = if c.af = x then gIns RC.id c (kids (l.take i) x) else kids (l.take i) x := by
  have : l.take (i + 1) = l.take i ++ [c] := by rw [List.take_add_one, hc]; rfl
  unfold kids
  rw [this, gKids_snoc]
theorem gIns_len {α : Type} {f : α → Idn} {c : α} : ∀ {L : List α}, (gIns f c L).length = L.length + 1
  | [] => rfl
  | k :: L => by
    simp only [gIns]
    split
    · simp [gIns_len (L := L)]
    · simp
theorem kids_len (x : Idn) (l : List RC) : (kids l x).length ≤ l.length := by
  refine snoc_ind (P := fun l => (kids l x).length ≤ l.length) (Nat.le_refl _) (fun L c ih => ?_) l
  unfold kids at ih ⊢
  rw [gKids_snoc]
  split
  · rw [gIns_len]; simp; omega
  · simp; omega
end Go.Proofs.Ytiglenomigipmaa
