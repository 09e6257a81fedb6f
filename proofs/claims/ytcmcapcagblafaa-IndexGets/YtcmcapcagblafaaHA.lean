/-
  Lists of hashes as bytes (of the seat of hashes, carried over); hashes.Put and the reference's.
-/
import Derived.Test.YtcmcapcagblafaaRI
import Derived.Test.YtcmcapcagblafaaCL
import Derived.Test.YtcmcapcagblafaaLB
import Derived.Deep.MidRow
import Derived.Great.BuildSlice
namespace Go.Proofs.Ytcmcapcagblafaa
open Go.RowKit
section
open Go.RowKit
abbrev Hs := List UInt8
theorem All32.nil : All32 [] := fun _ h => by simp at h
theorem All32.cons {h : Hs} {l : List Hs} (hh : h.length = 32) (hl : All32 l) : All32 (h :: l) := fun x hx => by
  rcases List.mem_cons.1 hx with rfl | hx
  · exact hh
  · exact hl x hx
theorem All32.tail {h : Hs} {l : List Hs} (hl : All32 (h :: l)) : All32 l := fun x hx => hl x (by simp [hx])
theorem All32.app {l m : List Hs} (hl : All32 l) (hm : All32 m) : All32 (l ++ m) := fun x hx => by
  rcases List.mem_append.1 hx with h | h
  · exact hl x h
  · exact hm x h
theorem All32.at {l : List Hs} (hl : All32 l) {j : Nat} {h : Hs} (hj : l[j]? = some h) : h.length = 32 := hl h (List.mem_of_getElem? hj)
theorem flat_len : ∀ {l : List Hs}, All32 l → l.flatten.length = l.length * 32
  | [], _ => rfl
  | h :: l, hl => by
    rw [List.flatten_cons, List.length_append, hl h (by simp), flat_len hl.tail, List.length_cons]; omega
theorem flat_take : ∀ {l : List Hs} (j : Nat), All32 l → l.flatten.take (j * 32) = (l.take j).flatten
  | [], j, _ => by simp
  | h :: l, 0, _ => by simp
  | h :: l, j + 1, hl => by
    have h0 := hl h (by simp)
    rw [List.flatten_cons, List.take_append, List.take_succ_cons, List.flatten_cons, List.take_of_length_le (by omega), h0, show (j + 1) * 32 - 32 = j * 32 by omega, flat_take j hl.tail]
theorem flat_drop : ∀ {l : List Hs} (j : Nat), All32 l → l.flatten.drop (j * 32) = (l.drop j).flatten
  | [], j, _ => by simp
  | h :: l, 0, _ => by simp
  | h :: l, j + 1, hl => by
    have h0 := hl h (by simp)
    rw [List.flatten_cons, List.drop_append, List.drop_succ_cons, List.drop_of_length_le (by omega), h0, show (j + 1) * 32 - 32 = j * 32 by omega, flat_drop j hl.tail, List.nil_append]
theorem flat_at : ∀ {l : List Hs}, All32 l → ∀ {j : Nat} {h : Hs}, l[j]? = some h → ∀ k, k < 32 → l.flatten.getD (j * 32 + k) 0 = h.getD k 0
  | [], _, _, _, hj, _, _ => by simp at hj
  | x :: l, hl, 0, h, hj, k, hk => by
    obtain rfl : x = h := by simpa using hj
    have h0 := hl x (by simp)
    rw [List.flatten_cons]
    simp only [Nat.zero_mul, Nat.zero_add, List.getD]
    rw [List.getElem?_append_left (by omega)]
  | x :: l, hl, j + 1, h, hj, k, hk => by
    have h0 := hl x (by simp)
    have ih := flat_at hl.tail (j := j) (by simpa using hj) k hk
    rw [← ih, List.flatten_cons]
    simp only [List.getD]
    rw [List.getElem?_append_right (by omega), h0]
    congr 2; omega
/-- The hashes lie at a slice's head. -/
def HsAt (w : World) (ao : Option Addr) (l : List Hs) : Prop := BytesAt w ao l.flatten
theorem HsAt.after {w w' : World} {ao : Option Addr} {l : List Hs} (h : HsAt w ao l) (ha : After w w') : HsAt w' ao l := BytesAt.after h ha
theorem flat_ne {l : List Hs} (h32 : All32 l) (h : l ≠ []) : l.flatten ≠ [] := fun e => by
  have := congrArg List.length e
  rw [flat_len h32] at this
  simp only [List.length_nil] at this
  exact h (List.eq_nil_of_length_eq_zero (by omega))
theorem HsAt.get {w : World} {ao : Option Addr} {l : List Hs} (h : HsAt w ao l) (h32 : All32 l) (hne : l ≠ []) : ∃ b o, ao = some ⟨b, o, none⟩ ∧ ∀ j x, l[j]? = some x → w.rangeAt b (o + j * 32) (c8 x) := by
  obtain ⟨b, o, e, hc⟩ := h (flat_ne h32 hne)
  refine ⟨b, o, e, fun j x hj k v hv => ?_⟩
  have hx := h32.at hj
  have hjl := (List.getElem?_eq_some_iff.1 hj).1
  have hk : k < 32 := by have := (List.getElem?_eq_some_iff.1 hv).1; rw [c8_len] at this; omega
  rw [c8_get x k (by omega)] at hv
  have := hc (j * 32 + k) (by rw [flat_len h32]; omega)
  rw [flat_at h32 hj k hk] at this
  rw [Nat.add_assoc, this, hv]
/-- A hash as a value. -/
def hv (h : Hs) : Value := .agg (c8 h).toArray
theorem size24' {h : Hs} (hh : h.length = 32) : (Try.prog.info? 43).map (·.size) = some (c8 h).length := by rw [size24, c8_len, hh]
theorem size24a {h : Hs} (hh : h.length = 32) : (Try.prog.info? 43).map (·.size) = some (c8 h).toArray.size := by rw [size24]; simp [c8_len, hh]
theorem info24 : ∃ i z, Try.prog.info? 43 = some i ∧ i.zero = some z ∧ i.size = 32 ∧ i.bytes = 32 ∧ z.cells.size = 32 ∧ z.cells = Array.replicate 32 (.int .u8 0) := by
  have h : (Try.prog.info? 43).map (fun i => (i.zero.map (·.cells), i.size, i.bytes)) = some (some (Array.replicate 32 (.int .u8 0)), 32, 32) := by kernel_rfl
  obtain ⟨i, hi, hz⟩ := Option.map_eq_some_iff.1 h
  simp only [Prod.mk.injEq] at hz
  obtain ⟨hz, hs, hb⟩ := hz
  obtain ⟨z, hz1, hz2⟩ := Option.map_eq_some_iff.1 hz
  exact ⟨i, z, hi, hz1, hs, hb, by rw [hz2]; rfl, hz2⟩
theorem hs_oneH (h : Hs) : (c8 h).toArray.all (·.oneCell') = true := all_oneCell_toArray (c8_one h)
/-- A row of hashes of the call's own. -/
def OwnH (w : World) (base : Nat) (v : Value) (l : List Hs) : Prop := w.ownsRow base 43 32 v l.length (c8 l.flatten)
theorem OwnH.nil (w : World) (base : Nat) : OwnH w base (.slice none 0 0) [] := World.ownsRow_nil w base 43 32
theorem OwnH.at {w : World} {base : Nat} {v : Value} {l : List Hs} (h : OwnH w base v l) : ∃ ao cap, v = .slice ao l.length cap ∧ HsAt w ao l ∧ l.length ≤ cap ∧ (∀ a, ao = some a → base ≤ a.block ∧ a.block < w.heap.size) ∧ (ao = none → cap = 0) := by
  rcases h.2 with ⟨hv, h0⟩ | ⟨g, cap, cur, hv, hb, hg, hnc, _, hcs, ht⟩
  · have : l = [] := List.eq_nil_of_length_eq_zero h0
    subst this
    exact ⟨none, 0, hv, fun h => absurd rfl h, Nat.le_refl _, fun a ha => (by cases ha), fun _ => rfl⟩
  · subst hv
    have hl := h.1
    rw [c8_len] at hl
    refine ⟨_, cap, rfl, fun _ => ⟨g, 0, rfl, fun j hj => ?_⟩, hnc, fun a ha => by cases ha; exact ⟨hb, (World.ownsRow.lt h g rfl).2⟩, fun h => by cases h⟩
    rw [Nat.zero_add, World.ownsRow.cellAt h j (by omega), c8_get _ j hj]
theorem OwnH.lt {w : World} {base : Nat} {v : Value} {l : List Hs} (h : OwnH w base v l) : ∀ k, v.ownBlock = some k → base ≤ k ∧ k < w.heap.size := World.ownsRow.lt h
theorem OwnH.same {w w' : World} {base : Nat} {v : Value} {l : List Hs} (h : OwnH w base v l) (hh : ∀ g, v.ownBlock = some g → w'.heap[g]? = w.heap[g]?) : OwnH w' base v l := by
  refine ⟨h.1, ?_⟩
  rcases h.2 with hn | ⟨g, cap, cur, rfl, q1, q2, rest⟩
  · exact .inl hn
  · exact .inr ⟨g, cap, cur, rfl, q1, by rw [hh g rfl]; exact q2, rest⟩
theorem OwnH.after {w w' : World} {base : Nat} {v : Value} {l : List Hs} (h : OwnH w base v l) (ha : After w w') : OwnH w' base v l := h.same (fun g hg => ha.block g (h.lt g hg).2)
theorem OwnH.mono {w : World} {base base' : Nat} {v : Value} {l : List Hs} (h : OwnH w base v l) (hb : base' ≤ base) : OwnH w base' v l := by
  refine ⟨h.1, ?_⟩
  rcases h.2 with hn | ⟨g, cap, cur, e, q1, rest⟩
  · exact .inl hn
  · exact .inr ⟨g, cap, cur, e, by omega, rest⟩
/-- append(own, l...), l a slice whose hashes are known, or nil. -/
theorem wpList_append_hashes {w : World} {ops : Array Oper} {rest : List Oper} {o : Oper} {a : Act} {Q : Exit → Act → World → Prop} (hgd : o.guard = none) (s x : Operand)
    (ho : o.op = .call { callee := .builtin .append, args := #[s, x], argTypes := #[39, 39] })
    (base : Nat) (v : Value) (l : List Hs) (hs : a.eval s = v) (hown : OwnH w base v l)
    (ao : Option Addr) (c : Nat) (news : List Hs) (h32 : All32 news) (k : Nat) (hk : news.length = k) (hx : a.eval x = .slice ao k c) (hnews : HsAt w ao news)
    (hbytes : (l.length + news.length) * 32 ≤ 140737488355328) (hbase : base ≤ w.heap.size)
    (h : ∀ v' w', OwnH w' base v' (l ++ news) → w.grownBy w' v.ownBlock → wpList Try.prog ops Q rest (a.put o.dst v') w') : wpList Try.prog ops Q (o :: rest) a w := by
  subst hk
  obtain ⟨i, z, hi, hz, hsz, hby, hzs, _⟩ := info24
  cases ao with
  | some ad =>
    refine wpList_append_own w hgd s x 39 ho base 43 i z 32 32 Try.underlying39 hi hz hsz hby hzs (by omega) v l.length (c8 l.flatten) hs hown ad news.length c (c8 news.flatten) hx (by rw [c8_len, flat_len h32]) ?_ (c8_one _) (by unfold maxLen; omega) hbytes hbase ?_
    · intro j u hu
      have hj := (List.getElem?_eq_some_iff.1 hu).1
      rw [c8_len] at hj
      obtain ⟨b, o, he, hc⟩ := hnews (by intro h; rw [h] at hj; simp at hj)
      cases he
      rw [c8_get _ j hj] at hu
      rw [Addr.add_mid, hc j hj, hu]
    · intro v' w' h1 h2 _
      exact h v' w' (by unfold OwnH; rw [List.flatten_append, c8_append, List.length_append]; exact h1) h2
  | none =>
    obtain rfl : news = [] := Classical.byContradiction fun hn => by obtain ⟨b, o, he, _⟩ := hnews (flat_ne h32 hn); cases he
    rw [List.append_nil] at h
    have hk := h v w hown ⟨rfl, rfl, rfl, Nat.le_refl _, fun _ _ _ => rfl⟩
    obtain ⟨ao', cap', hv, _, hle, _⟩ := hown.at
    refine wpList_plain hgd fun K hK => ?_
    have hr := run_append_nothing (P := Try.prog) w 39 39 o.type 43 i Try.underlying39 hi ao' l.length cap' hle (.slice none 0 c) (Src.ofNil w Try.underlying39 c)
    unfold Oper.wp execOp
    rw [← hv] at hr
    simp only [List.length_nil] at hx
    simp only [ho, resolve, invoke, builtin, Sem.run_bind, Sem.run_pure, Result.andThen_ok, List.map_toArray, List.map_cons, List.map_nil, hs, hx, hr]
    exact hK _ _ hk
theorem HsAt.one (w : World) (h : Hs) : HsAt (w.alloc (.cells (c8 h).toArray 43)) (some ⟨w.heap.size, 0, none⟩) [h] := fun _ =>
  ⟨w.heap.size, 0, rfl, fun j hj => by
    have hr := RowIs.new w 43 (c8 h)
    have hf : [h].flatten = h := by simp
    rw [hf] at hj ⊢
    rw [Nat.zero_add]; exact hr.cell (c8_get h j hj)⟩
end
/-- Rows of hashes, as bytes one behind the other and as rows. -/
theorem c8_flat32 : ∀ (l : List H), (hsL l).flatten = c8 l.flatten
  | [] => rfl
  | x :: l => by
    have h := c8_flat32 l
    unfold hsL at h ⊢
    simp only [List.map_cons, List.flatten_cons, c8_append] at h ⊢
    rw [h]
theorem SlAt.hs {w : World} {a : Option Addr} {l : List H} (h32 : All32 l) (h : SlAt w 32 a (hsL l)) : HsAt w a l := fun hn => by
  have hne : hsL l ≠ [] := fun e => hn (by
    have : l = [] := by unfold hsL at e; simpa using e
    subst this; rfl)
  obtain ⟨b, o, ha, hr⟩ := h.2 hne
  rw [c8_flat32] at hr
  exact ⟨b, o, ha, fun j hj => hr j _ (c8_get _ j hj)⟩
theorem HsAt.sl {w : World} {a : Option Addr} {l : List H} (h32 : All32 l) (h : HsAt w a l) : SlAt w 32 a (hsL l) := ⟨uni_hs h32, fun hn => by
  have hne : l ≠ [] := fun e => hn (by subst e; rfl)
  obtain ⟨b, o, ha, hr⟩ := h (flat_ne h32 hne)
  refine ⟨b, o, ha, fun j v hv => ?_⟩
  rw [c8_flat32] at hv
  have hj := (List.getElem?_eq_some_iff.1 hv).1
  rw [c8_len] at hj
  rw [c8_get _ j hj] at hv
  cases hv
  exact hr j hj⟩
section
open Go.RowKit
def hAt (bs : List UInt8) (k j : Nat) : Hs := (bs.drop (k + j * 32)).take 32
theorem hAt_len {bs : List UInt8} {k j n : Nat} (h : k + n * 32 ≤ bs.length) (hj : j < n) : (hAt bs k j).length = 32 := by
  unfold hAt; rw [List.length_take, List.length_drop]
  have : (j + 1) * 32 ≤ n * 32 := Nat.mul_le_mul_right 32 hj
  omega
def zero32 : Hs := List.replicate 32 0
def gl (bs : List UInt8) (k n i : Nat) : List Hs := (List.range n).map fun j => if j < i then hAt bs k j else zero32
theorem gl_len (bs : List UInt8) (k n i : Nat) : (gl bs k n i).length = n := by simp [gl]
theorem gl_get (bs : List UInt8) (k n i j : Nat) (hj : j < n) : (gl bs k n i)[j]? = some (if j < i then hAt bs k j else zero32) := by simp [gl, hj]
theorem gl_32 {bs : List UInt8} {k n i : Nat} (h : k + n * 32 ≤ bs.length) : All32 (gl bs k n i) := fun x hx => by
  obtain ⟨j, hj⟩ := List.getElem?_of_mem hx
  have hjn : j < n := by have := (List.getElem?_eq_some_iff.1 hj).1; rwa [gl_len] at this
  rw [gl_get _ _ _ _ _ hjn] at hj
  cases hj
  split
  · exact hAt_len h hjn
  · simp [zero32]
/-- The list that is taken off. -/
def gL (bs : List UInt8) (k n : Nat) : List Hs := (List.range n).map (hAt bs k)
theorem gL_succ (bs : List UInt8) (k n : Nat) : gL bs k (n + 1) = gL bs k n ++ [hAt bs k n] := by unfold gL; rw [List.range_succ, List.map_append]; rfl
theorem gL_len (bs : List UInt8) (k n : Nat) : (gL bs k n).length = n := by simp [gL]
theorem gl_all (bs : List UInt8) (k n : Nat) : gl bs k n n = gL bs k n := by
  unfold gl gL
  apply List.map_congr_left
  intro j hj
  rw [if_pos (by simpa using hj)]
theorem gL_32 {bs : List UInt8} {k n : Nat} (h : k + n * 32 ≤ bs.length) : All32 (gL bs k n) := by rw [← gl_all]; exact gl_32 h
end
section
open Go.RowKit Leb
/-- What Get tells. -/
def hgE (bs : List UInt8) (m : Int) : Nat := if guE bs = 0 then (if m < 0 ∨ m < (guV bs : Int) then 5 else if (bs.length - guK bs) / 32 < guV bs then 3 else if upB (gL bs (guK bs) (guV bs)) = true then 0 else 4) else guE bs
def hgK (bs : List UInt8) (m : Int) : Nat := if hgE bs m = 0 then guK bs + guV bs * 32 else 0
def hgL (bs : List UInt8) (m : Int) : List Hs := if hgE bs m = 0 then gL bs (guK bs) (guV bs) else []
theorem hg_bad {bs : List UInt8} {m : Int} {q : Nat} (h : hgE bs m = q) (hq : q ≠ 0) : hgK bs m = 0 ∧ hgL bs m = [] := by
  unfold hgK hgL; rw [h, if_neg hq, if_neg hq]; exact ⟨rfl, rfl⟩
section
variable {o : Oper} {a : Act} {x y z : Operand} {w : World}
end
end
theorem fresh_row (w : World) (h : H) (cs : Array Value) : ((w.alloc (.cells cs 43)).setRow w.heap.size (c8 h).toArray).heap[w.heap.size]? = some (.cells (c8 h).toArray 43 (0, 0)) ∧ After w ((w.alloc (.cells cs 43)).setRow w.heap.size (c8 h).toArray) ∧ ((w.alloc (.cells cs 43)).setRow w.heap.size (c8 h).toArray).heap.size = w.heap.size + 1 :=
  ⟨setRow_heap _ _ _ _ 43 _ (heap_alloc_new w _), Below.row (after_alloc (After.refl w) _) (Nat.le_refl _) _, by simp⟩
theorem c8_flat : ∀ ls : List Hs, ls.flatMap (fun x => (hv x).cells.toList) = c8 ls.flatten
  | [] => rfl
  | x :: ls => by rw [List.flatMap_cons, c8_flat ls, List.flatten_cons, c8_append]; rfl
theorem bs22s (W : World) {ls : List Hs} (h32 : All32 ls) (hn : ls ≠ []) (hsm : ls.length ≤ 100) (parts : Array (Nat × Value)) (hp : parts.toList = ((ls.map hv).zipIdx 0).map fun x => (x.2, x.1)) : (Instr.buildSlice 39 ls.length parts).run Try.prog W = .ok (.slice (some ⟨W.heap.size, 0, none⟩) ls.length ls.length) (W.alloc (.cells (c8 ls.flatten).toArray 43)) := by
  obtain ⟨i, z, hi, hz, hsz, hby, hzs, _⟩ := info24
  have hl : 0 < ls.length := List.length_pos_iff.2 hn
  refine run_buildSlice (P := Try.prog) W 39 43 ls.length parts (c8 ls.flatten).toArray i z Try.underlying39 hi hz (by rw [hsz]; omega) (by rw [hsz]; omega) ?_
  rw [hsz, hp]
  have := Great.fill_whole (s := 32) (by omega) (ls.map hv) ((Array.range (ls.length * 32)).map (z.cells[· % z.cells.size]!)) (fun v hv' => by obtain ⟨x, hx, rfl⟩ := List.mem_map.1 hv'; simp [hv, Value.cells, c8_len, h32 x hx]) (by simp)
  refine Eq.trans this ?_
  rw [List.flatMap_map, c8_flat]
theorem bs22 (W : World) {x : Hs} (h32 : x.length = 32) : (Instr.buildSlice 39 1 #[(0, hv x)]).run Try.prog W = .ok (.slice (some ⟨W.heap.size, 0, none⟩) 1 1) (W.alloc (.cells (c8 x).toArray 43)) := by
  have := bs22s W (ls := [x]) (All32.cons h32 All32.nil) (by simp) (by simp) #[(0, hv x)] rfl
  simpa using this
theorem wpList_bs22 {w : World} {ops : Array Oper} {rest : List Oper} {o : Oper} {a : Act} {Q : Exit → Act → World → Prop} (hg : o.guard = none) (x : Operand) (ho : o.op = .buildSlice 39 1 #[(0, x)]) {h : Hs} (h32 : h.length = 32) (hx : a.eval x = hv h) (K : wpList Try.prog ops Q rest (a.put o.dst (.slice (some ⟨w.heap.size, 0, none⟩) 1 1)) (w.alloc (.cells (c8 h).toArray 43))) : wpList Try.prog ops Q (o :: rest) a w :=
  wpList_of_run hg (by unfold execOp; simp [ho, hx, bs22 w h32]) K
theorem cell_at {w w' : World} {p : Addr} {v : Value} (h : After w w') (hc : w.cell? p = some v) : w'.cell? p = some v := (Below.cell h (World.block_lt_of_cell? w _ hc)).trans hc
section
open Go.RowKit Leb
theorem slice24 (g o : Nat) (W : World) : (Instr.sliceAt 43 (.pointer (some ⟨g, o, none⟩)) none none none).run Try.prog W = .ok (.slice (some ⟨g, o, none⟩) 32 32) W := by
  obtain ⟨i, hi, hz⟩ := Option.map_eq_some_iff.1 bytes5
  simp [Instr.sliceAt, run_underlying Try.underlying43, Instr.sureAddr, Instr.sliceBounds, sizeOf, typeInfo, hi, Addr.add]
theorem x_sl24 {o : Oper} {a : Act} {x : Operand} {w : World} {g p : Nat} (hop : o.op = .slice 43 x none none none) (hx : a.eval x = .pointer (some ⟨g, p, none⟩)) : (execOp a.eval o).run Try.prog w = .ok (.value (.slice (some ⟨g, p, none⟩) 32 32)) w := by
  unfold execOp
  simp only [hop, hx, Option.map, Sem.run_bind, slice24 g p w, Result.andThen_ok]
  rfl
theorem bytes_row {w : World} {g : Nat} {h : Hs} (hr : w.heap[g]? = some (.cells (c8 h).toArray 43 (0, 0))) : BytesAt w (some ⟨g, 0, none⟩) h := fun _ => ⟨g, 0, rfl, fun j hj => by
  rw [Nat.zero_add]; exact (show RowIs w g 43 (c8 h) from hr).cell (c8_get h j hj)⟩
theorem bytes_range {w : World} {g o : Nat} {h : Hs} (hr : w.rangeAt g o (c8 h)) : BytesAt w (some ⟨g, o, none⟩) h := fun _ => ⟨g, o, rfl, fun j hj => hr j _ (c8_get h j hj)⟩
/-- The bytes of a list. -/
def putB (l : List Hs) (n i : Nat) : List UInt8 := uintB n ++ (l.take i).flatten
theorem putB_succ {l : List Hs} {n i : Nat} {h : Hs} (hi : l[i]? = some h) : putB l n i ++ h = putB l n (i + 1) := by
  unfold putB; rw [List.take_add_one, hi]; simp
theorem putB_len {l : List Hs} {n i : Nat} (h32 : All32 l) : (putB l n i).length ≤ (uintB n).length + i * 32 := by
  unfold putB
  rw [List.length_append, flat_len (fun x hx => h32 x (List.mem_of_mem_take hx)), List.length_take]
  have : min i l.length ≤ i := Nat.min_le_left _ _
  have := Nat.mul_le_mul_right 32 this
  omega
structure PtI (w : World) (l : List Hs) (n i : Nat) (v : Value) (wr : World) : Prop where
  own : Own wr w.heap.size v (putB l n i)
  aft : After w wr
set_option maxRecDepth 100000 in
set_option maxHeartbeats 3200000 in
theorem put_any (ao : Option Addr) (ca : Nat) (l : List Hs) (h32 : All32 l) (n : Nat) (hl : l.length = n) (hbig : n * 32 + 20 ≤ 140737488355328) (w : World) (hA : HsAt w ao l) :
    Calls Try.prog 45 #[.slice ao n ca] w fun e w' => ∃ v, e = .returned v ∧ Own w' w.heap.size v (putB l n n) ∧ After w w' := by
  have HFA : Hid (HsAt w ao l ∧ All32 l ∧ l.length = n) := ⟨hA, h32, hl⟩
  have HUL : Hid ((uintB n).length ≤ 10) := uintB_len10 n (by omega)
  have hC : Calls Try.prog 43 #[.int .u64 (n : Int)] w fun e w' => ∃ v, e = .returned v ∧ Own w' w.heap.size v (putB l n 0) ∧ After w w' := by
    have := uint_any n (by omega) w
    unfold putB; rw [List.take_zero, List.flatten_nil, List.append_nil]; exact this
  have HC := show Hid _ from hC
  have hn64 : n < 9223372036854775808 := by omega
  clear hA h32 hl hC
  go_enter Try.func45, Try.ntmps45
  go_wp2_with (go_at_call 43; refine Calls.mono HC.out ?_; rintro e w1 ⟨v, rfl, ho1, ha1⟩; have HP0 := show Hid (PtI w l n 0 v w1) from ⟨ho1, ha1⟩; clear ho1 ha1)
  clear HC
  go_loopw [3, 12] (fun v iv wr => ∃ i : Nat, i ≤ n ∧ iv = .int .i64 (i : Int) ∧ Hid (PtI w l n i v wr)) (fun _ iv _ => n - (intOf iv).toNat)
  case atStart => exact ⟨0, Nat.zero_le _, rfl, HP0⟩
  case round =>
    obtain ⟨i, hin, rfl, HI⟩ := hrel
    obtain ⟨v, rfl⟩ : ∃ v, v = u3 := ⟨_, rfl⟩
    by_cases hlt : i < n
    · have hii : (i : Int) < (n : Int) := by omega
      obtain ⟨h, hh⟩ : ∃ h, l[i]? = some h := ⟨_, List.getElem?_eq_getElem (by rw [HFA.out.2.2]; exact hlt)⟩
      obtain ⟨xb, xo, hxa, hrg⟩ := HFA.out.1.get HFA.out.2.1 (by intro e; rw [e] at hh; simp at hh)
      subst hxa
      have HR : Hid (wr.rangeAt xb (xo + i * 32) (c8 h)) := range_after (hrg i h hh) HI.out.aft
      have H32 : Hid (h.length = 32) := HFA.out.2.1.at hh
      have HNX : Hid (putB l n i ++ h = putB l n (i + 1)) := putB_succ hh
      have HFS : Hid (∀ cs : Array Value, ((wr.alloc (.cells cs 43)).setRow wr.heap.size (c8 h).toArray).heap[wr.heap.size]? = some (.cells (c8 h).toArray 43 (0, 0)) ∧ After wr ((wr.alloc (.cells cs 43)).setRow wr.heap.size (c8 h).toArray) ∧ ((wr.alloc (.cells cs 43)).setRow wr.heap.size (c8 h).toArray).heap.size = wr.heap.size + 1) := fun cs => fresh_row wr h cs
      have HKB : Hid ((putB l n i).length + h.length ≤ 140737488355328) := by have h1 := putB_len (n := n) (i := i) HFA.out.2.1; have h2 := HUL.out; have h3 := H32.out; unfold Hid; omega
      clear hh hrg
      go_wp2_with (first
        | (refine wpList_load_mid rfl 43 (.tmp 14) rfl xb (xo + i * 32) rfl (c8 h) _ HR.out Try.underlying43 rfl (size24' H32.out) ?_)
        | (refine wpList_store_row rfl 43 (.tmp 5) (.tmp 15) rfl wr.heap.size (c8 h).toArray rfl rfl 43 _ (heap_alloc_new wr _) (size24a H32.out) (by simp [c8_len, H32.out]) (hs_oneH h) ?_)
        | (refine wpList_of_run rfl (x_sl24 (x := .tmp 5) (g := wr.heap.size) (p := 0) rfl rfl) ?_)
        | (at_builtin; refine wpList_append_any rfl _ _ rfl w.heap.size v (putB l n i) rfl (Own.below HI.out.own (HFS.out _).2.1 (Nat.le_refl _)) (some ⟨wr.heap.size, 0, none⟩) 32 h 32 H32.out rfl (bytes_row (HFS.out _).1) HKB.out (by rw [(HFS.out _).2.2]; have := HI.out.aft.size; omega) ?_
           intro v' w6 ho6 hg6
           rw [HNX.out] at ho6
           have HN2 := show Hid (PtI w l n (i + 1) v' w6) from ⟨ho6, after_grown (After.trans HI.out.aft (HFS.out _).2.1) hg6 (Nat.le_refl _) (fun j hj => (World.ownsRow.lt HI.out.own j hj).1)⟩
           clear ho6 hg6))
      go_roundw
      case rel => exact ⟨i + 1, by omega, by go_num, HN2⟩
      case measure => simp [intOf]; omega
    · have hii : ¬ (i : Int) < (n : Int) := by omega
      have hie : i = n := by omega
      have HE : Hid (PtI w l n n v wr) := by have := HI.out; rw [hie] at this; exact this
      clear hie HI
      go_wp2
      go_ret
      exact ⟨_, rfl, HE.out.own, HE.out.aft⟩
set_option maxRecDepth 100000 in
set_option maxHeartbeats 3200000 in
theorem rput_any (ao : Option Addr) (ca : Nat) (l : List Hs) (h32 : All32 l) (n : Nat) (hl : l.length = n) (hbig : n * 32 + 20 ≤ 140737488355328) (w : World) (hA : HsAt w ao l) :
    Calls Try.prog 51 #[.slice ao n ca] w fun e w' => ∃ v, e = .returned v ∧ Own w' w.heap.size v (putB l n n) ∧ After w w' := by
  have HFA : Hid (HsAt w ao l ∧ All32 l ∧ l.length = n) := ⟨hA, h32, hl⟩
  have HUL : Hid ((uintB n).length ≤ 10) := uintB_len10 n (by omega)
  have hC : Calls Try.prog 46 #[.int .u64 (n : Int)] w fun e w' => ∃ v, e = .returned v ∧ Own w' w.heap.size v (putB l n 0) ∧ After w w' := by
    have := ruint_any n (by omega) w
    unfold putB; rw [List.take_zero, List.flatten_nil, List.append_nil]; exact this
  have HC := show Hid _ from hC
  have hn64 : n < 9223372036854775808 := by omega
  clear hA h32 hl hC
  go_enter Try.func51, Try.ntmps51
  go_wp2_with (go_at_call 46; refine Calls.mono HC.out ?_; rintro e w1 ⟨v, rfl, ho1, ha1⟩; have HP0 := show Hid (PtI w l n 0 v w1) from ⟨ho1, ha1⟩; clear ho1 ha1)
  clear HC
  go_loopw [3, 4] (fun v iv wr => ∃ i : Nat, i ≤ n ∧ iv = .int .i64 (i : Int) ∧ Hid (PtI w l n i v wr)) (fun _ iv _ => n - (intOf iv).toNat)
  case atStart => exact ⟨0, Nat.zero_le _, rfl, HP0⟩
  case round =>
    obtain ⟨i, hin, rfl, HI⟩ := hrel
    obtain ⟨v, rfl⟩ : ∃ v, v = u3 := ⟨_, rfl⟩
    by_cases hlt : i < n
    · have hii : (i : Int) < (n : Int) := by omega
      obtain ⟨h, hh⟩ : ∃ h, l[i]? = some h := ⟨_, List.getElem?_eq_getElem (by rw [HFA.out.2.2]; exact hlt)⟩
      obtain ⟨xb, xo, hxa, hrg⟩ := HFA.out.1.get HFA.out.2.1 (by intro e; rw [e] at hh; simp at hh)
      subst hxa
      have HR : Hid (wr.rangeAt xb (xo + i * 32) (c8 h)) := range_after (hrg i h hh) HI.out.aft
      have H32 : Hid (h.length = 32) := HFA.out.2.1.at hh
      have HNX : Hid (putB l n i ++ h = putB l n (i + 1)) := putB_succ hh
      have HKB : Hid ((putB l n i).length + h.length ≤ 140737488355328) := by have h1 := putB_len (n := n) (i := i) HFA.out.2.1; have h2 := HUL.out; have h3 := H32.out; unfold Hid; omega
      clear hh hrg
      go_wp2_with (first
        | (refine wpList_of_run rfl (x_sl24 (x := .tmp 18) (g := xb) (p := xo + i * 32) rfl rfl) ?_)
        | (at_builtin; refine wpList_append_any rfl _ _ rfl w.heap.size v (putB l n i) rfl HI.out.own (some ⟨xb, xo + i * 32, none⟩) 32 h 32 H32.out rfl (bytes_range HR.out) HKB.out HI.out.aft.size ?_
           intro v' w6 ho6 hg6
           rw [HNX.out] at ho6
           have HN2 := show Hid (PtI w l n (i + 1) v' w6) from ⟨ho6, after_grown HI.out.aft hg6 (Nat.le_refl _) (fun j hj => (World.ownsRow.lt HI.out.own j hj).1)⟩
           clear ho6 hg6))
      go_roundw
      case rel => exact ⟨i + 1, by omega, by go_num, HN2⟩
      case measure => simp [intOf]; omega
    · have hii : ¬ (i : Int) < (n : Int) := by omega
      have hie : i = n := by omega
      have HE : Hid (PtI w l n n v wr) := by have := HI.out; rw [hie] at this; exact this
      clear hie HI
      go_wp2
      go_ret
      exact ⟨_, rfl, HE.out.own, HE.out.aft⟩
end
end Go.Proofs.Ytcmcapcagblafaa
