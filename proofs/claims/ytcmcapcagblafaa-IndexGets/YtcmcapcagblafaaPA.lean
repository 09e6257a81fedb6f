/-
  ROWS OF THINGS OF k CELLS EACH: in memory, and a holder's own.
-/
import Derived.Test.YtcmcapcagblafaaRA
import Derived.Maps.AppendAt
import Derived.Laws.OwnMore
namespace Go.Proofs.Ytcmcapcagblafaa
open Go.RowKit
theorem RowIs.shape {w : World} {g : Nat} {t : TypeId} {cs : List Value} (h : RowIs w g t cs) : w.shape? g = some (t, cs.length) := by
  unfold RowIs at h
  unfold World.shape?
  rw [h]; simp
theorem RowIs.setCells {t : TypeId} {g : Nat} : ∀ (vs : List Value) (o : Nat) {w : World} {cs : List Value}, RowIs w g t cs → o + vs.length ≤ cs.length → RowIs (w.setCells g o vs) g t (cs.take o ++ vs ++ cs.drop (o + vs.length))
  | [], o, w, cs, h, _ => by simpa [World.setCells] using h
  | v :: r, o, w, cs, h, hl => by
    have h1 := RowIs.setCells r (o + 1) (h.set o v) (by simp only [List.length_cons] at hl; rw [List.length_set]; omega)
    have e : (cs.set o v).take (o + 1) ++ r ++ (cs.set o v).drop (o + 1 + r.length) = cs.take o ++ v :: r ++ cs.drop (o + (v :: r).length) := by
      simp only [List.length_cons] at hl ⊢
      have ho : o < cs.length := by omega
      rw [List.take_set, List.take_add_one, List.getElem?_eq_getElem ho, List.drop_set, if_pos (by omega)]
      have : ((cs.take o ++ (some cs[o]).toList).set o v) = cs.take o ++ [v] := by
        rw [List.set_append_right _ _ (by rw [List.length_take]; omega)]
        simp [List.length_take, Nat.min_eq_left (Nat.le_of_lt ho)]
      rw [this, show o + (r.length + 1) = o + 1 + r.length by omega]
      simp
    rw [e] at h1
    exact h1
theorem setCells_other {g k : Nat} : ∀ (vs : List Value) (o : Nat) (w : World), k ≠ g → (w.setCells g o vs).heap[k]? = w.heap[k]?
  | [], _, _, _ => rfl
  | v :: r, o, w, h => by
    show ((w.setCell ⟨g, o, none⟩ v).setCells g (o + 1) r).heap[k]? = _
    rw [setCells_other r (o + 1) _ h]
    exact Below.heap_setCell w ⟨g, o, none⟩ v k h
theorem setCells_size {g : Nat} : ∀ (vs : List Value) (o : Nat) (w : World), (w.setCells g o vs).heap.size = w.heap.size ∧ (w.setCells g o vs).os = w.os ∧ (w.setCells g o vs).tape = w.tape ∧ (w.setCells g o vs).output = w.output
  | [], _, _ => ⟨rfl, rfl, rfl, rfl⟩
  | v :: r, o, w => by
    obtain ⟨h1, h2, h3, h4⟩ := setCells_size (g := g) r (o + 1) (w.setCell ⟨g, o, none⟩ v)
    exact ⟨h1.trans (by show (w.heap.modify _ _).size = _; rw [Array.size_modify]), h2, h3, h4⟩
theorem grown_setCells (w : World) (g o : Nat) (vs : List Value) : w.grownBy (w.setCells g o vs) (some g) := by
  obtain ⟨h1, h2, h3, h4⟩ := setCells_size (g := g) vs o w
  exact ⟨h2, h3, h4, by omega, fun k _ hk => setCells_other vs o w (fun e => hk (by rw [e]))⟩
theorem grown_drew (w : World) (row : Option Nat) : w.grownBy w.drew row := ⟨rfl, rfl, rfl, Nat.le_refl _, fun _ _ _ => rfl⟩
theorem grown_alloc (w : World) (o : Obj) (row : Option Nat) : w.grownBy (w.alloc o) row := ⟨rfl, rfl, rfl, by simp, fun k hk _ => Below.heap_alloc w o k hk⟩
theorem own_row {w : World} {base : Nat} {e : TypeId} {size : Nat} {v : Value} {n : Nat} {xs : List Value} (h : w.ownsRow base e size v n xs) :
    (v = .slice none 0 0 ∧ n = 0 ∧ xs = []) ∨ ∃ g cap cs, v = .slice (some ⟨g, 0, none⟩) n cap ∧ base ≤ g ∧ RowIs w g e cs ∧ n ≤ cap ∧ cap ≤ maxLen ∧ cs.length = cap * size ∧ cs.take (n * size) = xs := by
  rcases h.2 with ⟨hv, h0⟩ | ⟨g, cap, cur, hv, hb, hg, hn, hc, hs, ht⟩
  · exact .inl ⟨hv, h0, List.eq_nil_of_length_eq_zero (by rw [h.1, h0, Nat.zero_mul])⟩
  · exact .inr ⟨g, cap, cur.toList, hv, hb, by unfold RowIs; simpa using hg, hn, hc, by simpa using hs, ht⟩
theorem row_own {w : World} {base g n cap : Nat} {e : TypeId} {size : Nat} {cs xs : List Value} (hb : base ≤ g) (hr : RowIs w g e cs) (hn : n ≤ cap) (hc : cap ≤ maxLen) (hl : cs.length = cap * size) (ht : cs.take (n * size) = xs) : w.ownsRow base e size (.slice (some ⟨g, 0, none⟩) n cap) n xs := by
  refine ⟨?_, .inr ⟨g, cap, cs.toArray, rfl, hb, hr, hn, hc, by simpa using hl, by simpa using ht⟩⟩
  rw [← ht, List.length_take, hl, Nat.min_eq_left (Nat.mul_le_mul_right _ hn)]
/-- A row of places. -/
abbrev pv (p : Nat) : Value := .int .i64 (p : Int)
section
variable {k : Nat} {L : List (List Value)}
def Uni (k : Nat) (L : List (List Value)) : Prop := ∀ x ∈ L, x.length = k
theorem Uni.at (h : Uni k L) {i : Nat} {x : List Value} (hx : L[i]? = some x) : x.length = k := h x (List.mem_of_getElem? hx)
theorem Uni.tail {x : List Value} (h : Uni k (x :: L)) : Uni k L := fun y hy => h y (by simp [hy])
theorem fl_len : ∀ {L : List (List Value)}, Uni k L → L.flatten.length = L.length * k
  | [], _ => by simp
  | x :: L, h => by rw [List.flatten_cons, List.length_append, fl_len h.tail, h x (by simp), List.length_cons, Nat.add_mul, Nat.one_mul, Nat.add_comm]
theorem fl_get : ∀ {L : List (List Value)}, Uni k L → ∀ {i : Nat} {x : List Value}, L[i]? = some x → ∀ {j : Nat} {v : Value}, x[j]? = some v → L.flatten[i * k + j]? = some v
  | [], _, i, x, hx, _, _, _ => by simp at hx
  | y :: L, h, 0, x, hx, j, v, hv => by
    obtain rfl : y = x := by simpa using hx
    rw [List.flatten_cons, List.getElem?_append_left (by have := (List.getElem?_eq_some_iff.1 hv).1; omega)]
    simpa using hv
  | y :: L, h, i + 1, x, hx, j, v, hv => by
    have hy := h y (by simp)
    rw [List.flatten_cons, List.getElem?_append_right (by rw [hy, Nat.add_mul]; omega), hy]
    have := fl_get h.tail (i := i) (x := x) (by simpa using hx) hv
    rw [← this]; congr 1; rw [Nat.add_mul]; omega
theorem fl_of : ∀ {L : List (List Value)}, Uni k L → ∀ {q : Nat} {v : Value}, L.flatten[q]? = some v → ∃ (i : Nat) (x : List Value) (j : Nat), L[i]? = some x ∧ x[j]? = some v ∧ q = i * k + j
  | [], _, q, v, hq => by simp at hq
  | y :: L, h, q, v, hq => by
    have hy := h y (by simp)
    rw [List.flatten_cons] at hq
    by_cases hlt : q < k
    · rw [List.getElem?_append_left (by omega)] at hq
      exact ⟨0, y, q, rfl, hq, by omega⟩
    · rw [List.getElem?_append_right (by omega), hy] at hq
      obtain ⟨i, x, j, h1, h2, h3⟩ := fl_of h.tail hq
      exact ⟨i + 1, x, j, by simpa using h1, h2, by rw [Nat.add_mul]; omega⟩
theorem Uni.set (h : Uni k L) {i : Nat} {x : List Value} (hx : x.length = k) : Uni k (L.set i x) := fun y hy => by
  rcases List.mem_or_eq_of_mem_set hy with hy | hy
  · exact h y hy
  · rw [hy]; exact hx
theorem Uni.snoc (h : Uni k L) {x : List Value} (hx : x.length = k) : Uni k (L ++ [x]) := fun y hy => by
  rcases List.mem_append.1 hy with hy | hy
  · exact h y hy
  · rw [List.mem_singleton] at hy; rw [hy]; exact hx
theorem fl_set : ∀ {L : List (List Value)}, Uni k L → ∀ {i : Nat} {x : List Value}, L[i]? = some x → ∀ {j : Nat} (v : Value), j < k → L.flatten.set (i * k + j) v = (L.set i (x.set j v)).flatten
  | [], _, i, x, hx, _, _, _ => by simp at hx
  | y :: L, h, 0, x, hx, j, v, hj => by
    obtain rfl : y = x := by simpa using hx
    have hy := h y (by simp)
    rw [List.flatten_cons, List.set_append_left _ _ (by omega)]
    simp
  | y :: L, h, i + 1, x, hx, j, v, hj => by
    have hy := h y (by simp)
    rw [List.flatten_cons, List.set_append_right _ _ (by rw [hy, Nat.add_mul]; omega), hy]
    have := fl_set h.tail (i := i) (x := x) (by simpa using hx) v hj
    rw [show (i + 1) * k + j - k = i * k + j by rw [Nat.add_mul]; omega, this]
    simp
end
/-- A row of things of k cells each that is its holder's own. -/
def OwnL (w : World) (base : Nat) (t : TypeId) (k : Nat) (v : Value) (L : List (List Value)) : Prop := Uni k L ∧ w.ownsRow base t k v L.length L.flatten
theorem OwnL.nil (w : World) (base : Nat) (t : TypeId) (k : Nat) : OwnL w base t k (.slice none 0 0) [] := ⟨fun _ h => by simp at h, World.ownsRow_nil w base t k⟩
theorem OwnL.row {w : World} {base : Nat} {t : TypeId} {k : Nat} {v : Value} {L : List (List Value)} (h : OwnL w base t k v L) (hn : L ≠ []) : ∃ g cap cs, v = .slice (some ⟨g, 0, none⟩) L.length cap ∧ base ≤ g ∧ RowIs w g t cs ∧ L.length ≤ cap ∧ cap ≤ maxLen ∧ cs.length = cap * k ∧ cs.take (L.length * k) = L.flatten := by
  rcases own_row h.2 with ⟨_, h0, _⟩ | hr
  · exact absurd (List.eq_nil_of_length_eq_zero h0) hn
  · exact hr
theorem OwnL.range {w : World} {base g n cap : Nat} {t : TypeId} {k : Nat} {L : List (List Value)} (h : OwnL w base t k (.slice (some ⟨g, 0, none⟩) n cap) L) {i : Nat} {x : List Value} (hx : L[i]? = some x) : w.rangeAt g (i * k) x := fun j v hv => by
  obtain ⟨g', cap', cs, he, _, hr, _, _, _, ht⟩ := h.row (fun e => by rw [e] at hx; simp at hx)
  cases he
  have h1 := fl_get h.1 hx hv
  rw [← ht] at h1
  have h2 : cs[i * k + j]? = some v := by
    rw [List.getElem?_take] at h1
    split at h1
    · exact h1
    · cases h1
  exact hr.cell h2
theorem OwnL.set {w : World} {base g n cap : Nat} {t : TypeId} {k : Nat} {L : List (List Value)} (h : OwnL w base t k (.slice (some ⟨g, 0, none⟩) n cap) L) {i : Nat} {x : List Value} (hx : L[i]? = some x) {j : Nat} (hj : j < k) (v : Value) : OwnL (w.setCell ⟨g, i * k + j, none⟩ v) base t k (.slice (some ⟨g, 0, none⟩) n cap) (L.set i (x.set j v)) := by
  obtain ⟨g', cap', cs, he, hb, hr, hnc, hcm, hcl, ht⟩ := h.row (fun e => by rw [e] at hx; simp at hx)
  cases he
  have hi := (List.getElem?_eq_some_iff.1 hx).1
  have hlt : i * k + j < L.length * k := by
    have : (i + 1) * k ≤ L.length * k := Nat.mul_le_mul_right _ hi
    rw [Nat.add_mul] at this; omega
  refine ⟨h.1.set (by rw [List.length_set]; exact h.1.at hx), ?_⟩
  have := row_own (n := L.length) (cap := cap) (size := k) (xs := (L.set i (x.set j v)).flatten) hb (hr.set (i * k + j) v) hnc hcm (by rw [List.length_set]; exact hcl) (by
    rw [List.take_set, ht, fl_set h.1 hx v hj])
  rw [List.length_set]
  exact this
theorem OwnL.same {w w' : World} {base : Nat} {t : TypeId} {k : Nat} {v : Value} {L : List (List Value)} (h : OwnL w base t k v L) (hs : ∀ b, v.ownBlock = some b → w'.heap[b]? = w.heap[b]?) : OwnL w' base t k v L := by
  refine ⟨h.1, h.2.1, ?_⟩
  rcases h.2.2 with h0 | ⟨g, cap, cur, hv, hb, hg, rest⟩
  · exact .inl h0
  · exact .inr ⟨g, cap, cur, hv, hb, by rw [hs g (by rw [hv]; rfl)]; exact hg, rest⟩
theorem own_lt {w : World} {base : Nat} {e : TypeId} {size : Nat} {v : Value} {n : Nat} {xs : List Value} (h : w.ownsRow base e size v n xs) {b : Nat} (hb : v.ownBlock = some b) : base ≤ b ∧ b < w.heap.size ∧ ∃ cs, RowIs w b e cs := by
  rcases own_row h with ⟨rfl, _, _⟩ | ⟨g, cap, cs, rfl, h1, h2, _⟩
  · cases hb
  · cases hb; exact ⟨h1, h2.lt, cs, h2⟩
theorem own_mono {w : World} {base base' : Nat} {e : TypeId} {size : Nat} {v : Value} {n : Nat} {xs : List Value} (h : w.ownsRow base e size v n xs) (hb : base' ≤ base) : w.ownsRow base' e size v n xs := by
  refine ⟨h.1, ?_⟩
  rcases h.2 with h0 | ⟨g, cap, cur, hv, hb2, hg, rest⟩
  · exact .inl h0
  · exact .inr ⟨g, cap, cur, hv, Nat.le_trans hb hb2, hg, rest⟩
theorem RowIs.ty {w : World} {g : Nat} {t t' : TypeId} {cs cs' : List Value} (h : RowIs w g t cs) (h' : RowIs w g t' cs') : t = t' ∧ cs = cs' := by
  unfold RowIs at h h'
  rw [h] at h'
  injection h' with h'
  injection h' with h1 h2
  exact ⟨h2, by have := congrArg Array.toList h1; simpa using this⟩
/-- What lies as it lay but for some blocks. -/
structure KeptF (F : Nat → Prop) (w w' : World) : Prop where
  os : w'.os = w.os
  tape : w'.tape = w.tape
  output : w'.output = w.output
  size : w.heap.size ≤ w'.heap.size
  block : ∀ b, b < w.heap.size → ¬ F b → w'.heap[b]? = w.heap[b]?
theorem KeptF.refl (F : Nat → Prop) (w : World) : KeptF F w w := ⟨rfl, rfl, rfl, Nat.le_refl _, fun _ _ _ => rfl⟩
theorem KeptF.of_after {F : Nat → Prop} {w w' : World} (h : After w w') : KeptF F w w' := ⟨h.os, h.tape, h.output, h.size, fun b hb _ => h.block b hb⟩
theorem KeptF.of_grown {F : Nat → Prop} {w w' : World} {row : Option Nat} (h : w.grownBy w' row) (hr : ∀ b, row = some b → F b) : KeptF F w w' := ⟨h.os, h.tape, h.output, h.size, fun b hb hF => h.block b hb (fun e => hF (hr b e.symm))⟩
theorem KeptF.trans {F G : Nat → Prop} {a b c : World} (h : KeptF F a b) (k : KeptF G b c) (hG : ∀ x, x < a.heap.size → G x → F x) : KeptF F a c :=
  ⟨k.os.trans h.os, k.tape.trans h.tape, k.output.trans h.output, Nat.le_trans h.size k.size, fun x hx hF => (k.block x (Nat.lt_of_lt_of_le hx h.size) (fun hg => hF (hG x hx hg))).trans (h.block x hx hF)⟩
theorem KeptF.mono {F G : Nat → Prop} {a b : World} (h : KeptF F a b) (hG : ∀ x, x < a.heap.size → F x → G x) : KeptF G a b := ⟨h.os, h.tape, h.output, h.size, fun x hx hg => h.block x hx (fun hf => hg (hG x hx hf))⟩
theorem KeptF.row {F : Nat → Prop} {w w' : World} (h : KeptF F w w') {g : Nat} {t : TypeId} {cs : List Value} (hr : RowIs w g t cs) (hF : ¬ F g) : RowIs w' g t cs := by unfold RowIs; rw [h.block g hr.lt hF]; exact hr
theorem KeptF.below {F : Nat → Prop} {w w' : World} (h : KeptF F w w') {B : Nat} (hB : B ≤ w.heap.size) (hF : ∀ x, F x → B ≤ x) : Below B w w' := ⟨h.os, h.tape, h.output, h.size, fun k hk => h.block k (by omega) (fun hf => by have := hF k hf; omega)⟩
theorem KeptF.set {F : Nat → Prop} (w : World) (a : Addr) (v : Value) (h : F a.block) : KeptF F w (w.setCell a v) :=
  ⟨rfl, rfl, rfl, by show w.heap.size ≤ (w.heap.modify _ _).size; rw [Array.size_modify]; exact Nat.le_refl _, fun b _ hb => Below.heap_setCell w a v b (fun e => hb (by rw [e]; exact h))⟩
/-- Things of k cells each that lie somewhere. -/
def SlAt (W : World) (k : Nat) (a : Option Addr) (L : List (List Value)) : Prop := Uni k L ∧ (L ≠ [] → ∃ b o, a = some ⟨b, o, none⟩ ∧ W.rangeAt b o L.flatten)
theorem range_lt {W : World} {b o : Nat} {l : List Value} (h : W.rangeAt b o l) (hn : l ≠ []) : b < W.heap.size := by
  cases l with
  | nil => exact absurd rfl hn
  | cons v l => exact World.block_lt_of_cell? W ⟨b, o + 0, none⟩ (h 0 v rfl)
theorem SlAt.after {W W' : World} {k : Nat} {a : Option Addr} {L : List (List Value)} (h : SlAt W k a L) (ha : After W W') : SlAt W' k a L := ⟨h.1, fun hn => by
  obtain ⟨b, o, e, hr⟩ := h.2 hn
  exact ⟨b, o, e, range_after hr ha⟩⟩
theorem SlAt.at {W : World} {k : Nat} {a : Option Addr} {L : List (List Value)} (h : SlAt W k a L) {i : Nat} {x : List Value} (hx : L[i]? = some x) : ∃ b o, a = some ⟨b, o, none⟩ ∧ W.rangeAt b (o + i * k) x := by
  obtain ⟨b, o, e, hr⟩ := h.2 (fun e => by rw [e] at hx; simp at hx)
  refine ⟨b, o, e, fun j v hv => ?_⟩
  have := hr (i * k + j) v (fl_get h.1 hx hv)
  rw [Nat.add_assoc]; exact this
theorem SlAt.nil (W : World) (k : Nat) (a : Option Addr) : SlAt W k a [] := ⟨fun _ h => by simp at h, fun h => absurd rfl h⟩
theorem OwnL.sl {w : World} {base : Nat} {t : TypeId} {k : Nat} {v : Value} {L : List (List Value)} (h : OwnL w base t k v L) : ∃ a c, v = .slice a L.length c ∧ SlAt w k a L := by
  by_cases hn : L = []
  · subst hn
    rcases own_row h.2 with ⟨hv, _⟩ | ⟨g, cap, cs, hv, _⟩
    · exact ⟨none, 0, hv, SlAt.nil _ _ _⟩
    · exact ⟨_, cap, hv, SlAt.nil _ _ _⟩
  · obtain ⟨g, cap, cs, hv, _, hr, _, _, _, ht⟩ := h.row hn
    refine ⟨some ⟨g, 0, none⟩, cap, hv, h.1, fun _ => ⟨g, 0, rfl, fun j v hv => ?_⟩⟩
    rw [Nat.zero_add]
    rw [← ht, List.getElem?_take] at hv
    split at hv
    · exact hr.cell hv
    · cases hv
theorem run_appL {w : World} {base : Nat} {v : Value} {L N : List (List Value)} (t ty e : TypeId) (k by_ : Nat) {i : TypeInfo} {z : Value} (ht : Try.prog.underlying t = some (.slice e)) (hi : Try.prog.info? e = some i) (hz : i.zero = some z) (hsz : i.size = k) (hby : i.bytes = by_) (hzs : z.cells.size = k) (hk : 0 < k)
    (h : OwnL w base e k v L) {a : Option Addr} {m c : Nat} (hm : N.length = m) (hs : SlAt w k a N) (h1 : ∀ x ∈ N, ∀ u ∈ x, u.oneCell' = true) (hl : L.length + m ≤ maxLen) (hbytes : (L.length + m) * by_ ≤ 140737488355328) (hb : base ≤ w.heap.size) (hc : N = [] → a = none → c = 0) :
    ∃ va vc w', (Builtin.append_ #[t, t] ty #[v, .slice a m c]).run Try.prog w = .ok (.slice va (L.length + m) vc) w' ∧ OwnL w' base e k (.slice va (L.length + m) vc) (L ++ N) ∧ w.grownBy w' v.ownBlock ∧ ((Value.slice va (L.length + m) vc).ownBlock = v.ownBlock ∨ (Value.slice va (L.length + m) vc).ownBlock = some w.heap.size) := by
  subst hm
  cases a with
  | none =>
    have hN : N = [] := by
      cases N with
      | nil => rfl
      | cons x N => obtain ⟨b, o, e, _⟩ := hs.2 (by simp); cases e
    subst hN
    obtain rfl : c = 0 := hc rfl rfl
    obtain ⟨ao', cap', hv, hle⟩ : ∃ ao' cap', v = .slice ao' L.length cap' ∧ L.length ≤ cap' := by
      rcases own_row h.2 with ⟨hv, h0, _⟩ | ⟨g, cap, cs, hv, _, _, hnc, _⟩
      · exact ⟨none, 0, by rw [hv, h0], by omega⟩
      · exact ⟨_, cap, hv, hnc⟩
    have hr := run_append_nothing (P := Try.prog) w t t ty e i ht hi ao' L.length cap' hle (.slice none 0 0) (Src.ofNil w ht 0)
    refine ⟨ao', cap', w, by rw [hv]; exact hr, by rw [List.append_nil, List.length_nil, Nat.add_zero, ← hv]; exact h, ⟨rfl, rfl, rfl, Nat.le_refl _, fun _ _ _ => rfl⟩, .inl (by rw [hv]; rfl)⟩
  | some ad =>
    obtain ⟨v', w', r1, r2, r3, _, r5⟩ := run_append_own_at (P := Try.prog) w base t ty e i z k by_ ht hi hz hsz hby hzs hk v L.length L.flatten h.2 ad N.length c N.flatten (fl_len hs.1) (fun j u hu => by
      obtain ⟨b, o, e, hr⟩ := hs.2 (fun q => by rw [q] at hu; simp at hu)
      cases e
      rw [Addr.add_lit]; exact hr j u hu) (fun u hu => by
      obtain ⟨x, hx, hux⟩ := List.mem_flatten.1 hu
      exact h1 x hx u hux) hl hbytes hb
    have r2' : OwnL w' base e k v' (L ++ N) := ⟨fun x hx => by
      rcases List.mem_append.1 hx with hx | hx
      · exact h.1 x hx
      · exact hs.1 x hx, by rw [List.length_append, List.flatten_append]; exact r2⟩
    obtain ⟨va, vc, hv', _⟩ := r2'.sl
    rw [List.length_append] at hv'
    subst hv'
    exact ⟨va, vc, w', r1, r2', r3, r5⟩
end Go.Proofs.Ytcmcapcagblafaa
