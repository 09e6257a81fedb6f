/-
  ROWS OF PLACES: slices.Insert of one place at any index, in one contract.
-/
import Derived.Test.YtiglenomigipmaaRA
import Derived.Test.YtiglenomigipmaaSH
import Derived.Maps.AppendAt
import Derived.Laws.OwnMore
namespace Go.Proofs.Ytiglenomigipmaa
open Go.RowKit Go.Shelf
theorem RowIs.shape {w : World} {g : Nat} {t : TypeId} {cs : List Value} (h : RowIs w g t cs) : w.shape? g = some (t, cs.length) := by
  unfold RowIs at h
  unfold World.shape?
  rw [h]; simp
theorem RowIs.setCells {t : TypeId} {g : Nat} : ∀ (vs : List Value) (o : Nat) {w : World} {cs : List Value}, RowIs w g t cs → o + vs.length ≤ cs.length → RowIs (w.setCells g o vs) g t (cs.take o ++ vs ++ cs.drop (o + vs.length))
  | [], o, w, cs, h, _ => by simpa [World.setCells] using h
  | v :: r, o, w, cs, h, hl => by
    have h1 := RowIs.setCells r (o + 1) (h.set o v) (by simp only [List.length_cons] at hl; rw [List.length_set]; omega)
    have e : (cs.set o v).take (o + 1) ++ r ++ (cs.set o v).drop (o + 1 + r.length) = cs.take o ++ v :: r ++ cs.drop (o + (v :: r).length) := by
      simp only [List.length_cons] at hl ⊢
      have ho : o < cs.length := by omega
      rw [List.take_set, List.take_add_one, List.getElem?_eq_getElem ho, List.drop_set, if_pos (by omega)]
      have : ((cs.take o ++ (some cs[o]).toList).set o v) = cs.take o ++ [v] := by
        rw [List.set_append_right _ _ (by rw [List.length_take]; omega)]
        simp [List.length_take, Nat.min_eq_left (Nat.le_of_lt ho)]
      rw [this, show o + (r.length + 1) = o + 1 + r.length by omega]
      simp
    rw [e] at h1
    exact h1
theorem setCells_other {g k : Nat} : ∀ (vs : List Value) (o : Nat) (w : World), k ≠ g → (w.setCells g o vs).heap[k]? = w.heap[k]?
  | [], _, _, _ => rfl
  | v :: r, o, w, h => by
    show ((w.setCell ⟨g, o, none⟩ v).setCells g (o + 1) r).heap[k]? = _
    rw [setCells_other r (o + 1) _ h]
    exact Below.heap_setCell w ⟨g, o, none⟩ v k h
theorem setCells_size {g : Nat} : ∀ (vs : List Value) (o : Nat) (w : World), (w.setCells g o vs).heap.size = w.heap.size ∧ (w.setCells g o vs).os = w.os ∧ (w.setCells g o vs).tape = w.tape ∧ (w.setCells g o vs).output = w.output
  | [], _, _ => ⟨rfl, rfl, rfl, rfl⟩
  | v :: r, o, w => by
    obtain ⟨h1, h2, h3, h4⟩ := setCells_size (g := g) r (o + 1) (w.setCell ⟨g, o, none⟩ v)
    exact ⟨h1.trans (by show (w.heap.modify _ _).size = _; rw [Array.size_modify]), h2, h3, h4⟩
theorem grown_setCells (w : World) (g o : Nat) (vs : List Value) : w.grownBy (w.setCells g o vs) (some g) := by
  obtain ⟨h1, h2, h3, h4⟩ := setCells_size (g := g) vs o w
  exact ⟨h2, h3, h4, by omega, fun k _ hk => setCells_other vs o w (fun e => hk (by rw [e]))⟩
theorem grown_drew (w : World) (row : Option Nat) : w.grownBy w.drew row := ⟨rfl, rfl, rfl, Nat.le_refl _, fun _ _ _ => rfl⟩
theorem grown_alloc (w : World) (o : Obj) (row : Option Nat) : w.grownBy (w.alloc o) row := ⟨rfl, rfl, rfl, by simp, fun k hk _ => Below.heap_alloc w o k hk⟩
theorem own_row {w : World} {base : Nat} {e : TypeId} {size : Nat} {v : Value} {n : Nat} {xs : List Value} (h : w.ownsRow base e size v n xs) :
    (v = .slice none 0 0 ∧ n = 0 ∧ xs = []) ∨ ∃ g cap cs, v = .slice (some ⟨g, 0, none⟩) n cap ∧ base ≤ g ∧ RowIs w g e cs ∧ n ≤ cap ∧ cap ≤ maxLen ∧ cs.length = cap * size ∧ cs.take (n * size) = xs := by
  rcases h.2 with ⟨hv, h0⟩ | ⟨g, cap, cur, hv, hb, hg, hn, hc, hs, ht⟩
  · exact .inl ⟨hv, h0, List.eq_nil_of_length_eq_zero (by rw [h.1, h0, Nat.zero_mul])⟩
  · exact .inr ⟨g, cap, cur.toList, hv, hb, by unfold RowIs; simpa using hg, hn, hc, by simpa using hs, ht⟩
theorem row_own {w : World} {base g n cap : Nat} {e : TypeId} {size : Nat} {cs xs : List Value} (hb : base ≤ g) (hr : RowIs w g e cs) (hn : n ≤ cap) (hc : cap ≤ maxLen) (hl : cs.length = cap * size) (ht : cs.take (n * size) = xs) : w.ownsRow base e size (.slice (some ⟨g, 0, none⟩) n cap) n xs := by
  refine ⟨?_, .inr ⟨g, cap, cs.toArray, rfl, hb, hr, hn, hc, by simpa using hl, by simpa using ht⟩⟩
  rw [← ht, List.length_take, hl, Nat.min_eq_left (Nat.mul_le_mul_right _ hn)]
/-- A row of places. -/
abbrev pv (p : Nat) : Value := .int .i64 (p : Int)
def ci (l : List Nat) : List Value := l.map pv
theorem ci_len (l : List Nat) : (ci l).length = l.length := by simp [ci]
theorem ci_one (l : List Nat) : ∀ v ∈ ci l, v.oneCell' = true := by
  intro v hv; obtain ⟨n, _, rfl⟩ := List.mem_map.1 hv; rfl
def OwnI (w : World) (base : Nat) (v : Value) (l : List Nat) : Prop := w.ownsRow base 3 1 v l.length (ci l)
theorem OwnI.nil (w : World) (base : Nat) : OwnI w base (.slice none 0 0) [] := World.ownsRow_nil w base 3 1
theorem RowIs.cellsAt {w : World} {g : Nat} {t : TypeId} {cs : List Value} (h : RowIs w g t cs) : ∀ j v, cs[j]? = some v → w.cell? ⟨g, 0 + j, none⟩ = some v := fun j v hv => by rw [Nat.zero_add]; exact h.cell hv
theorem shift_eq {cs xs : List Value} {i n : Nat} (p : Value) (hct : cs.take n = xs) (hn : xs.length = n) (hi : i < n) (hc : n < cs.length) {T : List Value} :
    (((cs.take (i + 1) ++ xs.drop i ++ T).take i ++ [p] ++ (cs.take (i + 1) ++ xs.drop i ++ T).drop (i + 1))).take (n + 1) = xs.take i ++ p :: xs.drop i := by
  have e1 : (cs.take (i + 1) ++ xs.drop i ++ T).take i = xs.take i := by
    rw [List.append_assoc, List.take_append_of_le_length (by rw [List.length_take]; omega), List.take_take, Nat.min_eq_left (by omega), ← hct, List.take_take, Nat.min_eq_left (by omega)]
  have e2 : (cs.take (i + 1) ++ xs.drop i ++ T).drop (i + 1) = xs.drop i ++ T := by
    rw [List.append_assoc, List.drop_left' (by rw [List.length_take]; omega)]
  rw [e1, e2, ← List.append_assoc, List.take_left' (by simp; omega)]
  simp
theorem grow_eq {Z xs : List Value} {i n : Nat} (p : Value) (hz : Z.take i = xs.take i) (hn : xs.length = n) (hi : i < n) (hc : n < Z.length) {U T : List Value} :
    ((Z.take i ++ [p] ++ U).take (i + 1) ++ xs.drop i ++ T).take (n + 1) = xs.take i ++ p :: xs.drop i := by
  have e1 : (Z.take i ++ [p] ++ U).take (i + 1) = xs.take i ++ [p] := by
    rw [List.take_left' (by rw [List.length_append, List.length_take]; simp; omega), hz]
  rw [e1, List.take_left' (by simp; omega)]
  simp
theorem ci_ins (l : List Nat) (p i : Nat) : ci (l.take i ++ p :: l.drop i) = (ci l).take i ++ pv p :: (ci l).drop i := by simp [ci, List.map_take, List.map_drop]
set_option maxRecDepth 100000 in
set_option maxHeartbeats 1600000 in
theorem ins_any {w : World} {base : Nat} {v : Value} {l : List Nat} (hown : OwnI w base v l) {i p vb : Nat} (hi : i ≤ l.length) (hr : RowIs w vb 3 [pv p]) (hvb : v.ownBlock ≠ some vb) (hlen : l.length ≤ 1000000) (hbase : base ≤ w.heap.size) :
    Calls Try.prog 50 #[v, .int .i64 (i : Int), .slice (some ⟨vb, 0, none⟩) 1 1] w fun e w' => ∃ v', e = .returned v' ∧ OwnI w' base v' (l.take i ++ p :: l.drop i) ∧ w.grownBy w' v.ownBlock ∧ (v'.ownBlock = v.ownBlock ∨ v'.ownBlock = some w.heap.size) := by
  have hL := sh_ins
  have hvs : ∀ j u, [pv p][j]? = some u → w.cell? ⟨vb, 0 + j, none⟩ = some u := hr.cellsAt
  have h1v : ∀ u ∈ [pv p], u.oneCell' = true := fun u hu => by rw [List.mem_singleton] at hu; subst hu; rfl
  have hln : (l.take i ++ p :: l.drop i).length = l.length + 1 := by simp; omega
  have fresh : ∀ (c : Nat), c < l.length + 1 → (w.drew.alloc (.cells ((ci l ++ [pv p]).toArray ++ Builtin.zeroCells (Value.int .i64 0).cells (grownCap w (l.length + 1) c 3 - (l.length + 1))) 3)).ownsRow base 3 1 (.slice (some ⟨w.heap.size, 0, none⟩) (l.length + 1) (grownCap w (l.length + 1) c 3)) (l.length + 1) (ci (l ++ [p])) := fun c hc => by
    have hge := grownCap_ge w (l.length + 1) c 3
    have hr2 := RowIs.new w.drew 3 (ci l ++ [pv p] ++ (Builtin.zeroCells (Value.int .i64 0).cells (grownCap w (l.length + 1) c 3 - (l.length + 1))).toList)
    have e : (ci l ++ [pv p]).toArray ++ Builtin.zeroCells (Value.int .i64 0).cells (grownCap w (l.length + 1) c 3 - (l.length + 1)) = (ci l ++ [pv p] ++ (Builtin.zeroCells (Value.int .i64 0).cells (grownCap w (l.length + 1) c 3 - (l.length + 1))).toList).toArray := by simp
    rw [e]
    refine row_own hbase hr2 hge (grownCap_le_maxLen _ _ _ _ (by unfold maxLen; omega)) ?_ ?_
    · simp [ci_len, Builtin.zeroCells, Value.cells]; omega
    · rw [List.take_append_of_le_length (by simp [ci_len]), List.take_of_length_le (by simp [ci_len])]; simp [ci]
  rcases own_row hown with ⟨rfl, h0, _⟩ | ⟨g, cap, cs, rfl, hbg, hrow, hnc, hcm, hcl, hct⟩
  · obtain rfl : l = [] := List.eq_nil_of_length_eq_zero h0
    obtain rfl : i = 0 := by simpa using hi
    refine (Any2.slices_Insert_int_end_grow hL none 0 0 vb 0 1 1 [] [pv p] w (by omega) (by omega) (by omega) (by omega) rfl rfl (fun _ => rfl) (fun a h => by cases h) hvs h1v).mono ?_
    rintro e w' ⟨rfl, rfl⟩
    exact ⟨_, rfl, fresh 0 (by simp), ⟨rfl, rfl, rfl, by simp, fun k hk _ => Below.heap_alloc _ _ k hk⟩, .inr rfl⟩
  · have hvb' : vb ≠ g := fun e => hvb (by rw [e]; rfl)
    rw [Nat.mul_one] at hcl hct
    have hg : ∀ j u, (ci l)[j]? = some u → w.cell? ⟨g, 0 + j, none⟩ = some u := fun j u hu => by
      have hj := (List.getElem?_eq_some_iff.1 hu).1
      rw [ci_len] at hj
      rw [← hct, List.getElem?_take, if_pos hj] at hu
      exact hrow.cellsAt j u hu
    have hcap : cap ≤ 9223372036854775807 := by unfold maxLen at hcm; omega
    have some_at : ∀ j, j < cap → (w.cell? ⟨g, 0 + j, none⟩).isSome = true := fun j hj => by
      rw [hrow.cellsAt j _ (List.getElem?_eq_getElem (by omega))]; rfl
    by_cases hin : i = l.length
    · subst hin
      have hE : l.take l.length ++ p :: l.drop l.length = l ++ [p] := by simp
      rw [hE]
      by_cases hroom : l.length + 1 ≤ cap
      · refine (Any2.slices_Insert_int_end_room hL g 0 l.length cap vb 0 1 1 [pv p] w (by omega) hroom hcap rfl (fun j hj => by
          have := some_at (l.length + j) (by omega)
          rwa [← Nat.add_assoc] at this) (fun j hj => hrow.frozen _) hvs h1v).mono ?_
        rintro e w' ⟨rfl, rfl⟩
        refine ⟨_, rfl, ?_, grown_setCells w g _ _, .inl rfl⟩
        have hr2 := RowIs.setCells [pv p] (0 + l.length) hrow (by simp; omega)
        have := row_own (n := l.length + 1) (cap := cap) (size := 1) hbg hr2 hroom hcm (by simp; omega) rfl
        unfold OwnI
        rw [List.length_append]
        have e2 : (List.take (0 + l.length) cs ++ [pv p] ++ List.drop (0 + l.length + [pv p].length) cs).take ((l.length + 1) * 1) = ci (l ++ [p]) := by
          rw [Nat.zero_add, hct, List.take_append_of_le_length (by simp [ci_len]), List.take_of_length_le (by simp [ci_len])]; simp [ci]
        rw [e2] at this
        exact this
      · refine (Any2.slices_Insert_int_end_grow hL (some ⟨g, 0, none⟩) l.length cap vb 0 1 1 (ci l) [pv p] w (by omega) hnc (by omega) (by omega) (ci_len l) rfl (fun h => by cases h) (fun a h j u hu => by cases h; rw [Addr.add_lit]; exact hg j u hu) hvs h1v).mono ?_
        rintro e w' ⟨rfl, rfl⟩
        exact ⟨_, rfl, by unfold OwnI; rw [List.length_append]; exact fresh cap (by omega), ⟨rfl, rfl, rfl, by simp, fun k hk _ => Below.heap_alloc _ _ k hk⟩, .inr rfl⟩
    · have hil : i < l.length := by omega
      by_cases hroom : l.length + 1 ≤ cap
      · refine (Any2.slices_Insert_int_shift hL g 0 l.length cap i vb 0 1 1 (ci l) [pv p] w hil (by omega) hroom hcap hvb' (ci_len l) rfl hg (fun j hj => some_at j (by omega)) (fun j hj => hrow.frozen _) hvs (ci_one l) h1v 3 3 1 cs.length hr.shape hrow.shape (by omega) (hr.frozen _) (hr.frozen _)).mono ?_
        rintro e w' ⟨rfl, rfl⟩
        have hd : ((ci l).drop i).length = l.length - i := by rw [List.length_drop, ci_len]
        have hr1 : RowIs w.drew g 3 cs := hrow
        have hr2 := RowIs.setCells ((ci l).drop i) (0 + (i + 1)) hr1 (by rw [hd]; omega)
        have hr3 := RowIs.setCells [pv p] (0 + i) hr2 (by simp [hd]; omega)
        refine ⟨_, rfl, ?_, ?_, .inl rfl⟩
        · have := row_own (n := l.length + 1) (cap := cap) (size := 1) hbg hr3 hroom hcm (by simp [hd]; omega) rfl
          unfold OwnI
          rw [hln]
          rw [ci_ins, ← shift_eq (cs := cs) (xs := ci l) (i := i) (n := l.length) (pv p) hct (ci_len l) hil (by omega) (T := cs.drop (0 + (i + 1) + ((ci l).drop i).length))]
          simpa using this
        · exact World.grownBy.trans (grown_drew w _) (World.grownBy.trans (grown_setCells _ g _ _) (grown_setCells _ g _ _))
      · refine (Any2.slices_Insert_int_grow hL g 0 l.length cap i vb 0 1 1 (ci l) [pv p] w hil (by omega) hnc (by omega) (by omega) (ci_len l) rfl hg hvs (ci_one l) h1v).mono ?_
        rintro e w' ⟨rfl, rfl⟩
        have hge := grownCap_ge w (l.length + 1) cap 3
        obtain ⟨Z, hZ⟩ : ∃ Z : List Value, Z.toArray = ((ci l).take i).toArray ++ Builtin.zeroCells (Value.int .i64 0).cells (l.length + 1 - i) ++ Builtin.zeroCells (Value.int .i64 0).cells (grownCap w (l.length + 1) cap 3 - (l.length + 1)) := ⟨(((ci l).take i).toArray ++ Builtin.zeroCells (Value.int .i64 0).cells (l.length + 1 - i) ++ Builtin.zeroCells (Value.int .i64 0).cells (grownCap w (l.length + 1) cap 3 - (l.length + 1))).toList, by simp⟩
        have hZl : Z.length = grownCap w (l.length + 1) cap 3 := by
          have := congrArg Array.size hZ
          simp [Builtin.zeroCells, Value.cells, ci_len] at this
          omega
        have hZt : Z.take i = (ci l).take i := by
          have := congrArg Array.toList hZ
          simp only [Array.toList_append, List.append_assoc] at this
          rw [this, List.take_left' (by rw [List.length_take, ci_len]; omega)]
        have hr0 : RowIs (w.alloc (.cells Z.toArray 3)) w.heap.size 3 Z := RowIs.new w 3 Z
        rw [hZ] at hr0
        have hr2 := RowIs.setCells [pv p] i (w := (w.alloc (.cells (((ci l).take i).toArray ++ Builtin.zeroCells (Value.int .i64 0).cells (l.length + 1 - i) ++ Builtin.zeroCells (Value.int .i64 0).cells (grownCap w (l.length + 1) cap 3 - (l.length + 1))) 3)).drew) hr0 (by simp; omega)
        have hd : ((ci l).drop i).length = l.length - i := by rw [List.length_drop, ci_len]
        have hr3 := RowIs.setCells ((ci l).drop i) (i + 1) hr2.drew (by simp [hd]; omega)
        refine ⟨_, rfl, ?_, ?_, .inr rfl⟩
        · have := row_own (n := l.length + 1) (cap := grownCap w (l.length + 1) cap 3) (size := 1) hbase hr3 hge (grownCap_le_maxLen _ _ _ _ (by unfold maxLen; omega)) (by simp [hd]; omega) rfl
          unfold OwnI
          rw [hln, ci_ins, ← grow_eq (Z := Z) (xs := ci l) (i := i) (n := l.length) (pv p) hZt (ci_len l) hil (by omega) (U := Z.drop (i + 1)) (T := (Z.take i ++ [pv p] ++ Z.drop (i + 1)).drop (i + 1 + ((ci l).drop i).length))]
          rw [Nat.mul_one] at this
          exact this
        · obtain ⟨a1, a2, a3, a4⟩ := setCells_size (g := w.heap.size) ((ci l).drop i) (i + 1) (((w.alloc (.cells (((ci l).take i).toArray ++ Builtin.zeroCells (Value.int .i64 0).cells (l.length + 1 - i) ++ Builtin.zeroCells (Value.int .i64 0).cells (grownCap w (l.length + 1) cap 3 - (l.length + 1))) 3)).drew.setCells w.heap.size i [pv p]).drew)
          refine ⟨a2, a3, a4, ?_, fun k hk _ => ?_⟩
          · refine Nat.le_trans ?_ (Nat.le_of_eq a1.symm)
            show w.heap.size ≤ ((w.alloc _).heap.modify _ _).size
            rw [Array.size_modify]; simp
          · refine (setCells_other _ _ _ (by omega)).trans ?_
            exact (setCells_other [pv p] i _ (by omega)).trans (Below.heap_alloc w _ k hk)
end Go.Proofs.Ytiglenomigipmaa
