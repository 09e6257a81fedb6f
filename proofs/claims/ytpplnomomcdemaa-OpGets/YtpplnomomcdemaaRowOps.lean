/-
  WHAT op.readOps READS, AS MATHEMATICS; a row of operations as cells; the taker's walks under letters.
-/
import Derived.Test.YtpplnomomcdemaaTaker
namespace Go.Proofs.Ytpplnomomcdemaa
open Go.RowKit Leb
def z0 : Opn := ⟨0, [], 0, 0, []⟩
def cellsOf : List Opn → List Value
  | [] => []
  | x :: L => oc x ++ cellsOf L
theorem cellsOf_at : ∀ (L : List Opn) (i j : Nat) (x : Opn), L[i]? = some x → j < 5 → (cellsOf L)[i * 5 + j]? = (oc x)[j]?
  | [], i, j, x, h, _ => by simp at h
  | y :: L, 0, j, x, h, hj => by
    simp at h
    subst h
    show (oc y ++ cellsOf L)[0 * 5 + j]? = _
    rw [Nat.zero_mul, Nat.zero_add, List.getElem?_append_left (by simpa using hj)]
  | y :: L, i + 1, j, x, h, hj => by
    show (oc y ++ cellsOf L)[(i + 1) * 5 + j]? = _
    rw [List.getElem?_append_right (by simp; omega)]
    have e : (i + 1) * 5 + j - (oc y).length = i * 5 + j := by simp; omega
    rw [e]
    exact cellsOf_at L i j x (by simpa using h) hj
def setR (cs : List Value) (o : Nat) : List Value → List Value
  | [] => cs
  | v :: r => setR (cs.set o v) (o + 1) r
theorem setR_app (A : List Value) : ∀ (vs : List Value) (o : Nat) (B : List Value), setR (A ++ B) (A.length + o) vs = A ++ setR B o vs
  | [], _, _ => rfl
  | v :: r, o, B => by
    show setR ((A ++ B).set (A.length + o) v) (A.length + o + 1) r = A ++ setR (B.set o v) (o + 1) r
    rw [List.set_append_right _ _ (by omega), Nat.add_sub_cancel_left, Nat.add_assoc]
    exact setR_app A r (o + 1) _
theorem cellsOf_set : ∀ (L : List Opn) (i : Nat) (x : Opn), i < L.length → setR (cellsOf L) (i * 5) (oc x) = cellsOf (L.set i x)
  | [], i, x, h => by simp at h
  | y :: L, 0, x, _ => by simp [cellsOf, setR]
  | y :: L, i + 1, x, h => by
    show setR (oc y ++ cellsOf L) ((i + 1) * 5) (oc x) = oc y ++ cellsOf (L.set i x)
    have e : (i + 1) * 5 = (oc y).length + i * 5 := by simp; omega
    rw [e, setR_app (oc y), cellsOf_set L i x (by simpa using h)]
theorem cellsOf_text : ∀ (L : List Opn) (i : Nat) (x : Opn) (t : List UInt8), L[i]? = some x → (cellsOf L).set (i * 5 + 4) (.string (strOf t)) = cellsOf (L.set i { x with text := t })
  | [], i, x, t, h => by simp at h
  | y :: L, 0, x, t, h => by
    simp at h
    subst h
    simp [cellsOf]
  | y :: L, i + 1, x, t, h => by
    show (oc y ++ cellsOf L).set ((i + 1) * 5 + 4) _ = oc y ++ cellsOf (L.set i _)
    have e : (i + 1) * 5 + 4 = (oc y).length + (i * 5 + 4) := by simp; omega
    rw [e, List.set_append_right _ _ (by omega), Nat.add_sub_cancel_left, cellsOf_text L i x t (by simpa using h)]
theorem cellsOf_zero : ∀ (n i : Nat), (cellsOf (List.replicate n z0))[i]? = if i < n * 5 then (oc z0)[i % 5]? else none
  | 0, i => by simp [cellsOf]
  | n + 1, i => by
    rw [List.replicate_succ]
    show (oc z0 ++ cellsOf (List.replicate n z0))[i]? = _
    by_cases h : i < 5
    · rw [List.getElem?_append_left (by simpa using h), if_pos (by omega), Nat.mod_eq_of_lt h]
    · rw [List.getElem?_append_right (by simp; omega)]
      have e : i - (oc z0).length = i - 5 := by simp
      rw [e, cellsOf_zero n (i - 5)]
      have e2 : (i - 5) % 5 = i % 5 := by omega
      rw [e2]
      by_cases h2 : i < (n + 1) * 5
      · rw [if_pos (by omega), if_pos h2]
      · rw [if_neg (by omega), if_neg h2]
theorem RowIs.setCells {g : Nat} {t : TypeId} : ∀ (vs : List Value) (o : Nat) {w : World} {cs : List Value}, RowIs w g t cs → RowIs (w.setCells g o vs) g t (setR cs o vs)
  | [], _, _, _, h => h
  | v :: r, o, _, _, h => RowIs.setCells r (o + 1) (h.set o v)
theorem But.setCells {g : Nat} {a : World} : ∀ (vs : List Value) (o : Nat) {b : World}, But g a b → But g a (b.setCells g o vs)
  | [], _, _, h => h
  | v :: r, o, _, h => But.setCells r (o + 1) (h.setCell o v)
theorem info23 : (Try.prog.info? 23).map (fun i => (i.zero, i.size, i.bytes)) = some (some (.agg #[.int .i64 0, .string ⟨#[]⟩, .int .i64 0, .int .i64 0, .string ⟨#[]⟩]), 5, 56) := by kernel_rfl
theorem made_ops (c : Nat) : madeCells (Value.cells (.agg #[.int .i64 0, .string ⟨#[]⟩, .int .i64 0, .int .i64 0, .string ⟨#[]⟩])) (c * 5) = (cellsOf (List.replicate c z0)).toArray := by
  apply Array.ext_getElem?
  intro i
  rw [show (cellsOf (List.replicate c z0)).toArray[i]? = (cellsOf (List.replicate c z0))[i]? by simp, cellsOf_zero]
  simp only [madeCells]
  by_cases h : i < c * 5
  · have h5 : i % 5 < 5 := Nat.mod_lt _ (by omega)
    rw [if_pos h]
    generalize hm : i % 5 = m at h5
    have : m = 0 ∨ m = 1 ∨ m = 2 ∨ m = 3 ∨ m = 4 := by omega
    rcases this with rfl | rfl | rfl | rfl | rfl <;> simp [h, Value.cells, hm, z0, strOf]
  · simp [h]
theorem make_ops (W : World) (n : Nat) (hn : n ≤ 1048576) :
    (Instr.makeSlice 29 (.int .i64 (n : Int)) (.int .i64 (n : Int))).run Try.prog W = .ok (.slice (some ⟨W.heap.size, 0, none⟩) n n) (W.alloc (.cells (cellsOf (List.replicate n z0)).toArray 23)) := by
  obtain ⟨i, hi, hz⟩ := Option.map_eq_some_iff.1 info23
  simp only [Prod.mk.injEq] at hz
  obtain ⟨hz, hsz, hby⟩ := hz
  have := run_make (P := Try.prog) W 29 23 i _ Try.underlying29 hi hz .i64 .i64 n n (by omega) (by omega) (by rw [hby]; omega) (by omega)
  rw [this, hsz, Int.toNat_natCast, made_ops]
def G1 (bs : List UInt8) : List Int × Nat × Nat := getR bs 256
def G2 (bs : List UInt8) : List Int × Nat × Nat := (dsums (getR bs 256).1, (getR bs 256).2)
structure Cols where
  ks : List Int
  nms : List (List UInt8)
  ws : List Int
  ps : List Int
  ys : List Int
  rest : List UInt8
  fl : Bool
def colsM (bs : List UInt8) : Cols :=
  let a := colM G1 bs false
  let c := countM a.2.1 a.2.2
  let t := textsM 32 c.1 c.2.1 c.2.2
  let w := colM G1 t.2.1 t.2.2
  let p := colM G2 w.2.1 w.2.2
  let b := colM G1 p.2.1 p.2.2
  ⟨a.1, t.1, w.1, p.1, b.1, b.2.1, b.2.2⟩
structure RdS where
  ops : List Opn
  rest : List UInt8
  fl : Bool
def opAt (C : Cols) (i : Nat) : Opn := ⟨C.ks[i]?.getD 0, C.nms[(C.ws[i]?.getD 0).toNat]?.getD [], C.ps[i]?.getD 0, C.ys[i]?.getD 0, []⟩
def stepM (C : Cols) (i : Nat) (S : RdS) : Option RdS :=
  if C.ws[i]?.getD 0 < 0 ∨ (C.nms.length : Int) ≤ C.ws[i]?.getD 0 then none
  else if hasT (opAt C i) = true then some ⟨S.ops ++ [{ opAt C i with text := (textM 1024 S.rest S.fl).1 }], (textM 1024 S.rest S.fl).2.1, (textM 1024 S.rest S.fl).2.2⟩
  else some ⟨S.ops ++ [opAt C i], S.rest, S.fl⟩
def stM (C : Cols) : Nat → Option RdS
  | 0 => some ⟨[], C.rest, false⟩
  | i + 1 => (stM C i).bind (stepM C i)
def readC (C : Cols) : Option (List Opn) :=
  if C.fl = true ∨ C.ws.length ≠ C.ks.length ∨ C.ps.length ≠ C.ks.length ∨ C.ys.length ≠ C.ks.length then none
  else (stM C C.ks.length).bind fun S => if S.fl = true then none else some S.ops
def readM (bs : List UInt8) : Option (List Opn) := readC (colsM bs)
theorem stM_none {C : Cols} {i : Nat} (h : stM C i = none) : ∀ (n : Nat), i ≤ n → stM C n = none
  | 0, hn => by obtain rfl : i = 0 := by omega
                exact h
  | n + 1, hn => by
    by_cases e : i = n + 1
    · subst e; exact h
    · show (stM C n).bind _ = none
      rw [stM_none h n (by omega)]; rfl
theorem fill_set {L : List Opn} {n i : Nat} (hl : L.length = i) (hi : i < n) (x : Opn) : (L ++ List.replicate (n - i) z0).set i x = L ++ [x] ++ List.replicate (n - (i + 1)) z0 := by
  rw [List.set_append_right _ _ (by omega), hl, Nat.sub_self]
  have : n - i = (n - (i + 1)) + 1 := by omega
  rw [this, List.replicate_succ, List.set_cons_zero]
  simp
theorem column_k (G : List UInt8 → List Int × Nat × Nat) (K : Nat) (heK : ∀ args w, (callFunc K args).run Try.prog w = .ok (.enter K args) w) (hGk : ∀ bs, (G bs).2.1 ≤ bs.length)
    (hK : ∀ (W : World) (ao : Option Addr) (cap : Nat) (bs : List UInt8), bs.length ≤ 140737488355328 → BytesAt W ao bs → Calls Try.prog K #[.slice ao bs.length cap, .int .i64 256] W (GPost W (G bs)))
    {w0 W : World} {tb : Nat} {bs : List UInt8} {fl : Bool} (h : Tk w0 tb bs fl W) {l : List Int} {r : List UInt8} {f : Bool} {m : Nat} (e : colM G bs fl = (l, r, f)) (hm : l.length = m) :
    Calls Try.prog 52 #[.pointer (some ⟨tb, 0, none⟩), .func (.func K) #[] #[]] W fun e w' => ∃ p c, e = .returned (.slice p m c) ∧ IntsAt w' p l ∧ (∀ a, p = some a → W.heap.size ≤ a.block ∧ a.block < w'.heap.size) ∧ Tk w0 tb r f w' ∧ But tb W w' :=
  Calls.mono (column_any G K heK hGk hK h) (by
    rintro x w' ⟨v, rfl, ho, ht, hb⟩
    rw [e] at ho ht
    obtain ⟨p, c, rfl, h1, _, h3⟩ := ho.at
    exact ⟨p, c, by rw [hm], h1, h3, ht, hb⟩)
theorem texts_k (most : Int) (hm0 : -9223372036854775808 ≤ most) (hm1 : most ≤ 9223372036854775807) {w0 W : World} {tb : Nat} {bs : List UInt8} {fl : Bool} (h : Tk w0 tb bs fl W) (n : Nat) (hn : n ≤ 1000) {L : List (List UInt8)} {r : List UInt8} {f : Bool} (e : textsM most n bs fl = (L, r, f)) :
    Calls Try.prog 54 #[.pointer (some ⟨tb, 0, none⟩), .int .i64 (n : Int), .int .i64 most] W fun e w' => ∃ g, e = .returned (.slice (some ⟨g, 0, none⟩) n n) ∧ RowIs w' g 9 (L.map fun s => .string (strOf s)) ∧ W.heap.size ≤ g ∧ Tk w0 tb r f w' ∧ But tb W w' :=
  Calls.mono (texts_any most hm0 hm1 h n hn) (by
    rintro x w' ⟨g, rfl, hi⟩
    have h1 := hi.row
    have h2 := hi.tk
    have hl := textsM_len most n bs fl
    rw [e] at h1 h2 hl
    refine ⟨g, rfl, ?_, hi.new, h2, hi.but⟩
    simp only at hl
    simpa [strVs, hl] using h1)
theorem count_k {w0 W : World} {tb : Nat} {bs : List UInt8} {fl : Bool} (h : Tk w0 tb bs fl W) {n : Nat} {r : List UInt8} {f : Bool} (e : countM bs fl = (n, r, f)) :
    Calls Try.prog 55 #[.pointer (some ⟨tb, 0, none⟩)] W fun e w' => e = .returned (.int .i64 (n : Int)) ∧ Tk w0 tb r f w' ∧ But tb W w' := by
  have := count_any h
  rw [e] at this
  exact this
theorem ttext_k {w0 W : World} {tb : Nat} {bs : List UInt8} {fl : Bool} (h : Tk w0 tb bs fl W) {s r : List UInt8} {f : Bool} (e : textM 1024 bs fl = (s, r, f)) :
    Calls Try.prog 57 #[.pointer (some ⟨tb, 0, none⟩), .int .i64 1024] W fun e w' => e = .returned (.string (strOf s)) ∧ Tk w0 tb r f w' ∧ But tb W w' := by
  have := ttext_any 1024 (by omega) (by omega) h
  rw [e] at this
  exact this
theorem countM_le (bs : List UInt8) (fl : Bool) : (countM bs fl).1 ≤ 256 := by
  unfold countM
  split
  · omega
  · split
    · omega
    · omega
theorem textsM_count (most : Int) {n : Nat} {bs : List UInt8} {fl : Bool} {L : List (List UInt8)} {r : List UInt8} {f : Bool} (e : textsM most n bs fl = (L, r, f)) : L.length = n := by have := textsM_len most n bs fl; rw [e] at this; exact this
theorem G1_le (bs : List UInt8) : (G1 bs).2.1 ≤ bs.length := by unfold G1 getR; split <;> simp
theorem colM_most {bs : List UInt8} {fl : Bool} {l : List Int} {r : List UInt8} {f : Bool} (e : colM G1 bs fl = (l, r, f)) : l.length ≤ 65536 := by
  unfold colM at e
  split at e
  · simp at e; rw [e.1]; simp
  · simp at e; rw [← e.1]; exact getR_most bs 256
section
variable {o : Oper} {a : Act} {x y : Operand} {w : World}
theorem x_idx46 {b p n c j : Nat} (hop : o.op = .indexAddr 46 x y) (hx : a.eval x = .slice (some ⟨b, p, none⟩) n c) (hy : a.eval y = .int .i64 (j : Int)) (hj : j < n) : (execOp a.eval o).run Try.prog w = .ok (.value (.pointer (some ⟨b, p + j, none⟩))) w := by
  obtain ⟨i, hi, hz⟩ := Option.map_eq_some_iff.1 info2s
  unfold execOp
  simp only [hop, hx, hy]
  simp [go_sem, hi, hz, hj, sizeOf, typeInfo, Addr.add_mid]
theorem x_idx45 {b p n c j : Nat} (hop : o.op = .indexAddr 45 x y) (hx : a.eval x = .slice (some ⟨b, p, none⟩) n c) (hy : a.eval y = .int .i64 (j : Int)) (hj : j < n) : (execOp a.eval o).run Try.prog w = .ok (.value (.pointer (some ⟨b, p + j, none⟩))) w := by
  obtain ⟨i, hi, hz⟩ := Option.map_eq_some_iff.1 info9
  simp only [Prod.mk.injEq] at hz
  unfold execOp
  simp only [hop, hx, hy]
  simp [go_sem, hi, hz.2.1, hj, sizeOf, typeInfo, Addr.add_mid]
theorem x_idx29 {b n c j : Nat} (hop : o.op = .indexAddr 29 x y) (hx : a.eval x = .slice (some ⟨b, 0, none⟩) n c) (hy : a.eval y = .int .i64 (j : Int)) (hj : j < n) : (execOp a.eval o).run Try.prog w = .ok (.value (.pointer (some ⟨b, j * 5, none⟩))) w := by
  obtain ⟨i, hi, hz⟩ := Option.map_eq_some_iff.1 info23
  simp only [Prod.mk.injEq] at hz
  unfold execOp
  simp only [hop, hx, hy]
  simp [go_sem, hi, hz.2.1, hj, sizeOf, typeInfo, Addr.add_mid]
end
section
variable {ops : Array Oper} {Q : Exit → Act → World → Prop} {S : World → Prop} {fuel : Nat} {listed : Array Bool} {a : Act} {w : World} {oi : Oper}
/-- Number i, which alone may come up, is a struct's store. -/
theorem tkStoreM (i : Nat) (ty : TypeId) (x y : Operand) (b o : Nat) (cells : Array Value) (hi : ops[i]? = some oi) (hd : oi.dst = none) (hop : oi.op = .store ty x y) (hr : Region.ready .any ops listed = [i]) (hw : Region.wanted oi (yielded ops a.tmps) = true)
    (hx : a.eval x = .pointer (some ⟨b, o, none⟩)) (hy : a.eval y = .agg cells) (ht : w.there b o cells.size) (hsz : (Try.prog.info? ty).map (·.size) = some cells.size) (h1 : cells.all (·.oneCell') = true)
    (hS : S (w.setCells b o cells.toList)) (h : wpAnyH Try.prog .any ops Q S fuel (listed.setIfInBounds i true) (a.put none undef) (w.setCells b o cells.toList)) : wpAnyH Try.prog .any ops Q S (fuel + 1) listed a w :=
  wpAnyH_all hr (by simp) (fun j hj => by
    obtain rfl : j = i := by simpa using hj
    refine wpOp_step hi (fun K' hK => ?_)
    rw [if_pos hw]
    refine wp_store_mid ty x y hop b o cells hx hy ht hsz h1 ?_
    have hh := hK (a.put none undef) _ ⟨hS, h⟩
    rw [← hd] at hh
    exact hh)
end
end Go.Proofs.Ytpplnomomcdemaa
