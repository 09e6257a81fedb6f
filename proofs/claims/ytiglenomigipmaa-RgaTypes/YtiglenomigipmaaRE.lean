/-
  A ROW (rga) IN MEMORY; New (13), has (41).
-/
import Derived.Test.YtiglenomigipmaaRD
namespace Go.Proofs.Ytiglenomigipmaa
open Go.RowKit Go.Maps Go.WideMaps Go.WideAt Mp
/-- A cell of the row, with the places of those right below it. -/
structure Stm where
  id : Idn
  ch : UInt8
  gone : Bool
  below : List Nat
def scell (s : Stm) (v : Value) : List Value := idc s.id ++ [.int .u8 (s.ch.toNat : Int), .bool s.gone, v]
theorem scell_len {s : Stm} (h : s.id.Ok) (v : Value) : (scell s v).length = 36 := by simp [scell, idc_len h]
def stems (st : List Stm) (vs : List Value) : List (List Value) := List.zipWith scell st vs
theorem stems_len {st : List Stm} {vs : List Value} (h : vs.length = st.length) : (stems st vs).length = st.length := by simp [stems, h]
theorem stems_get {st : List Stm} {vs : List Value} {i : Nat} {s : Stm} {v : Value} (hs : st[i]? = some s) (hv : vs[i]? = some v) : (stems st vs)[i]? = some (scell s v) := by
  simp [stems, List.getElem?_zipWith, hs, hv]
/-- Where in the row a cell stands. -/
def plc (st : List Stm) (x : Idn) : Option Nat := ((st.map Stm.id).tail.findIdx? (fun y => decide (y = x))).map (· + 1)
structure MapAt (W : World) (b : Nat) (st : List Stm) : Prop where
  ex : ∃ l : List (Nm × Value), W.ownsMap Try.prog 37 Rv b l.length (.map (toE l)) ∧ rising l ∧ l.length + 1 = st.length ∧ ∀ x : Idn, x.Ok → fget (idb x) l = (plc st x).map pv
theorem ownsMap_same {W W' : World} {b n : Nat} {D : DataW Value} (h : W.ownsMap Try.prog 37 Rv b n D) (hs : W'.heap[b]? = W.heap[b]?) : W'.ownsMap Try.prog 37 Rv b n D := by
  obtain ⟨es, clock, hb, r⟩ := h
  exact ⟨es, clock, by rw [hs]; exact hb, r⟩
theorem MapAt.lt {W : World} {b : Nat} {st : List Stm} (h : MapAt W b st) : b < W.heap.size := by
  obtain ⟨cs, h1, _⟩ := h.ex
  exact h1.lt
theorem MapAt.same {W W' : World} {b : Nat} {st : List Stm} (h : MapAt W b st) (hs : W'.heap[b]? = W.heap[b]?) : MapAt W' b st := by
  obtain ⟨cs, h1, h2⟩ := h.ex
  exact ⟨cs, ownsMap_same h1 hs, h2⟩
theorem MapAt.ids {W : World} {b : Nat} {st st' : List Stm} (h : MapAt W b st) (he : st'.map Stm.id = st.map Stm.id) : MapAt W b st' := by
  obtain ⟨cs, h1, h2, h3, h4⟩ := h.ex
  have hl : st'.length = st.length := by have := congrArg List.length he; simpa using this
  exact ⟨cs, h1, h2, by omega, fun x hx => by rw [h4 x hx]; unfold plc; rw [he]⟩
theorem row_map {W : World} {b n g : Nat} {t : TypeId} {cs : List Value} {D : DataW Value} (h : W.ownsMap Try.prog 37 Rv b n D) (hr : RowIs W g t cs) : g ≠ b := by
  intro e
  subst e
  obtain ⟨es, clock, hb, _⟩ := h
  unfold RowIs at hr
  rw [hb] at hr
  cases hr
theorem MapAt.ne {W : World} {b g : Nat} {t : TypeId} {cs : List Value} {st : List Stm} (h : MapAt W b st) (hr : RowIs W g t cs) : g ≠ b := by
  obtain ⟨l, h1, _⟩ := h.ex
  exact row_map h1 hr
theorem zero3 (w : World) : (zeroValue 3).run Try.prog w = .ok (.int .i64 0) w := by kernel_rfl
/-- What is told of an id: its place, or nought. -/
theorem MapAt.look {W : World} {b : Nat} {st : List Stm} (hm : MapAt W b st) {x : Idn} (hx : x.Ok) :
    (Instr.lookup 73 (.map (some b)) (idv x) false).run Try.prog W = .ok (pv ((plc st x).getD 0)) W := by
  obtain ⟨cs, h1, h2, _, h3⟩ := hm.ex
  obtain ⟨v, ps, hrun, hv⟩ := h1.lookup (t := 73) (e := 3) keyed37 Try.underlying73 (zero3 W) (zd := .held (.int .i64 0)) (zp := []) rfl (keyOf37 hx)
  have he := Rv_inv hv
  rw [at_E, h3 x hx] at he
  rw [hrun]
  cases hc : plc st x with
  | none => rw [hc] at he; simp at he; rw [← he]; rfl
  | some p => rw [hc] at he; simp at he; rw [← he]; rfl
structure RwD where
  sv : Value
  gm : Nat
  vs : List Value
/-- A row in memory. -/
structure RowAt (W : World) (base g : Nat) (st : List Stm) (D : RwD) : Prop where
  box : RowIs W g 75 [D.sv, .map (some D.gm)]
  row : OwnL W base 88 36 D.sv (stems st D.vs)
  vl : D.vs.length = st.length
  bel : ∀ (i : Nat) (s : Stm) (v : Value), st[i]? = some s → D.vs[i]? = some v → OwnI W base v s.below
  apart : ∀ (i j : Nat) (u v : Value) (b : Nat), D.vs[i]? = some u → D.vs[j]? = some v → u.ownBlock = some b → v.ownBlock = some b → i = j
  mp : MapAt W D.gm st
  ok : ∀ s ∈ st, s.id.Ok
  pos : st ≠ []
  gb : base ≤ g
  mb : base ≤ D.gm
  bs : base ≤ W.heap.size
/-- The blocks of a row. -/
def Foot (g : Nat) (D : RwD) (k : Nat) : Prop := k = g ∨ D.sv.ownBlock = some k ∨ k = D.gm ∨ ∃ v ∈ D.vs, v.ownBlock = some k
theorem RowAt.foot {W : World} {base g : Nat} {st : List Stm} {D : RwD} (h : RowAt W base g st D) {k : Nat} (hk : Foot g D k) : base ≤ k ∧ k < W.heap.size := by
  rcases hk with rfl | hk | rfl | ⟨v, hv, hk⟩
  · exact ⟨h.gb, h.box.lt⟩
  · obtain ⟨h1, h2, _⟩ := own_lt h.row.2 hk; exact ⟨h1, h2⟩
  · exact ⟨h.mb, h.mp.lt⟩
  · obtain ⟨i, hi⟩ := List.getElem?_of_mem hv
    have hl := (List.getElem?_eq_some_iff.1 hi).1
    rw [h.vl] at hl
    obtain ⟨h1, h2, _⟩ := own_lt (h.bel i _ v (List.getElem?_eq_getElem hl) hi) hk; exact ⟨h1, h2⟩
/-- A box of another type is none of the row's blocks. -/
theorem RowAt.other {W : World} {base g : Nat} {st : List Stm} {D : RwD} (h : RowAt W base g st D) {k : Nat} {t : TypeId} {cs : List Value} (hr : RowIs W k t cs) (h1 : t ≠ 75) (h2 : t ≠ 88) (h3 : t ≠ 3) : ¬ Foot g D k := by
  rintro (rfl | hk | rfl | ⟨v, hv, hk⟩)
  · exact h1 (hr.ty h.box).1
  · obtain ⟨_, _, cs', hc⟩ := own_lt h.row.2 hk; exact h2 (hr.ty hc).1
  · exact h.mp.ne hr rfl
  · obtain ⟨i, hi⟩ := List.getElem?_of_mem hv
    have hl := (List.getElem?_eq_some_iff.1 hi).1
    rw [h.vl] at hl
    obtain ⟨_, _, cs', hc⟩ := own_lt (h.bel i _ v (List.getElem?_eq_getElem hl) hi) hk; exact h3 (hr.ty hc).1
/-- The row stays, where its blocks do. -/
theorem RowAt.same {W W' : World} {base g : Nat} {st : List Stm} {D : RwD} (h : RowAt W base g st D) (hs : ∀ k, Foot g D k → W'.heap[k]? = W.heap[k]?) (hsz : W.heap.size ≤ W'.heap.size) : RowAt W' base g st D :=
  ⟨by unfold RowIs; rw [hs g (.inl rfl)]; exact h.box, h.row.same (fun b hb => hs b (.inr (.inl hb))), h.vl, fun i s v hi hv => (h.bel i s v hi hv).same (fun b hb => hs b (.inr (.inr (.inr ⟨v, List.mem_of_getElem? hv, hb⟩)))), h.apart, h.mp.same (hs _ (.inr (.inr (.inl rfl)))), h.ok, h.pos, h.gb, h.mb, Nat.le_trans h.bs hsz⟩
theorem RowAt.after {W W' : World} {base g : Nat} {st : List Stm} {D : RwD} (h : RowAt W base g st D) (ha : After W W') : RowAt W' base g st D := h.same (fun k hk => ha.block k (h.foot hk).2) ha.size
/-- The stems, as they lie. -/
theorem RowAt.sv {W : World} {base g : Nat} {st : List Stm} {D : RwD} (h : RowAt W base g st D) : ∃ gs cap, D.sv = .slice (some ⟨gs, 0, none⟩) st.length cap ∧ st.length ≤ cap ∧ ∀ i s v, st[i]? = some s → D.vs[i]? = some v → W.rangeAt gs (i * 36) (scell s v) := by
  have hn : stems st D.vs ≠ [] := fun e => h.pos (List.eq_nil_of_length_eq_zero (by rw [← stems_len h.vl, e]; rfl))
  obtain ⟨gs, cap, cs, he, _, _, hc, _⟩ := h.row.row hn
  rw [stems_len h.vl] at he hc
  refine ⟨gs, cap, he, hc, fun i s v hs hv => ?_⟩
  have h2 := h.row
  rw [he] at h2
  exact h2.range (stems_get hs hv)
theorem RowAt.v {W : World} {base g : Nat} {st : List Stm} {D : RwD} (h : RowAt W base g st D) {i : Nat} {s : Stm} (hs : st[i]? = some s) : ∃ v, D.vs[i]? = some v ∧ OwnI W base v s.below := by
  have hl := (List.getElem?_eq_some_iff.1 hs).1
  obtain ⟨v, hv⟩ : ∃ v, D.vs[i]? = some v := ⟨_, List.getElem?_eq_getElem (by rw [h.vl]; exact hl)⟩
  exact ⟨v, hv, h.bel i s _ hs hv⟩
theorem x_ldid {o : Oper} {a : Act} {x : Operand} {w : World} {g : Nat} {y : Idn} (hy : y.Ok) (hop : o.op = .load 37 x) (hx : a.eval x = .pointer (some ⟨g, 0, none⟩)) (hr : RowIs w g 37 (idc y)) : (execOp a.eval o).run Try.prog w = .ok (.value (idv y)) w := by
  unfold execOp
  simp only [hop, hx, Instr.loadAt, Instr.sureAddr, Sem.run_bind, Sem.run_pure, Result.andThen_ok, run_loadVar_row w g 37 37 (idc y).toArray (0, 0) _ hr Try.underlying37 rfl (size37 hy)]
  rfl
theorem x_look {o : Oper} {a : Act} {m x : Operand} {w : World} {b : Nat} {st : List Stm} {y : Idn} (hy : y.Ok) (hop : o.op = .lookup 73 m x false) (hm : a.eval m = .map (some b)) (hx : a.eval x = idv y) (h : MapAt w b st) : (execOp a.eval o).run Try.prog w = .ok (.value (pv ((plc st y).getD 0))) w := by
  unfold execOp
  simp only [hop, hm, hx, Sem.run_bind, h.look hy, Result.andThen_ok, Sem.run_pure]
def zId : Idn := ⟨0, List.replicate 32 0⟩
theorem zId_ok : zId.Ok := ⟨by decide, by decide, by decide⟩
def root : Stm := ⟨zId, 0, false, []⟩
set_option maxRecDepth 100000 in
theorem info88 : ∃ i z, Try.prog.info? 88 = some i ∧ i.zero = some z ∧ i.size = 36 ∧ i.bytes = 72 ∧ z.cells = (scell root (.slice none 0 0)).toArray := by
  have h : (Try.prog.info? 88).map (fun i => (i.zero.map (·.cells), i.size, i.bytes)) = some (some (scell root (.slice none 0 0)).toArray, 36, 72) := by kernel_rfl
  obtain ⟨i, hi, hz⟩ := Option.map_eq_some_iff.1 h
  simp only [Prod.mk.injEq] at hz
  obtain ⟨hz, hs, hb⟩ := hz
  obtain ⟨z, hz1, hz2⟩ := Option.map_eq_some_iff.1 hz
  exact ⟨i, z, hi, hz1, hs, hb, hz2⟩
theorem make_one (W : World) : (Instr.makeSlice 72 (.int .i64 1) (.int .i64 1)).run Try.prog W = .ok (.slice (some ⟨W.heap.size, 0, none⟩) 1 1) (W.alloc (.cells (scell root (.slice none 0 0)).toArray 88)) := by
  obtain ⟨i, z, hi, hz, hs, hb, hzc⟩ := info88
  have := run_make (P := Try.prog) W 72 88 i z Try.underlying72 hi hz .i64 .i64 1 1 (by omega) (by omega) (by rw [hb]; omega) (by omega)
  rw [hs] at this
  refine Eq.trans this ?_
  have e : madeCells (scell root (.slice none 0 0)).toArray (Int.toNat 1 * 36) = (scell root (.slice none 0 0)).toArray := by kernel_rfl
  rw [hzc, e]
  rfl
theorem map_made (w : World) (s : Stm) : MapAt (w.alloc (.map #[] 0)) w.heap.size [s] :=
  ⟨[], World.ownsMap_made w Try.prog 37 Rv, List.Pairwise.nil, rfl, fun _ _ => rfl⟩
set_option maxRecDepth 100000 in
set_option maxHeartbeats 1600000 in
theorem New_any (w : World) : Calls Try.prog 13 #[] w fun e w' => ∃ g D, e = .returned (.pointer (some ⟨g, 0, none⟩)) ∧ RowAt w' w.heap.size g [root] D ∧ After w w' := by
  have hm0 := make_one w
  have hm1 := run_makeMap (P := Try.prog) 73 (w.alloc (.cells (scell root (.slice none 0 0)).toArray 88))
  obtain ⟨C, hC⟩ : ∃ C, (scell root (.slice none 0 0)).toArray = C := ⟨_, rfl⟩
  rw [hC] at hm0 hm1
  have HG : Hid (RowAt (((w.alloc (.cells C 88)).alloc (.map #[] 0)).alloc (.cells #[.slice (some ⟨w.heap.size, 0, none⟩) 1 1, .map (some (w.heap.size + 1))] 75)) w.heap.size (w.heap.size + 1 + 1) [root] ⟨.slice (some ⟨w.heap.size, 0, none⟩) 1 1, w.heap.size + 1, [.slice none 0 0]⟩) := by
    subst hC
    have h0 : RowIs (w.alloc (.cells (scell root (.slice none 0 0)).toArray 88)) w.heap.size 88 (scell root (.slice none 0 0)) := RowIs.new w 88 _
    refine ⟨?_, ⟨?_, ?_⟩, rfl, ?_, ?_, ?_, ?_, by simp, by omega, by show _ ≤ w.heap.size + 1; omega, by simp; omega⟩
    · have h := RowIs.new ((w.alloc (.cells (scell root (.slice none 0 0)).toArray 88)).alloc (.map #[] 0)) 75 [.slice (some ⟨w.heap.size, 0, none⟩) 1 1, .map (some (w.heap.size + 1))]
      simpa using h
    · intro x hx
      obtain rfl : x = scell root (.slice none 0 0) := by simpa [stems] using hx
      exact scell_len zId_ok _
    · exact row_own (Nat.le_refl _) ((h0.alloc _).alloc _) (Nat.le_refl _) (by decide) (by rw [scell_len (s := root) zId_ok]) (by simp [stems]; exact List.take_of_length_le (by rw [scell_len (s := root) zId_ok]; decide))
    · intro i s v hs hv
      cases i with
      | zero =>
        obtain rfl : root = s := by simpa using hs
        obtain rfl : (.slice none 0 0 : Value) = v := by simpa using hv
        exact OwnI.nil _ _
      | succ i => simp at hs
    · intro i j u v b hu _ hb _
      cases i with
      | zero =>
        obtain rfl : (.slice none 0 0 : Value) = u := by simpa using hu
        cases hb
      | succ i => simp at hu
    · have h := map_made (w.alloc (.cells (scell root (.slice none 0 0)).toArray 88)) root
      rw [World.size_alloc] at h
      exact h.same (Below.heap_alloc _ _ _ (by simp))
    · intro s hs
      obtain rfl : s = root := by simpa using hs
      exact zId_ok
  have HA : Hid (After w (((w.alloc (.cells C 88)).alloc (.map #[] 0)).alloc (.cells #[.slice (some ⟨w.heap.size, 0, none⟩) 1 1, .map (some (w.heap.size + 1))] 75))) := after_alloc (after_alloc (after_alloc (After.refl w) _) _) _
  clear hC
  go_enter Try.func13, Try.ntmps13
  go_wp2_with fail
  go_ret
  exact ⟨_, _, rfl, HG.out, HA.out⟩
theorem x_nez {o : Oper} {a : Act} {x : Operand} {w : World} {k : Nat} (hop : o.op = .binOp .neq 3 x (.const (.int .i64 0)) 3) (hx : a.eval x = pv k) : (execOp a.eval o).run Try.prog w = .ok (.value (.bool (decide (k ≠ 0)))) w := by
  have hy : a.eval (.const (.int .i64 0)) = .int .i64 0 := rfl
  unfold execOp
  simp only [hop, hx, hy, pv]
  by_cases h : k = 0
  · subst h; simp [go_sem]
  · simp [go_sem, h]
/-- has: is there a cell with this id? -/
theorem plc_pos {st : List Stm} {x : Idn} {k : Nat} (h : plc st x = some k) : 0 < k := by
  unfold plc at h
  obtain ⟨j, _, rfl⟩ := Option.map_eq_some_iff.1 h
  omega
set_option maxRecDepth 100000 in
set_option maxHeartbeats 1600000 in
theorem has_any {w : World} {base g : Nat} {st : List Stm} {D : RwD} (h : RowAt w base g st D) {x : Idn} (hx : x.Ok) {r : Bool} (hr : (plc st x).isSome = r) :
    Calls Try.prog 41 #[.pointer (some ⟨g, 0, none⟩), idv x] w fun e w' => e = .returned (.bool r) ∧ After w w' := by
  have HR : Hid (RowIs (w.alloc (.cells (idc x).toArray 37)) w.heap.size 37 (idc x)) := RowIs.new w 37 (idc x)
  have HA : Hid (After w (w.alloc (.cells (idc x).toArray 37))) := after_alloc (After.refl w) _
  have HB : Hid (RowIs (w.alloc (.cells (idc x).toArray 37)) g 75 [D.sv, .map (some D.gm)]) := h.box.alloc _
  have HM : Hid (MapAt (w.alloc (.cells (idc x).toArray 37)) D.gm st) := h.mp.same (Below.heap_alloc _ _ _ h.mp.lt)
  have HX : Hid x.Ok := hx
  obtain ⟨k, hk⟩ : ∃ k, (plc st x).getD 0 = k := ⟨_, rfl⟩
  have HK : Hid ((plc st x).getD 0 = k ∧ (decide (k ≠ 0) = r)) := ⟨hk, by
    cases hp : plc st x with
    | none => rw [hp] at hk hr; simp at hk hr; subst hk; subst hr; rfl
    | some j => rw [hp] at hk hr; simp at hk hr; subst hk; subst hr; have := plc_pos hp; simp; omega⟩
  clear h hr hx hk
  unfold idv
  go_enter Try.func41, Try.ntmps41
  go_wp2_with fail
  refine wp_region_noPanic ?_
  refine wp_region_held_drew (S := After (w.alloc (.cells (idc x).toArray 37))) (by kernel_rfl) (After.drew (After.refl _)) ?_
  intro hS0
  refine tk 0 5 (.pointer (some ⟨g, 0, none⟩)) (fuel := 7) rfl (by kernel_rfl) (by kernel_rfl) (by kernel_rfl) (by kernel_rfl) noPanic_false (by kernel_rfl) (fun _ _ => by kernel_rfl) hS0 ?_
  refine tk 1 6 (.pointer (some ⟨g, 0, none⟩)) (fuel := 6) rfl (by kernel_rfl) (by kernel_rfl) (by kernel_rfl) (by kernel_rfl) noPanic_false (by kernel_rfl) (fun _ _ => by kernel_rfl) hS0 ?_
  refine tk 2 7 (.pointer (some ⟨g, 1, none⟩)) (fuel := 5) rfl (by kernel_rfl) (by kernel_rfl) (by kernel_rfl) (by kernel_rfl) noPanic_false (by kernel_rfl) (fun _ _ => by kernel_rfl) hS0 ?_
  refine tk 3 8 (.map (some D.gm)) (fuel := 4) rfl (by kernel_rfl) (by kernel_rfl) (by kernel_rfl) (by kernel_rfl) noPanic_false (by kernel_rfl) (fun W hW => x_loadT (x := .tmp 7) (t := 73) (g := g) (j := 1) Try.underlying73 rfl (by kernel_rfl) (by kernel_rfl) ((HB.out.below hW HB.out.lt).cell (j := 1) rfl)) hS0 ?_
  refine tk 4 9 (idv x) (fuel := 3) rfl (by kernel_rfl) (by kernel_rfl) (by kernel_rfl) (by kernel_rfl) noPanic_false (by kernel_rfl) (fun W hW => x_ldid (x := .tmp 3) (g := w.heap.size) HX.out (by kernel_rfl) (by kernel_rfl) (HR.out.below hW HR.out.lt)) hS0 ?_
  refine tk 5 10 (pv k) (fuel := 2) rfl (by kernel_rfl) (by kernel_rfl) (by kernel_rfl) (by kernel_rfl) noPanic_false (by kernel_rfl) (fun W hW => by rw [← HK.out.1]; exact x_look (m := .tmp 8) (x := .tmp 9) (b := D.gm) HX.out (by kernel_rfl) (by kernel_rfl) (by kernel_rfl) (HM.out.same (hW.block _ HM.out.lt))) hS0 ?_
  refine tk 6 11 (.bool r) (fuel := 1) rfl (by kernel_rfl) (by kernel_rfl) (by kernel_rfl) (by kernel_rfl) noPanic_false (by kernel_rfl) (fun W hW => by rw [← HK.out.2]; exact x_nez (x := .tmp 10) (k := k) (by kernel_rfl) (by kernel_rfl)) hS0 ?_
  refine tk 7 4 (.bool r) (fuel := 0) rfl (by kernel_rfl) (by kernel_rfl) (by kernel_rfl) (by kernel_rfl) noPanic_false (by kernel_rfl) (fun _ _ => by kernel_rfl) hS0 ?_
  refine wpAnyH_done (by kernel_rfl) (NoPanic.normal ?_) _
  have H1 : Hid (After w (w.alloc (.cells (idc x).toArray 37)).drew) := HA.out.drew
  clear hS0
  go_simp
  go_wp2_with fail
  go_ret
  exact ⟨rfl, H1.out⟩
end Go.Proofs.Ytiglenomigipmaa
