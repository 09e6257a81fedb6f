/-
  CONTRACTS: Data LayN PutW Taker RowOps
-/
import Derived.Test.YtgmdolpjkaajfaaGreatDoorOB
import Derived.Test.YtgmdolpjkaajfaaGreatDoorOD
import Derived.Test.YtgmdolpjkaajfaaGreatDoorOG
import Derived.Test.YtgmdolpjkaajfaaGreatDoorOC
import Derived.Test.YtgmdolpjkaajfaaGreatDoorOF
import Derived.Deep.MidRow
import Derived.Maps.OwnSet
import Derived.Maps.Views
namespace Go.Proofs.YtgmdolpjkaajfaaGreatDoor
open Go.RowKit Leb
/-- An operation. -/
structure Opn where
  kind : Int
  name : List UInt8
  pos : Int
  by_ : Int
  text : List UInt8
  deriving DecidableEq
structure Opn.Ok (x : Opn) : Prop where
  k0 : -9223372036854775808 ≤ x.kind
  k1 : x.kind ≤ 9223372036854775807
  p0 : -9223372036854775808 ≤ x.pos
  p1 : x.pos ≤ 9223372036854775807
  b0 : -9223372036854775808 ≤ x.by_
  b1 : x.by_ ≤ 9223372036854775807
  nl : x.name.length ≤ maxLen
  tl : x.text.length ≤ maxLen
def mayB (x : Opn) : Bool := nmB x.name && fitsB x.kind x.pos x.by_ x.text.length
abbrev oc (x : Opn) : List Value := [.int .i64 x.kind, .string (strOf x.name), .int .i64 x.pos, .int .i64 x.by_, .string (strOf x.text)]
abbrev opV (x : Opn) : Value := .agg #[.int .i64 x.kind, .string (strOf x.name), .int .i64 x.pos, .int .i64 x.by_, .string (strOf x.text)]
theorem size23 : (Tryz.prog.info? 46).map (·.size) = some 5 := by kernel_rfl
def OpsAt (w : World) (ao : Option Addr) (l : List Opn) : Prop := l ≠ [] → ∃ b o, ao = some ⟨b, o, none⟩ ∧ ∀ j x, l[j]? = some x → w.rangeAt b (o + j * 5) (oc x)
theorem range_after {w w' : World} {b o : Nat} {cs : List Value} (h : w.rangeAt b o cs) (ha : After w w') : w'.rangeAt b o cs := fun j v hv => (Below.cell ha (p := ⟨b, o + j, none⟩) (World.block_lt_of_cell? w _ (h j v hv))).trans (h j v hv)
theorem OpsAt.after {w w' : World} {ao : Option Addr} {l : List Opn} (h : OpsAt w ao l) (ha : After w w') : OpsAt w' ao l := fun hn => by
  obtain ⟨b, o, e, hc⟩ := h hn
  exact ⟨b, o, e, fun j x hj => range_after (hc j x hj) ha⟩
theorem data_strOf (s : List UInt8) : (strOf s).data.toList = s := by simp [strOf]

def errOf (m : Bool) : Int := if m then 0 else 40
set_option maxRecDepth 100000 in
set_option maxHeartbeats 3200000 in
theorem check_in (k p b : Int) (s t : ByteArray) (hs : s.size ≤ maxLen) (ht : t.size ≤ maxLen) (w : World) : Calls Tryz.prog 65 #[.agg #[.int .i64 k, .string s, .int .i64 p, .int .i64 b, .string t]] w fun e w' => e = .returned (.int .i64 (errOf (nmB s.data.toList && fitsB k p b t.size))) ∧ After w w' := by
  cases hn : nmB s.data.toList with
  | false =>
    go_enter Tryz.func65, Tryz.ntmps65
    go_wp2_with (go_at_call 34; refine Calls.mono (name_one s _ hs) ?_; rintro e w1 ⟨rfl, hw1⟩; rw [hn]; have hw2 := hw1.symm; clear hw1; subst hw2)
    go_ret
    exact ⟨rfl, after_alloc (After.refl w) _⟩
  | true =>
    cases hf : fitsB k p b t.size with
    | false =>
      go_enter Tryz.func65, Tryz.ntmps65
      go_wp2_with (first | (go_at_call 34; refine Calls.mono (name_one s _ hs) ?_; rintro e w1 ⟨rfl, hw1⟩; rw [hn]; have hw2 := hw1.symm; clear hw1; subst hw2) | (go_at_call 97; refine Calls.mono (fits_any k p b s t ht _) ?_; rintro e w3 ⟨rfl, ha3⟩; rw [hf]; have HA3 := show Hid (After w w3) from After.trans (after_alloc (After.refl w) _) ha3; clear ha3))
      go_ret
      exact ⟨rfl, HA3.out⟩
    | true =>
      go_enter Tryz.func65, Tryz.ntmps65
      go_wp2_with (first | (go_at_call 34; refine Calls.mono (name_one s _ hs) ?_; rintro e w1 ⟨rfl, hw1⟩; rw [hn]; have hw2 := hw1.symm; clear hw1; subst hw2) | (go_at_call 97; refine Calls.mono (fits_any k p b s t ht _) ?_; rintro e w3 ⟨rfl, ha3⟩; rw [hf]; have HA3 := show Hid (After w w3) from After.trans (after_alloc (After.refl w) _) ha3; clear ha3))
      go_ret
      exact ⟨rfl, HA3.out⟩
theorem check_any (x : Opn) (hx : x.Ok) (w : World) : Calls Tryz.prog 65 #[opV x] w fun e w' => e = .returned (.int .i64 (errOf (mayB x))) ∧ After w w' := by
  have := check_in x.kind x.pos x.by_ (strOf x.name) (strOf x.text) (by rw [strOf_size]; exact hx.nl) (by rw [strOf_size]; exact hx.tl) w
  rw [data_strOf, strOf_size] at this
  exact this

set_option maxRecDepth 100000 in
set_option maxHeartbeats 3200000 in
theorem kindOf (x : Opn) (w : World) : Calls Tryz.prog 100 #[opV x] w fun e w' => e = .returned (.int .i64 x.kind) ∧ After w w' := by
  obtain ⟨k, nm, p, b, tx⟩ := x
  go_enter Tryz.func100, Tryz.ntmps100
  go_wp2
  go_ret
  exact ⟨rfl, after_alloc (After.refl w) _⟩

set_option maxRecDepth 100000 in
set_option maxHeartbeats 3200000 in
theorem posOf (x : Opn) (w : World) : Calls Tryz.prog 103 #[opV x] w fun e w' => e = .returned (.int .i64 x.pos) ∧ After w w' := by
  obtain ⟨k, nm, p, b, tx⟩ := x
  go_enter Tryz.func103, Tryz.ntmps103
  go_wp2
  go_ret
  exact ⟨rfl, after_alloc (After.refl w) _⟩

set_option maxRecDepth 100000 in
set_option maxHeartbeats 3200000 in
theorem byOf (x : Opn) (w : World) : Calls Tryz.prog 104 #[opV x] w fun e w' => e = .returned (.int .i64 x.by_) ∧ After w w' := by
  obtain ⟨k, nm, p, b, tx⟩ := x
  go_enter Tryz.func104, Tryz.ntmps104
  go_wp2
  go_ret
  exact ⟨rfl, after_alloc (After.refl w) _⟩

set_option maxRecDepth 100000 in
set_option maxHeartbeats 3200000 in
theorem hasText_any (k : Int) (w : World) : Calls Tryz.prog 105 #[.int .i64 k] w fun e w' => e = .returned (.bool (decide (k = 1) || decide (k = 4))) ∧ w' = w := by
  by_cases h1 : k = 1
  · subst h1
    go_enter Tryz.func105, Tryz.ntmps105
    go_wp2
    go_ret
    exact ⟨rfl, rfl⟩
  · have q1 : (k == 1) = false := beq_eq_false_iff_ne.2 h1
    by_cases h4 : k = 4
    · subst h4
      go_enter Tryz.func105, Tryz.ntmps105
      go_wp2
      go_ret
      exact ⟨rfl, rfl⟩
    · have q4 : (k == 4) = false := beq_eq_false_iff_ne.2 h4
      go_enter Tryz.func105, Tryz.ntmps105
      go_wp2
      go_ret
      exact ⟨by simp [h1, h4], rfl⟩
/-- What numbers keeps: the numbers of the first ones, and noughts. -/
def filled (F : Opn → Int) (l : List Opn) (n i : Nat) : List Int := (l.take i).map F ++ List.replicate (n - i) 0
theorem filled_set {F : Opn → Int} {l : List Opn} {n i : Nat} {x : Opn} (hl : l.length = n) (hx : l[i]? = some x) : (filled F l n i).set i (F x) = filled F l n (i + 1) := by
  obtain ⟨hi, _⟩ := List.getElem?_eq_some_iff.1 hx
  have hlen : ((l.take i).map F).length = i := by rw [List.length_map, List.length_take]; omega
  unfold filled
  rw [List.set_append_right _ _ (by omega), hlen, Nat.sub_self, List.take_add_one, hx]
  have : n - i = (n - (i + 1)) + 1 := by omega
  rw [this, List.replicate_succ, List.set_cons_zero]
  simp
theorem filled_all {F : Opn → Int} {l : List Opn} {n : Nat} (hl : l.length = n) : filled F l n n = l.map F := by unfold filled; rw [← hl, List.take_length]; simp
structure NbI (w : World) (F : Opn → Int) (l : List Opn) (g n i : Nat) (wr : World) : Prop where
  own : OwnI wr w.heap.size (.slice (some ⟨g, 0, none⟩) n n) (filled F l n i)
  aft : After w wr

set_option maxRecDepth 100000 in
set_option maxHeartbeats 3200000 in
theorem numbers_any (F : Opn → Int) (K : Nat) (caps : Array Value) (heK : ∀ args w, (callFunc K args).run Tryz.prog w = .ok (.enter K args) w) (ao : Option Addr) (n ca : Nat) (l : List Opn) (hl : l.length = n) (hn : n ≤ 100000) (w : World) (hA : OpsAt w ao l)
    (hK : ∀ W x, After w W → x ∈ l → Calls Tryz.prog K (#[opV x] ++ caps) W fun e w' => e = .returned (.int .i64 (F x)) ∧ After W w') :
    Calls Tryz.prog 99 #[.slice ao n ca, .func (.func K) #[] caps] w fun e w' => ∃ v, e = .returned v ∧ OwnI w' w.heap.size v (l.map F) ∧ After w w' := by
  have HL : Hid (OpsAt w ao l ∧ l.length = n) := ⟨hA, hl⟩
  have HK := show Hid _ from hK
  have hmk := make_ints w n n (Nat.le_refl _) (by omega)
  have HI0 : Hid (NbI w F l w.heap.size n 0 (w.alloc (.cells (ci (List.replicate n 0)).toArray 2))) := ⟨⟨by simp [ci, filled], .inr ⟨w.heap.size, n, _, by simp [filled], Nat.le_refl _, heap_alloc_new w _, by simp [filled], by unfold maxLen; omega, by simp [ci], by simp [ci, filled]⟩⟩, after_alloc (After.refl w) _⟩
  clear hA hl hK
  go_enter Tryz.func99, Tryz.ntmps99
  go_wp2_with fail
  obtain ⟨g, hg⟩ : ∃ g, w.heap.size = g := ⟨_, rfl⟩
  have HG : Hid (w.heap.size = g) := hg
  obtain ⟨w1, hw1⟩ : ∃ w1, w.alloc (.cells (ci (List.replicate n 0)).toArray 2) = w1 := ⟨_, rfl⟩
  rw [hw1] at HI0
  rw [hw1]
  have HI1 : Hid (NbI w F l g n 0 w1) := by rw [← hg]; exact HI0.out
  rw [hg]
  clear hw1 hg HI0 hmk
  go_loopw [13] (fun vi wr => ∃ i : Nat, vi = .int .i64 (i : Int) ∧ i ≤ n ∧ Hid (NbI w F l g n i wr)) (fun vi _ => n - (intOf vi).toNat)
  case atStart => exact ⟨0, rfl, Nat.zero_le _, HI1.out⟩
  case round =>
    obtain ⟨i, rfl, hin, HI⟩ := hrel
    by_cases hlt : i < n
    · have hii : (i : Int) < (n : Int) := by omega
      obtain ⟨x, hx⟩ : ∃ x, l[i]? = some x := ⟨_, List.getElem?_eq_getElem (by rw [HL.out.2]; exact hlt)⟩
      have HX : Hid (l[i]? = some x) := hx
      obtain ⟨b, o, hao, hrg⟩ := HL.out.1 (fun e => by rw [e] at hx; simp at hx)
      subst hao
      have HR : Hid (wr.rangeAt b (o + i * 5) (oc x)) := range_after (hrg i x hx) HI.out.aft
      have HM : Hid (x ∈ l) := List.mem_of_getElem? hx
      clear hx hrg
      go_wp2_with (first
        | (refine wpList_load_mid rfl 46 (.tmp 16) rfl b (o + i * 5) rfl (oc x) _ HR.out Tryz.underlying46 rfl size23 ?_)
        | (go_at_fn K; refine Calls.mono (HK.out _ x (after_alloc HI.out.aft _) HM.out) ?_; rintro e w3 ⟨rfl, ha3⟩; have ho3 := (HI.out.own.keep (fun k hk => (After.trans (after_alloc (After.refl wr) _) ha3).block k (World.ownsRow.lt HI.out.own k hk).2)); have HO3 := show Hid (OwnI w3 _ _ _) from ho3; have hf3 := ho3.frozenAt i; have hc3 := ho3.cellAt i (by simp [filled]; rw [HL.out.2]; omega); rw [Nat.zero_add] at hc3; have HA3 := show Hid (After w w3) from After.trans (after_alloc HI.out.aft _) ha3; clear ha3 ho3))
      go_roundw
      case rel => exact ⟨i + 1, by go_num, by omega, by rw [← filled_set HL.out.2 HX.out]; exact (HO3.out.stored i (F x)).1, Below.setCell HA3.out (p := ⟨g, i, none⟩) (by rw [HG.out]; exact Nat.le_refl _) _⟩
      case measure => simp [intOf]; omega
    · obtain rfl : i = n := by omega
      have hii : ¬ (i : Int) < (i : Int) := by omega
      go_wp2
      go_ret
      exact ⟨_, rfl, by rw [← filled_all HL.out.2]; exact HI.out.own, HI.out.aft⟩
end Go.Proofs.YtgmdolpjkaajfaaGreatDoor
namespace Go.Proofs.YtgmdolpjkaajfaaGreatDoor
open Go.RowKit Go.Maps Leb
abbrev Nm := List UInt8
theorem law9 : Keyed Tryz.prog 9 := string_keyed Tryz.underlying9
theorem zero3 (w : World) : (zeroValue 3).run Tryz.prog w = .ok (.int .i64 0) w := by kernel_rfl
def Rv (v : Value) : Option (DataW Value × List MemPlace) := some (.held v, [])
theorem Rv_inv {v : Value} {d : DataW Value} {ps : List MemPlace} (h : Rv v = some (d, ps)) : d = .held v := by simp [Rv] at h; exact h.1.symm
theorem key9 (nm : Nm) (h : nm.length ≤ maxLen) : keyOf Tryz.prog 9 (.string (strOf nm)) = some (.string nm) := by
  have := WideMaps.keyOf_string_mk Tryz.underlying9 (s := strOf nm) (by rw [strOf_size]; exact h)
  simpa [strOf] using this
theorem isKey_string (h : Nm) : WideAt.IsKeyLit (.string h) := trivial
/-- A map that numbers these names, from 0 on. -/
structure NumAt (w : World) (mb : Nat) (N : List Nm) : Prop where
  ex : ∃ D, w.ownsMap Tryz.prog 9 Rv mb N.length D ∧ Tidy D ∧ Maps.size D = N.length ∧ (∀ nm, Maps.has D (.string nm) = decide (nm ∈ N)) ∧ ∀ nm, nm ∈ N → ∀ z, D.atKey (.string nm) z = .held (.int .i64 (N.idxOf nm : Int))
theorem NumAt.lt {w : World} {mb : Nat} {N : List Nm} (h : NumAt w mb N) : mb < w.heap.size := by obtain ⟨D, h, _⟩ := h.ex; exact h.lt
theorem NumAt.same {w w' : World} {mb : Nat} {N : List Nm} (h : NumAt w mb N) (hs : w'.heap[mb]? = w.heap[mb]?) : NumAt w' mb N := by
  obtain ⟨D, ⟨es, clock, hb, r⟩, h2⟩ := h.ex
  exact ⟨D, ⟨es, clock, by rw [hs]; exact hb, r⟩, h2⟩
theorem NumAt.after {w w' : World} {mb : Nat} {N : List Nm} (h : NumAt w mb N) (ha : After w w') : NumAt w' mb N := h.same (ha.block mb h.lt)
theorem NumAt.made (w : World) : NumAt (w.alloc (.map #[] 0)) w.heap.size [] :=
  ⟨.map [], World.ownsMap_made w Tryz.prog 9 Rv, tidy_empty, rfl, fun nm => by simp [Maps.has], fun nm h => by simp at h⟩
theorem NumAt.look {w : World} {mb : Nat} {N : List Nm} (h : NumAt w mb N) {nm : Nm} (hl : nm.length ≤ maxLen) (hm : nm ∈ N) :
    (Instr.lookup 159 (.map (some mb)) (.string (strOf nm)) false).run Tryz.prog w = .ok (.int .i64 (N.idxOf nm : Int)) w := by
  obtain ⟨D, h1, _, _, _, h5⟩ := h.ex
  obtain ⟨v', ps, hrun, hv⟩ := h1.lookup law9 Tryz.underlying159 (zero3 w) (zd := .held (.int .i64 0)) (zp := []) rfl (key9 nm hl)
  have := Rv_inv hv
  rw [h5 nm hm] at this
  simp at this
  rw [← this] at hrun
  exact hrun
theorem NumAt.looks {w : World} {mb : Nat} {N : List Nm} (h : NumAt w mb N) {nm : Nm} (hl : nm.length ≤ maxLen) {t : Bool} (ht : decide (nm ∈ N) = t) :
    ∃ v, (Instr.lookup 159 (.map (some mb)) (.string (strOf nm)) true).run Tryz.prog w = .ok (.tuple #[v, .bool t]) w := by
  obtain ⟨D, h1, _, _, h4, _⟩ := h.ex
  obtain ⟨v', ps, hrun, _⟩ := h1.look_ok law9 Tryz.underlying159 (zero3 w) (zd := .held (.int .i64 0)) (zp := []) rfl (key9 nm hl)
  rw [h4 nm, ht] at hrun
  exact ⟨v', hrun⟩
theorem NumAt.len {w : World} {mb : Nat} {N : List Nm} (h : NumAt w mb N) (ty : TypeId) : (Builtin.len_ #[159] ty #[.map (some mb)]).run Tryz.prog w = .ok (.int .i64 (N.length : Int)) w := by
  obtain ⟨D, h1, _, h3, _⟩ := h.ex
  rw [← h3]; exact h1.len Tryz.underlying159 ty
theorem NumAt.put {w : World} {mb : Nat} {N : List Nm} (h : NumAt w mb N) {nm : Nm} (hl : nm.length ≤ maxLen) (hm : ¬ nm ∈ N) (hn : N.length < maxLen) :
    ∃ w', (Instr.mapUpdate 159 (.map (some mb)) (.string (strOf nm)) (.int .i64 (N.length : Int))).run Tryz.prog w = .ok () w' ∧ NumAt w' mb (N ++ [nm]) ∧ w.grownBy w' (some mb) := by
  obtain ⟨D, h1, h2, h3, h4, h5⟩ := h.ex
  obtain ⟨w', hrun, r1, r2⟩ := h1.update law9 Tryz.underlying159 hn (key9 nm hl) (val := .int .i64 (N.length : Int)) (d := .held (.int .i64 (N.length : Int))) (ps := []) rfl
  have hh : Maps.has D (.string nm) = false := by rw [h4]; exact decide_eq_false hm
  have hD := h2.isMap
  refine ⟨w', hrun, ⟨_, by rw [List.length_append]; exact r1, h2.put (isKey_string nm) _, ?_, fun x => ?_, fun x hx z => ?_⟩, r2⟩
  · rw [size_put h2, hh, h3, List.length_append]; rfl
  · by_cases e : x = nm
    · subst e; rw [has_put_same hD (isKey_string x)]; simp
    · rw [has_put_other (by intro e2; injection e2 with e2; exact e e2), h4]; simp [e]
  · by_cases e : x = nm
    · subst e
      rw [atKey_put_same hD (isKey_string x), List.idxOf_append, if_neg hm]
      simp
    · have hxN : x ∈ N := by rcases List.mem_append.1 hx with h | h; exact h; simp at h; exact absurd h e
      rw [atKey_put_other (by intro e2; injection e2 with e2; exact e e2), h5 x hxN, List.idxOf_append, if_pos hxN]
section
variable {ops : Array Oper} {rest : List Oper} {o : Oper} {a : Act} {Q : Exit → Act → World → Prop} {w : World}
theorem wpList_of_run {w' : World} {v : Value} (hg : o.guard = none) (hr : (execOp a.eval o).run Tryz.prog w = .ok (.value v) w') (h : wpList Tryz.prog ops Q rest (a.put o.dst v) w') : wpList Tryz.prog ops Q (o :: rest) a w :=
  wpList_plain hg fun K hK => by unfold Oper.wp; rw [hr]; exact hK _ _ h
theorem x_look {m x : Operand} {mb : Nat} {nm : Nm} {ok : Bool} {v : Value} (hop : o.op = .lookup 159 m x ok) (hm : a.eval m = .map (some mb)) (hx : a.eval x = .string (strOf nm)) (hr : (Instr.lookup 159 (.map (some mb)) (.string (strOf nm)) ok).run Tryz.prog w = .ok v w) : (execOp a.eval o).run Tryz.prog w = .ok (.value v) w := by
  unfold execOp; simp only [hop, hm, hx, Sem.run_bind, hr, Result.andThen_ok]; rfl
theorem wpList_num (hg : o.guard = none) (m x v : Operand) (ho : o.op = .mapUpdate 159 m x v) {mb : Nat} {N : List Nm} {nm : Nm} (hm : a.eval m = .map (some mb)) (hx : a.eval x = .string (strOf nm)) (hv : a.eval v = .int .i64 (N.length : Int))
    (h : NumAt w mb N) (hl : nm.length ≤ maxLen) (hn : ¬ nm ∈ N) (hb : N.length < maxLen) (K : ∀ w', NumAt w' mb (N ++ [nm]) → w.grownBy w' (some mb) → wpList Tryz.prog ops Q rest (a.put o.dst undef) w') : wpList Tryz.prog ops Q (o :: rest) a w :=
  wpList_plain hg fun K' hK => by
    obtain ⟨w', hrun, h1, h2⟩ := h.put hl hn hb
    unfold Oper.wp
    simp [execOp, ho, hm, hx, hv, hrun, Result.andThen]
    exact hK _ _ (K w' h1 h2)
theorem wpList_numLen (hg : o.guard = none) (m : Operand) (ho : o.op = .call { callee := .builtin .len, args := #[m], argTypes := #[159] }) {mb : Nat} {N : List Nm} (hm : a.eval m = .map (some mb)) (h : NumAt w mb N)
    (K : wpList Tryz.prog ops Q rest (a.put o.dst (.int .i64 (N.length : Int))) w) : wpList Tryz.prog ops Q (o :: rest) a w :=
  wpList_plain hg fun K' hK => by
    unfold Oper.wp
    simp [execOp, ho, resolve, invoke, builtin, hm, h.len o.type, Result.andThen]
    exact hK _ _ K
end
/-- The names, each once, in the order in which they come first. -/
def more (N : List Nm) (x : Opn) : List Nm := if x.name ∈ N then N else N ++ [x.name]
def firsts (l : List Opn) : List Nm := l.foldl more []
theorem firsts_succ {l : List Opn} {i : Nat} {x : Opn} (hx : l[i]? = some x) : firsts (l.take (i + 1)) = more (firsts (l.take i)) x := by
  unfold firsts; rw [List.take_add_one, hx]; simp
theorem foldl_mem (l : List Opn) : ∀ (N : List Nm) (y : Nm), y ∈ l.foldl more N ↔ y ∈ N ∨ ∃ x ∈ l, x.name = y := by
  induction l with
  | nil => intro N y; simp
  | cons x l ih =>
    intro N y
    rw [List.foldl_cons, ih]
    unfold more
    by_cases h : x.name ∈ N
    · rw [if_pos h]
      constructor
      · rintro (h1 | ⟨z, hz, e⟩)
        · exact Or.inl h1
        · exact Or.inr ⟨z, by simp [hz], e⟩
      · rintro (h1 | ⟨z, hz, e⟩)
        · exact Or.inl h1
        · rcases List.mem_cons.1 hz with rfl | hz
          · exact Or.inl (e ▸ h)
          · exact Or.inr ⟨z, hz, e⟩
    · rw [if_neg h]
      constructor
      · rintro (h1 | ⟨z, hz, e⟩)
        · rcases List.mem_append.1 h1 with h1 | h1
          · exact Or.inl h1
          · simp at h1; exact Or.inr ⟨x, by simp, h1.symm⟩
        · exact Or.inr ⟨z, by simp [hz], e⟩
      · rintro (h1 | ⟨z, hz, e⟩)
        · exact Or.inl (by simp [h1])
        · rcases List.mem_cons.1 hz with rfl | hz
          · exact Or.inl (by simp [e])
          · exact Or.inr ⟨z, hz, e⟩
theorem mem_firsts (l : List Opn) (y : Nm) : y ∈ firsts l ↔ ∃ x ∈ l, x.name = y := by unfold firsts; rw [foldl_mem]; simp
theorem foldl_len (l : List Opn) : ∀ N : List Nm, (l.foldl more N).length ≤ N.length + l.length := by
  induction l with
  | nil => intro N; simp
  | cons x l ih =>
    intro N
    rw [List.foldl_cons]
    have := ih (more N x)
    have h2 : (more N x).length ≤ N.length + 1 := by unfold more; split <;> simp
    simp only [List.length_cons]
    omega
theorem firsts_len (l : List Opn) : (firsts l).length ≤ l.length := by have := foldl_len l []; simpa [firsts] using this
def namesB (N : List Nm) : List UInt8 := (N.map textB).flatten
theorem namesB_snoc (N : List Nm) (y : Nm) : namesB (N ++ [y]) = namesB N ++ textB y := by simp [namesB]
theorem textB_len (y : Nm) (h : y.length ≤ 2000) : (textB y).length ≤ 2010 := by
  have := uintB_len10 y.length (by omega)
  unfold textB; rw [List.length_append]; omega
theorem namesB_len : ∀ (N : List Nm), (∀ y ∈ N, y.length ≤ 2000) → (namesB N).length ≤ N.length * 2010
  | [], _ => by simp [namesB]
  | y :: N, h => by
    have h1 := textB_len y (h y (by simp))
    have h2 := namesB_len N (fun z hz => h z (by simp [hz]))
    unfold namesB at h2 ⊢
    rw [List.map_cons, List.flatten_cons, List.length_append, List.length_cons]
    omega
def whichs (N : List Nm) (l : List Opn) : List Int := l.map fun x => (N.idxOf x.name : Int)
def layNB (l : List Opn) : List UInt8 := uintB (firsts l).length ++ namesB (firsts l) ++ runsB (whichs (firsts l) l)
/-- What the loop of layNames keeps. -/
structure LnI (w : World) (mb bx : Nat) (l : List Opn) (i : Nat) (v : Value) (wr : World) : Prop where
  num : NumAt wr mb (firsts (l.take i))
  own : Own wr w.heap.size v (namesB (firsts (l.take i)))
  box : RowIs wr bx 159 [.map (some mb)]
  aft : After w wr
theorem num_apart {w : World} {mb : Nat} {N : List Nm} (h : NumAt w mb N) {base : Nat} {v : Value} {bs : List UInt8} (ho : Own w base v bs) : v.ownBlock ≠ some mb := fun e => by
  obtain ⟨D, ⟨es, clock, hb, _⟩, _⟩ := h.ex
  rcases ho.2 with ⟨hv, _⟩ | ⟨g, cap, cur, hv, _, hg, _⟩
  · rw [hv] at e; simp [Value.ownBlock] at e
  · rw [hv] at e; simp [Value.ownBlock] at e; subst e; rw [hb] at hg; cases hg
theorem row_apart {w : World} {bx : Nat} {t : TypeId} {cs : List Value} (h : RowIs w bx t cs) (ht : t ≠ 5) {base : Nat} {v : Value} {bs : List UInt8} (ho : Own w base v bs) : v.ownBlock ≠ some bx := fun e => by
  rcases ho.2 with ⟨hv, _⟩ | ⟨g, cap, cur, hv, _, hg, _⟩
  · rw [hv] at e; simp [Value.ownBlock] at e
  · rw [hv] at e; simp [Value.ownBlock] at e; subst e; unfold RowIs at h; rw [h] at hg; injection hg with hg; injection hg with _ h2; exact ht h2
theorem num_row {w : World} {mb bx : Nat} {N : List Nm} (h : NumAt w mb N) {t : TypeId} {cs : List Value} (hr : RowIs w bx t cs) : bx ≠ mb := fun e => by
  obtain ⟨D, ⟨es, clock, hb, _⟩, _⟩ := h.ex
  subst e; unfold RowIs at hr; rw [hr] at hb; cases hb

/-- numbers, told as a slice. -/
theorem numbers_k (F : Opn → Int) (G : List Int) (K : Nat) (caps : Array Value) (heK : ∀ args w, (callFunc K args).run Tryz.prog w = .ok (.enter K args) w) (ao : Option Addr) (n ca : Nat) (l : List Opn) (hG : l.map F = G) (hl : l.length = n) (hn : n ≤ 100000) (w : World) (hA : OpsAt w ao l)
    (hK : ∀ W x, After w W → x ∈ l → Calls Tryz.prog K (#[opV x] ++ caps) W fun e w' => e = .returned (.int .i64 (F x)) ∧ After W w') :
    Calls Tryz.prog 99 #[.slice ao n ca, .func (.func K) #[] caps] w fun e w' => ∃ (o : Option Addr) (c : Nat), e = .returned (.slice o n c) ∧ IntsAt w' o G ∧ (∀ a, o = some a → a.block < w'.heap.size) ∧ After w w' :=
  (numbers_any F K caps heK ao n ca l hl hn w hA hK).mono (fun e w' ⟨v, he, ho, ha⟩ => by
    obtain ⟨o, c, hv, hi, _, hlt⟩ := ho.at
    subst hG
    exact ⟨o, c, by rw [he, hv, List.length_map, hl], hi, fun a h => (hlt a h).2, ha⟩)
theorem runs_k (ao : Option Addr) (cap n : Nat) (G : List Int) (hl : ∀ x ∈ G, -9223372036854775808 ≤ x ∧ x ≤ 9223372036854775807) (hn : G.length = n) (hb : n ≤ 100000) (w : World) (hI : IntsAt w ao G) (hlt : ∀ a, ao = some a → a.block < w.heap.size) :
    Calls Tryz.prog 98 #[.slice ao n cap] w fun e w' => ∃ (o : Option Addr) (k c : Nat), e = .returned (.slice o k c) ∧ BytesAt w' o (runsB G) ∧ (runsB G).length = k ∧ After w w' := by
  subst hn
  refine (runs_any ao cap G hl (by omega) w hI (fun a h _ => hlt a h)).mono (fun e w' ⟨v, he, ho, ha⟩ => ?_)
  obtain ⟨o, c, hv, hat, _⟩ := Own.sl ho _ rfl
  exact ⟨o, _, c, by rw [he, hv], hat, rfl, ha⟩
theorem runs_v (ao : Option Addr) (cap n : Nat) (G : List Int) (hl : ∀ x ∈ G, -9223372036854775808 ≤ x ∧ x ≤ 9223372036854775807) (hn : G.length = n) (hb : n ≤ 100000) (w : World) (hI : IntsAt w ao G) (hlt : ∀ a, ao = some a → a.block < w.heap.size) :
    Calls Tryz.prog 98 #[.slice ao n cap] w fun e w' => ∃ v, e = .returned v ∧ Own w' w.heap.size v (runsB G) ∧ After w w' := by
  subst hn
  exact runs_any ao cap G hl (by omega) w hI (fun a h _ => hlt a h)
theorem deltas_k (ao : Option Addr) (cap n : Nat) (G : List Int) (hn : G.length = n) (hb : n ≤ 100000) (w : World) (hI : IntsAt w ao G) :
    Calls Tryz.prog 102 #[.slice ao n cap] w fun e w' => ∃ (o : Option Addr) (k c : Nat), e = .returned (.slice o k c) ∧ BytesAt w' o (runsB (diffs G)) ∧ (runsB (diffs G)).length = k ∧ After w w' := by
  subst hn
  refine (deltas_any ao cap G (by omega) w hI).mono (fun e w' ⟨v, he, ho, ha⟩ => ?_)
  obtain ⟨o, c, hv, hat, _⟩ := Own.sl ho _ rfl
  exact ⟨o, _, c, by rw [he, hv], hat, rfl, ha⟩
theorem whichs_int (N : List Nm) (l : List Opn) (h : N.length ≤ 100000) : ∀ z ∈ whichs N l, -9223372036854775808 ≤ z ∧ z ≤ 9223372036854775807 := fun z hz => by
  obtain ⟨y, hy, rfl⟩ := List.mem_map.1 hz
  have h1 : N.idxOf y.name ≤ N.length := List.idxOf_le_length
  constructor <;> omega

set_option maxRecDepth 100000 in
set_option maxHeartbeats 3200000 in
theorem nameOf (x : Opn) (hx : x.name.length ≤ maxLen) (bx mb : Nat) (N : List Nm) (hm : x.name ∈ N) (w : World) (hb : RowIs w bx 159 [.map (some mb)]) (hN : NumAt w mb N) :
    Calls Tryz.prog 133 #[opV x, .pointer (some ⟨bx, 0, none⟩)] w fun e w' => e = .returned (.int .i64 (N.idxOf x.name : Int)) ∧ After w w' := by
  have c0 := (hb.alloc (.cells #[.int .i64 x.kind, .string (strOf x.name), .int .i64 x.pos, .int .i64 x.by_, .string (strOf x.text)] 46)).cell (j := 0) rfl
  have HLK := show Hid _ from (hN.after (after_alloc (After.refl w) (.cells #[.int .i64 x.kind, .string (strOf x.name), .int .i64 x.pos, .int .i64 x.by_, .string (strOf x.text)] 46))).look hx hm
  clear hb hN
  go_enter Tryz.func133, Tryz.ntmps133
  go_wp2_with (at_lookup; refine wpList_of_run rfl (x_look (mb := mb) (nm := x.name) rfl rfl rfl HLK.out) ?_)
  go_ret
  exact ⟨rfl, after_alloc (After.refl w) _⟩

set_option maxRecDepth 100000 in
set_option maxHeartbeats 3200000 in
theorem layNames_any (ao : Option Addr) (n ca : Nat) (l : List Opn) (hl : l.length = n) (hn : n ≤ 256) (hnm : ∀ x ∈ l, x.name.length ≤ 2000) (w : World) (hA : OpsAt w ao l) :
    Calls Tryz.prog 101 #[.slice ao n ca] w fun e w' => ∃ v, e = .returned v ∧ Own w' w.heap.size v (layNB l) ∧ After w w' := by
  have HL : Hid (OpsAt w ao l ∧ l.length = n ∧ ∀ x ∈ l, x.name.length ≤ 2000) := ⟨hA, hl, hnm⟩
  clear hA hl hnm
  have hmm : (Instr.makeMap 159 none).run Tryz.prog w = .ok (.map (some w.heap.size)) (w.alloc (.map #[] 0)) := by kernel_rfl
  have HN1 : Hid (LnI w w.heap.size (w.heap.size + 1) l 0 (.slice none 0 0) ((w.alloc (.map #[] 0)).alloc (.cells #[.map (some w.heap.size)] 159))) := by
    refine ⟨(NumAt.made w).after (after_alloc (After.refl _) _), Own.nil _ _, ?_, after_alloc (after_alloc (After.refl w) _) _⟩
    have := RowIs.new (w.alloc (.map #[] 0)) 159 [.map (some w.heap.size)]
    simpa using this
  go_enter Tryz.func101, Tryz.ntmps101
  go_wp2_with fail
  obtain ⟨mb, hmb⟩ : ∃ mb, w.heap.size = mb := ⟨_, rfl⟩
  have HMB : Hid (w.heap.size = mb) := hmb
  obtain ⟨w1, hw1⟩ : ∃ w1, (w.alloc (.map #[] 0)).alloc (.cells #[.map (some w.heap.size)] 159) = w1 := ⟨_, rfl⟩
  rw [hw1] at HN1
  rw [hw1]
  rw [hmb] at HN1
  rw [hmb]
  clear hw1 hmb hmm
  go_loopw [4, 13] (fun vv vi wr => ∃ i : Nat, vi = .int .i64 (i : Int) ∧ i ≤ n ∧ Hid (LnI w mb (mb + 1) l i vv wr)) (fun _ vi _ => n - (intOf vi).toNat)
  case atStart => exact ⟨0, rfl, Nat.zero_le _, HN1.out⟩
  case round =>
    obtain ⟨i, rfl, hin, HI⟩ := hrel
    obtain ⟨av, hav⟩ : ∃ av, av = u4 := ⟨_, rfl⟩
    rw [← hav] at HI
    rw [← hav]
    clear hav
    obtain ⟨N, hN⟩ : ∃ N, firsts (l.take i) = N := ⟨_, rfl⟩
    have HN : Hid (firsts (l.take i) = N) := hN
    have HIN : Hid (NumAt wr mb N ∧ Own wr w.heap.size av (namesB N) ∧ RowIs wr (mb + 1) 159 [.map (some mb)] ∧ After w wr) := by rw [← hN]; exact ⟨HI.out.num, HI.out.own, HI.out.box, HI.out.aft⟩
    have HNL : Hid (N.length ≤ n ∧ ∀ y ∈ N, y.length ≤ 2000) := by
      rw [← hN]
      refine ⟨by have h1 := firsts_len (l.take i); rw [List.length_take] at h1; omega, fun y hy => ?_⟩
      obtain ⟨x, hx, rfl⟩ := (mem_firsts _ y).1 hy
      exact HL.out.2.2 x (List.mem_of_mem_take hx)
    have hNl : N.length ≤ 256 := by have := HNL.out.1; omega
    clear hN HI
    by_cases hlt : i < n
    · have hii : (i : Int) < (n : Int) := by omega
      obtain ⟨x, hx⟩ : ∃ x, l[i]? = some x := ⟨_, List.getElem?_eq_getElem (by rw [HL.out.2.1]; exact hlt)⟩
      have HX : Hid (l[i]? = some x) := hx
      have HXN : Hid (x.name.length ≤ 2000) := HL.out.2.2 x (List.mem_of_getElem? hx)
      have HXM : Hid (x.name.length ≤ maxLen) := by have := HXN.out; unfold Hid maxLen; omega
      obtain ⟨b, o, hao, hrg⟩ := HL.out.1 (fun e => by rw [e] at hx; simp at hx)
      subst hao
      have HR : Hid (wr.rangeAt b (o + i * 5) (oc x)) := range_after (hrg i x hx) HIN.out.2.2.2
      clear hx hrg
      have hA2 := after_alloc (After.refl wr) (.cells #[.int .i64 x.kind, .string (strOf x.name), .int .i64 x.pos, .int .i64 x.by_, .string (strOf x.text)] 46)
      have HA2 := show Hid (After wr _) from hA2
      have c0 := (HIN.out.2.2.1.below hA2 HIN.out.2.2.1.lt).cell (j := 0) rfl
      by_cases hm : x.name ∈ N
      · obtain ⟨lv, hlv⟩ := (HIN.out.1.after hA2).looks HXM.out (decide_eq_true hm)
        have HLV := show Hid _ from hlv
        clear hlv hA2
        go_wp2_with (first
          | (refine wpList_load_mid rfl 46 (.tmp 15) rfl b (o + i * 5) rfl [.int .i64 x.kind, .string (strOf x.name), .int .i64 x.pos, .int .i64 x.by_, .string (strOf x.text)] _ HR.out Tryz.underlying46 rfl size23 ?_)
          | (at_lookup; refine wpList_of_run rfl (x_look (mb := mb) (nm := x.name) rfl rfl rfl HLV.out) ?_))
        go_roundw
        case rel =>
          refine ⟨i + 1, by go_num, by omega, ?_⟩
          have e : firsts (l.take (i + 1)) = N := by rw [firsts_succ HX.out, HN.out]; unfold more; rw [if_pos hm]
          refine ⟨by rw [e]; exact HIN.out.1.after HA2.out, by rw [e]; exact HIN.out.2.1.below HA2.out (Nat.le_refl _), HIN.out.2.2.1.below HA2.out HIN.out.2.2.1.lt, After.trans HIN.out.2.2.2 HA2.out⟩
        case measure => simp [intOf]; omega
      · obtain ⟨lv, hlv⟩ := (HIN.out.1.after hA2).looks HXM.out (decide_eq_false hm)
        have HLV := show Hid _ from hlv
        have HM : Hid (¬ x.name ∈ N) := hm
        have HN2 := show Hid (NumAt _ mb N) from HIN.out.1.after hA2
        have HB2 := show Hid (RowIs _ (mb + 1) 159 [.map (some mb)]) from HIN.out.2.2.1.below hA2 HIN.out.2.2.1.lt
        have HO2 := show Hid (Own _ w.heap.size av (namesB N)) from HIN.out.2.1.below hA2 (Nat.le_refl _)
        have HX2 := show Hid (RowIs _ wr.heap.size 46 (oc x)) from RowIs.new wr 46 (oc x)
        have HXA := show Hid (After w _) from After.trans HIN.out.2.2.2 hA2
        clear hlv hm hA2
        go_wp2_with (first
          | (refine wpList_load_mid rfl 46 (.tmp 15) rfl b (o + i * 5) rfl [.int .i64 x.kind, .string (strOf x.name), .int .i64 x.pos, .int .i64 x.by_, .string (strOf x.text)] _ HR.out Tryz.underlying46 rfl size23 ?_)
          | (at_lookup; refine wpList_of_run rfl (x_look (mb := mb) (nm := x.name) rfl rfl rfl HLV.out) ?_)
          | (at_len; refine wpList_numLen rfl (.tmp 29) rfl (mb := mb) (N := N) rfl HN2.out ?_)
          | (at_mapUpdate; refine wpList_num rfl (.tmp 26) (.tmp 28) (.tmp 30) rfl (mb := mb) (N := N) (nm := x.name) rfl rfl rfl HN2.out HXM.out HM.out (by unfold maxLen; omega) ?_; intro w3 hn3 hg3; have HN3 := show Hid (NumAt w3 mb (N ++ [x.name])) from hn3; have hk3 : ∀ k, k < _ → k ≠ mb → w3.heap[k]? = _ := fun k hk hne => hg3.block k hk (by simpa using hne); have HO3 := show Hid (Own w3 w.heap.size av (namesB N)) from Own.keep' HO2.out (fun k hk => hk3 k (World.ownsRow.lt HO2.out k hk).2 (fun e => num_apart HN2.out HO2.out (by rw [hk, e]))); have hb3 : RowIs w3 (mb + 1) 159 [.map (some mb)] := (by unfold RowIs; rw [hk3 (mb + 1) HB2.out.lt (by omega)]; exact HB2.out); have HB3 := show Hid (RowIs _ _ _ _) from hb3; have hx3 : RowIs w3 wr.heap.size 46 (oc x) := (by unfold RowIs; rw [hk3 wr.heap.size HX2.out.lt (num_row HN2.out HX2.out)]; exact HX2.out); have HX3 := show Hid (RowIs _ _ _ _) from hx3; have d0 := hb3.cell (j := 0) rfl; have d1 := hx3.cell (j := 1) rfl; have HA3 := show Hid (After w w3) from after_grown HXA.out hg3 (Nat.le_refl _) (fun k hk => by injection hk with hk; rw [← hk, HMB.out]; exact Nat.le_refl _); clear hn3 hg3 hk3 hb3 hx3)
          | (go_at_call 68; refine Calls.mono (text_any x.name (by have := HXN.out; omega) w3) ?_; rintro e w4 ⟨v4, rfl, ho4, ha4⟩; obtain ⟨p4, c4, rfl, hp4, _⟩ := Own.sl ho4 _ rfl; have H4 := show Hid (After w3 w4 ∧ BytesAt w4 p4 (textB x.name)) from ⟨ha4, hp4⟩; clear ho4 ha4 hp4)
          | (at_builtin; refine wpList_append_any rfl _ _ rfl w.heap.size av (namesB N) rfl (HO3.out.below H4.out.1 (Nat.le_refl _)) p4 c4 (textB x.name) _ rfl rfl H4.out.2 (by have h1 := namesB_len N HNL.out.2; have h2 := textB_len x.name HXN.out; omega) (by have h1 := HA3.out.size; have h2 := H4.out.1.size; omega) ?_; intro v5 w5 ho5 hg5; have HO5 := show Hid (Own w5 w.heap.size v5 (namesB N ++ textB x.name)) from ho5; have hk5 : ∀ k, k < w3.heap.size → av.ownBlock ≠ some k → w5.heap[k]? = w3.heap[k]? := fun k hk hne => (hg5.block k (Nat.lt_of_lt_of_le hk H4.out.1.size) (fun e => hne e.symm)).trans (H4.out.1.block k hk); have HN5 := show Hid (NumAt w5 mb (N ++ [x.name])) from HN3.out.same (hk5 mb HN3.out.lt (num_apart HN3.out HO3.out)); have HB5 := show Hid (RowIs w5 (mb + 1) 159 [.map (some mb)]) from (show w5.heap[mb + 1]? = _ from (hk5 (mb + 1) HB3.out.lt (row_apart HB3.out (by decide) HO3.out)).trans HB3.out); have HA5 := show Hid (After w w5) from after_grown (After.trans HA3.out H4.out.1) hg5 (Nat.le_refl _) (fun k hk => (World.ownsRow.lt HO3.out k hk).1); clear ho5 hg5 hk5))
        go_roundw
        case rel =>
          refine ⟨i + 1, by go_num, by omega, ?_⟩
          have e : firsts (l.take (i + 1)) = N ++ [x.name] := by rw [firsts_succ HX.out, HN.out]; unfold more; rw [if_neg HM.out]
          refine ⟨by rw [e]; exact HN5.out, by rw [e, namesB_snoc]; exact HO5.out, HB5.out, HA5.out⟩
        case measure => simp [intOf]; omega
    · obtain rfl : i = n := by omega
      have hii : ¬ (i : Int) < (i : Int) := by omega
      have HNA : Hid (firsts l = N) := by have h1 := HN.out; rw [← HL.out.2.1, List.take_length] at h1; exact h1
      have c0 := HIN.out.2.2.1.cell (j := 0) rfl
      have e64 : ∀ args w, (callFunc 133 args).run Tryz.prog w = .ok (.enter 133 args) w := enters_of Tryz.func133 (by kernel_rfl) rfl
      have HB := show Hid (RowIs _ _ _ _) from HIN.out.2.2.1
      obtain ⟨pn, cn, hvn, hpn, _⟩ := Own.sl HIN.out.2.1 _ rfl
      obtain ⟨ln, hln⟩ : ∃ ln, (namesB N).length = ln := ⟨_, rfl⟩
      rw [hln] at hvn
      have HPN : Hid (BytesAt wr pn (namesB N) ∧ (namesB N).length = ln) := ⟨hpn, hln⟩
      have hlnb : ln ≤ 600000 := by have h1 := namesB_len N HNL.out.2; omega
      obtain ⟨G, hG⟩ : ∃ G, whichs N l = G := ⟨_, rfl⟩
      have HG : Hid (whichs N l = G) := hG
      have HGI : Hid ((∀ z ∈ G, -9223372036854775808 ≤ z ∧ z ≤ 9223372036854775807) ∧ G.length = i ∧ (runsB G).length ≤ 30000000) := by
        rw [← hG]
        have h1 := whichs_int N l (by omega)
        have h2 : (whichs N l).length = i := by rw [whichs, List.length_map]; exact HL.out.2.1
        exact ⟨h1, h2, runsB_len _ h1 (by omega)⟩
      clear hpn hln hG
      have HIX : Hid (NumAt wr mb N ∧ RowIs wr (mb + 1) 159 [.map (some mb)] ∧ After w wr) := ⟨HIN.out.1, HIN.out.2.2.1, HIN.out.2.2.2⟩
      clear HIN
      subst hvn
      go_wp2_with (first
        | (at_builtin; have _u := H6.out; clear _u; refine wpList_append_any rfl _ _ rfl w.heap.size v4 (uintB N.length ++ namesB N) rfl (HO4.out.below (After.trans H5.out.2.2 H6.out.2.2) (Nat.le_refl _)) p6 c6 (runsB G) k6 H6.out.2.1 rfl H6.out.1 (by have h2 := uintB_len10 N.length (by omega); have h3 := HGI.out.2.2; have h4 := HPN.out.2; rw [List.length_append]; omega) (by have h1 := HA4.out.size; have h2 := H5.out.2.2.size; have h3 := H6.out.2.2.size; omega) ?_; intro v7 w7 ho7 hg7; have HO7 := show Hid (Own w7 w.heap.size v7 (uintB N.length ++ namesB N ++ runsB G)) from ho7; have HA7 := show Hid (After w w7) from after_grown (After.trans HA4.out (After.trans H5.out.2.2 H6.out.2.2)) hg7 (Nat.le_refl _) (fun k hk => (World.ownsRow.lt HO4.out k hk).1); clear ho7 hg7)
        | (go_at_call 98; refine Calls.mono (runs_k p5 c5 _ G HGI.out.1 HGI.out.2.1 (by omega) w5 H5.out.1 H5.out.2.1) ?_; rintro e w6 ⟨p6, k6, c6, rfl, hp6, hk6, ha6⟩; have H6 := show Hid (BytesAt w6 p6 (runsB G) ∧ (runsB G).length = k6 ∧ After w5 w6) from ⟨hp6, hk6, ha6⟩; clear hp6 hk6 ha6)
        | (go_at_call 99; refine Calls.mono (numbers_k (fun x => (N.idxOf x.name : Int)) G 133 #[.pointer (some ⟨mb + 1, 0, none⟩)] e64 ao _ ca l HG.out HL.out.2.1 (by omega) w4 (HL.out.1.after HA4.out) (fun W y hW hy => nameOf y (by have := HL.out.2.2 y hy; unfold maxLen; omega) (mb + 1) mb N (by rw [← HNA.out]; exact (mem_firsts l _).2 ⟨y, hy, rfl⟩) W ((HB4.out.below hW HB4.out.lt)) (HN4.out.after hW))) ?_; rintro e w5 ⟨p5, c5, rfl, hp5, hlt5, ha5⟩; have H5 := show Hid (IntsAt w5 p5 G ∧ (∀ a, p5 = some a → a.block < w5.heap.size) ∧ After w4 w5) from ⟨hp5, hlt5, ha5⟩; clear hp5 hlt5 ha5)
        | (at_builtin; refine wpList_append_any rfl _ _ rfl w.heap.size v3 (uintB N.length) rfl HO3.out pn cn (namesB N) ln HPN.out.2 rfl (HPN.out.1.after HA03.out) (by have h2 := uintB_len10 N.length (by omega); rw [HPN.out.2]; omega) HA3.out.size ?_; intro v4 w4 ho4 hg4; have HO4 := show Hid (Own w4 w.heap.size v4 (uintB N.length ++ namesB N)) from ho4; have HN4 := show Hid (NumAt w4 mb N) from HN3.out.same (hg4.block mb HN3.out.lt (fun e => num_apart HN3.out HO3.out e.symm)); have hb4 : RowIs w4 (mb + 1) 159 [.map (some mb)] := (hg4.block (mb + 1) HB3.out.lt (fun e => row_apart HB3.out (by decide) HO3.out e.symm)).trans HB3.out; have HB4 := show Hid (RowIs _ _ _ _) from hb4; have HA4 := show Hid (After w w4) from after_grown HA3.out hg4 (Nat.le_refl _) (fun k hk => (World.ownsRow.lt HO3.out k hk).1); clear ho4 hg4 hb4)
        | (at_len; refine wpList_numLen rfl (.tmp 37) rfl (mb := mb) (N := N) rfl HIX.out.1 ?_)
        | (go_at_call 69; refine Calls.mono (uint_any N.length (by omega) wr) ?_; rintro e w3 ⟨v3, rfl, ho3, ha3⟩; have HO3 := show Hid (Own w3 w.heap.size v3 (uintB N.length)) from ho3.mono HIX.out.2.2.size; have HN3 := show Hid (NumAt w3 mb N) from HIX.out.1.after ha3; have HB3 := show Hid (RowIs w3 (mb + 1) 159 [.map (some mb)]) from HIX.out.2.1.below ha3 HIX.out.2.1.lt; have HA3 := show Hid (After w w3) from After.trans HIX.out.2.2 ha3; have HA03 := show Hid (After wr w3) from ha3; clear ho3 ha3))
      go_ret
      exact ⟨_, rfl, by unfold layNB; rw [HNA.out, HG.out]; exact HO7.out, HA7.out⟩
end Go.Proofs.YtgmdolpjkaajfaaGreatDoor
namespace Go.Proofs.YtgmdolpjkaajfaaGreatDoor
open Go.RowKit Go.Maps Leb
def hasT (x : Opn) : Bool := decide (x.kind = 1) || decide (x.kind = 4)
def textsB (l : List Opn) : List UInt8 := (l.map fun x => if hasT x = true then textB x.text else []).flatten
theorem textsB_succ {l : List Opn} {i : Nat} {x : Opn} (hx : l[i]? = some x) : textsB (l.take (i + 1)) = textsB (l.take i) ++ (if hasT x = true then textB x.text else []) := by
  unfold textsB; rw [List.take_add_one, hx]; simp
theorem textsB_len : ∀ (l : List Opn), (∀ x ∈ l, x.text.length ≤ 2000) → (textsB l).length ≤ l.length * 2010
  | [], _ => by simp [textsB]
  | x :: l, h => by
    have h1 := textB_len x.text (h x (by simp))
    have h2 := textsB_len l (fun z hz => h z (by simp [hz]))
    unfold textsB at h2 ⊢
    rw [List.map_cons, List.flatten_cons, List.length_append, List.length_cons]
    split
    · omega
    · rw [List.length_nil]; omega
def layB (l : List Opn) : List UInt8 := runsB (l.map (·.kind)) ++ layNB l ++ runsB (diffs (l.map (·.pos))) ++ runsB (l.map (·.by_)) ++ textsB l
theorem layNB_len (l : List Opn) (hn : l.length ≤ 256) (h : ∀ x ∈ l, x.name.length ≤ 2000) : (layNB l).length ≤ 40000000 := by
  have h0 := firsts_len l
  have h1 := namesB_len (firsts l) (fun y hy => by obtain ⟨x, hx, rfl⟩ := (mem_firsts _ y).1 hy; exact h x hx)
  have h2 := uintB_len10 (firsts l).length (by omega)
  have h3 := runsB_len (whichs (firsts l) l) (whichs_int _ _ (by omega)) (by rw [whichs, List.length_map]; omega)
  unfold layNB
  rw [List.length_append, List.length_append]
  omega
theorem layNames_k (ao : Option Addr) (n ca : Nat) (l : List Opn) (hl : l.length = n) (hn : n ≤ 256) (hnm : ∀ x ∈ l, x.name.length ≤ 2000) (w : World) (hA : OpsAt w ao l) :
    Calls Tryz.prog 101 #[.slice ao n ca] w fun e w' => ∃ (o : Option Addr) (k c : Nat), e = .returned (.slice o k c) ∧ BytesAt w' o (layNB l) ∧ (layNB l).length = k ∧ After w w' :=
  (layNames_any ao n ca l hl hn hnm w hA).mono (fun e w' ⟨v, he, ho, ha⟩ => by
    obtain ⟨o, c, hv, hat, _⟩ := Own.sl ho _ rfl
    exact ⟨o, _, c, by rw [he, hv], hat, rfl, ha⟩)
theorem text_k (s : List UInt8) (hs : s.length ≤ 2000) (w : World) : Calls Tryz.prog 68 #[.string (strOf s)] w fun e w' => ∃ (o : Option Addr) (k c : Nat), e = .returned (.slice o k c) ∧ BytesAt w' o (textB s) ∧ (textB s).length = k ∧ After w w' :=
  (text_any s (by omega) w).mono (fun e w' ⟨v, he, ho, ha⟩ => by
    obtain ⟨o, c, hv, hat, _⟩ := Own.sl ho _ rfl
    exact ⟨o, _, c, by rw [he, hv], hat, rfl, ha⟩)
/-- Operations that may be laid: few, and small. -/
structure Small (l : List Opn) (n : Nat) : Prop where
  len : l.length = n
  few : n ≤ 256
  ok : ∀ x ∈ l, x.Ok
  nm : ∀ x ∈ l, x.name.length ≤ 2000
  tx : ∀ x ∈ l, x.text.length ≤ 2000
structure LyI (w : World) (P : List UInt8) (l : List Opn) (i : Nat) (v : Value) (wr : World) : Prop where
  own : Own wr w.heap.size v (P ++ textsB (l.take i))
  aft : After w wr

set_option maxRecDepth 100000 in
set_option maxHeartbeats 3200000 in
theorem lay_any (ao : Option Addr) (n ca : Nat) (l : List Opn) (hl : Small l n) (w : World) (hA : OpsAt w ao l) :
    Calls Tryz.prog 66 #[.slice ao n ca] w fun e w' => ∃ v, e = .returned v ∧ Own w' w.heap.size v (layB l) ∧ After w w' := by
  have HL : Hid (OpsAt w ao l ∧ Small l n) := ⟨hA, hl⟩
  have hn := hl.few
  have e42 : ∀ args w, (callFunc 100 args).run Tryz.prog w = .ok (.enter 100 args) w := enters_of Tryz.func100 (by kernel_rfl) rfl
  have e45 : ∀ args w, (callFunc 103 args).run Tryz.prog w = .ok (.enter 103 args) w := enters_of Tryz.func103 (by kernel_rfl) rfl
  have e46 : ∀ args w, (callFunc 104 args).run Tryz.prog w = .ok (.enter 104 args) w := enters_of Tryz.func104 (by kernel_rfl) rfl
  obtain ⟨K, hK⟩ : ∃ K, l.map (·.kind) = K := ⟨_, rfl⟩
  obtain ⟨P, hP⟩ : ∃ P, l.map (·.pos) = P := ⟨_, rfl⟩
  obtain ⟨Y, hY⟩ : ∃ Y, l.map (·.by_) = Y := ⟨_, rfl⟩
  have HK : Hid (l.map (·.kind) = K) := hK
  have HP : Hid (l.map (·.pos) = P) := hP
  have HY : Hid (l.map (·.by_) = Y) := hY
  have HKI : Hid ((∀ z ∈ K, -9223372036854775808 ≤ z ∧ z ≤ 9223372036854775807) ∧ K.length = n ∧ (runsB K).length ≤ 30000000) := by
    have h1 : ∀ z ∈ K, -9223372036854775808 ≤ z ∧ z ≤ 9223372036854775807 := fun z hz => by rw [← hK] at hz; obtain ⟨y, hy, rfl⟩ := List.mem_map.1 hz; exact ⟨(hl.ok y hy).k0, (hl.ok y hy).k1⟩
    have h2 : K.length = n := by rw [← hK, List.length_map]; exact hl.len
    exact ⟨h1, h2, runsB_len _ h1 (by omega)⟩
  have HYI : Hid ((∀ z ∈ Y, -9223372036854775808 ≤ z ∧ z ≤ 9223372036854775807) ∧ Y.length = n ∧ (runsB Y).length ≤ 30000000) := by
    have h1 : ∀ z ∈ Y, -9223372036854775808 ≤ z ∧ z ≤ 9223372036854775807 := fun z hz => by rw [← hY] at hz; obtain ⟨y, hy, rfl⟩ := List.mem_map.1 hz; exact ⟨(hl.ok y hy).b0, (hl.ok y hy).b1⟩
    have h2 : Y.length = n := by rw [← hY, List.length_map]; exact hl.len
    exact ⟨h1, h2, runsB_len _ h1 (by omega)⟩
  have HPI : Hid (P.length = n ∧ (runsB (diffs P)).length ≤ 30000000) := by
    have h2 : P.length = n := by rw [← hP, List.length_map]; exact hl.len
    exact ⟨h2, runsB_len _ (diffs_int P) (by rw [diffs_len]; omega)⟩
  have HNL : Hid ((layNB l).length ≤ 40000000) := layNB_len l (by rw [hl.len]; exact hn) hl.nm
  have HB : Hid (layB l = runsB K ++ layNB l ++ runsB (diffs P) ++ runsB Y ++ textsB l) := by rw [← hK, ← hP, ← hY]; rfl
  clear hA hl hK hP hY
  go_enter Tryz.func66, Tryz.ntmps66
  go_wp2_with (first
    | (at_builtin; have _u := H11.out; clear _u; refine wpList_append_any rfl _ _ rfl w.heap.size v8 (runsB K ++ layNB l ++ runsB (diffs P)) rfl (HO8.out.below (After.trans H10.out.2.2 H11.out.2.2) (Nat.le_refl _)) p11 c11 (runsB Y) k11 H11.out.2.1 rfl H11.out.1 (by have h1 := HKI.out.2.2; have h2 := HNL.out; have h3 := HPI.out.2; have h4 := HYI.out.2.2; rw [List.length_append, List.length_append]; omega) (by have h1 := HA8.out.size; have h2 := H10.out.2.2.size; have h3 := H11.out.2.2.size; omega) ?_; intro v12 w12 ho hg; have HO12 := show Hid (Own w12 w.heap.size v12 (runsB K ++ layNB l ++ runsB (diffs P) ++ runsB Y)) from ho; have HA12 := show Hid (After w w12) from after_grown (After.trans HA8.out (After.trans H10.out.2.2 H11.out.2.2)) hg (Nat.le_refl _) (fun j hj => (World.ownsRow.lt HO8.out j hj).1); clear ho hg)
    | (go_at_call 98; have _u := H10.out; clear _u; refine Calls.mono (runs_k p10 c10 n Y HYI.out.1 HYI.out.2.1 (by omega) w10 H10.out.1 H10.out.2.1) ?_; rintro e w11 ⟨p11, k11, c11, rfl, hp, hk, ha⟩; have H11 := show Hid (BytesAt w11 p11 (runsB Y) ∧ (runsB Y).length = k11 ∧ After w10 w11) from ⟨hp, hk, ha⟩; clear hp hk ha)
    | (go_at_call 99; have _u := HO8.out; clear _u; refine Calls.mono (numbers_k (·.by_) Y 104 #[] e46 ao n ca l HY.out HL.out.2.len (by omega) w8 (HL.out.1.after HA8.out) (fun W y hW hy => byOf y W)) ?_; rintro e w10 ⟨p10, c10, rfl, hp, hlt, ha⟩; have H10 := show Hid (IntsAt w10 p10 Y ∧ (∀ a, p10 = some a → a.block < w10.heap.size) ∧ After w8 w10) from ⟨hp, hlt, ha⟩; clear hp hlt ha)
    | (at_builtin; have _u := H7.out; clear _u; refine wpList_append_any rfl _ _ rfl w.heap.size v4 (runsB K ++ layNB l) rfl (HO4.out.below (After.trans H6.out.2.2 H7.out.2.2) (Nat.le_refl _)) p7 c7 (runsB (diffs P)) k7 H7.out.2.1 rfl H7.out.1 (by have h1 := HKI.out.2.2; have h2 := HNL.out; have h3 := HPI.out.2; rw [List.length_append]; omega) (by have h1 := HA4.out.size; have h2 := H6.out.2.2.size; have h3 := H7.out.2.2.size; omega) ?_; intro v8 w8 ho hg; have HO8 := show Hid (Own w8 w.heap.size v8 (runsB K ++ layNB l ++ runsB (diffs P))) from ho; have HA8 := show Hid (After w w8) from after_grown (After.trans HA4.out (After.trans H6.out.2.2 H7.out.2.2)) hg (Nat.le_refl _) (fun j hj => (World.ownsRow.lt HO4.out j hj).1); clear ho hg)
    | (go_at_call 102; refine Calls.mono (deltas_k p6 c6 n P HPI.out.1 (by omega) w6 H6.out.1) ?_; rintro e w7 ⟨p7, k7, c7, rfl, hp, hk, ha⟩; have H7 := show Hid (BytesAt w7 p7 (runsB (diffs P)) ∧ (runsB (diffs P)).length = k7 ∧ After w6 w7) from ⟨hp, hk, ha⟩; clear hp hk ha)
    | (go_at_call 99; have _u := HO4.out; clear _u; refine Calls.mono (numbers_k (·.pos) P 103 #[] e45 ao n ca l HP.out HL.out.2.len (by omega) w4 (HL.out.1.after HA4.out) (fun W y hW hy => posOf y W)) ?_; rintro e w6 ⟨p6, c6, rfl, hp, hlt, ha⟩; have H6 := show Hid (IntsAt w6 p6 P ∧ (∀ a, p6 = some a → a.block < w6.heap.size) ∧ After w4 w6) from ⟨hp, hlt, ha⟩; clear hp hlt ha)
    | (at_builtin; have _u := H3.out; clear _u; refine wpList_append_any rfl _ _ rfl w.heap.size v2 (runsB K) rfl (HO2.out.below H3.out.2.2 (Nat.le_refl _)) p3 c3 (layNB l) k3 H3.out.2.1 rfl H3.out.1 (by have h1 := HKI.out.2.2; have h2 := HNL.out; omega) (by have h1 := HA2.out.size; have h2 := H3.out.2.2.size; omega) ?_; intro v4 w4 ho hg; have HO4 := show Hid (Own w4 w.heap.size v4 (runsB K ++ layNB l)) from ho; have HA4 := show Hid (After w w4) from after_grown (After.trans HA2.out H3.out.2.2) hg (Nat.le_refl _) (fun j hj => (World.ownsRow.lt HO2.out j hj).1); clear ho hg)
    | (go_at_call 101; refine Calls.mono (layNames_k ao n ca l HL.out.2.len hn HL.out.2.nm w2 (HL.out.1.after HA2.out)) ?_; rintro e w3 ⟨p3, k3, c3, rfl, hp, hk, ha⟩; have H3 := show Hid (BytesAt w3 p3 (layNB l) ∧ (layNB l).length = k3 ∧ After w2 w3) from ⟨hp, hk, ha⟩; clear hp hk ha)
    | (go_at_call 98; refine Calls.mono (runs_v p1 c1 n K HKI.out.1 HKI.out.2.1 (by omega) w1 H1.out.1 H1.out.2.1) ?_; rintro e w2 ⟨v2, rfl, ho, ha⟩; have HO2 := show Hid (Own w2 w.heap.size v2 (runsB K)) from ho.mono H1.out.2.2.size; have HA2 := show Hid (After w w2) from After.trans H1.out.2.2 ha; clear ho ha)
    | (go_at_call 99; refine Calls.mono (numbers_k (·.kind) K 100 #[] e42 ao n ca l HK.out HL.out.2.len (by omega) w HL.out.1 (fun W y hW hy => kindOf y W)) ?_; rintro e w1 ⟨p1, c1, rfl, hp, hlt, ha⟩; have H1 := show Hid (IntsAt w1 p1 K ∧ (∀ a, p1 = some a → a.block < w1.heap.size) ∧ After w w1) from ⟨hp, hlt, ha⟩; clear hp hlt ha))
  obtain ⟨Q0, hQ⟩ : ∃ Q0, runsB K ++ layNB l ++ runsB (diffs P) ++ runsB Y = Q0 := ⟨_, rfl⟩
  have HQ : Hid (layB l = Q0 ++ textsB l ∧ Q0.length ≤ 140000000) := by
    refine ⟨by rw [HB.out, hQ], ?_⟩
    rw [← hQ, List.length_append, List.length_append, List.length_append]
    have h1 := HKI.out.2.2; have h2 := HNL.out; have h3 := HPI.out.2; have h4 := HYI.out.2.2
    omega
  have HQ0 : Hid (LyI w Q0 l 0 v12 w12) := ⟨by rw [← hQ]; simpa [textsB] using HO12.out, HA12.out⟩
  clear hQ HO12 HA12 HB HK HP HY HKI HYI HPI HNL HO8 HO4 HO2 HA8 HA4 HA2 H1 H3 H6 H7 H10 H11 e42 e45 e46
  go_loopw [3, 25] (fun vv vi wr => ∃ i : Nat, vi = .int .i64 (i : Int) ∧ i ≤ n ∧ Hid (LyI w Q0 l i vv wr)) (fun _ vi _ => n - (intOf vi).toNat)
  case atStart => exact ⟨0, rfl, Nat.zero_le _, HQ0.out⟩
  case round =>
    obtain ⟨i, rfl, hin, HI⟩ := hrel
    obtain ⟨av, hav⟩ : ∃ av, av = u3 := ⟨_, rfl⟩
    rw [← hav] at HI
    rw [← hav]
    clear hav
    by_cases hlt : i < n
    · have hii : (i : Int) < (n : Int) := by omega
      obtain ⟨x, hx⟩ : ∃ x, l[i]? = some x := ⟨_, List.getElem?_eq_getElem (by rw [HL.out.2.len]; exact hlt)⟩
      have HX : Hid (l[i]? = some x) := hx
      have HXT : Hid (x.text.length ≤ 2000) := HL.out.2.tx x (List.mem_of_getElem? hx)
      obtain ⟨b, o, hao, hrg⟩ := HL.out.1 (fun e => by rw [e] at hx; simp at hx)
      subst hao
      have HR : Hid (wr.rangeAt b (o + i * 5) (oc x)) := range_after (hrg i x hx) HI.out.aft
      have HA2 := show Hid (After wr (wr.alloc (.cells #[.int .i64 x.kind, .string (strOf x.name), .int .i64 x.pos, .int .i64 x.by_, .string (strOf x.text)] 46))) from after_alloc (After.refl wr) _
      clear hx hrg
      cases ht : (decide (x.kind = 1) || decide (x.kind = 4)) with
      | false =>
        have HT : Hid (hasT x = false) := ht
        go_wp2_with (first
          | (refine wpList_load_mid rfl 46 (.tmp 27) rfl b (o + i * 5) rfl [.int .i64 x.kind, .string (strOf x.name), .int .i64 x.pos, .int .i64 x.by_, .string (strOf x.text)] _ HR.out Tryz.underlying46 rfl size23 ?_)
          | (go_at_call 105; refine Calls.mono (hasText_any x.kind _) ?_; rintro e wq ⟨rfl, hwq⟩; rw [ht]; have hwp := hwq.symm; clear hwq; subst hwp))
        go_roundw
        case rel => exact ⟨i + 1, by go_num, by omega, by rw [textsB_succ HX.out, HT.out]; simpa using HI.out.own.below HA2.out (Nat.le_refl _), After.trans HI.out.aft HA2.out⟩
        case measure => simp [intOf]; omega
      | true =>
        have HT : Hid (hasT x = true) := ht
        have HTL : Hid ((textsB (l.take i)).length ≤ 600000) := by
          have h1 := textsB_len (l.take i) (fun z hz => HL.out.2.tx z (List.mem_of_mem_take hz))
          rw [List.length_take] at h1
          unfold Hid; omega
        go_wp2_with (first
          | (refine wpList_load_mid rfl 46 (.tmp 27) rfl b (o + i * 5) rfl [.int .i64 x.kind, .string (strOf x.name), .int .i64 x.pos, .int .i64 x.by_, .string (strOf x.text)] _ HR.out Tryz.underlying46 rfl size23 ?_)
          | (go_at_call 105; refine Calls.mono (hasText_any x.kind _) ?_; rintro e wq ⟨rfl, hwq⟩; rw [ht]; have hwp := hwq.symm; clear hwq; subst hwp)
          | (go_at_call 68; refine Calls.mono (text_k x.text HXT.out _) ?_; rintro e w3 ⟨p3, k3, c3, rfl, hp, hk, ha⟩; have H3 := show Hid (BytesAt w3 p3 (textB x.text) ∧ (textB x.text).length = k3 ∧ After wr w3) from ⟨hp, hk, After.trans HA2.out ha⟩; clear hp hk ha)
          | (at_builtin; refine wpList_append_any rfl _ _ rfl w.heap.size av (Q0 ++ textsB (l.take i)) rfl (HI.out.own.below H3.out.2.2 (Nat.le_refl _)) p3 c3 (textB x.text) k3 H3.out.2.1 rfl H3.out.1 (by have h1 := HQ.out.2; have h2 := HTL.out; have h3 := textB_len x.text HXT.out; rw [List.length_append]; omega) (by have h1 := HI.out.aft.size; have h2 := H3.out.2.2.size; omega) ?_; intro v4 w4 ho hg; have HO4 := show Hid (Own w4 w.heap.size v4 (Q0 ++ textsB (l.take i) ++ textB x.text)) from ho; have HA4 := show Hid (After w w4) from after_grown (After.trans HI.out.aft H3.out.2.2) hg (Nat.le_refl _) (fun j hj => (World.ownsRow.lt HI.out.own j hj).1); clear ho hg))
        go_roundw
        case rel => exact ⟨i + 1, by go_num, by omega, by rw [textsB_succ HX.out, HT.out, if_pos rfl, ← List.append_assoc]; exact HO4.out, HA4.out⟩
        case measure => simp [intOf]; omega
    · obtain rfl : i = n := by omega
      have hii : ¬ (i : Int) < (i : Int) := by omega
      go_wp2
      go_ret
      refine ⟨_, rfl, ?_, HI.out.aft⟩
      have h1 := HI.out.own
      rw [← HL.out.2.len, List.take_length] at h1
      rw [HQ.out.1]
      exact h1

/-- What Put answers. -/
def putE (l : List Opn) : Nat := if 256 < l.length then 5 else if l.all mayB = true then 0 else 40
def putBs (l : List Opn) : List UInt8 := if putE l = 0 then layB l else []
theorem may_small {l : List Opn} {n : Nat} (hl : l.length = n) (hn : n ≤ 256) (hok : ∀ x ∈ l, x.Ok) (h : l.all mayB = true) : Small l n := by
  have hm : ∀ x ∈ l, mayB x = true := fun x hx => List.all_eq_true.1 h x hx
  refine ⟨hl, hn, hok, fun x hx => ?_, fun x hx => ?_⟩
  · have h1 := hm x hx
    unfold mayB nmB at h1
    simp only [Bool.and_eq_true, decide_eq_true_eq] at h1
    omega
  · have h1 := hm x hx
    unfold mayB fitsB at h1
    grind
structure PtI (w : World) (l : List Opn) (i : Nat) (wr : World) : Prop where
  may : (l.take i).all mayB = true
  aft : After w wr
set_option maxRecDepth 100000 in
set_option maxHeartbeats 3200000 in
theorem put_any (ao : Option Addr) (n ca : Nat) (l : List Opn) (hl : l.length = n) (hok : ∀ x ∈ l, x.Ok) (hbig : n ≤ 1152921504606846976) (w : World) (hA : OpsAt w ao l) :
    Calls Tryz.prog 42 #[.slice ao n ca] w fun e w' => ∃ v, e = .returned (.tuple #[v, .int .i64 (putE l : Int)]) ∧ Own w' w.heap.size v (putBs l) ∧ After w w' := by
  have HL : Hid (OpsAt w ao l ∧ l.length = n ∧ ∀ x ∈ l, x.Ok) := ⟨hA, hl, hok⟩
  by_cases hn : n ≤ 256
  · have hnz : ¬ (n : Int) > 256 := by omega
    clear hA hl hok hbig
    go_enter Tryz.func42, Tryz.ntmps42
    go_wp2_with fail
    go_loopw [12] (fun vi wr => ∃ i : Nat, vi = .int .i64 (i : Int) ∧ i ≤ n ∧ Hid (PtI w l i wr)) (fun vi _ => n - (intOf vi).toNat)
    case atStart => exact ⟨0, rfl, Nat.zero_le _, by simp, After.refl w⟩
    case round =>
      obtain ⟨i, rfl, hin, HI⟩ := hrel
      by_cases hlt : i < n
      · have hii : (i : Int) < (n : Int) := by omega
        obtain ⟨x, hx⟩ : ∃ x, l[i]? = some x := ⟨_, List.getElem?_eq_getElem (by rw [HL.out.2.1]; exact hlt)⟩
        have HX : Hid (l[i]? = some x) := hx
        have HXO : Hid x.Ok := HL.out.2.2 x (List.mem_of_getElem? hx)
        have HXM : Hid (x ∈ l) := List.mem_of_getElem? hx
        obtain ⟨b, o, hao, hrg⟩ := HL.out.1 (fun e => by rw [e] at hx; simp at hx)
        subst hao
        have HR : Hid (wr.rangeAt b (o + i * 5) (oc x)) := range_after (hrg i x hx) HI.out.aft
        have HA2 := show Hid (After wr (wr.alloc (.cells #[.int .i64 x.kind, .string (strOf x.name), .int .i64 x.pos, .int .i64 x.by_, .string (strOf x.text)] 46))) from after_alloc (After.refl wr) _
        clear hx hrg
        cases hm : mayB x with
        | true =>
          go_wp2_with (first
            | (refine wpList_load_mid rfl 46 (.tmp 14) rfl b (o + i * 5) rfl [.int .i64 x.kind, .string (strOf x.name), .int .i64 x.pos, .int .i64 x.by_, .string (strOf x.text)] _ HR.out Tryz.underlying46 rfl size23 ?_)
            | (go_at_call 65; refine Calls.mono (check_any x HXO.out _) ?_; rintro e w3 ⟨rfl, ha⟩; rw [hm]; simp only [errOf, if_true]; have HA3 := show Hid (After w w3) from After.trans HI.out.aft (After.trans HA2.out ha); clear ha))
          go_roundw
          case rel => exact ⟨i + 1, by go_num, by omega, by rw [List.take_add_one, HX.out]; simp [HI.out.may, hm], HA3.out⟩
          case measure => simp [intOf]; omega
        | false =>
          have HE : Hid (putE l = 40) := by
            unfold Hid putE
            rw [if_neg (by rw [HL.out.2.1]; omega), if_neg]
            intro h
            rw [List.all_eq_true.1 h x HXM.out] at hm
            cases hm
          have HPB : Hid (putBs l = []) := by unfold Hid putBs; rw [HE.out]; rfl
          go_wp2_with (first
            | (refine wpList_load_mid rfl 46 (.tmp 14) rfl b (o + i * 5) rfl [.int .i64 x.kind, .string (strOf x.name), .int .i64 x.pos, .int .i64 x.by_, .string (strOf x.text)] _ HR.out Tryz.underlying46 rfl size23 ?_)
            | (go_at_call 65; refine Calls.mono (check_any x HXO.out _) ?_; rintro e w3 ⟨rfl, ha⟩; rw [hm]; simp only [errOf]; have HA3 := show Hid (After w w3) from After.trans HI.out.aft (After.trans HA2.out ha); clear ha))
          go_ret2
          rw [HE.out, HPB.out]
          exact ⟨_, rfl, Own.nil _ _, HA3.out⟩
      · obtain rfl : i = n := by omega
        have hii : ¬ (i : Int) < (i : Int) := by omega
        have HMA : Hid (l.all mayB = true) := by have h1 := HI.out.may; rw [← HL.out.2.1, List.take_length] at h1; exact h1
        have HE : Hid (putE l = 0) := by unfold Hid putE; rw [if_neg (by rw [HL.out.2.1]; omega), if_pos HMA.out]
        have HPB : Hid (putBs l = layB l) := by unfold Hid putBs; rw [HE.out]; rfl
        have HSM : Hid (Small l i) := may_small HL.out.2.1 hn HL.out.2.2 HMA.out
        go_wp2_with (go_at_call 66; refine Calls.mono (lay_any ao i ca l HSM.out wr (HL.out.1.after HI.out.aft)) ?_; rintro e w3 ⟨v3, rfl, ho, ha⟩; have HO3 := show Hid (Own w3 w.heap.size v3 (layB l)) from ho.mono HI.out.aft.size; have HA3 := show Hid (After w w3) from After.trans HI.out.aft ha; clear ho ha)
        go_ret2
        rw [HE.out, HPB.out]
        exact ⟨_, rfl, HO3.out, HA3.out⟩
  · have hnz : (n : Int) > 256 := by omega
    have HE : Hid (putE l = 5) := by unfold Hid putE; rw [if_pos (by rw [hl]; omega)]
    have HPB : Hid (putBs l = []) := by unfold Hid putBs; rw [HE.out]; rfl
    clear hA hl hok hbig
    go_enter Tryz.func42, Tryz.ntmps42
    go_wp2
    go_ret2
    rw [HE.out, HPB.out]
    exact ⟨_, rfl, Own.nil _ _, After.refl w⟩
end Go.Proofs.YtgmdolpjkaajfaaGreatDoor
namespace Go.Proofs.YtgmdolpjkaajfaaGreatDoor
open Go.RowKit Leb
/-- A taker in block tb: the bytes that are left, and whether something failed. -/
structure Tk (w0 : World) (tb : Nat) (bs : List UInt8) (fl : Bool) (W : World) : Prop where
  ex : ∃ ao ca, RowIs W tb 165 [.slice ao bs.length ca, .bool fl] ∧ BytesAt w0 ao bs ∧ bs.length ≤ ca ∧ (ao = none → bs.length = 0)
  aft : After w0 W
  new : w0.heap.size ≤ tb
  big : bs.length ≤ 140737488355328
theorem Tk.lt {w0 : World} {tb : Nat} {bs : List UInt8} {fl : Bool} {W : World} (h : Tk w0 tb bs fl W) : tb < W.heap.size := by obtain ⟨_, _, h1, _⟩ := h.ex; exact h1.lt
theorem Tk.after {w0 : World} {tb : Nat} {bs : List UInt8} {fl : Bool} {W W' : World} (h : Tk w0 tb bs fl W) (ha : After W W') : Tk w0 tb bs fl W' := by
  obtain ⟨ao, ca, h1, h2⟩ := h.ex
  exact ⟨⟨ao, ca, h1.below ha h1.lt, h2⟩, After.trans h.aft ha, h.new, h.big⟩
theorem cutAt_none {ao : Option Addr} {k c : Nat} (h : cutAt ao k c = none) : ao = none := by
  unfold cutAt at h
  split at h
  · exact h
  · cases ao with
    | none => rfl
    | some a => simp at h

set_option maxRecDepth 100000 in
set_option maxHeartbeats 3200000 in
theorem passed_any {w0 W : World} {tb : Nat} {bs : List UInt8} (h : Tk w0 tb bs false W) (k q : Nat) (hk : k ≤ bs.length) :
    Calls Tryz.prog 145 #[.pointer (some ⟨tb, 0, none⟩), .int .i64 (k : Int), .int .i64 (q : Int)] W fun e w' => e = .returned (.tuple #[]) ∧ Tk w0 tb (bs.drop k) (decide (q ≠ 0)) w' ∧ But tb W w' := by
  obtain ⟨ao, ca, hr, hat, hc, hz⟩ := h.ex
  obtain ⟨n, hn⟩ : ∃ n, bs.length = n := ⟨_, rfl⟩
  have HT : Hid (Tk w0 tb bs false W ∧ bs.length = n ∧ BytesAt w0 ao bs) := ⟨h, hn, hat⟩
  rw [hn] at hr hc hz hk
  have HR : Hid (RowIs W tb 165 [.slice ao n ca, .bool false]) := hr
  have HCZ : Hid (n ≤ ca ∧ (ao = none → n = 0)) := ⟨hc, hz⟩
  have SF := fun W => slice_from ao n ca k hz hc hk W
  have c0 := hr.cell (j := 0) rfl
  have c1 := hr.cell (j := 1) rfl
  have f0 := hr.frozen 0
  have f1 := hr.frozen 1
  have HK : Hid (k ≤ n) := hk
  have END : Hid (∀ fl : Bool, Tk w0 tb (bs.drop k) fl ((W.setCell ⟨tb, 0, none⟩ (.slice (cutAt ao k ca) (n - k) (ca - k))).setCell ⟨tb, 1, none⟩ (.bool fl)) ∧ But tb W ((W.setCell ⟨tb, 0, none⟩ (.slice (cutAt ao k ca) (n - k) (ca - k))).setCell ⟨tb, 1, none⟩ (.bool fl))) := fun fl => by
    have hb : But tb W ((W.setCell ⟨tb, 0, none⟩ (.slice (cutAt ao k ca) (n - k) (ca - k))).setCell ⟨tb, 1, none⟩ (.bool fl)) := ((But.refl tb W).setCell 0 _).setCell 1 _
    have hl : (bs.drop k).length = n - k := by rw [List.length_drop, hn]
    refine ⟨⟨⟨cutAt ao k ca, ca - k, ?_, hat.cut k ca (by rw [hn]; exact hc), by rw [hl]; omega, fun e => by rw [hl]; have := hz (cutAt_none e); omega⟩, Below.setCell (Below.setCell h.aft (p := ⟨tb, 0, none⟩) h.new _) (p := ⟨tb, 1, none⟩) h.new _, h.new, by rw [hl]; have := h.big; omega⟩, hb⟩
    rw [hl]
    exact (hr.set 0 _).set 1 _
  clear h hr hat hc hz hn
  by_cases hq : q = 0
  · subst hq
    go_enter Tryz.func145, Tryz.ntmps145
    go_wp2
    go_end0
    exact ⟨rfl, END.out false⟩
  · have hqb : ((q : Int) == 0) = false := beq_eq_false_iff_ne.2 (by omega)
    have hqz : ¬ (q : Int) = 0 := by omega
    have hqn : ((q : Int) != 0) = true := by simp [bne, hqb]
    go_enter Tryz.func145, Tryz.ntmps145
    go_wp2
    go_end0
    rw [decide_eq_true hq]
    exact ⟨rfl, END.out true⟩

def colM (G : List UInt8 → List Int × Nat × Nat) (bs : List UInt8) (fl : Bool) : List Int × List UInt8 × Bool := if fl then ([], bs, true) else ((G bs).1, bs.drop (G bs).2.1, decide ((G bs).2.2 ≠ 0))
set_option maxRecDepth 100000 in
set_option maxHeartbeats 3200000 in
theorem column_any (G : List UInt8 → List Int × Nat × Nat) (K : Nat) (heK : ∀ args w, (callFunc K args).run Tryz.prog w = .ok (.enter K args) w) (hGk : ∀ bs, (G bs).2.1 ≤ bs.length)
    (hK : ∀ (W : World) (ao : Option Addr) (cap : Nat) (bs : List UInt8), bs.length ≤ 140737488355328 → BytesAt W ao bs → Calls Tryz.prog K #[.slice ao bs.length cap, .int .i64 256] W (GPost W (G bs)))
    {w0 W : World} {tb : Nat} {bs : List UInt8} {fl : Bool} (h : Tk w0 tb bs fl W) :
    Calls Tryz.prog 135 #[.pointer (some ⟨tb, 0, none⟩), .func (.func K) #[] #[]] W fun e w' => ∃ v, e = .returned v ∧ OwnI w' W.heap.size v (colM G bs fl).1 ∧ Tk w0 tb (colM G bs fl).2.1 (colM G bs fl).2.2 w' ∧ But tb W w' := by
  obtain ⟨ao, ca, hr, hat, hc, hz⟩ := h.ex
  have c0 := hr.cell (j := 0) rfl
  have c1 := hr.cell (j := 1) rfl
  have HT : Hid (Tk w0 tb bs fl W) := h
  cases fl with
  | true =>
    clear h hr hat hc hz hK hGk
    go_enter Tryz.func135, Tryz.ntmps135
    go_wp2
    go_ret
    exact ⟨_, rfl, OwnI.nil _ _, HT.out, But.refl _ _⟩
  | false =>
    have HC := show Hid _ from hK W ao ca bs h.big (hat.after h.aft)
    have HGK := show Hid _ from hGk bs
    obtain ⟨n, hn⟩ : ∃ n, bs.length = n := ⟨_, rfl⟩
    rw [hn] at c0 HC
    obtain ⟨u, hu⟩ : ∃ u, (G bs).2.1 = u := ⟨_, rfl⟩
    obtain ⟨q, hq⟩ : ∃ q, (G bs).2.2 = q := ⟨_, rfl⟩
    have HUQ : Hid (colM G bs false = ((G bs).1, bs.drop u, decide (q ≠ 0))) := by unfold colM; rw [hu, hq]; rfl
    have HUL : Hid (u ≤ bs.length) := by rw [← hu]; exact hGk bs
    have HGP : Hid (Calls Tryz.prog K #[.slice ao n ca, .int .i64 256] W fun x w' => ∃ v, x = .returned (.tuple #[v, .int .i64 (u : Int), .int .i64 (q : Int)]) ∧ OwnI w' W.heap.size v (G bs).1 ∧ After W w') := by rw [← hu, ← hq]; exact HC.out
    clear h hr hat hc hz hK hGk HC HGK hn hu hq
    go_enter Tryz.func135, Tryz.ntmps135
    go_wp2_with (first
      | (go_at_fn K; refine Calls.mono HGP.out ?_; rintro e w1 ⟨v1, rfl, ho, ha⟩; have H1 := show Hid (OwnI w1 W.heap.size v1 (G bs).1 ∧ After W w1) from ⟨ho, ha⟩; clear ho ha)
      | (go_at_call 145; refine Calls.mono (passed_any (HT.out.after H1.out.2) u q HUL.out) ?_; rintro e w2 ⟨rfl, ht, hb⟩; have H2 := show Hid (Tk w0 tb (bs.drop u) (decide (q ≠ 0)) w2 ∧ But tb w1 w2) from ⟨ht, hb⟩; clear ht hb))
    go_ret
    rw [HUQ.out]
    exact ⟨_, rfl, H1.out.1.but H2.out.2 HT.out.lt, H2.out.1, But.trans (But.of_below H1.out.2) H2.out.2⟩

def countM (bs : List UInt8) (fl : Bool) : Nat × List UInt8 × Bool := if fl then (0, bs, true) else if 256 < guV bs then (0, bs.drop (guK bs), true) else (guV bs, bs.drop (guK bs), decide (guE bs ≠ 0))
theorem Tk.flag {w0 W : World} {tb : Nat} {bs : List UInt8} {fl : Bool} (h : Tk w0 tb bs fl W) : Tk w0 tb bs true (W.setCell ⟨tb, 1, none⟩ (.bool true)) ∧ But tb W (W.setCell ⟨tb, 1, none⟩ (.bool true)) := by
  obtain ⟨ao, ca, hr, h2⟩ := h.ex
  have hb : But tb W (W.setCell ⟨tb, 1, none⟩ (.bool true)) := (But.refl tb W).setCell 1 _
  exact ⟨⟨⟨ao, ca, hr.set 1 _, h2⟩, Below.setCell h.aft (p := ⟨tb, 1, none⟩) h.new _, h.new, h.big⟩, hb⟩
set_option maxRecDepth 100000 in
set_option maxHeartbeats 3200000 in
theorem count_any {w0 W : World} {tb : Nat} {bs : List UInt8} {fl : Bool} (h : Tk w0 tb bs fl W) :
    Calls Tryz.prog 138 #[.pointer (some ⟨tb, 0, none⟩)] W fun e w' => e = .returned (.int .i64 ((countM bs fl).1 : Int)) ∧ Tk w0 tb (countM bs fl).2.1 (countM bs fl).2.2 w' ∧ But tb W w' := by
  obtain ⟨ao, ca, hr, hat, hc, hz⟩ := h.ex
  have c0 := hr.cell (j := 0) rfl
  have c1 := hr.cell (j := 1) rfl
  have HT : Hid (Tk w0 tb bs fl W) := h
  cases fl with
  | true =>
    clear h hr hat hc hz
    go_enter Tryz.func138, Tryz.ntmps138
    go_wp2
    go_ret
    exact ⟨rfl, HT.out, But.refl _ _⟩
  | false =>
    obtain ⟨m, hm⟩ : ∃ m, guV bs = m := ⟨_, rfl⟩
    obtain ⟨u, hu⟩ : ∃ u, guK bs = u := ⟨_, rfl⟩
    obtain ⟨q, hq⟩ : ∃ q, guE bs = q := ⟨_, rfl⟩
    have HC := show Hid _ from gu_0 ao ca hc W (hat.after h.aft) hm hu hq
    obtain ⟨n, hn⟩ : ∃ n, bs.length = n := ⟨_, rfl⟩
    rw [hn] at c0 HC
    have hml : m < 18446744073709551616 := by rw [← hm]; exact guV_lt bs
    have HUL : Hid (u ≤ bs.length) := by rw [← hu]; exact guK_le bs
    have HM : Hid (countM bs false = if 256 < m then (0, bs.drop u, true) else (m, bs.drop u, decide (q ≠ 0))) := by unfold countM; rw [hm, hu, hq]; rfl
    clear h hr hat hc hz hn hm hu hq
    by_cases h256 : 256 < m
    · have hmz : (m : Int) > 256 := by omega
      go_enter Tryz.func138, Tryz.ntmps138
      go_wp2_with (first
        | (go_at_call 112; refine Calls.mono HC.out ?_; rintro e w1 ⟨rfl, ha⟩; have H1 := show Hid (After W w1) from ha; clear ha)
        | (go_at_call 145; refine Calls.mono (passed_any (HT.out.after H1.out) u q HUL.out) ?_; rintro e w2 ⟨rfl, ht, hb⟩; have H2 := show Hid (Tk w0 tb (bs.drop u) (decide (q ≠ 0)) w2 ∧ But tb w1 w2) from ⟨ht, hb⟩; obtain ⟨ao2, ca2, hr2, _⟩ := ht.ex; have d1 := hr2.cell (j := 1) rfl; have g1 := hr2.frozen 1; clear ht hb hr2))
      go_ret
      rw [HM.out, if_pos h256]
      exact ⟨rfl, H2.out.1.flag.1, But.trans (But.trans (But.of_below H1.out) H2.out.2) H2.out.1.flag.2⟩
    · have hmz : ¬ (m : Int) > 256 := by omega
      go_enter Tryz.func138, Tryz.ntmps138
      go_wp2_with (first
        | (go_at_call 112; refine Calls.mono HC.out ?_; rintro e w1 ⟨rfl, ha⟩; have H1 := show Hid (After W w1) from ha; clear ha)
        | (go_at_call 145; refine Calls.mono (passed_any (HT.out.after H1.out) u q HUL.out) ?_; rintro e w2 ⟨rfl, ht, hb⟩; have H2 := show Hid (Tk w0 tb (bs.drop u) (decide (q ≠ 0)) w2 ∧ But tb w1 w2) from ⟨ht, hb⟩; clear ht hb))
      go_ret
      rw [HM.out, if_neg h256]
      exact ⟨rfl, H2.out.1, But.trans (But.of_below H1.out) H2.out.2⟩
def textM (most : Int) (bs : List UInt8) (fl : Bool) : List UInt8 × List UInt8 × Bool := if fl then ([], bs, true) else (gtS bs most, bs.drop (gtK bs most), decide (gtE bs most ≠ 0))
set_option maxRecDepth 100000 in
set_option maxHeartbeats 3200000 in
theorem ttext_any (most : Int) (hm0 : -9223372036854775808 ≤ most) (hm1 : most ≤ 9223372036854775807) {w0 W : World} {tb : Nat} {bs : List UInt8} {fl : Bool} (h : Tk w0 tb bs fl W) :
    Calls Tryz.prog 140 #[.pointer (some ⟨tb, 0, none⟩), .int .i64 most] W fun e w' => e = .returned (.string (strOf (textM most bs fl).1)) ∧ Tk w0 tb (textM most bs fl).2.1 (textM most bs fl).2.2 w' ∧ But tb W w' := by
  obtain ⟨ao, ca, hr, hat, hc, hz⟩ := h.ex
  have c0 := hr.cell (j := 0) rfl
  have c1 := hr.cell (j := 1) rfl
  have HT : Hid (Tk w0 tb bs fl W) := h
  cases fl with
  | true =>
    clear h hr hat hc hz
    go_enter Tryz.func140, Tryz.ntmps140
    go_wp2
    go_ret
    exact ⟨rfl, HT.out, But.refl _ _⟩
  | false =>
    have hC := getText_any ao ca bs most hc (by have := h.big; omega) hm0 hm1 W (hat.after h.aft)
    obtain ⟨s, hs⟩ : ∃ s, gtS bs most = s := ⟨_, rfl⟩
    obtain ⟨u, hu⟩ : ∃ u, gtK bs most = u := ⟨_, rfl⟩
    obtain ⟨q, hq⟩ : ∃ q, gtE bs most = q := ⟨_, rfl⟩
    obtain ⟨n, hn⟩ : ∃ n, bs.length = n := ⟨_, rfl⟩
    rw [hs, hu, hq, hn] at hC
    have HC := show Hid _ from hC
    rw [hn] at c0
    have HUL : Hid (u ≤ bs.length) := by rw [← hu]; exact gtK_le bs most
    have HM : Hid (textM most bs false = (s, bs.drop u, decide (q ≠ 0))) := by unfold textM; rw [hs, hu, hq]; rfl
    clear h hr hat hc hz hn hs hu hq hC
    go_enter Tryz.func140, Tryz.ntmps140
    go_wp2_with (first
      | (go_at_call 115; refine Calls.mono HC.out ?_; rintro e w1 ⟨rfl, ha⟩; have H1 := show Hid (After W w1) from ha; clear ha)
      | (go_at_call 145; refine Calls.mono (passed_any (HT.out.after H1.out) u q HUL.out) ?_; rintro e w2 ⟨rfl, ht, hb⟩; have H2 := show Hid (Tk w0 tb (bs.drop u) (decide (q ≠ 0)) w2 ∧ But tb w1 w2) from ⟨ht, hb⟩; clear ht hb))
    go_ret
    rw [HM.out]
    exact ⟨rfl, H2.out.1, But.trans (But.of_below H1.out) H2.out.2⟩
/-- n texts. -/
def textsM (most : Int) : Nat → List UInt8 → Bool → List (List UInt8) × List UInt8 × Bool
  | 0, bs, fl => ([], bs, fl)
  | n + 1, bs, fl =>
    let t := textM most bs fl
    let r := textsM most n t.2.1 t.2.2
    (t.1 :: r.1, r.2)
theorem textsM_snoc (most : Int) : ∀ (n : Nat) (bs : List UInt8) (fl : Bool), textsM most (n + 1) bs fl = ((textsM most n bs fl).1 ++ [(textM most (textsM most n bs fl).2.1 (textsM most n bs fl).2.2).1], (textM most (textsM most n bs fl).2.1 (textsM most n bs fl).2.2).2)
  | 0, bs, fl => rfl
  | n + 1, bs, fl => by
    have ih := textsM_snoc most n (textM most bs fl).2.1 (textM most bs fl).2.2
    show ((textM most bs fl).1 :: (textsM most (n + 1) (textM most bs fl).2.1 (textM most bs fl).2.2).1, (textsM most (n + 1) (textM most bs fl).2.1 (textM most bs fl).2.2).2) = _
    rw [ih]
    rfl
theorem textsM_len (most : Int) : ∀ (n : Nat) (bs : List UInt8) (fl : Bool), (textsM most n bs fl).1.length = n
  | 0, _, _ => rfl
  | n + 1, bs, fl => by
    show ((textM most bs fl).1 :: (textsM most n (textM most bs fl).2.1 (textM most bs fl).2.2).1).length = n + 1
    rw [List.length_cons, textsM_len most n]
def strVs (l : List (List UInt8)) (n : Nat) : List Value := l.map (fun s => .string (strOf s)) ++ List.replicate (n - l.length) (.string ⟨#[]⟩)
theorem strVs_set {l : List (List UInt8)} {n : Nat} (h : l.length < n) (s : List UInt8) : (strVs l n).set l.length (.string (strOf s)) = strVs (l ++ [s]) n := by
  unfold strVs
  rw [List.set_append_right _ _ (by simp), List.length_map, Nat.sub_self]
  have : n - l.length = (n - (l ++ [s]).length) + 1 := by simp; omega
  rw [this, List.replicate_succ, List.set_cons_zero]
  simp
theorem info9 : (Tryz.prog.info? 9).map (fun i => (i.zero, i.size, i.bytes)) = some (some (.string ⟨#[]⟩), 1, 16) := by kernel_rfl
theorem made_str (c : Nat) : madeCells (Value.cells (.string ⟨#[]⟩)) c = (List.replicate c (Value.string ⟨#[]⟩)).toArray := by
  apply Array.ext_getElem?
  intro i
  simp only [madeCells]
  by_cases h : i < c
  · simp [h, Value.cells, Nat.mod_one]
  · simp [h]
theorem make_strs (W : World) (n : Nat) (hn : n ≤ 1048576) :
    (Instr.makeSlice 110 (.int .i64 (n : Int)) (.int .i64 (n : Int))).run Tryz.prog W = .ok (.slice (some ⟨W.heap.size, 0, none⟩) n n) (W.alloc (.cells (strVs [] n).toArray 9)) := by
  obtain ⟨i, hi, hz⟩ := Option.map_eq_some_iff.1 info9
  simp only [Prod.mk.injEq] at hz
  obtain ⟨hz, hsz, hby⟩ := hz
  have := run_make (P := Tryz.prog) W 110 9 i (.string ⟨#[]⟩) Tryz.underlying110 hi hz .i64 .i64 n n (by omega) (by omega) (by rw [hby]; omega) (by omega)
  rw [this, hsz, Nat.mul_one, Int.toNat_natCast, made_str]
  simp [strVs]
structure TsI (w0 W : World) (tb g n : Nat) (most : Int) (bs : List UInt8) (fl : Bool) (i : Nat) (wr : World) : Prop where
  row : RowIs wr g 9 (strVs (textsM most i bs fl).1 n)
  tk : Tk w0 tb (textsM most i bs fl).2.1 (textsM most i bs fl).2.2 wr
  but : But tb W wr
  new : W.heap.size ≤ g
set_option maxRecDepth 100000 in
set_option maxHeartbeats 3200000 in
theorem texts_any (most : Int) (hm0 : -9223372036854775808 ≤ most) (hm1 : most ≤ 9223372036854775807) {w0 W : World} {tb : Nat} {bs : List UInt8} {fl : Bool} (h : Tk w0 tb bs fl W) (n : Nat) (hn : n ≤ 1000) :
    Calls Tryz.prog 137 #[.pointer (some ⟨tb, 0, none⟩), .int .i64 (n : Int), .int .i64 most] W fun e w' => ∃ g, e = .returned (.slice (some ⟨g, 0, none⟩) n n) ∧ TsI w0 W tb g n most bs fl n w' := by
  have hmk := make_strs W n (by omega)
  have htb := h.lt
  have hw0 := h.aft.size
  have HI0 : Hid (TsI w0 W tb W.heap.size n most bs fl 0 (W.alloc (.cells (strVs [] n).toArray 9))) := ⟨RowIs.new W 9 (strVs [] n), h.after (after_alloc (After.refl W) _), But.of_below (after_alloc (After.refl W) _), Nat.le_refl _⟩
  clear h
  go_enter Tryz.func137, Tryz.ntmps137
  go_wp2_with fail
  obtain ⟨g, hg⟩ : ∃ g, W.heap.size = g := ⟨_, rfl⟩
  obtain ⟨w1, hw1⟩ : ∃ w1, W.alloc (.cells (strVs [] n).toArray 9) = w1 := ⟨_, rfl⟩
  have HG : Hid (W.heap.size = g) := hg
  rw [hw1] at HI0
  rw [hw1]
  have HI1 : Hid (TsI w0 W tb g n most bs fl 0 w1) := by rw [← hg]; exact HI0.out
  have hgt : g ≠ tb := by omega
  rw [hg]
  clear hw1 hg HI0 hmk
  go_loopw [13] (fun vi wr => ∃ i : Nat, vi = .int .i64 (i : Int) ∧ i ≤ n ∧ Hid (TsI w0 W tb g n most bs fl i wr)) (fun vi _ => n - (intOf vi).toNat)
  case atStart => exact ⟨0, rfl, Nat.zero_le _, HI1.out⟩
  case round =>
    obtain ⟨i, rfl, hin, HI⟩ := hrel
    by_cases hlt : i < n
    · have hii : (i : Int) < (n : Int) := by omega
      have HLI : Hid ((textsM most i bs fl).1.length = i) := textsM_len most i bs fl
      obtain ⟨T, hT⟩ : ∃ T, textsM most i bs fl = T := ⟨_, rfl⟩
      obtain ⟨U, hU⟩ : ∃ U, textM most T.2.1 T.2.2 = U := ⟨_, rfl⟩
      have HTU : Hid (textsM most (i + 1) bs fl = (T.1 ++ [U.1], U.2)) := by unfold Hid; rw [textsM_snoc, hT, hU]
      have HROW : Hid (RowIs wr g 9 (strVs T.1 n) ∧ T.1.length = i) := by rw [← hT]; exact ⟨HI.out.row, HLI.out⟩
      have HTK : Hid (Tk w0 tb T.2.1 T.2.2 wr) := by rw [← hT]; exact HI.out.tk
      have HC := show Hid _ from ttext_any most hm0 hm1 HTK.out
      rw [hU] at HC
      clear hT hU HLI
      go_wp2_with (go_at_call 140; refine Calls.mono HC.out ?_; rintro e w3 ⟨rfl, ht, hb⟩; have H3 := show Hid (Tk w0 tb U.2.1 U.2.2 w3 ∧ But tb wr w3) from ⟨ht, hb⟩; have hr3 := hb.row HROW.out.1 hgt; have HR3 := show Hid (RowIs _ _ _ _) from hr3; have d0 := hr3.cell (j := i) (v := (strVs T.1 n)[i]?.getD undef) (by rw [List.getElem?_eq_getElem (by simp [strVs]; have := HROW.out.2; omega)]; rfl); have g0 := hr3.frozen i; clear ht hb hr3)
      go_roundw
      case rel =>
        have hr := HR3.out.set i (.string (strOf U.1))
        have hs := strVs_set (l := T.1) (n := n) (by rw [HROW.out.2]; exact hlt) U.1
        rw [HROW.out.2] at hs
        rw [hs] at hr
        have hb4 : But g w3 (w3.setCell ⟨g, i, none⟩ (.string (strOf U.1))) := (But.refl g w3).setCell i _
        obtain ⟨ao3, ca3, hx1, hx2⟩ := H3.out.1.ex
        refine ⟨i + 1, by go_num, by omega, by rw [HTU.out]; exact hr, ?_, ?_, HI.out.new⟩
        · rw [HTU.out]
          exact ⟨⟨ao3, ca3, hb4.row hx1 (Ne.symm hgt), hx2⟩, Below.setCell H3.out.1.aft (p := ⟨g, i, none⟩) (by have h1 := HI.out.new; have h2 := HI.out.tk.new; have h3 := H3.out.1.aft.size; have h4 := HTK.out.aft.size; have h5 := HI1.out.tk.new; have h6 := htb; show w0.heap.size ≤ g; omega) _, H3.out.1.new, H3.out.1.big⟩
        · exact ⟨hb4.os.trans ((But.trans HI.out.but H3.out.2).os), hb4.tape.trans ((But.trans HI.out.but H3.out.2).tape), hb4.output.trans ((But.trans HI.out.but H3.out.2).output), Nat.le_trans (But.trans HI.out.but H3.out.2).size hb4.size, fun k hk hne => (hb4.block k (Nat.lt_of_lt_of_le hk (But.trans HI.out.but H3.out.2).size) (by have := HG.out; omega)).trans ((But.trans HI.out.but H3.out.2).block k hk hne)⟩
      case measure => simp [intOf]; omega
    · obtain rfl : i = n := by omega
      have hii : ¬ (i : Int) < (i : Int) := by omega
      go_wp2
      go_ret
      exact ⟨g, rfl, HI.out⟩
end Go.Proofs.YtgmdolpjkaajfaaGreatDoor
namespace Go.Proofs.YtgmdolpjkaajfaaGreatDoor
open Go.RowKit Leb
def z0 : Opn := ⟨0, [], 0, 0, []⟩
def cellsOf : List Opn → List Value
  | [] => []
  | x :: L => oc x ++ cellsOf L
theorem cellsOf_at : ∀ (L : List Opn) (i j : Nat) (x : Opn), L[i]? = some x → j < 5 → (cellsOf L)[i * 5 + j]? = (oc x)[j]?
  | [], i, j, x, h, _ => by simp at h
  | y :: L, 0, j, x, h, hj => by
    simp at h
    subst h
    show (oc y ++ cellsOf L)[0 * 5 + j]? = _
    rw [Nat.zero_mul, Nat.zero_add, List.getElem?_append_left (by simpa using hj)]
  | y :: L, i + 1, j, x, h, hj => by
    show (oc y ++ cellsOf L)[(i + 1) * 5 + j]? = _
    rw [List.getElem?_append_right (by simp; omega)]
    have e : (i + 1) * 5 + j - (oc y).length = i * 5 + j := by simp; omega
    rw [e]
    exact cellsOf_at L i j x (by simpa using h) hj
def setR (cs : List Value) (o : Nat) : List Value → List Value
  | [] => cs
  | v :: r => setR (cs.set o v) (o + 1) r
theorem setR_app (A : List Value) : ∀ (vs : List Value) (o : Nat) (B : List Value), setR (A ++ B) (A.length + o) vs = A ++ setR B o vs
  | [], _, _ => rfl
  | v :: r, o, B => by
    show setR ((A ++ B).set (A.length + o) v) (A.length + o + 1) r = A ++ setR (B.set o v) (o + 1) r
    rw [List.set_append_right _ _ (by omega), Nat.add_sub_cancel_left, Nat.add_assoc]
    exact setR_app A r (o + 1) _
theorem cellsOf_set : ∀ (L : List Opn) (i : Nat) (x : Opn), i < L.length → setR (cellsOf L) (i * 5) (oc x) = cellsOf (L.set i x)
  | [], i, x, h => by simp at h
  | y :: L, 0, x, _ => by simp [cellsOf, setR]
  | y :: L, i + 1, x, h => by
    show setR (oc y ++ cellsOf L) ((i + 1) * 5) (oc x) = oc y ++ cellsOf (L.set i x)
    have e : (i + 1) * 5 = (oc y).length + i * 5 := by simp; omega
    rw [e, setR_app (oc y), cellsOf_set L i x (by simpa using h)]
theorem cellsOf_text : ∀ (L : List Opn) (i : Nat) (x : Opn) (t : List UInt8), L[i]? = some x → (cellsOf L).set (i * 5 + 4) (.string (strOf t)) = cellsOf (L.set i { x with text := t })
  | [], i, x, t, h => by simp at h
  | y :: L, 0, x, t, h => by
    simp at h
    subst h
    simp [cellsOf]
  | y :: L, i + 1, x, t, h => by
    show (oc y ++ cellsOf L).set ((i + 1) * 5 + 4) _ = oc y ++ cellsOf (L.set i _)
    have e : (i + 1) * 5 + 4 = (oc y).length + (i * 5 + 4) := by simp; omega
    rw [e, List.set_append_right _ _ (by omega), Nat.add_sub_cancel_left, cellsOf_text L i x t (by simpa using h)]
theorem cellsOf_zero : ∀ (n i : Nat), (cellsOf (List.replicate n z0))[i]? = if i < n * 5 then (oc z0)[i % 5]? else none
  | 0, i => by simp [cellsOf]
  | n + 1, i => by
    rw [List.replicate_succ]
    show (oc z0 ++ cellsOf (List.replicate n z0))[i]? = _
    by_cases h : i < 5
    · rw [List.getElem?_append_left (by simpa using h), if_pos (by omega), Nat.mod_eq_of_lt h]
    · rw [List.getElem?_append_right (by simp; omega)]
      have e : i - (oc z0).length = i - 5 := by simp
      rw [e, cellsOf_zero n (i - 5)]
      have e2 : (i - 5) % 5 = i % 5 := by omega
      rw [e2]
      by_cases h2 : i < (n + 1) * 5
      · rw [if_pos (by omega), if_pos h2]
      · rw [if_neg (by omega), if_neg h2]
theorem RowIs.setCells {g : Nat} {t : TypeId} : ∀ (vs : List Value) (o : Nat) {w : World} {cs : List Value}, RowIs w g t cs → RowIs (w.setCells g o vs) g t (setR cs o vs)
  | [], _, _, _, h => h
  | v :: r, o, _, _, h => RowIs.setCells r (o + 1) (h.set o v)
theorem But.setCells {g : Nat} {a : World} : ∀ (vs : List Value) (o : Nat) {b : World}, But g a b → But g a (b.setCells g o vs)
  | [], _, _, h => h
  | v :: r, o, _, h => But.setCells r (o + 1) (h.setCell o v)
theorem info23 : (Tryz.prog.info? 46).map (fun i => (i.zero, i.size, i.bytes)) = some (some (.agg #[.int .i64 0, .string ⟨#[]⟩, .int .i64 0, .int .i64 0, .string ⟨#[]⟩]), 5, 56) := by kernel_rfl
theorem made_ops (c : Nat) : madeCells (Value.cells (.agg #[.int .i64 0, .string ⟨#[]⟩, .int .i64 0, .int .i64 0, .string ⟨#[]⟩])) (c * 5) = (cellsOf (List.replicate c z0)).toArray := by
  apply Array.ext_getElem?
  intro i
  rw [show (cellsOf (List.replicate c z0)).toArray[i]? = (cellsOf (List.replicate c z0))[i]? by simp, cellsOf_zero]
  simp only [madeCells]
  by_cases h : i < c * 5
  · have h5 : i % 5 < 5 := Nat.mod_lt _ (by omega)
    rw [if_pos h]
    generalize hm : i % 5 = m at h5
    have : m = 0 ∨ m = 1 ∨ m = 2 ∨ m = 3 ∨ m = 4 := by omega
    rcases this with rfl | rfl | rfl | rfl | rfl <;> simp [h, Value.cells, hm, z0, strOf]
  · simp [h]
theorem make_ops (W : World) (n : Nat) (hn : n ≤ 1048576) :
    (Instr.makeSlice 23 (.int .i64 (n : Int)) (.int .i64 (n : Int))).run Tryz.prog W = .ok (.slice (some ⟨W.heap.size, 0, none⟩) n n) (W.alloc (.cells (cellsOf (List.replicate n z0)).toArray 46)) := by
  obtain ⟨i, hi, hz⟩ := Option.map_eq_some_iff.1 info23
  simp only [Prod.mk.injEq] at hz
  obtain ⟨hz, hsz, hby⟩ := hz
  have := run_make (P := Tryz.prog) W 23 46 i _ Tryz.underlying23 hi hz .i64 .i64 n n (by omega) (by omega) (by rw [hby]; omega) (by omega)
  rw [this, hsz, Int.toNat_natCast, made_ops]
def G1 (bs : List UInt8) : List Int × Nat × Nat := getR bs 256
def G2 (bs : List UInt8) : List Int × Nat × Nat := (dsums (getR bs 256).1, (getR bs 256).2)
structure Cols where
  ks : List Int
  nms : List (List UInt8)
  ws : List Int
  ps : List Int
  ys : List Int
  rest : List UInt8
  fl : Bool
def colsM (bs : List UInt8) : Cols :=
  let a := colM G1 bs false
  let c := countM a.2.1 a.2.2
  let t := textsM 32 c.1 c.2.1 c.2.2
  let w := colM G1 t.2.1 t.2.2
  let p := colM G2 w.2.1 w.2.2
  let b := colM G1 p.2.1 p.2.2
  ⟨a.1, t.1, w.1, p.1, b.1, b.2.1, b.2.2⟩
structure RdS where
  ops : List Opn
  rest : List UInt8
  fl : Bool
def opAt (C : Cols) (i : Nat) : Opn := ⟨C.ks[i]?.getD 0, C.nms[(C.ws[i]?.getD 0).toNat]?.getD [], C.ps[i]?.getD 0, C.ys[i]?.getD 0, []⟩
def stepM (C : Cols) (i : Nat) (S : RdS) : Option RdS :=
  if C.ws[i]?.getD 0 < 0 ∨ (C.nms.length : Int) ≤ C.ws[i]?.getD 0 then none
  else if hasT (opAt C i) = true then some ⟨S.ops ++ [{ opAt C i with text := (textM 1024 S.rest S.fl).1 }], (textM 1024 S.rest S.fl).2.1, (textM 1024 S.rest S.fl).2.2⟩
  else some ⟨S.ops ++ [opAt C i], S.rest, S.fl⟩
def stM (C : Cols) : Nat → Option RdS
  | 0 => some ⟨[], C.rest, false⟩
  | i + 1 => (stM C i).bind (stepM C i)
def readC (C : Cols) : Option (List Opn) :=
  if C.fl = true ∨ C.ws.length ≠ C.ks.length ∨ C.ps.length ≠ C.ks.length ∨ C.ys.length ≠ C.ks.length then none
  else (stM C C.ks.length).bind fun S => if S.fl = true then none else some S.ops
def readM (bs : List UInt8) : Option (List Opn) := readC (colsM bs)
theorem stM_none {C : Cols} {i : Nat} (h : stM C i = none) : ∀ (n : Nat), i ≤ n → stM C n = none
  | 0, hn => by obtain rfl : i = 0 := by omega
                exact h
  | n + 1, hn => by
    by_cases e : i = n + 1
    · subst e; exact h
    · show (stM C n).bind _ = none
      rw [stM_none h n (by omega)]; rfl
theorem fill_set {L : List Opn} {n i : Nat} (hl : L.length = i) (hi : i < n) (x : Opn) : (L ++ List.replicate (n - i) z0).set i x = L ++ [x] ++ List.replicate (n - (i + 1)) z0 := by
  rw [List.set_append_right _ _ (by omega), hl, Nat.sub_self]
  have : n - i = (n - (i + 1)) + 1 := by omega
  rw [this, List.replicate_succ, List.set_cons_zero]
  simp
theorem column_k (G : List UInt8 → List Int × Nat × Nat) (K : Nat) (heK : ∀ args w, (callFunc K args).run Tryz.prog w = .ok (.enter K args) w) (hGk : ∀ bs, (G bs).2.1 ≤ bs.length)
    (hK : ∀ (W : World) (ao : Option Addr) (cap : Nat) (bs : List UInt8), bs.length ≤ 140737488355328 → BytesAt W ao bs → Calls Tryz.prog K #[.slice ao bs.length cap, .int .i64 256] W (GPost W (G bs)))
    {w0 W : World} {tb : Nat} {bs : List UInt8} {fl : Bool} (h : Tk w0 tb bs fl W) {l : List Int} {r : List UInt8} {f : Bool} {m : Nat} (e : colM G bs fl = (l, r, f)) (hm : l.length = m) :
    Calls Tryz.prog 135 #[.pointer (some ⟨tb, 0, none⟩), .func (.func K) #[] #[]] W fun e w' => ∃ p c, e = .returned (.slice p m c) ∧ IntsAt w' p l ∧ (∀ a, p = some a → W.heap.size ≤ a.block ∧ a.block < w'.heap.size) ∧ Tk w0 tb r f w' ∧ But tb W w' :=
  Calls.mono (column_any G K heK hGk hK h) (by
    rintro x w' ⟨v, rfl, ho, ht, hb⟩
    rw [e] at ho ht
    obtain ⟨p, c, rfl, h1, _, h3⟩ := ho.at
    exact ⟨p, c, by rw [hm], h1, h3, ht, hb⟩)
theorem texts_k (most : Int) (hm0 : -9223372036854775808 ≤ most) (hm1 : most ≤ 9223372036854775807) {w0 W : World} {tb : Nat} {bs : List UInt8} {fl : Bool} (h : Tk w0 tb bs fl W) (n : Nat) (hn : n ≤ 1000) {L : List (List UInt8)} {r : List UInt8} {f : Bool} (e : textsM most n bs fl = (L, r, f)) :
    Calls Tryz.prog 137 #[.pointer (some ⟨tb, 0, none⟩), .int .i64 (n : Int), .int .i64 most] W fun e w' => ∃ g, e = .returned (.slice (some ⟨g, 0, none⟩) n n) ∧ RowIs w' g 9 (L.map fun s => .string (strOf s)) ∧ W.heap.size ≤ g ∧ Tk w0 tb r f w' ∧ But tb W w' :=
  Calls.mono (texts_any most hm0 hm1 h n hn) (by
    rintro x w' ⟨g, rfl, hi⟩
    have h1 := hi.row
    have h2 := hi.tk
    have hl := textsM_len most n bs fl
    rw [e] at h1 h2 hl
    refine ⟨g, rfl, ?_, hi.new, h2, hi.but⟩
    simp only at hl
    simpa [strVs, hl] using h1)
theorem count_k {w0 W : World} {tb : Nat} {bs : List UInt8} {fl : Bool} (h : Tk w0 tb bs fl W) {n : Nat} {r : List UInt8} {f : Bool} (e : countM bs fl = (n, r, f)) :
    Calls Tryz.prog 138 #[.pointer (some ⟨tb, 0, none⟩)] W fun e w' => e = .returned (.int .i64 (n : Int)) ∧ Tk w0 tb r f w' ∧ But tb W w' := by
  have := count_any h
  rw [e] at this
  exact this
theorem ttext_k {w0 W : World} {tb : Nat} {bs : List UInt8} {fl : Bool} (h : Tk w0 tb bs fl W) {s r : List UInt8} {f : Bool} (e : textM 1024 bs fl = (s, r, f)) :
    Calls Tryz.prog 140 #[.pointer (some ⟨tb, 0, none⟩), .int .i64 1024] W fun e w' => e = .returned (.string (strOf s)) ∧ Tk w0 tb r f w' ∧ But tb W w' := by
  have := ttext_any 1024 (by omega) (by omega) h
  rw [e] at this
  exact this
theorem countM_le (bs : List UInt8) (fl : Bool) : (countM bs fl).1 ≤ 256 := by
  unfold countM
  split
  · omega
  · split
    · omega
    · omega
theorem textsM_count (most : Int) {n : Nat} {bs : List UInt8} {fl : Bool} {L : List (List UInt8)} {r : List UInt8} {f : Bool} (e : textsM most n bs fl = (L, r, f)) : L.length = n := by have := textsM_len most n bs fl; rw [e] at this; exact this
theorem G1_le (bs : List UInt8) : (G1 bs).2.1 ≤ bs.length := by unfold G1 getR; split <;> simp
theorem colM_most {bs : List UInt8} {fl : Bool} {l : List Int} {r : List UInt8} {f : Bool} (e : colM G1 bs fl = (l, r, f)) : l.length ≤ 65536 := by
  unfold colM at e
  split at e
  · simp at e; rw [e.1]; simp
  · simp at e; rw [← e.1]; exact getR_most bs 256
section
variable {o : Oper} {a : Act} {x y : Operand} {w : World}
theorem x_idx46 {b p n c j : Nat} (hop : o.op = .indexAddr 106 x y) (hx : a.eval x = .slice (some ⟨b, p, none⟩) n c) (hy : a.eval y = .int .i64 (j : Int)) (hj : j < n) : (execOp a.eval o).run Tryz.prog w = .ok (.value (.pointer (some ⟨b, p + j, none⟩))) w := by
  obtain ⟨i, hi, hz⟩ := Option.map_eq_some_iff.1 info2s
  unfold execOp
  simp only [hop, hx, hy]
  simp [go_sem, hi, hz, hj, sizeOf, typeInfo, Addr.add_mid]
theorem x_idx45 {b p n c j : Nat} (hop : o.op = .indexAddr 110 x y) (hx : a.eval x = .slice (some ⟨b, p, none⟩) n c) (hy : a.eval y = .int .i64 (j : Int)) (hj : j < n) : (execOp a.eval o).run Tryz.prog w = .ok (.value (.pointer (some ⟨b, p + j, none⟩))) w := by
  obtain ⟨i, hi, hz⟩ := Option.map_eq_some_iff.1 info9
  simp only [Prod.mk.injEq] at hz
  unfold execOp
  simp only [hop, hx, hy]
  simp [go_sem, hi, hz.2.1, hj, sizeOf, typeInfo, Addr.add_mid]
theorem x_idx29 {b n c j : Nat} (hop : o.op = .indexAddr 23 x y) (hx : a.eval x = .slice (some ⟨b, 0, none⟩) n c) (hy : a.eval y = .int .i64 (j : Int)) (hj : j < n) : (execOp a.eval o).run Tryz.prog w = .ok (.value (.pointer (some ⟨b, j * 5, none⟩))) w := by
  obtain ⟨i, hi, hz⟩ := Option.map_eq_some_iff.1 info23
  simp only [Prod.mk.injEq] at hz
  unfold execOp
  simp only [hop, hx, hy]
  simp [go_sem, hi, hz.2.1, hj, sizeOf, typeInfo, Addr.add_mid]
end
section
variable {ops : Array Oper} {Q : Exit → Act → World → Prop} {S : World → Prop} {fuel : Nat} {listed : Array Bool} {a : Act} {w : World} {oi : Oper}
/-- Number i, which alone may come up, is a struct's store. -/
theorem tkStoreM (i : Nat) (ty : TypeId) (x y : Operand) (b o : Nat) (cells : Array Value) (hi : ops[i]? = some oi) (hd : oi.dst = none) (hop : oi.op = .store ty x y) (hr : Region.ready .any ops listed = [i]) (hw : Region.wanted oi (yielded ops a.tmps) = true)
    (hx : a.eval x = .pointer (some ⟨b, o, none⟩)) (hy : a.eval y = .agg cells) (ht : w.there b o cells.size) (hsz : (Tryz.prog.info? ty).map (·.size) = some cells.size) (h1 : cells.all (·.oneCell') = true)
    (hS : S (w.setCells b o cells.toList)) (h : wpAnyH Tryz.prog .any ops Q S fuel (listed.setIfInBounds i true) (a.put none undef) (w.setCells b o cells.toList)) : wpAnyH Tryz.prog .any ops Q S (fuel + 1) listed a w :=
  wpAnyH_all hr (by simp) (fun j hj => by
    obtain rfl : j = i := by simpa using hj
    refine wpOp_step hi (fun K' hK => ?_)
    rw [if_pos hw]
    refine wp_store_mid ty x y hop b o cells hx hy ht hsz h1 ?_
    have hh := hK (a.put none undef) _ ⟨hS, h⟩
    rw [← hd] at hh
    exact hh)
end
end Go.Proofs.YtgmdolpjkaajfaaGreatDoor
