/-
  PROVED: for every list of pieces that a call of stemmalaw01.ShaWrites is handed, of bulk at most 1048576 (the second form, Upto), the call returns true and the pieces read afterwards as they read before: behind each piece the hasher tells the sum and the length of what was written so far, asked once or twice, whatever becomes of the piece that was handed in. CONDITIONS: the bound of the second form, and what the card itself says: the table sha.roundWords is as the program text lays it.
-/
import Derived.Test.YtpnhklefoafgkaaDoorLaid
import Derived.Test.YtpnhklefoafgkaaDoorWritesWalk
import Derived.SizedLaws
import Derived.Deep.Slices
namespace Go.Proofs.YtpnhklefoafgkaaDoor.ShaWrites
open Go.ChangeShapes Go.WideShapes Go.ChangeAt Go.RowKit Sha
open Go.ChangeMaps (open_string)

theorem bulk_one {H : Type} (d : DataW H) : 1 ≤ Rows.uptoBulk d := by
  cases d with
  | lit l => cases l <;> simp [Rows.uptoBulk]
  | nil => simp [Rows.uptoBulk]
  | ptr d => simp [Rows.uptoBulk]
  | slice elems spare => simp [Rows.uptoBulk]
  | agg parts => simp [Rows.uptoBulk]
  | iface t d => simp [Rows.uptoBulk]
  | map entries => simp [Rows.uptoBulk]
  | held h => simp [Rows.uptoBulk]
theorem bulk_len {H : Type} : ∀ l : List (DataW H), l.length ≤ Rows.uptoBulkAll l
  | [] => by simp
  | x :: r => by have h1 := bulk_one x; have h2 := bulk_len r; simp only [Rows.uptoBulkAll, List.length_cons]; omega
theorem bulk_flat {H : Type} (D : Nat → DataW H) (q : Nat → List UInt8) : ∀ l : List Nat, (∀ i ∈ l, (q i).length ≤ Rows.uptoBulk (D i)) → (l.map q).flatten.length ≤ Rows.uptoBulkAll (l.map D)
  | [], _ => by simp
  | i :: l, h => by
    have h1 := h i (by simp)
    have h2 := bulk_flat D q l (fun j hj => h j (by simp [hj]))
    simp only [List.map_cons, List.flatten_cons, List.length_append, Rows.uptoBulkAll]; omega
/-- What lies in a cell as a slice of bytes. -/
theorem open_cell {H : Type} {enc : TypeId × Value → H} {W : World} {n : Nat} {v : Value} {d : DataW H} {p : List MemPlace}
    (hf : DataW.trod enc Tryd.prog W 0 (fun _ => true) true n 22 [v] = some (d, p)) (hb : Rows.uptoBulk d ≤ 1048576) :
    ∃ bs : List UInt8, bs.length ≤ Rows.uptoBulk d ∧ ∃ a c, v = .slice a bs.length c ∧ BytesAt W a bs := by
  have hf' := hf
  rcases open_ints Tryd.underlying22 Tryd.underlying5 cells5 hf with ⟨hcs, _⟩ | ⟨x, l, c, zs, hcs, _, hl, hm, hz, hx, _, _⟩
  · simp only [List.cons.injEq, and_true] at hcs
    subst hcs
    exact ⟨[], by simp, none, 0, rfl, fun h => absurd rfl h⟩
  · simp only [List.cons.injEq, and_true] at hcs
    subst hcs
    simp only [Prod.mk.injEq] at hx
    have hd := hx.1
    have hsum : ∀ elems spare, d = .slice elems spare → elems.length + spare.length + 1 ≤ Rows.uptoBulk d := fun elems spare he => by
      have h1 := bulk_len elems; have h2 := bulk_len spare
      rw [he]; simp only [Rows.uptoBulk]; omega
    obtain ⟨bs, hlen, _, _, hat, _⟩ := open_bytes (a := some x) (len := l) (cap := c) ⟨n, hf'⟩ (fun elems spare he => by
      have := hsum elems spare he
      rw [show Tryd.prog.bytesOf 5 = 1 by kernel_rfl]
      simp only [reachBytes]; omega)
    refine ⟨bs, ?_, some x, c, by rw [hlen], hat⟩
    have := hsum _ _ hd
    simp only [if_true] at hz
    simp only [lits, List.length_map, List.length_take, List.length_drop] at this
    omega
/-- What came in as a slice of slices of bytes. -/
theorem open_pieces {H : Type} {enc : TypeId × Value → H} {W : World} {base : Nat} {a : Option Addr} {len cap : Nat} {d : DataW H} {p : List MemPlace}
    (hv : Value.okWide Tryd.prog W .any base 28 (.slice a len cap))
    (h : DataW.Trod enc Tryd.prog W 0 (fun _ => true) true 28 (.slice a len cap) d p) (hb : Rows.uptoBulk d ≤ 1048576) :
    ∃ ps : List (List UInt8), ps.length = len ∧ ps.length ≤ 1048576 ∧ ps.flatten.length ≤ 1048576 ∧ PiecesAt W a ps := by
  obtain ⟨fuel, hf⟩ := h
  rcases Deep.open_slice1 Tryd.underlying28 (by kernel_rfl) hf with ⟨hcs, _⟩ | ⟨x, l, c, m, n, V, D, Pl, hcs, _, hl, hm, hmm, hx, hall⟩
  · simp [Value.cells] at hcs
    obtain ⟨rfl, rfl, rfl⟩ := hcs
    exact ⟨[], rfl, by simp, by simp, fun h => absurd rfl h⟩
  · simp [Value.cells] at hcs
    obtain ⟨rfl, rfl, rfl⟩ := hcs
    simp only [if_true] at hmm
    subst hmm
    have hs : x.spot = none := by
      simp only [Value.okWide, Tryd.underlying28, Cell.okWide, Cell.ok] at hv
      obtain ⟨_, _, _, hs, _⟩ := hv
      exact hs
    simp only [Prod.mk.injEq] at hx
    have hd := hx.1
    have hbl : Rows.uptoBulkAll ((List.range len).map D) ≤ 1048576 := by rw [hd] at hb; simp only [Rows.uptoBulk] at hb; omega
    have hpart : ∀ i, i < len → Rows.uptoBulk (D i) ≤ Rows.uptoBulkAll ((List.range len).map D) := fun i hi => by
      have : ∀ l : List Nat, i ∈ l → Rows.uptoBulk (D i) ≤ Rows.uptoBulkAll (l.map D) := fun l => by
        induction l with
        | nil => intro h; cases h
        | cons y r ih =>
          intro h
          simp only [List.map_cons, Rows.uptoBulkAll]
          cases List.mem_cons.1 h with
          | inl e => subst e; omega
          | inr e => have := ih e; omega
      exact this _ (List.mem_range.2 hi)
    have each : ∀ i, i < len → ∃ q : List UInt8, q.length ≤ Rows.uptoBulk (D i) ∧ ∃ a' c', W.cell? (x.add i) = some (.slice a' q.length c') ∧ BytesAt W a' q := by
      intro i hi
      obtain ⟨h0, h1⟩ := hall i (by omega)
      obtain ⟨bs, hbs, a', c', rfl', hat⟩ := open_cell h1 (Nat.le_trans (hpart i hi) hbl)
      exact ⟨bs, hbs, a', c', by rw [h0, rfl'], hat⟩
    obtain ⟨q, hq⟩ := Deep.choose_lt each
    refine ⟨(List.range len).map q, by simp, ?_, ?_, fun _ => ?_⟩
    · have := bulk_len ((List.range len).map D)
      simp only [List.length_map, List.length_range] at this ⊢
      omega
    · exact Nat.le_trans (bulk_flat D q (List.range len) (fun i hi => (hq i (List.mem_range.1 hi)).1)) hbl
    · obtain ⟨b, off, spot⟩ := x
      obtain rfl : spot = none := hs
      refine ⟨b, off, rfl, fun j hj => ?_⟩
      simp only [List.length_map, List.length_range] at hj
      obtain ⟨_, a', c', hc, hat⟩ := hq j hj
      rw [Addr.add_mid] at hc
      have e : ((List.range len).map q).getD j [] = q j := by simp [List.getD_eq_getElem?_getD, hj]
      rw [e]
      exact ⟨a', c', hc, hat⟩

/-- What the walk gives, for every argument and every world that holds the table. -/
theorem contract (H : Type) (enc : TypeId × Value → H) (W : World) (base : Nat) (args : Array Value) (ds gs : List (DataW H)) (before : List MemPlace)
    (hval : ∀ (j : Nat) t v, Tryd.f4.params[j]? = some t → args[j]? = some v → Value.okWide Tryd.prog W .any base t v)
    (hW : DataW.Whole enc Tryd.prog Tryd.f4.params.toList Rows.shaWritesSpec.vars false W args.toList ds gs before)
    (hk : Rows.uptoBulkAll (ds ++ gs) ≤ 1048576)
    (hL : laidMetH Tryd.prog Rows.shaNobodyRow.laid W) :
    Calls Tryd.prog 4 args W fun e W' => ∃ v, e = .returned v ∧ Rows.shaWritesSpec.post enc Tryd.prog Tryd.f4 false true false false W args v W' := by
  have hW' := hW
  obtain ⟨p, q, hA0, hV, rfl, hfz, hnd⟩ := hW
  have hA : DataW.TrodAll enc Tryd.prog W 0 (fun _ => true) true Tryd.f4.params.toList args.toList ds p := hA0
  rw [Tryd.params4] at hA hval
  obtain ⟨v0, vs0, d0, ds0, p0, q0, hargs, rfl, rfl, h0, r0⟩ := trodAll_cons hA
  obtain ⟨rfl, rfl, rfl⟩ := trodAll_nil r0
  obtain rfl : args = #[v0] := by cases args; simp_all
  obtain ⟨rfl, rfl⟩ := trodVars_none hV
  have k0 := h0
  have lt0 : ∀ x ∈ p0, x.block < W.heap.size := by obtain ⟨m, hm⟩ := k0; exact DataW.trod_lt m _ _ _ hm
  obtain ⟨a0, len0, cap0, rfl⟩ := okWide_slice Tryd.underlying28 (hval 0 28 v0 rfl rfl)
  obtain ⟨ps, hl0, hn0, hf0, hb0⟩ := open_pieces (hval 0 28 _ rfl rfl) h0 (by simp only [List.append_nil, Rows.uptoBulkAll] at hk; omega)
  subst hl0
  clear hA0 hA
  refine (writes_any a0 cap0 ps hf0 hn0 W (tab_of hL) hb0).mono fun e W' ⟨he, bel⟩ => ?_
  subst he
  exact ⟨_, rfl, _, _, _, [], _, [], hW', trodAll_mk1 (shut_bool Tryd.underlying4 _), (trodAll_cons_mk (Below.trod laidOut (by kernel_rfl) (of_decide_eq_true (by kernel_rfl)) k0 bel lt0) (trodAll_mk0)), rfl, bel.frame _, fun h => by cases h⟩

set_option maxRecDepth 100000 in
/-- A world for the witness: the settled one, the table (block 0) holding what its initialiser lays. -/
theorem witness (os : Os) {H : Type} (enc : TypeId × Value → H) : ∃ (w : World) (tape : Tape) (i : Input), w.os = os ∧ (w.forCall tape i).Shaped Tryd.checked.prog ∧ i.vars = [] ∧ Input.okWide Tryd.checked.prog (w.forCall tape i) .any w.heap.size 4 i ∧
      (Rows.OpenSpec.upto Rows.shaWritesSpec).preRow enc Tryd.checked.prog Tryd.f4 Rows.shaWritesUptoRow.domain false Rows.shaWritesUptoRow.laid (w.forCall tape i).memory i.args ∧ ({} : Assume).holds Tryd.checked.prog (lone (Frame.enter Tryd.checked.prog 4 i.args .normal) [] (w.forCall tape i)) :=
  witness_row_at (enc := enc) (C := Tryd.checked) false { World.holding Tryd.prog os ⟨#[], #[], []⟩ with heap := (World.holding Tryd.prog os ⟨#[], #[], []⟩).heap.modify 0 fun
      | .cells _ t frozen => .cells (c32 kWords).toArray t frozen
      | o => o } #[.slice none 0 0] rfl (by kernel_rfl) (by kernel_rfl) (by kernel_rfl)
    (OpenSpec.preRow_of_cond 8 (x := ([.nil], [], [])) (by kernel_rfl) (by kernel_rfl) (fun k hk => by cases hk; kernel_rfl) (by kernel_rfl) (laidMet_of_run' 8 (by kernel_rfl) (by kernel_rfl)))

theorem lifted (os : Os) (started : os.Started) (H : Type) (enc : TypeId × Value → H) (F : Stop.Interp) :
    ReturnsInHanded {} Tryd.checked os 4 .any ((Rows.OpenSpec.upto Rows.shaWritesSpec).preRow enc Tryd.prog Tryd.f4 Rows.shaWritesUptoRow.domain false Rows.shaWritesUptoRow.laid) (((Rows.OpenSpec.upto Rows.shaWritesSpec).at F).post enc Tryd.prog Tryd.f4 false true false false) := by
  refine returnsInHanded_of_row (C := Tryd.checked) (s := Rows.OpenSpec.upto Rows.shaWritesSpec) own started (by kernel_rfl) Tryd.func4 (witness os enc) ?_
  intro W base args ds gs before hval hW _ hcond _ hL _ _
  exact contract H enc W base args ds gs before hval hW (of_decide_eq_true (hcond _ rfl)) hL

theorem said : Rows.ShaWritesUptoSaid :=
  OpenClaim.holds_of_cond 4 Tryd.f4 rfl rfl rfl rfl rfl rfl rfl ⟨rfl, rfl, rfl, rfl, rfl⟩ rfl rfl rfl rfl rfl (by kernel_rfl) Tryd.func4 (by kernel_rfl)
    (of_decide_eq_true (by kernel_rfl)) (by unfold Func.isWrapper; first | (rw [if_pos (by decide +kernel)]; kernel_rfl) | (rw [if_neg (by decide +kernel)]; exact ⟨rfl, rfl⟩))
    (fun os started H enc _ F => by rw [OpenClaim.pre_eq_preRow]; exact lifted os started H enc F)

/-- No parameter wants a stand-in; the program's own looks are off: what the card asks. -/
theorem plain (f : FuncId) (fn : Func) (hf : Tryd.pinned.checked.prog.funcNamed Rows.shaWritesUptoRow.func = some f) (hfn : Tryd.pinned.checked.prog.funcs[f]? = some fn) :
    false = Tryd.pinned.checked.prog.looks [] ∧ ∀ (j : Nat) t, fn.params[j]? = some t → Tryd.pinned.checked.prog.wantsStandIn t = false := by
  obtain rfl : f = 4 := Option.some.inj ((show Tryd.prog.funcNamed Rows.shaWritesUptoRow.func = some 4 by kernel_rfl).symm.trans hf) |>.symm
  obtain rfl : fn = Tryd.f4 := (Option.some.inj (Tryd.func4.symm.trans hfn)).symm
  refine ⟨by kernel_rfl, fun j t ht => ?_⟩
  rw [Tryd.params4] at ht
  obtain rfl : t = 28 := by simpa using Array.mem_of_getElem? ht
  exact (show Tryd.prog.wantsStandIn 28 = false by kernel_rfl)

/-- THE CARD. -/
theorem card : Rows.ShaWritesUptoCardSaid :=
  Claim7.holds_tied_plain_at .later [] _ _ _ _ said (fun _ h => by cases h) (by kernel_rfl) (fun _ h => by cases h) shaWritesUpto_row_tie rfl ⟨rfl, rfl⟩ (by kernel_rfl) rfl plain (by kernel_rfl)
end Go.Proofs.YtpnhklefoafgkaaDoor.ShaWrites
namespace Go.Proofs.YtpnhklefoafgkaaDoor
theorem shaWritesUpto_card : Rows.ShaWritesUptoCardSaid := ShaWrites.card
end Go.Proofs.YtpnhklefoafgkaaDoor
