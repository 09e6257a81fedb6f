/-
  PROVED: for every slice of bytes and every slice of Takes that a call of stemmalaw02.LebReads is handed, the call returns true and the slices read afterwards as they read before: a leb.Reader takes off numbers, texts and hashes, one behind the other, as the document says, up to the first error, which stays. CONDITIONS: none; no input is left out.
-/
import Derived.Test.YtfeepebiahekkaaOpen
import Derived.Test.YtfeepebiahekkaaReadsWalk
import Derived.Deep.SlicePairs
namespace Go.Proofs.Ytfeepebiahekkaa.LebReads
open Go.ChangeShapes Go.WideShapes Go.ChangeAt Go.RowKit Leb
open Go.ChangeMaps (open_string)

/-- A slice that came in lies in a block that is there. -/
theorem block_of {W : World} {base : Nat} {t e : TypeId} (ht : Try.prog.underlying t = some (.slice e)) {a : Addr} {len cap : Nat} (h : Value.okWide Try.prog W .any base t (.slice (some a) len cap)) : a.spot = none ∧ a.block < W.heap.size := by
  simp only [Value.okWide, ht, Cell.okWide, Cell.ok] at h
  obtain ⟨_, _, _, hs, row, cells, hsh, _⟩ := h
  refine ⟨hs, Classical.byContradiction fun hn => ?_⟩
  rw [World.shape?, Array.getElem?_eq_none (by omega)] at hsh
  cases hsh

/-- What came in as a slice of Takes. -/
theorem open_takes {H : Type} {enc : TypeId × Value → H} {W : World} {base : Nat} {a : Option Addr} {len cap : Nat} {d : DataW H} {p : List MemPlace}
    (hv : Value.okWide Try.prog W .any base 44 (.slice a len cap))
    (h : DataW.Trod enc Try.prog W 0 (fun _ => true) true 44 (.slice a len cap) d p)
    (hsz : ∀ elems spare, d = .slice elems spare → (elems.length + spare.length) * Try.prog.bytesOf 50 ≤ reachBytes) :
    ∃ l : List (UInt8 × Nat), l.length = len ∧ len ≤ 140737488355328 ∧ TakesAt W a l := by
  obtain ⟨fuel, hf⟩ := h
  rcases Deep.open_slice_pairs Try.underlying44 Try.underlying50 (by kernel_rfl) rfl rfl (by kernel_rfl) (by kernel_rfl) hf with ⟨hcs, _⟩ | ⟨x, l, c, m, n, V0, V1, D0, D1, P0, P1, hcs, _, hl, hm, hmm, hx, hall⟩
  · simp [Value.cells] at hcs
    obtain ⟨rfl, rfl, rfl⟩ := hcs
    exact ⟨[], rfl, by omega, fun h => absurd rfl h⟩
  · simp [Value.cells] at hcs
    obtain ⟨rfl, rfl, rfl⟩ := hcs
    simp only [if_true] at hmm
    subst hmm
    obtain ⟨hs, _⟩ := block_of Try.underlying44 hv
    have each : ∀ i, i < m → ∃ q : UInt8 × Nat, W.cell? (x.add (i * 2)) = some (.int .u8 (q.1.toNat : Int)) ∧ W.cell? (x.add (i * 2 + 1)) = some (.int .u64 (q.2 : Int)) := by
      intro i hi
      obtain ⟨h0, h1, h2, h3⟩ := hall i hi
      obtain ⟨n0, e0, _, w0⟩ := DataW.trod_int Try.underlying5 h2
      obtain ⟨n1, e1, _, w1⟩ := DataW.trod_int Try.underlying22 h3
      simp only [List.cons.injEq, and_true] at e0 e1
      obtain ⟨b, rfl⟩ := byte_of w0
      have hb := bounds_u64 w1
      refine ⟨(b, n1.toNat), by rw [h0, e0], ?_⟩
      rw [h1, e1, Int.toNat_of_nonneg hb.1]
    obtain ⟨q, hq⟩ := Deep.choose_lt each
    have hlen : len ≤ 140737488355328 := by
      simp only [Prod.mk.injEq] at hx
      have := hsz _ _ hx.1
      rw [show Try.prog.bytesOf 50 = 16 by kernel_rfl] at this
      simp only [List.length_map, List.length_range, reachBytes] at this
      omega
    refine ⟨(List.range len).map q, by simp, hlen, fun _ => ?_⟩
    obtain ⟨b, off, spot⟩ := x
    obtain rfl : spot = none := hs
    refine ⟨b, off, rfl, fun j hj => ?_⟩
    simp only [List.length_map, List.length_range] at hj
    have := hq j (by omega)
    simpa [Addr.add_mid, List.getD_eq_getElem?_getD, hj, Nat.add_assoc] using this

/-- What the walk gives, for every argument and every world. -/
theorem contract (H : Type) (enc : TypeId × Value → H) (W : World) (base : Nat) (args : Array Value) (ds gs : List (DataW H)) (before : List MemPlace)
    (hval : ∀ (j : Nat) t v, Try.f6.params[j]? = some t → args[j]? = some v → Value.okWide Try.prog W .any base t v)
    (hW : DataW.Whole enc Try.prog Try.f6.params.toList Rows.lebReadsSpec.vars false W args.toList ds gs before)
    (hsz : (DataW.weightsEach Try.prog (Try.f6.params.toList ++ (OpenSpec.ofChange Rows.lebReadsSpec).bare.plain.varTypes Try.prog) (ds ++ gs)).all (· ≤ reachBytes) = true) :
    Calls Try.prog 6 args W fun e W' => ∃ v, e = .returned v ∧ Rows.lebReadsSpec.post enc Try.prog Try.f6 false true false false W args v W' := by
  have hW' := hW
  obtain ⟨p, q, hA0, hV, rfl, hfz, hnd⟩ := hW
  have hA : DataW.TrodAll enc Try.prog W 0 (fun _ => true) true Try.f6.params.toList args.toList ds p := hA0
  rw [Try.params6] at hA hval hsz
  obtain ⟨v0, vs0, d0, ds0, p0, q0, hargs, rfl, rfl, h0, r0⟩ := trodAll_cons hA
  obtain ⟨v1, vs1, d1, ds1, p1, q1, rfl, rfl, rfl, h1, r1⟩ := trodAll_cons r0
  obtain ⟨rfl, rfl, rfl⟩ := trodAll_nil r1
  obtain rfl : args = #[v0, v1] := by cases args; simp_all
  obtain ⟨rfl, rfl⟩ := trodVars_none hV
  have k0 := h0
  have k1 := h1
  have lt0 : ∀ x ∈ p0, x.block < W.heap.size := by obtain ⟨m, hm⟩ := k0; exact DataW.trod_lt m _ _ _ hm
  have lt1 : ∀ x ∈ p1, x.block < W.heap.size := by obtain ⟨m, hm⟩ := k1; exact DataW.trod_lt m _ _ _ hm
  obtain ⟨a0, len0, cap0, rfl⟩ := okWide_slice Try.underlying23 (hval 0 23 v0 rfl rfl)
  obtain ⟨bs0, hl0, hc0, hm0, hb0⟩ := open_bytes h0 (fun elems spare he => sized_slice hsz (j := 0) (t := 23) (e := 5) rfl (by rw [he]; rfl) Try.underlying23)
  subst hl0
  obtain ⟨a1, len1, cap1, rfl⟩ := okWide_slice Try.underlying44 (hval 1 44 v1 rfl rfl)
  obtain ⟨l1, hl1, hc1, hb1⟩ := open_takes (hval 1 44 _ rfl rfl) h1 (fun elems spare he => sized_slice hsz (j := 1) (t := 44) (e := 50) rfl (by rw [he]; rfl) Try.underlying44)
  subst hl1
  have hlt : ∀ a, a0 = some a → a.block < W.heap.size := fun a ha => by subst ha; exact (block_of Try.underlying23 (hval 0 23 _ rfl rfl)).2
  clear hA0 hA
  refine (reads_any a0 cap0 bs0 hc0 (by omega) a1 cap1 l1 hc1 W (fun h => by subst h; exact bytesAt_none hb0) hb0 hlt hb1).mono fun e W' ⟨he, bel⟩ => ?_
  subst he
  exact ⟨_, rfl, _, _, _, [], _, [], hW', trodAll_mk1 (shut_bool Try.underlying4 _), (trodAll_cons_mk (Below.trod laidOut (by kernel_rfl) (of_decide_eq_true (by kernel_rfl)) k0 bel lt0) (trodAll_cons_mk (Below.trod laidOut (by kernel_rfl) (of_decide_eq_true (by kernel_rfl)) k1 bel lt1) (trodAll_mk0))), rfl, bel.frame _, fun h => by cases h⟩

set_option maxRecDepth 100000 in
/-- A world for the witness: the settled one. -/
theorem witness (os : Os) {H : Type} (enc : TypeId × Value → H) : ∃ (w : World) (tape : Tape) (i : Input), w.os = os ∧ (w.forCall tape i).Shaped Try.checked.prog ∧ i.vars = [] ∧ Input.okWide Try.checked.prog (w.forCall tape i) .any w.heap.size 6 i ∧
      (OpenSpec.ofChange Rows.lebReadsSpec).preRow enc Try.checked.prog Try.f6 Rows.lebReadsRow.domain false Rows.lebReadsRow.laid (w.forCall tape i).memory i.args ∧ ({} : Assume).holds Try.checked.prog (lone (Frame.enter Try.checked.prog 6 i.args .normal) [] (w.forCall tape i)) :=
  witness_row_at (enc := enc) (C := Try.checked) false (World.holding Try.prog os ⟨#[], #[], []⟩) #[.slice none 0 0, .slice none 0 0] rfl (by kernel_rfl) (by kernel_rfl) (by kernel_rfl)
    (OpenSpec.preRow_of_cond 8 (x := ([.nil, .nil], [], [])) (by kernel_rfl) (by kernel_rfl) (fun k hk => by cases hk) (by kernel_rfl) (laidMet_nil _ _))

theorem lifted (os : Os) (started : os.Started) (H : Type) (enc : TypeId × Value → H) (F : Stop.Interp) :
    ReturnsInHanded {} Try.checked os 6 .any ((OpenSpec.ofChange Rows.lebReadsSpec).preRow enc Try.prog Try.f6 Rows.lebReadsRow.domain false Rows.lebReadsRow.laid) (((OpenSpec.ofChange Rows.lebReadsSpec).at F).post enc Try.prog Try.f6 false true false false) := by
  refine returnsInHanded_of_row (C := Try.checked) (s := OpenSpec.ofChange Rows.lebReadsSpec) own started (by kernel_rfl) Try.func6 (witness os enc) ?_
  intro W base args ds gs before hval hW _ _ hsz _ _ _
  exact contract H enc W base args ds gs before hval hW hsz

theorem said : Rows.LebReadsSaid :=
  OpenClaim.holds_of_cond 6 Try.f6 rfl rfl rfl rfl rfl rfl rfl ⟨rfl, rfl, rfl, rfl, rfl⟩ rfl rfl rfl rfl rfl (by kernel_rfl) Try.func6 (by kernel_rfl)
    (of_decide_eq_true (by kernel_rfl)) (by unfold Func.isWrapper; first | (rw [if_pos (by decide +kernel)]; kernel_rfl) | (rw [if_neg (by decide +kernel)]; exact ⟨rfl, rfl⟩))
    (fun os started H enc _ F => by rw [OpenClaim.pre_eq_preRow]; exact lifted os started H enc F)
end Go.Proofs.Ytfeepebiahekkaa.LebReads
namespace Go.Proofs.Ytfeepebiahekkaa
theorem lebReads_holds : Rows.LebReadsSaid := LebReads.said
end Go.Proofs.Ytfeepebiahekkaa
