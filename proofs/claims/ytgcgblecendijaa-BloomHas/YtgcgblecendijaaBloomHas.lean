/-
  PROVED: for every slice of bytes, every slice of hashes and every hash that a call of stemmalaw09.BloomHas is handed, the call returns true and the slices read afterwards as they read before: whether a filter, made by somebody or of any bytes, may have a hash is told as the document says. CONDITIONS: none; no input is left out.
-/
import Derived.Test.YtgcgblecendijaaOpenH
import Derived.Test.YtgcgblecendijaaRK
namespace Go.Proofs.Ytgcgblecendijaa
open Go.RowKit
theorem okWide_arr {P : Program} {w : World} {r : Reach} {base : Nat} {t : TypeId} {v : Value} {n : Nat} {e : TypeId} (ht : P.underlying t = some (.array n e)) (h : Value.okWide P w r base t v) : ∃ cs, v = .agg cs ∧ cs.size = P.cellsOf t := by
  simp only [Value.okWide, ht] at h
  obtain ⟨cs, h1, h2, _⟩ := h
  exact ⟨cs, h1, h2⟩
set_option maxRecDepth 100000 in
/-- What came in as a hash by value. -/
theorem open_hash {H : Type} {enc : TypeId × Value → H} {W : World} {base : Nat} {v : Value} {d : DataW H} {p : List MemPlace}
    (hv' : Value.okWide Try.prog W .any base 29 v) (h : DataW.Trod enc Try.prog W 0 (fun _ => true) true 29 v d p) : ∃ q : Hs, q.length = 32 ∧ v = .agg (c8 q).toArray := by
  obtain ⟨cs, rfl, hsz⟩ := okWide_arr Try.underlying29 hv'
  rw [show Try.prog.cellsOf 29 = 32 by kernel_rfl] at hsz
  obtain ⟨fuel, hf⟩ := h
  simp only [Value.cells] at hf
  obtain ⟨q, hq, e⟩ := open_cells24 (by simpa using hsz) hf
  exact ⟨q, hq, by rw [← e]⟩
end Go.Proofs.Ytgcgblecendijaa

namespace Go.Proofs.Ytgcgblecendijaa
open Go.RowKit Leb
theorem x_eqb {o : Oper} {a : Act} {x y : Operand} {w : World} {b : Bool} (hop : o.op = .binOp .eql 4 x y 4) (hx : a.eval x = .bool b) (hy : a.eval y = .bool b) : (execOp a.eval o).run Try.prog w = .ok (.value (.bool true)) w := by
  unfold execOp
  simp only [hop, hx, hy]
  cases b <;> simp [go_sem]

set_option maxRecDepth 100000 in
set_option maxHeartbeats 6000000 in
theorem has_any (bo : Option Addr) (bn bc : Nat) (bs : List UInt8) (hbl : bs.length = bn) (hbc : bn ≤ bc) (hbb : bn ≤ 1152921504606846976) (ao : Option Addr) (n ca : Nat) (l : List Hs) (h32 : All32 l) (hl : l.length = n) (hbig : n ≤ 1152921504606846976) (h : Hs) (hh : h.length = 32) (w : World) (hB : BytesAt w bo bs) (hA : HsAt w ao l) :
    Calls Try.prog 5 #[.slice bo bn bc, .slice ao n ca, .agg (c8 h).toArray] w fun e w' => e = .returned (.bool true) ∧ After w w' := by
  obtain ⟨wb, hwb⟩ : ∃ w0, w.alloc (.cells (c8 h).toArray 29) = w0 := ⟨_, rfl⟩
  have H0 : Hid (After w wb ∧ RowIs wb w.heap.size 29 (c8 h)) := by rw [← hwb]; exact ⟨after_alloc (After.refl w) _, RowIs.new w 29 (c8 h)⟩
  have HL : Hid (bs.length = bn ∧ bn ≤ bc ∧ bn ≤ 1152921504606846976 ∧ All32 l ∧ l.length = n ∧ h.length = 32 ∧ BytesAt w bo bs ∧ HsAt w ao l) := ⟨hbl, hbc, hbb, h32, hl, hh, hB, hA⟩
  clear hbl hbc hbb h32 hl hh hB hA
  by_cases hn : n ≤ 1000
  · have HF : Hid (decide (n ≤ 1000) = true) := decide_eq_true hn
    go_enter Try.func5, Try.ntmps5
    go_wp2_with (first
      | (go_at_call 12; refine Calls.mono (rmake_any ao n ca l HL.out.2.2.2.1 HL.out.2.2.2.2.1 (by omega) 7 (by omega) 6 wb (HL.out.2.2.2.2.2.2.2.after H0.out.1)) ?_; rintro e w1 ⟨s, v1, rfl, hs, ho, ha⟩; obtain ⟨B, hB⟩ : ∃ B, mkB s 7 (bitsN 6) = B := ⟨_, rfl⟩; rw [hB] at ho; obtain ⟨a1, c1, rfl, hat, hle, _⟩ := ho.at; have hok : (mkP s 7 (bitsN 6)).Ok := mkP_ok (by have := hs.le; rw [HL.out.2.2.2.2.1] at this; omega) (by omega) (bitsN_ok 6).1 (bitsN_ok 6).2; have hBl := mkB_len hok; rw [hB] at hBl; obtain ⟨K, hK⟩ : ∃ K, B.length = K := ⟨_, rfl⟩; rw [hK] at hle hBl ⊢; have H1 := show Hid (After w w1 ∧ RowIs w1 w.heap.size 29 (c8 h) ∧ BytesAt w1 a1 B ∧ B.length = K ∧ K ≤ c1 ∧ K ≤ 1152921504606846976 ∧ BytesAt w1 bo bs) from ⟨H0.out.1.trans ha, H0.out.2.below ha H0.out.2.lt, hat, hK, hle, by omega, HL.out.2.2.2.2.2.2.1.after (H0.out.1.trans ha)⟩; clear hs ho ha hat hle hok hBl hB hK)
      | (go_at_call 9; refine Calls.mono (few_any ao n ca hbig wb HF.out) ?_; rintro e w0 ⟨rfl, h0⟩; have h0' := h0.symm; clear h0; subst h0'))
    obtain ⟨t1, ht1⟩ : ∃ t, hasB bs h = t := ⟨_, rfl⟩
    obtain ⟨t2, ht2⟩ : ∃ t, hasB B h = t := ⟨_, rfl⟩
    have HT : Hid (hasB bs h = t1 ∧ hasB B h = t2) := ⟨ht1, ht2⟩
    have HRW : Hid (∀ W, After w1 W → RowIs W w.heap.size 29 (c8 h)) := fun W hW => H1.out.2.1.below hW H1.out.2.1.lt
    clear ht1 ht2
    refine wp_region_noPanic ?_
    refine wp_region_held_drew (S := After w1) (by kernel_rfl) (After.drew (After.refl w1)) ?_
    intro hS0
    refine tk 0 14 (.slice bo bn bc) (fuel := 19) rfl (by kernel_rfl) (by kernel_rfl) (by kernel_rfl) (by kernel_rfl) noPanic_false (by kernel_rfl) (fun _ _ => by kernel_rfl) hS0 ?_
    refine tk 1 15 (.agg (c8 h).toArray) (fuel := 18) rfl (by kernel_rfl) (by kernel_rfl) (by kernel_rfl) (by kernel_rfl) noPanic_false (by kernel_rfl) (fun W hW => x_ld29 (x := .tmp 5) (g := w.heap.size) (h := h) HL.out.2.2.2.2.2.1 (by kernel_rfl) (by kernel_rfl) (HRW.out W hW)) hS0 ?_
    refine tk 3 17 (.slice bo bn bc) (fuel := 17) rfl (by kernel_rfl) (by kernel_rfl) (by kernel_rfl) (by kernel_rfl) noPanic_false (by kernel_rfl) (fun _ _ => by kernel_rfl) hS0 ?_
    refine tk 4 18 (.agg (c8 h).toArray) (fuel := 16) rfl (by kernel_rfl) (by kernel_rfl) (by kernel_rfl) (by kernel_rfl) noPanic_false (by kernel_rfl) (fun W hW => x_ld29 (x := .tmp 5) (g := w.heap.size) (h := h) HL.out.2.2.2.2.2.1 (by kernel_rfl) (by kernel_rfl) (HRW.out W hW)) hS0 ?_
    refine tkCall 2 16 17 #[.slice bo bn bc, .agg (c8 h).toArray] (fun v _ => v = .bool t1) (fuel := 15) rfl (by kernel_rfl) (by kernel_rfl) (by kernel_rfl) (fun _ => by kernel_rfl) hS0 ((bhas_any bo bn bc bs h HL.out.2.2.2.2.2.1 HL.out.1 HL.out.2.1 HL.out.2.2.1 _ (H1.out.2.2.2.2.2.2.after hS0)).mono (fun e w' ⟨he, ha⟩ => ⟨_, he, by rw [HT.out.1], ha⟩)) ?_
    rintro v u1 rfl ha1
    have hS1 : After u1 u1 := After.refl _
    have A1 : After w1 u1 := (hS0).trans ha1
    refine tkCall 5 19 18 #[.slice bo bn bc, .agg (c8 h).toArray] (fun v _ => v = .bool t1) (fuel := 14) rfl (by kernel_rfl) (by kernel_rfl) (by kernel_rfl) (fun _ => by kernel_rfl) hS1 ((rhas_any bo bn bc bs h HL.out.2.2.2.2.2.1 HL.out.1 HL.out.2.1 HL.out.2.2.1 _ (H1.out.2.2.2.2.2.2.after A1)).mono (fun e w' ⟨he, ha⟩ => ⟨_, he, by rw [HT.out.1], ha⟩)) ?_
    rintro v u2 rfl ha2
    have hS2 : After u2 u2 := After.refl _
    have A2 : After w1 u2 := (A1).trans ha2
    refine tk 6 20 (.bool true) (fuel := 13) rfl (by kernel_rfl) (by kernel_rfl) (by kernel_rfl) (by kernel_rfl) noPanic_false (by kernel_rfl) (fun W _ => x_eqb (x := .tmp 16) (y := .tmp 19) (b := t1) (by kernel_rfl) (by kernel_rfl) (by kernel_rfl)) hS2 ?_
    refine tk 7 21 (.bool true) (fuel := 12) rfl (by kernel_rfl) (by kernel_rfl) (by kernel_rfl) (by kernel_rfl) noPanic_false (by kernel_rfl) (fun _ _ => by kernel_rfl) hS2 ?_
    refine tk 8 22 (.slice a1 K c1) (fuel := 11) rfl (by kernel_rfl) (by kernel_rfl) (by kernel_rfl) (by kernel_rfl) noPanic_false (by kernel_rfl) (fun _ _ => by kernel_rfl) hS2 ?_
    refine tk 9 23 (.agg (c8 h).toArray) (fuel := 10) rfl (by kernel_rfl) (by kernel_rfl) (by kernel_rfl) (by kernel_rfl) noPanic_false (by kernel_rfl) (fun W hW => x_ld29 (x := .tmp 5) (g := w.heap.size) (h := h) HL.out.2.2.2.2.2.1 (by kernel_rfl) (by kernel_rfl) (HRW.out W (A2.trans hW))) hS2 ?_
    refine tk 11 25 (.slice a1 K c1) (fuel := 9) rfl (by kernel_rfl) (by kernel_rfl) (by kernel_rfl) (by kernel_rfl) noPanic_false (by kernel_rfl) (fun _ _ => by kernel_rfl) hS2 ?_
    refine tk 12 26 (.agg (c8 h).toArray) (fuel := 8) rfl (by kernel_rfl) (by kernel_rfl) (by kernel_rfl) (by kernel_rfl) noPanic_false (by kernel_rfl) (fun W hW => x_ld29 (x := .tmp 5) (g := w.heap.size) (h := h) HL.out.2.2.2.2.2.1 (by kernel_rfl) (by kernel_rfl) (HRW.out W (A2.trans hW))) hS2 ?_
    refine tkCall 10 24 17 #[.slice a1 K c1, .agg (c8 h).toArray] (fun v _ => v = .bool t2) (fuel := 7) rfl (by kernel_rfl) (by kernel_rfl) (by kernel_rfl) (fun _ => by kernel_rfl) hS2 ((bhas_any a1 K c1 B h HL.out.2.2.2.2.2.1 H1.out.2.2.2.1 H1.out.2.2.2.2.1 H1.out.2.2.2.2.2.1 _ (H1.out.2.2.1.after A2)).mono (fun e w' ⟨he, ha⟩ => ⟨_, he, by rw [HT.out.2], ha⟩)) ?_
    rintro v u3 rfl ha3
    have hS3 : After u3 u3 := After.refl _
    have A3 : After w1 u3 := (A2).trans ha3
    refine tkCall 13 27 18 #[.slice a1 K c1, .agg (c8 h).toArray] (fun v _ => v = .bool t2) (fuel := 6) rfl (by kernel_rfl) (by kernel_rfl) (by kernel_rfl) (fun _ => by kernel_rfl) hS3 ((rhas_any a1 K c1 B h HL.out.2.2.2.2.2.1 H1.out.2.2.2.1 H1.out.2.2.2.2.1 H1.out.2.2.2.2.2.1 _ (H1.out.2.2.1.after A3)).mono (fun e w' ⟨he, ha⟩ => ⟨_, he, by rw [HT.out.2], ha⟩)) ?_
    rintro v u4 rfl ha4
    have hS4 : After u4 u4 := After.refl _
    have A4 : After w1 u4 := (A3).trans ha4
    refine tk 14 28 (.bool true) (fuel := 5) rfl (by kernel_rfl) (by kernel_rfl) (by kernel_rfl) (by kernel_rfl) noPanic_false (by kernel_rfl) (fun W _ => x_eqb (x := .tmp 24) (y := .tmp 27) (b := t2) (by kernel_rfl) (by kernel_rfl) (by kernel_rfl)) hS4 ?_
    refine tk 15 29 (.bool true) (fuel := 4) rfl (by kernel_rfl) (by kernel_rfl) (by kernel_rfl) (by kernel_rfl) noPanic_false (by kernel_rfl) (fun _ _ => by kernel_rfl) hS4 ?_
    refine tk 16 30 (.bool true) (fuel := 3) rfl (by kernel_rfl) (by kernel_rfl) (by kernel_rfl) (by kernel_rfl) noPanic_false (by kernel_rfl) (fun _ _ => by kernel_rfl) hS4 ?_
    refine tkCall 17 31 10 #[] (fun v _ => v = .bool true) (fuel := 2) rfl (by kernel_rfl) (by kernel_rfl) (by kernel_rfl) (fun _ => by kernel_rfl) hS4 ((awake_any u4).mono (fun e w' ⟨he, ha⟩ => ⟨_, he, rfl, ha⟩)) ?_
    rintro v u5 rfl ha5
    have hS5 : After u5 u5 := After.refl _
    refine tk 18 32 (.bool true) (fuel := 1) rfl (by kernel_rfl) (by kernel_rfl) (by kernel_rfl) (by kernel_rfl) noPanic_false (by kernel_rfl) (fun _ _ => by kernel_rfl) hS5 ?_
    refine tk 19 6 (.bool true) (fuel := 0) rfl (by kernel_rfl) (by kernel_rfl) (by kernel_rfl) (by kernel_rfl) noPanic_false (by kernel_rfl) (fun _ _ => by kernel_rfl) hS5 ?_
    refine wpAnyH_done (by kernel_rfl) (NoPanic.normal ?_) _
    have HE : Hid (After w u5) := H1.out.1.trans (A4.trans ha5)
    clear hS0 hS1 hS2 hS3 hS4 hS5 ha1 ha2 ha3 ha4 ha5 A1 A2 A3 A4
    go_simp
    go_wp2
    go_ret
    exact ⟨rfl, HE.out⟩
  · have HF : Hid (decide (n ≤ 1000) = false) := decide_eq_false hn
    go_enter Try.func5, Try.ntmps5
    go_wp2_with (first
      | (go_at_call 10; refine Calls.mono (awake_any wb) ?_; rintro e w6 ⟨rfl, ha⟩; have H6 := show Hid (After w w6) from H0.out.1.trans ha; clear ha)
      | (go_at_call 9; refine Calls.mono (few_any ao n ca hbig wb HF.out) ?_; rintro e w0 ⟨rfl, h0⟩; have h0' := h0.symm; clear h0; subst h0'))
    go_ret
    exact ⟨rfl, H6.out⟩
end Go.Proofs.Ytgcgblecendijaa

namespace Go.Proofs.Ytgcgblecendijaa.BloomHas
open Go.ChangeShapes Go.WideShapes Go.ChangeAt Go.RowKit 
open Go.ChangeMaps (open_string)

set_option maxRecDepth 100000 in
/-- What the walk gives, for every argument and every world. -/
theorem contract (H : Type) (enc : TypeId × Value → H) (W : World) (base : Nat) (args : Array Value) (ds gs : List (DataW H)) (before : List MemPlace)
    (hval : ∀ (j : Nat) t v, Try.f5.params[j]? = some t → args[j]? = some v → Value.okWide Try.prog W .any base t v)
    (hW : DataW.Whole enc Try.prog Try.f5.params.toList Rows.bloomHasSpec.vars false W args.toList ds gs before)
    (hsz : (DataW.weightsEach Try.prog (Try.f5.params.toList ++ (OpenSpec.ofChange Rows.bloomHasSpec).bare.plain.varTypes Try.prog) (ds ++ gs)).all (· ≤ reachBytes) = true) :
    Calls Try.prog 5 args W fun e W' => ∃ v, e = .returned v ∧ Rows.bloomHasSpec.post enc Try.prog Try.f5 false true false false W args v W' := by
  have hW' := hW
  obtain ⟨p, q, hA0, hV, rfl, hfz, hnd⟩ := hW
  have hA : DataW.TrodAll enc Try.prog W 0 (fun _ => true) true Try.f5.params.toList args.toList ds p := hA0
  rw [Try.params5] at hA hval hsz
  obtain ⟨v0, vs0, d0, ds0, p0, q0, hargs, rfl, rfl, h0, r0⟩ := trodAll_cons hA
  obtain ⟨v1, vs1, d1, ds1, p1, q1, rfl, rfl, rfl, h1, r1⟩ := trodAll_cons r0
  obtain ⟨v2, vs2, d2, ds2, p2, q2, rfl, rfl, rfl, h2, r2⟩ := trodAll_cons r1
  obtain ⟨rfl, rfl, rfl⟩ := trodAll_nil r2
  obtain rfl : args = #[v0, v1, v2] := by cases args; simp_all
  obtain ⟨rfl, rfl⟩ := trodVars_none hV
  have k0 := h0
  have lt0 : ∀ x ∈ p0, x.block < W.heap.size := by obtain ⟨m, hm⟩ := k0; exact DataW.trod_lt m _ _ _ hm
  have k1 := h1
  have lt1 : ∀ x ∈ p1, x.block < W.heap.size := by obtain ⟨m, hm⟩ := k1; exact DataW.trod_lt m _ _ _ hm
  have k2 := h2
  have lt2 : ∀ x ∈ p2, x.block < W.heap.size := by obtain ⟨m, hm⟩ := k2; exact DataW.trod_lt m _ _ _ hm
  obtain ⟨a0, len0, cap0, rfl⟩ := okWide_slice Try.underlying26 (hval 0 26 v0 rfl rfl)
  obtain ⟨l0, hl0, hc0, hm0, hb0⟩ := open_bytes h0 (fun elems spare he => sized_slice hsz (j := 0) (t := 26) (e := 5) rfl (by rw [he]; rfl) Try.underlying26)
  obtain ⟨a1, len1, cap1, rfl⟩ := okWide_slice Try.underlying22 (hval 1 22 v1 rfl rfl)
  obtain ⟨l1, hl1, hc1, hn1, h321, hb1⟩ := open_hashes (hval 1 22 _ rfl rfl) h1 (fun m hm => by have := List.all_eq_true.1 hsz m (DataW.weights_mem_each (j := 1) (t := 22) rfl rfl m hm); simpa using this)
  obtain ⟨x2, hx2, rfl⟩ := open_hash (hval 2 29 v2 rfl rfl) h2
  clear hA0 hA
  refine (has_any a0 len0 cap0 l0 hl0 (by omega) (by omega) a1 len1 cap1 l1 h321 hl1 (by omega) x2 hx2 W hb0 hb1).mono fun e W' ⟨he, bel⟩ => ?_
  subst he
  exact ⟨_, rfl, _, _, _, [], _, [], hW', trodAll_mk1 (shut_bool Try.underlying4 _), (trodAll_cons_mk (Below.trod laidOut (by kernel_rfl) (of_decide_eq_true (by kernel_rfl)) k0 bel lt0) (trodAll_cons_mk (Below.trod laidOut (by kernel_rfl) (of_decide_eq_true (by kernel_rfl)) k1 bel lt1) (trodAll_cons_mk (Below.trod laidOut (by kernel_rfl) (of_decide_eq_true (by kernel_rfl)) k2 bel lt2) (trodAll_mk0)))), rfl, bel.frame _, fun h => by cases h⟩

set_option maxRecDepth 100000 in
/-- A world for the witness: the settled one. -/
theorem witness (os : Os) {H : Type} (enc : TypeId × Value → H) : ∃ (w : World) (tape : Tape) (i : Input), w.os = os ∧ (w.forCall tape i).Shaped Try.checked.prog ∧ i.vars = [] ∧ Input.okWide Try.checked.prog (w.forCall tape i) .any w.heap.size 5 i ∧
      (OpenSpec.ofChange Rows.bloomHasSpec).preRow enc Try.checked.prog Try.f5 Rows.bloomHasRow.domain false Rows.bloomHasRow.laid (w.forCall tape i).memory i.args ∧ ({} : Assume).holds Try.checked.prog (lone (Frame.enter Try.checked.prog 5 i.args .normal) [] (w.forCall tape i)) :=
  witness_row_at (enc := enc) (C := Try.checked) false (World.holding Try.prog os ⟨#[], #[], []⟩) #[.slice none 0 0, .slice none 0 0, .agg (Array.replicate 32 (.int .u8 0))] rfl (by kernel_rfl) (by kernel_rfl) (by kernel_rfl)
    (OpenSpec.preRow_of_cond 8 (x := ([.nil, .nil, .agg (List.replicate 32 (.lit (.int .u8 0)))], [], [])) (by kernel_rfl) (by kernel_rfl) (fun k hk => by cases hk) (by kernel_rfl) (laidMet_nil _ _))

set_option maxRecDepth 100000 in
theorem lifted (os : Os) (started : os.Started) (H : Type) (enc : TypeId × Value → H) (F : Stop.Interp) :
    ReturnsInHanded {} Try.checked os 5 .any ((OpenSpec.ofChange Rows.bloomHasSpec).preRow enc Try.prog Try.f5 Rows.bloomHasRow.domain false Rows.bloomHasRow.laid) (((OpenSpec.ofChange Rows.bloomHasSpec).at F).post enc Try.prog Try.f5 false true false false) := by
  refine returnsInHanded_of_row (C := Try.checked) (s := OpenSpec.ofChange Rows.bloomHasSpec) own started (by kernel_rfl) Try.func5 (witness os enc) ?_
  intro W base args ds gs before hval hW _ _ hsz _ _ _
  exact contract H enc W base args ds gs before hval hW hsz

set_option maxRecDepth 100000 in
theorem said : Rows.BloomHasSaid :=
  OpenClaim.holds_of_cond 5 Try.f5 rfl rfl rfl rfl rfl rfl rfl ⟨rfl, rfl, rfl, rfl, rfl⟩ rfl rfl rfl rfl rfl (by kernel_rfl) Try.func5 (by kernel_rfl)
    (of_decide_eq_true (by kernel_rfl)) (by unfold Func.isWrapper; first | (rw [if_pos (by decide +kernel)]; kernel_rfl) | (rw [if_neg (by decide +kernel)]; exact ⟨rfl, rfl⟩))
    (fun os started H enc _ F => by rw [OpenClaim.pre_eq_preRow]; exact lifted os started H enc F)
end Go.Proofs.Ytgcgblecendijaa.BloomHas
namespace Go.Proofs.Ytgcgblecendijaa
theorem bloomHas_holds : Rows.BloomHasSaid := BloomHas.said
end Go.Proofs.Ytgcgblecendijaa
