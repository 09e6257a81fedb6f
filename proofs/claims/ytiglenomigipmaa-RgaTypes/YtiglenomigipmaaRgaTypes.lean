/-
  PROVED: for every slice of puts, every slice of bytes and every number of eight bits that a call of stemmalaw11.RgaTypes is handed, the call returns true and what was handed in reads afterwards as it read before: what is typed, each character behind the one ahead, stands together, wherever it was begun, as long as its ids are the greatest; what goes is hidden alone. CONDITIONS: none; no input is left out.
-/
import Derived.Test.YtiglenomigipmaaSW
import Derived.Test.YtiglenomigipmaaTB
import Derived.Test.YtiglenomigipmaaSY
namespace Go.Proofs.Ytiglenomigipmaa
open Go.RowKit Go.Shelf
attribute [local go_sem] Oper.semAt_some
def rtext (L : List RC) : List UInt8 := (stays L).map (·.ch)
theorem rtext_snoc {L : List RC} {i : Nat} {c : RC} (hc : L[i]? = some c) : rtext (L.take (i + 1)) = if c.gone then rtext (L.take i) else rtext (L.take i) ++ [c.ch] := by
  have : L.take (i + 1) = L.take i ++ [c] := by rw [List.take_add_one, hc]; rfl
  unfold rtext stays
  rw [this, List.filter_append]
  cases hg : c.gone <;> simp [hg]
theorem RowR.ccell {w : World} {base g n cap : Nat} {l : List RC} (h : RowR w base (.slice (some ⟨g, 0, none⟩) n cap) l) {i : Nat} {c : RC} (hc : l[i]? = some c) : w.cell? ⟨g, i * 68 + 66, none⟩ = some (.int .u8 (c.ch.toNat : Int)) := by
  have hok := h.1 c (List.mem_of_getElem? hc)
  obtain ⟨g', hg, _, hr⟩ := h.at hc
  cases hg
  have := hr 66 (.int .u8 (c.ch.toNat : Int)) (by unfold rcell; rw [List.getElem?_append_right (by rw [idc_len hok.id]; omega), idc_len hok.id, List.getElem?_append_right (by rw [idc_len hok.af]; omega), idc_len hok.af]; rfl)
  rwa [Nat.zero_add] at this
theorem app56 {w1 W : World} {v : Value} {bs : List UInt8} (ha : After w1 W) (h : Own W w1.heap.size v bs) (b : UInt8) (hl : bs.length ≤ 1000000) : ∃ va m vc w', (Builtin.append_ #[56, 56] 56 #[v, .slice (some ⟨W.heap.size, 0, none⟩) 1 1]).run Try.prog (W.alloc (.cells #[.int .u8 (b.toNat : Int)] 5)) = .ok (.slice va m vc) w' ∧ Own w' w1.heap.size (.slice va m vc) (bs ++ [b]) ∧ After w1 w' := by
  have ha2 : After w1 (W.alloc (.cells #[.int .u8 (b.toNat : Int)] 5)) := after_alloc ha _
  obtain ⟨va, m, vc, w5, hr5, ho5, hg5, _⟩ := run_app56 (w := W.alloc (.cells #[.int .u8 (b.toNat : Int)] 5)) (base := w1.heap.size) (b := b) 56 (own_same h (fun k hk => Below.heap_alloc W _ k (own_lt h hk).2.1)) (g := W.heap.size) (RowIs.new W 5 _) (by omega) ha2.size
  refine ⟨va, m, vc, w5, hr5, ho5, ?_⟩
  refine ⟨hg5.os.trans ha2.os, hg5.tape.trans ha2.tape, hg5.output.trans ha2.output, Nat.le_trans ha2.size hg5.size, fun k hk => ?_⟩
  refine (hg5.block k (Nat.lt_of_lt_of_le hk ha2.size) (fun e => ?_)).trans (ha2.block k hk)
  have := (own_lt h e.symm).1
  omega
set_option maxRecDepth 100000 in
set_option maxHeartbeats 3200000 in
theorem rText_any {w : World} {v : Value} {L : List RC}
    (hC : ∀ w1, After w w1 → Calls Try.prog 34 #[.agg #[v]] w1 fun e w' => ∃ v', e = .returned v' ∧ RowR w' w1.heap.size v' L ∧ After w1 w') (hl : L.length ≤ 100000) :
    Calls Try.prog 35 #[.agg #[v]] w fun e w' => e = .returned (.string (strOf (rtext L))) ∧ After w w' := by
  obtain ⟨W0, hW0⟩ : ∃ W0, w.alloc (.cells #[v] 29) = W0 := ⟨_, rfl⟩
  have HA : Hid (After w W0 ∧ RowIs W0 w.heap.size 29 [v]) := by
    rw [← hW0]
    exact ⟨after_alloc (After.refl w) _, RowIs.new w 29 [v]⟩
  have HC : Hid (Calls Try.prog 34 #[.agg #[v]] W0 fun e w' => ∃ v', e = .returned v' ∧ RowR w' W0.heap.size v' L ∧ After W0 w') := hC W0 HA.out.1
  have HL : Hid (L.length ≤ 100000) := hl
  clear hC hl
  go_enter Try.func35, Try.ntmps35
  go_wp2_with (first
    | (rw [hW0])
    | (refine wpList_load_row rfl 29 (.tmp 1) rfl w.heap.size rfl 29 #[v] (0, 0) _ HA.out.2 Try.underlying29 rfl (size29 _) ?_)
    | (go_at_call 34; refine Calls.mono HC.out ?_; clear HC; rintro e w1 ⟨v1, rfl, hr1, hw1⟩; obtain ⟨va, cap, hv1⟩ := hr1.sl; obtain ⟨n, hn⟩ : ∃ n, L.length = n := ⟨_, rfl⟩; rw [hn] at hv1; subst hv1; have H1 := show Hid (RowR w1 W0.heap.size (.slice va n cap) L ∧ After w w1 ∧ L.length = n) from ⟨hr1, HA.out.1.trans hw1, hn⟩; clear hr1 hw1 hn))
  clear hW0
  go_loopw [4, 5] (fun vo vi wr => ∃ (i : Nat) (oa : Option Addr) (q oc : Nat), vo = .slice oa q oc ∧ vi = .int .i64 (i : Int) ∧ i ≤ n ∧ Hid (Own wr w1.heap.size (.slice oa q oc) (rtext (L.take i)) ∧ After w1 wr ∧ (rtext (L.take i)).length ≤ i)) (fun _ vi _ => n - (intOf vi).toNat)
  case atStart => exact ⟨0, none, 0, 0, rfl, rfl, Nat.zero_le _, Own.nil _ _, After.refl w1, Nat.le_refl _⟩
  case round =>
    obtain ⟨i, oa, q, oc, rfl, rfl, hin, HJ⟩ := hrel
    have hb6 : n ≤ 100000 := by have := HL.out; have := H1.out.2.2; omega
    by_cases hlt : i < n
    · have hii : (i : Int) < (n : Int) := by omega
      obtain ⟨c, hc⟩ : ∃ c, L[i]? = some c := ⟨_, List.getElem?_eq_getElem (by have := H1.out.2.2; omega)⟩
      have HRW : Hid (RowR wr W0.heap.size (.slice va n cap) L) := H1.out.1.after HJ.out.2.1
      obtain ⟨gs, hva, -, -⟩ := H1.out.1.at hc
      subst hva
      have cg := (HRW.out.gcell hc).1
      have cc := HRW.out.ccell hc
      have hsn := rtext_snoc hc
      clear hc
      cases hgn : c.gone with
      | true =>
        rw [hgn] at cg hsn
        have HS : Hid (rtext (L.take (i + 1)) = rtext (L.take i)) := hsn
        clear hgn cc hsn
        go_wp2_with fail
        go_roundw
        case rel => exact ⟨i + 1, oa, q, oc, rfl, by go_num, by omega, by rw [HS.out]; exact ⟨HJ.out.1, HJ.out.2.1, by have := HJ.out.2.2; omega⟩⟩
        case measure => simp [intOf]; omega
      | false =>
        rw [hgn] at cg hsn
        have HS : Hid (rtext (L.take (i + 1)) = rtext (L.take i) ++ [c.ch]) := hsn
        clear hgn hsn
        obtain ⟨va2, m2, vc2, w5, hr5, ho5, ha5⟩ := app56 HJ.out.2.1 HJ.out.1 c.ch (by have := HJ.out.2.2; omega)
        have H5 := show Hid _ from hr5
        have H6 := show Hid (Own w5 w1.heap.size (.slice va2 m2 vc2) (rtext (L.take i) ++ [c.ch]) ∧ After w1 w5) from ⟨ho5, ha5⟩
        clear hr5 ho5 ha5
        go_wp2_with (first
          | (refine wpList_of_run rfl (x_bs56 (x := .tmp 25) (b := c.ch) rfl (by kernel_rfl)) ?_)
          | (refine wpList_of_run rfl (x_app56 (s := .tmp 20) (x := .tmp 26) (v := .slice oa q oc) (u := .slice (some ⟨wr.heap.size, 0, none⟩) 1 1) rfl (by kernel_rfl) (by kernel_rfl) H5.out) ?_))
        go_roundw
        case rel => exact ⟨i + 1, va2, m2, vc2, rfl, by go_num, by omega, by rw [HS.out]; exact ⟨H6.out.1, H6.out.2, by have := HJ.out.2.2; rw [List.length_append]; simp; omega⟩⟩
        case measure => simp [intOf]; omega
    · obtain rfl : i = n := by omega
      have hii : ¬ (i : Int) < (i : Int) := by omega
      have HF : Hid (Own wr w1.heap.size (.slice oa q oc) (rtext L)) := by
        have := HJ.out.1
        rwa [List.take_of_length_le (by have := H1.out.2.2; omega)] at this
      go_wp2_with (first
        | (refine wpList_of_run rfl (x_conv (x := .tmp 28) rfl rfl HF.out.conv) ?_))
      go_ret
      exact ⟨rfl, H1.out.2.1.trans HJ.out.2.1⟩
theorem rText_all {w : World} {base : Nat} {v : Value} {st : List Stm} {l : List RC} (h : RowR w base v l) (hA : Alike st l) (hs : st.length ≤ 1000) :
    Calls Try.prog 35 #[.agg #[v]] w fun e w' => e = .returned (.string (strOf (rtext (bl l st.length zId)))) ∧ After w w' := by
  have hlen := hA.lnk.len
  exact rText_any (fun w1 hw1 => rCells_any (h.after hw1) hA.kid.lt (hA.bound hs) (by omega) (by omega)) (hA.bound hs _ _ (by have := cnt_le l zId; omega))
/-- Both tell the same text. -/
theorem Alike.text {st : List Stm} {l : List RC} (h : Alike st l) {U : List Nat} (hU : Reach st U []) : rtext (bl l st.length zId) = textOf st U := by
  rw [bl_top h.wf h.lnk h.kid hU (Nat.le_refl _)]
  unfold rtext textOf stays
  have hin : ∀ b ∈ U, ∃ u d, st[b]? = some u ∧ l[b - 1]? = some d ∧ d.ch = u.ch ∧ d.gone = u.gone := fun b hb => by
    obtain ⟨hb0, hbl, _⟩ := (hU.inv h.wf).par b (by simpa using hb)
    obtain ⟨u, hu⟩ : ∃ u, st[b]? = some u := ⟨_, List.getElem?_eq_getElem hbl⟩
    obtain ⟨d, hd, _, h4, h5⟩ := h.lnk.cl hb0 hu
    exact ⟨u, d, hu, hd, h4, h5⟩
  rw [filter_map' (fun b => cl l (b - 1)) (fun c => !c.gone) (p := live st) (fun b hb => by
    obtain ⟨u, d, hu, hd, _, h5⟩ := hin b hb
    rw [cl_of hd, live_of hu, h5]), List.map_map]
  refine List.map_congr_left (fun b hb => ?_)
  obtain ⟨u, d, hu, hd, h4, _⟩ := hin b (List.mem_filter.1 hb).1
  show (cl l (b - 1)).ch = chAt st b
  rw [cl_of hd, chAt_of hu, h4]
/-- Both tell the same cells. -/
theorem Alike.cells {st : List Stm} {l : List RC} (h : Alike st l) {U : List Nat} (hU : Reach st U []) {i : Nat} {c : RC} (hc : (bl l st.length zId)[i]? = some c) : (U.map (cOf st))[i]? = some (ccell c.id c.ch c.gone) := by
  rw [bl_top h.wf h.lnk h.kid hU (Nat.le_refl _), List.getElem?_map] at hc
  obtain ⟨b, hb, rfl⟩ := Option.map_eq_some_iff.1 hc
  obtain ⟨hb0, hbl, _⟩ := (hU.inv h.wf).par b (by have := List.mem_of_getElem? hb; simpa using this)
  obtain ⟨u, hu⟩ : ∃ u, st[b]? = some u := ⟨_, List.getElem?_eq_getElem hbl⟩
  obtain ⟨d, hd, h3, h4, h5⟩ := h.lnk.cl hb0 hu
  rw [List.getElem?_map, hb, cl_of hd, h3, h4, h5]
  exact congrArg some (cOf_of hu)
theorem Alike.count {st : List Stm} {l : List RC} (h : Alike st l) {U : List Nat} (hU : Reach st U []) : (bl l st.length zId).length = (U.map (cOf st)).length := by
  rw [bl_top h.wf h.lnk h.kid hU (Nat.le_refl _), List.length_map, List.length_map]
end Go.Proofs.Ytiglenomigipmaa

namespace Go.Proofs.Ytiglenomigipmaa
open Go.RowKit Go.Shelf
attribute [local go_sem] Oper.semAt_some
section
variable {oi : Oper} {a : Act} {w : World}
theorem x_len9 {x : Operand} {bs : List UInt8} (hop : oi.op = .call { callee := .builtin .len, args := #[x], argTypes := #[9] }) (hx : a.eval x = .string (strOf bs)) : (execOp a.eval oi).run Try.prog w = .ok (.value (.int .i64 (bs.length : Int))) w := by
  have hl : (Builtin.len_ #[9] oi.type #[.string (strOf bs)]).run Try.prog w = .ok (.int .i64 (bs.length : Int)) w := by
    have := strOf_size bs
    simp [go_sem, Builtin.len_, this]
  unfold execOp
  simp only [hop, resolve, invoke, builtin, Sem.run_bind, Sem.run_pure, Result.andThen_ok, List.map_toArray, List.map_cons, List.map_nil, hx, hl]
theorem x_ne3 {x y : Operand} {n : Nat} (hop : oi.op = .binOp .neq 3 x y 3) (hx : a.eval x = .int .i64 (n : Int)) (hy : a.eval y = .int .i64 (n : Int)) : (execOp a.eval oi).run Try.prog w = .ok (.value (.bool false)) w := by
  unfold execOp; simp only [hop, hx, hy]
  simp [go_sem]
theorem x_ne5 {x y : Operand} {n : Int} (hop : oi.op = .binOp .neq 5 x y 5) (hx : a.eval x = .int .u8 n) (hy : a.eval y = .int .u8 n) : (execOp a.eval oi).run Try.prog w = .ok (.value (.bool false)) w := by
  unfold execOp; simp only [hop, hx, hy]
  simp [go_sem]
theorem x_idx54 {x y : Operand} {b n c k : Nat} (hop : oi.op = .indexAddr 54 x y) (hx : a.eval x = .slice (some ⟨b, 0, none⟩) n c) (hy : a.eval y = .int .i64 (k : Int)) (hk : k < n) : (execOp a.eval oi).run Try.prog w = .ok (.value (.pointer (some ⟨b, k * 35, none⟩))) w := by
  have hk' : (k : Int) < (n : Int) := by omega
  have hz0 : (Try.prog.info? 63).map (·.size) = some 35 := by kernel_rfl
  obtain ⟨i, hi, hz⟩ := Option.map_eq_some_iff.1 hz0
  unfold execOp; simp only [hop, hx, hy]; simp [go_sem, hk', hi, hz, sizeOf, typeInfo]
theorem x_st5 {x y : Operand} {g p : Nat} {z : Int} {u : Value} (hop : oi.op = .store 5 x y) (hx : a.eval x = .pointer (some ⟨g, p, none⟩)) (hy : a.eval y = .int .u8 z) (hc : w.cell? ⟨g, p, none⟩ = some u) (hf : w.frozen? ⟨g, p, none⟩ = false) : (execOp a.eval oi).run Try.prog w = .ok .skip (w.setCell ⟨g, p, none⟩ (.int .u8 z)) := by
  unfold execOp
  simp only [hop, hx, hy]
  simp [go_sem, hc, hf, Instr.storeAt, Instr.sureAddr]
end
section
variable {ops : Array Oper} {Q : Exit → Act → World → Prop} {S : World → Prop} {fuel : Nat} {listed : Array Bool} {a : Act} {w : World} {oi oj : Oper}
/-- Two are ready: a value, and a call. -/
theorem tkVC (i d : Nat) (v : Value) (w1 : World) (j e : Nat) (f : FuncId) (args : Array Value) (R : Value → World → Prop) (hr : Region.ready .any ops listed = [i, j]) (hi : ops[i]? = some oi) (hd : oi.dst = some d) (hw : Region.wanted oi (yielded ops a.tmps) = true) (hrun : (execOp a.eval oi).run Try.prog w = .ok (.value v) w1) (hj : ops[j]? = some oj) (he : oj.dst = some e) (hwj : Region.wanted oj (yielded ops a.tmps) = true) (hrunj : ∀ w, (execOp a.eval oj).run Try.prog w = .ok (.enter f args) w) (hc : Calls Try.prog f args w fun e w' => ∃ v, e = .returned v ∧ R v w')
    (hA : S w1 ∧ wpAnyH Try.prog .any ops Q S fuel (listed.setIfInBounds i true) (a.put (some d) v) w1) (hB : ∀ v w', R v w' → S w' ∧ wpAnyH Try.prog .any ops Q S fuel (listed.setIfInBounds j true) (a.put (some e) v) w') : wpAnyH Try.prog .any ops Q S (fuel + 1) listed a w :=
  wpAnyH_all hr (by simp) (fun ii hii => by
    have h2 : ii = i ∨ ii = j := by simpa using hii
    rcases h2 with rfl | rfl
    · exact opVal ii d v w1 hi hd hw hrun hA
    · exact opCallK ii e f args R hj he hwj hrunj hc hB)
end
theorem own_sl {w : World} {base : Nat} {t : TypeId} {k : Nat} {v : Value} {L : List (List Value)} (h : OwnL w base t k v L) : ∃ va c, v = .slice va L.length c := by
  rcases own_row h.2 with ⟨hv, h0, _⟩ | ⟨g, cap, cs, hv, _⟩
  · rw [h0]; exact ⟨none, 0, hv⟩
  · exact ⟨_, _, hv⟩
theorem own_cell {w : World} {base : Nat} {va : Option Addr} {n c : Nat} {L : List (List Value)} {i : Nat} {id : Idn} {ch : UInt8} {gn : Bool} (h : OwnL w base 63 35 (.slice va n c) L) (hi : L[i]? = some (ccell id ch gn)) (hok : id.Ok) : ∃ g, va = some ⟨g, 0, none⟩ ∧ i < n ∧ w.rangeAt g (i * 35) (idc id) ∧ w.cell? ⟨g, i * 35 + 33, none⟩ = some (.int .u8 (ch.toNat : Int)) ∧ w.cell? ⟨g, i * 35 + 34, none⟩ = some (.bool gn) ∧ w.frozen? ⟨g, i * 35 + 33, none⟩ = false := by
  obtain ⟨g, cap, cs, he, _, hr, _⟩ := h.row (fun e => by rw [e] at hi; simp at hi)
  cases he
  have hrg := h.range hi
  refine ⟨g, rfl, (List.getElem?_eq_some_iff.1 hi).1, fun j u hu => hrg j u (by unfold ccell; rw [List.getElem?_append_left (List.getElem?_eq_some_iff.1 hu).1]; exact hu), ?_, ?_, hr.frozen _⟩
  · exact hrg 33 _ (by unfold ccell; rw [List.getElem?_append_right (by rw [idc_len hok]; omega), idc_len hok]; rfl)
  · exact hrg 34 _ (by unfold ccell; rw [List.getElem?_append_right (by rw [idc_len hok]; omega), idc_len hok]; rfl)
set_option maxRecDepth 100000 in
set_option maxHeartbeats 12800000 in
theorem same_any {w : World} {base g : Nat} {st : List Stm} {D : RwD} {v : Value} {l : List RC} (h : RowAt w base g st D) (hr : RowR w base v l) (hA : Alike st l) (hs : st.length ≤ 1000) :
    Calls Try.prog 17 #[.pointer (some ⟨g, 0, none⟩), .agg #[v]] w fun e w' => e = .returned (.bool true) ∧ After w w' := by
  obtain ⟨W0, hW0⟩ : ∃ W0, w.alloc (.cells #[v] 29) = W0 := ⟨_, rfl⟩
  have HA : Hid (After w W0 ∧ RowIs W0 w.heap.size 29 [v] ∧ True) := by
    rw [← hW0]
    exact ⟨after_alloc (After.refl w) _, RowIs.new w 29 [v], trivial⟩
  have HR : Hid (RowAt W0 base g st D ∧ RowR W0 base v l) := ⟨h.after HA.out.1, hr.after HA.out.1⟩
  have HL : Hid (Alike st l ∧ st.length ≤ 1000) := ⟨hA, hs⟩
  have HC : Hid (∀ w1, After w w1 → Calls Try.prog 34 #[.agg #[v]] w1 fun e w' => ∃ v', e = .returned v' ∧ RowR w' w1.heap.size v' (bl l st.length zId) ∧ After w1 w') := fun w1 hw1 => rCells_any (hr.after hw1) hA.kid.lt (hA.bound hs) (by have := hA.lnk.len; omega) (by have := hA.lnk.len; omega)
  clear h hr hA hs
  go_enter Try.func17, Try.ntmps17
  go_wp2_with (rw [hW0])
  clear hW0
  refine wp_region_noPanic ?_
  refine wp_region_held_drew (S := After W0) (by kernel_rfl) (After.drew (After.refl _)) ?_
  intro hS0
  refine tk 0 8 (.pointer (some ⟨g, 0, none⟩)) (fuel := 5) rfl (by kernel_rfl) (by kernel_rfl) (by kernel_rfl) (by kernel_rfl) noPanic_false (by kernel_rfl) (fun _ _ => by kernel_rfl) hS0 ?_
  refine tk 2 10 (.agg #[v]) (fuel := 4) rfl (by kernel_rfl) (by kernel_rfl) (by kernel_rfl) (by kernel_rfl) noPanic_false (by kernel_rfl) (fun W hW => x_ld29 (x := .tmp 3) (g := w.heap.size) (by kernel_rfl) (by kernel_rfl) (HA.out.2.1.below hW HA.out.2.1.lt)) hS0 ?_
  refine tkCallZ 1 9 24 #[.pointer (some ⟨g, 0, none⟩)] (fun v w' => ∃ U, Reach st U [] ∧ OwnL w' W0.heap.size 63 35 v (U.map (cOf st)) ∧ After W0 w') (fuel := 3) rfl (by kernel_rfl) (by kernel_rfl) (by kernel_rfl) (fun _ => by kernel_rfl) (Calls.mono (Cells_any (HR.out.1.after hS0) HL.out.1.wf (by have := HL.out.2; omega)) (fun e w' ⟨v, U, he, h1, h2, h3⟩ => ⟨_, he, U, h1, h2, hS0.trans h3⟩)) ?_
  intro x1 w1 ⟨U, hU, hx1, ha1⟩
  refine ⟨ha1, ?_⟩
  obtain ⟨xa, xc, hxv⟩ := own_sl hx1
  rw [← HL.out.1.count hU] at hxv
  subst hxv
  have hC := HC.out w1 ((HA.out.1).trans ha1)
  refine tkCallZ 3 11 34 #[.agg #[v]] (fun y w' => RowR w' w1.heap.size y (bl l st.length zId) ∧ After w1 w') (fuel := 2) rfl (by kernel_rfl) (by kernel_rfl) (by kernel_rfl) (fun _ => by kernel_rfl) (Calls.mono hC (fun e w' ⟨v', he, h1, h2⟩ => ⟨_, he, h1, h2⟩)) ?_
  intro y2 w2 ⟨hy2, ha2⟩
  have ha3 := ha1.trans ha2
  refine ⟨ha3, ?_⟩
  obtain ⟨ya, yc, hyv⟩ := hy2.sl
  subst hyv
  refine tk 4 5 (.slice xa (bl l st.length zId).length xc) (fuel := 1) rfl (by kernel_rfl) (by kernel_rfl) (by kernel_rfl) (by kernel_rfl) noPanic_false (by kernel_rfl) (fun _ _ => by kernel_rfl) ha3 ?_
  refine tk 5 6 (.slice ya (bl l st.length zId).length yc) (fuel := 0) rfl (by kernel_rfl) (by kernel_rfl) (by kernel_rfl) (by kernel_rfl) noPanic_false (by kernel_rfl) (fun _ _ => by kernel_rfl) ha3 ?_
  refine wpAnyH_done (by kernel_rfl) (NoPanic.normal ?_) _
  obtain ⟨L, hL⟩ : ∃ L, bl l st.length zId = L := ⟨_, rfl⟩
  obtain ⟨n, hn⟩ : ∃ n, L.length = n := ⟨_, rfl⟩
  have HN : Hid (bl l st.length zId = L ∧ L.length = n ∧ n ≤ 100000) := ⟨hL, hn, by rw [← hn, ← hL]; exact HL.out.1.bound HL.out.2 _ _ (by have := cnt_le l zId; have := HL.out.1.lnk.len; omega)⟩
  have HU : Hid (Reach st U [] ∧ (∀ (i : Nat) (c : RC), L[i]? = some c → (U.map (cOf st))[i]? = some (ccell c.id c.ch c.gone)) ∧ (U.map (cOf st)).length = n) := ⟨hU, fun i c hc => HL.out.1.cells hU (by rw [hL]; exact hc), by rw [← HL.out.1.count hU, hL, hn]⟩
  rw [hL, hn]
  rw [hL] at hx1 hy2
  rw [hn] at hx1 hy2
  have H2 : Hid (OwnL w2 W0.heap.size 63 35 (.slice xa n xc) (U.map (cOf st)) ∧ RowR w2 W0.heap.size (.slice ya n yc) L ∧ After W0 w2) := ⟨hx1.same (fun b hb => ha2.block b (own_lt hx1.2 hb).2.1), hy2.mono ha1.size, ha3⟩
  have HB2 : Hid (RowIs w2 w.heap.size 29 [v] ∧ RowAt w2 base g st D ∧ RowR w2 base v l) := ⟨HA.out.2.1.below ha3 HA.out.2.1.lt, HR.out.1.after ha3, HR.out.2.after ha3⟩
  obtain ⟨T, hT⟩ : ∃ T, textOf st U = T := ⟨_, rfl⟩
  have HT : Hid (textOf st U = T ∧ rtext (bl l st.length zId) = T ∧ (U.filter (live st)).length = T.length) := ⟨hT, by rw [HL.out.1.text hU]; exact hT, by rw [← hT]; unfold textOf; rw [List.length_map]⟩
  clear hU hx1 ha1 hC hy2 ha2 ha3 hS0 hL hn hT
  go_simp
  go_wp2_with fail
  refine wp_region_noPanic ?_
  refine wp_region_held_drew (S := After w2) (by kernel_rfl) (After.drew (After.refl _)) ?_
  intro hS0
  refine tk 0 12 (.slice xa n xc) (fuel := 20) rfl (by kernel_rfl) (by kernel_rfl) (by kernel_rfl) (by kernel_rfl) noPanic_false (by kernel_rfl) (fun _ _ => by kernel_rfl) hS0 ?_
  refine tk 1 13 (.int .i64 (n : Int)) (fuel := 19) rfl (by kernel_rfl) (by kernel_rfl) (by kernel_rfl) (by kernel_rfl) noPanic_false (by kernel_rfl) (fun _ _ => by kernel_rfl) hS0 ?_
  refine tk 2 14 (.slice ya n yc) (fuel := 18) rfl (by kernel_rfl) (by kernel_rfl) (by kernel_rfl) (by kernel_rfl) noPanic_false (by kernel_rfl) (fun _ _ => by kernel_rfl) hS0 ?_
  refine tk 3 15 (.int .i64 (n : Int)) (fuel := 17) rfl (by kernel_rfl) (by kernel_rfl) (by kernel_rfl) (by kernel_rfl) noPanic_false (by kernel_rfl) (fun _ _ => by kernel_rfl) hS0 ?_
  refine tk 4 16 (.bool false) (fuel := 16) rfl (by kernel_rfl) (by kernel_rfl) (by kernel_rfl) (by kernel_rfl) noPanic_false (by kernel_rfl) (fun W _ => x_ne3 (x := .tmp 13) (y := .tmp 15) (n := n) (by kernel_rfl) (by kernel_rfl) (by kernel_rfl)) hS0 ?_
  refine tk 5 17 (.bool false) (fuel := 15) rfl (by kernel_rfl) (by kernel_rfl) (by kernel_rfl) (by kernel_rfl) noPanic_false (by kernel_rfl) (fun _ _ => by kernel_rfl) hS0 ?_
  refine tk 6 18 (.pointer (some ⟨g, 0, none⟩)) (fuel := 14) rfl (by kernel_rfl) (by kernel_rfl) (by kernel_rfl) (by kernel_rfl) noPanic_false (by kernel_rfl) (fun _ _ => by kernel_rfl) hS0 ?_
  refine tk 9 21 (.agg #[v]) (fuel := 13) rfl (by kernel_rfl) (by kernel_rfl) (by kernel_rfl) (by kernel_rfl) noPanic_false (by kernel_rfl) (fun W hW => x_ld29 (x := .tmp 3) (g := w.heap.size) (by kernel_rfl) (by kernel_rfl) (HB2.out.1.below hW HB2.out.1.lt)) hS0 ?_
  refine tkCallZ 7 19 25 #[.pointer (some ⟨g, 0, none⟩)] (fun v w' => Own w' w2.heap.size v T ∧ After w2 w') (fuel := 12) rfl (by kernel_rfl) (by kernel_rfl) (by kernel_rfl) (fun _ => by kernel_rfl) (Calls.mono (Text_any (N := st.length) (HB2.out.2.1.after hS0) (fun V T h => HL.out.1.wf.few h) (fun V T h => HL.out.1.wf.in h) (by have := HL.out.2; omega)) (fun e w' ⟨v, U', he, h1, h2, h3⟩ => ⟨_, he, by rw [h1.uniq HU.out.1, HT.out.1] at h2; exact h2, hS0.trans h3⟩)) ?_
  intro v7 w7 ⟨hv7, ha7⟩
  refine ⟨ha7, ?_⟩
  refine tkVC 8 20 (.string (strOf T)) w7 10 22 35 #[.agg #[v]] (fun v w' => v = .string (strOf T) ∧ After w7 w') (fuel := 11) (by kernel_rfl) rfl (by kernel_rfl) (by kernel_rfl) (x_conv (x := .tmp 19) (by kernel_rfl) (by kernel_rfl) hv7.conv) rfl (by kernel_rfl) (by kernel_rfl) (fun _ => by kernel_rfl) (Calls.mono (rText_all (HB2.out.2.2.after ha7) HL.out.1 HL.out.2) (fun e w' ⟨he, ha⟩ => ⟨_, he, by rw [HT.out.2.1], ha⟩)) ⟨ha7, ?_⟩ ?_
  · refine tkCallZ 10 22 35 #[.agg #[v]] (fun v w' => v = .string (strOf T) ∧ After w2 w') (fuel := 10) rfl (by kernel_rfl) (by kernel_rfl) (by kernel_rfl) (fun _ => by kernel_rfl) (Calls.mono (rText_all (HB2.out.2.2.after ha7) HL.out.1 HL.out.2) (fun e w' ⟨he, ha⟩ => ⟨_, he, by rw [HT.out.2.1], ha7.trans ha⟩)) ?_
    intro v4 w4 ⟨hv4, ha4⟩
    subst hv4
    refine ⟨ha4, ?_⟩
    refine tk 11 23 (.bool false) (fuel := 9) rfl (by kernel_rfl) (by kernel_rfl) (by kernel_rfl) (by kernel_rfl) noPanic_false (by kernel_rfl) (fun W _ => x_streqf (x := .tmp 20) (y := .tmp 22) (s := strOf T) (t := strOf T) (by kernel_rfl) (by kernel_rfl) (by kernel_rfl) rfl) ha4 ?_
    refine tk 12 24 (.bool false) (fuel := 8) rfl (by kernel_rfl) (by kernel_rfl) (by kernel_rfl) (by kernel_rfl) noPanic_false (by kernel_rfl) (fun _ _ => by kernel_rfl) ha4 ?_
    refine tk 13 25 (.bool false) (fuel := 7) rfl (by kernel_rfl) (by kernel_rfl) (by kernel_rfl) (by kernel_rfl) noPanic_false (by kernel_rfl) (fun _ _ => by kernel_rfl) ha4 ?_
    refine tk 14 26 (.pointer (some ⟨g, 0, none⟩)) (fuel := 6) rfl (by kernel_rfl) (by kernel_rfl) (by kernel_rfl) (by kernel_rfl) noPanic_false (by kernel_rfl) (fun _ _ => by kernel_rfl) ha4 ?_
    refine tk 16 28 (.agg #[v]) (fuel := 5) rfl (by kernel_rfl) (by kernel_rfl) (by kernel_rfl) (by kernel_rfl) noPanic_false (by kernel_rfl) (fun W hW => x_ld29 (x := .tmp 3) (g := w.heap.size) (by kernel_rfl) (by kernel_rfl) (HB2.out.1.below hW HB2.out.1.lt)) ha4 ?_
    refine tkCallZ 15 27 26 #[.pointer (some ⟨g, 0, none⟩)] (fun v w' => v = .int .i64 (T.length : Int) ∧ After w2 w') (fuel := 4) rfl (by kernel_rfl) (by kernel_rfl) (by kernel_rfl) (fun _ => by kernel_rfl) (Calls.mono (Len_any (HB2.out.2.1.after ha4) HL.out.1.wf (by have := HL.out.2; omega)) (fun e w' ⟨U', h1, he, h3⟩ => ⟨_, he, by rw [h1.uniq HU.out.1, HT.out.2.2], ha4.trans h3⟩)) ?_
    intro v8 w8 ⟨hv8, ha8⟩
    subst hv8
    refine ⟨ha8, ?_⟩
    refine tkCallZ 17 29 35 #[.agg #[v]] (fun v w' => v = .string (strOf T) ∧ After w2 w') (fuel := 3) rfl (by kernel_rfl) (by kernel_rfl) (by kernel_rfl) (fun _ => by kernel_rfl) (Calls.mono (rText_all (HB2.out.2.2.after ha8) HL.out.1 HL.out.2) (fun e w' ⟨he, ha⟩ => ⟨_, he, by rw [HT.out.2.1], ha8.trans ha⟩)) ?_
    intro v9 w9 ⟨hv9, ha9⟩
    subst hv9
    refine ⟨ha9, ?_⟩
    refine tk 18 30 (.int .i64 (T.length : Int)) (fuel := 2) rfl (by kernel_rfl) (by kernel_rfl) (by kernel_rfl) (by kernel_rfl) noPanic_false (by kernel_rfl) (fun W _ => x_len9 (x := .tmp 29) (bs := T) (by kernel_rfl) (by kernel_rfl)) ha9 ?_
    refine tk 19 31 (.bool false) (fuel := 1) rfl (by kernel_rfl) (by kernel_rfl) (by kernel_rfl) (by kernel_rfl) noPanic_false (by kernel_rfl) (fun W _ => x_ne3 (x := .tmp 27) (y := .tmp 30) (n := T.length) (by kernel_rfl) (by kernel_rfl) (by kernel_rfl)) ha9 ?_
    refine tk 20 32 (.bool false) (fuel := 0) rfl (by kernel_rfl) (by kernel_rfl) (by kernel_rfl) (by kernel_rfl) noPanic_false (by kernel_rfl) (fun _ _ => by kernel_rfl) ha9 ?_
    refine wpAnyH_done (by kernel_rfl) (NoPanic.normal ?_) _
    have H9 := show Hid (After w2 w9) from ha9
    clear ha9 ha8 ha4 hS0 hv7 ha7
    go_simp
    go_wp2_with fail
    have H3 : Hid (OwnL w9 W0.heap.size 63 35 (.slice xa n xc) (U.map (cOf st)) ∧ RowR w9 W0.heap.size (.slice ya n yc) L ∧ After W0 w9) := ⟨H2.out.1.same (fun b hb => H9.out.block b (own_lt H2.out.1.2 hb).2.1), H2.out.2.1.after H9.out, H2.out.2.2.trans H9.out⟩
    clear H9
    go_loopw [7] (fun vi wr => ∃ i : Nat, vi = .int .i64 (i : Int) ∧ i ≤ n ∧ ∃ C : List (List Value), Hid (OwnL wr W0.heap.size 63 35 (.slice xa n xc) C ∧ (∀ j, i ≤ j → C[j]? = (U.map (cOf st))[j]?) ∧ RowR wr W0.heap.size (.slice ya n yc) L ∧ After W0 wr)) (fun vi _ => n - (intOf vi).toNat)
    case atStart => exact ⟨0, rfl, Nat.zero_le _, _, H3.out.1, fun _ _ => rfl, H3.out.2.1, H3.out.2.2⟩
    case round =>
      obtain ⟨i, rfl, hin, C, HJ⟩ := hrel
      have hb6 : n ≤ 100000 := HN.out.2.2
      by_cases hlt : i < n
      · have hii : (i : Int) < (n : Int) := by omega
        obtain ⟨c, hc⟩ : ∃ c, L[i]? = some c := ⟨_, List.getElem?_eq_getElem (by rw [HN.out.2.1]; exact hlt)⟩
        have hci : C[i]? = some (ccell c.id c.ch c.gone) := (HJ.out.2.1 i (Nat.le_refl _)).trans (HU.out.2.1 i c hc)
        have hok := HJ.out.2.2.1.1 c (List.mem_of_getElem? hc)
        obtain ⟨gx, hxa, -, hx1, hx2, hx3, hx4⟩ := own_cell HJ.out.1 hci hok.id
        subst hxa
        obtain ⟨gy, hya, -, hy1⟩ := HJ.out.2.2.1.at hc
        subst hya
        rw [Nat.zero_add] at hy1
        have HX : Hid (wr.rangeAt gx (i * 35) (idc c.id) ∧ wr.cell? ⟨gx, i * 35 + 33, none⟩ = some (.int .u8 (c.ch.toNat : Int)) ∧ wr.cell? ⟨gx, i * 35 + 34, none⟩ = some (.bool c.gone)) := ⟨hx1, hx2, hx3⟩
        have HY : Hid (wr.rangeAt gy (i * 68) (idc c.id) ∧ wr.cell? ⟨gy, i * 68 + 66, none⟩ = some (.int .u8 (c.ch.toNat : Int)) ∧ wr.cell? ⟨gy, i * 68 + 67, none⟩ = some (.bool c.gone)) := ⟨range_rid hy1, HJ.out.2.2.1.ccell hc, (HJ.out.2.2.1.gcell hc).1⟩
        have HI : Hid (i < n ∧ c.id.Ok ∧ C[i]? = some (ccell c.id c.ch c.gone)) := ⟨hlt, hok.id, hci⟩
        clear hx1 hx2 hx3 hx4 hy1 hc hci hok
        go_wp2_with fail
        refine wp_region_noPanic ?_
        refine wp_region_held_drew (S := After wr) (by kernel_rfl) (After.drew (After.refl _)) ?_
        intro hS0
        refine tk 0 39 (.slice (some ⟨gx, 0, none⟩) n xc) (fuel := 37) rfl (by kernel_rfl) (by kernel_rfl) (by kernel_rfl) (by kernel_rfl) noPanic_false (by kernel_rfl) (fun _ _ => by kernel_rfl) hS0 ?_
        refine tk 1 40 (.int .i64 (i : Int)) (fuel := 36) rfl (by kernel_rfl) (by kernel_rfl) (by kernel_rfl) (by kernel_rfl) noPanic_false (by kernel_rfl) (fun _ _ => by kernel_rfl) hS0 ?_
        refine tk 2 41 (.pointer (some ⟨gx, i * 35, none⟩)) (fuel := 35) rfl (by kernel_rfl) (by kernel_rfl) (by kernel_rfl) (by kernel_rfl) noPanic_false (by kernel_rfl) (fun W _ => x_idx54 (x := .tmp 39) (y := .tmp 40) (b := gx) (n := n) (c := xc) (k := i) (by kernel_rfl) (by kernel_rfl) (by kernel_rfl) HI.out.1) hS0 ?_
        refine tk 3 42 (.pointer (some ⟨gx, i * 35, none⟩)) (fuel := 34) rfl (by kernel_rfl) (by kernel_rfl) (by kernel_rfl) (by kernel_rfl) noPanic_false (by kernel_rfl) (fun _ _ => by kernel_rfl) hS0 ?_
        refine tk 4 43 (idv c.id) (fuel := 33) rfl (by kernel_rfl) (by kernel_rfl) (by kernel_rfl) (by kernel_rfl) noPanic_false (by kernel_rfl) (fun W hW => x_ld37m (x := .tmp 42) (g := gx) (p := i * 35) HI.out.2.1 (by kernel_rfl) (by kernel_rfl) (range_after HX.out.1 hW)) hS0 ?_
        refine tk 5 44 (.slice (some ⟨gy, 0, none⟩) n yc) (fuel := 32) rfl (by kernel_rfl) (by kernel_rfl) (by kernel_rfl) (by kernel_rfl) noPanic_false (by kernel_rfl) (fun _ _ => by kernel_rfl) hS0 ?_
        refine tk 6 45 (.int .i64 (i : Int)) (fuel := 31) rfl (by kernel_rfl) (by kernel_rfl) (by kernel_rfl) (by kernel_rfl) noPanic_false (by kernel_rfl) (fun _ _ => by kernel_rfl) hS0 ?_
        refine tk 7 46 (.pointer (some ⟨gy, i * 68, none⟩)) (fuel := 30) rfl (by kernel_rfl) (by kernel_rfl) (by kernel_rfl) (by kernel_rfl) noPanic_false (by kernel_rfl) (fun W _ => (x_idx27 (x := .tmp 44) (y := .tmp 45) (b := gy) (f := 0) (n := n) (c := yc) (k := i) (by kernel_rfl) (by kernel_rfl) (by kernel_rfl) HI.out.1).trans (by rw [Nat.zero_add])) hS0 ?_
        refine tk 8 47 (.pointer (some ⟨gy, i * 68, none⟩)) (fuel := 29) rfl (by kernel_rfl) (by kernel_rfl) (by kernel_rfl) (by kernel_rfl) noPanic_false (by kernel_rfl) (fun _ _ => by kernel_rfl) hS0 ?_
        refine tk 9 48 (idv c.id) (fuel := 28) rfl (by kernel_rfl) (by kernel_rfl) (by kernel_rfl) (by kernel_rfl) noPanic_false (by kernel_rfl) (fun W hW => x_ld40m (x := .tmp 47) (g := gy) (p := i * 68) HI.out.2.1 (by kernel_rfl) (by kernel_rfl) (range_after HY.out.1 hW)) hS0 ?_
        refine tkCallZ 10 49 18 #[idv c.id] (fun v w' => v = idv c.id ∧ After wr w') (fuel := 27) rfl (by kernel_rfl) (by kernel_rfl) (by kernel_rfl) (fun _ => by kernel_rfl) (Calls.mono (own_any HI.out.2.1 _) (fun e w' ⟨he, ha⟩ => ⟨_, he, rfl, hS0.trans ha⟩)) ?_
        intro v5 w5 ⟨hv5, ha5⟩
        subst hv5
        refine ⟨ha5, ?_⟩
        refine tk 11 50 (.bool false) (fuel := 26) rfl (by kernel_rfl) (by kernel_rfl) (by kernel_rfl) (by kernel_rfl) noPanic_false (by kernel_rfl) (fun W hW => (x_neId (x := .tmp 43) (y := .tmp 49) (h := c.id) (k := c.id) HI.out.2.1 HI.out.2.1 (by kernel_rfl) (by kernel_rfl) (by kernel_rfl)).trans (by simp)) ha5 ?_
        refine tk 12 51 (.bool false) (fuel := 25) rfl (by kernel_rfl) (by kernel_rfl) (by kernel_rfl) (by kernel_rfl) noPanic_false (by kernel_rfl) (fun _ _ => by kernel_rfl) ha5 ?_
        refine tk 13 52 (.slice (some ⟨gx, 0, none⟩) n xc) (fuel := 24) rfl (by kernel_rfl) (by kernel_rfl) (by kernel_rfl) (by kernel_rfl) noPanic_false (by kernel_rfl) (fun _ _ => by kernel_rfl) ha5 ?_
        refine tk 14 53 (.int .i64 (i : Int)) (fuel := 23) rfl (by kernel_rfl) (by kernel_rfl) (by kernel_rfl) (by kernel_rfl) noPanic_false (by kernel_rfl) (fun _ _ => by kernel_rfl) ha5 ?_
        refine tk 15 54 (.pointer (some ⟨gx, i * 35, none⟩)) (fuel := 22) rfl (by kernel_rfl) (by kernel_rfl) (by kernel_rfl) (by kernel_rfl) noPanic_false (by kernel_rfl) (fun W _ => x_idx54 (x := .tmp 52) (y := .tmp 53) (b := gx) (n := n) (c := xc) (k := i) (by kernel_rfl) (by kernel_rfl) (by kernel_rfl) HI.out.1) ha5 ?_
        refine tk 16 55 (.pointer (some ⟨gx, i * 35 + 33, none⟩)) (fuel := 21) rfl (by kernel_rfl) (by kernel_rfl) (by kernel_rfl) (by kernel_rfl) noPanic_false (by kernel_rfl) (fun _ _ => by kernel_rfl) ha5 ?_
        refine tk 17 56 (.int .u8 (c.ch.toNat : Int)) (fuel := 20) rfl (by kernel_rfl) (by kernel_rfl) (by kernel_rfl) (by kernel_rfl) noPanic_false (by kernel_rfl) (fun W hW => x_loadT (x := .tmp 55) (t := 5) (g := gx) (j := i * 35 + 33) Try.underlying5 rfl (by kernel_rfl) (by kernel_rfl) ((World.cell?_of_block (hW.block gx (World.block_lt_of_cell? wr _ HX.out.2.1))).trans HX.out.2.1)) ha5 ?_
        refine tk 18 57 (.slice (some ⟨gy, 0, none⟩) n yc) (fuel := 19) rfl (by kernel_rfl) (by kernel_rfl) (by kernel_rfl) (by kernel_rfl) noPanic_false (by kernel_rfl) (fun _ _ => by kernel_rfl) ha5 ?_
        refine tk 19 58 (.int .i64 (i : Int)) (fuel := 18) rfl (by kernel_rfl) (by kernel_rfl) (by kernel_rfl) (by kernel_rfl) noPanic_false (by kernel_rfl) (fun _ _ => by kernel_rfl) ha5 ?_
        refine tk 20 59 (.pointer (some ⟨gy, i * 68, none⟩)) (fuel := 17) rfl (by kernel_rfl) (by kernel_rfl) (by kernel_rfl) (by kernel_rfl) noPanic_false (by kernel_rfl) (fun W _ => (x_idx27 (x := .tmp 57) (y := .tmp 58) (b := gy) (f := 0) (n := n) (c := yc) (k := i) (by kernel_rfl) (by kernel_rfl) (by kernel_rfl) HI.out.1).trans (by rw [Nat.zero_add])) ha5 ?_
        refine tk 21 60 (.pointer (some ⟨gy, i * 68 + 66, none⟩)) (fuel := 16) rfl (by kernel_rfl) (by kernel_rfl) (by kernel_rfl) (by kernel_rfl) noPanic_false (by kernel_rfl) (fun _ _ => by kernel_rfl) ha5 ?_
        refine tk 22 61 (.int .u8 (c.ch.toNat : Int)) (fuel := 15) rfl (by kernel_rfl) (by kernel_rfl) (by kernel_rfl) (by kernel_rfl) noPanic_false (by kernel_rfl) (fun W hW => x_loadT (x := .tmp 60) (t := 5) (g := gy) (j := i * 68 + 66) Try.underlying5 rfl (by kernel_rfl) (by kernel_rfl) ((World.cell?_of_block (hW.block gy (World.block_lt_of_cell? wr _ HY.out.2.1))).trans HY.out.2.1)) ha5 ?_
        refine tk 23 62 (.bool false) (fuel := 14) rfl (by kernel_rfl) (by kernel_rfl) (by kernel_rfl) (by kernel_rfl) noPanic_false (by kernel_rfl) (fun W _ => x_ne5 (x := .tmp 56) (y := .tmp 61) (n := (c.ch.toNat : Int)) (by kernel_rfl) (by kernel_rfl) (by kernel_rfl)) ha5 ?_
        refine tk 24 63 (.bool false) (fuel := 13) rfl (by kernel_rfl) (by kernel_rfl) (by kernel_rfl) (by kernel_rfl) noPanic_false (by kernel_rfl) (fun _ _ => by kernel_rfl) ha5 ?_
        refine tk 25 64 (.bool false) (fuel := 12) rfl (by kernel_rfl) (by kernel_rfl) (by kernel_rfl) (by kernel_rfl) noPanic_false (by kernel_rfl) (fun _ _ => by kernel_rfl) ha5 ?_
        refine tk 26 65 (.slice (some ⟨gx, 0, none⟩) n xc) (fuel := 11) rfl (by kernel_rfl) (by kernel_rfl) (by kernel_rfl) (by kernel_rfl) noPanic_false (by kernel_rfl) (fun _ _ => by kernel_rfl) ha5 ?_
        refine tk 27 66 (.int .i64 (i : Int)) (fuel := 10) rfl (by kernel_rfl) (by kernel_rfl) (by kernel_rfl) (by kernel_rfl) noPanic_false (by kernel_rfl) (fun _ _ => by kernel_rfl) ha5 ?_
        refine tk 28 67 (.pointer (some ⟨gx, i * 35, none⟩)) (fuel := 9) rfl (by kernel_rfl) (by kernel_rfl) (by kernel_rfl) (by kernel_rfl) noPanic_false (by kernel_rfl) (fun W _ => x_idx54 (x := .tmp 65) (y := .tmp 66) (b := gx) (n := n) (c := xc) (k := i) (by kernel_rfl) (by kernel_rfl) (by kernel_rfl) HI.out.1) ha5 ?_
        refine tk 29 68 (.pointer (some ⟨gx, i * 35 + 34, none⟩)) (fuel := 8) rfl (by kernel_rfl) (by kernel_rfl) (by kernel_rfl) (by kernel_rfl) noPanic_false (by kernel_rfl) (fun _ _ => by kernel_rfl) ha5 ?_
        refine tk 30 69 (.bool c.gone) (fuel := 7) rfl (by kernel_rfl) (by kernel_rfl) (by kernel_rfl) (by kernel_rfl) noPanic_false (by kernel_rfl) (fun W hW => x_loadT (x := .tmp 68) (t := 4) (g := gx) (j := i * 35 + 34) Try.underlying4 rfl (by kernel_rfl) (by kernel_rfl) ((World.cell?_of_block (hW.block gx (World.block_lt_of_cell? wr _ HX.out.2.2))).trans HX.out.2.2)) ha5 ?_
        refine tk 31 70 (.slice (some ⟨gy, 0, none⟩) n yc) (fuel := 6) rfl (by kernel_rfl) (by kernel_rfl) (by kernel_rfl) (by kernel_rfl) noPanic_false (by kernel_rfl) (fun _ _ => by kernel_rfl) ha5 ?_
        refine tk 32 71 (.int .i64 (i : Int)) (fuel := 5) rfl (by kernel_rfl) (by kernel_rfl) (by kernel_rfl) (by kernel_rfl) noPanic_false (by kernel_rfl) (fun _ _ => by kernel_rfl) ha5 ?_
        refine tk 33 72 (.pointer (some ⟨gy, i * 68, none⟩)) (fuel := 4) rfl (by kernel_rfl) (by kernel_rfl) (by kernel_rfl) (by kernel_rfl) noPanic_false (by kernel_rfl) (fun W _ => (x_idx27 (x := .tmp 70) (y := .tmp 71) (b := gy) (f := 0) (n := n) (c := yc) (k := i) (by kernel_rfl) (by kernel_rfl) (by kernel_rfl) HI.out.1).trans (by rw [Nat.zero_add])) ha5 ?_
        refine tk 34 73 (.pointer (some ⟨gy, i * 68 + 67, none⟩)) (fuel := 3) rfl (by kernel_rfl) (by kernel_rfl) (by kernel_rfl) (by kernel_rfl) noPanic_false (by kernel_rfl) (fun _ _ => by kernel_rfl) ha5 ?_
        refine tk 35 74 (.bool c.gone) (fuel := 2) rfl (by kernel_rfl) (by kernel_rfl) (by kernel_rfl) (by kernel_rfl) noPanic_false (by kernel_rfl) (fun W hW => x_loadT (x := .tmp 73) (t := 4) (g := gy) (j := i * 68 + 67) Try.underlying4 rfl (by kernel_rfl) (by kernel_rfl) ((World.cell?_of_block (hW.block gy (World.block_lt_of_cell? wr _ HY.out.2.2))).trans HY.out.2.2)) ha5 ?_
        refine tk 36 75 (.bool false) (fuel := 1) rfl (by kernel_rfl) (by kernel_rfl) (by kernel_rfl) (by kernel_rfl) noPanic_false (by kernel_rfl) (fun W _ => x_neb (x := .tmp 69) (y := .tmp 74) (b := c.gone) (by kernel_rfl) (by kernel_rfl) (by kernel_rfl)) ha5 ?_
        refine tk 37 76 (.bool false) (fuel := 0) rfl (by kernel_rfl) (by kernel_rfl) (by kernel_rfl) (by kernel_rfl) noPanic_false (by kernel_rfl) (fun _ _ => by kernel_rfl) ha5 ?_
        refine wpAnyH_done (by kernel_rfl) (NoPanic.normal ?_) _
        have hxr := HJ.out.1.same (w' := w5) (fun b hb => ha5.block b (own_lt HJ.out.1.2 hb).2.1)
        obtain ⟨gx', hgx', -, -, cx, -, fx⟩ := own_cell hxr HI.out.2.2 HI.out.2.1
        cases hgx'
        have HS5 : Hid (∀ u, OwnL (w5.setCell ⟨gx, i * 35 + 33, none⟩ u) W0.heap.size 63 35 (.slice (some ⟨gx, 0, none⟩) n xc) (C.set i ((ccell c.id c.ch c.gone).set 33 u)) ∧ RowR (w5.setCell ⟨gx, i * 35 + 33, none⟩ u) W0.heap.size (.slice (some ⟨gy, 0, none⟩) n yc) L ∧ After W0 (w5.setCell ⟨gx, i * 35 + 33, none⟩ u)) := fun u => by
          have hyr := HJ.out.2.2.1.after ha5
          obtain ⟨hbx, hltx, csx, hrx⟩ := own_lt hxr.2 (b := gx) rfl
          refine ⟨hxr.set HI.out.2.2 (by omega) u, hyr.same (fun b hb => ?_), Below.setCell (HJ.out.2.2.2.trans ha5) (p := ⟨gx, i * 35 + 33, none⟩) hbx _⟩
          obtain ⟨_, _, csy, hry⟩ := own_lt hyr.2.2 hb
          exact Below.heap_setCell w5 ⟨gx, i * 35 + 33, none⟩ _ _ (fun e => by rw [e] at hry; exact absurd (hry.ty hrx).1 (by decide))
        have HCX := show Hid (w5.cell? ⟨gx, i * 35 + 33, none⟩ = some (.int .u8 (c.ch.toNat : Int)) ∧ w5.frozen? ⟨gx, i * 35 + 33, none⟩ = false) from ⟨cx, fx⟩
        clear hxr ha5 hS0 fx
        go_simp
        go_wp2_with (first
          | (refine wpList_of_run rfl (x_idx54 (x := .tmp 77) (y := .tmp 78) (b := gx) (n := n) (c := xc) (k := i) rfl (by kernel_rfl) (by kernel_rfl) HI.out.1) ?_)
          | (refine wpList_st rfl (x_st5 (x := .tmp 84) (y := .tmp 82) (g := gx) (p := i * 35 + 33) rfl (by kernel_rfl) rfl HCX.out.1 HCX.out.2) ?_))
        go_roundw
        case rel => exact ⟨i + 1, by go_num, by omega, _, (HS5.out _).1, fun j hj => (by rw [List.getElem?_set, if_neg (by omega)]; exact HJ.out.2.1 j (by omega)), (HS5.out _).2.1, (HS5.out _).2.2⟩
        case measure => simp [intOf]; omega
      · obtain rfl : i = n := by omega
        have hii : ¬ (i : Int) < (i : Int) := by omega
        go_wp2_with fail
        go_ret
        exact ⟨rfl, HA.out.1.trans HJ.out.2.2.2⟩
  · intro v4 w4 ⟨hv4, ha47⟩
    subst hv4
    have ha4 := ha7.trans ha47
    refine ⟨ha4, ?_⟩
    refine tkRunS 8 20 (.string (strOf T)) w4 (fuel := 10) rfl (by kernel_rfl) (by kernel_rfl) (by kernel_rfl) (x_conv (x := .tmp 19) (by kernel_rfl) (by kernel_rfl) (hv7.convA ha47)) ha4 ?_
    refine tk 11 23 (.bool false) (fuel := 9) rfl (by kernel_rfl) (by kernel_rfl) (by kernel_rfl) (by kernel_rfl) noPanic_false (by kernel_rfl) (fun W _ => x_streqf (x := .tmp 20) (y := .tmp 22) (s := strOf T) (t := strOf T) (by kernel_rfl) (by kernel_rfl) (by kernel_rfl) rfl) ha4 ?_
    refine tk 12 24 (.bool false) (fuel := 8) rfl (by kernel_rfl) (by kernel_rfl) (by kernel_rfl) (by kernel_rfl) noPanic_false (by kernel_rfl) (fun _ _ => by kernel_rfl) ha4 ?_
    refine tk 13 25 (.bool false) (fuel := 7) rfl (by kernel_rfl) (by kernel_rfl) (by kernel_rfl) (by kernel_rfl) noPanic_false (by kernel_rfl) (fun _ _ => by kernel_rfl) ha4 ?_
    refine tk 14 26 (.pointer (some ⟨g, 0, none⟩)) (fuel := 6) rfl (by kernel_rfl) (by kernel_rfl) (by kernel_rfl) (by kernel_rfl) noPanic_false (by kernel_rfl) (fun _ _ => by kernel_rfl) ha4 ?_
    refine tk 16 28 (.agg #[v]) (fuel := 5) rfl (by kernel_rfl) (by kernel_rfl) (by kernel_rfl) (by kernel_rfl) noPanic_false (by kernel_rfl) (fun W hW => x_ld29 (x := .tmp 3) (g := w.heap.size) (by kernel_rfl) (by kernel_rfl) (HB2.out.1.below hW HB2.out.1.lt)) ha4 ?_
    refine tkCallZ 15 27 26 #[.pointer (some ⟨g, 0, none⟩)] (fun v w' => v = .int .i64 (T.length : Int) ∧ After w2 w') (fuel := 4) rfl (by kernel_rfl) (by kernel_rfl) (by kernel_rfl) (fun _ => by kernel_rfl) (Calls.mono (Len_any (HB2.out.2.1.after ha4) HL.out.1.wf (by have := HL.out.2; omega)) (fun e w' ⟨U', h1, he, h3⟩ => ⟨_, he, by rw [h1.uniq HU.out.1, HT.out.2.2], ha4.trans h3⟩)) ?_
    intro v8 w8 ⟨hv8, ha8⟩
    subst hv8
    refine ⟨ha8, ?_⟩
    refine tkCallZ 17 29 35 #[.agg #[v]] (fun v w' => v = .string (strOf T) ∧ After w2 w') (fuel := 3) rfl (by kernel_rfl) (by kernel_rfl) (by kernel_rfl) (fun _ => by kernel_rfl) (Calls.mono (rText_all (HB2.out.2.2.after ha8) HL.out.1 HL.out.2) (fun e w' ⟨he, ha⟩ => ⟨_, he, by rw [HT.out.2.1], ha8.trans ha⟩)) ?_
    intro v9 w9 ⟨hv9, ha9⟩
    subst hv9
    refine ⟨ha9, ?_⟩
    refine tk 18 30 (.int .i64 (T.length : Int)) (fuel := 2) rfl (by kernel_rfl) (by kernel_rfl) (by kernel_rfl) (by kernel_rfl) noPanic_false (by kernel_rfl) (fun W _ => x_len9 (x := .tmp 29) (bs := T) (by kernel_rfl) (by kernel_rfl)) ha9 ?_
    refine tk 19 31 (.bool false) (fuel := 1) rfl (by kernel_rfl) (by kernel_rfl) (by kernel_rfl) (by kernel_rfl) noPanic_false (by kernel_rfl) (fun W _ => x_ne3 (x := .tmp 27) (y := .tmp 30) (n := T.length) (by kernel_rfl) (by kernel_rfl) (by kernel_rfl)) ha9 ?_
    refine tk 20 32 (.bool false) (fuel := 0) rfl (by kernel_rfl) (by kernel_rfl) (by kernel_rfl) (by kernel_rfl) noPanic_false (by kernel_rfl) (fun _ _ => by kernel_rfl) ha9 ?_
    refine wpAnyH_done (by kernel_rfl) (NoPanic.normal ?_) _
    have H9 := show Hid (After w2 w9) from ha9
    clear ha9 ha8 ha4 hS0 hv7 ha7 ha47
    go_simp
    go_wp2_with fail
    have H3 : Hid (OwnL w9 W0.heap.size 63 35 (.slice xa n xc) (U.map (cOf st)) ∧ RowR w9 W0.heap.size (.slice ya n yc) L ∧ After W0 w9) := ⟨H2.out.1.same (fun b hb => H9.out.block b (own_lt H2.out.1.2 hb).2.1), H2.out.2.1.after H9.out, H2.out.2.2.trans H9.out⟩
    clear H9
    go_loopw [7] (fun vi wr => ∃ i : Nat, vi = .int .i64 (i : Int) ∧ i ≤ n ∧ ∃ C : List (List Value), Hid (OwnL wr W0.heap.size 63 35 (.slice xa n xc) C ∧ (∀ j, i ≤ j → C[j]? = (U.map (cOf st))[j]?) ∧ RowR wr W0.heap.size (.slice ya n yc) L ∧ After W0 wr)) (fun vi _ => n - (intOf vi).toNat)
    case atStart => exact ⟨0, rfl, Nat.zero_le _, _, H3.out.1, fun _ _ => rfl, H3.out.2.1, H3.out.2.2⟩
    case round =>
      obtain ⟨i, rfl, hin, C, HJ⟩ := hrel
      have hb6 : n ≤ 100000 := HN.out.2.2
      by_cases hlt : i < n
      · have hii : (i : Int) < (n : Int) := by omega
        obtain ⟨c, hc⟩ : ∃ c, L[i]? = some c := ⟨_, List.getElem?_eq_getElem (by rw [HN.out.2.1]; exact hlt)⟩
        have hci : C[i]? = some (ccell c.id c.ch c.gone) := (HJ.out.2.1 i (Nat.le_refl _)).trans (HU.out.2.1 i c hc)
        have hok := HJ.out.2.2.1.1 c (List.mem_of_getElem? hc)
        obtain ⟨gx, hxa, -, hx1, hx2, hx3, hx4⟩ := own_cell HJ.out.1 hci hok.id
        subst hxa
        obtain ⟨gy, hya, -, hy1⟩ := HJ.out.2.2.1.at hc
        subst hya
        rw [Nat.zero_add] at hy1
        have HX : Hid (wr.rangeAt gx (i * 35) (idc c.id) ∧ wr.cell? ⟨gx, i * 35 + 33, none⟩ = some (.int .u8 (c.ch.toNat : Int)) ∧ wr.cell? ⟨gx, i * 35 + 34, none⟩ = some (.bool c.gone)) := ⟨hx1, hx2, hx3⟩
        have HY : Hid (wr.rangeAt gy (i * 68) (idc c.id) ∧ wr.cell? ⟨gy, i * 68 + 66, none⟩ = some (.int .u8 (c.ch.toNat : Int)) ∧ wr.cell? ⟨gy, i * 68 + 67, none⟩ = some (.bool c.gone)) := ⟨range_rid hy1, HJ.out.2.2.1.ccell hc, (HJ.out.2.2.1.gcell hc).1⟩
        have HI : Hid (i < n ∧ c.id.Ok ∧ C[i]? = some (ccell c.id c.ch c.gone)) := ⟨hlt, hok.id, hci⟩
        clear hx1 hx2 hx3 hx4 hy1 hc hci hok
        go_wp2_with fail
        refine wp_region_noPanic ?_
        refine wp_region_held_drew (S := After wr) (by kernel_rfl) (After.drew (After.refl _)) ?_
        intro hS0
        refine tk 0 39 (.slice (some ⟨gx, 0, none⟩) n xc) (fuel := 37) rfl (by kernel_rfl) (by kernel_rfl) (by kernel_rfl) (by kernel_rfl) noPanic_false (by kernel_rfl) (fun _ _ => by kernel_rfl) hS0 ?_
        refine tk 1 40 (.int .i64 (i : Int)) (fuel := 36) rfl (by kernel_rfl) (by kernel_rfl) (by kernel_rfl) (by kernel_rfl) noPanic_false (by kernel_rfl) (fun _ _ => by kernel_rfl) hS0 ?_
        refine tk 2 41 (.pointer (some ⟨gx, i * 35, none⟩)) (fuel := 35) rfl (by kernel_rfl) (by kernel_rfl) (by kernel_rfl) (by kernel_rfl) noPanic_false (by kernel_rfl) (fun W _ => x_idx54 (x := .tmp 39) (y := .tmp 40) (b := gx) (n := n) (c := xc) (k := i) (by kernel_rfl) (by kernel_rfl) (by kernel_rfl) HI.out.1) hS0 ?_
        refine tk 3 42 (.pointer (some ⟨gx, i * 35, none⟩)) (fuel := 34) rfl (by kernel_rfl) (by kernel_rfl) (by kernel_rfl) (by kernel_rfl) noPanic_false (by kernel_rfl) (fun _ _ => by kernel_rfl) hS0 ?_
        refine tk 4 43 (idv c.id) (fuel := 33) rfl (by kernel_rfl) (by kernel_rfl) (by kernel_rfl) (by kernel_rfl) noPanic_false (by kernel_rfl) (fun W hW => x_ld37m (x := .tmp 42) (g := gx) (p := i * 35) HI.out.2.1 (by kernel_rfl) (by kernel_rfl) (range_after HX.out.1 hW)) hS0 ?_
        refine tk 5 44 (.slice (some ⟨gy, 0, none⟩) n yc) (fuel := 32) rfl (by kernel_rfl) (by kernel_rfl) (by kernel_rfl) (by kernel_rfl) noPanic_false (by kernel_rfl) (fun _ _ => by kernel_rfl) hS0 ?_
        refine tk 6 45 (.int .i64 (i : Int)) (fuel := 31) rfl (by kernel_rfl) (by kernel_rfl) (by kernel_rfl) (by kernel_rfl) noPanic_false (by kernel_rfl) (fun _ _ => by kernel_rfl) hS0 ?_
        refine tk 7 46 (.pointer (some ⟨gy, i * 68, none⟩)) (fuel := 30) rfl (by kernel_rfl) (by kernel_rfl) (by kernel_rfl) (by kernel_rfl) noPanic_false (by kernel_rfl) (fun W _ => (x_idx27 (x := .tmp 44) (y := .tmp 45) (b := gy) (f := 0) (n := n) (c := yc) (k := i) (by kernel_rfl) (by kernel_rfl) (by kernel_rfl) HI.out.1).trans (by rw [Nat.zero_add])) hS0 ?_
        refine tk 8 47 (.pointer (some ⟨gy, i * 68, none⟩)) (fuel := 29) rfl (by kernel_rfl) (by kernel_rfl) (by kernel_rfl) (by kernel_rfl) noPanic_false (by kernel_rfl) (fun _ _ => by kernel_rfl) hS0 ?_
        refine tk 9 48 (idv c.id) (fuel := 28) rfl (by kernel_rfl) (by kernel_rfl) (by kernel_rfl) (by kernel_rfl) noPanic_false (by kernel_rfl) (fun W hW => x_ld40m (x := .tmp 47) (g := gy) (p := i * 68) HI.out.2.1 (by kernel_rfl) (by kernel_rfl) (range_after HY.out.1 hW)) hS0 ?_
        refine tkCallZ 10 49 18 #[idv c.id] (fun v w' => v = idv c.id ∧ After wr w') (fuel := 27) rfl (by kernel_rfl) (by kernel_rfl) (by kernel_rfl) (fun _ => by kernel_rfl) (Calls.mono (own_any HI.out.2.1 _) (fun e w' ⟨he, ha⟩ => ⟨_, he, rfl, hS0.trans ha⟩)) ?_
        intro v5 w5 ⟨hv5, ha5⟩
        subst hv5
        refine ⟨ha5, ?_⟩
        refine tk 11 50 (.bool false) (fuel := 26) rfl (by kernel_rfl) (by kernel_rfl) (by kernel_rfl) (by kernel_rfl) noPanic_false (by kernel_rfl) (fun W hW => (x_neId (x := .tmp 43) (y := .tmp 49) (h := c.id) (k := c.id) HI.out.2.1 HI.out.2.1 (by kernel_rfl) (by kernel_rfl) (by kernel_rfl)).trans (by simp)) ha5 ?_
        refine tk 12 51 (.bool false) (fuel := 25) rfl (by kernel_rfl) (by kernel_rfl) (by kernel_rfl) (by kernel_rfl) noPanic_false (by kernel_rfl) (fun _ _ => by kernel_rfl) ha5 ?_
        refine tk 13 52 (.slice (some ⟨gx, 0, none⟩) n xc) (fuel := 24) rfl (by kernel_rfl) (by kernel_rfl) (by kernel_rfl) (by kernel_rfl) noPanic_false (by kernel_rfl) (fun _ _ => by kernel_rfl) ha5 ?_
        refine tk 14 53 (.int .i64 (i : Int)) (fuel := 23) rfl (by kernel_rfl) (by kernel_rfl) (by kernel_rfl) (by kernel_rfl) noPanic_false (by kernel_rfl) (fun _ _ => by kernel_rfl) ha5 ?_
        refine tk 15 54 (.pointer (some ⟨gx, i * 35, none⟩)) (fuel := 22) rfl (by kernel_rfl) (by kernel_rfl) (by kernel_rfl) (by kernel_rfl) noPanic_false (by kernel_rfl) (fun W _ => x_idx54 (x := .tmp 52) (y := .tmp 53) (b := gx) (n := n) (c := xc) (k := i) (by kernel_rfl) (by kernel_rfl) (by kernel_rfl) HI.out.1) ha5 ?_
        refine tk 16 55 (.pointer (some ⟨gx, i * 35 + 33, none⟩)) (fuel := 21) rfl (by kernel_rfl) (by kernel_rfl) (by kernel_rfl) (by kernel_rfl) noPanic_false (by kernel_rfl) (fun _ _ => by kernel_rfl) ha5 ?_
        refine tk 17 56 (.int .u8 (c.ch.toNat : Int)) (fuel := 20) rfl (by kernel_rfl) (by kernel_rfl) (by kernel_rfl) (by kernel_rfl) noPanic_false (by kernel_rfl) (fun W hW => x_loadT (x := .tmp 55) (t := 5) (g := gx) (j := i * 35 + 33) Try.underlying5 rfl (by kernel_rfl) (by kernel_rfl) ((World.cell?_of_block (hW.block gx (World.block_lt_of_cell? wr _ HX.out.2.1))).trans HX.out.2.1)) ha5 ?_
        refine tk 18 57 (.slice (some ⟨gy, 0, none⟩) n yc) (fuel := 19) rfl (by kernel_rfl) (by kernel_rfl) (by kernel_rfl) (by kernel_rfl) noPanic_false (by kernel_rfl) (fun _ _ => by kernel_rfl) ha5 ?_
        refine tk 19 58 (.int .i64 (i : Int)) (fuel := 18) rfl (by kernel_rfl) (by kernel_rfl) (by kernel_rfl) (by kernel_rfl) noPanic_false (by kernel_rfl) (fun _ _ => by kernel_rfl) ha5 ?_
        refine tk 20 59 (.pointer (some ⟨gy, i * 68, none⟩)) (fuel := 17) rfl (by kernel_rfl) (by kernel_rfl) (by kernel_rfl) (by kernel_rfl) noPanic_false (by kernel_rfl) (fun W _ => (x_idx27 (x := .tmp 57) (y := .tmp 58) (b := gy) (f := 0) (n := n) (c := yc) (k := i) (by kernel_rfl) (by kernel_rfl) (by kernel_rfl) HI.out.1).trans (by rw [Nat.zero_add])) ha5 ?_
        refine tk 21 60 (.pointer (some ⟨gy, i * 68 + 66, none⟩)) (fuel := 16) rfl (by kernel_rfl) (by kernel_rfl) (by kernel_rfl) (by kernel_rfl) noPanic_false (by kernel_rfl) (fun _ _ => by kernel_rfl) ha5 ?_
        refine tk 22 61 (.int .u8 (c.ch.toNat : Int)) (fuel := 15) rfl (by kernel_rfl) (by kernel_rfl) (by kernel_rfl) (by kernel_rfl) noPanic_false (by kernel_rfl) (fun W hW => x_loadT (x := .tmp 60) (t := 5) (g := gy) (j := i * 68 + 66) Try.underlying5 rfl (by kernel_rfl) (by kernel_rfl) ((World.cell?_of_block (hW.block gy (World.block_lt_of_cell? wr _ HY.out.2.1))).trans HY.out.2.1)) ha5 ?_
        refine tk 23 62 (.bool false) (fuel := 14) rfl (by kernel_rfl) (by kernel_rfl) (by kernel_rfl) (by kernel_rfl) noPanic_false (by kernel_rfl) (fun W _ => x_ne5 (x := .tmp 56) (y := .tmp 61) (n := (c.ch.toNat : Int)) (by kernel_rfl) (by kernel_rfl) (by kernel_rfl)) ha5 ?_
        refine tk 24 63 (.bool false) (fuel := 13) rfl (by kernel_rfl) (by kernel_rfl) (by kernel_rfl) (by kernel_rfl) noPanic_false (by kernel_rfl) (fun _ _ => by kernel_rfl) ha5 ?_
        refine tk 25 64 (.bool false) (fuel := 12) rfl (by kernel_rfl) (by kernel_rfl) (by kernel_rfl) (by kernel_rfl) noPanic_false (by kernel_rfl) (fun _ _ => by kernel_rfl) ha5 ?_
        refine tk 26 65 (.slice (some ⟨gx, 0, none⟩) n xc) (fuel := 11) rfl (by kernel_rfl) (by kernel_rfl) (by kernel_rfl) (by kernel_rfl) noPanic_false (by kernel_rfl) (fun _ _ => by kernel_rfl) ha5 ?_
        refine tk 27 66 (.int .i64 (i : Int)) (fuel := 10) rfl (by kernel_rfl) (by kernel_rfl) (by kernel_rfl) (by kernel_rfl) noPanic_false (by kernel_rfl) (fun _ _ => by kernel_rfl) ha5 ?_
        refine tk 28 67 (.pointer (some ⟨gx, i * 35, none⟩)) (fuel := 9) rfl (by kernel_rfl) (by kernel_rfl) (by kernel_rfl) (by kernel_rfl) noPanic_false (by kernel_rfl) (fun W _ => x_idx54 (x := .tmp 65) (y := .tmp 66) (b := gx) (n := n) (c := xc) (k := i) (by kernel_rfl) (by kernel_rfl) (by kernel_rfl) HI.out.1) ha5 ?_
        refine tk 29 68 (.pointer (some ⟨gx, i * 35 + 34, none⟩)) (fuel := 8) rfl (by kernel_rfl) (by kernel_rfl) (by kernel_rfl) (by kernel_rfl) noPanic_false (by kernel_rfl) (fun _ _ => by kernel_rfl) ha5 ?_
        refine tk 30 69 (.bool c.gone) (fuel := 7) rfl (by kernel_rfl) (by kernel_rfl) (by kernel_rfl) (by kernel_rfl) noPanic_false (by kernel_rfl) (fun W hW => x_loadT (x := .tmp 68) (t := 4) (g := gx) (j := i * 35 + 34) Try.underlying4 rfl (by kernel_rfl) (by kernel_rfl) ((World.cell?_of_block (hW.block gx (World.block_lt_of_cell? wr _ HX.out.2.2))).trans HX.out.2.2)) ha5 ?_
        refine tk 31 70 (.slice (some ⟨gy, 0, none⟩) n yc) (fuel := 6) rfl (by kernel_rfl) (by kernel_rfl) (by kernel_rfl) (by kernel_rfl) noPanic_false (by kernel_rfl) (fun _ _ => by kernel_rfl) ha5 ?_
        refine tk 32 71 (.int .i64 (i : Int)) (fuel := 5) rfl (by kernel_rfl) (by kernel_rfl) (by kernel_rfl) (by kernel_rfl) noPanic_false (by kernel_rfl) (fun _ _ => by kernel_rfl) ha5 ?_
        refine tk 33 72 (.pointer (some ⟨gy, i * 68, none⟩)) (fuel := 4) rfl (by kernel_rfl) (by kernel_rfl) (by kernel_rfl) (by kernel_rfl) noPanic_false (by kernel_rfl) (fun W _ => (x_idx27 (x := .tmp 70) (y := .tmp 71) (b := gy) (f := 0) (n := n) (c := yc) (k := i) (by kernel_rfl) (by kernel_rfl) (by kernel_rfl) HI.out.1).trans (by rw [Nat.zero_add])) ha5 ?_
        refine tk 34 73 (.pointer (some ⟨gy, i * 68 + 67, none⟩)) (fuel := 3) rfl (by kernel_rfl) (by kernel_rfl) (by kernel_rfl) (by kernel_rfl) noPanic_false (by kernel_rfl) (fun _ _ => by kernel_rfl) ha5 ?_
        refine tk 35 74 (.bool c.gone) (fuel := 2) rfl (by kernel_rfl) (by kernel_rfl) (by kernel_rfl) (by kernel_rfl) noPanic_false (by kernel_rfl) (fun W hW => x_loadT (x := .tmp 73) (t := 4) (g := gy) (j := i * 68 + 67) Try.underlying4 rfl (by kernel_rfl) (by kernel_rfl) ((World.cell?_of_block (hW.block gy (World.block_lt_of_cell? wr _ HY.out.2.2))).trans HY.out.2.2)) ha5 ?_
        refine tk 36 75 (.bool false) (fuel := 1) rfl (by kernel_rfl) (by kernel_rfl) (by kernel_rfl) (by kernel_rfl) noPanic_false (by kernel_rfl) (fun W _ => x_neb (x := .tmp 69) (y := .tmp 74) (b := c.gone) (by kernel_rfl) (by kernel_rfl) (by kernel_rfl)) ha5 ?_
        refine tk 37 76 (.bool false) (fuel := 0) rfl (by kernel_rfl) (by kernel_rfl) (by kernel_rfl) (by kernel_rfl) noPanic_false (by kernel_rfl) (fun _ _ => by kernel_rfl) ha5 ?_
        refine wpAnyH_done (by kernel_rfl) (NoPanic.normal ?_) _
        have hxr := HJ.out.1.same (w' := w5) (fun b hb => ha5.block b (own_lt HJ.out.1.2 hb).2.1)
        obtain ⟨gx', hgx', -, -, cx, -, fx⟩ := own_cell hxr HI.out.2.2 HI.out.2.1
        cases hgx'
        have HS5 : Hid (∀ u, OwnL (w5.setCell ⟨gx, i * 35 + 33, none⟩ u) W0.heap.size 63 35 (.slice (some ⟨gx, 0, none⟩) n xc) (C.set i ((ccell c.id c.ch c.gone).set 33 u)) ∧ RowR (w5.setCell ⟨gx, i * 35 + 33, none⟩ u) W0.heap.size (.slice (some ⟨gy, 0, none⟩) n yc) L ∧ After W0 (w5.setCell ⟨gx, i * 35 + 33, none⟩ u)) := fun u => by
          have hyr := HJ.out.2.2.1.after ha5
          obtain ⟨hbx, hltx, csx, hrx⟩ := own_lt hxr.2 (b := gx) rfl
          refine ⟨hxr.set HI.out.2.2 (by omega) u, hyr.same (fun b hb => ?_), Below.setCell (HJ.out.2.2.2.trans ha5) (p := ⟨gx, i * 35 + 33, none⟩) hbx _⟩
          obtain ⟨_, _, csy, hry⟩ := own_lt hyr.2.2 hb
          exact Below.heap_setCell w5 ⟨gx, i * 35 + 33, none⟩ _ _ (fun e => by rw [e] at hry; exact absurd (hry.ty hrx).1 (by decide))
        have HCX := show Hid (w5.cell? ⟨gx, i * 35 + 33, none⟩ = some (.int .u8 (c.ch.toNat : Int)) ∧ w5.frozen? ⟨gx, i * 35 + 33, none⟩ = false) from ⟨cx, fx⟩
        clear hxr ha5 hS0 fx
        go_simp
        go_wp2_with (first
          | (refine wpList_of_run rfl (x_idx54 (x := .tmp 77) (y := .tmp 78) (b := gx) (n := n) (c := xc) (k := i) rfl (by kernel_rfl) (by kernel_rfl) HI.out.1) ?_)
          | (refine wpList_st rfl (x_st5 (x := .tmp 84) (y := .tmp 82) (g := gx) (p := i * 35 + 33) rfl (by kernel_rfl) rfl HCX.out.1 HCX.out.2) ?_))
        go_roundw
        case rel => exact ⟨i + 1, by go_num, by omega, _, (HS5.out _).1, fun j hj => (by rw [List.getElem?_set, if_neg (by omega)]; exact HJ.out.2.1 j (by omega)), (HS5.out _).2.1, (HS5.out _).2.2⟩
        case measure => simp [intOf]; omega
      · obtain rfl : i = n := by omega
        have hii : ¬ (i : Int) < (i : Int) := by omega
        go_wp2_with fail
        go_ret
        exact ⟨rfl, HA.out.1.trans HJ.out.2.2.2⟩
end Go.Proofs.Ytiglenomigipmaa

namespace Go.Proofs.Ytiglenomigipmaa
open Go.RowKit Go.Shelf
/-- Falling by the ids. -/
def Fall (l : List RC) : Prop := l.Pairwise fun a b => ltI b.id a.id = true
theorem ltI_asym {a b : Idn} (h : ltI a b = true) : ltI b a ≠ true := fun k => ltI_irr (ltI_trans h k)
theorem Fall.ins {c : RC} : ∀ {L : List RC}, Fall L → c.id.Ok → (∀ d ∈ L, d.id.Ok ∧ d.id ≠ c.id) → Fall (gIns RC.id c L)
  | [], _, _, _ => by unfold Fall; simp [gIns]
  | k :: L, h, hc, hd => by
    unfold Fall at h
    rw [List.pairwise_cons] at h
    have hk := hd k (by simp)
    simp only [gIns]
    cases hl : ltI c.id k.id with
    | true =>
      simp only [if_true]
      refine List.pairwise_cons.2 ⟨fun d hd' => ?_, Fall.ins h.2 hc (fun d hd' => hd d (by simp [hd']))⟩
      rcases mem_gIns.1 hd' with rfl | hd'
      · exact hl
      · exact h.1 d hd'
    | false =>
      simp only [Bool.false_eq_true, if_false]
      have hkc : ltI k.id c.id = true := ltI_total hc hk.1 (fun e => hk.2 e.symm) hl
      refine List.pairwise_cons.2 ⟨fun d hd' => ?_, List.pairwise_cons.2 h⟩
      rcases List.mem_cons.1 hd' with rfl | hd'
      · exact hkc
      · exact ltI_trans (h.1 d hd') hkc
theorem kids_fall {x : Idn} (l : List RC) : (∀ c ∈ l, c.id.Ok) → (l.map (·.id)).Nodup → Fall (kids l x) := by
  refine snoc_ind (P := fun l => (∀ c ∈ l, c.id.Ok) → (l.map (·.id)).Nodup → Fall (kids l x)) (fun _ _ => List.Pairwise.nil) (fun L c ih hok hnd => ?_) l
  rw [List.map_append, List.nodup_append] at hnd
  have h1 := ih (fun d hd => hok d (by simp [hd])) hnd.1
  unfold kids at h1 ⊢
  rw [gKids_snoc]
  split
  · refine h1.ins (hok c (by simp)) (fun d hd => ?_)
    have hdL := ((mem_gKids L).1 hd).1
    exact ⟨hok d (by simp [hdL]), hnd.2.2 d.id (List.mem_map_of_mem hdL) c.id (by simp)⟩
  · exact h1
theorem fall_eq : ∀ {A B : List RC}, Fall A → Fall B → (∀ c, c ∈ A ↔ c ∈ B) → A = B
  | [], [], _, _, _ => rfl
  | [], b :: B, _, _, h => by have := (h b).2 (by simp); cases this
  | a :: A, [], _, _, h => by have := (h a).1 (by simp); cases this
  | a :: A, b :: B, hA, hB, h => by
    unfold Fall at hA hB
    rw [List.pairwise_cons] at hA hB
    have e : a = b := by
      rcases List.mem_cons.1 ((h a).1 (by simp)) with e | hab
      · exact e
      · rcases List.mem_cons.1 ((h b).2 (by simp)) with e | hba
        · exact e.symm
        · exact absurd (hB.1 a hab) (ltI_asym (hA.1 b hba))
    subst e
    have na : a ∉ A := fun hm => ltI_irr (hA.1 a hm)
    have nb : a ∉ B := fun hm => ltI_irr (hB.1 a hm)
    rw [fall_eq hA.2 hB.2 (fun c => ⟨fun hc => by
      rcases List.mem_cons.1 ((h c).1 (by simp [hc])) with e | h2
      · subst e; exact absurd hc na
      · exact h2, fun hc => by
      rcases List.mem_cons.1 ((h c).2 (by simp [hc])) with e | h2
      · subst e; exact absurd hc nb
      · exact h2⟩)]
theorem kids_perm {l l' : List RC} (hp : l.Perm l') (hok : ∀ c ∈ l, c.id.Ok) (hnd : (l.map (·.id)).Nodup) (x : Idn) : kids l x = kids l' x := by
  refine fall_eq (kids_fall l hok hnd) (kids_fall l' (fun c hc => hok c (hp.mem_iff.2 hc)) ((hp.map _).nodup_iff.1 hnd)) (fun c => ?_)
  unfold kids
  rw [mem_gKids, mem_gKids, hp.mem_iff]
theorem bl_perm {l l' : List RC} (hp : l.Perm l') (hok : ∀ c ∈ l, c.id.Ok) (hnd : (l.map (·.id)).Nodup) : ∀ (n : Nat) (x : Idn), bl l n x = bl l' n x
  | 0, _ => rfl
  | n + 1, x => by
    show (kids l x).flatMap _ = (kids l' x).flatMap _
    rw [kids_perm hp hok hnd x]
    exact flatMap_congr' (fun k _ => by rw [bl_perm hp hok hnd n k.id])
/-- A list of cells that grew: each behind an earlier one. -/
structure Gd (l : List RC) : Prop where
  ok : ∀ c ∈ l, c.Ok
  num : ∀ c ∈ l, 1 ≤ c.id.c ∧ c.af.c < c.id.c
  stay : ∀ c ∈ l, c.gone = false
  beh : ∀ (i : Nat) (c : RC), l[i]? = some c → c.af = zId ∨ ∃ (j : Nat) (d : RC), j < i ∧ l[j]? = some d ∧ d.id = c.af
  nod : (l.map (·.id)).Nodup
theorem gd_nil : Gd [] := ⟨fun _ h => by simp at h, fun _ h => by simp at h, fun _ h => by simp at h, fun i c h => by simp at h, List.Pairwise.nil⟩
theorem Gd.ins {l : List RC} (h : Gd l) {af id : Idn} (haf : af.Ok) (hid : id.Ok) (ch : UInt8) : Gd (rIns l af id ch) := by
  unfold rIns
  split
  · rename_i he
    unfold rInsE at he
    by_cases g1 : id.c < 1 ∨ id.c ≤ af.c
    · rw [if_pos g1] at he; cases he
    rw [if_neg g1] at he
    by_cases g2 : (rplc l id).isSome = true
    · rw [if_pos g2] at he; cases he
    rw [if_neg g2] at he
    have g3 : ¬ (af ≠ zId ∧ (rplc l af).isSome = false) := fun e => by rw [if_pos e] at he; cases he
    have hn : rplc l id = none := by simpa using g2
    refine ⟨fun c hc => ?_, fun c hc => ?_, fun c hc => ?_, fun i c hc => ?_, ?_⟩
    · rcases List.mem_append.1 hc with hc | hc
      · exact h.ok c hc
      · rw [List.mem_singleton] at hc; subst hc; exact ⟨hid, haf⟩
    · rcases List.mem_append.1 hc with hc | hc
      · exact h.num c hc
      · rw [List.mem_singleton] at hc; subst hc; exact ⟨by show 1 ≤ id.c; omega, by show af.c < id.c; omega⟩
    · rcases List.mem_append.1 hc with hc | hc
      · exact h.stay c hc
      · rw [List.mem_singleton] at hc; subst hc; rfl
    · by_cases hi : i < l.length
      · rw [List.getElem?_append_left hi] at hc
        rcases h.beh i c hc with e | ⟨j, d, hj, hd, e⟩
        · exact .inl e
        · exact .inr ⟨j, d, hj, by rw [List.getElem?_append_left (by omega)]; exact hd, e⟩
      · rw [List.getElem?_append_right (by omega)] at hc
        obtain rfl : (⟨id, af, ch, false⟩ : RC) = c := by
          cases hd : i - l.length with
          | zero => rw [hd] at hc; simpa using hc
          | succ k => rw [hd] at hc; simp at hc
        by_cases ez : af = zId
        · exact .inl ez
        · cases hp : rplc l af with
          | none => exact absurd ⟨ez, by rw [hp]; rfl⟩ g3
          | some j =>
            obtain ⟨d, hd, e⟩ := rplc_get hp
            have hjl := (List.getElem?_eq_some_iff.1 hd).1
            exact .inr ⟨j, d, by omega, by rw [List.getElem?_append_left hjl]; exact hd, e⟩
    · rw [List.map_append, List.nodup_append]
      refine ⟨h.nod, by simp, fun a ha b hb e => ?_⟩
      obtain ⟨d, hd, rfl⟩ := List.mem_map.1 ha
      have hb' : b = id := by simpa using hb
      subst hb'
      unfold rplc at hn
      rw [List.findIdx?_eq_none_iff] at hn
      have := hn d hd
      simp at this
      exact this e
  · exact h
theorem rIns_len (l : List RC) (af id : Idn) (ch : UInt8) : (rIns l af id ch).length ≤ l.length + 1 := by
  unfold rIns
  split <;> simp
/-- Where some are left, one of them can be put. -/
theorem Gd.some_can {cells li lf : List RC} (h : Gd cells) (hp : (li ++ lf).Perm cells) (hne : lf ≠ []) : ∃ c ∈ lf, c.af = zId ∨ ∃ d ∈ li, d.id = c.af := by
  have go : ∀ (i : Nat) (c : RC), cells[i]? = some c → c ∈ lf → ∃ c ∈ lf, c.af = zId ∨ ∃ d ∈ li, d.id = c.af := by
    intro i
    induction i using Nat.strongRecOn with
    | _ i ih =>
      intro c hc hl
      rcases h.beh i c hc with e | ⟨j, d, hj, hd, e⟩
      · exact ⟨c, hl, .inl e⟩
      · have hm := hp.mem_iff.2 (List.mem_of_getElem? hd)
        rcases List.mem_append.1 hm with hm | hm
        · exact ⟨c, hl, .inr ⟨d, hm, e⟩⟩
        · exact ih j hj d hd hm
  obtain ⟨c, lf', rfl⟩ : ∃ c lf', lf = c :: lf' := by
    cases lf with
    | nil => exact absurd rfl hne
    | cons c r => exact ⟨c, r, rfl⟩
  have hm := hp.mem_iff.1 (show c ∈ li ++ c :: lf' by simp)
  obtain ⟨i, hi⟩ := List.getElem?_of_mem hm
  exact go i c hi (by simp)
/-- What is told of a row, by the cells. -/
theorem Alike.told {st : List Stm} {l : List RC} (h : Alike st l) {U : List Nat} (hU : Reach st U []) : U.map (cOf st) = (bl l st.length zId).map (fun c => ccell c.id c.ch c.gone) := by
  apply List.ext_getElem?
  intro i
  rw [List.getElem?_map (l := bl l st.length zId)]
  cases hc : (bl l st.length zId)[i]? with
  | some c => rw [h.cells hU hc]; rfl
  | none =>
    have h1 := List.getElem?_eq_none_iff.1 hc
    rw [h.count hU] at h1
    rw [List.getElem?_eq_none_iff.2 h1]; rfl
end Go.Proofs.Ytiglenomigipmaa

namespace Go.Proofs.Ytiglenomigipmaa
open Go.RowKit Go.Shelf
attribute [local go_sem] Oper.semAt_some
def tp (p : Put) : Put := { p with wild := false }
theorem tp_ok {p : Put} (h : p.Ok) : (tp p).Ok := ⟨h.il, h.ih, h.bl, h.bh⟩
def zP : Put := ⟨0, 0, 0, 0, false, false, 0, 0⟩
section
variable {oi : Oper} {a : Act} {w : World}
theorem x_al33 (hop : oi.op = .alloc 33) : (execOp a.eval oi).run Try.prog w = .ok (.value (.pointer (some ⟨w.heap.size, 0, none⟩))) (w.alloc (.cells (pcell zP).toArray 33)) := by
  have hz : (zeroValue 33).run Try.prog w = .ok (.agg (pcell zP).toArray) w := by kernel_rfl
  unfold execOp
  simp only [hop]
  simp [go_sem, hz, Value.cells]
end
theorem wpList_st4 {w w' : World} {ops : Array Oper} {rest : List Oper} {o : Oper} {a : Act} {Q : Exit → Act → World → Prop} (hg : o.guard = none) {x : Operand} {g p : Nat} {b : Bool} {u : Value} (ho : o.op = .store 4 x (.const (.bool b))) (hx : a.eval x = .pointer (some ⟨g, p, none⟩)) (hc : w.cell? ⟨g, p, none⟩ = some u) (hf : w.frozen? ⟨g, p, none⟩ = false) (hW : w.setCell ⟨g, p, none⟩ (.bool b) = w') (h : wpList Try.prog ops Q rest (a.put o.dst undef) w') : wpList Try.prog ops Q (o :: rest) a w :=
  wpList_st hg ((x_st4 ho hx hc hf).trans (by rw [hW])) h
theorem pcell_one (p : Put) : ∀ u ∈ pcell p, u.oneCell' = true := fun u hu => by
  simp only [pcell, List.mem_cons, List.not_mem_nil, or_false] at hu
  rcases hu with rfl | rfl | rfl | rfl | rfl | rfl | rfl | rfl <;> rfl
theorem tame_box {wr W2 W3 : World} {p : Put} (hW2 : (wr.alloc (.cells (pcell zP).toArray 33)).setRow wr.heap.size (pcell p).toArray = W2) (hW3 : W2.setCell ⟨wr.heap.size, 5, none⟩ (.bool false) = W3) :
    RowIs W2 wr.heap.size 33 (pcell p) ∧ RowIs W3 wr.heap.size 33 (pcell (tp p)) ∧ After wr W3 := by
  have h2 : RowIs W2 wr.heap.size 33 (pcell p) := by rw [← hW2]; exact (RowIs.new wr 33 (pcell zP)).setRow _
  refine ⟨h2, ?_, ?_⟩
  · rw [← hW3]; exact h2.set 5 _
  · rw [← hW3, ← hW2]
    exact Below.setCell (Below.row (after_alloc (After.refl wr) _) (Nat.le_refl _) _) (p := ⟨wr.heap.size, 5, none⟩) (Nat.le_refl _) _
set_option maxRecDepth 100000 in
set_option maxHeartbeats 1600000 in
theorem tame_any {w : World} {va : Option Addr} {n cap : Nat} {ps : List Put} (hn : ps.length = n) (hok : ∀ p ∈ ps, p.Ok) (hin : PutsIn w va ps) (h120 : n ≤ 120) :
    Calls Try.prog 27 #[.slice va n cap] w fun e w' => ∃ v cells, e = .returned v ∧ RowR w' w.heap.size v cells ∧ Gd cells ∧ cells.length ≤ n ∧ After w w' := by
  have HIN : Hid (ps.length = n ∧ (∀ p ∈ ps, p.Ok) ∧ PutsIn w va ps) := ⟨hn, hok, hin⟩
  clear hn hok hin
  obtain ⟨W0, hW0⟩ : ∃ W0, w.alloc (.cells #[.slice none 0 0] 29) = W0 := ⟨_, rfl⟩
  have H0 : Hid (RowIs W0 w.heap.size 29 [.slice none 0 0] ∧ After w W0) := by
    rw [← hW0]; exact ⟨RowIs.new w 29 _, after_alloc (After.refl w) _⟩
  obtain ⟨gb, hgb⟩ : ∃ gb, w.heap.size = gb := ⟨_, rfl⟩
  have HGB : Hid (w.heap.size = gb) := hgb
  go_enter Try.func27, Try.ntmps27
  go_wp2_with (first
    | (refine wpList_of_run rfl ((x_al29 rfl).trans (by rw [hW0, HGB.out])) ?_))
  rw [hgb] at H0
  clear hW0 hgb
  go_loopw [4] (fun vi wr => ∃ i : Nat, vi = .int .i64 (i : Int) ∧ i ≤ n ∧ ∃ l ra rn rc, Hid (RowIs wr gb 29 [.slice ra rn rc] ∧ RowR wr w.heap.size (.slice ra rn rc) l ∧ Gd l ∧ l.length ≤ i ∧ After w wr)) (fun vi _ => n - (intOf vi).toNat)
  case atStart => exact ⟨0, rfl, Nat.zero_le _, [], none, 0, 0, H0.out.1, RowR.nil _ _, gd_nil, Nat.le_refl _, H0.out.2⟩
  case round =>
    obtain ⟨i, rfl, hin, l, ra, rn, rc, HJ⟩ := hrel
    by_cases hlt : i < n
    · have hii : (i : Int) < (n : Int) := by omega
      obtain ⟨p, hp⟩ : ∃ p, ps[i]? = some p := ⟨_, List.getElem?_eq_getElem (by rw [HIN.out.1]; exact hlt)⟩
      obtain ⟨pb, po, hva, hpr⟩ := HIN.out.2.2 (fun e => by rw [e] at hp; simp at hp)
      subst hva
      have HP : Hid (p.Ok ∧ i < n ∧ wr.rangeAt pb (po + i * 8) (pcell p)) := ⟨HIN.out.2.1 p (List.mem_of_getElem? hp), hlt, range_after (hpr i p hp) HJ.out.2.2.2.2⟩
      clear hp hpr
      obtain ⟨W2, hW2⟩ : ∃ W2, (wr.alloc (.cells (pcell zP).toArray 33)).setRow wr.heap.size (pcell p).toArray = W2 := ⟨_, rfl⟩
      obtain ⟨W3, hW3⟩ : ∃ W3, W2.setCell ⟨wr.heap.size, 5, none⟩ (.bool false) = W3 := ⟨_, rfl⟩
      have HT := show Hid _ from tame_box hW2 hW3
      have HZ : Hid (RowIs (wr.alloc (.cells (pcell zP).toArray 33)) wr.heap.size 33 (pcell zP)) := RowIs.new wr 33 _
      have HG2 := show Hid _ from hW2
      have HG3 := show Hid _ from hW3
      have H3 : Hid (RowIs W3 gb 29 [.slice ra rn rc] ∧ RowR W3 w.heap.size (.slice ra rn rc) l ∧ After w W3) := ⟨HJ.out.1.below HT.out.2.2 HJ.out.1.lt, HJ.out.2.1.after HT.out.2.2, HJ.out.2.2.2.2.trans HT.out.2.2⟩
      clear hW2 hW3
      obtain ⟨go, hgo⟩ : ∃ go, wr.heap.size = go := ⟨_, rfl⟩
      have HGO : Hid (wr.heap.size = go) := hgo
      rw [hgo] at HT HZ HG2 HG3
      have HC5 : Hid (W2.cell? ⟨go, 5, none⟩ = some (.bool p.wild) ∧ W2.frozen? ⟨go, 5, none⟩ = false) := ⟨HT.out.1.cell rfl, HT.out.1.frozen 5⟩
      obtain ⟨af, haf⟩ : ∃ af, pAf l (tp p) = af := ⟨_, rfl⟩
      obtain ⟨id, hid⟩ : ∃ id, pId l (tp p) = id := ⟨_, rfl⟩
      have HOK : Hid (af.Ok ∧ id.Ok) := ⟨by rw [← haf]; exact pAf_ok HJ.out.2.1.1 (tp_ok HP.out.1), by rw [← hid]; exact pId_ok HJ.out.2.1.1 (tp_ok HP.out.1)⟩
      have HID : Hid (Calls Try.prog 29 #[.agg #[.slice ra rn rc], .agg (pcell (tp p)).toArray] W3 fun e w' => e = .returned (.tuple #[idv af, idv id]) ∧ After W3 w') := by
        have := ids_any H3.out.2.1 (tp_ok HP.out.1) (by have := HJ.out.2.2.2.1; omega)
        rw [haf, hid] at this; exact this
      clear haf hid
      go_wp2_with (first
        | (refine wpList_of_run rfl (x_idx22 (x := .tmp 14) (y := .tmp 15) (b := pb) (f := po) (n := n) (c := cap) (k := i) rfl (by kernel_rfl) (by kernel_rfl) HP.out.2.1) ?_)
        | (refine wpList_of_run rfl (x_ld33m (x := .tmp 16) (g := pb) (q := po + i * 8) (p := p) rfl (by kernel_rfl) HP.out.2.2) ?_)
        | (refine wpList_of_run rfl ((x_al33 rfl).trans (by rw [HGO.out])) ?_)
        | (refine wpList_store_row rfl 33 (.tmp 5) (.tmp 17) rfl go (pcell p).toArray rfl rfl 33 _ HZ.out (size33 p) rfl (by simpa using pcell_one p) ?_; rw [HG2.out])
        | (refine wpList_st4 (x := .tmp 18) (g := go) (p := 5) (b := false) rfl rfl (by kernel_rfl) HC5.out.1 HC5.out.2 HG3.out ?_)
        | (refine wpList_load_row rfl 29 (.tmp 3) rfl gb rfl 29 #[.slice ra rn rc] (0, 0) _ H3.out.1 Try.underlying29 rfl (size29 _) ?_)
        | (refine wpList_load_row rfl 33 (.tmp 5) rfl go rfl 33 (pcell (tp p)).toArray (0, 0) _ HT.out.2.1 Try.underlying33 rfl (size33 _) ?_)
        | (go_at_call 29; refine Calls.mono HID.out ?_; clear HID; rintro e w1 ⟨rfl, hw1⟩; obtain ⟨W4, hW4⟩ : ∃ W4, (((w1.alloc (.cells (idc zId).toArray 40)).alloc (.cells (idc zId).toArray 40)).setRow w1.heap.size (idc af).toArray).setRow (w1.heap.size + 1) (idc id).toArray = W4 := ⟨_, rfl⟩; have HB4 := show Hid _ from do_boxes hW4; have HG4 := show Hid _ from hW4; have H4 := show Hid (RowIs W4 gb 29 [.slice ra rn rc] ∧ RowR W4 w.heap.size (.slice ra rn rc) l ∧ After w W4 ∧ RowIs W4 go 33 (pcell (tp p))) from (fun ha : After W3 W4 => ⟨H3.out.1.below ha H3.out.1.lt, H3.out.2.1.after ha, H3.out.2.2.trans ha, HT.out.2.1.below ha HT.out.2.1.lt⟩) (hw1.trans HB4.out.2.2.2.2); have c4 : W4.cell? ⟨go, 3, none⟩ = some (.int .u8 (p.ch.toNat : Int)) := H4.out.2.2.2.cell rfl; clear hw1 hW4)
        | (refine wpList_of_run rfl ((x_al40 rfl).trans (by rw [World.size_alloc])) ?_)
        | (refine wpList_of_run rfl (x_al40 rfl) ?_)
        | (refine wpList_store_row rfl 40 (.tmp 6) (.tmp 23) rfl w1.heap.size (idc af).toArray rfl rfl 40 _ HB4.out.1 (size40 HOK.out.1) (by simp [idc_len HOK.out.1, idc_len zId_ok]) (by simpa using idc_one af) ?_)
        | (refine wpList_store_row rfl 40 (.tmp 7) (.tmp 24) rfl (w1.heap.size + 1) (idc id).toArray rfl rfl 40 _ HB4.out.2.1 (size40 HOK.out.2) (by simp [idc_len HOK.out.2, idc_len zId_ok]) (by simpa using idc_one id) ?_; rw [HG4.out])
        | (refine wpList_load_row rfl 29 (.tmp 3) rfl gb rfl 29 #[.slice ra rn rc] (0, 0) _ H4.out.1 Try.underlying29 rfl (size29 _) ?_)
        | (refine wpList_load_row rfl 40 (.tmp 6) rfl w1.heap.size rfl 40 (idc af).toArray (0, 0) _ HB4.out.2.2.1 Try.underlying40 rfl (size40 HOK.out.1) ?_)
        | (refine wpList_load_row rfl 40 (.tmp 7) rfl (w1.heap.size + 1) rfl 40 (idc id).toArray (0, 0) _ HB4.out.2.2.2.1 Try.underlying40 rfl (size40 HOK.out.2) ?_)
        | (go_at_call 32; refine Calls.mono (rInsert_any H4.out.2.1 HOK.out.1 HOK.out.2 p.ch (by have := HJ.out.2.2.2.1; omega) H4.out.2.2.1.size) ?_; rintro e w6 ⟨v6, rfl, h61, h62⟩; obtain ⟨va6, n6, c6, hv6⟩ : ∃ va n c, v6 = .slice va n c := (fun ⟨a, b, c⟩ => ⟨a, _, b, c⟩) h61.sl; subst hv6; have H6 := show Hid (RowIs w6 gb 29 [.slice ra rn rc] ∧ RowR w6 w.heap.size (.slice va6 n6 c6) (rIns l af id p.ch) ∧ After w w6) from ⟨H4.out.1.below h62 H4.out.1.lt, h61, H4.out.2.2.1.trans h62⟩; clear h61 h62)
        | (refine wpList_store_row rfl 29 (.tmp 3) (.tmp 32) rfl gb #[.slice va6 n6 c6] rfl rfl 29 _ H6.out.1 (size29 _) rfl (by simp [Value.oneCell']) ?_))
      go_roundw
      case rel => exact ⟨i + 1, by go_num, by omega, rIns l af id p.ch, va6, n6, c6, H6.out.1.setRow _, H6.out.2.1.put29 H6.out.1 _, HJ.out.2.2.1.ins HOK.out.1 HOK.out.2 p.ch, Nat.le_trans (rIns_len _ _ _ _) (Nat.succ_le_succ HJ.out.2.2.2.1), Below.row H6.out.2.2 (by rw [HGB.out]; exact Nat.le_refl _) _⟩
      case measure => simp [intOf]; omega
    · obtain rfl : i = n := by omega
      have hii : ¬ (i : Int) < (i : Int) := by omega
      have cB : wr.cell? ⟨gb, 0, none⟩ = some (.slice ra rn rc) := HJ.out.1.cell rfl
      go_wp2_with fail
      go_ret
      exact ⟨_, rfl, l, HJ.out.2.1, HJ.out.2.2.1, HJ.out.2.2.2.1, HJ.out.2.2.2.2⟩
end Go.Proofs.Ytiglenomigipmaa

namespace Go.Proofs.Ytiglenomigipmaa
open Go.RowKit Go.Shelf
attribute [local go_sem] Oper.semAt_some
section
variable {oi : Oper} {a : Act} {w : World}
theorem x_bs27e (hop : oi.op = .buildSlice 27 0 #[]) : (execOp a.eval oi).run Try.prog w = .ok (.value (.slice (some ⟨w.heap.size, 0, none⟩) 0 0)) (w.alloc (.cells #[] 68)) := by
  have hb : (Instr.buildSlice 27 0 #[]).run Try.prog w = .ok (.slice (some ⟨w.heap.size, 0, none⟩) 0 0) (w.alloc (.cells #[] 68)) := by kernel_rfl
  unfold execOp
  simp [hop, hb]
theorem x_idx56 {x y : Operand} {b f n c k : Nat} (hop : oi.op = .indexAddr 56 x y) (hx : a.eval x = .slice (some ⟨b, f, none⟩) n c) (hy : a.eval y = .int .i64 (k : Int)) (hk : k < n) : (execOp a.eval oi).run Try.prog w = .ok (.value (.pointer (some ⟨b, f + k, none⟩))) w := by
  have hk' : (k : Int) < (n : Int) := by omega
  have hz0 : (Try.prog.info? 5).map (·.size) = some 1 := by kernel_rfl
  obtain ⟨i, hi, hz⟩ := Option.map_eq_some_iff.1 hz0
  unfold execOp; simp only [hop, hx, hy]; simp [go_sem, hk', hi, hz, sizeOf, typeInfo]
end
theorem row_fresh (w : World) : RowR (w.alloc (.cells #[] 68)) w.heap.size (.slice (some ⟨w.heap.size, 0, none⟩) 0 0) [] :=
  ⟨fun _ h => by simp at h, fun _ h => by simp at h, row_own (cs := []) (Nat.le_refl _) (RowIs.new w 68 []) (Nat.le_refl _) (by decide) rfl rfl⟩
/-- All that is left of a list is gone through from any place on. -/
theorem around {k m j : Nat} (hk : k < m) (hj : j < m) : ∃ i, i < m ∧ (k + i) % m = j := by
  refine ⟨(j + (m - k)) % m, Nat.mod_lt _ (by omega), ?_⟩
  rw [Nat.add_mod_mod, show k + (j + (m - k)) = j + m by omega, Nat.add_mod_right, Nat.mod_eq_of_lt hj]
theorem can_of {st : List Stm} {cells li lf : List RC} (hA : Alike st li) (hG : Gd cells) (hp : (li ++ lf).Perm cells) {c : RC} (hc : c ∈ lf) (h : c.af = zId ∨ ∃ d ∈ li, d.id = c.af) : insE st c.af c.id = 0 := by
  have hcc : c ∈ cells := hp.mem_iff.1 (by simp [hc])
  have hn := hG.num c hcc
  rw [hA.lnk.insE]
  unfold rInsE
  rw [if_neg (by omega)]
  have hnd : ((li ++ lf).map (·.id)).Nodup := ((hp.map _).nodup_iff).2 hG.nod
  rw [List.map_append, List.nodup_append] at hnd
  have h1 : rplc li c.id = none := by
    refine rplc_none (fun j d hd e => ?_)
    exact hnd.2.2 d.id (List.mem_map_of_mem (List.mem_of_getElem? hd)) c.id (List.mem_map_of_mem hc) e
  rw [h1]
  simp only [Option.isSome_none, Bool.false_eq_true, if_false]
  refine if_neg (fun e => ?_)
  rcases h with h | ⟨d, hd, h⟩
  · exact e.1 h
  · have e2 := e.2
    cases hr : rplc li c.af with
    | none =>
      unfold rplc at hr
      rw [List.findIdx?_eq_none_iff] at hr
      have := hr d hd
      simp [h] at this
    | some j => rw [hr] at e2; cases e2
theorem rIns_ok {st : List Stm} {li : List RC} (hA : Alike st li) {c : RC} (hs : c.gone = false) (h : insE st c.af c.id = 0) : rIns li c.af c.id c.ch = li ++ [c] := by
  unfold rIns
  rw [← hA.lnk.insE, if_pos h]
  cases c; simp_all
theorem ins_bad {st : List Stm} {c : RC} (h : insE st c.af c.id ≠ 0) : insF st c.af c.id c.ch = st := by unfold insF; rw [if_neg h]
theorem perm_take {li lf cells : List RC} {j : Nat} {c : RC} (hp : (li ++ lf).Perm cells) (hj : lf[j]? = some c) : ((li ++ [c]) ++ (lf.take j ++ lf.drop (j + 1))).Perm cells := by
  refine List.Perm.trans ?_ hp
  rw [List.append_assoc]
  refine List.Perm.append_left li ?_
  obtain ⟨hl, rfl⟩ := List.getElem?_eq_some_iff.1 hj
  have e : lf = lf.take j ++ lf[j] :: lf.drop (j + 1) := by rw [List.getElem_cons_drop, List.take_append_drop]
  conv => rhs; rw [e]
  show (lf[j] :: (lf.take j ++ lf.drop (j + 1))).Perm _
  exact List.perm_middle.symm
/-- What is known between rounds. -/
structure Fl (w0 w : World) (cells : List RC) (g : Nat) (st : List Stm) (li lf : List RC) (D : RwD) (la : Option Addr) (ln lc : Nat) : Prop where
  row : RowAt w w0.heap.size g st D
  ali : Alike st li
  lft : RowR w w0.heap.size (.slice la ln lc) lf
  prm : (li ++ lf).Perm cells
  aft : After w0 w
theorem x_eq51 {oi : Oper} {a : Act} {w : World} {x : Operand} {n : Nat} (hn : n ≠ 0) (hop : oi.op = .binOp .eql 51 x (.const (.int .i64 0)) 51) (hx : a.eval x = .int .i64 (n : Int)) : (execOp a.eval oi).run Try.prog w = .ok (.value (.bool false)) w := by
  have hk : a.eval (.const (.int .i64 0)) = .int .i64 0 := rfl
  unfold execOp; simp only [hop, hx, hk]
  simp [go_sem, hn]
set_option maxRecDepth 100000 in
set_option maxHeartbeats 6400000 in
theorem filled_any {w : World} {base : Nat} {ca ta : Option Addr} {cn cc tn tc : Nat} {cells : List RC} {ab : List UInt8} (h : RowR w base (.slice ca cn cc) cells) (hG : Gd cells) (hl : cells.length ≤ 900) (htn : ab.length = tn) (hat : BytesAt w ta ab) :
    Calls Try.prog 28 #[.slice ca cn cc, .slice ta tn tc] w fun e w' => ∃ g D st li, e = .returned (.pointer (some ⟨g, 0, none⟩)) ∧ RowAt w' w.heap.size g st D ∧ Alike st li ∧ li.Perm cells ∧ After w w' := by
  have HR : Hid (RowR w base (.slice ca cn cc) cells ∧ cells.length = cn) := ⟨h, h.cap.1⟩
  have HCE : Hid (Gd cells ∧ cn ≤ 900) := ⟨hG, by have := h.cap.1; omega⟩
  have HAT : Hid (ab.length = tn ∧ ∀ j, j < tn → ∃ b o, ta = some ⟨b, o, none⟩ ∧ w.cell? ⟨b, o + j, none⟩ = some (.int .u8 ((ab.getD j 0).toNat : Int))) := ⟨htn, fun j hj => by
    obtain ⟨b, o, e, hc⟩ := hat (fun e => by rw [e] at htn; simp at htn; omega)
    exact ⟨b, o, e, hc j (by omega)⟩⟩
  clear h hG hl htn hat
  go_enter Try.func28, Try.ntmps28
  go_wp2_with (first
    | (go_at_call 13; refine Calls.mono (New_any _) ?_; rintro e w1 ⟨g, D0, rfl, hr1, ha1⟩; have H1 := show Hid (RowAt w1 w.heap.size g [root] D0 ∧ After w w1) from ⟨hr1, ha1⟩; obtain ⟨la0, ln0, lc0, w2, h21, h22, h23⟩ := app_any (W8 := w1) (W := w1.alloc (.cells #[] 68)) (base := w1.heap.size) (after_alloc (After.refl w1) _) (Nat.le_refl _) (by simp) (row_fresh w1) ((HR.out.1.after ha1).after (after_alloc (After.refl w1) (.cells #[] 68))).src (by have := HCE.out.2; have := HR.out.2; simp; omega); have HA2 := show Hid _ from h21; have H2 := show Hid (RowR w2 w1.heap.size (.slice la0 ln0 lc0) cells ∧ After w1 w2 ∧ ln0 = cn) from ⟨by simpa using h22, h23, by have := h22.cap.1; have := HR.out.2; simp at *; omega⟩; clear hr1 ha1 h21 h22 h23)
    | (refine wpList_of_run rfl (x_bs27e rfl) ?_)
    | (refine wpList_of_run rfl (x_app27 (s := .tmp 14) (x := .tmp 15) (v := .slice (some ⟨w1.heap.size, 0, none⟩) 0 0) (u := .slice ca cn cc) rfl (by kernel_rfl) (by kernel_rfl) HA2.out) ?_))
  have HF0 : Hid (Fl w w2 cells g [root] [] cells D0 la0 ln0 lc0) := ⟨H1.out.1.after H2.out.2.1, alike_nil, H2.out.1.mono H1.out.2.size, List.Perm.refl _, H1.out.2.trans H2.out.2.1⟩
  have HLN0 : Hid (ln0 = cn) := H2.out.2.2
  clear HA2 H1 H2
  go_loopw [6, 7] (fun vl vm wr => ∃ (m : Nat) (la : Option Addr) (ln lc : Nat), vm = .int .i64 (m : Int) ∧ vl = .slice la ln lc ∧ m + ln = cn ∧ ∃ st li lf D, Hid (Fl w wr cells g st li lf D la ln lc)) (fun _ vm _ => cn - (intOf vm).toNat)
  case atStart => exact ⟨0, la0, ln0, lc0, rfl, rfl, by rw [HLN0.out]; omega, _, _, _, _, HF0⟩
  case round =>
    obtain ⟨wo, hwo⟩ : ∃ wo, wo = wr := ⟨_, rfl⟩
    subst hwo
    obtain ⟨m, la, ln, lc, rfl, rfl, hmn, st, li, lf, D, HJ⟩ := hrel
    have hcn : cn ≤ 900 := HCE.out.2
    have HLN : Hid (ln ≤ 900 ∧ st.length ≤ 1000) := ⟨by omega, by
      have h1 := HJ.out.ali.lnk.len
      have h2 := HJ.out.prm.length_eq
      rw [List.length_append] at h2
      have := HR.out.2
      omega⟩
    by_cases hpos : 0 < ln
    · have hp1 : (0 : Int) < (ln : Int) := by omega
      have hp2 : (m : Int) ≤ (cn : Int) := by omega
      by_cases hmt : m < tn
      · have hmti : (m : Int) < (tn : Int) := by omega
        obtain ⟨tb, to, hta, htc⟩ := HAT.out.2 m hmt
        subst hta
        obtain ⟨k, hk⟩ : ∃ k, (ab.getD m 0).toNat % ln = k := ⟨_, rfl⟩
        have hkl : k < ln := by rw [← hk]; exact Nat.mod_lt _ hpos
        have HKC : Hid (wo.cell? ⟨tb, to + m, none⟩ = some (.int .u8 ((ab.getD m 0).toNat : Int)) ∧ m < tn ∧ (ab.getD m 0).toNat % ln = k ∧ (ab.getD m 0).toNat ≤ 1000) := ⟨(Below.cell HJ.out.aft (p := ⟨tb, to + m, none⟩) (World.block_lt_of_cell? w _ htc)).trans htc, hmt, hk, by have := (ab.getD m 0).toNat_lt; omega⟩
        obtain ⟨bm, hbm⟩ : ∃ bm, (ab.getD m 0).toNat = bm := ⟨_, rfl⟩
        rw [hbm] at HKC
        clear htc hk hbm
        go_wp2_with (first
          | (refine wpList_of_run rfl (x_idx56 (x := .tmp 32) (y := .tmp 33) (b := tb) (f := to) (n := tn) (c := tc) (k := m) rfl (by kernel_rfl) (by kernel_rfl) HKC.out.2.1) ?_)
          | (refine wpList_of_run rfl (x_loadT (x := .tmp 34) (t := 5) (g := tb) (j := to + m) Try.underlying5 rfl rfl (by kernel_rfl) HKC.out.1) ?_)
          | (refine wpList_of_run rfl (x_cv53 (x := .tmp 35) (m := bm) HKC.out.2.2.2 rfl (by kernel_rfl)) ?_)
          | (refine wpList_of_run rfl (x_remi (x := .tmp 36) (y := .tmp 38) (p := bm) (q := ln) (r := k) rfl (by kernel_rfl) (by kernel_rfl) HKC.out.2.2.1 hpos) ?_))
        go_loopw [6, 9] (fun vl vi wr => ∃ i : Nat, vi = .int .i64 (i : Int) ∧ vl = .slice la ln lc ∧ i ≤ ln ∧ ∃ D2, Hid (Fl w wr cells g st li lf D2 la ln lc ∧ ∀ i', i' < i → ∀ c, lf[(k + i') % ln]? = some c → insE st c.af c.id ≠ 0)) (fun _ vi _ => ln - (intOf vi).toNat)
        case atStart => exact ⟨0, rfl, rfl, Nat.zero_le _, D, HJ.out, fun i' hi' => absurd hi' (Nat.not_lt_zero _)⟩
        case round =>
          obtain ⟨wk, hwk⟩ : ∃ wk, wk = wr := ⟨_, rfl⟩
          subst hwk
          obtain ⟨i, rfl, rfl, hil, D2, HI⟩ := hrel
          by_cases hilt : i < ln
          · have hii : (i : Int) < (ln : Int) := by omega
            obtain ⟨j, hj⟩ : ∃ j, (k + i) % ln = j := ⟨_, rfl⟩
            have hjl : j < ln := by rw [← hj]; exact Nat.mod_lt _ (by omega)
            obtain ⟨c, hc⟩ : ∃ c, lf[j]? = some c := ⟨_, List.getElem?_eq_getElem (by rw [HI.out.1.lft.cap.1]; exact hjl)⟩
            obtain ⟨gs, hla, -, hr⟩ := HI.out.1.lft.at hc
            subst hla
            rw [Nat.zero_add] at hr
            have HC : Hid (c.Ok ∧ wk.rangeAt gs (j * 68) (rcell c) ∧ j < ln ∧ (k + i) % ln = j ∧ lf[j]? = some c) := ⟨HI.out.1.lft.1 c (List.mem_of_getElem? hc), hr, hjl, hj, hc⟩
            have HC66 : Hid ((rcell c)[66]? = some (.int .u8 (c.ch.toNat : Int))) := by
              show _ = _
              unfold rcell; rw [List.getElem?_append_right (by rw [idc_len HC.out.1.id]; omega), idc_len HC.out.1.id, List.getElem?_append_right (by rw [idc_len HC.out.1.af]; omega), idc_len HC.out.1.af]; rfl
            have HSG : Hid (c.gone = false) := HCE.out.1.stay c (HJ.out.prm.mem_iff.1 (by have := List.mem_of_getElem? hc; simp [this]))
            obtain ⟨W2, hW2⟩ : ∃ W2, (wk.alloc (.cells (rcell zRC).toArray 68)).setRow wk.heap.size (rcell c).toArray = W2 := ⟨_, rfl⟩
            have HZ : Hid (RowIs (wk.alloc (.cells (rcell zRC).toArray 68)) wk.heap.size 68 (rcell zRC)) := RowIs.new wk 68 (rcell zRC)
            have hA2 : After wk W2 := by rw [← hW2]; exact Below.row (after_alloc (After.refl wk) _) (Nat.le_refl _) _
            have HBX : Hid (RowIs W2 wk.heap.size 68 (rcell c)) := by rw [← hW2]; exact HZ.out.setRow _
            have H2 : Hid (Fl w W2 cells g st li lf D2 (some ⟨gs, 0, none⟩) ln lc ∧ True) := ⟨⟨HI.out.1.row.after hA2, HI.out.1.ali, HI.out.1.lft.after hA2, HI.out.1.prm, HI.out.1.aft.trans hA2⟩, trivial⟩
            have HG2 := show Hid _ from hW2
            clear hc hr hW2 hA2 hj hjl
            obtain ⟨go, hgo⟩ : ∃ go, wk.heap.size = go := ⟨_, rfl⟩
            have HGO : Hid (wk.heap.size = go) := hgo
            rw [hgo] at HBX HZ HG2
            go_wp2_with (first
              | (refine wpList_of_run rfl (x_addz (x := .tmp 46) (y := .tmp 47) (p := (k : Int)) (q := (i : Int)) (by omega) (by omega) rfl (by kernel_rfl) (by kernel_rfl)) ?_)
              | (refine wpList_of_run rfl (x_remi (x := .tmp 48) (y := .tmp 50) (p := k + i) (q := ln) (r := j) rfl rfl (by kernel_rfl) HC.out.2.2.2.1 (by omega)) ?_)
              | (refine wpList_of_run rfl (x_idx27 (x := .tmp 52) (y := .tmp 53) (b := gs) (f := 0) (n := ln) (c := lc) (k := j) rfl (by kernel_rfl) (by kernel_rfl) HC.out.2.2.1) ?_; rw [Nat.zero_add])
              | (refine wpList_of_run rfl (x_ld68m (x := .tmp 54) (g := gs) (p := j * 68) (c := c) HC.out.1 rfl (by kernel_rfl) HC.out.2.1) ?_)
              | (refine wpList_of_run rfl ((x_al68 rfl).trans (by rw [HGO.out])) ?_)
              | (refine wpList_store_row rfl 68 (.tmp 11) (.tmp 55) rfl go (rcell c).toArray rfl rfl 68 _ HZ.out (size68 HC.out.1) (by simp [rcell_len HC.out.1, rcell_len zRC_ok]) (by simpa using rcell_one c) ?_; rw [HG2.out]))
            by_cases hE : insE st c.af c.id = 0
            · skip
              refine wp_region_noPanic ?_
              refine wp_region_held_drew (S := KeptF (Foot g D2) W2) (by kernel_rfl) (KeptF.of_after (After.drew (After.refl _))) ?_
              intro hS0
              refine tk 0 56 (.pointer (some ⟨g, 0, none⟩)) (fuel := 10) rfl (by kernel_rfl) (by kernel_rfl) (by kernel_rfl) (by kernel_rfl) noPanic_false (by kernel_rfl) (fun _ _ => by kernel_rfl) hS0 ?_
              refine tk 1 57 (.pointer (some ⟨go, 33, none⟩)) (fuel := 9) rfl (by kernel_rfl) (by kernel_rfl) (by kernel_rfl) (by kernel_rfl) noPanic_false (by kernel_rfl) (fun _ _ => by kernel_rfl) hS0 ?_
              refine tk 2 58 (idv c.af) (fuel := 8) rfl (by kernel_rfl) (by kernel_rfl) (by kernel_rfl) (by kernel_rfl) noPanic_false (by kernel_rfl) (fun W hW => x_ld40m (x := .tmp 57) (g := go) (p := 33) HC.out.1.af (by kernel_rfl) (by kernel_rfl) (by have := range_raf HC.out.1 (hW.row HBX.out (H2.out.1.row.other HBX.out (by decide) (by decide) (by decide))).range0; rwa [Nat.zero_add] at this)) hS0 ?_
              refine tk 4 60 (.pointer (some ⟨go, 0, none⟩)) (fuel := 7) rfl (by kernel_rfl) (by kernel_rfl) (by kernel_rfl) (by kernel_rfl) noPanic_false (by kernel_rfl) (fun _ _ => by kernel_rfl) hS0 ?_
              refine tk 5 61 (idv c.id) (fuel := 6) rfl (by kernel_rfl) (by kernel_rfl) (by kernel_rfl) (by kernel_rfl) noPanic_false (by kernel_rfl) (fun W hW => x_ld40m (x := .tmp 60) (g := go) (p := 0) HC.out.1.id (by kernel_rfl) (by kernel_rfl) (range_rid (hW.row HBX.out (H2.out.1.row.other HBX.out (by decide) (by decide) (by decide))).range0)) hS0 ?_
              refine tk 7 63 (.pointer (some ⟨go, 66, none⟩)) (fuel := 5) rfl (by kernel_rfl) (by kernel_rfl) (by kernel_rfl) (by kernel_rfl) noPanic_false (by kernel_rfl) (fun _ _ => by kernel_rfl) hS0 ?_
              refine tk 8 64 (.int .u8 (c.ch.toNat : Int)) (fuel := 4) rfl (by kernel_rfl) (by kernel_rfl) (by kernel_rfl) (by kernel_rfl) noPanic_false (by kernel_rfl) (fun W hW => x_loadT (x := .tmp 63) (t := 5) (g := go) (j := 66) Try.underlying5 rfl (by kernel_rfl) (by kernel_rfl) ((hW.row HBX.out (H2.out.1.row.other HBX.out (by decide) (by decide) (by decide))).cell (j := 66) HC66.out)) hS0 ?_
              refine tkCallZ 3 59 18 #[idv c.af] (fun v w' => v = idv c.af ∧ After W2 w') (fuel := 3) rfl (by kernel_rfl) (by kernel_rfl) (by kernel_rfl) (fun _ => by kernel_rfl) (Calls.mono (own_any HC.out.1.af _) (fun e w' ⟨he, ha⟩ => ⟨_, he, rfl, (After.drew (After.refl W2)).trans ha⟩)) ?_
              intro v3 w3 ⟨hv3, ha3⟩
              subst hv3
              refine ⟨KeptF.of_after ha3, ?_⟩
              refine tkCallZ 6 62 18 #[idv c.id] (fun v w' => v = idv c.id ∧ After W2 w') (fuel := 2) rfl (by kernel_rfl) (by kernel_rfl) (by kernel_rfl) (fun _ => by kernel_rfl) (Calls.mono (own_any HC.out.1.id _) (fun e w' ⟨he, ha⟩ => ⟨_, he, rfl, ha3.trans ha⟩)) ?_
              intro v4 w4 ⟨hv4, ha4⟩
              subst hv4
              refine ⟨KeptF.of_after ha4, ?_⟩
              refine tkCallZ 9 65 22 #[.pointer (some ⟨g, 0, none⟩), idv c.af, idv c.id, .int .u8 (c.ch.toNat : Int)] (fun v w' => v = .int .i64 0 ∧ ∃ D', RowAt w' w.heap.size g (insF st c.af c.id c.ch) D' ∧ KeptF (Foot g D2) w4 w') (fuel := 1) rfl (by kernel_rfl) (by kernel_rfl) (by kernel_rfl) (fun _ => by kernel_rfl) (Calls.mono (Insert_any (H2.out.1.row.after ha4) HJ.out.ali.wf (by have := HLN.out; omega) HC.out.1.af HC.out.1.id c.ch) (fun e w' ⟨he, D', h1, _, h3⟩ => ⟨_, he, by rw [hE]; rfl, D', h1, h3⟩)) ?_
              intro v5 w5 ⟨hv5, D5, h51, h53⟩
              subst hv5
              have hk5 : KeptF (Foot g D2) W2 w5 := (KeptF.of_after ha4).trans h53 (fun _ _ h => h)
              refine ⟨hk5, ?_⟩
              refine tk 10 66 (.bool true) (fuel := 0) rfl (by kernel_rfl) (by kernel_rfl) (by kernel_rfl) (by kernel_rfl) noPanic_false (by kernel_rfl) (fun _ _ => by kernel_rfl) hk5 ?_
              refine wpAnyH_done (by kernel_rfl) (NoPanic.normal ?_) _
              have ha5 : After w w5 := kept_after H2.out.1.row H2.out.1.aft hk5
              have hl5 : RowR w5 w.heap.size (.slice (some ⟨gs, 0, none⟩) ln lc) lf := H2.out.1.row.refrow hk5 H2.out.1.lft
              obtain ⟨hcap1, hcap2, hcap3⟩ := hl5.cap
              obtain ⟨v6, w6, h61, h62, h63⟩ := app_nilS (hl5.src.take (k := j) (Nat.le_of_lt HC.out.2.2.1) hcap1) (by rw [List.length_take]; have := HLN.out; have := HC.out.2.2.1; omega)
              obtain ⟨va6, c6, hv6⟩ := h62.sl
              obtain ⟨fa, fm, fc, w7, h71, h72, h73⟩ := app_any (W8 := w5) (W := w6) (base := w5.heap.size) (v := v6) h63 (Nat.le_refl _) h63.size h62 ((hl5.after h63).src.drop (k := j + 1) HC.out.2.2.1 hcap1 hcap2 hcap3) (by rw [List.length_take, List.length_drop]; have := HLN.out; have := HC.out.2.2.1; omega)
              obtain ⟨m6, hm6⟩ : ∃ m6, (lf.take j).length = m6 := ⟨_, rfl⟩
              rw [hm6] at hv6
              subst hv6
              have HA6 := show Hid ((Builtin.append_ #[27, 27] 27 #[.slice none 0 0, .slice (some ⟨gs, 0, none⟩) j lc]).run Try.prog w5 = .ok (.slice va6 m6 c6) w6) from h61
              have HA7 := show Hid ((Builtin.append_ #[27, 27] 27 #[.slice va6 m6 c6, .slice (cut27 (some ⟨gs, 0, none⟩) (j + 1) lc) (ln - (j + 1)) (lc - (j + 1))]).run Try.prog w6 = .ok (.slice fa fm fc) w7) from h71
              have HCP := show Hid (j ≤ lc ∧ ln ≤ lc ∧ j + 1 ≤ ln ∧ j + 1 ≤ 100000) from ⟨by have := HC.out.2.2.1; omega, hcap2, HC.out.2.2.1, by have := HC.out.2.2.1; have := HLN.out; omega⟩
              have HF7 := show Hid (Fl w w7 cells g (insF st c.af c.id c.ch) (li ++ [c]) (lf.take j ++ lf.drop (j + 1)) D5 fa fm fc ∧ fm + 1 = ln ∧ (li ++ [c]).length = li.length + 1) from by
                have hrn := rIns_ok HJ.out.ali HSG.out hE
                have ha := HJ.out.ali
                refine ⟨⟨(h51.after h73), ⟨ha.wf.insF HC.out.1.id _, by rw [← hrn]; exact ha.lnk.ins ha.wf _ _ _, by rw [← hrn]; exact ha.kid.ins ha.lnk ha.wf _ _ _⟩, h72.mono ha5.size, perm_take HJ.out.prm HC.out.2.2.2.2, ha5.trans h73⟩, ?_, by simp⟩
                have := h72.cap.1
                rw [List.length_append, List.length_take, List.length_drop] at this
                have := HC.out.2.2.1
                omega
              clear h51 h53 h61 h62 h63 h71 h72 h73 hk5 ha3 ha4 ha5 hl5 hS0 hcap1 hcap2 hcap3 hm6
              go_simp
              go_wp2_with (first
                | (refine wpList_of_run rfl (x_sl27h (x := .tmp 68) (y := .tmp 69) (n := ln) (c := lc) (k := j) (ao := some ⟨gs, 0, none⟩) rfl (by kernel_rfl) (by kernel_rfl) HCP.out.1 (fun e => by cases e)) ?_)
                | (refine wpList_of_run rfl (x_app27 (s := .tmp 67) (x := .tmp 70) (v := .slice none 0 0) (u := .slice (some ⟨gs, 0, none⟩) j lc) rfl (by kernel_rfl) (by kernel_rfl) HA6.out) ?_)
                | (refine wpList_of_run rfl (x_add1 (x := .tmp 74) (k := j) (by have := HCP.out.2.2.2; omega) rfl (by kernel_rfl)) ?_)
                | (refine wpList_of_run rfl (x_sl27l (x := .tmp 73) (y := .tmp 75) (n := ln) (c := lc) (k := j + 1) (ao := some ⟨gs, 0, none⟩) (a' := cut27 (some ⟨gs, 0, none⟩) (j + 1) lc) (j := ln - (j + 1)) (c' := lc - (j + 1)) rfl (by kernel_rfl) rfl HCP.out.2.1 HCP.out.2.2.1 (fun e => by cases e) rfl rfl rfl) ?_)
                | (refine wpList_of_run rfl (x_app27 (s := .tmp 72) (x := .tmp 76) (v := .slice va6 m6 c6) (u := .slice (cut27 (some ⟨gs, 0, none⟩) (j + 1) lc) (ln - (j + 1)) (lc - (j + 1))) rfl (by kernel_rfl) (by kernel_rfl) HA7.out) ?_))
              go_roundw
              case rel => exact ⟨m + 1, fa, fm, fc, by go_num, rfl, by have := HF7.out.2.1; omega, _, _, _, _, HF7.out.1⟩
              case measure => simp [intOf]; have := HF7.out.2.1; omega
            · skip
              refine wp_region_noPanic ?_
              refine wp_region_held_drew (S := KeptF (Foot g D2) W2) (by kernel_rfl) (KeptF.of_after (After.drew (After.refl _))) ?_
              intro hS0
              refine tk 0 56 (.pointer (some ⟨g, 0, none⟩)) (fuel := 10) rfl (by kernel_rfl) (by kernel_rfl) (by kernel_rfl) (by kernel_rfl) noPanic_false (by kernel_rfl) (fun _ _ => by kernel_rfl) hS0 ?_
              refine tk 1 57 (.pointer (some ⟨go, 33, none⟩)) (fuel := 9) rfl (by kernel_rfl) (by kernel_rfl) (by kernel_rfl) (by kernel_rfl) noPanic_false (by kernel_rfl) (fun _ _ => by kernel_rfl) hS0 ?_
              refine tk 2 58 (idv c.af) (fuel := 8) rfl (by kernel_rfl) (by kernel_rfl) (by kernel_rfl) (by kernel_rfl) noPanic_false (by kernel_rfl) (fun W hW => x_ld40m (x := .tmp 57) (g := go) (p := 33) HC.out.1.af (by kernel_rfl) (by kernel_rfl) (by have := range_raf HC.out.1 (hW.row HBX.out (H2.out.1.row.other HBX.out (by decide) (by decide) (by decide))).range0; rwa [Nat.zero_add] at this)) hS0 ?_
              refine tk 4 60 (.pointer (some ⟨go, 0, none⟩)) (fuel := 7) rfl (by kernel_rfl) (by kernel_rfl) (by kernel_rfl) (by kernel_rfl) noPanic_false (by kernel_rfl) (fun _ _ => by kernel_rfl) hS0 ?_
              refine tk 5 61 (idv c.id) (fuel := 6) rfl (by kernel_rfl) (by kernel_rfl) (by kernel_rfl) (by kernel_rfl) noPanic_false (by kernel_rfl) (fun W hW => x_ld40m (x := .tmp 60) (g := go) (p := 0) HC.out.1.id (by kernel_rfl) (by kernel_rfl) (range_rid (hW.row HBX.out (H2.out.1.row.other HBX.out (by decide) (by decide) (by decide))).range0)) hS0 ?_
              refine tk 7 63 (.pointer (some ⟨go, 66, none⟩)) (fuel := 5) rfl (by kernel_rfl) (by kernel_rfl) (by kernel_rfl) (by kernel_rfl) noPanic_false (by kernel_rfl) (fun _ _ => by kernel_rfl) hS0 ?_
              refine tk 8 64 (.int .u8 (c.ch.toNat : Int)) (fuel := 4) rfl (by kernel_rfl) (by kernel_rfl) (by kernel_rfl) (by kernel_rfl) noPanic_false (by kernel_rfl) (fun W hW => x_loadT (x := .tmp 63) (t := 5) (g := go) (j := 66) Try.underlying5 rfl (by kernel_rfl) (by kernel_rfl) ((hW.row HBX.out (H2.out.1.row.other HBX.out (by decide) (by decide) (by decide))).cell (j := 66) HC66.out)) hS0 ?_
              refine tkCallZ 3 59 18 #[idv c.af] (fun v w' => v = idv c.af ∧ After W2 w') (fuel := 3) rfl (by kernel_rfl) (by kernel_rfl) (by kernel_rfl) (fun _ => by kernel_rfl) (Calls.mono (own_any HC.out.1.af _) (fun e w' ⟨he, ha⟩ => ⟨_, he, rfl, (After.drew (After.refl W2)).trans ha⟩)) ?_
              intro v3 w3 ⟨hv3, ha3⟩
              subst hv3
              refine ⟨KeptF.of_after ha3, ?_⟩
              refine tkCallZ 6 62 18 #[idv c.id] (fun v w' => v = idv c.id ∧ After W2 w') (fuel := 2) rfl (by kernel_rfl) (by kernel_rfl) (by kernel_rfl) (fun _ => by kernel_rfl) (Calls.mono (own_any HC.out.1.id _) (fun e w' ⟨he, ha⟩ => ⟨_, he, rfl, ha3.trans ha⟩)) ?_
              intro v4 w4 ⟨hv4, ha4⟩
              subst hv4
              refine ⟨KeptF.of_after ha4, ?_⟩
              refine tkCallZ 9 65 22 #[.pointer (some ⟨g, 0, none⟩), idv c.af, idv c.id, .int .u8 (c.ch.toNat : Int)] (fun v w' => v = .int .i64 ((insE st c.af c.id : Nat) : Int) ∧ ∃ D', RowAt w' w.heap.size g (insF st c.af c.id c.ch) D' ∧ KeptF (Foot g D2) w4 w') (fuel := 1) rfl (by kernel_rfl) (by kernel_rfl) (by kernel_rfl) (fun _ => by kernel_rfl) (Calls.mono (Insert_any (H2.out.1.row.after ha4) HJ.out.ali.wf (by have := HLN.out; omega) HC.out.1.af HC.out.1.id c.ch) (fun e w' ⟨he, D', h1, _, h3⟩ => ⟨_, he, rfl, D', h1, h3⟩)) ?_
              intro v5 w5 ⟨hv5, D5, h51, h53⟩
              subst hv5
              have hk5 : KeptF (Foot g D2) W2 w5 := (KeptF.of_after ha4).trans h53 (fun _ _ h => h)
              refine ⟨hk5, ?_⟩
              refine tk 10 66 (.bool false) (fuel := 0) rfl (by kernel_rfl) (by kernel_rfl) (by kernel_rfl) (by kernel_rfl) noPanic_false (by kernel_rfl) (fun W _ => x_eq51 (x := .tmp 65) (n := insE st c.af c.id) hE (by kernel_rfl) (by kernel_rfl)) hk5 ?_
              refine wpAnyH_done (by kernel_rfl) (NoPanic.normal ?_) _
              have ha5 : After w w5 := kept_after H2.out.1.row H2.out.1.aft hk5
              have HF5 := show Hid (Fl w w5 cells g st li lf D5 (some ⟨gs, 0, none⟩) ln lc) from ⟨by rw [ins_bad hE] at h51; exact h51, HJ.out.ali, H2.out.1.row.refrow hk5 H2.out.1.lft, HJ.out.prm, ha5⟩
              have HN5 := show Hid (∀ i', i' < i + 1 → ∀ c, lf[(k + i') % ln]? = some c → insE st c.af c.id ≠ 0) from fun i' hi' d hd => by
                by_cases q : i' = i
                · subst q
                  rw [HC.out.2.2.2.1, HC.out.2.2.2.2] at hd
                  cases hd
                  exact hE
                · exact HI.out.2 i' (by omega) d hd
              clear h51 h53 hk5 ha3 ha4 ha5 hS0 hE
              go_simp
              go_wp2_with fail
              go_roundw
              case rel => exact ⟨i + 1, by go_num, rfl, by omega, D5, HF5.out, HN5.out⟩
              case measure => simp [intOf]; omega
          · exfalso
            obtain ⟨c, hc, hcan⟩ := HCE.out.1.some_can HJ.out.prm (fun e => by have := HJ.out.lft.cap.1; rw [e] at this; simp at this; omega)
            obtain ⟨j, hj⟩ := List.getElem?_of_mem hc
            have hjl : j < ln := by have := (List.getElem?_eq_some_iff.1 hj).1; have := HJ.out.lft.cap.1; omega
            obtain ⟨i', hi', e⟩ := around hkl hjl
            exact HI.out.2 i' (by omega) c (by rw [e]; exact hj) (can_of HJ.out.ali HCE.out.1 HJ.out.prm hc hcan)
      · have hmti : ¬ (m : Int) < (tn : Int) := by omega
        have hkl : 0 < ln := hpos
        go_wp2_with fail
        go_loopw [6, 9] (fun vl vi wr => ∃ i : Nat, vi = .int .i64 (i : Int) ∧ vl = .slice la ln lc ∧ i ≤ ln ∧ ∃ D2, Hid (Fl w wr cells g st li lf D2 la ln lc ∧ ∀ i', i' < i → ∀ c, lf[(0 + i') % ln]? = some c → insE st c.af c.id ≠ 0)) (fun _ vi _ => ln - (intOf vi).toNat)
        case atStart => exact ⟨0, rfl, rfl, Nat.zero_le _, D, HJ.out, fun i' hi' => absurd hi' (Nat.not_lt_zero _)⟩
        case round =>
          obtain ⟨wk, hwk⟩ : ∃ wk, wk = wr := ⟨_, rfl⟩
          subst hwk
          obtain ⟨i, rfl, rfl, hil, D2, HI⟩ := hrel
          by_cases hilt : i < ln
          · have hii : (i : Int) < (ln : Int) := by omega
            have hj : (0 + i) % ln = i % ln := by rw [Nat.zero_add]
            have hjl : (i % ln) < ln := by rw [← hj]; exact Nat.mod_lt _ (by omega)
            obtain ⟨c, hc⟩ : ∃ c, lf[(i % ln)]? = some c := ⟨_, List.getElem?_eq_getElem (by rw [HI.out.1.lft.cap.1]; exact hjl)⟩
            obtain ⟨gs, hla, -, hr⟩ := HI.out.1.lft.at hc
            subst hla
            rw [Nat.zero_add] at hr
            have HC : Hid (c.Ok ∧ wk.rangeAt gs ((i % ln) * 68) (rcell c) ∧ (i % ln) < ln ∧ (0 + i) % ln = (i % ln) ∧ lf[(i % ln)]? = some c) := ⟨HI.out.1.lft.1 c (List.mem_of_getElem? hc), hr, hjl, hj, hc⟩
            have HC66 : Hid ((rcell c)[66]? = some (.int .u8 (c.ch.toNat : Int))) := by
              show _ = _
              unfold rcell; rw [List.getElem?_append_right (by rw [idc_len HC.out.1.id]; omega), idc_len HC.out.1.id, List.getElem?_append_right (by rw [idc_len HC.out.1.af]; omega), idc_len HC.out.1.af]; rfl
            have HSG : Hid (c.gone = false) := HCE.out.1.stay c (HJ.out.prm.mem_iff.1 (by have := List.mem_of_getElem? hc; simp [this]))
            obtain ⟨W2, hW2⟩ : ∃ W2, (wk.alloc (.cells (rcell zRC).toArray 68)).setRow wk.heap.size (rcell c).toArray = W2 := ⟨_, rfl⟩
            have HZ : Hid (RowIs (wk.alloc (.cells (rcell zRC).toArray 68)) wk.heap.size 68 (rcell zRC)) := RowIs.new wk 68 (rcell zRC)
            have hA2 : After wk W2 := by rw [← hW2]; exact Below.row (after_alloc (After.refl wk) _) (Nat.le_refl _) _
            have HBX : Hid (RowIs W2 wk.heap.size 68 (rcell c)) := by rw [← hW2]; exact HZ.out.setRow _
            have H2 : Hid (Fl w W2 cells g st li lf D2 (some ⟨gs, 0, none⟩) ln lc ∧ True) := ⟨⟨HI.out.1.row.after hA2, HI.out.1.ali, HI.out.1.lft.after hA2, HI.out.1.prm, HI.out.1.aft.trans hA2⟩, trivial⟩
            have HG2 := show Hid _ from hW2
            clear hc hr hW2 hA2 hj hjl
            obtain ⟨go, hgo⟩ : ∃ go, wk.heap.size = go := ⟨_, rfl⟩
            have HGO : Hid (wk.heap.size = go) := hgo
            rw [hgo] at HBX HZ HG2
            go_wp2_with (first
              | (refine wpList_of_run rfl (x_addz (x := .tmp 46) (y := .tmp 47) (p := ((0 : Nat) : Int)) (q := (i : Int)) (by omega) (by omega) rfl (by kernel_rfl) (by kernel_rfl)) ?_)
              | (refine wpList_of_run rfl (x_remi (x := .tmp 48) (y := .tmp 50) (p := 0 + i) (q := ln) (r := (i % ln)) rfl rfl (by kernel_rfl) HC.out.2.2.2.1 (by omega)) ?_)
              | (refine wpList_of_run rfl (x_idx27 (x := .tmp 52) (y := .tmp 53) (b := gs) (f := 0) (n := ln) (c := lc) (k := (i % ln)) rfl (by kernel_rfl) (by kernel_rfl) HC.out.2.2.1) ?_; rw [Nat.zero_add])
              | (refine wpList_of_run rfl (x_ld68m (x := .tmp 54) (g := gs) (p := (i % ln) * 68) (c := c) HC.out.1 rfl (by kernel_rfl) HC.out.2.1) ?_)
              | (refine wpList_of_run rfl ((x_al68 rfl).trans (by rw [HGO.out])) ?_)
              | (refine wpList_store_row rfl 68 (.tmp 11) (.tmp 55) rfl go (rcell c).toArray rfl rfl 68 _ HZ.out (size68 HC.out.1) (by simp [rcell_len HC.out.1, rcell_len zRC_ok]) (by simpa using rcell_one c) ?_; rw [HG2.out]))
            by_cases hE : insE st c.af c.id = 0
            · skip
              refine wp_region_noPanic ?_
              refine wp_region_held_drew (S := KeptF (Foot g D2) W2) (by kernel_rfl) (KeptF.of_after (After.drew (After.refl _))) ?_
              intro hS0
              refine tk 0 56 (.pointer (some ⟨g, 0, none⟩)) (fuel := 10) rfl (by kernel_rfl) (by kernel_rfl) (by kernel_rfl) (by kernel_rfl) noPanic_false (by kernel_rfl) (fun _ _ => by kernel_rfl) hS0 ?_
              refine tk 1 57 (.pointer (some ⟨go, 33, none⟩)) (fuel := 9) rfl (by kernel_rfl) (by kernel_rfl) (by kernel_rfl) (by kernel_rfl) noPanic_false (by kernel_rfl) (fun _ _ => by kernel_rfl) hS0 ?_
              refine tk 2 58 (idv c.af) (fuel := 8) rfl (by kernel_rfl) (by kernel_rfl) (by kernel_rfl) (by kernel_rfl) noPanic_false (by kernel_rfl) (fun W hW => x_ld40m (x := .tmp 57) (g := go) (p := 33) HC.out.1.af (by kernel_rfl) (by kernel_rfl) (by have := range_raf HC.out.1 (hW.row HBX.out (H2.out.1.row.other HBX.out (by decide) (by decide) (by decide))).range0; rwa [Nat.zero_add] at this)) hS0 ?_
              refine tk 4 60 (.pointer (some ⟨go, 0, none⟩)) (fuel := 7) rfl (by kernel_rfl) (by kernel_rfl) (by kernel_rfl) (by kernel_rfl) noPanic_false (by kernel_rfl) (fun _ _ => by kernel_rfl) hS0 ?_
              refine tk 5 61 (idv c.id) (fuel := 6) rfl (by kernel_rfl) (by kernel_rfl) (by kernel_rfl) (by kernel_rfl) noPanic_false (by kernel_rfl) (fun W hW => x_ld40m (x := .tmp 60) (g := go) (p := 0) HC.out.1.id (by kernel_rfl) (by kernel_rfl) (range_rid (hW.row HBX.out (H2.out.1.row.other HBX.out (by decide) (by decide) (by decide))).range0)) hS0 ?_
              refine tk 7 63 (.pointer (some ⟨go, 66, none⟩)) (fuel := 5) rfl (by kernel_rfl) (by kernel_rfl) (by kernel_rfl) (by kernel_rfl) noPanic_false (by kernel_rfl) (fun _ _ => by kernel_rfl) hS0 ?_
              refine tk 8 64 (.int .u8 (c.ch.toNat : Int)) (fuel := 4) rfl (by kernel_rfl) (by kernel_rfl) (by kernel_rfl) (by kernel_rfl) noPanic_false (by kernel_rfl) (fun W hW => x_loadT (x := .tmp 63) (t := 5) (g := go) (j := 66) Try.underlying5 rfl (by kernel_rfl) (by kernel_rfl) ((hW.row HBX.out (H2.out.1.row.other HBX.out (by decide) (by decide) (by decide))).cell (j := 66) HC66.out)) hS0 ?_
              refine tkCallZ 3 59 18 #[idv c.af] (fun v w' => v = idv c.af ∧ After W2 w') (fuel := 3) rfl (by kernel_rfl) (by kernel_rfl) (by kernel_rfl) (fun _ => by kernel_rfl) (Calls.mono (own_any HC.out.1.af _) (fun e w' ⟨he, ha⟩ => ⟨_, he, rfl, (After.drew (After.refl W2)).trans ha⟩)) ?_
              intro v3 w3 ⟨hv3, ha3⟩
              subst hv3
              refine ⟨KeptF.of_after ha3, ?_⟩
              refine tkCallZ 6 62 18 #[idv c.id] (fun v w' => v = idv c.id ∧ After W2 w') (fuel := 2) rfl (by kernel_rfl) (by kernel_rfl) (by kernel_rfl) (fun _ => by kernel_rfl) (Calls.mono (own_any HC.out.1.id _) (fun e w' ⟨he, ha⟩ => ⟨_, he, rfl, ha3.trans ha⟩)) ?_
              intro v4 w4 ⟨hv4, ha4⟩
              subst hv4
              refine ⟨KeptF.of_after ha4, ?_⟩
              refine tkCallZ 9 65 22 #[.pointer (some ⟨g, 0, none⟩), idv c.af, idv c.id, .int .u8 (c.ch.toNat : Int)] (fun v w' => v = .int .i64 0 ∧ ∃ D', RowAt w' w.heap.size g (insF st c.af c.id c.ch) D' ∧ KeptF (Foot g D2) w4 w') (fuel := 1) rfl (by kernel_rfl) (by kernel_rfl) (by kernel_rfl) (fun _ => by kernel_rfl) (Calls.mono (Insert_any (H2.out.1.row.after ha4) HJ.out.ali.wf (by have := HLN.out; omega) HC.out.1.af HC.out.1.id c.ch) (fun e w' ⟨he, D', h1, _, h3⟩ => ⟨_, he, by rw [hE]; rfl, D', h1, h3⟩)) ?_
              intro v5 w5 ⟨hv5, D5, h51, h53⟩
              subst hv5
              have hk5 : KeptF (Foot g D2) W2 w5 := (KeptF.of_after ha4).trans h53 (fun _ _ h => h)
              refine ⟨hk5, ?_⟩
              refine tk 10 66 (.bool true) (fuel := 0) rfl (by kernel_rfl) (by kernel_rfl) (by kernel_rfl) (by kernel_rfl) noPanic_false (by kernel_rfl) (fun _ _ => by kernel_rfl) hk5 ?_
              refine wpAnyH_done (by kernel_rfl) (NoPanic.normal ?_) _
              have ha5 : After w w5 := kept_after H2.out.1.row H2.out.1.aft hk5
              have hl5 : RowR w5 w.heap.size (.slice (some ⟨gs, 0, none⟩) ln lc) lf := H2.out.1.row.refrow hk5 H2.out.1.lft
              obtain ⟨hcap1, hcap2, hcap3⟩ := hl5.cap
              obtain ⟨v6, w6, h61, h62, h63⟩ := app_nilS (hl5.src.take (k := (i % ln)) (Nat.le_of_lt HC.out.2.2.1) hcap1) (by rw [List.length_take]; have := HLN.out; have := HC.out.2.2.1; omega)
              obtain ⟨va6, c6, hv6⟩ := h62.sl
              obtain ⟨fa, fm, fc, w7, h71, h72, h73⟩ := app_any (W8 := w5) (W := w6) (base := w5.heap.size) (v := v6) h63 (Nat.le_refl _) h63.size h62 ((hl5.after h63).src.drop (k := (i % ln) + 1) HC.out.2.2.1 hcap1 hcap2 hcap3) (by rw [List.length_take, List.length_drop]; have := HLN.out; have := HC.out.2.2.1; omega)
              obtain ⟨m6, hm6⟩ : ∃ m6, (lf.take (i % ln)).length = m6 := ⟨_, rfl⟩
              rw [hm6] at hv6
              subst hv6
              have HA6 := show Hid ((Builtin.append_ #[27, 27] 27 #[.slice none 0 0, .slice (some ⟨gs, 0, none⟩) (i % ln) lc]).run Try.prog w5 = .ok (.slice va6 m6 c6) w6) from h61
              have HA7 := show Hid ((Builtin.append_ #[27, 27] 27 #[.slice va6 m6 c6, .slice (cut27 (some ⟨gs, 0, none⟩) ((i % ln) + 1) lc) (ln - ((i % ln) + 1)) (lc - ((i % ln) + 1))]).run Try.prog w6 = .ok (.slice fa fm fc) w7) from h71
              have HCP := show Hid ((i % ln) ≤ lc ∧ ln ≤ lc ∧ (i % ln) + 1 ≤ ln ∧ (i % ln) + 1 ≤ 100000) from ⟨by have := HC.out.2.2.1; omega, hcap2, HC.out.2.2.1, by have := HC.out.2.2.1; have := HLN.out; omega⟩
              have HF7 := show Hid (Fl w w7 cells g (insF st c.af c.id c.ch) (li ++ [c]) (lf.take (i % ln) ++ lf.drop ((i % ln) + 1)) D5 fa fm fc ∧ fm + 1 = ln ∧ (li ++ [c]).length = li.length + 1) from by
                have hrn := rIns_ok HJ.out.ali HSG.out hE
                have ha := HJ.out.ali
                refine ⟨⟨(h51.after h73), ⟨ha.wf.insF HC.out.1.id _, by rw [← hrn]; exact ha.lnk.ins ha.wf _ _ _, by rw [← hrn]; exact ha.kid.ins ha.lnk ha.wf _ _ _⟩, h72.mono ha5.size, perm_take HJ.out.prm HC.out.2.2.2.2, ha5.trans h73⟩, ?_, by simp⟩
                have := h72.cap.1
                rw [List.length_append, List.length_take, List.length_drop] at this
                have := HC.out.2.2.1
                omega
              clear h51 h53 h61 h62 h63 h71 h72 h73 hk5 ha3 ha4 ha5 hl5 hS0 hcap1 hcap2 hcap3 hm6
              go_simp
              go_wp2_with (first
                | (refine wpList_of_run rfl (x_sl27h (x := .tmp 68) (y := .tmp 69) (n := ln) (c := lc) (k := (i % ln)) (ao := some ⟨gs, 0, none⟩) rfl (by kernel_rfl) (by kernel_rfl) HCP.out.1 (fun e => by cases e)) ?_)
                | (refine wpList_of_run rfl (x_app27 (s := .tmp 67) (x := .tmp 70) (v := .slice none 0 0) (u := .slice (some ⟨gs, 0, none⟩) (i % ln) lc) rfl (by kernel_rfl) (by kernel_rfl) HA6.out) ?_)
                | (refine wpList_of_run rfl (x_add1 (x := .tmp 74) (k := (i % ln)) (by have := HCP.out.2.2.2; omega) rfl (by kernel_rfl)) ?_)
                | (refine wpList_of_run rfl (x_sl27l (x := .tmp 73) (y := .tmp 75) (n := ln) (c := lc) (k := (i % ln) + 1) (ao := some ⟨gs, 0, none⟩) (a' := cut27 (some ⟨gs, 0, none⟩) ((i % ln) + 1) lc) (j := ln - ((i % ln) + 1)) (c' := lc - ((i % ln) + 1)) rfl (by kernel_rfl) rfl HCP.out.2.1 HCP.out.2.2.1 (fun e => by cases e) rfl rfl rfl) ?_)
                | (refine wpList_of_run rfl (x_app27 (s := .tmp 72) (x := .tmp 76) (v := .slice va6 m6 c6) (u := .slice (cut27 (some ⟨gs, 0, none⟩) ((i % ln) + 1) lc) (ln - ((i % ln) + 1)) (lc - ((i % ln) + 1))) rfl (by kernel_rfl) (by kernel_rfl) HA7.out) ?_))
              go_roundw
              case rel => exact ⟨m + 1, fa, fm, fc, by go_num, rfl, by have := HF7.out.2.1; omega, _, _, _, _, HF7.out.1⟩
              case measure => simp [intOf]; have := HF7.out.2.1; omega
            · skip
              refine wp_region_noPanic ?_
              refine wp_region_held_drew (S := KeptF (Foot g D2) W2) (by kernel_rfl) (KeptF.of_after (After.drew (After.refl _))) ?_
              intro hS0
              refine tk 0 56 (.pointer (some ⟨g, 0, none⟩)) (fuel := 10) rfl (by kernel_rfl) (by kernel_rfl) (by kernel_rfl) (by kernel_rfl) noPanic_false (by kernel_rfl) (fun _ _ => by kernel_rfl) hS0 ?_
              refine tk 1 57 (.pointer (some ⟨go, 33, none⟩)) (fuel := 9) rfl (by kernel_rfl) (by kernel_rfl) (by kernel_rfl) (by kernel_rfl) noPanic_false (by kernel_rfl) (fun _ _ => by kernel_rfl) hS0 ?_
              refine tk 2 58 (idv c.af) (fuel := 8) rfl (by kernel_rfl) (by kernel_rfl) (by kernel_rfl) (by kernel_rfl) noPanic_false (by kernel_rfl) (fun W hW => x_ld40m (x := .tmp 57) (g := go) (p := 33) HC.out.1.af (by kernel_rfl) (by kernel_rfl) (by have := range_raf HC.out.1 (hW.row HBX.out (H2.out.1.row.other HBX.out (by decide) (by decide) (by decide))).range0; rwa [Nat.zero_add] at this)) hS0 ?_
              refine tk 4 60 (.pointer (some ⟨go, 0, none⟩)) (fuel := 7) rfl (by kernel_rfl) (by kernel_rfl) (by kernel_rfl) (by kernel_rfl) noPanic_false (by kernel_rfl) (fun _ _ => by kernel_rfl) hS0 ?_
              refine tk 5 61 (idv c.id) (fuel := 6) rfl (by kernel_rfl) (by kernel_rfl) (by kernel_rfl) (by kernel_rfl) noPanic_false (by kernel_rfl) (fun W hW => x_ld40m (x := .tmp 60) (g := go) (p := 0) HC.out.1.id (by kernel_rfl) (by kernel_rfl) (range_rid (hW.row HBX.out (H2.out.1.row.other HBX.out (by decide) (by decide) (by decide))).range0)) hS0 ?_
              refine tk 7 63 (.pointer (some ⟨go, 66, none⟩)) (fuel := 5) rfl (by kernel_rfl) (by kernel_rfl) (by kernel_rfl) (by kernel_rfl) noPanic_false (by kernel_rfl) (fun _ _ => by kernel_rfl) hS0 ?_
              refine tk 8 64 (.int .u8 (c.ch.toNat : Int)) (fuel := 4) rfl (by kernel_rfl) (by kernel_rfl) (by kernel_rfl) (by kernel_rfl) noPanic_false (by kernel_rfl) (fun W hW => x_loadT (x := .tmp 63) (t := 5) (g := go) (j := 66) Try.underlying5 rfl (by kernel_rfl) (by kernel_rfl) ((hW.row HBX.out (H2.out.1.row.other HBX.out (by decide) (by decide) (by decide))).cell (j := 66) HC66.out)) hS0 ?_
              refine tkCallZ 3 59 18 #[idv c.af] (fun v w' => v = idv c.af ∧ After W2 w') (fuel := 3) rfl (by kernel_rfl) (by kernel_rfl) (by kernel_rfl) (fun _ => by kernel_rfl) (Calls.mono (own_any HC.out.1.af _) (fun e w' ⟨he, ha⟩ => ⟨_, he, rfl, (After.drew (After.refl W2)).trans ha⟩)) ?_
              intro v3 w3 ⟨hv3, ha3⟩
              subst hv3
              refine ⟨KeptF.of_after ha3, ?_⟩
              refine tkCallZ 6 62 18 #[idv c.id] (fun v w' => v = idv c.id ∧ After W2 w') (fuel := 2) rfl (by kernel_rfl) (by kernel_rfl) (by kernel_rfl) (fun _ => by kernel_rfl) (Calls.mono (own_any HC.out.1.id _) (fun e w' ⟨he, ha⟩ => ⟨_, he, rfl, ha3.trans ha⟩)) ?_
              intro v4 w4 ⟨hv4, ha4⟩
              subst hv4
              refine ⟨KeptF.of_after ha4, ?_⟩
              refine tkCallZ 9 65 22 #[.pointer (some ⟨g, 0, none⟩), idv c.af, idv c.id, .int .u8 (c.ch.toNat : Int)] (fun v w' => v = .int .i64 ((insE st c.af c.id : Nat) : Int) ∧ ∃ D', RowAt w' w.heap.size g (insF st c.af c.id c.ch) D' ∧ KeptF (Foot g D2) w4 w') (fuel := 1) rfl (by kernel_rfl) (by kernel_rfl) (by kernel_rfl) (fun _ => by kernel_rfl) (Calls.mono (Insert_any (H2.out.1.row.after ha4) HJ.out.ali.wf (by have := HLN.out; omega) HC.out.1.af HC.out.1.id c.ch) (fun e w' ⟨he, D', h1, _, h3⟩ => ⟨_, he, rfl, D', h1, h3⟩)) ?_
              intro v5 w5 ⟨hv5, D5, h51, h53⟩
              subst hv5
              have hk5 : KeptF (Foot g D2) W2 w5 := (KeptF.of_after ha4).trans h53 (fun _ _ h => h)
              refine ⟨hk5, ?_⟩
              refine tk 10 66 (.bool false) (fuel := 0) rfl (by kernel_rfl) (by kernel_rfl) (by kernel_rfl) (by kernel_rfl) noPanic_false (by kernel_rfl) (fun W _ => x_eq51 (x := .tmp 65) (n := insE st c.af c.id) hE (by kernel_rfl) (by kernel_rfl)) hk5 ?_
              refine wpAnyH_done (by kernel_rfl) (NoPanic.normal ?_) _
              have ha5 : After w w5 := kept_after H2.out.1.row H2.out.1.aft hk5
              have HF5 := show Hid (Fl w w5 cells g st li lf D5 (some ⟨gs, 0, none⟩) ln lc) from ⟨by rw [ins_bad hE] at h51; exact h51, HJ.out.ali, H2.out.1.row.refrow hk5 H2.out.1.lft, HJ.out.prm, ha5⟩
              have HN5 := show Hid (∀ i', i' < i + 1 → ∀ c, lf[(0 + i') % ln]? = some c → insE st c.af c.id ≠ 0) from fun i' hi' d hd => by
                by_cases q : i' = i
                · subst q
                  rw [HC.out.2.2.2.1, HC.out.2.2.2.2] at hd
                  cases hd
                  exact hE
                · exact HI.out.2 i' (by omega) d hd
              clear h51 h53 hk5 ha3 ha4 ha5 hS0 hE
              go_simp
              go_wp2_with fail
              go_roundw
              case rel => exact ⟨i + 1, by go_num, rfl, by omega, D5, HF5.out, HN5.out⟩
              case measure => simp [intOf]; omega
          · exfalso
            obtain ⟨c, hc, hcan⟩ := HCE.out.1.some_can HJ.out.prm (fun e => by have := HJ.out.lft.cap.1; rw [e] at this; simp at this; omega)
            obtain ⟨j, hj⟩ := List.getElem?_of_mem hc
            have hjl : j < ln := by have := (List.getElem?_eq_some_iff.1 hj).1; have := HJ.out.lft.cap.1; omega
            obtain ⟨i', hi', e⟩ := around hkl hjl
            exact HI.out.2 i' (by omega) c (by rw [e]; exact hj) (can_of HJ.out.ali HCE.out.1 HJ.out.prm hc hcan)
    · obtain rfl : ln = 0 := by omega
      have HP : Hid (li.Perm cells) := by
        have h1 := HJ.out.lft.cap.1
        have h2 := HJ.out.prm
        rw [List.eq_nil_of_length_eq_zero h1, List.append_nil] at h2
        exact h2
      go_wp2_with fail
      go_ret
      exact ⟨_, D, st, li, rfl, HJ.out.row, HJ.out.ali, HP.out, HJ.out.aft⟩
end Go.Proofs.Ytiglenomigipmaa

namespace Go.Proofs.Ytiglenomigipmaa
open Go.RowKit Go.Shelf Go.Maps Go.WideMaps Go.WideAt Mp
attribute [local go_sem] Oper.semAt_some
set_option maxRecDepth 100000 in
theorem eq35s (a : List UInt8) (ha : a.length = 32) (w : World) : (Op.equalIn 9998 35 (.agg (c8 a).toArray) (.agg (c8 a).toArray)).run Try.prog w = .ok true w := by
  obtain ⟨i, hi, hz⟩ := Option.map_eq_some_iff.1 info5
  have h := run_equalIn_array (P := Try.prog) w 9997 (c8 a).toArray (c8 a).toArray Try.underlying35 hi
  rw [cells5', eqItems5 9996 a a w (List.range 32) (fun i hi => by simp at hi; omega)] at h
  rw [show (9998 : Nat) = 9997 + 1 from rfl, h]
  congr 1
  simp
set_option maxRecDepth 100000 in
theorem eq37s (x : Idn) (hx : x.Ok) (w : World) : (Op.equalIn 9999 37 (.agg (idc x).toArray) (.agg (idc x).toArray)).run Try.prog w = .ok true w := by
  have u3 := Try.underlying3
  have hS : Try.prog.underlying 37 = some (.struct (Try.prog.fieldsOf 37)) := by kernel_rfl
  have hp : Try.prog.stoodInHeld 37 = false := by kernel_rfl
  have a3 : ∀ w, (isAgg 3).run Try.prog w = .ok false w := fun w => by unfold isAgg; rw [Sem.run_bind, run_underlying u3 w]; rfl
  have h35 := eq35s x.b hx.len w
  rw [show (9999 : Nat) = 9998 + 1 from rfl, run_equalIn_agg w 9998 37 _ _ hS hp]
  simp only [Program.fieldsOf, Try.underlying37]
  have t1 : List.take 32 (idc x).tail = c8 x.b := by rw [show (idc x).tail = c8 x.b from rfl, List.take_of_length_le (by rw [c8_len, hx.len]; omega)]
  have z1 : (idc x)[0]? = some (.int .i64 x.c) := rfl
  go_simp
set_option maxRecDepth 100000 in
theorem eq63s (x : Idn) (hx : x.Ok) (ch : UInt8) (gn : Bool) (w : World) : (Op.equalIn 10000 63 (.agg (ccell x ch gn).toArray) (.agg (ccell x ch gn).toArray)).run Try.prog w = .ok true w := by
  have u5 := Try.underlying5
  have u4 := Try.underlying4
  have hS : Try.prog.underlying 63 = some (.struct (Try.prog.fieldsOf 63)) := by kernel_rfl
  have hp : Try.prog.stoodInHeld 63 = false := by kernel_rfl
  have a5 : ∀ w, (isAgg 5).run Try.prog w = .ok false w := fun w => by unfold isAgg; rw [Sem.run_bind, run_underlying u5 w]; rfl
  have a4 : ∀ w, (isAgg 4).run Try.prog w = .ok false w := fun w => by unfold isAgg; rw [Sem.run_bind, run_underlying u4 w]; rfl
  have u3 := Try.underlying3
  have a3 : ∀ w, (isAgg 3).run Try.prog w = .ok false w := fun w => by unfold isAgg; rw [Sem.run_bind, run_underlying u3 w]; rfl
  have h35 := eq35s x.b hx.len w
  have tt : List.take 32 (idc x).tail = c8 x.b := by rw [show (idc x).tail = c8 x.b from rfl, List.take_of_length_le (by rw [c8_len, hx.len]; omega)]
  have zz : (idc x)[0]? = some (.int .i64 x.c) := rfl
  rw [show (10000 : Nat) = 9999 + 1 from rfl, run_equalIn_agg w 9999 63 _ _ hS hp]
  simp only [Program.fieldsOf, Try.underlying63]
  have t1 : List.take 33 (ccell x ch gn) = idc x := by unfold ccell; rw [List.take_left' (idc_len hx)]
  have z1 : (ccell x ch gn)[33]? = some (.int .u8 (ch.toNat : Int)) := by unfold ccell; rw [List.getElem?_append_right (by rw [idc_len hx]; omega), idc_len hx]; rfl
  have z2 : (ccell x ch gn)[34]? = some (.bool gn) := by unfold ccell; rw [List.getElem?_append_right (by rw [idc_len hx]; omega), idc_len hx]; rfl
  go_simp
theorem x_ne63 {oi : Oper} {a : Act} {w : World} {x y : Operand} {id : Idn} {ch : UInt8} {gn : Bool} (hid : id.Ok) (hop : oi.op = .binOp .neq 63 x y 63) (hx : a.eval x = .agg (ccell id ch gn).toArray) (hy : a.eval y = .agg (ccell id ch gn).toArray) : (execOp a.eval oi).run Try.prog w = .ok (.value (.bool false)) w := by
  have he := eq63s id hid ch gn w
  have hm : Try.prog.eqGuardType Try.prog.depth 63 = false := by kernel_rfl
  unfold execOp
  simp only [hop, hx, hy, Sem.run_bind, run_eqGuard_agg w .neq 63 x y _ _ hm, run_neq_struct, he, Result.andThen_ok]
  rfl
theorem all_len : ∀ (m : Nat) {L : List Nat}, (∀ x, x < m → x ∈ L) → m ≤ L.length
  | 0, _, _ => Nat.zero_le _
  | m + 1, L, h => by
    have h1 := all_len m (L := L.filter (fun x => x != m)) (fun x hx => List.mem_filter.2 ⟨h x (by omega), by simp; omega⟩)
    have h2 := filter_lt (p := fun x => x != m) (q := fun _ => true) (fun _ _ => rfl) (L := L) ⟨m, h m (by omega), by simp, rfl⟩
    have h3 : L.filter (fun _ => true) = L := List.filter_eq_self.2 (fun _ _ => rfl)
    rw [h3] at h2
    omega
theorem Reach.count {st : List Stm} (hw : Wf st) {U : List Nat} (hU : Reach st U []) : U.length + 1 = st.length := by
  have h1 := (hU.inv hw)
  have n0 : (0 :: U).Nodup := List.nodup_cons.2 ⟨fun hm => by have := (h1.par 0 (by simpa using hm)).1; omega, by simpa using h1.nd⟩
  have hpos : 0 < st.length := by obtain ⟨s, hs, _⟩ := hw.root; exact (List.getElem?_eq_some_iff.1 hs).1
  have a1 := nodup_len st.length n0 (fun x hx => by
    rcases List.mem_cons.1 hx with rfl | hx
    · exact hpos
    · exact (h1.par x (by simpa using hx)).2.1)
  have a2 := all_len st.length (L := 0 :: U) (fun x hx => by
    by_cases e : x = 0
    · simp [e]
    · exact List.mem_cons_of_mem _ (hw.whole hU x (by omega) hx))
  simp only [List.length_cons] at a1 a2
  omega
/-- What a row tells that was filled with some cells. -/
def tolds (cells : List RC) : List RC := bl cells (cells.length + 1) zId
theorem told_of {st : List Stm} {li cells : List RC} (hA : Alike st li) (hp : li.Perm cells) (hG : Gd cells) {U : List Nat} (hU : Reach st U []) : U.map (cOf st) = (tolds cells).map (fun c => ccell c.id c.ch c.gone) ∧ (U.map (cOf st)).length = cells.length := by
  have hl := hA.lnk.len
  have hpl := hp.length_eq
  have hG2 : (li.map (·.id)).Nodup := ((hp.map _).nodup_iff).2 hG.nod
  refine ⟨?_, ?_⟩
  · rw [hA.told hU, bl_perm hp (fun c hc => (hG.ok c (hp.mem_iff.1 hc)).id) hG2, hl, hpl]; rfl
  · rw [List.length_map]
    have := hU.count hA.wf
    omega
set_option maxRecDepth 100000 in
set_option maxHeartbeats 3200000 in
theorem any_any {w : World} {va ta : Option Addr} {n cap tn tc : Nat} {ps : List Put} {ab : List UInt8} (hn : ps.length = n) (hok : ∀ p ∈ ps, p.Ok) (hin : PutsIn w va ps) (htn : ab.length = tn) (hat : BytesAt w ta ab) :
    Calls Try.prog 8 #[.slice va n cap, .slice ta tn tc] w fun e w' => e = .returned (.bool true) ∧ After w w' := by
  by_cases h120 : n ≤ 120
  · have HD : Hid (decide (n ≤ 120) = true) := decide_eq_true h120
    have HTM : Hid (Calls Try.prog 27 #[.slice va n cap] w fun e w' => ∃ v cells, e = .returned v ∧ RowR w' w.heap.size v cells ∧ Gd cells ∧ cells.length ≤ n ∧ After w w') := tame_any hn hok hin h120
    have HAT : Hid (ab.length = tn ∧ ∀ W, After w W → BytesAt W ta ab) := ⟨htn, fun W hW hne => by
      obtain ⟨b, o, e, hc⟩ := hat hne
      exact ⟨b, o, e, fun j hj => (Below.cell hW (p := ⟨b, o + j, none⟩) (World.block_lt_of_cell? w _ (hc j hj))).trans (hc j hj)⟩⟩
    clear hn hok hin htn hat
    go_enter Try.func8, Try.ntmps8
    go_wp2_with (first
      | (go_at_call 11; refine Calls.mono (few_any va n cap) ?_; rintro e w0 ⟨rfl, rfl⟩; rw [HD.out])
      | (go_at_call 27; refine Calls.mono HTM.out ?_; clear HTM; rintro e w1 ⟨v1, cells, rfl, hr1, hg1, hl1, ha1⟩; obtain ⟨ca, cc, hv1⟩ := hr1.sl; obtain ⟨cn, hcn⟩ : ∃ cn, cells.length = cn := ⟨_, rfl⟩; rw [hcn] at hv1; subst hv1; have H1 := show Hid (RowR w1 w0.heap.size (.slice ca cn cc) cells ∧ Gd cells ∧ cells.length = cn ∧ cn ≤ 120 ∧ After w0 w1) from ⟨hr1, hg1, hcn, by omega, ha1⟩; clear hr1 hg1 hl1 ha1 hcn)
      | (go_at_call 28; refine Calls.mono (filled_any (ab := []) H1.out.1 H1.out.2.1 (by have := H1.out.2.2.1; have := H1.out.2.2.2.1; omega) rfl (fun h => absurd rfl h)) ?_; rintro e w2 ⟨g1, D1, st1, li1, rfl, hr2, hA2, hp2, ha2⟩; have H2 := show Hid (RowAt w2 w1.heap.size g1 st1 D1 ∧ Alike st1 li1 ∧ li1.Perm cells ∧ After w1 w2) from ⟨hr2, hA2, hp2, ha2⟩; clear hr2 hA2 hp2 ha2)
      | (go_at_call 28; refine Calls.mono (filled_any (H1.out.1.after H2.out.2.2.2) H1.out.2.1 (by have := H1.out.2.2.1; have := H1.out.2.2.2.1; omega) HAT.out.1 (HAT.out.2 w2 (H1.out.2.2.2.2.trans H2.out.2.2.2))) ?_; rintro e w3 ⟨g2, D2, st2, li2, rfl, hr3, hA3, hp3, ha3⟩; have H3 := show Hid (RowAt w3 w2.heap.size g2 st2 D2 ∧ Alike st2 li2 ∧ li2.Perm cells ∧ After w2 w3 ∧ RowAt w3 w1.heap.size g1 st1 D1) from ⟨hr3, hA3, hp3, ha3, H2.out.1.after ha3⟩; clear hr3 hA3 hp3 ha3)
      | (go_at_call 24; refine Calls.mono (Cells_any H3.out.2.2.2.2 H2.out.2.1.wf (by have := H2.out.2.1.lnk.len; have := H2.out.2.2.1.length_eq; have := H1.out.2.2.1; have := H1.out.2.2.2.1; omega)) ?_; rintro e w4 ⟨v4, U1, rfl, hU1, ho4, ha4⟩; obtain ⟨ht1, ht2⟩ := told_of H2.out.2.1 H2.out.2.2.1 H1.out.2.1 hU1; obtain ⟨xa, xc, hxv⟩ := own_sl ho4; rw [ht2, H1.out.2.2.1] at hxv; subst hxv; rw [ht1] at ho4; have H4 := show Hid (OwnL w4 w3.heap.size 63 35 (.slice xa cn xc) ((tolds cells).map (fun c => ccell c.id c.ch c.gone)) ∧ After w3 w4) from ⟨ho4, ha4⟩; clear ho4 ha4 ht1 ht2 hU1)
      | (go_at_call 24; refine Calls.mono (Cells_any (H3.out.1.after H4.out.2) H3.out.2.1.wf (by have := H3.out.2.1.lnk.len; have := H3.out.2.2.1.length_eq; have := H1.out.2.2.1; have := H1.out.2.2.2.1; omega)) ?_; rintro e w5 ⟨v5, U2, rfl, hU2, ho5, ha5⟩; obtain ⟨ht1, ht2⟩ := told_of H3.out.2.1 H3.out.2.2.1 H1.out.2.1 hU2; obtain ⟨ya, yc, hyv⟩ := own_sl ho5; rw [ht2, H1.out.2.2.1] at hyv; subst hyv; rw [ht1] at ho5 ht2; have H5 := show Hid (OwnL w5 w4.heap.size 63 35 (.slice ya cn yc) ((tolds cells).map (fun c => ccell c.id c.ch c.gone)) ∧ After w4 w5 ∧ OwnL w5 w3.heap.size 63 35 (.slice xa cn xc) ((tolds cells).map (fun c => ccell c.id c.ch c.gone)) ∧ (tolds cells).length = cn) from ⟨ho5, ha5, H4.out.1.same (fun b hb => ha5.block b (own_lt H4.out.1.2 hb).2.1), by rw [List.length_map] at ht2; rw [ht2]; exact H1.out.2.2.1⟩; clear ho5 ha5 ht1 ht2 hU2))
    have H6 : Hid (After w0 w5) := (((H1.out.2.2.2.2.trans H2.out.2.2.2).trans H3.out.2.2.2.1).trans H4.out.2).trans H5.out.2.1
    have hcn : cn ≤ 120 := H1.out.2.2.2.1
    go_loopw [10] (fun vi wr => ∃ i : Nat, vi = .int .i64 (i : Int) ∧ i ≤ cn ∧ Hid (After w5 wr)) (fun vi _ => cn - (intOf vi).toNat)
    case atStart => exact ⟨0, rfl, Nat.zero_le _, After.refl w5⟩
    case round =>
      obtain ⟨i, rfl, hicn, HJ⟩ := hrel
      by_cases hlt : i < cn
      · have hii : (i : Int) < (cn : Int) := by omega
        obtain ⟨c, hc⟩ : ∃ c, (tolds cells)[i]? = some c := ⟨_, List.getElem?_eq_getElem (by rw [H5.out.2.2.2]; exact hlt)⟩
        have hok : c.id.Ok := (H1.out.2.1.ok c (bl_mem (List.mem_of_getElem? hc))).id
        have hci : ((tolds cells).map (fun c => ccell c.id c.ch c.gone))[i]? = some (ccell c.id c.ch c.gone) := by rw [List.getElem?_map, hc]; rfl
        obtain ⟨gx, hxa, -, -⟩ := own_cell H5.out.2.2.1 hci hok
        subst hxa
        obtain ⟨gy, hya, -, -⟩ := own_cell H5.out.1 hci hok
        subst hya
        have HI : Hid (i < cn ∧ c.id.Ok ∧ wr.rangeAt gx (i * 35) (ccell c.id c.ch c.gone) ∧ wr.rangeAt gy (i * 35) (ccell c.id c.ch c.gone)) := ⟨hlt, hok, range_after (H5.out.2.2.1.range hci) HJ.out, range_after (H5.out.1.range hci) HJ.out⟩
        clear hc hci hok
        go_wp2_with fail
        refine wp_region_noPanic ?_
        refine wp_region_held_drew (S := After wr) (by kernel_rfl) (After.drew (After.refl _)) ?_
        intro hS0
        refine tk 0 44 (.slice (some ⟨gx, 0, none⟩) cn xc) (fuel := 8) rfl (by kernel_rfl) (by kernel_rfl) (by kernel_rfl) (by kernel_rfl) noPanic_false (by kernel_rfl) (fun _ _ => by kernel_rfl) hS0 ?_
        refine tk 1 45 (.int .i64 (i : Int)) (fuel := 7) rfl (by kernel_rfl) (by kernel_rfl) (by kernel_rfl) (by kernel_rfl) noPanic_false (by kernel_rfl) (fun _ _ => by kernel_rfl) hS0 ?_
        refine tk 2 46 (.pointer (some ⟨gx, i * 35, none⟩)) (fuel := 6) rfl (by kernel_rfl) (by kernel_rfl) (by kernel_rfl) (by kernel_rfl) noPanic_false (by kernel_rfl) (fun W _ => x_idx54 (x := .tmp 44) (y := .tmp 45) (b := gx) (n := cn) (c := xc) (k := i) (by kernel_rfl) (by kernel_rfl) (by kernel_rfl) HI.out.1) hS0 ?_
        refine tk 3 47 (.agg (ccell c.id c.ch c.gone).toArray) (fuel := 5) rfl (by kernel_rfl) (by kernel_rfl) (by kernel_rfl) (by kernel_rfl) noPanic_false (by kernel_rfl) (fun W hW => x_ld63c (x := .tmp 46) (g := gx) (p := i * 35) HI.out.2.1 (by kernel_rfl) (by kernel_rfl) (range_after HI.out.2.2.1 hW)) hS0 ?_
        refine tk 4 48 (.slice (some ⟨gy, 0, none⟩) cn yc) (fuel := 4) rfl (by kernel_rfl) (by kernel_rfl) (by kernel_rfl) (by kernel_rfl) noPanic_false (by kernel_rfl) (fun _ _ => by kernel_rfl) hS0 ?_
        refine tk 5 49 (.int .i64 (i : Int)) (fuel := 3) rfl (by kernel_rfl) (by kernel_rfl) (by kernel_rfl) (by kernel_rfl) noPanic_false (by kernel_rfl) (fun _ _ => by kernel_rfl) hS0 ?_
        refine tk 6 50 (.pointer (some ⟨gy, i * 35, none⟩)) (fuel := 2) rfl (by kernel_rfl) (by kernel_rfl) (by kernel_rfl) (by kernel_rfl) noPanic_false (by kernel_rfl) (fun W _ => x_idx54 (x := .tmp 48) (y := .tmp 49) (b := gy) (n := cn) (c := yc) (k := i) (by kernel_rfl) (by kernel_rfl) (by kernel_rfl) HI.out.1) hS0 ?_
        refine tk 7 51 (.agg (ccell c.id c.ch c.gone).toArray) (fuel := 1) rfl (by kernel_rfl) (by kernel_rfl) (by kernel_rfl) (by kernel_rfl) noPanic_false (by kernel_rfl) (fun W hW => x_ld63c (x := .tmp 50) (g := gy) (p := i * 35) HI.out.2.1 (by kernel_rfl) (by kernel_rfl) (range_after HI.out.2.2.2 hW)) hS0 ?_
        refine tk 8 52 (.bool false) (fuel := 0) rfl (by kernel_rfl) (by kernel_rfl) (by kernel_rfl) (by kernel_rfl) noPanic_false (by kernel_rfl) (fun W _ => x_ne63 (x := .tmp 47) (y := .tmp 51) (id := c.id) (ch := c.ch) (gn := c.gone) HI.out.2.1 (by kernel_rfl) (by kernel_rfl) (by kernel_rfl)) hS0 ?_
        refine wpAnyH_done (by kernel_rfl) (NoPanic.normal ?_) _
        have H7 := show Hid (After w5 wr.drew) from HJ.out.trans hS0
        clear hS0
        go_simp
        go_wp2_with fail
        go_roundw
        case rel => exact ⟨i + 1, by go_num, by omega, H7.out⟩
        case measure => simp [intOf]; omega
      · obtain rfl : i = cn := by omega
        have hii : ¬ (i : Int) < (i : Int) := by omega
        go_wp2_with (first
          | (go_at_call 12; refine Calls.mono (awake_any _) ?_; rintro e w8 ⟨rfl, ha8⟩; have H8 := show Hid (After w0 w8) from (H6.out.trans HJ.out).trans ha8; clear ha8))
        go_ret
        exact ⟨rfl, H8.out⟩
  · have HD : Hid (decide (n ≤ 120) = false) := decide_eq_false h120
    clear hn hok hin htn hat
    go_enter Try.func8, Try.ntmps8
    go_wp2_with (first
      | (go_at_call 11; refine Calls.mono (few_any va n cap) ?_; rintro e w0 ⟨rfl, rfl⟩; rw [HD.out])
      | (go_at_call 12; refine Calls.mono (awake_any _) ?_; rintro e w8 ⟨rfl, ha8⟩; have H8 := show Hid (After w0 w8) from ha8; clear ha8))
    go_ret
    exact ⟨rfl, H8.out⟩
end Go.Proofs.Ytiglenomigipmaa

namespace Go.Proofs.Ytiglenomigipmaa
open Go.RowKit Go.Shelf
/-- A cell that is new to a list. -/
structure Nw (l : List RC) (c : RC) : Prop where
  ids : ∀ d ∈ l, d.id ≠ c.id
  afs : ∀ d ∈ l, d.af ≠ c.id
  own : c.af ≠ c.id
theorem kids_put (l : List RC) (c : RC) (x : Idn) : kids (l ++ [c]) x = if c.af = x then gIns RC.id c (kids l x) else kids l x := gKids_snoc RC.id RC.af x l c
theorem Nw.none {l : List RC} {c : RC} (h : Nw l c) : kids (l ++ [c]) c.id = [] := by
  rw [List.eq_nil_iff_forall_not_mem]
  intro k hk
  obtain ⟨h1, h2⟩ := (mem_gKids _).1 hk
  rcases List.mem_append.1 h1 with h1 | h1
  · exact h.afs k h1 h2
  · rw [List.mem_singleton] at h1
    subst h1
    exact h.own h2
theorem Nw.leaf {l : List RC} {c : RC} (h : Nw l c) : ∀ n, bl (l ++ [c]) n c.id = []
  | 0 => rfl
  | n + 1 => by show (kids (l ++ [c]) c.id).flatMap _ = []; rw [h.none]; rfl
theorem gIns_parts {α : Type} (f : α → Idn) (c : α) : ∀ L : List α, ∃ A B, L = A ++ B ∧ gIns f c L = A ++ c :: B
  | [] => ⟨[], [], rfl, rfl⟩
  | k :: L => by
    simp only [gIns]
    split
    · obtain ⟨A, B, e1, e2⟩ := gIns_parts f c L
      exact ⟨k :: A, B, by rw [e1]; rfl, by rw [e2]; rfl⟩
    · exact ⟨[], k :: L, rfl, rfl⟩
/-- Without the new one it is the order that was. -/
theorem Nw.rest {l : List RC} {c : RC} (h : Nw l c) : ∀ (n : Nat) (x : Idn), (bl (l ++ [c]) n x).filter (fun d => decide (d.id ≠ c.id)) = bl l n x
  | 0, _ => rfl
  | n + 1, x => by
    have hf : ∀ A : List RC, (∀ k ∈ A, k ∈ l) → (A.flatMap (fun k => k :: bl (l ++ [c]) n k.id)).filter (fun d => decide (d.id ≠ c.id)) = A.flatMap (fun k => k :: bl l n k.id) := fun A => by
      induction A with
      | nil => intro _; rfl
      | cons k A ih =>
        intro hA
        have hk := h.ids k (hA k (by simp))
        rw [List.flatMap_cons, List.flatMap_cons, List.filter_append, ih (fun d hd => hA d (by simp [hd])), List.filter_cons_of_pos (by simpa using hk), h.rest n k.id]
    have hin : ∀ k ∈ kids l x, k ∈ l := fun k hk => ((mem_gKids l).1 hk).1
    show ((kids (l ++ [c]) x).flatMap _).filter _ = (kids l x).flatMap _
    rw [kids_put]
    split
    · obtain ⟨A, B, e1, e2⟩ := gIns_parts RC.id c (kids l x)
      rw [e2]
      rw [e1] at hin ⊢
      rw [List.flatMap_append, List.flatMap_cons, List.filter_append, List.filter_append, h.leaf n, List.flatMap_append, hf A (fun k hk => hin k (by simp [hk])), hf B (fun k hk => hin k (by simp [hk]))]
      have : ([c].filter (fun d => decide (d.id ≠ c.id))) = [] := by simp
      rw [this, List.nil_append]
    · exact hf _ hin
/-- Greatest of all. -/
def Top (l : List RC) (c : RC) : Prop := ∀ d ∈ l, ltI c.id d.id = false
def beh (c k : RC) : List RC := k :: (if k.id = c.af then [c] else [])
theorem gIns_top {l : List RC} {c : RC} (h : ∀ d ∈ l, ltI c.id d.id = false) : gIns RC.id c l = c :: l := by
  cases l with
  | nil => rfl
  | cons k l => simp [gIns, h k (by simp)]
theorem Nw.top {l : List RC} {c : RC} (h : Nw l c) (ht : Top l c) (hlt : ∀ d ∈ l ++ [c], d.af.c < d.id.c) : ∀ (n : Nat) (x : Idn), cnt (l ++ [c]) x ≤ n → bl (l ++ [c]) n x = (if x = c.af then [c] else []) ++ (bl l n x).flatMap (beh c)
  | 0, x, hn => by
    have hx : x ≠ c.af := fun e => by
      have hk : c ∈ kids (l ++ [c]) x := (mem_gKids _).2 ⟨by simp, e.symm⟩
      have := kid_cnt hlt hk
      omega
    rw [if_neg hx]; rfl
  | n + 1, x, hn => by
    have hf : ∀ A : List RC, (∀ k ∈ A, k ∈ kids (l ++ [c]) x) → A.flatMap (fun k => k :: bl (l ++ [c]) n k.id) = (A.flatMap (fun k => k :: bl l n k.id)).flatMap (beh c) := fun A => by
      induction A with
      | nil => intro _; rfl
      | cons k A ih =>
        intro hA
        have hk := kid_cnt hlt (hA k (by simp))
        rw [List.flatMap_cons, List.flatMap_cons, List.flatMap_append, ih (fun d hd => hA d (by simp [hd])), h.top ht hlt n k.id (by omega), List.flatMap_cons]
        congr 1
    show (kids (l ++ [c]) x).flatMap _ = _ ++ ((kids l x).flatMap _).flatMap _
    by_cases e : c.af = x
    · have ek : kids (l ++ [c]) x = c :: kids l x := by rw [kids_put, if_pos e]; exact gIns_top (fun d hd => ht d ((mem_gKids l).1 hd).1)
      rw [if_pos e.symm, ek, List.flatMap_cons, h.leaf n, hf (kids l x) (fun k hk => by rw [ek]; simp [hk])]
    · have ek : kids (l ++ [c]) x = kids l x := by rw [kids_put, if_neg e]
      rw [if_neg (fun q => e q.symm), ek, hf (kids l x) (fun k hk => by rw [ek]; exact hk)]
      rfl
end Go.Proofs.Ytiglenomigipmaa

namespace Go.Proofs.Ytiglenomigipmaa
open Go.RowKit Go.Shelf
/-- The one behind which a tame put goes is the beginning, or there. -/
theorem tAf_in (l : List RC) (p : Put) : tAf l p = zId ∨ ∃ d ∈ l, d.id = tAf l p := by
  unfold tAf
  cases hk : p.af.toNat % (l.length + 1) with
  | zero => left; rfl
  | succ k =>
    have hl : k < l.length := by have := Nat.mod_lt p.af.toNat (show 0 < l.length + 1 by omega); omega
    right
    refine ⟨l[k], List.getElem_mem hl, ?_⟩
    simp [hl]
def Sm (l : List RC) (B : Int) : Prop := ∀ c ∈ l, c.id.c ≤ B
theorem tp_af (l : List RC) (p : Put) : pAf l (tp p) = tAf l (tp p) := by unfold pAf; simp [tp]
theorem tp_id (l : List RC) (p : Put) : pId l (tp p) = tId l (tp p) := by unfold pId; simp [tp]
theorem af_bounds {l : List RC} (h : Gd l) {B : Int} (hs : Sm l B) (hB : 0 ≤ B) (p : Put) : 0 ≤ (tAf l p).c ∧ (tAf l p).c ≤ B := by
  rcases tAf_in l p with e | ⟨d, hd, e⟩
  · rw [e]; exact ⟨by decide, hB⟩
  · rw [← e]; have h1 := h.num d hd; have h2 := hs d hd; omega
theorem id_bounds {l : List RC} (h : Gd l) {B : Int} (hs : Sm l B) (hB : 0 ≤ B) (hB2 : B ≤ 1000000) (p : Put) : (tAf l p).c < (tId l p).c ∧ (tId l p).c ≤ B + 4 := by
  have h1 := af_bounds h hs hB p
  have h2 : tUp (tAf l p) p = 1 + p.up.toNat % 4 := by unfold tUp; rw [if_neg (by omega)]
  have h3 : (tId l p).c = (tAf l p).c + ((1 + p.up.toNat % 4 : Nat) : Int) := by unfold tId; rw [h2]
  rw [h3]
  have := Nat.mod_lt p.up.toNat (show 0 < 4 by omega)
  omega
theorem Sm.ins {l : List RC} (h : Gd l) {B : Int} (hs : Sm l B) (hB : 0 ≤ B) (hB2 : B ≤ 1000000) (p : Put) (ch : UInt8) : Sm (rIns l (pAf l (tp p)) (pId l (tp p)) ch) (B + 4) := by
  intro c hc
  unfold rIns at hc
  split at hc
  · rcases List.mem_append.1 hc with hc | hc
    · have := hs c hc; omega
    · rw [List.mem_singleton] at hc
      subst hc
      show (pId l (tp p)).c ≤ _
      rw [tp_id]
      exact (id_bounds h hs hB hB2 (tp p)).2
  · have := hs c hc; omega
theorem perm_ids {li cells : List RC} (hp : li.Perm cells) (x : Idn) : (rplc li x).isSome = (rplc cells x).isSome := by
  have key : ∀ l : List RC, (rplc l x).isSome = true ↔ ∃ d ∈ l, d.id = x := fun l => by
    constructor
    · intro h
      obtain ⟨i, hi⟩ := Option.isSome_iff_exists.1 h
      obtain ⟨d, hd, e⟩ := rplc_get hi
      exact ⟨d, List.mem_of_getElem? hd, e⟩
    · rintro ⟨d, hd, e⟩
      cases hr : rplc l x with
      | some j => rfl
      | none =>
        unfold rplc at hr
        rw [List.findIdx?_eq_none_iff] at hr
        have := hr d hd
        simp [e] at this
  rw [Bool.eq_iff_iff, key, key]
  constructor
  · rintro ⟨d, hd, e⟩; exact ⟨d, hp.mem_iff.1 hd, e⟩
  · rintro ⟨d, hd, e⟩; exact ⟨d, hp.mem_iff.2 hd, e⟩
theorem perm_insE {st : List Stm} {li cells : List RC} (hA : Alike st li) (hp : li.Perm cells) (af id : Idn) : insE st af id = rInsE cells af id := by
  rw [hA.lnk.insE]
  unfold rInsE
  rw [perm_ids hp id, perm_ids hp af]
theorem has_af {cells : List RC} {x : Idn} (h : x = zId ∨ ∃ d ∈ cells, d.id = x) : ¬ (x ≠ zId ∧ (rplc cells x).isSome = false) := fun e => by
  rcases h with h | ⟨d, hd, h⟩
  · exact e.1 h
  · have e2 := e.2
    cases hr : rplc cells x with
    | some j => rw [hr] at e2; cases e2
    | none =>
      unfold rplc at hr
      rw [List.findIdx?_eq_none_iff] at hr
      have := hr d hd
      simp [h] at this
/-- Put, or there. -/
theorem keep_err {cells : List RC} {c : RC} (h1 : 1 ≤ c.id.c) (h2 : c.af.c < c.id.c) (haf : c.af = zId ∨ ∃ d ∈ cells, d.id = c.af) : rInsE cells c.af c.id = 0 ∨ (rInsE cells c.af c.id = 23 ∧ (rplc cells c.id).isSome = true) := by
  unfold rInsE
  rw [if_neg (by omega)]
  by_cases g2 : (rplc cells c.id).isSome = true
  · rw [if_pos g2]; exact .inr ⟨rfl, g2⟩
  · rw [if_neg g2, if_neg (has_af haf)]; exact .inl rfl
theorem keep_new {cells : List RC} (hG : Gd cells) {c : RC} (hs : c.gone = false) (h1 : 1 ≤ c.id.c) (h : rInsE cells c.af c.id = 0) : Nw cells c ∧ rIns cells c.af c.id c.ch = cells ++ [c] := by
  have hn : (rplc cells c.id) = none ∧ c.af.c < c.id.c := by
    unfold rInsE at h
    by_cases g1 : c.id.c < 1 ∨ c.id.c ≤ c.af.c
    · rw [if_pos g1] at h; cases h
    rw [if_neg g1] at h
    by_cases g2 : (rplc cells c.id).isSome = true
    · rw [if_pos g2] at h; cases h
    exact ⟨by simpa using g2, by omega⟩
  have hid : ∀ d ∈ cells, d.id ≠ c.id := fun d hd e => by
    have := hn.1
    unfold rplc at this
    rw [List.findIdx?_eq_none_iff] at this
    have := this d hd
    simp [e] at this
  refine ⟨⟨hid, fun d hd e => ?_, fun e => by rw [e] at hn; exact absurd hn.2 (Int.lt_irrefl _)⟩, ?_⟩
  · obtain ⟨i, hi⟩ := List.getElem?_of_mem hd
    rcases hG.beh i d hi with q | ⟨j, d', _, hd', q⟩
    · rw [e] at q; rw [q] at h1; exact absurd h1 (by decide)
    · exact hid d' (List.mem_of_getElem? hd') (q.trans e)
  · unfold rIns; rw [if_pos h]; cases c; simp_all
theorem tolds_rest {cells : List RC} (hG : Gd cells) {c : RC} (hN : Nw cells c) : (tolds (cells ++ [c])).filter (fun d => decide (d.id ≠ c.id)) = tolds cells := by
  unfold tolds
  rw [hN.rest, List.length_append, List.length_singleton]
  exact bl_more (fun d hd => (hG.num d hd).2) (cells.length + 1) zId (by have := cnt_le cells zId; omega) _ (by omega)
theorem beh_prev {c : RC} : ∀ {L : List RC}, (∀ k ∈ L, k.id ≠ c.id) → ∀ {i : Nat} {d : RC}, (L.flatMap (beh c))[i]? = some d → d.id = c.id → 0 < i ∧ ∃ e, (L.flatMap (beh c))[i - 1]? = some e ∧ e.id = c.af
  | [], _, i, d, h, _ => by simp at h
  | k :: L, hL, i, d, h, hd => by
    have hk := hL k (by simp)
    have ih : ∀ {i : Nat} {d : RC}, (L.flatMap (beh c))[i]? = some d → d.id = c.id → 0 < i ∧ ∃ e, (L.flatMap (beh c))[i - 1]? = some e ∧ e.id = c.af := fun {i d} h hd => beh_prev (c := c) (L := L) (fun x hx => hL x (by simp [hx])) h hd
    rw [List.flatMap_cons] at h ⊢
    by_cases e : k.id = c.af
    · have hb : beh c k = [k, c] := by unfold beh; rw [if_pos e]
      rw [hb] at h ⊢
      match i, h with
      | 0, h => simp at h; subst h; exact absurd hd hk
      | 1, h => exact ⟨by omega, k, rfl, e⟩
      | i + 2, h =>
        have h' : (L.flatMap (beh c))[i]? = some d := by simpa using h
        obtain ⟨h1, x, hx, hxa⟩ := ih h' hd
        obtain ⟨j, rfl⟩ : ∃ j, i = j + 1 := ⟨i - 1, by omega⟩
        exact ⟨by omega, x, by simpa using hx, hxa⟩
    · have hb : beh c k = [k] := by unfold beh; rw [if_neg e]
      rw [hb] at h ⊢
      match i, h with
      | 0, h => simp at h; subst h; exact absurd hd hk
      | i + 1, h =>
        have h' : (L.flatMap (beh c))[i]? = some d := by simpa using h
        obtain ⟨h1, x, hx, hxa⟩ := ih h' hd
        obtain ⟨j, rfl⟩ : ∃ j, i = j + 1 := ⟨i - 1, by omega⟩
        exact ⟨by omega, x, by simpa using hx, hxa⟩
theorem beh_id {c : RC} : ∀ {L : List RC}, (∀ k ∈ L, k.id ≠ c.af) → L.flatMap (beh c) = L
  | [], _ => rfl
  | k :: L, h => by
    rw [List.flatMap_cons, beh_id (fun x hx => h x (by simp [hx]))]
    unfold beh; rw [if_neg (h k (by simp))]; rfl
/-- The greatest: where it stands. -/
theorem tolds_top {cells : List RC} {c : RC} (hG : Gd (cells ++ [c])) (hN : Nw cells c) (hT : Top cells c) : tolds (cells ++ [c]) = (if c.af = zId then [c] else []) ++ (tolds cells).flatMap (beh c) := by
  have hlt : ∀ d ∈ cells ++ [c], d.af.c < d.id.c := fun d hd => (hG.num d hd).2
  unfold tolds
  rw [hN.top hT hlt _ zId (by have := cnt_le (cells ++ [c]) zId; omega), List.length_append, List.length_singleton]
  rw [bl_more (fun d hd => hlt d (by simp [hd])) (cells.length + 1) zId (by have := cnt_le cells zId; omega) _ (by omega)]
  by_cases e : c.af = zId
  · rw [if_pos e, if_pos e.symm]
  · rw [if_neg e, if_neg (fun q => e q.symm)]
theorem tolds_mem {cells : List RC} {d : RC} (h : d ∈ tolds cells) : d ∈ cells := bl_mem h
theorem top_place {cells : List RC} {c : RC} (hG : Gd (cells ++ [c])) (hN : Nw cells c) (hT : Top cells c) {i : Nat} {d : RC} (hd : (tolds (cells ++ [c]))[i]? = some d) (he : d.id = c.id) : (i = 0 ↔ c.af = zId) ∧ (0 < i → ∃ e, (tolds (cells ++ [c]))[i - 1]? = some e ∧ e.id = c.af) := by
  have hids : ∀ k ∈ tolds cells, k.id ≠ c.id := fun k hk => hN.ids k (tolds_mem hk)
  rw [tolds_top hG hN hT] at hd ⊢
  by_cases e : c.af = zId
  · rw [if_pos e] at hd ⊢
    have hz : ∀ k ∈ tolds cells, k.id ≠ c.af := fun k hk q => by
      have := (hG.num k (by simp [tolds_mem hk])).1
      rw [q, e] at this; exact absurd this (by decide)
    rw [beh_id hz] at hd ⊢
    cases i with
    | zero => exact ⟨⟨fun _ => e, fun _ => rfl⟩, fun h => absurd h (Nat.lt_irrefl _)⟩
    | succ i =>
      have h' : (tolds cells)[i]? = some d := by simpa using hd
      exact absurd he (hids d (List.mem_of_getElem? h'))
  · rw [if_neg e, List.nil_append] at hd ⊢
    obtain ⟨h1, x, hx, hxa⟩ := beh_prev hids hd he
    exact ⟨⟨fun q => by omega, fun q => absurd q e⟩, fun _ => ⟨x, hx, hxa⟩⟩
end Go.Proofs.Ytiglenomigipmaa

namespace Go.Proofs.Ytiglenomigipmaa
open Go.RowKit Go.Shelf
attribute [local go_sem] Oper.semAt_some
set_option maxRecDepth 100000 in
set_option maxHeartbeats 1600000 in
theorem tame_num {w : World} {va : Option Addr} {n cap : Nat} {ps : List Put} (hn : ps.length = n) (hok : ∀ p ∈ ps, p.Ok) (hin : PutsIn w va ps) (h120 : n ≤ 120) :
    Calls Try.prog 27 #[.slice va n cap] w fun e w' => ∃ v cells, e = .returned v ∧ RowR w' w.heap.size v cells ∧ Gd cells ∧ cells.length ≤ n ∧ After w w' ∧ Sm cells (4 * (n : Int)) := by
  have HIN : Hid (ps.length = n ∧ (∀ p ∈ ps, p.Ok) ∧ PutsIn w va ps) := ⟨hn, hok, hin⟩
  clear hn hok hin
  obtain ⟨W0, hW0⟩ : ∃ W0, w.alloc (.cells #[.slice none 0 0] 29) = W0 := ⟨_, rfl⟩
  have H0 : Hid (RowIs W0 w.heap.size 29 [.slice none 0 0] ∧ After w W0) := by
    rw [← hW0]; exact ⟨RowIs.new w 29 _, after_alloc (After.refl w) _⟩
  obtain ⟨gb, hgb⟩ : ∃ gb, w.heap.size = gb := ⟨_, rfl⟩
  have HGB : Hid (w.heap.size = gb) := hgb
  go_enter Try.func27, Try.ntmps27
  go_wp2_with (first
    | (refine wpList_of_run rfl ((x_al29 rfl).trans (by rw [hW0, HGB.out])) ?_))
  rw [hgb] at H0
  clear hW0 hgb
  go_loopw [4] (fun vi wr => ∃ i : Nat, vi = .int .i64 (i : Int) ∧ i ≤ n ∧ ∃ l ra rn rc, Hid (RowIs wr gb 29 [.slice ra rn rc] ∧ RowR wr w.heap.size (.slice ra rn rc) l ∧ Gd l ∧ l.length ≤ i ∧ After w wr ∧ Sm l (4 * (i : Int)))) (fun vi _ => n - (intOf vi).toNat)
  case atStart => exact ⟨0, rfl, Nat.zero_le _, [], none, 0, 0, H0.out.1, RowR.nil _ _, gd_nil, Nat.le_refl _, H0.out.2, fun c hc => (by simp at hc)⟩
  case round =>
    obtain ⟨i, rfl, hin, l, ra, rn, rc, HJ⟩ := hrel
    by_cases hlt : i < n
    · have hii : (i : Int) < (n : Int) := by omega
      obtain ⟨p, hp⟩ : ∃ p, ps[i]? = some p := ⟨_, List.getElem?_eq_getElem (by rw [HIN.out.1]; exact hlt)⟩
      obtain ⟨pb, po, hva, hpr⟩ := HIN.out.2.2 (fun e => by rw [e] at hp; simp at hp)
      subst hva
      have HP : Hid (p.Ok ∧ i < n ∧ wr.rangeAt pb (po + i * 8) (pcell p)) := ⟨HIN.out.2.1 p (List.mem_of_getElem? hp), hlt, range_after (hpr i p hp) HJ.out.2.2.2.2.1⟩
      clear hp hpr
      obtain ⟨W2, hW2⟩ : ∃ W2, (wr.alloc (.cells (pcell zP).toArray 33)).setRow wr.heap.size (pcell p).toArray = W2 := ⟨_, rfl⟩
      obtain ⟨W3, hW3⟩ : ∃ W3, W2.setCell ⟨wr.heap.size, 5, none⟩ (.bool false) = W3 := ⟨_, rfl⟩
      have HT := show Hid _ from tame_box hW2 hW3
      have HZ : Hid (RowIs (wr.alloc (.cells (pcell zP).toArray 33)) wr.heap.size 33 (pcell zP)) := RowIs.new wr 33 _
      have HG2 := show Hid _ from hW2
      have HG3 := show Hid _ from hW3
      have H3 : Hid (RowIs W3 gb 29 [.slice ra rn rc] ∧ RowR W3 w.heap.size (.slice ra rn rc) l ∧ After w W3) := ⟨HJ.out.1.below HT.out.2.2 HJ.out.1.lt, HJ.out.2.1.after HT.out.2.2, HJ.out.2.2.2.2.1.trans HT.out.2.2⟩
      clear hW2 hW3
      obtain ⟨go, hgo⟩ : ∃ go, wr.heap.size = go := ⟨_, rfl⟩
      have HGO : Hid (wr.heap.size = go) := hgo
      rw [hgo] at HT HZ HG2 HG3
      have HC5 : Hid (W2.cell? ⟨go, 5, none⟩ = some (.bool p.wild) ∧ W2.frozen? ⟨go, 5, none⟩ = false) := ⟨HT.out.1.cell rfl, HT.out.1.frozen 5⟩
      obtain ⟨af, haf⟩ : ∃ af, pAf l (tp p) = af := ⟨_, rfl⟩
      obtain ⟨id, hid⟩ : ∃ id, pId l (tp p) = id := ⟨_, rfl⟩
      have HOK : Hid (af.Ok ∧ id.Ok) := ⟨by rw [← haf]; exact pAf_ok HJ.out.2.1.1 (tp_ok HP.out.1), by rw [← hid]; exact pId_ok HJ.out.2.1.1 (tp_ok HP.out.1)⟩
      have HID : Hid (Calls Try.prog 29 #[.agg #[.slice ra rn rc], .agg (pcell (tp p)).toArray] W3 fun e w' => e = .returned (.tuple #[idv af, idv id]) ∧ After W3 w') := by
        have := ids_any H3.out.2.1 (tp_ok HP.out.1) (by have := HJ.out.2.2.2.1; omega)
        rw [haf, hid] at this; exact this
      have HSM : Hid (Sm (rIns l af id p.ch) (4 * ((i + 1 : Nat) : Int))) := by
        have := Sm.ins HJ.out.2.2.1 HJ.out.2.2.2.2.2 (by omega) (by omega) p p.ch
        rw [haf, hid] at this
        intro c hc
        have := this c hc
        omega
      clear haf hid
      go_wp2_with (first
        | (refine wpList_of_run rfl (x_idx22 (x := .tmp 14) (y := .tmp 15) (b := pb) (f := po) (n := n) (c := cap) (k := i) rfl (by kernel_rfl) (by kernel_rfl) HP.out.2.1) ?_)
        | (refine wpList_of_run rfl (x_ld33m (x := .tmp 16) (g := pb) (q := po + i * 8) (p := p) rfl (by kernel_rfl) HP.out.2.2) ?_)
        | (refine wpList_of_run rfl ((x_al33 rfl).trans (by rw [HGO.out])) ?_)
        | (refine wpList_store_row rfl 33 (.tmp 5) (.tmp 17) rfl go (pcell p).toArray rfl rfl 33 _ HZ.out (size33 p) rfl (by simpa using pcell_one p) ?_; rw [HG2.out])
        | (refine wpList_st4 (x := .tmp 18) (g := go) (p := 5) (b := false) rfl rfl (by kernel_rfl) HC5.out.1 HC5.out.2 HG3.out ?_)
        | (refine wpList_load_row rfl 29 (.tmp 3) rfl gb rfl 29 #[.slice ra rn rc] (0, 0) _ H3.out.1 Try.underlying29 rfl (size29 _) ?_)
        | (refine wpList_load_row rfl 33 (.tmp 5) rfl go rfl 33 (pcell (tp p)).toArray (0, 0) _ HT.out.2.1 Try.underlying33 rfl (size33 _) ?_)
        | (go_at_call 29; refine Calls.mono HID.out ?_; clear HID; rintro e w1 ⟨rfl, hw1⟩; obtain ⟨W4, hW4⟩ : ∃ W4, (((w1.alloc (.cells (idc zId).toArray 40)).alloc (.cells (idc zId).toArray 40)).setRow w1.heap.size (idc af).toArray).setRow (w1.heap.size + 1) (idc id).toArray = W4 := ⟨_, rfl⟩; have HB4 := show Hid _ from do_boxes hW4; have HG4 := show Hid _ from hW4; have H4 := show Hid (RowIs W4 gb 29 [.slice ra rn rc] ∧ RowR W4 w.heap.size (.slice ra rn rc) l ∧ After w W4 ∧ RowIs W4 go 33 (pcell (tp p))) from (fun ha : After W3 W4 => ⟨H3.out.1.below ha H3.out.1.lt, H3.out.2.1.after ha, H3.out.2.2.trans ha, HT.out.2.1.below ha HT.out.2.1.lt⟩) (hw1.trans HB4.out.2.2.2.2); have c4 : W4.cell? ⟨go, 3, none⟩ = some (.int .u8 (p.ch.toNat : Int)) := H4.out.2.2.2.cell rfl; clear hw1 hW4)
        | (refine wpList_of_run rfl ((x_al40 rfl).trans (by rw [World.size_alloc])) ?_)
        | (refine wpList_of_run rfl (x_al40 rfl) ?_)
        | (refine wpList_store_row rfl 40 (.tmp 6) (.tmp 23) rfl w1.heap.size (idc af).toArray rfl rfl 40 _ HB4.out.1 (size40 HOK.out.1) (by simp [idc_len HOK.out.1, idc_len zId_ok]) (by simpa using idc_one af) ?_)
        | (refine wpList_store_row rfl 40 (.tmp 7) (.tmp 24) rfl (w1.heap.size + 1) (idc id).toArray rfl rfl 40 _ HB4.out.2.1 (size40 HOK.out.2) (by simp [idc_len HOK.out.2, idc_len zId_ok]) (by simpa using idc_one id) ?_; rw [HG4.out])
        | (refine wpList_load_row rfl 29 (.tmp 3) rfl gb rfl 29 #[.slice ra rn rc] (0, 0) _ H4.out.1 Try.underlying29 rfl (size29 _) ?_)
        | (refine wpList_load_row rfl 40 (.tmp 6) rfl w1.heap.size rfl 40 (idc af).toArray (0, 0) _ HB4.out.2.2.1 Try.underlying40 rfl (size40 HOK.out.1) ?_)
        | (refine wpList_load_row rfl 40 (.tmp 7) rfl (w1.heap.size + 1) rfl 40 (idc id).toArray (0, 0) _ HB4.out.2.2.2.1 Try.underlying40 rfl (size40 HOK.out.2) ?_)
        | (go_at_call 32; refine Calls.mono (rInsert_any H4.out.2.1 HOK.out.1 HOK.out.2 p.ch (by have := HJ.out.2.2.2.1; omega) H4.out.2.2.1.size) ?_; rintro e w6 ⟨v6, rfl, h61, h62⟩; obtain ⟨va6, n6, c6, hv6⟩ : ∃ va n c, v6 = .slice va n c := (fun ⟨a, b, c⟩ => ⟨a, _, b, c⟩) h61.sl; subst hv6; have H6 := show Hid (RowIs w6 gb 29 [.slice ra rn rc] ∧ RowR w6 w.heap.size (.slice va6 n6 c6) (rIns l af id p.ch) ∧ After w w6) from ⟨H4.out.1.below h62 H4.out.1.lt, h61, H4.out.2.2.1.trans h62⟩; clear h61 h62)
        | (refine wpList_store_row rfl 29 (.tmp 3) (.tmp 32) rfl gb #[.slice va6 n6 c6] rfl rfl 29 _ H6.out.1 (size29 _) rfl (by simp [Value.oneCell']) ?_))
      go_roundw
      case rel => exact ⟨i + 1, by go_num, by omega, rIns l af id p.ch, va6, n6, c6, H6.out.1.setRow _, H6.out.2.1.put29 H6.out.1 _, HJ.out.2.2.1.ins HOK.out.1 HOK.out.2 p.ch, Nat.le_trans (rIns_len _ _ _ _) (Nat.succ_le_succ HJ.out.2.2.2.1), Below.row H6.out.2.2 (by rw [HGB.out]; exact Nat.le_refl _) _, HSM.out⟩
      case measure => simp [intOf]; omega
    · obtain rfl : i = n := by omega
      have hii : ¬ (i : Int) < (i : Int) := by omega
      have cB : wr.cell? ⟨gb, 0, none⟩ = some (.slice ra rn rc) := HJ.out.1.cell rfl
      go_wp2_with fail
      go_ret
      exact ⟨_, rfl, l, HJ.out.2.1, HJ.out.2.2.1, HJ.out.2.2.2.1, HJ.out.2.2.2.2.1, HJ.out.2.2.2.2.2⟩
end Go.Proofs.Ytiglenomigipmaa

namespace Go.Proofs.Ytiglenomigipmaa
open Go.RowKit Go.Shelf
theorem nod_inj {l : List RC} (h : (l.map (·.id)).Nodup) {i j : Nat} {c d : RC} (hc : l[i]? = some c) (hd : l[j]? = some d) (e : c.id = d.id) : i = j := by
  refine (List.getElem?_inj (l := l.map (·.id)) (by rw [List.length_map]; exact (List.getElem?_eq_some_iff.1 hc).1) h).1 ?_
  rw [List.getElem?_map, List.getElem?_map, hc, hd]
  exact congrArg some e
theorem tolds_nod {st : List Stm} {li L : List RC} (hA : Alike st li) (hp : li.Perm L) (hG : Gd L) : ((tolds L).map (·.id)).Nodup := by
  obtain ⟨U, hU⟩ := hA.wf.order
  have hli : (li.map (·.id)).Nodup := ((hp.map _).nodup_iff).2 hG.nod
  have hl := hA.lnk.len
  have hpl := hp.length_eq
  have e : tolds L = U.map (fun b => cl li (b - 1)) := by
    rw [← bl_top hA.wf hA.lnk hA.kid hU (n := L.length + 1) (by omega)]
    unfold tolds
    exact (bl_perm hp (fun c hc => (hG.ok c (hp.mem_iff.1 hc)).id) hli _ _).symm
  rw [e, List.map_map]
  have hinv := hU.inv hA.wf
  have hnd : U.Nodup := by simpa using hinv.nd
  have hpar : ∀ b ∈ U, 0 < b ∧ b < st.length := fun b hb => by
    have := hinv.par b (by simpa using hb); exact ⟨this.1, this.2.1⟩
  refine List.pairwise_map.2 (List.Pairwise.imp_of_mem (fun {a b} ha hb hne he => ?_) hnd)
  have ha' := hpar a ha
  have hb' := hpar b hb
  have h1 : a - 1 < li.length := by omega
  have h2 : b - 1 < li.length := by omega
  have e1 : cl li (a - 1) = li[a - 1] := cl_of (List.getElem?_eq_getElem h1)
  have e2 : cl li (b - 1) = li[b - 1] := cl_of (List.getElem?_eq_getElem h2)
  have he : (cl li (a - 1)).id = (cl li (b - 1)).id := he
  rw [e1, e2] at he
  have hi : a - 1 = b - 1 := nod_inj hli (List.getElem?_eq_getElem h1) (List.getElem?_eq_getElem h2) he
  exact hne (by omega)
theorem beh_last {c d : RC} (e : d.id = c.af) {P B : List RC} (hP : ∀ k ∈ P, k.id ≠ d.id) (hB : ∀ k ∈ B, k.id ≠ d.id) : (P ++ [d] ++ B).flatMap (beh c) = P ++ [d] ++ c :: B := by
  have h1 : P.flatMap (beh c) = P := beh_id (fun k hk => by rw [← e]; exact hP k hk)
  have h2 : B.flatMap (beh c) = B := beh_id (fun k hk => by rw [← e]; exact hB k hk)
  have h3 : beh c d = [d, c] := by unfold beh; rw [if_pos e]
  simp [h1, h2, h3]
/-- One more is typed. -/
theorem type_one {st : List Stm} {li L : List RC} (hA : Alike st li) (hp : li.Perm L) (hG : Gd L) {c : RC} (hok : c.Ok) (hs : c.gone = false) (h1 : 1 ≤ c.id.c) (hbig : ∀ d ∈ L, d.id.c < c.id.c) {P B : List RC} (ht : tolds L = P ++ B) (haf : (P = [] ∧ c.af = zId) ∨ ∃ P' d, P = P' ++ [d] ∧ d.id = c.af) :
    rInsE L c.af c.id = 0 ∧ Gd (L ++ [c]) ∧ tolds (L ++ [c]) = (P ++ [c]) ++ B := by
  have hin : c.af = zId ∨ ∃ d ∈ L, d.id = c.af := by
    rcases haf with h | ⟨P', d, hP, e⟩
    · exact .inl h.2
    · exact .inr ⟨d, tolds_mem (by rw [ht, hP]; simp), e⟩
  have h2 : c.af.c < c.id.c := by
    rcases hin with e | ⟨d, hd, e⟩
    · rw [e]; show (0 : Int) < _; omega
    · rw [← e]; exact hbig d hd
  have h0 : rInsE L c.af c.id = 0 := by
    rcases keep_err h1 h2 hin with h | ⟨_, h⟩
    · exact h
    · obtain ⟨i, hi⟩ := Option.isSome_iff_exists.1 h
      obtain ⟨d, hd, e⟩ := rplc_get hi
      have := hbig d (List.mem_of_getElem? hd)
      rw [e] at this; omega
  obtain ⟨hN, hI⟩ := keep_new hG hs h1 h0
  have hG2 : Gd (L ++ [c]) := by rw [← hI]; exact hG.ins hok.af hok.id c.ch
  have hT : Top L c := fun d hd => by
    have := hbig d hd
    unfold ltI
    rw [if_pos (by omega)]
    simp; omega
  refine ⟨h0, hG2, ?_⟩
  rw [tolds_top hG2 hN hT, ht]
  have hnd := tolds_nod hA hp hG
  rw [ht] at hnd
  rcases haf with ⟨hP, e⟩ | ⟨P', d, hP, e⟩
  · subst hP
    rw [if_pos e, List.nil_append, List.nil_append, beh_id (fun k hk => ?_)]
    intro q
    have := (hG.num k (tolds_mem (by rw [ht]; simpa using hk))).1
    rw [q, e] at this; exact absurd this (by decide)
  · subst hP
    have hne : c.af ≠ zId := fun q => by
      have := (hG.num d (tolds_mem (by rw [ht]; simp))).1
      rw [e, q] at this; exact absurd this (by decide)
    rw [List.map_append, List.map_append, List.nodup_append] at hnd
    obtain ⟨hnd1, hnd2, hnd3⟩ := hnd
    rw [List.nodup_append] at hnd1
    rw [if_neg hne, List.nil_append, beh_last e (fun k hk q => hnd1.2.2 _ (List.mem_map_of_mem hk) _ (by simp) q) (fun k hk q => hnd3 _ (by simp) _ (List.mem_map_of_mem hk) q.symm)]
    simp
theorem rIns_perm {li L : List RC} (hp : li.Perm L) {c : RC} (hs : c.gone = false) (h : rInsE L c.af c.id = 0) : rIns li c.af c.id c.ch = li ++ [c] := by
  have : rInsE li c.af c.id = 0 := by rw [← h]; unfold rInsE; rw [perm_ids hp c.id, perm_ids hp c.af]
  unfold rIns; rw [if_pos this]; cases c; simp_all
theorem type_row {st : List Stm} {li L : List RC} (hA : Alike st li) (hp : li.Perm L) {c : RC} (hok : c.Ok) (hs : c.gone = false) (h : rInsE L c.af c.id = 0) : Alike (insF st c.af c.id c.ch) (li ++ [c]) ∧ (li ++ [c]).Perm (L ++ [c]) ∧ insE st c.af c.id = 0 := by
  refine ⟨?_, hp.append_right _, by rw [perm_insE hA hp, h]⟩
  have e := rIns_perm hp hs h
  have k1 := hA.lnk.ins hA.wf c.af c.id c.ch
  have k2 := hA.kid.ins hA.lnk hA.wf c.af c.id c.ch
  rw [e] at k1 k2
  exact ⟨hA.wf.insF hok.id c.ch, k1, k2⟩
/-- The text, in the order that stands. -/
theorem text_tolds {st : List Stm} {li L : List RC} (hA : Alike st li) (hp : li.Perm L) (hG : Gd L) {U : List Nat} (hU : Reach st U []) : textOf st U = (tolds L).map (·.ch) := by
  have hli : (li.map (·.id)).Nodup := ((hp.map _).nodup_iff).2 hG.nod
  rw [← hA.text hU, hA.lnk.len, hp.length_eq, bl_perm hp (fun c hc => (hG.ok c (hp.mem_iff.1 hc)).id) hli]
  show rtext (tolds L) = _
  unfold rtext stays
  rw [List.filter_eq_self.2 (fun c hc => by rw [hG.stay c (tolds_mem hc)]; rfl)]
theorem at_tolds {st : List Stm} {li L : List RC} (hA : Alike st li) (hp : li.Perm L) (hG : Gd L) {U : List Nat} (hU : Reach st U []) {k : Nat} {d : RC} (hd : (tolds L)[k]? = some d) : atId st (U.filter (live st)) (k : Int) = d.id ∧ (atL (U.filter (live st)) (k : Int)).isSome = true := by
  have hli : (li.map (·.id)).Nodup := ((hp.map _).nodup_iff).2 hG.nod
  have hinv := hU.inv hA.wf
  have hpar : ∀ b ∈ U, 0 < b ∧ b < st.length := fun b hb => by
    have := hinv.par b (by simpa using hb); exact ⟨this.1, this.2.1⟩
  have hst : ∀ b ∈ U, ∃ u c, st[b]? = some u ∧ li[b - 1]? = some c ∧ c.id = u.id ∧ u.gone = false := fun b hb => by
    have h := hpar b hb
    obtain ⟨c, hc, e1, _, e3⟩ := hA.lnk.cl h.1 (List.getElem?_eq_getElem h.2)
    exact ⟨_, c, List.getElem?_eq_getElem h.2, hc, e1, by rw [← e3]; exact hG.stay c (hp.mem_iff.1 (List.mem_of_getElem? hc))⟩
  have hf : U.filter (live st) = U := List.filter_eq_self.2 (fun b hb => by
    obtain ⟨u, c, hu, _, _, hg⟩ := hst b hb
    rw [live_of hu, hg]; rfl)
  have hl := hA.lnk.len
  have hpl := hp.length_eq
  have e : tolds L = U.map (fun b => cl li (b - 1)) := by
    rw [← bl_top hA.wf hA.lnk hA.kid hU (n := L.length + 1) (by omega)]
    unfold tolds
    exact (bl_perm hp (fun c hc => (hG.ok c (hp.mem_iff.1 hc)).id) hli _ _).symm
  rw [e, List.getElem?_map] at hd
  obtain ⟨b, hb, hbd⟩ := Option.map_eq_some_iff.1 hd
  have ha : atL U (k : Int) = some b := by unfold atL; rw [if_neg (by omega)]; simpa using hb
  obtain ⟨u, c, hu, hc, he, _⟩ := hst b (List.mem_of_getElem? hb)
  rw [hf]
  refine ⟨?_, by rw [ha]; rfl⟩
  unfold atId
  rw [ha]
  show idAt st b = d.id
  rw [← hbd, cl_of hc, he]
  unfold idAt; rw [hu]
/-- One that goes. -/
def gi (x : Idn) (c : RC) : RC := { c with gone := c.gone || decide (c.id = x) }
theorem rRem_map {l : List RC} (hn : (l.map (·.id)).Nodup) {x : Idn} (h : ∃ d ∈ l, d.id = x) : rRem l x = l.map (gi x) ∧ rRemE l x = 0 := by
  obtain ⟨d, hd, e⟩ := h
  cases hr : rplc l x with
  | none =>
    unfold rplc at hr
    rw [List.findIdx?_eq_none_iff] at hr
    have := hr d hd
    simp [e] at this
  | some i =>
    obtain ⟨c, hc, hcx⟩ := rplc_get hr
    refine ⟨?_, by unfold rRemE; rw [hr]; rfl⟩
    have hil : i < l.length := (List.getElem?_eq_some_iff.1 hc).1
    have : rRem l x = l.set i { c with gone := true } := by unfold rRem; rw [hr]; simp only [hc]
    rw [this]
    apply List.ext_getElem?
    intro j
    rw [List.getElem?_map, List.getElem?_set]
    by_cases hj : i = j
    · subst hj
      rw [if_pos rfl, if_pos hil, hc]
      simp [gi, hcx]
    · rw [if_neg hj]
      cases hd : l[j]? with
      | none => rfl
      | some f =>
        have hne : f.id ≠ x := fun q => hj (nod_inj hn hc hd (hcx.trans q.symm))
        simp [gi, hne]
theorem kids_map {f : RC → RC} (h1 : ∀ c, (f c).id = c.id) (h2 : ∀ c, (f c).af = c.af) (l : List RC) (x : Idn) : kids (l.map f) x = (kids l x).map f := by
  unfold kids
  rw [gKids_map]
  congr 1
  exact gKids_congr l (fun a _ => ⟨h1 a, h2 a⟩)
theorem bl_map {f : RC → RC} (h1 : ∀ c, (f c).id = c.id) (h2 : ∀ c, (f c).af = c.af) (l : List RC) : ∀ (n : Nat) (x : Idn), bl (l.map f) n x = (bl l n x).map f
  | 0, _ => rfl
  | n + 1, x => by
    show (kids (l.map f) x).flatMap _ = ((kids l x).flatMap _).map f
    rw [kids_map h1 h2, List.map_flatMap, List.flatMap_map]
    refine flatMap_congr' (fun k _ => ?_)
    rw [h1, bl_map h1 h2 l n k.id]
    rfl
/-- Those of one, with numbers above one and up to some further ones, go. -/
def gs (t : Int) (b : H) (m : Nat) (c : RC) : RC := { c with gone := c.gone || decide (c.id.b = b ∧ t < c.id.c ∧ c.id.c ≤ t + m) }
theorem gs_zero (t : Int) (b : H) (l : List RC) : l.map (gs t b 0) = l := by
  have : gs t b 0 = id := by
    funext c
    unfold gs
    have : decide (c.id.b = b ∧ t < c.id.c ∧ c.id.c ≤ t + (0 : Nat)) = false := decide_eq_false (by omega)
    rw [this, Bool.or_false]; rfl
  rw [this, List.map_id]
theorem gs_succ (t : Int) (b : H) (m : Nat) (l : List RC) : (l.map (gs t b m)).map (gi ⟨t + 1 + m, b⟩) = l.map (gs t b (m + 1)) := by
  rw [List.map_map]
  congr 1
  funext c
  show gi _ (gs t b m c) = gs t b (m + 1) c
  unfold gi gs
  simp only [Bool.or_assoc]
  congr 1
  congr 1
  rw [← Bool.decide_or]
  apply decide_eq_decide.2
  constructor
  · rintro (⟨h1, h2, h3⟩ | h)
    · exact ⟨h1, h2, by omega⟩
    · rw [h]; exact ⟨rfl, by show t < t + 1 + (m : Int); omega, by show t + 1 + (m : Int) ≤ t + ((m + 1 : Nat) : Int); omega⟩
  · rintro ⟨h1, h2, h3⟩
    by_cases h : c.id.c ≤ t + m
    · exact .inl ⟨h1, h2, h⟩
    · right
      have : c.id.c = t + 1 + (m : Int) := by omega
      rw [← this, ← h1]
theorem gone_row {st : List Stm} {l : List RC} (hA : Alike st l) (x : Idn) : Alike (remF st x) (rRem l x) := ⟨hA.wf.remF x, hA.lnk.rem x, hA.kid.rem hA.lnk x⟩
theorem gone_one {st : List Stm} {li : List RC} {t : Int} {b : H} {m : Nat} (hA : Alike st (li.map (gs t b m))) (hn : (li.map (·.id)).Nodup) (h : ∃ d ∈ li, d.id = ⟨t + 1 + m, b⟩) : Alike (remF st ⟨t + 1 + m, b⟩) (li.map (gs t b (m + 1))) ∧ remE st ⟨t + 1 + m, b⟩ = 0 := by
  have hn2 : ((li.map (gs t b m)).map (·.id)).Nodup := by rw [List.map_map]; exact hn
  obtain ⟨d, hd, e⟩ := h
  obtain ⟨h1, h2⟩ := rRem_map hn2 (x := ⟨t + 1 + m, b⟩) ⟨gs t b m d, List.mem_map_of_mem hd, e⟩
  refine ⟨?_, ?_⟩
  · have := gone_row hA ⟨t + 1 + m, b⟩
    rwa [h1, gs_succ] at this
  · have := hA.lnk.remE ⟨t + 1 + m, b⟩
    rw [h2] at this
    omega
/-- What stands while it is typed. -/
structure Ty (t : Int) (b : H) (cells A B : List RC) (txt : List UInt8) (i : Nat) (L T : List RC) (af : Idn) : Prop where
  all : L = cells ++ T
  len : T.length = i
  chs : T.map (·.ch) = txt.take i
  ids : ∀ d ∈ T, d.id.b = b ∧ t < d.id.c ∧ d.id.c ≤ t + i
  has : ∀ j : Nat, j < i → ∃ d ∈ T, d.id = ⟨t + 1 + j, b⟩
  ord : tolds L = (A ++ T) ++ B
  gd : Gd L
  aft : (A ++ T = [] ∧ af = zId) ∨ ∃ P' d, A ++ T = P' ++ [d] ∧ d.id = af
  ok : af.Ok
theorem Ty.zero {t : Int} {b : H} {cells : List RC} (hG : Gd cells) {txt : List UInt8} {k : Nat} {af : Idn} (haf : (k = 0 ∧ af = zId) ∨ ∃ j d, k = j + 1 ∧ (tolds cells)[j]? = some d ∧ d.id = af) : Ty t b cells ((tolds cells).take k) ((tolds cells).drop k) txt 0 cells [] af := by
  refine ⟨by simp, rfl, rfl, fun d hd => by simp at hd, fun j hj => by omega, by simp, hG, ?_, ?_⟩
  · rcases haf with ⟨h1, h2⟩ | ⟨j, d, h1, h2, h3⟩
    · left; rw [h1]; exact ⟨by simp, h2⟩
    · right
      refine ⟨(tolds cells).take j, d, ?_, h3⟩
      rw [h1, List.append_nil, List.take_add_one, h2]; rfl
  · rcases haf with ⟨h1, h2⟩ | ⟨j, d, h1, h2, h3⟩
    · rw [h2]; exact zId_ok
    · rw [← h3]; exact (hG.ok d (tolds_mem (List.mem_of_getElem? h2))).id
theorem Ty.next {t : Int} {b : H} {cells A B : List RC} {txt : List UInt8} {i : Nat} {L T : List RC} {af : Idn} (h : Ty t b cells A B txt i L T af) {st : List Stm} {li : List RC} (hA : Alike st li) (hp : li.Perm L) (hS : Sm cells t) (ht0 : 0 ≤ t) (ht1 : t ≤ 480) (hi : i ≤ 1000) (hb : b.length = 32) {ch : UInt8} (hch : txt[i]? = some ch) :
    insE st af ⟨t + 1 + i, b⟩ = 0 ∧ ∃ li' L' T', Ty t b cells A B txt (i + 1) L' T' ⟨t + 1 + i, b⟩ ∧ Alike (insF st af ⟨t + 1 + i, b⟩ ch) li' ∧ li'.Perm L' := by
  have hidok : (⟨t + 1 + i, b⟩ : Idn).Ok := ⟨by show _ ≤ t + 1 + (i : Int); omega, by show t + 1 + (i : Int) ≤ _; omega, hb⟩
  obtain ⟨c, hc⟩ : ∃ c : RC, c = ⟨⟨t + 1 + i, b⟩, af, ch, false⟩ := ⟨_, rfl⟩
  have hcid : c.id = ⟨t + 1 + i, b⟩ := by rw [hc]
  have hcaf : c.af = af := by rw [hc]
  have hcch : c.ch = ch := by rw [hc]
  have hcs : c.gone = false := by rw [hc]
  have hcok : c.Ok := ⟨by rw [hcid]; exact hidok, by rw [hcaf]; exact h.ok⟩
  have hn : c.id.c = t + 1 + i := by rw [hcid]
  obtain ⟨h0, hG, ho⟩ := type_one hA hp h.gd hcok hcs (by rw [hn]; omega) (fun d hd => by
    rw [h.all] at hd
    rw [hn]
    rcases List.mem_append.1 hd with hd | hd
    · have := hS d hd; omega
    · have := (h.ids d hd).2.2; omega) h.ord (by rw [hcaf]; exact h.aft)
  obtain ⟨hA2, hp2, he⟩ := type_row hA hp hcok hcs h0
  rw [hcid, hcaf, hcch] at hA2
  rw [hcid, hcaf] at he
  refine ⟨he, li ++ [c], L ++ [c], T ++ [c], ⟨by rw [h.all, List.append_assoc], by simp [h.len], ?_, ?_, ?_, by rw [ho]; simp, hG, .inr ⟨A ++ T, c, by simp, hcid⟩, hidok⟩, hA2, hp2⟩
  · rw [List.map_append, h.chs, List.take_add_one, hch]; simp [hcch]
  · intro d hd
    rcases List.mem_append.1 hd with hd | hd
    · have := h.ids d hd; exact ⟨this.1, this.2.1, by omega⟩
    · rw [List.mem_singleton] at hd
      rw [hd, hcid]
      exact ⟨rfl, by show t < t + 1 + (i : Int); omega, by show t + 1 + (i : Int) ≤ _; omega⟩
  · intro j hj
    by_cases e : j = i
    · subst e; exact ⟨c, by simp, hcid⟩
    · obtain ⟨d, hd, q⟩ := h.has j (by omega)
      exact ⟨d, by simp [hd], q⟩
theorem gone_text {st : List Stm} {li L A B T : List RC} {t : Int} {b : H} {m : Nat} (hA : Alike st (li.map (gs t b m))) (hp : li.Perm L) (hG : Gd L) (ho : tolds L = (A ++ T) ++ B) (hS : ∀ d ∈ A ++ B, d.id.c ≤ t) (hT : ∀ d ∈ T, d.id.b = b ∧ t < d.id.c ∧ d.id.c ≤ t + m) {U : List Nat} (hU : Reach st U []) : textOf st U = (A ++ B).map (·.ch) := by
  have hli : (li.map (·.id)).Nodup := ((hp.map _).nodup_iff).2 hG.nod
  have hl := hA.lnk.len
  rw [List.length_map] at hl
  rw [← hA.text hU, bl_map (f := gs t b m) (fun _ => rfl) (fun _ => rfl), hl, hp.length_eq, bl_perm hp (fun c hc => (hG.ok c (hp.mem_iff.1 hc)).id) hli]
  have e : bl L (L.length + 1) zId = tolds L := rfl
  rw [e]
  have hst : ∀ d ∈ tolds L, d.gone = false := fun d hd => hG.stay d (tolds_mem hd)
  rw [ho] at hst ⊢
  unfold rtext stays
  rw [List.map_append, List.map_append, List.filter_append, List.filter_append, List.map_append, List.map_append]
  have keep : ∀ X : List RC, (∀ d ∈ X, d.gone = false ∧ d.id.c ≤ t) → ((X.map (gs t b m)).filter (fun c => !c.gone)).map (·.ch) = X.map (·.ch) := fun X hX => by
    rw [List.filter_eq_self.2 (fun c hc => by
      obtain ⟨d, hd, rfl⟩ := List.mem_map.1 hc
      have := hX d hd
      show (!(d.gone || _)) = true
      rw [this.1, decide_eq_false (by omega)]; rfl), List.map_map]
    rfl
  rw [keep A (fun d hd => ⟨hst d (by simp [hd]), hS d (by simp [hd])⟩), keep B (fun d hd => ⟨hst d (by simp [hd]), hS d (by simp [hd])⟩), List.filter_eq_nil_iff.2 (fun c hc => by
    obtain ⟨d, hd, rfl⟩ := List.mem_map.1 hc
    have := hT d hd
    show ¬ ((!(d.gone || _)) = true)
    rw [decide_eq_true this]; simp)]
  simp
theorem Ty.back {t : Int} {b : H} {cells A B : List RC} {txt : List UInt8} {i : Nat} {L T : List RC} {af : Idn} (h : Ty t b cells A B txt i L T af) (hAB : tolds cells = A ++ B) (hS : Sm cells t) {st : List Stm} {li : List RC} (hA : Alike st (li.map (gs t b i))) (hp : li.Perm L) {U : List Nat} (hU : Reach st U []) : textOf st U = (tolds cells).map (·.ch) := by
  rw [hAB]
  exact gone_text hA hp h.gd h.ord (fun d hd => hS d (tolds_mem (by rw [hAB]; exact hd))) h.ids hU
theorem Ty.gone {t : Int} {b : H} {cells A B : List RC} {txt : List UInt8} {i : Nat} {L T : List RC} {af : Idn} (h : Ty t b cells A B txt i L T af) {st : List Stm} {li : List RC} {j : Nat} (hA : Alike st (li.map (gs t b j))) (hp : li.Perm L) (hj : j < i) : remE st ⟨t + 1 + j, b⟩ = 0 ∧ Alike (remF st ⟨t + 1 + j, b⟩) (li.map (gs t b (j + 1))) := by
  have hli : (li.map (·.id)).Nodup := ((hp.map _).nodup_iff).2 h.gd.nod
  obtain ⟨d, hd, e⟩ := h.has j hj
  have := gone_one hA hli ⟨d, hp.mem_iff.2 (by rw [h.all]; simp [hd]), e⟩
  exact ⟨this.2, this.1⟩
end Go.Proofs.Ytiglenomigipmaa

namespace Go.Proofs.Ytiglenomigipmaa
open Go.RowKit Go.Shelf
attribute [local go_sem] Oper.semAt_some
section
variable {oi : Oper} {a : Act} {w : World}
theorem x_gt3z' {x : Operand} {n : Nat} (hop : oi.op = .binOp .gtr 3 x (.const (.int .i64 0)) 3) (hx : a.eval x = .int .i64 (n : Int)) : (execOp a.eval oi).run Try.prog w = .ok (.value (.bool (decide (0 < n)))) w := by
  have hk : a.eval (.const (.int .i64 0)) = .int .i64 0 := rfl
  unfold execOp; simp only [hop, hx, hk]
  by_cases h : 0 < n <;> simp [go_sem, h]
theorem x_cat {x y : Operand} {p q : List UInt8} (hop : oi.op = .binOp .add 9 x y 9) (hx : a.eval x = .string (strOf p)) (hy : a.eval y = .string (strOf q)) (hb : p.length + q.length ≤ 9223372036854775807) : (execOp a.eval oi).run Try.prog w = .ok (.value (.string (strOf (p ++ q)))) w := by
  have hb' : (strOf p).size + (strOf q).size ≤ 9223372036854775807 := by rw [strOf_size, strOf_size]; exact hb
  have e : strOf p ++ strOf q = strOf (p ++ q) := by simp [strOf, ByteArray.ext_iff]
  unfold execOp
  simp only [hop, hx, hy]
  simp [go_sem, e, hb']
theorem sl9 (l : List UInt8) (k : Nat) (hk : k ≤ l.length) (w : World) : (Instr.sliceAt 9 (.string (strOf l)) none (some (.int .i64 (k : Int))) none).run Try.prog w = .ok (.string (strOf (l.take k))) w := by
  have hs : (strOf l).size = l.length := strOf_size l
  rw [run_sliceAt_string (P := Try.prog) w 9 _ _ _ _ Try.underlying9, run_slice_string_h (P := Try.prog) w 9 (strOf l) Try.underlying9 .i64 (k : Int) (by omega) (by rw [hs]; omega)]
  have e : (strOf l).extract 0 k = strOf (l.take k) := by
    apply ByteArray.ext
    simp [strOf]
  simp [e]
theorem x_sl9 {x y : Operand} {l : List UInt8} {k : Nat} (hop : oi.op = .slice 9 x none (some y) none) (hx : a.eval x = .string (strOf l)) (hy : a.eval y = .int .i64 (k : Int)) (hk : k ≤ l.length) : (execOp a.eval oi).run Try.prog w = .ok (.value (.string (strOf (l.take k)))) w := by
  unfold execOp
  simp only [hop, hx, hy, Option.map, Sem.run_bind, sl9 l k hk w, Result.andThen_ok]
  rfl
theorem sl9l (l : List UInt8) (k : Nat) (hk : k ≤ l.length) (w : World) : (Instr.sliceAt 9 (.string (strOf l)) (some (.int .i64 (k : Int))) none none).run Try.prog w = .ok (.string (strOf (l.drop k))) w := by
  have hs : (strOf l).size = l.length := strOf_size l
  rw [run_sliceAt_string (P := Try.prog) w 9 _ _ _ _ Try.underlying9, run_slice_string_l (P := Try.prog) w 9 (strOf l) Try.underlying9 .i64 (k : Int) (by omega) (by rw [hs]; omega)]
  have e : (strOf l).extract k (strOf l).size = strOf (l.drop k) := by
    apply ByteArray.ext
    simp [strOf, ByteArray.size]
    exact List.take_of_length_le (by simp)
  simp [e]
theorem x_sl9l {x y : Operand} {l : List UInt8} {k : Nat} (hop : oi.op = .slice 9 x (some y) none none) (hx : a.eval x = .string (strOf l)) (hy : a.eval y = .int .i64 (k : Int)) (hk : k ≤ l.length) : (execOp a.eval oi).run Try.prog w = .ok (.value (.string (strOf (l.drop k)))) w := by
  unfold execOp
  simp only [hop, hx, hy, Option.map, Sem.run_bind, sl9l l k hk w, Result.andThen_ok]
  rfl
theorem x_ne9s {x y : Operand} {s : ByteArray} (hop : oi.op = .binOp .neq 9 x y 9) (hx : a.eval x = .string s) (hy : a.eval y = .string s) : (execOp a.eval oi).run Try.prog w = .ok (.value (.bool false)) w := by
  unfold execOp; simp only [hop, hx, hy]
  simp [go_sem]
theorem x_eq9s {x y : Operand} {s : ByteArray} (hop : oi.op = .binOp .eql 9 x y 9) (hx : a.eval x = .string s) (hy : a.eval y = .string s) : (execOp a.eval oi).run Try.prog w = .ok (.value (.bool true)) w := by
  unfold execOp; simp only [hop, hx, hy]
  simp [go_sem]
theorem x_eq3s {x y : Operand} {z : Int} (hop : oi.op = .binOp .eql 3 x y 3) (hx : a.eval x = .int .i64 z) (hy : a.eval y = .int .i64 z) : (execOp a.eval oi).run Try.prog w = .ok (.value (.bool true)) w := by
  unfold execOp; simp only [hop, hx, hy]
  simp [go_sem]
end
theorem RowAt.box37 {W W' : World} {base g k : Nat} {st : List Stm} {D : RwD} {cs : List Value} (h : RowAt W base g st D) (hk : KeptF (Foot g D) W W') (hr : RowIs W k 37 cs) : RowIs W' k 37 cs := hk.row hr (h.other hr (by decide) (by decide) (by decide))
/-- What stands while it is typed. -/
structure Tp (w W : World) (B g g11 : Nat) (st : List Stm) (D : RwD) (af : Idn) : Prop where
  row : RowAt W B g st D
  box : RowIs W g11 37 (idc af)
  aft : After w W
  gb : w.heap.size ≤ B
  gg : w.heap.size ≤ g11
section
variable {w W W' : World} {B g g11 : Nat} {st : List Stm} {D : RwD} {af : Idn}
theorem Tp.after (h : Tp w W B g g11 st D af) (ha : After W W') : Tp w W' B g g11 st D af := ⟨h.row.after ha, h.box.below ha h.box.lt, h.aft.trans ha, h.gb, h.gg⟩
theorem Tp.kept (h : Tp w W B g g11 st D af) {st' : List Stm} {D' : RwD} (hr : RowAt W' B g st' D') (hk : KeptF (Foot g D) W W') : Tp w W' B g g11 st' D' af :=
  ⟨hr, h.row.box37 hk h.box, Below.trans h.aft (hk.below h.aft.size (fun _ hx => Nat.le_trans h.gb (h.row.foot hx).1)), h.gb, h.gg⟩
theorem Tp.put (h : Tp w W B g g11 st D af) (id : Idn) : Tp w (W.setRow g11 (idc id).toArray) B g g11 st D id :=
  ⟨h.row.same (fun j hj => Go.setRow_other W g11 j _ (fun e => h.row.other h.box (by decide) (by decide) (by decide) (e ▸ hj))) (by simp), h.box.setRow _, Below.row h.aft h.gg _, h.gb, h.gg⟩
end
def Stp (p : Prop) : Prop := p
theorem of_stop {p : Prop} (h : Stp p) : p := h
set_option maxRecDepth 100000 in
set_option maxHeartbeats 12800000 in
theorem types_any {w : World} {va ta : Option Addr} {n cap tn tc : Nat} {ps : List Put} {ab : List UInt8} {pos : Nat} (hn : ps.length = n) (hok : ∀ p ∈ ps, p.Ok) (hin : PutsIn w va ps) (htn : ab.length = tn) (hat : BytesAt w ta ab) (hpos : pos < 256) :
    Calls Try.prog 10 #[.slice va n cap, .slice ta tn tc, .int .u8 (pos : Int)] w fun e w' => e = .returned (.bool true) ∧ After w w' := by
  by_cases h120 : n ≤ 120
  · have HD : Hid (decide (n ≤ 120) = true) := decide_eq_true h120
    by_cases h100 : tn ≤ 100
    · have hgt : ¬ (100 : Int) < (tn : Int) := by omega
      have HTM : Hid (Calls Try.prog 27 #[.slice va n cap] w fun e w' => ∃ v, e = .returned v ∧ ∃ cells, RowR w' w.heap.size v cells ∧ Gd cells ∧ cells.length ≤ n ∧ After w w' ∧ Sm cells (4 * (n : Int))) := Calls.mono (tame_num hn hok hin h120) (fun e w' ⟨v, cells, he, h⟩ => ⟨v, he, cells, h⟩)
      have HAT : Hid (BytesAt w ta ab) := hat
      have HTN : Hid (ab.length = tn ∧ tn ≤ 100) := ⟨htn, h100⟩
      have HPO : Hid (pos ≤ 1000) := by show _ ≤ _; omega
      clear hn hok hin hat htn hpos
      go_enter Try.func10, Try.ntmps10
      go_wp2_with (first
        | (go_at_call 11; refine Calls.mono (few_any va n cap) ?_; rintro e w0 ⟨rfl, rfl⟩; rw [HD.out])
        | (go_at_call 27; refine Calls.mono HTM.out ?_; clear HTM; rintro e w1 ⟨v1, rfl, cells, hr1, hg1, hl1, ha1, hs1⟩; obtain ⟨ca, cc, hv1⟩ := hr1.sl; obtain ⟨cn, hcn⟩ : ∃ cn, cells.length = cn := ⟨_, rfl⟩; rw [hcn] at hv1; subst hv1; have H1 := show Hid (RowR w1 w0.heap.size (.slice ca cn cc) cells ∧ Gd cells ∧ cells.length = cn ∧ cn ≤ 120 ∧ After w0 w1 ∧ Sm cells 480) from ⟨hr1, hg1, hcn, by omega, ha1, fun c hc => by { have := hs1 c hc; omega }⟩; clear hr1 hg1 hl1 ha1 hcn hs1)
        | (go_at_call 28; refine Calls.mono (filled_any (ab := []) H1.out.1 H1.out.2.1 (by have := H1.out.2.2.1; have := H1.out.2.2.2.1; omega) rfl (fun h => absurd rfl h)) ?_; rintro e w2 ⟨g, D1, st, li, rfl, hr2, hA2, hp2, ha2⟩; have H2 := show Hid (RowAt w2 w1.heap.size g st D1 ∧ Alike st li ∧ li.Perm cells ∧ After w1 w2 ∧ st.length ≤ 100000) from ⟨hr2, hA2, hp2, ha2, by { have := hA2.lnk.len; have := hp2.length_eq; have := H1.out.2.2.1; have := H1.out.2.2.2.1; omega }⟩; clear hr2 hA2 hp2 ha2)
        | (go_at_call 25; refine Calls.mono (Text_any H2.out.1 (fun V T h => H2.out.2.1.wf.few h) (fun V T h => H2.out.2.1.wf.in h) (by have := H2.out.2.2.2.2; omega)) ?_; rintro e w3 ⟨v4, U1, rfl, hU1, ho4, ha4⟩; rw [text_tolds H2.out.2.1 H2.out.2.2.1 H1.out.2.1 hU1] at ho4; obtain ⟨S0, hS0⟩ : ∃ S0, (tolds cells).map (·.ch) = S0 := ⟨_, rfl⟩; rw [hS0] at ho4; have hsl : S0.length ≤ 120 := (by { rw [← hS0, List.length_map]; have := (told_of H2.out.2.1 H2.out.2.2.1 H1.out.2.1 hU1); rw [this.1, List.length_map] at this; have := this.2; have := H1.out.2.2.1; have := H1.out.2.2.2.1; omega }); have H3 := show Hid (Own w3 w2.heap.size v4 S0 ∧ After w2 w3 ∧ (tolds cells).map (·.ch) = S0 ∧ S0.length ≤ 120) from ⟨ho4, ha4, hS0, hsl⟩; clear hU1 ho4 ha4 hS0 hsl)
        | (refine wpList_of_run rfl (x_conv (x := .tmp 31) (v := v4) rfl (by kernel_rfl) H3.out.1.conv) ?_; apply of_stop))
      unfold Stp
      obtain ⟨n0, hn0⟩ : ∃ n0, S0.length = n0 := ⟨_, rfl⟩
      have hsz : (strOf S0).size = n0 := by rw [strOf_size]; exact hn0
      obtain ⟨k, hk⟩ : ∃ k, pos % (n0 + 1) = k := ⟨_, rfl⟩
      have HN0 : Hid (n0 ≤ 120 ∧ pos % (n0 + 1) = k ∧ 0 < n0 + 1 ∧ n0 ≤ 1000000) := by have := H3.out.2.2.2; exact ⟨by omega, hk, by omega, by omega⟩
      have HK : Hid (S0.length ≤ 120 ∧ k ≤ S0.length) := ⟨H3.out.2.2.2, by have := Nat.mod_lt pos (show 0 < n0 + 1 by omega); omega⟩
      have HS0 : Hid ((tolds cells).map (·.ch) = S0) := H3.out.2.2.1
      have HAL : Hid (Alike st li ∧ li.Perm cells ∧ st.length ≤ 100000) := ⟨H2.out.2.1, H2.out.2.2.1, H2.out.2.2.2.2⟩
      have HG : Hid (Gd cells ∧ cells.length = cn ∧ cn ≤ 120) := ⟨H1.out.2.1, H1.out.2.2.1, H1.out.2.2.2.1⟩
      have HSM : Hid (Sm cells 480) := H1.out.2.2.2.2.2
      have HWA : Hid (RowAt w3 w1.heap.size g st D1 ∧ RowR w3 w0.heap.size (.slice ca cn cc) cells ∧ After w0 w3 ∧ w0.heap.size ≤ w1.heap.size) := ⟨H2.out.1.after H3.out.2.1, (H1.out.1.after H2.out.2.2.2.1).after H3.out.2.1, (H1.out.2.2.2.2.1.trans H2.out.2.2.2.1).trans H3.out.2.1, H1.out.2.2.2.2.1.size⟩
      obtain ⟨B, hB⟩ : ∃ B, w1.heap.size = B := ⟨_, rfl⟩
      rw [hB] at HWA
      obtain ⟨W4, hW4⟩ : ∃ W4, w3.alloc (.cells (idc zId).toArray 37) = W4 := ⟨_, rfl⟩
      obtain ⟨g11, hg11⟩ : ∃ g11, w3.heap.size = g11 := ⟨_, rfl⟩
      have H4 : Hid (Tp w0 W4 B g g11 st D1 zId ∧ RowR W4 w0.heap.size (.slice ca cn cc) cells) := by
        have ha : After w3 W4 := by rw [← hW4]; exact after_alloc (After.refl w3) _
        exact ⟨⟨HWA.out.1.after ha, by rw [← hW4, ← hg11]; exact RowIs.new w3 37 _, HWA.out.2.2.1.trans ha, HWA.out.2.2.2, by rw [← hg11]; exact HWA.out.2.2.1.size⟩, HWA.out.2.1.after ha⟩
      have HG4 := show Hid _ from hW4
      have HG11 := show Hid _ from hg11
      clear H1 H2 H3 hn0 hk hW4 hg11 hB HD HWA
      go_wp2_with (first
        | (refine wpList_of_run rfl (x_cv53 (x := .tmp 33) (m := pos) HPO.out rfl (by kernel_rfl)) ?_)
        | (refine wpList_of_run rfl (x_add1 (x := .tmp 36) (k := n0) HN0.out.2.2.2 rfl (by kernel_rfl)) ?_)
        | (refine wpList_of_run rfl (x_remi (x := .tmp 34) (y := .tmp 37) (p := pos) (q := n0 + 1) (r := k) rfl (by kernel_rfl) (by kernel_rfl) HN0.out.2.1 HN0.out.2.2.1) ?_)
        | (refine wpList_of_run rfl (x_al37 rfl) ?_; rw [HG4.out, HG11.out]; apply of_stop))
      unfold Stp
      clear HG4 HG11 HN0 hsz
      cases k with
      | zero =>
        have HKD : Hid (decide (0 < (0 : Nat)) = false) := by show _ = _; simp
        obtain ⟨af0, haf0⟩ : ∃ af0, af0 = zId := ⟨_, rfl⟩
        rw [← haf0] at H4
        obtain ⟨W5, hW5⟩ : ∃ W5, W5 = W4 := ⟨_, rfl⟩
        subst hW5
        have H5 : Hid (RowR W5 w0.heap.size (.slice ca cn cc) cells ∧ Tp w0 W5 B g g11 st D1 af0 ∧ ∀ T, Ty T (h1 7) cells ((tolds cells).take 0) ((tolds cells).drop 0) ab 0 cells [] af0) := ⟨H4.out.2, H4.out.1, fun T => Ty.zero HG.out.1 (.inl ⟨rfl, haf0⟩)⟩
        clear H4 haf0
        go_wp2_with (first
          | (refine wpList_of_run rfl ((x_gt3z' (x := .tmp 39) (n := 0) rfl (by kernel_rfl)).trans (by rw [HKD.out])) ?_))
        clear HKD
        go_loopw [12, 13] (fun vt vi wr => ∃ (i : Nat) (T : Int), vi = .int .i64 (i : Int) ∧ vt = .int .i64 T ∧ i ≤ cn ∧ 0 ≤ T ∧ T ≤ 480 ∧ wr = W5 ∧ Hid (Sm (cells.take i) T)) (fun _ vi _ => cn - (intOf vi).toNat)
        case atStart => exact ⟨0, 0, rfl, rfl, Nat.zero_le _, by omega, by omega, rfl, fun c hc => (by simp at hc)⟩
        case round =>
          obtain ⟨i, T, rfl, rfl, hicn, hT0, hT1, rfl, HT⟩ := hrel
          have hcn6 : cn ≤ 120 := HG.out.2.2
          by_cases hlt : i < cn
          · have hii : (i : Int) < (cn : Int) := by omega
            obtain ⟨c, hc⟩ : ∃ c, cells[i]? = some c := ⟨_, List.getElem?_eq_getElem (by rw [HG.out.2.1]; exact hlt)⟩
            obtain ⟨gs, hca, -, hr⟩ := H5.out.1.at hc
            subst hca
            rw [Nat.zero_add] at hr
            have cn0 : wr.cell? ⟨gs, i * 68, none⟩ = some (.int .i64 c.id.c) := hr 0 _ rfl
            have hcb : c.id.c ≤ 480 := HSM.out c (List.mem_of_getElem? hc)
            have HTN : Hid (Sm (cells.take (i + 1)) (max T c.id.c)) := fun d hd => by
              rw [List.take_add_one, hc] at hd
              rcases List.mem_append.1 hd with hd | hd
              · have := HT.out d hd; omega
              · have hd' : d = c := by simpa using hd
                rw [hd']; omega
            have HLT : Hid (i < cn) := hlt
            clear hc hr
            go_wp2_with (first
              | (refine wpList_of_run rfl (x_idx27 (x := .tmp 55) (y := .tmp 56) (b := gs) (f := 0) (n := cn) (c := cc) (k := i) rfl (by kernel_rfl) (by kernel_rfl) HLT.out) ?_; rw [Nat.zero_add]))
            go_roundw
            case rel => exact ⟨i + 1, max T c.id.c, by go_num, rfl, by omega, by omega, by omega, trivial, HTN.out⟩
            case measure => simp [intOf]; omega
          · obtain rfl : i = cn := by omega
            have hii : ¬ (i : Int) < (i : Int) := by omega
            obtain ⟨cn, hcnn⟩ : ∃ cn, cn = i := ⟨_, rfl⟩
            subst hcnn
            have HTA : Hid (Sm cells T) := by have := HT.out; rwa [List.take_of_length_le (by rw [HG.out.2.1]; exact Nat.le_refl _)] at this
            have HTY0 := H5.out.2.2 T
            obtain ⟨A, hA0⟩ : ∃ A, (tolds cells).take (0) = A := ⟨_, rfl⟩
            obtain ⟨B2, hB0⟩ : ∃ B2, (tolds cells).drop (0) = B2 := ⟨_, rfl⟩
            rw [hA0, hB0] at HTY0
            have HAB : Hid (tolds cells = A ++ B2 ∧ S0.take (0) = A.map (·.ch) ∧ S0.drop (0) = B2.map (·.ch) ∧ (tolds cells).map (·.ch) = S0) := ⟨by rw [← hA0, ← hB0, List.take_append_drop], by rw [← hA0, ← HS0.out, List.map_take], by rw [← hB0, ← HS0.out, List.map_drop], HS0.out⟩
            have HTY := show Hid (Ty T (h1 7) cells A B2 ab 0 cells [] af0) from HTY0
            have HT5 := show Hid (Tp w0 wr B g g11 st D1 af0) from H5.out.2.1
            have HAL2 : Hid (Alike st li ∧ li.Perm cells) := ⟨HAL.out.1, HAL.out.2.1⟩
            clear HTY0 hA0 hB0 H5 HT HAL
            obtain ⟨W5, hw5⟩ : ∃ W5, W5 = wr := ⟨_, rfl⟩
            subst hw5
            go_wp2_with fail
            go_loopw [14] (fun vi wr => ∃ (i : Nat), vi = .int .i64 (i : Int) ∧ i ≤ tn ∧ ∃ af st li L TT D, Hid (Tp w0 wr B g g11 st D af) ∧ Hid (Ty T (h1 7) cells A B2 ab i L TT af) ∧ Hid (Alike st li ∧ li.Perm L)) (fun vi _ => tn - (intOf vi).toNat)
            case atStart => exact ⟨0, rfl, Nat.zero_le _, _, _, _, _, _, _, HT5, HTY, HAL2⟩
            case round =>
              clear HT5 HTY HAL2
              obtain ⟨i, rfl, hitn, af, st, li, L, TT, D, HT, HTY, HAL⟩ := hrel
              have HAJ : Hid (Alike st li ∧ li.Perm L ∧ st.length ≤ 100000) := ⟨HAL.out.1, HAL.out.2, by
                have h1 := HAL.out.1.lnk.len
                have h2 := HAL.out.2.length_eq
                have h3 := HTY.out.all
                have h4 := HTY.out.len
                have h5 := HG.out.2.1
                rw [h3, List.length_append] at h2
                omega⟩
              clear HAL
              have htn6 : tn ≤ 100 := HTN.out.2
              by_cases hlt : i < tn
              · have hii : (i : Int) < (tn : Int) := by omega
                have HLT : Hid (i < tn) := hlt
                obtain ⟨ch, hch⟩ : ∃ ch, ab[i]? = some ch := ⟨_, List.getElem?_eq_getElem (by rw [HTN.out.1]; exact hlt)⟩
                obtain ⟨tb, to, hta, htc⟩ := HAT.out (fun e => by rw [e] at hch; simp at hch)
                subst hta
                obtain ⟨id, hid⟩ : ∃ id : Idn, id = ⟨T + 1 + i, h1 7⟩ := ⟨_, rfl⟩
                have HID : Hid (id = ⟨T + 1 + i, h1 7⟩) := hid
                have hidok : id.Ok := by rw [hid]; exact ⟨by show _ ≤ T + 1 + (i : Int); omega, by show T + 1 + (i : Int) ≤ _; omega, h1_len _⟩
                have HIC : Hid (id.c = T + 1 + i ∧ id.b = h1 7) := by rw [hid]; exact ⟨rfl, rfl⟩
                have HOK : Hid (af.Ok ∧ id.Ok) := ⟨HTY.out.ok, hidok⟩
                have HNX : Hid (insE st af id = 0 ∧ ∃ li' L' T', Ty T (h1 7) cells A B2 ab (i + 1) L' T' id ∧ Alike (insF st af id ch) li' ∧ li'.Perm L') := by
                  rw [hid]
                  exact HTY.out.next HAJ.out.1 HAJ.out.2.1 HTA.out hT0 hT1 (by omega) (h1_len _) hch
                obtain ⟨g15, hg15⟩ : ∃ g15, wr.heap.size = g15 := ⟨_, rfl⟩
                obtain ⟨W1, hW1⟩ : ∃ W1, (wr.alloc (.cells (idc zId).toArray 37)).setRow g15 (idc id).toArray = W1 := ⟨_, rfl⟩
                have HZ1 : Hid (RowIs (wr.alloc (.cells (idc zId).toArray 37)) g15 37 (idc zId)) := by rw [← hg15]; exact RowIs.new wr 37 _
                have HT1 : Hid (Tp w0 W1 B g g11 st D af ∧ RowIs W1 g15 37 (idc id)) := by
                  rw [← hW1]
                  refine ⟨HT.out.after ?_, HZ1.out.setRow _⟩
                  rw [← hg15]
                  exact Below.row (after_alloc (After.refl wr) _) (Nat.le_refl _) _
                have HG1 := show Hid _ from hW1
                have HG15 := show Hid _ from hg15
                have HCH : Hid (∀ W, KeptF (Foot g D) W1 W → W.cell? ⟨tb, to + i, none⟩ = some (.int .u8 (ch.toNat : Int))) := fun W hW => by
                  have h0 := htc i (by rw [HTN.out.1]; exact hlt)
                  have e1 : ab.getD i 0 = ch := by simp [List.getD, hch]
                  rw [e1] at h0
                  have hb := Below.trans HT1.out.1.aft (hW.below HT1.out.1.aft.size (fun _ hx => Nat.le_trans HT1.out.1.gb (HT1.out.1.row.foot hx).1))
                  exact (Below.cell hb (p := ⟨tb, to + i, none⟩) (World.block_lt_of_cell? w0 _ h0)).trans h0
                clear hid hidok hch htc hW1 hg15
                go_wp2_with (first
                  | (refine wpList_of_run rfl (x_addz (x := .tmp 68) (y := .const (.int .i64 1)) (p := T) (q := 1) (by omega) (by omega) rfl (by kernel_rfl) (by kernel_rfl)) ?_)
                  | (refine wpList_of_run rfl (x_addz (x := .tmp 69) (y := .tmp 70) (p := T + 1) (q := (i : Int)) (by omega) (by omega) rfl (by kernel_rfl) (by kernel_rfl)) ?_; rw [← HIC.out.1])
                  | (refine wpList_of_run rfl (x_bld35 (x := .const (.int .u8 7)) (b := 7) rfl (by kernel_rfl)) ?_; rw [← HIC.out.2])
                  | (refine wpList_of_run rfl (x_bid37 (x := .tmp 71) (y := .tmp 72) (z := id) HOK.out.2 rfl (by kernel_rfl) (by kernel_rfl)) ?_)
                  | (refine wpList_of_run rfl (x_al37 rfl) ?_; rw [HG15.out])
                  | (refine wpList_store_row rfl 37 (.tmp 15) (.tmp 73) rfl g15 (idc id).toArray rfl rfl 37 _ HZ1.out (size37 HOK.out.2) (by simp [idc_len HOK.out.2, idc_len zId_ok]) (by simpa using idc_one id) ?_; rw [HG1.out]))
                refine wp_region_noPanic ?_
                refine wp_region_held_drew (S := KeptF (Foot g D) W1) (by kernel_rfl) (KeptF.of_after (After.drew (After.refl _))) ?_
                intro hS0
                refine tk 0 74 (.pointer (some ⟨g, 0, none⟩)) (fuel := 8) rfl (by kernel_rfl) (by kernel_rfl) (by kernel_rfl) (by kernel_rfl) noPanic_false (by kernel_rfl) (fun _ _ => by kernel_rfl) hS0 ?_
                refine tk 1 75 (idv af) (fuel := 7) rfl (by kernel_rfl) (by kernel_rfl) (by kernel_rfl) (by kernel_rfl) noPanic_false (by kernel_rfl) (fun W hW => x_ld37m (x := .tmp 11) (g := g11) (p := 0) HOK.out.1 (by kernel_rfl) (by kernel_rfl) (HT1.out.1.row.box37 hW HT1.out.1.box).range0) hS0 ?_
                refine tk 2 76 (idv id) (fuel := 6) rfl (by kernel_rfl) (by kernel_rfl) (by kernel_rfl) (by kernel_rfl) noPanic_false (by kernel_rfl) (fun W hW => x_ld37m (x := .tmp 15) (g := g15) (p := 0) HOK.out.2 (by kernel_rfl) (by kernel_rfl) (HT1.out.1.row.box37 hW HT1.out.2).range0) hS0 ?_
                refine tk 3 77 (.slice (some ⟨tb, to, none⟩) tn tc) (fuel := 5) rfl (by kernel_rfl) (by kernel_rfl) (by kernel_rfl) (by kernel_rfl) noPanic_false (by kernel_rfl) (fun _ _ => by kernel_rfl) hS0 ?_
                refine tk 4 78 (.int .i64 (i : Int)) (fuel := 4) rfl (by kernel_rfl) (by kernel_rfl) (by kernel_rfl) (by kernel_rfl) noPanic_false (by kernel_rfl) (fun _ _ => by kernel_rfl) hS0 ?_
                refine tk 5 79 (.pointer (some ⟨tb, to + i, none⟩)) (fuel := 3) rfl (by kernel_rfl) (by kernel_rfl) (by kernel_rfl) (by kernel_rfl) noPanic_false (by kernel_rfl) (fun W _ => x_idx56 (x := .tmp 77) (y := .tmp 78) (b := tb) (f := to) (n := tn) (c := tc) (k := i) (by kernel_rfl) (by kernel_rfl) (by kernel_rfl) HLT.out) hS0 ?_
                refine tk 6 80 (.int .u8 (ch.toNat : Int)) (fuel := 2) rfl (by kernel_rfl) (by kernel_rfl) (by kernel_rfl) (by kernel_rfl) noPanic_false (by kernel_rfl) (fun W hW => x_loadT (x := .tmp 79) (t := 5) (g := tb) (j := to + i) Try.underlying5 rfl (by kernel_rfl) (by kernel_rfl) (HCH.out W hW)) hS0 ?_
                refine tkCallZ 7 81 22 #[.pointer (some ⟨g, 0, none⟩), idv af, idv id, .int .u8 (ch.toNat : Int)] (fun v w' => v = .int .i64 0 ∧ ∃ D', RowAt w' B g (insF st af id ch) D' ∧ KeptF (Foot g D) W1 w') (fuel := 1) rfl (by kernel_rfl) (by kernel_rfl) (by kernel_rfl) (fun _ => by kernel_rfl) (Calls.mono (Insert_any (HT1.out.1.row.after (After.drew (After.refl W1))) HAJ.out.1.wf HAJ.out.2.2 HOK.out.1 HOK.out.2 ch) (fun e w' ⟨he, D', h1, _, h3⟩ => ⟨_, he, by rw [HNX.out.1]; rfl, D', h1, (KeptF.of_after (After.drew (After.refl W1))).trans h3 (fun _ _ h => h)⟩)) ?_
                intro v5 w9 ⟨hv5, D5, h51, hk5⟩
                subst hv5
                refine ⟨hk5, ?_⟩
                refine tk 8 82 (.bool false) (fuel := 0) rfl (by kernel_rfl) (by kernel_rfl) (by kernel_rfl) (by kernel_rfl) noPanic_false (by kernel_rfl) (fun _ _ => by kernel_rfl) hk5 ?_
                refine wpAnyH_done (by kernel_rfl) (NoPanic.normal ?_) _
                have H9 := show Hid (Tp w0 w9 B g g11 (insF st af id ch) D5 af ∧ RowIs w9 g15 37 (idc id)) from ⟨HT1.out.1.kept h51 hk5, HT1.out.1.row.box37 hk5 HT1.out.2⟩
                clear h51 hk5 hS0
                go_simp
                go_wp2_with (first
                  | (refine wpList_load_row rfl 37 (.tmp 15) rfl g15 rfl 37 (idc id).toArray (0, 0) _ H9.out.2 Try.underlying37 rfl (size37 HOK.out.2) ?_)
                  | (refine wpList_store_row rfl 37 (.tmp 11) (.tmp 83) rfl g11 (idc id).toArray rfl rfl 37 _ H9.out.1.box (size37 HOK.out.2) (by simp [idc_len HOK.out.2, idc_len HOK.out.1]) (by simpa using idc_one id) ?_))
                obtain ⟨h10, li2, L2, T2, hty2, hal2, hpe2⟩ := HNX.out
                have H10 := show Hid (Tp w0 (w9.setRow g11 (idc id).toArray) B g g11 (insF st af id ch) D5 id) from H9.out.1.put id
                have H11 := show Hid (Ty T (h1 7) cells A B2 ab (i + 1) L2 T2 id) from hty2
                have H12 := show Hid (Alike (insF st af id ch) li2 ∧ li2.Perm L2) from ⟨hal2, hpe2⟩
                clear h10 hty2 hal2 hpe2
                go_roundw
                case rel => exact ⟨i + 1, by go_num, by omega, id, _, li2, L2, T2, D5, H10, H11, H12⟩
                case measure => simp [intOf]; omega
              · obtain rfl : i = tn := by omega
                have hii : ¬ (i : Int) < (i : Int) := by omega
                obtain ⟨tn, htnn⟩ : ∃ tn, tn = i := ⟨_, rfl⟩
                subst htnn
                have HTX : Hid (∀ U, Reach st U [] → textOf st U = (S0.take (0) ++ ab) ++ S0.drop (0)) := fun U hU => by
                  rw [text_tolds HAJ.out.1 HAJ.out.2.1 HTY.out.gd hU, HTY.out.ord, HAB.out.2.1, HAB.out.2.2.1, List.map_append, List.map_append, HTY.out.chs, List.take_of_length_le (by rw [HTN.out.1]; exact Nat.le_refl _)]
                have HCV : Hid (∀ W, After wr W → (convert 56 9 (.slice ta tn tc)).run Try.prog W = .ok (.string (strOf ab)) W) := fun W hW => by
                  have hb : BytesAt W ta ab := fun hne => by
                    obtain ⟨b, o, e, hc⟩ := HAT.out hne
                    exact ⟨b, o, e, fun j hj => (Below.cell (HT.out.aft.trans hW) (p := ⟨b, o + j, none⟩) (World.block_lt_of_cell? w0 _ (hc j hj))).trans (hc j hj)⟩
                  have := conv_at tc hb
                  rwa [HTN.out.1] at this
                have HKL : Hid (0 ≤ S0.length ∧ (S0.take (0)).length + ab.length ≤ 9223372036854775807 ∧ (S0.take (0) ++ ab).length + (S0.drop (0)).length ≤ 9223372036854775807) := by
                  have h1 := HK.out.2
                  have h2 := HK.out.1
                  have h3 := HTN.out
                  refine ⟨h1, ?_, ?_⟩
                  · rw [List.length_take]; omega
                  · rw [List.length_append, List.length_take, List.length_drop]; omega
                go_wp2_with fail
                refine wp_region_noPanic ?_
                refine wp_region_held_drew (S := After wr) (by kernel_rfl) (After.drew (After.refl _)) ?_
                intro hS0
                refine tk 0 84 (.pointer (some ⟨g, 0, none⟩)) (fuel := 13) rfl (by kernel_rfl) (by kernel_rfl) (by kernel_rfl) (by kernel_rfl) noPanic_false (by kernel_rfl) (fun _ _ => by kernel_rfl) hS0 ?_
                refine tk 3 87 (.string (strOf S0)) (fuel := 12) rfl (by kernel_rfl) (by kernel_rfl) (by kernel_rfl) (by kernel_rfl) noPanic_false (by kernel_rfl) (fun _ _ => by kernel_rfl) hS0 ?_
                refine tk 4 88 (.int .i64 ((0 : Nat) : Int)) (fuel := 11) rfl (by kernel_rfl) (by kernel_rfl) (by kernel_rfl) (by kernel_rfl) noPanic_false (by kernel_rfl) (fun _ _ => by kernel_rfl) hS0 ?_
                refine tk 5 89 (.string (strOf (S0.take (0)))) (fuel := 10) rfl (by kernel_rfl) (by kernel_rfl) (by kernel_rfl) (by kernel_rfl) noPanic_false (by kernel_rfl) (fun W _ => x_sl9 (x := .tmp 87) (y := .tmp 88) (l := S0) (k := 0) (by kernel_rfl) (by kernel_rfl) (by kernel_rfl) HKL.out.1) hS0 ?_
                refine tk 6 90 (.slice ta tn tc) (fuel := 9) rfl (by kernel_rfl) (by kernel_rfl) (by kernel_rfl) (by kernel_rfl) noPanic_false (by kernel_rfl) (fun _ _ => by kernel_rfl) hS0 ?_
                refine tk 7 91 (.string (strOf ab)) (fuel := 8) rfl (by kernel_rfl) (by kernel_rfl) (by kernel_rfl) (by kernel_rfl) noPanic_false (by kernel_rfl) (fun W hW => x_conv (x := .tmp 90) (v := .slice ta tn tc) (by kernel_rfl) (by kernel_rfl) (HCV.out W hW)) hS0 ?_
                refine tk 8 92 (.string (strOf (S0.take (0) ++ ab))) (fuel := 7) rfl (by kernel_rfl) (by kernel_rfl) (by kernel_rfl) (by kernel_rfl) noPanic_false (by kernel_rfl) (fun W _ => x_cat (x := .tmp 89) (y := .tmp 91) (p := S0.take (0)) (q := ab) (by kernel_rfl) (by kernel_rfl) (by kernel_rfl) HKL.out.2.1) hS0 ?_
                refine tk 9 93 (.string (strOf S0)) (fuel := 6) rfl (by kernel_rfl) (by kernel_rfl) (by kernel_rfl) (by kernel_rfl) noPanic_false (by kernel_rfl) (fun _ _ => by kernel_rfl) hS0 ?_
                refine tk 10 94 (.int .i64 ((0 : Nat) : Int)) (fuel := 5) rfl (by kernel_rfl) (by kernel_rfl) (by kernel_rfl) (by kernel_rfl) noPanic_false (by kernel_rfl) (fun _ _ => by kernel_rfl) hS0 ?_
                refine tk 11 95 (.string (strOf (S0.drop (0)))) (fuel := 4) rfl (by kernel_rfl) (by kernel_rfl) (by kernel_rfl) (by kernel_rfl) noPanic_false (by kernel_rfl) (fun W _ => x_sl9l (x := .tmp 93) (y := .tmp 94) (l := S0) (k := 0) (by kernel_rfl) (by kernel_rfl) (by kernel_rfl) HKL.out.1) hS0 ?_
                refine tk 12 96 (.string (strOf ((S0.take (0) ++ ab) ++ S0.drop (0)))) (fuel := 3) rfl (by kernel_rfl) (by kernel_rfl) (by kernel_rfl) (by kernel_rfl) noPanic_false (by kernel_rfl) (fun W _ => x_cat (x := .tmp 92) (y := .tmp 95) (p := S0.take (0) ++ ab) (q := S0.drop (0)) (by kernel_rfl) (by kernel_rfl) (by kernel_rfl) HKL.out.2.2) hS0 ?_
                refine tkCallZ 1 85 25 #[.pointer (some ⟨g, 0, none⟩)] (fun v w' => Own w' wr.drew.heap.size v ((S0.take (0) ++ ab) ++ S0.drop (0)) ∧ After wr w') (fuel := 2) rfl (by kernel_rfl) (by kernel_rfl) (by kernel_rfl) (fun _ => by kernel_rfl) (Calls.mono (Text_any (HT.out.row.after (After.drew (After.refl wr))) (fun V T h => HAJ.out.1.wf.few h) (fun V T h => HAJ.out.1.wf.in h) (by have := HAJ.out.2.2; omega)) (fun e w' ⟨v, U, he, hU, ho, ha⟩ => ⟨v, he, by rw [HTX.out U hU] at ho; exact ho, hS0.trans ha⟩)) ?_
                intro v6 w6 ⟨ho6, ha6⟩
                refine ⟨ha6, ?_⟩
                refine tkRunS 2 86 (.string (strOf ((S0.take (0) ++ ab) ++ S0.drop (0)))) (w6) (fuel := 1) rfl (by kernel_rfl) (by kernel_rfl) (by kernel_rfl) (x_conv (x := .tmp 85) (v := v6) (by kernel_rfl) (by kernel_rfl) ho6.conv) (ha6) ?_
                refine tk 13 97 (.bool false) (fuel := 0) rfl (by kernel_rfl) (by kernel_rfl) (by kernel_rfl) (by kernel_rfl) noPanic_false (by kernel_rfl) (fun W _ => x_ne9s (x := .tmp 86) (y := .tmp 96) (s := strOf ((S0.take (0) ++ ab) ++ S0.drop (0))) (by kernel_rfl) (by kernel_rfl) (by kernel_rfl)) ha6 ?_
                refine wpAnyH_done (by kernel_rfl) (NoPanic.normal ?_) _
                have H6 : Hid (Tp w0 w6 B g g11 st D af) := HT.out.after ha6
                clear ha6 ho6 hS0
                go_simp
                have HG6 : Hid (Alike st (li.map (gs T (h1 7) 0))) := by rw [gs_zero]; exact HAJ.out.1
                have HPM : Hid (li.Perm L) := HAJ.out.2.1
                have HSL : Hid (st.length = cn + tn + 1) := by
                  have h1 := HAJ.out.1.lnk.len
                  have h2 := HPM.out.length_eq
                  have h3 := HTY.out.all
                  have h4 := HTY.out.len
                  have h5 := HG.out.2.1
                  rw [h3, List.length_append] at h2
                  show _ = _
                  omega
                go_wp2_with fail
                go_loopw [16] (fun vi wr => ∃ (i : Nat), vi = .int .i64 (i : Int) ∧ i ≤ tn ∧ ∃ st D, Hid (Tp w0 wr B g g11 st D af) ∧ Hid (Alike st (li.map (gs T (h1 7) i))) ∧ Hid (st.length = cn + tn + 1)) (fun vi _ => tn - (intOf vi).toNat)
                case atStart => exact ⟨0, rfl, Nat.zero_le _, _, _, H6, HG6, HSL⟩
                case round =>
                  clear H6 HG6 HSL HT HAJ HTX HCV
                  obtain ⟨i, rfl, hitn2, st, D, HT, HAL, HSL⟩ := hrel
                  by_cases hlt : i < tn
                  · have hii : (i : Int) < (tn : Int) := by omega
                    obtain ⟨id, hid⟩ : ∃ id : Idn, id = ⟨T + 1 + i, h1 7⟩ := ⟨_, rfl⟩
                    have hidok : id.Ok := by rw [hid]; exact ⟨by show _ ≤ T + 1 + (i : Int); omega, by show T + 1 + (i : Int) ≤ _; omega, h1_len _⟩
                    have HIC : Hid (id.c = T + 1 + i ∧ id.b = h1 7 ∧ id.Ok) := ⟨by rw [hid], by rw [hid], hidok⟩
                    have HNX : Hid (remE st id = 0 ∧ Alike (remF st id) (li.map (gs T (h1 7) (i + 1)))) := by
                      rw [hid]; exact HTY.out.gone HAL.out HPM.out hlt
                    clear hid hidok
                    go_wp2_with (first
                      | (refine wpList_of_run rfl (x_addz (x := .tmp 105) (y := .const (.int .i64 1)) (p := T) (q := 1) (by omega) (by omega) rfl (by kernel_rfl) (by kernel_rfl)) ?_)
                      | (refine wpList_of_run rfl (x_addz (x := .tmp 106) (y := .tmp 107) (p := T + 1) (q := (i : Int)) (by omega) (by omega) rfl (by kernel_rfl) (by kernel_rfl)) ?_; rw [← HIC.out.1])
                      | (refine wpList_of_run rfl (x_bld35 (x := .const (.int .u8 7)) (b := 7) rfl (by kernel_rfl)) ?_; rw [← HIC.out.2.1])
                      | (refine wpList_of_run rfl (x_bid37 (x := .tmp 108) (y := .tmp 109) (z := id) HIC.out.2.2 rfl (by kernel_rfl) (by kernel_rfl)) ?_)
                      | (go_at_call 23; refine Calls.mono (Remove_any HT.out.row HIC.out.2.2) ?_; rintro e w9 ⟨rfl, D5, h51, _, hk5⟩; rw [HNX.out.1]; have H9 := show Hid (Tp w0 w9 B g g11 (remF st id) D5 af) from HT.out.kept h51 hk5; clear h51 hk5))
                    have H10 : Hid ((remF st id).length = cn + tn + 1) := by show _ = _; rw [remF_len]; exact HSL.out
                    go_roundw
                    case rel => exact ⟨i + 1, by go_num, by omega, _, D5, H9, HNX.out.2, H10⟩
                    case measure => simp [intOf]; omega
                  · obtain rfl : i = tn := by omega
                    have hii : ¬ (i : Int) < (i : Int) := by omega
                    have HTX : Hid (∀ U, Reach st U [] → textOf st U = S0) := fun U hU => by
                      rw [HTY.out.back HAB.out.1 HTA.out HAL.out HPM.out hU]; exact HAB.out.2.2.2
                    have HCC : Hid (st.length ≤ 100000) := by have := HSL.out; show _ ≤ _; omega
                    go_wp2_with (first
                      | (go_at_call 25; refine Calls.mono (Text_any HT.out.row (fun V T h => HAL.out.wf.few h) (fun V T h => HAL.out.wf.in h) (by have := HCC.out; omega)) ?_; rintro e w7 ⟨v7, U7, rfl, hU7, ho7, ha7⟩; rw [HTX.out U7 hU7] at ho7; have H7 := show Hid (Own w7 wr.heap.size v7 S0 ∧ Tp w0 w7 B g g11 st D af) from ⟨ho7, HT.out.after ha7⟩; clear hU7 ho7 ha7)
                      | (refine wpList_of_run rfl (x_conv (x := .tmp 114) (v := v7) rfl (by kernel_rfl) H7.out.1.conv) ?_)
                      | (refine wpList_of_run rfl (x_eq9s (x := .tmp 115) (y := .tmp 116) (s := strOf S0) rfl (by kernel_rfl) (by kernel_rfl)) ?_)
                      | (go_at_call 24; refine Calls.mono (Cells_any H7.out.2.row HAL.out.wf HCC.out) ?_; rintro e w8 ⟨v8, U8, rfl, hU8, ho8, ha8⟩; obtain ⟨ya, yc, hyv⟩ := own_sl ho8; have hcl := hU8.count HAL.out.wf; rw [HSL.out] at hcl; rw [List.length_map, (show U8.length = cn + i by omega)] at hyv; subst hyv; have H8 := show Hid (After w0 w8) from H7.out.2.aft.trans ha8; clear hU8 ho8 ha8 hcl)
                      | (refine wpListG_of_run rfl (by kernel_rfl) (x_addz (x := .tmp 123) (y := .tmp 125) (p := (cn : Int)) (q := (i : Int)) (by omega) (by omega) rfl (by kernel_rfl) (by kernel_rfl)) ?_)
                      | (refine wpListG_of_run rfl (by kernel_rfl) (x_eq3s (x := .tmp 121) (y := .tmp 126) (z := (cn : Int) + (i : Int)) rfl (by kernel_rfl) (by kernel_rfl)) ?_)
                      | (go_at_call 12; refine Calls.mono (awake_any _) ?_; rintro e w12 ⟨rfl, ha12⟩; have H12 := show Hid (After w0 w12) from H8.out.trans ha12; clear ha12))
                    go_ret
                    exact ⟨rfl, H12.out⟩
      | succ j =>
        have HKD : Hid (decide (0 < j + 1) = true ∧ j ≤ 1000000) := ⟨by simp, by have := HK.out; omega⟩
        obtain ⟨d, hd⟩ : ∃ d, (tolds cells)[j]? = some d := ⟨_, List.getElem?_eq_getElem (by have := HK.out.2; rw [← HS0.out, List.length_map] at this; omega)⟩
        have HAD : Hid (∀ U, Reach st U [] → atId st (U.filter (live st)) (j : Int) = d.id ∧ (atL (U.filter (live st)) (j : Int)).isSome = true) := fun U hU => at_tolds HAL.out.1 HAL.out.2.1 HG.out.1 hU hd
        obtain ⟨af0, haf0⟩ : ∃ af0, d.id = af0 := ⟨_, rfl⟩
        rw [haf0] at HAD
        have HTY0 : Hid (∀ T, Ty T (h1 7) cells ((tolds cells).take (j + 1)) ((tolds cells).drop (j + 1)) ab 0 cells [] af0) := fun T => Ty.zero HG.out.1 (.inr ⟨j, d, rfl, hd, haf0⟩)
        have HA0 : Hid af0.Ok := (HTY0.out 0).ok
        clear hd haf0
        go_wp2_with (first
          | (refine wpList_of_run rfl ((x_gt3z' (x := .tmp 39) (n := j + 1) rfl (by kernel_rfl)).trans (by rw [HKD.out.1])) ?_)
          | (refine wpList_of_run rfl (x_dec1 (x := .tmp 43) (k := j) HKD.out.2 rfl (by kernel_rfl)) ?_)
          | (go_at_call 15; refine Calls.mono (At_any H4.out.1.row HAL.out.1.wf HAL.out.2.2 (j : Int)) ?_; rintro e w5 ⟨U5, hU5, rfl, ha5⟩; rw [(HAD.out U5 hU5).1, (HAD.out U5 hU5).2]; have H5a := show Hid (Tp w0 w5 B g g11 st D1 zId ∧ RowR w5 w0.heap.size (.slice ca cn cc) cells) from ⟨H4.out.1.after ha5, H4.out.2.after ha5⟩; clear hU5 ha5)
          | (refine wpList_store_row rfl 37 (.tmp 11) (.tmp 46) rfl g11 (idc af0).toArray rfl rfl 37 _ H5a.out.1.box (size37 HA0.out) (by simp [idc_len HA0.out, idc_len zId_ok]) (by simpa using idc_one af0) ?_; apply of_stop))
        unfold Stp
        obtain ⟨W5, hW5⟩ : ∃ W5, w5.setRow g11 (idc af0).toArray = W5 := ⟨_, rfl⟩
        have H5 : Hid (RowR W5 w0.heap.size (.slice ca cn cc) cells ∧ Tp w0 W5 B g g11 st D1 af0 ∧ ∀ T, Ty T (h1 7) cells ((tolds cells).take (j + 1)) ((tolds cells).drop (j + 1)) ab 0 cells [] af0) := by
          rw [← hW5]
          refine ⟨H5a.out.2.same (fun b hb => ?_), H5a.out.1.put af0, HTY0.out⟩
          obtain ⟨_, _, cs', hc⟩ := own_lt H5a.out.2.2.2 hb
          exact Go.setRow_other w5 g11 b _ (fun e => by rw [e] at hc; exact absurd (H5a.out.1.box.ty hc).1 (by decide))
        rw [hW5]
        clear H4 H5a HKD HAD HTY0 hW5
        go_wp2_with fail
        go_loopw [12, 13] (fun vt vi wr => ∃ (i : Nat) (T : Int), vi = .int .i64 (i : Int) ∧ vt = .int .i64 T ∧ i ≤ cn ∧ 0 ≤ T ∧ T ≤ 480 ∧ wr = W5 ∧ Hid (Sm (cells.take i) T)) (fun _ vi _ => cn - (intOf vi).toNat)
        case atStart => exact ⟨0, 0, rfl, rfl, Nat.zero_le _, by omega, by omega, rfl, fun c hc => (by simp at hc)⟩
        case round =>
          obtain ⟨i, T, rfl, rfl, hicn, hT0, hT1, rfl, HT⟩ := hrel
          have hcn6 : cn ≤ 120 := HG.out.2.2
          by_cases hlt : i < cn
          · have hii : (i : Int) < (cn : Int) := by omega
            obtain ⟨c, hc⟩ : ∃ c, cells[i]? = some c := ⟨_, List.getElem?_eq_getElem (by rw [HG.out.2.1]; exact hlt)⟩
            obtain ⟨gs, hca, -, hr⟩ := H5.out.1.at hc
            subst hca
            rw [Nat.zero_add] at hr
            have cn0 : wr.cell? ⟨gs, i * 68, none⟩ = some (.int .i64 c.id.c) := hr 0 _ rfl
            have hcb : c.id.c ≤ 480 := HSM.out c (List.mem_of_getElem? hc)
            have HTN : Hid (Sm (cells.take (i + 1)) (max T c.id.c)) := fun d hd => by
              rw [List.take_add_one, hc] at hd
              rcases List.mem_append.1 hd with hd | hd
              · have := HT.out d hd; omega
              · have hd' : d = c := by simpa using hd
                rw [hd']; omega
            have HLT : Hid (i < cn) := hlt
            clear hc hr
            go_wp2_with (first
              | (refine wpList_of_run rfl (x_idx27 (x := .tmp 55) (y := .tmp 56) (b := gs) (f := 0) (n := cn) (c := cc) (k := i) rfl (by kernel_rfl) (by kernel_rfl) HLT.out) ?_; rw [Nat.zero_add]))
            go_roundw
            case rel => exact ⟨i + 1, max T c.id.c, by go_num, rfl, by omega, by omega, by omega, trivial, HTN.out⟩
            case measure => simp [intOf]; omega
          · obtain rfl : i = cn := by omega
            have hii : ¬ (i : Int) < (i : Int) := by omega
            obtain ⟨cn, hcnn⟩ : ∃ cn, cn = i := ⟨_, rfl⟩
            subst hcnn
            have HTA : Hid (Sm cells T) := by have := HT.out; rwa [List.take_of_length_le (by rw [HG.out.2.1]; exact Nat.le_refl _)] at this
            have HTY0 := H5.out.2.2 T
            obtain ⟨A, hA0⟩ : ∃ A, (tolds cells).take (j + 1) = A := ⟨_, rfl⟩
            obtain ⟨B2, hB0⟩ : ∃ B2, (tolds cells).drop (j + 1) = B2 := ⟨_, rfl⟩
            rw [hA0, hB0] at HTY0
            have HAB : Hid (tolds cells = A ++ B2 ∧ S0.take (j + 1) = A.map (·.ch) ∧ S0.drop (j + 1) = B2.map (·.ch) ∧ (tolds cells).map (·.ch) = S0) := ⟨by rw [← hA0, ← hB0, List.take_append_drop], by rw [← hA0, ← HS0.out, List.map_take], by rw [← hB0, ← HS0.out, List.map_drop], HS0.out⟩
            have HTY := show Hid (Ty T (h1 7) cells A B2 ab 0 cells [] af0) from HTY0
            have HT5 := show Hid (Tp w0 wr B g g11 st D1 af0) from H5.out.2.1
            have HAL2 : Hid (Alike st li ∧ li.Perm cells) := ⟨HAL.out.1, HAL.out.2.1⟩
            clear HTY0 hA0 hB0 H5 HT HAL
            obtain ⟨W5, hw5⟩ : ∃ W5, W5 = wr := ⟨_, rfl⟩
            subst hw5
            go_wp2_with fail
            go_loopw [14] (fun vi wr => ∃ (i : Nat), vi = .int .i64 (i : Int) ∧ i ≤ tn ∧ ∃ af st li L TT D, Hid (Tp w0 wr B g g11 st D af) ∧ Hid (Ty T (h1 7) cells A B2 ab i L TT af) ∧ Hid (Alike st li ∧ li.Perm L)) (fun vi _ => tn - (intOf vi).toNat)
            case atStart => exact ⟨0, rfl, Nat.zero_le _, _, _, _, _, _, _, HT5, HTY, HAL2⟩
            case round =>
              clear HT5 HTY HAL2
              obtain ⟨i, rfl, hitn, af, st, li, L, TT, D, HT, HTY, HAL⟩ := hrel
              have HAJ : Hid (Alike st li ∧ li.Perm L ∧ st.length ≤ 100000) := ⟨HAL.out.1, HAL.out.2, by
                have h1 := HAL.out.1.lnk.len
                have h2 := HAL.out.2.length_eq
                have h3 := HTY.out.all
                have h4 := HTY.out.len
                have h5 := HG.out.2.1
                rw [h3, List.length_append] at h2
                omega⟩
              clear HAL
              have htn6 : tn ≤ 100 := HTN.out.2
              by_cases hlt : i < tn
              · have hii : (i : Int) < (tn : Int) := by omega
                have HLT : Hid (i < tn) := hlt
                obtain ⟨ch, hch⟩ : ∃ ch, ab[i]? = some ch := ⟨_, List.getElem?_eq_getElem (by rw [HTN.out.1]; exact hlt)⟩
                obtain ⟨tb, to, hta, htc⟩ := HAT.out (fun e => by rw [e] at hch; simp at hch)
                subst hta
                obtain ⟨id, hid⟩ : ∃ id : Idn, id = ⟨T + 1 + i, h1 7⟩ := ⟨_, rfl⟩
                have HID : Hid (id = ⟨T + 1 + i, h1 7⟩) := hid
                have hidok : id.Ok := by rw [hid]; exact ⟨by show _ ≤ T + 1 + (i : Int); omega, by show T + 1 + (i : Int) ≤ _; omega, h1_len _⟩
                have HIC : Hid (id.c = T + 1 + i ∧ id.b = h1 7) := by rw [hid]; exact ⟨rfl, rfl⟩
                have HOK : Hid (af.Ok ∧ id.Ok) := ⟨HTY.out.ok, hidok⟩
                have HNX : Hid (insE st af id = 0 ∧ ∃ li' L' T', Ty T (h1 7) cells A B2 ab (i + 1) L' T' id ∧ Alike (insF st af id ch) li' ∧ li'.Perm L') := by
                  rw [hid]
                  exact HTY.out.next HAJ.out.1 HAJ.out.2.1 HTA.out hT0 hT1 (by omega) (h1_len _) hch
                obtain ⟨g15, hg15⟩ : ∃ g15, wr.heap.size = g15 := ⟨_, rfl⟩
                obtain ⟨W1, hW1⟩ : ∃ W1, (wr.alloc (.cells (idc zId).toArray 37)).setRow g15 (idc id).toArray = W1 := ⟨_, rfl⟩
                have HZ1 : Hid (RowIs (wr.alloc (.cells (idc zId).toArray 37)) g15 37 (idc zId)) := by rw [← hg15]; exact RowIs.new wr 37 _
                have HT1 : Hid (Tp w0 W1 B g g11 st D af ∧ RowIs W1 g15 37 (idc id)) := by
                  rw [← hW1]
                  refine ⟨HT.out.after ?_, HZ1.out.setRow _⟩
                  rw [← hg15]
                  exact Below.row (after_alloc (After.refl wr) _) (Nat.le_refl _) _
                have HG1 := show Hid _ from hW1
                have HG15 := show Hid _ from hg15
                have HCH : Hid (∀ W, KeptF (Foot g D) W1 W → W.cell? ⟨tb, to + i, none⟩ = some (.int .u8 (ch.toNat : Int))) := fun W hW => by
                  have h0 := htc i (by rw [HTN.out.1]; exact hlt)
                  have e1 : ab.getD i 0 = ch := by simp [List.getD, hch]
                  rw [e1] at h0
                  have hb := Below.trans HT1.out.1.aft (hW.below HT1.out.1.aft.size (fun _ hx => Nat.le_trans HT1.out.1.gb (HT1.out.1.row.foot hx).1))
                  exact (Below.cell hb (p := ⟨tb, to + i, none⟩) (World.block_lt_of_cell? w0 _ h0)).trans h0
                clear hid hidok hch htc hW1 hg15
                go_wp2_with (first
                  | (refine wpList_of_run rfl (x_addz (x := .tmp 68) (y := .const (.int .i64 1)) (p := T) (q := 1) (by omega) (by omega) rfl (by kernel_rfl) (by kernel_rfl)) ?_)
                  | (refine wpList_of_run rfl (x_addz (x := .tmp 69) (y := .tmp 70) (p := T + 1) (q := (i : Int)) (by omega) (by omega) rfl (by kernel_rfl) (by kernel_rfl)) ?_; rw [← HIC.out.1])
                  | (refine wpList_of_run rfl (x_bld35 (x := .const (.int .u8 7)) (b := 7) rfl (by kernel_rfl)) ?_; rw [← HIC.out.2])
                  | (refine wpList_of_run rfl (x_bid37 (x := .tmp 71) (y := .tmp 72) (z := id) HOK.out.2 rfl (by kernel_rfl) (by kernel_rfl)) ?_)
                  | (refine wpList_of_run rfl (x_al37 rfl) ?_; rw [HG15.out])
                  | (refine wpList_store_row rfl 37 (.tmp 15) (.tmp 73) rfl g15 (idc id).toArray rfl rfl 37 _ HZ1.out (size37 HOK.out.2) (by simp [idc_len HOK.out.2, idc_len zId_ok]) (by simpa using idc_one id) ?_; rw [HG1.out]))
                refine wp_region_noPanic ?_
                refine wp_region_held_drew (S := KeptF (Foot g D) W1) (by kernel_rfl) (KeptF.of_after (After.drew (After.refl _))) ?_
                intro hS0
                refine tk 0 74 (.pointer (some ⟨g, 0, none⟩)) (fuel := 8) rfl (by kernel_rfl) (by kernel_rfl) (by kernel_rfl) (by kernel_rfl) noPanic_false (by kernel_rfl) (fun _ _ => by kernel_rfl) hS0 ?_
                refine tk 1 75 (idv af) (fuel := 7) rfl (by kernel_rfl) (by kernel_rfl) (by kernel_rfl) (by kernel_rfl) noPanic_false (by kernel_rfl) (fun W hW => x_ld37m (x := .tmp 11) (g := g11) (p := 0) HOK.out.1 (by kernel_rfl) (by kernel_rfl) (HT1.out.1.row.box37 hW HT1.out.1.box).range0) hS0 ?_
                refine tk 2 76 (idv id) (fuel := 6) rfl (by kernel_rfl) (by kernel_rfl) (by kernel_rfl) (by kernel_rfl) noPanic_false (by kernel_rfl) (fun W hW => x_ld37m (x := .tmp 15) (g := g15) (p := 0) HOK.out.2 (by kernel_rfl) (by kernel_rfl) (HT1.out.1.row.box37 hW HT1.out.2).range0) hS0 ?_
                refine tk 3 77 (.slice (some ⟨tb, to, none⟩) tn tc) (fuel := 5) rfl (by kernel_rfl) (by kernel_rfl) (by kernel_rfl) (by kernel_rfl) noPanic_false (by kernel_rfl) (fun _ _ => by kernel_rfl) hS0 ?_
                refine tk 4 78 (.int .i64 (i : Int)) (fuel := 4) rfl (by kernel_rfl) (by kernel_rfl) (by kernel_rfl) (by kernel_rfl) noPanic_false (by kernel_rfl) (fun _ _ => by kernel_rfl) hS0 ?_
                refine tk 5 79 (.pointer (some ⟨tb, to + i, none⟩)) (fuel := 3) rfl (by kernel_rfl) (by kernel_rfl) (by kernel_rfl) (by kernel_rfl) noPanic_false (by kernel_rfl) (fun W _ => x_idx56 (x := .tmp 77) (y := .tmp 78) (b := tb) (f := to) (n := tn) (c := tc) (k := i) (by kernel_rfl) (by kernel_rfl) (by kernel_rfl) HLT.out) hS0 ?_
                refine tk 6 80 (.int .u8 (ch.toNat : Int)) (fuel := 2) rfl (by kernel_rfl) (by kernel_rfl) (by kernel_rfl) (by kernel_rfl) noPanic_false (by kernel_rfl) (fun W hW => x_loadT (x := .tmp 79) (t := 5) (g := tb) (j := to + i) Try.underlying5 rfl (by kernel_rfl) (by kernel_rfl) (HCH.out W hW)) hS0 ?_
                refine tkCallZ 7 81 22 #[.pointer (some ⟨g, 0, none⟩), idv af, idv id, .int .u8 (ch.toNat : Int)] (fun v w' => v = .int .i64 0 ∧ ∃ D', RowAt w' B g (insF st af id ch) D' ∧ KeptF (Foot g D) W1 w') (fuel := 1) rfl (by kernel_rfl) (by kernel_rfl) (by kernel_rfl) (fun _ => by kernel_rfl) (Calls.mono (Insert_any (HT1.out.1.row.after (After.drew (After.refl W1))) HAJ.out.1.wf HAJ.out.2.2 HOK.out.1 HOK.out.2 ch) (fun e w' ⟨he, D', h1, _, h3⟩ => ⟨_, he, by rw [HNX.out.1]; rfl, D', h1, (KeptF.of_after (After.drew (After.refl W1))).trans h3 (fun _ _ h => h)⟩)) ?_
                intro v5 w9 ⟨hv5, D5, h51, hk5⟩
                subst hv5
                refine ⟨hk5, ?_⟩
                refine tk 8 82 (.bool false) (fuel := 0) rfl (by kernel_rfl) (by kernel_rfl) (by kernel_rfl) (by kernel_rfl) noPanic_false (by kernel_rfl) (fun _ _ => by kernel_rfl) hk5 ?_
                refine wpAnyH_done (by kernel_rfl) (NoPanic.normal ?_) _
                have H9 := show Hid (Tp w0 w9 B g g11 (insF st af id ch) D5 af ∧ RowIs w9 g15 37 (idc id)) from ⟨HT1.out.1.kept h51 hk5, HT1.out.1.row.box37 hk5 HT1.out.2⟩
                clear h51 hk5 hS0
                go_simp
                go_wp2_with (first
                  | (refine wpList_load_row rfl 37 (.tmp 15) rfl g15 rfl 37 (idc id).toArray (0, 0) _ H9.out.2 Try.underlying37 rfl (size37 HOK.out.2) ?_)
                  | (refine wpList_store_row rfl 37 (.tmp 11) (.tmp 83) rfl g11 (idc id).toArray rfl rfl 37 _ H9.out.1.box (size37 HOK.out.2) (by simp [idc_len HOK.out.2, idc_len HOK.out.1]) (by simpa using idc_one id) ?_))
                obtain ⟨h10, li2, L2, T2, hty2, hal2, hpe2⟩ := HNX.out
                have H10 := show Hid (Tp w0 (w9.setRow g11 (idc id).toArray) B g g11 (insF st af id ch) D5 id) from H9.out.1.put id
                have H11 := show Hid (Ty T (h1 7) cells A B2 ab (i + 1) L2 T2 id) from hty2
                have H12 := show Hid (Alike (insF st af id ch) li2 ∧ li2.Perm L2) from ⟨hal2, hpe2⟩
                clear h10 hty2 hal2 hpe2
                go_roundw
                case rel => exact ⟨i + 1, by go_num, by omega, id, _, li2, L2, T2, D5, H10, H11, H12⟩
                case measure => simp [intOf]; omega
              · obtain rfl : i = tn := by omega
                have hii : ¬ (i : Int) < (i : Int) := by omega
                obtain ⟨tn, htnn⟩ : ∃ tn, tn = i := ⟨_, rfl⟩
                subst htnn
                have HTX : Hid (∀ U, Reach st U [] → textOf st U = (S0.take (j + 1) ++ ab) ++ S0.drop (j + 1)) := fun U hU => by
                  rw [text_tolds HAJ.out.1 HAJ.out.2.1 HTY.out.gd hU, HTY.out.ord, HAB.out.2.1, HAB.out.2.2.1, List.map_append, List.map_append, HTY.out.chs, List.take_of_length_le (by rw [HTN.out.1]; exact Nat.le_refl _)]
                have HCV : Hid (∀ W, After wr W → (convert 56 9 (.slice ta tn tc)).run Try.prog W = .ok (.string (strOf ab)) W) := fun W hW => by
                  have hb : BytesAt W ta ab := fun hne => by
                    obtain ⟨b, o, e, hc⟩ := HAT.out hne
                    exact ⟨b, o, e, fun j hj => (Below.cell (HT.out.aft.trans hW) (p := ⟨b, o + j, none⟩) (World.block_lt_of_cell? w0 _ (hc j hj))).trans (hc j hj)⟩
                  have := conv_at tc hb
                  rwa [HTN.out.1] at this
                have HKL : Hid (j + 1 ≤ S0.length ∧ (S0.take (j + 1)).length + ab.length ≤ 9223372036854775807 ∧ (S0.take (j + 1) ++ ab).length + (S0.drop (j + 1)).length ≤ 9223372036854775807) := by
                  have h1 := HK.out.2
                  have h2 := HK.out.1
                  have h3 := HTN.out
                  refine ⟨h1, ?_, ?_⟩
                  · rw [List.length_take]; omega
                  · rw [List.length_append, List.length_take, List.length_drop]; omega
                go_wp2_with fail
                refine wp_region_noPanic ?_
                refine wp_region_held_drew (S := After wr) (by kernel_rfl) (After.drew (After.refl _)) ?_
                intro hS0
                refine tk 0 84 (.pointer (some ⟨g, 0, none⟩)) (fuel := 13) rfl (by kernel_rfl) (by kernel_rfl) (by kernel_rfl) (by kernel_rfl) noPanic_false (by kernel_rfl) (fun _ _ => by kernel_rfl) hS0 ?_
                refine tk 3 87 (.string (strOf S0)) (fuel := 12) rfl (by kernel_rfl) (by kernel_rfl) (by kernel_rfl) (by kernel_rfl) noPanic_false (by kernel_rfl) (fun _ _ => by kernel_rfl) hS0 ?_
                refine tk 4 88 (.int .i64 ((j + 1 : Nat) : Int)) (fuel := 11) rfl (by kernel_rfl) (by kernel_rfl) (by kernel_rfl) (by kernel_rfl) noPanic_false (by kernel_rfl) (fun _ _ => by kernel_rfl) hS0 ?_
                refine tk 5 89 (.string (strOf (S0.take (j + 1)))) (fuel := 10) rfl (by kernel_rfl) (by kernel_rfl) (by kernel_rfl) (by kernel_rfl) noPanic_false (by kernel_rfl) (fun W _ => x_sl9 (x := .tmp 87) (y := .tmp 88) (l := S0) (k := j + 1) (by kernel_rfl) (by kernel_rfl) (by kernel_rfl) HKL.out.1) hS0 ?_
                refine tk 6 90 (.slice ta tn tc) (fuel := 9) rfl (by kernel_rfl) (by kernel_rfl) (by kernel_rfl) (by kernel_rfl) noPanic_false (by kernel_rfl) (fun _ _ => by kernel_rfl) hS0 ?_
                refine tk 7 91 (.string (strOf ab)) (fuel := 8) rfl (by kernel_rfl) (by kernel_rfl) (by kernel_rfl) (by kernel_rfl) noPanic_false (by kernel_rfl) (fun W hW => x_conv (x := .tmp 90) (v := .slice ta tn tc) (by kernel_rfl) (by kernel_rfl) (HCV.out W hW)) hS0 ?_
                refine tk 8 92 (.string (strOf (S0.take (j + 1) ++ ab))) (fuel := 7) rfl (by kernel_rfl) (by kernel_rfl) (by kernel_rfl) (by kernel_rfl) noPanic_false (by kernel_rfl) (fun W _ => x_cat (x := .tmp 89) (y := .tmp 91) (p := S0.take (j + 1)) (q := ab) (by kernel_rfl) (by kernel_rfl) (by kernel_rfl) HKL.out.2.1) hS0 ?_
                refine tk 9 93 (.string (strOf S0)) (fuel := 6) rfl (by kernel_rfl) (by kernel_rfl) (by kernel_rfl) (by kernel_rfl) noPanic_false (by kernel_rfl) (fun _ _ => by kernel_rfl) hS0 ?_
                refine tk 10 94 (.int .i64 ((j + 1 : Nat) : Int)) (fuel := 5) rfl (by kernel_rfl) (by kernel_rfl) (by kernel_rfl) (by kernel_rfl) noPanic_false (by kernel_rfl) (fun _ _ => by kernel_rfl) hS0 ?_
                refine tk 11 95 (.string (strOf (S0.drop (j + 1)))) (fuel := 4) rfl (by kernel_rfl) (by kernel_rfl) (by kernel_rfl) (by kernel_rfl) noPanic_false (by kernel_rfl) (fun W _ => x_sl9l (x := .tmp 93) (y := .tmp 94) (l := S0) (k := j + 1) (by kernel_rfl) (by kernel_rfl) (by kernel_rfl) HKL.out.1) hS0 ?_
                refine tk 12 96 (.string (strOf ((S0.take (j + 1) ++ ab) ++ S0.drop (j + 1)))) (fuel := 3) rfl (by kernel_rfl) (by kernel_rfl) (by kernel_rfl) (by kernel_rfl) noPanic_false (by kernel_rfl) (fun W _ => x_cat (x := .tmp 92) (y := .tmp 95) (p := S0.take (j + 1) ++ ab) (q := S0.drop (j + 1)) (by kernel_rfl) (by kernel_rfl) (by kernel_rfl) HKL.out.2.2) hS0 ?_
                refine tkCallZ 1 85 25 #[.pointer (some ⟨g, 0, none⟩)] (fun v w' => Own w' wr.drew.heap.size v ((S0.take (j + 1) ++ ab) ++ S0.drop (j + 1)) ∧ After wr w') (fuel := 2) rfl (by kernel_rfl) (by kernel_rfl) (by kernel_rfl) (fun _ => by kernel_rfl) (Calls.mono (Text_any (HT.out.row.after (After.drew (After.refl wr))) (fun V T h => HAJ.out.1.wf.few h) (fun V T h => HAJ.out.1.wf.in h) (by have := HAJ.out.2.2; omega)) (fun e w' ⟨v, U, he, hU, ho, ha⟩ => ⟨v, he, by rw [HTX.out U hU] at ho; exact ho, hS0.trans ha⟩)) ?_
                intro v6 w6 ⟨ho6, ha6⟩
                refine ⟨ha6, ?_⟩
                refine tkRunS 2 86 (.string (strOf ((S0.take (j + 1) ++ ab) ++ S0.drop (j + 1)))) (w6) (fuel := 1) rfl (by kernel_rfl) (by kernel_rfl) (by kernel_rfl) (x_conv (x := .tmp 85) (v := v6) (by kernel_rfl) (by kernel_rfl) ho6.conv) (ha6) ?_
                refine tk 13 97 (.bool false) (fuel := 0) rfl (by kernel_rfl) (by kernel_rfl) (by kernel_rfl) (by kernel_rfl) noPanic_false (by kernel_rfl) (fun W _ => x_ne9s (x := .tmp 86) (y := .tmp 96) (s := strOf ((S0.take (j + 1) ++ ab) ++ S0.drop (j + 1))) (by kernel_rfl) (by kernel_rfl) (by kernel_rfl)) ha6 ?_
                refine wpAnyH_done (by kernel_rfl) (NoPanic.normal ?_) _
                have H6 : Hid (Tp w0 w6 B g g11 st D af) := HT.out.after ha6
                clear ha6 ho6 hS0
                go_simp
                have HG6 : Hid (Alike st (li.map (gs T (h1 7) 0))) := by rw [gs_zero]; exact HAJ.out.1
                have HPM : Hid (li.Perm L) := HAJ.out.2.1
                have HSL : Hid (st.length = cn + tn + 1) := by
                  have h1 := HAJ.out.1.lnk.len
                  have h2 := HPM.out.length_eq
                  have h3 := HTY.out.all
                  have h4 := HTY.out.len
                  have h5 := HG.out.2.1
                  rw [h3, List.length_append] at h2
                  show _ = _
                  omega
                go_wp2_with fail
                go_loopw [16] (fun vi wr => ∃ (i : Nat), vi = .int .i64 (i : Int) ∧ i ≤ tn ∧ ∃ st D, Hid (Tp w0 wr B g g11 st D af) ∧ Hid (Alike st (li.map (gs T (h1 7) i))) ∧ Hid (st.length = cn + tn + 1)) (fun vi _ => tn - (intOf vi).toNat)
                case atStart => exact ⟨0, rfl, Nat.zero_le _, _, _, H6, HG6, HSL⟩
                case round =>
                  clear H6 HG6 HSL HT HAJ HTX HCV
                  obtain ⟨i, rfl, hitn2, st, D, HT, HAL, HSL⟩ := hrel
                  by_cases hlt : i < tn
                  · have hii : (i : Int) < (tn : Int) := by omega
                    obtain ⟨id, hid⟩ : ∃ id : Idn, id = ⟨T + 1 + i, h1 7⟩ := ⟨_, rfl⟩
                    have hidok : id.Ok := by rw [hid]; exact ⟨by show _ ≤ T + 1 + (i : Int); omega, by show T + 1 + (i : Int) ≤ _; omega, h1_len _⟩
                    have HIC : Hid (id.c = T + 1 + i ∧ id.b = h1 7 ∧ id.Ok) := ⟨by rw [hid], by rw [hid], hidok⟩
                    have HNX : Hid (remE st id = 0 ∧ Alike (remF st id) (li.map (gs T (h1 7) (i + 1)))) := by
                      rw [hid]; exact HTY.out.gone HAL.out HPM.out hlt
                    clear hid hidok
                    go_wp2_with (first
                      | (refine wpList_of_run rfl (x_addz (x := .tmp 105) (y := .const (.int .i64 1)) (p := T) (q := 1) (by omega) (by omega) rfl (by kernel_rfl) (by kernel_rfl)) ?_)
                      | (refine wpList_of_run rfl (x_addz (x := .tmp 106) (y := .tmp 107) (p := T + 1) (q := (i : Int)) (by omega) (by omega) rfl (by kernel_rfl) (by kernel_rfl)) ?_; rw [← HIC.out.1])
                      | (refine wpList_of_run rfl (x_bld35 (x := .const (.int .u8 7)) (b := 7) rfl (by kernel_rfl)) ?_; rw [← HIC.out.2.1])
                      | (refine wpList_of_run rfl (x_bid37 (x := .tmp 108) (y := .tmp 109) (z := id) HIC.out.2.2 rfl (by kernel_rfl) (by kernel_rfl)) ?_)
                      | (go_at_call 23; refine Calls.mono (Remove_any HT.out.row HIC.out.2.2) ?_; rintro e w9 ⟨rfl, D5, h51, _, hk5⟩; rw [HNX.out.1]; have H9 := show Hid (Tp w0 w9 B g g11 (remF st id) D5 af) from HT.out.kept h51 hk5; clear h51 hk5))
                    have H10 : Hid ((remF st id).length = cn + tn + 1) := by show _ = _; rw [remF_len]; exact HSL.out
                    go_roundw
                    case rel => exact ⟨i + 1, by go_num, by omega, _, D5, H9, HNX.out.2, H10⟩
                    case measure => simp [intOf]; omega
                  · obtain rfl : i = tn := by omega
                    have hii : ¬ (i : Int) < (i : Int) := by omega
                    have HTX : Hid (∀ U, Reach st U [] → textOf st U = S0) := fun U hU => by
                      rw [HTY.out.back HAB.out.1 HTA.out HAL.out HPM.out hU]; exact HAB.out.2.2.2
                    have HCC : Hid (st.length ≤ 100000) := by have := HSL.out; show _ ≤ _; omega
                    go_wp2_with (first
                      | (go_at_call 25; refine Calls.mono (Text_any HT.out.row (fun V T h => HAL.out.wf.few h) (fun V T h => HAL.out.wf.in h) (by have := HCC.out; omega)) ?_; rintro e w7 ⟨v7, U7, rfl, hU7, ho7, ha7⟩; rw [HTX.out U7 hU7] at ho7; have H7 := show Hid (Own w7 wr.heap.size v7 S0 ∧ Tp w0 w7 B g g11 st D af) from ⟨ho7, HT.out.after ha7⟩; clear hU7 ho7 ha7)
                      | (refine wpList_of_run rfl (x_conv (x := .tmp 114) (v := v7) rfl (by kernel_rfl) H7.out.1.conv) ?_)
                      | (refine wpList_of_run rfl (x_eq9s (x := .tmp 115) (y := .tmp 116) (s := strOf S0) rfl (by kernel_rfl) (by kernel_rfl)) ?_)
                      | (go_at_call 24; refine Calls.mono (Cells_any H7.out.2.row HAL.out.wf HCC.out) ?_; rintro e w8 ⟨v8, U8, rfl, hU8, ho8, ha8⟩; obtain ⟨ya, yc, hyv⟩ := own_sl ho8; have hcl := hU8.count HAL.out.wf; rw [HSL.out] at hcl; rw [List.length_map, (show U8.length = cn + i by omega)] at hyv; subst hyv; have H8 := show Hid (After w0 w8) from H7.out.2.aft.trans ha8; clear hU8 ho8 ha8 hcl)
                      | (refine wpListG_of_run rfl (by kernel_rfl) (x_addz (x := .tmp 123) (y := .tmp 125) (p := (cn : Int)) (q := (i : Int)) (by omega) (by omega) rfl (by kernel_rfl) (by kernel_rfl)) ?_)
                      | (refine wpListG_of_run rfl (by kernel_rfl) (x_eq3s (x := .tmp 121) (y := .tmp 126) (z := (cn : Int) + (i : Int)) rfl (by kernel_rfl) (by kernel_rfl)) ?_)
                      | (go_at_call 12; refine Calls.mono (awake_any _) ?_; rintro e w12 ⟨rfl, ha12⟩; have H12 := show Hid (After w0 w12) from H8.out.trans ha12; clear ha12))
                    go_ret
                    exact ⟨rfl, H12.out⟩
    · have hgt : (100 : Int) < (tn : Int) := by omega
      clear hn hok hin hat htn hpos
      go_enter Try.func10, Try.ntmps10
      go_wp2_with (first
        | (go_at_call 11; refine Calls.mono (few_any va n cap) ?_; rintro e w0 ⟨rfl, rfl⟩; rw [HD.out])
        | (go_at_call 12; refine Calls.mono (awake_any _) ?_; rintro e w12 ⟨rfl, ha12⟩; have H12 := show Hid _ from ha12; clear ha12))
      go_ret
      exact ⟨rfl, H12.out⟩
  · have HD : Hid (decide (n ≤ 120) = false) := decide_eq_false h120
    clear hn hok hin hat htn hpos
    go_enter Try.func10, Try.ntmps10
    go_wp2_with (first
      | (go_at_call 11; refine Calls.mono (few_any va n cap) ?_; rintro e w0 ⟨rfl, rfl⟩; rw [HD.out])
      | (go_at_call 12; refine Calls.mono (awake_any _) ?_; rintro e w12 ⟨rfl, ha12⟩; have H12 := show Hid _ from ha12; clear ha12))
    go_ret
    exact ⟨rfl, H12.out⟩
end Go.Proofs.Ytiglenomigipmaa

namespace Go.Proofs.Ytiglenomigipmaa.RgaTypes
open Go.ChangeShapes Go.WideShapes Go.ChangeAt Go.RowKit 
open Go.ChangeMaps (open_string)

set_option maxRecDepth 100000 in
/-- What the walk gives, for every argument and every world. -/
theorem contract (H : Type) (enc : TypeId × Value → H) (W : World) (base : Nat) (args : Array Value) (ds gs : List (DataW H)) (before : List MemPlace)
    (hval : ∀ (j : Nat) t v, Try.f10.params[j]? = some t → args[j]? = some v → Value.okWide Try.prog W .any base t v)
    (hW : DataW.Whole enc Try.prog Try.f10.params.toList Rows.rgaTypesSpec.vars false W args.toList ds gs before)
    (hsz : (DataW.weightsEach Try.prog (Try.f10.params.toList ++ (OpenSpec.ofChange Rows.rgaTypesSpec).bare.plain.varTypes Try.prog) (ds ++ gs)).all (· ≤ reachBytes) = true) :
    Calls Try.prog 10 args W fun e W' => ∃ v, e = .returned v ∧ Rows.rgaTypesSpec.post enc Try.prog Try.f10 false true false false W args v W' := by
  have hW' := hW
  obtain ⟨p, q, hA0, hV, rfl, hfz, hnd⟩ := hW
  have hA : DataW.TrodAll enc Try.prog W 0 (fun _ => true) true Try.f10.params.toList args.toList ds p := hA0
  rw [Try.params10] at hA hval hsz
  obtain ⟨v0, vs0, d0, ds0, p0, q0, hargs, rfl, rfl, h0, r0⟩ := trodAll_cons hA
  obtain ⟨v1, vs1, d1, ds1, p1, q1, rfl, rfl, rfl, h1, r1⟩ := trodAll_cons r0
  obtain ⟨v2, vs2, d2, ds2, p2, q2, rfl, rfl, rfl, h2, r2⟩ := trodAll_cons r1
  obtain ⟨rfl, rfl, rfl⟩ := trodAll_nil r2
  obtain rfl : args = #[v0, v1, v2] := by cases args; simp_all
  obtain ⟨rfl, rfl⟩ := trodVars_none hV
  have k0 := h0
  have lt0 : ∀ x ∈ p0, x.block < W.heap.size := by obtain ⟨m, hm⟩ := k0; exact DataW.trod_lt m _ _ _ hm
  have k1 := h1
  have lt1 : ∀ x ∈ p1, x.block < W.heap.size := by obtain ⟨m, hm⟩ := k1; exact DataW.trod_lt m _ _ _ hm
  have k2 := h2
  have lt2 : ∀ x ∈ p2, x.block < W.heap.size := by obtain ⟨m, hm⟩ := k2; exact DataW.trod_lt m _ _ _ hm
  obtain ⟨a0, len0, cap0, rfl⟩ := okWide_slice Try.underlying22 (hval 0 22 v0 rfl rfl)
  obtain ⟨l0, hl0, hk0, hi0⟩ := open_puts (hval 0 22 _ rfl rfl) h0
  obtain ⟨a1, len1, cap1, rfl⟩ := okWide_slice Try.underlying56 (hval 1 56 v1 rfl rfl)
  obtain ⟨l1, hl1, hc1, hm1, hb1⟩ := open_bytes h1 (fun elems spare he => sized_slice hsz (j := 1) (t := 56) (e := 5) rfl (by rw [he]; rfl) Try.underlying56)
  obtain ⟨x2, ex2, _, _, wx2⟩ := open_int Try.underlying5 (hval 2 5 v2 rfl rfl) h2
  subst ex2
  obtain ⟨b2, rfl⟩ := byte_of wx2
  clear hA0 hA
  refine (types_any (w := W) (va := a0) (ta := a1) (cap := cap0) (tc := cap1) (pos := b2.toNat) hl0 hk0 hi0 hl1 hb1 b2.toNat_lt).mono fun e W' ⟨he, bel⟩ => ?_
  subst he
  exact ⟨_, rfl, _, _, _, [], _, [], hW', trodAll_mk1 (shut_bool Try.underlying4 _), (trodAll_cons_mk (Below.trod laidOut (by kernel_rfl) (of_decide_eq_true (by kernel_rfl)) k0 bel lt0) (trodAll_cons_mk (Below.trod laidOut (by kernel_rfl) (of_decide_eq_true (by kernel_rfl)) k1 bel lt1) (trodAll_cons_mk (Below.trod laidOut (by kernel_rfl) (of_decide_eq_true (by kernel_rfl)) k2 bel lt2) (trodAll_mk0)))), rfl, bel.frame _, fun h => by cases h⟩

set_option maxRecDepth 100000 in
/-- A world for the witness: the settled one. -/
theorem witness (os : Os) {H : Type} (enc : TypeId × Value → H) : ∃ (w : World) (tape : Tape) (i : Input), w.os = os ∧ (w.forCall tape i).Shaped Try.checked.prog ∧ i.vars = [] ∧ Input.okWide Try.checked.prog (w.forCall tape i) .any w.heap.size 10 i ∧
      (OpenSpec.ofChange Rows.rgaTypesSpec).preRow enc Try.checked.prog Try.f10 Rows.rgaTypesRow.domain false Rows.rgaTypesRow.laid (w.forCall tape i).memory i.args ∧ ({} : Assume).holds Try.checked.prog (lone (Frame.enter Try.checked.prog 10 i.args .normal) [] (w.forCall tape i)) :=
  witness_row_at (enc := enc) (C := Try.checked) false (World.holding Try.prog os ⟨#[], #[], []⟩) #[.slice none 0 0, .slice none 0 0, .int .u8 0] rfl (by kernel_rfl) (by kernel_rfl) (by kernel_rfl)
    (OpenSpec.preRow_of_cond 8 (x := ([.nil, .nil, .lit (.int .u8 0)], [], [])) (by kernel_rfl) (by kernel_rfl) (fun k hk => by cases hk) (by kernel_rfl) (laidMet_nil _ _))

set_option maxRecDepth 100000 in
theorem lifted (os : Os) (started : os.Started) (H : Type) (enc : TypeId × Value → H) (F : Stop.Interp) :
    ReturnsInHanded {} Try.checked os 10 .any ((OpenSpec.ofChange Rows.rgaTypesSpec).preRow enc Try.prog Try.f10 Rows.rgaTypesRow.domain false Rows.rgaTypesRow.laid) (((OpenSpec.ofChange Rows.rgaTypesSpec).at F).post enc Try.prog Try.f10 false true false false) := by
  refine returnsInHanded_of_row (C := Try.checked) (s := OpenSpec.ofChange Rows.rgaTypesSpec) own started (by kernel_rfl) Try.func10 (witness os enc) ?_
  intro W base args ds gs before hval hW _ _ hsz _ _ _
  exact contract H enc W base args ds gs before hval hW hsz

set_option maxRecDepth 100000 in
theorem said : Rows.RgaTypesSaid :=
  OpenClaim.holds_of_cond 10 Try.f10 rfl rfl rfl rfl rfl rfl rfl ⟨rfl, rfl, rfl, rfl, rfl⟩ rfl rfl rfl rfl rfl (by kernel_rfl) Try.func10 (by kernel_rfl)
    (of_decide_eq_true (by kernel_rfl)) (by unfold Func.isWrapper; first | (rw [if_pos (by decide +kernel)]; kernel_rfl) | (rw [if_neg (by decide +kernel)]; exact ⟨rfl, rfl⟩))
    (fun os started H enc _ F => by rw [OpenClaim.pre_eq_preRow]; exact lifted os started H enc F)
end Go.Proofs.Ytiglenomigipmaa.RgaTypes
namespace Go.Proofs.Ytiglenomigipmaa
theorem rgaTypes_holds : Rows.RgaTypesSaid := RgaTypes.said
end Go.Proofs.Ytiglenomigipmaa
