/-
  PROVED: for every slice of puts and every put that a call of stemmalaw11.RgaKeeps is handed, the call returns true and what was handed in reads afterwards as it read before: a cell that is put never turns the order of others; if it has the greatest id it stands right behind the one behind which it was put. CONDITIONS: none; no input is left out.
-/
import Derived.Test.YtiglenomigipmaaSW
import Derived.Test.YtiglenomigipmaaTB
import Derived.Test.YtiglenomigipmaaSY
namespace Go.Proofs.Ytiglenomigipmaa
open Go.RowKit Go.Shelf
attribute [local go_sem] Oper.semAt_some
def rtext (L : List RC) : List UInt8 := (stays L).map (·.ch)
theorem rtext_snoc {L : List RC} {i : Nat} {c : RC} (hc : L[i]? = some c) : rtext (L.take (i + 1)) = if c.gone then rtext (L.take i) else rtext (L.take i) ++ [c.ch] := by
  have : L.take (i + 1) = L.take i ++ [c] := by rw [List.take_add_one, hc]; rfl
  unfold rtext stays
  rw [this, List.filter_append]
  cases hg : c.gone <;> simp [hg]
theorem RowR.ccell {w : World} {base g n cap : Nat} {l : List RC} (h : RowR w base (.slice (some ⟨g, 0, none⟩) n cap) l) {i : Nat} {c : RC} (hc : l[i]? = some c) : w.cell? ⟨g, i * 68 + 66, none⟩ = some (.int .u8 (c.ch.toNat : Int)) := by
  have hok := h.1 c (List.mem_of_getElem? hc)
  obtain ⟨g', hg, _, hr⟩ := h.at hc
  cases hg
  have := hr 66 (.int .u8 (c.ch.toNat : Int)) (by unfold rcell; rw [List.getElem?_append_right (by rw [idc_len hok.id]; omega), idc_len hok.id, List.getElem?_append_right (by rw [idc_len hok.af]; omega), idc_len hok.af]; rfl)
  rwa [Nat.zero_add] at this
theorem app56 {w1 W : World} {v : Value} {bs : List UInt8} (ha : After w1 W) (h : Own W w1.heap.size v bs) (b : UInt8) (hl : bs.length ≤ 1000000) : ∃ va m vc w', (Builtin.append_ #[56, 56] 56 #[v, .slice (some ⟨W.heap.size, 0, none⟩) 1 1]).run Try.prog (W.alloc (.cells #[.int .u8 (b.toNat : Int)] 5)) = .ok (.slice va m vc) w' ∧ Own w' w1.heap.size (.slice va m vc) (bs ++ [b]) ∧ After w1 w' := by
  have ha2 : After w1 (W.alloc (.cells #[.int .u8 (b.toNat : Int)] 5)) := after_alloc ha _
  obtain ⟨va, m, vc, w5, hr5, ho5, hg5, _⟩ := run_app56 (w := W.alloc (.cells #[.int .u8 (b.toNat : Int)] 5)) (base := w1.heap.size) (b := b) 56 (own_same h (fun k hk => Below.heap_alloc W _ k (own_lt h hk).2.1)) (g := W.heap.size) (RowIs.new W 5 _) (by omega) ha2.size
  refine ⟨va, m, vc, w5, hr5, ho5, ?_⟩
  refine ⟨hg5.os.trans ha2.os, hg5.tape.trans ha2.tape, hg5.output.trans ha2.output, Nat.le_trans ha2.size hg5.size, fun k hk => ?_⟩
  refine (hg5.block k (Nat.lt_of_lt_of_le hk ha2.size) (fun e => ?_)).trans (ha2.block k hk)
  have := (own_lt h e.symm).1
  omega
set_option maxRecDepth 100000 in
set_option maxHeartbeats 3200000 in
theorem rText_any {w : World} {v : Value} {L : List RC}
    (hC : ∀ w1, After w w1 → Calls Try.prog 34 #[.agg #[v]] w1 fun e w' => ∃ v', e = .returned v' ∧ RowR w' w1.heap.size v' L ∧ After w1 w') (hl : L.length ≤ 100000) :
    Calls Try.prog 35 #[.agg #[v]] w fun e w' => e = .returned (.string (strOf (rtext L))) ∧ After w w' := by
  obtain ⟨W0, hW0⟩ : ∃ W0, w.alloc (.cells #[v] 29) = W0 := ⟨_, rfl⟩
  have HA : Hid (After w W0 ∧ RowIs W0 w.heap.size 29 [v]) := by
    rw [← hW0]
    exact ⟨after_alloc (After.refl w) _, RowIs.new w 29 [v]⟩
  have HC : Hid (Calls Try.prog 34 #[.agg #[v]] W0 fun e w' => ∃ v', e = .returned v' ∧ RowR w' W0.heap.size v' L ∧ After W0 w') := hC W0 HA.out.1
  have HL : Hid (L.length ≤ 100000) := hl
  clear hC hl
  go_enter Try.func35, Try.ntmps35
  go_wp2_with (first
    | (rw [hW0])
    | (refine wpList_load_row rfl 29 (.tmp 1) rfl w.heap.size rfl 29 #[v] (0, 0) _ HA.out.2 Try.underlying29 rfl (size29 _) ?_)
    | (go_at_call 34; refine Calls.mono HC.out ?_; clear HC; rintro e w1 ⟨v1, rfl, hr1, hw1⟩; obtain ⟨va, cap, hv1⟩ := hr1.sl; obtain ⟨n, hn⟩ : ∃ n, L.length = n := ⟨_, rfl⟩; rw [hn] at hv1; subst hv1; have H1 := show Hid (RowR w1 W0.heap.size (.slice va n cap) L ∧ After w w1 ∧ L.length = n) from ⟨hr1, HA.out.1.trans hw1, hn⟩; clear hr1 hw1 hn))
  clear hW0
  go_loopw [4, 5] (fun vo vi wr => ∃ (i : Nat) (oa : Option Addr) (q oc : Nat), vo = .slice oa q oc ∧ vi = .int .i64 (i : Int) ∧ i ≤ n ∧ Hid (Own wr w1.heap.size (.slice oa q oc) (rtext (L.take i)) ∧ After w1 wr ∧ (rtext (L.take i)).length ≤ i)) (fun _ vi _ => n - (intOf vi).toNat)
  case atStart => exact ⟨0, none, 0, 0, rfl, rfl, Nat.zero_le _, Own.nil _ _, After.refl w1, Nat.le_refl _⟩
  case round =>
    obtain ⟨i, oa, q, oc, rfl, rfl, hin, HJ⟩ := hrel
    have hb6 : n ≤ 100000 := by have := HL.out; have := H1.out.2.2; omega
    by_cases hlt : i < n
    · have hii : (i : Int) < (n : Int) := by omega
      obtain ⟨c, hc⟩ : ∃ c, L[i]? = some c := ⟨_, List.getElem?_eq_getElem (by have := H1.out.2.2; omega)⟩
      have HRW : Hid (RowR wr W0.heap.size (.slice va n cap) L) := H1.out.1.after HJ.out.2.1
      obtain ⟨gs, hva, -, -⟩ := H1.out.1.at hc
      subst hva
      have cg := (HRW.out.gcell hc).1
      have cc := HRW.out.ccell hc
      have hsn := rtext_snoc hc
      clear hc
      cases hgn : c.gone with
      | true =>
        rw [hgn] at cg hsn
        have HS : Hid (rtext (L.take (i + 1)) = rtext (L.take i)) := hsn
        clear hgn cc hsn
        go_wp2_with fail
        go_roundw
        case rel => exact ⟨i + 1, oa, q, oc, rfl, by go_num, by omega, by rw [HS.out]; exact ⟨HJ.out.1, HJ.out.2.1, by have := HJ.out.2.2; omega⟩⟩
        case measure => simp [intOf]; omega
      | false =>
        rw [hgn] at cg hsn
        have HS : Hid (rtext (L.take (i + 1)) = rtext (L.take i) ++ [c.ch]) := hsn
        clear hgn hsn
        obtain ⟨va2, m2, vc2, w5, hr5, ho5, ha5⟩ := app56 HJ.out.2.1 HJ.out.1 c.ch (by have := HJ.out.2.2; omega)
        have H5 := show Hid _ from hr5
        have H6 := show Hid (Own w5 w1.heap.size (.slice va2 m2 vc2) (rtext (L.take i) ++ [c.ch]) ∧ After w1 w5) from ⟨ho5, ha5⟩
        clear hr5 ho5 ha5
        go_wp2_with (first
          | (refine wpList_of_run rfl (x_bs56 (x := .tmp 25) (b := c.ch) rfl (by kernel_rfl)) ?_)
          | (refine wpList_of_run rfl (x_app56 (s := .tmp 20) (x := .tmp 26) (v := .slice oa q oc) (u := .slice (some ⟨wr.heap.size, 0, none⟩) 1 1) rfl (by kernel_rfl) (by kernel_rfl) H5.out) ?_))
        go_roundw
        case rel => exact ⟨i + 1, va2, m2, vc2, rfl, by go_num, by omega, by rw [HS.out]; exact ⟨H6.out.1, H6.out.2, by have := HJ.out.2.2; rw [List.length_append]; simp; omega⟩⟩
        case measure => simp [intOf]; omega
    · obtain rfl : i = n := by omega
      have hii : ¬ (i : Int) < (i : Int) := by omega
      have HF : Hid (Own wr w1.heap.size (.slice oa q oc) (rtext L)) := by
        have := HJ.out.1
        rwa [List.take_of_length_le (by have := H1.out.2.2; omega)] at this
      go_wp2_with (first
        | (refine wpList_of_run rfl (x_conv (x := .tmp 28) rfl rfl HF.out.conv) ?_))
      go_ret
      exact ⟨rfl, H1.out.2.1.trans HJ.out.2.1⟩
theorem rText_all {w : World} {base : Nat} {v : Value} {st : List Stm} {l : List RC} (h : RowR w base v l) (hA : Alike st l) (hs : st.length ≤ 1000) :
    Calls Try.prog 35 #[.agg #[v]] w fun e w' => e = .returned (.string (strOf (rtext (bl l st.length zId)))) ∧ After w w' := by
  have hlen := hA.lnk.len
  exact rText_any (fun w1 hw1 => rCells_any (h.after hw1) hA.kid.lt (hA.bound hs) (by omega) (by omega)) (hA.bound hs _ _ (by have := cnt_le l zId; omega))
/-- Both tell the same text. -/
theorem Alike.text {st : List Stm} {l : List RC} (h : Alike st l) {U : List Nat} (hU : Reach st U []) : rtext (bl l st.length zId) = textOf st U := by
  rw [bl_top h.wf h.lnk h.kid hU (Nat.le_refl _)]
  unfold rtext textOf stays
  have hin : ∀ b ∈ U, ∃ u d, st[b]? = some u ∧ l[b - 1]? = some d ∧ d.ch = u.ch ∧ d.gone = u.gone := fun b hb => by
    obtain ⟨hb0, hbl, _⟩ := (hU.inv h.wf).par b (by simpa using hb)
    obtain ⟨u, hu⟩ : ∃ u, st[b]? = some u := ⟨_, List.getElem?_eq_getElem hbl⟩
    obtain ⟨d, hd, _, h4, h5⟩ := h.lnk.cl hb0 hu
    exact ⟨u, d, hu, hd, h4, h5⟩
  rw [filter_map' (fun b => cl l (b - 1)) (fun c => !c.gone) (p := live st) (fun b hb => by
    obtain ⟨u, d, hu, hd, _, h5⟩ := hin b hb
    rw [cl_of hd, live_of hu, h5]), List.map_map]
  refine List.map_congr_left (fun b hb => ?_)
  obtain ⟨u, d, hu, hd, h4, _⟩ := hin b (List.mem_filter.1 hb).1
  show (cl l (b - 1)).ch = chAt st b
  rw [cl_of hd, chAt_of hu, h4]
/-- Both tell the same cells. -/
theorem Alike.cells {st : List Stm} {l : List RC} (h : Alike st l) {U : List Nat} (hU : Reach st U []) {i : Nat} {c : RC} (hc : (bl l st.length zId)[i]? = some c) : (U.map (cOf st))[i]? = some (ccell c.id c.ch c.gone) := by
  rw [bl_top h.wf h.lnk h.kid hU (Nat.le_refl _), List.getElem?_map] at hc
  obtain ⟨b, hb, rfl⟩ := Option.map_eq_some_iff.1 hc
  obtain ⟨hb0, hbl, _⟩ := (hU.inv h.wf).par b (by have := List.mem_of_getElem? hb; simpa using this)
  obtain ⟨u, hu⟩ : ∃ u, st[b]? = some u := ⟨_, List.getElem?_eq_getElem hbl⟩
  obtain ⟨d, hd, h3, h4, h5⟩ := h.lnk.cl hb0 hu
  rw [List.getElem?_map, hb, cl_of hd, h3, h4, h5]
  exact congrArg some (cOf_of hu)
theorem Alike.count {st : List Stm} {l : List RC} (h : Alike st l) {U : List Nat} (hU : Reach st U []) : (bl l st.length zId).length = (U.map (cOf st)).length := by
  rw [bl_top h.wf h.lnk h.kid hU (Nat.le_refl _), List.length_map, List.length_map]
end Go.Proofs.Ytiglenomigipmaa

namespace Go.Proofs.Ytiglenomigipmaa
open Go.RowKit Go.Shelf
attribute [local go_sem] Oper.semAt_some
section
variable {oi : Oper} {a : Act} {w : World}
theorem x_len9 {x : Operand} {bs : List UInt8} (hop : oi.op = .call { callee := .builtin .len, args := #[x], argTypes := #[9] }) (hx : a.eval x = .string (strOf bs)) : (execOp a.eval oi).run Try.prog w = .ok (.value (.int .i64 (bs.length : Int))) w := by
  have hl : (Builtin.len_ #[9] oi.type #[.string (strOf bs)]).run Try.prog w = .ok (.int .i64 (bs.length : Int)) w := by
    have := strOf_size bs
    simp [go_sem, Builtin.len_, this]
  unfold execOp
  simp only [hop, resolve, invoke, builtin, Sem.run_bind, Sem.run_pure, Result.andThen_ok, List.map_toArray, List.map_cons, List.map_nil, hx, hl]
theorem x_ne3 {x y : Operand} {n : Nat} (hop : oi.op = .binOp .neq 3 x y 3) (hx : a.eval x = .int .i64 (n : Int)) (hy : a.eval y = .int .i64 (n : Int)) : (execOp a.eval oi).run Try.prog w = .ok (.value (.bool false)) w := by
  unfold execOp; simp only [hop, hx, hy]
  simp [go_sem]
theorem x_ne5 {x y : Operand} {n : Int} (hop : oi.op = .binOp .neq 5 x y 5) (hx : a.eval x = .int .u8 n) (hy : a.eval y = .int .u8 n) : (execOp a.eval oi).run Try.prog w = .ok (.value (.bool false)) w := by
  unfold execOp; simp only [hop, hx, hy]
  simp [go_sem]
theorem x_idx54 {x y : Operand} {b n c k : Nat} (hop : oi.op = .indexAddr 54 x y) (hx : a.eval x = .slice (some ⟨b, 0, none⟩) n c) (hy : a.eval y = .int .i64 (k : Int)) (hk : k < n) : (execOp a.eval oi).run Try.prog w = .ok (.value (.pointer (some ⟨b, k * 35, none⟩))) w := by
  have hk' : (k : Int) < (n : Int) := by omega
  have hz0 : (Try.prog.info? 63).map (·.size) = some 35 := by kernel_rfl
  obtain ⟨i, hi, hz⟩ := Option.map_eq_some_iff.1 hz0
  unfold execOp; simp only [hop, hx, hy]; simp [go_sem, hk', hi, hz, sizeOf, typeInfo]
theorem x_st5 {x y : Operand} {g p : Nat} {z : Int} {u : Value} (hop : oi.op = .store 5 x y) (hx : a.eval x = .pointer (some ⟨g, p, none⟩)) (hy : a.eval y = .int .u8 z) (hc : w.cell? ⟨g, p, none⟩ = some u) (hf : w.frozen? ⟨g, p, none⟩ = false) : (execOp a.eval oi).run Try.prog w = .ok .skip (w.setCell ⟨g, p, none⟩ (.int .u8 z)) := by
  unfold execOp
  simp only [hop, hx, hy]
  simp [go_sem, hc, hf, Instr.storeAt, Instr.sureAddr]
end
section
variable {ops : Array Oper} {Q : Exit → Act → World → Prop} {S : World → Prop} {fuel : Nat} {listed : Array Bool} {a : Act} {w : World} {oi oj : Oper}
/-- Two are ready: a value, and a call. -/
theorem tkVC (i d : Nat) (v : Value) (w1 : World) (j e : Nat) (f : FuncId) (args : Array Value) (R : Value → World → Prop) (hr : Region.ready .any ops listed = [i, j]) (hi : ops[i]? = some oi) (hd : oi.dst = some d) (hw : Region.wanted oi (yielded ops a.tmps) = true) (hrun : (execOp a.eval oi).run Try.prog w = .ok (.value v) w1) (hj : ops[j]? = some oj) (he : oj.dst = some e) (hwj : Region.wanted oj (yielded ops a.tmps) = true) (hrunj : ∀ w, (execOp a.eval oj).run Try.prog w = .ok (.enter f args) w) (hc : Calls Try.prog f args w fun e w' => ∃ v, e = .returned v ∧ R v w')
    (hA : S w1 ∧ wpAnyH Try.prog .any ops Q S fuel (listed.setIfInBounds i true) (a.put (some d) v) w1) (hB : ∀ v w', R v w' → S w' ∧ wpAnyH Try.prog .any ops Q S fuel (listed.setIfInBounds j true) (a.put (some e) v) w') : wpAnyH Try.prog .any ops Q S (fuel + 1) listed a w :=
  wpAnyH_all hr (by simp) (fun ii hii => by
    have h2 : ii = i ∨ ii = j := by simpa using hii
    rcases h2 with rfl | rfl
    · exact opVal ii d v w1 hi hd hw hrun hA
    · exact opCallK ii e f args R hj he hwj hrunj hc hB)
end
theorem own_sl {w : World} {base : Nat} {t : TypeId} {k : Nat} {v : Value} {L : List (List Value)} (h : OwnL w base t k v L) : ∃ va c, v = .slice va L.length c := by
  rcases own_row h.2 with ⟨hv, h0, _⟩ | ⟨g, cap, cs, hv, _⟩
  · rw [h0]; exact ⟨none, 0, hv⟩
  · exact ⟨_, _, hv⟩
theorem own_cell {w : World} {base : Nat} {va : Option Addr} {n c : Nat} {L : List (List Value)} {i : Nat} {id : Idn} {ch : UInt8} {gn : Bool} (h : OwnL w base 63 35 (.slice va n c) L) (hi : L[i]? = some (ccell id ch gn)) (hok : id.Ok) : ∃ g, va = some ⟨g, 0, none⟩ ∧ i < n ∧ w.rangeAt g (i * 35) (idc id) ∧ w.cell? ⟨g, i * 35 + 33, none⟩ = some (.int .u8 (ch.toNat : Int)) ∧ w.cell? ⟨g, i * 35 + 34, none⟩ = some (.bool gn) ∧ w.frozen? ⟨g, i * 35 + 33, none⟩ = false := by
  obtain ⟨g, cap, cs, he, _, hr, _⟩ := h.row (fun e => by rw [e] at hi; simp at hi)
  cases he
  have hrg := h.range hi
  refine ⟨g, rfl, (List.getElem?_eq_some_iff.1 hi).1, fun j u hu => hrg j u (by unfold ccell; rw [List.getElem?_append_left (List.getElem?_eq_some_iff.1 hu).1]; exact hu), ?_, ?_, hr.frozen _⟩
  · exact hrg 33 _ (by unfold ccell; rw [List.getElem?_append_right (by rw [idc_len hok]; omega), idc_len hok]; rfl)
  · exact hrg 34 _ (by unfold ccell; rw [List.getElem?_append_right (by rw [idc_len hok]; omega), idc_len hok]; rfl)
set_option maxRecDepth 100000 in
set_option maxHeartbeats 12800000 in
theorem same_any {w : World} {base g : Nat} {st : List Stm} {D : RwD} {v : Value} {l : List RC} (h : RowAt w base g st D) (hr : RowR w base v l) (hA : Alike st l) (hs : st.length ≤ 1000) :
    Calls Try.prog 17 #[.pointer (some ⟨g, 0, none⟩), .agg #[v]] w fun e w' => e = .returned (.bool true) ∧ After w w' := by
  obtain ⟨W0, hW0⟩ : ∃ W0, w.alloc (.cells #[v] 29) = W0 := ⟨_, rfl⟩
  have HA : Hid (After w W0 ∧ RowIs W0 w.heap.size 29 [v] ∧ True) := by
    rw [← hW0]
    exact ⟨after_alloc (After.refl w) _, RowIs.new w 29 [v], trivial⟩
  have HR : Hid (RowAt W0 base g st D ∧ RowR W0 base v l) := ⟨h.after HA.out.1, hr.after HA.out.1⟩
  have HL : Hid (Alike st l ∧ st.length ≤ 1000) := ⟨hA, hs⟩
  have HC : Hid (∀ w1, After w w1 → Calls Try.prog 34 #[.agg #[v]] w1 fun e w' => ∃ v', e = .returned v' ∧ RowR w' w1.heap.size v' (bl l st.length zId) ∧ After w1 w') := fun w1 hw1 => rCells_any (hr.after hw1) hA.kid.lt (hA.bound hs) (by have := hA.lnk.len; omega) (by have := hA.lnk.len; omega)
  clear h hr hA hs
  go_enter Try.func17, Try.ntmps17
  go_wp2_with (rw [hW0])
  clear hW0
  refine wp_region_noPanic ?_
  refine wp_region_held_drew (S := After W0) (by kernel_rfl) (After.drew (After.refl _)) ?_
  intro hS0
  refine tk 0 8 (.pointer (some ⟨g, 0, none⟩)) (fuel := 5) rfl (by kernel_rfl) (by kernel_rfl) (by kernel_rfl) (by kernel_rfl) noPanic_false (by kernel_rfl) (fun _ _ => by kernel_rfl) hS0 ?_
  refine tk 2 10 (.agg #[v]) (fuel := 4) rfl (by kernel_rfl) (by kernel_rfl) (by kernel_rfl) (by kernel_rfl) noPanic_false (by kernel_rfl) (fun W hW => x_ld29 (x := .tmp 3) (g := w.heap.size) (by kernel_rfl) (by kernel_rfl) (HA.out.2.1.below hW HA.out.2.1.lt)) hS0 ?_
  refine tkCallZ 1 9 24 #[.pointer (some ⟨g, 0, none⟩)] (fun v w' => ∃ U, Reach st U [] ∧ OwnL w' W0.heap.size 63 35 v (U.map (cOf st)) ∧ After W0 w') (fuel := 3) rfl (by kernel_rfl) (by kernel_rfl) (by kernel_rfl) (fun _ => by kernel_rfl) (Calls.mono (Cells_any (HR.out.1.after hS0) HL.out.1.wf (by have := HL.out.2; omega)) (fun e w' ⟨v, U, he, h1, h2, h3⟩ => ⟨_, he, U, h1, h2, hS0.trans h3⟩)) ?_
  intro x1 w1 ⟨U, hU, hx1, ha1⟩
  refine ⟨ha1, ?_⟩
  obtain ⟨xa, xc, hxv⟩ := own_sl hx1
  rw [← HL.out.1.count hU] at hxv
  subst hxv
  have hC := HC.out w1 ((HA.out.1).trans ha1)
  refine tkCallZ 3 11 34 #[.agg #[v]] (fun y w' => RowR w' w1.heap.size y (bl l st.length zId) ∧ After w1 w') (fuel := 2) rfl (by kernel_rfl) (by kernel_rfl) (by kernel_rfl) (fun _ => by kernel_rfl) (Calls.mono hC (fun e w' ⟨v', he, h1, h2⟩ => ⟨_, he, h1, h2⟩)) ?_
  intro y2 w2 ⟨hy2, ha2⟩
  have ha3 := ha1.trans ha2
  refine ⟨ha3, ?_⟩
  obtain ⟨ya, yc, hyv⟩ := hy2.sl
  subst hyv
  refine tk 4 5 (.slice xa (bl l st.length zId).length xc) (fuel := 1) rfl (by kernel_rfl) (by kernel_rfl) (by kernel_rfl) (by kernel_rfl) noPanic_false (by kernel_rfl) (fun _ _ => by kernel_rfl) ha3 ?_
  refine tk 5 6 (.slice ya (bl l st.length zId).length yc) (fuel := 0) rfl (by kernel_rfl) (by kernel_rfl) (by kernel_rfl) (by kernel_rfl) noPanic_false (by kernel_rfl) (fun _ _ => by kernel_rfl) ha3 ?_
  refine wpAnyH_done (by kernel_rfl) (NoPanic.normal ?_) _
  obtain ⟨L, hL⟩ : ∃ L, bl l st.length zId = L := ⟨_, rfl⟩
  obtain ⟨n, hn⟩ : ∃ n, L.length = n := ⟨_, rfl⟩
  have HN : Hid (bl l st.length zId = L ∧ L.length = n ∧ n ≤ 100000) := ⟨hL, hn, by rw [← hn, ← hL]; exact HL.out.1.bound HL.out.2 _ _ (by have := cnt_le l zId; have := HL.out.1.lnk.len; omega)⟩
  have HU : Hid (Reach st U [] ∧ (∀ (i : Nat) (c : RC), L[i]? = some c → (U.map (cOf st))[i]? = some (ccell c.id c.ch c.gone)) ∧ (U.map (cOf st)).length = n) := ⟨hU, fun i c hc => HL.out.1.cells hU (by rw [hL]; exact hc), by rw [← HL.out.1.count hU, hL, hn]⟩
  rw [hL, hn]
  rw [hL] at hx1 hy2
  rw [hn] at hx1 hy2
  have H2 : Hid (OwnL w2 W0.heap.size 63 35 (.slice xa n xc) (U.map (cOf st)) ∧ RowR w2 W0.heap.size (.slice ya n yc) L ∧ After W0 w2) := ⟨hx1.same (fun b hb => ha2.block b (own_lt hx1.2 hb).2.1), hy2.mono ha1.size, ha3⟩
  have HB2 : Hid (RowIs w2 w.heap.size 29 [v] ∧ RowAt w2 base g st D ∧ RowR w2 base v l) := ⟨HA.out.2.1.below ha3 HA.out.2.1.lt, HR.out.1.after ha3, HR.out.2.after ha3⟩
  obtain ⟨T, hT⟩ : ∃ T, textOf st U = T := ⟨_, rfl⟩
  have HT : Hid (textOf st U = T ∧ rtext (bl l st.length zId) = T ∧ (U.filter (live st)).length = T.length) := ⟨hT, by rw [HL.out.1.text hU]; exact hT, by rw [← hT]; unfold textOf; rw [List.length_map]⟩
  clear hU hx1 ha1 hC hy2 ha2 ha3 hS0 hL hn hT
  go_simp
  go_wp2_with fail
  refine wp_region_noPanic ?_
  refine wp_region_held_drew (S := After w2) (by kernel_rfl) (After.drew (After.refl _)) ?_
  intro hS0
  refine tk 0 12 (.slice xa n xc) (fuel := 20) rfl (by kernel_rfl) (by kernel_rfl) (by kernel_rfl) (by kernel_rfl) noPanic_false (by kernel_rfl) (fun _ _ => by kernel_rfl) hS0 ?_
  refine tk 1 13 (.int .i64 (n : Int)) (fuel := 19) rfl (by kernel_rfl) (by kernel_rfl) (by kernel_rfl) (by kernel_rfl) noPanic_false (by kernel_rfl) (fun _ _ => by kernel_rfl) hS0 ?_
  refine tk 2 14 (.slice ya n yc) (fuel := 18) rfl (by kernel_rfl) (by kernel_rfl) (by kernel_rfl) (by kernel_rfl) noPanic_false (by kernel_rfl) (fun _ _ => by kernel_rfl) hS0 ?_
  refine tk 3 15 (.int .i64 (n : Int)) (fuel := 17) rfl (by kernel_rfl) (by kernel_rfl) (by kernel_rfl) (by kernel_rfl) noPanic_false (by kernel_rfl) (fun _ _ => by kernel_rfl) hS0 ?_
  refine tk 4 16 (.bool false) (fuel := 16) rfl (by kernel_rfl) (by kernel_rfl) (by kernel_rfl) (by kernel_rfl) noPanic_false (by kernel_rfl) (fun W _ => x_ne3 (x := .tmp 13) (y := .tmp 15) (n := n) (by kernel_rfl) (by kernel_rfl) (by kernel_rfl)) hS0 ?_
  refine tk 5 17 (.bool false) (fuel := 15) rfl (by kernel_rfl) (by kernel_rfl) (by kernel_rfl) (by kernel_rfl) noPanic_false (by kernel_rfl) (fun _ _ => by kernel_rfl) hS0 ?_
  refine tk 6 18 (.pointer (some ⟨g, 0, none⟩)) (fuel := 14) rfl (by kernel_rfl) (by kernel_rfl) (by kernel_rfl) (by kernel_rfl) noPanic_false (by kernel_rfl) (fun _ _ => by kernel_rfl) hS0 ?_
  refine tk 9 21 (.agg #[v]) (fuel := 13) rfl (by kernel_rfl) (by kernel_rfl) (by kernel_rfl) (by kernel_rfl) noPanic_false (by kernel_rfl) (fun W hW => x_ld29 (x := .tmp 3) (g := w.heap.size) (by kernel_rfl) (by kernel_rfl) (HB2.out.1.below hW HB2.out.1.lt)) hS0 ?_
  refine tkCallZ 7 19 25 #[.pointer (some ⟨g, 0, none⟩)] (fun v w' => Own w' w2.heap.size v T ∧ After w2 w') (fuel := 12) rfl (by kernel_rfl) (by kernel_rfl) (by kernel_rfl) (fun _ => by kernel_rfl) (Calls.mono (Text_any (N := st.length) (HB2.out.2.1.after hS0) (fun V T h => HL.out.1.wf.few h) (fun V T h => HL.out.1.wf.in h) (by have := HL.out.2; omega)) (fun e w' ⟨v, U', he, h1, h2, h3⟩ => ⟨_, he, by rw [h1.uniq HU.out.1, HT.out.1] at h2; exact h2, hS0.trans h3⟩)) ?_
  intro v7 w7 ⟨hv7, ha7⟩
  refine ⟨ha7, ?_⟩
  refine tkVC 8 20 (.string (strOf T)) w7 10 22 35 #[.agg #[v]] (fun v w' => v = .string (strOf T) ∧ After w7 w') (fuel := 11) (by kernel_rfl) rfl (by kernel_rfl) (by kernel_rfl) (x_conv (x := .tmp 19) (by kernel_rfl) (by kernel_rfl) hv7.conv) rfl (by kernel_rfl) (by kernel_rfl) (fun _ => by kernel_rfl) (Calls.mono (rText_all (HB2.out.2.2.after ha7) HL.out.1 HL.out.2) (fun e w' ⟨he, ha⟩ => ⟨_, he, by rw [HT.out.2.1], ha⟩)) ⟨ha7, ?_⟩ ?_
  · refine tkCallZ 10 22 35 #[.agg #[v]] (fun v w' => v = .string (strOf T) ∧ After w2 w') (fuel := 10) rfl (by kernel_rfl) (by kernel_rfl) (by kernel_rfl) (fun _ => by kernel_rfl) (Calls.mono (rText_all (HB2.out.2.2.after ha7) HL.out.1 HL.out.2) (fun e w' ⟨he, ha⟩ => ⟨_, he, by rw [HT.out.2.1], ha7.trans ha⟩)) ?_
    intro v4 w4 ⟨hv4, ha4⟩
    subst hv4
    refine ⟨ha4, ?_⟩
    refine tk 11 23 (.bool false) (fuel := 9) rfl (by kernel_rfl) (by kernel_rfl) (by kernel_rfl) (by kernel_rfl) noPanic_false (by kernel_rfl) (fun W _ => x_streqf (x := .tmp 20) (y := .tmp 22) (s := strOf T) (t := strOf T) (by kernel_rfl) (by kernel_rfl) (by kernel_rfl) rfl) ha4 ?_
    refine tk 12 24 (.bool false) (fuel := 8) rfl (by kernel_rfl) (by kernel_rfl) (by kernel_rfl) (by kernel_rfl) noPanic_false (by kernel_rfl) (fun _ _ => by kernel_rfl) ha4 ?_
    refine tk 13 25 (.bool false) (fuel := 7) rfl (by kernel_rfl) (by kernel_rfl) (by kernel_rfl) (by kernel_rfl) noPanic_false (by kernel_rfl) (fun _ _ => by kernel_rfl) ha4 ?_
    refine tk 14 26 (.pointer (some ⟨g, 0, none⟩)) (fuel := 6) rfl (by kernel_rfl) (by kernel_rfl) (by kernel_rfl) (by kernel_rfl) noPanic_false (by kernel_rfl) (fun _ _ => by kernel_rfl) ha4 ?_
    refine tk 16 28 (.agg #[v]) (fuel := 5) rfl (by kernel_rfl) (by kernel_rfl) (by kernel_rfl) (by kernel_rfl) noPanic_false (by kernel_rfl) (fun W hW => x_ld29 (x := .tmp 3) (g := w.heap.size) (by kernel_rfl) (by kernel_rfl) (HB2.out.1.below hW HB2.out.1.lt)) ha4 ?_
    refine tkCallZ 15 27 26 #[.pointer (some ⟨g, 0, none⟩)] (fun v w' => v = .int .i64 (T.length : Int) ∧ After w2 w') (fuel := 4) rfl (by kernel_rfl) (by kernel_rfl) (by kernel_rfl) (fun _ => by kernel_rfl) (Calls.mono (Len_any (HB2.out.2.1.after ha4) HL.out.1.wf (by have := HL.out.2; omega)) (fun e w' ⟨U', h1, he, h3⟩ => ⟨_, he, by rw [h1.uniq HU.out.1, HT.out.2.2], ha4.trans h3⟩)) ?_
    intro v8 w8 ⟨hv8, ha8⟩
    subst hv8
    refine ⟨ha8, ?_⟩
    refine tkCallZ 17 29 35 #[.agg #[v]] (fun v w' => v = .string (strOf T) ∧ After w2 w') (fuel := 3) rfl (by kernel_rfl) (by kernel_rfl) (by kernel_rfl) (fun _ => by kernel_rfl) (Calls.mono (rText_all (HB2.out.2.2.after ha8) HL.out.1 HL.out.2) (fun e w' ⟨he, ha⟩ => ⟨_, he, by rw [HT.out.2.1], ha8.trans ha⟩)) ?_
    intro v9 w9 ⟨hv9, ha9⟩
    subst hv9
    refine ⟨ha9, ?_⟩
    refine tk 18 30 (.int .i64 (T.length : Int)) (fuel := 2) rfl (by kernel_rfl) (by kernel_rfl) (by kernel_rfl) (by kernel_rfl) noPanic_false (by kernel_rfl) (fun W _ => x_len9 (x := .tmp 29) (bs := T) (by kernel_rfl) (by kernel_rfl)) ha9 ?_
    refine tk 19 31 (.bool false) (fuel := 1) rfl (by kernel_rfl) (by kernel_rfl) (by kernel_rfl) (by kernel_rfl) noPanic_false (by kernel_rfl) (fun W _ => x_ne3 (x := .tmp 27) (y := .tmp 30) (n := T.length) (by kernel_rfl) (by kernel_rfl) (by kernel_rfl)) ha9 ?_
    refine tk 20 32 (.bool false) (fuel := 0) rfl (by kernel_rfl) (by kernel_rfl) (by kernel_rfl) (by kernel_rfl) noPanic_false (by kernel_rfl) (fun _ _ => by kernel_rfl) ha9 ?_
    refine wpAnyH_done (by kernel_rfl) (NoPanic.normal ?_) _
    have H9 := show Hid (After w2 w9) from ha9
    clear ha9 ha8 ha4 hS0 hv7 ha7
    go_simp
    go_wp2_with fail
    have H3 : Hid (OwnL w9 W0.heap.size 63 35 (.slice xa n xc) (U.map (cOf st)) ∧ RowR w9 W0.heap.size (.slice ya n yc) L ∧ After W0 w9) := ⟨H2.out.1.same (fun b hb => H9.out.block b (own_lt H2.out.1.2 hb).2.1), H2.out.2.1.after H9.out, H2.out.2.2.trans H9.out⟩
    clear H9
    go_loopw [7] (fun vi wr => ∃ i : Nat, vi = .int .i64 (i : Int) ∧ i ≤ n ∧ ∃ C : List (List Value), Hid (OwnL wr W0.heap.size 63 35 (.slice xa n xc) C ∧ (∀ j, i ≤ j → C[j]? = (U.map (cOf st))[j]?) ∧ RowR wr W0.heap.size (.slice ya n yc) L ∧ After W0 wr)) (fun vi _ => n - (intOf vi).toNat)
    case atStart => exact ⟨0, rfl, Nat.zero_le _, _, H3.out.1, fun _ _ => rfl, H3.out.2.1, H3.out.2.2⟩
    case round =>
      obtain ⟨i, rfl, hin, C, HJ⟩ := hrel
      have hb6 : n ≤ 100000 := HN.out.2.2
      by_cases hlt : i < n
      · have hii : (i : Int) < (n : Int) := by omega
        obtain ⟨c, hc⟩ : ∃ c, L[i]? = some c := ⟨_, List.getElem?_eq_getElem (by rw [HN.out.2.1]; exact hlt)⟩
        have hci : C[i]? = some (ccell c.id c.ch c.gone) := (HJ.out.2.1 i (Nat.le_refl _)).trans (HU.out.2.1 i c hc)
        have hok := HJ.out.2.2.1.1 c (List.mem_of_getElem? hc)
        obtain ⟨gx, hxa, -, hx1, hx2, hx3, hx4⟩ := own_cell HJ.out.1 hci hok.id
        subst hxa
        obtain ⟨gy, hya, -, hy1⟩ := HJ.out.2.2.1.at hc
        subst hya
        rw [Nat.zero_add] at hy1
        have HX : Hid (wr.rangeAt gx (i * 35) (idc c.id) ∧ wr.cell? ⟨gx, i * 35 + 33, none⟩ = some (.int .u8 (c.ch.toNat : Int)) ∧ wr.cell? ⟨gx, i * 35 + 34, none⟩ = some (.bool c.gone)) := ⟨hx1, hx2, hx3⟩
        have HY : Hid (wr.rangeAt gy (i * 68) (idc c.id) ∧ wr.cell? ⟨gy, i * 68 + 66, none⟩ = some (.int .u8 (c.ch.toNat : Int)) ∧ wr.cell? ⟨gy, i * 68 + 67, none⟩ = some (.bool c.gone)) := ⟨range_rid hy1, HJ.out.2.2.1.ccell hc, (HJ.out.2.2.1.gcell hc).1⟩
        have HI : Hid (i < n ∧ c.id.Ok ∧ C[i]? = some (ccell c.id c.ch c.gone)) := ⟨hlt, hok.id, hci⟩
        clear hx1 hx2 hx3 hx4 hy1 hc hci hok
        go_wp2_with fail
        refine wp_region_noPanic ?_
        refine wp_region_held_drew (S := After wr) (by kernel_rfl) (After.drew (After.refl _)) ?_
        intro hS0
        refine tk 0 39 (.slice (some ⟨gx, 0, none⟩) n xc) (fuel := 37) rfl (by kernel_rfl) (by kernel_rfl) (by kernel_rfl) (by kernel_rfl) noPanic_false (by kernel_rfl) (fun _ _ => by kernel_rfl) hS0 ?_
        refine tk 1 40 (.int .i64 (i : Int)) (fuel := 36) rfl (by kernel_rfl) (by kernel_rfl) (by kernel_rfl) (by kernel_rfl) noPanic_false (by kernel_rfl) (fun _ _ => by kernel_rfl) hS0 ?_
        refine tk 2 41 (.pointer (some ⟨gx, i * 35, none⟩)) (fuel := 35) rfl (by kernel_rfl) (by kernel_rfl) (by kernel_rfl) (by kernel_rfl) noPanic_false (by kernel_rfl) (fun W _ => x_idx54 (x := .tmp 39) (y := .tmp 40) (b := gx) (n := n) (c := xc) (k := i) (by kernel_rfl) (by kernel_rfl) (by kernel_rfl) HI.out.1) hS0 ?_
        refine tk 3 42 (.pointer (some ⟨gx, i * 35, none⟩)) (fuel := 34) rfl (by kernel_rfl) (by kernel_rfl) (by kernel_rfl) (by kernel_rfl) noPanic_false (by kernel_rfl) (fun _ _ => by kernel_rfl) hS0 ?_
        refine tk 4 43 (idv c.id) (fuel := 33) rfl (by kernel_rfl) (by kernel_rfl) (by kernel_rfl) (by kernel_rfl) noPanic_false (by kernel_rfl) (fun W hW => x_ld37m (x := .tmp 42) (g := gx) (p := i * 35) HI.out.2.1 (by kernel_rfl) (by kernel_rfl) (range_after HX.out.1 hW)) hS0 ?_
        refine tk 5 44 (.slice (some ⟨gy, 0, none⟩) n yc) (fuel := 32) rfl (by kernel_rfl) (by kernel_rfl) (by kernel_rfl) (by kernel_rfl) noPanic_false (by kernel_rfl) (fun _ _ => by kernel_rfl) hS0 ?_
        refine tk 6 45 (.int .i64 (i : Int)) (fuel := 31) rfl (by kernel_rfl) (by kernel_rfl) (by kernel_rfl) (by kernel_rfl) noPanic_false (by kernel_rfl) (fun _ _ => by kernel_rfl) hS0 ?_
        refine tk 7 46 (.pointer (some ⟨gy, i * 68, none⟩)) (fuel := 30) rfl (by kernel_rfl) (by kernel_rfl) (by kernel_rfl) (by kernel_rfl) noPanic_false (by kernel_rfl) (fun W _ => (x_idx27 (x := .tmp 44) (y := .tmp 45) (b := gy) (f := 0) (n := n) (c := yc) (k := i) (by kernel_rfl) (by kernel_rfl) (by kernel_rfl) HI.out.1).trans (by rw [Nat.zero_add])) hS0 ?_
        refine tk 8 47 (.pointer (some ⟨gy, i * 68, none⟩)) (fuel := 29) rfl (by kernel_rfl) (by kernel_rfl) (by kernel_rfl) (by kernel_rfl) noPanic_false (by kernel_rfl) (fun _ _ => by kernel_rfl) hS0 ?_
        refine tk 9 48 (idv c.id) (fuel := 28) rfl (by kernel_rfl) (by kernel_rfl) (by kernel_rfl) (by kernel_rfl) noPanic_false (by kernel_rfl) (fun W hW => x_ld40m (x := .tmp 47) (g := gy) (p := i * 68) HI.out.2.1 (by kernel_rfl) (by kernel_rfl) (range_after HY.out.1 hW)) hS0 ?_
        refine tkCallZ 10 49 18 #[idv c.id] (fun v w' => v = idv c.id ∧ After wr w') (fuel := 27) rfl (by kernel_rfl) (by kernel_rfl) (by kernel_rfl) (fun _ => by kernel_rfl) (Calls.mono (own_any HI.out.2.1 _) (fun e w' ⟨he, ha⟩ => ⟨_, he, rfl, hS0.trans ha⟩)) ?_
        intro v5 w5 ⟨hv5, ha5⟩
        subst hv5
        refine ⟨ha5, ?_⟩
        refine tk 11 50 (.bool false) (fuel := 26) rfl (by kernel_rfl) (by kernel_rfl) (by kernel_rfl) (by kernel_rfl) noPanic_false (by kernel_rfl) (fun W hW => (x_neId (x := .tmp 43) (y := .tmp 49) (h := c.id) (k := c.id) HI.out.2.1 HI.out.2.1 (by kernel_rfl) (by kernel_rfl) (by kernel_rfl)).trans (by simp)) ha5 ?_
        refine tk 12 51 (.bool false) (fuel := 25) rfl (by kernel_rfl) (by kernel_rfl) (by kernel_rfl) (by kernel_rfl) noPanic_false (by kernel_rfl) (fun _ _ => by kernel_rfl) ha5 ?_
        refine tk 13 52 (.slice (some ⟨gx, 0, none⟩) n xc) (fuel := 24) rfl (by kernel_rfl) (by kernel_rfl) (by kernel_rfl) (by kernel_rfl) noPanic_false (by kernel_rfl) (fun _ _ => by kernel_rfl) ha5 ?_
        refine tk 14 53 (.int .i64 (i : Int)) (fuel := 23) rfl (by kernel_rfl) (by kernel_rfl) (by kernel_rfl) (by kernel_rfl) noPanic_false (by kernel_rfl) (fun _ _ => by kernel_rfl) ha5 ?_
        refine tk 15 54 (.pointer (some ⟨gx, i * 35, none⟩)) (fuel := 22) rfl (by kernel_rfl) (by kernel_rfl) (by kernel_rfl) (by kernel_rfl) noPanic_false (by kernel_rfl) (fun W _ => x_idx54 (x := .tmp 52) (y := .tmp 53) (b := gx) (n := n) (c := xc) (k := i) (by kernel_rfl) (by kernel_rfl) (by kernel_rfl) HI.out.1) ha5 ?_
        refine tk 16 55 (.pointer (some ⟨gx, i * 35 + 33, none⟩)) (fuel := 21) rfl (by kernel_rfl) (by kernel_rfl) (by kernel_rfl) (by kernel_rfl) noPanic_false (by kernel_rfl) (fun _ _ => by kernel_rfl) ha5 ?_
        refine tk 17 56 (.int .u8 (c.ch.toNat : Int)) (fuel := 20) rfl (by kernel_rfl) (by kernel_rfl) (by kernel_rfl) (by kernel_rfl) noPanic_false (by kernel_rfl) (fun W hW => x_loadT (x := .tmp 55) (t := 5) (g := gx) (j := i * 35 + 33) Try.underlying5 rfl (by kernel_rfl) (by kernel_rfl) ((World.cell?_of_block (hW.block gx (World.block_lt_of_cell? wr _ HX.out.2.1))).trans HX.out.2.1)) ha5 ?_
        refine tk 18 57 (.slice (some ⟨gy, 0, none⟩) n yc) (fuel := 19) rfl (by kernel_rfl) (by kernel_rfl) (by kernel_rfl) (by kernel_rfl) noPanic_false (by kernel_rfl) (fun _ _ => by kernel_rfl) ha5 ?_
        refine tk 19 58 (.int .i64 (i : Int)) (fuel := 18) rfl (by kernel_rfl) (by kernel_rfl) (by kernel_rfl) (by kernel_rfl) noPanic_false (by kernel_rfl) (fun _ _ => by kernel_rfl) ha5 ?_
        refine tk 20 59 (.pointer (some ⟨gy, i * 68, none⟩)) (fuel := 17) rfl (by kernel_rfl) (by kernel_rfl) (by kernel_rfl) (by kernel_rfl) noPanic_false (by kernel_rfl) (fun W _ => (x_idx27 (x := .tmp 57) (y := .tmp 58) (b := gy) (f := 0) (n := n) (c := yc) (k := i) (by kernel_rfl) (by kernel_rfl) (by kernel_rfl) HI.out.1).trans (by rw [Nat.zero_add])) ha5 ?_
        refine tk 21 60 (.pointer (some ⟨gy, i * 68 + 66, none⟩)) (fuel := 16) rfl (by kernel_rfl) (by kernel_rfl) (by kernel_rfl) (by kernel_rfl) noPanic_false (by kernel_rfl) (fun _ _ => by kernel_rfl) ha5 ?_
        refine tk 22 61 (.int .u8 (c.ch.toNat : Int)) (fuel := 15) rfl (by kernel_rfl) (by kernel_rfl) (by kernel_rfl) (by kernel_rfl) noPanic_false (by kernel_rfl) (fun W hW => x_loadT (x := .tmp 60) (t := 5) (g := gy) (j := i * 68 + 66) Try.underlying5 rfl (by kernel_rfl) (by kernel_rfl) ((World.cell?_of_block (hW.block gy (World.block_lt_of_cell? wr _ HY.out.2.1))).trans HY.out.2.1)) ha5 ?_
        refine tk 23 62 (.bool false) (fuel := 14) rfl (by kernel_rfl) (by kernel_rfl) (by kernel_rfl) (by kernel_rfl) noPanic_false (by kernel_rfl) (fun W _ => x_ne5 (x := .tmp 56) (y := .tmp 61) (n := (c.ch.toNat : Int)) (by kernel_rfl) (by kernel_rfl) (by kernel_rfl)) ha5 ?_
        refine tk 24 63 (.bool false) (fuel := 13) rfl (by kernel_rfl) (by kernel_rfl) (by kernel_rfl) (by kernel_rfl) noPanic_false (by kernel_rfl) (fun _ _ => by kernel_rfl) ha5 ?_
        refine tk 25 64 (.bool false) (fuel := 12) rfl (by kernel_rfl) (by kernel_rfl) (by kernel_rfl) (by kernel_rfl) noPanic_false (by kernel_rfl) (fun _ _ => by kernel_rfl) ha5 ?_
        refine tk 26 65 (.slice (some ⟨gx, 0, none⟩) n xc) (fuel := 11) rfl (by kernel_rfl) (by kernel_rfl) (by kernel_rfl) (by kernel_rfl) noPanic_false (by kernel_rfl) (fun _ _ => by kernel_rfl) ha5 ?_
        refine tk 27 66 (.int .i64 (i : Int)) (fuel := 10) rfl (by kernel_rfl) (by kernel_rfl) (by kernel_rfl) (by kernel_rfl) noPanic_false (by kernel_rfl) (fun _ _ => by kernel_rfl) ha5 ?_
        refine tk 28 67 (.pointer (some ⟨gx, i * 35, none⟩)) (fuel := 9) rfl (by kernel_rfl) (by kernel_rfl) (by kernel_rfl) (by kernel_rfl) noPanic_false (by kernel_rfl) (fun W _ => x_idx54 (x := .tmp 65) (y := .tmp 66) (b := gx) (n := n) (c := xc) (k := i) (by kernel_rfl) (by kernel_rfl) (by kernel_rfl) HI.out.1) ha5 ?_
        refine tk 29 68 (.pointer (some ⟨gx, i * 35 + 34, none⟩)) (fuel := 8) rfl (by kernel_rfl) (by kernel_rfl) (by kernel_rfl) (by kernel_rfl) noPanic_false (by kernel_rfl) (fun _ _ => by kernel_rfl) ha5 ?_
        refine tk 30 69 (.bool c.gone) (fuel := 7) rfl (by kernel_rfl) (by kernel_rfl) (by kernel_rfl) (by kernel_rfl) noPanic_false (by kernel_rfl) (fun W hW => x_loadT (x := .tmp 68) (t := 4) (g := gx) (j := i * 35 + 34) Try.underlying4 rfl (by kernel_rfl) (by kernel_rfl) ((World.cell?_of_block (hW.block gx (World.block_lt_of_cell? wr _ HX.out.2.2))).trans HX.out.2.2)) ha5 ?_
        refine tk 31 70 (.slice (some ⟨gy, 0, none⟩) n yc) (fuel := 6) rfl (by kernel_rfl) (by kernel_rfl) (by kernel_rfl) (by kernel_rfl) noPanic_false (by kernel_rfl) (fun _ _ => by kernel_rfl) ha5 ?_
        refine tk 32 71 (.int .i64 (i : Int)) (fuel := 5) rfl (by kernel_rfl) (by kernel_rfl) (by kernel_rfl) (by kernel_rfl) noPanic_false (by kernel_rfl) (fun _ _ => by kernel_rfl) ha5 ?_
        refine tk 33 72 (.pointer (some ⟨gy, i * 68, none⟩)) (fuel := 4) rfl (by kernel_rfl) (by kernel_rfl) (by kernel_rfl) (by kernel_rfl) noPanic_false (by kernel_rfl) (fun W _ => (x_idx27 (x := .tmp 70) (y := .tmp 71) (b := gy) (f := 0) (n := n) (c := yc) (k := i) (by kernel_rfl) (by kernel_rfl) (by kernel_rfl) HI.out.1).trans (by rw [Nat.zero_add])) ha5 ?_
        refine tk 34 73 (.pointer (some ⟨gy, i * 68 + 67, none⟩)) (fuel := 3) rfl (by kernel_rfl) (by kernel_rfl) (by kernel_rfl) (by kernel_rfl) noPanic_false (by kernel_rfl) (fun _ _ => by kernel_rfl) ha5 ?_
        refine tk 35 74 (.bool c.gone) (fuel := 2) rfl (by kernel_rfl) (by kernel_rfl) (by kernel_rfl) (by kernel_rfl) noPanic_false (by kernel_rfl) (fun W hW => x_loadT (x := .tmp 73) (t := 4) (g := gy) (j := i * 68 + 67) Try.underlying4 rfl (by kernel_rfl) (by kernel_rfl) ((World.cell?_of_block (hW.block gy (World.block_lt_of_cell? wr _ HY.out.2.2))).trans HY.out.2.2)) ha5 ?_
        refine tk 36 75 (.bool false) (fuel := 1) rfl (by kernel_rfl) (by kernel_rfl) (by kernel_rfl) (by kernel_rfl) noPanic_false (by kernel_rfl) (fun W _ => x_neb (x := .tmp 69) (y := .tmp 74) (b := c.gone) (by kernel_rfl) (by kernel_rfl) (by kernel_rfl)) ha5 ?_
        refine tk 37 76 (.bool false) (fuel := 0) rfl (by kernel_rfl) (by kernel_rfl) (by kernel_rfl) (by kernel_rfl) noPanic_false (by kernel_rfl) (fun _ _ => by kernel_rfl) ha5 ?_
        refine wpAnyH_done (by kernel_rfl) (NoPanic.normal ?_) _
        have hxr := HJ.out.1.same (w' := w5) (fun b hb => ha5.block b (own_lt HJ.out.1.2 hb).2.1)
        obtain ⟨gx', hgx', -, -, cx, -, fx⟩ := own_cell hxr HI.out.2.2 HI.out.2.1
        cases hgx'
        have HS5 : Hid (∀ u, OwnL (w5.setCell ⟨gx, i * 35 + 33, none⟩ u) W0.heap.size 63 35 (.slice (some ⟨gx, 0, none⟩) n xc) (C.set i ((ccell c.id c.ch c.gone).set 33 u)) ∧ RowR (w5.setCell ⟨gx, i * 35 + 33, none⟩ u) W0.heap.size (.slice (some ⟨gy, 0, none⟩) n yc) L ∧ After W0 (w5.setCell ⟨gx, i * 35 + 33, none⟩ u)) := fun u => by
          have hyr := HJ.out.2.2.1.after ha5
          obtain ⟨hbx, hltx, csx, hrx⟩ := own_lt hxr.2 (b := gx) rfl
          refine ⟨hxr.set HI.out.2.2 (by omega) u, hyr.same (fun b hb => ?_), Below.setCell (HJ.out.2.2.2.trans ha5) (p := ⟨gx, i * 35 + 33, none⟩) hbx _⟩
          obtain ⟨_, _, csy, hry⟩ := own_lt hyr.2.2 hb
          exact Below.heap_setCell w5 ⟨gx, i * 35 + 33, none⟩ _ _ (fun e => by rw [e] at hry; exact absurd (hry.ty hrx).1 (by decide))
        have HCX := show Hid (w5.cell? ⟨gx, i * 35 + 33, none⟩ = some (.int .u8 (c.ch.toNat : Int)) ∧ w5.frozen? ⟨gx, i * 35 + 33, none⟩ = false) from ⟨cx, fx⟩
        clear hxr ha5 hS0 fx
        go_simp
        go_wp2_with (first
          | (refine wpList_of_run rfl (x_idx54 (x := .tmp 77) (y := .tmp 78) (b := gx) (n := n) (c := xc) (k := i) rfl (by kernel_rfl) (by kernel_rfl) HI.out.1) ?_)
          | (refine wpList_st rfl (x_st5 (x := .tmp 84) (y := .tmp 82) (g := gx) (p := i * 35 + 33) rfl (by kernel_rfl) rfl HCX.out.1 HCX.out.2) ?_))
        go_roundw
        case rel => exact ⟨i + 1, by go_num, by omega, _, (HS5.out _).1, fun j hj => (by rw [List.getElem?_set, if_neg (by omega)]; exact HJ.out.2.1 j (by omega)), (HS5.out _).2.1, (HS5.out _).2.2⟩
        case measure => simp [intOf]; omega
      · obtain rfl : i = n := by omega
        have hii : ¬ (i : Int) < (i : Int) := by omega
        go_wp2_with fail
        go_ret
        exact ⟨rfl, HA.out.1.trans HJ.out.2.2.2⟩
  · intro v4 w4 ⟨hv4, ha47⟩
    subst hv4
    have ha4 := ha7.trans ha47
    refine ⟨ha4, ?_⟩
    refine tkRunS 8 20 (.string (strOf T)) w4 (fuel := 10) rfl (by kernel_rfl) (by kernel_rfl) (by kernel_rfl) (x_conv (x := .tmp 19) (by kernel_rfl) (by kernel_rfl) (hv7.convA ha47)) ha4 ?_
    refine tk 11 23 (.bool false) (fuel := 9) rfl (by kernel_rfl) (by kernel_rfl) (by kernel_rfl) (by kernel_rfl) noPanic_false (by kernel_rfl) (fun W _ => x_streqf (x := .tmp 20) (y := .tmp 22) (s := strOf T) (t := strOf T) (by kernel_rfl) (by kernel_rfl) (by kernel_rfl) rfl) ha4 ?_
    refine tk 12 24 (.bool false) (fuel := 8) rfl (by kernel_rfl) (by kernel_rfl) (by kernel_rfl) (by kernel_rfl) noPanic_false (by kernel_rfl) (fun _ _ => by kernel_rfl) ha4 ?_
    refine tk 13 25 (.bool false) (fuel := 7) rfl (by kernel_rfl) (by kernel_rfl) (by kernel_rfl) (by kernel_rfl) noPanic_false (by kernel_rfl) (fun _ _ => by kernel_rfl) ha4 ?_
    refine tk 14 26 (.pointer (some ⟨g, 0, none⟩)) (fuel := 6) rfl (by kernel_rfl) (by kernel_rfl) (by kernel_rfl) (by kernel_rfl) noPanic_false (by kernel_rfl) (fun _ _ => by kernel_rfl) ha4 ?_
    refine tk 16 28 (.agg #[v]) (fuel := 5) rfl (by kernel_rfl) (by kernel_rfl) (by kernel_rfl) (by kernel_rfl) noPanic_false (by kernel_rfl) (fun W hW => x_ld29 (x := .tmp 3) (g := w.heap.size) (by kernel_rfl) (by kernel_rfl) (HB2.out.1.below hW HB2.out.1.lt)) ha4 ?_
    refine tkCallZ 15 27 26 #[.pointer (some ⟨g, 0, none⟩)] (fun v w' => v = .int .i64 (T.length : Int) ∧ After w2 w') (fuel := 4) rfl (by kernel_rfl) (by kernel_rfl) (by kernel_rfl) (fun _ => by kernel_rfl) (Calls.mono (Len_any (HB2.out.2.1.after ha4) HL.out.1.wf (by have := HL.out.2; omega)) (fun e w' ⟨U', h1, he, h3⟩ => ⟨_, he, by rw [h1.uniq HU.out.1, HT.out.2.2], ha4.trans h3⟩)) ?_
    intro v8 w8 ⟨hv8, ha8⟩
    subst hv8
    refine ⟨ha8, ?_⟩
    refine tkCallZ 17 29 35 #[.agg #[v]] (fun v w' => v = .string (strOf T) ∧ After w2 w') (fuel := 3) rfl (by kernel_rfl) (by kernel_rfl) (by kernel_rfl) (fun _ => by kernel_rfl) (Calls.mono (rText_all (HB2.out.2.2.after ha8) HL.out.1 HL.out.2) (fun e w' ⟨he, ha⟩ => ⟨_, he, by rw [HT.out.2.1], ha8.trans ha⟩)) ?_
    intro v9 w9 ⟨hv9, ha9⟩
    subst hv9
    refine ⟨ha9, ?_⟩
    refine tk 18 30 (.int .i64 (T.length : Int)) (fuel := 2) rfl (by kernel_rfl) (by kernel_rfl) (by kernel_rfl) (by kernel_rfl) noPanic_false (by kernel_rfl) (fun W _ => x_len9 (x := .tmp 29) (bs := T) (by kernel_rfl) (by kernel_rfl)) ha9 ?_
    refine tk 19 31 (.bool false) (fuel := 1) rfl (by kernel_rfl) (by kernel_rfl) (by kernel_rfl) (by kernel_rfl) noPanic_false (by kernel_rfl) (fun W _ => x_ne3 (x := .tmp 27) (y := .tmp 30) (n := T.length) (by kernel_rfl) (by kernel_rfl) (by kernel_rfl)) ha9 ?_
    refine tk 20 32 (.bool false) (fuel := 0) rfl (by kernel_rfl) (by kernel_rfl) (by kernel_rfl) (by kernel_rfl) noPanic_false (by kernel_rfl) (fun _ _ => by kernel_rfl) ha9 ?_
    refine wpAnyH_done (by kernel_rfl) (NoPanic.normal ?_) _
    have H9 := show Hid (After w2 w9) from ha9
    clear ha9 ha8 ha4 hS0 hv7 ha7 ha47
    go_simp
    go_wp2_with fail
    have H3 : Hid (OwnL w9 W0.heap.size 63 35 (.slice xa n xc) (U.map (cOf st)) ∧ RowR w9 W0.heap.size (.slice ya n yc) L ∧ After W0 w9) := ⟨H2.out.1.same (fun b hb => H9.out.block b (own_lt H2.out.1.2 hb).2.1), H2.out.2.1.after H9.out, H2.out.2.2.trans H9.out⟩
    clear H9
    go_loopw [7] (fun vi wr => ∃ i : Nat, vi = .int .i64 (i : Int) ∧ i ≤ n ∧ ∃ C : List (List Value), Hid (OwnL wr W0.heap.size 63 35 (.slice xa n xc) C ∧ (∀ j, i ≤ j → C[j]? = (U.map (cOf st))[j]?) ∧ RowR wr W0.heap.size (.slice ya n yc) L ∧ After W0 wr)) (fun vi _ => n - (intOf vi).toNat)
    case atStart => exact ⟨0, rfl, Nat.zero_le _, _, H3.out.1, fun _ _ => rfl, H3.out.2.1, H3.out.2.2⟩
    case round =>
      obtain ⟨i, rfl, hin, C, HJ⟩ := hrel
      have hb6 : n ≤ 100000 := HN.out.2.2
      by_cases hlt : i < n
      · have hii : (i : Int) < (n : Int) := by omega
        obtain ⟨c, hc⟩ : ∃ c, L[i]? = some c := ⟨_, List.getElem?_eq_getElem (by rw [HN.out.2.1]; exact hlt)⟩
        have hci : C[i]? = some (ccell c.id c.ch c.gone) := (HJ.out.2.1 i (Nat.le_refl _)).trans (HU.out.2.1 i c hc)
        have hok := HJ.out.2.2.1.1 c (List.mem_of_getElem? hc)
        obtain ⟨gx, hxa, -, hx1, hx2, hx3, hx4⟩ := own_cell HJ.out.1 hci hok.id
        subst hxa
        obtain ⟨gy, hya, -, hy1⟩ := HJ.out.2.2.1.at hc
        subst hya
        rw [Nat.zero_add] at hy1
        have HX : Hid (wr.rangeAt gx (i * 35) (idc c.id) ∧ wr.cell? ⟨gx, i * 35 + 33, none⟩ = some (.int .u8 (c.ch.toNat : Int)) ∧ wr.cell? ⟨gx, i * 35 + 34, none⟩ = some (.bool c.gone)) := ⟨hx1, hx2, hx3⟩
        have HY : Hid (wr.rangeAt gy (i * 68) (idc c.id) ∧ wr.cell? ⟨gy, i * 68 + 66, none⟩ = some (.int .u8 (c.ch.toNat : Int)) ∧ wr.cell? ⟨gy, i * 68 + 67, none⟩ = some (.bool c.gone)) := ⟨range_rid hy1, HJ.out.2.2.1.ccell hc, (HJ.out.2.2.1.gcell hc).1⟩
        have HI : Hid (i < n ∧ c.id.Ok ∧ C[i]? = some (ccell c.id c.ch c.gone)) := ⟨hlt, hok.id, hci⟩
        clear hx1 hx2 hx3 hx4 hy1 hc hci hok
        go_wp2_with fail
        refine wp_region_noPanic ?_
        refine wp_region_held_drew (S := After wr) (by kernel_rfl) (After.drew (After.refl _)) ?_
        intro hS0
        refine tk 0 39 (.slice (some ⟨gx, 0, none⟩) n xc) (fuel := 37) rfl (by kernel_rfl) (by kernel_rfl) (by kernel_rfl) (by kernel_rfl) noPanic_false (by kernel_rfl) (fun _ _ => by kernel_rfl) hS0 ?_
        refine tk 1 40 (.int .i64 (i : Int)) (fuel := 36) rfl (by kernel_rfl) (by kernel_rfl) (by kernel_rfl) (by kernel_rfl) noPanic_false (by kernel_rfl) (fun _ _ => by kernel_rfl) hS0 ?_
        refine tk 2 41 (.pointer (some ⟨gx, i * 35, none⟩)) (fuel := 35) rfl (by kernel_rfl) (by kernel_rfl) (by kernel_rfl) (by kernel_rfl) noPanic_false (by kernel_rfl) (fun W _ => x_idx54 (x := .tmp 39) (y := .tmp 40) (b := gx) (n := n) (c := xc) (k := i) (by kernel_rfl) (by kernel_rfl) (by kernel_rfl) HI.out.1) hS0 ?_
        refine tk 3 42 (.pointer (some ⟨gx, i * 35, none⟩)) (fuel := 34) rfl (by kernel_rfl) (by kernel_rfl) (by kernel_rfl) (by kernel_rfl) noPanic_false (by kernel_rfl) (fun _ _ => by kernel_rfl) hS0 ?_
        refine tk 4 43 (idv c.id) (fuel := 33) rfl (by kernel_rfl) (by kernel_rfl) (by kernel_rfl) (by kernel_rfl) noPanic_false (by kernel_rfl) (fun W hW => x_ld37m (x := .tmp 42) (g := gx) (p := i * 35) HI.out.2.1 (by kernel_rfl) (by kernel_rfl) (range_after HX.out.1 hW)) hS0 ?_
        refine tk 5 44 (.slice (some ⟨gy, 0, none⟩) n yc) (fuel := 32) rfl (by kernel_rfl) (by kernel_rfl) (by kernel_rfl) (by kernel_rfl) noPanic_false (by kernel_rfl) (fun _ _ => by kernel_rfl) hS0 ?_
        refine tk 6 45 (.int .i64 (i : Int)) (fuel := 31) rfl (by kernel_rfl) (by kernel_rfl) (by kernel_rfl) (by kernel_rfl) noPanic_false (by kernel_rfl) (fun _ _ => by kernel_rfl) hS0 ?_
        refine tk 7 46 (.pointer (some ⟨gy, i * 68, none⟩)) (fuel := 30) rfl (by kernel_rfl) (by kernel_rfl) (by kernel_rfl) (by kernel_rfl) noPanic_false (by kernel_rfl) (fun W _ => (x_idx27 (x := .tmp 44) (y := .tmp 45) (b := gy) (f := 0) (n := n) (c := yc) (k := i) (by kernel_rfl) (by kernel_rfl) (by kernel_rfl) HI.out.1).trans (by rw [Nat.zero_add])) hS0 ?_
        refine tk 8 47 (.pointer (some ⟨gy, i * 68, none⟩)) (fuel := 29) rfl (by kernel_rfl) (by kernel_rfl) (by kernel_rfl) (by kernel_rfl) noPanic_false (by kernel_rfl) (fun _ _ => by kernel_rfl) hS0 ?_
        refine tk 9 48 (idv c.id) (fuel := 28) rfl (by kernel_rfl) (by kernel_rfl) (by kernel_rfl) (by kernel_rfl) noPanic_false (by kernel_rfl) (fun W hW => x_ld40m (x := .tmp 47) (g := gy) (p := i * 68) HI.out.2.1 (by kernel_rfl) (by kernel_rfl) (range_after HY.out.1 hW)) hS0 ?_
        refine tkCallZ 10 49 18 #[idv c.id] (fun v w' => v = idv c.id ∧ After wr w') (fuel := 27) rfl (by kernel_rfl) (by kernel_rfl) (by kernel_rfl) (fun _ => by kernel_rfl) (Calls.mono (own_any HI.out.2.1 _) (fun e w' ⟨he, ha⟩ => ⟨_, he, rfl, hS0.trans ha⟩)) ?_
        intro v5 w5 ⟨hv5, ha5⟩
        subst hv5
        refine ⟨ha5, ?_⟩
        refine tk 11 50 (.bool false) (fuel := 26) rfl (by kernel_rfl) (by kernel_rfl) (by kernel_rfl) (by kernel_rfl) noPanic_false (by kernel_rfl) (fun W hW => (x_neId (x := .tmp 43) (y := .tmp 49) (h := c.id) (k := c.id) HI.out.2.1 HI.out.2.1 (by kernel_rfl) (by kernel_rfl) (by kernel_rfl)).trans (by simp)) ha5 ?_
        refine tk 12 51 (.bool false) (fuel := 25) rfl (by kernel_rfl) (by kernel_rfl) (by kernel_rfl) (by kernel_rfl) noPanic_false (by kernel_rfl) (fun _ _ => by kernel_rfl) ha5 ?_
        refine tk 13 52 (.slice (some ⟨gx, 0, none⟩) n xc) (fuel := 24) rfl (by kernel_rfl) (by kernel_rfl) (by kernel_rfl) (by kernel_rfl) noPanic_false (by kernel_rfl) (fun _ _ => by kernel_rfl) ha5 ?_
        refine tk 14 53 (.int .i64 (i : Int)) (fuel := 23) rfl (by kernel_rfl) (by kernel_rfl) (by kernel_rfl) (by kernel_rfl) noPanic_false (by kernel_rfl) (fun _ _ => by kernel_rfl) ha5 ?_
        refine tk 15 54 (.pointer (some ⟨gx, i * 35, none⟩)) (fuel := 22) rfl (by kernel_rfl) (by kernel_rfl) (by kernel_rfl) (by kernel_rfl) noPanic_false (by kernel_rfl) (fun W _ => x_idx54 (x := .tmp 52) (y := .tmp 53) (b := gx) (n := n) (c := xc) (k := i) (by kernel_rfl) (by kernel_rfl) (by kernel_rfl) HI.out.1) ha5 ?_
        refine tk 16 55 (.pointer (some ⟨gx, i * 35 + 33, none⟩)) (fuel := 21) rfl (by kernel_rfl) (by kernel_rfl) (by kernel_rfl) (by kernel_rfl) noPanic_false (by kernel_rfl) (fun _ _ => by kernel_rfl) ha5 ?_
        refine tk 17 56 (.int .u8 (c.ch.toNat : Int)) (fuel := 20) rfl (by kernel_rfl) (by kernel_rfl) (by kernel_rfl) (by kernel_rfl) noPanic_false (by kernel_rfl) (fun W hW => x_loadT (x := .tmp 55) (t := 5) (g := gx) (j := i * 35 + 33) Try.underlying5 rfl (by kernel_rfl) (by kernel_rfl) ((World.cell?_of_block (hW.block gx (World.block_lt_of_cell? wr _ HX.out.2.1))).trans HX.out.2.1)) ha5 ?_
        refine tk 18 57 (.slice (some ⟨gy, 0, none⟩) n yc) (fuel := 19) rfl (by kernel_rfl) (by kernel_rfl) (by kernel_rfl) (by kernel_rfl) noPanic_false (by kernel_rfl) (fun _ _ => by kernel_rfl) ha5 ?_
        refine tk 19 58 (.int .i64 (i : Int)) (fuel := 18) rfl (by kernel_rfl) (by kernel_rfl) (by kernel_rfl) (by kernel_rfl) noPanic_false (by kernel_rfl) (fun _ _ => by kernel_rfl) ha5 ?_
        refine tk 20 59 (.pointer (some ⟨gy, i * 68, none⟩)) (fuel := 17) rfl (by kernel_rfl) (by kernel_rfl) (by kernel_rfl) (by kernel_rfl) noPanic_false (by kernel_rfl) (fun W _ => (x_idx27 (x := .tmp 57) (y := .tmp 58) (b := gy) (f := 0) (n := n) (c := yc) (k := i) (by kernel_rfl) (by kernel_rfl) (by kernel_rfl) HI.out.1).trans (by rw [Nat.zero_add])) ha5 ?_
        refine tk 21 60 (.pointer (some ⟨gy, i * 68 + 66, none⟩)) (fuel := 16) rfl (by kernel_rfl) (by kernel_rfl) (by kernel_rfl) (by kernel_rfl) noPanic_false (by kernel_rfl) (fun _ _ => by kernel_rfl) ha5 ?_
        refine tk 22 61 (.int .u8 (c.ch.toNat : Int)) (fuel := 15) rfl (by kernel_rfl) (by kernel_rfl) (by kernel_rfl) (by kernel_rfl) noPanic_false (by kernel_rfl) (fun W hW => x_loadT (x := .tmp 60) (t := 5) (g := gy) (j := i * 68 + 66) Try.underlying5 rfl (by kernel_rfl) (by kernel_rfl) ((World.cell?_of_block (hW.block gy (World.block_lt_of_cell? wr _ HY.out.2.1))).trans HY.out.2.1)) ha5 ?_
        refine tk 23 62 (.bool false) (fuel := 14) rfl (by kernel_rfl) (by kernel_rfl) (by kernel_rfl) (by kernel_rfl) noPanic_false (by kernel_rfl) (fun W _ => x_ne5 (x := .tmp 56) (y := .tmp 61) (n := (c.ch.toNat : Int)) (by kernel_rfl) (by kernel_rfl) (by kernel_rfl)) ha5 ?_
        refine tk 24 63 (.bool false) (fuel := 13) rfl (by kernel_rfl) (by kernel_rfl) (by kernel_rfl) (by kernel_rfl) noPanic_false (by kernel_rfl) (fun _ _ => by kernel_rfl) ha5 ?_
        refine tk 25 64 (.bool false) (fuel := 12) rfl (by kernel_rfl) (by kernel_rfl) (by kernel_rfl) (by kernel_rfl) noPanic_false (by kernel_rfl) (fun _ _ => by kernel_rfl) ha5 ?_
        refine tk 26 65 (.slice (some ⟨gx, 0, none⟩) n xc) (fuel := 11) rfl (by kernel_rfl) (by kernel_rfl) (by kernel_rfl) (by kernel_rfl) noPanic_false (by kernel_rfl) (fun _ _ => by kernel_rfl) ha5 ?_
        refine tk 27 66 (.int .i64 (i : Int)) (fuel := 10) rfl (by kernel_rfl) (by kernel_rfl) (by kernel_rfl) (by kernel_rfl) noPanic_false (by kernel_rfl) (fun _ _ => by kernel_rfl) ha5 ?_
        refine tk 28 67 (.pointer (some ⟨gx, i * 35, none⟩)) (fuel := 9) rfl (by kernel_rfl) (by kernel_rfl) (by kernel_rfl) (by kernel_rfl) noPanic_false (by kernel_rfl) (fun W _ => x_idx54 (x := .tmp 65) (y := .tmp 66) (b := gx) (n := n) (c := xc) (k := i) (by kernel_rfl) (by kernel_rfl) (by kernel_rfl) HI.out.1) ha5 ?_
        refine tk 29 68 (.pointer (some ⟨gx, i * 35 + 34, none⟩)) (fuel := 8) rfl (by kernel_rfl) (by kernel_rfl) (by kernel_rfl) (by kernel_rfl) noPanic_false (by kernel_rfl) (fun _ _ => by kernel_rfl) ha5 ?_
        refine tk 30 69 (.bool c.gone) (fuel := 7) rfl (by kernel_rfl) (by kernel_rfl) (by kernel_rfl) (by kernel_rfl) noPanic_false (by kernel_rfl) (fun W hW => x_loadT (x := .tmp 68) (t := 4) (g := gx) (j := i * 35 + 34) Try.underlying4 rfl (by kernel_rfl) (by kernel_rfl) ((World.cell?_of_block (hW.block gx (World.block_lt_of_cell? wr _ HX.out.2.2))).trans HX.out.2.2)) ha5 ?_
        refine tk 31 70 (.slice (some ⟨gy, 0, none⟩) n yc) (fuel := 6) rfl (by kernel_rfl) (by kernel_rfl) (by kernel_rfl) (by kernel_rfl) noPanic_false (by kernel_rfl) (fun _ _ => by kernel_rfl) ha5 ?_
        refine tk 32 71 (.int .i64 (i : Int)) (fuel := 5) rfl (by kernel_rfl) (by kernel_rfl) (by kernel_rfl) (by kernel_rfl) noPanic_false (by kernel_rfl) (fun _ _ => by kernel_rfl) ha5 ?_
        refine tk 33 72 (.pointer (some ⟨gy, i * 68, none⟩)) (fuel := 4) rfl (by kernel_rfl) (by kernel_rfl) (by kernel_rfl) (by kernel_rfl) noPanic_false (by kernel_rfl) (fun W _ => (x_idx27 (x := .tmp 70) (y := .tmp 71) (b := gy) (f := 0) (n := n) (c := yc) (k := i) (by kernel_rfl) (by kernel_rfl) (by kernel_rfl) HI.out.1).trans (by rw [Nat.zero_add])) ha5 ?_
        refine tk 34 73 (.pointer (some ⟨gy, i * 68 + 67, none⟩)) (fuel := 3) rfl (by kernel_rfl) (by kernel_rfl) (by kernel_rfl) (by kernel_rfl) noPanic_false (by kernel_rfl) (fun _ _ => by kernel_rfl) ha5 ?_
        refine tk 35 74 (.bool c.gone) (fuel := 2) rfl (by kernel_rfl) (by kernel_rfl) (by kernel_rfl) (by kernel_rfl) noPanic_false (by kernel_rfl) (fun W hW => x_loadT (x := .tmp 73) (t := 4) (g := gy) (j := i * 68 + 67) Try.underlying4 rfl (by kernel_rfl) (by kernel_rfl) ((World.cell?_of_block (hW.block gy (World.block_lt_of_cell? wr _ HY.out.2.2))).trans HY.out.2.2)) ha5 ?_
        refine tk 36 75 (.bool false) (fuel := 1) rfl (by kernel_rfl) (by kernel_rfl) (by kernel_rfl) (by kernel_rfl) noPanic_false (by kernel_rfl) (fun W _ => x_neb (x := .tmp 69) (y := .tmp 74) (b := c.gone) (by kernel_rfl) (by kernel_rfl) (by kernel_rfl)) ha5 ?_
        refine tk 37 76 (.bool false) (fuel := 0) rfl (by kernel_rfl) (by kernel_rfl) (by kernel_rfl) (by kernel_rfl) noPanic_false (by kernel_rfl) (fun _ _ => by kernel_rfl) ha5 ?_
        refine wpAnyH_done (by kernel_rfl) (NoPanic.normal ?_) _
        have hxr := HJ.out.1.same (w' := w5) (fun b hb => ha5.block b (own_lt HJ.out.1.2 hb).2.1)
        obtain ⟨gx', hgx', -, -, cx, -, fx⟩ := own_cell hxr HI.out.2.2 HI.out.2.1
        cases hgx'
        have HS5 : Hid (∀ u, OwnL (w5.setCell ⟨gx, i * 35 + 33, none⟩ u) W0.heap.size 63 35 (.slice (some ⟨gx, 0, none⟩) n xc) (C.set i ((ccell c.id c.ch c.gone).set 33 u)) ∧ RowR (w5.setCell ⟨gx, i * 35 + 33, none⟩ u) W0.heap.size (.slice (some ⟨gy, 0, none⟩) n yc) L ∧ After W0 (w5.setCell ⟨gx, i * 35 + 33, none⟩ u)) := fun u => by
          have hyr := HJ.out.2.2.1.after ha5
          obtain ⟨hbx, hltx, csx, hrx⟩ := own_lt hxr.2 (b := gx) rfl
          refine ⟨hxr.set HI.out.2.2 (by omega) u, hyr.same (fun b hb => ?_), Below.setCell (HJ.out.2.2.2.trans ha5) (p := ⟨gx, i * 35 + 33, none⟩) hbx _⟩
          obtain ⟨_, _, csy, hry⟩ := own_lt hyr.2.2 hb
          exact Below.heap_setCell w5 ⟨gx, i * 35 + 33, none⟩ _ _ (fun e => by rw [e] at hry; exact absurd (hry.ty hrx).1 (by decide))
        have HCX := show Hid (w5.cell? ⟨gx, i * 35 + 33, none⟩ = some (.int .u8 (c.ch.toNat : Int)) ∧ w5.frozen? ⟨gx, i * 35 + 33, none⟩ = false) from ⟨cx, fx⟩
        clear hxr ha5 hS0 fx
        go_simp
        go_wp2_with (first
          | (refine wpList_of_run rfl (x_idx54 (x := .tmp 77) (y := .tmp 78) (b := gx) (n := n) (c := xc) (k := i) rfl (by kernel_rfl) (by kernel_rfl) HI.out.1) ?_)
          | (refine wpList_st rfl (x_st5 (x := .tmp 84) (y := .tmp 82) (g := gx) (p := i * 35 + 33) rfl (by kernel_rfl) rfl HCX.out.1 HCX.out.2) ?_))
        go_roundw
        case rel => exact ⟨i + 1, by go_num, by omega, _, (HS5.out _).1, fun j hj => (by rw [List.getElem?_set, if_neg (by omega)]; exact HJ.out.2.1 j (by omega)), (HS5.out _).2.1, (HS5.out _).2.2⟩
        case measure => simp [intOf]; omega
      · obtain rfl : i = n := by omega
        have hii : ¬ (i : Int) < (i : Int) := by omega
        go_wp2_with fail
        go_ret
        exact ⟨rfl, HA.out.1.trans HJ.out.2.2.2⟩
end Go.Proofs.Ytiglenomigipmaa

namespace Go.Proofs.Ytiglenomigipmaa
open Go.RowKit Go.Shelf
/-- Falling by the ids. -/
def Fall (l : List RC) : Prop := l.Pairwise fun a b => ltI b.id a.id = true
theorem ltI_asym {a b : Idn} (h : ltI a b = true) : ltI b a ≠ true := fun k => ltI_irr (ltI_trans h k)
theorem Fall.ins {c : RC} : ∀ {L : List RC}, Fall L → c.id.Ok → (∀ d ∈ L, d.id.Ok ∧ d.id ≠ c.id) → Fall (gIns RC.id c L)
  | [], _, _, _ => by unfold Fall; simp [gIns]
  | k :: L, h, hc, hd => by
    unfold Fall at h
    rw [List.pairwise_cons] at h
    have hk := hd k (by simp)
    simp only [gIns]
    cases hl : ltI c.id k.id with
    | true =>
      simp only [if_true]
      refine List.pairwise_cons.2 ⟨fun d hd' => ?_, Fall.ins h.2 hc (fun d hd' => hd d (by simp [hd']))⟩
      rcases mem_gIns.1 hd' with rfl | hd'
      · exact hl
      · exact h.1 d hd'
    | false =>
      simp only [Bool.false_eq_true, if_false]
      have hkc : ltI k.id c.id = true := ltI_total hc hk.1 (fun e => hk.2 e.symm) hl
      refine List.pairwise_cons.2 ⟨fun d hd' => ?_, List.pairwise_cons.2 h⟩
      rcases List.mem_cons.1 hd' with rfl | hd'
      · exact hkc
      · exact ltI_trans (h.1 d hd') hkc
theorem kids_fall {x : Idn} (l : List RC) : (∀ c ∈ l, c.id.Ok) → (l.map (·.id)).Nodup → Fall (kids l x) := by
  refine snoc_ind (P := fun l => (∀ c ∈ l, c.id.Ok) → (l.map (·.id)).Nodup → Fall (kids l x)) (fun _ _ => List.Pairwise.nil) (fun L c ih hok hnd => ?_) l
  rw [List.map_append, List.nodup_append] at hnd
  have h1 := ih (fun d hd => hok d (by simp [hd])) hnd.1
  unfold kids at h1 ⊢
  rw [gKids_snoc]
  split
  · refine h1.ins (hok c (by simp)) (fun d hd => ?_)
    have hdL := ((mem_gKids L).1 hd).1
    exact ⟨hok d (by simp [hdL]), hnd.2.2 d.id (List.mem_map_of_mem hdL) c.id (by simp)⟩
  · exact h1
theorem fall_eq : ∀ {A B : List RC}, Fall A → Fall B → (∀ c, c ∈ A ↔ c ∈ B) → A = B
  | [], [], _, _, _ => rfl
  | [], b :: B, _, _, h => by have := (h b).2 (by simp); cases this
  | a :: A, [], _, _, h => by have := (h a).1 (by simp); cases this
  | a :: A, b :: B, hA, hB, h => by
    unfold Fall at hA hB
    rw [List.pairwise_cons] at hA hB
    have e : a = b := by
      rcases List.mem_cons.1 ((h a).1 (by simp)) with e | hab
      · exact e
      · rcases List.mem_cons.1 ((h b).2 (by simp)) with e | hba
        · exact e.symm
        · exact absurd (hB.1 a hab) (ltI_asym (hA.1 b hba))
    subst e
    have na : a ∉ A := fun hm => ltI_irr (hA.1 a hm)
    have nb : a ∉ B := fun hm => ltI_irr (hB.1 a hm)
    rw [fall_eq hA.2 hB.2 (fun c => ⟨fun hc => by
      rcases List.mem_cons.1 ((h c).1 (by simp [hc])) with e | h2
      · subst e; exact absurd hc na
      · exact h2, fun hc => by
      rcases List.mem_cons.1 ((h c).2 (by simp [hc])) with e | h2
      · subst e; exact absurd hc nb
      · exact h2⟩)]
theorem kids_perm {l l' : List RC} (hp : l.Perm l') (hok : ∀ c ∈ l, c.id.Ok) (hnd : (l.map (·.id)).Nodup) (x : Idn) : kids l x = kids l' x := by
  refine fall_eq (kids_fall l hok hnd) (kids_fall l' (fun c hc => hok c (hp.mem_iff.2 hc)) ((hp.map _).nodup_iff.1 hnd)) (fun c => ?_)
  unfold kids
  rw [mem_gKids, mem_gKids, hp.mem_iff]
theorem bl_perm {l l' : List RC} (hp : l.Perm l') (hok : ∀ c ∈ l, c.id.Ok) (hnd : (l.map (·.id)).Nodup) : ∀ (n : Nat) (x : Idn), bl l n x = bl l' n x
  | 0, _ => rfl
  | n + 1, x => by
    show (kids l x).flatMap _ = (kids l' x).flatMap _
    rw [kids_perm hp hok hnd x]
    exact flatMap_congr' (fun k _ => by rw [bl_perm hp hok hnd n k.id])
/-- A list of cells that grew: each behind an earlier one. -/
structure Gd (l : List RC) : Prop where
  ok : ∀ c ∈ l, c.Ok
  num : ∀ c ∈ l, 1 ≤ c.id.c ∧ c.af.c < c.id.c
  stay : ∀ c ∈ l, c.gone = false
  beh : ∀ (i : Nat) (c : RC), l[i]? = some c → c.af = zId ∨ ∃ (j : Nat) (d : RC), j < i ∧ l[j]? = some d ∧ d.id = c.af
  nod : (l.map (·.id)).Nodup
theorem gd_nil : Gd [] := ⟨fun _ h => by simp at h, fun _ h => by simp at h, fun _ h => by simp at h, fun i c h => by simp at h, List.Pairwise.nil⟩
theorem Gd.ins {l : List RC} (h : Gd l) {af id : Idn} (haf : af.Ok) (hid : id.Ok) (ch : UInt8) : Gd (rIns l af id ch) := by
  unfold rIns
  split
  · rename_i he
    unfold rInsE at he
    by_cases g1 : id.c < 1 ∨ id.c ≤ af.c
    · rw [if_pos g1] at he; cases he
    rw [if_neg g1] at he
    by_cases g2 : (rplc l id).isSome = true
    · rw [if_pos g2] at he; cases he
    rw [if_neg g2] at he
    have g3 : ¬ (af ≠ zId ∧ (rplc l af).isSome = false) := fun e => by rw [if_pos e] at he; cases he
    have hn : rplc l id = none := by simpa using g2
    refine ⟨fun c hc => ?_, fun c hc => ?_, fun c hc => ?_, fun i c hc => ?_, ?_⟩
    · rcases List.mem_append.1 hc with hc | hc
      · exact h.ok c hc
      · rw [List.mem_singleton] at hc; subst hc; exact ⟨hid, haf⟩
    · rcases List.mem_append.1 hc with hc | hc
      · exact h.num c hc
      · rw [List.mem_singleton] at hc; subst hc; exact ⟨by show 1 ≤ id.c; omega, by show af.c < id.c; omega⟩
    · rcases List.mem_append.1 hc with hc | hc
      · exact h.stay c hc
      · rw [List.mem_singleton] at hc; subst hc; rfl
    · by_cases hi : i < l.length
      · rw [List.getElem?_append_left hi] at hc
        rcases h.beh i c hc with e | ⟨j, d, hj, hd, e⟩
        · exact .inl e
        · exact .inr ⟨j, d, hj, by rw [List.getElem?_append_left (by omega)]; exact hd, e⟩
      · rw [List.getElem?_append_right (by omega)] at hc
        obtain rfl : (⟨id, af, ch, false⟩ : RC) = c := by
          cases hd : i - l.length with
          | zero => rw [hd] at hc; simpa using hc
          | succ k => rw [hd] at hc; simp at hc
        by_cases ez : af = zId
        · exact .inl ez
        · cases hp : rplc l af with
          | none => exact absurd ⟨ez, by rw [hp]; rfl⟩ g3
          | some j =>
            obtain ⟨d, hd, e⟩ := rplc_get hp
            have hjl := (List.getElem?_eq_some_iff.1 hd).1
            exact .inr ⟨j, d, by omega, by rw [List.getElem?_append_left hjl]; exact hd, e⟩
    · rw [List.map_append, List.nodup_append]
      refine ⟨h.nod, by simp, fun a ha b hb e => ?_⟩
      obtain ⟨d, hd, rfl⟩ := List.mem_map.1 ha
      have hb' : b = id := by simpa using hb
      subst hb'
      unfold rplc at hn
      rw [List.findIdx?_eq_none_iff] at hn
      have := hn d hd
      simp at this
      exact this e
  · exact h
theorem rIns_len (l : List RC) (af id : Idn) (ch : UInt8) : (rIns l af id ch).length ≤ l.length + 1 := by
  unfold rIns
  split <;> simp
/-- Where some are left, one of them can be put. -/
theorem Gd.some_can {cells li lf : List RC} (h : Gd cells) (hp : (li ++ lf).Perm cells) (hne : lf ≠ []) : ∃ c ∈ lf, c.af = zId ∨ ∃ d ∈ li, d.id = c.af := by
  have go : ∀ (i : Nat) (c : RC), cells[i]? = some c → c ∈ lf → ∃ c ∈ lf, c.af = zId ∨ ∃ d ∈ li, d.id = c.af := by
    intro i
    induction i using Nat.strongRecOn with
    | _ i ih =>
      intro c hc hl
      rcases h.beh i c hc with e | ⟨j, d, hj, hd, e⟩
      · exact ⟨c, hl, .inl e⟩
      · have hm := hp.mem_iff.2 (List.mem_of_getElem? hd)
        rcases List.mem_append.1 hm with hm | hm
        · exact ⟨c, hl, .inr ⟨d, hm, e⟩⟩
        · exact ih j hj d hd hm
  obtain ⟨c, lf', rfl⟩ : ∃ c lf', lf = c :: lf' := by
    cases lf with
    | nil => exact absurd rfl hne
    | cons c r => exact ⟨c, r, rfl⟩
  have hm := hp.mem_iff.1 (show c ∈ li ++ c :: lf' by simp)
  obtain ⟨i, hi⟩ := List.getElem?_of_mem hm
  exact go i c hi (by simp)
/-- What is told of a row, by the cells. -/
theorem Alike.told {st : List Stm} {l : List RC} (h : Alike st l) {U : List Nat} (hU : Reach st U []) : U.map (cOf st) = (bl l st.length zId).map (fun c => ccell c.id c.ch c.gone) := by
  apply List.ext_getElem?
  intro i
  rw [List.getElem?_map (l := bl l st.length zId)]
  cases hc : (bl l st.length zId)[i]? with
  | some c => rw [h.cells hU hc]; rfl
  | none =>
    have h1 := List.getElem?_eq_none_iff.1 hc
    rw [h.count hU] at h1
    rw [List.getElem?_eq_none_iff.2 h1]; rfl
end Go.Proofs.Ytiglenomigipmaa

namespace Go.Proofs.Ytiglenomigipmaa
open Go.RowKit Go.Shelf
attribute [local go_sem] Oper.semAt_some
def tp (p : Put) : Put := { p with wild := false }
theorem tp_ok {p : Put} (h : p.Ok) : (tp p).Ok := ⟨h.il, h.ih, h.bl, h.bh⟩
def zP : Put := ⟨0, 0, 0, 0, false, false, 0, 0⟩
section
variable {oi : Oper} {a : Act} {w : World}
theorem x_al33 (hop : oi.op = .alloc 33) : (execOp a.eval oi).run Try.prog w = .ok (.value (.pointer (some ⟨w.heap.size, 0, none⟩))) (w.alloc (.cells (pcell zP).toArray 33)) := by
  have hz : (zeroValue 33).run Try.prog w = .ok (.agg (pcell zP).toArray) w := by kernel_rfl
  unfold execOp
  simp only [hop]
  simp [go_sem, hz, Value.cells]
end
theorem wpList_st4 {w w' : World} {ops : Array Oper} {rest : List Oper} {o : Oper} {a : Act} {Q : Exit → Act → World → Prop} (hg : o.guard = none) {x : Operand} {g p : Nat} {b : Bool} {u : Value} (ho : o.op = .store 4 x (.const (.bool b))) (hx : a.eval x = .pointer (some ⟨g, p, none⟩)) (hc : w.cell? ⟨g, p, none⟩ = some u) (hf : w.frozen? ⟨g, p, none⟩ = false) (hW : w.setCell ⟨g, p, none⟩ (.bool b) = w') (h : wpList Try.prog ops Q rest (a.put o.dst undef) w') : wpList Try.prog ops Q (o :: rest) a w :=
  wpList_st hg ((x_st4 ho hx hc hf).trans (by rw [hW])) h
theorem pcell_one (p : Put) : ∀ u ∈ pcell p, u.oneCell' = true := fun u hu => by
  simp only [pcell, List.mem_cons, List.not_mem_nil, or_false] at hu
  rcases hu with rfl | rfl | rfl | rfl | rfl | rfl | rfl | rfl <;> rfl
theorem tame_box {wr W2 W3 : World} {p : Put} (hW2 : (wr.alloc (.cells (pcell zP).toArray 33)).setRow wr.heap.size (pcell p).toArray = W2) (hW3 : W2.setCell ⟨wr.heap.size, 5, none⟩ (.bool false) = W3) :
    RowIs W2 wr.heap.size 33 (pcell p) ∧ RowIs W3 wr.heap.size 33 (pcell (tp p)) ∧ After wr W3 := by
  have h2 : RowIs W2 wr.heap.size 33 (pcell p) := by rw [← hW2]; exact (RowIs.new wr 33 (pcell zP)).setRow _
  refine ⟨h2, ?_, ?_⟩
  · rw [← hW3]; exact h2.set 5 _
  · rw [← hW3, ← hW2]
    exact Below.setCell (Below.row (after_alloc (After.refl wr) _) (Nat.le_refl _) _) (p := ⟨wr.heap.size, 5, none⟩) (Nat.le_refl _) _
set_option maxRecDepth 100000 in
set_option maxHeartbeats 1600000 in
theorem tame_any {w : World} {va : Option Addr} {n cap : Nat} {ps : List Put} (hn : ps.length = n) (hok : ∀ p ∈ ps, p.Ok) (hin : PutsIn w va ps) (h120 : n ≤ 120) :
    Calls Try.prog 27 #[.slice va n cap] w fun e w' => ∃ v cells, e = .returned v ∧ RowR w' w.heap.size v cells ∧ Gd cells ∧ cells.length ≤ n ∧ After w w' := by
  have HIN : Hid (ps.length = n ∧ (∀ p ∈ ps, p.Ok) ∧ PutsIn w va ps) := ⟨hn, hok, hin⟩
  clear hn hok hin
  obtain ⟨W0, hW0⟩ : ∃ W0, w.alloc (.cells #[.slice none 0 0] 29) = W0 := ⟨_, rfl⟩
  have H0 : Hid (RowIs W0 w.heap.size 29 [.slice none 0 0] ∧ After w W0) := by
    rw [← hW0]; exact ⟨RowIs.new w 29 _, after_alloc (After.refl w) _⟩
  obtain ⟨gb, hgb⟩ : ∃ gb, w.heap.size = gb := ⟨_, rfl⟩
  have HGB : Hid (w.heap.size = gb) := hgb
  go_enter Try.func27, Try.ntmps27
  go_wp2_with (first
    | (refine wpList_of_run rfl ((x_al29 rfl).trans (by rw [hW0, HGB.out])) ?_))
  rw [hgb] at H0
  clear hW0 hgb
  go_loopw [4] (fun vi wr => ∃ i : Nat, vi = .int .i64 (i : Int) ∧ i ≤ n ∧ ∃ l ra rn rc, Hid (RowIs wr gb 29 [.slice ra rn rc] ∧ RowR wr w.heap.size (.slice ra rn rc) l ∧ Gd l ∧ l.length ≤ i ∧ After w wr)) (fun vi _ => n - (intOf vi).toNat)
  case atStart => exact ⟨0, rfl, Nat.zero_le _, [], none, 0, 0, H0.out.1, RowR.nil _ _, gd_nil, Nat.le_refl _, H0.out.2⟩
  case round =>
    obtain ⟨i, rfl, hin, l, ra, rn, rc, HJ⟩ := hrel
    by_cases hlt : i < n
    · have hii : (i : Int) < (n : Int) := by omega
      obtain ⟨p, hp⟩ : ∃ p, ps[i]? = some p := ⟨_, List.getElem?_eq_getElem (by rw [HIN.out.1]; exact hlt)⟩
      obtain ⟨pb, po, hva, hpr⟩ := HIN.out.2.2 (fun e => by rw [e] at hp; simp at hp)
      subst hva
      have HP : Hid (p.Ok ∧ i < n ∧ wr.rangeAt pb (po + i * 8) (pcell p)) := ⟨HIN.out.2.1 p (List.mem_of_getElem? hp), hlt, range_after (hpr i p hp) HJ.out.2.2.2.2⟩
      clear hp hpr
      obtain ⟨W2, hW2⟩ : ∃ W2, (wr.alloc (.cells (pcell zP).toArray 33)).setRow wr.heap.size (pcell p).toArray = W2 := ⟨_, rfl⟩
      obtain ⟨W3, hW3⟩ : ∃ W3, W2.setCell ⟨wr.heap.size, 5, none⟩ (.bool false) = W3 := ⟨_, rfl⟩
      have HT := show Hid _ from tame_box hW2 hW3
      have HZ : Hid (RowIs (wr.alloc (.cells (pcell zP).toArray 33)) wr.heap.size 33 (pcell zP)) := RowIs.new wr 33 _
      have HG2 := show Hid _ from hW2
      have HG3 := show Hid _ from hW3
      have H3 : Hid (RowIs W3 gb 29 [.slice ra rn rc] ∧ RowR W3 w.heap.size (.slice ra rn rc) l ∧ After w W3) := ⟨HJ.out.1.below HT.out.2.2 HJ.out.1.lt, HJ.out.2.1.after HT.out.2.2, HJ.out.2.2.2.2.trans HT.out.2.2⟩
      clear hW2 hW3
      obtain ⟨go, hgo⟩ : ∃ go, wr.heap.size = go := ⟨_, rfl⟩
      have HGO : Hid (wr.heap.size = go) := hgo
      rw [hgo] at HT HZ HG2 HG3
      have HC5 : Hid (W2.cell? ⟨go, 5, none⟩ = some (.bool p.wild) ∧ W2.frozen? ⟨go, 5, none⟩ = false) := ⟨HT.out.1.cell rfl, HT.out.1.frozen 5⟩
      obtain ⟨af, haf⟩ : ∃ af, pAf l (tp p) = af := ⟨_, rfl⟩
      obtain ⟨id, hid⟩ : ∃ id, pId l (tp p) = id := ⟨_, rfl⟩
      have HOK : Hid (af.Ok ∧ id.Ok) := ⟨by rw [← haf]; exact pAf_ok HJ.out.2.1.1 (tp_ok HP.out.1), by rw [← hid]; exact pId_ok HJ.out.2.1.1 (tp_ok HP.out.1)⟩
      have HID : Hid (Calls Try.prog 29 #[.agg #[.slice ra rn rc], .agg (pcell (tp p)).toArray] W3 fun e w' => e = .returned (.tuple #[idv af, idv id]) ∧ After W3 w') := by
        have := ids_any H3.out.2.1 (tp_ok HP.out.1) (by have := HJ.out.2.2.2.1; omega)
        rw [haf, hid] at this; exact this
      clear haf hid
      go_wp2_with (first
        | (refine wpList_of_run rfl (x_idx22 (x := .tmp 14) (y := .tmp 15) (b := pb) (f := po) (n := n) (c := cap) (k := i) rfl (by kernel_rfl) (by kernel_rfl) HP.out.2.1) ?_)
        | (refine wpList_of_run rfl (x_ld33m (x := .tmp 16) (g := pb) (q := po + i * 8) (p := p) rfl (by kernel_rfl) HP.out.2.2) ?_)
        | (refine wpList_of_run rfl ((x_al33 rfl).trans (by rw [HGO.out])) ?_)
        | (refine wpList_store_row rfl 33 (.tmp 5) (.tmp 17) rfl go (pcell p).toArray rfl rfl 33 _ HZ.out (size33 p) rfl (by simpa using pcell_one p) ?_; rw [HG2.out])
        | (refine wpList_st4 (x := .tmp 18) (g := go) (p := 5) (b := false) rfl rfl (by kernel_rfl) HC5.out.1 HC5.out.2 HG3.out ?_)
        | (refine wpList_load_row rfl 29 (.tmp 3) rfl gb rfl 29 #[.slice ra rn rc] (0, 0) _ H3.out.1 Try.underlying29 rfl (size29 _) ?_)
        | (refine wpList_load_row rfl 33 (.tmp 5) rfl go rfl 33 (pcell (tp p)).toArray (0, 0) _ HT.out.2.1 Try.underlying33 rfl (size33 _) ?_)
        | (go_at_call 29; refine Calls.mono HID.out ?_; clear HID; rintro e w1 ⟨rfl, hw1⟩; obtain ⟨W4, hW4⟩ : ∃ W4, (((w1.alloc (.cells (idc zId).toArray 40)).alloc (.cells (idc zId).toArray 40)).setRow w1.heap.size (idc af).toArray).setRow (w1.heap.size + 1) (idc id).toArray = W4 := ⟨_, rfl⟩; have HB4 := show Hid _ from do_boxes hW4; have HG4 := show Hid _ from hW4; have H4 := show Hid (RowIs W4 gb 29 [.slice ra rn rc] ∧ RowR W4 w.heap.size (.slice ra rn rc) l ∧ After w W4 ∧ RowIs W4 go 33 (pcell (tp p))) from (fun ha : After W3 W4 => ⟨H3.out.1.below ha H3.out.1.lt, H3.out.2.1.after ha, H3.out.2.2.trans ha, HT.out.2.1.below ha HT.out.2.1.lt⟩) (hw1.trans HB4.out.2.2.2.2); have c4 : W4.cell? ⟨go, 3, none⟩ = some (.int .u8 (p.ch.toNat : Int)) := H4.out.2.2.2.cell rfl; clear hw1 hW4)
        | (refine wpList_of_run rfl ((x_al40 rfl).trans (by rw [World.size_alloc])) ?_)
        | (refine wpList_of_run rfl (x_al40 rfl) ?_)
        | (refine wpList_store_row rfl 40 (.tmp 6) (.tmp 23) rfl w1.heap.size (idc af).toArray rfl rfl 40 _ HB4.out.1 (size40 HOK.out.1) (by simp [idc_len HOK.out.1, idc_len zId_ok]) (by simpa using idc_one af) ?_)
        | (refine wpList_store_row rfl 40 (.tmp 7) (.tmp 24) rfl (w1.heap.size + 1) (idc id).toArray rfl rfl 40 _ HB4.out.2.1 (size40 HOK.out.2) (by simp [idc_len HOK.out.2, idc_len zId_ok]) (by simpa using idc_one id) ?_; rw [HG4.out])
        | (refine wpList_load_row rfl 29 (.tmp 3) rfl gb rfl 29 #[.slice ra rn rc] (0, 0) _ H4.out.1 Try.underlying29 rfl (size29 _) ?_)
        | (refine wpList_load_row rfl 40 (.tmp 6) rfl w1.heap.size rfl 40 (idc af).toArray (0, 0) _ HB4.out.2.2.1 Try.underlying40 rfl (size40 HOK.out.1) ?_)
        | (refine wpList_load_row rfl 40 (.tmp 7) rfl (w1.heap.size + 1) rfl 40 (idc id).toArray (0, 0) _ HB4.out.2.2.2.1 Try.underlying40 rfl (size40 HOK.out.2) ?_)
        | (go_at_call 32; refine Calls.mono (rInsert_any H4.out.2.1 HOK.out.1 HOK.out.2 p.ch (by have := HJ.out.2.2.2.1; omega) H4.out.2.2.1.size) ?_; rintro e w6 ⟨v6, rfl, h61, h62⟩; obtain ⟨va6, n6, c6, hv6⟩ : ∃ va n c, v6 = .slice va n c := (fun ⟨a, b, c⟩ => ⟨a, _, b, c⟩) h61.sl; subst hv6; have H6 := show Hid (RowIs w6 gb 29 [.slice ra rn rc] ∧ RowR w6 w.heap.size (.slice va6 n6 c6) (rIns l af id p.ch) ∧ After w w6) from ⟨H4.out.1.below h62 H4.out.1.lt, h61, H4.out.2.2.1.trans h62⟩; clear h61 h62)
        | (refine wpList_store_row rfl 29 (.tmp 3) (.tmp 32) rfl gb #[.slice va6 n6 c6] rfl rfl 29 _ H6.out.1 (size29 _) rfl (by simp [Value.oneCell']) ?_))
      go_roundw
      case rel => exact ⟨i + 1, by go_num, by omega, rIns l af id p.ch, va6, n6, c6, H6.out.1.setRow _, H6.out.2.1.put29 H6.out.1 _, HJ.out.2.2.1.ins HOK.out.1 HOK.out.2 p.ch, Nat.le_trans (rIns_len _ _ _ _) (Nat.succ_le_succ HJ.out.2.2.2.1), Below.row H6.out.2.2 (by rw [HGB.out]; exact Nat.le_refl _) _⟩
      case measure => simp [intOf]; omega
    · obtain rfl : i = n := by omega
      have hii : ¬ (i : Int) < (i : Int) := by omega
      have cB : wr.cell? ⟨gb, 0, none⟩ = some (.slice ra rn rc) := HJ.out.1.cell rfl
      go_wp2_with fail
      go_ret
      exact ⟨_, rfl, l, HJ.out.2.1, HJ.out.2.2.1, HJ.out.2.2.2.1, HJ.out.2.2.2.2⟩
end Go.Proofs.Ytiglenomigipmaa

namespace Go.Proofs.Ytiglenomigipmaa
open Go.RowKit Go.Shelf
attribute [local go_sem] Oper.semAt_some
section
variable {oi : Oper} {a : Act} {w : World}
theorem x_bs27e (hop : oi.op = .buildSlice 27 0 #[]) : (execOp a.eval oi).run Try.prog w = .ok (.value (.slice (some ⟨w.heap.size, 0, none⟩) 0 0)) (w.alloc (.cells #[] 68)) := by
  have hb : (Instr.buildSlice 27 0 #[]).run Try.prog w = .ok (.slice (some ⟨w.heap.size, 0, none⟩) 0 0) (w.alloc (.cells #[] 68)) := by kernel_rfl
  unfold execOp
  simp [hop, hb]
theorem x_idx56 {x y : Operand} {b f n c k : Nat} (hop : oi.op = .indexAddr 56 x y) (hx : a.eval x = .slice (some ⟨b, f, none⟩) n c) (hy : a.eval y = .int .i64 (k : Int)) (hk : k < n) : (execOp a.eval oi).run Try.prog w = .ok (.value (.pointer (some ⟨b, f + k, none⟩))) w := by
  have hk' : (k : Int) < (n : Int) := by omega
  have hz0 : (Try.prog.info? 5).map (·.size) = some 1 := by kernel_rfl
  obtain ⟨i, hi, hz⟩ := Option.map_eq_some_iff.1 hz0
  unfold execOp; simp only [hop, hx, hy]; simp [go_sem, hk', hi, hz, sizeOf, typeInfo]
end
theorem row_fresh (w : World) : RowR (w.alloc (.cells #[] 68)) w.heap.size (.slice (some ⟨w.heap.size, 0, none⟩) 0 0) [] :=
  ⟨fun _ h => by simp at h, fun _ h => by simp at h, row_own (cs := []) (Nat.le_refl _) (RowIs.new w 68 []) (Nat.le_refl _) (by decide) rfl rfl⟩
/-- All that is left of a list is gone through from any place on. -/
theorem around {k m j : Nat} (hk : k < m) (hj : j < m) : ∃ i, i < m ∧ (k + i) % m = j := by
  refine ⟨(j + (m - k)) % m, Nat.mod_lt _ (by omega), ?_⟩
  rw [Nat.add_mod_mod, show k + (j + (m - k)) = j + m by omega, Nat.add_mod_right, Nat.mod_eq_of_lt hj]
theorem can_of {st : List Stm} {cells li lf : List RC} (hA : Alike st li) (hG : Gd cells) (hp : (li ++ lf).Perm cells) {c : RC} (hc : c ∈ lf) (h : c.af = zId ∨ ∃ d ∈ li, d.id = c.af) : insE st c.af c.id = 0 := by
  have hcc : c ∈ cells := hp.mem_iff.1 (by simp [hc])
  have hn := hG.num c hcc
  rw [hA.lnk.insE]
  unfold rInsE
  rw [if_neg (by omega)]
  have hnd : ((li ++ lf).map (·.id)).Nodup := ((hp.map _).nodup_iff).2 hG.nod
  rw [List.map_append, List.nodup_append] at hnd
  have h1 : rplc li c.id = none := by
    refine rplc_none (fun j d hd e => ?_)
    exact hnd.2.2 d.id (List.mem_map_of_mem (List.mem_of_getElem? hd)) c.id (List.mem_map_of_mem hc) e
  rw [h1]
  simp only [Option.isSome_none, Bool.false_eq_true, if_false]
  refine if_neg (fun e => ?_)
  rcases h with h | ⟨d, hd, h⟩
  · exact e.1 h
  · have e2 := e.2
    cases hr : rplc li c.af with
    | none =>
      unfold rplc at hr
      rw [List.findIdx?_eq_none_iff] at hr
      have := hr d hd
      simp [h] at this
    | some j => rw [hr] at e2; cases e2
theorem rIns_ok {st : List Stm} {li : List RC} (hA : Alike st li) {c : RC} (hs : c.gone = false) (h : insE st c.af c.id = 0) : rIns li c.af c.id c.ch = li ++ [c] := by
  unfold rIns
  rw [← hA.lnk.insE, if_pos h]
  cases c; simp_all
theorem ins_bad {st : List Stm} {c : RC} (h : insE st c.af c.id ≠ 0) : insF st c.af c.id c.ch = st := by unfold insF; rw [if_neg h]
theorem perm_take {li lf cells : List RC} {j : Nat} {c : RC} (hp : (li ++ lf).Perm cells) (hj : lf[j]? = some c) : ((li ++ [c]) ++ (lf.take j ++ lf.drop (j + 1))).Perm cells := by
  refine List.Perm.trans ?_ hp
  rw [List.append_assoc]
  refine List.Perm.append_left li ?_
  obtain ⟨hl, rfl⟩ := List.getElem?_eq_some_iff.1 hj
  have e : lf = lf.take j ++ lf[j] :: lf.drop (j + 1) := by rw [List.getElem_cons_drop, List.take_append_drop]
  conv => rhs; rw [e]
  show (lf[j] :: (lf.take j ++ lf.drop (j + 1))).Perm _
  exact List.perm_middle.symm
/-- What is known between rounds. -/
structure Fl (w0 w : World) (cells : List RC) (g : Nat) (st : List Stm) (li lf : List RC) (D : RwD) (la : Option Addr) (ln lc : Nat) : Prop where
  row : RowAt w w0.heap.size g st D
  ali : Alike st li
  lft : RowR w w0.heap.size (.slice la ln lc) lf
  prm : (li ++ lf).Perm cells
  aft : After w0 w
theorem x_eq51 {oi : Oper} {a : Act} {w : World} {x : Operand} {n : Nat} (hn : n ≠ 0) (hop : oi.op = .binOp .eql 51 x (.const (.int .i64 0)) 51) (hx : a.eval x = .int .i64 (n : Int)) : (execOp a.eval oi).run Try.prog w = .ok (.value (.bool false)) w := by
  have hk : a.eval (.const (.int .i64 0)) = .int .i64 0 := rfl
  unfold execOp; simp only [hop, hx, hk]
  simp [go_sem, hn]
set_option maxRecDepth 100000 in
set_option maxHeartbeats 6400000 in
theorem filled_any {w : World} {base : Nat} {ca ta : Option Addr} {cn cc tn tc : Nat} {cells : List RC} {ab : List UInt8} (h : RowR w base (.slice ca cn cc) cells) (hG : Gd cells) (hl : cells.length ≤ 900) (htn : ab.length = tn) (hat : BytesAt w ta ab) :
    Calls Try.prog 28 #[.slice ca cn cc, .slice ta tn tc] w fun e w' => ∃ g D st li, e = .returned (.pointer (some ⟨g, 0, none⟩)) ∧ RowAt w' w.heap.size g st D ∧ Alike st li ∧ li.Perm cells ∧ After w w' := by
  have HR : Hid (RowR w base (.slice ca cn cc) cells ∧ cells.length = cn) := ⟨h, h.cap.1⟩
  have HCE : Hid (Gd cells ∧ cn ≤ 900) := ⟨hG, by have := h.cap.1; omega⟩
  have HAT : Hid (ab.length = tn ∧ ∀ j, j < tn → ∃ b o, ta = some ⟨b, o, none⟩ ∧ w.cell? ⟨b, o + j, none⟩ = some (.int .u8 ((ab.getD j 0).toNat : Int))) := ⟨htn, fun j hj => by
    obtain ⟨b, o, e, hc⟩ := hat (fun e => by rw [e] at htn; simp at htn; omega)
    exact ⟨b, o, e, hc j (by omega)⟩⟩
  clear h hG hl htn hat
  go_enter Try.func28, Try.ntmps28
  go_wp2_with (first
    | (go_at_call 13; refine Calls.mono (New_any _) ?_; rintro e w1 ⟨g, D0, rfl, hr1, ha1⟩; have H1 := show Hid (RowAt w1 w.heap.size g [root] D0 ∧ After w w1) from ⟨hr1, ha1⟩; obtain ⟨la0, ln0, lc0, w2, h21, h22, h23⟩ := app_any (W8 := w1) (W := w1.alloc (.cells #[] 68)) (base := w1.heap.size) (after_alloc (After.refl w1) _) (Nat.le_refl _) (by simp) (row_fresh w1) ((HR.out.1.after ha1).after (after_alloc (After.refl w1) (.cells #[] 68))).src (by have := HCE.out.2; have := HR.out.2; simp; omega); have HA2 := show Hid _ from h21; have H2 := show Hid (RowR w2 w1.heap.size (.slice la0 ln0 lc0) cells ∧ After w1 w2 ∧ ln0 = cn) from ⟨by simpa using h22, h23, by have := h22.cap.1; have := HR.out.2; simp at *; omega⟩; clear hr1 ha1 h21 h22 h23)
    | (refine wpList_of_run rfl (x_bs27e rfl) ?_)
    | (refine wpList_of_run rfl (x_app27 (s := .tmp 14) (x := .tmp 15) (v := .slice (some ⟨w1.heap.size, 0, none⟩) 0 0) (u := .slice ca cn cc) rfl (by kernel_rfl) (by kernel_rfl) HA2.out) ?_))
  have HF0 : Hid (Fl w w2 cells g [root] [] cells D0 la0 ln0 lc0) := ⟨H1.out.1.after H2.out.2.1, alike_nil, H2.out.1.mono H1.out.2.size, List.Perm.refl _, H1.out.2.trans H2.out.2.1⟩
  have HLN0 : Hid (ln0 = cn) := H2.out.2.2
  clear HA2 H1 H2
  go_loopw [6, 7] (fun vl vm wr => ∃ (m : Nat) (la : Option Addr) (ln lc : Nat), vm = .int .i64 (m : Int) ∧ vl = .slice la ln lc ∧ m + ln = cn ∧ ∃ st li lf D, Hid (Fl w wr cells g st li lf D la ln lc)) (fun _ vm _ => cn - (intOf vm).toNat)
  case atStart => exact ⟨0, la0, ln0, lc0, rfl, rfl, by rw [HLN0.out]; omega, _, _, _, _, HF0⟩
  case round =>
    obtain ⟨wo, hwo⟩ : ∃ wo, wo = wr := ⟨_, rfl⟩
    subst hwo
    obtain ⟨m, la, ln, lc, rfl, rfl, hmn, st, li, lf, D, HJ⟩ := hrel
    have hcn : cn ≤ 900 := HCE.out.2
    have HLN : Hid (ln ≤ 900 ∧ st.length ≤ 1000) := ⟨by omega, by
      have h1 := HJ.out.ali.lnk.len
      have h2 := HJ.out.prm.length_eq
      rw [List.length_append] at h2
      have := HR.out.2
      omega⟩
    by_cases hpos : 0 < ln
    · have hp1 : (0 : Int) < (ln : Int) := by omega
      have hp2 : (m : Int) ≤ (cn : Int) := by omega
      by_cases hmt : m < tn
      · have hmti : (m : Int) < (tn : Int) := by omega
        obtain ⟨tb, to, hta, htc⟩ := HAT.out.2 m hmt
        subst hta
        obtain ⟨k, hk⟩ : ∃ k, (ab.getD m 0).toNat % ln = k := ⟨_, rfl⟩
        have hkl : k < ln := by rw [← hk]; exact Nat.mod_lt _ hpos
        have HKC : Hid (wo.cell? ⟨tb, to + m, none⟩ = some (.int .u8 ((ab.getD m 0).toNat : Int)) ∧ m < tn ∧ (ab.getD m 0).toNat % ln = k ∧ (ab.getD m 0).toNat ≤ 1000) := ⟨(Below.cell HJ.out.aft (p := ⟨tb, to + m, none⟩) (World.block_lt_of_cell? w _ htc)).trans htc, hmt, hk, by have := (ab.getD m 0).toNat_lt; omega⟩
        obtain ⟨bm, hbm⟩ : ∃ bm, (ab.getD m 0).toNat = bm := ⟨_, rfl⟩
        rw [hbm] at HKC
        clear htc hk hbm
        go_wp2_with (first
          | (refine wpList_of_run rfl (x_idx56 (x := .tmp 32) (y := .tmp 33) (b := tb) (f := to) (n := tn) (c := tc) (k := m) rfl (by kernel_rfl) (by kernel_rfl) HKC.out.2.1) ?_)
          | (refine wpList_of_run rfl (x_loadT (x := .tmp 34) (t := 5) (g := tb) (j := to + m) Try.underlying5 rfl rfl (by kernel_rfl) HKC.out.1) ?_)
          | (refine wpList_of_run rfl (x_cv53 (x := .tmp 35) (m := bm) HKC.out.2.2.2 rfl (by kernel_rfl)) ?_)
          | (refine wpList_of_run rfl (x_remi (x := .tmp 36) (y := .tmp 38) (p := bm) (q := ln) (r := k) rfl (by kernel_rfl) (by kernel_rfl) HKC.out.2.2.1 hpos) ?_))
        go_loopw [6, 9] (fun vl vi wr => ∃ i : Nat, vi = .int .i64 (i : Int) ∧ vl = .slice la ln lc ∧ i ≤ ln ∧ ∃ D2, Hid (Fl w wr cells g st li lf D2 la ln lc ∧ ∀ i', i' < i → ∀ c, lf[(k + i') % ln]? = some c → insE st c.af c.id ≠ 0)) (fun _ vi _ => ln - (intOf vi).toNat)
        case atStart => exact ⟨0, rfl, rfl, Nat.zero_le _, D, HJ.out, fun i' hi' => absurd hi' (Nat.not_lt_zero _)⟩
        case round =>
          obtain ⟨wk, hwk⟩ : ∃ wk, wk = wr := ⟨_, rfl⟩
          subst hwk
          obtain ⟨i, rfl, rfl, hil, D2, HI⟩ := hrel
          by_cases hilt : i < ln
          · have hii : (i : Int) < (ln : Int) := by omega
            obtain ⟨j, hj⟩ : ∃ j, (k + i) % ln = j := ⟨_, rfl⟩
            have hjl : j < ln := by rw [← hj]; exact Nat.mod_lt _ (by omega)
            obtain ⟨c, hc⟩ : ∃ c, lf[j]? = some c := ⟨_, List.getElem?_eq_getElem (by rw [HI.out.1.lft.cap.1]; exact hjl)⟩
            obtain ⟨gs, hla, -, hr⟩ := HI.out.1.lft.at hc
            subst hla
            rw [Nat.zero_add] at hr
            have HC : Hid (c.Ok ∧ wk.rangeAt gs (j * 68) (rcell c) ∧ j < ln ∧ (k + i) % ln = j ∧ lf[j]? = some c) := ⟨HI.out.1.lft.1 c (List.mem_of_getElem? hc), hr, hjl, hj, hc⟩
            have HC66 : Hid ((rcell c)[66]? = some (.int .u8 (c.ch.toNat : Int))) := by
              show _ = _
              unfold rcell; rw [List.getElem?_append_right (by rw [idc_len HC.out.1.id]; omega), idc_len HC.out.1.id, List.getElem?_append_right (by rw [idc_len HC.out.1.af]; omega), idc_len HC.out.1.af]; rfl
            have HSG : Hid (c.gone = false) := HCE.out.1.stay c (HJ.out.prm.mem_iff.1 (by have := List.mem_of_getElem? hc; simp [this]))
            obtain ⟨W2, hW2⟩ : ∃ W2, (wk.alloc (.cells (rcell zRC).toArray 68)).setRow wk.heap.size (rcell c).toArray = W2 := ⟨_, rfl⟩
            have HZ : Hid (RowIs (wk.alloc (.cells (rcell zRC).toArray 68)) wk.heap.size 68 (rcell zRC)) := RowIs.new wk 68 (rcell zRC)
            have hA2 : After wk W2 := by rw [← hW2]; exact Below.row (after_alloc (After.refl wk) _) (Nat.le_refl _) _
            have HBX : Hid (RowIs W2 wk.heap.size 68 (rcell c)) := by rw [← hW2]; exact HZ.out.setRow _
            have H2 : Hid (Fl w W2 cells g st li lf D2 (some ⟨gs, 0, none⟩) ln lc ∧ True) := ⟨⟨HI.out.1.row.after hA2, HI.out.1.ali, HI.out.1.lft.after hA2, HI.out.1.prm, HI.out.1.aft.trans hA2⟩, trivial⟩
            have HG2 := show Hid _ from hW2
            clear hc hr hW2 hA2 hj hjl
            obtain ⟨go, hgo⟩ : ∃ go, wk.heap.size = go := ⟨_, rfl⟩
            have HGO : Hid (wk.heap.size = go) := hgo
            rw [hgo] at HBX HZ HG2
            go_wp2_with (first
              | (refine wpList_of_run rfl (x_addz (x := .tmp 46) (y := .tmp 47) (p := (k : Int)) (q := (i : Int)) (by omega) (by omega) rfl (by kernel_rfl) (by kernel_rfl)) ?_)
              | (refine wpList_of_run rfl (x_remi (x := .tmp 48) (y := .tmp 50) (p := k + i) (q := ln) (r := j) rfl rfl (by kernel_rfl) HC.out.2.2.2.1 (by omega)) ?_)
              | (refine wpList_of_run rfl (x_idx27 (x := .tmp 52) (y := .tmp 53) (b := gs) (f := 0) (n := ln) (c := lc) (k := j) rfl (by kernel_rfl) (by kernel_rfl) HC.out.2.2.1) ?_; rw [Nat.zero_add])
              | (refine wpList_of_run rfl (x_ld68m (x := .tmp 54) (g := gs) (p := j * 68) (c := c) HC.out.1 rfl (by kernel_rfl) HC.out.2.1) ?_)
              | (refine wpList_of_run rfl ((x_al68 rfl).trans (by rw [HGO.out])) ?_)
              | (refine wpList_store_row rfl 68 (.tmp 11) (.tmp 55) rfl go (rcell c).toArray rfl rfl 68 _ HZ.out (size68 HC.out.1) (by simp [rcell_len HC.out.1, rcell_len zRC_ok]) (by simpa using rcell_one c) ?_; rw [HG2.out]))
            by_cases hE : insE st c.af c.id = 0
            · skip
              refine wp_region_noPanic ?_
              refine wp_region_held_drew (S := KeptF (Foot g D2) W2) (by kernel_rfl) (KeptF.of_after (After.drew (After.refl _))) ?_
              intro hS0
              refine tk 0 56 (.pointer (some ⟨g, 0, none⟩)) (fuel := 10) rfl (by kernel_rfl) (by kernel_rfl) (by kernel_rfl) (by kernel_rfl) noPanic_false (by kernel_rfl) (fun _ _ => by kernel_rfl) hS0 ?_
              refine tk 1 57 (.pointer (some ⟨go, 33, none⟩)) (fuel := 9) rfl (by kernel_rfl) (by kernel_rfl) (by kernel_rfl) (by kernel_rfl) noPanic_false (by kernel_rfl) (fun _ _ => by kernel_rfl) hS0 ?_
              refine tk 2 58 (idv c.af) (fuel := 8) rfl (by kernel_rfl) (by kernel_rfl) (by kernel_rfl) (by kernel_rfl) noPanic_false (by kernel_rfl) (fun W hW => x_ld40m (x := .tmp 57) (g := go) (p := 33) HC.out.1.af (by kernel_rfl) (by kernel_rfl) (by have := range_raf HC.out.1 (hW.row HBX.out (H2.out.1.row.other HBX.out (by decide) (by decide) (by decide))).range0; rwa [Nat.zero_add] at this)) hS0 ?_
              refine tk 4 60 (.pointer (some ⟨go, 0, none⟩)) (fuel := 7) rfl (by kernel_rfl) (by kernel_rfl) (by kernel_rfl) (by kernel_rfl) noPanic_false (by kernel_rfl) (fun _ _ => by kernel_rfl) hS0 ?_
              refine tk 5 61 (idv c.id) (fuel := 6) rfl (by kernel_rfl) (by kernel_rfl) (by kernel_rfl) (by kernel_rfl) noPanic_false (by kernel_rfl) (fun W hW => x_ld40m (x := .tmp 60) (g := go) (p := 0) HC.out.1.id (by kernel_rfl) (by kernel_rfl) (range_rid (hW.row HBX.out (H2.out.1.row.other HBX.out (by decide) (by decide) (by decide))).range0)) hS0 ?_
              refine tk 7 63 (.pointer (some ⟨go, 66, none⟩)) (fuel := 5) rfl (by kernel_rfl) (by kernel_rfl) (by kernel_rfl) (by kernel_rfl) noPanic_false (by kernel_rfl) (fun _ _ => by kernel_rfl) hS0 ?_
              refine tk 8 64 (.int .u8 (c.ch.toNat : Int)) (fuel := 4) rfl (by kernel_rfl) (by kernel_rfl) (by kernel_rfl) (by kernel_rfl) noPanic_false (by kernel_rfl) (fun W hW => x_loadT (x := .tmp 63) (t := 5) (g := go) (j := 66) Try.underlying5 rfl (by kernel_rfl) (by kernel_rfl) ((hW.row HBX.out (H2.out.1.row.other HBX.out (by decide) (by decide) (by decide))).cell (j := 66) HC66.out)) hS0 ?_
              refine tkCallZ 3 59 18 #[idv c.af] (fun v w' => v = idv c.af ∧ After W2 w') (fuel := 3) rfl (by kernel_rfl) (by kernel_rfl) (by kernel_rfl) (fun _ => by kernel_rfl) (Calls.mono (own_any HC.out.1.af _) (fun e w' ⟨he, ha⟩ => ⟨_, he, rfl, (After.drew (After.refl W2)).trans ha⟩)) ?_
              intro v3 w3 ⟨hv3, ha3⟩
              subst hv3
              refine ⟨KeptF.of_after ha3, ?_⟩
              refine tkCallZ 6 62 18 #[idv c.id] (fun v w' => v = idv c.id ∧ After W2 w') (fuel := 2) rfl (by kernel_rfl) (by kernel_rfl) (by kernel_rfl) (fun _ => by kernel_rfl) (Calls.mono (own_any HC.out.1.id _) (fun e w' ⟨he, ha⟩ => ⟨_, he, rfl, ha3.trans ha⟩)) ?_
              intro v4 w4 ⟨hv4, ha4⟩
              subst hv4
              refine ⟨KeptF.of_after ha4, ?_⟩
              refine tkCallZ 9 65 22 #[.pointer (some ⟨g, 0, none⟩), idv c.af, idv c.id, .int .u8 (c.ch.toNat : Int)] (fun v w' => v = .int .i64 0 ∧ ∃ D', RowAt w' w.heap.size g (insF st c.af c.id c.ch) D' ∧ KeptF (Foot g D2) w4 w') (fuel := 1) rfl (by kernel_rfl) (by kernel_rfl) (by kernel_rfl) (fun _ => by kernel_rfl) (Calls.mono (Insert_any (H2.out.1.row.after ha4) HJ.out.ali.wf (by have := HLN.out; omega) HC.out.1.af HC.out.1.id c.ch) (fun e w' ⟨he, D', h1, _, h3⟩ => ⟨_, he, by rw [hE]; rfl, D', h1, h3⟩)) ?_
              intro v5 w5 ⟨hv5, D5, h51, h53⟩
              subst hv5
              have hk5 : KeptF (Foot g D2) W2 w5 := (KeptF.of_after ha4).trans h53 (fun _ _ h => h)
              refine ⟨hk5, ?_⟩
              refine tk 10 66 (.bool true) (fuel := 0) rfl (by kernel_rfl) (by kernel_rfl) (by kernel_rfl) (by kernel_rfl) noPanic_false (by kernel_rfl) (fun _ _ => by kernel_rfl) hk5 ?_
              refine wpAnyH_done (by kernel_rfl) (NoPanic.normal ?_) _
              have ha5 : After w w5 := kept_after H2.out.1.row H2.out.1.aft hk5
              have hl5 : RowR w5 w.heap.size (.slice (some ⟨gs, 0, none⟩) ln lc) lf := H2.out.1.row.refrow hk5 H2.out.1.lft
              obtain ⟨hcap1, hcap2, hcap3⟩ := hl5.cap
              obtain ⟨v6, w6, h61, h62, h63⟩ := app_nilS (hl5.src.take (k := j) (Nat.le_of_lt HC.out.2.2.1) hcap1) (by rw [List.length_take]; have := HLN.out; have := HC.out.2.2.1; omega)
              obtain ⟨va6, c6, hv6⟩ := h62.sl
              obtain ⟨fa, fm, fc, w7, h71, h72, h73⟩ := app_any (W8 := w5) (W := w6) (base := w5.heap.size) (v := v6) h63 (Nat.le_refl _) h63.size h62 ((hl5.after h63).src.drop (k := j + 1) HC.out.2.2.1 hcap1 hcap2 hcap3) (by rw [List.length_take, List.length_drop]; have := HLN.out; have := HC.out.2.2.1; omega)
              obtain ⟨m6, hm6⟩ : ∃ m6, (lf.take j).length = m6 := ⟨_, rfl⟩
              rw [hm6] at hv6
              subst hv6
              have HA6 := show Hid ((Builtin.append_ #[27, 27] 27 #[.slice none 0 0, .slice (some ⟨gs, 0, none⟩) j lc]).run Try.prog w5 = .ok (.slice va6 m6 c6) w6) from h61
              have HA7 := show Hid ((Builtin.append_ #[27, 27] 27 #[.slice va6 m6 c6, .slice (cut27 (some ⟨gs, 0, none⟩) (j + 1) lc) (ln - (j + 1)) (lc - (j + 1))]).run Try.prog w6 = .ok (.slice fa fm fc) w7) from h71
              have HCP := show Hid (j ≤ lc ∧ ln ≤ lc ∧ j + 1 ≤ ln ∧ j + 1 ≤ 100000) from ⟨by have := HC.out.2.2.1; omega, hcap2, HC.out.2.2.1, by have := HC.out.2.2.1; have := HLN.out; omega⟩
              have HF7 := show Hid (Fl w w7 cells g (insF st c.af c.id c.ch) (li ++ [c]) (lf.take j ++ lf.drop (j + 1)) D5 fa fm fc ∧ fm + 1 = ln ∧ (li ++ [c]).length = li.length + 1) from by
                have hrn := rIns_ok HJ.out.ali HSG.out hE
                have ha := HJ.out.ali
                refine ⟨⟨(h51.after h73), ⟨ha.wf.insF HC.out.1.id _, by rw [← hrn]; exact ha.lnk.ins ha.wf _ _ _, by rw [← hrn]; exact ha.kid.ins ha.lnk ha.wf _ _ _⟩, h72.mono ha5.size, perm_take HJ.out.prm HC.out.2.2.2.2, ha5.trans h73⟩, ?_, by simp⟩
                have := h72.cap.1
                rw [List.length_append, List.length_take, List.length_drop] at this
                have := HC.out.2.2.1
                omega
              clear h51 h53 h61 h62 h63 h71 h72 h73 hk5 ha3 ha4 ha5 hl5 hS0 hcap1 hcap2 hcap3 hm6
              go_simp
              go_wp2_with (first
                | (refine wpList_of_run rfl (x_sl27h (x := .tmp 68) (y := .tmp 69) (n := ln) (c := lc) (k := j) (ao := some ⟨gs, 0, none⟩) rfl (by kernel_rfl) (by kernel_rfl) HCP.out.1 (fun e => by cases e)) ?_)
                | (refine wpList_of_run rfl (x_app27 (s := .tmp 67) (x := .tmp 70) (v := .slice none 0 0) (u := .slice (some ⟨gs, 0, none⟩) j lc) rfl (by kernel_rfl) (by kernel_rfl) HA6.out) ?_)
                | (refine wpList_of_run rfl (x_add1 (x := .tmp 74) (k := j) (by have := HCP.out.2.2.2; omega) rfl (by kernel_rfl)) ?_)
                | (refine wpList_of_run rfl (x_sl27l (x := .tmp 73) (y := .tmp 75) (n := ln) (c := lc) (k := j + 1) (ao := some ⟨gs, 0, none⟩) (a' := cut27 (some ⟨gs, 0, none⟩) (j + 1) lc) (j := ln - (j + 1)) (c' := lc - (j + 1)) rfl (by kernel_rfl) rfl HCP.out.2.1 HCP.out.2.2.1 (fun e => by cases e) rfl rfl rfl) ?_)
                | (refine wpList_of_run rfl (x_app27 (s := .tmp 72) (x := .tmp 76) (v := .slice va6 m6 c6) (u := .slice (cut27 (some ⟨gs, 0, none⟩) (j + 1) lc) (ln - (j + 1)) (lc - (j + 1))) rfl (by kernel_rfl) (by kernel_rfl) HA7.out) ?_))
              go_roundw
              case rel => exact ⟨m + 1, fa, fm, fc, by go_num, rfl, by have := HF7.out.2.1; omega, _, _, _, _, HF7.out.1⟩
              case measure => simp [intOf]; have := HF7.out.2.1; omega
            · skip
              refine wp_region_noPanic ?_
              refine wp_region_held_drew (S := KeptF (Foot g D2) W2) (by kernel_rfl) (KeptF.of_after (After.drew (After.refl _))) ?_
              intro hS0
              refine tk 0 56 (.pointer (some ⟨g, 0, none⟩)) (fuel := 10) rfl (by kernel_rfl) (by kernel_rfl) (by kernel_rfl) (by kernel_rfl) noPanic_false (by kernel_rfl) (fun _ _ => by kernel_rfl) hS0 ?_
              refine tk 1 57 (.pointer (some ⟨go, 33, none⟩)) (fuel := 9) rfl (by kernel_rfl) (by kernel_rfl) (by kernel_rfl) (by kernel_rfl) noPanic_false (by kernel_rfl) (fun _ _ => by kernel_rfl) hS0 ?_
              refine tk 2 58 (idv c.af) (fuel := 8) rfl (by kernel_rfl) (by kernel_rfl) (by kernel_rfl) (by kernel_rfl) noPanic_false (by kernel_rfl) (fun W hW => x_ld40m (x := .tmp 57) (g := go) (p := 33) HC.out.1.af (by kernel_rfl) (by kernel_rfl) (by have := range_raf HC.out.1 (hW.row HBX.out (H2.out.1.row.other HBX.out (by decide) (by decide) (by decide))).range0; rwa [Nat.zero_add] at this)) hS0 ?_
              refine tk 4 60 (.pointer (some ⟨go, 0, none⟩)) (fuel := 7) rfl (by kernel_rfl) (by kernel_rfl) (by kernel_rfl) (by kernel_rfl) noPanic_false (by kernel_rfl) (fun _ _ => by kernel_rfl) hS0 ?_
              refine tk 5 61 (idv c.id) (fuel := 6) rfl (by kernel_rfl) (by kernel_rfl) (by kernel_rfl) (by kernel_rfl) noPanic_false (by kernel_rfl) (fun W hW => x_ld40m (x := .tmp 60) (g := go) (p := 0) HC.out.1.id (by kernel_rfl) (by kernel_rfl) (range_rid (hW.row HBX.out (H2.out.1.row.other HBX.out (by decide) (by decide) (by decide))).range0)) hS0 ?_
              refine tk 7 63 (.pointer (some ⟨go, 66, none⟩)) (fuel := 5) rfl (by kernel_rfl) (by kernel_rfl) (by kernel_rfl) (by kernel_rfl) noPanic_false (by kernel_rfl) (fun _ _ => by kernel_rfl) hS0 ?_
              refine tk 8 64 (.int .u8 (c.ch.toNat : Int)) (fuel := 4) rfl (by kernel_rfl) (by kernel_rfl) (by kernel_rfl) (by kernel_rfl) noPanic_false (by kernel_rfl) (fun W hW => x_loadT (x := .tmp 63) (t := 5) (g := go) (j := 66) Try.underlying5 rfl (by kernel_rfl) (by kernel_rfl) ((hW.row HBX.out (H2.out.1.row.other HBX.out (by decide) (by decide) (by decide))).cell (j := 66) HC66.out)) hS0 ?_
              refine tkCallZ 3 59 18 #[idv c.af] (fun v w' => v = idv c.af ∧ After W2 w') (fuel := 3) rfl (by kernel_rfl) (by kernel_rfl) (by kernel_rfl) (fun _ => by kernel_rfl) (Calls.mono (own_any HC.out.1.af _) (fun e w' ⟨he, ha⟩ => ⟨_, he, rfl, (After.drew (After.refl W2)).trans ha⟩)) ?_
              intro v3 w3 ⟨hv3, ha3⟩
              subst hv3
              refine ⟨KeptF.of_after ha3, ?_⟩
              refine tkCallZ 6 62 18 #[idv c.id] (fun v w' => v = idv c.id ∧ After W2 w') (fuel := 2) rfl (by kernel_rfl) (by kernel_rfl) (by kernel_rfl) (fun _ => by kernel_rfl) (Calls.mono (own_any HC.out.1.id _) (fun e w' ⟨he, ha⟩ => ⟨_, he, rfl, ha3.trans ha⟩)) ?_
              intro v4 w4 ⟨hv4, ha4⟩
              subst hv4
              refine ⟨KeptF.of_after ha4, ?_⟩
              refine tkCallZ 9 65 22 #[.pointer (some ⟨g, 0, none⟩), idv c.af, idv c.id, .int .u8 (c.ch.toNat : Int)] (fun v w' => v = .int .i64 ((insE st c.af c.id : Nat) : Int) ∧ ∃ D', RowAt w' w.heap.size g (insF st c.af c.id c.ch) D' ∧ KeptF (Foot g D2) w4 w') (fuel := 1) rfl (by kernel_rfl) (by kernel_rfl) (by kernel_rfl) (fun _ => by kernel_rfl) (Calls.mono (Insert_any (H2.out.1.row.after ha4) HJ.out.ali.wf (by have := HLN.out; omega) HC.out.1.af HC.out.1.id c.ch) (fun e w' ⟨he, D', h1, _, h3⟩ => ⟨_, he, rfl, D', h1, h3⟩)) ?_
              intro v5 w5 ⟨hv5, D5, h51, h53⟩
              subst hv5
              have hk5 : KeptF (Foot g D2) W2 w5 := (KeptF.of_after ha4).trans h53 (fun _ _ h => h)
              refine ⟨hk5, ?_⟩
              refine tk 10 66 (.bool false) (fuel := 0) rfl (by kernel_rfl) (by kernel_rfl) (by kernel_rfl) (by kernel_rfl) noPanic_false (by kernel_rfl) (fun W _ => x_eq51 (x := .tmp 65) (n := insE st c.af c.id) hE (by kernel_rfl) (by kernel_rfl)) hk5 ?_
              refine wpAnyH_done (by kernel_rfl) (NoPanic.normal ?_) _
              have ha5 : After w w5 := kept_after H2.out.1.row H2.out.1.aft hk5
              have HF5 := show Hid (Fl w w5 cells g st li lf D5 (some ⟨gs, 0, none⟩) ln lc) from ⟨by rw [ins_bad hE] at h51; exact h51, HJ.out.ali, H2.out.1.row.refrow hk5 H2.out.1.lft, HJ.out.prm, ha5⟩
              have HN5 := show Hid (∀ i', i' < i + 1 → ∀ c, lf[(k + i') % ln]? = some c → insE st c.af c.id ≠ 0) from fun i' hi' d hd => by
                by_cases q : i' = i
                · subst q
                  rw [HC.out.2.2.2.1, HC.out.2.2.2.2] at hd
                  cases hd
                  exact hE
                · exact HI.out.2 i' (by omega) d hd
              clear h51 h53 hk5 ha3 ha4 ha5 hS0 hE
              go_simp
              go_wp2_with fail
              go_roundw
              case rel => exact ⟨i + 1, by go_num, rfl, by omega, D5, HF5.out, HN5.out⟩
              case measure => simp [intOf]; omega
          · exfalso
            obtain ⟨c, hc, hcan⟩ := HCE.out.1.some_can HJ.out.prm (fun e => by have := HJ.out.lft.cap.1; rw [e] at this; simp at this; omega)
            obtain ⟨j, hj⟩ := List.getElem?_of_mem hc
            have hjl : j < ln := by have := (List.getElem?_eq_some_iff.1 hj).1; have := HJ.out.lft.cap.1; omega
            obtain ⟨i', hi', e⟩ := around hkl hjl
            exact HI.out.2 i' (by omega) c (by rw [e]; exact hj) (can_of HJ.out.ali HCE.out.1 HJ.out.prm hc hcan)
      · have hmti : ¬ (m : Int) < (tn : Int) := by omega
        have hkl : 0 < ln := hpos
        go_wp2_with fail
        go_loopw [6, 9] (fun vl vi wr => ∃ i : Nat, vi = .int .i64 (i : Int) ∧ vl = .slice la ln lc ∧ i ≤ ln ∧ ∃ D2, Hid (Fl w wr cells g st li lf D2 la ln lc ∧ ∀ i', i' < i → ∀ c, lf[(0 + i') % ln]? = some c → insE st c.af c.id ≠ 0)) (fun _ vi _ => ln - (intOf vi).toNat)
        case atStart => exact ⟨0, rfl, rfl, Nat.zero_le _, D, HJ.out, fun i' hi' => absurd hi' (Nat.not_lt_zero _)⟩
        case round =>
          obtain ⟨wk, hwk⟩ : ∃ wk, wk = wr := ⟨_, rfl⟩
          subst hwk
          obtain ⟨i, rfl, rfl, hil, D2, HI⟩ := hrel
          by_cases hilt : i < ln
          · have hii : (i : Int) < (ln : Int) := by omega
            have hj : (0 + i) % ln = i % ln := by rw [Nat.zero_add]
            have hjl : (i % ln) < ln := by rw [← hj]; exact Nat.mod_lt _ (by omega)
            obtain ⟨c, hc⟩ : ∃ c, lf[(i % ln)]? = some c := ⟨_, List.getElem?_eq_getElem (by rw [HI.out.1.lft.cap.1]; exact hjl)⟩
            obtain ⟨gs, hla, -, hr⟩ := HI.out.1.lft.at hc
            subst hla
            rw [Nat.zero_add] at hr
            have HC : Hid (c.Ok ∧ wk.rangeAt gs ((i % ln) * 68) (rcell c) ∧ (i % ln) < ln ∧ (0 + i) % ln = (i % ln) ∧ lf[(i % ln)]? = some c) := ⟨HI.out.1.lft.1 c (List.mem_of_getElem? hc), hr, hjl, hj, hc⟩
            have HC66 : Hid ((rcell c)[66]? = some (.int .u8 (c.ch.toNat : Int))) := by
              show _ = _
              unfold rcell; rw [List.getElem?_append_right (by rw [idc_len HC.out.1.id]; omega), idc_len HC.out.1.id, List.getElem?_append_right (by rw [idc_len HC.out.1.af]; omega), idc_len HC.out.1.af]; rfl
            have HSG : Hid (c.gone = false) := HCE.out.1.stay c (HJ.out.prm.mem_iff.1 (by have := List.mem_of_getElem? hc; simp [this]))
            obtain ⟨W2, hW2⟩ : ∃ W2, (wk.alloc (.cells (rcell zRC).toArray 68)).setRow wk.heap.size (rcell c).toArray = W2 := ⟨_, rfl⟩
            have HZ : Hid (RowIs (wk.alloc (.cells (rcell zRC).toArray 68)) wk.heap.size 68 (rcell zRC)) := RowIs.new wk 68 (rcell zRC)
            have hA2 : After wk W2 := by rw [← hW2]; exact Below.row (after_alloc (After.refl wk) _) (Nat.le_refl _) _
            have HBX : Hid (RowIs W2 wk.heap.size 68 (rcell c)) := by rw [← hW2]; exact HZ.out.setRow _
            have H2 : Hid (Fl w W2 cells g st li lf D2 (some ⟨gs, 0, none⟩) ln lc ∧ True) := ⟨⟨HI.out.1.row.after hA2, HI.out.1.ali, HI.out.1.lft.after hA2, HI.out.1.prm, HI.out.1.aft.trans hA2⟩, trivial⟩
            have HG2 := show Hid _ from hW2
            clear hc hr hW2 hA2 hj hjl
            obtain ⟨go, hgo⟩ : ∃ go, wk.heap.size = go := ⟨_, rfl⟩
            have HGO : Hid (wk.heap.size = go) := hgo
            rw [hgo] at HBX HZ HG2
            go_wp2_with (first
              | (refine wpList_of_run rfl (x_addz (x := .tmp 46) (y := .tmp 47) (p := ((0 : Nat) : Int)) (q := (i : Int)) (by omega) (by omega) rfl (by kernel_rfl) (by kernel_rfl)) ?_)
              | (refine wpList_of_run rfl (x_remi (x := .tmp 48) (y := .tmp 50) (p := 0 + i) (q := ln) (r := (i % ln)) rfl rfl (by kernel_rfl) HC.out.2.2.2.1 (by omega)) ?_)
              | (refine wpList_of_run rfl (x_idx27 (x := .tmp 52) (y := .tmp 53) (b := gs) (f := 0) (n := ln) (c := lc) (k := (i % ln)) rfl (by kernel_rfl) (by kernel_rfl) HC.out.2.2.1) ?_; rw [Nat.zero_add])
              | (refine wpList_of_run rfl (x_ld68m (x := .tmp 54) (g := gs) (p := (i % ln) * 68) (c := c) HC.out.1 rfl (by kernel_rfl) HC.out.2.1) ?_)
              | (refine wpList_of_run rfl ((x_al68 rfl).trans (by rw [HGO.out])) ?_)
              | (refine wpList_store_row rfl 68 (.tmp 11) (.tmp 55) rfl go (rcell c).toArray rfl rfl 68 _ HZ.out (size68 HC.out.1) (by simp [rcell_len HC.out.1, rcell_len zRC_ok]) (by simpa using rcell_one c) ?_; rw [HG2.out]))
            by_cases hE : insE st c.af c.id = 0
            · skip
              refine wp_region_noPanic ?_
              refine wp_region_held_drew (S := KeptF (Foot g D2) W2) (by kernel_rfl) (KeptF.of_after (After.drew (After.refl _))) ?_
              intro hS0
              refine tk 0 56 (.pointer (some ⟨g, 0, none⟩)) (fuel := 10) rfl (by kernel_rfl) (by kernel_rfl) (by kernel_rfl) (by kernel_rfl) noPanic_false (by kernel_rfl) (fun _ _ => by kernel_rfl) hS0 ?_
              refine tk 1 57 (.pointer (some ⟨go, 33, none⟩)) (fuel := 9) rfl (by kernel_rfl) (by kernel_rfl) (by kernel_rfl) (by kernel_rfl) noPanic_false (by kernel_rfl) (fun _ _ => by kernel_rfl) hS0 ?_
              refine tk 2 58 (idv c.af) (fuel := 8) rfl (by kernel_rfl) (by kernel_rfl) (by kernel_rfl) (by kernel_rfl) noPanic_false (by kernel_rfl) (fun W hW => x_ld40m (x := .tmp 57) (g := go) (p := 33) HC.out.1.af (by kernel_rfl) (by kernel_rfl) (by have := range_raf HC.out.1 (hW.row HBX.out (H2.out.1.row.other HBX.out (by decide) (by decide) (by decide))).range0; rwa [Nat.zero_add] at this)) hS0 ?_
              refine tk 4 60 (.pointer (some ⟨go, 0, none⟩)) (fuel := 7) rfl (by kernel_rfl) (by kernel_rfl) (by kernel_rfl) (by kernel_rfl) noPanic_false (by kernel_rfl) (fun _ _ => by kernel_rfl) hS0 ?_
              refine tk 5 61 (idv c.id) (fuel := 6) rfl (by kernel_rfl) (by kernel_rfl) (by kernel_rfl) (by kernel_rfl) noPanic_false (by kernel_rfl) (fun W hW => x_ld40m (x := .tmp 60) (g := go) (p := 0) HC.out.1.id (by kernel_rfl) (by kernel_rfl) (range_rid (hW.row HBX.out (H2.out.1.row.other HBX.out (by decide) (by decide) (by decide))).range0)) hS0 ?_
              refine tk 7 63 (.pointer (some ⟨go, 66, none⟩)) (fuel := 5) rfl (by kernel_rfl) (by kernel_rfl) (by kernel_rfl) (by kernel_rfl) noPanic_false (by kernel_rfl) (fun _ _ => by kernel_rfl) hS0 ?_
              refine tk 8 64 (.int .u8 (c.ch.toNat : Int)) (fuel := 4) rfl (by kernel_rfl) (by kernel_rfl) (by kernel_rfl) (by kernel_rfl) noPanic_false (by kernel_rfl) (fun W hW => x_loadT (x := .tmp 63) (t := 5) (g := go) (j := 66) Try.underlying5 rfl (by kernel_rfl) (by kernel_rfl) ((hW.row HBX.out (H2.out.1.row.other HBX.out (by decide) (by decide) (by decide))).cell (j := 66) HC66.out)) hS0 ?_
              refine tkCallZ 3 59 18 #[idv c.af] (fun v w' => v = idv c.af ∧ After W2 w') (fuel := 3) rfl (by kernel_rfl) (by kernel_rfl) (by kernel_rfl) (fun _ => by kernel_rfl) (Calls.mono (own_any HC.out.1.af _) (fun e w' ⟨he, ha⟩ => ⟨_, he, rfl, (After.drew (After.refl W2)).trans ha⟩)) ?_
              intro v3 w3 ⟨hv3, ha3⟩
              subst hv3
              refine ⟨KeptF.of_after ha3, ?_⟩
              refine tkCallZ 6 62 18 #[idv c.id] (fun v w' => v = idv c.id ∧ After W2 w') (fuel := 2) rfl (by kernel_rfl) (by kernel_rfl) (by kernel_rfl) (fun _ => by kernel_rfl) (Calls.mono (own_any HC.out.1.id _) (fun e w' ⟨he, ha⟩ => ⟨_, he, rfl, ha3.trans ha⟩)) ?_
              intro v4 w4 ⟨hv4, ha4⟩
              subst hv4
              refine ⟨KeptF.of_after ha4, ?_⟩
              refine tkCallZ 9 65 22 #[.pointer (some ⟨g, 0, none⟩), idv c.af, idv c.id, .int .u8 (c.ch.toNat : Int)] (fun v w' => v = .int .i64 0 ∧ ∃ D', RowAt w' w.heap.size g (insF st c.af c.id c.ch) D' ∧ KeptF (Foot g D2) w4 w') (fuel := 1) rfl (by kernel_rfl) (by kernel_rfl) (by kernel_rfl) (fun _ => by kernel_rfl) (Calls.mono (Insert_any (H2.out.1.row.after ha4) HJ.out.ali.wf (by have := HLN.out; omega) HC.out.1.af HC.out.1.id c.ch) (fun e w' ⟨he, D', h1, _, h3⟩ => ⟨_, he, by rw [hE]; rfl, D', h1, h3⟩)) ?_
              intro v5 w5 ⟨hv5, D5, h51, h53⟩
              subst hv5
              have hk5 : KeptF (Foot g D2) W2 w5 := (KeptF.of_after ha4).trans h53 (fun _ _ h => h)
              refine ⟨hk5, ?_⟩
              refine tk 10 66 (.bool true) (fuel := 0) rfl (by kernel_rfl) (by kernel_rfl) (by kernel_rfl) (by kernel_rfl) noPanic_false (by kernel_rfl) (fun _ _ => by kernel_rfl) hk5 ?_
              refine wpAnyH_done (by kernel_rfl) (NoPanic.normal ?_) _
              have ha5 : After w w5 := kept_after H2.out.1.row H2.out.1.aft hk5
              have hl5 : RowR w5 w.heap.size (.slice (some ⟨gs, 0, none⟩) ln lc) lf := H2.out.1.row.refrow hk5 H2.out.1.lft
              obtain ⟨hcap1, hcap2, hcap3⟩ := hl5.cap
              obtain ⟨v6, w6, h61, h62, h63⟩ := app_nilS (hl5.src.take (k := (i % ln)) (Nat.le_of_lt HC.out.2.2.1) hcap1) (by rw [List.length_take]; have := HLN.out; have := HC.out.2.2.1; omega)
              obtain ⟨va6, c6, hv6⟩ := h62.sl
              obtain ⟨fa, fm, fc, w7, h71, h72, h73⟩ := app_any (W8 := w5) (W := w6) (base := w5.heap.size) (v := v6) h63 (Nat.le_refl _) h63.size h62 ((hl5.after h63).src.drop (k := (i % ln) + 1) HC.out.2.2.1 hcap1 hcap2 hcap3) (by rw [List.length_take, List.length_drop]; have := HLN.out; have := HC.out.2.2.1; omega)
              obtain ⟨m6, hm6⟩ : ∃ m6, (lf.take (i % ln)).length = m6 := ⟨_, rfl⟩
              rw [hm6] at hv6
              subst hv6
              have HA6 := show Hid ((Builtin.append_ #[27, 27] 27 #[.slice none 0 0, .slice (some ⟨gs, 0, none⟩) (i % ln) lc]).run Try.prog w5 = .ok (.slice va6 m6 c6) w6) from h61
              have HA7 := show Hid ((Builtin.append_ #[27, 27] 27 #[.slice va6 m6 c6, .slice (cut27 (some ⟨gs, 0, none⟩) ((i % ln) + 1) lc) (ln - ((i % ln) + 1)) (lc - ((i % ln) + 1))]).run Try.prog w6 = .ok (.slice fa fm fc) w7) from h71
              have HCP := show Hid ((i % ln) ≤ lc ∧ ln ≤ lc ∧ (i % ln) + 1 ≤ ln ∧ (i % ln) + 1 ≤ 100000) from ⟨by have := HC.out.2.2.1; omega, hcap2, HC.out.2.2.1, by have := HC.out.2.2.1; have := HLN.out; omega⟩
              have HF7 := show Hid (Fl w w7 cells g (insF st c.af c.id c.ch) (li ++ [c]) (lf.take (i % ln) ++ lf.drop ((i % ln) + 1)) D5 fa fm fc ∧ fm + 1 = ln ∧ (li ++ [c]).length = li.length + 1) from by
                have hrn := rIns_ok HJ.out.ali HSG.out hE
                have ha := HJ.out.ali
                refine ⟨⟨(h51.after h73), ⟨ha.wf.insF HC.out.1.id _, by rw [← hrn]; exact ha.lnk.ins ha.wf _ _ _, by rw [← hrn]; exact ha.kid.ins ha.lnk ha.wf _ _ _⟩, h72.mono ha5.size, perm_take HJ.out.prm HC.out.2.2.2.2, ha5.trans h73⟩, ?_, by simp⟩
                have := h72.cap.1
                rw [List.length_append, List.length_take, List.length_drop] at this
                have := HC.out.2.2.1
                omega
              clear h51 h53 h61 h62 h63 h71 h72 h73 hk5 ha3 ha4 ha5 hl5 hS0 hcap1 hcap2 hcap3 hm6
              go_simp
              go_wp2_with (first
                | (refine wpList_of_run rfl (x_sl27h (x := .tmp 68) (y := .tmp 69) (n := ln) (c := lc) (k := (i % ln)) (ao := some ⟨gs, 0, none⟩) rfl (by kernel_rfl) (by kernel_rfl) HCP.out.1 (fun e => by cases e)) ?_)
                | (refine wpList_of_run rfl (x_app27 (s := .tmp 67) (x := .tmp 70) (v := .slice none 0 0) (u := .slice (some ⟨gs, 0, none⟩) (i % ln) lc) rfl (by kernel_rfl) (by kernel_rfl) HA6.out) ?_)
                | (refine wpList_of_run rfl (x_add1 (x := .tmp 74) (k := (i % ln)) (by have := HCP.out.2.2.2; omega) rfl (by kernel_rfl)) ?_)
                | (refine wpList_of_run rfl (x_sl27l (x := .tmp 73) (y := .tmp 75) (n := ln) (c := lc) (k := (i % ln) + 1) (ao := some ⟨gs, 0, none⟩) (a' := cut27 (some ⟨gs, 0, none⟩) ((i % ln) + 1) lc) (j := ln - ((i % ln) + 1)) (c' := lc - ((i % ln) + 1)) rfl (by kernel_rfl) rfl HCP.out.2.1 HCP.out.2.2.1 (fun e => by cases e) rfl rfl rfl) ?_)
                | (refine wpList_of_run rfl (x_app27 (s := .tmp 72) (x := .tmp 76) (v := .slice va6 m6 c6) (u := .slice (cut27 (some ⟨gs, 0, none⟩) ((i % ln) + 1) lc) (ln - ((i % ln) + 1)) (lc - ((i % ln) + 1))) rfl (by kernel_rfl) (by kernel_rfl) HA7.out) ?_))
              go_roundw
              case rel => exact ⟨m + 1, fa, fm, fc, by go_num, rfl, by have := HF7.out.2.1; omega, _, _, _, _, HF7.out.1⟩
              case measure => simp [intOf]; have := HF7.out.2.1; omega
            · skip
              refine wp_region_noPanic ?_
              refine wp_region_held_drew (S := KeptF (Foot g D2) W2) (by kernel_rfl) (KeptF.of_after (After.drew (After.refl _))) ?_
              intro hS0
              refine tk 0 56 (.pointer (some ⟨g, 0, none⟩)) (fuel := 10) rfl (by kernel_rfl) (by kernel_rfl) (by kernel_rfl) (by kernel_rfl) noPanic_false (by kernel_rfl) (fun _ _ => by kernel_rfl) hS0 ?_
              refine tk 1 57 (.pointer (some ⟨go, 33, none⟩)) (fuel := 9) rfl (by kernel_rfl) (by kernel_rfl) (by kernel_rfl) (by kernel_rfl) noPanic_false (by kernel_rfl) (fun _ _ => by kernel_rfl) hS0 ?_
              refine tk 2 58 (idv c.af) (fuel := 8) rfl (by kernel_rfl) (by kernel_rfl) (by kernel_rfl) (by kernel_rfl) noPanic_false (by kernel_rfl) (fun W hW => x_ld40m (x := .tmp 57) (g := go) (p := 33) HC.out.1.af (by kernel_rfl) (by kernel_rfl) (by have := range_raf HC.out.1 (hW.row HBX.out (H2.out.1.row.other HBX.out (by decide) (by decide) (by decide))).range0; rwa [Nat.zero_add] at this)) hS0 ?_
              refine tk 4 60 (.pointer (some ⟨go, 0, none⟩)) (fuel := 7) rfl (by kernel_rfl) (by kernel_rfl) (by kernel_rfl) (by kernel_rfl) noPanic_false (by kernel_rfl) (fun _ _ => by kernel_rfl) hS0 ?_
              refine tk 5 61 (idv c.id) (fuel := 6) rfl (by kernel_rfl) (by kernel_rfl) (by kernel_rfl) (by kernel_rfl) noPanic_false (by kernel_rfl) (fun W hW => x_ld40m (x := .tmp 60) (g := go) (p := 0) HC.out.1.id (by kernel_rfl) (by kernel_rfl) (range_rid (hW.row HBX.out (H2.out.1.row.other HBX.out (by decide) (by decide) (by decide))).range0)) hS0 ?_
              refine tk 7 63 (.pointer (some ⟨go, 66, none⟩)) (fuel := 5) rfl (by kernel_rfl) (by kernel_rfl) (by kernel_rfl) (by kernel_rfl) noPanic_false (by kernel_rfl) (fun _ _ => by kernel_rfl) hS0 ?_
              refine tk 8 64 (.int .u8 (c.ch.toNat : Int)) (fuel := 4) rfl (by kernel_rfl) (by kernel_rfl) (by kernel_rfl) (by kernel_rfl) noPanic_false (by kernel_rfl) (fun W hW => x_loadT (x := .tmp 63) (t := 5) (g := go) (j := 66) Try.underlying5 rfl (by kernel_rfl) (by kernel_rfl) ((hW.row HBX.out (H2.out.1.row.other HBX.out (by decide) (by decide) (by decide))).cell (j := 66) HC66.out)) hS0 ?_
              refine tkCallZ 3 59 18 #[idv c.af] (fun v w' => v = idv c.af ∧ After W2 w') (fuel := 3) rfl (by kernel_rfl) (by kernel_rfl) (by kernel_rfl) (fun _ => by kernel_rfl) (Calls.mono (own_any HC.out.1.af _) (fun e w' ⟨he, ha⟩ => ⟨_, he, rfl, (After.drew (After.refl W2)).trans ha⟩)) ?_
              intro v3 w3 ⟨hv3, ha3⟩
              subst hv3
              refine ⟨KeptF.of_after ha3, ?_⟩
              refine tkCallZ 6 62 18 #[idv c.id] (fun v w' => v = idv c.id ∧ After W2 w') (fuel := 2) rfl (by kernel_rfl) (by kernel_rfl) (by kernel_rfl) (fun _ => by kernel_rfl) (Calls.mono (own_any HC.out.1.id _) (fun e w' ⟨he, ha⟩ => ⟨_, he, rfl, ha3.trans ha⟩)) ?_
              intro v4 w4 ⟨hv4, ha4⟩
              subst hv4
              refine ⟨KeptF.of_after ha4, ?_⟩
              refine tkCallZ 9 65 22 #[.pointer (some ⟨g, 0, none⟩), idv c.af, idv c.id, .int .u8 (c.ch.toNat : Int)] (fun v w' => v = .int .i64 ((insE st c.af c.id : Nat) : Int) ∧ ∃ D', RowAt w' w.heap.size g (insF st c.af c.id c.ch) D' ∧ KeptF (Foot g D2) w4 w') (fuel := 1) rfl (by kernel_rfl) (by kernel_rfl) (by kernel_rfl) (fun _ => by kernel_rfl) (Calls.mono (Insert_any (H2.out.1.row.after ha4) HJ.out.ali.wf (by have := HLN.out; omega) HC.out.1.af HC.out.1.id c.ch) (fun e w' ⟨he, D', h1, _, h3⟩ => ⟨_, he, rfl, D', h1, h3⟩)) ?_
              intro v5 w5 ⟨hv5, D5, h51, h53⟩
              subst hv5
              have hk5 : KeptF (Foot g D2) W2 w5 := (KeptF.of_after ha4).trans h53 (fun _ _ h => h)
              refine ⟨hk5, ?_⟩
              refine tk 10 66 (.bool false) (fuel := 0) rfl (by kernel_rfl) (by kernel_rfl) (by kernel_rfl) (by kernel_rfl) noPanic_false (by kernel_rfl) (fun W _ => x_eq51 (x := .tmp 65) (n := insE st c.af c.id) hE (by kernel_rfl) (by kernel_rfl)) hk5 ?_
              refine wpAnyH_done (by kernel_rfl) (NoPanic.normal ?_) _
              have ha5 : After w w5 := kept_after H2.out.1.row H2.out.1.aft hk5
              have HF5 := show Hid (Fl w w5 cells g st li lf D5 (some ⟨gs, 0, none⟩) ln lc) from ⟨by rw [ins_bad hE] at h51; exact h51, HJ.out.ali, H2.out.1.row.refrow hk5 H2.out.1.lft, HJ.out.prm, ha5⟩
              have HN5 := show Hid (∀ i', i' < i + 1 → ∀ c, lf[(0 + i') % ln]? = some c → insE st c.af c.id ≠ 0) from fun i' hi' d hd => by
                by_cases q : i' = i
                · subst q
                  rw [HC.out.2.2.2.1, HC.out.2.2.2.2] at hd
                  cases hd
                  exact hE
                · exact HI.out.2 i' (by omega) d hd
              clear h51 h53 hk5 ha3 ha4 ha5 hS0 hE
              go_simp
              go_wp2_with fail
              go_roundw
              case rel => exact ⟨i + 1, by go_num, rfl, by omega, D5, HF5.out, HN5.out⟩
              case measure => simp [intOf]; omega
          · exfalso
            obtain ⟨c, hc, hcan⟩ := HCE.out.1.some_can HJ.out.prm (fun e => by have := HJ.out.lft.cap.1; rw [e] at this; simp at this; omega)
            obtain ⟨j, hj⟩ := List.getElem?_of_mem hc
            have hjl : j < ln := by have := (List.getElem?_eq_some_iff.1 hj).1; have := HJ.out.lft.cap.1; omega
            obtain ⟨i', hi', e⟩ := around hkl hjl
            exact HI.out.2 i' (by omega) c (by rw [e]; exact hj) (can_of HJ.out.ali HCE.out.1 HJ.out.prm hc hcan)
    · obtain rfl : ln = 0 := by omega
      have HP : Hid (li.Perm cells) := by
        have h1 := HJ.out.lft.cap.1
        have h2 := HJ.out.prm
        rw [List.eq_nil_of_length_eq_zero h1, List.append_nil] at h2
        exact h2
      go_wp2_with fail
      go_ret
      exact ⟨_, D, st, li, rfl, HJ.out.row, HJ.out.ali, HP.out, HJ.out.aft⟩
end Go.Proofs.Ytiglenomigipmaa

namespace Go.Proofs.Ytiglenomigipmaa
open Go.RowKit Go.Shelf Go.Maps Go.WideMaps Go.WideAt Mp
attribute [local go_sem] Oper.semAt_some
set_option maxRecDepth 100000 in
theorem eq35s (a : List UInt8) (ha : a.length = 32) (w : World) : (Op.equalIn 9998 35 (.agg (c8 a).toArray) (.agg (c8 a).toArray)).run Try.prog w = .ok true w := by
  obtain ⟨i, hi, hz⟩ := Option.map_eq_some_iff.1 info5
  have h := run_equalIn_array (P := Try.prog) w 9997 (c8 a).toArray (c8 a).toArray Try.underlying35 hi
  rw [cells5', eqItems5 9996 a a w (List.range 32) (fun i hi => by simp at hi; omega)] at h
  rw [show (9998 : Nat) = 9997 + 1 from rfl, h]
  congr 1
  simp
set_option maxRecDepth 100000 in
theorem eq37s (x : Idn) (hx : x.Ok) (w : World) : (Op.equalIn 9999 37 (.agg (idc x).toArray) (.agg (idc x).toArray)).run Try.prog w = .ok true w := by
  have u3 := Try.underlying3
  have hS : Try.prog.underlying 37 = some (.struct (Try.prog.fieldsOf 37)) := by kernel_rfl
  have hp : Try.prog.stoodInHeld 37 = false := by kernel_rfl
  have a3 : ∀ w, (isAgg 3).run Try.prog w = .ok false w := fun w => by unfold isAgg; rw [Sem.run_bind, run_underlying u3 w]; rfl
  have h35 := eq35s x.b hx.len w
  rw [show (9999 : Nat) = 9998 + 1 from rfl, run_equalIn_agg w 9998 37 _ _ hS hp]
  simp only [Program.fieldsOf, Try.underlying37]
  have t1 : List.take 32 (idc x).tail = c8 x.b := by rw [show (idc x).tail = c8 x.b from rfl, List.take_of_length_le (by rw [c8_len, hx.len]; omega)]
  have z1 : (idc x)[0]? = some (.int .i64 x.c) := rfl
  go_simp
set_option maxRecDepth 100000 in
theorem eq63s (x : Idn) (hx : x.Ok) (ch : UInt8) (gn : Bool) (w : World) : (Op.equalIn 10000 63 (.agg (ccell x ch gn).toArray) (.agg (ccell x ch gn).toArray)).run Try.prog w = .ok true w := by
  have u5 := Try.underlying5
  have u4 := Try.underlying4
  have hS : Try.prog.underlying 63 = some (.struct (Try.prog.fieldsOf 63)) := by kernel_rfl
  have hp : Try.prog.stoodInHeld 63 = false := by kernel_rfl
  have a5 : ∀ w, (isAgg 5).run Try.prog w = .ok false w := fun w => by unfold isAgg; rw [Sem.run_bind, run_underlying u5 w]; rfl
  have a4 : ∀ w, (isAgg 4).run Try.prog w = .ok false w := fun w => by unfold isAgg; rw [Sem.run_bind, run_underlying u4 w]; rfl
  have u3 := Try.underlying3
  have a3 : ∀ w, (isAgg 3).run Try.prog w = .ok false w := fun w => by unfold isAgg; rw [Sem.run_bind, run_underlying u3 w]; rfl
  have h35 := eq35s x.b hx.len w
  have tt : List.take 32 (idc x).tail = c8 x.b := by rw [show (idc x).tail = c8 x.b from rfl, List.take_of_length_le (by rw [c8_len, hx.len]; omega)]
  have zz : (idc x)[0]? = some (.int .i64 x.c) := rfl
  rw [show (10000 : Nat) = 9999 + 1 from rfl, run_equalIn_agg w 9999 63 _ _ hS hp]
  simp only [Program.fieldsOf, Try.underlying63]
  have t1 : List.take 33 (ccell x ch gn) = idc x := by unfold ccell; rw [List.take_left' (idc_len hx)]
  have z1 : (ccell x ch gn)[33]? = some (.int .u8 (ch.toNat : Int)) := by unfold ccell; rw [List.getElem?_append_right (by rw [idc_len hx]; omega), idc_len hx]; rfl
  have z2 : (ccell x ch gn)[34]? = some (.bool gn) := by unfold ccell; rw [List.getElem?_append_right (by rw [idc_len hx]; omega), idc_len hx]; rfl
  go_simp
theorem x_ne63 {oi : Oper} {a : Act} {w : World} {x y : Operand} {id : Idn} {ch : UInt8} {gn : Bool} (hid : id.Ok) (hop : oi.op = .binOp .neq 63 x y 63) (hx : a.eval x = .agg (ccell id ch gn).toArray) (hy : a.eval y = .agg (ccell id ch gn).toArray) : (execOp a.eval oi).run Try.prog w = .ok (.value (.bool false)) w := by
  have he := eq63s id hid ch gn w
  have hm : Try.prog.eqGuardType Try.prog.depth 63 = false := by kernel_rfl
  unfold execOp
  simp only [hop, hx, hy, Sem.run_bind, run_eqGuard_agg w .neq 63 x y _ _ hm, run_neq_struct, he, Result.andThen_ok]
  rfl
theorem all_len : ∀ (m : Nat) {L : List Nat}, (∀ x, x < m → x ∈ L) → m ≤ L.length
  | 0, _, _ => Nat.zero_le _
  | m + 1, L, h => by
    have h1 := all_len m (L := L.filter (fun x => x != m)) (fun x hx => List.mem_filter.2 ⟨h x (by omega), by simp; omega⟩)
    have h2 := filter_lt (p := fun x => x != m) (q := fun _ => true) (fun _ _ => rfl) (L := L) ⟨m, h m (by omega), by simp, rfl⟩
    have h3 : L.filter (fun _ => true) = L := List.filter_eq_self.2 (fun _ _ => rfl)
    rw [h3] at h2
    omega
theorem Reach.count {st : List Stm} (hw : Wf st) {U : List Nat} (hU : Reach st U []) : U.length + 1 = st.length := by
  have h1 := (hU.inv hw)
  have n0 : (0 :: U).Nodup := List.nodup_cons.2 ⟨fun hm => by have := (h1.par 0 (by simpa using hm)).1; omega, by simpa using h1.nd⟩
  have hpos : 0 < st.length := by obtain ⟨s, hs, _⟩ := hw.root; exact (List.getElem?_eq_some_iff.1 hs).1
  have a1 := nodup_len st.length n0 (fun x hx => by
    rcases List.mem_cons.1 hx with rfl | hx
    · exact hpos
    · exact (h1.par x (by simpa using hx)).2.1)
  have a2 := all_len st.length (L := 0 :: U) (fun x hx => by
    by_cases e : x = 0
    · simp [e]
    · exact List.mem_cons_of_mem _ (hw.whole hU x (by omega) hx))
  simp only [List.length_cons] at a1 a2
  omega
/-- What a row tells that was filled with some cells. -/
def tolds (cells : List RC) : List RC := bl cells (cells.length + 1) zId
theorem told_of {st : List Stm} {li cells : List RC} (hA : Alike st li) (hp : li.Perm cells) (hG : Gd cells) {U : List Nat} (hU : Reach st U []) : U.map (cOf st) = (tolds cells).map (fun c => ccell c.id c.ch c.gone) ∧ (U.map (cOf st)).length = cells.length := by
  have hl := hA.lnk.len
  have hpl := hp.length_eq
  have hG2 : (li.map (·.id)).Nodup := ((hp.map _).nodup_iff).2 hG.nod
  refine ⟨?_, ?_⟩
  · rw [hA.told hU, bl_perm hp (fun c hc => (hG.ok c (hp.mem_iff.1 hc)).id) hG2, hl, hpl]; rfl
  · rw [List.length_map]
    have := hU.count hA.wf
    omega
set_option maxRecDepth 100000 in
set_option maxHeartbeats 3200000 in
theorem any_any {w : World} {va ta : Option Addr} {n cap tn tc : Nat} {ps : List Put} {ab : List UInt8} (hn : ps.length = n) (hok : ∀ p ∈ ps, p.Ok) (hin : PutsIn w va ps) (htn : ab.length = tn) (hat : BytesAt w ta ab) :
    Calls Try.prog 8 #[.slice va n cap, .slice ta tn tc] w fun e w' => e = .returned (.bool true) ∧ After w w' := by
  by_cases h120 : n ≤ 120
  · have HD : Hid (decide (n ≤ 120) = true) := decide_eq_true h120
    have HTM : Hid (Calls Try.prog 27 #[.slice va n cap] w fun e w' => ∃ v cells, e = .returned v ∧ RowR w' w.heap.size v cells ∧ Gd cells ∧ cells.length ≤ n ∧ After w w') := tame_any hn hok hin h120
    have HAT : Hid (ab.length = tn ∧ ∀ W, After w W → BytesAt W ta ab) := ⟨htn, fun W hW hne => by
      obtain ⟨b, o, e, hc⟩ := hat hne
      exact ⟨b, o, e, fun j hj => (Below.cell hW (p := ⟨b, o + j, none⟩) (World.block_lt_of_cell? w _ (hc j hj))).trans (hc j hj)⟩⟩
    clear hn hok hin htn hat
    go_enter Try.func8, Try.ntmps8
    go_wp2_with (first
      | (go_at_call 11; refine Calls.mono (few_any va n cap) ?_; rintro e w0 ⟨rfl, rfl⟩; rw [HD.out])
      | (go_at_call 27; refine Calls.mono HTM.out ?_; clear HTM; rintro e w1 ⟨v1, cells, rfl, hr1, hg1, hl1, ha1⟩; obtain ⟨ca, cc, hv1⟩ := hr1.sl; obtain ⟨cn, hcn⟩ : ∃ cn, cells.length = cn := ⟨_, rfl⟩; rw [hcn] at hv1; subst hv1; have H1 := show Hid (RowR w1 w0.heap.size (.slice ca cn cc) cells ∧ Gd cells ∧ cells.length = cn ∧ cn ≤ 120 ∧ After w0 w1) from ⟨hr1, hg1, hcn, by omega, ha1⟩; clear hr1 hg1 hl1 ha1 hcn)
      | (go_at_call 28; refine Calls.mono (filled_any (ab := []) H1.out.1 H1.out.2.1 (by have := H1.out.2.2.1; have := H1.out.2.2.2.1; omega) rfl (fun h => absurd rfl h)) ?_; rintro e w2 ⟨g1, D1, st1, li1, rfl, hr2, hA2, hp2, ha2⟩; have H2 := show Hid (RowAt w2 w1.heap.size g1 st1 D1 ∧ Alike st1 li1 ∧ li1.Perm cells ∧ After w1 w2) from ⟨hr2, hA2, hp2, ha2⟩; clear hr2 hA2 hp2 ha2)
      | (go_at_call 28; refine Calls.mono (filled_any (H1.out.1.after H2.out.2.2.2) H1.out.2.1 (by have := H1.out.2.2.1; have := H1.out.2.2.2.1; omega) HAT.out.1 (HAT.out.2 w2 (H1.out.2.2.2.2.trans H2.out.2.2.2))) ?_; rintro e w3 ⟨g2, D2, st2, li2, rfl, hr3, hA3, hp3, ha3⟩; have H3 := show Hid (RowAt w3 w2.heap.size g2 st2 D2 ∧ Alike st2 li2 ∧ li2.Perm cells ∧ After w2 w3 ∧ RowAt w3 w1.heap.size g1 st1 D1) from ⟨hr3, hA3, hp3, ha3, H2.out.1.after ha3⟩; clear hr3 hA3 hp3 ha3)
      | (go_at_call 24; refine Calls.mono (Cells_any H3.out.2.2.2.2 H2.out.2.1.wf (by have := H2.out.2.1.lnk.len; have := H2.out.2.2.1.length_eq; have := H1.out.2.2.1; have := H1.out.2.2.2.1; omega)) ?_; rintro e w4 ⟨v4, U1, rfl, hU1, ho4, ha4⟩; obtain ⟨ht1, ht2⟩ := told_of H2.out.2.1 H2.out.2.2.1 H1.out.2.1 hU1; obtain ⟨xa, xc, hxv⟩ := own_sl ho4; rw [ht2, H1.out.2.2.1] at hxv; subst hxv; rw [ht1] at ho4; have H4 := show Hid (OwnL w4 w3.heap.size 63 35 (.slice xa cn xc) ((tolds cells).map (fun c => ccell c.id c.ch c.gone)) ∧ After w3 w4) from ⟨ho4, ha4⟩; clear ho4 ha4 ht1 ht2 hU1)
      | (go_at_call 24; refine Calls.mono (Cells_any (H3.out.1.after H4.out.2) H3.out.2.1.wf (by have := H3.out.2.1.lnk.len; have := H3.out.2.2.1.length_eq; have := H1.out.2.2.1; have := H1.out.2.2.2.1; omega)) ?_; rintro e w5 ⟨v5, U2, rfl, hU2, ho5, ha5⟩; obtain ⟨ht1, ht2⟩ := told_of H3.out.2.1 H3.out.2.2.1 H1.out.2.1 hU2; obtain ⟨ya, yc, hyv⟩ := own_sl ho5; rw [ht2, H1.out.2.2.1] at hyv; subst hyv; rw [ht1] at ho5 ht2; have H5 := show Hid (OwnL w5 w4.heap.size 63 35 (.slice ya cn yc) ((tolds cells).map (fun c => ccell c.id c.ch c.gone)) ∧ After w4 w5 ∧ OwnL w5 w3.heap.size 63 35 (.slice xa cn xc) ((tolds cells).map (fun c => ccell c.id c.ch c.gone)) ∧ (tolds cells).length = cn) from ⟨ho5, ha5, H4.out.1.same (fun b hb => ha5.block b (own_lt H4.out.1.2 hb).2.1), by rw [List.length_map] at ht2; rw [ht2]; exact H1.out.2.2.1⟩; clear ho5 ha5 ht1 ht2 hU2))
    have H6 : Hid (After w0 w5) := (((H1.out.2.2.2.2.trans H2.out.2.2.2).trans H3.out.2.2.2.1).trans H4.out.2).trans H5.out.2.1
    have hcn : cn ≤ 120 := H1.out.2.2.2.1
    go_loopw [10] (fun vi wr => ∃ i : Nat, vi = .int .i64 (i : Int) ∧ i ≤ cn ∧ Hid (After w5 wr)) (fun vi _ => cn - (intOf vi).toNat)
    case atStart => exact ⟨0, rfl, Nat.zero_le _, After.refl w5⟩
    case round =>
      obtain ⟨i, rfl, hicn, HJ⟩ := hrel
      by_cases hlt : i < cn
      · have hii : (i : Int) < (cn : Int) := by omega
        obtain ⟨c, hc⟩ : ∃ c, (tolds cells)[i]? = some c := ⟨_, List.getElem?_eq_getElem (by rw [H5.out.2.2.2]; exact hlt)⟩
        have hok : c.id.Ok := (H1.out.2.1.ok c (bl_mem (List.mem_of_getElem? hc))).id
        have hci : ((tolds cells).map (fun c => ccell c.id c.ch c.gone))[i]? = some (ccell c.id c.ch c.gone) := by rw [List.getElem?_map, hc]; rfl
        obtain ⟨gx, hxa, -, -⟩ := own_cell H5.out.2.2.1 hci hok
        subst hxa
        obtain ⟨gy, hya, -, -⟩ := own_cell H5.out.1 hci hok
        subst hya
        have HI : Hid (i < cn ∧ c.id.Ok ∧ wr.rangeAt gx (i * 35) (ccell c.id c.ch c.gone) ∧ wr.rangeAt gy (i * 35) (ccell c.id c.ch c.gone)) := ⟨hlt, hok, range_after (H5.out.2.2.1.range hci) HJ.out, range_after (H5.out.1.range hci) HJ.out⟩
        clear hc hci hok
        go_wp2_with fail
        refine wp_region_noPanic ?_
        refine wp_region_held_drew (S := After wr) (by kernel_rfl) (After.drew (After.refl _)) ?_
        intro hS0
        refine tk 0 44 (.slice (some ⟨gx, 0, none⟩) cn xc) (fuel := 8) rfl (by kernel_rfl) (by kernel_rfl) (by kernel_rfl) (by kernel_rfl) noPanic_false (by kernel_rfl) (fun _ _ => by kernel_rfl) hS0 ?_
        refine tk 1 45 (.int .i64 (i : Int)) (fuel := 7) rfl (by kernel_rfl) (by kernel_rfl) (by kernel_rfl) (by kernel_rfl) noPanic_false (by kernel_rfl) (fun _ _ => by kernel_rfl) hS0 ?_
        refine tk 2 46 (.pointer (some ⟨gx, i * 35, none⟩)) (fuel := 6) rfl (by kernel_rfl) (by kernel_rfl) (by kernel_rfl) (by kernel_rfl) noPanic_false (by kernel_rfl) (fun W _ => x_idx54 (x := .tmp 44) (y := .tmp 45) (b := gx) (n := cn) (c := xc) (k := i) (by kernel_rfl) (by kernel_rfl) (by kernel_rfl) HI.out.1) hS0 ?_
        refine tk 3 47 (.agg (ccell c.id c.ch c.gone).toArray) (fuel := 5) rfl (by kernel_rfl) (by kernel_rfl) (by kernel_rfl) (by kernel_rfl) noPanic_false (by kernel_rfl) (fun W hW => x_ld63c (x := .tmp 46) (g := gx) (p := i * 35) HI.out.2.1 (by kernel_rfl) (by kernel_rfl) (range_after HI.out.2.2.1 hW)) hS0 ?_
        refine tk 4 48 (.slice (some ⟨gy, 0, none⟩) cn yc) (fuel := 4) rfl (by kernel_rfl) (by kernel_rfl) (by kernel_rfl) (by kernel_rfl) noPanic_false (by kernel_rfl) (fun _ _ => by kernel_rfl) hS0 ?_
        refine tk 5 49 (.int .i64 (i : Int)) (fuel := 3) rfl (by kernel_rfl) (by kernel_rfl) (by kernel_rfl) (by kernel_rfl) noPanic_false (by kernel_rfl) (fun _ _ => by kernel_rfl) hS0 ?_
        refine tk 6 50 (.pointer (some ⟨gy, i * 35, none⟩)) (fuel := 2) rfl (by kernel_rfl) (by kernel_rfl) (by kernel_rfl) (by kernel_rfl) noPanic_false (by kernel_rfl) (fun W _ => x_idx54 (x := .tmp 48) (y := .tmp 49) (b := gy) (n := cn) (c := yc) (k := i) (by kernel_rfl) (by kernel_rfl) (by kernel_rfl) HI.out.1) hS0 ?_
        refine tk 7 51 (.agg (ccell c.id c.ch c.gone).toArray) (fuel := 1) rfl (by kernel_rfl) (by kernel_rfl) (by kernel_rfl) (by kernel_rfl) noPanic_false (by kernel_rfl) (fun W hW => x_ld63c (x := .tmp 50) (g := gy) (p := i * 35) HI.out.2.1 (by kernel_rfl) (by kernel_rfl) (range_after HI.out.2.2.2 hW)) hS0 ?_
        refine tk 8 52 (.bool false) (fuel := 0) rfl (by kernel_rfl) (by kernel_rfl) (by kernel_rfl) (by kernel_rfl) noPanic_false (by kernel_rfl) (fun W _ => x_ne63 (x := .tmp 47) (y := .tmp 51) (id := c.id) (ch := c.ch) (gn := c.gone) HI.out.2.1 (by kernel_rfl) (by kernel_rfl) (by kernel_rfl)) hS0 ?_
        refine wpAnyH_done (by kernel_rfl) (NoPanic.normal ?_) _
        have H7 := show Hid (After w5 wr.drew) from HJ.out.trans hS0
        clear hS0
        go_simp
        go_wp2_with fail
        go_roundw
        case rel => exact ⟨i + 1, by go_num, by omega, H7.out⟩
        case measure => simp [intOf]; omega
      · obtain rfl : i = cn := by omega
        have hii : ¬ (i : Int) < (i : Int) := by omega
        go_wp2_with (first
          | (go_at_call 12; refine Calls.mono (awake_any _) ?_; rintro e w8 ⟨rfl, ha8⟩; have H8 := show Hid (After w0 w8) from (H6.out.trans HJ.out).trans ha8; clear ha8))
        go_ret
        exact ⟨rfl, H8.out⟩
  · have HD : Hid (decide (n ≤ 120) = false) := decide_eq_false h120
    clear hn hok hin htn hat
    go_enter Try.func8, Try.ntmps8
    go_wp2_with (first
      | (go_at_call 11; refine Calls.mono (few_any va n cap) ?_; rintro e w0 ⟨rfl, rfl⟩; rw [HD.out])
      | (go_at_call 12; refine Calls.mono (awake_any _) ?_; rintro e w8 ⟨rfl, ha8⟩; have H8 := show Hid (After w0 w8) from ha8; clear ha8))
    go_ret
    exact ⟨rfl, H8.out⟩
end Go.Proofs.Ytiglenomigipmaa

namespace Go.Proofs.Ytiglenomigipmaa
open Go.RowKit Go.Shelf
/-- A cell that is new to a list. -/
structure Nw (l : List RC) (c : RC) : Prop where
  ids : ∀ d ∈ l, d.id ≠ c.id
  afs : ∀ d ∈ l, d.af ≠ c.id
  own : c.af ≠ c.id
theorem kids_put (l : List RC) (c : RC) (x : Idn) : kids (l ++ [c]) x = if c.af = x then gIns RC.id c (kids l x) else kids l x := gKids_snoc RC.id RC.af x l c
theorem Nw.none {l : List RC} {c : RC} (h : Nw l c) : kids (l ++ [c]) c.id = [] := by
  rw [List.eq_nil_iff_forall_not_mem]
  intro k hk
  obtain ⟨h1, h2⟩ := (mem_gKids _).1 hk
  rcases List.mem_append.1 h1 with h1 | h1
  · exact h.afs k h1 h2
  · rw [List.mem_singleton] at h1
    subst h1
    exact h.own h2
theorem Nw.leaf {l : List RC} {c : RC} (h : Nw l c) : ∀ n, bl (l ++ [c]) n c.id = []
  | 0 => rfl
  | n + 1 => by show (kids (l ++ [c]) c.id).flatMap _ = []; rw [h.none]; rfl
theorem gIns_parts {α : Type} (f : α → Idn) (c : α) : ∀ L : List α, ∃ A B, L = A ++ B ∧ gIns f c L = A ++ c :: B
  | [] => ⟨[], [], rfl, rfl⟩
  | k :: L => by
    simp only [gIns]
    split
    · obtain ⟨A, B, e1, e2⟩ := gIns_parts f c L
      exact ⟨k :: A, B, by rw [e1]; rfl, by rw [e2]; rfl⟩
    · exact ⟨[], k :: L, rfl, rfl⟩
/-- Without the new one it is the order that was. -/
theorem Nw.rest {l : List RC} {c : RC} (h : Nw l c) : ∀ (n : Nat) (x : Idn), (bl (l ++ [c]) n x).filter (fun d => decide (d.id ≠ c.id)) = bl l n x
  | 0, _ => rfl
  | n + 1, x => by
    have hf : ∀ A : List RC, (∀ k ∈ A, k ∈ l) → (A.flatMap (fun k => k :: bl (l ++ [c]) n k.id)).filter (fun d => decide (d.id ≠ c.id)) = A.flatMap (fun k => k :: bl l n k.id) := fun A => by
      induction A with
      | nil => intro _; rfl
      | cons k A ih =>
        intro hA
        have hk := h.ids k (hA k (by simp))
        rw [List.flatMap_cons, List.flatMap_cons, List.filter_append, ih (fun d hd => hA d (by simp [hd])), List.filter_cons_of_pos (by simpa using hk), h.rest n k.id]
    have hin : ∀ k ∈ kids l x, k ∈ l := fun k hk => ((mem_gKids l).1 hk).1
    show ((kids (l ++ [c]) x).flatMap _).filter _ = (kids l x).flatMap _
    rw [kids_put]
    split
    · obtain ⟨A, B, e1, e2⟩ := gIns_parts RC.id c (kids l x)
      rw [e2]
      rw [e1] at hin ⊢
      rw [List.flatMap_append, List.flatMap_cons, List.filter_append, List.filter_append, h.leaf n, List.flatMap_append, hf A (fun k hk => hin k (by simp [hk])), hf B (fun k hk => hin k (by simp [hk]))]
      have : ([c].filter (fun d => decide (d.id ≠ c.id))) = [] := by simp
      rw [this, List.nil_append]
    · exact hf _ hin
/-- Greatest of all. -/
def Top (l : List RC) (c : RC) : Prop := ∀ d ∈ l, ltI c.id d.id = false
def beh (c k : RC) : List RC := k :: (if k.id = c.af then [c] else [])
theorem gIns_top {l : List RC} {c : RC} (h : ∀ d ∈ l, ltI c.id d.id = false) : gIns RC.id c l = c :: l := by
  cases l with
  | nil => rfl
  | cons k l => simp [gIns, h k (by simp)]
theorem Nw.top {l : List RC} {c : RC} (h : Nw l c) (ht : Top l c) (hlt : ∀ d ∈ l ++ [c], d.af.c < d.id.c) : ∀ (n : Nat) (x : Idn), cnt (l ++ [c]) x ≤ n → bl (l ++ [c]) n x = (if x = c.af then [c] else []) ++ (bl l n x).flatMap (beh c)
  | 0, x, hn => by
    have hx : x ≠ c.af := fun e => by
      have hk : c ∈ kids (l ++ [c]) x := (mem_gKids _).2 ⟨by simp, e.symm⟩
      have := kid_cnt hlt hk
      omega
    rw [if_neg hx]; rfl
  | n + 1, x, hn => by
    have hf : ∀ A : List RC, (∀ k ∈ A, k ∈ kids (l ++ [c]) x) → A.flatMap (fun k => k :: bl (l ++ [c]) n k.id) = (A.flatMap (fun k => k :: bl l n k.id)).flatMap (beh c) := fun A => by
      induction A with
      | nil => intro _; rfl
      | cons k A ih =>
        intro hA
        have hk := kid_cnt hlt (hA k (by simp))
        rw [List.flatMap_cons, List.flatMap_cons, List.flatMap_append, ih (fun d hd => hA d (by simp [hd])), h.top ht hlt n k.id (by omega), List.flatMap_cons]
        congr 1
    show (kids (l ++ [c]) x).flatMap _ = _ ++ ((kids l x).flatMap _).flatMap _
    by_cases e : c.af = x
    · have ek : kids (l ++ [c]) x = c :: kids l x := by rw [kids_put, if_pos e]; exact gIns_top (fun d hd => ht d ((mem_gKids l).1 hd).1)
      rw [if_pos e.symm, ek, List.flatMap_cons, h.leaf n, hf (kids l x) (fun k hk => by rw [ek]; simp [hk])]
    · have ek : kids (l ++ [c]) x = kids l x := by rw [kids_put, if_neg e]
      rw [if_neg (fun q => e q.symm), ek, hf (kids l x) (fun k hk => by rw [ek]; exact hk)]
      rfl
end Go.Proofs.Ytiglenomigipmaa

namespace Go.Proofs.Ytiglenomigipmaa
open Go.RowKit Go.Shelf
/-- The one behind which a tame put goes is the beginning, or there. -/
theorem tAf_in (l : List RC) (p : Put) : tAf l p = zId ∨ ∃ d ∈ l, d.id = tAf l p := by
  unfold tAf
  cases hk : p.af.toNat % (l.length + 1) with
  | zero => left; rfl
  | succ k =>
    have hl : k < l.length := by have := Nat.mod_lt p.af.toNat (show 0 < l.length + 1 by omega); omega
    right
    refine ⟨l[k], List.getElem_mem hl, ?_⟩
    simp [hl]
def Sm (l : List RC) (B : Int) : Prop := ∀ c ∈ l, c.id.c ≤ B
theorem tp_af (l : List RC) (p : Put) : pAf l (tp p) = tAf l (tp p) := by unfold pAf; simp [tp]
theorem tp_id (l : List RC) (p : Put) : pId l (tp p) = tId l (tp p) := by unfold pId; simp [tp]
theorem af_bounds {l : List RC} (h : Gd l) {B : Int} (hs : Sm l B) (hB : 0 ≤ B) (p : Put) : 0 ≤ (tAf l p).c ∧ (tAf l p).c ≤ B := by
  rcases tAf_in l p with e | ⟨d, hd, e⟩
  · rw [e]; exact ⟨by decide, hB⟩
  · rw [← e]; have h1 := h.num d hd; have h2 := hs d hd; omega
theorem id_bounds {l : List RC} (h : Gd l) {B : Int} (hs : Sm l B) (hB : 0 ≤ B) (hB2 : B ≤ 1000000) (p : Put) : (tAf l p).c < (tId l p).c ∧ (tId l p).c ≤ B + 4 := by
  have h1 := af_bounds h hs hB p
  have h2 : tUp (tAf l p) p = 1 + p.up.toNat % 4 := by unfold tUp; rw [if_neg (by omega)]
  have h3 : (tId l p).c = (tAf l p).c + ((1 + p.up.toNat % 4 : Nat) : Int) := by unfold tId; rw [h2]
  rw [h3]
  have := Nat.mod_lt p.up.toNat (show 0 < 4 by omega)
  omega
theorem Sm.ins {l : List RC} (h : Gd l) {B : Int} (hs : Sm l B) (hB : 0 ≤ B) (hB2 : B ≤ 1000000) (p : Put) (ch : UInt8) : Sm (rIns l (pAf l (tp p)) (pId l (tp p)) ch) (B + 4) := by
  intro c hc
  unfold rIns at hc
  split at hc
  · rcases List.mem_append.1 hc with hc | hc
    · have := hs c hc; omega
    · rw [List.mem_singleton] at hc
      subst hc
      show (pId l (tp p)).c ≤ _
      rw [tp_id]
      exact (id_bounds h hs hB hB2 (tp p)).2
  · have := hs c hc; omega
theorem perm_ids {li cells : List RC} (hp : li.Perm cells) (x : Idn) : (rplc li x).isSome = (rplc cells x).isSome := by
  have key : ∀ l : List RC, (rplc l x).isSome = true ↔ ∃ d ∈ l, d.id = x := fun l => by
    constructor
    · intro h
      obtain ⟨i, hi⟩ := Option.isSome_iff_exists.1 h
      obtain ⟨d, hd, e⟩ := rplc_get hi
      exact ⟨d, List.mem_of_getElem? hd, e⟩
    · rintro ⟨d, hd, e⟩
      cases hr : rplc l x with
      | some j => rfl
      | none =>
        unfold rplc at hr
        rw [List.findIdx?_eq_none_iff] at hr
        have := hr d hd
        simp [e] at this
  rw [Bool.eq_iff_iff, key, key]
  constructor
  · rintro ⟨d, hd, e⟩; exact ⟨d, hp.mem_iff.1 hd, e⟩
  · rintro ⟨d, hd, e⟩; exact ⟨d, hp.mem_iff.2 hd, e⟩
theorem perm_insE {st : List Stm} {li cells : List RC} (hA : Alike st li) (hp : li.Perm cells) (af id : Idn) : insE st af id = rInsE cells af id := by
  rw [hA.lnk.insE]
  unfold rInsE
  rw [perm_ids hp id, perm_ids hp af]
theorem has_af {cells : List RC} {x : Idn} (h : x = zId ∨ ∃ d ∈ cells, d.id = x) : ¬ (x ≠ zId ∧ (rplc cells x).isSome = false) := fun e => by
  rcases h with h | ⟨d, hd, h⟩
  · exact e.1 h
  · have e2 := e.2
    cases hr : rplc cells x with
    | some j => rw [hr] at e2; cases e2
    | none =>
      unfold rplc at hr
      rw [List.findIdx?_eq_none_iff] at hr
      have := hr d hd
      simp [h] at this
/-- Put, or there. -/
theorem keep_err {cells : List RC} {c : RC} (h1 : 1 ≤ c.id.c) (h2 : c.af.c < c.id.c) (haf : c.af = zId ∨ ∃ d ∈ cells, d.id = c.af) : rInsE cells c.af c.id = 0 ∨ (rInsE cells c.af c.id = 23 ∧ (rplc cells c.id).isSome = true) := by
  unfold rInsE
  rw [if_neg (by omega)]
  by_cases g2 : (rplc cells c.id).isSome = true
  · rw [if_pos g2]; exact .inr ⟨rfl, g2⟩
  · rw [if_neg g2, if_neg (has_af haf)]; exact .inl rfl
theorem keep_new {cells : List RC} (hG : Gd cells) {c : RC} (hs : c.gone = false) (h1 : 1 ≤ c.id.c) (h : rInsE cells c.af c.id = 0) : Nw cells c ∧ rIns cells c.af c.id c.ch = cells ++ [c] := by
  have hn : (rplc cells c.id) = none ∧ c.af.c < c.id.c := by
    unfold rInsE at h
    by_cases g1 : c.id.c < 1 ∨ c.id.c ≤ c.af.c
    · rw [if_pos g1] at h; cases h
    rw [if_neg g1] at h
    by_cases g2 : (rplc cells c.id).isSome = true
    · rw [if_pos g2] at h; cases h
    exact ⟨by simpa using g2, by omega⟩
  have hid : ∀ d ∈ cells, d.id ≠ c.id := fun d hd e => by
    have := hn.1
    unfold rplc at this
    rw [List.findIdx?_eq_none_iff] at this
    have := this d hd
    simp [e] at this
  refine ⟨⟨hid, fun d hd e => ?_, fun e => by rw [e] at hn; exact absurd hn.2 (Int.lt_irrefl _)⟩, ?_⟩
  · obtain ⟨i, hi⟩ := List.getElem?_of_mem hd
    rcases hG.beh i d hi with q | ⟨j, d', _, hd', q⟩
    · rw [e] at q; rw [q] at h1; exact absurd h1 (by decide)
    · exact hid d' (List.mem_of_getElem? hd') (q.trans e)
  · unfold rIns; rw [if_pos h]; cases c; simp_all
theorem tolds_rest {cells : List RC} (hG : Gd cells) {c : RC} (hN : Nw cells c) : (tolds (cells ++ [c])).filter (fun d => decide (d.id ≠ c.id)) = tolds cells := by
  unfold tolds
  rw [hN.rest, List.length_append, List.length_singleton]
  exact bl_more (fun d hd => (hG.num d hd).2) (cells.length + 1) zId (by have := cnt_le cells zId; omega) _ (by omega)
theorem beh_prev {c : RC} : ∀ {L : List RC}, (∀ k ∈ L, k.id ≠ c.id) → ∀ {i : Nat} {d : RC}, (L.flatMap (beh c))[i]? = some d → d.id = c.id → 0 < i ∧ ∃ e, (L.flatMap (beh c))[i - 1]? = some e ∧ e.id = c.af
  | [], _, i, d, h, _ => by simp at h
  | k :: L, hL, i, d, h, hd => by
    have hk := hL k (by simp)
    have ih : ∀ {i : Nat} {d : RC}, (L.flatMap (beh c))[i]? = some d → d.id = c.id → 0 < i ∧ ∃ e, (L.flatMap (beh c))[i - 1]? = some e ∧ e.id = c.af := fun {i d} h hd => beh_prev (c := c) (L := L) (fun x hx => hL x (by simp [hx])) h hd
    rw [List.flatMap_cons] at h ⊢
    by_cases e : k.id = c.af
    · have hb : beh c k = [k, c] := by unfold beh; rw [if_pos e]
      rw [hb] at h ⊢
      match i, h with
      | 0, h => simp at h; subst h; exact absurd hd hk
      | 1, h => exact ⟨by omega, k, rfl, e⟩
      | i + 2, h =>
        have h' : (L.flatMap (beh c))[i]? = some d := by simpa using h
        obtain ⟨h1, x, hx, hxa⟩ := ih h' hd
        obtain ⟨j, rfl⟩ : ∃ j, i = j + 1 := ⟨i - 1, by omega⟩
        exact ⟨by omega, x, by simpa using hx, hxa⟩
    · have hb : beh c k = [k] := by unfold beh; rw [if_neg e]
      rw [hb] at h ⊢
      match i, h with
      | 0, h => simp at h; subst h; exact absurd hd hk
      | i + 1, h =>
        have h' : (L.flatMap (beh c))[i]? = some d := by simpa using h
        obtain ⟨h1, x, hx, hxa⟩ := ih h' hd
        obtain ⟨j, rfl⟩ : ∃ j, i = j + 1 := ⟨i - 1, by omega⟩
        exact ⟨by omega, x, by simpa using hx, hxa⟩
theorem beh_id {c : RC} : ∀ {L : List RC}, (∀ k ∈ L, k.id ≠ c.af) → L.flatMap (beh c) = L
  | [], _ => rfl
  | k :: L, h => by
    rw [List.flatMap_cons, beh_id (fun x hx => h x (by simp [hx]))]
    unfold beh; rw [if_neg (h k (by simp))]; rfl
/-- The greatest: where it stands. -/
theorem tolds_top {cells : List RC} {c : RC} (hG : Gd (cells ++ [c])) (hN : Nw cells c) (hT : Top cells c) : tolds (cells ++ [c]) = (if c.af = zId then [c] else []) ++ (tolds cells).flatMap (beh c) := by
  have hlt : ∀ d ∈ cells ++ [c], d.af.c < d.id.c := fun d hd => (hG.num d hd).2
  unfold tolds
  rw [hN.top hT hlt _ zId (by have := cnt_le (cells ++ [c]) zId; omega), List.length_append, List.length_singleton]
  rw [bl_more (fun d hd => hlt d (by simp [hd])) (cells.length + 1) zId (by have := cnt_le cells zId; omega) _ (by omega)]
  by_cases e : c.af = zId
  · rw [if_pos e, if_pos e.symm]
  · rw [if_neg e, if_neg (fun q => e q.symm)]
theorem tolds_mem {cells : List RC} {d : RC} (h : d ∈ tolds cells) : d ∈ cells := bl_mem h
theorem top_place {cells : List RC} {c : RC} (hG : Gd (cells ++ [c])) (hN : Nw cells c) (hT : Top cells c) {i : Nat} {d : RC} (hd : (tolds (cells ++ [c]))[i]? = some d) (he : d.id = c.id) : (i = 0 ↔ c.af = zId) ∧ (0 < i → ∃ e, (tolds (cells ++ [c]))[i - 1]? = some e ∧ e.id = c.af) := by
  have hids : ∀ k ∈ tolds cells, k.id ≠ c.id := fun k hk => hN.ids k (tolds_mem hk)
  rw [tolds_top hG hN hT] at hd ⊢
  by_cases e : c.af = zId
  · rw [if_pos e] at hd ⊢
    have hz : ∀ k ∈ tolds cells, k.id ≠ c.af := fun k hk q => by
      have := (hG.num k (by simp [tolds_mem hk])).1
      rw [q, e] at this; exact absurd this (by decide)
    rw [beh_id hz] at hd ⊢
    cases i with
    | zero => exact ⟨⟨fun _ => e, fun _ => rfl⟩, fun h => absurd h (Nat.lt_irrefl _)⟩
    | succ i =>
      have h' : (tolds cells)[i]? = some d := by simpa using hd
      exact absurd he (hids d (List.mem_of_getElem? h'))
  · rw [if_neg e, List.nil_append] at hd ⊢
    obtain ⟨h1, x, hx, hxa⟩ := beh_prev hids hd he
    exact ⟨⟨fun q => by omega, fun q => absurd q e⟩, fun _ => ⟨x, hx, hxa⟩⟩
end Go.Proofs.Ytiglenomigipmaa

namespace Go.Proofs.Ytiglenomigipmaa
open Go.RowKit Go.Shelf
attribute [local go_sem] Oper.semAt_some
set_option maxRecDepth 100000 in
set_option maxHeartbeats 1600000 in
theorem tame_num {w : World} {va : Option Addr} {n cap : Nat} {ps : List Put} (hn : ps.length = n) (hok : ∀ p ∈ ps, p.Ok) (hin : PutsIn w va ps) (h120 : n ≤ 120) :
    Calls Try.prog 27 #[.slice va n cap] w fun e w' => ∃ v cells, e = .returned v ∧ RowR w' w.heap.size v cells ∧ Gd cells ∧ cells.length ≤ n ∧ After w w' ∧ Sm cells (4 * (n : Int)) := by
  have HIN : Hid (ps.length = n ∧ (∀ p ∈ ps, p.Ok) ∧ PutsIn w va ps) := ⟨hn, hok, hin⟩
  clear hn hok hin
  obtain ⟨W0, hW0⟩ : ∃ W0, w.alloc (.cells #[.slice none 0 0] 29) = W0 := ⟨_, rfl⟩
  have H0 : Hid (RowIs W0 w.heap.size 29 [.slice none 0 0] ∧ After w W0) := by
    rw [← hW0]; exact ⟨RowIs.new w 29 _, after_alloc (After.refl w) _⟩
  obtain ⟨gb, hgb⟩ : ∃ gb, w.heap.size = gb := ⟨_, rfl⟩
  have HGB : Hid (w.heap.size = gb) := hgb
  go_enter Try.func27, Try.ntmps27
  go_wp2_with (first
    | (refine wpList_of_run rfl ((x_al29 rfl).trans (by rw [hW0, HGB.out])) ?_))
  rw [hgb] at H0
  clear hW0 hgb
  go_loopw [4] (fun vi wr => ∃ i : Nat, vi = .int .i64 (i : Int) ∧ i ≤ n ∧ ∃ l ra rn rc, Hid (RowIs wr gb 29 [.slice ra rn rc] ∧ RowR wr w.heap.size (.slice ra rn rc) l ∧ Gd l ∧ l.length ≤ i ∧ After w wr ∧ Sm l (4 * (i : Int)))) (fun vi _ => n - (intOf vi).toNat)
  case atStart => exact ⟨0, rfl, Nat.zero_le _, [], none, 0, 0, H0.out.1, RowR.nil _ _, gd_nil, Nat.le_refl _, H0.out.2, fun c hc => (by simp at hc)⟩
  case round =>
    obtain ⟨i, rfl, hin, l, ra, rn, rc, HJ⟩ := hrel
    by_cases hlt : i < n
    · have hii : (i : Int) < (n : Int) := by omega
      obtain ⟨p, hp⟩ : ∃ p, ps[i]? = some p := ⟨_, List.getElem?_eq_getElem (by rw [HIN.out.1]; exact hlt)⟩
      obtain ⟨pb, po, hva, hpr⟩ := HIN.out.2.2 (fun e => by rw [e] at hp; simp at hp)
      subst hva
      have HP : Hid (p.Ok ∧ i < n ∧ wr.rangeAt pb (po + i * 8) (pcell p)) := ⟨HIN.out.2.1 p (List.mem_of_getElem? hp), hlt, range_after (hpr i p hp) HJ.out.2.2.2.2.1⟩
      clear hp hpr
      obtain ⟨W2, hW2⟩ : ∃ W2, (wr.alloc (.cells (pcell zP).toArray 33)).setRow wr.heap.size (pcell p).toArray = W2 := ⟨_, rfl⟩
      obtain ⟨W3, hW3⟩ : ∃ W3, W2.setCell ⟨wr.heap.size, 5, none⟩ (.bool false) = W3 := ⟨_, rfl⟩
      have HT := show Hid _ from tame_box hW2 hW3
      have HZ : Hid (RowIs (wr.alloc (.cells (pcell zP).toArray 33)) wr.heap.size 33 (pcell zP)) := RowIs.new wr 33 _
      have HG2 := show Hid _ from hW2
      have HG3 := show Hid _ from hW3
      have H3 : Hid (RowIs W3 gb 29 [.slice ra rn rc] ∧ RowR W3 w.heap.size (.slice ra rn rc) l ∧ After w W3) := ⟨HJ.out.1.below HT.out.2.2 HJ.out.1.lt, HJ.out.2.1.after HT.out.2.2, HJ.out.2.2.2.2.1.trans HT.out.2.2⟩
      clear hW2 hW3
      obtain ⟨go, hgo⟩ : ∃ go, wr.heap.size = go := ⟨_, rfl⟩
      have HGO : Hid (wr.heap.size = go) := hgo
      rw [hgo] at HT HZ HG2 HG3
      have HC5 : Hid (W2.cell? ⟨go, 5, none⟩ = some (.bool p.wild) ∧ W2.frozen? ⟨go, 5, none⟩ = false) := ⟨HT.out.1.cell rfl, HT.out.1.frozen 5⟩
      obtain ⟨af, haf⟩ : ∃ af, pAf l (tp p) = af := ⟨_, rfl⟩
      obtain ⟨id, hid⟩ : ∃ id, pId l (tp p) = id := ⟨_, rfl⟩
      have HOK : Hid (af.Ok ∧ id.Ok) := ⟨by rw [← haf]; exact pAf_ok HJ.out.2.1.1 (tp_ok HP.out.1), by rw [← hid]; exact pId_ok HJ.out.2.1.1 (tp_ok HP.out.1)⟩
      have HID : Hid (Calls Try.prog 29 #[.agg #[.slice ra rn rc], .agg (pcell (tp p)).toArray] W3 fun e w' => e = .returned (.tuple #[idv af, idv id]) ∧ After W3 w') := by
        have := ids_any H3.out.2.1 (tp_ok HP.out.1) (by have := HJ.out.2.2.2.1; omega)
        rw [haf, hid] at this; exact this
      have HSM : Hid (Sm (rIns l af id p.ch) (4 * ((i + 1 : Nat) : Int))) := by
        have := Sm.ins HJ.out.2.2.1 HJ.out.2.2.2.2.2 (by omega) (by omega) p p.ch
        rw [haf, hid] at this
        intro c hc
        have := this c hc
        omega
      clear haf hid
      go_wp2_with (first
        | (refine wpList_of_run rfl (x_idx22 (x := .tmp 14) (y := .tmp 15) (b := pb) (f := po) (n := n) (c := cap) (k := i) rfl (by kernel_rfl) (by kernel_rfl) HP.out.2.1) ?_)
        | (refine wpList_of_run rfl (x_ld33m (x := .tmp 16) (g := pb) (q := po + i * 8) (p := p) rfl (by kernel_rfl) HP.out.2.2) ?_)
        | (refine wpList_of_run rfl ((x_al33 rfl).trans (by rw [HGO.out])) ?_)
        | (refine wpList_store_row rfl 33 (.tmp 5) (.tmp 17) rfl go (pcell p).toArray rfl rfl 33 _ HZ.out (size33 p) rfl (by simpa using pcell_one p) ?_; rw [HG2.out])
        | (refine wpList_st4 (x := .tmp 18) (g := go) (p := 5) (b := false) rfl rfl (by kernel_rfl) HC5.out.1 HC5.out.2 HG3.out ?_)
        | (refine wpList_load_row rfl 29 (.tmp 3) rfl gb rfl 29 #[.slice ra rn rc] (0, 0) _ H3.out.1 Try.underlying29 rfl (size29 _) ?_)
        | (refine wpList_load_row rfl 33 (.tmp 5) rfl go rfl 33 (pcell (tp p)).toArray (0, 0) _ HT.out.2.1 Try.underlying33 rfl (size33 _) ?_)
        | (go_at_call 29; refine Calls.mono HID.out ?_; clear HID; rintro e w1 ⟨rfl, hw1⟩; obtain ⟨W4, hW4⟩ : ∃ W4, (((w1.alloc (.cells (idc zId).toArray 40)).alloc (.cells (idc zId).toArray 40)).setRow w1.heap.size (idc af).toArray).setRow (w1.heap.size + 1) (idc id).toArray = W4 := ⟨_, rfl⟩; have HB4 := show Hid _ from do_boxes hW4; have HG4 := show Hid _ from hW4; have H4 := show Hid (RowIs W4 gb 29 [.slice ra rn rc] ∧ RowR W4 w.heap.size (.slice ra rn rc) l ∧ After w W4 ∧ RowIs W4 go 33 (pcell (tp p))) from (fun ha : After W3 W4 => ⟨H3.out.1.below ha H3.out.1.lt, H3.out.2.1.after ha, H3.out.2.2.trans ha, HT.out.2.1.below ha HT.out.2.1.lt⟩) (hw1.trans HB4.out.2.2.2.2); have c4 : W4.cell? ⟨go, 3, none⟩ = some (.int .u8 (p.ch.toNat : Int)) := H4.out.2.2.2.cell rfl; clear hw1 hW4)
        | (refine wpList_of_run rfl ((x_al40 rfl).trans (by rw [World.size_alloc])) ?_)
        | (refine wpList_of_run rfl (x_al40 rfl) ?_)
        | (refine wpList_store_row rfl 40 (.tmp 6) (.tmp 23) rfl w1.heap.size (idc af).toArray rfl rfl 40 _ HB4.out.1 (size40 HOK.out.1) (by simp [idc_len HOK.out.1, idc_len zId_ok]) (by simpa using idc_one af) ?_)
        | (refine wpList_store_row rfl 40 (.tmp 7) (.tmp 24) rfl (w1.heap.size + 1) (idc id).toArray rfl rfl 40 _ HB4.out.2.1 (size40 HOK.out.2) (by simp [idc_len HOK.out.2, idc_len zId_ok]) (by simpa using idc_one id) ?_; rw [HG4.out])
        | (refine wpList_load_row rfl 29 (.tmp 3) rfl gb rfl 29 #[.slice ra rn rc] (0, 0) _ H4.out.1 Try.underlying29 rfl (size29 _) ?_)
        | (refine wpList_load_row rfl 40 (.tmp 6) rfl w1.heap.size rfl 40 (idc af).toArray (0, 0) _ HB4.out.2.2.1 Try.underlying40 rfl (size40 HOK.out.1) ?_)
        | (refine wpList_load_row rfl 40 (.tmp 7) rfl (w1.heap.size + 1) rfl 40 (idc id).toArray (0, 0) _ HB4.out.2.2.2.1 Try.underlying40 rfl (size40 HOK.out.2) ?_)
        | (go_at_call 32; refine Calls.mono (rInsert_any H4.out.2.1 HOK.out.1 HOK.out.2 p.ch (by have := HJ.out.2.2.2.1; omega) H4.out.2.2.1.size) ?_; rintro e w6 ⟨v6, rfl, h61, h62⟩; obtain ⟨va6, n6, c6, hv6⟩ : ∃ va n c, v6 = .slice va n c := (fun ⟨a, b, c⟩ => ⟨a, _, b, c⟩) h61.sl; subst hv6; have H6 := show Hid (RowIs w6 gb 29 [.slice ra rn rc] ∧ RowR w6 w.heap.size (.slice va6 n6 c6) (rIns l af id p.ch) ∧ After w w6) from ⟨H4.out.1.below h62 H4.out.1.lt, h61, H4.out.2.2.1.trans h62⟩; clear h61 h62)
        | (refine wpList_store_row rfl 29 (.tmp 3) (.tmp 32) rfl gb #[.slice va6 n6 c6] rfl rfl 29 _ H6.out.1 (size29 _) rfl (by simp [Value.oneCell']) ?_))
      go_roundw
      case rel => exact ⟨i + 1, by go_num, by omega, rIns l af id p.ch, va6, n6, c6, H6.out.1.setRow _, H6.out.2.1.put29 H6.out.1 _, HJ.out.2.2.1.ins HOK.out.1 HOK.out.2 p.ch, Nat.le_trans (rIns_len _ _ _ _) (Nat.succ_le_succ HJ.out.2.2.2.1), Below.row H6.out.2.2 (by rw [HGB.out]; exact Nat.le_refl _) _, HSM.out⟩
      case measure => simp [intOf]; omega
    · obtain rfl : i = n := by omega
      have hii : ¬ (i : Int) < (i : Int) := by omega
      have cB : wr.cell? ⟨gb, 0, none⟩ = some (.slice ra rn rc) := HJ.out.1.cell rfl
      go_wp2_with fail
      go_ret
      exact ⟨_, rfl, l, HJ.out.2.1, HJ.out.2.2.1, HJ.out.2.2.2.1, HJ.out.2.2.2.2.1, HJ.out.2.2.2.2.2⟩
end Go.Proofs.Ytiglenomigipmaa

namespace Go.Proofs.Ytiglenomigipmaa
open Go.RowKit Go.Shelf
attribute [local go_sem] Oper.semAt_some
section
variable {oi : Oper} {a : Act} {w : World}
theorem x_bld29 {x : Operand} {va : Option Addr} {n c : Nat} (hop : oi.op = .build 29 #[(0, x)]) (hx : a.eval x = .slice va n c) : (execOp a.eval oi).run Try.prog w = .ok (.value (.agg #[.slice va n c])) w := by
  have h := run_build (P := Try.prog) w 29 #[(0, .slice va n c)] #[.slice va n c] (by kernel_rfl)
  unfold execOp
  simp only [hop]
  simp [hx, h]
theorem x_eqIdD {x y : Operand} {h k : Idn} (hh : h.Ok) (hk : k.Ok) (hop : oi.op = .binOp .eql 37 x y 37) (hx : a.eval x = idv h) (hy : a.eval y = idv k) : (execOp a.eval oi).run Try.prog w = .ok (.value (.bool (decide (h = k)))) w := by
  have he := eqId h k hh hk w
  have hm : Try.prog.eqGuardType Try.prog.depth 37 = false := by kernel_rfl
  unfold idv at he hx hy
  unfold execOp
  simp only [hop, hx, hy, Sem.run_bind, run_eqGuard_agg w .eql 37 x y _ _ hm, run_eql_struct, he, Result.andThen_ok]
  rfl
theorem x_eq3z {x : Operand} {n : Nat} (hop : oi.op = .binOp .eql 3 x (.const (.int .i64 0)) 3) (hx : a.eval x = .int .i64 (n : Int)) : (execOp a.eval oi).run Try.prog w = .ok (.value (.bool (decide (n = 0)))) w := by
  have hk : a.eval (.const (.int .i64 0)) = .int .i64 0 := rfl
  unfold execOp; simp only [hop, hx, hk]
  by_cases h : n = 0 <;> simp [go_sem, h]
theorem x_gt3z {x : Operand} {n : Nat} (hop : oi.op = .binOp .gtr 3 x (.const (.int .i64 0)) 3) (hx : a.eval x = .int .i64 (n : Int)) : (execOp a.eval oi).run Try.prog w = .ok (.value (.bool (decide (0 < n)))) w := by
  have hk : a.eval (.const (.int .i64 0)) = .int .i64 0 := rfl
  unfold execOp; simp only [hop, hx, hk]
  by_cases h : 0 < n <;> simp [go_sem, h]
theorem x_geq3 {x y : Operand} {p q : Nat} (h : p < q) (hop : oi.op = .binOp .geq 3 x y 3) (hx : a.eval x = .int .i64 (p : Int)) (hy : a.eval y = .int .i64 (q : Int)) : (execOp a.eval oi).run Try.prog w = .ok (.value (.bool false)) w := by
  unfold execOp; simp only [hop, hx, hy]
  simp [go_sem]; omega
end
theorem wpList_st3 {w w' : World} {ops : Array Oper} {rest : List Oper} {o : Oper} {a : Act} {Q : Exit → Act → World → Prop} (hg : o.guard = none) {x y : Operand} {g p : Nat} {z : Int} {u : Value} (ho : o.op = .store 3 x y) (hx : a.eval x = .pointer (some ⟨g, p, none⟩)) (hy : a.eval y = .int .i64 z) (hc : w.cell? ⟨g, p, none⟩ = some u) (hf : w.frozen? ⟨g, p, none⟩ = false) (hW : w.setCell ⟨g, p, none⟩ (.int .i64 z) = w') (h : wpList Try.prog ops Q rest (a.put o.dst undef) w') : wpList Try.prog ops Q (o :: rest) a w := by
  refine wpList_st hg ?_ h
  unfold execOp
  simp only [ho, hx, hy]
  simp [go_sem, hc, hf, hW, Instr.storeAt, Instr.sureAddr]
/-- What stands ahead of the put. -/
structure Kp (w W : World) (B g g3 g8 g9 g10 : Nat) (st : List Stm) (D : RwD) (cells : List RC) (ca : Option Addr) (cn cc : Nat) (xa : Option Addr) (xc : Nat) (p : Put) (af id : Idn) : Prop where
  row : RowAt W B g st D
  ref : RowR W w.heap.size (.slice ca cn cc) cells
  was : OwnL W w.heap.size 63 35 (.slice xa cn xc) ((tolds cells).map (fun c => ccell c.id c.ch c.gone))
  put : RowIs W g3 33 (pcell p)
  box : RowIs W g8 29 [.slice ca cn cc]
  baf : RowIs W g9 40 (idc af)
  bid : RowIs W g10 40 (idc id)
  aft : After w W
  gb : w.heap.size ≤ B
theorem OwnL.kept {W W' : World} {base B : Nat} {g : Nat} {st : List Stm} {D : RwD} {v : Value} {L : List (List Value)} (h : OwnL W base 63 35 v L) (hR : RowAt W B g st D) (hk : KeptF (Foot g D) W W') : OwnL W' base 63 35 v L := h.same (fun b hb => by
  obtain ⟨_, h2, cs, hc⟩ := own_lt h.2 hb
  exact hk.block b h2 (hR.other hc (by decide) (by decide) (by decide)))
theorem Kp.kept {w W W' : World} {B g g3 g8 g9 g10 : Nat} {st : List Stm} {D : RwD} {cells : List RC} {ca : Option Addr} {cn cc : Nat} {xa : Option Addr} {xc : Nat} {p : Put} {af id : Idn} (h : Kp w W B g g3 g8 g9 g10 st D cells ca cn cc xa xc p af id) {st' : List Stm} {D' : RwD} (hr : RowAt W' B g st' D') (hk : KeptF (Foot g D) W W') : Kp w W' B g g3 g8 g9 g10 st' D' cells ca cn cc xa xc p af id :=
  ⟨hr, h.row.refrow hk h.ref, h.was.kept h.row hk, h.row.box33 hk h.put, h.row.box29 hk h.box, h.row.box40 hk h.baf, h.row.box40 hk h.bid, Below.trans h.aft (hk.below h.aft.size (fun _ hx => Nat.le_trans h.gb (h.row.foot hx).1)), h.gb⟩
def Stp (p : Prop) : Prop := p
theorem of_stop {p : Prop} (h : Stp p) : p := h
set_option maxRecDepth 100000 in
set_option maxHeartbeats 12800000 in
theorem keeps_any {w : World} {va : Option Addr} {n cap : Nat} {ps : List Put} (hn : ps.length = n) (hok : ∀ p ∈ ps, p.Ok) (hin : PutsIn w va ps) {p : Put} (hp : p.Ok) :
    Calls Try.prog 9 #[.slice va n cap, .agg (pcell p).toArray] w fun e w' => e = .returned (.bool true) ∧ After w w' := by
  obtain ⟨W0, hW0⟩ : ∃ W0, w.alloc (.cells (pcell p).toArray 33) = W0 := ⟨_, rfl⟩
  have H0 : Hid (RowIs W0 w.heap.size 33 (pcell p) ∧ After w W0) := by rw [← hW0]; exact ⟨RowIs.new w 33 _, after_alloc (After.refl w) _⟩
  by_cases h120 : n ≤ 120
  · have HD : Hid (decide (n ≤ 120) = true) := decide_eq_true h120
    have HTM : Hid (Calls Try.prog 27 #[.slice va n cap] W0 fun e w' => ∃ v, e = .returned v ∧ ∃ cells, RowR w' W0.heap.size v cells ∧ Gd cells ∧ cells.length ≤ n ∧ After W0 w' ∧ Sm cells (4 * (n : Int))) := Calls.mono (tame_num hn hok (hin.after H0.out.2) h120) (fun e w' ⟨v, cells, he, h⟩ => ⟨v, he, cells, h⟩)
    have HPO : Hid p.Ok := hp
    clear hn hok hin hp
    go_enter Try.func9, Try.ntmps9
    go_wp2_with (first
      | (rw [hW0])
      | (go_at_call 11; refine Calls.mono (few_any va n cap) ?_; rintro e w00 ⟨rfl, rfl⟩; rw [HD.out])
      | (go_at_call 27; refine Calls.mono (HTM.out) ?_; clear HTM; rintro e w1 ⟨v1, rfl, cells, hr1, hg1, hl1, ha1, hs1⟩; obtain ⟨ca, cc, hv1⟩ := hr1.sl; obtain ⟨cn, hcn⟩ : ∃ cn, cells.length = cn := ⟨_, rfl⟩; rw [hcn] at hv1; subst hv1; have H1 := show Hid (RowR w1 w00.heap.size (.slice ca cn cc) cells ∧ Gd cells ∧ cells.length = cn ∧ cn ≤ 120 ∧ After w00 w1 ∧ Sm cells 480) from ⟨hr1, hg1, hcn, by omega, ha1, fun c hc => by { have := hs1 c hc; omega }⟩; clear hr1 hg1 hl1 ha1 hcn hs1)
      | (go_at_call 28; refine Calls.mono (filled_any (ab := []) H1.out.1 H1.out.2.1 (by have := H1.out.2.2.1; have := H1.out.2.2.2.1; omega) rfl (fun h => absurd rfl h)) ?_; rintro e w2 ⟨g, D1, st, li, rfl, hr2, hA2, hp2, ha2⟩; have H2 := show Hid (RowAt w2 w1.heap.size g st D1 ∧ Alike st li ∧ li.Perm cells ∧ After w1 w2 ∧ st.length ≤ 100000) from ⟨hr2, hA2, hp2, ha2, by { have := hA2.lnk.len; have := hp2.length_eq; have := H1.out.2.2.1; have := H1.out.2.2.2.1; omega }⟩; clear hr2 hA2 hp2 ha2)
      | (go_at_call 24; refine Calls.mono (Cells_any H2.out.1 H2.out.2.1.wf H2.out.2.2.2.2) ?_; rintro e w3 ⟨v4, U1, rfl, hU1, ho4, ha4⟩; obtain ⟨ht1, ht2⟩ := told_of H2.out.2.1 H2.out.2.2.1 H1.out.2.1 hU1; obtain ⟨xa, xc, hxv⟩ := own_sl ho4; rw [ht2, H1.out.2.2.1] at hxv; subst hxv; rw [ht1] at ho4; have H3 := show Hid (OwnL w3 w2.heap.size 63 35 (.slice xa cn xc) ((tolds cells).map (fun c => ccell c.id c.ch c.gone)) ∧ After w2 w3) from ⟨ho4, ha4⟩; obtain ⟨W4, hW4⟩ : ∃ W4, (w3.alloc (.cells #[.slice none 0 0] 29)).setRow w3.heap.size #[.slice ca cn cc] = W4 := ⟨_, rfl⟩; have HG4 := show Hid _ from hW4; have HZ4 := show Hid (RowIs (w3.alloc (.cells #[.slice none 0 0] 29)) w3.heap.size 29 [.slice none 0 0]) from RowIs.new w3 29 _; have HA4 := show Hid (After w3 W4 ∧ RowIs W4 w3.heap.size 29 [.slice ca cn cc]) from (by { rw [← hW4]; exact ⟨Below.row (after_alloc (After.refl w3) _) (Nat.le_refl _) _, HZ4.out.setRow _⟩ }); obtain ⟨W5, hW5⟩ : ∃ W5, W4.setCell ⟨w.heap.size, 5, none⟩ (.bool false) = W5 := ⟨_, rfl⟩; have HG5 := show Hid _ from hW5; have HP4 := show Hid (RowIs W4 w.heap.size 33 (pcell p)) from (H0.out.1.below ((((H1.out.2.2.2.2.1.trans H2.out.2.2.2.1).trans ha4).trans HA4.out.1)) H0.out.1.lt); have HC5 := show Hid (W4.cell? ⟨w.heap.size, 5, none⟩ = some (.bool p.wild) ∧ W4.frozen? ⟨w.heap.size, 5, none⟩ = false) from ⟨HP4.out.cell rfl, HP4.out.frozen 5⟩; clear ho4 ha4 ht1 ht2 hU1 hW4 hW5)
      | (refine wpList_of_run rfl (x_bld29 (x := .tmp 26) rfl (by kernel_rfl)) ?_)
      | (refine wpList_of_run rfl (x_al29 rfl) ?_)
      | (refine wpList_store_row rfl 29 (.tmp 8) (.tmp 27) rfl w3.heap.size #[.slice ca cn cc] rfl rfl 29 _ HZ4.out (size29 _) rfl (by simp [Value.oneCell']) ?_; rw [HG4.out])
      | (refine wpList_st4 (x := .tmp 28) (g := w.heap.size) (p := 5) (b := false) rfl rfl (by kernel_rfl) HC5.out.1 HC5.out.2 HG5.out ?_; apply of_stop))
    unfold Stp
    obtain ⟨W0, hw⟩ : ∃ W0, W0 = w00 := ⟨_, rfl⟩
    subst hw
    obtain ⟨g3, hg3⟩ : ∃ g3, w.heap.size = g3 := ⟨_, rfl⟩
    obtain ⟨g8, hg8⟩ : ∃ g8, w3.heap.size = g8 := ⟨_, rfl⟩
    have HAL : Hid (Alike st li ∧ li.Perm cells ∧ st.length ≤ 100000) := ⟨H2.out.2.1, H2.out.2.2.1, H2.out.2.2.2.2⟩
    have HG : Hid (Gd cells ∧ cells.length = cn ∧ cn ≤ 120) := ⟨H1.out.2.1, H1.out.2.2.1, H1.out.2.2.2.1⟩
    have HSM : Hid (Sm cells 480) := H1.out.2.2.2.2.2
    have H5 : Hid (RowAt W5 w1.heap.size g st D1 ∧ RowR W5 w.heap.size (.slice ca cn cc) cells ∧ OwnL W5 w.heap.size 63 35 (.slice xa cn xc) ((tolds cells).map (fun c => ccell c.id c.ch c.gone)) ∧ RowIs W5 g3 33 (pcell (tp p)) ∧ RowIs W5 g8 29 [.slice ca cn cc] ∧ After w W5 ∧ w.heap.size ≤ w1.heap.size) := by
      have a24 : After w2 W4 := H3.out.2.trans HA4.out.1
      have hr := H2.out.1.after a24
      have hf := H1.out.1.after (H2.out.2.2.2.1.trans a24)
      have ho := H3.out.1.same (w' := W4) (fun b hb => HA4.out.1.block b (own_lt H3.out.1.2 hb).2.1)
      have hsz : w.heap.size ≤ W0.heap.size := H0.out.2.size
      have hk : KeptF (fun b => b = w.heap.size) W4 W5 := by rw [← HG5.out]; exact KeptF.set (F := fun b => b = w.heap.size) W4 ⟨w.heap.size, 5, none⟩ _ rfl
      have hne : ∀ (b : Nat) (t : TypeId) (cs : List Value), RowIs W4 b t cs → t ≠ 33 → b ≠ w.heap.size := fun b t cs hb ht e => by rw [e] at hb; exact ht (hb.ty HP4.out).1
      rw [← hg3, ← hg8]
      refine ⟨hr.same (fun b hb => hk.block b (hr.foot hb).2 (fun e => hr.other HP4.out (by decide) (by decide) (by decide) (by rw [← show b = w.heap.size from e]; exact hb))) hk.size, (hf.same (fun b hb => ?_)).mono hsz, ?_, ?_, hk.row HA4.out.2 (hne _ _ _ HA4.out.2 (by decide)), ?_, Nat.le_trans hsz H1.out.2.2.2.2.1.size⟩
      · obtain ⟨_, h2, cs, hc⟩ := own_lt hf.2.2 hb
        exact hk.block b h2 (hne b 68 cs hc (by decide))
      · have hx := ho.same (w' := W5) (fun b hb => by
          obtain ⟨_, h2, cs, hc⟩ := own_lt ho.2 hb
          exact hk.block b h2 (hne b 63 cs hc (by decide)))
        exact ⟨hx.1, own_mono hx.2 (Nat.le_trans hsz (Nat.le_trans H1.out.2.2.2.2.1.size H2.out.2.2.2.1.size))⟩
      · rw [← HG5.out]; exact HP4.out.set 5 _
      · rw [← HG5.out]
        exact Below.setCell ((H0.out.2.trans (H1.out.2.2.2.2.1.trans H2.out.2.2.2.1)).trans a24) (p := ⟨w.heap.size, 5, none⟩) (Nat.le_refl _) _
    obtain ⟨B, hB⟩ : ∃ B, w1.heap.size = B := ⟨_, rfl⟩
    rw [hB] at H5
    rw [hg3, hg8]
    clear H1 H2 H3 HA4 HZ4 HG4 HG5 HP4 HC5 H0 hB hg3 hg8 HD
    obtain ⟨af, haf⟩ : ∃ af, pAf cells (tp p) = af := ⟨_, rfl⟩
    obtain ⟨id0, hid⟩ : ∃ id0, pId cells (tp p) = id0 := ⟨_, rfl⟩
    have HOK0 : Hid (af.Ok ∧ id0.Ok) := ⟨by rw [← haf]; exact pAf_ok HG.out.1.ok (tp_ok HPO.out), by rw [← hid]; exact pId_ok HG.out.1.ok (tp_ok HPO.out)⟩
    have HID : Hid (Calls Try.prog 29 #[.agg #[.slice ca cn cc], .agg (pcell (tp p)).toArray] W5 fun e w' => e = .returned (.tuple #[idv af, idv id0]) ∧ After W5 w') := by
      have := ids_any H5.out.2.1 (tp_ok HPO.out) (by have := HG.out.2.1; have := HG.out.2.2; omega)
      rw [haf, hid] at this; exact this
    have HNB : Hid (0 ≤ af.c ∧ af.c ≤ 480 ∧ af.c < id0.c ∧ (af = zId ∨ ∃ d ∈ cells, d.id = af)) := by
      rw [← haf, ← hid, tp_af, tp_id]
      have h1 := af_bounds HG.out.1 HSM.out (by omega) (tp p)
      have h2 := id_bounds HG.out.1 HSM.out (by omega) (by omega) (tp p)
      exact ⟨h1.1, h1.2, h2.1, tAf_in _ _⟩
    clear haf hid
    go_wp2_with (first
      | (refine wpList_load_row rfl 29 (.tmp 8) rfl g8 rfl 29 #[.slice ca cn cc] (0, 0) _ H5.out.2.2.2.2.1 Try.underlying29 rfl (size29 _) ?_)
      | (refine wpList_load_row rfl 33 (.tmp 3) rfl g3 rfl 33 (pcell (tp p)).toArray (0, 0) _ H5.out.2.2.2.1 Try.underlying33 rfl (size33 _) ?_)
      | (go_at_call 29; refine Calls.mono HID.out ?_; clear HID; rintro e wb ⟨rfl, hwb⟩; obtain ⟨W7, hW7⟩ : ∃ W7, (((wb.alloc (.cells (idc zId).toArray 40)).alloc (.cells (idc zId).toArray 40)).setRow wb.heap.size (idc af).toArray).setRow (wb.heap.size + 1) (idc id0).toArray = W7 := ⟨_, rfl⟩; have HB7 := show Hid _ from do_boxes hW7; have HG7 := show Hid _ from hW7; have HWB := show Hid (w.heap.size ≤ wb.heap.size) from Nat.le_trans H5.out.2.2.2.2.2.1.size hwb.size; have H7 := show Hid (Kp w W7 B g g3 g8 wb.heap.size (wb.heap.size + 1) st D1 cells ca cn cc xa xc (tp p) af id0) from (fun ha : After W5 W7 => ⟨H5.out.1.after ha, H5.out.2.1.after ha, H5.out.2.2.1.same (fun b hb => ha.block b (own_lt H5.out.2.2.1.2 hb).2.1), H5.out.2.2.2.1.below ha H5.out.2.2.2.1.lt, H5.out.2.2.2.2.1.below ha H5.out.2.2.2.2.1.lt, HB7.out.2.2.1, HB7.out.2.2.2.1, H5.out.2.2.2.2.2.1.trans ha, H5.out.2.2.2.2.2.2⟩) (hwb.trans HB7.out.2.2.2.2); clear hwb hW7)
      | (refine wpList_of_run rfl ((x_al40 rfl).trans (by rw [World.size_alloc])) ?_)
      | (refine wpList_of_run rfl (x_al40 rfl) ?_)
      | (refine wpList_store_row rfl 40 (.tmp 9) (.tmp 33) rfl wb.heap.size (idc af).toArray rfl rfl 40 _ HB7.out.1 (size40 HOK0.out.1) (by simp [idc_len HOK0.out.1, idc_len zId_ok]) (by simpa using idc_one af) ?_)
      | (refine wpList_store_row rfl 40 (.tmp 10) (.tmp 34) rfl (wb.heap.size + 1) (idc id0).toArray rfl rfl 40 _ HB7.out.2.1 (size40 HOK0.out.2) (by simp [idc_len HOK0.out.2, idc_len zId_ok]) (by simpa using idc_one id0) ?_; rw [HG7.out]))
    obtain ⟨g9, hg9⟩ : ∃ g9, wb.heap.size = g9 := ⟨_, rfl⟩
    obtain ⟨g10, hg10⟩ : ∃ g10, g9 + 1 = g10 := ⟨_, rfl⟩
    rw [hg9, hg10] at H7 ⊢
    have HGG : Hid (w.heap.size ≤ g10 ∧ g9 ≠ g10) := ⟨by rw [← hg10, ← hg9]; have := HWB.out; omega, by omega⟩
    clear hg9 hg10 HB7 HG7 H5
    go_loopw [11, 12] (fun vt vi wr => ∃ (i : Nat) (T : Int), vi = .int .i64 (i : Int) ∧ vt = .int .i64 T ∧ i ≤ cn ∧ 0 ≤ T ∧ T ≤ 480 ∧ wr = W7 ∧ Hid (Sm (cells.take i) T)) (fun _ vi _ => cn - (intOf vi).toNat)
    case atStart => exact ⟨0, 0, rfl, rfl, Nat.zero_le _, by omega, by omega, rfl, fun c hc => (by simp at hc)⟩
    case round =>
      obtain ⟨i, T, rfl, rfl, hicn, hT0, hT1, rfl, HT⟩ := hrel
      have hcn6 : cn ≤ 120 := HG.out.2.2
      by_cases hlt : i < cn
      · have hii : (i : Int) < (cn : Int) := by omega
        obtain ⟨c, hc⟩ : ∃ c, cells[i]? = some c := ⟨_, List.getElem?_eq_getElem (by rw [HG.out.2.1]; exact hlt)⟩
        obtain ⟨gs, hca, -, hr⟩ := H7.out.ref.at hc
        subst hca
        rw [Nat.zero_add] at hr
        have cn0 : wr.cell? ⟨gs, i * 68, none⟩ = some (.int .i64 c.id.c) := hr 0 _ rfl
        have hcb : c.id.c ≤ 480 := HSM.out c (List.mem_of_getElem? hc)
        have HTN : Hid (Sm (cells.take (i + 1)) (max T c.id.c)) := fun d hd => by
          rw [List.take_add_one, hc] at hd
          rcases List.mem_append.1 hd with hd | hd
          · have := HT.out d hd; omega
          · have hd' : d = c := by simpa using hd
            rw [hd']; omega
        have HLT : Hid (i < cn) := hlt
        clear hc hr
        go_wp2_with (first
          | (refine wpList_of_run rfl (x_idx27 (x := .tmp 42) (y := .tmp 43) (b := gs) (f := 0) (n := cn) (c := cc) (k := i) rfl (by kernel_rfl) (by kernel_rfl) HLT.out) ?_; rw [Nat.zero_add]))
        go_roundw
        case rel => exact ⟨i + 1, max T c.id.c, by go_num, rfl, by omega, by omega, by omega, trivial, HTN.out⟩
        case measure => simp [intOf]; omega
      · obtain rfl : i = cn := by omega
        have hii : ¬ (i : Int) < (i : Int) := by omega
        obtain ⟨cn, hcnn⟩ : ∃ cn, cn = i := ⟨_, rfl⟩
        subst hcnn
        have HTA : Hid (Sm cells T) := by have := HT.out; rwa [List.take_of_length_le (by rw [HG.out.2.1]; exact Nat.le_refl _)] at this
        cases hcut : p.cut with
        | true =>
          have cc4 : wr.cell? ⟨g3, 4, none⟩ = some (.bool true) := by have := H7.out.put.cell (j := 4) (v := .bool (tp p).cut) rfl; rw [show (tp p).cut = p.cut from rfl, hcut] at this; exact this
          have HCUT : Hid ((pcell (tp p))[4]? = some (.bool true)) := by show some (Value.bool p.cut) = _; rw [hcut]
          obtain ⟨W8, hW8⟩ : ∃ W8, wr.setCell ⟨g10, 0, none⟩ (.int .i64 (T + 1)) = W8 := ⟨_, rfl⟩
          have HG8 := show Hid _ from hW8
          have HC10 : Hid (wr.cell? ⟨g10, 0, none⟩ = some (.int .i64 id0.c) ∧ wr.frozen? ⟨g10, 0, none⟩ = false) := ⟨H7.out.bid.cell rfl, H7.out.bid.frozen 0⟩
          obtain ⟨id, hidn⟩ : ∃ id : Idn, id = ⟨T + 1, id0.b⟩ := ⟨_, rfl⟩
          have HOK : Hid (af.Ok ∧ id.Ok) := ⟨HOK0.out.1, by rw [hidn]; exact ⟨by show _ ≤ T + 1; omega, by show T + 1 ≤ _; omega, HOK0.out.2.len⟩⟩
          have H8 : Hid (Kp w W8 B g g3 g8 g9 g10 st D1 cells ca cn cc xa xc (tp p) af id) := by
            have hk : KeptF (fun b => b = g10) wr W8 := by rw [← hW8]; exact KeptF.set (F := fun b => b = g10) wr ⟨g10, 0, none⟩ _ rfl
            have hne : ∀ (b : Nat) (t : TypeId) (cs : List Value), RowIs wr b t cs → t ≠ 40 → b ≠ g10 := fun b t cs hb ht e => by rw [e] at hb; exact ht (hb.ty H7.out.bid).1
            refine ⟨H7.out.row.same (fun b hb => hk.block b (H7.out.row.foot hb).2 (fun e => H7.out.row.other H7.out.bid (by decide) (by decide) (by decide) (by rw [← show b = g10 from e]; exact hb))) hk.size, H7.out.ref.same (fun b hb => ?_), H7.out.was.same (fun b hb => ?_), hk.row H7.out.put (hne _ _ _ H7.out.put (by decide)), hk.row H7.out.box (hne _ _ _ H7.out.box (by decide)), hk.row H7.out.baf HGG.out.2, ?_, ?_, H7.out.gb⟩
            · obtain ⟨_, h2, cs, hc⟩ := own_lt H7.out.ref.2.2 hb
              exact hk.block b h2 (hne b 68 cs hc (by decide))
            · obtain ⟨_, h2, cs, hc⟩ := own_lt H7.out.was.2 hb
              exact hk.block b h2 (hne b 63 cs hc (by decide))
            · rw [← hW8, hidn]; exact H7.out.bid.set 0 _
            · rw [← hW8]; exact Below.setCell H7.out.aft (p := ⟨g10, 0, none⟩) HGG.out.1 _
          have HNM : Hid (1 ≤ id.c ∧ af.c < id.c ∧ (af = zId ∨ ∃ d ∈ cells, d.id = af)) := ⟨by rw [hidn]; show 1 ≤ T + 1; omega, by
            rw [hidn]; show af.c < T + 1
            rcases HNB.out.2.2.2 with e | ⟨d, hd, e⟩
            · rw [e]; show (0 : Int) < T + 1; omega
            · rw [← e]; have := HTA.out d hd; omega, HNB.out.2.2.2⟩
          have HTP : Hid (Top cells ⟨id, af, p.ch, false⟩) := fun d hd => by
            show ltI id d.id = false
            have h1 := HTA.out d hd
            rw [hidn]
            unfold ltI
            rw [if_pos (by show ¬ T + 1 = d.id.c; omega)]
            simp; omega
          clear hW8 hcut
          go_wp2_with (first
            | (refine wpList_st3 (x := .tmp 53) (y := .tmp 52) (g := g10) (p := 0) (z := T + 1) rfl rfl (by kernel_rfl) (by kernel_rfl) HC10.out.1 HC10.out.2 HG8.out ?_))
          clear hidn cc4 HG8 HC10
          by_cases hE : rInsE cells af id = 0
          · have HE0 : Hid (rInsE cells af id = 0) := hE
            have HNW : Hid (Nw cells ⟨id, af, p.ch, false⟩ ∧ rIns cells af id p.ch = cells ++ [⟨id, af, p.ch, false⟩]) := keep_new (c := ⟨id, af, p.ch, false⟩) HG.out.1 rfl HNM.out.1 hE
            have HG2 : Hid (Gd (cells ++ [⟨id, af, p.ch, false⟩])) := by rw [← HNW.out.2]; exact HG.out.1.ins HOK.out.1 HOK.out.2 p.ch
            have HA2 : Hid (Alike (insF st af id p.ch) (li ++ [⟨id, af, p.ch, false⟩])) := by
              have hrn := rIns_ok (c := ⟨id, af, p.ch, false⟩) HAL.out.1 rfl (by rw [perm_insE HAL.out.1 HAL.out.2.1]; exact hE)
              have ha := HAL.out.1
              exact ⟨ha.wf.insF HOK.out.2 _, by rw [← hrn]; exact ha.lnk.ins ha.wf _ _ _, by rw [← hrn]; exact ha.kid.ins ha.lnk ha.wf _ _ _⟩
            refine wp_region_noPanic ?_
            refine wp_region_held_drew (S := KeptF (Foot g D1) W8) (by kernel_rfl) (KeptF.of_after (After.drew (After.refl _))) ?_
            intro hS0
            refine tk 0 54 (.pointer (some ⟨g, 0, none⟩)) (fuel := 8) rfl (by kernel_rfl) (by kernel_rfl) (by kernel_rfl) (by kernel_rfl) noPanic_false (by kernel_rfl) (fun _ _ => by kernel_rfl) hS0 ?_
            refine tk 1 55 (idv af) (fuel := 7) rfl (by kernel_rfl) (by kernel_rfl) (by kernel_rfl) (by kernel_rfl) noPanic_false (by kernel_rfl) (fun W hW => x_ld40m (x := .tmp 9) (g := g9) (p := 0) HOK.out.1 (by kernel_rfl) (by kernel_rfl) (H8.out.row.box40 hW H8.out.baf).range0) hS0 ?_
            refine tk 3 57 (idv id) (fuel := 6) rfl (by kernel_rfl) (by kernel_rfl) (by kernel_rfl) (by kernel_rfl) noPanic_false (by kernel_rfl) (fun W hW => x_ld40m (x := .tmp 10) (g := g10) (p := 0) HOK.out.2 (by kernel_rfl) (by kernel_rfl) (H8.out.row.box40 hW H8.out.bid).range0) hS0 ?_
            refine tk 5 59 (.pointer (some ⟨g3, 3, none⟩)) (fuel := 5) rfl (by kernel_rfl) (by kernel_rfl) (by kernel_rfl) (by kernel_rfl) noPanic_false (by kernel_rfl) (fun _ _ => by kernel_rfl) hS0 ?_
            refine tk 6 60 (.int .u8 (p.ch.toNat : Int)) (fuel := 4) rfl (by kernel_rfl) (by kernel_rfl) (by kernel_rfl) (by kernel_rfl) noPanic_false (by kernel_rfl) (fun W hW => x_loadT (x := .tmp 59) (t := 5) (g := g3) (j := 3) Try.underlying5 rfl (by kernel_rfl) (by kernel_rfl) ((H8.out.row.box33 hW H8.out.put).cell (j := 3) rfl)) hS0 ?_
            refine tkCallZ 2 56 18 #[idv af] (fun v w' => v = idv af ∧ After W8 w') (fuel := 3) rfl (by kernel_rfl) (by kernel_rfl) (by kernel_rfl) (fun _ => by kernel_rfl) (Calls.mono (own_any HOK.out.1 _) (fun e w' ⟨he, ha⟩ => ⟨_, he, rfl, (After.drew (After.refl W8)).trans ha⟩)) ?_
            intro v3 wa3 ⟨hv3, ha3⟩
            subst hv3
            refine ⟨KeptF.of_after ha3, ?_⟩
            refine tkCallZ 4 58 18 #[idv id] (fun v w' => v = idv id ∧ After W8 w') (fuel := 2) rfl (by kernel_rfl) (by kernel_rfl) (by kernel_rfl) (fun _ => by kernel_rfl) (Calls.mono (own_any HOK.out.2 _) (fun e w' ⟨he, ha⟩ => ⟨_, he, rfl, ha3.trans ha⟩)) ?_
            intro v4 wa4 ⟨hv4, ha4⟩
            subst hv4
            refine ⟨KeptF.of_after ha4, ?_⟩
            refine tkCallZ 7 61 22 #[.pointer (some ⟨g, 0, none⟩), idv af, idv id, .int .u8 (p.ch.toNat : Int)] (fun v w' => v = .int .i64 0 ∧ ∃ D', RowAt w' B g (insF st af id p.ch) D' ∧ KeptF (Foot g D1) wa4 w') (fuel := 1) rfl (by kernel_rfl) (by kernel_rfl) (by kernel_rfl) (fun _ => by kernel_rfl) (Calls.mono (Insert_any (H8.out.row.after ha4) HAL.out.1.wf HAL.out.2.2 HOK.out.1 HOK.out.2 p.ch) (fun e w' ⟨he, D', h1, _, h3⟩ => ⟨_, he, by rw [perm_insE HAL.out.1 HAL.out.2.1, hE]; rfl, D', h1, h3⟩)) ?_
            intro v5 w9 ⟨hv5, D5, h51, h53⟩
            subst hv5
            have hk5 : KeptF (Foot g D1) W8 w9 := (KeptF.of_after ha4).trans h53 (fun _ _ h => h)
            refine ⟨hk5, ?_⟩
            refine tk 8 62 (.bool false) (fuel := 0) rfl (by kernel_rfl) (by kernel_rfl) (by kernel_rfl) (by kernel_rfl) noPanic_false (by kernel_rfl) (fun _ _ => by kernel_rfl) hk5 ?_
            refine wpAnyH_done (by kernel_rfl) (NoPanic.normal ?_) _
            have H9 := show Hid (Kp w w9 B g g3 g8 g9 g10 (insF st af id p.ch) D5 cells ca cn cc xa xc (tp p) af id) from H8.out.kept h51 hk5
            clear h51 h53 hk5 ha3 ha4 hS0 hE
            go_simp
            go_wp2_with (first
              | (go_at_call 24; refine Calls.mono (Cells_any H9.out.row HA2.out.wf (by have := HA2.out.lnk.len; have := HAL.out.2.1.length_eq; have := HG.out.2.1; have := HG.out.2.2; simp at *; omega)) ?_; rintro e w10 ⟨v10, U2, rfl, hU2, ho10, ha10⟩; obtain ⟨ht1, ht2⟩ := told_of HA2.out (HAL.out.2.1.append_right _) HG2.out hU2; obtain ⟨ya, yc, hyv⟩ := own_sl ho10; obtain ⟨m, hm⟩ : ∃ m, (cells ++ [(⟨id, af, p.ch, false⟩ : RC)]).length = m := ⟨_, rfl⟩; rw [ht2, hm] at hyv; subst hyv; rw [ht1] at ho10 ht2; have H10 := show Hid (OwnL w10 w9.heap.size 63 35 (.slice ya m yc) ((tolds (cells ++ [⟨id, af, p.ch, false⟩])).map (fun c => ccell c.id c.ch c.gone)) ∧ After w9 w10 ∧ (tolds (cells ++ [⟨id, af, p.ch, false⟩])).length = m ∧ m = cn + 1) from ⟨ho10, ha10, by rw [List.length_map] at ht2; rw [ht2]; exact hm, by rw [← hm, List.length_append, HG.out.2.1]; rfl⟩; clear ho10 ha10 ht1 ht2 hU2 hm))
            obtain ⟨N, hN⟩ : ∃ N, tolds (cells ++ [(⟨id, af, p.ch, false⟩ : RC)]) = N := ⟨_, rfl⟩
            rw [hN] at H10
            have HNE : Hid (tolds (cells ++ [(⟨id, af, p.ch, false⟩ : RC)]) = N ∧ N.filter (fun d => decide (d.id ≠ id)) = tolds cells) := ⟨hN, by rw [← hN]; exact tolds_rest HG.out.1 HNW.out.1⟩
            have HWS : Hid (OwnL w10 w.heap.size 63 35 (.slice xa cn xc) ((tolds cells).map (fun c => ccell c.id c.ch c.gone)) ∧ (tolds cells).length = cn ∧ RowIs w10 g3 33 (pcell (tp p)) ∧ RowIs w10 g10 40 (idc id) ∧ RowIs w10 g9 40 (idc af) ∧ After w w10) := ⟨H9.out.was.same (fun b hb => H10.out.2.1.block b (own_lt H9.out.was.2 hb).2.1), by have := own_sl H9.out.was; obtain ⟨q, r, e⟩ := this; rw [List.length_map] at e; cases e; rfl, H9.out.put.below H10.out.2.1 H9.out.put.lt, H9.out.bid.below H10.out.2.1 H9.out.bid.lt, H9.out.baf.below H10.out.2.1 H9.out.baf.lt, H9.out.aft.trans H10.out.2.1⟩
            clear hN
            have hm1 : m ≤ 200 := by have := H10.out.2.2.2; have := HG.out.2.2; omega
            go_loopw [14, 15] (fun vk vi wr => ∃ i : Nat, vi = .int .i64 (i : Int) ∧ i ≤ m ∧ ∃ k : Nat, vk = .int .i64 (k : Int) ∧ Hid (((N.take i).filter (fun d => decide (d.id ≠ id))).length = k) ∧ Hid (After w10 wr)) (fun _ vi _ => m - (intOf vi).toNat)
            case atStart => exact ⟨0, rfl, Nat.zero_le _, 0, rfl, rfl, After.refl w10⟩
            case round =>
              obtain ⟨i, rfl, him, k, rfl, HK2, HJ2'⟩ := hrel
              have HJ2 : Hid (True ∧ After w10 wr) := ⟨trivial, HJ2'.out⟩
              clear HJ2'
              by_cases hlt : i < m
              · have hii : (i : Int) < (m : Int) := by omega
                obtain ⟨d, hd⟩ : ∃ d, N[i]? = some d := ⟨_, List.getElem?_eq_getElem (by rw [H10.out.2.2.1]; exact hlt)⟩
                have hok : d.id.Ok := (HG2.out.ok d (tolds_mem (by rw [HNE.out.1]; exact List.mem_of_getElem? hd))).id
                have hci : (N.map (fun c => ccell c.id c.ch c.gone))[i]? = some (ccell d.id d.ch d.gone) := by rw [List.getElem?_map, hd]; rfl
                obtain ⟨gy, hya, -, hyr, -⟩ := own_cell H10.out.1 hci hok
                subst hya
                have HI : Hid (i < m ∧ d.id.Ok ∧ wr.rangeAt gy (i * 35) (idc d.id)) := ⟨hlt, hok, range_after hyr HJ2.out.2⟩
                have HBB : Hid (RowIs wr g3 33 (pcell (tp p)) ∧ RowIs wr g10 40 (idc id) ∧ RowIs wr g9 40 (idc af)) := ⟨HWS.out.2.2.1.below HJ2.out.2 HWS.out.2.2.1.lt, HWS.out.2.2.2.1.below HJ2.out.2 HWS.out.2.2.2.1.lt, HWS.out.2.2.2.2.1.below HJ2.out.2 HWS.out.2.2.2.2.1.lt⟩
                have HTK : Hid (N.take (i + 1) = N.take i ++ [d]) := by show _ = _; rw [List.take_add_one, hd]; rfl
                have HDN : Hid (N[i]? = some d) := hd
                have HYR : Hid (wr.rangeAt gy (i * 35) (ccell d.id d.ch d.gone)) := range_after (H10.out.1.range hci) HJ2.out.2
                clear hd hok hci hyr
                by_cases hq : d.id = id
                · have HDE : Hid (decide (d.id = id) = true) := decide_eq_true hq
                  have HKI : Hid ((N.take (i + 1)).filter (fun d => decide (d.id ≠ id)) = (N.take i).filter (fun d => decide (d.id ≠ id))) := by
                    show _ = _
                    rw [HTK.out, List.filter_append]
                    simp [hq]
                  go_wp2_with fail
                  refine wp_region_noPanic ?_
                  refine wp_region_held_drew (S := After wr) (by kernel_rfl) (After.drew (After.refl _)) ?_
                  intro hS0
                  refine tk 0 78 (.slice (some ⟨gy, 0, none⟩) m yc) (fuel := 7) rfl (by kernel_rfl) (by kernel_rfl) (by kernel_rfl) (by kernel_rfl) noPanic_false (by kernel_rfl) (fun _ _ => by kernel_rfl) hS0 ?_
                  refine tk 1 79 (.int .i64 (i : Int)) (fuel := 6) rfl (by kernel_rfl) (by kernel_rfl) (by kernel_rfl) (by kernel_rfl) noPanic_false (by kernel_rfl) (fun _ _ => by kernel_rfl) hS0 ?_
                  refine tk 2 80 (.pointer (some ⟨gy, i * 35, none⟩)) (fuel := 5) rfl (by kernel_rfl) (by kernel_rfl) (by kernel_rfl) (by kernel_rfl) noPanic_false (by kernel_rfl) (fun W _ => x_idx54 (x := .tmp 78) (y := .tmp 79) (b := gy) (n := m) (c := yc) (k := i) (by kernel_rfl) (by kernel_rfl) (by kernel_rfl) HI.out.1) hS0 ?_
                  refine tk 3 81 (.pointer (some ⟨gy, i * 35, none⟩)) (fuel := 4) rfl (by kernel_rfl) (by kernel_rfl) (by kernel_rfl) (by kernel_rfl) noPanic_false (by kernel_rfl) (fun _ _ => by kernel_rfl) hS0 ?_
                  refine tk 4 82 (idv d.id) (fuel := 3) rfl (by kernel_rfl) (by kernel_rfl) (by kernel_rfl) (by kernel_rfl) noPanic_false (by kernel_rfl) (fun W hW => x_ld37m (x := .tmp 81) (g := gy) (p := i * 35) HI.out.2.1 (by kernel_rfl) (by kernel_rfl) (range_after HI.out.2.2 hW)) hS0 ?_
                  refine tk 5 83 (idv id) (fuel := 2) rfl (by kernel_rfl) (by kernel_rfl) (by kernel_rfl) (by kernel_rfl) noPanic_false (by kernel_rfl) (fun W hW => x_ld40m (x := .tmp 10) (g := g10) (p := 0) HOK.out.2 (by kernel_rfl) (by kernel_rfl) (HBB.out.2.1.below hW HBB.out.2.1.lt).range0) hS0 ?_
                  refine tkCallZ 6 84 18 #[idv id] (fun v w' => v = idv id ∧ After wr w') (fuel := 1) rfl (by kernel_rfl) (by kernel_rfl) (by kernel_rfl) (fun _ => by kernel_rfl) (Calls.mono (own_any HOK.out.2 _) (fun e w' ⟨he, ha⟩ => ⟨_, he, rfl, hS0.trans ha⟩)) ?_
                  intro v6 w6 ⟨hv6, ha6⟩
                  subst hv6
                  refine ⟨ha6, ?_⟩
                  refine tk 7 85 (.bool true) (fuel := 0) rfl (by kernel_rfl) (by kernel_rfl) (by kernel_rfl) (by kernel_rfl) noPanic_false (by kernel_rfl) (fun W _ => (x_eqIdD (x := .tmp 82) (y := .tmp 84) (h := d.id) (k := id) HI.out.2.1 HOK.out.2 (by kernel_rfl) (by kernel_rfl) (by kernel_rfl)).trans (by rw [HDE.out])) ha6 ?_
                  refine wpAnyH_done (by kernel_rfl) (NoPanic.normal ?_) _
                  have HA6 : Hid (After wr w6) := ha6
                  have HB6 : Hid (RowIs w6 g3 33 (pcell (tp p)) ∧ RowIs w6 g10 40 (idc id) ∧ RowIs w6 g9 40 (idc af)) := ⟨HBB.out.1.below ha6 HBB.out.1.lt, HBB.out.2.1.below ha6 HBB.out.2.1.lt, HBB.out.2.2.below ha6 HBB.out.2.2.lt⟩
                  clear ha6 hS0
                  go_simp
                  go_wp2_with fail
                  have hpl := top_place (c := ⟨id, af, p.ch, false⟩) HG2.out HNW.out.1 HTP.out (by rw [HNE.out.1]; exact HDN.out) hq
                  rw [HNE.out.1] at hpl
                  cases i with
                  | zero =>
                    have HPL : Hid (decide ((0 : Nat) = 0) = true ∧ decide (af = zId) = true ∧ decide (0 < (0 : Nat)) = false) := ⟨by simp, decide_eq_true (hpl.1.1 rfl), by simp⟩
                    clear hpl hq
                    refine wp_region_noPanic ?_
                    refine wp_region_held_drew (S := After w6) (by kernel_rfl) (After.drew (After.refl _)) ?_
                    intro hS0
                    refine tk 0 86 (.pointer (some ⟨g3, 4, none⟩)) (fuel := 28) rfl (by kernel_rfl) (by kernel_rfl) (by kernel_rfl) (by kernel_rfl) noPanic_false (by kernel_rfl) (fun _ _ => by kernel_rfl) hS0 ?_
                    refine tk 1 87 (.bool true) (fuel := 27) rfl (by kernel_rfl) (by kernel_rfl) (by kernel_rfl) (by kernel_rfl) noPanic_false (by kernel_rfl) (fun W hW => x_loadT (x := .tmp 86) (t := 4) (g := g3) (j := 4) Try.underlying4 rfl (by kernel_rfl) (by kernel_rfl) ((HB6.out.1.below hW HB6.out.1.lt).cell (j := 4) HCUT.out)) hS0 ?_
                    refine tk 2 88 (.bool true) (fuel := 26) rfl (by kernel_rfl) (by kernel_rfl) (by kernel_rfl) (by kernel_rfl) noPanic_false (by kernel_rfl) (fun _ _ => by kernel_rfl) hS0 ?_
                    refine tk 3 89 (.int .i64 ((0 : Nat) : Int)) (fuel := 25) rfl (by kernel_rfl) (by kernel_rfl) (by kernel_rfl) (by kernel_rfl) noPanic_false (by kernel_rfl) (fun _ _ => by kernel_rfl) hS0 ?_
                    refine tk 4 90 (.bool true) (fuel := 24) rfl (by kernel_rfl) (by kernel_rfl) (by kernel_rfl) (by kernel_rfl) noPanic_false (by kernel_rfl) (fun W _ => (x_eq3z (x := .tmp 89) (n := 0) (by kernel_rfl) (by kernel_rfl)).trans (by rw [HPL.out.1])) hS0 ?_
                    refine tk 5 91 (idv af) (fuel := 23) rfl (by kernel_rfl) (by kernel_rfl) (by kernel_rfl) (by kernel_rfl) noPanic_false (by kernel_rfl) (fun W hW => x_ld40m (x := .tmp 9) (g := g9) (p := 0) HOK.out.1 (by kernel_rfl) (by kernel_rfl) (HB6.out.2.2.below hW HB6.out.2.2.lt).range0) hS0 ?_
                    refine tk 6 92 (idv zId) (fuel := 22) rfl (by kernel_rfl) (by kernel_rfl) (by kernel_rfl) (by kernel_rfl) noPanic_false (by kernel_rfl) (fun W _ => x_zb40 (by kernel_rfl)) hS0 ?_
                    refine tk 7 93 (.bool true) (fuel := 21) rfl (by kernel_rfl) (by kernel_rfl) (by kernel_rfl) (by kernel_rfl) noPanic_false (by kernel_rfl) (fun W _ => (x_eqId40 (x := .tmp 91) (y := .tmp 92) (h := af) (k := zId) HOK.out.1 zId_ok (by kernel_rfl) (by kernel_rfl) (by kernel_rfl)).trans (by rw [HPL.out.2.1])) hS0 ?_
                    refine tk 8 94 (.bool false) (fuel := 20) rfl (by kernel_rfl) (by kernel_rfl) (by kernel_rfl) (by kernel_rfl) noPanic_false (by kernel_rfl) (fun _ _ => by kernel_rfl) hS0 ?_
                    refine tk 9 95 (.bool false) (fuel := 19) rfl (by kernel_rfl) (by kernel_rfl) (by kernel_rfl) (by kernel_rfl) noPanic_false (by kernel_rfl) (fun _ _ => by kernel_rfl) hS0 ?_
                    refine tk 10 96 (.bool false) (fuel := 18) rfl (by kernel_rfl) (by kernel_rfl) (by kernel_rfl) (by kernel_rfl) noPanic_false (by kernel_rfl) (fun _ _ => by kernel_rfl) hS0 ?_
                    refine tk 11 97 (.pointer (some ⟨g3, 4, none⟩)) (fuel := 17) rfl (by kernel_rfl) (by kernel_rfl) (by kernel_rfl) (by kernel_rfl) noPanic_false (by kernel_rfl) (fun _ _ => by kernel_rfl) hS0 ?_
                    refine tk 12 98 (.bool true) (fuel := 16) rfl (by kernel_rfl) (by kernel_rfl) (by kernel_rfl) (by kernel_rfl) noPanic_false (by kernel_rfl) (fun W hW => x_loadT (x := .tmp 97) (t := 4) (g := g3) (j := 4) Try.underlying4 rfl (by kernel_rfl) (by kernel_rfl) ((HB6.out.1.below hW HB6.out.1.lt).cell (j := 4) HCUT.out)) hS0 ?_
                    refine tk 13 99 (.bool true) (fuel := 15) rfl (by kernel_rfl) (by kernel_rfl) (by kernel_rfl) (by kernel_rfl) noPanic_false (by kernel_rfl) (fun _ _ => by kernel_rfl) hS0 ?_
                    refine tk 14 100 (.int .i64 ((0 : Nat) : Int)) (fuel := 14) rfl (by kernel_rfl) (by kernel_rfl) (by kernel_rfl) (by kernel_rfl) noPanic_false (by kernel_rfl) (fun _ _ => by kernel_rfl) hS0 ?_
                    refine tk 15 101 (.bool false) (fuel := 13) rfl (by kernel_rfl) (by kernel_rfl) (by kernel_rfl) (by kernel_rfl) noPanic_false (by kernel_rfl) (fun W _ => (x_gt3z (x := .tmp 100) (n := 0) (by kernel_rfl) (by kernel_rfl)).trans (by rw [HPL.out.2.2])) hS0 ?_
                    refine tk 16 102 (.bool false) (fuel := 12) rfl (by kernel_rfl) (by kernel_rfl) (by kernel_rfl) (by kernel_rfl) noPanic_false (by kernel_rfl) (fun _ _ => by kernel_rfl) hS0 ?_
                    refine tk 17 103 (.bool false) (fuel := 11) rfl (by kernel_rfl) (by kernel_rfl) (by kernel_rfl) (by kernel_rfl) noPanic_false (by kernel_rfl) (fun _ _ => by kernel_rfl) hS0 ?_
                    refine tkSkip 18 104 (fuel := 10) rfl (by kernel_rfl) (by kernel_rfl) (by kernel_rfl) (by kernel_rfl) noPanic_false (by kernel_rfl) hS0 ?_
                    refine tkSkip 19 105 (fuel := 9) rfl (by kernel_rfl) (by kernel_rfl) (by kernel_rfl) (by kernel_rfl) noPanic_false (by kernel_rfl) hS0 ?_
                    refine tkSkip 20 106 (fuel := 8) rfl (by kernel_rfl) (by kernel_rfl) (by kernel_rfl) (by kernel_rfl) noPanic_false (by kernel_rfl) hS0 ?_
                    refine tkSkip 21 107 (fuel := 7) rfl (by kernel_rfl) (by kernel_rfl) (by kernel_rfl) (by kernel_rfl) noPanic_false (by kernel_rfl) hS0 ?_
                    refine tkSkip 22 108 (fuel := 6) rfl (by kernel_rfl) (by kernel_rfl) (by kernel_rfl) (by kernel_rfl) noPanic_false (by kernel_rfl) hS0 ?_
                    refine tkSkip 23 109 (fuel := 5) rfl (by kernel_rfl) (by kernel_rfl) (by kernel_rfl) (by kernel_rfl) noPanic_false (by kernel_rfl) hS0 ?_
                    refine tkSkip 24 110 (fuel := 4) rfl (by kernel_rfl) (by kernel_rfl) (by kernel_rfl) (by kernel_rfl) noPanic_false (by kernel_rfl) hS0 ?_
                    refine tkSkip 25 111 (fuel := 3) rfl (by kernel_rfl) (by kernel_rfl) (by kernel_rfl) (by kernel_rfl) noPanic_false (by kernel_rfl) hS0 ?_
                    refine tkSkip 26 112 (fuel := 2) rfl (by kernel_rfl) (by kernel_rfl) (by kernel_rfl) (by kernel_rfl) noPanic_false (by kernel_rfl) hS0 ?_
                    refine tk 27 113 (.bool false) (fuel := 1) rfl (by kernel_rfl) (by kernel_rfl) (by kernel_rfl) (by kernel_rfl) noPanic_false (by kernel_rfl) (fun _ _ => by kernel_rfl) hS0 ?_
                    refine tk 28 114 (.bool false) (fuel := 0) rfl (by kernel_rfl) (by kernel_rfl) (by kernel_rfl) (by kernel_rfl) noPanic_false (by kernel_rfl) (fun _ _ => by kernel_rfl) hS0 ?_
                    refine wpAnyH_done (by kernel_rfl) (NoPanic.normal ?_) _
                    have H9 := show Hid (After wr w6.drew) from HA6.out.trans hS0
                    clear hS0
                    go_simp
                    go_wp2_with fail
                    have hkk : Hid (((N.take (0 + 1)).filter (fun d => decide (d.id ≠ id))).length = k) := by show _ = _; rw [HKI.out]; exact HK2.out
                    go_roundw
                    case rel => exact ⟨0 + 1, by go_num, by omega, k, rfl, hkk, HJ2.out.2.trans H9.out⟩
                    case measure => simp [intOf]; omega
                  | succ i0 =>
                    obtain ⟨x, hx, hxa⟩ := hpl.2 (by omega)
                    have hx : N[i0]? = some x := hx
                    have hxo : x.id.Ok := (HG2.out.ok x (tolds_mem (by rw [HNE.out.1]; exact List.mem_of_getElem? hx))).id
                    obtain ⟨gy', hgy', -, hyr', -⟩ := own_cell H10.out.1 (show (N.map (fun c => ccell c.id c.ch c.gone))[i0]? = some (ccell x.id x.ch x.gone) by rw [List.getElem?_map, hx]; rfl) hxo
                    cases hgy'
                    have hxa : x.id = af := hxa
                    rw [hxa] at hyr'
                    have HPV : Hid (i0 < m ∧ w6.rangeAt gy (i0 * 35) (idc af) ∧ (Value.int .i64 ((i0 + 1 : Nat) : Int)) = pv (i0 + 1) ∧ i0 ≤ 1000000) := ⟨by omega, range_after hyr' (HJ2.out.2.trans HA6.out), rfl, by omega⟩
                    have HPL : Hid (decide (i0 + 1 = 0) = false ∧ decide (af = zId) = false ∧ decide (0 < i0 + 1) = true) := ⟨by simp, decide_eq_false (fun q => by have := hpl.1.2 q; omega), by simp⟩
                    clear hpl hq hx hxo hyr' hxa
                    refine wp_region_noPanic ?_
                    refine wp_region_held_drew (S := After w6) (by kernel_rfl) (After.drew (After.refl _)) ?_
                    intro hS0
                    refine tk 0 86 (.pointer (some ⟨g3, 4, none⟩)) (fuel := 28) rfl (by kernel_rfl) (by kernel_rfl) (by kernel_rfl) (by kernel_rfl) noPanic_false (by kernel_rfl) (fun _ _ => by kernel_rfl) hS0 ?_
                    refine tk 1 87 (.bool true) (fuel := 27) rfl (by kernel_rfl) (by kernel_rfl) (by kernel_rfl) (by kernel_rfl) noPanic_false (by kernel_rfl) (fun W hW => x_loadT (x := .tmp 86) (t := 4) (g := g3) (j := 4) Try.underlying4 rfl (by kernel_rfl) (by kernel_rfl) ((HB6.out.1.below hW HB6.out.1.lt).cell (j := 4) HCUT.out)) hS0 ?_
                    refine tk 2 88 (.bool true) (fuel := 26) rfl (by kernel_rfl) (by kernel_rfl) (by kernel_rfl) (by kernel_rfl) noPanic_false (by kernel_rfl) (fun _ _ => by kernel_rfl) hS0 ?_
                    refine tk 3 89 (.int .i64 ((i0 + 1 : Nat) : Int)) (fuel := 25) rfl (by kernel_rfl) (by kernel_rfl) (by kernel_rfl) (by kernel_rfl) noPanic_false (by kernel_rfl) (fun _ _ => by kernel_rfl) hS0 ?_
                    refine tk 4 90 (.bool false) (fuel := 24) rfl (by kernel_rfl) (by kernel_rfl) (by kernel_rfl) (by kernel_rfl) noPanic_false (by kernel_rfl) (fun W _ => (x_eq3z (x := .tmp 89) (n := i0 + 1) (by kernel_rfl) (by kernel_rfl)).trans (by rw [HPL.out.1])) hS0 ?_
                    refine tk 5 91 (idv af) (fuel := 23) rfl (by kernel_rfl) (by kernel_rfl) (by kernel_rfl) (by kernel_rfl) noPanic_false (by kernel_rfl) (fun W hW => x_ld40m (x := .tmp 9) (g := g9) (p := 0) HOK.out.1 (by kernel_rfl) (by kernel_rfl) (HB6.out.2.2.below hW HB6.out.2.2.lt).range0) hS0 ?_
                    refine tk 6 92 (idv zId) (fuel := 22) rfl (by kernel_rfl) (by kernel_rfl) (by kernel_rfl) (by kernel_rfl) noPanic_false (by kernel_rfl) (fun W _ => x_zb40 (by kernel_rfl)) hS0 ?_
                    refine tk 7 93 (.bool false) (fuel := 21) rfl (by kernel_rfl) (by kernel_rfl) (by kernel_rfl) (by kernel_rfl) noPanic_false (by kernel_rfl) (fun W _ => (x_eqId40 (x := .tmp 91) (y := .tmp 92) (h := af) (k := zId) HOK.out.1 zId_ok (by kernel_rfl) (by kernel_rfl) (by kernel_rfl)).trans (by rw [HPL.out.2.1])) hS0 ?_
                    refine tk 8 94 (.bool false) (fuel := 20) rfl (by kernel_rfl) (by kernel_rfl) (by kernel_rfl) (by kernel_rfl) noPanic_false (by kernel_rfl) (fun _ _ => by kernel_rfl) hS0 ?_
                    refine tk 9 95 (.bool false) (fuel := 19) rfl (by kernel_rfl) (by kernel_rfl) (by kernel_rfl) (by kernel_rfl) noPanic_false (by kernel_rfl) (fun _ _ => by kernel_rfl) hS0 ?_
                    refine tk 10 96 (.bool false) (fuel := 18) rfl (by kernel_rfl) (by kernel_rfl) (by kernel_rfl) (by kernel_rfl) noPanic_false (by kernel_rfl) (fun _ _ => by kernel_rfl) hS0 ?_
                    refine tk 11 97 (.pointer (some ⟨g3, 4, none⟩)) (fuel := 17) rfl (by kernel_rfl) (by kernel_rfl) (by kernel_rfl) (by kernel_rfl) noPanic_false (by kernel_rfl) (fun _ _ => by kernel_rfl) hS0 ?_
                    refine tk 12 98 (.bool true) (fuel := 16) rfl (by kernel_rfl) (by kernel_rfl) (by kernel_rfl) (by kernel_rfl) noPanic_false (by kernel_rfl) (fun W hW => x_loadT (x := .tmp 97) (t := 4) (g := g3) (j := 4) Try.underlying4 rfl (by kernel_rfl) (by kernel_rfl) ((HB6.out.1.below hW HB6.out.1.lt).cell (j := 4) HCUT.out)) hS0 ?_
                    refine tk 13 99 (.bool true) (fuel := 15) rfl (by kernel_rfl) (by kernel_rfl) (by kernel_rfl) (by kernel_rfl) noPanic_false (by kernel_rfl) (fun _ _ => by kernel_rfl) hS0 ?_
                    refine tk 14 100 (.int .i64 ((i0 + 1 : Nat) : Int)) (fuel := 14) rfl (by kernel_rfl) (by kernel_rfl) (by kernel_rfl) (by kernel_rfl) noPanic_false (by kernel_rfl) (fun _ _ => by kernel_rfl) hS0 ?_
                    refine tk 15 101 (.bool true) (fuel := 13) rfl (by kernel_rfl) (by kernel_rfl) (by kernel_rfl) (by kernel_rfl) noPanic_false (by kernel_rfl) (fun W _ => (x_gt3z (x := .tmp 100) (n := i0 + 1) (by kernel_rfl) (by kernel_rfl)).trans (by rw [HPL.out.2.2])) hS0 ?_
                    refine tk 16 102 (.bool true) (fuel := 12) rfl (by kernel_rfl) (by kernel_rfl) (by kernel_rfl) (by kernel_rfl) noPanic_false (by kernel_rfl) (fun _ _ => by kernel_rfl) hS0 ?_
                    refine tk 17 103 (.bool true) (fuel := 11) rfl (by kernel_rfl) (by kernel_rfl) (by kernel_rfl) (by kernel_rfl) noPanic_false (by kernel_rfl) (fun _ _ => by kernel_rfl) hS0 ?_
                    refine tk 18 104 (.slice (some ⟨gy, 0, none⟩) m yc) (fuel := 10) rfl (by kernel_rfl) (by kernel_rfl) (by kernel_rfl) (by kernel_rfl) noPanic_false (by kernel_rfl) (fun _ _ => by kernel_rfl) hS0 ?_
                    refine tk 19 105 (.int .i64 ((i0 + 1 : Nat) : Int)) (fuel := 9) rfl (by kernel_rfl) (by kernel_rfl) (by kernel_rfl) (by kernel_rfl) noPanic_false (by kernel_rfl) (fun _ _ => by kernel_rfl) hS0 ?_
                    refine tk 20 106 (.int .i64 (i0 : Int)) (fuel := 8) rfl (by kernel_rfl) (by kernel_rfl) (by kernel_rfl) (by kernel_rfl) noPanic_false (by kernel_rfl) (fun W _ => x_dec1 (x := .tmp 105) (k := i0) HPV.out.2.2.2 (by kernel_rfl) (by kernel_rfl)) hS0 ?_
                    refine tk 21 107 (.pointer (some ⟨gy, i0 * 35, none⟩)) (fuel := 7) rfl (by kernel_rfl) (by kernel_rfl) (by kernel_rfl) (by kernel_rfl) noPanic_false (by kernel_rfl) (fun W _ => x_idx54 (x := .tmp 104) (y := .tmp 106) (b := gy) (n := m) (c := yc) (k := i0) (by kernel_rfl) (by kernel_rfl) (by kernel_rfl) HPV.out.1) hS0 ?_
                    refine tk 22 108 (.pointer (some ⟨gy, i0 * 35, none⟩)) (fuel := 6) rfl (by kernel_rfl) (by kernel_rfl) (by kernel_rfl) (by kernel_rfl) noPanic_false (by kernel_rfl) (fun _ _ => by kernel_rfl) hS0 ?_
                    refine tk 23 109 (idv af) (fuel := 5) rfl (by kernel_rfl) (by kernel_rfl) (by kernel_rfl) (by kernel_rfl) noPanic_false (by kernel_rfl) (fun W hW => x_ld37m (x := .tmp 108) (g := gy) (p := i0 * 35) HOK.out.1 (by kernel_rfl) (by kernel_rfl) (range_after HPV.out.2.1 hW)) hS0 ?_
                    refine tk 24 110 (idv af) (fuel := 4) rfl (by kernel_rfl) (by kernel_rfl) (by kernel_rfl) (by kernel_rfl) noPanic_false (by kernel_rfl) (fun W hW => x_ld40m (x := .tmp 9) (g := g9) (p := 0) HOK.out.1 (by kernel_rfl) (by kernel_rfl) (HB6.out.2.2.below hW HB6.out.2.2.lt).range0) hS0 ?_
                    refine tkCallZ 25 111 18 #[idv af] (fun v w' => v = idv af ∧ After w6 w') (fuel := 3) rfl (by kernel_rfl) (by kernel_rfl) (by kernel_rfl) (fun _ => by kernel_rfl) (Calls.mono (own_any HOK.out.1 _) (fun e w' ⟨he, ha⟩ => ⟨_, he, rfl, hS0.trans ha⟩)) ?_
                    intro v7 w7 ⟨hv7, ha7⟩
                    subst hv7
                    refine ⟨ha7, ?_⟩
                    refine tk 26 112 (.bool false) (fuel := 2) rfl (by kernel_rfl) (by kernel_rfl) (by kernel_rfl) (by kernel_rfl) noPanic_false (by kernel_rfl) (fun W _ => (x_neId (x := .tmp 109) (y := .tmp 111) (h := af) (k := af) HOK.out.1 HOK.out.1 (by kernel_rfl) (by kernel_rfl) (by kernel_rfl)).trans (by simp)) ha7 ?_
                    refine tk 27 113 (.bool false) (fuel := 1) rfl (by kernel_rfl) (by kernel_rfl) (by kernel_rfl) (by kernel_rfl) noPanic_false (by kernel_rfl) (fun _ _ => by kernel_rfl) ha7 ?_
                    refine tk 28 114 (.bool false) (fuel := 0) rfl (by kernel_rfl) (by kernel_rfl) (by kernel_rfl) (by kernel_rfl) noPanic_false (by kernel_rfl) (fun _ _ => by kernel_rfl) ha7 ?_
                    refine wpAnyH_done (by kernel_rfl) (NoPanic.normal ?_) _
                    have H9 := show Hid (After wr w7) from HA6.out.trans ha7
                    clear ha7 hS0
                    go_simp
                    go_wp2_with fail
                    have hkk : Hid (((N.take (i0 + 1 + 1)).filter (fun d => decide (d.id ≠ id))).length = k) := by show _ = _; rw [HKI.out]; exact HK2.out
                    go_roundw
                    case rel => exact ⟨i0 + 1 + 1, by go_num, by omega, k, rfl, hkk, HJ2.out.2.trans H9.out⟩
                    case measure => simp [intOf]; omega
                · have HDE : Hid (decide (d.id = id) = false) := decide_eq_false hq
                  have HKI : Hid (((N.take (i + 1)).filter (fun d => decide (d.id ≠ id))).length = k + 1) := by
                    show _ = _
                    rw [HTK.out, List.filter_append, List.length_append, HK2.out]
                    simp [hq]
                  have hwas : (tolds cells)[k]? = some d := by
                    have e : N.filter (fun d => decide (d.id ≠ id)) = (N.take i).filter (fun d => decide (d.id ≠ id)) ++ d :: (N.drop (i + 1)).filter (fun d => decide (d.id ≠ id)) := by
                      conv => lhs; rw [← List.take_append_drop (i + 1) N]
                      rw [HTK.out, List.filter_append, List.filter_append, List.filter_cons_of_pos (by simpa using hq)]
                      simp
                    rw [← HNE.out.2, e, List.getElem?_append_right (by rw [HK2.out]; exact Nat.le_refl _), HK2.out, Nat.sub_self]
                    rfl
                  have hkc : k < cn := by have := (List.getElem?_eq_some_iff.1 hwas).1; have := HWS.out.2.1; omega
                  have hcw : ((tolds cells).map (fun c => ccell c.id c.ch c.gone))[k]? = some (ccell d.id d.ch d.gone) := by rw [List.getElem?_map, hwas]; rfl
                  obtain ⟨gx, hxa, -⟩ := own_cell HWS.out.1 hcw HI.out.2.1
                  subst hxa
                  go_wp2_with fail
                  refine wp_region_noPanic ?_
                  refine wp_region_held_drew (S := After wr) (by kernel_rfl) (After.drew (After.refl _)) ?_
                  intro hS0
                  refine tk 0 78 (.slice (some ⟨gy, 0, none⟩) m yc) (fuel := 7) rfl (by kernel_rfl) (by kernel_rfl) (by kernel_rfl) (by kernel_rfl) noPanic_false (by kernel_rfl) (fun _ _ => by kernel_rfl) hS0 ?_
                  refine tk 1 79 (.int .i64 (i : Int)) (fuel := 6) rfl (by kernel_rfl) (by kernel_rfl) (by kernel_rfl) (by kernel_rfl) noPanic_false (by kernel_rfl) (fun _ _ => by kernel_rfl) hS0 ?_
                  refine tk 2 80 (.pointer (some ⟨gy, i * 35, none⟩)) (fuel := 5) rfl (by kernel_rfl) (by kernel_rfl) (by kernel_rfl) (by kernel_rfl) noPanic_false (by kernel_rfl) (fun W _ => x_idx54 (x := .tmp 78) (y := .tmp 79) (b := gy) (n := m) (c := yc) (k := i) (by kernel_rfl) (by kernel_rfl) (by kernel_rfl) HI.out.1) hS0 ?_
                  refine tk 3 81 (.pointer (some ⟨gy, i * 35, none⟩)) (fuel := 4) rfl (by kernel_rfl) (by kernel_rfl) (by kernel_rfl) (by kernel_rfl) noPanic_false (by kernel_rfl) (fun _ _ => by kernel_rfl) hS0 ?_
                  refine tk 4 82 (idv d.id) (fuel := 3) rfl (by kernel_rfl) (by kernel_rfl) (by kernel_rfl) (by kernel_rfl) noPanic_false (by kernel_rfl) (fun W hW => x_ld37m (x := .tmp 81) (g := gy) (p := i * 35) HI.out.2.1 (by kernel_rfl) (by kernel_rfl) (range_after HI.out.2.2 hW)) hS0 ?_
                  refine tk 5 83 (idv id) (fuel := 2) rfl (by kernel_rfl) (by kernel_rfl) (by kernel_rfl) (by kernel_rfl) noPanic_false (by kernel_rfl) (fun W hW => x_ld40m (x := .tmp 10) (g := g10) (p := 0) HOK.out.2 (by kernel_rfl) (by kernel_rfl) (HBB.out.2.1.below hW HBB.out.2.1.lt).range0) hS0 ?_
                  refine tkCallZ 6 84 18 #[idv id] (fun v w' => v = idv id ∧ After wr w') (fuel := 1) rfl (by kernel_rfl) (by kernel_rfl) (by kernel_rfl) (fun _ => by kernel_rfl) (Calls.mono (own_any HOK.out.2 _) (fun e w' ⟨he, ha⟩ => ⟨_, he, rfl, hS0.trans ha⟩)) ?_
                  intro v6 w6 ⟨hv6, ha6⟩
                  subst hv6
                  refine ⟨ha6, ?_⟩
                  refine tk 7 85 (.bool false) (fuel := 0) rfl (by kernel_rfl) (by kernel_rfl) (by kernel_rfl) (by kernel_rfl) noPanic_false (by kernel_rfl) (fun W _ => (x_eqIdD (x := .tmp 82) (y := .tmp 84) (h := d.id) (k := id) HI.out.2.1 HOK.out.2 (by kernel_rfl) (by kernel_rfl) (by kernel_rfl)).trans (by rw [HDE.out])) ha6 ?_
                  refine wpAnyH_done (by kernel_rfl) (NoPanic.normal ?_) _
                  have HA6 : Hid (After wr w6) := ha6
                  have HWX : Hid (k < cn ∧ w6.rangeAt gx (k * 35) (ccell d.id d.ch d.gone) ∧ w6.rangeAt gy (i * 35) (ccell d.id d.ch d.gone)) := ⟨hkc, range_after (HWS.out.1.range hcw) (HJ2.out.2.trans ha6), range_after HYR.out ha6⟩
                  clear ha6 hS0 hwas hcw hq
                  go_simp
                  go_wp2_with fail
                  refine wp_region_noPanic ?_
                  refine wp_region_held_drew (S := After w6) (by kernel_rfl) (After.drew (After.refl _)) ?_
                  intro hS0
                  refine tk 0 115 (.int .i64 (k : Int)) (fuel := 14) rfl (by kernel_rfl) (by kernel_rfl) (by kernel_rfl) (by kernel_rfl) noPanic_false (by kernel_rfl) (fun _ _ => by kernel_rfl) hS0 ?_
                  refine tk 1 116 (.slice (some ⟨gx, 0, none⟩) cn xc) (fuel := 13) rfl (by kernel_rfl) (by kernel_rfl) (by kernel_rfl) (by kernel_rfl) noPanic_false (by kernel_rfl) (fun _ _ => by kernel_rfl) hS0 ?_
                  refine tk 2 117 (.int .i64 (cn : Int)) (fuel := 12) rfl (by kernel_rfl) (by kernel_rfl) (by kernel_rfl) (by kernel_rfl) noPanic_false (by kernel_rfl) (fun _ _ => by kernel_rfl) hS0 ?_
                  refine tk 3 118 (.bool false) (fuel := 11) rfl (by kernel_rfl) (by kernel_rfl) (by kernel_rfl) (by kernel_rfl) noPanic_false (by kernel_rfl) (fun W _ => x_geq3 (x := .tmp 115) (y := .tmp 117) (p := k) (q := cn) HWX.out.1 (by kernel_rfl) (by kernel_rfl) (by kernel_rfl)) hS0 ?_
                  refine tk 4 119 (.bool false) (fuel := 10) rfl (by kernel_rfl) (by kernel_rfl) (by kernel_rfl) (by kernel_rfl) noPanic_false (by kernel_rfl) (fun _ _ => by kernel_rfl) hS0 ?_
                  refine tk 5 120 (.slice (some ⟨gy, 0, none⟩) m yc) (fuel := 9) rfl (by kernel_rfl) (by kernel_rfl) (by kernel_rfl) (by kernel_rfl) noPanic_false (by kernel_rfl) (fun _ _ => by kernel_rfl) hS0 ?_
                  refine tk 6 121 (.int .i64 (i : Int)) (fuel := 8) rfl (by kernel_rfl) (by kernel_rfl) (by kernel_rfl) (by kernel_rfl) noPanic_false (by kernel_rfl) (fun _ _ => by kernel_rfl) hS0 ?_
                  refine tk 7 122 (.pointer (some ⟨gy, i * 35, none⟩)) (fuel := 7) rfl (by kernel_rfl) (by kernel_rfl) (by kernel_rfl) (by kernel_rfl) noPanic_false (by kernel_rfl) (fun W _ => x_idx54 (x := .tmp 120) (y := .tmp 121) (b := gy) (n := m) (c := yc) (k := i) (by kernel_rfl) (by kernel_rfl) (by kernel_rfl) HI.out.1) hS0 ?_
                  refine tk 8 123 (.agg (ccell d.id d.ch d.gone).toArray) (fuel := 6) rfl (by kernel_rfl) (by kernel_rfl) (by kernel_rfl) (by kernel_rfl) noPanic_false (by kernel_rfl) (fun W hW => x_ld63c (x := .tmp 122) (g := gy) (p := i * 35) HI.out.2.1 (by kernel_rfl) (by kernel_rfl) (range_after HWX.out.2.2 hW)) hS0 ?_
                  refine tk 9 124 (.slice (some ⟨gx, 0, none⟩) cn xc) (fuel := 5) rfl (by kernel_rfl) (by kernel_rfl) (by kernel_rfl) (by kernel_rfl) noPanic_false (by kernel_rfl) (fun _ _ => by kernel_rfl) hS0 ?_
                  refine tk 10 125 (.int .i64 (k : Int)) (fuel := 4) rfl (by kernel_rfl) (by kernel_rfl) (by kernel_rfl) (by kernel_rfl) noPanic_false (by kernel_rfl) (fun _ _ => by kernel_rfl) hS0 ?_
                  refine tk 11 126 (.pointer (some ⟨gx, k * 35, none⟩)) (fuel := 3) rfl (by kernel_rfl) (by kernel_rfl) (by kernel_rfl) (by kernel_rfl) noPanic_false (by kernel_rfl) (fun W _ => x_idx54 (x := .tmp 124) (y := .tmp 125) (b := gx) (n := cn) (c := xc) (k := k) (by kernel_rfl) (by kernel_rfl) (by kernel_rfl) HWX.out.1) hS0 ?_
                  refine tk 12 127 (.agg (ccell d.id d.ch d.gone).toArray) (fuel := 2) rfl (by kernel_rfl) (by kernel_rfl) (by kernel_rfl) (by kernel_rfl) noPanic_false (by kernel_rfl) (fun W hW => x_ld63c (x := .tmp 126) (g := gx) (p := k * 35) HI.out.2.1 (by kernel_rfl) (by kernel_rfl) (range_after HWX.out.2.1 hW)) hS0 ?_
                  refine tk 13 128 (.bool false) (fuel := 1) rfl (by kernel_rfl) (by kernel_rfl) (by kernel_rfl) (by kernel_rfl) noPanic_false (by kernel_rfl) (fun W _ => x_ne63 (x := .tmp 123) (y := .tmp 127) (id := d.id) (ch := d.ch) (gn := d.gone) HI.out.2.1 (by kernel_rfl) (by kernel_rfl) (by kernel_rfl)) hS0 ?_
                  refine tk 14 129 (.bool false) (fuel := 0) rfl (by kernel_rfl) (by kernel_rfl) (by kernel_rfl) (by kernel_rfl) noPanic_false (by kernel_rfl) (fun _ _ => by kernel_rfl) hS0 ?_
                  refine wpAnyH_done (by kernel_rfl) (NoPanic.normal ?_) _
                  have H9b := show Hid (After wr w6.drew) from HA6.out.trans hS0
                  clear hS0
                  go_simp
                  go_wp2_with fail
                  go_roundw
                  case rel => exact ⟨i + 1, by go_num, by omega, k + 1, by go_num, HKI.out, HJ2.out.2.trans H9b.out⟩
                  case measure => simp [intOf]; omega
              · obtain rfl : i = m := by omega
                have hii : ¬ (i : Int) < (i : Int) := by omega
                have hkn : k = cn := by
                  have h1 := HK2.out
                  rw [List.take_of_length_le (by rw [H10.out.2.2.1]; exact Nat.le_refl _), HNE.out.2, HWS.out.2.1] at h1
                  exact h1.symm
                subst hkn
                have him2 : i = k + 1 := H10.out.2.2.2
                subst him2
                go_wp2_with (first
                  | (go_at_call 12; refine Calls.mono (awake_any _) ?_; rintro e w12 ⟨rfl, ha12⟩; have H12 := show Hid (After w w12) from (HWS.out.2.2.2.2.2.trans HJ2.out.2).trans ha12; clear ha12))
                go_ret
                exact ⟨rfl, H12.out⟩
          · have hE2 := (keep_err (cells := cells) (c := ⟨id, af, p.ch, false⟩) HNM.out.1 HNM.out.2.1 HNM.out.2.2).resolve_left hE
            obtain ⟨j, hj⟩ := Option.isSome_iff_exists.1 hE2.2
            have HF : Hid (rplc cells id = some j) := hj
            have hE : rInsE cells af id = 23 := hE2.1
            refine wp_region_noPanic ?_
            refine wp_region_held_drew (S := KeptF (Foot g D1) W8) (by kernel_rfl) (KeptF.of_after (After.drew (After.refl _))) ?_
            intro hS0
            refine tk 0 54 (.pointer (some ⟨g, 0, none⟩)) (fuel := 8) rfl (by kernel_rfl) (by kernel_rfl) (by kernel_rfl) (by kernel_rfl) noPanic_false (by kernel_rfl) (fun _ _ => by kernel_rfl) hS0 ?_
            refine tk 1 55 (idv af) (fuel := 7) rfl (by kernel_rfl) (by kernel_rfl) (by kernel_rfl) (by kernel_rfl) noPanic_false (by kernel_rfl) (fun W hW => x_ld40m (x := .tmp 9) (g := g9) (p := 0) HOK.out.1 (by kernel_rfl) (by kernel_rfl) (H8.out.row.box40 hW H8.out.baf).range0) hS0 ?_
            refine tk 3 57 (idv id) (fuel := 6) rfl (by kernel_rfl) (by kernel_rfl) (by kernel_rfl) (by kernel_rfl) noPanic_false (by kernel_rfl) (fun W hW => x_ld40m (x := .tmp 10) (g := g10) (p := 0) HOK.out.2 (by kernel_rfl) (by kernel_rfl) (H8.out.row.box40 hW H8.out.bid).range0) hS0 ?_
            refine tk 5 59 (.pointer (some ⟨g3, 3, none⟩)) (fuel := 5) rfl (by kernel_rfl) (by kernel_rfl) (by kernel_rfl) (by kernel_rfl) noPanic_false (by kernel_rfl) (fun _ _ => by kernel_rfl) hS0 ?_
            refine tk 6 60 (.int .u8 (p.ch.toNat : Int)) (fuel := 4) rfl (by kernel_rfl) (by kernel_rfl) (by kernel_rfl) (by kernel_rfl) noPanic_false (by kernel_rfl) (fun W hW => x_loadT (x := .tmp 59) (t := 5) (g := g3) (j := 3) Try.underlying5 rfl (by kernel_rfl) (by kernel_rfl) ((H8.out.row.box33 hW H8.out.put).cell (j := 3) rfl)) hS0 ?_
            refine tkCallZ 2 56 18 #[idv af] (fun v w' => v = idv af ∧ After W8 w') (fuel := 3) rfl (by kernel_rfl) (by kernel_rfl) (by kernel_rfl) (fun _ => by kernel_rfl) (Calls.mono (own_any HOK.out.1 _) (fun e w' ⟨he, ha⟩ => ⟨_, he, rfl, (After.drew (After.refl W8)).trans ha⟩)) ?_
            intro v3 wa3 ⟨hv3, ha3⟩
            subst hv3
            refine ⟨KeptF.of_after ha3, ?_⟩
            refine tkCallZ 4 58 18 #[idv id] (fun v w' => v = idv id ∧ After W8 w') (fuel := 2) rfl (by kernel_rfl) (by kernel_rfl) (by kernel_rfl) (fun _ => by kernel_rfl) (Calls.mono (own_any HOK.out.2 _) (fun e w' ⟨he, ha⟩ => ⟨_, he, rfl, ha3.trans ha⟩)) ?_
            intro v4 wa4 ⟨hv4, ha4⟩
            subst hv4
            refine ⟨KeptF.of_after ha4, ?_⟩
            refine tkCallZ 7 61 22 #[.pointer (some ⟨g, 0, none⟩), idv af, idv id, .int .u8 (p.ch.toNat : Int)] (fun v w' => v = .int .i64 23 ∧ ∃ D', RowAt w' B g (insF st af id p.ch) D' ∧ KeptF (Foot g D1) wa4 w') (fuel := 1) rfl (by kernel_rfl) (by kernel_rfl) (by kernel_rfl) (fun _ => by kernel_rfl) (Calls.mono (Insert_any (H8.out.row.after ha4) HAL.out.1.wf HAL.out.2.2 HOK.out.1 HOK.out.2 p.ch) (fun e w' ⟨he, D', h1, _, h3⟩ => ⟨_, he, by rw [perm_insE HAL.out.1 HAL.out.2.1, hE]; rfl, D', h1, h3⟩)) ?_
            intro v5 w9 ⟨hv5, D5, h51, h53⟩
            subst hv5
            have hk5 : KeptF (Foot g D1) W8 w9 := (KeptF.of_after ha4).trans h53 (fun _ _ h => h)
            refine ⟨hk5, ?_⟩
            refine tk 8 62 (.bool true) (fuel := 0) rfl (by kernel_rfl) (by kernel_rfl) (by kernel_rfl) (by kernel_rfl) noPanic_false (by kernel_rfl) (fun _ _ => by kernel_rfl) hk5 ?_
            refine wpAnyH_done (by kernel_rfl) (NoPanic.normal ?_) _
            have H9 := show Hid (Kp w w9 B g g3 g8 g9 g10 (insF st af id p.ch) D5 cells ca cn cc xa xc (tp p) af id) from H8.out.kept h51 hk5
            clear h51 h53 hk5 ha3 ha4 hS0 hE hE2 hj
            have HFC : Hid (Calls Try.prog 30 #[.agg #[.slice ca cn cc], .agg (idc id).toArray] w9 fun e w' => e = .returned (.int .i64 (j : Int)) ∧ After w9 w') := by
              have := Find_any H9.out.ref HOK.out.2 (by have := HG.out.2.1; have := HG.out.2.2; omega)
              rw [HF.out] at this; exact this
            have hj0 : (0 : Int) ≤ (j : Int) := by omega
            go_simp
            go_wp2_with (first
              | (refine wpList_load_row rfl 29 (.tmp 8) rfl g8 rfl 29 #[.slice ca cn cc] (0, 0) _ H9.out.box Try.underlying29 rfl (size29 _) ?_)
              | (refine wpList_load_row rfl 40 (.tmp 10) rfl g10 rfl 40 (idc id).toArray (0, 0) _ H9.out.bid Try.underlying40 rfl (size40 HOK.out.2) ?_)
              | (go_at_call 30; refine Calls.mono HFC.out ?_; rintro e w11 ⟨rfl, ha11⟩; have H11 := show Hid (After w w11) from H9.out.aft.trans ha11; clear ha11)
              | (go_at_call 12; refine Calls.mono (awake_any _) ?_; rintro e w12 ⟨rfl, ha12⟩; have H12 := show Hid (After w w12) from H11.out.trans ha12; clear ha12))
            go_ret
            exact ⟨rfl, H12.out⟩
        | false =>
          have cc4 : wr.cell? ⟨g3, 4, none⟩ = some (.bool false) := by have := H7.out.put.cell (j := 4) (v := .bool (tp p).cut) rfl; rw [show (tp p).cut = p.cut from rfl, hcut] at this; exact this
          have HCUT : Hid ((pcell (tp p))[4]? = some (.bool false)) := by show some (Value.bool p.cut) = _; rw [hcut]
          obtain ⟨id, hidn⟩ : ∃ id : Idn, id = id0 := ⟨_, rfl⟩
          subst hidn
          obtain ⟨W8, hW8⟩ : ∃ W8, W8 = wr := ⟨_, rfl⟩
          subst hW8
          have HOK : Hid (af.Ok ∧ id.Ok) := HOK0.out
          have H8 : Hid (Kp w W8 B g g3 g8 g9 g10 st D1 cells ca cn cc xa xc (tp p) af id) := H7.out
          have HNM : Hid (1 ≤ id.c ∧ af.c < id.c ∧ (af = zId ∨ ∃ d ∈ cells, d.id = af)) := ⟨by have := HNB.out; omega, HNB.out.2.2.1, HNB.out.2.2.2⟩
          clear hcut
          go_wp2_with fail
          clear cc4
          by_cases hE : rInsE cells af id = 0
          · have HE0 : Hid (rInsE cells af id = 0) := hE
            have HNW : Hid (Nw cells ⟨id, af, p.ch, false⟩ ∧ rIns cells af id p.ch = cells ++ [⟨id, af, p.ch, false⟩]) := keep_new (c := ⟨id, af, p.ch, false⟩) HG.out.1 rfl HNM.out.1 hE
            have HG2 : Hid (Gd (cells ++ [⟨id, af, p.ch, false⟩])) := by rw [← HNW.out.2]; exact HG.out.1.ins HOK.out.1 HOK.out.2 p.ch
            have HA2 : Hid (Alike (insF st af id p.ch) (li ++ [⟨id, af, p.ch, false⟩])) := by
              have hrn := rIns_ok (c := ⟨id, af, p.ch, false⟩) HAL.out.1 rfl (by rw [perm_insE HAL.out.1 HAL.out.2.1]; exact hE)
              have ha := HAL.out.1
              exact ⟨ha.wf.insF HOK.out.2 _, by rw [← hrn]; exact ha.lnk.ins ha.wf _ _ _, by rw [← hrn]; exact ha.kid.ins ha.lnk ha.wf _ _ _⟩
            refine wp_region_noPanic ?_
            refine wp_region_held_drew (S := KeptF (Foot g D1) W8) (by kernel_rfl) (KeptF.of_after (After.drew (After.refl _))) ?_
            intro hS0
            refine tk 0 54 (.pointer (some ⟨g, 0, none⟩)) (fuel := 8) rfl (by kernel_rfl) (by kernel_rfl) (by kernel_rfl) (by kernel_rfl) noPanic_false (by kernel_rfl) (fun _ _ => by kernel_rfl) hS0 ?_
            refine tk 1 55 (idv af) (fuel := 7) rfl (by kernel_rfl) (by kernel_rfl) (by kernel_rfl) (by kernel_rfl) noPanic_false (by kernel_rfl) (fun W hW => x_ld40m (x := .tmp 9) (g := g9) (p := 0) HOK.out.1 (by kernel_rfl) (by kernel_rfl) (H8.out.row.box40 hW H8.out.baf).range0) hS0 ?_
            refine tk 3 57 (idv id) (fuel := 6) rfl (by kernel_rfl) (by kernel_rfl) (by kernel_rfl) (by kernel_rfl) noPanic_false (by kernel_rfl) (fun W hW => x_ld40m (x := .tmp 10) (g := g10) (p := 0) HOK.out.2 (by kernel_rfl) (by kernel_rfl) (H8.out.row.box40 hW H8.out.bid).range0) hS0 ?_
            refine tk 5 59 (.pointer (some ⟨g3, 3, none⟩)) (fuel := 5) rfl (by kernel_rfl) (by kernel_rfl) (by kernel_rfl) (by kernel_rfl) noPanic_false (by kernel_rfl) (fun _ _ => by kernel_rfl) hS0 ?_
            refine tk 6 60 (.int .u8 (p.ch.toNat : Int)) (fuel := 4) rfl (by kernel_rfl) (by kernel_rfl) (by kernel_rfl) (by kernel_rfl) noPanic_false (by kernel_rfl) (fun W hW => x_loadT (x := .tmp 59) (t := 5) (g := g3) (j := 3) Try.underlying5 rfl (by kernel_rfl) (by kernel_rfl) ((H8.out.row.box33 hW H8.out.put).cell (j := 3) rfl)) hS0 ?_
            refine tkCallZ 2 56 18 #[idv af] (fun v w' => v = idv af ∧ After W8 w') (fuel := 3) rfl (by kernel_rfl) (by kernel_rfl) (by kernel_rfl) (fun _ => by kernel_rfl) (Calls.mono (own_any HOK.out.1 _) (fun e w' ⟨he, ha⟩ => ⟨_, he, rfl, (After.drew (After.refl W8)).trans ha⟩)) ?_
            intro v3 wa3 ⟨hv3, ha3⟩
            subst hv3
            refine ⟨KeptF.of_after ha3, ?_⟩
            refine tkCallZ 4 58 18 #[idv id] (fun v w' => v = idv id ∧ After W8 w') (fuel := 2) rfl (by kernel_rfl) (by kernel_rfl) (by kernel_rfl) (fun _ => by kernel_rfl) (Calls.mono (own_any HOK.out.2 _) (fun e w' ⟨he, ha⟩ => ⟨_, he, rfl, ha3.trans ha⟩)) ?_
            intro v4 wa4 ⟨hv4, ha4⟩
            subst hv4
            refine ⟨KeptF.of_after ha4, ?_⟩
            refine tkCallZ 7 61 22 #[.pointer (some ⟨g, 0, none⟩), idv af, idv id, .int .u8 (p.ch.toNat : Int)] (fun v w' => v = .int .i64 0 ∧ ∃ D', RowAt w' B g (insF st af id p.ch) D' ∧ KeptF (Foot g D1) wa4 w') (fuel := 1) rfl (by kernel_rfl) (by kernel_rfl) (by kernel_rfl) (fun _ => by kernel_rfl) (Calls.mono (Insert_any (H8.out.row.after ha4) HAL.out.1.wf HAL.out.2.2 HOK.out.1 HOK.out.2 p.ch) (fun e w' ⟨he, D', h1, _, h3⟩ => ⟨_, he, by rw [perm_insE HAL.out.1 HAL.out.2.1, hE]; rfl, D', h1, h3⟩)) ?_
            intro v5 w9 ⟨hv5, D5, h51, h53⟩
            subst hv5
            have hk5 : KeptF (Foot g D1) W8 w9 := (KeptF.of_after ha4).trans h53 (fun _ _ h => h)
            refine ⟨hk5, ?_⟩
            refine tk 8 62 (.bool false) (fuel := 0) rfl (by kernel_rfl) (by kernel_rfl) (by kernel_rfl) (by kernel_rfl) noPanic_false (by kernel_rfl) (fun _ _ => by kernel_rfl) hk5 ?_
            refine wpAnyH_done (by kernel_rfl) (NoPanic.normal ?_) _
            have H9 := show Hid (Kp w w9 B g g3 g8 g9 g10 (insF st af id p.ch) D5 cells ca cn cc xa xc (tp p) af id) from H8.out.kept h51 hk5
            clear h51 h53 hk5 ha3 ha4 hS0 hE
            go_simp
            go_wp2_with (first
              | (go_at_call 24; refine Calls.mono (Cells_any H9.out.row HA2.out.wf (by have := HA2.out.lnk.len; have := HAL.out.2.1.length_eq; have := HG.out.2.1; have := HG.out.2.2; simp at *; omega)) ?_; rintro e w10 ⟨v10, U2, rfl, hU2, ho10, ha10⟩; obtain ⟨ht1, ht2⟩ := told_of HA2.out (HAL.out.2.1.append_right _) HG2.out hU2; obtain ⟨ya, yc, hyv⟩ := own_sl ho10; obtain ⟨m, hm⟩ : ∃ m, (cells ++ [(⟨id, af, p.ch, false⟩ : RC)]).length = m := ⟨_, rfl⟩; rw [ht2, hm] at hyv; subst hyv; rw [ht1] at ho10 ht2; have H10 := show Hid (OwnL w10 w9.heap.size 63 35 (.slice ya m yc) ((tolds (cells ++ [⟨id, af, p.ch, false⟩])).map (fun c => ccell c.id c.ch c.gone)) ∧ After w9 w10 ∧ (tolds (cells ++ [⟨id, af, p.ch, false⟩])).length = m ∧ m = cn + 1) from ⟨ho10, ha10, by rw [List.length_map] at ht2; rw [ht2]; exact hm, by rw [← hm, List.length_append, HG.out.2.1]; rfl⟩; clear ho10 ha10 ht1 ht2 hU2 hm))
            obtain ⟨N, hN⟩ : ∃ N, tolds (cells ++ [(⟨id, af, p.ch, false⟩ : RC)]) = N := ⟨_, rfl⟩
            rw [hN] at H10
            have HNE : Hid (tolds (cells ++ [(⟨id, af, p.ch, false⟩ : RC)]) = N ∧ N.filter (fun d => decide (d.id ≠ id)) = tolds cells) := ⟨hN, by rw [← hN]; exact tolds_rest HG.out.1 HNW.out.1⟩
            have HWS : Hid (OwnL w10 w.heap.size 63 35 (.slice xa cn xc) ((tolds cells).map (fun c => ccell c.id c.ch c.gone)) ∧ (tolds cells).length = cn ∧ RowIs w10 g3 33 (pcell (tp p)) ∧ RowIs w10 g10 40 (idc id) ∧ RowIs w10 g9 40 (idc af) ∧ After w w10) := ⟨H9.out.was.same (fun b hb => H10.out.2.1.block b (own_lt H9.out.was.2 hb).2.1), by have := own_sl H9.out.was; obtain ⟨q, r, e⟩ := this; rw [List.length_map] at e; cases e; rfl, H9.out.put.below H10.out.2.1 H9.out.put.lt, H9.out.bid.below H10.out.2.1 H9.out.bid.lt, H9.out.baf.below H10.out.2.1 H9.out.baf.lt, H9.out.aft.trans H10.out.2.1⟩
            clear hN
            have hm1 : m ≤ 200 := by have := H10.out.2.2.2; have := HG.out.2.2; omega
            go_loopw [14, 15] (fun vk vi wr => ∃ i : Nat, vi = .int .i64 (i : Int) ∧ i ≤ m ∧ ∃ k : Nat, vk = .int .i64 (k : Int) ∧ Hid (((N.take i).filter (fun d => decide (d.id ≠ id))).length = k) ∧ Hid (After w10 wr)) (fun _ vi _ => m - (intOf vi).toNat)
            case atStart => exact ⟨0, rfl, Nat.zero_le _, 0, rfl, rfl, After.refl w10⟩
            case round =>
              obtain ⟨i, rfl, him, k, rfl, HK2, HJ2'⟩ := hrel
              have HJ2 : Hid (True ∧ After w10 wr) := ⟨trivial, HJ2'.out⟩
              clear HJ2'
              by_cases hlt : i < m
              · have hii : (i : Int) < (m : Int) := by omega
                obtain ⟨d, hd⟩ : ∃ d, N[i]? = some d := ⟨_, List.getElem?_eq_getElem (by rw [H10.out.2.2.1]; exact hlt)⟩
                have hok : d.id.Ok := (HG2.out.ok d (tolds_mem (by rw [HNE.out.1]; exact List.mem_of_getElem? hd))).id
                have hci : (N.map (fun c => ccell c.id c.ch c.gone))[i]? = some (ccell d.id d.ch d.gone) := by rw [List.getElem?_map, hd]; rfl
                obtain ⟨gy, hya, -, hyr, -⟩ := own_cell H10.out.1 hci hok
                subst hya
                have HI : Hid (i < m ∧ d.id.Ok ∧ wr.rangeAt gy (i * 35) (idc d.id)) := ⟨hlt, hok, range_after hyr HJ2.out.2⟩
                have HBB : Hid (RowIs wr g3 33 (pcell (tp p)) ∧ RowIs wr g10 40 (idc id) ∧ RowIs wr g9 40 (idc af)) := ⟨HWS.out.2.2.1.below HJ2.out.2 HWS.out.2.2.1.lt, HWS.out.2.2.2.1.below HJ2.out.2 HWS.out.2.2.2.1.lt, HWS.out.2.2.2.2.1.below HJ2.out.2 HWS.out.2.2.2.2.1.lt⟩
                have HTK : Hid (N.take (i + 1) = N.take i ++ [d]) := by show _ = _; rw [List.take_add_one, hd]; rfl
                have HDN : Hid (N[i]? = some d) := hd
                have HYR : Hid (wr.rangeAt gy (i * 35) (ccell d.id d.ch d.gone)) := range_after (H10.out.1.range hci) HJ2.out.2
                clear hd hok hci hyr
                by_cases hq : d.id = id
                · have HDE : Hid (decide (d.id = id) = true) := decide_eq_true hq
                  have HKI : Hid ((N.take (i + 1)).filter (fun d => decide (d.id ≠ id)) = (N.take i).filter (fun d => decide (d.id ≠ id))) := by
                    show _ = _
                    rw [HTK.out, List.filter_append]
                    simp [hq]
                  go_wp2_with fail
                  refine wp_region_noPanic ?_
                  refine wp_region_held_drew (S := After wr) (by kernel_rfl) (After.drew (After.refl _)) ?_
                  intro hS0
                  refine tk 0 78 (.slice (some ⟨gy, 0, none⟩) m yc) (fuel := 7) rfl (by kernel_rfl) (by kernel_rfl) (by kernel_rfl) (by kernel_rfl) noPanic_false (by kernel_rfl) (fun _ _ => by kernel_rfl) hS0 ?_
                  refine tk 1 79 (.int .i64 (i : Int)) (fuel := 6) rfl (by kernel_rfl) (by kernel_rfl) (by kernel_rfl) (by kernel_rfl) noPanic_false (by kernel_rfl) (fun _ _ => by kernel_rfl) hS0 ?_
                  refine tk 2 80 (.pointer (some ⟨gy, i * 35, none⟩)) (fuel := 5) rfl (by kernel_rfl) (by kernel_rfl) (by kernel_rfl) (by kernel_rfl) noPanic_false (by kernel_rfl) (fun W _ => x_idx54 (x := .tmp 78) (y := .tmp 79) (b := gy) (n := m) (c := yc) (k := i) (by kernel_rfl) (by kernel_rfl) (by kernel_rfl) HI.out.1) hS0 ?_
                  refine tk 3 81 (.pointer (some ⟨gy, i * 35, none⟩)) (fuel := 4) rfl (by kernel_rfl) (by kernel_rfl) (by kernel_rfl) (by kernel_rfl) noPanic_false (by kernel_rfl) (fun _ _ => by kernel_rfl) hS0 ?_
                  refine tk 4 82 (idv d.id) (fuel := 3) rfl (by kernel_rfl) (by kernel_rfl) (by kernel_rfl) (by kernel_rfl) noPanic_false (by kernel_rfl) (fun W hW => x_ld37m (x := .tmp 81) (g := gy) (p := i * 35) HI.out.2.1 (by kernel_rfl) (by kernel_rfl) (range_after HI.out.2.2 hW)) hS0 ?_
                  refine tk 5 83 (idv id) (fuel := 2) rfl (by kernel_rfl) (by kernel_rfl) (by kernel_rfl) (by kernel_rfl) noPanic_false (by kernel_rfl) (fun W hW => x_ld40m (x := .tmp 10) (g := g10) (p := 0) HOK.out.2 (by kernel_rfl) (by kernel_rfl) (HBB.out.2.1.below hW HBB.out.2.1.lt).range0) hS0 ?_
                  refine tkCallZ 6 84 18 #[idv id] (fun v w' => v = idv id ∧ After wr w') (fuel := 1) rfl (by kernel_rfl) (by kernel_rfl) (by kernel_rfl) (fun _ => by kernel_rfl) (Calls.mono (own_any HOK.out.2 _) (fun e w' ⟨he, ha⟩ => ⟨_, he, rfl, hS0.trans ha⟩)) ?_
                  intro v6 w6 ⟨hv6, ha6⟩
                  subst hv6
                  refine ⟨ha6, ?_⟩
                  refine tk 7 85 (.bool true) (fuel := 0) rfl (by kernel_rfl) (by kernel_rfl) (by kernel_rfl) (by kernel_rfl) noPanic_false (by kernel_rfl) (fun W _ => (x_eqIdD (x := .tmp 82) (y := .tmp 84) (h := d.id) (k := id) HI.out.2.1 HOK.out.2 (by kernel_rfl) (by kernel_rfl) (by kernel_rfl)).trans (by rw [HDE.out])) ha6 ?_
                  refine wpAnyH_done (by kernel_rfl) (NoPanic.normal ?_) _
                  have HA6 : Hid (After wr w6) := ha6
                  have HB6 : Hid (RowIs w6 g3 33 (pcell (tp p)) ∧ RowIs w6 g10 40 (idc id) ∧ RowIs w6 g9 40 (idc af)) := ⟨HBB.out.1.below ha6 HBB.out.1.lt, HBB.out.2.1.below ha6 HBB.out.2.1.lt, HBB.out.2.2.below ha6 HBB.out.2.2.lt⟩
                  clear ha6 hS0
                  go_simp
                  go_wp2_with fail
                  clear hq
                  refine wp_region_noPanic ?_
                  refine wp_region_held_drew (S := After w6) (by kernel_rfl) (After.drew (After.refl _)) ?_
                  intro hS0
                  refine tk 0 86 (.pointer (some ⟨g3, 4, none⟩)) (fuel := 28) rfl (by kernel_rfl) (by kernel_rfl) (by kernel_rfl) (by kernel_rfl) noPanic_false (by kernel_rfl) (fun _ _ => by kernel_rfl) hS0 ?_
                  refine tk 1 87 (.bool false) (fuel := 27) rfl (by kernel_rfl) (by kernel_rfl) (by kernel_rfl) (by kernel_rfl) noPanic_false (by kernel_rfl) (fun W hW => x_loadT (x := .tmp 86) (t := 4) (g := g3) (j := 4) Try.underlying4 rfl (by kernel_rfl) (by kernel_rfl) ((HB6.out.1.below hW HB6.out.1.lt).cell (j := 4) HCUT.out)) hS0 ?_
                  refine tk 2 88 (.bool false) (fuel := 26) rfl (by kernel_rfl) (by kernel_rfl) (by kernel_rfl) (by kernel_rfl) noPanic_false (by kernel_rfl) (fun _ _ => by kernel_rfl) hS0 ?_
                  refine tkSkip 3 89 (fuel := 25) rfl (by kernel_rfl) (by kernel_rfl) (by kernel_rfl) (by kernel_rfl) noPanic_false (by kernel_rfl) hS0 ?_
                  refine tkSkip 4 90 (fuel := 24) rfl (by kernel_rfl) (by kernel_rfl) (by kernel_rfl) (by kernel_rfl) noPanic_false (by kernel_rfl) hS0 ?_
                  refine tkSkip 5 91 (fuel := 23) rfl (by kernel_rfl) (by kernel_rfl) (by kernel_rfl) (by kernel_rfl) noPanic_false (by kernel_rfl) hS0 ?_
                  refine tkSkip 6 92 (fuel := 22) rfl (by kernel_rfl) (by kernel_rfl) (by kernel_rfl) (by kernel_rfl) noPanic_false (by kernel_rfl) hS0 ?_
                  refine tkSkip 7 93 (fuel := 21) rfl (by kernel_rfl) (by kernel_rfl) (by kernel_rfl) (by kernel_rfl) noPanic_false (by kernel_rfl) hS0 ?_
                  refine tkSkip 8 94 (fuel := 20) rfl (by kernel_rfl) (by kernel_rfl) (by kernel_rfl) (by kernel_rfl) noPanic_false (by kernel_rfl) hS0 ?_
                  refine tk 9 95 (.bool false) (fuel := 19) rfl (by kernel_rfl) (by kernel_rfl) (by kernel_rfl) (by kernel_rfl) noPanic_false (by kernel_rfl) (fun _ _ => by kernel_rfl) hS0 ?_
                  refine tk 10 96 (.bool false) (fuel := 18) rfl (by kernel_rfl) (by kernel_rfl) (by kernel_rfl) (by kernel_rfl) noPanic_false (by kernel_rfl) (fun _ _ => by kernel_rfl) hS0 ?_
                  refine tk 11 97 (.pointer (some ⟨g3, 4, none⟩)) (fuel := 17) rfl (by kernel_rfl) (by kernel_rfl) (by kernel_rfl) (by kernel_rfl) noPanic_false (by kernel_rfl) (fun _ _ => by kernel_rfl) hS0 ?_
                  refine tk 12 98 (.bool false) (fuel := 16) rfl (by kernel_rfl) (by kernel_rfl) (by kernel_rfl) (by kernel_rfl) noPanic_false (by kernel_rfl) (fun W hW => x_loadT (x := .tmp 97) (t := 4) (g := g3) (j := 4) Try.underlying4 rfl (by kernel_rfl) (by kernel_rfl) ((HB6.out.1.below hW HB6.out.1.lt).cell (j := 4) HCUT.out)) hS0 ?_
                  refine tk 13 99 (.bool false) (fuel := 15) rfl (by kernel_rfl) (by kernel_rfl) (by kernel_rfl) (by kernel_rfl) noPanic_false (by kernel_rfl) (fun _ _ => by kernel_rfl) hS0 ?_
                  refine tkSkip 14 100 (fuel := 14) rfl (by kernel_rfl) (by kernel_rfl) (by kernel_rfl) (by kernel_rfl) noPanic_false (by kernel_rfl) hS0 ?_
                  refine tkSkip 15 101 (fuel := 13) rfl (by kernel_rfl) (by kernel_rfl) (by kernel_rfl) (by kernel_rfl) noPanic_false (by kernel_rfl) hS0 ?_
                  refine tk 16 102 (.bool false) (fuel := 12) rfl (by kernel_rfl) (by kernel_rfl) (by kernel_rfl) (by kernel_rfl) noPanic_false (by kernel_rfl) (fun _ _ => by kernel_rfl) hS0 ?_
                  refine tk 17 103 (.bool false) (fuel := 11) rfl (by kernel_rfl) (by kernel_rfl) (by kernel_rfl) (by kernel_rfl) noPanic_false (by kernel_rfl) (fun _ _ => by kernel_rfl) hS0 ?_
                  refine tkSkip 18 104 (fuel := 10) rfl (by kernel_rfl) (by kernel_rfl) (by kernel_rfl) (by kernel_rfl) noPanic_false (by kernel_rfl) hS0 ?_
                  refine tkSkip 19 105 (fuel := 9) rfl (by kernel_rfl) (by kernel_rfl) (by kernel_rfl) (by kernel_rfl) noPanic_false (by kernel_rfl) hS0 ?_
                  refine tkSkip 20 106 (fuel := 8) rfl (by kernel_rfl) (by kernel_rfl) (by kernel_rfl) (by kernel_rfl) noPanic_false (by kernel_rfl) hS0 ?_
                  refine tkSkip 21 107 (fuel := 7) rfl (by kernel_rfl) (by kernel_rfl) (by kernel_rfl) (by kernel_rfl) noPanic_false (by kernel_rfl) hS0 ?_
                  refine tkSkip 22 108 (fuel := 6) rfl (by kernel_rfl) (by kernel_rfl) (by kernel_rfl) (by kernel_rfl) noPanic_false (by kernel_rfl) hS0 ?_
                  refine tkSkip 23 109 (fuel := 5) rfl (by kernel_rfl) (by kernel_rfl) (by kernel_rfl) (by kernel_rfl) noPanic_false (by kernel_rfl) hS0 ?_
                  refine tkSkip 24 110 (fuel := 4) rfl (by kernel_rfl) (by kernel_rfl) (by kernel_rfl) (by kernel_rfl) noPanic_false (by kernel_rfl) hS0 ?_
                  refine tkSkip 25 111 (fuel := 3) rfl (by kernel_rfl) (by kernel_rfl) (by kernel_rfl) (by kernel_rfl) noPanic_false (by kernel_rfl) hS0 ?_
                  refine tkSkip 26 112 (fuel := 2) rfl (by kernel_rfl) (by kernel_rfl) (by kernel_rfl) (by kernel_rfl) noPanic_false (by kernel_rfl) hS0 ?_
                  refine tk 27 113 (.bool false) (fuel := 1) rfl (by kernel_rfl) (by kernel_rfl) (by kernel_rfl) (by kernel_rfl) noPanic_false (by kernel_rfl) (fun _ _ => by kernel_rfl) hS0 ?_
                  refine tk 28 114 (.bool false) (fuel := 0) rfl (by kernel_rfl) (by kernel_rfl) (by kernel_rfl) (by kernel_rfl) noPanic_false (by kernel_rfl) (fun _ _ => by kernel_rfl) hS0 ?_
                  refine wpAnyH_done (by kernel_rfl) (NoPanic.normal ?_) _
                  have H9 := show Hid (After wr w6.drew) from HA6.out.trans hS0
                  clear hS0
                  go_simp
                  go_wp2_with fail
                  have hkk : Hid (((N.take (i + 1)).filter (fun d => decide (d.id ≠ id))).length = k) := by show _ = _; rw [HKI.out]; exact HK2.out
                  go_roundw
                  case rel => exact ⟨i + 1, by go_num, by omega, k, rfl, hkk, HJ2.out.2.trans H9.out⟩
                  case measure => simp [intOf]; omega
                · have HDE : Hid (decide (d.id = id) = false) := decide_eq_false hq
                  have HKI : Hid (((N.take (i + 1)).filter (fun d => decide (d.id ≠ id))).length = k + 1) := by
                    show _ = _
                    rw [HTK.out, List.filter_append, List.length_append, HK2.out]
                    simp [hq]
                  have hwas : (tolds cells)[k]? = some d := by
                    have e : N.filter (fun d => decide (d.id ≠ id)) = (N.take i).filter (fun d => decide (d.id ≠ id)) ++ d :: (N.drop (i + 1)).filter (fun d => decide (d.id ≠ id)) := by
                      conv => lhs; rw [← List.take_append_drop (i + 1) N]
                      rw [HTK.out, List.filter_append, List.filter_append, List.filter_cons_of_pos (by simpa using hq)]
                      simp
                    rw [← HNE.out.2, e, List.getElem?_append_right (by rw [HK2.out]; exact Nat.le_refl _), HK2.out, Nat.sub_self]
                    rfl
                  have hkc : k < cn := by have := (List.getElem?_eq_some_iff.1 hwas).1; have := HWS.out.2.1; omega
                  have hcw : ((tolds cells).map (fun c => ccell c.id c.ch c.gone))[k]? = some (ccell d.id d.ch d.gone) := by rw [List.getElem?_map, hwas]; rfl
                  obtain ⟨gx, hxa, -⟩ := own_cell HWS.out.1 hcw HI.out.2.1
                  subst hxa
                  go_wp2_with fail
                  refine wp_region_noPanic ?_
                  refine wp_region_held_drew (S := After wr) (by kernel_rfl) (After.drew (After.refl _)) ?_
                  intro hS0
                  refine tk 0 78 (.slice (some ⟨gy, 0, none⟩) m yc) (fuel := 7) rfl (by kernel_rfl) (by kernel_rfl) (by kernel_rfl) (by kernel_rfl) noPanic_false (by kernel_rfl) (fun _ _ => by kernel_rfl) hS0 ?_
                  refine tk 1 79 (.int .i64 (i : Int)) (fuel := 6) rfl (by kernel_rfl) (by kernel_rfl) (by kernel_rfl) (by kernel_rfl) noPanic_false (by kernel_rfl) (fun _ _ => by kernel_rfl) hS0 ?_
                  refine tk 2 80 (.pointer (some ⟨gy, i * 35, none⟩)) (fuel := 5) rfl (by kernel_rfl) (by kernel_rfl) (by kernel_rfl) (by kernel_rfl) noPanic_false (by kernel_rfl) (fun W _ => x_idx54 (x := .tmp 78) (y := .tmp 79) (b := gy) (n := m) (c := yc) (k := i) (by kernel_rfl) (by kernel_rfl) (by kernel_rfl) HI.out.1) hS0 ?_
                  refine tk 3 81 (.pointer (some ⟨gy, i * 35, none⟩)) (fuel := 4) rfl (by kernel_rfl) (by kernel_rfl) (by kernel_rfl) (by kernel_rfl) noPanic_false (by kernel_rfl) (fun _ _ => by kernel_rfl) hS0 ?_
                  refine tk 4 82 (idv d.id) (fuel := 3) rfl (by kernel_rfl) (by kernel_rfl) (by kernel_rfl) (by kernel_rfl) noPanic_false (by kernel_rfl) (fun W hW => x_ld37m (x := .tmp 81) (g := gy) (p := i * 35) HI.out.2.1 (by kernel_rfl) (by kernel_rfl) (range_after HI.out.2.2 hW)) hS0 ?_
                  refine tk 5 83 (idv id) (fuel := 2) rfl (by kernel_rfl) (by kernel_rfl) (by kernel_rfl) (by kernel_rfl) noPanic_false (by kernel_rfl) (fun W hW => x_ld40m (x := .tmp 10) (g := g10) (p := 0) HOK.out.2 (by kernel_rfl) (by kernel_rfl) (HBB.out.2.1.below hW HBB.out.2.1.lt).range0) hS0 ?_
                  refine tkCallZ 6 84 18 #[idv id] (fun v w' => v = idv id ∧ After wr w') (fuel := 1) rfl (by kernel_rfl) (by kernel_rfl) (by kernel_rfl) (fun _ => by kernel_rfl) (Calls.mono (own_any HOK.out.2 _) (fun e w' ⟨he, ha⟩ => ⟨_, he, rfl, hS0.trans ha⟩)) ?_
                  intro v6 w6 ⟨hv6, ha6⟩
                  subst hv6
                  refine ⟨ha6, ?_⟩
                  refine tk 7 85 (.bool false) (fuel := 0) rfl (by kernel_rfl) (by kernel_rfl) (by kernel_rfl) (by kernel_rfl) noPanic_false (by kernel_rfl) (fun W _ => (x_eqIdD (x := .tmp 82) (y := .tmp 84) (h := d.id) (k := id) HI.out.2.1 HOK.out.2 (by kernel_rfl) (by kernel_rfl) (by kernel_rfl)).trans (by rw [HDE.out])) ha6 ?_
                  refine wpAnyH_done (by kernel_rfl) (NoPanic.normal ?_) _
                  have HA6 : Hid (After wr w6) := ha6
                  have HWX : Hid (k < cn ∧ w6.rangeAt gx (k * 35) (ccell d.id d.ch d.gone) ∧ w6.rangeAt gy (i * 35) (ccell d.id d.ch d.gone)) := ⟨hkc, range_after (HWS.out.1.range hcw) (HJ2.out.2.trans ha6), range_after HYR.out ha6⟩
                  clear ha6 hS0 hwas hcw hq
                  go_simp
                  go_wp2_with fail
                  refine wp_region_noPanic ?_
                  refine wp_region_held_drew (S := After w6) (by kernel_rfl) (After.drew (After.refl _)) ?_
                  intro hS0
                  refine tk 0 115 (.int .i64 (k : Int)) (fuel := 14) rfl (by kernel_rfl) (by kernel_rfl) (by kernel_rfl) (by kernel_rfl) noPanic_false (by kernel_rfl) (fun _ _ => by kernel_rfl) hS0 ?_
                  refine tk 1 116 (.slice (some ⟨gx, 0, none⟩) cn xc) (fuel := 13) rfl (by kernel_rfl) (by kernel_rfl) (by kernel_rfl) (by kernel_rfl) noPanic_false (by kernel_rfl) (fun _ _ => by kernel_rfl) hS0 ?_
                  refine tk 2 117 (.int .i64 (cn : Int)) (fuel := 12) rfl (by kernel_rfl) (by kernel_rfl) (by kernel_rfl) (by kernel_rfl) noPanic_false (by kernel_rfl) (fun _ _ => by kernel_rfl) hS0 ?_
                  refine tk 3 118 (.bool false) (fuel := 11) rfl (by kernel_rfl) (by kernel_rfl) (by kernel_rfl) (by kernel_rfl) noPanic_false (by kernel_rfl) (fun W _ => x_geq3 (x := .tmp 115) (y := .tmp 117) (p := k) (q := cn) HWX.out.1 (by kernel_rfl) (by kernel_rfl) (by kernel_rfl)) hS0 ?_
                  refine tk 4 119 (.bool false) (fuel := 10) rfl (by kernel_rfl) (by kernel_rfl) (by kernel_rfl) (by kernel_rfl) noPanic_false (by kernel_rfl) (fun _ _ => by kernel_rfl) hS0 ?_
                  refine tk 5 120 (.slice (some ⟨gy, 0, none⟩) m yc) (fuel := 9) rfl (by kernel_rfl) (by kernel_rfl) (by kernel_rfl) (by kernel_rfl) noPanic_false (by kernel_rfl) (fun _ _ => by kernel_rfl) hS0 ?_
                  refine tk 6 121 (.int .i64 (i : Int)) (fuel := 8) rfl (by kernel_rfl) (by kernel_rfl) (by kernel_rfl) (by kernel_rfl) noPanic_false (by kernel_rfl) (fun _ _ => by kernel_rfl) hS0 ?_
                  refine tk 7 122 (.pointer (some ⟨gy, i * 35, none⟩)) (fuel := 7) rfl (by kernel_rfl) (by kernel_rfl) (by kernel_rfl) (by kernel_rfl) noPanic_false (by kernel_rfl) (fun W _ => x_idx54 (x := .tmp 120) (y := .tmp 121) (b := gy) (n := m) (c := yc) (k := i) (by kernel_rfl) (by kernel_rfl) (by kernel_rfl) HI.out.1) hS0 ?_
                  refine tk 8 123 (.agg (ccell d.id d.ch d.gone).toArray) (fuel := 6) rfl (by kernel_rfl) (by kernel_rfl) (by kernel_rfl) (by kernel_rfl) noPanic_false (by kernel_rfl) (fun W hW => x_ld63c (x := .tmp 122) (g := gy) (p := i * 35) HI.out.2.1 (by kernel_rfl) (by kernel_rfl) (range_after HWX.out.2.2 hW)) hS0 ?_
                  refine tk 9 124 (.slice (some ⟨gx, 0, none⟩) cn xc) (fuel := 5) rfl (by kernel_rfl) (by kernel_rfl) (by kernel_rfl) (by kernel_rfl) noPanic_false (by kernel_rfl) (fun _ _ => by kernel_rfl) hS0 ?_
                  refine tk 10 125 (.int .i64 (k : Int)) (fuel := 4) rfl (by kernel_rfl) (by kernel_rfl) (by kernel_rfl) (by kernel_rfl) noPanic_false (by kernel_rfl) (fun _ _ => by kernel_rfl) hS0 ?_
                  refine tk 11 126 (.pointer (some ⟨gx, k * 35, none⟩)) (fuel := 3) rfl (by kernel_rfl) (by kernel_rfl) (by kernel_rfl) (by kernel_rfl) noPanic_false (by kernel_rfl) (fun W _ => x_idx54 (x := .tmp 124) (y := .tmp 125) (b := gx) (n := cn) (c := xc) (k := k) (by kernel_rfl) (by kernel_rfl) (by kernel_rfl) HWX.out.1) hS0 ?_
                  refine tk 12 127 (.agg (ccell d.id d.ch d.gone).toArray) (fuel := 2) rfl (by kernel_rfl) (by kernel_rfl) (by kernel_rfl) (by kernel_rfl) noPanic_false (by kernel_rfl) (fun W hW => x_ld63c (x := .tmp 126) (g := gx) (p := k * 35) HI.out.2.1 (by kernel_rfl) (by kernel_rfl) (range_after HWX.out.2.1 hW)) hS0 ?_
                  refine tk 13 128 (.bool false) (fuel := 1) rfl (by kernel_rfl) (by kernel_rfl) (by kernel_rfl) (by kernel_rfl) noPanic_false (by kernel_rfl) (fun W _ => x_ne63 (x := .tmp 123) (y := .tmp 127) (id := d.id) (ch := d.ch) (gn := d.gone) HI.out.2.1 (by kernel_rfl) (by kernel_rfl) (by kernel_rfl)) hS0 ?_
                  refine tk 14 129 (.bool false) (fuel := 0) rfl (by kernel_rfl) (by kernel_rfl) (by kernel_rfl) (by kernel_rfl) noPanic_false (by kernel_rfl) (fun _ _ => by kernel_rfl) hS0 ?_
                  refine wpAnyH_done (by kernel_rfl) (NoPanic.normal ?_) _
                  have H9b := show Hid (After wr w6.drew) from HA6.out.trans hS0
                  clear hS0
                  go_simp
                  go_wp2_with fail
                  go_roundw
                  case rel => exact ⟨i + 1, by go_num, by omega, k + 1, by go_num, HKI.out, HJ2.out.2.trans H9b.out⟩
                  case measure => simp [intOf]; omega
              · obtain rfl : i = m := by omega
                have hii : ¬ (i : Int) < (i : Int) := by omega
                have hkn : k = cn := by
                  have h1 := HK2.out
                  rw [List.take_of_length_le (by rw [H10.out.2.2.1]; exact Nat.le_refl _), HNE.out.2, HWS.out.2.1] at h1
                  exact h1.symm
                subst hkn
                have him2 : i = k + 1 := H10.out.2.2.2
                subst him2
                go_wp2_with (first
                  | (go_at_call 12; refine Calls.mono (awake_any _) ?_; rintro e w12 ⟨rfl, ha12⟩; have H12 := show Hid (After w w12) from (HWS.out.2.2.2.2.2.trans HJ2.out.2).trans ha12; clear ha12))
                go_ret
                exact ⟨rfl, H12.out⟩
          · have hE2 := (keep_err (cells := cells) (c := ⟨id, af, p.ch, false⟩) HNM.out.1 HNM.out.2.1 HNM.out.2.2).resolve_left hE
            obtain ⟨j, hj⟩ := Option.isSome_iff_exists.1 hE2.2
            have HF : Hid (rplc cells id = some j) := hj
            have hE : rInsE cells af id = 23 := hE2.1
            refine wp_region_noPanic ?_
            refine wp_region_held_drew (S := KeptF (Foot g D1) W8) (by kernel_rfl) (KeptF.of_after (After.drew (After.refl _))) ?_
            intro hS0
            refine tk 0 54 (.pointer (some ⟨g, 0, none⟩)) (fuel := 8) rfl (by kernel_rfl) (by kernel_rfl) (by kernel_rfl) (by kernel_rfl) noPanic_false (by kernel_rfl) (fun _ _ => by kernel_rfl) hS0 ?_
            refine tk 1 55 (idv af) (fuel := 7) rfl (by kernel_rfl) (by kernel_rfl) (by kernel_rfl) (by kernel_rfl) noPanic_false (by kernel_rfl) (fun W hW => x_ld40m (x := .tmp 9) (g := g9) (p := 0) HOK.out.1 (by kernel_rfl) (by kernel_rfl) (H8.out.row.box40 hW H8.out.baf).range0) hS0 ?_
            refine tk 3 57 (idv id) (fuel := 6) rfl (by kernel_rfl) (by kernel_rfl) (by kernel_rfl) (by kernel_rfl) noPanic_false (by kernel_rfl) (fun W hW => x_ld40m (x := .tmp 10) (g := g10) (p := 0) HOK.out.2 (by kernel_rfl) (by kernel_rfl) (H8.out.row.box40 hW H8.out.bid).range0) hS0 ?_
            refine tk 5 59 (.pointer (some ⟨g3, 3, none⟩)) (fuel := 5) rfl (by kernel_rfl) (by kernel_rfl) (by kernel_rfl) (by kernel_rfl) noPanic_false (by kernel_rfl) (fun _ _ => by kernel_rfl) hS0 ?_
            refine tk 6 60 (.int .u8 (p.ch.toNat : Int)) (fuel := 4) rfl (by kernel_rfl) (by kernel_rfl) (by kernel_rfl) (by kernel_rfl) noPanic_false (by kernel_rfl) (fun W hW => x_loadT (x := .tmp 59) (t := 5) (g := g3) (j := 3) Try.underlying5 rfl (by kernel_rfl) (by kernel_rfl) ((H8.out.row.box33 hW H8.out.put).cell (j := 3) rfl)) hS0 ?_
            refine tkCallZ 2 56 18 #[idv af] (fun v w' => v = idv af ∧ After W8 w') (fuel := 3) rfl (by kernel_rfl) (by kernel_rfl) (by kernel_rfl) (fun _ => by kernel_rfl) (Calls.mono (own_any HOK.out.1 _) (fun e w' ⟨he, ha⟩ => ⟨_, he, rfl, (After.drew (After.refl W8)).trans ha⟩)) ?_
            intro v3 wa3 ⟨hv3, ha3⟩
            subst hv3
            refine ⟨KeptF.of_after ha3, ?_⟩
            refine tkCallZ 4 58 18 #[idv id] (fun v w' => v = idv id ∧ After W8 w') (fuel := 2) rfl (by kernel_rfl) (by kernel_rfl) (by kernel_rfl) (fun _ => by kernel_rfl) (Calls.mono (own_any HOK.out.2 _) (fun e w' ⟨he, ha⟩ => ⟨_, he, rfl, ha3.trans ha⟩)) ?_
            intro v4 wa4 ⟨hv4, ha4⟩
            subst hv4
            refine ⟨KeptF.of_after ha4, ?_⟩
            refine tkCallZ 7 61 22 #[.pointer (some ⟨g, 0, none⟩), idv af, idv id, .int .u8 (p.ch.toNat : Int)] (fun v w' => v = .int .i64 23 ∧ ∃ D', RowAt w' B g (insF st af id p.ch) D' ∧ KeptF (Foot g D1) wa4 w') (fuel := 1) rfl (by kernel_rfl) (by kernel_rfl) (by kernel_rfl) (fun _ => by kernel_rfl) (Calls.mono (Insert_any (H8.out.row.after ha4) HAL.out.1.wf HAL.out.2.2 HOK.out.1 HOK.out.2 p.ch) (fun e w' ⟨he, D', h1, _, h3⟩ => ⟨_, he, by rw [perm_insE HAL.out.1 HAL.out.2.1, hE]; rfl, D', h1, h3⟩)) ?_
            intro v5 w9 ⟨hv5, D5, h51, h53⟩
            subst hv5
            have hk5 : KeptF (Foot g D1) W8 w9 := (KeptF.of_after ha4).trans h53 (fun _ _ h => h)
            refine ⟨hk5, ?_⟩
            refine tk 8 62 (.bool true) (fuel := 0) rfl (by kernel_rfl) (by kernel_rfl) (by kernel_rfl) (by kernel_rfl) noPanic_false (by kernel_rfl) (fun _ _ => by kernel_rfl) hk5 ?_
            refine wpAnyH_done (by kernel_rfl) (NoPanic.normal ?_) _
            have H9 := show Hid (Kp w w9 B g g3 g8 g9 g10 (insF st af id p.ch) D5 cells ca cn cc xa xc (tp p) af id) from H8.out.kept h51 hk5
            clear h51 h53 hk5 ha3 ha4 hS0 hE hE2 hj
            have HFC : Hid (Calls Try.prog 30 #[.agg #[.slice ca cn cc], .agg (idc id).toArray] w9 fun e w' => e = .returned (.int .i64 (j : Int)) ∧ After w9 w') := by
              have := Find_any H9.out.ref HOK.out.2 (by have := HG.out.2.1; have := HG.out.2.2; omega)
              rw [HF.out] at this; exact this
            have hj0 : (0 : Int) ≤ (j : Int) := by omega
            go_simp
            go_wp2_with (first
              | (refine wpList_load_row rfl 29 (.tmp 8) rfl g8 rfl 29 #[.slice ca cn cc] (0, 0) _ H9.out.box Try.underlying29 rfl (size29 _) ?_)
              | (refine wpList_load_row rfl 40 (.tmp 10) rfl g10 rfl 40 (idc id).toArray (0, 0) _ H9.out.bid Try.underlying40 rfl (size40 HOK.out.2) ?_)
              | (go_at_call 30; refine Calls.mono HFC.out ?_; rintro e w11 ⟨rfl, ha11⟩; have H11 := show Hid (After w w11) from H9.out.aft.trans ha11; clear ha11)
              | (go_at_call 12; refine Calls.mono (awake_any _) ?_; rintro e w12 ⟨rfl, ha12⟩; have H12 := show Hid (After w w12) from H11.out.trans ha12; clear ha12))
            go_ret
            exact ⟨rfl, H12.out⟩
  · have HD : Hid (decide (n ≤ 120) = false) := decide_eq_false h120
    clear hn hok hin hp
    go_enter Try.func9, Try.ntmps9
    go_wp2_with (first
      | (rw [hW0])
      | (go_at_call 11; refine Calls.mono (few_any va n cap) ?_; rintro e w00 ⟨rfl, rfl⟩; rw [HD.out])
      | (go_at_call 12; refine Calls.mono (awake_any _) ?_; rintro e w8 ⟨rfl, ha8⟩; have H8 := show Hid (After w w8) from H0.out.2.trans ha8; clear ha8))
    go_ret
    exact ⟨rfl, H8.out⟩
end Go.Proofs.Ytiglenomigipmaa

namespace Go.Proofs.Ytiglenomigipmaa.RgaKeeps
open Go.ChangeShapes Go.WideShapes Go.ChangeAt Go.RowKit 
open Go.ChangeMaps (open_string)

theorem okWide_str {P : Program} {w : World} {base : Nat} {t : TypeId} {v : Value} {fs : Array Field} (ht : P.underlying t = some (.struct fs)) (h : Value.okWide P w .any base t v) : ∃ cs, v = .agg cs ∧ cs.size = P.cellsOf t := by
  simp only [Value.okWide, ht] at h
  obtain ⟨cs, h1, h2, _⟩ := h
  exact ⟨cs, h1, h2⟩
set_option maxRecDepth 100000 in
/-- A put by value. -/
theorem open_putv {H : Type} {enc : TypeId × Value → H} {W : World} {base : Nat} {v : Value} {d : DataW H} {p : List MemPlace}
    (hv : Value.okWide Try.prog W .any base 33 v) (h : DataW.Trod enc Try.prog W 0 (fun _ => true) true 33 v d p) : ∃ q : Put, q.Ok ∧ v = .agg (pcell q).toArray := by
  obtain ⟨cs, rfl, hsz⟩ := okWide_str Try.underlying33 hv
  rw [cells33] at hsz
  obtain ⟨l⟩ := cs
  match l, hsz with
  | [c0, c1, c2, c3, c4, c5, c6, c7], _ =>
  obtain ⟨fuel, hf⟩ := h
  obtain ⟨q, hq, e⟩ := open_put hf
  exact ⟨q, hq, by rw [e]⟩

set_option maxRecDepth 100000 in
/-- What the walk gives, for every argument and every world. -/
theorem contract (H : Type) (enc : TypeId × Value → H) (W : World) (base : Nat) (args : Array Value) (ds gs : List (DataW H)) (before : List MemPlace)
    (hval : ∀ (j : Nat) t v, Try.f9.params[j]? = some t → args[j]? = some v → Value.okWide Try.prog W .any base t v)
    (hW : DataW.Whole enc Try.prog Try.f9.params.toList Rows.rgaKeepsSpec.vars false W args.toList ds gs before)
    (hsz : (DataW.weightsEach Try.prog (Try.f9.params.toList ++ (OpenSpec.ofChange Rows.rgaKeepsSpec).bare.plain.varTypes Try.prog) (ds ++ gs)).all (· ≤ reachBytes) = true) :
    Calls Try.prog 9 args W fun e W' => ∃ v, e = .returned v ∧ Rows.rgaKeepsSpec.post enc Try.prog Try.f9 false true false false W args v W' := by
  have hW' := hW
  obtain ⟨p, q, hA0, hV, rfl, hfz, hnd⟩ := hW
  have hA : DataW.TrodAll enc Try.prog W 0 (fun _ => true) true Try.f9.params.toList args.toList ds p := hA0
  rw [Try.params9] at hA hval hsz
  obtain ⟨v0, vs0, d0, ds0, p0, q0, hargs, rfl, rfl, h0, r0⟩ := trodAll_cons hA
  obtain ⟨v1, vs1, d1, ds1, p1, q1, rfl, rfl, rfl, h1, r1⟩ := trodAll_cons r0
  obtain ⟨rfl, rfl, rfl⟩ := trodAll_nil r1
  obtain rfl : args = #[v0, v1] := by cases args; simp_all
  obtain ⟨rfl, rfl⟩ := trodVars_none hV
  have k0 := h0
  have lt0 : ∀ x ∈ p0, x.block < W.heap.size := by obtain ⟨m, hm⟩ := k0; exact DataW.trod_lt m _ _ _ hm
  have k1 := h1
  have lt1 : ∀ x ∈ p1, x.block < W.heap.size := by obtain ⟨m, hm⟩ := k1; exact DataW.trod_lt m _ _ _ hm
  obtain ⟨a0, len0, cap0, rfl⟩ := okWide_slice Try.underlying22 (hval 0 22 v0 rfl rfl)
  obtain ⟨l0, hl0, hk0, hi0⟩ := open_puts (hval 0 22 _ rfl rfl) h0
  obtain ⟨q1, hq1, e1⟩ := open_putv (hval 1 33 v1 rfl rfl) h1
  subst e1
  clear hA0 hA
  refine (keeps_any (w := W) (va := a0) (cap := cap0) hl0 hk0 hi0 hq1).mono fun e W' ⟨he, bel⟩ => ?_
  subst he
  exact ⟨_, rfl, _, _, _, [], _, [], hW', trodAll_mk1 (shut_bool Try.underlying4 _), (trodAll_cons_mk (Below.trod laidOut (by kernel_rfl) (of_decide_eq_true (by kernel_rfl)) k0 bel lt0) (trodAll_cons_mk (Below.trod laidOut (by kernel_rfl) (of_decide_eq_true (by kernel_rfl)) k1 bel lt1) (trodAll_mk0))), rfl, bel.frame _, fun h => by cases h⟩

set_option maxRecDepth 100000 in
/-- A world for the witness: the settled one. -/
theorem witness (os : Os) {H : Type} (enc : TypeId × Value → H) : ∃ (w : World) (tape : Tape) (i : Input), w.os = os ∧ (w.forCall tape i).Shaped Try.checked.prog ∧ i.vars = [] ∧ Input.okWide Try.checked.prog (w.forCall tape i) .any w.heap.size 9 i ∧
      (OpenSpec.ofChange Rows.rgaKeepsSpec).preRow enc Try.checked.prog Try.f9 Rows.rgaKeepsRow.domain false Rows.rgaKeepsRow.laid (w.forCall tape i).memory i.args ∧ ({} : Assume).holds Try.checked.prog (lone (Frame.enter Try.checked.prog 9 i.args .normal) [] (w.forCall tape i)) :=
  witness_row_at (enc := enc) (C := Try.checked) false (World.holding Try.prog os ⟨#[], #[], []⟩) #[.slice none 0 0, .agg #[.int .u8 0, .int .u8 0, .int .u8 0, .int .u8 0, .bool false, .bool false, .int .i64 0, .int .i64 0]] rfl (by kernel_rfl) (by kernel_rfl) (by kernel_rfl)
    (OpenSpec.preRow_of_cond 8 (x := ([.nil, .agg [.lit (.int .u8 0), .lit (.int .u8 0), .lit (.int .u8 0), .lit (.int .u8 0), .lit (.bool false), .lit (.bool false), .lit (.int .i64 0), .lit (.int .i64 0)]], [], [])) (by kernel_rfl) (by kernel_rfl) (fun k hk => by cases hk) (by kernel_rfl) (laidMet_nil _ _))

set_option maxRecDepth 100000 in
theorem lifted (os : Os) (started : os.Started) (H : Type) (enc : TypeId × Value → H) (F : Stop.Interp) :
    ReturnsInHanded {} Try.checked os 9 .any ((OpenSpec.ofChange Rows.rgaKeepsSpec).preRow enc Try.prog Try.f9 Rows.rgaKeepsRow.domain false Rows.rgaKeepsRow.laid) (((OpenSpec.ofChange Rows.rgaKeepsSpec).at F).post enc Try.prog Try.f9 false true false false) := by
  refine returnsInHanded_of_row (C := Try.checked) (s := OpenSpec.ofChange Rows.rgaKeepsSpec) own started (by kernel_rfl) Try.func9 (witness os enc) ?_
  intro W base args ds gs before hval hW _ _ hsz _ _ _
  exact contract H enc W base args ds gs before hval hW hsz

set_option maxRecDepth 100000 in
theorem said : Rows.RgaKeepsSaid :=
  OpenClaim.holds_of_cond 9 Try.f9 rfl rfl rfl rfl rfl rfl rfl ⟨rfl, rfl, rfl, rfl, rfl⟩ rfl rfl rfl rfl rfl (by kernel_rfl) Try.func9 (by kernel_rfl)
    (of_decide_eq_true (by kernel_rfl)) (by unfold Func.isWrapper; first | (rw [if_pos (by decide +kernel)]; kernel_rfl) | (rw [if_neg (by decide +kernel)]; exact ⟨rfl, rfl⟩))
    (fun os started H enc _ F => by rw [OpenClaim.pre_eq_preRow]; exact lifted os started H enc F)
end Go.Proofs.Ytiglenomigipmaa.RgaKeeps
namespace Go.Proofs.Ytiglenomigipmaa
theorem rgaKeeps_holds : Rows.RgaKeepsSaid := RgaKeeps.said
end Go.Proofs.Ytiglenomigipmaa
