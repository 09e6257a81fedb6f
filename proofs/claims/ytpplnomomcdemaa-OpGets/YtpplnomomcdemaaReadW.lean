/-
  THE WALK OF op.readOps.
-/
import Derived.Test.YtpplnomomcdemaaRowOps
namespace Go.Proofs.Ytpplnomomcdemaa
open Go.RowKit Leb
structure RdI (w W7 : World) (tb g n : Nat) (C : Cols) (i : Nat) (wr : World) : Prop where
  ex : ∃ S, stM C i = some S ∧ S.ops.length = i ∧ RowIs wr g 23 (cellsOf (S.ops ++ List.replicate (n - i) z0)) ∧ Tk w tb S.rest S.fl wr
  but : But tb W7 wr
  new : W7.heap.size = g
/-- What readOps tells. -/
def RdPost (w : World) (R : Option (List Opn)) (e : Ending) (w' : World) : Prop :=
  ∃ v ok, e = .returned (.tuple #[v, .bool ok]) ∧ After w w' ∧ (ok = false → R = none) ∧ (ok = true → ∃ l g, R = some l ∧ v = .slice (some ⟨g, 0, none⟩) l.length l.length ∧ OpsAt w' (some ⟨g, 0, none⟩) l ∧ l.length ≤ 65536)
theorem G2_le (bs : List UInt8) : (G2 bs).2.1 ≤ bs.length := by
  show (getR bs 256).2.1 ≤ _
  exact G1_le bs
theorem ints_but {tb : Nat} {W W' : World} {p : Option Addr} {l : List Int} (h : IntsAt W p l) (hb : But tb W W') (hp : ∀ a, p = some a → a.block ≠ tb) : IntsAt W' p l := fun hn => by
  obtain ⟨b, o, rfl, hc⟩ := h hn
  exact ⟨b, o, rfl, fun j hj => hb.cell (p := ⟨b, o + j, none⟩) (hp ⟨b, o, none⟩ rfl) (hc j hj)⟩
theorem ops_of_row {w : World} {g : Nat} {L : List Opn} (h : RowIs w g 23 (cellsOf L)) : OpsAt w (some ⟨g, 0, none⟩) L := fun _ => ⟨g, 0, rfl, fun j x hx i v hv => by
  have hi : i < 5 := by have := (List.getElem?_eq_some_iff.1 hv).1; simpa using this
  have := cellsOf_at L j i x hx hi
  rw [Nat.zero_add]
  exact h.cell (by rw [this]; exact hv)⟩
theorem ints_len {W : World} {p : Option Addr} {l : List Int} (h : IntsAt W p l) {n i : Nat} (hl : l.length = n) (hi : i < n) : ∃ b o, p = some ⟨b, o, none⟩ ∧ W.cell? ⟨b, o + i, none⟩ = some (.int .i64 (l[i]?.getD 0)) := by
  obtain ⟨b, o, e, hc⟩ := h (fun e => by rw [e] at hl; simp at hl; omega)
  exact ⟨b, o, e, hc i (by omega)⟩

theorem x_idx45z {o : Oper} {a : Act} {x y : Operand} {w : World} {b n c j : Nat} (hop : o.op = .indexAddr 45 x y) (hx : a.eval x = .slice (some ⟨b, 0, none⟩) n c) (hy : a.eval y = .int .i64 (j : Int)) (hj : j < n) : (execOp a.eval o).run Try.prog w = .ok (.value (.pointer (some ⟨b, j, none⟩))) w := by
  have h := x_idx45 (w := w) hop hx hy hj
  rw [Nat.zero_add] at h
  exact h
theorem Tk.but {w0 W W' : World} {tb g : Nat} {bs : List UInt8} {fl : Bool} (h : Tk w0 tb bs fl W) (hb : But g W W') (hg : g ≠ tb) (hw : w0.heap.size ≤ g) : Tk w0 tb bs fl W' := by
  obtain ⟨ao, ca, hr, h2⟩ := h.ex
  exact ⟨⟨ao, ca, hb.row hr (Ne.symm hg), h2⟩, Below.trans h.aft (hb.below hw h.aft.size), h.new, h.big⟩
theorem But.over {tb g : Nat} {a b c : World} (h : But tb a b) (k : But g b c) (hg : a.heap.size ≤ g) : But tb a c :=
  ⟨k.os.trans h.os, k.tape.trans h.tape, k.output.trans h.output, Nat.le_trans h.size k.size, fun j hj hne => (k.block j (Nat.lt_of_lt_of_le hj h.size) (by omega)).trans (h.block j hj hne)⟩
theorem stored_row {wr : World} {g n i : Nat} {ops : List Opn} (hrow : RowIs wr g 23 (cellsOf (ops ++ List.replicate (n - i) z0))) (hl : ops.length = i) (hi : i < n) (x : Opn) : RowIs (wr.drew.setCells g (i * 5) (oc x)) g 23 (cellsOf (ops ++ [x] ++ List.replicate (n - (i + 1)) z0)) := by
  have := RowIs.setCells (oc x) (i * 5) hrow.drew
  rw [cellsOf_set _ _ _ (by simp; omega), fill_set hl hi] at this
  exact this
theorem there_row {w : World} {g i : Nat} {t : TypeId} {L : List Opn} (h : RowIs w g t (cellsOf L)) (hi : i < L.length) : w.there g (i * 5) 5 := fun j hj => by
  have := cellsOf_at L i j L[i] (List.getElem?_eq_getElem hi) hj
  refine ⟨?_, h.frozen _⟩
  rw [h.cell (j := i * 5 + j) (v := (oc L[i])[j]?.getD undef) (by rw [this, List.getElem?_eq_getElem (by simpa using hj)]; rfl)]
  rfl
theorem fill_text {L R : List Opn} {i : Nat} (hl : L.length = i) (x y : Opn) : (L ++ [x] ++ R).set i y = L ++ [y] ++ R := by
  rw [List.append_assoc, List.set_append_right _ _ (by omega), hl, Nat.sub_self]
  simp
theorem readC_none {C : Cols} {n : Nat} (hn : C.ks.length = n) (h : stM C n = none) : readC C = none := by
  unfold readC
  split
  · rfl
  · rw [hn, h]; rfl
theorem readC_some {C : Cols} {n : Nat} {S : RdS} (h1 : C.ks.length = n) (h2 : C.ws.length = n) (h3 : C.ps.length = n) (h4 : C.ys.length = n) (h5 : C.fl = false) (h : stM C n = some S) : readC C = if S.fl = true then none else some S.ops := by
  unfold readC
  rw [h1, h2, h3, h4, h5, h]
  simp
theorem stM_out {C : Cols} {i : Nat} {S : RdS} (h : stM C i = some S) (hz : C.ws[i]?.getD 0 < 0 ∨ (C.nms.length : Int) ≤ C.ws[i]?.getD 0) : stM C (i + 1) = none := by
  show (stM C i).bind (stepM C i) = none
  rw [h]
  show stepM C i S = none
  unfold stepM
  rw [if_pos hz]
theorem stM_plain {C : Cols} {i : Nat} {S : RdS} {x : Opn} (h : stM C i = some S) (hz : ¬ (C.ws[i]?.getD 0 < 0 ∨ (C.nms.length : Int) ≤ C.ws[i]?.getD 0)) (hx : opAt C i = x) (ht : hasT x = false) : stM C (i + 1) = some ⟨S.ops ++ [x], S.rest, S.fl⟩ := by
  show (stM C i).bind (stepM C i) = _
  rw [h]
  show stepM C i S = _
  unfold stepM
  rw [if_neg hz, hx, ht]
  rfl
theorem stM_text {C : Cols} {i : Nat} {S : RdS} {x : Opn} {s r : List UInt8} {f : Bool} (h : stM C i = some S) (hz : ¬ (C.ws[i]?.getD 0 < 0 ∨ (C.nms.length : Int) ≤ C.ws[i]?.getD 0)) (hx : opAt C i = x) (ht : hasT x = true) (he : textM 1024 S.rest S.fl = (s, r, f)) : stM C (i + 1) = some ⟨S.ops ++ [{ x with text := s }], r, f⟩ := by
  show (stM C i).bind (stepM C i) = _
  rw [h]
  show stepM C i S = _
  unfold stepM
  rw [if_neg hz, hx, ht, he]
  rfl

set_option maxRecDepth 100000 in
set_option maxHeartbeats 3200000 in
theorem readOps_any (ao : Option Addr) (n ca : Nat) (bs : List UInt8) (hn : bs.length = n) (hca : n ≤ ca) (hz : ao = none → n = 0) (hbig : n ≤ 140737488355328) (w : World) (hat : BytesAt w ao bs) :
    Calls Try.prog 29 #[.slice ao n ca] w (RdPost w (readM bs)) := by
  have e53 : ∀ args w, (callFunc 53 args).run Try.prog w = .ok (.enter 53 args) w := enters_of Try.func53 (by kernel_rfl) rfl
  have e56 : ∀ args w, (callFunc 56 args).run Try.prog w = .ok (.enter 56 args) w := enters_of Try.func56 (by kernel_rfl) rfl
  have HK1 : Hid (∀ (W : World) (ao : Option Addr) (cap : Nat) (bs : List UInt8), bs.length ≤ 140737488355328 → BytesAt W ao bs → Calls Try.prog 53 #[.slice ao bs.length cap, .int .i64 256] W (GPost W (G1 bs))) := fun W ao cap bs h1 h2 => getRuns_any ao cap bs h1 256 (by omega) (by omega) W h2
  have HK2 : Hid (∀ (W : World) (ao : Option Addr) (cap : Nat) (bs : List UInt8), bs.length ≤ 140737488355328 → BytesAt W ao bs → Calls Try.prog 56 #[.slice ao bs.length cap, .int .i64 256] W (GPost W (G2 bs))) := fun W ao cap bs h1 h2 => getDeltas_any ao cap bs h1 256 (by omega) (by omega) W h2
  have HT0 : Hid (Tk w w.heap.size bs false (w.alloc (.cells #[.slice ao n ca, .bool false] 72))) := ⟨⟨ao, ca, by rw [hn]; exact RowIs.new w 72 [.slice ao n ca, .bool false], hat, by omega, fun e => by rw [hn]; exact hz e⟩, after_alloc (After.refl w) _, Nat.le_refl _, by omega⟩
  obtain ⟨⟨la, ra, fa⟩, ha⟩ : ∃ x, colM G1 bs false = x := ⟨_, rfl⟩
  obtain ⟨⟨nn, rc, fc⟩, hc⟩ : ∃ x, countM ra fa = x := ⟨_, rfl⟩
  obtain ⟨⟨L, rt, ft⟩, ht⟩ : ∃ x, textsM 32 nn rc fc = x := ⟨_, rfl⟩
  obtain ⟨⟨lw, rw', fw⟩, hw⟩ : ∃ x, colM G1 rt ft = x := ⟨_, rfl⟩
  obtain ⟨⟨lp, rp, fp⟩, hp⟩ : ∃ x, colM G2 rw' fw = x := ⟨_, rfl⟩
  obtain ⟨⟨ly, ry, fy⟩, hy⟩ : ∃ x, colM G1 rp fp = x := ⟨_, rfl⟩
  obtain ⟨m1, hm1⟩ : ∃ m, la.length = m := ⟨_, rfl⟩
  obtain ⟨m2, hm2⟩ : ∃ m, lw.length = m := ⟨_, rfl⟩
  obtain ⟨m3, hm3⟩ : ∃ m, lp.length = m := ⟨_, rfl⟩
  obtain ⟨m4, hm4⟩ : ∃ m, ly.length = m := ⟨_, rfl⟩
  have hnn : nn ≤ 256 := by have := countM_le ra fa; rw [hc] at this; exact this
  have h1m : m1 ≤ 65536 := by rw [← hm1]; exact colM_most ha
  have HC : Hid (readM bs = readC ⟨la, L, lw, lp, ly, ry, fy⟩) := by
    show readM bs = _
    unfold readM colsM
    simp only [ha, hc, ht, hw, hp, hy]
  have HL : Hid (L.length = nn) := textsM_count 32 ht
  have HM : Hid (la.length = m1 ∧ lw.length = m2 ∧ lp.length = m3 ∧ ly.length = m4) := ⟨hm1, hm2, hm3, hm4⟩
  have HE1 := show Hid (colM G1 bs false = (la, ra, fa)) from ha
  have HE2 := show Hid (countM ra fa = (nn, rc, fc)) from hc
  have HE3 := show Hid (textsM 32 nn rc fc = (L, rt, ft)) from ht
  have HE4 := show Hid (colM G1 rt ft = (lw, rw', fw)) from hw
  have HE5 := show Hid (colM G2 rw' fw = (lp, rp, fp)) from hp
  have HE6 := show Hid (colM G1 rp fp = (ly, ry, fy)) from hy
  have HTB : Hid (w.heap.size < (w.alloc (.cells #[.slice ao n ca, .bool false] 72)).heap.size) := HT0.out.lt
  clear ha hc ht hw hp hy hm1 hm2 hm3 hm4 hat hz hn hbig hca
  cases fy with
  | true =>
    go_enter Try.func29, Try.ntmps29
    go_wp2_with (first
      | (go_at_call 52; have _u := H5.out; clear _u; refine Calls.mono (column_k G1 53 e53 G1_le HK1.out H5.out.2.2.1 HE6.out HM.out.2.2.2) ?_; rintro e w6 ⟨p6, c6, rfl, hp, hl, ht, hb⟩; obtain ⟨ao6, ca6, hr6, _⟩ := ht.ex; have d1 := hr6.cell (j := 1) rfl; clear hr6; have H6 := show Hid (IntsAt w6 p6 ly ∧ (∀ a, p6 = some a → w5.heap.size ≤ a.block ∧ a.block < w6.heap.size) ∧ Tk w w.heap.size ry true w6 ∧ But w.heap.size w5 w6) from ⟨hp, hl, ht, hb⟩; clear hp hl ht hb)
      | (go_at_call 52; have _u := H4.out; clear _u; refine Calls.mono (column_k G2 56 e56 G2_le HK2.out H4.out.2.2.1 HE5.out HM.out.2.2.1) ?_; rintro e w5 ⟨p5, c5, rfl, hp, hl, ht, hb⟩; have H5 := show Hid (IntsAt w5 p5 lp ∧ (∀ a, p5 = some a → w4.heap.size ≤ a.block ∧ a.block < w5.heap.size) ∧ Tk w w.heap.size rp fp w5 ∧ But w.heap.size w4 w5) from ⟨hp, hl, ht, hb⟩; clear hp hl ht hb)
      | (go_at_call 52; have _u := H3.out; clear _u; refine Calls.mono (column_k G1 53 e53 G1_le HK1.out H3.out.2.2.1 HE4.out HM.out.2.1) ?_; rintro e w4 ⟨p4, c4, rfl, hp, hl, ht, hb⟩; have H4 := show Hid (IntsAt w4 p4 lw ∧ (∀ a, p4 = some a → w3.heap.size ≤ a.block ∧ a.block < w4.heap.size) ∧ Tk w w.heap.size rw' fw w4 ∧ But w.heap.size w3 w4) from ⟨hp, hl, ht, hb⟩; clear hp hl ht hb)
      | (go_at_call 54; refine Calls.mono (texts_k 32 (by omega) (by omega) H2.out.1 nn (by omega) HE3.out) ?_; rintro e w3 ⟨g3, rfl, hr, hg, ht, hb⟩; have H3 := show Hid (RowIs w3 g3 9 (L.map fun s => .string (strOf s)) ∧ w2.heap.size ≤ g3 ∧ Tk w w.heap.size rt ft w3 ∧ But w.heap.size w2 w3) from ⟨hr, hg, ht, hb⟩; clear hr hg ht hb)
      | (go_at_call 55; refine Calls.mono (count_k H1.out.2.2.1 HE2.out) ?_; rintro e w2 ⟨rfl, ht, hb⟩; have H2 := show Hid (Tk w w.heap.size rc fc w2 ∧ But w.heap.size w1 w2) from ⟨ht, hb⟩; clear ht hb)
      | (go_at_call 52; refine Calls.mono (column_k G1 53 e53 G1_le HK1.out HT0.out HE1.out HM.out.1) ?_; rintro e w1 ⟨p1, c1, rfl, hp, hl, ht, hb⟩; have H1 := show Hid (IntsAt w1 p1 la ∧ (∀ a, p1 = some a → (w.alloc (.cells #[.slice ao n ca, .bool false] 72)).heap.size ≤ a.block ∧ a.block < w1.heap.size) ∧ Tk w w.heap.size ra fa w1 ∧ But w.heap.size (w.alloc (.cells #[.slice ao n ca, .bool false] 72)) w1) from ⟨hp, hl, ht, hb⟩; clear hp hl ht hb))
    go_ret2
    exact ⟨_, _, rfl, H6.out.2.2.1.aft, fun _ => by rw [HC.out]; unfold readC; rw [if_pos (by simp)], fun h => by cases h⟩
  | false =>
    by_cases qm2 : m1 = m2
    case neg =>
      have qi : ¬ (m2 : Int) = (m1 : Int) := by omega
      have qb : ((m2 : Int) == (m1 : Int)) = false := beq_eq_false_iff_ne.2 qi
      have qn : ((m2 : Int) != (m1 : Int)) = true := by simp [bne, qb]
      go_enter Try.func29, Try.ntmps29
      go_wp2_with (first
        | (go_at_call 52; have _u := H5.out; clear _u; refine Calls.mono (column_k G1 53 e53 G1_le HK1.out H5.out.2.2.1 HE6.out HM.out.2.2.2) ?_; rintro e w6 ⟨p6, c6, rfl, hp, hl, ht, hb⟩; obtain ⟨ao6, ca6, hr6, _⟩ := ht.ex; have d1 := hr6.cell (j := 1) rfl; clear hr6; have H6 := show Hid (IntsAt w6 p6 ly ∧ (∀ a, p6 = some a → w5.heap.size ≤ a.block ∧ a.block < w6.heap.size) ∧ Tk w w.heap.size ry false w6 ∧ But w.heap.size w5 w6) from ⟨hp, hl, ht, hb⟩; clear hp hl ht hb)
        | (go_at_call 52; have _u := H4.out; clear _u; refine Calls.mono (column_k G2 56 e56 G2_le HK2.out H4.out.2.2.1 HE5.out HM.out.2.2.1) ?_; rintro e w5 ⟨p5, c5, rfl, hp, hl, ht, hb⟩; have H5 := show Hid (IntsAt w5 p5 lp ∧ (∀ a, p5 = some a → w4.heap.size ≤ a.block ∧ a.block < w5.heap.size) ∧ Tk w w.heap.size rp fp w5 ∧ But w.heap.size w4 w5) from ⟨hp, hl, ht, hb⟩; clear hp hl ht hb)
        | (go_at_call 52; have _u := H3.out; clear _u; refine Calls.mono (column_k G1 53 e53 G1_le HK1.out H3.out.2.2.1 HE4.out HM.out.2.1) ?_; rintro e w4 ⟨p4, c4, rfl, hp, hl, ht, hb⟩; have H4 := show Hid (IntsAt w4 p4 lw ∧ (∀ a, p4 = some a → w3.heap.size ≤ a.block ∧ a.block < w4.heap.size) ∧ Tk w w.heap.size rw' fw w4 ∧ But w.heap.size w3 w4) from ⟨hp, hl, ht, hb⟩; clear hp hl ht hb)
        | (go_at_call 54; refine Calls.mono (texts_k 32 (by omega) (by omega) H2.out.1 nn (by omega) HE3.out) ?_; rintro e w3 ⟨g3, rfl, hr, hg, ht, hb⟩; have H3 := show Hid (RowIs w3 g3 9 (L.map fun s => .string (strOf s)) ∧ w2.heap.size ≤ g3 ∧ Tk w w.heap.size rt ft w3 ∧ But w.heap.size w2 w3) from ⟨hr, hg, ht, hb⟩; clear hr hg ht hb)
        | (go_at_call 55; refine Calls.mono (count_k H1.out.2.2.1 HE2.out) ?_; rintro e w2 ⟨rfl, ht, hb⟩; have H2 := show Hid (Tk w w.heap.size rc fc w2 ∧ But w.heap.size w1 w2) from ⟨ht, hb⟩; clear ht hb)
        | (go_at_call 52; refine Calls.mono (column_k G1 53 e53 G1_le HK1.out HT0.out HE1.out HM.out.1) ?_; rintro e w1 ⟨p1, c1, rfl, hp, hl, ht, hb⟩; have H1 := show Hid (IntsAt w1 p1 la ∧ (∀ a, p1 = some a → (w.alloc (.cells #[.slice ao n ca, .bool false] 72)).heap.size ≤ a.block ∧ a.block < w1.heap.size) ∧ Tk w w.heap.size ra fa w1 ∧ But w.heap.size (w.alloc (.cells #[.slice ao n ca, .bool false] 72)) w1) from ⟨hp, hl, ht, hb⟩; clear hp hl ht hb))
      go_ret2
      exact ⟨_, _, rfl, H6.out.2.2.1.aft, fun _ => by rw [HC.out]; unfold readC; rw [if_pos (by rw [HM.out.1, HM.out.2.1, HM.out.2.2.1, HM.out.2.2.2]; have := qm2; simp; omega)], fun h => by cases h⟩
    subst qm2
    by_cases qm3 : m1 = m3
    case neg =>
      have qi : ¬ (m3 : Int) = (m1 : Int) := by omega
      have qb : ((m3 : Int) == (m1 : Int)) = false := beq_eq_false_iff_ne.2 qi
      have qn : ((m3 : Int) != (m1 : Int)) = true := by simp [bne, qb]
      go_enter Try.func29, Try.ntmps29
      go_wp2_with (first
        | (go_at_call 52; have _u := H5.out; clear _u; refine Calls.mono (column_k G1 53 e53 G1_le HK1.out H5.out.2.2.1 HE6.out HM.out.2.2.2) ?_; rintro e w6 ⟨p6, c6, rfl, hp, hl, ht, hb⟩; obtain ⟨ao6, ca6, hr6, _⟩ := ht.ex; have d1 := hr6.cell (j := 1) rfl; clear hr6; have H6 := show Hid (IntsAt w6 p6 ly ∧ (∀ a, p6 = some a → w5.heap.size ≤ a.block ∧ a.block < w6.heap.size) ∧ Tk w w.heap.size ry false w6 ∧ But w.heap.size w5 w6) from ⟨hp, hl, ht, hb⟩; clear hp hl ht hb)
        | (go_at_call 52; have _u := H4.out; clear _u; refine Calls.mono (column_k G2 56 e56 G2_le HK2.out H4.out.2.2.1 HE5.out HM.out.2.2.1) ?_; rintro e w5 ⟨p5, c5, rfl, hp, hl, ht, hb⟩; have H5 := show Hid (IntsAt w5 p5 lp ∧ (∀ a, p5 = some a → w4.heap.size ≤ a.block ∧ a.block < w5.heap.size) ∧ Tk w w.heap.size rp fp w5 ∧ But w.heap.size w4 w5) from ⟨hp, hl, ht, hb⟩; clear hp hl ht hb)
        | (go_at_call 52; have _u := H3.out; clear _u; refine Calls.mono (column_k G1 53 e53 G1_le HK1.out H3.out.2.2.1 HE4.out HM.out.2.1) ?_; rintro e w4 ⟨p4, c4, rfl, hp, hl, ht, hb⟩; have H4 := show Hid (IntsAt w4 p4 lw ∧ (∀ a, p4 = some a → w3.heap.size ≤ a.block ∧ a.block < w4.heap.size) ∧ Tk w w.heap.size rw' fw w4 ∧ But w.heap.size w3 w4) from ⟨hp, hl, ht, hb⟩; clear hp hl ht hb)
        | (go_at_call 54; refine Calls.mono (texts_k 32 (by omega) (by omega) H2.out.1 nn (by omega) HE3.out) ?_; rintro e w3 ⟨g3, rfl, hr, hg, ht, hb⟩; have H3 := show Hid (RowIs w3 g3 9 (L.map fun s => .string (strOf s)) ∧ w2.heap.size ≤ g3 ∧ Tk w w.heap.size rt ft w3 ∧ But w.heap.size w2 w3) from ⟨hr, hg, ht, hb⟩; clear hr hg ht hb)
        | (go_at_call 55; refine Calls.mono (count_k H1.out.2.2.1 HE2.out) ?_; rintro e w2 ⟨rfl, ht, hb⟩; have H2 := show Hid (Tk w w.heap.size rc fc w2 ∧ But w.heap.size w1 w2) from ⟨ht, hb⟩; clear ht hb)
        | (go_at_call 52; refine Calls.mono (column_k G1 53 e53 G1_le HK1.out HT0.out HE1.out HM.out.1) ?_; rintro e w1 ⟨p1, c1, rfl, hp, hl, ht, hb⟩; have H1 := show Hid (IntsAt w1 p1 la ∧ (∀ a, p1 = some a → (w.alloc (.cells #[.slice ao n ca, .bool false] 72)).heap.size ≤ a.block ∧ a.block < w1.heap.size) ∧ Tk w w.heap.size ra fa w1 ∧ But w.heap.size (w.alloc (.cells #[.slice ao n ca, .bool false] 72)) w1) from ⟨hp, hl, ht, hb⟩; clear hp hl ht hb))
      go_ret2
      exact ⟨_, _, rfl, H6.out.2.2.1.aft, fun _ => by rw [HC.out]; unfold readC; rw [if_pos (by rw [HM.out.1, HM.out.2.1, HM.out.2.2.1, HM.out.2.2.2]; have := qm3; simp; omega)], fun h => by cases h⟩
    subst qm3
    by_cases qm4 : m1 = m4
    case neg =>
      have qi : ¬ (m4 : Int) = (m1 : Int) := by omega
      have qb : ((m4 : Int) == (m1 : Int)) = false := beq_eq_false_iff_ne.2 qi
      have qn : ((m4 : Int) != (m1 : Int)) = true := by simp [bne, qb]
      go_enter Try.func29, Try.ntmps29
      go_wp2_with (first
        | (go_at_call 52; have _u := H5.out; clear _u; refine Calls.mono (column_k G1 53 e53 G1_le HK1.out H5.out.2.2.1 HE6.out HM.out.2.2.2) ?_; rintro e w6 ⟨p6, c6, rfl, hp, hl, ht, hb⟩; obtain ⟨ao6, ca6, hr6, _⟩ := ht.ex; have d1 := hr6.cell (j := 1) rfl; clear hr6; have H6 := show Hid (IntsAt w6 p6 ly ∧ (∀ a, p6 = some a → w5.heap.size ≤ a.block ∧ a.block < w6.heap.size) ∧ Tk w w.heap.size ry false w6 ∧ But w.heap.size w5 w6) from ⟨hp, hl, ht, hb⟩; clear hp hl ht hb)
        | (go_at_call 52; have _u := H4.out; clear _u; refine Calls.mono (column_k G2 56 e56 G2_le HK2.out H4.out.2.2.1 HE5.out HM.out.2.2.1) ?_; rintro e w5 ⟨p5, c5, rfl, hp, hl, ht, hb⟩; have H5 := show Hid (IntsAt w5 p5 lp ∧ (∀ a, p5 = some a → w4.heap.size ≤ a.block ∧ a.block < w5.heap.size) ∧ Tk w w.heap.size rp fp w5 ∧ But w.heap.size w4 w5) from ⟨hp, hl, ht, hb⟩; clear hp hl ht hb)
        | (go_at_call 52; have _u := H3.out; clear _u; refine Calls.mono (column_k G1 53 e53 G1_le HK1.out H3.out.2.2.1 HE4.out HM.out.2.1) ?_; rintro e w4 ⟨p4, c4, rfl, hp, hl, ht, hb⟩; have H4 := show Hid (IntsAt w4 p4 lw ∧ (∀ a, p4 = some a → w3.heap.size ≤ a.block ∧ a.block < w4.heap.size) ∧ Tk w w.heap.size rw' fw w4 ∧ But w.heap.size w3 w4) from ⟨hp, hl, ht, hb⟩; clear hp hl ht hb)
        | (go_at_call 54; refine Calls.mono (texts_k 32 (by omega) (by omega) H2.out.1 nn (by omega) HE3.out) ?_; rintro e w3 ⟨g3, rfl, hr, hg, ht, hb⟩; have H3 := show Hid (RowIs w3 g3 9 (L.map fun s => .string (strOf s)) ∧ w2.heap.size ≤ g3 ∧ Tk w w.heap.size rt ft w3 ∧ But w.heap.size w2 w3) from ⟨hr, hg, ht, hb⟩; clear hr hg ht hb)
        | (go_at_call 55; refine Calls.mono (count_k H1.out.2.2.1 HE2.out) ?_; rintro e w2 ⟨rfl, ht, hb⟩; have H2 := show Hid (Tk w w.heap.size rc fc w2 ∧ But w.heap.size w1 w2) from ⟨ht, hb⟩; clear ht hb)
        | (go_at_call 52; refine Calls.mono (column_k G1 53 e53 G1_le HK1.out HT0.out HE1.out HM.out.1) ?_; rintro e w1 ⟨p1, c1, rfl, hp, hl, ht, hb⟩; have H1 := show Hid (IntsAt w1 p1 la ∧ (∀ a, p1 = some a → (w.alloc (.cells #[.slice ao n ca, .bool false] 72)).heap.size ≤ a.block ∧ a.block < w1.heap.size) ∧ Tk w w.heap.size ra fa w1 ∧ But w.heap.size (w.alloc (.cells #[.slice ao n ca, .bool false] 72)) w1) from ⟨hp, hl, ht, hb⟩; clear hp hl ht hb))
      go_ret2
      exact ⟨_, _, rfl, H6.out.2.2.1.aft, fun _ => by rw [HC.out]; unfold readC; rw [if_pos (by rw [HM.out.1, HM.out.2.1, HM.out.2.2.1, HM.out.2.2.2]; have := qm4; simp; omega)], fun h => by cases h⟩
    subst qm4
    have hmk := fun W => make_ops W m1 (by omega)
    go_enter Try.func29, Try.ntmps29
    go_wp2_with (first
      | (go_at_call 52; have _u := H5.out; clear _u; refine Calls.mono (column_k G1 53 e53 G1_le HK1.out H5.out.2.2.1 HE6.out HM.out.2.2.2) ?_; rintro e w6 ⟨p6, c6, rfl, hp, hl, ht, hb⟩; obtain ⟨ao6, ca6, hr6, _⟩ := ht.ex; have d1 := hr6.cell (j := 1) rfl; clear hr6; have H6 := show Hid (IntsAt w6 p6 ly ∧ (∀ a, p6 = some a → w5.heap.size ≤ a.block ∧ a.block < w6.heap.size) ∧ Tk w w.heap.size ry false w6 ∧ But w.heap.size w5 w6) from ⟨hp, hl, ht, hb⟩; clear hp hl ht hb)
      | (go_at_call 52; have _u := H4.out; clear _u; refine Calls.mono (column_k G2 56 e56 G2_le HK2.out H4.out.2.2.1 HE5.out HM.out.2.2.1) ?_; rintro e w5 ⟨p5, c5, rfl, hp, hl, ht, hb⟩; have H5 := show Hid (IntsAt w5 p5 lp ∧ (∀ a, p5 = some a → w4.heap.size ≤ a.block ∧ a.block < w5.heap.size) ∧ Tk w w.heap.size rp fp w5 ∧ But w.heap.size w4 w5) from ⟨hp, hl, ht, hb⟩; clear hp hl ht hb)
      | (go_at_call 52; have _u := H3.out; clear _u; refine Calls.mono (column_k G1 53 e53 G1_le HK1.out H3.out.2.2.1 HE4.out HM.out.2.1) ?_; rintro e w4 ⟨p4, c4, rfl, hp, hl, ht, hb⟩; have H4 := show Hid (IntsAt w4 p4 lw ∧ (∀ a, p4 = some a → w3.heap.size ≤ a.block ∧ a.block < w4.heap.size) ∧ Tk w w.heap.size rw' fw w4 ∧ But w.heap.size w3 w4) from ⟨hp, hl, ht, hb⟩; clear hp hl ht hb)
      | (go_at_call 54; refine Calls.mono (texts_k 32 (by omega) (by omega) H2.out.1 nn (by omega) HE3.out) ?_; rintro e w3 ⟨g3, rfl, hr, hg, ht, hb⟩; have H3 := show Hid (RowIs w3 g3 9 (L.map fun s => .string (strOf s)) ∧ w2.heap.size ≤ g3 ∧ Tk w w.heap.size rt ft w3 ∧ But w.heap.size w2 w3) from ⟨hr, hg, ht, hb⟩; clear hr hg ht hb)
      | (go_at_call 55; refine Calls.mono (count_k H1.out.2.2.1 HE2.out) ?_; rintro e w2 ⟨rfl, ht, hb⟩; have H2 := show Hid (Tk w w.heap.size rc fc w2 ∧ But w.heap.size w1 w2) from ⟨ht, hb⟩; clear ht hb)
      | (go_at_call 52; refine Calls.mono (column_k G1 53 e53 G1_le HK1.out HT0.out HE1.out HM.out.1) ?_; rintro e w1 ⟨p1, c1, rfl, hp, hl, ht, hb⟩; have H1 := show Hid (IntsAt w1 p1 la ∧ (∀ a, p1 = some a → (w.alloc (.cells #[.slice ao n ca, .bool false] 72)).heap.size ≤ a.block ∧ a.block < w1.heap.size) ∧ Tk w w.heap.size ra fa w1 ∧ But w.heap.size (w.alloc (.cells #[.slice ao n ca, .bool false] 72)) w1) from ⟨hp, hl, ht, hb⟩; clear hp hl ht hb))
    have B26 := But.trans H3.out.2.2.2 (But.trans H4.out.2.2.2 (But.trans H5.out.2.2.2 H6.out.2.2.2))
    have HS1 : Hid (w.heap.size < w1.heap.size ∧ w1.heap.size ≤ w2.heap.size ∧ w2.heap.size ≤ w3.heap.size ∧ w3.heap.size ≤ w4.heap.size ∧ w4.heap.size ≤ w5.heap.size ∧ w5.heap.size ≤ w6.heap.size) := ⟨Nat.lt_of_lt_of_le HTB.out H1.out.2.2.2.size, H2.out.2.size, H3.out.2.2.2.size, H4.out.2.2.2.size, H5.out.2.2.2.size, H6.out.2.2.2.size⟩
    have HF1 : Hid (IntsAt w6 p1 la ∧ (∀ a, p1 = some a → a.block ≠ w.heap.size) ∧ (∀ a, p1 = some a → a.block < w6.heap.size)) := by
      have hb := But.trans H2.out.2 B26
      have h1 : ∀ a, p1 = some a → a.block ≠ w.heap.size := fun a ha => by have h1 := (H1.out.2.1 a ha).1; have h2 := HTB.out; omega
      exact ⟨ints_but H1.out.1 hb h1, h1, fun a ha => by have h1 := (H1.out.2.1 a ha).2; have h2 := HS1.out; omega⟩
    have HF3 : Hid (RowIs w6 g3 9 (L.map fun s => .string (strOf s)) ∧ g3 ≠ w.heap.size ∧ g3 < w6.heap.size) := by
      have h0 : g3 ≠ w.heap.size := by have h1 := H3.out.2.1; have h2 := HS1.out; omega
      have h3 := (But.trans H4.out.2.2.2 (But.trans H5.out.2.2.2 H6.out.2.2.2)).row H3.out.1 h0
      exact ⟨h3, h0, h3.lt⟩
    have HF4 : Hid (IntsAt w6 p4 lw ∧ (∀ a, p4 = some a → a.block ≠ w.heap.size) ∧ (∀ a, p4 = some a → a.block < w6.heap.size)) := by
      have h1 : ∀ a, p4 = some a → a.block ≠ w.heap.size := fun a ha => by have h1 := (H4.out.2.1 a ha).1; have h2 := HS1.out; omega
      exact ⟨ints_but H4.out.1 (But.trans H5.out.2.2.2 H6.out.2.2.2) h1, h1, fun a ha => by have h1 := (H4.out.2.1 a ha).2; have h2 := HS1.out; omega⟩
    have HF5 : Hid (IntsAt w6 p5 lp ∧ (∀ a, p5 = some a → a.block ≠ w.heap.size) ∧ (∀ a, p5 = some a → a.block < w6.heap.size)) := by
      have h1 : ∀ a, p5 = some a → a.block ≠ w.heap.size := fun a ha => by have h1 := (H5.out.2.1 a ha).1; have h2 := HS1.out; omega
      exact ⟨ints_but H5.out.1 H6.out.2.2.2 h1, h1, fun a ha => by have h1 := (H5.out.2.1 a ha).2; have h2 := HS1.out; omega⟩
    have HF6 : Hid (IntsAt w6 p6 ly ∧ (∀ a, p6 = some a → a.block ≠ w.heap.size) ∧ (∀ a, p6 = some a → a.block < w6.heap.size)) := by
      exact ⟨H6.out.1, fun a ha => by have h1 := (H6.out.2.1 a ha).1; have h2 := HS1.out; omega, fun a ha => (H6.out.2.1 a ha).2⟩
    obtain ⟨C, hC⟩ : ∃ C, (⟨la, L, lw, lp, ly, ry, false⟩ : Cols) = C := ⟨_, rfl⟩
    have HCC : Hid (C.ks = la ∧ C.nms = L ∧ C.ws = lw ∧ C.ps = lp ∧ C.ys = ly ∧ C.fl = false) := by rw [← hC]; exact ⟨rfl, rfl, rfl, rfl, rfl, rfl⟩
    have HI0 : Hid (RdI w w6 w.heap.size w6.heap.size m1 C 0 (w6.alloc (.cells (cellsOf (List.replicate m1 z0)).toArray 23))) := ⟨⟨⟨[], ry, false⟩, by rw [← hC]; rfl, rfl, RowIs.new w6 23 _, H6.out.2.2.1.after (after_alloc (After.refl w6) _)⟩, But.of_below (after_alloc (After.refl w6) _), rfl⟩
    rw [hC] at HC
    obtain ⟨g, hg⟩ : ∃ g, w6.heap.size = g := ⟨_, rfl⟩
    obtain ⟨w7, hw7⟩ : ∃ w7, w6.alloc (.cells (cellsOf (List.replicate m1 z0)).toArray 23) = w7 := ⟨_, rfl⟩
    have HG : Hid (w6.heap.size = g ∧ w.heap.size < g) := ⟨hg, by have := HS1.out; omega⟩
    rw [hw7, hg] at HI0
    rw [hw7, hg]
    clear hw7 hg hC hmk B26 H1 H2 H3 H4 H5 H6 HE1 HE2 HE3 HE4 HE5 HE6 HK1 HK2 HT0 HTB HS1 e53 e56 d1
    go_loopw [49] (fun vi wr => ∃ i : Nat, vi = .int .i64 (i : Int) ∧ i ≤ m1 ∧ Hid (RdI w w6 w.heap.size g m1 C i wr)) (fun vi _ => m1 - (intOf vi).toNat)
    case atStart => exact ⟨0, rfl, Nat.zero_le _, HI0.out⟩
    case round =>
      obtain ⟨i, rfl, hin, HI⟩ := hrel
      clear HI0
      obtain ⟨S, hS⟩ := HI.out.ex
      have HS := show Hid (stM C i = some S ∧ S.ops.length = i ∧ RowIs wr g 23 (cellsOf (S.ops ++ List.replicate (m1 - i) z0)) ∧ Tk w w.heap.size S.rest S.fl wr) from hS
      clear hS
      by_cases hlt : i < m1
      · have hii : (i : Int) < (m1 : Int) := by omega
        obtain ⟨b1, o1, hp1, hc1⟩ := ints_len (ints_but HF1.out.1 HI.out.but HF1.out.2.1) HM.out.1 hlt
        obtain ⟨b4, o4, hp4, hc4⟩ := ints_len (ints_but HF4.out.1 HI.out.but HF4.out.2.1) HM.out.2.1 hlt
        obtain ⟨b5, o5, hp5, hc5⟩ := ints_len (ints_but HF5.out.1 HI.out.but HF5.out.2.1) HM.out.2.2.1 hlt
        obtain ⟨b6, o6, hp6, hc6⟩ := ints_len (ints_but HF6.out.1 HI.out.but HF6.out.2.1) HM.out.2.2.2 hlt
        have HN1 : Hid (b1 ≠ g) := by have h1 := HF1.out.2.2 _ hp1; have h2 := HG.out.1; exact Nat.ne_of_lt (by rw [← h2]; exact h1)
        have HN5 : Hid (b5 ≠ g) := by have h1 := HF5.out.2.2 _ hp5; have h2 := HG.out.1; exact Nat.ne_of_lt (by rw [← h2]; exact h1)
        have HN6 : Hid (b6 ≠ g) := by have h1 := HF6.out.2.2 _ hp6; have h2 := HG.out.1; exact Nat.ne_of_lt (by rw [← h2]; exact h1)
        have HN3 : Hid (g3 ≠ g) := by have h1 := HF3.out.2.2; have h2 := HG.out.1; exact Nat.ne_of_lt (by rw [← h2]; exact h1)
        subst hp1 hp4 hp5 hp6
        obtain ⟨k, hk⟩ : ∃ k, la[i]?.getD 0 = k := ⟨_, rfl⟩
        obtain ⟨z, hz⟩ : ∃ z, lw[i]?.getD 0 = z := ⟨_, rfl⟩
        obtain ⟨p, hp⟩ : ∃ p, lp[i]?.getD 0 = p := ⟨_, rfl⟩
        obtain ⟨y, hy⟩ : ∃ y, ly[i]?.getD 0 = y := ⟨_, rfl⟩
        rw [hk] at hc1
        rw [hz] at hc4
        rw [hp] at hc5
        rw [hy] at hc6
        have HZ : Hid (C.ws[i]?.getD 0 = z ∧ C.nms.length = nn) := ⟨by rw [HCC.out.2.2.1]; exact hz, by rw [HCC.out.2.1]; exact HL.out⟩
        have HXX : Hid (∀ nm, L[z.toNat]?.getD [] = nm → opAt C i = ⟨k, nm, p, y, []⟩) := fun nm hnm => by
          unfold opAt
          rw [HCC.out.1, HCC.out.2.1, HCC.out.2.2.1, HCC.out.2.2.2.1, HCC.out.2.2.2.2.1, hk, hz, hp, hy, hnm]
        have OUT : Hid ((z < 0 ∨ (nn : Int) ≤ z) → readM bs = none) := fun h => by
          rw [HC.out]
          exact readC_none (n := m1) (by rw [HCC.out.1]; exact HM.out.1) (stM_none (stM_out HS.out.1 (by rw [HZ.out.1, HZ.out.2]; exact h)) m1 (by omega))
        clear hk hz hp hy
        by_cases hz0 : z < 0
        · go_wp2
          go_ret2
          exact ⟨_, _, rfl, HS.out.2.2.2.aft, fun _ => OUT.out (Or.inl hz0), fun h => by cases h⟩
        · by_cases hz1 : (nn : Int) ≤ z
          · have hz2 : z ≥ (nn : Int) := hz1
            go_wp2
            go_ret2
            exact ⟨_, _, rfl, HS.out.2.2.2.aft, fun _ => OUT.out (Or.inr hz1), fun h => by cases h⟩
          · have hz2 : ¬ z ≥ (nn : Int) := hz1
            have HZ0 : Hid (¬ (C.ws[i]?.getD 0 < 0 ∨ (C.nms.length : Int) ≤ C.ws[i]?.getD 0)) := fun h => by rw [HZ.out.1, HZ.out.2] at h; omega
            obtain ⟨zn, rfl⟩ : ∃ zn : Nat, z = (zn : Int) := ⟨z.toNat, by omega⟩
            have hzn : zn < nn := by omega
            obtain ⟨nm, hnm⟩ : ∃ nm, L[zn]?.getD [] = nm := ⟨_, rfl⟩
            have HX : Hid (opAt C i = ⟨k, nm, p, y, []⟩) := HXX.out nm (by rw [Int.toNat_natCast]; exact hnm)
            have HCN : Hid (wr.cell? ⟨g3, zn, none⟩ = some (.string (strOf nm))) := by
              have h1 := HI.out.but.row HF3.out.1 HF3.out.2.1
              refine h1.cell ?_
              rw [List.getElem?_map, List.getElem?_eq_getElem (by rw [HL.out]; exact hzn)]
              rw [List.getElem?_eq_getElem (by rw [HL.out]; exact hzn)] at hnm
              simp at hnm
              simp [hnm]
            have HC1 : Hid (wr.cell? ⟨b1, o1 + i, none⟩ = some (.int .i64 k)) := hc1
            have HC5 : Hid (wr.cell? ⟨b5, o5 + i, none⟩ = some (.int .i64 p)) := hc5
            have HC6 : Hid (wr.cell? ⟨b6, o6 + i, none⟩ = some (.int .i64 y)) := hc6
            clear hnm hc1 hc5 hc6
            go_wp2_with fail
            refine wp_region_noPanic ?_
            refine wp_region_held_drew (S := But g wr) (by kernel_rfl) ((But.refl g wr).drew) ?_
            intro hS0
            refine tk 0 64 (.slice (some ⟨g, 0, none⟩) m1 m1) (fuel := 20) rfl (by kernel_rfl) (by kernel_rfl) (by kernel_rfl) (by kernel_rfl) noPanic_false (by kernel_rfl) (fun _ _ => by kernel_rfl) hS0 ?_
            refine tk 1 65 (.int .i64 (i : Int)) (fuel := 19) rfl (by kernel_rfl) (by kernel_rfl) (by kernel_rfl) (by kernel_rfl) noPanic_false (by kernel_rfl) (fun _ _ => by kernel_rfl) hS0 ?_
            refine tk 2 66 (.slice (some ⟨b1, o1, none⟩) m1 c1) (fuel := 18) rfl (by kernel_rfl) (by kernel_rfl) (by kernel_rfl) (by kernel_rfl) noPanic_false (by kernel_rfl) (fun _ _ => by kernel_rfl) hS0 ?_
            refine tk 3 67 (.int .i64 (i : Int)) (fuel := 17) rfl (by kernel_rfl) (by kernel_rfl) (by kernel_rfl) (by kernel_rfl) noPanic_false (by kernel_rfl) (fun _ _ => by kernel_rfl) hS0 ?_
            refine tk 4 68 (.pointer (some ⟨b1, o1 + i, none⟩)) (fuel := 16) rfl (by kernel_rfl) (by kernel_rfl) (by kernel_rfl) (by kernel_rfl) noPanic_false (by kernel_rfl) (fun W _ => x_idx46 (x := .tmp 66) (y := .tmp 67) (b := b1) (p := o1) (n := m1) (c := c1) (j := i) (by kernel_rfl) (by kernel_rfl) (by kernel_rfl) hlt) hS0 ?_
            refine tk 5 69 (.int .i64 k) (fuel := 15) rfl (by kernel_rfl) (by kernel_rfl) (by kernel_rfl) (by kernel_rfl) noPanic_false (by kernel_rfl) (fun W hW => x_load2 (x := .tmp 68) (g := b1) (p := o1 + i) (z := k) (by kernel_rfl) (by kernel_rfl) (hW.cell (p := ⟨b1, o1 + i, none⟩) HN1.out HC1.out)) hS0 ?_
            refine tk 6 70 (.slice (some ⟨g3, 0, none⟩) nn nn) (fuel := 14) rfl (by kernel_rfl) (by kernel_rfl) (by kernel_rfl) (by kernel_rfl) noPanic_false (by kernel_rfl) (fun _ _ => by kernel_rfl) hS0 ?_
            refine tk 7 71 (.int .i64 (zn : Int)) (fuel := 13) rfl (by kernel_rfl) (by kernel_rfl) (by kernel_rfl) (by kernel_rfl) noPanic_false (by kernel_rfl) (fun _ _ => by kernel_rfl) hS0 ?_
            refine tk 8 72 (.pointer (some ⟨g3, zn, none⟩)) (fuel := 12) rfl (by kernel_rfl) (by kernel_rfl) (by kernel_rfl) (by kernel_rfl) noPanic_false (by kernel_rfl) (fun W _ => x_idx45z (x := .tmp 70) (y := .tmp 71) (b := g3) (n := nn) (c := nn) (j := zn) (by kernel_rfl) (by kernel_rfl) (by kernel_rfl) hzn) hS0 ?_
            refine tk 9 73 (.string (strOf nm)) (fuel := 11) rfl (by kernel_rfl) (by kernel_rfl) (by kernel_rfl) (by kernel_rfl) noPanic_false (by kernel_rfl) (fun W hW => x_loadT (x := .tmp 72) (t := 9) (g := g3) (j := zn) Try.underlying9 rfl (by kernel_rfl) (by kernel_rfl) (hW.cell (p := ⟨g3, zn, none⟩) HN3.out HCN.out)) hS0 ?_
            refine tk 10 74 (.slice (some ⟨b5, o5, none⟩) m1 c5) (fuel := 10) rfl (by kernel_rfl) (by kernel_rfl) (by kernel_rfl) (by kernel_rfl) noPanic_false (by kernel_rfl) (fun _ _ => by kernel_rfl) hS0 ?_
            refine tk 11 75 (.int .i64 (i : Int)) (fuel := 9) rfl (by kernel_rfl) (by kernel_rfl) (by kernel_rfl) (by kernel_rfl) noPanic_false (by kernel_rfl) (fun _ _ => by kernel_rfl) hS0 ?_
            refine tk 12 76 (.pointer (some ⟨b5, o5 + i, none⟩)) (fuel := 8) rfl (by kernel_rfl) (by kernel_rfl) (by kernel_rfl) (by kernel_rfl) noPanic_false (by kernel_rfl) (fun W _ => x_idx46 (x := .tmp 74) (y := .tmp 75) (b := b5) (p := o5) (n := m1) (c := c5) (j := i) (by kernel_rfl) (by kernel_rfl) (by kernel_rfl) hlt) hS0 ?_
            refine tk 13 77 (.int .i64 p) (fuel := 7) rfl (by kernel_rfl) (by kernel_rfl) (by kernel_rfl) (by kernel_rfl) noPanic_false (by kernel_rfl) (fun W hW => x_load2 (x := .tmp 76) (g := b5) (p := o5 + i) (z := p) (by kernel_rfl) (by kernel_rfl) (hW.cell (p := ⟨b5, o5 + i, none⟩) HN5.out HC5.out)) hS0 ?_
            refine tk 14 78 (.slice (some ⟨b6, o6, none⟩) m1 c6) (fuel := 6) rfl (by kernel_rfl) (by kernel_rfl) (by kernel_rfl) (by kernel_rfl) noPanic_false (by kernel_rfl) (fun _ _ => by kernel_rfl) hS0 ?_
            refine tk 15 79 (.int .i64 (i : Int)) (fuel := 5) rfl (by kernel_rfl) (by kernel_rfl) (by kernel_rfl) (by kernel_rfl) noPanic_false (by kernel_rfl) (fun _ _ => by kernel_rfl) hS0 ?_
            refine tk 16 80 (.pointer (some ⟨b6, o6 + i, none⟩)) (fuel := 4) rfl (by kernel_rfl) (by kernel_rfl) (by kernel_rfl) (by kernel_rfl) noPanic_false (by kernel_rfl) (fun W _ => x_idx46 (x := .tmp 78) (y := .tmp 79) (b := b6) (p := o6) (n := m1) (c := c6) (j := i) (by kernel_rfl) (by kernel_rfl) (by kernel_rfl) hlt) hS0 ?_
            refine tk 17 81 (.int .i64 y) (fuel := 3) rfl (by kernel_rfl) (by kernel_rfl) (by kernel_rfl) (by kernel_rfl) noPanic_false (by kernel_rfl) (fun W hW => x_load2 (x := .tmp 80) (g := b6) (p := o6 + i) (z := y) (by kernel_rfl) (by kernel_rfl) (hW.cell (p := ⟨b6, o6 + i, none⟩) HN6.out HC6.out)) hS0 ?_
            refine tk 18 82 (.agg #[.int .i64 k, .string (strOf nm), .int .i64 p, .int .i64 y, .string ⟨#[]⟩]) (fuel := 2) rfl (by kernel_rfl) (by kernel_rfl) (by kernel_rfl) (by kernel_rfl) noPanic_false (by kernel_rfl) (fun _ _ => by kernel_rfl) hS0 ?_
            refine tk 19 83 (.pointer (some ⟨g, i * 5, none⟩)) (fuel := 1) rfl (by kernel_rfl) (by kernel_rfl) (by kernel_rfl) (by kernel_rfl) noPanic_false (by kernel_rfl) (fun W _ => x_idx29 (x := .tmp 64) (y := .tmp 65) (b := g) (n := m1) (c := m1) (j := i) (by kernel_rfl) (by kernel_rfl) (by kernel_rfl) hlt) hS0 ?_
            refine tkStoreM 20 23 (.tmp 83) (.tmp 82) g (i * 5) #[.int .i64 k, .string (strOf nm), .int .i64 p, .int .i64 y, .string ⟨#[]⟩] (fuel := 0) rfl rfl rfl (by kernel_rfl) (by kernel_rfl) (by kernel_rfl) (by kernel_rfl) (there_row (HS.out.2.2.1.drew) (by rw [List.length_append, HS.out.2.1, List.length_replicate]; omega)) size23 (by kernel_rfl) (But.setCells _ _ hS0) ?_
            refine wpAnyH_done (by kernel_rfl) (NoPanic.normal ?_) _
            obtain ⟨W5, hW5⟩ : ∃ W5, wr.drew.setCells g (i * 5) (#[.int .i64 k, .string (strOf nm), .int .i64 p, .int .i64 y, .string ⟨#[]⟩] : Array Value).toList = W5 := ⟨_, rfl⟩
            have H5 : Hid (RowIs W5 g 23 (cellsOf (S.ops ++ [⟨k, nm, p, y, []⟩] ++ List.replicate (m1 - (i + 1)) z0)) ∧ Tk w w.heap.size S.rest S.fl W5 ∧ But w.heap.size w6 W5) := by
              have hb : But g wr W5 := by rw [← hW5]; exact But.setCells _ _ hS0
              exact ⟨by rw [← hW5]; exact stored_row HS.out.2.2.1 HS.out.2.1 hlt ⟨k, nm, p, y, []⟩, HS.out.2.2.2.but hb (Nat.ne_of_gt HG.out.2) (Nat.le_of_lt HG.out.2), HI.out.but.over hb (Nat.le_of_eq HG.out.1)⟩
            rw [hW5]
            clear hW5 hS0
            have HAT : Hid ((S.ops ++ [⟨k, nm, p, y, []⟩] ++ List.replicate (m1 - (i + 1)) z0)[i]? = some ⟨k, nm, p, y, []⟩) := by
              show _ = _
              rw [List.append_assoc, List.getElem?_append_right (by rw [HS.out.2.1]; exact Nat.le_refl _), HS.out.2.1, Nat.sub_self]
              rfl
            have c5 : W5.cell? ⟨g, i * 5, none⟩ = some (.int .i64 k) := H5.out.1.cell (by rw [show i * 5 = i * 5 + 0 from rfl, cellsOf_at _ i 0 _ HAT.out (by omega)]; rfl)
            cases ht : (decide (k = 1) || decide (k = 4)) with
            | false =>
              have HT : Hid (hasT ⟨k, nm, p, y, []⟩ = false) := ht
              go_simp
              go_wp2_with (go_at_call 47; refine Calls.mono (hasText_any k _) ?_; rintro e wq ⟨rfl, hwq⟩; rw [ht]; have hwp := hwq.symm; clear hwq; subst hwp)
              go_roundw
              case rel => exact ⟨i + 1, by go_num, by omega, ⟨_, stM_plain HS.out.1 HZ0.out HX.out HT.out, by simp [HS.out.2.1], H5.out.1, H5.out.2.1⟩, H5.out.2.2, HI.out.new⟩
              case measure => simp [intOf]; omega
            | true =>
              have HT : Hid (hasT ⟨k, nm, p, y, []⟩ = true) := ht
              obtain ⟨⟨tx, rx, fx⟩, htx⟩ : ∃ q, textM 1024 S.rest S.fl = q := ⟨_, rfl⟩
              have HTX : Hid (textM 1024 S.rest S.fl = (tx, rx, fx)) := htx
              clear htx
              go_simp
              go_wp2_with (first
                | (go_at_call 47; refine Calls.mono (hasText_any k _) ?_; rintro e wq ⟨rfl, hwq⟩; rw [ht]; have hwp := hwq.symm; clear hwq; subst hwp)
                | (go_at_call 57; refine Calls.mono (ttext_k H5.out.2.1 HTX.out) ?_; rintro e w8 ⟨rfl, ht8, hb8⟩; have hr8 := hb8.row H5.out.1 (Nat.ne_of_gt HG.out.2); have H8 := show Hid (Tk w w.heap.size rx fx w8 ∧ But w.heap.size W5 w8 ∧ RowIs w8 g 23 (cellsOf (S.ops ++ [⟨k, nm, p, y, []⟩] ++ List.replicate (m1 - (i + 1)) z0))) from ⟨ht8, hb8, hr8⟩; have d4 : w8.cell? ⟨g, i * 5 + 4, none⟩ = some (.string (strOf [])) := hr8.cell (by rw [cellsOf_at _ i 4 _ HAT.out (by omega)]; rfl); have g4 := hr8.frozen (i * 5 + 4); clear ht8 hb8 hr8))
              go_roundw
              case rel =>
                have hb9 : But g w8 (w8.setCell ⟨g, i * 5 + 4, none⟩ (.string (strOf tx))) := (But.refl g w8).setCell _ _
                have hr9 := H8.out.2.2.set (i * 5 + 4) (.string (strOf tx))
                rw [cellsOf_text _ i _ tx HAT.out, fill_text HS.out.2.1] at hr9
                exact ⟨i + 1, by go_num, by omega, ⟨_, stM_text HS.out.1 HZ0.out HX.out HT.out HTX.out, by simp [HS.out.2.1], hr9, H8.out.1.but hb9 (Nat.ne_of_gt HG.out.2) (Nat.le_of_lt HG.out.2)⟩, (But.trans H5.out.2.2 H8.out.2.1).over hb9 (Nat.le_of_eq HG.out.1), HI.out.new⟩
              case measure => simp [intOf]; omega
      · obtain rfl : i = m1 := by omega
        have hii : ¬ (i : Int) < (i : Int) := by omega
        have HE : Hid (readM bs = if S.fl = true then none else some S.ops) := by
          rw [HC.out]
          exact readC_some (by rw [HCC.out.1]; exact HM.out.1) (by rw [HCC.out.2.2.1]; exact HM.out.2.1) (by rw [HCC.out.2.2.2.1]; exact HM.out.2.2.1) (by rw [HCC.out.2.2.2.2.1]; exact HM.out.2.2.2) HCC.out.2.2.2.2.2 HS.out.1
        have HRW : Hid (RowIs wr g 23 (cellsOf S.ops)) := by
          have := HS.out.2.2.1
          rw [Nat.sub_self, List.replicate_zero, List.append_nil] at this
          exact this
        obtain ⟨aoS, caS, hrS, _⟩ := HS.out.2.2.2.ex
        have d1 := hrS.cell (j := 1) rfl
        clear hrS
        cases hf : S.fl with
        | true =>
          rw [hf] at d1
          go_wp2_with fail
          go_region
          go_wp2
          go_ret2
          exact ⟨_, _, rfl, After.drew HS.out.2.2.2.aft, fun _ => by rw [HE.out, hf]; rfl, fun h => by cases h⟩
        | false =>
          rw [hf] at d1
          go_wp2_with fail
          go_region
          go_wp2
          go_ret2
          exact ⟨_, _, rfl, After.drew HS.out.2.2.2.aft, (fun h => by cases h), fun _ => ⟨S.ops, g, by rw [HE.out, hf]; rfl, by rw [HS.out.2.1]; rfl, ops_of_row HRW.out.drew, by rw [HS.out.2.1]; exact h1m⟩⟩
end Go.Proofs.Ytpplnomomcdemaa
