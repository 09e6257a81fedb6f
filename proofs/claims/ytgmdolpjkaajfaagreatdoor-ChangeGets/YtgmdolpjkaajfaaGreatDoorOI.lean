/-
  CONTRACTS: ReadW ReadMath GetW SameW Awake BackM BackKit BackLaw
-/
import Derived.Test.YtgmdolpjkaajfaaGreatDoorOH
import Derived.Test.YtgmdolpjkaajfaaGreatDoorOG
import Derived.Laws.StructEq
namespace Go.Proofs.YtgmdolpjkaajfaaGreatDoor
open Go.RowKit Leb
structure RdI (w W7 : World) (tb g n : Nat) (C : Cols) (i : Nat) (wr : World) : Prop where
  ex : ∃ S, stM C i = some S ∧ S.ops.length = i ∧ RowIs wr g 46 (cellsOf (S.ops ++ List.replicate (n - i) z0)) ∧ Tk w tb S.rest S.fl wr
  but : But tb W7 wr
  new : W7.heap.size = g
/-- What readOps tells. -/
def RdPost (w : World) (R : Option (List Opn)) (e : Ending) (w' : World) : Prop :=
  ∃ v ok, e = .returned (.tuple #[v, .bool ok]) ∧ After w w' ∧ (ok = false → R = none) ∧ (ok = true → ∃ l g, R = some l ∧ v = .slice (some ⟨g, 0, none⟩) l.length l.length ∧ OpsAt w' (some ⟨g, 0, none⟩) l ∧ l.length ≤ 65536 ∧ w.heap.size ≤ g ∧ RowIs w' g 46 (cellsOf l))
theorem G2_le (bs : List UInt8) : (G2 bs).2.1 ≤ bs.length := by
  show (getR bs 256).2.1 ≤ _
  exact G1_le bs
theorem ints_but {tb : Nat} {W W' : World} {p : Option Addr} {l : List Int} (h : IntsAt W p l) (hb : But tb W W') (hp : ∀ a, p = some a → a.block ≠ tb) : IntsAt W' p l := fun hn => by
  obtain ⟨b, o, rfl, hc⟩ := h hn
  exact ⟨b, o, rfl, fun j hj => hb.cell (p := ⟨b, o + j, none⟩) (hp ⟨b, o, none⟩ rfl) (hc j hj)⟩
theorem ops_of_row {w : World} {g : Nat} {L : List Opn} (h : RowIs w g 46 (cellsOf L)) : OpsAt w (some ⟨g, 0, none⟩) L := fun _ => ⟨g, 0, rfl, fun j x hx i v hv => by
  have hi : i < 5 := by have := (List.getElem?_eq_some_iff.1 hv).1; simpa using this
  have := cellsOf_at L j i x hx hi
  rw [Nat.zero_add]
  exact h.cell (by rw [this]; exact hv)⟩
theorem ints_len {W : World} {p : Option Addr} {l : List Int} (h : IntsAt W p l) {n i : Nat} (hl : l.length = n) (hi : i < n) : ∃ b o, p = some ⟨b, o, none⟩ ∧ W.cell? ⟨b, o + i, none⟩ = some (.int .i64 (l[i]?.getD 0)) := by
  obtain ⟨b, o, e, hc⟩ := h (fun e => by rw [e] at hl; simp at hl; omega)
  exact ⟨b, o, e, hc i (by omega)⟩

theorem x_idx45z {o : Oper} {a : Act} {x y : Operand} {w : World} {b n c j : Nat} (hop : o.op = .indexAddr 110 x y) (hx : a.eval x = .slice (some ⟨b, 0, none⟩) n c) (hy : a.eval y = .int .i64 (j : Int)) (hj : j < n) : (execOp a.eval o).run Tryz.prog w = .ok (.value (.pointer (some ⟨b, j, none⟩))) w := by
  have h := x_idx45 (w := w) hop hx hy hj
  rw [Nat.zero_add] at h
  exact h
theorem Tk.but {w0 W W' : World} {tb g : Nat} {bs : List UInt8} {fl : Bool} (h : Tk w0 tb bs fl W) (hb : But g W W') (hg : g ≠ tb) (hw : w0.heap.size ≤ g) : Tk w0 tb bs fl W' := by
  obtain ⟨ao, ca, hr, h2⟩ := h.ex
  exact ⟨⟨ao, ca, hb.row hr (Ne.symm hg), h2⟩, Below.trans h.aft (hb.below hw h.aft.size), h.new, h.big⟩
theorem But.over {tb g : Nat} {a b c : World} (h : But tb a b) (k : But g b c) (hg : a.heap.size ≤ g) : But tb a c :=
  ⟨k.os.trans h.os, k.tape.trans h.tape, k.output.trans h.output, Nat.le_trans h.size k.size, fun j hj hne => (k.block j (Nat.lt_of_lt_of_le hj h.size) (by omega)).trans (h.block j hj hne)⟩
theorem stored_row {wr : World} {g n i : Nat} {ops : List Opn} (hrow : RowIs wr g 46 (cellsOf (ops ++ List.replicate (n - i) z0))) (hl : ops.length = i) (hi : i < n) (x : Opn) : RowIs (wr.drew.setCells g (i * 5) (oc x)) g 46 (cellsOf (ops ++ [x] ++ List.replicate (n - (i + 1)) z0)) := by
  have := RowIs.setCells (oc x) (i * 5) hrow.drew
  rw [cellsOf_set _ _ _ (by simp; omega), fill_set hl hi] at this
  exact this
theorem there_row {w : World} {g i : Nat} {t : TypeId} {L : List Opn} (h : RowIs w g t (cellsOf L)) (hi : i < L.length) : w.there g (i * 5) 5 := fun j hj => by
  have := cellsOf_at L i j L[i] (List.getElem?_eq_getElem hi) hj
  refine ⟨?_, h.frozen _⟩
  rw [h.cell (j := i * 5 + j) (v := (oc L[i])[j]?.getD undef) (by rw [this, List.getElem?_eq_getElem (by simpa using hj)]; rfl)]
  rfl
theorem fill_text {L R : List Opn} {i : Nat} (hl : L.length = i) (x y : Opn) : (L ++ [x] ++ R).set i y = L ++ [y] ++ R := by
  rw [List.append_assoc, List.set_append_right _ _ (by omega), hl, Nat.sub_self]
  simp
theorem readC_none {C : Cols} {n : Nat} (hn : C.ks.length = n) (h : stM C n = none) : readC C = none := by
  unfold readC
  split
  · rfl
  · rw [hn, h]; rfl
theorem readC_some {C : Cols} {n : Nat} {S : RdS} (h1 : C.ks.length = n) (h2 : C.ws.length = n) (h3 : C.ps.length = n) (h4 : C.ys.length = n) (h5 : C.fl = false) (h : stM C n = some S) : readC C = if S.fl = true then none else some S.ops := by
  unfold readC
  rw [h1, h2, h3, h4, h5, h]
  simp
theorem stM_out {C : Cols} {i : Nat} {S : RdS} (h : stM C i = some S) (hz : C.ws[i]?.getD 0 < 0 ∨ (C.nms.length : Int) ≤ C.ws[i]?.getD 0) : stM C (i + 1) = none := by
  show (stM C i).bind (stepM C i) = none
  rw [h]
  show stepM C i S = none
  unfold stepM
  rw [if_pos hz]
theorem stM_plain {C : Cols} {i : Nat} {S : RdS} {x : Opn} (h : stM C i = some S) (hz : ¬ (C.ws[i]?.getD 0 < 0 ∨ (C.nms.length : Int) ≤ C.ws[i]?.getD 0)) (hx : opAt C i = x) (ht : hasT x = false) : stM C (i + 1) = some ⟨S.ops ++ [x], S.rest, S.fl⟩ := by
  show (stM C i).bind (stepM C i) = _
  rw [h]
  show stepM C i S = _
  unfold stepM
  rw [if_neg hz, hx, ht]
  rfl
theorem stM_text {C : Cols} {i : Nat} {S : RdS} {x : Opn} {s r : List UInt8} {f : Bool} (h : stM C i = some S) (hz : ¬ (C.ws[i]?.getD 0 < 0 ∨ (C.nms.length : Int) ≤ C.ws[i]?.getD 0)) (hx : opAt C i = x) (ht : hasT x = true) (he : textM 1024 S.rest S.fl = (s, r, f)) : stM C (i + 1) = some ⟨S.ops ++ [{ x with text := s }], r, f⟩ := by
  show (stM C i).bind (stepM C i) = _
  rw [h]
  show stepM C i S = _
  unfold stepM
  rw [if_neg hz, hx, ht, he]
  rfl

set_option maxRecDepth 100000 in
set_option maxHeartbeats 3200000 in
theorem readOps_any (ao : Option Addr) (n ca : Nat) (bs : List UInt8) (hn : bs.length = n) (hca : n ≤ ca) (hz : ao = none → n = 0) (hbig : n ≤ 140737488355328) (w : World) (hat : BytesAt w ao bs) :
    Calls Tryz.prog 118 #[.slice ao n ca] w (RdPost w (readM bs)) := by
  have e53 : ∀ args w, (callFunc 136 args).run Tryz.prog w = .ok (.enter 136 args) w := enters_of Tryz.func136 (by kernel_rfl) rfl
  have e56 : ∀ args w, (callFunc 139 args).run Tryz.prog w = .ok (.enter 139 args) w := enters_of Tryz.func139 (by kernel_rfl) rfl
  have HK1 : Hid (∀ (W : World) (ao : Option Addr) (cap : Nat) (bs : List UInt8), bs.length ≤ 140737488355328 → BytesAt W ao bs → Calls Tryz.prog 136 #[.slice ao bs.length cap, .int .i64 256] W (GPost W (G1 bs))) := fun W ao cap bs h1 h2 => getRuns_any ao cap bs h1 256 (by omega) (by omega) W h2
  have HK2 : Hid (∀ (W : World) (ao : Option Addr) (cap : Nat) (bs : List UInt8), bs.length ≤ 140737488355328 → BytesAt W ao bs → Calls Tryz.prog 139 #[.slice ao bs.length cap, .int .i64 256] W (GPost W (G2 bs))) := fun W ao cap bs h1 h2 => getDeltas_any ao cap bs h1 256 (by omega) (by omega) W h2
  have HT0 : Hid (Tk w w.heap.size bs false (w.alloc (.cells #[.slice ao n ca, .bool false] 165))) := ⟨⟨ao, ca, by rw [hn]; exact RowIs.new w 165 [.slice ao n ca, .bool false], hat, by omega, fun e => by rw [hn]; exact hz e⟩, after_alloc (After.refl w) _, Nat.le_refl _, by omega⟩
  obtain ⟨⟨la, ra, fa⟩, ha⟩ : ∃ x, colM G1 bs false = x := ⟨_, rfl⟩
  obtain ⟨⟨nn, rc, fc⟩, hc⟩ : ∃ x, countM ra fa = x := ⟨_, rfl⟩
  obtain ⟨⟨L, rt, ft⟩, ht⟩ : ∃ x, textsM 32 nn rc fc = x := ⟨_, rfl⟩
  obtain ⟨⟨lw, rw', fw⟩, hw⟩ : ∃ x, colM G1 rt ft = x := ⟨_, rfl⟩
  obtain ⟨⟨lp, rp, fp⟩, hp⟩ : ∃ x, colM G2 rw' fw = x := ⟨_, rfl⟩
  obtain ⟨⟨ly, ry, fy⟩, hy⟩ : ∃ x, colM G1 rp fp = x := ⟨_, rfl⟩
  obtain ⟨m1, hm1⟩ : ∃ m, la.length = m := ⟨_, rfl⟩
  obtain ⟨m2, hm2⟩ : ∃ m, lw.length = m := ⟨_, rfl⟩
  obtain ⟨m3, hm3⟩ : ∃ m, lp.length = m := ⟨_, rfl⟩
  obtain ⟨m4, hm4⟩ : ∃ m, ly.length = m := ⟨_, rfl⟩
  have hnn : nn ≤ 256 := by have := countM_le ra fa; rw [hc] at this; exact this
  have h1m : m1 ≤ 65536 := by rw [← hm1]; exact colM_most ha
  have HC : Hid (readM bs = readC ⟨la, L, lw, lp, ly, ry, fy⟩) := by
    show readM bs = _
    unfold readM colsM
    simp only [ha, hc, ht, hw, hp, hy]
  have HL : Hid (L.length = nn) := textsM_count 32 ht
  have HM : Hid (la.length = m1 ∧ lw.length = m2 ∧ lp.length = m3 ∧ ly.length = m4) := ⟨hm1, hm2, hm3, hm4⟩
  have HE1 := show Hid (colM G1 bs false = (la, ra, fa)) from ha
  have HE2 := show Hid (countM ra fa = (nn, rc, fc)) from hc
  have HE3 := show Hid (textsM 32 nn rc fc = (L, rt, ft)) from ht
  have HE4 := show Hid (colM G1 rt ft = (lw, rw', fw)) from hw
  have HE5 := show Hid (colM G2 rw' fw = (lp, rp, fp)) from hp
  have HE6 := show Hid (colM G1 rp fp = (ly, ry, fy)) from hy
  have HTB : Hid (w.heap.size < (w.alloc (.cells #[.slice ao n ca, .bool false] 165)).heap.size) := HT0.out.lt
  clear ha hc ht hw hp hy hm1 hm2 hm3 hm4 hat hz hn hbig hca
  cases fy with
  | true =>
    go_enter Tryz.func118, Tryz.ntmps118
    go_wp2_with (first
      | (go_at_call 135; have _u := H5.out; clear _u; refine Calls.mono (column_k G1 136 e53 G1_le HK1.out H5.out.2.2.1 HE6.out HM.out.2.2.2) ?_; rintro e w6 ⟨p6, c6, rfl, hp, hl, ht, hb⟩; obtain ⟨ao6, ca6, hr6, _⟩ := ht.ex; have d1 := hr6.cell (j := 1) rfl; clear hr6; have H6 := show Hid (IntsAt w6 p6 ly ∧ (∀ a, p6 = some a → w5.heap.size ≤ a.block ∧ a.block < w6.heap.size) ∧ Tk w w.heap.size ry true w6 ∧ But w.heap.size w5 w6) from ⟨hp, hl, ht, hb⟩; clear hp hl ht hb)
      | (go_at_call 135; have _u := H4.out; clear _u; refine Calls.mono (column_k G2 139 e56 G2_le HK2.out H4.out.2.2.1 HE5.out HM.out.2.2.1) ?_; rintro e w5 ⟨p5, c5, rfl, hp, hl, ht, hb⟩; have H5 := show Hid (IntsAt w5 p5 lp ∧ (∀ a, p5 = some a → w4.heap.size ≤ a.block ∧ a.block < w5.heap.size) ∧ Tk w w.heap.size rp fp w5 ∧ But w.heap.size w4 w5) from ⟨hp, hl, ht, hb⟩; clear hp hl ht hb)
      | (go_at_call 135; have _u := H3.out; clear _u; refine Calls.mono (column_k G1 136 e53 G1_le HK1.out H3.out.2.2.1 HE4.out HM.out.2.1) ?_; rintro e w4 ⟨p4, c4, rfl, hp, hl, ht, hb⟩; have H4 := show Hid (IntsAt w4 p4 lw ∧ (∀ a, p4 = some a → w3.heap.size ≤ a.block ∧ a.block < w4.heap.size) ∧ Tk w w.heap.size rw' fw w4 ∧ But w.heap.size w3 w4) from ⟨hp, hl, ht, hb⟩; clear hp hl ht hb)
      | (go_at_call 137; refine Calls.mono (texts_k 32 (by omega) (by omega) H2.out.1 nn (by omega) HE3.out) ?_; rintro e w3 ⟨g3, rfl, hr, hg, ht, hb⟩; have H3 := show Hid (RowIs w3 g3 9 (L.map fun s => .string (strOf s)) ∧ w2.heap.size ≤ g3 ∧ Tk w w.heap.size rt ft w3 ∧ But w.heap.size w2 w3) from ⟨hr, hg, ht, hb⟩; clear hr hg ht hb)
      | (go_at_call 138; refine Calls.mono (count_k H1.out.2.2.1 HE2.out) ?_; rintro e w2 ⟨rfl, ht, hb⟩; have H2 := show Hid (Tk w w.heap.size rc fc w2 ∧ But w.heap.size w1 w2) from ⟨ht, hb⟩; clear ht hb)
      | (go_at_call 135; refine Calls.mono (column_k G1 136 e53 G1_le HK1.out HT0.out HE1.out HM.out.1) ?_; rintro e w1 ⟨p1, c1, rfl, hp, hl, ht, hb⟩; have H1 := show Hid (IntsAt w1 p1 la ∧ (∀ a, p1 = some a → (w.alloc (.cells #[.slice ao n ca, .bool false] 165)).heap.size ≤ a.block ∧ a.block < w1.heap.size) ∧ Tk w w.heap.size ra fa w1 ∧ But w.heap.size (w.alloc (.cells #[.slice ao n ca, .bool false] 165)) w1) from ⟨hp, hl, ht, hb⟩; clear hp hl ht hb))
    go_ret2
    exact ⟨_, _, rfl, H6.out.2.2.1.aft, fun _ => by rw [HC.out]; unfold readC; rw [if_pos (by simp)], fun h => by cases h⟩
  | false =>
    by_cases qm2 : m1 = m2
    case neg =>
      have qi : ¬ (m2 : Int) = (m1 : Int) := by omega
      have qb : ((m2 : Int) == (m1 : Int)) = false := beq_eq_false_iff_ne.2 qi
      have qn : ((m2 : Int) != (m1 : Int)) = true := by simp [bne, qb]
      go_enter Tryz.func118, Tryz.ntmps118
      go_wp2_with (first
        | (go_at_call 135; have _u := H5.out; clear _u; refine Calls.mono (column_k G1 136 e53 G1_le HK1.out H5.out.2.2.1 HE6.out HM.out.2.2.2) ?_; rintro e w6 ⟨p6, c6, rfl, hp, hl, ht, hb⟩; obtain ⟨ao6, ca6, hr6, _⟩ := ht.ex; have d1 := hr6.cell (j := 1) rfl; clear hr6; have H6 := show Hid (IntsAt w6 p6 ly ∧ (∀ a, p6 = some a → w5.heap.size ≤ a.block ∧ a.block < w6.heap.size) ∧ Tk w w.heap.size ry false w6 ∧ But w.heap.size w5 w6) from ⟨hp, hl, ht, hb⟩; clear hp hl ht hb)
        | (go_at_call 135; have _u := H4.out; clear _u; refine Calls.mono (column_k G2 139 e56 G2_le HK2.out H4.out.2.2.1 HE5.out HM.out.2.2.1) ?_; rintro e w5 ⟨p5, c5, rfl, hp, hl, ht, hb⟩; have H5 := show Hid (IntsAt w5 p5 lp ∧ (∀ a, p5 = some a → w4.heap.size ≤ a.block ∧ a.block < w5.heap.size) ∧ Tk w w.heap.size rp fp w5 ∧ But w.heap.size w4 w5) from ⟨hp, hl, ht, hb⟩; clear hp hl ht hb)
        | (go_at_call 135; have _u := H3.out; clear _u; refine Calls.mono (column_k G1 136 e53 G1_le HK1.out H3.out.2.2.1 HE4.out HM.out.2.1) ?_; rintro e w4 ⟨p4, c4, rfl, hp, hl, ht, hb⟩; have H4 := show Hid (IntsAt w4 p4 lw ∧ (∀ a, p4 = some a → w3.heap.size ≤ a.block ∧ a.block < w4.heap.size) ∧ Tk w w.heap.size rw' fw w4 ∧ But w.heap.size w3 w4) from ⟨hp, hl, ht, hb⟩; clear hp hl ht hb)
        | (go_at_call 137; refine Calls.mono (texts_k 32 (by omega) (by omega) H2.out.1 nn (by omega) HE3.out) ?_; rintro e w3 ⟨g3, rfl, hr, hg, ht, hb⟩; have H3 := show Hid (RowIs w3 g3 9 (L.map fun s => .string (strOf s)) ∧ w2.heap.size ≤ g3 ∧ Tk w w.heap.size rt ft w3 ∧ But w.heap.size w2 w3) from ⟨hr, hg, ht, hb⟩; clear hr hg ht hb)
        | (go_at_call 138; refine Calls.mono (count_k H1.out.2.2.1 HE2.out) ?_; rintro e w2 ⟨rfl, ht, hb⟩; have H2 := show Hid (Tk w w.heap.size rc fc w2 ∧ But w.heap.size w1 w2) from ⟨ht, hb⟩; clear ht hb)
        | (go_at_call 135; refine Calls.mono (column_k G1 136 e53 G1_le HK1.out HT0.out HE1.out HM.out.1) ?_; rintro e w1 ⟨p1, c1, rfl, hp, hl, ht, hb⟩; have H1 := show Hid (IntsAt w1 p1 la ∧ (∀ a, p1 = some a → (w.alloc (.cells #[.slice ao n ca, .bool false] 165)).heap.size ≤ a.block ∧ a.block < w1.heap.size) ∧ Tk w w.heap.size ra fa w1 ∧ But w.heap.size (w.alloc (.cells #[.slice ao n ca, .bool false] 165)) w1) from ⟨hp, hl, ht, hb⟩; clear hp hl ht hb))
      go_ret2
      exact ⟨_, _, rfl, H6.out.2.2.1.aft, fun _ => by rw [HC.out]; unfold readC; rw [if_pos (by rw [HM.out.1, HM.out.2.1, HM.out.2.2.1, HM.out.2.2.2]; have := qm2; simp; omega)], fun h => by cases h⟩
    subst qm2
    by_cases qm3 : m1 = m3
    case neg =>
      have qi : ¬ (m3 : Int) = (m1 : Int) := by omega
      have qb : ((m3 : Int) == (m1 : Int)) = false := beq_eq_false_iff_ne.2 qi
      have qn : ((m3 : Int) != (m1 : Int)) = true := by simp [bne, qb]
      go_enter Tryz.func118, Tryz.ntmps118
      go_wp2_with (first
        | (go_at_call 135; have _u := H5.out; clear _u; refine Calls.mono (column_k G1 136 e53 G1_le HK1.out H5.out.2.2.1 HE6.out HM.out.2.2.2) ?_; rintro e w6 ⟨p6, c6, rfl, hp, hl, ht, hb⟩; obtain ⟨ao6, ca6, hr6, _⟩ := ht.ex; have d1 := hr6.cell (j := 1) rfl; clear hr6; have H6 := show Hid (IntsAt w6 p6 ly ∧ (∀ a, p6 = some a → w5.heap.size ≤ a.block ∧ a.block < w6.heap.size) ∧ Tk w w.heap.size ry false w6 ∧ But w.heap.size w5 w6) from ⟨hp, hl, ht, hb⟩; clear hp hl ht hb)
        | (go_at_call 135; have _u := H4.out; clear _u; refine Calls.mono (column_k G2 139 e56 G2_le HK2.out H4.out.2.2.1 HE5.out HM.out.2.2.1) ?_; rintro e w5 ⟨p5, c5, rfl, hp, hl, ht, hb⟩; have H5 := show Hid (IntsAt w5 p5 lp ∧ (∀ a, p5 = some a → w4.heap.size ≤ a.block ∧ a.block < w5.heap.size) ∧ Tk w w.heap.size rp fp w5 ∧ But w.heap.size w4 w5) from ⟨hp, hl, ht, hb⟩; clear hp hl ht hb)
        | (go_at_call 135; have _u := H3.out; clear _u; refine Calls.mono (column_k G1 136 e53 G1_le HK1.out H3.out.2.2.1 HE4.out HM.out.2.1) ?_; rintro e w4 ⟨p4, c4, rfl, hp, hl, ht, hb⟩; have H4 := show Hid (IntsAt w4 p4 lw ∧ (∀ a, p4 = some a → w3.heap.size ≤ a.block ∧ a.block < w4.heap.size) ∧ Tk w w.heap.size rw' fw w4 ∧ But w.heap.size w3 w4) from ⟨hp, hl, ht, hb⟩; clear hp hl ht hb)
        | (go_at_call 137; refine Calls.mono (texts_k 32 (by omega) (by omega) H2.out.1 nn (by omega) HE3.out) ?_; rintro e w3 ⟨g3, rfl, hr, hg, ht, hb⟩; have H3 := show Hid (RowIs w3 g3 9 (L.map fun s => .string (strOf s)) ∧ w2.heap.size ≤ g3 ∧ Tk w w.heap.size rt ft w3 ∧ But w.heap.size w2 w3) from ⟨hr, hg, ht, hb⟩; clear hr hg ht hb)
        | (go_at_call 138; refine Calls.mono (count_k H1.out.2.2.1 HE2.out) ?_; rintro e w2 ⟨rfl, ht, hb⟩; have H2 := show Hid (Tk w w.heap.size rc fc w2 ∧ But w.heap.size w1 w2) from ⟨ht, hb⟩; clear ht hb)
        | (go_at_call 135; refine Calls.mono (column_k G1 136 e53 G1_le HK1.out HT0.out HE1.out HM.out.1) ?_; rintro e w1 ⟨p1, c1, rfl, hp, hl, ht, hb⟩; have H1 := show Hid (IntsAt w1 p1 la ∧ (∀ a, p1 = some a → (w.alloc (.cells #[.slice ao n ca, .bool false] 165)).heap.size ≤ a.block ∧ a.block < w1.heap.size) ∧ Tk w w.heap.size ra fa w1 ∧ But w.heap.size (w.alloc (.cells #[.slice ao n ca, .bool false] 165)) w1) from ⟨hp, hl, ht, hb⟩; clear hp hl ht hb))
      go_ret2
      exact ⟨_, _, rfl, H6.out.2.2.1.aft, fun _ => by rw [HC.out]; unfold readC; rw [if_pos (by rw [HM.out.1, HM.out.2.1, HM.out.2.2.1, HM.out.2.2.2]; have := qm3; simp; omega)], fun h => by cases h⟩
    subst qm3
    by_cases qm4 : m1 = m4
    case neg =>
      have qi : ¬ (m4 : Int) = (m1 : Int) := by omega
      have qb : ((m4 : Int) == (m1 : Int)) = false := beq_eq_false_iff_ne.2 qi
      have qn : ((m4 : Int) != (m1 : Int)) = true := by simp [bne, qb]
      go_enter Tryz.func118, Tryz.ntmps118
      go_wp2_with (first
        | (go_at_call 135; have _u := H5.out; clear _u; refine Calls.mono (column_k G1 136 e53 G1_le HK1.out H5.out.2.2.1 HE6.out HM.out.2.2.2) ?_; rintro e w6 ⟨p6, c6, rfl, hp, hl, ht, hb⟩; obtain ⟨ao6, ca6, hr6, _⟩ := ht.ex; have d1 := hr6.cell (j := 1) rfl; clear hr6; have H6 := show Hid (IntsAt w6 p6 ly ∧ (∀ a, p6 = some a → w5.heap.size ≤ a.block ∧ a.block < w6.heap.size) ∧ Tk w w.heap.size ry false w6 ∧ But w.heap.size w5 w6) from ⟨hp, hl, ht, hb⟩; clear hp hl ht hb)
        | (go_at_call 135; have _u := H4.out; clear _u; refine Calls.mono (column_k G2 139 e56 G2_le HK2.out H4.out.2.2.1 HE5.out HM.out.2.2.1) ?_; rintro e w5 ⟨p5, c5, rfl, hp, hl, ht, hb⟩; have H5 := show Hid (IntsAt w5 p5 lp ∧ (∀ a, p5 = some a → w4.heap.size ≤ a.block ∧ a.block < w5.heap.size) ∧ Tk w w.heap.size rp fp w5 ∧ But w.heap.size w4 w5) from ⟨hp, hl, ht, hb⟩; clear hp hl ht hb)
        | (go_at_call 135; have _u := H3.out; clear _u; refine Calls.mono (column_k G1 136 e53 G1_le HK1.out H3.out.2.2.1 HE4.out HM.out.2.1) ?_; rintro e w4 ⟨p4, c4, rfl, hp, hl, ht, hb⟩; have H4 := show Hid (IntsAt w4 p4 lw ∧ (∀ a, p4 = some a → w3.heap.size ≤ a.block ∧ a.block < w4.heap.size) ∧ Tk w w.heap.size rw' fw w4 ∧ But w.heap.size w3 w4) from ⟨hp, hl, ht, hb⟩; clear hp hl ht hb)
        | (go_at_call 137; refine Calls.mono (texts_k 32 (by omega) (by omega) H2.out.1 nn (by omega) HE3.out) ?_; rintro e w3 ⟨g3, rfl, hr, hg, ht, hb⟩; have H3 := show Hid (RowIs w3 g3 9 (L.map fun s => .string (strOf s)) ∧ w2.heap.size ≤ g3 ∧ Tk w w.heap.size rt ft w3 ∧ But w.heap.size w2 w3) from ⟨hr, hg, ht, hb⟩; clear hr hg ht hb)
        | (go_at_call 138; refine Calls.mono (count_k H1.out.2.2.1 HE2.out) ?_; rintro e w2 ⟨rfl, ht, hb⟩; have H2 := show Hid (Tk w w.heap.size rc fc w2 ∧ But w.heap.size w1 w2) from ⟨ht, hb⟩; clear ht hb)
        | (go_at_call 135; refine Calls.mono (column_k G1 136 e53 G1_le HK1.out HT0.out HE1.out HM.out.1) ?_; rintro e w1 ⟨p1, c1, rfl, hp, hl, ht, hb⟩; have H1 := show Hid (IntsAt w1 p1 la ∧ (∀ a, p1 = some a → (w.alloc (.cells #[.slice ao n ca, .bool false] 165)).heap.size ≤ a.block ∧ a.block < w1.heap.size) ∧ Tk w w.heap.size ra fa w1 ∧ But w.heap.size (w.alloc (.cells #[.slice ao n ca, .bool false] 165)) w1) from ⟨hp, hl, ht, hb⟩; clear hp hl ht hb))
      go_ret2
      exact ⟨_, _, rfl, H6.out.2.2.1.aft, fun _ => by rw [HC.out]; unfold readC; rw [if_pos (by rw [HM.out.1, HM.out.2.1, HM.out.2.2.1, HM.out.2.2.2]; have := qm4; simp; omega)], fun h => by cases h⟩
    subst qm4
    have hmk := fun W => make_ops W m1 (by omega)
    go_enter Tryz.func118, Tryz.ntmps118
    go_wp2_with (first
      | (go_at_call 135; have _u := H5.out; clear _u; refine Calls.mono (column_k G1 136 e53 G1_le HK1.out H5.out.2.2.1 HE6.out HM.out.2.2.2) ?_; rintro e w6 ⟨p6, c6, rfl, hp, hl, ht, hb⟩; obtain ⟨ao6, ca6, hr6, _⟩ := ht.ex; have d1 := hr6.cell (j := 1) rfl; clear hr6; have H6 := show Hid (IntsAt w6 p6 ly ∧ (∀ a, p6 = some a → w5.heap.size ≤ a.block ∧ a.block < w6.heap.size) ∧ Tk w w.heap.size ry false w6 ∧ But w.heap.size w5 w6) from ⟨hp, hl, ht, hb⟩; clear hp hl ht hb)
      | (go_at_call 135; have _u := H4.out; clear _u; refine Calls.mono (column_k G2 139 e56 G2_le HK2.out H4.out.2.2.1 HE5.out HM.out.2.2.1) ?_; rintro e w5 ⟨p5, c5, rfl, hp, hl, ht, hb⟩; have H5 := show Hid (IntsAt w5 p5 lp ∧ (∀ a, p5 = some a → w4.heap.size ≤ a.block ∧ a.block < w5.heap.size) ∧ Tk w w.heap.size rp fp w5 ∧ But w.heap.size w4 w5) from ⟨hp, hl, ht, hb⟩; clear hp hl ht hb)
      | (go_at_call 135; have _u := H3.out; clear _u; refine Calls.mono (column_k G1 136 e53 G1_le HK1.out H3.out.2.2.1 HE4.out HM.out.2.1) ?_; rintro e w4 ⟨p4, c4, rfl, hp, hl, ht, hb⟩; have H4 := show Hid (IntsAt w4 p4 lw ∧ (∀ a, p4 = some a → w3.heap.size ≤ a.block ∧ a.block < w4.heap.size) ∧ Tk w w.heap.size rw' fw w4 ∧ But w.heap.size w3 w4) from ⟨hp, hl, ht, hb⟩; clear hp hl ht hb)
      | (go_at_call 137; refine Calls.mono (texts_k 32 (by omega) (by omega) H2.out.1 nn (by omega) HE3.out) ?_; rintro e w3 ⟨g3, rfl, hr, hg, ht, hb⟩; have H3 := show Hid (RowIs w3 g3 9 (L.map fun s => .string (strOf s)) ∧ w2.heap.size ≤ g3 ∧ Tk w w.heap.size rt ft w3 ∧ But w.heap.size w2 w3) from ⟨hr, hg, ht, hb⟩; clear hr hg ht hb)
      | (go_at_call 138; refine Calls.mono (count_k H1.out.2.2.1 HE2.out) ?_; rintro e w2 ⟨rfl, ht, hb⟩; have H2 := show Hid (Tk w w.heap.size rc fc w2 ∧ But w.heap.size w1 w2) from ⟨ht, hb⟩; clear ht hb)
      | (go_at_call 135; refine Calls.mono (column_k G1 136 e53 G1_le HK1.out HT0.out HE1.out HM.out.1) ?_; rintro e w1 ⟨p1, c1, rfl, hp, hl, ht, hb⟩; have H1 := show Hid (IntsAt w1 p1 la ∧ (∀ a, p1 = some a → (w.alloc (.cells #[.slice ao n ca, .bool false] 165)).heap.size ≤ a.block ∧ a.block < w1.heap.size) ∧ Tk w w.heap.size ra fa w1 ∧ But w.heap.size (w.alloc (.cells #[.slice ao n ca, .bool false] 165)) w1) from ⟨hp, hl, ht, hb⟩; clear hp hl ht hb))
    have B26 := But.trans H3.out.2.2.2 (But.trans H4.out.2.2.2 (But.trans H5.out.2.2.2 H6.out.2.2.2))
    have HS1 : Hid (w.heap.size < w1.heap.size ∧ w1.heap.size ≤ w2.heap.size ∧ w2.heap.size ≤ w3.heap.size ∧ w3.heap.size ≤ w4.heap.size ∧ w4.heap.size ≤ w5.heap.size ∧ w5.heap.size ≤ w6.heap.size) := ⟨Nat.lt_of_lt_of_le HTB.out H1.out.2.2.2.size, H2.out.2.size, H3.out.2.2.2.size, H4.out.2.2.2.size, H5.out.2.2.2.size, H6.out.2.2.2.size⟩
    have HF1 : Hid (IntsAt w6 p1 la ∧ (∀ a, p1 = some a → a.block ≠ w.heap.size) ∧ (∀ a, p1 = some a → a.block < w6.heap.size)) := by
      have hb := But.trans H2.out.2 B26
      have h1 : ∀ a, p1 = some a → a.block ≠ w.heap.size := fun a ha => by have h1 := (H1.out.2.1 a ha).1; have h2 := HTB.out; omega
      exact ⟨ints_but H1.out.1 hb h1, h1, fun a ha => by have h1 := (H1.out.2.1 a ha).2; have h2 := HS1.out; omega⟩
    have HF3 : Hid (RowIs w6 g3 9 (L.map fun s => .string (strOf s)) ∧ g3 ≠ w.heap.size ∧ g3 < w6.heap.size) := by
      have h0 : g3 ≠ w.heap.size := by have h1 := H3.out.2.1; have h2 := HS1.out; omega
      have h3 := (But.trans H4.out.2.2.2 (But.trans H5.out.2.2.2 H6.out.2.2.2)).row H3.out.1 h0
      exact ⟨h3, h0, h3.lt⟩
    have HF4 : Hid (IntsAt w6 p4 lw ∧ (∀ a, p4 = some a → a.block ≠ w.heap.size) ∧ (∀ a, p4 = some a → a.block < w6.heap.size)) := by
      have h1 : ∀ a, p4 = some a → a.block ≠ w.heap.size := fun a ha => by have h1 := (H4.out.2.1 a ha).1; have h2 := HS1.out; omega
      exact ⟨ints_but H4.out.1 (But.trans H5.out.2.2.2 H6.out.2.2.2) h1, h1, fun a ha => by have h1 := (H4.out.2.1 a ha).2; have h2 := HS1.out; omega⟩
    have HF5 : Hid (IntsAt w6 p5 lp ∧ (∀ a, p5 = some a → a.block ≠ w.heap.size) ∧ (∀ a, p5 = some a → a.block < w6.heap.size)) := by
      have h1 : ∀ a, p5 = some a → a.block ≠ w.heap.size := fun a ha => by have h1 := (H5.out.2.1 a ha).1; have h2 := HS1.out; omega
      exact ⟨ints_but H5.out.1 H6.out.2.2.2 h1, h1, fun a ha => by have h1 := (H5.out.2.1 a ha).2; have h2 := HS1.out; omega⟩
    have HF6 : Hid (IntsAt w6 p6 ly ∧ (∀ a, p6 = some a → a.block ≠ w.heap.size) ∧ (∀ a, p6 = some a → a.block < w6.heap.size)) := by
      exact ⟨H6.out.1, fun a ha => by have h1 := (H6.out.2.1 a ha).1; have h2 := HS1.out; omega, fun a ha => (H6.out.2.1 a ha).2⟩
    obtain ⟨C, hC⟩ : ∃ C, (⟨la, L, lw, lp, ly, ry, false⟩ : Cols) = C := ⟨_, rfl⟩
    have HCC : Hid (C.ks = la ∧ C.nms = L ∧ C.ws = lw ∧ C.ps = lp ∧ C.ys = ly ∧ C.fl = false) := by rw [← hC]; exact ⟨rfl, rfl, rfl, rfl, rfl, rfl⟩
    have HI0 : Hid (RdI w w6 w.heap.size w6.heap.size m1 C 0 (w6.alloc (.cells (cellsOf (List.replicate m1 z0)).toArray 46))) := ⟨⟨⟨[], ry, false⟩, by rw [← hC]; rfl, rfl, RowIs.new w6 46 _, H6.out.2.2.1.after (after_alloc (After.refl w6) _)⟩, But.of_below (after_alloc (After.refl w6) _), rfl⟩
    rw [hC] at HC
    obtain ⟨g, hg⟩ : ∃ g, w6.heap.size = g := ⟨_, rfl⟩
    obtain ⟨w7, hw7⟩ : ∃ w7, w6.alloc (.cells (cellsOf (List.replicate m1 z0)).toArray 46) = w7 := ⟨_, rfl⟩
    have HG : Hid (w6.heap.size = g ∧ w.heap.size < g) := ⟨hg, by have := HS1.out; omega⟩
    rw [hw7, hg] at HI0
    rw [hw7, hg]
    clear hw7 hg hC hmk B26 H1 H2 H3 H4 H5 H6 HE1 HE2 HE3 HE4 HE5 HE6 HK1 HK2 HT0 HTB HS1 e53 e56 d1
    go_loopw [49] (fun vi wr => ∃ i : Nat, vi = .int .i64 (i : Int) ∧ i ≤ m1 ∧ Hid (RdI w w6 w.heap.size g m1 C i wr)) (fun vi _ => m1 - (intOf vi).toNat)
    case atStart => exact ⟨0, rfl, Nat.zero_le _, HI0.out⟩
    case round =>
      obtain ⟨i, rfl, hin, HI⟩ := hrel
      clear HI0
      obtain ⟨S, hS⟩ := HI.out.ex
      have HS := show Hid (stM C i = some S ∧ S.ops.length = i ∧ RowIs wr g 46 (cellsOf (S.ops ++ List.replicate (m1 - i) z0)) ∧ Tk w w.heap.size S.rest S.fl wr) from hS
      clear hS
      by_cases hlt : i < m1
      · have hii : (i : Int) < (m1 : Int) := by omega
        obtain ⟨b1, o1, hp1, hc1⟩ := ints_len (ints_but HF1.out.1 HI.out.but HF1.out.2.1) HM.out.1 hlt
        obtain ⟨b4, o4, hp4, hc4⟩ := ints_len (ints_but HF4.out.1 HI.out.but HF4.out.2.1) HM.out.2.1 hlt
        obtain ⟨b5, o5, hp5, hc5⟩ := ints_len (ints_but HF5.out.1 HI.out.but HF5.out.2.1) HM.out.2.2.1 hlt
        obtain ⟨b6, o6, hp6, hc6⟩ := ints_len (ints_but HF6.out.1 HI.out.but HF6.out.2.1) HM.out.2.2.2 hlt
        have HN1 : Hid (b1 ≠ g) := by have h1 := HF1.out.2.2 _ hp1; have h2 := HG.out.1; exact Nat.ne_of_lt (by rw [← h2]; exact h1)
        have HN5 : Hid (b5 ≠ g) := by have h1 := HF5.out.2.2 _ hp5; have h2 := HG.out.1; exact Nat.ne_of_lt (by rw [← h2]; exact h1)
        have HN6 : Hid (b6 ≠ g) := by have h1 := HF6.out.2.2 _ hp6; have h2 := HG.out.1; exact Nat.ne_of_lt (by rw [← h2]; exact h1)
        have HN3 : Hid (g3 ≠ g) := by have h1 := HF3.out.2.2; have h2 := HG.out.1; exact Nat.ne_of_lt (by rw [← h2]; exact h1)
        subst hp1 hp4 hp5 hp6
        obtain ⟨k, hk⟩ : ∃ k, la[i]?.getD 0 = k := ⟨_, rfl⟩
        obtain ⟨z, hz⟩ : ∃ z, lw[i]?.getD 0 = z := ⟨_, rfl⟩
        obtain ⟨p, hp⟩ : ∃ p, lp[i]?.getD 0 = p := ⟨_, rfl⟩
        obtain ⟨y, hy⟩ : ∃ y, ly[i]?.getD 0 = y := ⟨_, rfl⟩
        rw [hk] at hc1
        rw [hz] at hc4
        rw [hp] at hc5
        rw [hy] at hc6
        have HZ : Hid (C.ws[i]?.getD 0 = z ∧ C.nms.length = nn) := ⟨by rw [HCC.out.2.2.1]; exact hz, by rw [HCC.out.2.1]; exact HL.out⟩
        have HXX : Hid (∀ nm, L[z.toNat]?.getD [] = nm → opAt C i = ⟨k, nm, p, y, []⟩) := fun nm hnm => by
          unfold opAt
          rw [HCC.out.1, HCC.out.2.1, HCC.out.2.2.1, HCC.out.2.2.2.1, HCC.out.2.2.2.2.1, hk, hz, hp, hy, hnm]
        have OUT : Hid ((z < 0 ∨ (nn : Int) ≤ z) → readM bs = none) := fun h => by
          rw [HC.out]
          exact readC_none (n := m1) (by rw [HCC.out.1]; exact HM.out.1) (stM_none (stM_out HS.out.1 (by rw [HZ.out.1, HZ.out.2]; exact h)) m1 (by omega))
        clear hk hz hp hy
        by_cases hz0 : z < 0
        · go_wp2
          go_ret2
          exact ⟨_, _, rfl, HS.out.2.2.2.aft, fun _ => OUT.out (Or.inl hz0), fun h => by cases h⟩
        · by_cases hz1 : (nn : Int) ≤ z
          · have hz2 : z ≥ (nn : Int) := hz1
            go_wp2
            go_ret2
            exact ⟨_, _, rfl, HS.out.2.2.2.aft, fun _ => OUT.out (Or.inr hz1), fun h => by cases h⟩
          · have hz2 : ¬ z ≥ (nn : Int) := hz1
            have HZ0 : Hid (¬ (C.ws[i]?.getD 0 < 0 ∨ (C.nms.length : Int) ≤ C.ws[i]?.getD 0)) := fun h => by rw [HZ.out.1, HZ.out.2] at h; omega
            obtain ⟨zn, rfl⟩ : ∃ zn : Nat, z = (zn : Int) := ⟨z.toNat, by omega⟩
            have hzn : zn < nn := by omega
            obtain ⟨nm, hnm⟩ : ∃ nm, L[zn]?.getD [] = nm := ⟨_, rfl⟩
            have HX : Hid (opAt C i = ⟨k, nm, p, y, []⟩) := HXX.out nm (by rw [Int.toNat_natCast]; exact hnm)
            have HCN : Hid (wr.cell? ⟨g3, zn, none⟩ = some (.string (strOf nm))) := by
              have h1 := HI.out.but.row HF3.out.1 HF3.out.2.1
              refine h1.cell ?_
              rw [List.getElem?_map, List.getElem?_eq_getElem (by rw [HL.out]; exact hzn)]
              rw [List.getElem?_eq_getElem (by rw [HL.out]; exact hzn)] at hnm
              simp at hnm
              simp [hnm]
            have HC1 : Hid (wr.cell? ⟨b1, o1 + i, none⟩ = some (.int .i64 k)) := hc1
            have HC5 : Hid (wr.cell? ⟨b5, o5 + i, none⟩ = some (.int .i64 p)) := hc5
            have HC6 : Hid (wr.cell? ⟨b6, o6 + i, none⟩ = some (.int .i64 y)) := hc6
            clear hnm hc1 hc5 hc6
            go_wp2_with fail
            refine wp_region_noPanic ?_
            refine wp_region_held_drew (S := But g wr) (by kernel_rfl) ((But.refl g wr).drew) ?_
            intro hS0
            refine tk 0 64 (.slice (some ⟨g, 0, none⟩) m1 m1) (fuel := 20) rfl (by kernel_rfl) (by kernel_rfl) (by kernel_rfl) (by kernel_rfl) noPanic_false (by kernel_rfl) (fun _ _ => by kernel_rfl) hS0 ?_
            refine tk 1 65 (.int .i64 (i : Int)) (fuel := 19) rfl (by kernel_rfl) (by kernel_rfl) (by kernel_rfl) (by kernel_rfl) noPanic_false (by kernel_rfl) (fun _ _ => by kernel_rfl) hS0 ?_
            refine tk 2 66 (.slice (some ⟨b1, o1, none⟩) m1 c1) (fuel := 18) rfl (by kernel_rfl) (by kernel_rfl) (by kernel_rfl) (by kernel_rfl) noPanic_false (by kernel_rfl) (fun _ _ => by kernel_rfl) hS0 ?_
            refine tk 3 67 (.int .i64 (i : Int)) (fuel := 17) rfl (by kernel_rfl) (by kernel_rfl) (by kernel_rfl) (by kernel_rfl) noPanic_false (by kernel_rfl) (fun _ _ => by kernel_rfl) hS0 ?_
            refine tk 4 68 (.pointer (some ⟨b1, o1 + i, none⟩)) (fuel := 16) rfl (by kernel_rfl) (by kernel_rfl) (by kernel_rfl) (by kernel_rfl) noPanic_false (by kernel_rfl) (fun W _ => x_idx46 (x := .tmp 66) (y := .tmp 67) (b := b1) (p := o1) (n := m1) (c := c1) (j := i) (by kernel_rfl) (by kernel_rfl) (by kernel_rfl) hlt) hS0 ?_
            refine tk 5 69 (.int .i64 k) (fuel := 15) rfl (by kernel_rfl) (by kernel_rfl) (by kernel_rfl) (by kernel_rfl) noPanic_false (by kernel_rfl) (fun W hW => x_load2 (x := .tmp 68) (g := b1) (p := o1 + i) (z := k) (by kernel_rfl) (by kernel_rfl) (hW.cell (p := ⟨b1, o1 + i, none⟩) HN1.out HC1.out)) hS0 ?_
            refine tk 6 70 (.slice (some ⟨g3, 0, none⟩) nn nn) (fuel := 14) rfl (by kernel_rfl) (by kernel_rfl) (by kernel_rfl) (by kernel_rfl) noPanic_false (by kernel_rfl) (fun _ _ => by kernel_rfl) hS0 ?_
            refine tk 7 71 (.int .i64 (zn : Int)) (fuel := 13) rfl (by kernel_rfl) (by kernel_rfl) (by kernel_rfl) (by kernel_rfl) noPanic_false (by kernel_rfl) (fun _ _ => by kernel_rfl) hS0 ?_
            refine tk 8 72 (.pointer (some ⟨g3, zn, none⟩)) (fuel := 12) rfl (by kernel_rfl) (by kernel_rfl) (by kernel_rfl) (by kernel_rfl) noPanic_false (by kernel_rfl) (fun W _ => x_idx45z (x := .tmp 70) (y := .tmp 71) (b := g3) (n := nn) (c := nn) (j := zn) (by kernel_rfl) (by kernel_rfl) (by kernel_rfl) hzn) hS0 ?_
            refine tk 9 73 (.string (strOf nm)) (fuel := 11) rfl (by kernel_rfl) (by kernel_rfl) (by kernel_rfl) (by kernel_rfl) noPanic_false (by kernel_rfl) (fun W hW => x_loadT (x := .tmp 72) (t := 9) (g := g3) (j := zn) Tryz.underlying9 rfl (by kernel_rfl) (by kernel_rfl) (hW.cell (p := ⟨g3, zn, none⟩) HN3.out HCN.out)) hS0 ?_
            refine tk 10 74 (.slice (some ⟨b5, o5, none⟩) m1 c5) (fuel := 10) rfl (by kernel_rfl) (by kernel_rfl) (by kernel_rfl) (by kernel_rfl) noPanic_false (by kernel_rfl) (fun _ _ => by kernel_rfl) hS0 ?_
            refine tk 11 75 (.int .i64 (i : Int)) (fuel := 9) rfl (by kernel_rfl) (by kernel_rfl) (by kernel_rfl) (by kernel_rfl) noPanic_false (by kernel_rfl) (fun _ _ => by kernel_rfl) hS0 ?_
            refine tk 12 76 (.pointer (some ⟨b5, o5 + i, none⟩)) (fuel := 8) rfl (by kernel_rfl) (by kernel_rfl) (by kernel_rfl) (by kernel_rfl) noPanic_false (by kernel_rfl) (fun W _ => x_idx46 (x := .tmp 74) (y := .tmp 75) (b := b5) (p := o5) (n := m1) (c := c5) (j := i) (by kernel_rfl) (by kernel_rfl) (by kernel_rfl) hlt) hS0 ?_
            refine tk 13 77 (.int .i64 p) (fuel := 7) rfl (by kernel_rfl) (by kernel_rfl) (by kernel_rfl) (by kernel_rfl) noPanic_false (by kernel_rfl) (fun W hW => x_load2 (x := .tmp 76) (g := b5) (p := o5 + i) (z := p) (by kernel_rfl) (by kernel_rfl) (hW.cell (p := ⟨b5, o5 + i, none⟩) HN5.out HC5.out)) hS0 ?_
            refine tk 14 78 (.slice (some ⟨b6, o6, none⟩) m1 c6) (fuel := 6) rfl (by kernel_rfl) (by kernel_rfl) (by kernel_rfl) (by kernel_rfl) noPanic_false (by kernel_rfl) (fun _ _ => by kernel_rfl) hS0 ?_
            refine tk 15 79 (.int .i64 (i : Int)) (fuel := 5) rfl (by kernel_rfl) (by kernel_rfl) (by kernel_rfl) (by kernel_rfl) noPanic_false (by kernel_rfl) (fun _ _ => by kernel_rfl) hS0 ?_
            refine tk 16 80 (.pointer (some ⟨b6, o6 + i, none⟩)) (fuel := 4) rfl (by kernel_rfl) (by kernel_rfl) (by kernel_rfl) (by kernel_rfl) noPanic_false (by kernel_rfl) (fun W _ => x_idx46 (x := .tmp 78) (y := .tmp 79) (b := b6) (p := o6) (n := m1) (c := c6) (j := i) (by kernel_rfl) (by kernel_rfl) (by kernel_rfl) hlt) hS0 ?_
            refine tk 17 81 (.int .i64 y) (fuel := 3) rfl (by kernel_rfl) (by kernel_rfl) (by kernel_rfl) (by kernel_rfl) noPanic_false (by kernel_rfl) (fun W hW => x_load2 (x := .tmp 80) (g := b6) (p := o6 + i) (z := y) (by kernel_rfl) (by kernel_rfl) (hW.cell (p := ⟨b6, o6 + i, none⟩) HN6.out HC6.out)) hS0 ?_
            refine tk 18 82 (.agg #[.int .i64 k, .string (strOf nm), .int .i64 p, .int .i64 y, .string ⟨#[]⟩]) (fuel := 2) rfl (by kernel_rfl) (by kernel_rfl) (by kernel_rfl) (by kernel_rfl) noPanic_false (by kernel_rfl) (fun _ _ => by kernel_rfl) hS0 ?_
            refine tk 19 83 (.pointer (some ⟨g, i * 5, none⟩)) (fuel := 1) rfl (by kernel_rfl) (by kernel_rfl) (by kernel_rfl) (by kernel_rfl) noPanic_false (by kernel_rfl) (fun W _ => x_idx29 (x := .tmp 64) (y := .tmp 65) (b := g) (n := m1) (c := m1) (j := i) (by kernel_rfl) (by kernel_rfl) (by kernel_rfl) hlt) hS0 ?_
            refine tkStoreM 20 46 (.tmp 83) (.tmp 82) g (i * 5) #[.int .i64 k, .string (strOf nm), .int .i64 p, .int .i64 y, .string ⟨#[]⟩] (fuel := 0) rfl rfl rfl (by kernel_rfl) (by kernel_rfl) (by kernel_rfl) (by kernel_rfl) (there_row (HS.out.2.2.1.drew) (by rw [List.length_append, HS.out.2.1, List.length_replicate]; omega)) size23 (by kernel_rfl) (But.setCells _ _ hS0) ?_
            refine wpAnyH_done (by kernel_rfl) (NoPanic.normal ?_) _
            obtain ⟨W5, hW5⟩ : ∃ W5, wr.drew.setCells g (i * 5) (#[.int .i64 k, .string (strOf nm), .int .i64 p, .int .i64 y, .string ⟨#[]⟩] : Array Value).toList = W5 := ⟨_, rfl⟩
            have H5 : Hid (RowIs W5 g 46 (cellsOf (S.ops ++ [⟨k, nm, p, y, []⟩] ++ List.replicate (m1 - (i + 1)) z0)) ∧ Tk w w.heap.size S.rest S.fl W5 ∧ But w.heap.size w6 W5) := by
              have hb : But g wr W5 := by rw [← hW5]; exact But.setCells _ _ hS0
              exact ⟨by rw [← hW5]; exact stored_row HS.out.2.2.1 HS.out.2.1 hlt ⟨k, nm, p, y, []⟩, HS.out.2.2.2.but hb (Nat.ne_of_gt HG.out.2) (Nat.le_of_lt HG.out.2), HI.out.but.over hb (Nat.le_of_eq HG.out.1)⟩
            rw [hW5]
            clear hW5 hS0
            have HAT : Hid ((S.ops ++ [⟨k, nm, p, y, []⟩] ++ List.replicate (m1 - (i + 1)) z0)[i]? = some ⟨k, nm, p, y, []⟩) := by
              show _ = _
              rw [List.append_assoc, List.getElem?_append_right (by rw [HS.out.2.1]; exact Nat.le_refl _), HS.out.2.1, Nat.sub_self]
              rfl
            have c5 : W5.cell? ⟨g, i * 5, none⟩ = some (.int .i64 k) := H5.out.1.cell (by rw [show i * 5 = i * 5 + 0 from rfl, cellsOf_at _ i 0 _ HAT.out (by omega)]; rfl)
            cases ht : (decide (k = 1) || decide (k = 4)) with
            | false =>
              have HT : Hid (hasT ⟨k, nm, p, y, []⟩ = false) := ht
              go_simp
              go_wp2_with (go_at_call 105; refine Calls.mono (hasText_any k _) ?_; rintro e wq ⟨rfl, hwq⟩; rw [ht]; have hwp := hwq.symm; clear hwq; subst hwp)
              go_roundw
              case rel => exact ⟨i + 1, by go_num, by omega, ⟨_, stM_plain HS.out.1 HZ0.out HX.out HT.out, by simp [HS.out.2.1], H5.out.1, H5.out.2.1⟩, H5.out.2.2, HI.out.new⟩
              case measure => simp [intOf]; omega
            | true =>
              have HT : Hid (hasT ⟨k, nm, p, y, []⟩ = true) := ht
              obtain ⟨⟨tx, rx, fx⟩, htx⟩ : ∃ q, textM 1024 S.rest S.fl = q := ⟨_, rfl⟩
              have HTX : Hid (textM 1024 S.rest S.fl = (tx, rx, fx)) := htx
              clear htx
              go_simp
              go_wp2_with (first
                | (go_at_call 105; refine Calls.mono (hasText_any k _) ?_; rintro e wq ⟨rfl, hwq⟩; rw [ht]; have hwp := hwq.symm; clear hwq; subst hwp)
                | (go_at_call 140; refine Calls.mono (ttext_k H5.out.2.1 HTX.out) ?_; rintro e w8 ⟨rfl, ht8, hb8⟩; have hr8 := hb8.row H5.out.1 (Nat.ne_of_gt HG.out.2); have H8 := show Hid (Tk w w.heap.size rx fx w8 ∧ But w.heap.size W5 w8 ∧ RowIs w8 g 46 (cellsOf (S.ops ++ [⟨k, nm, p, y, []⟩] ++ List.replicate (m1 - (i + 1)) z0))) from ⟨ht8, hb8, hr8⟩; have d4 : w8.cell? ⟨g, i * 5 + 4, none⟩ = some (.string (strOf [])) := hr8.cell (by rw [cellsOf_at _ i 4 _ HAT.out (by omega)]; rfl); have g4 := hr8.frozen (i * 5 + 4); clear ht8 hb8 hr8))
              go_roundw
              case rel =>
                have hb9 : But g w8 (w8.setCell ⟨g, i * 5 + 4, none⟩ (.string (strOf tx))) := (But.refl g w8).setCell _ _
                have hr9 := H8.out.2.2.set (i * 5 + 4) (.string (strOf tx))
                rw [cellsOf_text _ i _ tx HAT.out, fill_text HS.out.2.1] at hr9
                exact ⟨i + 1, by go_num, by omega, ⟨_, stM_text HS.out.1 HZ0.out HX.out HT.out HTX.out, by simp [HS.out.2.1], hr9, H8.out.1.but hb9 (Nat.ne_of_gt HG.out.2) (Nat.le_of_lt HG.out.2)⟩, (But.trans H5.out.2.2 H8.out.2.1).over hb9 (Nat.le_of_eq HG.out.1), HI.out.new⟩
              case measure => simp [intOf]; omega
      · obtain rfl : i = m1 := by omega
        have hii : ¬ (i : Int) < (i : Int) := by omega
        have HE : Hid (readM bs = if S.fl = true then none else some S.ops) := by
          rw [HC.out]
          exact readC_some (by rw [HCC.out.1]; exact HM.out.1) (by rw [HCC.out.2.2.1]; exact HM.out.2.1) (by rw [HCC.out.2.2.2.1]; exact HM.out.2.2.1) (by rw [HCC.out.2.2.2.2.1]; exact HM.out.2.2.2) HCC.out.2.2.2.2.2 HS.out.1
        have HRW : Hid (RowIs wr g 46 (cellsOf S.ops)) := by
          have := HS.out.2.2.1
          rw [Nat.sub_self, List.replicate_zero, List.append_nil] at this
          exact this
        obtain ⟨aoS, caS, hrS, _⟩ := HS.out.2.2.2.ex
        have d1 := hrS.cell (j := 1) rfl
        clear hrS
        cases hf : S.fl with
        | true =>
          rw [hf] at d1
          go_wp2_with fail
          go_region
          go_wp2
          go_ret2
          exact ⟨_, _, rfl, After.drew HS.out.2.2.2.aft, fun _ => by rw [HE.out, hf]; rfl, fun h => by cases h⟩
        | false =>
          rw [hf] at d1
          go_wp2_with fail
          go_region
          go_wp2
          go_ret2
          exact ⟨_, _, rfl, After.drew HS.out.2.2.2.aft, (fun h => by cases h), fun _ => ⟨S.ops, g, by rw [HE.out, hf]; rfl, by rw [HS.out.2.1]; rfl, ops_of_row HRW.out.drew, by rw [HS.out.2.1]; exact h1m, Nat.le_of_lt HG.out.2, HRW.out.drew⟩⟩
end Go.Proofs.YtgmdolpjkaajfaaGreatDoor
namespace Go.Proofs.YtgmdolpjkaajfaaGreatDoor
open Go.RowKit Leb
abbrev Int64s (l : List Int) : Prop := ∀ x ∈ l, -9223372036854775808 ≤ x ∧ x ≤ 9223372036854775807
theorem col1_back (l : List Int) (t : List UInt8) (hl : Int64s l) (hn : l.length ≤ 256) : colM G1 (runsB l ++ t) false = (l, t, false) := by
  have h := getR_back l t 256 hl (by simpa [clampM] using hn)
  unfold colM G1
  rw [h]
  simp
theorem col2_back (l : List Int) (t : List UInt8) (hl : Int64s l) (hn : l.length ≤ 256) : colM G2 (runsB (diffs l) ++ t) false = (l, t, false) := by
  have h := getR_back (diffs l) t 256 (diffs_int l) (by rw [diffs_len]; simpa [clampM] using hn)
  unfold colM G2
  rw [h]
  simp [dsums_diffs l hl]
theorem count_back (n : Nat) (t : List UInt8) (hn : n ≤ 256) : countM (uintB n ++ t) false = (n, t, false) := by
  obtain ⟨h1, h2, h3⟩ := gu_back n t (by omega)
  unfold countM
  rw [h1, h2, h3]
  have : ¬ 256 < n := by omega
  simp [this]
theorem text_back (most : Int) (s t : List UInt8) (hs : s.length ≤ 100000) (hm : (s.length : Int) ≤ most) : textM most (textB s ++ t) false = (s, t, false) := by
  obtain ⟨h1, h2, h3⟩ := gt_back s t most (by omega) hm
  unfold textM
  rw [h1, h2, h3]
  simp
theorem texts_back : ∀ (N : List (List UInt8)) (t : List UInt8), (∀ y ∈ N, y.length ≤ 32) → textsM 32 N.length (namesB N ++ t) false = (N, t, false)
  | [], t, _ => by simp [namesB, textsM]
  | y :: N, t, h => by
    have hy := h y (by simp)
    have e : namesB (y :: N) ++ t = textB y ++ (namesB N ++ t) := by simp [namesB]
    have hb := text_back 32 y (namesB N ++ t) (by omega) (by omega)
    have ih := texts_back N t (fun z hz => h z (by simp [hz]))
    rw [e, List.length_cons]
    unfold textsM
    simp only [hb, ih]
/-- Operations that may be. -/
structure Good (l : List Opn) : Prop where
  few : l.length ≤ 256
  ok : ∀ x ∈ l, x.Ok
  may : ∀ x ∈ l, mayB x = true
theorem Good.name {l : List Opn} (h : Good l) {x : Opn} (hx : x ∈ l) : x.name.length ≤ 32 := by
  have h1 := h.may x hx
  unfold mayB nmB at h1
  simp only [Bool.and_eq_true, decide_eq_true_eq] at h1
  omega
theorem Good.text {l : List Opn} (h : Good l) {x : Opn} (hx : x ∈ l) : x.text.length ≤ 1024 := by
  have h1 := h.may x hx
  unfold mayB fitsB at h1
  grind
theorem Good.none {l : List Opn} (h : Good l) {x : Opn} (hx : x ∈ l) (ht : hasT x = false) : x.text = [] := by
  have h1 := h.may x hx
  unfold mayB fitsB at h1
  unfold hasT at ht
  apply List.eq_nil_of_length_eq_zero
  grind
def colsOf (l : List Opn) (t : List UInt8) : Cols := ⟨l.map (·.kind), firsts l, whichs (firsts l) l, l.map (·.pos), l.map (·.by_), textsB l ++ t, false⟩
theorem cols_back {l : List Opn} (h : Good l) (t : List UInt8) : colsM (layB l ++ t) = colsOf l t := by
  have e : layB l ++ t = runsB (l.map (·.kind)) ++ (uintB (firsts l).length ++ (namesB (firsts l) ++ (runsB (whichs (firsts l) l) ++ (runsB (diffs (l.map (·.pos))) ++ (runsB (l.map (·.by_)) ++ (textsB l ++ t)))))) := by simp [layB, layNB]
  have hf := firsts_len l
  have hn := h.few
  have h1 := col1_back (l.map (·.kind)) (uintB (firsts l).length ++ (namesB (firsts l) ++ (runsB (whichs (firsts l) l) ++ (runsB (diffs (l.map (·.pos))) ++ (runsB (l.map (·.by_)) ++ (textsB l ++ t)))))) (fun z hz => by obtain ⟨x, hx, rfl⟩ := List.mem_map.1 hz; exact ⟨(h.ok x hx).k0, (h.ok x hx).k1⟩) (by simpa using hn)
  have h2 := count_back (firsts l).length (namesB (firsts l) ++ (runsB (whichs (firsts l) l) ++ (runsB (diffs (l.map (·.pos))) ++ (runsB (l.map (·.by_)) ++ (textsB l ++ t))))) (by omega)
  have h3 := texts_back (firsts l) (runsB (whichs (firsts l) l) ++ (runsB (diffs (l.map (·.pos))) ++ (runsB (l.map (·.by_)) ++ (textsB l ++ t)))) (fun y hy => by obtain ⟨x, hx, rfl⟩ := (mem_firsts l y).1 hy; exact h.name hx)
  have h4 := col1_back (whichs (firsts l) l) (runsB (diffs (l.map (·.pos))) ++ (runsB (l.map (·.by_)) ++ (textsB l ++ t))) (whichs_int _ _ (by omega)) (by simpa [whichs] using hn)
  have h5 := col2_back (l.map (·.pos)) (runsB (l.map (·.by_)) ++ (textsB l ++ t)) (fun z hz => by obtain ⟨x, hx, rfl⟩ := List.mem_map.1 hz; exact ⟨(h.ok x hx).p0, (h.ok x hx).p1⟩) (by simpa using hn)
  have h6 := col1_back (l.map (·.by_)) (textsB l ++ t) (fun z hz => by obtain ⟨x, hx, rfl⟩ := List.mem_map.1 hz; exact ⟨(h.ok x hx).b0, (h.ok x hx).b1⟩) (by simpa using hn)
  unfold colsM colsOf
  rw [e]
  simp only [h1, h2, h3, h4, h5, h6]
theorem textsB_cons (x : Opn) (l : List Opn) : textsB (x :: l) = (if hasT x = true then textB x.text else []) ++ textsB l := by simp [textsB]
theorem opAt_back {l : List Opn} (t : List UInt8) {i : Nat} {x : Opn} (hx : l[i]? = some x) : opAt (colsOf l t) i = { x with text := [] } := by
  have hm : x.name ∈ firsts l := (mem_firsts l x.name).2 ⟨x, List.mem_of_getElem? hx, rfl⟩
  have hi := List.idxOf_lt_length_of_mem hm
  have hg : (firsts l)[(firsts l).idxOf x.name]? = some x.name := by rw [List.getElem?_eq_getElem hi, List.getElem_idxOf hi]
  unfold opAt colsOf whichs
  simp [hx, hg]
theorem st_back {l : List Opn} (h : Good l) (t : List UInt8) : ∀ i, i ≤ l.length → stM (colsOf l t) i = some ⟨l.take i, textsB (l.drop i) ++ t, false⟩
  | 0, _ => rfl
  | i + 1, hi => by
    have ih := st_back h t i (by omega)
    obtain ⟨x, hx⟩ : ∃ x, l[i]? = some x := ⟨_, List.getElem?_eq_getElem (by omega)⟩
    have hmx := List.mem_of_getElem? hx
    have hm : x.name ∈ firsts l := (mem_firsts l x.name).2 ⟨x, hmx, rfl⟩
    have hlt := List.idxOf_lt_length_of_mem hm
    have hw : (colsOf l t).ws[i]?.getD 0 = ((firsts l).idxOf x.name : Int) := by unfold colsOf whichs; simp [hx]
    have hz : ¬ ((colsOf l t).ws[i]?.getD 0 < 0 ∨ ((colsOf l t).nms.length : Int) ≤ (colsOf l t).ws[i]?.getD 0) := by
      rw [hw]
      show ¬ (_ ∨ ((firsts l).length : Int) ≤ _)
      omega
    have ho := opAt_back t hx
    have hd : l.drop i = x :: l.drop (i + 1) := by
      have hil : i < l.length := by omega
      rw [List.drop_eq_getElem_cons hil]
      rw [List.getElem?_eq_getElem hil] at hx
      simp at hx
      rw [hx]
    have hk : l.take (i + 1) = l.take i ++ [x] := by rw [List.take_add_one, hx]; rfl
    cases ht : hasT x with
    | false =>
      have he := h.none hmx ht
      have hxe : ({ x with text := [] } : Opn) = x := by cases x; simp_all
      rw [hxe] at ho
      rw [stM_plain ih hz ho ht, hd, textsB_cons, ht, hk]
      simp
    | true =>
      have ht' : hasT { x with text := [] } = true := ht
      have hb := text_back 1024 x.text (textsB (l.drop (i + 1)) ++ t) (by have := h.text hmx; omega) (by have := h.text hmx; omega)
      have he : textM 1024 (textsB (l.drop i) ++ t) false = (x.text, textsB (l.drop (i + 1)) ++ t, false) := by
        rw [hd, textsB_cons, ht, if_pos rfl, List.append_assoc]
        exact hb
      rw [stM_text ih hz ho ht' he, hk]
theorem read_back {l : List Opn} (h : Good l) (t : List UInt8) : readM (layB l ++ t) = some l := by
  unfold readM
  rw [cols_back h t, readC_some (n := l.length) (S := ⟨l, t, false⟩) (by simp [colsOf]) (by simp [colsOf, whichs]) (by simp [colsOf]) (by simp [colsOf]) rfl (by rw [st_back h t _ (Nat.le_refl _)]; simp [textsB])]
  rfl
theorem good_iff {l : List Opn} (hok : ∀ x ∈ l, x.Ok) : putE l = 0 ↔ Good l := by
  unfold putE
  constructor
  · intro h
    split at h
    · omega
    · split at h
      · rename_i h1 h2
        exact ⟨by omega, hok, fun x hx => List.all_eq_true.1 h2 x hx⟩
      · omega
  · intro h
    rw [if_neg (by have := h.few; omega), if_pos (List.all_eq_true.2 h.may)]
theorem wrap64_int (z : Int) : -9223372036854775808 ≤ RowKit.wrap64 z ∧ RowKit.wrap64 z ≤ 9223372036854775807 := by unfold RowKit.wrap64; omega
theorem dsums_int (l : List Int) (hl : Int64s l) : Int64s (dsums l) := fun z hz => by
  obtain ⟨j, hj, rfl⟩ := List.mem_map.1 hz
  cases j with
  | zero =>
    show -9223372036854775808 ≤ l[0]?.getD 0 ∧ l[0]?.getD 0 ≤ 9223372036854775807
    cases l with
    | nil => simp
    | cons a r => simpa using hl a (by simp)
  | succ j => exact wrap64_int _
theorem colM1_int (bs : List UInt8) (fl : Bool) : Int64s (colM G1 bs fl).1 := by
  unfold colM
  split
  · intro z hz; simp at hz
  · exact getR_int bs 256
theorem colM2_int (bs : List UInt8) (fl : Bool) : Int64s (colM G2 bs fl).1 := by
  unfold colM
  split
  · intro z hz; simp at hz
  · exact dsums_int _ (getR_int bs 256)
theorem colM_rest (G : List UInt8 → List Int × Nat × Nat) (bs : List UInt8) (fl : Bool) : (colM G bs fl).2.1.length ≤ bs.length := by
  unfold colM
  split <;> simp
theorem countM_rest (bs : List UInt8) (fl : Bool) : (countM bs fl).2.1.length ≤ bs.length := by
  unfold countM
  split
  · simp
  · split <;> simp
theorem textM_len (most : Int) (bs : List UInt8) (fl : Bool) : (textM most bs fl).1.length ≤ bs.length ∧ (textM most bs fl).2.1.length ≤ bs.length := by
  unfold textM
  split
  · simp
  · refine ⟨?_, by simp⟩
    show (gtS bs most).length ≤ bs.length
    unfold gtS
    split
    · rw [List.length_take, List.length_drop]; omega
    · simp
theorem textsM_lens (most : Int) : ∀ (n : Nat) (bs : List UInt8) (fl : Bool), (∀ s ∈ (textsM most n bs fl).1, s.length ≤ bs.length) ∧ (textsM most n bs fl).2.1.length ≤ bs.length
  | 0, bs, fl => by simp [textsM]
  | n + 1, bs, fl => by
    have h1 := textM_len most bs fl
    have h2 := textsM_lens most n (textM most bs fl).2.1 (textM most bs fl).2.2
    refine ⟨fun s hs => ?_, ?_⟩
    · have hs' : s ∈ (textM most bs fl).1 :: (textsM most n (textM most bs fl).2.1 (textM most bs fl).2.2).1 := hs
      rcases List.mem_cons.1 hs' with rfl | hs
      · exact h1.1
      · have := h2.1 s hs; omega
    · show (textsM most n (textM most bs fl).2.1 (textM most bs fl).2.2).2.1.length ≤ bs.length
      omega
structure COk (C : Cols) : Prop where
  ks : Int64s C.ks
  ps : Int64s C.ps
  ys : Int64s C.ys
  nms : ∀ s ∈ C.nms, s.length ≤ maxLen
  rest : C.rest.length ≤ maxLen
theorem colsM_ok (bs : List UInt8) (hb : bs.length ≤ maxLen) : COk (colsM bs) := by
  have h1 := colM_rest G1 bs false
  have h2 := countM_rest (colM G1 bs false).2.1 (colM G1 bs false).2.2
  have h3 := textsM_lens 32 (countM (colM G1 bs false).2.1 (colM G1 bs false).2.2).1 (countM (colM G1 bs false).2.1 (colM G1 bs false).2.2).2.1 (countM (colM G1 bs false).2.1 (colM G1 bs false).2.2).2.2
  unfold colsM
  refine ⟨colM1_int _ _, colM2_int _ _, colM1_int _ _, fun s hs => ?_, ?_⟩
  · have := h3.1 s hs
    omega
  · refine Nat.le_trans (colM_rest G1 _ _) (Nat.le_trans (colM_rest G2 _ _) (Nat.le_trans (colM_rest G1 _ _) ?_))
    omega
theorem getD_int {l : List Int} (h : Int64s l) (i : Nat) : -9223372036854775808 ≤ l[i]?.getD 0 ∧ l[i]?.getD 0 ≤ 9223372036854775807 := by
  cases e : l[i]? with
  | none => simp
  | some z => exact h z (List.mem_of_getElem? e)
theorem opAt_ok {C : Cols} (h : COk C) (i : Nat) (s : List UInt8) (hs : s.length ≤ maxLen) : Opn.Ok { opAt C i with text := s } := by
  refine ⟨(getD_int h.ks i).1, (getD_int h.ks i).2, (getD_int h.ps i).1, (getD_int h.ps i).2, (getD_int h.ys i).1, (getD_int h.ys i).2, ?_, hs⟩
  show (C.nms[(C.ws[i]?.getD 0).toNat]?.getD []).length ≤ maxLen
  cases e : C.nms[(C.ws[i]?.getD 0).toNat]? with
  | none => simp
  | some z => exact h.nms z (List.mem_of_getElem? e)
theorem stM_ok {C : Cols} (h : COk C) : ∀ (i : Nat) (S : RdS), stM C i = some S → (∀ x ∈ S.ops, x.Ok) ∧ S.rest.length ≤ maxLen
  | 0, S, e => by
    have e' : some (⟨[], C.rest, false⟩ : RdS) = some S := e
    cases e'
    exact ⟨fun x hx => by simp at hx, h.rest⟩
  | i + 1, S, e => by
    have e' : (stM C i).bind (stepM C i) = some S := e
    cases hs : stM C i with
    | none => rw [hs] at e'; cases e'
    | some T =>
      rw [hs] at e'
      have e2 : stepM C i T = some S := e'
      obtain ⟨ih1, ih2⟩ := stM_ok h i T hs
      unfold stepM at e2
      split at e2
      · cases e2
      · split at e2
        · have ht := textM_len 1024 T.rest T.fl
          cases e2
          refine ⟨fun x hx => ?_, ?_⟩
          · rcases List.mem_append.1 hx with hx | hx
            · exact ih1 x hx
            · simp only [List.mem_singleton] at hx
              rw [hx]
              exact opAt_ok h i _ (by omega)
          · show (textM 1024 T.rest T.fl).2.1.length ≤ maxLen
            omega
        · cases e2
          refine ⟨fun x hx => ?_, ih2⟩
          rcases List.mem_append.1 hx with hx | hx
          · exact ih1 x hx
          · simp only [List.mem_singleton] at hx
            rw [hx]
            exact opAt_ok h i [] (by simp)
theorem readM_ok {bs : List UInt8} {l : List Opn} (hb : bs.length ≤ maxLen) (h : readM bs = some l) : ∀ x ∈ l, x.Ok := by
  unfold readM readC at h
  split at h
  · cases h
  · cases hs : stM (colsM bs) (colsM bs).ks.length with
    | none => rw [hs] at h; cases h
    | some S =>
      rw [hs] at h
      have h2 : (if S.fl = true then none else some S.ops) = some l := h
      split at h2
      · cases h2
      · cases h2
        exact (stM_ok (colsM_ok bs hb) _ S hs).1
end Go.Proofs.YtgmdolpjkaajfaaGreatDoor
namespace Go.Proofs.YtgmdolpjkaajfaaGreatDoor
open Go.RowKit Leb
/-- What Get tells. -/
def getM (bs : List UInt8) : Option (List Opn) := (readM bs).bind fun l => if putE l = 0 ∧ layB l = bs then some l else none
def GetPost (w : World) (R : Option (List Opn)) (e : Ending) (w' : World) : Prop :=
  ∃ v q, e = .returned (.tuple #[v, .int .i64 q]) ∧ After w w' ∧ (R = none → v = .slice none 0 0 ∧ q = 4) ∧ (∀ l, R = some l → q = 0 ∧ l.length ≤ 256 ∧ ∃ g, v = .slice (some ⟨g, 0, none⟩) l.length l.length ∧ OpsAt w' (some ⟨g, 0, none⟩) l ∧ w.heap.size ≤ g ∧ RowIs w' g 46 (cellsOf l))
theorem rd_none {w w' : World} {e : Ending} (h : RdPost w none e w') : ∃ v, e = .returned (.tuple #[v, .bool false]) ∧ After w w' := by
  obtain ⟨v, ok, he, ha, _, h1⟩ := h
  cases ok with
  | false => exact ⟨v, he, ha⟩
  | true => obtain ⟨l, g, e2, _⟩ := h1 rfl; cases e2
theorem rd_some {w w' : World} {e : Ending} {l : List Opn} {m : Nat} (h : RdPost w (some l) e w') (hm : l.length = m) : ∃ g, e = .returned (.tuple #[.slice (some ⟨g, 0, none⟩) m m, .bool true]) ∧ After w w' ∧ OpsAt w' (some ⟨g, 0, none⟩) l ∧ m ≤ 65536 ∧ w.heap.size ≤ g ∧ RowIs w' g 46 (cellsOf l) := by
  obtain ⟨v, ok, he, ha, h0, h1⟩ := h
  cases ok with
  | false => have := h0 rfl; cases this
  | true =>
    obtain ⟨l1, g, e2, hv, hA, hl, hgz, hgr⟩ := h1 rfl
    cases e2
    rw [hm] at hv hl
    exact ⟨g, by rw [he, hv], ha, hA, hl, hgz, hgr⟩
theorem put_k (ao : Option Addr) (n ca : Nat) (l : List Opn) (hl : l.length = n) (hok : ∀ x ∈ l, x.Ok) (hbig : n ≤ 1152921504606846976) (w : World) (hA : OpsAt w ao l) {q : Nat} {B : List UInt8} (hq : putE l = q) (hB : putBs l = B) :
    Calls Tryz.prog 42 #[.slice ao n ca] w fun e w' => ∃ v, e = .returned (.tuple #[v, .int .i64 (q : Int)]) ∧ Own w' w.heap.size v B ∧ After w w' := by
  have h := put_any ao n ca l hl hok hbig w hA
  rw [hq, hB] at h
  exact h
set_option maxRecDepth 100000 in
set_option maxHeartbeats 1200000 in
theorem get_any (ao : Option Addr) (n ca : Nat) (bs : List UInt8) (hn : bs.length = n) (hca : n ≤ ca) (hz : ao = none → n = 0) (hbig : n ≤ 140737488355328) (w : World) (hat : BytesAt w ao bs) :
    Calls Tryz.prog 79 #[.slice ao n ca] w (GetPost w (getM bs)) := by
  have HC := show Hid _ from readOps_any ao n ca bs hn hca hz hbig w hat
  have HAT : Hid (BytesAt w ao bs ∧ bs.length = n ∧ n ≤ 140737488355328) := ⟨hat, hn, hbig⟩
  clear hn hca hz hat
  cases hR : readM bs with
  | none =>
    rw [hR] at HC
    have HG : Hid (getM bs = none) := by show getM bs = none; unfold getM; rw [hR]; rfl
    clear hR
    go_enter Tryz.func79, Tryz.ntmps79
    go_wp2_with (go_at_call 118; refine Calls.mono HC.out ?_; intro e w1 hpost; obtain ⟨v1, rfl, ha⟩ := rd_none hpost; have H1 := show Hid (After w w1) from ha; clear ha hpost)
    go_ret2
    exact ⟨_, _, rfl, H1.out, fun _ => ⟨rfl, rfl⟩, fun l e => by rw [HG.out] at e; cases e⟩
  | some l =>
    rw [hR] at HC
    have HOK : Hid (∀ x ∈ l, x.Ok) := readM_ok (by rw [HAT.out.2.1]; unfold maxLen; omega) hR
    have HG : Hid (getM bs = if putE l = 0 ∧ layB l = bs then some l else none) := by show getM bs = _; unfold getM; rw [hR]; rfl
    clear hR hbig
    obtain ⟨m, hm⟩ : ∃ m, l.length = m := ⟨_, rfl⟩
    obtain ⟨q, hq⟩ : ∃ q, putE l = q := ⟨_, rfl⟩
    have HM : Hid (l.length = m ∧ putE l = q) := ⟨hm, hq⟩
    by_cases hq0 : q = 0
    · subst hq0
      have HB : Hid (putBs l = layB l ∧ l.length ≤ 256) := by
        refine ⟨by unfold putBs; rw [hq, if_pos rfl], ?_⟩
        exact ((good_iff HOK.out).1 hq).few
      cases hd : decide (layB l = bs) with
      | true =>
        have hd' : layB l = bs := of_decide_eq_true hd
        have HD : Hid (layB l = bs) := hd'
        clear hd'
        clear hm hq
        go_enter Tryz.func79, Tryz.ntmps79
        go_wp2_with (first
          | (go_at_call 118; refine Calls.mono HC.out ?_; go_loud (intro e w1 hpost; obtain ⟨g1, he, hp2⟩ := rd_some hpost HM.out.1; clear hpost; subst he; have H1 := show Hid (After w w1 ∧ OpsAt w1 (some ⟨g1, 0, none⟩) l ∧ m ≤ 65536 ∧ w.heap.size ≤ g1 ∧ RowIs w1 g1 46 (cellsOf l)) from hp2; clear hp2))
          | (go_at_call 42; refine Calls.mono (put_k (some ⟨g1, 0, none⟩) m m l HM.out.1 HOK.out (by have := H1.out.2.2.1; omega) w1 H1.out.2.1 HM.out.2 HB.out.1) ?_; rintro e w2 ⟨v2, rfl, ho, ha2⟩; have H2 := show Hid (Own w2 w1.heap.size v2 (layB l) ∧ After w1 w2) from ⟨ho, ha2⟩; clear ho ha2)
          | (go_at_call 47; refine Calls.mono (equal_any v2 (.slice ao n ca) (layB l) bs w2 H2.out.1.conv (by have h := conv_at ca (HAT.out.1.after (After.trans H1.out.1 H2.out.2)); rw [HAT.out.2.1] at h; exact h)) ?_; rintro e w3 ⟨rfl, hw3⟩; rw [hd]; have hw4 := hw3.symm; clear hw3; subst hw4))
        go_ret2
        exact ⟨_, _, rfl, After.trans H1.out.1 H2.out.2, fun e => (by rw [HG.out, HM.out.2, if_pos ⟨rfl, HD.out⟩] at e; cases e), fun l2 e => (by rw [HG.out, HM.out.2, if_pos ⟨rfl, HD.out⟩] at e; cases e; exact ⟨rfl, HB.out.2, g1, (by rw [HM.out.1]; rfl), H1.out.2.1.after H2.out.2, H1.out.2.2.2.1, H1.out.2.2.2.2.below H2.out.2 H1.out.2.2.2.2.lt⟩)⟩
      | false =>
        have hd' : ¬ layB l = bs := of_decide_eq_false hd
        have HD : Hid (¬ layB l = bs) := hd'
        clear hd'
        clear hm hq
        go_enter Tryz.func79, Tryz.ntmps79
        go_wp2_with (first
          | (go_at_call 118; refine Calls.mono HC.out ?_; go_loud (intro e w1 hpost; obtain ⟨g1, he, hp2⟩ := rd_some hpost HM.out.1; clear hpost; subst he; have H1 := show Hid (After w w1 ∧ OpsAt w1 (some ⟨g1, 0, none⟩) l ∧ m ≤ 65536 ∧ w.heap.size ≤ g1 ∧ RowIs w1 g1 46 (cellsOf l)) from hp2; clear hp2))
          | (go_at_call 42; refine Calls.mono (put_k (some ⟨g1, 0, none⟩) m m l HM.out.1 HOK.out (by have := H1.out.2.2.1; omega) w1 H1.out.2.1 HM.out.2 HB.out.1) ?_; rintro e w2 ⟨v2, rfl, ho, ha2⟩; have H2 := show Hid (Own w2 w1.heap.size v2 (layB l) ∧ After w1 w2) from ⟨ho, ha2⟩; clear ho ha2)
          | (go_at_call 47; refine Calls.mono (equal_any v2 (.slice ao n ca) (layB l) bs w2 H2.out.1.conv (by have h := conv_at ca (HAT.out.1.after (After.trans H1.out.1 H2.out.2)); rw [HAT.out.2.1] at h; exact h)) ?_; rintro e w3 ⟨rfl, hw3⟩; rw [hd]; have hw4 := hw3.symm; clear hw3; subst hw4))
        go_ret2
        exact ⟨_, _, rfl, After.trans H1.out.1 H2.out.2, fun _ => ⟨rfl, rfl⟩, fun l2 e => (by rw [HG.out, HM.out.2, if_neg (fun h => HD.out h.2)] at e; cases e)⟩
    · have hqi : ¬ (q : Int) = 0 := by omega
      have hqb : ((q : Int) == 0) = false := beq_eq_false_iff_ne.2 hqi
      have hqn : ((q : Int) != 0) = true := by simp [bne, hqb]
      clear hm hq
      go_enter Tryz.func79, Tryz.ntmps79
      go_wp2_with (first
        | (go_at_call 118; refine Calls.mono HC.out ?_; go_loud (intro e w1 hpost; obtain ⟨g1, he, hp2⟩ := rd_some hpost HM.out.1; clear hpost; subst he; have H1 := show Hid (After w w1 ∧ OpsAt w1 (some ⟨g1, 0, none⟩) l ∧ m ≤ 65536 ∧ w.heap.size ≤ g1 ∧ RowIs w1 g1 46 (cellsOf l)) from hp2; clear hp2))
        | (go_at_call 42; refine Calls.mono (put_k (some ⟨g1, 0, none⟩) m m l HM.out.1 HOK.out (by have := H1.out.2.2.1; omega) w1 H1.out.2.1 HM.out.2 rfl) ?_; rintro e w2 ⟨v2, rfl, ho, ha2⟩; have H2 := show Hid (After w1 w2) from ha2; clear ho ha2))
      go_ret2
      exact ⟨_, _, rfl, After.trans H1.out.1 H2.out, fun _ => ⟨rfl, rfl⟩, fun l2 e => (by rw [HG.out, HM.out.2, if_neg (fun h => hq0 h.1)] at e; cases e)⟩
end Go.Proofs.YtgmdolpjkaajfaaGreatDoor
namespace Go.Proofs.YtgmdolpjkaajfaaGreatDoor
open Go.RowKit Leb
set_option maxHeartbeats 800000 in
theorem eq23 (x y : Opn) (w : World) : (Op.equalIn 10000 46 (opV x) (opV y)).run Tryz.prog w = .ok (decide (x = y)) w := by
  have u3 := Tryz.underlying3
  have u9 := Tryz.underlying9
  have hS : Tryz.prog.underlying 46 = some (.struct (Tryz.prog.fieldsOf 46)) := by kernel_rfl
  have hp : Tryz.prog.stoodInHeld 46 = false := by kernel_rfl
  have a3 : ∀ w, (isAgg 3).run Tryz.prog w = .ok false w := fun w => by unfold isAgg; rw [Sem.run_bind, run_underlying u3 w]; rfl
  have a9 : ∀ w, (isAgg 9).run Tryz.prog w = .ok false w := fun w => by unfold isAgg; rw [Sem.run_bind, run_underlying u9 w]; rfl
  obtain ⟨k, nm, p, b, tx⟩ := x
  obtain ⟨k', nm', p', b', tx'⟩ := y
  rw [show (10000 : Nat) = 9999 + 1 from rfl, run_equalIn_agg w 9999 46 _ _ hS hp]
  simp only [Program.fieldsOf, Tryz.underlying46]
  go_simp
  simp only [strOf_toList]
  by_cases h1 : k = k' <;> by_cases h2 : nm = nm' <;> by_cases h3 : p = p' <;> by_cases h4 : b = b' <;> by_cases h5 : tx = tx' <;> simp [h1, h2, h3, h4, h5]
section
variable {a : Act} {w : World} {oi : Oper}
theorem x_ne23 {x y : Operand} {h k : Opn} (hop : oi.op = .binOp .neq 46 x y 46) (hx : a.eval x = opV h) (hy : a.eval y = opV k) : (execOp a.eval oi).run Tryz.prog w = .ok (.value (.bool (!decide (h = k)))) w := by
  have he := eq23 h k w
  have hm : Tryz.prog.eqGuardType Tryz.prog.depth 46 = false := by kernel_rfl
  unfold execOp
  simp only [hop, hx, hy, Sem.run_bind, run_eqGuard_agg w .neq 46 x y _ _ hm, run_neq_struct, he, Result.andThen_ok]
  rfl
theorem x_ld23 {x : Operand} {g p : Nat} {h : Opn} (hop : oi.op = .load 46 x) (hx : a.eval x = .pointer (some ⟨g, p, none⟩)) (hr : w.rangeAt g p (oc h)) : (execOp a.eval oi).run Tryz.prog w = .ok (.value (opV h)) w := by
  unfold execOp
  simp only [hop, hx, Sem.run_bind, run_loadAt_mid w g p 46 (oc h) _ hr Tryz.underlying46 rfl size23, Result.andThen_ok]
  rfl
theorem x_idx29o {x y : Operand} {b p n c j : Nat} (hop : oi.op = .indexAddr 23 x y) (hx : a.eval x = .slice (some ⟨b, p, none⟩) n c) (hy : a.eval y = .int .i64 (j : Int)) (hj : j < n) : (execOp a.eval oi).run Tryz.prog w = .ok (.value (.pointer (some ⟨b, p + j * 5, none⟩))) w := by
  obtain ⟨i, hi, hz⟩ := Option.map_eq_some_iff.1 info23
  simp only [Prod.mk.injEq] at hz
  unfold execOp
  simp only [hop, hx, hy]
  simp [go_sem, hi, hz.2.1, hj, sizeOf, typeInfo, Addr.add_mid]
end
theorem eq_of_pre {la lb : List Opn} {n : Nat} (ha : la.length = n) (hb : lb.length = n) (h : ∀ j, j < n → la[j]? = lb[j]?) : la = lb := by
  apply List.ext_getElem?
  intro j
  by_cases hj : j < n
  · exact h j hj
  · rw [List.getElem?_eq_none (by omega), List.getElem?_eq_none (by omega)]
structure SmI (w : World) (la lb : List Opn) (i : Nat) (wr : World) : Prop where
  aft : After w wr
  pre : ∀ j, j < i → la[j]? = lb[j]?

set_option maxRecDepth 100000 in
set_option maxHeartbeats 3200000 in
theorem rsame16 (ao bo : Option Addr) (ca cb : Nat) (la lb : List Opn) (n m : Nat) (hla : la.length = n) (hlb : lb.length = m) (hbig : n ≤ 1152921504606846976) (w : World) (hA : OpsAt w ao la) (hB : OpsAt w bo lb) :
    Calls Tryz.prog 30 #[.slice ao n ca, .slice bo m cb] w fun e w' => e = .returned (.bool (decide (la = lb))) ∧ After w w' := by
  by_cases hnm : n = m
  · subst hnm
    have HFA : Hid (OpsAt w ao la ∧ la.length = n) := ⟨hA, hla⟩
    have HFB : Hid (OpsAt w bo lb ∧ lb.length = n) := ⟨hB, hlb⟩
    clear hA hB hla hlb
    go_enter Tryz.func30, Tryz.ntmps30
    go_wp2_with fail
    go_loopw [5] (fun iv wr => ∃ i : Nat, i ≤ n ∧ iv = .int .i64 (i : Int) ∧ Hid (SmI w la lb i wr)) (fun iv _ => n - (intOf iv).toNat)
    case atStart => exact ⟨0, Nat.zero_le _, rfl, After.refl w, fun j hj => by omega⟩
    case round =>
      obtain ⟨i, hin, rfl, HI⟩ := hrel
      by_cases hlt : i < n
      · have hii : (i : Int) < (n : Int) := by omega
        obtain ⟨x, hx⟩ : ∃ x, la[i]? = some x := ⟨_, List.getElem?_eq_getElem (by rw [HFA.out.2]; exact hlt)⟩
        obtain ⟨y, hy⟩ : ∃ y, lb[i]? = some y := ⟨_, List.getElem?_eq_getElem (by rw [HFB.out.2]; exact hlt)⟩
        obtain ⟨xb, xo, hxa, hxr⟩ := HFA.out.1 (by intro e; rw [e] at hx; simp at hx)
        obtain ⟨yb, yo, hya, hyr⟩ := HFB.out.1 (by intro e; rw [e] at hy; simp at hy)
        subst hxa hya
        have HX : Hid (wr.rangeAt xb (xo + i * 5) (oc x)) := range_after (hxr i x hx) HI.out.aft
        have HY : Hid (wr.rangeAt yb (yo + i * 5) (oc y)) := range_after (hyr i y hy) HI.out.aft
        have HXY : Hid (la[i]? = some x ∧ lb[i]? = some y) := ⟨hx, hy⟩
        clear hx hy hxr hyr
        go_wp2_with fail
        refine wp_region_noPanic ?_
        refine wp_region_held_drew (S := After wr) (by kernel_rfl) (After.drew (After.refl wr)) ?_
        intro hS0
        refine tk 0 17 (.slice (some ⟨xb, xo, none⟩) n ca) (fuel := 8) rfl (by kernel_rfl) (by kernel_rfl) (by kernel_rfl) (by kernel_rfl) noPanic_false (by kernel_rfl) (fun _ _ => by kernel_rfl) hS0 ?_
        refine tk 1 18 (.int .i64 (i : Int)) (fuel := 7) rfl (by kernel_rfl) (by kernel_rfl) (by kernel_rfl) (by kernel_rfl) noPanic_false (by kernel_rfl) (fun _ _ => by kernel_rfl) hS0 ?_
        refine tk 2 19 (.pointer (some ⟨xb, xo + i * 5, none⟩)) (fuel := 6) rfl (by kernel_rfl) (by kernel_rfl) (by kernel_rfl) (by kernel_rfl) noPanic_false (by kernel_rfl) (fun W _ => x_idx29o (n := n) (c := ca) (x := .tmp 17) (y := .tmp 18) (by kernel_rfl) (by kernel_rfl) (by kernel_rfl) hlt) hS0 ?_
        refine tk 3 20 (opV x) (fuel := 5) rfl (by kernel_rfl) (by kernel_rfl) (by kernel_rfl) (by kernel_rfl) noPanic_false (by kernel_rfl) (fun W hW => x_ld23 (x := .tmp 19) (g := xb) (p := xo + i * 5) (by kernel_rfl) (by kernel_rfl) (range_after HX.out hW)) hS0 ?_
        refine tk 4 21 (.slice (some ⟨yb, yo, none⟩) n cb) (fuel := 4) rfl (by kernel_rfl) (by kernel_rfl) (by kernel_rfl) (by kernel_rfl) noPanic_false (by kernel_rfl) (fun _ _ => by kernel_rfl) hS0 ?_
        refine tk 5 22 (.int .i64 (i : Int)) (fuel := 3) rfl (by kernel_rfl) (by kernel_rfl) (by kernel_rfl) (by kernel_rfl) noPanic_false (by kernel_rfl) (fun _ _ => by kernel_rfl) hS0 ?_
        refine tk 6 23 (.pointer (some ⟨yb, yo + i * 5, none⟩)) (fuel := 2) rfl (by kernel_rfl) (by kernel_rfl) (by kernel_rfl) (by kernel_rfl) noPanic_false (by kernel_rfl) (fun W _ => x_idx29o (n := n) (c := cb) (x := .tmp 21) (y := .tmp 22) (by kernel_rfl) (by kernel_rfl) (by kernel_rfl) hlt) hS0 ?_
        refine tk 7 24 (opV y) (fuel := 1) rfl (by kernel_rfl) (by kernel_rfl) (by kernel_rfl) (by kernel_rfl) noPanic_false (by kernel_rfl) (fun W hW => x_ld23 (x := .tmp 23) (g := yb) (p := yo + i * 5) (by kernel_rfl) (by kernel_rfl) (range_after HY.out hW)) hS0 ?_
        refine tk 8 25 (.bool (!decide (x = y))) (fuel := 0) rfl (by kernel_rfl) (by kernel_rfl) (by kernel_rfl) (by kernel_rfl) noPanic_false (by kernel_rfl) (fun W hW => x_ne23 (x := .tmp 20) (y := .tmp 24) (by kernel_rfl) (by kernel_rfl) (by kernel_rfl)) hS0 ?_
        refine wpAnyH_done (by kernel_rfl) (NoPanic.normal ?_) _
        have HA1 : Hid (After w wr.drew) := After.trans HI.out.aft hS0
        clear hS0
        by_cases hxy : x = y
        · have hd : (!decide (x = y)) = false := by simp [hxy]
          rw [hd]
          go_simp
          go_wp2
          go_roundw
          case rel => exact ⟨i + 1, by omega, by go_num, HA1.out, fun j hj => by
            by_cases e : j = i
            · subst e; rw [HXY.out.1, HXY.out.2, hxy]
            · exact HI.out.pre j (by omega)⟩
          case measure => simp [intOf]; omega
        · have hd : (!decide (x = y)) = true := by simp [hxy]
          rw [hd]
          go_simp
          go_wp2
          go_ret
          refine ⟨?_, HA1.out⟩
          have : ¬ la = lb := fun e => by have h1 := HXY.out; rw [e] at h1; exact hxy (Option.some.inj (h1.1.symm.trans h1.2))
          simp [this]
      · have hii : ¬ (i : Int) < (n : Int) := by omega
        go_wp2
        go_ret
        refine ⟨?_, HI.out.aft⟩
        have : la = lb := eq_of_pre HFA.out.2 HFB.out.2 (fun j hj => HI.out.pre j (by omega))
        simp [this]
  · have hnmi : ¬ (n : Int) = (m : Int) := by omega
    have : ¬ la = lb := fun e => hnm (by rw [← hla, ← hlb, e])
    go_enter Tryz.func30, Tryz.ntmps30
    go_wp2
    go_ret
    exact ⟨by simp [this], After.refl w⟩

end Go.Proofs.YtgmdolpjkaajfaaGreatDoor
namespace Go.Proofs.YtgmdolpjkaajfaaGreatDoor
open Go.RowKit Leb
theorem getM_back {l : List Opn} (h : Good l) : getM (layB l) = some l := by
  have h1 := read_back h []
  rw [List.append_nil] at h1
  unfold getM
  rw [h1]
  show (if putE l = 0 ∧ layB l = layB l then some l else none) = some l
  rw [if_pos ⟨(good_iff h.ok).2 h, rfl⟩]
theorem get_good (ao : Option Addr) (k ca : Nat) (l : List Opn) (n : Nat) (hl : l.length = n) (hg : Good l) {B : List UInt8} (hB : layB l = B) (hk : B.length = k) (hca : k ≤ ca) (hz : ao = none → k = 0) (hbig : k ≤ 140737488355328) (w : World) (hat : BytesAt w ao B) :
    Calls Tryz.prog 79 #[.slice ao k ca] w fun e w' => ∃ g, e = .returned (.tuple #[.slice (some ⟨g, 0, none⟩) n n, .int .i64 0]) ∧ OpsAt w' (some ⟨g, 0, none⟩) l ∧ After w w' ∧ w.heap.size ≤ g ∧ RowIs w' g 46 (cellsOf l) := by
  refine Calls.mono (get_any ao k ca B hk hca hz hbig w hat) ?_
  rintro e w' ⟨v, q, rfl, ha, _, h1⟩
  obtain ⟨rfl, _, g, rfl, hA, hgz, hgr⟩ := h1 l (by rw [← hB]; exact getM_back hg)
  rw [hl]
  exact ⟨g, rfl, hA, ha, hgz, hgr⟩
abbrev x0 : Opn := ⟨2, [97], 0, 0, []⟩
abbrev B0 : List UInt8 := [1, 1, 2, 1, 1, 97, 1, 1, 0, 1, 1, 0, 1, 1, 0]
theorem uintB_1 : uintB 1 = [1] := by rw [uintB, if_pos (by omega)]; rfl
end Go.Proofs.YtgmdolpjkaajfaaGreatDoor
namespace Go.Proofs.YtgmdolpjkaajfaaGreatDoor
open Go.RowKit Leb
theorem getM_some {bs : List UInt8} {l : List Opn} (hb : bs.length ≤ maxLen) (h : getM bs = some l) : readM bs = some l ∧ layB l = bs ∧ Good l := by
  unfold getM at h
  cases hr : readM bs with
  | none => rw [hr] at h; cases h
  | some m =>
    rw [hr] at h
    have h2 : (if putE m = 0 ∧ layB m = bs then some m else none) = some l := h
    split at h2
    · rename_i hc
      cases h2
      exact ⟨rfl, hc.2, (good_iff (readM_ok hb hr)).1 hc.1⟩
    · cases h2
theorem layB_len {l : List Opn} (h : Good l) : (layB l).length ≤ 200000000 := by
  have hn := h.few
  have h1 := runsB_len (l.map (·.kind)) (fun z hz => by obtain ⟨x, hx, rfl⟩ := List.mem_map.1 hz; exact ⟨(h.ok x hx).k0, (h.ok x hx).k1⟩) (by rw [List.length_map]; omega)
  have h2 := layNB_len l hn (fun x hx => by have := h.name hx; omega)
  have h3 := runsB_len (diffs (l.map (·.pos))) (diffs_int _) (by rw [diffs_len, List.length_map]; omega)
  have h4 := runsB_len (l.map (·.by_)) (fun z hz => by obtain ⟨x, hx, rfl⟩ := List.mem_map.1 hz; exact ⟨(h.ok x hx).b0, (h.ok x hx).b1⟩) (by rw [List.length_map]; omega)
  have h5 := textsB_len l (fun x hx => by have := h.text hx; omega)
  unfold layB
  rw [List.length_append, List.length_append, List.length_append, List.length_append]
  omega
end Go.Proofs.YtgmdolpjkaajfaaGreatDoor
namespace Go.Proofs.YtgmdolpjkaajfaaGreatDoor
open Go.RowKit Leb
theorem get_none (ao : Option Addr) (n ca : Nat) (bs : List UInt8) (hn : bs.length = n) (hca : n ≤ ca) (hz : ao = none → n = 0) (hbig : n ≤ 140737488355328) (w : World) (hat : BytesAt w ao bs) (hg : getM bs = none) :
    Calls Tryz.prog 79 #[.slice ao n ca] w fun e w' => e = .returned (.tuple #[.slice none 0 0, .int .i64 4]) ∧ After w w' := by
  refine Calls.mono (get_any ao n ca bs hn hca hz hbig w hat) ?_
  rintro e w' ⟨v, q, rfl, ha, h0, _⟩
  obtain ⟨rfl, rfl⟩ := h0 hg
  exact ⟨rfl, ha⟩
theorem own_sl {w : World} {base : Nat} {v : Value} {bs : List UInt8} (h : Own w base v bs) {k : Nat} (hk : bs.length = k) : ∃ a c, v = .slice a k c ∧ BytesAt w a bs ∧ k ≤ c ∧ (a = none → k = 0) := by
  obtain ⟨a, c, rfl, h1, h2, _⟩ := h.at
  rw [hk] at h2 ⊢
  exact ⟨a, c, rfl, h1, h2, fun e => by subst e; have := bytesAt_none h1; rw [this] at hk; simpa using hk.symm⟩
end Go.Proofs.YtgmdolpjkaajfaaGreatDoor
namespace Go.Proofs.YtgmdolpjkaajfaaGreatDoor
open Go.RowKit Leb
theorem wpList_of_run' {ops : Array Oper} {rest : List Oper} {o : Oper} {a : Act} {Q : Exit → Act → World → Prop} {w w' : World} {v : Value} (hg : o.guard = none) (hr : (execOp a.eval o).run Tryz.prog w = .ok (.value v) w') (h : wpList Tryz.prog ops Q rest (a.put o.dst v) w') : wpList Tryz.prog ops Q (o :: rest) a w :=
  wpList_plain hg fun K hK => by unfold Oper.wp; rw [hr]; exact hK _ _ h
theorem x_sub1 {o : Oper} {a : Act} {x y : Operand} {w : World} {K k : Nat} (hop : o.op = .binOp .sub 3 x y 3) (hx : a.eval x = .int .i64 (K : Int)) (hy : a.eval y = .int .i64 1) (h : K = k + 1) (hb : K ≤ 1000000000) : (execOp a.eval o).run Tryz.prog w = .ok (.value (.int .i64 (k : Int))) w := by
  have e : IntKind.i64.wrap ((K : Int) - 1) = (k : Int) := by rw [IntKind.wrap_i64]; omega
  unfold execOp
  simp only [hop, hx, hy]
  simp [go_sem, e]

end Go.Proofs.YtgmdolpjkaajfaaGreatDoor
