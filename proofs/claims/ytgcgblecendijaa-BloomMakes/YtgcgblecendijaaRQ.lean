/-
  THE WALKS OF stemmaref09.parts, Check AND Many.
-/
import Derived.Test.YtgcgblecendijaaRP
namespace Go.Proofs.Ytgcgblecendijaa
open Go.RowKit Leb
open Classical in
noncomputable def okB (bs : List UInt8) : Bool := decide (rdOk bs)
theorem okB_no {bs : List UInt8} (h : ¬ rdOk bs) : okB bs = false := by simp [okB, h]
theorem okB_yes {bs : List UInt8} (h : rdOk bs) : okB bs = true := by simp [okB, h]
theorem ret4t {fn : Func} {a b c d : Tmp} (h : fn.results = #[.tmp a, .tmp b, .tmp c, .tmp d]) (tmps : Array Value) (w : World) (v1 v2 v3 v4 : Value) (h1 : tmps.getD a undef = v1) (h2 : tmps.getD b undef = v2) (h3 : tmps.getD c undef = v3) (h4 : tmps.getD d undef = v4) : (results fn tmps).run Try.prog w = .ok (.tuple #[v1, v2, v3, v4]) w := by
  have h1' : tmps[a]?.getD undef = v1 := by simpa using h1
  have h2' : tmps[b]?.getD undef = v2 := by simpa using h2
  have h3' : tmps[c]?.getD undef = v3 := by simpa using h3
  have h4' : tmps[d]?.getD undef = v4 := by simpa using h4
  simp [results, h, h1', h2', h3', h4']
def PtPost (w : World) (bs : List UInt8) (x : Ending) (w' : World) : Prop := ∃ (a : Option Addr) (k c : Nat), x = .returned (.tuple #[.int .i64 ((rdP bs).many : Int), .int .u64 ((rdP bs).seed : Int), .slice a k c, .bool (okB bs)]) ∧ BytesAt w' a (rdB bs) ∧ (rdB bs).length = k ∧ k ≤ c ∧ After w w'
theorem PtPost.none {w w' : World} {bs : List UInt8} (h : ¬ rdOk bs) (ha : After w w') : PtPost w bs (.returned (.tuple #[.int .i64 0, .int .u64 0, .slice .none 0 0, .bool false])) w' := by
  obtain ⟨h1, h2⟩ := rd_no h
  exact ⟨.none, 0, 0, by rw [h1, okB_no h]; rfl, by rw [h2]; exact fun e => absurd rfl e, by rw [h2]; rfl, Nat.le_refl _, ha⟩
theorem x_neqi {o : Oper} {a : Act} {x y : Operand} {w : World} {p q : Nat} {t : Bool} (hop : o.op = .binOp .neq 3 x y 3) (hx : a.eval x = .int .i64 (p : Int)) (hy : a.eval y = .int .i64 (q : Int)) (h : decide (p = q) = !t) : (execOp a.eval o).run Try.prog w = .ok (.value (.bool t)) w := by
  have e : ((p : Int) != (q : Int)) = t := by
    by_cases hpq : p = q
    · rw [decide_eq_true hpq] at h; subst hpq; cases t <;> simp_all
    · rw [decide_eq_false hpq] at h
      have : ¬ (p : Int) = (q : Int) := by omega
      cases t <;> simp_all
  unfold execOp
  simp only [hop, hx, hy]
  simp [go_sem, e]

set_option maxRecDepth 100000 in
set_option maxHeartbeats 4000000 in
theorem parts_any (ao : Option Addr) (n cap : Nat) (bs : List UInt8) (hl : bs.length = n) (hcap : n ≤ cap) (hbig : n ≤ 1152921504606846976) (w : World) (hat : BytesAt w ao bs) :
    Calls Try.prog 27 #[.slice ao n cap] w (PtPost w bs) := by
  have hnone : ao = none → n = 0 := fun e => by subst e; rw [← hl, bytesAt_none hat]; rfl
  obtain ⟨w0, hw0⟩ : ∃ w0, (w.alloc (.cells #[.slice none 0 0, .int .i64 0] 66)).setRow w.heap.size (rc ao n cap 0).toArray = w0 := ⟨_, rfl⟩
  have H0 : Hid (After w w0 ∧ RowIs w0 w.heap.size 66 (rc ao n cap 0)) := by rw [← hw0]; exact ⟨Below.row (after_alloc (After.refl w) _) (Nat.le_refl _) _, (RowIs.new w 66 (rc none 0 0 0)).setRow _⟩
  have H0s : Hid (RowIs w0 w.heap.size 66 (rc ao n cap 0) ∧ After w w0 ∧ BytesAt w ao bs ∧ bs.length = n ∧ n ≤ cap ∧ (ao = none → n = 0)) := ⟨H0.out.2, H0.out.1, hat, hl, hcap, hnone⟩
  have HB : Hid (n ≤ 1152921504606846976) := hbig
  clear hl hcap hbig hat hnone
  go_enter Try.func27, Try.ntmps27
  refine wp_seq_k (fun K hK => ?_)
  have HK := show Hid _ from hK
  clear hK
  go_wp2_with fail
  refine HK.out _ _ ?_
  clear HK
  refine wp_seq_k (fun K hK => ?_)
  have HK := show Hid _ from hK
  clear hK
  go_wp2_with (refine wpList_store_row rfl 66 (.tmp 6) (.tmp 11) rfl w.heap.size (rc ao n cap 0).toArray rfl rfl 66 _ (RowIs.new w 66 (rc none 0 0 0)) (size66 _ _ _ _) rfl (all66 _ _ _ _) ?_; simp only [hw0]; clear hw0)
  refine HK.out _ _ ?_
  clear HK
  refine wp_seq_k (fun K1 hK1 => ?_)
  have HK1 := show Hid _ from hK1
  clear hK1
  go_wp2_with (first
    | (go_at_call 37; refine Calls.mono (ruint_any ao n cap 0 65536 bs H0s.out.2.2.2.1 H0s.out.2.2.2.2.1 H0s.out.2.2.2.2.2 w0 (H0s.out.2.2.1.after H0s.out.2.1)) ?_; unfold RUPost; rintro x w1 ⟨a1, n1, c1, e1, v1, b1, rfl, hr, ha⟩; have H1 := show Hid (RowIs w1 w.heap.size 66 (rc ao n cap 0) ∧ After w w1 ∧ Rdr bs ao n cap 0 65536 a1 n1 c1 e1 v1 b1) from ⟨H0s.out.1.below ha H0s.out.1.lt, H0s.out.2.1.trans ha, hr⟩; clear hr ha)
    | (refine wpList_of_run rfl (x_ld66 (x := .tmp 6) (g := w.heap.size) (a := ao) (n := n) (c := cap) (e := 0) rfl rfl H0s.out.1) ?_)
    | (refine wpList_store_row rfl 66 (.tmp 6) (.tmp 15) rfl w.heap.size (rc a1 n1 c1 e1).toArray rfl rfl 66 _ H1.out.1 (size66 _ _ _ _) rfl (all66 _ _ _ _) ?_; obtain ⟨w1s, hws⟩ : ∃ ws, w1.setRow w.heap.size (rc a1 n1 c1 e1).toArray = ws := ⟨_, rfl⟩; simp only [hws]; have H1s : Hid (RowIs w1s w.heap.size 66 (rc a1 n1 c1 e1) ∧ After w w1s ∧ BytesAt w a1 b1 ∧ b1.length = n1 ∧ n1 ≤ c1 ∧ (a1 = none → n1 = 0)) := (by rw [← hws]; exact ⟨H1.out.1.setRow _, Below.row H1.out.2.1 (Nat.le_refl _) _, H1.out.2.2.at_ w H0s.out.2.2.1, H1.out.2.2.len, H1.out.2.2.cap, H1.out.2.2.nil⟩); clear hws))
  refine HK1.out _ _ ?_
  clear HK1
  refine wp_seq_k (fun K2 hK2 => ?_)
  have HK2 := show Hid _ from hK2
  clear hK2
  go_wp2_with (first
    | (go_at_call 37; refine Calls.mono (ruint_any a1 n1 c1 e1 4294967295 b1 H1s.out.2.2.2.1 H1s.out.2.2.2.2.1 H1s.out.2.2.2.2.2 w1s (H1s.out.2.2.1.after H1s.out.2.1)) ?_; unfold RUPost; rintro x w2 ⟨a2, n2, c2, e2, v2, b2, rfl, hr, ha⟩; have H2 := show Hid (RowIs w2 w.heap.size 66 (rc a1 n1 c1 e1) ∧ After w w2 ∧ Rdr b1 a1 n1 c1 e1 4294967295 a2 n2 c2 e2 v2 b2) from ⟨H1s.out.1.below ha H1s.out.1.lt, H1s.out.2.1.trans ha, hr⟩; clear hr ha)
    | (refine wpList_of_run rfl (x_ld66 (x := .tmp 6) (g := w.heap.size) (a := a1) (n := n1) (c := c1) (e := e1) rfl rfl H1s.out.1) ?_)
    | (refine wpList_store_row rfl 66 (.tmp 6) (.tmp 20) rfl w.heap.size (rc a2 n2 c2 e2).toArray rfl rfl 66 _ H2.out.1 (size66 _ _ _ _) rfl (all66 _ _ _ _) ?_; obtain ⟨w2s, hws⟩ : ∃ ws, w2.setRow w.heap.size (rc a2 n2 c2 e2).toArray = ws := ⟨_, rfl⟩; simp only [hws]; have H2s : Hid (RowIs w2s w.heap.size 66 (rc a2 n2 c2 e2) ∧ After w w2s ∧ BytesAt w a2 b2 ∧ b2.length = n2 ∧ n2 ≤ c2 ∧ (a2 = none → n2 = 0)) := (by rw [← hws]; exact ⟨H2.out.1.setRow _, Below.row H2.out.2.1 (Nat.le_refl _) _, H2.out.2.2.at_ w H1s.out.2.2.1, H2.out.2.2.len, H2.out.2.2.cap, H2.out.2.2.nil⟩); clear hws))
  refine HK2.out _ _ ?_
  clear HK2
  refine wp_seq_k (fun K3 hK3 => ?_)
  have HK3 := show Hid _ from hK3
  clear hK3
  go_wp2_with (first
    | (go_at_call 37; refine Calls.mono (ruint_any a2 n2 c2 e2 64 b2 H2s.out.2.2.2.1 H2s.out.2.2.2.2.1 H2s.out.2.2.2.2.2 w2s (H2s.out.2.2.1.after H2s.out.2.1)) ?_; unfold RUPost; rintro x w3 ⟨a3, n3, c3, e3, v3, b3, rfl, hr, ha⟩; have H3 := show Hid (RowIs w3 w.heap.size 66 (rc a2 n2 c2 e2) ∧ After w w3 ∧ Rdr b2 a2 n2 c2 e2 64 a3 n3 c3 e3 v3 b3) from ⟨H2s.out.1.below ha H2s.out.1.lt, H2s.out.2.1.trans ha, hr⟩; clear hr ha)
    | (refine wpList_of_run rfl (x_ld66 (x := .tmp 6) (g := w.heap.size) (a := a2) (n := n2) (c := c2) (e := e2) rfl rfl H2s.out.1) ?_)
    | (refine wpList_store_row rfl 66 (.tmp 6) (.tmp 25) rfl w.heap.size (rc a3 n3 c3 e3).toArray rfl rfl 66 _ H3.out.1 (size66 _ _ _ _) rfl (all66 _ _ _ _) ?_; obtain ⟨w3s, hws⟩ : ∃ ws, w3.setRow w.heap.size (rc a3 n3 c3 e3).toArray = ws := ⟨_, rfl⟩; simp only [hws]; have H3s : Hid (RowIs w3s w.heap.size 66 (rc a3 n3 c3 e3) ∧ After w w3s ∧ BytesAt w a3 b3 ∧ b3.length = n3 ∧ n3 ≤ c3 ∧ (a3 = none → n3 = 0)) := (by rw [← hws]; exact ⟨H3.out.1.setRow _, Below.row H3.out.2.1 (Nat.le_refl _) _, H3.out.2.2.at_ w H2s.out.2.2.1, H3.out.2.2.len, H3.out.2.2.cap, H3.out.2.2.nil⟩); clear hws))
  refine HK3.out _ _ ?_
  clear HK3
  have d1 : w3s.cell? ⟨w.heap.size, 1, none⟩ = some (.int .i64 (e3 : Int)) := H3s.out.1.cell (j := 1) rfl
  have d0 : w3s.cell? ⟨w.heap.size, 0, none⟩ = some (.slice a3 n3 c3) := H3s.out.1.cell (j := 0) rfl
  by_cases he3 : e3 = 0
  · have i3 := H3.out.2.2.iff.1 he3
    have i2 := H2.out.2.2.iff.1 i3.1
    have i1 := H1.out.2.2.iff.1 i2.1
    have y3 := H3.out.2.2.val he3
    have y2 := H2.out.2.2.val i3.1
    have y1 := H1.out.2.2.val i2.1
    have r1 : rst bs 1 = b1 := y1.2.symm
    have r2 : rst bs 2 = b2 := by show (rst bs 1).drop (guK (rst bs 1)) = b2; rw [r1]; exact y2.2.symm
    have r3 : rst bs 3 = b3 := by show (rst bs 2).drop (guK (rst bs 2)) = b3; rw [r2]; exact y3.2.symm
    have hR : rdR bs = ⟨v1, v2, v3⟩ := by unfold rdR nmb; rw [r1, r2, y1.1, y2.1, y3.1]; rfl
    have HG : Hid (guE (rst bs 0) = 0 ∧ guE (rst bs 1) = 0 ∧ guE (rst bs 2) = 0 ∧ rdR bs = ⟨v1, v2, v3⟩ ∧ rst bs 3 = b3 ∧ v1 ≤ 65536 ∧ v2 ≤ 4294967295 ∧ v3 ≤ 64) := ⟨i1.2.1, by rw [r1]; exact i2.2.1, by rw [r2]; exact i3.2.1, hR, r3, by rw [y1.1]; exact i1.2.2, by rw [y2.1]; exact i2.2.2, by rw [y3.1]; exact i3.2.2⟩
    have fz : ((e3 : Int) != 0) = false := by simp [he3]
    have HE3 : Hid (e3 = 0) := he3
    clear i1 i2 i3 y1 y2 y3 r1 r2 r3 hR he3
    by_cases hb : v3 = 0
    · have hbi : (v3 : Int) < 1 := by omega
      have HNO : Hid (¬ rdOk bs) := fun h => by
        have := h.2.2.2.1.bits
        rw [HG.out.2.2.2.1] at this
        have : 1 ≤ v3 := this
        omega
      have HV3 : Hid (v3 = 0) := hb
      clear hb
      go_wp2
      refine bodyPost_ret (ret4t Try.results27 _ _ _ _ _ _ rfl rfl rfl rfl) rfl ?_
      exact PtPost.none HNO.out H3s.out.2.1
    · have hbi : ¬ (v3 : Int) < 1 := by omega
      obtain ⟨q, hq⟩ : ∃ q, v1 * v3 = q := ⟨_, rfl⟩
      obtain ⟨z, hz⟩ : ∃ z, (q + 7) / 8 = z := ⟨_, rfl⟩
      have hql : q ≤ 65536 * 64 := by rw [← hq]; exact Nat.mul_le_mul HG.out.2.2.2.2.2.1 HG.out.2.2.2.2.2.2.2
      have HZ : Hid (v1 * v3 = q ∧ (q + 7) / 8 = z ∧ q ≤ 4194304 ∧ (Prt.mk v1 v2 v3).size = z ∧ (Prt.mk v1 v2 v3).Ok) := ⟨hq, hz, by omega, by show (v1 * v3 + 7) / 8 = z; rw [hq, hz], ⟨HG.out.2.2.2.2.2.1, by show v2 < _; have := HG.out.2.2.2.2.2.2.1; omega, by show 1 ≤ v3; omega, HG.out.2.2.2.2.2.2.2⟩⟩
      clear hq hz hql
      by_cases hnz : n3 = z
      · have HNZ : Hid (decide (n3 = z) = !false) := decide_eq_true hnz
        have HY : Hid (rdOk bs) := ⟨HG.out.1, HG.out.2.1, HG.out.2.2.1, by rw [HG.out.2.2.2.1]; exact HZ.out.2.2.2.2, by rw [HG.out.2.2.2.1, HG.out.2.2.2.2.1, HZ.out.2.2.2.1, H3s.out.2.2.2.1]; exact hnz⟩
        clear hnz
        go_wp2_with (first
          | (refine wpListG_of_run rfl (x_mul64 (x := .tmp 38) (y := .tmp 39) (p := v1) (q := v3) (r := q) rfl rfl rfl HZ.out.1 (by have := HZ.out.2.2.1; omega)) ?_)
          | (refine wpListG_of_run rfl (x_add64 (x := .tmp 40) (y := .const (.int .u64 7)) (p := q) (q := 7) (r := q + 7) rfl rfl rfl rfl (by have := HZ.out.2.2.1; omega)) ?_)
          | (refine wpListG_of_run rfl (x_quo64 (x := .tmp 41) (y := .const (.int .u64 8)) (p := q + 7) (q := 8) (r := z) rfl rfl rfl HZ.out.2.1 ⟨by omega, by have := HZ.out; omega⟩) ?_)
          | (refine wpListG_of_run rfl (x_conv393 (x := .tmp 42) (p := z) rfl rfl (by have := HZ.out; omega)) ?_)
          | (refine wpListG_of_run rfl (x_neqi (x := .tmp 37) (y := .tmp 43) (p := n3) (q := z) rfl rfl rfl HNZ.out) ?_))
        refine wp_region_noPanic ?_
        refine wp_region_held_drew (S := After w3s) (by kernel_rfl) (After.drew (After.refl w3s)) ?_
        intro hS0
        refine tk 0 46 (.int .u64 (v1 : Int)) (fuel := 8) rfl (by kernel_rfl) (by kernel_rfl) (by kernel_rfl) (by kernel_rfl) noPanic_false (by kernel_rfl) (fun _ _ => by kernel_rfl) hS0 ?_
        refine tk 1 47 (.int .i64 (v1 : Int)) (fuel := 7) rfl (by kernel_rfl) (by kernel_rfl) (by kernel_rfl) (by kernel_rfl) noPanic_false (by kernel_rfl) (fun W _ => x_conv393 (x := .tmp 46) (p := v1) (by kernel_rfl) (by kernel_rfl) (by have := HG.out.2.2.2.2.2.1; omega)) hS0 ?_
        refine tk 2 48 (.int .u64 (v2 : Int)) (fuel := 6) rfl (by kernel_rfl) (by kernel_rfl) (by kernel_rfl) (by kernel_rfl) noPanic_false (by kernel_rfl) (fun _ _ => by kernel_rfl) hS0 ?_
        refine tk 3 49 (.pointer (some ⟨w.heap.size, 0, none⟩)) (fuel := 5) rfl (by kernel_rfl) (by kernel_rfl) (by kernel_rfl) (by kernel_rfl) noPanic_false (by kernel_rfl) (fun _ _ => by kernel_rfl) hS0 ?_
        refine tk 4 50 (.slice a3 n3 c3) (fuel := 4) rfl (by kernel_rfl) (by kernel_rfl) (by kernel_rfl) (by kernel_rfl) noPanic_false (by kernel_rfl) (fun W hW => x_ldc (t := 26) (x := .tmp 49) (g := w.heap.size) (j := 0) Try.underlying26 rfl (by kernel_rfl) (by kernel_rfl) ((H3s.out.1.below hW H3s.out.1.lt).cell (j := 0) rfl)) hS0 ?_
        refine tk 5 2 (.int .i64 (v1 : Int)) (fuel := 3) rfl (by kernel_rfl) (by kernel_rfl) (by kernel_rfl) (by kernel_rfl) noPanic_false (by kernel_rfl) (fun _ _ => by kernel_rfl) hS0 ?_
        refine tk 6 3 (.int .u64 (v2 : Int)) (fuel := 2) rfl (by kernel_rfl) (by kernel_rfl) (by kernel_rfl) (by kernel_rfl) noPanic_false (by kernel_rfl) (fun _ _ => by kernel_rfl) hS0 ?_
        refine tk 7 4 (.slice a3 n3 c3) (fuel := 1) rfl (by kernel_rfl) (by kernel_rfl) (by kernel_rfl) (by kernel_rfl) noPanic_false (by kernel_rfl) (fun _ _ => by kernel_rfl) hS0 ?_
        refine tk 8 5 (.bool true) (fuel := 0) rfl (by kernel_rfl) (by kernel_rfl) (by kernel_rfl) (by kernel_rfl) noPanic_false (by kernel_rfl) (fun _ _ => by kernel_rfl) hS0 ?_
        refine wpAnyH_done (by kernel_rfl) (NoPanic.normal ?_) _
        obtain ⟨p1, p2⟩ := rd_yes HY.out
        clear hS0
        go_simp
        go_wp2
        refine bodyPost_ret (ret4t Try.results27 _ _ _ _ _ _ rfl rfl rfl rfl) rfl ?_
        exact ⟨a3, n3, c3, by rw [p1, HG.out.2.2.2.1, okB_yes HY.out]; rfl, by rw [p2, HG.out.2.2.2.2.1]; exact H3s.out.2.2.1.after H3s.out.2.1.drew, by rw [p2, HG.out.2.2.2.2.1]; exact H3s.out.2.2.2.1, H3s.out.2.2.2.2.1, H3s.out.2.1.drew⟩
      · have HNZ : Hid (decide (n3 = z) = !true) := decide_eq_false hnz
        have HNO : Hid (¬ rdOk bs) := fun h => by
          have := h.2.2.2.2
          rw [HG.out.2.2.2.1, HG.out.2.2.2.2.1, HZ.out.2.2.2.1, H3s.out.2.2.2.1] at this
          exact hnz this
        clear hnz
        go_wp2_with (first
          | (refine wpListG_of_run rfl (x_mul64 (x := .tmp 38) (y := .tmp 39) (p := v1) (q := v3) (r := q) rfl rfl rfl HZ.out.1 (by have := HZ.out.2.2.1; omega)) ?_)
          | (refine wpListG_of_run rfl (x_add64 (x := .tmp 40) (y := .const (.int .u64 7)) (p := q) (q := 7) (r := q + 7) rfl rfl rfl rfl (by have := HZ.out.2.2.1; omega)) ?_)
          | (refine wpListG_of_run rfl (x_quo64 (x := .tmp 41) (y := .const (.int .u64 8)) (p := q + 7) (q := 8) (r := z) rfl rfl rfl HZ.out.2.1 ⟨by omega, by have := HZ.out; omega⟩) ?_)
          | (refine wpListG_of_run rfl (x_conv393 (x := .tmp 42) (p := z) rfl rfl (by have := HZ.out; omega)) ?_)
          | (refine wpListG_of_run rfl (x_neqi (x := .tmp 37) (y := .tmp 43) (p := n3) (q := z) rfl rfl rfl HNZ.out) ?_))
        refine bodyPost_ret (ret4t Try.results27 _ _ _ _ _ _ rfl rfl rfl rfl) rfl ?_
        exact PtPost.none HNO.out H3s.out.2.1
  · have fi : ¬ (e3 : Int) = 0 := by omega
    have fb : ((e3 : Int) == 0) = false := beq_eq_false_iff_ne.2 fi
    have fn : ((e3 : Int) != 0) = true := by simp [bne, fb]
    have HNO : Hid (¬ rdOk bs) := fun h => by
      have g1 : v1 = nmb bs 0 ∧ b1 = rst bs 1 ∧ e1 = 0 := by
        have he : e1 = 0 := H1.out.2.2.iff.2 ⟨rfl, h.1, h.2.2.2.1.many⟩
        exact ⟨(H1.out.2.2.val he).1, (H1.out.2.2.val he).2, he⟩
      have g2 : b2 = rst bs 2 ∧ e2 = 0 := by
        have he : e2 = 0 := H2.out.2.2.iff.2 ⟨g1.2.2, by rw [g1.2.1]; exact h.2.1, by rw [g1.2.1]; have : nmb bs 1 < 4294967296 := h.2.2.2.1.seed; unfold nmb at this; omega⟩
        exact ⟨by rw [(H2.out.2.2.val he).2, g1.2.1]; rfl, he⟩
      exact he3 (H3.out.2.2.iff.2 ⟨g2.2, by rw [g2.1]; exact h.2.2.1, by rw [g2.1]; exact h.2.2.2.1.bits'⟩)
    go_wp2
    refine bodyPost_ret (ret4t Try.results27 _ _ _ _ _ _ rfl rfl rfl rfl) rfl ?_
    exact PtPost.none HNO.out H3s.out.2.1
end Go.Proofs.Ytgcgblecendijaa
