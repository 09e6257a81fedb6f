/-
  RgaPlaces (4): the law's walk.
-/
import Derived.Test.YtiglenomigipmaaSX
namespace Go.Proofs.Ytiglenomigipmaa
open Go.RowKit Go.Shelf
attribute [local go_sem] Oper.semAt_some
section
variable {oi : Oper} {a : Act} {w : World}
theorem x_st29 {x y : Operand} {g : Nat} {va : Option Addr} {n c : Nat} {u : Value} (hop : oi.op = .store 29 x y) (hx : a.eval x = .pointer (some ⟨g, 0, none⟩)) (hy : a.eval y = .agg #[.slice va n c]) (hr : RowIs w g 29 [u]) : (execOp a.eval oi).run Try.prog w = .ok .skip (w.setRow g #[.slice va n c]) := by
  unfold execOp
  have := run_storeVar_row (P := Try.prog) w g 29 29 #[u] #[.slice va n c] hr (size29 _) rfl (by simp [Value.oneCell'])
  simp only [hop, hx, hy, Instr.storeAt, Instr.sureAddr, Sem.run_bind, Sem.run_pure, Result.andThen_ok, this]
theorem size33r (p : Put) : (Try.prog.info? 33).map (·.size) = some (pcell p).length := by show _ = some 8; kernel_rfl
theorem x_ld33m {x : Operand} {g q : Nat} {p : Put} (hop : oi.op = .load 33 x) (hx : a.eval x = .pointer (some ⟨g, q, none⟩)) (hr : w.rangeAt g q (pcell p)) : (execOp a.eval oi).run Try.prog w = .ok (.value (.agg (pcell p).toArray)) w := by
  unfold execOp
  simp only [hop, hx, Instr.loadAt, Instr.sureAddr, Sem.run_bind, Sem.run_pure, Result.andThen_ok, run_loadVar_mid w g q 33 (pcell p) _ hr Try.underlying33 rfl (size33r p)]
theorem x_idx22 {x y : Operand} {b f n c k : Nat} (hop : oi.op = .indexAddr 22 x y) (hx : a.eval x = .slice (some ⟨b, f, none⟩) n c) (hy : a.eval y = .int .i64 (k : Int)) (hk : k < n) : (execOp a.eval oi).run Try.prog w = .ok (.value (.pointer (some ⟨b, f + k * 8, none⟩))) w := by
  have hk' : (k : Int) < (n : Int) := by omega
  have hz0 : (Try.prog.info? 33).map (·.size) = some 8 := by kernel_rfl
  obtain ⟨i, hi, hz⟩ := Option.map_eq_some_iff.1 hz0
  unfold execOp; simp only [hop, hx, hy]; simp [go_sem, hk', hi, hz, sizeOf, typeInfo]
theorem x_neb {x y : Operand} {b : Bool} (hop : oi.op = .binOp .neq 4 x y 4) (hx : a.eval x = .bool b) (hy : a.eval y = .bool b) : (execOp a.eval oi).run Try.prog w = .ok (.value (.bool false)) w := by
  unfold execOp; simp only [hop, hx, hy]
  cases b <;> simp [go_sem]
end
/-- Two rows that stand alike, in memory: the reference's in a box. -/
structure BothAt (w : World) (base g gb : Nat) (N : Nat) (st : List Stm) (l : List RC) (D : RwD) (va : Option Addr) (n c : Nat) : Prop where
  row : RowAt w base g st D
  box : RowIs w gb 29 [.slice va n c]
  ref : RowR w base (.slice va n c) l
  ali : Alike st l
  few : st.length ≤ N
theorem BothAt.after {w w' : World} {base g gb N : Nat} {st : List Stm} {l : List RC} {D : RwD} {va : Option Addr} {n c : Nat} (h : BothAt w base g gb N st l D va n c) (ha : After w w') : BothAt w' base g gb N st l D va n c := ⟨h.row.after ha, h.box.below ha h.box.lt, h.ref.after ha, h.ali, h.few⟩
theorem BothAt.ref_len {w : World} {base g gb N : Nat} {st : List Stm} {l : List RC} {D : RwD} {va : Option Addr} {n c : Nat} (h : BothAt w base g gb N st l D va n c) : l.length = n ∧ n + 1 = st.length := ⟨h.ref.cap.1, by have := h.ref.cap.1; have := h.ali.lnk.len; omega⟩
/-- A put, on both, into the box. -/
theorem BothAt.put {w w' : World} {base g gb N : Nat} {st : List Stm} {l : List RC} {D D' : RwD} {va va' : Option Addr} {n c n' c' : Nat} {p : Put} (h : BothAt w base g gb N st l D va n c) (hp : p.Ok) (hr : RowAt w' base g (stN st l p) D') (hv : RowR w' base (.slice va' n' c') (rlN l p)) (hk : KeptF (Foot g D) w w') : BothAt (w'.setRow gb #[.slice va' n' c']) base g gb (N + 1) (stN st l p) (rlN l p) D' va' n' c' := by
  have hb := h.row.box29 hk h.box
  have hx := h.ali.next h.ref.1 hp
  exact ⟨hr.put29 hb _, hb.setRow _, hv.put29 hb _, hx.1, Nat.le_trans hx.2 (Nat.succ_le_succ h.few)⟩
theorem kept_after {w0 w w' : World} {g : Nat} {st : List Stm} {D : RwD} (h : RowAt w w0.heap.size g st D) (ha : After w0 w) (hk : KeptF (Foot g D) w w') : After w0 w' := Below.trans ha (hk.below ha.size (fun _ hx => (h.foot hx).1))
theorem do_both {w : World} {base g gb N : Nat} {st : List Stm} {l : List RC} {D : RwD} {va : Option Addr} {n c : Nat} (h : BothAt w base g gb N st l D va n c) (hN : N ≤ 1000) (hb : base ≤ w.heap.size) {p : Put} (hp : p.Ok) :
    Calls Try.prog 14 #[.pointer (some ⟨g, 0, none⟩), .agg #[.slice va n c], .agg (pcell p).toArray] w fun e w' => ∃ va' n' c' D', e = .returned (.tuple #[.agg #[.slice va' n' c'], .bool true]) ∧ RowAt w' base g (stN st l p) D' ∧ RowR w' base (.slice va' n' c') (rlN l p) ∧ KeptF (Foot g D) w w' := by
  have h1 := h.few
  have h2 := h.ali.lnk.len
  refine Calls.mono (do_any h.row h.ref hb h.ali.wf h.ali.lnk (by omega) (by omega) hp) (fun e w' ⟨v', D', he, hr, hv, _, hk⟩ => ?_)
  obtain ⟨va', c', rfl⟩ := hv.sl
  exact ⟨va', _, c', D', he, hr, hv, hk⟩
theorem at_two {st : List Stm} {l : List RC} (h : Alike st l) (hs : st.length ≤ 1000) {p : Int} (h1 : -9223372036854775808 ≤ p) (h2 : p < 9223372036854775808) : ∃ (y : Idn) (b : Bool), (y.Ok ∧ True) ∧
    (∀ {w : World} {base g : Nat} {D : RwD}, RowAt w base g st D → Calls Try.prog 15 #[.pointer (some ⟨g, 0, none⟩), .int .i64 p] w fun e w' => e = .returned (.tuple #[idv y, .bool b]) ∧ After w w') ∧
    (∀ {w : World} {base : Nat} {v : Value}, RowR w base v l → Calls Try.prog 16 #[.agg #[v], .int .i64 p] w fun e w' => e = .returned (.tuple #[idv y, .bool b]) ∧ After w w') := by
  obtain ⟨U, hU⟩ := h.wf.order
  have hs2 := at_same h.wf h.lnk h.kid hU (Nat.le_refl _) (by omega) h1 h2
  refine ⟨atId st (U.filter (live st)) p, (atL (U.filter (live st)) p).isSome, ⟨?_, trivial⟩, fun {w base g D} hr => Calls.mono (At_any hr h.wf (by omega) p) (fun e w' ⟨U', hU', he, ha⟩ => ?_), fun {w base v} hr => Calls.mono (rAt_all hr h hs p) (fun e w' ⟨he, ha⟩ => ⟨?_, ha⟩)⟩
  · unfold atId
    cases hq : atL (U.filter (live st)) p with
    | none => exact zId_ok
    | some t =>
      show (idAt st t).Ok
      cases ht : st[t]? with
      | none => unfold idAt; rw [ht]; exact zId_ok
      | some s => rw [idAt_of ht]; exact h.wf.ok t s ht
  · rw [hU'.uniq hU] at he; exact ⟨he, ha⟩
  · rw [hs2.1, hs2.2] at he; exact he
set_option maxRecDepth 100000 in
set_option maxHeartbeats 6400000 in
theorem places_any {w : World} {va : Option Addr} {n cap : Nat} {ps : List Put} (hn : ps.length = n) (hok : ∀ p ∈ ps, p.Ok) (hin : PutsIn w va ps) :
    Calls Try.prog 4 #[.slice va n cap] w fun e w' => e = .returned (.bool true) ∧ After w w' := by
  by_cases h120 : n ≤ 120
  · have HD : Hid (decide (n ≤ 120) = true) := decide_eq_true h120
    have HIN : Hid (ps.length = n ∧ (∀ p ∈ ps, p.Ok) ∧ PutsIn w va ps) := ⟨hn, hok, hin⟩
    clear hn hok hin
    go_enter Try.func4, Try.ntmps4
    go_wp2_with (first
      | (go_at_call 11; refine Calls.mono (few_any va n cap) ?_; rintro e w0 ⟨rfl, rfl⟩; rw [HD.out])
      | (go_at_call 13; refine Calls.mono (New_any _) ?_; rintro e w1 ⟨g, D0, rfl, hr1, ha1⟩; have H1 := show Hid (RowAt w1 w0.heap.size g [root] D0 ∧ After w0 w1) from ⟨hr1, ha1⟩; clear hr1 ha1)
      | (refine wpList_of_run rfl (x_al29 rfl) ?_))
    obtain ⟨w, hw⟩ : ∃ w, w = w0 := ⟨_, rfl⟩
    subst hw
    obtain ⟨W2, hW2⟩ : ∃ W2, w1.alloc (.cells #[.slice none 0 0] 29) = W2 := ⟨_, rfl⟩
    obtain ⟨gb, hgb⟩ : ∃ gb, w1.heap.size = gb := ⟨_, rfl⟩
    have H2 : Hid (BothAt W2 w.heap.size g gb 1 [root] [] D0 none 0 0 ∧ After w W2) := by
      rw [← hW2, ← hgb]
      have hx := after_alloc (After.refl w1) (.cells #[.slice none 0 0] 29)
      exact ⟨⟨H1.out.1.after hx, RowIs.new w1 29 _, RowR.nil _ _, alike_nil, Nat.le_refl _⟩, H1.out.2.trans hx⟩
    have HGB : Hid (w.heap.size ≤ gb) := by rw [← hgb]; exact H1.out.2.size
    rw [hW2, hgb]
    clear hW2 hgb H1
    go_wp2_with fail
    go_loopw [5] (fun vi wr => ∃ i : Nat, vi = .int .i64 (i : Int) ∧ i ≤ n ∧ ∃ st l D ra rn rc, Hid (BothAt wr w.heap.size g gb (i + 1) st l D ra rn rc ∧ After w wr)) (fun vi _ => n - (intOf vi).toNat)
    case atStart => exact ⟨0, rfl, Nat.zero_le _, _, _, _, _, _, _, H2⟩
    case round =>
      obtain ⟨i, rfl, hin, st, l, D, ra, rn, rc, HJ⟩ := hrel
      by_cases hlt : i < n
      · have hii : (i : Int) < (n : Int) := by omega
        obtain ⟨p, hp⟩ : ∃ p, ps[i]? = some p := ⟨_, List.getElem?_eq_getElem (by rw [HIN.out.1]; exact hlt)⟩
        obtain ⟨pb, po, hva, hpr⟩ := HIN.out.2.2 (fun e => by rw [e] at hp; simp at hp)
        subst hva
        have HP : Hid (p.Ok ∧ i < n ∧ w.rangeAt pb (po + i * 8) (pcell p)) := ⟨HIN.out.2.1 p (List.mem_of_getElem? hp), hlt, hpr i p hp⟩
        clear hp hpr
        go_wp2_with fail
        refine wp_region_noPanic ?_
        refine wp_region_held_drew (S := After w) (by kernel_rfl) (HJ.out.2.trans (After.drew (After.refl _))) ?_
        intro hS0
        refine tk 0 23 (.pointer (some ⟨g, 0, none⟩)) (fuel := 10) rfl (by kernel_rfl) (by kernel_rfl) (by kernel_rfl) (by kernel_rfl) noPanic_false (by kernel_rfl) (fun _ _ => by kernel_rfl) hS0 ?_
        refine tk 2 25 (.slice (some ⟨pb, po, none⟩) n cap) (fuel := 9) rfl (by kernel_rfl) (by kernel_rfl) (by kernel_rfl) (by kernel_rfl) noPanic_false (by kernel_rfl) (fun _ _ => by kernel_rfl) hS0 ?_
        refine tk 3 26 (.int .i64 (i : Int)) (fuel := 8) rfl (by kernel_rfl) (by kernel_rfl) (by kernel_rfl) (by kernel_rfl) noPanic_false (by kernel_rfl) (fun _ _ => by kernel_rfl) hS0 ?_
        refine tk 4 27 (.pointer (some ⟨pb, po + i * 8, none⟩)) (fuel := 7) rfl (by kernel_rfl) (by kernel_rfl) (by kernel_rfl) (by kernel_rfl) noPanic_false (by kernel_rfl) (fun W hW => x_idx22 (x := .tmp 25) (y := .tmp 26) (b := pb) (f := po) (n := n) (c := cap) (k := i) (by kernel_rfl) (by kernel_rfl) (by kernel_rfl) HP.out.2.1) hS0 ?_
        refine tk 5 28 (.agg (pcell p).toArray) (fuel := 6) rfl (by kernel_rfl) (by kernel_rfl) (by kernel_rfl) (by kernel_rfl) noPanic_false (by kernel_rfl) (fun W hW => x_ld33m (x := .tmp 27) (g := pb) (q := po + i * 8) (by kernel_rfl) (by kernel_rfl) (range_after HP.out.2.2 hW)) hS0 ?_
        have hB0 := HJ.out.1.after (After.drew (After.refl wr))
        refine tkRunS 1 24 (.agg #[.slice ra rn rc]) (wr.drew) (fuel := 5) rfl (by kernel_rfl) (by kernel_rfl) (by kernel_rfl) (x_ld29 (x := .tmp 4) (g := gb) (by kernel_rfl) (by kernel_rfl) hB0.box) (hS0) ?_
        refine tkCallZ 6 29 14 #[.pointer (some ⟨g, 0, none⟩), .agg #[.slice ra rn rc], .agg (pcell p).toArray] (fun v w' => ∃ va' n' c' D', v = .tuple #[.agg #[.slice va' n' c'], .bool true] ∧ RowAt w' w.heap.size g (stN st l p) D' ∧ RowR w' w.heap.size (.slice va' n' c') (rlN l p) ∧ KeptF (Foot g D) wr.drew w') (fuel := 4) rfl (by kernel_rfl) (by kernel_rfl) (by kernel_rfl) (fun _ => by kernel_rfl) (Calls.mono (do_both hB0 (by omega) hS0.size HP.out.1) (fun e w' ⟨va', n', c', D', he, h1, h2, h3⟩ => ⟨_, he, va', n', c', D', rfl, h1, h2, h3⟩)) ?_
        intro v6 w6 ⟨ra6, rn6, rc6, D6, hv6, hr6, hx6, hk6⟩
        subst hv6
        have ha6 : After w w6 := kept_after hB0.row hS0 hk6
        have hb6 := hB0.row.box29 hk6 hB0.box
        refine ⟨ha6, ?_⟩
        refine tk 7 22 (.tuple #[.agg #[.slice ra6 rn6 rc6], .bool true]) (fuel := 3) rfl (by kernel_rfl) (by kernel_rfl) (by kernel_rfl) (by kernel_rfl) noPanic_false (by kernel_rfl) (fun _ _ => by kernel_rfl) ha6 ?_
        refine tk 8 30 (.agg #[.slice ra6 rn6 rc6]) (fuel := 2) rfl (by kernel_rfl) (by kernel_rfl) (by kernel_rfl) (by kernel_rfl) noPanic_false (by kernel_rfl) (fun _ _ => by kernel_rfl) ha6 ?_
        refine tk 9 31 (.bool true) (fuel := 1) rfl (by kernel_rfl) (by kernel_rfl) (by kernel_rfl) (by kernel_rfl) noPanic_false (by kernel_rfl) (fun _ _ => by kernel_rfl) ha6 ?_
        have ha7 : After w (w6.setRow gb #[.slice ra6 rn6 rc6]) := Below.row ha6 HGB.out _
        refine tkStoreS 10 (w6.setRow gb #[.slice ra6 rn6 rc6]) (fuel := 0) rfl (by kernel_rfl) (by kernel_rfl) (by kernel_rfl) (x_st29 (x := .tmp 4) (y := .tmp 30) (g := gb) (by kernel_rfl) (by kernel_rfl) (by kernel_rfl) hb6) (ha7) ?_
        refine wpAnyH_done (by kernel_rfl) (NoPanic.normal ?_) _
        have H7 := show Hid (BothAt (w6.setRow gb #[.slice ra6 rn6 rc6]) w.heap.size g gb (i + 1 + 1) (stN st l p) (rlN l p) D6 ra6 rn6 rc6 ∧ After w (w6.setRow gb #[.slice ra6 rn6 rc6])) from ⟨hB0.put HP.out.1 hr6 hx6 hk6, ha7⟩
        obtain ⟨W7, hW7⟩ : ∃ W7, w6.setRow gb #[.slice ra6 rn6 rc6] = W7 := ⟨_, rfl⟩
        rw [hW7] at H7 ⊢
        clear hW7 ha7 hb6 ha6 hr6 hx6 hk6 hB0 hS0
        go_simp
        go_wp2_with fail
        go_roundw
        case rel => exact ⟨i + 1, by go_num, by omega, _, _, _, _, _, _, H7⟩
        case measure => simp [intOf]; omega
      · obtain rfl : i = n := by omega
        have hii : ¬ (i : Int) < (i : Int) := by omega
        obtain ⟨wX, hwX⟩ : ∃ wX, wX = wr := ⟨_, rfl⟩
        subst hwX
        have hrn : rn ≤ 120 := by have := HJ.out.1.ref_len; have := HJ.out.1.few; omega
        go_wp2_with fail
        go_loopw [6] (fun vj wr => ∃ j : Nat, vj = .int .i64 ((j : Int) - 1) ∧ j ≤ rn + 2 ∧ Hid (After wX wr)) (fun vj _ => (rn + 1 - (intOf vj)).toNat)
        case atStart => exact ⟨0, rfl, by omega, After.refl wX⟩
        case round =>
          obtain ⟨wj, hwj⟩ : ∃ wj, wj = wr := ⟨_, rfl⟩
          subst hwj
          obtain ⟨j, rfl, hjm, HA⟩ := hrel
          have HB : Hid (BothAt wj w.heap.size g gb (i + 1) st l D ra rn rc) := HJ.out.1.after HA.out
          have cB : wj.cell? ⟨gb, 0, none⟩ = some (.slice ra rn rc) := HB.out.box.cell rfl
          by_cases hle : j ≤ rn + 1
          · have hji : ((j : Int) - 1) ≤ (rn : Int) := by omega
            obtain ⟨y, b, hy, hC1, hC2⟩ := at_two HB.out.ali (by have := HB.out.few; omega) (p := (j : Int) - 1) (by omega) (by omega)
            have HY : Hid (y.Ok) := hy.1
            have HC1 : Hid (∀ {w : World} {base g : Nat} {D : RwD}, RowAt w base g st D → Calls Try.prog 15 #[.pointer (some ⟨g, 0, none⟩), .int .i64 ((j : Int) - 1)] w fun e w' => e = .returned (.tuple #[idv y, .bool b]) ∧ After w w') := hC1
            have HC2 : Hid (∀ {w : World} {base : Nat} {v : Value}, RowR w base v l → Calls Try.prog 16 #[.agg #[v], .int .i64 ((j : Int) - 1)] w fun e w' => e = .returned (.tuple #[idv y, .bool b]) ∧ After w w') := hC2
            clear hC1 hC2 hy
            go_wp2_with (first
              | (go_at_call 15; refine Calls.mono (HC1.out HB.out.row) ?_; rintro e w3 ⟨rfl, ha3⟩; obtain ⟨W4, hW4⟩ : ∃ W4, (w3.alloc (.cells (idc zId).toArray 37)).setRow w3.heap.size (idc y).toArray = W4 := ⟨_, rfl⟩; have HG4 := show Hid _ from hW4; have HZ4 := show Hid (RowIs (w3.alloc (.cells (idc zId).toArray 37)) w3.heap.size 37 (idc zId)) from RowIs.new w3 37 _; have H4 := show Hid (RowIs W4 w3.heap.size 37 (idc y) ∧ After wj W4 ∧ BothAt W4 w.heap.size g gb (i + 1) st l D ra rn rc) from (fun hx : After w3 W4 => ⟨by rw [← hW4]; exact HZ4.out.setRow _, ha3.trans hx, HB.out.after (ha3.trans hx)⟩) (by rw [← hW4]; exact Below.row (after_alloc (After.refl w3) _) (Nat.le_refl _) _); clear ha3 hW4)
              | (refine wpList_of_run rfl (x_al37 rfl) ?_)
              | (refine wpList_store_row rfl 37 (.tmp 7) (.tmp 43) rfl w3.heap.size (idc y).toArray rfl rfl 37 _ HZ4.out (size37 HY.out) (by simp [idc_len HY.out, idc_len zId_ok]) (by simpa using idc_one y) ?_; rw [HG4.out])
              | (refine wpList_load_row rfl 29 (.tmp 4) rfl gb rfl 29 #[.slice ra rn rc] (0, 0) _ H4.out.2.2.box Try.underlying29 rfl (size29 _) ?_)
              | (go_at_call 16; refine Calls.mono (HC2.out H4.out.2.2.ref) ?_; rintro e w5 ⟨rfl, ha5⟩; obtain ⟨W6, hW6⟩ : ∃ W6, (w5.alloc (.cells (idc zId).toArray 40)).setRow w5.heap.size (idc y).toArray = W6 := ⟨_, rfl⟩; have HG6 := show Hid _ from hW6; have HZ6 := show Hid (RowIs (w5.alloc (.cells (idc zId).toArray 40)) w5.heap.size 40 (idc zId)) from RowIs.new w5 40 _; have H6 := show Hid (RowIs W6 w5.heap.size 40 (idc y) ∧ After wj W6 ∧ RowIs W6 w3.heap.size 37 (idc y)) from (fun hx : After w5 W6 => ⟨by rw [← hW6]; exact HZ6.out.setRow _, H4.out.2.1.trans (ha5.trans hx), H4.out.1.below (ha5.trans hx) H4.out.1.lt⟩) (by rw [← hW6]; exact Below.row (after_alloc (After.refl w5) _) (Nat.le_refl _) _); clear ha5 hW6)
              | (refine wpList_of_run rfl (x_al40 rfl) ?_)
              | (refine wpList_store_row rfl 40 (.tmp 9) (.tmp 49) rfl w5.heap.size (idc y).toArray rfl rfl 40 _ HZ6.out (size40 HY.out) (by simp [idc_len HY.out, idc_len zId_ok]) (by simpa using idc_one y) ?_; rw [HG6.out]))
            refine wp_region_noPanic ?_
            refine wp_region_held_drew (S := After W6) (by kernel_rfl) (After.drew (After.refl _)) ?_
            intro hS0
            refine tk 0 51 (idv y) (fuel := 8) rfl (by kernel_rfl) (by kernel_rfl) (by kernel_rfl) (by kernel_rfl) noPanic_false (by kernel_rfl) (fun W hW => x_ld37m (x := .tmp 7) (g := w3.heap.size) (p := 0) HY.out (by kernel_rfl) (by kernel_rfl) (H6.out.2.2.below hW H6.out.2.2.lt).range0) hS0 ?_
            refine tk 1 52 (idv y) (fuel := 7) rfl (by kernel_rfl) (by kernel_rfl) (by kernel_rfl) (by kernel_rfl) noPanic_false (by kernel_rfl) (fun W hW => x_ld40m (x := .tmp 9) (g := w5.heap.size) (p := 0) HY.out (by kernel_rfl) (by kernel_rfl) (H6.out.1.below hW H6.out.1.lt).range0) hS0 ?_
            refine tkCallZ 2 53 18 #[idv y] (fun v w' => v = idv y ∧ After W6 w') (fuel := 6) rfl (by kernel_rfl) (by kernel_rfl) (by kernel_rfl) (fun _ => by kernel_rfl) (Calls.mono (own_any HY.out _) (fun e w' ⟨he, ha⟩ => ⟨_, he, rfl, hS0.trans ha⟩)) ?_
            intro v9 w9 ⟨hv9, ha9⟩
            subst hv9
            refine ⟨ha9, ?_⟩
            refine tk 3 54 (.bool false) (fuel := 5) rfl (by kernel_rfl) (by kernel_rfl) (by kernel_rfl) (by kernel_rfl) noPanic_false (by kernel_rfl) (fun W hW => (x_neId (x := .tmp 51) (y := .tmp 53) (h := y) (k := y) HY.out HY.out (by kernel_rfl) (by kernel_rfl) (by kernel_rfl)).trans (by simp)) ha9 ?_
            refine tk 4 55 (.bool false) (fuel := 4) rfl (by kernel_rfl) (by kernel_rfl) (by kernel_rfl) (by kernel_rfl) noPanic_false (by kernel_rfl) (fun _ _ => by kernel_rfl) ha9 ?_
            refine tk 5 56 (.bool b) (fuel := 3) rfl (by kernel_rfl) (by kernel_rfl) (by kernel_rfl) (by kernel_rfl) noPanic_false (by kernel_rfl) (fun _ _ => by kernel_rfl) ha9 ?_
            refine tk 6 57 (.bool b) (fuel := 2) rfl (by kernel_rfl) (by kernel_rfl) (by kernel_rfl) (by kernel_rfl) noPanic_false (by kernel_rfl) (fun _ _ => by kernel_rfl) ha9 ?_
            refine tk 7 58 (.bool false) (fuel := 1) rfl (by kernel_rfl) (by kernel_rfl) (by kernel_rfl) (by kernel_rfl) noPanic_false (by kernel_rfl) (fun W hW => x_neb (x := .tmp 56) (y := .tmp 57) (b := b) (by kernel_rfl) (by kernel_rfl) (by kernel_rfl)) ha9 ?_
            refine tk 8 59 (.bool false) (fuel := 0) rfl (by kernel_rfl) (by kernel_rfl) (by kernel_rfl) (by kernel_rfl) noPanic_false (by kernel_rfl) (fun _ _ => by kernel_rfl) ha9 ?_
            refine wpAnyH_done (by kernel_rfl) (NoPanic.normal ?_) _
            have H9 := show Hid (After wj w9) from H6.out.2.1.trans ha9
            clear ha9 hS0
            go_simp
            go_wp2_with fail
            go_roundw
            case rel => exact ⟨j + 1, by go_num, by omega, HA.out.trans H9.out⟩
            case measure => simp [intOf]; omega
          · obtain rfl : j = rn + 2 := by omega
            have hji : ¬ (((rn + 2 : Nat) : Int) - 1) ≤ (rn : Int) := by omega
            go_wp2_with (first
              | (go_at_call 12; refine Calls.mono (awake_any _) ?_; rintro e w8 ⟨rfl, ha8⟩; have H8 := show Hid (After w w8) from (HJ.out.2.trans HA.out).trans ha8; clear ha8))
            go_ret
            exact ⟨rfl, H8.out⟩
  · have HD : Hid (decide (n ≤ 120) = false) := decide_eq_false h120
    clear hn hok hin
    go_enter Try.func4, Try.ntmps4
    go_wp2_with (first
      | (go_at_call 11; refine Calls.mono (few_any va n cap) ?_; rintro e w0 ⟨rfl, rfl⟩; rw [HD.out])
      | (go_at_call 12; refine Calls.mono (awake_any _) ?_; rintro e w8 ⟨rfl, ha8⟩; have H8 := show Hid (After w0 w8) from ha8; clear ha8))
    go_ret
    exact ⟨rfl, H8.out⟩
end Go.Proofs.Ytiglenomigipmaa
