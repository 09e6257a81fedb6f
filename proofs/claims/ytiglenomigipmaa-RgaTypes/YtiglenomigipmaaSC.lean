/-
  The reference's row: its cells; Find (30).
-/
import Derived.Test.YtiglenomigipmaaSB
namespace Go.Proofs.Ytiglenomigipmaa
open Go.RowKit Go.Shelf
attribute [local go_sem] Oper.semAt_some
structure RC where
  id : Idn
  af : Idn
  ch : UInt8
  gone : Bool
structure RC.Ok (c : RC) : Prop where
  id : c.id.Ok
  af : c.af.Ok
def rcell (c : RC) : List Value := idc c.id ++ (idc c.af ++ [.int .u8 (c.ch.toNat : Int), .bool c.gone])
theorem rcell_len {c : RC} (h : c.Ok) : (rcell c).length = 68 := by simp [rcell, idc_len h.id, idc_len h.af]
/-- A row of the reference in memory: its cells, in a row that is its own. -/
def RowR (w : World) (base : Nat) (v : Value) (l : List RC) : Prop := (∀ c ∈ l, c.Ok) ∧ OwnL w base 68 68 v (l.map rcell)
theorem RowR.nil (w : World) (base : Nat) : RowR w base (.slice none 0 0) [] := ⟨fun _ h => by simp at h, OwnL.nil w base 68 68⟩
theorem RowR.same {w w' : World} {base : Nat} {v : Value} {l : List RC} (h : RowR w base v l) (hs : ∀ b, v.ownBlock = some b → w'.heap[b]? = w.heap[b]?) : RowR w' base v l := ⟨h.1, h.2.same hs⟩
theorem RowR.after {w w' : World} {base : Nat} {v : Value} {l : List RC} (h : RowR w base v l) (ha : After w w') : RowR w' base v l := h.same (fun b hb => ha.block b (own_lt h.2.2 hb).2.1)
theorem RowR.mono {w : World} {base base' : Nat} {v : Value} {l : List RC} (h : RowR w base v l) (hb : base' ≤ base) : RowR w base' v l := ⟨h.1, h.2.1, own_mono h.2.2 hb⟩
theorem RowR.sl {w : World} {base : Nat} {v : Value} {l : List RC} (h : RowR w base v l) : ∃ va c, v = .slice va l.length c := by
  rcases own_row h.2.2 with ⟨hv, h0, _⟩ | ⟨g, cap, cs, hv, _⟩
  · rw [List.length_map] at h0; rw [h0]; exact ⟨none, 0, hv⟩
  · rw [List.length_map] at hv; exact ⟨_, _, hv⟩
theorem RowR.at {w : World} {base : Nat} {va : Option Addr} {n cap : Nat} {l : List RC} (h : RowR w base (.slice va n cap) l) {i : Nat} {c : RC} (hc : l[i]? = some c) : ∃ g, va = some ⟨g, 0, none⟩ ∧ i < n ∧ w.rangeAt g (0 + i * 68) (rcell c) := by
  have h1 : (l.map rcell)[i]? = some (rcell c) := by rw [List.getElem?_map, hc]; rfl
  obtain ⟨g, cap', cs, he, _⟩ := h.2.row (fun e => by rw [e] at h1; simp at h1)
  cases he
  have := (List.getElem?_eq_some_iff.1 h1).1
  exact ⟨g, rfl, this, by rw [Nat.zero_add]; exact h.2.range h1⟩
theorem range_rid {w : World} {g p : Nat} {c : RC} (h : w.rangeAt g p (rcell c)) : w.rangeAt g p (idc c.id) := fun j u hu => h j u (by unfold rcell; rw [List.getElem?_append_left (List.getElem?_eq_some_iff.1 hu).1]; exact hu)
/-- Where an id stands. -/
def rplc (l : List RC) (x : Idn) : Option Nat := l.findIdx? (fun c => decide (c.id = x))
def fv : Option Nat → Int
  | some i => (i : Int)
  | none => -1
theorem rplc_some {l : List RC} {x : Idn} {i : Nat} {c : RC} (hc : l[i]? = some c) (he : c.id = x) (hn : ∀ (j : Nat) (d : RC), j < i → l[j]? = some d → d.id ≠ x) : rplc l x = some i := by
  unfold rplc
  rw [List.findIdx?_eq_some_iff_getElem]
  obtain ⟨hi, hg⟩ := List.getElem?_eq_some_iff.1 hc
  refine ⟨hi, by rw [hg]; exact decide_eq_true he, fun j hj => ?_⟩
  have := hn j _ hj (List.getElem?_eq_getElem (by omega))
  simpa using this
theorem rplc_none {l : List RC} {x : Idn} (hn : ∀ (j : Nat) (d : RC), l[j]? = some d → d.id ≠ x) : rplc l x = none := by
  unfold rplc
  rw [List.findIdx?_eq_none_iff]
  intro d hd
  obtain ⟨j, hj⟩ := List.getElem?_of_mem hd
  simpa using hn j d hj
theorem size40r {x : Idn} (h : x.Ok) : (Try.prog.info? 40).map (·.size) = some (idc x).length := by rw [idc_len h]; kernel_rfl
section
variable {oi : Oper} {a : Act} {w : World}
theorem x_ld40m {x : Operand} {g p : Nat} {y : Idn} (hy : y.Ok) (hop : oi.op = .load 40 x) (hx : a.eval x = .pointer (some ⟨g, p, none⟩)) (hc : w.rangeAt g p (idc y)) : (execOp a.eval oi).run Try.prog w = .ok (.value (idv y)) w := by
  unfold execOp
  simp only [hop, hx, Instr.loadAt, Instr.sureAddr, Sem.run_bind, Sem.run_pure, Result.andThen_ok, run_loadVar_mid w g p 40 (idc y) _ hc Try.underlying40 rfl (size40r hy)]
  rfl
theorem x_idx27 {x y : Operand} {b f n c k : Nat} (hop : oi.op = .indexAddr 27 x y) (hx : a.eval x = .slice (some ⟨b, f, none⟩) n c) (hy : a.eval y = .int .i64 (k : Int)) (hk : k < n) : (execOp a.eval oi).run Try.prog w = .ok (.value (.pointer (some ⟨b, f + k * 68, none⟩))) w := by
  have hk' : (k : Int) < (n : Int) := by omega
  have hz0 : (Try.prog.info? 68).map (·.size) = some 68 := by kernel_rfl
  obtain ⟨i, hi, hz⟩ := Option.map_eq_some_iff.1 hz0
  unfold execOp; simp only [hop, hx, hy]; simp [go_sem, hk', hi, hz, sizeOf, typeInfo]
theorem eqId40 (x y : Idn) (hx : x.Ok) (hy : y.Ok) (w : World) : (Op.equalIn 10000 40 (idv x) (idv y)).run Try.prog w = .ok (decide (x = y)) w := by
  have u3 := Try.underlying3
  have hS : Try.prog.underlying 40 = some (.struct (Try.prog.fieldsOf 40)) := by kernel_rfl
  have hp : Try.prog.stoodInHeld 40 = false := by kernel_rfl
  have a3 : ∀ w, (isAgg 3).run Try.prog w = .ok false w := fun w => by unfold isAgg; rw [Sem.run_bind, run_underlying u3 w]; rfl
  have h35 := eq35d x.b y.b hx.len hy.len w
  unfold idv
  rw [show (10000 : Nat) = 9999 + 1 from rfl, run_equalIn_agg w 9999 40 _ _ hS hp]
  simp only [Program.fieldsOf, Try.underlying40]
  have t1 : List.take 32 (idc x).tail = c8 x.b := by rw [show (idc x).tail = c8 x.b from rfl, List.take_of_length_le (by rw [c8_len, hx.len]; omega)]
  have t2 : List.take 32 (idc y).tail = c8 y.b := by rw [show (idc y).tail = c8 y.b from rfl, List.take_of_length_le (by rw [c8_len, hy.len]; omega)]
  have z1 : (idc x)[0]? = some (.int .i64 x.c) := rfl
  have z2 : (idc y)[0]? = some (.int .i64 y.c) := rfl
  go_simp
  have e : (x = y) ↔ (x.c = y.c ∧ x.b = y.b) := by
    constructor
    · intro h; subst h; exact ⟨rfl, rfl⟩
    · rintro ⟨h1, h2⟩; cases x; cases y; simp_all
  by_cases h1 : x.c = y.c <;> by_cases h2 : x.b = y.b <;> simp [e, h1, h2]
theorem x_eqId40 {x y : Operand} {h k : Idn} (hh : h.Ok) (hk : k.Ok) (hop : oi.op = .binOp .eql 40 x y 40) (hx : a.eval x = idv h) (hy : a.eval y = idv k) : (execOp a.eval oi).run Try.prog w = .ok (.value (.bool (decide (h = k)))) w := by
  have he := eqId40 h k hh hk w
  have hm : Try.prog.eqGuardType Try.prog.depth 40 = false := by kernel_rfl
  unfold idv at he hx hy
  unfold execOp
  simp only [hop, hx, hy, Sem.run_bind, run_eqGuard_agg w .eql 40 x y _ _ hm, run_eql_struct, he, Result.andThen_ok]
  rfl
theorem x_neId40 {x y : Operand} {h k : Idn} (hh : h.Ok) (hk : k.Ok) (hop : oi.op = .binOp .neq 40 x y 40) (hx : a.eval x = idv h) (hy : a.eval y = idv k) : (execOp a.eval oi).run Try.prog w = .ok (.value (.bool (!decide (h = k)))) w := by
  have he := eqId40 h k hh hk w
  have hm : Try.prog.eqGuardType Try.prog.depth 40 = false := by kernel_rfl
  unfold idv at he hx hy
  unfold execOp
  simp only [hop, hx, hy, Sem.run_bind, run_eqGuard_agg w .neq 40 x y _ _ hm, run_neq_struct, he, Result.andThen_ok]
  rfl
end
set_option maxRecDepth 100000 in
set_option maxHeartbeats 6400000 in
theorem Find_any {w : World} {base : Nat} {v : Value} {l : List RC} (h : RowR w base v l) {x : Idn} (hx : x.Ok) (hl : l.length ≤ 1000000) :
    Calls Try.prog 30 #[.agg #[v], idv x] w fun e w' => e = .returned (.int .i64 (fv (rplc l x))) ∧ After w w' := by
  obtain ⟨va, cap, rfl⟩ := h.sl
  obtain ⟨W0, hW0⟩ : ∃ W0, (w.alloc (.cells #[.slice va l.length cap] 29)).alloc (.cells (idc x).toArray 40) = W0 := ⟨_, rfl⟩
  have HA : Hid (After w W0 ∧ RowIs W0 w.heap.size 29 [.slice va l.length cap] ∧ RowIs W0 (w.heap.size + 1) 40 (idc x)) := by
    rw [← hW0]
    refine ⟨after_alloc (after_alloc (After.refl w) _) _, (RowIs.new w 29 [.slice va l.length cap]).alloc _, ?_⟩
    have := RowIs.new (w.alloc (.cells #[.slice va l.length cap] 29)) 40 (idc x)
    rwa [World.size_alloc] at this
  have HR : Hid (RowR w base (.slice va l.length cap) l ∧ l.length ≤ 1000000) := ⟨h, hl⟩
  have HX : Hid x.Ok := hx
  obtain ⟨n, hn⟩ : ∃ n, l.length = n := ⟨_, rfl⟩
  rw [hn] at HA HR hW0 ⊢
  have HN : Hid (l.length = n) := hn
  clear h hx hl hn
  unfold idv
  go_enter Try.func30, Try.ntmps30
  go_wp2_with (rw [hW0])
  clear hW0
  go_loopw [5] (fun vi wr => ∃ i : Nat, vi = .int .i64 (i : Int) ∧ i ≤ n ∧ Hid ((∀ (j : Nat) (d : RC), j < i → l[j]? = some d → d.id ≠ x) ∧ After W0 wr)) (fun vi _ => n - (intOf vi).toNat)
  case atStart => exact ⟨0, rfl, Nat.zero_le _, fun j d hj => absurd hj (Nat.not_lt_zero _), After.refl W0⟩
  case round =>
    obtain ⟨i, rfl, hin, HJ⟩ := hrel
    have HB : Hid (RowIs wr w.heap.size 29 [.slice va n cap] ∧ RowIs wr (w.heap.size + 1) 40 (idc x)) := ⟨HA.out.2.1.below HJ.out.2 HA.out.2.1.lt, HA.out.2.2.below HJ.out.2 HA.out.2.2.lt⟩
    have cB : wr.cell? ⟨w.heap.size, 0, none⟩ = some (.slice va n cap) := HB.out.1.cell rfl
    by_cases hlt : i < n
    · have hii : (i : Int) < (n : Int) := by omega
      obtain ⟨c, hc⟩ : ∃ c, l[i]? = some c := ⟨_, List.getElem?_eq_getElem (by have := HN.out; omega)⟩
      obtain ⟨gs, hva, -, hr⟩ := (HR.out.1.after (HA.out.1.trans HJ.out.2)).at hc
      subst hva
      have HI : Hid (i < n ∧ c.id.Ok ∧ wr.rangeAt gs (0 + i * 68) (idc c.id)) := ⟨hlt, (HR.out.1.1 c (List.mem_of_getElem? hc)).id, range_rid hr⟩
      have HC : Hid (l[i]? = some c) := hc
      have hb6 : n ≤ 1000000 := HR.out.2
      clear hc hr
      by_cases hE : c.id = x
      · have HEQ : Hid (decide (c.id = x) = true) := decide_eq_true hE
        have HF : Hid (rplc l x = some i) := rplc_some HC.out hE HJ.out.1
        clear hE
        go_wp2_with fail
        refine wp_region_noPanic ?_
        refine wp_region_held_drew (S := After wr) (by kernel_rfl) (After.drew (After.refl _)) ?_
        intro hS0
        refine tk 0 13 (.pointer (some ⟨w.heap.size, 0, none⟩)) (fuel := 7) rfl (by kernel_rfl) (by kernel_rfl) (by kernel_rfl) (by kernel_rfl) noPanic_false (by kernel_rfl) (fun _ _ => by kernel_rfl) hS0 ?_
        refine tk 1 14 (.slice (some ⟨gs, 0, none⟩) n cap) (fuel := 6) rfl (by kernel_rfl) (by kernel_rfl) (by kernel_rfl) (by kernel_rfl) noPanic_false (by kernel_rfl) (fun W hW => x_loadT (x := .tmp 13) (t := 27) (g := w.heap.size) (j := 0) Try.underlying27 rfl (by kernel_rfl) (by kernel_rfl) ((HB.out.1.below hW HB.out.1.lt).cell (j := 0) rfl)) hS0 ?_
        refine tk 2 15 (pv i) (fuel := 5) rfl (by kernel_rfl) (by kernel_rfl) (by kernel_rfl) (by kernel_rfl) noPanic_false (by kernel_rfl) (fun _ _ => by kernel_rfl) hS0 ?_
        refine tk 3 16 (.pointer (some ⟨gs, 0 + i * 68, none⟩)) (fuel := 4) rfl (by kernel_rfl) (by kernel_rfl) (by kernel_rfl) (by kernel_rfl) noPanic_false (by kernel_rfl) (fun W hW => x_idx27 (x := .tmp 14) (y := .tmp 15) (b := gs) (f := 0) (n := n) (c := cap) (k := i) (by kernel_rfl) (by kernel_rfl) (by kernel_rfl) HI.out.1) hS0 ?_
        refine tk 4 17 (.pointer (some ⟨gs, 0 + i * 68, none⟩)) (fuel := 3) rfl (by kernel_rfl) (by kernel_rfl) (by kernel_rfl) (by kernel_rfl) noPanic_false (by kernel_rfl) (fun _ _ => by kernel_rfl) hS0 ?_
        refine tk 5 18 (idv c.id) (fuel := 2) rfl (by kernel_rfl) (by kernel_rfl) (by kernel_rfl) (by kernel_rfl) noPanic_false (by kernel_rfl) (fun W hW => x_ld40m (x := .tmp 17) (g := gs) (p := 0 + i * 68) HI.out.2.1 (by kernel_rfl) (by kernel_rfl) (range_after HI.out.2.2 hW)) hS0 ?_
        refine tk 6 19 (idv x) (fuel := 1) rfl (by kernel_rfl) (by kernel_rfl) (by kernel_rfl) (by kernel_rfl) noPanic_false (by kernel_rfl) (fun W hW => x_ld40m (x := .tmp 3) (g := w.heap.size + 1) (p := 0) HX.out (by kernel_rfl) (by kernel_rfl) (HB.out.2.below hW HB.out.2.lt).range0) hS0 ?_
        refine tk 7 20 (.bool true) (fuel := 0) rfl (by kernel_rfl) (by kernel_rfl) (by kernel_rfl) (by kernel_rfl) noPanic_false (by kernel_rfl) (fun W hW => (x_eqId40 (x := .tmp 18) (y := .tmp 19) (h := c.id) (k := x) HI.out.2.1 HX.out (by kernel_rfl) (by kernel_rfl) (by kernel_rfl)).trans (by rw [HEQ.out])) hS0 ?_
        refine wpAnyH_done (by kernel_rfl) (NoPanic.normal ?_) _
        go_simp
        go_wp2_with fail
        go_ret
        exact ⟨by rw [HF.out]; rfl, (HA.out.1.trans HJ.out.2).trans hS0⟩
      · have HEQ : Hid (decide (c.id = x) = false) := decide_eq_false hE
        have HF : Hid (∀ (j : Nat) (d : RC), j < i + 1 → l[j]? = some d → d.id ≠ x) := fun j d hj hd => by
          by_cases e : j = i
          · subst e; have := HC.out; rw [hd] at this; cases this; exact hE
          · exact HJ.out.1 j d (by omega) hd
        clear hE
        go_wp2_with fail
        refine wp_region_noPanic ?_
        refine wp_region_held_drew (S := After wr) (by kernel_rfl) (After.drew (After.refl _)) ?_
        intro hS0
        refine tk 0 13 (.pointer (some ⟨w.heap.size, 0, none⟩)) (fuel := 7) rfl (by kernel_rfl) (by kernel_rfl) (by kernel_rfl) (by kernel_rfl) noPanic_false (by kernel_rfl) (fun _ _ => by kernel_rfl) hS0 ?_
        refine tk 1 14 (.slice (some ⟨gs, 0, none⟩) n cap) (fuel := 6) rfl (by kernel_rfl) (by kernel_rfl) (by kernel_rfl) (by kernel_rfl) noPanic_false (by kernel_rfl) (fun W hW => x_loadT (x := .tmp 13) (t := 27) (g := w.heap.size) (j := 0) Try.underlying27 rfl (by kernel_rfl) (by kernel_rfl) ((HB.out.1.below hW HB.out.1.lt).cell (j := 0) rfl)) hS0 ?_
        refine tk 2 15 (pv i) (fuel := 5) rfl (by kernel_rfl) (by kernel_rfl) (by kernel_rfl) (by kernel_rfl) noPanic_false (by kernel_rfl) (fun _ _ => by kernel_rfl) hS0 ?_
        refine tk 3 16 (.pointer (some ⟨gs, 0 + i * 68, none⟩)) (fuel := 4) rfl (by kernel_rfl) (by kernel_rfl) (by kernel_rfl) (by kernel_rfl) noPanic_false (by kernel_rfl) (fun W hW => x_idx27 (x := .tmp 14) (y := .tmp 15) (b := gs) (f := 0) (n := n) (c := cap) (k := i) (by kernel_rfl) (by kernel_rfl) (by kernel_rfl) HI.out.1) hS0 ?_
        refine tk 4 17 (.pointer (some ⟨gs, 0 + i * 68, none⟩)) (fuel := 3) rfl (by kernel_rfl) (by kernel_rfl) (by kernel_rfl) (by kernel_rfl) noPanic_false (by kernel_rfl) (fun _ _ => by kernel_rfl) hS0 ?_
        refine tk 5 18 (idv c.id) (fuel := 2) rfl (by kernel_rfl) (by kernel_rfl) (by kernel_rfl) (by kernel_rfl) noPanic_false (by kernel_rfl) (fun W hW => x_ld40m (x := .tmp 17) (g := gs) (p := 0 + i * 68) HI.out.2.1 (by kernel_rfl) (by kernel_rfl) (range_after HI.out.2.2 hW)) hS0 ?_
        refine tk 6 19 (idv x) (fuel := 1) rfl (by kernel_rfl) (by kernel_rfl) (by kernel_rfl) (by kernel_rfl) noPanic_false (by kernel_rfl) (fun W hW => x_ld40m (x := .tmp 3) (g := w.heap.size + 1) (p := 0) HX.out (by kernel_rfl) (by kernel_rfl) (HB.out.2.below hW HB.out.2.lt).range0) hS0 ?_
        refine tk 7 20 (.bool false) (fuel := 0) rfl (by kernel_rfl) (by kernel_rfl) (by kernel_rfl) (by kernel_rfl) noPanic_false (by kernel_rfl) (fun W hW => (x_eqId40 (x := .tmp 18) (y := .tmp 19) (h := c.id) (k := x) HI.out.2.1 HX.out (by kernel_rfl) (by kernel_rfl) (by kernel_rfl)).trans (by rw [HEQ.out])) hS0 ?_
        refine wpAnyH_done (by kernel_rfl) (NoPanic.normal ?_) _
        have HS0 := show Hid _ from hS0
        clear hS0
        go_simp
        go_wp2_with fail
        go_roundw
        case rel => exact ⟨i + 1, by go_num, by omega, HF.out, HJ.out.2.trans HS0.out⟩
        case measure => simp [intOf]; omega
    · obtain rfl : i = n := by omega
      have hii : ¬ (i : Int) < (i : Int) := by omega
      have HF : Hid (rplc l x = none) := rplc_none (fun j d hd => HJ.out.1 j d (by have := (List.getElem?_eq_some_iff.1 hd).1; have := HN.out; omega) hd)
      go_wp2_with fail
      go_ret
      exact ⟨by rw [HF.out]; rfl, HA.out.1.trans HJ.out.2⟩
end Go.Proofs.Ytiglenomigipmaa
