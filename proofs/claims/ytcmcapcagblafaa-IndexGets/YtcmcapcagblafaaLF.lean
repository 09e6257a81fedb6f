/-
  leb: LRefRd (of leb's own seat, carried over).
-/
import Derived.Test.YtcmcapcagblafaaLC
import Derived.Test.YtcmcapcagblafaaLE
namespace Go.Proofs.Ytcmcapcagblafaa
section
open Go.RowKit Leb
theorem lsize48 : (Try.prog.info? 58).map (·.size) = some 2 := by kernel_rfl
theorem RowIs.new1 (w : World) (o : Obj) (t : TypeId) (cs : List Value) : RowIs ((w.alloc o).alloc (.cells cs.toArray t)) (w.heap.size + 1) t cs := by
  have := RowIs.new (w.alloc o) t cs
  rw [show (w.alloc o).heap.size = w.heap.size + 1 by simp] at this
  exact this
theorem after_two (w : World) (o o' : Obj) : After w ((w.alloc o).alloc o') := after_alloc (after_alloc (After.refl w) _) _
theorem two_rows {w w1 : World} {t : TypeId} (A B : List Value) (h : After ((w.alloc (.cells A.toArray t)).alloc (.cells B.toArray t)) w1) : RowIs w1 w.heap.size t A ∧ RowIs w1 (w.heap.size + 1) t B ∧ After w w1 :=
  ⟨((RowIs.new w t A).alloc _).below h (by simp; omega), (RowIs.new1 w _ t B).below h (by simp), (after_two w _ _).trans h⟩
theorem After.cell {w w1 : World} (h : After w w1) {g : Nat} (hg : w.heap.size ≤ g) (j : Nat) (v : Value) : After w (w1.setCell ⟨g, j, none⟩ v) :=
  ⟨h.os, h.tape, h.output, by have := h.size; simpa using this, fun k hk => by rw [heap_setCell_other w1 _ k v (by show k ≠ g; omega)]; exact h.block k hk⟩
theorem results_row_tmp {fn : Func} {p q : Tmp} (h : fn.results = #[.cell p 58, .tmp q]) (tmps : Array Value) (w : World) (g : Nat) (a b : Value) (hp : tmps.getD p undef = .pointer (some ⟨g, 0, none⟩)) (hg : RowIs w g 58 [a, b]) (v : Value) (hv : tmps.getD q undef = v) :
    (results fn tmps).run Try.prog w = .ok (.tuple #[.agg #[a, b], v]) w := by
  have hp' : tmps[p]?.getD undef = .pointer (some ⟨g, 0, none⟩) := by simpa using hp
  have hv' : tmps[q]?.getD undef = v := by simpa using hv
  have hl := run_loadVar_row (P := Try.prog) w g 58 58 #[a, b] (0, 0) _ hg Try.underlying58 rfl lsize48
  simp [results, h, hp', hv', asAddr, hl]
set_option maxHeartbeats 400000 in
theorem failed_0 (ao : Option Addr) (n cap e : Nat) (w : World) :
    Calls Try.prog 63 #[.agg #[.slice ao n cap, .int .i64 0], .int .i64 (e : Int)] w fun x w' => x = .returned (.agg #[.slice ao n cap, .int .i64 (e : Int)]) ∧ After w w' := by
  go_enter Try.func63, Try.ntmps63
  go_wp2
  exact bodyPost_ret (v := .agg #[.slice ao n cap, .int .i64 (e : Int)]) (results_cell_row Try.results63 _ _ (w.heap.size + 1) 58 #[.slice ao n cap, .int .i64 (e : Int)] (0, 0) _ rfl (RowIs.new1 w _ 58 [.slice ao n cap, .int .i64 (e : Int)]) Try.underlying58 rfl lsize48) rfl ⟨rfl, after_two w _ _⟩
set_option maxHeartbeats 400000 in
theorem failed_e (ao : Option Addr) (n cap e e0 : Nat) (h0 : ¬ e0 = 0) (w : World) :
    Calls Try.prog 63 #[.agg #[.slice ao n cap, .int .i64 (e0 : Int)], .int .i64 (e : Int)] w fun x w' => x = .returned (.agg #[.slice ao n cap, .int .i64 (e0 : Int)]) ∧ After w w' := by
  go_enter Try.func63, Try.ntmps63
  go_wp2
  exact bodyPost_ret (v := .agg #[.slice ao n cap, .int .i64 (e0 : Int)]) (results_cell_row Try.results63 _ _ (w.heap.size + 1) 58 #[.slice ao n cap, .int .i64 (e0 : Int)] (0, 0) _ rfl (RowIs.new1 w _ 58 [.slice ao n cap, .int .i64 (e0 : Int)]) Try.underlying58 rfl lsize48) rfl ⟨rfl, after_two w _ _⟩
/-- What is known of ref's reader: its bytes. -/
structure Rs (w : World) (bs : List UInt8) (ao : Option Addr) (cap : Nat) : Prop where
  at' : BytesAt w ao bs
  cap : bs.length ≤ cap
  nil : ao = none → bs = []
theorem Rs.cut {w : World} {bs : List UInt8} {ao : Option Addr} {cap : Nat} (h : Rs w bs ao cap) (k : Nat) : Rs w (bs.drop k) (cutAt ao k cap) (cap - k) :=
  ⟨h.at'.cut k cap h.cap, by have := h.cap; simp; omega, fun hn => by
    unfold cutAt at hn
    split at hn
    · rename_i he; rw [List.drop_eq_nil_iff]; have := h.cap; omega
    · cases ao with
      | none => rw [h.nil rfl]; simp
      | some a => simp at hn⟩
theorem Rs.after {w w' : World} {bs : List UInt8} {ao : Option Addr} {cap : Nat} (h : Rs w bs ao cap) (hA : After w w') : Rs w' bs ao cap := ⟨h.at'.after hA, h.cap, h.nil⟩
/-- Behind a call of ref's: what it tells. -/
def RrX (w w' : World) (ao : Option Addr) (bs : List UInt8) (e : Nat) (v x : Value) : Prop :=
  ∃ ao' cap', x = .tuple #[.agg #[.slice ao' bs.length cap', .int .i64 (e : Int)], v] ∧ Rs w' bs ao' cap' ∧ After w w' ∧ ∀ a, ao' = some a → ∃ b, ao = some b ∧ b.block = a.block
theorem end48 {w w2 : World} {ao : Option Addr} {bs : List UInt8} {cap e : Nat} {g : Nat} (hg : w.heap.size ≤ g) (hR : Rs w bs ao cap) (hT : RowIs w2 g 58 [.slice none 0 0, .int .i64 0]) (hA : After w w2) (k : Nat) (v : Value) (s : Value) (hs : s = .slice (cutAt ao k cap) (bs.length - k) (cap - k)) :
    RowIs ((w2.setCell ⟨g, 0, none⟩ s).setCell ⟨g, 1, none⟩ (.int .i64 (e : Int))) g 58 [s, .int .i64 (e : Int)] ∧ RrX w ((w2.setCell ⟨g, 0, none⟩ s).setCell ⟨g, 1, none⟩ (.int .i64 (e : Int))) ao (bs.drop k) e v (.tuple #[.agg #[s, .int .i64 (e : Int)], v]) := by
  have hA' : After w ((w2.setCell ⟨g, 0, none⟩ s).setCell ⟨g, 1, none⟩ (.int .i64 (e : Int))) := (hA.cell hg 0 _).cell hg 1 _
  refine ⟨RowIs.set (cs := [s, .int .i64 0]) (RowIs.set (cs := [.slice none 0 0, .int .i64 0]) hT 0 _) 1 _, cutAt ao k cap, cap - k, by rw [hs, List.length_drop], (hR.cut k).after hA', hA', fun a ha => cutAt_block ha⟩
theorem end48' {w w2 : World} {ao : Option Addr} {bs : List UInt8} {cap e : Nat} {g : Nat} (hg : w.heap.size ≤ g) (hR : Rs w bs ao cap) (hT : RowIs w2 g 58 [.slice none 0 0, .int .i64 0]) (hA : After w w2) (v : Value) :
    RowIs ((w2.setCell ⟨g, 0, none⟩ (.slice ao bs.length cap)).setCell ⟨g, 1, none⟩ (.int .i64 (e : Int))) g 58 [.slice ao bs.length cap, .int .i64 (e : Int)] ∧ RrX w ((w2.setCell ⟨g, 0, none⟩ (.slice ao bs.length cap)).setCell ⟨g, 1, none⟩ (.int .i64 (e : Int))) ao bs e v (.tuple #[.agg #[.slice ao bs.length cap, .int .i64 (e : Int)], v]) := by
  have hA' : After w ((w2.setCell ⟨g, 0, none⟩ (.slice ao bs.length cap)).setCell ⟨g, 1, none⟩ (.int .i64 (e : Int))) := (hA.cell hg 0 _).cell hg 1 _
  exact ⟨RowIs.set (cs := [.slice ao bs.length cap, .int .i64 0]) (RowIs.set (cs := [.slice none 0 0, .int .i64 0]) hT 0 _) 1 _, ao, cap, rfl, hR.after hA', hA', fun a ha => ⟨a, ha, rfl⟩⟩
set_option maxRecDepth 100000 in
set_option maxHeartbeats 800000 in
theorem rrUint_e (bs : List UInt8) (ao : Option Addr) (cap : Nat) (most : Nat) (n : Nat) (k q : Nat) (e0 : Nat) (h0 : ¬ e0 = 0) (w : World) (hR : Rs w bs ao cap) (hc : ∀ W, BytesAt W ao bs → Calls Try.prog 62 #[.slice ao bs.length cap] W fun e w' => e = .returned (.tuple #[.int .u64 (n : Int), .int .i64 (k : Int), .int .i64 (q : Int)]) ∧ Below W.heap.size W w') :
    Calls Try.prog 30 #[.agg #[.slice ao bs.length cap, .int .i64 (e0 : Int)], .int .u64 (most : Int)] w fun x w' => ∃ y, x = .returned y ∧ RrX w w' ao bs e0 (.int .u64 0) y := by
  have HR : Hid (Rs w bs ao cap) := hR
  have HC := show Hid _ from hc
  clear hc hR
  go_enter Try.func30, Try.ntmps30
  go_wp2_with (first
    | (go_at_call 62; refine (HC.out _ (HR.out.after (after_two w _ _)).at').mono ?_; rintro x w1 ⟨rfl, hb1⟩; have T := two_rows [.slice ao bs.length cap, .int .i64 (e0 : Int)] [.slice none 0 0, .int .i64 0] hb1; have d0 : w1.cell? ⟨w.heap.size, 0, none⟩ = some (.slice ao bs.length cap) := T.1.cell rfl; have d1 : w1.cell? ⟨w.heap.size, 1, none⟩ = some (.int .i64 (e0 : Int)) := T.1.cell rfl; have HT : Hid (RowIs w1 (w.heap.size + 1) 58 [.slice none 0 0, .int .i64 0]) := T.2.1; have HA : Hid (After w w1) := T.2.2; have k0 := RowIs.frozen (cs := [.slice none 0 0, .int .i64 0]) HT.out 0; have k1 := RowIs.frozen (cs := [.slice none 0 0, .int .i64 0]) HT.out 1; have l0 : w1.cell? ⟨w.heap.size + 1, 0, none⟩ = some (.slice none 0 0) := RowIs.cell (cs := [.slice none 0 0, .int .i64 0]) HT.out rfl; have l1 : w1.cell? ⟨w.heap.size + 1, 1, none⟩ = some (.int .i64 0) := RowIs.cell (cs := [.slice none 0 0, .int .i64 0]) HT.out rfl; clear T hb1)
    | (go_at_call 63; refine (failed_e ao bs.length cap _ e0 h0 _).mono ?_; rintro x w2 ⟨rfl, hb2⟩; have HT2 : Hid (RowIs w2 (w.heap.size + 1) 58 [.slice none 0 0, .int .i64 0]) := RowIs.below HT.out hb2 (RowIs.lt HT.out); have HA2 : Hid (After w w2) := HA.out.trans hb2; have f0 := RowIs.frozen (cs := [.slice none 0 0, .int .i64 0]) HT2.out 0; have f1 := RowIs.frozen (cs := [.slice none 0 0, .int .i64 0]) HT2.out 1; have g0 : w2.cell? ⟨w.heap.size + 1, 0, none⟩ = some (.slice none 0 0) := RowIs.cell (cs := [.slice none 0 0, .int .i64 0]) HT2.out rfl; have g1 : w2.cell? ⟨w.heap.size + 1, 1, none⟩ = some (.int .i64 0) := RowIs.cell (cs := [.slice none 0 0, .int .i64 0]) HT2.out rfl))
  all_goals exact bodyPost_ret (results_row_tmp Try.results30 _ _ (w.heap.size + 1) _ _ rfl (end48' (Nat.le_succ _) HR.out HT2.out HA2.out (.int .u64 0)).1 (.int .u64 0) rfl) rfl ⟨_, rfl, (end48' (Nat.le_succ _) HR.out HT2.out HA2.out (.int .u64 0)).2⟩
set_option maxRecDepth 100000 in
set_option maxHeartbeats 800000 in
theorem rrUint_f (bs : List UInt8) (ao : Option Addr) (cap : Nat) (most : Nat) (n : Nat) (k q : Nat) (hq : ¬ q = 0) (w : World) (hR : Rs w bs ao cap) (hc : ∀ W, BytesAt W ao bs → Calls Try.prog 62 #[.slice ao bs.length cap] W fun e w' => e = .returned (.tuple #[.int .u64 (n : Int), .int .i64 (k : Int), .int .i64 (q : Int)]) ∧ Below W.heap.size W w') :
    Calls Try.prog 30 #[.agg #[.slice ao bs.length cap, .int .i64 0], .int .u64 (most : Int)] w fun x w' => ∃ y, x = .returned y ∧ RrX w w' ao bs q (.int .u64 0) y := by
  have HR : Hid (Rs w bs ao cap) := hR
  have HC := show Hid _ from hc
  clear hc hR
  go_enter Try.func30, Try.ntmps30
  go_wp2_with (first
    | (go_at_call 62; refine (HC.out _ (HR.out.after (after_two w _ _)).at').mono ?_; rintro x w1 ⟨rfl, hb1⟩; have T := two_rows [.slice ao bs.length cap, .int .i64 0] [.slice none 0 0, .int .i64 0] hb1; have d0 : w1.cell? ⟨w.heap.size, 0, none⟩ = some (.slice ao bs.length cap) := T.1.cell rfl; have d1 : w1.cell? ⟨w.heap.size, 1, none⟩ = some (.int .i64 0) := T.1.cell rfl; have HT : Hid (RowIs w1 (w.heap.size + 1) 58 [.slice none 0 0, .int .i64 0]) := T.2.1; have HA : Hid (After w w1) := T.2.2; have k0 := RowIs.frozen (cs := [.slice none 0 0, .int .i64 0]) HT.out 0; have k1 := RowIs.frozen (cs := [.slice none 0 0, .int .i64 0]) HT.out 1; have l0 : w1.cell? ⟨w.heap.size + 1, 0, none⟩ = some (.slice none 0 0) := RowIs.cell (cs := [.slice none 0 0, .int .i64 0]) HT.out rfl; have l1 : w1.cell? ⟨w.heap.size + 1, 1, none⟩ = some (.int .i64 0) := RowIs.cell (cs := [.slice none 0 0, .int .i64 0]) HT.out rfl; clear T hb1)
    | (go_at_call 63; refine (failed_0 ao bs.length cap q _).mono ?_; rintro x w2 ⟨rfl, hb2⟩; have HT2 : Hid (RowIs w2 (w.heap.size + 1) 58 [.slice none 0 0, .int .i64 0]) := RowIs.below HT.out hb2 (RowIs.lt HT.out); have HA2 : Hid (After w w2) := HA.out.trans hb2; have f0 := RowIs.frozen (cs := [.slice none 0 0, .int .i64 0]) HT2.out 0; have f1 := RowIs.frozen (cs := [.slice none 0 0, .int .i64 0]) HT2.out 1; have g0 : w2.cell? ⟨w.heap.size + 1, 0, none⟩ = some (.slice none 0 0) := RowIs.cell (cs := [.slice none 0 0, .int .i64 0]) HT2.out rfl; have g1 : w2.cell? ⟨w.heap.size + 1, 1, none⟩ = some (.int .i64 0) := RowIs.cell (cs := [.slice none 0 0, .int .i64 0]) HT2.out rfl))
  all_goals exact bodyPost_ret (results_row_tmp Try.results30 _ _ (w.heap.size + 1) _ _ rfl (end48' (e := q) (Nat.le_succ _) HR.out HT2.out HA2.out (.int .u64 0)).1 (.int .u64 0) rfl) rfl ⟨_, rfl, (end48' (Nat.le_succ _) HR.out HT2.out HA2.out (.int .u64 0)).2⟩
set_option maxRecDepth 100000 in
set_option maxHeartbeats 800000 in
theorem rrUint_l (bs : List UInt8) (ao : Option Addr) (cap : Nat) (most : Nat) (n : Nat) (k q : Nat) (hq : q = 0) (hl : most < n) (w : World) (hR : Rs w bs ao cap) (hc : ∀ W, BytesAt W ao bs → Calls Try.prog 62 #[.slice ao bs.length cap] W fun e w' => e = .returned (.tuple #[.int .u64 (n : Int), .int .i64 (k : Int), .int .i64 (q : Int)]) ∧ Below W.heap.size W w') :
    Calls Try.prog 30 #[.agg #[.slice ao bs.length cap, .int .i64 0], .int .u64 (most : Int)] w fun x w' => ∃ y, x = .returned y ∧ RrX w w' ao bs 5 (.int .u64 0) y := by
  have HR : Hid (Rs w bs ao cap) := hR
  have HC := show Hid _ from hc
  clear hc hR
  subst hq
  go_enter Try.func30, Try.ntmps30
  go_wp2_with (first
    | (go_at_call 62; refine (HC.out _ (HR.out.after (after_two w _ _)).at').mono ?_; rintro x w1 ⟨rfl, hb1⟩; have T := two_rows [.slice ao bs.length cap, .int .i64 0] [.slice none 0 0, .int .i64 0] hb1; have d0 : w1.cell? ⟨w.heap.size, 0, none⟩ = some (.slice ao bs.length cap) := T.1.cell rfl; have d1 : w1.cell? ⟨w.heap.size, 1, none⟩ = some (.int .i64 0) := T.1.cell rfl; have HT : Hid (RowIs w1 (w.heap.size + 1) 58 [.slice none 0 0, .int .i64 0]) := T.2.1; have HA : Hid (After w w1) := T.2.2; have k0 := RowIs.frozen (cs := [.slice none 0 0, .int .i64 0]) HT.out 0; have k1 := RowIs.frozen (cs := [.slice none 0 0, .int .i64 0]) HT.out 1; have l0 : w1.cell? ⟨w.heap.size + 1, 0, none⟩ = some (.slice none 0 0) := RowIs.cell (cs := [.slice none 0 0, .int .i64 0]) HT.out rfl; have l1 : w1.cell? ⟨w.heap.size + 1, 1, none⟩ = some (.int .i64 0) := RowIs.cell (cs := [.slice none 0 0, .int .i64 0]) HT.out rfl; clear T hb1)
    | (go_at_call 63; refine (failed_0 ao bs.length cap 5 _).mono ?_; rintro x w2 ⟨rfl, hb2⟩; have HT2 : Hid (RowIs w2 (w.heap.size + 1) 58 [.slice none 0 0, .int .i64 0]) := RowIs.below HT.out hb2 (RowIs.lt HT.out); have HA2 : Hid (After w w2) := HA.out.trans hb2; have f0 := RowIs.frozen (cs := [.slice none 0 0, .int .i64 0]) HT2.out 0; have f1 := RowIs.frozen (cs := [.slice none 0 0, .int .i64 0]) HT2.out 1; have g0 : w2.cell? ⟨w.heap.size + 1, 0, none⟩ = some (.slice none 0 0) := RowIs.cell (cs := [.slice none 0 0, .int .i64 0]) HT2.out rfl; have g1 : w2.cell? ⟨w.heap.size + 1, 1, none⟩ = some (.int .i64 0) := RowIs.cell (cs := [.slice none 0 0, .int .i64 0]) HT2.out rfl))
  all_goals exact bodyPost_ret (results_row_tmp Try.results30 _ _ (w.heap.size + 1) _ _ rfl (end48' (e := 5) (Nat.le_succ _) HR.out HT2.out HA2.out (.int .u64 0)).1 (.int .u64 0) rfl) rfl ⟨_, rfl, (end48' (Nat.le_succ _) HR.out HT2.out HA2.out (.int .u64 0)).2⟩
set_option maxRecDepth 100000 in
set_option maxHeartbeats 800000 in
theorem rrUint_k (bs : List UInt8) (ao : Option Addr) (cap : Nat) (most : Nat) (n : Nat) (k q : Nat) (hq : q = 0) (hk : k ≤ bs.length) (hl : ¬ most < n) (w : World) (hR : Rs w bs ao cap) (hc : ∀ W, BytesAt W ao bs → Calls Try.prog 62 #[.slice ao bs.length cap] W fun e w' => e = .returned (.tuple #[.int .u64 (n : Int), .int .i64 (k : Int), .int .i64 (q : Int)]) ∧ Below W.heap.size W w') :
    Calls Try.prog 30 #[.agg #[.slice ao bs.length cap, .int .i64 0], .int .u64 (most : Int)] w fun x w' => ∃ y, x = .returned y ∧ RrX w w' ao (bs.drop k) 0 (.int .u64 (n : Int)) y := by
  have HR : Hid (Rs w bs ao cap) := hR
  have HC := show Hid _ from hc
  clear hc hR
  subst hq
  have hsl := fun W => slice_from ao bs.length cap k (fun h => by rw [HR.out.nil h]; rfl) HR.out.cap hk W
  clear hk
  go_enter Try.func30, Try.ntmps30
  go_wp2_with (go_at_call 62; refine (HC.out _ (HR.out.after (after_two w _ _)).at').mono ?_; rintro x w1 ⟨rfl, hb1⟩; have T := two_rows [.slice ao bs.length cap, .int .i64 0] [.slice none 0 0, .int .i64 0] hb1; have d0 : w1.cell? ⟨w.heap.size, 0, none⟩ = some (.slice ao bs.length cap) := T.1.cell rfl; have d1 : w1.cell? ⟨w.heap.size, 1, none⟩ = some (.int .i64 0) := T.1.cell rfl; have HT : Hid (RowIs w1 (w.heap.size + 1) 58 [.slice none 0 0, .int .i64 0]) := T.2.1; have HA : Hid (After w w1) := T.2.2; have k0 := RowIs.frozen (cs := [.slice none 0 0, .int .i64 0]) HT.out 0; have k1 := RowIs.frozen (cs := [.slice none 0 0, .int .i64 0]) HT.out 1; have l0 : w1.cell? ⟨w.heap.size + 1, 0, none⟩ = some (.slice none 0 0) := RowIs.cell (cs := [.slice none 0 0, .int .i64 0]) HT.out rfl; have l1 : w1.cell? ⟨w.heap.size + 1, 1, none⟩ = some (.int .i64 0) := RowIs.cell (cs := [.slice none 0 0, .int .i64 0]) HT.out rfl; clear T hb1)
  exact bodyPost_ret (results_row_tmp Try.results30 _ _ (w.heap.size + 1) _ _ rfl (end48 (e := 0) (Nat.le_succ _) HR.out HT.out HA.out k (.int .u64 (n : Int)) _ rfl).1 (.int .u64 (n : Int)) rfl) rfl ⟨_, rfl, (end48 (e := 0) (Nat.le_succ _) HR.out HT.out HA.out k (.int .u64 (n : Int)) _ rfl).2⟩
set_option maxRecDepth 100000 in
set_option maxHeartbeats 800000 in
theorem rrText_e (bs : List UInt8) (ao : Option Addr) (cap : Nat) (most : Int) (n : List UInt8) (k q : Nat) (e0 : Nat) (h0 : ¬ e0 = 0) (w : World) (hR : Rs w bs ao cap) (hc : ∀ W, BytesAt W ao bs → Calls Try.prog 64 #[.slice ao bs.length cap, .int .i64 most] W fun e w' => e = .returned (.tuple #[.string (strOf n), .int .i64 (k : Int), .int .i64 (q : Int)]) ∧ Below W.heap.size W w') :
    Calls Try.prog 31 #[.agg #[.slice ao bs.length cap, .int .i64 (e0 : Int)], .int .i64 most] w fun x w' => ∃ y, x = .returned y ∧ RrX w w' ao bs e0 (.string ⟨#[]⟩) y := by
  have HR : Hid (Rs w bs ao cap) := hR
  have HC := show Hid _ from hc
  clear hc hR
  go_enter Try.func31, Try.ntmps31
  go_wp2_with (first
    | (go_at_call 64; refine (HC.out _ (HR.out.after (after_two w _ _)).at').mono ?_; rintro x w1 ⟨rfl, hb1⟩; have T := two_rows [.slice ao bs.length cap, .int .i64 (e0 : Int)] [.slice none 0 0, .int .i64 0] hb1; have d0 : w1.cell? ⟨w.heap.size, 0, none⟩ = some (.slice ao bs.length cap) := T.1.cell rfl; have d1 : w1.cell? ⟨w.heap.size, 1, none⟩ = some (.int .i64 (e0 : Int)) := T.1.cell rfl; have HT : Hid (RowIs w1 (w.heap.size + 1) 58 [.slice none 0 0, .int .i64 0]) := T.2.1; have HA : Hid (After w w1) := T.2.2; have k0 := RowIs.frozen (cs := [.slice none 0 0, .int .i64 0]) HT.out 0; have k1 := RowIs.frozen (cs := [.slice none 0 0, .int .i64 0]) HT.out 1; have l0 : w1.cell? ⟨w.heap.size + 1, 0, none⟩ = some (.slice none 0 0) := RowIs.cell (cs := [.slice none 0 0, .int .i64 0]) HT.out rfl; have l1 : w1.cell? ⟨w.heap.size + 1, 1, none⟩ = some (.int .i64 0) := RowIs.cell (cs := [.slice none 0 0, .int .i64 0]) HT.out rfl; clear T hb1)
    | (go_at_call 63; refine (failed_e ao bs.length cap _ e0 h0 _).mono ?_; rintro x w2 ⟨rfl, hb2⟩; have HT2 : Hid (RowIs w2 (w.heap.size + 1) 58 [.slice none 0 0, .int .i64 0]) := RowIs.below HT.out hb2 (RowIs.lt HT.out); have HA2 : Hid (After w w2) := HA.out.trans hb2; have f0 := RowIs.frozen (cs := [.slice none 0 0, .int .i64 0]) HT2.out 0; have f1 := RowIs.frozen (cs := [.slice none 0 0, .int .i64 0]) HT2.out 1; have g0 : w2.cell? ⟨w.heap.size + 1, 0, none⟩ = some (.slice none 0 0) := RowIs.cell (cs := [.slice none 0 0, .int .i64 0]) HT2.out rfl; have g1 : w2.cell? ⟨w.heap.size + 1, 1, none⟩ = some (.int .i64 0) := RowIs.cell (cs := [.slice none 0 0, .int .i64 0]) HT2.out rfl))
  all_goals exact bodyPost_ret (results_row_tmp Try.results31 _ _ (w.heap.size + 1) _ _ rfl (end48' (Nat.le_succ _) HR.out HT2.out HA2.out (.string ⟨#[]⟩)).1 (.string ⟨#[]⟩) rfl) rfl ⟨_, rfl, (end48' (Nat.le_succ _) HR.out HT2.out HA2.out (.string ⟨#[]⟩)).2⟩
set_option maxRecDepth 100000 in
set_option maxHeartbeats 800000 in
theorem rrText_f (bs : List UInt8) (ao : Option Addr) (cap : Nat) (most : Int) (n : List UInt8) (k q : Nat) (hq : ¬ q = 0) (w : World) (hR : Rs w bs ao cap) (hc : ∀ W, BytesAt W ao bs → Calls Try.prog 64 #[.slice ao bs.length cap, .int .i64 most] W fun e w' => e = .returned (.tuple #[.string (strOf n), .int .i64 (k : Int), .int .i64 (q : Int)]) ∧ Below W.heap.size W w') :
    Calls Try.prog 31 #[.agg #[.slice ao bs.length cap, .int .i64 0], .int .i64 most] w fun x w' => ∃ y, x = .returned y ∧ RrX w w' ao bs q (.string ⟨#[]⟩) y := by
  have HR : Hid (Rs w bs ao cap) := hR
  have HC := show Hid _ from hc
  clear hc hR
  go_enter Try.func31, Try.ntmps31
  go_wp2_with (first
    | (go_at_call 64; refine (HC.out _ (HR.out.after (after_two w _ _)).at').mono ?_; rintro x w1 ⟨rfl, hb1⟩; have T := two_rows [.slice ao bs.length cap, .int .i64 0] [.slice none 0 0, .int .i64 0] hb1; have d0 : w1.cell? ⟨w.heap.size, 0, none⟩ = some (.slice ao bs.length cap) := T.1.cell rfl; have d1 : w1.cell? ⟨w.heap.size, 1, none⟩ = some (.int .i64 0) := T.1.cell rfl; have HT : Hid (RowIs w1 (w.heap.size + 1) 58 [.slice none 0 0, .int .i64 0]) := T.2.1; have HA : Hid (After w w1) := T.2.2; have k0 := RowIs.frozen (cs := [.slice none 0 0, .int .i64 0]) HT.out 0; have k1 := RowIs.frozen (cs := [.slice none 0 0, .int .i64 0]) HT.out 1; have l0 : w1.cell? ⟨w.heap.size + 1, 0, none⟩ = some (.slice none 0 0) := RowIs.cell (cs := [.slice none 0 0, .int .i64 0]) HT.out rfl; have l1 : w1.cell? ⟨w.heap.size + 1, 1, none⟩ = some (.int .i64 0) := RowIs.cell (cs := [.slice none 0 0, .int .i64 0]) HT.out rfl; clear T hb1)
    | (go_at_call 63; refine (failed_0 ao bs.length cap q _).mono ?_; rintro x w2 ⟨rfl, hb2⟩; have HT2 : Hid (RowIs w2 (w.heap.size + 1) 58 [.slice none 0 0, .int .i64 0]) := RowIs.below HT.out hb2 (RowIs.lt HT.out); have HA2 : Hid (After w w2) := HA.out.trans hb2; have f0 := RowIs.frozen (cs := [.slice none 0 0, .int .i64 0]) HT2.out 0; have f1 := RowIs.frozen (cs := [.slice none 0 0, .int .i64 0]) HT2.out 1; have g0 : w2.cell? ⟨w.heap.size + 1, 0, none⟩ = some (.slice none 0 0) := RowIs.cell (cs := [.slice none 0 0, .int .i64 0]) HT2.out rfl; have g1 : w2.cell? ⟨w.heap.size + 1, 1, none⟩ = some (.int .i64 0) := RowIs.cell (cs := [.slice none 0 0, .int .i64 0]) HT2.out rfl))
  all_goals exact bodyPost_ret (results_row_tmp Try.results31 _ _ (w.heap.size + 1) _ _ rfl (end48' (e := q) (Nat.le_succ _) HR.out HT2.out HA2.out (.string ⟨#[]⟩)).1 (.string ⟨#[]⟩) rfl) rfl ⟨_, rfl, (end48' (Nat.le_succ _) HR.out HT2.out HA2.out (.string ⟨#[]⟩)).2⟩
set_option maxRecDepth 100000 in
set_option maxHeartbeats 800000 in
theorem rrText_k (bs : List UInt8) (ao : Option Addr) (cap : Nat) (most : Int) (n : List UInt8) (k q : Nat) (hq : q = 0) (hk : k ≤ bs.length) (w : World) (hR : Rs w bs ao cap) (hc : ∀ W, BytesAt W ao bs → Calls Try.prog 64 #[.slice ao bs.length cap, .int .i64 most] W fun e w' => e = .returned (.tuple #[.string (strOf n), .int .i64 (k : Int), .int .i64 (q : Int)]) ∧ Below W.heap.size W w') :
    Calls Try.prog 31 #[.agg #[.slice ao bs.length cap, .int .i64 0], .int .i64 most] w fun x w' => ∃ y, x = .returned y ∧ RrX w w' ao (bs.drop k) 0 (.string (strOf n)) y := by
  have HR : Hid (Rs w bs ao cap) := hR
  have HC := show Hid _ from hc
  clear hc hR
  subst hq
  have hsl := fun W => slice_from ao bs.length cap k (fun h => by rw [HR.out.nil h]; rfl) HR.out.cap hk W
  clear hk
  go_enter Try.func31, Try.ntmps31
  go_wp2_with (go_at_call 64; refine (HC.out _ (HR.out.after (after_two w _ _)).at').mono ?_; rintro x w1 ⟨rfl, hb1⟩; have T := two_rows [.slice ao bs.length cap, .int .i64 0] [.slice none 0 0, .int .i64 0] hb1; have d0 : w1.cell? ⟨w.heap.size, 0, none⟩ = some (.slice ao bs.length cap) := T.1.cell rfl; have d1 : w1.cell? ⟨w.heap.size, 1, none⟩ = some (.int .i64 0) := T.1.cell rfl; have HT : Hid (RowIs w1 (w.heap.size + 1) 58 [.slice none 0 0, .int .i64 0]) := T.2.1; have HA : Hid (After w w1) := T.2.2; have k0 := RowIs.frozen (cs := [.slice none 0 0, .int .i64 0]) HT.out 0; have k1 := RowIs.frozen (cs := [.slice none 0 0, .int .i64 0]) HT.out 1; have l0 : w1.cell? ⟨w.heap.size + 1, 0, none⟩ = some (.slice none 0 0) := RowIs.cell (cs := [.slice none 0 0, .int .i64 0]) HT.out rfl; have l1 : w1.cell? ⟨w.heap.size + 1, 1, none⟩ = some (.int .i64 0) := RowIs.cell (cs := [.slice none 0 0, .int .i64 0]) HT.out rfl; clear T hb1)
  exact bodyPost_ret (results_row_tmp Try.results31 _ _ (w.heap.size + 1) _ _ rfl (end48 (e := 0) (Nat.le_succ _) HR.out HT.out HA.out k (.string (strOf n)) _ rfl).1 (.string (strOf n)) rfl) rfl ⟨_, rfl, (end48 (e := 0) (Nat.le_succ _) HR.out HT.out HA.out k (.string (strOf n)) _ rfl).2⟩
theorem rrUint_any (bs : List UInt8) (e : Nat) (ao : Option Addr) (cap most : Nat) (w : World) (hR : Rs w bs ao cap) :
    Calls Try.prog 30 #[.agg #[.slice ao bs.length cap, .int .i64 (e : Int)], .int .u64 (most : Int)] w fun x w' => ∃ y, x = .returned y ∧ RrX w w' ao (suB bs e most) (suE bs e most) (.int .u64 (suV bs e most : Int)) y := by
  have hc : ∀ W, BytesAt W ao bs → Calls Try.prog 62 #[.slice ao bs.length cap] W fun e w' => e = .returned (.tuple #[.int .u64 (guV bs : Int), .int .i64 (guK bs : Int), .int .i64 (guE bs : Int)]) ∧ Below W.heap.size W w' := fun W h => rgetUint_any ao cap bs hR.cap W h
  by_cases he : e = 0
  · subst he
    by_cases hq : guE bs = 0
    · by_cases hl : most < guV bs
      · have e1 : ruE bs most = 5 := by unfold ruE; rw [if_pos hq, if_pos hl]
        have e2 : ruK bs most = 0 := by unfold ruK; rw [e1]; rfl
        have e3 : ruV bs most = 0 := by unfold ruV; rw [e1]; rfl
        show Calls _ _ _ _ fun x w' => ∃ y, x = .returned y ∧ RrX w w' ao (bs.drop (ruK bs most)) (ruE bs most) (.int .u64 (ruV bs most : Int)) y
        rw [e1, e2, e3]
        exact rrUint_l bs ao cap most _ _ _ hq hl w hR hc
      · have e1 : ruE bs most = 0 := by unfold ruE; rw [if_pos hq, if_neg hl]
        have e2 : ruK bs most = guK bs := by unfold ruK; rw [e1]; rfl
        have e3 : ruV bs most = guV bs := by unfold ruV; rw [e1]; rfl
        show Calls _ _ _ _ fun x w' => ∃ y, x = .returned y ∧ RrX w w' ao (bs.drop (ruK bs most)) (ruE bs most) (.int .u64 (ruV bs most : Int)) y
        rw [e1, e2, e3]
        exact rrUint_k bs ao cap most _ _ _ hq (guK_le bs) hl w hR hc
    · have e1 : ruE bs most = guE bs := by unfold ruE; rw [if_neg hq]
      have e2 : ruK bs most = 0 := by unfold ruK; rw [e1, if_neg hq]
      have e3 : ruV bs most = 0 := by unfold ruV; rw [e1, if_neg hq]
      show Calls _ _ _ _ fun x w' => ∃ y, x = .returned y ∧ RrX w w' ao (bs.drop (ruK bs most)) (ruE bs most) (.int .u64 (ruV bs most : Int)) y
      rw [e1, e2, e3]
      exact rrUint_f bs ao cap most _ _ _ hq w hR hc
  · have e1 : suV bs e most = 0 := if_neg he
    have e2 : suB bs e most = bs := if_neg he
    have e3 : suE bs e most = e := if_neg he
    rw [e1, e2, e3]
    exact rrUint_e bs ao cap most _ _ _ e he w hR hc
theorem rrText_any (bs : List UInt8) (e : Nat) (ao : Option Addr) (cap : Nat) (most : Int) (hm0 : -9223372036854775808 ≤ most) (hm1 : most ≤ 9223372036854775807) (hbig : bs.length ≤ 281474976710656) (w : World) (hR : Rs w bs ao cap) :
    Calls Try.prog 31 #[.agg #[.slice ao bs.length cap, .int .i64 (e : Int)], .int .i64 most] w fun x w' => ∃ y, x = .returned y ∧ RrX w w' ao (stB bs e most) (stE bs e most) (.string (strOf (ltS bs e most))) y := by
  have hc : ∀ W, BytesAt W ao bs → Calls Try.prog 64 #[.slice ao bs.length cap, .int .i64 most] W fun e w' => e = .returned (.tuple #[.string (strOf (gtS bs most)), .int .i64 (gtK bs most : Int), .int .i64 (gtE bs most : Int)]) ∧ Below W.heap.size W w' := fun W h => rgetText_any ao cap bs most hR.cap hbig hm0 hm1 W h
  by_cases he : e = 0
  · subst he
    show Calls _ _ _ _ fun x w' => ∃ y, x = .returned y ∧ RrX w w' ao (bs.drop (gtK bs most)) (gtE bs most) (.string (strOf (gtS bs most))) y
    by_cases hq : gtE bs most = 0
    · have := rrText_k bs ao cap most _ _ _ hq (gtK_le bs most) w hR hc
      rw [hq]
      exact this
    · have := rrText_f bs ao cap most _ _ _ hq w hR hc
      rw [(gt_e rfl hq).2.1, (gt_e rfl hq).2.2]
      exact this
  · have e1 : ltS bs e most = [] := if_neg he
    have e2 : stB bs e most = bs := if_neg he
    have e3 : stE bs e most = e := if_neg he
    rw [e1, e2, e3]
    exact rrText_e bs ao cap most _ _ _ e he w hR hc
end
end Go.Proofs.Ytcmcapcagblafaa
