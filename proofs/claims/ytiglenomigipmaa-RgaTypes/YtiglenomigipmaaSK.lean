/-
  ids (29): of a put, behind which and its own: the wild one.
-/
import Derived.Test.YtiglenomigipmaaSJ
namespace Go.Proofs.Ytiglenomigipmaa
open Go.RowKit Go.Shelf
attribute [local go_sem] Oper.semAt_some
structure Put where
  af : UInt8
  up : UInt8
  by_ : UInt8
  ch : UInt8
  cut : Bool
  wild : Bool
  id : Int
  beh : Int
structure Put.Ok (p : Put) : Prop where
  il : -9223372036854775808 ≤ p.id
  ih : p.id ≤ 9223372036854775807
  bl : -9223372036854775808 ≤ p.beh
  bh : p.beh ≤ 9223372036854775807
def pcell (p : Put) : List Value := [.int .u8 (p.af.toNat : Int), .int .u8 (p.up.toNat : Int), .int .u8 (p.by_.toNat : Int), .int .u8 (p.ch.toNat : Int), .bool p.cut, .bool p.wild, .int .i64 p.id, .int .i64 p.beh]
def h1 (b : UInt8) : H := b :: List.replicate 31 0
theorem h1_len (b : UInt8) : (h1 b).length = 32 := by simp [h1]
def wAf (p : Put) : Idn := ⟨p.beh, h1 p.af⟩
def wId (p : Put) : Idn := ⟨p.id, h1 p.by_⟩
theorem wAf_ok {p : Put} (h : p.Ok) : (wAf p).Ok := ⟨h.bl, h.bh, h1_len _⟩
theorem wId_ok {p : Put} (h : p.Ok) : (wId p).Ok := ⟨h.il, h.ih, h1_len _⟩
section
variable {oi : Oper} {a : Act} {w : World}
theorem x_bld40 {x y : Operand} {c : Int} {b : H} (h32 : b.length = 32) (hop : oi.op = .build 40 #[(0, x), (1, y)]) (hx : a.eval x = .int .i64 c) (hy : a.eval y = .agg (c8 b).toArray) : (execOp a.eval oi).run Try.prog w = .ok (.value (idv ⟨c, b⟩)) w := by
  have h := run_build (P := Try.prog) w 40 #[(0, .int .i64 c), (1, .agg (c8 b).toArray)] (Value.int .i64 c :: c8 b).toArray (built40 h32 c)
  unfold execOp
  simp only [hop]
  simp only [List.map_toArray, List.map_cons, List.map_nil, hx, hy, Sem.run_bind, h, Result.andThen_ok]
  rfl
theorem x_bld35 {x : Operand} {b : UInt8} (hop : oi.op = .build 35 #[(0, x)]) (hx : a.eval x = .int .u8 (b.toNat : Int)) : (execOp a.eval oi).run Try.prog w = .ok (.value (.agg (c8 (h1 b)).toArray)) w := by
  have h := run_build (P := Try.prog) w 35 #[(0, .int .u8 (b.toNat : Int))] (c8 (h1 b)).toArray (by kernel_rfl)
  unfold execOp
  simp only [hop]
  simp only [List.map_toArray, List.map_cons, List.map_nil, hx, Sem.run_bind, h, Result.andThen_ok]
  rfl
end
theorem ret4040 {fn : Func} {p q : Tmp} (h : fn.results = #[.cell p 40, .cell q 40]) (tmps : Array Value) (w : World) (g k : Nat) (z y : Idn) (hz : z.Ok) (hy : y.Ok) (hp : tmps.getD p undef = .pointer (some ⟨g, 0, none⟩)) (hg : RowIs w g 40 (idc z)) (hq : tmps.getD q undef = .pointer (some ⟨k, 0, none⟩)) (hk : RowIs w k 40 (idc y)) : (results fn tmps).run Try.prog w = .ok (.tuple #[idv z, idv y]) w := by
  have hp' : tmps[p]?.getD undef = .pointer (some ⟨g, 0, none⟩) := by simpa using hp
  have hq' : tmps[q]?.getD undef = .pointer (some ⟨k, 0, none⟩) := by simpa using hq
  simp [results, h, hp', hq', asAddr, run_loadVar_row w g 40 40 (idc z).toArray (0, 0) _ hg Try.underlying40 rfl (size40 hz), run_loadVar_row w k 40 40 (idc y).toArray (0, 0) _ hk Try.underlying40 rfl (size40 hy), idv]
set_option maxRecDepth 100000 in
set_option maxHeartbeats 1600000 in
theorem ids_wild {w : World} (v : Value) {p : Put} (hp : p.Ok) (hwd : p.wild = true) :
    Calls Try.prog 29 #[.agg #[v], .agg (pcell p).toArray] w fun e w' => e = .returned (.tuple #[idv (wAf p), idv (wId p)]) ∧ After w w' := by
  obtain ⟨W0, hW0⟩ : ∃ W0, (((w.alloc (.cells #[v] 29)).alloc (.cells (pcell p).toArray 33)).alloc (.cells (idc zId).toArray 40)).alloc (.cells (idc zId).toArray 40) = W0 := ⟨_, rfl⟩
  have HA : Hid (After w W0 ∧ RowIs W0 (w.heap.size + 1) 33 (pcell p) ∧ RowIs W0 (w.heap.size + 1 + 1) 40 (idc zId) ∧ RowIs W0 (w.heap.size + 1 + 1 + 1) 40 (idc zId)) := by
    rw [← hW0]
    refine ⟨after_alloc (after_alloc (after_alloc (after_alloc (After.refl w) _) _) _) _, ?_, ?_, ?_⟩
    · have := RowIs.new (w.alloc (.cells #[v] 29)) 33 (pcell p)
      rw [World.size_alloc] at this
      exact (this.alloc _).alloc _
    · have := RowIs.new ((w.alloc (.cells #[v] 29)).alloc (.cells (pcell p).toArray 33)) 40 (idc zId)
      rw [World.size_alloc, World.size_alloc] at this
      exact this.alloc _
    · have := RowIs.new (((w.alloc (.cells #[v] 29)).alloc (.cells (pcell p).toArray 33)).alloc (.cells (idc zId).toArray 40)) 40 (idc zId)
      rwa [World.size_alloc, World.size_alloc, World.size_alloc] at this
  have cw : W0.cell? ⟨w.heap.size + 1, 5, none⟩ = some (.bool true) := by rw [← hwd]; exact HA.out.2.1.cell rfl
  have HP : Hid ((wAf p).Ok ∧ (wId p).Ok) := ⟨wAf_ok hp, wId_ok hp⟩
  clear hp hwd
  go_enter Try.func29, Try.ntmps29
  go_wp2_with (first
    | (rw [hW0])
    | (refine wpList_of_run rfl (x_al40 rfl) ?_))
  refine wp_region_noPanic ?_
  refine wp_region_held_drew (S := KeptF (fun b => b = w.heap.size + 1 + 1 ∨ b = w.heap.size + 1 + 1 + 1) W0) (by kernel_rfl) (KeptF.of_after (After.drew (After.refl _))) ?_
  intro hS0
  refine tk 0 11 (.pointer (some ⟨w.heap.size + 1, 7, none⟩)) (fuel := 13) rfl (by kernel_rfl) (by kernel_rfl) (by kernel_rfl) (by kernel_rfl) noPanic_false (by kernel_rfl) (fun _ _ => by kernel_rfl) hS0 ?_
  refine tk 1 12 (.int .i64 p.beh) (fuel := 12) rfl (by kernel_rfl) (by kernel_rfl) (by kernel_rfl) (by kernel_rfl) noPanic_false (by kernel_rfl) (fun W hW => x_loadT (x := .tmp 11) (t := 3) (g := w.heap.size + 1) (j := 7) Try.underlying3 rfl (by kernel_rfl) (by kernel_rfl) ((hW.row HA.out.2.1 (by omega)).cell (j := 7) rfl)) hS0 ?_
  refine tk 2 13 (.pointer (some ⟨w.heap.size + 1, 0, none⟩)) (fuel := 11) rfl (by kernel_rfl) (by kernel_rfl) (by kernel_rfl) (by kernel_rfl) noPanic_false (by kernel_rfl) (fun _ _ => by kernel_rfl) hS0 ?_
  refine tk 3 14 (.int .u8 (p.af.toNat : Int)) (fuel := 10) rfl (by kernel_rfl) (by kernel_rfl) (by kernel_rfl) (by kernel_rfl) noPanic_false (by kernel_rfl) (fun W hW => x_loadT (x := .tmp 13) (t := 5) (g := w.heap.size + 1) (j := 0) Try.underlying5 rfl (by kernel_rfl) (by kernel_rfl) ((hW.row HA.out.2.1 (by omega)).cell (j := 0) rfl)) hS0 ?_
  refine tk 4 15 (.agg (c8 (h1 p.af)).toArray) (fuel := 9) rfl (by kernel_rfl) (by kernel_rfl) (by kernel_rfl) (by kernel_rfl) noPanic_false (by kernel_rfl) (fun W hW => x_bld35 (x := .tmp 14) (by kernel_rfl) (by kernel_rfl)) hS0 ?_
  refine tk 5 16 (idv (wAf p)) (fuel := 8) rfl (by kernel_rfl) (by kernel_rfl) (by kernel_rfl) (by kernel_rfl) noPanic_false (by kernel_rfl) (fun W hW => x_bld40 (x := .tmp 12) (y := .tmp 15) (h1_len _) (by kernel_rfl) (by kernel_rfl) (by kernel_rfl)) hS0 ?_
  refine tk 6 17 (.pointer (some ⟨w.heap.size + 1, 6, none⟩)) (fuel := 7) rfl (by kernel_rfl) (by kernel_rfl) (by kernel_rfl) (by kernel_rfl) noPanic_false (by kernel_rfl) (fun _ _ => by kernel_rfl) hS0 ?_
  refine tk 7 18 (.int .i64 p.id) (fuel := 6) rfl (by kernel_rfl) (by kernel_rfl) (by kernel_rfl) (by kernel_rfl) noPanic_false (by kernel_rfl) (fun W hW => x_loadT (x := .tmp 17) (t := 3) (g := w.heap.size + 1) (j := 6) Try.underlying3 rfl (by kernel_rfl) (by kernel_rfl) ((hW.row HA.out.2.1 (by omega)).cell (j := 6) rfl)) hS0 ?_
  refine tk 8 19 (.pointer (some ⟨w.heap.size + 1, 2, none⟩)) (fuel := 5) rfl (by kernel_rfl) (by kernel_rfl) (by kernel_rfl) (by kernel_rfl) noPanic_false (by kernel_rfl) (fun _ _ => by kernel_rfl) hS0 ?_
  refine tk 9 20 (.int .u8 (p.by_.toNat : Int)) (fuel := 4) rfl (by kernel_rfl) (by kernel_rfl) (by kernel_rfl) (by kernel_rfl) noPanic_false (by kernel_rfl) (fun W hW => x_loadT (x := .tmp 19) (t := 5) (g := w.heap.size + 1) (j := 2) Try.underlying5 rfl (by kernel_rfl) (by kernel_rfl) ((hW.row HA.out.2.1 (by omega)).cell (j := 2) rfl)) hS0 ?_
  refine tk 10 21 (.agg (c8 (h1 p.by_)).toArray) (fuel := 3) rfl (by kernel_rfl) (by kernel_rfl) (by kernel_rfl) (by kernel_rfl) noPanic_false (by kernel_rfl) (fun W hW => x_bld35 (x := .tmp 20) (by kernel_rfl) (by kernel_rfl)) hS0 ?_
  refine tk 11 22 (idv (wId p)) (fuel := 2) rfl (by kernel_rfl) (by kernel_rfl) (by kernel_rfl) (by kernel_rfl) noPanic_false (by kernel_rfl) (fun W hW => x_bld40 (x := .tmp 18) (y := .tmp 21) (h1_len _) (by kernel_rfl) (by kernel_rfl) (by kernel_rfl)) hS0 ?_
  have d3 : RowIs W0.drew (w.heap.size + 1 + 1) 40 (idc zId) := HA.out.2.2.1.below (After.drew (After.refl _)) HA.out.2.2.1.lt
  have d4 : RowIs W0.drew (w.heap.size + 1 + 1 + 1) 40 (idc zId) := HA.out.2.2.2.below (After.drew (After.refl _)) HA.out.2.2.2.lt
  have e3 : RowIs ((W0.drew).setRow (w.heap.size + 1 + 1) (idc (wAf p)).toArray) (w.heap.size + 1 + 1) 40 (idc (wAf p)) := d3.setRow _
  have e4 : RowIs ((W0.drew).setRow (w.heap.size + 1 + 1) (idc (wAf p)).toArray) (w.heap.size + 1 + 1 + 1) 40 (idc zId) := d4.setRow_other _ (by omega)
  have f3 : RowIs (((W0.drew).setRow (w.heap.size + 1 + 1) (idc (wAf p)).toArray).setRow (w.heap.size + 1 + 1 + 1) (idc (wId p)).toArray) (w.heap.size + 1 + 1) 40 (idc (wAf p)) := e3.setRow_other _ (by omega)
  have f4 : RowIs (((W0.drew).setRow (w.heap.size + 1 + 1) (idc (wAf p)).toArray).setRow (w.heap.size + 1 + 1 + 1) (idc (wId p)).toArray) (w.heap.size + 1 + 1 + 1) 40 (idc (wId p)) := e4.setRow _
  have k3 : KeptF (fun b => b = w.heap.size + 1 + 1 ∨ b = w.heap.size + 1 + 1 + 1) W0 ((W0.drew).setRow (w.heap.size + 1 + 1) (idc (wAf p)).toArray) := (KeptF.of_after (After.drew (After.refl _))).trans (KeptF.setRow (F := fun b => b = w.heap.size + 1 + 1 ∨ b = w.heap.size + 1 + 1 + 1) _ _ _ (.inl rfl)) (fun _ _ h => h)
  have k4 : KeptF (fun b => b = w.heap.size + 1 + 1 ∨ b = w.heap.size + 1 + 1 + 1) W0 (((W0.drew).setRow (w.heap.size + 1 + 1) (idc (wAf p)).toArray).setRow (w.heap.size + 1 + 1 + 1) (idc (wId p)).toArray) := k3.trans (KeptF.setRow (F := fun b => b = w.heap.size + 1 + 1 ∨ b = w.heap.size + 1 + 1 + 1) _ _ _ (.inr rfl)) (fun _ _ h => h)
  refine tkStoreS 12 ((W0.drew).setRow (w.heap.size + 1 + 1) (idc (wAf p)).toArray) (fuel := 1) rfl (by kernel_rfl) (by kernel_rfl) (by kernel_rfl) (x_st40 (x := .tmp 4) (y := .tmp 16) (g := w.heap.size + 1 + 1) (z := wAf p) (z0 := zId) HP.out.1 zId_ok (by kernel_rfl) (by kernel_rfl) (by kernel_rfl) d3) (k3) ?_
  refine tkStoreS 13 (((W0.drew).setRow (w.heap.size + 1 + 1) (idc (wAf p)).toArray).setRow (w.heap.size + 1 + 1 + 1) (idc (wId p)).toArray) (fuel := 0) rfl (by kernel_rfl) (by kernel_rfl) (by kernel_rfl) (x_st40 (x := .tmp 5) (y := .tmp 22) (g := w.heap.size + 1 + 1 + 1) (z := wId p) (z0 := zId) HP.out.2 zId_ok (by kernel_rfl) (by kernel_rfl) (by kernel_rfl) e4) (k4) ?_
  refine wpAnyH_done (by kernel_rfl) (NoPanic.normal ?_) _
  have HF := show Hid (RowIs (((W0.drew).setRow (w.heap.size + 1 + 1) (idc (wAf p)).toArray).setRow (w.heap.size + 1 + 1 + 1) (idc (wId p)).toArray) (w.heap.size + 1 + 1) 40 (idc (wAf p)) ∧ RowIs (((W0.drew).setRow (w.heap.size + 1 + 1) (idc (wAf p)).toArray).setRow (w.heap.size + 1 + 1 + 1) (idc (wId p)).toArray) (w.heap.size + 1 + 1 + 1) 40 (idc (wId p)) ∧ KeptF (fun b => b = w.heap.size + 1 + 1 ∨ b = w.heap.size + 1 + 1 + 1) W0 (((W0.drew).setRow (w.heap.size + 1 + 1) (idc (wAf p)).toArray).setRow (w.heap.size + 1 + 1 + 1) (idc (wId p)).toArray)) from ⟨f3, f4, k4⟩
  obtain ⟨W5, hW5⟩ : ∃ W5, ((W0.drew).setRow (w.heap.size + 1 + 1) (idc (wAf p)).toArray).setRow (w.heap.size + 1 + 1 + 1) (idc (wId p)).toArray = W5 := ⟨_, rfl⟩
  rw [hW5] at HF ⊢
  clear hW5 d3 d4 e3 e4 f3 f4 k3 k4
  go_simp
  go_wp2_with fail
  refine ⟨rfl, _, ret4040 Try.results29 _ _ (w.heap.size + 1 + 1) (w.heap.size + 1 + 1 + 1) (wAf p) (wId p) HP.out.1 HP.out.2 rfl HF.out.1 rfl HF.out.2.1, rfl, ?_⟩
  exact ((KeptF.of_after (F := fun b => w.heap.size ≤ b) HA.out.1).trans HF.out.2.2 (fun x hx h => by rcases h with h | h <;> (show w.heap.size ≤ x; omega))).below (Nat.le_refl _) (fun _ h => h)
end Go.Proofs.Ytiglenomigipmaa
