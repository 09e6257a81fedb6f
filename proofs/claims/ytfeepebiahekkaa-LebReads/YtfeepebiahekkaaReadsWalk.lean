/-
  THE WALK OF stemmalaw02.LebReads.
-/
import Derived.Test.YtfeepebiahekkaaRefHash
namespace Go.Proofs.Ytfeepebiahekkaa
open Go.RowKit Leb
section
variable {ops : Array Oper} {Q : Exit → Act → World → Prop} {a : Act} {w : World} {oi : Oper} {K : Act → World → Prop}
/-- Number i comes up: a call, by its contract. -/
theorem opCall (i d : Nat) (f : FuncId) (args : Array Value) (R : Value → World → Prop) (hi : ops[i]? = some oi) (hd : oi.dst = some d) (hw : Region.wanted oi (yielded ops a.tmps) = true)
    (hrun : ∀ w, (execOp a.eval oi).run Try.prog w = .ok (.enter f args) w) (hc : Calls Try.prog f args w fun e w' => ∃ v, e = .returned v ∧ R v w') (h : ∀ v w', R v w' → K (a.put (some d) v) w') : wpOp Try.prog ops Q i K a w := by
  refine wpOp_step hi (fun K' hK => ?_)
  rw [if_pos hw]
  unfold Oper.wp
  rw [hrun, Oper.upon_enter]
  refine hc.mono (fun e w' ⟨v, he, hr⟩ => ?_)
  subst he
  rw [hd]
  exact hK _ _ (h v w' hr)
/-- Number i comes up: it yields v, and turns the world. -/
theorem opVal (i d : Nat) (v : Value) (w' : World) (hi : ops[i]? = some oi) (hd : oi.dst = some d) (hw : Region.wanted oi (yielded ops a.tmps) = true)
    (hrun : (execOp a.eval oi).run Try.prog w = .ok (.value v) w') (h : K (a.put (some d) v) w') : wpOp Try.prog ops Q i K a w := by
  refine wpOp_step hi (fun K' hK => ?_)
  rw [if_pos hw]
  unfold Oper.wp
  rw [hrun]
  rw [← hd] at h
  exact hK _ _ h
end
theorem cells50 : Try.prog.cellsOf 50 = 2 := by kernel_rfl
theorem x_index44 {o : Oper} {a : Act} {x y : Operand} {b off len cap k : Nat} {w : World} (hop : o.op = .indexAddr 44 x y) (hx : a.eval x = .slice (some ⟨b, off, none⟩) len cap) (hy : a.eval y = .int .i64 (k : Int)) (hk : k < len) :
    (execOp a.eval o).run Try.prog w = .ok (.value (.pointer (some ⟨b, off + k * 2, none⟩))) w := by
  obtain ⟨i, hi, hz⟩ := Option.map_eq_some_iff.1 (show (Try.prog.info? 50).map (·.size) = some 2 by kernel_rfl)
  unfold execOp
  simp only [hop, hx, hy]
  simp [Instr.indexAt, run_underlying Try.underlying44, asIntOf, sizeOf, typeInfo, hi, hz, hk, Addr.add, go_sem]
theorem x_load22 {o : Oper} {a : Act} {x : Operand} {g j : Nat} {v : Value} {w : World} (hop : o.op = .load 22 x) (hx : a.eval x = .pointer (some ⟨g, j, none⟩)) (h : w.cell? ⟨g, j, none⟩ = some v) : (execOp a.eval o).run Try.prog w = .ok (.value v) w := by
  have hag : (isAgg 22).run Try.prog w = .ok false w := by
    unfold isAgg; rw [Sem.run_bind, run_underlying Try.underlying22 w]; rfl
  unfold execOp
  simp only [hop, hx, Instr.loadAt, Instr.sureAddr, Sem.run_bind, Sem.run_pure, Result.andThen_ok, loadVar, hag]
  simp [h, go_sem]
theorem x_alloc48 {o : Oper} {a : Act} {w : World} (hop : o.op = .alloc 48) : (execOp a.eval o).run Try.prog w = .ok (.value (.pointer (some ⟨w.heap.size, 0, none⟩))) (w.alloc (.cells #[.slice none 0 0, .int .i64 0] 48)) := by
  obtain ⟨i, hi, hz⟩ := Option.map_eq_some_iff.1 (show (Try.prog.info? 48).map (fun i => (i.zero, i.size)) = some (some (.agg #[.slice none 0 0, .int .i64 0]), 2) by kernel_rfl)
  unfold execOp
  simp only [hop]
  have hz1 : i.zero = some (.agg #[.slice none 0 0, .int .i64 0]) := congrArg Prod.fst hz
  simp [Instr.alloc, zeroValue, typeInfo, hi, hz1, Value.cells, go_sem]
/-- A slice of Takes. -/
def TakesAt (w : World) (ao : Option Addr) (l : List (UInt8 × Nat)) : Prop :=
  l ≠ [] → ∃ b o, ao = some ⟨b, o, none⟩ ∧ ∀ j, j < l.length → w.cell? ⟨b, o + j * 2, none⟩ = some (.int .u8 ((l.getD j (0, 0)).1.toNat : Int)) ∧ w.cell? ⟨b, o + j * 2 + 1, none⟩ = some (.int .u64 ((l.getD j (0, 0)).2 : Int))
theorem TakesAt.after {w w' : World} {ao : Option Addr} {l : List (UInt8 × Nat)} (h : TakesAt w ao l) (hA : After w w') : TakesAt w' ao l := fun hn => by
  obtain ⟨b, o, rfl, hc⟩ := h hn
  refine ⟨b, o, rfl, fun j hj => ⟨?_, ?_⟩⟩
  · rw [Below.cell hA (p := ⟨b, o + j * 2, none⟩) (block_lt_of_cell (hc j hj).1)]; exact (hc j hj).1
  · rw [Below.cell hA (p := ⟨b, o + j * 2 + 1, none⟩) (block_lt_of_cell (hc j hj).2)]; exact (hc j hj).2
/-- Both readers, with the same bytes left and the same error. -/
structure LR (w W : World) (gr gw : Nat) (cur : List UInt8) (e : Nat) (ao ao2 : Option Addr) (cap cap2 : Nat) : Prop where
  aft : After w W
  rd : Rd W gr cur e ao cap
  rs : Rs W cur ao2 cap2
  row : RowIs W gw 48 [.slice ao2 cur.length cap2, .int .i64 (e : Int)]
  gr' : w.heap.size ≤ gr
  gw' : w.heap.size ≤ gw
  ne : gw ≠ gr
  far : ∀ a, ao = some a → w.heap.size ≤ a.block ∧ a.block ≠ gw
  near : ∀ a, ao2 = some a → a.block < w.heap.size
theorem LR.after {w W W' : World} {gr gw : Nat} {cur : List UInt8} {e : Nat} {ao ao2 : Option Addr} {cap cap2 : Nat} (h : LR w W gr gw cur e ao ao2 cap cap2) (hA : After W W') : LR w W' gr gw cur e ao ao2 cap cap2 :=
  ⟨h.aft.trans hA, h.rd.after hA, h.rs.after hA, h.row.below hA h.row.lt, h.gr', h.gw', h.ne, h.far, h.near⟩
set_option maxHeartbeats 400000 in
theorem read_far (ao : Option Addr) (cap : Nat) (bs : List UInt8) (hbig : bs.length ≤ 140737488355328) (w : World) (hat : BytesAt w ao bs) :
    Calls Try.prog 24 #[.slice ao bs.length cap] w fun e w' => ∃ g a' c', e = .returned (.pointer (some ⟨g, 0, none⟩)) ∧ Rd w' g bs 0 a' c' ∧ (∀ a, a' = some a → w.heap.size ≤ a.block ∧ a.block < w'.heap.size) ∧ w.heap.size ≤ g ∧ Below w.heap.size w w' := by
  have HAT : Hid (BytesAt w ao bs) := hat
  clear hat
  go_enter Try.func24, Try.ntmps24
  go_wp2_with (go_at_call 40; refine (clone_any ao cap bs hbig _ HAT.out).mono ?_; rintro e w1 ⟨v1, rfl, ho1, hb1⟩; obtain ⟨a1, c1, rfl, hat1, hc1, hl1⟩ := ho1.at)
  go_ret
  refine ⟨w1.heap.size, a1, c1, rfl, ⟨RowIs.new w1 79 [.slice a1 bs.length c1, .int .i64 0], hat1.after (after_alloc (After.refl w1) _), hc1, fun h => ?_, fun a ha => ?_⟩, fun a ha => ⟨(hl1 a ha).1, by have := (hl1 a ha).2; simp; omega⟩, hb1.size, after_alloc hb1 _⟩
  · subst h; exact bytesAt_none hat1
  · have := (hl1 a ha).2; omega
theorem after_but {w W W' : World} {g : Nat} (h : After w W) (hb : But g W W') (hg : w.heap.size ≤ g) : After w W' :=
  ⟨hb.os.trans h.os, hb.tape.trans h.tape, hb.output.trans h.output, Nat.le_trans h.size hb.size, fun k hk => (hb.block k (Nat.lt_of_lt_of_le hk h.size) (by omega)).trans (h.block k hk)⟩
theorem LR.but {w W W' : World} {gr gw : Nat} {cur cur' : List UInt8} {e e' : Nat} {ao ao2 : Option Addr} {cap cap2 : Nat} (h : LR w W gr gw cur e ao ao2 cap cap2) (hn : Nx gr W ao cur' e' W') :
    After w W' ∧ (∃ ao' cap', Rd W' gr cur' e' ao' cap' ∧ ∀ a, ao' = some a → w.heap.size ≤ a.block ∧ a.block ≠ gw) ∧ Rs W' cur ao2 cap2 ∧ RowIs W' gw 48 [.slice ao2 cur.length cap2, .int .i64 (e : Int)] := by
  obtain ⟨ao', cap', hr, hb, hbl⟩ := hn
  refine ⟨after_but h.aft hb h.gr', ⟨ao', cap', hr, fun a ha => ?_⟩, ⟨hb.bytes h.rs.at' (fun a ha => ?_), h.rs.cap, h.rs.nil⟩, hb.row h.row h.ne⟩
  · obtain ⟨b, hb1, hb2⟩ := hbl a ha
    rw [← hb2]; exact h.far b hb1
  · have := h.near a ha; have := h.gr'; omega
theorem suB_le (bs : List UInt8) (e m : Nat) : (suB bs e m).length ≤ bs.length := by unfold suB; split <;> simp
theorem siB_le (bs : List UInt8) (e : Nat) : (siB bs e).length ≤ bs.length := by unfold siB; split <;> simp
theorem stB_le (bs : List UInt8) (e : Nat) (m : Int) : (stB bs e m).length ≤ bs.length := by unfold stB; split <;> simp
theorem shB_le (bs : List UInt8) (e : Nat) : (shB bs e).length ≤ bs.length := by unfold shB; split <;> simp
/-- Behind both calls, ahead of 'w = next'. -/
structure LM (w W : World) (gr gw : Nat) (cur : List UInt8) (e : Nat) (ao ao2 : Option Addr) (cap cap2 : Nat) (s0 e0 : Value) : Prop where
  aft : After w W
  rd : Rd W gr cur e ao cap
  rs : Rs W cur ao2 cap2
  row : RowIs W gw 48 [s0, e0]
  gr' : w.heap.size ≤ gr
  gw' : w.heap.size ≤ gw
  ne : gw ≠ gr
  far : ∀ a, ao = some a → w.heap.size ≤ a.block ∧ a.block ≠ gw
  near : ∀ a, ao2 = some a → a.block < w.heap.size
theorem LM.after {w W W' : World} {gr gw : Nat} {cur : List UInt8} {e : Nat} {ao ao2 : Option Addr} {cap cap2 : Nat} {s0 e0 : Value} (h : LM w W gr gw cur e ao ao2 cap cap2 s0 e0) (hA : After W W') : LM w W' gr gw cur e ao ao2 cap cap2 s0 e0 :=
  ⟨h.aft.trans hA, h.rd.after hA, h.rs.after hA, h.row.below hA h.row.lt, h.gr', h.gw', h.ne, h.far, h.near⟩
theorem LM.fin {w W : World} {gr gw : Nat} {cur : List UInt8} {e : Nat} {ao ao2 : Option Addr} {cap cap2 : Nat} {s0 e0 : Value} (h : LM w W gr gw cur e ao ao2 cap cap2 s0 e0) :
    LR w ((W.setCell ⟨gw, 0, none⟩ (.slice ao2 cur.length cap2)).setCell ⟨gw, 1, none⟩ (.int .i64 (e : Int))) gr gw cur e ao ao2 cap cap2 := by
  have hb : But gw W ((W.setCell ⟨gw, 0, none⟩ (.slice ao2 cur.length cap2)).setCell ⟨gw, 1, none⟩ (.int .i64 (e : Int))) := ((But.refl gw W).setCell 0 _).setCell 1 _
  refine ⟨after_but h.aft hb h.gw', ⟨hb.row h.rd.row (fun k => h.ne k.symm), hb.bytes h.rd.at' (fun a ha => (h.far a ha).2), h.rd.cap, h.rd.nil, h.rd.apart⟩, ⟨hb.bytes h.rs.at' (fun a ha => ?_), h.rs.cap, h.rs.nil⟩, ?_, h.gr', h.gw', h.ne, h.far, h.near⟩
  · have := h.near a ha; have := h.gw'; omega
  · exact RowIs.set (cs := [.slice ao2 cur.length cap2, e0]) (RowIs.set (cs := [s0, e0]) h.row 0 _) 1 _
/-- Behind the first call. -/
structure LB (w W : World) (gr gw : Nat) (cur cur' : List UInt8) (e e' : Nat) (ao ao2 : Option Addr) (cap cap2 : Nat) : Prop where
  aft : After w W
  rd : Rd W gr cur' e' ao cap
  far : ∀ a, ao = some a → w.heap.size ≤ a.block ∧ a.block ≠ gw
  rs : Rs W cur ao2 cap2
  row : RowIs W gw 48 [.slice ao2 cur.length cap2, .int .i64 (e : Int)]
theorem LR.fst {w W W' : World} {gr gw : Nat} {cur cur' : List UInt8} {e e' : Nat} {ao ao2 : Option Addr} {cap cap2 : Nat} (h : LR w W gr gw cur e ao ao2 cap cap2) (hn : Nx gr W ao cur' e' W') :
    ∃ ao' cap', LB w W' gr gw cur cur' e e' ao' ao2 cap' cap2 := by
  obtain ⟨h1, ⟨ao', cap', h2, h3⟩, h4, h5⟩ := h.but hn
  exact ⟨ao', cap', h1, h2, h3, h4, h5⟩
theorem LB.snd {w W W' : World} {gr gw : Nat} {cur cur' : List UInt8} {e e' : Nat} {ao ao2 : Option Addr} {cap cap2 : Nat} (h : LB w W gr gw cur cur' e e' ao ao2 cap cap2) (hg : w.heap.size ≤ gr) (hg' : w.heap.size ≤ gw) (hne : gw ≠ gr) (hnear : ∀ a, ao2 = some a → a.block < w.heap.size)
    {ao3 : Option Addr} {cap3 : Nat} (hrs : Rs W' cur' ao3 cap3) (hA : After W W') (hbl : ∀ a, ao3 = some a → ∃ b, ao2 = some b ∧ b.block = a.block) :
    LM w W' gr gw cur' e' ao ao3 cap cap3 (.slice ao2 cur.length cap2) (.int .i64 (e : Int)) := by
  obtain ⟨h1, h2, h3, h4, h5⟩ := h
  refine ⟨h1.trans hA, h2.after hA, hrs, h5.below hA h5.lt, hg, hg', hne, h3, fun a ha => ?_⟩
  obtain ⟨b, hb1, hb2⟩ := hbl a ha
  rw [← hb2]; exact hnear b hb1
theorem x_neqf {o : Oper} {a : Act} {x y : Operand} {w : World} {t : TypeId} {p : Int} (hop : o.op = .binOp .neq t x y t) (hx : a.eval x = .int .i64 p) (hy : a.eval y = .int .i64 p) : (execOp a.eval o).run Try.prog w = .ok (.value (.bool false)) w := by
  unfold execOp
  simp only [hop, hx, hy]
  simp [go_sem]
theorem x_load3 {o : Oper} {a : Act} {x : Operand} {g j : Nat} {v : Value} {w : World} (hop : o.op = .load 3 x) (hx : a.eval x = .pointer (some ⟨g, j, none⟩)) (h : w.cell? ⟨g, j, none⟩ = some v) : (execOp a.eval o).run Try.prog w = .ok (.value v) w := by
  have hag : (isAgg 3).run Try.prog w = .ok false w := by
    unfold isAgg; rw [Sem.run_bind, run_underlying Try.underlying3 w]; rfl
  unfold execOp
  simp only [hop, hx, Instr.loadAt, Instr.sureAddr, Sem.run_bind, Sem.run_pure, Result.andThen_ok, loadVar, hag]
  simp [h, go_sem]
theorem LB.after {w W W' : World} {gr gw : Nat} {cur cur' : List UInt8} {e e' : Nat} {ao ao2 : Option Addr} {cap cap2 : Nat} (h : LB w W gr gw cur cur' e e' ao ao2 cap cap2) (hA : After W W') : LB w W' gr gw cur cur' e e' ao ao2 cap cap2 :=
  ⟨h.aft.trans hA, h.rd.after hA, h.far, h.rs.after hA, h.row.below hA h.row.lt⟩
theorem x_eqt {o : Oper} {a : Act} {x y : Operand} {w : World} {t : TypeId} {p : Int} (hop : o.op = .binOp .eql t x y t) (hx : a.eval x = .int .i64 p) (hy : a.eval y = .int .i64 p) : (execOp a.eval o).run Try.prog w = .ok (.value (.bool true)) w := by
  unfold execOp
  simp only [hop, hx, hy]
  simp [go_sem]
theorem hash_end (w : World) (a b : Value) (l : List UInt8) : After w (((w.alloc (.cells #[a, b] 48)).alloc (.cells (c8 zeroHash).toArray 61)).setRow (w.heap.size + 1) (c8 l).toArray) ∧ RowIs (((w.alloc (.cells #[a, b] 48)).alloc (.cells (c8 zeroHash).toArray 61)).setRow (w.heap.size + 1) (c8 l).toArray) w.heap.size 48 [a, b] ∧ RowIs (((w.alloc (.cells #[a, b] 48)).alloc (.cells (c8 zeroHash).toArray 61)).setRow (w.heap.size + 1) (c8 l).toArray) (w.heap.size + 1) 61 (c8 l) :=
  ⟨Below.row (after_two w _ _) (by omega) _, ((RowIs.new w 48 [a, b]).alloc _).setRow_other _ (by omega), RowIs.setRow (RowIs.new1 w _ 61 (c8 zeroHash)) _⟩
set_option maxRecDepth 100000 in
set_option maxHeartbeats 1600000 in
theorem reads_any (ao : Option Addr) (cap : Nat) (bs : List UInt8) (hcap : bs.length ≤ cap) (hbig : bs.length ≤ 140737488355328) (tao : Option Addr) (tcap : Nat) (l : List (UInt8 × Nat)) (hll : l.length ≤ 140737488355328) (w : World)
    (hnil : ao = none → bs = []) (hat : BytesAt w ao bs) (hlt : ∀ a, ao = some a → a.block < w.heap.size) (ht : TakesAt w tao l) :
    Calls Try.prog 6 #[.slice ao bs.length cap, .slice tao l.length tcap] w fun e w' => e = .returned (.bool true) ∧ After w w' := by
  have HR : Hid (Rs w bs ao cap) := ⟨hat, hcap, hnil⟩
  have HT : Hid (TakesAt w tao l) := ht
  have HL : Hid (∀ a, ao = some a → a.block < w.heap.size) := hlt
  clear hat ht hlt hnil
  go_enter Try.func6, Try.ntmps6
  go_wp2_with (first
    | (at_builtin; refine wpList_append_any rfl (.tmp 21) (.tmp 22) rfl w.heap.size _ [] rfl (Own.fresh w) ao cap bs bs.length rfl rfl (HR.out.at'.after (after_alloc (After.refl w) _)) (by simp; omega) (by simp) ?_; intro v1 w1 ho1 hg1; rw [List.nil_append] at ho1; have B1 : After w w1 := after_grown (after_alloc (After.refl w) _) hg1 (Nat.le_refl _) (fun k hk => (World.ownsRow.lt (Own.fresh w) k hk).1); obtain ⟨a1, c1, rfl, hat1, hc1, hl1⟩ := ho1.at; clear ho1 hg1)
    | (go_at_call 24; refine (read_far a1 c1 bs hbig _ hat1).mono ?_; rintro x w2 ⟨gr, a2, c2, rfl, hrd, hfar, hgr, hb2⟩; have B2 : After w w2 := After.trans B1 hb2))
  have RW : RowIs (w2.alloc (.cells #[.slice ao bs.length cap, .int .i64 0] 48)) w2.heap.size 48 [.slice ao bs.length cap, .int .i64 0] := RowIs.new w2 48 [.slice ao bs.length cap, .int .i64 0]
  have L0 : Hid (LR w (w2.alloc (.cells #[.slice ao bs.length cap, .int .i64 0] 48)) gr w2.heap.size bs 0 a2 ao c2 cap) := by
    have hA : After w2 (w2.alloc (.cells #[.slice ao bs.length cap, .int .i64 0] 48)) := after_alloc (After.refl _) _
    have hs := B1.size
    refine ⟨B2.trans hA, hrd.after hA, HR.out.after (B2.trans hA), RW, by omega, B2.size, by have := hrd.row.lt; omega, fun a ha => ?_, HL.out⟩
    have := hfar a ha
    omega
  have hgr' : w.heap.size ≤ gr := L0.out.gr'
  have hgw' : w.heap.size ≤ w2.heap.size := L0.out.gw'
  have hne : w2.heap.size ≠ gr := L0.out.ne
  clear RW hrd hfar hgr hb2 hat1 hc1 hl1 B1 B2
  generalize w2.heap.size = gw at *
  go_loopw [7] (fun i wr => ∃ (k : Nat) (cur : List UInt8) (e : Nat) (x1 x2 : Option Addr) (p1 p2 : Nat), k ≤ l.length ∧ i = .int .i64 k ∧ cur.length ≤ 140737488355328 ∧ LR w wr gr gw cur e x1 x2 p1 p2) (fun i _ => l.length - (intOf i).toNat)
  case atStart => exact ⟨0, bs, 0, a2, ao, c2, cap, by omega, rfl, hbig, L0.out⟩
  case round =>
    clear L0
    obtain ⟨k, cur, e, x1, x2, p1, p2, hk, rfl, hcl, hrel⟩ := hrel
    by_cases hkl : k < l.length
    · obtain ⟨tb, to, rfl, hc⟩ := (HT.out.after hrel.aft) (by intro h; simp [h] at hkl)
      obtain ⟨hc0, hc1⟩ := hc k hkl
      have hmo : ∀ W, After w W → W.cell? ⟨tb, to + k * 2 + 1, none⟩ = some (.int .u64 ((l.getD k (0, 0)).2 : Int)) := fun W hW => by
        obtain ⟨b', o', he, hc'⟩ := (HT.out.after hW) (by intro h; simp [h] at hkl)
        cases he
        exact (hc' k hkl).2
      generalize (l.getD k (0, 0)).1 = kd at hc0
      generalize (l.getD k (0, 0)).2 = mo at hc1 hmo
      have HMO := show Hid _ from hmo
      clear hmo
      have HREL := show Hid _ from hrel
      have HKL : Hid (k + 1 ≤ l.length) := hkl
      clear hc hrel
      have hkd : kd.toNat % 4 = 0 ∨ kd.toNat % 4 = 1 ∨ kd.toNat % 4 = 2 ∨ kd.toNat % 4 = 3 := by omega
      rcases hkd with h1 | h1 | h1 | h1
      · obtain ⟨nv, hnv⟩ : ∃ b, suV cur e mo = b := ⟨_, rfl⟩
        obtain ⟨nb, hnb⟩ : ∃ b, suB cur e mo = b := ⟨_, rfl⟩
        obtain ⟨ne, hne'⟩ : ∃ b, suE cur e mo = b := ⟨_, rfl⟩
        have HNL : Hid (nb.length ≤ 140737488355328) := by unfold Hid; rw [← hnb]; exact Nat.le_trans (suB_le cur e mo) hcl
        have C1 := show Hid _ from rUint_any gr cur e x1 p1 mo wr HREL.out.rd
        have C2 := show Hid _ from fun W (hW : Rs W cur x2 p2) => rrUint_any cur e x2 p2 mo W hW
        rw [hnv, hnb, hne'] at C1
        simp only [hnv, hnb, hne'] at C2
        clear hnv hnb hne'
        go_wp2_with (go_at_call 25; refine Calls.mono C1.out ?_; rintro x w3 ⟨rfl, hn3⟩; obtain ⟨y1, q1, LB3⟩ := HREL.out.fst hn3; have d0 : w3.cell? ⟨gw, 0, none⟩ = some (.slice x2 cur.length p2) := RowIs.cell (cs := [.slice x2 cur.length p2, .int .i64 (e : Int)]) LB3.row rfl; have d1 : w3.cell? ⟨gw, 1, none⟩ = some (.int .i64 (e : Int)) := RowIs.cell (cs := [.slice x2 cur.length p2, .int .i64 (e : Int)]) LB3.row rfl; have H3 := show Hid _ from LB3; clear LB3 hn3)
        refine wp_region_noPanic ?_
        refine wp_region_held_drew (S := After w3) (by kernel_rfl) (After.drew (After.refl w3)) ?_
        intro hS0
        refine tk 0 69 (.agg #[(.slice x2 cur.length p2), (.int .i64 (e : Int))]) (fuel := 12) rfl (by kernel_rfl) (by kernel_rfl) (by kernel_rfl) (by kernel_rfl) noPanic_false (by kernel_rfl) (fun W h => x_load48 (x := .tmp 6) (g := gw) (by kernel_rfl) (by kernel_rfl) (H3.out.after h).row) hS0 ?_
        refine tk 1 70 (.slice (some ⟨tb, to, none⟩) l.length tcap) (fuel := 11) rfl (by kernel_rfl) (by kernel_rfl) (by kernel_rfl) (by kernel_rfl) noPanic_false (by kernel_rfl) (fun _ _ => by kernel_rfl) hS0 ?_
        refine tk 2 71 (.int .i64 (k : Int)) (fuel := 10) rfl (by kernel_rfl) (by kernel_rfl) (by kernel_rfl) (by kernel_rfl) noPanic_false (by kernel_rfl) (fun _ _ => by kernel_rfl) hS0 ?_
        refine tk 3 72 (.pointer (some ⟨tb, to + k * 2, none⟩)) (fuel := 9) rfl (by kernel_rfl) (by kernel_rfl) (by kernel_rfl) (by kernel_rfl) noPanic_false (by kernel_rfl) (fun W h => x_index44 (x := .tmp 70) (y := .tmp 71) (b := tb) (off := to) (len := l.length) (cap := tcap) (k := k) (by kernel_rfl) (by kernel_rfl) (by kernel_rfl) HKL.out) hS0 ?_
        refine tk 4 73 (.pointer (some ⟨tb, to + k * 2 + 1, none⟩)) (fuel := 8) rfl (by kernel_rfl) (by kernel_rfl) (by kernel_rfl) (by kernel_rfl) noPanic_false (by kernel_rfl) (fun _ _ => by kernel_rfl) hS0 ?_
        refine tk 5 74 (.int .u64 (mo : Int)) (fuel := 7) rfl (by kernel_rfl) (by kernel_rfl) (by kernel_rfl) (by kernel_rfl) noPanic_false (by kernel_rfl) (fun W h => x_load22 (x := .tmp 73) (g := tb) (j := to + k * 2 + 1) (by kernel_rfl) (by kernel_rfl) (HMO.out W (H3.out.aft.trans h))) hS0 ?_
        refine wpAnyH_all (rs := [6, 10]) (fuel := 6) (by kernel_rfl) (by simp) (fun j hj => ?_)
        simp only [List.mem_cons, List.not_mem_nil, or_false] at hj
        rcases hj with rfl | rfl
        · refine opCall 6 75 26 #[(.agg #[(.slice x2 cur.length p2), (.int .i64 (e : Int))]), .int .u64 (mo : Int)] (fun v w' => Rx w3.drew w' x2 nb ne (.int .u64 (nv : Int)) v) rfl (by kernel_rfl) (by kernel_rfl) (fun _ => by kernel_rfl) (C2.out _ (H3.out.rs.after hS0)) ?_
          rintro v w4 ⟨y2, q2, rfl, hrs4, hA4, hbl4⟩
          have hS4 : After w3 w4 := hS0.trans hA4
          refine ⟨hS4, ?_⟩
          refine tk 7 68 (.tuple #[.agg #[(.slice y2 nb.length q2), (.int .i64 (ne : Int))], .int .u64 (nv : Int)]) (fuel := 5) rfl (by kernel_rfl) (by kernel_rfl) (by kernel_rfl) (by kernel_rfl) noPanic_false (by kernel_rfl) (fun _ _ => by kernel_rfl) hS4 ?_
          refine tk 8 76 (.agg #[(.slice y2 nb.length q2), (.int .i64 (ne : Int))]) (fuel := 4) rfl (by kernel_rfl) (by kernel_rfl) (by kernel_rfl) (by kernel_rfl) noPanic_false (by kernel_rfl) (fun _ _ => by kernel_rfl) hS4 ?_
          refine tk 9 77 (.int .u64 (nv : Int)) (fuel := 3) rfl (by kernel_rfl) (by kernel_rfl) (by kernel_rfl) (by kernel_rfl) noPanic_false (by kernel_rfl) (fun _ _ => by kernel_rfl) hS4 ?_
          refine wpAnyH_all (rs := [10]) (fuel := 2) (by kernel_rfl) (by simp) (fun j hj => ?_)
          obtain rfl : j = 10 := by simpa using hj
          refine opVal 10 10 (.pointer (some ⟨w4.heap.size, 0, none⟩)) (w4.alloc (.cells #[.slice none 0 0, .int .i64 0] 48)) rfl (by kernel_rfl) (by kernel_rfl) (x_alloc48 (by kernel_rfl)) ⟨after_alloc hS4 _, ?_⟩
          have hA6 : After w4 ((w4.alloc (.cells #[.slice none 0 0, .int .i64 0] 48)).setRow w4.heap.size #[(.slice y2 nb.length q2), (.int .i64 (ne : Int))]) := Below.row (after_alloc (After.refl w4) _) (Nat.le_refl _) _
          refine tkStore 11 w4.heap.size 48 (.tmp 10) (.tmp 76) #[(.slice y2 nb.length q2), (.int .i64 (ne : Int))] #[.slice none 0 0, .int .i64 0] 48 (fuel := 1) rfl (by kernel_rfl) (by kernel_rfl) (by kernel_rfl) (by kernel_rfl) (by kernel_rfl) (by kernel_rfl) (RowIs.new w4 48 [.slice none 0 0, .int .i64 0]) size48 rfl (by simp [Value.oneCell']) (hS4.trans hA6) ?_
          refine tk 12 11 (.int .u64 (nv : Int)) (fuel := 0) rfl (by kernel_rfl) (by kernel_rfl) (by kernel_rfl) (by kernel_rfl) noPanic_false (by kernel_rfl) (fun _ _ => by kernel_rfl) (hS4.trans hA6) ?_
          refine with_world (p := fun W => wpAnyH Try.prog .any _ _ _ _ _ _ W) (fun W => LM w W gr gw nb ne y1 y2 q1 q2 (.slice x2 cur.length p2) (.int .i64 (e : Int)) ∧ RowIs W w4.heap.size 48 [(.slice y2 nb.length q2), (.int .i64 (ne : Int))]) ⟨LB.snd (H3.out.after (hS4.trans hA6)) hgr' hgw' hne HREL.out.near (hrs4.after hA6) (After.refl _) hbl4, RowIs.setRow (RowIs.new w4 48 [.slice none 0 0, .int .i64 0]) _⟩ ?_
          intro w6 h6
          have hG : w4.heap.size ≠ gw := by have := H3.out.row.lt; have := hA4.size; simp at this; omega
          have t0 : w6.cell? ⟨gw, 0, none⟩ = some (.slice x2 cur.length p2) := RowIs.cell (cs := [.slice x2 cur.length p2, .int .i64 (e : Int)]) h6.1.row rfl
          have t1 : w6.cell? ⟨gw, 1, none⟩ = some (.int .i64 (e : Int)) := RowIs.cell (cs := [.slice x2 cur.length p2, .int .i64 (e : Int)]) h6.1.row rfl
          have f0 := RowIs.frozen (cs := [(.slice x2 cur.length p2), (.int .i64 (e : Int))]) h6.1.row 0
          have f1 := RowIs.frozen (cs := [(.slice x2 cur.length p2), (.int .i64 (e : Int))]) h6.1.row 1
          have i0 : w6.cell? ⟨w4.heap.size, 0, none⟩ = some (.slice y2 nb.length q2) := RowIs.cell (cs := [(.slice y2 nb.length q2), (.int .i64 (ne : Int))]) h6.2 rfl
          have i1 : w6.cell? ⟨w4.heap.size, 1, none⟩ = some (.int .i64 (ne : Int)) := RowIs.cell (cs := [(.slice y2 nb.length q2), (.int .i64 (ne : Int))]) h6.2 rfl
          have H6 := show Hid _ from h6.1
          clear h6 hS0 d0 d1 hA4 hbl4
          generalize w4.heap.size = g10 at *
          refine wpAnyH_done (by kernel_rfl) (NoPanic.normal ?_) _
          go_simp
          go_wp2
          refine with_world (p := fun W => Code.wp Try.prog _ _ _ W) (fun W => LR w W gr gw nb ne y1 y2 q1 q2) (H6.out.fin) ?_
          intro W0 hL
          refine wp_region_noPanic ?_
          refine wp_region_held_drew (S := After W0) (by kernel_rfl) (After.drew (After.refl W0)) ?_
          intro hS0
          have L0 := hL.after hS0
          refine tk 0 112 (.pointer (some ⟨gr, 0, none⟩)) (fuel := 19) rfl (by kernel_rfl) (by kernel_rfl) (by kernel_rfl) (by kernel_rfl) noPanic_false (by kernel_rfl) (fun _ _ => by kernel_rfl) hS0 ?_
          refine tk 2 114 (.pointer (some ⟨gw, 0, none⟩)) (fuel := 18) rfl (by kernel_rfl) (by kernel_rfl) (by kernel_rfl) (by kernel_rfl) noPanic_false (by kernel_rfl) (fun _ _ => by kernel_rfl) hS0 ?_
          refine tk 3 115 (.slice y2 nb.length q2) (fuel := 17) rfl (by kernel_rfl) (by kernel_rfl) (by kernel_rfl) (by kernel_rfl) noPanic_false (by kernel_rfl) (fun W h => x_load23 (x := .tmp 114) (g := gw) (by kernel_rfl) (by kernel_rfl) ((hL.after h).row.cell rfl)) hS0 ?_
          refine tk 4 116 (.int .i64 (nb.length : Int)) (fuel := 16) rfl (by kernel_rfl) (by kernel_rfl) (by kernel_rfl) (by kernel_rfl) noPanic_false (by kernel_rfl) (fun _ _ => by kernel_rfl) hS0 ?_
          refine tkCall 1 113 33 #[(.pointer (some ⟨gr, 0, none⟩))] (fun v _ => v = .int .i64 (nb.length : Int)) (fuel := 15) rfl (by kernel_rfl) (by kernel_rfl) (by kernel_rfl) (fun _ => by kernel_rfl) hS0 ((rLeft_any gr nb ne y1 q1 _ L0.rd).mono (fun _ _ h => ⟨_, h.1, rfl, h.2 ▸ Below.refl _ _⟩)) ?_
          rintro _ z1 rfl z1s
          have L1 := L0.after z1s
          refine tk 5 117 (.bool false) (fuel := 14) rfl (by kernel_rfl) (by kernel_rfl) (by kernel_rfl) (by kernel_rfl) noPanic_false (by kernel_rfl) (fun _ _ => x_neqf (t := 3) (x := .tmp 113) (y := .tmp 116) (p := (nb.length : Int)) (by kernel_rfl) (by kernel_rfl) (by kernel_rfl)) (After.refl z1) ?_
          refine tk 6 118 (.bool false) (fuel := 13) rfl (by kernel_rfl) (by kernel_rfl) (by kernel_rfl) (by kernel_rfl) noPanic_false (by kernel_rfl) (fun _ _ => by kernel_rfl) (After.refl z1) ?_
          refine tk 7 119 (.pointer (some ⟨gr, 0, none⟩)) (fuel := 12) rfl (by kernel_rfl) (by kernel_rfl) (by kernel_rfl) (by kernel_rfl) noPanic_false (by kernel_rfl) (fun _ _ => by kernel_rfl) (After.refl z1) ?_
          refine tk 9 121 (.pointer (some ⟨gw, 1, none⟩)) (fuel := 11) rfl (by kernel_rfl) (by kernel_rfl) (by kernel_rfl) (by kernel_rfl) noPanic_false (by kernel_rfl) (fun _ _ => by kernel_rfl) (After.refl z1) ?_
          refine tk 10 122 (.int .i64 (ne : Int)) (fuel := 10) rfl (by kernel_rfl) (by kernel_rfl) (by kernel_rfl) (by kernel_rfl) noPanic_false (by kernel_rfl) (fun W h => x_load3 (x := .tmp 121) (g := gw) (j := 1) (by kernel_rfl) (by kernel_rfl) ((L1.after h).row.cell rfl)) (After.refl z1) ?_
          refine tkCall 8 120 34 #[(.pointer (some ⟨gr, 0, none⟩))] (fun v _ => v = .int .i64 (ne : Int)) (fuel := 9) rfl (by kernel_rfl) (by kernel_rfl) (by kernel_rfl) (fun _ => by kernel_rfl) (After.refl z1) ((rErr_any gr nb ne y1 q1 _ L1.rd).mono (fun _ _ h => ⟨_, h.1, rfl, h.2 ▸ Below.refl _ _⟩)) ?_
          rintro _ z2 rfl z2s
          have L2 := L1.after z2s
          refine tk 11 123 (.bool false) (fuel := 8) rfl (by kernel_rfl) (by kernel_rfl) (by kernel_rfl) (by kernel_rfl) noPanic_false (by kernel_rfl) (fun _ _ => x_neqf (t := 3) (x := .tmp 120) (y := .tmp 122) (p := (ne : Int)) (by kernel_rfl) (by kernel_rfl) (by kernel_rfl)) (After.refl z2) ?_
          refine tk 12 124 (.bool false) (fuel := 7) rfl (by kernel_rfl) (by kernel_rfl) (by kernel_rfl) (by kernel_rfl) noPanic_false (by kernel_rfl) (fun _ _ => by kernel_rfl) (After.refl z2) ?_
          refine tk 13 125 (.bool false) (fuel := 6) rfl (by kernel_rfl) (by kernel_rfl) (by kernel_rfl) (by kernel_rfl) noPanic_false (by kernel_rfl) (fun _ _ => by kernel_rfl) (After.refl z2) ?_
          refine tk 14 126 (.pointer (some ⟨gr, 0, none⟩)) (fuel := 5) rfl (by kernel_rfl) (by kernel_rfl) (by kernel_rfl) (by kernel_rfl) noPanic_false (by kernel_rfl) (fun _ _ => by kernel_rfl) (After.refl z2) ?_
          refine tk 16 128 (.agg #[.slice y2 nb.length q2, .int .i64 (ne : Int)]) (fuel := 4) rfl (by kernel_rfl) (by kernel_rfl) (by kernel_rfl) (by kernel_rfl) noPanic_false (by kernel_rfl) (fun W h => x_load48 (x := .tmp 6) (g := gw) (by kernel_rfl) (by kernel_rfl) (L2.after h).row) (After.refl z2) ?_
          refine tkCall 15 127 35 #[(.pointer (some ⟨gr, 0, none⟩))] (fun v _ => v = .int .i64 (sdE nb ne : Int)) (fuel := 3) rfl (by kernel_rfl) (by kernel_rfl) (by kernel_rfl) (fun _ => by kernel_rfl) (After.refl z2) ((rDone_any gr nb ne y1 q1 _ L2.rd).mono (fun _ _ h => ⟨_, h.1, rfl, h.2 ▸ Below.refl _ _⟩)) ?_
          rintro _ z3 rfl z3s
          have L3 := L2.after z3s
          refine tkCall 17 129 36 #[.agg #[.slice y2 nb.length q2, .int .i64 (ne : Int)]] (fun v _ => v = .int .i64 (sdE nb ne : Int)) (fuel := 2) rfl (by kernel_rfl) (by kernel_rfl) (by kernel_rfl) (fun _ => by kernel_rfl) (After.refl z3) ((rrDone_any y2 nb q2 ne _).mono (fun _ _ h => ⟨_, h.1, rfl, h.2⟩)) ?_
          rintro _ z4 rfl z4s
          have HL4 := show Hid _ from L3.after z4s
          refine tk 18 130 (.bool false) (fuel := 1) rfl (by kernel_rfl) (by kernel_rfl) (by kernel_rfl) (by kernel_rfl) noPanic_false (by kernel_rfl) (fun _ _ => x_neqf (t := 3) (x := .tmp 127) (y := .tmp 129) (p := (sdE nb ne : Int)) (by kernel_rfl) (by kernel_rfl) (by kernel_rfl)) (After.refl z4) ?_
          refine tk 19 131 (.bool false) (fuel := 0) rfl (by kernel_rfl) (by kernel_rfl) (by kernel_rfl) (by kernel_rfl) noPanic_false (by kernel_rfl) (fun _ _ => by kernel_rfl) (After.refl z4) ?_
          clear hL hS0 L0 L1 L2 L3 z1s z2s z3s z4s
          refine wpAnyH_done (by kernel_rfl) (NoPanic.normal ?_) _
          go_simp
          go_wp2
          go_roundw
          case rel => exact ⟨k + 1, nb, ne, y1, y2, q1, q2, HKL.out, by go_num, HNL.out, HL4.out⟩
          case measure => have hkl := HKL.out; simp [intOf]; omega
        · refine opVal 10 10 (.pointer (some ⟨w3.heap.size, 0, none⟩)) (w3.drew.alloc (.cells #[.slice none 0 0, .int .i64 0] 48)) rfl (by kernel_rfl) (by kernel_rfl) (x_alloc48 (by kernel_rfl)) ⟨after_alloc hS0 _, ?_⟩
          refine tkCallS 6 75 26 #[(.agg #[(.slice x2 cur.length p2), (.int .i64 (e : Int))]), .int .u64 (mo : Int)] (fun v w' => Rx (w3.drew.alloc (.cells #[.slice none 0 0, .int .i64 0] 48)) w' x2 nb ne (.int .u64 (nv : Int)) v) (fuel := 5) rfl (by kernel_rfl) (by kernel_rfl) (by kernel_rfl) (fun _ => by kernel_rfl) (C2.out _ (H3.out.rs.after (after_alloc hS0 _))) (fun v w' h => by obtain ⟨_, _, _, _, hA, _⟩ := h; exact (after_alloc hS0 _).trans hA) ?_
          rintro v w4 ⟨y2, q2, rfl, hrs4, hA4, hbl4⟩
          have hS4 : After w3 w4 := (after_alloc hS0 _).trans hA4
          have R10 : RowIs w4 w3.heap.size 48 [.slice none 0 0, .int .i64 0] := (RowIs.new w3.drew 48 [.slice none 0 0, .int .i64 0]).below hA4 (by simp)
          refine tk 7 68 (.tuple #[.agg #[(.slice y2 nb.length q2), (.int .i64 (ne : Int))], .int .u64 (nv : Int)]) (fuel := 4) rfl (by kernel_rfl) (by kernel_rfl) (by kernel_rfl) (by kernel_rfl) noPanic_false (by kernel_rfl) (fun _ _ => by kernel_rfl) hS4 ?_
          refine tk 8 76 (.agg #[(.slice y2 nb.length q2), (.int .i64 (ne : Int))]) (fuel := 3) rfl (by kernel_rfl) (by kernel_rfl) (by kernel_rfl) (by kernel_rfl) noPanic_false (by kernel_rfl) (fun _ _ => by kernel_rfl) hS4 ?_
          refine tk 9 77 (.int .u64 (nv : Int)) (fuel := 2) rfl (by kernel_rfl) (by kernel_rfl) (by kernel_rfl) (by kernel_rfl) noPanic_false (by kernel_rfl) (fun _ _ => by kernel_rfl) hS4 ?_
          have hS6 : After w3 (w4.setRow w3.heap.size #[(.slice y2 nb.length q2), (.int .i64 (ne : Int))]) := Below.row hS4 (Nat.le_refl _) _
          have hrs6 : Rs (w4.setRow w3.heap.size #[(.slice y2 nb.length q2), (.int .i64 (ne : Int))]) nb y2 q2 := ⟨((But.refl w3.heap.size w4).setRow _).bytes hrs4.at' (fun a ha => by obtain ⟨b, hb1, hb2⟩ := hbl4 a ha; have := HREL.out.near b hb1; have := H3.out.aft.size; omega), hrs4.cap, hrs4.nil⟩
          refine tkStore 11 w3.heap.size 48 (.tmp 10) (.tmp 76) #[(.slice y2 nb.length q2), (.int .i64 (ne : Int))] #[.slice none 0 0, .int .i64 0] 48 (fuel := 1) rfl (by kernel_rfl) (by kernel_rfl) (by kernel_rfl) (by kernel_rfl) (by kernel_rfl) (by kernel_rfl) R10 size48 rfl (by simp [Value.oneCell']) hS6 ?_
          refine tk 12 11 (.int .u64 (nv : Int)) (fuel := 0) rfl (by kernel_rfl) (by kernel_rfl) (by kernel_rfl) (by kernel_rfl) noPanic_false (by kernel_rfl) (fun _ _ => by kernel_rfl) hS6 ?_
          refine with_world (p := fun W => wpAnyH Try.prog .any _ _ _ _ _ _ W) (fun W => LM w W gr gw nb ne y1 y2 q1 q2 (.slice x2 cur.length p2) (.int .i64 (e : Int)) ∧ RowIs W w3.heap.size 48 [(.slice y2 nb.length q2), (.int .i64 (ne : Int))]) ⟨LB.snd (H3.out.after hS6) hgr' hgw' hne HREL.out.near hrs6 (After.refl _) hbl4, RowIs.setRow R10 _⟩ ?_
          intro w6 h6
          have hG : w3.heap.size ≠ gw := by have := H3.out.row.lt; omega
          have t0 : w6.cell? ⟨gw, 0, none⟩ = some (.slice x2 cur.length p2) := RowIs.cell (cs := [.slice x2 cur.length p2, .int .i64 (e : Int)]) h6.1.row rfl
          have t1 : w6.cell? ⟨gw, 1, none⟩ = some (.int .i64 (e : Int)) := RowIs.cell (cs := [.slice x2 cur.length p2, .int .i64 (e : Int)]) h6.1.row rfl
          have f0 := RowIs.frozen (cs := [(.slice x2 cur.length p2), (.int .i64 (e : Int))]) h6.1.row 0
          have f1 := RowIs.frozen (cs := [(.slice x2 cur.length p2), (.int .i64 (e : Int))]) h6.1.row 1
          have i0 : w6.cell? ⟨w3.heap.size, 0, none⟩ = some (.slice y2 nb.length q2) := RowIs.cell (cs := [(.slice y2 nb.length q2), (.int .i64 (ne : Int))]) h6.2 rfl
          have i1 : w6.cell? ⟨w3.heap.size, 1, none⟩ = some (.int .i64 (ne : Int)) := RowIs.cell (cs := [(.slice y2 nb.length q2), (.int .i64 (ne : Int))]) h6.2 rfl
          have H6 := show Hid _ from h6.1
          clear h6 hS0 d0 d1 hA4 hbl4
          generalize w3.heap.size = g10 at *
          refine wpAnyH_done (by kernel_rfl) (NoPanic.normal ?_) _
          go_simp
          go_wp2
          refine with_world (p := fun W => Code.wp Try.prog _ _ _ W) (fun W => LR w W gr gw nb ne y1 y2 q1 q2) (H6.out.fin) ?_
          intro W0 hL
          refine wp_region_noPanic ?_
          refine wp_region_held_drew (S := After W0) (by kernel_rfl) (After.drew (After.refl W0)) ?_
          intro hS0
          have L0 := hL.after hS0
          refine tk 0 112 (.pointer (some ⟨gr, 0, none⟩)) (fuel := 19) rfl (by kernel_rfl) (by kernel_rfl) (by kernel_rfl) (by kernel_rfl) noPanic_false (by kernel_rfl) (fun _ _ => by kernel_rfl) hS0 ?_
          refine tk 2 114 (.pointer (some ⟨gw, 0, none⟩)) (fuel := 18) rfl (by kernel_rfl) (by kernel_rfl) (by kernel_rfl) (by kernel_rfl) noPanic_false (by kernel_rfl) (fun _ _ => by kernel_rfl) hS0 ?_
          refine tk 3 115 (.slice y2 nb.length q2) (fuel := 17) rfl (by kernel_rfl) (by kernel_rfl) (by kernel_rfl) (by kernel_rfl) noPanic_false (by kernel_rfl) (fun W h => x_load23 (x := .tmp 114) (g := gw) (by kernel_rfl) (by kernel_rfl) ((hL.after h).row.cell rfl)) hS0 ?_
          refine tk 4 116 (.int .i64 (nb.length : Int)) (fuel := 16) rfl (by kernel_rfl) (by kernel_rfl) (by kernel_rfl) (by kernel_rfl) noPanic_false (by kernel_rfl) (fun _ _ => by kernel_rfl) hS0 ?_
          refine tkCall 1 113 33 #[(.pointer (some ⟨gr, 0, none⟩))] (fun v _ => v = .int .i64 (nb.length : Int)) (fuel := 15) rfl (by kernel_rfl) (by kernel_rfl) (by kernel_rfl) (fun _ => by kernel_rfl) hS0 ((rLeft_any gr nb ne y1 q1 _ L0.rd).mono (fun _ _ h => ⟨_, h.1, rfl, h.2 ▸ Below.refl _ _⟩)) ?_
          rintro _ z1 rfl z1s
          have L1 := L0.after z1s
          refine tk 5 117 (.bool false) (fuel := 14) rfl (by kernel_rfl) (by kernel_rfl) (by kernel_rfl) (by kernel_rfl) noPanic_false (by kernel_rfl) (fun _ _ => x_neqf (t := 3) (x := .tmp 113) (y := .tmp 116) (p := (nb.length : Int)) (by kernel_rfl) (by kernel_rfl) (by kernel_rfl)) (After.refl z1) ?_
          refine tk 6 118 (.bool false) (fuel := 13) rfl (by kernel_rfl) (by kernel_rfl) (by kernel_rfl) (by kernel_rfl) noPanic_false (by kernel_rfl) (fun _ _ => by kernel_rfl) (After.refl z1) ?_
          refine tk 7 119 (.pointer (some ⟨gr, 0, none⟩)) (fuel := 12) rfl (by kernel_rfl) (by kernel_rfl) (by kernel_rfl) (by kernel_rfl) noPanic_false (by kernel_rfl) (fun _ _ => by kernel_rfl) (After.refl z1) ?_
          refine tk 9 121 (.pointer (some ⟨gw, 1, none⟩)) (fuel := 11) rfl (by kernel_rfl) (by kernel_rfl) (by kernel_rfl) (by kernel_rfl) noPanic_false (by kernel_rfl) (fun _ _ => by kernel_rfl) (After.refl z1) ?_
          refine tk 10 122 (.int .i64 (ne : Int)) (fuel := 10) rfl (by kernel_rfl) (by kernel_rfl) (by kernel_rfl) (by kernel_rfl) noPanic_false (by kernel_rfl) (fun W h => x_load3 (x := .tmp 121) (g := gw) (j := 1) (by kernel_rfl) (by kernel_rfl) ((L1.after h).row.cell rfl)) (After.refl z1) ?_
          refine tkCall 8 120 34 #[(.pointer (some ⟨gr, 0, none⟩))] (fun v _ => v = .int .i64 (ne : Int)) (fuel := 9) rfl (by kernel_rfl) (by kernel_rfl) (by kernel_rfl) (fun _ => by kernel_rfl) (After.refl z1) ((rErr_any gr nb ne y1 q1 _ L1.rd).mono (fun _ _ h => ⟨_, h.1, rfl, h.2 ▸ Below.refl _ _⟩)) ?_
          rintro _ z2 rfl z2s
          have L2 := L1.after z2s
          refine tk 11 123 (.bool false) (fuel := 8) rfl (by kernel_rfl) (by kernel_rfl) (by kernel_rfl) (by kernel_rfl) noPanic_false (by kernel_rfl) (fun _ _ => x_neqf (t := 3) (x := .tmp 120) (y := .tmp 122) (p := (ne : Int)) (by kernel_rfl) (by kernel_rfl) (by kernel_rfl)) (After.refl z2) ?_
          refine tk 12 124 (.bool false) (fuel := 7) rfl (by kernel_rfl) (by kernel_rfl) (by kernel_rfl) (by kernel_rfl) noPanic_false (by kernel_rfl) (fun _ _ => by kernel_rfl) (After.refl z2) ?_
          refine tk 13 125 (.bool false) (fuel := 6) rfl (by kernel_rfl) (by kernel_rfl) (by kernel_rfl) (by kernel_rfl) noPanic_false (by kernel_rfl) (fun _ _ => by kernel_rfl) (After.refl z2) ?_
          refine tk 14 126 (.pointer (some ⟨gr, 0, none⟩)) (fuel := 5) rfl (by kernel_rfl) (by kernel_rfl) (by kernel_rfl) (by kernel_rfl) noPanic_false (by kernel_rfl) (fun _ _ => by kernel_rfl) (After.refl z2) ?_
          refine tk 16 128 (.agg #[.slice y2 nb.length q2, .int .i64 (ne : Int)]) (fuel := 4) rfl (by kernel_rfl) (by kernel_rfl) (by kernel_rfl) (by kernel_rfl) noPanic_false (by kernel_rfl) (fun W h => x_load48 (x := .tmp 6) (g := gw) (by kernel_rfl) (by kernel_rfl) (L2.after h).row) (After.refl z2) ?_
          refine tkCall 15 127 35 #[(.pointer (some ⟨gr, 0, none⟩))] (fun v _ => v = .int .i64 (sdE nb ne : Int)) (fuel := 3) rfl (by kernel_rfl) (by kernel_rfl) (by kernel_rfl) (fun _ => by kernel_rfl) (After.refl z2) ((rDone_any gr nb ne y1 q1 _ L2.rd).mono (fun _ _ h => ⟨_, h.1, rfl, h.2 ▸ Below.refl _ _⟩)) ?_
          rintro _ z3 rfl z3s
          have L3 := L2.after z3s
          refine tkCall 17 129 36 #[.agg #[.slice y2 nb.length q2, .int .i64 (ne : Int)]] (fun v _ => v = .int .i64 (sdE nb ne : Int)) (fuel := 2) rfl (by kernel_rfl) (by kernel_rfl) (by kernel_rfl) (fun _ => by kernel_rfl) (After.refl z3) ((rrDone_any y2 nb q2 ne _).mono (fun _ _ h => ⟨_, h.1, rfl, h.2⟩)) ?_
          rintro _ z4 rfl z4s
          have HL4 := show Hid _ from L3.after z4s
          refine tk 18 130 (.bool false) (fuel := 1) rfl (by kernel_rfl) (by kernel_rfl) (by kernel_rfl) (by kernel_rfl) noPanic_false (by kernel_rfl) (fun _ _ => x_neqf (t := 3) (x := .tmp 127) (y := .tmp 129) (p := (sdE nb ne : Int)) (by kernel_rfl) (by kernel_rfl) (by kernel_rfl)) (After.refl z4) ?_
          refine tk 19 131 (.bool false) (fuel := 0) rfl (by kernel_rfl) (by kernel_rfl) (by kernel_rfl) (by kernel_rfl) noPanic_false (by kernel_rfl) (fun _ _ => by kernel_rfl) (After.refl z4) ?_
          clear hL hS0 L0 L1 L2 L3 z1s z2s z3s z4s
          refine wpAnyH_done (by kernel_rfl) (NoPanic.normal ?_) _
          go_simp
          go_wp2
          go_roundw
          case rel => exact ⟨k + 1, nb, ne, y1, y2, q1, q2, HKL.out, by go_num, HNL.out, HL4.out⟩
          case measure => have hkl := HKL.out; simp [intOf]; omega
      · obtain ⟨nv, hnv⟩ : ∃ b, siV cur e = b := ⟨_, rfl⟩
        obtain ⟨nb, hnb⟩ : ∃ b, siB cur e = b := ⟨_, rfl⟩
        obtain ⟨ne, hne'⟩ : ∃ b, siE cur e = b := ⟨_, rfl⟩
        have HNL : Hid (nb.length ≤ 140737488355328) := by unfold Hid; rw [← hnb]; exact Nat.le_trans (siB_le cur e) hcl
        have C1 := show Hid _ from rInt_any gr cur e x1 p1 wr HREL.out.rd
        have C2 := show Hid _ from fun W (hW : Rs W cur x2 p2) => rrInt_any cur e x2 p2 W hW
        rw [hnv, hnb, hne'] at C1
        simp only [hnv, hnb, hne'] at C2
        clear hnv hnb hne'
        go_wp2_with (first
          | (go_at_call 27; refine Calls.mono C1.out ?_; rintro x w3 ⟨rfl, hn3⟩; obtain ⟨y1, q1, LB3⟩ := HREL.out.fst hn3; have d0 : w3.cell? ⟨gw, 0, none⟩ = some (.slice x2 cur.length p2) := RowIs.cell (cs := [.slice x2 cur.length p2, .int .i64 (e : Int)]) LB3.row rfl; have d1 : w3.cell? ⟨gw, 1, none⟩ = some (.int .i64 (e : Int)) := RowIs.cell (cs := [.slice x2 cur.length p2, .int .i64 (e : Int)]) LB3.row rfl; have H3 := show Hid _ from LB3; clear LB3 hn3)
          | (go_at_call 28; refine Calls.mono (C2.out _ H3.out.rs) ?_; rintro x w4 ⟨y, rfl, y2, q2, rfl, hrs4, hA4, hbl4⟩; have LM4 := LB.snd H3.out hgr' hgw' hne HREL.out.near hrs4 hA4 hbl4; have t0 : w4.cell? ⟨gw, 0, none⟩ = some (.slice x2 cur.length p2) := RowIs.cell (cs := [.slice x2 cur.length p2, .int .i64 (e : Int)]) LM4.row rfl; have t1 : w4.cell? ⟨gw, 1, none⟩ = some (.int .i64 (e : Int)) := RowIs.cell (cs := [.slice x2 cur.length p2, .int .i64 (e : Int)]) LM4.row rfl; have f0 := RowIs.frozen (cs := [.slice x2 cur.length p2, .int .i64 (e : Int)]) LM4.row 0; have f1 := RowIs.frozen (cs := [.slice x2 cur.length p2, .int .i64 (e : Int)]) LM4.row 1; have hg4 : gw < w4.heap.size := LM4.row.lt; have H4 := show Hid _ from LM4; clear LM4 hrs4 hA4 hbl4 d0 d1))
        refine with_world (p := fun W => Code.wp Try.prog _ _ _ W) (fun W => LR w W gr gw nb ne y1 y2 q1 q2) (H4.out.fin.after (after_alloc (After.refl _) _)) ?_
        intro W0 hL
        refine wp_region_noPanic ?_
        refine wp_region_held_drew (S := After W0) (by kernel_rfl) (After.drew (After.refl W0)) ?_
        intro hS0
        have L0 := hL.after hS0
        refine tk 0 112 (.pointer (some ⟨gr, 0, none⟩)) (fuel := 19) rfl (by kernel_rfl) (by kernel_rfl) (by kernel_rfl) (by kernel_rfl) noPanic_false (by kernel_rfl) (fun _ _ => by kernel_rfl) hS0 ?_
        refine tk 2 114 (.pointer (some ⟨gw, 0, none⟩)) (fuel := 18) rfl (by kernel_rfl) (by kernel_rfl) (by kernel_rfl) (by kernel_rfl) noPanic_false (by kernel_rfl) (fun _ _ => by kernel_rfl) hS0 ?_
        refine tk 3 115 (.slice y2 nb.length q2) (fuel := 17) rfl (by kernel_rfl) (by kernel_rfl) (by kernel_rfl) (by kernel_rfl) noPanic_false (by kernel_rfl) (fun W h => x_load23 (x := .tmp 114) (g := gw) (by kernel_rfl) (by kernel_rfl) ((hL.after h).row.cell rfl)) hS0 ?_
        refine tk 4 116 (.int .i64 (nb.length : Int)) (fuel := 16) rfl (by kernel_rfl) (by kernel_rfl) (by kernel_rfl) (by kernel_rfl) noPanic_false (by kernel_rfl) (fun _ _ => by kernel_rfl) hS0 ?_
        refine tkCall 1 113 33 #[(.pointer (some ⟨gr, 0, none⟩))] (fun v _ => v = .int .i64 (nb.length : Int)) (fuel := 15) rfl (by kernel_rfl) (by kernel_rfl) (by kernel_rfl) (fun _ => by kernel_rfl) hS0 ((rLeft_any gr nb ne y1 q1 _ L0.rd).mono (fun _ _ h => ⟨_, h.1, rfl, h.2 ▸ Below.refl _ _⟩)) ?_
        rintro _ z1 rfl z1s
        have L1 := L0.after z1s
        refine tk 5 117 (.bool false) (fuel := 14) rfl (by kernel_rfl) (by kernel_rfl) (by kernel_rfl) (by kernel_rfl) noPanic_false (by kernel_rfl) (fun _ _ => x_neqf (t := 3) (x := .tmp 113) (y := .tmp 116) (p := (nb.length : Int)) (by kernel_rfl) (by kernel_rfl) (by kernel_rfl)) (After.refl z1) ?_
        refine tk 6 118 (.bool false) (fuel := 13) rfl (by kernel_rfl) (by kernel_rfl) (by kernel_rfl) (by kernel_rfl) noPanic_false (by kernel_rfl) (fun _ _ => by kernel_rfl) (After.refl z1) ?_
        refine tk 7 119 (.pointer (some ⟨gr, 0, none⟩)) (fuel := 12) rfl (by kernel_rfl) (by kernel_rfl) (by kernel_rfl) (by kernel_rfl) noPanic_false (by kernel_rfl) (fun _ _ => by kernel_rfl) (After.refl z1) ?_
        refine tk 9 121 (.pointer (some ⟨gw, 1, none⟩)) (fuel := 11) rfl (by kernel_rfl) (by kernel_rfl) (by kernel_rfl) (by kernel_rfl) noPanic_false (by kernel_rfl) (fun _ _ => by kernel_rfl) (After.refl z1) ?_
        refine tk 10 122 (.int .i64 (ne : Int)) (fuel := 10) rfl (by kernel_rfl) (by kernel_rfl) (by kernel_rfl) (by kernel_rfl) noPanic_false (by kernel_rfl) (fun W h => x_load3 (x := .tmp 121) (g := gw) (j := 1) (by kernel_rfl) (by kernel_rfl) ((L1.after h).row.cell rfl)) (After.refl z1) ?_
        refine tkCall 8 120 34 #[(.pointer (some ⟨gr, 0, none⟩))] (fun v _ => v = .int .i64 (ne : Int)) (fuel := 9) rfl (by kernel_rfl) (by kernel_rfl) (by kernel_rfl) (fun _ => by kernel_rfl) (After.refl z1) ((rErr_any gr nb ne y1 q1 _ L1.rd).mono (fun _ _ h => ⟨_, h.1, rfl, h.2 ▸ Below.refl _ _⟩)) ?_
        rintro _ z2 rfl z2s
        have L2 := L1.after z2s
        refine tk 11 123 (.bool false) (fuel := 8) rfl (by kernel_rfl) (by kernel_rfl) (by kernel_rfl) (by kernel_rfl) noPanic_false (by kernel_rfl) (fun _ _ => x_neqf (t := 3) (x := .tmp 120) (y := .tmp 122) (p := (ne : Int)) (by kernel_rfl) (by kernel_rfl) (by kernel_rfl)) (After.refl z2) ?_
        refine tk 12 124 (.bool false) (fuel := 7) rfl (by kernel_rfl) (by kernel_rfl) (by kernel_rfl) (by kernel_rfl) noPanic_false (by kernel_rfl) (fun _ _ => by kernel_rfl) (After.refl z2) ?_
        refine tk 13 125 (.bool false) (fuel := 6) rfl (by kernel_rfl) (by kernel_rfl) (by kernel_rfl) (by kernel_rfl) noPanic_false (by kernel_rfl) (fun _ _ => by kernel_rfl) (After.refl z2) ?_
        refine tk 14 126 (.pointer (some ⟨gr, 0, none⟩)) (fuel := 5) rfl (by kernel_rfl) (by kernel_rfl) (by kernel_rfl) (by kernel_rfl) noPanic_false (by kernel_rfl) (fun _ _ => by kernel_rfl) (After.refl z2) ?_
        refine tk 16 128 (.agg #[.slice y2 nb.length q2, .int .i64 (ne : Int)]) (fuel := 4) rfl (by kernel_rfl) (by kernel_rfl) (by kernel_rfl) (by kernel_rfl) noPanic_false (by kernel_rfl) (fun W h => x_load48 (x := .tmp 6) (g := gw) (by kernel_rfl) (by kernel_rfl) (L2.after h).row) (After.refl z2) ?_
        refine tkCall 15 127 35 #[(.pointer (some ⟨gr, 0, none⟩))] (fun v _ => v = .int .i64 (sdE nb ne : Int)) (fuel := 3) rfl (by kernel_rfl) (by kernel_rfl) (by kernel_rfl) (fun _ => by kernel_rfl) (After.refl z2) ((rDone_any gr nb ne y1 q1 _ L2.rd).mono (fun _ _ h => ⟨_, h.1, rfl, h.2 ▸ Below.refl _ _⟩)) ?_
        rintro _ z3 rfl z3s
        have L3 := L2.after z3s
        refine tkCall 17 129 36 #[.agg #[.slice y2 nb.length q2, .int .i64 (ne : Int)]] (fun v _ => v = .int .i64 (sdE nb ne : Int)) (fuel := 2) rfl (by kernel_rfl) (by kernel_rfl) (by kernel_rfl) (fun _ => by kernel_rfl) (After.refl z3) ((rrDone_any y2 nb q2 ne _).mono (fun _ _ h => ⟨_, h.1, rfl, h.2⟩)) ?_
        rintro _ z4 rfl z4s
        have HL4 := show Hid _ from L3.after z4s
        refine tk 18 130 (.bool false) (fuel := 1) rfl (by kernel_rfl) (by kernel_rfl) (by kernel_rfl) (by kernel_rfl) noPanic_false (by kernel_rfl) (fun _ _ => x_neqf (t := 3) (x := .tmp 127) (y := .tmp 129) (p := (sdE nb ne : Int)) (by kernel_rfl) (by kernel_rfl) (by kernel_rfl)) (After.refl z4) ?_
        refine tk 19 131 (.bool false) (fuel := 0) rfl (by kernel_rfl) (by kernel_rfl) (by kernel_rfl) (by kernel_rfl) noPanic_false (by kernel_rfl) (fun _ _ => by kernel_rfl) (After.refl z4) ?_
        clear hL hS0 L0 L1 L2 L3 z1s z2s z3s z4s
        refine wpAnyH_done (by kernel_rfl) (NoPanic.normal ?_) _
        go_simp
        go_wp2
        go_roundw
        case rel => exact ⟨k + 1, nb, ne, y1, y2, q1, q2, HKL.out, by go_num, HNL.out, HL4.out⟩
        case measure => have hkl := HKL.out; simp [intOf]; omega
      · obtain ⟨nv, hnv⟩ : ∃ b, stS cur e ((mo : Int) % 4611686018427387904 - 1) = b := ⟨_, rfl⟩
        obtain ⟨nb, hnb⟩ : ∃ b, stB cur e ((mo : Int) % 4611686018427387904 - 1) = b := ⟨_, rfl⟩
        obtain ⟨ne, hne'⟩ : ∃ b, stE cur e ((mo : Int) % 4611686018427387904 - 1) = b := ⟨_, rfl⟩
        have HNL : Hid (nb.length ≤ 140737488355328) := by unfold Hid; rw [← hnb]; exact Nat.le_trans (stB_le cur e ((mo : Int) % 4611686018427387904 - 1)) hcl
        have C1 := show Hid _ from rText_any gr cur e x1 p1 ((mo : Int) % 4611686018427387904 - 1) (by omega) (by omega) (Nat.le_trans hcl (by decide)) wr HREL.out.rd
        have C2 := show Hid _ from fun W (hW : Rs W cur x2 p2) => rrText_any cur e x2 p2 ((mo : Int) % 4611686018427387904 - 1) (by omega) (by omega) (Nat.le_trans hcl (by decide)) W hW
        rw [hnv, hnb, hne'] at C1
        simp only [hnv, hnb, hne'] at C2
        clear hnv hnb hne'
        go_wp2_with (first
          | (go_at_call 29; refine Calls.mono C1.out ?_; rintro x w3 ⟨rfl, hn3⟩; obtain ⟨y1, q1, LB3⟩ := HREL.out.fst hn3; have d0 : w3.cell? ⟨gw, 0, none⟩ = some (.slice x2 cur.length p2) := RowIs.cell (cs := [.slice x2 cur.length p2, .int .i64 (e : Int)]) LB3.row rfl; have d1 : w3.cell? ⟨gw, 1, none⟩ = some (.int .i64 (e : Int)) := RowIs.cell (cs := [.slice x2 cur.length p2, .int .i64 (e : Int)]) LB3.row rfl; have H3 := show Hid _ from LB3; clear LB3 hn3)
          | (go_at_call 30; refine Calls.mono (C2.out _ H3.out.rs) ?_; rintro x w4 ⟨y, rfl, y2, q2, rfl, hrs4, hA4, hbl4⟩; have LM4 := LB.snd H3.out hgr' hgw' hne HREL.out.near hrs4 hA4 hbl4; have t0 : w4.cell? ⟨gw, 0, none⟩ = some (.slice x2 cur.length p2) := RowIs.cell (cs := [.slice x2 cur.length p2, .int .i64 (e : Int)]) LM4.row rfl; have t1 : w4.cell? ⟨gw, 1, none⟩ = some (.int .i64 (e : Int)) := RowIs.cell (cs := [.slice x2 cur.length p2, .int .i64 (e : Int)]) LM4.row rfl; have f0 := RowIs.frozen (cs := [.slice x2 cur.length p2, .int .i64 (e : Int)]) LM4.row 0; have f1 := RowIs.frozen (cs := [.slice x2 cur.length p2, .int .i64 (e : Int)]) LM4.row 1; have hg4 : gw < w4.heap.size := LM4.row.lt; have H4 := show Hid _ from LM4; clear LM4 hrs4 hA4 hbl4 d0 d1))
        refine with_world (p := fun W => Code.wp Try.prog _ _ _ W) (fun W => LR w W gr gw nb ne y1 y2 q1 q2) (H4.out.fin.after (after_alloc (After.refl _) _)) ?_
        intro W0 hL
        refine wp_region_noPanic ?_
        refine wp_region_held_drew (S := After W0) (by kernel_rfl) (After.drew (After.refl W0)) ?_
        intro hS0
        have L0 := hL.after hS0
        refine tk 0 112 (.pointer (some ⟨gr, 0, none⟩)) (fuel := 19) rfl (by kernel_rfl) (by kernel_rfl) (by kernel_rfl) (by kernel_rfl) noPanic_false (by kernel_rfl) (fun _ _ => by kernel_rfl) hS0 ?_
        refine tk 2 114 (.pointer (some ⟨gw, 0, none⟩)) (fuel := 18) rfl (by kernel_rfl) (by kernel_rfl) (by kernel_rfl) (by kernel_rfl) noPanic_false (by kernel_rfl) (fun _ _ => by kernel_rfl) hS0 ?_
        refine tk 3 115 (.slice y2 nb.length q2) (fuel := 17) rfl (by kernel_rfl) (by kernel_rfl) (by kernel_rfl) (by kernel_rfl) noPanic_false (by kernel_rfl) (fun W h => x_load23 (x := .tmp 114) (g := gw) (by kernel_rfl) (by kernel_rfl) ((hL.after h).row.cell rfl)) hS0 ?_
        refine tk 4 116 (.int .i64 (nb.length : Int)) (fuel := 16) rfl (by kernel_rfl) (by kernel_rfl) (by kernel_rfl) (by kernel_rfl) noPanic_false (by kernel_rfl) (fun _ _ => by kernel_rfl) hS0 ?_
        refine tkCall 1 113 33 #[(.pointer (some ⟨gr, 0, none⟩))] (fun v _ => v = .int .i64 (nb.length : Int)) (fuel := 15) rfl (by kernel_rfl) (by kernel_rfl) (by kernel_rfl) (fun _ => by kernel_rfl) hS0 ((rLeft_any gr nb ne y1 q1 _ L0.rd).mono (fun _ _ h => ⟨_, h.1, rfl, h.2 ▸ Below.refl _ _⟩)) ?_
        rintro _ z1 rfl z1s
        have L1 := L0.after z1s
        refine tk 5 117 (.bool false) (fuel := 14) rfl (by kernel_rfl) (by kernel_rfl) (by kernel_rfl) (by kernel_rfl) noPanic_false (by kernel_rfl) (fun _ _ => x_neqf (t := 3) (x := .tmp 113) (y := .tmp 116) (p := (nb.length : Int)) (by kernel_rfl) (by kernel_rfl) (by kernel_rfl)) (After.refl z1) ?_
        refine tk 6 118 (.bool false) (fuel := 13) rfl (by kernel_rfl) (by kernel_rfl) (by kernel_rfl) (by kernel_rfl) noPanic_false (by kernel_rfl) (fun _ _ => by kernel_rfl) (After.refl z1) ?_
        refine tk 7 119 (.pointer (some ⟨gr, 0, none⟩)) (fuel := 12) rfl (by kernel_rfl) (by kernel_rfl) (by kernel_rfl) (by kernel_rfl) noPanic_false (by kernel_rfl) (fun _ _ => by kernel_rfl) (After.refl z1) ?_
        refine tk 9 121 (.pointer (some ⟨gw, 1, none⟩)) (fuel := 11) rfl (by kernel_rfl) (by kernel_rfl) (by kernel_rfl) (by kernel_rfl) noPanic_false (by kernel_rfl) (fun _ _ => by kernel_rfl) (After.refl z1) ?_
        refine tk 10 122 (.int .i64 (ne : Int)) (fuel := 10) rfl (by kernel_rfl) (by kernel_rfl) (by kernel_rfl) (by kernel_rfl) noPanic_false (by kernel_rfl) (fun W h => x_load3 (x := .tmp 121) (g := gw) (j := 1) (by kernel_rfl) (by kernel_rfl) ((L1.after h).row.cell rfl)) (After.refl z1) ?_
        refine tkCall 8 120 34 #[(.pointer (some ⟨gr, 0, none⟩))] (fun v _ => v = .int .i64 (ne : Int)) (fuel := 9) rfl (by kernel_rfl) (by kernel_rfl) (by kernel_rfl) (fun _ => by kernel_rfl) (After.refl z1) ((rErr_any gr nb ne y1 q1 _ L1.rd).mono (fun _ _ h => ⟨_, h.1, rfl, h.2 ▸ Below.refl _ _⟩)) ?_
        rintro _ z2 rfl z2s
        have L2 := L1.after z2s
        refine tk 11 123 (.bool false) (fuel := 8) rfl (by kernel_rfl) (by kernel_rfl) (by kernel_rfl) (by kernel_rfl) noPanic_false (by kernel_rfl) (fun _ _ => x_neqf (t := 3) (x := .tmp 120) (y := .tmp 122) (p := (ne : Int)) (by kernel_rfl) (by kernel_rfl) (by kernel_rfl)) (After.refl z2) ?_
        refine tk 12 124 (.bool false) (fuel := 7) rfl (by kernel_rfl) (by kernel_rfl) (by kernel_rfl) (by kernel_rfl) noPanic_false (by kernel_rfl) (fun _ _ => by kernel_rfl) (After.refl z2) ?_
        refine tk 13 125 (.bool false) (fuel := 6) rfl (by kernel_rfl) (by kernel_rfl) (by kernel_rfl) (by kernel_rfl) noPanic_false (by kernel_rfl) (fun _ _ => by kernel_rfl) (After.refl z2) ?_
        refine tk 14 126 (.pointer (some ⟨gr, 0, none⟩)) (fuel := 5) rfl (by kernel_rfl) (by kernel_rfl) (by kernel_rfl) (by kernel_rfl) noPanic_false (by kernel_rfl) (fun _ _ => by kernel_rfl) (After.refl z2) ?_
        refine tk 16 128 (.agg #[.slice y2 nb.length q2, .int .i64 (ne : Int)]) (fuel := 4) rfl (by kernel_rfl) (by kernel_rfl) (by kernel_rfl) (by kernel_rfl) noPanic_false (by kernel_rfl) (fun W h => x_load48 (x := .tmp 6) (g := gw) (by kernel_rfl) (by kernel_rfl) (L2.after h).row) (After.refl z2) ?_
        refine tkCall 15 127 35 #[(.pointer (some ⟨gr, 0, none⟩))] (fun v _ => v = .int .i64 (sdE nb ne : Int)) (fuel := 3) rfl (by kernel_rfl) (by kernel_rfl) (by kernel_rfl) (fun _ => by kernel_rfl) (After.refl z2) ((rDone_any gr nb ne y1 q1 _ L2.rd).mono (fun _ _ h => ⟨_, h.1, rfl, h.2 ▸ Below.refl _ _⟩)) ?_
        rintro _ z3 rfl z3s
        have L3 := L2.after z3s
        refine tkCall 17 129 36 #[.agg #[.slice y2 nb.length q2, .int .i64 (ne : Int)]] (fun v _ => v = .int .i64 (sdE nb ne : Int)) (fuel := 2) rfl (by kernel_rfl) (by kernel_rfl) (by kernel_rfl) (fun _ => by kernel_rfl) (After.refl z3) ((rrDone_any y2 nb q2 ne _).mono (fun _ _ h => ⟨_, h.1, rfl, h.2⟩)) ?_
        rintro _ z4 rfl z4s
        have HL4 := show Hid _ from L3.after z4s
        refine tk 18 130 (.bool false) (fuel := 1) rfl (by kernel_rfl) (by kernel_rfl) (by kernel_rfl) (by kernel_rfl) noPanic_false (by kernel_rfl) (fun _ _ => x_neqf (t := 3) (x := .tmp 127) (y := .tmp 129) (p := (sdE nb ne : Int)) (by kernel_rfl) (by kernel_rfl) (by kernel_rfl)) (After.refl z4) ?_
        refine tk 19 131 (.bool false) (fuel := 0) rfl (by kernel_rfl) (by kernel_rfl) (by kernel_rfl) (by kernel_rfl) noPanic_false (by kernel_rfl) (fun _ _ => by kernel_rfl) (After.refl z4) ?_
        clear hL hS0 L0 L1 L2 L3 z1s z2s z3s z4s
        refine wpAnyH_done (by kernel_rfl) (NoPanic.normal ?_) _
        go_simp
        go_wp2
        go_roundw
        case rel => exact ⟨k + 1, nb, ne, y1, y2, q1, q2, HKL.out, by go_num, HNL.out, HL4.out⟩
        case measure => have hkl := HKL.out; simp [intOf]; omega
      · obtain ⟨nv, hnv⟩ : ∃ b, shH cur e = b := ⟨_, rfl⟩
        have HNV : Hid (nv.length = 32) := by unfold Hid; rw [← hnv]; exact shH_len cur e
        obtain ⟨nb, hnb⟩ : ∃ b, shB cur e = b := ⟨_, rfl⟩
        obtain ⟨ne, hne'⟩ : ∃ b, shE cur e = b := ⟨_, rfl⟩
        have HNL : Hid (nb.length ≤ 140737488355328) := by unfold Hid; rw [← hnb]; exact Nat.le_trans (shB_le cur e) hcl
        have C1 := show Hid _ from rHash_any gr cur e x1 p1 wr HREL.out.rd
        have C2 := show Hid _ from fun W (hW : Rs W cur x2 p2) => rrHash_any cur e x2 p2 W hW
        rw [hnv, hnb, hne'] at C1
        simp only [hnv, hnb, hne'] at C2
        clear hnv hnb hne'
        have heq : ∀ W : World, (Op.equalIn 10000 61 (.agg (c8 nv).toArray) (.agg (c8 nv).toArray)).run Try.prog W = .ok true W := fun W => by rw [eq61 _ _ HNV.out HNV.out]; simp
        have HZS : Hid ((c8 zeroHash).toArray.size = (c8 nv).toArray.size) := by unfold Hid; simp only [List.size_toArray, c8_len, HNV.out]; rfl
        go_wp2_with (first
          | (go_at_call 31; refine Calls.mono C1.out ?_; rintro x w3 ⟨rfl, hn3⟩; obtain ⟨y1, q1, LB3⟩ := HREL.out.fst hn3; have H3 := show Hid _ from LB3; clear LB3 hn3)
          | (refine wpList_store_row rfl 61 (.tmp 18) (.tmp 49) rfl w3.heap.size (c8 nv).toArray rfl rfl 61 (c8 zeroHash).toArray (RowIs.new w3 61 (c8 zeroHash)) (hsize HNV.out) HZS.out (all_oneCell_toArray (c8_one _)) ?_; refine with_world (p := fun W => wpList _ _ _ _ _ W) (fun W => After w3 W ∧ RowIs W w3.heap.size 61 (c8 nv)) (after_row (Below.refl _ _) nv) ?_; intro w5 h5; have LB5 := LB.after H3.out h5.1; have d0 : w5.cell? ⟨gw, 0, none⟩ = some (.slice x2 cur.length p2) := RowIs.cell (cs := [.slice x2 cur.length p2, .int .i64 (e : Int)]) LB5.row rfl; have d1 : w5.cell? ⟨gw, 1, none⟩ = some (.int .i64 (e : Int)) := RowIs.cell (cs := [.slice x2 cur.length p2, .int .i64 (e : Int)]) LB5.row rfl; have R18 : Hid (RowIs w5 w3.heap.size 61 (c8 nv)) := h5.2; have H5 := show Hid _ from LB5; clear LB5 h5 H3; generalize w3.heap.size = g18 at *)
          | (go_at_call 32; refine Calls.mono (C2.out _ H5.out.rs) ?_; rintro x w4 ⟨y, rfl, y2, q2, rfl, hrs4, hA4, hbl4⟩; have H4 := show Hid _ from LB.snd H5.out hgr' hgw' hne HREL.out.near hrs4 hA4 hbl4; have R18b : Hid (RowIs w4 g18 61 (c8 nv)) := RowIs.below R18.out hA4 (RowIs.lt R18.out); clear hrs4 hA4 hbl4 d0 d1)
          | (refine wpList_store_row rfl 61 (.tmp 20) (.tmp 54) rfl (w4.heap.size + 1) (c8 nv).toArray rfl rfl 61 (c8 zeroHash).toArray (RowIs.new1 w4 _ 61 (c8 zeroHash)) (hsize HNV.out) HZS.out (all_oneCell_toArray (c8_one _)) ?_; refine with_world (p := fun W => wpList _ _ _ _ _ W) (fun W => After w4 W ∧ RowIs W w4.heap.size 48 [(.slice y2 nb.length q2), (.int .i64 (ne : Int))] ∧ RowIs W (w4.heap.size + 1) 61 (c8 nv)) (hash_end w4 _ _ nv) ?_; intro w6 h6; have LM6 := LM.after H4.out h6.1; have t0 : w6.cell? ⟨gw, 0, none⟩ = some (.slice x2 cur.length p2) := RowIs.cell (cs := [.slice x2 cur.length p2, .int .i64 (e : Int)]) LM6.row rfl; have t1 : w6.cell? ⟨gw, 1, none⟩ = some (.int .i64 (e : Int)) := RowIs.cell (cs := [.slice x2 cur.length p2, .int .i64 (e : Int)]) LM6.row rfl; have f0 := RowIs.frozen (cs := [(.slice x2 cur.length p2), (.int .i64 (e : Int))]) LM6.row 0; have f1 := RowIs.frozen (cs := [(.slice x2 cur.length p2), (.int .i64 (e : Int))]) LM6.row 1; have hg6 : gw < w6.heap.size := LM6.row.lt; have hG : w4.heap.size ≠ gw := (by have := H4.out.row.lt; omega); have i0 : w6.cell? ⟨w4.heap.size, 0, none⟩ = some (.slice y2 nb.length q2) := RowIs.cell (cs := [(.slice y2 nb.length q2), (.int .i64 (ne : Int))]) h6.2.1 rfl; have i1 : w6.cell? ⟨w4.heap.size, 1, none⟩ = some (.int .i64 (ne : Int)) := RowIs.cell (cs := [(.slice y2 nb.length q2), (.int .i64 (ne : Int))]) h6.2.1 rfl; have R18c : Hid (RowIs w6 g18 61 (c8 nv)) := RowIs.below R18b.out h6.1 (RowIs.lt R18b.out); have R20 : Hid (RowIs w6 (w4.heap.size + 1) 61 (c8 nv)) := h6.2.2; have H6 := show Hid _ from LM6; clear LM6 h6)
          | (refine wpList_load_row rfl 61 (.tmp 18) rfl g18 rfl 61 (c8 nv).toArray (0, 0) _ R18c.out Try.underlying61 rfl (hsize HNV.out) ?_)
          | (refine wpList_load_row rfl 61 (.tmp 20) rfl (w4.heap.size + 1) rfl 61 (c8 nv).toArray (0, 0) _ R20.out Try.underlying61 rfl (hsize HNV.out) ?_))
        refine with_world (p := fun W => Code.wp Try.prog _ _ _ W) (fun W => LR w W gr gw nb ne y1 y2 q1 q2) (H6.out.fin) ?_
        intro W0 hL
        refine wp_region_noPanic ?_
        refine wp_region_held_drew (S := After W0) (by kernel_rfl) (After.drew (After.refl W0)) ?_
        intro hS0
        have L0 := hL.after hS0
        refine tk 0 112 (.pointer (some ⟨gr, 0, none⟩)) (fuel := 19) rfl (by kernel_rfl) (by kernel_rfl) (by kernel_rfl) (by kernel_rfl) noPanic_false (by kernel_rfl) (fun _ _ => by kernel_rfl) hS0 ?_
        refine tk 2 114 (.pointer (some ⟨gw, 0, none⟩)) (fuel := 18) rfl (by kernel_rfl) (by kernel_rfl) (by kernel_rfl) (by kernel_rfl) noPanic_false (by kernel_rfl) (fun _ _ => by kernel_rfl) hS0 ?_
        refine tk 3 115 (.slice y2 nb.length q2) (fuel := 17) rfl (by kernel_rfl) (by kernel_rfl) (by kernel_rfl) (by kernel_rfl) noPanic_false (by kernel_rfl) (fun W h => x_load23 (x := .tmp 114) (g := gw) (by kernel_rfl) (by kernel_rfl) ((hL.after h).row.cell rfl)) hS0 ?_
        refine tk 4 116 (.int .i64 (nb.length : Int)) (fuel := 16) rfl (by kernel_rfl) (by kernel_rfl) (by kernel_rfl) (by kernel_rfl) noPanic_false (by kernel_rfl) (fun _ _ => by kernel_rfl) hS0 ?_
        refine tkCall 1 113 33 #[(.pointer (some ⟨gr, 0, none⟩))] (fun v _ => v = .int .i64 (nb.length : Int)) (fuel := 15) rfl (by kernel_rfl) (by kernel_rfl) (by kernel_rfl) (fun _ => by kernel_rfl) hS0 ((rLeft_any gr nb ne y1 q1 _ L0.rd).mono (fun _ _ h => ⟨_, h.1, rfl, h.2 ▸ Below.refl _ _⟩)) ?_
        rintro _ z1 rfl z1s
        have L1 := L0.after z1s
        refine tk 5 117 (.bool false) (fuel := 14) rfl (by kernel_rfl) (by kernel_rfl) (by kernel_rfl) (by kernel_rfl) noPanic_false (by kernel_rfl) (fun _ _ => x_neqf (t := 3) (x := .tmp 113) (y := .tmp 116) (p := (nb.length : Int)) (by kernel_rfl) (by kernel_rfl) (by kernel_rfl)) (After.refl z1) ?_
        refine tk 6 118 (.bool false) (fuel := 13) rfl (by kernel_rfl) (by kernel_rfl) (by kernel_rfl) (by kernel_rfl) noPanic_false (by kernel_rfl) (fun _ _ => by kernel_rfl) (After.refl z1) ?_
        refine tk 7 119 (.pointer (some ⟨gr, 0, none⟩)) (fuel := 12) rfl (by kernel_rfl) (by kernel_rfl) (by kernel_rfl) (by kernel_rfl) noPanic_false (by kernel_rfl) (fun _ _ => by kernel_rfl) (After.refl z1) ?_
        refine tk 9 121 (.pointer (some ⟨gw, 1, none⟩)) (fuel := 11) rfl (by kernel_rfl) (by kernel_rfl) (by kernel_rfl) (by kernel_rfl) noPanic_false (by kernel_rfl) (fun _ _ => by kernel_rfl) (After.refl z1) ?_
        refine tk 10 122 (.int .i64 (ne : Int)) (fuel := 10) rfl (by kernel_rfl) (by kernel_rfl) (by kernel_rfl) (by kernel_rfl) noPanic_false (by kernel_rfl) (fun W h => x_load3 (x := .tmp 121) (g := gw) (j := 1) (by kernel_rfl) (by kernel_rfl) ((L1.after h).row.cell rfl)) (After.refl z1) ?_
        refine tkCall 8 120 34 #[(.pointer (some ⟨gr, 0, none⟩))] (fun v _ => v = .int .i64 (ne : Int)) (fuel := 9) rfl (by kernel_rfl) (by kernel_rfl) (by kernel_rfl) (fun _ => by kernel_rfl) (After.refl z1) ((rErr_any gr nb ne y1 q1 _ L1.rd).mono (fun _ _ h => ⟨_, h.1, rfl, h.2 ▸ Below.refl _ _⟩)) ?_
        rintro _ z2 rfl z2s
        have L2 := L1.after z2s
        refine tk 11 123 (.bool false) (fuel := 8) rfl (by kernel_rfl) (by kernel_rfl) (by kernel_rfl) (by kernel_rfl) noPanic_false (by kernel_rfl) (fun _ _ => x_neqf (t := 3) (x := .tmp 120) (y := .tmp 122) (p := (ne : Int)) (by kernel_rfl) (by kernel_rfl) (by kernel_rfl)) (After.refl z2) ?_
        refine tk 12 124 (.bool false) (fuel := 7) rfl (by kernel_rfl) (by kernel_rfl) (by kernel_rfl) (by kernel_rfl) noPanic_false (by kernel_rfl) (fun _ _ => by kernel_rfl) (After.refl z2) ?_
        refine tk 13 125 (.bool false) (fuel := 6) rfl (by kernel_rfl) (by kernel_rfl) (by kernel_rfl) (by kernel_rfl) noPanic_false (by kernel_rfl) (fun _ _ => by kernel_rfl) (After.refl z2) ?_
        refine tk 14 126 (.pointer (some ⟨gr, 0, none⟩)) (fuel := 5) rfl (by kernel_rfl) (by kernel_rfl) (by kernel_rfl) (by kernel_rfl) noPanic_false (by kernel_rfl) (fun _ _ => by kernel_rfl) (After.refl z2) ?_
        refine tk 16 128 (.agg #[.slice y2 nb.length q2, .int .i64 (ne : Int)]) (fuel := 4) rfl (by kernel_rfl) (by kernel_rfl) (by kernel_rfl) (by kernel_rfl) noPanic_false (by kernel_rfl) (fun W h => x_load48 (x := .tmp 6) (g := gw) (by kernel_rfl) (by kernel_rfl) (L2.after h).row) (After.refl z2) ?_
        refine tkCall 15 127 35 #[(.pointer (some ⟨gr, 0, none⟩))] (fun v _ => v = .int .i64 (sdE nb ne : Int)) (fuel := 3) rfl (by kernel_rfl) (by kernel_rfl) (by kernel_rfl) (fun _ => by kernel_rfl) (After.refl z2) ((rDone_any gr nb ne y1 q1 _ L2.rd).mono (fun _ _ h => ⟨_, h.1, rfl, h.2 ▸ Below.refl _ _⟩)) ?_
        rintro _ z3 rfl z3s
        have L3 := L2.after z3s
        refine tkCall 17 129 36 #[.agg #[.slice y2 nb.length q2, .int .i64 (ne : Int)]] (fun v _ => v = .int .i64 (sdE nb ne : Int)) (fuel := 2) rfl (by kernel_rfl) (by kernel_rfl) (by kernel_rfl) (fun _ => by kernel_rfl) (After.refl z3) ((rrDone_any y2 nb q2 ne _).mono (fun _ _ h => ⟨_, h.1, rfl, h.2⟩)) ?_
        rintro _ z4 rfl z4s
        have HL4 := show Hid _ from L3.after z4s
        refine tk 18 130 (.bool false) (fuel := 1) rfl (by kernel_rfl) (by kernel_rfl) (by kernel_rfl) (by kernel_rfl) noPanic_false (by kernel_rfl) (fun _ _ => x_neqf (t := 3) (x := .tmp 127) (y := .tmp 129) (p := (sdE nb ne : Int)) (by kernel_rfl) (by kernel_rfl) (by kernel_rfl)) (After.refl z4) ?_
        refine tk 19 131 (.bool false) (fuel := 0) rfl (by kernel_rfl) (by kernel_rfl) (by kernel_rfl) (by kernel_rfl) noPanic_false (by kernel_rfl) (fun _ _ => by kernel_rfl) (After.refl z4) ?_
        clear hL hS0 L0 L1 L2 L3 z1s z2s z3s z4s
        refine wpAnyH_done (by kernel_rfl) (NoPanic.normal ?_) _
        go_simp
        go_wp2
        go_roundw
        case rel => exact ⟨k + 1, nb, ne, y1, y2, q1, q2, HKL.out, by go_num, HNL.out, HL4.out⟩
        case measure => have hkl := HKL.out; simp [intOf]; omega
    · obtain rfl : k = l.length := by omega
      have H0 := show Hid _ from hrel
      clear hrel
      go_wp2
      have hL := H0.out
      refine wp_region_noPanic ?_
      refine wp_region_held_drew (S := After wr) (by kernel_rfl) (After.drew (After.refl wr)) ?_
      intro hS0
      have L0 := hL.after hS0
      refine tk 0 132 (.pointer (some ⟨gr, 0, none⟩)) (fuel := 8) rfl (by kernel_rfl) (by kernel_rfl) (by kernel_rfl) (by kernel_rfl) noPanic_false (by kernel_rfl) (fun _ _ => by kernel_rfl) hS0 ?_
      refine tk 2 134 (.agg #[(.slice x2 cur.length p2), (.int .i64 (e : Int))]) (fuel := 7) rfl (by kernel_rfl) (by kernel_rfl) (by kernel_rfl) (by kernel_rfl) noPanic_false (by kernel_rfl) (fun W h => x_load48 (x := .tmp 6) (g := gw) (by kernel_rfl) (by kernel_rfl) (hL.after h).row) hS0 ?_
      refine tkCall 1 133 35 #[(.pointer (some ⟨gr, 0, none⟩))] (fun v _ => v = .int .i64 (sdE cur e : Int)) (fuel := 6) rfl (by kernel_rfl) (by kernel_rfl) (by kernel_rfl) (fun _ => by kernel_rfl) hS0 ((rDone_any gr cur e x1 p1 _ L0.rd).mono (fun _ _ h => ⟨_, h.1, rfl, h.2 ▸ Below.refl _ _⟩)) ?_
      rintro _ z1 rfl z1s
      have L1 := L0.after z1s
      refine tkCall 3 135 36 #[(.agg #[(.slice x2 cur.length p2), (.int .i64 (e : Int))])] (fun v _ => v = .int .i64 (sdE cur e : Int)) (fuel := 5) rfl (by kernel_rfl) (by kernel_rfl) (by kernel_rfl) (fun _ => by kernel_rfl) (After.refl z1) ((rrDone_any x2 cur p2 e _).mono (fun _ _ h => ⟨_, h.1, rfl, h.2⟩)) ?_
      rintro _ z2 rfl z2s
      have L2 := L1.after z2s
      refine tk 4 136 (.bool true) (fuel := 4) rfl (by kernel_rfl) (by kernel_rfl) (by kernel_rfl) (by kernel_rfl) noPanic_false (by kernel_rfl) (fun _ _ => x_eqt (t := 3) (x := .tmp 133) (y := .tmp 135) (p := (sdE cur e : Int)) (by kernel_rfl) (by kernel_rfl) (by kernel_rfl)) (After.refl z2) ?_
      refine tk 5 137 (.bool true) (fuel := 3) rfl (by kernel_rfl) (by kernel_rfl) (by kernel_rfl) (by kernel_rfl) noPanic_false (by kernel_rfl) (fun _ _ => by kernel_rfl) (After.refl z2) ?_
      refine tkCall 6 138 17 #[] (fun v _ => v = .bool true) (fuel := 2) rfl (by kernel_rfl) (by kernel_rfl) (by kernel_rfl) (fun _ => by kernel_rfl) (After.refl z2) (awake_ex _) ?_
      rintro _ z3 rfl z3s
      have L3 := L2.after z3s
      refine tk 7 139 (.bool true) (fuel := 1) rfl (by kernel_rfl) (by kernel_rfl) (by kernel_rfl) (by kernel_rfl) noPanic_false (by kernel_rfl) (fun _ _ => by kernel_rfl) (After.refl z3) ?_
      refine tk 8 4 (.bool true) (fuel := 0) rfl (by kernel_rfl) (by kernel_rfl) (by kernel_rfl) (by kernel_rfl) noPanic_false (by kernel_rfl) (fun _ _ => by kernel_rfl) (After.refl z3) ?_
      refine wpAnyH_done (by kernel_rfl) (NoPanic.normal ?_) _
      go_simp
      go_wp2
      go_ret
      exact ⟨rfl, L3.aft⟩
end Go.Proofs.Ytfeepebiahekkaa
