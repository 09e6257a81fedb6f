/-
  THE WALK OF ref's READER: Hash.
-/
import Derived.Test.YtfeepebiahekkaaRefRd
namespace Go.Proofs.Ytfeepebiahekkaa
open Go.RowKit Leb
section
variable {ops : Array Oper} {Q : Exit → Act → World → Prop} {S : World → Prop} {fuel : Nat} {listed : Array Bool} {a : Act} {w : World} {oi : Oper}
/-- Number i, which alone may come up, stores a whole row. -/
theorem tkStore (i : Nat) (g : Nat) (ty : TypeId) (x y : Operand) (cells old : Array Value) (t : TypeId) (hi : ops[i]? = some oi) (hd : oi.dst = none) (ho : oi.op = .store ty x y) (hr : Region.ready .any ops listed = [i])
    (hw : Region.wanted oi (yielded ops a.tmps) = true) (hx : a.eval x = .pointer (some ⟨g, 0, none⟩)) (hy : a.eval y = .agg cells) (hg : w.heap[g]? = some (.cells old t (0, 0))) (hz : (Try.prog.info? ty).map (·.size) = some cells.size)
    (hold : old.size = cells.size) (h1 : cells.all (·.oneCell') = true) (hS : S (w.setRow g cells))
    (h : wpAnyH Try.prog .any ops Q S fuel (listed.setIfInBounds i true) (a.put none undef) (w.setRow g cells)) : wpAnyH Try.prog .any ops Q S (fuel + 1) listed a w :=
  wpAnyH_all hr (by simp) (fun j hj => by
    obtain rfl : j = i := by simpa using hj
    refine wpOp_step hi (fun K' hK => ?_)
    rw [if_pos hw]
    refine wp_store_row ty x y ho g cells hx hy t old hg hz hold h1 ?_
    rw [hd]
    exact hK _ _ ⟨hS, h⟩)
/-- Number i, which alone may come up, is a call, by its contract. -/
theorem tkCallS (i d : Nat) (f : FuncId) (args : Array Value) (R : Value → World → Prop) (hi : ops[i]? = some oi) (hd : oi.dst = some d) (hr : Region.ready .any ops listed = [i])
    (hw : Region.wanted oi (yielded ops a.tmps) = true) (hrun : ∀ w, (execOp a.eval oi).run Try.prog w = .ok (.enter f args) w)
    (hc : Calls Try.prog f args w fun e w' => ∃ v, e = .returned v ∧ R v w') (hS : ∀ v w', R v w' → S w')
    (h : ∀ v w', R v w' → wpAnyH Try.prog .any ops Q S fuel (listed.setIfInBounds i true) (a.put (some d) v) w') : wpAnyH Try.prog .any ops Q S (fuel + 1) listed a w :=
  wpAnyH_all hr (by simp) (fun j hj => by
    obtain rfl : j = i := by simpa using hj
    refine wpOp_step hi (fun K' hK => ?_)
    rw [if_pos hw]
    unfold Oper.wp
    rw [hrun, Oper.upon_enter]
    refine hc.mono (fun e w' ⟨v, he, hr⟩ => ?_)
    subst he
    rw [hd]
    exact hK _ _ ⟨hS v w' hr, h v w' hr⟩)
end
theorem x_load48 {o : Oper} {a : Act} {x : Operand} {g : Nat} {p q : Value} {w : World} (hop : o.op = .load 48 x) (hx : a.eval x = .pointer (some ⟨g, 0, none⟩)) (h : RowIs w g 48 [p, q]) : (execOp a.eval o).run Try.prog w = .ok (.value (.agg #[p, q])) w := by
  unfold execOp
  simp only [hop, hx, Instr.loadAt, Instr.sureAddr, Sem.run_bind, Sem.run_pure, Result.andThen_ok, run_loadVar_row (P := Try.prog) w g 48 48 #[p, q] (0, 0) _ h Try.underlying48 rfl size48]
theorem x_load61 {o : Oper} {a : Act} {x : Operand} {g : Nat} {l : List UInt8} {w : World} (hop : o.op = .load 61 x) (hx : a.eval x = .pointer (some ⟨g, 0, none⟩)) (hl : l.length = 32) (h : RowIs w g 61 (c8 l)) : (execOp a.eval o).run Try.prog w = .ok (.value (.agg (c8 l).toArray)) w := by
  unfold execOp
  simp only [hop, hx, Instr.loadAt, Instr.sureAddr, Sem.run_bind, Sem.run_pure, Result.andThen_ok, run_loadVar_row (P := Try.prog) w g 61 61 (c8 l).toArray (0, 0) _ h Try.underlying61 rfl (hsize hl)]
theorem results_rows {fn : Func} {p q : Tmp} (h : fn.results = #[.cell p 48, .cell q 61]) (tmps : Array Value) (w : World) (g g' : Nat) (a b : Value) (l : List UInt8) (hl : l.length = 32) (hp : tmps.getD p undef = .pointer (some ⟨g, 0, none⟩)) (hg : RowIs w g 48 [a, b])
    (hq : tmps.getD q undef = .pointer (some ⟨g', 0, none⟩)) (hg' : RowIs w g' 61 (c8 l)) :
    (results fn tmps).run Try.prog w = .ok (.tuple #[.agg #[a, b], .agg (c8 l).toArray]) w := by
  have hp' : tmps[p]?.getD undef = .pointer (some ⟨g, 0, none⟩) := by simpa using hp
  have hq' : tmps[q]?.getD undef = .pointer (some ⟨g', 0, none⟩) := by simpa using hq
  have hl1 := run_loadVar_row (P := Try.prog) w g 48 48 #[a, b] (0, 0) _ hg Try.underlying48 rfl size48
  have hl2 := run_loadVar_row (P := Try.prog) w g' 61 61 (c8 l).toArray (0, 0) _ hg' Try.underlying61 rfl (hsize hl)
  simp [results, h, hp', hq', asAddr, hl1, hl2]
/-- Behind the four variables of Hash. -/
structure H4 (w W : World) (s e : Value) (l : List UInt8) : Prop where
  aft : After w W
  r1 : RowIs W w.heap.size 48 [s, e]
  r2 : RowIs W (w.heap.size + 1) 48 [.slice none 0 0, .int .i64 0]
  r3 : RowIs W (w.heap.size + 2) 61 (c8 zeroHash)
  r4 : RowIs W (w.heap.size + 3) 61 (c8 l)
theorem H4.new (w : World) (s e : Value) : H4 w ((((w.alloc (.cells [s, e].toArray 48)).alloc (.cells #[.slice none 0 0, .int .i64 0] 48)).alloc Z61).alloc Z61) s e zeroHash := by
  have z1 : (w.alloc (.cells [s, e].toArray 48)).heap.size = w.heap.size + 1 := by simp
  have z2 : ((w.alloc (.cells [s, e].toArray 48)).alloc (.cells #[.slice none 0 0, .int .i64 0] 48)).heap.size = w.heap.size + 2 := by simp
  have z3 : (((w.alloc (.cells [s, e].toArray 48)).alloc (.cells #[.slice none 0 0, .int .i64 0] 48)).alloc Z61).heap.size = w.heap.size + 3 := by simp
  refine ⟨after_alloc (after_alloc (after_two w _ _) _) _, (((RowIs.new w 48 [s, e]).alloc _).alloc _).alloc _, ?_, ?_, ?_⟩
  · have := RowIs.new (w.alloc (.cells [s, e].toArray 48)) 48 [.slice none 0 0, .int .i64 0]
    rw [z1] at this
    exact (this.alloc _).alloc _
  · have := RowIs.new ((w.alloc (.cells [s, e].toArray 48)).alloc (.cells #[.slice none 0 0, .int .i64 0] 48)) 61 (c8 zeroHash)
    rw [z2] at this
    exact this.alloc _
  · have := RowIs.new (((w.alloc (.cells [s, e].toArray 48)).alloc (.cells #[.slice none 0 0, .int .i64 0] 48)).alloc Z61) 61 (c8 zeroHash)
    rw [z3] at this
    exact this
theorem H4.drew {w W : World} {s e : Value} {l : List UInt8} (h : H4 w W s e l) : H4 w W.drew s e l := ⟨h.aft.drew, h.r1, h.r2, h.r3, h.r4⟩
theorem H4.after {w W W' : World} {s e : Value} {l : List UInt8} (h : H4 w W s e l) (hA : After W W') : H4 w W' s e l :=
  ⟨h.aft.trans hA, h.r1.below hA h.r1.lt, h.r2.below hA h.r2.lt, h.r3.below hA h.r3.lt, h.r4.below hA h.r4.lt⟩
theorem x_load23 {o : Oper} {a : Act} {x : Operand} {g : Nat} {v : Value} {w : World} (hop : o.op = .load 23 x) (hx : a.eval x = .pointer (some ⟨g, 0, none⟩)) (h : w.cell? ⟨g, 0, none⟩ = some v) : (execOp a.eval o).run Try.prog w = .ok (.value v) w := by
  have hag : (isAgg 23).run Try.prog w = .ok false w := by
    unfold isAgg; rw [Sem.run_bind, run_underlying Try.underlying23 w]; rfl
  unfold execOp
  simp only [hop, hx, Instr.loadAt, Instr.sureAddr, Sem.run_bind, Sem.run_pure, Result.andThen_ok, loadVar, hag]
  simp [h, go_sem]
theorem x_slfrom {o : Oper} {a : Act} {x y : Operand} {u i v : Value} {w : World} (hop : o.op = .slice 23 x (some y) none none) (hx : a.eval x = u) (hy : a.eval y = i) (h : (Instr.sliceAt 23 u (some i) none none).run Try.prog w = .ok v w) : (execOp a.eval o).run Try.prog w = .ok (.value v) w := by
  unfold execOp
  simp only [hop, hx, hy, Option.map, Sem.run_bind, h, Result.andThen_ok]
  rfl
set_option maxRecDepth 100000 in
set_option maxHeartbeats 800000 in
theorem rrHash_f (bs : List UInt8) (ao : Option Addr) (cap e e' : Nat) (h0 : ¬ e = 0 ∨ bs.length < 32) (w : World) (hR : Rs w bs ao cap)
    (hc : ∀ W, Calls Try.prog 43 #[.agg #[.slice ao bs.length cap, .int .i64 (e : Int)], .int .i64 3] W fun x w' => x = .returned (.agg #[.slice ao bs.length cap, .int .i64 (e' : Int)]) ∧ After W w') :
    Calls Try.prog 32 #[.agg #[.slice ao bs.length cap, .int .i64 (e : Int)]] w fun x w' => ∃ y, x = .returned y ∧ Rx w w' ao bs e' (.agg (c8 zeroHash).toArray) y := by
  have HR : Hid (Rs w bs ao cap) := hR
  have HC := show Hid _ from hc
  clear hc hR
  have H := H4.new w (.slice ao bs.length cap) (.int .i64 (e : Int))
  have HH := show Hid _ from H
  clear H
  by_cases he : e = 0
  · subst he
    have hl : bs.length < 32 := by omega
    clear h0
    go_enter Try.func32, Try.ntmps32
    go_wp2
    refine with_world (p := fun W => Code.wp Try.prog _ _ _ W) (fun W => H4 w W (.slice ao bs.length cap) (.int .i64 (0 : Int)) zeroHash) HH.out ?_
    intro W0 hW
    refine wp_region_noPanic ?_
    refine wp_region_held_drew (S := fun W => RowIs W w.heap.size 48 [(.slice ao bs.length cap), .int .i64 (0 : Int)] ∧ RowIs W (w.heap.size + 3) 61 (c8 zeroHash)) (by kernel_rfl) ⟨hW.r1, hW.r4⟩ ?_
    intro hS0
    refine tk 2 17 (.agg (c8 zeroHash).toArray) (fuel := 4) rfl (by kernel_rfl) (by kernel_rfl) (by kernel_rfl) (by kernel_rfl) noPanic_false (by kernel_rfl) (fun W h => x_load61 (x := .tmp 4) (g := w.heap.size + 3) (by kernel_rfl) (by kernel_rfl) rfl h.2) hS0 ?_
    refine tk 0 15 (.agg #[(.slice ao bs.length cap), .int .i64 (0 : Int)]) (fuel := 3) rfl (by kernel_rfl) (by kernel_rfl) (by kernel_rfl) (by kernel_rfl) noPanic_false (by kernel_rfl) (fun W h => x_load48 (x := .tmp 1) (g := w.heap.size) (by kernel_rfl) (by kernel_rfl) h.1) hS0 ?_
    refine tkCallS 1 16 43 #[.agg #[(.slice ao bs.length cap), .int .i64 (0 : Int)], .int .i64 3] (fun v w' => v = .agg #[(.slice ao bs.length cap), .int .i64 (e' : Int)] ∧ After W0.drew w') (fuel := 2) rfl (by kernel_rfl) (by kernel_rfl) (by kernel_rfl) (fun _ => by kernel_rfl) ((HC.out _).mono (fun _ _ h => ⟨_, h.1, rfl, h.2⟩)) (fun v w' h => ⟨(hW.drew.after h.2).r1, (hW.drew.after h.2).r4⟩) ?_
    rintro v w1 ⟨rfl, hb⟩
    have h1 := hW.drew.after hb
    clear hb
    refine tkStore 3 (w.heap.size + 1) 48 (.tmp 2) (.tmp 16) #[(.slice ao bs.length cap), .int .i64 (e' : Int)] #[.slice none 0 0, .int .i64 0] 48 (fuel := 1) rfl (by kernel_rfl) (by kernel_rfl) (by kernel_rfl) (by kernel_rfl) (by kernel_rfl) (by kernel_rfl) h1.r2 size48 rfl (by simp [Value.oneCell']) ⟨h1.r1.setRow_other _ (by omega), h1.r4.setRow_other _ (by omega)⟩ ?_
    refine tkStore 4 (w.heap.size + 2) 61 (.tmp 3) (.tmp 17) (c8 zeroHash).toArray (c8 zeroHash).toArray 61 (fuel := 0) rfl (by kernel_rfl) (by kernel_rfl) (by kernel_rfl) (by kernel_rfl) (by kernel_rfl) (by kernel_rfl) (h1.r3.setRow_other _ (by omega)) zsize rfl (all_oneCell_toArray (c8_one _)) ⟨(h1.r1.setRow_other _ (by omega)).setRow_other _ (by omega), (h1.r4.setRow_other _ (by omega)).setRow_other _ (by omega)⟩ ?_
    refine wpAnyH_done (by kernel_rfl) (NoPanic.normal ?_) _
    go_simp
    go_wp2
    have hA : After w ((w1.setRow (w.heap.size + 1) #[(.slice ao bs.length cap), .int .i64 (e' : Int)]).setRow (w.heap.size + 2) (c8 zeroHash).toArray) := Below.row (Below.row h1.aft (by omega) _) (by omega) _
    exact bodyPost_ret (results_rows Try.results32 _ _ (w.heap.size + 1) (w.heap.size + 2) (.slice ao bs.length cap) (.int .i64 (e' : Int)) zeroHash rfl rfl (RowIs.setRow_other (RowIs.setRow h1.r2 _) _ (by omega)) rfl (RowIs.setRow (h1.r3.setRow_other _ (by omega)) _)) rfl ⟨_, rfl, ao, cap, rfl, HR.out.after hA, hA, fun a ha => ⟨a, ha, rfl⟩⟩
  · go_enter Try.func32, Try.ntmps32
    go_wp2
    refine with_world (p := fun W => Code.wp Try.prog _ _ _ W) (fun W => H4 w W (.slice ao bs.length cap) (.int .i64 (e : Int)) zeroHash) HH.out ?_
    intro W0 hW
    refine wp_region_noPanic ?_
    refine wp_region_held_drew (S := fun W => RowIs W w.heap.size 48 [(.slice ao bs.length cap), .int .i64 (e : Int)] ∧ RowIs W (w.heap.size + 3) 61 (c8 zeroHash)) (by kernel_rfl) ⟨hW.r1, hW.r4⟩ ?_
    intro hS0
    refine tk 2 17 (.agg (c8 zeroHash).toArray) (fuel := 4) rfl (by kernel_rfl) (by kernel_rfl) (by kernel_rfl) (by kernel_rfl) noPanic_false (by kernel_rfl) (fun W h => x_load61 (x := .tmp 4) (g := w.heap.size + 3) (by kernel_rfl) (by kernel_rfl) rfl h.2) hS0 ?_
    refine tk 0 15 (.agg #[(.slice ao bs.length cap), .int .i64 (e : Int)]) (fuel := 3) rfl (by kernel_rfl) (by kernel_rfl) (by kernel_rfl) (by kernel_rfl) noPanic_false (by kernel_rfl) (fun W h => x_load48 (x := .tmp 1) (g := w.heap.size) (by kernel_rfl) (by kernel_rfl) h.1) hS0 ?_
    refine tkCallS 1 16 43 #[.agg #[(.slice ao bs.length cap), .int .i64 (e : Int)], .int .i64 3] (fun v w' => v = .agg #[(.slice ao bs.length cap), .int .i64 (e' : Int)] ∧ After W0.drew w') (fuel := 2) rfl (by kernel_rfl) (by kernel_rfl) (by kernel_rfl) (fun _ => by kernel_rfl) ((HC.out _).mono (fun _ _ h => ⟨_, h.1, rfl, h.2⟩)) (fun v w' h => ⟨(hW.drew.after h.2).r1, (hW.drew.after h.2).r4⟩) ?_
    rintro v w1 ⟨rfl, hb⟩
    have h1 := hW.drew.after hb
    clear hb
    refine tkStore 3 (w.heap.size + 1) 48 (.tmp 2) (.tmp 16) #[(.slice ao bs.length cap), .int .i64 (e' : Int)] #[.slice none 0 0, .int .i64 0] 48 (fuel := 1) rfl (by kernel_rfl) (by kernel_rfl) (by kernel_rfl) (by kernel_rfl) (by kernel_rfl) (by kernel_rfl) h1.r2 size48 rfl (by simp [Value.oneCell']) ⟨h1.r1.setRow_other _ (by omega), h1.r4.setRow_other _ (by omega)⟩ ?_
    refine tkStore 4 (w.heap.size + 2) 61 (.tmp 3) (.tmp 17) (c8 zeroHash).toArray (c8 zeroHash).toArray 61 (fuel := 0) rfl (by kernel_rfl) (by kernel_rfl) (by kernel_rfl) (by kernel_rfl) (by kernel_rfl) (by kernel_rfl) (h1.r3.setRow_other _ (by omega)) zsize rfl (all_oneCell_toArray (c8_one _)) ⟨(h1.r1.setRow_other _ (by omega)).setRow_other _ (by omega), (h1.r4.setRow_other _ (by omega)).setRow_other _ (by omega)⟩ ?_
    refine wpAnyH_done (by kernel_rfl) (NoPanic.normal ?_) _
    go_simp
    go_wp2
    have hA : After w ((w1.setRow (w.heap.size + 1) #[(.slice ao bs.length cap), .int .i64 (e' : Int)]).setRow (w.heap.size + 2) (c8 zeroHash).toArray) := Below.row (Below.row h1.aft (by omega) _) (by omega) _
    exact bodyPost_ret (results_rows Try.results32 _ _ (w.heap.size + 1) (w.heap.size + 2) (.slice ao bs.length cap) (.int .i64 (e' : Int)) zeroHash rfl rfl (RowIs.setRow_other (RowIs.setRow h1.r2 _) _ (by omega)) rfl (RowIs.setRow (h1.r3.setRow_other _ (by omega)) _)) rfl ⟨_, rfl, ao, cap, rfl, HR.out.after hA, hA, fun a ha => ⟨a, ha, rfl⟩⟩
/-- A hash that is half filled. -/
def hk (bs : List UInt8) (i : Nat) : List UInt8 := bs.take i ++ List.replicate (32 - i) 0
theorem hk_len (bs : List UInt8) (i : Nat) (hb : 32 ≤ bs.length) (hi : i ≤ 32) : (hk bs i).length = 32 := by simp [hk]; omega
theorem hk_set (bs : List UInt8) (i : Nat) (hb : 32 ≤ bs.length) (hi : i < 32) : (c8 (hk bs i)).set i (.int .u8 ((bs.getD i 0).toNat : Int)) = c8 (hk bs (i + 1)) := by
  have h1 : (hk bs i).set i (bs.getD i 0) = hk bs (i + 1) := by
    have hr : List.replicate (32 - i) (0 : UInt8) = 0 :: List.replicate (32 - (i + 1)) 0 := by rw [show 32 - i = (32 - (i + 1)) + 1 by omega, List.replicate_succ]
    have ht : bs.take (i + 1) = bs.take i ++ [bs.getD i 0] := by
      rw [List.take_add_one]
      simp [List.getElem?_eq_getElem (show i < bs.length by omega), List.getD_eq_getElem?_getD]
    unfold hk
    rw [hr, ht, List.set_append_right _ _ (by simp; omega)]
    simp [Nat.min_eq_left (show i ≤ bs.length by omega)]
  rw [← h1]
  simp [c8, List.map_set]
theorem hk_0 (bs : List UInt8) : hk bs 0 = zeroHash := by simp [hk, zeroHash]
theorem hk_32 (bs : List UInt8) : hk bs 32 = bs.take 32 := by simp [hk]
set_option maxRecDepth 100000 in
set_option maxHeartbeats 800000 in
theorem rrHash_k (bs : List UInt8) (ao : Option Addr) (cap : Nat) (hl : 32 ≤ bs.length) (w : World) (hR : Rs w bs ao cap) :
    Calls Try.prog 32 #[.agg #[.slice ao bs.length cap, .int .i64 0]] w fun x w' => ∃ y, x = .returned y ∧ Rx w w' ao (bs.drop 32) 0 (.agg (c8 (bs.take 32)).toArray) y := by
  have HR : Hid (Rs w bs ao cap) := hR
  obtain ⟨b, o, rfl, hat⟩ := hR.at' (by intro h; simp [h] at hl)
  have HAT := show Hid _ from hat
  have HH : Hid (H4 w _ (.slice (some ⟨b, o, none⟩) bs.length cap) (.int .i64 0) zeroHash) := H4.new w (.slice (some ⟨b, o, none⟩) bs.length cap) (.int .i64 0)
  have hsl := fun W => slice_from (some ⟨b, o, none⟩) bs.length cap 32 (fun h => by cases h) hR.cap hl W
  have HSL := show Hid _ from hsl
  clear hR hat hsl
  go_enter Try.func32, Try.ntmps32
  go_wp2
  go_loopw [5] (fun i wr => ∃ k : Nat, k ≤ 32 ∧ i = .int .i64 k ∧ H4 w wr (.slice (some ⟨b, o, none⟩) bs.length cap) (.int .i64 0) (hk bs k)) (fun i _ => 32 - (intOf i).toNat)
  case atStart => exact ⟨0, by omega, rfl, by rw [hk_0]; exact HH.out⟩
  case round =>
    obtain ⟨k, hk', rfl, hrel⟩ := hrel
    have HREL := show Hid _ from hrel
    have c0 : wr.cell? ⟨w.heap.size, 0, none⟩ = some (.slice (some ⟨b, o, none⟩) bs.length cap) := hrel.r1.cell rfl
    by_cases hk32 : k < 32
    · have hkl : k < bs.length := by omega
      have hck : wr.cell? ⟨b, o + k, none⟩ = some (.int .u8 ((bs.getD k 0).toNat : Int)) := by
        have := (HR.out.at'.after hrel.aft) (by intro h; simp [h] at hl)
        obtain ⟨b', o', he, hc⟩ := this
        cases he
        exact hc k hkl
      obtain ⟨x, HX, hx⟩ : ∃ x : UInt8, Hid (x = bs.getD k 0) ∧ wr.cell? ⟨b, o + k, none⟩ = some (.int .u8 (x.toNat : Int)) := ⟨_, rfl, hck⟩
      have f4 := hrel.r4.frozen k
      obtain ⟨y, c4⟩ : ∃ y : UInt8, wr.cell? ⟨w.heap.size + 3, k, none⟩ = some (.int .u8 (y.toNat : Int)) := ⟨_, hrel.r4.cell (c8_get _ k (by rw [hk_len bs k hl hk']; exact hk32))⟩
      clear hck hrel
      go_wp2
      go_roundw
      case rel =>
        refine ⟨k + 1, by omega, by go_num, ?_⟩
        have R := HREL.out
        refine ⟨R.aft.cell (by omega) _ _, R.r1.other _ _ (by show w.heap.size ≠ w.heap.size + 3; omega), R.r2.other _ _ (by show w.heap.size + 1 ≠ w.heap.size + 3; omega), R.r3.other _ _ (by show w.heap.size + 2 ≠ w.heap.size + 3; omega), ?_⟩
        have := R.r4.set k (.int .u8 (x.toNat : Int))
        rw [HX.out, hk_set bs k hl hk32, ← HX.out] at this
        exact this
      case measure => simp [intOf]; omega
    · obtain rfl : k = 32 := by omega
      have R : H4 w wr (.slice (some ⟨b, o, none⟩) bs.length cap) (.int .i64 0) (bs.take 32) := by rw [← hk_32]; exact hrel
      have HRR := show Hid _ from R
      have hl32 : Hid ((bs.take 32).length = 32) := by unfold Hid; simp; omega
      clear R hrel HREL
      go_wp2
      have hW := HRR.out
      refine wp_region_noPanic ?_
      refine wp_region_held_drew (S := fun W => RowIs W w.heap.size 48 [(.slice (some ⟨b, o, none⟩) bs.length cap), .int .i64 0] ∧ RowIs W (w.heap.size + 3) 61 (c8 (bs.take 32))) (by kernel_rfl) ⟨hW.r1, hW.r4⟩ ?_
      intro hS0
      refine tk 4 33 (.agg (c8 (bs.take 32)).toArray) (fuel := 6) rfl (by kernel_rfl) (by kernel_rfl) (by kernel_rfl) (by kernel_rfl) noPanic_false (by kernel_rfl) (fun W h => x_load61 (x := .tmp 4) (g := w.heap.size + 3) (by kernel_rfl) (by kernel_rfl) hl32.out h.2) hS0 ?_
      refine tk 0 29 (.pointer (some ⟨w.heap.size, 0, none⟩)) (fuel := 5) rfl (by kernel_rfl) (by kernel_rfl) (by kernel_rfl) (by kernel_rfl) noPanic_false (by kernel_rfl) (fun _ _ => by kernel_rfl) hS0 ?_
      refine tk 1 30 (.slice (some ⟨b, o, none⟩) bs.length cap) (fuel := 4) rfl (by kernel_rfl) (by kernel_rfl) (by kernel_rfl) (by kernel_rfl) noPanic_false (by kernel_rfl) (fun W h => x_load23 (x := .tmp 29) (g := w.heap.size) (by kernel_rfl) (by kernel_rfl) (h.1.cell rfl)) hS0 ?_
      refine tk 2 31 (.slice (cutAt (some ⟨b, o, none⟩) 32 cap) (bs.length - 32) (cap - 32)) (fuel := 3) rfl (by kernel_rfl) (by kernel_rfl) (by kernel_rfl) (by kernel_rfl) noPanic_false (by kernel_rfl) (fun W h => x_slfrom (x := .tmp 30) (y := .const (.int .i64 32)) (by kernel_rfl) (by kernel_rfl) (by kernel_rfl) (HSL.out W)) hS0 ?_
      refine tk 3 32 (.agg #[.slice (cutAt (some ⟨b, o, none⟩) 32 cap) (bs.length - 32) (cap - 32), .int .i64 0]) (fuel := 2) rfl (by kernel_rfl) (by kernel_rfl) (by kernel_rfl) (by kernel_rfl) noPanic_false (by kernel_rfl) (fun _ _ => by kernel_rfl) hS0 ?_
      have h1 := hW.drew
      refine tkStore 5 (w.heap.size + 1) 48 (.tmp 2) (.tmp 32) #[.slice (cutAt (some ⟨b, o, none⟩) 32 cap) (bs.length - 32) (cap - 32), .int .i64 0] #[.slice none 0 0, .int .i64 0] 48 (fuel := 1) rfl (by kernel_rfl) (by kernel_rfl) (by kernel_rfl) (by kernel_rfl) (by kernel_rfl) (by kernel_rfl) h1.r2 size48 rfl (by simp [Value.oneCell']) ⟨h1.r1.setRow_other _ (by omega), h1.r4.setRow_other _ (by omega)⟩ ?_
      refine tkStore 6 (w.heap.size + 2) 61 (.tmp 3) (.tmp 33) (c8 (bs.take 32)).toArray (c8 zeroHash).toArray 61 (fuel := 0) rfl (by kernel_rfl) (by kernel_rfl) (by kernel_rfl) (by kernel_rfl) (by kernel_rfl) (by kernel_rfl) (h1.r3.setRow_other _ (by omega)) (hsize hl32.out) (by simp only [List.size_toArray, c8_len, hl32.out]; rfl) (all_oneCell_toArray (c8_one _)) ⟨(h1.r1.setRow_other _ (by omega)).setRow_other _ (by omega), (h1.r4.setRow_other _ (by omega)).setRow_other _ (by omega)⟩ ?_
      refine wpAnyH_done (by kernel_rfl) (NoPanic.normal ?_) _
      go_simp
      go_wp2
      have hA : After w ((wr.drew.setRow (w.heap.size + 1) #[.slice (cutAt (some ⟨b, o, none⟩) 32 cap) (bs.length - 32) (cap - 32), .int .i64 0]).setRow (w.heap.size + 2) (c8 (bs.take 32)).toArray) := Below.row (Below.row h1.aft (by omega) _) (by omega) _
      exact bodyPost_ret (results_rows Try.results32 _ _ (w.heap.size + 1) (w.heap.size + 2) (.slice (cutAt (some ⟨b, o, none⟩) 32 cap) (bs.length - 32) (cap - 32)) (.int .i64 0) (bs.take 32) hl32.out rfl (RowIs.setRow_other (RowIs.setRow h1.r2 [.slice (cutAt (some ⟨b, o, none⟩) 32 cap) (bs.length - 32) (cap - 32), .int .i64 0]) _ (by omega)) rfl (RowIs.setRow (h1.r3.setRow_other _ (by omega)) _)) rfl ⟨_, rfl, cutAt (some ⟨b, o, none⟩) 32 cap, cap - 32, by rw [List.length_drop]; rfl, (HR.out.cut 32).after hA, hA, fun a ha => cutAt_block ha⟩
theorem rrHash_any (bs : List UInt8) (e : Nat) (ao : Option Addr) (cap : Nat) (w : World) (hR : Rs w bs ao cap) :
    Calls Try.prog 32 #[.agg #[.slice ao bs.length cap, .int .i64 (e : Int)]] w fun x w' => ∃ y, x = .returned y ∧ Rx w w' ao (shB bs e) (shE bs e) (.agg (c8 (shH bs e)).toArray) y := by
  by_cases he : e = 0
  · subst he
    show Calls _ _ _ _ fun x w' => ∃ y, x = .returned y ∧ Rx w w' ao (bs.drop (ghK bs)) (ghE bs) (.agg (c8 (ghH bs)).toArray) y
    by_cases hl : bs.length < 32
    · have e1 : ghH bs = zeroHash := if_pos hl
      have e2 : ghK bs = 0 := if_pos hl
      have e3 : ghE bs = 3 := if_pos hl
      rw [e1, e2, e3]
      exact rrHash_f bs ao cap 0 3 (.inr hl) w hR (fun W => failed_0 ao bs.length cap 3 W)
    · have e1 : ghH bs = bs.take 32 := if_neg hl
      have e2 : ghK bs = 32 := if_neg hl
      have e3 : ghE bs = 0 := if_neg hl
      rw [e1, e2, e3]
      exact rrHash_k bs ao cap (by omega) w hR
  · have e1 : shH bs e = zeroHash := if_neg he
    have e2 : shB bs e = bs := if_neg he
    have e3 : shE bs e = e := if_neg he
    rw [e1, e2, e3]
    exact rrHash_f bs ao cap e e (.inl he) w hR (fun W => failed_e ao bs.length cap 3 e he W)
end Go.Proofs.Ytfeepebiahekkaa
