/-
  THE WALK OF slices.Repeat (of one truth).
-/
import Derived.Test.YtjmflggnnchojaaRefDeltas
namespace Go.Proofs.Ytjmflggnnchojaa
open Go.RowKit Leb
def cb (l : List Bool) : List Value := l.map Value.bool
theorem cb_len (l : List Bool) : (cb l).length = l.length := by simp [cb]
theorem cb_one (l : List Bool) : ∀ v ∈ cb l, v.oneCell' = true := by intro v hv; obtain ⟨b, _, rfl⟩ := List.mem_map.1 hv; rfl
theorem cb_get (l : List Bool) (j : Nat) (h : j < l.length) : (cb l)[j]? = some (.bool (l[j]?.getD false)) := by simp [cb, h]
theorem info4 : (Try.prog.info? 4).map (fun i => (i.zero, i.size, i.bytes)) = some (some (.bool false), 1, 1) := by kernel_rfl
theorem info4s : (Try.prog.info? 4).map (·.size) = some 1 := by kernel_rfl
theorem made_zeroB (c : Nat) : madeCells (Value.cells (.bool false)) c = (cb (List.replicate c false)).toArray := by
  apply Array.ext_getElem?
  intro i
  simp only [madeCells, cb, List.map_replicate]
  by_cases h : i < c
  · simp [h, Value.cells, Nat.mod_one]
  · simp [h]
theorem make_bools (W : World) (l c : Nat) (hlc : l ≤ c) (hc : c ≤ 1048576) :
    (Instr.makeSlice 28 (.int .i64 (l : Int)) (.int .i64 (c : Int))).run Try.prog W = .ok (.slice (some ⟨W.heap.size, 0, none⟩) l c) (W.alloc (.cells (cb (List.replicate c false)).toArray 4)) := by
  obtain ⟨i, hi, hz⟩ := Option.map_eq_some_iff.1 info4
  simp only [Prod.mk.injEq] at hz
  obtain ⟨hz, hs, hb⟩ := hz
  have := run_make (P := Try.prog) W 28 4 i (.bool false) Try.underlying28 hi hz .i64 .i64 l c (by omega) (by omega) (by rw [hb]; omega) (by omega)
  rw [this, hs, Nat.mul_one, Int.toNat_natCast, Int.toNat_natCast, made_zeroB]
theorem sliceB_from (b o n c lo : Nat) (h : lo < n) (h2 : n ≤ c) (W : World) : (Instr.sliceAt 28 (.slice (some ⟨b, o, none⟩) n c) (some (.int .i64 (lo : Int))) none none).run Try.prog W = .ok (.slice (some ⟨b, o + lo, none⟩) (n - lo) (c - lo)) W := by
  obtain ⟨i, hi', hz⟩ := Option.map_eq_some_iff.1 info4s
  simp [Instr.sliceAt, Instr.slice, run_underlying Try.underlying28, Instr.sliceBounds, Instr.sliceBound, asIntOf, sizeOf, typeInfo, hi', hz, show lo ≤ n by omega, show ¬ c = lo by omega, Addr.add_mid]
theorem sliceB_to (b o n c hi : Nat) (h : hi ≤ c) (_h0 : 0 < c) (W : World) : (Instr.sliceAt 28 (.slice (some ⟨b, o, none⟩) n c) none (some (.int .i64 (hi : Int))) none).run Try.prog W = .ok (.slice (some ⟨b, o, none⟩) hi c) W := by
  obtain ⟨i, hi', hz⟩ := Option.map_eq_some_iff.1 info4s
  simp [Instr.sliceAt, Instr.slice, run_underlying Try.underlying28, Instr.sliceBounds, Instr.sliceBound, asIntOf, sizeOf, typeInfo, hi', h, Addr.add]
theorem x_slB {o : Oper} {a : Act} {x : Operand} {lo hi : Option Operand} {u v : Value} {w : World} (hop : o.op = .slice 28 x lo hi none) (hx : a.eval x = u) (h : (Instr.sliceAt 28 u (lo.map a.eval) (hi.map a.eval) none).run Try.prog w = .ok v w) : (execOp a.eval o).run Try.prog w = .ok (.value v) w := by
  unfold execOp
  simp only [hop, hx, Option.map_none, Sem.run_bind, h, Result.andThen_ok]
  rfl
/-- c numbers, the first m of which are laid. -/
def repToB (n : Bool) (c m : Nat) : List Bool := List.replicate m n ++ List.replicate (c - m) false
theorem repToB_len (n : Bool) (c m : Nat) (h : m ≤ c) : (repToB n c m).length = c := by simp [repToB]; omega
theorem repToB_more (n : Bool) (c m k : Nat) (_h : m + k ≤ c) : (cb (repToB n c m)).take m ++ cb (List.replicate k n) ++ (cb (repToB n c m)).drop (m + k) = cb (repToB n c (m + k)) := by
  have h1 : (repToB n c m).take m = List.replicate m n := by simp [repToB]
  have h2 : (repToB n c m).drop (m + k) = List.replicate (c - (m + k)) false := by
    unfold repToB
    rw [List.drop_append]
    simp
    omega
  unfold cb
  rw [← List.map_take, ← List.map_drop, h1, h2, ← List.map_append, ← List.map_append]
  congr 1
  unfold repToB
  rw [List.replicate_append_replicate]
theorem x_copyB {o : Oper} {a : Act} {d s : Operand} {u v r : Value} {w w' : World} (hop : o.op = .call { callee := .builtin .copy, args := #[d, s], argTypes := #[28, 28] }) (hd : a.eval d = u) (hs : a.eval s = v) (h : ∀ ty, (Builtin.copy_ #[28, 28] ty #[u, v]).run Try.prog w = .ok r w') : (execOp a.eval o).run Try.prog w = .ok (.value r) w' := by
  simp [execOp, hop, resolve, invoke, builtin, hd, hs, h, Result.andThen]
def RepRelB (n : Bool) (c : Nat) (w : World) (m : Nat) (wr : World) : Prop := After w wr ∧ RowIs wr w.heap.size 4 (cb (repToB n c m))
theorem RepRelB.more {n : Bool} {c : Nat} {w wr : World} {m : Nat} (h : RepRelB n c w m wr) (m' : Nat) : RepRelB n c w m' (wr.setRow w.heap.size (cb (repToB n c m')).toArray) := ⟨Below.row h.1 (Nat.le_refl _) _, h.2.setRow _⟩
theorem copy_repB {n : Bool} {c : Nat} {w : World} {g m k : Nat} (hr : RowIs w g 4 (cb (repToB n c m))) (hk : k = Nat.min m (c - m)) (hm : m ≤ c) (ty : TypeId) :
    (Builtin.copy_ #[28, 28] ty #[.slice (some ⟨g, 0 + m, none⟩) (c - m) (c - m), .slice (some ⟨g, 0, none⟩) m c]).run Try.prog w = .ok (.int .i64 (k : Int)) (w.setRow g (cb (repToB n c (m + k))).toArray) := by
  have hkm : k ≤ m := by rw [hk]; exact Nat.min_le_left _ _
  have hkc : k ≤ c - m := by rw [hk]; exact Nat.min_le_right _ _
  have h := run_copy_row (P := Try.prog) w 28 28 ty 4 g (0 + m) (c - m) (c - m) ⟨g, 0, none⟩ m c (cb (repToB n c m)).toArray 4 (cb (List.replicate k n)) Try.underlying28 info4s hr (by rw [cb_len, List.length_replicate, hk]) (fun j v hv => by
    have hj := (List.getElem?_eq_some_iff.1 hv).1
    rw [cb_len, List.length_replicate] at hj
    rw [cb_get _ j (by simpa using hj)] at hv
    rw [Addr.add_mid]
    have := hr.cell (j := 0 + j) (by rw [Nat.zero_add]; exact cb_get (repToB n c m) j (by rw [repToB_len n c m hm]; omega))
    rw [this, ← hv]
    congr 3
    simp [repToB, List.getElem?_append, show j < m by omega, hj]) (by simp [cb_len, repToB_len n c m hm]; omega) (cb_one _)
  rw [h]
  have e : (cb (repToB n c m)).take (0 + m) ++ cb (List.replicate k n) ++ (cb (repToB n c m)).drop (0 + m + k) = cb (repToB n c (m + k)) := by
    rw [Nat.zero_add]; exact repToB_more n c m k (by omega)
  rw [show (cb (List.replicate k n)).length = k by simp [cb_len]]
  exact congrArg (fun r : List Value => Result.ok (Value.int .i64 (k : Int)) (w.setRow g r.toArray)) e
theorem copy_firstB {n : Bool} {c : Nat} {w : World} {g g0 : Nat} (hr : RowIs w g 4 (cb (repToB n c 0))) (h1 : 1 ≤ c) (hc : w.cell? ⟨g0, 0, none⟩ = some (.bool n)) (ty : TypeId) :
    (Builtin.copy_ #[28, 28] ty #[.slice (some ⟨g, 0, none⟩) c c, .slice (some ⟨g0, 0, none⟩) 1 1]).run Try.prog w = .ok (.int .i64 1) (w.setRow g (cb (repToB n c 1)).toArray) := by
  have h := run_copy_row (P := Try.prog) w 28 28 ty 4 g 0 c c ⟨g0, 0, none⟩ 1 1 (cb (repToB n c 0)).toArray 4 (cb (List.replicate 1 n)) Try.underlying28 info4s hr (by rw [cb_len, List.length_replicate]; exact (Nat.min_eq_left h1).symm) (fun j v hv => by
    have hj := (List.getElem?_eq_some_iff.1 hv).1
    rw [cb_len, List.length_replicate] at hj
    obtain rfl : j = 0 := by omega
    cases hv
    exact hc) (by simp [cb_len, repToB_len n c 0 (by omega)]; omega) (cb_one _)
  rw [h]
  have e := repToB_more n c 0 1 (by omega)
  rw [show (cb (List.replicate 1 n)).length = 1 by simp [cb_len]]
  exact congrArg (fun r : List Value => Result.ok (Value.int .i64 1) (w.setRow g r.toArray)) e
set_option maxRecDepth 100000 in
set_option maxHeartbeats 800000 in
theorem repeatB_any (n : Bool) (c : Nat) (h1 : 1 ≤ c) (h2 : c ≤ 1048576) (g0 : Nat) (w : World) (hc0 : w.cell? ⟨g0, 0, none⟩ = some (.bool n)) :
    Calls Try.prog 46 #[.slice (some ⟨g0, 0, none⟩) 1 1, .int .i64 (c : Int)] w fun e w' => e = .returned (.slice (some ⟨w.heap.size, 0, none⟩) c c) ∧ RowIs w' w.heap.size 4 (cb (List.replicate c n)) ∧ After w w' := by
  have hmk := fun W => make_bools W c c (Nat.le_refl _) h2
  have R0 : Hid (RepRelB n c w 0 (w.alloc (.cells (cb (List.replicate c false)).toArray 4))) := ⟨after_alloc (After.refl w) _, by have := RowIs.new w 4 (cb (List.replicate c false)); simpa [repToB] using this⟩
  have hlt := block_lt_of_cell hc0
  have HC1 : Hid (∀ ty, (Builtin.copy_ #[28, 28] ty #[.slice (some ⟨w.heap.size, 0, none⟩) c c, .slice (some ⟨g0, 0, none⟩) 1 1]).run Try.prog (w.alloc (.cells (cb (List.replicate c false)).toArray 4)) = .ok (.int .i64 1) ((w.alloc (.cells (cb (List.replicate c false)).toArray 4)).setRow w.heap.size (cb (repToB n c 1)).toArray)) := fun ty => copy_firstB R0.out.2 h1 (by rw [Below.cell R0.out.1 (p := ⟨g0, 0, none⟩) hlt]; exact hc0) ty
  have R1 : Hid (RepRelB n c w 1 ((w.alloc (.cells (cb (List.replicate c false)).toArray 4)).setRow w.heap.size (cb (repToB n c 1)).toArray)) := R0.out.more 1
  clear R0 hc0 hlt
  go_enter Try.func46, Try.ntmps46
  go_wp2_with (first
    | (go_at_call 55; refine (mul_one' c h2 _).mono ?_; rintro e w1 ⟨rfl, hw1⟩; have hw2 := hw1.symm; clear hw1; subst hw2)
    | (refine wpList_run rfl (.int .i64 1) _ (x_copyB (d := .tmp 31) (s := .tmp 32) rfl rfl rfl HC1.out) ?_))
  obtain ⟨G, HG⟩ : ∃ G, Hid (w.heap.size = G) := ⟨_, rfl⟩
  clear hmk HC1
  revert R1
  refine with_world (p := fun W => Hid (RepRelB n c w 1 W) → Code.wp _ _ _ _ W) (fun _ => True) trivial ?_
  intro W1 _ R1
  rw [HG.out]
  go_loopw [8] (fun i wr => ∃ m : Nat, 1 ≤ m ∧ m ≤ c ∧ i = .int .i64 m ∧ RepRelB n c w m wr) (fun i _ => c - (intOf i).toNat)
  case atStart => exact ⟨1, by omega, h1, rfl, R1.out⟩
  case round =>
    clear R1
    obtain ⟨m, hm1, hmc, rfl, hR⟩ := hrel
    by_cases hlt : m < c
    · obtain ⟨k, hkE⟩ : ∃ k, Nat.min m (c - m) = k := ⟨_, rfl⟩
      have hk1 : 1 ≤ k := by rw [← hkE]; exact Nat.le_min.2 ⟨hm1, by omega⟩
      have hk2 : k ≤ c - m := by rw [← hkE]; exact Nat.min_le_right _ _
      have HS1 : Hid (∀ W, (Instr.sliceAt 28 (.slice (some ⟨G, 0, none⟩) c c) (some (.int .i64 (m : Int))) none none).run Try.prog W = .ok (.slice (some ⟨G, 0 + m, none⟩) (c - m) (c - m)) W) := fun W => sliceB_from G 0 c c m hlt (Nat.le_refl _) W
      have HS2 : Hid (∀ W, (Instr.sliceAt 28 (.slice (some ⟨G, 0, none⟩) c c) none (some (.int .i64 (m : Int))) none).run Try.prog W = .ok (.slice (some ⟨G, 0, none⟩) m c) W) := fun W => sliceB_to G 0 c c m hmc (by omega) W
      have HCP : Hid (∀ ty, (Builtin.copy_ #[28, 28] ty #[.slice (some ⟨G, 0 + m, none⟩) (c - m) (c - m), .slice (some ⟨G, 0, none⟩) m c]).run Try.prog wr.drew = .ok (.int .i64 (k : Int)) (wr.drew.setRow G (cb (repToB n c (m + k))).toArray)) := fun ty => copy_repB (by rw [← HG.out]; exact hR.2) hkE.symm hmc ty
      have HWK : Hid (IntKind.i64.wrap ((m : Int) + (k : Int)) = ((m + k : Nat) : Int)) := by unfold Hid; rw [wrap_i64i]; unfold Leb.wrap64; omega
      have HN : Hid (RepRelB n c w (m + k) (wr.drew.setRow G (cb (repToB n c (m + k))).toArray)) := by
        unfold Hid; rw [← HG.out]; exact RepRelB.more ⟨hR.1.drew, hR.2⟩ _
      clear hR hkE
      go_wp2
      refine wp_region_noPanic ?_
      refine wp_region_held_drew (S := fun _ => True) (by kernel_rfl) trivial ?_
      intro _
      refine tk 0 38 (.int .i64 (m : Int)) (fuel := 9) rfl (by kernel_rfl) (by kernel_rfl) (by kernel_rfl) (by kernel_rfl) noPanic_false (by kernel_rfl) (fun _ _ => by kernel_rfl) trivial ?_
      refine tk 1 39 (.slice (some ⟨G, 0, none⟩) c c) (fuel := 8) rfl (by kernel_rfl) (by kernel_rfl) (by kernel_rfl) (by kernel_rfl) noPanic_false (by kernel_rfl) (fun _ _ => by kernel_rfl) trivial ?_
      refine tk 2 40 (.int .i64 (m : Int)) (fuel := 7) rfl (by kernel_rfl) (by kernel_rfl) (by kernel_rfl) (by kernel_rfl) noPanic_false (by kernel_rfl) (fun _ _ => by kernel_rfl) trivial ?_
      refine tk 3 41 (.slice (some ⟨G, 0 + m, none⟩) (c - m) (c - m)) (fuel := 6) rfl (by kernel_rfl) (by kernel_rfl) (by kernel_rfl) (by kernel_rfl) noPanic_false (by kernel_rfl) (fun W _ => x_slB (x := .tmp 39) (lo := some (.tmp 40)) (hi := none) (by kernel_rfl) (by kernel_rfl) (HS1.out W)) trivial ?_
      refine tk 4 42 (.slice (some ⟨G, 0, none⟩) c c) (fuel := 5) rfl (by kernel_rfl) (by kernel_rfl) (by kernel_rfl) (by kernel_rfl) noPanic_false (by kernel_rfl) (fun _ _ => by kernel_rfl) trivial ?_
      refine tk 5 43 (.int .i64 (m : Int)) (fuel := 4) rfl (by kernel_rfl) (by kernel_rfl) (by kernel_rfl) (by kernel_rfl) noPanic_false (by kernel_rfl) (fun _ _ => by kernel_rfl) trivial ?_
      refine tk 6 44 (.slice (some ⟨G, 0, none⟩) m c) (fuel := 3) rfl (by kernel_rfl) (by kernel_rfl) (by kernel_rfl) (by kernel_rfl) noPanic_false (by kernel_rfl) (fun W _ => x_slB (x := .tmp 42) (lo := none) (hi := some (.tmp 43)) (by kernel_rfl) (by kernel_rfl) (HS2.out W)) trivial ?_
      refine tkOne 7 45 (.int .i64 (k : Int)) (wr.drew.setRow G (cb (repToB n c (m + k))).toArray) (fuel := 2) rfl (by kernel_rfl) (by kernel_rfl) (by kernel_rfl) (x_copyB (d := .tmp 41) (s := .tmp 44) (by kernel_rfl) (by kernel_rfl) (by kernel_rfl) HCP.out) trivial ?_
      refine tk 8 46 (.int .i64 ((m + k : Nat) : Int)) (fuel := 1) rfl (by kernel_rfl) (by kernel_rfl) (by kernel_rfl) (by kernel_rfl) noPanic_false (by kernel_rfl) (fun _ _ => x_addi3 (x := .tmp 38) (y := .tmp 45) (by kernel_rfl) (by kernel_rfl) (by kernel_rfl) HWK.out) trivial ?_
      refine tk 9 8 (.int .i64 ((m + k : Nat) : Int)) (fuel := 0) rfl (by kernel_rfl) (by kernel_rfl) (by kernel_rfl) (by kernel_rfl) noPanic_false (by kernel_rfl) (fun _ _ => by kernel_rfl) trivial ?_
      refine wpAnyH_done (by kernel_rfl) (NoPanic.normal ?_) _
      go_simp
      go_wp2
      go_roundw
      case rel => exact ⟨m + k, by omega, by omega, by go_num, HN.out⟩
      case measure => simp [intOf]; omega
    · obtain rfl : m = c := by omega
      have HR : Hid (RepRelB n m w m wr) := hR
      clear hR
      go_wp2
      go_ret
      refine ⟨by rw [HG.out]; rfl, by have := HR.out.2; simpa [repToB] using this, HR.out.1⟩
end Go.Proofs.Ytjmflggnnchojaa
