/-
  THE WALKS OF math/bits.Mul64, math/bits.Mul, slices.Repeat (of one number).
-/
import Derived.Test.YtpplnomomcdemaaRunsWalk
import Derived.Test.YtpplnomomcdemaaRoundKit
import Derived.Laws.CopyRow
namespace Go.Proofs.Ytpplnomomcdemaa
open Go.RowKit Leb
theorem and_low32 (c : Nat) (hc : c < 4294967296) : bits .and .u64 (c : Int) 4294967295 = (c : Int) := by
  have e : bits .and .u64 (c : Int) 4294967295 = IntKind.u64.wrap (((c % 18446744073709551616) % 2 ^ 32 : Nat) : Int) := by
    show IntKind.u64.wrap (((BitVec.ofInt 64 (c : Int) &&& BitVec.ofInt 64 4294967295).toNat : Nat) : Int) = _
    rw [BitVec.toNat_and, BitVec.toNat_ofInt, ← Nat.and_two_pow_sub_one_eq_mod]
    have h1 : ((c : Int) % (2 ^ 64 : Nat)).toNat = c % 18446744073709551616 := by omega
    rw [h1]
    rfl
  rw [e]
  simp [IntKind.wrap, IntKind.bits, IntKind.signed]
  omega
set_option maxHeartbeats 400000 in
theorem mul64_one (c : Nat) (hc : c ≤ 1048576) (w : World) : Calls Try.prog 86 #[.int .u64 1, .int .u64 (c : Int)] w fun e w' => e = .returned (.tuple #[.int .u64 0, .int .u64 (c : Int)]) ∧ w' = w := by
  have ha := and_low32 c (by omega)
  have hb : bits .and .u64 1 4294967295 = 1 := by decide
  have hd : (c : Int) / 4294967296 = 0 := by omega
  have h0 : bits .and .u64 0 4294967295 = 0 := by decide
  go_enter Try.func86, Try.ntmps86
  go_wp2
  go_ret2
  exact ⟨rfl, rfl⟩
set_option maxHeartbeats 400000 in
theorem mul_one' (c : Nat) (hc : c ≤ 1048576) (w : World) : Calls Try.prog 84 #[.int .u64 1, .int .u64 (c : Int)] w fun e w' => e = .returned (.tuple #[.int .u64 0, .int .u64 (c : Int)]) ∧ w' = w := by
  go_enter Try.func84, Try.ntmps84
  go_wp2_with (go_at_call 86; refine (mul64_one c hc _).mono ?_; rintro e w1 ⟨rfl, rfl⟩)
  go_ret2
  exact ⟨rfl, rfl⟩
section
variable {ops : Array Oper} {Q : Exit → Act → World → Prop} {S : World → Prop} {fuel : Nat} {listed : Array Bool} {a : Act} {w : World} {oi : Oper}
/-- Number i, which alone may come up, yields v and turns the world. -/
theorem tkOne (i d : Nat) (v : Value) (w' : World) (hi : ops[i]? = some oi) (hd : oi.dst = some d) (hr : Region.ready .any ops listed = [i]) (hw : Region.wanted oi (yielded ops a.tmps) = true)
    (hrun : (execOp a.eval oi).run Try.prog w = .ok (.value v) w') (hS : S w') (h : wpAnyH Try.prog .any ops Q S fuel (listed.setIfInBounds i true) (a.put (some d) v) w') : wpAnyH Try.prog .any ops Q S (fuel + 1) listed a w :=
  wpAnyH_all hr (by simp) (fun j hj => by
    obtain rfl : j = i := by simpa using hj
    refine wpOp_step hi (fun K' hK => ?_)
    rw [if_pos hw]
    unfold Oper.wp
    rw [hrun]
    have hh := hK (a.put (some d) v) w' ⟨hS, h⟩
    rw [← hd] at hh
    exact hh)
end
def ci (l : List Int) : List Value := l.map (Value.int .i64)
theorem ci_len (l : List Int) : (ci l).length = l.length := by simp [ci]
theorem ci_one (l : List Int) : ∀ v ∈ ci l, v.oneCell' = true := by intro v hv; obtain ⟨b, _, rfl⟩ := List.mem_map.1 hv; rfl
theorem ci_get (l : List Int) (j : Nat) (h : j < l.length) : (ci l)[j]? = some (.int .i64 (l[j]?.getD 0)) := by simp [ci, h]
theorem info2 : (Try.prog.info? 2).map (fun i => (i.zero, i.size, i.bytes)) = some (some (.int .i64 0), 1, 8) := by kernel_rfl
theorem info2s : (Try.prog.info? 2).map (·.size) = some 1 := by kernel_rfl
theorem made_zeroI (c : Nat) : madeCells (Value.cells (.int .i64 0)) c = (ci (List.replicate c 0)).toArray := by
  apply Array.ext_getElem?
  intro i
  simp only [madeCells, ci, List.map_replicate]
  by_cases h : i < c
  · simp [h, Value.cells, Nat.mod_one]
  · simp [h]
theorem make_ints (W : World) (l c : Nat) (hlc : l ≤ c) (hc : c ≤ 1048576) :
    (Instr.makeSlice 46 (.int .i64 (l : Int)) (.int .i64 (c : Int))).run Try.prog W = .ok (.slice (some ⟨W.heap.size, 0, none⟩) l c) (W.alloc (.cells (ci (List.replicate c 0)).toArray 2)) := by
  obtain ⟨i, hi, hz⟩ := Option.map_eq_some_iff.1 info2
  simp only [Prod.mk.injEq] at hz
  obtain ⟨hz, hs, hb⟩ := hz
  have := run_make (P := Try.prog) W 46 2 i (.int .i64 0) Try.underlying46 hi hz .i64 .i64 l c (by omega) (by omega) (by rw [hb]; omega) (by omega)
  rw [this, hs, Nat.mul_one, Int.toNat_natCast, Int.toNat_natCast, made_zeroI]
theorem sliceI_from (b o n c lo : Nat) (h : lo < n) (h2 : n ≤ c) (W : World) : (Instr.sliceAt 46 (.slice (some ⟨b, o, none⟩) n c) (some (.int .i64 (lo : Int))) none none).run Try.prog W = .ok (.slice (some ⟨b, o + lo, none⟩) (n - lo) (c - lo)) W := by
  obtain ⟨i, hi', hz⟩ := Option.map_eq_some_iff.1 info2s
  simp [Instr.sliceAt, Instr.slice, run_underlying Try.underlying46, Instr.sliceBounds, Instr.sliceBound, asIntOf, sizeOf, typeInfo, hi', hz, show lo ≤ n by omega, show ¬ c = lo by omega, Addr.add_mid]
theorem sliceI_to (b o n c hi : Nat) (h : hi ≤ c) (_h0 : 0 < c) (W : World) : (Instr.sliceAt 46 (.slice (some ⟨b, o, none⟩) n c) none (some (.int .i64 (hi : Int))) none).run Try.prog W = .ok (.slice (some ⟨b, o, none⟩) hi c) W := by
  obtain ⟨i, hi', hz⟩ := Option.map_eq_some_iff.1 info2s
  simp [Instr.sliceAt, Instr.slice, run_underlying Try.underlying46, Instr.sliceBounds, Instr.sliceBound, asIntOf, sizeOf, typeInfo, hi', h, Addr.add]
theorem x_slI {o : Oper} {a : Act} {x : Operand} {lo hi : Option Operand} {u v : Value} {w : World} (hop : o.op = .slice 46 x lo hi none) (hx : a.eval x = u) (h : (Instr.sliceAt 46 u (lo.map a.eval) (hi.map a.eval) none).run Try.prog w = .ok v w) : (execOp a.eval o).run Try.prog w = .ok (.value v) w := by
  unfold execOp
  simp only [hop, hx, Option.map_none, Sem.run_bind, h, Result.andThen_ok]
  rfl
/-- c numbers, the first m of which are laid. -/
def repTo (n : Int) (c m : Nat) : List Int := List.replicate m n ++ List.replicate (c - m) 0
theorem repTo_len (n : Int) (c m : Nat) (h : m ≤ c) : (repTo n c m).length = c := by simp [repTo]; omega
theorem repTo_more (n : Int) (c m k : Nat) (_h : m + k ≤ c) : (ci (repTo n c m)).take m ++ ci (List.replicate k n) ++ (ci (repTo n c m)).drop (m + k) = ci (repTo n c (m + k)) := by
  have h1 : (repTo n c m).take m = List.replicate m n := by simp [repTo]
  have h2 : (repTo n c m).drop (m + k) = List.replicate (c - (m + k)) 0 := by
    unfold repTo
    rw [List.drop_append]
    simp
    omega
  unfold ci
  rw [← List.map_take, ← List.map_drop, h1, h2, ← List.map_append, ← List.map_append]
  congr 1
  unfold repTo
  rw [List.replicate_append_replicate]
theorem x_copyI {o : Oper} {a : Act} {d s : Operand} {u v r : Value} {w w' : World} (hop : o.op = .call { callee := .builtin .copy, args := #[d, s], argTypes := #[46, 46] }) (hd : a.eval d = u) (hs : a.eval s = v) (h : ∀ ty, (Builtin.copy_ #[46, 46] ty #[u, v]).run Try.prog w = .ok r w') : (execOp a.eval o).run Try.prog w = .ok (.value r) w' := by
  simp [execOp, hop, resolve, invoke, builtin, hd, hs, h, Result.andThen]
def RepRel (n : Int) (c : Nat) (w : World) (m : Nat) (wr : World) : Prop := After w wr ∧ RowIs wr w.heap.size 2 (ci (repTo n c m))
theorem RepRel.more {n : Int} {c : Nat} {w wr : World} {m : Nat} (h : RepRel n c w m wr) (m' : Nat) : RepRel n c w m' (wr.setRow w.heap.size (ci (repTo n c m')).toArray) := ⟨Below.row h.1 (Nat.le_refl _) _, h.2.setRow _⟩
theorem copy_rep {n : Int} {c : Nat} {w : World} {g m k : Nat} (hr : RowIs w g 2 (ci (repTo n c m))) (hk : k = Nat.min m (c - m)) (hm : m ≤ c) (ty : TypeId) :
    (Builtin.copy_ #[46, 46] ty #[.slice (some ⟨g, 0 + m, none⟩) (c - m) (c - m), .slice (some ⟨g, 0, none⟩) m c]).run Try.prog w = .ok (.int .i64 (k : Int)) (w.setRow g (ci (repTo n c (m + k))).toArray) := by
  have hkm : k ≤ m := by rw [hk]; exact Nat.min_le_left _ _
  have hkc : k ≤ c - m := by rw [hk]; exact Nat.min_le_right _ _
  have h := run_copy_row (P := Try.prog) w 46 46 ty 2 g (0 + m) (c - m) (c - m) ⟨g, 0, none⟩ m c (ci (repTo n c m)).toArray 2 (ci (List.replicate k n)) Try.underlying46 info2s hr (by rw [ci_len, List.length_replicate, hk]) (fun j v hv => by
    have hj := (List.getElem?_eq_some_iff.1 hv).1
    rw [ci_len, List.length_replicate] at hj
    rw [ci_get _ j (by simpa using hj)] at hv
    rw [Addr.add_mid]
    have := hr.cell (j := 0 + j) (by rw [Nat.zero_add]; exact ci_get (repTo n c m) j (by rw [repTo_len n c m hm]; omega))
    rw [this, ← hv]
    congr 3
    simp [repTo, List.getElem?_append, show j < m by omega, hj]) (by simp [ci_len, repTo_len n c m hm]; omega) (ci_one _)
  rw [h]
  have e : (ci (repTo n c m)).take (0 + m) ++ ci (List.replicate k n) ++ (ci (repTo n c m)).drop (0 + m + k) = ci (repTo n c (m + k)) := by
    rw [Nat.zero_add]; exact repTo_more n c m k (by omega)
  rw [show (ci (List.replicate k n)).length = k by simp [ci_len]]
  exact congrArg (fun r : List Value => Result.ok (Value.int .i64 (k : Int)) (w.setRow g r.toArray)) e
theorem copy_first {n : Int} {c : Nat} {w : World} {g g0 : Nat} (hr : RowIs w g 2 (ci (repTo n c 0))) (h1 : 1 ≤ c) (hc : w.cell? ⟨g0, 0, none⟩ = some (.int .i64 n)) (ty : TypeId) :
    (Builtin.copy_ #[46, 46] ty #[.slice (some ⟨g, 0, none⟩) c c, .slice (some ⟨g0, 0, none⟩) 1 1]).run Try.prog w = .ok (.int .i64 1) (w.setRow g (ci (repTo n c 1)).toArray) := by
  have h := run_copy_row (P := Try.prog) w 46 46 ty 2 g 0 c c ⟨g0, 0, none⟩ 1 1 (ci (repTo n c 0)).toArray 2 (ci (List.replicate 1 n)) Try.underlying46 info2s hr (by rw [ci_len, List.length_replicate]; exact (Nat.min_eq_left h1).symm) (fun j v hv => by
    have hj := (List.getElem?_eq_some_iff.1 hv).1
    rw [ci_len, List.length_replicate] at hj
    obtain rfl : j = 0 := by omega
    cases hv
    exact hc) (by simp [ci_len, repTo_len n c 0 (by omega)]; omega) (ci_one _)
  rw [h]
  have e := repTo_more n c 0 1 (by omega)
  rw [show (ci (List.replicate 1 n)).length = 1 by simp [ci_len]]
  exact congrArg (fun r : List Value => Result.ok (Value.int .i64 1) (w.setRow g r.toArray)) e
theorem wpList_run {ops : Array Oper} {rest : List Oper} {o : Oper} {a : Act} {w : World} {Q : Exit → Act → World → Prop} (hg : o.guard = none) (v : Value) (w' : World) (hrun : (execOp a.eval o).run Try.prog w = .ok (.value v) w')
    (h : wpList Try.prog ops Q rest (a.put o.dst v) w') : wpList Try.prog ops Q (o :: rest) a w := wpList_plain hg fun K hK => by
  unfold Oper.wp
  rw [hrun]
  exact hK _ _ h
set_option maxRecDepth 100000 in
set_option maxHeartbeats 800000 in
theorem repeat_any (n : Int) (c : Nat) (h1 : 1 ≤ c) (h2 : c ≤ 1048576) (g0 : Nat) (w : World) (hc0 : w.cell? ⟨g0, 0, none⟩ = some (.int .i64 n)) :
    Calls Try.prog 77 #[.slice (some ⟨g0, 0, none⟩) 1 1, .int .i64 (c : Int)] w fun e w' => e = .returned (.slice (some ⟨w.heap.size, 0, none⟩) c c) ∧ RowIs w' w.heap.size 2 (ci (List.replicate c n)) ∧ After w w' := by
  have hmk := fun W => make_ints W c c (Nat.le_refl _) h2
  have R0 : Hid (RepRel n c w 0 (w.alloc (.cells (ci (List.replicate c 0)).toArray 2))) := ⟨after_alloc (After.refl w) _, by have := RowIs.new w 2 (ci (List.replicate c 0)); simpa [repTo] using this⟩
  have hlt := block_lt_of_cell hc0
  have HC1 : Hid (∀ ty, (Builtin.copy_ #[46, 46] ty #[.slice (some ⟨w.heap.size, 0, none⟩) c c, .slice (some ⟨g0, 0, none⟩) 1 1]).run Try.prog (w.alloc (.cells (ci (List.replicate c 0)).toArray 2)) = .ok (.int .i64 1) ((w.alloc (.cells (ci (List.replicate c 0)).toArray 2)).setRow w.heap.size (ci (repTo n c 1)).toArray)) := fun ty => copy_first R0.out.2 h1 (by rw [Below.cell R0.out.1 (p := ⟨g0, 0, none⟩) hlt]; exact hc0) ty
  have R1 : Hid (RepRel n c w 1 ((w.alloc (.cells (ci (List.replicate c 0)).toArray 2)).setRow w.heap.size (ci (repTo n c 1)).toArray)) := R0.out.more 1
  clear R0 hc0 hlt
  go_enter Try.func77, Try.ntmps77
  go_wp2_with (first
    | (go_at_call 84; refine (mul_one' c h2 _).mono ?_; rintro e w1 ⟨rfl, hw1⟩; have hw2 := hw1.symm; clear hw1; subst hw2)
    | (refine wpList_run rfl (.int .i64 1) _ (x_copyI (d := .tmp 31) (s := .tmp 32) rfl rfl rfl HC1.out) ?_))
  obtain ⟨G, HG⟩ : ∃ G, Hid (w.heap.size = G) := ⟨_, rfl⟩
  clear hmk HC1
  revert R1
  refine with_world (p := fun W => Hid (RepRel n c w 1 W) → Code.wp _ _ _ _ W) (fun _ => True) trivial ?_
  intro W1 _ R1
  rw [HG.out]
  go_loopw [8] (fun i wr => ∃ m : Nat, 1 ≤ m ∧ m ≤ c ∧ i = .int .i64 m ∧ RepRel n c w m wr) (fun i _ => c - (intOf i).toNat)
  case atStart => exact ⟨1, by omega, h1, rfl, R1.out⟩
  case round =>
    clear R1
    obtain ⟨m, hm1, hmc, rfl, hR⟩ := hrel
    by_cases hlt : m < c
    · obtain ⟨k, hkE⟩ : ∃ k, Nat.min m (c - m) = k := ⟨_, rfl⟩
      have hk1 : 1 ≤ k := by rw [← hkE]; exact Nat.le_min.2 ⟨hm1, by omega⟩
      have hk2 : k ≤ c - m := by rw [← hkE]; exact Nat.min_le_right _ _
      have HS1 : Hid (∀ W, (Instr.sliceAt 46 (.slice (some ⟨G, 0, none⟩) c c) (some (.int .i64 (m : Int))) none none).run Try.prog W = .ok (.slice (some ⟨G, 0 + m, none⟩) (c - m) (c - m)) W) := fun W => sliceI_from G 0 c c m hlt (Nat.le_refl _) W
      have HS2 : Hid (∀ W, (Instr.sliceAt 46 (.slice (some ⟨G, 0, none⟩) c c) none (some (.int .i64 (m : Int))) none).run Try.prog W = .ok (.slice (some ⟨G, 0, none⟩) m c) W) := fun W => sliceI_to G 0 c c m hmc (by omega) W
      have HCP : Hid (∀ ty, (Builtin.copy_ #[46, 46] ty #[.slice (some ⟨G, 0 + m, none⟩) (c - m) (c - m), .slice (some ⟨G, 0, none⟩) m c]).run Try.prog wr.drew = .ok (.int .i64 (k : Int)) (wr.drew.setRow G (ci (repTo n c (m + k))).toArray)) := fun ty => copy_rep (by rw [← HG.out]; exact hR.2) hkE.symm hmc ty
      have HWK : Hid (IntKind.i64.wrap ((m : Int) + (k : Int)) = ((m + k : Nat) : Int)) := by unfold Hid; rw [wrap_i64i]; unfold Leb.wrap64; omega
      have HN : Hid (RepRel n c w (m + k) (wr.drew.setRow G (ci (repTo n c (m + k))).toArray)) := by
        unfold Hid; rw [← HG.out]; exact RepRel.more ⟨hR.1.drew, hR.2⟩ _
      clear hR hkE
      go_wp2
      refine wp_region_noPanic ?_
      refine wp_region_held_drew (S := fun _ => True) (by kernel_rfl) trivial ?_
      intro _
      refine tk 0 38 (.int .i64 (m : Int)) (fuel := 9) rfl (by kernel_rfl) (by kernel_rfl) (by kernel_rfl) (by kernel_rfl) noPanic_false (by kernel_rfl) (fun _ _ => by kernel_rfl) trivial ?_
      refine tk 1 39 (.slice (some ⟨G, 0, none⟩) c c) (fuel := 8) rfl (by kernel_rfl) (by kernel_rfl) (by kernel_rfl) (by kernel_rfl) noPanic_false (by kernel_rfl) (fun _ _ => by kernel_rfl) trivial ?_
      refine tk 2 40 (.int .i64 (m : Int)) (fuel := 7) rfl (by kernel_rfl) (by kernel_rfl) (by kernel_rfl) (by kernel_rfl) noPanic_false (by kernel_rfl) (fun _ _ => by kernel_rfl) trivial ?_
      refine tk 3 41 (.slice (some ⟨G, 0 + m, none⟩) (c - m) (c - m)) (fuel := 6) rfl (by kernel_rfl) (by kernel_rfl) (by kernel_rfl) (by kernel_rfl) noPanic_false (by kernel_rfl) (fun W _ => x_slI (x := .tmp 39) (lo := some (.tmp 40)) (hi := none) (by kernel_rfl) (by kernel_rfl) (HS1.out W)) trivial ?_
      refine tk 4 42 (.slice (some ⟨G, 0, none⟩) c c) (fuel := 5) rfl (by kernel_rfl) (by kernel_rfl) (by kernel_rfl) (by kernel_rfl) noPanic_false (by kernel_rfl) (fun _ _ => by kernel_rfl) trivial ?_
      refine tk 5 43 (.int .i64 (m : Int)) (fuel := 4) rfl (by kernel_rfl) (by kernel_rfl) (by kernel_rfl) (by kernel_rfl) noPanic_false (by kernel_rfl) (fun _ _ => by kernel_rfl) trivial ?_
      refine tk 6 44 (.slice (some ⟨G, 0, none⟩) m c) (fuel := 3) rfl (by kernel_rfl) (by kernel_rfl) (by kernel_rfl) (by kernel_rfl) noPanic_false (by kernel_rfl) (fun W _ => x_slI (x := .tmp 42) (lo := none) (hi := some (.tmp 43)) (by kernel_rfl) (by kernel_rfl) (HS2.out W)) trivial ?_
      refine tkOne 7 45 (.int .i64 (k : Int)) (wr.drew.setRow G (ci (repTo n c (m + k))).toArray) (fuel := 2) rfl (by kernel_rfl) (by kernel_rfl) (by kernel_rfl) (x_copyI (d := .tmp 41) (s := .tmp 44) (by kernel_rfl) (by kernel_rfl) (by kernel_rfl) HCP.out) trivial ?_
      refine tk 8 46 (.int .i64 ((m + k : Nat) : Int)) (fuel := 1) rfl (by kernel_rfl) (by kernel_rfl) (by kernel_rfl) (by kernel_rfl) noPanic_false (by kernel_rfl) (fun _ _ => x_addi3 (x := .tmp 38) (y := .tmp 45) (by kernel_rfl) (by kernel_rfl) (by kernel_rfl) HWK.out) trivial ?_
      refine tk 9 8 (.int .i64 ((m + k : Nat) : Int)) (fuel := 0) rfl (by kernel_rfl) (by kernel_rfl) (by kernel_rfl) (by kernel_rfl) noPanic_false (by kernel_rfl) (fun _ _ => by kernel_rfl) trivial ?_
      refine wpAnyH_done (by kernel_rfl) (NoPanic.normal ?_) _
      go_simp
      go_wp2
      go_roundw
      case rel => exact ⟨m + k, by omega, by omega, by go_num, HN.out⟩
      case measure => simp [intOf]; omega
    · obtain rfl : m = c := by omega
      have HR : Hid (RepRel n m w m wr) := hR
      clear hR
      go_wp2
      go_ret
      refine ⟨by rw [HG.out]; rfl, by have := HR.out.2; simpa [repTo] using this, HR.out.1⟩
end Go.Proofs.Ytpplnomomcdemaa
