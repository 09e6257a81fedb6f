/-
  THE WALK OF stemmaref01.Sum.
-/
import Derived.Test.YtpnhklefoafgkaaDoorBlock
import Derived.Test.YtpnhklefoafgkaaDoorPadded
namespace Go.Proofs.YtpnhklefoafgkaaDoor
open Go.RowKit Sha
section
variable {ops : Array Oper} {Q : Exit → Act → World → Prop} {a : Act} {w : World} {oi : Oper} {K : Act → World → Prop}
/-- Number i comes up: it yields v. -/
theorem opVal (i d : Nat) (v : Value) (w' : World) (hi : ops[i]? = some oi) (hd : oi.dst = some d) (hw : Region.wanted oi (yielded ops a.tmps) = true)
    (hrun : (execOp a.eval oi).run Tryd.prog w = .ok (.value v) w') (h : K (a.put (some d) v) w') : wpOp Tryd.prog ops Q i K a w := by
  refine wpOp_step hi (fun K' hK => ?_)
  rw [if_pos hw]
  unfold Oper.wp
  rw [hrun]
  rw [← hd] at h
  exact hK _ _ h
end
theorem x_load47 {o : Oper} {a : Act} {x : Operand} {g : Nat} {l : List (BitVec 32)} {w : World} (hop : o.op = .load 47 x) (hx : a.eval x = .pointer (some ⟨g, 0, none⟩)) (hl : l.length = 8) (h : RowIs w g 47 (c32 l)) : (execOp a.eval o).run Tryd.prog w = .ok (.value (.agg (c32 l).toArray)) w := by
  have hz : (Tryd.prog.info? 47).map (·.size) = some (c32 l).toArray.size := by simp only [List.size_toArray, c32_len, hl]; exact size47
  unfold execOp
  simp only [hop, hx, Instr.loadAt, Instr.sureAddr, Sem.run_bind, Sem.run_pure, Result.andThen_ok, run_loadVar_row (P := Tryd.prog) w g 47 47 (c32 l).toArray (0, 0) _ h Tryd.underlying47 rfl hz]
theorem x_addi {o : Oper} {a : Act} {x y : Operand} {p q r : Int} {w : World} (hop : o.op = .binOp .add 3 x y 3) (hx : a.eval x = .int .i64 p) (hy : a.eval y = .int .i64 q) (h : IntKind.i64.wrap (p + q) = r) : (execOp a.eval o).run Tryd.prog w = .ok (.value (.int .i64 r)) w := by
  unfold execOp
  simp only [hop, hx, hy]
  rw [← h]
  simp [go_sem]
theorem slice_mid (b o n c lo hi : Nat) (h1 : lo < hi) (h2 : hi ≤ n) (h3 : n ≤ c) (W : World) : (Instr.sliceAt 22 (.slice (some ⟨b, o, none⟩) n c) (some (.int .i64 (lo : Int))) (some (.int .i64 (hi : Int))) none).run Tryd.prog W = .ok (.slice (some ⟨b, o + lo, none⟩) (hi - lo) (c - lo)) W := by
  obtain ⟨i, hi', hz⟩ := Option.map_eq_some_iff.1 bytes5
  simp only [Prod.mk.injEq] at hz
  obtain ⟨_, hsz, _⟩ := hz
  simp [Instr.sliceAt, Instr.slice, run_underlying Tryd.underlying22, Instr.sliceBounds, Instr.sliceBound, asIntOf, sizeOf, typeInfo, hi', hsz, show hi ≤ c by omega, show lo ≤ hi by omega, show ¬ c = lo by omega, Addr.add_mid]
theorem x_slmid {o : Oper} {a : Act} {x y z : Operand} {u i j v : Value} {w : World} (hop : o.op = .slice 22 x (some y) (some z) none) (hx : a.eval x = u) (hy : a.eval y = i) (hz : a.eval z = j) (h : (Instr.sliceAt 22 u (some i) (some j) none).run Tryd.prog w = .ok v w) : (execOp a.eval o).run Tryd.prog w = .ok (.value v) w := by
  unfold execOp
  simp only [hop, hx, hy, hz, Option.map, Sem.run_bind, h, Result.andThen_ok]
  rfl
/-- Behind k blocks. -/
structure SuRel (w W : World) (ws : List (BitVec 32)) (ao : Option Addr) (p : List UInt8) : Prop where
  aft : After w W
  r0 : RowIs W w.heap.size 24 (c8 (List.replicate 32 0))
  r1 : RowIs W (w.heap.size + 1) 47 (c32 ws)
  at' : BytesAt W ao p
  far : ∀ a, ao = some a → w.heap.size + 1 < a.block ∧ a.block < W.heap.size
theorem SuRel.drew {w W : World} {ws : List (BitVec 32)} {ao : Option Addr} {p : List UInt8} (h : SuRel w W ws ao p) : SuRel w W.drew ws ao p := ⟨h.aft.drew, h.r0, h.r1, h.at', h.far⟩
theorem SuRel.after {w W W' : World} {ws : List (BitVec 32)} {ao : Option Addr} {p : List UInt8} (h : SuRel w W ws ao p) (hA : After W W') : SuRel w W' ws ao p :=
  ⟨h.aft.trans hA, h.r0.below hA h.r0.lt, h.r1.below hA h.r1.lt, h.at'.after hA, fun a ha => ⟨(h.far a ha).1, Nat.lt_of_lt_of_le (h.far a ha).2 hA.size⟩⟩
theorem SuRel.next {w W : World} {ws ws' : List (BitVec 32)} {ao : Option Addr} {p : List UInt8} (h : SuRel w W ws ao p) : SuRel w (W.setRow (w.heap.size + 1) (c32 ws').toArray) ws' ao p := by
  refine ⟨Below.row h.aft (by omega) _, h.r0.setRow_other _ (by omega), h.r1.setRow _, fun hn => ?_, fun a ha => ⟨(h.far a ha).1, by have := (h.far a ha).2; simpa using this⟩⟩
  obtain ⟨b, o, he, hc⟩ := h.at' hn
  refine ⟨b, o, he, fun j hj => ?_⟩
  have hb := (h.far ⟨b, o, none⟩ he).1
  rw [World.cell?_of_block (w := W) (Go.setRow_other W (w.heap.size + 1) b _ (by simp at hb; omega))]
  exact hc j hj
/-- Behind i bytes. -/
structure OuRel (w W : World) (g : Nat) (ws : List (BitVec 32)) (l : List UInt8) : Prop where
  aft : After w W
  r0 : RowIs W w.heap.size 24 (c8 (List.replicate 32 0))
  r1 : RowIs W (w.heap.size + 1) 47 (c32 ws)
  r6 : RowIs W g 24 (c8 l)
  gt : w.heap.size + 1 < g
theorem OuRel.start {w W : World} {ws : List (BitVec 32)} {ao : Option Addr} {p : List UInt8} (h : SuRel w W ws ao p) : OuRel w (W.alloc (.cells (c8 (List.replicate 32 0)).toArray 24)) W.heap.size ws (outL ws 0) :=
  ⟨after_alloc h.aft _, h.r0.alloc _, h.r1.alloc _, RowIs.new W 24 _, h.r1.lt⟩
theorem OuRel.next {w W : World} {g i : Nat} {ws : List (BitVec 32)} (h : OuRel w W g ws (outL ws i)) : OuRel w (W.setCell ⟨g, i, none⟩ (.int .u8 ((outB ws i).toNat : Int))) g ws (outL ws (i + 1)) := by
  have hg := h.gt
  refine ⟨Below.setCell h.aft (by show w.heap.size ≤ g; omega) _, h.r0.other _ _ (by show w.heap.size ≠ g; omega), h.r1.other _ _ (by show w.heap.size + 1 ≠ g; omega), ?_, hg⟩
  have := h.r6.set i (.int .u8 ((outB ws i).toNat : Int))
  rw [c8_set] at this
  exact this
theorem first_built : Tryd.prog.built 47 [(0, .int .u32 1779033703), (1, .int .u32 3144134277), (2, .int .u32 1013904242), (3, .int .u32 2773480762), (4, .int .u32 1359893119), (5, .int .u32 2600822924), (6, .int .u32 528734635), (7, .int .u32 1541459225)] = some (c32 first.list).toArray := by kernel_rfl
theorem block_bytes {W : World} {b o : Nat} {p : List UInt8} (h : BytesAt W (some ⟨b, o, none⟩) p) (k : Nat) (hk : 64 * (k + 1) ≤ p.length) : ∀ j, j < 64 → W.cell? ⟨b, o + 64 * k + j, none⟩ = some (.int .u8 (((blockAt p k).getD j 0).toNat : Int)) := fun j hj => by
  obtain ⟨b', o', he, hc⟩ := h (by intro h; simp [h] at hk)
  cases he
  rw [Nat.add_assoc, hc (64 * k + j) (by omega)]
  simp [blockAt, List.getElem?_drop, hj]
set_option maxRecDepth 100000 in
set_option maxHeartbeats 1600000 in
theorem refSum_any (ao : Option Addr) (cap : Nat) (bs : List UInt8) (hbig : bs.length ≤ 140737488351232) (w : World) (hat : BytesAt w ao bs) :
    Calls Tryd.prog 11 #[.slice ao bs.length cap] w fun e w' => e = .returned (.agg (c8 (sumP bs)).toArray) ∧ Below w.heap.size w w' := by
  have HAT : Hid (BytesAt w ao bs) := hat
  have hpl := padP_len bs
  obtain ⟨p, HP⟩ : ∃ p, Hid (padP bs = p) := ⟨_, rfl⟩
  obtain ⟨m, HM⟩ : ∃ m, Hid ((bs.length + 72) / 64 = m) := ⟨_, rfl⟩
  rw [HP.out, HM.out] at hpl
  have HPL : Hid (p.length = 64 * m) := hpl
  have hm : 64 * m ≤ 140737488351304 := by rw [← HM.out]; omega
  have HS : Hid (outL (blocksTo p m).list 32 = sumP bs) := by have := sumP_blocks bs; rw [HP.out, HM.out] at this; exact this
  clear hat hpl
  have W0 : Hid (RowIs ((w.alloc (.cells (c8 (List.replicate 32 0)).toArray 24)).alloc (.cells zero8.toArray 47)) (w.heap.size + 1) 47 zero8) := by
    have := RowIs.new (w.alloc (.cells (c8 (List.replicate 32 0)).toArray 24)) 47 zero8
    rw [show (w.alloc (.cells (c8 (List.replicate 32 0)).toArray 24)).heap.size = w.heap.size + 1 by simp] at this
    exact this
  have HW1 : Hid (After w (((w.alloc (.cells (c8 (List.replicate 32 0)).toArray 24)).alloc (.cells zero8.toArray 47)).setRow (w.heap.size + 1) (c32 first.list).toArray) ∧ RowIs (((w.alloc (.cells (c8 (List.replicate 32 0)).toArray 24)).alloc (.cells zero8.toArray 47)).setRow (w.heap.size + 1) (c32 first.list).toArray) w.heap.size 24 (c8 (List.replicate 32 0)) ∧ RowIs (((w.alloc (.cells (c8 (List.replicate 32 0)).toArray 24)).alloc (.cells zero8.toArray 47)).setRow (w.heap.size + 1) (c32 first.list).toArray) (w.heap.size + 1) 47 (c32 first.list)) :=
    ⟨Below.row (after_alloc (after_alloc (After.refl w) _) _) (by omega) _, ((RowIs.new w 24 _).alloc _).setRow_other _ (by omega), RowIs.setRow W0.out _⟩
  have fs : Hid ((Tryd.prog.info? 47).map (·.size) = some (c32 first.list).toArray.size) := size47
  go_enter Tryd.func11, Tryd.ntmps11
  go_wp2_with (first
    | (refine wpList_built rfl 47 _ rfl (c32 first.list).toArray (by kernel_rfl) ?_)
    | (refine wpList_store_row rfl 47 (.tmp 3) (.tmp 8) rfl (w.heap.size + 1) (c32 first.list).toArray rfl rfl 47 zero8.toArray W0.out fs.out rfl (all_oneCell_toArray (c32_one _)) ?_)
    | (go_at_call 23; refine (padded_any ao cap bs hbig _ (HAT.out.after HW1.out.1)).mono ?_; rintro e w2 ⟨v2, rfl, ho2, hb2⟩; rw [HP.out] at ho2; obtain ⟨a2, c2, rfl, hat2, hc2, hl2⟩ := ho2.at; have HR0 : Hid (SuRel w w2 first.list a2 p) := ⟨HW1.out.1.trans hb2, HW1.out.2.1.below hb2 HW1.out.2.1.lt, HW1.out.2.2.below hb2 HW1.out.2.2.lt, hat2, fun a ha => (by have := hl2 a ha; have := HW1.out.2.2.lt; omega)⟩; rw [HPL.out]; have HC2 : Hid (64 * m ≤ c2) := (by rw [← HPL.out]; exact hc2); clear ho2 hb2 hat2 hc2 hl2))
  go_loopw [5] (fun i wr => ∃ k : Nat, k ≤ m ∧ i = .int .i64 ((64 * k : Nat) : Int) ∧ SuRel w wr (blocksTo p k).list a2 p) (fun i _ => 64 * m - (intOf i).toNat)
  case atStart => exact ⟨0, by omega, rfl, HR0.out⟩
  case round =>
    clear HR0
    obtain ⟨k, hk, rfl, hR⟩ := hrel
    by_cases hkm : k < m
    · have hkp : 64 * (k + 1) ≤ p.length := by rw [HPL.out]; omega
      obtain ⟨b, o, rfl, _⟩ := hR.at' (by intro h; simp [h] at hkp)
      have HKP := show Hid (64 * (k + 1) ≤ p.length) from hkp
      have HRR := show Hid (SuRel w wr (blocksTo p k).list (some ⟨b, o, none⟩) p) from hR
      have HWR : Hid (IntKind.i64.wrap (((64 * k : Nat) : Int) + 64) = ((64 * k + 64 : Nat) : Int)) := by unfold Hid; rw [wrap_i64 _ (by omega) (by omega)]; omega
      have HSL : Hid (∀ W : World, (Instr.sliceAt 22 (.slice (some ⟨b, o, none⟩) (64 * m) c2) (some (.int .i64 ((64 * k : Nat) : Int))) (some (.int .i64 ((64 * k + 64 : Nat) : Int))) none).run Tryd.prog W = .ok (.slice (some ⟨b, o + 64 * k, none⟩) 64 (c2 - 64 * k)) W) := fun W => by
        have := slice_mid b o (64 * m) c2 (64 * k) (64 * k + 64) (by omega) (by omega) HC2.out W
        rwa [show 64 * k + 64 - 64 * k = 64 by omega] at this
      clear hR hkp
      go_wp2
      refine wp_region_noPanic ?_
      refine wp_region_held_drew (S := fun _ => True) (by kernel_rfl) trivial ?_
      intro _
      refine tk 1 18 (.slice (some ⟨b, o, none⟩) (64 * m) c2) (fuel := 7) rfl (by kernel_rfl) (by kernel_rfl) (by kernel_rfl) (by kernel_rfl) noPanic_false (by kernel_rfl) (fun _ _ => by kernel_rfl) trivial ?_
      refine tk 2 19 (.int .i64 ((64 * k : Nat) : Int)) (fuel := 6) rfl (by kernel_rfl) (by kernel_rfl) (by kernel_rfl) (by kernel_rfl) noPanic_false (by kernel_rfl) (fun _ _ => by kernel_rfl) trivial ?_
      refine tk 3 20 (.int .i64 ((64 * k : Nat) : Int)) (fuel := 5) rfl (by kernel_rfl) (by kernel_rfl) (by kernel_rfl) (by kernel_rfl) noPanic_false (by kernel_rfl) (fun _ _ => by kernel_rfl) trivial ?_
      refine tk 4 21 (.int .i64 ((64 * k + 64 : Nat) : Int)) (fuel := 4) rfl (by kernel_rfl) (by kernel_rfl) (by kernel_rfl) (by kernel_rfl) noPanic_false (by kernel_rfl) (fun _ _ => x_addi (x := .tmp 20) (y := .const (.int .i64 64)) (by kernel_rfl) (by kernel_rfl) (by kernel_rfl) HWR.out) trivial ?_
      refine tk 5 22 (.slice (some ⟨b, o + 64 * k, none⟩) 64 (c2 - 64 * k)) (fuel := 3) rfl (by kernel_rfl) (by kernel_rfl) (by kernel_rfl) (by kernel_rfl) noPanic_false (by kernel_rfl) (fun W _ => x_slmid (x := .tmp 18) (y := .tmp 19) (z := .tmp 21) (by kernel_rfl) (by kernel_rfl) (by kernel_rfl) (by kernel_rfl) (HSL.out W)) trivial ?_
      refine wpAnyH_all (rs := [0]) (fuel := 2) (by kernel_rfl) (by simp) (fun j hj => ?_)
      obtain rfl : j = 0 := by simpa using hj
      refine opVal 0 17 (.agg (c32 (blocksTo p k).list).toArray) wr.drew rfl (by kernel_rfl) (by kernel_rfl) (x_load47 (x := .tmp 3) (g := w.heap.size + 1) (by kernel_rfl) (by kernel_rfl) (list_len _) HRR.out.drew.r1) ⟨trivial, ?_⟩
      refine tkCallS 6 23 24 #[.agg (c32 (blocksTo p k).list).toArray, .slice (some ⟨b, o + 64 * k, none⟩) 64 (c2 - 64 * k)] (fun v w' => v = .agg (c32 (blocksTo p (k + 1)).list).toArray ∧ After wr.drew w') (fuel := 1) rfl (by kernel_rfl) (by kernel_rfl) (by kernel_rfl) (fun _ => by kernel_rfl) ((block_any (blocksTo p k) (blockAt p k) (blockAt_len p k HKP.out) b (o + 64 * k) _ wr.drew (HRR.out.far _ rfl).2 (block_bytes HRR.out.drew.at' k HKP.out)).mono (fun _ _ h => ⟨_, h.1, rfl, h.2⟩)) (fun _ _ _ => trivial) ?_
      rintro v w3 ⟨rfl, hb3⟩
      have R3 := HRR.out.drew.after hb3
      refine tkStore 7 (w.heap.size + 1) 47 (.tmp 3) (.tmp 23) (c32 (blocksTo p (k + 1)).list).toArray (c32 (blocksTo p k).list).toArray 47 (fuel := 0) rfl (by kernel_rfl) (by kernel_rfl) (by kernel_rfl) (by kernel_rfl) (by kernel_rfl) (by kernel_rfl) R3.r1 (by simp only [List.size_toArray, c32_len, list_len]; exact size47) (by simp only [List.size_toArray, c32_len, list_len]) (all_oneCell_toArray (c32_one _)) trivial ?_
      have HR3 := show Hid (SuRel w (w3.setRow (w.heap.size + 1) (c32 (blocksTo p (k + 1)).list).toArray) (blocksTo p (k + 1)).list (some ⟨b, o, none⟩) p) from R3.next
      clear R3 hb3
      refine wpAnyH_done (by kernel_rfl) (NoPanic.normal ?_) _
      go_simp
      go_wp2
      go_roundw
      case rel => exact ⟨k + 1, by omega, by go_num, HR3.out⟩
      case measure => simp [intOf]; omega
    · obtain rfl : k = m := by omega
      obtain ⟨ws, HWS⟩ : ∃ ws, Hid ((blocksTo p k).list = ws) := ⟨_, rfl⟩
      have hwl : Hid (ws.length = 8) := by unfold Hid; rw [← HWS.out]; exact list_len _
      rw [HWS.out] at hR HS
      have HO : Hid (OuRel w (wr.alloc (.cells (c8 (List.replicate 32 0)).toArray 24)) wr.heap.size ws (outL ws 0)) := OuRel.start hR
      clear hR
      go_wp2
      revert HO
      refine with_world (p := fun W => Hid (OuRel w W wr.heap.size ws (outL ws 0)) → Code.wp _ _ _ _ W) (fun _ => True) trivial ?_
      generalize wr.heap.size = g
      intro W2 _ HO
      go_loopw [7] (fun i wr => ∃ k : Nat, k ≤ 32 ∧ i = .int .i64 k ∧ OuRel w wr g ws (outL ws k)) (fun i _ => 32 - (intOf i).toNat)
      case atStart => exact ⟨0, by omega, rfl, HO.out⟩
      case round =>
        clear HO
        obtain ⟨i, hi, rfl, hR⟩ := hrel
        by_cases hi32 : i < 32
        · obtain ⟨q, r, h4, hq8, hr4, HI⟩ : ∃ q r : Nat, (i : Int) / 4 = (q : Int) ∧ q < 8 ∧ r < 4 ∧ Hid ((i : Int) % 4 = (r : Int) ∧ i / 4 = q ∧ i % 4 = r) := ⟨i / 4, i % 4, by omega, by omega, by omega, by unfold Hid; omega⟩
          have h4r : (i : Int) % 4 = (r : Int) := HI.out.1
          obtain ⟨x, X, e1⟩ : ∃ x : BitVec 32, Hid (x = ws.getD (i / 4) 0) ∧ wr.cell? ⟨w.heap.size + 1, q, none⟩ = some (.int .u32 (n32 x)) := ⟨_, rfl, by rw [← HI.out.2.1]; exact hR.r1.cell (c32_get ws (i / 4) (by rw [hwl.out, HI.out.2.1]; exact hq8))⟩
          have f6 := hR.r6.frozen i
          obtain ⟨y, c6⟩ : ∃ y : UInt8, wr.cell? ⟨g, i, none⟩ = some (.int .u8 (y.toNat : Int)) := ⟨_, hR.r6.cell (c8_get _ i (by rw [outL_len]; exact hi32))⟩
          obtain ⟨ob, OB⟩ : ∃ b, Hid (outB ws i = b) := ⟨_, rfl⟩
          have HN : Hid (OuRel w (wr.setCell ⟨g, i, none⟩ (.int .u8 (ob.toNat : Int))) g ws (outL ws (i + 1))) := by unfold Hid; rw [← OB.out]; exact hR.next
          have s0 : (0 : Int) ≤ 24 - 8 * (r : Int) := by omega
          have s1 : 24 - 8 * (r : Int) ≤ 32 := by omega
          have s2 : (24 - 8 * (r : Int)).toNat = 24 - 8 * r := by omega
          have hv : n32 x / 2 ^ (24 - 8 * r) % 256 = (ob.toNat : Int) := by rw [← OB.out, byt_mod, X.out, ← HI.out.2.2]; rfl
          have bq : (q : Int) < 8 := by omega
          have bi : (i : Int) < 32 := by omega
          clear hR
          go_wp2
          go_roundw
          case rel => exact ⟨i + 1, by omega, by go_num, HN.out⟩
          case measure => simp [intOf]; omega
        · obtain rfl : i = 32 := by omega
          have hss : (c8 (sumP bs)).toArray.size = 32 := by simp only [List.size_toArray, c8_len, sumP_len]
          have HSS : Hid ((Tryd.prog.info? 24).map (·.size) = some (c8 (sumP bs)).toArray.size) := by unfold Hid; rw [hss]; exact size24
          have HSZ : Hid ((c8 (List.replicate 32 0)).toArray.size = (c8 (sumP bs)).toArray.size) := by unfold Hid; rw [hss]; simp [c8_len]
          have R6 : Hid (RowIs wr g 24 (c8 (sumP bs))) := by unfold Hid; rw [← HS.out]; exact hR.r6
          have HRR := show Hid (OuRel w wr g ws (outL ws 32)) from hR
          clear hR hss
          go_wp2_with (first
            | (refine wpList_load_row rfl 24 (.tmp 6) rfl g rfl 24 (c8 (sumP bs)).toArray (0, 0) _ R6.out Tryd.underlying24 rfl HSS.out ?_)
            | (refine wpList_store_row rfl 24 (.tmp 2) (.tmp 41) rfl w.heap.size (c8 (sumP bs)).toArray rfl rfl 24 (c8 (List.replicate 32 0)).toArray HRR.out.r0 HSS.out HSZ.out (all_oneCell_toArray (c8_one _)) ?_))
          exact bodyPost_ret (v := .agg (c8 (sumP bs)).toArray) (results_cell_row Tryd.results11 _ _ w.heap.size 24 _ (0, 0) _ rfl (RowIs.setRow HRR.out.r0 _) Tryd.underlying24 rfl HSS.out) rfl ⟨rfl, Below.row HRR.out.aft (Nat.le_refl _) _⟩
end Go.Proofs.YtpnhklefoafgkaaDoor
