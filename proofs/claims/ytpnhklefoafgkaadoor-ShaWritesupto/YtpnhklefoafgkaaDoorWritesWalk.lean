/-
  THE WALK OF stemmalaw01.ShaWrites.
-/
import Derived.Test.YtpnhklefoafgkaaDoorRefSum
namespace Go.Proofs.YtpnhklefoafgkaaDoor
open Go.RowKit Sha
def flat (ps : List (List UInt8)) (k : Nat) : List UInt8 := (ps.take k).flatten
theorem flat_next (ps : List (List UInt8)) (k : Nat) (h : k < ps.length) : flat ps (k + 1) = flat ps k ++ ps.getD k [] := by
  unfold flat
  rw [List.take_add_one, List.flatten_append]
  simp [List.getElem?_eq_getElem h, List.getD_eq_getElem?_getD]
theorem flat_le (ps : List (List UInt8)) (k : Nat) : (flat ps k).length ≤ ps.flatten.length := by
  have h : ps.flatten = flat ps k ++ (ps.drop k).flatten := by unfold flat; rw [← List.flatten_append, List.take_append_drop]
  rw [h, List.length_append]; omega
/-- A slice of slices of bytes. -/
def PiecesAt (w : World) (ao : Option Addr) (ps : List (List UInt8)) : Prop :=
  ps ≠ [] → ∃ b o, ao = some ⟨b, o, none⟩ ∧ ∀ j, j < ps.length → ∃ a c, w.cell? ⟨b, o + j, none⟩ = some (.slice a (ps.getD j []).length c) ∧ BytesAt w a (ps.getD j [])
theorem after_but {w W W' : World} {g : Nat} (h : After w W) (hb : But g W W') (hg : w.heap.size ≤ g) : After w W' :=
  ⟨hb.os.trans h.os, hb.tape.trans h.tape, hb.output.trans h.output, Nat.le_trans h.size hb.size, fun k hk => (hb.block k (Nat.lt_of_lt_of_le hk h.size) (by omega)).trans (h.block k hk)⟩
theorem Own.keep {w w' : World} {B : Nat} {v : Value} {l : List UInt8} (h : Own w B v l) (hk : ∀ k, v.ownBlock = some k → w'.heap[k]? = w.heap[k]?) : Own w' B v l := by
  refine ⟨h.1, ?_⟩
  rcases h.2 with hn | ⟨g, cap, cur, rfl, h1, h2, rest⟩
  · exact .inl hn
  · exact .inr ⟨g, cap, cur, rfl, h1, by rw [hk g rfl]; exact h2, rest⟩
/-- The hasher at block g, and all that was written, in a row of the call's own. -/
structure WR (w W : World) (B g : Nat) (v : Value) (l : List UInt8) : Prop where
  aft : After w W
  row : RowIs W g 56 (hcs (feed newHs l))
  own : Own W B v l
  wg : w.heap.size ≤ g
  gB : g < B
  BW : B ≤ W.heap.size
theorem WR.after {w W W' : World} {B g : Nat} {v : Value} {l : List UInt8} (h : WR w W B g v l) (hA : After W W') : WR w W' B g v l :=
  ⟨h.aft.trans hA, h.row.below hA h.row.lt, Own.below h.own hA (Nat.le_refl _), h.wg, h.gB, Nat.le_trans h.BW hA.size⟩
/-- A copy, the cells of which are bytes. -/
structure Cp (W : World) (b n : Nat) : Prop where
  cells : ∃ cs : List Value, RowIs W b 5 cs ∧ ∀ j, j < n → ∃ x : UInt8, cs[j]? = some (.int .u8 (x.toNat : Int))
theorem Cp.of {W : World} {B n c : Nat} {ao : Option Addr} {l : List UInt8} (h : Own W B (.slice ao n c) l) (hn : 0 < n) : ∃ b, ao = some ⟨b, 0, none⟩ ∧ B ≤ b ∧ Cp W b n := by
  have hl : l.length = n := by have := h.1; simp [c8_len] at this; rcases h.2 with ⟨h1, h2⟩ | ⟨g, cap, cur, h1, _⟩ <;> simp at h1 <;> omega
  rcases h.2 with ⟨h1, _⟩ | ⟨g, cap, cur, h1, h2, h3, _, _, _, h4⟩
  · simp at h1; omega
  · simp only [Value.slice.injEq] at h1
    obtain ⟨rfl, _, _⟩ := h1
    refine ⟨g, rfl, h2, ⟨cur.toList, by unfold RowIs; simpa using h3, fun j hj => ?_⟩⟩
    have := c8_get l j (by omega)
    rw [← h4, List.getElem?_take] at this
    rw [if_pos (by omega)] at this
    exact ⟨l.getD j 0, this⟩
theorem Cp.set {W : World} {b n : Nat} (h : Cp W b n) (k : Nat) (x : UInt8) : Cp (W.setCell ⟨b, k, none⟩ (.int .u8 (x.toNat : Int))) b n := by
  obtain ⟨cs, hr, hc⟩ := h.cells
  refine ⟨cs.set k (.int .u8 (x.toNat : Int)), hr.set k _, fun j hj => ?_⟩
  obtain ⟨y, hy⟩ := hc j hj
  by_cases hk : k = j
  · subst hk
    exact ⟨x, by rw [List.getElem?_set_self (List.getElem?_eq_some_iff.1 hy).1]⟩
  · exact ⟨y, by rw [List.getElem?_set_ne hk]; exact hy⟩
theorem x_load24 {o : Oper} {a : Act} {x : Operand} {g : Nat} {l : List UInt8} {w : World} (hop : o.op = .load 24 x) (hx : a.eval x = .pointer (some ⟨g, 0, none⟩)) (hl : l.length = 32) (h : RowIs w g 24 (c8 l)) : (execOp a.eval o).run Tryd.prog w = .ok (.value (.agg (c8 l).toArray)) w := by
  have hz : (Tryd.prog.info? 24).map (·.size) = some (c8 l).toArray.size := by simp only [List.size_toArray, c8_len, hl]; exact size24
  unfold execOp
  simp only [hop, hx, Instr.loadAt, Instr.sureAddr, Sem.run_bind, Sem.run_pure, Result.andThen_ok, run_loadVar_row (P := Tryd.prog) w g 24 24 (c8 l).toArray (0, 0) _ h Tryd.underlying24 rfl hz]
theorem x_neq24 {o : Oper} {a : Act} {x y : Operand} {l : List UInt8} {w : World} (hop : o.op = .binOp .neq 24 x y 24) (hx : a.eval x = .agg (c8 l).toArray) (hy : a.eval y = .agg (c8 l).toArray) (hl : l.length = 32) : (execOp a.eval o).run Tryd.prog w = .ok (.value (.bool false)) w := by
  have h : (Op.equalIn 10000 24 (.agg (c8 l).toArray) (.agg (c8 l).toArray)).run Tryd.prog w = .ok true w := by
    have := eq24 l l hl hl w
    rw [decide_eq_true rfl] at this
    exact this
  unfold execOp
  simp only [hop, hx, hy]
  simp [go_sem, h]
theorem x_neqi {o : Oper} {a : Act} {x y : Operand} {w : World} {p : Int} (hop : o.op = .binOp .neq 3 x y 3) (hx : a.eval x = .int .i64 p) (hy : a.eval y = .int .i64 p) : (execOp a.eval o).run Tryd.prog w = .ok (.value (.bool false)) w := by
  unfold execOp
  simp only [hop, hx, hy]
  simp [go_sem]
theorem refSum_len (ao : Option Addr) (cap : Nat) (bs : List UInt8) (ll : Nat) (hl : bs.length = ll) (hbig : bs.length ≤ 140737488351232) (w : World) (hat : BytesAt w ao bs) :
    Calls Tryd.prog 11 #[.slice ao ll cap] w fun e w' => e = .returned (.agg (c8 (sumP bs)).toArray) ∧ Below w.heap.size w w' := by
  subst hl; exact refSum_any ao cap bs hbig w hat
theorem row_new {w w1 : World} (hb : After w w1) (l : List UInt8) : After w ((w1.alloc (.cells (c8 (List.replicate 32 0)).toArray 24)).setRow w1.heap.size (c8 l).toArray) ∧ After w1 ((w1.alloc (.cells (c8 (List.replicate 32 0)).toArray 24)).setRow w1.heap.size (c8 l).toArray) ∧ RowIs ((w1.alloc (.cells (c8 (List.replicate 32 0)).toArray 24)).setRow w1.heap.size (c8 l).toArray) w1.heap.size 24 (c8 l) :=
  have h1 : After w1 ((w1.alloc (.cells (c8 (List.replicate 32 0)).toArray 24)).setRow w1.heap.size (c8 l).toArray) := Below.row (after_alloc (After.refl w1) _) (Nat.le_refl _) _
  ⟨hb.trans h1, h1, RowIs.setRow (RowIs.new w1 24 _) _⟩
set_option maxRecDepth 100000 in
set_option maxHeartbeats 1600000 in
theorem writes_any (pao : Option Addr) (pcap : Nat) (ps : List (List UInt8)) (hsmall : ps.flatten.length ≤ 1048576) (hn : ps.length ≤ 1048576) (w : World) (ht : Tab w) (hp : PiecesAt w pao ps) :
    Calls Tryd.prog 4 #[.slice pao ps.length pcap] w fun e w' => e = .returned (.bool true) ∧ After w w' := by
  have HT : Hid (Tab w) := ht
  have HP : Hid (PiecesAt w pao ps) := hp
  clear ht hp
  go_enter Tryd.func4, Tryd.ntmps4
  go_wp2_with (go_at_call 13; refine (new_any _).mono ?_; rintro e w1 ⟨g, rfl, hg, hb1, hr1⟩; have R1 : Hid (WR w w1 w1.heap.size g (.slice none 0 0) (flat ps 0)) := ⟨hb1, hr1, Own.nil _ _, hg, hr1.lt, Nat.le_refl _⟩; clear hg hb1 hr1)
  generalize w1.heap.size = B at *
  go_loopw [4, 5] (fun v i wr => ∃ k : Nat, k ≤ ps.length ∧ i = .int .i64 k ∧ WR w wr B g v (flat ps k)) (fun _ i _ => ps.length - (intOf i).toNat)
  case atStart => exact ⟨0, by omega, rfl, R1.out⟩
  case round =>
    clear R1
    obtain ⟨k, hk, rfl, hR⟩ := hrel
    by_cases hkl : k < ps.length
    · obtain ⟨pb, po, rfl, hpc⟩ := HP.out (by intro h; simp [h] at hkl)
      obtain ⟨pa, pc, hcell, hbytes⟩ := hpc k hkl
      obtain ⟨x, HX⟩ : ∃ x, Hid (ps.getD k [] = x) := ⟨_, rfl⟩
      rw [HX.out] at hcell hbytes
      have HFL : Hid (flat ps (k + 1) = flat ps k ++ x) := by unfold Hid; rw [← HX.out]; exact flat_next ps k hkl
      have HF1 : Hid ((flat ps k ++ x).length ≤ 1048576) := by unfold Hid; rw [← HFL.out]; exact Nat.le_trans (flat_le ps (k + 1)) hsmall
      have hxl : x.length ≤ 1048576 := by have := HF1.out; simp at this; omega
      have HPC : Hid (∀ W, After w W → W.cell? ⟨pb, po + k, none⟩ = some (.slice pa x.length pc)) := fun W hW => by rw [Below.cell hW (p := ⟨pb, po + k, none⟩) (block_lt_of_cell hcell)]; exact hcell
      have HPB : Hid (∀ W, After w W → BytesAt W pa x) := fun W hW => hbytes.after hW
      have HRR := show Hid (WR w wr B g u4 (flat ps k)) from hR
      have pc0 := HPC.out _ (after_alloc hR.aft (.cells #[] 5))
      have bnd : (k : Int) < (ps.length : Int) := by omega
      clear hpc hcell hbytes hR
      go_wp2_with (first
        | (at_builtin; refine wpList_append_any rfl (.tmp 18) (.tmp 22) rfl wr.heap.size _ [] rfl (Own.fresh wr) pa pc x x.length rfl rfl (HPB.out _ (after_alloc HRR.out.aft _)) (by simp; omega) (by simp) ?_; intro v5 w5 ho5 hg5; rw [List.nil_append] at ho5; have A5 : After wr w5 := after_grown (after_alloc (After.refl wr) _) hg5 (Nat.le_refl _) (fun k hk => (World.ownsRow.lt (Own.fresh wr) k hk).1); have HO5 : Hid (Own w5 wr.heap.size v5 x) := ho5; obtain ⟨a5, c5, rfl, hat5, hc5, hl5⟩ := ho5.at; have HAT5 := show Hid _ from hat5; have HL5 := show Hid _ from hl5; have H5 := show Hid _ from HRR.out.after A5; clear ho5 hg5 hat5 hl5)
        | (go_at_call 14; refine (write_any g (feed newHs (flat ps k)) (by rw [feed_part]; rfl) a5 x x.length c5 rfl hc5 _ (HT.out.below H5.out.aft HT.out.1) (by have := H5.out.wg; have := HT.out.1; omega) H5.out.row HAT5.out (fun _ b o he => (by have h1 : wr.heap.size ≤ b := (HL5.out _ he).1; have := HRR.out.row.lt; omega)) (by rw [feed_n]; have := HF1.out; simp [newHs] at this ⊢; omega)).mono ?_; rintro e w6 ⟨rfl, hb6, hr6⟩; rw [← feed_append] at hr6; have H6 : Hid (After w w6 ∧ RowIs w6 g 56 (hcs (feed newHs (flat ps k ++ x))) ∧ Own w6 B u4 (flat ps k) ∧ Own w6 wr.heap.size (.slice a5 x.length c5) x ∧ wr.heap.size ≤ w6.heap.size) := ⟨after_but H5.out.aft hb6 H5.out.wg, hr6, Own.keep H5.out.own (fun j hj => hb6.block j (World.ownsRow.lt H5.out.own j hj).2 (by have := (World.ownsRow.lt H5.out.own j hj).1; have := H5.out.gB; omega)), Own.keep HO5.out (fun j hj => hb6.block j (World.ownsRow.lt HO5.out j hj).2 (by have := (World.ownsRow.lt HO5.out j hj).1; have := HRR.out.row.lt; omega)), Nat.le_trans A5.size hb6.size⟩; clear hb6 hr6 pc0))
      have hgN : g < wr.heap.size := HRR.out.row.lt
      have hwN : w.heap.size ≤ wr.heap.size := HRR.out.aft.size
      have hBN : B ≤ wr.heap.size := HRR.out.BW
      have HLT : Hid (∀ j, u4.ownBlock = some j → B ≤ j ∧ j < wr.heap.size) := fun j hj => World.ownsRow.lt HRR.out.own j hj
      generalize wr.heap.size = N at *
      go_loopw [7] (fun i W => ∃ j : Nat, j ≤ x.length ∧ i = .int .i64 j ∧ Below N w6 W ∧ (0 < x.length → ∃ b, a5 = some ⟨b, 0, none⟩ ∧ N ≤ b ∧ Cp W b x.length)) (fun i _ => x.length - (intOf i).toNat)
      case atStart => exact ⟨0, by omega, rfl, Below.refl _ _, fun h => Cp.of H6.out.2.2.2.1 h⟩
      case round =>
        obtain ⟨j, hj, rfl, hB7, hcp⟩ := hrel
        by_cases hjl : j < x.length
        · obtain ⟨b, rfl, hbw, hcp⟩ := hcp (by omega)
          obtain ⟨cs, hrow, hcs⟩ := hcp.cells
          obtain ⟨y, hy⟩ := hcs j hjl
          have cj := hrow.cell hy
          have fj := hrow.frozen j
          obtain ⟨y', hy'⟩ : ∃ z : UInt8, ((y.toNat : Int) + 1) % 256 = (z.toNat : Int) := ⟨UInt8.ofNat ((y.toNat + 1) % 256), by simp [UInt8.toNat_ofNat']⟩
          have HN : Hid (Below N w6 (wr.setCell ⟨b, j, none⟩ (.int .u8 (y'.toNat : Int))) ∧ Cp (wr.setCell ⟨b, j, none⟩ (.int .u8 (y'.toNat : Int))) b x.length) := ⟨Below.setCell hB7 hbw _, hcp.set j y'⟩
          have bj : (j : Int) < (x.length : Int) := by omega
          clear hrow hcs hcp hB7
          go_wp2
          go_roundw
          case rel => exact ⟨j + 1, by omega, by go_num, HN.out.1, fun _ => ⟨b, rfl, hbw, HN.out.2⟩⟩
          case measure => simp [intOf]; omega
        · obtain rfl : j = x.length := by omega
          have aft7 : After w wr := Below.trans H6.out.1 (Below.mono hB7 hwN)
          have row7 : RowIs wr g 56 (hcs (feed newHs (flat ps k ++ x))) := H6.out.2.1.below hB7 hgN
          have own7 : Own wr B u4 (flat ps k) := Own.keep H6.out.2.2.1 (fun j hj => hB7.block j (HLT.out j hj).2)
          have hBW : B ≤ wr.heap.size := Nat.le_trans (Nat.le_trans hBN H6.out.2.2.2.2) hB7.size
          have pc1 := HPC.out _ aft7
          obtain ⟨fl, HFX⟩ : ∃ fl, Hid (flat ps k ++ x = fl) := ⟨_, rfl⟩
          obtain ⟨ll, HLL⟩ : ∃ ll, Hid (fl.length = ll) := ⟨_, rfl⟩
          rw [HFX.out] at HFL HF1 row7
          have HFB : Hid (fl.length ≤ 140737488351232) := Nat.le_trans HF1.out (by decide)
          have HNB : Hid ((feed newHs fl).n < 1152921504606846000) := by unfold Hid; rw [feed_n]; have := HF1.out; simp [newHs]; omega
          have HNN : Hid (Value.int .i64 ((feed newHs fl).n : Int) = .int .i64 (ll : Int)) := by unfold Hid; rw [feed_n, HLL.out]; simp [newHs]
          have H7 : Hid (After w wr ∧ RowIs wr g 56 (hcs (feed newHs fl)) ∧ Own wr B u4 (flat ps k)) := ⟨aft7, row7, own7⟩
          have hss : Hid ((Tryd.prog.info? 24).map (·.size) = some (c8 (sumP fl)).toArray.size) := by unfold Hid; simp only [List.size_toArray, c8_len, sumP_len]; exact size24
          have hs2 : Hid ((c8 (List.replicate 32 0)).toArray.size = (c8 (sumP fl)).toArray.size) := by unfold Hid; simp only [List.size_toArray, c8_len, sumP_len, List.length_replicate]
          have hgB := HRR.out.gB
          have hwg := HRR.out.wg
          clear aft7 row7 own7 hcp hB7
          go_wp2_with (first
            | (at_builtin; refine wpList_append_any rfl (.tmp 39) (.tmp 43) rfl B u4 (flat ps k) rfl H7.out.2.2 pa pc x x.length rfl rfl (HPB.out _ H7.out.1) (by have := HF1.out; rw [← HFX.out] at this; simp at this; omega) hBW ?_; intro v8 w8 ho8 hg8; have hob := fun j hj => (World.ownsRow.lt H7.out.2.2 j hj).1; rw [HFX.out] at ho8; have K8 : Hid (WR w w8 B g v8 fl) := ⟨below_grown H7.out.1 hg8 (fun j hj => (by have := hob j hj; omega)) H7.out.1.size, (by have h := H7.out.2.1; unfold RowIs at h ⊢; rw [hg8.block g (RowIs.lt H7.out.2.1) (fun he => by have := hob g he.symm; omega)]; exact h), ho8, hwg, hgB, Nat.le_trans hBW hg8.size⟩; obtain ⟨a8, cc8, hv8, hat8, hc8, hl8⟩ := ho8.at; rw [HLL.out] at hv8; subst hv8; have HAT8 := show Hid (BytesAt w8 a8 fl) from hat8; clear ho8 hg8 hob hat8 hl8 hc8)
            | (go_at_call 15; refine (hsum_any g (feed newHs fl) (by rw [feed_part]; rfl) _ (HT.out.below K8.out.aft HT.out.1) K8.out.row HNB.out).mono ?_; rintro e w9 ⟨rfl, hb9⟩)
            | (refine wpList_store_row rfl 24 (.tmp 8) (.tmp 46) rfl w9.heap.size (c8 (sumP fl)).toArray rfl rfl 24 (c8 (List.replicate 32 0)).toArray (RowIs.new w9 24 (c8 (List.replicate 32 0))) hss.out hs2.out (all_oneCell_toArray (c8_one _)) ?_; refine with_world (p := fun W => wpList _ _ _ _ _ W) (fun W => After w8 W ∧ RowIs W w9.heap.size 24 (c8 (sumP fl))) ⟨(row_new hb9 (sumP fl)).1, (row_new hb9 (sumP fl)).2.2⟩ ?_; intro w10 h10; have K10 := show Hid (WR w w10 B g (.slice a8 ll cc8) fl) from K8.out.after h10.1; have R8 : Hid (RowIs w10 w9.heap.size 24 (c8 (sumP fl))) := h10.2; have HA8 : Hid (∀ W, After w10 W → BytesAt W a8 fl) := fun W hW => HAT8.out.after (h10.1.trans hW); clear h10 hb9; generalize w9.heap.size = g8 at *))
          refine wp_region_noPanic ?_
          refine wp_region_held_drew (S := After w10) (by kernel_rfl) (After.drew (After.refl w10)) ?_
          intro hS0
          have K0 := K10.out.after hS0
          refine tk 0 47 (.agg (c8 (sumP fl)).toArray) (fuel := 16) rfl (by kernel_rfl) (by kernel_rfl) (by kernel_rfl) (by kernel_rfl) noPanic_false (by kernel_rfl) (fun W h => x_load24 (x := .tmp 8) (g := g8) (by kernel_rfl) (by kernel_rfl) (sumP_len _) (RowIs.below R8.out h (RowIs.lt R8.out))) hS0 ?_
          refine tk 1 48 (.slice a8 ll cc8) (fuel := 15) rfl (by kernel_rfl) (by kernel_rfl) (by kernel_rfl) (by kernel_rfl) noPanic_false (by kernel_rfl) (fun _ _ => by kernel_rfl) hS0 ?_
          refine tkCallA 2 49 11 #[(.slice a8 ll cc8)] (fun v _ => v = .agg (c8 (sumP fl)).toArray) (fuel := 14) rfl (by kernel_rfl) (by kernel_rfl) (by kernel_rfl) (fun _ => by kernel_rfl) hS0 ((refSum_len a8 cc8 fl ll HLL.out HFB.out _ (HA8.out _ hS0)).mono (fun _ _ h => ⟨_, h.1, rfl, h.2⟩)) ?_
          rintro _ z1 rfl z1s
          have K1 := K0.after z1s
          have S1 : After w10 z1 := hS0.trans z1s
          refine tk 3 50 (.bool false) (fuel := 13) rfl (by kernel_rfl) (by kernel_rfl) (by kernel_rfl) (by kernel_rfl) noPanic_false (by kernel_rfl) (fun _ _ => x_neq24 (x := .tmp 47) (y := .tmp 49) (l := sumP fl) (by kernel_rfl) (by kernel_rfl) (by kernel_rfl) (sumP_len _)) (After.refl z1) ?_
          refine tk 4 51 (.bool false) (fuel := 12) rfl (by kernel_rfl) (by kernel_rfl) (by kernel_rfl) (by kernel_rfl) noPanic_false (by kernel_rfl) (fun _ _ => by kernel_rfl) (After.refl z1) ?_
          refine tk 5 52 (.pointer (some ⟨g, 0, none⟩)) (fuel := 11) rfl (by kernel_rfl) (by kernel_rfl) (by kernel_rfl) (by kernel_rfl) noPanic_false (by kernel_rfl) (fun _ _ => by kernel_rfl) (After.refl z1) ?_
          refine tk 7 54 (.agg (c8 (sumP fl)).toArray) (fuel := 10) rfl (by kernel_rfl) (by kernel_rfl) (by kernel_rfl) (by kernel_rfl) noPanic_false (by kernel_rfl) (fun W h => x_load24 (x := .tmp 8) (g := g8) (by kernel_rfl) (by kernel_rfl) (sumP_len _) (RowIs.below R8.out (S1.trans h) (RowIs.lt R8.out))) (After.refl z1) ?_
          refine tkCallA 6 53 15 #[(.pointer (some ⟨g, 0, none⟩))] (fun v _ => v = .agg (c8 (sumP fl)).toArray) (fuel := 9) rfl (by kernel_rfl) (by kernel_rfl) (by kernel_rfl) (fun _ => by kernel_rfl) (After.refl z1) ((hsum_any g (feed newHs fl) (by rw [feed_part]; rfl) _ (HT.out.below K1.aft HT.out.1) K1.row HNB.out).mono (fun _ _ h => ⟨_, h.1, rfl, h.2⟩)) ?_
          rintro _ z2 rfl z2s
          have K2 := K1.after z2s
          refine tk 8 55 (.bool false) (fuel := 8) rfl (by kernel_rfl) (by kernel_rfl) (by kernel_rfl) (by kernel_rfl) noPanic_false (by kernel_rfl) (fun _ _ => x_neq24 (x := .tmp 53) (y := .tmp 54) (l := sumP fl) (by kernel_rfl) (by kernel_rfl) (by kernel_rfl) (sumP_len _)) (After.refl z2) ?_
          refine tk 9 56 (.bool false) (fuel := 7) rfl (by kernel_rfl) (by kernel_rfl) (by kernel_rfl) (by kernel_rfl) noPanic_false (by kernel_rfl) (fun _ _ => by kernel_rfl) (After.refl z2) ?_
          refine tk 10 57 (.bool false) (fuel := 6) rfl (by kernel_rfl) (by kernel_rfl) (by kernel_rfl) (by kernel_rfl) noPanic_false (by kernel_rfl) (fun _ _ => by kernel_rfl) (After.refl z2) ?_
          refine tk 11 58 (.pointer (some ⟨g, 0, none⟩)) (fuel := 5) rfl (by kernel_rfl) (by kernel_rfl) (by kernel_rfl) (by kernel_rfl) noPanic_false (by kernel_rfl) (fun _ _ => by kernel_rfl) (After.refl z2) ?_
          refine tk 13 60 (.slice a8 ll cc8) (fuel := 4) rfl (by kernel_rfl) (by kernel_rfl) (by kernel_rfl) (by kernel_rfl) noPanic_false (by kernel_rfl) (fun _ _ => by kernel_rfl) (After.refl z2) ?_
          refine tk 14 61 (.int .i64 (ll : Int)) (fuel := 3) rfl (by kernel_rfl) (by kernel_rfl) (by kernel_rfl) (by kernel_rfl) noPanic_false (by kernel_rfl) (fun _ _ => by kernel_rfl) (After.refl z2) ?_
          refine tkCallA 12 59 16 #[(.pointer (some ⟨g, 0, none⟩))] (fun v _ => v = .int .i64 (ll : Int)) (fuel := 2) rfl (by kernel_rfl) (by kernel_rfl) (by kernel_rfl) (fun _ => by kernel_rfl) (After.refl z2) ((len_any g (feed newHs fl) (by rw [feed_part]; rfl) _ K2.row).mono (fun _ _ h => ⟨_, h.1, HNN.out, h.2 ▸ Below.refl _ _⟩)) ?_
          rintro _ z3 rfl z3s
          have K3 := show Hid _ from K2.after z3s
          refine tk 15 62 (.bool false) (fuel := 1) rfl (by kernel_rfl) (by kernel_rfl) (by kernel_rfl) (by kernel_rfl) noPanic_false (by kernel_rfl) (fun _ _ => x_neqi (x := .tmp 59) (y := .tmp 61) (p := (ll : Int)) (by kernel_rfl) (by kernel_rfl) (by kernel_rfl)) (After.refl z3) ?_
          refine tk 16 63 (.bool false) (fuel := 0) rfl (by kernel_rfl) (by kernel_rfl) (by kernel_rfl) (by kernel_rfl) noPanic_false (by kernel_rfl) (fun _ _ => by kernel_rfl) (After.refl z3) ?_
          clear K0 K1 K2 hS0 z1s z2s z3s S1
          refine wpAnyH_done (by kernel_rfl) (NoPanic.normal ?_) _
          go_simp
          go_wp2
          go_roundw
          case rel => exact ⟨k + 1, by omega, by go_num, by rw [HFL.out]; exact K3.out⟩
          case measure => simp [intOf]; omega
    · obtain rfl : k = ps.length := by omega
      obtain ⟨fl, HFX⟩ : ∃ fl, Hid (flat ps ps.length = fl) := ⟨_, rfl⟩
      rw [HFX.out] at hR
      obtain ⟨ll, HLL⟩ : ∃ ll, Hid (fl.length = ll) := ⟨_, rfl⟩
      have HF1 : Hid (fl.length ≤ 1048576) := by unfold Hid; rw [← HFX.out]; exact Nat.le_trans (flat_le ps _) hsmall
      have HFB : Hid (fl.length ≤ 140737488351232) := Nat.le_trans HF1.out (by decide)
      have HNB : Hid ((feed newHs fl).n < 1152921504606846000) := by unfold Hid; rw [feed_n]; have := HF1.out; simp [newHs]; omega
      have HRR := show Hid (WR w wr B g u4 fl) from hR
      obtain ⟨a8, cc8, hv8, hat8, hc8, hl8⟩ := hR.own.at
      rw [HLL.out] at hv8
      have HAT8 := show Hid (BytesAt wr a8 fl) from hat8
      subst hv8
      have heq : ∀ W : World, (Op.equalIn 10000 24 (.agg (c8 (sumP fl)).toArray) (.agg (c8 (sumP fl)).toArray)).run Tryd.prog W = .ok true W := fun W => by
        have := eq24 (sumP fl) (sumP fl) (sumP_len _) (sumP_len _) W
        rw [decide_eq_true rfl] at this
        exact this
      clear hR hat8 hc8 hl8
      go_wp2_with (first
        | (go_at_call 15; refine (hsum_any g (feed newHs fl) (by rw [feed_part]; rfl) _ (HT.out.below HRR.out.aft HT.out.1) HRR.out.row HNB.out).mono ?_; rintro e z1 ⟨rfl, z1s⟩; rw [show sumOf (feed newHs fl) = sumP fl from rfl]; have B1 : After w z1 := HRR.out.aft.trans z1s)
        | (go_at_call 11; refine (refSum_len a8 cc8 fl ll HLL.out HFB.out _ (HAT8.out.after z1s)).mono ?_; rintro e z2 ⟨rfl, z2s⟩; have B2 : After w z2 := B1.trans z2s)
        | (go_at_call 12; refine (awake_any _ (HT.out.below B2 HT.out.1)).mono ?_; rintro e z3 ⟨rfl, z3s⟩; have B3 : After w z3 := B2.trans z3s))
      go_ret
      exact ⟨rfl, B3⟩
end Go.Proofs.YtpnhklefoafgkaaDoor
