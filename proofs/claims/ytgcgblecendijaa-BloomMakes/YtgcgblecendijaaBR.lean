/-
  THE WALK OF bloom.read: a filter's numbers and its bits.
-/
import Derived.Test.YtgcgblecendijaaBI
import Derived.Test.YtgcgblecendijaaLRefGets
namespace Go.Proofs.Ytgcgblecendijaa
open Go.RowKit Leb
/-- What is left behind k numbers, and the number there. -/
def rst (bs : List UInt8) : Nat → List UInt8
  | 0 => bs
  | k + 1 => (rst bs k).drop (guK (rst bs k))
def nmb (bs : List UInt8) (k : Nat) : Nat := guV (rst bs k)
theorem nmb_lt (bs : List UInt8) (k : Nat) : nmb bs k < 18446744073709551616 := guV_lt _
theorem rst_le (bs : List UInt8) : ∀ k, (rst bs k).length ≤ bs.length
  | 0 => Nat.le_refl _
  | k + 1 => by
    have := rst_le bs k
    show ((rst bs k).drop _).length ≤ _
    rw [List.length_drop]; omega
def rdR (bs : List UInt8) : Prt := ⟨nmb bs 0, nmb bs 1, nmb bs 2⟩
def rdOk (bs : List UInt8) : Prop := guE (rst bs 0) = 0 ∧ guE (rst bs 1) = 0 ∧ guE (rst bs 2) = 0 ∧ (rdR bs).Ok ∧ (rst bs 3).length = (rdR bs).size
open Classical in
noncomputable def rdP (bs : List UInt8) : Prt := if rdOk bs then rdR bs else ⟨0, 0, 0⟩
open Classical in
noncomputable def rdB (bs : List UInt8) : List UInt8 := if rdOk bs then rst bs 3 else []
theorem rd_no {bs : List UInt8} (h : ¬ rdOk bs) : rdP bs = ⟨0, 0, 0⟩ ∧ rdB bs = [] := by unfold rdP rdB; rw [if_neg h, if_neg h]; exact ⟨rfl, rfl⟩
theorem rd_yes {bs : List UInt8} (h : rdOk bs) : rdP bs = rdR bs ∧ rdB bs = rst bs 3 := by unfold rdP rdB; rw [if_pos h, if_pos h]; exact ⟨rfl, rfl⟩
def nums (bs : List UInt8) (k : Nat) : List Value := (List.range 3).map fun j => .int .u64 ((if j < k then nmb bs j else 0 : Nat) : Int)
theorem nums_set (bs : List UInt8) (k : Nat) (hk : k < 3) : (nums bs k).set k (.int .u64 (nmb bs k : Int)) = nums bs (k + 1) := by
  have : k = 0 ∨ k = 1 ∨ k = 2 := by omega
  rcases this with rfl | rfl | rfl <;> rfl
theorem nums_at (bs : List UInt8) (k : Nat) (hk : k < 3) : (nums bs k)[k]? = some (.int .u64 0) := by
  have : k = 0 ∨ k = 1 ∨ k = 2 := by omega
  rcases this with rfl | rfl | rfl <;> rfl
structure RdI (w : World) (bs : List UInt8) (k : Nat) (ao : Option Addr) (wr : World) : Prop where
  at_ : BytesAt wr ao (rst bs k)
  res : RowIs wr w.heap.size 41 (pc ⟨0, 0, 0⟩)
  num : RowIs wr (w.heap.size + 1) 62 (nums bs k)
  aft : After w wr
  low : ∀ a, ao = some a → rst bs k ≠ [] → a.block < w.heap.size
theorem RdI.after {w wr w' : World} {bs : List UInt8} {k : Nat} {ao : Option Addr} (h : RdI w bs k ao wr) (ha : After wr w') : RdI w bs k ao w' :=
  ⟨h.at_.after ha, h.res.below ha h.res.lt, h.num.below ha h.num.lt, h.aft.trans ha, h.low⟩
theorem RdI.next {w wr : World} {bs : List UInt8} {k cap : Nat} {ao : Option Addr} (h : RdI w bs k ao wr) (hk : k < 3) (hc : (rst bs k).length ≤ cap) : RdI w bs (k + 1) (cutAt ao (guK (rst bs k)) cap) (wr.setCell ⟨w.heap.size + 1, k, none⟩ (.int .u64 (nmb bs k : Int))) := by
  have hne : rst bs (k + 1) ≠ [] → rst bs k ≠ [] := fun h1 h2 => h1 (by show (rst bs k).drop _ = []; rw [h2]; simp)
  have hlow : ∀ a, cutAt ao (guK (rst bs k)) cap = some a → rst bs (k + 1) ≠ [] → a.block < w.heap.size := fun a ha hn => by
    obtain ⟨b, hb, e⟩ := cutAt_block ha
    rw [← e]; exact h.low b hb (hne hn)
  refine ⟨?_, h.res.other _ _ (by show w.heap.size ≠ w.heap.size + 1; omega), ?_, Below.setCell h.aft (p := ⟨w.heap.size + 1, k, none⟩) (by show w.heap.size ≤ w.heap.size + 1; omega) _, hlow⟩
  · refine BytesAt.below (B := w.heap.size) (h.at_.cut (guK (rst bs k)) cap hc) (Below.setCell (Below.refl _ _) (p := ⟨w.heap.size + 1, k, none⟩) (by show w.heap.size ≤ w.heap.size + 1; omega) _) hlow
  · rw [← nums_set bs k hk]; exact h.num.set k _
section
variable {o : Oper} {a : Act} {x y : Operand} {w : World}
theorem x_slk {ao : Option Addr} {n cap k j c : Nat} (hop : o.op = .slice 26 x (some y) none none) (hx : a.eval x = .slice ao n cap) (hy : a.eval y = .int .i64 (k : Int)) (hz : ao = none → n = 0) (hc : n ≤ cap) (hk : k ≤ n) (hj : n - k = j) (hcc : cap - k = c) : (execOp a.eval o).run Try.prog w = .ok (.value (.slice (cutAt ao k cap) j c)) w := by
  subst hj hcc
  unfold execOp
  simp only [hop, hx, hy, Option.map, Sem.run_bind, slice_from ao n cap k hz hc hk w, Result.andThen_ok]
  rfl
theorem x_idx62 {g k : Nat} (hop : o.op = .indexAddr 62 x y) (hx : a.eval x = .pointer (some ⟨g, 0, none⟩)) (hy : a.eval y = .int .i64 (k : Int)) (hk : k < 3) : (execOp a.eval o).run Try.prog w = .ok (.value (.pointer (some ⟨g, k, none⟩))) w := by
  have : k = 0 ∨ k = 1 ∨ k = 2 := by omega
  unfold execOp
  simp only [hop, hx, hy]
  rcases this with rfl | rfl | rfl <;> simp [go_sem]
theorem x_st39 {g k : Nat} {u : Value} {n : Int} (hop : o.op = .store 39 x y) (hx : a.eval x = .pointer (some ⟨g, k, none⟩)) (hy : a.eval y = .int .u64 n) (hc : w.cell? ⟨g, k, none⟩ = some u) (hf : w.frozen? ⟨g, k, none⟩ = false) : (execOp a.eval o).run Try.prog w = .ok .skip (w.setCell ⟨g, k, none⟩ (.int .u64 n)) := by
  unfold execOp
  simp only [hop, hx, hy]
  simp [go_sem, hc, hf, Instr.storeAt, Instr.sureAddr]
end
section
variable {ops : Array Oper} {Q : Exit → Act → World → Prop} {fuel : Nat} {listed : Array Bool} {a : Act} {w : World} {oi : Oper}
/-- Number i, which alone may come up, stores. -/
theorem tkStores (i : Nat) (w' : World) (hi : ops[i]? = some oi) (hd : oi.dst = none) (hr : Region.ready .any ops listed = [i]) (hw : Region.wanted oi (yielded ops a.tmps) = true) (hrun : (execOp a.eval oi).run Try.prog w = .ok .skip w')
    (h : wpAnyH Try.prog .any ops Q (fun _ => True) fuel (listed.setIfInBounds i true) (a.put none undef) w') : wpAnyH Try.prog .any ops Q (fun _ => True) (fuel + 1) listed a w :=
  wpAnyH_all hr (by simp) (fun j hj => by
    obtain rfl : j = i := by simpa using hj
    refine wpOp_step hi (fun K' hK => ?_)
    rw [if_pos hw]
    unfold Oper.wp
    rw [hrun, Oper.upon_skip, hd]
    exact hK _ _ ⟨trivial, h⟩)
end
theorem ret41t {fn : Func} {p q : Tmp} (h : fn.results = #[.cell p 41, .tmp q]) (tmps : Array Value) (w : World) (g : Nat) (r : Prt) (hp : tmps.getD p undef = .pointer (some ⟨g, 0, none⟩)) (hg : RowIs w g 41 (pc r)) (v : Value) (hv : tmps.getD q undef = v) :
    (results fn tmps).run Try.prog w = .ok (.tuple #[pV r, v]) w := by
  have hp' : tmps[p]?.getD undef = .pointer (some ⟨g, 0, none⟩) := by simpa using hp
  have hv' : tmps[q]?.getD undef = v := by simpa using hv
  simp [results, h, hp', hv', asAddr, run_loadVar_row w g 41 41 (pc r).toArray (0, 0) _ hg Try.underlying41 rfl (size_pc r)]
theorem all41 (p : Prt) : (pc p).toArray.all (·.oneCell') = true := by simp [Value.oneCell']
/-- What read tells. -/
def RdPost (w : World) (bs : List UInt8) (e : Ending) (w' : World) : Prop := ∃ (a : Option Addr) (k c : Nat), e = .returned (.tuple #[pV (rdP bs), .slice a k c]) ∧ BytesAt w' a (rdB bs) ∧ (rdB bs).length = k ∧ k ≤ c ∧ (a = none → k = 0) ∧ After w w'
theorem RdPost.none {w w' : World} {bs : List UInt8} (h : ¬ rdOk bs) (ha : After w w') : RdPost w bs (.returned (.tuple #[pV ⟨0, 0, 0⟩, .slice .none 0 0])) w' := by
  obtain ⟨h1, h2⟩ := rd_no h
  exact ⟨.none, 0, 0, by rw [h1], by rw [h2]; exact fun e => absurd rfl e, by rw [h2]; rfl, Nat.le_refl _, fun _ => rfl, ha⟩

set_option maxRecDepth 100000 in
set_option maxHeartbeats 4000000 in
theorem read_any (ao : Option Addr) (n cap : Nat) (bs : List UInt8) (hl : bs.length = n) (hcap : n ≤ cap) (hbig : n ≤ 1152921504606846976) (w : World) (hat : BytesAt w ao bs) :
    Calls Try.prog 26 #[.slice ao n cap] w (RdPost w bs) := by
  have hnone : ao = none → n = 0 := fun e => by subst e; rw [← hl, bytesAt_none hat]; rfl
  have hlow : ∀ a, ao = some a → bs ≠ [] → a.block < w.heap.size := fun a ha hne => by
    obtain ⟨b, o, e, hc⟩ := hat hne
    rw [e] at ha; cases ha
    exact World.block_lt_of_cell? w _ (hc 0 (List.length_pos_iff.2 hne))
  obtain ⟨w0, hw0⟩ : ∃ w0, (w.alloc (.cells #[.int .u64 0, .int .u64 0, .int .u64 0] 41)).alloc (.cells #[.int .u64 0, .int .u64 0, .int .u64 0] 62) = w0 := ⟨_, rfl⟩
  have H0 : Hid (RdI w bs 0 ao w0) := by
    have hA : After w w0 := by rw [← hw0]; exact after_alloc (after_alloc (After.refl w) _) _
    refine ⟨hat.after hA, by rw [← hw0]; exact (RowIs.new w 41 (pc ⟨0, 0, 0⟩)).alloc _, ?_, hA, hlow⟩
    have h := RowIs.new (w.alloc (.cells #[.int .u64 0, .int .u64 0, .int .u64 0] 41)) 62 [.int .u64 0, .int .u64 0, .int .u64 0]
    have e : nums bs 0 = [.int .u64 0, .int .u64 0, .int .u64 0] := rfl
    rw [← hw0, e]; simpa using h
  have HL : Hid (bs.length = n ∧ n ≤ 1152921504606846976) := ⟨hl, hbig⟩
  clear hat hlow hbig
  go_enter Try.func26, Try.ntmps26
  go_wp2_with fail
  try simp only [hw0]
  clear hw0
  go_loopw [0, 10] (fun sb i wr => ∃ (k m c : Nat) (a : Option Addr), k ≤ 3 ∧ i = .int .i64 k ∧ sb = .slice a m c ∧ m ≤ c ∧ (a = none → m = 0) ∧ Hid ((rst bs k).length = m) ∧ Hid (∀ j, j < k → guE (rst bs j) = 0) ∧ Hid (RdI w bs k a wr)) (fun _ i _ => 3 - (intOf i).toNat)
  case atStart => exact ⟨0, n, cap, ao, by omega, rfl, rfl, hcap, hnone, hl, fun j hj => by omega, H0.out⟩
  case round =>
    obtain ⟨k, m, c, a, hk, rfl, rfl, hmc, hmn, HM, HE, HI⟩ := hrel
    clear hnone hcap hl
    by_cases hlt : k < 3
    · have hki : (k : Int) < 3 := by omega
      obtain ⟨v, hv⟩ : ∃ v, guV (rst bs k) = v := ⟨_, rfl⟩
      obtain ⟨u, hu⟩ : ∃ v, guK (rst bs k) = v := ⟨_, rfl⟩
      obtain ⟨q, hq⟩ : ∃ v, guE (rst bs k) = v := ⟨_, rfl⟩
      have hul : u ≤ m := by rw [← hu, ← HM.out]; exact guK_le _
      have HC : Hid (Calls Try.prog 35 #[.slice a m c] wr fun e w' => e = .returned (.tuple #[.int .u64 (v : Int), .int .i64 (u : Int), .int .i64 (q : Int)]) ∧ Below wr.heap.size wr w') := by
        have := LB.gu_0 a c (by rw [HM.out]; exact hmc) wr HI.out.at_ hv hu hq
        rw [HM.out] at this; exact this
      have HV : Hid (guV (rst bs k) = v ∧ guK (rst bs k) = u ∧ guE (rst bs k) = q ∧ u ≤ m) := ⟨hv, hu, hq, hul⟩
      clear hv hu hq hul
      by_cases hq0 : q = 0
      · subst hq0
        go_wp2_with (go_at_call 35; refine Calls.mono HC.out ?_; rintro e w1 ⟨rfl, ha⟩; have HI1 := show Hid (RdI w bs k a w1) from HI.out.after ha; clear ha)
        obtain ⟨j2, hj2⟩ : ∃ j, m - u = j := ⟨_, rfl⟩
        obtain ⟨c2, hc2⟩ : ∃ j, c - u = j := ⟨_, rfl⟩
        have hcell := HI1.out.num.cell (nums_at bs k hlt)
        have hfr := HI1.out.num.frozen k
        refine wp_region_noPanic ?_
        refine wp_region_held_drew (S := fun _ => True) (by kernel_rfl) trivial ?_
        intro hS
        refine tk 0 22 (.int .i64 (k : Int)) (fuel := 7) rfl (by kernel_rfl) (by kernel_rfl) (by kernel_rfl) (by kernel_rfl) noPanic_false (by kernel_rfl) (fun _ _ => by kernel_rfl) hS ?_
        refine tk 1 23 (.int .u64 (v : Int)) (fuel := 6) rfl (by kernel_rfl) (by kernel_rfl) (by kernel_rfl) (by kernel_rfl) noPanic_false (by kernel_rfl) (fun _ _ => by kernel_rfl) hS ?_
        refine tk 2 24 (.slice a m c) (fuel := 5) rfl (by kernel_rfl) (by kernel_rfl) (by kernel_rfl) (by kernel_rfl) noPanic_false (by kernel_rfl) (fun _ _ => by kernel_rfl) hS ?_
        refine tk 3 25 (.int .i64 (u : Int)) (fuel := 4) rfl (by kernel_rfl) (by kernel_rfl) (by kernel_rfl) (by kernel_rfl) noPanic_false (by kernel_rfl) (fun _ _ => by kernel_rfl) hS ?_
        refine tk 4 26 (.slice (cutAt a u c) j2 c2) (fuel := 3) rfl (by kernel_rfl) (by kernel_rfl) (by kernel_rfl) (by kernel_rfl) noPanic_false (by kernel_rfl) (fun W _ => x_slk (x := .tmp 24) (y := .tmp 25) (ao := a) (n := m) (cap := c) (k := u) (by kernel_rfl) (by kernel_rfl) (by kernel_rfl) hmn hmc HV.out.2.2.2 hj2 hc2) hS ?_
        refine tk 5 27 (.pointer (some ⟨w.heap.size + 1, k, none⟩)) (fuel := 2) rfl (by kernel_rfl) (by kernel_rfl) (by kernel_rfl) (by kernel_rfl) noPanic_false (by kernel_rfl) (fun W _ => x_idx62 (x := .tmp 4) (y := .tmp 22) (g := w.heap.size + 1) (k := k) (by kernel_rfl) (by kernel_rfl) (by kernel_rfl) hlt) hS ?_
        refine tkStores 6 (w1.drew.setCell ⟨w.heap.size + 1, k, none⟩ (.int .u64 (v : Int))) (fuel := 1) rfl (by kernel_rfl) (by kernel_rfl) (by kernel_rfl) (x_st39 (x := .tmp 27) (y := .tmp 23) (by kernel_rfl) (by kernel_rfl) (by kernel_rfl) hcell hfr) ?_
        refine tk 7 0 (.slice (cutAt a u c) j2 c2) (fuel := 0) rfl (by kernel_rfl) (by kernel_rfl) (by kernel_rfl) (by kernel_rfl) noPanic_false (by kernel_rfl) (fun _ _ => by kernel_rfl) trivial ?_
        refine wpAnyH_done (by kernel_rfl) (NoPanic.normal ?_) _
        have HN : Hid (RdI w bs (k + 1) (cutAt a u c) (w1.drew.setCell ⟨w.heap.size + 1, k, none⟩ (.int .u64 (v : Int)))) := by
          have h := (HI1.out.after (After.drew (After.refl w1))).next (cap := c) hlt (by rw [HM.out]; exact hmc)
          unfold nmb at h
          rw [HV.out.1, HV.out.2.1] at h; exact h
        have HM2 : Hid ((rst bs (k + 1)).length = j2) := by
          show ((rst bs k).drop _).length = j2
          rw [List.length_drop, HM.out, HV.out.2.1, hj2]
        have HE2 : Hid (∀ j, j < k + 1 → guE (rst bs j) = 0) := fun j hj => by
          rcases Nat.lt_or_ge j k with h | h
          · exact HE.out j h
          · rw [show j = k by omega]; exact HV.out.2.2.1
        have hul := HV.out.2.2.2
        have h1 : j2 ≤ c2 := by omega
        have h2 : cutAt a u c = none → j2 = 0 := fun e => by
          have : a = none := by
            unfold cutAt at e
            split at e
            · exact e
            · cases a with
              | none => rfl
              | some b => cases e
          have := hmn this; omega
        clear hcell hfr hj2 hc2 hS hul
        go_simp
        go_wp2
        go_roundw
        case rel => exact ⟨k + 1, j2, c2, cutAt a u c, by omega, by go_num, rfl, h1, h2, HM2.out, HE2.out, HN.out⟩
        case measure => simp [intOf]; omega
      · have fi : ¬ (q : Int) = 0 := by omega
        have fb : ((q : Int) == 0) = false := beq_eq_false_iff_ne.2 fi
        have fn : ((q : Int) != 0) = true := by simp [bne, fb]
        have HNO : Hid (¬ rdOk bs) := fun h => by
          have hz := HV.out.2.2.1
          have : k = 0 ∨ k = 1 ∨ k = 2 := by omega
          rcases this with rfl | rfl | rfl
          · rw [h.1] at hz; exact hq0 hz.symm
          · rw [h.2.1] at hz; exact hq0 hz.symm
          · rw [h.2.2.1] at hz; exact hq0 hz.symm
        go_wp2_with (first
          | (go_at_call 35; refine Calls.mono HC.out ?_; rintro e w1 ⟨rfl, ha⟩; have HI1 := show Hid (RdI w bs k a w1) from HI.out.after ha; clear ha)
          | (refine wpList_store_row rfl 41 (.tmp 2) (.tmp 21) rfl w.heap.size (pc ⟨0, 0, 0⟩).toArray rfl rfl 41 _ HI1.out.res (size_pc _) rfl (all41 _) ?_))
        refine bodyPost_ret (ret41t Try.results26 _ _ w.heap.size ⟨0, 0, 0⟩ rfl (HI1.out.res.setRow (pc ⟨0, 0, 0⟩)) _ rfl) rfl ?_
        exact RdPost.none HNO.out (Below.row HI1.out.aft (Nat.le_refl _) _)
    · obtain rfl : k = 3 := by omega
      have hki : ¬ (3 : Int) < 3 := by omega
      obtain ⟨n0, hn0⟩ : ∃ v, nmb bs 0 = v := ⟨_, rfl⟩
      obtain ⟨n1, hn1⟩ : ∃ v, nmb bs 1 = v := ⟨_, rfl⟩
      obtain ⟨n2, hn2⟩ : ∃ v, nmb bs 2 = v := ⟨_, rfl⟩
      have HR : Hid (rdR bs = ⟨n0, n1, n2⟩) := by unfold Hid rdR; rw [hn0, hn1, hn2]
      have hnm : nums bs 3 = [.int .u64 (n0 : Int), .int .u64 (n1 : Int), .int .u64 (n2 : Int)] := by
        rw [← hn0, ← hn1, ← hn2]; rfl
      have g0 := HI.out.num.cell (j := 0) (by rw [hnm]; rfl)
      have g1 := HI.out.num.cell (j := 1) (by rw [hnm]; rfl)
      have g2 := HI.out.num.cell (j := 2) (by rw [hnm]; rfl)
      obtain ⟨w4, hw4⟩ : ∃ w4, (wr.alloc (.cells #[.int .u64 0, .int .u64 0, .int .u64 0] 41)).setRow wr.heap.size (pc ⟨n0, n1, n2⟩).toArray = w4 := ⟨_, rfl⟩
      have H4 : Hid (After wr w4 ∧ RowIs w4 wr.heap.size 41 (pc ⟨n0, n1, n2⟩)) := by
        rw [← hw4]
        exact ⟨Below.row (after_alloc (After.refl wr) _) (Nat.le_refl _) _, (RowIs.new wr 41 (pc ⟨0, 0, 0⟩)).setRow _⟩
      clear hn0 hn1 hn2 hnm
      by_cases hmay : (Prt.mk n0 n1 n2).may = true
      · have hok := Prt.may_ok.1 hmay
        have HOK : Hid ((Prt.mk n0 n1 n2).Ok) := hok
        obtain ⟨z, hz⟩ : ∃ z, (Prt.mk n0 n1 n2).size = z := ⟨_, rfl⟩
        have HZ : Hid ((Prt.mk n0 n1 n2).size = z) := hz
        have HMB : Hid (m < 18446744073709551616) := by have := rst_le bs 3; have := HL.out; rw [HM.out] at *; show m < _; omega
        have C1 : Hid (∀ W, Calls Try.prog 36 #[pV ⟨n0, n1, n2⟩] W fun e w' => e = .returned (.bool true) ∧ After W w') := fun W => (may_any ⟨n0, n1, n2⟩ W).mono (fun e w' ⟨h1, h2⟩ => ⟨by rw [h1, hmay], h2⟩)
        have C2 : Hid (∀ W, Calls Try.prog 20 #[pV ⟨n0, n1, n2⟩] W fun e w' => e = .returned (.int .u64 (z : Int)) ∧ After W w') := fun W => (size_any ⟨n0, n1, n2⟩ (by have := HOK.out.mul; omega) W).mono (fun e w' ⟨h1, h2⟩ => ⟨by rw [h1, HZ.out], h2⟩)
        clear hz hok hmay
        by_cases hmz : m = z
        · subst hmz
          have HY : Hid (rdOk bs) := ⟨HE.out 0 (by omega), HE.out 1 (by omega), HE.out 2 (by omega), by rw [HR.out]; exact HOK.out, by rw [HR.out, HZ.out]; exact HM.out⟩
          go_wp2_with (first
            | (refine wpList_store_row rfl 41 (.tmp 9) (.tmp 35) rfl wr.heap.size (pc ⟨n0, n1, n2⟩).toArray rfl rfl 41 _ (RowIs.new wr 41 (pc ⟨0, 0, 0⟩)) (size_pc _) rfl (all41 _) ?_; simp only [hw4])
            | (go_at_call 36; refine Calls.mono (C1.out w4) ?_; rintro e w5 ⟨rfl, ha⟩; have H5 := show Hid (After w4 w5) from ha; clear ha)
            | (go_at_call 20; refine Calls.mono (C2.out w5) ?_; rintro e w6 ⟨rfl, ha⟩; have H6 := show Hid (After w4 w6) from H5.out.trans ha; clear ha)
            | (refine wpListG_of_run rfl (x_conv339 (x := .tmp 41) (p := m) rfl rfl HMB.out) ?_)
            | (have _u := H6.out; clear _u; refine wpList_of_run rfl (x_ld41 (x := .tmp 9) (g := wr.heap.size) (p := ⟨n0, n1, n2⟩) rfl rfl (H4.out.2.below H6.out H4.out.2.lt)) ?_)
            | (have _u := H5.out; clear _u; refine wpListG_of_run rfl (x_ld41 (x := .tmp 9) (g := wr.heap.size) (p := ⟨n0, n1, n2⟩) rfl rfl (H4.out.2.below H5.out H4.out.2.lt)) ?_)
            | (refine wpList_of_run rfl (x_ld41 (x := .tmp 9) (g := wr.heap.size) (p := ⟨n0, n1, n2⟩) rfl rfl H4.out.2) ?_)
            | (have _u := H6.out; clear _u; refine wpList_store_row rfl 41 (.tmp 2) (.tmp 48) rfl w.heap.size (pc ⟨n0, n1, n2⟩).toArray rfl rfl 41 _ ((HI.out.after (H4.out.1.trans H6.out)).res) (size_pc _) rfl (all41 _) ?_))
          have HI6 := HI.out.after (H4.out.1.trans H6.out)
          refine bodyPost_ret (ret41t Try.results26 _ _ w.heap.size ⟨n0, n1, n2⟩ rfl (HI6.res.setRow (pc ⟨n0, n1, n2⟩)) _ rfl) rfl ?_
          obtain ⟨y1, y2⟩ := rd_yes HY.out
          refine ⟨a, m, c, by rw [y1, HR.out]; rfl, ?_, by rw [y2]; exact HM.out, hmc, hmn, Below.row HI6.aft (Nat.le_refl _) _⟩
          rw [y2]
          exact BytesAt.below (B := w.heap.size) HI6.at_ (Below.row (Below.refl _ _) (Nat.le_refl _) _) HI6.low
        · have HNO : Hid (¬ rdOk bs) := fun h => by
            have h5 := h.2.2.2.2
            rw [HR.out, HZ.out, HM.out] at h5; exact hmz h5
          have fi : ¬ (m : Int) = (z : Int) := by omega
          have fb : ((m : Int) == (z : Int)) = false := beq_eq_false_iff_ne.2 fi
          have fn : ((m : Int) != (z : Int)) = true := by simp [bne, fb]
          go_wp2_with (first
            | (refine wpList_store_row rfl 41 (.tmp 9) (.tmp 35) rfl wr.heap.size (pc ⟨n0, n1, n2⟩).toArray rfl rfl 41 _ (RowIs.new wr 41 (pc ⟨0, 0, 0⟩)) (size_pc _) rfl (all41 _) ?_; simp only [hw4])
            | (go_at_call 36; refine Calls.mono (C1.out w4) ?_; rintro e w5 ⟨rfl, ha⟩; have H5 := show Hid (After w4 w5) from ha; clear ha)
            | (go_at_call 20; refine Calls.mono (C2.out w5) ?_; rintro e w6 ⟨rfl, ha⟩; have H6 := show Hid (After w4 w6) from H5.out.trans ha; clear ha)
            | (refine wpListG_of_run rfl (x_conv339 (x := .tmp 41) (p := m) rfl rfl HMB.out) ?_)
            | (have _u := H5.out; clear _u; refine wpListG_of_run rfl (x_ld41 (x := .tmp 9) (g := wr.heap.size) (p := ⟨n0, n1, n2⟩) rfl rfl (H4.out.2.below H5.out H4.out.2.lt)) ?_)
            | (refine wpList_of_run rfl (x_ld41 (x := .tmp 9) (g := wr.heap.size) (p := ⟨n0, n1, n2⟩) rfl rfl H4.out.2) ?_)
            | (have _u := H6.out; clear _u; refine wpList_store_row rfl 41 (.tmp 2) (.tmp 47) rfl w.heap.size (pc ⟨0, 0, 0⟩).toArray rfl rfl 41 _ ((HI.out.after (H4.out.1.trans H6.out)).res) (size_pc _) rfl (all41 _) ?_))
          have HI6 := HI.out.after (H4.out.1.trans H6.out)
          refine bodyPost_ret (ret41t Try.results26 _ _ w.heap.size ⟨0, 0, 0⟩ rfl (HI6.res.setRow (pc ⟨0, 0, 0⟩)) _ rfl) rfl ?_
          exact RdPost.none HNO.out (Below.row HI6.aft (Nat.le_refl _) _)
      · have hmf : (Prt.mk n0 n1 n2).may = false := by simpa using hmay
        have C1 : Hid (∀ W, Calls Try.prog 36 #[pV ⟨n0, n1, n2⟩] W fun e w' => e = .returned (.bool false) ∧ After W w') := fun W => (may_any ⟨n0, n1, n2⟩ W).mono (fun e w' ⟨h1, h2⟩ => ⟨by rw [h1, hmf], h2⟩)
        have HNO : Hid (¬ rdOk bs) := fun h => by
          have h4 := h.2.2.2.1
          rw [HR.out] at h4
          exact hmay (Prt.may_ok.2 h4)
        clear hmay hmf
        go_wp2_with (first
          | (refine wpList_store_row rfl 41 (.tmp 9) (.tmp 35) rfl wr.heap.size (pc ⟨n0, n1, n2⟩).toArray rfl rfl 41 _ (RowIs.new wr 41 (pc ⟨0, 0, 0⟩)) (size_pc _) rfl (all41 _) ?_; simp only [hw4])
          | (go_at_call 36; refine Calls.mono (C1.out w4) ?_; rintro e w5 ⟨rfl, ha⟩; have H5 := show Hid (After w4 w5) from ha; clear ha)
          | (refine wpList_of_run rfl (x_ld41 (x := .tmp 9) (g := wr.heap.size) (p := ⟨n0, n1, n2⟩) rfl rfl H4.out.2) ?_)
          | (have _u := H5.out; clear _u; refine wpList_store_row rfl 41 (.tmp 2) (.tmp 47) rfl w.heap.size (pc ⟨0, 0, 0⟩).toArray rfl rfl 41 _ ((HI.out.after (H4.out.1.trans H5.out)).res) (size_pc _) rfl (all41 _) ?_))
        have HI6 := HI.out.after (H4.out.1.trans H5.out)
        refine bodyPost_ret (ret41t Try.results26 _ _ w.heap.size ⟨0, 0, 0⟩ rfl (HI6.res.setRow (pc ⟨0, 0, 0⟩)) _ rfl) rfl ?_
        exact RdPost.none HNO.out (Below.row HI6.aft (Nat.le_refl _) _)

end Go.Proofs.Ytgcgblecendijaa
