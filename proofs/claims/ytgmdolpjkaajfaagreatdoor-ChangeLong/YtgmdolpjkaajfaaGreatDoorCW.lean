/-
  THE WALK OF stemmalaw08.ChangeLong.
-/
import Derived.Test.YtgmdolpjkaajfaaGreatDoorCK
import Derived.Test.YtgmdolpjkaajfaaGreatDoorOJ
namespace Go.Proofs.YtgmdolpjkaajfaaGreatDoor
open Go.RowKit Leb
/-- What the loop keeps: the box, the operations laid so far, nothing old turned. -/
structure LoI (w : World) (x : Chg) (d : Sl) (t : List UInt8) (k : Nat) (ao : Option Addr) (cap : Nat) (W : World) : Prop where
  box : RowIs W w.heap.size 25 (cc x d ⟨ao, k, cap⟩)
  own : OwnO W (w.heap.size + 1) (.slice ao k cap) (ops1 k t)
  aft : After w W
theorem LoI.at_ {w : World} {x : Chg} {d : Sl} {t : List UInt8} {k : Nat} {ao : Option Addr} {cap : Nat} {W : World} (h : LoI w x d t k ao cap W) : OpsAt W ao (ops1 k t) := by
  obtain ⟨a, c, e, h1, _⟩ := h.own.at
  simp only [Value.slice.injEq] at e
  obtain ⟨rfl, _, _⟩ := e
  exact h1
theorem LoI.ch {w : World} {x : Chg} {d p : Sl} {t : List UInt8} {k : Nat} {ao : Option Addr} {cap : Nat} {W : World} (h : LoI w x d t k ao cap W) (hx : ChAt w x d p) (ht : t.length ≤ 1024) (hk : k ≤ 256) : ChAt W (withO x (ops1 k t)) d ⟨ao, k, cap⟩ :=
  { deps := hx.deps.after h.aft, ops := h.at_, dn := hx.dn, pn := by show (ops1 k t).length = k; unfold ops1; simp, d32 := hx.d32, ok := fun y hy => by rw [(List.mem_replicate.1 hy).2]; exact op1_ok ht, s0 := hx.s0, s1 := hx.s1, t0 := hx.t0, t1 := hx.t1, al := hx.al, nl := hx.nl, db := hx.db, pb := by show k ≤ _; omega }
theorem LoI.start {w : World} {x : Chg} {d : Sl} {t : List UInt8} : LoI w x d t 0 none 0 (w.alloc (.cells (cc x d ⟨none, 0, 0⟩).toArray 25)) :=
  ⟨RowIs.new w 25 (cc x d ⟨none, 0, 0⟩), OwnO.nil _ _, after_alloc (After.refl w) _⟩
theorem LoI.next {w : World} {x : Chg} {d : Sl} {t : List UInt8} {k : Nat} {ao : Option Addr} {cap : Nat} {W W1 : World} (h : LoI w x d t k ao cap W) {ao1 : Option Addr} {cap1 : Nat} (ho : OwnO W1 (w.heap.size + 1) (.slice ao1 (k + 1) cap1) (ops1 k t ++ [op1 t])) (hg : (W.alloc (.cells (oc (op1 t)).toArray 46)).grownBy W1 (Value.slice ao k cap).ownBlock) :
    LoI w x d t (k + 1) ao1 cap1 (W1.setCell ⟨w.heap.size, 5, none⟩ (.slice ao1 (k + 1) cap1)) := by
  have hlt := h.box.lt
  have hb : Below (w.heap.size + 1) W W1 := below_grown (Below.alloc (Below.refl _ _) hlt _) hg (fun q hq => (World.ownsRow.lt h.own q hq).1) (by simp; omega)
  have ha : After w W1 := Below.trans h.aft (Below.mono hb (by omega))
  refine ⟨(h.box.below hb (by omega)).set 5 _, ?_, Below.setCell ha (Nat.le_refl _) _⟩
  have e : ops1 (k + 1) t = ops1 k t ++ [op1 t] := by unfold ops1; rw [List.replicate_succ']
  rw [e]
  exact ownsRow_setCell_below ho (by show w.heap.size < w.heap.size + 1; omega) _
theorem LoI.mid {w : World} {x : Chg} {d : Sl} {t : List UInt8} {k : Nat} {ao : Option Addr} {cap : Nat} {W W1 : World} {o : Obj} (h : LoI w x d t k ao cap W) (hg : (W.alloc o).grownBy W1 (Value.slice ao k cap).ownBlock) : RowIs W1 w.heap.size 25 (cc x d ⟨ao, k, cap⟩) :=
  h.box.below (below_grown (Below.alloc (Below.refl _ _) h.box.lt _) hg (fun q hq => (World.ownsRow.lt h.own q hq).1) (by have := h.box.lt; simp; omega)) (Nat.lt_succ_self _)
theorem ChAt.noOps {w W : World} {x : Chg} {d p : Sl} (h : ChAt w x d p) (ha : After w W) : ChAt W (withO x []) d ⟨none, 0, 0⟩ :=
  { deps := h.deps.after ha, ops := fun e => absurd rfl e, dn := h.dn, pn := rfl, d32 := h.d32, ok := fun y hy => (by cases hy), s0 := h.s0, s1 := h.s1, t0 := h.t0, t1 := h.t1, al := h.al, nl := h.nl, db := h.db, pb := by show 0 ≤ _; omega }
theorem x_mulk {o : Oper} {a : Act} {x y : Operand} {w : World} {p q r : Nat} (hop : o.op = .binOp .mul 3 x y 3) (hx : a.eval x = .int .i64 (p : Int)) (hy : a.eval y = .int .i64 (q : Int)) (hr : p * q = r) (hb : r < 4611686018427387904) : (execOp a.eval o).run Tryz.prog w = .ok (.value (.int .i64 (r : Int))) w := by
  have e : IntKind.i64.wrap ((p : Int) * (q : Int)) = (r : Int) := by rw [← Int.natCast_mul, hr, IntKind.wrap_i64]; omega
  unfold execOp
  simp only [hop, hx, hy]
  simp [go_sem, e]
theorem x_addk {o : Oper} {a : Act} {x y : Operand} {w : World} {p q r : Nat} (hop : o.op = .binOp .add 3 x y 3) (hx : a.eval x = .int .i64 (p : Int)) (hy : a.eval y = .int .i64 (q : Int)) (hr : r = p + q) (hb : r < 4611686018427387904) : (execOp a.eval o).run Tryz.prog w = .ok (.value (.int .i64 (r : Int))) w := by
  have e : IntKind.i64.wrap ((p : Int) + (q : Int)) = (r : Int) := by rw [IntKind.wrap_i64]; omega
  unfold execOp
  simp only [hop, hx, hy]
  simp [go_sem, e]
theorem str_size (t : List UInt8) : (strOf t).size = t.length := by simp [strOf, ByteArray.size]

set_option maxRecDepth 100000 in
set_option maxHeartbeats 2400000 in
theorem clong_short (x : Chg) (d p : Sl) (t : List UInt8) (T n : Nat) (w : World) (ht : SH.Tab w) (hT : (strOf t).size = T) (hs : T = 0 ∨ 1024 < T) :
    Calls Tryz.prog 8 #[cV x d p, .string (strOf t), .int .u16 (n : Int)] w fun e w' => e = .returned (.bool true) ∧ After w w' := by
  have HT : Hid (SH.Tab w) := ht
  clear ht
  obtain ⟨w0, hw0⟩ : ∃ w0, w.alloc (.cells (cc x d p).toArray 25) = w0 := ⟨_, rfl⟩
  have H0 : Hid (After w w0) := by rw [← hw0]; exact after_alloc (After.refl w) _
  rcases hs with rfl | hs
  · go_enter Tryz.func8, Tryz.ntmps8
    go_wp2_with (go_at_call 15; refine Calls.mono (awake_any w0 (Tab_after HT.out H0.out)) ?_; rintro e w1 ⟨rfl, ha⟩; have H1 := show Hid (After w w1) from After.trans H0.out ha; clear ha)
    go_ret
    exact ⟨rfl, H1.out⟩
  · have hz : ¬ (T : Int) = 0 := by omega
    have hz' : ((T : Int) == 0) = false := beq_eq_false_iff_ne.2 hz
    have hg : (1024 : Int) < (T : Int) := by omega
    go_enter Tryz.func8, Tryz.ntmps8
    go_wp2_with (go_at_call 15; refine Calls.mono (awake_any w0 (Tab_after HT.out H0.out)) ?_; rintro e w1 ⟨rfl, ha⟩; have H1 := show Hid (After w w1) from After.trans H0.out ha; clear ha)
    go_ret
    exact ⟨rfl, H1.out⟩

set_option maxRecDepth 100000 in
set_option maxHeartbeats 4000000 in
theorem clong_long (x : Chg) (d p : Sl) (t : List UInt8) (T n m : Nat) (w : World) (hx : ChAt w x d p) (ht : SH.Tab w) (hT : (strOf t).size = T) (h1 : 1 ≤ T) (h2 : T ≤ 1024) (hn : n < 65536) (hm : m = n % 257) :
    Calls Tryz.prog 8 #[cV x d p, .string (strOf t), .int .u16 (n : Int)] w fun e w' => e = .returned (.bool true) ∧ After w w' := by
  have HT : Hid (SH.Tab w ∧ ChAt w x d p ∧ t.length = T) := ⟨ht, hx, by rw [← hT, str_size]⟩
  have HM2 : Hid (m ≤ 256) := by show m ≤ 256; omega
  have hz : ¬ (T : Int) = 0 := by omega
  have hz' : ((T : Int) == 0) = false := beq_eq_false_iff_ne.2 hz
  have hg : ¬ (1024 : Int) < (T : Int) := by omega
  have hrem : Int.tmod (n : Int) 257 = (m : Int) := by rw [hm]; exact Int.ofNat_tmod n 257 |>.symm
  have hwr : IntKind.i64.wrap (n : Int) = (n : Int) := by rw [IntKind.wrap_i64]; omega
  have hwm : IntKind.i64.wrap (m : Int) = (m : Int) := by rw [IntKind.wrap_i64]; omega
  clear ht hx hm hn
  go_enter Tryz.func8, Tryz.ntmps8
  refine wp_seq_k (fun K0 hK => ?_)
  have HK0 := show Hid _ from hK
  clear hK
  go_wp2_with fail
  refine HK0.out _ _ ?_
  clear HK0
  refine wp_seq_k (fun K1 hK => ?_)
  have HK1 := show Hid _ from hK
  clear hK
  go_wp2_with fail
  refine HK1.out _ _ ?_
  clear HK1
  refine wp_seq_k (fun K2 hK => ?_)
  have HK2 := show Hid _ from hK
  clear hK
  go_wp2_with fail
  refine HK2.out _ _ ?_
  clear HK2
  refine wp_seq_k (fun KL hK => ?_)
  have HKL := show Hid _ from hK
  clear hK
  go_wp2_with fail
  go_loopw [7] (fun i wr => ∃ (k : Nat) (ao : Option Addr) (cap : Nat), k ≤ m ∧ i = .int .i64 k ∧ Hid (LoI w x d t k ao cap wr)) (fun i _ => m - (intOf i).toNat)
  case atStart => exact ⟨0, none, 0, by omega, rfl, LoI.start⟩
  case round =>
    obtain ⟨k, ao, cap, hk, rfl, HI⟩ := hrel
    by_cases hlt : k < m
    · have hki : (k : Int) < (m : Int) := by omega
      have hk256 : k < 256 := by have := HM2.out; omega
      have f5 := HI.out.box.cell (j := 5) rfl
      go_wp2_with (at_builtin; refine wpList_append_ops rfl _ _ rfl (w.heap.size + 1) _ (ops1 k t) rfl (HI.out.own.after (after_alloc (After.refl wr) _)) (some ⟨wr.heap.size, 0, none⟩) 1 [op1 t] 1 rfl rfl (ops_one wr (op1 t)) (by have := HM2.out; unfold ops1; rw [List.length_replicate]; omega) (by have := HI.out.box.lt; simp; omega) ?_; intro v6 w6 ho6 hg6 _; obtain ⟨ao6, cap6, he6, _, _⟩ := ho6.at; rw [show (ops1 k t ++ [op1 t]).length = k + 1 by unfold ops1; simp] at he6; subst he6; have HN := show Hid (LoI w x d t (k + 1) ao6 cap6 (w6.setCell ⟨w.heap.size, 5, none⟩ (.slice ao6 (k + 1) cap6))) from HI.out.next ho6 hg6; have hbx := HI.out.mid hg6; have g5 := hbx.cell (j := 5) rfl; have g5f := hbx.frozen 5; clear ho6 hg6 hbx)
      go_roundw
      case rel => exact ⟨k + 1, ao6, cap6, by omega, by go_num, HN.out⟩
      case measure => simp [intOf]; omega
    · obtain rfl : k = m := by omega
      have hki : ¬ (k : Int) < (k : Int) := by omega
      go_wp2_with fail
      refine HKL.out _ _ ?_
      clear HKL
      clear hrem hwr hwm hki hlt hk
      have HC : Hid (ChAt wr (withO x (ops1 k t)) d ⟨ao, k, cap⟩) := HI.out.ch HT.out.2.1 (by rw [HT.out.2.2]; exact h2) HM2.out
      obtain ⟨q, hq⟩ : ∃ q, chgE (withO x (ops1 k t)) = q := ⟨_, rfl⟩
      obtain ⟨B, hB⟩ : ∃ B, chgB (withO x (ops1 k t)) = B := ⟨_, rfl⟩
      obtain ⟨K, hK⟩ : ∃ K, B.length = K := ⟨_, rfl⟩
      have HQ : Hid (chgE (withO x (ops1 k t)) = q ∧ chgB (withO x (ops1 k t)) = B ∧ B.length = K) := ⟨hq, hB, hK⟩
      clear hq hB hK
      have HPUT : Hid (Calls Tryz.prog 17 #[.agg (cc x d ⟨ao, k, cap⟩).toArray] wr fun e w' => ∃ v, e = .returned (.tuple #[v, .int .i64 (q : Int)]) ∧ Own w' wr.heap.size v B ∧ After wr w') := cput_k (withO x (ops1 k t)) d ⟨ao, k, cap⟩ wr HC.out HQ.out.1 HQ.out.2.1
      refine wp_seq_k (fun K8 hK => ?_)
      have HK8 := show Hid _ from hK
      clear hK
      go_wp2_with (first
        | (go_at_call 17; refine Calls.mono HPUT.out ?_; rintro e w1 ⟨v1, rfl, ho, ha⟩; obtain ⟨a1, c1, he1, _, _, _⟩ := own_sl ho HQ.out.2.2; subst he1; have H1 := show Hid (After w w1 ∧ RowIs w1 w.heap.size 25 (cc x d ⟨ao, k, cap⟩)) from ⟨After.trans HI.out.aft ha, HI.out.box.below ha HI.out.box.lt⟩; clear ho ha)
        | (refine wpList_load_row rfl 25 (.tmp 3) rfl w.heap.size rfl 25 _ (0, 0) _ HI.out.box Tryz.underlying25 rfl (by kernel_rfl) ?_))
      refine HK8.out _ _ ?_
      clear HK8
      by_cases h0 : q = 0
      · subst h0
        obtain ⟨P, hP⟩ : ∃ P, k * T = P := ⟨_, rfl⟩
        have hBL : layC (withO x (ops1 k t)) = B := by
          have h := HQ.out.2.1
          unfold chgB at h
          rw [if_pos HQ.out.1] at h
          exact h
        have hK1 : K ≤ 65536 := by rw [← HQ.out.2.2, ← hBL]; exact CGood.len ⟨chgE_zero.1 HQ.out.1, HC.out.d32, HC.out.ok⟩
        have hK2 : P < K := by rw [← HQ.out.2.2, ← hBL, ← hP, ← HT.out.2.2]; exact long_more HM2.out (by rw [HT.out.2.2]; exact h2)
        have HP : Hid (k * T = P ∧ P < 4611686018427387904) := ⟨hP, by omega⟩
        have c1' : (K : Int) ≤ 65536 := by omega
        have c2' : (P : Int) < (K : Int) := by omega
        have g5 : w1.cell? ⟨w.heap.size, 5, none⟩ = some (.slice ao k cap) := H1.out.2.cell (j := 5) rfl
        clear hP hBL hK1 hK2 HPUT
        go_wp2_with (first
          | (go_at_call 15; refine Calls.mono (awake_any w1 (Tab_after HT.out.1 H1.out.1)) ?_; rintro e w2 ⟨rfl, ha⟩; have H2 := show Hid (After w w2) from After.trans H1.out.1 ha; clear ha)
          | (refine wpListG_of_run rfl (x_mulk (x := .tmp 51) (y := .tmp 53) (p := k) (q := T) (r := P) rfl rfl rfl HP.out.1 HP.out.2) ?_))
        go_ret
        exact ⟨rfl, H2.out⟩
      have fi : ¬ (q : Int) = 0 := by omega
      have fb : ((q : Int) == 0) = false := beq_eq_false_iff_ne.2 fi
      refine wp_seq_k (fun K9 hK => ?_)
      have HK9 := show Hid _ from hK
      clear hK
      go_wp2_with fail
      refine HK9.out _ _ ?_
      clear HK9
      by_cases h5 : q = 5
      · subst h5
        clear fi fb HPUT
        refine wp_seq_k (fun K11 hK => ?_)
        have HK11 := show Hid _ from hK
        clear hK
        go_wp2_with fail
        refine HK11.out _ _ ?_
        clear HK11
        obtain ⟨N, hN⟩ : ∃ N, (strOf x.note).size = N := ⟨_, rfl⟩
        have hl : 1024 < N ∨ 63536 < k * (T + 2) := by
          have h := long_bytes (t := t) HT.out.2.1.d32 HM2.out (by rw [HT.out.2.2]; exact h2) HQ.out.1
          rw [HT.out.2.2, ← str_size, hN] at h
          exact h
        have g4 : w1.cell? ⟨w.heap.size, 4, none⟩ = some (.string (strOf x.note)) := H1.out.2.cell (j := 4) rfl
        have g5 : w1.cell? ⟨w.heap.size, 5, none⟩ = some (.slice ao k cap) := H1.out.2.cell (j := 5) rfl
        by_cases hN1 : 1024 < N
        · have c1' : (1024 : Int) < (N : Int) := by omega
          clear hl
          go_wp2_with (go_at_call 15; refine Calls.mono (awake_any w1 (Tab_after HT.out.1 H1.out.1)) ?_; rintro e w2 ⟨rfl, ha⟩; have H2 := show Hid (After w w2) from After.trans H1.out.1 ha; clear ha)
          go_ret
          exact ⟨rfl, H2.out⟩
        · obtain ⟨T2, hT2⟩ : ∃ T2, T2 = T + 2 := ⟨_, rfl⟩
          obtain ⟨P, hP⟩ : ∃ P, k * T2 = P := ⟨_, rfl⟩
          have hP1 : 63536 < P := by rw [← hP, hT2]; rcases hl with h | h; exact absurd h hN1; exact h
          have hP2 : P ≤ 256 * 1026 := by rw [← hP]; exact Nat.mul_le_mul HM2.out (by omega)
          have HP : Hid (k * T2 = P ∧ P < 4611686018427387904 ∧ T2 = T + 2 ∧ T2 < 4611686018427387904) := ⟨hP, by omega, hT2, by omega⟩
          have c1' : ¬ (1024 : Int) < (N : Int) := by omega
          have c2' : (63536 : Int) < (P : Int) := by omega
          clear hP hT2 hl hP1 hP2
          go_wp2_with (first
            | (go_at_call 15; refine Calls.mono (awake_any w1 (Tab_after HT.out.1 H1.out.1)) ?_; rintro e w2 ⟨rfl, ha⟩; have H2 := show Hid (After w w2) from After.trans H1.out.1 ha; clear ha)
            | (refine wpListG_of_run rfl (x_mulk (x := .tmp 81) (y := .tmp 84) (p := k) (q := T2) (r := P) rfl rfl rfl HP.out.1 HP.out.2.1) ?_)
            | (refine wpListG_of_run rfl (x_addk (x := .tmp 83) (y := .const (.int .i64 2)) (p := T) (q := 2) (r := T2) rfl rfl rfl HP.out.2.2.1 HP.out.2.2.2) ?_))
          go_ret
          exact ⟨rfl, H2.out⟩
      · have f5i : ¬ (q : Int) = 5 := by omega
        have f5b : ((q : Int) == 5) = false := beq_eq_false_iff_ne.2 f5i
        have f5n : ((q : Int) != 5) = true := by simp [bne, f5b]
        have HO : Hid (chgE (withO x []) = q ∧ chgB (withO x []) = []) := by
          have h := long_other HM2.out (by rw [HT.out.2.2]; exact h2) HQ.out.1 h0 h5
          exact ⟨h, by unfold chgB; rw [if_neg (by rw [h]; exact h0)]⟩
        have g5 : w1.cell? ⟨w.heap.size, 5, none⟩ = some (.slice ao k cap) := H1.out.2.cell (j := 5) rfl
        have g5f := H1.out.2.frozen 5
        obtain ⟨w2, hw2⟩ : ∃ w2, w1.setCell ⟨w.heap.size, 5, none⟩ (.slice none 0 0) = w2 := ⟨_, rfl⟩
        have H2 : Hid (After w w2 ∧ RowIs w2 w.heap.size 25 (cc x d ⟨none, 0, 0⟩)) := by rw [← hw2]; exact ⟨Below.setCell H1.out.1 (p := ⟨w.heap.size, 5, none⟩) (Nat.le_refl _) _, H1.out.2.set 5 _⟩
        have HPUT2 : Hid (Calls Tryz.prog 17 #[.agg (cc x d ⟨none, 0, 0⟩).toArray] w2 fun e w' => ∃ v, e = .returned (.tuple #[v, .int .i64 (q : Int)]) ∧ Own w' w2.heap.size v [] ∧ After w2 w') := cput_k (withO x []) d ⟨none, 0, 0⟩ w2 (HT.out.2.1.noOps H2.out.1) HO.out.1 HO.out.2
        clear HPUT fi fb
        go_wp2_with (first
          | (go_at_call 15; refine Calls.mono (awake_any w3 (Tab_after HT.out.1 H3.out)) ?_; rintro e w4 ⟨rfl, ha⟩; have H4 := show Hid (After w w4) from After.trans H3.out ha; clear ha)
          | (go_at_call 17; refine Calls.mono HPUT2.out ?_; rintro e w3 ⟨v2, rfl, ho, ha⟩; obtain ⟨a2, c2, he2, _, _, _⟩ := own_sl ho (k := 0) rfl; subst he2; have H3 := show Hid (After w w3) from After.trans H2.out.1 ha; clear ho ha)
          | (refine wpList_load_row rfl 25 (.tmp 3) rfl w.heap.size rfl 25 _ (0, 0) _ H2.out.2 Tryz.underlying25 rfl (by kernel_rfl) ?_))
        go_ret
        exact ⟨rfl, H4.out⟩

theorem clong_any (x : Chg) (d p : Sl) (t : List UInt8) (n : Nat) (w : World) (hx : ChAt w x d p) (ht : SH.Tab w) (hn : n < 65536) :
    Calls Tryz.prog 8 #[cV x d p, .string (strOf t), .int .u16 (n : Int)] w fun e w' => e = .returned (.bool true) ∧ After w w' := by
  by_cases h : (strOf t).size = 0 ∨ 1024 < (strOf t).size
  · exact clong_short x d p t _ n w ht rfl h
  · exact clong_long x d p t _ n (n % 257) w hx ht rfl (by omega) (by omega) hn rfl

end Go.Proofs.YtgmdolpjkaajfaaGreatDoor
