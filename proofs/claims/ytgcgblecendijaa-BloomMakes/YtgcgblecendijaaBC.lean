/-
  THE WALKS OF bloom.Check AND bloom.Many.
-/
import Derived.Test.YtgcgblecendijaaBR
import Derived.Laws.StructEq
namespace Go.Proofs.Ytgcgblecendijaa
open Go.RowKit Leb
theorem rd_zero {bs : List UInt8} : rdP bs = ⟨0, 0, 0⟩ ↔ ¬ rdOk bs := by
  refine ⟨fun h hk => ?_, fun h => (rd_no h).1⟩
  rw [(rd_yes hk).1] at h
  have := hk.2.2.2.1.bits
  rw [h] at this
  exact absurd this (by decide)
open Classical in
noncomputable def ckE (bs : List UInt8) : Nat := if rdOk bs then 0 else 4
theorem eq41 (m s b : Nat) (w : World) : (Op.equalIn 10000 41 (pV ⟨m, s, b⟩) (pV ⟨0, 0, 0⟩)).run Try.prog w = .ok (decide (Prt.mk m s b = ⟨0, 0, 0⟩)) w := by
  have u39 := Try.underlying39
  have hS : Try.prog.underlying 41 = some (.struct (Try.prog.fieldsOf 41)) := by kernel_rfl
  have hp : Try.prog.stoodInHeld 41 = false := by kernel_rfl
  have a39 : ∀ w, (isAgg 39).run Try.prog w = .ok false w := fun w => by unfold isAgg; rw [Sem.run_bind, run_underlying u39 w]; rfl
  rw [show (10000 : Nat) = 9999 + 1 from rfl, run_equalIn_agg w 9999 41 _ _ hS hp]
  simp only [Program.fieldsOf, Try.underlying41]
  go_simp
  by_cases h1 : m = 0 <;> by_cases h2 : s = 0 <;> by_cases h3 : b = 0 <;> simp [h1, h2, h3]
theorem x_eq41 {o : Oper} {a : Act} {x y : Operand} {w : World} {m s b : Nat} {t : Bool} (hop : o.op = .binOp .eql 41 x y 41) (hx : a.eval x = pV ⟨m, s, b⟩) (hy : a.eval y = pV ⟨0, 0, 0⟩) (ht : decide (Prt.mk m s b = ⟨0, 0, 0⟩) = t) : (execOp a.eval o).run Try.prog w = .ok (.value (.bool t)) w := by
  have he := eq41 m s b w
  have hm : Try.prog.eqGuardType Try.prog.depth 41 = false := by kernel_rfl
  unfold execOp
  simp only [hop, hx, hy, Sem.run_bind, run_eqGuard_agg w .eql 41 x y _ _ hm, run_eql_struct, he, Result.andThen_ok]
  rw [ht]
  rfl

set_option maxRecDepth 100000 in
set_option maxHeartbeats 4000000 in
theorem bcheck_any (ao : Option Addr) (n cap : Nat) (bs : List UInt8) (hl : bs.length = n) (hcap : n ≤ cap) (hbig : n ≤ 1152921504606846976) (w : World) (hat : BytesAt w ao bs) :
    Calls Try.prog 13 #[.slice ao n cap] w fun e w' => e = .returned (.int .i64 (ckE bs : Int)) ∧ After w w' := by
  have HC := show Hid _ from read_any ao n cap bs hl hcap hbig w hat
  have HZ : Hid (rdP bs = ⟨0, 0, 0⟩ ↔ ¬ rdOk bs) := rd_zero
  unfold RdPost at HC
  obtain ⟨p, hp⟩ : ∃ p, rdP bs = p := ⟨_, rfl⟩
  rw [hp] at HC HZ
  obtain ⟨m, s, b⟩ := p
  clear hl hcap hbig hat hp
  by_cases hk : rdOk bs
  · have HE : Hid (ckE bs = 0) := by unfold Hid ckE; rw [if_pos hk]
    have HF : Hid (decide (Prt.mk m s b = ⟨0, 0, 0⟩) = false) := decide_eq_false (fun h => HZ.out.1 h hk)
    clear HZ
    go_enter Try.func13, Try.ntmps13
    go_wp2_with (first
      | (go_at_call 26; refine Calls.mono HC.out ?_; rintro e w1 ⟨a, k, c, rfl, h1, h2, h3, h4, ha⟩; have H1 := show Hid (After w w1) from ha; clear h1 h2 h3 h4 ha)
      | (refine wpList_store_row rfl 41 (.tmp 3) (.tmp 8) rfl w1.heap.size (pc ⟨m, s, b⟩).toArray rfl rfl 41 _ (RowIs.new w1 41 (pc ⟨0, 0, 0⟩)) (size_pc _) rfl (all41 _) ?_)
      | (refine wpList_of_run rfl (x_ld41 (x := .tmp 3) (g := w1.heap.size) (p := ⟨m, s, b⟩) rfl rfl ((RowIs.new w1 41 (pc ⟨0, 0, 0⟩)).setRow (pc ⟨m, s, b⟩))) ?_)
      | (refine wpList_of_run rfl (x_eq41 (x := .tmp 10) (y := .tmp 11) (m := m) (s := s) (b := b) (t := false) rfl rfl rfl HF.out) ?_))
    go_ret
    exact ⟨by rw [HE.out]; rfl, Below.row (after_alloc H1.out _) (H1.out.size) _⟩
  · have HE : Hid (ckE bs = 4) := by unfold Hid ckE; rw [if_neg hk]
    have HF : Hid (decide (Prt.mk m s b = ⟨0, 0, 0⟩) = true) := decide_eq_true (HZ.out.2 hk)
    clear HZ
    go_enter Try.func13, Try.ntmps13
    go_wp2_with (first
      | (go_at_call 26; refine Calls.mono HC.out ?_; rintro e w1 ⟨a, k, c, rfl, h1, h2, h3, h4, ha⟩; have H1 := show Hid (After w w1) from ha; clear h1 h2 h3 h4 ha)
      | (refine wpList_store_row rfl 41 (.tmp 3) (.tmp 8) rfl w1.heap.size (pc ⟨m, s, b⟩).toArray rfl rfl 41 _ (RowIs.new w1 41 (pc ⟨0, 0, 0⟩)) (size_pc _) rfl (all41 _) ?_)
      | (refine wpList_of_run rfl (x_ld41 (x := .tmp 3) (g := w1.heap.size) (p := ⟨m, s, b⟩) rfl rfl ((RowIs.new w1 41 (pc ⟨0, 0, 0⟩)).setRow (pc ⟨m, s, b⟩))) ?_)
      | (refine wpList_of_run rfl (x_eq41 (x := .tmp 10) (y := .tmp 11) (m := m) (s := s) (b := b) (t := true) rfl rfl rfl HF.out) ?_))
    go_ret
    exact ⟨by rw [HE.out]; rfl, Below.row (after_alloc H1.out _) (H1.out.size) _⟩

theorem rdP_many (bs : List UInt8) : (rdP bs).many ≤ 65536 := by
  by_cases h : rdOk bs
  · rw [(rd_yes h).1]; exact h.2.2.2.1.many
  · rw [(rd_no h).1]; show 0 ≤ _; omega

set_option maxRecDepth 100000 in
set_option maxHeartbeats 4000000 in
theorem bmany_any (ao : Option Addr) (n cap : Nat) (bs : List UInt8) (hl : bs.length = n) (hcap : n ≤ cap) (hbig : n ≤ 1152921504606846976) (w : World) (hat : BytesAt w ao bs) :
    Calls Try.prog 15 #[.slice ao n cap] w fun e w' => e = .returned (.int .i64 ((rdP bs).many : Int)) ∧ After w w' := by
  have HC := show Hid _ from read_any ao n cap bs hl hcap hbig w hat
  unfold RdPost at HC
  have hb := rdP_many bs
  obtain ⟨p, hp⟩ : ∃ p, rdP bs = p := ⟨_, rfl⟩
  rw [hp] at HC hb ⊢
  obtain ⟨m, s, b⟩ := p
  have HB : Hid (m < 9223372036854775808) := by show m < _; have : m ≤ 65536 := hb; omega
  clear hl hcap hbig hat hp hb
  go_enter Try.func15, Try.ntmps15
  go_wp2_with (first
    | (go_at_call 26; refine Calls.mono HC.out ?_; rintro e w1 ⟨a, k, c, rfl, h1, h2, h3, h4, ha⟩; have H1 := show Hid (After w w1) from ha; have f0 : ((w1.alloc (.cells #[.int .u64 0, .int .u64 0, .int .u64 0] 41)).setRow w1.heap.size (pc ⟨m, s, b⟩).toArray).cell? ⟨w1.heap.size, 0, none⟩ = some (.int .u64 (m : Int)) := ((RowIs.new w1 41 (pc ⟨0, 0, 0⟩)).setRow (pc ⟨m, s, b⟩)).cell (j := 0) rfl; clear h1 h2 h3 h4 ha)
    | (refine wpList_store_row rfl 41 (.tmp 3) (.tmp 8) rfl w1.heap.size (pc ⟨m, s, b⟩).toArray rfl rfl 41 _ (RowIs.new w1 41 (pc ⟨0, 0, 0⟩)) (size_pc _) rfl (all41 _) ?_)
    | (refine wpList_of_run rfl (x_conv393 (x := .tmp 11) (p := m) rfl rfl HB.out) ?_))
  go_ret
  exact ⟨rfl, Below.row (after_alloc H1.out _) (H1.out.size) _⟩
end Go.Proofs.Ytgcgblecendijaa
