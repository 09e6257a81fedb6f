/-
  THE PARTS OF A FILTER (stemma/bloom): size, may, number, places.
-/
import Derived.Test.YtgcgblecendijaaBX
import Derived.Test.YtgcgblecendijaaRising
namespace Go.Proofs.Ytgcgblecendijaa
open Go.RowKit
theorem wpListG_of_run {w w' : World} {ops : Array Oper} {rest : List Oper} {o : Oper} {a : Act} {Q : Exit → Act → World → Prop} {v : Value} (hw : Region.wanted o (yielded ops a.tmps) = true) (hr : (execOp a.eval o).run Try.prog w = .ok (.value v) w') (h : wpList Try.prog ops Q rest (a.put o.dst v) w') : wpList Try.prog ops Q (o :: rest) a w :=
  wpList_step fun K hK => by rw [if_pos hw]; unfold Oper.wp; rw [hr]; exact hK _ _ h
abbrev pc (p : Prt) : List Value := [.int .u64 (p.many : Int), .int .u64 (p.seed : Int), .int .u64 (p.bits : Int)]
abbrev pV (p : Prt) : Value := .agg #[.int .u64 (p.many : Int), .int .u64 (p.seed : Int), .int .u64 (p.bits : Int)]

set_option maxRecDepth 100000 in
set_option maxHeartbeats 2400000 in
theorem size_any (p : Prt) (h : p.many * p.bits < 1000000000) (w : World) : Calls Try.prog 20 #[pV p] w fun e w' => e = .returned (.int .u64 (p.size : Int)) ∧ After w w' := by
  obtain ⟨m, s, b⟩ := p
  obtain ⟨k, hk⟩ : ∃ k, m * b = k := ⟨_, rfl⟩
  obtain ⟨z, hz⟩ : ∃ z, (k + 7) / 8 = z := ⟨_, rfl⟩
  have HK : Hid (m * b = k ∧ k < 1000000000 ∧ (k + 7) / 8 = z) := ⟨hk, by rw [← hk]; exact h, hz⟩
  have HZ : Hid ((Prt.mk m s b).size = z) := by show (m * b + 7) / 8 = z; rw [hk, hz]
  clear hk hz h
  go_enter Try.func20, Try.ntmps20
  go_wp2_with (first
    | (refine wpList_of_run rfl (x_mul64 (x := .tmp 4) (y := .tmp 6) (p := m) (q := b) (r := k) rfl rfl rfl HK.out.1 (by have := HK.out.2.1; omega)) ?_)
    | (refine wpList_of_run rfl (x_add64 (x := .tmp 7) (y := .const (.int .u64 7)) (p := k) (q := 7) (r := k + 7) rfl rfl rfl rfl (by have := HK.out.2.1; omega)) ?_)
    | (refine wpList_of_run rfl (x_quo64 (x := .tmp 8) (y := .const (.int .u64 8)) (p := k + 7) (q := 8) (r := z) rfl rfl rfl HK.out.2.2 ⟨by omega, by have := HK.out; omega⟩) ?_))
  go_ret
  exact ⟨by rw [HZ.out]; rfl, after_alloc (After.refl w) _⟩

def Prt.may (p : Prt) : Bool := decide (p.many ≤ 65536) && decide (p.seed ≤ 4294967295) && decide (1 ≤ p.bits) && decide (p.bits ≤ 64)
theorem Prt.may_ok {p : Prt} : p.may = true ↔ p.Ok := by
  unfold Prt.may
  simp only [Bool.and_eq_true, decide_eq_true_eq]
  exact ⟨fun ⟨⟨⟨h1, h2⟩, h3⟩, h4⟩ => ⟨h1, by omega, h3, h4⟩, fun h => ⟨⟨⟨h.many, by have := h.seed; omega⟩, h.bits⟩, h.bits'⟩⟩

set_option maxRecDepth 100000 in
set_option maxHeartbeats 2400000 in
theorem may_any (p : Prt) (w : World) : Calls Try.prog 36 #[pV p] w fun e w' => e = .returned (.bool p.may) ∧ After w w' := by
  obtain ⟨m, s, b⟩ := p
  by_cases h1 : m ≤ 65536
  · have i1 : (m : Int) ≤ 65536 := by omega
    by_cases h2 : s ≤ 4294967295
    · have i2 : (s : Int) ≤ 4294967295 := by omega
      by_cases h3 : 1 ≤ b
      · have i3 : (1 : Int) ≤ (b : Int) := by omega
        by_cases h4 : b ≤ 64
        · have i4 : (b : Int) ≤ 64 := by omega
          have HR : Hid (Prt.may ⟨m, s, b⟩ = true) := by unfold Hid Prt.may; simp [h1, h2, h3, h4]
          go_enter Try.func36, Try.ntmps36
          go_wp2
          go_ret
          exact ⟨by rw [HR.out]; rfl, after_alloc (After.refl w) _⟩
        · have i4 : ¬ (b : Int) ≤ 64 := by omega
          have HR : Hid (Prt.may ⟨m, s, b⟩ = false) := by unfold Hid Prt.may; simp [h4]
          go_enter Try.func36, Try.ntmps36
          go_wp2
          go_ret
          exact ⟨by rw [HR.out]; rfl, after_alloc (After.refl w) _⟩
      · have i3 : ¬ (1 : Int) ≤ (b : Int) := by omega
        have HR : Hid (Prt.may ⟨m, s, b⟩ = false) := by unfold Hid Prt.may; simp [h3]
        go_enter Try.func36, Try.ntmps36
        go_wp2
        go_ret
        exact ⟨by rw [HR.out]; rfl, after_alloc (After.refl w) _⟩
    · have i2 : ¬ (s : Int) ≤ 4294967295 := by omega
      have HR : Hid (Prt.may ⟨m, s, b⟩ = false) := by unfold Hid Prt.may; simp [h2]
      go_enter Try.func36, Try.ntmps36
      go_wp2
      go_ret
      exact ⟨by rw [HR.out]; rfl, after_alloc (After.refl w) _⟩
  · have i1 : ¬ (m : Int) ≤ 65536 := by omega
    have HR : Hid (Prt.may ⟨m, s, b⟩ = false) := by unfold Hid Prt.may; simp [h1]
    go_enter Try.func36, Try.ntmps36
    go_wp2
    go_ret
    exact ⟨by rw [HR.out]; rfl, after_alloc (After.refl w) _⟩

/-- The number out of its first k bytes. -/
def accN (bs : List UInt8) : Nat → Nat
  | 0 => 0
  | k + 1 => accN bs k + (bs.getD k 0).toNat * 2 ^ (8 * k)
theorem accN_lt (bs : List UInt8) : ∀ k, accN bs k < 2 ^ (8 * k)
  | 0 => by simp [accN]
  | k + 1 => by
    have h := accN_lt bs k
    have hb := (bs.getD k 0).toNat_lt
    have e : 2 ^ (8 * (k + 1)) = 256 * 2 ^ (8 * k) := by rw [Nat.mul_add, Nat.pow_add, Nat.mul_comm]
    have hm : (bs.getD k 0).toNat * 2 ^ (8 * k) ≤ 255 * 2 ^ (8 * k) := Nat.mul_le_mul_right _ (by omega)
    show accN bs k + (bs.getD k 0).toNat * 2 ^ (8 * k) < _
    omega
theorem accN_4 (bs : List UInt8) : accN bs 4 = num4 bs 0 := by simp [accN, num4]

set_option maxRecDepth 100000 in
set_option maxHeartbeats 2400000 in
theorem number_any (p : Prt) (hp : p.seed < 4294967296) (ao : Option Addr) (c : Nat) (bs : List UInt8) (hl : bs.length = 4) (w : World) (hA : BytesAt w ao bs) :
    Calls Try.prog 31 #[pV p, .slice ao 4 c] w fun e w' => e = .returned (.int .u64 ((num4 bs 0 ^^^ p.seed : Nat) : Int)) ∧ After w w' := by
  obtain ⟨m, s, b⟩ := p
  obtain ⟨B, off, rfl, hc⟩ := hA (by intro h; rw [h] at hl; simp at hl)
  obtain ⟨W, hW⟩ : ∃ W, w.alloc (.cells #[.int .u64 (m : Int), .int .u64 (s : Int), .int .u64 (b : Int)] 41) = W := ⟨_, rfl⟩
  have HA : Hid (After w W ∧ RowIs W w.heap.size 41 (pc ⟨m, s, b⟩)) := ⟨by rw [← hW]; exact after_alloc (After.refl w) _, by rw [← hW]; exact RowIs.new w 41 (pc ⟨m, s, b⟩)⟩
  have HC : Hid (∀ j, j < 4 → W.cell? ⟨B, off + j, none⟩ = some (.int .u8 ((bs.getD j 0).toNat : Int))) := fun j hj => by
    have h := hc j (by rw [hl]; exact hj)
    rw [← h]; exact Below.cell HA.out.1 (p := ⟨B, off + j, none⟩) (World.block_lt_of_cell? w _ h)
  have f1 : W.cell? ⟨w.heap.size, 1, none⟩ = some (.int .u64 (s : Int)) := HA.out.2.cell (j := 1) rfl
  clear hA hc hl
  go_enter Try.func31, Try.ntmps31
  go_wp2_with fail
  try simp only [hW]
  clear hW
  go_loopw [5, 10] (fun n i wr => ∃ (k : Nat), k ≤ 4 ∧ i = .int .i64 k ∧ n = .int .u64 (accN bs k : Int) ∧ wr = W) (fun _ i _ => 4 - (intOf i).toNat)
  case atStart => exact ⟨0, by omega, rfl, rfl, rfl⟩
  case round =>
    obtain ⟨k, hk, rfl, rfl, rfl⟩ := hrel
    by_cases hlt : k < 4
    · have hki : (k : Int) < 4 := by omega
      have hcell := HC.out k hlt
      obtain ⟨y, hy⟩ : ∃ y, (bs.getD k 0).toNat = y := ⟨_, rfl⟩
      obtain ⟨x, hx⟩ : ∃ x, accN bs k = x := ⟨_, rfl⟩
      obtain ⟨z, hz⟩ : ∃ z, y * 2 ^ (8 * k) = z := ⟨_, rfl⟩
      have hxl := accN_lt bs k
      have hpw : 2 ^ (8 * k) ≤ 2 ^ 24 := Nat.pow_le_pow_right (by omega) (by omega)
      have hyl : y < 256 := by rw [← hy]; exact UInt8.toNat_lt _
      have hzl : z ≤ 255 * 2 ^ 24 := by rw [← hz]; exact Nat.mul_le_mul (by omega) hpw
      have HZ : Hid (x ||| z = accN bs (k + 1)) := by
        show _ = accN bs k + (bs.getD k 0).toNat * 2 ^ (8 * k)
        rw [← hz, ← hx, hy]; exact num_or hxl
      have HX : Hid (x < 18446744073709551616 ∧ z < 18446744073709551616 ∧ y < 256 ∧ y * 2 ^ (8 * k) = z ∧ 8 * k < 64) := ⟨by rw [hx] at hxl; omega, by omega, hyl, hz, by omega⟩
      rw [hy] at hcell
      rw [hx]
      obtain ⟨e8, he8⟩ : ∃ e8, 8 * k = e8 := ⟨_, rfl⟩
      have HE : Hid (8 * k = e8) := he8
      rw [he8] at HX
      clear hxl hpw hyl hzl hz hy hx he8
      go_wp2_with (first
        | (refine wpList_of_run rfl (x_muli (x := .const (.int .i64 8)) (y := .tmp 18) (p := 8) (q := k) (r := e8) rfl rfl rfl HE.out (by have := HE.out; omega)) ?_)
        | (refine wpList_of_run rfl (x_conv839 (x := .tmp 16) (p := y) rfl rfl HX.out.2.2.1) ?_)
        | (refine wpList_of_run rfl (x_shl64 (x := .tmp 17) (y := .tmp 19) (p := y) (q := e8) (r := z) rfl rfl rfl HX.out.2.2.2.2 HX.out.2.2.2.1 HX.out.2.1) ?_)
        | (refine wpList_of_run rfl (x_or64 (x := .tmp 15) (y := .tmp 20) (p := x) (q := z) (r := accN bs (k + 1)) rfl rfl rfl HX.out.1 HX.out.2.1 HZ.out) ?_))
      go_roundw
      case rel => exact ⟨k + 1, by omega, by go_num, rfl, trivial⟩
      case measure => simp [intOf]; omega
    · obtain rfl : k = 4 := by omega
      have hki : ¬ (4 : Int) < 4 := by omega
      have HF : Hid (accN bs 4 < 18446744073709551616 ∧ s < 18446744073709551616 ∧ accN bs 4 ^^^ s = num4 bs 0 ^^^ s) := ⟨Nat.lt_of_lt_of_le (accN_lt bs 4) (by decide), by omega, by rw [accN_4]⟩
      obtain ⟨x, hx⟩ : ∃ x, accN bs 4 = x := ⟨_, rfl⟩
      rw [hx] at HF ⊢
      clear hx
      go_wp2_with (refine wpList_of_run rfl (x_xor64 (x := .tmp 23) (y := .tmp 25) (p := x) (q := s) (r := num4 bs 0 ^^^ s) rfl rfl rfl HF.out.1 HF.out.2.1 HF.out.2.2) ?_)
      go_ret
      exact ⟨rfl, HA.out.1⟩

set_option maxRecDepth 100000 in
set_option maxHeartbeats 2400000 in
theorem places_any (p : Prt) (h : Hs) (h32 : h.length = 32) (w : World) : Calls Try.prog 21 #[pV p, .agg (c8 h).toArray] w fun e w' => e = .returned (.func (.func 30) #[] #[.pointer (some ⟨w.heap.size, 0, none⟩), .pointer (some ⟨w.heap.size + 1, 0, none⟩)]) ∧ RowIs w' w.heap.size 41 (pc p) ∧ RowIs w' (w.heap.size + 1) 29 (c8 h) ∧ After w w' ∧ w'.heap.size = w.heap.size + 2 := by
  obtain ⟨m, s, b⟩ := p
  go_enter Try.func21, Try.ntmps21
  go_wp2
  go_ret
  have _u := h32
  refine ⟨rfl, (RowIs.new w 41 (pc ⟨m, s, b⟩)).alloc _, ?_, after_alloc (after_alloc (After.refl w) _) _, by simp⟩
  have h2 := RowIs.new (w.alloc (.cells #[.int .u64 (m : Int), .int .u64 (s : Int), .int .u64 (b : Int)] 41)) 29 (c8 h)
  simpa using h2

end Go.Proofs.Ytgcgblecendijaa
