/-
  THE WALK OF leb.GetText.
-/
import Derived.Test.YtgcgblecendijaaLGetsTwo
namespace Go.Proofs.Ytgcgblecendijaa.LB
open Go.RowKit Leb
/-- b[lo:hi], of a slice that is not nil. -/
theorem slice_mid (b o len cap lo hi : Nat) (h1 : lo ≤ hi) (h2 : hi ≤ cap) (bs : List UInt8) (hl : bs.length = len) (hh : hi ≤ len) : ∃ ao : Option Addr, (∀ W : World, BytesAt W (some ⟨b, o, none⟩) bs → BytesAt W ao ((bs.drop lo).take (hi - lo))) ∧
    ∀ W : World, (Instr.sliceAt 26 (.slice (some ⟨b, o, none⟩) len cap) (some (.int .i64 (lo : Int))) (some (.int .i64 (hi : Int))) none).run Try.prog W = .ok (.slice ao (hi - lo) (cap - lo)) W := by
  obtain ⟨i, hi', hz⟩ := Option.map_eq_some_iff.1 bytes5
  simp only [Prod.mk.injEq] at hz
  obtain ⟨_, hsz, _⟩ := hz
  refine ⟨if cap = lo then some ⟨b, o, none⟩ else some ((⟨b, o, none⟩ : Addr).add lo), fun W hW hn => ?_, fun W => ?_⟩
  · have hlt : lo < hi := by
      rcases Nat.lt_or_ge lo hi with h | h
      · exact h
      · rw [show hi - lo = 0 by omega] at hn; simp at hn
    obtain ⟨b', o', he, hc⟩ := hW (by intro h; subst h; simp at hl; omega)
    cases he
    refine ⟨b, o + lo, by rw [if_neg (by omega), Addr.add_mid], fun j hj => ?_⟩
    simp only [List.length_take, List.length_drop] at hj
    rw [Nat.add_assoc, hc (lo + j) (by omega)]
    have h3 : j < hi - lo := by omega
    simp [List.getD_eq_getElem?_getD, List.getElem?_drop, h3]
  · by_cases hcl : cap = lo
    · simp [Instr.sliceAt, Instr.slice, run_underlying Try.underlying26, Instr.sliceBounds, Instr.sliceBound, asIntOf, sizeOf, typeInfo, hi', hsz, hcl]
      rw [if_pos (by omega), if_pos h1]
    · simp [Instr.sliceAt, Instr.slice, run_underlying Try.underlying26, Instr.sliceBounds, Instr.sliceBound, asIntOf, sizeOf, typeInfo, hi', hsz, hcl]
      rw [if_pos h2, if_pos h1]
theorem gt_0 {bs : List UInt8} {most : Int} {k n : Nat} (h0 : guE bs = 0) (hk : guK bs = k) (hn : guV bs = n) (h1 : ¬ most < (n : Int)) (h2 : ¬ bs.length < k + n) : gtE bs most = 0 ∧ gtK bs most = k + n ∧ gtS bs most = (bs.drop k).take n := by
  have e : gtE bs most = 0 := by unfold gtE; rw [if_pos h0, hk, hn, if_neg h1, if_neg h2]
  exact ⟨e, by unfold gtK; rw [if_pos e, hk, hn], by unfold gtS; rw [if_pos e, hk, hn]⟩
theorem gt_e {bs : List UInt8} {most : Int} {q : Nat} (hq : gtE bs most = q) (h0 : ¬ q = 0) : gtE bs most = q ∧ gtK bs most = 0 ∧ gtS bs most = [] := by
  have h0' : ¬ gtE bs most = 0 := by rw [hq]; exact h0
  exact ⟨hq, by unfold gtK; rw [if_neg h0'], by unfold gtS; rw [if_neg h0']⟩
theorem gu_0 {bs : List UInt8} (ao : Option Addr) (cap : Nat) (hcap : bs.length ≤ cap) (w : World) (hat : BytesAt w ao bs) {n k q : Nat} (hn : guV bs = n) (hk : guK bs = k) (hq : guE bs = q) :
    Calls Try.prog 35 #[.slice ao bs.length cap] w fun e w' => e = .returned (.tuple #[.int .u64 (n : Int), .int .i64 (k : Int), .int .i64 (q : Int)]) ∧ Below w.heap.size w w' := by
  have := getUint_any ao cap bs hcap w hat
  rw [hn, hk, hq] at this
  exact this
theorem guK_pos {bs : List UInt8} (h : guE bs = 0) : 0 < guK bs := by
  have h0 : (grp 10 bs).1 = 0 := by unfold guE at h; split at h; assumption; assumption
  unfold guK; rw [if_pos h]; exact (grp_le 10 bs h0).2.2
theorem strOf_nil : (⟨#[]⟩ : ByteArray) = strOf [] := rfl
end Go.Proofs.Ytgcgblecendijaa.LB
