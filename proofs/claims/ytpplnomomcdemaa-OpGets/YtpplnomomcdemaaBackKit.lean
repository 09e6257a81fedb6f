/-
  op.Get and op.Put by what they come to.
-/
import Derived.Test.YtpplnomomcdemaaBackM
namespace Go.Proofs.Ytpplnomomcdemaa
open Go.RowKit Leb
theorem get_none (ao : Option Addr) (n ca : Nat) (bs : List UInt8) (hn : bs.length = n) (hca : n ≤ ca) (hz : ao = none → n = 0) (hbig : n ≤ 140737488355328) (w : World) (hat : BytesAt w ao bs) (hg : getM bs = none) :
    Calls Try.prog 17 #[.slice ao n ca] w fun e w' => e = .returned (.tuple #[.slice none 0 0, .int .i64 4]) ∧ After w w' := by
  refine Calls.mono (get_any ao n ca bs hn hca hz hbig w hat) ?_
  rintro e w' ⟨v, q, rfl, ha, h0, _⟩
  obtain ⟨rfl, rfl⟩ := h0 hg
  exact ⟨rfl, ha⟩
theorem put_bad (ao : Option Addr) (n ca : Nat) (l : List Opn) (hl : l.length = n) (hok : ∀ x ∈ l, x.Ok) (hbig : n ≤ 1152921504606846976) (w : World) (hA : OpsAt w ao l) {q : Nat} (hq : putE l = q) (h0 : ¬ q = 0) :
    Calls Try.prog 14 #[.slice ao n ca] w fun e w' => ∃ a c, e = .returned (.tuple #[.slice a 0 c, .int .i64 (q : Int)]) ∧ After w w' := by
  refine Calls.mono (put_k ao n ca l hl hok hbig w hA hq (show putBs l = [] by unfold putBs; rw [hq, if_neg h0])) ?_
  rintro e w' ⟨v, rfl, ho, ha⟩
  obtain ⟨a, c, rfl, _⟩ := ho.at
  exact ⟨a, c, rfl, ha⟩
theorem own_sl {w : World} {base : Nat} {v : Value} {bs : List UInt8} (h : Own w base v bs) {k : Nat} (hk : bs.length = k) : ∃ a c, v = .slice a k c ∧ BytesAt w a bs ∧ k ≤ c ∧ (a = none → k = 0) := by
  obtain ⟨a, c, rfl, h1, h2, _⟩ := h.at
  rw [hk] at h2 ⊢
  exact ⟨a, c, rfl, h1, h2, fun e => by subst e; have := bytesAt_none h1; rw [this] at hk; simpa using hk.symm⟩
theorem bytes_0 (w : World) : BytesAt (w.alloc (.cells #[.int .u8 0] 5)) (some ⟨w.heap.size, 0, none⟩) [0] := fun _ =>
  ⟨w.heap.size, 0, rfl, fun j hj => by
    rw [cell_of_row _ _ _ _ _ _ (heap_alloc_new w _)]
    match j, hj with
    | 0, _ => rfl⟩
end Go.Proofs.Ytpplnomomcdemaa
