/-
  ONE OPERATION THAT CAME IN, opened.
-/
import Derived.Test.YtpplnomomcdemaaOpenO
namespace Go.Proofs.Ytpplnomomcdemaa
open Go.ChangeShapes Go.WideShapes Go.ChangeAt Go.RowKit Leb
set_option maxRecDepth 100000 in
/-- What came in as an operation. -/
theorem open_one {H : Type} {enc : TypeId × Value → H} {W : World} {base : Nat} {v : Value} {d : DataW H} {p : List MemPlace}
    (hv : Value.okWide Try.prog W .any base 23 v) (h : DataW.Trod enc Try.prog W 0 (fun _ => true) true 23 v d p) : ∃ x : Opn, v = opV x ∧ x.Ok := by
  obtain ⟨cs, rfl, hsz⟩ := okWide_struct Try.underlying23 hv
  rw [cells23] at hsz
  obtain ⟨l⟩ := cs
  match l, hsz with
  | [c0, c1, c2, c3, c4], _ =>
  obtain ⟨fuel, hf⟩ := h
  obtain ⟨x, e, hx⟩ := open_op (show DataW.trod enc Try.prog W 0 (fun _ => true) true fuel 23 [c0, c1, c2, c3, c4] = some (d, p) from hf)
  refine ⟨x, ?_, hx⟩
  rw [show (⟨[c0, c1, c2, c3, c4]⟩ : Array Value) = (oc x).toArray by rw [← e]]
end Go.Proofs.Ytpplnomomcdemaa
