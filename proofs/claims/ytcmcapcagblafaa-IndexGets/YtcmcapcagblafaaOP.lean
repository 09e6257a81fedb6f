/-
  WHAT EACH LAW OF THE SEAT NEEDS: a slice of bytes that came in, opened.
-/
import Derived.Test.YtcmcapcagblafaaBase
import Derived.ProofKit
import Derived.OpenShut
import Derived.ShutString
import Derived.ChangeOld
import Derived.Deep.DeepHandedRow
import Derived.SizedLaws
namespace Go.Proofs.Ytcmcapcagblafaa
open Go.ChangeShapes Go.WideShapes Go.ChangeAt Go.RowKit
theorem own : ownKnob Try.prog.godebug = none := by kernel_rfl
theorem laidOut : laidOutB Try.prog = true := by kernel_rfl
theorem cells5 : Try.prog.cellsOf 5 = 1 := by kernel_rfl
theorem byte_of {n : Int} (h : (Lit.int .u8 n).wf = true) : ∃ b : UInt8, n = (b.toNat : Int) := by
  have h1 := bounds_u8 h
  refine ⟨UInt8.ofNat n.toNat, ?_⟩
  simp [UInt8.toNat_ofNat']
  omega
/-- Numbers that fit a byte are bytes. -/
theorem bytes_of : ∀ (zs : List Int), (∀ n ∈ zs, (Lit.int .u8 n).wf = true) → ∃ bs : List UInt8, zs = bs.map fun b => (b.toNat : Int)
  | [], _ => ⟨[], rfl⟩
  | z :: zs, h => by
    obtain ⟨b, hb⟩ := byte_of (h z (by simp))
    obtain ⟨bs, hbs⟩ := bytes_of zs (fun n hn => h n (by simp [hn]))
    exact ⟨b :: bs, by rw [hb, hbs]; rfl⟩
/-- What came in as a slice of bytes: nil, or all bytes up to its capacity. -/
theorem open_bytes {H : Type} {enc : TypeId × Value → H} {W : World} {a : Option Addr} {len cap : Nat} {d : DataW H} {p : List MemPlace}
    (h : DataW.Trod enc Try.prog W 0 (fun _ => true) true 26 (.slice a len cap) d p)
    (hsz : ∀ elems spare, d = .slice elems spare → (elems.length + spare.length) * Try.prog.bytesOf 5 ≤ reachBytes) :
    ∃ bs : List UInt8, bs.length = len ∧ len ≤ cap ∧ cap ≤ 140737488351232 ∧ BytesAt W a bs := by
  obtain ⟨fuel, hf⟩ := h
  rcases open_ints Try.underlying26 Try.underlying5 cells5 hf with ⟨hcs, _⟩ | ⟨x, l, c, zs, hcs, _, hl, hm, hz, hx, hcell, hwz⟩
  · simp [Value.cells] at hcs
    obtain ⟨rfl, rfl, rfl⟩ := hcs
    exact ⟨[], rfl, Nat.le_refl _, by omega, fun h => absurd rfl h⟩
  · simp [Value.cells] at hcs
    obtain ⟨rfl, rfl, rfl⟩ := hcs
    simp only [if_true] at hz
    obtain ⟨all, rfl⟩ := bytes_of zs hwz
    simp only [List.length_map] at hz hcell
    have hcap : cap ≤ 140737488351232 := by
      simp only [Prod.mk.injEq] at hx
      have := hsz _ _ hx.1
      rw [show Try.prog.bytesOf 5 = 1 by kernel_rfl] at this
      simp only [lits, List.length_map, List.length_take, List.length_drop, reachBytes] at this
      omega
    refine ⟨all.take len, by simp; omega, hl, hcap, fun hne => ?_⟩
    have hpos : 0 < all.length := by cases all with | nil => simp at hne | cons y ys => simp
    obtain ⟨b, off, rfl, hc⟩ := ints_at (w := W) (k := .u8) (zs := all.map fun b => (b.toNat : Int)) (by simpa using hcell) (by simpa using hpos)
    refine ⟨b, off, rfl, fun j hj => ?_⟩
    simp only [List.length_take] at hj
    have := hc j (by simp; omega)
    rw [this]
    have h1 : j < all.length := by omega
    have h2 : j < len := by omega
    simp [List.getD_eq_getElem?_getD, h1, h2]
end Go.Proofs.Ytcmcapcagblafaa
