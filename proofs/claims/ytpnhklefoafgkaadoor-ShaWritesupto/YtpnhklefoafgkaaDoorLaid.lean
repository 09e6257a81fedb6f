/-
  WHAT EACH LAW OF THE SEAT NEEDS: the table out of the row's list; a hash, a slice of bytes that came in, opened.
-/
import Derived.Test.YtpnhklefoafgkaaDoorSame
import Derived.Test.YtpnhklefoafgkaaDoorCards
import Derived.Test.YtpnhklefoafgkaaDoorTie
import Derived.ProofKit
import Derived.OpenShut
import Derived.ShutString
import Derived.ChangeOld
import Derived.Deep.DeepHandedRow
import Derived.Lib.LaidTab
namespace Go.Proofs.YtpnhklefoafgkaaDoor
open Go.ChangeShapes Go.WideShapes Go.ChangeAt Go.RowKit Sha
theorem own : ownKnob Tryd.prog.godebug = none := by kernel_rfl
theorem laidOut : laidOutB Tryd.prog = true := by kernel_rfl
theorem cells64 : Tryd.prog.cellsOf 64 = 64 := by kernel_rfl
theorem cells46 : Tryd.prog.cellsOf 46 = 1 := by kernel_rfl
theorem cells24 : Tryd.prog.cellsOf 24 = 32 := by kernel_rfl
theorem gTab : Tryd.prog.globalNamed (Rows.shaNobodyRow.named.getD 0 default) = some 0 := by kernel_rfl
theorem gTabType : (Tryd.prog.globals[0]?).map (·.type) = some 64 := by kernel_rfl
theorem laid_eq : Rows.shaNobodyRow.laid = [(Rows.shaNobodyRow.named.getD 0 default, Lib.tabData .u32 (kWords.map n32))] := by kernel_rfl
theorem tab_of {W : World} (h : laidMetH Tryd.prog Rows.shaNobodyRow.laid W) : Tab W := by
  rw [laid_eq] at h
  have ht := Lib.tabIs_of_head (rest := []) gTab gTabType Tryd.underlying64 Tryd.underlying46 cells46 cells64 h
  have hc : ∀ j, j < 64 → W.cell? ⟨0, j, none⟩ = some (.int .u32 (n32 (kWords.getD j 0))) := fun j hj => by
    have := ht.cell gTab j (by simpa [kWords] using hj)
    rw [this]
    have hk : j < kWords.length := by simpa [kWords] using hj
    simp [List.getD_eq_getElem?_getD, hk]
  exact ⟨block_lt_of_cell (hc 0 (by omega)), hc⟩
theorem byte_of {n : Int} (h : (Lit.int .u8 n).wf = true) : ∃ b : UInt8, n = (b.toNat : Int) := by
  have h1 := bounds_u8 h
  refine ⟨UInt8.ofNat n.toNat, ?_⟩
  simp [UInt8.toNat_ofNat']
  omega
/-- Numbers that fit a byte are bytes. -/
theorem bytes_of : ∀ (zs : List Int), (∀ n ∈ zs, (Lit.int .u8 n).wf = true) → ∃ bs : List UInt8, zs = bs.map fun b => (b.toNat : Int)
  | [], _ => ⟨[], rfl⟩
  | z :: zs, h => by
    obtain ⟨b, hb⟩ := byte_of (h z (by simp))
    obtain ⟨bs, hbs⟩ := bytes_of zs (fun n hn => h n (by simp [hn]))
    exact ⟨b :: bs, by rw [hb, hbs]; rfl⟩
/-- What came in as a slice of bytes: nil, or all bytes up to its capacity. -/
theorem open_bytes {H : Type} {enc : TypeId × Value → H} {W : World} {a : Option Addr} {len cap : Nat} {d : DataW H} {p : List MemPlace}
    (h : DataW.Trod enc Tryd.prog W 0 (fun _ => true) true 22 (.slice a len cap) d p)
    (hsz : ∀ elems spare, d = .slice elems spare → (elems.length + spare.length) * Tryd.prog.bytesOf 5 ≤ reachBytes) :
    ∃ bs : List UInt8, bs.length = len ∧ len ≤ cap ∧ cap ≤ 140737488351232 ∧ BytesAt W a bs ∧ (bs ≠ [] → ∀ b o, a = some ⟨b, o, none⟩ → b < W.heap.size) := by
  obtain ⟨fuel, hf⟩ := h
  rcases open_ints Tryd.underlying22 Tryd.underlying5 cells5 hf with ⟨hcs, _⟩ | ⟨x, l, c, zs, hcs, _, hl, hm, hz, hx, hcell, hwz⟩
  · simp [Value.cells] at hcs
    obtain ⟨rfl, rfl, rfl⟩ := hcs
    exact ⟨[], rfl, Nat.le_refl _, by omega, fun h => absurd rfl h, fun h => absurd rfl h⟩
  · simp [Value.cells] at hcs
    obtain ⟨rfl, rfl, rfl⟩ := hcs
    simp only [if_true] at hz
    obtain ⟨all, rfl⟩ := bytes_of zs hwz
    simp only [List.length_map] at hz hcell
    have hcap : cap ≤ 140737488351232 := by
      simp only [Prod.mk.injEq] at hx
      have := hsz _ _ hx.1
      rw [show Tryd.prog.bytesOf 5 = 1 by kernel_rfl] at this
      simp only [lits, List.length_map, List.length_take, List.length_drop, reachBytes] at this
      omega
    refine ⟨all.take len, by simp; omega, hl, hcap, fun hne => ?_, fun hne b o he => ?_⟩
    · have hpos : 0 < all.length := by cases all with | nil => simp at hne | cons y ys => simp
      obtain ⟨b, off, rfl, hc⟩ := ints_at (w := W) (k := .u8) (zs := all.map fun b => (b.toNat : Int)) (by simpa using hcell) (by simpa using hpos)
      refine ⟨b, off, rfl, fun j hj => ?_⟩
      simp only [List.length_take] at hj
      have := hc j (by simp; omega)
      rw [this]
      have h1 : j < all.length := by omega
      have h2 : j < len := by omega
      simp [List.getD_eq_getElem?_getD, h1, h2]
    · cases he
      have hpos : 0 < all.length := by cases all with | nil => simp at hne | cons y ys => simp
      exact block_lt_of_cell (a := ⟨b, o, none⟩) (by have := hcell 0 hpos; simpa [Addr.add] using this)
theorem bytes_at : ∀ (cs : List Value) (n : Nat), cs.length = n → (∀ j, j < n → ∃ b : UInt8, cs[j]? = some (.int .u8 (b.toNat : Int))) → ∃ bs : List UInt8, bs.length = n ∧ cs = c8 bs
  | [], n, hn, _ => ⟨[], by simpa using hn, rfl⟩
  | c :: cs, n, hn, h => by
    obtain ⟨b, hb⟩ := h 0 (by rw [← hn]; simp)
    obtain ⟨bs, hl, hbs⟩ := bytes_at cs (n - 1) (by rw [← hn]; simp) (fun j hj => by
      obtain ⟨b', hb'⟩ := h (j + 1) (by omega)
      exact ⟨b', by simpa using hb'⟩)
    refine ⟨b :: bs, by simp at hn ⊢; omega, ?_⟩
    simp at hb
    rw [hb, hbs]; rfl
/-- What came in as a hash. -/
theorem open_hash {H : Type} {enc : TypeId × Value → H} {W : World} {base : Nat} {v : Value} {d : DataW H} {p : List MemPlace}
    (ho : Value.okWide Tryd.prog W .any base 24 v) (h : DataW.Trod enc Tryd.prog W 0 (fun _ => true) true 24 v d p) : ∃ bs : List UInt8, bs.length = 32 ∧ v = .agg (c8 bs).toArray := by
  unfold Value.okWide at ho
  rw [Tryd.underlying24] at ho
  obtain ⟨cs, rfl, hs, _⟩ := ho
  rw [cells24] at hs
  obtain ⟨fuel, hf⟩ := h
  obtain ⟨xs, m, _, _, _, _, hi⟩ := DataW.trod_array Tryd.underlying24 hf
  have each : ∀ j, j < 32 → ∃ b : UInt8, cs[j]? = some (.int .u8 (b.toNat : Int)) := fun j hj => by
    have hlt : j < cs.size := by omega
    have h1 := hi j hj
    rw [cells5, Nat.mul_one] at h1
    have e : (cs.toList.drop j).take 1 = [cs[j]] := by
      rw [List.drop_eq_getElem_cons (by simpa using hlt)]; simp
    simp only [Value.cells] at h1
    rw [e] at h1
    cases hx : xs[j]? with
    | none => rw [hx] at h1; have := List.getElem?_eq_none_iff.1 hx; omega
    | some y =>
      rw [hx] at h1
      obtain ⟨n, hn, _, hw⟩ := DataW.trod_int Tryd.underlying5 h1
      obtain ⟨b, hb⟩ := byte_of hw
      refine ⟨b, ?_⟩
      simp at hn
      rw [Array.getElem?_eq_getElem hlt, hn, hb]
  obtain ⟨bs, hl, hb⟩ := bytes_at cs.toList 32 (by simpa using hs) (fun j hj => by obtain ⟨b, hb⟩ := each j hj; exact ⟨b, by simpa using hb⟩)
  refine ⟨bs, hl, ?_⟩
  rw [← hb]
end Go.Proofs.YtpnhklefoafgkaaDoor
