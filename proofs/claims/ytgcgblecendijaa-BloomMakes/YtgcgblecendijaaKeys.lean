/-
  A HASH AS A MAP'S KEY: it reads as its bytes; a map from hashes to nothing is a set.
-/
import Derived.Test.YtgcgblecendijaaLists
import Derived.Test.YtgcgblecendijaaOpen
import Derived.DeepKeys5
import Derived.Maps.RangeWalk
import Derived.Maps.OwnSet
import Derived.Deep.Slices
namespace Go.Proofs.Ytgcgblecendijaa
open Go.RowKit Go.Maps Go.WideMaps Go.WideAt
theorem keyed24 : Keyed Try.prog 29 := Keyed.of_law (deep_law_gate laidOut (by rw [show Try.prog.types.size = 130 by kernel_rfl]; omega) (show (29 : Nat) < _ by rw [show Try.prog.types.size = 130 by kernel_rfl]; omega) (by kernel_rfl) (by rw [Try.underlying29]))
theorem mapM_all {α β : Type} {g : α → Option β} : ∀ {l : List α} {ls : List β}, l.mapM g = some ls → ∀ x ∈ l, ∃ y, g x = some y
  | [], _, _, x, hx => by simp at hx
  | a :: l, ls, h, x, hx => by
    simp only [List.mapM_cons, Option.bind_eq_bind, Option.bind_eq_some_iff] at h
    obtain ⟨y, hy, ys, hys, _⟩ := h
    rcases List.mem_cons.1 hx with rfl | hx
    · exact ⟨y, hy⟩
    · exact mapM_all hys x hx
theorem mapM_of {α β : Type} {g : α → Option β} {f : α → β} : ∀ {l : List α}, (∀ x ∈ l, g x = some (f x)) → l.mapM g = some (l.map f)
  | [], _ => rfl
  | a :: l, h => by
    rw [List.mapM_cons, h a (by simp), mapM_of (fun x hx => h x (by simp [hx]))]; rfl
theorem lit5 {d : Nat} (b : UInt8) : Try.prog.keyLits (d + 1) 5 [.int .u8 (b.toNat : Int)] = some [.int .u8 (b.toNat : Int)] := by
  have hb := b.toNat_lt
  have hw : (Lit.int .u8 (b.toNat : Int)).wf = true := by simp [Lit.wf, IntKind.min, IntKind.max, IntKind.bits, IntKind.signed]; omega
  unfold Program.keyLits
  simp [Try.underlying5, hw]
theorem lit5_inv {d : Nat} {c : Value} {l : List Lit} (h : Try.prog.keyLits (d + 1) 5 [c] = some l) : ∃ b : UInt8, c = .int .u8 (b.toNat : Int) := by
  cases c with
  | int q n =>
    unfold Program.keyLits at h
    simp only [Try.underlying5] at h
    split at h
    · rename_i hc
      obtain ⟨b, hb⟩ := byte_of hc.2
      exact ⟨b, by rw [hc.1, hb]⟩
    · cases h
  | _ => exact absurd h (by unfold Program.keyLits; simp [Try.underlying5])
theorem cells24 : Try.prog.cellsOf 29 = 32 := by kernel_rfl
theorem one_at (l : List Value) (i : Nat) {c : Value} (h : l[i]? = some c) : (l.drop (i * 1)).take 1 = [c] := by
  obtain ⟨hl, e⟩ := List.getElem?_eq_some_iff.1 h
  rw [Nat.mul_one, List.drop_eq_getElem_cons hl, e]; rfl
theorem range_flat : ∀ (h : Hs), ((List.range h.length).map fun i => [Lit.int .u8 ((h.getD i 0).toNat : Int)]).flatten = h.map fun b => Lit.int .u8 (b.toNat : Int) := fun h => by
  have e : ((List.range h.length).map fun i => [Lit.int .u8 ((h.getD i 0).toNat : Int)]) = h.map fun b => [Lit.int .u8 (b.toNat : Int)] := by
    apply List.ext_getElem
    · simp
    · intro i h1 h2
      have hi : i < h.length := by simpa using h1
      simp [List.getD, hi]
  rw [e]
  induction h with
  | nil => rfl
  | cons b h ih =>
    simp only [List.map_cons, List.flatten_cons, List.singleton_append]
    congr 1
    refine ih ?_
    apply List.ext_getElem
    · simp
    · intro i h1 h2
      have hi : i < h.length := by simpa using h1
      simp [List.getD, hi]
theorem keyBytes8 : ∀ h : Hs, keyBytes (h.map fun b => Lit.int .u8 (b.toNat : Int)) = h
  | [] => rfl
  | b :: h => by
    have hb := b.toNat_lt
    unfold keyBytes
    rw [List.map_cons, List.flatMap_cons]
    have ih := keyBytes8 h
    unfold keyBytes at ih
    rw [ih]
    have : Lit.keyBytes (Lit.int .u8 (b.toNat : Int)) = [b] := by
      simp only [Lit.keyBytes, IntKind.bits]
      have e : (((b.toNat : Int) % 2 ^ 8).toNat) = b.toNat := by omega
      rw [e]
      simp [bytesBE, bytesLE]
    rw [this]; rfl
set_option maxRecDepth 100000 in
/-- A hash reads as its bytes. -/
theorem keyOf24 {h : Hs} (hh : h.length = 32) : keyOf Try.prog 29 (hv h) = some (.string h) := by
  have hk : Try.prog.keyType 29 = true := by kernel_rfl
  have hf : (hv h).formed Try.prog 29 = true := by
    unfold hv Value.formed; simp [Try.underlying29, cells24, c8_len, hh]
  have hl : Try.prog.keyLits (Try.prog.types.size + 1) 29 (c8 h) = some (h.map fun b => Lit.int .u8 (b.toNat : Int)) := by
    rw [show Try.prog.types.size = 129 + 1 by kernel_rfl]
    unfold Program.keyLits
    simp only [Try.underlying29, cells24, c8_len, hh, if_true, cells5]
    rw [mapM_of (f := fun i => [Lit.int .u8 ((h.getD i 0).toNat : Int)])]
    · rw [← hh, Option.map_some, range_flat]
    · intro i hi
      rw [one_at (c8 h) i (c8_get h i (by rw [hh]; simpa using hi))]
      exact lit5 _
  unfold keyOf
  simp only [Try.underlying29, hk, hf, Bool.and_self, if_true]
  unfold hv
  simp only [Value.cells]
  rw [hl, Option.map_some, keyBytes8]
set_option maxRecDepth 100000 in
/-- What is a key is a hash. -/
theorem keyOf24_inv {key : Value} {kl : Lit} (hk : keyOf Try.prog 29 key = some kl) : ∃ h : Hs, h.length = 32 ∧ key = hv h ∧ kl = .string h := by
  obtain ⟨xs, L, rfl, hL, hkl⟩ := keyOf_top (by rw [Try.underlying29]) hk
  rw [show Try.prog.types.size = 129 + 1 by kernel_rfl] at hL
  unfold Program.keyLits at hL
  simp only [Try.underlying29, cells24, cells5] at hL
  split at hL
  · rename_i hlen
    obtain ⟨ls, hls, _⟩ := Option.map_eq_some_iff.1 hL
    have each : ∀ i, i < 32 → ∃ b : UInt8, xs.toList[i]? = some (.int .u8 (b.toNat : Int)) := fun i hi => by
      obtain ⟨y, hy⟩ := mapM_all hls i (by simpa using hi)
      obtain ⟨c, hc⟩ : ∃ c, xs.toList[i]? = some c := ⟨_, List.getElem?_eq_getElem (by rw [hlen]; exact hi)⟩
      rw [one_at xs.toList i hc] at hy
      obtain ⟨b, hb⟩ := lit5_inv hy
      exact ⟨b, by rw [hc, hb]⟩
    obtain ⟨q, hq⟩ := Deep.choose_lt each
    have hxs : xs.toList = c8 ((List.range 32).map q) := by
      apply List.ext_getElem?
      intro i
      by_cases hi : i < 32
      · rw [hq i hi, c8_get _ i (by simpa using hi)]; simp [List.getD, hi]
      · rw [List.getElem?_eq_none (by omega), List.getElem?_eq_none (by simp [c8_len]; omega)]
    have hx2 : xs = (c8 ((List.range 32).map q)).toArray := by rw [← hxs]
    refine ⟨(List.range 32).map q, by simp, by rw [hx2]; rfl, ?_⟩
    have := keyOf24 (h := (List.range 32).map q) (by simp)
    unfold hv at this
    rw [← hx2, hk] at this
    exact Option.some.inj this
  · cases hL
end Go.Proofs.Ytgcgblecendijaa
