/-
  FRAMES THAT ARE LAID ARE READ AGAIN.
-/
import Derived.Test.YtjmjianilcdphaaWhole
namespace Go.Proofs.Ytjmjianilcdphaa
open Go.RowKit Leb
theorem scF_fuel : ∀ (n : Nat) (bs : List UInt8) (f g : Nat), bs.length ≤ n → bs.length < f → bs.length < g → scF f bs = scF g bs := by
  intro n
  induction n with
  | zero =>
    intro bs f g h _ _
    obtain rfl : bs = [] := List.eq_nil_of_length_eq_zero (by omega)
    rw [scF_none opE_nil, scF_none opE_nil]
  | succ n ih =>
    intro bs f g h hf hg
    obtain ⟨f, rfl⟩ : ∃ x, f = x + 1 := ⟨f - 1, by omega⟩
    obtain ⟨g, rfl⟩ : ∃ x, g = x + 1 := ⟨g - 1, by omega⟩
    by_cases h1 : opE bs = 22
    · rw [scF_none h1, scF_none h1]
    · by_cases h2 : opE bs = 0
      · have hu := opUsed_pos bs h2
        rw [scF_next h2, scF_next h2, ih (bs.drop (opUsed bs)) f g (by rw [List.length_drop]; omega) (by rw [List.length_drop]; omega) (by rw [List.length_drop]; omega)]
      · rw [scF_bad h1 h2, scF_bad h1 h2]
theorem scan_nil : scan [] = ([], 0, 0) := scF_none opE_nil
theorem scan_bad (bs : List UInt8) (h1 : opE bs ≠ 22) (h2 : opE bs ≠ 0) : scan bs = ([], 0, opE bs) := scF_bad h1 h2
theorem scan_cons (k : UInt8) (b t : List UInt8) (hk : k ≠ 0) (hl : b.length ≤ 1048576) : scan (frameB k b ++ t) = ((k, b) :: (scan t).1, (frameB k b).length + (scan t).2.1, (scan t).2.2) := by
  obtain ⟨h0, h1, h2, h3⟩ := open_back k b t hk hl
  have hd : (frameB k b ++ t).drop (opUsed (frameB k b ++ t)) = t := by rw [h3, List.drop_left]
  have hlen := frameB_len k b
  unfold scan
  rw [scF_next h0, hd, h1, h2, h3, scF_fuel t.length t (frameB k b ++ t).length (t.length + 1) (Nat.le_refl _) (by rw [List.length_append]; omega) (by omega)]
theorem scan_laid : ∀ (ps : List (UInt8 × List UInt8)) (t : List UInt8), (∀ p ∈ ps, p.2.length ≤ 1048576) → scan (laidB ps ++ t) = (norm ps ++ (scan t).1, (laidB ps).length + (scan t).2.1, (scan t).2.2)
  | [], t, _ => by simp [laidB, norm]
  | p :: ps, t, h => by
    have ih := scan_laid ps t (fun q hq => h q (by simp [hq]))
    have e : laidB (p :: ps) = frameB (mk p.1) p.2 ++ laidB ps := by simp [laidB]
    rw [e, List.append_assoc, scan_cons _ _ _ (mk_ne _) (h p (by simp)), ih]
    simp [norm, Nat.add_assoc]
theorem opE_zero (t : List UInt8) : opE (0 :: t) = 4 := by unfold opE; rw [if_neg (by simp), if_pos (by simp)]
def zs (n : Nat) : List UInt8 := List.replicate n 0
theorem zs_len (n : Nat) : (zs n).length = n := by simp [zs]
theorem scan_zs (n : Nat) : scan (zs n) = ([], 0, if n = 0 then 0 else 4) := by
  cases n with
  | zero => exact scan_nil
  | succ n =>
    have e : zs (n + 1) = 0 :: zs n := rfl
    rw [e, scan_bad _ (by rw [opE_zero]; omega) (by rw [opE_zero]; omega), opE_zero]
    rfl
theorem zs_data (n : Nat) : (strOf (zs n)).data.toList = zs n := by simp [strOf]
theorem zeroCells_zs (n : Nat) : Builtin.zeroCells (Value.int .u8 0).cells n = (strOf (zs n)).data.map fun b => Value.int .u8 (b.toNat : Int) := by
  apply Array.ext'
  simp only [Builtin.zeroCells, Value.cells, Array.toList_map, zs_data, Array.toList_range]
  apply List.ext_getElem (by simp [zs])
  intro i h1 h2
  simp [zs, Nat.mod_one]
theorem grow_small (need c : Nat) (h : c < need) (hn : need ≤ 20000000) : Builtin.nextslicecap need c ≤ 100000000 := by
  unfold Builtin.nextslicecap
  split
  · omega
  · split
    · omega
    · simp only [Builtin.growBy]
      repeat' split
      all_goals omega
/-- append(s, make([]byte, n)...) is append(s, string of n noughts...). -/
theorem append_zs (w : World) (ty : TypeId) (base : Option Addr) (l c n : Nat) (hn : n ≤ 255) (hl : l ≤ 16777216) :
    (Builtin.append_ #[22, 3] ty #[.slice base l c, .int .i64 (n : Int)]).run Try.prog w = (Builtin.append_ #[22, 9] ty #[.slice base l c, .string (strOf (zs n))]).run Try.prog w := by
  obtain ⟨i, hi, hz⟩ := Option.map_eq_some_iff.1 bytes5
  simp only [Prod.mk.injEq] at hz
  obtain ⟨hz, hsz, hby⟩ := hz
  have hw : IntKind.i64.wrap (n : Int) = n := by simp [IntKind.wrap, IntKind.bits, IntKind.signed]; split <;> omega
  have hs : (strOf (zs n)).size = n := by simp [strOf, zs, ByteArray.size]
  have h1 : ¬ (n : Int) < 0 := by omega
  have h2 : ¬ (281474976710656 : Int) < (n : Int) := by omega
  have h5 : ¬ (9223372036854775807 : Int) < (l : Int) + (n : Int) := by omega
  have hzc := zeroCells_zs n
  have hA : ((strOf (zs n)).data.map fun b => Value.int .u8 (b.toNat : Int)).extract 0 n = (strOf (zs n)).data.map fun b => Value.int .u8 (b.toNat : Int) := by
    rw [Array.extract_eq_self_of_le]
    have := hs
    unfold ByteArray.size at this
    simp [this]
  have hT : ((strOf (zs n)).data.toList.map fun b => Value.int .u8 (b.toNat : Int)).take n = (strOf (zs n)).data.toList.map fun b => Value.int .u8 (b.toNat : Int) := by
    apply List.take_of_length_le
    rw [List.length_map, zs_data, zs_len]
    omega
  have hdata : n = 0 → (strOf (zs n)).data = #[] := fun h => by subst h; rfl
  by_cases hfit : l + n ≤ c
  · by_cases h0 : n = 0
    · have hd0 := hdata h0
      have hs0 : (strOf (zs n)).size = 0 := by rw [hs, h0]
      have hw0 : IntKind.i64.wrap (n : Int) = 0 := by rw [hw, h0]; rfl
      have hlc : l ≤ c := by omega
      simp [Builtin.append_, run_underlying Try.underlying22, run_underlying Try.underlying3, run_underlying Try.underlying9, sizeOf, typeInfo, hi, hsz, hby, Builtin.lenOf, hw0, hs0, asInt, asIntOf, hlc, Builtin.firstCells, hd0]
    · have h3 : ¬ (n : Int) ≤ 0 := by omega
      simp [Builtin.append_, run_underlying Try.underlying22, run_underlying Try.underlying3, run_underlying Try.underlying9, sizeOf, typeInfo, hi, hsz, hby, Builtin.lenOf, hw, hs, asInt, asIntOf, h1, h2, h0, Builtin.firstCells, hzc, hfit, hT]
  · have hcap : ¬ 281474976710656 < Builtin.nextslicecap (l + n) c := by have := grow_small (l + n) c (by omega) (by omega); omega
    by_cases h0 : n = 0
    · have hd0 := hdata h0
      have hs0 : (strOf (zs n)).size = 0 := by rw [hs, h0]
      have hw0 : IntKind.i64.wrap (n : Int) = 0 := by rw [hw, h0]; rfl
      have hlc : ¬ l ≤ c := by omega
      rw [h0, Nat.add_zero] at hcap
      have h6 : ¬ (9223372036854775807 : Int) < (l : Int) := by omega
      simp [Builtin.append_, run_underlying Try.underlying22, run_underlying Try.underlying3, run_underlying Try.underlying9, sizeOf, typeInfo, hi, hsz, hby, Builtin.lenOf, hw0, hs0, asInt, asIntOf, hlc, Builtin.firstCells, hd0, hcap, h6]
    · have h3 : ¬ (n : Int) ≤ 0 := by omega
      simp [Builtin.append_, run_underlying Try.underlying22, run_underlying Try.underlying3, run_underlying Try.underlying9, sizeOf, typeInfo, hi, hsz, hby, Builtin.lenOf, hw, hs, asInt, asIntOf, h1, h2, h5, h0, Builtin.firstCells, hzc, hfit, hcap, hA]
end Go.Proofs.Ytjmjianilcdphaa
