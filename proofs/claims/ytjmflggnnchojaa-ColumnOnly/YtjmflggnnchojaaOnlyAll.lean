/-
  stemmalaw03.ColumnOnly, ALL CASES.
-/
import Derived.Test.YtjmflggnnchojaaOnlyWalk
namespace Go.Proofs.Ytjmflggnnchojaa
open Go.RowKit Leb
theorem guE_nil : ¬ guE [] = 0 := by decide
theorem only_any (ao : Option Addr) (cap : Nat) (bs : List UInt8) (hcap : bs.length ≤ cap) (hbig : cap ≤ 140737488351232) (w : World) (hat : BytesAt w ao bs) :
    Calls Try.prog 8 #[.slice ao bs.length cap] w fun e w' => e = .returned (.bool true) ∧ Below w.heap.size w w' := by
  have hl := getR_int bs 65536
  have hln := getR_most bs 65536
  have hzn := getF_most bs 65536
  have hro := getR_only bs 65536
  have hfo := getF_only bs 65536
  have hne1 : bs = [] → ¬ (getR bs 65536).2.2 = 0 := fun h => by subst h; rw [getR_e rfl guE_nil]; exact guE_nil
  have hne2 : bs = [] → ¬ (getF bs 65536).2.2 = 0 := fun h => by subst h; rw [getF_e rfl guE_nil]; exact guE_nil
  have c1 := fun W (h : BytesAt W ao bs) => getRuns_any ao cap bs (by omega) 65536 (by omega) (by omega) W h
  have c2 := fun W (h : BytesAt W ao bs) => getDeltas_any ao cap bs (by omega) 65536 (by omega) (by omega) W h
  have c3 := fun W (h : BytesAt W ao bs) => getFlags_any ao cap bs (by omega) 65536 (by omega) (by omega) W h
  obtain ⟨G, hG⟩ : ∃ G, getR bs 65536 = G := ⟨_, rfl⟩
  obtain ⟨H, hH⟩ : ∃ H, getF bs 65536 = H := ⟨_, rfl⟩
  simp only [hG, hH] at hl hln hzn hro hfo hne1 hne2 c1 c2 c3
  obtain ⟨l, u, q1⟩ := G
  obtain ⟨z, k, q3⟩ := H
  replace hl : ∀ x ∈ l, -9223372036854775808 ≤ x ∧ x ≤ 9223372036854775807 := hl
  replace hln : l.length ≤ 65536 := hln
  replace hzn : z.length ≤ 65536 := hzn
  replace hne1 : bs = [] → ¬ q1 = 0 := hne1
  replace hne2 : bs = [] → ¬ q3 = 0 := hne2
  obtain ⟨D, hD⟩ : ∃ D, dsums l = D := ⟨_, rfl⟩
  have hDn : D.length ≤ 1048575 := by rw [← hD]; simp only [dsums, List.length_map, List.length_range]; omega
  have hdd : diffs D = l := by rw [← hD]; exact diffs_dsums l hl
  have d1 : ∀ W, BytesAt W ao bs → Calls Try.prog 20 #[.slice ao bs.length cap, .int .i64 65536] W fun e w' => ∃ a c, e = .returned (.tuple #[.slice a l.length c, .int .i64 (u : Int), .int .i64 (q1 : Int)]) ∧ IntsAt w' a l ∧ After W w' := fun W h => by
    refine (c1 W h).mono ?_
    rintro e w' ⟨v, rfl, ho, hb⟩
    obtain ⟨a, c, rfl, hI, _⟩ := OwnI.at ho
    exact ⟨a, c, rfl, hI, hb⟩
  have d2 : ∀ W, BytesAt W ao bs → Calls Try.prog 22 #[.slice ao bs.length cap, .int .i64 65536] W fun e w' => ∃ a c, e = .returned (.tuple #[.slice a D.length c, .int .i64 (u : Int), .int .i64 (q1 : Int)]) ∧ IntsAt w' a D ∧ After W w' := fun W h => by
    refine (c2 W h).mono ?_
    rintro e w' ⟨v, rfl, ho, hb⟩
    simp only [hD] at ho
    obtain ⟨a, c, rfl, hI, _⟩ := OwnI.at ho
    exact ⟨a, c, rfl, hI, hb⟩
  have d3 : ∀ W, BytesAt W ao bs → Calls Try.prog 18 #[.slice ao bs.length cap, .int .i64 65536] W fun e w' => ∃ a c, e = .returned (.tuple #[.slice a z.length c, .int .i64 (k : Int), .int .i64 (q3 : Int)]) ∧ BoolsAt w' a z ∧ After W w' := fun W h => by
    refine (c3 W h).mono ?_
    rintro e w' ⟨v, rfl, ho, hb⟩
    obtain ⟨a, c, rfl, hI, _⟩ := OwnB.at ho
    exact ⟨a, c, rfl, hI, hb⟩
  clear c1 c2 c3
  by_cases h1 : q1 = 0
  · obtain ⟨b, o, rfl, _⟩ := hat (fun h => hne1 h h1)
    subst h1
    obtain ⟨r1, r2⟩ := hro l u rfl
    by_cases h3 : q3 = 0
    · subst h3
      obtain ⟨r3, r4⟩ := hfo z k rfl
      exact only_11 b o cap bs hcap w hat l D z u k hl hln hDn hzn r1 r2 (by rw [hdd]; exact r2) r3 r4 d1 d2 d3
    · exact only_10 b o cap bs hcap w hat l D z u k hl hln hDn hzn r1 r2 (by rw [hdd]; exact r2) q3 h3 d1 d2 d3
  · by_cases h3 : q3 = 0
    · obtain ⟨b, o, rfl, _⟩ := hat (fun h => hne2 h h3)
      subst h3
      obtain ⟨r3, r4⟩ := hfo z k rfl
      exact only_01 b o cap bs hcap w hat l D z u k hl hln hDn hzn q1 h1 r3 r4 d1 d2 d3
    · exact only_00 ao cap bs hcap w hat l D z u k hl hln hDn hzn q1 h1 q3 h3 d1 d2 d3
end Go.Proofs.Ytjmflggnnchojaa
