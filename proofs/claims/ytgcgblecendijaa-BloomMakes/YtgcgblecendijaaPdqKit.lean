/-
  WHAT EACH PART OF THE SORT DOES, SEEN FROM WITHIN sort.pdqsort_func.
-/
import Derived.Test.YtgcgblecendijaaBrk
import Derived.Test.YtgcgblecendijaaPivot
import Derived.Test.YtgcgblecendijaaPins
import Derived.Test.YtgcgblecendijaaPart
import Derived.Test.YtgcgblecendijaaPart2
import Derived.Test.YtgcgblecendijaaSmall
import Derived.Sort.LotB
import Derived.Sort.LotD3
namespace Go.Proofs.Ytgcgblecendijaa
open Go.RowKit Go.Sort Go.Lib

theorem ins_back {w0 : World} {g cap Bs B n : Nat} {d : Array Hs} {W : World} (h : SB w0 g cap Bs B n d W) (a b : Nat) (hab : a ≤ b) (hb : b ≤ n) (hsz : n < 1152921504606846976) :
    Calls Try.prog 63 #[.agg #[.func (.func 39) #[] #[.pointer (some ⟨Bs, 0, none⟩)], .func (.func 60) #[] #[.slice (some ⟨g, 0, none⟩) n cap, typeHandle Try.prog 29]], .int .i64 (a : Int), .int .i64 (b : Int)] W fun e w' => e = .returned (.tuple #[]) ∧ ∃ d', PermIn a b d d' ∧ SortedIn ltStr a b d' ∧ SB w0 g cap Bs B n d' w' := by
  have hp := insertionSort_holds (lt := ltStr) swo_ltStr d a b hab (by rw [h.sz]; exact hb)
  exact (ins77 h.base h.sz a b hab hb (by omega)).mono (fun _ _ ⟨he, h2⟩ => ⟨he, _, hp.1, hp.2, h.back (by rw [hp.1.1]; exact h.sz) h2⟩)
theorem heap_back {w0 : World} {g cap Bs B n : Nat} {d : Array Hs} {W : World} (h : SB w0 g cap Bs B n d W) (a b : Nat) (hab : a ≤ b) (hb : b ≤ n) (hsz : n < 1152921504606846976) :
    Calls Try.prog 64 #[.agg #[.func (.func 39) #[] #[.pointer (some ⟨Bs, 0, none⟩)], .func (.func 60) #[] #[.slice (some ⟨g, 0, none⟩) n cap, typeHandle Try.prog 29]], .int .i64 (a : Int), .int .i64 (b : Int)] W fun e w' => e = .returned (.tuple #[]) ∧ ∃ d', PermIn a b d d' ∧ SortedIn ltStr a b d' ∧ SB w0 g cap Bs B n d' w' := by
  have hp := heapSort_holds (lt := ltStr) swo_ltStr d a b hab (by rw [h.sz]; exact hb)
  exact (heap78 h.base h.sz a b hab hb hsz).mono (fun _ _ ⟨he, h2⟩ => ⟨he, _, hp.1, hp.2, h.back (by rw [hp.1.1]; exact h.sz) h2⟩)
theorem brk_back {w0 : World} {g cap Bs B n : Nat} {d : Array Hs} {W : World} (h : SB w0 g cap Bs B n d W) (a b : Nat) (hab : 12 < b - a) (hb : b ≤ n) (hsz : n < 1152921504606846976) :
    Calls Try.prog 65 #[.agg #[.func (.func 39) #[] #[.pointer (some ⟨Bs, 0, none⟩)], .func (.func 60) #[] #[.slice (some ⟨g, 0, none⟩) n cap, typeHandle Try.prog 29]], .int .i64 (a : Int), .int .i64 (b : Int)] W fun e w' => e = .returned (.tuple #[]) ∧ ∃ d', PermIn a b d d' ∧ SB w0 g cap Bs B n d' w' :=
  (brk79 h.base h.sz a b hab hb hsz).mono (fun _ _ ⟨he, d', hp, h2⟩ => ⟨he, d', hp, h.back (by rw [hp.1]; exact h.sz) h2⟩)
theorem piv_back {w0 : World} {g cap Bs B n : Nat} {d : Array Hs} {W : World} (h : SB w0 g cap Bs B n d W) (a b : Nat) (hab : 12 < b - a) (hb : b ≤ n) (hsz : n < 1152921504606846976) :
    Calls Try.prog 66 #[.agg #[.func (.func 39) #[] #[.pointer (some ⟨Bs, 0, none⟩)], .func (.func 60) #[] #[.slice (some ⟨g, 0, none⟩) n cap, typeHandle Try.prog 29]], .int .i64 (a : Int), .int .i64 (b : Int)] W fun e w' => ∃ p hh : Nat, e = .returned (.tuple #[.int .i64 (p : Int), .int .i64 (hh : Int)]) ∧ a ≤ p ∧ p < b ∧ hh ≤ 2 ∧ SB w0 g cap Bs B n d w' :=
  (piv80 h.base h.sz a b hab hb hsz).mono (fun _ _ ⟨p, hh, he, h1, h2, h3, h4⟩ => ⟨p, hh, he, h1, h2, h3, h.back h.sz h4⟩)
theorem rev_back {w0 : World} {g cap Bs B n : Nat} {d : Array Hs} {W : World} (h : SB w0 g cap Bs B n d W) (a b : Nat) (hab : a < b) (hb : b ≤ n) (hsz : n < 1152921504606846976) :
    Calls Try.prog 67 #[.agg #[.func (.func 39) #[] #[.pointer (some ⟨Bs, 0, none⟩)], .func (.func 60) #[] #[.slice (some ⟨g, 0, none⟩) n cap, typeHandle Try.prog 29]], .int .i64 (a : Int), .int .i64 (b : Int)] W fun e w' => e = .returned (.tuple #[]) ∧ ∃ d', PermIn a b d d' ∧ SB w0 g cap Bs B n d' w' := by
  have hp := reverseRange_holds d a b (Nat.le_of_lt hab) (by rw [h.sz]; exact hb)
  exact (rev81 h.base h.sz a b hb hsz hab).mono (fun _ _ ⟨he, h2⟩ => ⟨he, _, hp, h.back (by rw [hp.1]; exact h.sz) h2⟩)
theorem pins_back {w0 : World} {g cap Bs B n : Nat} {d : Array Hs} {W : World} (h : SB w0 g cap Bs B n d W) (a b : Nat) (hab : a < b) (hb : b ≤ n) (hsz : n < 1152921504606846976) (hB : Sort.Below ltStr a b d) :
    Calls Try.prog 68 #[.agg #[.func (.func 39) #[] #[.pointer (some ⟨Bs, 0, none⟩)], .func (.func 60) #[] #[.slice (some ⟨g, 0, none⟩) n cap, typeHandle Try.prog 29]], .int .i64 (a : Int), .int .i64 (b : Int)] W fun e w' => ∃ (r : Bool) (d' : Array Hs), e = .returned (.bool r) ∧ PermIn a b d d' ∧ (r = true → SortedIn ltStr a b d') ∧ SB w0 g cap Bs B n d' w' := by
  have hp := partialInsertionSort_holds (lt := ltStr) swo_ltStr d a b hab (by rw [h.sz]; exact hb) hB
  exact (pins82 h.base h.sz a b hab hb hsz).mono (fun _ _ ⟨he, h2⟩ => ⟨_, _, he, hp.1, hp.2, h.back (by rw [hp.1.1]; exact h.sz) h2⟩)
/-- What a round leaves to be done: on a range, so that what is sorted there makes the whole sorted. -/
def Left (a b a' b' : Nat) (d dk : Array Hs) : Prop := Sort.Below ltStr a' b' dk ∧ ∀ R, PermIn a' b' dk R → SortedIn ltStr a' b' R → PermIn a b d R ∧ SortedIn ltStr a b R
theorem Left.perm {a b a' b' : Nat} {d dk d' : Array Hs} (h : Left a b a' b' d dk) (hb : b' ≤ dk.size) (hp : PermIn a' b' dk d') : Left a b a' b' d d' :=
  ⟨h.1.perm hb hp, fun R hR hs => h.2 R (permIn_trans _ _ _ a' b' hp hR) hs⟩
theorem peq_back {w0 : World} {g cap Bs B n : Nat} {d : Array Hs} {W : World} (h : SB w0 g cap Bs B n d W) (a0 b0 : Nat) (d0 : Array Hs) (a b p : Nat) (h0 : 0 < a) (hap : a ≤ p) (hpb : p < b) (hb : b ≤ n) (hsz : n < 1152921504606846976) (hL : Left a0 b0 a b d0 d) (hnl : ltStr d[a - 1]! d[p]! = false) :
    Calls Try.prog 69 #[.agg #[.func (.func 39) #[] #[.pointer (some ⟨Bs, 0, none⟩)], .func (.func 60) #[] #[.slice (some ⟨g, 0, none⟩) n cap, typeHandle Try.prog 29]], .int .i64 (a : Int), .int .i64 (b : Int), .int .i64 (p : Int)] W fun e w' => ∃ (mid : Nat) (d' : Array Hs), e = .returned (.int .i64 (mid : Int)) ∧ a < mid ∧ mid ≤ b ∧ Left a0 b0 mid b d0 d' ∧ SB w0 g cap Bs B n d' w' := by
  obtain ⟨mid, d4, hx⟩ : ∃ mid d4, partitionEqual ltStr d a b p = (mid, d4) := ⟨(partitionEqual ltStr d a b p).1, (partitionEqual ltStr d a b p).2, rfl⟩
  obtain ⟨r1, r2, r3, r4, r5⟩ := round_eq swo_ltStr (partitionEqual_holds ltStr) h0 hap hpb (by rw [h.sz]; exact hb) hL.1 hnl hx
  refine (peq83 h.base h.sz a b p hap hpb hb hsz).mono (fun _ _ ⟨he, h2⟩ => ?_)
  rw [hx] at he h2
  exact ⟨mid, d4, he, r1, r2, ⟨r4, fun R hR hs => hL.2 R (r5 R hR hs).1 (r5 R hR hs).2⟩, h.back (by rw [r3]; exact h.sz) h2⟩
theorem part_back {w0 : World} {g cap Bs B n : Nat} {d : Array Hs} {W : World} (h : SB w0 g cap Bs B n d W) (a0 b0 : Nat) (d0 : Array Hs) (a b p : Nat) (hap : a ≤ p) (hpb : p < b) (hb : b ≤ n) (hsz : n < 1152921504606846976) (hL : Left a0 b0 a b d0 d) :
    Calls Try.prog 70 #[.agg #[.func (.func 39) #[] #[.pointer (some ⟨Bs, 0, none⟩)], .func (.func 60) #[] #[.slice (some ⟨g, 0, none⟩) n cap, typeHandle Try.prog 29]], .int .i64 (a : Int), .int .i64 (b : Int), .int .i64 (p : Int)] W fun e w' => ∃ (mid : Nat) (ap : Bool) (d' : Array Hs), e = .returned (.tuple #[.int .i64 (mid : Int), .bool ap]) ∧ a ≤ mid ∧ mid < b ∧ Sort.Below ltStr a mid d' ∧ Sort.Below ltStr (mid + 1) b d' ∧
      (∀ L, PermIn a mid d' L → SortedIn ltStr a mid L → Left a0 b0 (mid + 1) b d0 L) ∧ (∀ L, PermIn (mid + 1) b d' L → SortedIn ltStr (mid + 1) b L → Left a0 b0 a mid d0 L) ∧ SB w0 g cap Bs B n d' w' := by
  obtain ⟨mid, ap, d4, hx⟩ : ∃ mid ap d4, partition ltStr d a b p = (mid, ap, d4) := ⟨(partition ltStr d a b p).1, (partition ltStr d a b p).2.1, (partition ltStr d a b p).2.2, rfl⟩
  obtain ⟨r1, r2, r3, r4, r5, r6, r7⟩ := round_part swo_ltStr (partition_holds ltStr) hap hpb (by rw [h.sz]; exact hb) hL.1 hx
  refine (part84 h.base h.sz a b p hap hpb hb hsz).mono (fun _ _ ⟨he, h2⟩ => ?_)
  rw [hx] at he h2
  exact ⟨mid, ap, d4, he, r1, r2, r4, r5, fun L hp hs => ⟨(r6 L hp hs).1, fun R hR hsR => hL.2 R ((r6 L hp hs).2 R hR hsR).1 ((r6 L hp hs).2 R hR hsR).2⟩, fun L hp hs => ⟨(r7 L hp hs).1, fun R hR hsR => hL.2 R ((r7 L hp hs).2 R hR hsR).1 ((r7 L hp hs).2 R hR hsR).2⟩, h.back (by rw [r3]; exact h.sz) h2⟩
end Go.Proofs.Ytgcgblecendijaa
