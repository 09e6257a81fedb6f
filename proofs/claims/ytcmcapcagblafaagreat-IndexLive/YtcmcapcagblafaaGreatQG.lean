/-
  hashes: PdqKit Pdq (of its own seat, carried over).
-/
import Derived.Test.YtcmcapcagblafaaGreatQF
import Derived.Sort.LotB
import Derived.Sort.LotD3
import Derived.Deep.LoopGhost
import Derived.Deep.Cut
import Derived.Deep.CutRange
namespace Go.Proofs.YtcmcapcagblafaaGreat
section
open Go.RowKit Go.Lib Go.Sort

theorem ins_back {w0 : World} {g cap Bs B n : Nat} {d : Array Hs} {W : World} (h : SB w0 g cap Bs B n d W) (a b : Nat) (hab : a ≤ b) (hb : b ≤ n) (hsz : n < 1152921504606846976) :
    Calls Tryz.prog 83 #[.agg #[.func (.func 49) #[] #[.pointer (some ⟨Bs, 0, none⟩)], .func (.func 80) #[] #[.slice (some ⟨g, 0, none⟩) n cap, typeHandle Tryz.prog 40]], .int .i64 (a : Int), .int .i64 (b : Int)] W fun e w' => e = .returned (.tuple #[]) ∧ ∃ d', PermIn a b d d' ∧ SortedIn ltStr a b d' ∧ SB w0 g cap Bs B n d' w' := by
  have hp := insertionSort_holds (lt := ltStr) swo_ltStr d a b hab (by rw [h.sz]; exact hb)
  exact (ins77 h.base h.sz a b hab hb (by omega)).mono (fun _ _ ⟨he, h2⟩ => ⟨he, _, hp.1, hp.2, h.back (by rw [hp.1.1]; exact h.sz) h2⟩)
theorem heap_back {w0 : World} {g cap Bs B n : Nat} {d : Array Hs} {W : World} (h : SB w0 g cap Bs B n d W) (a b : Nat) (hab : a ≤ b) (hb : b ≤ n) (hsz : n < 1152921504606846976) :
    Calls Tryz.prog 84 #[.agg #[.func (.func 49) #[] #[.pointer (some ⟨Bs, 0, none⟩)], .func (.func 80) #[] #[.slice (some ⟨g, 0, none⟩) n cap, typeHandle Tryz.prog 40]], .int .i64 (a : Int), .int .i64 (b : Int)] W fun e w' => e = .returned (.tuple #[]) ∧ ∃ d', PermIn a b d d' ∧ SortedIn ltStr a b d' ∧ SB w0 g cap Bs B n d' w' := by
  have hp := heapSort_holds (lt := ltStr) swo_ltStr d a b hab (by rw [h.sz]; exact hb)
  exact (heap78 h.base h.sz a b hab hb hsz).mono (fun _ _ ⟨he, h2⟩ => ⟨he, _, hp.1, hp.2, h.back (by rw [hp.1.1]; exact h.sz) h2⟩)
theorem brk_back {w0 : World} {g cap Bs B n : Nat} {d : Array Hs} {W : World} (h : SB w0 g cap Bs B n d W) (a b : Nat) (hab : 12 < b - a) (hb : b ≤ n) (hsz : n < 1152921504606846976) :
    Calls Tryz.prog 85 #[.agg #[.func (.func 49) #[] #[.pointer (some ⟨Bs, 0, none⟩)], .func (.func 80) #[] #[.slice (some ⟨g, 0, none⟩) n cap, typeHandle Tryz.prog 40]], .int .i64 (a : Int), .int .i64 (b : Int)] W fun e w' => e = .returned (.tuple #[]) ∧ ∃ d', PermIn a b d d' ∧ SB w0 g cap Bs B n d' w' :=
  (brk79 h.base h.sz a b hab hb hsz).mono (fun _ _ ⟨he, d', hp, h2⟩ => ⟨he, d', hp, h.back (by rw [hp.1]; exact h.sz) h2⟩)
theorem piv_back {w0 : World} {g cap Bs B n : Nat} {d : Array Hs} {W : World} (h : SB w0 g cap Bs B n d W) (a b : Nat) (hab : 12 < b - a) (hb : b ≤ n) (hsz : n < 1152921504606846976) :
    Calls Tryz.prog 86 #[.agg #[.func (.func 49) #[] #[.pointer (some ⟨Bs, 0, none⟩)], .func (.func 80) #[] #[.slice (some ⟨g, 0, none⟩) n cap, typeHandle Tryz.prog 40]], .int .i64 (a : Int), .int .i64 (b : Int)] W fun e w' => ∃ p hh : Nat, e = .returned (.tuple #[.int .i64 (p : Int), .int .i64 (hh : Int)]) ∧ a ≤ p ∧ p < b ∧ hh ≤ 2 ∧ SB w0 g cap Bs B n d w' :=
  (piv80 h.base h.sz a b hab hb hsz).mono (fun _ _ ⟨p, hh, he, h1, h2, h3, h4⟩ => ⟨p, hh, he, h1, h2, h3, h.back h.sz h4⟩)
theorem rev_back {w0 : World} {g cap Bs B n : Nat} {d : Array Hs} {W : World} (h : SB w0 g cap Bs B n d W) (a b : Nat) (hab : a < b) (hb : b ≤ n) (hsz : n < 1152921504606846976) :
    Calls Tryz.prog 87 #[.agg #[.func (.func 49) #[] #[.pointer (some ⟨Bs, 0, none⟩)], .func (.func 80) #[] #[.slice (some ⟨g, 0, none⟩) n cap, typeHandle Tryz.prog 40]], .int .i64 (a : Int), .int .i64 (b : Int)] W fun e w' => e = .returned (.tuple #[]) ∧ ∃ d', PermIn a b d d' ∧ SB w0 g cap Bs B n d' w' := by
  have hp := reverseRange_holds d a b (Nat.le_of_lt hab) (by rw [h.sz]; exact hb)
  exact (rev81 h.base h.sz a b hb hsz hab).mono (fun _ _ ⟨he, h2⟩ => ⟨he, _, hp, h.back (by rw [hp.1]; exact h.sz) h2⟩)
theorem pins_back {w0 : World} {g cap Bs B n : Nat} {d : Array Hs} {W : World} (h : SB w0 g cap Bs B n d W) (a b : Nat) (hab : a < b) (hb : b ≤ n) (hsz : n < 1152921504606846976) (hB : Sort.Below ltStr a b d) :
    Calls Tryz.prog 88 #[.agg #[.func (.func 49) #[] #[.pointer (some ⟨Bs, 0, none⟩)], .func (.func 80) #[] #[.slice (some ⟨g, 0, none⟩) n cap, typeHandle Tryz.prog 40]], .int .i64 (a : Int), .int .i64 (b : Int)] W fun e w' => ∃ (r : Bool) (d' : Array Hs), e = .returned (.bool r) ∧ PermIn a b d d' ∧ (r = true → SortedIn ltStr a b d') ∧ SB w0 g cap Bs B n d' w' := by
  have hp := partialInsertionSort_holds (lt := ltStr) swo_ltStr d a b hab (by rw [h.sz]; exact hb) hB
  exact (pins82 h.base h.sz a b hab hb hsz).mono (fun _ _ ⟨he, h2⟩ => ⟨_, _, he, hp.1, hp.2, h.back (by rw [hp.1.1]; exact h.sz) h2⟩)
/-- What a round leaves to be done: on a range, so that what is sorted there makes the whole sorted. -/
def Left (a b a' b' : Nat) (d dk : Array Hs) : Prop := Sort.Below ltStr a' b' dk ∧ ∀ R, PermIn a' b' dk R → SortedIn ltStr a' b' R → PermIn a b d R ∧ SortedIn ltStr a b R
theorem Left.perm {a b a' b' : Nat} {d dk d' : Array Hs} (h : Left a b a' b' d dk) (hb : b' ≤ dk.size) (hp : PermIn a' b' dk d') : Left a b a' b' d d' :=
  ⟨h.1.perm hb hp, fun R hR hs => h.2 R (permIn_trans _ _ _ a' b' hp hR) hs⟩
theorem peq_back {w0 : World} {g cap Bs B n : Nat} {d : Array Hs} {W : World} (h : SB w0 g cap Bs B n d W) (a0 b0 : Nat) (d0 : Array Hs) (a b p : Nat) (h0 : 0 < a) (hap : a ≤ p) (hpb : p < b) (hb : b ≤ n) (hsz : n < 1152921504606846976) (hL : Left a0 b0 a b d0 d) (hnl : ltStr d[a - 1]! d[p]! = false) :
    Calls Tryz.prog 89 #[.agg #[.func (.func 49) #[] #[.pointer (some ⟨Bs, 0, none⟩)], .func (.func 80) #[] #[.slice (some ⟨g, 0, none⟩) n cap, typeHandle Tryz.prog 40]], .int .i64 (a : Int), .int .i64 (b : Int), .int .i64 (p : Int)] W fun e w' => ∃ (mid : Nat) (d' : Array Hs), e = .returned (.int .i64 (mid : Int)) ∧ a < mid ∧ mid ≤ b ∧ Left a0 b0 mid b d0 d' ∧ SB w0 g cap Bs B n d' w' := by
  obtain ⟨mid, d4, hx⟩ : ∃ mid d4, partitionEqual ltStr d a b p = (mid, d4) := ⟨(partitionEqual ltStr d a b p).1, (partitionEqual ltStr d a b p).2, rfl⟩
  obtain ⟨r1, r2, r3, r4, r5⟩ := round_eq swo_ltStr (partitionEqual_holds ltStr) h0 hap hpb (by rw [h.sz]; exact hb) hL.1 hnl hx
  refine (peq83 h.base h.sz a b p hap hpb hb hsz).mono (fun _ _ ⟨he, h2⟩ => ?_)
  rw [hx] at he h2
  exact ⟨mid, d4, he, r1, r2, ⟨r4, fun R hR hs => hL.2 R (r5 R hR hs).1 (r5 R hR hs).2⟩, h.back (by rw [r3]; exact h.sz) h2⟩
theorem part_back {w0 : World} {g cap Bs B n : Nat} {d : Array Hs} {W : World} (h : SB w0 g cap Bs B n d W) (a0 b0 : Nat) (d0 : Array Hs) (a b p : Nat) (hap : a ≤ p) (hpb : p < b) (hb : b ≤ n) (hsz : n < 1152921504606846976) (hL : Left a0 b0 a b d0 d) :
    Calls Tryz.prog 90 #[.agg #[.func (.func 49) #[] #[.pointer (some ⟨Bs, 0, none⟩)], .func (.func 80) #[] #[.slice (some ⟨g, 0, none⟩) n cap, typeHandle Tryz.prog 40]], .int .i64 (a : Int), .int .i64 (b : Int), .int .i64 (p : Int)] W fun e w' => ∃ (mid : Nat) (ap : Bool) (d' : Array Hs), e = .returned (.tuple #[.int .i64 (mid : Int), .bool ap]) ∧ a ≤ mid ∧ mid < b ∧ Sort.Below ltStr a mid d' ∧ Sort.Below ltStr (mid + 1) b d' ∧
      (∀ L, PermIn a mid d' L → SortedIn ltStr a mid L → Left a0 b0 (mid + 1) b d0 L) ∧ (∀ L, PermIn (mid + 1) b d' L → SortedIn ltStr (mid + 1) b L → Left a0 b0 a mid d0 L) ∧ SB w0 g cap Bs B n d' w' := by
  obtain ⟨mid, ap, d4, hx⟩ : ∃ mid ap d4, partition ltStr d a b p = (mid, ap, d4) := ⟨(partition ltStr d a b p).1, (partition ltStr d a b p).2.1, (partition ltStr d a b p).2.2, rfl⟩
  obtain ⟨r1, r2, r3, r4, r5, r6, r7⟩ := round_part swo_ltStr (partition_holds ltStr) hap hpb (by rw [h.sz]; exact hb) hL.1 hx
  refine (part84 h.base h.sz a b p hap hpb hb hsz).mono (fun _ _ ⟨he, h2⟩ => ?_)
  rw [hx] at he h2
  exact ⟨mid, ap, d4, he, r1, r2, r4, r5, fun L hp hs => ⟨(r6 L hp hs).1, fun R hR hsR => hL.2 R ((r6 L hp hs).2 R hR hsR).1 ((r6 L hp hs).2 R hR hsR).2⟩, fun L hp hs => ⟨(r7 L hp hs).1, fun R hR hsR => hL.2 R ((r7 L hp hs).2 R hR hsR).1 ((r7 L hp hs).2 R hR hsR).2⟩, h.back (by rw [r3]; exact h.sz) h2⟩
end
section
open Go.RowKit Go.Lib Go.Sort

/-- What pdqsort_func does with a range of the row. -/
def PdqAt (a b lim n : Nat) : Prop := ∀ (w0 : World) (g cap Bs : Nat) (d : Array Hs) (w : World), SW w0 g cap Bs d w → d.size = n → a ≤ b → b ≤ n → Sort.Below ltStr a b d →
    Calls Tryz.prog 65 #[.agg #[.func (.func 49) #[] #[.pointer (some ⟨Bs, 0, none⟩)], .func (.func 80) #[] #[.slice (some ⟨g, 0, none⟩) n cap, typeHandle Tryz.prog 40]], .int .i64 (a : Int), .int .i64 (b : Int), .int .i64 (lim : Int)] w fun e w' => e = .returned (.tuple #[]) ∧ ∃ d', PermIn a b d d' ∧ SortedIn ltStr a b d' ∧ SW w0 g cap Bs d' w'
theorem pdq_back {w0 : World} {g cap Bs B n : Nat} {d : Array Hs} {W : World} (h : SB w0 g cap Bs B n d W) (a b lim : Nat) (hp : PdqAt a b lim n) (hab : a ≤ b) (hb : b ≤ n) (hB : Sort.Below ltStr a b d) :
    Calls Tryz.prog 65 #[.agg #[.func (.func 49) #[] #[.pointer (some ⟨Bs, 0, none⟩)], .func (.func 80) #[] #[.slice (some ⟨g, 0, none⟩) n cap, typeHandle Tryz.prog 40]], .int .i64 (a : Int), .int .i64 (b : Int), .int .i64 (lim : Int)] W fun e w' => e = .returned (.tuple #[]) ∧ ∃ d', PermIn a b d d' ∧ SortedIn ltStr a b d' ∧ SB w0 g cap Bs B n d' w' :=
  (hp W g cap Bs d W h.base h.sz hab hb hB).mono (fun _ _ ⟨he, d', hp, hs, h2⟩ => ⟨he, d', hp, hs, h.back (by rw [hp.1]; exact h.sz) h2⟩)

set_option maxRecDepth 1000000 in
set_option maxHeartbeats 25600000 in
theorem pdq63_all (n : Nat) (hsz : n < 1152921504606846976) : ∀ (N a b lim : Nat), b - a < N → lim < 1152921504606846976 → PdqAt a b lim n := by
  have e51 : ∀ args w, (callFunc 49 args).run Tryz.prog w = .ok (.enter 49 args) w := enters_of Tryz.func49 (by kernel_rfl) rfl
  have e63 : ∀ args w, (callFunc 65 args).run Tryz.prog w = .ok (.enter 65 args) w := enters_of Tryz.func65 (by kernel_rfl) rfl
  have e77 : ∀ args w, (callFunc 83 args).run Tryz.prog w = .ok (.enter 83 args) w := enters_of Tryz.func83 (by kernel_rfl) rfl
  have e78 : ∀ args w, (callFunc 84 args).run Tryz.prog w = .ok (.enter 84 args) w := enters_of Tryz.func84 (by kernel_rfl) rfl
  have e79 : ∀ args w, (callFunc 85 args).run Tryz.prog w = .ok (.enter 85 args) w := enters_of Tryz.func85 (by kernel_rfl) rfl
  have e80 : ∀ args w, (callFunc 86 args).run Tryz.prog w = .ok (.enter 86 args) w := enters_of Tryz.func86 (by kernel_rfl) rfl
  have e81 : ∀ args w, (callFunc 87 args).run Tryz.prog w = .ok (.enter 87 args) w := enters_of Tryz.func87 (by kernel_rfl) rfl
  have e82 : ∀ args w, (callFunc 88 args).run Tryz.prog w = .ok (.enter 88 args) w := enters_of Tryz.func88 (by kernel_rfl) rfl
  have e83 : ∀ args w, (callFunc 89 args).run Tryz.prog w = .ok (.enter 89 args) w := enters_of Tryz.func89 (by kernel_rfl) rfl
  have e84 : ∀ args w, (callFunc 90 args).run Tryz.prog w = .ok (.enter 90 args) w := enters_of Tryz.func90 (by kernel_rfl) rfl
  have HS94 : Hid ((Tryz.prog.info? 105).map (·.size) = some 2) := by unfold Hid; kernel_rfl
  intro N
  induction N with
  | zero => intro a b lim h; exact absurd h (Nat.not_lt_zero _)
  | succ N ih =>
    intro a b lim hN hlim w0 g cap Bs d w h hn hab hb hBel
    have HIH := show Hid (∀ (a b lim : Nat), b - a < N → lim < 1152921504606846976 → PdqAt a b lim n) from ih
    have HS0 := show Hid (SB _ _ _ _ _ _ _ _) from SB.start h hn
    obtain ⟨B, hB⟩ : ∃ B, w.heap.size = B := ⟨_, rfl⟩
    have HBE := show Hid (Sort.Below ltStr a b d) from hBel
    clear h hn ih hBel
    unfold lessV swapV at HS0
    go_enter Tryz.func65, Tryz.ntmps65
    go_wp2_with fail
    rw [hB] at HS0
    obtain ⟨w1, hw1⟩ : ∃ w1, w.alloc (.cells #[.func (.func 49) #[] #[.pointer (some ⟨Bs, 0, none⟩)], .func (.func 80) #[] #[.slice (some ⟨g, 0, none⟩) n cap, typeHandle Tryz.prog 40]] 105) = w1 := ⟨_, rfl⟩
    rw [hw1] at HS0 ⊢
    clear hw1 hB
    go_loopg [1, 2, 3, 8, 9] (b - a) (fun k s1 s2 s3 s8 s9 wr => ∃ (a' b' lim' : Nat) (wb wp : Bool) (dk : Array Hs), s1 = .int .i64 (a' : Int) ∧ s2 = .int .i64 (b' : Int) ∧ s3 = .int .i64 (lim' : Int) ∧ s8 = .bool wb ∧ s9 = .bool wp ∧ a' ≤ b' ∧ b' ≤ n ∧ b' - a' ≤ k ∧ k ≤ b - a ∧ lim' ≤ lim ∧ Hid (SB w0 g cap Bs B n dk wr ∧ Left a b a' b' d dk))
    case atStart => exact ⟨a, b, lim, true, true, d, rfl, rfl, rfl, rfl, rfl, hab, hb, Nat.le_refl _, Nat.le_refl _, Nat.le_refl _, HS0.out, HBE.out, fun R h1 h2 => ⟨h1, h2⟩⟩
    case round =>
      obtain ⟨a', b', lim', wb, wp, dk, rfl, rfl, rfl, rfl, rfl, hab', hb', hk, hkN, hlim', HI⟩ := hrel
      have HD1 := show Hid _ from HI.out.1.data'
      by_cases h12 : b' - a' ≤ 12
      · have h12z : (b' : Int) - (a' : Int) ≤ 12 := by omega
        have C := show Hid _ from ins_back HI.out.1 a' b' hab' hb' hsz
        go_wp2_with (first
          | (refine wpList_load_row rfl 105 (.tmp 4) rfl B rfl 105 _ (0, 0) _ HD1.out Tryz.underlying105 rfl HS94.out ?_)
          | (go_at_call 83; refine Calls.mono C.out ?_; rintro e w2 ⟨rfl, d2, hp2, hs2, h2⟩; have H2 := show Hid _ from And.intro hp2 (And.intro hs2 h2); clear hp2 hs2 h2))
        (try simp only [Exit.inBlock, Exit.then]); refine bodyPost_ret (results_none rfl _ _ _) rfl ?_
        exact ⟨rfl, d2, (HI.out.2.2 d2 H2.out.1 H2.out.2.1).1, (HI.out.2.2 d2 H2.out.1 H2.out.2.1).2, H2.out.2.2.sw⟩
      · have h12z : ¬ ((b' : Int) - (a' : Int) ≤ 12) := by omega
        by_cases hl0 : lim' = 0
        · subst hl0
          have C := show Hid _ from heap_back HI.out.1 a' b' hab' hb' hsz
          go_wp2_with (first
            | (refine wpList_load_row rfl 105 (.tmp 4) rfl B rfl 105 _ (0, 0) _ HD1.out Tryz.underlying105 rfl HS94.out ?_)
            | (go_at_call 84; refine Calls.mono C.out ?_; rintro e w2 ⟨rfl, d2, hp2, hs2, h2⟩; have H2 := show Hid _ from And.intro hp2 (And.intro hs2 h2); clear hp2 hs2 h2))
          (try simp only [Exit.inBlock, Exit.then]); refine bodyPost_ret (results_none rfl _ _ _) rfl ?_
          exact ⟨rfl, d2, (HI.out.2.2 d2 H2.out.1 H2.out.2.1).1, (HI.out.2.2 d2 H2.out.1 H2.out.2.1).2, H2.out.2.2.sw⟩
        · have hl0z : ¬ ((lim' : Int) = 0) := by omega
          go_upto_if 35 with fail
          go_cut [3] from 19 (fun s3 wc => ∃ (l3 : Nat) (d1 : Array Hs), s3 = .int .i64 (l3 : Int) ∧ l3 ≤ lim ∧ Hid (SB w0 g cap Bs B n d1 wc ∧ Left a b a' b' d d1))
          case first =>
            cases wb
            · have C := show Hid _ from brk_back HI.out.1 a' b' (by omega) hb' hsz
              go_wp2_with (first
                | (refine wpList_load_row rfl 105 (.tmp 4) rfl B rfl 105 _ (0, 0) _ HD1.out Tryz.underlying105 rfl HS94.out ?_)
                | (go_at_call 85; refine Calls.mono C.out ?_; rintro e w2 ⟨rfl, d2, hp2, h2⟩; have H2 := show Hid _ from And.intro hp2 h2; clear hp2 h2))
              go_meet
              case rel => exact ⟨lim' - 1, d2, by congr 1; omega, by omega, H2.out.2, HI.out.2.perm (by rw [HI.out.1.sz]; exact hb') H2.out.1⟩
            · go_wp2_with fail
              go_meet
              case rel => exact ⟨lim', dk, rfl, hlim', HI.out⟩
          case rest =>
            obtain ⟨l3, d1, rfl, hl3, HJ⟩ := hcut
            clear HI HD1
            have HD1 := show Hid _ from HJ.out.1.data'
            have C := show Hid _ from piv_back HJ.out.1 a' b' (by omega) hb' hsz
            go_upto_if 50 with (first
              | (refine wpList_load_row rfl 105 (.tmp 4) rfl B rfl 105 _ (0, 0) _ HD1.out Tryz.underlying105 rfl HS94.out ?_)
              | (go_at_call 86; refine Calls.mono C.out ?_; rintro e w2 ⟨p, hh, rfl, hp1, hp2, hh2, h2⟩; have HS2 := show Hid (SB _ _ _ _ _ _ _ _) from h2; have HD2 := show Hid _ from h2.data'; clear h2))
            go_cut [11, 12] from 19 (fun s11 s12 wc => ∃ (p2 hh2 : Nat) (d2 : Array Hs), s11 = .int .i64 (p2 : Int) ∧ s12 = .int .i64 (hh2 : Int) ∧ a' ≤ p2 ∧ p2 < b' ∧ hh2 ≤ 1 ∧ Hid (SB w0 g cap Bs B n d2 wc ∧ Left a b a' b' d d2))
            case first =>
              by_cases hd : hh = 2
              · have hdz : (hh : Int) = 2 := by omega
                have C2 := show Hid _ from rev_back HS2.out a' b' (by omega) hb' hsz
                go_wp2_with (first
                  | (refine wpList_load_row rfl 105 (.tmp 4) rfl B rfl 105 _ (0, 0) _ HD2.out Tryz.underlying105 rfl HS94.out ?_)
                  | (go_at_call 87; refine Calls.mono C2.out ?_; rintro e w3 ⟨rfl, d3, hp3, h3⟩; have H3 := show Hid _ from And.intro hp3 h3; clear hp3 h3))
                go_meet
                case rel => exact ⟨b' - 1 - (p - a'), 1, d3, by congr 1; omega, rfl, by omega, by omega, Nat.le_refl _, H3.out.2, HJ.out.2.perm (by rw [HJ.out.1.sz]; exact hb') H3.out.1⟩
              · have hdz : ¬ ((hh : Int) = 2) := by omega
                go_wp2_with fail
                go_meet
                case rel => exact ⟨p, hh, d1, rfl, rfl, hp1, hp2, by omega, HS2.out, HJ.out.2⟩
            case rest =>
              obtain ⟨p2, hh2', d2, rfl, rfl, hq1, hq2, hq3, HK⟩ := hcut
              clear HJ HD1 HS2 HD2 C
              have HD2 := show Hid _ from HK.out.1.data'
              go_upto_region 16 with fail
              go_cut [12, 68] from 19 (fun s12 s68 wx => ∃ t : Bool, s12 = .int .i64 (hh2' : Int) ∧ s68 = .bool t ∧ wx = wc)
              case first =>
                have hc3 : hh2' = 0 ∨ hh2' = 1 := by omega
                cases wb <;> cases wp <;> rcases hc3 with hc3 | hc3 <;> subst hc3 <;>
                  (go_wp2_with fail
                   go_meet
                   exact ⟨_, rfl, rfl, rfl⟩)
              case rest =>
                obtain ⟨t, rfl, rfl, rfl⟩ := hcut
                go_upto_if 68 with fail
                go_cut [] from 19 (fun wx => ∃ d3, Hid (SB w0 g cap Bs B n d3 wx ∧ Left a b a' b' d d3))
                case first =>
                  cases t
                  · go_wp2_with fail
                    go_meet
                    case rel => exact ⟨d2, HK.out⟩
                  · have C := show Hid _ from pins_back HK.out.1 a' b' (by omega) hb' hsz HK.out.2.1
                    go_wp2_with (first
                      | (refine wpList_load_row rfl 105 (.tmp 4) rfl B rfl 105 _ (0, 0) _ HD2.out Tryz.underlying105 rfl HS94.out ?_)
                      | (go_at_call 88; refine Calls.mono C.out ?_; rintro e w4 ⟨r4, d4, rfl, hp4, hs4, h4⟩; have H4 := show Hid _ from And.intro hp4 (And.intro hs4 h4); clear hp4 hs4 h4; cases r4))
                    · go_meet
                      exact ⟨d4, H4.out.2.2, HK.out.2.perm (by rw [HK.out.1.sz]; exact hb') H4.out.1⟩
                    · (try simp only [Exit.inBlock, Exit.then]); refine bodyPost_ret (results_none rfl _ _ _) rfl ?_
                      exact ⟨rfl, d4, (HK.out.2.2 d4 H4.out.1 (H4.out.2.1 trivial)).1, (HK.out.2.2 d4 H4.out.1 (H4.out.2.1 trivial)).2, H4.out.2.2.sw⟩
                case rest =>
                  obtain ⟨d3, HM⟩ := hcut
                  clear HK HD2
                  have HD3 := show Hid _ from HM.out.1.data'
                  have k0 := HM.out.1.row.cell (j := 0) rfl
                  unfold lessV at k0
                  go_upto_region 18 with fail
                  go_cut [83] from 19 (fun s83 wx => ∃ t : Bool, s83 = .bool t ∧ Hid ((t = true → 0 < a' ∧ ltStr d3[a' - 1]! d3[p2]! = false) ∧ SB w0 g cap Bs B n d3 wx ∧ Left a b a' b' d d3))
                  case first =>
                    rcases Nat.eq_zero_or_pos a' with ha0 | ha0
                    · have ha0z : decide ((a' : Int) > 0) = false := decide_eq_false (by omega)
                      go_wp2_with fail
                      go_meet
                      case rel => exact ⟨_, rfl, fun ht => by simp at ht, HM.out⟩
                    · have ha0z : (a' : Int) > 0 := by omega
                      cases hlv : ltStr d3[a' - 1]! d3[p2]! <;>
                        (have C := show Hid _ from lessAt (i := a' - 1) (j := p2) (by omega) (by omega) hlv _ HM.out.1
                         rw [show ((a' - 1 : Nat) : Int) = (a' : Int) - 1 by omega] at C
                         go_wp2_with (go_at_fn 49; refine Calls.mono C.out ?_; rintro e w5 ⟨rfl, h5⟩; have HS5 := show Hid (SB _ _ _ _ _ _ _ _) from h5; clear h5)
                         go_meet
                         exact ⟨_, rfl, fun ht => by first | exact ⟨ha0, hlv⟩ | simp at ht, HS5.out, HM.out.2⟩)
                  case rest =>
                    obtain ⟨t5, rfl, HP⟩ := hcut
                    clear HM HD3 k0
                    have HD5 := show Hid _ from HP.out.2.1.data'
                    cases t5 with
                    | true =>
                      have C := show Hid _ from peq_back HP.out.2.1 a b d a' b' p2 (HP.out.1 rfl).1 hq1 hq2 hb' hsz HP.out.2.2 (HP.out.1 rfl).2
                      go_wp2_with (first
                        | (refine wpList_load_row rfl 105 (.tmp 4) rfl B rfl 105 _ (0, 0) _ HD5.out Tryz.underlying105 rfl HS94.out ?_)
                        | (go_at_call 89; refine Calls.mono C.out ?_; rintro e w6 ⟨mid, d6, rfl, hm1, hm2, hL6, h6⟩; have H6 := show Hid _ from And.intro h6 hL6; clear h6 hL6))
                      go_roundg (b' - mid)
                      case measure => omega
                      case rel => exact ⟨mid, b', l3, wb, wp, d6, rfl, rfl, rfl, rfl, rfl, hm2, hb', Nat.le_refl _, by omega, hl3, H6.out⟩
                    | false =>
                      have C := show Hid _ from part_back HP.out.2.1 a b d a' b' p2 hq1 hq2 hb' hsz HP.out.2.2
                      go_upto_if 109 with (first
                        | (refine wpList_load_row rfl 105 (.tmp 4) rfl B rfl 105 _ (0, 0) _ HD5.out Tryz.underlying105 rfl HS94.out ?_)
                        | (go_at_call 90; refine Calls.mono C.out ?_; rintro e w6 ⟨mid, ap, d6, rfl, hm1, hm2, hB1, hB2, hL1, hL2, h6⟩; have HB1 := show Hid _ from hB1; have HB2 := show Hid _ from hB2; have HL1 := show Hid _ from hL1; have HL2 := show Hid _ from hL2; have HS6 := show Hid (SB _ _ _ _ _ _ _ _) from h6; have HD6 := show Hid _ from h6.data'; clear h6; clear hB1 hB2 hL1 hL2))
                      by_cases h4 : mid - a' < b' - mid
                      · have h4z : (mid : Int) - (a' : Int) < (b' : Int) - (mid : Int) := by omega
                        have C2 := show Hid _ from pdq_back HS6.out a' mid l3 (HIH.out a' mid l3 (by omega) (by omega)) hm1 (by omega) HB1.out
                        go_wp2_with (first
                          | (refine wpList_load_row rfl 105 (.tmp 4) rfl B rfl 105 _ (0, 0) _ HD6.out Tryz.underlying105 rfl HS94.out ?_)
                          | (go_at_call 65; refine Calls.mono C2.out ?_; rintro e w7 ⟨rfl, d7, hp7, hs7, h7⟩; have H7 := show Hid _ from And.intro h7 (HL1.out d7 hp7 hs7); clear hp7 hs7 h7))
                        go_roundg (b' - (mid + 1))
                        case measure => omega
                        case rel => exact ⟨mid + 1, b', l3, _, ap, d7, by go_num, rfl, rfl, rfl, rfl, by omega, hb', Nat.le_refl _, by omega, hl3, H7.out⟩
                      · have h4z : ¬ ((mid : Int) - (a' : Int) < (b' : Int) - (mid : Int)) := by omega
                        have C2 := show Hid _ from pdq_back HS6.out (mid + 1) b' l3 (HIH.out (mid + 1) b' l3 (by omega) (by omega)) (by omega) hb' HB2.out
                        rw [show ((mid + 1 : Nat) : Int) = (mid : Int) + 1 by omega] at C2
                        go_wp2_with (first
                          | (refine wpList_load_row rfl 105 (.tmp 4) rfl B rfl 105 _ (0, 0) _ HD6.out Tryz.underlying105 rfl HS94.out ?_)
                          | (go_at_call 65; refine Calls.mono C2.out ?_; rintro e w7 ⟨rfl, d7, hp7, hs7, h7⟩; have H7 := show Hid _ from And.intro h7 (HL2.out d7 hp7 hs7); clear hp7 hs7 h7))
                        go_roundg (mid - a')
                        case measure => omega
                        case rel => exact ⟨a', mid, l3, _, ap, d7, rfl, rfl, rfl, rfl, rfl, hm1, by omega, Nat.le_refl _, by omega, hl3, H7.out⟩

set_option maxRecDepth 100000 in
theorem sortOK_all (m : Nat) (hm : m < 1152921504606846976) : SortOK m := fun w0 g cap Bs d w hd h => by
  by_cases h2 : 2 ≤ d.size
  · obtain ⟨i22, hi22, hd22⟩ := Option.map_eq_some_iff.1 (show (Tryz.prog.info? 26).map (·.desc) = some (.slice 40) by kernel_rfl)
    obtain ⟨i24, hi24, hx⟩ := Option.map_eq_some_iff.1 (show (Tryz.prog.info? 40).map (fun i => (i.hasPointers, i.bytes)) = some (false, 32) by kernel_rfl)
    simp only [Prod.mk.injEq] at hx
    refine Any.sort_Slice_of_pdq sh_sl6 26 40 i22 i24 hi22 hd22 (by kernel_rfl) hi24 17 (fun _ => by kernel_rfl) (some ⟨g, 0, none⟩) d.size cap (by omega) 80 (by rw [swapper9 h2 hx.1 hx.2]; kernel_rfl) (.func 49) #[] #[.pointer (some ⟨Bs, 0, none⟩)] w
      (fun w' => ∃ d', PermIn 0 d.size d d' ∧ SortedIn ltStr 0 d.size d' ∧ SW w0 g cap Bs d' w') ?_
    have hB : sliceBound Tryz.prog 40 i24 17 (some ⟨g, 0, none⟩) d.size cap = #[.slice (some ⟨g, 0, none⟩) d.size cap, typeHandle Tryz.prog 40] := by
      unfold sliceBound; rw [swapper9 h2 hx.1 hx.2]; rfl
    rw [hB]
    unfold sliceWorld
    have hl : Lib.bitLen d.size ≤ 60 := by rw [bitLen_eq _ (by omega)]; exact (bitsLen_le_iff _ _).2 (by omega)
    exact pdq63_all d.size (by omega) (d.size + 1) 0 d.size _ (by omega) (by omega) w0 g cap Bs d _ (h.after (after_alloc (after_alloc (After.refl w) _) _)) rfl (Nat.zero_le _) (Nat.le_refl _) (Or.inl rfl)
  · have hf : d.size ≤ 12 := by omega
    exact sortOK12 w0 g cap Bs d w hf h
end
end Go.Proofs.YtcmcapcagblafaaGreat
