/-
  THE WALK OF sort.insertionSort_func.
-/
import Derived.Test.YtgcgblecendijaaSortI
namespace Go.Proofs.Ytgcgblecendijaa
open Go.RowKit Go.Sort Go.Lib
theorem ltB_str : ∀ (a b : Hs), a.length = b.length → ltB a b = ltStr a b
  | [], [], _ => by decide
  | [], _ :: _, h => by simp at h
  | _ :: _, [], h => by simp at h
  | x :: xs, y :: ys, h => by
    have ih := ltB_str xs ys (by simpa using h)
    unfold ltB
    by_cases e : x = y
    · subst e
      rw [if_pos rfl, ih]
      simp [ltStr]
    · rw [if_neg e]
      simp [ltStr, List.cons_lt_cons_iff, e]
def lessV (Bs : Nat) : Value := .func (.func 39) #[] #[.pointer (some ⟨Bs, 0, none⟩)]
def swapV (th : Value) (g cap n : Nat) : Value := .func (.func 60) #[] #[.slice (some ⟨g, 0, none⟩) n cap, th]
/-- The sort's world with its own variable data in block B. -/
structure SB (w0 : World) (g cap Bs B n : Nat) (d : Array Hs) (W : World) : Prop where
  sw : SW w0 g cap Bs d W
  sz : d.size = n
  gB : g ≠ B
  row : RowIs W B 91 [lessV Bs, swapV (typeHandle Try.prog 29) g cap n]
theorem SB.after {w0 : World} {g cap Bs B n : Nat} {d : Array Hs} {W W' : World} (h : SB w0 g cap Bs B n d W) (ha : After W W') : SB w0 g cap Bs B n d W' :=
  ⟨h.sw.after ha, h.sz, h.gB, h.row.below ha h.row.lt⟩
theorem SB.swapped {w0 : World} {g cap Bs B n : Nat} {d : Array Hs} {W : World} (h : SB w0 g cap Bs B n d W) {i j : Nat} (hi : i < n) (hj : j < n) :
    SB w0 g cap Bs B n (swp d i j) ((W.setCells g (0 + i * 32) (c8 d[j]!)).setCells g (0 + j * 32) (c8 d[i]!)) := by
  have hlt := h.row.lt
  refine ⟨h.sw.swapped (by rw [h.sz]; exact hi) (by rw [h.sz]; exact hj), by rw [size_swp]; exact h.sz, h.gB, ?_⟩
  unfold RowIs
  have s1 := (World.keptBut_setCells g (may := fun _ => True) (c8 d[j]!) (0 + i * 32) W (fun _ _ => trivial)).size
  rw [World.heap_setCells_other _ g _ _ (by omega) (Ne.symm h.gB), World.heap_setCells_other _ g _ _ hlt (Ne.symm h.gB)]
  exact h.row
theorem SB.less {w0 : World} {g cap Bs B n : Nat} {d : Array Hs} {W : World} (h : SB w0 g cap Bs B n d W) {i j : Nat} (hi : i < n) (hj : j < n) :
    Calls Try.prog 39 #[.int .i64 (i : Int), .int .i64 (j : Int), .pointer (some ⟨Bs, 0, none⟩)] W fun e w' => e = .returned (.bool (ltStr d[i]! d[j]!)) ∧ SB w0 g cap Bs B n d w' :=
  (less51 h.sw (by rw [h.sz]; exact hi) (by rw [h.sz]; exact hj)).mono (fun _ _ ⟨he, ha⟩ => ⟨by rw [he, ltB_str _ _ (by rw [h.sw.len (by rw [h.sz]; exact hi), h.sw.len (by rw [h.sz]; exact hj)])], h.after ha⟩)
theorem SB.swap {w0 : World} {g cap Bs B n : Nat} {d : Array Hs} {W : World} (h : SB w0 g cap Bs B n d W) {i j : Nat} (hi : i < n) (hj : j < n) :
    ∃ W', (callFunc 60 #[.int .i64 (i : Int), .int .i64 (j : Int), .slice (some ⟨g, 0, none⟩) n cap, typeHandle Try.prog 29]).run Try.prog W = .ok (.value (.tuple #[])) W' ∧ SB w0 g cap Bs B n (swp d i j) W' := by
  have := swap74 h.sw (i := i) (j := j) (by rw [h.sz]; exact hi) (by rw [h.sz]; exact hj)
  rw [h.sz] at this
  exact ⟨_, this, h.swapped hi hj⟩
theorem SB.start {w0 : World} {g cap Bs n : Nat} {d : Array Hs} {w : World} (h : SW w0 g cap Bs d w) (hn : d.size = n) : SB w0 g cap Bs w.heap.size n d (w.alloc (.cells #[lessV Bs, swapV (typeHandle Try.prog 29) g cap n] 91)) :=
  ⟨h.after (after_alloc (After.refl w) _), hn, by have := (World.ownsRow.lt h.own g rfl).2; omega, RowIs.new w 91 [lessV Bs, swapV (typeHandle Try.prog 29) g cap n]⟩
set_option maxRecDepth 100000 in
set_option maxHeartbeats 3200000 in
theorem ins77 {w0 : World} {g cap Bs n : Nat} {d : Array Hs} {w : World} (h : SW w0 g cap Bs d w) (hn : d.size = n) (a b : Nat) (hab : a ≤ b) (hb : b ≤ n) (hsz : n < 4611686018427387904) :
    Calls Try.prog 63 #[.agg #[lessV Bs, swapV (typeHandle Try.prog 29) g cap n], .int .i64 (a : Int), .int .i64 (b : Int)] w fun e w' => e = .returned (.tuple #[]) ∧ SW w0 g cap Bs (insertionSort ltStr d a b) w' := by
  have HS0 := show Hid (SB _ _ _ _ _ _ _ _) from SB.start h hn
  obtain ⟨B, hB⟩ : ∃ B, w.heap.size = B := ⟨_, rfl⟩
  have e51 : ∀ args w, (callFunc 39 args).run Try.prog w = .ok (.enter 39 args) w := enters_of Try.func39 (by kernel_rfl) rfl
  clear h hn
  unfold lessV swapV at HS0 ⊢
  go_enter Try.func63, Try.ntmps63
  go_wp2
  rw [hB] at HS0
  obtain ⟨w1, hw1⟩ : ∃ w1, w.alloc (.cells #[.func (.func 39) #[] #[.pointer (some ⟨Bs, 0, none⟩)], .func (.func 60) #[] #[.slice (some ⟨g, 0, none⟩) n cap, typeHandle Try.prog 29]] 91) = w1 := ⟨_, rfl⟩
  rw [hw1] at HS0 ⊢
  clear hw1 hB
  go_loopw [6] (fun vi wr => ∃ (i : Nat) (dk : Array Hs), vi = .int .i64 (i : Int) ∧ a < i ∧ i ≤ b + 1 ∧ Hid (SB w0 g cap Bs B n dk wr ∧ insOuter ltStr a b i dk = insOuter ltStr a b (a + 1) d)) (fun vi _ => b + 1 - (intOf vi).toNat)
  case atStart => exact ⟨a + 1, d, by go_num, by omega, by omega, HS0.out, rfl⟩
  case round =>
    obtain ⟨i, dk, rfl, hai, hib, HI⟩ := hrel
    by_cases hlt : i < b
    · have hii : (i : Int) < (b : Int) := by omega
      go_wp2_with fail
      go_loopw [7] (fun vj wr => ∃ (j : Nat) (dj : Array Hs), vj = .int .i64 (j : Int) ∧ a ≤ j ∧ j ≤ i ∧ Hid (SB w0 g cap Bs B n dj wr ∧ insInner ltStr a j dj = insInner ltStr a i dk)) (fun vj _ => (intOf vj).toNat)
      case atStart => exact ⟨i, dk, rfl, by omega, Nat.le_refl _, HI.out.1, rfl⟩
      case round =>
        obtain ⟨j, dj, rfl, haj, hji, HJ⟩ := hrel
        have hr := HJ.out.1.row
        have c0 := hr.cell (j := 0) rfl
        have c1 := hr.cell (j := 1) rfl
        unfold lessV at c0
        unfold swapV at c1
        have OUT : Hid (∀ (wx : World) , SB w0 g cap Bs B n dj wx → (j ≤ a ∨ ltStr dj[j]! dj[j - 1]! = false) → SB w0 g cap Bs B n dj wx ∧ insOuter ltStr a b (i + 1) dj = insOuter ltStr a b (a + 1) d) := fun wx hx hs =>
          ⟨hx, by rw [← HI.out.2, insOuter_go _ _ _ _ _ hlt, ← HJ.out.2, insInner_stop _ _ _ _ hs]⟩
        clear hr
        by_cases hja : a < j
        · have hjai : (a : Int) < (j : Int) := by omega
          obtain ⟨p, hp⟩ : ∃ p, j - 1 = p := ⟨_, rfl⟩
          have hpi : (j : Int) - 1 = (p : Int) := by omega
          have HC := show Hid _ from HJ.out.1.less (i := j) (j := p) (by omega) (by omega)
          have HP : Hid (j - 1 = p) := hp
          have hpj : p < j := by omega
          clear hp
          cases hlv : ltStr dj[j]! dj[p]! with
          | true =>
            rw [hlv] at HC
            have HLV : Hid (ltStr dj[j]! dj[p]! = true) := hlv
            clear hlv
            go_wp2_with (go_at_fn 39; refine Calls.mono HC.out ?_; rintro e w2 ⟨rfl, h2⟩; have HS2 := show Hid (SB _ _ _ _ _ _ _ _) from h2; have hr2 := h2.row; have k1 := hr2.cell (j := 1) rfl; unfold swapV at k1; obtain ⟨w3, hsw, h3⟩ := h2.swap (i := j) (j := p) (by omega) (by omega); have HS3 := show Hid (SB _ _ _ _ _ _ _ _) from h3; clear h2 hr2 h3)
            refine ⟨⟨p, swp dj j p, rfl, by omega, by omega, HS3.out, ?_⟩, by simp [intOf]; omega⟩
            have hg := insInner_go (lt := ltStr) a j dj hja (by rw [HP.out]; exact HLV.out)
            rw [HP.out] at hg
            rw [← HJ.out.2, hg]
          | false =>
            rw [hlv] at HC
            have HLV : Hid (ltStr dj[j]! dj[j - 1]! = false) := by rw [HP.out]; exact hlv
            clear hlv
            go_wp2_with (go_at_fn 39; refine Calls.mono HC.out ?_; rintro e w2 ⟨rfl, h2⟩; have HS2 := show Hid (SB _ _ _ _ _ _ _ _) from h2; clear h2)
            go_roundw
            case rel => exact ⟨i + 1, dj, by go_num, by omega, by omega, OUT.out w2 HS2.out (Or.inr HLV.out)⟩
            case measure => simp [intOf]; omega
        · have hjai : ¬ (a : Int) < (j : Int) := by omega
          go_wp2
          go_roundw
          case rel => exact ⟨i + 1, dj, by go_num, by omega, by omega, OUT.out _ HJ.out.1 (Or.inl (by omega))⟩
          case measure => simp [intOf]; omega
    · have hii : ¬ (i : Int) < (b : Int) := by omega
      go_wp2
      go_end0
      exact ⟨rfl, by unfold insertionSort; rw [← HI.out.2, insOuter_stop _ _ _ _ _ hlt]; exact HI.out.1.sw⟩
end Go.Proofs.Ytgcgblecendijaa
