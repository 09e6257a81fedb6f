/-
  THE WALK OF whole.
-/
import Derived.Test.YtjmjianilcdphaaLaidWalk
namespace Go.Proofs.Ytjmjianilcdphaa
open Go.RowKit Leb
set_option maxRecDepth 100000 in
set_option maxHeartbeats 1600000 in
theorem whole_any (a1 a2 : Option Addr) (c1 c2 : Nat) (ps : List (UInt8 × List UInt8)) (m : Nat) (hm : m ≤ ps.length) (hn : ps.length ≤ 1048576) (w : World) (h1 : FramesAt w a1 (norm (ps.take m))) (h2 : PiecesIn w a2 ps) :
    Calls Try.prog 20 #[.slice a1 m c1, .slice a2 ps.length c2] w fun e w' => e = .returned (.bool true) ∧ Below w.heap.size w w' := by
  have H1 : Hid (FramesAt w a1 (norm (ps.take m))) := h1
  have H2 : Hid (PiecesIn w a2 ps) := h2
  obtain ⟨n, hn'⟩ : ∃ n, ps.length = n := ⟨_, rfl⟩
  have HN : Hid (ps.length = n) := hn'
  rw [hn'] at hn hm ⊢
  have hd : decide (n < m) = false := by simp; omega
  clear h1 h2 hn'
  go_enter Try.func20, Try.ntmps20
  go_wp2
  clear hd
  go_loopw [5] (fun i wr => ∃ j : Nat, j ≤ m ∧ i = .int .i64 j ∧ Hid (After w wr)) (fun i _ => m - (intOf i).toNat)
  case atStart => exact ⟨0, by omega, rfl, After.refl _⟩
  case round =>
    obtain ⟨j, hj, rfl, HA⟩ := hrel
    by_cases hlt : j < m
    · have hjl : j < ps.length := (by rw [HN.out]; omega)
      have hne : ps ≠ [] := (by intro h; rw [h] at hjl; simp at hjl)
      obtain ⟨p, hp⟩ : ∃ p, ps[j]? = some p := ⟨_, List.getElem?_eq_getElem hjl⟩
      obtain ⟨k, D⟩ := p
      have hfp : (norm (ps.take m))[j]? = some (mk k, D) := (by unfold norm; rw [List.getElem?_map, List.getElem?_take, if_pos hlt, hp]; rfl)
      obtain ⟨g1, rfl, hc1⟩ := H1.out (by intro h; rw [h] at hfp; simp at hfp)
      obtain ⟨g2, off, rfl, hc2⟩ := H2.out hne
      obtain ⟨b1, d1, e1, e2, e3⟩ := hc1 j _ hfp
      obtain ⟨b2, d2, f1, f2, f3⟩ := hc2 j _ hp
      simp only at e1 e2 e3 f1 f2 f3
      have hjn : j < n := (by omega)
      have cl : ∀ {W : World} {q : Addr} {v : Value}, After w W → w.cell? q = some v → W.cell? q = some v := fun hW hq => (Below.cell hW (block_lt_of_cell hq)).trans hq
      have E1 := show Hid _ from fun W (hW : After w W) => cl hW e1
      have E2 := show Hid _ from fun W (hW : After w W) => cl hW e2
      have F1 := show Hid _ from fun W (hW : After w W) => cl hW f1
      have F2 := show Hid _ from fun W (hW : After w W) => cl hW f2
      have E3 := show Hid _ from fun W (hW : After w W) => conv_at d1 (e3.after hW)
      have F3 := show Hid _ from fun W (hW : After w W) => conv_at d2 (f3.after hW)
      clear cl e1 e2 e3 f1 f2 f3 hc1 hc2 hp hne hjl hfp
      go_wp2
      refine wp_region_noPanic ?_
      refine wp_region_held_drew (S := After w) (by kernel_rfl) (After.drew HA.out) ?_
      intro hS
      refine tk 0 17 (.slice (some ⟨g1, 0, none⟩) m c1) (fuel := 26) rfl (by kernel_rfl) (by kernel_rfl) (by kernel_rfl) (by kernel_rfl) noPanic_false (by kernel_rfl) (fun _ _ => by kernel_rfl) hS ?_
      refine tk 1 18 (.int .i64 (j : Int)) (fuel := 25) rfl (by kernel_rfl) (by kernel_rfl) (by kernel_rfl) (by kernel_rfl) noPanic_false (by kernel_rfl) (fun _ _ => by kernel_rfl) hS ?_
      refine tk 2 19 (.pointer (some ⟨g1, j * 2, none⟩)) (fuel := 24) rfl (by kernel_rfl) (by kernel_rfl) (by kernel_rfl) (by kernel_rfl) noPanic_false (by kernel_rfl) (fun _ _ => x_indexF 40 33 Try.underlying40 size33' (x := .tmp 17) (y := .tmp 18) (g := g1) (n := m) (c := c1) (j := j) (by kernel_rfl) (by kernel_rfl) (by kernel_rfl) hlt) hS ?_
      refine tk 3 20 (.pointer (some ⟨g1, j * 2, none⟩)) (fuel := 23) rfl (by kernel_rfl) (by kernel_rfl) (by kernel_rfl) (by kernel_rfl) noPanic_false (by kernel_rfl) (fun _ _ => x_fieldF0 (t := 33) (.inl rfl) (x := .tmp 19) (g := g1) (p := j * 2) (by kernel_rfl) (by kernel_rfl)) hS ?_
      refine tk 4 21 (.int .u8 ((mk k).toNat : Int)) (fuel := 22) rfl (by kernel_rfl) (by kernel_rfl) (by kernel_rfl) (by kernel_rfl) noPanic_false (by kernel_rfl) (fun W hW => x_load5 (x := .tmp 20) (g := g1) (p := j * 2) (by kernel_rfl) (by kernel_rfl) (E1.out W hW)) hS ?_
      refine tk 5 22 (.slice (some ⟨g2, off, none⟩) n c2) (fuel := 21) rfl (by kernel_rfl) (by kernel_rfl) (by kernel_rfl) (by kernel_rfl) noPanic_false (by kernel_rfl) (fun _ _ => by kernel_rfl) hS ?_
      refine tk 6 23 (.int .i64 (j : Int)) (fuel := 20) rfl (by kernel_rfl) (by kernel_rfl) (by kernel_rfl) (by kernel_rfl) noPanic_false (by kernel_rfl) (fun _ _ => by kernel_rfl) hS ?_
      refine tk 7 24 (.pointer (some ⟨g2, off + j * 2, none⟩)) (fuel := 19) rfl (by kernel_rfl) (by kernel_rfl) (by kernel_rfl) (by kernel_rfl) noPanic_false (by kernel_rfl) (fun _ _ => x_indexP (x := .tmp 22) (y := .tmp 23) (b := g2) (off := off) (n := n) (c := c2) (j := j) (by kernel_rfl) (by kernel_rfl) (by kernel_rfl) hjn) hS ?_
      refine tk 8 25 (.pointer (some ⟨g2, off + j * 2, none⟩)) (fuel := 18) rfl (by kernel_rfl) (by kernel_rfl) (by kernel_rfl) (by kernel_rfl) noPanic_false (by kernel_rfl) (fun _ _ => x_fieldP0 (x := .tmp 24) (g := g2) (p := off + j * 2) (by kernel_rfl) (by kernel_rfl)) hS ?_
      refine tk 9 26 (.int .u8 (k.toNat : Int)) (fuel := 17) rfl (by kernel_rfl) (by kernel_rfl) (by kernel_rfl) (by kernel_rfl) noPanic_false (by kernel_rfl) (fun W hW => x_load5 (x := .tmp 25) (g := g2) (p := off + j * 2) (by kernel_rfl) (by kernel_rfl) (F1.out W hW)) hS ?_
      refine tk 10 27 (.int .u8 ((mk k).toNat : Int)) (fuel := 16) rfl (by kernel_rfl) (by kernel_rfl) (by kernel_rfl) (by kernel_rfl) noPanic_false (by kernel_rfl) (fun _ _ => x_max (x := .tmp 26) (k := k) (by kernel_rfl) (by kernel_rfl)) hS ?_
      refine tk 11 28 (.bool false) (fuel := 15) rfl (by kernel_rfl) (by kernel_rfl) (by kernel_rfl) (by kernel_rfl) noPanic_false (by kernel_rfl) (fun _ _ => x_neq5f (x := .tmp 21) (y := .tmp 27) (z := ((mk k).toNat : Int)) (by kernel_rfl) (by kernel_rfl) (by kernel_rfl)) hS ?_
      refine tk 12 29 (.bool false) (fuel := 14) rfl (by kernel_rfl) (by kernel_rfl) (by kernel_rfl) (by kernel_rfl) noPanic_false (by kernel_rfl) (fun _ _ => by kernel_rfl) hS ?_
      refine tk 13 30 (.slice (some ⟨g1, 0, none⟩) m c1) (fuel := 13) rfl (by kernel_rfl) (by kernel_rfl) (by kernel_rfl) (by kernel_rfl) noPanic_false (by kernel_rfl) (fun _ _ => by kernel_rfl) hS ?_
      refine tk 14 31 (.int .i64 (j : Int)) (fuel := 12) rfl (by kernel_rfl) (by kernel_rfl) (by kernel_rfl) (by kernel_rfl) noPanic_false (by kernel_rfl) (fun _ _ => by kernel_rfl) hS ?_
      refine tk 15 32 (.pointer (some ⟨g1, j * 2, none⟩)) (fuel := 11) rfl (by kernel_rfl) (by kernel_rfl) (by kernel_rfl) (by kernel_rfl) noPanic_false (by kernel_rfl) (fun _ _ => x_indexF 40 33 Try.underlying40 size33' (x := .tmp 30) (y := .tmp 31) (g := g1) (n := m) (c := c1) (j := j) (by kernel_rfl) (by kernel_rfl) (by kernel_rfl) hlt) hS ?_
      refine tk 16 33 (.pointer (some ⟨g1, j * 2 + 1, none⟩)) (fuel := 10) rfl (by kernel_rfl) (by kernel_rfl) (by kernel_rfl) (by kernel_rfl) noPanic_false (by kernel_rfl) (fun _ _ => x_fieldF1 (t := 33) (.inl rfl) (x := .tmp 32) (g := g1) (p := j * 2) (by kernel_rfl) (by kernel_rfl)) hS ?_
      refine tk 17 34 (.slice b1 D.length d1) (fuel := 9) rfl (by kernel_rfl) (by kernel_rfl) (by kernel_rfl) (by kernel_rfl) noPanic_false (by kernel_rfl) (fun W hW => x_load22 (x := .tmp 33) (g := g1) (p := j * 2 + 1) (by kernel_rfl) (by kernel_rfl) (E2.out W hW)) hS ?_
      refine tk 18 35 (.string (strOf D)) (fuel := 8) rfl (by kernel_rfl) (by kernel_rfl) (by kernel_rfl) (by kernel_rfl) noPanic_false (by kernel_rfl) (fun W hW => x_conv (x := .tmp 34) (by kernel_rfl) (by kernel_rfl) (E3.out W hW)) hS ?_
      refine tk 19 36 (.slice (some ⟨g2, off, none⟩) n c2) (fuel := 7) rfl (by kernel_rfl) (by kernel_rfl) (by kernel_rfl) (by kernel_rfl) noPanic_false (by kernel_rfl) (fun _ _ => by kernel_rfl) hS ?_
      refine tk 20 37 (.int .i64 (j : Int)) (fuel := 6) rfl (by kernel_rfl) (by kernel_rfl) (by kernel_rfl) (by kernel_rfl) noPanic_false (by kernel_rfl) (fun _ _ => by kernel_rfl) hS ?_
      refine tk 21 38 (.pointer (some ⟨g2, off + j * 2, none⟩)) (fuel := 5) rfl (by kernel_rfl) (by kernel_rfl) (by kernel_rfl) (by kernel_rfl) noPanic_false (by kernel_rfl) (fun _ _ => x_indexP (x := .tmp 36) (y := .tmp 37) (b := g2) (off := off) (n := n) (c := c2) (j := j) (by kernel_rfl) (by kernel_rfl) (by kernel_rfl) hjn) hS ?_
      refine tk 22 39 (.pointer (some ⟨g2, off + j * 2 + 1, none⟩)) (fuel := 4) rfl (by kernel_rfl) (by kernel_rfl) (by kernel_rfl) (by kernel_rfl) noPanic_false (by kernel_rfl) (fun _ _ => x_fieldP1 (x := .tmp 38) (g := g2) (p := off + j * 2) (by kernel_rfl) (by kernel_rfl)) hS ?_
      refine tk 23 40 (.slice b2 D.length d2) (fuel := 3) rfl (by kernel_rfl) (by kernel_rfl) (by kernel_rfl) (by kernel_rfl) noPanic_false (by kernel_rfl) (fun W hW => x_load22 (x := .tmp 39) (g := g2) (p := off + j * 2 + 1) (by kernel_rfl) (by kernel_rfl) (F2.out W hW)) hS ?_
      refine tk 24 41 (.string (strOf D)) (fuel := 2) rfl (by kernel_rfl) (by kernel_rfl) (by kernel_rfl) (by kernel_rfl) noPanic_false (by kernel_rfl) (fun W hW => x_conv (x := .tmp 40) (by kernel_rfl) (by kernel_rfl) (F3.out W hW)) hS ?_
      refine tk 25 42 (.bool false) (fuel := 1) rfl (by kernel_rfl) (by kernel_rfl) (by kernel_rfl) (by kernel_rfl) noPanic_false (by kernel_rfl) (fun _ _ => x_streqf (x := .tmp 35) (y := .tmp 41) (s := strOf D) (t := strOf D) (by kernel_rfl) (by kernel_rfl) (by kernel_rfl) rfl) hS ?_
      refine tk 26 43 (.bool false) (fuel := 0) rfl (by kernel_rfl) (by kernel_rfl) (by kernel_rfl) (by kernel_rfl) noPanic_false (by kernel_rfl) (fun _ _ => by kernel_rfl) hS ?_
      refine wpAnyH_done (by kernel_rfl) (NoPanic.normal ?_) _
      go_simp
      clear hS
      go_wp2
      go_roundw
      case rel => exact ⟨j + 1, by omega, by go_num, After.drew HA.out⟩
      case measure => simp [intOf]; omega
    · go_wp2
      go_ret
      exact ⟨rfl, HA.out⟩
end Go.Proofs.Ytjmjianilcdphaa