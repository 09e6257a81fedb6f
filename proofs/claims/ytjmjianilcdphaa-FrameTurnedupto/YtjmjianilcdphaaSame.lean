/-
  THE WALK OF same.
-/
import Derived.Test.YtjmjianilcdphaaScan
namespace Go.Proofs.Ytjmjianilcdphaa
open Go.RowKit Leb
section
variable {o : Oper} {a : Act} {x y : Operand} {w : World}
theorem x_indexF (ts te : TypeId) (hts : Try.prog.underlying ts = some (.slice te)) (hinf : (Try.prog.info? te).map (·.size) = some 2) {g n c j : Nat} (hop : o.op = .indexAddr ts x y) (hx : a.eval x = .slice (some ⟨g, 0, none⟩) n c) (hy : a.eval y = .int .i64 (j : Int)) (hj : j < n) : (execOp a.eval o).run Try.prog w = .ok (.value (.pointer (some ⟨g, j * 2, none⟩))) w := by
  obtain ⟨i, hi, hz⟩ := Option.map_eq_some_iff.1 hinf
  unfold execOp
  simp only [hop, hx, hy]
  simp [go_sem, hts, hi, hz, hj, sizeOf, typeInfo, Addr.add]
  omega
theorem x_fieldF0 {t g p : Nat} (ht : t = 33 ∨ t = 36) (hop : o.op = .fieldAddr t x 0) (hx : a.eval x = .pointer (some ⟨g, p, none⟩)) : (execOp a.eval o).run Try.prog w = .ok (.value (.pointer (some ⟨g, p, none⟩))) w := by
  rcases ht with rfl | rfl
  · unfold execOp
    simp only [hop, hx]
    simp [go_sem]
  · unfold execOp
    simp only [hop, hx]
    simp [go_sem]
theorem x_fieldF1 {t g p : Nat} (ht : t = 33 ∨ t = 36) (hop : o.op = .fieldAddr t x 1) (hx : a.eval x = .pointer (some ⟨g, p, none⟩)) : (execOp a.eval o).run Try.prog w = .ok (.value (.pointer (some ⟨g, p + 1, none⟩))) w := by
  rcases ht with rfl | rfl
  · unfold execOp
    simp only [hop, hx]
    simp [go_sem]
  · unfold execOp
    simp only [hop, hx]
    simp [go_sem]
theorem x_load22 {g p : Nat} {v : Value} (hop : o.op = .load 22 x) (hx : a.eval x = .pointer (some ⟨g, p, none⟩)) (hc : w.cell? ⟨g, p, none⟩ = some v) : (execOp a.eval o).run Try.prog w = .ok (.value v) w := by
  unfold execOp
  simp only [hop, hx]
  simp [go_sem, hc]
theorem x_neq5f {z : Int} (hop : o.op = .binOp .neq 5 x y 5) (hx : a.eval x = .int .u8 z) (hy : a.eval y = .int .u8 z) : (execOp a.eval o).run Try.prog w = .ok (.value (.bool false)) w := by
  unfold execOp
  simp only [hop, hx, hy]
  simp [go_sem]
end
theorem FramesAt.after {w W : World} {ao : Option Addr} {fs : List (UInt8 × List UInt8)} (h : FramesAt w ao fs) (hA : After w W) : FramesAt W ao fs := fun hne => by
  obtain ⟨g, rfl, hc⟩ := h hne
  refine ⟨g, rfl, fun j p hj => ?_⟩
  obtain ⟨a, c, h1, h2, h3⟩ := hc j p hj
  exact ⟨a, c, (Below.cell hA (p := ⟨g, j * 2, none⟩) (block_lt_of_cell h1)).trans h1, (Below.cell hA (p := ⟨g, j * 2 + 1, none⟩) (block_lt_of_cell h2)).trans h2, h3.after hA⟩
theorem size33' : (Try.prog.info? 33).map (·.size) = some 2 := by kernel_rfl
set_option maxRecDepth 100000 in
set_option maxHeartbeats 1600000 in
theorem same_any (a1 a2 : Option Addr) (c1 c2 : Nat) (fs : List (UInt8 × List UInt8)) (hn : fs.length ≤ 4194304) (w : World) (h1 : FramesAt w a1 fs) (h2 : FramesAt w a2 fs) :
    Calls Try.prog 18 #[.slice a1 fs.length c1, .slice a2 fs.length c2] w fun e w' => e = .returned (.bool true) ∧ Below w.heap.size w w' := by
  have H1 : Hid (FramesAt w a1 fs) := h1
  have H2 : Hid (FramesAt w a2 fs) := h2
  obtain ⟨n, hn'⟩ : ∃ n, fs.length = n := ⟨_, rfl⟩
  have HN : Hid (fs.length = n) := hn'
  rw [hn'] at hn ⊢
  clear h1 h2 hn'
  go_enter Try.func18, Try.ntmps18
  go_wp2
  go_loopw [5] (fun i wr => ∃ j : Nat, j ≤ n ∧ i = .int .i64 j ∧ Hid (After w wr)) (fun i _ => n - (intOf i).toNat)
  case atStart => exact ⟨0, by omega, rfl, After.refl _⟩
  case round =>
    obtain ⟨j, hj, rfl, HA⟩ := hrel
    by_cases hlt : j < n
    · have hjl : j < fs.length := (by rw [HN.out]; exact hlt)
      have hne : fs ≠ [] := (by intro h; rw [h] at hjl; simp at hjl)
      obtain ⟨g1, rfl, hc1⟩ := H1.out hne
      obtain ⟨g2, rfl, hc2⟩ := H2.out hne
      obtain ⟨p, hp⟩ : ∃ p, fs[j]? = some p := ⟨_, List.getElem?_eq_getElem hjl⟩
      obtain ⟨k, D⟩ := p
      obtain ⟨b1, d1, e1, e2, e3⟩ := hc1 j _ hp
      obtain ⟨b2, d2, f1, f2, f3⟩ := hc2 j _ hp
      simp only at e1 e2 e3 f1 f2 f3
      have cl : ∀ {W : World} {q : Addr} {v : Value}, After w W → w.cell? q = some v → W.cell? q = some v := fun hW hq => (Below.cell hW (block_lt_of_cell hq)).trans hq
      have E1 := show Hid _ from fun W (hW : After w W) => cl hW e1
      have E2 := show Hid _ from fun W (hW : After w W) => cl hW e2
      have F1 := show Hid _ from fun W (hW : After w W) => cl hW f1
      have F2 := show Hid _ from fun W (hW : After w W) => cl hW f2
      have E3 := show Hid _ from fun W (hW : After w W) => conv_at d1 (e3.after hW)
      have F3 := show Hid _ from fun W (hW : After w W) => conv_at d2 (f3.after hW)
      clear cl e1 e2 e3 f1 f2 f3 hc1 hc2 hp hne hjl
      go_wp2
      refine wp_region_noPanic ?_
      refine wp_region_held_drew (S := After w) (by kernel_rfl) (After.drew HA.out) ?_
      intro hS
      refine tk 0 17 (.slice (some ⟨g1, 0, none⟩) n c1) (fuel := 25) rfl (by kernel_rfl) (by kernel_rfl) (by kernel_rfl) (by kernel_rfl) noPanic_false (by kernel_rfl) (fun _ _ => by kernel_rfl) hS ?_
      refine tk 1 18 (.int .i64 (j : Int)) (fuel := 24) rfl (by kernel_rfl) (by kernel_rfl) (by kernel_rfl) (by kernel_rfl) noPanic_false (by kernel_rfl) (fun _ _ => by kernel_rfl) hS ?_
      refine tk 2 19 (.pointer (some ⟨g1, j * 2, none⟩)) (fuel := 23) rfl (by kernel_rfl) (by kernel_rfl) (by kernel_rfl) (by kernel_rfl) noPanic_false (by kernel_rfl) (fun _ _ => x_indexF 40 33 Try.underlying40 size33' (x := .tmp 17) (y := .tmp 18) (g := g1) (n := n) (c := c1) (j := j) (by kernel_rfl) (by kernel_rfl) (by kernel_rfl) hlt) hS ?_
      refine tk 3 20 (.pointer (some ⟨g1, j * 2, none⟩)) (fuel := 22) rfl (by kernel_rfl) (by kernel_rfl) (by kernel_rfl) (by kernel_rfl) noPanic_false (by kernel_rfl) (fun _ _ => x_fieldF0 (t := 33) (.inl rfl) (x := .tmp 19) (g := g1) (p := j * 2) (by kernel_rfl) (by kernel_rfl)) hS ?_
      refine tk 4 21 (.int .u8 (k.toNat : Int)) (fuel := 21) rfl (by kernel_rfl) (by kernel_rfl) (by kernel_rfl) (by kernel_rfl) noPanic_false (by kernel_rfl) (fun W hW => x_load5 (x := .tmp 20) (g := g1) (p := j * 2) (by kernel_rfl) (by kernel_rfl) (E1.out W hW)) hS ?_
      refine tk 5 22 (.slice (some ⟨g2, 0, none⟩) n c2) (fuel := 20) rfl (by kernel_rfl) (by kernel_rfl) (by kernel_rfl) (by kernel_rfl) noPanic_false (by kernel_rfl) (fun _ _ => by kernel_rfl) hS ?_
      refine tk 6 23 (.int .i64 (j : Int)) (fuel := 19) rfl (by kernel_rfl) (by kernel_rfl) (by kernel_rfl) (by kernel_rfl) noPanic_false (by kernel_rfl) (fun _ _ => by kernel_rfl) hS ?_
      refine tk 7 24 (.pointer (some ⟨g2, j * 2, none⟩)) (fuel := 18) rfl (by kernel_rfl) (by kernel_rfl) (by kernel_rfl) (by kernel_rfl) noPanic_false (by kernel_rfl) (fun _ _ => x_indexF 43 36 Try.underlying43 size36 (x := .tmp 22) (y := .tmp 23) (g := g2) (n := n) (c := c2) (j := j) (by kernel_rfl) (by kernel_rfl) (by kernel_rfl) hlt) hS ?_
      refine tk 8 25 (.pointer (some ⟨g2, j * 2, none⟩)) (fuel := 17) rfl (by kernel_rfl) (by kernel_rfl) (by kernel_rfl) (by kernel_rfl) noPanic_false (by kernel_rfl) (fun _ _ => x_fieldF0 (t := 36) (.inr rfl) (x := .tmp 24) (g := g2) (p := j * 2) (by kernel_rfl) (by kernel_rfl)) hS ?_
      refine tk 9 26 (.int .u8 (k.toNat : Int)) (fuel := 16) rfl (by kernel_rfl) (by kernel_rfl) (by kernel_rfl) (by kernel_rfl) noPanic_false (by kernel_rfl) (fun W hW => x_load5 (x := .tmp 25) (g := g2) (p := j * 2) (by kernel_rfl) (by kernel_rfl) (F1.out W hW)) hS ?_
      refine tk 10 27 (.bool false) (fuel := 15) rfl (by kernel_rfl) (by kernel_rfl) (by kernel_rfl) (by kernel_rfl) noPanic_false (by kernel_rfl) (fun _ _ => x_neq5f (x := .tmp 21) (y := .tmp 26) (z := (k.toNat : Int)) (by kernel_rfl) (by kernel_rfl) (by kernel_rfl)) hS ?_
      refine tk 11 28 (.bool false) (fuel := 14) rfl (by kernel_rfl) (by kernel_rfl) (by kernel_rfl) (by kernel_rfl) noPanic_false (by kernel_rfl) (fun _ _ => by kernel_rfl) hS ?_
      refine tk 12 29 (.slice (some ⟨g1, 0, none⟩) n c1) (fuel := 13) rfl (by kernel_rfl) (by kernel_rfl) (by kernel_rfl) (by kernel_rfl) noPanic_false (by kernel_rfl) (fun _ _ => by kernel_rfl) hS ?_
      refine tk 13 30 (.int .i64 (j : Int)) (fuel := 12) rfl (by kernel_rfl) (by kernel_rfl) (by kernel_rfl) (by kernel_rfl) noPanic_false (by kernel_rfl) (fun _ _ => by kernel_rfl) hS ?_
      refine tk 14 31 (.pointer (some ⟨g1, j * 2, none⟩)) (fuel := 11) rfl (by kernel_rfl) (by kernel_rfl) (by kernel_rfl) (by kernel_rfl) noPanic_false (by kernel_rfl) (fun _ _ => x_indexF 40 33 Try.underlying40 size33' (x := .tmp 29) (y := .tmp 30) (g := g1) (n := n) (c := c1) (j := j) (by kernel_rfl) (by kernel_rfl) (by kernel_rfl) hlt) hS ?_
      refine tk 15 32 (.pointer (some ⟨g1, j * 2 + 1, none⟩)) (fuel := 10) rfl (by kernel_rfl) (by kernel_rfl) (by kernel_rfl) (by kernel_rfl) noPanic_false (by kernel_rfl) (fun _ _ => x_fieldF1 (t := 33) (.inl rfl) (x := .tmp 31) (g := g1) (p := j * 2) (by kernel_rfl) (by kernel_rfl)) hS ?_
      refine tk 16 33 (.slice b1 D.length d1) (fuel := 9) rfl (by kernel_rfl) (by kernel_rfl) (by kernel_rfl) (by kernel_rfl) noPanic_false (by kernel_rfl) (fun W hW => x_load22 (x := .tmp 32) (g := g1) (p := j * 2 + 1) (by kernel_rfl) (by kernel_rfl) (E2.out W hW)) hS ?_
      refine tk 17 34 (.string (strOf D)) (fuel := 8) rfl (by kernel_rfl) (by kernel_rfl) (by kernel_rfl) (by kernel_rfl) noPanic_false (by kernel_rfl) (fun W hW => x_conv (x := .tmp 33) (by kernel_rfl) (by kernel_rfl) (E3.out W hW)) hS ?_
      refine tk 18 35 (.slice (some ⟨g2, 0, none⟩) n c2) (fuel := 7) rfl (by kernel_rfl) (by kernel_rfl) (by kernel_rfl) (by kernel_rfl) noPanic_false (by kernel_rfl) (fun _ _ => by kernel_rfl) hS ?_
      refine tk 19 36 (.int .i64 (j : Int)) (fuel := 6) rfl (by kernel_rfl) (by kernel_rfl) (by kernel_rfl) (by kernel_rfl) noPanic_false (by kernel_rfl) (fun _ _ => by kernel_rfl) hS ?_
      refine tk 20 37 (.pointer (some ⟨g2, j * 2, none⟩)) (fuel := 5) rfl (by kernel_rfl) (by kernel_rfl) (by kernel_rfl) (by kernel_rfl) noPanic_false (by kernel_rfl) (fun _ _ => x_indexF 43 36 Try.underlying43 size36 (x := .tmp 35) (y := .tmp 36) (g := g2) (n := n) (c := c2) (j := j) (by kernel_rfl) (by kernel_rfl) (by kernel_rfl) hlt) hS ?_
      refine tk 21 38 (.pointer (some ⟨g2, j * 2 + 1, none⟩)) (fuel := 4) rfl (by kernel_rfl) (by kernel_rfl) (by kernel_rfl) (by kernel_rfl) noPanic_false (by kernel_rfl) (fun _ _ => x_fieldF1 (t := 36) (.inr rfl) (x := .tmp 37) (g := g2) (p := j * 2) (by kernel_rfl) (by kernel_rfl)) hS ?_
      refine tk 22 39 (.slice b2 D.length d2) (fuel := 3) rfl (by kernel_rfl) (by kernel_rfl) (by kernel_rfl) (by kernel_rfl) noPanic_false (by kernel_rfl) (fun W hW => x_load22 (x := .tmp 38) (g := g2) (p := j * 2 + 1) (by kernel_rfl) (by kernel_rfl) (F2.out W hW)) hS ?_
      refine tk 23 40 (.string (strOf D)) (fuel := 2) rfl (by kernel_rfl) (by kernel_rfl) (by kernel_rfl) (by kernel_rfl) noPanic_false (by kernel_rfl) (fun W hW => x_conv (x := .tmp 39) (by kernel_rfl) (by kernel_rfl) (F3.out W hW)) hS ?_
      refine tk 24 41 (.bool false) (fuel := 1) rfl (by kernel_rfl) (by kernel_rfl) (by kernel_rfl) (by kernel_rfl) noPanic_false (by kernel_rfl) (fun _ _ => x_streqf (x := .tmp 34) (y := .tmp 40) (s := strOf D) (t := strOf D) (by kernel_rfl) (by kernel_rfl) (by kernel_rfl) rfl) hS ?_
      refine tk 25 42 (.bool false) (fuel := 0) rfl (by kernel_rfl) (by kernel_rfl) (by kernel_rfl) (by kernel_rfl) noPanic_false (by kernel_rfl) (fun _ _ => by kernel_rfl) hS ?_
      refine wpAnyH_done (by kernel_rfl) (NoPanic.normal ?_) _
      go_simp
      clear hS
      go_wp2
      go_roundw
      case rel => exact ⟨j + 1, by omega, by go_num, After.drew HA.out⟩
      case measure => simp [intOf]; omega
    · go_wp2
      go_ret
      exact ⟨rfl, HA.out⟩
end Go.Proofs.Ytjmjianilcdphaa