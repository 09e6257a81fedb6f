/-
  hang (42): a cell's place is laid among those below another one; its closure (49).
-/
import Derived.Test.YtiglenomigipmaaRE
namespace Go.Proofs.Ytiglenomigipmaa
open Go.RowKit Go.Maps Go.WideMaps Go.WideAt Mp
section
variable {oi : Oper} {a : Act} {w : World}
theorem x_idx72 {x y : Operand} {b f n c k : Nat} (hop : oi.op = .indexAddr 72 x y) (hx : a.eval x = .slice (some ⟨b, f, none⟩) n c) (hy : a.eval y = .int .i64 (k : Int)) (hk : k < n) : (execOp a.eval oi).run Try.prog w = .ok (.value (.pointer (some ⟨b, f + k * 36, none⟩))) w := by
  have hk' : (k : Int) < (n : Int) := by omega
  have hz0 : (Try.prog.info? 88).map (·.size) = some 36 := by kernel_rfl
  obtain ⟨i, hi, hz⟩ := Option.map_eq_some_iff.1 hz0
  unfold execOp; simp only [hop, hx, hy]; simp [go_sem, hk', hi, hz, sizeOf, typeInfo]
theorem x_idx86 {x y : Operand} {b f n c k : Nat} (hop : oi.op = .indexAddr 86 x y) (hx : a.eval x = .slice (some ⟨b, f, none⟩) n c) (hy : a.eval y = .int .i64 (k : Int)) (hk : k < n) : (execOp a.eval oi).run Try.prog w = .ok (.value (.pointer (some ⟨b, f + k, none⟩))) w := by
  have hk' : (k : Int) < (n : Int) := by omega
  have hz0 : (Try.prog.info? 3).map (·.size) = some 1 := by kernel_rfl
  obtain ⟨i, hi, hz⟩ := Option.map_eq_some_iff.1 hz0
  unfold execOp; simp only [hop, hx, hy]; simp [go_sem, hk', hi, hz, sizeOf, typeInfo]
theorem x_ld37m {x : Operand} {g p : Nat} {y : Idn} (hy : y.Ok) (hop : oi.op = .load 37 x) (hx : a.eval x = .pointer (some ⟨g, p, none⟩)) (hc : w.rangeAt g p (idc y)) : (execOp a.eval oi).run Try.prog w = .ok (.value (idv y)) w := by
  have hi : (Try.prog.info? 37).map (·.size) = some (idc y).length := by rw [size37 hy]; simp
  unfold execOp
  simp only [hop, hx, Instr.loadAt, Instr.sureAddr, Sem.run_bind, Sem.run_pure, Result.andThen_ok, run_loadVar_mid w g p 37 (idc y) _ hc Try.underlying37 rfl hi]
  rfl
end
theorem range_id {w : World} {g p : Nat} {s : Stm} {v : Value} (h : w.rangeAt g p (scell s v)) : w.rangeAt g p (idc s.id) := fun j u hu => h j u (by
  unfold scell
  rw [List.getElem?_append_left (List.getElem?_eq_some_iff.1 hu).1]; exact hu)
theorem OwnI.sl {w : World} {base : Nat} {v : Value} {l : List Nat} (h : OwnI w base v l) (hn : l ≠ []) : ∃ b cap, v = .slice (some ⟨b, 0, none⟩) l.length cap ∧ l.length ≤ cap ∧ ∀ i p, l[i]? = some p → w.cell? ⟨b, i, none⟩ = some (pv p) := by
  rcases own_row h with ⟨_, h0, _⟩ | ⟨g, cap, cs, hv, _, hr, hc, _, _, ht⟩
  · exact absurd (List.eq_nil_of_length_eq_zero h0) hn
  · refine ⟨g, cap, hv, hc, fun i p hp => ?_⟩
    have h1 : (ci l)[i]? = some (pv p) := by simp [ci, hp]
    rw [← ht, List.getElem?_take] at h1
    split at h1
    · exact hr.cell h1
    · cases h1

set_option maxRecDepth 100000 in
set_option maxHeartbeats 1600000 in
theorem hangc_any {w : World} {base g : Nat} {st : List Stm} {D : RwD} (h : RowAt w base g st D) {x : Idn} (hx : x.Ok) {gi gr gb i p : Nat} {v : Value} {l : List Nat} {s : Stm}
    (hi : RowIs w gi 37 (idc x)) (hr : RowIs w gr 25 [.pointer (some ⟨g, 0, none⟩)]) (hb : RowIs w gb 86 [v]) (hl : OwnI w base v l) (hp : l[i]? = some p) (hs : st[p]? = some s) :
    Calls Try.prog 49 #[pv i, .pointer (some ⟨gi, 0, none⟩), .pointer (some ⟨gr, 0, none⟩), .pointer (some ⟨gb, 0, none⟩)] w fun e w' => e = .returned (.bool (ltI x s.id)) ∧ After w w' := by
  obtain ⟨gs, cap, hsv, hcap, hst⟩ := h.sv
  obtain ⟨bb, bc, hv, hbc, hlc⟩ := hl.sl (fun e => by rw [e] at hp; simp at hp)
  obtain ⟨sv0, hsv0, _⟩ := h.v hs
  have hR := hst p s sv0 hs hsv0
  have hB := h.box
  rw [hsv] at hB
  rw [hv] at hb
  obtain ⟨n, hn⟩ : ∃ n, st.length = n := ⟨_, rfl⟩
  obtain ⟨m, hm⟩ : ∃ n, l.length = n := ⟨_, rfl⟩
  rw [hn] at hB
  rw [hm] at hb
  have HX : Hid x.Ok := hx
  have HO : Hid s.id.Ok := h.ok s (List.mem_of_getElem? hs)
  have HI : Hid (RowIs w gi 37 (idc x)) := hi
  have HG : Hid (RowIs w gr 25 [.pointer (some ⟨g, 0, none⟩)]) := hr
  have HB : Hid (RowIs w g 75 [.slice (some ⟨gs, 0, none⟩) n cap, .map (some D.gm)]) := hB
  have HV : Hid (RowIs w gb 86 [.slice (some ⟨bb, 0, none⟩) m bc]) := hb
  have HN : Hid (i < m ∧ p < n) := ⟨by rw [← hm]; exact (List.getElem?_eq_some_iff.1 hp).1, by rw [← hn]; exact (List.getElem?_eq_some_iff.1 hs).1⟩
  have HP : Hid (∀ W, After w W → W.cell? ⟨bb, 0 + i, none⟩ = some (pv p)) := fun W hW => by
    have h1 := hlc i p hp
    rw [Nat.zero_add]
    exact (Below.cell hW (p := ⟨bb, i, none⟩) (World.block_lt_of_cell? w _ h1)).trans h1
  have HS : Hid (∀ W, After w W → W.rangeAt gs (0 + p * 36) (idc s.id)) := fun W hW => by rw [Nat.zero_add]; exact range_after (range_id hR) hW
  clear h hx hi hr hb hl hp hs hst hlc hsv hsv0 hR hB hv hcap hbc hn hm
  go_enter Try.func49, Try.ntmps49
  go_wp2_with fail
  refine wp_region_noPanic ?_
  refine wp_region_held_drew (S := After w) (by kernel_rfl) (After.drew (After.refl _)) ?_
  intro hS0
  refine tk 0 6 (idv x) (fuel := 14) rfl (by kernel_rfl) (by kernel_rfl) (by kernel_rfl) (by kernel_rfl) noPanic_false (by kernel_rfl) (fun W hW => x_ldid (x := .tmp 1) (g := gi) HX.out (by kernel_rfl) (by kernel_rfl) (HI.out.below hW HI.out.lt)) hS0 ?_
  refine tk 1 7 (.pointer (some ⟨g, 0, none⟩)) (fuel := 13) rfl (by kernel_rfl) (by kernel_rfl) (by kernel_rfl) (by kernel_rfl) noPanic_false (by kernel_rfl) (fun W hW => x_loadT (x := .tmp 2) (t := 25) (g := gr) (j := 0) Try.underlying25 rfl (by kernel_rfl) (by kernel_rfl) ((HG.out.below hW HG.out.lt).cell (j := 0) rfl)) hS0 ?_
  refine tk 2 8 (.pointer (some ⟨g, 0, none⟩)) (fuel := 12) rfl (by kernel_rfl) (by kernel_rfl) (by kernel_rfl) (by kernel_rfl) noPanic_false (by kernel_rfl) (fun _ _ => by kernel_rfl) hS0 ?_
  refine tk 3 9 (.pointer (some ⟨g, 0, none⟩)) (fuel := 11) rfl (by kernel_rfl) (by kernel_rfl) (by kernel_rfl) (by kernel_rfl) noPanic_false (by kernel_rfl) (fun _ _ => by kernel_rfl) hS0 ?_
  refine tk 4 10 (.slice (some ⟨gs, 0, none⟩) n cap) (fuel := 10) rfl (by kernel_rfl) (by kernel_rfl) (by kernel_rfl) (by kernel_rfl) noPanic_false (by kernel_rfl) (fun W hW => x_loadT (x := .tmp 9) (t := 72) (g := g) (j := 0) Try.underlying72 rfl (by kernel_rfl) (by kernel_rfl) ((HB.out.below hW HB.out.lt).cell (j := 0) rfl)) hS0 ?_
  refine tk 5 11 (.slice (some ⟨bb, 0, none⟩) m bc) (fuel := 9) rfl (by kernel_rfl) (by kernel_rfl) (by kernel_rfl) (by kernel_rfl) noPanic_false (by kernel_rfl) (fun W hW => x_loadT (x := .tmp 3) (t := 86) (g := gb) (j := 0) Try.underlying86 rfl (by kernel_rfl) (by kernel_rfl) ((HV.out.below hW HV.out.lt).cell (j := 0) rfl)) hS0 ?_
  refine tk 6 12 (pv i) (fuel := 8) rfl (by kernel_rfl) (by kernel_rfl) (by kernel_rfl) (by kernel_rfl) noPanic_false (by kernel_rfl) (fun _ _ => by kernel_rfl) hS0 ?_
  refine tk 7 13 (.pointer (some ⟨bb, 0 + i, none⟩)) (fuel := 7) rfl (by kernel_rfl) (by kernel_rfl) (by kernel_rfl) (by kernel_rfl) noPanic_false (by kernel_rfl) (fun W hW => x_idx86 (x := .tmp 11) (y := .tmp 12) (b := bb) (f := 0) (n := m) (c := bc) (k := i) (by kernel_rfl) (by kernel_rfl) (by kernel_rfl) HN.out.1) hS0 ?_
  refine tk 8 14 (pv p) (fuel := 6) rfl (by kernel_rfl) (by kernel_rfl) (by kernel_rfl) (by kernel_rfl) noPanic_false (by kernel_rfl) (fun W hW => x_loadT (x := .tmp 13) (t := 3) (g := bb) (j := 0 + i) Try.underlying3 rfl (by kernel_rfl) (by kernel_rfl) (HP.out W hW)) hS0 ?_
  refine tk 9 15 (.pointer (some ⟨gs, 0 + p * 36, none⟩)) (fuel := 5) rfl (by kernel_rfl) (by kernel_rfl) (by kernel_rfl) (by kernel_rfl) noPanic_false (by kernel_rfl) (fun W hW => x_idx72 (x := .tmp 10) (y := .tmp 14) (b := gs) (f := 0) (n := n) (c := cap) (k := p) (by kernel_rfl) (by kernel_rfl) (by kernel_rfl) HN.out.2) hS0 ?_
  refine tk 10 16 (.pointer (some ⟨gs, 0 + p * 36, none⟩)) (fuel := 4) rfl (by kernel_rfl) (by kernel_rfl) (by kernel_rfl) (by kernel_rfl) noPanic_false (by kernel_rfl) (fun _ _ => by kernel_rfl) hS0 ?_
  refine tk 11 17 (.pointer (some ⟨gs, 0 + p * 36, none⟩)) (fuel := 3) rfl (by kernel_rfl) (by kernel_rfl) (by kernel_rfl) (by kernel_rfl) noPanic_false (by kernel_rfl) (fun _ _ => by kernel_rfl) hS0 ?_
  refine tk 12 18 (idv s.id) (fuel := 2) rfl (by kernel_rfl) (by kernel_rfl) (by kernel_rfl) (by kernel_rfl) noPanic_false (by kernel_rfl) (fun W hW => x_ld37m (x := .tmp 17) (g := gs) (p := 0 + p * 36) HO.out (by kernel_rfl) (by kernel_rfl) (HS.out W hW)) hS0 ?_
  refine tkCallZ 13 19 19 #[idv x, idv s.id] (fun v w' => v = .bool (ltI x s.id) ∧ After w w') (fuel := 1) rfl (by kernel_rfl) (by kernel_rfl) (by kernel_rfl) (fun _ => by kernel_rfl) (Calls.mono (lessI_any HX.out HO.out _) (fun e w' ⟨he, ha⟩ => ⟨_, he, rfl, hS0.trans ha⟩)) ?_
  intro v1 w1 ⟨hv1, ha1⟩
  subst hv1
  refine ⟨ha1, ?_⟩
  refine tk 14 5 (.bool (ltI x s.id)) (fuel := 0) rfl (by kernel_rfl) (by kernel_rfl) (by kernel_rfl) (by kernel_rfl) noPanic_false (by kernel_rfl) (fun _ _ => by kernel_rfl) ha1 ?_
  refine wpAnyH_done (by kernel_rfl) (NoPanic.normal ?_) _
  have H1 : Hid (After w w1) := ha1
  clear ha1 hS0
  go_simp
  go_wp2_with fail
  go_ret
  exact ⟨rfl, H1.out⟩

end Go.Proofs.Ytiglenomigipmaa