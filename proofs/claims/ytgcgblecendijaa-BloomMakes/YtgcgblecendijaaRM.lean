/-
  THE WALK OF stemmaref09.Places.
-/
import Derived.Test.YtgcgblecendijaaRL
namespace Go.Proofs.Ytgcgblecendijaa
open Go.RowKit Leb
def slLen : Value → Nat
  | .slice _ n _ => n
  | _ => 0
theorem OwnU.mono {w : World} {base base' : Nat} {v : Value} {l : List Nat} (h : OwnU w base v l) (hb : base' ≤ base) : OwnU w base' v l := by
  refine ⟨h.1, ?_⟩
  rcases h.2 with hn | ⟨g, cap, cur, e, q1, rest⟩
  · exact .inl hn
  · exact .inr ⟨g, cap, cur, e, by omega, rest⟩

set_option maxRecDepth 100000 in
set_option maxHeartbeats 6000000 in
theorem rplaces_any (p : Prt) (hs : p.seed < 4294967296) (M : Nat) (hMM : p.all = M) (hM : 0 < M) (hM2 : M < 2000000000) (h : Hs) (h32 : h.length = 32) (w : World) :
    Calls Try.prog 24 #[.agg (c8 h).toArray, .int .u64 (p.seed : Int), .int .u64 (M : Int)] w fun e w' => ∃ v, e = .returned v ∧ (OwnU w' w.heap.size v (p.plc h 7) ∧ After w w') := by
  obtain ⟨sd, hsd⟩ : ∃ s, p.seed = s := ⟨_, rfl⟩
  obtain ⟨n0, hn0⟩ : ∃ x, num4 h 0 = x := ⟨_, rfl⟩
  obtain ⟨n1, hn1⟩ : ∃ x, num4 h 4 = x := ⟨_, rfl⟩
  obtain ⟨n2, hn2⟩ : ∃ x, num4 h 8 = x := ⟨_, rfl⟩
  obtain ⟨x0, hx0⟩ : ∃ x, n0 ^^^ sd = x := ⟨_, rfl⟩
  obtain ⟨y0, hy0⟩ : ∃ x, n1 ^^^ sd = x := ⟨_, rfl⟩
  obtain ⟨z0, hz0⟩ : ∃ x, n2 ^^^ sd = x := ⟨_, rfl⟩
  obtain ⟨x1, hx1⟩ : ∃ x, x0 % M = x := ⟨_, rfl⟩
  obtain ⟨y1, hy1⟩ : ∃ x, y0 % M = x := ⟨_, rfl⟩
  obtain ⟨z, hz⟩ : ∃ x, z0 % M = x := ⟨_, rfl⟩
  have e0 : p.num h 0 = x0 := by unfold Prt.num; rw [hn0, hsd, hx0]
  have e4 : p.num h 4 = y0 := by unfold Prt.num; rw [hn1, hsd, hy0]
  have e8 : p.num h 8 = z0 := by unfold Prt.num; rw [hn2, hsd, hz0]
  have HI0 : Hid (p.it h 0 = (x1, y1)) := by show (p.num h 0 % p.all, p.num h 4 % p.all) = _; rw [e0, e4, hMM, hx1, hy1]
  have HIS : Hid (∀ k x y, p.it h k = (x, y) → p.it h (k + 1) = ((x + y) % M, (y + z) % M)) := fun k x y hk => by
    show (((p.it h k).1 + (p.it h k).2) % p.all, ((p.it h k).2 + p.num h 8 % p.all) % p.all) = _
    rw [hk, e8, hMM, hz]
  have HIL : Hid (∀ k x y, p.it h k = (x, y) → x < M ∧ y < M) := fun k x y hk => by
    have := Prt.it_lt (p := p) (by rw [hMM]; exact hM) h k
    rw [hk, hMM] at this; exact this
  have HN : Hid (num4 h 0 = n0 ∧ num4 h 4 = n1 ∧ num4 h 8 = n2 ∧ n0 ^^^ sd = x0 ∧ n1 ^^^ sd = y0 ∧ n2 ^^^ sd = z0 ∧ x0 % M = x1 ∧ y0 % M = y1 ∧ z0 % M = z ∧ 0 < M ∧ n0 < 18446744073709551616 ∧ n1 < 18446744073709551616 ∧ n2 < 18446744073709551616 ∧ sd < 18446744073709551616 ∧ h.length = 32) := ⟨hn0, hn1, hn2, hx0, hy0, hz0, hx1, hy1, hz, hM, by rw [← hn0]; have := num4_lt h 0; omega, by rw [← hn1]; have := num4_lt h 4; omega, by rw [← hn2]; have := num4_lt h 8; omega, by rw [← hsd]; omega, h32⟩
  have HML : Hid (0 < M ∧ M < 2000000000 ∧ z < M) := ⟨hM, hM2, by rw [← hz]; exact Nat.mod_lt _ hM⟩
  obtain ⟨w0, hw0⟩ : ∃ w0, w.alloc (.cells (c8 h).toArray 29) = w0 := ⟨_, rfl⟩
  have H0 : Hid (After w w0 ∧ RowIs w0 w.heap.size 29 (c8 h)) := by rw [← hw0]; exact ⟨after_alloc (After.refl w) _, RowIs.new w 29 (c8 h)⟩
  rw [hsd]
  clear hn0 hn1 hn2 hx0 hy0 hz0 hx1 hy1 hz e0 e4 e8 hsd hs hMM hM hM2 h32
  go_enter Try.func24, Try.ntmps24
  go_wp2_with fail
  try simp only [hw0]
  clear hw0
  have R1 : Hid (∀ W', After w0 W' → RowIs W' w.heap.size 29 (c8 h)) := fun W' hW => H0.out.2.below hW H0.out.2.lt
  refine wp_region_noPanic ?_
  refine wp_region_held_drew (S := After w0) (by kernel_rfl) (After.drew (After.refl w0)) ?_
  intro hS0
  refine tk 0 11 (.slice (some ⟨w.heap.size, 0, none⟩) 4 32) (fuel := 20) rfl (by kernel_rfl) (by kernel_rfl) (by kernel_rfl) (by kernel_rfl) noPanic_false (by kernel_rfl) (fun _ _ => by kernel_rfl) hS0 ?_
  refine tk 2 13 (.int .u64 (sd : Int)) (fuel := 19) rfl (by kernel_rfl) (by kernel_rfl) (by kernel_rfl) (by kernel_rfl) noPanic_false (by kernel_rfl) (fun _ _ => by kernel_rfl) hS0 ?_
  refine tk 4 15 (.int .u64 (M : Int)) (fuel := 18) rfl (by kernel_rfl) (by kernel_rfl) (by kernel_rfl) (by kernel_rfl) noPanic_false (by kernel_rfl) (fun _ _ => by kernel_rfl) hS0 ?_
  refine tk 6 17 (.slice (some ⟨w.heap.size, 4, none⟩) 4 28) (fuel := 17) rfl (by kernel_rfl) (by kernel_rfl) (by kernel_rfl) (by kernel_rfl) noPanic_false (by kernel_rfl) (fun _ _ => by kernel_rfl) hS0 ?_
  refine tk 8 19 (.int .u64 (sd : Int)) (fuel := 16) rfl (by kernel_rfl) (by kernel_rfl) (by kernel_rfl) (by kernel_rfl) noPanic_false (by kernel_rfl) (fun _ _ => by kernel_rfl) hS0 ?_
  refine tk 10 21 (.int .u64 (M : Int)) (fuel := 15) rfl (by kernel_rfl) (by kernel_rfl) (by kernel_rfl) (by kernel_rfl) noPanic_false (by kernel_rfl) (fun _ _ => by kernel_rfl) hS0 ?_
  refine tk 12 23 (.slice (some ⟨w.heap.size, 8, none⟩) 4 24) (fuel := 14) rfl (by kernel_rfl) (by kernel_rfl) (by kernel_rfl) (by kernel_rfl) noPanic_false (by kernel_rfl) (fun _ _ => by kernel_rfl) hS0 ?_
  refine tk 14 25 (.int .u64 (sd : Int)) (fuel := 13) rfl (by kernel_rfl) (by kernel_rfl) (by kernel_rfl) (by kernel_rfl) noPanic_false (by kernel_rfl) (fun _ _ => by kernel_rfl) hS0 ?_
  refine tk 16 27 (.int .u64 (M : Int)) (fuel := 12) rfl (by kernel_rfl) (by kernel_rfl) (by kernel_rfl) (by kernel_rfl) noPanic_false (by kernel_rfl) (fun _ _ => by kernel_rfl) hS0 ?_
  refine tkCall 1 12 34 #[.slice (some ⟨w.heap.size, 0, none⟩) 4 32] (fun v _ => v = .int .u64 (n0 : Int)) (fuel := 11) rfl (by kernel_rfl) (by kernel_rfl) (by kernel_rfl) (fun _ => by kernel_rfl) hS0 (rnumber_k h HN.out.2.2.2.2.2.2.2.2.2.2.2.2.2.2 w.heap.size 0 32 (by omega) _ (R1.out _ (hS0)) HN.out.1) ?_
  rintro v W1 rfl ha1
  have hS1 : After W1 W1 := After.refl _
  have A1 : After w0 W1 := (hS0).trans ha1
  refine tk 3 14 (.int .u64 (x0 : Int)) (fuel := 10) rfl (by kernel_rfl) (by kernel_rfl) (by kernel_rfl) (by kernel_rfl) noPanic_false (by kernel_rfl) (fun W _ => x_xor64 (x := .tmp 12) (y := .tmp 13) (p := n0) (q := sd) (r := x0) (by kernel_rfl) (by kernel_rfl) (by kernel_rfl) HN.out.2.2.2.2.2.2.2.2.2.2.1 HN.out.2.2.2.2.2.2.2.2.2.2.2.2.2.1 HN.out.2.2.2.1) hS1 ?_
  refine tk 5 16 (.int .u64 (x1 : Int)) (fuel := 9) rfl (by kernel_rfl) (by kernel_rfl) (by kernel_rfl) (by kernel_rfl) noPanic_false (by kernel_rfl) (fun W _ => x_rem64 (x := .tmp 14) (y := .tmp 15) (p := x0) (q := M) (r := x1) (by kernel_rfl) (by kernel_rfl) (by kernel_rfl) HN.out.2.2.2.2.2.2.1 HN.out.2.2.2.2.2.2.2.2.2.1) hS1 ?_
  refine tkCall 7 18 34 #[.slice (some ⟨w.heap.size, 4, none⟩) 4 28] (fun v _ => v = .int .u64 (n1 : Int)) (fuel := 8) rfl (by kernel_rfl) (by kernel_rfl) (by kernel_rfl) (fun _ => by kernel_rfl) hS1 (rnumber_k h HN.out.2.2.2.2.2.2.2.2.2.2.2.2.2.2 w.heap.size 4 28 (by omega) _ (R1.out _ (A1)) HN.out.2.1) ?_
  rintro v W2 rfl ha2
  have hS2 : After W2 W2 := After.refl _
  have A2 : After w0 W2 := (A1).trans ha2
  refine tk 9 20 (.int .u64 (y0 : Int)) (fuel := 7) rfl (by kernel_rfl) (by kernel_rfl) (by kernel_rfl) (by kernel_rfl) noPanic_false (by kernel_rfl) (fun W _ => x_xor64 (x := .tmp 18) (y := .tmp 19) (p := n1) (q := sd) (r := y0) (by kernel_rfl) (by kernel_rfl) (by kernel_rfl) HN.out.2.2.2.2.2.2.2.2.2.2.2.1 HN.out.2.2.2.2.2.2.2.2.2.2.2.2.2.1 HN.out.2.2.2.2.1) hS2 ?_
  refine tk 11 22 (.int .u64 (y1 : Int)) (fuel := 6) rfl (by kernel_rfl) (by kernel_rfl) (by kernel_rfl) (by kernel_rfl) noPanic_false (by kernel_rfl) (fun W _ => x_rem64 (x := .tmp 20) (y := .tmp 21) (p := y0) (q := M) (r := y1) (by kernel_rfl) (by kernel_rfl) (by kernel_rfl) HN.out.2.2.2.2.2.2.2.1 HN.out.2.2.2.2.2.2.2.2.2.1) hS2 ?_
  refine tkCall 13 24 34 #[.slice (some ⟨w.heap.size, 8, none⟩) 4 24] (fun v _ => v = .int .u64 (n2 : Int)) (fuel := 5) rfl (by kernel_rfl) (by kernel_rfl) (by kernel_rfl) (fun _ => by kernel_rfl) hS2 (rnumber_k h HN.out.2.2.2.2.2.2.2.2.2.2.2.2.2.2 w.heap.size 8 24 (by omega) _ (R1.out _ (A2)) HN.out.2.2.1) ?_
  rintro v W3 rfl ha3
  have hS3 : After W3 W3 := After.refl _
  have A3 : After w0 W3 := (A2).trans ha3
  refine tk 15 26 (.int .u64 (z0 : Int)) (fuel := 4) rfl (by kernel_rfl) (by kernel_rfl) (by kernel_rfl) (by kernel_rfl) noPanic_false (by kernel_rfl) (fun W _ => x_xor64 (x := .tmp 24) (y := .tmp 25) (p := n2) (q := sd) (r := z0) (by kernel_rfl) (by kernel_rfl) (by kernel_rfl) HN.out.2.2.2.2.2.2.2.2.2.2.2.2.1 HN.out.2.2.2.2.2.2.2.2.2.2.2.2.2.1 HN.out.2.2.2.2.2.1) hS3 ?_
  refine tk 17 28 (.int .u64 (z : Int)) (fuel := 3) rfl (by kernel_rfl) (by kernel_rfl) (by kernel_rfl) (by kernel_rfl) noPanic_false (by kernel_rfl) (fun W _ => x_rem64 (x := .tmp 26) (y := .tmp 27) (p := z0) (q := M) (r := z) (by kernel_rfl) (by kernel_rfl) (by kernel_rfl) HN.out.2.2.2.2.2.2.2.2.1 HN.out.2.2.2.2.2.2.2.2.2.1) hS3 ?_
  refine tk 18 7 (.int .u64 (x1 : Int)) (fuel := 2) rfl (by kernel_rfl) (by kernel_rfl) (by kernel_rfl) (by kernel_rfl) noPanic_false (by kernel_rfl) (fun _ _ => by kernel_rfl) hS3 ?_
  refine tk 19 8 (.int .u64 (y1 : Int)) (fuel := 1) rfl (by kernel_rfl) (by kernel_rfl) (by kernel_rfl) (by kernel_rfl) noPanic_false (by kernel_rfl) (fun _ _ => by kernel_rfl) hS3 ?_
  refine tk 20 9 (.int .u64 (z : Int)) (fuel := 0) rfl (by kernel_rfl) (by kernel_rfl) (by kernel_rfl) (by kernel_rfl) noPanic_false (by kernel_rfl) (fun _ _ => by kernel_rfl) hS3 ?_
  refine wpAnyH_done (by kernel_rfl) (NoPanic.normal ?_) _
  have H3 : Hid (After w W3) := H0.out.1.trans A3
  have HOU : Hid (OwnU (W3.alloc (.cells #[.int .u64 (x1 : Int)] 39)) w.heap.size (.slice (some ⟨W3.heap.size, 0, none⟩) 1 1) (p.plc h 1) ∧ After w (W3.alloc (.cells #[.int .u64 (x1 : Int)] 39))) := by
    refine ⟨?_, after_alloc H3.out _⟩
    have e : p.plc h 1 = [x1] := by rw [Prt.plc_succ, HI0.out]; rfl
    rw [e]; exact (OwnU.one W3 x1).mono H3.out.size
  clear hS0 hS1 hS2 hS3 ha1 ha2 ha3 A1 A2 A3 R1 H0
  go_simp
  go_wp2
  go_loopw [7, 8, 10] (fun sx sy so wr => ∃ (j x y cap : Nat) (ao : Option Addr), j ≤ 6 ∧ sx = .int .u64 x ∧ sy = .int .u64 y ∧ so = .slice ao (j + 1) cap ∧ Hid (p.it h j = (x, y)) ∧ Hid (OwnU wr w.heap.size (.slice ao (j + 1) cap) (p.plc h (j + 1)) ∧ After w wr)) (fun _ _ so _ => 8 - slLen so)
  case atStart => exact ⟨0, x1, y1, 1, _, by omega, rfl, rfl, rfl, HI0.out, HOU.out⟩
  case round =>
    obtain ⟨j, x, y, cap, ao, hj, rfl, rfl, rfl, HIT, HO⟩ := hrel
    by_cases hlt : j < 6
    · have hji : (j : Int) + 1 < 7 := by omega
      have hji' : (((j + 1 : Nat)) : Int) < 7 := by omega
      have hxl := HIL.out j x y HIT.out
      obtain ⟨s1, hs1⟩ : ∃ s, x + y = s := ⟨_, rfl⟩
      obtain ⟨s2, hs2⟩ : ∃ s, y + z = s := ⟨_, rfl⟩
      obtain ⟨x2, hx2⟩ : ∃ s, s1 % M = s := ⟨_, rfl⟩
      obtain ⟨y2, hy2⟩ : ∃ s, s2 % M = s := ⟨_, rfl⟩
      have HQ : Hid (x + y = s1 ∧ y + z = s2 ∧ s1 % M = x2 ∧ s2 % M = y2 ∧ s1 < 18446744073709551616 ∧ s2 < 18446744073709551616) := ⟨hs1, hs2, hx2, hy2, by have := HML.out; omega, by have := HML.out; omega⟩
      have HI2 : Hid (p.it h (j + 1) = (x2, y2)) := by
        have := HIS.out j x y HIT.out
        rw [hs1, hs2, hx2, hy2] at this; exact this
      have HPL : Hid (p.plc h (j + 1) ++ [x2] = p.plc h (j + 2) ∧ (p.plc h (j + 1)).length = j + 1) := ⟨by rw [show j + 2 = (j + 1) + 1 from rfl, Prt.plc_succ p h (j + 1), HI2.out], Prt.plc_len _ _ _⟩
      have HA : Hid (OwnU (wr.alloc (.cells #[.int .u64 (x2 : Int)] 39)) w.heap.size (.slice ao (j + 1) cap) (p.plc h (j + 1)) ∧ After w (wr.alloc (.cells #[.int .u64 (x2 : Int)] 39)) ∧ (wr.alloc (.cells #[.int .u64 (x2 : Int)] 39)).cell? ⟨wr.heap.size, 0, none⟩ = some (.int .u64 (x2 : Int))) := ⟨HO.out.1.after (after_alloc (After.refl wr) _), after_alloc HO.out.2 _, (RowIs.new wr 39 [.int .u64 (x2 : Int)]).cell (j := 0) rfl⟩
      clear hs1 hs2 hx2 hy2 hxl
      go_wp2_with (first
        | (refine wpList_of_run rfl (x_add64 (x := .tmp 34) (y := .tmp 35) (p := x) (q := y) (r := s1) rfl rfl rfl HQ.out.1 HQ.out.2.2.2.2.1) ?_)
        | (refine wpList_of_run rfl (x_rem64 (x := .tmp 36) (y := .tmp 37) (p := s1) (q := M) (r := x2) rfl rfl rfl HQ.out.2.2.1 HML.out.1) ?_)
        | (refine wpList_of_run rfl (x_add64 (x := .tmp 39) (y := .tmp 40) (p := y) (q := z) (r := s2) rfl rfl rfl HQ.out.2.1 HQ.out.2.2.2.2.2) ?_)
        | (refine wpList_of_run rfl (x_rem64 (x := .tmp 41) (y := .tmp 42) (p := s2) (q := M) (r := y2) rfl rfl rfl HQ.out.2.2.2.1 HML.out.1) ?_)
        | (at_builtin; refine wpList_append_u rfl _ _ rfl w.heap.size _ (p.plc h (j + 1)) rfl HA.out.1 wr.heap.size x2 rfl HA.out.2.2 (by rw [HPL.out.2]; omega) HA.out.2.1.size ?_; intro v3 w3 ho3 hg3; have hA3 : After w w3 := after_grown HA.out.2.1 hg3 (Nat.le_refl _) (fun k hk => (World.ownsRow.lt HA.out.1 k hk).1); rw [HPL.out.1] at ho3; obtain ⟨ao3, cap3, he3, _⟩ := ho3.at; rw [Prt.plc_len] at he3; subst he3; have H4 := show Hid (OwnU w3 w.heap.size (.slice ao3 (j + 2) cap3) (p.plc h (j + 2)) ∧ After w w3) from ⟨ho3, hA3⟩; clear ho3 hg3 hA3))
      go_roundw
      case rel => exact ⟨j + 1, x2, y2, cap3, ao3, by omega, rfl, rfl, rfl, HI2.out, H4.out⟩
      case measure => simp [slLen]; omega
    · obtain rfl : j = 6 := by omega
      go_wp2
      go_ret
      exact ⟨_, rfl, HO.out⟩
end Go.Proofs.Ytgcgblecendijaa
