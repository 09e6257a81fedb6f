/-
  BYTES THAT ARE TURNED in what was told; the laws' same (11).
-/
import Derived.Test.YtppbbmnekeelpaaBK
namespace Go.Proofs.Ytppbbmnekeelpaa
open Go.RowKit Dsk
attribute [local go_sem] Oper.semAt_some
/-- A row of hashes whose first n cells are bytes. -/
def BY (W : World) (b n : Nat) : Prop := ∃ cs, RowIs W b 50 cs ∧ ∀ j, j < n → ∃ c : UInt8, cs[j]? = some (.int .u8 (c.toNat : Int))
theorem row_cell {W : World} {g j : Nat} {t : TypeId} {cs : List Value} (h : RowIs W g t cs) : W.cell? ⟨g, j, none⟩ = cs[j]? := by
  unfold RowIs at h
  unfold World.cell?
  simp only [h]
  simp
theorem RowIs.setOther {W : World} {g b o : Nat} {t : TypeId} {cs : List Value} (h : RowIs W g t cs) (hb : b ≠ g) (v : Value) : RowIs (W.setCell ⟨b, o, none⟩ v) g t cs := by
  unfold RowIs; rw [Below.heap_setCell W ⟨b, o, none⟩ v g (fun e => hb e.symm)]; exact h
theorem BY.set {W : World} {b n : Nat} (h : BY W b n) (b' o : Nat) (c : UInt8) : BY (W.setCell ⟨b', o, none⟩ (.int .u8 (c.toNat : Int))) b n := by
  obtain ⟨cs, hr, hc⟩ := h
  by_cases hb : b' = b
  · subst hb
    refine ⟨_, hr.set o _, fun j hj => ?_⟩
    obtain ⟨d, hd⟩ := hc j hj
    by_cases e : o = j
    · subst e
      exact ⟨c, by rw [List.getElem?_set_self (List.getElem?_eq_some_iff.1 hd).1]⟩
    · exact ⟨d, by rw [List.getElem?_set_ne e]; exact hd⟩
  · exact ⟨cs, hr.setOther hb _, hc⟩
theorem BY.after {W W' : World} {b n : Nat} (h : BY W b n) (ha : W'.heap[b]? = W.heap[b]?) : BY W' b n := by
  obtain ⟨cs, hr, hc⟩ := h
  exact ⟨cs, by unfold RowIs; rw [ha]; exact hr, hc⟩
theorem hs_byte {l : List H} {j : Nat} {v : Value} (h : (hsL l).flatten[j]? = some v) : ∃ c : UInt8, v = .int .u8 (c.toNat : Int) := by
  obtain ⟨x, hx, hv⟩ := List.mem_flatten.1 (List.mem_of_getElem? h)
  obtain ⟨y, _, rfl⟩ := List.mem_map.1 hx
  unfold c8 at hv
  obtain ⟨c, _, rfl⟩ := List.mem_map.1 hv
  exact ⟨c, rfl⟩
theorem by_sl {W : World} {ad : Addr} {l : List H} (hs : SlAt W 32 (some ad) (hsL l)) (hr : RwAt W ad) : BY W ad.block (l.length * 32) := by
  obtain ⟨ho, hsp, cs, hrow⟩ := hr
  refine ⟨cs, hrow, fun j hj => ?_⟩
  have hlen : (hsL l).flatten.length = l.length * 32 := by rw [fl_len hs.1, hs_len]
  have hne : hsL l ≠ [] := fun e => by rw [e] at hlen; simp at hlen; omega
  obtain ⟨b, o, e, hra⟩ := hs.2 hne
  cases e
  simp only at ho
  subst ho
  have hj' : j < (hsL l).flatten.length := by omega
  have hv := List.getElem?_eq_getElem hj'
  obtain ⟨c, hc⟩ := hs_byte hv
  have h1 := hra j _ hv
  rw [row_cell hrow, Nat.zero_add, hc] at h1
  exact ⟨c, h1⟩
theorem by_of {W : World} {x : Bx} (h : BxAt W x) {ad : Addr} (e : x.a = some ad) (hr : RwAt W ad) : BY W ad.block (x.l.length * 32) := by_sl (e ▸ h.sl) hr
section
variable {oi : Oper} {a : Act} {w : World}
theorem x_st5 {x y : Operand} {g p : Nat} {v : Int} {u : Value} (hop : oi.op = .store 5 x y) (hx : a.eval x = .pointer (some ⟨g, p, none⟩)) (hy : a.eval y = .int .u8 v) (hc : w.cell? ⟨g, p, none⟩ = some u) (hf : w.frozen? ⟨g, p, none⟩ = false) : (execOp a.eval oi).run Try.prog w = .ok .skip (w.setCell ⟨g, p, none⟩ (.int .u8 v)) := by
  unfold execOp
  simp only [hop, hx, hy]
  simp [go_sem, hc, hf, Instr.storeAt, Instr.sureAddr]
theorem x_add5 {x : Operand} {c : UInt8} (hop : oi.op = .binOp .add 5 x (.const (.int .u8 1)) 5) (hx : a.eval x = .int .u8 (c.toNat : Int)) : (execOp a.eval oi).run Try.prog w = .ok (.value (.int .u8 ((c + 1).toNat : Int))) w := by
  have e : a.eval (.const (.int .u8 1)) = .int .u8 1 := rfl
  have h1 : ((c + 1).toNat : Int) = ((c.toNat : Int) + 1) % 256 := by
    rw [UInt8.toNat_add]
    have : (1 : UInt8).toNat = 1 := rfl
    rw [this]; omega
  unfold execOp
  simp only [hop, hx, e]
  rw [h1]
  simp [go_sem, IntKind.wrap, IntKind.bits, IntKind.signed]
end
theorem by_frozen {W : World} {b n o : Nat} (h : BY W b n) : W.frozen? ⟨b, o, none⟩ = false := by
  obtain ⟨cs, hr, _⟩ := h
  exact frozen_of_row W b o cs.toArray 50 hr
theorem by_cell {W : World} {b n o : Nat} (h : BY W b n) (ho : o < n) : ∃ c : UInt8, W.cell? ⟨b, o, none⟩ = some (.int .u8 (c.toNat : Int)) := by
  obtain ⟨cs, hr, hc⟩ := h
  obtain ⟨c, h1⟩ := hc o ho
  exact ⟨c, by rw [row_cell hr]; exact h1⟩
/-- Branches that were told, whose bytes may have been turned. -/
structure Mu (w : World) (gl : Nat) (cl : List Value) (X : List Bx) (wr : World) : Prop where
  aft : After w wr
  row : RowIs wr gl 48 cl
  each : ∀ x ∈ X, ∀ ad, x.a = some ad → ad.off = 0 ∧ ad.spot = none ∧ w.heap.size ≤ ad.block ∧ BY wr ad.block (x.l.length * 32)
theorem Mu.drew {w wr : World} {gl : Nat} {cl : List Value} {X : List Bx} (h : Mu w gl cl X wr) : Mu w gl cl X wr.drew := ⟨h.aft.drew, h.row, h.each⟩
theorem Mu.set {w wr : World} {gl : Nat} {cl : List Value} {X : List Bx} (h : Mu w gl cl X wr) {x : Bx} (hx : x ∈ X) {ad : Addr} (e : x.a = some ad) (o : Nat) (c : UInt8) : Mu w gl cl X (wr.setCell ⟨ad.block, o, none⟩ (.int .u8 (c.toNat : Int))) := by
  obtain ⟨_, _, hge, hby⟩ := h.each x hx ad e
  have hne : ad.block ≠ gl := fun e => by
    obtain ⟨cs, hr, _⟩ := hby
    rw [e] at hr
    exact absurd (hr.ty h.row).1 (by decide)
  refine ⟨?_, h.row.setOther hne _, fun y hy ad' e' => ?_⟩
  · exact Below.trans h.aft ((KeptF.set (F := fun b => b = ad.block) wr ⟨ad.block, o, none⟩ (.int .u8 (c.toNat : Int)) rfl).below h.aft.size (fun x hx => by rw [hx]; exact hge))
  · obtain ⟨k1, k2, k3, k4⟩ := h.each y hy ad' e'
    exact ⟨k1, k2, k3, k4.set _ _ _⟩
theorem bs_cell {X : List Bx} {i : Nat} {x : Bx} {cl : List Value} {m : Nat} (ht : cl.take m = (bsL X).flatten) (hx : X[i]? = some x) : cl[i * 2]? = some (.string (strOf x.nm)) ∧ cl[i * 2 + 1]? = some x.v := by
  have key : ∀ j v, (brc x)[j]? = some v → cl[i * 2 + j]? = some v := fun j v hv => by
    have h1 := fl_get (uni_bs X) (bs_get hx) hv
    rw [← ht, List.getElem?_take] at h1
    split at h1
    · exact h1
    · cases h1
  exact ⟨key 0 _ rfl, key 1 _ rfl⟩
set_option maxRecDepth 100000 in
set_option maxHeartbeats 6400000 in
theorem same11 {tv : Value} {S : Tb} {a : Option Addr} {n0 c : Nat} {Y : List Bx} {w : World} (hC : ∀ W, After w W → Calls Try.prog 23 #[tv] W fun e w' => ∃ v X, e = .returned v ∧ OwnB w' W.heap.size v X ∧ bof X = S ∧ After W w') (hS : S.length ≤ 64) (hY : BsAt w a Y) (hl : Y.length = n0) :
    Calls Try.prog 11 #[tv, .agg #[.slice a n0 c]] w fun e w' => e = .returned (.bool (decide (S = bof Y))) ∧ After w w' := by
  obtain ⟨g0, hg0⟩ : ∃ g0, w.heap.size = g0 := ⟨_, rfl⟩
  obtain ⟨W1, hW1⟩ : ∃ W1, w.alloc (.cells #[.slice a n0 c] 27) = W1 := ⟨_, rfl⟩
  have HW : Hid (RowIs W1 g0 27 [.slice a n0 c] ∧ After w W1) := by rw [← hW1, ← hg0]; exact ⟨RowIs.new w 27 _, after_alloc (After.refl w) _⟩
  have HC := show Hid _ from hC W1 HW.out.2
  have HY : Hid (BsAt w a Y ∧ Y.length = n0 ∧ S.length ≤ 64) := ⟨hY, hl, hS⟩
  obtain ⟨q, hq⟩ : ∃ q, decide (S = bof Y) = q := ⟨_, rfl⟩
  have HQ : Hid (decide (S = bof Y) = q) := hq
  rw [hq]
  clear hC hY hl hq hS
  cases q
  · go_enter Try.func11, Try.ntmps11
    go_wp2_with (first
      | (rw [hW1]; rw [hg0])
      | (go_at_call 23; refine Calls.mono HC.out ?_; rintro e w2 ⟨v, X, rfl, h1, h2, h3⟩; obtain ⟨va, vc, ev, hB⟩ := h1.at; subst ev; obtain ⟨n, hn⟩ : ∃ n, X.length = n := ⟨_, rfl⟩; rw [hn] at h1 ⊢; have H2 := show Hid (OwnB w2 W1.heap.size (.slice va n vc) X ∧ bof X = S ∧ After W1 w2 ∧ X.length = n ∧ BsAt w2 va X) from ⟨h1, h2, h3, hn, hB⟩; have c2 := (HW.out.1.below h3 HW.out.1.lt).cell (j := 0) rfl; clear h1 h2 h3 hn hB)
      | (go_at_call 28; refine Calls.mono (rsame28 (ca := vc) (cb := c) H2.out.2.2.2.1 HY.out.2.1 (by have h1 := HY.out.2.2; have h2 := H2.out.2.2.2.1; have h3 := bof_len X; rw [H2.out.2.1] at h3; omega) H2.out.2.2.2.2 (HY.out.1.after (HW.out.2.trans H2.out.2.2.1))) ?_; rintro e w3 ⟨he, h3⟩; rw [H2.out.2.1, HQ.out] at he; subst he; have H3 := show Hid (After w2 w3) from h3; have c3 := (HW.out.1.below (H2.out.2.2.1.trans h3) HW.out.1.lt).cell (j := 0) rfl; clear h3)
      | (go_at_call 24; refine Calls.mono (same24 (ca := vc) (cb := c) H2.out.2.2.2.1 HY.out.2.1 (by have h1 := HY.out.2.2; have h2 := H2.out.2.2.2.1; have h3 := bof_len X; rw [H2.out.2.1] at h3; omega) (H2.out.2.2.2.2.after H3.out) (HY.out.1.after ((HW.out.2.trans H2.out.2.2.1).trans H3.out))) ?_; rintro e w4 ⟨he, h4⟩; rw [H2.out.2.1, HQ.out] at he; subst he; have H4 := show Hid (After w2 w4) from H3.out.trans h4; clear h4))
    obtain ⟨wz, HZ⟩ : ∃ wz, Hid (After w2 wz ∧ wz = w3) := ⟨_, H3.out, rfl⟩
    rw [← HZ.out.2]
    have HO : Hid (OwnB wz W1.heap.size (.slice va n vc) X) := H2.out.1.after HZ.out.1
    have HAZ : Hid (After w wz) := (HW.out.2.trans H2.out.2.2.1).trans HZ.out.1
    have HXN : Hid (X.length = n) := H2.out.2.2.2.1
    have HS1 : Hid (w.heap.size ≤ W1.heap.size) := HW.out.2.size
    have hn64 : n ≤ 64 := by have h1 := HY.out.2.2; have h2 := H2.out.2.2.2.1; have h3 := bof_len X; rw [H2.out.2.1] at h3; omega
    clear HW HC HY H2 H3 c2 c3 hW1
    rcases own_row HO.out.row.2 with ⟨ev, hn0, _⟩ | ⟨gl, cap, cl, ev, hb1, hr, hnc, hcm, hcl, ht⟩
    · simp only [Value.slice.injEq] at ev
      obtain ⟨rfl, rfl, rfl⟩ := ev
      go_loopw [7] (fun iv wr => iv = .int .i64 0 ∧ wr = wz) (fun _ _ => 0)
      case atStart => exact ⟨rfl, rfl⟩
      case round =>
        obtain ⟨rfl, rfl⟩ := hrel
        go_wp2
        go_ret
        exact ⟨rfl, HAZ.out⟩
    · simp only [Value.slice.injEq] at ev
      obtain ⟨rfl, hnX, rfl⟩ := ev
      clear hnX
      have HT : Hid (cl.take ((bsL X).length * 2) = (bsL X).flatten) := ht
      have HM0 : Hid (Mu w gl cl X wz) := ⟨HAZ.out, hr, fun x hx ad e => by
        have h1 := HO.out.ge x hx ad e
        exact ⟨h1.2.2.2.1, h1.2.2.2.2.1, Nat.le_trans HS1.out h1.1, by_of (HO.out.each x hx) e h1.2.2.2⟩⟩
      clear hb1 hr hnc hcm hcl ht
      go_loopw [7] (fun iv wr => ∃ i : Nat, i ≤ n ∧ iv = .int .i64 (i : Int) ∧ Hid (Mu w gl cl X wr)) (fun iv _ => n - (intOf iv).toNat)
      case atStart => exact ⟨0, Nat.zero_le _, rfl, HM0⟩
      case round =>
        obtain ⟨i, hin, rfl, HI⟩ := hrel
        by_cases hlt : i < n
        · have hii : (i : Int) < (n : Int) := by omega
          have HLT : Hid (i < n) := hlt
          obtain ⟨x, hx⟩ : ∃ x, X[i]? = some x := ⟨_, List.getElem?_eq_getElem (by rw [HXN.out]; exact hlt)⟩
          have hcell := (bs_cell HT.out hx).2
          have hbx := HO.out.each x (List.mem_of_getElem? hx)
          obtain ⟨nm, xa, xc, l⟩ := x
          obtain ⟨p, hp⟩ : ∃ p, l.length = p := ⟨_, rfl⟩
          unfold Bx.v at hcell
          simp only at hcell
          rw [hp] at hcell
          have hp2 : p < 4611686018427387904 := by have := hbx.fit; simp only at this; omega
          have HX : Hid (⟨nm, xa, xc, l⟩ ∈ X ∧ cl[i * 2 + 1]? = some (.slice xa p xc) ∧ BxAt wz ⟨nm, xa, xc, l⟩ ∧ l.length = p) := ⟨List.mem_of_getElem? hx, hcell, hbx, hp⟩
          clear hx hcell hbx hp
          obtain ⟨wo, hwo⟩ : ∃ wo, wo = wr := ⟨_, rfl⟩
          subst hwo
          go_wp2
          go_loopw [8] (fun kv wr => ∃ k : Nat, k ≤ p ∧ kv = .int .i64 (k : Int) ∧ Hid (Mu w gl cl X wr)) (fun kv _ => p - (intOf kv).toNat)
          case atStart => exact ⟨0, Nat.zero_le _, rfl, HI⟩
          case round =>
            obtain ⟨k, hkp, rfl, HI2⟩ := hrel
            by_cases hkt : k < p
            · have hkk : (k : Int) < (p : Int) := by omega
              have HKT : Hid (k < p) := hkt
              obtain ⟨hb, rfl, hby, hge⟩ : ∃ hb, xa = some ⟨hb, 0, none⟩ ∧ BY wr hb (p * 32) ∧ w.heap.size ≤ hb := by
                obtain ⟨b, o, e, _⟩ := HX.out.2.2.1.sl.2 (fun e => by have h1 := HX.out.2.2.2; simp only [hsL, List.map_eq_nil_iff] at e; rw [e] at h1; simp at h1; omega)
                simp only at e
                obtain ⟨k1, _, k3, k4⟩ := HI2.out.each _ HX.out.1 ⟨b, o, none⟩ e
                simp only at k1 k3 k4
                rw [HX.out.2.2.2] at k4
                exact ⟨b, by rw [e, k1], k4, k3⟩
              have HNE : Hid (¬ gl = hb) := fun e => by
                obtain ⟨cs, hr, _⟩ := hby
                rw [← e] at hr
                exact absurd (hr.ty HI2.out.row).1 (by decide)
              obtain ⟨cv, hcv⟩ := by_cell (o := k * 32) hby (by omega)
              have HBY : Hid (BY wr hb (p * 32)) := hby
              have HCV : Hid (wr.cell? ⟨hb, 0 + k * 32, none⟩ = some (.int .u8 (cv.toNat : Int))) := by rw [Nat.zero_add]; exact hcv
              clear hby hge hcv
              go_wp2_with (first
                | (refine wpList_of_run rfl (x_idx25 (x := .tmp 28) (y := .tmp 29) (b := gl) (f := 0) (n := n) (c := vc) (i := i) rfl (by kernel_rfl) (by kernel_rfl) HLT.out) ?_)
                | (refine wpList_of_run rfl (x_loadT (x := .tmp 31) (t := 30) (g := gl) (j := i * 2 + 1) Try.underlying30 rfl rfl (by kernel_rfl) (by rw [row_cell HI2.out.row]; exact HX.out.2.1)) ?_))
              refine wp_region_noPanic ?_
              refine wp_region_held_drew (S := KeptF (fun b => b = hb) wr) (by kernel_rfl) (KeptF.of_after (After.drew (After.refl wr))) ?_
              intro hS0
              refine tk 0 37 (.slice (some ⟨gl, 0, none⟩) n vc) (fuel := 12) rfl (by kernel_rfl) (by kernel_rfl) (by kernel_rfl) (by kernel_rfl) noPanic_false (by kernel_rfl) (fun _ _ => by kernel_rfl) hS0 ?_
              refine tk 1 38 (.int .i64 (i : Int)) (fuel := 11) rfl (by kernel_rfl) (by kernel_rfl) (by kernel_rfl) (by kernel_rfl) noPanic_false (by kernel_rfl) (fun _ _ => by kernel_rfl) hS0 ?_
              refine tk 2 39 (.pointer (some ⟨gl, 0 + i * 2, none⟩)) (fuel := 10) rfl (by kernel_rfl) (by kernel_rfl) (by kernel_rfl) (by kernel_rfl) noPanic_false (by kernel_rfl) (fun W _ => x_idx25 (n := n) (c := vc) (x := .tmp 37) (y := .tmp 38) (by kernel_rfl) (by kernel_rfl) (by kernel_rfl) HLT.out) hS0 ?_
              refine tk 3 40 (.pointer (some ⟨gl, 0 + i * 2 + 1, none⟩)) (fuel := 9) rfl (by kernel_rfl) (by kernel_rfl) (by kernel_rfl) (by kernel_rfl) noPanic_false (by kernel_rfl) (fun _ _ => by kernel_rfl) hS0 ?_
              refine tk 4 41 (.slice (some ⟨hb, 0, none⟩) p xc) (fuel := 8) rfl (by kernel_rfl) (by kernel_rfl) (by kernel_rfl) (by kernel_rfl) noPanic_false (by kernel_rfl) (fun W hW => x_loadT (x := .tmp 40) (t := 30) (g := gl) (j := 0 + i * 2 + 1) Try.underlying30 rfl (by kernel_rfl) (by kernel_rfl) (by rw [row_cell (hW.row HI2.out.row HNE.out), show 0 + i * 2 + 1 = i * 2 + 1 by omega]; exact HX.out.2.1)) hS0 ?_
              refine tk 5 42 (.int .i64 (k : Int)) (fuel := 7) rfl (by kernel_rfl) (by kernel_rfl) (by kernel_rfl) (by kernel_rfl) noPanic_false (by kernel_rfl) (fun _ _ => by kernel_rfl) hS0 ?_
              refine tk 6 43 (.pointer (some ⟨hb, 0 + k * 32, none⟩)) (fuel := 6) rfl (by kernel_rfl) (by kernel_rfl) (by kernel_rfl) (by kernel_rfl) noPanic_false (by kernel_rfl) (fun W _ => x_idx44 (n := p) (c := xc) (x := .tmp 41) (y := .tmp 42) (by kernel_rfl) (by kernel_rfl) (by kernel_rfl) HKT.out) hS0 ?_
              refine tk 7 44 (.pointer (some ⟨hb, 0 + k * 32, none⟩)) (fuel := 5) rfl (by kernel_rfl) (by kernel_rfl) (by kernel_rfl) (by kernel_rfl) noPanic_false (by kernel_rfl) (fun _ _ => by kernel_rfl) hS0 ?_
              refine tk 10 47 (.pointer (some ⟨hb, 0 + k * 32, none⟩)) (fuel := 4) rfl (by kernel_rfl) (by kernel_rfl) (by kernel_rfl) (by kernel_rfl) noPanic_false (by kernel_rfl) (fun W _ => x_idx44 (n := p) (c := xc) (x := .tmp 41) (y := .tmp 42) (by kernel_rfl) (by kernel_rfl) (by kernel_rfl) HKT.out) hS0 ?_
              refine tkRunS 8 45 (.int .u8 (cv.toNat : Int)) (wr.drew) (fuel := 3) rfl (by kernel_rfl) (by kernel_rfl) (by kernel_rfl) (x_loadT (x := .tmp 44) (t := 5) (g := hb) (j := 0 + k * 32) Try.underlying5 rfl (by kernel_rfl) (by kernel_rfl) HCV.out) (hS0) ?_
              refine tk 9 46 (.int .u8 ((cv + 1).toNat : Int)) (fuel := 2) rfl (by kernel_rfl) (by kernel_rfl) (by kernel_rfl) (by kernel_rfl) noPanic_false (by kernel_rfl) (fun W _ => x_add5 (x := .tmp 45) (by kernel_rfl) (by kernel_rfl)) hS0 ?_
              refine tk 11 48 (.pointer (some ⟨hb, 0 + k * 32, none⟩)) (fuel := 1) rfl (by kernel_rfl) (by kernel_rfl) (by kernel_rfl) (by kernel_rfl) noPanic_false (by kernel_rfl) (fun _ _ => by kernel_rfl) hS0 ?_
              refine tkStoreS 12 (wr.drew.setCell ⟨hb, 0 + k * 32, none⟩ (.int .u8 ((cv + 1).toNat : Int))) (fuel := 0) rfl (by kernel_rfl) (by kernel_rfl) (by kernel_rfl) (x_st5 (x := .tmp 48) (y := .tmp 46) (by kernel_rfl) (by kernel_rfl) (by kernel_rfl) HCV.out (by_frozen HBY.out)) (hS0.trans (KeptF.set (F := fun b => b = hb) wr.drew ⟨hb, 0 + k * 32, none⟩ _ rfl) (fun _ _ h => h)) ?_
              refine wpAnyH_done (by kernel_rfl) (NoPanic.normal ?_) _
              have HN : Hid (Mu w gl cl X (wr.drew.setCell ⟨hb, 0 + k * 32, none⟩ (.int .u8 ((cv + 1).toNat : Int)))) := HI2.out.drew.set HX.out.1 (ad := ⟨hb, 0, none⟩) rfl _ _
              clear hS0
              obtain ⟨wn, hwn⟩ : ∃ wn, wr.drew.setCell ⟨hb, 0 + k * 32, none⟩ (.int .u8 ((cv + 1).toNat : Int)) = wn := ⟨_, rfl⟩
              rw [hwn] at HN ⊢
              clear hwn
              go_simp
              go_wp2
              go_roundw
              case rel => exact ⟨k + 1, by omega, by go_num, HN⟩
              case measure => simp [intOf]; omega
            · have hkk : ¬ (k : Int) < (p : Int) := by omega
              go_wp2_with (first
                | (refine wpList_of_run rfl (x_idx25 (x := .tmp 28) (y := .tmp 29) (b := gl) (f := 0) (n := n) (c := vc) (i := i) rfl (by kernel_rfl) (by kernel_rfl) HLT.out) ?_)
                | (refine wpList_of_run rfl (x_loadT (x := .tmp 31) (t := 30) (g := gl) (j := i * 2 + 1) Try.underlying30 rfl rfl (by kernel_rfl) (by rw [row_cell HI2.out.row]; exact HX.out.2.1)) ?_))
              go_roundw
              case rel => exact ⟨i + 1, by omega, by go_num, HI2⟩
              case measure => simp [intOf]; omega
        · have hii : ¬ (i : Int) < (n : Int) := by omega
          go_wp2
          go_ret
          exact ⟨rfl, HI.out.aft⟩
  · go_enter Try.func11, Try.ntmps11
    go_wp2_with (first
      | (rw [hW1]; rw [hg0])
      | (go_at_call 23; refine Calls.mono HC.out ?_; rintro e w2 ⟨v, X, rfl, h1, h2, h3⟩; obtain ⟨va, vc, ev, hB⟩ := h1.at; subst ev; obtain ⟨n, hn⟩ : ∃ n, X.length = n := ⟨_, rfl⟩; rw [hn] at h1 ⊢; have H2 := show Hid (OwnB w2 W1.heap.size (.slice va n vc) X ∧ bof X = S ∧ After W1 w2 ∧ X.length = n ∧ BsAt w2 va X) from ⟨h1, h2, h3, hn, hB⟩; have c2 := (HW.out.1.below h3 HW.out.1.lt).cell (j := 0) rfl; clear h1 h2 h3 hn hB)
      | (go_at_call 28; refine Calls.mono (rsame28 (ca := vc) (cb := c) H2.out.2.2.2.1 HY.out.2.1 (by have h1 := HY.out.2.2; have h2 := H2.out.2.2.2.1; have h3 := bof_len X; rw [H2.out.2.1] at h3; omega) H2.out.2.2.2.2 (HY.out.1.after (HW.out.2.trans H2.out.2.2.1))) ?_; rintro e w3 ⟨he, h3⟩; rw [H2.out.2.1, HQ.out] at he; subst he; have H3 := show Hid (After w2 w3) from h3; have c3 := (HW.out.1.below (H2.out.2.2.1.trans h3) HW.out.1.lt).cell (j := 0) rfl; clear h3)
      | (go_at_call 24; refine Calls.mono (same24 (ca := vc) (cb := c) H2.out.2.2.2.1 HY.out.2.1 (by have h1 := HY.out.2.2; have h2 := H2.out.2.2.2.1; have h3 := bof_len X; rw [H2.out.2.1] at h3; omega) (H2.out.2.2.2.2.after H3.out) (HY.out.1.after ((HW.out.2.trans H2.out.2.2.1).trans H3.out))) ?_; rintro e w4 ⟨he, h4⟩; rw [H2.out.2.1, HQ.out] at he; subst he; have H4 := show Hid (After w2 w4) from H3.out.trans h4; clear h4))
    obtain ⟨wz, HZ⟩ : ∃ wz, Hid (After w2 wz ∧ wz = w4) := ⟨_, H4.out, rfl⟩
    rw [← HZ.out.2]
    have HO : Hid (OwnB wz W1.heap.size (.slice va n vc) X) := H2.out.1.after HZ.out.1
    have HAZ : Hid (After w wz) := (HW.out.2.trans H2.out.2.2.1).trans HZ.out.1
    have HXN : Hid (X.length = n) := H2.out.2.2.2.1
    have HS1 : Hid (w.heap.size ≤ W1.heap.size) := HW.out.2.size
    have hn64 : n ≤ 64 := by have h1 := HY.out.2.2; have h2 := H2.out.2.2.2.1; have h3 := bof_len X; rw [H2.out.2.1] at h3; omega
    clear HW HC HY H2 H3 H4 c2 c3 hW1
    rcases own_row HO.out.row.2 with ⟨ev, hn0, _⟩ | ⟨gl, cap, cl, ev, hb1, hr, hnc, hcm, hcl, ht⟩
    · simp only [Value.slice.injEq] at ev
      obtain ⟨rfl, rfl, rfl⟩ := ev
      go_loopw [7] (fun iv wr => iv = .int .i64 0 ∧ wr = wz) (fun _ _ => 0)
      case atStart => exact ⟨rfl, rfl⟩
      case round =>
        obtain ⟨rfl, rfl⟩ := hrel
        go_wp2
        go_ret
        exact ⟨rfl, HAZ.out⟩
    · simp only [Value.slice.injEq] at ev
      obtain ⟨rfl, hnX, rfl⟩ := ev
      clear hnX
      have HT : Hid (cl.take ((bsL X).length * 2) = (bsL X).flatten) := ht
      have HM0 : Hid (Mu w gl cl X wz) := ⟨HAZ.out, hr, fun x hx ad e => by
        have h1 := HO.out.ge x hx ad e
        exact ⟨h1.2.2.2.1, h1.2.2.2.2.1, Nat.le_trans HS1.out h1.1, by_of (HO.out.each x hx) e h1.2.2.2⟩⟩
      clear hb1 hr hnc hcm hcl ht
      go_loopw [7] (fun iv wr => ∃ i : Nat, i ≤ n ∧ iv = .int .i64 (i : Int) ∧ Hid (Mu w gl cl X wr)) (fun iv _ => n - (intOf iv).toNat)
      case atStart => exact ⟨0, Nat.zero_le _, rfl, HM0⟩
      case round =>
        obtain ⟨i, hin, rfl, HI⟩ := hrel
        by_cases hlt : i < n
        · have hii : (i : Int) < (n : Int) := by omega
          have HLT : Hid (i < n) := hlt
          obtain ⟨x, hx⟩ : ∃ x, X[i]? = some x := ⟨_, List.getElem?_eq_getElem (by rw [HXN.out]; exact hlt)⟩
          have hcell := (bs_cell HT.out hx).2
          have hbx := HO.out.each x (List.mem_of_getElem? hx)
          obtain ⟨nm, xa, xc, l⟩ := x
          obtain ⟨p, hp⟩ : ∃ p, l.length = p := ⟨_, rfl⟩
          unfold Bx.v at hcell
          simp only at hcell
          rw [hp] at hcell
          have hp2 : p < 4611686018427387904 := by have := hbx.fit; simp only at this; omega
          have HX : Hid (⟨nm, xa, xc, l⟩ ∈ X ∧ cl[i * 2 + 1]? = some (.slice xa p xc) ∧ BxAt wz ⟨nm, xa, xc, l⟩ ∧ l.length = p) := ⟨List.mem_of_getElem? hx, hcell, hbx, hp⟩
          clear hx hcell hbx hp
          obtain ⟨wo, hwo⟩ : ∃ wo, wo = wr := ⟨_, rfl⟩
          subst hwo
          go_wp2
          go_loopw [8] (fun kv wr => ∃ k : Nat, k ≤ p ∧ kv = .int .i64 (k : Int) ∧ Hid (Mu w gl cl X wr)) (fun kv _ => p - (intOf kv).toNat)
          case atStart => exact ⟨0, Nat.zero_le _, rfl, HI⟩
          case round =>
            obtain ⟨k, hkp, rfl, HI2⟩ := hrel
            by_cases hkt : k < p
            · have hkk : (k : Int) < (p : Int) := by omega
              have HKT : Hid (k < p) := hkt
              obtain ⟨hb, rfl, hby, hge⟩ : ∃ hb, xa = some ⟨hb, 0, none⟩ ∧ BY wr hb (p * 32) ∧ w.heap.size ≤ hb := by
                obtain ⟨b, o, e, _⟩ := HX.out.2.2.1.sl.2 (fun e => by have h1 := HX.out.2.2.2; simp only [hsL, List.map_eq_nil_iff] at e; rw [e] at h1; simp at h1; omega)
                simp only at e
                obtain ⟨k1, _, k3, k4⟩ := HI2.out.each _ HX.out.1 ⟨b, o, none⟩ e
                simp only at k1 k3 k4
                rw [HX.out.2.2.2] at k4
                exact ⟨b, by rw [e, k1], k4, k3⟩
              have HNE : Hid (¬ gl = hb) := fun e => by
                obtain ⟨cs, hr, _⟩ := hby
                rw [← e] at hr
                exact absurd (hr.ty HI2.out.row).1 (by decide)
              obtain ⟨cv, hcv⟩ := by_cell (o := k * 32) hby (by omega)
              have HBY : Hid (BY wr hb (p * 32)) := hby
              have HCV : Hid (wr.cell? ⟨hb, 0 + k * 32, none⟩ = some (.int .u8 (cv.toNat : Int))) := by rw [Nat.zero_add]; exact hcv
              clear hby hge hcv
              go_wp2_with (first
                | (refine wpList_of_run rfl (x_idx25 (x := .tmp 28) (y := .tmp 29) (b := gl) (f := 0) (n := n) (c := vc) (i := i) rfl (by kernel_rfl) (by kernel_rfl) HLT.out) ?_)
                | (refine wpList_of_run rfl (x_loadT (x := .tmp 31) (t := 30) (g := gl) (j := i * 2 + 1) Try.underlying30 rfl rfl (by kernel_rfl) (by rw [row_cell HI2.out.row]; exact HX.out.2.1)) ?_))
              refine wp_region_noPanic ?_
              refine wp_region_held_drew (S := KeptF (fun b => b = hb) wr) (by kernel_rfl) (KeptF.of_after (After.drew (After.refl wr))) ?_
              intro hS0
              refine tk 0 37 (.slice (some ⟨gl, 0, none⟩) n vc) (fuel := 12) rfl (by kernel_rfl) (by kernel_rfl) (by kernel_rfl) (by kernel_rfl) noPanic_false (by kernel_rfl) (fun _ _ => by kernel_rfl) hS0 ?_
              refine tk 1 38 (.int .i64 (i : Int)) (fuel := 11) rfl (by kernel_rfl) (by kernel_rfl) (by kernel_rfl) (by kernel_rfl) noPanic_false (by kernel_rfl) (fun _ _ => by kernel_rfl) hS0 ?_
              refine tk 2 39 (.pointer (some ⟨gl, 0 + i * 2, none⟩)) (fuel := 10) rfl (by kernel_rfl) (by kernel_rfl) (by kernel_rfl) (by kernel_rfl) noPanic_false (by kernel_rfl) (fun W _ => x_idx25 (n := n) (c := vc) (x := .tmp 37) (y := .tmp 38) (by kernel_rfl) (by kernel_rfl) (by kernel_rfl) HLT.out) hS0 ?_
              refine tk 3 40 (.pointer (some ⟨gl, 0 + i * 2 + 1, none⟩)) (fuel := 9) rfl (by kernel_rfl) (by kernel_rfl) (by kernel_rfl) (by kernel_rfl) noPanic_false (by kernel_rfl) (fun _ _ => by kernel_rfl) hS0 ?_
              refine tk 4 41 (.slice (some ⟨hb, 0, none⟩) p xc) (fuel := 8) rfl (by kernel_rfl) (by kernel_rfl) (by kernel_rfl) (by kernel_rfl) noPanic_false (by kernel_rfl) (fun W hW => x_loadT (x := .tmp 40) (t := 30) (g := gl) (j := 0 + i * 2 + 1) Try.underlying30 rfl (by kernel_rfl) (by kernel_rfl) (by rw [row_cell (hW.row HI2.out.row HNE.out), show 0 + i * 2 + 1 = i * 2 + 1 by omega]; exact HX.out.2.1)) hS0 ?_
              refine tk 5 42 (.int .i64 (k : Int)) (fuel := 7) rfl (by kernel_rfl) (by kernel_rfl) (by kernel_rfl) (by kernel_rfl) noPanic_false (by kernel_rfl) (fun _ _ => by kernel_rfl) hS0 ?_
              refine tk 6 43 (.pointer (some ⟨hb, 0 + k * 32, none⟩)) (fuel := 6) rfl (by kernel_rfl) (by kernel_rfl) (by kernel_rfl) (by kernel_rfl) noPanic_false (by kernel_rfl) (fun W _ => x_idx44 (n := p) (c := xc) (x := .tmp 41) (y := .tmp 42) (by kernel_rfl) (by kernel_rfl) (by kernel_rfl) HKT.out) hS0 ?_
              refine tk 7 44 (.pointer (some ⟨hb, 0 + k * 32, none⟩)) (fuel := 5) rfl (by kernel_rfl) (by kernel_rfl) (by kernel_rfl) (by kernel_rfl) noPanic_false (by kernel_rfl) (fun _ _ => by kernel_rfl) hS0 ?_
              refine tk 10 47 (.pointer (some ⟨hb, 0 + k * 32, none⟩)) (fuel := 4) rfl (by kernel_rfl) (by kernel_rfl) (by kernel_rfl) (by kernel_rfl) noPanic_false (by kernel_rfl) (fun W _ => x_idx44 (n := p) (c := xc) (x := .tmp 41) (y := .tmp 42) (by kernel_rfl) (by kernel_rfl) (by kernel_rfl) HKT.out) hS0 ?_
              refine tkRunS 8 45 (.int .u8 (cv.toNat : Int)) (wr.drew) (fuel := 3) rfl (by kernel_rfl) (by kernel_rfl) (by kernel_rfl) (x_loadT (x := .tmp 44) (t := 5) (g := hb) (j := 0 + k * 32) Try.underlying5 rfl (by kernel_rfl) (by kernel_rfl) HCV.out) (hS0) ?_
              refine tk 9 46 (.int .u8 ((cv + 1).toNat : Int)) (fuel := 2) rfl (by kernel_rfl) (by kernel_rfl) (by kernel_rfl) (by kernel_rfl) noPanic_false (by kernel_rfl) (fun W _ => x_add5 (x := .tmp 45) (by kernel_rfl) (by kernel_rfl)) hS0 ?_
              refine tk 11 48 (.pointer (some ⟨hb, 0 + k * 32, none⟩)) (fuel := 1) rfl (by kernel_rfl) (by kernel_rfl) (by kernel_rfl) (by kernel_rfl) noPanic_false (by kernel_rfl) (fun _ _ => by kernel_rfl) hS0 ?_
              refine tkStoreS 12 (wr.drew.setCell ⟨hb, 0 + k * 32, none⟩ (.int .u8 ((cv + 1).toNat : Int))) (fuel := 0) rfl (by kernel_rfl) (by kernel_rfl) (by kernel_rfl) (x_st5 (x := .tmp 48) (y := .tmp 46) (by kernel_rfl) (by kernel_rfl) (by kernel_rfl) HCV.out (by_frozen HBY.out)) (hS0.trans (KeptF.set (F := fun b => b = hb) wr.drew ⟨hb, 0 + k * 32, none⟩ _ rfl) (fun _ _ h => h)) ?_
              refine wpAnyH_done (by kernel_rfl) (NoPanic.normal ?_) _
              have HN : Hid (Mu w gl cl X (wr.drew.setCell ⟨hb, 0 + k * 32, none⟩ (.int .u8 ((cv + 1).toNat : Int)))) := HI2.out.drew.set HX.out.1 (ad := ⟨hb, 0, none⟩) rfl _ _
              clear hS0
              obtain ⟨wn, hwn⟩ : ∃ wn, wr.drew.setCell ⟨hb, 0 + k * 32, none⟩ (.int .u8 ((cv + 1).toNat : Int)) = wn := ⟨_, rfl⟩
              rw [hwn] at HN ⊢
              clear hwn
              go_simp
              go_wp2
              go_roundw
              case rel => exact ⟨k + 1, by omega, by go_num, HN⟩
              case measure => simp [intOf]; omega
            · have hkk : ¬ (k : Int) < (p : Int) := by omega
              go_wp2_with (first
                | (refine wpList_of_run rfl (x_idx25 (x := .tmp 28) (y := .tmp 29) (b := gl) (f := 0) (n := n) (c := vc) (i := i) rfl (by kernel_rfl) (by kernel_rfl) HLT.out) ?_)
                | (refine wpList_of_run rfl (x_loadT (x := .tmp 31) (t := 30) (g := gl) (j := i * 2 + 1) Try.underlying30 rfl rfl (by kernel_rfl) (by rw [row_cell HI2.out.row]; exact HX.out.2.1)) ?_))
              go_roundw
              case rel => exact ⟨i + 1, by omega, by go_num, HI2⟩
              case measure => simp [intOf]; omega
        · have hii : ¬ (i : Int) < (n : Int) := by omega
          go_wp2
          go_ret
          exact ⟨rfl, HI.out.aft⟩
end Go.Proofs.Ytppbbmnekeelpaa
