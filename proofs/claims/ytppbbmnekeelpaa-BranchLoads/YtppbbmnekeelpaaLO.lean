/-
  BranchLoads (4).
-/
import Derived.Test.YtppbbmnekeelpaaCP
namespace Go.Proofs.Ytppbbmnekeelpaa
open Go.RowKit Go.Maps Dsk
attribute [local go_sem] Oper.semAt_some
theorem same_T {T : World → Prop} {tv : Value} {S : Tb} (hTa : ∀ W W', After W W' → T W → T W') (hTc : ∀ W, T W → Calls Try.prog 23 #[tv] W fun e w' => ∃ v X, e = .returned v ∧ OwnB w' W.heap.size v X ∧ bof X = S ∧ After W w') (hS : S.length ≤ 64) {B rn rc : Nat} {ra : Option Addr} {Z : List Bx} {W : World} (hZ : bof Z = S) (ho : OwnB W B (.slice ra rn rc) Z) (hT : T W) : Calls Try.prog 11 #[tv, .agg #[.slice ra rn rc]] W fun e w' => e = .returned (.bool true) ∧ After W w' := by
  obtain ⟨a, c, e, hb⟩ := ho.at
  injection e with e1 e2 e3
  subst e1 e3
  exact (same11 (c := rc) (fun W' hW => hTc W' (hTa _ _ hW hT)) hS hb e2.symm).mono (fun e w' ⟨h1, h2⟩ => ⟨by rw [h1, hZ]; simp, h2⟩)
theorem OwnB.bs {W : World} {B n c : Nat} {a : Option Addr} {X : List Bx} (h : OwnB W B (.slice a n c) X) : BsAt W a X := by
  obtain ⟨a', c', e, hb⟩ := h.at
  injection e with e1
  subst e1
  exact hb
theorem nm_of_bof {K X : List Bx} (h : bof K = bof X) (hX : ∀ x ∈ X, x.nm.length ≤ maxLen) : ∀ x ∈ K, x.nm.length ≤ maxLen := fun x hx => by
  have h1 : (x.nm, x.l) ∈ bof X := by rw [← h]; exact List.mem_map.2 ⟨x, hx, rfl⟩
  obtain ⟨y, hy, e⟩ := List.mem_map.1 h1
  simp only [Prod.mk.injEq] at e
  rw [← e.1]
  exact hX y hy
theorem ld17g {la : Option Addr} {ca n : Nat} {X : List Bx} (hl : X.length = n) (hn : n * 40 ≤ 140737488355328) (hnm : ∀ x ∈ X, x.nm.length ≤ maxLen) {w : World} (hA : BsAt w la X) (hok : LOk (bof X)) : Calls Try.prog 17 #[.slice la n ca] w fun e w' => ∃ tb mb F cs, e = .returned (.tuple #[.pointer (some ⟨tb, 0, none⟩), .int .i64 0]) ∧ TbI w tb mb F cs w' ∧ fls cs = bof X :=
  (load17 hl hn hnm hA).mono (fun e w' h => by
    rcases h with ⟨_, h⟩ | ⟨h, _⟩
    · exact h
    · exact absurd hok h)
theorem ld17b {la : Option Addr} {ca n : Nat} {X : List Bx} (hl : X.length = n) (hn : n * 40 ≤ 140737488355328) (hnm : ∀ x ∈ X, x.nm.length ≤ maxLen) {w : World} (hA : BsAt w la X) (hok : ¬ LOk (bof X)) : Calls Try.prog 17 #[.slice la n ca] w fun e w' => e = .returned (.tuple #[.pointer none, .int .i64 4]) ∧ After w w' :=
  (load17 hl hn hnm hA).mono (fun e w' h => by
    rcases h with ⟨h, _⟩ | ⟨_, h⟩
    · exact absurd h hok
    · exact h)
theorem ld18g {la : Option Addr} {ca n : Nat} {X : List Bx} (hl : X.length = n) (hnm : ∀ x ∈ X, x.nm.length ≤ maxLen) {w : World} (hA : BsAt w la X) (hok : LOk (bof X)) : Calls Try.prog 18 #[.slice la n ca] w fun e w' => ∃ a c Z, e = .returned (.tuple #[.agg #[.slice a n c], .int .i64 0]) ∧ OwnB w' w.heap.size (.slice a n c) Z ∧ bof Z = bof X ∧ After w w' :=
  (rload18 hl hnm hA).mono (fun e w' h => by
    rcases h with ⟨_, h⟩ | ⟨h, _⟩
    · exact h
    · exact absurd hok h)
theorem ld18b {la : Option Addr} {ca n : Nat} {X : List Bx} (hl : X.length = n) (hnm : ∀ x ∈ X, x.nm.length ≤ maxLen) {w : World} (hA : BsAt w la X) (hok : ¬ LOk (bof X)) : Calls Try.prog 18 #[.slice la n ca] w fun e w' => e = .returned (.tuple #[.agg #[.slice none 0 0], .int .i64 4]) ∧ After w w' :=
  (rload18 hl hnm hA).mono (fun e w' h => by
    rcases h with ⟨h, _⟩ | ⟨_, h⟩
    · exact absurd h hok
    · exact h)
theorem st27 {w3 w4 w5 : World} {gr : Nat} {v : Value} (hgr : w3.heap.size = gr) (hw4 : w3.alloc (.cells #[.slice none 0 0] 27) = w4) (hw5 : w4.setRow gr #[v] = w5) : RowIs w4 gr 27 [.slice none 0 0] ∧ RowIs w5 gr 27 [v] ∧ After w3 w5 := by
  have h1 : RowIs w4 gr 27 [.slice none 0 0] := by rw [← hw4, ← hgr]; exact RowIs.new w3 27 [.slice none 0 0]
  refine ⟨h1, by rw [← hw5]; exact h1.setRow [v], ?_⟩
  rw [← hw5]
  exact Below.row (by rw [← hw4]; exact after_alloc (After.refl w3) _) (by omega) _
/-- The bytes that were handed in are turned: what stands from B on stays. -/
structure LM (w : World) (B gr gl : Nat) (cl : List Value) (K Z : List Bx) (T : World → Prop) (rv : Value) (wr : World) : Prop where
  mu : Mu w gl cl K wr
  lt : ∀ x ∈ K, ∀ ad, x.a = some ad → ad.block < B
  gb : B ≤ gr
  row : RowIs wr gr 27 [rv]
  own : OwnB wr B rv Z
  tab : T wr
theorem LM.drew {w wr : World} {B gr gl : Nat} {cl : List Value} {K Z : List Bx} {T : World → Prop} {rv : Value} (hTa : ∀ W W', After W W' → T W → T W') (h : LM w B gr gl cl K Z T rv wr) : LM w B gr gl cl K Z T rv wr.drew := ⟨h.mu.drew, h.lt, h.gb, h.row, h.own.after (After.drew (After.refl wr)), hTa _ _ (After.drew (After.refl wr)) h.tab⟩
theorem LM.set {w wr : World} {B gr gl : Nat} {cl : List Value} {K Z : List Bx} {T : World → Prop} {rv : Value} (hTs : ∀ W b o u, b < B → T W → T (W.setCell ⟨b, o, none⟩ u)) (h : LM w B gr gl cl K Z T rv wr) {x : Bx} (hx : x ∈ K) {ad : Addr} (e : x.a = some ad) (o : Nat) (c : UInt8) : LM w B gr gl cl K Z T rv (wr.setCell ⟨ad.block, o, none⟩ (.int .u8 (c.toNat : Int))) :=
  ⟨h.mu.set hx e o c, h.lt, h.gb, h.row.setOther (by have := h.lt x hx ad e; have := h.gb; omega) _, h.own.cell (h.lt x hx ad e), hTs _ _ _ _ (h.lt x hx ad e) h.tab⟩
theorem tb_set {F : Nat → Prop} {tb mb B : Nat} {cs : List Ent} (hF : ∀ b, F b → B ≤ b) (W : World) (b o : Nat) (u : Value) (hb : b < B) (h : TbA W F tb mb cs) : TbA (W.setCell ⟨b, o, none⟩ u) F tb mb cs :=
  h.kept (G := fun x => x = b) (KeptF.set W ⟨b, o, none⟩ u rfl) (fun x _ hx e => by have := hF x hx; omega)
theorem list_nilC (W : World) : Calls Try.prog 23 #[.pointer none] W fun e w' => ∃ v X, e = .returned v ∧ OwnB w' W.heap.size v X ∧ bof X = [] ∧ After W w' :=
  (list23_nil W).mono (fun e w' ⟨h1, h2⟩ => ⟨_, [], h1, OwnB.nil _ _, by simp [bof], h2⟩)
set_option maxRecDepth 100000 in
set_option maxHeartbeats 25600000 in
theorem loads4 {la : Option Addr} {ca n : Nat} {X : List Bx} (hl : X.length = n) (hn : n * 40 ≤ 140737488355328) (hnm : ∀ x ∈ X, x.nm.length ≤ maxLen) {w : World} (hA : BsAt w la X) : Calls Try.prog 4 #[.slice la n ca] w fun e w' => e = .returned (.bool true) ∧ After w w' := by
  have HL : Hid (BsAt w la X ∧ X.length = n ∧ (∀ x ∈ X, x.nm.length ≤ maxLen) ∧ n * 40 ≤ 140737488355328) := ⟨hA, hl, hnm, hn⟩
  have C16 := show Hid _ from rcopy16 (ca := ca) hl hn hA
  clear hA hl hnm
  by_cases hok : LOk (bof X)
  · have HOK : Hid (LOk (bof X)) := hok
    clear hok
    go_enter Try.func4, Try.ntmps4
    go_wp2_with (first
      | (go_at_call 16; refine Calls.mono C16.out ?_; rintro e w1 ⟨ka, kc, K, rfl, h1, h2, h3⟩; have H1 := show Hid (OwnB w1 w.heap.size (.slice ka n kc) K ∧ bof K = bof X ∧ After w w1 ∧ K.length = n) from ⟨h1, h2, h3, by have := congrArg List.length h2; rw [bof_len, bof_len, HL.out.2.1] at this; exact this⟩; clear h1 h2 h3)
      | (go_at_call 17; refine Calls.mono (ld17g (n := n) H1.out.2.2.2 HL.out.2.2.2 (nm_of_bof H1.out.2.1 HL.out.2.2.1) H1.out.1.bs (by rw [H1.out.2.1]; exact HOK.out)) ?_; rintro e w2 ⟨tb, mb, F, cs, rfl, k1, k2⟩; have H2 := show Hid (TbI w1 tb mb F cs w2 ∧ fls cs = bof X) from ⟨k1, by rw [k2, H1.out.2.1]⟩; have HA2 := show Hid (After w1 w2) from k1.aft; clear k1 k2)
      | (go_at_call 18; refine Calls.mono (ld18g (ca := ca) HL.out.2.1 HL.out.2.2.1 (HL.out.1.after (H1.out.2.2.1.trans HA2.out)) HOK.out) ?_; rintro e w3 ⟨ra, rc, Z, rfl, k1, k2, k3⟩; obtain ⟨gr, hgr⟩ : ∃ g, w3.heap.size = g := ⟨_, rfl⟩; obtain ⟨w4, hw4⟩ : ∃ W, w3.alloc (.cells #[.slice none 0 0] 27) = W := ⟨_, rfl⟩; obtain ⟨w5, hw5⟩ : ∃ W, w4.setRow gr #[.slice ra n rc] = W := ⟨_, rfl⟩; have HR := show Hid _ from st27 hgr hw4 hw5; have HW5 := show Hid (w4.setRow gr #[.slice ra n rc] = w5) from hw5; clear hw5; have H3 := show Hid (OwnB w5 w2.heap.size (.slice ra n rc) Z ∧ bof Z = bof X ∧ After w2 w3 ∧ w3.heap.size = gr) from ⟨k1.after HR.out.2.2, k2, k3, hgr⟩; clear k1 k2 k3)
      | (rw [hw4]; rw [hgr])
      | (refine wpList_store_row rfl 27 (.tmp 6) (.tmp 20) rfl gr #[.slice ra n rc] (by kernel_rfl) (by kernel_rfl) 27 _ HR.out.1 (size27 none 0 0) rfl (one27 ra n rc) ?_; rw [HW5.out])
      | (refine wpListG_of_run (by kernel_rfl) (x_ld27 (x := .tmp 6) (g := gr) rfl (by kernel_rfl) HR.out.2.1) ?_)
      | (go_at_call 11; refine Calls.mono (same_T (T := (fun W => TbA W F tb mb cs)) (tv := .pointer (some ⟨tb, 0, none⟩)) (S := bof X) (fun W W' h k => k.after h) (fun W k => by have := list23 (cs := cs) (by rw [H2.out.2, ← H2.out.2]; exact H2.out.1.ok) k; rw [H2.out.2] at this; exact this) (by have := HOK.out.few; exact this) H3.out.2.1 H3.out.1 (H2.out.1.tab.after (H3.out.2.2.1.trans HR.out.2.2))) ?_; rintro e w6 ⟨rfl, h6⟩; have H6 := show Hid (After w5 w6) from h6; clear h6))
    clear hw4 hgr hn
    have HA5 : Hid (After w1 w5 ∧ After w1 w6) := ⟨(HA2.out.trans H3.out.2.2.1).trans HR.out.2.2, ((HA2.out.trans H3.out.2.2.1).trans HR.out.2.2).trans H6.out⟩
    have HAZ : Hid (After w w6) := H1.out.2.2.1.trans HA5.out.2
    have HO : Hid (OwnB w6 w.heap.size (.slice ka n kc) K) := H1.out.1.after HA5.out.2
    have HROW : Hid (RowIs w6 gr 27 [.slice ra n rc]) := HR.out.2.1.below H6.out HR.out.2.1.lt
    have HOW : Hid (OwnB w6 w1.heap.size (.slice ra n rc) Z) := (H3.out.1.after H6.out).lower HA2.out.size
    have HTB : Hid ((fun W => TbA W F tb mb cs) w6) := H2.out.1.tab.after ((H3.out.2.2.1.trans HR.out.2.2).trans H6.out)
    have HKN : Hid (K.length = n) := H1.out.2.2.2
    have HSM : Hid (∀ W, (fun W => TbA W F tb mb cs) W → OwnB W w1.heap.size (.slice ra n rc) Z → Calls Try.prog 11 #[.pointer (some ⟨tb, 0, none⟩), .agg #[.slice ra n rc]] W fun e w' => e = .returned (.bool true) ∧ After W w') := fun W k ho => same_T (T := (fun W => TbA W F tb mb cs)) (tv := .pointer (some ⟨tb, 0, none⟩)) (S := bof X) (fun W W' h k => k.after h) (fun W k => by have := list23 (cs := cs) (by rw [H2.out.2, ← H2.out.2]; exact H2.out.1.ok) k; rw [H2.out.2] at this; exact this) (by have := HOK.out.few; exact this) H3.out.2.1 ho k
    rcases own_row HO.out.row.2 with ⟨ev, hn0, _⟩ | ⟨gl, cap, cl, ev, hb1, hr, hnc, hcm, hcl, ht⟩
    · simp only [Value.slice.injEq] at ev
      obtain ⟨rfl, rfl, rfl⟩ := ev
      go_loopw [8] (fun iv wr => iv = .int .i64 0 ∧ wr = w6) (fun _ _ => 0)
      case atStart => exact ⟨rfl, rfl⟩
      case round =>
        obtain ⟨rfl, rfl⟩ := hrel
        go_wp2_with (first
          | (refine wpList_load_row rfl 27 (.tmp 6) rfl gr (by kernel_rfl) 27 #[.slice ra 0 rc] (0, 0) _ HROW.out Try.underlying27 rfl (size27 ra 0 rc) ?_)
          | (go_at_call 11; refine Calls.mono (HSM.out _ HTB.out HOW.out) ?_; rintro e w7 ⟨rfl, h7⟩; have H7 := show Hid (After w w7) from HAZ.out.trans h7; clear h7)
          | (go_at_call 15; refine Calls.mono (awake15 w7) ?_; rintro e w8 ⟨rfl, h8⟩; have H8 := show Hid (After w w8) from H7.out.trans h8; clear h8))
        go_ret
        exact ⟨rfl, H8.out⟩
    · simp only [Value.slice.injEq] at ev
      obtain ⟨rfl, hnX, rfl⟩ := ev
      clear hnX
      have HT : Hid (cl.take ((bsL K).length * 2) = (bsL K).flatten) := ht
      have HTS : Hid (∀ (W : World) b o u, b < w1.heap.size → (fun W => TbA W F tb mb cs) W → (fun W => TbA W F tb mb cs) (W.setCell ⟨b, o, none⟩ u)) := fun W b o u hb k => (tb_set (fun b hb => (H2.out.1.fs b hb).1)) W b o u hb k
      have HTA : Hid (∀ (W W' : World), After W W' → (fun W => TbA W F tb mb cs) W → (fun W => TbA W F tb mb cs) W') := (fun W W' h k => k.after h)
      have HM0 : Hid (LM w w1.heap.size gr gl cl K Z (fun W => TbA W F tb mb cs) (.slice ra n rc) w6) := ⟨⟨HAZ.out, hr, fun x hx ad e => by
        have h1 := HO.out.ge x hx ad e
        exact ⟨h1.2.2.2.1, h1.2.2.2.2.1, h1.1, by_of (HO.out.each x hx) e h1.2.2.2⟩⟩, fun x hx ad e => (H1.out.1.ge x hx ad e).2.1, by have := H3.out.2.2.2; have := H3.out.2.2.1.size; have := HA2.out.size; omega, HROW.out, HOW.out, HTB.out⟩
      clear hb1 hr hnc hcm hcl ht
      go_loopw [8] (fun iv wr => ∃ i : Nat, i ≤ n ∧ iv = .int .i64 (i : Int) ∧ Hid (LM w w1.heap.size gr gl cl K Z (fun W => TbA W F tb mb cs) (.slice ra n rc) wr)) (fun iv _ => n - (intOf iv).toNat)
      case atStart => exact ⟨0, Nat.zero_le _, rfl, HM0⟩
      case round =>
        obtain ⟨i, hin, rfl, HI⟩ := hrel
        have hn47 : n * 40 ≤ 140737488355328 := HL.out.2.2.2
        by_cases hlt : i < n
        · have hii : (i : Int) < (n : Int) := by omega
          have HLT : Hid (i < n) := hlt
          obtain ⟨x, hx⟩ : ∃ x, K[i]? = some x := ⟨_, List.getElem?_eq_getElem (by rw [HKN.out]; exact hlt)⟩
          have hcell := (bs_cell HT.out hx).2
          have hbx := HO.out.each x (List.mem_of_getElem? hx)
          obtain ⟨nm, xa, xc, l⟩ := x
          obtain ⟨p, hp⟩ : ∃ p, l.length = p := ⟨_, rfl⟩
          unfold Bx.v at hcell
          simp only at hcell
          rw [hp] at hcell
          have hp2 : p < 4611686018427387904 := by have := hbx.fit; simp only at this; omega
          have HX : Hid (⟨nm, xa, xc, l⟩ ∈ K ∧ cl[i * 2 + 1]? = some (.slice xa p xc) ∧ BxAt w6 ⟨nm, xa, xc, l⟩ ∧ l.length = p) := ⟨List.mem_of_getElem? hx, hcell, hbx, hp⟩
          clear hx hcell hbx hp
          go_wp2
          go_loopw [9] (fun kv wr => ∃ k : Nat, k ≤ p ∧ kv = .int .i64 (k : Int) ∧ Hid (LM w w1.heap.size gr gl cl K Z (fun W => TbA W F tb mb cs) (.slice ra n rc) wr)) (fun kv _ => p - (intOf kv).toNat)
          case atStart => exact ⟨0, Nat.zero_le _, rfl, HI⟩
          case round =>
            obtain ⟨k, hkp, rfl, HI2⟩ := hrel
            by_cases hkt : k < p
            · have hkk : (k : Int) < (p : Int) := by omega
              have HKT : Hid (k < p) := hkt
              obtain ⟨hb, rfl, hby⟩ : ∃ hb, xa = some ⟨hb, 0, none⟩ ∧ BY wr hb (p * 32) := by
                obtain ⟨b, o, e, _⟩ := HX.out.2.2.1.sl.2 (fun e => by have h1 := HX.out.2.2.2; simp only [hsL, List.map_eq_nil_iff] at e; rw [e] at h1; simp at h1; omega)
                simp only at e
                obtain ⟨k1, _, k3, k4⟩ := HI2.out.mu.each _ HX.out.1 ⟨b, o, none⟩ e
                simp only at k1 k3 k4
                rw [HX.out.2.2.2] at k4
                exact ⟨b, by rw [e, k1], k4⟩
              have HNE : Hid (¬ gl = hb) := fun e => by
                obtain ⟨cs, hr, _⟩ := hby
                rw [← e] at hr
                exact absurd (hr.ty HI2.out.mu.row).1 (by decide)
              obtain ⟨cv, hcv⟩ := by_cell (o := k * 32) hby (by omega)
              have HBY : Hid (BY wr hb (p * 32)) := hby
              have HCV : Hid (wr.cell? ⟨hb, 0 + k * 32, none⟩ = some (.int .u8 (cv.toNat : Int))) := by rw [Nat.zero_add]; exact hcv
              clear hby hcv
              go_wp2_with (first
                | (refine wpList_of_run rfl (x_idx25 (x := .tmp 45) (y := .tmp 46) (b := gl) (f := 0) (n := n) (c := kc) (i := i) rfl (by kernel_rfl) (by kernel_rfl) HLT.out) ?_)
                | (refine wpList_of_run rfl (x_loadT (x := .tmp 48) (t := 30) (g := gl) (j := i * 2 + 1) Try.underlying30 rfl rfl (by kernel_rfl) (by rw [row_cell HI2.out.mu.row]; exact HX.out.2.1)) ?_))
              refine wp_region_noPanic ?_
              refine wp_region_held_drew (S := KeptF (fun b => b = hb) wr) (by kernel_rfl) (KeptF.of_after (After.drew (After.refl wr))) ?_
              intro hS0
              refine tk 0 54 (.slice (some ⟨gl, 0, none⟩) n kc) (fuel := 12) rfl (by kernel_rfl) (by kernel_rfl) (by kernel_rfl) (by kernel_rfl) noPanic_false (by kernel_rfl) (fun _ _ => by kernel_rfl) hS0 ?_
              refine tk 1 55 (.int .i64 (i : Int)) (fuel := 11) rfl (by kernel_rfl) (by kernel_rfl) (by kernel_rfl) (by kernel_rfl) noPanic_false (by kernel_rfl) (fun _ _ => by kernel_rfl) hS0 ?_
              refine tk 2 56 (.pointer (some ⟨gl, 0 + i * 2, none⟩)) (fuel := 10) rfl (by kernel_rfl) (by kernel_rfl) (by kernel_rfl) (by kernel_rfl) noPanic_false (by kernel_rfl) (fun W _ => x_idx25 (n := n) (c := kc) (x := .tmp 54) (y := .tmp 55) (by kernel_rfl) (by kernel_rfl) (by kernel_rfl) HLT.out) hS0 ?_
              refine tk 3 57 (.pointer (some ⟨gl, 0 + i * 2 + 1, none⟩)) (fuel := 9) rfl (by kernel_rfl) (by kernel_rfl) (by kernel_rfl) (by kernel_rfl) noPanic_false (by kernel_rfl) (fun _ _ => by kernel_rfl) hS0 ?_
              refine tk 4 58 (.slice (some ⟨hb, 0, none⟩) p xc) (fuel := 8) rfl (by kernel_rfl) (by kernel_rfl) (by kernel_rfl) (by kernel_rfl) noPanic_false (by kernel_rfl) (fun W hW => x_loadT (x := .tmp 57) (t := 30) (g := gl) (j := 0 + i * 2 + 1) Try.underlying30 rfl (by kernel_rfl) (by kernel_rfl) (by rw [row_cell (hW.row HI2.out.mu.row HNE.out), show 0 + i * 2 + 1 = i * 2 + 1 by omega]; exact HX.out.2.1)) hS0 ?_
              refine tk 5 59 (.int .i64 (k : Int)) (fuel := 7) rfl (by kernel_rfl) (by kernel_rfl) (by kernel_rfl) (by kernel_rfl) noPanic_false (by kernel_rfl) (fun _ _ => by kernel_rfl) hS0 ?_
              refine tk 6 60 (.pointer (some ⟨hb, 0 + k * 32, none⟩)) (fuel := 6) rfl (by kernel_rfl) (by kernel_rfl) (by kernel_rfl) (by kernel_rfl) noPanic_false (by kernel_rfl) (fun W _ => x_idx44 (n := p) (c := xc) (x := .tmp 58) (y := .tmp 59) (by kernel_rfl) (by kernel_rfl) (by kernel_rfl) HKT.out) hS0 ?_
              refine tk 7 61 (.pointer (some ⟨hb, 0 + k * 32, none⟩)) (fuel := 5) rfl (by kernel_rfl) (by kernel_rfl) (by kernel_rfl) (by kernel_rfl) noPanic_false (by kernel_rfl) (fun _ _ => by kernel_rfl) hS0 ?_
              refine tk 10 64 (.pointer (some ⟨hb, 0 + k * 32, none⟩)) (fuel := 4) rfl (by kernel_rfl) (by kernel_rfl) (by kernel_rfl) (by kernel_rfl) noPanic_false (by kernel_rfl) (fun W _ => x_idx44 (n := p) (c := xc) (x := .tmp 58) (y := .tmp 59) (by kernel_rfl) (by kernel_rfl) (by kernel_rfl) HKT.out) hS0 ?_
              refine tkRunS 8 62 (.int .u8 (cv.toNat : Int)) (wr.drew) (fuel := 3) rfl (by kernel_rfl) (by kernel_rfl) (by kernel_rfl) (x_loadT (x := .tmp 61) (t := 5) (g := hb) (j := 0 + k * 32) Try.underlying5 rfl (by kernel_rfl) (by kernel_rfl) HCV.out) (hS0) ?_
              refine tk 9 63 (.int .u8 ((cv + 1).toNat : Int)) (fuel := 2) rfl (by kernel_rfl) (by kernel_rfl) (by kernel_rfl) (by kernel_rfl) noPanic_false (by kernel_rfl) (fun W _ => x_add5 (x := .tmp 62) (by kernel_rfl) (by kernel_rfl)) hS0 ?_
              refine tk 11 65 (.pointer (some ⟨hb, 0 + k * 32, none⟩)) (fuel := 1) rfl (by kernel_rfl) (by kernel_rfl) (by kernel_rfl) (by kernel_rfl) noPanic_false (by kernel_rfl) (fun _ _ => by kernel_rfl) hS0 ?_
              refine tkStoreS 12 (wr.drew.setCell ⟨hb, 0 + k * 32, none⟩ (.int .u8 ((cv + 1).toNat : Int))) (fuel := 0) rfl (by kernel_rfl) (by kernel_rfl) (by kernel_rfl) (x_st5 (x := .tmp 65) (y := .tmp 63) (by kernel_rfl) (by kernel_rfl) (by kernel_rfl) HCV.out (by_frozen HBY.out)) (hS0.trans (KeptF.set (F := fun b => b = hb) wr.drew ⟨hb, 0 + k * 32, none⟩ _ rfl) (fun _ _ h => h)) ?_
              refine wpAnyH_done (by kernel_rfl) (NoPanic.normal ?_) _
              have HN : Hid (LM w w1.heap.size gr gl cl K Z (fun W => TbA W F tb mb cs) (.slice ra n rc) (wr.drew.setCell ⟨hb, 0 + k * 32, none⟩ (.int .u8 ((cv + 1).toNat : Int)))) := (HI2.out.drew HTA.out).set HTS.out HX.out.1 (ad := ⟨hb, 0, none⟩) rfl _ _
              clear hS0
              obtain ⟨wn, hwn⟩ : ∃ wn, wr.drew.setCell ⟨hb, 0 + k * 32, none⟩ (.int .u8 ((cv + 1).toNat : Int)) = wn := ⟨_, rfl⟩
              rw [hwn] at HN ⊢
              clear hwn
              go_simp
              go_wp2
              go_roundw
              case rel => exact ⟨k + 1, by omega, by go_num, HN⟩
              case measure => simp [intOf]; omega
            · have hkk : ¬ (k : Int) < (p : Int) := by omega
              go_wp2_with (first
                | (refine wpList_of_run rfl (x_idx25 (x := .tmp 45) (y := .tmp 46) (b := gl) (f := 0) (n := n) (c := kc) (i := i) rfl (by kernel_rfl) (by kernel_rfl) HLT.out) ?_)
                | (refine wpList_of_run rfl (x_loadT (x := .tmp 48) (t := 30) (g := gl) (j := i * 2 + 1) Try.underlying30 rfl rfl (by kernel_rfl) (by rw [row_cell HI2.out.mu.row]; exact HX.out.2.1)) ?_))
              go_roundw
              case rel => exact ⟨i + 1, by omega, by go_num, HI2⟩
              case measure => simp [intOf]; omega
        · have hii : ¬ (i : Int) < (n : Int) := by omega
          go_wp2_with (first
            | (refine wpList_load_row rfl 27 (.tmp 6) rfl gr (by kernel_rfl) 27 #[.slice ra n rc] (0, 0) _ HI.out.row Try.underlying27 rfl (size27 ra n rc) ?_)
            | (go_at_call 11; refine Calls.mono (HSM.out _ HI.out.tab HI.out.own) ?_; rintro e w7 ⟨rfl, h7⟩; have H7 := show Hid (After w w7) from HI.out.mu.aft.trans h7; clear h7)
            | (go_at_call 15; refine Calls.mono (awake15 w7) ?_; rintro e w8 ⟨rfl, h8⟩; have H8 := show Hid (After w w8) from H7.out.trans h8; clear h8))
          go_ret
          exact ⟨rfl, H8.out⟩
  · have HOK : Hid (¬ LOk (bof X)) := hok
    clear hok
    go_enter Try.func4, Try.ntmps4
    go_wp2_with (first
      | (go_at_call 16; refine Calls.mono C16.out ?_; rintro e w1 ⟨ka, kc, K, rfl, h1, h2, h3⟩; have H1 := show Hid (OwnB w1 w.heap.size (.slice ka n kc) K ∧ bof K = bof X ∧ After w w1 ∧ K.length = n) from ⟨h1, h2, h3, by have := congrArg List.length h2; rw [bof_len, bof_len, HL.out.2.1] at this; exact this⟩; clear h1 h2 h3)
      | (go_at_call 17; refine Calls.mono (ld17b (n := n) H1.out.2.2.2 HL.out.2.2.2 (nm_of_bof H1.out.2.1 HL.out.2.2.1) H1.out.1.bs (by rw [H1.out.2.1]; exact HOK.out)) ?_; rintro e w2 ⟨rfl, k1⟩; have HA2 := show Hid (After w1 w2) from k1; clear k1)
      | (go_at_call 18; refine Calls.mono (ld18b (ca := ca) HL.out.2.1 HL.out.2.2.1 (HL.out.1.after (H1.out.2.2.1.trans HA2.out)) HOK.out) ?_; rintro e w3 ⟨rfl, k3⟩; obtain ⟨gr, hgr⟩ : ∃ g, w3.heap.size = g := ⟨_, rfl⟩; obtain ⟨w4, hw4⟩ : ∃ W, w3.alloc (.cells #[.slice none 0 0] 27) = W := ⟨_, rfl⟩; obtain ⟨w5, hw5⟩ : ∃ W, w4.setRow gr #[.slice none 0 0] = W := ⟨_, rfl⟩; have HR := show Hid _ from st27 hgr hw4 hw5; have HW5 := show Hid (w4.setRow gr #[.slice none 0 0] = w5) from hw5; clear hw5; have H3 := show Hid (OwnB w5 w2.heap.size (.slice none 0 0) [] ∧ bof [] = ([] : Tb) ∧ After w2 w3 ∧ w3.heap.size = gr) from ⟨OwnB.nil _ _, rfl, k3, hgr⟩; clear k3)
      | (rw [hw4]; rw [hgr])
      | (refine wpList_store_row rfl 27 (.tmp 6) (.tmp 20) rfl gr #[.slice none 0 0] (by kernel_rfl) (by kernel_rfl) 27 _ HR.out.1 (size27 none 0 0) rfl (one27 none 0 0) ?_; rw [HW5.out])
      | (refine wpListG_of_run (by kernel_rfl) (x_ld27 (x := .tmp 6) (g := gr) rfl (by kernel_rfl) HR.out.2.1) ?_)
      | (go_at_call 11; refine Calls.mono (same_T (T := (fun _ : World => True)) (tv := .pointer none) (S := []) (fun _ _ _ k => k) (fun W _ => list_nilC W) (by simp) H3.out.2.1 H3.out.1 trivial) ?_; rintro e w6 ⟨rfl, h6⟩; have H6 := show Hid (After w5 w6) from h6; clear h6))
    clear hw4 hgr hn
    have HA5 : Hid (After w1 w5 ∧ After w1 w6) := ⟨(HA2.out.trans H3.out.2.2.1).trans HR.out.2.2, ((HA2.out.trans H3.out.2.2.1).trans HR.out.2.2).trans H6.out⟩
    have HAZ : Hid (After w w6) := H1.out.2.2.1.trans HA5.out.2
    have HO : Hid (OwnB w6 w.heap.size (.slice ka n kc) K) := H1.out.1.after HA5.out.2
    have HROW : Hid (RowIs w6 gr 27 [.slice none 0 0]) := HR.out.2.1.below H6.out HR.out.2.1.lt
    have HOW : Hid (OwnB w6 w1.heap.size (.slice none 0 0) []) := (H3.out.1.after H6.out).lower HA2.out.size
    have HTB : Hid ((fun _ : World => True) w6) := trivial
    have HKN : Hid (K.length = n) := H1.out.2.2.2
    have HSM : Hid (∀ W, (fun _ : World => True) W → OwnB W w1.heap.size (.slice none 0 0) [] → Calls Try.prog 11 #[.pointer none, .agg #[.slice none 0 0]] W fun e w' => e = .returned (.bool true) ∧ After W w') := fun W k ho => same_T (T := (fun _ : World => True)) (tv := .pointer none) (S := []) (fun _ _ _ k => k) (fun W _ => list_nilC W) (by simp) H3.out.2.1 ho k
    rcases own_row HO.out.row.2 with ⟨ev, hn0, _⟩ | ⟨gl, cap, cl, ev, hb1, hr, hnc, hcm, hcl, ht⟩
    · simp only [Value.slice.injEq] at ev
      obtain ⟨rfl, rfl, rfl⟩ := ev
      go_loopw [8] (fun iv wr => iv = .int .i64 0 ∧ wr = w6) (fun _ _ => 0)
      case atStart => exact ⟨rfl, rfl⟩
      case round =>
        obtain ⟨rfl, rfl⟩ := hrel
        go_wp2_with (first
          | (refine wpList_load_row rfl 27 (.tmp 6) rfl gr (by kernel_rfl) 27 #[.slice none 0 0] (0, 0) _ HROW.out Try.underlying27 rfl (size27 none 0 0) ?_)
          | (go_at_call 11; refine Calls.mono (HSM.out _ HTB.out HOW.out) ?_; rintro e w7 ⟨rfl, h7⟩; have H7 := show Hid (After w w7) from HAZ.out.trans h7; clear h7)
          | (go_at_call 15; refine Calls.mono (awake15 w7) ?_; rintro e w8 ⟨rfl, h8⟩; have H8 := show Hid (After w w8) from H7.out.trans h8; clear h8))
        go_ret
        exact ⟨rfl, H8.out⟩
    · simp only [Value.slice.injEq] at ev
      obtain ⟨rfl, hnX, rfl⟩ := ev
      clear hnX
      have HT : Hid (cl.take ((bsL K).length * 2) = (bsL K).flatten) := ht
      have HTS : Hid (∀ (W : World) b o u, b < w1.heap.size → (fun _ : World => True) W → (fun _ : World => True) (W.setCell ⟨b, o, none⟩ u)) := fun W b o u hb k => (fun _ _ _ _ _ k => k) W b o u hb k
      have HTA : Hid (∀ (W W' : World), After W W' → (fun _ : World => True) W → (fun _ : World => True) W') := (fun _ _ _ k => k)
      have HM0 : Hid (LM w w1.heap.size gr gl cl K [] (fun _ : World => True) (.slice none 0 0) w6) := ⟨⟨HAZ.out, hr, fun x hx ad e => by
        have h1 := HO.out.ge x hx ad e
        exact ⟨h1.2.2.2.1, h1.2.2.2.2.1, h1.1, by_of (HO.out.each x hx) e h1.2.2.2⟩⟩, fun x hx ad e => (H1.out.1.ge x hx ad e).2.1, by have := H3.out.2.2.2; have := H3.out.2.2.1.size; have := HA2.out.size; omega, HROW.out, HOW.out, HTB.out⟩
      clear hb1 hr hnc hcm hcl ht
      go_loopw [8] (fun iv wr => ∃ i : Nat, i ≤ n ∧ iv = .int .i64 (i : Int) ∧ Hid (LM w w1.heap.size gr gl cl K [] (fun _ : World => True) (.slice none 0 0) wr)) (fun iv _ => n - (intOf iv).toNat)
      case atStart => exact ⟨0, Nat.zero_le _, rfl, HM0⟩
      case round =>
        obtain ⟨i, hin, rfl, HI⟩ := hrel
        have hn47 : n * 40 ≤ 140737488355328 := HL.out.2.2.2
        by_cases hlt : i < n
        · have hii : (i : Int) < (n : Int) := by omega
          have HLT : Hid (i < n) := hlt
          obtain ⟨x, hx⟩ : ∃ x, K[i]? = some x := ⟨_, List.getElem?_eq_getElem (by rw [HKN.out]; exact hlt)⟩
          have hcell := (bs_cell HT.out hx).2
          have hbx := HO.out.each x (List.mem_of_getElem? hx)
          obtain ⟨nm, xa, xc, l⟩ := x
          obtain ⟨p, hp⟩ : ∃ p, l.length = p := ⟨_, rfl⟩
          unfold Bx.v at hcell
          simp only at hcell
          rw [hp] at hcell
          have hp2 : p < 4611686018427387904 := by have := hbx.fit; simp only at this; omega
          have HX : Hid (⟨nm, xa, xc, l⟩ ∈ K ∧ cl[i * 2 + 1]? = some (.slice xa p xc) ∧ BxAt w6 ⟨nm, xa, xc, l⟩ ∧ l.length = p) := ⟨List.mem_of_getElem? hx, hcell, hbx, hp⟩
          clear hx hcell hbx hp
          go_wp2
          go_loopw [9] (fun kv wr => ∃ k : Nat, k ≤ p ∧ kv = .int .i64 (k : Int) ∧ Hid (LM w w1.heap.size gr gl cl K [] (fun _ : World => True) (.slice none 0 0) wr)) (fun kv _ => p - (intOf kv).toNat)
          case atStart => exact ⟨0, Nat.zero_le _, rfl, HI⟩
          case round =>
            obtain ⟨k, hkp, rfl, HI2⟩ := hrel
            by_cases hkt : k < p
            · have hkk : (k : Int) < (p : Int) := by omega
              have HKT : Hid (k < p) := hkt
              obtain ⟨hb, rfl, hby⟩ : ∃ hb, xa = some ⟨hb, 0, none⟩ ∧ BY wr hb (p * 32) := by
                obtain ⟨b, o, e, _⟩ := HX.out.2.2.1.sl.2 (fun e => by have h1 := HX.out.2.2.2; simp only [hsL, List.map_eq_nil_iff] at e; rw [e] at h1; simp at h1; omega)
                simp only at e
                obtain ⟨k1, _, k3, k4⟩ := HI2.out.mu.each _ HX.out.1 ⟨b, o, none⟩ e
                simp only at k1 k3 k4
                rw [HX.out.2.2.2] at k4
                exact ⟨b, by rw [e, k1], k4⟩
              have HNE : Hid (¬ gl = hb) := fun e => by
                obtain ⟨cs, hr, _⟩ := hby
                rw [← e] at hr
                exact absurd (hr.ty HI2.out.mu.row).1 (by decide)
              obtain ⟨cv, hcv⟩ := by_cell (o := k * 32) hby (by omega)
              have HBY : Hid (BY wr hb (p * 32)) := hby
              have HCV : Hid (wr.cell? ⟨hb, 0 + k * 32, none⟩ = some (.int .u8 (cv.toNat : Int))) := by rw [Nat.zero_add]; exact hcv
              clear hby hcv
              go_wp2_with (first
                | (refine wpList_of_run rfl (x_idx25 (x := .tmp 45) (y := .tmp 46) (b := gl) (f := 0) (n := n) (c := kc) (i := i) rfl (by kernel_rfl) (by kernel_rfl) HLT.out) ?_)
                | (refine wpList_of_run rfl (x_loadT (x := .tmp 48) (t := 30) (g := gl) (j := i * 2 + 1) Try.underlying30 rfl rfl (by kernel_rfl) (by rw [row_cell HI2.out.mu.row]; exact HX.out.2.1)) ?_))
              refine wp_region_noPanic ?_
              refine wp_region_held_drew (S := KeptF (fun b => b = hb) wr) (by kernel_rfl) (KeptF.of_after (After.drew (After.refl wr))) ?_
              intro hS0
              refine tk 0 54 (.slice (some ⟨gl, 0, none⟩) n kc) (fuel := 12) rfl (by kernel_rfl) (by kernel_rfl) (by kernel_rfl) (by kernel_rfl) noPanic_false (by kernel_rfl) (fun _ _ => by kernel_rfl) hS0 ?_
              refine tk 1 55 (.int .i64 (i : Int)) (fuel := 11) rfl (by kernel_rfl) (by kernel_rfl) (by kernel_rfl) (by kernel_rfl) noPanic_false (by kernel_rfl) (fun _ _ => by kernel_rfl) hS0 ?_
              refine tk 2 56 (.pointer (some ⟨gl, 0 + i * 2, none⟩)) (fuel := 10) rfl (by kernel_rfl) (by kernel_rfl) (by kernel_rfl) (by kernel_rfl) noPanic_false (by kernel_rfl) (fun W _ => x_idx25 (n := n) (c := kc) (x := .tmp 54) (y := .tmp 55) (by kernel_rfl) (by kernel_rfl) (by kernel_rfl) HLT.out) hS0 ?_
              refine tk 3 57 (.pointer (some ⟨gl, 0 + i * 2 + 1, none⟩)) (fuel := 9) rfl (by kernel_rfl) (by kernel_rfl) (by kernel_rfl) (by kernel_rfl) noPanic_false (by kernel_rfl) (fun _ _ => by kernel_rfl) hS0 ?_
              refine tk 4 58 (.slice (some ⟨hb, 0, none⟩) p xc) (fuel := 8) rfl (by kernel_rfl) (by kernel_rfl) (by kernel_rfl) (by kernel_rfl) noPanic_false (by kernel_rfl) (fun W hW => x_loadT (x := .tmp 57) (t := 30) (g := gl) (j := 0 + i * 2 + 1) Try.underlying30 rfl (by kernel_rfl) (by kernel_rfl) (by rw [row_cell (hW.row HI2.out.mu.row HNE.out), show 0 + i * 2 + 1 = i * 2 + 1 by omega]; exact HX.out.2.1)) hS0 ?_
              refine tk 5 59 (.int .i64 (k : Int)) (fuel := 7) rfl (by kernel_rfl) (by kernel_rfl) (by kernel_rfl) (by kernel_rfl) noPanic_false (by kernel_rfl) (fun _ _ => by kernel_rfl) hS0 ?_
              refine tk 6 60 (.pointer (some ⟨hb, 0 + k * 32, none⟩)) (fuel := 6) rfl (by kernel_rfl) (by kernel_rfl) (by kernel_rfl) (by kernel_rfl) noPanic_false (by kernel_rfl) (fun W _ => x_idx44 (n := p) (c := xc) (x := .tmp 58) (y := .tmp 59) (by kernel_rfl) (by kernel_rfl) (by kernel_rfl) HKT.out) hS0 ?_
              refine tk 7 61 (.pointer (some ⟨hb, 0 + k * 32, none⟩)) (fuel := 5) rfl (by kernel_rfl) (by kernel_rfl) (by kernel_rfl) (by kernel_rfl) noPanic_false (by kernel_rfl) (fun _ _ => by kernel_rfl) hS0 ?_
              refine tk 10 64 (.pointer (some ⟨hb, 0 + k * 32, none⟩)) (fuel := 4) rfl (by kernel_rfl) (by kernel_rfl) (by kernel_rfl) (by kernel_rfl) noPanic_false (by kernel_rfl) (fun W _ => x_idx44 (n := p) (c := xc) (x := .tmp 58) (y := .tmp 59) (by kernel_rfl) (by kernel_rfl) (by kernel_rfl) HKT.out) hS0 ?_
              refine tkRunS 8 62 (.int .u8 (cv.toNat : Int)) (wr.drew) (fuel := 3) rfl (by kernel_rfl) (by kernel_rfl) (by kernel_rfl) (x_loadT (x := .tmp 61) (t := 5) (g := hb) (j := 0 + k * 32) Try.underlying5 rfl (by kernel_rfl) (by kernel_rfl) HCV.out) (hS0) ?_
              refine tk 9 63 (.int .u8 ((cv + 1).toNat : Int)) (fuel := 2) rfl (by kernel_rfl) (by kernel_rfl) (by kernel_rfl) (by kernel_rfl) noPanic_false (by kernel_rfl) (fun W _ => x_add5 (x := .tmp 62) (by kernel_rfl) (by kernel_rfl)) hS0 ?_
              refine tk 11 65 (.pointer (some ⟨hb, 0 + k * 32, none⟩)) (fuel := 1) rfl (by kernel_rfl) (by kernel_rfl) (by kernel_rfl) (by kernel_rfl) noPanic_false (by kernel_rfl) (fun _ _ => by kernel_rfl) hS0 ?_
              refine tkStoreS 12 (wr.drew.setCell ⟨hb, 0 + k * 32, none⟩ (.int .u8 ((cv + 1).toNat : Int))) (fuel := 0) rfl (by kernel_rfl) (by kernel_rfl) (by kernel_rfl) (x_st5 (x := .tmp 65) (y := .tmp 63) (by kernel_rfl) (by kernel_rfl) (by kernel_rfl) HCV.out (by_frozen HBY.out)) (hS0.trans (KeptF.set (F := fun b => b = hb) wr.drew ⟨hb, 0 + k * 32, none⟩ _ rfl) (fun _ _ h => h)) ?_
              refine wpAnyH_done (by kernel_rfl) (NoPanic.normal ?_) _
              have HN : Hid (LM w w1.heap.size gr gl cl K [] (fun _ : World => True) (.slice none 0 0) (wr.drew.setCell ⟨hb, 0 + k * 32, none⟩ (.int .u8 ((cv + 1).toNat : Int)))) := (HI2.out.drew HTA.out).set HTS.out HX.out.1 (ad := ⟨hb, 0, none⟩) rfl _ _
              clear hS0
              obtain ⟨wn, hwn⟩ : ∃ wn, wr.drew.setCell ⟨hb, 0 + k * 32, none⟩ (.int .u8 ((cv + 1).toNat : Int)) = wn := ⟨_, rfl⟩
              rw [hwn] at HN ⊢
              clear hwn
              go_simp
              go_wp2
              go_roundw
              case rel => exact ⟨k + 1, by omega, by go_num, HN⟩
              case measure => simp [intOf]; omega
            · have hkk : ¬ (k : Int) < (p : Int) := by omega
              go_wp2_with (first
                | (refine wpList_of_run rfl (x_idx25 (x := .tmp 45) (y := .tmp 46) (b := gl) (f := 0) (n := n) (c := kc) (i := i) rfl (by kernel_rfl) (by kernel_rfl) HLT.out) ?_)
                | (refine wpList_of_run rfl (x_loadT (x := .tmp 48) (t := 30) (g := gl) (j := i * 2 + 1) Try.underlying30 rfl rfl (by kernel_rfl) (by rw [row_cell HI2.out.mu.row]; exact HX.out.2.1)) ?_))
              go_roundw
              case rel => exact ⟨i + 1, by omega, by go_num, HI2⟩
              case measure => simp [intOf]; omega
        · have hii : ¬ (i : Int) < (n : Int) := by omega
          go_wp2_with (first
            | (refine wpList_load_row rfl 27 (.tmp 6) rfl gr (by kernel_rfl) 27 #[.slice none 0 0] (0, 0) _ HI.out.row Try.underlying27 rfl (size27 none 0 0) ?_)
            | (go_at_call 11; refine Calls.mono (HSM.out _ HI.out.tab HI.out.own) ?_; rintro e w7 ⟨rfl, h7⟩; have H7 := show Hid (After w w7) from HI.out.mu.aft.trans h7; clear h7)
            | (go_at_call 15; refine Calls.mono (awake15 w7) ?_; rintro e w8 ⟨rfl, h8⟩; have H8 := show Hid (After w w8) from H7.out.trans h8; clear h8))
          go_ret
          exact ⟨rfl, H8.out⟩
end Go.Proofs.Ytppbbmnekeelpaa
