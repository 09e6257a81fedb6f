/-
  BranchApart (7).
-/
import Derived.Test.YtppbbmnekeelpaaBS
namespace Go.Proofs.Ytppbbmnekeelpaa
open Go.RowKit Go.Maps Dsk
attribute [local go_sem] Oper.semAt_some
def erS (S : Tb) (x : Ac) : Nat := if x.k.toNat % 4 ≤ 1 then crE S x.nm x.l else if x.k.toNat % 4 = 2 then mvE S x.nm x.l else dlE S x.nm
theorem er_keep {S : Tb} {x : Ac} (h : erS S x ≠ 0) : stS S x = S := by
  unfold erS at h
  unfold stS
  split
  · rename_i h1; rw [if_pos h1] at h; unfold crS; rw [if_neg h]
  · rename_i h1
    rw [if_neg h1] at h
    split
    · rename_i h2; rw [if_pos h2] at h; unfold mvS; rw [if_neg h]
    · rename_i h2; rw [if_neg h2] at h; unfold dlS; rw [if_neg h]
theorem fget_put_ne {nm k : Dsk.Nm} {x : List H} {S : Tb} (hr : rising S) (hne : k ≠ nm) : fget nm (fput k x S) = fget nm S := by
  cases hg : fget nm S with
  | some y => exact rising_get (fput_rising _ _ hr) ((fput_mem _ _ _ _).2 (.inr ⟨fget_mem hg, fun e => hne e.symm⟩))
  | none =>
    cases hg2 : fget nm (fput k x S) with
    | none => rfl
    | some y =>
      have h1 := fget_mem hg2
      rcases (fput_mem _ _ _ _).1 h1 with e | ⟨h2, _⟩
      · cases e; exact absurd rfl hne
      · rw [rising_get hr h2] at hg; cases hg
theorem fget_del_ne {nm k : Dsk.Nm} {S : Tb} (hr : rising S) (hne : k ≠ nm) : fget nm (fdel k S) = fget nm S := by
  cases hg : fget nm S with
  | some y => exact rising_get (fdel_rising _ hr) ((fdel_mem _ _ _).2 ⟨fget_mem hg, fun e => hne e.symm⟩)
  | none =>
    cases hg2 : fget nm (fdel k S) with
    | none => rfl
    | some y =>
      have h1 := ((fdel_mem _ _ _).1 (fget_mem hg2)).1
      rw [rising_get hr h1] at hg; cases hg
theorem get_keep {S : Tb} (hr : rising S) {x : Ac} {nm : Dsk.Nm} (hne : x.nm ≠ nm) : fget nm (stS S x) = fget nm S := by
  unfold stS crS mvS dlS
  split
  · split
    · exact fget_put_ne hr hne
    · rfl
  · split
    · split
      · exact fget_put_ne hr hne
      · rfl
    · split
      · exact fget_del_ne hr hne
      · rfl
def zac : Ac := ⟨0, [], none, 0, []⟩
theorem x_al32 {oi : Oper} {a : Act} {w : World} (hop : oi.op = .alloc 32) : (execOp a.eval oi).run Try.prog w = .ok (.value (.pointer (some ⟨w.heap.size, 0, none⟩))) (w.alloc (.cells (acv zac).toArray 32)) := by
  have hz : (zeroValue 32).run Try.prog w = .ok (.agg (acv zac).toArray) w := by kernel_rfl
  unfold execOp
  simp only [hop]
  simp [go_sem, hz, Value.cells]
theorem one32 (x : Ac) : (acv x).toArray.all (·.oneCell') = true := by simp [acv, Value.oneCell']
theorem size32a (x : Ac) : (Try.prog.info? 32).map (·.size) = some (acv x).toArray.size := by show _ = some 3; kernel_rfl
/-- A call's copy in a box of its own. -/
theorem box32 {w W : World} {x : Ac} (h : (w.alloc (.cells (acv zac).toArray 32)).setRow w.heap.size (acv x).toArray = W) : RowIs (w.alloc (.cells (acv zac).toArray 32)) w.heap.size 32 (acv zac) ∧ RowIs W w.heap.size 32 (acv x) ∧ After w W := by
  have h1 := RowIs.new w 32 (acv zac)
  rw [← h]
  exact ⟨h1, h1.setRow _, Below.row (after_alloc (After.refl w) _) (Nat.le_refl _) _⟩
theorem len0 {cs : List Ent} {nm : Dsk.Nm} {hl : List H} (h : fls cs = crS [] nm hl) (h2 : crS [] nm hl = []) : cs.length = 0 := by
  have := fls_len cs
  rw [h, h2] at this
  simpa using this.symm
/-- A table that stands, with all of it new. -/
structure TbI (w : World) (tb mb : Nat) (F : Nat → Prop) (cs : List Ent) (wr : World) : Prop where
  aft : After w wr
  tab : TbA wr F tb mb cs
  ok : TOk (fls cs)
  fs : ∀ b, F b → w.heap.size ≤ b ∧ b < wr.heap.size
theorem TbI.after {w wr w' : World} {tb mb : Nat} {F : Nat → Prop} {cs : List Ent} (h : TbI w tb mb F cs wr) (ha : After wr w') : TbI w tb mb F cs w' := ⟨h.aft.trans ha, h.tab.after ha, h.ok, fun b hb => ⟨(h.fs b hb).1, Nat.lt_of_lt_of_le (h.fs b hb).2 ha.size⟩⟩
theorem TbI.call {w wr w' : World} {tb mb : Nat} {F : Nat → Prop} {cs cs' : List Ent} (h : TbI w tb mb F cs wr) (ht : TbA w' (more F wr w') tb mb cs') (hk : KeptF (fun b => b = mb) wr w') (ho : TOk (fls cs')) : TbI w tb mb (more F wr w') cs' w' := by
  refine ⟨Below.trans h.aft (hk.below h.aft.size (fun b hb => by rw [hb]; exact (h.fs mb h.tab.fmb).1)), ht, ho, fun b hb => ?_⟩
  rcases hb with hb | hb
  · have := h.fs b hb; have := hk.size; exact ⟨by omega, by omega⟩
  · have := h.aft.size; exact ⟨by omega, by omega⟩
theorem TbI.list {w wr : World} {tb mb : Nat} {F : Nat → Prop} {cs : List Ent} (h : TbI w tb mb F cs wr) : Calls Try.prog 23 #[.pointer (some ⟨tb, 0, none⟩)] wr fun e w' => ∃ a c X, e = .returned (.slice a cs.length c) ∧ BsAt w' a X ∧ bof X = fls cs ∧ X.length = cs.length ∧ After wr w' :=
  (list23 h.ok h.tab).mono (fun e w' ⟨v, X, he, ho, hb, ha⟩ => by
    obtain ⟨a, c, ev, hs⟩ := ho.at
    have hl : X.length = cs.length := by rw [← bof_len, hb, fls_len]
    exact ⟨a, c, X, by rw [he, ev, hl], hs, hb, hl, ha⟩)
theorem same24_self {w : World} {X Y : List Bx} {a b : Option Addr} {n m c d : Nat} (hx : BsAt w a X) (hy : BsAt w b Y) (he : bof X = bof Y) (hn : X.length = n) (hm : Y.length = m) (hs : n ≤ 64) : Calls Try.prog 24 #[.slice a n c, .slice b m d] w fun e w' => e = .returned (.bool true) ∧ After w w' :=
  (same24 (ca := c) (cb := d) hn hm (by omega) hx hy).mono (fun e w' ⟨h1, h2⟩ => ⟨by rw [h1, he]; simp, h2⟩)
set_option maxRecDepth 100000 in
set_option maxHeartbeats 51200000 in
theorem apart7 {la : Option Addr} {ca n : Nat} {l : List Ac} {nm : Dsk.Nm} {ha : Option Addr} {hc m : Nat} {hl : List H} (hln : l.length = n) (hn : n * 48 ≤ 140737488355328) (hnm : nm.length ≤ maxLen) (h32 : All32 hl) (hm : hl.length = m) (hfit : m * 32 ≤ 140737488355328) (hz : ha = none → hc = 0) {w : World} (hA : AcsAt w la l) (hH : SlAt w 32 ha (hsL hl)) : Calls Try.prog 7 #[.slice la n ca, .string (strOf nm), .slice ha m hc] w fun e w' => e = .returned (.bool true) ∧ After w w' := by
  have HL : Hid (AcsAt w la l ∧ l.length = n ∧ nm.length ≤ maxLen) := ⟨hA, hln, hnm⟩
  have HH : Hid (SlAt w 32 ha (hsL hl) ∧ All32 hl ∧ hl.length = m ∧ (ha = none → hc = 0) ∧ m * 32 ≤ 140737488355328) := ⟨hH, h32, hm, hz, hfit⟩
  clear hA hln hnm hH h32 hm hz hfit
  obtain ⟨mb, hmb⟩ : ∃ mb, w.heap.size = mb := ⟨_, rfl⟩
  obtain ⟨tb, htb⟩ : ∃ tb, mb + 1 = tb := ⟨_, rfl⟩
  have HC9 := show Hid _ from new9 w
  have HN : Hid (w.heap.size = mb ∧ mb + 1 = tb) := ⟨hmb, htb⟩
  clear hmb htb
  obtain ⟨E, hE⟩ : ∃ E : Nat, crE [] nm hl = E := ⟨_, rfl⟩
  have HE : Hid (crE [] nm hl = E) := hE
  clear hE
  by_cases hE0 : E = 0
  rotate_left
  · have hne : ¬ (E : Int) = 0 := by omega
    have HS : Hid (crS [] nm hl = []) := by unfold crS; rw [HE.out, if_neg hE0]; exact (rfl : ([] : Tb) = [])
    clear hE0
    go_enter Try.func7, Try.ntmps7
    go_wp2_with (first
      | (go_at_call 9; refine Calls.mono HC9.out ?_; rintro e w1 ⟨rfl, h1, h2⟩; rw [HN.out.1, HN.out.2] at h1 ⊢; have H1 := show Hid (TbI w tb mb (fun b => mb ≤ b ∧ b < w1.heap.size) [] w1) from ⟨h2, h1, TOk.nil, fun b hb => ⟨by rw [HN.out.1]; exact hb.1, hb.2⟩⟩; clear h1 h2)
      | (go_at_call 20; refine Calls.mono (create20 (nm := nm) HL.out.2.2 (cs := []) TOk.nil HH.out.2.1 HH.out.2.2.1 HH.out.2.2.2.1 (HH.out.1.after H1.out.aft) H1.out.tab) ?_; rintro e w2 ⟨he, cs2, k1, k2, k3⟩; rw [show fls ([] : List Ent) = [] from rfl] at he k1; rw [HE.out] at he; subst he; have H2 := show Hid (TbI w tb mb _ cs2 w2 ∧ fls cs2 = crS [] nm hl) from ⟨H1.out.call k2 k3 (by rw [k1]; exact TOk.nil.cr _ _ HH.out.2.1), k1⟩; clear k1 k2 k3)
      | (go_at_call 23; refine Calls.mono H2.out.1.list ?_; rintro e w3 ⟨pa, pc, X, rfl, k1, k2, k3, k4⟩; have hl0 := len0 H2.out.2 HS.out; rw [hl0]; have H3 := show Hid (After w w3) from H2.out.1.aft.trans k4; clear k1 k2 k3 k4 hl0)
      | (go_at_call 15; refine Calls.mono (awake15 w3) ?_; rintro e w8 ⟨rfl, h8⟩; have H8 := show Hid (After w w8) from H3.out.trans h8; clear h8))
    go_ret
    exact ⟨rfl, H8.out⟩
  · subst hE0
    have HS : Hid (crS [] nm hl = fput nm hl []) := by unfold crS; rw [HE.out]; rfl
    go_enter Try.func7, Try.ntmps7
    go_wp2_with (first
      | (go_at_call 9; refine Calls.mono HC9.out ?_; rintro e w1 ⟨rfl, h1, h2⟩; rw [HN.out.1, HN.out.2] at h1 ⊢; have H1 := show Hid (TbI w tb mb (fun b => mb ≤ b ∧ b < w1.heap.size) [] w1) from ⟨h2, h1, TOk.nil, fun b hb => ⟨by rw [HN.out.1]; exact hb.1, hb.2⟩⟩; clear h1 h2)
      | (go_at_call 20; refine Calls.mono (create20 (nm := nm) HL.out.2.2 (cs := []) TOk.nil HH.out.2.1 HH.out.2.2.1 HH.out.2.2.2.1 (HH.out.1.after H1.out.aft) H1.out.tab) ?_; rintro e w2 ⟨he, cs2, k1, k2, k3⟩; rw [show fls ([] : List Ent) = [] from rfl] at he k1; rw [HE.out] at he; subst he; have H2 := show Hid (TbI w tb mb _ cs2 w2 ∧ fls cs2 = crS [] nm hl) from ⟨H1.out.call k2 k3 (by rw [k1]; exact TOk.nil.cr _ _ HH.out.2.1), k1⟩; clear k1 k2 k3))
    have H0 : Hid (fget nm (fls cs2) = some hl) := by rw [H2.out.2, HS.out]; exact fget_put_same nm hl List.Pairwise.nil
    go_loopw [8] (fun iv wr => ∃ (i : Nat) (F : Nat → Prop) (cs : List Ent), i ≤ n ∧ iv = .int .i64 (i : Int) ∧ Hid (TbI w tb mb F cs wr) ∧ Hid (fget nm (fls cs) = some hl)) (fun iv _ => n - (intOf iv).toNat)
    case atStart => exact ⟨0, _, cs2, Nat.zero_le _, rfl, H2.out.1, H0⟩
    case round =>
      obtain ⟨i, F, cs, hin, rfl, HP, HG⟩ := hrel
      by_cases hlt : i < n
      · have hii : (i : Int) < (n : Int) := by omega
        have HLT : Hid (i < n) := hlt
        obtain ⟨x, hx⟩ : ∃ x, l[i]? = some x := ⟨_, List.getElem?_eq_getElem (by rw [HL.out.2.1]; exact hlt)⟩
        have hxm := HL.out.1.2 x (List.mem_of_getElem? hx)
        obtain ⟨ab, ao, hla, hlr⟩ := HL.out.1.1.at (i := i) (x := acv x) (by rw [List.getElem?_map, hx]; rfl)
        subst hla
        have HX : Hid (wr.rangeAt ab (ao + i * 3) (acv x) ∧ AcAt w x) := ⟨range_after hlr HP.out.aft, hxm⟩
        obtain ⟨w2, hw2⟩ : ∃ w2, (wr.alloc (.cells (acv zac).toArray 32)).setRow wr.heap.size (acv x).toArray = w2 := ⟨_, rfl⟩
        have HB := show Hid _ from box32 hw2
        have HGW := show Hid _ from hw2
        obtain ⟨ga, hga⟩ : ∃ ga, wr.heap.size = ga := ⟨_, rfl⟩
        rw [hga] at HB HGW
        have HGA := show Hid (wr.heap.size = ga) from hga
        obtain ⟨p, hp⟩ : ∃ p, x.l.length = p := ⟨_, rfl⟩
        have HPL := show Hid (x.l.length = p) from hp
        have hb' := HB.out.2.1
        unfold acv at hb'
        rw [hp] at hb'
        have HBR := show Hid (RowIs w2 ga 32 [.int .u8 (x.k.toNat : Int), .string (strOf x.nm), .slice x.a p x.c]) from hb'
        have d21 := HBR.out.cell (j := 1) rfl
        have HP2 := show Hid _ from HP.out.after HB.out.2.2
        clear hx hxm hlr hw2 hga hp hb'
        by_cases hnn : x.nm = nm
        · have HD : Hid (decide (x.nm = nm) = true) := decide_eq_true hnn
          clear hnn
          go_wp2_with (first
            | (refine wpList_of_run rfl (x_idx22 (x := .tmp 33) (y := .tmp 34) (b := ab) (f := ao) (n := n) (c := ca) (i := i) rfl (by kernel_rfl) (by kernel_rfl) HLT.out) ?_)
            | (refine wpList_of_run rfl (x_ld32 (x := .tmp 35) (g := ab) (p := ao + i * 3) (y := x) rfl (by kernel_rfl) HX.out.1) ?_)
            | (refine wpList_of_run rfl (x_al32 rfl) ?_; rw [HGA.out])
            | (refine wpList_store_row rfl 32 (.tmp 9) (.tmp 36) rfl ga (acv x).toArray (by kernel_rfl) (by kernel_rfl) 32 _ HB.out.1 (size32a x) rfl (one32 x) ?_; rw [HGW.out])
            | (refine wpList_of_run rfl (x_eq9 (x := .tmp 38) (y := .tmp 39) (s := x.nm) (t := nm) rfl (by kernel_rfl) (by kernel_rfl)) ?_; rw [HD.out]))
          go_roundw
          case rel => exact ⟨i + 1, _, cs, by omega, by go_num, HP2, HG⟩
          case measure => simp [intOf]; omega
        · have HD : Hid (decide (x.nm = nm) = false) := decide_eq_false hnn
          have HNN : Hid (x.nm ≠ nm) := hnn
          clear hnn
          have h4 : x.k.toNat % 4 = 0 ∨ x.k.toNat % 4 = 1 ∨ x.k.toNat % 4 = 2 ∨ x.k.toNat % 4 = 3 := by omega
          obtain ⟨EE, hEE⟩ : ∃ EE : Nat, erS (fls cs) x = EE := ⟨_, rfl⟩
          have HEE : Hid (erS (fls cs) x = EE) := hEE
          clear hEE
          by_cases h0 : EE = 0
          · subst h0
            rcases h4 with h | h | h | h
            · have HK : Hid (x.k.toNat % 4 = 0) := h
              have HER : Hid (crE (fls cs) x.nm x.l = 0) := by
                have h9 : crE (fls cs) x.nm x.l = 0 := by have := HEE.out; unfold erS at this; rw [HK.out] at this; simpa using this
                exact h9
              clear h
              go_wp2_with (first
                | (refine wpList_of_run rfl (x_idx22 (x := .tmp 33) (y := .tmp 34) (b := ab) (f := ao) (n := n) (c := ca) (i := i) rfl (by kernel_rfl) (by kernel_rfl) HLT.out) ?_)
                | (refine wpList_of_run rfl (x_ld32 (x := .tmp 35) (g := ab) (p := ao + i * 3) (y := x) rfl (by kernel_rfl) HX.out.1) ?_)
                | (refine wpList_of_run rfl (x_al32 rfl) ?_; rw [HGA.out])
                | (refine wpList_store_row rfl 32 (.tmp 9) (.tmp 36) rfl ga (acv x).toArray (by kernel_rfl) (by kernel_rfl) 32 _ HB.out.1 (size32a x) rfl (one32 x) ?_; rw [HGW.out])
                | (refine wpList_of_run rfl (x_eq9 (x := .tmp 38) (y := .tmp 39) (s := x.nm) (t := nm) rfl (by kernel_rfl) (by kernel_rfl)) ?_; rw [HD.out])
                | (refine wpList_of_run rfl (x_rem4 (x := .tmp 44) (k := x.k) (r := 0) HK.out rfl (by kernel_rfl)) ?_)
                | (go_at_call 23; first | (refine Calls.mono H4.out.1.list ?_; rintro e w5 ⟨qa, qc, Y, rfl, k1, k2, k3, k4⟩; have H5 := show Hid (BsAt w5 qa Y ∧ bof Y = fls cs4 ∧ Y.length = cs4.length ∧ After w4 w5) from ⟨k1, k2, k3, k4⟩; have HP5 := show Hid _ from H4.out.1.after k4; clear k1 k2 k3 k4) | (refine Calls.mono HP2.out.list ?_; rintro e w3 ⟨pa, pc, X, rfl, k1, k2, k3, k4⟩; have H3 := show Hid (BsAt w3 pa X ∧ bof X = fls cs ∧ X.length = cs.length ∧ After w2 w3) from ⟨k1, k2, k3, k4⟩; have d30 := (HBR.out.below k4 HBR.out.lt).cell (j := 0) rfl; have d31 := (HBR.out.below k4 HBR.out.lt).cell (j := 1) rfl; have d32 := (HBR.out.below k4 HBR.out.lt).cell (j := 2) rfl; clear k1 k2 k3 k4))
                | (go_at_call 20; refine Calls.mono (create20 (nm := x.nm) HX.out.2.nl HP2.out.ok HX.out.2.l32 HPL.out HX.out.2.z (HX.out.2.sl.after (HP2.out.aft.trans H3.out.2.2.2)) (HP2.out.tab.after H3.out.2.2.2)) ?_; rintro e w4 ⟨he, cs4, k1, k2, k3⟩; rw [HER.out] at he; subst he; have hst : fls cs4 = stS (fls cs) x := (by rw [k1]; simp only [stS, HK.out]; rfl)
                   have H4 := show Hid (TbI w tb mb _ cs4 w4 ∧ fls cs4 = stS (fls cs) x ∧ BsAt w4 pa X) from ⟨(HP2.out.after H3.out.2.2.2).call k2 k3 (by rw [hst]; exact stS_ok HP2.out.ok HX.out.2.l32), hst, (CK.of_map k3 (HP2.out.tab.after H3.out.2.2.2)).bs H3.out.1⟩
                   clear k1 k2 k3 hst)
                | (go_at_call 24; refine Calls.mono (same24_self H5.out.1 (H4.out.2.2.after H5.out.2.2.2) (by rw [H5.out.2.1, H3.out.2.1, H4.out.2.1, HKE.out]) H5.out.2.2.1 H3.out.2.2.1 (by have := H4.out.1.ok.few; rw [fls_len] at this; exact this)) ?_; rintro e w6 ⟨rfl, h6⟩; have HP6 := show Hid _ from HP5.out.after h6; clear h6))
              go_roundw
              case rel => exact ⟨i + 1, _, cs4, by omega, by go_num, H4.out.1, by rw [H4.out.2.1, get_keep HP2.out.ok.ris HNN.out]; exact HG.out⟩
              case measure => simp [intOf]; omega
            · have HK : Hid (x.k.toNat % 4 = 1) := h
              have HER : Hid (crE (fls cs) x.nm x.l = 0) := by
                have h9 : crE (fls cs) x.nm x.l = 0 := by have := HEE.out; unfold erS at this; rw [HK.out] at this; simpa using this
                exact h9
              clear h
              go_wp2_with (first
                | (refine wpList_of_run rfl (x_idx22 (x := .tmp 33) (y := .tmp 34) (b := ab) (f := ao) (n := n) (c := ca) (i := i) rfl (by kernel_rfl) (by kernel_rfl) HLT.out) ?_)
                | (refine wpList_of_run rfl (x_ld32 (x := .tmp 35) (g := ab) (p := ao + i * 3) (y := x) rfl (by kernel_rfl) HX.out.1) ?_)
                | (refine wpList_of_run rfl (x_al32 rfl) ?_; rw [HGA.out])
                | (refine wpList_store_row rfl 32 (.tmp 9) (.tmp 36) rfl ga (acv x).toArray (by kernel_rfl) (by kernel_rfl) 32 _ HB.out.1 (size32a x) rfl (one32 x) ?_; rw [HGW.out])
                | (refine wpList_of_run rfl (x_eq9 (x := .tmp 38) (y := .tmp 39) (s := x.nm) (t := nm) rfl (by kernel_rfl) (by kernel_rfl)) ?_; rw [HD.out])
                | (refine wpList_of_run rfl (x_rem4 (x := .tmp 44) (k := x.k) (r := 1) HK.out rfl (by kernel_rfl)) ?_)
                | (go_at_call 23; first | (refine Calls.mono H4.out.1.list ?_; rintro e w5 ⟨qa, qc, Y, rfl, k1, k2, k3, k4⟩; have H5 := show Hid (BsAt w5 qa Y ∧ bof Y = fls cs4 ∧ Y.length = cs4.length ∧ After w4 w5) from ⟨k1, k2, k3, k4⟩; have HP5 := show Hid _ from H4.out.1.after k4; clear k1 k2 k3 k4) | (refine Calls.mono HP2.out.list ?_; rintro e w3 ⟨pa, pc, X, rfl, k1, k2, k3, k4⟩; have H3 := show Hid (BsAt w3 pa X ∧ bof X = fls cs ∧ X.length = cs.length ∧ After w2 w3) from ⟨k1, k2, k3, k4⟩; have d30 := (HBR.out.below k4 HBR.out.lt).cell (j := 0) rfl; have d31 := (HBR.out.below k4 HBR.out.lt).cell (j := 1) rfl; have d32 := (HBR.out.below k4 HBR.out.lt).cell (j := 2) rfl; clear k1 k2 k3 k4))
                | (go_at_call 20; refine Calls.mono (create20 (nm := x.nm) HX.out.2.nl HP2.out.ok HX.out.2.l32 HPL.out HX.out.2.z (HX.out.2.sl.after (HP2.out.aft.trans H3.out.2.2.2)) (HP2.out.tab.after H3.out.2.2.2)) ?_; rintro e w4 ⟨he, cs4, k1, k2, k3⟩; rw [HER.out] at he; subst he; have hst : fls cs4 = stS (fls cs) x := (by rw [k1]; simp only [stS, HK.out]; rfl)
                   have H4 := show Hid (TbI w tb mb _ cs4 w4 ∧ fls cs4 = stS (fls cs) x ∧ BsAt w4 pa X) from ⟨(HP2.out.after H3.out.2.2.2).call k2 k3 (by rw [hst]; exact stS_ok HP2.out.ok HX.out.2.l32), hst, (CK.of_map k3 (HP2.out.tab.after H3.out.2.2.2)).bs H3.out.1⟩
                   clear k1 k2 k3 hst)
                | (go_at_call 24; refine Calls.mono (same24_self H5.out.1 (H4.out.2.2.after H5.out.2.2.2) (by rw [H5.out.2.1, H3.out.2.1, H4.out.2.1, HKE.out]) H5.out.2.2.1 H3.out.2.2.1 (by have := H4.out.1.ok.few; rw [fls_len] at this; exact this)) ?_; rintro e w6 ⟨rfl, h6⟩; have HP6 := show Hid _ from HP5.out.after h6; clear h6))
              go_roundw
              case rel => exact ⟨i + 1, _, cs4, by omega, by go_num, H4.out.1, by rw [H4.out.2.1, get_keep HP2.out.ok.ris HNN.out]; exact HG.out⟩
              case measure => simp [intOf]; omega
            · have HK : Hid (x.k.toNat % 4 = 2) := h
              have HER : Hid (mvE (fls cs) x.nm x.l = 0) := by
                have h9 : mvE (fls cs) x.nm x.l = 0 := by have := HEE.out; unfold erS at this; rw [HK.out] at this; simpa using this
                exact h9
              clear h
              go_wp2_with (first
                | (refine wpList_of_run rfl (x_idx22 (x := .tmp 33) (y := .tmp 34) (b := ab) (f := ao) (n := n) (c := ca) (i := i) rfl (by kernel_rfl) (by kernel_rfl) HLT.out) ?_)
                | (refine wpList_of_run rfl (x_ld32 (x := .tmp 35) (g := ab) (p := ao + i * 3) (y := x) rfl (by kernel_rfl) HX.out.1) ?_)
                | (refine wpList_of_run rfl (x_al32 rfl) ?_; rw [HGA.out])
                | (refine wpList_store_row rfl 32 (.tmp 9) (.tmp 36) rfl ga (acv x).toArray (by kernel_rfl) (by kernel_rfl) 32 _ HB.out.1 (size32a x) rfl (one32 x) ?_; rw [HGW.out])
                | (refine wpList_of_run rfl (x_eq9 (x := .tmp 38) (y := .tmp 39) (s := x.nm) (t := nm) rfl (by kernel_rfl) (by kernel_rfl)) ?_; rw [HD.out])
                | (refine wpList_of_run rfl (x_rem4 (x := .tmp 44) (k := x.k) (r := 2) HK.out rfl (by kernel_rfl)) ?_)
                | (go_at_call 23; first | (refine Calls.mono H4.out.1.list ?_; rintro e w5 ⟨qa, qc, Y, rfl, k1, k2, k3, k4⟩; have H5 := show Hid (BsAt w5 qa Y ∧ bof Y = fls cs4 ∧ Y.length = cs4.length ∧ After w4 w5) from ⟨k1, k2, k3, k4⟩; have HP5 := show Hid _ from H4.out.1.after k4; clear k1 k2 k3 k4) | (refine Calls.mono HP2.out.list ?_; rintro e w3 ⟨pa, pc, X, rfl, k1, k2, k3, k4⟩; have H3 := show Hid (BsAt w3 pa X ∧ bof X = fls cs ∧ X.length = cs.length ∧ After w2 w3) from ⟨k1, k2, k3, k4⟩; have d30 := (HBR.out.below k4 HBR.out.lt).cell (j := 0) rfl; have d31 := (HBR.out.below k4 HBR.out.lt).cell (j := 1) rfl; have d32 := (HBR.out.below k4 HBR.out.lt).cell (j := 2) rfl; clear k1 k2 k3 k4))
                | (go_at_call 21; refine Calls.mono (move21 (nm := x.nm) HX.out.2.nl HP2.out.ok HX.out.2.l32 HPL.out HX.out.2.z (HX.out.2.sl.after (HP2.out.aft.trans H3.out.2.2.2)) (HP2.out.tab.after H3.out.2.2.2)) ?_; rintro e w4 ⟨he, cs4, k1, k2, k3⟩; rw [HER.out] at he; subst he; have hst : fls cs4 = stS (fls cs) x := (by rw [k1]; simp only [stS, HK.out]; rfl)
                   have H4 := show Hid (TbI w tb mb _ cs4 w4 ∧ fls cs4 = stS (fls cs) x ∧ BsAt w4 pa X) from ⟨(HP2.out.after H3.out.2.2.2).call k2 k3 (by rw [hst]; exact stS_ok HP2.out.ok HX.out.2.l32), hst, (CK.of_map k3 (HP2.out.tab.after H3.out.2.2.2)).bs H3.out.1⟩
                   clear k1 k2 k3 hst)
                | (go_at_call 24; refine Calls.mono (same24_self H5.out.1 (H4.out.2.2.after H5.out.2.2.2) (by rw [H5.out.2.1, H3.out.2.1, H4.out.2.1, HKE.out]) H5.out.2.2.1 H3.out.2.2.1 (by have := H4.out.1.ok.few; rw [fls_len] at this; exact this)) ?_; rintro e w6 ⟨rfl, h6⟩; have HP6 := show Hid _ from HP5.out.after h6; clear h6))
              go_roundw
              case rel => exact ⟨i + 1, _, cs4, by omega, by go_num, H4.out.1, by rw [H4.out.2.1, get_keep HP2.out.ok.ris HNN.out]; exact HG.out⟩
              case measure => simp [intOf]; omega
            · have HK : Hid (x.k.toNat % 4 = 3) := h
              have HER : Hid (dlE (fls cs) x.nm = 0) := by
                have h9 : dlE (fls cs) x.nm = 0 := by have := HEE.out; unfold erS at this; rw [HK.out] at this; simpa using this
                exact h9
              clear h
              go_wp2_with (first
                | (refine wpList_of_run rfl (x_idx22 (x := .tmp 33) (y := .tmp 34) (b := ab) (f := ao) (n := n) (c := ca) (i := i) rfl (by kernel_rfl) (by kernel_rfl) HLT.out) ?_)
                | (refine wpList_of_run rfl (x_ld32 (x := .tmp 35) (g := ab) (p := ao + i * 3) (y := x) rfl (by kernel_rfl) HX.out.1) ?_)
                | (refine wpList_of_run rfl (x_al32 rfl) ?_; rw [HGA.out])
                | (refine wpList_store_row rfl 32 (.tmp 9) (.tmp 36) rfl ga (acv x).toArray (by kernel_rfl) (by kernel_rfl) 32 _ HB.out.1 (size32a x) rfl (one32 x) ?_; rw [HGW.out])
                | (refine wpList_of_run rfl (x_eq9 (x := .tmp 38) (y := .tmp 39) (s := x.nm) (t := nm) rfl (by kernel_rfl) (by kernel_rfl)) ?_; rw [HD.out])
                | (refine wpList_of_run rfl (x_rem4 (x := .tmp 44) (k := x.k) (r := 3) HK.out rfl (by kernel_rfl)) ?_)
                | (go_at_call 23; first | (refine Calls.mono H4.out.1.list ?_; rintro e w5 ⟨qa, qc, Y, rfl, k1, k2, k3, k4⟩; have H5 := show Hid (BsAt w5 qa Y ∧ bof Y = fls cs4 ∧ Y.length = cs4.length ∧ After w4 w5) from ⟨k1, k2, k3, k4⟩; have HP5 := show Hid _ from H4.out.1.after k4; clear k1 k2 k3 k4) | (refine Calls.mono HP2.out.list ?_; rintro e w3 ⟨pa, pc, X, rfl, k1, k2, k3, k4⟩; have H3 := show Hid (BsAt w3 pa X ∧ bof X = fls cs ∧ X.length = cs.length ∧ After w2 w3) from ⟨k1, k2, k3, k4⟩; have d30 := (HBR.out.below k4 HBR.out.lt).cell (j := 0) rfl; have d31 := (HBR.out.below k4 HBR.out.lt).cell (j := 1) rfl; have d32 := (HBR.out.below k4 HBR.out.lt).cell (j := 2) rfl; clear k1 k2 k3 k4))
                | (go_at_call 22; refine Calls.mono (delete22 (nm := x.nm) HX.out.2.nl (HP2.out.tab.after H3.out.2.2.2)) ?_; rintro e w4 ⟨he, cs4, k1, k2, k3⟩; rw [HER.out] at he; subst he; have hst : fls cs4 = stS (fls cs) x := (by rw [k1]; simp only [stS, HK.out]; rfl)
                   have H4 := show Hid (TbI w tb mb _ cs4 w4 ∧ fls cs4 = stS (fls cs) x ∧ BsAt w4 pa X) from ⟨(HP2.out.after H3.out.2.2.2).call k2 k3 (by rw [hst]; exact stS_ok HP2.out.ok HX.out.2.l32), hst, (CK.of_map k3 (HP2.out.tab.after H3.out.2.2.2)).bs H3.out.1⟩
                   clear k1 k2 k3 hst)
                | (go_at_call 24; refine Calls.mono (same24_self H5.out.1 (H4.out.2.2.after H5.out.2.2.2) (by rw [H5.out.2.1, H3.out.2.1, H4.out.2.1, HKE.out]) H5.out.2.2.1 H3.out.2.2.1 (by have := H4.out.1.ok.few; rw [fls_len] at this; exact this)) ?_; rintro e w6 ⟨rfl, h6⟩; have HP6 := show Hid _ from HP5.out.after h6; clear h6))
              go_roundw
              case rel => exact ⟨i + 1, _, cs4, by omega, by go_num, H4.out.1, by rw [H4.out.2.1, get_keep HP2.out.ok.ris HNN.out]; exact HG.out⟩
              case measure => simp [intOf]; omega
          · have hne : ¬ (EE : Int) = 0 := by omega
            have HKE : Hid (stS (fls cs) x = fls cs) := er_keep (by rw [HEE.out]; exact h0)
            clear h0
            rcases h4 with h | h | h | h
            · have HK : Hid (x.k.toNat % 4 = 0) := h
              have HER : Hid (crE (fls cs) x.nm x.l = EE) := by
                have h9 : crE (fls cs) x.nm x.l = EE := by have := HEE.out; unfold erS at this; rw [HK.out] at this; simpa using this
                exact h9
              clear h
              go_wp2_with (first
                | (refine wpList_of_run rfl (x_idx22 (x := .tmp 33) (y := .tmp 34) (b := ab) (f := ao) (n := n) (c := ca) (i := i) rfl (by kernel_rfl) (by kernel_rfl) HLT.out) ?_)
                | (refine wpList_of_run rfl (x_ld32 (x := .tmp 35) (g := ab) (p := ao + i * 3) (y := x) rfl (by kernel_rfl) HX.out.1) ?_)
                | (refine wpList_of_run rfl (x_al32 rfl) ?_; rw [HGA.out])
                | (refine wpList_store_row rfl 32 (.tmp 9) (.tmp 36) rfl ga (acv x).toArray (by kernel_rfl) (by kernel_rfl) 32 _ HB.out.1 (size32a x) rfl (one32 x) ?_; rw [HGW.out])
                | (refine wpList_of_run rfl (x_eq9 (x := .tmp 38) (y := .tmp 39) (s := x.nm) (t := nm) rfl (by kernel_rfl) (by kernel_rfl)) ?_; rw [HD.out])
                | (refine wpList_of_run rfl (x_rem4 (x := .tmp 44) (k := x.k) (r := 0) HK.out rfl (by kernel_rfl)) ?_)
                | (go_at_call 23; first | (refine Calls.mono H4.out.1.list ?_; rintro e w5 ⟨qa, qc, Y, rfl, k1, k2, k3, k4⟩; have H5 := show Hid (BsAt w5 qa Y ∧ bof Y = fls cs4 ∧ Y.length = cs4.length ∧ After w4 w5) from ⟨k1, k2, k3, k4⟩; have HP5 := show Hid _ from H4.out.1.after k4; clear k1 k2 k3 k4) | (refine Calls.mono HP2.out.list ?_; rintro e w3 ⟨pa, pc, X, rfl, k1, k2, k3, k4⟩; have H3 := show Hid (BsAt w3 pa X ∧ bof X = fls cs ∧ X.length = cs.length ∧ After w2 w3) from ⟨k1, k2, k3, k4⟩; have d30 := (HBR.out.below k4 HBR.out.lt).cell (j := 0) rfl; have d31 := (HBR.out.below k4 HBR.out.lt).cell (j := 1) rfl; have d32 := (HBR.out.below k4 HBR.out.lt).cell (j := 2) rfl; clear k1 k2 k3 k4))
                | (go_at_call 20; refine Calls.mono (create20 (nm := x.nm) HX.out.2.nl HP2.out.ok HX.out.2.l32 HPL.out HX.out.2.z (HX.out.2.sl.after (HP2.out.aft.trans H3.out.2.2.2)) (HP2.out.tab.after H3.out.2.2.2)) ?_; rintro e w4 ⟨he, cs4, k1, k2, k3⟩; rw [HER.out] at he; subst he; have hst : fls cs4 = stS (fls cs) x := (by rw [k1]; simp only [stS, HK.out]; rfl)
                   have H4 := show Hid (TbI w tb mb _ cs4 w4 ∧ fls cs4 = stS (fls cs) x ∧ BsAt w4 pa X) from ⟨(HP2.out.after H3.out.2.2.2).call k2 k3 (by rw [hst]; exact stS_ok HP2.out.ok HX.out.2.l32), hst, (CK.of_map k3 (HP2.out.tab.after H3.out.2.2.2)).bs H3.out.1⟩
                   clear k1 k2 k3 hst)
                | (go_at_call 24; refine Calls.mono (same24_self H5.out.1 (H4.out.2.2.after H5.out.2.2.2) (by rw [H5.out.2.1, H3.out.2.1, H4.out.2.1, HKE.out]) H5.out.2.2.1 H3.out.2.2.1 (by have := H4.out.1.ok.few; rw [fls_len] at this; exact this)) ?_; rintro e w6 ⟨rfl, h6⟩; have HP6 := show Hid _ from HP5.out.after h6; clear h6))
              go_roundw
              case rel => exact ⟨i + 1, _, cs4, by omega, by go_num, HP6, by rw [H4.out.2.1, get_keep HP2.out.ok.ris HNN.out]; exact HG.out⟩
              case measure => simp [intOf]; omega
            · have HK : Hid (x.k.toNat % 4 = 1) := h
              have HER : Hid (crE (fls cs) x.nm x.l = EE) := by
                have h9 : crE (fls cs) x.nm x.l = EE := by have := HEE.out; unfold erS at this; rw [HK.out] at this; simpa using this
                exact h9
              clear h
              go_wp2_with (first
                | (refine wpList_of_run rfl (x_idx22 (x := .tmp 33) (y := .tmp 34) (b := ab) (f := ao) (n := n) (c := ca) (i := i) rfl (by kernel_rfl) (by kernel_rfl) HLT.out) ?_)
                | (refine wpList_of_run rfl (x_ld32 (x := .tmp 35) (g := ab) (p := ao + i * 3) (y := x) rfl (by kernel_rfl) HX.out.1) ?_)
                | (refine wpList_of_run rfl (x_al32 rfl) ?_; rw [HGA.out])
                | (refine wpList_store_row rfl 32 (.tmp 9) (.tmp 36) rfl ga (acv x).toArray (by kernel_rfl) (by kernel_rfl) 32 _ HB.out.1 (size32a x) rfl (one32 x) ?_; rw [HGW.out])
                | (refine wpList_of_run rfl (x_eq9 (x := .tmp 38) (y := .tmp 39) (s := x.nm) (t := nm) rfl (by kernel_rfl) (by kernel_rfl)) ?_; rw [HD.out])
                | (refine wpList_of_run rfl (x_rem4 (x := .tmp 44) (k := x.k) (r := 1) HK.out rfl (by kernel_rfl)) ?_)
                | (go_at_call 23; first | (refine Calls.mono H4.out.1.list ?_; rintro e w5 ⟨qa, qc, Y, rfl, k1, k2, k3, k4⟩; have H5 := show Hid (BsAt w5 qa Y ∧ bof Y = fls cs4 ∧ Y.length = cs4.length ∧ After w4 w5) from ⟨k1, k2, k3, k4⟩; have HP5 := show Hid _ from H4.out.1.after k4; clear k1 k2 k3 k4) | (refine Calls.mono HP2.out.list ?_; rintro e w3 ⟨pa, pc, X, rfl, k1, k2, k3, k4⟩; have H3 := show Hid (BsAt w3 pa X ∧ bof X = fls cs ∧ X.length = cs.length ∧ After w2 w3) from ⟨k1, k2, k3, k4⟩; have d30 := (HBR.out.below k4 HBR.out.lt).cell (j := 0) rfl; have d31 := (HBR.out.below k4 HBR.out.lt).cell (j := 1) rfl; have d32 := (HBR.out.below k4 HBR.out.lt).cell (j := 2) rfl; clear k1 k2 k3 k4))
                | (go_at_call 20; refine Calls.mono (create20 (nm := x.nm) HX.out.2.nl HP2.out.ok HX.out.2.l32 HPL.out HX.out.2.z (HX.out.2.sl.after (HP2.out.aft.trans H3.out.2.2.2)) (HP2.out.tab.after H3.out.2.2.2)) ?_; rintro e w4 ⟨he, cs4, k1, k2, k3⟩; rw [HER.out] at he; subst he; have hst : fls cs4 = stS (fls cs) x := (by rw [k1]; simp only [stS, HK.out]; rfl)
                   have H4 := show Hid (TbI w tb mb _ cs4 w4 ∧ fls cs4 = stS (fls cs) x ∧ BsAt w4 pa X) from ⟨(HP2.out.after H3.out.2.2.2).call k2 k3 (by rw [hst]; exact stS_ok HP2.out.ok HX.out.2.l32), hst, (CK.of_map k3 (HP2.out.tab.after H3.out.2.2.2)).bs H3.out.1⟩
                   clear k1 k2 k3 hst)
                | (go_at_call 24; refine Calls.mono (same24_self H5.out.1 (H4.out.2.2.after H5.out.2.2.2) (by rw [H5.out.2.1, H3.out.2.1, H4.out.2.1, HKE.out]) H5.out.2.2.1 H3.out.2.2.1 (by have := H4.out.1.ok.few; rw [fls_len] at this; exact this)) ?_; rintro e w6 ⟨rfl, h6⟩; have HP6 := show Hid _ from HP5.out.after h6; clear h6))
              go_roundw
              case rel => exact ⟨i + 1, _, cs4, by omega, by go_num, HP6, by rw [H4.out.2.1, get_keep HP2.out.ok.ris HNN.out]; exact HG.out⟩
              case measure => simp [intOf]; omega
            · have HK : Hid (x.k.toNat % 4 = 2) := h
              have HER : Hid (mvE (fls cs) x.nm x.l = EE) := by
                have h9 : mvE (fls cs) x.nm x.l = EE := by have := HEE.out; unfold erS at this; rw [HK.out] at this; simpa using this
                exact h9
              clear h
              go_wp2_with (first
                | (refine wpList_of_run rfl (x_idx22 (x := .tmp 33) (y := .tmp 34) (b := ab) (f := ao) (n := n) (c := ca) (i := i) rfl (by kernel_rfl) (by kernel_rfl) HLT.out) ?_)
                | (refine wpList_of_run rfl (x_ld32 (x := .tmp 35) (g := ab) (p := ao + i * 3) (y := x) rfl (by kernel_rfl) HX.out.1) ?_)
                | (refine wpList_of_run rfl (x_al32 rfl) ?_; rw [HGA.out])
                | (refine wpList_store_row rfl 32 (.tmp 9) (.tmp 36) rfl ga (acv x).toArray (by kernel_rfl) (by kernel_rfl) 32 _ HB.out.1 (size32a x) rfl (one32 x) ?_; rw [HGW.out])
                | (refine wpList_of_run rfl (x_eq9 (x := .tmp 38) (y := .tmp 39) (s := x.nm) (t := nm) rfl (by kernel_rfl) (by kernel_rfl)) ?_; rw [HD.out])
                | (refine wpList_of_run rfl (x_rem4 (x := .tmp 44) (k := x.k) (r := 2) HK.out rfl (by kernel_rfl)) ?_)
                | (go_at_call 23; first | (refine Calls.mono H4.out.1.list ?_; rintro e w5 ⟨qa, qc, Y, rfl, k1, k2, k3, k4⟩; have H5 := show Hid (BsAt w5 qa Y ∧ bof Y = fls cs4 ∧ Y.length = cs4.length ∧ After w4 w5) from ⟨k1, k2, k3, k4⟩; have HP5 := show Hid _ from H4.out.1.after k4; clear k1 k2 k3 k4) | (refine Calls.mono HP2.out.list ?_; rintro e w3 ⟨pa, pc, X, rfl, k1, k2, k3, k4⟩; have H3 := show Hid (BsAt w3 pa X ∧ bof X = fls cs ∧ X.length = cs.length ∧ After w2 w3) from ⟨k1, k2, k3, k4⟩; have d30 := (HBR.out.below k4 HBR.out.lt).cell (j := 0) rfl; have d31 := (HBR.out.below k4 HBR.out.lt).cell (j := 1) rfl; have d32 := (HBR.out.below k4 HBR.out.lt).cell (j := 2) rfl; clear k1 k2 k3 k4))
                | (go_at_call 21; refine Calls.mono (move21 (nm := x.nm) HX.out.2.nl HP2.out.ok HX.out.2.l32 HPL.out HX.out.2.z (HX.out.2.sl.after (HP2.out.aft.trans H3.out.2.2.2)) (HP2.out.tab.after H3.out.2.2.2)) ?_; rintro e w4 ⟨he, cs4, k1, k2, k3⟩; rw [HER.out] at he; subst he; have hst : fls cs4 = stS (fls cs) x := (by rw [k1]; simp only [stS, HK.out]; rfl)
                   have H4 := show Hid (TbI w tb mb _ cs4 w4 ∧ fls cs4 = stS (fls cs) x ∧ BsAt w4 pa X) from ⟨(HP2.out.after H3.out.2.2.2).call k2 k3 (by rw [hst]; exact stS_ok HP2.out.ok HX.out.2.l32), hst, (CK.of_map k3 (HP2.out.tab.after H3.out.2.2.2)).bs H3.out.1⟩
                   clear k1 k2 k3 hst)
                | (go_at_call 24; refine Calls.mono (same24_self H5.out.1 (H4.out.2.2.after H5.out.2.2.2) (by rw [H5.out.2.1, H3.out.2.1, H4.out.2.1, HKE.out]) H5.out.2.2.1 H3.out.2.2.1 (by have := H4.out.1.ok.few; rw [fls_len] at this; exact this)) ?_; rintro e w6 ⟨rfl, h6⟩; have HP6 := show Hid _ from HP5.out.after h6; clear h6))
              go_roundw
              case rel => exact ⟨i + 1, _, cs4, by omega, by go_num, HP6, by rw [H4.out.2.1, get_keep HP2.out.ok.ris HNN.out]; exact HG.out⟩
              case measure => simp [intOf]; omega
            · have HK : Hid (x.k.toNat % 4 = 3) := h
              have HER : Hid (dlE (fls cs) x.nm = EE) := by
                have h9 : dlE (fls cs) x.nm = EE := by have := HEE.out; unfold erS at this; rw [HK.out] at this; simpa using this
                exact h9
              clear h
              go_wp2_with (first
                | (refine wpList_of_run rfl (x_idx22 (x := .tmp 33) (y := .tmp 34) (b := ab) (f := ao) (n := n) (c := ca) (i := i) rfl (by kernel_rfl) (by kernel_rfl) HLT.out) ?_)
                | (refine wpList_of_run rfl (x_ld32 (x := .tmp 35) (g := ab) (p := ao + i * 3) (y := x) rfl (by kernel_rfl) HX.out.1) ?_)
                | (refine wpList_of_run rfl (x_al32 rfl) ?_; rw [HGA.out])
                | (refine wpList_store_row rfl 32 (.tmp 9) (.tmp 36) rfl ga (acv x).toArray (by kernel_rfl) (by kernel_rfl) 32 _ HB.out.1 (size32a x) rfl (one32 x) ?_; rw [HGW.out])
                | (refine wpList_of_run rfl (x_eq9 (x := .tmp 38) (y := .tmp 39) (s := x.nm) (t := nm) rfl (by kernel_rfl) (by kernel_rfl)) ?_; rw [HD.out])
                | (refine wpList_of_run rfl (x_rem4 (x := .tmp 44) (k := x.k) (r := 3) HK.out rfl (by kernel_rfl)) ?_)
                | (go_at_call 23; first | (refine Calls.mono H4.out.1.list ?_; rintro e w5 ⟨qa, qc, Y, rfl, k1, k2, k3, k4⟩; have H5 := show Hid (BsAt w5 qa Y ∧ bof Y = fls cs4 ∧ Y.length = cs4.length ∧ After w4 w5) from ⟨k1, k2, k3, k4⟩; have HP5 := show Hid _ from H4.out.1.after k4; clear k1 k2 k3 k4) | (refine Calls.mono HP2.out.list ?_; rintro e w3 ⟨pa, pc, X, rfl, k1, k2, k3, k4⟩; have H3 := show Hid (BsAt w3 pa X ∧ bof X = fls cs ∧ X.length = cs.length ∧ After w2 w3) from ⟨k1, k2, k3, k4⟩; have d30 := (HBR.out.below k4 HBR.out.lt).cell (j := 0) rfl; have d31 := (HBR.out.below k4 HBR.out.lt).cell (j := 1) rfl; have d32 := (HBR.out.below k4 HBR.out.lt).cell (j := 2) rfl; clear k1 k2 k3 k4))
                | (go_at_call 22; refine Calls.mono (delete22 (nm := x.nm) HX.out.2.nl (HP2.out.tab.after H3.out.2.2.2)) ?_; rintro e w4 ⟨he, cs4, k1, k2, k3⟩; rw [HER.out] at he; subst he; have hst : fls cs4 = stS (fls cs) x := (by rw [k1]; simp only [stS, HK.out]; rfl)
                   have H4 := show Hid (TbI w tb mb _ cs4 w4 ∧ fls cs4 = stS (fls cs) x ∧ BsAt w4 pa X) from ⟨(HP2.out.after H3.out.2.2.2).call k2 k3 (by rw [hst]; exact stS_ok HP2.out.ok HX.out.2.l32), hst, (CK.of_map k3 (HP2.out.tab.after H3.out.2.2.2)).bs H3.out.1⟩
                   clear k1 k2 k3 hst)
                | (go_at_call 24; refine Calls.mono (same24_self H5.out.1 (H4.out.2.2.after H5.out.2.2.2) (by rw [H5.out.2.1, H3.out.2.1, H4.out.2.1, HKE.out]) H5.out.2.2.1 H3.out.2.2.1 (by have := H4.out.1.ok.few; rw [fls_len] at this; exact this)) ?_; rintro e w6 ⟨rfl, h6⟩; have HP6 := show Hid _ from HP5.out.after h6; clear h6))
              go_roundw
              case rel => exact ⟨i + 1, _, cs4, by omega, by go_num, HP6, by rw [H4.out.2.1, get_keep HP2.out.ok.ris HNN.out]; exact HG.out⟩
              case measure => simp [intOf]; omega
      · have hii : ¬ (i : Int) < (n : Int) := by omega
        have C12 := show Hid _ from heads12 (nm := nm) HL.out.2.2 HP.out.ok HP.out.tab
        have hd0 : dlE (fls cs) nm = 0 := by unfold dlE; rw [fhas_get HG.out]; simp
        rw [hd0, HG.out] at C12
        have hm16 : m ≤ 16 := by have := mayB_len (HP.out.ok.may _ (fget_mem HG.out)); simp only at this; rw [HH.out.2.2.1] at this; exact this
        have HM16 := show Hid _ from hm16
        clear hd0 hm16
        go_wp2_with (first
          | (go_at_call 12; refine Calls.mono C12.out ?_; rintro e w3 ⟨pa, pn, pc, rfl, k1, k2, k3, k4⟩; simp only [Option.getD_some] at k1 k2; rw [HH.out.2.2.1] at k1; have k1 := k1.symm; subst k1; obtain ⟨pa', pc', pe, ps⟩ := k2.sl; injection pe with pe1 pe2 pe3; subst pe1 pe3; clear pe2; have hb1 : BxAt w3 ⟨nm, pa, pc, hl⟩ := ⟨ps, HH.out.2.1, k4, by simp only; rw [HH.out.2.2.1]; exact HH.out.2.2.2.2⟩; have hb2 : BxAt w3 ⟨nm, ha, hc, hl⟩ := ⟨HH.out.1.after (HP.out.aft.trans k3), HH.out.2.1, HH.out.2.2.2.1, by simp only; rw [HH.out.2.2.1]; exact HH.out.2.2.2.2⟩; have H3 := show Hid (BxAt w3 ⟨nm, pa, pc, hl⟩ ∧ BxAt w3 ⟨nm, ha, hc, hl⟩ ∧ After w w3) from ⟨hb1, hb2, HP.out.aft.trans k3⟩; clear k2 k3 k4 ps hb1 hb2)
          | (refine wpListG_of_run (by kernel_rfl) (x_bld48 (x := .tmp 85) (y := .tmp 86) (s := strOf nm) (b := pa) (n := m) (c := pc) rfl (by kernel_rfl) (by kernel_rfl)) ?_)
          | (refine wpListG_of_run (by kernel_rfl) (x_bs25 (x := .tmp 87) (u := .string (strOf nm)) (v := .slice pa m pc) rfl (by kernel_rfl)) ?_; have hx1 := H3.out.1.box; simp only [Bx.v] at hx1; rw [HH.out.2.2.1] at hx1; have ha1 := after_alloc (After.refl w3) (.cells #[.string (strOf nm), .slice pa m pc] 48); obtain ⟨g4, hg4⟩ : ∃ g4, w3.heap.size = g4 := ⟨_, rfl⟩; obtain ⟨w4, hw4⟩ : ∃ w4, w3.alloc (.cells #[.string (strOf nm), .slice pa m pc] 48) = w4 := ⟨_, rfl⟩; rw [hg4, hw4] at hx1 ⊢; rw [hw4] at ha1; have H4 := show Hid (BsAt w4 (some ⟨g4, 0, none⟩) [⟨nm, pa, pc, hl⟩] ∧ After w3 w4) from ⟨hx1, ha1⟩; clear hx1 ha1 hg4 hw4)
          | (refine wpListG_of_run (by kernel_rfl) (x_bld48 (x := .tmp 89) (y := .tmp 90) (s := strOf nm) (b := ha) (n := m) (c := hc) rfl (by kernel_rfl) (by kernel_rfl)) ?_)
          | (refine wpListG_of_run (by kernel_rfl) (x_bs25 (x := .tmp 91) (u := .string (strOf nm)) (v := .slice ha m hc) rfl (by kernel_rfl)) ?_; have hx1 := (H3.out.2.1.after H4.out.2).box; simp only [Bx.v] at hx1; rw [HH.out.2.2.1] at hx1; have ha1 := after_alloc (After.refl w4) (.cells #[.string (strOf nm), .slice ha m hc] 48); obtain ⟨g5, hg5⟩ : ∃ g5, w4.heap.size = g5 := ⟨_, rfl⟩; obtain ⟨w5, hw5⟩ : ∃ w5, w4.alloc (.cells #[.string (strOf nm), .slice ha m hc] 48) = w5 := ⟨_, rfl⟩; rw [hg5, hw5] at hx1 ⊢; rw [hw5] at ha1; have H5 := show Hid (BsAt w5 (some ⟨g5, 0, none⟩) [⟨nm, ha, hc, hl⟩] ∧ After w4 w5) from ⟨hx1, ha1⟩; clear hx1 ha1 hg5 hw5)
          | (go_at_call 24; refine Calls.mono (same24_self (n := 1) (m := 1) (H4.out.1.after H5.out.2) H5.out.1 rfl rfl rfl (by omega)) ?_; rintro e w6 ⟨rfl, h6⟩; have H6 := show Hid (After w w6) from ((H3.out.2.2.trans H4.out.2).trans H5.out.2).trans h6; clear h6)
          | (go_at_call 15; refine Calls.mono (awake15 w6) ?_; rintro e w8 ⟨rfl, h8⟩; have H8 := show Hid (After w w8) from H6.out.trans h8; clear h8))
        go_ret
        exact ⟨rfl, H8.out⟩
end Go.Proofs.Ytppbbmnekeelpaa
