/-
  THE WALK OF change.Get.
-/
import Derived.Test.YtgmdolpjkaajfaaGreatDoorCE
namespace Go.Proofs.YtgmdolpjkaajfaaGreatDoor
open Go.RowKit Leb
def getC (bs : List UInt8) : Option Chg := if 65536 < bs.length then none else (readK bs).bind fun c => if chgE c = 0 ∧ layC c = bs then some c else none
abbrev zc : List Value := [.string ⟨#[]⟩, .int .i64 0, .int .i64 0, .slice none 0 0, .string ⟨#[]⟩, .slice none 0 0]
/-- What Get answers. -/
def GtC (w : World) (R : Option Chg) (x : Ending) (w' : World) : Prop :=
  ∃ cs q, x = .returned (.tuple #[.agg (cs : List Value).toArray, .int .i64 q]) ∧ After w w' ∧ (R = none → q = 4 ∧ cs = zc) ∧ ∀ c, R = some c → q = 0 ∧ ∃ d p, cs = cc c d p ∧ ChAt w' c d p ∧ Frs w w' c d p
theorem gtc_none {w w' : World} {R : Option Chg} (h : R = none) (ha : After w w') : GtC w R (.returned (.tuple #[.agg zc.toArray, .int .i64 4])) w' := ⟨_, _, rfl, ha, fun _ => ⟨rfl, rfl⟩, fun c e => by rw [h] at e; cases e⟩
theorem rdc_none {w w' : World} {x : Ending} (h : RdC w none x w') : ∃ (v0 v1 v2 v3 v4 v5 : Value) (q : Int), x = .returned (.tuple #[.agg #[v0, v1, v2, v3, v4, v5], .int .i64 q]) ∧ After w w' ∧ (#[v0, v1, v2, v3, v4, v5] : Array Value).all (·.oneCell') = true ∧ q ≠ 0 := by
  obtain ⟨cs, q, hx, ha, hl, h1, hq, _⟩ := h
  match cs, hl with
  | [v0, v1, v2, v3, v4, v5], _ => exact ⟨v0, v1, v2, v3, v4, v5, q, hx, ha, by simpa using h1, hq rfl⟩
theorem rdc_some {w w' : World} {x : Ending} {c : Chg} (h : RdC w (some c) x w') : ∃ d p, x = .returned (.tuple #[cV c d p, .int .i64 0]) ∧ After w w' ∧ ChAt w' c d p ∧ Frs w w' c d p := by
  obtain ⟨cs, q, hx, ha, _, _, _, h2⟩ := h
  obtain ⟨rfl, d, p, rfl, hc, hf⟩ := h2 c rfl
  exact ⟨d, p, hx, ha, hc, hf⟩

theorem cput_k (x : Chg) (d p : Sl) (w : World) (hx : ChAt w x d p) {q : Nat} {B : List UInt8} (hq : chgE x = q) (hB : chgB x = B) :
    Calls Tryz.prog 17 #[cV x d p] w fun e w' => ∃ v, e = .returned (.tuple #[v, .int .i64 (q : Int)]) ∧ Own w' w.heap.size v B ∧ After w w' := by
  have h := cput_any x d p w hx
  rw [hq, hB] at h
  exact h
theorem zc_cell {w : World} {g k : Nat} {v : Value} (hr : RowIs w g 25 zc) (h : w.cell? ⟨g, k, none⟩ = some v) : zc[k]? = some v := by
  have h1 : w.cell? ⟨g, k, none⟩ = zc[k]? := by rw [cell_of_row w g k zc.toArray 25 (0, 0) hr]; simp
  rw [← h1]
  exact h
theorem chat_row {w : World} {x : Chg} {d p : Sl} {g : Nat} (h : ChAt w x d p) (hr : RowIs w g 25 zc) (cs : Array Value) : ChAt (w.setRow g cs) x d p := by
  have hk : But g w (w.setRow g cs) := (But.refl g w).setRow cs
  refine { h with deps := fun hn => ?_, ops := fun hn => ?_ }
  · obtain ⟨b, o, e, hc⟩ := h.deps hn
    have hb : b ≠ g := fun e2 => by
      subst e2
      have h1 := zc_cell hr (hc 0 (List.length_pos_iff.2 hn))
      match o + 0, h1 with
      | 0, h1 => cases h1
      | 1, h1 => cases h1
      | 2, h1 => cases h1
      | 3, h1 => cases h1
      | 4, h1 => cases h1
      | 5, h1 => cases h1
    exact ⟨b, o, e, fun j hj => hk.cell (p := ⟨b, o + j, none⟩) hb (hc j hj)⟩
  · obtain ⟨b, o, e, hc⟩ := h.ops hn
    obtain ⟨y, hy⟩ : ∃ y, x.ops[0]? = some y := ⟨_, List.getElem?_eq_getElem (List.length_pos_iff.2 hn)⟩
    have hb : b ≠ g := fun e2 => by
      subst e2
      have h1 := zc_cell hr (hc 0 y hy 0 _ rfl)
      have h2 := zc_cell hr (hc 0 y hy 1 _ rfl)
      simp only [Nat.zero_mul, Nat.add_zero] at h1 h2
      match o, h1, h2 with
      | 0, h1, _ => cases h1
      | 1, _, h2 => cases h2
      | 2, _, h2 => cases h2
      | 3, h1, _ => cases h1
      | 4, h1, _ => cases h1
      | 5, h1, _ => cases h1
    exact ⟨b, o, e, fun j y hj i v hv => hk.cell (p := ⟨b, o + j * 5 + i, none⟩) hb (hc j y hj i v hv)⟩
set_option maxRecDepth 100000 in
set_option maxHeartbeats 2400000 in
theorem cget_any (a : Option Addr) (n c : Nat) (bs : List UInt8) (hn : bs.length = n) (hca : n ≤ c) (hz : a = none → n = 0) (hbig : n ≤ 140737488355328) (w : World) (hat : BytesAt w a bs) :
    Calls Tryz.prog 21 #[.slice a n c] w (GtC w (getC bs)) := by
  have HB : Hid (BytesAt w a bs ∧ bs.length = n ∧ n ≤ 140737488355328) := ⟨hat, hn, hbig⟩
  have HCZ : Hid (n ≤ c ∧ (a = none → n = 0)) := ⟨hca, hz⟩
  clear hn hca hz hbig hat
  obtain ⟨w0, hw0⟩ : ∃ w0, w.alloc (.cells #[.string ⟨#[]⟩, .int .i64 0, .int .i64 0, .slice none 0 0, .string ⟨#[]⟩, .slice none 0 0] 25) = w0 := ⟨_, rfl⟩
  have H0 : Hid (After w w0 ∧ RowIs w0 w.heap.size 25 [.string ⟨#[]⟩, .int .i64 0, .int .i64 0, .slice none 0 0, .string ⟨#[]⟩, .slice none 0 0]) := ⟨by rw [← hw0]; exact after_alloc (After.refl w) _, by rw [← hw0]; exact RowIs.new w 25 [.string ⟨#[]⟩, .int .i64 0, .int .i64 0, .slice none 0 0, .string ⟨#[]⟩, .slice none 0 0]⟩
  have HW0 : Hid (w0.heap.size = w.heap.size + 1) := by unfold Hid; rw [← hw0]; simp
  by_cases hbg : 65536 < n
  · have hbi : (n : Int) > 65536 := by omega
    have HG : Hid (getC bs = none) := by unfold Hid getC; rw [HB.out.2.1, if_pos hbg]
    go_enter Tryz.func21, Tryz.ntmps21
    go_wp2_with (refine wpList_store_row rfl 25 (.tmp 2) (.tmp 10) rfl w.heap.size _ rfl rfl 25 _ H0.out.2 (by kernel_rfl) rfl (by kernel_rfl) ?_)
    refine bodyPost_ret (ret25t Tryz.results21 _ _ w.heap.size _ rfl (row_same H0.out.2) rfl _ rfl) rfl ?_
    exact gtc_none HG.out (Below.row H0.out.1 (Nat.le_refl _) _)
  have hbi : ¬ (n : Int) > 65536 := by omega
  have HC := show Hid _ from read_ch a n c bs HB.out.2.1 HCZ.out.1 HCZ.out.2 HB.out.2.2 w0 (HB.out.1.after H0.out.1)
  have HGC : Hid (getC bs = (readK bs).bind fun c => if chgE c = 0 ∧ layC c = bs then some c else none) := by unfold Hid getC; rw [HB.out.2.1, if_neg hbg]
  cases hr : readK bs with
  | none =>
    rw [hr] at HC
    have HG : Hid (getC bs = none) := by unfold Hid; rw [HGC.out, hr]; rfl
    clear hr
    go_enter Tryz.func21, Tryz.ntmps21
    go_wp2_with (first
      | (refine wpList_store_row rfl 25 (.tmp 2) (.tmp 18) rfl w.heap.size _ rfl rfl 25 _ H2.out.2 (by kernel_rfl) rfl (by kernel_rfl) ?_)
      | (refine wpList_store_row rfl 25 (.tmp 4) (.tmp 14) rfl w1.heap.size _ rfl rfl 25 _ (RowIs.new w1 25 [.string ⟨#[]⟩, .int .i64 0, .int .i64 0, .slice none 0 0, .string ⟨#[]⟩, .slice none 0 0]) (by kernel_rfl) rfl H1.out.2.2 ?_; have H2 := show Hid (After w ((w1.alloc (.cells #[.string ⟨#[]⟩, .int .i64 0, .int .i64 0, .slice none 0 0, .string ⟨#[]⟩, .slice none 0 0] 25)).setRow w1.heap.size #[v0, v1, v2, v3, v4, v5]) ∧ RowIs ((w1.alloc (.cells #[.string ⟨#[]⟩, .int .i64 0, .int .i64 0, .slice none 0 0, .string ⟨#[]⟩, .slice none 0 0] 25)).setRow w1.heap.size #[v0, v1, v2, v3, v4, v5]) w.heap.size 25 [.string ⟨#[]⟩, .int .i64 0, .int .i64 0, .slice none 0 0, .string ⟨#[]⟩, .slice none 0 0]) from ⟨Below.row (after_alloc H1.out.1 _) H1.out.1.size _, (H1.out.2.1.alloc _).setRow_other _ (Nat.ne_of_lt H1.out.2.1.lt)⟩)
      | (go_at_call 46; refine Calls.mono HC.out ?_; intro x w1 hp; obtain ⟨v0, v1, v2, v3, v4, v5, q, he, ha, h1, hq⟩ := rdc_none hp; subst he; have fb : (q == 0) = false := beq_eq_false_iff_ne.2 hq; have fn : (q != 0) = true := (by simp [bne, fb]); have H1 := show Hid (After w w1 ∧ RowIs w1 w.heap.size 25 [.string ⟨#[]⟩, .int .i64 0, .int .i64 0, .slice none 0 0, .string ⟨#[]⟩, .slice none 0 0] ∧ (#[v0, v1, v2, v3, v4, v5] : Array Value).all (·.oneCell') = true) from ⟨After.trans H0.out.1 ha, H0.out.2.below ha H0.out.2.lt, h1⟩; clear hp ha h1))
    refine bodyPost_ret (ret25t Tryz.results21 _ _ w.heap.size _ rfl (row_same H2.out.2) rfl _ rfl) rfl ?_
    exact gtc_none HG.out (Below.row H2.out.1 (Nat.le_refl _) _)
  | some ch =>
    rw [hr] at HC
    have HG : Hid (getC bs = if chgE ch = 0 ∧ layC ch = bs then some ch else none) := by unfold Hid; rw [HGC.out, hr]; rfl
    clear hr
    obtain ⟨q, hq⟩ : ∃ q, chgE ch = q := ⟨_, rfl⟩
    obtain ⟨B, hB⟩ : ∃ B, chgB ch = B := ⟨_, rfl⟩
    have HQ : Hid (chgE ch = q ∧ chgB ch = B) := ⟨hq, hB⟩
    clear hq hB
    by_cases hq0 : q = 0
    case neg =>
      have fi : ¬ (q : Int) = 0 := by omega
      have fb : ((q : Int) == 0) = false := beq_eq_false_iff_ne.2 fi
      have fn : ((q : Int) != 0) = true := by simp [bne, fb]
      go_enter Tryz.func21, Tryz.ntmps21
      go_wp2_with (first
        | (refine wpList_store_row rfl 25 (.tmp 2) (.tmp 32) rfl w.heap.size _ rfl rfl 25 _ H3.out.2.1 (by kernel_rfl) rfl (by kernel_rfl) ?_)
        | (go_at_call 17; have _u := H2.out; clear _u; refine Calls.mono (cput_k ch d p w2 H2.out.2.2.2 HQ.out.1 HQ.out.2) ?_; rintro x w3 ⟨v3, he, ho, ha⟩; subst he; have H3 := show Hid (After w w3 ∧ RowIs w3 w.heap.size 25 [.string ⟨#[]⟩, .int .i64 0, .int .i64 0, .slice none 0 0, .string ⟨#[]⟩, .slice none 0 0] ∧ ChAt w3 ch d p ∧ RowIs w3 g4 25 (cc ch d p) ∧ Own w3 w2.heap.size v3 B) from ⟨After.trans H2.out.1 ha, H2.out.2.1.below ha H2.out.2.1.lt, H2.out.2.2.2.after ha, H2.out.2.2.1.below ha H2.out.2.2.1.lt, ho⟩; clear ho ha)
        | (refine wpList_load_row rfl 25 (.tmp 4) rfl g4 rfl 25 _ (0, 0) _ H2.out.2.2.1 Tryz.underlying25 rfl (by kernel_rfl) ?_)
        | (refine wpList_store_row rfl 25 (.tmp 4) (.tmp 14) rfl w1.heap.size _ rfl rfl 25 _ (RowIs.new w1 25 [.string ⟨#[]⟩, .int .i64 0, .int .i64 0, .slice none 0 0, .string ⟨#[]⟩, .slice none 0 0]) (by kernel_rfl) rfl (by kernel_rfl) ?_; have H2 := show Hid (After w ((w1.alloc (.cells #[.string ⟨#[]⟩, .int .i64 0, .int .i64 0, .slice none 0 0, .string ⟨#[]⟩, .slice none 0 0] 25)).setRow w1.heap.size (cc ch d p).toArray) ∧ RowIs ((w1.alloc (.cells #[.string ⟨#[]⟩, .int .i64 0, .int .i64 0, .slice none 0 0, .string ⟨#[]⟩, .slice none 0 0] 25)).setRow w1.heap.size (cc ch d p).toArray) w.heap.size 25 [.string ⟨#[]⟩, .int .i64 0, .int .i64 0, .slice none 0 0, .string ⟨#[]⟩, .slice none 0 0] ∧ RowIs ((w1.alloc (.cells #[.string ⟨#[]⟩, .int .i64 0, .int .i64 0, .slice none 0 0, .string ⟨#[]⟩, .slice none 0 0] 25)).setRow w1.heap.size (cc ch d p).toArray) w1.heap.size 25 (cc ch d p) ∧ ChAt ((w1.alloc (.cells #[.string ⟨#[]⟩, .int .i64 0, .int .i64 0, .slice none 0 0, .string ⟨#[]⟩, .slice none 0 0] 25)).setRow w1.heap.size (cc ch d p).toArray) ch d p) from ⟨Below.row (after_alloc H1.out.1 _) H1.out.1.size _, (H1.out.2.1.alloc _).setRow_other _ (Nat.ne_of_lt H1.out.2.1.lt), RowIs.setRow (RowIs.new w1 25 [.string ⟨#[]⟩, .int .i64 0, .int .i64 0, .slice none 0 0, .string ⟨#[]⟩, .slice none 0 0]) _, H1.out.2.2.after (Below.row (after_alloc (After.refl w1) _) (Nat.le_refl _) _)⟩; obtain ⟨g4, hg4⟩ : ∃ g, w1.heap.size = g := ⟨_, rfl⟩; revert H2; generalize (w1.alloc (.cells #[.string ⟨#[]⟩, .int .i64 0, .int .i64 0, .slice none 0 0, .string ⟨#[]⟩, .slice none 0 0] 25)).setRow w1.heap.size (cc ch d p).toArray = w2; rw [hg4]; intro H2; clear hg4)
        | (go_at_call 46; refine Calls.mono HC.out ?_; intro x w1 hp; obtain ⟨d, p, he, ha, hch, hfr⟩ := rdc_some hp; subst he; have H1 := show Hid (After w w1 ∧ RowIs w1 w.heap.size 25 [.string ⟨#[]⟩, .int .i64 0, .int .i64 0, .slice none 0 0, .string ⟨#[]⟩, .slice none 0 0] ∧ ChAt w1 ch d p) from ⟨After.trans H0.out.1 ha, H0.out.2.below ha H0.out.2.lt, hch⟩; have HF1 := show Hid (Frs w0 w1 ch d p) from hfr; clear hp ha hch hfr))
      refine bodyPost_ret (ret25t Tryz.results21 _ _ w.heap.size _ rfl (row_same H3.out.2.1) rfl _ rfl) rfl ?_
      exact gtc_none (by rw [HG.out, HQ.out.1, if_neg (fun h => hq0 h.1)]) (Below.row H3.out.1 (Nat.le_refl _) _)
    subst hq0
    have HBL : Hid (layC ch = B) := by have h := HQ.out.2; unfold chgB at h; rw [HQ.out.1, if_pos rfl] at h; exact h
    cases hd : decide (B = bs) with
    | false =>
      have hd' : ¬ B = bs := of_decide_eq_false hd
      have HD : Hid (¬ B = bs) := hd'
      clear hd'
      go_enter Tryz.func21, Tryz.ntmps21
      go_wp2_with (first
        | (refine wpList_store_row rfl 25 (.tmp 2) (.tmp 32) rfl w.heap.size _ rfl rfl 25 _ H3.out.2.1 (by kernel_rfl) rfl (by kernel_rfl) ?_)
        | (go_at_call 47; refine Calls.mono (equal_any v3 (.slice a n c) B bs w3 H3.out.2.2.2.2.conv (by have h := conv_at c (HB.out.1.after H3.out.1); rw [HB.out.2.1] at h; exact h)) ?_; rintro x w4 ⟨rfl, hw⟩; rw [hd]; have hw2 := hw.symm; clear hw; subst hw2)
        | (go_at_call 17; have _u := H2.out; clear _u; refine Calls.mono (cput_k ch d p w2 H2.out.2.2.2 HQ.out.1 HQ.out.2) ?_; rintro x w3 ⟨v3, he, ho, ha⟩; subst he; have H3 := show Hid (After w w3 ∧ RowIs w3 w.heap.size 25 [.string ⟨#[]⟩, .int .i64 0, .int .i64 0, .slice none 0 0, .string ⟨#[]⟩, .slice none 0 0] ∧ ChAt w3 ch d p ∧ RowIs w3 g4 25 (cc ch d p) ∧ Own w3 w2.heap.size v3 B) from ⟨After.trans H2.out.1 ha, H2.out.2.1.below ha H2.out.2.1.lt, H2.out.2.2.2.after ha, H2.out.2.2.1.below ha H2.out.2.2.1.lt, ho⟩; clear ho ha)
        | (refine wpList_load_row rfl 25 (.tmp 4) rfl g4 rfl 25 _ (0, 0) _ H2.out.2.2.1 Tryz.underlying25 rfl (by kernel_rfl) ?_)
        | (refine wpList_store_row rfl 25 (.tmp 4) (.tmp 14) rfl w1.heap.size _ rfl rfl 25 _ (RowIs.new w1 25 [.string ⟨#[]⟩, .int .i64 0, .int .i64 0, .slice none 0 0, .string ⟨#[]⟩, .slice none 0 0]) (by kernel_rfl) rfl (by kernel_rfl) ?_; have H2 := show Hid (After w ((w1.alloc (.cells #[.string ⟨#[]⟩, .int .i64 0, .int .i64 0, .slice none 0 0, .string ⟨#[]⟩, .slice none 0 0] 25)).setRow w1.heap.size (cc ch d p).toArray) ∧ RowIs ((w1.alloc (.cells #[.string ⟨#[]⟩, .int .i64 0, .int .i64 0, .slice none 0 0, .string ⟨#[]⟩, .slice none 0 0] 25)).setRow w1.heap.size (cc ch d p).toArray) w.heap.size 25 [.string ⟨#[]⟩, .int .i64 0, .int .i64 0, .slice none 0 0, .string ⟨#[]⟩, .slice none 0 0] ∧ RowIs ((w1.alloc (.cells #[.string ⟨#[]⟩, .int .i64 0, .int .i64 0, .slice none 0 0, .string ⟨#[]⟩, .slice none 0 0] 25)).setRow w1.heap.size (cc ch d p).toArray) w1.heap.size 25 (cc ch d p) ∧ ChAt ((w1.alloc (.cells #[.string ⟨#[]⟩, .int .i64 0, .int .i64 0, .slice none 0 0, .string ⟨#[]⟩, .slice none 0 0] 25)).setRow w1.heap.size (cc ch d p).toArray) ch d p) from ⟨Below.row (after_alloc H1.out.1 _) H1.out.1.size _, (H1.out.2.1.alloc _).setRow_other _ (Nat.ne_of_lt H1.out.2.1.lt), RowIs.setRow (RowIs.new w1 25 [.string ⟨#[]⟩, .int .i64 0, .int .i64 0, .slice none 0 0, .string ⟨#[]⟩, .slice none 0 0]) _, H1.out.2.2.after (Below.row (after_alloc (After.refl w1) _) (Nat.le_refl _) _)⟩; obtain ⟨g4, hg4⟩ : ∃ g, w1.heap.size = g := ⟨_, rfl⟩; revert H2; generalize (w1.alloc (.cells #[.string ⟨#[]⟩, .int .i64 0, .int .i64 0, .slice none 0 0, .string ⟨#[]⟩, .slice none 0 0] 25)).setRow w1.heap.size (cc ch d p).toArray = w2; rw [hg4]; intro H2; clear hg4)
        | (go_at_call 46; refine Calls.mono HC.out ?_; intro x w1 hp; obtain ⟨d, p, he, ha, hch, hfr⟩ := rdc_some hp; subst he; have H1 := show Hid (After w w1 ∧ RowIs w1 w.heap.size 25 [.string ⟨#[]⟩, .int .i64 0, .int .i64 0, .slice none 0 0, .string ⟨#[]⟩, .slice none 0 0] ∧ ChAt w1 ch d p) from ⟨After.trans H0.out.1 ha, H0.out.2.below ha H0.out.2.lt, hch⟩; have HF1 := show Hid (Frs w0 w1 ch d p) from hfr; clear hp ha hch hfr))
      refine bodyPost_ret (ret25t Tryz.results21 _ _ w.heap.size _ rfl (row_same H3.out.2.1) rfl _ rfl) rfl ?_
      exact gtc_none (by rw [HG.out, HBL.out, if_neg (fun h => HD.out h.2)]) (Below.row H3.out.1 (Nat.le_refl _) _)
    | true =>
      have hd' : B = bs := of_decide_eq_true hd
      have HD : Hid (B = bs) := hd'
      clear hd'
      go_enter Tryz.func21, Tryz.ntmps21
      go_wp2_with (first
        | (refine wpList_store_row rfl 25 (.tmp 2) (.tmp 33) rfl w.heap.size _ rfl rfl 25 _ H3.out.2.1 (by kernel_rfl) rfl (by kernel_rfl) ?_)
        | (refine wpList_load_row rfl 25 (.tmp 4) rfl g4 rfl 25 _ (0, 0) _ H3.out.2.2.2.1 Tryz.underlying25 rfl (by kernel_rfl) ?_)
        | (go_at_call 47; refine Calls.mono (equal_any v3 (.slice a n c) B bs w3 H3.out.2.2.2.2.conv (by have h := conv_at c (HB.out.1.after H3.out.1); rw [HB.out.2.1] at h; exact h)) ?_; rintro x w4 ⟨rfl, hw⟩; rw [hd]; have hw2 := hw.symm; clear hw; subst hw2)
        | (go_at_call 17; have _u := H2.out; clear _u; refine Calls.mono (cput_k ch d p w2 H2.out.2.2.2 HQ.out.1 HQ.out.2) ?_; rintro x w3 ⟨v3, he, ho, ha⟩; subst he; have H3 := show Hid (After w w3 ∧ RowIs w3 w.heap.size 25 [.string ⟨#[]⟩, .int .i64 0, .int .i64 0, .slice none 0 0, .string ⟨#[]⟩, .slice none 0 0] ∧ ChAt w3 ch d p ∧ RowIs w3 g4 25 (cc ch d p) ∧ Own w3 w2.heap.size v3 B) from ⟨After.trans H2.out.1 ha, H2.out.2.1.below ha H2.out.2.1.lt, H2.out.2.2.2.after ha, H2.out.2.2.1.below ha H2.out.2.2.1.lt, ho⟩; have HF3 := show Hid (Frs w0 w3 ch d p) from HF2.out.after ha; clear ho ha)
        | (refine wpList_load_row rfl 25 (.tmp 4) rfl g4 rfl 25 _ (0, 0) _ H2.out.2.2.1 Tryz.underlying25 rfl (by kernel_rfl) ?_)
        | (refine wpList_store_row rfl 25 (.tmp 4) (.tmp 14) rfl w1.heap.size _ rfl rfl 25 _ (RowIs.new w1 25 [.string ⟨#[]⟩, .int .i64 0, .int .i64 0, .slice none 0 0, .string ⟨#[]⟩, .slice none 0 0]) (by kernel_rfl) rfl (by kernel_rfl) ?_; have H2 := show Hid (After w ((w1.alloc (.cells #[.string ⟨#[]⟩, .int .i64 0, .int .i64 0, .slice none 0 0, .string ⟨#[]⟩, .slice none 0 0] 25)).setRow w1.heap.size (cc ch d p).toArray) ∧ RowIs ((w1.alloc (.cells #[.string ⟨#[]⟩, .int .i64 0, .int .i64 0, .slice none 0 0, .string ⟨#[]⟩, .slice none 0 0] 25)).setRow w1.heap.size (cc ch d p).toArray) w.heap.size 25 [.string ⟨#[]⟩, .int .i64 0, .int .i64 0, .slice none 0 0, .string ⟨#[]⟩, .slice none 0 0] ∧ RowIs ((w1.alloc (.cells #[.string ⟨#[]⟩, .int .i64 0, .int .i64 0, .slice none 0 0, .string ⟨#[]⟩, .slice none 0 0] 25)).setRow w1.heap.size (cc ch d p).toArray) w1.heap.size 25 (cc ch d p) ∧ ChAt ((w1.alloc (.cells #[.string ⟨#[]⟩, .int .i64 0, .int .i64 0, .slice none 0 0, .string ⟨#[]⟩, .slice none 0 0] 25)).setRow w1.heap.size (cc ch d p).toArray) ch d p) from ⟨Below.row (after_alloc H1.out.1 _) H1.out.1.size _, (H1.out.2.1.alloc _).setRow_other _ (Nat.ne_of_lt H1.out.2.1.lt), RowIs.setRow (RowIs.new w1 25 [.string ⟨#[]⟩, .int .i64 0, .int .i64 0, .slice none 0 0, .string ⟨#[]⟩, .slice none 0 0]) _, H1.out.2.2.after (Below.row (after_alloc (After.refl w1) _) (Nat.le_refl _) _)⟩; obtain ⟨g4, hg4⟩ : ∃ g, w1.heap.size = g := ⟨_, rfl⟩; have HF2 := show Hid (Frs w0 ((w1.alloc (.cells #[.string ⟨#[]⟩, .int .i64 0, .int .i64 0, .slice none 0 0, .string ⟨#[]⟩, .slice none 0 0] 25)).setRow w1.heap.size (cc ch d p).toArray) ch d p) from HF1.out.after (Below.row (after_alloc (After.refl w1) _) (Nat.le_refl _) _); revert H2 HF2; generalize (w1.alloc (.cells #[.string ⟨#[]⟩, .int .i64 0, .int .i64 0, .slice none 0 0, .string ⟨#[]⟩, .slice none 0 0] 25)).setRow w1.heap.size (cc ch d p).toArray = w2; rw [hg4]; intro H2 HF2; clear hg4)
        | (go_at_call 46; refine Calls.mono HC.out ?_; intro x w1 hp; obtain ⟨d, p, he, ha, hch, hfr⟩ := rdc_some hp; subst he; have H1 := show Hid (After w w1 ∧ RowIs w1 w.heap.size 25 [.string ⟨#[]⟩, .int .i64 0, .int .i64 0, .slice none 0 0, .string ⟨#[]⟩, .slice none 0 0] ∧ ChAt w1 ch d p) from ⟨After.trans H0.out.1 ha, H0.out.2.below ha H0.out.2.lt, hch⟩; have HF1 := show Hid (Frs w0 w1 ch d p) from hfr; clear hp ha hch hfr))
      refine bodyPost_ret (ret25t Tryz.results21 _ _ w.heap.size (cc ch d p) rfl (H3.out.2.1.setRow (cc ch d p)) rfl _ rfl) rfl ?_
      refine ⟨_, _, rfl, Below.row H3.out.1 (Nat.le_refl _) _, fun e => (by rw [HG.out, HQ.out.1, HBL.out, HD.out, if_pos ⟨rfl, rfl⟩] at e; cases e), fun c2 e => ?_⟩
      rw [HG.out, HQ.out.1, HBL.out, HD.out, if_pos ⟨rfl, rfl⟩] at e
      cases e
      exact ⟨rfl, d, p, rfl, chat_row H3.out.2.2.1 H3.out.2.1 _, (HF3.out.but ((But.refl w.heap.size w3).setRow _) (by rw [HW0.out]; omega)).base (by rw [HW0.out]; omega)⟩
end Go.Proofs.YtgmdolpjkaajfaaGreatDoor
