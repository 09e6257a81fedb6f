/-
  THE WALK OF op.Get.
-/
import Derived.Test.YtpplnomomcdemaaReadMath
namespace Go.Proofs.Ytpplnomomcdemaa
open Go.RowKit Leb
/-- What Get tells. -/
def getM (bs : List UInt8) : Option (List Opn) := (readM bs).bind fun l => if putE l = 0 ∧ layB l = bs then some l else none
def GetPost (w : World) (R : Option (List Opn)) (e : Ending) (w' : World) : Prop :=
  ∃ v q, e = .returned (.tuple #[v, .int .i64 q]) ∧ After w w' ∧ (R = none → v = .slice none 0 0 ∧ q = 4) ∧ (∀ l, R = some l → q = 0 ∧ l.length ≤ 256 ∧ ∃ g, v = .slice (some ⟨g, 0, none⟩) l.length l.length ∧ OpsAt w' (some ⟨g, 0, none⟩) l)
theorem rd_none {w w' : World} {e : Ending} (h : RdPost w none e w') : ∃ v, e = .returned (.tuple #[v, .bool false]) ∧ After w w' := by
  obtain ⟨v, ok, he, ha, _, h1⟩ := h
  cases ok with
  | false => exact ⟨v, he, ha⟩
  | true => obtain ⟨l, g, e2, _⟩ := h1 rfl; cases e2
theorem rd_some {w w' : World} {e : Ending} {l : List Opn} {m : Nat} (h : RdPost w (some l) e w') (hm : l.length = m) : ∃ g, e = .returned (.tuple #[.slice (some ⟨g, 0, none⟩) m m, .bool true]) ∧ After w w' ∧ OpsAt w' (some ⟨g, 0, none⟩) l ∧ m ≤ 65536 := by
  obtain ⟨v, ok, he, ha, h0, h1⟩ := h
  cases ok with
  | false => have := h0 rfl; cases this
  | true =>
    obtain ⟨l1, g, e2, hv, hA, hl⟩ := h1 rfl
    cases e2
    rw [hm] at hv hl
    exact ⟨g, by rw [he, hv], ha, hA, hl⟩
theorem put_k (ao : Option Addr) (n ca : Nat) (l : List Opn) (hl : l.length = n) (hok : ∀ x ∈ l, x.Ok) (hbig : n ≤ 1152921504606846976) (w : World) (hA : OpsAt w ao l) {q : Nat} {B : List UInt8} (hq : putE l = q) (hB : putBs l = B) :
    Calls Try.prog 14 #[.slice ao n ca] w fun e w' => ∃ v, e = .returned (.tuple #[v, .int .i64 (q : Int)]) ∧ Own w' w.heap.size v B ∧ After w w' := by
  have h := put_any ao n ca l hl hok hbig w hA
  rw [hq, hB] at h
  exact h
set_option maxRecDepth 100000 in
set_option maxHeartbeats 1200000 in
theorem get_any (ao : Option Addr) (n ca : Nat) (bs : List UInt8) (hn : bs.length = n) (hca : n ≤ ca) (hz : ao = none → n = 0) (hbig : n ≤ 140737488355328) (w : World) (hat : BytesAt w ao bs) :
    Calls Try.prog 17 #[.slice ao n ca] w (GetPost w (getM bs)) := by
  have HC := show Hid _ from readOps_any ao n ca bs hn hca hz hbig w hat
  have HAT : Hid (BytesAt w ao bs ∧ bs.length = n ∧ n ≤ 140737488355328) := ⟨hat, hn, hbig⟩
  clear hn hca hz hat
  cases hR : readM bs with
  | none =>
    rw [hR] at HC
    have HG : Hid (getM bs = none) := by show getM bs = none; unfold getM; rw [hR]; rfl
    clear hR
    go_enter Try.func17, Try.ntmps17
    go_wp2_with (go_at_call 29; refine Calls.mono HC.out ?_; intro e w1 hpost; obtain ⟨v1, rfl, ha⟩ := rd_none hpost; have H1 := show Hid (After w w1) from ha; clear ha hpost)
    go_ret2
    exact ⟨_, _, rfl, H1.out, fun _ => ⟨rfl, rfl⟩, fun l e => by rw [HG.out] at e; cases e⟩
  | some l =>
    rw [hR] at HC
    have HOK : Hid (∀ x ∈ l, x.Ok) := readM_ok (by rw [HAT.out.2.1]; unfold maxLen; omega) hR
    have HG : Hid (getM bs = if putE l = 0 ∧ layB l = bs then some l else none) := by show getM bs = _; unfold getM; rw [hR]; rfl
    clear hR hbig
    obtain ⟨m, hm⟩ : ∃ m, l.length = m := ⟨_, rfl⟩
    obtain ⟨q, hq⟩ : ∃ q, putE l = q := ⟨_, rfl⟩
    have HM : Hid (l.length = m ∧ putE l = q) := ⟨hm, hq⟩
    by_cases hq0 : q = 0
    · subst hq0
      have HB : Hid (putBs l = layB l ∧ l.length ≤ 256) := by
        refine ⟨by unfold putBs; rw [hq, if_pos rfl], ?_⟩
        exact ((good_iff HOK.out).1 hq).few
      cases hd : decide (layB l = bs) with
      | true =>
        have hd' : layB l = bs := of_decide_eq_true hd
        have HD : Hid (layB l = bs) := hd'
        clear hd'
        clear hm hq
        go_enter Try.func17, Try.ntmps17
        go_wp2_with (first
          | (go_at_call 29; refine Calls.mono HC.out ?_; go_loud (intro e w1 hpost; obtain ⟨g1, he, hp2⟩ := rd_some hpost HM.out.1; clear hpost; subst he; have H1 := show Hid (After w w1 ∧ OpsAt w1 (some ⟨g1, 0, none⟩) l ∧ m ≤ 65536) from hp2; clear hp2))
          | (go_at_call 14; refine Calls.mono (put_k (some ⟨g1, 0, none⟩) m m l HM.out.1 HOK.out (by have := H1.out.2.2; omega) w1 H1.out.2.1 HM.out.2 HB.out.1) ?_; rintro e w2 ⟨v2, rfl, ho, ha2⟩; have H2 := show Hid (Own w2 w1.heap.size v2 (layB l) ∧ After w1 w2) from ⟨ho, ha2⟩; clear ho ha2)
          | (go_at_call 30; refine Calls.mono (equal_any v2 (.slice ao n ca) (layB l) bs w2 H2.out.1.conv (by have h := conv_at ca (HAT.out.1.after (After.trans H1.out.1 H2.out.2)); rw [HAT.out.2.1] at h; exact h)) ?_; rintro e w3 ⟨rfl, hw3⟩; rw [hd]; have hw4 := hw3.symm; clear hw3; subst hw4))
        go_ret2
        exact ⟨_, _, rfl, After.trans H1.out.1 H2.out.2, fun e => (by rw [HG.out, HM.out.2, if_pos ⟨rfl, HD.out⟩] at e; cases e), fun l2 e => (by rw [HG.out, HM.out.2, if_pos ⟨rfl, HD.out⟩] at e; cases e; exact ⟨rfl, HB.out.2, g1, (by rw [HM.out.1]; rfl), H1.out.2.1.after H2.out.2⟩)⟩
      | false =>
        have hd' : ¬ layB l = bs := of_decide_eq_false hd
        have HD : Hid (¬ layB l = bs) := hd'
        clear hd'
        clear hm hq
        go_enter Try.func17, Try.ntmps17
        go_wp2_with (first
          | (go_at_call 29; refine Calls.mono HC.out ?_; go_loud (intro e w1 hpost; obtain ⟨g1, he, hp2⟩ := rd_some hpost HM.out.1; clear hpost; subst he; have H1 := show Hid (After w w1 ∧ OpsAt w1 (some ⟨g1, 0, none⟩) l ∧ m ≤ 65536) from hp2; clear hp2))
          | (go_at_call 14; refine Calls.mono (put_k (some ⟨g1, 0, none⟩) m m l HM.out.1 HOK.out (by have := H1.out.2.2; omega) w1 H1.out.2.1 HM.out.2 HB.out.1) ?_; rintro e w2 ⟨v2, rfl, ho, ha2⟩; have H2 := show Hid (Own w2 w1.heap.size v2 (layB l) ∧ After w1 w2) from ⟨ho, ha2⟩; clear ho ha2)
          | (go_at_call 30; refine Calls.mono (equal_any v2 (.slice ao n ca) (layB l) bs w2 H2.out.1.conv (by have h := conv_at ca (HAT.out.1.after (After.trans H1.out.1 H2.out.2)); rw [HAT.out.2.1] at h; exact h)) ?_; rintro e w3 ⟨rfl, hw3⟩; rw [hd]; have hw4 := hw3.symm; clear hw3; subst hw4))
        go_ret2
        exact ⟨_, _, rfl, After.trans H1.out.1 H2.out.2, fun _ => ⟨rfl, rfl⟩, fun l2 e => (by rw [HG.out, HM.out.2, if_neg (fun h => HD.out h.2)] at e; cases e)⟩
    · have hqi : ¬ (q : Int) = 0 := by omega
      have hqb : ((q : Int) == 0) = false := beq_eq_false_iff_ne.2 hqi
      have hqn : ((q : Int) != 0) = true := by simp [bne, hqb]
      clear hm hq
      go_enter Try.func17, Try.ntmps17
      go_wp2_with (first
        | (go_at_call 29; refine Calls.mono HC.out ?_; go_loud (intro e w1 hpost; obtain ⟨g1, he, hp2⟩ := rd_some hpost HM.out.1; clear hpost; subst he; have H1 := show Hid (After w w1 ∧ OpsAt w1 (some ⟨g1, 0, none⟩) l ∧ m ≤ 65536) from hp2; clear hp2))
        | (go_at_call 14; refine Calls.mono (put_k (some ⟨g1, 0, none⟩) m m l HM.out.1 HOK.out (by have := H1.out.2.2; omega) w1 H1.out.2.1 HM.out.2 rfl) ?_; rintro e w2 ⟨v2, rfl, ho, ha2⟩; have H2 := show Hid (After w1 w2) from ha2; clear ho ha2))
      go_ret2
      exact ⟨_, _, rfl, After.trans H1.out.1 H2.out, fun _ => ⟨rfl, rfl⟩, fun l2 e => (by rw [HG.out, HM.out.2, if_neg (fun h => hq0 h.1)] at e; cases e)⟩
end Go.Proofs.Ytpplnomomcdemaa
