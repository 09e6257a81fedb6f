/-
  change.Size AND stemmaref08.Size.
-/
import Derived.Test.YtgmdolpjkaajfaaGreatDoorCH
import Derived.Test.YtgmdolpjkaajfaaGreatDoorOJ
namespace Go.Proofs.YtgmdolpjkaajfaaGreatDoor
open Go.RowKit Leb
def sumS (l : List Opn) : Nat → Int
  | 0 => 0
  | i + 1 => RowKit.wrap64 (sumS l i + (match l[i]? with | some x => sizeM x | none => 0))
theorem sumS_succ {l : List Opn} {i : Nat} {x : Opn} (h : l[i]? = some x) : sumS l (i + 1) = RowKit.wrap64 (sumS l i + sizeM x) := by
  show RowKit.wrap64 (sumS l i + (match l[i]? with | some x => sizeM x | none => 0)) = _
  rw [h]

set_option maxRecDepth 100000 in
set_option maxHeartbeats 2400000 in
theorem csize_any (x : Chg) (d p : Sl) (w : World) (hx : ChAt w x d p) :
    Calls Tryz.prog 11 #[cV x d p] w fun e w' => e = .returned (.int .i64 (sumS x.ops p.n)) ∧ After w w' := by
  obtain ⟨au, sq, st, ds, nt, l⟩ := x
  obtain ⟨po, n, pc⟩ := p
  have HL : Hid (OpsAt w po l ∧ l.length = n) := ⟨hx.ops, hx.pn⟩
  have hn : n ≤ 1152921504606846976 := hx.pb
  obtain ⟨w0, hw0⟩ : ∃ w0, w.alloc (.cells (cc ⟨au, sq, st, ds, nt, l⟩ d ⟨po, n, pc⟩).toArray 25) = w0 := ⟨_, rfl⟩
  have H0 : Hid (After w w0 ∧ RowIs w0 w.heap.size 25 (cc ⟨au, sq, st, ds, nt, l⟩ d ⟨po, n, pc⟩)) := by
    rw [← hw0]; exact ⟨after_alloc (After.refl w) _, RowIs.new w 25 _⟩
  have e5 : w0.cell? ⟨w.heap.size, 5, none⟩ = some (.slice po n pc) := H0.out.2.cell (j := 5) rfl
  clear hx
  go_enter Tryz.func11, Tryz.ntmps11
  go_wp2_with fail
  go_loopw [3, 9] (fun vs vi wr => ∃ i : Nat, vi = .int .i64 (i : Int) ∧ vs = .int .i64 (sumS l i) ∧ i ≤ n ∧ Hid (After w wr)) (fun _ vi _ => n - (intOf vi).toNat)
  case atStart => exact ⟨0, rfl, rfl, Nat.zero_le _, H0.out.1⟩
  case round =>
    obtain ⟨i, rfl, rfl, hin, HI⟩ := hrel
    by_cases hlt : i < n
    · have hii : (i : Int) < (n : Int) := by omega
      obtain ⟨x, hx⟩ : ∃ x, l[i]? = some x := ⟨_, List.getElem?_eq_getElem (by rw [HL.out.2]; exact hlt)⟩
      have HX : Hid (l[i]? = some x) := hx
      obtain ⟨b, o, hao, hrg⟩ := HL.out.1 (fun e => by rw [e] at hx; simp at hx)
      subst hao
      have HR : Hid (wr.rangeAt b (o + i * 5) (oc x)) := range_after (hrg i x hx) HI.out
      obtain ⟨s, hs⟩ : ∃ s, sumS l i = s := ⟨_, rfl⟩
      have HS : Hid (sumS l (i + 1) = RowKit.wrap64 (s + sizeM x)) := by unfold Hid; rw [sumS_succ hx, hs]
      rw [hs]
      clear hx hrg hs
      go_wp2_with (first
        | (go_at_call 25; refine Calls.mono (size_any x _) ?_; rintro e w3 ⟨rfl, ha3⟩; have H3 := show Hid (After w w3) from After.trans (after_alloc HI.out _) ha3; clear ha3)
        | (refine wpList_load_mid rfl 46 (.tmp 11) rfl b (o + i * 5) rfl (oc x) _ HR.out Tryz.underlying46 rfl size23 ?_))
      go_roundw
      case rel => exact ⟨i + 1, by go_num, by rw [HS.out], by omega, H3.out⟩
      case measure => simp [intOf]; omega
    · obtain rfl : i = n := by omega
      have hii : ¬ (i : Int) < (i : Int) := by omega
      go_wp2
      go_ret
      exact ⟨rfl, HI.out⟩
set_option maxRecDepth 100000 in
set_option maxHeartbeats 2400000 in
theorem rcsize_any (x : Chg) (d p : Sl) (w : World) (hx : ChAt w x d p) :
    Calls Tryz.prog 12 #[cV x d p] w fun e w' => e = .returned (.int .i64 (sumS x.ops p.n)) ∧ After w w' := by
  obtain ⟨au, sq, st, ds, nt, l⟩ := x
  obtain ⟨po, n, pc⟩ := p
  have HL : Hid (OpsAt w po l ∧ l.length = n) := ⟨hx.ops, hx.pn⟩
  have hn : n ≤ 1152921504606846976 := hx.pb
  obtain ⟨w0, hw0⟩ : ∃ w0, w.alloc (.cells (cc ⟨au, sq, st, ds, nt, l⟩ d ⟨po, n, pc⟩).toArray 25) = w0 := ⟨_, rfl⟩
  have H0 : Hid (After w w0 ∧ RowIs w0 w.heap.size 25 (cc ⟨au, sq, st, ds, nt, l⟩ d ⟨po, n, pc⟩)) := by
    rw [← hw0]; exact ⟨after_alloc (After.refl w) _, RowIs.new w 25 _⟩
  have e5 : w0.cell? ⟨w.heap.size, 5, none⟩ = some (.slice po n pc) := H0.out.2.cell (j := 5) rfl
  clear hx
  go_enter Tryz.func12, Tryz.ntmps12
  go_wp2_with fail
  go_loopw [3, 4] (fun vs vi wr => ∃ i : Nat, vi = .int .i64 (i : Int) ∧ vs = .int .i64 (sumS l i) ∧ i ≤ n ∧ Hid (After w wr ∧ RowIs wr w.heap.size 25 (cc ⟨au, sq, st, ds, nt, l⟩ d ⟨po, n, pc⟩))) (fun _ vi _ => n - (intOf vi).toNat)
  case atStart => exact ⟨0, rfl, rfl, Nat.zero_le _, H0.out⟩
  case round =>
    obtain ⟨i, rfl, rfl, hin, HI⟩ := hrel
    by_cases hlt : i < n
    · have hii : (i : Int) < (n : Int) := by omega
      obtain ⟨x, hx⟩ : ∃ x, l[i]? = some x := ⟨_, List.getElem?_eq_getElem (by rw [HL.out.2]; exact hlt)⟩
      have HX : Hid (l[i]? = some x) := hx
      obtain ⟨b, o, hao, hrg⟩ := HL.out.1 (fun e => by rw [e] at hx; simp at hx)
      subst hao
      have HR : Hid (wr.rangeAt b (o + i * 5) (oc x)) := range_after (hrg i x hx) HI.out.1
      have e5r : wr.cell? ⟨w.heap.size, 5, none⟩ = some (.slice (some ⟨b, o, none⟩) n pc) := HI.out.2.cell (j := 5) rfl
      obtain ⟨s, hs⟩ : ∃ s, sumS l i = s := ⟨_, rfl⟩
      have HS : Hid (sumS l (i + 1) = RowKit.wrap64 (s + sizeM x)) := by unfold Hid; rw [sumS_succ hx, hs]
      rw [hs]
      clear hx hrg hs
      go_wp2_with (first
        | (go_at_call 26; refine Calls.mono (rsize_any x _) ?_; rintro e w3 ⟨rfl, ha3⟩; have H3 := show Hid (After w w3 ∧ RowIs w3 w.heap.size 25 (cc ⟨au, sq, st, ds, nt, l⟩ d ⟨some ⟨b, o, none⟩, n, pc⟩)) from ⟨After.trans HI.out.1 ha3, HI.out.2.below ha3 HI.out.2.lt⟩; clear ha3)
        | (refine wpList_load_mid rfl 46 (.tmp 16) rfl b (o + i * 5) rfl (oc x) _ HR.out Tryz.underlying46 rfl size23 ?_))
      go_roundw
      case rel => exact ⟨i + 1, by go_num, by rw [HS.out], by omega, H3.out⟩
      case measure => simp [intOf]; omega
    · obtain rfl : i = n := by omega
      have hii : ¬ (i : Int) < (i : Int) := by omega
      have e5r : wr.cell? ⟨w.heap.size, 5, none⟩ = some (.slice po i pc) := HI.out.2.cell (j := 5) rfl
      go_wp2
      go_ret
      exact ⟨rfl, HI.out.1⟩
end Go.Proofs.YtgmdolpjkaajfaaGreatDoor
