/-
  THE WALK OF stemmalaw07.awake.
-/
import Derived.Test.YtpplnomomcdemaaGetW
import Derived.Test.YtpplnomomcdemaaSameW
namespace Go.Proofs.Ytpplnomomcdemaa
open Go.RowKit Leb
theorem getM_back {l : List Opn} (h : Good l) : getM (layB l) = some l := by
  have h1 := read_back h []
  rw [List.append_nil] at h1
  unfold getM
  rw [h1]
  show (if putE l = 0 ∧ layB l = layB l then some l else none) = some l
  rw [if_pos ⟨(good_iff h.ok).2 h, rfl⟩]
theorem put_good (ao : Option Addr) (n ca : Nat) (l : List Opn) (hl : l.length = n) (hg : Good l) (w : World) (hA : OpsAt w ao l) {B : List UInt8} {k : Nat} (hB : layB l = B) (hk : B.length = k) :
    Calls Try.prog 14 #[.slice ao n ca] w fun e w' => ∃ a c, e = .returned (.tuple #[.slice a k c, .int .i64 0]) ∧ BytesAt w' a B ∧ k ≤ c ∧ (a = none → k = 0) ∧ After w w' := by
  have h0 : putE l = 0 := (good_iff hg.ok).2 hg
  refine Calls.mono (put_k ao n ca l hl hg.ok (by have := hg.few; omega) w hA h0 (show putBs l = B by unfold putBs; rw [h0, if_pos rfl, hB])) ?_
  rintro e w' ⟨v, rfl, ho, ha⟩
  obtain ⟨a, c, rfl, h1, h2, _⟩ := ho.at
  rw [hk] at h2 ⊢
  exact ⟨a, c, rfl, h1, h2, fun e => by subst e; have := bytesAt_none h1; rw [this] at hk; simpa using hk.symm, ha⟩
theorem get_good (ao : Option Addr) (k ca : Nat) (l : List Opn) (n : Nat) (hl : l.length = n) (hg : Good l) {B : List UInt8} (hB : layB l = B) (hk : B.length = k) (hca : k ≤ ca) (hz : ao = none → k = 0) (hbig : k ≤ 140737488355328) (w : World) (hat : BytesAt w ao B) :
    Calls Try.prog 17 #[.slice ao k ca] w fun e w' => ∃ g, e = .returned (.tuple #[.slice (some ⟨g, 0, none⟩) n n, .int .i64 0]) ∧ OpsAt w' (some ⟨g, 0, none⟩) l ∧ After w w' := by
  refine Calls.mono (get_any ao k ca B hk hca hz hbig w hat) ?_
  rintro e w' ⟨v, q, rfl, ha, _, h1⟩
  obtain ⟨rfl, _, g, rfl, hA⟩ := h1 l (by rw [← hB]; exact getM_back hg)
  rw [hl]
  exact ⟨g, rfl, hA, ha⟩
abbrev x0 : Opn := ⟨2, [97], 0, 0, []⟩
abbrev B0 : List UInt8 := [1, 1, 2, 1, 1, 97, 1, 1, 0, 1, 1, 0, 1, 1, 0]
theorem uintB_1 : uintB 1 = [1] := by rw [uintB, if_pos (by omega)]; rfl
theorem intB_0 : intB 0 = [0] := by rw [intB, if_pos (by omega)]; decide
theorem intB_2 : intB 2 = [2] := by rw [intB, if_pos (by omega)]; decide
theorem runs_0 : runsB [0] = [1, 1, 0] := by
  have h : runs ([0] : List Int) = [(0, 1)] := by decide
  unfold runsB laidI
  rw [h]
  simp [uintB_1, intB_0]
theorem runs_2 : runsB [2] = [1, 1, 2] := by
  have h : runs ([2] : List Int) = [(2, 1)] := by decide
  unfold runsB laidI
  rw [h]
  simp [uintB_1, intB_2]
theorem lay0 : layB [x0] = B0 := by
  have h1 : firsts [x0] = [[97]] := by simp [firsts, more]
  have h2 : diffs [0] = [0] := by simp [diffs, dif, prev, RowKit.wrap64, List.range, List.range.loop]
  have h3 : textsB [x0] = [] := by simp [textsB, hasT]
  have h4 : whichs [[97]] [x0] = [0] := by simp [whichs]
  unfold layB layNB
  rw [h1, h3, h4]
  simp [h2, runs_0, runs_2, namesB, textB, uintB_1]
theorem good0 : Good [x0] := by
  refine ⟨by decide, fun x hx => ?_, fun x hx => ?_⟩
  · rw [List.mem_singleton.1 hx]
    exact ⟨by decide, by decide, by decide, by decide, by decide, by decide, by simp [maxLen], by simp [maxLen]⟩
  · rw [List.mem_singleton.1 hx]
    decide
set_option maxRecDepth 100000 in
set_option maxHeartbeats 1200000 in
theorem awake_any (w : World) : Calls Try.prog 13 #[] w fun e w' => e = .returned (.bool true) ∧ After w w' := by
  have HP : Hid (Calls Try.prog 14 #[.slice (some ⟨w.heap.size, 0, none⟩) 1 1] (w.alloc (.cells #[.int .i64 2, .string ⟨#[97]⟩, .int .i64 0, .int .i64 0, .string ⟨#[]⟩] 23)) fun e w' => ∃ a c, e = .returned (.tuple #[.slice a 15 c, .int .i64 0]) ∧ BytesAt w' a B0 ∧ 15 ≤ c ∧ (a = none → 15 = 0) ∧ After (w.alloc (.cells #[.int .i64 2, .string ⟨#[97]⟩, .int .i64 0, .int .i64 0, .string ⟨#[]⟩] 23)) w') :=
    put_good _ 1 1 [x0] rfl good0 _ (ops_of_row (RowIs.new w 23 (cellsOf [x0]))) lay0 rfl
  go_enter Try.func13, Try.ntmps13
  go_wp2_with (first
    | (go_at_call 17; refine Calls.mono (get_good a1 15 c1 [x0] 1 rfl good0 lay0 rfl H1.out.2.1 H1.out.2.2.1 (by omega) w1 H1.out.1) ?_; rintro e w2 ⟨g2, he, hA, ha⟩; subst he; have H2 := show Hid (After w1 w2) from ha; have hconv : (convert 30 9 (.slice a1 15 c1)).run Try.prog w2 = .ok (.string ⟨#[1, 1, 2, 1, 1, 97, 1, 1, 0, 1, 1, 0, 1, 1, 0]⟩) w2 := conv_at c1 (H1.out.1.after ha); obtain ⟨b2, o2, hb2, hr2⟩ := hA (by simp); obtain ⟨rfl, rfl⟩ : g2 = b2 ∧ 0 = o2 := by { simpa using hb2 }; have d0 : w2.cell? ⟨g2, 0, none⟩ = some (.int .i64 2) := hr2 0 x0 rfl 0 _ rfl; have d1 : w2.cell? ⟨g2, 1, none⟩ = some (.string ⟨#[97]⟩) := hr2 0 x0 rfl 1 _ rfl; clear ha hA hb2 hr2)
    | (go_at_call 14; refine Calls.mono HP.out ?_; rintro e w1 ⟨a1, c1, he, h1, h2, h3, ha⟩; subst he; have H1 := show Hid (BytesAt w1 a1 B0 ∧ 15 ≤ c1 ∧ (a1 = none → 15 = 0) ∧ After w w1) from ⟨h1, h2, h3, After.trans (after_alloc (After.refl w) _) ha⟩; clear h1 h2 h3 ha))
  go_ret
  exact ⟨rfl, After.trans H1.out.2.2.2 H2.out⟩
end Go.Proofs.Ytpplnomomcdemaa
