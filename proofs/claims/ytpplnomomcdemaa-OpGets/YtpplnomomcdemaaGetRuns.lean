/-
  THE WALKS OF column.taken[int64], column.GetRuns.
-/
import Derived.Test.YtpplnomomcdemaaReadRuns
namespace Go.Proofs.Ytpplnomomcdemaa
open Go.RowKit Leb
theorem after_but {w W W' : World} {g : Nat} (h : After w W) (hb : But g W W') (hg : w.heap.size ≤ g) : After w W' :=
  ⟨hb.os.trans h.os, hb.tape.trans h.tape, hb.output.trans h.output, Nat.le_trans h.size hb.size, fun k hk => (hb.block k (Nat.lt_of_lt_of_le hk h.size) (by omega)).trans (h.block k hk)⟩
theorem OwnI.mono {w : World} {base base' : Nat} {v : Value} {l : List Int} (h : OwnI w base v l) (hb : base' ≤ base) : OwnI w base' v l := by
  refine ⟨h.1, ?_⟩
  rcases h.2 with hn | ⟨g, cap, cur, rfl, h1, rest⟩
  · exact .inl hn
  · exact .inr ⟨g, cap, cur, rfl, by omega, rest⟩
set_option maxHeartbeats 400000 in
theorem read_far (ao : Option Addr) (cap : Nat) (bs : List UInt8) (hbig : bs.length ≤ 140737488355328) (w : World) (hat : BytesAt w ao bs) :
    Calls Try.prog 71 #[.slice ao bs.length cap] w fun e w' => ∃ g a' c', e = .returned (.pointer (some ⟨g, 0, none⟩)) ∧ Rd w' g bs 0 a' c' ∧ (∀ a, a' = some a → w.heap.size ≤ a.block ∧ a.block < w'.heap.size) ∧ w.heap.size ≤ g ∧ Below w.heap.size w w' := by
  have HAT : Hid (BytesAt w ao bs) := hat
  clear hat
  go_enter Try.func71, Try.ntmps71
  go_wp2_with (go_at_call 79; refine (clone_any ao cap bs hbig _ HAT.out).mono ?_; rintro e w1 ⟨v1, rfl, ho1, hb1⟩; obtain ⟨a1, c1, rfl, hat1, hc1, hl1⟩ := ho1.at)
  go_ret
  refine ⟨w1.heap.size, a1, c1, rfl, ⟨RowIs.new w1 112 [.slice a1 bs.length c1, .int .i64 0], hat1.after (after_alloc (After.refl w1) _), hc1, fun h => ?_, fun a ha => ?_⟩, fun a ha => ⟨(hl1 a ha).1, by have := (hl1 a ha).2; simp; omega⟩, hb1.size, after_alloc hb1 _⟩
  · subst h; exact bytesAt_none hat1
  · have := (hl1 a ha).2; omega
def clampM (most : Int) : Nat := if most < 0 then 0 else if 65536 < most then 65536 else most.toNat
/-- What GetRuns tells. -/
def getR (bs : List UInt8) (most : Int) : List Int × Nat × Nat :=
  if (readR bs (clampM most)).2.2 = 0 then ((readR bs (clampM most)).1, bs.length - (readR bs (clampM most)).2.1.length, 0) else ([], 0, (readR bs (clampM most)).2.2)
def GPost (w : World) (G : List Int × Nat × Nat) (x : Ending) (w' : World) : Prop :=
  ∃ v, x = .returned (.tuple #[v, .int .i64 (G.2.1 : Int), .int .i64 (G.2.2 : Int)]) ∧ OwnI w' w.heap.size v G.1 ∧ After w w'
theorem rr_len (most : Nat) : ∀ k bs acc, (rr most k bs acc).2.1.length ≤ bs.length
  | 0, bs, acc => by simp [rr]
  | k + 1, bs, acc => by
    have h1 : (suB bs 0 (most - acc.length)).length ≤ bs.length := by unfold suB; split <;> simp
    have h2 : (siB (suB bs 0 (most - acc.length)) 0).length ≤ (suB bs 0 (most - acc.length)).length := by unfold siB; split <;> simp
    unfold rr
    split
    · split
      · split
        · simp; omega
        · have := rr_len most k (siB (suB bs 0 (most - acc.length)) 0) (acc ++ List.replicate (rlV bs 0 (most - acc.length) 1) (siV (suB bs 0 (most - acc.length)) 0)); omega
      · simp; omega
    · simpa using h1
theorem readR_len (bs : List UInt8) (most : Nat) : (readR bs most).2.1.length ≤ bs.length := by
  have h1 : (suB bs 0 most).length ≤ bs.length := by unfold suB; split <;> simp
  unfold readR
  split
  · have := rr_len most (suV bs 0 most) (suB bs 0 most) []; omega
  · simpa using h1
set_option maxRecDepth 100000 in
set_option maxHeartbeats 800000 in
theorem takenI_any (ao : Option Addr) (cap : Nat) (bs : List UInt8) (hbig : bs.length ≤ 140737488355328) (most : Int) (hm0 : -9223372036854775808 ≤ most) (hm1 : most ≤ 9223372036854775807) (w : World) (hat : BytesAt w ao bs) :
    Calls Try.prog 66 #[.slice ao bs.length cap, .int .i64 most, .func (.func 67) #[] #[]] w fun x w' => GPost w (getR bs most) x w' := by
  have HAT : Hid (BytesAt w ao bs) := hat
  obtain ⟨M, hM⟩ : ∃ M, clampM most = M := ⟨_, rfl⟩
  have hM5 : M ≤ 65536 := by rw [← hM]; unfold clampM; split; omega; split <;> omega
  obtain ⟨R, hR⟩ : ∃ R, readR bs M = R := ⟨_, rfl⟩
  have hRl := readR_len bs M
  rw [hR] at hRl
  have HGR : Hid (getR bs most = if R.2.2 = 0 then (R.1, bs.length - R.2.1.length, 0) else ([], 0, R.2.2)) := by unfold Hid getR; rw [hM, hR]
  have C36 : Hid (∀ W g a c, Rd W g bs 0 a c → (∀ x, a = some x → x.block < W.heap.size) → Calls Try.prog 67 #[.pointer (some ⟨g, 0, none⟩), .int .i64 (M : Int)] W fun x w' => RPost W g R x w') := fun W g a c h1 h2 => by
    have := readRuns_any g bs a c M hM5 W h1 h2
    rw [hR] at this
    exact this
  obtain ⟨rl, rb, re⟩ := R
  have hcl : most < 0 ∧ M = 0 ∨ 65536 < most ∧ M = 65536 ∨ 0 ≤ most ∧ most ≤ 65536 ∧ most = (M : Int) := by
    unfold clampM at hM
    split at hM
    · exact .inl ⟨by assumption, hM.symm⟩
    · split at hM
      · exact .inr (.inl ⟨by assumption, hM.symm⟩)
      · exact .inr (.inr ⟨by omega, by omega, by omega⟩)
  clear hat hM hR
  have hre : re = 0 ∨ ¬ re = 0 := by omega
  rcases hcl with ⟨hc1, rfl⟩ | ⟨hc1, rfl⟩ | ⟨hc1, hc2, rfl⟩
  all_goals
    rcases hre with rfl | hre
    · have HG : Hid (getR bs _ = (rl, bs.length - rb.length, 0)) := HGR.out.trans (if_pos rfl)
      clear HGR
      go_enter Try.func66, Try.ntmps66
      go_wp2_with (first
        | (go_at_call 71; refine (read_far ao cap bs (by omega) _ HAT.out).mono ?_; rintro x w1 ⟨g, a1, c1, rfl, hr1, hf1, hg1, hb1⟩; have HR1 := show Hid (Rd w1 g bs 0 a1 c1) from hr1; have HF1 := show Hid (∀ a, a1 = some a → w.heap.size ≤ a.block ∧ a.block < w1.heap.size) from hf1; have HB1 := show Hid (After w w1) from hb1; clear hr1 hf1 hb1)
        | (go_at_call 67; refine Calls.mono (C36.out _ g a1 c1 HR1.out (fun x hx => (HF1.out x hx).2)) ?_; rintro x w2 ⟨v, rfl, ho, hbt, hrd⟩; have HO := show Hid (OwnI w2 w1.heap.size v rl) from ho; have HBT := show Hid (But g w1 w2) from hbt; have HRD := show Hid (_ = 0 → ∃ ao' cap', Rd w2 g rb 0 ao' cap') from hrd; clear ho hbt hrd)
        | (go_at_call 72; first | (exfalso; omega) | skip; obtain ⟨a2, c2, hr2⟩ := HRD.out (by first | exact rfl | trivial); refine (rLeft_any g rb 0 a2 c2 _ hr2).mono ?_; rintro x w3 ⟨rfl, hw3⟩; have hw4 := hw3.symm; clear hw3; subst hw4))
      go_ret3
      rw [HG.out]
      exact ⟨v, by rw [show (((rl, bs.length - rb.length, 0) : List Int × Nat × Nat).2.1 : Int) = (bs.length : Int) - (rb.length : Int) from Int.ofNat_sub (show rb.length ≤ bs.length from hRl)]; rfl, OwnI.mono HO.out HB1.out.size, after_but HB1.out HBT.out hg1⟩
    · have HG : Hid (getR bs _ = ([], 0, re)) := HGR.out.trans (if_neg hre)
      clear HGR
      go_enter Try.func66, Try.ntmps66
      go_wp2_with (first
        | (go_at_call 71; refine (read_far ao cap bs (by omega) _ HAT.out).mono ?_; rintro x w1 ⟨g, a1, c1, rfl, hr1, hf1, hg1, hb1⟩; have HR1 := show Hid (Rd w1 g bs 0 a1 c1) from hr1; have HF1 := show Hid (∀ a, a1 = some a → w.heap.size ≤ a.block ∧ a.block < w1.heap.size) from hf1; have HB1 := show Hid (After w w1) from hb1; clear hr1 hf1 hb1)
        | (go_at_call 67; refine Calls.mono (C36.out _ g a1 c1 HR1.out (fun x hx => (HF1.out x hx).2)) ?_; rintro x w2 ⟨v, rfl, ho, hbt, hrd⟩; have HO := show Hid (OwnI w2 w1.heap.size v rl) from ho; have HBT := show Hid (But g w1 w2) from hbt; have HRD := show Hid (_ = 0 → ∃ ao' cap', Rd w2 g rb 0 ao' cap') from hrd; clear ho hbt hrd)
        | (go_at_call 72; first | (exfalso; omega) | skip; obtain ⟨a2, c2, hr2⟩ := HRD.out (by first | exact rfl | trivial); refine (rLeft_any g rb 0 a2 c2 _ hr2).mono ?_; rintro x w3 ⟨rfl, hw3⟩; have hw4 := hw3.symm; clear hw3; subst hw4))
      go_ret3
      rw [HG.out]
      exact ⟨_, rfl, OwnI.nil _ _, after_but HB1.out HBT.out hg1⟩
set_option maxHeartbeats 400000 in
theorem getRuns_any (ao : Option Addr) (cap : Nat) (bs : List UInt8) (hbig : bs.length ≤ 140737488355328) (most : Int) (hm0 : -9223372036854775808 ≤ most) (hm1 : most ≤ 9223372036854775807) (w : World) (hat : BytesAt w ao bs) :
    Calls Try.prog 53 #[.slice ao bs.length cap, .int .i64 most] w fun x w' => GPost w (getR bs most) x w' := by
  have HC := show Hid _ from takenI_any ao cap bs hbig most hm0 hm1 w hat
  clear hat
  go_enter Try.func53, Try.ntmps53
  go_wp2_with (go_at_call 66; refine Calls.mono HC.out ?_; rintro x w1 ⟨v, rfl, ho, hb⟩)
  go_ret3
  exact ⟨v, rfl, ho, hb⟩
end Go.Proofs.Ytpplnomomcdemaa
