/-
  THE WALK OF column.readRuns.
-/
import Derived.Test.YtpplnomomcdemaaRead
namespace Go.Proofs.Ytpplnomomcdemaa
open Go.RowKit Leb
def readR (bs : List UInt8) (most : Nat) : List Int × List UInt8 × Nat :=
  if suE bs 0 most = 0 then rr most (suV bs 0 most) (suB bs 0 most) [] else ([], suB bs 0 most, suE bs 0 most)
/-- What readRuns leaves. -/
def RPost (w : World) (g : Nat) (R : List Int × List UInt8 × Nat) (x : Ending) (w' : World) : Prop :=
  ∃ v, x = .returned (.tuple #[v, .int .i64 (R.2.2 : Int)]) ∧ OwnI w' w.heap.size v R.1 ∧ But g w w' ∧ (R.2.2 = 0 → ∃ ao' cap', Rd w' g R.2.1 0 ao' cap')
theorem RPost.err {w w' : World} {g : Nat} {b : List UInt8} {E : Nat} (hE : ¬ E = 0) (hb : But g w w') : RPost w g ([], b, E) (.returned (.tuple #[.slice none 0 0, .int .i64 (E : Int)])) w' := ⟨_, rfl, OwnI.nil _ _, hb, fun h => absurd h hE⟩
theorem OwnI.cellAt {w : World} {B lb lo n c : Nat} {l : List Int} (h : OwnI w B (.slice (some ⟨lb, lo, none⟩) n c) l) (j : Nat) (hj : j < l.length) : w.cell? ⟨lb, lo + j, none⟩ = some (.int .i64 (l[j]?.getD 0)) := by
  obtain ⟨ao, cap, hv, hI, _, _⟩ := h.at
  simp only [Value.slice.injEq] at hv
  obtain ⟨b, o, he, hc⟩ := hI (by intro h; simp [h] at hj)
  rw [he] at hv
  obtain ⟨hv, _, _⟩ := hv
  cases hv
  exact hc j hj
set_option maxRecDepth 100000 in
set_option maxHeartbeats 3200000 in
theorem readRuns_any (g : Nat) (bs : List UInt8) (ao : Option Addr) (cap most : Nat) (hm : most ≤ 65536) (w : World) (hR : Rd w g bs 0 ao cap) (hnear : ∀ a, ao = some a → a.block < w.heap.size) :
    Calls Try.prog 67 #[.pointer (some ⟨g, 0, none⟩), .int .i64 (most : Int)] w fun x w' => RPost w g (readR bs most) x w' := by
  have hg : g < w.heap.size := hR.row.lt
  have HC := show Hid _ from rUint_any g bs 0 ao cap most w hR
  have hNl := suV_le bs 0 most
  obtain ⟨N, hN⟩ : ∃ v, suV bs 0 most = v := ⟨_, rfl⟩
  obtain ⟨b1, hb1⟩ : ∃ v, suB bs 0 most = v := ⟨_, rfl⟩
  obtain ⟨e1, he1⟩ : ∃ v, suE bs 0 most = v := ⟨_, rfl⟩
  have hN0 : ¬ e1 = 0 → N = 0 := fun h => by
    rw [← hN]; show ruV bs most = 0; unfold ruV; rw [if_neg (by rw [← he1] at h; exact h)]
  obtain ⟨R, HRR⟩ : ∃ R, Hid (readR bs most = R) := ⟨_, rfl⟩
  have HRD : Hid (R = if e1 = 0 then rr most N b1 [] else ([], b1, e1)) := by unfold Hid; rw [← HRR.out]; unfold readR; rw [he1, hN, hb1]
  rw [hN] at hNl
  rw [hN, hb1, he1] at HC
  rw [HRR.out]
  have HNE := show Hid _ from hnear
  clear hN hb1 he1 hR HRR hnear
  by_cases h0 : e1 = 0
  · subst h0
    have HR0 : Hid (rr most N b1 [] = R) := by unfold Hid; rw [HRD.out]; simp
    clear HRD hN0
    go_enter Try.func67, Try.ntmps67
    go_wp2_with (go_at_call 73; refine Calls.mono HC.out ?_; rintro x w1 ⟨rfl, hn1⟩; obtain ⟨a1, c1, hr1, hbt1, hnr1⟩ := Nx.near hn1 HNE.out; have HL0 : Hid (RRel w g w1 b1 a1 c1 (.slice none 0 0) []) := ⟨hr1, hbt1, OwnI.nil _ _, hnr1⟩; clear hn1 hr1 hbt1 hnr1)
    go_loopw [6, 15] (fun v i wr => ∃ (k : Nat) (b : List UInt8) (ax : Option Addr) (cx : Nat) (acc : List Int), k ≤ N ∧ i = .int .u64 k ∧ RRel w g wr b ax cx v acc ∧ acc.length ≤ most ∧ rr most (N - k) b acc = R) (fun _ i _ => N - (intOf i).toNat)
    case atStart => exact ⟨0, b1, a1, c1, [], by omega, rfl, HL0.out, by simp, HR0.out⟩
    case round =>
      clear HL0 HR0
      obtain ⟨k, b, ax, cx, acc, hk, rfl, hrel, hacc, hspec⟩ := hrel
      by_cases hkN : k < N
      · obtain ⟨va, vc, rfl, hint, hvc, hvl⟩ := hrel.own.at
        obtain ⟨room, hroom⟩ : ∃ r, most - acc.length = r := ⟨_, rfl⟩
        rw [show N - k = (N - (k + 1)) + 1 by omega, rr, hroom] at hspec
        have C45 := show Hid _ from readLength_any g b 0 ax cx room 1 (by omega) (Nat.le_refl _) wr hrel.rd
        obtain ⟨V, hV⟩ : ∃ v, rlV b 0 room 1 = v := ⟨_, rfl⟩
        obtain ⟨E, hE⟩ : ∃ v, rlE b 0 room 1 = v := ⟨_, rfl⟩
        obtain ⟨b2, hb2⟩ : ∃ v, suB b 0 room = v := ⟨_, rfl⟩
        obtain ⟨e2, he2⟩ : ∃ v, suE b 0 room = v := ⟨_, rfl⟩
        have hE2 : E = 0 → e2 = 0 ∧ 1 ≤ V ∧ V ≤ room := fun h => by
          have h1 := suV_le b 0 room
          rw [← hE] at h
          have h2 : rlV b 0 room 1 = suV b 0 room := by unfold rlV; rw [if_pos h]
          unfold rlE at h
          rw [← he2, ← hV, h2]
          split at h
          · split at h
            · cases h
            · rename_i h3 h4; exact ⟨h3, by omega, h1⟩
          · omega
        rw [hV, hE, hb2, he2] at C45
        rw [hE, hb2, hV] at hspec
        have HRL := show Hid _ from hrel
        have HSP := show Hid _ from hspec
        have HKN : Hid (k + 1 ≤ N) := hkN
        have hxl : (acc.length : Int) ≤ (most : Int) := by omega
        have hroomI : (most : Int) - (acc.length : Int) = (room : Int) := by omega
        have HACC : Hid (acc.length + room = most) := by unfold Hid; omega
        clear hV hE hb2 he2 hrel hspec hvl hvc
        by_cases hE0 : E = 0
        · obtain ⟨h20, hV1, hVr⟩ := hE2 hE0
          subst hE0 h20
          have HSPx := show Hid _ from (if_pos rfl).symm.trans HSP.out
          clear HSP
          have HSP := HSPx
          clear HSPx
          have C48 : Hid (∀ W c2 a2, Rd W g b2 0 a2 c2 → _) := fun W c2 a2 h => rInt_any g b2 0 a2 c2 W h
          obtain ⟨n, hn⟩ : ∃ v, siV b2 0 = v := ⟨_, rfl⟩
          obtain ⟨b3, hb3⟩ : ∃ v, siB b2 0 = v := ⟨_, rfl⟩
          obtain ⟨e3, he3⟩ : ∃ v, siE b2 0 = v := ⟨_, rfl⟩
          simp only [hn, hb3, he3] at C48
          rw [hn, hb3, he3] at HSP
          clear hn hb3 he3 hE2
          by_cases he3 : e3 = 0
          · subst he3
            have HSPx := show Hid _ from (if_pos rfl).symm.trans HSP.out
            clear HSP
            have HSP := HSPx
            clear HSPx
            by_cases hae : acc = []
            · subst hae
              have hrm : room = most := by have := HACC.out; simpa using this
              subst hrm
              clear hroomI hxl
              have h := HSP.out
              rw [if_neg (by simp)] at h
              have HSP2 := show Hid _ from h
              clear HSP h
              go_wp2_with (first
                | (go_at_call 74; refine Calls.mono C45.out ?_; rintro x w2 ⟨rfl, hn2⟩; obtain ⟨a2, c2, hr2, hbt2, hnr2⟩ := Nx.near hn2 HRL.out.near; have HB2 : Hid (But g w w2) := HRL.out.but.trans hbt2; have HO2 : Hid (OwnI w2 w.heap.size (.slice va 0 vc) []) := OwnI.but HRL.out.own hbt2 hg; have HRd2 := show Hid (Rd w2 g b2 0 a2 c2) from hr2; clear hn2 hr2 hbt2)
                | (go_at_call 75; refine Calls.mono (C48.out _ c2 a2 HRd2.out) ?_; rintro x w3 ⟨rfl, hn3⟩; obtain ⟨a3, c3, hr3, hbt3, hnr3⟩ := Nx.near hn3 hnr2; have HB3 : Hid (But g w w3) := HB2.out.trans hbt3; have HO3 : Hid (OwnI w3 w.heap.size (.slice va 0 vc) []) := OwnI.but HO2.out hbt3 hg; have HRd3 := show Hid (Rd w3 g b3 0 a3 c3) from hr3; clear hn3 hr3 hbt3)
                | (go_at_call 76; refine (rErr_any g b3 0 a3 c3 _ HRd3.out).mono ?_; rintro x w4 ⟨rfl, hw4⟩; have hw5 := hw4.symm; clear hw4; subst hw5)
                | (go_at_call 77; refine (repeat_any n V hV1 (by omega) w3.heap.size _ (box_cell w3 _ _)).mono ?_; rintro x w5 ⟨rfl, hrow5, hA5⟩; have hA35 : After w3 w5 := (after_alloc (After.refl w3) _).trans hA5; have HO5 : Hid (OwnI w5 w.heap.size (.slice va 0 vc) []) := OwnI.keep HO3.out (fun j hj => hA35.block j (World.ownsRow.lt HO3.out j hj).2); have HB5 : Hid (But g w w5) := HB3.out.trans (But.of_below hA35); have HRd5 := show Hid (Rd w5 g b3 0 a3 c3) from Rd.after HRd3.out hA35; have HROW := show Hid (RowIs w5 (w3.heap.size + 1) 2 (ci (List.replicate V n))) from (by have := hrow5; rw [show (w3.alloc (.cells #[.int .i64 n] 2)).heap.size = w3.heap.size + 1 by simp] at this; exact this); have hsz5 : w.heap.size ≤ w5.heap.size := HB5.out.size; clear hrow5 hA5 hA35)
                | (at_builtin; refine wpList_append_ints rfl (.tmp 49) (.tmp 53) rfl w.heap.size _ [] rfl HO5.out ⟨w3.heap.size + 1, 0, none⟩ V (List.replicate V n) V (by simp) rfl (fun j hj => by rw [Addr.add_mid, Nat.zero_add]; exact RowIs.cell HROW.out (ci_get _ j hj)) (by have := HACC.out; rw [List.length_replicate]; omega) hsz5 ?_; intro v6 w6 ho6 hg6; have HR6 := show Hid (RRel w g w6 b3 a3 c3 v6 ([] ++ List.replicate V n)) from RRel.grown hg HRd5.out HB5.out hnr3 HO5.out ho6 hg6; clear ho6 hg6))
              go_roundw
              case rel => exact ⟨k + 1, b3, a3, c3, _, HKN.out, by go_num, HR6.out, by have := HACC.out; simp at this ⊢; omega, HSP2.out⟩
              case measure => have := HKN.out; simp [intOf]; omega
            · obtain ⟨q, hq⟩ : ∃ q, acc.length = q + 1 := ⟨acc.length - 1, by have : acc.length ≠ 0 := fun h => hae (List.eq_nil_of_length_eq_zero h); omega⟩
              have HANE : Hid (acc ≠ []) := hae
              obtain ⟨lb, lo, rfl, _⟩ := hint hae
              have HQ : Hid (acc.length = q + 1) := hq
              obtain ⟨y, hy⟩ : ∃ y, acc[acc.length - 1]?.getD 0 = y := ⟨_, rfl⟩
              rw [hy] at HSP
              rw [hq, show q + 1 - 1 = q by omega] at hy
              have HY := show Hid (acc[q]?.getD 0 = y) from hy
              rw [hq] at HACC HRL ⊢
              have hroomJ : (most : Int) - ((q : Int) + 1) = (room : Int) := by rw [hq] at hroomI; omega
              have hqm : (q : Int) + 1 ≤ (most : Int) := by rw [hq] at hxl; omega
              clear hq hy hroomI hxl
              by_cases hny : n = y
              · subst hny
                have h := HSP.out
                rw [if_pos ⟨hae, rfl⟩] at h
                have HSP2 := show Hid _ from h
                clear HSP h hae
                go_wp2_with (first
                  | (go_at_call 74; refine Calls.mono C45.out ?_; rintro x w2 ⟨rfl, hn2⟩; obtain ⟨a2, c2, hr2, hbt2, hnr2⟩ := Nx.near hn2 HRL.out.near; have HB2 : Hid (But g w w2) := HRL.out.but.trans hbt2; have HO2 : Hid (OwnI w2 w.heap.size (.slice (some ⟨lb, lo, none⟩) (q + 1) vc) acc) := OwnI.but HRL.out.own hbt2 hg; have HRd2 := show Hid (Rd w2 g b2 0 a2 c2) from hr2; clear hn2 hr2 hbt2)
                  | (go_at_call 75; refine Calls.mono (C48.out _ c2 a2 HRd2.out) ?_; rintro x w3 ⟨rfl, hn3⟩; obtain ⟨a3, c3, hr3, hbt3, hnr3⟩ := Nx.near hn3 hnr2; have HB3 : Hid (But g w w3) := HB2.out.trans hbt3; have HO3 : Hid (OwnI w3 w.heap.size (.slice (some ⟨lb, lo, none⟩) (q + 1) vc) acc) := OwnI.but HO2.out hbt3 hg; have HRd3 := show Hid (Rd w3 g b3 0 a3 c3) from hr3; clear hn3 hr3 hbt3; have hcl : w3.cell? ⟨lb, lo + q, none⟩ = some (.int .i64 n) := (by have := OwnI.cellAt HO3.out q (by have := HQ.out; omega); rw [HY.out] at this; exact this))
                  | (go_at_call 76; refine (rErr_any g b3 0 a3 c3 _ HRd3.out).mono ?_; rintro x w4 ⟨rfl, hw4⟩; have hw5 := hw4.symm; clear hw4; subst hw5))
                go_ret2
                rw [← HSP2.out]
                exact RPost.err (by decide) HB3.out
              · have h := HSP.out
                rw [if_neg (fun h => hny h.2)] at h
                have HSP2 := show Hid _ from h
                have hnyb : (n == y) = false := by simpa using hny
                clear HSP h hae
                go_wp2_with (first
                  | (go_at_call 74; refine Calls.mono C45.out ?_; rintro x w2 ⟨rfl, hn2⟩; obtain ⟨a2, c2, hr2, hbt2, hnr2⟩ := Nx.near hn2 HRL.out.near; have HB2 : Hid (But g w w2) := HRL.out.but.trans hbt2; have HO2 : Hid (OwnI w2 w.heap.size (.slice (some ⟨lb, lo, none⟩) (q + 1) vc) acc) := OwnI.but HRL.out.own hbt2 hg; have HRd2 := show Hid (Rd w2 g b2 0 a2 c2) from hr2; clear hn2 hr2 hbt2)
                  | (go_at_call 75; refine Calls.mono (C48.out _ c2 a2 HRd2.out) ?_; rintro x w3 ⟨rfl, hn3⟩; obtain ⟨a3, c3, hr3, hbt3, hnr3⟩ := Nx.near hn3 hnr2; have HB3 : Hid (But g w w3) := HB2.out.trans hbt3; have HO3 : Hid (OwnI w3 w.heap.size (.slice (some ⟨lb, lo, none⟩) (q + 1) vc) acc) := OwnI.but HO2.out hbt3 hg; have HRd3 := show Hid (Rd w3 g b3 0 a3 c3) from hr3; clear hn3 hr3 hbt3; have hcl : w3.cell? ⟨lb, lo + q, none⟩ = some (.int .i64 y) := (by have := OwnI.cellAt HO3.out q (by have := HQ.out; omega); rw [HY.out] at this; exact this))
                  | (go_at_call 76; refine (rErr_any g b3 0 a3 c3 _ HRd3.out).mono ?_; rintro x w4 ⟨rfl, hw4⟩; have hw5 := hw4.symm; clear hw4; subst hw5)
                  | (go_at_call 77; refine (repeat_any n V hV1 (by omega) w3.heap.size _ (box_cell w3 _ _)).mono ?_; rintro x w5 ⟨rfl, hrow5, hA5⟩; have hA35 : After w3 w5 := (after_alloc (After.refl w3) _).trans hA5; have HO5 : Hid (OwnI w5 w.heap.size (.slice (some ⟨lb, lo, none⟩) (q + 1) vc) acc) := OwnI.keep HO3.out (fun j hj => hA35.block j (World.ownsRow.lt HO3.out j hj).2); have HB5 : Hid (But g w w5) := HB3.out.trans (But.of_below hA35); have HRd5 := show Hid (Rd w5 g b3 0 a3 c3) from Rd.after HRd3.out hA35; have HROW := show Hid (RowIs w5 (w3.heap.size + 1) 2 (ci (List.replicate V n))) from (by have := hrow5; rw [show (w3.alloc (.cells #[.int .i64 n] 2)).heap.size = w3.heap.size + 1 by simp] at this; exact this); have hsz5 : w.heap.size ≤ w5.heap.size := HB5.out.size; clear hrow5 hA5 hA35)
                  | (at_builtin; refine wpList_append_ints rfl (.tmp 49) (.tmp 53) rfl w.heap.size _ acc rfl HO5.out ⟨w3.heap.size + 1, 0, none⟩ V (List.replicate V n) V (by simp) rfl (fun j hj => by rw [Addr.add_mid, Nat.zero_add]; exact RowIs.cell HROW.out (ci_get _ j hj)) (by have := HACC.out; have := HQ.out; rw [List.length_replicate]; omega) hsz5 ?_; intro v6 w6 ho6 hg6; have HR6 := show Hid (RRel w g w6 b3 a3 c3 v6 (acc ++ List.replicate V n)) from RRel.grown hg HRd5.out HB5.out hnr3 HO5.out ho6 hg6; clear ho6 hg6))
                go_roundw
                case rel => exact ⟨k + 1, b3, a3, c3, _, HKN.out, by go_num, HR6.out, by have := HACC.out; have := HQ.out; simp; omega, HSP2.out⟩
                case measure => have := HKN.out; simp [intOf]; omega
          · have h := HSP.out
            rw [if_neg he3] at h
            have HSP2 := show Hid _ from h
            clear HSP h
            go_wp2_with (first
              | (go_at_call 74; refine Calls.mono C45.out ?_; rintro x w2 ⟨rfl, hn2⟩; obtain ⟨a2, c2, hr2, hbt2, hnr2⟩ := Nx.near hn2 HRL.out.near; have HB2 : Hid (But g w w2) := HRL.out.but.trans hbt2; have HO2 : Hid (OwnI w2 w.heap.size (.slice va acc.length vc) acc) := OwnI.but HRL.out.own hbt2 hg; have HRd2 := show Hid (Rd w2 g b2 0 a2 c2) from hr2; clear hn2 hr2 hbt2)
              | (go_at_call 75; refine Calls.mono (C48.out _ c2 a2 HRd2.out) ?_; rintro x w3 ⟨rfl, hn3⟩; obtain ⟨a3, c3, hr3, hbt3, hnr3⟩ := Nx.near hn3 hnr2; have HB3 : Hid (But g w w3) := HB2.out.trans hbt3; have HO3 : Hid (OwnI w3 w.heap.size (.slice va acc.length vc) acc) := OwnI.but HO2.out hbt3 hg; have HRd3 := show Hid (Rd w3 g b3 e3 a3 c3) from hr3; clear hn3 hr3 hbt3)
              | (go_at_call 76; refine (rErr_any g b3 e3 a3 c3 _ HRd3.out).mono ?_; rintro x w4 ⟨rfl, hw4⟩; have hw5 := hw4.symm; clear hw4; subst hw5))
            go_ret2
            rw [← HSP2.out]
            exact RPost.err he3 HB3.out
        · go_wp2_with (go_at_call 74; refine Calls.mono C45.out ?_; rintro x w2 ⟨rfl, hn2⟩; obtain ⟨a2, c2, hr2, hbt2, hnr2⟩ := Nx.near hn2 HRL.out.near; have HB2 : Hid (But g w w2) := HRL.out.but.trans hbt2; clear hn2 hr2 hbt2 hnr2)
          go_ret2
          have h := HSP.out
          rw [if_neg hE0] at h
          rw [← h]
          exact RPost.err hE0 HB2.out
      · obtain rfl : k = N := by omega
        rw [Nat.sub_self] at hspec
        have HSP := show Hid ((acc, b, 0) = R) from hspec
        have HRL := show Hid _ from hrel
        clear hspec hrel
        go_wp2_with (go_at_call 76; refine (rErr_any g b 0 ax cx _ HRL.out.rd).mono ?_; rintro x w4 ⟨rfl, hw4⟩; have hw5 := hw4.symm; clear hw4; subst hw5)
        go_ret2
        rw [← HSP.out]
        exact ⟨_, rfl, HRL.out.own, HRL.out.but, fun _ => ⟨_, _, HRL.out.rd⟩⟩
  · have hz := hN0 h0
    subst hz
    have HR1 : Hid (([], b1, e1) = R) := by unfold Hid; rw [HRD.out, if_neg h0]
    clear HRD hN0
    go_enter Try.func67, Try.ntmps67
    go_wp2_with (go_at_call 73; refine Calls.mono HC.out ?_; rintro x w1 ⟨rfl, hn1⟩; obtain ⟨a1, c1, hr1, hbt1, hnr1⟩ := Nx.near hn1 HNE.out; have HRd1 := show Hid (Rd w1 g b1 e1 a1 c1) from hr1; have HB1 := show Hid (But g w w1) from hbt1; clear hn1 hr1 hbt1 hnr1)
    go_loopw [6, 15] (fun v i wr => v = .slice none 0 0 ∧ i = .int .u64 0 ∧ wr = w1) (fun _ _ _ => 0)
    case atStart => exact ⟨rfl, rfl, rfl⟩
    case round =>
      obtain ⟨rfl, rfl, rfl⟩ := hrel
      go_wp2_with (go_at_call 76; refine (rErr_any g b1 e1 a1 c1 _ HRd1.out).mono ?_; rintro x w4 ⟨rfl, hw4⟩; have hw5 := hw4.symm; clear hw4; subst hw5)
      go_ret2
      rw [← HR1.out]
      exact RPost.err h0 HB1.out
end Go.Proofs.Ytpplnomomcdemaa
