/-
  names (40, 42, 43): the walk.
-/
import Derived.Test.YtiihdhnmgbhgkaaPL
namespace Go.Proofs.Ytiihdhnmgbhgkaa
open Go.RowKit Go.Maps Go.Sort Dsk
attribute [local go_sem] Oper.semAt_some
theorem compact_nodup {l : List Nm} (h : l.Nodup) : Lib.compact l = l := by
  unfold Lib.compact
  have e := Lib.compactUpTo_all l.toArray l.length (fun j hj => by
    by_cases h0 : j = 0
    · simp [Lib.keeps, h0]
    · refine Lib.keeps_pos (fun e => ?_)
      have h1 : j < l.length := hj
      have h2 : j - 1 < l.length := by omega
      have e1 : l[j] = l[j - 1] := by simpa [getElem!_pos, h1, h2] using e
      have := (List.getElem_inj h).1 e1
      omega)
  rw [e]
  have := Lib.range_map_get l.toArray
  simpa using this
structure NmR (T : List (Nm × Value)) (w w' : World) (v : Value) (ss : List Nm) : Prop where
  own : OwnL w' w.heap.size 9 1 v (stL ss)
  aft : After w w'
  nod : ss.Nodup
  iff : ∀ s, s ∈ ss ↔ ∃ e ∈ T, e.1 = s
theorem NmR.few {T : List (Nm × Value)} {w w' : World} {v : Value} {ss : List Nm} (h : NmR T w w' v ss) : ss.length ≤ T.length := by
  have := nodup_sub (m := T.map (·.1)) h.nod (fun s hs => by obtain ⟨e, he, rfl⟩ := (h.iff s).1 hs; exact List.mem_map_of_mem he)
  rwa [List.length_map] at this
theorem NmI.done {T : List (Nm × Value)} {w : World} {mb r : Nat} {left : Lit → Bool} {cnt : Nat} {ss : List Nm} {v : Value} {wr : World} (h : NmI T w mb r left cnt ss v wr) (hl : ∀ kl, left kl = false) : NmR T w wr v ss :=
  ⟨h.own, h.aft, h.nod, fun s => ⟨fun hs => (h.in_ s hs).1, fun ⟨e, he, q⟩ => by
    rcases h.all e he with h1 | h1
    · rw [hl] at h1; cases h1
    · rw [← q]; exact h1⟩⟩
theorem x_idx102 {oi : Oper} {a : Act} {w : World} {x y : Operand} {b : Nat} (hop : oi.op = .indexAddr 102 x y) (hx : a.eval x = .slice (some ⟨b, 0, none⟩) 1 1) (hy : a.eval y = .int .i64 0) : (execOp a.eval oi).run Try.prog w = .ok (.value (.pointer (some ⟨b, 0, none⟩))) w := by
  have hz0 : (Try.prog.info? 72).map (·.size) = some 1 := by kernel_rfl
  obtain ⟨i, hi, hz⟩ := Option.map_eq_some_iff.1 hz0
  unfold execOp; simp only [hop, hx, hy]; simp [go_sem, hi, hz, sizeOf, typeInfo]
set_option maxRecDepth 100000 in
set_option maxHeartbeats 6400000 in
theorem names43 {w : World} {gs mb : Nat} {T : List (Nm × Value)} (hc : w.cell? ⟨gs, 0, none⟩ = some (.map (some mb))) (hm : MpAt w mb T) (hT : T.length ≤ 1000000) :
    Calls Try.prog 43 #[.slice (some ⟨gs, 0, none⟩) 1 1] w fun e w' => ∃ v, e = .returned v ∧ ∃ ss : List Nm, NmR T w w' v (ss.mergeSort fun x y => decide (x ≤ y)) := by
  have HM : Hid (MpAt w mb T ∧ T.length ≤ 1000000) := ⟨hm, hT⟩
  clear hm hT
  go_enter Try.func43, Try.ntmps43
  go_wp2_with fail
  go_loopw [3, 9] (fun lv iv wr => (iv = .int .i64 0 ∧ lv = .slice none 0 0 ∧ wr = w) ∨ (iv = .int .i64 1 ∧ ∃ la ln lc, lv = .slice la ln lc ∧ ∃ ss, Hid (NmR T w wr (.slice la ln lc) ss))) (fun _ iv _ => 1 - (intOf iv).toNat)
  case atStart => exact .inl ⟨rfl, rfl, rfl⟩
  case round =>
    rcases hrel with ⟨rfl, rfl, rfl⟩ | ⟨rfl, la, ln, lc, rfl, ss, HR⟩
    · go_wp2_with (first
        | (refine wpList_of_run rfl (x_idx102 (x := .tmp 7) (y := .tmp 9) (b := gs) rfl (by kernel_rfl) (by kernel_rfl)) ?_)
        | (at_range; refine wpList_range_own _ rfl _ 72 rfl 9 75 law9 Try.underlying72 Rv mb T.length (.map (toE T)) rfl HM.out.1.own ?_; intro w2 hrg0 hgr0 hs0))
      go_frame
      obtain ⟨r, hr⟩ : ∃ r, wr.heap.size = r := ⟨_, rfl⟩
      rw [hr] at hrg0
      rw [hr]
      have HI0 : Hid (NmI T wr mb r (fun kl => Maps.has (.map (toE T)) kl) (Maps.size (.map (toE T))) [] (.slice none 0 0) w2) := by
        refine ⟨hrg0, ⟨hgr0.os, hgr0.tape, hgr0.output, hgr0.size, fun k hk => hgr0.block k hk (by simp)⟩, OwnL.nil _ _ _ _, fun e he => .inl ?_, fun s hs => by simp at hs, List.Pairwise.nil⟩
        show Maps.has (.map (toE T)) (.string e.1) = true
        rw [has_E, fhas_get (rising_get HM.out.1.ris (nm := e.1) (x := e.2) he)]
      have HRB : Hid (wr.heap.size ≤ r ∧ mb < wr.heap.size) := ⟨by omega, HM.out.1.own.lt⟩
      clear hrg0 hgr0 hs0 hr
      obtain ⟨w, hw⟩ : ∃ w, w = wr := ⟨_, rfl⟩
      subst hw
      go_loopw [3] (fun lv wr => ∃ left cnt ss la ln lc, lv = .slice la ln lc ∧ Hid (NmI T w mb r left cnt ss (.slice la ln lc) wr)) (fun _ wr => wr.rangeLeft mb r)
      case atStart => exact ⟨_, _, _, none, 0, 0, rfl, HI0⟩
      case round =>
        clear HI0
        obtain ⟨left, cnt, ss, la, ln, lc, rfl, HI⟩ := hrel
        go_wp2_with (first | (at_next; refine wpList_next_strs rfl _ rfl mb r T.length T left cnt rfl HI.out.rng ?_ ?_) | fail)
        · intro hl0
          have HD := show Hid (NmR T w wr (.slice la ln lc) ss) from HI.out.done hl0
          clear hl0
          go_wp2_with fail
          go_roundw
          case rel => exact .inr ⟨by go_num, la, ln, lc, rfl, ss, HD⟩
          case measure => simp [intOf]
        · intro nm u w1 cnt1 hg hlk hrg hlt hgr hsz hen
          obtain ⟨na, nn, nc, w3, hap, hnx⟩ := HI.out.next HM.out.2 hg hlk hrg hgr HRB.out.1 HRB.out.2
          have HAP := show Hid _ from hap
          have HNX := show Hid _ from hnx
          have HCN : Hid (cnt1 < cnt) := hlt
          clear hap hnx hg hlk hrg hgr hsz hlt
          go_wp2_with (first
            | (refine wpList_of_run rfl (x_bs38_1 (x := .tmp 20) (s := strOf nm) rfl (by kernel_rfl)) ?_)
            | (refine wpList_of_run rfl (x_app38 (s := .tmp 19) (x := .tmp 21) rfl (by kernel_rfl) (by kernel_rfl) HAP.out) ?_))
          go_roundw
          case rel => exact ⟨_, _, _, na, nn, nc, rfl, HNX⟩
          case measure => rw [HNX.out.rng.left_eq, HI.out.rng.left_eq]; exact HCN.out
    · have HL : Hid (ss.length ≤ 1000000 ∧ (ss.mergeSort fun x y => decide (x ≤ y)).length ≤ 1000000 ∧ (ss.mergeSort fun x y => decide (x ≤ y)).Nodup) := by
        have := HR.out.few
        have := HM.out.2
        exact ⟨by omega, by rw [List.length_mergeSort]; omega, (List.mergeSort_perm ss _).nodup_iff.2 HR.out.nod⟩
      go_wp2_with (first
        | (go_at_call 57; refine Calls.mono (sort57_own HR.out.own HL.out.1) ?_; rintro e w5 ⟨rfl, ho5, hg5⟩; have H5 := show Hid (OwnL w5 w.heap.size 9 1 (.slice la ln lc) (stL (ss.mergeSort fun x y => decide (x ≤ y))) ∧ After w w5) from ⟨ho5, grown_after HR.out.aft HR.out.own.2 (Nat.le_refl _) hg5⟩; clear ho5 hg5)
        | (go_at_call 58; refine Calls.mono (compact58_own H5.out.1 HL.out.2.1 (compact_nodup HL.out.2.2)) ?_; rintro e w6 ⟨rfl, ho6, hg6⟩; have H6 := show Hid (OwnL w6 w.heap.size 9 1 (.slice la ln lc) (stL (ss.mergeSort fun x y => decide (x ≤ y))) ∧ After w w6) from ⟨ho6, grown_after H5.out.2 H5.out.1.2 (Nat.le_refl _) hg6⟩; clear ho6 hg6))
      go_ret
      exact ⟨_, rfl, ss, H6.out.1, H6.out.2, HL.out.2.2, fun s => by rw [List.mem_mergeSort]; exact HR.out.iff s⟩
theorem x_idx99 {oi : Oper} {a : Act} {w : World} {x y : Operand} {b : Nat} (hop : oi.op = .indexAddr 99 x y) (hx : a.eval x = .slice (some ⟨b, 0, none⟩) 1 1) (hy : a.eval y = .int .i64 0) : (execOp a.eval oi).run Try.prog w = .ok (.value (.pointer (some ⟨b, 0, none⟩))) w := by
  have hz0 : (Try.prog.info? 76).map (·.size) = some 1 := by kernel_rfl
  obtain ⟨i, hi, hz⟩ := Option.map_eq_some_iff.1 hz0
  unfold execOp; simp only [hop, hx, hy]; simp [go_sem, hi, hz, sizeOf, typeInfo]
set_option maxRecDepth 100000 in
set_option maxHeartbeats 6400000 in
theorem names40 {w : World} {gs mb : Nat} {T : List (Nm × Value)} (hc : w.cell? ⟨gs, 0, none⟩ = some (.map (some mb))) (hm : MpAt w mb T) (hT : T.length ≤ 1000000) :
    Calls Try.prog 40 #[.slice (some ⟨gs, 0, none⟩) 1 1] w fun e w' => ∃ v, e = .returned v ∧ ∃ ss : List Nm, NmR T w w' v (ss.mergeSort fun x y => decide (x ≤ y)) := by
  have HM : Hid (MpAt w mb T ∧ T.length ≤ 1000000) := ⟨hm, hT⟩
  clear hm hT
  go_enter Try.func40, Try.ntmps40
  go_wp2_with fail
  go_loopw [3, 9] (fun lv iv wr => (iv = .int .i64 0 ∧ lv = .slice none 0 0 ∧ wr = w) ∨ (iv = .int .i64 1 ∧ ∃ la ln lc, lv = .slice la ln lc ∧ ∃ ss, Hid (NmR T w wr (.slice la ln lc) ss))) (fun _ iv _ => 1 - (intOf iv).toNat)
  case atStart => exact .inl ⟨rfl, rfl, rfl⟩
  case round =>
    rcases hrel with ⟨rfl, rfl, rfl⟩ | ⟨rfl, la, ln, lc, rfl, ss, HR⟩
    · go_wp2_with (first
        | (refine wpList_of_run rfl (x_idx99 (x := .tmp 7) (y := .tmp 9) (b := gs) rfl (by kernel_rfl) (by kernel_rfl)) ?_)
        | (at_range; refine wpList_range_own _ rfl _ 76 rfl 9 40 law9 Try.underlying76 Rv mb T.length (.map (toE T)) rfl HM.out.1.own ?_; intro w2 hrg0 hgr0 hs0))
      go_frame
      obtain ⟨r, hr⟩ : ∃ r, wr.heap.size = r := ⟨_, rfl⟩
      rw [hr] at hrg0
      rw [hr]
      have HI0 : Hid (NmI T wr mb r (fun kl => Maps.has (.map (toE T)) kl) (Maps.size (.map (toE T))) [] (.slice none 0 0) w2) := by
        refine ⟨hrg0, ⟨hgr0.os, hgr0.tape, hgr0.output, hgr0.size, fun k hk => hgr0.block k hk (by simp)⟩, OwnL.nil _ _ _ _, fun e he => .inl ?_, fun s hs => by simp at hs, List.Pairwise.nil⟩
        show Maps.has (.map (toE T)) (.string e.1) = true
        rw [has_E, fhas_get (rising_get HM.out.1.ris (nm := e.1) (x := e.2) he)]
      have HRB : Hid (wr.heap.size ≤ r ∧ mb < wr.heap.size) := ⟨by omega, HM.out.1.own.lt⟩
      clear hrg0 hgr0 hs0 hr
      obtain ⟨w, hw⟩ : ∃ w, w = wr := ⟨_, rfl⟩
      subst hw
      go_loopw [3] (fun lv wr => ∃ left cnt ss la ln lc, lv = .slice la ln lc ∧ Hid (NmI T w mb r left cnt ss (.slice la ln lc) wr)) (fun _ wr => wr.rangeLeft mb r)
      case atStart => exact ⟨_, _, _, none, 0, 0, rfl, HI0⟩
      case round =>
        clear HI0
        obtain ⟨left, cnt, ss, la, ln, lc, rfl, HI⟩ := hrel
        go_wp2_with (first | (at_next; refine wpList_next_strs rfl _ rfl mb r T.length T left cnt rfl HI.out.rng ?_ ?_) | fail)
        · intro hl0
          have HD := show Hid (NmR T w wr (.slice la ln lc) ss) from HI.out.done hl0
          clear hl0
          go_wp2_with fail
          go_roundw
          case rel => exact .inr ⟨by go_num, la, ln, lc, rfl, ss, HD⟩
          case measure => simp [intOf]
        · intro nm u w1 cnt1 hg hlk hrg hlt hgr hsz hen
          obtain ⟨na, nn, nc, w3, hap, hnx⟩ := HI.out.next HM.out.2 hg hlk hrg hgr HRB.out.1 HRB.out.2
          have HAP := show Hid _ from hap
          have HNX := show Hid _ from hnx
          have HCN : Hid (cnt1 < cnt) := hlt
          clear hap hnx hg hlk hrg hgr hsz hlt
          go_wp2_with (first
            | (refine wpList_of_run rfl (x_bs38_1 (x := .tmp 20) (s := strOf nm) rfl (by kernel_rfl)) ?_)
            | (refine wpList_of_run rfl (x_app38 (s := .tmp 19) (x := .tmp 21) rfl (by kernel_rfl) (by kernel_rfl) HAP.out) ?_))
          go_roundw
          case rel => exact ⟨_, _, _, na, nn, nc, rfl, HNX⟩
          case measure => rw [HNX.out.rng.left_eq, HI.out.rng.left_eq]; exact HCN.out
    · have HL : Hid (ss.length ≤ 1000000 ∧ (ss.mergeSort fun x y => decide (x ≤ y)).length ≤ 1000000 ∧ (ss.mergeSort fun x y => decide (x ≤ y)).Nodup) := by
        have := HR.out.few
        have := HM.out.2
        exact ⟨by omega, by rw [List.length_mergeSort]; omega, (List.mergeSort_perm ss _).nodup_iff.2 HR.out.nod⟩
      go_wp2_with (first
        | (go_at_call 57; refine Calls.mono (sort57_own HR.out.own HL.out.1) ?_; rintro e w5 ⟨rfl, ho5, hg5⟩; have H5 := show Hid (OwnL w5 w.heap.size 9 1 (.slice la ln lc) (stL (ss.mergeSort fun x y => decide (x ≤ y))) ∧ After w w5) from ⟨ho5, grown_after HR.out.aft HR.out.own.2 (Nat.le_refl _) hg5⟩; clear ho5 hg5)
        | (go_at_call 58; refine Calls.mono (compact58_own H5.out.1 HL.out.2.1 (compact_nodup HL.out.2.2)) ?_; rintro e w6 ⟨rfl, ho6, hg6⟩; have H6 := show Hid (OwnL w6 w.heap.size 9 1 (.slice la ln lc) (stL (ss.mergeSort fun x y => decide (x ≤ y))) ∧ After w w6) from ⟨ho6, grown_after H5.out.2 H5.out.1.2 (Nat.le_refl _) hg6⟩; clear ho6 hg6))
      go_ret
      exact ⟨_, rfl, ss, H6.out.1, H6.out.2, HL.out.2.2, fun s => by rw [List.mem_mergeSort]; exact HR.out.iff s⟩
theorem x_idx101 {oi : Oper} {a : Act} {w : World} {x y : Operand} {b : Nat} (hop : oi.op = .indexAddr 101 x y) (hx : a.eval x = .slice (some ⟨b, 0, none⟩) 1 1) (hy : a.eval y = .int .i64 0) : (execOp a.eval oi).run Try.prog w = .ok (.value (.pointer (some ⟨b, 0, none⟩))) w := by
  have hz0 : (Try.prog.info? 78).map (·.size) = some 1 := by kernel_rfl
  obtain ⟨i, hi, hz⟩ := Option.map_eq_some_iff.1 hz0
  unfold execOp; simp only [hop, hx, hy]; simp [go_sem, hi, hz, sizeOf, typeInfo]
set_option maxRecDepth 100000 in
set_option maxHeartbeats 6400000 in
theorem names42 {w : World} {gs mb : Nat} {T : List (Nm × Value)} (hc : w.cell? ⟨gs, 0, none⟩ = some (.map (some mb))) (hm : MpAt w mb T) (hT : T.length ≤ 1000000) :
    Calls Try.prog 42 #[.slice (some ⟨gs, 0, none⟩) 1 1] w fun e w' => ∃ v, e = .returned v ∧ ∃ ss : List Nm, NmR T w w' v (ss.mergeSort fun x y => decide (x ≤ y)) := by
  have HM : Hid (MpAt w mb T ∧ T.length ≤ 1000000) := ⟨hm, hT⟩
  clear hm hT
  go_enter Try.func42, Try.ntmps42
  go_wp2_with fail
  go_loopw [3, 9] (fun lv iv wr => (iv = .int .i64 0 ∧ lv = .slice none 0 0 ∧ wr = w) ∨ (iv = .int .i64 1 ∧ ∃ la ln lc, lv = .slice la ln lc ∧ ∃ ss, Hid (NmR T w wr (.slice la ln lc) ss))) (fun _ iv _ => 1 - (intOf iv).toNat)
  case atStart => exact .inl ⟨rfl, rfl, rfl⟩
  case round =>
    rcases hrel with ⟨rfl, rfl, rfl⟩ | ⟨rfl, la, ln, lc, rfl, ss, HR⟩
    · go_wp2_with (first
        | (refine wpList_of_run rfl (x_idx101 (x := .tmp 7) (y := .tmp 9) (b := gs) rfl (by kernel_rfl) (by kernel_rfl)) ?_)
        | (at_range; refine wpList_range_own _ rfl _ 78 rfl 9 55 law9 Try.underlying78 Rv mb T.length (.map (toE T)) rfl HM.out.1.own ?_; intro w2 hrg0 hgr0 hs0))
      go_frame
      obtain ⟨r, hr⟩ : ∃ r, wr.heap.size = r := ⟨_, rfl⟩
      rw [hr] at hrg0
      rw [hr]
      have HI0 : Hid (NmI T wr mb r (fun kl => Maps.has (.map (toE T)) kl) (Maps.size (.map (toE T))) [] (.slice none 0 0) w2) := by
        refine ⟨hrg0, ⟨hgr0.os, hgr0.tape, hgr0.output, hgr0.size, fun k hk => hgr0.block k hk (by simp)⟩, OwnL.nil _ _ _ _, fun e he => .inl ?_, fun s hs => by simp at hs, List.Pairwise.nil⟩
        show Maps.has (.map (toE T)) (.string e.1) = true
        rw [has_E, fhas_get (rising_get HM.out.1.ris (nm := e.1) (x := e.2) he)]
      have HRB : Hid (wr.heap.size ≤ r ∧ mb < wr.heap.size) := ⟨by omega, HM.out.1.own.lt⟩
      clear hrg0 hgr0 hs0 hr
      obtain ⟨w, hw⟩ : ∃ w, w = wr := ⟨_, rfl⟩
      subst hw
      go_loopw [3] (fun lv wr => ∃ left cnt ss la ln lc, lv = .slice la ln lc ∧ Hid (NmI T w mb r left cnt ss (.slice la ln lc) wr)) (fun _ wr => wr.rangeLeft mb r)
      case atStart => exact ⟨_, _, _, none, 0, 0, rfl, HI0⟩
      case round =>
        clear HI0
        obtain ⟨left, cnt, ss, la, ln, lc, rfl, HI⟩ := hrel
        go_wp2_with (first | (at_next; refine wpList_next_strs rfl _ rfl mb r T.length T left cnt rfl HI.out.rng ?_ ?_) | fail)
        · intro hl0
          have HD := show Hid (NmR T w wr (.slice la ln lc) ss) from HI.out.done hl0
          clear hl0
          go_wp2_with fail
          go_roundw
          case rel => exact .inr ⟨by go_num, la, ln, lc, rfl, ss, HD⟩
          case measure => simp [intOf]
        · intro nm u w1 cnt1 hg hlk hrg hlt hgr hsz hen
          obtain ⟨na, nn, nc, w3, hap, hnx⟩ := HI.out.next HM.out.2 hg hlk hrg hgr HRB.out.1 HRB.out.2
          have HAP := show Hid _ from hap
          have HNX := show Hid _ from hnx
          have HCN : Hid (cnt1 < cnt) := hlt
          clear hap hnx hg hlk hrg hgr hsz hlt
          go_wp2_with (first
            | (refine wpList_of_run rfl (x_bs38_1 (x := .tmp 20) (s := strOf nm) rfl (by kernel_rfl)) ?_)
            | (refine wpList_of_run rfl (x_app38 (s := .tmp 19) (x := .tmp 21) rfl (by kernel_rfl) (by kernel_rfl) HAP.out) ?_))
          go_roundw
          case rel => exact ⟨_, _, _, na, nn, nc, rfl, HNX⟩
          case measure => rw [HNX.out.rng.left_eq, HI.out.rng.left_eq]; exact HCN.out
    · have HL : Hid (ss.length ≤ 1000000 ∧ (ss.mergeSort fun x y => decide (x ≤ y)).length ≤ 1000000 ∧ (ss.mergeSort fun x y => decide (x ≤ y)).Nodup) := by
        have := HR.out.few
        have := HM.out.2
        exact ⟨by omega, by rw [List.length_mergeSort]; omega, (List.mergeSort_perm ss _).nodup_iff.2 HR.out.nod⟩
      go_wp2_with (first
        | (go_at_call 57; refine Calls.mono (sort57_own HR.out.own HL.out.1) ?_; rintro e w5 ⟨rfl, ho5, hg5⟩; have H5 := show Hid (OwnL w5 w.heap.size 9 1 (.slice la ln lc) (stL (ss.mergeSort fun x y => decide (x ≤ y))) ∧ After w w5) from ⟨ho5, grown_after HR.out.aft HR.out.own.2 (Nat.le_refl _) hg5⟩; clear ho5 hg5)
        | (go_at_call 58; refine Calls.mono (compact58_own H5.out.1 HL.out.2.1 (compact_nodup HL.out.2.2)) ?_; rintro e w6 ⟨rfl, ho6, hg6⟩; have H6 := show Hid (OwnL w6 w.heap.size 9 1 (.slice la ln lc) (stL (ss.mergeSort fun x y => decide (x ≤ y))) ∧ After w w6) from ⟨ho6, grown_after H5.out.2 H5.out.1.2 (Nat.le_refl _) hg6⟩; clear ho6 hg6))
      go_ret
      exact ⟨_, rfl, ss, H6.out.1, H6.out.2, HL.out.2.2, fun s => by rw [List.mem_mergeSort]; exact HR.out.iff s⟩
end Go.Proofs.Ytiihdhnmgbhgkaa
