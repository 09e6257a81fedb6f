/-
  The reference's tree: below (46), one step of it.
-/
import Derived.Test.YtiglenomigipmaaST
namespace Go.Proofs.Ytiglenomigipmaa
open Go.RowKit Go.Shelf
attribute [local go_sem] Oper.semAt_some
set_option maxRecDepth 100000 in
set_option maxHeartbeats 6400000 in
theorem below_step {w : World} {base : Nat} {v : Value} {l : List RC} {F : RC → List RC} (h : RowR w base v l) {x : Idn} (hx : x.Ok) (hl : l.length ≤ 1000) (hF : ((kids l x).flatMap (fun k => k :: F k)).length ≤ 100000)
    (hrec : ∀ k ∈ kids l x, ∀ w1, After w w1 → Calls Try.prog 46 #[.agg #[v], idv k.id] w1 fun e w' => ∃ v', e = .returned v' ∧ RowR w' w1.heap.size v' (F k) ∧ After w1 w') :
    Calls Try.prog 46 #[.agg #[v], idv x] w fun e w' => ∃ v', e = .returned v' ∧ RowR w' w.heap.size v' ((kids l x).flatMap (fun k => k :: F k)) ∧ After w w' := by
  obtain ⟨va, cap, rfl⟩ := h.sl
  obtain ⟨W0, hW0⟩ : ∃ W0, (w.alloc (.cells #[.slice va l.length cap] 29)).alloc (.cells (idc x).toArray 40) = W0 := ⟨_, rfl⟩
  have HA : Hid (After w W0 ∧ RowIs W0 w.heap.size 29 [.slice va l.length cap] ∧ RowIs W0 (w.heap.size + 1) 40 (idc x)) := by
    rw [← hW0]
    refine ⟨after_alloc (after_alloc (After.refl w) _) _, (RowIs.new w 29 [.slice va l.length cap]).alloc _, ?_⟩
    have := RowIs.new (w.alloc (.cells #[.slice va l.length cap] 29)) 40 (idc x)
    rwa [World.size_alloc] at this
  have HR : Hid (RowR w base (.slice va l.length cap) l ∧ l.length ≤ 1000) := ⟨h, hl⟩
  have HREC : Hid (∀ k ∈ kids l x, ∀ w1, After w w1 → Calls Try.prog 46 #[.agg #[.slice va l.length cap], idv k.id] w1 fun e w' => ∃ v', e = .returned v' ∧ RowR w' w1.heap.size v' (F k) ∧ After w1 w') := hrec
  have HX : Hid x.Ok := hx
  have HFL : Hid (((kids l x).flatMap (fun k => k :: F k)).length ≤ 100000) := hF
  obtain ⟨n, hn⟩ : ∃ n, l.length = n := ⟨_, rfl⟩
  rw [hn] at HA HR hW0 HREC ⊢
  have HN : Hid (l.length = n) := hn
  have hn6 : n ≤ 1000 := HR.out.2
  clear h hx hl hn hF hrec
  unfold idv
  go_enter Try.func46, Try.ntmps46
  go_wp2_with (rw [hW0])
  clear hW0
  go_loopw [5, 6] (fun vk vi wr => ∃ (i : Nat) (ka : Option Addr) (m kc : Nat), vi = .int .i64 (i : Int) ∧ vk = .slice ka m kc ∧ i ≤ n ∧ m ≤ i ∧ Hid (RowR wr W0.heap.size (.slice ka m kc) (kids (l.take i) x) ∧ After W0 wr)) (fun _ vi _ => n - (intOf vi).toNat)
  case atStart => exact ⟨0, none, 0, 0, rfl, rfl, Nat.zero_le _, Nat.le_refl _, RowR.nil _ _, After.refl W0⟩
  case round =>
    obtain ⟨i, ka, m, kc, rfl, rfl, hin, hmi, HI⟩ := hrel
    obtain ⟨wo, hwo⟩ : ∃ wo, wo = wr := ⟨_, rfl⟩
    subst hwo
    have HB : Hid (RowIs wo w.heap.size 29 [.slice va n cap] ∧ RowIs wo (w.heap.size + 1) 40 (idc x)) := ⟨HA.out.2.1.below HI.out.2 HA.out.2.1.lt, HA.out.2.2.below HI.out.2 HA.out.2.2.lt⟩
    have cB : wo.cell? ⟨w.heap.size, 0, none⟩ = some (.slice va n cap) := HB.out.1.cell rfl
    by_cases hlt : i < n
    · have hii : (i : Int) < (n : Int) := by omega
      obtain ⟨c, hc⟩ : ∃ c, l[i]? = some c := ⟨_, List.getElem?_eq_getElem (by have := HN.out; omega)⟩
      have HRW : Hid (RowR wo base (.slice va n cap) l) := HR.out.1.after (HA.out.1.trans HI.out.2)
      obtain ⟨gs, hva, -, hr⟩ := HRW.out.at hc
      rw [Nat.zero_add] at hr
      subst hva
      obtain ⟨W2, hW2⟩ : ∃ W2, (wo.alloc (.cells (rcell zRC).toArray 68)).setRow wo.heap.size (rcell c).toArray = W2 := ⟨_, rfl⟩
      have HC : Hid (l[i]? = some c ∧ c.Ok ∧ wo.rangeAt gs (i * 68) (rcell c) ∧ i < n) := ⟨hc, HRW.out.1 c (List.mem_of_getElem? hc), hr, hlt⟩
      have HZ : Hid (RowIs (wo.alloc (.cells (rcell zRC).toArray 68)) wo.heap.size 68 (rcell zRC)) := RowIs.new wo 68 (rcell zRC)
      have H2 : Hid (After wo W2 ∧ RowIs W2 wo.heap.size 68 (rcell c) ∧ RowIs W2 w.heap.size 29 [.slice (some ⟨gs, 0, none⟩) n cap] ∧ RowIs W2 (w.heap.size + 1) 40 (idc x)) := by
        have ha : After wo W2 := by rw [← hW2]; exact Below.row (after_alloc (After.refl wo) _) (Nat.le_refl _) _
        exact ⟨ha, by rw [← hW2]; exact HZ.out.setRow _, HB.out.1.below ha HB.out.1.lt, HB.out.2.below ha HB.out.2.lt⟩
      have HG2 := show Hid _ from hW2
      clear hc hr hW2
      obtain ⟨go, hgo⟩ : ∃ go, wo.heap.size = go := ⟨_, rfl⟩
      have HGO : Hid (wo.heap.size = go) := hgo
      rw [hgo] at H2 HZ HG2
      by_cases hE : c.af = x
      · have HEQ : Hid ((!decide (c.af = x)) = false) := by unfold Hid; simp [hE]
        have HKS : Hid (kids (l.take (i + 1)) x = gIns RC.id c (kids (l.take i) x)) := by show _ = _; rw [kids_snoc HC.out.1, if_pos hE]
        clear hE
        go_wp2_with (first
          | (refine wpList_of_run rfl (x_idx27 (x := .tmp 20) (y := .tmp 21) (b := gs) (f := 0) (n := n) (c := cap) (k := i) rfl (by kernel_rfl) (by kernel_rfl) HC.out.2.2.2) ?_; rw [Nat.zero_add])
          | (refine wpList_of_run rfl (x_ld68m (x := .tmp 22) (g := gs) (p := i * 68) (c := c) HC.out.2.1 rfl (by kernel_rfl) HC.out.2.2.1) ?_)
          | (refine wpList_of_run rfl ((x_al68 rfl).trans (by rw [HGO.out])) ?_)
          | (refine wpList_store_row rfl 68 (.tmp 7) (.tmp 23) rfl go (rcell c).toArray rfl rfl 68 _ HZ.out (size68 HC.out.2.1) (by simp [rcell_len HC.out.2.1, rcell_len zRC_ok]) (by simpa using rcell_one c) ?_; rw [HG2.out])
          | (refine wpList_of_run rfl (x_ld40m (x := .tmp 24) (g := go) (p := 33) (y := c.af) HC.out.2.1.af rfl (by kernel_rfl) (by have := range_raf HC.out.2.1 H2.out.2.1.range0; rwa [Nat.zero_add] at this)) ?_)
          | (refine wpList_load_row rfl 40 (.tmp 3) rfl (w.heap.size + 1) rfl 40 (idc x).toArray (0, 0) _ H2.out.2.2.2 Try.underlying40 rfl (size40 HX.out) ?_)
          | (refine wpList_of_run rfl (x_neId40 (x := .tmp 25) (y := .tmp 26) (h := c.af) (k := x) HC.out.2.1.af HX.out rfl (by kernel_rfl) (by kernel_rfl)) ?_; rw [HEQ.out]))
        go_loopw [8] (fun vk wk => ∃ k : Nat, vk = .int .i64 (k : Int) ∧ k ≤ m ∧ Hid ((∀ (j : Nat) (d : RC), j < k → (kids (l.take i) x)[j]? = some d → ltI c.id d.id = true) ∧ After W2 wk)) (fun vk _ => m - (intOf vk).toNat)
        case atStart => exact ⟨0, rfl, Nat.zero_le _, fun j d hj => absurd hj (Nat.not_lt_zero _), After.refl W2⟩
        case round =>
          obtain ⟨wk, hwk⟩ : ∃ wk, wk = wr := ⟨_, rfl⟩
          subst hwk
          obtain ⟨k, rfl, hkm, HJ⟩ := hrel
          have HKK : Hid (RowR wk W0.heap.size (.slice ka m kc) (kids (l.take i) x) ∧ RowIs wk go 68 (rcell c) ∧ After wo wk ∧ (kids (l.take i) x).length = m ∧ m ≤ kc ∧ (ka = none → kc = 0)) := ⟨HI.out.1.after (H2.out.1.trans HJ.out.2), H2.out.2.1.below HJ.out.2 H2.out.2.1.lt, H2.out.1.trans HJ.out.2, HI.out.1.cap⟩
          by_cases hklt : k < m
          · obtain ⟨d, hd⟩ : ∃ d, (kids (l.take i) x)[k]? = some d := ⟨_, List.getElem?_eq_getElem (by rw [HKK.out.2.2.2.1]; exact hklt)⟩
            obtain ⟨gk, hka, -, hrk⟩ := HKK.out.1.at hd
            subst hka
            rw [Nat.zero_add] at hrk
            have HD : Hid ((kids (l.take i) x)[k]? = some d ∧ d.id.Ok ∧ wk.rangeAt gk (k * 68) (idc d.id) ∧ k < m) := ⟨hd, (HKK.out.1.1 d (List.mem_of_getElem? hd)).id, range_rid hrk, hklt⟩
            clear hd hrk
            cases hL : ltI c.id d.id with
            | true =>
              have HL : Hid (ltI c.id d.id = true) := hL
              clear hL
              have HJ2 : Hid (∀ (j : Nat) (e : RC), j < k + 1 → (kids (l.take i) x)[j]? = some e → ltI c.id e.id = true) := fun j e hj he => by
                by_cases q : j = k
                · subst q; have := HD.out.1; rw [he] at this; cases this; exact HL.out
                · exact HJ.out.1 j e (by omega) he
              go_wp2_with fail
              refine wp_region_noPanic ?_
              refine wp_region_held_drew (S := After wk) (by kernel_rfl) (After.drew (After.refl _)) ?_
              intro hS0
              refine tk 0 28 (.int .i64 (k : Int)) (fuel := 13) rfl (by kernel_rfl) (by kernel_rfl) (by kernel_rfl) (by kernel_rfl) noPanic_false (by kernel_rfl) (fun _ _ => by kernel_rfl) hS0 ?_
              refine tk 1 29 (.slice (some ⟨gk, 0, none⟩) m kc) (fuel := 12) rfl (by kernel_rfl) (by kernel_rfl) (by kernel_rfl) (by kernel_rfl) noPanic_false (by kernel_rfl) (fun _ _ => by kernel_rfl) hS0 ?_
              refine tk 2 30 (.int .i64 (m : Int)) (fuel := 11) rfl (by kernel_rfl) (by kernel_rfl) (by kernel_rfl) (by kernel_rfl) noPanic_false (by kernel_rfl) (fun _ _ => by kernel_rfl) hS0 ?_
              refine tk 3 31 (.bool true) (fuel := 10) rfl (by kernel_rfl) (by kernel_rfl) (by kernel_rfl) (by kernel_rfl) noPanic_false (by kernel_rfl) (fun W _ => (x_lss (x := .tmp 28) (y := .tmp 30) (p := k) (q := m) (by kernel_rfl) (by kernel_rfl) (by kernel_rfl)).trans (by rw [decide_eq_true HD.out.2.2.2])) hS0 ?_
              refine tk 4 32 (.bool true) (fuel := 9) rfl (by kernel_rfl) (by kernel_rfl) (by kernel_rfl) (by kernel_rfl) noPanic_false (by kernel_rfl) (fun _ _ => by kernel_rfl) hS0 ?_
              refine tk 5 33 (.pointer (some ⟨go, 0, none⟩)) (fuel := 8) rfl (by kernel_rfl) (by kernel_rfl) (by kernel_rfl) (by kernel_rfl) noPanic_false (by kernel_rfl) (fun _ _ => by kernel_rfl) hS0 ?_
              refine tk 6 34 (idv c.id) (fuel := 7) rfl (by kernel_rfl) (by kernel_rfl) (by kernel_rfl) (by kernel_rfl) noPanic_false (by kernel_rfl) (fun W hW => x_ld40m (x := .tmp 33) (g := go) (p := 0) HC.out.2.1.id (by kernel_rfl) (by kernel_rfl) (range_rid (HKK.out.2.1.below hW HKK.out.2.1.lt).range0)) hS0 ?_
              refine tk 7 35 (.slice (some ⟨gk, 0, none⟩) m kc) (fuel := 6) rfl (by kernel_rfl) (by kernel_rfl) (by kernel_rfl) (by kernel_rfl) noPanic_false (by kernel_rfl) (fun _ _ => by kernel_rfl) hS0 ?_
              refine tk 8 36 (.int .i64 (k : Int)) (fuel := 5) rfl (by kernel_rfl) (by kernel_rfl) (by kernel_rfl) (by kernel_rfl) noPanic_false (by kernel_rfl) (fun _ _ => by kernel_rfl) hS0 ?_
              refine tk 9 37 (.pointer (some ⟨gk, k * 68, none⟩)) (fuel := 4) rfl (by kernel_rfl) (by kernel_rfl) (by kernel_rfl) (by kernel_rfl) noPanic_false (by kernel_rfl) (fun W hW => (x_idx27 (x := .tmp 35) (y := .tmp 36) (b := gk) (f := 0) (n := m) (c := kc) (k := k) (by kernel_rfl) (by kernel_rfl) (by kernel_rfl) HD.out.2.2.2).trans (by rw [Nat.zero_add])) hS0 ?_
              refine tk 10 38 (.pointer (some ⟨gk, k * 68, none⟩)) (fuel := 3) rfl (by kernel_rfl) (by kernel_rfl) (by kernel_rfl) (by kernel_rfl) noPanic_false (by kernel_rfl) (fun _ _ => by kernel_rfl) hS0 ?_
              refine tk 11 39 (idv d.id) (fuel := 2) rfl (by kernel_rfl) (by kernel_rfl) (by kernel_rfl) (by kernel_rfl) noPanic_false (by kernel_rfl) (fun W hW => x_ld40m (x := .tmp 38) (g := gk) (p := k * 68) HD.out.2.1 (by kernel_rfl) (by kernel_rfl) (range_after HD.out.2.2.1 hW)) hS0 ?_
              refine tkCallZ 12 40 20 #[idv c.id, idv d.id] (fun v w' => v = .bool true ∧ After wk w') (fuel := 1) rfl (by kernel_rfl) (by kernel_rfl) (by kernel_rfl) (fun _ => by kernel_rfl) (Calls.mono (rlessI_any HC.out.2.1.id HD.out.2.1 _) (fun e w' ⟨he, ha⟩ => ⟨_, he, by rw [HL.out], hS0.trans ha⟩)) ?_
              intro v8 w8 ⟨hv8, ha8⟩
              subst hv8
              refine ⟨ha8, ?_⟩
              refine tk 13 41 (.bool true) (fuel := 0) rfl (by kernel_rfl) (by kernel_rfl) (by kernel_rfl) (by kernel_rfl) noPanic_false (by kernel_rfl) (fun _ _ => by kernel_rfl) ha8 ?_
              refine wpAnyH_done (by kernel_rfl) (NoPanic.normal ?_) _
              have H8 := show Hid (After wk w8) from ha8
              clear ha8 hS0
              go_simp
              go_wp2_with fail
              go_roundw
              case rel => exact ⟨k + 1, by go_num, by omega, HJ2.out, HJ.out.2.trans H8.out⟩
              case measure => simp [intOf]; omega
            | false =>
              have HL : Hid (ltI c.id d.id = false) := hL
              clear hL
              have HGI : Hid (kids (l.take (i + 1)) x = (kids (l.take i) x).take k ++ c :: (kids (l.take i) x).drop k) := by
                show _ = _
                rw [HKS.out]
                exact gIns_at (by rw [HKK.out.2.2.2.1]; omega) HJ.out.1 (fun e he => by rw [HD.out.1] at he; cases he; exact HL.out)
              go_wp2_with fail
              refine wp_region_noPanic ?_
              refine wp_region_held_drew (S := After wk) (by kernel_rfl) (After.drew (After.refl _)) ?_
              intro hS0
              refine tk 0 28 (.int .i64 (k : Int)) (fuel := 13) rfl (by kernel_rfl) (by kernel_rfl) (by kernel_rfl) (by kernel_rfl) noPanic_false (by kernel_rfl) (fun _ _ => by kernel_rfl) hS0 ?_
              refine tk 1 29 (.slice (some ⟨gk, 0, none⟩) m kc) (fuel := 12) rfl (by kernel_rfl) (by kernel_rfl) (by kernel_rfl) (by kernel_rfl) noPanic_false (by kernel_rfl) (fun _ _ => by kernel_rfl) hS0 ?_
              refine tk 2 30 (.int .i64 (m : Int)) (fuel := 11) rfl (by kernel_rfl) (by kernel_rfl) (by kernel_rfl) (by kernel_rfl) noPanic_false (by kernel_rfl) (fun _ _ => by kernel_rfl) hS0 ?_
              refine tk 3 31 (.bool true) (fuel := 10) rfl (by kernel_rfl) (by kernel_rfl) (by kernel_rfl) (by kernel_rfl) noPanic_false (by kernel_rfl) (fun W _ => (x_lss (x := .tmp 28) (y := .tmp 30) (p := k) (q := m) (by kernel_rfl) (by kernel_rfl) (by kernel_rfl)).trans (by rw [decide_eq_true HD.out.2.2.2])) hS0 ?_
              refine tk 4 32 (.bool true) (fuel := 9) rfl (by kernel_rfl) (by kernel_rfl) (by kernel_rfl) (by kernel_rfl) noPanic_false (by kernel_rfl) (fun _ _ => by kernel_rfl) hS0 ?_
              refine tk 5 33 (.pointer (some ⟨go, 0, none⟩)) (fuel := 8) rfl (by kernel_rfl) (by kernel_rfl) (by kernel_rfl) (by kernel_rfl) noPanic_false (by kernel_rfl) (fun _ _ => by kernel_rfl) hS0 ?_
              refine tk 6 34 (idv c.id) (fuel := 7) rfl (by kernel_rfl) (by kernel_rfl) (by kernel_rfl) (by kernel_rfl) noPanic_false (by kernel_rfl) (fun W hW => x_ld40m (x := .tmp 33) (g := go) (p := 0) HC.out.2.1.id (by kernel_rfl) (by kernel_rfl) (range_rid (HKK.out.2.1.below hW HKK.out.2.1.lt).range0)) hS0 ?_
              refine tk 7 35 (.slice (some ⟨gk, 0, none⟩) m kc) (fuel := 6) rfl (by kernel_rfl) (by kernel_rfl) (by kernel_rfl) (by kernel_rfl) noPanic_false (by kernel_rfl) (fun _ _ => by kernel_rfl) hS0 ?_
              refine tk 8 36 (.int .i64 (k : Int)) (fuel := 5) rfl (by kernel_rfl) (by kernel_rfl) (by kernel_rfl) (by kernel_rfl) noPanic_false (by kernel_rfl) (fun _ _ => by kernel_rfl) hS0 ?_
              refine tk 9 37 (.pointer (some ⟨gk, k * 68, none⟩)) (fuel := 4) rfl (by kernel_rfl) (by kernel_rfl) (by kernel_rfl) (by kernel_rfl) noPanic_false (by kernel_rfl) (fun W hW => (x_idx27 (x := .tmp 35) (y := .tmp 36) (b := gk) (f := 0) (n := m) (c := kc) (k := k) (by kernel_rfl) (by kernel_rfl) (by kernel_rfl) HD.out.2.2.2).trans (by rw [Nat.zero_add])) hS0 ?_
              refine tk 10 38 (.pointer (some ⟨gk, k * 68, none⟩)) (fuel := 3) rfl (by kernel_rfl) (by kernel_rfl) (by kernel_rfl) (by kernel_rfl) noPanic_false (by kernel_rfl) (fun _ _ => by kernel_rfl) hS0 ?_
              refine tk 11 39 (idv d.id) (fuel := 2) rfl (by kernel_rfl) (by kernel_rfl) (by kernel_rfl) (by kernel_rfl) noPanic_false (by kernel_rfl) (fun W hW => x_ld40m (x := .tmp 38) (g := gk) (p := k * 68) HD.out.2.1 (by kernel_rfl) (by kernel_rfl) (range_after HD.out.2.2.1 hW)) hS0 ?_
              refine tkCallZ 12 40 20 #[idv c.id, idv d.id] (fun v w' => v = .bool false ∧ After wk w') (fuel := 1) rfl (by kernel_rfl) (by kernel_rfl) (by kernel_rfl) (fun _ => by kernel_rfl) (Calls.mono (rlessI_any HC.out.2.1.id HD.out.2.1 _) (fun e w' ⟨he, ha⟩ => ⟨_, he, by rw [HL.out], hS0.trans ha⟩)) ?_
              intro v8 w8 ⟨hv8, ha8⟩
              subst hv8
              refine ⟨ha8, ?_⟩
              refine tk 13 41 (.bool false) (fuel := 0) rfl (by kernel_rfl) (by kernel_rfl) (by kernel_rfl) (by kernel_rfl) noPanic_false (by kernel_rfl) (fun _ _ => by kernel_rfl) ha8 ?_
              refine wpAnyH_done (by kernel_rfl) (NoPanic.normal ?_) _
              have HKW : Hid (After wk w8) := ha8
              clear ha8 hS0
              go_simp
              go_wp2_with fail
              have HK8 : Hid (RowR w8 W0.heap.size (.slice (some ⟨gk, 0, none⟩) m kc) (kids (l.take i) x) ∧ RowIs w8 go 68 (rcell c) ∧ After wo w8) := ⟨HKK.out.1.after HKW.out, HKK.out.2.1.below HKW.out HKK.out.2.1.lt, HKK.out.2.2.1.trans HKW.out⟩
              have HSR : Hid (∀ W, After w8 W → SrcR W (.slice (some ⟨gk, 0, none⟩) k kc) ((kids (l.take i) x).take k) ∧ SrcR W (.slice (cut27 ((some ⟨gk, 0, none⟩)) k kc) (m - k) (kc - k)) ((kids (l.take i) x).drop k)) := fun W hW => ⟨(HK8.out.1.after hW).src.take hkm HKK.out.2.2.2.1, (HK8.out.1.after hW).src.drop hkm HKK.out.2.2.2.1 HKK.out.2.2.2.2.1 HKK.out.2.2.2.2.2⟩
              have HLN : Hid (((kids (l.take i) x).take k).length ≤ 1000 ∧ ((kids (l.take i) x).drop k).length ≤ 1000) := by
                have e := HKK.out.2.2.2.1
                refine ⟨?_, ?_⟩
                · rw [List.length_take]; omega
                · rw [List.length_drop]; omega
              refine wp_region_noPanic ?_
              refine wp_region_held_drew (S := After w8) (by kernel_rfl) (After.drew (After.refl _)) ?_
              intro hS0
              refine tk 0 44 (.slice none 0 0) (fuel := 8) rfl (by kernel_rfl) (by kernel_rfl) (by kernel_rfl) (by kernel_rfl) noPanic_false (by kernel_rfl) (fun _ _ => by kernel_rfl) hS0 ?_
              refine tk 1 45 (.slice (some ⟨gk, 0, none⟩) m kc) (fuel := 7) rfl (by kernel_rfl) (by kernel_rfl) (by kernel_rfl) (by kernel_rfl) noPanic_false (by kernel_rfl) (fun _ _ => by kernel_rfl) hS0 ?_
              refine tk 2 46 (.int .i64 (k : Int)) (fuel := 6) rfl (by kernel_rfl) (by kernel_rfl) (by kernel_rfl) (by kernel_rfl) noPanic_false (by kernel_rfl) (fun _ _ => by kernel_rfl) hS0 ?_
              refine tk 3 47 (.slice (some ⟨gk, 0, none⟩) k kc) (fuel := 5) rfl (by kernel_rfl) (by kernel_rfl) (by kernel_rfl) (by kernel_rfl) noPanic_false (by kernel_rfl) (fun W hW => x_sl27h (x := .tmp 45) (y := .tmp 46) (n := m) (by kernel_rfl) (by kernel_rfl) (by kernel_rfl) (Nat.le_trans hkm HKK.out.2.2.2.2.1) HKK.out.2.2.2.2.2) hS0 ?_
              refine tk 5 49 (.agg (rcell c).toArray) (fuel := 4) rfl (by kernel_rfl) (by kernel_rfl) (by kernel_rfl) (by kernel_rfl) noPanic_false (by kernel_rfl) (fun W hW => x_ld68m (x := .tmp 7) (g := go) (p := 0) HC.out.2.1 (by kernel_rfl) (by kernel_rfl) (HK8.out.2.1.below hW HK8.out.2.1.lt).range0) hS0 ?_
              refine wpAnyH_all (rs := [4, 6]) (by kernel_rfl) (by simp) (fun ii hi => ?_)
              have hi2 : ii = 4 ∨ ii = 6 := by simpa using hi
              clear hi
              rcases hi2 with rfl | rfl
              · obtain ⟨v1, W1, hp1, hp2, hp3⟩ := app_nilS (HSR.out w8.drew hS0).1 (Nat.le_trans HLN.out.1 (by omega))
                refine opVal 4 48 v1 W1 rfl (by kernel_rfl) (by kernel_rfl) (x_app27 (s := .tmp 44) (x := .tmp 47) (v := .slice none 0 0) (u := .slice (some ⟨gk, 0, none⟩) k kc) (by kernel_rfl) (by kernel_rfl) (by kernel_rfl) hp1) ⟨hS0.trans hp3, ?_⟩
                refine tkRunS 6 50 (.slice (some ⟨W1.heap.size, 0, none⟩) 1 1) (W1.alloc (.cells (rcell c).toArray 68)) (fuel := 2) rfl (by kernel_rfl) (by kernel_rfl) (by kernel_rfl) (x_bs27 (x := .tmp 49) (cs := rcell c) (rcell_len HC.out.2.1) (by kernel_rfl) (by kernel_rfl)) (after_alloc (hS0.trans hp3) _) ?_
                obtain ⟨na, nm, nc, W3, hq1, hq2, hq3⟩ := app_any (W8 := w8) (W := W1.alloc (.cells (rcell c).toArray 68)) (base := w8.heap.size) (v := v1) (after_alloc (hS0.trans hp3) _) (Nat.le_refl _) (after_alloc (hS0.trans hp3) _).size ((hp2.after (after_alloc (After.refl W1) _)).mono hS0.size) (SrcR.one HC.out.2.1 (RowIs.new W1 68 (rcell c))) (by have := HLN.out.1; simp only [List.length_singleton]; omega)
                refine tkRunS 7 51 (.slice na nm nc) W3 (fuel := 1) rfl (by kernel_rfl) (by kernel_rfl) (by kernel_rfl) (x_app27 (s := .tmp 48) (x := .tmp 50) (v := v1) (u := .slice (some ⟨W1.heap.size, 0, none⟩) 1 1) (by kernel_rfl) (by kernel_rfl) (by kernel_rfl) hq1) hq3 ?_
                refine tk 8 9 (.slice na nm nc) (fuel := 0) rfl (by kernel_rfl) (by kernel_rfl) (by kernel_rfl) (by kernel_rfl) noPanic_false (by kernel_rfl) (fun _ _ => by kernel_rfl) hq3 ?_
                refine wpAnyH_done (by kernel_rfl) (NoPanic.normal ?_) _
                obtain ⟨fa, fm, fc, W5, hf1, hf2, hf3⟩ := app_any (W8 := w8) (W := W3) (base := w8.heap.size) (v := .slice na nm nc) hq3 (Nat.le_refl _) hq3.size hq2 (HSR.out W3 hq3).2 (by have := HLN.out; simp only [List.length_append, List.length_singleton]; omega)
                have HF5 := show Hid (RowR W5 w8.heap.size (.slice fa fm fc) (kids (l.take (i + 1)) x) ∧ After w8 W5 ∧ (kids (l.take (i + 1)) x).length = fm) from by
                  rw [HGI.out]
                  rw [List.append_assoc] at hf2
                  exact ⟨hf2, hf3, hf2.cap.1⟩
                have HF1 := show Hid _ from hf1
                clear hf1 hf2 hf3 hq1 hq2 hq3 hp1 hp2 hp3 hS0
                go_simp
                go_wp2_with (first
                  | (refine wpList_of_run rfl (x_sl27l (x := .tmp 53) (y := .tmp 54) (n := m) (c := kc) (k := k) (a' := cut27 ((some ⟨gk, 0, none⟩)) k kc) (j := m - k) (c' := kc - k) rfl (by kernel_rfl) (by kernel_rfl) HKK.out.2.2.2.2.1 hkm HKK.out.2.2.2.2.2 rfl rfl rfl) ?_)
                  | (refine wpList_of_run rfl (x_app27 (s := .tmp 52) (x := .tmp 55) (v := .slice na nm nc) (u := .slice (cut27 ((some ⟨gk, 0, none⟩)) k kc) (m - k) (kc - k)) rfl (by kernel_rfl) (by kernel_rfl) HF1.out) ?_))
                go_roundw
                case rel => exact ⟨i + 1, fa, fm, fc, by go_num, rfl, by omega, by have h1 := HF5.out.2.2; have h2 := kids_len x (l.take (i + 1)); rw [List.length_take] at h2; omega, HF5.out.1.mono (Nat.le_trans HI.out.2.size HK8.out.2.2.size), (HI.out.2.trans HK8.out.2.2).trans HF5.out.2.1⟩
                case measure => simp [intOf]; omega
              · have hz0 : RowIs (w8.drew.alloc (.cells (rcell c).toArray 68)) w8.drew.heap.size 68 (rcell c) := RowIs.new _ 68 _
                have hS1 : After w8 (w8.drew.alloc (.cells (rcell c).toArray 68)) := after_alloc hS0 _
                obtain ⟨v1, W1, hp1, hp2, hp3⟩ := app_nilS (HSR.out _ hS1).1 (Nat.le_trans HLN.out.1 (by omega))
                refine opVal 6 50 (.slice (some ⟨w8.drew.heap.size, 0, none⟩) 1 1) (w8.drew.alloc (.cells (rcell c).toArray 68)) rfl (by kernel_rfl) (by kernel_rfl) (x_bs27 (x := .tmp 49) (cs := rcell c) (rcell_len HC.out.2.1) (by kernel_rfl) (by kernel_rfl)) ⟨hS1, ?_⟩
                refine tkRunS 4 48 v1 W1 (fuel := 2) rfl (by kernel_rfl) (by kernel_rfl) (by kernel_rfl) (x_app27 (s := .tmp 44) (x := .tmp 47) (v := .slice none 0 0) (u := .slice (some ⟨gk, 0, none⟩) k kc) (by kernel_rfl) (by kernel_rfl) (by kernel_rfl) hp1) (hS1.trans hp3) ?_
                obtain ⟨na, nm, nc, W3, hq1, hq2, hq3⟩ := app_any (W8 := w8) (W := W1) (base := w8.heap.size) (v := v1) (hS1.trans hp3) (Nat.le_refl _) (hS1.trans hp3).size (hp2.mono hS1.size) (SrcR.one HC.out.2.1 (hz0.below hp3 hz0.lt)) (by have := HLN.out.1; simp only [List.length_singleton]; omega)
                refine tkRunS 7 51 (.slice na nm nc) W3 (fuel := 1) rfl (by kernel_rfl) (by kernel_rfl) (by kernel_rfl) (x_app27 (s := .tmp 48) (x := .tmp 50) (v := v1) (u := .slice (some ⟨w8.drew.heap.size, 0, none⟩) 1 1) (by kernel_rfl) (by kernel_rfl) (by kernel_rfl) hq1) hq3 ?_
                refine tk 8 9 (.slice na nm nc) (fuel := 0) rfl (by kernel_rfl) (by kernel_rfl) (by kernel_rfl) (by kernel_rfl) noPanic_false (by kernel_rfl) (fun _ _ => by kernel_rfl) hq3 ?_
                refine wpAnyH_done (by kernel_rfl) (NoPanic.normal ?_) _
                obtain ⟨fa, fm, fc, W5, hf1, hf2, hf3⟩ := app_any (W8 := w8) (W := W3) (base := w8.heap.size) (v := .slice na nm nc) hq3 (Nat.le_refl _) hq3.size hq2 (HSR.out W3 hq3).2 (by have := HLN.out; simp only [List.length_append, List.length_singleton]; omega)
                have HF5 := show Hid (RowR W5 w8.heap.size (.slice fa fm fc) (kids (l.take (i + 1)) x) ∧ After w8 W5 ∧ (kids (l.take (i + 1)) x).length = fm) from by
                  rw [HGI.out]
                  rw [List.append_assoc] at hf2
                  exact ⟨hf2, hf3, hf2.cap.1⟩
                have HF1 := show Hid _ from hf1
                clear hf1 hf2 hf3 hq1 hq2 hq3 hp1 hp2 hp3 hz0 hS1 hS0
                go_simp
                go_wp2_with (first
                  | (refine wpList_of_run rfl (x_sl27l (x := .tmp 53) (y := .tmp 54) (n := m) (c := kc) (k := k) (a' := cut27 ((some ⟨gk, 0, none⟩)) k kc) (j := m - k) (c' := kc - k) rfl (by kernel_rfl) (by kernel_rfl) HKK.out.2.2.2.2.1 hkm HKK.out.2.2.2.2.2 rfl rfl rfl) ?_)
                  | (refine wpList_of_run rfl (x_app27 (s := .tmp 52) (x := .tmp 55) (v := .slice na nm nc) (u := .slice (cut27 ((some ⟨gk, 0, none⟩)) k kc) (m - k) (kc - k)) rfl (by kernel_rfl) (by kernel_rfl) HF1.out) ?_))
                go_roundw
                case rel => exact ⟨i + 1, fa, fm, fc, by go_num, rfl, by omega, by have h1 := HF5.out.2.2; have h2 := kids_len x (l.take (i + 1)); rw [List.length_take] at h2; omega, HF5.out.1.mono (Nat.le_trans HI.out.2.size HK8.out.2.2.size), (HI.out.2.trans HK8.out.2.2).trans HF5.out.2.1⟩
                case measure => simp [intOf]; omega
          · have HGI : Hid (kids (l.take (i + 1)) x = (kids (l.take i) x).take k ++ c :: (kids (l.take i) x).drop k) := by
              show _ = _
              rw [HKS.out]
              exact gIns_at (by rw [HKK.out.2.2.2.1]; omega) HJ.out.1 (fun e he => by have := (List.getElem?_eq_some_iff.1 he).1; rw [HKK.out.2.2.2.1] at this; omega)
            have HKL : Hid (decide (k < m) = false) := decide_eq_false hklt
            go_wp2_with fail
            refine wp_region_noPanic ?_
            refine wp_region_held_drew (S := After wk) (by kernel_rfl) (After.drew (After.refl _)) ?_
            intro hS0
            refine tk 0 28 (.int .i64 (k : Int)) (fuel := 13) rfl (by kernel_rfl) (by kernel_rfl) (by kernel_rfl) (by kernel_rfl) noPanic_false (by kernel_rfl) (fun _ _ => by kernel_rfl) hS0 ?_
            refine tk 1 29 (.slice ka m kc) (fuel := 12) rfl (by kernel_rfl) (by kernel_rfl) (by kernel_rfl) (by kernel_rfl) noPanic_false (by kernel_rfl) (fun _ _ => by kernel_rfl) hS0 ?_
            refine tk 2 30 (.int .i64 (m : Int)) (fuel := 11) rfl (by kernel_rfl) (by kernel_rfl) (by kernel_rfl) (by kernel_rfl) noPanic_false (by kernel_rfl) (fun _ _ => by kernel_rfl) hS0 ?_
            refine tk 3 31 (.bool false) (fuel := 10) rfl (by kernel_rfl) (by kernel_rfl) (by kernel_rfl) (by kernel_rfl) noPanic_false (by kernel_rfl) (fun W _ => (x_lss (x := .tmp 28) (y := .tmp 30) (p := k) (q := m) (by kernel_rfl) (by kernel_rfl) (by kernel_rfl)).trans (by rw [HKL.out])) hS0 ?_
            refine tk 4 32 (.bool false) (fuel := 9) rfl (by kernel_rfl) (by kernel_rfl) (by kernel_rfl) (by kernel_rfl) noPanic_false (by kernel_rfl) (fun _ _ => by kernel_rfl) hS0 ?_
            refine tkSkip 5 33 (fuel := 8) rfl (by kernel_rfl) (by kernel_rfl) (by kernel_rfl) (by kernel_rfl) noPanic_false (by kernel_rfl) hS0 ?_
            refine tkSkip 6 34 (fuel := 7) rfl (by kernel_rfl) (by kernel_rfl) (by kernel_rfl) (by kernel_rfl) noPanic_false (by kernel_rfl) hS0 ?_
            refine tkSkip 7 35 (fuel := 6) rfl (by kernel_rfl) (by kernel_rfl) (by kernel_rfl) (by kernel_rfl) noPanic_false (by kernel_rfl) hS0 ?_
            refine tkSkip 8 36 (fuel := 5) rfl (by kernel_rfl) (by kernel_rfl) (by kernel_rfl) (by kernel_rfl) noPanic_false (by kernel_rfl) hS0 ?_
            refine tkSkip 9 37 (fuel := 4) rfl (by kernel_rfl) (by kernel_rfl) (by kernel_rfl) (by kernel_rfl) noPanic_false (by kernel_rfl) hS0 ?_
            refine tkSkip 10 38 (fuel := 3) rfl (by kernel_rfl) (by kernel_rfl) (by kernel_rfl) (by kernel_rfl) noPanic_false (by kernel_rfl) hS0 ?_
            refine tkSkip 11 39 (fuel := 2) rfl (by kernel_rfl) (by kernel_rfl) (by kernel_rfl) (by kernel_rfl) noPanic_false (by kernel_rfl) hS0 ?_
            refine tkSkip 12 40 (fuel := 1) rfl (by kernel_rfl) (by kernel_rfl) (by kernel_rfl) (by kernel_rfl) noPanic_false (by kernel_rfl) hS0 ?_
            refine tk 13 41 (.bool false) (fuel := 0) rfl (by kernel_rfl) (by kernel_rfl) (by kernel_rfl) (by kernel_rfl) noPanic_false (by kernel_rfl) (fun _ _ => by kernel_rfl) hS0 ?_
            refine wpAnyH_done (by kernel_rfl) (NoPanic.normal ?_) _
            obtain ⟨w8, hw8⟩ : ∃ w8, wk.drew = w8 := ⟨_, rfl⟩
            rw [hw8] at hS0 ⊢
            have HKW : Hid (After wk w8) := hS0
            clear hS0 hw8
            go_simp
            go_wp2_with fail
            have HK8 : Hid (RowR w8 W0.heap.size (.slice ka m kc) (kids (l.take i) x) ∧ RowIs w8 go 68 (rcell c) ∧ After wo w8) := ⟨HKK.out.1.after HKW.out, HKK.out.2.1.below HKW.out HKK.out.2.1.lt, HKK.out.2.2.1.trans HKW.out⟩
            have HSR : Hid (∀ W, After w8 W → SrcR W (.slice ka k kc) ((kids (l.take i) x).take k) ∧ SrcR W (.slice (cut27 (ka) k kc) (m - k) (kc - k)) ((kids (l.take i) x).drop k)) := fun W hW => ⟨(HK8.out.1.after hW).src.take hkm HKK.out.2.2.2.1, (HK8.out.1.after hW).src.drop hkm HKK.out.2.2.2.1 HKK.out.2.2.2.2.1 HKK.out.2.2.2.2.2⟩
            have HLN : Hid (((kids (l.take i) x).take k).length ≤ 1000 ∧ ((kids (l.take i) x).drop k).length ≤ 1000) := by
              have e := HKK.out.2.2.2.1
              refine ⟨?_, ?_⟩
              · rw [List.length_take]; omega
              · rw [List.length_drop]; omega
            refine wp_region_noPanic ?_
            refine wp_region_held_drew (S := After w8) (by kernel_rfl) (After.drew (After.refl _)) ?_
            intro hS0
            refine tk 0 44 (.slice none 0 0) (fuel := 8) rfl (by kernel_rfl) (by kernel_rfl) (by kernel_rfl) (by kernel_rfl) noPanic_false (by kernel_rfl) (fun _ _ => by kernel_rfl) hS0 ?_
            refine tk 1 45 (.slice ka m kc) (fuel := 7) rfl (by kernel_rfl) (by kernel_rfl) (by kernel_rfl) (by kernel_rfl) noPanic_false (by kernel_rfl) (fun _ _ => by kernel_rfl) hS0 ?_
            refine tk 2 46 (.int .i64 (k : Int)) (fuel := 6) rfl (by kernel_rfl) (by kernel_rfl) (by kernel_rfl) (by kernel_rfl) noPanic_false (by kernel_rfl) (fun _ _ => by kernel_rfl) hS0 ?_
            refine tk 3 47 (.slice ka k kc) (fuel := 5) rfl (by kernel_rfl) (by kernel_rfl) (by kernel_rfl) (by kernel_rfl) noPanic_false (by kernel_rfl) (fun W hW => x_sl27h (x := .tmp 45) (y := .tmp 46) (n := m) (by kernel_rfl) (by kernel_rfl) (by kernel_rfl) (Nat.le_trans hkm HKK.out.2.2.2.2.1) HKK.out.2.2.2.2.2) hS0 ?_
            refine tk 5 49 (.agg (rcell c).toArray) (fuel := 4) rfl (by kernel_rfl) (by kernel_rfl) (by kernel_rfl) (by kernel_rfl) noPanic_false (by kernel_rfl) (fun W hW => x_ld68m (x := .tmp 7) (g := go) (p := 0) HC.out.2.1 (by kernel_rfl) (by kernel_rfl) (HK8.out.2.1.below hW HK8.out.2.1.lt).range0) hS0 ?_
            refine wpAnyH_all (rs := [4, 6]) (by kernel_rfl) (by simp) (fun ii hi => ?_)
            have hi2 : ii = 4 ∨ ii = 6 := by simpa using hi
            clear hi
            rcases hi2 with rfl | rfl
            · obtain ⟨v1, W1, hp1, hp2, hp3⟩ := app_nilS (HSR.out w8.drew hS0).1 (Nat.le_trans HLN.out.1 (by omega))
              refine opVal 4 48 v1 W1 rfl (by kernel_rfl) (by kernel_rfl) (x_app27 (s := .tmp 44) (x := .tmp 47) (v := .slice none 0 0) (u := .slice ka k kc) (by kernel_rfl) (by kernel_rfl) (by kernel_rfl) hp1) ⟨hS0.trans hp3, ?_⟩
              refine tkRunS 6 50 (.slice (some ⟨W1.heap.size, 0, none⟩) 1 1) (W1.alloc (.cells (rcell c).toArray 68)) (fuel := 2) rfl (by kernel_rfl) (by kernel_rfl) (by kernel_rfl) (x_bs27 (x := .tmp 49) (cs := rcell c) (rcell_len HC.out.2.1) (by kernel_rfl) (by kernel_rfl)) (after_alloc (hS0.trans hp3) _) ?_
              obtain ⟨na, nm, nc, W3, hq1, hq2, hq3⟩ := app_any (W8 := w8) (W := W1.alloc (.cells (rcell c).toArray 68)) (base := w8.heap.size) (v := v1) (after_alloc (hS0.trans hp3) _) (Nat.le_refl _) (after_alloc (hS0.trans hp3) _).size ((hp2.after (after_alloc (After.refl W1) _)).mono hS0.size) (SrcR.one HC.out.2.1 (RowIs.new W1 68 (rcell c))) (by have := HLN.out.1; simp only [List.length_singleton]; omega)
              refine tkRunS 7 51 (.slice na nm nc) W3 (fuel := 1) rfl (by kernel_rfl) (by kernel_rfl) (by kernel_rfl) (x_app27 (s := .tmp 48) (x := .tmp 50) (v := v1) (u := .slice (some ⟨W1.heap.size, 0, none⟩) 1 1) (by kernel_rfl) (by kernel_rfl) (by kernel_rfl) hq1) hq3 ?_
              refine tk 8 9 (.slice na nm nc) (fuel := 0) rfl (by kernel_rfl) (by kernel_rfl) (by kernel_rfl) (by kernel_rfl) noPanic_false (by kernel_rfl) (fun _ _ => by kernel_rfl) hq3 ?_
              refine wpAnyH_done (by kernel_rfl) (NoPanic.normal ?_) _
              obtain ⟨fa, fm, fc, W5, hf1, hf2, hf3⟩ := app_any (W8 := w8) (W := W3) (base := w8.heap.size) (v := .slice na nm nc) hq3 (Nat.le_refl _) hq3.size hq2 (HSR.out W3 hq3).2 (by have := HLN.out; simp only [List.length_append, List.length_singleton]; omega)
              have HF5 := show Hid (RowR W5 w8.heap.size (.slice fa fm fc) (kids (l.take (i + 1)) x) ∧ After w8 W5 ∧ (kids (l.take (i + 1)) x).length = fm) from by
                rw [HGI.out]
                rw [List.append_assoc] at hf2
                exact ⟨hf2, hf3, hf2.cap.1⟩
              have HF1 := show Hid _ from hf1
              clear hf1 hf2 hf3 hq1 hq2 hq3 hp1 hp2 hp3 hS0
              go_simp
              go_wp2_with (first
                | (refine wpList_of_run rfl (x_sl27l (x := .tmp 53) (y := .tmp 54) (n := m) (c := kc) (k := k) (a' := cut27 (ka) k kc) (j := m - k) (c' := kc - k) rfl (by kernel_rfl) (by kernel_rfl) HKK.out.2.2.2.2.1 hkm HKK.out.2.2.2.2.2 rfl rfl rfl) ?_)
                | (refine wpList_of_run rfl (x_app27 (s := .tmp 52) (x := .tmp 55) (v := .slice na nm nc) (u := .slice (cut27 (ka) k kc) (m - k) (kc - k)) rfl (by kernel_rfl) (by kernel_rfl) HF1.out) ?_))
              go_roundw
              case rel => exact ⟨i + 1, fa, fm, fc, by go_num, rfl, by omega, by have h1 := HF5.out.2.2; have h2 := kids_len x (l.take (i + 1)); rw [List.length_take] at h2; omega, HF5.out.1.mono (Nat.le_trans HI.out.2.size HK8.out.2.2.size), (HI.out.2.trans HK8.out.2.2).trans HF5.out.2.1⟩
              case measure => simp [intOf]; omega
            · have hz0 : RowIs (w8.drew.alloc (.cells (rcell c).toArray 68)) w8.drew.heap.size 68 (rcell c) := RowIs.new _ 68 _
              have hS1 : After w8 (w8.drew.alloc (.cells (rcell c).toArray 68)) := after_alloc hS0 _
              obtain ⟨v1, W1, hp1, hp2, hp3⟩ := app_nilS (HSR.out _ hS1).1 (Nat.le_trans HLN.out.1 (by omega))
              refine opVal 6 50 (.slice (some ⟨w8.drew.heap.size, 0, none⟩) 1 1) (w8.drew.alloc (.cells (rcell c).toArray 68)) rfl (by kernel_rfl) (by kernel_rfl) (x_bs27 (x := .tmp 49) (cs := rcell c) (rcell_len HC.out.2.1) (by kernel_rfl) (by kernel_rfl)) ⟨hS1, ?_⟩
              refine tkRunS 4 48 v1 W1 (fuel := 2) rfl (by kernel_rfl) (by kernel_rfl) (by kernel_rfl) (x_app27 (s := .tmp 44) (x := .tmp 47) (v := .slice none 0 0) (u := .slice ka k kc) (by kernel_rfl) (by kernel_rfl) (by kernel_rfl) hp1) (hS1.trans hp3) ?_
              obtain ⟨na, nm, nc, W3, hq1, hq2, hq3⟩ := app_any (W8 := w8) (W := W1) (base := w8.heap.size) (v := v1) (hS1.trans hp3) (Nat.le_refl _) (hS1.trans hp3).size (hp2.mono hS1.size) (SrcR.one HC.out.2.1 (hz0.below hp3 hz0.lt)) (by have := HLN.out.1; simp only [List.length_singleton]; omega)
              refine tkRunS 7 51 (.slice na nm nc) W3 (fuel := 1) rfl (by kernel_rfl) (by kernel_rfl) (by kernel_rfl) (x_app27 (s := .tmp 48) (x := .tmp 50) (v := v1) (u := .slice (some ⟨w8.drew.heap.size, 0, none⟩) 1 1) (by kernel_rfl) (by kernel_rfl) (by kernel_rfl) hq1) hq3 ?_
              refine tk 8 9 (.slice na nm nc) (fuel := 0) rfl (by kernel_rfl) (by kernel_rfl) (by kernel_rfl) (by kernel_rfl) noPanic_false (by kernel_rfl) (fun _ _ => by kernel_rfl) hq3 ?_
              refine wpAnyH_done (by kernel_rfl) (NoPanic.normal ?_) _
              obtain ⟨fa, fm, fc, W5, hf1, hf2, hf3⟩ := app_any (W8 := w8) (W := W3) (base := w8.heap.size) (v := .slice na nm nc) hq3 (Nat.le_refl _) hq3.size hq2 (HSR.out W3 hq3).2 (by have := HLN.out; simp only [List.length_append, List.length_singleton]; omega)
              have HF5 := show Hid (RowR W5 w8.heap.size (.slice fa fm fc) (kids (l.take (i + 1)) x) ∧ After w8 W5 ∧ (kids (l.take (i + 1)) x).length = fm) from by
                rw [HGI.out]
                rw [List.append_assoc] at hf2
                exact ⟨hf2, hf3, hf2.cap.1⟩
              have HF1 := show Hid _ from hf1
              clear hf1 hf2 hf3 hq1 hq2 hq3 hp1 hp2 hp3 hz0 hS1 hS0
              go_simp
              go_wp2_with (first
                | (refine wpList_of_run rfl (x_sl27l (x := .tmp 53) (y := .tmp 54) (n := m) (c := kc) (k := k) (a' := cut27 (ka) k kc) (j := m - k) (c' := kc - k) rfl (by kernel_rfl) (by kernel_rfl) HKK.out.2.2.2.2.1 hkm HKK.out.2.2.2.2.2 rfl rfl rfl) ?_)
                | (refine wpList_of_run rfl (x_app27 (s := .tmp 52) (x := .tmp 55) (v := .slice na nm nc) (u := .slice (cut27 (ka) k kc) (m - k) (kc - k)) rfl (by kernel_rfl) (by kernel_rfl) HF1.out) ?_))
              go_roundw
              case rel => exact ⟨i + 1, fa, fm, fc, by go_num, rfl, by omega, by have h1 := HF5.out.2.2; have h2 := kids_len x (l.take (i + 1)); rw [List.length_take] at h2; omega, HF5.out.1.mono (Nat.le_trans HI.out.2.size HK8.out.2.2.size), (HI.out.2.trans HK8.out.2.2).trans HF5.out.2.1⟩
              case measure => simp [intOf]; omega
      · have HEQ : Hid ((!decide (c.af = x)) = true) := by unfold Hid; simp [hE]
        have HKS : Hid (kids (l.take (i + 1)) x = kids (l.take i) x) := by show _ = _; rw [kids_snoc HC.out.1, if_neg hE]
        clear hE
        go_wp2_with (first
          | (refine wpList_of_run rfl (x_idx27 (x := .tmp 20) (y := .tmp 21) (b := gs) (f := 0) (n := n) (c := cap) (k := i) rfl (by kernel_rfl) (by kernel_rfl) HC.out.2.2.2) ?_; rw [Nat.zero_add])
          | (refine wpList_of_run rfl (x_ld68m (x := .tmp 22) (g := gs) (p := i * 68) (c := c) HC.out.2.1 rfl (by kernel_rfl) HC.out.2.2.1) ?_)
          | (refine wpList_of_run rfl ((x_al68 rfl).trans (by rw [HGO.out])) ?_)
          | (refine wpList_store_row rfl 68 (.tmp 7) (.tmp 23) rfl go (rcell c).toArray rfl rfl 68 _ HZ.out (size68 HC.out.2.1) (by simp [rcell_len HC.out.2.1, rcell_len zRC_ok]) (by simpa using rcell_one c) ?_; rw [HG2.out])
          | (refine wpList_of_run rfl (x_ld40m (x := .tmp 24) (g := go) (p := 33) (y := c.af) HC.out.2.1.af rfl (by kernel_rfl) (by have := range_raf HC.out.2.1 H2.out.2.1.range0; rwa [Nat.zero_add] at this)) ?_)
          | (refine wpList_load_row rfl 40 (.tmp 3) rfl (w.heap.size + 1) rfl 40 (idc x).toArray (0, 0) _ H2.out.2.2.2 Try.underlying40 rfl (size40 HX.out) ?_)
          | (refine wpList_of_run rfl (x_neId40 (x := .tmp 25) (y := .tmp 26) (h := c.af) (k := x) HC.out.2.1.af HX.out rfl (by kernel_rfl) (by kernel_rfl)) ?_; rw [HEQ.out]))
        go_roundw
        case rel => exact ⟨i + 1, ka, m, kc, by go_num, rfl, by omega, by omega, by rw [HKS.out]; exact HI.out.1.after H2.out.1, HI.out.2.trans H2.out.1⟩
        case measure => simp [intOf]; omega
    · obtain rfl : i = n := by omega
      have hii : ¬ (i : Int) < (i : Int) := by omega
      have HKX : Hid (RowR wo W0.heap.size (.slice ka m kc) (kids l x)) := by
        have := HI.out.1
        rwa [List.take_of_length_le (by rw [HN.out]; exact Nat.le_refl _)] at this
      obtain ⟨ks, hks⟩ : ∃ ks, kids l x = ks := ⟨_, rfl⟩
      rw [hks] at HKX HFL HREC
      have HKE : Hid (kids l x = ks) := hks
      clear hks
      have HCP : Hid (ks.length = m) := HKX.out.cap.1
      go_wp2_with fail
      go_loopw [10, 11] (fun vo vi wr => ∃ (p : Nat) (oa : Option Addr) (q oc : Nat), vi = .int .i64 (p : Int) ∧ vo = .slice oa q oc ∧ p ≤ m ∧ Hid (RowR wr wo.heap.size (.slice oa q oc) ((ks.take p).flatMap (fun k => k :: F k)) ∧ After wo wr)) (fun _ vi _ => m - (intOf vi).toNat)
      case atStart => exact ⟨0, none, 0, 0, rfl, rfl, Nat.zero_le _, RowR.nil _ _, After.refl wo⟩
      case round =>
        obtain ⟨wp, hwp⟩ : ∃ wp, wp = wr := ⟨_, rfl⟩
        subst hwp
        obtain ⟨p, oa, q, oc, rfl, rfl, hpm, HP⟩ := hrel
        by_cases hplt : p < m
        · have hpp : (p : Int) < (m : Int) := by omega
          obtain ⟨d, hd⟩ : ∃ d, ks[p]? = some d := ⟨_, List.getElem?_eq_getElem (by rw [HCP.out]; exact hplt)⟩
          obtain ⟨gk, hka, -, hrk⟩ := HKX.out.at hd
          subst hka
          rw [Nat.zero_add] at hrk
          have HD : Hid (d.Ok ∧ wo.rangeAt gk (p * 68) (rcell d) ∧ p < m) := ⟨HKX.out.1 d (List.mem_of_getElem? hd), hrk, hplt⟩
          have HQ : Hid ((ks.take (p + 1)).flatMap (fun k => k :: F k) = ((ks.take p).flatMap (fun k => k :: F k) ++ [d]) ++ F d) := by
            show _ = _
            rw [List.take_add_one, hd]
            simp [List.flatMap_append]
          have HLEN : Hid (((ks.take p).flatMap (fun k => k :: F k)).length + 1 + (F d).length ≤ 100000) := by
            have e := congrArg List.length HQ.out
            simp only [List.length_append, List.length_singleton] at e
            have e2 : ((ks.take (p + 1)).flatMap (fun k => k :: F k)).length ≤ (ks.flatMap (fun k => k :: F k)).length := by
              conv => rhs; rw [← List.take_append_drop (p + 1) ks]
              rw [List.flatMap_append, List.length_append]
              omega
            have := HFL.out
            show _ ≤ _
            omega
          have HRC : Hid (∀ w1, After w w1 → Calls Try.prog 46 #[.agg #[.slice va i cap], idv d.id] w1 fun e w' => ∃ v', e = .returned v' ∧ RowR w' w1.heap.size v' (F d) ∧ After w1 w') := HREC.out d (List.mem_of_getElem? hd)
          clear hd hrk
          go_wp2_with fail
          refine wp_region_noPanic ?_
          refine wp_region_held_drew (S := After wo) (by kernel_rfl) (HP.out.2.trans (After.drew (After.refl _))) ?_
          intro hS0
          refine tk 0 63 (.slice oa q oc) (fuel := 15) rfl (by kernel_rfl) (by kernel_rfl) (by kernel_rfl) (by kernel_rfl) noPanic_false (by kernel_rfl) (fun _ _ => by kernel_rfl) hS0 ?_
          refine tk 1 64 (.slice (some ⟨gk, 0, none⟩) m kc) (fuel := 14) rfl (by kernel_rfl) (by kernel_rfl) (by kernel_rfl) (by kernel_rfl) noPanic_false (by kernel_rfl) (fun _ _ => by kernel_rfl) hS0 ?_
          refine tk 2 65 (.int .i64 (p : Int)) (fuel := 13) rfl (by kernel_rfl) (by kernel_rfl) (by kernel_rfl) (by kernel_rfl) noPanic_false (by kernel_rfl) (fun _ _ => by kernel_rfl) hS0 ?_
          refine tk 3 66 (.pointer (some ⟨gk, p * 68, none⟩)) (fuel := 12) rfl (by kernel_rfl) (by kernel_rfl) (by kernel_rfl) (by kernel_rfl) noPanic_false (by kernel_rfl) (fun W hW => (x_idx27 (x := .tmp 64) (y := .tmp 65) (b := gk) (f := 0) (n := m) (c := kc) (k := p) (by kernel_rfl) (by kernel_rfl) (by kernel_rfl) HD.out.2.2).trans (by rw [Nat.zero_add])) hS0 ?_
          refine tk 4 67 (.agg (rcell d).toArray) (fuel := 11) rfl (by kernel_rfl) (by kernel_rfl) (by kernel_rfl) (by kernel_rfl) noPanic_false (by kernel_rfl) (fun W hW => x_ld68m (x := .tmp 66) (g := gk) (p := p * 68) HD.out.1 (by kernel_rfl) (by kernel_rfl) (range_after HD.out.2.1 hW)) hS0 ?_
          refine tk 7 70 (.agg #[.slice va i cap]) (fuel := 10) rfl (by kernel_rfl) (by kernel_rfl) (by kernel_rfl) (by kernel_rfl) noPanic_false (by kernel_rfl) (fun W hW => x_ld29 (x := .tmp 2) (g := w.heap.size) (by kernel_rfl) (by kernel_rfl) (HB.out.1.below hW HB.out.1.lt)) hS0 ?_
          refine tk 8 71 (.slice (some ⟨gk, 0, none⟩) m kc) (fuel := 9) rfl (by kernel_rfl) (by kernel_rfl) (by kernel_rfl) (by kernel_rfl) noPanic_false (by kernel_rfl) (fun _ _ => by kernel_rfl) hS0 ?_
          refine tk 9 72 (.int .i64 (p : Int)) (fuel := 8) rfl (by kernel_rfl) (by kernel_rfl) (by kernel_rfl) (by kernel_rfl) noPanic_false (by kernel_rfl) (fun _ _ => by kernel_rfl) hS0 ?_
          refine tk 10 73 (.pointer (some ⟨gk, p * 68, none⟩)) (fuel := 7) rfl (by kernel_rfl) (by kernel_rfl) (by kernel_rfl) (by kernel_rfl) noPanic_false (by kernel_rfl) (fun W hW => (x_idx27 (x := .tmp 71) (y := .tmp 72) (b := gk) (f := 0) (n := m) (c := kc) (k := p) (by kernel_rfl) (by kernel_rfl) (by kernel_rfl) HD.out.2.2).trans (by rw [Nat.zero_add])) hS0 ?_
          refine tk 11 74 (.pointer (some ⟨gk, p * 68, none⟩)) (fuel := 6) rfl (by kernel_rfl) (by kernel_rfl) (by kernel_rfl) (by kernel_rfl) noPanic_false (by kernel_rfl) (fun _ _ => by kernel_rfl) hS0 ?_
          refine tk 12 75 (idv d.id) (fuel := 5) rfl (by kernel_rfl) (by kernel_rfl) (by kernel_rfl) (by kernel_rfl) noPanic_false (by kernel_rfl) (fun W hW => x_ld40m (x := .tmp 74) (g := gk) (p := p * 68) HD.out.1.id (by kernel_rfl) (by kernel_rfl) (range_after (range_rid HD.out.2.1) hW)) hS0 ?_
          have hd1 : After wp wp.drew := After.drew (After.refl _)
          have hS1 : After wo (wp.drew.alloc (.cells (rcell d).toArray 68)) := after_alloc hS0 _
          have hb1 : RowR (wp.drew.alloc (.cells (rcell d).toArray 68)) wo.heap.size (.slice oa q oc) ((ks.take p).flatMap (fun k => k :: F k)) := (HP.out.1.after hd1).after (after_alloc (After.refl _) _)
          refine tkRunS 5 68 (.slice (some ⟨wp.drew.heap.size, 0, none⟩) 1 1) (wp.drew.alloc (.cells (rcell d).toArray 68)) (fuel := 4) rfl (by kernel_rfl) (by kernel_rfl) (by kernel_rfl) (x_bs27 (x := .tmp 67) (cs := rcell d) (rcell_len HD.out.1) (by kernel_rfl) (by kernel_rfl)) (hS1) ?_
          obtain ⟨oa8, q8, oc8, w8, h81, hr8, ha8⟩ := app_any (W8 := wo) (W := wp.drew.alloc (.cells (rcell d).toArray 68)) (base := wo.heap.size) hS1 (Nat.le_refl _) hS1.size hb1 (SrcR.one HD.out.1 (RowIs.new wp.drew 68 (rcell d))) (by have := HLEN.out; simp only [List.length_singleton]; omega)
          refine tkRunS 6 69 (.slice oa8 q8 oc8) (w8) (fuel := 3) rfl (by kernel_rfl) (by kernel_rfl) (by kernel_rfl) (x_app27 (s := .tmp 63) (x := .tmp 68) (v := .slice oa q oc) (u := .slice (some ⟨wp.drew.heap.size, 0, none⟩) 1 1) (by kernel_rfl) (by kernel_rfl) (by kernel_rfl) h81) (ha8) ?_
          refine tkCallZ 13 76 46 #[.agg #[.slice va i cap], idv d.id] (fun v w' => RowR w' w8.heap.size v (F d) ∧ After w8 w') (fuel := 2) rfl (by kernel_rfl) (by kernel_rfl) (by kernel_rfl) (fun _ => by kernel_rfl) (Calls.mono (HRC.out w8 ((HA.out.1.trans HI.out.2).trans ha8)) (fun e w' ⟨v', he, h1, h2⟩ => ⟨_, he, h1, h2⟩)) ?_
          intro v7 w7 ⟨hr7, ha7⟩
          refine ⟨ha8.trans ha7, ?_⟩
          obtain ⟨ra, rc7, hv7⟩ := hr7.sl
          obtain ⟨oa9, q9, oc9, w9, h91, hr9, ha9⟩ := app_any (W8 := wo) (W := w7) (base := wo.heap.size) (ha8.trans ha7) (Nat.le_refl _) (ha8.trans ha7).size (hr8.after ha7) hr7.src (by have := HLEN.out; simp only [List.length_append, List.length_singleton]; omega)
          refine tkRunS 14 77 (.slice oa9 q9 oc9) (w9) (fuel := 1) rfl (by kernel_rfl) (by kernel_rfl) (by kernel_rfl) (x_app27 (s := .tmp 69) (x := .tmp 76) (v := .slice oa8 q8 oc8) (u := v7) (by kernel_rfl) (by kernel_rfl) (by kernel_rfl) h91) (ha9) ?_
          refine tk 15 10 (.slice oa9 q9 oc9) (fuel := 0) rfl (by kernel_rfl) (by kernel_rfl) (by kernel_rfl) (by kernel_rfl) noPanic_false (by kernel_rfl) (fun _ _ => by kernel_rfl) ha9 ?_
          refine wpAnyH_done (by kernel_rfl) (NoPanic.normal ?_) _
          have HZ7 := show Hid (RowR w9 wo.heap.size (.slice oa9 q9 oc9) ((ks.take (p + 1)).flatMap (fun k => k :: F k)) ∧ After wo w9) from ⟨by rw [HQ.out]; exact hr9, ha9⟩
          clear hr9 ha9 h91 hr8 ha8 h81 hv7 hr7 ha7 hS0 hS1
          go_simp
          go_wp2_with fail
          go_roundw
          case rel => exact ⟨p + 1, oa9, q9, oc9, by go_num, rfl, by omega, HZ7.out.1, HZ7.out.2⟩
          case measure => simp [intOf]; omega
        · obtain rfl : p = m := by omega
          have hpp : ¬ (p : Int) < (p : Int) := by omega
          go_wp2_with fail
          go_ret
          have e : ks.take p = ks := List.take_of_length_le (by rw [HCP.out]; exact Nat.le_refl _)
          have hz := HP.out
          rw [e] at hz
          refine ⟨_, rfl, ?_, (HA.out.1.trans HI.out.2).trans hz.2⟩
          rw [HKE.out]
          exact hz.1.mono (Nat.le_trans HA.out.1.size HI.out.2.size)
end Go.Proofs.Ytiglenomigipmaa
