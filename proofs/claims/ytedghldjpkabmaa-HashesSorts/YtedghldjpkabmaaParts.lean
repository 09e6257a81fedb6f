/-
  THE WALK OF (set).part; hashes.Union, Minus, Meet.
-/
import Derived.Test.YtedghldjpkabmaaEasy2
namespace Go.Proofs.Ytedghldjpkabmaa
open Go.RowKit Go.Maps Go.Sort
/-- What the loop of part keeps. -/
structure PaI (w : World) (s p r n : Nat) (D : DataW Unit) (lt : List Hs) (hs : Bool) (left : Lit → Bool) (cnt k : Nat) (ps : List Hs) (wr : World) : Prop where
  rng : wr.ranges Try.prog 24 RU s r n D left cnt
  aft : After w wr
  set : SetAt wr p k ps
  mem : ∀ h, h ∈ ps ↔ (Maps.has D (.string h) = true ∧ left (.string h) = false ∧ decide (h ∈ lt) = hs)
  sub : ∀ kl, left kl = true → Maps.has D kl = true
  cnt : k + cnt ≤ n
theorem SetAt.map {w : World} {b n : Nat} {l : List Hs} (h : SetAt w b n l) : ∃ es clock, w.heap[b]? = some (.map es clock) := by
  obtain ⟨D, ⟨es, clock, hb, _⟩, _⟩ := h.ex
  exact ⟨es, clock, hb⟩
theorem pa_skip {w w3 wr : World} {s p r n k cnt cnt3 : Nat} {D : DataW Unit} {lt ps : List Hs} {hs : Bool} {left : Lit → Bool} {x : Hs} (h : PaI w s p r n D lt hs left cnt k ps wr)
    (hrg : w3.ranges Try.prog 24 RU s r n D (fun z => left z && !z.sameKey (.string x)) cnt3) (ha : After w w3) (hset : SetAt w3 p k ps) (hlt : cnt3 < cnt) (hx : ¬ decide (x ∈ lt) = hs) : PaI w s p r n D lt hs (fun z => left z && !z.sameKey (.string x)) cnt3 k ps w3 := by
  refine ⟨hrg, ha, hset, fun y => ?_, fun kl hkl => h.sub kl (by simp only [Bool.and_eq_true] at hkl; exact hkl.1), by have := h.cnt; omega⟩
  rw [h.mem y, sameKey_str]
  by_cases e : y = x
  · subst e
    constructor
    · rintro ⟨_, _, h3⟩; exact absurd h3 hx
    · rintro ⟨_, _, h3⟩; exact absurd h3 hx
  · simp [e]
theorem pa_put {w w3 wr : World} {s p r n k cnt cnt3 : Nat} {D : DataW Unit} {lt ps : List Hs} {hs : Bool} {left : Lit → Bool} {x : Hs} (h : PaI w s p r n D lt hs left cnt k ps wr)
    (hrg : w3.ranges Try.prog 24 RU s r n D (fun z => left z && !z.sameKey (.string x)) cnt3) (ha : After w w3) (hset : SetAt w3 p (k + 1) (ps ++ [x])) (hlt : cnt3 < cnt) (hlk : left (.string x) = true) (hx : decide (x ∈ lt) = hs) : PaI w s p r n D lt hs (fun z => left z && !z.sameKey (.string x)) cnt3 (k + 1) (ps ++ [x]) w3 := by
  refine ⟨hrg, ha, hset, fun y => ?_, fun kl hkl => h.sub kl (by simp only [Bool.and_eq_true] at hkl; exact hkl.1), by have := h.cnt; omega⟩
  rw [List.mem_append, h.mem y, sameKey_str]
  by_cases e : y = x
  · subst e
    simp [h.sub _ hlk, hx]
  · simp [e]
set_option maxRecDepth 100000 in
set_option maxHeartbeats 3200000 in
theorem part41 (s t n nt : Nat) (ls lt : List Hs) (hs : Bool) (hbig : n ≤ 4398046511104) (w : World) (hS : SetAt w s n ls) (hT : SetAt w t nt lt) :
    Calls Try.prog 41 #[.map (some s), .map (some t), .bool hs] w fun e w' => ∃ ps, e = .returned (.map (some w.heap.size)) ∧ SetAt w' w.heap.size n ps ∧ (∀ h, h ∈ ps ↔ (h ∈ ls ∧ decide (h ∈ lt) = hs)) ∧ After w w' := by
  obtain ⟨D, hD, hl⟩ := hS.ex
  have HT : Hid (SetAt w t nt lt) := hT
  have HL : Hid (SetD D ls) := hl
  have hmk := run_makeMap (P := Try.prog) 45 w
  obtain ⟨w1, hw1⟩ : ∃ w1, w.alloc (.map #[] 0) = w1 := ⟨_, rfl⟩
  have HA1 : Hid (After w w1) := by rw [← hw1]; exact after_alloc (After.refl w) _
  have HS1 : Hid (w1.heap.size = w.heap.size + 1) := by rw [← hw1]; unfold Hid; simp
  have HOM : Hid (w1.ownsMap Try.prog 24 RU s n D) := ownsMap_same hD (HA1.out.block s hD.lt)
  have HP1 : Hid (SetAt w1 w.heap.size 0 []) := by rw [← hw1]; exact SetAt.made w
  have HW1 := show Hid (_ = w1) from hw1
  have HSZ : Hid (Maps.size D ≤ n) := hD.size_le
  have hns : s ≠ w.heap.size := Nat.ne_of_lt hD.lt
  clear hS hT hD hl hw1
  go_enter Try.func41, Try.ntmps41
  go_wp2_with (first | (at_range; rw [HW1.out]; refine wpList_range_own _ rfl _ 45 rfl 24 62 keyed24 Try.underlying45 RU s n D rfl HOM.out ?_; intro w2 hrg0 hg0 hs2) | fail)
  go_frame
  rw [HS1.out]
  rw [HS1.out] at hrg0 hs2
  have HC0 : Hid (PaI w s w.heap.size (w.heap.size + 1) n D lt hs (Maps.has D) (Maps.size D) 0 [] w2) := by
    have hA2 : After w1 w2 := ⟨hg0.os, hg0.tape, hg0.output, hg0.size, fun k hk => hg0.block k hk (by simp)⟩
    exact ⟨hrg0, After.trans HA1.out hA2, HP1.out.after hA2, fun h => ⟨fun hh => by simp at hh, fun ⟨h1, h2, _⟩ => by rw [h1] at h2; cases h2⟩, fun kl h => h, by have := HSZ.out; omega⟩
  clear hrg0 hg0 hs2 hmk
  go_loopw [] (fun wr => ∃ left cnt k ps, Hid (PaI w s w.heap.size (w.heap.size + 1) n D lt hs left cnt k ps wr)) (fun wr => wr.rangeLeft s (w.heap.size + 1))
  case atStart => exact ⟨_, _, _, _, HC0⟩
  case round =>
    obtain ⟨left, cnt, k, ps, HX⟩ := hrel
    go_wp2_with (first | (at_next; refine wpList_next_hash rfl _ rfl s (w.heap.size + 1) n D left cnt rfl HX.out.rng ?_ ?_) | fail)
    · intro _ hl0
      have HL0 := show Hid (∀ kl, left kl = false) from hl0
      clear hl0
      go_wp2
      go_ret
      refine ⟨ps, rfl, HX.out.set.mono (by have := HX.out.cnt; omega), fun h => ?_, HX.out.aft⟩
      rw [HX.out.mem h, HL0.out, HL.out h]; simp
    · intro x w3 cnt3 h32 hlk hrg3 hlt3 hg3 hs3 hen
      obtain ⟨es0, ck0, hmp⟩ := HX.out.set.map
      have hr3 : w.heap.size ≠ w.heap.size + 1 := by omega
      have hA3 : After w w3 := below_grown HX.out.aft hg3 (fun k hk => by cases hk; omega) HX.out.aft.size
      have hP3 : SetAt w3 w.heap.size k ps := HX.out.set.same (hg3.block _ HX.out.set.lt (by simp))
      obtain ⟨Dt, hDt, hlt'⟩ := (HT.out.after hA3).ex
      have HX3 : Hid (x.length = 32 ∧ left (.string x) = true ∧ cnt3 < cnt ∧ k < maxLen) := ⟨h32, hlk, hlt3, by have h1 := HX.out.cnt; unfold maxLen; omega⟩
      have HFS : Hid (∀ cs : Array Value, ((w3.alloc (.cells cs 24)).setRow w3.heap.size (c8 x).toArray).heap[w3.heap.size]? = some (.cells (c8 x).toArray 24 (0, 0)) ∧ After w3 ((w3.alloc (.cells cs 24)).setRow w3.heap.size (c8 x).toArray) ∧ ((w3.alloc (.cells cs 24)).setRow w3.heap.size (c8 x).toArray).heap.size = w3.heap.size + 1) := fun cs => fresh_row w3 x cs
      have HF2 : Hid (∀ cs : Array Value, (((w3.alloc (.cells cs 24)).setRow w3.heap.size (c8 x).toArray).alloc (.cells #[] 62)).heap[w3.heap.size]? = some (.cells (c8 x).toArray 24 (0, 0)) ∧ After w3 (((w3.alloc (.cells cs 24)).setRow w3.heap.size (c8 x).toArray).alloc (.cells #[] 62))) := fun cs => ⟨by rw [Below.heap_alloc _ _ _ (by rw [(HFS.out cs).2.2]; omega)]; exact (HFS.out cs).1, after_alloc (HFS.out cs).2.1 _⟩
      have HDT := show Hid (World.ownsMap _ _ _ _ _ _ _) from hDt
      have hmem : Maps.has Dt (.string x) = decide (x ∈ lt) := by
        by_cases e : x ∈ lt
        · rw [(hlt' x).2 e]; simp [e]
        · rw [decide_eq_false e]; exact Bool.eq_false_iff.2 (fun h => e ((hlt' x).1 h))
      have HME : Hid (Maps.has Dt (.string x) = decide (x ∈ lt)) := hmem
      have HA3 := show Hid (After w w3) from hA3
      have HP3 := show Hid (SetAt _ _ _ _) from hP3
      have HRG3 := show Hid (World.ranges _ _ _ _ _ _ _ _ _ _) from hrg3
      have H32 : Hid (x.length = 32) := h32
      have hz := info24z
      clear h32 hlk hrg3 hlt3 hg3 hs3 hA3 hP3 hDt hlt' hmem hmp hr3
      by_cases hc : decide (x ∈ lt) = hs
      · have hcb : (Maps.has Dt (.string x) == hs) = true := by rw [HME.out, hc]; simp
        have HCC : Hid (decide (x ∈ lt) = hs) := hc
        clear hc
        go_wp2_with (first
          | (refine wpList_store_row rfl 24 (.tmp 8) (.tmp 17) rfl w3.heap.size (c8 x).toArray rfl rfl 24 _ (heap_alloc_new w3 _) (size24a H32.out) (by simp [c8_len, H32.out]) (hs_one x) ?_)
          | (refine wpList_load_row rfl 24 (.tmp 8) rfl w3.heap.size rfl 24 (c8 x).toArray (0, 0) _ (HFS.out _).1 Try.underlying24 rfl (size24a H32.out) ?_)
          | (at_lookup; refine wpList_lookup_own_unit _ rfl _ _ 45 rfl 24 62 keyed24 Try.underlying45 (by rw [info24z]) t nt Dt rfl (ownsMap_same HDT.out ((HFS.out _).2.1.block t HDT.out.lt)) (hv x) (.string x) rfl (keyOf24 H32.out) ?_)
          | (refine wpList_load_row rfl 24 (.tmp 8) rfl w3.heap.size rfl 24 (c8 x).toArray (0, 0) _ (HF2.out _).1 Try.underlying24 rfl (size24a H32.out) ?_)
          | (at_mapUpdate; refine wpList_putH rfl _ _ _ rfl rfl (HP3.out.after (HF2.out _).2) HX3.out.2.2.2 H32.out rfl rfl ?_; intro w5 hs5 hg5
             have HNX := show Hid (PaI _ _ _ _ _ _ _ _ _ _ _ _ _) from pa_put HX.out ((HRG3.out.kept (grown_none (HF2.out _).2) (by simp) (by simp)).kept hg5 (by simpa using hns) (by simp)) (after_grown (After.trans HA3.out (HF2.out _).2) hg5 (Nat.le_refl _) (fun i hi => by cases hi; exact Nat.le_refl _)) hs5 HX3.out.2.2.1 HX3.out.2.1 HCC.out
             clear hs5 hg5))
        go_roundw
        case rel => exact ⟨_, _, _, _, _, _, _, _, _, _, _, _, _, _, _, _, _, _, _, ⟨_, _, _, _, HNX⟩, rfl⟩
        case measure => rw [HNX.out.rng.left_eq, HX.out.rng.left_eq]; exact HX3.out.2.2.1
      · have hcb : (Maps.has Dt (.string x) == hs) = false := by rw [HME.out]; simpa using hc
        have HCC : Hid (¬ decide (x ∈ lt) = hs) := hc
        clear hc
        go_wp2_with (first
          | (refine wpList_store_row rfl 24 (.tmp 8) (.tmp 17) rfl w3.heap.size (c8 x).toArray rfl rfl 24 _ (heap_alloc_new w3 _) (size24a H32.out) (by simp [c8_len, H32.out]) (hs_one x) ?_)
          | (refine wpList_load_row rfl 24 (.tmp 8) rfl w3.heap.size rfl 24 (c8 x).toArray (0, 0) _ (HFS.out _).1 Try.underlying24 rfl (size24a H32.out) ?_)
          | (at_lookup; refine wpList_lookup_own_unit _ rfl _ _ 45 rfl 24 62 keyed24 Try.underlying45 (by rw [info24z]) t nt Dt rfl (ownsMap_same HDT.out ((HFS.out _).2.1.block t HDT.out.lt)) (hv x) (.string x) rfl (keyOf24 H32.out) ?_))
        have HN : Hid (∀ cs : Array Value, PaI w s w.heap.size (w.heap.size + 1) n D lt hs (fun z => left z && !z.sameKey (.string x)) cnt3 k ps (((w3.alloc (.cells cs 24)).setRow w3.heap.size (c8 x).toArray).alloc (.cells #[] 62))) := fun cs => pa_skip HX.out (HRG3.out.kept (grown_none (HF2.out cs).2) (by simp) (by simp)) (After.trans HA3.out (HF2.out cs).2) (HP3.out.after (HF2.out cs).2) HX3.out.2.2.1 HCC.out
        go_roundw
        case rel => exact ⟨_, _, _, _, HN.out _⟩
        case measure => rw [(HN.out _).rng.left_eq, HX.out.rng.left_eq]; exact HX3.out.2.2.1
theorem ListsAt.two (w : World) (ao bo : Option Addr) (n c m d : Nat) (la lb : List Hs) (ha32 : All32 la) (hb32 : All32 lb) (hla : la.length = n) (hlb : lb.length = m) (hA : HsAt w ao la) (hB : HsAt w bo lb) : ListsAt (w.alloc (.cells #[.slice ao n c, .slice bo m d] 22)) (some ⟨w.heap.size, 0, none⟩) [⟨ao, n, c, la⟩, ⟨bo, m, d, lb⟩] := fun _ => ⟨w.heap.size, 0, rfl, fun j x hj => by
  have hr := RowIs.new w 22 [.slice ao n c, .slice bo m d]
  cases j with
  | zero =>
    simp at hj; subst hj
    exact ⟨hr.cell (j := 0) rfl, hA.after (after_alloc (After.refl w) _), hla, ha32⟩
  | succ j =>
    cases j with
    | zero =>
      simp at hj; subst hj
      exact ⟨hr.cell (j := 1) rfl, hB.after (after_alloc (After.refl w) _), hlb, hb32⟩
    | succ j => simp at hj⟩
/-- What a sorted answer is. -/
def Ans (w w' : World) (v : Value) (n : Nat) (p : Hs → Prop) (s : List Hs) : Prop := OwnH w' w.heap.size v s ∧ All32 s ∧ Up s ∧ (∀ h, h ∈ s ↔ p h) ∧ s.length ≤ n ∧ After w w'
set_option maxRecDepth 100000 in
set_option maxHeartbeats 3200000 in
theorem union20 {M : Nat} (hM : SortOK M) (ao bo : Option Addr) (ca cb : Nat) (la lb : List Hs) (ha32 : All32 la) (hb32 : All32 lb) (n m : Nat) (hla : la.length = n) (hlb : lb.length = m) (hn : n + m ≤ M) (hbig : n + m ≤ 4398046511104) (w : World) (hA : HsAt w ao la) (hB : HsAt w bo lb) :
    Calls Try.prog 20 #[.slice ao n ca, .slice bo m cb] w fun e w' => ∃ v s, e = .returned v ∧ Ans w w' v (n + m) (fun h => h ∈ la ∨ h ∈ lb) s := by
  have hcat : catL [⟨ao, n, ca, la⟩, ⟨bo, m, cb, lb⟩] = la ++ lb := by simp [catL]
  have hll : (la ++ lb).length = n + m := by rw [List.length_append, hla, hlb]
  have hC := setOf_any (some ⟨w.heap.size, 0, none⟩) 2 [⟨ao, n, ca, la⟩, ⟨bo, m, cb, lb⟩] (by simp) (by rw [hcat, hll]; exact hbig) (w.alloc (.cells #[.slice ao n ca, .slice bo m cb] 22)) (ListsAt.two w ao bo n ca m cb la lb ha32 hb32 hla hlb hA hB)
  rw [hcat, hll, show (w.alloc (.cells #[.slice ao n ca, .slice bo m cb] 22)).heap.size = w.heap.size + 1 by simp] at hC
  have HC : Hid (Calls Try.prog 34 #[.slice (some ⟨w.heap.size, 0, none⟩) 2 2] (w.alloc (.cells #[.slice ao n ca, .slice bo m cb] 22)) fun e w' => e = .returned (.map (some (w.heap.size + 1))) ∧ SetAt w' (w.heap.size + 1) (n + m) (la ++ lb) ∧ After (w.alloc (.cells #[.slice ao n ca, .slice bo m cb] 22)) w') := hC
  have HM : Hid (SortOK M ∧ n + m ≤ M ∧ n + m ≤ 4398046511104) := ⟨hM, hn, hbig⟩
  have HAL : Hid (After w (w.alloc (.cells #[.slice ao n ca, .slice bo m cb] 22))) := after_alloc (After.refl w) _
  have hbs : (Instr.buildSlice 61 2 #[(0, .slice ao n ca), (1, .slice bo m cb)]).run Try.prog w = .ok (.slice (some ⟨w.heap.size, 0, none⟩) 2 2) (w.alloc (.cells #[.slice ao n ca, .slice bo m cb] 22)) := by kernel_rfl
  clear hA hB ha32 hb32 hla hlb hn hM hC hcat hll
  go_enter Try.func20, Try.ntmps20
  go_wp2_with (first
    | (go_at_call 34; refine Calls.mono HC.out ?_; rintro e w2 ⟨rfl, hs2, ha2⟩; have HS2 := show Hid (SetAt _ _ _ _) from hs2; have HA2 := show Hid (After _ w2) from ha2; clear hs2 ha2)
    | (go_at_call 35; refine Calls.mono (rising_any HM.out.1 (w.heap.size + 1) (n + m) (la ++ lb) HM.out.2.1 HM.out.2.2 w2 HS2.out) ?_; rintro e w3 ⟨v, s, rfl, h1, h2, h3, h4, h5, h6⟩; have HR := show Hid (OwnH w3 w2.heap.size v s ∧ All32 s ∧ Up s ∧ (∀ h, h ∈ s ↔ h ∈ la ++ lb) ∧ s.length ≤ n + m ∧ After w2 w3) from ⟨h1, h2, h3, h4, h5, h6⟩; clear h1 h2 h3 h4 h5 h6))
  go_ret
  have hA2 := After.trans HAL.out HA2.out
  exact ⟨v, s, rfl, HR.out.1.mono hA2.size, HR.out.2.1, HR.out.2.2.1, fun h => by rw [HR.out.2.2.2.1 h, List.mem_append], HR.out.2.2.2.2.1, After.trans hA2 HR.out.2.2.2.2.2⟩
end Go.Proofs.Ytedghldjpkabmaa
