/-
  THE WALKS OF hashes.Minus AND hashes.Meet.
-/
import Derived.Test.YtedghldjpkabmaaParts
namespace Go.Proofs.Ytedghldjpkabmaa
open Go.RowKit Go.Maps Go.Sort
theorem setOf_one (W : World) (ao : Option Addr) (n ca : Nat) (l : List Hs) (h32 : All32 l) (hl : l.length = n) (hbig : n ≤ 4398046511104) (hA : HsAt W ao l) :
    Calls Try.prog 34 #[.slice (some ⟨W.heap.size, 0, none⟩) 1 1] (W.alloc (.cells #[.slice ao n ca] 22)) fun e w' => e = .returned (.map (some (W.heap.size + 1))) ∧ SetAt w' (W.heap.size + 1) n l ∧ After W w' := by
  have hcat : catL [⟨ao, n, ca, l⟩] = l := by simp [catL]
  have hC := setOf_any (some ⟨W.heap.size, 0, none⟩) 1 [⟨ao, n, ca, l⟩] (by simp) (by rw [hcat, hl]; exact hbig) (W.alloc (.cells #[.slice ao n ca] 22)) (ListsAt.one W ao n ca l h32 hl hA)
  rw [hcat, hl, show (W.alloc (.cells #[.slice ao n ca] 22)).heap.size = W.heap.size + 1 by simp] at hC
  exact hC.mono (fun e w' ⟨h1, h2, h3⟩ => ⟨h1, h2, After.trans (after_alloc (After.refl W) _) h3⟩)
theorem bs61 (W : World) (ao : Option Addr) (n ca : Nat) : (Instr.buildSlice 61 1 #[(0, .slice ao n ca)]).run Try.prog W = .ok (.slice (some ⟨W.heap.size, 0, none⟩) 1 1) (W.alloc (.cells #[.slice ao n ca] 22)) := by kernel_rfl
set_option maxRecDepth 100000 in
set_option maxHeartbeats 3200000 in
theorem minus22 {M : Nat} (hM : SortOK M) (ao bo : Option Addr) (ca cb : Nat) (la lb : List Hs) (ha32 : All32 la) (hb32 : All32 lb) (n m : Nat) (hla : la.length = n) (hlb : lb.length = m) (hn : n ≤ M) (hbig : n ≤ 4398046511104) (hbig2 : m ≤ 4398046511104) (w : World) (hA : HsAt w ao la) (hB : HsAt w bo lb) :
    Calls Try.prog 22 #[.slice ao n ca, .slice bo m cb] w fun e w' => ∃ v s, e = .returned v ∧ Ans w w' v n (fun h => h ∈ la ∧ ¬ h ∈ lb) s := by
  have HM : Hid (SortOK M ∧ n ≤ M ∧ n ≤ 4398046511104 ∧ m ≤ 4398046511104) := ⟨hM, hn, hbig, hbig2⟩
  have HFA : Hid (HsAt w ao la ∧ All32 la ∧ la.length = n) := ⟨hA, ha32, hla⟩
  have HFB : Hid (HsAt w bo lb ∧ All32 lb ∧ lb.length = m) := ⟨hB, hb32, hlb⟩
  have hb1 := fun W => bs61 W ao n ca
  have hb2 := fun W => bs61 W bo m cb
  clear hA hB ha32 hb32 hla hlb hn hM hbig hbig2
  go_enter Try.func22, Try.ntmps22
  have HTOK : Hid True := trivial
  go_wp2_with (first
    | (go_at_call 34; clear HTOK; refine Calls.mono (setOf_one w ao n ca la HFA.out.2.1 HFA.out.2.2 HM.out.2.2.1 HFA.out.1) ?_; rintro e w2 ⟨rfl, hs2, ha2⟩; have HS2 := show Hid (SetAt _ _ _ _) from hs2; have HA2 := show Hid (After w w2) from ha2; clear hs2 ha2)
    | (go_at_call 34; refine Calls.mono (setOf_one w2 bo m cb lb HFB.out.2.1 HFB.out.2.2 HM.out.2.2.2 (HFB.out.1.after HA2.out)) ?_; rintro e w3 ⟨rfl, hs3, ha3⟩; have HS3 := show Hid (SetAt _ _ _ _) from hs3; have HA3 := show Hid (After w2 w3) from ha3; clear hs3 ha3)
    | (go_at_call 41; refine Calls.mono (part41 (w.heap.size + 1) (w2.heap.size + 1) n m la lb false HM.out.2.2.1 w3 (HS2.out.after HA3.out) HS3.out) ?_; rintro e w4 ⟨ps, rfl, hs4, hm4, ha4⟩; have HS4 := show Hid (SetAt _ _ _ _ ∧ ∀ h, h ∈ ps ↔ (h ∈ la ∧ decide (h ∈ lb) = false)) from ⟨hs4, hm4⟩; have HA4 := show Hid (After w3 w4) from ha4; clear hs4 ha4 hm4)
    | (go_at_call 35; refine Calls.mono (rising_any HM.out.1 w3.heap.size n ps HM.out.2.1 HM.out.2.2.1 w4 HS4.out.1) ?_; rintro e w5 ⟨v, s, rfl, h1, h2, h3, h4, h5, h6⟩; have HR := show Hid (OwnH w5 w4.heap.size v s ∧ All32 s ∧ Up s ∧ (∀ h, h ∈ s ↔ h ∈ ps) ∧ s.length ≤ n ∧ After w4 w5) from ⟨h1, h2, h3, h4, h5, h6⟩; clear h1 h2 h3 h4 h5 h6))
  go_ret
  have hA4 := After.trans (After.trans HA2.out HA3.out) HA4.out
  exact ⟨v, s, rfl, HR.out.1.mono hA4.size, HR.out.2.1, HR.out.2.2.1, fun h => by rw [HR.out.2.2.2.1 h, HS4.out.2 h]; simp, HR.out.2.2.2.2.1, After.trans hA4 HR.out.2.2.2.2.2⟩
set_option maxRecDepth 100000 in
set_option maxHeartbeats 3200000 in
theorem meet24 {M : Nat} (hM : SortOK M) (ao bo : Option Addr) (ca cb : Nat) (la lb : List Hs) (ha32 : All32 la) (hb32 : All32 lb) (n m : Nat) (hla : la.length = n) (hlb : lb.length = m) (hn : n ≤ M) (hbig : n ≤ 4398046511104) (hbig2 : m ≤ 4398046511104) (w : World) (hA : HsAt w ao la) (hB : HsAt w bo lb) :
    Calls Try.prog 24 #[.slice ao n ca, .slice bo m cb] w fun e w' => ∃ v s, e = .returned v ∧ Ans w w' v n (fun h => h ∈ la ∧ h ∈ lb) s := by
  have HM : Hid (SortOK M ∧ n ≤ M ∧ n ≤ 4398046511104 ∧ m ≤ 4398046511104) := ⟨hM, hn, hbig, hbig2⟩
  have HFA : Hid (HsAt w ao la ∧ All32 la ∧ la.length = n) := ⟨hA, ha32, hla⟩
  have HFB : Hid (HsAt w bo lb ∧ All32 lb ∧ lb.length = m) := ⟨hB, hb32, hlb⟩
  have hb1 := fun W => bs61 W ao n ca
  have hb2 := fun W => bs61 W bo m cb
  clear hA hB ha32 hb32 hla hlb hn hM hbig hbig2
  go_enter Try.func24, Try.ntmps24
  have HTOK : Hid True := trivial
  go_wp2_with (first
    | (go_at_call 34; clear HTOK; refine Calls.mono (setOf_one w ao n ca la HFA.out.2.1 HFA.out.2.2 HM.out.2.2.1 HFA.out.1) ?_; rintro e w2 ⟨rfl, hs2, ha2⟩; have HS2 := show Hid (SetAt _ _ _ _) from hs2; have HA2 := show Hid (After w w2) from ha2; clear hs2 ha2)
    | (go_at_call 34; refine Calls.mono (setOf_one w2 bo m cb lb HFB.out.2.1 HFB.out.2.2 HM.out.2.2.2 (HFB.out.1.after HA2.out)) ?_; rintro e w3 ⟨rfl, hs3, ha3⟩; have HS3 := show Hid (SetAt _ _ _ _) from hs3; have HA3 := show Hid (After w2 w3) from ha3; clear hs3 ha3)
    | (go_at_call 41; refine Calls.mono (part41 (w.heap.size + 1) (w2.heap.size + 1) n m la lb true HM.out.2.2.1 w3 (HS2.out.after HA3.out) HS3.out) ?_; rintro e w4 ⟨ps, rfl, hs4, hm4, ha4⟩; have HS4 := show Hid (SetAt _ _ _ _ ∧ ∀ h, h ∈ ps ↔ (h ∈ la ∧ decide (h ∈ lb) = true)) from ⟨hs4, hm4⟩; have HA4 := show Hid (After w3 w4) from ha4; clear hs4 ha4 hm4)
    | (go_at_call 35; refine Calls.mono (rising_any HM.out.1 w3.heap.size n ps HM.out.2.1 HM.out.2.2.1 w4 HS4.out.1) ?_; rintro e w5 ⟨v, s, rfl, h1, h2, h3, h4, h5, h6⟩; have HR := show Hid (OwnH w5 w4.heap.size v s ∧ All32 s ∧ Up s ∧ (∀ h, h ∈ s ↔ h ∈ ps) ∧ s.length ≤ n ∧ After w4 w5) from ⟨h1, h2, h3, h4, h5, h6⟩; clear h1 h2 h3 h4 h5 h6))
  go_ret
  have hA4 := After.trans (After.trans HA2.out HA3.out) HA4.out
  exact ⟨v, s, rfl, HR.out.1.mono hA4.size, HR.out.2.1, HR.out.2.2.1, fun h => by rw [HR.out.2.2.2.1 h, HS4.out.2 h]; simp, HR.out.2.2.2.2.1, After.trans hA4 HR.out.2.2.2.2.2⟩
end Go.Proofs.Ytedghldjpkabmaa
