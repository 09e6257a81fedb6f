/-
  awake (12): what every right program does with three cells.
-/
import Derived.Test.YtiglenomigipmaaRT
import Derived.Test.YtiglenomigipmaaRN
namespace Go.Proofs.Ytiglenomigipmaa
open Go.RowKit Go.Shelf
theorem Insert_ok {w : World} {base g : Nat} {st : List Stm} {D : RwD} (h : RowAt w base g st D) {af id : Idn} (ha : af.Ok) (hi : id.Ok) (c : UInt8) (he : insE st af id = 0) {q : Nat} {s : Stm} (hq : (plc st af).getD 0 = q) (hs : st[q]? = some s) (hbl : ∀ b ∈ s.below, b < st.length)
    (hup : ∀ i j, i ≤ j → j < s.below.length → ltI id (idAt st (s.below.getD i 0)) = true → ltI id (idAt st (s.below.getD j 0)) = true) (hsm : st.length ≤ 1000000) (hsb : s.below.length ≤ 1000000) :
    Calls Try.prog 22 #[.pointer (some ⟨g, 0, none⟩), idv af, idv id, .int .u8 (c.toNat : Int)] w fun e w' => e = .returned (pv 0) ∧ ∃ D', RowAt w' base g (insS st q s id c) D' ∧ (∀ k, Foot g D' k → Foot g D k ∨ w.heap.size ≤ k) ∧ KeptF (Foot g D) w w' := by
  by_cases hz : af = zId
  · exact Insert_okA h ha hi c he hq hs hbl hup hsm hsb hz
  · exact Insert_okB h ha hi c he hq hs hbl hup hsm hsb hz
def iN (n : Int) : Idn := ⟨n, List.replicate 32 0⟩
theorem iN_ok {n : Int} (h1 : 0 ≤ n) (h2 : n ≤ 1000) : (iN n).Ok := ⟨by show _ ≤ n; omega, by show n ≤ _; omega, by simp [iN]⟩
def A1 : List Stm := [⟨zId, 0, false, [1]⟩, ⟨iN 1, 97, false, []⟩]
def A2 : List Stm := [⟨zId, 0, false, [1]⟩, ⟨iN 1, 97, false, [2]⟩, ⟨iN 2, 98, false, []⟩]
def A3 : List Stm := [⟨zId, 0, false, [1]⟩, ⟨iN 1, 97, false, [2, 3]⟩, ⟨iN 2, 98, false, []⟩, ⟨iN 3, 99, false, []⟩]
theorem reach3 {V T : List Nat} (h : Reach A3 V T) : (V = [] ∧ T = [1]) ∨ (V = [1] ∧ T = [2, 3]) ∨ (V = [1, 3] ∧ T = [2]) ∨ (V = [1, 3, 2] ∧ T = []) := by
  induction h with
  | @start s h0 =>
    have : (⟨zId, 0, false, [1]⟩ : Stm) = s := by simpa [A3] using h0
    subst this
    exact .inl ⟨rfl, rfl⟩
  | @step V T t s h ht ih =>
    rcases ih with ⟨rfl, e⟩ | ⟨rfl, e⟩ | ⟨rfl, e⟩ | ⟨rfl, e⟩
    · obtain ⟨rfl, rfl⟩ := snoc_inj (b := []) e
      have : (⟨iN 1, 97, false, [2, 3]⟩ : Stm) = s := by simpa [A3] using ht
      subst this
      exact .inr (.inl ⟨rfl, rfl⟩)
    · obtain ⟨rfl, rfl⟩ := snoc_inj (b := [2]) e
      have : (⟨iN 3, 99, false, []⟩ : Stm) = s := by simpa [A3] using ht
      subst this
      exact .inr (.inr (.inl ⟨rfl, rfl⟩))
    · obtain ⟨rfl, rfl⟩ := snoc_inj (b := []) e
      have : (⟨iN 2, 98, false, []⟩ : Stm) = s := by simpa [A3] using ht
      subst this
      exact .inr (.inr (.inr ⟨rfl, rfl⟩))
    · simp at e
theorem done3 {U : List Nat} (h : Reach A3 U []) : textOf A3 U = [97, 99, 98] := by
  rcases reach3 h with ⟨_, e⟩ | ⟨_, e⟩ | ⟨_, e⟩ | ⟨rfl, _⟩
  · cases e
  · cases e
  · cases e
  · decide
set_option maxRecDepth 100000 in
theorem ins_a1 {W : World} {base g : Nat} {D : RwD} (h : RowAt W base g [root] D) : Calls Try.prog 22 #[.pointer (some ⟨g, 0, none⟩), idv zId, idv (iN 1), .int .u8 97] W fun e w' => e = .returned (pv 0) ∧ ∃ D', RowAt w' base g A1 D' ∧ Below base W w' := by
  refine Calls.mono (Insert_ok h zId_ok (iN_ok (by omega) (by omega)) 97 (q := 0) (s := root) (by decide) (by decide) rfl (fun b hb => by cases hb) (fun i j _ hj => by cases hj) (by decide) (by decide)) (fun e w' ⟨he, D', h1, h2, h3⟩ => ⟨he, D', h1, h3.below h.bs (fun x hx => (h.foot hx).1)⟩)
theorem ins_a2 {W : World} {base g : Nat} {D : RwD} (h : RowAt W base g A1 D) : Calls Try.prog 22 #[.pointer (some ⟨g, 0, none⟩), idv (iN 1), idv (iN 2), .int .u8 98] W fun e w' => e = .returned (pv 0) ∧ ∃ D', RowAt w' base g A2 D' ∧ Below base W w' := by
  refine Calls.mono (Insert_ok h (iN_ok (by omega) (by omega)) (iN_ok (by omega) (by omega)) 98 (q := 1) (s := ⟨iN 1, 97, false, []⟩) (by decide) (by decide) rfl (fun b hb => by cases hb) (fun i j _ hj => by cases hj) (by decide) (by decide)) (fun e w' ⟨he, D', h1, h2, h3⟩ => ⟨he, D', h1, h3.below h.bs (fun x hx => (h.foot hx).1)⟩)
theorem ins_a3 {W : World} {base g : Nat} {D : RwD} (h : RowAt W base g A2 D) : Calls Try.prog 22 #[.pointer (some ⟨g, 0, none⟩), idv (iN 1), idv (iN 3), .int .u8 99] W fun e w' => e = .returned (pv 0) ∧ ∃ D', RowAt w' base g A3 D' ∧ Below base W w' := by
  refine Calls.mono (Insert_ok h (iN_ok (by omega) (by omega)) (iN_ok (by omega) (by omega)) 99 (q := 1) (s := ⟨iN 1, 97, false, [2]⟩) (by decide) (by decide) rfl (fun b hb => by simp at hb; subst hb; decide) (fun i j hij hj hh => by
    have hj0 : j = 0 := by simp at hj; omega
    have hi0 : i = 0 := by omega
    rw [hj0]; rw [hi0] at hh; exact hh) (by decide) (by decide)) (fun e w' ⟨he, D', h1, h2, h3⟩ => ⟨he, D', h1, h3.below h.bs (fun x hx => (h.foot hx).1)⟩)
section
variable {oi : Oper} {a : Act} {w : World}
theorem x_b37 {n : Int} (hop : oi.op = .build 37 #[(0, .const (.int .i64 n))]) : (execOp a.eval oi).run Try.prog w = .ok (.value (idv (iN n))) w := by
  have h := run_build (P := Try.prog) w 37 #[(0, .int .i64 n)] (idc (iN n)).toArray (by kernel_rfl)
  unfold execOp
  simp only [hop]
  simp [Act.eval, h]
  rfl
end
set_option maxRecDepth 100000 in
set_option maxHeartbeats 3200000 in
theorem awake_any (w : World) : Calls Try.prog 12 #[] w fun e w' => e = .returned (.bool true) ∧ After w w' := by
  have HC1 : Hid (∀ (W : World) (base g : Nat) (D : RwD), RowAt W base g [root] D → Calls Try.prog 22 #[.pointer (some ⟨g, 0, none⟩), idv zId, idv (iN 1), .int .u8 97] W fun e w' => e = .returned (pv 0) ∧ ∃ D', RowAt w' base g A1 D' ∧ Below base W w') := fun _ _ _ _ h => ins_a1 h
  have HC2 : Hid (∀ (W : World) (base g : Nat) (D : RwD), RowAt W base g A1 D → Calls Try.prog 22 #[.pointer (some ⟨g, 0, none⟩), idv (iN 1), idv (iN 2), .int .u8 98] W fun e w' => e = .returned (pv 0) ∧ ∃ D', RowAt w' base g A2 D' ∧ Below base W w') := fun _ _ _ _ h => ins_a2 h
  have HC3 : Hid (∀ (W : World) (base g : Nat) (D : RwD), RowAt W base g A2 D → Calls Try.prog 22 #[.pointer (some ⟨g, 0, none⟩), idv (iN 1), idv (iN 3), .int .u8 99] W fun e w' => e = .returned (pv 0) ∧ ∃ D', RowAt w' base g A3 D' ∧ Below base W w') := fun _ _ _ _ h => ins_a3 h
  have HT : Hid (∀ (W : World) (base g : Nat) (D : RwD), RowAt W base g A3 D → Calls Try.prog 25 #[.pointer (some ⟨g, 0, none⟩)] W fun e w' => ∃ v, e = .returned v ∧ Own w' W.heap.size v [97, 99, 98] ∧ After W w') := fun W base g D h => Calls.mono (Text_any h (N := 4) (fun V T hr => by rcases reach3 hr with ⟨rfl, rfl⟩ | ⟨rfl, rfl⟩ | ⟨rfl, rfl⟩ | ⟨rfl, rfl⟩ <;> decide) (fun V T hr t ht => by
    show t < 4
    rcases reach3 hr with ⟨_, e⟩ | ⟨_, e⟩ | ⟨_, e⟩ | ⟨_, e⟩ <;> rw [e] at ht <;> simp at ht <;> omega) (by omega)) (fun e w' ⟨v, U, he, hre, ho, ha⟩ => ⟨v, he, by rw [done3 hre] at ho; exact ho, ha⟩)
  have HN : Hid (Calls Try.prog 13 #[] w fun e w' => ∃ g D, e = .returned (.pointer (some ⟨g, 0, none⟩)) ∧ RowAt w' w.heap.size g [root] D ∧ After w w') := New_any w
  go_enter Try.func12, Try.ntmps12
  go_wp2_with (first
    | (go_at_call 13; refine Calls.mono HN.out ?_; rintro e w1 ⟨g, D1, rfl, hr1, ha1⟩; have H1 := show Hid (RowAt w1 w.heap.size g [root] D1 ∧ After w w1) from ⟨hr1, ha1⟩; clear hr1 ha1 HN)
    | (refine wpListG_of_run (by kernel_rfl) (x_zb37 rfl) ?_)
    | (refine wpListG_of_run (by kernel_rfl) (x_b37 (n := 1) rfl) ?_)
    | (refine wpListG_of_run (by kernel_rfl) (x_b37 (n := 2) rfl) ?_)
    | (refine wpListG_of_run (by kernel_rfl) (x_b37 (n := 3) rfl) ?_)
    | (go_at_call 22; refine Calls.mono (HC1.out w1 w.heap.size g D1 H1.out.1) ?_; clear HC1; rintro e w2 ⟨rfl, D2, hr2, hb2⟩; have H2 := show Hid (RowAt w2 w.heap.size g A1 D2 ∧ Below w.heap.size w1 w2) from ⟨hr2, hb2⟩; clear hr2 hb2)
    | (go_at_call 22; refine Calls.mono (HC2.out w2 w.heap.size g D2 H2.out.1) ?_; clear HC2; rintro e w3 ⟨rfl, D3, hr3, hb3⟩; have H3 := show Hid (RowAt w3 w.heap.size g A2 D3 ∧ Below w.heap.size w2 w3) from ⟨hr3, hb3⟩; clear hr3 hb3)
    | (go_at_call 22; refine Calls.mono (HC3.out w3 w.heap.size g D3 H3.out.1) ?_; clear HC3; rintro e w4 ⟨rfl, D4, hr4, hb4⟩; have H4 := show Hid (RowAt w4 w.heap.size g A3 D4 ∧ Below w.heap.size w3 w4) from ⟨hr4, hb4⟩; clear hr4 hb4)
    | (go_at_call 25; refine Calls.mono (HT.out w4 w.heap.size g D4 H4.out.1) ?_; rintro e w5 ⟨v, rfl, ho5, ha5⟩; have H5 := show Hid (Own w5 w4.heap.size v [97, 99, 98] ∧ After w4 w5) from ⟨ho5, ha5⟩; clear ho5 ha5)
    | (refine wpList_of_run rfl (x_conv (x := .tmp 27) rfl rfl H5.out.1.conv) ?_)
    | (refine wpList_of_run rfl (x_streq (x := .tmp 28) (y := .const (.string ⟨#[97, 99, 98]⟩)) rfl rfl rfl rfl) ?_))
  go_ret
  exact ⟨rfl, Below.trans (Below.trans (Below.trans (Below.trans H1.out.2 H2.out.2) H3.out.2) H4.out.2) (Below.mono (show Below w4.heap.size w4 w5 from H5.out.2) H4.out.1.bs)⟩
end Go.Proofs.Ytiglenomigipmaa
