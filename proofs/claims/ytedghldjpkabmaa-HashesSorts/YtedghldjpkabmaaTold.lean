/-
  WHAT Sort, Union, Minus AND Meet ANSWER, OVER LISTS THAT LIVE.
-/
import Derived.Test.YtedghldjpkabmaaPdq
import Derived.Test.YtedghldjpkabmaaParts2
import Derived.Test.YtedghldjpkabmaaEasy2
import Derived.Test.YtedghldjpkabmaaAwake
namespace Go.Proofs.Ytedghldjpkabmaa
open Go.RowKit
abbrev Lq := Option Addr × Nat × List Hs
structure LAt (W : World) (q : Lq) : Prop where
  at_ : HsAt W q.1 q.2.2
  a32 : All32 q.2.2
  len : q.2.2.length = q.2.1
def LsAll (W : World) (qs : List Lq) : Prop := ∀ q ∈ qs, LAt W q
theorem LsAll.after {W W' : World} {qs : List Lq} (h : LsAll W qs) (ha : After W W') : LsAll W' qs := fun q hq => ⟨(h q hq).at_.after ha, (h q hq).a32, (h q hq).len⟩
theorem LsAll.cons {W : World} {qs : List Lq} {q : Lq} (h1 : LAt W q) (h : LsAll W qs) : LsAll W (q :: qs) := fun x hx => by
  rcases List.mem_cons.1 hx with rfl | hx
  · exact h1
  · exact h x hx
/-- An answer: a rising list, told by its members. -/
structure Res (s : List Hs) (k N : Nat) (p : Hs → Prop) : Prop where
  up : Up s
  mem : ∀ h, h ∈ s ↔ p h
  len : s.length = k
  le : k ≤ N
def Told (W : World) (qs : List Lq) (N : Nat) (p : Hs → Prop) (e : Ending) (w' : World) : Prop :=
  ∃ (o : Option Addr) (k c : Nat) (s : List Hs), e = .returned (.slice o k c) ∧ LsAll w' ((o, k, s) :: qs) ∧ Res s k N p ∧ After W w'
theorem Told.mk {W w' : World} {qs : List Lq} {N : Nat} {p : Hs → Prop} (hs : LsAll W qs) {v : Value} {s : List Hs} (ho : OwnH w' W.heap.size v s) (h32 : All32 s) (hu : Up s) (hm : ∀ h, h ∈ s ↔ p h) (hl : s.length ≤ N) (ha : After W w') : Told W qs N p (.returned v) w' := by
  obtain ⟨ao, cap, rfl, hat, _⟩ := ho.at
  exact ⟨ao, s.length, cap, s, rfl, LsAll.cons ⟨hat, h32, rfl⟩ (hs.after ha), ⟨hu, hm, rfl, hl⟩, ha⟩
theorem sokM : SortOK 100000 := sortOK_all 100000 (by omega)
theorem sort_at {W : World} {qs : List Lq} (hs : LsAll W qs) {ao : Option Addr} {n : Nat} {l : List Hs} (ca : Nat) (hA : (ao, n, l) ∈ qs) (hn : n ≤ 100000) :
    Calls Try.prog 12 #[.slice ao n ca] W (Told W qs n (fun h => h ∈ l)) :=
  (sort12 sokM ao ca l (hs _ hA).a32 n (hs _ hA).len hn (by omega) W (hs _ hA).at_).mono (fun e w' ⟨v, s, he, ho, h32, hu, hm, hl, ha⟩ => he ▸ Told.mk hs ho h32 hu hm hl ha)

theorem union_at {W : World} {qs : List Lq} (hs : LsAll W qs) {ao bo : Option Addr} {n m : Nat} {la lb : List Hs} (ca cb : Nat) (hA : (ao, n, la) ∈ qs) (hB : (bo, m, lb) ∈ qs) (hn : n + m ≤ 100000) :
    Calls Try.prog 20 #[.slice ao n ca, .slice bo m cb] W (Told W qs (n + m) (fun h => h ∈ la ∨ h ∈ lb)) :=
  (union20 sokM ao bo ca cb la lb (hs _ hA).a32 (hs _ hB).a32 n m (hs _ hA).len (hs _ hB).len (by omega) (by omega) W (hs _ hA).at_ (hs _ hB).at_).mono (fun e w' ⟨v, s, he, hh⟩ => he ▸ Told.mk hs hh.1 hh.2.1 hh.2.2.1 hh.2.2.2.1 hh.2.2.2.2.1 hh.2.2.2.2.2)
theorem minus_at {W : World} {qs : List Lq} (hs : LsAll W qs) {ao bo : Option Addr} {n m : Nat} {la lb : List Hs} (ca cb : Nat) (hA : (ao, n, la) ∈ qs) (hB : (bo, m, lb) ∈ qs) (hn : n + m ≤ 100000) :
    Calls Try.prog 22 #[.slice ao n ca, .slice bo m cb] W (Told W qs (n) (fun h => h ∈ la ∧ ¬ h ∈ lb)) :=
  (minus22 sokM ao bo ca cb la lb (hs _ hA).a32 (hs _ hB).a32 n m (hs _ hA).len (hs _ hB).len (by omega) (by omega) (by omega) W (hs _ hA).at_ (hs _ hB).at_).mono (fun e w' ⟨v, s, he, hh⟩ => he ▸ Told.mk hs hh.1 hh.2.1 hh.2.2.1 hh.2.2.2.1 hh.2.2.2.2.1 hh.2.2.2.2.2)
theorem meet_at {W : World} {qs : List Lq} (hs : LsAll W qs) {ao bo : Option Addr} {n m : Nat} {la lb : List Hs} (ca cb : Nat) (hA : (ao, n, la) ∈ qs) (hB : (bo, m, lb) ∈ qs) (hn : n + m ≤ 100000) :
    Calls Try.prog 24 #[.slice ao n ca, .slice bo m cb] W (Told W qs (n) (fun h => h ∈ la ∧ h ∈ lb)) :=
  (meet24 sokM ao bo ca cb la lb (hs _ hA).a32 (hs _ hB).a32 n m (hs _ hA).len (hs _ hB).len (by omega) (by omega) (by omega) W (hs _ hA).at_ (hs _ hB).at_).mono (fun e w' ⟨v, s, he, hh⟩ => he ▸ Told.mk hs hh.1 hh.2.1 hh.2.2.1 hh.2.2.2.1 hh.2.2.2.2.1 hh.2.2.2.2.2)
theorem same_at {W : World} {qs : List Lq} (hs : LsAll W qs) {ao bo : Option Addr} {n m : Nat} {la lb : List Hs} (ca cb : Nat) (hA : (ao, n, la) ∈ qs) (hB : (bo, m, lb) ∈ qs) (hn : n + m ≤ 100000) {t : Bool} (ht : decide (la = lb) = t) :
    Calls Try.prog 17 #[.slice ao n ca, .slice bo m cb] W fun e w' => e = .returned (.bool t) ∧ LsAll w' qs ∧ After W w' :=
  (same17 ao bo ca cb la lb (hs _ hA).a32 (hs _ hB).a32 n m (hs _ hA).len (hs _ hB).len (by omega) W (hs _ hA).at_ (hs _ hB).at_).mono (fun e w' ⟨he, ha⟩ => ⟨by rw [he, ht], hs.after ha, ha⟩)
theorem rising_at {W : World} {qs : List Lq} (hs : LsAll W qs) {ao : Option Addr} {n : Nat} {l : List Hs} (ca : Nat) (hA : (ao, n, l) ∈ qs) (hn : n ≤ 100000) (hu : Up l) :
    Calls Try.prog 15 #[.slice ao n ca] W fun e w' => e = .returned (.bool true) ∧ LsAll w' qs ∧ After W w' :=
  (rising15 ao ca l (hs _ hA).a32 n (hs _ hA).len (by omega) W (hs _ hA).at_).mono (fun e w' ⟨he, ha⟩ => ⟨by rw [he, hu.upB (hs _ hA).a32], hs.after ha, ha⟩)
theorem Res.eq {s t : List Hs} {k j N M : Nat} {p q : Hs → Prop} (h : Res s k N p) (g : Res t j M q) (e : ∀ x, p x ↔ q x) : s = t := h.up.unique g.up (fun x => (h.mem x).trans ((e x).trans (g.mem x).symm))
set_option maxRecDepth 100000 in
theorem few_any (ao : Option Addr) (n ca : Nat) (hbig : n ≤ 1152921504606846976) (w : World) {t : Bool} (ht : decide (n ≤ 2000) = t) : Calls Try.prog 10 #[.slice ao n ca] w fun e w' => e = .returned (.bool t) ∧ w' = w := by
  subst ht
  by_cases h : n ≤ 2000
  · have hz : (n : Int) ≤ 2000 := by omega
    go_enter Try.func10, Try.ntmps10
    go_wp2
    go_ret
    simp [h]
  · have hz : ¬ (n : Int) ≤ 2000 := by omega
    go_enter Try.func10, Try.ntmps10
    go_wp2
    go_ret
    simp
end Go.Proofs.Ytedghldjpkabmaa
