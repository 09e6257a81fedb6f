/-
  hashes: Parts Told (of its own seat, carried over).
-/
import Derived.Test.YtcmcapcagblafaaQG
namespace Go.Proofs.Ytcmcapcagblafaa
section
open Go.RowKit Go.Maps
theorem SetAt.map {w : World} {b n : Nat} {l : List Hs} (h : SetAt w b n l) : ∃ es clock, w.heap[b]? = some (.map es clock) := by
  obtain ⟨D, ⟨es, clock, hb, _⟩, _⟩ := h.ex
  exact ⟨es, clock, hb⟩
theorem ListsAt.two (w : World) (ao bo : Option Addr) (n c m d : Nat) (la lb : List Hs) (ha32 : All32 la) (hb32 : All32 lb) (hla : la.length = n) (hlb : lb.length = m) (hA : HsAt w ao la) (hB : HsAt w bo lb) : ListsAt (w.alloc (.cells #[.slice ao n c, .slice bo m d] 39)) (some ⟨w.heap.size, 0, none⟩) [⟨ao, n, c, la⟩, ⟨bo, m, d, lb⟩] := fun _ => ⟨w.heap.size, 0, rfl, fun j x hj => by
  have hr := RowIs.new w 39 [.slice ao n c, .slice bo m d]
  cases j with
  | zero =>
    simp at hj; subst hj
    exact ⟨hr.cell (j := 0) rfl, hA.after (after_alloc (After.refl w) _), hla, ha32⟩
  | succ j =>
    cases j with
    | zero =>
      simp at hj; subst hj
      exact ⟨hr.cell (j := 1) rfl, hB.after (after_alloc (After.refl w) _), hlb, hb32⟩
    | succ j => simp at hj⟩
/-- What a sorted answer is. -/
def Ans (w w' : World) (v : Value) (n : Nat) (p : Hs → Prop) (s : List Hs) : Prop := OwnH w' w.heap.size v s ∧ All32 s ∧ Up s ∧ (∀ h, h ∈ s ↔ p h) ∧ s.length ≤ n ∧ After w w'
set_option maxRecDepth 100000 in
set_option maxHeartbeats 3200000 in
theorem union20 {M : Nat} (hM : SortOK M) (ao bo : Option Addr) (ca cb : Nat) (la lb : List Hs) (ha32 : All32 la) (hb32 : All32 lb) (n m : Nat) (hla : la.length = n) (hlb : lb.length = m) (hn : n + m ≤ M) (hbig : n + m ≤ 4398046511104) (w : World) (hA : HsAt w ao la) (hB : HsAt w bo lb) :
    Calls Try.prog 19 #[.slice ao n ca, .slice bo m cb] w fun e w' => ∃ v s, e = .returned v ∧ Ans w w' v (n + m) (fun h => h ∈ la ∨ h ∈ lb) s := by
  have hcat : catL [⟨ao, n, ca, la⟩, ⟨bo, m, cb, lb⟩] = la ++ lb := by simp [catL]
  have hll : (la ++ lb).length = n + m := by rw [List.length_append, hla, hlb]
  have hC := setOf_any (some ⟨w.heap.size, 0, none⟩) 2 [⟨ao, n, ca, la⟩, ⟨bo, m, cb, lb⟩] (by simp) (by rw [hcat, hll]; exact hbig) (w.alloc (.cells #[.slice ao n ca, .slice bo m cb] 39)) (ListsAt.two w ao bo n ca m cb la lb ha32 hb32 hla hlb hA hB)
  rw [hcat, hll, show (w.alloc (.cells #[.slice ao n ca, .slice bo m cb] 39)).heap.size = w.heap.size + 1 by simp] at hC
  have HC : Hid (Calls Try.prog 38 #[.slice (some ⟨w.heap.size, 0, none⟩) 2 2] (w.alloc (.cells #[.slice ao n ca, .slice bo m cb] 39)) fun e w' => e = .returned (.map (some (w.heap.size + 1))) ∧ SetAt w' (w.heap.size + 1) (n + m) (la ++ lb) ∧ After (w.alloc (.cells #[.slice ao n ca, .slice bo m cb] 39)) w') := hC
  have HM : Hid (SortOK M ∧ n + m ≤ M ∧ n + m ≤ 4398046511104) := ⟨hM, hn, hbig⟩
  have HAL : Hid (After w (w.alloc (.cells #[.slice ao n ca, .slice bo m cb] 39))) := after_alloc (After.refl w) _
  have hbs : (Instr.buildSlice 104 2 #[(0, .slice ao n ca), (1, .slice bo m cb)]).run Try.prog w = .ok (.slice (some ⟨w.heap.size, 0, none⟩) 2 2) (w.alloc (.cells #[.slice ao n ca, .slice bo m cb] 39)) := by kernel_rfl
  clear hA hB ha32 hb32 hla hlb hn hM hC hcat hll
  go_enter Try.func19, Try.ntmps19
  go_wp2_with (first
    | (go_at_call 38; refine Calls.mono HC.out ?_; rintro e w2 ⟨rfl, hs2, ha2⟩; have HS2 := show Hid (SetAt _ _ _ _) from hs2; have HA2 := show Hid (After _ w2) from ha2; clear hs2 ha2)
    | (go_at_call 39; refine Calls.mono (rising_any HM.out.1 (w.heap.size + 1) (n + m) (la ++ lb) HM.out.2.1 HM.out.2.2 w2 HS2.out) ?_; rintro e w3 ⟨v, s, rfl, h1, h2, h3, h4, h5, h6⟩; have HR := show Hid (OwnH w3 w2.heap.size v s ∧ All32 s ∧ Up s ∧ (∀ h, h ∈ s ↔ h ∈ la ++ lb) ∧ s.length ≤ n + m ∧ After w2 w3) from ⟨h1, h2, h3, h4, h5, h6⟩; clear h1 h2 h3 h4 h5 h6))
  go_ret
  have hA2 := After.trans HAL.out HA2.out
  exact ⟨v, s, rfl, HR.out.1.mono hA2.size, HR.out.2.1, HR.out.2.2.1, fun h => by rw [HR.out.2.2.2.1 h, List.mem_append], HR.out.2.2.2.2.1, After.trans hA2 HR.out.2.2.2.2.2⟩
end
section
open Go.RowKit
abbrev Lq := Option Addr × Nat × List Hs
structure LAt (W : World) (q : Lq) : Prop where
  at_ : HsAt W q.1 q.2.2
  a32 : All32 q.2.2
  len : q.2.2.length = q.2.1
def LsAll (W : World) (qs : List Lq) : Prop := ∀ q ∈ qs, LAt W q
theorem LsAll.after {W W' : World} {qs : List Lq} (h : LsAll W qs) (ha : After W W') : LsAll W' qs := fun q hq => ⟨(h q hq).at_.after ha, (h q hq).a32, (h q hq).len⟩
theorem LsAll.cons {W : World} {qs : List Lq} {q : Lq} (h1 : LAt W q) (h : LsAll W qs) : LsAll W (q :: qs) := fun x hx => by
  rcases List.mem_cons.1 hx with rfl | hx
  · exact h1
  · exact h x hx
/-- An answer: a rising list, told by its members. -/
structure Res (s : List Hs) (k N : Nat) (p : Hs → Prop) : Prop where
  up : Up s
  mem : ∀ h, h ∈ s ↔ p h
  len : s.length = k
  le : k ≤ N
def Told (W : World) (qs : List Lq) (N : Nat) (p : Hs → Prop) (e : Ending) (w' : World) : Prop :=
  ∃ (o : Option Addr) (k c : Nat) (s : List Hs), e = .returned (.slice o k c) ∧ LsAll w' ((o, k, s) :: qs) ∧ Res s k N p ∧ After W w'
theorem Told.mk {W w' : World} {qs : List Lq} {N : Nat} {p : Hs → Prop} (hs : LsAll W qs) {v : Value} {s : List Hs} (ho : OwnH w' W.heap.size v s) (h32 : All32 s) (hu : Up s) (hm : ∀ h, h ∈ s ↔ p h) (hl : s.length ≤ N) (ha : After W w') : Told W qs N p (.returned v) w' := by
  obtain ⟨ao, cap, rfl, hat, _⟩ := ho.at
  exact ⟨ao, s.length, cap, s, rfl, LsAll.cons ⟨hat, h32, rfl⟩ (hs.after ha), ⟨hu, hm, rfl, hl⟩, ha⟩
theorem sokM : SortOK 100000 := sortOK_all 100000 (by omega)
theorem sort_at {W : World} {qs : List Lq} (hs : LsAll W qs) {ao : Option Addr} {n : Nat} {l : List Hs} (ca : Nat) (hA : (ao, n, l) ∈ qs) (hn : n ≤ 100000) :
    Calls Try.prog 36 #[.slice ao n ca] W (Told W qs n (fun h => h ∈ l)) :=
  (sort12 sokM ao ca l (hs _ hA).a32 n (hs _ hA).len hn (by omega) W (hs _ hA).at_).mono (fun e w' ⟨v, s, he, ho, h32, hu, hm, hl, ha⟩ => he ▸ Told.mk hs ho h32 hu hm hl ha)

theorem union_at {W : World} {qs : List Lq} (hs : LsAll W qs) {ao bo : Option Addr} {n m : Nat} {la lb : List Hs} (ca cb : Nat) (hA : (ao, n, la) ∈ qs) (hB : (bo, m, lb) ∈ qs) (hn : n + m ≤ 100000) :
    Calls Try.prog 19 #[.slice ao n ca, .slice bo m cb] W (Told W qs (n + m) (fun h => h ∈ la ∨ h ∈ lb)) :=
  (union20 sokM ao bo ca cb la lb (hs _ hA).a32 (hs _ hB).a32 n m (hs _ hA).len (hs _ hB).len (by omega) (by omega) W (hs _ hA).at_ (hs _ hB).at_).mono (fun e w' ⟨v, s, he, hh⟩ => he ▸ Told.mk hs hh.1 hh.2.1 hh.2.2.1 hh.2.2.2.1 hh.2.2.2.2.1 hh.2.2.2.2.2)
end
end Go.Proofs.Ytcmcapcagblafaa
