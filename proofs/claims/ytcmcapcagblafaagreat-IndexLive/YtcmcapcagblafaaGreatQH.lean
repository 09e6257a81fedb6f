/-
  hashes: Parts Told (of its own seat, carried over).
-/
import Derived.Test.YtcmcapcagblafaaGreatQG
namespace Go.Proofs.YtcmcapcagblafaaGreat
section
open Go.RowKit Go.Maps
theorem SetAt.map {w : World} {b n : Nat} {l : List Hs} (h : SetAt w b n l) : ∃ es clock, w.heap[b]? = some (.map es clock) := by
  obtain ⟨D, ⟨es, clock, hb, _⟩, _⟩ := h.ex
  exact ⟨es, clock, hb⟩
theorem ListsAt.two (w : World) (ao bo : Option Addr) (n c m d : Nat) (la lb : List Hs) (ha32 : All32 la) (hb32 : All32 lb) (hla : la.length = n) (hlb : lb.length = m) (hA : HsAt w ao la) (hB : HsAt w bo lb) : ListsAt (w.alloc (.cells #[.slice ao n c, .slice bo m d] 26)) (some ⟨w.heap.size, 0, none⟩) [⟨ao, n, c, la⟩, ⟨bo, m, d, lb⟩] := fun _ => ⟨w.heap.size, 0, rfl, fun j x hj => by
  have hr := RowIs.new w 26 [.slice ao n c, .slice bo m d]
  cases j with
  | zero =>
    simp at hj; subst hj
    exact ⟨hr.cell (j := 0) rfl, hA.after (after_alloc (After.refl w) _), hla, ha32⟩
  | succ j =>
    cases j with
    | zero =>
      simp at hj; subst hj
      exact ⟨hr.cell (j := 1) rfl, hB.after (after_alloc (After.refl w) _), hlb, hb32⟩
    | succ j => simp at hj⟩
/-- What a sorted answer is. -/
def Ans (w w' : World) (v : Value) (n : Nat) (p : Hs → Prop) (s : List Hs) : Prop := OwnH w' w.heap.size v s ∧ All32 s ∧ Up s ∧ (∀ h, h ∈ s ↔ p h) ∧ s.length ≤ n ∧ After w w'
end
section
open Go.RowKit
abbrev Lq := Option Addr × Nat × List Hs
structure LAt (W : World) (q : Lq) : Prop where
  at_ : HsAt W q.1 q.2.2
  a32 : All32 q.2.2
  len : q.2.2.length = q.2.1
def LsAll (W : World) (qs : List Lq) : Prop := ∀ q ∈ qs, LAt W q
theorem LsAll.after {W W' : World} {qs : List Lq} (h : LsAll W qs) (ha : After W W') : LsAll W' qs := fun q hq => ⟨(h q hq).at_.after ha, (h q hq).a32, (h q hq).len⟩
theorem LsAll.cons {W : World} {qs : List Lq} {q : Lq} (h1 : LAt W q) (h : LsAll W qs) : LsAll W (q :: qs) := fun x hx => by
  rcases List.mem_cons.1 hx with rfl | hx
  · exact h1
  · exact h x hx
/-- An answer: a rising list, told by its members. -/
structure Res (s : List Hs) (k N : Nat) (p : Hs → Prop) : Prop where
  up : Up s
  mem : ∀ h, h ∈ s ↔ p h
  len : s.length = k
  le : k ≤ N
def Told (W : World) (qs : List Lq) (N : Nat) (p : Hs → Prop) (e : Ending) (w' : World) : Prop :=
  ∃ (o : Option Addr) (k c : Nat) (s : List Hs), e = .returned (.slice o k c) ∧ LsAll w' ((o, k, s) :: qs) ∧ Res s k N p ∧ After W w'
theorem Told.mk {W w' : World} {qs : List Lq} {N : Nat} {p : Hs → Prop} (hs : LsAll W qs) {v : Value} {s : List Hs} (ho : OwnH w' W.heap.size v s) (h32 : All32 s) (hu : Up s) (hm : ∀ h, h ∈ s ↔ p h) (hl : s.length ≤ N) (ha : After W w') : Told W qs N p (.returned v) w' := by
  obtain ⟨ao, cap, rfl, hat, _⟩ := ho.at
  exact ⟨ao, s.length, cap, s, rfl, LsAll.cons ⟨hat, h32, rfl⟩ (hs.after ha), ⟨hu, hm, rfl, hl⟩, ha⟩
theorem sokM : SortOK 100000 := sortOK_all 100000 (by omega)
theorem sort_at {W : World} {qs : List Lq} (hs : LsAll W qs) {ao : Option Addr} {n : Nat} {l : List Hs} (ca : Nat) (hA : (ao, n, l) ∈ qs) (hn : n ≤ 100000) :
    Calls Tryz.prog 14 #[.slice ao n ca] W (Told W qs n (fun h => h ∈ l)) :=
  (sort12 sokM ao ca l (hs _ hA).a32 n (hs _ hA).len hn (by omega) W (hs _ hA).at_).mono (fun e w' ⟨v, s, he, ho, h32, hu, hm, hl, ha⟩ => he ▸ Told.mk hs ho h32 hu hm hl ha)

end
end Go.Proofs.YtcmcapcagblafaaGreat
