/-
  THE WALKS OF hashes.Rising, hashes.Has, hashes.Sort; ref.Same, ref.Rising; slices.Index, slices.Contains.
-/
import Derived.Test.YtgcgblecendijaaRising
namespace Go.Proofs.Ytgcgblecendijaa
open Go.RowKit Go.Maps Go.Sort
section
variable {a : Act} {w : World} {oi : Oper}
theorem x_eq24 {x y : Operand} {h k : Hs} (hh : h.length = 32) (hk : k.length = 32) (hop : oi.op = .binOp .eql 29 x y 29) (hx : a.eval x = hv h) (hy : a.eval y = hv k) : (execOp a.eval oi).run Try.prog w = .ok (.value (.bool (decide (h = k)))) w := by
  have he := eq24 h k hh hk w
  unfold execOp
  simp only [hop, hx, hy]
  unfold hv
  simp [go_sem, he]
theorem x_ne24 {x y : Operand} {h k : Hs} (hh : h.length = 32) (hk : k.length = 32) (hop : oi.op = .binOp .neq 29 x y 29) (hx : a.eval x = hv h) (hy : a.eval y = hv k) : (execOp a.eval oi).run Try.prog w = .ok (.value (.bool (!decide (h = k)))) w := by
  have he := eq24 h k hh hk w
  unfold execOp
  simp only [hop, hx, hy]
  unfold hv
  simp [go_sem, he]
end
theorem eq_of_pre {la lb : List Hs} {n : Nat} (ha : la.length = n) (hb : lb.length = n) (h : ∀ j, j < n → la[j]? = lb[j]?) : la = lb := by
  apply List.ext_getElem?
  intro j
  by_cases hj : j < n
  · exact h j hj
  · rw [List.getElem?_eq_none (by omega), List.getElem?_eq_none (by omega)]
structure SmI (w : World) (la lb : List Hs) (i : Nat) (wr : World) : Prop where
  aft : After w wr
  pre : ∀ j, j < i → la[j]? = lb[j]?

/-- What Rising tells. -/
def upB : List Hs → Bool
  | x :: y :: l => ltB x y && upB (y :: l)
  | _ => true
theorem upB_pre : ∀ (l : List Hs), (∀ (j : Nat) (x y : Hs), l[j]? = some x → l[j + 1]? = some y → ltB x y = true) → upB l = true
  | [], _ => rfl
  | [_], _ => rfl
  | x :: y :: l, h => by
    unfold upB
    rw [h 0 x y rfl rfl, upB_pre (y :: l) (fun j p q hp hq => h (j + 1) p q hp hq)]; rfl
theorem upB_at : ∀ (l : List Hs), upB l = true → ∀ (j : Nat) (x y : Hs), l[j]? = some x → l[j + 1]? = some y → ltB x y = true
  | [], _, j, _, _, hj, _ => by simp at hj
  | [_], _, j, _, _, _, hj => by simp at hj
  | x :: y :: l, h, 0, p, q, hp, hq => by
    unfold upB at h
    simp only [Bool.and_eq_true] at h
    simp at hp hq; subst hp hq; exact h.1
  | x :: y :: l, h, j + 1, p, q, hp, hq => by
    unfold upB at h
    simp only [Bool.and_eq_true] at h
    exact upB_at (y :: l) h.2 j p q (by simpa using hp) (by simpa using hq)
theorem Up.upB {l : List Hs} (h : Up l) (h32 : All32 l) : upB l = true := upB_pre l (fun j x y hx hy => by
  obtain ⟨h1, e1⟩ := List.getElem?_eq_some_iff.1 hx
  obtain ⟨h2, e2⟩ := List.getElem?_eq_some_iff.1 hy
  have := (List.pairwise_iff_getElem.1 h) j (j + 1) h1 h2 (by omega)
  rw [e1, e2] at this
  rw [ltB_str x y (by rw [h32.at hx, h32.at hy])]; exact this)
structure RiI (w : World) (l : List Hs) (i : Nat) (wr : World) : Prop where
  aft : After w wr
  pre : ∀ (j : Nat) (x y : Hs), j + 1 < i → l[j]? = some x → l[j + 1]? = some y → ltB x y = true

theorem x_sub1 {a : Act} {w : World} {oi : Oper} {k i : Nat} {x : Operand} (hop : oi.op = .binOp .sub 3 x (.const (.int .i64 1)) 3) (hx : a.eval x = .int .i64 (k : Int)) (hi : k = i + 1) (hk : k < 4611686018427387904) : (execOp a.eval oi).run Try.prog w = .ok (.value (.int .i64 (i : Int))) w := by
  subst hi
  unfold execOp
  simp only [hop, hx]
  simp [go_sem, Act.eval, IntKind.wrap, IntKind.bits, IntKind.signed]
  omega
structure IxI (w : World) (h : Hs) (l : List Hs) (i B : Nat) (wr : World) : Prop where
  aft : After w wr
  row : wr.heap[B]? = some (.cells (c8 h).toArray 29 (0, 0))
  pre : ∀ (j : Nat) (x : Hs), j < i → l[j]? = some x → ¬ h = x
theorem ListsAt.one (w : World) (ao : Option Addr) (n c : Nat) (l : List Hs) (h32 : All32 l) (hl : l.length = n) (hA : HsAt w ao l) : ListsAt (w.alloc (.cells #[.slice ao n c] 22)) (some ⟨w.heap.size, 0, none⟩) [⟨ao, n, c, l⟩] := fun _ => ⟨w.heap.size, 0, rfl, fun j x hj => by
  cases j with
  | zero =>
    simp at hj; subst hj
    exact ⟨(RowIs.new w 22 [.slice ao n c]).cell (j := 0) rfl, hA.after (after_alloc (After.refl w) _), hl, h32⟩
  | succ j => simp at hj⟩
set_option maxRecDepth 100000 in
set_option maxHeartbeats 3200000 in
theorem sort12 {m : Nat} (hm : SortOK m) (ao : Option Addr) (ca : Nat) (l : List Hs) (h32 : All32 l) (n : Nat) (hl : l.length = n) (hn : n ≤ m) (hbig : n ≤ 4398046511104) (w : World) (hA : HsAt w ao l) :
    Calls Try.prog 19 #[.slice ao n ca] w fun e w' => ∃ v s, e = .returned v ∧ OwnH w' w.heap.size v s ∧ All32 s ∧ Up s ∧ (∀ h, h ∈ s ↔ h ∈ l) ∧ s.length ≤ n ∧ After w w' := by
  have hcat : catL [⟨ao, n, ca, l⟩] = l := by simp [catL]
  have hC := setOf_any (some ⟨w.heap.size, 0, none⟩) 1 [⟨ao, n, ca, l⟩] (by simp) (by rw [hcat, hl]; exact hbig) (w.alloc (.cells #[.slice ao n ca] 22)) (ListsAt.one w ao n ca l h32 hl hA)
  rw [hcat, hl, show (w.alloc (.cells #[.slice ao n ca] 22)).heap.size = w.heap.size + 1 by simp] at hC
  have HC : Hid (Calls Try.prog 28 #[.slice (some ⟨w.heap.size, 0, none⟩) 1 1] (w.alloc (.cells #[.slice ao n ca] 22)) fun e w' => e = .returned (.map (some (w.heap.size + 1))) ∧ SetAt w' (w.heap.size + 1) n l ∧ After (w.alloc (.cells #[.slice ao n ca] 22)) w') := hC
  have HM : Hid (SortOK m ∧ n ≤ m ∧ n ≤ 4398046511104) := ⟨hm, hn, hbig⟩
  have HAL : Hid (After w (w.alloc (.cells #[.slice ao n ca] 22))) := after_alloc (After.refl w) _
  have hbs : (Instr.buildSlice 69 1 #[(0, .slice ao n ca)]).run Try.prog w = .ok (.slice (some ⟨w.heap.size, 0, none⟩) 1 1) (w.alloc (.cells #[.slice ao n ca] 22)) := by kernel_rfl
  clear hA h32 hl hn hm hC hcat
  go_enter Try.func19, Try.ntmps19
  go_wp2_with (first
    | (go_at_call 28; refine Calls.mono HC.out ?_; rintro e w2 ⟨rfl, hs2, ha2⟩; have HS2 := show Hid (SetAt _ _ _ _) from hs2; have HA2 := show Hid (After _ w2) from ha2; clear hs2 ha2)
    | (go_at_call 29; refine Calls.mono (rising_any HM.out.1 (w.heap.size + 1) n l HM.out.2.1 HM.out.2.2 w2 HS2.out) ?_; rintro e w3 ⟨v, s, rfl, h1, h2, h3, h4, h5, h6⟩; have HR := show Hid (OwnH w3 w2.heap.size v s ∧ All32 s ∧ Up s ∧ (∀ h, h ∈ s ↔ h ∈ l) ∧ s.length ≤ n ∧ After w2 w3) from ⟨h1, h2, h3, h4, h5, h6⟩; clear h1 h2 h3 h4 h5 h6))
  go_ret
  have hA2 := After.trans HAL.out HA2.out
  exact ⟨v, s, rfl, HR.out.1.mono hA2.size, HR.out.2.1, HR.out.2.2.1, HR.out.2.2.2.1, HR.out.2.2.2.2.1, After.trans hA2 HR.out.2.2.2.2.2⟩
end Go.Proofs.Ytgcgblecendijaa
