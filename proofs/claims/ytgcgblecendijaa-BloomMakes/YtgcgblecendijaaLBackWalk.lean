/-
  THE WALK OF stemmalaw02.LebBack.
-/
import Derived.Test.YtgcgblecendijaaLGetsThree
import Derived.Deep.Upon
namespace Go.Proofs.Ytgcgblecendijaa.LB
open Go.RowKit Leb
theorem Own.fresh (w : World) : Own (w.alloc (.cells #[] 5)) w.heap.size (.slice (some ⟨w.heap.size, 0, none⟩) 0 0) [] :=
  World.ownsRow_made w #[] 0 (Nat.le_refl _) (by decide) rfl
/-- append(own, b...), b a slice whose bytes are known, or nil. -/
theorem wpList_append_any {w : World} {ops : Array Oper} {rest : List Oper} {o : Oper} {a : Act} {Q : Exit → Act → World → Prop} (hgd : o.guard = none) (s x : Operand)
    (ho : o.op = .call { callee := .builtin .append, args := #[s, x], argTypes := #[26, 26] })
    (base : Nat) (v : Value) (bs : List UInt8) (hs : a.eval s = v) (hown : Own w base v bs)
    (ao : Option Addr) (c : Nat) (news : List UInt8) (k : Nat) (hk : news.length = k) (hx : a.eval x = .slice ao k c) (hnews : BytesAt w ao news)
    (hbytes : bs.length + news.length ≤ 140737488355328) (hbase : base ≤ w.heap.size)
    (h : ∀ v' w', Own w' base v' (bs ++ news) → w.grownBy w' v.ownBlock → wpList Try.prog ops Q rest (a.put o.dst v') w') : wpList Try.prog ops Q (o :: rest) a w := by
  subst hk
  cases ao with
  | some ad => exact wpList_append_bytes hgd s x ho base v bs hs hown ad c news hx hnews hbytes hbase h
  | none =>
    obtain rfl : news = [] := Classical.byContradiction fun hn => by obtain ⟨b, o, he, _⟩ := hnews hn; cases he
    rw [List.append_nil] at h
    obtain ⟨i, hi, hz⟩ := Option.map_eq_some_iff.1 bytes5
    simp only [Prod.mk.injEq] at hz
    have hk := h v w hown ⟨rfl, rfl, rfl, Nat.le_refl _, fun _ _ _ => rfl⟩
    obtain ⟨ao', cap', hv, _, hle, _⟩ := hown.at
    refine wpList_plain hgd fun K hK => ?_
    have hr := run_append_nothing (P := Try.prog) w 26 26 o.type 5 i Try.underlying26 hi ao' bs.length cap' hle (.slice none 0 c) (Src.ofNil w Try.underlying26 c)
    unfold Oper.wp execOp
    rw [← hv] at hr
    simp only [List.length_nil] at hx
    simp only [ho, resolve, invoke, builtin, Sem.run_bind, Sem.run_pure, Result.andThen_ok, List.map_toArray, List.map_cons, List.map_nil, hs, hx, hr]
    exact hK _ _ hk
theorem Own.sl {w : World} {base : Nat} {v : Value} {bs : List UInt8} (h : Own w base v bs) (k : Nat) (hk : bs.length = k) : ∃ ao cap, v = .slice ao k cap ∧ BytesAt w ao bs ∧ k ≤ cap := by
  obtain ⟨ao, cap, hv, hb, hc, _⟩ := h.at
  rw [hk] at hv hc
  exact ⟨ao, cap, hv, hb, hc⟩
theorem uint_sl (n k : Nat) (hn : n < 18446744073709551616) (hk : (uintB n).length = k) (w : World) :
    Calls Try.prog 32 #[.int .u64 n] w fun e w' => ∃ ao cap, e = .returned (.slice ao k cap) ∧ BytesAt w' ao (uintB n) ∧ Below w.heap.size w w' := by
  refine (uint_any n hn w).mono ?_
  rintro e w' ⟨v, rfl, ho, hb⟩
  obtain ⟨ao, cap, rfl, hat, _⟩ := ho.sl k hk
  exact ⟨ao, cap, rfl, hat, hb⟩
theorem getU_back (n k j : Nat) (t : List UInt8) (hn : n < 18446744073709551616) (hk : (uintB n).length = k) (ao : Option Addr) (cap : Nat) (hj : (uintB n ++ t).length = j) (hcap : j ≤ cap) (w : World) (hat : BytesAt w ao (uintB n ++ t)) :
    Calls Try.prog 35 #[.slice ao j cap] w fun e w' => e = .returned (.tuple #[.int .u64 n, .int .i64 k, .int .i64 0]) ∧ Below w.heap.size w w' := by
  obtain ⟨h1, h2, h3⟩ := gu_back n t hn
  subst hj
  exact gu_0 ao cap hcap w hat h3 (by rw [h2, hk]) h1
/-- Behind a row that is the call's own, grown. -/
theorem after_grown {w1 w2 : World} {B : Nat} {row : Option Nat} {w : World} (h : After w w1) (hg : w1.grownBy w2 row) (hB : w.heap.size ≤ B) (hr : ∀ k, row = some k → B ≤ k) : After w w2 :=
  below_grown h hg (fun k hk => by have := hr k hk; omega) h.size
theorem after_alloc {w w1 : World} (h : After w w1) (o : Obj) : After w (w1.alloc o) := Below.alloc h h.size _
end Go.Proofs.Ytgcgblecendijaa.LB
