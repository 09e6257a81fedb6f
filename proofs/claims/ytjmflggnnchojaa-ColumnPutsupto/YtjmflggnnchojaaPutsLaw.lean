/-
  THE WALK OF stemmalaw03.ColumnPuts.
-/
import Derived.Test.YtjmflggnnchojaaRunsPut
import Derived.Test.YtjmflggnnchojaaAwake
namespace Go.Proofs.Ytjmflggnnchojaa
open Go.RowKit Leb
theorem OwnI.fresh (w : World) : OwnI (w.alloc (.cells #[] 2)) w.heap.size (.slice (some ⟨w.heap.size, 0, none⟩) 0 0) [] :=
  World.ownsRow_made w #[] 0 (Nat.le_refl _) (by decide) rfl
/-- append(own, l...), l a slice whose numbers are known, or nil. -/
theorem wpList_append_intsN {w : World} {ops : Array Oper} {rest : List Oper} {o : Oper} {a : Act} {Q : Exit → Act → World → Prop} (hgd : o.guard = none) (s x : Operand)
    (ho : o.op = .call { callee := .builtin .append, args := #[s, x], argTypes := #[22, 22] })
    (base : Nat) (v : Value) (l : List Int) (hs : a.eval s = v) (hown : OwnI w base v l)
    (ao : Option Addr) (c : Nat) (news : List Int) (k : Nat) (hk : news.length = k) (hx : a.eval x = .slice ao k c) (hnews : IntsAt w ao news)
    (hbytes : l.length + news.length ≤ 1048576) (hbase : base ≤ w.heap.size)
    (h : ∀ v' w', OwnI w' base v' (l ++ news) → w.grownBy w' v.ownBlock → wpList Try.prog ops Q rest (a.put o.dst v') w') : wpList Try.prog ops Q (o :: rest) a w := by
  subst hk
  by_cases hne : news = []
  · subst hne
    rw [List.append_nil] at h
    obtain ⟨i, hi, hz⟩ := Option.map_eq_some_iff.1 info2
    simp only [Prod.mk.injEq] at hz
    have hk := h v w hown ⟨rfl, rfl, rfl, Nat.le_refl _, fun _ _ _ => rfl⟩
    cases ao with
    | some ad =>
      refine wpList_append_ints hgd s x ho base v l hs hown ad c [] 0 rfl hx (fun j hj => absurd hj (by simp)) hbytes hbase ?_
      intro v' w' h1 h2
      rw [List.append_nil] at h1
      exact h v' w' h1 h2
    | none =>
      obtain ⟨ao', cap', hv, _, hle, _⟩ := OwnI.at hown
      refine wpList_plain hgd fun K hK => ?_
      have hr := run_append_nothing (P := Try.prog) w 22 22 o.type 2 i Try.underlying22 hi ao' l.length cap' hle (.slice none 0 c) (Src.ofNil w Try.underlying22 c)
      unfold Oper.wp execOp
      rw [← hv] at hr
      simp only [List.length_nil] at hx
      simp only [ho, resolve, invoke, builtin, Sem.run_bind, Sem.run_pure, Result.andThen_ok, List.map_toArray, List.map_cons, List.map_nil, hs, hx, hr]
      exact hK _ _ hk
  · obtain ⟨b, off, rfl, hc⟩ := hnews hne
    exact wpList_append_ints hgd s x ho base v l hs hown ⟨b, off, none⟩ c news _ rfl hx (fun j hj => by rw [Addr.add_mid]; exact hc j hj) hbytes hbase h
set_option maxRecDepth 100000 in
set_option maxHeartbeats 1600000 in
theorem puts_any (ao : Option Addr) (cap : Nat) (l : List Int) (hl : ∀ x ∈ l, -9223372036854775808 ≤ x ∧ x ≤ 9223372036854775807) (hn : l.length ≤ 1048575) (w : World) (hI : IntsAt w ao l) :
    Calls Try.prog 3 #[.slice ao l.length cap] w fun e w' => e = .returned (.bool true) ∧ Below w.heap.size w w' := by
  have HI : Hid (IntsAt w ao l) := hI
  have HL : Hid (∀ x ∈ l, -9223372036854775808 ≤ x ∧ x ≤ 9223372036854775807) := hl
  clear hI hl
  go_enter Try.func3, Try.ntmps3
  go_wp2_with (at_builtin; refine wpList_append_intsN rfl _ _ rfl w.heap.size _ [] rfl (OwnI.fresh w) ao cap l _ rfl rfl (HI.out.after (after_alloc (After.refl w) _)) (by simp; omega) (by simp) ?_; intro v1 w1 ho1 hg1; rw [List.nil_append] at ho1; have B1 : Hid (After w w1) := after_grown (after_alloc (After.refl w) _) hg1 (Nat.le_refl _) (fun k hk => (World.ownsRow.lt (OwnI.fresh w) k hk).1); obtain ⟨a1, c1, hv1, hat1, _, hlt1⟩ := OwnI.at ho1; subst hv1; have HT1 : Hid (IntsAt w1 a1 l) := hat1; have HLT1 : Hid (∀ a, a1 = some a → a.block < w1.heap.size) := fun a ha => (hlt1 a ha).2; clear ho1 hg1 hat1 hlt1)
  refine wp_region_noPanic ?_
  refine wp_region_held_drew (S := After w1) (by kernel_rfl) (After.drew (After.refl w1)) ?_
  intro hS0
  have B0 : After w w1.drew := After.drew B1.out
  refine tk 0 7 (.slice a1 l.length c1) (fuel := 24) rfl (by kernel_rfl) (by kernel_rfl) (by kernel_rfl) (by kernel_rfl) noPanic_false (by kernel_rfl) (fun _ _ => by kernel_rfl) hS0 ?_
  refine tk 3 10 (.slice ao l.length cap) (fuel := 23) rfl (by kernel_rfl) (by kernel_rfl) (by kernel_rfl) (by kernel_rfl) noPanic_false (by kernel_rfl) (fun _ _ => by kernel_rfl) hS0 ?_
  refine tkCall 1 8 10 #[.slice a1 l.length c1] _ (fuel := 22) rfl (by kernel_rfl) (by kernel_rfl) (by kernel_rfl) (fun _ => by kernel_rfl) hS0 (runs_any a1 c1 l HL.out (by omega) _ (HT1.out.after hS0) (fun a ha _ => Nat.lt_of_lt_of_le (HLT1.out a ha) hS0.size)) ?_
  intro v2 w2 r2 s2
  refine tk 2 9 (.string (strOf (runsB l))) (fuel := 21) rfl (by kernel_rfl) (by kernel_rfl) (by kernel_rfl) (by kernel_rfl) noPanic_false (by kernel_rfl) (fun W hW => x_conv (x := .tmp 8) (by kernel_rfl) (by kernel_rfl) (Own.convA r2 hW)) (After.refl w2) ?_
  have A2 : After w1 w2 := After.trans hS0 s2
  refine tkCall 4 11 11 #[.slice ao l.length cap] _ (fuel := 20) rfl (by kernel_rfl) (by kernel_rfl) (by kernel_rfl) (fun _ => by kernel_rfl) (After.refl w2) (putRuns_any ao cap l HL.out hn _ (HI.out.after (After.trans B1.out A2))) ?_
  intro v3 w3 r3 s3
  have A3 : After w1 w3 := After.trans A2 s3
  refine tk 5 12 (.string (strOf (runsB l))) (fuel := 19) rfl (by kernel_rfl) (by kernel_rfl) (by kernel_rfl) (by kernel_rfl) noPanic_false (by kernel_rfl) (fun W hW => x_conv (x := .tmp 11) (by kernel_rfl) (by kernel_rfl) (Own.convA r3 hW)) (After.refl w3) ?_
  refine tk 6 13 (.bool true) (fuel := 18) rfl (by kernel_rfl) (by kernel_rfl) (by kernel_rfl) (by kernel_rfl) noPanic_false (by kernel_rfl) (fun _ _ => x_streq (x := .tmp 9) (y := .tmp 12) (s := strOf (runsB l)) (t := strOf (runsB l)) (by kernel_rfl) (by kernel_rfl) (by kernel_rfl) rfl) (After.refl w3) ?_
  refine tk 7 14 (.bool true) (fuel := 17) rfl (by kernel_rfl) (by kernel_rfl) (by kernel_rfl) (by kernel_rfl) noPanic_false (by kernel_rfl) (fun _ _ => by kernel_rfl) (After.refl w3) ?_
  refine tk 8 15 (.slice a1 l.length c1) (fuel := 16) rfl (by kernel_rfl) (by kernel_rfl) (by kernel_rfl) (by kernel_rfl) noPanic_false (by kernel_rfl) (fun _ _ => by kernel_rfl) (After.refl w3) ?_
  refine tk 11 18 (.slice ao l.length cap) (fuel := 15) rfl (by kernel_rfl) (by kernel_rfl) (by kernel_rfl) (by kernel_rfl) noPanic_false (by kernel_rfl) (fun _ _ => by kernel_rfl) (After.refl w3) ?_
  refine tkCall 9 16 12 #[.slice a1 l.length c1] _ (fuel := 14) rfl (by kernel_rfl) (by kernel_rfl) (by kernel_rfl) (fun _ => by kernel_rfl) (After.refl w3) (deltas_any a1 c1 l hn _ (HT1.out.after A3)) ?_
  intro v4 w4 r4 s4
  have A4 : After w1 w4 := After.trans A3 s4
  refine tk 10 17 (.string (strOf (runsB (diffs l)))) (fuel := 13) rfl (by kernel_rfl) (by kernel_rfl) (by kernel_rfl) (by kernel_rfl) noPanic_false (by kernel_rfl) (fun W hW => x_conv (x := .tmp 16) (by kernel_rfl) (by kernel_rfl) (Own.convA r4 hW)) (After.refl w4) ?_
  refine tkCall 12 19 13 #[.slice ao l.length cap] _ (fuel := 12) rfl (by kernel_rfl) (by kernel_rfl) (by kernel_rfl) (fun _ => by kernel_rfl) (After.refl w4) (putDeltas_any ao cap l hn _ (HI.out.after (After.trans B1.out A4))) ?_
  intro v5 w5 r5 s5
  have A5 : After w1 w5 := After.trans A4 s5
  refine tk 13 20 (.string (strOf (runsB (diffs l)))) (fuel := 11) rfl (by kernel_rfl) (by kernel_rfl) (by kernel_rfl) (by kernel_rfl) noPanic_false (by kernel_rfl) (fun W hW => x_conv (x := .tmp 19) (by kernel_rfl) (by kernel_rfl) (Own.convA r5 hW)) (After.refl w5) ?_
  refine tk 14 21 (.bool true) (fuel := 10) rfl (by kernel_rfl) (by kernel_rfl) (by kernel_rfl) (by kernel_rfl) noPanic_false (by kernel_rfl) (fun _ _ => x_streq (x := .tmp 17) (y := .tmp 20) (s := strOf (runsB (diffs l))) (t := strOf (runsB (diffs l))) (by kernel_rfl) (by kernel_rfl) (by kernel_rfl) rfl) (After.refl w5) ?_
  refine tk 15 22 (.bool true) (fuel := 9) rfl (by kernel_rfl) (by kernel_rfl) (by kernel_rfl) (by kernel_rfl) noPanic_false (by kernel_rfl) (fun _ _ => by kernel_rfl) (After.refl w5) ?_
  refine tk 16 23 (.bool true) (fuel := 8) rfl (by kernel_rfl) (by kernel_rfl) (by kernel_rfl) (by kernel_rfl) noPanic_false (by kernel_rfl) (fun _ _ => by kernel_rfl) (After.refl w5) ?_
  refine tk 17 24 (.slice a1 l.length c1) (fuel := 7) rfl (by kernel_rfl) (by kernel_rfl) (by kernel_rfl) (by kernel_rfl) noPanic_false (by kernel_rfl) (fun _ _ => by kernel_rfl) (After.refl w5) ?_
  refine tk 18 25 (.slice ao l.length cap) (fuel := 6) rfl (by kernel_rfl) (by kernel_rfl) (by kernel_rfl) (by kernel_rfl) noPanic_false (by kernel_rfl) (fun _ _ => by kernel_rfl) (After.refl w5) ?_
  refine tkCall 19 26 14 #[.slice a1 l.length c1, .slice ao l.length cap] (fun v _ => v = .bool true ∧ True) (fuel := 5) rfl (by kernel_rfl) (by kernel_rfl) (by kernel_rfl) (fun _ => by kernel_rfl) (After.refl w5) ((same_any a1 ao c1 cap l l (by omega) _ (HT1.out.after A5) (HI.out.after (After.trans B1.out A5))).mono (fun e W' ⟨he, hb⟩ => ⟨.bool true, by rw [he]; simp, (⟨rfl, trivial⟩ : Value.bool true = Value.bool true ∧ True), hb⟩)) ?_
  intro v6 w6 r6 s6
  obtain ⟨rfl, _⟩ := r6
  have A6 : After w1 w6 := After.trans A5 s6
  refine tk 20 27 (.bool true) (fuel := 4) rfl (by kernel_rfl) (by kernel_rfl) (by kernel_rfl) (by kernel_rfl) noPanic_false (by kernel_rfl) (fun _ _ => by kernel_rfl) (After.refl w6) ?_
  refine tk 21 28 (.bool true) (fuel := 3) rfl (by kernel_rfl) (by kernel_rfl) (by kernel_rfl) (by kernel_rfl) noPanic_false (by kernel_rfl) (fun _ _ => by kernel_rfl) (After.refl w6) ?_
  refine tkCall 22 29 15 #[] (fun v _ => v = .bool true ∧ True) (fuel := 2) rfl (by kernel_rfl) (by kernel_rfl) (by kernel_rfl) (fun _ => by kernel_rfl) (After.refl w6) ((awake_any _).mono (fun e W' ⟨he, hb⟩ => ⟨.bool true, he, ⟨rfl, trivial⟩, hb⟩)) ?_
  intro v7 w7 r7 s7
  obtain ⟨rfl, _⟩ := r7
  have A7 : After w1 w7 := After.trans A6 s7
  refine tk 23 30 (.bool true) (fuel := 1) rfl (by kernel_rfl) (by kernel_rfl) (by kernel_rfl) (by kernel_rfl) noPanic_false (by kernel_rfl) (fun _ _ => by kernel_rfl) (After.refl w7) ?_
  refine tk 24 2 (.bool true) (fuel := 0) rfl (by kernel_rfl) (by kernel_rfl) (by kernel_rfl) (by kernel_rfl) noPanic_false (by kernel_rfl) (fun _ _ => by kernel_rfl) (After.refl w7) ?_
  refine wpAnyH_done (by kernel_rfl) (NoPanic.normal ?_) _
  go_simp
  go_wp2
  go_ret
  exact ⟨rfl, After.trans B1.out A7⟩
end Go.Proofs.Ytjmflggnnchojaa
