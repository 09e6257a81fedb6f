/-
  THE WALKS OF column.readLength, column.readRuns.
-/
import Derived.Test.YtpplnomomcdemaaRep
namespace Go.Proofs.Ytpplnomomcdemaa
open Go.RowKit Leb
/-- What readLength tells, leaves. -/
def rlE (bs : List UInt8) (e room least : Nat) : Nat := if suE bs e room = 0 then (if suV bs e room < least then 4 else 0) else suE bs e room
def rlV (bs : List UInt8) (e room least : Nat) : Nat := if rlE bs e room least = 0 then suV bs e room else 0
theorem suV_le (bs : List UInt8) (e m : Nat) : suV bs e m ≤ m := by
  unfold suV
  split
  · unfold ruV
    split
    · rename_i h
      unfold ruE at h
      split at h
      · split at h
        · cases h
        · omega
      · omega
    · omega
  · omega
set_option maxRecDepth 100000 in
set_option maxHeartbeats 400000 in
theorem readLength_any (g : Nat) (bs : List UInt8) (e : Nat) (ao : Option Addr) (cap room least : Nat) (hr : room ≤ 1048576) (_hl : least ≤ 1) (w : World) (hR : Rd w g bs e ao cap) :
    Calls Try.prog 74 #[.pointer (some ⟨g, 0, none⟩), .int .i64 (room : Int), .int .i64 (least : Int)] w fun x w' => x = .returned (.tuple #[.int .i64 (rlV bs e room least : Int), .int .i64 (rlE bs e room least : Int)]) ∧ Nx g w ao (suB bs e room) (suE bs e room) w' := by
  have HC := show Hid _ from rUint_any g bs e ao cap room w hR
  have hvl := suV_le bs e room
  obtain ⟨v, hv⟩ : ∃ v, suV bs e room = v := ⟨_, rfl⟩
  obtain ⟨b2, hb2⟩ : ∃ v, suB bs e room = v := ⟨_, rfl⟩
  obtain ⟨e2, he2⟩ : ∃ v, suE bs e room = v := ⟨_, rfl⟩
  have HE : Hid (rlE bs e room least = if e2 = 0 then (if v < least then 4 else 0) else e2) := by unfold Hid rlE; rw [he2, hv]
  have HV : Hid (rlV bs e room least = if rlE bs e room least = 0 then v else 0) := by unfold Hid rlV; rw [hv]
  rw [hv] at hvl
  rw [hv, hb2, he2] at HC
  rw [hb2, he2]
  clear hv hb2 he2 hR
  by_cases h0 : e2 = 0
  · subst h0
    by_cases hlt : v < least
    · have e1 : rlE bs e room least = 4 := by rw [HE.out]; simp [hlt]
      have e2 : rlV bs e room least = 0 := by rw [HV.out, e1]; rfl
      rw [e1, e2]
      clear HE HV e1 e2
      go_enter Try.func74, Try.ntmps74
      go_wp2_with (first
        | (go_at_call 73; refine Calls.mono HC.out ?_; rintro x w1 ⟨rfl, hn1⟩; have HN := show Hid _ from hn1; obtain ⟨a1, c1, hr1, _, _⟩ := hn1; have HR1 := show Hid _ from hr1; clear hr1)
        | (go_at_call 76; refine (rErr_any g _ _ _ _ _ HR1.out).mono ?_; rintro x w2 ⟨rfl, hw2⟩; have hw3 := hw2.symm; clear hw2; subst hw3))
      go_ret2
      exact ⟨rfl, HN.out⟩
    · have e1 : rlE bs e room least = 0 := by rw [HE.out]; simp [hlt]
      have e2 : rlV bs e room least = v := by rw [HV.out, e1]; rfl
      rw [e1, e2]
      clear HE HV e1 e2
      go_enter Try.func74, Try.ntmps74
      go_wp2_with (first
        | (go_at_call 73; refine Calls.mono HC.out ?_; rintro x w1 ⟨rfl, hn1⟩; have HN := show Hid _ from hn1; obtain ⟨a1, c1, hr1, _, _⟩ := hn1; have HR1 := show Hid _ from hr1; clear hr1)
        | (go_at_call 76; refine (rErr_any g _ _ _ _ _ HR1.out).mono ?_; rintro x w2 ⟨rfl, hw2⟩; have hw3 := hw2.symm; clear hw2; subst hw3))
      go_ret2
      exact ⟨rfl, HN.out⟩
  · have e1 : rlE bs e room least = e2 := by rw [HE.out]; simp [h0]
    have e3 : rlV bs e room least = 0 := by rw [HV.out, e1]; simp [h0]
    rw [e1, e3]
    clear HE HV e1 e3
    go_enter Try.func74, Try.ntmps74
    go_wp2_with (first
      | (go_at_call 73; refine Calls.mono HC.out ?_; rintro x w1 ⟨rfl, hn1⟩; have HN := show Hid _ from hn1; obtain ⟨a1, c1, hr1, _, _⟩ := hn1; have HR1 := show Hid _ from hr1; clear hr1)
      | (go_at_call 76; refine (rErr_any g _ _ _ _ _ HR1.out).mono ?_; rintro x w2 ⟨rfl, hw2⟩; have hw3 := hw2.symm; clear hw2; subst hw3))
    go_ret2
    exact ⟨rfl, HN.out⟩
/-- A row of the call's own that holds numbers. -/
def OwnI (w : World) (base : Nat) (v : Value) (l : List Int) : Prop := w.ownsRow base 2 1 v l.length (ci l)
theorem OwnI.nil (w : World) (base : Nat) : OwnI w base (.slice none 0 0) [] := World.ownsRow_nil w base 2 1
theorem OwnI.keep {w w' : World} {B : Nat} {v : Value} {l : List Int} (h : OwnI w B v l) (hk : ∀ k, v.ownBlock = some k → w'.heap[k]? = w.heap[k]?) : OwnI w' B v l := by
  refine ⟨h.1, ?_⟩
  rcases h.2 with hn | ⟨g, cap, cur, rfl, h1, h2, rest⟩
  · exact .inl hn
  · exact .inr ⟨g, cap, cur, rfl, h1, by rw [hk g rfl]; exact h2, rest⟩
theorem OwnI.at {w : World} {base : Nat} {v : Value} {l : List Int} (h : OwnI w base v l) : ∃ ao cap, v = .slice ao l.length cap ∧ IntsAt w ao l ∧ l.length ≤ cap ∧ (∀ a, ao = some a → base ≤ a.block ∧ a.block < w.heap.size) := by
  have hlt := World.ownsRow.lt h
  have hc := fun g hg => World.ownsRow.cells (g := g) h hg
  rcases h.2 with ⟨rfl, h0⟩ | ⟨g, cap, cur, rfl, hb, hg, hnc, _, hcs, ht⟩
  · obtain rfl : l = [] := List.eq_nil_of_length_eq_zero h0
    exact ⟨none, 0, rfl, fun h => absurd rfl h, Nat.le_refl _, fun _ h => by cases h⟩
  · refine ⟨some ⟨g, 0, none⟩, cap, rfl, fun _ => ⟨g, 0, rfl, fun j hj => ?_⟩, hnc, fun a ha => ?_⟩
    · have := hc g rfl j _ (ci_get l j hj)
      rwa [Addr.add_mid] at this
    · cases ha; exact hlt g rfl
theorem ci_append (l m : List Int) : ci (l ++ m) = ci l ++ ci m := by simp [ci]
/-- append(own, xs...), xs a row that is known whole. -/
theorem wpList_append_ints {w : World} {ops : Array Oper} {rest : List Oper} {o : Oper} {a : Act} {Q : Exit → Act → World → Prop} (hgd : o.guard = none) (s x : Operand)
    (ho : o.op = .call { callee := .builtin .append, args := #[s, x], argTypes := #[46, 46] })
    (base : Nat) (v : Value) (l : List Int) (hs : a.eval s = v) (hown : OwnI w base v l)
    (ao : Addr) (c : Nat) (news : List Int) (k : Nat) (hk : news.length = k) (hx : a.eval x = .slice (some ao) k c) (hnews : ∀ j, j < news.length → w.cell? (ao.add j) = some (.int .i64 (news[j]?.getD 0)))
    (hbytes : l.length + news.length ≤ 1048576) (hbase : base ≤ w.heap.size)
    (h : ∀ v' w', OwnI w' base v' (l ++ news) → w.grownBy w' v.ownBlock → wpList Try.prog ops Q rest (a.put o.dst v') w') : wpList Try.prog ops Q (o :: rest) a w := by
  subst hk
  obtain ⟨i, hi, hz⟩ := Option.map_eq_some_iff.1 info2
  simp only [Prod.mk.injEq] at hz
  obtain ⟨hz, hsz, hby⟩ := hz
  refine wpList_append_own w hgd s x 46 ho base 2 i (.int .i64 0) 1 8 Try.underlying46 hi hz hsz hby rfl (by omega) v l.length (ci l) hs hown ao news.length c (ci news) hx (by simp [ci_len]) ?_ (ci_one _) (by unfold maxLen; omega) (by omega) hbase ?_
  · intro j u hu
    have hj := (List.getElem?_eq_some_iff.1 hu).1
    rw [ci_len] at hj
    rw [ci_get news j hj] at hu
    rw [hnews j hj, hu]
  · intro v' w' h1 h2 _
    exact h v' w' (by unfold OwnI; rw [ci_append, List.length_append]; exact h1) h2
/-- What readRuns makes of k runs more. -/
def rr (most : Nat) : Nat → List UInt8 → List Int → List Int × List UInt8 × Nat
  | 0, bs, acc => (acc, bs, 0)
  | k + 1, bs, acc =>
    if rlE bs 0 (most - acc.length) 1 = 0 then
      if siE (suB bs 0 (most - acc.length)) 0 = 0 then
        if acc ≠ [] ∧ siV (suB bs 0 (most - acc.length)) 0 = acc[acc.length - 1]?.getD 0 then ([], siB (suB bs 0 (most - acc.length)) 0, 4)
        else rr most k (siB (suB bs 0 (most - acc.length)) 0) (acc ++ List.replicate (rlV bs 0 (most - acc.length) 1) (siV (suB bs 0 (most - acc.length)) 0))
      else ([], siB (suB bs 0 (most - acc.length)) 0, siE (suB bs 0 (most - acc.length)) 0)
    else ([], suB bs 0 (most - acc.length), rlE bs 0 (most - acc.length) 1)
/-- The state of readRuns: the reader at block g, the numbers in a row of its own. -/
structure RRel (w : World) (g : Nat) (W : World) (bs : List UInt8) (ao : Option Addr) (cap : Nat) (v : Value) (acc : List Int) : Prop where
  rd : Rd W g bs 0 ao cap
  but : But g w W
  own : OwnI W w.heap.size v acc
  near : ∀ a, ao = some a → a.block < w.heap.size
theorem Nx.near {g B : Nat} {w w' : World} {ao : Option Addr} {bs : List UInt8} {e : Nat} (h : Nx g w ao bs e w') (hn : ∀ a, ao = some a → a.block < B) : ∃ ao' cap', Rd w' g bs e ao' cap' ∧ But g w w' ∧ ∀ a, ao' = some a → a.block < B := by
  obtain ⟨ao', cap', h1, h2, h3⟩ := h
  exact ⟨ao', cap', h1, h2, fun a ha => by obtain ⟨b, hb, he⟩ := h3 a ha; rw [← he]; exact hn b hb⟩
theorem OwnI.but {w w' : World} {g B : Nat} {v : Value} {l : List Int} (h : OwnI w B v l) (hb : But g w w') (hg : g < B) : OwnI w' B v l :=
  h.keep (fun k hk => hb.block k (World.ownsRow.lt h k hk).2 (by have := (World.ownsRow.lt h k hk).1; omega))
theorem RRel.grown {w w5 w6 : World} {g : Nat} {bs : List UInt8} {ao : Option Addr} {cap : Nat} {v v' : Value} {acc acc' : List Int} (hg : g < w.heap.size) (hrd : Rd w5 g bs 0 ao cap) (hbt : But g w w5) (hnr : ∀ a, ao = some a → a.block < w.heap.size) (ho5 : OwnI w5 w.heap.size v acc) (ho : OwnI w6 w.heap.size v' acc') (hgr : w5.grownBy w6 v.ownBlock) : RRel w g w6 bs ao cap v' acc' := by
  have hblk : ∀ k, k < w.heap.size → w6.heap[k]? = w5.heap[k]? := fun k hk => hgr.block k (Nat.lt_of_lt_of_le hk hbt.size) (fun e => by have := (World.ownsRow.lt ho5 k e.symm).1; omega)
  have hB : Below w.heap.size w5 w6 := ⟨hgr.os, hgr.tape, hgr.output, hgr.size, hblk⟩
  refine ⟨⟨hrd.row.below hB hg, hrd.at'.below hB (fun a ha _ => hnr a ha), hrd.cap, hrd.nil, hrd.apart⟩, ⟨hB.os.trans hbt.os, hB.tape.trans hbt.tape, hB.output.trans hbt.output, Nat.le_trans hbt.size hB.size, fun k hk hne => (hblk k hk).trans (hbt.block k hk hne)⟩, ho, hnr⟩
end Go.Proofs.Ytpplnomomcdemaa
