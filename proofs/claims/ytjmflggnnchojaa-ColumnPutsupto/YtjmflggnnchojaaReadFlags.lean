/-
  THE WALK OF column.readFlags.
-/
import Derived.Test.YtjmflggnnchojaaRepZ
namespace Go.Proofs.Ytjmflggnnchojaa
open Go.RowKit Leb
/-- A row of the call's own that holds truths. -/
def OwnB (w : World) (base : Nat) (v : Value) (l : List Bool) : Prop := w.ownsRow base 4 1 v l.length (cb l)
theorem OwnB.nil (w : World) (base : Nat) : OwnB w base (.slice none 0 0) [] := World.ownsRow_nil w base 4 1
theorem OwnB.mono {w : World} {base base' : Nat} {v : Value} {l : List Bool} (h : OwnB w base v l) (hb : base' ≤ base) : OwnB w base' v l := by
  refine ⟨h.1, ?_⟩
  rcases h.2 with hn | ⟨g, cap, cur, rfl, h1, rest⟩
  · exact .inl hn
  · exact .inr ⟨g, cap, cur, rfl, by omega, rest⟩
theorem OwnB.keep {w w' : World} {B : Nat} {v : Value} {l : List Bool} (h : OwnB w B v l) (hk : ∀ k, v.ownBlock = some k → w'.heap[k]? = w.heap[k]?) : OwnB w' B v l := by
  refine ⟨h.1, ?_⟩
  rcases h.2 with hn | ⟨g, cap, cur, rfl, h1, h2, rest⟩
  · exact .inl hn
  · exact .inr ⟨g, cap, cur, rfl, h1, by rw [hk g rfl]; exact h2, rest⟩
theorem OwnB.at {w : World} {base : Nat} {v : Value} {l : List Bool} (h : OwnB w base v l) : ∃ ao cap, v = .slice ao l.length cap ∧ BoolsAt w ao l ∧ l.length ≤ cap ∧ (∀ a, ao = some a → base ≤ a.block ∧ a.block < w.heap.size) := by
  have hlt := World.ownsRow.lt h
  have hc := fun g hg => World.ownsRow.cells (g := g) h hg
  rcases h.2 with ⟨rfl, h0⟩ | ⟨g, cap, cur, rfl, hb, hg, hnc, _, hcs, ht⟩
  · obtain rfl : l = [] := List.eq_nil_of_length_eq_zero h0
    exact ⟨none, 0, rfl, fun h => absurd rfl h, Nat.le_refl _, fun _ h => by cases h⟩
  · refine ⟨some ⟨g, 0, none⟩, cap, rfl, fun _ => ⟨g, 0, rfl, fun j hj => ?_⟩, hnc, fun a ha => ?_⟩
    · have := hc g rfl j _ (cb_get l j hj)
      rwa [Addr.add_mid] at this
    · cases ha; exact hlt g rfl
theorem OwnB.but {w w' : World} {g B : Nat} {v : Value} {l : List Bool} (h : OwnB w B v l) (hb : But g w w') (hg : g < B) : OwnB w' B v l :=
  h.keep (fun k hk => hb.block k (World.ownsRow.lt h k hk).2 (by have := (World.ownsRow.lt h k hk).1; omega))
theorem cb_append (l m : List Bool) : cb (l ++ m) = cb l ++ cb m := by simp [cb]
/-- append(own, xs...), xs a row that is known whole. -/
theorem wpList_append_bools {w : World} {ops : Array Oper} {rest : List Oper} {o : Oper} {a : Act} {Q : Exit → Act → World → Prop} (hgd : o.guard = none) (s x : Operand)
    (ho : o.op = .call { callee := .builtin .append, args := #[s, x], argTypes := #[28, 28] })
    (base : Nat) (v : Value) (l : List Bool) (hs : a.eval s = v) (hown : OwnB w base v l)
    (ao : Addr) (c : Nat) (news : List Bool) (k : Nat) (hk : news.length = k) (hx : a.eval x = .slice (some ao) k c) (hnews : ∀ j, j < news.length → w.cell? (ao.add j) = some (.bool (news[j]?.getD false)))
    (hbytes : l.length + news.length ≤ 1048576) (hbase : base ≤ w.heap.size)
    (h : ∀ v' w', OwnB w' base v' (l ++ news) → w.grownBy w' v.ownBlock → wpList Try.prog ops Q rest (a.put o.dst v') w') : wpList Try.prog ops Q (o :: rest) a w := by
  subst hk
  obtain ⟨i, hi, hz⟩ := Option.map_eq_some_iff.1 info4
  simp only [Prod.mk.injEq] at hz
  obtain ⟨hz, hsz, hby⟩ := hz
  refine wpList_append_own w hgd s x 28 ho base 4 i (.bool false) 1 1 Try.underlying28 hi hz hsz hby rfl (by omega) v l.length (cb l) hs hown ao news.length c (cb news) hx (by simp [cb_len]) ?_ (cb_one _) (by unfold maxLen; omega) (by omega) hbase ?_
  · intro j u hu
    have hj := (List.getElem?_eq_some_iff.1 hu).1
    rw [cb_len] at hj
    rw [cb_get news j hj] at hu
    rw [hnews j hj, hu]
  · intro v' w' h1 h2 _
    exact h v' w' (by unfold OwnB; rw [cb_append, List.length_append]; exact h1) h2
/-- How few there may be of stretch i, of N. -/
def leastOf (N i : Nat) : Nat := if i = 0 ∧ 1 < N then 0 else 1
/-- What readFlags makes of k stretches more, the next one being number i. -/
def rf (most N : Nat) : Nat → Nat → List UInt8 → List Bool → List Bool × List UInt8 × Nat
  | 0, _, bs, acc => (acc, bs, 0)
  | k + 1, i, bs, acc =>
    if rlE bs 0 (most - acc.length) (leastOf N i) = 0 then rf most N k (i + 1) (suB bs 0 (most - acc.length)) (acc ++ List.replicate (rlV bs 0 (most - acc.length) (leastOf N i)) ((i : Int) % 2 == 1))
    else ([], suB bs 0 (most - acc.length), rlE bs 0 (most - acc.length) (leastOf N i))
def readF (bs : List UInt8) (most : Nat) : List Bool × List UInt8 × Nat :=
  if suE bs 0 (most + 1) = 0 then rf most (suV bs 0 (most + 1)) (suV bs 0 (most + 1)) 0 (suB bs 0 (most + 1)) [] else ([], suB bs 0 (most + 1), suE bs 0 (most + 1))
def FPost (w : World) (g : Nat) (R : List Bool × List UInt8 × Nat) (x : Ending) (w' : World) : Prop :=
  ∃ v, x = .returned (.tuple #[v, .int .i64 (R.2.2 : Int)]) ∧ OwnB w' w.heap.size v R.1 ∧ But g w w' ∧ (R.2.2 = 0 → ∃ ao' cap', Rd w' g R.2.1 0 ao' cap')
theorem FPost.err {w w' : World} {g : Nat} {b : List UInt8} {E : Nat} (hE : ¬ E = 0) (hb : But g w w') : FPost w g ([], b, E) (.returned (.tuple #[.slice none 0 0, .int .i64 (E : Int)])) w' := ⟨_, rfl, OwnB.nil _ _, hb, fun h => absurd h hE⟩
structure FRel (w : World) (g : Nat) (W : World) (bs : List UInt8) (ao : Option Addr) (cap : Nat) (v : Value) (acc : List Bool) : Prop where
  rd : Rd W g bs 0 ao cap
  but : But g w W
  own : OwnB W w.heap.size v acc
  near : ∀ a, ao = some a → a.block < w.heap.size
theorem FRel.grown {w w5 w6 : World} {g : Nat} {bs : List UInt8} {ao : Option Addr} {cap : Nat} {v v' : Value} {acc acc' : List Bool} (hg : g < w.heap.size) (hrd : Rd w5 g bs 0 ao cap) (hbt : But g w w5) (hnr : ∀ a, ao = some a → a.block < w.heap.size) (ho5 : OwnB w5 w.heap.size v acc) (ho : OwnB w6 w.heap.size v' acc') (hgr : w5.grownBy w6 v.ownBlock) : FRel w g w6 bs ao cap v' acc' := by
  have hblk : ∀ k, k < w.heap.size → w6.heap[k]? = w5.heap[k]? := fun k hk => hgr.block k (Nat.lt_of_lt_of_le hk hbt.size) (fun e => by have := (World.ownsRow.lt ho5 k e.symm).1; omega)
  have hB : Below w.heap.size w5 w6 := ⟨hgr.os, hgr.tape, hgr.output, hgr.size, hblk⟩
  refine ⟨⟨hrd.row.below hB hg, hrd.at'.below hB (fun a ha _ => hnr a ha), hrd.cap, hrd.nil, hrd.apart⟩, ⟨hB.os.trans hbt.os, hB.tape.trans hbt.tape, hB.output.trans hbt.output, Nat.le_trans hbt.size hB.size, fun k hk hne => (hblk k hk).trans (hbt.block k hk hne)⟩, ho, hnr⟩
/-- slices.Repeat of one truth, any number of times. -/
theorem repeatB_all (n : Bool) (c : Nat) (h2 : c ≤ 1048576) (g0 : Nat) (w : World) (hc0 : w.cell? ⟨g0, 0, none⟩ = some (.bool n)) :
    Calls Try.prog 46 #[.slice (some ⟨g0, 0, none⟩) 1 1, .int .i64 (c : Int)] w fun e w' => e = .returned (.slice (some ⟨w.heap.size, 0, none⟩) c c) ∧ RowIs w' w.heap.size 4 (cb (List.replicate c n)) ∧ After w w' := by
  by_cases h : 1 ≤ c
  · exact repeatB_any n c h h2 g0 w hc0
  · obtain rfl : c = 0 := by omega
    exact repeatB_zero g0 w
set_option maxRecDepth 100000 in
set_option maxHeartbeats 3200000 in
theorem readFlags_any (g : Nat) (bs : List UInt8) (ao : Option Addr) (cap most : Nat) (hm : most ≤ 65536) (w : World) (hR : Rd w g bs 0 ao cap) (hnear : ∀ a, ao = some a → a.block < w.heap.size) :
    Calls Try.prog 34 #[.pointer (some ⟨g, 0, none⟩), .int .i64 (most : Int)] w fun x w' => FPost w g (readF bs most) x w' := by
  have hg : g < w.heap.size := hR.row.lt
  have HC := show Hid _ from rUint_any g bs 0 ao cap (most + 1) w hR
  have hNl := suV_le bs 0 (most + 1)
  obtain ⟨N, hN⟩ : ∃ v, suV bs 0 (most + 1) = v := ⟨_, rfl⟩
  obtain ⟨b1, hb1⟩ : ∃ v, suB bs 0 (most + 1) = v := ⟨_, rfl⟩
  obtain ⟨e1, he1⟩ : ∃ v, suE bs 0 (most + 1) = v := ⟨_, rfl⟩
  have hN0 : ¬ e1 = 0 → N = 0 := fun h => by
    rw [← hN]; show ruV bs (most + 1) = 0; unfold ruV; rw [if_neg (by rw [← he1] at h; exact h)]
  obtain ⟨R, HRR⟩ : ∃ R, Hid (readF bs most = R) := ⟨_, rfl⟩
  have HRD : Hid (R = if e1 = 0 then rf most N N 0 b1 [] else ([], b1, e1)) := by unfold Hid; rw [← HRR.out]; unfold readF; rw [he1, hN, hb1]
  rw [hN] at hNl
  rw [hN, hb1, he1] at HC
  rw [HRR.out]
  have HNE := show Hid _ from hnear
  obtain ⟨mx, hmx⟩ : ∃ m, most + 1 = m := ⟨_, rfl⟩
  have hmxI : (most : Int) + 1 = (mx : Int) := by omega
  rw [hmx] at HC
  clear hN hb1 he1 hR HRR hnear
  by_cases h0 : e1 = 0
  · subst h0
    have HR0 : Hid (rf most N N 0 b1 [] = R) := by unfold Hid; rw [HRD.out]; simp
    clear HRD hN0
    go_enter Try.func34, Try.ntmps34
    go_wp2_with (go_at_call 44; refine Calls.mono HC.out ?_; rintro x w1 ⟨rfl, hn1⟩; obtain ⟨a1, c1, hr1, hbt1, hnr1⟩ := Nx.near hn1 HNE.out; have HL0 : Hid (FRel w g w1 b1 a1 c1 (.slice none 0 0) []) := ⟨hr1, hbt1, OwnB.nil _ _, hnr1⟩; clear hn1 hr1 hbt1 hnr1)
    go_loopw [6, 18] (fun v i wr => ∃ (k : Nat) (b : List UInt8) (ax : Option Addr) (cx : Nat) (acc : List Bool), k ≤ N ∧ i = .int .u64 k ∧ FRel w g wr b ax cx v acc ∧ acc.length ≤ most ∧ rf most N (N - k) k b acc = R) (fun _ i _ => N - (intOf i).toNat)
    case atStart => exact ⟨0, b1, a1, c1, [], by omega, rfl, HL0.out, by simp, HR0.out⟩
    case round =>
      clear HL0 HR0
      obtain ⟨k, b, ax, cx, acc, hk, rfl, hrel, hacc, hspec⟩ := hrel
      by_cases hkN : k < N
      · obtain ⟨va, vc, rfl, hint, hvc, hvl⟩ := hrel.own.at
        obtain ⟨room, hroom⟩ : ∃ r, most - acc.length = r := ⟨_, rfl⟩
        obtain ⟨lst, hlst⟩ : ∃ r, leastOf N k = r := ⟨_, rfl⟩
        have hl1 : lst ≤ 1 := by rw [← hlst]; unfold leastOf; split <;> omega
        rw [show N - k = (N - (k + 1)) + 1 by omega, rf, hroom, hlst] at hspec
        have C45 := show Hid _ from readLength_any g b 0 ax cx room lst (by omega) hl1 wr hrel.rd
        obtain ⟨V, hV⟩ : ∃ v, rlV b 0 room lst = v := ⟨_, rfl⟩
        obtain ⟨E, hE⟩ : ∃ v, rlE b 0 room lst = v := ⟨_, rfl⟩
        obtain ⟨b2, hb2⟩ : ∃ v, suB b 0 room = v := ⟨_, rfl⟩
        obtain ⟨e2, he2⟩ : ∃ v, suE b 0 room = v := ⟨_, rfl⟩
        have hE2 : E = 0 → e2 = 0 ∧ V ≤ room := fun h => by
          have h1 := rlV_le b 0 room lst
          rw [hV] at h1
          rw [← hE] at h
          unfold rlE at h
          rw [← he2]
          split at h
          · rename_i h3; exact ⟨h3, h1⟩
          · omega
        rw [hV, hE, hb2, he2] at C45
        rw [hE, hb2, hV] at hspec
        obtain ⟨β, hβ⟩ : ∃ β, ((k : Int) % 2 == 1) = β := ⟨_, rfl⟩
        rw [hβ] at hspec
        have HRL := show Hid _ from hrel
        have HSP := show Hid _ from hspec
        have HKN : Hid (k + 1 ≤ N) := hkN
        have hxl : (acc.length : Int) ≤ (most : Int) := by omega
        have hroomI : (most : Int) - (acc.length : Int) = (room : Int) := by omega
        have HACC : Hid (acc.length + room = most) := by unfold Hid; omega
        clear hV hE hb2 he2 hrel hspec hvl hvc hint
        by_cases hk0 : k = 0
        · subst hk0
          by_cases hN1 : 1 < N
          · obtain rfl : 0 = lst := by rw [← hlst]; unfold leastOf; rw [if_pos ⟨rfl, hN1⟩]
            obtain rfl : false = β := by rw [← hβ]; decide
            clear hlst hβ
            by_cases hE0 : E = 0
            · obtain ⟨h20, hVr⟩ := hE2 hE0
              subst hE0 h20
              have HSP2 : Hid (rf most N (N - (0 + 1)) (0 + 1) b2 (acc ++ List.replicate V false) = R) := (if_pos rfl).symm.trans HSP.out
              clear HSP hE2
              go_wp2_with (first
                | (go_at_call 45; refine Calls.mono C45.out ?_; rintro x w2 ⟨rfl, hn2⟩; obtain ⟨a2, c2, hr2, hbt2, hnr2⟩ := Nx.near hn2 HRL.out.near; have HB2 : Hid (But g w w2) := HRL.out.but.trans hbt2; have HO2 : Hid (OwnB w2 w.heap.size (.slice va acc.length vc) acc) := OwnB.but HRL.out.own hbt2 hg; have HRd2 := show Hid (Rd w2 g b2 0 a2 c2) from hr2; clear hn2 hr2 hbt2)
                | (go_at_call 46; refine (repeatB_all false V (by omega) w2.heap.size _ (box_cell w2 _ _)).mono ?_; rintro x w5 ⟨rfl, hrow5, hA5⟩; have hA35 : After w2 w5 := (after_alloc (After.refl w2) _).trans hA5; have HO5 : Hid (OwnB w5 w.heap.size (.slice va acc.length vc) acc) := OwnB.keep HO2.out (fun j hj => hA35.block j (World.ownsRow.lt HO2.out j hj).2); have HB5 : Hid (But g w w5) := HB2.out.trans (But.of_below hA35); have HRd5 := show Hid (Rd w5 g b2 0 a2 c2) from Rd.after HRd2.out hA35; have HROW := show Hid (RowIs w5 (w2.heap.size + 1) 4 (cb (List.replicate V false))) from (by have := hrow5; rw [show (w2.alloc (.cells #[.bool false] 4)).heap.size = w2.heap.size + 1 by simp] at this; exact this); have hsz5 : w.heap.size ≤ w5.heap.size := HB5.out.size; clear hrow5 hA5 hA35)
                | (at_builtin; refine wpList_append_bools rfl (.tmp 40) (.tmp 46) rfl w.heap.size _ acc rfl HO5.out ⟨w2.heap.size + 1, 0, none⟩ V (List.replicate V false) V (by simp) rfl (fun j hj => by rw [Addr.add_mid, Nat.zero_add]; exact RowIs.cell HROW.out (cb_get _ j hj)) (by have := HACC.out; rw [List.length_replicate]; omega) hsz5 ?_; intro v6 w6 ho6 hg6; have HR6 := show Hid (FRel w g w6 b2 a2 c2 v6 (acc ++ List.replicate V false)) from FRel.grown hg HRd5.out HB5.out hnr2 HO5.out ho6 hg6; clear ho6 hg6))
              go_roundw
              case rel => exact ⟨0 + 1, b2, a2, c2, _, HKN.out, by go_num, HR6.out, by have := HACC.out; simp; omega, HSP2.out⟩
              case measure => have := HKN.out; simp [intOf]; omega
            · have HE : Hid (([], b2, E) = R) := (if_neg hE0).symm.trans HSP.out
              clear HSP hE2
              go_wp2_with (go_at_call 45; refine Calls.mono C45.out ?_; rintro x w2 ⟨rfl, hn2⟩; obtain ⟨a2, c2, hr2, hbt2, hnr2⟩ := Nx.near hn2 HRL.out.near; have HB2 : Hid (But g w w2) := HRL.out.but.trans hbt2; have HO2 : Hid (OwnB w2 w.heap.size (.slice va acc.length vc) acc) := OwnB.but HRL.out.own hbt2 hg; have HRd2 := show Hid (Rd w2 g b2 e2 a2 c2) from hr2; clear hn2 hr2 hbt2)
              go_ret2
              rw [← HE.out]
              exact FPost.err hE0 HB2.out
          · obtain rfl : 1 = lst := by rw [← hlst]; unfold leastOf; rw [if_neg (fun h => hN1 h.2)]
            obtain rfl : false = β := by rw [← hβ]; decide
            clear hlst hβ
            by_cases hE0 : E = 0
            · obtain ⟨h20, hVr⟩ := hE2 hE0
              subst hE0 h20
              have HSP2 : Hid (rf most N (N - (0 + 1)) (0 + 1) b2 (acc ++ List.replicate V false) = R) := (if_pos rfl).symm.trans HSP.out
              clear HSP hE2
              go_wp2_with (first
                | (go_at_call 45; refine Calls.mono C45.out ?_; rintro x w2 ⟨rfl, hn2⟩; obtain ⟨a2, c2, hr2, hbt2, hnr2⟩ := Nx.near hn2 HRL.out.near; have HB2 : Hid (But g w w2) := HRL.out.but.trans hbt2; have HO2 : Hid (OwnB w2 w.heap.size (.slice va acc.length vc) acc) := OwnB.but HRL.out.own hbt2 hg; have HRd2 := show Hid (Rd w2 g b2 0 a2 c2) from hr2; clear hn2 hr2 hbt2)
                | (go_at_call 46; refine (repeatB_all false V (by omega) w2.heap.size _ (box_cell w2 _ _)).mono ?_; rintro x w5 ⟨rfl, hrow5, hA5⟩; have hA35 : After w2 w5 := (after_alloc (After.refl w2) _).trans hA5; have HO5 : Hid (OwnB w5 w.heap.size (.slice va acc.length vc) acc) := OwnB.keep HO2.out (fun j hj => hA35.block j (World.ownsRow.lt HO2.out j hj).2); have HB5 : Hid (But g w w5) := HB2.out.trans (But.of_below hA35); have HRd5 := show Hid (Rd w5 g b2 0 a2 c2) from Rd.after HRd2.out hA35; have HROW := show Hid (RowIs w5 (w2.heap.size + 1) 4 (cb (List.replicate V false))) from (by have := hrow5; rw [show (w2.alloc (.cells #[.bool false] 4)).heap.size = w2.heap.size + 1 by simp] at this; exact this); have hsz5 : w.heap.size ≤ w5.heap.size := HB5.out.size; clear hrow5 hA5 hA35)
                | (at_builtin; refine wpList_append_bools rfl (.tmp 40) (.tmp 46) rfl w.heap.size _ acc rfl HO5.out ⟨w2.heap.size + 1, 0, none⟩ V (List.replicate V false) V (by simp) rfl (fun j hj => by rw [Addr.add_mid, Nat.zero_add]; exact RowIs.cell HROW.out (cb_get _ j hj)) (by have := HACC.out; rw [List.length_replicate]; omega) hsz5 ?_; intro v6 w6 ho6 hg6; have HR6 := show Hid (FRel w g w6 b2 a2 c2 v6 (acc ++ List.replicate V false)) from FRel.grown hg HRd5.out HB5.out hnr2 HO5.out ho6 hg6; clear ho6 hg6))
              go_roundw
              case rel => exact ⟨0 + 1, b2, a2, c2, _, HKN.out, by go_num, HR6.out, by have := HACC.out; simp; omega, HSP2.out⟩
              case measure => have := HKN.out; simp [intOf]; omega
            · have HE : Hid (([], b2, E) = R) := (if_neg hE0).symm.trans HSP.out
              clear HSP hE2
              go_wp2_with (go_at_call 45; refine Calls.mono C45.out ?_; rintro x w2 ⟨rfl, hn2⟩; obtain ⟨a2, c2, hr2, hbt2, hnr2⟩ := Nx.near hn2 HRL.out.near; have HB2 : Hid (But g w w2) := HRL.out.but.trans hbt2; have HO2 : Hid (OwnB w2 w.heap.size (.slice va acc.length vc) acc) := OwnB.but HRL.out.own hbt2 hg; have HRd2 := show Hid (Rd w2 g b2 e2 a2 c2) from hr2; clear hn2 hr2 hbt2)
              go_ret2
              rw [← HE.out]
              exact FPost.err hE0 HB2.out
        · obtain rfl : 1 = lst := by rw [← hlst]; unfold leastOf; rw [if_neg (fun h => hk0 h.1)]
          clear hlst
          by_cases hE0 : E = 0
          · obtain ⟨h20, hVr⟩ := hE2 hE0
            subst hE0 h20
            have HSP2 : Hid (rf most N (N - (k + 1)) (k + 1) b2 (acc ++ List.replicate V β) = R) := (if_pos rfl).symm.trans HSP.out
            clear HSP hE2
            go_wp2_with (first
              | (go_at_call 45; refine Calls.mono C45.out ?_; rintro x w2 ⟨rfl, hn2⟩; obtain ⟨a2, c2, hr2, hbt2, hnr2⟩ := Nx.near hn2 HRL.out.near; have HB2 : Hid (But g w w2) := HRL.out.but.trans hbt2; have HO2 : Hid (OwnB w2 w.heap.size (.slice va acc.length vc) acc) := OwnB.but HRL.out.own hbt2 hg; have HRd2 := show Hid (Rd w2 g b2 0 a2 c2) from hr2; clear hn2 hr2 hbt2)
              | (go_at_call 46; refine (repeatB_all β V (by omega) w2.heap.size _ (box_cell w2 _ _)).mono ?_; rintro x w5 ⟨rfl, hrow5, hA5⟩; have hA35 : After w2 w5 := (after_alloc (After.refl w2) _).trans hA5; have HO5 : Hid (OwnB w5 w.heap.size (.slice va acc.length vc) acc) := OwnB.keep HO2.out (fun j hj => hA35.block j (World.ownsRow.lt HO2.out j hj).2); have HB5 : Hid (But g w w5) := HB2.out.trans (But.of_below hA35); have HRd5 := show Hid (Rd w5 g b2 0 a2 c2) from Rd.after HRd2.out hA35; have HROW := show Hid (RowIs w5 (w2.heap.size + 1) 4 (cb (List.replicate V β))) from (by have := hrow5; rw [show (w2.alloc (.cells #[.bool β] 4)).heap.size = w2.heap.size + 1 by simp] at this; exact this); have hsz5 : w.heap.size ≤ w5.heap.size := HB5.out.size; clear hrow5 hA5 hA35)
              | (at_builtin; refine wpList_append_bools rfl (.tmp 40) (.tmp 46) rfl w.heap.size _ acc rfl HO5.out ⟨w2.heap.size + 1, 0, none⟩ V (List.replicate V β) V (by simp) rfl (fun j hj => by rw [Addr.add_mid, Nat.zero_add]; exact RowIs.cell HROW.out (cb_get _ j hj)) (by have := HACC.out; rw [List.length_replicate]; omega) hsz5 ?_; intro v6 w6 ho6 hg6; have HR6 := show Hid (FRel w g w6 b2 a2 c2 v6 (acc ++ List.replicate V β)) from FRel.grown hg HRd5.out HB5.out hnr2 HO5.out ho6 hg6; clear ho6 hg6))
            go_roundw
            case rel => exact ⟨k + 1, b2, a2, c2, _, HKN.out, by go_num, HR6.out, by have := HACC.out; simp; omega, HSP2.out⟩
            case measure => have := HKN.out; simp [intOf]; omega
          · have HE : Hid (([], b2, E) = R) := (if_neg hE0).symm.trans HSP.out
            clear HSP hE2
            go_wp2_with (go_at_call 45; refine Calls.mono C45.out ?_; rintro x w2 ⟨rfl, hn2⟩; obtain ⟨a2, c2, hr2, hbt2, hnr2⟩ := Nx.near hn2 HRL.out.near; have HB2 : Hid (But g w w2) := HRL.out.but.trans hbt2; have HO2 : Hid (OwnB w2 w.heap.size (.slice va acc.length vc) acc) := OwnB.but HRL.out.own hbt2 hg; have HRd2 := show Hid (Rd w2 g b2 e2 a2 c2) from hr2; clear hn2 hr2 hbt2)
            go_ret2
            rw [← HE.out]
            exact FPost.err hE0 HB2.out
      · obtain rfl : k = N := by omega
        rw [Nat.sub_self] at hspec
        have HSP := show Hid ((acc, b, 0) = R) from hspec
        have HRL := show Hid _ from hrel
        clear hspec hrel
        go_wp2_with (go_at_call 47; refine (rErr_any g b 0 ax cx _ HRL.out.rd).mono ?_; rintro x w4 ⟨rfl, hw4⟩; have hw5 := hw4.symm; clear hw4; subst hw5)
        go_ret2
        rw [← HSP.out]
        exact ⟨_, rfl, HRL.out.own, HRL.out.but, fun _ => ⟨_, _, HRL.out.rd⟩⟩
  · obtain rfl : N = 0 := hN0 h0
    have HE : Hid (([], b1, e1) = R) := by unfold Hid; rw [HRD.out]; exact (if_neg h0).symm
    clear HRD hN0
    go_enter Try.func34, Try.ntmps34
    go_wp2_with (go_at_call 44; refine Calls.mono HC.out ?_; rintro x w1 ⟨rfl, hn1⟩; obtain ⟨a1, c1, hr1, hbt1, hnr1⟩ := Nx.near hn1 HNE.out; have HR1 := show Hid (Rd w1 g b1 e1 a1 c1) from hr1; have HB1 := show Hid (But g w w1) from hbt1; clear hn1 hr1 hbt1 hnr1)
    go_loopw [6, 18] (fun v i wr => i = .int .u64 0 ∧ v = .slice none 0 0 ∧ Hid (Rd wr g b1 e1 a1 c1) ∧ Hid (But g w wr)) (fun _ _ _ => 0)
    case atStart => exact ⟨rfl, rfl, HR1.out, HB1.out⟩
    case round =>
      clear HR1 HB1
      obtain ⟨rfl, rfl, HR1, HB1⟩ := hrel
      go_wp2_with (go_at_call 47; refine (rErr_any g b1 e1 a1 c1 _ HR1.out).mono ?_; rintro x w4 ⟨rfl, hw4⟩; have hw5 := hw4.symm; clear hw4; subst hw5)
      go_ret2
      rw [← HE.out]
      exact FPost.err h0 HB1.out
end Go.Proofs.Ytjmflggnnchojaa
