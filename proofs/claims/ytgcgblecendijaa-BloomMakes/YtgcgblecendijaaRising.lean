/-
  THE WALK OF (set).rising.
-/
import Derived.Test.YtgcgblecendijaaSets
import Derived.Test.YtgcgblecendijaaSmall
namespace Go.Proofs.Ytgcgblecendijaa
open Go.RowKit Go.Maps Go.Sort
def Up (s : List Hs) : Prop := s.Pairwise (fun x y => ltStr x y = true)
theorem Up.nodup {s : List Hs} (h : Up s) : s.Nodup := List.Pairwise.imp (fun {a b} hab e => by rw [e, swo_ltStr.irrefl] at hab; cases hab) h
theorem ltStr_total {x y : Hs} (h : ltStr y x = false) (hne : x ≠ y) : ltStr x y = true := by
  simp only [ltStr, decide_eq_false_iff_not, List.not_lt, decide_eq_true_eq] at *
  exact Classical.byContradiction fun hn => hne (List.le_antisymm h (List.not_lt.1 hn))
/-- A strictly rising list is told by its members. -/
theorem Up.unique : ∀ {s t : List Hs}, Up s → Up t → (∀ h, h ∈ s ↔ h ∈ t) → s = t := by
  intro s
  induction s with
  | nil => intro t _ _ h; cases t with
    | nil => rfl
    | cons y t => have := (h y).2 (by simp); simp at this
  | cons x s ih =>
    intro t hs ht h
    cases t with
    | nil => have := (h x).1 (by simp); simp at this
    | cons y t =>
      have hx := List.pairwise_cons.1 hs
      have hy := List.pairwise_cons.1 ht
      have e : x = y := Classical.byContradiction fun hne => by
        have h1 := (h x).1 (by simp)
        have h2 := (h y).2 (by simp)
        rcases List.mem_cons.1 h1 with q | q
        · exact hne q
        · rcases List.mem_cons.1 h2 with p | p
          · exact hne p.symm
          · have a := hx.1 y p
            have b := hy.1 x q
            have := swo_ltStr.trans x y x a b
            rw [swo_ltStr.irrefl] at this; cases this
      subst e
      congr 1
      refine ih hx.2 hy.2 (fun z => ⟨fun hz => ?_, fun hz => ?_⟩)
      · rcases List.mem_cons.1 ((h z).1 (by simp [hz])) with q | q
        · subst q; have := hx.1 z hz; rw [swo_ltStr.irrefl] at this; cases this
        · exact q
      · rcases List.mem_cons.1 ((h z).2 (by simp [hz])) with q | q
        · subst q; have := hy.1 z hz; rw [swo_ltStr.irrefl] at this; cases this
        · exact q
theorem permIn_list {d d' : Array Hs} (h : PermIn 0 d.size d d') : d'.toList.Perm d.toList := by
  have h1 := h.2.2
  have h2 := h.1
  rw [show d'.extract 0 d.size = d' by rw [← h2]; simp, show d.extract 0 d.size = d by simp] at h1
  exact h1
theorem sorted_up {d : Array Hs} (h : SortedIn ltStr 0 d.size d) (hn : d.toList.Nodup) : Up d.toList := by
  unfold Up
  rw [List.pairwise_iff_getElem]
  intro i j hi hj hij
  have hi' : i < d.size := by simpa using hi
  have hj' : j < d.size := by simpa using hj
  have := h i j (Nat.zero_le _) hij hj'
  rw [getElem!_pos d i hi', getElem!_pos d j hj'] at this
  simp only [Array.getElem_toList]
  refine ltStr_total this (fun e => ?_)
  have := (List.nodup_iff_pairwise_ne.1 hn)
  rw [List.pairwise_iff_getElem] at this
  exact this i j hi hj hij (by simpa using e)
theorem OwnH.sm {w : World} {base : Nat} {v : Value} {l : List Hs} (h : OwnH w base v l) (hn : l ≠ []) : ∃ g cap, v = .slice (some ⟨g, 0, none⟩) l.length cap := by
  rcases h.2 with ⟨hv, h0⟩ | ⟨g, cap, cur, hv, _⟩
  · exact absurd (List.eq_nil_of_length_eq_zero h0) hn
  · exact ⟨g, cap, hv⟩
theorem c8_toArray_inj {x y : Hs} (h : hv x = hv y) : x = y := by
  unfold hv c8 at h
  simp only [Value.agg.injEq] at h
  have h2 := congrArg Array.toList h
  simp only at h2
  exact (List.map_inj_right (fun a b hab => by simp only [Value.int.injEq, true_and] at hab; exact UInt8.toNat_inj.1 (by omega))).1 h2
theorem sameKey_str (x y : Hs) : (Lit.string x).sameKey (.string y) = decide (x = y) := by
  by_cases e : x = y
  · subst e; simp [Lit.sameKey]
  · rw [sameKey_ne (by intro e2; exact e (by injection e2))]; simp [e]
section
variable {w : World} {ops : Array Oper} {rest : List Oper} {o : Oper} {a : Act} {Q : Exit → Act → World → Prop}
theorem wpList_next_hash (hg : o.guard = none) (it : Operand) (hop : o.op = Op.next it false) (b r n : Nat) (D : DataW Unit) (left : Lit → Bool) (cnt : Nat)
    (hit : a.eval it = .pointer (some ⟨r, 0, none⟩)) (h : w.ranges Try.prog 29 RU b r n D left cnt)
    (hDone : cnt = 0 → (∀ kl, left kl = false) → wpList Try.prog ops Q rest (a.put o.dst (.tuple #[.bool false])) w)
    (hMore : ∀ (x : Hs) (w' : World) (cnt' : Nat), x.length = 32 → left (.string x) = true → w'.ranges Try.prog 29 RU b r n D (fun z => left z && !z.sameKey (.string x)) cnt' → cnt' < cnt →
      w.grownBy w' (some r) → w'.heap.size = w.heap.size → (Instr.entry (.pointer (some ⟨r, 0, none⟩))).run Try.prog w' = .ok (.tuple #[hv x, .agg #[]]) w' → wpList Try.prog ops Q rest (a.put o.dst (.tuple #[.bool true, hv x, .agg #[]])) w') :
    wpList Try.prog ops Q (o :: rest) a w :=
  wpList_next_ranges w hg it hop 29 keyed24 RU hv (fun _ : Unit => .agg #[]) (fun key kl hk => by obtain ⟨h, _, e, _⟩ := keyOf24_inv hk; exact ⟨h, e⟩) (fun v y hv => ⟨(), (unitElem_inv hv).1⟩) b r n D left cnt hit h hDone
    (fun x c kl y w' cnt' hkey hlk hv hat hrg hlt hgr hsz hen => by
      obtain ⟨h, h32, e, rfl⟩ := keyOf24_inv hkey
      have hh := c8_toArray_inj e
      subst hh
      exact hMore x w' cnt' h32 hlk hrg hlt hgr hsz hen)
end
theorem c8_flat : ∀ ls : List Hs, ls.flatMap (fun x => (hv x).cells.toList) = c8 ls.flatten
  | [] => rfl
  | x :: ls => by rw [List.flatMap_cons, c8_flat ls, List.flatten_cons, c8_append]; rfl
/-- A literal of hashes. -/
theorem bs22s (W : World) {ls : List Hs} (h32 : All32 ls) (hn : ls ≠ []) (hsm : ls.length ≤ 100) (parts : Array (Nat × Value)) (hp : parts.toList = ((ls.map hv).zipIdx 0).map fun x => (x.2, x.1)) : (Instr.buildSlice 22 ls.length parts).run Try.prog W = .ok (.slice (some ⟨W.heap.size, 0, none⟩) ls.length ls.length) (W.alloc (.cells (c8 ls.flatten).toArray 29)) := by
  obtain ⟨i, z, hi, hz, hsz, hby, hzs, _⟩ := info24
  have hl : 0 < ls.length := List.length_pos_iff.2 hn
  refine run_buildSlice (P := Try.prog) W 22 29 ls.length parts (c8 ls.flatten).toArray i z Try.underlying22 hi hz (by rw [hsz]; omega) (by rw [hsz]; omega) ?_
  rw [hsz, hp]
  have := Great.fill_whole (s := 32) (by omega) (ls.map hv) ((Array.range (ls.length * 32)).map (z.cells[· % z.cells.size]!)) (fun v hv' => by obtain ⟨x, hx, rfl⟩ := List.mem_map.1 hv'; simp [hv, Value.cells, c8_len, h32 x hx]) (by simp)
  refine Eq.trans this ?_
  rw [List.flatMap_map, c8_flat]
theorem bs22 (W : World) {x : Hs} (h32 : x.length = 32) : (Instr.buildSlice 22 1 #[(0, hv x)]).run Try.prog W = .ok (.slice (some ⟨W.heap.size, 0, none⟩) 1 1) (W.alloc (.cells (c8 x).toArray 29)) := by
  have := bs22s W (ls := [x]) (All32.cons h32 All32.nil) (by simp) (by simp) #[(0, hv x)] rfl
  simpa using this
theorem OwnH.self {w : World} {base g n cap : Nat} {l : List Hs} (h : OwnH w base (.slice (some ⟨g, 0, none⟩) n cap) l) : OwnH w g (.slice (some ⟨g, 0, none⟩) n cap) l := by
  refine ⟨h.1, ?_⟩
  rcases h.2 with ⟨hv, _⟩ | ⟨g', cap', cur, hv, q1, rest⟩
  · cases hv
  · cases hv; exact .inr ⟨g, cap, cur, rfl, Nat.le_refl _, rest⟩
theorem wpList_of_run {w w' : World} {ops : Array Oper} {rest : List Oper} {o : Oper} {a : Act} {Q : Exit → Act → World → Prop} {v : Value} (hg : o.guard = none) (hr : (execOp a.eval o).run Try.prog w = .ok (.value v) w') (h : wpList Try.prog ops Q rest (a.put o.dst v) w') : wpList Try.prog ops Q (o :: rest) a w :=
  wpList_plain hg fun K hK => by unfold Oper.wp; rw [hr]; exact hK _ _ h
theorem wpList_bs22 {w : World} {ops : Array Oper} {rest : List Oper} {o : Oper} {a : Act} {Q : Exit → Act → World → Prop} (hg : o.guard = none) (x : Operand) (ho : o.op = .buildSlice 22 1 #[(0, x)]) {h : Hs} (h32 : h.length = 32) (hx : a.eval x = hv h) (K : wpList Try.prog ops Q rest (a.put o.dst (.slice (some ⟨w.heap.size, 0, none⟩) 1 1)) (w.alloc (.cells (c8 h).toArray 29))) : wpList Try.prog ops Q (o :: rest) a w :=
  wpList_of_run hg (by unfold execOp; simp [ho, hx, bs22 w h32]) K
theorem fresh_row (w : World) (h : Hs) (cs : Array Value) : ((w.alloc (.cells cs 29)).setRow w.heap.size (c8 h).toArray).heap[w.heap.size]? = some (.cells (c8 h).toArray 29 (0, 0)) ∧ After w ((w.alloc (.cells cs 29)).setRow w.heap.size (c8 h).toArray) ∧ ((w.alloc (.cells cs 29)).setRow w.heap.size (c8 h).toArray).heap.size = w.heap.size + 1 :=
  ⟨setRow_heap _ _ _ _ 29 _ (heap_alloc_new w _), Below.row (after_alloc (After.refl w) _) (Nat.le_refl _) _, by simp⟩
/-- What the loop of rising keeps. -/
structure RsI (w : World) (b r n Bb : Nat) (D : DataW Unit) (left : Lit → Bool) (cnt : Nat) (ss : List Hs) (v : Value) (wr : World) : Prop where
  rng : wr.ranges Try.prog 29 RU b r n D left cnt
  aft : After w wr
  own : OwnH wr w.heap.size v ss
  box : wr.heap[Bb]? = some (.cells #[v] 22 (0, 0))
  som : ∃ g cap, v = .slice (some ⟨g, 0, none⟩) ss.length cap
  nod : ss.Nodup
  a32 : All32 ss
  mem : ∀ h ∈ ss, Maps.has D (.string h) = true ∧ left (.string h) = false
  all : ∀ h, Maps.has D (.string h) = true → left (.string h) = true ∨ h ∈ ss
  sub : ∀ kl, left kl = true → Maps.has D kl = true
  cnt : ss.length + cnt ≤ n
theorem grown_none {w w' : World} (h : After w w') : w.grownBy w' none := ⟨h.os, h.tape, h.output, h.size, fun k hk _ => h.block k hk⟩
theorem rs_box {w w3 W5 w6 : World} {g k cap Bb : Nat} {ss : List Hs} (hb3 : w3.heap[Bb]? = some (.cells #[.slice (some ⟨g, 0, none⟩) k cap] 22 (0, 0))) (ho3 : OwnH w3 w.heap.size (.slice (some ⟨g, 0, none⟩) k cap) ss) (hW5 : After w3 W5) (hg6 : W5.grownBy w6 (some g)) : RowIs w6 Bb 22 [.slice (some ⟨g, 0, none⟩) k cap] := by
  have hlt := (Array.getElem?_eq_some_iff.1 hb3).1
  obtain ⟨cur, hcur, _⟩ := ho3.row
  have hne : Bb ≠ g := fun e => by rw [← e, hb3] at hcur; cases hcur
  unfold RowIs
  rw [hg6.block Bb (Nat.lt_of_lt_of_le hlt hW5.size) (by simpa using hne), hW5.block Bb hlt]
  exact hb3
theorem rs_next {w w3 W5 w6 wr : World} {b r n Bb g k cap cnt cnt3 : Nat} {D : DataW Unit} {left : Lit → Bool} {ss : List Hs} {v v' : Value} {x : Hs} (HX : RsI w b r n Bb D left cnt ss v wr)
    (hrg : w3.ranges Try.prog 29 RU b r n D (fun z => left z && !z.sameKey (.string x)) cnt3) (hA3 : After w w3) (hb3 : w3.heap[Bb]? = some (.cells #[.slice (some ⟨g, 0, none⟩) k cap] 22 (0, 0)))
    (ho3 : OwnH w3 w.heap.size (.slice (some ⟨g, 0, none⟩) k cap) ss) (hW5 : After w3 W5) (hg6 : W5.grownBy w6 (some g)) (ho6 : OwnH w6 w.heap.size v' (ss ++ [x])) (h32 : x.length = 32) (hlk : left (.string x) = true) (hlt : cnt3 < cnt) (hBb : w.heap.size ≤ Bb) :
    RsI w b r n Bb D (fun z => left z && !z.sameKey (.string x)) cnt3 (ss ++ [x]) v' (w6.setCell ⟨Bb, 0, none⟩ v') := by
  have hbox := rs_box hb3 ho3 hW5 hg6
  have hgb := (ho3.lt g rfl).1
  obtain ⟨cur, hcur, _⟩ := ho3.row
  have hgl := (ho3.lt g rfl).2
  obtain ⟨es, clock, since, seen, c0, hmb, _, _, _, hri, _⟩ := id hrg
  have hbg : b ≠ g := fun e => by rw [e, hcur] at hmb; cases hmb
  have hrg' : r ≠ g := fun e => by rw [e, hcur] at hri; cases hri
  have hbB : b ≠ Bb := fun e => by rw [e, hb3] at hmb; cases hmb
  have hrB : r ≠ Bb := fun e => by rw [e, hb3] at hri; cases hri
  obtain ⟨g', cap', rfl⟩ := ho6.sm (by simp)
  obtain ⟨cur', hcur', _⟩ := ho6.row
  have hgB : g' ≠ Bb := fun e => by unfold RowIs at hbox; rw [e, hbox] at hcur'; cases hcur'
  have hset : ∀ i, i ≠ Bb → (w6.setCell ⟨Bb, 0, none⟩ (.slice (some ⟨g', 0, none⟩) (ss ++ [x]).length cap')).heap[i]? = w6.heap[i]? := fun i hi => Below.heap_setCell w6 ⟨Bb, 0, none⟩ _ i hi
  have hbs : Below Bb w6 (w6.setCell ⟨Bb, 0, none⟩ (.slice (some ⟨g', 0, none⟩) (ss ++ [x]).length cap')) := Below.setCell (Below.refl Bb w6) (Nat.le_refl Bb) _
  have hgs : w6.grownBy (w6.setCell ⟨Bb, 0, none⟩ (.slice (some ⟨g', 0, none⟩) (ss ++ [x]).length cap')) (some Bb) := ⟨hbs.os, hbs.tape, hbs.output, hbs.size, fun i _ hne => hset i (by simpa using hne)⟩
  have hnx : x ∉ ss := fun hx => by have := (HX.mem x hx).2; rw [hlk] at this; cases this
  refine ⟨((hrg.kept (grown_none hW5) (by simp) (by simp)).kept hg6 (by simpa using hbg) (by simpa using hrg')).kept hgs (by simpa using hbB) (by simpa using hrB), ?_, ho6.same (fun i hi => by cases hi; exact hset g' hgB), hbox.set 0 _, ⟨g', cap', rfl⟩, ?_, HX.a32.app (All32.cons h32 All32.nil), fun h hh => ?_, fun h hh => ?_, fun kl hkl => HX.sub kl (by simp only [Bool.and_eq_true] at hkl; exact hkl.1), ?_⟩
  · exact Below.setCell (after_grown (After.trans hA3 hW5) hg6 hgb (fun i hi => by cases hi; exact Nat.le_refl _)) hBb _
  · rw [List.nodup_append]
    exact ⟨HX.nod, by simp, fun a ha b hb => by simp at hb; subst hb; exact fun e => hnx (e ▸ ha)⟩
  · rcases List.mem_append.1 hh with hh | hh
    · exact ⟨(HX.mem h hh).1, by simp [(HX.mem h hh).2]⟩
    · simp at hh; subst hh
      exact ⟨HX.sub _ hlk, by rw [sameKey_str]; simp⟩
  · by_cases e : h = x
    · right; simp [e]
    · rcases HX.all h hh with q | q
      · left; rw [sameKey_str]; simp [q, e]
      · right; simp [q]
  · have := HX.cnt
    rw [List.length_append]; simp only [List.length_cons, List.length_nil]; omega
theorem make_hashes (W : World) (c : Nat) (hc : c ≤ 4398046511104) :
    ∃ cs : Array Value, cs.size = c * 32 ∧ (Instr.makeSlice 22 (.int .i64 0) (.int .i64 (c : Int))).run Try.prog W = .ok (.slice (some ⟨W.heap.size, 0, none⟩) 0 c) (W.alloc (.cells cs 29)) := by
  obtain ⟨i, z, hi, hz, hsz, hby, hzs, _⟩ := info24
  have := run_make (P := Try.prog) W 22 29 i z Try.underlying22 hi hz .i64 .i64 0 c (by omega) (by omega) (by rw [hby]; omega) (by omega)
  refine ⟨madeCells z.cells (c * 32), by simp [madeCells], ?_⟩
  rw [this, hsz, Int.toNat_natCast]; rfl
set_option maxRecDepth 100000 in
set_option maxHeartbeats 3200000 in
theorem rising_any {m : Nat} (hm : SortOK m) (b n : Nat) (l : List Hs) (hn : n ≤ m) (hbig : n ≤ 4398046511104) (w : World) (hs : SetAt w b n l) :
    Calls Try.prog 29 #[.map (some b)] w fun e w' => ∃ v s, e = .returned v ∧ OwnH w' w.heap.size v s ∧ All32 s ∧ Up s ∧ (∀ h, h ∈ s ↔ h ∈ l) ∧ s.length ≤ n ∧ After w w' := by
  obtain ⟨D, hD, hl⟩ := hs.ex
  obtain ⟨N, hN⟩ : ∃ N, Maps.size D = N := ⟨_, rfl⟩
  have hNn : N ≤ n := by rw [← hN]; exact hD.size_le
  have hlen : (Builtin.len_ #[56] 3 #[.map (some b)]).run Try.prog w = .ok (.int .i64 (N : Int)) w := by
    have := hD.len Try.underlying56 3; rwa [hN] at this
  obtain ⟨cs, hcs, hmk⟩ := make_hashes w N (by omega)
  have HD : Hid (w.ownsMap Try.prog 29 RU b n D) := hD
  have HL : Hid (SetD D l) := hl
  have HM : Hid (SortOK m) := hm
  have HLE : Hid (N ≤ n ∧ n ≤ m ∧ n ≤ 4398046511104 ∧ Maps.size D = N) := ⟨hNn, hn, hbig, hN⟩
  obtain ⟨W1, hW1⟩ : ∃ W1, (w.alloc (.cells cs 29)).alloc (.cells #[.slice (some ⟨w.heap.size, 0, none⟩) 0 N] 22) = W1 := ⟨_, rfl⟩
  have HA1 : Hid (After w W1) := by rw [← hW1]; exact after_alloc (after_alloc (After.refl w) _) _
  have hs1 : W1.heap.size = w.heap.size + 2 := by rw [← hW1]; simp
  have HOW : Hid (OwnH W1 w.heap.size (.slice (some ⟨w.heap.size, 0, none⟩) 0 N) []) := by
    have h1 : OwnH (w.alloc (.cells cs 29)) w.heap.size (.slice (some ⟨w.heap.size, 0, none⟩) 0 N) [] := World.ownsRow_made w _ N (Nat.le_refl _) (by unfold maxLen; omega) hcs
    rw [← hW1]; exact h1.after (after_alloc (After.refl _) _)
  have HBX : Hid (W1.heap[w.heap.size + 1]? = some (.cells #[.slice (some ⟨w.heap.size, 0, none⟩) 0 N] 22 (0, 0))) := by
    have := heap_alloc_new (w.alloc (.cells cs 29)) (.cells #[.slice (some ⟨w.heap.size, 0, none⟩) 0 N] 22)
    rw [hW1] at this
    unfold Hid
    simpa using this
  have HOM : Hid (W1.ownsMap Try.prog 29 RU b n D) := ownsMap_same hD (HA1.out.block b hD.lt)
  have HW1 := show Hid (_ = W1) from hW1
  have HS1 := show Hid (W1.heap.size = w.heap.size + 2) from hs1
  clear hs hm hn hbig hD hl hNn hN hcs hW1 hs1
  go_enter Try.func29, Try.ntmps29
  go_wp2_with (first | (at_range; rw [HW1.out]; refine wpList_range_own _ rfl _ 56 rfl 29 70 keyed24 Try.underlying56 RU b n D rfl HOM.out ?_; intro w2 hrg0 hg0 hs2) | fail)
  go_frame
  rw [HS1.out]
  rw [HS1.out] at hrg0 hs2
  have HC0 : Hid (RsI w b (w.heap.size + 2) n (w.heap.size + 1) D (Maps.has D) (Maps.size D) [] (.slice (some ⟨w.heap.size, 0, none⟩) 0 N) w2) := by
    have hA2 : After W1 w2 := ⟨hg0.os, hg0.tape, hg0.output, hg0.size, fun k hk => hg0.block k hk (by simp)⟩
    exact ⟨hrg0, After.trans HA1.out hA2, HOW.out.after hA2, by rw [hA2.block _ (by rw [HS1.out]; omega)]; exact HBX.out, ⟨_, _, rfl⟩, List.nodup_nil, All32.nil, fun h hh => by simp at hh, fun h hh => Or.inl hh, fun kl h => h, by rw [HLE.out.2.2.2]; simpa using HLE.out.1⟩
  clear hrg0 hg0 hs2 hlen hmk
  go_loopw [] (fun wr => ∃ left cnt ss v, Hid (RsI w b (w.heap.size + 2) n (w.heap.size + 1) D left cnt ss v wr)) (fun wr => wr.rangeLeft b (w.heap.size + 2))
  case atStart => exact ⟨_, _, _, _, HC0⟩
  case round =>
    obtain ⟨left, cnt, ss, v, HX⟩ := hrel
    go_wp2_with (first | (at_next; refine wpList_next_hash rfl _ rfl b (w.heap.size + 2) n D left cnt rfl HX.out.rng ?_ ?_) | fail)
    · intro _ hl0
      have HL0 := show Hid (∀ kl, left kl = false) from hl0
      clear hl0
      obtain ⟨g, cap, rfl⟩ := HX.out.som
      have hcell : wr.cell? ⟨w.heap.size + 1, 0, none⟩ = some (.slice (some ⟨g, 0, none⟩) ss.length cap) := (show RowIs wr (w.heap.size + 1) 22 [.slice (some ⟨g, 0, none⟩) ss.length cap] from HX.out.box).cell (j := 0) rfl
      have hgb : w.heap.size ≤ g := (HX.out.own.lt g rfl).1
      have hne : w.heap.size + 1 ≠ g := fun e => by
        obtain ⟨cur, hcur, _⟩ := HX.out.own.row
        rw [← e, HX.out.box] at hcur; cases hcur
      have hss : ss.length ≤ m := by have h1 := HX.out.cnt; have h2 := HLE.out.2.1; omega
      have CS := HM.out wr g cap (w.heap.size + 1) ss.toArray wr (by simpa using hss) ⟨by simpa using HX.out.own.self, by simpa using hcell, hne, ⟨rfl, rfl, rfl, Nat.le_refl _, fun _ _ _ => rfl⟩, by simpa using HX.out.a32⟩
      have HCS := show Hid _ from CS
      have HGB : Hid (w.heap.size ≤ g) := hgb
      obtain ⟨k, hk⟩ : ∃ k, ss.length = k := ⟨_, rfl⟩
      have HK : Hid (ss.length = k) := hk
      rw [show ss.toArray.size = k by simpa using hk] at HCS
      unfold lessV at HCS
      rw [hk] at hcell
      clear hgb hne hss CS hk
      go_wp2_with (first
        | (go_at_call 38; refine Calls.mono HCS.out ?_; rintro e w4 ⟨rfl, d', hp, hso, hsw⟩; have HP := show Hid (PermIn _ _ _ _) from hp; have HSO := show Hid (SortedIn _ _ _ _) from hso; have HSW := show Hid (SW _ _ _ _ _ _) from hsw; have hbx := hsw.box; rw [show d'.size = k by rw [hp.1]; simpa using HK.out] at hbx; clear hp hso hsw))
      go_ret
      have hdk : d'.size = k := by rw [HP.out.1]; simpa using HK.out
      have hpl : d'.toList.Perm ss := by
        have := permIn_list (d := ss.toArray) (d' := d') (by rw [show ss.toArray.size = k by simpa using HK.out]; exact HP.out)
        simpa using this
      refine ⟨_, d'.toList, rfl, ?_, HSW.out.a32, sorted_up (by rw [hdk]; exact HSO.out) (hpl.nodup_iff.2 HX.out.nod), fun h => ?_, ?_, after_grown HX.out.aft HSW.out.grow HGB.out (fun i hi => by cases hi; exact Nat.le_refl _)⟩
      · have := HSW.out.own.mono HGB.out
        rwa [hdk] at this
      · rw [hpl.mem_iff, ← HL.out h]
        exact ⟨fun hh => (HX.out.mem h hh).1, fun hh => (HX.out.all h hh).resolve_left (by rw [HL0.out]; simp)⟩
      · have h1 := HX.out.cnt
        rw [hpl.length_eq]; omega
    · intro x w3 cnt3 h32 hlk hrg3 hlt3 hg3 hs3 hen
      obtain ⟨g, cap, rfl⟩ := HX.out.som
      have hrne : ∀ (i : Nat) (cur : Array Value) (t : TypeId), wr.heap[i]? = some (Obj.cells cur t (0, 0)) → w3.heap[i]? = wr.heap[i]? := fun i cur t hi => hg3.block i (Array.getElem?_eq_some_iff.1 hi).1 (fun e => by
        simp only [Option.some.injEq] at e
        subst e
        obtain ⟨_, _, _, _, _, _, _, _, _, hr, _⟩ := HX.out.rng
        rw [hr] at hi; cases hi)
      have hA3 : After w w3 := below_grown HX.out.aft hg3 (fun k hk => by cases hk; omega) HX.out.aft.size
      have hO3 : OwnH w3 w.heap.size (.slice (some ⟨g, 0, none⟩) ss.length cap) ss := HX.out.own.same (fun i hi => by
        obtain ⟨cur, hcur, _⟩ := HX.out.own.row
        cases hi; exact hrne _ _ _ hcur)
      have hB3 : w3.heap[w.heap.size + 1]? = some (.cells #[.slice (some ⟨g, 0, none⟩) ss.length cap] 22 (0, 0)) := by rw [hrne _ _ _ HX.out.box]; exact HX.out.box
      obtain ⟨cur, hcur, _⟩ := hO3.row
      have hne : w.heap.size + 1 ≠ g := fun e => by rw [← e, hB3] at hcur; cases hcur
      have HX3 : Hid (x.length = 32 ∧ left (.string x) = true ∧ cnt3 < cnt ∧ w.heap.size + 1 ≠ g) := ⟨h32, hlk, hlt3, hne⟩
      obtain ⟨k, hk⟩ : ∃ k, ss.length = k := ⟨_, rfl⟩
      have HK : Hid (ss.length = k) := hk
      rw [hk] at hB3 hO3
      have HFS : Hid (∀ cs : Array Value, ((w3.alloc (.cells cs 29)).setRow w3.heap.size (c8 x).toArray).heap[w3.heap.size]? = some (.cells (c8 x).toArray 29 (0, 0)) ∧ After w3 ((w3.alloc (.cells cs 29)).setRow w3.heap.size (c8 x).toArray) ∧ ((w3.alloc (.cells cs 29)).setRow w3.heap.size (c8 x).toArray).heap.size = w3.heap.size + 1) := fun cs => fresh_row w3 x cs
      have HB3 := show Hid (_ = some (Obj.cells _ 22 (0, 0))) from hB3
      have HO3 := show Hid (OwnH _ _ _ _) from hO3
      have HA3 := show Hid (After w w3) from hA3
      have HRG3 := show Hid (World.ranges _ _ _ _ _ _ _ _ _ _) from hrg3
      have H32 : Hid (x.length = 32) := h32
      have HKB : Hid ((ss.length + [x].length) * 32 ≤ 140737488355328) := by have h1 := HX.out.cnt; have h2 := HLE.out.2.2.1; unfold Hid; simp only [List.length_cons, List.length_nil]; omega
      clear h32 hlk hrg3 hlt3 hg3 hrne hA3 hO3 hB3 hcur hne hk hs3
      go_wp2_with (first
        | (refine wpList_store_row rfl 29 (.tmp 4) (.tmp 13) rfl w3.heap.size (c8 x).toArray rfl rfl 29 _ (heap_alloc_new w3 _) (size24a H32.out) (by simp [c8_len, H32.out]) (hs_one x) ?_)
        | (refine wpList_load_row rfl 29 (.tmp 4) rfl w3.heap.size rfl 29 (c8 x).toArray (0, 0) _ (HFS.out _).1 Try.underlying29 rfl (size24a H32.out) ?_)
        | (refine wpList_of_run rfl (x_ld22 (x := .tmp 3) (g := w.heap.size + 1) (p := 0) rfl rfl (cell_at (HFS.out _).2.1 ((show RowIs w3 (w.heap.size + 1) 22 [.slice (some ⟨g, 0, none⟩) k cap] from HB3.out).cell (j := 0) rfl))) ?_)
        | (refine wpList_bs22 rfl (.tmp 15) rfl H32.out rfl ?_)
        | (at_builtin; refine wpList_append_hashes rfl _ _ rfl w.heap.size (.slice (some ⟨g, 0, none⟩) k cap) ss rfl ((HO3.out.after (HFS.out _).2.1).after (after_alloc (After.refl _) _)) (some ⟨_, 0, none⟩) 1 [x] (All32.cons H32.out All32.nil) 1 rfl rfl (HsAt.one _ x) HKB.out (by simp [(HFS.out _).2.2]; have := HA3.out.size; omega) ?_
           intro v' w6 ho6 hg6
           have hrow := rs_box HB3.out HO3.out (after_alloc (HFS.out _).2.1 _) hg6
           have hfr := hrow.frozen 0
           have hrl := hrow.lt
           have hcl := hrow.cell (j := 0) rfl
           have HNX := show Hid (RsI _ _ _ _ _ _ _ _ _ _ _) from rs_next HX.out HRG3.out HA3.out HB3.out HO3.out (after_alloc (HFS.out _).2.1 _) hg6 ho6 H32.out HX3.out.2.1 HX3.out.2.2.1 (Nat.le_succ _)
           obtain ⟨g6, cap6, rfl⟩ := ho6.sm (by simp)
           obtain ⟨k6, hk6⟩ : ∃ k6, (ss ++ [x]).length = k6 := ⟨_, rfl⟩
           rw [hk6] at HNX ⊢
           clear ho6 hg6 hrow hk6))
      go_roundw
      case rel => exact ⟨_, _, _, _, HNX⟩
      case measure => rw [HNX.out.rng.left_eq, HX.out.rng.left_eq]; exact HX3.out.2.2.1
end Go.Proofs.Ytgcgblecendijaa
