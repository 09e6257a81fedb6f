/-
  PROVED: for every operation that a call of stemmalaw07.OpMost is handed, the call returns true and the operation reads afterwards as it read before: of an operation that may be, as many as there may be are laid, and one more is not. CONDITIONS: none; no input is left out.
-/
import Derived.Test.YtpplnomomcdemaaBackLaw
import Derived.Maps.AppendAt
import Derived.Test.YtpplnomomcdemaaOpenOne
namespace Go.Proofs.Ytpplnomomcdemaa
open Go.RowKit Leb
theorem cellsOf_len : ∀ l : List Opn, (cellsOf l).length = l.length * 5
  | [] => rfl
  | x :: l => by
    show (oc x ++ cellsOf l).length = _
    rw [List.length_append, cellsOf_len l, List.length_cons]
    simp
    omega
theorem cellsOf_append : ∀ a b : List Opn, cellsOf (a ++ b) = cellsOf a ++ cellsOf b
  | [], _ => rfl
  | x :: a, b => by
    show oc x ++ cellsOf (a ++ b) = oc x ++ cellsOf a ++ cellsOf b
    rw [cellsOf_append a b, List.append_assoc]
theorem cellsOf_one : ∀ (l : List Opn) (u : Value), u ∈ cellsOf l → u.oneCell' = true
  | [], u, h => by simp [cellsOf] at h
  | x :: l, u, h => by
    rcases List.mem_append.1 (show u ∈ oc x ++ cellsOf l from h) with h | h
    · simp only [List.mem_cons, List.not_mem_nil, or_false] at h
      rcases h with rfl | rfl | rfl | rfl | rfl <;> rfl
    · exact cellsOf_one l u h
/-- A row of the call's own that holds operations. -/
def OwnO (w : World) (base : Nat) (v : Value) (l : List Opn) : Prop := w.ownsRow base 23 5 v l.length (cellsOf l)
theorem OwnO.nil (w : World) (base : Nat) : OwnO w base (.slice none 0 0) [] := World.ownsRow_nil w base 23 5
theorem OwnO.fresh (w : World) : OwnO (w.alloc (.cells #[] 23)) w.heap.size (.slice (some ⟨w.heap.size, 0, none⟩) 0 0) [] := World.ownsRow_made w #[] 0 (Nat.le_refl _) (by decide) rfl
theorem OwnO.keep {w w' : World} {B : Nat} {v : Value} {l : List Opn} (h : OwnO w B v l) (hk : ∀ k, v.ownBlock = some k → w'.heap[k]? = w.heap[k]?) : OwnO w' B v l := by
  refine ⟨h.1, ?_⟩
  rcases h.2 with hn | ⟨g, cap, cur, rfl, h1, h2, rest⟩
  · exact .inl hn
  · exact .inr ⟨g, cap, cur, rfl, h1, by rw [hk g rfl]; exact h2, rest⟩
theorem OwnO.after {w w' : World} {B : Nat} {v : Value} {l : List Opn} (h : OwnO w B v l) (ha : After w w') : OwnO w' B v l := h.keep (fun k hk => ha.block k (World.ownsRow.lt h k hk).2)
theorem OwnO.at {w : World} {base : Nat} {v : Value} {l : List Opn} (h : OwnO w base v l) : ∃ ao cap, v = .slice ao l.length cap ∧ OpsAt w ao l ∧ l.length ≤ cap ∧ (∀ a, ao = some a → base ≤ a.block ∧ a.block < w.heap.size) := by
  have hlt := World.ownsRow.lt h
  rcases h.2 with ⟨rfl, h0⟩ | ⟨g, cap, cur, rfl, hb, hg, hnc, _, hcs, ht⟩
  · obtain rfl := List.eq_nil_of_length_eq_zero h0
    exact ⟨none, 0, rfl, fun h => absurd rfl h, Nat.le_refl _, fun _ h => by cases h⟩
  · refine ⟨_, cap, rfl, fun _ => ⟨g, 0, rfl, fun j x hj i v hv => ?_⟩, hnc, fun a ha => by cases ha; exact hlt g rfl⟩
    have hjl := (List.getElem?_eq_some_iff.1 hj).1
    have hi5 : i < 5 := by have := (List.getElem?_eq_some_iff.1 hv).1; simpa using this
    rw [World.ownsRow.cellAt h _ (by omega), Nat.zero_add, cellsOf_at l j i x hj hi5, hv]
theorem info23o : (Try.prog.info? 23).map (fun i => (i.zero, i.size, i.bytes)) = some (some (.agg #[.int .i64 0, .string ⟨#[]⟩, .int .i64 0, .int .i64 0, .string ⟨#[]⟩]), 5, 56) := by kernel_rfl
theorem ops_news {w : World} {ad : Addr} {news : List Opn} (h : OpsAt w (some ad) news) : ∀ j u, (cellsOf news)[j]? = some u → w.cell? (ad.add j) = some u := by
  intro j u hu
  have hjl : j < news.length * 5 := by rw [← cellsOf_len]; exact (List.getElem?_eq_some_iff.1 hu).1
  obtain ⟨b, o, e, hc⟩ := h (fun e => by rw [e] at hjl; simp at hjl)
  cases e
  have hi : j / 5 < news.length := by omega
  have h1 := cellsOf_at news (j / 5) (j % 5) news[j / 5] (List.getElem?_eq_getElem hi) (Nat.mod_lt _ (by omega))
  rw [show j / 5 * 5 + j % 5 = j by omega, hu] at h1
  have h2 := hc (j / 5) news[j / 5] (List.getElem?_eq_getElem hi) (j % 5) u h1.symm
  rw [Addr.add_mid]
  rw [show o + j / 5 * 5 + j % 5 = o + j by omega] at h2
  exact h2
/-- append(own, l...), l a slice of operations, or nil. -/
theorem run_append_ops (w : World) (ty : TypeId) (base : Nat) (v : Value) (l : List Opn) (hown : OwnO w base v l) (ao : Option Addr) (c : Nat) (news : List Opn) (k : Nat) (hk : news.length = k) (hnews : OpsAt w ao news)
    (hbytes : (l.length + k) * 56 ≤ 140737488355328) (hbase : base ≤ w.heap.size) :
    ∃ v' w', (Builtin.append_ #[29, 29] ty #[v, .slice ao k c]).run Try.prog w = .ok v' w' ∧ OwnO w' base v' (l ++ news) ∧ w.grownBy w' v.ownBlock ∧ (v'.ownBlock = v.ownBlock ∨ v'.ownBlock = some w.heap.size) := by
  obtain ⟨i, hi, hz⟩ := Option.map_eq_some_iff.1 info23o
  simp only [Prod.mk.injEq] at hz
  obtain ⟨hz, hsz, hby⟩ := hz
  subst hk
  cases ao with
  | none =>
    obtain rfl : news = [] := Classical.byContradiction fun hn => by obtain ⟨b, o, he, _⟩ := hnews hn; cases he
    obtain ⟨ao', cap', hv, _, hle, _⟩ := hown.at
    have hr := run_append_nothing (P := Try.prog) w 29 29 ty 23 i Try.underlying29 hi ao' l.length cap' hle (.slice none 0 c) (Src.ofNil w Try.underlying29 c)
    rw [← hv] at hr
    exact ⟨v, w, hr, by rw [List.append_nil]; exact hown, ⟨rfl, rfl, rfl, Nat.le_refl _, fun _ _ _ => rfl⟩, .inl rfl⟩
  | some ad =>
    obtain ⟨v', w', hr, ho, hg, _, hat⟩ := run_append_own_at (P := Try.prog) w base 29 ty 23 i _ 5 56 Try.underlying29 hi hz hsz hby rfl (by omega) v l.length (cellsOf l) hown ad news.length c (cellsOf news) (cellsOf_len news) (ops_news hnews) (cellsOf_one news) (by unfold maxLen; omega) hbytes hbase
    exact ⟨v', w', hr, by unfold OwnO; rw [cellsOf_append, List.length_append]; exact ho, hg, hat⟩
theorem wpList_append_ops {w : World} {ops : Array Oper} {rest : List Oper} {o : Oper} {a : Act} {Q : Exit → Act → World → Prop} (hgd : o.guard = none) (s x : Operand)
    (ho : o.op = .call { callee := .builtin .append, args := #[s, x], argTypes := #[29, 29] })
    (base : Nat) (v : Value) (l : List Opn) (hs : a.eval s = v) (hown : OwnO w base v l)
    (ao : Option Addr) (c : Nat) (news : List Opn) (k : Nat) (hk : news.length = k) (hx : a.eval x = .slice ao k c) (hnews : OpsAt w ao news)
    (hbytes : (l.length + k) * 56 ≤ 140737488355328) (hbase : base ≤ w.heap.size)
    (h : ∀ v' w', OwnO w' base v' (l ++ news) → w.grownBy w' v.ownBlock → (v'.ownBlock = v.ownBlock ∨ v'.ownBlock = some w.heap.size) → wpList Try.prog ops Q rest (a.put o.dst v') w') : wpList Try.prog ops Q (o :: rest) a w := by
  obtain ⟨v', w', hr, h1, h2, h3⟩ := run_append_ops w o.type base v l hown ao c news k hk hnews hbytes hbase
  refine wpList_plain hgd fun K hK => ?_
  unfold Oper.wp execOp
  simp only [ho, resolve, invoke, builtin, Sem.run_bind, Sem.run_pure, Result.andThen_ok, List.map_toArray, List.map_cons, List.map_nil, hs, hx, hr]
  exact hK _ _ (h v' w' h1 h2 h3)
section
variable {ops : Array Oper} {Q : Exit → Act → World → Prop} {K : Act → World → Prop} {a : Act} {w : World} {oi : Oper}
theorem opVal (i d : Nat) (v : Value) (w' : World) (hi : ops[i]? = some oi) (hd : oi.dst = some d) (hw : Region.wanted oi (yielded ops a.tmps) = true)
    (hrun : (execOp a.eval oi).run Try.prog w = .ok (.value v) w') (h : K (a.put (some d) v) w') : wpOp Try.prog ops Q i K a w := by
  refine wpOp_step hi (fun K' hK => ?_)
  rw [if_pos hw]
  unfold Oper.wp
  rw [hrun]
  rw [← hd] at h
  exact hK _ _ h
theorem opAppO (i d : Nat) (s x : Operand) (base : Nat) (sl : Value) (l : List Opn) (ao : Option Addr) (k c : Nat) (news : List Opn) (hi : ops[i]? = some oi) (hd : oi.dst = some d) (ho : oi.op = .call { callee := .builtin .append, args := #[s, x], argTypes := #[29, 29] })
    (hw : Region.wanted oi (yielded ops a.tmps) = true) (hs : a.eval s = sl) (hk : news.length = k) (hx : a.eval x = .slice ao k c) (hown : OwnO w base sl l) (hat : OpsAt w ao news) (hbig : (l.length + k) * 56 ≤ 140737488355328) (hbase : base ≤ w.heap.size)
    (h : ∀ v' w', OwnO w' base v' (l ++ news) → w.grownBy w' sl.ownBlock → K (a.put (some d) v') w') : wpOp Try.prog ops Q i K a w := by
  refine wpOp_step hi (fun K' hK => ?_)
  rw [if_pos hw]
  obtain ⟨v', w', hr, h1, h2, _⟩ := run_append_ops w oi.type base sl l hown ao c news k hk hat hbig hbase
  unfold Oper.wp execOp
  simp only [ho, resolve, invoke, builtin, Sem.run_bind, Sem.run_pure, Result.andThen_ok, List.map_toArray, List.map_cons, List.map_nil, hs, hx, hr]
  have := h v' w' h1 h2
  rw [← hd] at this
  exact hK _ _ this
end
theorem ops_one (w : World) (x : Opn) : OpsAt (w.alloc (.cells (oc x).toArray 23)) (some ⟨w.heap.size, 0, none⟩) [x] := by
  have h := ops_of_row (RowIs.new w 23 (cellsOf [x]))
  have e : cellsOf [x] = oc x := List.append_nil _
  rw [e] at h
  exact h
theorem ops_lt {w : World} {g : Nat} {x : Opn} {l : List Opn} (h : OpsAt w (some ⟨g, 0, none⟩) (x :: l)) : g < w.heap.size := by
  obtain ⟨b, o, e, hc⟩ := h (by simp)
  cases e
  exact World.block_lt_of_cell? w _ (hc 0 x rfl 0 _ rfl)
theorem ops_grown {w w' : World} {g : Nat} {l : List Opn} {row : Option Nat} (h : OpsAt w (some ⟨g, 0, none⟩) l) (hg : w.grownBy w' row) (hne : some g ≠ row) : OpsAt w' (some ⟨g, 0, none⟩) l := fun hn => by
  obtain ⟨b, o, e, hc⟩ := h hn
  cases e
  exact ⟨g, 0, rfl, fun j x hj i v hv => hg.cell (hc j x hj i v hv) hne⟩
end Go.Proofs.Ytpplnomomcdemaa

namespace Go.Proofs.Ytpplnomomcdemaa
open Go.RowKit Leb
theorem bs29 (W : World) (a c d : Int) (s t : ByteArray) : (Instr.buildSlice 29 1 #[(0, .agg #[.int .i64 a, .string s, .int .i64 c, .int .i64 d, .string t])]).run Try.prog W = .ok (.slice (some ⟨W.heap.size, 0, none⟩) 1 1) (W.alloc (.cells #[.int .i64 a, .string s, .int .i64 c, .int .i64 d, .string t] 23)) := by kernel_rfl
theorem bs29z (W : World) : (Instr.buildSlice 29 0 #[]).run Try.prog W = .ok (.slice (some ⟨W.heap.size, 0, none⟩) 0 0) (W.alloc (.cells #[] 23)) := by kernel_rfl
theorem x_bs29 {oi : Oper} {a : Act} {w : World} {x : Operand} {y : Opn} (hop : oi.op = .buildSlice 29 1 #[(0, x)]) (hx : a.eval x = opV y) : (execOp a.eval oi).run Try.prog w = .ok (.value (.slice (some ⟨w.heap.size, 0, none⟩) 1 1)) (w.alloc (.cells (oc y).toArray 23)) := by
  unfold execOp
  simp only [hop, List.map_toArray, List.map_cons, List.map_nil, hx, Sem.run_bind, bs29 w, Result.andThen_ok]
  rfl
theorem x_bs29z {oi : Oper} {a : Act} {w : World} (hop : oi.op = .buildSlice 29 0 #[]) : (execOp a.eval oi).run Try.prog w = .ok (.value (.slice (some ⟨w.heap.size, 0, none⟩) 0 0)) (w.alloc (.cells #[] 23)) := by
  unfold execOp
  simp only [hop, List.map_toArray, List.map_nil, Sem.run_bind, bs29z w, Result.andThen_ok]
  rfl
theorem good_rep {x : Opn} (hx : x.Ok) (hm : mayB x = true) : Good (List.replicate 256 x) :=
  ⟨by rw [List.length_replicate]; exact Nat.le_refl _, fun y hy => by rw [(List.mem_replicate.1 hy).2]; exact hx, fun y hy => by rw [(List.mem_replicate.1 hy).2]; exact hm⟩
theorem putE_more (x : Opn) : putE (List.replicate 256 x ++ [x]) = 5 := by
  unfold putE
  rw [if_pos (by rw [List.length_append, List.length_replicate]; simp)]
theorem putE_one {x : Opn} (hm : mayB x = false) : putE [x] = 40 := by
  unfold putE
  rw [if_neg (by simp), if_neg (by simp [hm])]
set_option maxRecDepth 100000 in
set_option maxHeartbeats 2400000 in
theorem most_any (x : Opn) (hx : x.Ok) (w : World) : Calls Try.prog 8 #[opV x] w fun e w' => e = .returned (.bool true) ∧ After w w' := by
  have HX : Hid x.Ok := hx
  obtain ⟨w0, hw0⟩ : ∃ w0, w.alloc (.cells (oc x).toArray 23) = w0 := ⟨_, rfl⟩
  have HW0 : Hid (After w w0 ∧ RowIs w0 w.heap.size 23 (oc x)) := ⟨by rw [← hw0]; exact after_alloc (After.refl w) _, by rw [← hw0]; exact RowIs.new w 23 (oc x)⟩
  clear hx
  cases hm : mayB x with
  | false =>
    have HE : Hid (putE [x] = 40) := putE_one hm
    have HM : Hid (errOf (mayB x) = 40) := by rw [hm]; rfl
    clear hm
    obtain ⟨k, nm, p, b, tx⟩ := x
    go_enter Try.func8, Try.ntmps8
    go_wp2_with (first
      | (go_at_call 13; refine Calls.mono (awake_any w2) ?_; rintro e w3 ⟨rfl, ha⟩; have H3 := show Hid (After w w3) from After.trans H2.out ha; clear ha)
      | (go_at_call 14; refine Calls.mono (put_bad (some ⟨w1.heap.size, 0, none⟩) 1 1 [⟨k, nm, p, b, tx⟩] rfl (fun y hy => by rw [List.mem_singleton.1 hy]; exact HX.out) (by omega) _ (ops_one w1 ⟨k, nm, p, b, tx⟩) HE.out (by omega)) ?_; rintro e w2 ⟨a2, c2, he, ha⟩; subst he; have H2 := show Hid (After w w2) from After.trans H1.out.1 (After.trans (after_alloc (After.refl w1) _) ha); clear ha)
      | (refine wpList_load_row rfl 23 (.tmp 1) rfl w.heap.size rfl 23 _ (0, 0) _ H1.out.2 Try.underlying23 rfl (by kernel_rfl) ?_)
      | (go_at_call 9; refine Calls.mono (check_any ⟨k, nm, p, b, tx⟩ HX.out w0) ?_; rw [HM.out]; rintro e w1 ⟨rfl, ha⟩; have H1 := show Hid (After w w1 ∧ RowIs w1 w.heap.size 23 _) from ⟨After.trans HW0.out.1 ha, HW0.out.2.below ha HW0.out.2.lt⟩; clear ha)
      | (refine wpList_load_row rfl 23 (.tmp 1) rfl w.heap.size rfl 23 _ (0, 0) _ HW0.out.2 Try.underlying23 rfl (by kernel_rfl) ?_; clear hw0))
    go_ret
    exact ⟨rfl, H3.out⟩
  | true =>
    have HM : Hid (errOf (mayB x) = 0) := by rw [hm]; rfl
    have HGD : Hid (Good (List.replicate 256 x)) := good_rep HX.out hm
    have HPE : Hid (putE (List.replicate 256 x ++ [x]) = 5) := putE_more x
    clear hm
    obtain ⟨k, nm, p, b, tx⟩ := x
    go_enter Try.func8, Try.ntmps8
    go_wp2_with (first
      | (go_at_call 9; refine Calls.mono (check_any ⟨k, nm, p, b, tx⟩ HX.out w0) ?_; rw [HM.out]; rintro e w1 ⟨rfl, ha⟩; have H1 := show Hid (After w w1 ∧ RowIs w1 w.heap.size 23 _) from ⟨After.trans HW0.out.1 ha, HW0.out.2.below ha HW0.out.2.lt⟩; clear ha)
      | (refine wpList_load_row rfl 23 (.tmp 1) rfl w.heap.size rfl 23 _ (0, 0) _ HW0.out.2 Try.underlying23 rfl (by kernel_rfl) ?_; clear hw0))
    go_loopw [5, 6] (fun v i wr => ∃ (n : Nat), n ≤ 256 ∧ i = .int .i64 n ∧ Hid (OwnO wr w1.heap.size v (List.replicate n ⟨k, nm, p, b, tx⟩)) ∧ Hid (After w1 wr)) (fun _ i _ => 256 - (intOf i).toNat)
    case atStart => exact ⟨0, by omega, rfl, OwnO.nil _ _, After.refl _⟩
    case round =>
      obtain ⟨n, hn, rfl, HO, HBr⟩ := hrel
      by_cases hlt : n < 256
      · have hni : (n : Int) < 256 := by omega
        have HRr := show Hid (RowIs wr w.heap.size 23 _) from H1.out.2.below HBr.out H1.out.2.lt
        go_wp2_with (first
          | (at_builtin; refine wpList_append_ops rfl _ _ rfl w1.heap.size _ (List.replicate n ⟨k, nm, p, b, tx⟩) rfl (HO.out.after (after_alloc (After.refl wr) _)) (some ⟨wr.heap.size, 0, none⟩) 1 [⟨k, nm, p, b, tx⟩] 1 rfl rfl (ops_one wr ⟨k, nm, p, b, tx⟩) (by rw [List.length_replicate]; omega) (by have := HBr.out.size; simp; omega) ?_; intro v6 w6 ho6 hg6 _; have HO6 := show Hid (OwnO w6 w1.heap.size v6 (List.replicate (n + 1) ⟨k, nm, p, b, tx⟩)) from (by rw [List.replicate_succ']; exact ho6); have HB6 := show Hid (After w1 w6) from after_grown (after_alloc HBr.out _) hg6 (Nat.le_refl _) (fun q hq => (World.ownsRow.lt HO.out q hq).1); clear ho6 hg6)
          | (refine wpList_load_row rfl 23 (.tmp 1) rfl w.heap.size rfl 23 _ (0, 0) _ HRr.out Try.underlying23 rfl (by kernel_rfl) ?_))
        go_roundw
        case rel => exact ⟨n + 1, by omega, by go_num, HO6.out, HB6.out⟩
        case measure => simp [intOf]; omega
      · obtain rfl : n = 256 := by omega
        obtain ⟨ao, cap, hv, hA, hcap, _⟩ := HO.out.at
        rw [List.length_replicate] at hv hcap
        subst hv
        obtain ⟨y, hy⟩ : ∃ y : Opn, (⟨k, nm, p, b, tx⟩ : Opn) = y := ⟨_, rfl⟩
        rw [hy] at HO HGD HPE hA
        obtain ⟨L, hL⟩ : ∃ L, List.replicate 256 y = L := ⟨_, rfl⟩
        rw [hL] at HO HGD HPE hA
        obtain ⟨K, hK⟩ : ∃ K, (layB L).length = K := ⟨_, rfl⟩
        have HK : Hid ((layB L).length = K ∧ 0 < K ∧ K ≤ 200000000) := ⟨hK, by rw [← hK]; exact layB_pos L, by rw [← hK]; exact layB_len HGD.out⟩
        have HL : Hid (L.length = 256 ∧ OpsAt wr ao L ∧ (L ++ [y]).length = 257 ∧ ∀ z ∈ L ++ [y], z.Ok) := ⟨by rw [← hL, List.length_replicate], hA, by rw [← hL]; simp, fun z hz => (List.mem_append.1 hz).elim (fun h => HGD.out.ok z h) (fun h => by rw [List.mem_singleton.1 h, ← hy]; exact HX.out)⟩
        have HRW := show Hid (wr.rangeAt w.heap.size 0 (oc y)) from (by rw [← hy]; exact fun j v hj => by { rw [Nat.zero_add]; exact (H1.out.2.below HBr.out H1.out.2.lt).cell hj })
        clear hA hK hL hy
        go_wp2_with (first
          | (go_at_call 17; refine Calls.mono (get_good (some ⟨b2, o2, none⟩) K c2 L 256 HL.out.1 HGD.out rfl HK.out.1 H2.out.2.1 (fun e => by cases e) (by have := HK.out.2.2; omega) w2 H2.out.1) ?_; rintro e w3 ⟨g3, he, hA3, ha⟩; subst he; have H3 := show Hid (OpsAt w3 (some ⟨g3, 0, none⟩) L ∧ After wr w3) from ⟨hA3, After.trans H2.out.2.2 ha⟩; clear ha hA3)
          | (go_at_call 14; refine Calls.mono (put_some ao 256 cap L HL.out.1 HGD.out wr HL.out.2.1 HK.out.1 HK.out.2.1) ?_; rintro e w2 ⟨b2, o2, c2, he, h1, h2, ha⟩; subst he; have H2 := show Hid (BytesAt w2 (some ⟨b2, o2, none⟩) (layB L) ∧ K ≤ c2 ∧ After wr w2) from ⟨h1, h2, ha⟩; clear h1 h2 ha))
        have HBW := show Hid (After w wr) from After.trans H1.out.1 HBr.out
        have HR3 := show Hid (w3.rangeAt w.heap.size 0 (oc y)) from range_after HRW.out H3.out.2
        have HA3 := show Hid (OpsAt w3 ao L) from HL.out.2.1.after H3.out.2
        refine wp_region_noPanic ?_
        refine wp_region_held_drew (S := After w3) (by kernel_rfl) (After.drew (After.refl w3)) ?_
        intro hS0
        refine tk 1 47 (.slice ao 256 cap) (fuel := 11) rfl (by kernel_rfl) (by kernel_rfl) (by kernel_rfl) (by kernel_rfl) noPanic_false (by kernel_rfl) (fun _ _ => by kernel_rfl) hS0 ?_
        refine tk 3 49 (opV y) (fuel := 10) rfl (by kernel_rfl) (by kernel_rfl) (by kernel_rfl) (by kernel_rfl) noPanic_false (by kernel_rfl) (fun W hW => x_ld23 (x := .tmp 1) (g := w.heap.size) (p := 0) (by kernel_rfl) (by kernel_rfl) (range_after HR3.out hW)) hS0 ?_
        refine wpAnyH_all (rs := [0, 4]) (by kernel_rfl) (by simp) (fun i hi => ?_)
        have hi2 : i = 0 ∨ i = 4 := by simpa using hi
        clear hi
        rcases hi2 with rfl | rfl
        · refine opVal 0 46 (.slice (some ⟨w3.drew.heap.size, 0, none⟩) 0 0) (w3.drew.alloc (.cells #[] 23)) rfl (by kernel_rfl) (by kernel_rfl) (x_bs29z (w := w3.drew) (by kernel_rfl)) ?_
          have hAwa : After w3 (w3.drew.alloc (.cells #[] 23)) := after_alloc hS0 _
          have howa : OwnO (w3.drew.alloc (.cells #[] 23)) w3.heap.size (.slice (some ⟨w3.drew.heap.size, 0, none⟩) 0 0) [] := World.ownsRow_made w3.drew #[] 0 hS0.size (by decide) rfl
          obtain ⟨gwa, hgwa⟩ : ∃ g, w3.drew.heap.size = g := ⟨_, rfl⟩
          obtain ⟨wa, hwa⟩ : ∃ W, w3.drew.alloc (.cells #[] 23) = W := ⟨_, rfl⟩
          rw [hwa, hgwa] at howa
          rw [hwa] at hAwa
          rw [hwa, hgwa]
          clear hwa hgwa
          refine ⟨hAwa, ?_⟩
          refine wpAnyH_all (rs := [2, 4]) (by kernel_rfl) (by simp) (fun i hi => ?_)
          have hi2 : i = 2 ∨ i = 4 := by simpa using hi
          clear hi
          rcases hi2 with rfl | rfl
          · refine opAppO 2 48 (.tmp 46) (.tmp 47) w3.heap.size (.slice (some ⟨gwa, 0, none⟩) 0 0) [] ao 256 cap L rfl (by kernel_rfl) (by kernel_rfl) (by kernel_rfl) (by kernel_rfl) HL.out.1 (by kernel_rfl) howa (HA3.out.after hAwa) (by simp) (hAwa.size) ?_
            intro vb wb hob hgb
            rw [List.nil_append] at hob
            have hAb : After w3 wb := after_grown hAwa hgb (Nat.le_refl _) (fun q hq => (World.ownsRow.lt howa q hq).1)
            refine ⟨hAb, ?_⟩
            refine wpAnyH_all (rs := [4]) (by kernel_rfl) (by simp) (fun i hi => ?_)
            obtain rfl : i = 4 := by simpa using hi
            clear hi
            refine opVal 4 50 (.slice (some ⟨wb.heap.size, 0, none⟩) 1 1) (wb.alloc (.cells (oc y).toArray 23)) rfl (by kernel_rfl) (by kernel_rfl) (x_bs29 (w := wb) (x := .tmp 49) (by kernel_rfl) (by kernel_rfl)) ?_
            have hAwc : After w3 (wb.alloc (.cells (oc y).toArray 23)) := after_alloc hAb _
            have howc : OpsAt (wb.alloc (.cells (oc y).toArray 23)) (some ⟨wb.heap.size, 0, none⟩) [y] := ops_one wb y
            obtain ⟨gwc, hgwc⟩ : ∃ g, wb.heap.size = g := ⟨_, rfl⟩
            obtain ⟨wc, hwc⟩ : ∃ W, wb.alloc (.cells (oc y).toArray 23) = W := ⟨_, rfl⟩
            rw [hwc, hgwc] at howc
            rw [hwc] at hAwc
            rw [hwc, hgwc]
            have hoc := hob.after (show After wb wc from by rw [← hwc]; exact after_alloc (After.refl wb) _)
            clear hwc hgwc
            refine ⟨hAwc, ?_⟩
            refine wpAnyH_all (rs := [5]) (by kernel_rfl) (by simp) (fun i hi => ?_)
            obtain rfl : i = 5 := by simpa using hi
            clear hi
            refine opAppO 5 51 (.tmp 48) (.tmp 50) w3.heap.size vb L (some ⟨gwc, 0, none⟩) 1 1 [y] rfl (by kernel_rfl) (by kernel_rfl) (by kernel_rfl) (by kernel_rfl) rfl (by kernel_rfl) hoc howc (by rw [HL.out.1]; omega) (hAwc.size) ?_
            intro v8 w8 ho8 hg8
            have hA8 : After w3 w8 := after_grown hAwc hg8 (Nat.le_refl _) (fun q hq => (World.ownsRow.lt hoc q hq).1)
            obtain ⟨a8, c8, hv8, hA9, _, _⟩ := ho8.at
            rw [HL.out.2.2.1] at hv8
            subst hv8
            refine ⟨hA8, ?_⟩
            refine tkCall 6 52 14 #[.slice a8 257 c8] (fun v w => ∃ a9 c9, v = .tuple #[.slice a9 0 c9, .int .i64 5]) (fuel := 5) rfl (by kernel_rfl) (by kernel_rfl) (by kernel_rfl) (fun _ => by kernel_rfl) hA8 ?_ ?_
            · refine Calls.mono (put_bad a8 257 c8 (L ++ [y]) HL.out.2.2.1 HL.out.2.2.2 (by omega) w8 hA9 HPE.out (by omega)) ?_
              rintro e w9 ⟨a9, c9, he, ha⟩
              exact ⟨_, he, ⟨a9, c9, rfl⟩, ha⟩
            intro v9 w9 hv9 hA10
            obtain ⟨a9, c9, rfl⟩ := hv9
            have hS9 := After.refl w9
            refine tk 7 45 (.tuple #[.slice a9 0 c9, .int .i64 5]) (fuel := 4) rfl (by kernel_rfl) (by kernel_rfl) (by kernel_rfl) (by kernel_rfl) noPanic_false (by kernel_rfl) (fun _ _ => by kernel_rfl) hS9 ?_
            refine tk 8 53 (.slice a9 0 c9) (fuel := 3) rfl (by kernel_rfl) (by kernel_rfl) (by kernel_rfl) (by kernel_rfl) noPanic_false (by kernel_rfl) (fun _ _ => by kernel_rfl) hS9 ?_
            refine tk 9 54 (.int .i64 5) (fuel := 2) rfl (by kernel_rfl) (by kernel_rfl) (by kernel_rfl) (by kernel_rfl) noPanic_false (by kernel_rfl) (fun _ _ => by kernel_rfl) hS9 ?_
            refine tk 10 11 (.slice a9 0 c9) (fuel := 1) rfl (by kernel_rfl) (by kernel_rfl) (by kernel_rfl) (by kernel_rfl) noPanic_false (by kernel_rfl) (fun _ _ => by kernel_rfl) hS9 ?_
            refine tk 11 12 (.int .i64 5) (fuel := 0) rfl (by kernel_rfl) (by kernel_rfl) (by kernel_rfl) (by kernel_rfl) noPanic_false (by kernel_rfl) (fun _ _ => by kernel_rfl) hS9 ?_
            refine wpAnyH_done (by kernel_rfl) (NoPanic.normal ?_) _
            have H9 := show Hid (After w w9 ∧ After w3 w9) from ⟨After.trans HBW.out (After.trans H3.out.2 (After.trans hA8 hA10)), After.trans hA8 hA10⟩
            have HA9 := show Hid (OpsAt w9 (some ⟨g3, 0, none⟩) L ∧ OpsAt w9 ao L) from ⟨H3.out.1.after (After.trans hA8 hA10), HA3.out.after (After.trans hA8 hA10)⟩
            clear hS9 hA10 hA8 hA9 ho8 hg8
            clear howc hoc hob hgb howa hAwa hAb hAwc hS0
            go_simp
            go_wp2_with (first
              | (go_at_call 13; refine Calls.mono (awake_any w10) ?_; rintro e w11 ⟨rfl, ha⟩; have H11 := show Hid (After w w11) from After.trans H10.out ha; clear ha)
              | (go_at_call 19; refine Calls.mono (same19 (some ⟨g3, 0, none⟩) ao 256 cap L L 256 256 HL.out.1 HL.out.1 (by omega) w9 HA9.out.1 HA9.out.2) ?_; rw [decide_eq_true rfl]; rintro e w10 ⟨rfl, ha⟩; have H10 := show Hid (After w w10) from After.trans H9.out.1 ha; clear ha))
            go_ret
            exact ⟨rfl, H11.out⟩
          · refine opVal 4 50 (.slice (some ⟨wa.heap.size, 0, none⟩) 1 1) (wa.alloc (.cells (oc y).toArray 23)) rfl (by kernel_rfl) (by kernel_rfl) (x_bs29 (w := wa) (x := .tmp 49) (by kernel_rfl) (by kernel_rfl)) ?_
            have hAwb : After w3 (wa.alloc (.cells (oc y).toArray 23)) := after_alloc hAwa _
            have howb : OpsAt (wa.alloc (.cells (oc y).toArray 23)) (some ⟨wa.heap.size, 0, none⟩) [y] := ops_one wa y
            obtain ⟨gwb, hgwb⟩ : ∃ g, wa.heap.size = g := ⟨_, rfl⟩
            obtain ⟨wb, hwb⟩ : ∃ W, wa.alloc (.cells (oc y).toArray 23) = W := ⟨_, rfl⟩
            rw [hwb, hgwb] at howb
            rw [hwb] at hAwb
            rw [hwb, hgwb]
            have hob := howa.after (show After wa wb from by rw [← hwb]; exact after_alloc (After.refl wa) _)
            have hne : gwa < gwb := by rw [← hgwb]; exact (World.ownsRow.lt howa gwa rfl).2
            clear hwb hgwb
            refine ⟨hAwb, ?_⟩
            refine wpAnyH_all (rs := [2]) (by kernel_rfl) (by simp) (fun i hi => ?_)
            obtain rfl : i = 2 := by simpa using hi
            clear hi
            refine opAppO 2 48 (.tmp 46) (.tmp 47) w3.heap.size (.slice (some ⟨gwa, 0, none⟩) 0 0) [] ao 256 cap L rfl (by kernel_rfl) (by kernel_rfl) (by kernel_rfl) (by kernel_rfl) HL.out.1 (by kernel_rfl) hob (HA3.out.after hAwb) (by simp) (hAwb.size) ?_
            intro vc wc hoc hgc
            rw [List.nil_append] at hoc
            have hAc : After w3 wc := after_grown hAwb hgc (Nat.le_refl _) (fun q hq => (World.ownsRow.lt hob q hq).1)
            have hoz : OpsAt wc (some ⟨gwb, 0, none⟩) [y] := ops_grown howb hgc (fun e => by have e2 := Option.some.inj e; simp only at e2; omega)
            refine ⟨hAc, ?_⟩
            refine wpAnyH_all (rs := [5]) (by kernel_rfl) (by simp) (fun i hi => ?_)
            obtain rfl : i = 5 := by simpa using hi
            clear hi
            refine opAppO 5 51 (.tmp 48) (.tmp 50) w3.heap.size vc L (some ⟨gwb, 0, none⟩) 1 1 [y] rfl (by kernel_rfl) (by kernel_rfl) (by kernel_rfl) (by kernel_rfl) rfl (by kernel_rfl) hoc hoz (by rw [HL.out.1]; omega) (hAc.size) ?_
            intro v8 w8 ho8 hg8
            have hA8 : After w3 w8 := after_grown hAc hg8 (Nat.le_refl _) (fun q hq => (World.ownsRow.lt hoc q hq).1)
            obtain ⟨a8, c8, hv8, hA9, _, _⟩ := ho8.at
            rw [HL.out.2.2.1] at hv8
            subst hv8
            refine ⟨hA8, ?_⟩
            refine tkCall 6 52 14 #[.slice a8 257 c8] (fun v w => ∃ a9 c9, v = .tuple #[.slice a9 0 c9, .int .i64 5]) (fuel := 5) rfl (by kernel_rfl) (by kernel_rfl) (by kernel_rfl) (fun _ => by kernel_rfl) hA8 ?_ ?_
            · refine Calls.mono (put_bad a8 257 c8 (L ++ [y]) HL.out.2.2.1 HL.out.2.2.2 (by omega) w8 hA9 HPE.out (by omega)) ?_
              rintro e w9 ⟨a9, c9, he, ha⟩
              exact ⟨_, he, ⟨a9, c9, rfl⟩, ha⟩
            intro v9 w9 hv9 hA10
            obtain ⟨a9, c9, rfl⟩ := hv9
            have hS9 := After.refl w9
            refine tk 7 45 (.tuple #[.slice a9 0 c9, .int .i64 5]) (fuel := 4) rfl (by kernel_rfl) (by kernel_rfl) (by kernel_rfl) (by kernel_rfl) noPanic_false (by kernel_rfl) (fun _ _ => by kernel_rfl) hS9 ?_
            refine tk 8 53 (.slice a9 0 c9) (fuel := 3) rfl (by kernel_rfl) (by kernel_rfl) (by kernel_rfl) (by kernel_rfl) noPanic_false (by kernel_rfl) (fun _ _ => by kernel_rfl) hS9 ?_
            refine tk 9 54 (.int .i64 5) (fuel := 2) rfl (by kernel_rfl) (by kernel_rfl) (by kernel_rfl) (by kernel_rfl) noPanic_false (by kernel_rfl) (fun _ _ => by kernel_rfl) hS9 ?_
            refine tk 10 11 (.slice a9 0 c9) (fuel := 1) rfl (by kernel_rfl) (by kernel_rfl) (by kernel_rfl) (by kernel_rfl) noPanic_false (by kernel_rfl) (fun _ _ => by kernel_rfl) hS9 ?_
            refine tk 11 12 (.int .i64 5) (fuel := 0) rfl (by kernel_rfl) (by kernel_rfl) (by kernel_rfl) (by kernel_rfl) noPanic_false (by kernel_rfl) (fun _ _ => by kernel_rfl) hS9 ?_
            refine wpAnyH_done (by kernel_rfl) (NoPanic.normal ?_) _
            have H9 := show Hid (After w w9 ∧ After w3 w9) from ⟨After.trans HBW.out (After.trans H3.out.2 (After.trans hA8 hA10)), After.trans hA8 hA10⟩
            have HA9 := show Hid (OpsAt w9 (some ⟨g3, 0, none⟩) L ∧ OpsAt w9 ao L) from ⟨H3.out.1.after (After.trans hA8 hA10), HA3.out.after (After.trans hA8 hA10)⟩
            clear hS9 hA10 hA8 hA9 ho8 hg8
            clear hoz hoc hob hgc howa howb hAwa hAwb hAc hS0
            go_simp
            go_wp2_with (first
              | (go_at_call 13; refine Calls.mono (awake_any w10) ?_; rintro e w11 ⟨rfl, ha⟩; have H11 := show Hid (After w w11) from After.trans H10.out ha; clear ha)
              | (go_at_call 19; refine Calls.mono (same19 (some ⟨g3, 0, none⟩) ao 256 cap L L 256 256 HL.out.1 HL.out.1 (by omega) w9 HA9.out.1 HA9.out.2) ?_; rw [decide_eq_true rfl]; rintro e w10 ⟨rfl, ha⟩; have H10 := show Hid (After w w10) from After.trans H9.out.1 ha; clear ha))
            go_ret
            exact ⟨rfl, H11.out⟩
        · refine opVal 4 50 (.slice (some ⟨w3.drew.heap.size, 0, none⟩) 1 1) (w3.drew.alloc (.cells (oc y).toArray 23)) rfl (by kernel_rfl) (by kernel_rfl) (x_bs29 (w := w3.drew) (x := .tmp 49) (by kernel_rfl) (by kernel_rfl)) ?_
          have hAwa : After w3 (w3.drew.alloc (.cells (oc y).toArray 23)) := after_alloc hS0 _
          have howa : OpsAt (w3.drew.alloc (.cells (oc y).toArray 23)) (some ⟨w3.drew.heap.size, 0, none⟩) [y] := ops_one w3.drew y
          obtain ⟨gwa, hgwa⟩ : ∃ g, w3.drew.heap.size = g := ⟨_, rfl⟩
          obtain ⟨wa, hwa⟩ : ∃ W, w3.drew.alloc (.cells (oc y).toArray 23) = W := ⟨_, rfl⟩
          rw [hwa, hgwa] at howa
          rw [hwa] at hAwa
          rw [hwa, hgwa]
          clear hwa hgwa
          refine ⟨hAwa, ?_⟩
          refine wpAnyH_all (rs := [0]) (by kernel_rfl) (by simp) (fun i hi => ?_)
          obtain rfl : i = 0 := by simpa using hi
          clear hi
          refine opVal 0 46 (.slice (some ⟨wa.heap.size, 0, none⟩) 0 0) (wa.alloc (.cells #[] 23)) rfl (by kernel_rfl) (by kernel_rfl) (x_bs29z (w := wa) (by kernel_rfl)) ?_
          have hAwb : After w3 (wa.alloc (.cells #[] 23)) := after_alloc hAwa _
          have howb : OwnO (wa.alloc (.cells #[] 23)) w3.heap.size (.slice (some ⟨wa.heap.size, 0, none⟩) 0 0) [] := World.ownsRow_made wa #[] 0 hAwa.size (by decide) rfl
          obtain ⟨gwb, hgwb⟩ : ∃ g, wa.heap.size = g := ⟨_, rfl⟩
          obtain ⟨wb, hwb⟩ : ∃ W, wa.alloc (.cells #[] 23) = W := ⟨_, rfl⟩
          rw [hwb, hgwb] at howb
          rw [hwb] at hAwb
          rw [hwb, hgwb]
          have hob := howa.after (show After wa wb from by rw [← hwb]; exact after_alloc (After.refl wa) _)
          have hne : gwa < gwb := by rw [← hgwb]; exact ops_lt howa
          clear hwb hgwb
          refine ⟨hAwb, ?_⟩
          refine wpAnyH_all (rs := [2]) (by kernel_rfl) (by simp) (fun i hi => ?_)
          obtain rfl : i = 2 := by simpa using hi
          clear hi
          refine opAppO 2 48 (.tmp 46) (.tmp 47) w3.heap.size (.slice (some ⟨gwb, 0, none⟩) 0 0) [] ao 256 cap L rfl (by kernel_rfl) (by kernel_rfl) (by kernel_rfl) (by kernel_rfl) HL.out.1 (by kernel_rfl) howb (HA3.out.after hAwb) (by simp) (hAwb.size) ?_
          intro vc wc hoc hgc
          rw [List.nil_append] at hoc
          have hAc : After w3 wc := after_grown hAwb hgc (Nat.le_refl _) (fun q hq => (World.ownsRow.lt howb q hq).1)
          have hoz : OpsAt wc (some ⟨gwa, 0, none⟩) [y] := ops_grown hob hgc (fun e => by have e2 := Option.some.inj e; simp only at e2; omega)
          refine ⟨hAc, ?_⟩
          refine wpAnyH_all (rs := [5]) (by kernel_rfl) (by simp) (fun i hi => ?_)
          obtain rfl : i = 5 := by simpa using hi
          clear hi
          refine opAppO 5 51 (.tmp 48) (.tmp 50) w3.heap.size vc L (some ⟨gwa, 0, none⟩) 1 1 [y] rfl (by kernel_rfl) (by kernel_rfl) (by kernel_rfl) (by kernel_rfl) rfl (by kernel_rfl) hoc hoz (by rw [HL.out.1]; omega) (hAc.size) ?_
          intro v8 w8 ho8 hg8
          have hA8 : After w3 w8 := after_grown hAc hg8 (Nat.le_refl _) (fun q hq => (World.ownsRow.lt hoc q hq).1)
          obtain ⟨a8, c8, hv8, hA9, _, _⟩ := ho8.at
          rw [HL.out.2.2.1] at hv8
          subst hv8
          refine ⟨hA8, ?_⟩
          refine tkCall 6 52 14 #[.slice a8 257 c8] (fun v w => ∃ a9 c9, v = .tuple #[.slice a9 0 c9, .int .i64 5]) (fuel := 5) rfl (by kernel_rfl) (by kernel_rfl) (by kernel_rfl) (fun _ => by kernel_rfl) hA8 ?_ ?_
          · refine Calls.mono (put_bad a8 257 c8 (L ++ [y]) HL.out.2.2.1 HL.out.2.2.2 (by omega) w8 hA9 HPE.out (by omega)) ?_
            rintro e w9 ⟨a9, c9, he, ha⟩
            exact ⟨_, he, ⟨a9, c9, rfl⟩, ha⟩
          intro v9 w9 hv9 hA10
          obtain ⟨a9, c9, rfl⟩ := hv9
          have hS9 := After.refl w9
          refine tk 7 45 (.tuple #[.slice a9 0 c9, .int .i64 5]) (fuel := 4) rfl (by kernel_rfl) (by kernel_rfl) (by kernel_rfl) (by kernel_rfl) noPanic_false (by kernel_rfl) (fun _ _ => by kernel_rfl) hS9 ?_
          refine tk 8 53 (.slice a9 0 c9) (fuel := 3) rfl (by kernel_rfl) (by kernel_rfl) (by kernel_rfl) (by kernel_rfl) noPanic_false (by kernel_rfl) (fun _ _ => by kernel_rfl) hS9 ?_
          refine tk 9 54 (.int .i64 5) (fuel := 2) rfl (by kernel_rfl) (by kernel_rfl) (by kernel_rfl) (by kernel_rfl) noPanic_false (by kernel_rfl) (fun _ _ => by kernel_rfl) hS9 ?_
          refine tk 10 11 (.slice a9 0 c9) (fuel := 1) rfl (by kernel_rfl) (by kernel_rfl) (by kernel_rfl) (by kernel_rfl) noPanic_false (by kernel_rfl) (fun _ _ => by kernel_rfl) hS9 ?_
          refine tk 11 12 (.int .i64 5) (fuel := 0) rfl (by kernel_rfl) (by kernel_rfl) (by kernel_rfl) (by kernel_rfl) noPanic_false (by kernel_rfl) (fun _ _ => by kernel_rfl) hS9 ?_
          refine wpAnyH_done (by kernel_rfl) (NoPanic.normal ?_) _
          have H9 := show Hid (After w w9 ∧ After w3 w9) from ⟨After.trans HBW.out (After.trans H3.out.2 (After.trans hA8 hA10)), After.trans hA8 hA10⟩
          have HA9 := show Hid (OpsAt w9 (some ⟨g3, 0, none⟩) L ∧ OpsAt w9 ao L) from ⟨H3.out.1.after (After.trans hA8 hA10), HA3.out.after (After.trans hA8 hA10)⟩
          clear hS9 hA10 hA8 hA9 ho8 hg8
          clear hoz hoc hob hgc howa howb hAwa hAwb hAc hS0
          go_simp
          go_wp2_with (first
            | (go_at_call 13; refine Calls.mono (awake_any w10) ?_; rintro e w11 ⟨rfl, ha⟩; have H11 := show Hid (After w w11) from After.trans H10.out ha; clear ha)
            | (go_at_call 19; refine Calls.mono (same19 (some ⟨g3, 0, none⟩) ao 256 cap L L 256 256 HL.out.1 HL.out.1 (by omega) w9 HA9.out.1 HA9.out.2) ?_; rw [decide_eq_true rfl]; rintro e w10 ⟨rfl, ha⟩; have H10 := show Hid (After w w10) from After.trans H9.out.1 ha; clear ha))
          go_ret
          exact ⟨rfl, H11.out⟩
end Go.Proofs.Ytpplnomomcdemaa
namespace Go.Proofs.Ytpplnomomcdemaa.OpMost
open Go.ChangeShapes Go.WideShapes Go.ChangeAt Go.RowKit Leb
open Go.ChangeMaps (open_string)

set_option maxRecDepth 100000 in
/-- What the walk gives, for every argument and every world. -/
theorem contract (H : Type) (enc : TypeId × Value → H) (W : World) (base : Nat) (args : Array Value) (ds gs : List (DataW H)) (before : List MemPlace)
    (hval : ∀ (j : Nat) t v, Try.f8.params[j]? = some t → args[j]? = some v → Value.okWide Try.prog W .any base t v)
    (hW : DataW.Whole enc Try.prog Try.f8.params.toList Rows.opMostSpec.vars false W args.toList ds gs before)
    (hsz : (DataW.weightsEach Try.prog (Try.f8.params.toList ++ (OpenSpec.ofChange Rows.opMostSpec).bare.plain.varTypes Try.prog) (ds ++ gs)).all (· ≤ reachBytes) = true) :
    Calls Try.prog 8 args W fun e W' => ∃ v, e = .returned v ∧ Rows.opMostSpec.post enc Try.prog Try.f8 false true false false W args v W' := by
  have hW' := hW
  obtain ⟨p, q, hA0, hV, rfl, hfz, hnd⟩ := hW
  have hA : DataW.TrodAll enc Try.prog W 0 (fun _ => true) true Try.f8.params.toList args.toList ds p := hA0
  rw [Try.params8] at hA hval hsz
  obtain ⟨v0, vs0, d0, ds0, p0, q0, hargs, rfl, rfl, h0, r0⟩ := trodAll_cons hA
  obtain ⟨rfl, rfl, rfl⟩ := trodAll_nil r0
  obtain rfl : args = #[v0] := by cases args; simp_all
  obtain ⟨rfl, rfl⟩ := trodVars_none hV
  have k0 := h0
  have lt0 : ∀ x ∈ p0, x.block < W.heap.size := by obtain ⟨m, hm⟩ := k0; exact DataW.trod_lt m _ _ _ hm
  obtain ⟨x0, e0, hok0⟩ := open_one (hval 0 23 v0 rfl rfl) h0
  subst e0
  clear hA0 hA
  refine (most_any x0 hok0 W).mono fun e W' ⟨he, bel⟩ => ?_
  subst he
  exact ⟨_, rfl, _, _, _, [], _, [], hW', trodAll_mk1 (shut_bool Try.underlying4 _), (trodAll_cons_mk (Below.trod laidOut (by kernel_rfl) (of_decide_eq_true (by kernel_rfl)) k0 bel lt0) (trodAll_mk0)), rfl, bel.frame _, fun h => by cases h⟩

set_option maxRecDepth 100000 in
/-- A world for the witness: the settled one. -/
theorem witness (os : Os) {H : Type} (enc : TypeId × Value → H) : ∃ (w : World) (tape : Tape) (i : Input), w.os = os ∧ (w.forCall tape i).Shaped Try.checked.prog ∧ i.vars = [] ∧ Input.okWide Try.checked.prog (w.forCall tape i) .any w.heap.size 8 i ∧
      (OpenSpec.ofChange Rows.opMostSpec).preRow enc Try.checked.prog Try.f8 Rows.opMostRow.domain false Rows.opMostRow.laid (w.forCall tape i).memory i.args ∧ ({} : Assume).holds Try.checked.prog (lone (Frame.enter Try.checked.prog 8 i.args .normal) [] (w.forCall tape i)) :=
  witness_row_at (enc := enc) (C := Try.checked) false (World.holding Try.prog os ⟨#[], #[], []⟩) #[.agg #[.int .i64 0, .string ⟨#[]⟩, .int .i64 0, .int .i64 0, .string ⟨#[]⟩]] rfl (by kernel_rfl) (by kernel_rfl) (by kernel_rfl)
    (OpenSpec.preRow_of_cond 8 (x := ([.agg [.lit (.int .i64 0), .lit (.string []), .lit (.int .i64 0), .lit (.int .i64 0), .lit (.string [])]], [], [])) (by kernel_rfl) (by kernel_rfl) (fun k hk => by cases hk) (by kernel_rfl) (laidMet_nil _ _))

set_option maxRecDepth 100000 in
theorem lifted (os : Os) (started : os.Started) (H : Type) (enc : TypeId × Value → H) (F : Stop.Interp) :
    ReturnsInHanded {} Try.checked os 8 .any ((OpenSpec.ofChange Rows.opMostSpec).preRow enc Try.prog Try.f8 Rows.opMostRow.domain false Rows.opMostRow.laid) (((OpenSpec.ofChange Rows.opMostSpec).at F).post enc Try.prog Try.f8 false true false false) := by
  refine returnsInHanded_of_row (C := Try.checked) (s := OpenSpec.ofChange Rows.opMostSpec) own started (by kernel_rfl) Try.func8 (witness os enc) ?_
  intro W base args ds gs before hval hW _ _ hsz _ _ _
  exact contract H enc W base args ds gs before hval hW hsz

set_option maxRecDepth 100000 in
theorem said : Rows.OpMostSaid :=
  OpenClaim.holds_of_cond 8 Try.f8 rfl rfl rfl rfl rfl rfl rfl ⟨rfl, rfl, rfl, rfl, rfl⟩ rfl rfl rfl rfl rfl (by kernel_rfl) Try.func8 (by kernel_rfl)
    (of_decide_eq_true (by kernel_rfl)) (by unfold Func.isWrapper; first | (rw [if_pos (by decide +kernel)]; kernel_rfl) | (rw [if_neg (by decide +kernel)]; exact ⟨rfl, rfl⟩))
    (fun os started H enc _ F => by rw [OpenClaim.pre_eq_preRow]; exact lifted os started H enc F)
end Go.Proofs.Ytpplnomomcdemaa.OpMost
namespace Go.Proofs.Ytpplnomomcdemaa
theorem opMost_holds : Rows.OpMostSaid := OpMost.said
end Go.Proofs.Ytpplnomomcdemaa
