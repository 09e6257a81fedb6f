/-
  Rows of the reference that grow; Remove (31).
-/
import Derived.Test.YtiglenomigipmaaSC
namespace Go.Proofs.Ytiglenomigipmaa
open Go.RowKit Go.Shelf Go.Maps Go.WideMaps Go.WideAt
attribute [local go_sem] Oper.semAt_some
theorem rcell_one (c : RC) : ∀ u ∈ rcell c, u.oneCell' = true := fun u hu => by
  rcases List.mem_append.1 hu with h | h
  · exact idc_one _ u h
  · rcases List.mem_append.1 h with h | h
    · exact idc_one _ u h
    · simp only [List.mem_cons, List.not_mem_nil, or_false] at h
      rcases h with h | h
      · subst h; rfl
      · subst h; rfl
def zRC : RC := ⟨zId, zId, 0, false⟩
theorem zRC_ok : zRC.Ok := ⟨zId_ok, zId_ok⟩
theorem info68 : ∃ i z, Try.prog.info? 68 = some i ∧ i.zero = some z ∧ i.size = 68 ∧ i.bytes = 88 ∧ z.cells = (rcell zRC).toArray := by
  have h : (Try.prog.info? 68).map (fun i => (i.zero.map (·.cells), i.size, i.bytes)) = some (some (rcell zRC).toArray, 68, 88) := by kernel_rfl
  obtain ⟨i, hi, hz⟩ := Option.map_eq_some_iff.1 h
  simp only [Prod.mk.injEq] at hz
  obtain ⟨hz, hs, hb⟩ := hz
  obtain ⟨z, hz1, hz2⟩ := Option.map_eq_some_iff.1 hz
  exact ⟨i, z, hi, hz1, hs, hb, hz2⟩
theorem Uni.rc {l : List RC} (h : ∀ c ∈ l, c.Ok) : Uni 68 (l.map rcell) := fun x hx => by
  obtain ⟨c, hc, rfl⟩ := List.mem_map.1 hx
  exact rcell_len (h c hc)
/-- What is laid behind a row: cells that lie somewhere. -/
def SrcR (w : World) (u : Value) (m : List RC) : Prop := (∀ c ∈ m, c.Ok) ∧ (u = .slice none 0 0 ∧ m = [] ∨ ∃ g p c, u = .slice (some ⟨g, p, none⟩) m.length c ∧ w.rangeAt g p (m.map rcell).flatten)
theorem SrcR.after {w w' : World} {u : Value} {m : List RC} (h : SrcR w u m) (ha : After w w') : SrcR w' u m := by
  refine ⟨h.1, ?_⟩
  rcases h.2 with h0 | ⟨g, p, c, hu, hr⟩
  · exact .inl h0
  · exact .inr ⟨g, p, c, hu, range_after hr ha⟩
theorem RowR.src {w : World} {base : Nat} {v : Value} {l : List RC} (h : RowR w base v l) : SrcR w v l := by
  refine ⟨h.1, ?_⟩
  rcases own_row h.2.2 with ⟨hv, h0, _⟩ | ⟨g, cap, cs, hv, _, hr, _, _, _, ht⟩
  · rw [List.length_map] at h0
    exact .inl ⟨hv, List.eq_nil_of_length_eq_zero h0⟩
  · rw [List.length_map] at hv
    refine .inr ⟨g, 0, cap, hv, fun j u hu => ?_⟩
    rw [← ht, List.getElem?_take] at hu
    split at hu
    · rw [Nat.zero_add]; exact hr.cell hu
    · cases hu
theorem run_app27 {w : World} {base : Nat} {v u : Value} {l m : List RC} (ty : TypeId) (h : RowR w base v l) (hs : SrcR w u m) (hlen : l.length + m.length ≤ 1000000) (hb : base ≤ w.heap.size) :
    ∃ v' w', (Builtin.append_ #[27, 27] ty #[v, u]).run Try.prog w = .ok v' w' ∧ RowR w' base v' (l ++ m) ∧ w.grownBy w' v.ownBlock ∧ (v'.ownBlock = v.ownBlock ∨ v'.ownBlock = some w.heap.size) := by
  obtain ⟨i, z, hi, hz, hsz, hby, hzc⟩ := info68
  rcases hs.2 with ⟨hu, hm⟩ | ⟨g, p, c, hu, hr⟩
  · subst hu; subst hm
    obtain ⟨ao', cap', hv, hle⟩ : ∃ ao' cap', v = .slice ao' l.length cap' ∧ l.length ≤ cap' := by
      rcases own_row h.2.2 with ⟨hv, h0, _⟩ | ⟨g, cap, cs, hv, _, _, hnc, _⟩
      · rw [List.length_map] at h0
        exact ⟨none, 0, by rw [hv, h0], by omega⟩
      · rw [List.length_map] at hv hnc
        exact ⟨_, cap, hv, hnc⟩
    have hr := run_append_nothing (P := Try.prog) w 27 27 ty 68 i Try.underlying27 hi ao' l.length cap' hle (.slice none 0 0) (Src.ofNil w Try.underlying27 0)
    refine ⟨v, w, by rw [hv]; exact hr, by rw [List.append_nil]; exact h, ⟨rfl, rfl, rfl, Nat.le_refl _, fun _ _ _ => rfl⟩, .inl rfl⟩
  · subst hu
    have hzs : z.cells.size = 68 := by rw [hzc]; simp [rcell_len zRC_ok]
    have hfl := fl_len (Uni.rc hs.1)
    rw [List.length_map] at hfl
    have hown := h.2.2
    rw [List.length_map] at hown
    obtain ⟨v', w', h1, h2, h3, _, h5⟩ := run_append_own_at (P := Try.prog) w base 27 ty 68 i z 68 88 Try.underlying27 hi hz hsz hby hzs (by omega) v l.length (l.map rcell).flatten hown ⟨g, p, none⟩ m.length c (m.map rcell).flatten hfl (fun j u hu => by rw [Addr.add_lit]; exact hr j u hu) (fun u hu => by
      obtain ⟨x, hx, hux⟩ := List.mem_flatten.1 hu
      obtain ⟨d, _, rfl⟩ := List.mem_map.1 hx
      exact rcell_one d u hux) (by unfold maxLen; omega) (by omega) hb
    refine ⟨v', w', h1, ⟨fun d hd => ?_, ?_, ?_⟩, h3, h5⟩
    · rcases List.mem_append.1 hd with hd | hd
      · exact h.1 d hd
      · exact hs.1 d hd
    · refine Uni.rc (fun d hd => ?_)
      rcases List.mem_append.1 hd with hd | hd
      · exact h.1 d hd
      · exact hs.1 d hd
    · rw [List.map_append, List.flatten_append, List.length_append, List.length_map, List.length_map]; exact h2
theorem RowR.gone {w : World} {base g n cap : Nat} {l : List RC} (h : RowR w base (.slice (some ⟨g, 0, none⟩) n cap) l) {i : Nat} {c : RC} (hc : l[i]? = some c) : RowR (w.setCell ⟨g, 0 + i * 68 + 67, none⟩ (.bool true)) base (.slice (some ⟨g, 0, none⟩) n cap) (l.set i { c with gone := true }) := by
  have hok := h.1 c (List.mem_of_getElem? hc)
  refine ⟨fun d hd => ?_, ?_⟩
  · rcases List.mem_or_eq_of_mem_set hd with hd | hd
    · exact h.1 d hd
    · rw [hd]; exact ⟨hok.id, hok.af⟩
  · have h1 : (l.map rcell)[i]? = some (rcell c) := by rw [List.getElem?_map, hc]; rfl
    have h2 := h.2.set h1 (j := 67) (by omega) (.bool true)
    rw [Nat.zero_add, List.map_set]
    have e : rcell { c with gone := true } = (rcell c).set 67 (.bool true) := by
      unfold rcell
      rw [List.set_append_right _ _ (by rw [idc_len hok.id]; omega), idc_len hok.id, List.set_append_right _ _ (by rw [idc_len hok.af]; omega), idc_len hok.af]
      rfl
    rw [e]; exact h2
/-- What Remove tells and leaves, in the reference. -/
def rRemE (l : List RC) (x : Idn) : Int := if (rplc l x).isSome then 0 else 22
def rRem (l : List RC) (x : Idn) : List RC := match rplc l x with | some i => (match l[i]? with | some c => l.set i { c with gone := true } | none => l) | none => l
theorem grown_none {w w' : World} (h : w.grownBy w' (Value.slice none 0 0).ownBlock) : After w w' := ⟨h.os, h.tape, h.output, h.size, fun b hb => h.block b hb (by simp [Value.ownBlock])⟩
theorem RowR.hold {w : World} {base : Nat} {v : Value} {l : List RC} (h : RowR w base v l) {i : Nat} {c : RC} (hc : l[i]? = some c) : ∃ g cap, v = .slice (some ⟨g, 0, none⟩) l.length cap ∧ base ≤ g := by
  obtain ⟨g, cap, cs, hv, hb, _⟩ := h.2.row (fun e => by have : l = [] := List.map_eq_nil_iff.1 e; rw [this] at hc; simp at hc)
  rw [List.length_map] at hv
  exact ⟨g, cap, hv, hb⟩
theorem RowR.gcell {w : World} {base g n cap : Nat} {l : List RC} (h : RowR w base (.slice (some ⟨g, 0, none⟩) n cap) l) {i : Nat} {c : RC} (hc : l[i]? = some c) : w.cell? ⟨g, i * 68 + 67, none⟩ = some (.bool c.gone) ∧ w.frozen? ⟨g, i * 68 + 67, none⟩ = false := by
  have hok := h.1 c (List.mem_of_getElem? hc)
  obtain ⟨g', hg, _, hr⟩ := h.at hc
  cases hg
  obtain ⟨_, _, cs, he, _, hrow, _⟩ := h.2.row (fun e => by have : l = [] := List.map_eq_nil_iff.1 e; rw [this] at hc; simp at hc)
  cases he
  refine ⟨?_, hrow.frozen _⟩
  have := hr 67 (.bool c.gone) (by unfold rcell; rw [List.getElem?_append_right (by rw [idc_len hok.id]; omega), idc_len hok.id, List.getElem?_append_right (by rw [idc_len hok.af]; omega), idc_len hok.af]; rfl)
  rwa [Nat.zero_add] at this
theorem rem_facts {W0 w1 w2 W3 : World} {a b g2 n c2 i : Nat} {v u : Value} {l : List RC} {c : RC} (h1 : RowIs W0 a 29 [v]) (h2 : RowIs W0 b 29 [u]) (ha : After W0 w1) (hb : After w1 w2) (hr : RowR w2 w1.heap.size (.slice (some ⟨g2, 0, none⟩) n c2) l) (hg : w1.heap.size ≤ g2) (hc : l[i]? = some c) (hW : w2.setCell ⟨g2, i * 68 + 67, none⟩ (.bool true) = W3) :
    RowIs W3 a 29 [v] ∧ RowIs W3 b 29 [u] ∧ RowR W3 w1.heap.size (.slice (some ⟨g2, 0, none⟩) n c2) (l.set i { c with gone := true }) ∧ Below w1.heap.size w1 W3 ∧ True := by
  have l1 := Nat.lt_of_lt_of_le h1.lt ha.size
  have l2 := Nat.lt_of_lt_of_le h2.lt ha.size
  rw [← hW]
  refine ⟨((h1.below ha h1.lt).below hb l1).other _ _ (by show ¬ a = g2; omega), ((h2.below ha h2.lt).below hb l2).other _ _ (by show ¬ b = g2; omega), ?_, Below.setCell hb (p := ⟨g2, i * 68 + 67, none⟩) hg _, trivial⟩
  have := hr.gone hc
  rwa [Nat.zero_add] at this
theorem wpList_st {w w' : World} {ops : Array Oper} {rest : List Oper} {o : Oper} {a : Act} {Q : Exit → Act → World → Prop} (hg : o.guard = none) (hr : (execOp a.eval o).run Try.prog w = .ok .skip w') (h : wpList Try.prog ops Q rest (a.put o.dst undef) w') : wpList Try.prog ops Q (o :: rest) a w :=
  wpList_plain hg fun K hK => by unfold Oper.wp; rw [hr]; exact hK _ _ h
theorem x_st27 {oi : Oper} {a : Act} {w : World} {x y : Operand} {g p : Nat} {va : Option Addr} {m c : Nat} {u : Value} (hop : oi.op = .store 27 x y) (hx : a.eval x = .pointer (some ⟨g, p, none⟩)) (hy : a.eval y = .slice va m c) (hc : w.cell? ⟨g, p, none⟩ = some u) (hf : w.frozen? ⟨g, p, none⟩ = false) : (execOp a.eval oi).run Try.prog w = .ok .skip (w.setCell ⟨g, p, none⟩ (.slice va m c)) := by
  unfold execOp
  simp only [hop, hx, hy]
  simp [go_sem, hc, hf, Instr.storeAt, Instr.sureAddr]
theorem x_app27 {oi : Oper} {a : Act} {w : World} {s x : Operand} {v u v' : Value} {w' : World} (hop : oi.op = .call { callee := .builtin .append, args := #[s, x], argTypes := #[27, 27] }) (hs : a.eval s = v) (hx : a.eval x = u) (hr : (Builtin.append_ #[27, 27] oi.type #[v, u]).run Try.prog w = .ok v' w') : (execOp a.eval oi).run Try.prog w = .ok (.value v') w' := by
  unfold execOp
  simp only [hop, resolve, invoke, builtin, Sem.run_bind, Sem.run_pure, Result.andThen_ok, List.map_toArray, List.map_cons, List.map_nil, hs, hx, hr]
theorem size29 (v : Value) : (Try.prog.info? 29).map (·.size) = some (#[v] : Array Value).size := by show _ = some 1; kernel_rfl
theorem ret29 {fn : Func} {p q : Tmp} (h : fn.results = #[.cell p 29, .tmp q]) (tmps : Array Value) (w : World) (g : Nat) (v u : Value) (hp : tmps.getD p undef = .pointer (some ⟨g, 0, none⟩)) (hg : RowIs w g 29 [v]) (hq : tmps.getD q undef = u) : (results fn tmps).run Try.prog w = .ok (.tuple #[.agg #[v], u]) w := by
  have hp' : tmps[p]?.getD undef = .pointer (some ⟨g, 0, none⟩) := by simpa using hp
  have hq' : tmps[q]?.getD undef = u := by simpa using hq
  simp [results, h, hp', hq', asAddr, run_loadVar_row w g 29 29 #[v] (0, 0) _ hg Try.underlying29 rfl (size29 v)]
theorem x_al29 {oi : Oper} {a : Act} {w : World} (hop : oi.op = .alloc 29) : (execOp a.eval oi).run Try.prog w = .ok (.value (.pointer (some ⟨w.heap.size, 0, none⟩))) (w.alloc (.cells #[.slice none 0 0] 29)) := by
  have hz : (zeroValue 29).run Try.prog w = .ok (.agg #[.slice none 0 0]) w := by kernel_rfl
  unfold execOp
  simp only [hop]
  simp [go_sem, hz, Value.cells]
theorem rplc_get {l : List RC} {x : Idn} {i : Nat} (h : rplc l x = some i) : ∃ c, l[i]? = some c ∧ c.id = x := by
  unfold rplc at h
  rw [List.findIdx?_eq_some_iff_getElem] at h
  obtain ⟨hi, hc, _⟩ := h
  exact ⟨l[i], List.getElem?_eq_getElem hi, by simpa using hc⟩
set_option maxRecDepth 100000 in
set_option maxHeartbeats 800000 in
theorem rRemove_any {w : World} {base : Nat} {v : Value} {l : List RC} (h : RowR w base v l) {x : Idn} (hx : x.Ok) (hl : l.length ≤ 100000) (hb : base ≤ w.heap.size) :
    Calls Try.prog 31 #[.agg #[v], idv x] w fun e w' => ∃ v', e = .returned (.tuple #[.agg #[v'], .int .i64 (rRemE l x)]) ∧ RowR w' base v' (rRem l x) ∧ After w w' := by
  obtain ⟨va, cap, rfl⟩ := h.sl
  obtain ⟨n, hn⟩ : ∃ n, l.length = n := ⟨_, rfl⟩
  rw [hn] at h ⊢
  obtain ⟨W0, hW0⟩ : ∃ W0, ((w.alloc (.cells #[.slice va n cap] 29)).alloc (.cells (idc x).toArray 40)).alloc (.cells #[.slice none 0 0] 29) = W0 := ⟨_, rfl⟩
  have HA : Hid (After w W0 ∧ RowIs W0 w.heap.size 29 [.slice va n cap] ∧ RowIs W0 (w.heap.size + 1) 40 (idc x) ∧ RowIs W0 (w.heap.size + 1 + 1) 29 [.slice none 0 0] ∧ base ≤ w.heap.size) := by
    rw [← hW0]
    refine ⟨after_alloc (after_alloc (after_alloc (After.refl w) _) _) _, ((RowIs.new w 29 [.slice va n cap]).alloc _).alloc _, ?_, ?_, hb⟩
    · have := RowIs.new (w.alloc (.cells #[.slice va n cap] 29)) 40 (idc x)
      rw [World.size_alloc] at this
      exact this.alloc _
    · have := RowIs.new ((w.alloc (.cells #[.slice va n cap] 29)).alloc (.cells (idc x).toArray 40)) 29 [.slice none 0 0]
      rwa [World.size_alloc, World.size_alloc] at this
  have HR : Hid (RowR w base (.slice va n cap) l ∧ l.length ≤ 100000) := ⟨h, hl⟩
  have HX : Hid x.Ok := hx
  have HF : Hid (Calls Try.prog 30 #[.agg #[.slice va n cap], .agg (idc x).toArray] W0 fun e w' => e = .returned (.int .i64 (fv (rplc l x))) ∧ After W0 w') := Find_any (h.after HA.out.1) hx (by omega)
  clear h hx hl hb
  unfold idv
  cases hp : rplc l x with
  | none =>
    rw [hp] at HF
    have HF : Hid (Calls Try.prog 30 #[.agg #[.slice va n cap], .agg (idc x).toArray] W0 fun e w' => e = .returned (.int .i64 (-1)) ∧ After W0 w') := HF
    have HP : Hid (rplc l x = none) := hp
    clear hp
    go_enter Try.func31, Try.ntmps31
    go_wp2_with (first
      | (rw [hW0])
      | (refine wpList_of_run rfl ((x_al29 rfl).trans (by rw [hW0])) ?_)
      | (refine wpList_load_row rfl 29 (.tmp 2) rfl w.heap.size rfl 29 #[.slice va n cap] (0, 0) _ HA.out.2.1 Try.underlying29 rfl (size29 _) ?_)
      | (refine wpList_load_row rfl 40 (.tmp 3) rfl (w.heap.size + 1) rfl 40 (idc x).toArray (0, 0) _ HA.out.2.2.1 Try.underlying40 rfl (size40 HX.out) ?_)
      | (go_at_call 30; refine Calls.mono HF.out ?_; clear HF; rintro e w1 ⟨rfl, hw1⟩; have H1 := show Hid (After W0 w1 ∧ RowIs w1 w.heap.size 29 [.slice va n cap] ∧ RowIs w1 (w.heap.size + 1 + 1) 29 [.slice none 0 0]) from ⟨hw1, HA.out.2.1.below hw1 HA.out.2.1.lt, HA.out.2.2.2.1.below hw1 HA.out.2.2.2.1.lt⟩; clear hw1)
      | (refine wpList_load_row rfl 29 (.tmp 2) rfl w.heap.size rfl 29 #[.slice va n cap] (0, 0) _ H1.out.2.1 Try.underlying29 rfl (size29 _) ?_)
      | (refine wpList_store_row rfl 29 (.tmp 4) (.tmp 13) rfl (w.heap.size + 1 + 1) #[.slice va n cap] rfl rfl 29 _ H1.out.2.2 (size29 _) rfl (by simp [Value.oneCell']) ?_))
    have hg : RowIs (w1.setRow (w.heap.size + 1 + 1) #[.slice va n cap]) (w.heap.size + 1 + 1) 29 [.slice va n cap] := H1.out.2.2.setRow _
    refine ⟨rfl, _, ret29 Try.results31 _ _ (w.heap.size + 1 + 1) (.slice va n cap) (.int .i64 22) rfl hg rfl, _, by rw [show rRemE l x = 22 by unfold rRemE; rw [HP.out]; rfl], ?_, ?_⟩
    · rw [show rRem l x = l by unfold rRem; rw [HP.out]]
      exact HR.out.1.after (Below.row (HA.out.1.trans H1.out.1) (Nat.le_succ_of_le (Nat.le_succ _)) _)
    · exact Below.row (HA.out.1.trans H1.out.1) (Nat.le_succ_of_le (Nat.le_succ _)) _
  | some i =>
    obtain ⟨c, hc, hcx⟩ := rplc_get hp
    rw [hp] at HF
    have HF : Hid (Calls Try.prog 30 #[.agg #[.slice va n cap], .agg (idc x).toArray] W0 fun e w' => e = .returned (.int .i64 (i : Int)) ∧ After W0 w') := HF
    obtain ⟨gs, hva, hin, hrg⟩ := HR.out.1.at hc
    have HP : Hid (rplc l x = some i ∧ l[i]? = some c) := ⟨hp, hc⟩
    have hi0 : ¬ ((i : Nat) : Int) < 0 := by omega
    have HI : Hid (i < n) := hin
    have HAPP : Hid (∀ w1, After W0 w1 → ∃ g2 c2 w2, (Builtin.append_ #[27, 27] 27 #[.slice none 0 0, .slice va n cap]).run Try.prog w1 = .ok (.slice (some ⟨g2, 0, none⟩) n c2) w2 ∧ RowR w2 w1.heap.size (.slice (some ⟨g2, 0, none⟩) n c2) l ∧ After w1 w2 ∧ w1.heap.size ≤ g2) := fun w1 hw => by
      obtain ⟨v', w2, h1, h2, h3, h4⟩ := run_app27 (w := w1) (base := w1.heap.size) 27 (RowR.nil w1 _) (HR.out.1.after (HA.out.1.trans hw)).src (by have := HR.out.2; simp; omega) (Nat.le_refl _)
      rw [List.nil_append] at h2
      obtain ⟨g2, c2, hv2, hb2⟩ := RowR.hold h2 hc
      subst hv2
      rw [hn] at h1 h2
      exact ⟨g2, c2, w2, h1, h2, grown_none h3, hb2⟩
    have HN : Hid (l.length = n) := hn
    clear hp hc hcx hrg hin hva hn
    go_enter Try.func31, Try.ntmps31
    go_wp2_with (first
      | (rw [hW0])
      | (refine wpList_of_run rfl ((x_al29 rfl).trans (by rw [hW0])) ?_)
      | (refine wpList_load_row rfl 29 (.tmp 2) rfl w.heap.size rfl 29 #[.slice va n cap] (0, 0) _ HA.out.2.1 Try.underlying29 rfl (size29 _) ?_)
      | (refine wpList_load_row rfl 40 (.tmp 3) rfl (w.heap.size + 1) rfl 40 (idc x).toArray (0, 0) _ HA.out.2.2.1 Try.underlying40 rfl (size40 HX.out) ?_)
      | (go_at_call 30; refine Calls.mono HF.out ?_; clear HF; rintro e w1 ⟨rfl, hw1⟩; obtain ⟨g2, c2, w2, ha1, ha2, ha3, hb2⟩ := HAPP.out w1 hw1; clear HAPP; have cB1 : w1.cell? ⟨w.heap.size, 0, none⟩ = some (.slice va n cap) := (HA.out.2.1.below hw1 HA.out.2.1.lt).cell rfl; have HG := show Hid _ from ha2.gcell HP.out.2; have H1 := show Hid (After W0 w1 ∧ (Builtin.append_ #[27, 27] 27 #[.slice none 0 0, .slice va n cap]).run Try.prog w1 = .ok (.slice (some ⟨g2, 0, none⟩) n c2) w2 ∧ RowR w2 w1.heap.size (.slice (some ⟨g2, 0, none⟩) n c2) l ∧ After w1 w2 ∧ w1.heap.size ≤ g2) from ⟨hw1, ha1, ha2, ha3, hb2⟩; obtain ⟨W3, hW3⟩ : ∃ W3, w2.setCell ⟨g2, i * 68 + 67, none⟩ (.bool true) = W3 := ⟨_, rfl⟩; have HG3 := show Hid _ from hW3; obtain ⟨h3a, h3b, h3c, h3d, h3e⟩ := rem_facts HA.out.2.1 HA.out.2.2.2.1 hw1 ha3 ha2 hb2 HP.out.2 hW3; obtain ⟨W4, hW4⟩ : ∃ W4, W3.setCell ⟨w.heap.size, 0, none⟩ (.slice (some ⟨g2, 0, none⟩) n c2) = W4 := ⟨_, rfl⟩; have HG4 := show Hid _ from hW4; have H3 := show Hid (RowIs W3 w.heap.size 29 [.slice va n cap] ∧ RowIs W3 (w.heap.size + 1 + 1) 29 [.slice none 0 0] ∧ RowR W3 w1.heap.size (.slice (some ⟨g2, 0, none⟩) n c2) (l.set i { c with gone := true }) ∧ Below w1.heap.size w1 W3) from ⟨h3a, h3b, h3c, h3d⟩; have HB3 := show Hid (W3.cell? ⟨w.heap.size, 0, none⟩ = some (.slice va n cap) ∧ W3.frozen? ⟨w.heap.size, 0, none⟩ = false) from ⟨h3a.cell rfl, h3a.frozen 0⟩; have H4 := show Hid (RowIs W4 w.heap.size 29 [.slice (some ⟨g2, 0, none⟩) n c2] ∧ RowIs W4 (w.heap.size + 1 + 1) 29 [.slice none 0 0]) from ⟨by rw [← hW4]; exact h3a.set 0 _, by rw [← hW4]; exact h3b.other _ _ (by show ¬ w.heap.size + 1 + 1 = w.heap.size; omega)⟩; clear hw1 ha1 ha2 ha3 hb2 h3a h3b h3c h3d h3e hW3 hW4)
      | (refine wpList_of_run rfl (x_app27 (s := .tmp 14) (x := .tmp 16) (v := .slice none 0 0) (u := .slice va n cap) rfl (by kernel_rfl) (by kernel_rfl) H1.out.2.1) ?_)
      | (refine wpList_of_run rfl (x_idx27 (x := .tmp 18) (y := .tmp 19) (b := g2) (f := 0) (n := n) (c := c2) (k := i) rfl (by kernel_rfl) (by kernel_rfl) HI.out) ?_)
      | (refine wpList_st rfl ((x_st4 (x := .tmp 21) (g := g2) (p := i * 68 + 67) (b := true) rfl (by kernel_rfl) HG.out.1 HG.out.2).trans (by rw [HG3.out])) ?_)
      | (refine wpList_st rfl ((x_st27 (x := .tmp 23) (y := .tmp 22) (g := w.heap.size) (p := 0) (va := some ⟨g2, 0, none⟩) (m := n) (c := c2) rfl (by kernel_rfl) (by kernel_rfl) HB3.out.1 HB3.out.2).trans (by rw [HG4.out])) ?_)
      | (refine wpList_load_row rfl 29 (.tmp 2) rfl w.heap.size rfl 29 #[.slice (some ⟨g2, 0, none⟩) n c2] (0, 0) _ H4.out.1 Try.underlying29 rfl (size29 _) ?_)
      | (refine wpList_store_row rfl 29 (.tmp 4) (.tmp 24) rfl (w.heap.size + 1 + 1) #[.slice (some ⟨g2, 0, none⟩) n c2] rfl rfl 29 _ H4.out.2 (size29 _) rfl (by simp [Value.oneCell']) ?_))
    have hg : RowIs (W4.setRow (w.heap.size + 1 + 1) #[.slice (some ⟨g2, 0, none⟩) n c2]) (w.heap.size + 1 + 1) 29 [.slice (some ⟨g2, 0, none⟩) n c2] := H4.out.2.setRow _
    have hw1s : w.heap.size + 1 + 1 < w1.heap.size := Nat.lt_of_lt_of_le HA.out.2.2.2.1.lt H1.out.1.size
    refine ⟨rfl, _, ret29 Try.results31 _ _ (w.heap.size + 1 + 1) (.slice (some ⟨g2, 0, none⟩) n c2) (.int .i64 0) rfl hg rfl, _, by rw [show rRemE l x = 0 by unfold rRemE; rw [HP.out.1]; rfl], ?_, ?_⟩
    · rw [show rRem l x = l.set i { c with gone := true } by unfold rRem; rw [HP.out.1]; show (match l[i]? with | some c => l.set i { c with gone := true } | none => l) = _; rw [HP.out.2]]
      refine (H3.out.2.2.1.same (fun b hb => ?_)).mono (Nat.le_trans HA.out.2.2.2.2 (Nat.le_trans (by omega) (Nat.le_of_lt hw1s)))
      cases hb
      have := H1.out.2.2.2.2
      rw [← HG4.out]
      exact (Go.setRow_other _ _ _ _ (by show g2 ≠ w.heap.size + 1 + 1; omega)).trans (Below.heap_setCell W3 ⟨w.heap.size, 0, none⟩ _ _ (by show g2 ≠ w.heap.size; omega))
    · have k1 : Below w.heap.size w W3 := ⟨H3.out.2.2.2.os.trans (HA.out.1.trans H1.out.1).os, H3.out.2.2.2.tape.trans (HA.out.1.trans H1.out.1).tape, H3.out.2.2.2.output.trans (HA.out.1.trans H1.out.1).output, Nat.le_trans (HA.out.1.trans H1.out.1).size H3.out.2.2.2.size, fun b hb => (H3.out.2.2.2.block b (by omega)).trans ((HA.out.1.trans H1.out.1).block b hb)⟩
      rw [← HG4.out]
      exact Below.row (Below.setCell k1 (p := ⟨w.heap.size, 0, none⟩) (Nat.le_refl _) _) (by omega) _
end Go.Proofs.Ytiglenomigipmaa
