/-
  THE DISK BEHIND A STORE INTO ITS MAP, AND BEHIND A DELETE; such operations in a region that draws its order.
-/
import Derived.Test.YtlbodickflljfaaStep
namespace Go.Proofs.Ytlbodickflljfaa
open Go.RowKit Go.Maps Dsk
section
variable {w w' : World} {F F' : Nat → Prop} {sb mb : Nat} {S : Dk} {cs : List Ent}
theorem Dr.mb_ne (h : Dr w F sb mb S cs) : mb ≠ sb := fun e => by
  obtain ⟨es, cl, hb, _⟩ := h.own
  have := h.row
  unfold RowIs at this
  rw [e, this] at hb; cases hb
theorem Dr.row_ne (h : Dr w F sb mb S cs) {c : Ent} (hc : c ∈ cs) {g : Nat} (hg : rowB c.2.1 = some g) : g ≠ mb ∧ g ≠ sb ∧ g < w.heap.size := by
  obtain ⟨cur, hcur⟩ := (h.rows.file c hc).block hg
  refine ⟨fun e => ?_, fun e => ?_, (Array.getElem?_eq_some_iff.1 hcur).1⟩
  · obtain ⟨es, cl, hb, _⟩ := h.own
    rw [← e, hcur] at hb; cases hb
  · have := h.row
    unfold RowIs at this
    rw [← e, hcur] at this
    simp at this
theorem Dr.put (h : Dr w F sb mb S cs) (hFF : ∀ i, F i → F' i) (hrow : w'.heap[sb]? = w.heap[sb]?) {nm : Nm} {v : Value} {f : Fl} {n : Nat} (hm : w'.ownsMap Try.prog 9 Rv mb n (.map (toE (fput nm v (vals cs)))))
    (hk : ∀ c ∈ cs, c.1 ≠ nm → ∀ g, rowB c.2.1 = some g → w'.heap[g]? = w.heap[g]?) (hv : FileV w' v f) (hg : ∀ g, rowB v = some g → F' g ∧ ∀ c ∈ cs, c.1 ≠ nm → rowB c.2.1 ≠ some g) :
    Dr w' F' sb mb { S with files := fput nm f S.files } (fput nm (v, f) cs) := by
  have e1 : vals (fput nm (v, f) cs) = fput nm v (vals cs) := by unfold vals; rw [← fput_map (fun x : Value × Fl => x.1) nm (v, f) cs]
  have e2 : fls (fput nm (v, f) cs) = fput nm f (fls cs) := by unfold fls; rw [← fput_map (fun x : Value × Fl => x.2) nm (v, f) cs]
  refine ⟨⟨by unfold RowIs; rw [hrow]; exact h.row, ?_, by rw [e2, h.files]⟩, hFF _ h.fsb, hFF _ h.fmb, ⟨fun c hc => ?_, fun c hc g hcg => ?_, fun c hc d hd hcd g hcg hdg => ?_⟩⟩
  · rw [← e1] at hm
    have := ownsMap_tight hm
    have e3 : (vals (fput nm (v, f) cs)).length = (fput nm (v, f) cs).length := by simp [vals]
    rw [e3] at this
    exact this
  · rcases (fput_mem nm _ cs c).1 hc with rfl | ⟨hc, hne⟩
    · exact hv
    · exact (h.rows.file c hc).same (hk c hc hne)
  · rcases (fput_mem nm _ cs c).1 hc with rfl | ⟨hc, hne⟩
    · exact (hg g hcg).1
    · exact hFF g (h.rows.foot c hc g hcg)
  · rcases (fput_mem nm _ cs c).1 hc with rfl | ⟨hc, hne⟩
    · rcases (fput_mem nm _ cs d).1 hd with rfl | ⟨hd, hne'⟩
      · exact hcd rfl
      · exact (hg g hcg).2 d hd hne' hdg
    · rcases (fput_mem nm _ cs d).1 hd with rfl | ⟨hd, hne'⟩
      · exact (hg g hdg).2 c hc hne hcg
      · exact h.rows.apart c hc d hd hcd g hcg hdg
theorem Dr.del (h : Dr w F sb mb S cs) (hrow : w'.heap[sb]? = w.heap[sb]?) {nm : Nm} {n : Nat} (hm : w'.ownsMap Try.prog 9 Rv mb n (.map (toE (fdel nm (vals cs)))))
    (hk : ∀ c ∈ cs, ∀ g, rowB c.2.1 = some g → w'.heap[g]? = w.heap[g]?) : Dr w' F sb mb { S with files := fdel nm S.files } (fdel nm cs) := by
  have e1 : vals (fdel nm cs) = fdel nm (vals cs) := by unfold vals; rw [← fdel_map]
  have e2 : fls (fdel nm cs) = fdel nm (fls cs) := by unfold fls; rw [← fdel_map]
  refine ⟨⟨by unfold RowIs; rw [hrow]; exact h.row, ?_, by rw [e2, h.files]⟩, h.fsb, h.fmb, ⟨fun c hc => ?_, fun c hc g hcg => ?_, fun c hc d hd hcd g hcg hdg => ?_⟩⟩
  · rw [← e1] at hm
    have := ownsMap_tight hm
    have e3 : (vals (fdel nm cs)).length = (fdel nm cs).length := by simp [vals]
    rw [e3] at this
    exact this
  · have := ((fdel_mem nm cs c).1 hc).1
    exact (h.rows.file c this).same (hk c this)
  · exact h.rows.foot c ((fdel_mem nm cs c).1 hc).1 g hcg
  · exact h.rows.apart c ((fdel_mem nm cs c).1 hc).1 d ((fdel_mem nm cs d).1 hd).1 hcd g hcg hdg
theorem Turn.cell {G : Nat → Prop} {a b : World} (h : Turn G a b) {p : Addr} {v : Value} (hp : ¬ G p.block) (hc : a.cell? p = some v) : b.cell? p = some v := by
  rw [World.cell?_of_block (w := a) (h.block p.block (block_lt_of_cell hc) hp)]; exact hc
theorem Turn.same {G : Nat → Prop} {a b : World} (h : Turn G a b) {i : Nat} (hi : i < a.heap.size) (hp : ¬ G i) : b.heap[i]? = a.heap[i]? := h.block i hi hp
end
section
variable {ops : Array Oper} {Q : Exit → Act → World → Prop} {T : World → Prop} {fuel : Nat} {listed : Array Bool} {a : Act} {w : World} {oi : Oper}
/-- Number i, which alone may come up, stores into the map. -/
theorem tkPut (i : Nat) (m x v : Operand) (mb n : Nat) (l : List (Nm × Value)) (nm : Nm) (val : Value) (hi : ops[i]? = some oi) (hd : oi.dst = none) (ho : oi.op = .mapUpdate 64 m x v) (hr : Region.ready .any ops listed = [i])
    (hw : Region.wanted oi (yielded ops a.tmps) = true) (hm : a.eval m = .map (some mb)) (hx : a.eval x = .string (strOf nm)) (hv : a.eval v = val)
    (hown : w.ownsMap Try.prog 9 Rv mb n (.map (toE l))) (hn : n < maxLen) (hl : nm.length ≤ maxLen)
    (h : ∀ w', w'.ownsMap Try.prog 9 Rv mb (n + 1) (.map (toE (fput nm val l))) → w.grownBy w' (some mb) → T w' ∧ wpAnyH Try.prog .any ops Q T fuel (listed.setIfInBounds i true) (a.put none undef) w') : wpAnyH Try.prog .any ops Q T (fuel + 1) listed a w :=
  wpAnyH_all hr (by simp) (fun j hj => by
    obtain rfl : j = i := by simpa using hj
    refine wpOp_step hi (fun K' hK => ?_)
    rw [if_pos hw]
    obtain ⟨w', hrun, h1, h2⟩ := hown.update law9 Try.underlying64 hn (key9 nm hl) (val := val) (d := .held val) (ps := []) rfl
    rw [put_E] at h1
    unfold Oper.wp
    simp [execOp, ho, hm, hx, hv, hrun, Result.andThen]
    show K' (a.put oi.dst undef) w'
    rw [hd]
    exact hK _ _ (h w' h1 h2))
/-- Number i, which alone may come up, deletes from the map. -/
theorem tkDel (i : Nat) (m x : Operand) (mb n : Nat) (l : List (Nm × Value)) (nm : Nm) (hi : ops[i]? = some oi) (hd : oi.dst = none) (ho : oi.op = .call { callee := .builtin .delete, args := #[m, x], argTypes := #[64, 9] }) (hr : Region.ready .any ops listed = [i])
    (hw : Region.wanted oi (yielded ops a.tmps) = true) (hm : a.eval m = .map (some mb)) (hx : a.eval x = .string (strOf nm))
    (hown : w.ownsMap Try.prog 9 Rv mb n (.map (toE l))) (hl : nm.length ≤ maxLen)
    (h : ∀ w', w'.ownsMap Try.prog 9 Rv mb n (.map (toE (fdel nm l))) → w.grownBy w' (some mb) → T w' ∧ wpAnyH Try.prog .any ops Q T fuel (listed.setIfInBounds i true) (a.put none (.tuple #[])) w') : wpAnyH Try.prog .any ops Q T (fuel + 1) listed a w :=
  wpAnyH_all hr (by simp) (fun j hj => by
    obtain rfl : j = i := by simpa using hj
    refine wpOp_step hi (fun K' hK => ?_)
    rw [if_pos hw]
    obtain ⟨w', hrun, h1, h2⟩ := hown.drop law9 Try.underlying64 (key9 nm hl) oi.type
    rw [del_E] at h1
    unfold Oper.wp
    simp [execOp, ho, resolve, invoke, builtin, hm, hx, hrun, Result.andThen]
    show K' (a.put oi.dst (.tuple #[])) w'
    rw [hd]
    exact hK _ _ (h w' h1 h2.grown))
/-- Number i, which alone may come up, is a call, by its contract. -/
theorem tkCallS (i d : Nat) (f : FuncId) (args : Array Value) (R : Value → World → Prop) (hi : ops[i]? = some oi) (hd : oi.dst = some d) (hr : Region.ready .any ops listed = [i])
    (hw : Region.wanted oi (yielded ops a.tmps) = true) (hrun : ∀ w, (execOp a.eval oi).run Try.prog w = .ok (.enter f args) w)
    (hc : Calls Try.prog f args w fun e w' => ∃ v, e = .returned v ∧ R v w')
    (h : ∀ v w', R v w' → T w' ∧ wpAnyH Try.prog .any ops Q T fuel (listed.setIfInBounds i true) (a.put (some d) v) w') : wpAnyH Try.prog .any ops Q T (fuel + 1) listed a w :=
  wpAnyH_all hr (by simp) (fun j hj => by
    obtain rfl : j = i := by simpa using hj
    refine wpOp_step hi (fun K' hK => ?_)
    rw [if_pos hw]
    unfold Oper.wp
    rw [hrun, Oper.upon_enter]
    refine hc.mono (fun e w' ⟨v, he, hr⟩ => ?_)
    subst he
    rw [hd]
    exact hK _ _ (h v w' hr))
/-- Number i, which alone may come up, appends bytes to a row. -/
theorem tkApp (i d : Nat) (s x : Operand) (sl : Value) (bs : List UInt8) (ao : Option Addr) (k c : Nat) (news : List UInt8) (hi : ops[i]? = some oi) (hd : oi.dst = some d) (ho : oi.op = .call { callee := .builtin .append, args := #[s, x], argTypes := #[31, 31] }) (hr : Region.ready .any ops listed = [i])
    (hw : Region.wanted oi (yielded ops a.tmps) = true) (hs : a.eval s = sl) (hk : news.length = k) (hx : a.eval x = .slice ao k c) (hown : Own w 0 sl bs) (hat : BytesAt w ao news) (hbig : bs.length + news.length ≤ 140737488355328)
    (h : ∀ v' w', Own w' 0 v' (bs ++ news) → w.grownBy w' sl.ownBlock → (v'.ownBlock = sl.ownBlock ∨ v'.ownBlock = some w.heap.size) → T w' ∧ wpAnyH Try.prog .any ops Q T fuel (listed.setIfInBounds i true) (a.put (some d) v') w') : wpAnyH Try.prog .any ops Q T (fuel + 1) listed a w :=
  wpAnyH_all hr (by simp) (fun j hj => by
    obtain rfl : j = i := by simpa using hj
    refine wpOp_step hi (fun K' hK => ?_)
    rw [if_pos hw]
    obtain ⟨inf, hinf, hz⟩ := Option.map_eq_some_iff.1 bytes5
    simp only [Prod.mk.injEq] at hz
    obtain ⟨hz, hsz, hby⟩ := hz
    have hrun : ∃ v' w', (Builtin.append_ #[31, 31] oi.type #[sl, .slice ao k c]).run Try.prog w = .ok v' w' ∧ Own w' 0 v' (bs ++ news) ∧ w.grownBy w' sl.ownBlock ∧ (v'.ownBlock = sl.ownBlock ∨ v'.ownBlock = some w.heap.size) := by
      subst hk
      cases ao with
      | none =>
        obtain rfl : news = [] := bytesAt_none hat
        obtain ⟨ao', cap', hv, _, hle, _⟩ := hown.at
        have hr := run_append_nothing (P := Try.prog) w 31 31 oi.type 5 inf Try.underlying31 hinf ao' bs.length cap' hle (.slice none 0 c) (Src.ofNil w Try.underlying31 c)
        rw [← hv] at hr
        exact ⟨sl, w, hr, by rw [List.append_nil]; exact hown, ⟨rfl, rfl, rfl, Nat.le_refl _, fun _ _ _ => rfl⟩, Or.inl rfl⟩
      | some ad =>
        obtain ⟨v', w', h1, h2, h3, _, h5⟩ := run_append_own_at (P := Try.prog) w 0 31 oi.type 5 inf (.int .u8 0) 1 1 Try.underlying31 hinf hz hsz hby rfl (by omega) sl bs.length (c8 bs) hown ad news.length c (c8 news) (by simp [c8_len]) (fun j u hu => by
          have hj := (List.getElem?_eq_some_iff.1 hu).1
          rw [c8_len] at hj
          obtain ⟨b, o, he, hc⟩ := hat (by intro h; simp [h] at hj)
          cases he
          rw [c8_get news j hj] at hu
          rw [Addr.add_mid, hc j hj, hu]) (c8_one _) (by unfold maxLen; omega) (by omega) (Nat.zero_le _)
        exact ⟨v', w', h1, by unfold Own; rw [c8_append, List.length_append]; exact h2, h3, h5⟩
    obtain ⟨v', w', h1, h2, h3, h4⟩ := hrun
    unfold Oper.wp
    simp [execOp, ho, resolve, invoke, builtin, hs, hx, h1, Result.andThen]
    show K' (a.put oi.dst v') w'
    rw [hd]
    exact hK _ _ (h v' w' h2 h3 h4))
theorem x_ld23 {x : Operand} {g p : Nat} {v : Value} (hop : oi.op = .load 23 x) (hx : a.eval x = .pointer (some ⟨g, p, none⟩)) (hc : w.cell? ⟨g, p, none⟩ = some v) : (execOp a.eval oi).run Try.prog w = .ok (.value v) w := by
  unfold execOp; simp only [hop, hx]; simp [go_sem, hc]
theorem x_ld64 {x : Operand} {g p : Nat} {v : Value} (hop : oi.op = .load 64 x) (hx : a.eval x = .pointer (some ⟨g, p, none⟩)) (hc : w.cell? ⟨g, p, none⟩ = some v) : (execOp a.eval oi).run Try.prog w = .ok (.value v) w := by
  unfold execOp; simp only [hop, hx]; simp [go_sem, hc]
theorem x_ld9 {x : Operand} {g p : Nat} {v : Value} (hop : oi.op = .load 9 x) (hx : a.eval x = .pointer (some ⟨g, p, none⟩)) (hc : w.cell? ⟨g, p, none⟩ = some v) : (execOp a.eval oi).run Try.prog w = .ok (.value v) w := by
  unfold execOp; simp only [hop, hx]; simp [go_sem, hc]
theorem x_ld31 {x : Operand} {g p : Nat} {v : Value} (hop : oi.op = .load 31 x) (hx : a.eval x = .pointer (some ⟨g, p, none⟩)) (hc : w.cell? ⟨g, p, none⟩ = some v) : (execOp a.eval oi).run Try.prog w = .ok (.value v) w := by
  unfold execOp; simp only [hop, hx]; simp [go_sem, hc]
theorem x_ld3 {x : Operand} {g p : Nat} {v : Value} (hop : oi.op = .load 3 x) (hx : a.eval x = .pointer (some ⟨g, p, none⟩)) (hc : w.cell? ⟨g, p, none⟩ = some v) : (execOp a.eval oi).run Try.prog w = .ok (.value v) w := by
  unfold execOp; simp only [hop, hx]; simp [go_sem, hc]
theorem x_ld4 {x : Operand} {g p : Nat} {v : Value} (hop : oi.op = .load 4 x) (hx : a.eval x = .pointer (some ⟨g, p, none⟩)) (hc : w.cell? ⟨g, p, none⟩ = some v) : (execOp a.eval oi).run Try.prog w = .ok (.value v) w := by
  unfold execOp; simp only [hop, hx]; simp [go_sem, hc]
theorem x_ld77 {x : Operand} {g p : Nat} {v u : Value} (hop : oi.op = .load 77 x) (hx : a.eval x = .pointer (some ⟨g, p, none⟩)) (hc : w.cell? ⟨g, p, none⟩ = some v) (hc1 : w.cell? ⟨g, p + 1, none⟩ = some u) : (execOp a.eval oi).run Try.prog w = .ok (.value (.agg #[v, u])) w := by
  unfold execOp; simp only [hop, hx]; simp [go_sem, hc, hc1]
end
end Go.Proofs.Ytlbodickflljfaa
