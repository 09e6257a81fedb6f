/-
  The reference's tree whole: below (46), Cells (34), At (16); it finds what the program finds.
-/
import Derived.Test.YtiglenomigipmaaSU
namespace Go.Proofs.Ytiglenomigipmaa
open Go.RowKit Go.Shelf
attribute [local go_sem] Oper.semAt_some
theorem kids_none {l : List RC} (hlt : ∀ c ∈ l, c.af.c < c.id.c) {x : Idn} (h : cnt l x = 0) : kids l x = [] := by
  rw [List.eq_nil_iff_forall_not_mem]
  intro k hk
  have := kid_cnt hlt hk
  omega
theorem below_any {l : List RC} (hlt : ∀ c ∈ l, c.af.c < c.id.c) (hB : ∀ (m : Nat) (x : Idn), cnt l x ≤ m → (bl l m x).length ≤ 100000) (hl : l.length ≤ 1000) : ∀ (n : Nat) {w : World} {base : Nat} {v : Value} {x : Idn}, RowR w base v l → x.Ok → cnt l x ≤ n →
    Calls Try.prog 46 #[.agg #[v], idv x] w fun e w' => ∃ v', e = .returned v' ∧ RowR w' w.heap.size v' (bl l n x) ∧ After w w'
  | 0, w, base, v, x, h, hx, hc => by
    have hk : kids l x = [] := kids_none hlt (by omega)
    have := below_step (F := fun _ => []) h hx hl (by rw [hk]; simp) (fun k hk' => by rw [hk] at hk'; cases hk')
    rw [hk] at this
    exact this
  | n + 1, w, base, v, x, h, hx, hc => by
    refine below_step (F := fun k => bl l n k.id) h hx hl (hB (n + 1) x hc) (fun k hk w1 hw1 => ?_)
    have h1 := kid_cnt hlt hk
    exact below_any hlt hB hl n (h.after hw1) (h.1 k ((mem_gKids l).1 hk).1).id (by omega)
set_option maxRecDepth 100000 in
set_option maxHeartbeats 800000 in
theorem rCells_any {w : World} {base : Nat} {v : Value} {l : List RC} (h : RowR w base v l) (hlt : ∀ c ∈ l, c.af.c < c.id.c) (hB : ∀ (m : Nat) (x : Idn), cnt l x ≤ m → (bl l m x).length ≤ 100000) (hl : l.length ≤ 1000) {n : Nat} (hn : l.length ≤ n) :
    Calls Try.prog 34 #[.agg #[v]] w fun e w' => ∃ v', e = .returned v' ∧ RowR w' w.heap.size v' (bl l n zId) ∧ After w w' := by
  obtain ⟨W0, hW0⟩ : ∃ W0, w.alloc (.cells #[v] 29) = W0 := ⟨_, rfl⟩
  have HA : Hid (After w W0 ∧ RowIs W0 w.heap.size 29 [v]) := by
    rw [← hW0]
    exact ⟨after_alloc (After.refl w) _, RowIs.new w 29 [v]⟩
  have HC : Hid (Calls Try.prog 46 #[.agg #[v], idv zId] W0 fun e w' => ∃ v', e = .returned v' ∧ RowR w' W0.heap.size v' (bl l n zId) ∧ After W0 w') := below_any hlt hB hl n (h.after HA.out.1) zId_ok (Nat.le_trans (cnt_le l zId) hn)
  clear h hlt hB hl hn
  go_enter Try.func34, Try.ntmps34
  go_wp2_with (first
    | (rw [hW0])
    | (refine wpList_load_row rfl 29 (.tmp 1) rfl w.heap.size rfl 29 #[v] (0, 0) _ HA.out.2 Try.underlying29 rfl (size29 _) ?_)
    | (refine wpList_of_run rfl (x_zb40 rfl) ?_)
    | (go_at_call 46; refine Calls.mono HC.out ?_; clear HC; rintro e w1 ⟨v1, rfl, hr1, hw1⟩; have H1 := show Hid (RowR w1 W0.heap.size v1 (bl l n zId) ∧ After W0 w1) from ⟨hr1, hw1⟩; clear hr1 hw1))
  go_ret
  exact ⟨_, rfl, H1.out.1.mono HA.out.1.size, HA.out.1.trans H1.out.2⟩
theorem filter_map' {α β : Type} (f : α → β) (q : β → Bool) : ∀ {L : List α} {p : α → Bool}, (∀ a ∈ L, q (f a) = p a) → (L.map f).filter q = (L.filter p).map f
  | [], _, _ => rfl
  | a :: L, p, h => by
    have ih := filter_map' f q (L := L) (p := p) (fun b hb => h b (by simp [hb]))
    have ha := h a (by simp)
    cases hp : p a with
    | true => rw [List.map_cons, List.filter_cons_of_pos (by rw [ha, hp]), List.filter_cons_of_pos hp, List.map_cons, ih]
    | false => rw [List.map_cons, List.filter_cons_of_neg (by rw [ha, hp]; simp), List.filter_cons_of_neg (by rw [hp]; simp), ih]
/-- Both find the same. -/
theorem at_same {st : List Stm} {l : List RC} (hw : Wf st) (hL : Lnk st l) (hK : Kid st l) {U : List Nat} (hU : Reach st U []) {n : Nat} (hn : st.length ≤ n) (hs : st.length ≤ 100000) {p : Int} (h1 : -9223372036854775808 ≤ p) (h2 : p < 9223372036854775808) :
    srId (srS (bl l n zId) p) = atId st (U.filter (live st)) p ∧ (srS (bl l n zId) p).isSome = (atL (U.filter (live st)) p).isSome := by
  have hlen : (bl l n zId).length ≤ 1000000 := by
    have := bl_len hw hL hK (m := n) (x := zId) (by have := cnt_le l zId; have := hL.len; omega)
    omega
  rw [srS_eq h1 h2 hlen]
  unfold atId atL
  by_cases hp : p < 0
  · rw [if_pos hp, if_pos hp]; exact ⟨rfl, rfl⟩
  · rw [if_neg hp, if_neg hp]
    have e : stays (bl l n zId) = (U.filter (live st)).map (fun b => cl l (b - 1)) := by
      rw [bl_top hw hL hK hU hn]
      unfold stays
      refine filter_map' _ _ (fun b hb => ?_)
      obtain ⟨hb0, hbl, _⟩ := (hU.inv hw).par b (by simpa using hb)
      obtain ⟨u, hu⟩ : ∃ u, st[b]? = some u := ⟨_, List.getElem?_eq_getElem hbl⟩
      obtain ⟨d, hd, _, _, h5⟩ := hL.cl hb0 hu
      rw [cl_of hd, live_of hu, h5]
    rw [e, List.getElem?_map]
    cases hq : (U.filter (live st))[p.toNat]? with
    | none => exact ⟨rfl, rfl⟩
    | some b =>
      refine ⟨?_, rfl⟩
      have hm := (List.mem_filter.1 (List.mem_of_getElem? hq)).1
      obtain ⟨hb0, hbl, _⟩ := (hU.inv hw).par b (by simpa using hm)
      obtain ⟨u, hu⟩ : ∃ u, st[b]? = some u := ⟨_, List.getElem?_eq_getElem hbl⟩
      obtain ⟨d, hd, h5, _⟩ := hL.cl hb0 hu
      show (cl l (b - 1)).id = idAt st b
      rw [cl_of hd, idAt_of hu, h5]
/-- The two rows stand alike. -/
structure Alike (st : List Stm) (l : List RC) : Prop where
  wf : Wf st
  lnk : Lnk st l
  kid : Kid st l
theorem alike_nil : Alike [root] [] := ⟨wf_nil, wf_nil_lnk, kid_nil⟩
theorem Alike.bound {st : List Stm} {l : List RC} (h : Alike st l) (hs : st.length ≤ 1000) : ∀ (m : Nat) (x : Idn), cnt l x ≤ m → (bl l m x).length ≤ 100000 := fun m x hm => by
  have := bl_len h.wf h.lnk h.kid hm
  omega
theorem rAt_all {w : World} {base : Nat} {v : Value} {st : List Stm} {l : List RC} (h : RowR w base v l) (hA : Alike st l) (hs : st.length ≤ 1000) (pos : Int) :
    Calls Try.prog 16 #[.agg #[v], .int .i64 pos] w fun e w' => e = .returned (.tuple #[idv (srId (srS (bl l st.length zId) pos)), .bool (srS (bl l st.length zId) pos).isSome]) ∧ After w w' := by
  have hlen := hA.lnk.len
  exact rAt_any pos (fun w1 hw1 => rCells_any (h.after hw1) hA.kid.lt (hA.bound hs) (by omega) (by omega)) (hA.bound hs _ _ (by have := cnt_le l zId; omega))
theorem srS_ok {l : List RC} (h : ∀ c ∈ l, c.Ok) : ∀ {L : List RC}, (∀ c ∈ L, c.Ok) → ∀ p, (srId (srS L p)).Ok
  | [], _, _ => zId_ok
  | c :: L, hL, p => by
    unfold srS
    split
    · exact srS_ok h (fun d hd => hL d (by simp [hd])) p
    · split
      · exact (hL c (by simp)).id
      · exact srS_ok h (fun d hd => hL d (by simp [hd])) _
theorem bl_mem {l : List RC} : ∀ {n : Nat} {x : Idn} {c : RC}, c ∈ bl l n x → c ∈ l
  | 0, _, _, h => by cases h
  | n + 1, x, c, h => by
    obtain ⟨k, hk, hc⟩ := List.mem_flatMap.1 h
    rcases List.mem_cons.1 hc with rfl | hc
    · exact ((mem_gKids l).1 hk).1
    · exact bl_mem hc
end Go.Proofs.Ytiglenomigipmaa
