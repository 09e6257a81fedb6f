/-
  THE WALK OF (*Table).List (23).
-/
import Derived.Test.YtppbbmnekeelpaaBD
namespace Go.Proofs.Ytppbbmnekeelpaa
open Go.RowKit Go.Maps Dsk
attribute [local go_sem] Oper.semAt_some
theorem own_block {w : World} {B : Nat} {t : TypeId} {k n c : Nat} {a : Option Addr} {L : List (List Value)} (h : OwnL w B t k (.slice a n c) L) : ∀ ad, a = some ad → B ≤ ad.block ∧ ad.block < w.heap.size := fun ad e => by
  subst e
  rcases own_row h.2 with ⟨e, _⟩ | ⟨g, cap, cs, e, hb, hr, _⟩
  · cases e
  · cases e; exact ⟨hb, hr.lt⟩
theorem own_rw {w : World} {B k n c : Nat} {a : Option Addr} {L : List (List Value)} (h : OwnL w B 50 k (.slice a n c) L) : ∀ ad, a = some ad → RwAt w ad := fun ad e => by
  subst e
  rcases own_row h.2 with ⟨e, _⟩ | ⟨g, cap, cs, e, hb, hr, _⟩
  · cases e
  · cases e; exact ⟨rfl, rfl, cs, hr⟩
theorem OwnB.lt {w : World} {B : Nat} {v : Value} {X : List Bx} (h : OwnB w B v X) {b : Nat} (hb : v.ownBlock = some b) : b < w.heap.size := (own_lt h.row.2 hb).2.1
theorem OwnB.lower {w : World} {B B' : Nat} {v : Value} {X : List Bx} (h : OwnB w B v X) (hb : B' ≤ B) : OwnB w B' v X := ⟨h.row.lower hb, h.each, fun x hx ad e => ⟨Nat.le_trans hb (h.ge x hx ad e).1, (h.ge x hx ad e).2⟩⟩
theorem ls_step {w wr w4 : World} {S : Tb} {i m : Nat} {v : Value} {X : List Bx} (h : LsI w S i v X wr) {nm : Dsk.Nm} {l : List H} (hS : S[i]? = some (nm, l)) (h32 : All32 l) (hm : l.length = m) (hi : i ≤ 64) (hm16 : m ≤ 16) {a' : Option Addr} {c' : Nat} (ho : OwnL w4 wr.heap.size 50 32 (.slice a' m c') (hsL l)) (ha : After wr w4) (hz : a' = none → c' = 0) :
    ∃ va vc w6, (Builtin.append_ #[25, 25] 25 #[v, .slice (some ⟨w4.heap.size, 0, none⟩) 1 1]).run Try.prog (w4.alloc (.cells #[.string (strOf nm), .slice a' m c'] 48)) = .ok (.slice va (X.length + 1) vc) w6 ∧ LsI w S (i + 1) (.slice va (X.length + 1) vc) (X ++ [⟨nm, a', c', l⟩]) w6 := by
  have hX : X.length = i := by
    have := congrArg List.length h.pre
    rw [bof_len, List.length_take] at this
    have := (List.getElem?_eq_some_iff.1 hS).1
    omega
  obtain ⟨a2, c2, e2, hs2⟩ := ho.sl
  injection e2 with q1 q2 q3
  subst q1 q3
  have hx4 : BxAt w4 ⟨nm, a', c', l⟩ := ⟨hs2, h32, hz, by simp only; omega⟩
  have hbox := hx4.box
  have ev : Bx.v ⟨nm, a', c', l⟩ = .slice a' m c' := by unfold Bx.v; rw [hm]
  rw [ev] at hbox
  obtain ⟨w5, hw5⟩ : ∃ w5, w4.alloc (.cells #[.string (strOf nm), .slice a' m c'] 48) = w5 := ⟨_, rfl⟩
  have a45 : After w4 w5 := by rw [← hw5]; exact after_alloc (After.refl w4) _
  rw [hw5] at hbox ⊢
  have o5 : OwnB w5 w.heap.size v X := (h.own.after ha).after a45
  have s5 := a45.size
  have s4 := ha.size
  have s0 := h.aft.size
  obtain ⟨va, vc, w6, r1, r2, r3, r4⟩ := run_appB 25 o5 (Y := [⟨nm, a', c', l⟩]) (m := 1) (c := 1) rfl hbox (by omega) (by omega) (fun e => by cases e)
  refine ⟨va, vc, w6, r1, after_grown ((h.aft.trans ha).trans a45) r3 (by omega) (fun k hk => (own_lt o5.row.2 hk).1), o5.grow (fun y hy => ?_) r2 r3 r4, ?_⟩
  · rw [List.mem_singleton] at hy
    subst hy
    refine ⟨hx4.after a45, fun ad e => ?_⟩
    have hb := own_block ho ad e
    refine ⟨by omega, by omega, fun e' => ?_, (own_rw ho ad e).same (a45.block _ hb.2)⟩
    have := h.own.lt e'
    omega
  · rw [bof_snoc, h.pre, List.take_add_one, hS]; rfl
set_option maxRecDepth 100000 in
set_option maxHeartbeats 1600000 in
theorem list23 {F : Nat → Prop} {tb mb : Nat} {cs : List Ent} (hcs : TOk (fls cs)) {w : World} (hT : TbA w F tb mb cs) : Calls Try.prog 23 #[.pointer (some ⟨tb, 0, none⟩)] w fun e w' => ∃ v X, e = .returned v ∧ OwnB w' w.heap.size v X ∧ bof X = fls cs ∧ After w w' := by
  have hcl : cs.length ≤ 64 := by have := hcs.few; rw [fls_len] at this; exact this
  have hc0 := hT.row.cell (j := 0) rfl
  have C1 := show Hid _ from (callsIn_wide (n := 5)).1 (sh_maps_Keys_39 (some mb) w)
  have C2 := show Hid _ from sorted38 hcs hT
  obtain ⟨n, hn⟩ : ∃ n, cs.length = n := ⟨_, rfl⟩
  rw [hn] at C2 hcl
  have HT : Hid (TbA w F tb mb cs ∧ TOk (fls cs) ∧ cs.length = n) := ⟨hT, hcs, hn⟩
  clear hT hcs hn
  go_enter Try.func23, Try.ntmps23
  go_wp2_with (first
    | (go_at_call 39; refine Calls.mono C1.out ?_; rintro e w' ⟨rfl, rfl⟩)
    | (go_at_call 38; refine Calls.mono C2.out ?_; rintro e w1 ⟨sa, sc, rfl, h1, h2⟩; have H1 := show Hid (SlAt w1 1 sa (stL ((fls cs).map (·.1))) ∧ After w w1) from ⟨h1, h2⟩; clear h1 h2))
  clear hc0
  go_loopw [3, 15] (fun v iv wr => ∃ (i : Nat) (X : List Bx), i ≤ n ∧ iv = .int .i64 (i : Int) ∧ Hid (LsI w1 (fls cs) i v X wr)) (fun _ iv _ => n - (intOf iv).toNat)
  case atStart => exact ⟨0, [], Nat.zero_le _, rfl, After.refl _, OwnB.nil _ _, by simp [bof]⟩
  case round =>
    obtain ⟨i, X, hin, rfl, HI⟩ := hrel
    by_cases hlt : i < n
    · have hii : (i : Int) < (n : Int) := by omega
      have HLT : Hid (i < n) := hlt
      obtain ⟨p, hp⟩ : ∃ p, (fls cs)[i]? = some p := ⟨_, List.getElem?_eq_getElem (by rw [fls_len, HT.out.2.2]; exact hlt)⟩
      obtain ⟨nm, l⟩ := p
      have hst : (stL ((fls cs).map (·.1)))[i]? = some [.string (strOf nm)] := st_get (by rw [List.getElem?_map, hp]; rfl)
      obtain ⟨nb, no, hsa, hsr⟩ := H1.out.1.at hst
      subst hsa
      have HC : Hid (wr.cell? ⟨nb, no + i * 1 + 0, none⟩ = some (.string (strOf nm))) := range_after hsr HI.out.aft 0 _ rfl
      have hmem : (nm, l) ∈ fls cs := List.mem_of_getElem? hp
      have hget : fget nm (fls cs) = some l := rising_get HT.out.2.1.ris hmem
      have hnl : nm.length ≤ maxLen := by have := nmB_len (HT.out.2.1.nam _ hmem); simp only at this; unfold maxLen; omega
      have hTr := HT.out.1.after (H1.out.2.trans HI.out.aft)
      have hc2 := hTr.row.cell (j := 0) rfl
      have hlk := look_plain hTr.own hnl
      have hget' := hget
      rw [fget_fls] at hget'
      obtain ⟨⟨v0, l0⟩, hc, e⟩ := Option.map_eq_some_iff.1 hget'
      simp only at e
      subst e
      obtain ⟨a, cap, ev, hs, hz, _⟩ := hTr.ent _ (fget_mem hc)
      simp only at ev hs
      subst ev
      rw [fget_vals, hc] at hlk
      simp only [Option.map_some, Option.getD_some] at hlk
      obtain ⟨m, hm⟩ : ∃ m, l0.length = m := ⟨_, rfl⟩
      rw [hm] at hlk
      have hm16 : m ≤ 16 := by rw [← hm]; exact mayB_len (HT.out.2.1.may _ hmem)
      have C30 := show Hid _ from clone30 (HT.out.2.1.l32 _ hmem) hm hm16 hz hs
      have HP : Hid ((fls cs)[i]? = some (nm, l0) ∧ All32 l0 ∧ l0.length = m ∧ i ≤ 64 ∧ m ≤ 16) := ⟨hp, HT.out.2.1.l32 _ hmem, hm, by omega, hm16⟩
      clear hp hst hsr hmem hget hget' hnl hTr hc hs hz hm hm16
      go_wp2_with (first
        | (refine wpList_of_run rfl (x_idx38 (n := n) (c := sc) (x := .tmp 13) (y := .tmp 15) rfl rfl rfl HLT.out) ?_)
        | (refine wpList_of_run rfl (x_loadT (x := .tmp 17) (t := 9) (g := nb) (j := no + i * 1 + 0) Try.underlying9 rfl rfl rfl HC.out) ?_)
        | (go_at_call 30; refine Calls.mono C30.out ?_; rintro e w4 ⟨a', c', rfl, h4, h4a, h4z⟩; obtain ⟨va, vc, w6, r1, r2⟩ := ls_step HI.out HP.out.1 HP.out.2.1 HP.out.2.2.1 HP.out.2.2.2.1 HP.out.2.2.2.2 h4 h4a h4z; have HE := show Hid _ from r1; have HN : Hid (LsI w1 (fls cs) (i + 1) (.slice va (X.length + 1) vc) (X ++ [⟨nm, a', c', l0⟩]) w6) := r2; clear r1 r2 h4 h4a h4z)
        | (refine wpList_of_run rfl (x_bld48 (x := .tmp 20) (y := .tmp 27) rfl rfl rfl) ?_)
        | (refine wpList_of_run rfl (x_bs25 (x := .tmp 28) rfl rfl) ?_)
        | (refine wpList_of_run rfl (x_app (t := 25) (s := .tmp 19) (x := .tmp 29) rfl rfl rfl HE.out) ?_))
      go_roundw
      case rel => exact ⟨i + 1, X ++ [⟨nm, a', c', l0⟩], by omega, by go_num, HN⟩
      case measure => simp [intOf]; omega
    · have hii : ¬ (i : Int) < (n : Int) := by omega
      go_wp2
      go_ret
      refine ⟨_, rfl, _, HI.out.own.lower H1.out.2.size, ?_, H1.out.2.trans HI.out.aft⟩
      have := HI.out.pre
      rw [this, List.take_of_length_le]
      rw [fls_len, HT.out.2.2]; omega
end Go.Proofs.Ytppbbmnekeelpaa
