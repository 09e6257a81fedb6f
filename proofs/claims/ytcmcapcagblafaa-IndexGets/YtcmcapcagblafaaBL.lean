/-
  A NAME IS LAID: (*Table).lay (35); Create (20), Move (21), Delete (22), Heads (12).
-/
import Derived.Test.YtcmcapcagblafaaBT
namespace Go.Proofs.Ytcmcapcagblafaa
open Go.RowKit Go.Maps Dsk
attribute [local go_sem] Oper.semAt_some
/-- What a call may use, with all that it made. -/
def more (F : Nat → Prop) (w w' : World) : Nat → Prop := fun i => F i ∨ (w.heap.size ≤ i ∧ i < w'.heap.size)
theorem EnAt.grown {W W' : World} {F : Nat → Prop} {mb : Nat} {c : Ent} (h : EnAt W F c) (hg : W.grownBy W' (some mb)) {es : Array MapEntry} {cl : Nat} (hm : W.heap[mb]? = some (.map es cl)) : EnAt W' F c := by
  obtain ⟨a, cap, e, h1, h2, h3⟩ := h
  refine ⟨a, cap, e, ⟨h1.1, fun hn => ?_⟩, h2, fun ad ha => ⟨(h3 ad ha).1, Nat.lt_of_lt_of_le (h3 ad ha).2 hg.size⟩⟩
  obtain ⟨b, o, e', hr⟩ := h1.2 hn
  refine ⟨b, o, e', fun j v hv => ?_⟩
  have hc := hr j v hv
  have hb : b ≠ mb := fun eb => by subst eb; unfold World.cell? at hc; rw [hm] at hc; cases hc
  exact Eq.trans (World.cell?_of_block (w := W) (show W'.heap[(⟨b, o + j, none⟩ : Addr).block]? = W.heap[(⟨b, o + j, none⟩ : Addr).block]? from hg.block b (World.block_lt_of_cell? W _ hc) (fun e => hb (Option.some.inj e)))) hc
theorem TbA.put {W W' : World} {F : Nat → Prop} {tb mb n : Nat} {cs : List Ent} (h : TbA W F tb mb cs) (hg : W.grownBy W' (some mb)) {nm : Dsk.Nm} {v : Value} {l : List H} (hm : W'.ownsMap Try.prog 9 Rv mb n (.map (toE (fput nm v (vals cs))))) (hv : EnAt W F (nm, (v, l))) : TbA W' F tb mb (fput nm (v, l) cs) := by
  have e1 : vals (fput nm (v, l) cs) = fput nm v (vals cs) := by unfold vals; rw [← fput_map (fun x : Value × List H => x.1) nm (v, l) cs]
  obtain ⟨es, cl, hb, _⟩ := id h.own
  refine ⟨h.ftb, h.fmb, ?_, ?_, fun c hc => ?_⟩
  · unfold RowIs; rw [hg.block tb h.row.lt (fun e => h.ne (Option.some.inj e).symm)]; exact h.row
  · rw [← e1] at hm
    have := ownsMap_tight hm
    rw [vals_len] at this
    exact this
  · rcases (fput_mem nm _ cs c).1 hc with rfl | ⟨hc, _⟩
    · exact hv.grown hg hb
    · exact (h.ent c hc).grown hg hb
theorem TbA.del {W W' : World} {F : Nat → Prop} {tb mb n : Nat} {cs : List Ent} (h : TbA W F tb mb cs) (hg : W.grownBy W' (some mb)) {nm : Dsk.Nm} (hm : W'.ownsMap Try.prog 9 Rv mb n (.map (toE (fdel nm (vals cs))))) : TbA W' F tb mb (fdel nm cs) := by
  have e1 : vals (fdel nm cs) = fdel nm (vals cs) := by unfold vals; rw [← fdel_map]
  obtain ⟨es, cl, hb, _⟩ := id h.own
  refine ⟨h.ftb, h.fmb, ?_, ?_, fun c hc => ?_⟩
  · unfold RowIs; rw [hg.block tb h.row.lt (fun e => h.ne (Option.some.inj e).symm)]; exact h.row
  · rw [← e1] at hm
    have := ownsMap_tight hm
    rw [vals_len] at this
    exact this
  · exact (h.ent c ((fdel_mem nm cs c).1 hc).1).grown hg hb
theorem fls_put (nm : Dsk.Nm) (v : Value) (l : List H) (cs : List Ent) : fls (fput nm (v, l) cs) = fput nm l (fls cs) := by unfold fls; rw [← fput_map (fun x : Value × List H => x.2) nm (v, l) cs]
theorem fls_del (nm : Dsk.Nm) (cs : List Ent) : fls (fdel nm cs) = fdel nm (fls cs) := by unfold fls; rw [← fdel_map]
section
variable {ops : Array Oper} {Q : Exit → Act → World → Prop} {T : World → Prop} {fuel : Nat} {listed : Array Bool} {a : Act} {w : World} {oi : Oper}
/-- Number i, which alone may come up, stores into the map. -/
theorem tkPut (i : Nat) (m x v : Operand) (mb n : Nat) (l : List (Dsk.Nm × Value)) (nm : Dsk.Nm) (val : Value) (hi : ops[i]? = some oi) (hd : oi.dst = none) (ho : oi.op = .mapUpdate 153 m x v) (hr : Region.ready .any ops listed = [i])
    (hw : Region.wanted oi (yielded ops a.tmps) = true) (hm : a.eval m = .map (some mb)) (hx : a.eval x = .string (strOf nm)) (hv : a.eval v = val)
    (hown : w.ownsMap Try.prog 9 Rv mb n (.map (toE l))) (hn : n < maxLen) (hl : nm.length ≤ maxLen)
    (h : ∀ w', w'.ownsMap Try.prog 9 Rv mb (n + 1) (.map (toE (fput nm val l))) → w.grownBy w' (some mb) → T w' ∧ wpAnyH Try.prog .any ops Q T fuel (listed.setIfInBounds i true) (a.put none undef) w') : wpAnyH Try.prog .any ops Q T (fuel + 1) listed a w :=
  wpAnyH_all hr (by simp) (fun j hj => by
    obtain rfl : j = i := by simpa using hj
    refine wpOp_step hi (fun K' hK => ?_)
    rw [if_pos hw]
    obtain ⟨w', hrun, h1, h2⟩ := hown.update law9 Try.underlying153 hn (key9 nm hl) (val := val) (d := .held val) (ps := []) rfl
    rw [put_E] at h1
    unfold Oper.wp
    simp [execOp, ho, hm, hx, hv, hrun, Result.andThen]
    show K' (a.put oi.dst undef) w'
    rw [hd]
    exact hK _ _ (h w' h1 h2))
end
theorem OwnL.en {w : World} {B : Nat} {nm : Dsk.Nm} {l : List H} {a : Option Addr} {c n : Nat} (hl : l.length = n) (h : OwnL w B 43 32 (.slice a n c) (hsL l)) (hz : a = none → c = 0) : EnAt w (fun b => B ≤ b) (nm, (.slice a n c, l)) := by
  obtain ⟨a', c', e, hs⟩ := h.sl
  cases e
  refine ⟨a, c, by simp only; rw [hl], hs, hz, fun ad ha => ?_⟩
  subst ha
  rcases own_row h.2 with ⟨e, _⟩ | ⟨g, cap, cs, e, hb, hr, _⟩
  · cases e
  · cases e; exact ⟨hb, hr.lt⟩
set_option maxRecDepth 100000 in
set_option maxHeartbeats 1600000 in
theorem lay35 {F : Nat → Prop} {tb mb : Nat} {cs : List Ent} {nm : Dsk.Nm} (hl : nm.length ≤ 32) (hcs : cs.length ≤ 64) {ao : Option Addr} {ca n : Nat} {l : List H} (h32 : All32 l) (hln : l.length = n) (hn : n ≤ 16) {w : World} (hz : ao = none → ca = 0) (hA : SlAt w 32 ao (hsL l)) (hT : TbA w F tb mb cs) :
    Calls Try.prog 112 #[.pointer (some ⟨tb, 0, none⟩), .string (strOf nm), .slice ao n ca] w fun e w' => e = .returned (.tuple #[]) ∧ ∃ v, TbA w' (more F w w') tb mb (fput nm (v, l) cs) ∧ KeptF (fun b => b = mb) w w' := by
  have HT : Hid (TbA w F tb mb cs) := hT
  have HA : Hid (SlAt w 32 ao (hsL l) ∧ All32 l ∧ l.length = n ∧ (ao = none → ca = 0)) := ⟨hA, h32, hln, hz⟩
  have HL : Hid (nm.length ≤ 32 ∧ cs.length ≤ 64) := ⟨hl, hcs⟩
  clear hT hA h32 hln hz hl hcs
  go_enter Try.func112, Try.ntmps112
  refine wp_region_noPanic ?_
  refine wp_region_held_drew (S := KeptF (fun b => b = mb) w) (by kernel_rfl) (KeptF.of_after (After.drew (After.refl w))) ?_
  intro hS0
  have a0 : After w w.drew := After.drew (After.refl w)
  refine tk 0 6 (.pointer (some ⟨tb, 0, none⟩)) (fuel := 8) rfl (by kernel_rfl) (by kernel_rfl) (by kernel_rfl) (by kernel_rfl) noPanic_false (by kernel_rfl) (fun _ _ => by kernel_rfl) hS0 ?_
  refine tk 1 7 (.pointer (some ⟨tb, 0, none⟩)) (fuel := 7) rfl (by kernel_rfl) (by kernel_rfl) (by kernel_rfl) (by kernel_rfl) noPanic_false (by kernel_rfl) (fun _ _ => by kernel_rfl) hS0 ?_
  refine tk 2 8 (.pointer (some ⟨tb, 0, none⟩)) (fuel := 6) rfl (by kernel_rfl) (by kernel_rfl) (by kernel_rfl) (by kernel_rfl) noPanic_false (by kernel_rfl) (fun _ _ => by kernel_rfl) hS0 ?_
  refine tk 3 9 (.map (some mb)) (fuel := 5) rfl (by kernel_rfl) (by kernel_rfl) (by kernel_rfl) (by kernel_rfl) noPanic_false (by kernel_rfl) (fun W hW => x_loadT (x := .tmp 8) (t := 153) (g := tb) (j := 0) Try.underlying153 rfl (by kernel_rfl) (by kernel_rfl) ((hW.row HT.out.row (fun e => HT.out.ne e.symm)).cell (j := 0) rfl)) hS0 ?_
  refine tk 4 10 (.string (strOf nm)) (fuel := 4) rfl (by kernel_rfl) (by kernel_rfl) (by kernel_rfl) (by kernel_rfl) noPanic_false (by kernel_rfl) (fun _ _ => by kernel_rfl) hS0 ?_
  refine tk 6 12 (.slice ao n ca) (fuel := 3) rfl (by kernel_rfl) (by kernel_rfl) (by kernel_rfl) (by kernel_rfl) noPanic_false (by kernel_rfl) (fun _ _ => by kernel_rfl) hS0 ?_
  refine tkCallZ 5 11 121 #[.string (strOf nm)] (fun v w' => v = .string (strOf nm) ∧ After w.drew w') (fuel := 2) rfl (by kernel_rfl) (by kernel_rfl) (by kernel_rfl) (fun _ => by kernel_rfl) ((sclone45 (strOf nm) w.drew (by rw [strOf_size]; have := HL.out.1; omega)).mono (fun e w' ⟨he, ha⟩ => ⟨_, he, rfl, ha⟩)) ?_
  intro v1 w1 ⟨hv1, ha1⟩
  subst hv1
  have a1 : After w w1 := a0.trans ha1
  refine ⟨KeptF.of_after a1, ?_⟩
  refine tkCallZ 7 13 120 #[.slice ao n ca] (fun v w' => ∃ a' c', v = .slice a' n c' ∧ OwnL w' w1.heap.size 43 32 (.slice a' n c') (hsL l) ∧ After w1 w' ∧ (a' = none → c' = 0)) (fuel := 1) rfl (by kernel_rfl) (by kernel_rfl) (by kernel_rfl) (fun _ => by kernel_rfl) ((clone30 HA.out.2.1 HA.out.2.2.1 hn HA.out.2.2.2 (HA.out.1.after a1)).mono (fun e w' ⟨a', c', he, ha⟩ => ⟨_, he, a', c', rfl, ha⟩)) ?_
  intro v2 w2 ⟨a', c', hv2, ho2, ha2, hz2⟩
  subst hv2
  have a2 : After w w2 := a1.trans ha2
  refine ⟨KeptF.of_after a2, ?_⟩
  refine tkPut 8 (.tmp 9) (.tmp 11) (.tmp 13) mb cs.length (vals cs) nm (.slice a' n c') (fuel := 0) rfl (by kernel_rfl) (by kernel_rfl) (by kernel_rfl) (by kernel_rfl) (by kernel_rfl) (by kernel_rfl) (by kernel_rfl) (HT.out.after a2).own (by have := HL.out.2; unfold maxLen; omega) (by have := HL.out.1; unfold maxLen; omega) ?_
  intro w3 hm3 hg3
  have k3 : KeptF (fun b => b = mb) w w3 := (KeptF.of_after (F := fun b => b = mb) a2).trans (KeptF.of_grown hg3 (F := fun b => b = mb) (fun b e => (Option.some.inj e).symm)) (fun _ _ h => h)
  refine ⟨k3, ?_⟩
  refine wpAnyH_done (by kernel_rfl) (NoPanic.normal ?_) _
  have HF : Hid (TbA w3 (more F w w3) tb mb (fput nm (.slice a' n c', l) cs) ∧ KeptF (fun b => b = mb) w w3) := ⟨TbA.put ((HT.out.after a2).mono (G := more F w w3) (fun b h => .inl h)) hg3 hm3 (by
    obtain ⟨a, cap, e, h1, h2, h3⟩ := ho2.en (nm := nm) HA.out.2.2.1 hz2
    exact ⟨a, cap, e, h1, h2, fun ad ha => ⟨.inr ⟨Nat.le_trans a1.size (h3 ad ha).1, Nat.lt_of_lt_of_le (h3 ad ha).2 hg3.size⟩, (h3 ad ha).2⟩⟩), k3⟩
  clear hS0 a0 ha1 a1 ho2 ha2 hz2 a2 hm3 hg3 k3
  refine bodyPost_end (results_none rfl _ _ _) rfl ⟨rfl, _, HF.out⟩
end Go.Proofs.Ytcmcapcagblafaa
