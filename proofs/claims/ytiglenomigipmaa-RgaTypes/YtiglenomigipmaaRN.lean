/-
  Insert (22), where the cell is put.
-/
import Derived.Test.YtiglenomigipmaaRL
namespace Go.Proofs.Ytiglenomigipmaa
open Go.RowKit Go.Maps Go.WideMaps Go.WideAt Mp
/-- The row with a cell more. -/
def insS (st : List Stm) (q : Nat) (s : Stm) (id : Idn) (c : UInt8) : List Stm := List.set (st ++ [(⟨id, c, false, []⟩ : Stm)]) q { s with below := sIns (fun b => ltI id (idAt st b)) st.length s.below }
theorem sIns_congr {f f' : Nat → Bool} {p : Nat} : ∀ {l : List Nat}, (∀ b ∈ l, f b = f' b) → sIns f p l = sIns f' p l
  | [], _ => rfl
  | b :: l, h => by
    have ih := sIns_congr (f := f) (f' := f') (p := p) (l := l) (fun x hx => h x (by simp [hx]))
    simp [sIns, h b (by simp), ih]
theorem idAt_snoc {st : List Stm} {s : Stm} {b : Nat} (h : b < st.length) : idAt (st ++ [s]) b = idAt st b := by unfold idAt; rw [List.getElem?_append_left h]
theorem RowAt.notS {W : World} {base g : Nat} {st : List Stm} {D : RwD} (h : RowAt W base g st D) {k : Nat} {t : TypeId} {cs : List Value} (hr : RowIs W k t cs) (h1 : t ≠ 88) (h2 : t ≠ 3) : ¬ FootS D k ∧ ¬ FootS D g ∧ ¬ FootS D D.gm := by
  have key : ∀ b, FootS D b → ∃ t' cs', RowIs W b t' cs' ∧ (t' = 88 ∨ t' = 3) := fun b hb => by
    rcases hb with hb | ⟨v, hv, hb⟩
    · obtain ⟨_, _, cs', hc⟩ := own_lt h.row.2 hb; exact ⟨_, cs', hc, .inl rfl⟩
    · obtain ⟨i, hi⟩ := List.getElem?_of_mem hv
      have hl := (List.getElem?_eq_some_iff.1 hi).1
      rw [h.vl] at hl
      obtain ⟨_, _, cs', hc⟩ := own_lt (h.bel i _ v (List.getElem?_eq_getElem hl) hi) hb; exact ⟨_, cs', hc, .inr rfl⟩
  refine ⟨fun hb => ?_, fun hb => ?_, fun hb => ?_⟩
  · obtain ⟨t', cs', hc, e⟩ := key k hb
    rw [(hr.ty hc).1] at h1 h2
    exact e.elim h1 h2
  · obtain ⟨t', cs', hc, e⟩ := key g hb
    have := (h.box.ty hc).1
    subst this
    rcases e with e | e <;> exact absurd e (by decide)
  · obtain ⟨t', cs', hc, e⟩ := key D.gm hb
    exact h.mp.ne hc rfl
set_option maxRecDepth 100000 in
set_option maxHeartbeats 6400000 in
theorem Insert_okA {w : World} {base g : Nat} {st : List Stm} {D : RwD} (h : RowAt w base g st D) {af id : Idn} (ha : af.Ok) (hi : id.Ok) (c : UInt8) (he : insE st af id = 0) {q : Nat} {s : Stm} (hq : (plc st af).getD 0 = q) (hs : st[q]? = some s) (hbl : ∀ b ∈ s.below, b < st.length)
    (hup : ∀ i j, i ≤ j → j < s.below.length → ltI id (idAt st (s.below.getD i 0)) = true → ltI id (idAt st (s.below.getD j 0)) = true) (hsm : st.length ≤ 1000000) (hsb : s.below.length ≤ 1000000) (hz : af = zId) :
    Calls Try.prog 22 #[.pointer (some ⟨g, 0, none⟩), idv af, idv id, .int .u8 (c.toNat : Int)] w fun e w' => e = .returned (pv 0) ∧ ∃ D', RowAt w' base g (insS st q s id c) D' ∧ (∀ k, Foot g D' k → Foot g D k ∨ w.heap.size ≤ k) ∧ KeptF (Foot g D) w w' := by
  obtain ⟨W0, hW⟩ : ∃ W0, (w.alloc (.cells (idc af).toArray 37)).alloc (.cells (idc id).toArray 37) = W0 := ⟨_, rfl⟩
  have RA : Hid (RowIs W0 w.heap.size 37 (idc af) ∧ RowIs W0 (w.heap.size + 1) 37 (idc id) ∧ After w W0) := two_boxes af id 37 w W0 hW
  have ca : W0.cell? ⟨w.heap.size, 0, none⟩ = some (.int .i64 af.c) := RA.out.1.cell rfl
  have cb : W0.cell? ⟨w.heap.size + 1, 0, none⟩ = some (.int .i64 id.c) := RA.out.2.1.cell rfl
  have HR : Hid (RowAt W0 base g st D) := h.after RA.out.2.2
  have HOK : Hid (af.Ok ∧ id.Ok) := ⟨ha, hi⟩
  obtain ⟨gs, cap, hsv, _, _⟩ := HR.out.sv
  obtain ⟨n, hn⟩ : ∃ n, st.length = n := ⟨_, rfl⟩
  have HLN : Hid (st.length = n) := hn
  rw [hn] at hsv
  have HSV : Hid (D.sv = .slice (some ⟨gs, 0, none⟩) n cap) := hsv
  have HPOS : Hid (st ≠ []) := h.pos
  have HSM : Hid (st.length ≤ 1000000) := hsm
  unfold insE at he
  have h1 : ¬ (id.c < 1 ∨ id.c ≤ af.c) := fun hh => by rw [if_pos hh] at he; cases he
  rw [if_neg h1] at he
  have h2 : ¬ (plc st id).isSome = true := fun hh => by rw [if_pos hh] at he; cases he
  rw [if_neg h2] at he
  have h3 : ¬ (af ≠ zId ∧ (plc st af).isSome = false) := fun hh => by rw [if_pos hh] at he; cases he
  have h4 : ¬ id.c < 1 := fun hh => h1 (.inl hh)
  have h5 : ¬ id.c ≤ af.c := fun hh => h1 (.inr hh)
  have hne : af ≠ id := fun e => by subst e; omega
  have hpl : plc st id = none := by simpa using h2
  have HPL : Hid (plc st id = none ∧ (plc (st ++ [⟨id, c, false, []⟩]) af).getD 0 = q ∧ True) := ⟨hpl, by rw [plc_snoc h.pos (s := ⟨id, c, false, []⟩) hpl, if_neg hne]; exact hq, trivial⟩
  have HHG : Hid (∀ (W : World) (D' : RwD), RowAt W base g (st ++ [⟨id, c, false, []⟩]) D' → Calls Try.prog 42 #[.pointer (some ⟨g, 0, none⟩), pv n, pv q] W fun e w' => ∃ v, e = .returned v ∧ ∃ D'', RowAt w' base g (insS st q s id c) D'' ∧ (∀ k, Foot g D'' k → Foot g D' k ∨ W.heap.size ≤ k) ∧ KeptF (FootS D') W w') := fun W D' hR => by
    have hql := (List.getElem?_eq_some_iff.1 hs).1
    have hid : ∀ i, i < s.below.length → idAt (st ++ [⟨id, c, false, []⟩]) (s.below.getD i 0) = idAt st (s.below.getD i 0) := fun i hi => idAt_snoc (hbl _ (by rw [List.getD_eq_getElem?_getD, List.getElem?_eq_getElem hi]; exact List.getElem_mem hi))
    refine Calls.mono (hang_any hR (p := n) (q := q) (t := ⟨id, c, false, []⟩) (s := s) (by rw [← hn]; simp) (by rw [List.getElem?_append_left hql]; exact hs) (fun b hb => by have := hbl b hb; simp; omega) (fun i j hij hj hh => by rw [hid j hj]; rw [hid i (by omega)] at hh; exact hup i j hij hj hh) hsb) (fun e w' ⟨⟨v, he⟩, D'', h1, h2, h3⟩ => ⟨v, he, D'', ?_, h2, h3⟩)
    unfold insS
    rw [sIns_congr (f := fun b => ltI id (idAt st b)) (f' := fun b => ltI id (idAt (st ++ [⟨id, c, false, []⟩]) b)) (fun b hb => by rw [idAt_snoc (hbl b hb)]), hn]
    exact h1
  have HC1 : Hid (Calls Try.prog 41 #[.pointer (some ⟨g, 0, none⟩), .agg (idc id).toArray] W0 fun e w' => e = .returned (.bool false) ∧ After W0 w') := has_any HR.out HOK.out.2 (by simpa using h2)
  have HNE : Hid ((!decide (af = zId)) = false) := by unfold Hid; simp [hz]
  have HCG : Hid (∀ W, After W0 W → W.cell? ⟨g, 0, none⟩ = some (.slice (some ⟨gs, 0, none⟩) n cap)) := fun W hW => by
    have := (HR.out.after hW).box
    rw [HSV.out] at this
    exact this.cell rfl
  clear h ha hi he hq hs hbl hup hsm hsb hz hsv hn h1 h2 h3 hne hpl
  unfold idv
  go_enter Try.func22, Try.ntmps22
  go_wp2_with (first
    | (rw [hW])
    | (refine wpList_load_row rfl 37 (.tmp 6) rfl (w.heap.size + 1) rfl 37 (idc id).toArray (0, 0) _ RA.out.2.1 Try.underlying37 rfl (size37 HOK.out.2) ?_)
    | (go_at_call 41; refine Calls.mono HC1.out ?_; clear HC1; rintro e w1 ⟨rfl, hw1⟩; have H1 := show Hid (After W0 w1) from hw1; clear hw1; have cG := HCG.out w1 H1.out)
    | (refine wpList_load_row rfl 37 (.tmp 5) rfl w.heap.size rfl 37 (idc af).toArray (0, 0) _ (RA.out.1.below H1.out RA.out.1.lt) Try.underlying37 rfl (size37 HOK.out.1) ?_)
    | (refine wpList_of_run rfl (x_zb37 rfl) ?_)
    | (refine wpList_of_run rfl (x_neId (x := .tmp 29) (y := .tmp 30) HOK.out.1 zId_ok rfl rfl rfl) ?_; rw [HNE.out]))
  obtain ⟨wz, hwz⟩ : ∃ wz, wz = w1 := ⟨_, rfl⟩
  rw [← hwz] at H1 ⊢
  have HWZ : Hid (After w wz) := RA.out.2.2.trans H1.out
  have HRz : Hid (RowAt wz base g st D) := HR.out.after H1.out
  have HR5 : Hid (RowAt (wz.drew.alloc (.cells (scell ⟨id, c, false, []⟩ (.slice none 0 0)).toArray 88)) base g st D) := HRz.out.after (after_alloc (After.drew (After.refl wz)) _)
  have HGS : Hid (D.sv.ownBlock ≠ some g) := fun e => by
    obtain ⟨_, _, cs, hc⟩ := own_lt HRz.out.row.2 e
    exact absurd (hc.ty HRz.out.box).1 (by decide)
  have HBX : Hid (RowIs wz g 75 [.slice (some ⟨gs, 0, none⟩) n cap, .map (some D.gm)] ∧ RowIs wz (w.heap.size + 1) 37 (idc id) ∧ (RowIs wz w.heap.size 37 (idc af) ∧ ¬ (D.sv.ownBlock = some w.heap.size ∨ w.heap.size = g)) ∧ ¬ (D.sv.ownBlock = some (w.heap.size + 1) ∨ w.heap.size + 1 = g)) := by
    have hb := HRz.out.box
    rw [HSV.out] at hb
    have key : ∀ b cs', RowIs wz b 37 cs' → ¬ (D.sv.ownBlock = some b ∨ b = g) := fun b cs' hr => by
      rintro (e | e)
      · obtain ⟨_, _, cs, hc⟩ := own_lt HRz.out.row.2 e; exact absurd (hr.ty hc).1 (by decide)
      · subst e; exact absurd (hr.ty HRz.out.box).1 (by decide)
    have r1 := RA.out.2.1.below H1.out RA.out.2.1.lt
    have r0 := RA.out.1.below H1.out RA.out.1.lt
    exact ⟨hb, r1, ⟨r0, key _ _ r0⟩, key _ _ r1⟩
  have HAP : Hid (∃ va m vc w', (Builtin.append_ #[72, 72] 72 #[.slice (some ⟨gs, 0, none⟩) n cap, .slice (some ⟨wz.drew.heap.size, 0, none⟩) 1 1]).run Try.prog (wz.drew.alloc (.cells (scell ⟨id, c, false, []⟩ (.slice none 0 0)).toArray 88)) = .ok (.slice va m vc) w' ∧ OwnL w' base 88 36 (.slice va m vc) (stems st D.vs ++ [scell ⟨id, c, false, []⟩ (.slice none 0 0)]) ∧ (wz.drew.alloc (.cells (scell ⟨id, c, false, []⟩ (.slice none 0 0)).toArray 88)).grownBy w' D.sv.ownBlock ∧ ((Value.slice va m vc).ownBlock = D.sv.ownBlock ∨ (Value.slice va m vc).ownBlock = some (wz.drew.alloc (.cells (scell ⟨id, c, false, []⟩ (.slice none 0 0)).toArray 88)).heap.size)) := by
    have hh := run_app72 (w := wz.drew.alloc (.cells (scell ⟨id, c, false, []⟩ (.slice none 0 0)).toArray 88)) (base := base) (v := D.sv) (L := stems st D.vs) 72 HR5.out.row (s := ⟨id, c, false, []⟩) HOK.out.2 (g := wz.drew.heap.size) (RowIs.new wz.drew 88 _) (by rw [stems_len HR5.out.vl]; exact HSM.out) HR5.out.bs
    rw [HSV.out] at hh ⊢
    exact hh
  clear hwz
  refine wp_region_noPanic ?_
  refine wp_region_held_drew (S := KeptF (fun b => D.sv.ownBlock = some b ∨ b = g) wz) (by kernel_rfl) (KeptF.of_after (After.drew (After.refl _))) ?_
  intro hS0
  refine tk 0 43 (.pointer (some ⟨g, 0, none⟩)) (fuel := 13) rfl (by kernel_rfl) (by kernel_rfl) (by kernel_rfl) (by kernel_rfl) noPanic_false (by kernel_rfl) (fun _ _ => by kernel_rfl) hS0 ?_
  refine tk 1 44 (.pointer (some ⟨g, 0, none⟩)) (fuel := 12) rfl (by kernel_rfl) (by kernel_rfl) (by kernel_rfl) (by kernel_rfl) noPanic_false (by kernel_rfl) (fun _ _ => by kernel_rfl) hS0 ?_
  refine tk 2 45 (.pointer (some ⟨g, 0, none⟩)) (fuel := 11) rfl (by kernel_rfl) (by kernel_rfl) (by kernel_rfl) (by kernel_rfl) noPanic_false (by kernel_rfl) (fun _ _ => by kernel_rfl) hS0 ?_
  refine tk 3 46 (.pointer (some ⟨g, 0, none⟩)) (fuel := 10) rfl (by kernel_rfl) (by kernel_rfl) (by kernel_rfl) (by kernel_rfl) noPanic_false (by kernel_rfl) (fun _ _ => by kernel_rfl) hS0 ?_
  refine tk 5 48 (idv id) (fuel := 9) rfl (by kernel_rfl) (by kernel_rfl) (by kernel_rfl) (by kernel_rfl) noPanic_false (by kernel_rfl) (fun W hW => x_ldid (x := .tmp 6) (g := w.heap.size + 1) HOK.out.2 (by kernel_rfl) (by kernel_rfl) (hW.row HBX.out.2.1 HBX.out.2.2.2)) hS0 ?_
  refine tk 6 49 (.int .u8 (c.toNat : Int)) (fuel := 8) rfl (by kernel_rfl) (by kernel_rfl) (by kernel_rfl) (by kernel_rfl) noPanic_false (by kernel_rfl) (fun _ _ => by kernel_rfl) hS0 ?_
  refine tk 7 50 (.agg (ccell id c false).toArray) (fuel := 7) rfl (by kernel_rfl) (by kernel_rfl) (by kernel_rfl) (by kernel_rfl) noPanic_false (by kernel_rfl) (fun W hW => x_bld63 (x := .tmp 48) (y := .tmp 49) HOK.out.2 (by kernel_rfl) (by kernel_rfl) (by kernel_rfl)) hS0 ?_
  refine tk 8 51 (.agg (scell ⟨id, c, false, []⟩ (.slice none 0 0)).toArray) (fuel := 6) rfl (by kernel_rfl) (by kernel_rfl) (by kernel_rfl) (by kernel_rfl) noPanic_false (by kernel_rfl) (fun W hW => x_bld88 (x := .tmp 50) HOK.out.2 (by kernel_rfl) (by kernel_rfl)) hS0 ?_
  refine wpAnyH_all (rs := [4, 9]) (by kernel_rfl) (by simp) (fun ii hi => ?_)
  have hi2 : ii = 4 ∨ ii = 9 := by simpa using hi
  clear hi
  rcases hi2 with rfl | rfl
  · refine opVal 4 47 (.slice (some ⟨gs, 0, none⟩) n cap) wz.drew rfl (by kernel_rfl) (by kernel_rfl) (x_loadT (x := .tmp 46) (t := 72) (g := g) (j := 0) Try.underlying72 rfl (by kernel_rfl) (by kernel_rfl) (HBX.out.1.cell rfl)) ?_
    refine ⟨hS0, ?_⟩
    refine tkRunS 9 52 (.slice (some ⟨wz.drew.heap.size, 0, none⟩) 1 1) (wz.drew.alloc (.cells (scell ⟨id, c, false, []⟩ (.slice none 0 0)).toArray 88)) (fuel := 4) rfl (by kernel_rfl) (by kernel_rfl) (by kernel_rfl) (x_bs72 (x := .tmp 51) (scell_len (s := ⟨id, c, false, []⟩) HOK.out.2 _) (by kernel_rfl) (by kernel_rfl)) (KeptF.of_after (after_alloc (After.drew (After.refl wz)) _)) ?_
    obtain ⟨va, m6, vc, w6, hrun6, ho6, hg6, hl6⟩ := HAP.out
    have hk6 : KeptF (fun b => D.sv.ownBlock = some b ∨ b = g) wz w6 := (KeptF.of_after (after_alloc (After.drew (After.refl wz)) _)).trans (KeptF.of_grown (F := fun b => D.sv.ownBlock = some b ∨ b = g) hg6 (fun b hb => .inl hb)) (fun _ _ h => h)
    refine tkRunS 10 53 (.slice va m6 vc) w6 (fuel := 3) rfl (by kernel_rfl) (by kernel_rfl) (by kernel_rfl) (x_app72 (s := .tmp 47) (x := .tmp 52) (by kernel_rfl) (by kernel_rfl) (by kernel_rfl) hrun6) hk6 ?_
    refine tk 11 54 (.pointer (some ⟨g, 0, none⟩)) (fuel := 2) rfl (by kernel_rfl) (by kernel_rfl) (by kernel_rfl) (by kernel_rfl) noPanic_false (by kernel_rfl) (fun _ _ => by kernel_rfl) hk6 ?_
    refine tk 12 55 (.pointer (some ⟨g, 0, none⟩)) (fuel := 1) rfl (by kernel_rfl) (by kernel_rfl) (by kernel_rfl) (by kernel_rfl) noPanic_false (by kernel_rfl) (fun _ _ => by kernel_rfl) hk6 ?_
    have HSN := HR5.out.snoc (s := ⟨id, c, false, []⟩) HOK.out.2 rfl ho6 hg6 hl6
    have hg7 : RowIs w6 g 75 [.slice (some ⟨gs, 0, none⟩) n cap, .map (some D.gm)] := by
      unfold RowIs
      rw [hg6.block g (HR5.out.box.lt) (fun e => HGS.out e.symm)]
      have := HR5.out.box
      rw [HSV.out] at this
      exact this
    refine tkStoreS 13 (w6.setCell ⟨g, 0, none⟩ (.slice va m6 vc)) (fuel := 0) rfl (by kernel_rfl) (by kernel_rfl) (by kernel_rfl) (x_st72 (x := .tmp 55) (y := .tmp 53) (by kernel_rfl) (by kernel_rfl) (by kernel_rfl) (hg7.cell (j := 0) rfl) (hg7.frozen 0)) ((KeptF.of_after (after_alloc (After.drew (After.refl wz)) _)).trans HSN.2.2.1 (fun _ _ h => h)) ?_
    refine wpAnyH_done (by kernel_rfl) (NoPanic.normal ?_) _
    have H7 := show Hid (RowNM (w6.setCell ⟨g, 0, none⟩ (.slice va m6 vc)) base g (st ++ [⟨id, c, false, []⟩]) ⟨.slice va m6 vc, D.gm, D.vs ++ [.slice none 0 0]⟩ ∧ MapAt (w6.setCell ⟨g, 0, none⟩ (.slice va m6 vc)) D.gm st ∧ KeptF (fun b => D.sv.ownBlock = some b ∨ b = g) wz (w6.setCell ⟨g, 0, none⟩ (.slice va m6 vc)) ∧ (∀ k, Foot g ⟨.slice va m6 vc, D.gm, D.vs ++ [.slice none 0 0]⟩ k → Foot g D k ∨ wz.heap.size ≤ k)) from ⟨HSN.1, HSN.2.1, (KeptF.of_after (after_alloc (After.drew (After.refl wz)) _)).trans HSN.2.2.1 (fun _ _ h => h), fun k hk => (HSN.2.2.2 k hk).imp (fun h => h) (fun h => Nat.le_trans (by rw [World.size_alloc]; exact Nat.le_succ wz.heap.size) h)⟩
    generalize hw7 : w6.setCell ⟨g, 0, none⟩ (.slice va m6 vc) = w7 at H7 ⊢
    clear hw7 HSN hg7 hk6 hrun6 ho6 hg6 hl6 hS0
    have HX7 : Hid (RowIs w7 w.heap.size 37 (idc af) ∧ RowIs w7 (w.heap.size + 1) 37 (idc id)) := ⟨H7.out.2.2.1.row HBX.out.2.2.1.1 HBX.out.2.2.1.2, H7.out.2.2.1.row HBX.out.2.1 HBX.out.2.2.2⟩
    obtain ⟨w8, hrun8, hm8, hb8⟩ := MapAt.put (s := ⟨id, c, false, []⟩) (W := w7.drew) (H7.out.2.1.same rfl) HPOS.out HOK.out.2 HPL.out.1 HSM.out
    have HP8 := show Hid ((Instr.mapUpdate 73 (.map (some D.gm)) (idv id) (pv st.length)).run Try.prog w7.drew = .ok () w8 ∧ MapAt w8 D.gm (st ++ [⟨id, c, false, []⟩]) ∧ But D.gm w7.drew w8) from ⟨hrun8, hm8, hb8⟩
    clear hrun8 hm8 hb8
    go_simp
    go_wp2_with fail
    refine wp_region_noPanic ?_
    refine wp_region_held_drew (S := KeptF (fun b => b = D.gm) w7) (by kernel_rfl) (KeptF.of_after (After.drew (After.refl _))) ?_
    intro hS1
    refine tk 0 56 (.pointer (some ⟨g, 0, none⟩)) (fuel := 6) rfl (by kernel_rfl) (by kernel_rfl) (by kernel_rfl) (by kernel_rfl) noPanic_false (by kernel_rfl) (fun _ _ => by kernel_rfl) hS1 ?_
    refine tk 1 57 (.pointer (some ⟨g, 0, none⟩)) (fuel := 5) rfl (by kernel_rfl) (by kernel_rfl) (by kernel_rfl) (by kernel_rfl) noPanic_false (by kernel_rfl) (fun _ _ => by kernel_rfl) hS1 ?_
    refine tk 2 58 (.pointer (some ⟨g, 1, none⟩)) (fuel := 4) rfl (by kernel_rfl) (by kernel_rfl) (by kernel_rfl) (by kernel_rfl) noPanic_false (by kernel_rfl) (fun _ _ => by kernel_rfl) hS1 ?_
    refine tk 3 59 (.map (some D.gm)) (fuel := 3) rfl (by kernel_rfl) (by kernel_rfl) (by kernel_rfl) (by kernel_rfl) noPanic_false (by kernel_rfl) (fun W hW => x_loadT (x := .tmp 58) (t := 73) (g := g) (j := 1) Try.underlying73 rfl (by kernel_rfl) (by kernel_rfl) ((hW.row H7.out.1.box (H7.out.2.1.ne H7.out.1.box)).cell (j := 1) rfl)) hS1 ?_
    refine tk 4 60 (idv id) (fuel := 2) rfl (by kernel_rfl) (by kernel_rfl) (by kernel_rfl) (by kernel_rfl) noPanic_false (by kernel_rfl) (fun W hW => x_ldid (x := .tmp 6) (g := w.heap.size + 1) HOK.out.2 (by kernel_rfl) (by kernel_rfl) (hW.row HX7.out.2 (H7.out.2.1.ne HX7.out.2))) hS1 ?_
    refine tk 5 61 (pv n) (fuel := 1) rfl (by kernel_rfl) (by kernel_rfl) (by kernel_rfl) (by kernel_rfl) noPanic_false (by kernel_rfl) (fun _ _ => by kernel_rfl) hS1 ?_
    refine tkStoreS 6 (w8) (fuel := 0) rfl (by kernel_rfl) (by kernel_rfl) (by kernel_rfl) (x_mput (m := .tmp 59) (x := .tmp 60) (y := .tmp 61) (p := n) (by kernel_rfl) (by kernel_rfl) (by kernel_rfl) (by kernel_rfl) (by have := HP8.out.1; rw [HLN.out] at this; exact this)) ((KeptF.of_after (F := fun b => b = D.gm) (After.drew (After.refl w7))).trans ⟨HP8.out.2.2.os, HP8.out.2.2.tape, HP8.out.2.2.output, HP8.out.2.2.size, fun k hk hne => HP8.out.2.2.block k hk hne⟩ (fun _ _ h => h)) ?_
    refine wpAnyH_done (by kernel_rfl) (NoPanic.normal ?_) _
    have H8 := show Hid (RowAt w8 base g (st ++ [⟨id, c, false, []⟩]) ⟨.slice va m6 vc, D.gm, D.vs ++ [.slice none 0 0]⟩ ∧ KeptF (fun b => b = D.gm) w7 w8) from ⟨(H7.out.1.after (After.drew (After.refl w7))).turn (H7.out.2.1.same rfl) HP8.out.2.2 HP8.out.2.1, (KeptF.of_after (F := fun b => b = D.gm) (After.drew (After.refl w7))).trans ⟨HP8.out.2.2.os, HP8.out.2.2.tape, HP8.out.2.2.output, HP8.out.2.2.size, fun k hk hne => HP8.out.2.2.block k hk hne⟩ (fun _ _ h => h)⟩
    have HX8 : Hid (RowIs w8 w.heap.size 37 (idc af)) := H8.out.2.row HX7.out.1 (H7.out.2.1.ne HX7.out.1)
    have HB8 : Hid (RowIs w8 g 75 [.slice va m6 vc, .map (some D.gm)]) := H8.out.1.box
    have HNF : Hid (¬ FootS ⟨.slice va m6 vc, D.gm, D.vs ++ [.slice none 0 0]⟩ w.heap.size ∧ ¬ FootS ⟨.slice va m6 vc, D.gm, D.vs ++ [.slice none 0 0]⟩ g ∧ ¬ FootS ⟨.slice va m6 vc, D.gm, D.vs ++ [.slice none 0 0]⟩ D.gm) := H8.out.1.notS HX8.out (by decide) (by decide)
    clear hS1
    go_simp
    go_wp2_with fail
    refine wp_region_noPanic ?_
    refine wp_region_held_drew (S := KeptF (FootS ⟨.slice va m6 vc, D.gm, D.vs ++ [.slice none 0 0]⟩) w8) (by kernel_rfl) (KeptF.of_after (After.drew (After.refl _))) ?_
    intro hS2
    refine tk 0 62 (.pointer (some ⟨g, 0, none⟩)) (fuel := 8) rfl (by kernel_rfl) (by kernel_rfl) (by kernel_rfl) (by kernel_rfl) noPanic_false (by kernel_rfl) (fun _ _ => by kernel_rfl) hS2 ?_
    refine tk 1 63 (pv n) (fuel := 7) rfl (by kernel_rfl) (by kernel_rfl) (by kernel_rfl) (by kernel_rfl) noPanic_false (by kernel_rfl) (fun _ _ => by kernel_rfl) hS2 ?_
    refine tk 2 64 (.pointer (some ⟨g, 0, none⟩)) (fuel := 6) rfl (by kernel_rfl) (by kernel_rfl) (by kernel_rfl) (by kernel_rfl) noPanic_false (by kernel_rfl) (fun _ _ => by kernel_rfl) hS2 ?_
    refine tk 3 65 (.pointer (some ⟨g, 0, none⟩)) (fuel := 5) rfl (by kernel_rfl) (by kernel_rfl) (by kernel_rfl) (by kernel_rfl) noPanic_false (by kernel_rfl) (fun _ _ => by kernel_rfl) hS2 ?_
    refine tk 4 66 (.pointer (some ⟨g, 1, none⟩)) (fuel := 4) rfl (by kernel_rfl) (by kernel_rfl) (by kernel_rfl) (by kernel_rfl) noPanic_false (by kernel_rfl) (fun _ _ => by kernel_rfl) hS2 ?_
    refine tk 5 67 (.map (some D.gm)) (fuel := 3) rfl (by kernel_rfl) (by kernel_rfl) (by kernel_rfl) (by kernel_rfl) noPanic_false (by kernel_rfl) (fun W hW => x_loadT (x := .tmp 66) (t := 73) (g := g) (j := 1) Try.underlying73 rfl (by kernel_rfl) (by kernel_rfl) ((hW.row HB8.out HNF.out.2.1).cell (j := 1) rfl)) hS2 ?_
    refine tk 6 68 (idv af) (fuel := 2) rfl (by kernel_rfl) (by kernel_rfl) (by kernel_rfl) (by kernel_rfl) noPanic_false (by kernel_rfl) (fun W hW => x_ldid (x := .tmp 5) (g := w.heap.size) HOK.out.1 (by kernel_rfl) (by kernel_rfl) (hW.row HX8.out HNF.out.1)) hS2 ?_
    refine tk 7 69 (pv q) (fuel := 1) rfl (by kernel_rfl) (by kernel_rfl) (by kernel_rfl) (by kernel_rfl) noPanic_false (by kernel_rfl) (fun W hW => by rw [← HPL.out.2.1]; exact x_look (m := .tmp 67) (x := .tmp 68) (b := D.gm) HOK.out.1 (by kernel_rfl) (by kernel_rfl) (by kernel_rfl) (H8.out.1.mp.same (hW.block _ H8.out.1.mp.lt HNF.out.2.2))) hS2 ?_
    refine tkCallZ 8 70 42 #[.pointer (some ⟨g, 0, none⟩), pv n, pv q] (fun v w' => ∃ D', RowAt w' base g (insS st q s id c) D' ∧ (∀ k, Foot g D' k → Foot g ⟨.slice va m6 vc, D.gm, D.vs ++ [.slice none 0 0]⟩ k ∨ w8.drew.heap.size ≤ k) ∧ KeptF (FootS ⟨.slice va m6 vc, D.gm, D.vs ++ [.slice none 0 0]⟩) w8.drew w') (fuel := 0) rfl (by kernel_rfl) (by kernel_rfl) (by kernel_rfl) (fun _ => by kernel_rfl) (HHG.out w8.drew _ (H8.out.1.after (After.drew (After.refl w8)))) ?_
    intro v9 w9 h9
    obtain ⟨D9, h9a, h9b, h9c⟩ := h9
    have hk9 : KeptF (FootS ⟨.slice va m6 vc, D.gm, D.vs ++ [.slice none 0 0]⟩) w8 w9 := (KeptF.of_after (After.drew (After.refl w8))).trans h9c (fun _ _ h => h)
    refine ⟨hk9, ?_⟩
    refine wpAnyH_done (by kernel_rfl) (NoPanic.normal ?_) _
    have hf1 : ∀ k, Foot g D9 k → Foot g D k ∨ w.heap.size ≤ k := fun k hk => by
      rcases h9b k hk with h | h
      · exact (H7.out.2.2.2 k h).imp (fun h => h) (fun h => Nat.le_trans (Below.size HWZ.out) h)
      · exact .inr (Nat.le_trans (Below.size HWZ.out) (Nat.le_trans H7.out.2.2.1.size (Nat.le_trans H8.out.2.size h)))
    have hf2 : KeptF (Foot g D) w w9 := by
      refine (((KeptF.of_after (F := Foot g D) HWZ.out).trans H7.out.2.2.1 (fun x _ h => ?_)).trans H8.out.2 (fun x _ h => ?_)).trans hk9 (fun x hx h => ?_)
      · rcases h with h | h
        · exact .inr (.inl h)
        · exact .inl h
      · exact .inr (.inr (.inl h))
      · rcases H7.out.2.2.2 x h.foot with h | h
        · exact h
        · exact absurd (Nat.lt_of_lt_of_le hx (Below.size HWZ.out)) (by omega)
    have H9 := show Hid (RowAt w9 base g (insS st q s id c) D9 ∧ (∀ k, Foot g D9 k → Foot g D k ∨ w.heap.size ≤ k) ∧ KeptF (Foot g D) w w9) from ⟨h9a, hf1, hf2⟩
    clear hS2 hk9 h9a h9b h9c hf1 hf2
    go_simp
    go_wp2_with fail
    go_ret
    exact ⟨rfl, D9, H9.out⟩
  · refine opVal 9 52 (.slice (some ⟨wz.drew.heap.size, 0, none⟩) 1 1) (wz.drew.alloc (.cells (scell ⟨id, c, false, []⟩ (.slice none 0 0)).toArray 88)) rfl (by kernel_rfl) (by kernel_rfl) (x_bs72 (x := .tmp 51) (scell_len (s := ⟨id, c, false, []⟩) HOK.out.2 _) (by kernel_rfl) (by kernel_rfl)) ?_
    refine ⟨KeptF.of_after (after_alloc (After.drew (After.refl wz)) _), ?_⟩
    refine tkRunS 4 47 (.slice (some ⟨gs, 0, none⟩) n cap) (wz.drew.alloc (.cells (scell ⟨id, c, false, []⟩ (.slice none 0 0)).toArray 88)) (fuel := 4) rfl (by kernel_rfl) (by kernel_rfl) (by kernel_rfl) (x_loadT (x := .tmp 46) (t := 72) (g := g) (j := 0) Try.underlying72 rfl (by kernel_rfl) (by kernel_rfl) ((HBX.out.1.alloc _).cell rfl)) (KeptF.of_after (after_alloc (After.drew (After.refl wz)) _)) ?_
    obtain ⟨va, m6, vc, w6, hrun6, ho6, hg6, hl6⟩ := HAP.out
    have hk6 : KeptF (fun b => D.sv.ownBlock = some b ∨ b = g) wz w6 := (KeptF.of_after (after_alloc (After.drew (After.refl wz)) _)).trans (KeptF.of_grown (F := fun b => D.sv.ownBlock = some b ∨ b = g) hg6 (fun b hb => .inl hb)) (fun _ _ h => h)
    refine tkRunS 10 53 (.slice va m6 vc) w6 (fuel := 3) rfl (by kernel_rfl) (by kernel_rfl) (by kernel_rfl) (x_app72 (s := .tmp 47) (x := .tmp 52) (by kernel_rfl) (by kernel_rfl) (by kernel_rfl) hrun6) hk6 ?_
    refine tk 11 54 (.pointer (some ⟨g, 0, none⟩)) (fuel := 2) rfl (by kernel_rfl) (by kernel_rfl) (by kernel_rfl) (by kernel_rfl) noPanic_false (by kernel_rfl) (fun _ _ => by kernel_rfl) hk6 ?_
    refine tk 12 55 (.pointer (some ⟨g, 0, none⟩)) (fuel := 1) rfl (by kernel_rfl) (by kernel_rfl) (by kernel_rfl) (by kernel_rfl) noPanic_false (by kernel_rfl) (fun _ _ => by kernel_rfl) hk6 ?_
    have HSN := HR5.out.snoc (s := ⟨id, c, false, []⟩) HOK.out.2 rfl ho6 hg6 hl6
    have hg7 : RowIs w6 g 75 [.slice (some ⟨gs, 0, none⟩) n cap, .map (some D.gm)] := by
      unfold RowIs
      rw [hg6.block g (HR5.out.box.lt) (fun e => HGS.out e.symm)]
      have := HR5.out.box
      rw [HSV.out] at this
      exact this
    refine tkStoreS 13 (w6.setCell ⟨g, 0, none⟩ (.slice va m6 vc)) (fuel := 0) rfl (by kernel_rfl) (by kernel_rfl) (by kernel_rfl) (x_st72 (x := .tmp 55) (y := .tmp 53) (by kernel_rfl) (by kernel_rfl) (by kernel_rfl) (hg7.cell (j := 0) rfl) (hg7.frozen 0)) ((KeptF.of_after (after_alloc (After.drew (After.refl wz)) _)).trans HSN.2.2.1 (fun _ _ h => h)) ?_
    refine wpAnyH_done (by kernel_rfl) (NoPanic.normal ?_) _
    have H7 := show Hid (RowNM (w6.setCell ⟨g, 0, none⟩ (.slice va m6 vc)) base g (st ++ [⟨id, c, false, []⟩]) ⟨.slice va m6 vc, D.gm, D.vs ++ [.slice none 0 0]⟩ ∧ MapAt (w6.setCell ⟨g, 0, none⟩ (.slice va m6 vc)) D.gm st ∧ KeptF (fun b => D.sv.ownBlock = some b ∨ b = g) wz (w6.setCell ⟨g, 0, none⟩ (.slice va m6 vc)) ∧ (∀ k, Foot g ⟨.slice va m6 vc, D.gm, D.vs ++ [.slice none 0 0]⟩ k → Foot g D k ∨ wz.heap.size ≤ k)) from ⟨HSN.1, HSN.2.1, (KeptF.of_after (after_alloc (After.drew (After.refl wz)) _)).trans HSN.2.2.1 (fun _ _ h => h), fun k hk => (HSN.2.2.2 k hk).imp (fun h => h) (fun h => Nat.le_trans (by rw [World.size_alloc]; exact Nat.le_succ wz.heap.size) h)⟩
    generalize hw7 : w6.setCell ⟨g, 0, none⟩ (.slice va m6 vc) = w7 at H7 ⊢
    clear hw7 HSN hg7 hk6 hrun6 ho6 hg6 hl6 hS0
    have HX7 : Hid (RowIs w7 w.heap.size 37 (idc af) ∧ RowIs w7 (w.heap.size + 1) 37 (idc id)) := ⟨H7.out.2.2.1.row HBX.out.2.2.1.1 HBX.out.2.2.1.2, H7.out.2.2.1.row HBX.out.2.1 HBX.out.2.2.2⟩
    obtain ⟨w8, hrun8, hm8, hb8⟩ := MapAt.put (s := ⟨id, c, false, []⟩) (W := w7.drew) (H7.out.2.1.same rfl) HPOS.out HOK.out.2 HPL.out.1 HSM.out
    have HP8 := show Hid ((Instr.mapUpdate 73 (.map (some D.gm)) (idv id) (pv st.length)).run Try.prog w7.drew = .ok () w8 ∧ MapAt w8 D.gm (st ++ [⟨id, c, false, []⟩]) ∧ But D.gm w7.drew w8) from ⟨hrun8, hm8, hb8⟩
    clear hrun8 hm8 hb8
    go_simp
    go_wp2_with fail
    refine wp_region_noPanic ?_
    refine wp_region_held_drew (S := KeptF (fun b => b = D.gm) w7) (by kernel_rfl) (KeptF.of_after (After.drew (After.refl _))) ?_
    intro hS1
    refine tk 0 56 (.pointer (some ⟨g, 0, none⟩)) (fuel := 6) rfl (by kernel_rfl) (by kernel_rfl) (by kernel_rfl) (by kernel_rfl) noPanic_false (by kernel_rfl) (fun _ _ => by kernel_rfl) hS1 ?_
    refine tk 1 57 (.pointer (some ⟨g, 0, none⟩)) (fuel := 5) rfl (by kernel_rfl) (by kernel_rfl) (by kernel_rfl) (by kernel_rfl) noPanic_false (by kernel_rfl) (fun _ _ => by kernel_rfl) hS1 ?_
    refine tk 2 58 (.pointer (some ⟨g, 1, none⟩)) (fuel := 4) rfl (by kernel_rfl) (by kernel_rfl) (by kernel_rfl) (by kernel_rfl) noPanic_false (by kernel_rfl) (fun _ _ => by kernel_rfl) hS1 ?_
    refine tk 3 59 (.map (some D.gm)) (fuel := 3) rfl (by kernel_rfl) (by kernel_rfl) (by kernel_rfl) (by kernel_rfl) noPanic_false (by kernel_rfl) (fun W hW => x_loadT (x := .tmp 58) (t := 73) (g := g) (j := 1) Try.underlying73 rfl (by kernel_rfl) (by kernel_rfl) ((hW.row H7.out.1.box (H7.out.2.1.ne H7.out.1.box)).cell (j := 1) rfl)) hS1 ?_
    refine tk 4 60 (idv id) (fuel := 2) rfl (by kernel_rfl) (by kernel_rfl) (by kernel_rfl) (by kernel_rfl) noPanic_false (by kernel_rfl) (fun W hW => x_ldid (x := .tmp 6) (g := w.heap.size + 1) HOK.out.2 (by kernel_rfl) (by kernel_rfl) (hW.row HX7.out.2 (H7.out.2.1.ne HX7.out.2))) hS1 ?_
    refine tk 5 61 (pv n) (fuel := 1) rfl (by kernel_rfl) (by kernel_rfl) (by kernel_rfl) (by kernel_rfl) noPanic_false (by kernel_rfl) (fun _ _ => by kernel_rfl) hS1 ?_
    refine tkStoreS 6 (w8) (fuel := 0) rfl (by kernel_rfl) (by kernel_rfl) (by kernel_rfl) (x_mput (m := .tmp 59) (x := .tmp 60) (y := .tmp 61) (p := n) (by kernel_rfl) (by kernel_rfl) (by kernel_rfl) (by kernel_rfl) (by have := HP8.out.1; rw [HLN.out] at this; exact this)) ((KeptF.of_after (F := fun b => b = D.gm) (After.drew (After.refl w7))).trans ⟨HP8.out.2.2.os, HP8.out.2.2.tape, HP8.out.2.2.output, HP8.out.2.2.size, fun k hk hne => HP8.out.2.2.block k hk hne⟩ (fun _ _ h => h)) ?_
    refine wpAnyH_done (by kernel_rfl) (NoPanic.normal ?_) _
    have H8 := show Hid (RowAt w8 base g (st ++ [⟨id, c, false, []⟩]) ⟨.slice va m6 vc, D.gm, D.vs ++ [.slice none 0 0]⟩ ∧ KeptF (fun b => b = D.gm) w7 w8) from ⟨(H7.out.1.after (After.drew (After.refl w7))).turn (H7.out.2.1.same rfl) HP8.out.2.2 HP8.out.2.1, (KeptF.of_after (F := fun b => b = D.gm) (After.drew (After.refl w7))).trans ⟨HP8.out.2.2.os, HP8.out.2.2.tape, HP8.out.2.2.output, HP8.out.2.2.size, fun k hk hne => HP8.out.2.2.block k hk hne⟩ (fun _ _ h => h)⟩
    have HX8 : Hid (RowIs w8 w.heap.size 37 (idc af)) := H8.out.2.row HX7.out.1 (H7.out.2.1.ne HX7.out.1)
    have HB8 : Hid (RowIs w8 g 75 [.slice va m6 vc, .map (some D.gm)]) := H8.out.1.box
    have HNF : Hid (¬ FootS ⟨.slice va m6 vc, D.gm, D.vs ++ [.slice none 0 0]⟩ w.heap.size ∧ ¬ FootS ⟨.slice va m6 vc, D.gm, D.vs ++ [.slice none 0 0]⟩ g ∧ ¬ FootS ⟨.slice va m6 vc, D.gm, D.vs ++ [.slice none 0 0]⟩ D.gm) := H8.out.1.notS HX8.out (by decide) (by decide)
    clear hS1
    go_simp
    go_wp2_with fail
    refine wp_region_noPanic ?_
    refine wp_region_held_drew (S := KeptF (FootS ⟨.slice va m6 vc, D.gm, D.vs ++ [.slice none 0 0]⟩) w8) (by kernel_rfl) (KeptF.of_after (After.drew (After.refl _))) ?_
    intro hS2
    refine tk 0 62 (.pointer (some ⟨g, 0, none⟩)) (fuel := 8) rfl (by kernel_rfl) (by kernel_rfl) (by kernel_rfl) (by kernel_rfl) noPanic_false (by kernel_rfl) (fun _ _ => by kernel_rfl) hS2 ?_
    refine tk 1 63 (pv n) (fuel := 7) rfl (by kernel_rfl) (by kernel_rfl) (by kernel_rfl) (by kernel_rfl) noPanic_false (by kernel_rfl) (fun _ _ => by kernel_rfl) hS2 ?_
    refine tk 2 64 (.pointer (some ⟨g, 0, none⟩)) (fuel := 6) rfl (by kernel_rfl) (by kernel_rfl) (by kernel_rfl) (by kernel_rfl) noPanic_false (by kernel_rfl) (fun _ _ => by kernel_rfl) hS2 ?_
    refine tk 3 65 (.pointer (some ⟨g, 0, none⟩)) (fuel := 5) rfl (by kernel_rfl) (by kernel_rfl) (by kernel_rfl) (by kernel_rfl) noPanic_false (by kernel_rfl) (fun _ _ => by kernel_rfl) hS2 ?_
    refine tk 4 66 (.pointer (some ⟨g, 1, none⟩)) (fuel := 4) rfl (by kernel_rfl) (by kernel_rfl) (by kernel_rfl) (by kernel_rfl) noPanic_false (by kernel_rfl) (fun _ _ => by kernel_rfl) hS2 ?_
    refine tk 5 67 (.map (some D.gm)) (fuel := 3) rfl (by kernel_rfl) (by kernel_rfl) (by kernel_rfl) (by kernel_rfl) noPanic_false (by kernel_rfl) (fun W hW => x_loadT (x := .tmp 66) (t := 73) (g := g) (j := 1) Try.underlying73 rfl (by kernel_rfl) (by kernel_rfl) ((hW.row HB8.out HNF.out.2.1).cell (j := 1) rfl)) hS2 ?_
    refine tk 6 68 (idv af) (fuel := 2) rfl (by kernel_rfl) (by kernel_rfl) (by kernel_rfl) (by kernel_rfl) noPanic_false (by kernel_rfl) (fun W hW => x_ldid (x := .tmp 5) (g := w.heap.size) HOK.out.1 (by kernel_rfl) (by kernel_rfl) (hW.row HX8.out HNF.out.1)) hS2 ?_
    refine tk 7 69 (pv q) (fuel := 1) rfl (by kernel_rfl) (by kernel_rfl) (by kernel_rfl) (by kernel_rfl) noPanic_false (by kernel_rfl) (fun W hW => by rw [← HPL.out.2.1]; exact x_look (m := .tmp 67) (x := .tmp 68) (b := D.gm) HOK.out.1 (by kernel_rfl) (by kernel_rfl) (by kernel_rfl) (H8.out.1.mp.same (hW.block _ H8.out.1.mp.lt HNF.out.2.2))) hS2 ?_
    refine tkCallZ 8 70 42 #[.pointer (some ⟨g, 0, none⟩), pv n, pv q] (fun v w' => ∃ D', RowAt w' base g (insS st q s id c) D' ∧ (∀ k, Foot g D' k → Foot g ⟨.slice va m6 vc, D.gm, D.vs ++ [.slice none 0 0]⟩ k ∨ w8.drew.heap.size ≤ k) ∧ KeptF (FootS ⟨.slice va m6 vc, D.gm, D.vs ++ [.slice none 0 0]⟩) w8.drew w') (fuel := 0) rfl (by kernel_rfl) (by kernel_rfl) (by kernel_rfl) (fun _ => by kernel_rfl) (HHG.out w8.drew _ (H8.out.1.after (After.drew (After.refl w8)))) ?_
    intro v9 w9 h9
    obtain ⟨D9, h9a, h9b, h9c⟩ := h9
    have hk9 : KeptF (FootS ⟨.slice va m6 vc, D.gm, D.vs ++ [.slice none 0 0]⟩) w8 w9 := (KeptF.of_after (After.drew (After.refl w8))).trans h9c (fun _ _ h => h)
    refine ⟨hk9, ?_⟩
    refine wpAnyH_done (by kernel_rfl) (NoPanic.normal ?_) _
    have hf1 : ∀ k, Foot g D9 k → Foot g D k ∨ w.heap.size ≤ k := fun k hk => by
      rcases h9b k hk with h | h
      · exact (H7.out.2.2.2 k h).imp (fun h => h) (fun h => Nat.le_trans (Below.size HWZ.out) h)
      · exact .inr (Nat.le_trans (Below.size HWZ.out) (Nat.le_trans H7.out.2.2.1.size (Nat.le_trans H8.out.2.size h)))
    have hf2 : KeptF (Foot g D) w w9 := by
      refine (((KeptF.of_after (F := Foot g D) HWZ.out).trans H7.out.2.2.1 (fun x _ h => ?_)).trans H8.out.2 (fun x _ h => ?_)).trans hk9 (fun x hx h => ?_)
      · rcases h with h | h
        · exact .inr (.inl h)
        · exact .inl h
      · exact .inr (.inr (.inl h))
      · rcases H7.out.2.2.2 x h.foot with h | h
        · exact h
        · exact absurd (Nat.lt_of_lt_of_le hx (Below.size HWZ.out)) (by omega)
    have H9 := show Hid (RowAt w9 base g (insS st q s id c) D9 ∧ (∀ k, Foot g D9 k → Foot g D k ∨ w.heap.size ≤ k) ∧ KeptF (Foot g D) w w9) from ⟨h9a, hf1, hf2⟩
    clear hS2 hk9 h9a h9b h9c hf1 hf2
    go_simp
    go_wp2_with fail
    go_ret
    exact ⟨rfl, D9, H9.out⟩
set_option maxRecDepth 100000 in
set_option maxHeartbeats 6400000 in
theorem Insert_okB {w : World} {base g : Nat} {st : List Stm} {D : RwD} (h : RowAt w base g st D) {af id : Idn} (ha : af.Ok) (hi : id.Ok) (c : UInt8) (he : insE st af id = 0) {q : Nat} {s : Stm} (hq : (plc st af).getD 0 = q) (hs : st[q]? = some s) (hbl : ∀ b ∈ s.below, b < st.length)
    (hup : ∀ i j, i ≤ j → j < s.below.length → ltI id (idAt st (s.below.getD i 0)) = true → ltI id (idAt st (s.below.getD j 0)) = true) (hsm : st.length ≤ 1000000) (hsb : s.below.length ≤ 1000000) (hz : af ≠ zId) :
    Calls Try.prog 22 #[.pointer (some ⟨g, 0, none⟩), idv af, idv id, .int .u8 (c.toNat : Int)] w fun e w' => e = .returned (pv 0) ∧ ∃ D', RowAt w' base g (insS st q s id c) D' ∧ (∀ k, Foot g D' k → Foot g D k ∨ w.heap.size ≤ k) ∧ KeptF (Foot g D) w w' := by
  obtain ⟨W0, hW⟩ : ∃ W0, (w.alloc (.cells (idc af).toArray 37)).alloc (.cells (idc id).toArray 37) = W0 := ⟨_, rfl⟩
  have RA : Hid (RowIs W0 w.heap.size 37 (idc af) ∧ RowIs W0 (w.heap.size + 1) 37 (idc id) ∧ After w W0) := two_boxes af id 37 w W0 hW
  have ca : W0.cell? ⟨w.heap.size, 0, none⟩ = some (.int .i64 af.c) := RA.out.1.cell rfl
  have cb : W0.cell? ⟨w.heap.size + 1, 0, none⟩ = some (.int .i64 id.c) := RA.out.2.1.cell rfl
  have HR : Hid (RowAt W0 base g st D) := h.after RA.out.2.2
  have HOK : Hid (af.Ok ∧ id.Ok) := ⟨ha, hi⟩
  obtain ⟨gs, cap, hsv, _, _⟩ := HR.out.sv
  obtain ⟨n, hn⟩ : ∃ n, st.length = n := ⟨_, rfl⟩
  have HLN : Hid (st.length = n) := hn
  rw [hn] at hsv
  have HSV : Hid (D.sv = .slice (some ⟨gs, 0, none⟩) n cap) := hsv
  have HPOS : Hid (st ≠ []) := h.pos
  have HSM : Hid (st.length ≤ 1000000) := hsm
  unfold insE at he
  have h1 : ¬ (id.c < 1 ∨ id.c ≤ af.c) := fun hh => by rw [if_pos hh] at he; cases he
  rw [if_neg h1] at he
  have h2 : ¬ (plc st id).isSome = true := fun hh => by rw [if_pos hh] at he; cases he
  rw [if_neg h2] at he
  have h3 : ¬ (af ≠ zId ∧ (plc st af).isSome = false) := fun hh => by rw [if_pos hh] at he; cases he
  have h4 : ¬ id.c < 1 := fun hh => h1 (.inl hh)
  have h5 : ¬ id.c ≤ af.c := fun hh => h1 (.inr hh)
  have hne : af ≠ id := fun e => by subst e; omega
  have hpl : plc st id = none := by simpa using h2
  have HPL : Hid (plc st id = none ∧ (plc (st ++ [⟨id, c, false, []⟩]) af).getD 0 = q ∧ True) := ⟨hpl, by rw [plc_snoc h.pos (s := ⟨id, c, false, []⟩) hpl, if_neg hne]; exact hq, trivial⟩
  have HHG : Hid (∀ (W : World) (D' : RwD), RowAt W base g (st ++ [⟨id, c, false, []⟩]) D' → Calls Try.prog 42 #[.pointer (some ⟨g, 0, none⟩), pv n, pv q] W fun e w' => ∃ v, e = .returned v ∧ ∃ D'', RowAt w' base g (insS st q s id c) D'' ∧ (∀ k, Foot g D'' k → Foot g D' k ∨ W.heap.size ≤ k) ∧ KeptF (FootS D') W w') := fun W D' hR => by
    have hql := (List.getElem?_eq_some_iff.1 hs).1
    have hid : ∀ i, i < s.below.length → idAt (st ++ [⟨id, c, false, []⟩]) (s.below.getD i 0) = idAt st (s.below.getD i 0) := fun i hi => idAt_snoc (hbl _ (by rw [List.getD_eq_getElem?_getD, List.getElem?_eq_getElem hi]; exact List.getElem_mem hi))
    refine Calls.mono (hang_any hR (p := n) (q := q) (t := ⟨id, c, false, []⟩) (s := s) (by rw [← hn]; simp) (by rw [List.getElem?_append_left hql]; exact hs) (fun b hb => by have := hbl b hb; simp; omega) (fun i j hij hj hh => by rw [hid j hj]; rw [hid i (by omega)] at hh; exact hup i j hij hj hh) hsb) (fun e w' ⟨⟨v, he⟩, D'', h1, h2, h3⟩ => ⟨v, he, D'', ?_, h2, h3⟩)
    unfold insS
    rw [sIns_congr (f := fun b => ltI id (idAt st b)) (f' := fun b => ltI id (idAt (st ++ [⟨id, c, false, []⟩]) b)) (fun b hb => by rw [idAt_snoc (hbl b hb)]), hn]
    exact h1
  have HC1 : Hid (Calls Try.prog 41 #[.pointer (some ⟨g, 0, none⟩), .agg (idc id).toArray] W0 fun e w' => e = .returned (.bool false) ∧ After W0 w') := has_any HR.out HOK.out.2 (by simpa using h2)
  have HC2 : Hid (∀ w1, After W0 w1 → Calls Try.prog 41 #[.pointer (some ⟨g, 0, none⟩), .agg (idc af).toArray] w1 fun e w' => e = .returned (.bool true) ∧ After w1 w') := fun w1 hw => has_any (HR.out.after hw) HOK.out.1 (by
    cases hh : (plc st af).isSome with
    | true => rfl
    | false => exact absurd ⟨hz, hh⟩ h3)
  have HNE : Hid ((!decide (af = zId)) = true) := by unfold Hid; simp [hz]
  have HCG : Hid (∀ W, After W0 W → W.cell? ⟨g, 0, none⟩ = some (.slice (some ⟨gs, 0, none⟩) n cap)) := fun W hW => by
    have := (HR.out.after hW).box
    rw [HSV.out] at this
    exact this.cell rfl
  clear h ha hi he hq hs hbl hup hsm hsb hz hsv hn h1 h2 h3 hne hpl
  unfold idv
  go_enter Try.func22, Try.ntmps22
  go_wp2_with (first
    | (rw [hW])
    | (refine wpList_load_row rfl 37 (.tmp 6) rfl (w.heap.size + 1) rfl 37 (idc id).toArray (0, 0) _ RA.out.2.1 Try.underlying37 rfl (size37 HOK.out.2) ?_)
    | (go_at_call 41; refine Calls.mono HC1.out ?_; clear HC1; rintro e w1 ⟨rfl, hw1⟩; have H1 := show Hid (After W0 w1) from hw1; clear hw1)
    | (refine wpList_load_row rfl 37 (.tmp 5) rfl w.heap.size rfl 37 (idc af).toArray (0, 0) _ (RA.out.1.below H1.out RA.out.1.lt) Try.underlying37 rfl (size37 HOK.out.1) ?_)
    | (refine wpList_of_run rfl (x_zb37 rfl) ?_)
    | (refine wpList_of_run rfl (x_neId (x := .tmp 29) (y := .tmp 30) HOK.out.1 zId_ok rfl rfl rfl) ?_; rw [HNE.out])
    | (refine wpListG_of_run (by kernel_rfl) (x_ldid (x := .tmp 5) (g := w.heap.size) HOK.out.1 rfl rfl (RA.out.1.below H1.out RA.out.1.lt)) ?_)
    | (go_at_call 41; refine Calls.mono (HC2.out w1 H1.out) ?_; clear HC2; rintro e w2 ⟨rfl, hw1⟩; have H2 := show Hid (After W0 w2) from H1.out.trans hw1; clear hw1; have cG := HCG.out w2 H2.out))
  obtain ⟨wz, hwz⟩ : ∃ wz, wz = w2 := ⟨_, rfl⟩
  rw [← hwz] at H2 ⊢
  have HWZ : Hid (After w wz) := RA.out.2.2.trans H2.out
  have HRz : Hid (RowAt wz base g st D) := HR.out.after H2.out
  have HR5 : Hid (RowAt (wz.drew.alloc (.cells (scell ⟨id, c, false, []⟩ (.slice none 0 0)).toArray 88)) base g st D) := HRz.out.after (after_alloc (After.drew (After.refl wz)) _)
  have HGS : Hid (D.sv.ownBlock ≠ some g) := fun e => by
    obtain ⟨_, _, cs, hc⟩ := own_lt HRz.out.row.2 e
    exact absurd (hc.ty HRz.out.box).1 (by decide)
  have HBX : Hid (RowIs wz g 75 [.slice (some ⟨gs, 0, none⟩) n cap, .map (some D.gm)] ∧ RowIs wz (w.heap.size + 1) 37 (idc id) ∧ (RowIs wz w.heap.size 37 (idc af) ∧ ¬ (D.sv.ownBlock = some w.heap.size ∨ w.heap.size = g)) ∧ ¬ (D.sv.ownBlock = some (w.heap.size + 1) ∨ w.heap.size + 1 = g)) := by
    have hb := HRz.out.box
    rw [HSV.out] at hb
    have key : ∀ b cs', RowIs wz b 37 cs' → ¬ (D.sv.ownBlock = some b ∨ b = g) := fun b cs' hr => by
      rintro (e | e)
      · obtain ⟨_, _, cs, hc⟩ := own_lt HRz.out.row.2 e; exact absurd (hr.ty hc).1 (by decide)
      · subst e; exact absurd (hr.ty HRz.out.box).1 (by decide)
    have r1 := RA.out.2.1.below H2.out RA.out.2.1.lt
    have r0 := RA.out.1.below H2.out RA.out.1.lt
    exact ⟨hb, r1, ⟨r0, key _ _ r0⟩, key _ _ r1⟩
  have HAP : Hid (∃ va m vc w', (Builtin.append_ #[72, 72] 72 #[.slice (some ⟨gs, 0, none⟩) n cap, .slice (some ⟨wz.drew.heap.size, 0, none⟩) 1 1]).run Try.prog (wz.drew.alloc (.cells (scell ⟨id, c, false, []⟩ (.slice none 0 0)).toArray 88)) = .ok (.slice va m vc) w' ∧ OwnL w' base 88 36 (.slice va m vc) (stems st D.vs ++ [scell ⟨id, c, false, []⟩ (.slice none 0 0)]) ∧ (wz.drew.alloc (.cells (scell ⟨id, c, false, []⟩ (.slice none 0 0)).toArray 88)).grownBy w' D.sv.ownBlock ∧ ((Value.slice va m vc).ownBlock = D.sv.ownBlock ∨ (Value.slice va m vc).ownBlock = some (wz.drew.alloc (.cells (scell ⟨id, c, false, []⟩ (.slice none 0 0)).toArray 88)).heap.size)) := by
    have hh := run_app72 (w := wz.drew.alloc (.cells (scell ⟨id, c, false, []⟩ (.slice none 0 0)).toArray 88)) (base := base) (v := D.sv) (L := stems st D.vs) 72 HR5.out.row (s := ⟨id, c, false, []⟩) HOK.out.2 (g := wz.drew.heap.size) (RowIs.new wz.drew 88 _) (by rw [stems_len HR5.out.vl]; exact HSM.out) HR5.out.bs
    rw [HSV.out] at hh ⊢
    exact hh
  clear hwz
  refine wp_region_noPanic ?_
  refine wp_region_held_drew (S := KeptF (fun b => D.sv.ownBlock = some b ∨ b = g) wz) (by kernel_rfl) (KeptF.of_after (After.drew (After.refl _))) ?_
  intro hS0
  refine tk 0 43 (.pointer (some ⟨g, 0, none⟩)) (fuel := 13) rfl (by kernel_rfl) (by kernel_rfl) (by kernel_rfl) (by kernel_rfl) noPanic_false (by kernel_rfl) (fun _ _ => by kernel_rfl) hS0 ?_
  refine tk 1 44 (.pointer (some ⟨g, 0, none⟩)) (fuel := 12) rfl (by kernel_rfl) (by kernel_rfl) (by kernel_rfl) (by kernel_rfl) noPanic_false (by kernel_rfl) (fun _ _ => by kernel_rfl) hS0 ?_
  refine tk 2 45 (.pointer (some ⟨g, 0, none⟩)) (fuel := 11) rfl (by kernel_rfl) (by kernel_rfl) (by kernel_rfl) (by kernel_rfl) noPanic_false (by kernel_rfl) (fun _ _ => by kernel_rfl) hS0 ?_
  refine tk 3 46 (.pointer (some ⟨g, 0, none⟩)) (fuel := 10) rfl (by kernel_rfl) (by kernel_rfl) (by kernel_rfl) (by kernel_rfl) noPanic_false (by kernel_rfl) (fun _ _ => by kernel_rfl) hS0 ?_
  refine tk 5 48 (idv id) (fuel := 9) rfl (by kernel_rfl) (by kernel_rfl) (by kernel_rfl) (by kernel_rfl) noPanic_false (by kernel_rfl) (fun W hW => x_ldid (x := .tmp 6) (g := w.heap.size + 1) HOK.out.2 (by kernel_rfl) (by kernel_rfl) (hW.row HBX.out.2.1 HBX.out.2.2.2)) hS0 ?_
  refine tk 6 49 (.int .u8 (c.toNat : Int)) (fuel := 8) rfl (by kernel_rfl) (by kernel_rfl) (by kernel_rfl) (by kernel_rfl) noPanic_false (by kernel_rfl) (fun _ _ => by kernel_rfl) hS0 ?_
  refine tk 7 50 (.agg (ccell id c false).toArray) (fuel := 7) rfl (by kernel_rfl) (by kernel_rfl) (by kernel_rfl) (by kernel_rfl) noPanic_false (by kernel_rfl) (fun W hW => x_bld63 (x := .tmp 48) (y := .tmp 49) HOK.out.2 (by kernel_rfl) (by kernel_rfl) (by kernel_rfl)) hS0 ?_
  refine tk 8 51 (.agg (scell ⟨id, c, false, []⟩ (.slice none 0 0)).toArray) (fuel := 6) rfl (by kernel_rfl) (by kernel_rfl) (by kernel_rfl) (by kernel_rfl) noPanic_false (by kernel_rfl) (fun W hW => x_bld88 (x := .tmp 50) HOK.out.2 (by kernel_rfl) (by kernel_rfl)) hS0 ?_
  refine wpAnyH_all (rs := [4, 9]) (by kernel_rfl) (by simp) (fun ii hi => ?_)
  have hi2 : ii = 4 ∨ ii = 9 := by simpa using hi
  clear hi
  rcases hi2 with rfl | rfl
  · refine opVal 4 47 (.slice (some ⟨gs, 0, none⟩) n cap) wz.drew rfl (by kernel_rfl) (by kernel_rfl) (x_loadT (x := .tmp 46) (t := 72) (g := g) (j := 0) Try.underlying72 rfl (by kernel_rfl) (by kernel_rfl) (HBX.out.1.cell rfl)) ?_
    refine ⟨hS0, ?_⟩
    refine tkRunS 9 52 (.slice (some ⟨wz.drew.heap.size, 0, none⟩) 1 1) (wz.drew.alloc (.cells (scell ⟨id, c, false, []⟩ (.slice none 0 0)).toArray 88)) (fuel := 4) rfl (by kernel_rfl) (by kernel_rfl) (by kernel_rfl) (x_bs72 (x := .tmp 51) (scell_len (s := ⟨id, c, false, []⟩) HOK.out.2 _) (by kernel_rfl) (by kernel_rfl)) (KeptF.of_after (after_alloc (After.drew (After.refl wz)) _)) ?_
    obtain ⟨va, m6, vc, w6, hrun6, ho6, hg6, hl6⟩ := HAP.out
    have hk6 : KeptF (fun b => D.sv.ownBlock = some b ∨ b = g) wz w6 := (KeptF.of_after (after_alloc (After.drew (After.refl wz)) _)).trans (KeptF.of_grown (F := fun b => D.sv.ownBlock = some b ∨ b = g) hg6 (fun b hb => .inl hb)) (fun _ _ h => h)
    refine tkRunS 10 53 (.slice va m6 vc) w6 (fuel := 3) rfl (by kernel_rfl) (by kernel_rfl) (by kernel_rfl) (x_app72 (s := .tmp 47) (x := .tmp 52) (by kernel_rfl) (by kernel_rfl) (by kernel_rfl) hrun6) hk6 ?_
    refine tk 11 54 (.pointer (some ⟨g, 0, none⟩)) (fuel := 2) rfl (by kernel_rfl) (by kernel_rfl) (by kernel_rfl) (by kernel_rfl) noPanic_false (by kernel_rfl) (fun _ _ => by kernel_rfl) hk6 ?_
    refine tk 12 55 (.pointer (some ⟨g, 0, none⟩)) (fuel := 1) rfl (by kernel_rfl) (by kernel_rfl) (by kernel_rfl) (by kernel_rfl) noPanic_false (by kernel_rfl) (fun _ _ => by kernel_rfl) hk6 ?_
    have HSN := HR5.out.snoc (s := ⟨id, c, false, []⟩) HOK.out.2 rfl ho6 hg6 hl6
    have hg7 : RowIs w6 g 75 [.slice (some ⟨gs, 0, none⟩) n cap, .map (some D.gm)] := by
      unfold RowIs
      rw [hg6.block g (HR5.out.box.lt) (fun e => HGS.out e.symm)]
      have := HR5.out.box
      rw [HSV.out] at this
      exact this
    refine tkStoreS 13 (w6.setCell ⟨g, 0, none⟩ (.slice va m6 vc)) (fuel := 0) rfl (by kernel_rfl) (by kernel_rfl) (by kernel_rfl) (x_st72 (x := .tmp 55) (y := .tmp 53) (by kernel_rfl) (by kernel_rfl) (by kernel_rfl) (hg7.cell (j := 0) rfl) (hg7.frozen 0)) ((KeptF.of_after (after_alloc (After.drew (After.refl wz)) _)).trans HSN.2.2.1 (fun _ _ h => h)) ?_
    refine wpAnyH_done (by kernel_rfl) (NoPanic.normal ?_) _
    have H7 := show Hid (RowNM (w6.setCell ⟨g, 0, none⟩ (.slice va m6 vc)) base g (st ++ [⟨id, c, false, []⟩]) ⟨.slice va m6 vc, D.gm, D.vs ++ [.slice none 0 0]⟩ ∧ MapAt (w6.setCell ⟨g, 0, none⟩ (.slice va m6 vc)) D.gm st ∧ KeptF (fun b => D.sv.ownBlock = some b ∨ b = g) wz (w6.setCell ⟨g, 0, none⟩ (.slice va m6 vc)) ∧ (∀ k, Foot g ⟨.slice va m6 vc, D.gm, D.vs ++ [.slice none 0 0]⟩ k → Foot g D k ∨ wz.heap.size ≤ k)) from ⟨HSN.1, HSN.2.1, (KeptF.of_after (after_alloc (After.drew (After.refl wz)) _)).trans HSN.2.2.1 (fun _ _ h => h), fun k hk => (HSN.2.2.2 k hk).imp (fun h => h) (fun h => Nat.le_trans (by rw [World.size_alloc]; exact Nat.le_succ wz.heap.size) h)⟩
    generalize hw7 : w6.setCell ⟨g, 0, none⟩ (.slice va m6 vc) = w7 at H7 ⊢
    clear hw7 HSN hg7 hk6 hrun6 ho6 hg6 hl6 hS0
    have HX7 : Hid (RowIs w7 w.heap.size 37 (idc af) ∧ RowIs w7 (w.heap.size + 1) 37 (idc id)) := ⟨H7.out.2.2.1.row HBX.out.2.2.1.1 HBX.out.2.2.1.2, H7.out.2.2.1.row HBX.out.2.1 HBX.out.2.2.2⟩
    obtain ⟨w8, hrun8, hm8, hb8⟩ := MapAt.put (s := ⟨id, c, false, []⟩) (W := w7.drew) (H7.out.2.1.same rfl) HPOS.out HOK.out.2 HPL.out.1 HSM.out
    have HP8 := show Hid ((Instr.mapUpdate 73 (.map (some D.gm)) (idv id) (pv st.length)).run Try.prog w7.drew = .ok () w8 ∧ MapAt w8 D.gm (st ++ [⟨id, c, false, []⟩]) ∧ But D.gm w7.drew w8) from ⟨hrun8, hm8, hb8⟩
    clear hrun8 hm8 hb8
    go_simp
    go_wp2_with fail
    refine wp_region_noPanic ?_
    refine wp_region_held_drew (S := KeptF (fun b => b = D.gm) w7) (by kernel_rfl) (KeptF.of_after (After.drew (After.refl _))) ?_
    intro hS1
    refine tk 0 56 (.pointer (some ⟨g, 0, none⟩)) (fuel := 6) rfl (by kernel_rfl) (by kernel_rfl) (by kernel_rfl) (by kernel_rfl) noPanic_false (by kernel_rfl) (fun _ _ => by kernel_rfl) hS1 ?_
    refine tk 1 57 (.pointer (some ⟨g, 0, none⟩)) (fuel := 5) rfl (by kernel_rfl) (by kernel_rfl) (by kernel_rfl) (by kernel_rfl) noPanic_false (by kernel_rfl) (fun _ _ => by kernel_rfl) hS1 ?_
    refine tk 2 58 (.pointer (some ⟨g, 1, none⟩)) (fuel := 4) rfl (by kernel_rfl) (by kernel_rfl) (by kernel_rfl) (by kernel_rfl) noPanic_false (by kernel_rfl) (fun _ _ => by kernel_rfl) hS1 ?_
    refine tk 3 59 (.map (some D.gm)) (fuel := 3) rfl (by kernel_rfl) (by kernel_rfl) (by kernel_rfl) (by kernel_rfl) noPanic_false (by kernel_rfl) (fun W hW => x_loadT (x := .tmp 58) (t := 73) (g := g) (j := 1) Try.underlying73 rfl (by kernel_rfl) (by kernel_rfl) ((hW.row H7.out.1.box (H7.out.2.1.ne H7.out.1.box)).cell (j := 1) rfl)) hS1 ?_
    refine tk 4 60 (idv id) (fuel := 2) rfl (by kernel_rfl) (by kernel_rfl) (by kernel_rfl) (by kernel_rfl) noPanic_false (by kernel_rfl) (fun W hW => x_ldid (x := .tmp 6) (g := w.heap.size + 1) HOK.out.2 (by kernel_rfl) (by kernel_rfl) (hW.row HX7.out.2 (H7.out.2.1.ne HX7.out.2))) hS1 ?_
    refine tk 5 61 (pv n) (fuel := 1) rfl (by kernel_rfl) (by kernel_rfl) (by kernel_rfl) (by kernel_rfl) noPanic_false (by kernel_rfl) (fun _ _ => by kernel_rfl) hS1 ?_
    refine tkStoreS 6 (w8) (fuel := 0) rfl (by kernel_rfl) (by kernel_rfl) (by kernel_rfl) (x_mput (m := .tmp 59) (x := .tmp 60) (y := .tmp 61) (p := n) (by kernel_rfl) (by kernel_rfl) (by kernel_rfl) (by kernel_rfl) (by have := HP8.out.1; rw [HLN.out] at this; exact this)) ((KeptF.of_after (F := fun b => b = D.gm) (After.drew (After.refl w7))).trans ⟨HP8.out.2.2.os, HP8.out.2.2.tape, HP8.out.2.2.output, HP8.out.2.2.size, fun k hk hne => HP8.out.2.2.block k hk hne⟩ (fun _ _ h => h)) ?_
    refine wpAnyH_done (by kernel_rfl) (NoPanic.normal ?_) _
    have H8 := show Hid (RowAt w8 base g (st ++ [⟨id, c, false, []⟩]) ⟨.slice va m6 vc, D.gm, D.vs ++ [.slice none 0 0]⟩ ∧ KeptF (fun b => b = D.gm) w7 w8) from ⟨(H7.out.1.after (After.drew (After.refl w7))).turn (H7.out.2.1.same rfl) HP8.out.2.2 HP8.out.2.1, (KeptF.of_after (F := fun b => b = D.gm) (After.drew (After.refl w7))).trans ⟨HP8.out.2.2.os, HP8.out.2.2.tape, HP8.out.2.2.output, HP8.out.2.2.size, fun k hk hne => HP8.out.2.2.block k hk hne⟩ (fun _ _ h => h)⟩
    have HX8 : Hid (RowIs w8 w.heap.size 37 (idc af)) := H8.out.2.row HX7.out.1 (H7.out.2.1.ne HX7.out.1)
    have HB8 : Hid (RowIs w8 g 75 [.slice va m6 vc, .map (some D.gm)]) := H8.out.1.box
    have HNF : Hid (¬ FootS ⟨.slice va m6 vc, D.gm, D.vs ++ [.slice none 0 0]⟩ w.heap.size ∧ ¬ FootS ⟨.slice va m6 vc, D.gm, D.vs ++ [.slice none 0 0]⟩ g ∧ ¬ FootS ⟨.slice va m6 vc, D.gm, D.vs ++ [.slice none 0 0]⟩ D.gm) := H8.out.1.notS HX8.out (by decide) (by decide)
    clear hS1
    go_simp
    go_wp2_with fail
    refine wp_region_noPanic ?_
    refine wp_region_held_drew (S := KeptF (FootS ⟨.slice va m6 vc, D.gm, D.vs ++ [.slice none 0 0]⟩) w8) (by kernel_rfl) (KeptF.of_after (After.drew (After.refl _))) ?_
    intro hS2
    refine tk 0 62 (.pointer (some ⟨g, 0, none⟩)) (fuel := 8) rfl (by kernel_rfl) (by kernel_rfl) (by kernel_rfl) (by kernel_rfl) noPanic_false (by kernel_rfl) (fun _ _ => by kernel_rfl) hS2 ?_
    refine tk 1 63 (pv n) (fuel := 7) rfl (by kernel_rfl) (by kernel_rfl) (by kernel_rfl) (by kernel_rfl) noPanic_false (by kernel_rfl) (fun _ _ => by kernel_rfl) hS2 ?_
    refine tk 2 64 (.pointer (some ⟨g, 0, none⟩)) (fuel := 6) rfl (by kernel_rfl) (by kernel_rfl) (by kernel_rfl) (by kernel_rfl) noPanic_false (by kernel_rfl) (fun _ _ => by kernel_rfl) hS2 ?_
    refine tk 3 65 (.pointer (some ⟨g, 0, none⟩)) (fuel := 5) rfl (by kernel_rfl) (by kernel_rfl) (by kernel_rfl) (by kernel_rfl) noPanic_false (by kernel_rfl) (fun _ _ => by kernel_rfl) hS2 ?_
    refine tk 4 66 (.pointer (some ⟨g, 1, none⟩)) (fuel := 4) rfl (by kernel_rfl) (by kernel_rfl) (by kernel_rfl) (by kernel_rfl) noPanic_false (by kernel_rfl) (fun _ _ => by kernel_rfl) hS2 ?_
    refine tk 5 67 (.map (some D.gm)) (fuel := 3) rfl (by kernel_rfl) (by kernel_rfl) (by kernel_rfl) (by kernel_rfl) noPanic_false (by kernel_rfl) (fun W hW => x_loadT (x := .tmp 66) (t := 73) (g := g) (j := 1) Try.underlying73 rfl (by kernel_rfl) (by kernel_rfl) ((hW.row HB8.out HNF.out.2.1).cell (j := 1) rfl)) hS2 ?_
    refine tk 6 68 (idv af) (fuel := 2) rfl (by kernel_rfl) (by kernel_rfl) (by kernel_rfl) (by kernel_rfl) noPanic_false (by kernel_rfl) (fun W hW => x_ldid (x := .tmp 5) (g := w.heap.size) HOK.out.1 (by kernel_rfl) (by kernel_rfl) (hW.row HX8.out HNF.out.1)) hS2 ?_
    refine tk 7 69 (pv q) (fuel := 1) rfl (by kernel_rfl) (by kernel_rfl) (by kernel_rfl) (by kernel_rfl) noPanic_false (by kernel_rfl) (fun W hW => by rw [← HPL.out.2.1]; exact x_look (m := .tmp 67) (x := .tmp 68) (b := D.gm) HOK.out.1 (by kernel_rfl) (by kernel_rfl) (by kernel_rfl) (H8.out.1.mp.same (hW.block _ H8.out.1.mp.lt HNF.out.2.2))) hS2 ?_
    refine tkCallZ 8 70 42 #[.pointer (some ⟨g, 0, none⟩), pv n, pv q] (fun v w' => ∃ D', RowAt w' base g (insS st q s id c) D' ∧ (∀ k, Foot g D' k → Foot g ⟨.slice va m6 vc, D.gm, D.vs ++ [.slice none 0 0]⟩ k ∨ w8.drew.heap.size ≤ k) ∧ KeptF (FootS ⟨.slice va m6 vc, D.gm, D.vs ++ [.slice none 0 0]⟩) w8.drew w') (fuel := 0) rfl (by kernel_rfl) (by kernel_rfl) (by kernel_rfl) (fun _ => by kernel_rfl) (HHG.out w8.drew _ (H8.out.1.after (After.drew (After.refl w8)))) ?_
    intro v9 w9 h9
    obtain ⟨D9, h9a, h9b, h9c⟩ := h9
    have hk9 : KeptF (FootS ⟨.slice va m6 vc, D.gm, D.vs ++ [.slice none 0 0]⟩) w8 w9 := (KeptF.of_after (After.drew (After.refl w8))).trans h9c (fun _ _ h => h)
    refine ⟨hk9, ?_⟩
    refine wpAnyH_done (by kernel_rfl) (NoPanic.normal ?_) _
    have hf1 : ∀ k, Foot g D9 k → Foot g D k ∨ w.heap.size ≤ k := fun k hk => by
      rcases h9b k hk with h | h
      · exact (H7.out.2.2.2 k h).imp (fun h => h) (fun h => Nat.le_trans (Below.size HWZ.out) h)
      · exact .inr (Nat.le_trans (Below.size HWZ.out) (Nat.le_trans H7.out.2.2.1.size (Nat.le_trans H8.out.2.size h)))
    have hf2 : KeptF (Foot g D) w w9 := by
      refine (((KeptF.of_after (F := Foot g D) HWZ.out).trans H7.out.2.2.1 (fun x _ h => ?_)).trans H8.out.2 (fun x _ h => ?_)).trans hk9 (fun x hx h => ?_)
      · rcases h with h | h
        · exact .inr (.inl h)
        · exact .inl h
      · exact .inr (.inr (.inl h))
      · rcases H7.out.2.2.2 x h.foot with h | h
        · exact h
        · exact absurd (Nat.lt_of_lt_of_le hx (Below.size HWZ.out)) (by omega)
    have H9 := show Hid (RowAt w9 base g (insS st q s id c) D9 ∧ (∀ k, Foot g D9 k → Foot g D k ∨ w.heap.size ≤ k) ∧ KeptF (Foot g D) w w9) from ⟨h9a, hf1, hf2⟩
    clear hS2 hk9 h9a h9b h9c hf1 hf2
    go_simp
    go_wp2_with fail
    go_ret
    exact ⟨rfl, D9, H9.out⟩
  · refine opVal 9 52 (.slice (some ⟨wz.drew.heap.size, 0, none⟩) 1 1) (wz.drew.alloc (.cells (scell ⟨id, c, false, []⟩ (.slice none 0 0)).toArray 88)) rfl (by kernel_rfl) (by kernel_rfl) (x_bs72 (x := .tmp 51) (scell_len (s := ⟨id, c, false, []⟩) HOK.out.2 _) (by kernel_rfl) (by kernel_rfl)) ?_
    refine ⟨KeptF.of_after (after_alloc (After.drew (After.refl wz)) _), ?_⟩
    refine tkRunS 4 47 (.slice (some ⟨gs, 0, none⟩) n cap) (wz.drew.alloc (.cells (scell ⟨id, c, false, []⟩ (.slice none 0 0)).toArray 88)) (fuel := 4) rfl (by kernel_rfl) (by kernel_rfl) (by kernel_rfl) (x_loadT (x := .tmp 46) (t := 72) (g := g) (j := 0) Try.underlying72 rfl (by kernel_rfl) (by kernel_rfl) ((HBX.out.1.alloc _).cell rfl)) (KeptF.of_after (after_alloc (After.drew (After.refl wz)) _)) ?_
    obtain ⟨va, m6, vc, w6, hrun6, ho6, hg6, hl6⟩ := HAP.out
    have hk6 : KeptF (fun b => D.sv.ownBlock = some b ∨ b = g) wz w6 := (KeptF.of_after (after_alloc (After.drew (After.refl wz)) _)).trans (KeptF.of_grown (F := fun b => D.sv.ownBlock = some b ∨ b = g) hg6 (fun b hb => .inl hb)) (fun _ _ h => h)
    refine tkRunS 10 53 (.slice va m6 vc) w6 (fuel := 3) rfl (by kernel_rfl) (by kernel_rfl) (by kernel_rfl) (x_app72 (s := .tmp 47) (x := .tmp 52) (by kernel_rfl) (by kernel_rfl) (by kernel_rfl) hrun6) hk6 ?_
    refine tk 11 54 (.pointer (some ⟨g, 0, none⟩)) (fuel := 2) rfl (by kernel_rfl) (by kernel_rfl) (by kernel_rfl) (by kernel_rfl) noPanic_false (by kernel_rfl) (fun _ _ => by kernel_rfl) hk6 ?_
    refine tk 12 55 (.pointer (some ⟨g, 0, none⟩)) (fuel := 1) rfl (by kernel_rfl) (by kernel_rfl) (by kernel_rfl) (by kernel_rfl) noPanic_false (by kernel_rfl) (fun _ _ => by kernel_rfl) hk6 ?_
    have HSN := HR5.out.snoc (s := ⟨id, c, false, []⟩) HOK.out.2 rfl ho6 hg6 hl6
    have hg7 : RowIs w6 g 75 [.slice (some ⟨gs, 0, none⟩) n cap, .map (some D.gm)] := by
      unfold RowIs
      rw [hg6.block g (HR5.out.box.lt) (fun e => HGS.out e.symm)]
      have := HR5.out.box
      rw [HSV.out] at this
      exact this
    refine tkStoreS 13 (w6.setCell ⟨g, 0, none⟩ (.slice va m6 vc)) (fuel := 0) rfl (by kernel_rfl) (by kernel_rfl) (by kernel_rfl) (x_st72 (x := .tmp 55) (y := .tmp 53) (by kernel_rfl) (by kernel_rfl) (by kernel_rfl) (hg7.cell (j := 0) rfl) (hg7.frozen 0)) ((KeptF.of_after (after_alloc (After.drew (After.refl wz)) _)).trans HSN.2.2.1 (fun _ _ h => h)) ?_
    refine wpAnyH_done (by kernel_rfl) (NoPanic.normal ?_) _
    have H7 := show Hid (RowNM (w6.setCell ⟨g, 0, none⟩ (.slice va m6 vc)) base g (st ++ [⟨id, c, false, []⟩]) ⟨.slice va m6 vc, D.gm, D.vs ++ [.slice none 0 0]⟩ ∧ MapAt (w6.setCell ⟨g, 0, none⟩ (.slice va m6 vc)) D.gm st ∧ KeptF (fun b => D.sv.ownBlock = some b ∨ b = g) wz (w6.setCell ⟨g, 0, none⟩ (.slice va m6 vc)) ∧ (∀ k, Foot g ⟨.slice va m6 vc, D.gm, D.vs ++ [.slice none 0 0]⟩ k → Foot g D k ∨ wz.heap.size ≤ k)) from ⟨HSN.1, HSN.2.1, (KeptF.of_after (after_alloc (After.drew (After.refl wz)) _)).trans HSN.2.2.1 (fun _ _ h => h), fun k hk => (HSN.2.2.2 k hk).imp (fun h => h) (fun h => Nat.le_trans (by rw [World.size_alloc]; exact Nat.le_succ wz.heap.size) h)⟩
    generalize hw7 : w6.setCell ⟨g, 0, none⟩ (.slice va m6 vc) = w7 at H7 ⊢
    clear hw7 HSN hg7 hk6 hrun6 ho6 hg6 hl6 hS0
    have HX7 : Hid (RowIs w7 w.heap.size 37 (idc af) ∧ RowIs w7 (w.heap.size + 1) 37 (idc id)) := ⟨H7.out.2.2.1.row HBX.out.2.2.1.1 HBX.out.2.2.1.2, H7.out.2.2.1.row HBX.out.2.1 HBX.out.2.2.2⟩
    obtain ⟨w8, hrun8, hm8, hb8⟩ := MapAt.put (s := ⟨id, c, false, []⟩) (W := w7.drew) (H7.out.2.1.same rfl) HPOS.out HOK.out.2 HPL.out.1 HSM.out
    have HP8 := show Hid ((Instr.mapUpdate 73 (.map (some D.gm)) (idv id) (pv st.length)).run Try.prog w7.drew = .ok () w8 ∧ MapAt w8 D.gm (st ++ [⟨id, c, false, []⟩]) ∧ But D.gm w7.drew w8) from ⟨hrun8, hm8, hb8⟩
    clear hrun8 hm8 hb8
    go_simp
    go_wp2_with fail
    refine wp_region_noPanic ?_
    refine wp_region_held_drew (S := KeptF (fun b => b = D.gm) w7) (by kernel_rfl) (KeptF.of_after (After.drew (After.refl _))) ?_
    intro hS1
    refine tk 0 56 (.pointer (some ⟨g, 0, none⟩)) (fuel := 6) rfl (by kernel_rfl) (by kernel_rfl) (by kernel_rfl) (by kernel_rfl) noPanic_false (by kernel_rfl) (fun _ _ => by kernel_rfl) hS1 ?_
    refine tk 1 57 (.pointer (some ⟨g, 0, none⟩)) (fuel := 5) rfl (by kernel_rfl) (by kernel_rfl) (by kernel_rfl) (by kernel_rfl) noPanic_false (by kernel_rfl) (fun _ _ => by kernel_rfl) hS1 ?_
    refine tk 2 58 (.pointer (some ⟨g, 1, none⟩)) (fuel := 4) rfl (by kernel_rfl) (by kernel_rfl) (by kernel_rfl) (by kernel_rfl) noPanic_false (by kernel_rfl) (fun _ _ => by kernel_rfl) hS1 ?_
    refine tk 3 59 (.map (some D.gm)) (fuel := 3) rfl (by kernel_rfl) (by kernel_rfl) (by kernel_rfl) (by kernel_rfl) noPanic_false (by kernel_rfl) (fun W hW => x_loadT (x := .tmp 58) (t := 73) (g := g) (j := 1) Try.underlying73 rfl (by kernel_rfl) (by kernel_rfl) ((hW.row H7.out.1.box (H7.out.2.1.ne H7.out.1.box)).cell (j := 1) rfl)) hS1 ?_
    refine tk 4 60 (idv id) (fuel := 2) rfl (by kernel_rfl) (by kernel_rfl) (by kernel_rfl) (by kernel_rfl) noPanic_false (by kernel_rfl) (fun W hW => x_ldid (x := .tmp 6) (g := w.heap.size + 1) HOK.out.2 (by kernel_rfl) (by kernel_rfl) (hW.row HX7.out.2 (H7.out.2.1.ne HX7.out.2))) hS1 ?_
    refine tk 5 61 (pv n) (fuel := 1) rfl (by kernel_rfl) (by kernel_rfl) (by kernel_rfl) (by kernel_rfl) noPanic_false (by kernel_rfl) (fun _ _ => by kernel_rfl) hS1 ?_
    refine tkStoreS 6 (w8) (fuel := 0) rfl (by kernel_rfl) (by kernel_rfl) (by kernel_rfl) (x_mput (m := .tmp 59) (x := .tmp 60) (y := .tmp 61) (p := n) (by kernel_rfl) (by kernel_rfl) (by kernel_rfl) (by kernel_rfl) (by have := HP8.out.1; rw [HLN.out] at this; exact this)) ((KeptF.of_after (F := fun b => b = D.gm) (After.drew (After.refl w7))).trans ⟨HP8.out.2.2.os, HP8.out.2.2.tape, HP8.out.2.2.output, HP8.out.2.2.size, fun k hk hne => HP8.out.2.2.block k hk hne⟩ (fun _ _ h => h)) ?_
    refine wpAnyH_done (by kernel_rfl) (NoPanic.normal ?_) _
    have H8 := show Hid (RowAt w8 base g (st ++ [⟨id, c, false, []⟩]) ⟨.slice va m6 vc, D.gm, D.vs ++ [.slice none 0 0]⟩ ∧ KeptF (fun b => b = D.gm) w7 w8) from ⟨(H7.out.1.after (After.drew (After.refl w7))).turn (H7.out.2.1.same rfl) HP8.out.2.2 HP8.out.2.1, (KeptF.of_after (F := fun b => b = D.gm) (After.drew (After.refl w7))).trans ⟨HP8.out.2.2.os, HP8.out.2.2.tape, HP8.out.2.2.output, HP8.out.2.2.size, fun k hk hne => HP8.out.2.2.block k hk hne⟩ (fun _ _ h => h)⟩
    have HX8 : Hid (RowIs w8 w.heap.size 37 (idc af)) := H8.out.2.row HX7.out.1 (H7.out.2.1.ne HX7.out.1)
    have HB8 : Hid (RowIs w8 g 75 [.slice va m6 vc, .map (some D.gm)]) := H8.out.1.box
    have HNF : Hid (¬ FootS ⟨.slice va m6 vc, D.gm, D.vs ++ [.slice none 0 0]⟩ w.heap.size ∧ ¬ FootS ⟨.slice va m6 vc, D.gm, D.vs ++ [.slice none 0 0]⟩ g ∧ ¬ FootS ⟨.slice va m6 vc, D.gm, D.vs ++ [.slice none 0 0]⟩ D.gm) := H8.out.1.notS HX8.out (by decide) (by decide)
    clear hS1
    go_simp
    go_wp2_with fail
    refine wp_region_noPanic ?_
    refine wp_region_held_drew (S := KeptF (FootS ⟨.slice va m6 vc, D.gm, D.vs ++ [.slice none 0 0]⟩) w8) (by kernel_rfl) (KeptF.of_after (After.drew (After.refl _))) ?_
    intro hS2
    refine tk 0 62 (.pointer (some ⟨g, 0, none⟩)) (fuel := 8) rfl (by kernel_rfl) (by kernel_rfl) (by kernel_rfl) (by kernel_rfl) noPanic_false (by kernel_rfl) (fun _ _ => by kernel_rfl) hS2 ?_
    refine tk 1 63 (pv n) (fuel := 7) rfl (by kernel_rfl) (by kernel_rfl) (by kernel_rfl) (by kernel_rfl) noPanic_false (by kernel_rfl) (fun _ _ => by kernel_rfl) hS2 ?_
    refine tk 2 64 (.pointer (some ⟨g, 0, none⟩)) (fuel := 6) rfl (by kernel_rfl) (by kernel_rfl) (by kernel_rfl) (by kernel_rfl) noPanic_false (by kernel_rfl) (fun _ _ => by kernel_rfl) hS2 ?_
    refine tk 3 65 (.pointer (some ⟨g, 0, none⟩)) (fuel := 5) rfl (by kernel_rfl) (by kernel_rfl) (by kernel_rfl) (by kernel_rfl) noPanic_false (by kernel_rfl) (fun _ _ => by kernel_rfl) hS2 ?_
    refine tk 4 66 (.pointer (some ⟨g, 1, none⟩)) (fuel := 4) rfl (by kernel_rfl) (by kernel_rfl) (by kernel_rfl) (by kernel_rfl) noPanic_false (by kernel_rfl) (fun _ _ => by kernel_rfl) hS2 ?_
    refine tk 5 67 (.map (some D.gm)) (fuel := 3) rfl (by kernel_rfl) (by kernel_rfl) (by kernel_rfl) (by kernel_rfl) noPanic_false (by kernel_rfl) (fun W hW => x_loadT (x := .tmp 66) (t := 73) (g := g) (j := 1) Try.underlying73 rfl (by kernel_rfl) (by kernel_rfl) ((hW.row HB8.out HNF.out.2.1).cell (j := 1) rfl)) hS2 ?_
    refine tk 6 68 (idv af) (fuel := 2) rfl (by kernel_rfl) (by kernel_rfl) (by kernel_rfl) (by kernel_rfl) noPanic_false (by kernel_rfl) (fun W hW => x_ldid (x := .tmp 5) (g := w.heap.size) HOK.out.1 (by kernel_rfl) (by kernel_rfl) (hW.row HX8.out HNF.out.1)) hS2 ?_
    refine tk 7 69 (pv q) (fuel := 1) rfl (by kernel_rfl) (by kernel_rfl) (by kernel_rfl) (by kernel_rfl) noPanic_false (by kernel_rfl) (fun W hW => by rw [← HPL.out.2.1]; exact x_look (m := .tmp 67) (x := .tmp 68) (b := D.gm) HOK.out.1 (by kernel_rfl) (by kernel_rfl) (by kernel_rfl) (H8.out.1.mp.same (hW.block _ H8.out.1.mp.lt HNF.out.2.2))) hS2 ?_
    refine tkCallZ 8 70 42 #[.pointer (some ⟨g, 0, none⟩), pv n, pv q] (fun v w' => ∃ D', RowAt w' base g (insS st q s id c) D' ∧ (∀ k, Foot g D' k → Foot g ⟨.slice va m6 vc, D.gm, D.vs ++ [.slice none 0 0]⟩ k ∨ w8.drew.heap.size ≤ k) ∧ KeptF (FootS ⟨.slice va m6 vc, D.gm, D.vs ++ [.slice none 0 0]⟩) w8.drew w') (fuel := 0) rfl (by kernel_rfl) (by kernel_rfl) (by kernel_rfl) (fun _ => by kernel_rfl) (HHG.out w8.drew _ (H8.out.1.after (After.drew (After.refl w8)))) ?_
    intro v9 w9 h9
    obtain ⟨D9, h9a, h9b, h9c⟩ := h9
    have hk9 : KeptF (FootS ⟨.slice va m6 vc, D.gm, D.vs ++ [.slice none 0 0]⟩) w8 w9 := (KeptF.of_after (After.drew (After.refl w8))).trans h9c (fun _ _ h => h)
    refine ⟨hk9, ?_⟩
    refine wpAnyH_done (by kernel_rfl) (NoPanic.normal ?_) _
    have hf1 : ∀ k, Foot g D9 k → Foot g D k ∨ w.heap.size ≤ k := fun k hk => by
      rcases h9b k hk with h | h
      · exact (H7.out.2.2.2 k h).imp (fun h => h) (fun h => Nat.le_trans (Below.size HWZ.out) h)
      · exact .inr (Nat.le_trans (Below.size HWZ.out) (Nat.le_trans H7.out.2.2.1.size (Nat.le_trans H8.out.2.size h)))
    have hf2 : KeptF (Foot g D) w w9 := by
      refine (((KeptF.of_after (F := Foot g D) HWZ.out).trans H7.out.2.2.1 (fun x _ h => ?_)).trans H8.out.2 (fun x _ h => ?_)).trans hk9 (fun x hx h => ?_)
      · rcases h with h | h
        · exact .inr (.inl h)
        · exact .inl h
      · exact .inr (.inr (.inl h))
      · rcases H7.out.2.2.2 x h.foot with h | h
        · exact h
        · exact absurd (Nat.lt_of_lt_of_le hx (Below.size HWZ.out)) (by omega)
    have H9 := show Hid (RowAt w9 base g (insS st q s id c) D9 ∧ (∀ k, Foot g D9 k → Foot g D k ∨ w.heap.size ≤ k) ∧ KeptF (Foot g D) w w9) from ⟨h9a, hf1, hf2⟩
    clear hS2 hk9 h9a h9b h9c hf1 hf2
    go_simp
    go_wp2_with fail
    go_ret
    exact ⟨rfl, D9, H9.out⟩
end Go.Proofs.Ytiglenomigipmaa
