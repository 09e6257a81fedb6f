/-
  Apply (7) of the two patches of awake; awake (13).
-/
import Derived.Test.YtiihdhnmgbhgkaaPQ
namespace Go.Proofs.Ytiihdhnmgbhgkaa
open Go.RowKit Go.Maps Go.Sort Dsk
attribute [local go_sem] Oper.semAt_some
def pa1 : Px := ⟨⟨3, [116], [], 0, false, 0, 0, [97, 98], []⟩, none, 0, none, 0⟩
def pa2 : Px := ⟨⟨3, [116], [], 0, false, 1, 1, [], []⟩, none, 0, none, 0⟩
def paL : List Px := [pa1, pa2]
/-- What the draft has behind none, one or both. -/
structure ApI (w : World) (B gd me mc mt g4 gp i : Nat) (wr : World) : Prop where
  st : (i = 0 ∧ DrAt wr B gd me mc mt [] [] []) ∨ (i = 1 ∧ ∃ va vn vc, DrAt wr B gd me mc mt [] [] [([116], .agg #[.slice va vn vc, .string (strOf [])])] ∧ Own wr B (.slice va vn vc) [97, 98]) ∨ (i = 2 ∧ ∃ va vn vc, DrAt wr B gd me mc mt [] [] [([116], .agg #[.slice va vn vc, .string (strOf [])])] ∧ Own wr B (.slice va vn vc) [97])
  row : RowIs wr g4 26 [.slice none 0 0, .slice none 0 0, .slice none 0 0]
  pat : SlAt wr 9 (some ⟨gp, 0, none⟩) (paL.map pxc)
  aft : After w wr
  bs : B ≤ wr.heap.size
theorem ApI.after {w wr W : World} {B gd me mc mt g4 gp i : Nat} (h : ApI w B gd me mc mt g4 gp i wr) (ha : After wr W) : ApI w B gd me mc mt g4 gp i W := by
  refine ⟨?_, h.row.below ha h.row.lt, h.pat.after ha, h.aft.trans ha, Nat.le_trans h.bs ha.size⟩
  rcases h.st with ⟨e, h1⟩ | ⟨e, va, vn, vc, h1, h2⟩ | ⟨e, va, vn, vc, h1, h2⟩
  · exact .inl ⟨e, h1.after ha⟩
  · exact .inr (.inl ⟨e, va, vn, vc, h1.after ha, h2.below ha (Nat.le_refl _)⟩)
  · exact .inr (.inr ⟨e, va, vn, vc, h1.after ha, h2.below ha (Nat.le_refl _)⟩)
theorem SlAt.kept {F : Nat → Prop} {W W' : World} {k : Nat} {gp o : Nat} {L : List (List Value)} (h : SlAt W k (some ⟨gp, o, none⟩) L) (hk : KeptF F W W') (hF : ¬ F gp) : SlAt W' k (some ⟨gp, o, none⟩) L := ⟨h.1, fun hn => by
  obtain ⟨b, o', e, hr⟩ := h.2 hn
  cases e
  exact ⟨_, _, rfl, fun j v hv => by rw [World.cell?_of_block (w := W) (hk.block gp (World.block_lt_of_cell? W _ (hr j v hv)) hF)]; exact hr j v hv⟩⟩
/-- One patch is done. -/
theorem ap_step {w wr : World} {B gd me mc mt g4 gp i : Nat} (h : ApI w B gd me mc mt g4 gp i wr) (hi : i < 2) {x : Px} (hx : paL[i]? = some x) (hB : w.heap.size ≤ B) (h4 : g4 < B) (hgp : gp < B) :
    Calls Try.prog 16 #[.pointer (some ⟨gd, 0, none⟩), .agg (pxc x).toArray] wr fun e w' => e = .returned (.int .i64 0) ∧ ApI w B gd me mc mt g4 gp (i + 1) w' := by
  have fin : ∀ {w' : World}, KeptF (fun j => B ≤ j) wr w' → RowIs w' g4 26 [.slice none 0 0, .slice none 0 0, .slice none 0 0] ∧ SlAt w' 9 (some ⟨gp, 0, none⟩) (paL.map pxc) ∧ After w w' ∧ B ≤ w'.heap.size := fun {w'} hk =>
    ⟨hk.row h.row (by omega), h.pat.kept hk (by omega), Below.trans h.aft (hk.below h.aft.size (fun _ hx => by omega)), Nat.le_trans h.bs hk.size⟩
  rcases h.st with ⟨e, h1⟩ | ⟨e, va, vn, vc, h1, h2⟩ | ⟨e, va, vn, vc, h1, h2⟩
  · subst e
    have e2 : x = pa1 := by have : paL[0]? = some pa1 := rfl; rw [this] at hx; exact (Option.some.inj hx).symm
    subst e2
    refine Calls.mono (apply16_text h1 (x := pa1) (ao := none) (n := 0) (c := 0) (k := 0) (q := 0) (a := []) (b := []) rfl (Own.nil wr B) h.bs rfl (by decide) (by decide) rfl rfl rfl (by decide) (by decide) (by decide) (by decide) (by decide)) (fun e w' ⟨va, vn, vc, he, hd, ho, hk⟩ => ⟨he, ?_⟩)
    obtain ⟨f1, f2, f3, f4⟩ := fin hk
    exact ⟨.inr (.inl ⟨rfl, va, vn, vc, hd, ho⟩), f1, f2, f3, f4⟩
  · subst e
    have e2 : x = pa2 := by have : paL[1]? = some pa2 := rfl; rw [this] at hx; exact (Option.some.inj hx).symm
    subst e2
    refine Calls.mono (apply16_text h1 (x := pa2) (ao := va) (n := vn) (c := vc) (k := 1) (q := 1) (a := [97, 98]) (b := []) rfl h2 h.bs rfl (by decide) (by decide) rfl rfl rfl (by decide) (by decide) (by decide) (by simp) (by decide)) (fun e w' ⟨va2, vn2, vc2, he, hd, ho, hk⟩ => ⟨he, ?_⟩)
    obtain ⟨f1, f2, f3, f4⟩ := fin hk
    exact ⟨.inr (.inr ⟨rfl, va2, vn2, vc2, hd, ho⟩), f1, f2, f3, f4⟩
  · omega
theorem ret26t {fn : Func} {p q : Tmp} (h : fn.results = #[.cell p 26, .tmp q]) (tmps : Array Value) (w : World) (g : Nat) (u v z r : Value) (hp : tmps.getD p undef = .pointer (some ⟨g, 0, none⟩)) (hg : RowIs w g 26 [u, v, z]) (hq : tmps.getD q undef = r) : (results fn tmps).run Try.prog w = .ok (.tuple #[.agg #[u, v, z], r]) w := by
  have hp' : tmps[p]?.getD undef = .pointer (some ⟨g, 0, none⟩) := by simpa using hp
  have hq' : tmps[q]?.getD undef = r := by simpa using hq
  simp [results, h, hp', hq', asAddr, run_loadVar_row w g 26 26 #[u, v, z] (0, 0) _ hg Try.underlying26 rfl (size26 u v z)]
set_option maxRecDepth 100000 in
set_option maxHeartbeats 12800000 in
theorem apply7_two {w : World} {gp : Nat} (hp : SlAt w 9 (some ⟨gp, 0, none⟩) (paL.map pxc)) (hgp : gp < w.heap.size) :
    Calls Try.prog 7 #[.agg #[.slice none 0 0, .slice none 0 0, .slice none 0 0], .slice (some ⟨gp, 0, none⟩) 2 2] w fun e w' => ∃ ta tc, e = .returned (.tuple #[.agg #[.slice none 0 0, .slice none 0 0, .slice ta 1 tc], .int .i64 0]) ∧ SlAt w' 2 ta [[.string (strOf [116]), .string (strOf [97])]] ∧ After w w' := by
  obtain ⟨W0, hW0⟩ : ∃ W0, w.alloc (.cells #[.slice none 0 0, .slice none 0 0, .slice none 0 0] 26) = W0 := ⟨_, rfl⟩
  obtain ⟨W1, hW1⟩ : ∃ W1, W0.alloc (.cells #[.slice none 0 0, .slice none 0 0, .slice none 0 0] 26) = W1 := ⟨_, rfl⟩
  obtain ⟨g2, hg2⟩ : ∃ g2, w.heap.size = g2 := ⟨_, rfl⟩
  obtain ⟨g4, hg4⟩ : ∃ g4, W0.heap.size = g4 := ⟨_, rfl⟩
  have a0 : After w W0 := by rw [← hW0]; exact after_alloc (After.refl w) _
  have a1 : After W0 W1 := by rw [← hW1]; exact after_alloc (After.refl W0) _
  have r0 : RowIs W0 g2 26 [.slice none 0 0, .slice none 0 0, .slice none 0 0] := by rw [← hW0, ← hg2]; exact RowIs.new w 26 _
  have r1 : RowIs W1 g4 26 [.slice none 0 0, .slice none 0 0, .slice none 0 0] := by rw [← hW1, ← hg4]; exact RowIs.new W0 26 _
  have HR : Hid (RowIs W1 g2 26 [.slice none 0 0, .slice none 0 0, .slice none 0 0] ∧ RowIs W1 g4 26 [.slice none 0 0, .slice none 0 0, .slice none 0 0] ∧ After w W1 ∧ SlAt W1 9 (some ⟨gp, 0, none⟩) (paL.map pxc) ∧ gp < w.heap.size ∧ w.heap.size ≤ g4) := ⟨r0.below a1 r0.lt, r1, a0.trans a1, hp.after (a0.trans a1), hgp, by rw [← hg4]; exact a0.size⟩
  have HG4 := show Hid _ from hg4
  clear hp hgp a0 a1 r0 r1
  go_enter Try.func7, Try.ntmps7
  go_wp2_with (first
    | (rw [hW0])
    | (refine wpList_of_run rfl ((x_al26 rfl).trans (by rw [hW1, HG4.out])) ?_)
    | (refine wpList_load_row rfl 26 (.tmp 2) rfl g2 rfl 26 #[.slice none 0 0, .slice none 0 0, .slice none 0 0] (0, 0) _ HR.out.1 Try.underlying26 rfl (size26 _ _ _) ?_)
    | (go_at_call 10; refine Calls.mono (check10_nil _) ?_; rintro e w3 ⟨rfl, h3⟩; have H3 := show Hid (After W1 w3 ∧ RowIs w3 g2 26 [.slice none 0 0, .slice none 0 0, .slice none 0 0]) from ⟨h3, HR.out.1.below h3 HR.out.1.lt⟩; clear h3)
    | (refine wpList_load_row rfl 26 (.tmp 2) rfl g2 rfl 26 #[.slice none 0 0, .slice none 0 0, .slice none 0 0] (0, 0) _ H3.out.2 Try.underlying26 rfl (size26 _ _ _) ?_)
    | (go_at_call 15; refine Calls.mono (draftOf15_nil _) ?_; rintro e w5 ⟨gd, me, mc, mt, rfl, hd5, h5⟩; have H5 := show Hid (ApI w w3.heap.size gd me mc mt g4 gp 0 w5 ∧ w.heap.size ≤ w3.heap.size ∧ g4 < w3.heap.size ∧ gp < w3.heap.size) from ⟨⟨.inl ⟨rfl, hd5⟩, HR.out.2.1.below (H3.out.1.trans h5) HR.out.2.1.lt, HR.out.2.2.2.1.after (H3.out.1.trans h5), HR.out.2.2.1.trans (H3.out.1.trans h5), h5.size⟩, (HR.out.2.2.1.trans H3.out.1).size, Nat.lt_of_lt_of_le HR.out.2.1.lt H3.out.1.size, Nat.lt_of_lt_of_le HR.out.2.2.2.2.1 (HR.out.2.2.1.trans H3.out.1).size⟩; clear hd5 h5))
  obtain ⟨B, hB⟩ : ∃ B, w3.heap.size = B := ⟨_, rfl⟩
  rw [hB] at H5
  clear hB
  go_loopw [21] (fun iv wr => ∃ i : Nat, i ≤ 2 ∧ iv = .int .i64 (i : Int) ∧ Hid (ApI w B gd me mc mt g4 gp i wr)) (fun iv _ => 2 - (intOf iv).toNat)
  case atStart => exact ⟨0, by omega, rfl, H5.out.1⟩
  case round =>
    obtain ⟨i, hi2, rfl, HI⟩ := hrel
    by_cases hlt : i < 2
    · have hii : (i : Int) < 2 := by omega
      obtain ⟨x, hx⟩ : ∃ x, paL[i]? = some x := ⟨_, List.getElem?_eq_getElem (by show i < 2; exact hlt)⟩
      obtain ⟨xb, xo, hxa, hxr⟩ := SlAt.at HI.out.pat (ps_get hx)
      cases hxa
      obtain ⟨W6, hW6⟩ : ∃ W6, (wr.alloc (.cells (pxc zpx).toArray 46)).setRow wr.heap.size (pxc x).toArray = W6 := ⟨_, rfl⟩
      have HP := show Hid _ from put46 hW6
      have HG6 := show Hid _ from hW6
      have HX : Hid (i < 2 ∧ wr.rangeAt gp (0 + i * 9) (pxc x)) := ⟨hlt, hxr⟩
      have HC := show Hid _ from ap_step (HI.out.after HP.out.2.2) hlt hx H5.out.2.1 H5.out.2.2.1 H5.out.2.2.2
      clear hxr hW6 hx
      go_wp2_with (first
        | (refine wpList_of_run rfl (x_idx27 (x := .tmp 19) (y := .tmp 21) (b := gp) (f := 0) (n := 2) (c := 2) (k := i) rfl (by kernel_rfl) (by kernel_rfl) HX.out.1) ?_)
        | (refine wpList_of_run rfl (x_ld46 (x := .tmp 23) (g := gp) (p := 0 + i * 9) (y := x) rfl (by kernel_rfl) HX.out.2) ?_)
        | (refine wpList_of_run rfl (x_al46 rfl) ?_)
        | (refine wpList_store_row rfl 46 (.tmp 9) (.tmp 24) rfl wr.heap.size (pxc x).toArray rfl rfl 46 _ HP.out.1 (size46 x) rfl (by simpa using pxc_one x) ?_; rw [HG6.out])
        | (refine wpList_load_row rfl 46 (.tmp 9) rfl wr.heap.size rfl 46 (pxc x).toArray (0, 0) _ HP.out.2.1 Try.underlying46 rfl (size46 x) ?_)
        | (go_at_call 16; refine Calls.mono HC.out ?_; rintro e w7 ⟨rfl, h7⟩; have H7 := show Hid _ from h7; clear h7))
      go_roundw
      case rel => exact ⟨i + 1, by omega, by go_num, H7⟩
      case measure => simp [intOf]; omega
    · obtain rfl : i = 2 := by omega
      have hst : ∃ va vn vc, DrAt wr B gd me mc mt [] [] [([116], .agg #[.slice va vn vc, .string (strOf [])])] ∧ Own wr B (.slice va vn vc) [97] := by
        rcases HI.out.st with ⟨e, _⟩ | ⟨e, _⟩ | ⟨_, h⟩
        · cases e
        · cases e
        · exact h
      obtain ⟨va, vn, vc, hd, ho⟩ := hst
      have HC := show Hid _ from doc17_one hd ho (by decide) (by decide)
      clear hd ho
      go_wp2_with (first
        | (go_at_call 17; refine Calls.mono HC.out ?_; rintro e w8 ⟨ta, tc, rfl, ho8, h8⟩; have H8 := show Hid (OwnL w8 wr.heap.size 57 2 (.slice ta 1 tc) [[.string (strOf [116]), .string (strOf [97])]] ∧ RowIs w8 g4 26 [.slice none 0 0, .slice none 0 0, .slice none 0 0] ∧ After w w8) from ⟨ho8, HI.out.row.below h8 HI.out.row.lt, HI.out.aft.trans h8⟩; clear ho8 h8)
        | (refine wpList_store_row rfl 26 (.tmp 4) (.tmp 34) rfl g4 #[.slice none 0 0, .slice none 0 0, .slice ta 1 tc] rfl rfl 26 _ H8.out.2.1 (size26 _ _ _) rfl (by simp [Value.oneCell']) ?_))
      have hg : RowIs (w8.setRow g4 #[.slice none 0 0, .slice none 0 0, .slice ta 1 tc]) g4 26 [.slice none 0 0, .slice none 0 0, .slice ta 1 tc] := H8.out.2.1.setRow _
      refine ⟨rfl, _, ret26t Try.results7 _ _ g4 _ _ _ _ rfl hg rfl, ta, tc, rfl, ?_, Below.row H8.out.2.2 HR.out.2.2.2.2.2 _⟩
      have hos := H8.out.1.same (w' := w8.setRow g4 #[.slice none 0 0, .slice none 0 0, .slice ta 1 tc]) (fun b hb => by
        obtain ⟨_, _, cs, hr⟩ := own_lt H8.out.1.2 hb
        exact Go.setRow_other _ _ _ _ (fun e => by rw [e] at hr; exact absurd (hr.ty H8.out.2.1).1 (by decide)))
      obtain ⟨a', c', e', hs⟩ := hos.sl
      injection e' with e1 _ _
      rw [← e1] at hs; exact hs
section
variable {oi : Oper} {a : Act} {w : World}
theorem x_bld26 (hop : oi.op = .build 26 #[]) : (execOp a.eval oi).run Try.prog w = .ok (.value (.agg #[.slice none 0 0, .slice none 0 0, .slice none 0 0])) w := by
  have h := run_build (P := Try.prog) w 26 #[] #[.slice none 0 0, .slice none 0 0, .slice none 0 0] (by kernel_rfl)
  unfold execOp
  simp only [hop]
  simp [h]
theorem x_pa1 (hop : oi.op = .build 46 #[(0, .const (.int .i64 3)), (1, .const (.string ⟨#[116]⟩)), (7, .const (.string ⟨#[97, 98]⟩))]) : (execOp a.eval oi).run Try.prog w = .ok (.value (.agg (pxc pa1).toArray)) w := by
  have h := run_build (P := Try.prog) w 46 #[(0, .int .i64 3), (1, .string ⟨#[116]⟩), (7, .string ⟨#[97, 98]⟩)] (pxc pa1).toArray (by kernel_rfl)
  unfold execOp
  simp only [hop]
  simp only [List.map_toArray, List.map_cons, List.map_nil, Act.eval, Sem.run_bind, h, Result.andThen_ok]
  rfl
theorem x_pa2 (hop : oi.op = .build 46 #[(0, .const (.int .i64 3)), (1, .const (.string ⟨#[116]⟩)), (5, .const (.int .i64 1)), (6, .const (.int .i64 1))]) : (execOp a.eval oi).run Try.prog w = .ok (.value (.agg (pxc pa2).toArray)) w := by
  have h := run_build (P := Try.prog) w 46 #[(0, .int .i64 3), (1, .string ⟨#[116]⟩), (5, .int .i64 1), (6, .int .i64 1)] (pxc pa2).toArray (by kernel_rfl)
  unfold execOp
  simp only [hop]
  simp only [List.map_toArray, List.map_cons, List.map_nil, Act.eval, Sem.run_bind, h, Result.andThen_ok]
  rfl
theorem x_bsL {x y : Operand} (hop : oi.op = .buildSlice 27 2 #[(0, x), (1, y)]) (hx : a.eval x = .agg (pxc pa1).toArray) (hy : a.eval y = .agg (pxc pa2).toArray) : (execOp a.eval oi).run Try.prog w = .ok (.value (.slice (some ⟨w.heap.size, 0, none⟩) 2 2)) (w.alloc (.cells (pxc pa1 ++ pxc pa2).toArray 46)) := by
  have hb : (Instr.buildSlice 27 2 #[(0, .agg (pxc pa1).toArray), (1, .agg (pxc pa2).toArray)]).run Try.prog w = .ok (.slice (some ⟨w.heap.size, 0, none⟩) 2 2) (w.alloc (.cells (pxc pa1 ++ pxc pa2).toArray 46)) := by kernel_rfl
  unfold execOp
  simp [hop, hx, hy, hb]
theorem x_ld57 {x : Operand} {g p : Nat} {s t : ByteArray} (hop : oi.op = .load 57 x) (hx : a.eval x = .pointer (some ⟨g, p, none⟩)) (hc : w.rangeAt g p [.string s, .string t]) : (execOp a.eval oi).run Try.prog w = .ok (.value (.agg #[.string s, .string t])) w := by
  have hi : (Try.prog.info? 57).map (·.size) = some ([.string s, .string t] : List Value).length := by show _ = some 2; kernel_rfl
  unfold execOp
  simp only [hop, hx, Instr.loadAt, Instr.sureAddr, Sem.run_bind, Sem.run_pure, Result.andThen_ok, run_loadVar_mid w g p 57 [.string s, .string t] _ hc Try.underlying57 rfl hi]
end
set_option maxRecDepth 100000 in
set_option maxHeartbeats 12800000 in
theorem awake13 (w : World) : Calls Try.prog 13 #[] w fun e w' => e = .returned (.bool true) ∧ After w w' := by
  obtain ⟨W0, hW0⟩ : ∃ W0, w.alloc (.cells (pxc pa1 ++ pxc pa2).toArray 46) = W0 := ⟨_, rfl⟩
  obtain ⟨gp, hgp⟩ : ∃ gp, w.heap.size = gp := ⟨_, rfl⟩
  have a0 : After w W0 := by rw [← hW0]; exact after_alloc (After.refl w) _
  have r0 : RowIs W0 gp 46 (pxc pa1 ++ pxc pa2) := by rw [← hW0, ← hgp]; exact RowIs.new w 46 _
  have hsl : SlAt W0 9 (some ⟨gp, 0, none⟩) (paL.map pxc) := ⟨fun u hu => by obtain ⟨q, _, rfl⟩ := List.mem_map.1 hu; rfl, fun _ => ⟨_, _, rfl, fun j v hv => by rw [Nat.zero_add]; exact r0.cell hv⟩⟩
  have HC := show Hid _ from apply7_two hsl r0.lt
  have HA : Hid (After w W0) := a0
  have HGP := show Hid _ from hgp
  clear a0 r0 hsl
  go_enter Try.func13, Try.ntmps13
  go_wp2_with (first
    | (refine wpList_of_run rfl (x_bld26 rfl) ?_)
    | (refine wpList_of_run rfl (x_pa1 rfl) ?_)
    | (refine wpList_of_run rfl (x_pa2 rfl) ?_)
    | (refine wpList_of_run rfl ((x_bsL (x := .tmp 5) (y := .tmp 6) rfl (by kernel_rfl) (by kernel_rfl)).trans (by rw [hW0, HGP.out])) ?_)
    | (go_at_call 7; refine Calls.mono HC.out ?_; rintro e w2 ⟨ta, tc, rfl, hs2, h2⟩; have H2 := show Hid (SlAt w2 2 ta [[.string (strOf [116]), .string (strOf [97])]] ∧ After W0 w2) from ⟨hs2, h2⟩; clear hs2 h2; apply of_stop))
  unfold Stp
  obtain ⟨b2, o2, hta, hr2⟩ := SlAt.at H2.out.1 (i := 0) (x := [.string (strOf [116]), .string (strOf [97])]) rfl
  subst hta
  obtain ⟨W3, hW3⟩ : ∃ W3, (w2.alloc (.cells #[.slice none 0 0, .slice none 0 0, .slice none 0 0] 26)).setRow w2.heap.size #[.slice none 0 0, .slice none 0 0, .slice (some ⟨b2, o2, none⟩) 1 tc] = W3 := ⟨_, rfl⟩
  have HZ : Hid (RowIs (w2.alloc (.cells #[.slice none 0 0, .slice none 0 0, .slice none 0 0] 26)) w2.heap.size 26 [.slice none 0 0, .slice none 0 0, .slice none 0 0]) := RowIs.new w2 26 _
  have a3 : After w2 W3 := by rw [← hW3]; exact Below.row (after_alloc (After.refl w2) _) (Nat.le_refl _) _
  have r3 : RowIs W3 w2.heap.size 26 [.slice none 0 0, .slice none 0 0, .slice (some ⟨b2, o2, none⟩) 1 tc] := by rw [← hW3]; exact HZ.out.setRow _
  have c2 := r3.cell (j := 2) rfl
  have H3 : Hid (W3.rangeAt b2 (o2 + 0 * 2) [.string (strOf [116]), .string (strOf [97])] ∧ After w W3) := ⟨range_after hr2 a3, (HA.out.trans H2.out.2).trans a3⟩
  have HG3 := show Hid _ from hW3
  clear hr2 a3 r3 hW3
  have t1 : (strOf [116]).toList = [116] := strOf_toList _
  have t2 : (strOf [97]).toList = [97] := strOf_toList _
  go_wp2_with (first
    | (refine wpList_of_run rfl (x_al26 rfl) ?_)
    | (refine wpList_store_row rfl 26 (.tmp 1) (.tmp 9) rfl w2.heap.size #[.slice none 0 0, .slice none 0 0, .slice (some ⟨b2, o2, none⟩) 1 tc] rfl rfl 26 _ HZ.out (size26 _ _ _) rfl (by simp [Value.oneCell']) ?_; rw [HG3.out])
    | (refine wpListG_of_run (by kernel_rfl) (x_idx24 (x := .tmp 21) (y := .const (.int .i64 0)) (b := b2) (f := o2) (n := 1) (c := tc) (k := 0) rfl (by kernel_rfl) (by kernel_rfl) (by decide)) ?_)
    | (refine wpListG_of_run (by kernel_rfl) (x_ld57 (x := .tmp 22) (g := b2) (p := o2 + 0 * 2) (s := strOf [116]) (t := strOf [97]) rfl (by kernel_rfl) H3.out.1) ?_))
  go_ret
  exact ⟨rfl, H3.out.2⟩
end Go.Proofs.Ytiihdhnmgbhgkaa
