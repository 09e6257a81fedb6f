/-
  THE WALK OF stemmalaw08.ChangeGets.
-/
import Derived.Test.YtgmdolpjkaajfaaGreatDoorDE
import Derived.Test.YtgmdolpjkaajfaaGreatDoorCG
namespace Go.Proofs.YtgmdolpjkaajfaaGreatDoor
open Go.RowKit Leb
theorem after_butg {g : Nat} {a b c : World} (h : After a b) (k : But g b c) (hg : a.heap.size ≤ g) : After a c :=
  ⟨k.os.trans h.os, k.tape.trans h.tape, k.output.trans h.output, Nat.le_trans h.size k.size, fun j hj => (k.block j (Nat.lt_of_lt_of_le hj h.size) (by omega)).trans (h.block j hj)⟩
theorem chat_but {w w' : World} {x : Chg} {d p : Sl} {g : Nat} (h : ChAt w x d p) (hk : But g w w') (h1 : ∀ y, d.a = some y → y.block ≠ g) (h2 : ∀ y, p.a = some y → y.block ≠ g) : ChAt w' x d p :=
  { h with
    deps := hk.bytes h.deps h1
    ops := fun hn => by
      obtain ⟨b, o, e, hc⟩ := h.ops hn
      exact ⟨b, o, e, fun j y hj i v hv => hk.cell (p := ⟨b, o + j * 5 + i, none⟩) (show b ≠ g from h2 _ e) (hc j y hj i v hv)⟩ }
/-- A row of hashes whose bytes may have been turned. -/
def Tur (g n : Nat) (W : World) : Prop := ∃ bs : List UInt8, bs.length = n * 32 ∧ RowIs W g 38 (c8 bs)
/-- A row of operations whose kinds may have been turned. -/
def TurO (g n : Nat) (W : World) : Prop := ∃ cs : List Value, RowIs W g 46 cs ∧ ∀ i, i < n → ∃ k : Int, cs[i * 5]? = some (.int .i64 k)
/-- What was read stands in its box, with rows of its own. -/
structure GS (w w1 : World) (x : Chg) (gd go g4 dn dc pn pc : Nat) (W : World) : Prop where
  a0 : After w w1
  a1 : After w1 W
  box : RowIs W g4 25 (cc x ⟨some ⟨gd, 0, none⟩, dn, dc⟩ ⟨some ⟨go, 0, none⟩, pn, pc⟩)
  rd : Tur gd dn W
  ro : TurO go pn W
  l1 : w1.heap.size ≤ gd
  l2 : w1.heap.size ≤ go
  l3 : gd < g4
  l4 : go < g4
  ne : gd ≠ go
/-- What the reference read stands in its box, apart from it. -/
structure GY (x : Chg) (g4 g6 : Nat) (d p : Sl) (W : World) : Prop where
  box : RowIs W g6 25 (cc x d p)
  at_ : ChAt W x d p
  l1 : g4 < g6
  l2 : ∀ y, d.a = some y → g4 < y.block
  l3 : ∀ y, p.a = some y → g4 < y.block
theorem GS.after {w w1 : World} {x : Chg} {gd go g4 dn dc pn pc : Nat} {W W' : World} (h : GS w w1 x gd go g4 dn dc pn pc W) (ha : After W W') : GS w w1 x gd go g4 dn dc pn pc W' :=
  { h with
    a1 := After.trans h.a1 ha
    box := h.box.below ha h.box.lt
    rd := by obtain ⟨bs, h1, h2⟩ := h.rd; exact ⟨bs, h1, h2.below ha h2.lt⟩
    ro := by obtain ⟨cs, h1, h2⟩ := h.ro; exact ⟨cs, h1.below ha h1.lt, h2⟩ }
theorem GY.after {x : Chg} {g4 g6 : Nat} {d p : Sl} {W W' : World} (h : GY x g4 g6 d p W) (ha : After W W') : GY x g4 g6 d p W' := { h with box := h.box.below ha h.box.lt, at_ := h.at_.after ha }
theorem GY.but {x : Chg} {g4 g6 : Nat} {d p : Sl} {W W' : World} (h : GY x g4 g6 d p W) {g : Nat} (ha : But g W W') (hg : g < g4) : GY x g4 g6 d p W' :=
  { h with
    box := ha.row h.box (by have := h.l1; omega)
    at_ := chat_but h.at_ ha (fun y hy => by have := h.l2 y hy; omega) (fun y hy => by have := h.l3 y hy; omega) }
theorem GS.turn1 {w w1 : World} {x : Chg} {gd go g4 dn dc pn pc : Nat} {W W' : World} (h : GS w w1 x gd go g4 dn dc pn pc W) (ha : But gd W W') (hr : Tur gd dn W') : GS w w1 x gd go g4 dn dc pn pc W' :=
  { h with
    a1 := after_butg h.a1 ha h.l1
    box := ha.row h.box (by have := h.l3; omega)
    rd := hr
    ro := by obtain ⟨cs, h1, h2⟩ := h.ro; exact ⟨cs, ha.row h1 (fun e => h.ne e.symm), h2⟩ }
theorem GS.turn2 {w w1 : World} {x : Chg} {gd go g4 dn dc pn pc : Nat} {W W' : World} (h : GS w w1 x gd go g4 dn dc pn pc W) (ha : But go W W') (hr : TurO go pn W') : GS w w1 x gd go g4 dn dc pn pc W' :=
  { h with
    a1 := after_butg h.a1 ha h.l2
    box := ha.row h.box (by have := h.l4; omega)
    ro := hr
    rd := by obtain ⟨bs, h1, h2⟩ := h.rd; exact ⟨bs, h1, ha.row h2 h.ne⟩ }
theorem c8_set (l : List UInt8) (j : Nat) (y : UInt8) : (c8 l).set j (.int .u8 (y.toNat : Int)) = c8 (l.set j y) := by simp [c8, List.map_set]
theorem x_idx38 {oi : Oper} {a : Act} {w : World} {x y : Operand} {b f : Nat} (hop : oi.op = .indexAddr 38 x y) (hx : a.eval x = .pointer (some ⟨b, f, none⟩)) (hy : a.eval y = .int .i64 0) : (execOp a.eval oi).run Tryz.prog w = .ok (.value (.pointer (some ⟨b, f, none⟩))) w := by
  have u := Tryz.underlying38
  unfold execOp
  simp only [hop, hx, hy]
  simp [go_sem, u]
theorem x_add5 {oi : Oper} {a : Act} {w : World} {x y : Operand} {k : UInt8} (hop : oi.op = .binOp .add 5 x y 5) (hx : a.eval x = .int .u8 (k.toNat : Int)) (hy : a.eval y = .int .u8 1) : (execOp a.eval oi).run Tryz.prog w = .ok (.value (.int .u8 ((k + 1).toNat : Int))) w := by
  have e : IntKind.u8.wrap ((k.toNat : Int) + 1) = ((k + 1).toNat : Int) := by
    rw [UInt8.toNat_add]
    have := k.toNat_lt
    simp [IntKind.wrap, IntKind.bits, IntKind.signed]
  unfold execOp
  simp only [hop, hx, hy]
  simp [go_sem, e]
section
variable {ops : Array Oper} {oi : Oper} {a : Act} {w : World} {Q : Exit → Act → World → Prop} {S : World → Prop} {fuel : Nat} {listed : Array Bool}
theorem tkStoreS (i : Nat) (w' : World) (hi : ops[i]? = some oi) (hd : oi.dst = none) (hr : Region.ready .any ops listed = [i]) (hw : Region.wanted oi (yielded ops a.tmps) = true) (hrun : (execOp a.eval oi).run Tryz.prog w = .ok .skip w') (hS : S w')
    (h : wpAnyH Tryz.prog .any ops Q S fuel (listed.setIfInBounds i true) (a.put none undef) w') : wpAnyH Tryz.prog .any ops Q S (fuel + 1) listed a w :=
  wpAnyH_all hr (by simp) (fun j hj => by
    obtain rfl : j = i := by simpa using hj
    refine wpOp_step hi (fun K' hK => ?_)
    rw [if_pos hw]
    unfold Oper.wp
    rw [hrun, Oper.upon_skip, hd]
    exact hK _ _ ⟨hS, h⟩)
theorem tkRunT (i d : Nat) (v : Value) (w' : World) (hi : ops[i]? = some oi) (hd : oi.dst = some d) (hr : Region.ready .any ops listed = [i]) (hw : Region.wanted oi (yielded ops a.tmps) = true) (hrun : (execOp a.eval oi).run Tryz.prog w = .ok (.value v) w') (hS : S w')
    (h : wpAnyH Tryz.prog .any ops Q S fuel (listed.setIfInBounds i true) (a.put (some d) v) w') : wpAnyH Tryz.prog .any ops Q S (fuel + 1) listed a w :=
  wpAnyH_all hr (by simp) (fun j hj => by
    obtain rfl : j = i := by simpa using hj
    refine wpOp_step hi (fun K' hK => ?_)
    rw [if_pos hw]
    unfold Oper.wp
    rw [hrun, Oper.upon_value, hd]
    exact hK _ _ ⟨hS, h⟩)
end
theorem x_st5 {oi : Oper} {a : Act} {w : World} {x y : Operand} {g j : Nat} {u : Value} {n : Int} (hop : oi.op = .store 5 x y) (hx : a.eval x = .pointer (some ⟨g, j, none⟩)) (hy : a.eval y = .int .u8 n) (hc : w.cell? ⟨g, j, none⟩ = some u) (hf : w.frozen? ⟨g, j, none⟩ = false) : (execOp a.eval oi).run Tryz.prog w = .ok .skip (w.setCell ⟨g, j, none⟩ (.int .u8 n)) := by
  unfold execOp
  simp only [hop, hx, hy]
  simp [go_sem, hc, hf, Instr.storeAt, Instr.sureAddr]
theorem gs_new {w w1 w2 : World} {x : Chg} {gd go dn dc pn pc : Nat} (h1 : After w w1) (h2 : After w1 w2) (hc : ChAt w2 x ⟨some ⟨gd, 0, none⟩, dn, dc⟩ ⟨some ⟨go, 0, none⟩, pn, pc⟩) (hd : w1.heap.size ≤ gd) (ho : w1.heap.size ≤ go) (rd : RowIs w2 gd 38 (c8 x.deps.flatten)) (ro : RowIs w2 go 46 (cellsOf x.ops)) :
    GS w w1 x gd go w2.heap.size dn dc pn pc ((w2.alloc (.cells #[.string ⟨#[]⟩, .int .i64 0, .int .i64 0, .slice none 0 0, .string ⟨#[]⟩, .slice none 0 0] 25)).setRow w2.heap.size (cc x ⟨some ⟨gd, 0, none⟩, dn, dc⟩ ⟨some ⟨go, 0, none⟩, pn, pc⟩).toArray) ∧ ChAt ((w2.alloc (.cells #[.string ⟨#[]⟩, .int .i64 0, .int .i64 0, .slice none 0 0, .string ⟨#[]⟩, .slice none 0 0] 25)).setRow w2.heap.size (cc x ⟨some ⟨gd, 0, none⟩, dn, dc⟩ ⟨some ⟨go, 0, none⟩, pn, pc⟩).toArray) x ⟨some ⟨gd, 0, none⟩, dn, dc⟩ ⟨some ⟨go, 0, none⟩, pn, pc⟩ ∧ w2.heap.size < ((w2.alloc (.cells #[.string ⟨#[]⟩, .int .i64 0, .int .i64 0, .slice none 0 0, .string ⟨#[]⟩, .slice none 0 0] 25)).setRow w2.heap.size (cc x ⟨some ⟨gd, 0, none⟩, dn, dc⟩ ⟨some ⟨go, 0, none⟩, pn, pc⟩).toArray).heap.size := by
  have ha : After w2 ((w2.alloc (.cells #[.string ⟨#[]⟩, .int .i64 0, .int .i64 0, .slice none 0 0, .string ⟨#[]⟩, .slice none 0 0] 25)).setRow w2.heap.size (cc x ⟨some ⟨gd, 0, none⟩, dn, dc⟩ ⟨some ⟨go, 0, none⟩, pn, pc⟩).toArray) := Below.row (after_alloc (After.refl w2) _) (Nat.le_refl _) _
  refine ⟨⟨h1, After.trans h2 ha, RowIs.setRow (RowIs.new w2 25 [.string ⟨#[]⟩, .int .i64 0, .int .i64 0, .slice none 0 0, .string ⟨#[]⟩, .slice none 0 0]) _, ⟨_, ?_, rd.below ha rd.lt⟩, ⟨_, ro.below ha ro.lt, fun i hi => ?_⟩, hd, ho, rd.lt, ro.lt, fun e => ?_⟩, hc.after ha, ?_⟩
  · have hl := HS.flat_len hc.d32
    have hn : x.deps.length = dn := hc.dn
    rw [hl, hn]
  · have hn : x.ops.length = pn := hc.pn
    obtain ⟨y, hy⟩ : ∃ y, x.ops[i]? = some y := ⟨_, List.getElem?_eq_getElem (by omega)⟩
    have h := cellsOf_at x.ops i 0 y hy (by omega)
    rw [Nat.add_zero] at h
    exact ⟨y.kind, by rw [h]; rfl⟩
  · subst e
    unfold RowIs at rd ro
    rw [rd] at ro
    injection ro with h3
    injection h3 with _ h4
    cases h4
  · exact (RowIs.setRow (RowIs.new w2 25 [.string ⟨#[]⟩, .int .i64 0, .int .i64 0, .slice none 0 0, .string ⟨#[]⟩, .slice none 0 0]) _).lt
set_option maxRecDepth 100000 in
set_option maxHeartbeats 4000000 in
theorem cgets_s (a0 : Option Addr) (n0 c0 : Nat) (bs : List UInt8) (w : World) (hin : InB w a0 n0 c0 bs) (ht : SH.Tab w) {x : Chg} (hg : getC bs = some x) :
    Calls Tryz.prog 5 #[.slice a0 n0 c0] w fun e w' => e = .returned (.bool true) ∧ After w w' := by
  have HIN : Hid (InB w a0 n0 c0 bs) := hin
  have HT : Hid (SH.Tab w) := ht
  have HG : Hid (getC bs = some x) := hg
  clear hin ht hg
  go_enter Tryz.func5, Tryz.ntmps5
  go_wp2_with (first
    | (go_at_call 14; have _u := H5.out; clear _u; refine Calls.mono (rsame_eq x ⟨some ⟨gd, 0, none⟩, dn, dc⟩ ⟨some ⟨go, 0, none⟩, pn, pc⟩ d2 p2 w5 H5.out.2.1 H5.out.2.2.at_) ?_; rintro e w6 ⟨rfl, ha⟩; have H6 := show Hid (GS w w1 x gd go g4 dn dc pn pc w6 ∧ GY x g4 g6 d2 p2 w6) from ⟨H5.out.1.after ha, H5.out.2.2.after ha⟩; have hdb : dn ≤ 1152921504606846976 := H5.out.2.1.db; have hpb : pn ≤ 1152921504606846976 := H5.out.2.1.pb; clear ha)
    | (have _u := H5.out; clear _u; refine wpList_load_row rfl 25 (.tmp 6) rfl g6 rfl 25 _ (0, 0) _ H5.out.2.2.box Tryz.underlying25 rfl (by kernel_rfl) ?_)
    | (have _u := H5.out; clear _u; refine wpList_load_row rfl 25 (.tmp 4) rfl g4 rfl 25 _ (0, 0) _ H5.out.1.box Tryz.underlying25 rfl (by kernel_rfl) ?_)
    | (refine wpList_store_row rfl 25 (.tmp 6) (.tmp 23) rfl w4.heap.size (cc x d2 p2).toArray rfl rfl 25 _ (RowIs.new w4 25 [.string ⟨#[]⟩, .int .i64 0, .int .i64 0, .slice none 0 0, .string ⟨#[]⟩, .slice none 0 0]) (by kernel_rfl) rfl (by kernel_rfl) ?_; have H5 := show Hid (GS w w1 x gd go g4 dn dc pn pc ((w4.alloc (.cells #[.string ⟨#[]⟩, .int .i64 0, .int .i64 0, .slice none 0 0, .string ⟨#[]⟩, .slice none 0 0] 25)).setRow w4.heap.size (cc x d2 p2).toArray) ∧ ChAt ((w4.alloc (.cells #[.string ⟨#[]⟩, .int .i64 0, .int .i64 0, .slice none 0 0, .string ⟨#[]⟩, .slice none 0 0] 25)).setRow w4.heap.size (cc x d2 p2).toArray) x ⟨some ⟨gd, 0, none⟩, dn, dc⟩ ⟨some ⟨go, 0, none⟩, pn, pc⟩ ∧ GY x g4 w4.heap.size d2 p2 ((w4.alloc (.cells #[.string ⟨#[]⟩, .int .i64 0, .int .i64 0, .slice none 0 0, .string ⟨#[]⟩, .slice none 0 0] 25)).setRow w4.heap.size (cc x d2 p2).toArray)) from (by have ha : After w4 ((w4.alloc (.cells #[.string ⟨#[]⟩, .int .i64 0, .int .i64 0, .slice none 0 0, .string ⟨#[]⟩, .slice none 0 0] 25)).setRow w4.heap.size (cc x d2 p2).toArray) := Below.row (after_alloc (After.refl w4) _) (Nat.le_refl _) _; exact ⟨H4.out.1.after ha, H4.out.2.1.after ha, ⟨RowIs.setRow (RowIs.new w4 25 [.string ⟨#[]⟩, .int .i64 0, .int .i64 0, .slice none 0 0, .string ⟨#[]⟩, .slice none 0 0]) _, H4.out.2.2.1.after ha, H4.out.2.2.2.2, H4.out.2.2.2.1.1, H4.out.2.2.2.1.2⟩⟩); obtain ⟨g6, hg6⟩ : ∃ g, w4.heap.size = g := ⟨_, rfl⟩; revert H5; generalize (w4.alloc (.cells #[.string ⟨#[]⟩, .int .i64 0, .int .i64 0, .slice none 0 0, .string ⟨#[]⟩, .slice none 0 0] 25)).setRow w4.heap.size (cc x d2 p2).toArray = w5; rw [hg6]; intro H5; clear hg6)
    | (go_at_call 22; have _u := H3.out; clear _u; refine Calls.mono (rgetC_s a0 n0 c0 bs HIN.out.len HIN.out.cap HIN.out.nil HIN.out.big w3 (HIN.out.at_.after (After.trans H1.out.2 H3.out.1.a1)) HG.out) ?_; rintro e w4 ⟨d2, p2, he, ha, hch, hf1, hf2⟩; subst he; have H4 := show Hid (GS w w1 x gd go g4 dn dc pn pc w4 ∧ ChAt w4 x ⟨some ⟨gd, 0, none⟩, dn, dc⟩ ⟨some ⟨go, 0, none⟩, pn, pc⟩ ∧ ChAt w4 x d2 p2 ∧ ((∀ y, d2.a = some y → g4 < y.block) ∧ (∀ y, p2.a = some y → g4 < y.block)) ∧ g4 < w4.heap.size) from ⟨H3.out.1.after ha, H3.out.2.1.after ha, hch, ⟨fun y hy => Nat.lt_of_lt_of_le H3.out.2.2 (hf1 y hy), fun y hy => Nat.lt_of_lt_of_le H3.out.2.2 (hf2 y hy)⟩, Nat.lt_of_lt_of_le H3.out.2.2 ha.size⟩; clear ha hch hf1 hf2)
    | (refine wpList_store_row rfl 25 (.tmp 4) (.tmp 18) rfl w2.heap.size (cc x ⟨some ⟨gd, 0, none⟩, dn, dc⟩ ⟨some ⟨go, 0, none⟩, pn, pc⟩).toArray rfl rfl 25 _ (RowIs.new w2 25 [.string ⟨#[]⟩, .int .i64 0, .int .i64 0, .slice none 0 0, .string ⟨#[]⟩, .slice none 0 0]) (by kernel_rfl) rfl (by kernel_rfl) ?_; have H3 := show Hid (GS w w1 x gd go w2.heap.size dn dc pn pc ((w2.alloc (.cells #[.string ⟨#[]⟩, .int .i64 0, .int .i64 0, .slice none 0 0, .string ⟨#[]⟩, .slice none 0 0] 25)).setRow w2.heap.size (cc x ⟨some ⟨gd, 0, none⟩, dn, dc⟩ ⟨some ⟨go, 0, none⟩, pn, pc⟩).toArray) ∧ ChAt ((w2.alloc (.cells #[.string ⟨#[]⟩, .int .i64 0, .int .i64 0, .slice none 0 0, .string ⟨#[]⟩, .slice none 0 0] 25)).setRow w2.heap.size (cc x ⟨some ⟨gd, 0, none⟩, dn, dc⟩ ⟨some ⟨go, 0, none⟩, pn, pc⟩).toArray) x ⟨some ⟨gd, 0, none⟩, dn, dc⟩ ⟨some ⟨go, 0, none⟩, pn, pc⟩ ∧ w2.heap.size < ((w2.alloc (.cells #[.string ⟨#[]⟩, .int .i64 0, .int .i64 0, .slice none 0 0, .string ⟨#[]⟩, .slice none 0 0] 25)).setRow w2.heap.size (cc x ⟨some ⟨gd, 0, none⟩, dn, dc⟩ ⟨some ⟨go, 0, none⟩, pn, pc⟩).toArray).heap.size) from gs_new H1.out.2 H2.out.1 H2.out.2.1 H2.out.2.2.1.1 H2.out.2.2.1.2 H2.out.2.2.2.1 H2.out.2.2.2.2; obtain ⟨g4, hg4⟩ : ∃ g, w2.heap.size = g := ⟨_, rfl⟩; revert H3; generalize (w2.alloc (.cells #[.string ⟨#[]⟩, .int .i64 0, .int .i64 0, .slice none 0 0, .string ⟨#[]⟩, .slice none 0 0] 25)).setRow w2.heap.size (cc x ⟨some ⟨gd, 0, none⟩, dn, dc⟩ ⟨some ⟨go, 0, none⟩, pn, pc⟩).toArray = w3; rw [hg4]; intro H3; clear hg4)
    | (go_at_call 21; refine Calls.mono (get_cf a1 n0 c1 bs H1.out.1.len H1.out.1.cap H1.out.1.nil H1.out.1.big w1 H1.out.1.at_ HG.out) ?_; rintro e w2 ⟨⟨da, dn, dc⟩, ⟨pa, pn, pc⟩, he, ha, hch, ⟨gd, hda, hgd, hrd⟩, ⟨go, hpa, hgo, hro⟩⟩; have hda2 : da = some ⟨gd, 0, none⟩ := hda; have hpa2 : pa = some ⟨go, 0, none⟩ := hpa; clear hda hpa; subst hda2; subst hpa2; subst he; have H2 := show Hid (After w1 w2 ∧ ChAt w2 x ⟨some ⟨gd, 0, none⟩, dn, dc⟩ ⟨some ⟨go, 0, none⟩, pn, pc⟩ ∧ (w1.heap.size ≤ gd ∧ w1.heap.size ≤ go) ∧ RowIs w2 gd 38 (c8 x.deps.flatten) ∧ RowIs w2 go 46 (cellsOf x.ops)) from ⟨ha, hch, ⟨hgd, hgo⟩, hrd, hro⟩; clear ha hch hgd hgo hrd hro)
    | (at_builtin; refine wpList_append_any rfl _ _ rfl w.heap.size (.slice (some ⟨w.heap.size, 0, none⟩) 0 0) [] rfl (Own.fresh w) a0 c0 bs n0 HIN.out.len rfl (HIN.out.at_.after (after_alloc (After.refl w) _)) (by have h1 := HIN.out.len; have h2 := HIN.out.big; simp; omega) (by simp) ?_; intro v1 w1 ho hgr; rw [List.nil_append] at ho; obtain ⟨a1, c1, he, hA1, hc1, hz1⟩ := own_sl ho HIN.out.len; subst he; have H1 := show Hid (InB w1 a1 n0 c1 bs ∧ After w w1) from ⟨⟨hA1, HIN.out.len, hc1, hz1, HIN.out.big⟩, after_grown (after_alloc (After.refl w) _) hgr (Nat.le_refl _) (fun k hk => by cases hk; exact Nat.le_refl _)⟩; clear ho hgr hA1 hc1 hz1))
  clear H2 H3 H4 H5
  go_loopw [8] (fun vi wr => ∃ i : Nat, vi = .int .i64 (i : Int) ∧ i ≤ dn ∧ Hid (GS w w1 x gd go g4 dn dc pn pc wr ∧ GY x g4 g6 d2 p2 wr)) (fun vi _ => dn - (intOf vi).toNat)
  case atStart => exact ⟨0, rfl, Nat.zero_le _, H6.out⟩
  case round =>
    obtain ⟨i, rfl, hin, HI⟩ := hrel
    clear H6
    have HCB : Hid (wr.cell? ⟨g4, 3, none⟩ = some (.slice (some ⟨gd, 0, none⟩) dn dc)) := HI.out.1.box.cell (j := 3) rfl
    have cB := HCB.out
    by_cases hlt : i < dn
    · have hii : (i : Int) < (dn : Int) := by omega
      have HNE : Hid (g4 ≠ gd) := by have := HI.out.1.l3; unfold Hid; omega
      obtain ⟨bx, hbl, hrw⟩ := HI.out.1.rd
      obtain ⟨k, hk⟩ : ∃ k, bx.getD (i * 32) 0 = k := ⟨_, rfl⟩
      have HCK : Hid (wr.drew.cell? ⟨gd, 0 + i * 32, none⟩ = some (.int .u8 (k.toNat : Int)) ∧ wr.drew.frozen? ⟨gd, 0 + i * 32, none⟩ = false) := by
        rw [← hk]
        refine ⟨?_, hrw.drew.frozen _⟩
        rw [Nat.zero_add]
        exact hrw.drew.cell (c8_get bx (i * 32) (by omega))
      have HRW : Hid (RowIs wr gd 38 (c8 bx) ∧ bx.length = dn * 32) := ⟨hrw, hbl⟩
      clear hrw hbl hk
      go_wp2_with fail
      refine wp_region_noPanic ?_
      refine wp_region_held_drew (S := But gd wr) (by kernel_rfl) ((But.refl gd wr).drew) ?_
      intro hS0
      refine tk 0 41 (.pointer (some ⟨g4, 3, none⟩)) (fuel := 9) rfl (by kernel_rfl) (by kernel_rfl) (by kernel_rfl) (by kernel_rfl) noPanic_false (by kernel_rfl) (fun _ _ => by kernel_rfl) hS0 ?_
      refine tk 1 42 (.slice (some ⟨gd, 0, none⟩) dn dc) (fuel := 8) rfl (by kernel_rfl) (by kernel_rfl) (by kernel_rfl) (by kernel_rfl) noPanic_false (by kernel_rfl) (fun W hW => x_loadT (x := .tmp 41) (t := 22) (g := g4) (j := 3) Tryz.underlying22 rfl (by kernel_rfl) (by kernel_rfl) (hW.cell (p := ⟨g4, 3, none⟩) HNE.out HCB.out)) hS0 ?_
      refine tk 2 43 (.int .i64 (i : Int)) (fuel := 7) rfl (by kernel_rfl) (by kernel_rfl) (by kernel_rfl) (by kernel_rfl) noPanic_false (by kernel_rfl) (fun _ _ => by kernel_rfl) hS0 ?_
      refine tk 3 44 (.pointer (some ⟨gd, 0 + i * 32, none⟩)) (fuel := 6) rfl (by kernel_rfl) (by kernel_rfl) (by kernel_rfl) (by kernel_rfl) noPanic_false (by kernel_rfl) (fun W _ => HS.x_idx22 (x := .tmp 42) (y := .tmp 43) (b := gd) (f := 0) (n := dn) (c := dc) (k := i) (by kernel_rfl) (by kernel_rfl) (by kernel_rfl) hlt) hS0 ?_
      refine tk 4 45 (.pointer (some ⟨gd, 0 + i * 32, none⟩)) (fuel := 5) rfl (by kernel_rfl) (by kernel_rfl) (by kernel_rfl) (by kernel_rfl) noPanic_false (by kernel_rfl) (fun W _ => x_idx38 (x := .tmp 44) (y := .const (.int .i64 0)) (b := gd) (f := 0 + i * 32) (by kernel_rfl) (by kernel_rfl) (by kernel_rfl)) hS0 ?_
      refine tk 7 48 (.pointer (some ⟨gd, 0 + i * 32, none⟩)) (fuel := 4) rfl (by kernel_rfl) (by kernel_rfl) (by kernel_rfl) (by kernel_rfl) noPanic_false (by kernel_rfl) (fun W _ => HS.x_idx22 (x := .tmp 42) (y := .tmp 43) (b := gd) (f := 0) (n := dn) (c := dc) (k := i) (by kernel_rfl) (by kernel_rfl) (by kernel_rfl) hlt) hS0 ?_
      refine tkRunT 5 46 (.int .u8 (k.toNat : Int)) wr.drew (fuel := 3) rfl (by kernel_rfl) (by kernel_rfl) (by kernel_rfl) (x_loadT (x := .tmp 45) (t := 5) (g := gd) (j := 0 + i * 32) Tryz.underlying5 rfl (by kernel_rfl) (by kernel_rfl) HCK.out.1) hS0 ?_
      refine tk 6 47 (.int .u8 ((k + 1).toNat : Int)) (fuel := 2) rfl (by kernel_rfl) (by kernel_rfl) (by kernel_rfl) (by kernel_rfl) noPanic_false (by kernel_rfl) (fun W _ => x_add5 (x := .tmp 46) (y := .const (.int .u8 1)) (k := k) (by kernel_rfl) (by kernel_rfl) (by kernel_rfl)) hS0 ?_
      refine tk 8 49 (.pointer (some ⟨gd, 0 + i * 32, none⟩)) (fuel := 1) rfl (by kernel_rfl) (by kernel_rfl) (by kernel_rfl) (by kernel_rfl) noPanic_false (by kernel_rfl) (fun W _ => x_idx38 (x := .tmp 48) (y := .const (.int .i64 0)) (b := gd) (f := 0 + i * 32) (by kernel_rfl) (by kernel_rfl) (by kernel_rfl)) hS0 ?_
      refine tkStoreS 9 (wr.drew.setCell ⟨gd, 0 + i * 32, none⟩ (.int .u8 ((k + 1).toNat : Int))) (fuel := 0) rfl rfl (by kernel_rfl) (by kernel_rfl) (x_st5 (x := .tmp 49) (y := .tmp 47) (g := gd) (j := 0 + i * 32) (by kernel_rfl) (by kernel_rfl) (by kernel_rfl) HCK.out.1 HCK.out.2) (hS0.setCell _ _) ?_
      refine wpAnyH_done (by kernel_rfl) (NoPanic.normal ?_) _
      have HB9 : Hid (But gd wr (wr.drew.setCell ⟨gd, 0 + i * 32, none⟩ (.int .u8 ((k + 1).toNat : Int)))) := ((But.refl gd wr).drew).setCell _ _
      have HR9 : Hid (Tur gd dn (wr.drew.setCell ⟨gd, 0 + i * 32, none⟩ (.int .u8 ((k + 1).toNat : Int)))) := ⟨bx.set (0 + i * 32) (k + 1), (by rw [List.length_set]; exact HRW.out.2), (by have h := HRW.out.1.drew.set (0 + i * 32) (.int .u8 ((k + 1).toNat : Int)); rw [c8_set] at h; exact h)⟩
      revert HB9 HR9
      generalize wr.drew.setCell ⟨gd, 0 + i * 32, none⟩ (.int .u8 ((k + 1).toNat : Int)) = w9
      intro HB9 HR9
      go_simp
      go_wp2_with fail
      go_roundw
      case rel =>
        exact ⟨i + 1, by go_num, by omega, HI.out.1.turn1 HB9.out HR9.out, HI.out.2.but HB9.out HI.out.1.l3⟩
      case measure => simp [intOf]; omega
    · have hii : ¬ (i : Int) < (dn : Int) := by omega
      clear HCB
      go_wp2_with fail
      clear cB
      have HI0 := HI
      clear HI
      go_loopw [9] (fun vi wr => ∃ j : Nat, vi = .int .i64 (j : Int) ∧ j ≤ pn ∧ Hid (GS w w1 x gd go g4 dn dc pn pc wr ∧ GY x g4 g6 d2 p2 wr)) (fun vi _ => pn - (intOf vi).toNat)
      case atStart => exact ⟨0, rfl, Nat.zero_le _, HI0.out⟩
      case round =>
        obtain ⟨j, rfl, hjn, HI⟩ := hrel
        clear HI0
        have cB : wr.cell? ⟨g4, 5, none⟩ = some (.slice (some ⟨go, 0, none⟩) pn pc) := HI.out.1.box.cell (j := 5) rfl
        by_cases hlt : j < pn
        · have hjj : (j : Int) < (pn : Int) := by omega
          obtain ⟨cs, hrw, hks⟩ := HI.out.1.ro
          obtain ⟨k, hk⟩ := hks j hlt
          have cK : wr.cell? ⟨go, j * 5, none⟩ = some (.int .i64 k) := hrw.cell hk
          have fK := hrw.frozen (j * 5)
          have HRW : Hid (RowIs wr go 46 cs ∧ ∀ i, i < pn → ∃ k : Int, cs[i * 5]? = some (.int .i64 k)) := ⟨hrw, hks⟩
          clear hrw hks hk
          go_wp2_with fail
          go_roundw
          case rel =>
            have hb9 : But go wr (wr.setCell ⟨go, j * 5, none⟩ (.int .i64 (RowKit.wrap64 (k + 1)))) := (But.refl go wr).setCell _ _
            have hr9 := HRW.out.1.set (j * 5) (.int .i64 (RowKit.wrap64 (k + 1)))
            have ht9 : TurO go pn (wr.setCell ⟨go, j * 5, none⟩ (.int .i64 (RowKit.wrap64 (k + 1)))) := ⟨_, hr9, fun i hi => by
              by_cases e : j = i
              · subst e
                obtain ⟨k2, hk2⟩ := HRW.out.2 j hi
                exact ⟨_, by rw [List.getElem?_set_self (by have := (List.getElem?_eq_some_iff.1 hk2).1; exact this)]⟩
              · obtain ⟨k2, hk2⟩ := HRW.out.2 i hi
                exact ⟨k2, by rw [List.getElem?_set_ne (by omega)]; exact hk2⟩⟩
            exact ⟨j + 1, by go_num, by omega, HI.out.1.turn2 hb9 ht9, HI.out.2.but hb9 HI.out.1.l4⟩
          case measure => simp [intOf]; omega
        · have hjj : ¬ (j : Int) < (pn : Int) := by omega
          go_wp2_with (first
            | (go_at_call 15; refine Calls.mono (awake_any w9 (HT.out.below H9.out HT.out.1)) ?_; rintro e w10 ⟨rfl, ha⟩; have H10 := show Hid (After w w10) from After.trans H9.out ha; clear ha)
            | (go_at_call 14; have _u := H8.out; clear _u; refine Calls.mono (rsame_eq x d3 p3 d2 p2 w8 H8.out.2.2.1 H8.out.2.1.2) ?_; rintro e w9 ⟨rfl, ha⟩; have hv1 : (convert 32 9 (.slice a1 n0 c1)).run Tryz.prog w9 = .ok (.string (strOf bs)) w9 := (by have h := conv_at c1 (H8.out.2.2.2.2.1.after ha); rw [HIN.out.len] at h; exact h); have hv2 : (convert 32 9 (.slice a0 n0 c0)).run Tryz.prog w9 = .ok (.string (strOf bs)) w9 := (by have h := conv_at c0 (H8.out.2.2.2.2.2.after ha); rw [HIN.out.len] at h; exact h); have H9 := show Hid (After w w9) from After.trans H8.out.1 ha; clear ha)
            | (have _u := H8.out; clear _u; refine wpList_load_row rfl 25 (.tmp 10) rfl g10 rfl 25 _ (0, 0) _ H8.out.2.2.2.1 Tryz.underlying25 rfl (by kernel_rfl) ?_)
            | (have _u := H8.out; clear _u; refine wpList_load_row rfl 25 (.tmp 6) rfl g6 rfl 25 _ (0, 0) _ H8.out.2.1.1 Tryz.underlying25 rfl (by kernel_rfl) ?_)
            | (refine wpList_store_row rfl 25 (.tmp 10) (.tmp 69) rfl w7.heap.size (cc x d3 p3).toArray rfl rfl 25 _ (RowIs.new w7 25 [.string ⟨#[]⟩, .int .i64 0, .int .i64 0, .slice none 0 0, .string ⟨#[]⟩, .slice none 0 0]) (by kernel_rfl) rfl (by kernel_rfl) ?_; have H8 := show Hid (After w ((w7.alloc (.cells #[.string ⟨#[]⟩, .int .i64 0, .int .i64 0, .slice none 0 0, .string ⟨#[]⟩, .slice none 0 0] 25)).setRow w7.heap.size (cc x d3 p3).toArray) ∧ (RowIs ((w7.alloc (.cells #[.string ⟨#[]⟩, .int .i64 0, .int .i64 0, .slice none 0 0, .string ⟨#[]⟩, .slice none 0 0] 25)).setRow w7.heap.size (cc x d3 p3).toArray) g6 25 (cc x d2 p2) ∧ ChAt ((w7.alloc (.cells #[.string ⟨#[]⟩, .int .i64 0, .int .i64 0, .slice none 0 0, .string ⟨#[]⟩, .slice none 0 0] 25)).setRow w7.heap.size (cc x d3 p3).toArray) x d2 p2) ∧ ChAt ((w7.alloc (.cells #[.string ⟨#[]⟩, .int .i64 0, .int .i64 0, .slice none 0 0, .string ⟨#[]⟩, .slice none 0 0] 25)).setRow w7.heap.size (cc x d3 p3).toArray) x d3 p3 ∧ RowIs ((w7.alloc (.cells #[.string ⟨#[]⟩, .int .i64 0, .int .i64 0, .slice none 0 0, .string ⟨#[]⟩, .slice none 0 0] 25)).setRow w7.heap.size (cc x d3 p3).toArray) w7.heap.size 25 (cc x d3 p3) ∧ BytesAt ((w7.alloc (.cells #[.string ⟨#[]⟩, .int .i64 0, .int .i64 0, .slice none 0 0, .string ⟨#[]⟩, .slice none 0 0] 25)).setRow w7.heap.size (cc x d3 p3).toArray) a1 bs ∧ BytesAt ((w7.alloc (.cells #[.string ⟨#[]⟩, .int .i64 0, .int .i64 0, .slice none 0 0, .string ⟨#[]⟩, .slice none 0 0] 25)).setRow w7.heap.size (cc x d3 p3).toArray) a0 bs) from (by have ha : After w7 ((w7.alloc (.cells #[.string ⟨#[]⟩, .int .i64 0, .int .i64 0, .slice none 0 0, .string ⟨#[]⟩, .slice none 0 0] 25)).setRow w7.heap.size (cc x d3 p3).toArray) := Below.row (after_alloc (After.refl w7) _) (Nat.le_refl _) _; exact ⟨After.trans H7.out.1 ha, ⟨H7.out.2.1.1.below ha H7.out.2.1.1.lt, H7.out.2.1.2.after ha⟩, H7.out.2.2.1.after ha, RowIs.setRow (RowIs.new w7 25 [.string ⟨#[]⟩, .int .i64 0, .int .i64 0, .slice none 0 0, .string ⟨#[]⟩, .slice none 0 0]) _, H7.out.2.2.2.1.after ha, H7.out.2.2.2.2.after ha⟩); obtain ⟨g10, hg10⟩ : ∃ g, w7.heap.size = g := ⟨_, rfl⟩; revert H8; generalize (w7.alloc (.cells #[.string ⟨#[]⟩, .int .i64 0, .int .i64 0, .slice none 0 0, .string ⟨#[]⟩, .slice none 0 0] 25)).setRow w7.heap.size (cc x d3 p3).toArray = w8; rw [hg10]; intro H8; clear hg10)
            | (go_at_call 21; refine Calls.mono (get_c a1 n0 c1 bs H1.out.1.len H1.out.1.cap H1.out.1.nil H1.out.1.big wr (H1.out.1.at_.after HI.out.1.a1) HG.out) ?_; rintro e w7 ⟨d3, p3, he, ha, hch⟩; subst he; have H7 := show Hid (After w w7 ∧ (RowIs w7 g6 25 (cc x d2 p2) ∧ ChAt w7 x d2 p2) ∧ ChAt w7 x d3 p3 ∧ BytesAt w7 a1 bs ∧ BytesAt w7 a0 bs) from ⟨After.trans HI.out.1.a0 (After.trans HI.out.1.a1 ha), ⟨HI.out.2.box.below ha HI.out.2.box.lt, HI.out.2.at_.after ha⟩, hch, H1.out.1.at_.after (After.trans HI.out.1.a1 ha), HIN.out.at_.after (After.trans HI.out.1.a0 (After.trans HI.out.1.a1 ha))⟩; clear ha hch))
          go_ret
          exact ⟨rfl, H10.out⟩
theorem chat_zero (w : World) : ChAt w (⟨[], 0, 0, [], [], []⟩ : Chg) ⟨none, 0, 0⟩ ⟨none, 0, 0⟩ :=
  ⟨fun h => absurd rfl h, fun h => absurd rfl h, rfl, rfl, fun _ h => (by cases h), fun _ h => (by cases h), (by decide), (by decide), (by decide), (by decide), Nat.zero_le _, Nat.zero_le _, Nat.zero_le _, Nat.zero_le _⟩
theorem rsame_zero (w : World) : Calls Tryz.prog 14 #[.agg zc.toArray, .agg zc.toArray] w fun e w' => e = .returned (.bool true) ∧ After w w' := rsame_eq (⟨[], 0, 0, [], [], []⟩ : Chg) ⟨none, 0, 0⟩ ⟨none, 0, 0⟩ ⟨none, 0, 0⟩ ⟨none, 0, 0⟩ w (chat_zero w) (chat_zero w)
set_option maxRecDepth 100000 in
set_option maxHeartbeats 4000000 in
theorem cgets_n (a0 : Option Addr) (n0 c0 : Nat) (bs : List UInt8) (w : World) (hin : InB w a0 n0 c0 bs) (ht : SH.Tab w) (hg : getC bs = none) :
    Calls Tryz.prog 5 #[.slice a0 n0 c0] w fun e w' => e = .returned (.bool true) ∧ After w w' := by
  have HIN : Hid (InB w a0 n0 c0 bs) := hin
  have HT : Hid (SH.Tab w) := ht
  have HG : Hid (getC bs = none) := hg
  clear hin ht hg
  go_enter Tryz.func5, Tryz.ntmps5
  go_wp2_with (first
    | (go_at_call 14; have _u := H5.out; clear _u; refine Calls.mono (rsame_zero w5) ?_; rintro e w6 ⟨rfl, ha⟩; have H6 := show Hid (After w1 w6 ∧ RowIs w6 g4 25 zc ∧ RowIs w6 g6 25 zc) from ⟨After.trans H5.out.1 ha, H5.out.2.1.below ha H5.out.2.1.lt, H5.out.2.2.below ha H5.out.2.2.lt⟩; clear ha)
    | (have _u := H5.out; clear _u; refine wpList_load_row rfl 25 (.tmp 6) rfl g6 rfl 25 _ (0, 0) _ H5.out.2.2 Tryz.underlying25 rfl (by kernel_rfl) ?_)
    | (have _u := H5.out; clear _u; refine wpList_load_row rfl 25 (.tmp 4) rfl g4 rfl 25 _ (0, 0) _ H5.out.2.1 Tryz.underlying25 rfl (by kernel_rfl) ?_)
    | (refine wpList_store_row rfl 25 (.tmp 6) (.tmp 23) rfl w4.heap.size zc.toArray rfl rfl 25 _ (RowIs.new w4 25 zc) (by kernel_rfl) rfl (by kernel_rfl) ?_; have H5 := show Hid (After w1 ((w4.alloc (.cells #[.string ⟨#[]⟩, .int .i64 0, .int .i64 0, .slice none 0 0, .string ⟨#[]⟩, .slice none 0 0] 25)).setRow w4.heap.size zc.toArray) ∧ RowIs ((w4.alloc (.cells #[.string ⟨#[]⟩, .int .i64 0, .int .i64 0, .slice none 0 0, .string ⟨#[]⟩, .slice none 0 0] 25)).setRow w4.heap.size zc.toArray) g4 25 zc ∧ RowIs ((w4.alloc (.cells #[.string ⟨#[]⟩, .int .i64 0, .int .i64 0, .slice none 0 0, .string ⟨#[]⟩, .slice none 0 0] 25)).setRow w4.heap.size zc.toArray) w4.heap.size 25 zc) from ⟨Below.row (after_alloc H4.out.1 _) H4.out.1.size _, (by have hh := H4.out.2; exact (hh.alloc _).setRow_other _ (Nat.ne_of_lt hh.lt)), RowIs.setRow (RowIs.new w4 25 zc) _⟩; obtain ⟨g6, hq⟩ : ∃ g, w4.heap.size = g := ⟨_, rfl⟩; revert H5; generalize (w4.alloc (.cells #[.string ⟨#[]⟩, .int .i64 0, .int .i64 0, .slice none 0 0, .string ⟨#[]⟩, .slice none 0 0] 25)).setRow w4.heap.size zc.toArray = w5; rw [hq]; intro H5; clear hq)
    | (go_at_call 22; have _u := H3.out; clear _u; refine Calls.mono (rgetC_n a0 n0 c0 bs HIN.out.len HIN.out.cap HIN.out.nil HIN.out.big w3 (HIN.out.at_.after (After.trans H1.out.2 H3.out.1)) HG.out) ?_; rintro e w4 ⟨rfl, ha⟩; have H4 := show Hid (After w1 w4 ∧ RowIs w4 g4 25 zc) from ⟨After.trans H3.out.1 ha, H3.out.2.below ha H3.out.2.lt⟩; clear ha)
    | (refine wpList_store_row rfl 25 (.tmp 4) (.tmp 18) rfl w2.heap.size zc.toArray rfl rfl 25 _ (RowIs.new w2 25 zc) (by kernel_rfl) rfl (by kernel_rfl) ?_; have H3 := show Hid (After w1 ((w2.alloc (.cells #[.string ⟨#[]⟩, .int .i64 0, .int .i64 0, .slice none 0 0, .string ⟨#[]⟩, .slice none 0 0] 25)).setRow w2.heap.size zc.toArray) ∧ RowIs ((w2.alloc (.cells #[.string ⟨#[]⟩, .int .i64 0, .int .i64 0, .slice none 0 0, .string ⟨#[]⟩, .slice none 0 0] 25)).setRow w2.heap.size zc.toArray) w2.heap.size 25 zc) from ⟨Below.row (after_alloc H2.out _) H2.out.size _, RowIs.setRow (RowIs.new w2 25 zc) _⟩; obtain ⟨g4, hq⟩ : ∃ g, w2.heap.size = g := ⟨_, rfl⟩; revert H3; generalize (w2.alloc (.cells #[.string ⟨#[]⟩, .int .i64 0, .int .i64 0, .slice none 0 0, .string ⟨#[]⟩, .slice none 0 0] 25)).setRow w2.heap.size zc.toArray = w3; rw [hq]; intro H3; clear hq)
    | (go_at_call 21; refine Calls.mono (get_n a1 n0 c1 bs H1.out.1.len H1.out.1.cap H1.out.1.nil H1.out.1.big w1 H1.out.1.at_ HG.out) ?_; rintro e w2 ⟨rfl, ha⟩; have H2 := show Hid (After w1 w2) from ha; clear ha)
    | (at_builtin; refine wpList_append_any rfl _ _ rfl w.heap.size (.slice (some ⟨w.heap.size, 0, none⟩) 0 0) [] rfl (Own.fresh w) a0 c0 bs n0 HIN.out.len rfl (HIN.out.at_.after (after_alloc (After.refl w) _)) (by have h1 := HIN.out.len; have h2 := HIN.out.big; simp; omega) (by simp) ?_; intro v1 w1 ho hgr; rw [List.nil_append] at ho; obtain ⟨a1, c1, he, hA1, hc1, hz1⟩ := own_sl ho HIN.out.len; subst he; have H1 := show Hid (InB w1 a1 n0 c1 bs ∧ After w w1) from ⟨⟨hA1, HIN.out.len, hc1, hz1, HIN.out.big⟩, after_grown (after_alloc (After.refl w) _) hgr (Nat.le_refl _) (fun k hk => by cases hk; exact Nat.le_refl _)⟩; clear ho hgr hA1 hc1 hz1))
  clear H2 H3 H4 H5
  go_loopw [8] (fun vi wr => vi = .int .i64 0 ∧ Hid (After w1 wr ∧ RowIs wr g4 25 zc ∧ RowIs wr g6 25 zc)) (fun _ _ => 0)
  case atStart => exact ⟨rfl, H6.out⟩
  case round =>
    obtain ⟨rfl, HI⟩ := hrel
    clear H6
    have cB : wr.cell? ⟨g4, 3, none⟩ = some (.slice none 0 0) := HI.out.2.1.cell (j := 3) rfl
    go_wp2_with fail
    clear cB
    have HI0 := HI
    clear HI
    go_loopw [9] (fun vi wr => vi = .int .i64 0 ∧ Hid (After w1 wr ∧ RowIs wr g4 25 zc ∧ RowIs wr g6 25 zc)) (fun _ _ => 0)
    case atStart => exact ⟨rfl, HI0.out⟩
    case round =>
      obtain ⟨rfl, HI⟩ := hrel
      clear HI0
      have cB : wr.cell? ⟨g4, 5, none⟩ = some (.slice none 0 0) := HI.out.2.1.cell (j := 5) rfl
      go_wp2_with (first
        | (go_at_call 15; refine Calls.mono (awake_any w9 (HT.out.below H9.out HT.out.1)) ?_; rintro e w10 ⟨rfl, ha⟩; have H10 := show Hid (After w w10) from After.trans H9.out ha; clear ha)
        | (go_at_call 14; have _u := H8.out; clear _u; refine Calls.mono (rsame_zero w8) ?_; rintro e w9 ⟨rfl, ha⟩; have hv1 : (convert 32 9 (.slice a1 n0 c1)).run Tryz.prog w9 = .ok (.string (strOf bs)) w9 := (by have h := conv_at c1 (H1.out.1.at_.after (After.trans H8.out.1 ha)); rw [HIN.out.len] at h; exact h); have hv2 : (convert 32 9 (.slice a0 n0 c0)).run Tryz.prog w9 = .ok (.string (strOf bs)) w9 := (by have h := conv_at c0 (HIN.out.at_.after (After.trans H1.out.2 (After.trans H8.out.1 ha))); rw [HIN.out.len] at h; exact h); have H9 := show Hid (After w w9) from After.trans H1.out.2 (After.trans H8.out.1 ha); clear ha)
        | (have _u := H8.out; clear _u; refine wpList_load_row rfl 25 (.tmp 10) rfl g10 rfl 25 _ (0, 0) _ H8.out.2.2 Tryz.underlying25 rfl (by kernel_rfl) ?_)
        | (have _u := H8.out; clear _u; refine wpList_load_row rfl 25 (.tmp 6) rfl g6 rfl 25 _ (0, 0) _ H8.out.2.1 Tryz.underlying25 rfl (by kernel_rfl) ?_)
        | (refine wpList_store_row rfl 25 (.tmp 10) (.tmp 69) rfl w7.heap.size zc.toArray rfl rfl 25 _ (RowIs.new w7 25 zc) (by kernel_rfl) rfl (by kernel_rfl) ?_; have H8 := show Hid (After w1 ((w7.alloc (.cells #[.string ⟨#[]⟩, .int .i64 0, .int .i64 0, .slice none 0 0, .string ⟨#[]⟩, .slice none 0 0] 25)).setRow w7.heap.size zc.toArray) ∧ RowIs ((w7.alloc (.cells #[.string ⟨#[]⟩, .int .i64 0, .int .i64 0, .slice none 0 0, .string ⟨#[]⟩, .slice none 0 0] 25)).setRow w7.heap.size zc.toArray) g6 25 zc ∧ RowIs ((w7.alloc (.cells #[.string ⟨#[]⟩, .int .i64 0, .int .i64 0, .slice none 0 0, .string ⟨#[]⟩, .slice none 0 0] 25)).setRow w7.heap.size zc.toArray) w7.heap.size 25 zc) from ⟨Below.row (after_alloc H7.out.1 _) H7.out.1.size _, (by have hh := H7.out.2; exact (hh.alloc _).setRow_other _ (Nat.ne_of_lt hh.lt)), RowIs.setRow (RowIs.new w7 25 zc) _⟩; obtain ⟨g10, hq⟩ : ∃ g, w7.heap.size = g := ⟨_, rfl⟩; revert H8; generalize (w7.alloc (.cells #[.string ⟨#[]⟩, .int .i64 0, .int .i64 0, .slice none 0 0, .string ⟨#[]⟩, .slice none 0 0] 25)).setRow w7.heap.size zc.toArray = w8; rw [hq]; intro H8; clear hq)
        | (go_at_call 21; refine Calls.mono (get_n a1 n0 c1 bs H1.out.1.len H1.out.1.cap H1.out.1.nil H1.out.1.big wr (H1.out.1.at_.after HI.out.1) HG.out) ?_; rintro e w7 ⟨rfl, ha⟩; have H7 := show Hid (After w1 w7 ∧ RowIs w7 g6 25 zc) from ⟨After.trans HI.out.1 ha, HI.out.2.2.below ha HI.out.2.2.lt⟩; clear ha))
      go_ret
      exact ⟨rfl, H10.out⟩
theorem cgets_any (a0 : Option Addr) (n0 c0 : Nat) (bs : List UInt8) (w : World) (hin : InB w a0 n0 c0 bs) (ht : SH.Tab w) :
    Calls Tryz.prog 5 #[.slice a0 n0 c0] w fun e w' => e = .returned (.bool true) ∧ After w w' := by
  cases hg : getC bs with
  | none => exact cgets_n a0 n0 c0 bs w hin ht hg
  | some x => exact cgets_s a0 n0 c0 bs w hin ht hg
end Go.Proofs.YtgmdolpjkaajfaaGreatDoor
