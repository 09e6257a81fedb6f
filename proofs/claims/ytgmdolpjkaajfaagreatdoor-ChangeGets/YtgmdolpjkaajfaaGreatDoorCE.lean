/-
  THE WALKS OF change.read AND change.Get.
-/
import Derived.Test.YtgmdolpjkaajfaaGreatDoorCD
namespace Go.Proofs.YtgmdolpjkaajfaaGreatDoor
open Go.RowKit Leb
abbrev MN : Nat := 1099511627776
/-- What is read, but for the operations. -/
structure Rx where
  au : List UInt8
  sq : Nat
  st : Nat
  ds : List (List UInt8)
  nt : List UInt8
  rest : List UInt8
  e : Nat
def readX (bs : List UInt8) : Rx :=
  let b1 := suB bs 0 1
  let e1 := suE bs 0 1
  let b2 := stB b1 e1 (32 : Nat)
  let e2 := stE b1 e1 (32 : Nat)
  let b3 := suB b2 e2 MN
  let e3 := suE b2 e2 MN
  let b4 := suB b3 e3 MN
  let e4 := suE b3 e3 MN
  let b5 := suB b4 e4 16
  let e5 := suE b4 e4 16
  let h := hsM (suV b4 e4 16) b5 e5
  ⟨stS b1 e1 (32 : Nat), suV b2 e2 MN, suV b3 e3 MN, h.1, stS h.2.1 h.2.2 (1024 : Nat), stB h.2.1 h.2.2 (1024 : Nat), stE h.2.1 h.2.2 (1024 : Nat)⟩
def readK (bs : List UInt8) : Option Chg := if (readX bs).e = 0 then (getM (readX bs).rest).map fun l => ⟨(readX bs).au, ((readX bs).sq : Int), ((readX bs).st : Int), (readX bs).ds, (readX bs).nt, l⟩ else none
def Suf (a b : List UInt8) : Prop := ∃ k, a = b.drop k
theorem Suf.refl (a : List UInt8) : Suf a a := ⟨0, rfl⟩
theorem Suf.trans {a b c : List UInt8} (h : Suf a b) (k : Suf b c) : Suf a c := by
  obtain ⟨i, rfl⟩ := h
  obtain ⟨j, rfl⟩ := k
  exact ⟨j + i, by rw [List.drop_drop]⟩
theorem Suf.eq {a b : List UInt8} (h : Suf a b) : b.drop (b.length - a.length) = a := by
  obtain ⟨k, rfl⟩ := h
  rw [List.length_drop]
  by_cases hk : k ≤ b.length
  · rw [show b.length - (b.length - k) = k by omega]
  · rw [show b.length - (b.length - k) = b.length by omega, List.drop_of_length_le (by omega), List.drop_of_length_le (by omega)]
theorem Suf.le {a b : List UInt8} (h : Suf a b) : a.length ≤ b.length := by
  obtain ⟨k, rfl⟩ := h
  rw [List.length_drop]
  omega
theorem suB_suf (bs : List UInt8) (e m : Nat) : Suf (suB bs e m) bs := by unfold suB; split; exact ⟨_, rfl⟩; exact Suf.refl _
theorem stB_suf (bs : List UInt8) (e : Nat) (m : Int) : Suf (stB bs e m) bs := by unfold stB; split; exact ⟨_, rfl⟩; exact Suf.refl _
theorem shB_suf (bs : List UInt8) (e : Nat) : Suf (shB bs e) bs := by unfold shB; split; exact ⟨_, rfl⟩; exact Suf.refl _
theorem hsM_suf : ∀ (n : Nat) (bs : List UInt8) (e : Nat), Suf (hsM n bs e).2.1 bs
  | 0, _, _ => Suf.refl _
  | n + 1, bs, e => (shB_suf _ _).trans (hsM_suf n bs e)
theorem readX_suf (bs : List UInt8) : Suf (readX bs).rest bs :=
  (stB_suf _ _ _).trans ((hsM_suf _ _ _).trans ((suB_suf _ _ _).trans ((suB_suf _ _ _).trans ((suB_suf _ _ _).trans ((stB_suf _ _ _).trans (suB_suf _ _ _))))))
theorem stS_le (bs : List UInt8) (e m : Nat) : (stS bs e m).length ≤ m := by
  unfold stS gtS
  split
  · split
    · rename_i h
      unfold gtE at h
      split at h
      · split at h
        · omega
        · rw [List.length_take]; omega
      · contradiction
    · simp
  · simp
theorem ret25t {fn : Func} {p q : Tmp} (h : fn.results = #[.cell p 25, .tmp q]) (tmps : Array Value) (w : World) (g : Nat) (cs : List Value) (hp : tmps.getD p undef = .pointer (some ⟨g, 0, none⟩)) (hg : RowIs w g 25 cs) (hl : cs.length = 6) (v : Value) (hv : tmps.getD q undef = v) :
    (results fn tmps).run Tryz.prog w = .ok (.tuple #[.agg cs.toArray, v]) w := by
  have hp' : tmps[p]?.getD undef = .pointer (some ⟨g, 0, none⟩) := by simpa using hp
  have hv' : tmps[q]?.getD undef = v := by simpa using hv
  have hi : (Tryz.prog.info? 25).map (·.size) = some cs.toArray.size := by rw [show (Tryz.prog.info? 25).map (·.size) = some 6 by kernel_rfl]; simp [hl]
  simp [results, h, hp', hv', asAddr, run_loadVar_row w g 25 25 cs.toArray (0, 0) _ hg Tryz.underlying25 rfl hi]
theorem CI.err {w : World} {g T : Nat} {bs : List UInt8} {e : Nat} {cs : List Value} {W : World} (h : CI w g T bs e cs W) : Calls Tryz.prog 78 #[.pointer (some ⟨g, 0, none⟩)] W fun x w' => x = .returned (.int .i64 (e : Int)) ∧ w' = W := by
  obtain ⟨ao, cap, hR, _⟩ := h.rd
  exact rErr_any g bs e ao cap W hR
theorem CI.left {w : World} {g T : Nat} {bs : List UInt8} {e n : Nat} {cs : List Value} {W : World} (h : CI w g T bs e cs W) (hn : bs.length = n) : Calls Tryz.prog 80 #[.pointer (some ⟨g, 0, none⟩)] W fun x w' => x = .returned (.int .i64 (n : Int)) ∧ w' = W := by
  obtain ⟨ao, cap, hR, _⟩ := h.rd
  rw [← hn]
  exact rLeft_any g bs e ao cap W hR
theorem x_subk {o : Oper} {a : Act} {x y : Operand} {w : World} {p q k : Nat} (hop : o.op = .binOp .sub 3 x y 3) (hx : a.eval x = .int .i64 (p : Int)) (hy : a.eval y = .int .i64 (q : Int)) (h : p = q + k) (hb : p ≤ 140737488355328) : (execOp a.eval o).run Tryz.prog w = .ok (.value (.int .i64 (k : Int))) w := by
  have e : IntKind.i64.wrap ((p : Int) - (q : Int)) = (k : Int) := by rw [IntKind.wrap_i64]; omega
  unfold execOp
  simp only [hop, hx, hy]
  simp [go_sem, e]
theorem x_slk {o : Oper} {a : Act} {x y : Operand} {w : World} {s : Sl} {k : Nat} {v : Value} (hop : o.op = .slice 32 x (some y) none none) (hx : a.eval x = .slice s.a s.n s.c) (hy : a.eval y = .int .i64 (k : Int)) (h : (Instr.sliceAt 32 (.slice s.a s.n s.c) (some (.int .i64 (k : Int))) none none).run Tryz.prog w = .ok v w) : (execOp a.eval o).run Tryz.prog w = .ok (.value v) w := by
  unfold execOp
  simp only [hop, hx, hy, Option.map, Sem.run_bind, h, Result.andThen_ok]
  rfl
/-- The rows that are told are new, and the asker's own. -/
structure Frs (w W : World) (c : Chg) (d p : Sl) : Prop where
  dep : ∃ g, d.a = some ⟨g, 0, none⟩ ∧ w.heap.size ≤ g ∧ RowIs W g 38 (c8 c.deps.flatten)
  ops : ∃ g, p.a = some ⟨g, 0, none⟩ ∧ w.heap.size ≤ g ∧ RowIs W g 46 (cellsOf c.ops)
theorem Frs.after {w W W' : World} {c : Chg} {d p : Sl} (h : Frs w W c d p) (ha : After W W') : Frs w W' c d p := by
  obtain ⟨g1, h1, h2, h3⟩ := h.dep
  obtain ⟨g2, k1, k2, k3⟩ := h.ops
  exact ⟨⟨g1, h1, h2, h3.below ha h3.lt⟩, ⟨g2, k1, k2, k3.below ha k3.lt⟩⟩
theorem Frs.but {w W W' : World} {c : Chg} {d p : Sl} (h : Frs w W c d p) {g : Nat} (ha : But g W W') (hg : g < w.heap.size) : Frs w W' c d p := by
  obtain ⟨g1, h1, h2, h3⟩ := h.dep
  obtain ⟨g2, k1, k2, k3⟩ := h.ops
  exact ⟨⟨g1, h1, h2, ha.row h3 (by omega)⟩, ⟨g2, k1, k2, ha.row k3 (by omega)⟩⟩
theorem Frs.base {w w0 W : World} {c : Chg} {d p : Sl} (h : Frs w0 W c d p) (hs : w.heap.size ≤ w0.heap.size) : Frs w W c d p := by
  obtain ⟨g1, h1, h2, h3⟩ := h.dep
  obtain ⟨g2, k1, k2, k3⟩ := h.ops
  exact ⟨⟨g1, h1, Nat.le_trans hs h2, h3⟩, ⟨g2, k1, Nat.le_trans hs k2, k3⟩⟩
/-- What read answers. -/
def RdC (w : World) (R : Option Chg) (x : Ending) (w' : World) : Prop :=
  ∃ cs q, x = .returned (.tuple #[.agg (cs : List Value).toArray, .int .i64 q]) ∧ After w w' ∧ cs.length = 6 ∧ cs.all (·.oneCell') = true ∧ (R = none → q ≠ 0) ∧ ∀ c, R = some c → q = 0 ∧ ∃ d p, cs = cc c d p ∧ ChAt w' c d p ∧ Frs w w' c d p
theorem row_same {w : World} {g : Nat} {t : TypeId} {cs : List Value} (h : RowIs w g t cs) : RowIs (w.setRow g cs.toArray) g t cs := h.setRow cs

set_option maxRecDepth 100000 in
set_option maxHeartbeats 1200000 in
theorem read_ch (a : Option Addr) (n c : Nat) (bs : List UInt8) (hn : bs.length = n) (hca : n ≤ c) (hz : a = none → n = 0) (hbig : n ≤ 140737488355328) (w : World) (hat : BytesAt w a bs) :
    Calls Tryz.prog 46 #[.slice a n c] w (RdC w (readK bs)) := by
  have HB : Hid (BytesAt w a bs ∧ bs.length = n ∧ n ≤ 140737488355328) := ⟨hat, hn, hbig⟩
  have HCZ : Hid (n ≤ c ∧ (a = none → n = 0)) := ⟨hca, hz⟩
  obtain ⟨b1, hb1⟩ : ∃ x, suB bs 0 1 = x := ⟨_, rfl⟩
  obtain ⟨e1, he1⟩ : ∃ x, suE bs 0 1 = x := ⟨_, rfl⟩
  obtain ⟨au, hau⟩ : ∃ x, stS b1 e1 (32 : Nat) = x := ⟨_, rfl⟩
  obtain ⟨b2, hb2⟩ : ∃ x, stB b1 e1 (32 : Nat) = x := ⟨_, rfl⟩
  obtain ⟨e2, he2⟩ : ∃ x, stE b1 e1 (32 : Nat) = x := ⟨_, rfl⟩
  obtain ⟨sq, hsq⟩ : ∃ x, suV b2 e2 MN = x := ⟨_, rfl⟩
  obtain ⟨b3, hb3⟩ : ∃ x, suB b2 e2 MN = x := ⟨_, rfl⟩
  obtain ⟨e3, he3⟩ : ∃ x, suE b2 e2 MN = x := ⟨_, rfl⟩
  obtain ⟨st, hst⟩ : ∃ x, suV b3 e3 MN = x := ⟨_, rfl⟩
  obtain ⟨b4, hb4⟩ : ∃ x, suB b3 e3 MN = x := ⟨_, rfl⟩
  obtain ⟨e4, he4⟩ : ∃ x, suE b3 e3 MN = x := ⟨_, rfl⟩
  obtain ⟨nd, hnd'⟩ : ∃ x, suV b4 e4 16 = x := ⟨_, rfl⟩
  obtain ⟨b5, hb5⟩ : ∃ x, suB b4 e4 16 = x := ⟨_, rfl⟩
  obtain ⟨e5, he5⟩ : ∃ x, suE b4 e4 16 = x := ⟨_, rfl⟩
  obtain ⟨⟨ds, b6, e6⟩, hds⟩ : ∃ x, hsM nd b5 e5 = x := ⟨_, rfl⟩
  obtain ⟨nt, hnt⟩ : ∃ x, stS b6 e6 (1024 : Nat) = x := ⟨_, rfl⟩
  obtain ⟨b7, hb7⟩ : ∃ x, stB b6 e6 (1024 : Nat) = x := ⟨_, rfl⟩
  obtain ⟨e7, he7⟩ : ∃ x, stE b6 e6 (1024 : Nat) = x := ⟨_, rfl⟩
  have hX : readX bs = ⟨au, sq, st, ds, nt, b7, e7⟩ := by
    unfold readX
    simp only [hb1, he1, hau, hb2, he2, hsq, hb3, he3, hst, hb4, he4, hnd', hb5, he5, hds, hnt, hb7, he7]
  have hnd : nd ≤ 16 := by rw [← hnd']; exact suV_le _ _ _
  have hsq1 : sq ≤ 1099511627776 := by rw [← hsq]; exact suV_le _ _ _
  have hst1 : st ≤ 1099511627776 := by rw [← hst]; exact suV_le _ _ _
  have l1 : b1.length ≤ 281474976710656 := by have := (suB_suf bs 0 1).le; rw [hb1, hn] at this; omega
  have l6 : b6.length ≤ 281474976710656 := by
    have h1 := (hsM_suf nd b5 e5).trans ((hb5 ▸ suB_suf b4 e4 16).trans ((hb4 ▸ suB_suf b3 e3 MN).trans ((hb3 ▸ suB_suf b2 e2 MN).trans ((hb2 ▸ stB_suf b1 e1 (32 : Nat)).trans (hb1 ▸ suB_suf bs 0 1)))))
    have h2 := h1.le
    rw [hds, hn] at h2
    simp only at h2
    omega
  have HX : Hid (suB bs 0 1 = b1 ∧ suE bs 0 1 = e1 ∧ (stS b1 e1 (32 : Nat) = au ∧ stB b1 e1 (32 : Nat) = b2 ∧ stE b1 e1 (32 : Nat) = e2) ∧ b1.length ≤ 281474976710656 ∧ (suV b2 e2 MN = sq ∧ suB b2 e2 MN = b3 ∧ suE b2 e2 MN = e3) ∧ (suV b3 e3 MN = st ∧ suB b3 e3 MN = b4 ∧ suE b3 e3 MN = e4) ∧ (suV b4 e4 16 = nd ∧ suB b4 e4 16 = b5 ∧ suE b4 e4 16 = e5) ∧ hsM nd b5 e5 = (ds, b6, e6) ∧ b6.length ≤ 281474976710656 ∧ (stS b6 e6 (1024 : Nat) = nt ∧ stB b6 e6 (1024 : Nat) = b7 ∧ stE b6 e6 (1024 : Nat) = e7) ∧ Suf b7 bs) :=
    ⟨hb1, he1, ⟨hau, hb2, he2⟩, l1, ⟨hsq, hb3, he3⟩, ⟨hst, hb4, he4⟩, ⟨hnd', hb5, he5⟩, hds, l6, ⟨hnt, hb7, he7⟩, by have h := readX_suf bs; rw [hX] at h; exact h⟩
  have HRK : Hid (readK bs = if e7 = 0 then (getM b7).map fun l => ⟨au, (sq : Int), (st : Int), ds, nt, l⟩ else none) := by unfold Hid readK; rw [hX]
  have HLN : Hid (au.length ≤ 32 ∧ nt.length ≤ 1024 ∧ ds.length = nd ∧ HS.All32 ds) := ⟨by rw [← hau]; exact stS_le _ _ _, by rw [← hnt]; exact stS_le _ _ _, by have := hsM_len nd b5 e5; rw [hds] at this; exact this, by have := hsM_32 nd b5 e5; rw [hds] at this; exact this⟩
  clear hb1 he1 hau hb2 he2 hsq hb3 he3 hst hb4 he4 hnd' hb5 he5 hds hnt hb7 he7 hX l1 l6 hat hn hbig hca hz
  by_cases z7 : e7 = 0
  case neg =>
    have fi : ¬ (e7 : Int) = 0 := by omega
    have fb : ((e7 : Int) == 0) = false := beq_eq_false_iff_ne.2 fi
    have fn : ((e7 : Int) != 0) = true := by simp [bne, fb]
    go_enter Tryz.func46, Tryz.ntmps46
    go_wp2_with (first
      | (refine wpList_store_row rfl 25 (.tmp 2) (.tmp 34) rfl w.heap.size _ rfl rfl 25 _ K9.out.1.box (by kernel_rfl) rfl (by kernel_rfl) ?_)
      | (refine wpList_load_row rfl 25 (.tmp 2) rfl w.heap.size rfl 25 _ (0, 0) _ K9.out.1.box Tryz.underlying25 rfl (by kernel_rfl) ?_)
      | (go_at_call 78; have _u := K8.out; clear _u; have hs := show CI w g T b7 e7 [.string (strOf au), .int .i64 (sq : Int), .int .i64 (st : Int), .slice (some ⟨gh, 0, none⟩) nd nd, .string (strOf nt), .slice none 0 0] (w8.setCell ⟨w.heap.size, 4, none⟩ (.string (strOf nt))) from K8.out.1.set 4 (.string (strOf nt)); have hh := K8.out.2.set 4 (.string (strOf nt)); revert hs hh; generalize w8.setCell ⟨w.heap.size, 4, none⟩ (.string (strOf nt)) = w9; intro hs hh; refine Calls.mono hs.err ?_; rintro x w10 ⟨rfl, hw⟩; have hw2 := hw.symm; clear hw; subst hw2; have K9 := show Hid (CI w g T b7 e7 [.string (strOf au), .int .i64 (sq : Int), .int .i64 (st : Int), .slice (some ⟨gh, 0, none⟩) nd nd, .string (strOf nt), .slice none 0 0] w9 ∧ HR w g gh ds w9) from ⟨hs, hh⟩; clear hs hh K8)
      | (go_at_call 75; have _u := K7.out; clear _u; have hs := show CI w g T b6 e6 [.string (strOf au), .int .i64 (sq : Int), .int .i64 (st : Int), .slice (some ⟨gh, 0, none⟩) nd nd, .string ⟨#[]⟩, .slice none 0 0] (w7.setCell ⟨w.heap.size, 3, none⟩ (.slice (some ⟨gh, 0, none⟩) nd nd)) from K7.out.1.set 3 (.slice (some ⟨gh, 0, none⟩) nd nd); refine Calls.mono (hs.text 1024 (by omega) HX.out.2.2.2.2.2.2.2.2.1 HX.out.2.2.2.2.2.2.2.2.2.1.1 HX.out.2.2.2.2.2.2.2.2.2.1.2.1 HX.out.2.2.2.2.2.2.2.2.2.1.2.2) ?_; rintro x w8 ⟨rfl, hci, hbt⟩; have g4 := hci.box.cell (j := 4) rfl; have g4f := hci.box.frozen 4; have K8 := show Hid (CI w g T b7 e7 [.string (strOf au), .int .i64 (sq : Int), .int .i64 (st : Int), .slice (some ⟨gh, 0, none⟩) nd nd, .string ⟨#[]⟩, .slice none 0 0] w8 ∧ HR w g gh ds w8) from ⟨hci, (K7.out.2.set 3 _).but hbt⟩; clear hci hbt K7 hs)
      | (go_at_call 76; have _u := K6.out; clear _u; refine Calls.mono (taken_any K6.out nd hnd HX.out.2.2.2.2.2.2.2.1) ?_; rintro x w7 ⟨gh, he, hci, hr⟩; subst he; have g3 := hci.box.cell (j := 3) rfl; have g3f := hci.box.frozen 3; have K7 := show Hid (CI w g T b6 e6 [.string (strOf au), .int .i64 (sq : Int), .int .i64 (st : Int), .slice none 0 0, .string ⟨#[]⟩, .slice none 0 0] w7 ∧ HR w g gh ds w7) from ⟨hci, hr⟩; clear hci hr K6)
      | (go_at_call 74; have _u := K5.out; clear _u; have hs := show CI w g T b4 e4 [.string (strOf au), .int .i64 (sq : Int), .int .i64 (st : Int), .slice none 0 0, .string ⟨#[]⟩, .slice none 0 0] (w5.setCell ⟨w.heap.size, 2, none⟩ (.int .i64 (st : Int))) from K5.out.set 2 (.int .i64 (st : Int)); refine Calls.mono (hs.uint 16 HX.out.2.2.2.2.2.2.1.1 HX.out.2.2.2.2.2.2.1.2.1 HX.out.2.2.2.2.2.2.1.2.2) ?_; rintro x w6 ⟨rfl, hci, _⟩; have K6 := show Hid (CI w g T b5 e5 [.string (strOf au), .int .i64 (sq : Int), .int .i64 (st : Int), .slice none 0 0, .string ⟨#[]⟩, .slice none 0 0] w6) from hci; clear hci K5 hs)
      | (go_at_call 74; have _u := K4.out; clear _u; have hs := show CI w g T b3 e3 [.string (strOf au), .int .i64 (sq : Int), .int .i64 0, .slice none 0 0, .string ⟨#[]⟩, .slice none 0 0] (w4.setCell ⟨w.heap.size, 1, none⟩ (.int .i64 (sq : Int))) from K4.out.set 1 (.int .i64 (sq : Int)); refine Calls.mono (hs.uint MN HX.out.2.2.2.2.2.1.1 HX.out.2.2.2.2.2.1.2.1 HX.out.2.2.2.2.2.1.2.2) ?_; rintro x w5 ⟨rfl, hci, _⟩; have g2 := hci.box.cell (j := 2) rfl; have g2f := hci.box.frozen 2; have K5 := show Hid (CI w g T b4 e4 [.string (strOf au), .int .i64 (sq : Int), .int .i64 0, .slice none 0 0, .string ⟨#[]⟩, .slice none 0 0] w5) from hci; clear hci K4 hs)
      | (go_at_call 74; have _u := K3.out; clear _u; have hs := show CI w g T b2 e2 [.string (strOf au), .int .i64 0, .int .i64 0, .slice none 0 0, .string ⟨#[]⟩, .slice none 0 0] (w3.setCell ⟨w.heap.size, 0, none⟩ (.string (strOf au))) from K3.out.set 0 (.string (strOf au)); refine Calls.mono (hs.uint MN HX.out.2.2.2.2.1.1 HX.out.2.2.2.2.1.2.1 HX.out.2.2.2.2.1.2.2) ?_; rintro x w4 ⟨rfl, hci, _⟩; have g1 := hci.box.cell (j := 1) rfl; have g1f := hci.box.frozen 1; have K4 := show Hid (CI w g T b3 e3 [.string (strOf au), .int .i64 0, .int .i64 0, .slice none 0 0, .string ⟨#[]⟩, .slice none 0 0] w4) from hci; clear hci K3 hs)
      | (go_at_call 75; have _u := K2.out; clear _u; refine Calls.mono (K2.out.text 32 (by omega) HX.out.2.2.2.1 HX.out.2.2.1.1 HX.out.2.2.1.2.1 HX.out.2.2.1.2.2) ?_; rintro x w3 ⟨rfl, hci, _⟩; have g0 := hci.box.cell (j := 0) rfl; have g0f := hci.box.frozen 0; have K3 := show Hid (CI w g T b2 e2 [.string ⟨#[]⟩, .int .i64 0, .int .i64 0, .slice none 0 0, .string ⟨#[]⟩, .slice none 0 0] w3) from hci; clear hci K2)
      | (go_at_call 74; have _u := K1.out; clear _u; refine Calls.mono (K1.out.uint 1 rfl HX.out.1 HX.out.2.1) ?_; rintro x w2 ⟨rfl, hci, _⟩; have K2 := show Hid (CI w g T b1 e1 [.string ⟨#[]⟩, .int .i64 0, .int .i64 0, .slice none 0 0, .string ⟨#[]⟩, .slice none 0 0] w2) from hci; clear hci K1)
      | (go_at_call 73; refine Calls.mono (cread_far a n c bs HB.out.2.1 HB.out.2.2 _ (HB.out.1.after (after_alloc (After.refl w) _))) ?_; rintro x w1 ⟨g, a', c', he, hR, hA, hg, ha⟩; subst he; have K1 := show Hid (CI w g w1.heap.size bs 0 [.string ⟨#[]⟩, .int .i64 0, .int .i64 0, .slice none 0 0, .string ⟨#[]⟩, .slice none 0 0] w1) from ⟨After.trans (after_alloc (After.refl w) _) ha, ⟨a', c', hR, fun y hy => by have := (hA y hy).1; have := (hA y hy).2; simp at *; omega⟩, (RowIs.new w 25 [.string ⟨#[]⟩, .int .i64 0, .int .i64 0, .slice none 0 0, .string ⟨#[]⟩, .slice none 0 0]).below ha (by simp), by simp at hg; omega, hR.row.lt, Nat.le_refl _⟩; obtain ⟨T, hT⟩ : ∃ T, w1.heap.size = T := ⟨_, rfl⟩; rw [hT] at K1; clear hR hA hg ha hT))
    refine bodyPost_ret (ret25t Tryz.results46 _ _ w.heap.size _ rfl (row_same K9.out.1.box) rfl _ rfl) rfl ?_
    exact ⟨_, _, rfl, Below.row K9.out.1.aft (Nat.le_refl _) _, rfl, rfl, fun _ => by omega, fun ch e => by rw [HRK.out, if_neg z7] at e; cases e⟩
  have HRZ : Hid (readK bs = (getM b7).map fun l => ⟨au, (sq : Int), (st : Int), ds, nt, l⟩) := by unfold Hid; rw [HRK.out, if_pos z7]
  clear HRK
  subst z7
  obtain ⟨n7, hn7⟩ : ∃ k, b7.length = k := ⟨_, rfl⟩
  have hle := HX.out.2.2.2.2.2.2.2.2.2.2.le
  have heq := HX.out.2.2.2.2.2.2.2.2.2.2.eq
  rw [HB.out.2.1, hn7] at hle heq
  obtain ⟨k0, hk0⟩ : ∃ k, n - n7 = k := ⟨_, rfl⟩
  rw [hk0] at heq
  have HSB : Hid (n = n7 + k0) := by unfold Hid; omega
  have hk0n : k0 ≤ n := by omega
  have HN7 : Hid (b7.length = n7 ∧ bs.drop k0 = b7 ∧ n - k0 = n7) := ⟨hn7, heq, by omega⟩
  obtain ⟨a7, ha7⟩ : ∃ x, cutAt a k0 c = x := ⟨_, rfl⟩
  obtain ⟨c7, hc7⟩ : ∃ x, c - k0 = x := ⟨_, rfl⟩
  have SL : Hid (∀ W : World, (Instr.sliceAt 32 (.slice a n c) (some (.int .i64 (k0 : Int))) none none).run Tryz.prog W = .ok (.slice a7 n7 c7) W) := fun W => by have h := slice_from a n c k0 HCZ.out.2 HCZ.out.1 hk0n W; rw [ha7, hc7, HN7.out.2.2] at h; exact h
  have HA7 : Hid (BytesAt w a7 b7 ∧ n7 ≤ c7 ∧ (a7 = none → n7 = 0) ∧ n7 ≤ 140737488355328) := ⟨by have h := HB.out.1.cut k0 c (by rw [HB.out.2.1]; exact HCZ.out.1); rw [ha7, HN7.out.2.1] at h; exact h, by have := HCZ.out.1; omega, fun e => by rw [← ha7] at e; have := HCZ.out.2 (cutAt_none e); omega, by have := HB.out.2.2; omega⟩
  clear hn7 heq hk0 ha7 hc7
  cases hg : getM b7 with
  | none =>
    have HG : Hid (getM b7 = none) := hg
    clear hg
    go_enter Tryz.func46, Tryz.ntmps46
    go_wp2_with (first
      | (refine wpList_store_row rfl 25 (.tmp 2) (.tmp 48) rfl w.heap.size _ rfl rfl 25 _ (show RowIs (w11.setCell ⟨w.heap.size, 5, none⟩ (.slice none 0 0)) w.heap.size 25 [.string (strOf au), .int .i64 (sq : Int), .int .i64 (st : Int), .slice (some ⟨gh, 0, none⟩) nd nd, .string (strOf nt), .slice none 0 0] from K11.out.2.set 5 _) (by kernel_rfl) rfl (by kernel_rfl) ?_)
      | (refine wpList_load_row rfl 25 (.tmp 2) rfl w.heap.size rfl 25 _ (0, 0) _ (show RowIs (w11.setCell ⟨w.heap.size, 5, none⟩ (.slice none 0 0)) w.heap.size 25 [.string (strOf au), .int .i64 (sq : Int), .int .i64 (st : Int), .slice (some ⟨gh, 0, none⟩) nd nd, .string (strOf nt), .slice none 0 0] from K11.out.2.set 5 _) Tryz.underlying25 rfl (by kernel_rfl) ?_)
      | (go_at_call 79; have _u := K9.out; clear _u; refine Calls.mono (get_none a7 n7 c7 b7 HN7.out.1 HA7.out.2.1 HA7.out.2.2.1 HA7.out.2.2.2 w9 (HA7.out.1.after K9.out.1.aft) HG.out) ?_; rintro x w11 ⟨rfl, ha⟩; have hbx := K9.out.1.box.below ha K9.out.1.box.lt; have g5 := hbx.cell (j := 5) rfl; have g5f := hbx.frozen 5; have K11 := show Hid (After w w11 ∧ RowIs w11 w.heap.size 25 [.string (strOf au), .int .i64 (sq : Int), .int .i64 (st : Int), .slice (some ⟨gh, 0, none⟩) nd nd, .string (strOf nt), .slice none 0 0]) from ⟨After.trans K9.out.1.aft ha, hbx⟩; clear ha hbx)
      | (refine wpList_of_run rfl (x_slk (x := .tmp 37) (y := .tmp 42) (s := ⟨a, n, c⟩) (k := k0) rfl rfl rfl (SL.out _)) ?_)
      | (refine wpList_of_run rfl (x_subk (x := .tmp 39) (y := .tmp 41) (p := n) (q := n7) (k := k0) rfl rfl rfl HSB.out HB.out.2.2) ?_)
      | (go_at_call 80; have _u := K9.out; clear _u; refine Calls.mono (K9.out.1.left HN7.out.1) ?_; rintro x w10 ⟨rfl, hw⟩; have hw2 := hw.symm; clear hw; subst hw2)
      | (go_at_call 78; have _u := K8.out; clear _u; have hs := show CI w g T b7 0 [.string (strOf au), .int .i64 (sq : Int), .int .i64 (st : Int), .slice (some ⟨gh, 0, none⟩) nd nd, .string (strOf nt), .slice none 0 0] (w8.setCell ⟨w.heap.size, 4, none⟩ (.string (strOf nt))) from K8.out.1.set 4 (.string (strOf nt)); have hh := K8.out.2.set 4 (.string (strOf nt)); revert hs hh; generalize w8.setCell ⟨w.heap.size, 4, none⟩ (.string (strOf nt)) = w9; intro hs hh; refine Calls.mono hs.err ?_; rintro x w10 ⟨rfl, hw⟩; have hw2 := hw.symm; clear hw; subst hw2; have K9 := show Hid (CI w g T b7 0 [.string (strOf au), .int .i64 (sq : Int), .int .i64 (st : Int), .slice (some ⟨gh, 0, none⟩) nd nd, .string (strOf nt), .slice none 0 0] w9 ∧ HR w g gh ds w9) from ⟨hs, hh⟩; clear hs hh K8)
      | (go_at_call 75; have _u := K7.out; clear _u; have hs := show CI w g T b6 e6 [.string (strOf au), .int .i64 (sq : Int), .int .i64 (st : Int), .slice (some ⟨gh, 0, none⟩) nd nd, .string ⟨#[]⟩, .slice none 0 0] (w7.setCell ⟨w.heap.size, 3, none⟩ (.slice (some ⟨gh, 0, none⟩) nd nd)) from K7.out.1.set 3 (.slice (some ⟨gh, 0, none⟩) nd nd); refine Calls.mono (hs.text 1024 (by omega) HX.out.2.2.2.2.2.2.2.2.1 HX.out.2.2.2.2.2.2.2.2.2.1.1 HX.out.2.2.2.2.2.2.2.2.2.1.2.1 HX.out.2.2.2.2.2.2.2.2.2.1.2.2) ?_; rintro x w8 ⟨rfl, hci, hbt⟩; have g4 := hci.box.cell (j := 4) rfl; have g4f := hci.box.frozen 4; have K8 := show Hid (CI w g T b7 0 [.string (strOf au), .int .i64 (sq : Int), .int .i64 (st : Int), .slice (some ⟨gh, 0, none⟩) nd nd, .string ⟨#[]⟩, .slice none 0 0] w8 ∧ HR w g gh ds w8) from ⟨hci, (K7.out.2.set 3 _).but hbt⟩; clear hci hbt K7 hs)
      | (go_at_call 76; have _u := K6.out; clear _u; refine Calls.mono (taken_any K6.out nd hnd HX.out.2.2.2.2.2.2.2.1) ?_; rintro x w7 ⟨gh, he, hci, hr⟩; subst he; have g3 := hci.box.cell (j := 3) rfl; have g3f := hci.box.frozen 3; have K7 := show Hid (CI w g T b6 e6 [.string (strOf au), .int .i64 (sq : Int), .int .i64 (st : Int), .slice none 0 0, .string ⟨#[]⟩, .slice none 0 0] w7 ∧ HR w g gh ds w7) from ⟨hci, hr⟩; clear hci hr K6)
      | (go_at_call 74; have _u := K5.out; clear _u; have hs := show CI w g T b4 e4 [.string (strOf au), .int .i64 (sq : Int), .int .i64 (st : Int), .slice none 0 0, .string ⟨#[]⟩, .slice none 0 0] (w5.setCell ⟨w.heap.size, 2, none⟩ (.int .i64 (st : Int))) from K5.out.set 2 (.int .i64 (st : Int)); refine Calls.mono (hs.uint 16 HX.out.2.2.2.2.2.2.1.1 HX.out.2.2.2.2.2.2.1.2.1 HX.out.2.2.2.2.2.2.1.2.2) ?_; rintro x w6 ⟨rfl, hci, _⟩; have K6 := show Hid (CI w g T b5 e5 [.string (strOf au), .int .i64 (sq : Int), .int .i64 (st : Int), .slice none 0 0, .string ⟨#[]⟩, .slice none 0 0] w6) from hci; clear hci K5 hs)
      | (go_at_call 74; have _u := K4.out; clear _u; have hs := show CI w g T b3 e3 [.string (strOf au), .int .i64 (sq : Int), .int .i64 0, .slice none 0 0, .string ⟨#[]⟩, .slice none 0 0] (w4.setCell ⟨w.heap.size, 1, none⟩ (.int .i64 (sq : Int))) from K4.out.set 1 (.int .i64 (sq : Int)); refine Calls.mono (hs.uint MN HX.out.2.2.2.2.2.1.1 HX.out.2.2.2.2.2.1.2.1 HX.out.2.2.2.2.2.1.2.2) ?_; rintro x w5 ⟨rfl, hci, _⟩; have g2 := hci.box.cell (j := 2) rfl; have g2f := hci.box.frozen 2; have K5 := show Hid (CI w g T b4 e4 [.string (strOf au), .int .i64 (sq : Int), .int .i64 0, .slice none 0 0, .string ⟨#[]⟩, .slice none 0 0] w5) from hci; clear hci K4 hs)
      | (go_at_call 74; have _u := K3.out; clear _u; have hs := show CI w g T b2 e2 [.string (strOf au), .int .i64 0, .int .i64 0, .slice none 0 0, .string ⟨#[]⟩, .slice none 0 0] (w3.setCell ⟨w.heap.size, 0, none⟩ (.string (strOf au))) from K3.out.set 0 (.string (strOf au)); refine Calls.mono (hs.uint MN HX.out.2.2.2.2.1.1 HX.out.2.2.2.2.1.2.1 HX.out.2.2.2.2.1.2.2) ?_; rintro x w4 ⟨rfl, hci, _⟩; have g1 := hci.box.cell (j := 1) rfl; have g1f := hci.box.frozen 1; have K4 := show Hid (CI w g T b3 e3 [.string (strOf au), .int .i64 0, .int .i64 0, .slice none 0 0, .string ⟨#[]⟩, .slice none 0 0] w4) from hci; clear hci K3 hs)
      | (go_at_call 75; have _u := K2.out; clear _u; refine Calls.mono (K2.out.text 32 (by omega) HX.out.2.2.2.1 HX.out.2.2.1.1 HX.out.2.2.1.2.1 HX.out.2.2.1.2.2) ?_; rintro x w3 ⟨rfl, hci, _⟩; have g0 := hci.box.cell (j := 0) rfl; have g0f := hci.box.frozen 0; have K3 := show Hid (CI w g T b2 e2 [.string ⟨#[]⟩, .int .i64 0, .int .i64 0, .slice none 0 0, .string ⟨#[]⟩, .slice none 0 0] w3) from hci; clear hci K2)
      | (go_at_call 74; have _u := K1.out; clear _u; refine Calls.mono (K1.out.uint 1 rfl HX.out.1 HX.out.2.1) ?_; rintro x w2 ⟨rfl, hci, _⟩; have K2 := show Hid (CI w g T b1 e1 [.string ⟨#[]⟩, .int .i64 0, .int .i64 0, .slice none 0 0, .string ⟨#[]⟩, .slice none 0 0] w2) from hci; clear hci K1)
      | (go_at_call 73; refine Calls.mono (cread_far a n c bs HB.out.2.1 HB.out.2.2 _ (HB.out.1.after (after_alloc (After.refl w) _))) ?_; rintro x w1 ⟨g, a', c', he, hR, hA, hg, ha⟩; subst he; have K1 := show Hid (CI w g w1.heap.size bs 0 [.string ⟨#[]⟩, .int .i64 0, .int .i64 0, .slice none 0 0, .string ⟨#[]⟩, .slice none 0 0] w1) from ⟨After.trans (after_alloc (After.refl w) _) ha, ⟨a', c', hR, fun y hy => by have := (hA y hy).1; have := (hA y hy).2; simp at *; omega⟩, (RowIs.new w 25 [.string ⟨#[]⟩, .int .i64 0, .int .i64 0, .slice none 0 0, .string ⟨#[]⟩, .slice none 0 0]).below ha (by simp), by simp at hg; omega, hR.row.lt, Nat.le_refl _⟩; obtain ⟨T, hT⟩ : ∃ T, w1.heap.size = T := ⟨_, rfl⟩; rw [hT] at K1; clear hR hA hg ha hT))
    have hfin : RowIs ((w11.setCell ⟨w.heap.size, 5, none⟩ (.slice none 0 0)).setRow w.heap.size ([.string (strOf au), .int .i64 (sq : Int), .int .i64 (st : Int), .slice (some ⟨gh, 0, none⟩) nd nd, .string (strOf nt), .slice none 0 0] : List Value).toArray) w.heap.size 25 [.string (strOf au), .int .i64 (sq : Int), .int .i64 (st : Int), .slice (some ⟨gh, 0, none⟩) nd nd, .string (strOf nt), .slice none 0 0] := row_same (K11.out.2.set 5 _)
    have haf : After w ((w11.setCell ⟨w.heap.size, 5, none⟩ (.slice none 0 0)).setRow w.heap.size ([.string (strOf au), .int .i64 (sq : Int), .int .i64 (st : Int), .slice (some ⟨gh, 0, none⟩) nd nd, .string (strOf nt), .slice none 0 0] : List Value).toArray) := Below.row (Below.setCell K11.out.1 (p := ⟨w.heap.size, 5, none⟩) (Nat.le_refl _) _) (Nat.le_refl _) _
    refine bodyPost_ret (ret25t Tryz.results46 _ _ w.heap.size _ rfl hfin rfl _ rfl) rfl ?_
    exact ⟨_, _, rfl, haf, rfl, rfl, fun _ => by omega, fun ch e => by rw [HRZ.out, HG.out] at e; cases e⟩
  | some l =>
    have HG : Hid (getM b7 = some l) := hg
    obtain ⟨m, hm⟩ : ∃ m, l.length = m := ⟨_, rfl⟩
    have HM : Hid (l.length = m ∧ Good l ∧ layB l = b7) := by
      obtain ⟨_, h2, h3⟩ := getM_some (by rw [HN7.out.1]; have := HB.out.2.2; unfold maxLen; omega) hg
      exact ⟨hm, h3, h2⟩
    clear hg hm
    go_enter Tryz.func46, Tryz.ntmps46
    go_wp2_with (first
      | (refine wpList_store_row rfl 25 (.tmp 2) (.tmp 48) rfl w.heap.size _ rfl rfl 25 _ (show RowIs (w11.setCell ⟨w.heap.size, 5, none⟩ (.slice (some ⟨go, 0, none⟩) m m)) w.heap.size 25 [.string (strOf au), .int .i64 (sq : Int), .int .i64 (st : Int), .slice (some ⟨gh, 0, none⟩) nd nd, .string (strOf nt), .slice (some ⟨go, 0, none⟩) m m] from K11.out.2.1.set 5 _) (by kernel_rfl) rfl (by kernel_rfl) ?_)
      | (refine wpList_load_row rfl 25 (.tmp 2) rfl w.heap.size rfl 25 _ (0, 0) _ (show RowIs (w11.setCell ⟨w.heap.size, 5, none⟩ (.slice (some ⟨go, 0, none⟩) m m)) w.heap.size 25 [.string (strOf au), .int .i64 (sq : Int), .int .i64 (st : Int), .slice (some ⟨gh, 0, none⟩) nd nd, .string (strOf nt), .slice (some ⟨go, 0, none⟩) m m] from K11.out.2.1.set 5 _) Tryz.underlying25 rfl (by kernel_rfl) ?_)
      | (go_at_call 79; have _u := K9.out; clear _u; refine Calls.mono (get_good a7 n7 c7 l m HM.out.1 HM.out.2.1 HM.out.2.2 HN7.out.1 HA7.out.2.1 HA7.out.2.2.1 HA7.out.2.2.2 w9 (HA7.out.1.after K9.out.1.aft)) ?_; rintro x w11 ⟨go, he, hO, ha, hgz, hgr⟩; subst he; have KF := show Hid (w.heap.size < go ∧ RowIs w11 go 46 (cellsOf l) ∧ RowIs w11 gh 38 (c8 ds.flatten)) from ⟨Nat.lt_of_lt_of_le K9.out.1.box.lt hgz, hgr, K9.out.2.row.below ha K9.out.2.row.lt⟩; have hbx := K9.out.1.box.below ha K9.out.1.box.lt; have g5 := hbx.cell (j := 5) rfl; have g5f := hbx.frozen 5; have K11 := show Hid (After w w11 ∧ RowIs w11 w.heap.size 25 [.string (strOf au), .int .i64 (sq : Int), .int .i64 (st : Int), .slice (some ⟨gh, 0, none⟩) nd nd, .string (strOf nt), .slice none 0 0] ∧ OpsAt w11 (some ⟨go, 0, none⟩) l ∧ HS.HsAt w11 (some ⟨gh, 0, none⟩) ds) from ⟨After.trans K9.out.1.aft ha, hbx, hO, K9.out.2.at_.after ha⟩; clear ha hbx hO hgz hgr)
      | (refine wpList_of_run rfl (x_slk (x := .tmp 37) (y := .tmp 42) (s := ⟨a, n, c⟩) (k := k0) rfl rfl rfl (SL.out _)) ?_)
      | (refine wpList_of_run rfl (x_subk (x := .tmp 39) (y := .tmp 41) (p := n) (q := n7) (k := k0) rfl rfl rfl HSB.out HB.out.2.2) ?_)
      | (go_at_call 80; have _u := K9.out; clear _u; refine Calls.mono (K9.out.1.left HN7.out.1) ?_; rintro x w10 ⟨rfl, hw⟩; have hw2 := hw.symm; clear hw; subst hw2)
      | (go_at_call 78; have _u := K8.out; clear _u; have hs := show CI w g T b7 0 [.string (strOf au), .int .i64 (sq : Int), .int .i64 (st : Int), .slice (some ⟨gh, 0, none⟩) nd nd, .string (strOf nt), .slice none 0 0] (w8.setCell ⟨w.heap.size, 4, none⟩ (.string (strOf nt))) from K8.out.1.set 4 (.string (strOf nt)); have hh := K8.out.2.set 4 (.string (strOf nt)); revert hs hh; generalize w8.setCell ⟨w.heap.size, 4, none⟩ (.string (strOf nt)) = w9; intro hs hh; refine Calls.mono hs.err ?_; rintro x w10 ⟨rfl, hw⟩; have hw2 := hw.symm; clear hw; subst hw2; have K9 := show Hid (CI w g T b7 0 [.string (strOf au), .int .i64 (sq : Int), .int .i64 (st : Int), .slice (some ⟨gh, 0, none⟩) nd nd, .string (strOf nt), .slice none 0 0] w9 ∧ HR w g gh ds w9) from ⟨hs, hh⟩; clear hs hh K8)
      | (go_at_call 75; have _u := K7.out; clear _u; have hs := show CI w g T b6 e6 [.string (strOf au), .int .i64 (sq : Int), .int .i64 (st : Int), .slice (some ⟨gh, 0, none⟩) nd nd, .string ⟨#[]⟩, .slice none 0 0] (w7.setCell ⟨w.heap.size, 3, none⟩ (.slice (some ⟨gh, 0, none⟩) nd nd)) from K7.out.1.set 3 (.slice (some ⟨gh, 0, none⟩) nd nd); refine Calls.mono (hs.text 1024 (by omega) HX.out.2.2.2.2.2.2.2.2.1 HX.out.2.2.2.2.2.2.2.2.2.1.1 HX.out.2.2.2.2.2.2.2.2.2.1.2.1 HX.out.2.2.2.2.2.2.2.2.2.1.2.2) ?_; rintro x w8 ⟨rfl, hci, hbt⟩; have g4 := hci.box.cell (j := 4) rfl; have g4f := hci.box.frozen 4; have K8 := show Hid (CI w g T b7 0 [.string (strOf au), .int .i64 (sq : Int), .int .i64 (st : Int), .slice (some ⟨gh, 0, none⟩) nd nd, .string ⟨#[]⟩, .slice none 0 0] w8 ∧ HR w g gh ds w8) from ⟨hci, (K7.out.2.set 3 _).but hbt⟩; clear hci hbt K7 hs)
      | (go_at_call 76; have _u := K6.out; clear _u; refine Calls.mono (taken_any K6.out nd hnd HX.out.2.2.2.2.2.2.2.1) ?_; rintro x w7 ⟨gh, he, hci, hr⟩; subst he; have g3 := hci.box.cell (j := 3) rfl; have g3f := hci.box.frozen 3; have K7 := show Hid (CI w g T b6 e6 [.string (strOf au), .int .i64 (sq : Int), .int .i64 (st : Int), .slice none 0 0, .string ⟨#[]⟩, .slice none 0 0] w7 ∧ HR w g gh ds w7) from ⟨hci, hr⟩; clear hci hr K6)
      | (go_at_call 74; have _u := K5.out; clear _u; have hs := show CI w g T b4 e4 [.string (strOf au), .int .i64 (sq : Int), .int .i64 (st : Int), .slice none 0 0, .string ⟨#[]⟩, .slice none 0 0] (w5.setCell ⟨w.heap.size, 2, none⟩ (.int .i64 (st : Int))) from K5.out.set 2 (.int .i64 (st : Int)); refine Calls.mono (hs.uint 16 HX.out.2.2.2.2.2.2.1.1 HX.out.2.2.2.2.2.2.1.2.1 HX.out.2.2.2.2.2.2.1.2.2) ?_; rintro x w6 ⟨rfl, hci, _⟩; have K6 := show Hid (CI w g T b5 e5 [.string (strOf au), .int .i64 (sq : Int), .int .i64 (st : Int), .slice none 0 0, .string ⟨#[]⟩, .slice none 0 0] w6) from hci; clear hci K5 hs)
      | (go_at_call 74; have _u := K4.out; clear _u; have hs := show CI w g T b3 e3 [.string (strOf au), .int .i64 (sq : Int), .int .i64 0, .slice none 0 0, .string ⟨#[]⟩, .slice none 0 0] (w4.setCell ⟨w.heap.size, 1, none⟩ (.int .i64 (sq : Int))) from K4.out.set 1 (.int .i64 (sq : Int)); refine Calls.mono (hs.uint MN HX.out.2.2.2.2.2.1.1 HX.out.2.2.2.2.2.1.2.1 HX.out.2.2.2.2.2.1.2.2) ?_; rintro x w5 ⟨rfl, hci, _⟩; have g2 := hci.box.cell (j := 2) rfl; have g2f := hci.box.frozen 2; have K5 := show Hid (CI w g T b4 e4 [.string (strOf au), .int .i64 (sq : Int), .int .i64 0, .slice none 0 0, .string ⟨#[]⟩, .slice none 0 0] w5) from hci; clear hci K4 hs)
      | (go_at_call 74; have _u := K3.out; clear _u; have hs := show CI w g T b2 e2 [.string (strOf au), .int .i64 0, .int .i64 0, .slice none 0 0, .string ⟨#[]⟩, .slice none 0 0] (w3.setCell ⟨w.heap.size, 0, none⟩ (.string (strOf au))) from K3.out.set 0 (.string (strOf au)); refine Calls.mono (hs.uint MN HX.out.2.2.2.2.1.1 HX.out.2.2.2.2.1.2.1 HX.out.2.2.2.2.1.2.2) ?_; rintro x w4 ⟨rfl, hci, _⟩; have g1 := hci.box.cell (j := 1) rfl; have g1f := hci.box.frozen 1; have K4 := show Hid (CI w g T b3 e3 [.string (strOf au), .int .i64 0, .int .i64 0, .slice none 0 0, .string ⟨#[]⟩, .slice none 0 0] w4) from hci; clear hci K3 hs)
      | (go_at_call 75; have _u := K2.out; clear _u; refine Calls.mono (K2.out.text 32 (by omega) HX.out.2.2.2.1 HX.out.2.2.1.1 HX.out.2.2.1.2.1 HX.out.2.2.1.2.2) ?_; rintro x w3 ⟨rfl, hci, _⟩; have g0 := hci.box.cell (j := 0) rfl; have g0f := hci.box.frozen 0; have K3 := show Hid (CI w g T b2 e2 [.string ⟨#[]⟩, .int .i64 0, .int .i64 0, .slice none 0 0, .string ⟨#[]⟩, .slice none 0 0] w3) from hci; clear hci K2)
      | (go_at_call 74; have _u := K1.out; clear _u; refine Calls.mono (K1.out.uint 1 rfl HX.out.1 HX.out.2.1) ?_; rintro x w2 ⟨rfl, hci, _⟩; have K2 := show Hid (CI w g T b1 e1 [.string ⟨#[]⟩, .int .i64 0, .int .i64 0, .slice none 0 0, .string ⟨#[]⟩, .slice none 0 0] w2) from hci; clear hci K1)
      | (go_at_call 73; refine Calls.mono (cread_far a n c bs HB.out.2.1 HB.out.2.2 _ (HB.out.1.after (after_alloc (After.refl w) _))) ?_; rintro x w1 ⟨g, a', c', he, hR, hA, hg, ha⟩; subst he; have K1 := show Hid (CI w g w1.heap.size bs 0 [.string ⟨#[]⟩, .int .i64 0, .int .i64 0, .slice none 0 0, .string ⟨#[]⟩, .slice none 0 0] w1) from ⟨After.trans (after_alloc (After.refl w) _) ha, ⟨a', c', hR, fun y hy => by have := (hA y hy).1; have := (hA y hy).2; simp at *; omega⟩, (RowIs.new w 25 [.string ⟨#[]⟩, .int .i64 0, .int .i64 0, .slice none 0 0, .string ⟨#[]⟩, .slice none 0 0]).below ha (by simp), by simp at hg; omega, hR.row.lt, Nat.le_refl _⟩; obtain ⟨T, hT⟩ : ∃ T, w1.heap.size = T := ⟨_, rfl⟩; rw [hT] at K1; clear hR hA hg ha hT))
    have hfin : RowIs ((w11.setCell ⟨w.heap.size, 5, none⟩ (.slice (some ⟨go, 0, none⟩) m m)).setRow w.heap.size ([.string (strOf au), .int .i64 (sq : Int), .int .i64 (st : Int), .slice (some ⟨gh, 0, none⟩) nd nd, .string (strOf nt), .slice (some ⟨go, 0, none⟩) m m] : List Value).toArray) w.heap.size 25 [.string (strOf au), .int .i64 (sq : Int), .int .i64 (st : Int), .slice (some ⟨gh, 0, none⟩) nd nd, .string (strOf nt), .slice (some ⟨go, 0, none⟩) m m] := row_same (K11.out.2.1.set 5 _)
    have haf : After w ((w11.setCell ⟨w.heap.size, 5, none⟩ (.slice (some ⟨go, 0, none⟩) m m)).setRow w.heap.size ([.string (strOf au), .int .i64 (sq : Int), .int .i64 (st : Int), .slice (some ⟨gh, 0, none⟩) nd nd, .string (strOf nt), .slice (some ⟨go, 0, none⟩) m m] : List Value).toArray) := Below.row (Below.setCell K11.out.1 (p := ⟨w.heap.size, 5, none⟩) (Nat.le_refl _) _) (Nat.le_refl _) _
    refine bodyPost_ret (ret25t Tryz.results46 _ _ w.heap.size _ rfl hfin rfl _ rfl) rfl ?_
    refine ⟨_, _, rfl, haf, rfl, rfl, fun e => (by rw [HRZ.out, HG.out] at e; cases e), fun ch e => ?_⟩
    rw [HRZ.out, HG.out] at e
    cases e
    refine ⟨rfl, ⟨some ⟨gh, 0, none⟩, nd, nd⟩, ⟨some ⟨go, 0, none⟩, m, m⟩, rfl, ?_, ?_⟩
    · have hk1 : But w.heap.size w11 ((w11.setCell ⟨w.heap.size, 5, none⟩ (.slice (some ⟨go, 0, none⟩) m m)).setRow w.heap.size ([.string (strOf au), .int .i64 (sq : Int), .int .i64 (st : Int), .slice (some ⟨gh, 0, none⟩) nd nd, .string (strOf nt), .slice (some ⟨go, 0, none⟩) m m] : List Value).toArray) := ((But.refl _ _).setCell 5 _).setRow _
      exact ⟨hk1.bytes K11.out.2.2.2 (fun y hy => by cases hy; have := K9.out.2.nw; show gh ≠ w.heap.size; omega), fun hne => by
        obtain ⟨bb, oo, ee, hcc⟩ := K11.out.2.2.1 hne
        cases ee
        exact ⟨go, 0, rfl, fun j y hj i v hv => hk1.cell (p := ⟨go, 0 + j * 5 + i, none⟩) (fun e => by have h1 := hcc 0 _ (List.getElem?_eq_getElem (List.length_pos_iff.2 hne)) 0 _ rfl; have h2 := K11.out.2.1.cell (j := 0) rfl; have e2 : go = w.heap.size := e; rw [e2] at h1; have h3 := h1.symm.trans h2; cases h3) (hcc j y hj i v hv)⟩, HLN.out.2.2.1, HM.out.1, HLN.out.2.2.2, HM.out.2.1.ok, by show -9223372036854775808 ≤ (sq : Int); omega, by show (sq : Int) ≤ _; omega, by show -9223372036854775808 ≤ (st : Int); omega, by show (st : Int) ≤ _; omega, by have := HLN.out.1; unfold maxLen; show au.length ≤ _; omega, by have := HLN.out.2.1; unfold maxLen; show nt.length ≤ _; omega, by show nd ≤ _; omega, by have := HM.out.2.1.few; have := HM.out.1; show m ≤ _; omega⟩
    · have hk2 : But w.heap.size w11 ((w11.setCell ⟨w.heap.size, 5, none⟩ (.slice (some ⟨go, 0, none⟩) m m)).setRow w.heap.size ([.string (strOf au), .int .i64 (sq : Int), .int .i64 (st : Int), .slice (some ⟨gh, 0, none⟩) nd nd, .string (strOf nt), .slice (some ⟨go, 0, none⟩) m m] : List Value).toArray) := ((But.refl _ _).setCell 5 _).setRow _
      exact ⟨⟨gh, rfl, Nat.le_of_lt K9.out.2.nw, hk2.row KF.out.2.2 (by have := K9.out.2.nw; omega)⟩, ⟨go, rfl, Nat.le_of_lt KF.out.1, hk2.row KF.out.2.1 (by have := KF.out.1; omega)⟩⟩
end Go.Proofs.YtgmdolpjkaajfaaGreatDoor
