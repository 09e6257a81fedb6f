/-
  THE WALKS OF change.Hash, stemmaref08.Same (of equal ones) AND stemmalaw08.awake.
-/
import Derived.Test.YtgmdolpjkaajfaaGreatDoorCM
import Derived.Test.YtgmdolpjkaajfaaGreatDoorSB
namespace Go.Proofs.YtgmdolpjkaajfaaGreatDoor
open Go.RowKit Leb
def hashC (x : Chg) : List UInt8 := if chgE x = 0 then SH.sumP (layC x) else zeroHash
theorem hashC_len (x : Chg) : (hashC x).length = 32 := by unfold hashC; split; exact SH.sumP_len _; rfl
theorem Tab_after {w w' : World} (h : SH.Tab w) (ha : After w w') : SH.Tab w' := h.below ha h.1
theorem size38a (s : List UInt8) (hs : s.length = 32) : (Tryz.prog.info? 38).map (·.size) = some (c8 s).toArray.size := HS.size24a hs
theorem ret38 {fn : Func} {p : Tmp} (h : fn.results = #[.cell p 38]) (tmps : Array Value) (w : World) (g : Nat) (s : List UInt8) (hs : s.length = 32) (hp : tmps.getD p undef = .pointer (some ⟨g, 0, none⟩)) (hg : RowIs w g 38 (c8 s)) : (results fn tmps).run Tryz.prog w = .ok (.agg (c8 s).toArray) w :=
  results_cell_row h tmps w g 38 _ (0, 0) _ hp hg Tryz.underlying38 rfl (size38a s hs)
theorem sum_k (a : Option Addr) (n c : Nat) (bs : List UInt8) (hn : bs.length = n) (hc : n ≤ c) (hb : n ≤ 1000000000) (w : World) (ht : SH.Tab w) (hat : BytesAt w a bs) :
    Calls Tryz.prog 23 #[.slice a n c] w fun e w' => e = .returned (.agg (c8 (SH.sumP bs)).toArray) ∧ After w w' :=
  SH.sum_any a bs n c hn.symm hc w ht hat (fun hne b o e => by
    obtain ⟨b', o', e', hcc⟩ := hat hne
    rw [e] at e'
    cases e'
    exact World.block_lt_of_cell? w _ (hcc 0 (List.length_pos_iff.2 hne))) (by omega)

set_option maxRecDepth 100000 in
set_option maxHeartbeats 2400000 in
theorem hash_any (x : Chg) (d p : Sl) (w : World) (hx : ChAt w x d p) (ht : SH.Tab w) :
    Calls Tryz.prog 19 #[cV x d p] w fun e w' => e = .returned (.agg (c8 (hashC x)).toArray) ∧ After w w' := by
  have hl : chgE x = 0 → (layC x).length ≤ 1000000000 := fun h => Nat.le_trans (CGood.len ⟨chgE_zero.1 h, hx.d32, hx.ok⟩) (by omega)
  have HF : Hid (ChAt w x d p ∧ SH.Tab w ∧ (chgE x = 0 → (layC x).length ≤ 1000000000)) := ⟨hx, ht, hl⟩
  obtain ⟨q, hq⟩ : ∃ q, chgE x = q := ⟨_, rfl⟩
  obtain ⟨B, hB⟩ : ∃ B, chgB x = B := ⟨_, rfl⟩
  have HQ : Hid (chgE x = q ∧ chgB x = B) := ⟨hq, hB⟩
  obtain ⟨w0, hw0⟩ : ∃ w0, ((w.alloc (.cells (cc x d p).toArray 25)).alloc (.cells (c8 zeroHash).toArray 38)) = w0 := ⟨_, rfl⟩
  have H0 : Hid (After w w0 ∧ RowIs w0 w.heap.size 25 (cc x d p) ∧ RowIs w0 (w.heap.size + 1) 38 (c8 zeroHash)) := by
    refine ⟨by rw [← hw0]; exact after_alloc (after_alloc (After.refl w) _) _, by rw [← hw0]; exact (RowIs.new w 25 (cc x d p)).alloc _, ?_⟩
    have h := RowIs.new (w.alloc (.cells (cc x d p).toArray 25)) 38 (c8 zeroHash)
    rw [← hw0]
    simpa using h
  have hw0' : (w.alloc (.cells (cc x d p).toArray 25)).alloc (.cells #[.int .u8 0, .int .u8 0, .int .u8 0, .int .u8 0, .int .u8 0, .int .u8 0, .int .u8 0, .int .u8 0, .int .u8 0, .int .u8 0, .int .u8 0, .int .u8 0, .int .u8 0, .int .u8 0, .int .u8 0, .int .u8 0, .int .u8 0, .int .u8 0, .int .u8 0, .int .u8 0, .int .u8 0, .int .u8 0, .int .u8 0, .int .u8 0, .int .u8 0, .int .u8 0, .int .u8 0, .int .u8 0, .int .u8 0, .int .u8 0, .int .u8 0, .int .u8 0] 38) = w0 := hw0
  clear hx ht hl hq hB hw0
  by_cases hq0 : q = 0
  case neg =>
    have fi : ¬ (q : Int) = 0 := by omega
    have fb : ((q : Int) == 0) = false := beq_eq_false_iff_ne.2 fi
    have fn : ((q : Int) != 0) = true := by simp [bne, fb]
    have HH : Hid (hashC x = zeroHash) := by unfold Hid hashC; rw [HQ.out.1, if_neg hq0]
    go_enter Tryz.func19, Tryz.ntmps19
    go_wp2_with (first
      | (refine wpList_store_row rfl 38 (.tmp 2) (.tmp 12) rfl (w.heap.size + 1) (c8 zeroHash).toArray rfl rfl 38 _ H1.out.2 (size38a zeroHash rfl) rfl (HS.hs_one zeroHash) ?_)
      | (go_at_call 17; refine Calls.mono (cput_k x d p w0 (HF.out.1.after H0.out.1) HQ.out.1 HQ.out.2) ?_; rintro e w1 ⟨v1, rfl, ho, ha⟩; have H1 := show Hid (After w w1 ∧ RowIs w1 (w.heap.size + 1) 38 (c8 zeroHash)) from ⟨After.trans H0.out.1 ha, H0.out.2.2.below ha H0.out.2.2.lt⟩; clear ho ha)
      | (refine wpList_load_row rfl 25 (.tmp 1) rfl w.heap.size rfl 25 _ (0, 0) _ H0.out.2.1 Tryz.underlying25 rfl (by kernel_rfl) ?_))
    refine bodyPost_ret (ret38 Tryz.results19 _ _ (w.heap.size + 1) zeroHash rfl rfl (H1.out.2.setRow (c8 zeroHash))) rfl ?_
    exact ⟨by rw [HH.out], Below.row H1.out.1 (by omega) _⟩
  subst hq0
  have HBL : Hid (layC x = B ∧ hashC x = SH.sumP B) := by
    have h := HQ.out.2
    unfold chgB at h
    rw [HQ.out.1, if_pos rfl] at h
    exact ⟨h, by unfold hashC; rw [HQ.out.1, if_pos rfl, h]⟩
  obtain ⟨k, hk⟩ : ∃ k, B.length = k := ⟨_, rfl⟩
  have HK : Hid (B.length = k ∧ k ≤ 1000000000) := ⟨hk, by rw [← hk, ← HBL.out.1]; exact HF.out.2.2 HQ.out.1⟩
  clear hk
  go_enter Tryz.func19, Tryz.ntmps19
  go_wp2_with (first
    | (refine wpList_store_row rfl 38 (.tmp 2) (.tmp 14) rfl (w.heap.size + 1) (c8 (SH.sumP B)).toArray rfl rfl 38 _ H2.out.2 (size38a _ (SH.sumP_len _)) (by simp [c8_len, SH.sumP_len, zeroHash]) (HS.hs_one (SH.sumP B)) ?_)
    | (go_at_call 23; refine Calls.mono (sum_k a1 k c1 B HK.out.1 H1.out.2.2.2 HK.out.2 w1 (Tab_after HF.out.2.1 H1.out.1) H1.out.2.2.1) ?_; rintro e w2 ⟨rfl, ha⟩; have H2 := show Hid (After w w2 ∧ RowIs w2 (w.heap.size + 1) 38 (c8 zeroHash)) from ⟨After.trans H1.out.1 ha, H1.out.2.1.below ha H1.out.2.1.lt⟩; clear ha)
    | (go_at_call 17; refine Calls.mono (cput_k x d p w0 (HF.out.1.after H0.out.1) HQ.out.1 HQ.out.2) ?_; rintro e w1 ⟨v1, rfl, ho, ha⟩; obtain ⟨a1, c1, he1, hat1, hc1, _⟩ := own_sl ho HK.out.1; subst he1; have H1 := show Hid (After w w1 ∧ RowIs w1 (w.heap.size + 1) 38 (c8 zeroHash) ∧ BytesAt w1 a1 B ∧ k ≤ c1) from ⟨After.trans H0.out.1 ha, H0.out.2.2.below ha H0.out.2.2.lt, hat1, hc1⟩; clear ho ha hat1 hc1)
    | (refine wpList_load_row rfl 25 (.tmp 1) rfl w.heap.size rfl 25 _ (0, 0) _ H0.out.2.1 Tryz.underlying25 rfl (by kernel_rfl) ?_))
  refine bodyPost_ret (ret38 Tryz.results19 _ _ (w.heap.size + 1) (SH.sumP B) (SH.sumP_len _) rfl (H2.out.2.setRow (c8 (SH.sumP B)))) rfl ?_
  exact ⟨by rw [HBL.out.2], Below.row H2.out.1 (by omega) _⟩
section
variable {ops : Array Oper} {rest : List Oper} {o : Oper} {a : Act} {Q : Exit → Act → World → Prop} {w : World}
theorem wpListG_of_run {w' : World} {v : Value} (hw : Region.wanted o (yielded ops a.tmps) = true) (hr : (execOp a.eval o).run Tryz.prog w = .ok (.value v) w') (h : wpList Tryz.prog ops Q rest (a.put o.dst v) w') : wpList Tryz.prog ops Q (o :: rest) a w :=
  wpList_step fun K hK => by rw [if_pos hw]; unfold Oper.wp; rw [hr]; exact hK _ _ h
theorem x_row25 {x : Operand} {g : Nat} {cs : List Value} (hop : o.op = .load 25 x) (hx : a.eval x = .pointer (some ⟨g, 0, none⟩)) (hr : RowIs w g 25 cs) (hl : cs.length = 6) : (execOp a.eval o).run Tryz.prog w = .ok (.value (.agg cs.toArray)) w := by
  have hi : (Tryz.prog.info? 25).map (·.size) = some cs.toArray.size := by rw [show (Tryz.prog.info? 25).map (·.size) = some 6 by kernel_rfl]; simp [hl]
  unfold execOp
  simp only [hop, hx, Instr.loadAt, Instr.sureAddr, Sem.run_bind, Sem.run_pure, Result.andThen_ok, run_loadVar_row w g 25 25 cs.toArray (0, 0) _ hr Tryz.underlying25 rfl hi]
end

set_option maxRecDepth 100000 in
set_option maxHeartbeats 2400000 in
theorem rsame_eq (x : Chg) (d p d' p' : Sl) (w : World) (h : ChAt w x d p) (h' : ChAt w x d' p') :
    Calls Tryz.prog 14 #[cV x d p, cV x d' p'] w fun e w' => e = .returned (.bool true) ∧ After w w' := by
  have HF : Hid (ChAt w x d p ∧ ChAt w x d' p') := ⟨h, h'⟩
  clear h h'
  obtain ⟨au, sq, st, ds, nt, os⟩ := x
  go_enter Tryz.func14, Tryz.ntmps14
  go_wp2_with (first
    | (go_at_call 30; refine Calls.mono (rsame16 p.a p'.a p.c p'.c os os p.n p'.n HF.out.1.pn HF.out.2.pn HF.out.1.pb w1 (HF.out.1.ops.after H1.out) (HF.out.2.ops.after H1.out)) ?_; rw [decide_eq_true rfl]; rintro e w2 ⟨rfl, ha⟩; have H2 := show Hid (After w w2) from After.trans H1.out ha; clear ha)
    | (go_at_call 29; refine Calls.mono (HS.same13 d.a d'.a d.c d'.c ds ds HF.out.1.d32 HF.out.2.d32 d.n d'.n HF.out.1.dn HF.out.2.dn HF.out.1.db _ (HF.out.1.deps.after (after_alloc (after_alloc (After.refl w) _) _)) (HF.out.2.deps.after (after_alloc (after_alloc (After.refl w) _) _))) ?_; rw [decide_eq_true rfl]; rintro e w1 ⟨rfl, ha⟩; have hb0 := (RowIs.new w 25 [.string (strOf au), .int .i64 sq, .int .i64 st, .slice d.a d.n d.c, .string (strOf nt), .slice p.a p.n p.c]).alloc (.cells #[.string (strOf au), .int .i64 sq, .int .i64 st, .slice d'.a d'.n d'.c, .string (strOf nt), .slice p'.a p'.n p'.c] 25); have hb1 := RowIs.new (w.alloc (.cells #[.string (strOf au), .int .i64 sq, .int .i64 st, .slice d.a d.n d.c, .string (strOf nt), .slice p.a p.n p.c] 25)) 25 [.string (strOf au), .int .i64 sq, .int .i64 st, .slice d'.a d'.n d'.c, .string (strOf nt), .slice p'.a p'.n p'.c]; have r0 := hb0.below ha hb0.lt; have r1 := hb1.below ha hb1.lt; rw [show (w.alloc (.cells #[.string (strOf au), .int .i64 sq, .int .i64 st, .slice d.a d.n d.c, .string (strOf nt), .slice p.a p.n p.c] 25)).heap.size = w.heap.size + 1 by simp] at r1; have f4 := r0.cell (j := 4) rfl; have f5 := r0.cell (j := 5) rfl; have e4 := r1.cell (j := 4) rfl; have e5 := r1.cell (j := 5) rfl; have H1 := show Hid (After w w1) from After.trans (after_alloc (after_alloc (After.refl w) _) _) ha; clear ha hb0 hb1 r0 r1))
  go_ret
  exact ⟨rfl, H2.out⟩
abbrev xa : Chg := ⟨[97], 1, 1, [], [], []⟩
abbrev s0 : Sl := ⟨none, 0, 0⟩
abbrev Ba : List UInt8 := [1, 1, 97, 1, 1, 0, 0, 0, 0, 0, 0, 0]
theorem uintB_0 : uintB 0 = [0] := by rw [uintB, if_pos (by omega)]; rfl
theorem runs_nil : runsB [] = [0] := by
  have h : runs ([] : List Int) = [] := rfl
  unfold runsB laidI
  rw [h]
  simp [uintB_0]
theorem lay_nil : layB [] = [0, 0, 0, 0, 0] := by
  unfold layB layNB
  have h1 : firsts [] = [] := rfl
  have h2 : diffs ([] : List Int) = [] := rfl
  have h3 : textsB [] = [] := rfl
  rw [h1, h3]
  simp [runs_nil, h2, namesB, whichs, uintB_0]
theorem lay_a : layC xa = Ba := by
  unfold layC layX putD
  simp [lay_nil, textB, uintB_1, uintB_0]
theorem chat_a (w : World) : ChAt w xa s0 s0 := ⟨fun h => absurd rfl h, fun h => absurd rfl h, rfl, rfl, fun _ h => (by cases h), fun _ h => (by cases h), by decide, by decide, by decide, by decide, by decide, by decide, by decide, by decide⟩
theorem good_a : CGood xa := by
  refine ⟨fun j hj => ?_, fun _ h => (by cases h), fun _ h => (by cases h)⟩
  match j, hj with
  | 0, _ => rfl
  | 1, _ => rfl
  | 2, _ => rfl
  | 3, _ => rfl
  | 4, _ => rfl
  | 5, _ => rfl
  | 6, _ => show eOf (decide ((layC xa).length ≤ 65536)) 5 = 0; rw [lay_a]; rfl
theorem hash_a : hashC xa ≠ zeroHash := by
  unfold hashC
  rw [good_a.chg, if_pos rfl, lay_a]
  decide +kernel
theorem get_a {w w' : World} {x : Ending} {c : Chg} {bs : List UInt8} (hg : getC bs = some c) (h : GtC w (getC bs) x w') : ∃ d p, x = .returned (.tuple #[cV c d p, .int .i64 0]) ∧ After w w' ∧ ChAt w' c d p := by
  obtain ⟨cs, q, hx, ha, _, h2⟩ := h
  obtain ⟨rfl, d, p, rfl, hc, _⟩ := h2 c hg
  exact ⟨d, p, hx, ha, hc⟩
theorem get_c (a : Option Addr) (n c : Nat) (bs : List UInt8) (hn : bs.length = n) (hca : n ≤ c) (hz : a = none → n = 0) (hbig : n ≤ 140737488355328) (w : World) (hat : BytesAt w a bs) {x : Chg} (hg : getC bs = some x) :
    Calls Tryz.prog 21 #[.slice a n c] w fun e w' => ∃ d p, e = .returned (.tuple #[cV x d p, .int .i64 0]) ∧ After w w' ∧ ChAt w' x d p :=
  (cget_any a n c bs hn hca hz hbig w hat).mono (fun _ _ h => get_a hg h)
theorem get_cf (a : Option Addr) (n c : Nat) (bs : List UInt8) (hn : bs.length = n) (hca : n ≤ c) (hz : a = none → n = 0) (hbig : n ≤ 140737488355328) (w : World) (hat : BytesAt w a bs) {x : Chg} (hg : getC bs = some x) :
    Calls Tryz.prog 21 #[.slice a n c] w fun e w' => ∃ d p, e = .returned (.tuple #[cV x d p, .int .i64 0]) ∧ After w w' ∧ ChAt w' x d p ∧ Frs w w' x d p :=
  (cget_any a n c bs hn hca hz hbig w hat).mono (fun _ _ ⟨_, _, hx, ha, _, h2⟩ => by obtain ⟨rfl, d, p, rfl, hc, hf⟩ := h2 x hg; exact ⟨d, p, hx, ha, hc, hf⟩)
theorem get_n (a : Option Addr) (n c : Nat) (bs : List UInt8) (hn : bs.length = n) (hca : n ≤ c) (hz : a = none → n = 0) (hbig : n ≤ 140737488355328) (w : World) (hat : BytesAt w a bs) (hg : getC bs = none) :
    Calls Tryz.prog 21 #[.slice a n c] w fun e w' => e = .returned (.tuple #[.agg zc.toArray, .int .i64 4]) ∧ After w w' :=
  (cget_any a n c bs hn hca hz hbig w hat).mono (fun _ _ ⟨_, _, hx, ha, h1, _⟩ => by obtain ⟨rfl, rfl⟩ := h1 hg; exact ⟨hx, ha⟩)

set_option maxRecDepth 100000 in
set_option maxHeartbeats 2400000 in
theorem awake_any (w : World) (ht : SH.Tab w) : Calls Tryz.prog 15 #[] w fun e w' => e = .returned (.bool true) ∧ After w w' := by
  have HT : Hid (SH.Tab w) := ht
  have HL : Hid (chgB xa = Ba ∧ getC Ba = some xa ∧ (layC xa).length ≤ 1000000000) := ⟨by unfold chgB; rw [good_a.chg, if_pos rfl, lay_a], by rw [← lay_a]; exact getC_back good_a, by rw [lay_a]; decide⟩
  obtain ⟨S, hS⟩ : ∃ S, hashC xa = S := ⟨_, rfl⟩
  have hne : ∀ W : World, (Op.equalIn 10000 38 (.agg (c8 S).toArray) (.agg #[.int .u8 0, .int .u8 0, .int .u8 0, .int .u8 0, .int .u8 0, .int .u8 0, .int .u8 0, .int .u8 0, .int .u8 0, .int .u8 0, .int .u8 0, .int .u8 0, .int .u8 0, .int .u8 0, .int .u8 0, .int .u8 0, .int .u8 0, .int .u8 0, .int .u8 0, .int .u8 0, .int .u8 0, .int .u8 0, .int .u8 0, .int .u8 0, .int .u8 0, .int .u8 0, .int .u8 0, .int .u8 0, .int .u8 0, .int .u8 0, .int .u8 0, .int .u8 0])).run Tryz.prog W = .ok false W := fun W => by
    have h := HS.eq24 S zeroHash (by rw [← hS]; exact hashC_len _) rfl W
    rw [decide_eq_false (by rw [← hS]; exact hash_a)] at h
    exact h
  have HS' : Hid (hashC xa = S) := hS
  clear ht hS
  go_enter Tryz.func15, Tryz.ntmps15
  go_wp2_with (first
    | (go_at_call 19; refine Calls.mono (hash_any xa s0 s0 w5 (chat_a w5) (Tab_after HT.out H5.out.1)) ?_; rw [HS'.out]; rintro e w6 ⟨rfl, ha⟩; have H6 := show Hid (After w w6) from After.trans H5.out.1 ha; clear ha)
    | (have _u := H5.out; clear _u; refine wpListG_of_run rfl (x_row25 (x := .tmp 1) (g := w.heap.size) (cs := [.string ⟨#[97]⟩, .int .i64 1, .int .i64 1, .slice none 0 0, .string ⟨#[]⟩, .slice none 0 0]) rfl rfl H5.out.2 rfl) ?_)
    | (go_at_call 14; refine Calls.mono (rsame_eq xa d p s0 s0 w4 H4.out.2.2.1 (chat_a w4)) ?_; rintro e w5 ⟨rfl, ha⟩; have H5 := show Hid (After w w5 ∧ RowIs w5 w.heap.size 25 [.string ⟨#[97]⟩, .int .i64 1, .int .i64 1, .slice none 0 0, .string ⟨#[]⟩, .slice none 0 0]) from ⟨After.trans H4.out.1 ha, H4.out.2.1.below ha H4.out.2.1.lt⟩; clear ha)
    | (refine wpListG_of_run rfl (x_row25 (x := .tmp 1) (g := w.heap.size) (cs := [.string ⟨#[97]⟩, .int .i64 1, .int .i64 1, .slice none 0 0, .string ⟨#[]⟩, .slice none 0 0]) rfl rfl H4.out.2.1 rfl) ?_)
    | (refine wpListG_of_run rfl (x_row25 (x := .tmp 4) (g := g4) (cs := cc xa d p) rfl rfl H4.out.2.2.2 rfl) ?_)
    | (refine wpList_store_row rfl 25 (.tmp 4) (.tmp 15) rfl w3.heap.size _ rfl rfl 25 _ (RowIs.new w3 25 [.string ⟨#[]⟩, .int .i64 0, .int .i64 0, .slice none 0 0, .string ⟨#[]⟩, .slice none 0 0]) (by kernel_rfl) rfl (by kernel_rfl) ?_; have H4 := show Hid (After w ((w3.alloc (.cells #[.string ⟨#[]⟩, .int .i64 0, .int .i64 0, .slice none 0 0, .string ⟨#[]⟩, .slice none 0 0] 25)).setRow w3.heap.size (cc xa d p).toArray) ∧ RowIs ((w3.alloc (.cells #[.string ⟨#[]⟩, .int .i64 0, .int .i64 0, .slice none 0 0, .string ⟨#[]⟩, .slice none 0 0] 25)).setRow w3.heap.size (cc xa d p).toArray) w.heap.size 25 [.string ⟨#[97]⟩, .int .i64 1, .int .i64 1, .slice none 0 0, .string ⟨#[]⟩, .slice none 0 0] ∧ ChAt ((w3.alloc (.cells #[.string ⟨#[]⟩, .int .i64 0, .int .i64 0, .slice none 0 0, .string ⟨#[]⟩, .slice none 0 0] 25)).setRow w3.heap.size (cc xa d p).toArray) xa d p ∧ RowIs ((w3.alloc (.cells #[.string ⟨#[]⟩, .int .i64 0, .int .i64 0, .slice none 0 0, .string ⟨#[]⟩, .slice none 0 0] 25)).setRow w3.heap.size (cc xa d p).toArray) w3.heap.size 25 (cc xa d p)) from ⟨Below.row (after_alloc H3.out.1 _) H3.out.1.size _, (H3.out.2.1.alloc _).setRow_other _ (Nat.ne_of_lt H3.out.2.1.lt), H3.out.2.2.1.after (Below.row (after_alloc (After.refl w3) _) (Nat.le_refl _) _), RowIs.setRow (RowIs.new w3 25 [.string ⟨#[]⟩, .int .i64 0, .int .i64 0, .slice none 0 0, .string ⟨#[]⟩, .slice none 0 0]) _⟩; have hcv : (convert 32 9 (.slice a2 12 c2)).run Tryz.prog ((w3.alloc (.cells #[.string ⟨#[]⟩, .int .i64 0, .int .i64 0, .slice none 0 0, .string ⟨#[]⟩, .slice none 0 0] 25)).setRow w3.heap.size (cc xa d p).toArray) = .ok (.string ⟨#[1, 1, 97, 1, 1, 0, 0, 0, 0, 0, 0, 0]⟩) ((w3.alloc (.cells #[.string ⟨#[]⟩, .int .i64 0, .int .i64 0, .slice none 0 0, .string ⟨#[]⟩, .slice none 0 0] 25)).setRow w3.heap.size (cc xa d p).toArray) := conv_at c2 (H3.out.2.2.2.after (Below.row (after_alloc (After.refl w3) _) (Nat.le_refl _) _)); obtain ⟨g4, hg4⟩ : ∃ g, w3.heap.size = g := ⟨_, rfl⟩; revert H4 hcv; generalize (w3.alloc (.cells #[.string ⟨#[]⟩, .int .i64 0, .int .i64 0, .slice none 0 0, .string ⟨#[]⟩, .slice none 0 0] 25)).setRow w3.heap.size (cc xa d p).toArray = w4; rw [hg4]; intro H4 hcv; clear hg4)
    | (go_at_call 21; refine Calls.mono (get_c a2 12 c2 Ba rfl H2.out.2.2.2.1 H2.out.2.2.2.2 (by omega) w2 H2.out.2.2.1 HL.out.2.1) ?_; rintro e w3 ⟨d, p, he, ha, hch⟩; subst he; have H3 := show Hid (After w w3 ∧ RowIs w3 w.heap.size 25 [.string ⟨#[97]⟩, .int .i64 1, .int .i64 1, .slice none 0 0, .string ⟨#[]⟩, .slice none 0 0] ∧ ChAt w3 xa d p ∧ BytesAt w3 a2 Ba) from ⟨After.trans H2.out.1 ha, H2.out.2.1.below ha H2.out.2.1.lt, hch, H2.out.2.2.1.after ha⟩; clear ha hch)
    | (go_at_call 17; refine Calls.mono (cput_k xa s0 s0 w0 (chat_a w0) good_a.chg HL.out.1) ?_; rintro e w2 ⟨v2, rfl, ho, ha⟩; obtain ⟨a2, c2, he2, hat, hc2, hz2⟩ := own_sl ho (k := 12) rfl; subst he2; have H2 := show Hid (After w w2 ∧ RowIs w2 w.heap.size 25 [.string ⟨#[97]⟩, .int .i64 1, .int .i64 1, .slice none 0 0, .string ⟨#[]⟩, .slice none 0 0] ∧ BytesAt w2 a2 Ba ∧ 12 ≤ c2 ∧ (a2 = none → 12 = 0)) from ⟨After.trans H0.out.1 ha, H0.out.2.below ha H0.out.2.lt, hat, hc2, hz2⟩; clear ho ha hat hc2 hz2)
    | (refine wpList_load_row rfl 25 (.tmp 1) rfl w.heap.size rfl 25 _ (0, 0) _ H0.out.2 Tryz.underlying25 rfl (by kernel_rfl) ?_)
    | (refine wpList_store_row rfl 25 (.tmp 1) (.tmp 6) rfl w.heap.size _ rfl rfl 25 _ (RowIs.new w 25 [.string ⟨#[]⟩, .int .i64 0, .int .i64 0, .slice none 0 0, .string ⟨#[]⟩, .slice none 0 0]) (by kernel_rfl) rfl (by kernel_rfl) ?_; have H0 := show Hid (After w ((w.alloc (.cells #[.string ⟨#[]⟩, .int .i64 0, .int .i64 0, .slice none 0 0, .string ⟨#[]⟩, .slice none 0 0] 25)).setRow w.heap.size #[.string ⟨#[97]⟩, .int .i64 1, .int .i64 1, .slice none 0 0, .string ⟨#[]⟩, .slice none 0 0]) ∧ RowIs ((w.alloc (.cells #[.string ⟨#[]⟩, .int .i64 0, .int .i64 0, .slice none 0 0, .string ⟨#[]⟩, .slice none 0 0] 25)).setRow w.heap.size #[.string ⟨#[97]⟩, .int .i64 1, .int .i64 1, .slice none 0 0, .string ⟨#[]⟩, .slice none 0 0]) w.heap.size 25 [.string ⟨#[97]⟩, .int .i64 1, .int .i64 1, .slice none 0 0, .string ⟨#[]⟩, .slice none 0 0]) from ⟨Below.row (after_alloc (After.refl w) _) (Nat.le_refl _) _, (RowIs.new w 25 [.string ⟨#[]⟩, .int .i64 0, .int .i64 0, .slice none 0 0, .string ⟨#[]⟩, .slice none 0 0]).setRow [.string ⟨#[97]⟩, .int .i64 1, .int .i64 1, .slice none 0 0, .string ⟨#[]⟩, .slice none 0 0]⟩; revert H0; generalize (w.alloc (.cells #[.string ⟨#[]⟩, .int .i64 0, .int .i64 0, .slice none 0 0, .string ⟨#[]⟩, .slice none 0 0] 25)).setRow w.heap.size #[.string ⟨#[97]⟩, .int .i64 1, .int .i64 1, .slice none 0 0, .string ⟨#[]⟩, .slice none 0 0] = w0; intro H0))
  go_ret
  exact ⟨rfl, H6.out⟩
end Go.Proofs.YtgmdolpjkaajfaaGreatDoor
