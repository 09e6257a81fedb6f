/-
  THE WALK OF bloom.Has.
-/
import Derived.Test.YtgcgblecendijaaBC
namespace Go.Proofs.Ytgcgblecendijaa
open Go.RowKit Go.Shelf Leb
attribute [local go_sem] Oper.semAt_some
section
variable {F : Fence} {n : Nat} {w w' : World} {ops : Array Oper} {rest : List Oper} {o : Oper} {a : Act} {Q : Exit → Act → World → Prop} {v : Value}
theorem wpListIn_run (hg : o.guard = none) (hF : ∀ f, F.fn f) (hsem : ∀ c, o.op ≠ .defer c) (hr : (execOp a.eval o).run Try.prog w = .ok (.value v) w') (h : wpListIn F n Try.prog ops Q rest (a.put o.dst v) w') : wpListIn F n Try.prog ops Q (o :: rest) a w :=
  wpListIn_plain hg fun K hK => ⟨fun f _ => hF f, by rw [Oper.semAt_plain F _ _ hsem, hr, Oper.uponIn_value]; exact hK _ _ h⟩
theorem wpListIn_st (hg : o.guard = none) (hd : o.dst = none) (hF : ∀ f, F.fn f) (hsem : ∀ c, o.op ≠ .defer c) (hr : (execOp a.eval o).run Try.prog w = .ok .skip w') (h : wpListIn F n Try.prog ops Q rest (a.put none undef) w') : wpListIn F n Try.prog ops Q (o :: rest) a w :=
  wpListIn_plain hg fun K hK => ⟨fun f _ => hF f, by rw [Oper.semAt_plain F _ _ hsem, hr, Oper.uponIn_skip, hd]; exact hK _ _ h⟩
theorem x_idxb {x y : Operand} {b off Z c d : Nat} (hop : o.op = .indexAddr 26 x y) (hx : a.eval x = .slice (some ⟨b, off, none⟩) Z c) (hy : a.eval y = .int .u64 (d : Int)) (hd : d < Z) : (execOp a.eval o).run Try.prog w = .ok (.value (.pointer (some ⟨b, off + d, none⟩))) w := by
  unfold execOp
  simp only [hop, hx, hy]
  simp [go_sem, hd]
theorem x_ldc {x : Operand} {t : TypeId} {ds : TypeDesc} {g j : Nat} {v : Value} {w : World} (hu : Try.prog.underlying t = some ds) (hd : ds.isRow = false) (hop : o.op = .load t x) (hx : a.eval x = .pointer (some ⟨g, j, none⟩)) (h : w.cell? ⟨g, j, none⟩ = some v) : (execOp a.eval o).run Try.prog w = .ok (.value v) w := by
  have hag : (isAgg t).run Try.prog w = .ok false w := by
    unfold isAgg; rw [Sem.run_bind, run_underlying hu w]
    cases ds <;> first | rfl | simp [TypeDesc.isRow] at hd
  unfold execOp
  simp only [hop, hx, Instr.loadAt, Instr.sureAddr, Sem.run_bind, Sem.run_pure, Result.andThen_ok, loadVar, hag]
  simp [h, go_sem]
theorem x_ld29 {x : Operand} {g : Nat} {h : Hs} (h32 : h.length = 32) (hop : o.op = .load 29 x) (hx : a.eval x = .pointer (some ⟨g, 0, none⟩)) (hr : RowIs w g 29 (c8 h)) : (execOp a.eval o).run Try.prog w = .ok (.value (.agg (c8 h).toArray)) w := by
  unfold execOp
  simp only [hop, hx, Instr.loadAt, Instr.sureAddr, Sem.run_bind, Sem.run_pure, Result.andThen_ok, run_loadVar_row w g 29 29 (c8 h).toArray (0, 0) _ hr Try.underlying29 rfl (size24a h32)]
theorem x_st4 {x y : Operand} {g : Nat} {u : Value} {b : Bool} (hop : o.op = .store 4 x y) (hx : a.eval x = .pointer (some ⟨g, 0, none⟩)) (hy : a.eval y = .bool b) (hr : RowIs w g 4 [u]) : (execOp a.eval o).run Try.prog w = .ok .skip (w.setCell ⟨g, 0, none⟩ (.bool b)) := by
  have hc := hr.cell (j := 0) rfl
  have hf := hr.frozen 0
  unfold execOp
  simp only [hop, hx, hy]
  simp [go_sem, hc, hf, Instr.storeAt, Instr.sureAddr]
end
theorem ret4c {fn : Func} {p : Tmp} (h : fn.results = #[.cell p 4]) (tmps : Array Value) (w : World) (g : Nat) (b : Bool) (hp : tmps.getD p undef = .pointer (some ⟨g, 0, none⟩)) (hg : RowIs w g 4 [.bool b]) : (results fn tmps).run Try.prog w = .ok (.bool b) w := by
  have hp' : tmps[p]?.getD undef = .pointer (some ⟨g, 0, none⟩) := by simpa using hp
  have hag : (isAgg 4).run Try.prog w = .ok false w := by unfold isAgg; rw [Sem.run_bind, run_underlying Try.underlying4 w]; rfl
  have hc := hg.cell (j := 0) rfl
  simp [results, h, hp', asAddr, loadVar, hag, hc, go_sem]
noncomputable def hasB (bs : List UInt8) (h : Hs) : Bool := if (rdP bs).many = 0 then false else (rdP bs).has (rdB bs) h

set_option maxRecDepth 100000 in
set_option maxHeartbeats 4000000 in
theorem bhas_zero (ao : Option Addr) (n cap : Nat) (bs : List UInt8) (h : Hs) (hl : bs.length = n) (hcap : n ≤ cap) (hbig : n ≤ 1152921504606846976) (w : World) (hat : BytesAt w ao bs) (hz : (rdP bs).many = 0) :
    Calls Try.prog 17 #[.slice ao n cap, .agg (c8 h).toArray] w fun e w' => e = .returned (.bool false) ∧ After w w' := by
  obtain ⟨w0, hw0⟩ : ∃ w0, (w.alloc (.cells (c8 h).toArray 29)).alloc (.cells #[.bool false] 4) = w0 := ⟨_, rfl⟩
  have H0 : Hid (After w w0 ∧ RowIs w0 (w.heap.size + 1) 4 [.bool false]) := by
    refine ⟨by rw [← hw0]; exact after_alloc (after_alloc (After.refl w) _) _, ?_⟩
    have h := RowIs.new (w.alloc (.cells (c8 h).toArray 29)) 4 [.bool false]
    rw [← hw0]; simpa using h
  have HC := show Hid _ from read_any ao n cap bs hl hcap hbig w0 (hat.after H0.out.1)
  unfold RdPost at HC
  obtain ⟨p, hp⟩ : ∃ p, rdP bs = p := ⟨_, rfl⟩
  rw [hp] at HC hz
  obtain ⟨m, s, b⟩ := p
  obtain rfl : m = 0 := hz
  clear hl hcap hbig hat hp
  go_enter Try.func17, Try.ntmps17
  go_wp2_with (first
    | (go_at_call 26; refine Calls.mono HC.out ?_; rintro e w1 ⟨a, k, c, rfl, h1, h2, h3, h4, ha⟩; have H1 := show Hid (After w w1 ∧ RowIs w1 (w.heap.size + 1) 4 [.bool false]) from ⟨H0.out.1.trans ha, H0.out.2.below ha H0.out.2.lt⟩; clear h1 h2 h3 h4 ha)
    | (refine wpList_store_row rfl 41 (.tmp 5) (.tmp 11) rfl w1.heap.size (pc ⟨0, s, b⟩).toArray rfl rfl 41 _ ((RowIs.new w1 41 (pc ⟨0, 0, 0⟩)).alloc _) (size_pc _) rfl (all41 _) ?_; obtain ⟨w2, hw2⟩ : ∃ w2, ((w1.alloc (.cells #[.int .u64 0, .int .u64 0, .int .u64 0] 41)).alloc (.cells #[.slice none 0 0] 26)).setRow w1.heap.size (pc ⟨0, s, b⟩).toArray = w2 := ⟨_, rfl⟩; simp only [hw2]; have H2 : Hid (After w w2 ∧ RowIs w2 (w.heap.size + 1) 4 [.bool false] ∧ RowIs w2 (w1.heap.size + 1) 26 [.slice none 0 0] ∧ RowIs w2 w1.heap.size 41 (pc ⟨0, s, b⟩)) := (by rw [← hw2]; have hlt := H1.out.2.lt; refine ⟨Below.row (after_alloc (after_alloc H1.out.1 _) _) H1.out.1.size _, ((H1.out.2.alloc _).alloc _).setRow_other _ (by omega), ?_, ((RowIs.new w1 41 (pc ⟨0, 0, 0⟩)).alloc _).setRow _⟩; have hh := RowIs.new (w1.alloc (.cells #[.int .u64 0, .int .u64 0, .int .u64 0] 41)) 26 [.slice none 0 0]; simp only [World.size_alloc] at hh; exact hh.setRow_other _ (by omega)); clear hw2; have c1 := H2.out.2.2.1.cell (j := 0) rfl; have c1f := H2.out.2.2.1.frozen 0; have c2 : (w2.setCell ⟨w1.heap.size + 1, 0, none⟩ (.slice a k c)).cell? ⟨w1.heap.size, 0, none⟩ = some (.int .u64 0) := (H2.out.2.2.2.other ⟨w1.heap.size + 1, 0, none⟩ (.slice a k c) (by show w1.heap.size ≠ w1.heap.size + 1; omega)).cell (j := 0) rfl; have c3 : RowIs (w2.setCell ⟨w1.heap.size + 1, 0, none⟩ (.slice a k c)) (w.heap.size + 1) 4 [.bool false] := H2.out.2.1.other ⟨w1.heap.size + 1, 0, none⟩ (.slice a k c) (by show w.heap.size + 1 ≠ w1.heap.size + 1; have := H1.out.2.lt; omega); have c3c := c3.cell (j := 0) rfl; have c3f := c3.frozen 0; have H3 := show Hid (RowIs (w2.setCell ⟨w1.heap.size + 1, 0, none⟩ (.slice a k c)) (w.heap.size + 1) 4 [.bool false]) from c3; clear c3))
  refine bodyPost_ret (ret4c Try.results17 _ _ (w.heap.size + 1) false rfl (H3.out.set 0 (.bool false))) rfl ?_
  exact ⟨rfl, Below.setCell (Below.setCell H2.out.1 (p := ⟨w1.heap.size + 1, 0, none⟩) (by show w.heap.size ≤ w1.heap.size + 1; have := H1.out.1.size; omega) _) (p := ⟨w.heap.size + 1, 0, none⟩) (by show w.heap.size ≤ w.heap.size + 1; omega) _⟩

set_option maxRecDepth 100000 in
set_option maxHeartbeats 4000000 in
theorem bhas_some (ao : Option Addr) (n cap : Nat) (bs : List UInt8) (h : Hs) (h32 : h.length = 32) (hl : bs.length = n) (hcap : n ≤ cap) (hbig : n ≤ 1152921504606846976) (w : World) (hat : BytesAt w ao bs) (hz : ¬ (rdP bs).many = 0) :
    Calls Try.prog 17 #[.slice ao n cap, .agg (c8 h).toArray] w fun e w' => e = .returned (.bool ((rdP bs).has (rdB bs) h)) ∧ After w w' := by
  have hok : rdOk bs := Classical.byContradiction fun hn => hz (by rw [(rd_no hn).1])
  obtain ⟨w0, hw0⟩ : ∃ w0, (w.alloc (.cells (c8 h).toArray 29)).alloc (.cells #[.bool false] 4) = w0 := ⟨_, rfl⟩
  have H0 : Hid (After w w0 ∧ RowIs w0 (w.heap.size + 1) 4 [.bool false] ∧ RowIs w0 w.heap.size 29 (c8 h)) := by
    refine ⟨by rw [← hw0]; exact after_alloc (after_alloc (After.refl w) _) _, ?_, by rw [← hw0]; exact (RowIs.new w 29 (c8 h)).alloc _⟩
    have h := RowIs.new (w.alloc (.cells (c8 h).toArray 29)) 4 [.bool false]
    rw [← hw0]; simpa using h
  have HC := show Hid _ from read_any ao n cap bs hl hcap hbig w0 (hat.after H0.out.1)
  unfold RdPost at HC
  have HOK : Hid ((rdP bs).Ok ∧ (rdB bs).length = (rdP bs).size ∧ h.length = 32) := by
    rw [(rd_yes hok).1, (rd_yes hok).2]; exact ⟨hok.2.2.2.1, hok.2.2.2.2, h32⟩
  obtain ⟨p, hp⟩ : ∃ p, rdP bs = p := ⟨_, rfl⟩
  obtain ⟨f, hf⟩ : ∃ f, rdB bs = f := ⟨_, rfl⟩
  rw [hp] at HC hz HOK ⊢
  rw [hf] at HC HOK ⊢
  have HZ : Hid (0 < p.all) := by have := HOK.out.1.size_pos (by omega); unfold Hid Prt.all; omega
  clear hl hcap hbig hat hp hf h32 hok
  obtain ⟨m, hm⟩ : ∃ m, p.many = m := ⟨_, rfl⟩
  have hmz : ((m : Int) == 0) = false := beq_eq_false_iff_ne.2 (by rw [hm] at hz; omega)
  have hmz' : ¬ (m : Int) = 0 := by rw [hm] at hz; omega
  refine (callsIn_wide (n := 4)).1 ?_
  refine callsIn_of_wp_marks Try.func17 rfl trivial ?_ rfl
  simp only [Try.ntmps17, List.size_toArray, List.length_cons, List.length_nil, Nat.reduceAdd, Nat.reduceSub, Array.replicate_succ, Array.replicate_zero, List.push_toArray, List.append_toArray, List.nil_append, List.cons_append]
  refine wpIn_seq ?_
  refine wpIn_wide.2 ?_
  go_wp2_with fail
  refine wpIn_seq ?_
  refine wpIn_wide.2 ?_
  go_wp2_with (first
    | (go_at_call 26; refine Calls.mono HC.out ?_; rintro e w1 ⟨a, k, c, rfl, h1, h2, h3, h4, ha⟩; have H1 := show Hid (After w w1 ∧ RowIs w1 (w.heap.size + 1) 4 [.bool false] ∧ RowIs w1 w.heap.size 29 (c8 h) ∧ BytesAt w1 a f ∧ f.length = k) from ⟨H0.out.1.trans ha, H0.out.2.1.below ha H0.out.2.1.lt, H0.out.2.2.below ha H0.out.2.2.lt, h1, h2⟩; clear h1 h2 h3 h4 ha)
    | (refine wpList_store_row rfl 41 (.tmp 5) (.tmp 11) rfl w1.heap.size (pc p).toArray rfl rfl 41 _ ((RowIs.new w1 41 (pc ⟨0, 0, 0⟩)).alloc _) (size_pc _) rfl (all41 _) ?_; obtain ⟨w2, hw2⟩ : ∃ w2, ((w1.alloc (.cells #[.int .u64 0, .int .u64 0, .int .u64 0] 41)).alloc (.cells #[.slice none 0 0] 26)).setRow w1.heap.size (pc p).toArray = w2 := ⟨_, rfl⟩; simp only [hw2]; have H2 : Hid (After w1 w2 ∧ RowIs w2 (w1.heap.size + 1) 26 [.slice none 0 0] ∧ RowIs w2 w1.heap.size 41 (pc p)) := (by rw [← hw2]; refine ⟨Below.row (after_alloc (after_alloc (After.refl w1) _) _) (Nat.le_refl _) _, ?_, ((RowIs.new w1 41 (pc ⟨0, 0, 0⟩)).alloc _).setRow _⟩; have hh := RowIs.new (w1.alloc (.cells #[.int .u64 0, .int .u64 0, .int .u64 0] 41)) 26 [.slice none 0 0]; simp only [World.size_alloc] at hh; exact hh.setRow_other _ (by omega)); clear hw2; have c1 := H2.out.2.1.cell (j := 0) rfl; have c1f := H2.out.2.1.frozen 0))
  obtain ⟨w3, hw3⟩ : ∃ w3, w2.setCell ⟨w1.heap.size + 1, 0, none⟩ (.slice a k c) = w3 := ⟨_, rfl⟩
  have H3 : Hid (After w1 w3 ∧ RowIs w3 (w1.heap.size + 1) 26 [.slice a k c] ∧ RowIs w3 w1.heap.size 41 (pc p)) := by
    rw [← hw3]
    exact ⟨Below.setCell H2.out.1 (p := ⟨w1.heap.size + 1, 0, none⟩) (by show w1.heap.size ≤ w1.heap.size + 1; omega) _, H2.out.2.1.set 0 _, H2.out.2.2.other _ _ (by show w1.heap.size ≠ w1.heap.size + 1; omega)⟩
  try simp only [hw3]
  clear c1 c1f hw3 H2
  refine wpIn_seq ?_
  refine wpIn_wide.2 ?_
  have c0 : w3.cell? ⟨w1.heap.size, 0, none⟩ = some (.int .u64 (m : Int)) := by rw [← hm]; exact H3.out.2.2.cell (j := 0) rfl
  go_wp2_with fail
  refine wpIn_seq ?_
  refine wpIn_seq ?_
  refine wpIn_wide.2 ?_
  go_wp2_with (first
    | (go_at_call 21; refine Calls.mono (places_any p h HOK.out.2.2 w3) ?_; rintro e w4 ⟨rfl, r1, r2, ha, hs4⟩; have H4 := show Hid (After w3 w4 ∧ RowIs w4 w3.heap.size 41 (pc p) ∧ RowIs w4 (w3.heap.size + 1) 29 (c8 h)) from ⟨ha, r1, r2⟩; clear r1 r2 ha hs4)
    | (refine wpList_of_run rfl (x_ld41 (x := .tmp 5) (g := w1.heap.size) (p := p) rfl rfl H3.out.2.2) ?_)
    | (refine wpList_of_run rfl (x_ld29 (x := .tmp 3) (g := w.heap.size) (h := h) HOK.out.2.2 rfl rfl (H1.out.2.2.1.below H3.out.1 H1.out.2.2.1.lt)) ?_))
  have H5 : Hid (RowIs w4 (w1.heap.size + 1) 26 [.slice a k c] ∧ BytesAt w4 a f ∧ f.length = k ∧ RowIs w4 (w.heap.size + 1) 4 [.bool false] ∧ After w w4 ∧ w.heap.size + 1 < w4.heap.size) := by
    have h13 : After w1 w4 := H3.out.1.trans H4.out.1
    exact ⟨H3.out.2.1.below H4.out.1 H3.out.2.1.lt, H1.out.2.2.2.1.after h13, H1.out.2.2.2.2, H1.out.2.1.below h13 H1.out.2.1.lt, H1.out.1.trans h13, Nat.lt_of_lt_of_le H1.out.2.1.lt h13.size⟩
  clear c0 hmz hmz' HC H0 hz
  gi_wp2
  refine wpIn_rangeFunc_ownG rfl (by omega) (gf := 30) (lb := #[.pointer (some ⟨w3.heap.size, 0, none⟩), .pointer (some ⟨w3.heap.size + 1, 0, none⟩)]) rfl trivial (enters_of Try.func30 (by kernel_rfl) rfl)
    (plc_stops w4.heap.size w3.heap.size (w3.heap.size + 1) p HOK.out.1.seed (by have := HOK.out.1.mul; omega) HZ.out h HOK.out.2.2 w4 H4.out.2.1 H4.out.2.2) belowK_t (belowK_b (Nat.le_refl _)) (Below.refl _ _) (fun _ => rfl)
    (fun pre W => Below w4.heap.size w4 W ∧ ∀ x ∈ pre, bitAt f x.1 = true)
    (fun cd pre W => cd = Code.ret ∧ (∃ x ∈ pre, bitAt f x.1 = false) ∧ RowIs W (w.heap.size + 1) 4 [.bool false] ∧ Below w.heap.size w W)
    (fun pre W W' row hs hg hr => ⟨hs.1.grown hg hs.1.size (fun r e => (hr r e).1), hs.2⟩)
    (fun cd pre W W' row hs hg hr => ⟨hs.1, hs.2.1, (hg.block _ hs.2.2.1.lt (fun e => by have := (hr _ e.symm).1; have := H5.out.2.2.2.2.2; omega)).trans hs.2.2.1, hs.2.2.2.grown hg hs.2.2.2.size (fun r e => Nat.le_trans H5.out.2.2.2.2.1.size (hr r e).1)⟩)
    ⟨Below.refl _ _, fun x hx => (by cases hx)⟩
    (fun x => { tmps := #[.slice ao n cap, .agg (c8 h).toArray, undef, .pointer (some ⟨w.heap.size, 0, none⟩), .pointer (some ⟨w.heap.size + 1, 0, none⟩), .pointer (some ⟨w1.heap.size, 0, none⟩), .pointer (some ⟨w1.heap.size + 1, 0, none⟩), .int .u64 (x.1 : Int), .tuple #[pV p, .slice a k c], .slice ao n cap, .tuple #[pV p, .slice a k c], pV p, .slice a k c, .pointer (some ⟨w1.heap.size, 0, none⟩), .int .u64 (m : Int), .bool false, pV p, .agg (c8 h).toArray, .func (.func 30) #[] #[.pointer (some ⟨w3.heap.size, 0, none⟩), .pointer (some ⟨w3.heap.size + 1, 0, none⟩)], .int .u64 (x.1 : Int), undef, undef, undef, undef, undef, undef, undef, undef, undef, undef], defers := [] }) ?assign ?body ?done ?stop
  case assign =>
    intro lp x W K hK
    gi_wp2
    exact hK
  case body =>
    rintro lp pre ⟨q, hq⟩ W ⟨hB, hbits⟩ hltN
    have HB : Hid (Below w4.heap.size w4 W ∧ ∀ x ∈ pre, bitAt f x.1 = true) := ⟨hB, hbits⟩
    have hk8 : k * 8 = p.all := by rw [← H5.out.2.2.1, HOK.out.2.1]; rfl
    have hqk : q / 8 < k := by omega
    obtain ⟨fb, fo, rfl, hcf⟩ := H5.out.2.1 (by intro e; have := H5.out.2.2.1; rw [e] at this; simp at this; omega)
    obtain ⟨d, hd⟩ : ∃ d, q / 8 = d := ⟨_, rfl⟩
    obtain ⟨r, hr⟩ : ∃ d, q % 8 = d := ⟨_, rfl⟩
    obtain ⟨y, hy⟩ : ∃ y, (f.getD d 0).toNat = y := ⟨_, rfl⟩
    obtain ⟨g, hg⟩ : ∃ g, y / 2 ^ r = g := ⟨_, rfl⟩
    have HBIT : Hid (bitAt f q = y.testBit r) := by unfold Hid bitAt; rw [hd, hr, hy]
    have hyl : y < 256 := by rw [← hy]; exact UInt8.toNat_lt _
    have hgl : g < 256 := by rw [← hg]; exact Nat.lt_of_le_of_lt (Nat.div_le_self _ _) hyl
    have hg1 := bit_div y r
    rw [hg] at hg1
    have HC1 : Hid (W.cell? ⟨w1.heap.size + 1, 0, none⟩ = some (.slice (some ⟨fb, fo, none⟩) k c)) := (H5.out.1.below hB H5.out.1.lt).cell (j := 0) rfl
    have HC2 : Hid (W.cell? ⟨fb, fo + d, none⟩ = some (.int .u8 (y : Int))) := by
      have h := hcf d (by rw [H5.out.2.2.1, ← hd]; exact hqk)
      rw [hy] at h
      rw [← h]; exact Below.cell hB (p := ⟨fb, fo + d, none⟩) (World.block_lt_of_cell? w4 _ h)
    have HQ : Hid (q / 8 = d ∧ q % 8 = r ∧ y / 2 ^ r = g ∧ g < 256 ∧ d < k ∧ r < 8 ∧ d < 18446744073709551616) := ⟨hd, hr, hg, hgl, by omega, by omega, by have := HOK.out.1.size; rw [← HOK.out.2.1, H5.out.2.2.1] at this; omega⟩
    clear hqk hcf hd hr hy hg hyl hgl hB hbits hltN hk8
    by_cases hb : y.testBit r = true
    · have HG : Hid (g &&& 1 = 1) := by unfold Hid; rw [hg1, if_pos hb]
      clear hg1
      gi_wp2_with (first
        | (refine wpListIn_run rfl (fun _ => trivial) (fun _ h => by cases h) (x_ldc (t := 26) (x := .tmp 6) (g := w1.heap.size + 1) (j := 0) Try.underlying26 rfl rfl rfl HC1.out) ?_)
        | (refine wpListIn_run rfl (fun _ => trivial) (fun _ h => by cases h) (x_quo64 (x := .tmp 21) (y := .const (.int .u64 8)) (p := q) (q := 8) (r := d) rfl rfl rfl HQ.out.1 ⟨by omega, HQ.out.2.2.2.2.2.2⟩) ?_)
        | (refine wpListIn_run rfl (fun _ => trivial) (fun _ h => by cases h) (x_idxb (x := .tmp 20) (y := .tmp 22) (d := d) rfl rfl rfl HQ.out.2.2.2.2.1) ?_)
        | (refine wpListIn_run rfl (fun _ => trivial) (fun _ h => by cases h) (x_ldc (t := 5) (x := .tmp 23) (g := fb) (j := fo + d) Try.underlying5 rfl rfl rfl HC2.out) ?_)
        | (refine wpListIn_run rfl (fun _ => trivial) (fun _ h => by cases h) (x_rem64 (x := .tmp 25) (y := .const (.int .u64 8)) (p := q) (q := 8) (r := r) rfl rfl rfl HQ.out.2.1 (by omega)) ?_)
        | (refine wpListIn_run rfl (fun _ => trivial) (fun _ h => by cases h) (x_shr8 (x := .tmp 24) (y := .tmp 26) (p := y) (q := r) (r := g) rfl rfl rfl HQ.out.2.2.2.2.2.1 HQ.out.2.2.1) ?_)
        | (refine wpListIn_run rfl (fun _ => trivial) (fun _ h => by cases h) (x_and8 (x := .tmp 27) (y := .const (.int .u8 1)) (p := g) (q := 1) (r := 1) rfl rfl rfl HQ.out.2.2.2.1 (by omega) HG.out) ?_))
      refine ⟨KeepsFrom.refl _ _, Below.refl _ _, HB.out.1, fun x hx => ?_⟩
      rcases List.mem_append.1 hx with hx | hx
      · exact HB.out.2 x hx
      · rw [List.mem_singleton.1 hx, HBIT.out, hb]
    · have hb' : y.testBit r = false := by simpa using hb
      have HG : Hid (g &&& 1 = 0) := by unfold Hid; rw [hg1, if_neg hb]
      have HRS : Hid (RowIs W (w.heap.size + 1) 4 [.bool false]) := H5.out.2.2.2.1.below HB.out.1 H5.out.2.2.2.1.lt
      clear hg1 hb
      gi_wp2_with (first
        | (refine wpListIn_run rfl (fun _ => trivial) (fun _ h => by cases h) (x_ldc (t := 26) (x := .tmp 6) (g := w1.heap.size + 1) (j := 0) Try.underlying26 rfl rfl rfl HC1.out) ?_)
        | (refine wpListIn_run rfl (fun _ => trivial) (fun _ h => by cases h) (x_quo64 (x := .tmp 21) (y := .const (.int .u64 8)) (p := q) (q := 8) (r := d) rfl rfl rfl HQ.out.1 ⟨by omega, HQ.out.2.2.2.2.2.2⟩) ?_)
        | (refine wpListIn_run rfl (fun _ => trivial) (fun _ h => by cases h) (x_idxb (x := .tmp 20) (y := .tmp 22) (d := d) rfl rfl rfl HQ.out.2.2.2.2.1) ?_)
        | (refine wpListIn_run rfl (fun _ => trivial) (fun _ h => by cases h) (x_ldc (t := 5) (x := .tmp 23) (g := fb) (j := fo + d) Try.underlying5 rfl rfl rfl HC2.out) ?_)
        | (refine wpListIn_run rfl (fun _ => trivial) (fun _ h => by cases h) (x_rem64 (x := .tmp 25) (y := .const (.int .u64 8)) (p := q) (q := 8) (r := r) rfl rfl rfl HQ.out.2.1 (by omega)) ?_)
        | (refine wpListIn_run rfl (fun _ => trivial) (fun _ h => by cases h) (x_shr8 (x := .tmp 24) (y := .tmp 26) (p := y) (q := r) (r := g) rfl rfl rfl HQ.out.2.2.2.2.2.1 HQ.out.2.2.1) ?_)
        | (refine wpListIn_run rfl (fun _ => trivial) (fun _ h => by cases h) (x_and8 (x := .tmp 27) (y := .const (.int .u8 1)) (p := g) (q := 1) (r := 0) rfl rfl rfl HQ.out.2.2.2.1 (by omega) HG.out) ?_)
        | (refine wpListIn_st rfl rfl (fun _ => trivial) (fun _ h => by cases h) (x_st4 (x := .tmp 4) (y := .const (.bool false)) (g := w.heap.size + 1) rfl rfl rfl HRS.out) ?_))
      exact ⟨(KeepsOthers.setCell _ _ _).from _, rfl, ⟨_, List.mem_append.2 (.inr (List.mem_singleton.2 rfl)), by rw [HBIT.out, hb']⟩, HRS.out.set 0 _, Below.setCell (H5.out.2.2.2.2.1.trans HB.out.1) (p := ⟨w.heap.size + 1, 0, none⟩) (by show w.heap.size ≤ w.heap.size + 1; omega) _⟩
  case done =>
    rintro D ys W hD hys ⟨hB, hbits⟩ hK
    have HH : Hid (p.has f h = true) := by
      unfold Hid Prt.has
      rw [← hys, List.all_eq_true]
      intro q hq
      obtain ⟨x, hx, rfl⟩ := List.mem_map.1 hq
      exact hbits x hx
    have HRS : Hid (RowIs W (w.heap.size + 1) 4 [.bool false] ∧ After w W ∧ w.heap.size + 1 ≠ D ∧ w.heap.size ≤ D ∧ W.heap[D]? = some (.deferred (some []))) := ⟨H5.out.2.2.2.1.below hB H5.out.2.2.2.1.lt, H5.out.2.2.2.2.1.trans hB, by have := H5.out.2.2.2.2.2; omega, by have := H5.out.2.2.2.2.2; omega, hK⟩
    have r0 := HRS.out.1.cell (j := 0) rfl
    have r0f := HRS.out.1.frozen 0
    clear hB hbits hys hD hK
    gi_wp2
    have hK' : (W.setCell ⟨w.heap.size + 1, 0, none⟩ (.bool true)).heap[D]? = some (.deferred (some [])) := (KeepsOthers.setCell W ⟨w.heap.size + 1, 0, none⟩ (.bool true)).same D _ HRS.out.2.2.2.2 rfl
    refine ⟨by simp, .inl ⟨_, _, rfl, run_takeDeferred hK', ?_⟩⟩
    have hr1 : RowIs ((W.setCell ⟨w.heap.size + 1, 0, none⟩ (.bool true)).putObj D (.deferred none)) (w.heap.size + 1) 4 [.bool true] := (World.putObj_heap_other HRS.out.2.2.1).trans (HRS.out.1.set 0 (.bool true))
    exact ⟨_, ret4c Try.results17 _ _ (w.heap.size + 1) true rfl hr1, by rw [HH.out], (Below.setCell HRS.out.2.1 (p := ⟨w.heap.size + 1, 0, none⟩) (by show w.heap.size ≤ w.heap.size + 1; omega) _).trans (belowK_b (w := w) (Nat.le_refl _) _ D _ _ HRS.out.2.2.2.1 hK' rfl rfl)⟩
  case stop =>
    rintro D cd pre W hD hpre ⟨rfl, ⟨x, hx, hb⟩, hr, hB⟩ hK
    have HH : Hid (p.has f h = false) := by
      have hm := hpre x hx
      unfold Hid Prt.has
      rw [List.all_eq_false]
      exact ⟨x.1, hm, by rw [hb]; simp⟩
    have HRS : Hid (RowIs W (w.heap.size + 1) 4 [.bool false] ∧ After w W ∧ w.heap.size + 1 ≠ D ∧ w.heap.size ≤ D ∧ W.heap[D]? = some (.deferred (some []))) := ⟨hr, hB, by have := H5.out.2.2.2.2.2; omega, by have := H5.out.2.2.2.2.2; omega, hK⟩
    clear hB hD hK hr hx hb hpre
    gi_wp2
    refine ⟨by simp, .inl ⟨_, _, rfl, run_takeDeferred HRS.out.2.2.2.2, ?_⟩⟩
    have hr1 : RowIs (W.putObj D (.deferred none)) (w.heap.size + 1) 4 [.bool false] := (World.putObj_heap_other HRS.out.2.2.1).trans HRS.out.1
    exact ⟨_, ret4c Try.results17 _ _ (w.heap.size + 1) false rfl hr1, by rw [HH.out], Below.trans HRS.out.2.1 (belowK_b (w := w) (Nat.le_refl _) _ D _ _ HRS.out.2.2.2.1 HRS.out.2.2.2.2 rfl rfl)⟩
theorem bhas_any (ao : Option Addr) (n cap : Nat) (bs : List UInt8) (h : Hs) (h32 : h.length = 32) (hl : bs.length = n) (hcap : n ≤ cap) (hbig : n ≤ 1152921504606846976) (w : World) (hat : BytesAt w ao bs) :
    Calls Try.prog 17 #[.slice ao n cap, .agg (c8 h).toArray] w fun e w' => e = .returned (.bool (hasB bs h)) ∧ After w w' := by
  unfold hasB
  by_cases hz : (rdP bs).many = 0
  · rw [if_pos hz]; exact bhas_zero ao n cap bs h hl hcap hbig w hat hz
  · rw [if_neg hz]; exact bhas_some ao n cap bs h h32 hl hcap hbig w hat hz
end Go.Proofs.Ytgcgblecendijaa
