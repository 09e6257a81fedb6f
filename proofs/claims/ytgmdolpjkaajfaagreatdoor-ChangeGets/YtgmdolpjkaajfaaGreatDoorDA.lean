/-
  THE REFERENCE'S READER (stemmaref02.Reader): Uint AND Text.
-/
import Derived.Test.YtgmdolpjkaajfaaGreatDoorCF
namespace Go.Proofs.YtgmdolpjkaajfaaGreatDoor
open Go.RowKit Leb
theorem x_slc {o : Oper} {a : Act} {x y : Operand} {w : World} {ao : Option Addr} {n cap k j c : Nat} (hop : o.op = .slice 32 x (some y) none none) (hx : a.eval x = .slice ao n cap) (hy : a.eval y = .int .i64 (k : Int)) (hz : ao = none → n = 0) (hc : n ≤ cap) (hk : k ≤ n) (hj : n - k = j) (hcc : cap - k = c) : (execOp a.eval o).run Tryz.prog w = .ok (.value (.slice (cutAt ao k cap) j c)) w := by
  subst hj hcc
  unfold execOp
  simp only [hop, hx, hy, Option.map, Sem.run_bind, slice_from ao n cap k hz hc hk w, Result.andThen_ok]
  rfl
abbrev rc (a : Option Addr) (n c : Nat) (e : Nat) : List Value := [.slice a n c, .int .i64 (e : Int)]
theorem size66 (a : Option Addr) (n c e : Nat) : (Tryz.prog.info? 66).map (·.size) = some (rc a n c e).toArray.size := by rw [show (Tryz.prog.info? 66).map (·.size) = some 2 by kernel_rfl]; simp
theorem all66 (a : Option Addr) (n c e : Nat) : (rc a n c e).toArray.all (·.oneCell') = true := by simp [Value.oneCell']
theorem x_ld66 {o : Oper} {ac : Act} {x : Operand} {w : World} {g : Nat} {a : Option Addr} {n c e : Nat} (hop : o.op = .load 66 x) (hx : ac.eval x = .pointer (some ⟨g, 0, none⟩)) (hr : RowIs w g 66 (rc a n c e)) : (execOp ac.eval o).run Tryz.prog w = .ok (.value (.agg (rc a n c e).toArray)) w := by
  unfold execOp
  simp only [hop, hx, Instr.loadAt, Instr.sureAddr, Sem.run_bind, Sem.run_pure, Result.andThen_ok, run_loadVar_row w g 66 66 (rc a n c e).toArray (0, 0) _ hr Tryz.underlying66 rfl (size66 a n c e)]
theorem ret66 {fn : Func} {p : Tmp} (h : fn.results = #[.cell p 66]) (tmps : Array Value) (w : World) (g : Nat) (a : Option Addr) (n c e : Nat) (hp : tmps.getD p undef = .pointer (some ⟨g, 0, none⟩)) (hg : RowIs w g 66 (rc a n c e)) : (results fn tmps).run Tryz.prog w = .ok (.agg (rc a n c e).toArray) w :=
  results_cell_row h tmps w g 66 _ (0, 0) _ hp hg Tryz.underlying66 rfl (size66 a n c e)
theorem ret66t {fn : Func} {p q : Tmp} (h : fn.results = #[.cell p 66, .tmp q]) (tmps : Array Value) (w : World) (g : Nat) (a : Option Addr) (n c e : Nat) (hp : tmps.getD p undef = .pointer (some ⟨g, 0, none⟩)) (hg : RowIs w g 66 (rc a n c e)) (v : Value) (hv : tmps.getD q undef = v) :
    (results fn tmps).run Tryz.prog w = .ok (.tuple #[.agg (rc a n c e).toArray, v]) w := by
  have hp' : tmps[p]?.getD undef = .pointer (some ⟨g, 0, none⟩) := by simpa using hp
  have hv' : tmps[q]?.getD undef = v := by simpa using hv
  simp [results, h, hp', hv', asAddr, run_loadVar_row w g 66 66 (rc a n c e).toArray (0, 0) _ hg Tryz.underlying66 rfl (size66 a n c e)]
theorem last66 (W : World) (g : Nat) (hg : W.heap.size = g) (cs : List Value) : RowIs (W.alloc (.cells cs.toArray 66)) g 66 cs := hg ▸ RowIs.new W 66 cs

set_option maxRecDepth 100000 in
set_option maxHeartbeats 4000000 in
theorem failed_zero (a : Option Addr) (n c e q : Nat) (hz : e = 0) (w : World) : Calls Tryz.prog 82 #[.agg (rc a n c e).toArray, .int .i64 (q : Int)] w fun x w' => x = .returned (.agg (rc a n c q).toArray) ∧ After w w' := by
  subst hz
  go_enter Tryz.func82, Tryz.ntmps82
  go_wp2
  exact bodyPost_ret (ret66 Tryz.results82 _ _ (w.heap.size + 1) a n c q rfl (last66 _ _ (by simp) _)) rfl ⟨rfl, after_alloc (after_alloc (After.refl w) _) _⟩

set_option maxRecDepth 100000 in
set_option maxHeartbeats 4000000 in
theorem failed_more (a : Option Addr) (n c e q : Nat) (hz : ¬ e = 0) (w : World) : Calls Tryz.prog 82 #[.agg (rc a n c e).toArray, .int .i64 (q : Int)] w fun x w' => x = .returned (.agg (rc a n c e).toArray) ∧ After w w' := by
  have fi : ¬ (e : Int) = 0 := by omega
  have fb : ((e : Int) == 0) = false := beq_eq_false_iff_ne.2 fi
  go_enter Tryz.func82, Tryz.ntmps82
  go_wp2
  exact bodyPost_ret (ret66 Tryz.results82 _ _ (w.heap.size + 1) a n c e rfl (last66 _ _ (by simp) _)) rfl ⟨rfl, after_alloc (after_alloc (After.refl w) _) _⟩

/-- What a reader tells. -/
structure Rdr (bs : List UInt8) (a : Option Addr) (n c e most : Nat) (a' : Option Addr) (n' c' e' v' : Nat) (bs' : List UInt8) : Prop where
  iff : e' = 0 ↔ (e = 0 ∧ guE bs = 0 ∧ guV bs ≤ most)
  val : e' = 0 → v' = guV bs ∧ bs' = bs.drop (guK bs)
  at_ : ∀ W, BytesAt W a bs → BytesAt W a' bs'
  len : bs'.length = n'
  cap : n' ≤ c'
  nil : a' = none → n' = 0
  low : n' ≤ n
def RUPost (w : World) (bs : List UInt8) (a : Option Addr) (n c e most : Nat) (x : Ending) (w' : World) : Prop := ∃ a' n' c' e' v' bs', x = .returned (.tuple #[.agg (rc a' n' c' e').toArray, .int .u64 ((v' : Nat) : Int)]) ∧ Rdr bs a n c e most a' n' c' e' v' bs' ∧ After w w'

set_option maxRecDepth 100000 in
set_option maxHeartbeats 4000000 in
theorem ruint_good (a : Option Addr) (n c e most : Nat) (bs : List UInt8) (hl : bs.length = n) (hc : n ≤ c) (hz : a = none → n = 0) (w : World) (hat : BytesAt w a bs) (he : e = 0) (h1 : guE bs = 0) (h2 : guV bs ≤ most) :
    Calls Tryz.prog 49 #[.agg (rc a n c e).toArray, .int .u64 (most : Int)] w (RUPost w bs a n c e most) := by
  obtain ⟨v, hv⟩ : ∃ v, guV bs = v := ⟨_, rfl⟩
  obtain ⟨k, hk⟩ : ∃ v, guK bs = v := ⟨_, rfl⟩
  obtain ⟨q, hq⟩ : ∃ v, guE bs = v := ⟨_, rfl⟩
  obtain ⟨w0, hw0⟩ : ∃ w0, (w.alloc (.cells #[.slice a n c, .int .i64 (e : Int)] 66)).alloc (.cells #[.slice none 0 0, .int .i64 0] 66) = w0 := ⟨_, rfl⟩
  have H0 : Hid (After w w0 ∧ RowIs w0 w.heap.size 66 (rc a n c e) ∧ RowIs w0 (w.heap.size + 1) 66 (rc none 0 0 0)) := by
    rw [← hw0]
    exact ⟨after_alloc (after_alloc (After.refl w) _) _, (RowIs.new w 66 (rc a n c e)).alloc _, last66 _ _ (by simp) _⟩
  have HC : Hid (Calls Tryz.prog 83 #[.slice a n c] w0 fun x w' => x = .returned (.tuple #[.int .u64 (v : Int), .int .i64 (k : Int), .int .i64 (q : Int)]) ∧ Below w0.heap.size w0 w') := by
    have := rgetUint_any a c bs (by rw [hl]; exact hc) w0 (hat.after H0.out.1)
    rw [hl, hv, hk, hq] at this; exact this
  have HV : Hid (guV bs = v ∧ guK bs = k ∧ guE bs = q ∧ BytesAt w a bs ∧ bs.length = n ∧ n ≤ c ∧ (a = none → n = 0) ∧ k ≤ n ∧ v < 18446744073709551616) := ⟨hv, hk, hq, hat, hl, hc, hz, by rw [← hk, ← hl]; exact guK_le bs, by rw [← hv]; exact guV_lt bs⟩
  have c0 : w0.cell? ⟨w.heap.size, 0, none⟩ = some (.slice a n c) := H0.out.2.1.cell (j := 0) rfl
  obtain ⟨j2, hj2⟩ : ∃ j, n - k = j := ⟨_, rfl⟩
  obtain ⟨cc, hcc⟩ : ∃ j, c - k = j := ⟨_, rfl⟩
  have fz : ((e : Int) == 0) = true := by simp [he]
  have fzn : ((e : Int) != 0) = false := by simp [he]
  have HE : Hid (e = 0) := he
  clear he
  have hq0 : q = 0 := by rw [← hq]; exact h1
  subst hq0
  have hvm : ¬ (most : Int) < (v : Int) := by rw [hv] at h2; omega
  clear hv hk hq hat hl hc hz
  go_enter Tryz.func49, Tryz.ntmps49
  go_wp2_with (first
    | (go_at_call 83; refine Calls.mono HC.out ?_; rintro x w1 ⟨rfl, ha⟩; have H1 := show Hid (After w w1 ∧ RowIs w1 w.heap.size 66 (rc a n c e) ∧ RowIs w1 (w.heap.size + 1) 66 (rc none 0 0 0)) from ⟨H0.out.1.trans ha, H0.out.2.1.below ha H0.out.2.1.lt, H0.out.2.2.below ha H0.out.2.2.lt⟩; have c2 : w1.cell? ⟨w.heap.size, 0, none⟩ = some (.slice a n c) := H1.out.2.1.cell (j := 0) rfl; have c3 : w1.cell? ⟨w.heap.size, 1, none⟩ = some (.int .i64 (e : Int)) := H1.out.2.1.cell (j := 1) rfl; clear ha)
    | (refine wpList_of_run rfl (x_slc (x := .tmp 34) (y := .tmp 35) (ao := a) (n := n) (cap := c) (k := k) (j := j2) (c := cc) rfl rfl rfl HV.out.2.2.2.2.2.2.1 HV.out.2.2.2.2.2.1 HV.out.2.2.2.2.2.2.2.1 hj2 hcc) ?_)
    | (refine wpList_store_row rfl 66 (.tmp 4) (.tmp 37) rfl (w.heap.size + 1) (rc (cutAt a k c) j2 cc 0).toArray rfl rfl 66 _ H1.out.2.2 (size66 _ _ _ _) rfl (all66 _ _ _ _) ?_))
  refine bodyPost_ret (ret66t Tryz.results49 _ _ (w.heap.size + 1) (cutAt a k c) j2 cc 0 rfl (H1.out.2.2.setRow (rc (cutAt a k c) j2 cc 0)) _ rfl) rfl ?_
  have hA := Below.row H1.out.1 (g := w.heap.size + 1) (by omega) (rc (cutAt a k c) j2 cc 0).toArray
  have hb := HV.out
  refine ⟨_, _, _, 0, v, bs.drop k, rfl, ⟨⟨fun _ => ⟨HE.out, h1, h2⟩, fun _ => rfl⟩, fun _ => ⟨hb.1.symm, by rw [hb.2.1]⟩, fun W h => h.cut k c (by rw [hb.2.2.2.2.1]; exact hb.2.2.2.2.2.1), by rw [List.length_drop, hb.2.2.2.2.1]; exact hj2, by omega, fun en => ?_, by omega⟩, hA⟩
  have : a = none := by
    unfold cutAt at en
    split at en
    · exact en
    · cases a with
      | none => rfl
      | some b => cases en
  have := hb.2.2.2.2.2.2.1 this; omega

set_option maxRecDepth 100000 in
set_option maxHeartbeats 4000000 in
theorem ruint_e1 (a : Option Addr) (n c e most : Nat) (bs : List UInt8) (hl : bs.length = n) (hc : n ≤ c) (hz : a = none → n = 0) (w : World) (hat : BytesAt w a bs) (he : ¬ e = 0) (h1 : guE bs = 0) (h2 : guV bs ≤ most) :
    Calls Tryz.prog 49 #[.agg (rc a n c e).toArray, .int .u64 (most : Int)] w (RUPost w bs a n c e most) := by
  obtain ⟨v, hv⟩ : ∃ v, guV bs = v := ⟨_, rfl⟩
  obtain ⟨k, hk⟩ : ∃ v, guK bs = v := ⟨_, rfl⟩
  obtain ⟨q, hq⟩ : ∃ v, guE bs = v := ⟨_, rfl⟩
  obtain ⟨w0, hw0⟩ : ∃ w0, (w.alloc (.cells #[.slice a n c, .int .i64 (e : Int)] 66)).alloc (.cells #[.slice none 0 0, .int .i64 0] 66) = w0 := ⟨_, rfl⟩
  have H0 : Hid (After w w0 ∧ RowIs w0 w.heap.size 66 (rc a n c e) ∧ RowIs w0 (w.heap.size + 1) 66 (rc none 0 0 0)) := by
    rw [← hw0]
    exact ⟨after_alloc (after_alloc (After.refl w) _) _, (RowIs.new w 66 (rc a n c e)).alloc _, last66 _ _ (by simp) _⟩
  have HC : Hid (Calls Tryz.prog 83 #[.slice a n c] w0 fun x w' => x = .returned (.tuple #[.int .u64 (v : Int), .int .i64 (k : Int), .int .i64 (q : Int)]) ∧ Below w0.heap.size w0 w') := by
    have := rgetUint_any a c bs (by rw [hl]; exact hc) w0 (hat.after H0.out.1)
    rw [hl, hv, hk, hq] at this; exact this
  have HV : Hid (guV bs = v ∧ guK bs = k ∧ guE bs = q ∧ BytesAt w a bs ∧ bs.length = n ∧ n ≤ c ∧ (a = none → n = 0) ∧ k ≤ n ∧ v < 18446744073709551616) := ⟨hv, hk, hq, hat, hl, hc, hz, by rw [← hk, ← hl]; exact guK_le bs, by rw [← hv]; exact guV_lt bs⟩
  have c0 : w0.cell? ⟨w.heap.size, 0, none⟩ = some (.slice a n c) := H0.out.2.1.cell (j := 0) rfl
  have hq0 : q = 0 := by rw [← hq]; exact h1
  subst hq0
  have hvm : ¬ (most : Int) < (v : Int) := by rw [hv] at h2; omega
  have fi1 : ¬ (e : Int) = 0 := by omega
  have fb1 : ((e : Int) == 0) = false := beq_eq_false_iff_ne.2 fi1
  have fn1 : ((e : Int) != 0) = true := by simp [bne, fb1]

  clear hv hk hq hat hl hc hz
  go_enter Tryz.func49, Tryz.ntmps49
  go_wp2_with (first
    | (go_at_call 83; refine Calls.mono HC.out ?_; rintro x w1 ⟨rfl, ha⟩; have H1 := show Hid (After w w1 ∧ RowIs w1 w.heap.size 66 (rc a n c e) ∧ RowIs w1 (w.heap.size + 1) 66 (rc none 0 0 0)) from ⟨H0.out.1.trans ha, H0.out.2.1.below ha H0.out.2.1.lt, H0.out.2.2.below ha H0.out.2.2.lt⟩; have c2 : w1.cell? ⟨w.heap.size, 0, none⟩ = some (.slice a n c) := H1.out.2.1.cell (j := 0) rfl; have c3 : w1.cell? ⟨w.heap.size, 1, none⟩ = some (.int .i64 (e : Int)) := H1.out.2.1.cell (j := 1) rfl; clear ha)
    | (go_at_call 82; refine Calls.mono (failed_more a n c e 0 he w1) ?_; rintro x w2 ⟨rfl, ha⟩; have H2 := show Hid (After w w2 ∧ RowIs w2 (w.heap.size + 1) 66 (rc none 0 0 0)) from ⟨H1.out.1.trans ha, H1.out.2.2.below ha H1.out.2.2.lt⟩; clear ha)
    | (refine wpList_of_run rfl (x_ld66 (x := .tmp 2) (g := w.heap.size) (a := a) (n := n) (c := c) (e := e) rfl rfl H1.out.2.1) ?_)
    | (refine wpList_store_row rfl 66 (.tmp 4) (.tmp 32) rfl (w.heap.size + 1) (rc a n c e).toArray rfl rfl 66 _ H2.out.2 (size66 _ _ _ _) rfl (all66 _ _ _ _) ?_))
  refine bodyPost_ret (ret66t Tryz.results49 _ _ (w.heap.size + 1) a n c e rfl (H2.out.2.setRow (rc a n c e)) _ rfl) rfl ?_
  have hA := Below.row H2.out.1 (g := w.heap.size + 1) (by omega) (rc a n c e).toArray
  have hb := HV.out
  exact ⟨_, _, _, e, 0, bs, rfl, ⟨⟨fun en => absurd en he, fun hh => absurd hh (fun hh => he hh.1)⟩, fun en => absurd en he, fun W h => h, hb.2.2.2.2.1, hb.2.2.2.2.2.1, hb.2.2.2.2.2.2.1, Nat.le_refl _⟩, hA⟩

set_option maxRecDepth 100000 in
set_option maxHeartbeats 4000000 in
theorem ruint_e2 (a : Option Addr) (n c e most : Nat) (bs : List UInt8) (hl : bs.length = n) (hc : n ≤ c) (hz : a = none → n = 0) (w : World) (hat : BytesAt w a bs) (he : ¬ e = 0) (h1 : guE bs = 0) (h2 : ¬ guV bs ≤ most) :
    Calls Tryz.prog 49 #[.agg (rc a n c e).toArray, .int .u64 (most : Int)] w (RUPost w bs a n c e most) := by
  obtain ⟨v, hv⟩ : ∃ v, guV bs = v := ⟨_, rfl⟩
  obtain ⟨k, hk⟩ : ∃ v, guK bs = v := ⟨_, rfl⟩
  obtain ⟨q, hq⟩ : ∃ v, guE bs = v := ⟨_, rfl⟩
  obtain ⟨w0, hw0⟩ : ∃ w0, (w.alloc (.cells #[.slice a n c, .int .i64 (e : Int)] 66)).alloc (.cells #[.slice none 0 0, .int .i64 0] 66) = w0 := ⟨_, rfl⟩
  have H0 : Hid (After w w0 ∧ RowIs w0 w.heap.size 66 (rc a n c e) ∧ RowIs w0 (w.heap.size + 1) 66 (rc none 0 0 0)) := by
    rw [← hw0]
    exact ⟨after_alloc (after_alloc (After.refl w) _) _, (RowIs.new w 66 (rc a n c e)).alloc _, last66 _ _ (by simp) _⟩
  have HC : Hid (Calls Tryz.prog 83 #[.slice a n c] w0 fun x w' => x = .returned (.tuple #[.int .u64 (v : Int), .int .i64 (k : Int), .int .i64 (q : Int)]) ∧ Below w0.heap.size w0 w') := by
    have := rgetUint_any a c bs (by rw [hl]; exact hc) w0 (hat.after H0.out.1)
    rw [hl, hv, hk, hq] at this; exact this
  have HV : Hid (guV bs = v ∧ guK bs = k ∧ guE bs = q ∧ BytesAt w a bs ∧ bs.length = n ∧ n ≤ c ∧ (a = none → n = 0) ∧ k ≤ n ∧ v < 18446744073709551616) := ⟨hv, hk, hq, hat, hl, hc, hz, by rw [← hk, ← hl]; exact guK_le bs, by rw [← hv]; exact guV_lt bs⟩
  have c0 : w0.cell? ⟨w.heap.size, 0, none⟩ = some (.slice a n c) := H0.out.2.1.cell (j := 0) rfl
  have hq0 : q = 0 := by rw [← hq]; exact h1
  subst hq0
  have hvm : (most : Int) < (v : Int) := by rw [hv] at h2; omega
  have fi1 : ¬ (e : Int) = 0 := by omega
  have fb1 : ((e : Int) == 0) = false := beq_eq_false_iff_ne.2 fi1
  have fn1 : ((e : Int) != 0) = true := by simp [bne, fb1]

  clear hv hk hq hat hl hc hz
  go_enter Tryz.func49, Tryz.ntmps49
  go_wp2_with (first
    | (go_at_call 83; refine Calls.mono HC.out ?_; rintro x w1 ⟨rfl, ha⟩; have H1 := show Hid (After w w1 ∧ RowIs w1 w.heap.size 66 (rc a n c e) ∧ RowIs w1 (w.heap.size + 1) 66 (rc none 0 0 0)) from ⟨H0.out.1.trans ha, H0.out.2.1.below ha H0.out.2.1.lt, H0.out.2.2.below ha H0.out.2.2.lt⟩; have c2 : w1.cell? ⟨w.heap.size, 0, none⟩ = some (.slice a n c) := H1.out.2.1.cell (j := 0) rfl; have c3 : w1.cell? ⟨w.heap.size, 1, none⟩ = some (.int .i64 (e : Int)) := H1.out.2.1.cell (j := 1) rfl; clear ha)
    | (go_at_call 82; refine Calls.mono (failed_more a n c e 5 he w1) ?_; rintro x w2 ⟨rfl, ha⟩; have H2 := show Hid (After w w2 ∧ RowIs w2 (w.heap.size + 1) 66 (rc none 0 0 0)) from ⟨H1.out.1.trans ha, H1.out.2.2.below ha H1.out.2.2.lt⟩; clear ha)
    | (refine wpList_of_run rfl (x_ld66 (x := .tmp 2) (g := w.heap.size) (a := a) (n := n) (c := c) (e := e) rfl rfl H1.out.2.1) ?_)
    | (refine wpList_store_row rfl 66 (.tmp 4) (.tmp 32) rfl (w.heap.size + 1) (rc a n c e).toArray rfl rfl 66 _ H2.out.2 (size66 _ _ _ _) rfl (all66 _ _ _ _) ?_))
  refine bodyPost_ret (ret66t Tryz.results49 _ _ (w.heap.size + 1) a n c e rfl (H2.out.2.setRow (rc a n c e)) _ rfl) rfl ?_
  have hA := Below.row H2.out.1 (g := w.heap.size + 1) (by omega) (rc a n c e).toArray
  have hb := HV.out
  exact ⟨_, _, _, e, 0, bs, rfl, ⟨⟨fun en => absurd en he, fun hh => absurd hh (fun hh => he hh.1)⟩, fun en => absurd en he, fun W h => h, hb.2.2.2.2.1, hb.2.2.2.2.2.1, hb.2.2.2.2.2.2.1, Nat.le_refl _⟩, hA⟩

set_option maxRecDepth 100000 in
set_option maxHeartbeats 4000000 in
theorem ruint_e3 (a : Option Addr) (n c e most : Nat) (bs : List UInt8) (hl : bs.length = n) (hc : n ≤ c) (hz : a = none → n = 0) (w : World) (hat : BytesAt w a bs) (he : ¬ e = 0) (h1 : ¬ guE bs = 0) :
    Calls Tryz.prog 49 #[.agg (rc a n c e).toArray, .int .u64 (most : Int)] w (RUPost w bs a n c e most) := by
  obtain ⟨v, hv⟩ : ∃ v, guV bs = v := ⟨_, rfl⟩
  obtain ⟨k, hk⟩ : ∃ v, guK bs = v := ⟨_, rfl⟩
  obtain ⟨q, hq⟩ : ∃ v, guE bs = v := ⟨_, rfl⟩
  obtain ⟨w0, hw0⟩ : ∃ w0, (w.alloc (.cells #[.slice a n c, .int .i64 (e : Int)] 66)).alloc (.cells #[.slice none 0 0, .int .i64 0] 66) = w0 := ⟨_, rfl⟩
  have H0 : Hid (After w w0 ∧ RowIs w0 w.heap.size 66 (rc a n c e) ∧ RowIs w0 (w.heap.size + 1) 66 (rc none 0 0 0)) := by
    rw [← hw0]
    exact ⟨after_alloc (after_alloc (After.refl w) _) _, (RowIs.new w 66 (rc a n c e)).alloc _, last66 _ _ (by simp) _⟩
  have HC : Hid (Calls Tryz.prog 83 #[.slice a n c] w0 fun x w' => x = .returned (.tuple #[.int .u64 (v : Int), .int .i64 (k : Int), .int .i64 (q : Int)]) ∧ Below w0.heap.size w0 w') := by
    have := rgetUint_any a c bs (by rw [hl]; exact hc) w0 (hat.after H0.out.1)
    rw [hl, hv, hk, hq] at this; exact this
  have HV : Hid (guV bs = v ∧ guK bs = k ∧ guE bs = q ∧ BytesAt w a bs ∧ bs.length = n ∧ n ≤ c ∧ (a = none → n = 0) ∧ k ≤ n ∧ v < 18446744073709551616) := ⟨hv, hk, hq, hat, hl, hc, hz, by rw [← hk, ← hl]; exact guK_le bs, by rw [← hv]; exact guV_lt bs⟩
  have c0 : w0.cell? ⟨w.heap.size, 0, none⟩ = some (.slice a n c) := H0.out.2.1.cell (j := 0) rfl
  have hq0 : ¬ q = 0 := by rw [← hq]; exact h1
  have fi1 : ¬ (e : Int) = 0 := by omega
  have fb1 : ((e : Int) == 0) = false := beq_eq_false_iff_ne.2 fi1
  have fn1 : ((e : Int) != 0) = true := by simp [bne, fb1]
  have fi2 : ¬ (q : Int) = 0 := by omega
  have fb2 : ((q : Int) == 0) = false := beq_eq_false_iff_ne.2 fi2
  have fn2 : ((q : Int) != 0) = true := by simp [bne, fb2]

  clear hv hk hq hat hl hc hz
  go_enter Tryz.func49, Tryz.ntmps49
  go_wp2_with (first
    | (go_at_call 83; refine Calls.mono HC.out ?_; rintro x w1 ⟨rfl, ha⟩; have H1 := show Hid (After w w1 ∧ RowIs w1 w.heap.size 66 (rc a n c e) ∧ RowIs w1 (w.heap.size + 1) 66 (rc none 0 0 0)) from ⟨H0.out.1.trans ha, H0.out.2.1.below ha H0.out.2.1.lt, H0.out.2.2.below ha H0.out.2.2.lt⟩; have c2 : w1.cell? ⟨w.heap.size, 0, none⟩ = some (.slice a n c) := H1.out.2.1.cell (j := 0) rfl; have c3 : w1.cell? ⟨w.heap.size, 1, none⟩ = some (.int .i64 (e : Int)) := H1.out.2.1.cell (j := 1) rfl; clear ha)
    | (go_at_call 82; refine Calls.mono (failed_more a n c e q he w1) ?_; rintro x w2 ⟨rfl, ha⟩; have H2 := show Hid (After w w2 ∧ RowIs w2 (w.heap.size + 1) 66 (rc none 0 0 0)) from ⟨H1.out.1.trans ha, H1.out.2.2.below ha H1.out.2.2.lt⟩; clear ha)
    | (refine wpList_of_run rfl (x_ld66 (x := .tmp 2) (g := w.heap.size) (a := a) (n := n) (c := c) (e := e) rfl rfl H1.out.2.1) ?_)
    | (refine wpList_store_row rfl 66 (.tmp 4) (.tmp 32) rfl (w.heap.size + 1) (rc a n c e).toArray rfl rfl 66 _ H2.out.2 (size66 _ _ _ _) rfl (all66 _ _ _ _) ?_))
  refine bodyPost_ret (ret66t Tryz.results49 _ _ (w.heap.size + 1) a n c e rfl (H2.out.2.setRow (rc a n c e)) _ rfl) rfl ?_
  have hA := Below.row H2.out.1 (g := w.heap.size + 1) (by omega) (rc a n c e).toArray
  have hb := HV.out
  exact ⟨_, _, _, e, 0, bs, rfl, ⟨⟨fun en => absurd en he, fun hh => absurd hh (fun hh => he hh.1)⟩, fun en => absurd en he, fun W h => h, hb.2.2.2.2.1, hb.2.2.2.2.2.1, hb.2.2.2.2.2.2.1, Nat.le_refl _⟩, hA⟩

set_option maxRecDepth 100000 in
set_option maxHeartbeats 4000000 in
theorem ruint_z2 (a : Option Addr) (n c e most : Nat) (bs : List UInt8) (hl : bs.length = n) (hc : n ≤ c) (hz : a = none → n = 0) (w : World) (hat : BytesAt w a bs) (he : e = 0) (h1 : guE bs = 0) (h2 : ¬ guV bs ≤ most) :
    Calls Tryz.prog 49 #[.agg (rc a n c e).toArray, .int .u64 (most : Int)] w (RUPost w bs a n c e most) := by
  obtain ⟨v, hv⟩ : ∃ v, guV bs = v := ⟨_, rfl⟩
  obtain ⟨k, hk⟩ : ∃ v, guK bs = v := ⟨_, rfl⟩
  obtain ⟨q, hq⟩ : ∃ v, guE bs = v := ⟨_, rfl⟩
  obtain ⟨w0, hw0⟩ : ∃ w0, (w.alloc (.cells #[.slice a n c, .int .i64 (e : Int)] 66)).alloc (.cells #[.slice none 0 0, .int .i64 0] 66) = w0 := ⟨_, rfl⟩
  have H0 : Hid (After w w0 ∧ RowIs w0 w.heap.size 66 (rc a n c e) ∧ RowIs w0 (w.heap.size + 1) 66 (rc none 0 0 0)) := by
    rw [← hw0]
    exact ⟨after_alloc (after_alloc (After.refl w) _) _, (RowIs.new w 66 (rc a n c e)).alloc _, last66 _ _ (by simp) _⟩
  have HC : Hid (Calls Tryz.prog 83 #[.slice a n c] w0 fun x w' => x = .returned (.tuple #[.int .u64 (v : Int), .int .i64 (k : Int), .int .i64 (q : Int)]) ∧ Below w0.heap.size w0 w') := by
    have := rgetUint_any a c bs (by rw [hl]; exact hc) w0 (hat.after H0.out.1)
    rw [hl, hv, hk, hq] at this; exact this
  have HV : Hid (guV bs = v ∧ guK bs = k ∧ guE bs = q ∧ BytesAt w a bs ∧ bs.length = n ∧ n ≤ c ∧ (a = none → n = 0) ∧ k ≤ n ∧ v < 18446744073709551616) := ⟨hv, hk, hq, hat, hl, hc, hz, by rw [← hk, ← hl]; exact guK_le bs, by rw [← hv]; exact guV_lt bs⟩
  have c0 : w0.cell? ⟨w.heap.size, 0, none⟩ = some (.slice a n c) := H0.out.2.1.cell (j := 0) rfl
  have fz : ((e : Int) == 0) = true := by simp [he]
  have fzn : ((e : Int) != 0) = false := by simp [he]
  have HE : Hid (e = 0) := he
  clear he
  have hq0 : q = 0 := by rw [← hq]; exact h1
  subst hq0
  have hvm : (most : Int) < (v : Int) := by rw [hv] at h2; omega

  clear hv hk hq hat hl hc hz
  go_enter Tryz.func49, Tryz.ntmps49
  go_wp2_with (first
    | (go_at_call 83; refine Calls.mono HC.out ?_; rintro x w1 ⟨rfl, ha⟩; have H1 := show Hid (After w w1 ∧ RowIs w1 w.heap.size 66 (rc a n c e) ∧ RowIs w1 (w.heap.size + 1) 66 (rc none 0 0 0)) from ⟨H0.out.1.trans ha, H0.out.2.1.below ha H0.out.2.1.lt, H0.out.2.2.below ha H0.out.2.2.lt⟩; have c2 : w1.cell? ⟨w.heap.size, 0, none⟩ = some (.slice a n c) := H1.out.2.1.cell (j := 0) rfl; have c3 : w1.cell? ⟨w.heap.size, 1, none⟩ = some (.int .i64 (e : Int)) := H1.out.2.1.cell (j := 1) rfl; clear ha)
    | (go_at_call 82; refine Calls.mono (failed_zero a n c e 5 HE.out w1) ?_; rintro x w2 ⟨rfl, ha⟩; have H2 := show Hid (After w w2 ∧ RowIs w2 (w.heap.size + 1) 66 (rc none 0 0 0)) from ⟨H1.out.1.trans ha, H1.out.2.2.below ha H1.out.2.2.lt⟩; clear ha)
    | (refine wpList_of_run rfl (x_ld66 (x := .tmp 2) (g := w.heap.size) (a := a) (n := n) (c := c) (e := e) rfl rfl H1.out.2.1) ?_)
    | (refine wpList_store_row rfl 66 (.tmp 4) (.tmp 32) rfl (w.heap.size + 1) (rc a n c 5).toArray rfl rfl 66 _ H2.out.2 (size66 _ _ _ _) rfl (all66 _ _ _ _) ?_))
  refine bodyPost_ret (ret66t Tryz.results49 _ _ (w.heap.size + 1) a n c 5 rfl (H2.out.2.setRow (rc a n c 5)) _ rfl) rfl ?_
  have hA := Below.row H2.out.1 (g := w.heap.size + 1) (by omega) (rc a n c 5).toArray
  have hb := HV.out
  exact ⟨_, _, _, 5, 0, bs, rfl, ⟨⟨fun en => absurd en (by decide), fun hh => absurd hh (fun hh => h2 hh.2.2)⟩, fun en => absurd en (by decide), fun W h => h, hb.2.2.2.2.1, hb.2.2.2.2.2.1, hb.2.2.2.2.2.2.1, Nat.le_refl _⟩, hA⟩

set_option maxRecDepth 100000 in
set_option maxHeartbeats 4000000 in
theorem ruint_z3 (a : Option Addr) (n c e most : Nat) (bs : List UInt8) (hl : bs.length = n) (hc : n ≤ c) (hz : a = none → n = 0) (w : World) (hat : BytesAt w a bs) (he : e = 0) (h1 : ¬ guE bs = 0) :
    Calls Tryz.prog 49 #[.agg (rc a n c e).toArray, .int .u64 (most : Int)] w (RUPost w bs a n c e most) := by
  obtain ⟨v, hv⟩ : ∃ v, guV bs = v := ⟨_, rfl⟩
  obtain ⟨k, hk⟩ : ∃ v, guK bs = v := ⟨_, rfl⟩
  obtain ⟨q, hq⟩ : ∃ v, guE bs = v := ⟨_, rfl⟩
  obtain ⟨w0, hw0⟩ : ∃ w0, (w.alloc (.cells #[.slice a n c, .int .i64 (e : Int)] 66)).alloc (.cells #[.slice none 0 0, .int .i64 0] 66) = w0 := ⟨_, rfl⟩
  have H0 : Hid (After w w0 ∧ RowIs w0 w.heap.size 66 (rc a n c e) ∧ RowIs w0 (w.heap.size + 1) 66 (rc none 0 0 0)) := by
    rw [← hw0]
    exact ⟨after_alloc (after_alloc (After.refl w) _) _, (RowIs.new w 66 (rc a n c e)).alloc _, last66 _ _ (by simp) _⟩
  have HC : Hid (Calls Tryz.prog 83 #[.slice a n c] w0 fun x w' => x = .returned (.tuple #[.int .u64 (v : Int), .int .i64 (k : Int), .int .i64 (q : Int)]) ∧ Below w0.heap.size w0 w') := by
    have := rgetUint_any a c bs (by rw [hl]; exact hc) w0 (hat.after H0.out.1)
    rw [hl, hv, hk, hq] at this; exact this
  have HV : Hid (guV bs = v ∧ guK bs = k ∧ guE bs = q ∧ BytesAt w a bs ∧ bs.length = n ∧ n ≤ c ∧ (a = none → n = 0) ∧ k ≤ n ∧ v < 18446744073709551616) := ⟨hv, hk, hq, hat, hl, hc, hz, by rw [← hk, ← hl]; exact guK_le bs, by rw [← hv]; exact guV_lt bs⟩
  have c0 : w0.cell? ⟨w.heap.size, 0, none⟩ = some (.slice a n c) := H0.out.2.1.cell (j := 0) rfl
  have fz : ((e : Int) == 0) = true := by simp [he]
  have fzn : ((e : Int) != 0) = false := by simp [he]
  have HE : Hid (e = 0) := he
  clear he
  have hq0 : ¬ q = 0 := by rw [← hq]; exact h1
  have fi2 : ¬ (q : Int) = 0 := by omega
  have fb2 : ((q : Int) == 0) = false := beq_eq_false_iff_ne.2 fi2
  have fn2 : ((q : Int) != 0) = true := by simp [bne, fb2]

  clear hv hk hq hat hl hc hz
  go_enter Tryz.func49, Tryz.ntmps49
  go_wp2_with (first
    | (go_at_call 83; refine Calls.mono HC.out ?_; rintro x w1 ⟨rfl, ha⟩; have H1 := show Hid (After w w1 ∧ RowIs w1 w.heap.size 66 (rc a n c e) ∧ RowIs w1 (w.heap.size + 1) 66 (rc none 0 0 0)) from ⟨H0.out.1.trans ha, H0.out.2.1.below ha H0.out.2.1.lt, H0.out.2.2.below ha H0.out.2.2.lt⟩; have c2 : w1.cell? ⟨w.heap.size, 0, none⟩ = some (.slice a n c) := H1.out.2.1.cell (j := 0) rfl; have c3 : w1.cell? ⟨w.heap.size, 1, none⟩ = some (.int .i64 (e : Int)) := H1.out.2.1.cell (j := 1) rfl; clear ha)
    | (go_at_call 82; refine Calls.mono (failed_zero a n c e q HE.out w1) ?_; rintro x w2 ⟨rfl, ha⟩; have H2 := show Hid (After w w2 ∧ RowIs w2 (w.heap.size + 1) 66 (rc none 0 0 0)) from ⟨H1.out.1.trans ha, H1.out.2.2.below ha H1.out.2.2.lt⟩; clear ha)
    | (refine wpList_of_run rfl (x_ld66 (x := .tmp 2) (g := w.heap.size) (a := a) (n := n) (c := c) (e := e) rfl rfl H1.out.2.1) ?_)
    | (refine wpList_store_row rfl 66 (.tmp 4) (.tmp 32) rfl (w.heap.size + 1) (rc a n c q).toArray rfl rfl 66 _ H2.out.2 (size66 _ _ _ _) rfl (all66 _ _ _ _) ?_))
  refine bodyPost_ret (ret66t Tryz.results49 _ _ (w.heap.size + 1) a n c q rfl (H2.out.2.setRow (rc a n c q)) _ rfl) rfl ?_
  have hA := Below.row H2.out.1 (g := w.heap.size + 1) (by omega) (rc a n c q).toArray
  have hb := HV.out
  exact ⟨_, _, _, q, 0, bs, rfl, ⟨⟨fun en => absurd en hq0, fun hh => absurd hh (fun hh => h1 hh.2.1)⟩, fun en => absurd en hq0, fun W h => h, hb.2.2.2.2.1, hb.2.2.2.2.2.1, hb.2.2.2.2.2.2.1, Nat.le_refl _⟩, hA⟩

theorem rUintR_any (a : Option Addr) (n c e most : Nat) (bs : List UInt8) (hl : bs.length = n) (hc : n ≤ c) (hz : a = none → n = 0) (w : World) (hat : BytesAt w a bs) :
    Calls Tryz.prog 49 #[.agg (rc a n c e).toArray, .int .u64 (most : Int)] w (RUPost w bs a n c e most) := by
  by_cases he : e = 0 <;> by_cases h1 : guE bs = 0 <;> by_cases h2 : guV bs ≤ most
  · exact ruint_good a n c e most bs hl hc hz w hat he h1 h2
  · exact ruint_z2 a n c e most bs hl hc hz w hat he h1 h2
  · exact ruint_z3 a n c e most bs hl hc hz w hat he h1
  · exact ruint_z3 a n c e most bs hl hc hz w hat he h1
  · exact ruint_e1 a n c e most bs hl hc hz w hat he h1 h2
  · exact ruint_e2 a n c e most bs hl hc hz w hat he h1 h2
  · exact ruint_e3 a n c e most bs hl hc hz w hat he h1
  · exact ruint_e3 a n c e most bs hl hc hz w hat he h1

/-- What the reader of a text tells. -/
structure Rdt (bs : List UInt8) (a : Option Addr) (n c e most : Nat) (a' : Option Addr) (n' c' e' : Nat) (s' : List UInt8) (bs' : List UInt8) : Prop where
  iff : e' = 0 ↔ (e = 0 ∧ gtE bs (most : Int) = 0)
  val : e' = 0 → s' = gtS bs (most : Int) ∧ bs' = bs.drop (gtK bs (most : Int))
  at_ : ∀ W, BytesAt W a bs → BytesAt W a' bs'
  len : bs'.length = n'
  cap : n' ≤ c'
  nil : a' = none → n' = 0
  low : n' ≤ n
def RTPost (w : World) (bs : List UInt8) (a : Option Addr) (n c e most : Nat) (x : Ending) (w' : World) : Prop := ∃ a' n' c' e' s' bs', x = .returned (.tuple #[.agg (rc a' n' c' e').toArray, .string (strOf s')]) ∧ Rdt bs a n c e most a' n' c' e' s' bs' ∧ After w w'

set_option maxRecDepth 100000 in
set_option maxHeartbeats 4000000 in
theorem rtext_good (a : Option Addr) (n c e most : Nat) (bs : List UInt8) (hl : bs.length = n) (hc : n ≤ c) (hz : a = none → n = 0) (hbig : n ≤ 140737488355328) (hmo : most ≤ 100000) (w : World) (hat : BytesAt w a bs) (he : e = 0) (h1 : gtE bs (most : Int) = 0) :
    Calls Tryz.prog 48 #[.agg (rc a n c e).toArray, .int .i64 (most : Int)] w (RTPost w bs a n c e most) := by
  obtain ⟨t, hv⟩ : ∃ v, gtS bs (most : Int) = v := ⟨_, rfl⟩
  obtain ⟨k, hk⟩ : ∃ v, gtK bs (most : Int) = v := ⟨_, rfl⟩
  obtain ⟨q, hq⟩ : ∃ v, gtE bs (most : Int) = v := ⟨_, rfl⟩
  obtain ⟨w0, hw0⟩ : ∃ w0, (w.alloc (.cells #[.slice a n c, .int .i64 (e : Int)] 66)).alloc (.cells #[.slice none 0 0, .int .i64 0] 66) = w0 := ⟨_, rfl⟩
  have H0 : Hid (After w w0 ∧ RowIs w0 w.heap.size 66 (rc a n c e) ∧ RowIs w0 (w.heap.size + 1) 66 (rc none 0 0 0)) := by
    rw [← hw0]
    exact ⟨after_alloc (after_alloc (After.refl w) _) _, (RowIs.new w 66 (rc a n c e)).alloc _, last66 _ _ (by simp) _⟩
  have HC : Hid (Calls Tryz.prog 81 #[.slice a n c, .int .i64 (most : Int)] w0 fun x w' => x = .returned (.tuple #[.string (strOf t), .int .i64 (k : Int), .int .i64 (q : Int)]) ∧ Below w0.heap.size w0 w') := by
    have := rgetText_any a c bs (most : Int) (by rw [hl]; exact hc) (by rw [hl]; omega) (by omega) (by omega) w0 (hat.after H0.out.1)
    rw [hl, hv, hk, hq] at this; exact this
  have HV : Hid (gtS bs (most : Int) = t ∧ gtK bs (most : Int) = k ∧ gtE bs (most : Int) = q ∧ BytesAt w a bs ∧ bs.length = n ∧ n ≤ c ∧ (a = none → n = 0) ∧ k ≤ n) := ⟨hv, hk, hq, hat, hl, hc, hz, by rw [← hk, ← hl]; exact gtK_le bs _⟩
  have c0 : w0.cell? ⟨w.heap.size, 0, none⟩ = some (.slice a n c) := H0.out.2.1.cell (j := 0) rfl
  obtain ⟨j2, hj2⟩ : ∃ j, n - k = j := ⟨_, rfl⟩
  obtain ⟨cc, hcc⟩ : ∃ j, c - k = j := ⟨_, rfl⟩
  have fz : ((e : Int) == 0) = true := by simp [he]
  have fzn : ((e : Int) != 0) = false := by simp [he]
  have HE : Hid (e = 0) := he
  clear he
  have hq0 : q = 0 := by rw [← hq]; exact h1
  subst hq0
  clear hv hk hq hat hl hc hz
  go_enter Tryz.func48, Tryz.ntmps48
  go_wp2_with (first
    | (go_at_call 81; refine Calls.mono HC.out ?_; rintro x w1 ⟨rfl, ha⟩; have H1 := show Hid (After w w1 ∧ RowIs w1 w.heap.size 66 (rc a n c e) ∧ RowIs w1 (w.heap.size + 1) 66 (rc none 0 0 0)) from ⟨H0.out.1.trans ha, H0.out.2.1.below ha H0.out.2.1.lt, H0.out.2.2.below ha H0.out.2.2.lt⟩; have c2 : w1.cell? ⟨w.heap.size, 0, none⟩ = some (.slice a n c) := H1.out.2.1.cell (j := 0) rfl; have c3 : w1.cell? ⟨w.heap.size, 1, none⟩ = some (.int .i64 (e : Int)) := H1.out.2.1.cell (j := 1) rfl; clear ha)
    | (refine wpList_of_run rfl (x_slc (x := .tmp 28) (y := .tmp 29) (ao := a) (n := n) (cap := c) (k := k) (j := j2) (c := cc) rfl rfl rfl HV.out.2.2.2.2.2.2.1 HV.out.2.2.2.2.2.1 HV.out.2.2.2.2.2.2.2 hj2 hcc) ?_)
    | (refine wpList_store_row rfl 66 (.tmp 4) (.tmp 31) rfl (w.heap.size + 1) (rc (cutAt a k c) j2 cc 0).toArray rfl rfl 66 _ H1.out.2.2 (size66 _ _ _ _) rfl (all66 _ _ _ _) ?_))
  refine bodyPost_ret (ret66t Tryz.results48 _ _ (w.heap.size + 1) (cutAt a k c) j2 cc 0 rfl (H1.out.2.2.setRow (rc (cutAt a k c) j2 cc 0)) _ rfl) rfl ?_
  have hA := Below.row H1.out.1 (g := w.heap.size + 1) (by omega) (rc (cutAt a k c) j2 cc 0).toArray
  have hb := HV.out
  refine ⟨_, _, _, 0, t, bs.drop k, rfl, ⟨⟨fun _ => ⟨HE.out, h1⟩, fun _ => rfl⟩, fun _ => ⟨hb.1.symm, by rw [hb.2.1]⟩, fun W h => h.cut k c (by rw [hb.2.2.2.2.1]; exact hb.2.2.2.2.2.1), by rw [List.length_drop, hb.2.2.2.2.1]; exact hj2, by omega, fun en => ?_, by omega⟩, hA⟩
  have : a = none := by
    unfold cutAt at en
    split at en
    · exact en
    · cases a with
      | none => rfl
      | some b => cases en
  have := hb.2.2.2.2.2.2.1 this; omega

set_option maxRecDepth 100000 in
set_option maxHeartbeats 4000000 in
theorem rtext_e (a : Option Addr) (n c e most : Nat) (bs : List UInt8) (hl : bs.length = n) (hc : n ≤ c) (hz : a = none → n = 0) (hbig : n ≤ 140737488355328) (hmo : most ≤ 100000) (w : World) (hat : BytesAt w a bs) (he : ¬ e = 0) :
    Calls Tryz.prog 48 #[.agg (rc a n c e).toArray, .int .i64 (most : Int)] w (RTPost w bs a n c e most) := by
  obtain ⟨t, hv⟩ : ∃ v, gtS bs (most : Int) = v := ⟨_, rfl⟩
  obtain ⟨k, hk⟩ : ∃ v, gtK bs (most : Int) = v := ⟨_, rfl⟩
  obtain ⟨q, hq⟩ : ∃ v, gtE bs (most : Int) = v := ⟨_, rfl⟩
  obtain ⟨w0, hw0⟩ : ∃ w0, (w.alloc (.cells #[.slice a n c, .int .i64 (e : Int)] 66)).alloc (.cells #[.slice none 0 0, .int .i64 0] 66) = w0 := ⟨_, rfl⟩
  have H0 : Hid (After w w0 ∧ RowIs w0 w.heap.size 66 (rc a n c e) ∧ RowIs w0 (w.heap.size + 1) 66 (rc none 0 0 0)) := by
    rw [← hw0]
    exact ⟨after_alloc (after_alloc (After.refl w) _) _, (RowIs.new w 66 (rc a n c e)).alloc _, last66 _ _ (by simp) _⟩
  have HC : Hid (Calls Tryz.prog 81 #[.slice a n c, .int .i64 (most : Int)] w0 fun x w' => x = .returned (.tuple #[.string (strOf t), .int .i64 (k : Int), .int .i64 (q : Int)]) ∧ Below w0.heap.size w0 w') := by
    have := rgetText_any a c bs (most : Int) (by rw [hl]; exact hc) (by rw [hl]; omega) (by omega) (by omega) w0 (hat.after H0.out.1)
    rw [hl, hv, hk, hq] at this; exact this
  have HV : Hid (gtS bs (most : Int) = t ∧ gtK bs (most : Int) = k ∧ gtE bs (most : Int) = q ∧ BytesAt w a bs ∧ bs.length = n ∧ n ≤ c ∧ (a = none → n = 0) ∧ k ≤ n) := ⟨hv, hk, hq, hat, hl, hc, hz, by rw [← hk, ← hl]; exact gtK_le bs _⟩
  have c0 : w0.cell? ⟨w.heap.size, 0, none⟩ = some (.slice a n c) := H0.out.2.1.cell (j := 0) rfl
  have fi1 : ¬ (e : Int) = 0 := by omega
  have fb1 : ((e : Int) == 0) = false := beq_eq_false_iff_ne.2 fi1
  have fn1 : ((e : Int) != 0) = true := by simp [bne, fb1]

  clear hv hk hq hat hl hc hz
  go_enter Tryz.func48, Tryz.ntmps48
  go_wp2_with (first
    | (go_at_call 81; refine Calls.mono HC.out ?_; rintro x w1 ⟨rfl, ha⟩; have H1 := show Hid (After w w1 ∧ RowIs w1 w.heap.size 66 (rc a n c e) ∧ RowIs w1 (w.heap.size + 1) 66 (rc none 0 0 0)) from ⟨H0.out.1.trans ha, H0.out.2.1.below ha H0.out.2.1.lt, H0.out.2.2.below ha H0.out.2.2.lt⟩; have c2 : w1.cell? ⟨w.heap.size, 0, none⟩ = some (.slice a n c) := H1.out.2.1.cell (j := 0) rfl; have c3 : w1.cell? ⟨w.heap.size, 1, none⟩ = some (.int .i64 (e : Int)) := H1.out.2.1.cell (j := 1) rfl; clear ha)
    | (go_at_call 82; refine Calls.mono (failed_more a n c e q he w1) ?_; rintro x w2 ⟨rfl, ha⟩; have H2 := show Hid (After w w2 ∧ RowIs w2 (w.heap.size + 1) 66 (rc none 0 0 0)) from ⟨H1.out.1.trans ha, H1.out.2.2.below ha H1.out.2.2.lt⟩; clear ha)
    | (refine wpList_of_run rfl (x_ld66 (x := .tmp 2) (g := w.heap.size) (a := a) (n := n) (c := c) (e := e) rfl rfl H1.out.2.1) ?_)
    | (refine wpList_store_row rfl 66 (.tmp 4) (.tmp 26) rfl (w.heap.size + 1) (rc a n c e).toArray rfl rfl 66 _ H2.out.2 (size66 _ _ _ _) rfl (all66 _ _ _ _) ?_))
  refine bodyPost_ret (ret66t Tryz.results48 _ _ (w.heap.size + 1) a n c e rfl (H2.out.2.setRow (rc a n c e)) _ rfl) rfl ?_
  have hA := Below.row H2.out.1 (g := w.heap.size + 1) (by omega) (rc a n c e).toArray
  have hb := HV.out
  exact ⟨_, _, _, e, [], bs, rfl, ⟨⟨fun en => absurd en he, fun hh => absurd hh (fun hh => he hh.1)⟩, fun en => absurd en he, fun W h => h, hb.2.2.2.2.1, hb.2.2.2.2.2.1, hb.2.2.2.2.2.2.1, Nat.le_refl _⟩, hA⟩

set_option maxRecDepth 100000 in
set_option maxHeartbeats 4000000 in
theorem rtext_z (a : Option Addr) (n c e most : Nat) (bs : List UInt8) (hl : bs.length = n) (hc : n ≤ c) (hz : a = none → n = 0) (hbig : n ≤ 140737488355328) (hmo : most ≤ 100000) (w : World) (hat : BytesAt w a bs) (he : e = 0) (h1 : ¬ gtE bs (most : Int) = 0) :
    Calls Tryz.prog 48 #[.agg (rc a n c e).toArray, .int .i64 (most : Int)] w (RTPost w bs a n c e most) := by
  obtain ⟨t, hv⟩ : ∃ v, gtS bs (most : Int) = v := ⟨_, rfl⟩
  obtain ⟨k, hk⟩ : ∃ v, gtK bs (most : Int) = v := ⟨_, rfl⟩
  obtain ⟨q, hq⟩ : ∃ v, gtE bs (most : Int) = v := ⟨_, rfl⟩
  obtain ⟨w0, hw0⟩ : ∃ w0, (w.alloc (.cells #[.slice a n c, .int .i64 (e : Int)] 66)).alloc (.cells #[.slice none 0 0, .int .i64 0] 66) = w0 := ⟨_, rfl⟩
  have H0 : Hid (After w w0 ∧ RowIs w0 w.heap.size 66 (rc a n c e) ∧ RowIs w0 (w.heap.size + 1) 66 (rc none 0 0 0)) := by
    rw [← hw0]
    exact ⟨after_alloc (after_alloc (After.refl w) _) _, (RowIs.new w 66 (rc a n c e)).alloc _, last66 _ _ (by simp) _⟩
  have HC : Hid (Calls Tryz.prog 81 #[.slice a n c, .int .i64 (most : Int)] w0 fun x w' => x = .returned (.tuple #[.string (strOf t), .int .i64 (k : Int), .int .i64 (q : Int)]) ∧ Below w0.heap.size w0 w') := by
    have := rgetText_any a c bs (most : Int) (by rw [hl]; exact hc) (by rw [hl]; omega) (by omega) (by omega) w0 (hat.after H0.out.1)
    rw [hl, hv, hk, hq] at this; exact this
  have HV : Hid (gtS bs (most : Int) = t ∧ gtK bs (most : Int) = k ∧ gtE bs (most : Int) = q ∧ BytesAt w a bs ∧ bs.length = n ∧ n ≤ c ∧ (a = none → n = 0) ∧ k ≤ n) := ⟨hv, hk, hq, hat, hl, hc, hz, by rw [← hk, ← hl]; exact gtK_le bs _⟩
  have c0 : w0.cell? ⟨w.heap.size, 0, none⟩ = some (.slice a n c) := H0.out.2.1.cell (j := 0) rfl
  have fz : ((e : Int) == 0) = true := by simp [he]
  have fzn : ((e : Int) != 0) = false := by simp [he]
  have HE : Hid (e = 0) := he
  clear he
  have hq0 : ¬ q = 0 := by rw [← hq]; exact h1
  have fi2 : ¬ (q : Int) = 0 := by omega
  have fb2 : ((q : Int) == 0) = false := beq_eq_false_iff_ne.2 fi2
  have fn2 : ((q : Int) != 0) = true := by simp [bne, fb2]

  clear hv hk hq hat hl hc hz
  go_enter Tryz.func48, Tryz.ntmps48
  go_wp2_with (first
    | (go_at_call 81; refine Calls.mono HC.out ?_; rintro x w1 ⟨rfl, ha⟩; have H1 := show Hid (After w w1 ∧ RowIs w1 w.heap.size 66 (rc a n c e) ∧ RowIs w1 (w.heap.size + 1) 66 (rc none 0 0 0)) from ⟨H0.out.1.trans ha, H0.out.2.1.below ha H0.out.2.1.lt, H0.out.2.2.below ha H0.out.2.2.lt⟩; have c2 : w1.cell? ⟨w.heap.size, 0, none⟩ = some (.slice a n c) := H1.out.2.1.cell (j := 0) rfl; have c3 : w1.cell? ⟨w.heap.size, 1, none⟩ = some (.int .i64 (e : Int)) := H1.out.2.1.cell (j := 1) rfl; clear ha)
    | (go_at_call 82; refine Calls.mono (failed_zero a n c e q HE.out w1) ?_; rintro x w2 ⟨rfl, ha⟩; have H2 := show Hid (After w w2 ∧ RowIs w2 (w.heap.size + 1) 66 (rc none 0 0 0)) from ⟨H1.out.1.trans ha, H1.out.2.2.below ha H1.out.2.2.lt⟩; clear ha)
    | (refine wpList_of_run rfl (x_ld66 (x := .tmp 2) (g := w.heap.size) (a := a) (n := n) (c := c) (e := e) rfl rfl H1.out.2.1) ?_)
    | (refine wpList_store_row rfl 66 (.tmp 4) (.tmp 26) rfl (w.heap.size + 1) (rc a n c q).toArray rfl rfl 66 _ H2.out.2 (size66 _ _ _ _) rfl (all66 _ _ _ _) ?_))
  refine bodyPost_ret (ret66t Tryz.results48 _ _ (w.heap.size + 1) a n c q rfl (H2.out.2.setRow (rc a n c q)) _ rfl) rfl ?_
  have hA := Below.row H2.out.1 (g := w.heap.size + 1) (by omega) (rc a n c q).toArray
  have hb := HV.out
  exact ⟨_, _, _, q, [], bs, rfl, ⟨⟨fun en => absurd en hq0, fun hh => absurd hh (fun hh => h1 hh.2)⟩, fun en => absurd en hq0, fun W h => h, hb.2.2.2.2.1, hb.2.2.2.2.2.1, hb.2.2.2.2.2.2.1, Nat.le_refl _⟩, hA⟩

theorem rTextR_any (a : Option Addr) (n c e most : Nat) (bs : List UInt8) (hl : bs.length = n) (hc : n ≤ c) (hz : a = none → n = 0) (hbig : n ≤ 140737488355328) (hmo : most ≤ 100000) (w : World) (hat : BytesAt w a bs) :
    Calls Tryz.prog 48 #[.agg (rc a n c e).toArray, .int .i64 (most : Int)] w (RTPost w bs a n c e most) := by
  by_cases he : e = 0
  · by_cases h1 : gtE bs (most : Int) = 0
    · exact rtext_good a n c e most bs hl hc hz hbig hmo w hat he h1
    · exact rtext_z a n c e most bs hl hc hz hbig hmo w hat he h1
  · exact rtext_e a n c e most bs hl hc hz hbig hmo w hat he
end Go.Proofs.YtgmdolpjkaajfaaGreatDoor
