/-
  THE WALK OF stemmaref08.laid.
-/
import Derived.Test.YtgmdolpjkaajfaaGreatDoorCF
import Derived.Test.YtgmdolpjkaajfaaGreatDoorCK
import Derived.Test.YtgmdolpjkaajfaaGreatDoorOJ
namespace Go.Proofs.YtgmdolpjkaajfaaGreatDoor
open Go.RowKit Leb
section
variable {ops : Array Oper} {Q : Exit → Act → World → Prop} {S : World → Prop} {fuel : Nat} {listed : Array Bool} {a : Act} {w : World} {oi : Oper}
theorem tkRunS (i d : Nat) (v : Value) (w' : World) (hi : ops[i]? = some oi) (hd : oi.dst = some d) (hr : Region.ready .any ops listed = [i]) (hw : Region.wanted oi (yielded ops a.tmps) = true) (hrun : (execOp a.eval oi).run Tryz.prog w = .ok (.value v) w') (hS : S w')
    (h : wpAnyH Tryz.prog .any ops Q S fuel (listed.setIfInBounds i true) (a.put (some d) v) w') : wpAnyH Tryz.prog .any ops Q S (fuel + 1) listed a w :=
  wpAnyH_all hr (by simp) (fun j hj => by
    obtain rfl : j = i := by simpa using hj
    refine wpOp_step hi (fun K' hK => ?_)
    rw [if_pos hw]
    unfold Oper.wp
    rw [hrun, Oper.upon_value, hd]
    exact hK _ _ ⟨hS, h⟩)
theorem tkCallZ (i d : Nat) (f : FuncId) (args : Array Value) (R : Value → World → Prop) (hi : ops[i]? = some oi) (hd : oi.dst = some d) (hr : Region.ready .any ops listed = [i]) (hw : Region.wanted oi (yielded ops a.tmps) = true) (hrun : ∀ w, (execOp a.eval oi).run Tryz.prog w = .ok (.enter f args) w)
    (hc : Calls Tryz.prog f args w fun e w' => ∃ v, e = .returned v ∧ R v w')
    (h : ∀ v w', R v w' → S w' ∧ wpAnyH Tryz.prog .any ops Q S fuel (listed.setIfInBounds i true) (a.put (some d) v) w') : wpAnyH Tryz.prog .any ops Q S (fuel + 1) listed a w :=
  wpAnyH_all hr (by simp) (fun j hj => by
    obtain rfl : j = i := by simpa using hj
    refine wpOp_step hi (fun K' hK => ?_)
    rw [if_pos hw]
    unfold Oper.wp
    rw [hrun, Oper.upon_enter]
    refine hc.mono (fun e w' ⟨v, he, hr⟩ => ?_)
    subst he
    rw [hd]
    exact hK _ _ (h v w' hr))
end
theorem x_app {o : Oper} {a : Act} {s x : Operand} {w w' : World} {v u v' : Value} (hop : o.op = .call { callee := .builtin .append, args := #[s, x], argTypes := #[32, 32] }) (hs : a.eval s = v) (hx : a.eval x = u) (h : (Builtin.append_ #[32, 32] o.type #[v, u]).run Tryz.prog w = .ok v' w') : (execOp a.eval o).run Tryz.prog w = .ok (.value v') w' := by
  simp [execOp, hop, resolve, invoke, builtin, hs, hx, h, Result.andThen]
theorem own_one (w : World) : Own (w.alloc (.cells #[.int .u8 1] 5)) w.heap.size (.slice (some ⟨w.heap.size, 0, none⟩) 1 1) [1] :=
  ⟨rfl, .inr ⟨w.heap.size, 1, #[.int .u8 1], rfl, Nat.le_refl _, heap_alloc_new w _, Nat.le_refl _, by decide, rfl, rfl⟩⟩
theorem nm_str (l : List UInt8) : nmB (strOf l).data.toList = nmB l := by simp [strOf]
theorem str_len (t : List UInt8) : (strOf t).size = t.length := by simp [strOf, ByteArray.size]
/-- What laid tells. -/
def LdPost (w : World) (q : Nat) (B : List UInt8) (e : Ending) (w' : World) : Prop := ∃ v, e = .returned (.tuple #[v, .int .i64 (q : Int)]) ∧ Own w' w.heap.size v B ∧ After w w'
theorem LdPost.none {w w' : World} {q : Nat} (ha : After w w') : LdPost w q [] (.returned (.tuple #[.slice .none 0 0, .int .i64 (q : Int)])) w' := ⟨_, rfl, Own.nil _ _, ha⟩

set_option maxRecDepth 100000 in
set_option maxHeartbeats 4000000 in
theorem laid_e0 (au : List UInt8) (sq st : Int) (ds : List (List UInt8)) (nt : List UInt8) (os : List Opn) (d p : Sl) (w : World) (hx : ChAt w ⟨au, sq, st, ds, nt, os⟩ d p) (hnm : nmB au = false) :
    Calls Tryz.prog 24 #[cV ⟨au, sq, st, ds, nt, os⟩ d p] w (LdPost w 30 []) := by
  obtain ⟨w0, hw0⟩ : ∃ w0, w.alloc (.cells (cc ⟨au, sq, st, ds, nt, os⟩ d p).toArray 25) = w0 := ⟨_, rfl⟩
  have H0 : Hid (After w w0 ∧ RowIs w0 w.heap.size 25 (cc ⟨au, sq, st, ds, nt, os⟩ d p)) := by rw [← hw0]; exact ⟨after_alloc (After.refl w) _, RowIs.new w 25 (cc ⟨au, sq, st, ds, nt, os⟩ d p)⟩
  have HX : Hid (ChAt w ⟨au, sq, st, ds, nt, os⟩ d p) := hx
  have e0 : w0.cell? ⟨w.heap.size, 0, none⟩ = some (.string (strOf au)) := H0.out.2.cell (j := 0) rfl
  have e1 : w0.cell? ⟨w.heap.size, 1, none⟩ = some (.int .i64 sq) := H0.out.2.cell (j := 1) rfl
  have e2 : w0.cell? ⟨w.heap.size, 2, none⟩ = some (.int .i64 st) := H0.out.2.cell (j := 2) rfl
  have e3 : w0.cell? ⟨w.heap.size, 3, none⟩ = some (.slice d.a d.n d.c) := H0.out.2.cell (j := 3) rfl
  clear hx
  have HNM : Hid (nmB (strOf au).data.toList = false) := by unfold Hid; rw [nm_str]; exact hnm
  go_enter Tryz.func24, Tryz.ntmps24
  go_wp2_with (first
    | (go_at_call 55; refine Calls.mono (refName_one (strOf au) w0 (by rw [str_len]; exact HX.out.al)) ?_; rintro e wn ⟨rfl, hwn⟩; have hwn' := hwn.symm; clear hwn; subst hwn'; rw [HNM.out]))
  go_ret2
  exact LdPost.none H0.out.1

set_option maxRecDepth 100000 in
set_option maxHeartbeats 4000000 in
theorem laid_e1a (au : List UInt8) (sq st : Int) (ds : List (List UInt8)) (nt : List UInt8) (os : List Opn) (d p : Sl) (w : World) (hx : ChAt w ⟨au, sq, st, ds, nt, os⟩ d p) (hnm : nmB au = true) (h : sq < 1) :
    Calls Tryz.prog 24 #[cV ⟨au, sq, st, ds, nt, os⟩ d p] w (LdPost w 42 []) := by
  obtain ⟨w0, hw0⟩ : ∃ w0, w.alloc (.cells (cc ⟨au, sq, st, ds, nt, os⟩ d p).toArray 25) = w0 := ⟨_, rfl⟩
  have H0 : Hid (After w w0 ∧ RowIs w0 w.heap.size 25 (cc ⟨au, sq, st, ds, nt, os⟩ d p)) := by rw [← hw0]; exact ⟨after_alloc (After.refl w) _, RowIs.new w 25 (cc ⟨au, sq, st, ds, nt, os⟩ d p)⟩
  have HX : Hid (ChAt w ⟨au, sq, st, ds, nt, os⟩ d p) := hx
  have e0 : w0.cell? ⟨w.heap.size, 0, none⟩ = some (.string (strOf au)) := H0.out.2.cell (j := 0) rfl
  have e1 : w0.cell? ⟨w.heap.size, 1, none⟩ = some (.int .i64 sq) := H0.out.2.cell (j := 1) rfl
  have e2 : w0.cell? ⟨w.heap.size, 2, none⟩ = some (.int .i64 st) := H0.out.2.cell (j := 2) rfl
  have e3 : w0.cell? ⟨w.heap.size, 3, none⟩ = some (.slice d.a d.n d.c) := H0.out.2.cell (j := 3) rfl
  clear hx
  have HNM : Hid (nmB (strOf au).data.toList = true) := by unfold Hid; rw [nm_str]; exact hnm
  go_enter Tryz.func24, Tryz.ntmps24
  go_wp2_with (first
    | (go_at_call 55; refine Calls.mono (refName_one (strOf au) w0 (by rw [str_len]; exact HX.out.al)) ?_; rintro e wn ⟨rfl, hwn⟩; have hwn' := hwn.symm; clear hwn; subst hwn'; rw [HNM.out]))
  go_ret2
  exact LdPost.none H0.out.1

set_option maxRecDepth 100000 in
set_option maxHeartbeats 4000000 in
theorem laid_e1b (au : List UInt8) (sq st : Int) (ds : List (List UInt8)) (nt : List UInt8) (os : List Opn) (d p : Sl) (w : World) (hx : ChAt w ⟨au, sq, st, ds, nt, os⟩ d p) (hnm : nmB au = true) (h : 1099511627776 < sq) :
    Calls Tryz.prog 24 #[cV ⟨au, sq, st, ds, nt, os⟩ d p] w (LdPost w 42 []) := by
  obtain ⟨w0, hw0⟩ : ∃ w0, w.alloc (.cells (cc ⟨au, sq, st, ds, nt, os⟩ d p).toArray 25) = w0 := ⟨_, rfl⟩
  have H0 : Hid (After w w0 ∧ RowIs w0 w.heap.size 25 (cc ⟨au, sq, st, ds, nt, os⟩ d p)) := by rw [← hw0]; exact ⟨after_alloc (After.refl w) _, RowIs.new w 25 (cc ⟨au, sq, st, ds, nt, os⟩ d p)⟩
  have HX : Hid (ChAt w ⟨au, sq, st, ds, nt, os⟩ d p) := hx
  have e0 : w0.cell? ⟨w.heap.size, 0, none⟩ = some (.string (strOf au)) := H0.out.2.cell (j := 0) rfl
  have e1 : w0.cell? ⟨w.heap.size, 1, none⟩ = some (.int .i64 sq) := H0.out.2.cell (j := 1) rfl
  have e2 : w0.cell? ⟨w.heap.size, 2, none⟩ = some (.int .i64 st) := H0.out.2.cell (j := 2) rfl
  have e3 : w0.cell? ⟨w.heap.size, 3, none⟩ = some (.slice d.a d.n d.c) := H0.out.2.cell (j := 3) rfl
  clear hx
  have HNM : Hid (nmB (strOf au).data.toList = true) := by unfold Hid; rw [nm_str]; exact hnm
  have s1 : ¬ sq < 1 := by omega
  go_enter Tryz.func24, Tryz.ntmps24
  go_wp2_with (first
    | (go_at_call 55; refine Calls.mono (refName_one (strOf au) w0 (by rw [str_len]; exact HX.out.al)) ?_; rintro e wn ⟨rfl, hwn⟩; have hwn' := hwn.symm; clear hwn; subst hwn'; rw [HNM.out]))
  go_ret2
  exact LdPost.none H0.out.1

set_option maxRecDepth 100000 in
set_option maxHeartbeats 4000000 in
theorem laid_e2a (au : List UInt8) (sq st : Int) (ds : List (List UInt8)) (nt : List UInt8) (os : List Opn) (d p : Sl) (w : World) (hx : ChAt w ⟨au, sq, st, ds, nt, os⟩ d p) (hnm : nmB au = true) (h1 : 1 ≤ sq) (h2 : sq ≤ 1099511627776) (h : st < 1) :
    Calls Tryz.prog 24 #[cV ⟨au, sq, st, ds, nt, os⟩ d p] w (LdPost w 43 []) := by
  obtain ⟨w0, hw0⟩ : ∃ w0, w.alloc (.cells (cc ⟨au, sq, st, ds, nt, os⟩ d p).toArray 25) = w0 := ⟨_, rfl⟩
  have H0 : Hid (After w w0 ∧ RowIs w0 w.heap.size 25 (cc ⟨au, sq, st, ds, nt, os⟩ d p)) := by rw [← hw0]; exact ⟨after_alloc (After.refl w) _, RowIs.new w 25 (cc ⟨au, sq, st, ds, nt, os⟩ d p)⟩
  have HX : Hid (ChAt w ⟨au, sq, st, ds, nt, os⟩ d p) := hx
  have e0 : w0.cell? ⟨w.heap.size, 0, none⟩ = some (.string (strOf au)) := H0.out.2.cell (j := 0) rfl
  have e1 : w0.cell? ⟨w.heap.size, 1, none⟩ = some (.int .i64 sq) := H0.out.2.cell (j := 1) rfl
  have e2 : w0.cell? ⟨w.heap.size, 2, none⟩ = some (.int .i64 st) := H0.out.2.cell (j := 2) rfl
  have e3 : w0.cell? ⟨w.heap.size, 3, none⟩ = some (.slice d.a d.n d.c) := H0.out.2.cell (j := 3) rfl
  clear hx
  have HNM : Hid (nmB (strOf au).data.toList = true) := by unfold Hid; rw [nm_str]; exact hnm
  have s1 : ¬ sq < 1 := by omega
  have s2 : ¬ 1099511627776 < sq := by omega
  go_enter Tryz.func24, Tryz.ntmps24
  go_wp2_with (first
    | (go_at_call 55; refine Calls.mono (refName_one (strOf au) w0 (by rw [str_len]; exact HX.out.al)) ?_; rintro e wn ⟨rfl, hwn⟩; have hwn' := hwn.symm; clear hwn; subst hwn'; rw [HNM.out]))
  go_ret2
  exact LdPost.none H0.out.1

set_option maxRecDepth 100000 in
set_option maxHeartbeats 4000000 in
theorem laid_e2b (au : List UInt8) (sq st : Int) (ds : List (List UInt8)) (nt : List UInt8) (os : List Opn) (d p : Sl) (w : World) (hx : ChAt w ⟨au, sq, st, ds, nt, os⟩ d p) (hnm : nmB au = true) (h1 : 1 ≤ sq) (h2 : sq ≤ 1099511627776) (h : 1099511627776 < st) :
    Calls Tryz.prog 24 #[cV ⟨au, sq, st, ds, nt, os⟩ d p] w (LdPost w 43 []) := by
  obtain ⟨w0, hw0⟩ : ∃ w0, w.alloc (.cells (cc ⟨au, sq, st, ds, nt, os⟩ d p).toArray 25) = w0 := ⟨_, rfl⟩
  have H0 : Hid (After w w0 ∧ RowIs w0 w.heap.size 25 (cc ⟨au, sq, st, ds, nt, os⟩ d p)) := by rw [← hw0]; exact ⟨after_alloc (After.refl w) _, RowIs.new w 25 (cc ⟨au, sq, st, ds, nt, os⟩ d p)⟩
  have HX : Hid (ChAt w ⟨au, sq, st, ds, nt, os⟩ d p) := hx
  have e0 : w0.cell? ⟨w.heap.size, 0, none⟩ = some (.string (strOf au)) := H0.out.2.cell (j := 0) rfl
  have e1 : w0.cell? ⟨w.heap.size, 1, none⟩ = some (.int .i64 sq) := H0.out.2.cell (j := 1) rfl
  have e2 : w0.cell? ⟨w.heap.size, 2, none⟩ = some (.int .i64 st) := H0.out.2.cell (j := 2) rfl
  have e3 : w0.cell? ⟨w.heap.size, 3, none⟩ = some (.slice d.a d.n d.c) := H0.out.2.cell (j := 3) rfl
  clear hx
  have HNM : Hid (nmB (strOf au).data.toList = true) := by unfold Hid; rw [nm_str]; exact hnm
  have s1 : ¬ sq < 1 := by omega
  have s2 : ¬ 1099511627776 < sq := by omega
  have t1 : ¬ st < 1 := by omega
  go_enter Tryz.func24, Tryz.ntmps24
  go_wp2_with (first
    | (go_at_call 55; refine Calls.mono (refName_one (strOf au) w0 (by rw [str_len]; exact HX.out.al)) ?_; rintro e wn ⟨rfl, hwn⟩; have hwn' := hwn.symm; clear hwn; subst hwn'; rw [HNM.out]))
  go_ret2
  exact LdPost.none H0.out.1

set_option maxRecDepth 100000 in
set_option maxHeartbeats 4000000 in
theorem laid_e3a (au : List UInt8) (sq st : Int) (ds : List (List UInt8)) (nt : List UInt8) (os : List Opn) (d p : Sl) (w : World) (hx : ChAt w ⟨au, sq, st, ds, nt, os⟩ d p) (hnm : nmB au = true) (h1 : 1 ≤ sq) (h2 : sq ≤ 1099511627776) (h3 : 1 ≤ st) (h4 : st ≤ 1099511627776) (h : 16 < d.n) :
    Calls Tryz.prog 24 #[cV ⟨au, sq, st, ds, nt, os⟩ d p] w (LdPost w 41 []) := by
  obtain ⟨w0, hw0⟩ : ∃ w0, w.alloc (.cells (cc ⟨au, sq, st, ds, nt, os⟩ d p).toArray 25) = w0 := ⟨_, rfl⟩
  have H0 : Hid (After w w0 ∧ RowIs w0 w.heap.size 25 (cc ⟨au, sq, st, ds, nt, os⟩ d p)) := by rw [← hw0]; exact ⟨after_alloc (After.refl w) _, RowIs.new w 25 (cc ⟨au, sq, st, ds, nt, os⟩ d p)⟩
  have HX : Hid (ChAt w ⟨au, sq, st, ds, nt, os⟩ d p) := hx
  have e0 : w0.cell? ⟨w.heap.size, 0, none⟩ = some (.string (strOf au)) := H0.out.2.cell (j := 0) rfl
  have e1 : w0.cell? ⟨w.heap.size, 1, none⟩ = some (.int .i64 sq) := H0.out.2.cell (j := 1) rfl
  have e2 : w0.cell? ⟨w.heap.size, 2, none⟩ = some (.int .i64 st) := H0.out.2.cell (j := 2) rfl
  have e3 : w0.cell? ⟨w.heap.size, 3, none⟩ = some (.slice d.a d.n d.c) := H0.out.2.cell (j := 3) rfl
  clear hx
  have HNM : Hid (nmB (strOf au).data.toList = true) := by unfold Hid; rw [nm_str]; exact hnm
  have s1 : ¬ sq < 1 := by omega
  have s2 : ¬ 1099511627776 < sq := by omega
  have t1 : ¬ st < 1 := by omega
  have t2 : ¬ 1099511627776 < st := by omega
  have d1 : (16 : Int) < (d.n : Int) := by omega
  go_enter Tryz.func24, Tryz.ntmps24
  go_wp2_with (first
    | (go_at_call 55; refine Calls.mono (refName_one (strOf au) w0 (by rw [str_len]; exact HX.out.al)) ?_; rintro e wn ⟨rfl, hwn⟩; have hwn' := hwn.symm; clear hwn; subst hwn'; rw [HNM.out]))
  go_ret2
  exact LdPost.none H0.out.1

set_option maxRecDepth 100000 in
set_option maxHeartbeats 4000000 in
theorem laid_e3b (au : List UInt8) (sq st : Int) (ds : List (List UInt8)) (nt : List UInt8) (os : List Opn) (d p : Sl) (w : World) (hx : ChAt w ⟨au, sq, st, ds, nt, os⟩ d p) (hnm : nmB au = true) (h1 : 1 ≤ sq) (h2 : sq ≤ 1099511627776) (h3 : 1 ≤ st) (h4 : st ≤ 1099511627776) (h5 : d.n ≤ 16) (h : HS.upB ds = false) :
    Calls Tryz.prog 24 #[cV ⟨au, sq, st, ds, nt, os⟩ d p] w (LdPost w 41 []) := by
  obtain ⟨w0, hw0⟩ : ∃ w0, w.alloc (.cells (cc ⟨au, sq, st, ds, nt, os⟩ d p).toArray 25) = w0 := ⟨_, rfl⟩
  have H0 : Hid (After w w0 ∧ RowIs w0 w.heap.size 25 (cc ⟨au, sq, st, ds, nt, os⟩ d p)) := by rw [← hw0]; exact ⟨after_alloc (After.refl w) _, RowIs.new w 25 (cc ⟨au, sq, st, ds, nt, os⟩ d p)⟩
  have HX : Hid (ChAt w ⟨au, sq, st, ds, nt, os⟩ d p) := hx
  have e0 : w0.cell? ⟨w.heap.size, 0, none⟩ = some (.string (strOf au)) := H0.out.2.cell (j := 0) rfl
  have e1 : w0.cell? ⟨w.heap.size, 1, none⟩ = some (.int .i64 sq) := H0.out.2.cell (j := 1) rfl
  have e2 : w0.cell? ⟨w.heap.size, 2, none⟩ = some (.int .i64 st) := H0.out.2.cell (j := 2) rfl
  have e3 : w0.cell? ⟨w.heap.size, 3, none⟩ = some (.slice d.a d.n d.c) := H0.out.2.cell (j := 3) rfl
  clear hx
  have HNM : Hid (nmB (strOf au).data.toList = true) := by unfold Hid; rw [nm_str]; exact hnm
  have s1 : ¬ sq < 1 := by omega
  have s2 : ¬ 1099511627776 < sq := by omega
  have t1 : ¬ st < 1 := by omega
  have t2 : ¬ 1099511627776 < st := by omega
  have d1 : ¬ (16 : Int) < (d.n : Int) := by omega
  have HUP : Hid (HS.upB ds = false) := h
  go_enter Tryz.func24, Tryz.ntmps24
  go_wp2_with (first
    | (go_at_call 55; refine Calls.mono (refName_one (strOf au) w0 (by rw [str_len]; exact HX.out.al)) ?_; rintro e wn ⟨rfl, hwn⟩; have hwn' := hwn.symm; clear hwn; subst hwn'; rw [HNM.out])
    | (go_at_call 56; refine Calls.mono (HS.rising16 d.a d.c ds HX.out.d32 d.n HX.out.dn HX.out.db w0 (HX.out.deps.after H0.out.1)) ?_; rintro e w1 ⟨rfl, ha⟩; rw [HUP.out]; have H1 := show Hid (After w w1 ∧ RowIs w1 w.heap.size 25 (cc ⟨au, sq, st, ds, nt, os⟩ d p)) from ⟨H0.out.1.trans ha, H0.out.2.below ha H0.out.2.lt⟩; have e4 : w1.cell? ⟨w.heap.size, 4, none⟩ = some (.string (strOf nt)) := H1.out.2.cell (j := 4) rfl; clear ha))
  go_ret2
  exact LdPost.none H1.out.1

set_option maxRecDepth 100000 in
set_option maxHeartbeats 4000000 in
theorem laid_e4 (au : List UInt8) (sq st : Int) (ds : List (List UInt8)) (nt : List UInt8) (os : List Opn) (d p : Sl) (w : World) (hx : ChAt w ⟨au, sq, st, ds, nt, os⟩ d p) (hnm : nmB au = true) (h1 : 1 ≤ sq) (h2 : sq ≤ 1099511627776) (h3 : 1 ≤ st) (h4 : st ≤ 1099511627776) (h5 : d.n ≤ 16) (h6 : HS.upB ds = true) (h : 1024 < nt.length) :
    Calls Tryz.prog 24 #[cV ⟨au, sq, st, ds, nt, os⟩ d p] w (LdPost w 5 []) := by
  obtain ⟨w0, hw0⟩ : ∃ w0, w.alloc (.cells (cc ⟨au, sq, st, ds, nt, os⟩ d p).toArray 25) = w0 := ⟨_, rfl⟩
  have H0 : Hid (After w w0 ∧ RowIs w0 w.heap.size 25 (cc ⟨au, sq, st, ds, nt, os⟩ d p)) := by rw [← hw0]; exact ⟨after_alloc (After.refl w) _, RowIs.new w 25 (cc ⟨au, sq, st, ds, nt, os⟩ d p)⟩
  have HX : Hid (ChAt w ⟨au, sq, st, ds, nt, os⟩ d p) := hx
  have e0 : w0.cell? ⟨w.heap.size, 0, none⟩ = some (.string (strOf au)) := H0.out.2.cell (j := 0) rfl
  have e1 : w0.cell? ⟨w.heap.size, 1, none⟩ = some (.int .i64 sq) := H0.out.2.cell (j := 1) rfl
  have e2 : w0.cell? ⟨w.heap.size, 2, none⟩ = some (.int .i64 st) := H0.out.2.cell (j := 2) rfl
  have e3 : w0.cell? ⟨w.heap.size, 3, none⟩ = some (.slice d.a d.n d.c) := H0.out.2.cell (j := 3) rfl
  clear hx
  have HNM : Hid (nmB (strOf au).data.toList = true) := by unfold Hid; rw [nm_str]; exact hnm
  have s1 : ¬ sq < 1 := by omega
  have s2 : ¬ 1099511627776 < sq := by omega
  have t1 : ¬ st < 1 := by omega
  have t2 : ¬ 1099511627776 < st := by omega
  have d1 : ¬ (16 : Int) < (d.n : Int) := by omega
  have HUP : Hid (HS.upB ds = true) := h6
  have hN : (strOf nt).size = nt.length := str_len nt
  have n1 : (1024 : Int) < (nt.length : Int) := by omega
  go_enter Tryz.func24, Tryz.ntmps24
  go_wp2_with (first
    | (go_at_call 55; refine Calls.mono (refName_one (strOf au) w0 (by rw [str_len]; exact HX.out.al)) ?_; rintro e wn ⟨rfl, hwn⟩; have hwn' := hwn.symm; clear hwn; subst hwn'; rw [HNM.out])
    | (go_at_call 56; refine Calls.mono (HS.rising16 d.a d.c ds HX.out.d32 d.n HX.out.dn HX.out.db w0 (HX.out.deps.after H0.out.1)) ?_; rintro e w1 ⟨rfl, ha⟩; rw [HUP.out]; have H1 := show Hid (After w w1 ∧ RowIs w1 w.heap.size 25 (cc ⟨au, sq, st, ds, nt, os⟩ d p)) from ⟨H0.out.1.trans ha, H0.out.2.below ha H0.out.2.lt⟩; have e4 : w1.cell? ⟨w.heap.size, 4, none⟩ = some (.string (strOf nt)) := H1.out.2.cell (j := 4) rfl; clear ha))
  go_ret2
  exact LdPost.none H1.out.1

set_option maxRecDepth 100000 in
set_option maxHeartbeats 4000000 in
theorem laid_e5 (au : List UInt8) (sq st : Int) (ds : List (List UInt8)) (nt : List UInt8) (os : List Opn) (d p : Sl) (w : World) (hx : ChAt w ⟨au, sq, st, ds, nt, os⟩ d p) (hnm : nmB au = true) (h1 : 1 ≤ sq) (h2 : sq ≤ 1099511627776) (h3 : 1 ≤ st) (h4 : st ≤ 1099511627776) (h5 : d.n ≤ 16) (h6 : HS.upB ds = true) (h7 : nt.length ≤ 1024) {q : Nat} (hq : putE os = q) (h0 : ¬ q = 0) :
    Calls Tryz.prog 24 #[cV ⟨au, sq, st, ds, nt, os⟩ d p] w (LdPost w q []) := by
  obtain ⟨w0, hw0⟩ : ∃ w0, w.alloc (.cells (cc ⟨au, sq, st, ds, nt, os⟩ d p).toArray 25) = w0 := ⟨_, rfl⟩
  have H0 : Hid (After w w0 ∧ RowIs w0 w.heap.size 25 (cc ⟨au, sq, st, ds, nt, os⟩ d p)) := by rw [← hw0]; exact ⟨after_alloc (After.refl w) _, RowIs.new w 25 (cc ⟨au, sq, st, ds, nt, os⟩ d p)⟩
  have HX : Hid (ChAt w ⟨au, sq, st, ds, nt, os⟩ d p) := hx
  have e0 : w0.cell? ⟨w.heap.size, 0, none⟩ = some (.string (strOf au)) := H0.out.2.cell (j := 0) rfl
  have e1 : w0.cell? ⟨w.heap.size, 1, none⟩ = some (.int .i64 sq) := H0.out.2.cell (j := 1) rfl
  have e2 : w0.cell? ⟨w.heap.size, 2, none⟩ = some (.int .i64 st) := H0.out.2.cell (j := 2) rfl
  have e3 : w0.cell? ⟨w.heap.size, 3, none⟩ = some (.slice d.a d.n d.c) := H0.out.2.cell (j := 3) rfl
  clear hx
  have HNM : Hid (nmB (strOf au).data.toList = true) := by unfold Hid; rw [nm_str]; exact hnm
  have s1 : ¬ sq < 1 := by omega
  have s2 : ¬ 1099511627776 < sq := by omega
  have t1 : ¬ st < 1 := by omega
  have t2 : ¬ 1099511627776 < st := by omega
  have d1 : ¬ (16 : Int) < (d.n : Int) := by omega
  have HUP : Hid (HS.upB ds = true) := h6
  have hN : (strOf nt).size = nt.length := str_len nt
  have n1 : ¬ (1024 : Int) < (nt.length : Int) := by omega
  obtain ⟨OB, hOB⟩ : ∃ B, putBs os = B := ⟨_, rfl⟩
  obtain ⟨OL, hOL⟩ : ∃ k, OB.length = k := ⟨_, rfl⟩
  have HPE : Hid (putE os = q ∧ putBs os = OB) := ⟨hq, hOB⟩
  have HPE2 : Hid (OB.length = OL) := hOL
  have fi : ¬ (q : Int) = 0 := by omega
  have fb : ((q : Int) == 0) = false := beq_eq_false_iff_ne.2 fi
  have fn : ((q : Int) != 0) = true := by simp [bne, fb]
  clear hq hOB hOL
  go_enter Tryz.func24, Tryz.ntmps24
  refine wp_seq_k (fun K0 hK => ?_)
  have HK0 := show Hid _ from hK
  clear hK
  go_wp2_with fail
  refine HK0.out _ _ ?_
  clear HK0
  refine wp_seq_k (fun K1 hK => ?_)
  have HK1 := show Hid _ from hK
  clear hK
  go_wp2_with (first
    | (go_at_call 55; refine Calls.mono (refName_one (strOf au) w0 (by rw [str_len]; exact HX.out.al)) ?_; rintro e wn ⟨rfl, hwn⟩; have hwn' := hwn.symm; clear hwn; subst hwn'; rw [HNM.out])
    | (go_at_call 56; refine Calls.mono (HS.rising16 d.a d.c ds HX.out.d32 d.n HX.out.dn HX.out.db w0 (HX.out.deps.after H0.out.1)) ?_; rintro e w1 ⟨rfl, ha⟩; rw [HUP.out]; have H1 := show Hid (After w w1 ∧ RowIs w1 w.heap.size 25 (cc ⟨au, sq, st, ds, nt, os⟩ d p)) from ⟨H0.out.1.trans ha, H0.out.2.below ha H0.out.2.lt⟩; have e4 : w1.cell? ⟨w.heap.size, 4, none⟩ = some (.string (strOf nt)) := H1.out.2.cell (j := 4) rfl; clear ha))
  refine HK1.out _ _ ?_
  clear HK1
  refine wp_seq_k (fun K2 hK => ?_)
  have HK2 := show Hid _ from hK
  clear hK
  have e5 : w1.cell? ⟨w.heap.size, 5, none⟩ = some (.slice p.a p.n p.c) := H1.out.2.cell (j := 5) rfl
  go_wp2_with (go_at_call 57; refine Calls.mono (rput_any p.a p.n p.c os HX.out.pn HX.out.ok HX.out.pb w1 (HX.out.ops.after H1.out.1)) ?_; rintro e w2 ⟨v2, rfl, ho, ha⟩; rw [HPE.out.1]; rw [HPE.out.2] at ho; obtain ⟨ob, oc', hoe, hob, hole, _⟩ := own_sl ho (k := OL) HPE2.out; subst hoe; have H2 := show Hid (After w w2 ∧ RowIs w2 w.heap.size 25 (cc ⟨au, sq, st, ds, nt, os⟩ d p) ∧ BytesAt w2 ob OB) from ⟨H1.out.1.trans ha, H1.out.2.below ha H1.out.2.lt, hob⟩; clear ho ha hob hole)
  refine HK2.out _ _ ?_
  clear HK2
  go_wp2
  go_ret2
  exact LdPost.none H2.out.1

theorem hrput_k (a : Option Addr) (n c : Nat) (l : List (List UInt8)) (h32 : HS.All32 l) (hl : l.length = n) (hb : n ≤ 1000) (w : World) (hA : HS.HsAt w a l) : Calls Tryz.prog 60 #[.slice a n c] w fun e w' => ∃ v, e = .returned v ∧ Own w' w.heap.size v (putD l) ∧ After w w' :=
  (HS.rput_any a c l h32 n hl (by omega) w hA).mono (fun e w' ⟨v, he, ho, ha⟩ => by
    rw [putD_eq hl] at ho
    exact ⟨v, he, ho, ha⟩)

set_option maxRecDepth 100000 in
set_option maxHeartbeats 4000000 in
theorem laid_ok (au : List UInt8) (sq st : Int) (ds : List (List UInt8)) (nt : List UInt8) (os : List Opn) (d p : Sl) (w : World) (hx : ChAt w ⟨au, sq, st, ds, nt, os⟩ d p) (hnm : nmB au = true) (h1 : 1 ≤ sq) (h2 : sq ≤ 1099511627776) (h3 : 1 ≤ st) (h4 : st ≤ 1099511627776) (h5 : d.n ≤ 16) (h6 : HS.upB ds = true) (h7 : nt.length ≤ 1024) (sn tn : Nat) (hsn : sq = (sn : Int)) (htn : st = (tn : Int)) (hal : au.length ≤ 2000) (hq : putE os = 0) (hol : (layB os).length ≤ 200000000) {C : List UInt8} (hC : layX au sn tn ds nt (layB os) = C) {qq : Nat} {RB : List UInt8} (hqq : eOf (decide (C.length ≤ 65536)) 5 = qq) (hRB : (if C.length ≤ 65536 then C else []) = RB) :
    Calls Tryz.prog 24 #[cV ⟨au, sq, st, ds, nt, os⟩ d p] w (LdPost w qq RB) := by
  have HQQ : Hid (eOf (decide (C.length ≤ 65536)) 5 = qq ∧ (if C.length ≤ 65536 then C else []) = RB) := ⟨hqq, hRB⟩
  clear hqq hRB
  obtain ⟨w0, hw0⟩ : ∃ w0, w.alloc (.cells (cc ⟨au, sq, st, ds, nt, os⟩ d p).toArray 25) = w0 := ⟨_, rfl⟩
  have H0 : Hid (After w w0 ∧ RowIs w0 w.heap.size 25 (cc ⟨au, sq, st, ds, nt, os⟩ d p)) := by rw [← hw0]; exact ⟨after_alloc (After.refl w) _, RowIs.new w 25 (cc ⟨au, sq, st, ds, nt, os⟩ d p)⟩
  have HX : Hid (ChAt w ⟨au, sq, st, ds, nt, os⟩ d p) := hx
  have e0 : w0.cell? ⟨w.heap.size, 0, none⟩ = some (.string (strOf au)) := H0.out.2.cell (j := 0) rfl
  have e1 : w0.cell? ⟨w.heap.size, 1, none⟩ = some (.int .i64 sq) := H0.out.2.cell (j := 1) rfl
  have e2 : w0.cell? ⟨w.heap.size, 2, none⟩ = some (.int .i64 st) := H0.out.2.cell (j := 2) rfl
  have e3 : w0.cell? ⟨w.heap.size, 3, none⟩ = some (.slice d.a d.n d.c) := H0.out.2.cell (j := 3) rfl
  clear hx
  have HNM : Hid (nmB (strOf au).data.toList = true) := by unfold Hid; rw [nm_str]; exact hnm
  have s1 : ¬ sq < 1 := by omega
  have s2 : ¬ 1099511627776 < sq := by omega
  have t1 : ¬ st < 1 := by omega
  have t2 : ¬ 1099511627776 < st := by omega
  have d1 : ¬ (16 : Int) < (d.n : Int) := by omega
  have HUP : Hid (HS.upB ds = true) := h6
  have hN : (strOf nt).size = nt.length := str_len nt
  have n1 : ¬ (1024 : Int) < (nt.length : Int) := by omega
  obtain ⟨OB, hOB⟩ : ∃ B, layB os = B := ⟨_, rfl⟩
  rw [hOB] at hol hC
  obtain ⟨OL, hOL⟩ : ∃ k, OB.length = k := ⟨_, rfl⟩
  have HPE : Hid (putE os = 0 ∧ putBs os = OB) := ⟨hq, by unfold putBs; rw [if_pos hq]; exact hOB⟩
  have HPE2 : Hid (OB.length = OL) := hOL
  subst hsn htn
  obtain ⟨CL, hCL⟩ : ∃ k, C.length = k := ⟨_, rfl⟩
  have HB : Hid (sn ≤ 1099511627776 ∧ tn ≤ 1099511627776 ∧ (textB au).length ≤ 2010 ∧ (uintB sn).length ≤ 10 ∧ (uintB tn).length ≤ 10 ∧ (putD ds).length ≤ 600 ∧ (textB nt).length ≤ 2010 ∧ OL ≤ 200000000 ∧ nt.length ≤ 2000 ∧ au.length ≤ 2000 ∧ (([1] ++ textB au) ++ uintB sn ++ uintB tn ++ putD ds ++ textB nt) ++ OB = C ∧ C.length = CL ∧ d.n ≤ 1000) := by
    refine ⟨by omega, by omega, textB_len _ hal, uintB_len10 _ (by omega), uintB_len10 _ (by omega), ?_, textB_len _ (by omega), by omega, by omega, hal, ?_, hCL, by omega⟩
    · unfold putD
      have hdn : ds.length = d.n := HX.out.dn
      have h32 : HS.All32 ds := HX.out.d32
      rw [List.length_append, HS.flat_len h32, hdn]
      have := uintB_len10 d.n (by omega)
      omega
    · rw [← hC]; unfold layX; simp
  clear hq hOB hOL hol hC hCL hal
  go_enter Tryz.func24, Tryz.ntmps24
  refine wp_seq_k (fun K0 hK => ?_)
  have HK0 := show Hid _ from hK
  clear hK
  go_wp2_with fail
  refine HK0.out _ _ ?_
  clear HK0
  refine wp_seq_k (fun K1 hK => ?_)
  have HK1 := show Hid _ from hK
  clear hK
  go_wp2_with (first
    | (go_at_call 55; refine Calls.mono (refName_one (strOf au) w0 (by rw [str_len]; exact HX.out.al)) ?_; rintro e wn ⟨rfl, hwn⟩; have hwn' := hwn.symm; clear hwn; subst hwn'; rw [HNM.out])
    | (go_at_call 56; refine Calls.mono (HS.rising16 d.a d.c ds HX.out.d32 d.n HX.out.dn HX.out.db w0 (HX.out.deps.after H0.out.1)) ?_; rintro e w1 ⟨rfl, ha⟩; rw [HUP.out]; have H1 := show Hid (After w w1 ∧ RowIs w1 w.heap.size 25 (cc ⟨au, (sn : Int), (tn : Int), ds, nt, os⟩ d p)) from ⟨H0.out.1.trans ha, H0.out.2.below ha H0.out.2.lt⟩; have e4 : w1.cell? ⟨w.heap.size, 4, none⟩ = some (.string (strOf nt)) := H1.out.2.cell (j := 4) rfl; clear ha))
  refine HK1.out _ _ ?_
  clear HK1
  refine wp_seq_k (fun K2 hK => ?_)
  have HK2 := show Hid _ from hK
  clear hK
  have e5 : w1.cell? ⟨w.heap.size, 5, none⟩ = some (.slice p.a p.n p.c) := H1.out.2.cell (j := 5) rfl
  go_wp2_with (go_at_call 57; refine Calls.mono (rput_any p.a p.n p.c os HX.out.pn HX.out.ok HX.out.pb w1 (HX.out.ops.after H1.out.1)) ?_; rintro e w2 ⟨v2, rfl, ho, ha⟩; rw [HPE.out.1]; rw [HPE.out.2] at ho; obtain ⟨ob, oc', hoe, hob, hole, _⟩ := own_sl ho (k := OL) HPE2.out; subst hoe; have H2 := show Hid (After w w2 ∧ RowIs w2 w.heap.size 25 (cc ⟨au, (sn : Int), (tn : Int), ds, nt, os⟩ d p) ∧ BytesAt w2 ob OB) from ⟨H1.out.1.trans ha, H1.out.2.below ha H1.out.2.lt, hob⟩; clear ho ha hob hole)
  refine HK2.out _ _ ?_
  clear HK2
  refine wp_seq_k (fun K3 hK => ?_)
  have HK3 := show Hid _ from hK
  clear hK
  go_wp2_with fail
  refine HK3.out _ _ ?_
  clear HK3
  refine wp_seq_k (fun K4 hK => ?_)
  have HK4 := show Hid _ from hK
  clear hK
  have f0 : w2.cell? ⟨w.heap.size, 0, none⟩ = some (.string (strOf au)) := H2.out.2.1.cell (j := 0) rfl
  have H2a : Hid (After w2 (w2.alloc (.cells #[.int .u8 1] 5)) ∧ (w2.alloc (.cells #[.int .u8 1] 5)).cell? ⟨w.heap.size, 0, none⟩ = some (.string (strOf au))) := ⟨after_alloc (After.refl w2) _, (H2.out.2.1.alloc _).cell (j := 0) rfl⟩
  have f0a := H2a.out.2
  go_wp2_with (first
    | (at_builtin; obtain ⟨v4, w4, he4, ho4, hg4⟩ := run_append_any w3 32 w2.heap.size (.slice (some ⟨w2.heap.size, 0, none⟩) 1 1) [1] H3.out.1 a3 c3 (textB au) k3 H3.out.2.1 H3.out.2.2.1 (by have := HB.out; simp only [List.length_cons, List.length_nil]; omega) H3.out.2.2.2.size; refine wpList_of_run' rfl (x_app (s := .tmp 55) (x := .tmp 58) rfl rfl rfl he4) ?_; have H4 := show Hid (Own w4 w2.heap.size v4 ([1] ++ textB au) ∧ After w2 w4) from ⟨ho4, after_grown H3.out.2.2.2 hg4 (Nat.le_refl _) (fun k hk => (World.ownsRow.lt H3.out.1 k hk).1)⟩; clear he4 ho4 hg4)
    | (go_at_call 58; refine Calls.mono (rtext_any au (by have := HB.out; omega) (w2.alloc (.cells #[.int .u8 1] 5))) ?_; rintro e w3 ⟨v3, rfl, ho, ha⟩; obtain ⟨k3, hk3⟩ : ∃ k, (textB au).length = k := ⟨_, rfl⟩; obtain ⟨a3, c3, he3, hat, _, _⟩ := own_sl ho hk3; subst he3; have H3 := show Hid (Own w3 w2.heap.size (.slice (some ⟨w2.heap.size, 0, none⟩) 1 1) [1] ∧ (textB au).length = k3 ∧ BytesAt w3 a3 (textB au) ∧ After w2 w3) from ⟨Own.below (own_one w2) ha (Nat.le_refl _), hk3, hat, H2a.out.1.trans ha⟩; clear ho ha hat hk3))
  refine HK4.out _ _ ?_
  clear HK4
  refine wp_seq_k (fun K5 hK => ?_)
  have HK5 := show Hid _ from hK
  clear hK
  go_wp2_with fail
  have R4 : Hid (RowIs w4 w.heap.size 25 (cc ⟨au, sn, tn, ds, nt, os⟩ d p)) := H2.out.2.1.below H4.out.2 H2.out.2.1.lt
  clear H1 e4 e5 f0 f0a H2a
  refine wp_region_noPanic ?_
  refine wp_region_held_drew (S := fun W => RowIs W w.heap.size 25 (cc ⟨au, sn, tn, ds, nt, os⟩ d p)) (by kernel_rfl) (RowIs.drew R4.out) ?_
  intro hS0
  refine tk 0 60 (v4) (fuel := 11) rfl (by kernel_rfl) (by kernel_rfl) (by kernel_rfl) (by kernel_rfl) noPanic_false (by kernel_rfl) (fun _ _ => by kernel_rfl) hS0 ?_
  refine tk 1 61 (.pointer (some ⟨w.heap.size, 1, none⟩)) (fuel := 10) rfl (by kernel_rfl) (by kernel_rfl) (by kernel_rfl) (by kernel_rfl) noPanic_false (by kernel_rfl) (fun _ _ => by kernel_rfl) hS0 ?_
  refine tk 2 62 (.int .i64 (sn : Int)) (fuel := 9) rfl (by kernel_rfl) (by kernel_rfl) (by kernel_rfl) (by kernel_rfl) noPanic_false (by kernel_rfl) (fun W hW => x_ldc (t := 3) (x := .tmp 61) (g := w.heap.size) (j := 1) Tryz.underlying3 rfl (by kernel_rfl) (by kernel_rfl) (hW.cell (j := 1) rfl)) hS0 ?_
  refine tk 3 63 (.int .u64 (sn : Int)) (fuel := 8) rfl (by kernel_rfl) (by kernel_rfl) (by kernel_rfl) (by kernel_rfl) noPanic_false (by kernel_rfl) (fun W _ => x_u64 (n := sn) (x := .tmp 62) HB.out.1 (by kernel_rfl) (by kernel_rfl)) hS0 ?_
  refine tk 6 66 (.pointer (some ⟨w.heap.size, 2, none⟩)) (fuel := 7) rfl (by kernel_rfl) (by kernel_rfl) (by kernel_rfl) (by kernel_rfl) noPanic_false (by kernel_rfl) (fun _ _ => by kernel_rfl) hS0 ?_
  refine tk 7 67 (.int .i64 (tn : Int)) (fuel := 6) rfl (by kernel_rfl) (by kernel_rfl) (by kernel_rfl) (by kernel_rfl) noPanic_false (by kernel_rfl) (fun W hW => x_ldc (t := 3) (x := .tmp 66) (g := w.heap.size) (j := 2) Tryz.underlying3 rfl (by kernel_rfl) (by kernel_rfl) (hW.cell (j := 2) rfl)) hS0 ?_
  refine tk 8 68 (.int .u64 (tn : Int)) (fuel := 5) rfl (by kernel_rfl) (by kernel_rfl) (by kernel_rfl) (by kernel_rfl) noPanic_false (by kernel_rfl) (fun W _ => x_u64 (n := tn) (x := .tmp 67) HB.out.2.1 (by kernel_rfl) (by kernel_rfl)) hS0 ?_
  refine tkCallZ 4 64 59 #[.int .u64 (sn : Int)] (fun v W => Own W w4.heap.size v (uintB sn) ∧ After w4 W) (fuel := 4) rfl (by kernel_rfl) (by kernel_rfl) (by kernel_rfl) (fun _ => by kernel_rfl) ((ruint_any sn (by have := HB.out; omega) w4.drew).mono (fun _ _ ⟨v, he, h1, h2⟩ => ⟨v, he, h1, (After.drew (After.refl w4)).trans h2⟩)) ?_
  rintro u4 x4 ⟨hou4, hau4⟩
  have hru4 : RowIs x4 w.heap.size 25 (cc ⟨au, sn, tn, ds, nt, os⟩ d p) := (R4.out).below hau4 (R4.out).lt
  refine ⟨hru4, ?_⟩
  obtain ⟨ua4, uc4, rfl, hat4, _, _⟩ := hou4.at
  have how4 := Own.below (H4.out.1) hau4 (Nat.le_refl _)
  obtain ⟨v5, w5, he5, ho5, hg5⟩ := run_append_any x4 32 w2.heap.size v4 (([1] ++ textB au)) how4 ua4 uc4 (uintB sn) _ rfl hat4 (by have := HB.out; simp only [List.length_append, List.length_cons, List.length_nil]; omega) (Nat.le_trans (H4.out.2).size hau4.size)
  have ha5 : After w2 w5 := after_grown ((H4.out.2).trans hau4) hg5 (Nat.le_refl _) (fun k hk => (World.ownsRow.lt how4 k hk).1)
  have hr5 : RowIs w5 w.heap.size 25 (cc ⟨au, sn, tn, ds, nt, os⟩ d p) := H2.out.2.1.below ha5 H2.out.2.1.lt
  refine tkRunS 5 65 v5 w5 (fuel := 3) rfl (by kernel_rfl) (by kernel_rfl) (by kernel_rfl) (x_app (s := .tmp 60) (x := .tmp 64) (by kernel_rfl) (by kernel_rfl) (by kernel_rfl) he5) hr5 ?_
  refine tkCallZ 9 69 59 #[.int .u64 (tn : Int)] (fun v W => Own W w5.heap.size v (uintB tn) ∧ After w5 W) (fuel := 2) rfl (by kernel_rfl) (by kernel_rfl) (by kernel_rfl) (fun _ => by kernel_rfl) ((ruint_any tn (by have := HB.out; omega) w5).mono (fun _ _ ⟨v, he, h1, h2⟩ => ⟨v, he, h1, h2⟩)) ?_
  rintro u5 x5 ⟨hou5, hau5⟩
  have hru5 : RowIs x5 w.heap.size 25 (cc ⟨au, sn, tn, ds, nt, os⟩ d p) := (hr5).below hau5 (hr5).lt
  refine ⟨hru5, ?_⟩
  obtain ⟨ua5, uc5, rfl, hat5, _, _⟩ := hou5.at
  have how5 := Own.below ho5 hau5 (Nat.le_refl _)
  obtain ⟨v6, w6, he6, ho6, hg6⟩ := run_append_any x5 32 w2.heap.size v5 (([1] ++ textB au) ++ uintB sn) how5 ua5 uc5 (uintB tn) _ rfl hat5 (by have := HB.out; simp only [List.length_append, List.length_cons, List.length_nil]; omega) (Nat.le_trans ha5.size hau5.size)
  have ha6 : After w2 w6 := after_grown (ha5.trans hau5) hg6 (Nat.le_refl _) (fun k hk => (World.ownsRow.lt how5 k hk).1)
  have hr6 : RowIs w6 w.heap.size 25 (cc ⟨au, sn, tn, ds, nt, os⟩ d p) := H2.out.2.1.below ha6 H2.out.2.1.lt
  refine tkRunS 10 70 v6 w6 (fuel := 1) rfl (by kernel_rfl) (by kernel_rfl) (by kernel_rfl) (x_app (s := .tmp 65) (x := .tmp 69) (by kernel_rfl) (by kernel_rfl) (by kernel_rfl) he6) hr6 ?_
  refine tk 11 6 (v6) (fuel := 0) rfl (by kernel_rfl) (by kernel_rfl) (by kernel_rfl) (by kernel_rfl) noPanic_false (by kernel_rfl) (fun _ _ => by kernel_rfl) hr6 ?_
  refine wpAnyH_done (by kernel_rfl) (NoPanic.normal ?_) _
  have H6 : Hid (Own w6 w2.heap.size v6 ([1] ++ textB au ++ uintB sn ++ uintB tn) ∧ After w2 w6) := ⟨ho6, ha6⟩
  have R6 : Hid (RowIs w6 w.heap.size 25 (cc ⟨au, sn, tn, ds, nt, os⟩ d p)) := hr6
  clear hS0 hou4 hau4 hru4 hat4 how4 he5 ho5 hg5 ha5 hr5 hou5 hau5 hru5 hat5 how5 he6 ho6 hg6 ha6 hr6
  go_simp
  refine HK5.out _ _ ?_
  clear HK5
  refine wp_seq_k (fun K6 hK => ?_)
  have HK6 := show Hid _ from hK
  clear hK
  go_wp2_with fail
  refine wp_region_noPanic ?_
  refine wp_region_held_drew (S := fun W => RowIs W w.heap.size 25 (cc ⟨au, sn, tn, ds, nt, os⟩ d p)) (by kernel_rfl) (RowIs.drew R6.out) ?_
  intro hS0
  refine tk 0 71 (v6) (fuel := 9) rfl (by kernel_rfl) (by kernel_rfl) (by kernel_rfl) (by kernel_rfl) noPanic_false (by kernel_rfl) (fun _ _ => by kernel_rfl) hS0 ?_
  refine tk 1 72 (.pointer (some ⟨w.heap.size, 3, none⟩)) (fuel := 8) rfl (by kernel_rfl) (by kernel_rfl) (by kernel_rfl) (by kernel_rfl) noPanic_false (by kernel_rfl) (fun _ _ => by kernel_rfl) hS0 ?_
  refine tk 2 73 (.slice d.a d.n d.c) (fuel := 7) rfl (by kernel_rfl) (by kernel_rfl) (by kernel_rfl) (by kernel_rfl) noPanic_false (by kernel_rfl) (fun W hW => x_ldc (t := 22) (x := .tmp 72) (g := w.heap.size) (j := 3) Tryz.underlying22 rfl (by kernel_rfl) (by kernel_rfl) (hW.cell (j := 3) rfl)) hS0 ?_
  refine tk 5 76 (.pointer (some ⟨w.heap.size, 4, none⟩)) (fuel := 6) rfl (by kernel_rfl) (by kernel_rfl) (by kernel_rfl) (by kernel_rfl) noPanic_false (by kernel_rfl) (fun _ _ => by kernel_rfl) hS0 ?_
  refine tk 6 77 (.string (strOf nt)) (fuel := 5) rfl (by kernel_rfl) (by kernel_rfl) (by kernel_rfl) (by kernel_rfl) noPanic_false (by kernel_rfl) (fun W hW => x_ldc (t := 9) (x := .tmp 76) (g := w.heap.size) (j := 4) Tryz.underlying9 rfl (by kernel_rfl) (by kernel_rfl) (hW.cell (j := 4) rfl)) hS0 ?_
  refine tkCallZ 3 74 60 #[.slice d.a d.n d.c] (fun v W => Own W w6.heap.size v (putD ds) ∧ After w6 W) (fuel := 4) rfl (by kernel_rfl) (by kernel_rfl) (by kernel_rfl) (fun _ => by kernel_rfl) (((hrput_k d.a d.n d.c ds HX.out.d32 HX.out.dn HB.out.2.2.2.2.2.2.2.2.2.2.2.2 w6.drew (HX.out.deps.after (H2.out.1.trans (H6.out.2.trans (After.drew (After.refl w6))))))).mono (fun _ _ ⟨v, he, h1, h2⟩ => ⟨v, he, h1, (After.drew (After.refl w6)).trans h2⟩)) ?_
  rintro u6 x6 ⟨hou6, hau6⟩
  have hru6 : RowIs x6 w.heap.size 25 (cc ⟨au, sn, tn, ds, nt, os⟩ d p) := (R6.out).below hau6 (R6.out).lt
  refine ⟨hru6, ?_⟩
  obtain ⟨ua6, uc6, rfl, hat6, _, _⟩ := hou6.at
  have how6 := Own.below (H6.out.1) hau6 (Nat.le_refl _)
  obtain ⟨v7, w7, he7, ho7, hg7⟩ := run_append_any x6 32 w2.heap.size v6 ([1] ++ textB au ++ uintB sn ++ uintB tn) how6 ua6 uc6 (putD ds) _ rfl hat6 (by have := HB.out; simp only [List.length_append, List.length_cons, List.length_nil]; omega) (Nat.le_trans (H6.out.2).size hau6.size)
  have ha7 : After w2 w7 := after_grown ((H6.out.2).trans hau6) hg7 (Nat.le_refl _) (fun k hk => (World.ownsRow.lt how6 k hk).1)
  have hr7 : RowIs w7 w.heap.size 25 (cc ⟨au, sn, tn, ds, nt, os⟩ d p) := H2.out.2.1.below ha7 H2.out.2.1.lt
  refine tkRunS 4 75 v7 w7 (fuel := 3) rfl (by kernel_rfl) (by kernel_rfl) (by kernel_rfl) (x_app (s := .tmp 71) (x := .tmp 74) (by kernel_rfl) (by kernel_rfl) (by kernel_rfl) he7) hr7 ?_
  refine tkCallZ 7 78 58 #[.string (strOf nt)] (fun v W => Own W w7.heap.size v (textB nt) ∧ After w7 W) (fuel := 2) rfl (by kernel_rfl) (by kernel_rfl) (by kernel_rfl) (fun _ => by kernel_rfl) ((rtext_any nt (by have := HB.out; omega) w7).mono (fun _ _ ⟨v, he, h1, h2⟩ => ⟨v, he, h1, h2⟩)) ?_
  rintro u7 x7 ⟨hou7, hau7⟩
  have hru7 : RowIs x7 w.heap.size 25 (cc ⟨au, sn, tn, ds, nt, os⟩ d p) := (hr7).below hau7 (hr7).lt
  refine ⟨hru7, ?_⟩
  obtain ⟨ua7, uc7, rfl, hat7, _, _⟩ := hou7.at
  have how7 := Own.below ho7 hau7 (Nat.le_refl _)
  obtain ⟨v8, w8, he8, ho8, hg8⟩ := run_append_any x7 32 w2.heap.size v7 ([1] ++ textB au ++ uintB sn ++ uintB tn ++ putD ds) how7 ua7 uc7 (textB nt) _ rfl hat7 (by have := HB.out; simp only [List.length_append, List.length_cons, List.length_nil]; omega) (Nat.le_trans ha7.size hau7.size)
  have ha8 : After w2 w8 := after_grown (ha7.trans hau7) hg8 (Nat.le_refl _) (fun k hk => (World.ownsRow.lt how7 k hk).1)
  have hr8 : RowIs w8 w.heap.size 25 (cc ⟨au, sn, tn, ds, nt, os⟩ d p) := H2.out.2.1.below ha8 H2.out.2.1.lt
  refine tkRunS 8 79 v8 w8 (fuel := 1) rfl (by kernel_rfl) (by kernel_rfl) (by kernel_rfl) (x_app (s := .tmp 75) (x := .tmp 78) (by kernel_rfl) (by kernel_rfl) (by kernel_rfl) he8) hr8 ?_
  refine tk 9 6 (v8) (fuel := 0) rfl (by kernel_rfl) (by kernel_rfl) (by kernel_rfl) (by kernel_rfl) noPanic_false (by kernel_rfl) (fun _ _ => by kernel_rfl) hr8 ?_
  refine wpAnyH_done (by kernel_rfl) (NoPanic.normal ?_) _
  have H8 : Hid (Own w8 w2.heap.size v8 ([1] ++ textB au ++ uintB sn ++ uintB tn ++ putD ds ++ textB nt) ∧ After w2 w8 ∧ BytesAt w8 ob OB) := ⟨ho8, ha8, H2.out.2.2.after ha8⟩
  clear hS0 hou6 hau6 hru6 hat6 how6 he7 ho7 hg7 ha7 hr7 hou7 hau7 hru7 hat7 how7 he8 ho8 hg8 ha8 hr8
  go_simp
  refine HK6.out _ _ ?_
  clear HK6
  refine wp_seq_k (fun K7 hK => ?_)
  have HK7 := show Hid _ from hK
  clear hK
  go_wp2_with (at_builtin; obtain ⟨v9, w9, he9, ho9, hg9⟩ := run_append_any w8 32 w2.heap.size v8 ([1] ++ textB au ++ uintB sn ++ uintB tn ++ putD ds ++ textB nt) H8.out.1 ob oc' OB OL HPE2.out H8.out.2.2 (by have := HB.out; have := HPE2.out; simp only [List.length_append, List.length_cons, List.length_nil]; omega) H8.out.2.1.size; refine wpList_of_run' rfl (x_app (s := .tmp 80) (x := .tmp 81) rfl rfl rfl he9) ?_; rw [show [1] ++ textB au ++ uintB sn ++ uintB tn ++ putD ds ++ textB nt ++ OB = C from HB.out.2.2.2.2.2.2.2.2.2.2.1] at ho9; obtain ⟨a9, c9, he9', _, _, _⟩ := own_sl ho9 HB.out.2.2.2.2.2.2.2.2.2.2.2.1; subst he9'; have H9 := show Hid (Own w9 w2.heap.size (.slice a9 CL c9) C ∧ After w2 w9) from ⟨ho9, after_grown H8.out.2.1 hg9 (Nat.le_refl _) (fun k hk => (World.ownsRow.lt H8.out.1 k hk).1)⟩; clear he9 ho9 hg9)
  refine HK7.out _ _ ?_
  clear HK7
  by_cases hc : CL ≤ 65536
  · have ci : ¬ (65536 : Int) < (CL : Int) := by omega
    have HR : Hid (qq = 0 ∧ RB = C) := by rw [← HQQ.out.1, ← HQQ.out.2, HB.out.2.2.2.2.2.2.2.2.2.2.2.1]; exact ⟨by rw [decide_eq_true hc]; rfl, if_pos hc⟩
    go_wp2
    go_ret2
    rw [HR.out.1, HR.out.2]
    exact ⟨_, rfl, H9.out.1.mono H2.out.1.size, H2.out.1.trans H9.out.2⟩
  · have ci : (65536 : Int) < (CL : Int) := by omega
    have HR : Hid (qq = 5 ∧ RB = []) := by rw [← HQQ.out.1, ← HQQ.out.2, HB.out.2.2.2.2.2.2.2.2.2.2.2.1]; exact ⟨by rw [decide_eq_false hc]; rfl, if_neg hc⟩
    go_wp2
    go_ret2
    rw [HR.out.1, HR.out.2]
    exact LdPost.none (H2.out.1.trans H9.out.2)

end Go.Proofs.YtgmdolpjkaajfaaGreatDoor
