/-
  THE WALK OF (*Disk).Create.
-/
import Derived.Test.YtlbodickflljfaaClosures
namespace Go.Proofs.Ytlbodickflljfaa
open Go.RowKit Go.Maps Dsk
theorem size77 : (Try.prog.info? 77).map (·.size) = some 2 := by kernel_rfl
section
variable {ops : Array Oper} {Q : Exit → Act → World → Prop} {T : World → Prop} {fuel : Nat} {listed : Array Bool} {a : Act} {w : World} {oi : Oper}
/-- Number i, which alone may come up, lays a block. -/
theorem tkAlloc (i d : Nat) (t : TypeId) (cells : Array Value) (hi : ops[i]? = some oi) (hd : oi.dst = some d) (hr : Region.ready .any ops listed = [i])
    (hw : Region.wanted oi (yielded ops a.tmps) = true) (hrun : ∀ w, (execOp a.eval oi).run Try.prog w = .ok (.value (.pointer (some ⟨w.heap.size, 0, none⟩))) (w.alloc (.cells cells t))) (hT : T (w.alloc (.cells cells t)))
    (h : wpAnyH Try.prog .any ops Q T fuel (listed.setIfInBounds i true) (a.put (some d) (.pointer (some ⟨w.heap.size, 0, none⟩))) (w.alloc (.cells cells t))) : wpAnyH Try.prog .any ops Q T (fuel + 1) listed a w :=
  wpAnyH_all hr (by simp) (fun j hj => by
    obtain rfl : j = i := by simpa using hj
    refine wpOp_step hi (fun K' hK => ?_)
    rw [if_pos hw]
    unfold Oper.wp
    rw [hrun]
    show K' (a.put oi.dst _) _
    rw [hd]
    exact hK _ _ ⟨hT, h⟩)
/-- Number i, which alone may come up, stores a whole row. -/
theorem tkStore (i : Nat) (g : Nat) (ty : TypeId) (x y : Operand) (cells old : Array Value) (t : TypeId) (hi : ops[i]? = some oi) (hd : oi.dst = none) (ho : oi.op = .store ty x y) (hr : Region.ready .any ops listed = [i])
    (hw : Region.wanted oi (yielded ops a.tmps) = true) (hx : a.eval x = .pointer (some ⟨g, 0, none⟩)) (hy : a.eval y = .agg cells) (hg : w.heap[g]? = some (.cells old t (0, 0))) (hz : (Try.prog.info? ty).map (·.size) = some cells.size)
    (hold : old.size = cells.size) (h1 : cells.all (·.oneCell') = true) (hS : T (w.setRow g cells))
    (h : wpAnyH Try.prog .any ops Q T fuel (listed.setIfInBounds i true) (a.put none undef) (w.setRow g cells)) : wpAnyH Try.prog .any ops Q T (fuel + 1) listed a w :=
  wpAnyH_all hr (by simp) (fun j hj => by
    obtain rfl : j = i := by simpa using hj
    refine wpOp_step hi (fun K' hK => ?_)
    rw [if_pos hw]
    refine wp_store_row ty x y ho g cells hx hy t old hg hz hold h1 ?_
    rw [hd]
    exact hK _ _ ⟨hS, h⟩)
theorem x_look {m x : Operand} {mb : Nat} {nm : Nm} {r : Value} (hop : oi.op = .lookup 64 m x true) (hm : a.eval m = .map (some mb)) (hx : a.eval x = .string (strOf nm)) (h : (Instr.lookup 64 (.map (some mb)) (.string (strOf nm)) true).run Try.prog w = .ok r w) : (execOp a.eval oi).run Try.prog w = .ok (.value r) w := by
  unfold execOp
  simp only [hop, hm, hx, Sem.run_bind, h, Result.andThen_ok]
  rfl
end
theorem SPost.same {F : Nat → Prop} {w w' : World} {sb : Nat} {S : Dk} {r : Nat} (hd : DiskAt w F sb S) (hF : ∀ i, F i → i < w.heap.size) (ha : After w w') : SPost F w sb r S (.returned (.int .i64 (r : Int))) w' :=
  ⟨rfl, Turn.of_after ha, (hd.after hF ha).mono (fun _ hi => Or.inl hi)⟩

set_option maxRecDepth 100000 in
set_option maxHeartbeats 1600000 in
theorem create_refused (F : Nat → Prop) (sb : Nat) (S : Dk) (nm : Nm) (hl : nm.length ≤ maxLen) (w : World) (hd : DiskAt w F sb S) (hF : ∀ i, F i → i < w.heap.size) (r : Nat) (hr : refuse S [nm] = r) (h0 : ¬ r = 0) :
    Calls Try.prog 23 #[.pointer (some ⟨sb, 0, none⟩), .string (strOf nm)] w (SPost F w sb r S) := by
  obtain ⟨mb, cs, hdr⟩ := hd.dr
  have hlt := hdr.row.lt
  have hc3 := Lib.cell?_alloc_some (.cells #[.string (strOf nm)] 9) (Lib.cell?_alloc_some (.cells #[.pointer (some ⟨sb, 0, none⟩)] 23) hdr.row.cells68.c3)
  have C := show Hid _ from refusal_one sb S _ nm hl hc3
  rw [hr, show ((w.alloc (.cells #[.pointer (some ⟨sb, 0, none⟩)] 23)).alloc (.cells #[.string (strOf nm)] 9)).heap.size = w.heap.size + 1 + 1 by simp] at C
  have HD : Hid (DiskAt w F sb S) := hd
  have HF : Hid (∀ i, F i → i < w.heap.size) := hF
  have h0' : ((r : Int) != 0) = true := by simp; omega
  clear hd hF hdr hc3 hl hr
  go_enter Try.func23, Try.ntmps23
  go_wp2_with (go_at_call 50; refine Calls.mono C.out ?_; rintro e w' ⟨rfl, rfl⟩)
  go_ret
  exact SPost.same HD.out HF.out (after_alloc (after_alloc (after_alloc (After.refl w) _) _) _)
set_option maxRecDepth 100000 in
set_option maxHeartbeats 1600000 in
theorem create_there (F : Nat → Prop) (sb : Nat) (S : Dk) (nm : Nm) (hl : nm.length ≤ maxLen) (w : World) (hd : DiskAt w F sb S) (hF : ∀ i, F i → i < w.heap.size) (hr : refuse S [nm] = 0) (hh : fhas nm S.files = true) :
    Calls Try.prog 23 #[.pointer (some ⟨sb, 0, none⟩), .string (strOf nm)] w (SPost F w sb 23 S) := by
  obtain ⟨mb, cs, hdr⟩ := hd.dr
  have hlt := hdr.row.lt
  have hc3 := Lib.cell?_alloc_some (.cells #[.string (strOf nm)] 9) (Lib.cell?_alloc_some (.cells #[.pointer (some ⟨sb, 0, none⟩)] 23) hdr.row.cells68.c3)
  have C := show Hid _ from refusal_one sb S _ nm hl hc3
  rw [hr, show ((w.alloc (.cells #[.pointer (some ⟨sb, 0, none⟩)] 23)).alloc (.cells #[.string (strOf nm)] 9)).heap.size = w.heap.size + 1 + 1 by simp] at C
  have HD : Hid (DiskAt w F sb S) := hd
  have HR : Hid (Dr w F sb mb S cs) := hdr
  have HF : Hid (∀ i, F i → i < w.heap.size) := hF
  have HL : Hid (nm.length ≤ maxLen) := hl
  have hfv : fhas nm (vals cs) = fhas nm S.files := by rw [← hdr.files]; unfold vals fls; rw [fhas_map, fhas_map]
  clear hd hF hc3 hr hdr
  go_enter Try.func23, Try.ntmps23
  go_wp2_with (go_at_call 50; refine Calls.mono C.out ?_; rintro e w' ⟨rfl, rfl⟩)
  obtain ⟨W, hW⟩ : ∃ W, ((w.alloc (.cells #[.pointer (some ⟨sb, 0, none⟩)] 23)).alloc (.cells #[.string (strOf nm)] 9)).alloc (.cells #[.string (strOf nm)] 9) = W := ⟨_, rfl⟩
  have hA : After w W := by rw [← hW]; exact after_alloc (after_alloc (after_alloc (After.refl w) _) _) _
  have hp' : W.cell? ⟨w.heap.size, 0, none⟩ = some (.pointer (some ⟨sb, 0, none⟩)) := by rw [← hW]; exact Lib.cell?_alloc_some _ (Lib.cell?_alloc_some _ ((RowIs.new w 23 [.pointer (some ⟨sb, 0, none⟩)]).cell (j := 0) rfl))
  have hq' : W.cell? ⟨w.heap.size + 1, 0, none⟩ = some (.string (strOf nm)) := by
    rw [← hW]
    have := (RowIs.new (w.alloc (.cells #[.pointer (some ⟨sb, 0, none⟩)] 23)) 9 [.string (strOf nm)]).cell (j := 0) rfl
    rw [show (w.alloc (.cells #[.pointer (some ⟨sb, 0, none⟩)] 23)).heap.size = w.heap.size + 1 by simp] at this
    exact Lib.cell?_alloc_some _ this
  have hWs : W.heap.size = w.heap.size + 3 := by rw [← hW]; simp
  have HDW := show Hid (Dr W F sb mb S cs) from HR.out.after hA
  have hc1 := HDW.out.row.cells68.c1
  rw [hW]
  have hcell : ∀ {p : Addr} {v : Value} {V : World}, After W V → W.cell? p = some v → V.cell? p = some v := fun {p} {v} {V} hV hc => (Below.cell hV (p := p) (block_lt_of_cell hc)).trans hc
  obtain ⟨ao, c, f, hgc, _⟩ := HDW.out.get hh
  obtain ⟨n, hn⟩ : ∃ n, f.data.length = n := ⟨_, rfl⟩
  rw [hn] at hgc
  have hgv := vals_get hgc
  refine wp_region_noPanic ?_
  refine wp_region_held_drew (S := After W) (by kernel_rfl) (After.drew (After.refl W)) ?_
  intro hS0
  refine tk 0 16 (.pointer (some ⟨sb, 0, none⟩)) (fuel := 11) rfl (by kernel_rfl) (by kernel_rfl) (by kernel_rfl) (by kernel_rfl) noPanic_false (by kernel_rfl) (fun W hW => x_ld23 (x := .tmp 2) (g := w.heap.size) (p := 0) (by kernel_rfl) (by kernel_rfl) (hcell hW hp')) hS0 ?_
  refine tk 1 17 (.pointer (some ⟨sb, 0, none⟩)) (fuel := 10) rfl (by kernel_rfl) (by kernel_rfl) (by kernel_rfl) (by kernel_rfl) noPanic_false (by kernel_rfl) (fun _ _ => by kernel_rfl) hS0 ?_
  refine tk 2 18 (.pointer (some ⟨sb, 1, none⟩)) (fuel := 9) rfl (by kernel_rfl) (by kernel_rfl) (by kernel_rfl) (by kernel_rfl) noPanic_false (by kernel_rfl) (fun _ _ => by kernel_rfl) hS0 ?_
  refine tk 3 19 (.map (some mb)) (fuel := 8) rfl (by kernel_rfl) (by kernel_rfl) (by kernel_rfl) (by kernel_rfl) noPanic_false (by kernel_rfl) (fun W hW => x_ld64 (x := .tmp 18) (g := sb) (p := 1) (by kernel_rfl) (by kernel_rfl) (hcell hW hc1)) hS0 ?_
  refine tk 4 20 (.string (strOf nm)) (fuel := 7) rfl (by kernel_rfl) (by kernel_rfl) (by kernel_rfl) (by kernel_rfl) noPanic_false (by kernel_rfl) (fun W hW => x_ld9 (x := .tmp 3) (g := w.heap.size + 1) (p := 0) (by kernel_rfl) (by kernel_rfl) (hcell hW hq')) hS0 ?_
  refine tk 5 21 (.tuple #[.agg #[.slice ao n c, .int .i64 (f.safe : Int)], .bool true]) (fuel := 6) rfl (by kernel_rfl) (by kernel_rfl) (by kernel_rfl) (by kernel_rfl) noPanic_false (by kernel_rfl) (fun V hV => x_look (m := .tmp 19) (x := .tmp 20) (mb := mb) (nm := nm) (by kernel_rfl) (by kernel_rfl) (by kernel_rfl) (look_some (ownsMap_same HDW.out.own (hV.block mb HDW.out.own.lt)) HL.out hgv)) hS0 ?_
  refine tk 6 15 (.tuple #[.agg #[.slice ao n c, .int .i64 (f.safe : Int)], .bool true]) (fuel := 5) rfl (by kernel_rfl) (by kernel_rfl) (by kernel_rfl) (by kernel_rfl) noPanic_false (by kernel_rfl) (fun _ _ => by kernel_rfl) hS0 ?_
  refine tk 7 22 (.agg #[.slice ao n c, .int .i64 (f.safe : Int)]) (fuel := 4) rfl (by kernel_rfl) (by kernel_rfl) (by kernel_rfl) (by kernel_rfl) noPanic_false (by kernel_rfl) (fun _ _ => by kernel_rfl) hS0 ?_
  refine tk 8 23 (.bool true) (fuel := 3) rfl (by kernel_rfl) (by kernel_rfl) (by kernel_rfl) (by kernel_rfl) noPanic_false (by kernel_rfl) (fun _ _ => by kernel_rfl) hS0 ?_
  refine tkAlloc 9 6 77 #[.slice none 0 0, .int .i64 0] (fuel := 2) rfl (by kernel_rfl) (by kernel_rfl) (by kernel_rfl) (fun _ => by kernel_rfl) (after_alloc hS0 _) ?_
  refine tkStore 10 W.drew.heap.size 77 (.tmp 6) (.tmp 22) #[.slice ao n c, .int .i64 (f.safe : Int)] #[.slice none 0 0, .int .i64 0] 77 (fuel := 1) rfl (by kernel_rfl) (by kernel_rfl) (by kernel_rfl) (by kernel_rfl) (by kernel_rfl) (by kernel_rfl) (RowIs.new W.drew 77 [.slice none 0 0, .int .i64 0]) size77 rfl (by kernel_rfl) (Below.row (after_alloc hS0 _) (Nat.le_refl _) _) ?_
  refine tk 11 7 (.bool true) (fuel := 0) rfl (by kernel_rfl) (by kernel_rfl) (by kernel_rfl) (by kernel_rfl) noPanic_false (by kernel_rfl) (fun _ _ => by kernel_rfl) (Below.row (after_alloc hS0 _) (Nat.le_refl _) _) ?_
  refine wpAnyH_done (by kernel_rfl) (NoPanic.normal ?_) _
  have hV : After W ((W.drew.alloc (.cells #[.slice none 0 0, .int .i64 0] 77)).setRow W.drew.heap.size #[.slice ao n c, .int .i64 (f.safe : Int)]) := Below.row (after_alloc hS0 _) (Nat.le_refl _) _
  generalize (W.drew.alloc (.cells #[.slice none 0 0, .int .i64 0] 77)).setRow W.drew.heap.size #[.slice ao n c, .int .i64 (f.safe : Int)] = V at hV ⊢
  have HV : Hid (After W V) := hV
  have HA : Hid (After w W) := hA
  clear hcell hV hA hW
  go_simp
  go_wp2
  go_ret
  exact SPost.same HD.out HF.out (After.trans HA.out HV.out)
set_option maxRecDepth 100000 in
set_option maxHeartbeats 1600000 in
theorem create_full (F : Nat → Prop) (sb : Nat) (S : Dk) (nm : Nm) (hl : nm.length ≤ maxLen) (w : World) (hd : DiskAt w F sb S) (hF : ∀ i, F i → i < w.heap.size) (hr : refuse S [nm] = 0) (hh : fhas nm S.files = false) (hfull : 64 ≤ S.files.length) :
    Calls Try.prog 23 #[.pointer (some ⟨sb, 0, none⟩), .string (strOf nm)] w (SPost F w sb 21 S) := by
  obtain ⟨mb, cs, hdr⟩ := hd.dr
  have hlt := hdr.row.lt
  have hc3 := Lib.cell?_alloc_some (.cells #[.string (strOf nm)] 9) (Lib.cell?_alloc_some (.cells #[.pointer (some ⟨sb, 0, none⟩)] 23) hdr.row.cells68.c3)
  have C := show Hid _ from refusal_one sb S _ nm hl hc3
  rw [hr, show ((w.alloc (.cells #[.pointer (some ⟨sb, 0, none⟩)] 23)).alloc (.cells #[.string (strOf nm)] 9)).heap.size = w.heap.size + 1 + 1 by simp] at C
  have HD : Hid (DiskAt w F sb S) := hd
  have HR : Hid (Dr w F sb mb S cs) := hdr
  have HF : Hid (∀ i, F i → i < w.heap.size) := hF
  have HL : Hid (nm.length ≤ maxLen) := hl
  have hfv : fhas nm (vals cs) = fhas nm S.files := by rw [← hdr.files]; unfold vals fls; rw [fhas_map, fhas_map]
  clear hd hF hc3 hr hdr
  go_enter Try.func23, Try.ntmps23
  go_wp2_with (go_at_call 50; refine Calls.mono C.out ?_; rintro e w' ⟨rfl, rfl⟩)
  obtain ⟨W, hW⟩ : ∃ W, ((w.alloc (.cells #[.pointer (some ⟨sb, 0, none⟩)] 23)).alloc (.cells #[.string (strOf nm)] 9)).alloc (.cells #[.string (strOf nm)] 9) = W := ⟨_, rfl⟩
  have hA : After w W := by rw [← hW]; exact after_alloc (after_alloc (after_alloc (After.refl w) _) _) _
  have hp' : W.cell? ⟨w.heap.size, 0, none⟩ = some (.pointer (some ⟨sb, 0, none⟩)) := by rw [← hW]; exact Lib.cell?_alloc_some _ (Lib.cell?_alloc_some _ ((RowIs.new w 23 [.pointer (some ⟨sb, 0, none⟩)]).cell (j := 0) rfl))
  have hq' : W.cell? ⟨w.heap.size + 1, 0, none⟩ = some (.string (strOf nm)) := by
    rw [← hW]
    have := (RowIs.new (w.alloc (.cells #[.pointer (some ⟨sb, 0, none⟩)] 23)) 9 [.string (strOf nm)]).cell (j := 0) rfl
    rw [show (w.alloc (.cells #[.pointer (some ⟨sb, 0, none⟩)] 23)).heap.size = w.heap.size + 1 by simp] at this
    exact Lib.cell?_alloc_some _ this
  have hWs : W.heap.size = w.heap.size + 3 := by rw [← hW]; simp
  have HDW := show Hid (Dr W F sb mb S cs) from HR.out.after hA
  have hc1 := HDW.out.row.cells68.c1
  rw [hW]
  have hcell : ∀ {p : Addr} {v : Value} {V : World}, After W V → W.cell? p = some v → V.cell? p = some v := fun {p} {v} {V} hV hc => (Below.cell hV (p := p) (block_lt_of_cell hc)).trans hc
  have hgv : fget nm (vals cs) = none := fget_none.2 (by rw [hfv]; exact hh)
  refine wp_region_noPanic ?_
  refine wp_region_held_drew (S := After W) (by kernel_rfl) (After.drew (After.refl W)) ?_
  intro hS0
  refine tk 0 16 (.pointer (some ⟨sb, 0, none⟩)) (fuel := 11) rfl (by kernel_rfl) (by kernel_rfl) (by kernel_rfl) (by kernel_rfl) noPanic_false (by kernel_rfl) (fun W hW => x_ld23 (x := .tmp 2) (g := w.heap.size) (p := 0) (by kernel_rfl) (by kernel_rfl) (hcell hW hp')) hS0 ?_
  refine tk 1 17 (.pointer (some ⟨sb, 0, none⟩)) (fuel := 10) rfl (by kernel_rfl) (by kernel_rfl) (by kernel_rfl) (by kernel_rfl) noPanic_false (by kernel_rfl) (fun _ _ => by kernel_rfl) hS0 ?_
  refine tk 2 18 (.pointer (some ⟨sb, 1, none⟩)) (fuel := 9) rfl (by kernel_rfl) (by kernel_rfl) (by kernel_rfl) (by kernel_rfl) noPanic_false (by kernel_rfl) (fun _ _ => by kernel_rfl) hS0 ?_
  refine tk 3 19 (.map (some mb)) (fuel := 8) rfl (by kernel_rfl) (by kernel_rfl) (by kernel_rfl) (by kernel_rfl) noPanic_false (by kernel_rfl) (fun W hW => x_ld64 (x := .tmp 18) (g := sb) (p := 1) (by kernel_rfl) (by kernel_rfl) (hcell hW hc1)) hS0 ?_
  refine tk 4 20 (.string (strOf nm)) (fuel := 7) rfl (by kernel_rfl) (by kernel_rfl) (by kernel_rfl) (by kernel_rfl) noPanic_false (by kernel_rfl) (fun W hW => x_ld9 (x := .tmp 3) (g := w.heap.size + 1) (p := 0) (by kernel_rfl) (by kernel_rfl) (hcell hW hq')) hS0 ?_
  refine tk 5 21 (.tuple #[.agg #[.slice none 0 0, .int .i64 0], .bool false]) (fuel := 6) rfl (by kernel_rfl) (by kernel_rfl) (by kernel_rfl) (by kernel_rfl) noPanic_false (by kernel_rfl) (fun V hV => x_look (m := .tmp 19) (x := .tmp 20) (mb := mb) (nm := nm) (by kernel_rfl) (by kernel_rfl) (by kernel_rfl) (look_none (ownsMap_same HDW.out.own (hV.block mb HDW.out.own.lt)) HL.out hgv)) hS0 ?_
  refine tk 6 15 (.tuple #[.agg #[.slice none 0 0, .int .i64 0], .bool false]) (fuel := 5) rfl (by kernel_rfl) (by kernel_rfl) (by kernel_rfl) (by kernel_rfl) noPanic_false (by kernel_rfl) (fun _ _ => by kernel_rfl) hS0 ?_
  refine tk 7 22 (.agg #[.slice none 0 0, .int .i64 0]) (fuel := 4) rfl (by kernel_rfl) (by kernel_rfl) (by kernel_rfl) (by kernel_rfl) noPanic_false (by kernel_rfl) (fun _ _ => by kernel_rfl) hS0 ?_
  refine tk 8 23 (.bool false) (fuel := 3) rfl (by kernel_rfl) (by kernel_rfl) (by kernel_rfl) (by kernel_rfl) noPanic_false (by kernel_rfl) (fun _ _ => by kernel_rfl) hS0 ?_
  refine tkAlloc 9 6 77 #[.slice none 0 0, .int .i64 0] (fuel := 2) rfl (by kernel_rfl) (by kernel_rfl) (by kernel_rfl) (fun _ => by kernel_rfl) (after_alloc hS0 _) ?_
  refine tkStore 10 W.drew.heap.size 77 (.tmp 6) (.tmp 22) #[.slice none 0 0, .int .i64 0] #[.slice none 0 0, .int .i64 0] 77 (fuel := 1) rfl (by kernel_rfl) (by kernel_rfl) (by kernel_rfl) (by kernel_rfl) (by kernel_rfl) (by kernel_rfl) (RowIs.new W.drew 77 [.slice none 0 0, .int .i64 0]) size77 rfl (by kernel_rfl) (Below.row (after_alloc hS0 _) (Nat.le_refl _) _) ?_
  refine tk 11 7 (.bool false) (fuel := 0) rfl (by kernel_rfl) (by kernel_rfl) (by kernel_rfl) (by kernel_rfl) noPanic_false (by kernel_rfl) (fun _ _ => by kernel_rfl) (Below.row (after_alloc hS0 _) (Nat.le_refl _) _) ?_
  refine wpAnyH_done (by kernel_rfl) (NoPanic.normal ?_) _
  have hV : After W ((W.drew.alloc (.cells #[.slice none 0 0, .int .i64 0] 77)).setRow W.drew.heap.size #[.slice none 0 0, .int .i64 0]) := Below.row (after_alloc hS0 _) (Nat.le_refl _) _
  generalize (W.drew.alloc (.cells #[.slice none 0 0, .int .i64 0] 77)).setRow W.drew.heap.size #[.slice none 0 0, .int .i64 0] = V at hV ⊢
  have hlen : (Builtin.len_ #[64] 3 #[.map (some mb)]).run Try.prog V = .ok (.int .i64 (cs.length : Int)) V := by
    have := (ownsMap_same HDW.out.own (hV.block mb HDW.out.own.lt)).len Try.underlying64 3
    rwa [size_E, show (vals cs).length = cs.length by simp [vals]] at this
  have hcl : S.files.length = cs.length := by rw [← HR.out.files]; simp [fls]
  have kp := hcell hV hp'
  have kq := hcell hV hq'
  have k1 := hcell hV hc1
  have HV : Hid (After W V) := hV
  have HA : Hid (After w W) := hA
  clear hcell hV hA hW hp' hq' hc1
  rw [hcl] at hfull
  go_simp
  go_wp2
  go_ret
  exact SPost.same HD.out HF.out (After.trans HA.out HV.out)
set_option maxRecDepth 100000 in
set_option maxHeartbeats 1600000 in
theorem create_go (F : Nat → Prop) (sb : Nat) (S : Dk) (hS : Ok S) (hst : S.steps < 4611686018427387904) (nm : Nm) (hl : nm.length ≤ maxLen) (hl32 : nm.length ≤ 32) (w : World) (hd : DiskAt w F sb S) (hF : ∀ i, F i → i < w.heap.size) (hr : refuse S [nm] = 0) (hh : fhas nm S.files = false) (hfull : S.files.length < 64) :
    Calls Try.prog 23 #[.pointer (some ⟨sb, 0, none⟩), .string (strOf nm)] w (SPost F w sb (stepE S) (stepS S S.done (fput nm ⟨[], 0⟩ S.files))) := by
  obtain ⟨mb, cs, hdr⟩ := hd.dr
  have hlt := hdr.row.lt
  have hc3 := Lib.cell?_alloc_some (.cells #[.string (strOf nm)] 9) (Lib.cell?_alloc_some (.cells #[.pointer (some ⟨sb, 0, none⟩)] 23) hdr.row.cells68.c3)
  have C := show Hid _ from refusal_one sb S _ nm hl hc3
  rw [hr, show ((w.alloc (.cells #[.pointer (some ⟨sb, 0, none⟩)] 23)).alloc (.cells #[.string (strOf nm)] 9)).heap.size = w.heap.size + 1 + 1 by simp] at C
  have HD : Hid (DiskAt w F sb S) := hd
  have HR : Hid (Dr w F sb mb S cs) := hdr
  have HF : Hid (∀ i, F i → i < w.heap.size) := hF
  have HL : Hid (nm.length ≤ maxLen) := hl
  have hfv : fhas nm (vals cs) = fhas nm S.files := by rw [← hdr.files]; unfold vals fls; rw [fhas_map, fhas_map]
  clear hd hF hc3 hr hdr
  go_enter Try.func23, Try.ntmps23
  go_wp2_with (go_at_call 50; refine Calls.mono C.out ?_; rintro e w' ⟨rfl, rfl⟩)
  obtain ⟨W, hW⟩ : ∃ W, ((w.alloc (.cells #[.pointer (some ⟨sb, 0, none⟩)] 23)).alloc (.cells #[.string (strOf nm)] 9)).alloc (.cells #[.string (strOf nm)] 9) = W := ⟨_, rfl⟩
  have hA : After w W := by rw [← hW]; exact after_alloc (after_alloc (after_alloc (After.refl w) _) _) _
  have hp' : W.cell? ⟨w.heap.size, 0, none⟩ = some (.pointer (some ⟨sb, 0, none⟩)) := by rw [← hW]; exact Lib.cell?_alloc_some _ (Lib.cell?_alloc_some _ ((RowIs.new w 23 [.pointer (some ⟨sb, 0, none⟩)]).cell (j := 0) rfl))
  have hq' : W.cell? ⟨w.heap.size + 1, 0, none⟩ = some (.string (strOf nm)) := by
    rw [← hW]
    have := (RowIs.new (w.alloc (.cells #[.pointer (some ⟨sb, 0, none⟩)] 23)) 9 [.string (strOf nm)]).cell (j := 0) rfl
    rw [show (w.alloc (.cells #[.pointer (some ⟨sb, 0, none⟩)] 23)).heap.size = w.heap.size + 1 by simp] at this
    exact Lib.cell?_alloc_some _ this
  have hWs : W.heap.size = w.heap.size + 3 := by rw [← hW]; simp
  have HDW := show Hid (Dr W F sb mb S cs) from HR.out.after hA
  have hc1 := HDW.out.row.cells68.c1
  rw [hW]
  have hcell : ∀ {p : Addr} {v : Value} {V : World}, After W V → W.cell? p = some v → V.cell? p = some v := fun {p} {v} {V} hV hc => (Below.cell hV (p := p) (block_lt_of_cell hc)).trans hc
  have hgv : fget nm (vals cs) = none := fget_none.2 (by rw [hfv]; exact hh)
  refine wp_region_noPanic ?_
  refine wp_region_held_drew (S := After W) (by kernel_rfl) (After.drew (After.refl W)) ?_
  intro hS0
  refine tk 0 16 (.pointer (some ⟨sb, 0, none⟩)) (fuel := 11) rfl (by kernel_rfl) (by kernel_rfl) (by kernel_rfl) (by kernel_rfl) noPanic_false (by kernel_rfl) (fun W hW => x_ld23 (x := .tmp 2) (g := w.heap.size) (p := 0) (by kernel_rfl) (by kernel_rfl) (hcell hW hp')) hS0 ?_
  refine tk 1 17 (.pointer (some ⟨sb, 0, none⟩)) (fuel := 10) rfl (by kernel_rfl) (by kernel_rfl) (by kernel_rfl) (by kernel_rfl) noPanic_false (by kernel_rfl) (fun _ _ => by kernel_rfl) hS0 ?_
  refine tk 2 18 (.pointer (some ⟨sb, 1, none⟩)) (fuel := 9) rfl (by kernel_rfl) (by kernel_rfl) (by kernel_rfl) (by kernel_rfl) noPanic_false (by kernel_rfl) (fun _ _ => by kernel_rfl) hS0 ?_
  refine tk 3 19 (.map (some mb)) (fuel := 8) rfl (by kernel_rfl) (by kernel_rfl) (by kernel_rfl) (by kernel_rfl) noPanic_false (by kernel_rfl) (fun W hW => x_ld64 (x := .tmp 18) (g := sb) (p := 1) (by kernel_rfl) (by kernel_rfl) (hcell hW hc1)) hS0 ?_
  refine tk 4 20 (.string (strOf nm)) (fuel := 7) rfl (by kernel_rfl) (by kernel_rfl) (by kernel_rfl) (by kernel_rfl) noPanic_false (by kernel_rfl) (fun W hW => x_ld9 (x := .tmp 3) (g := w.heap.size + 1) (p := 0) (by kernel_rfl) (by kernel_rfl) (hcell hW hq')) hS0 ?_
  refine tk 5 21 (.tuple #[.agg #[.slice none 0 0, .int .i64 0], .bool false]) (fuel := 6) rfl (by kernel_rfl) (by kernel_rfl) (by kernel_rfl) (by kernel_rfl) noPanic_false (by kernel_rfl) (fun V hV => x_look (m := .tmp 19) (x := .tmp 20) (mb := mb) (nm := nm) (by kernel_rfl) (by kernel_rfl) (by kernel_rfl) (look_none (ownsMap_same HDW.out.own (hV.block mb HDW.out.own.lt)) HL.out hgv)) hS0 ?_
  refine tk 6 15 (.tuple #[.agg #[.slice none 0 0, .int .i64 0], .bool false]) (fuel := 5) rfl (by kernel_rfl) (by kernel_rfl) (by kernel_rfl) (by kernel_rfl) noPanic_false (by kernel_rfl) (fun _ _ => by kernel_rfl) hS0 ?_
  refine tk 7 22 (.agg #[.slice none 0 0, .int .i64 0]) (fuel := 4) rfl (by kernel_rfl) (by kernel_rfl) (by kernel_rfl) (by kernel_rfl) noPanic_false (by kernel_rfl) (fun _ _ => by kernel_rfl) hS0 ?_
  refine tk 8 23 (.bool false) (fuel := 3) rfl (by kernel_rfl) (by kernel_rfl) (by kernel_rfl) (by kernel_rfl) noPanic_false (by kernel_rfl) (fun _ _ => by kernel_rfl) hS0 ?_
  refine tkAlloc 9 6 77 #[.slice none 0 0, .int .i64 0] (fuel := 2) rfl (by kernel_rfl) (by kernel_rfl) (by kernel_rfl) (fun _ => by kernel_rfl) (after_alloc hS0 _) ?_
  refine tkStore 10 W.drew.heap.size 77 (.tmp 6) (.tmp 22) #[.slice none 0 0, .int .i64 0] #[.slice none 0 0, .int .i64 0] 77 (fuel := 1) rfl (by kernel_rfl) (by kernel_rfl) (by kernel_rfl) (by kernel_rfl) (by kernel_rfl) (by kernel_rfl) (RowIs.new W.drew 77 [.slice none 0 0, .int .i64 0]) size77 rfl (by kernel_rfl) (Below.row (after_alloc hS0 _) (Nat.le_refl _) _) ?_
  refine tk 11 7 (.bool false) (fuel := 0) rfl (by kernel_rfl) (by kernel_rfl) (by kernel_rfl) (by kernel_rfl) noPanic_false (by kernel_rfl) (fun _ _ => by kernel_rfl) (Below.row (after_alloc hS0 _) (Nat.le_refl _) _) ?_
  refine wpAnyH_done (by kernel_rfl) (NoPanic.normal ?_) _
  have hV : After W ((W.drew.alloc (.cells #[.slice none 0 0, .int .i64 0] 77)).setRow W.drew.heap.size #[.slice none 0 0, .int .i64 0]) := Below.row (after_alloc hS0 _) (Nat.le_refl _) _
  generalize (W.drew.alloc (.cells #[.slice none 0 0, .int .i64 0] 77)).setRow W.drew.heap.size #[.slice none 0 0, .int .i64 0] = V at hV ⊢
  have hlen : (Builtin.len_ #[64] 3 #[.map (some mb)]).run Try.prog V = .ok (.int .i64 (cs.length : Int)) V := by
    have := (ownsMap_same HDW.out.own (hV.block mb HDW.out.own.lt)).len Try.underlying64 3
    rwa [size_E, show (vals cs).length = cs.length by simp [vals]] at this
  have hcl : S.files.length = cs.length := by rw [← HR.out.files]; simp [fls]
  have kp := hcell hV hp'
  have kq := hcell hV hq'
  have k1 := hcell hV hc1
  have HV : Hid (After W V) := hV
  have HA : Hid (After w W) := hA
  clear hcell hV hA hW hp' hq' hc1
  rw [hcl] at hfull
  go_simp
  go_wp2
  have hAV : After w V := After.trans HA.out HV.out
  have HDV := show Hid (Dr V F sb mb S cs) from HDW.out.after HV.out
  have hc6 := HDV.out.row.cells68.c6
  have np : ¬ F w.heap.size := fun e => by have := HF.out _ e; omega
  have nq : ¬ F (w.heap.size + 1) := fun e => by have := HF.out _ e; omega
  have hFV : ∀ i, F i → i < V.heap.size := fun i hi => by have := HF.out i hi; have := hAV.size; omega
  have CS := show Hid _ from step_any F sb mb S cs S.done 51 #[.pointer (some ⟨w.heap.size, 0, none⟩), .pointer (some ⟨w.heap.size + 1, 0, none⟩)] (fput nm ⟨[], 0⟩ S.files) V.drew hst hS (HDV.out.after (After.drew (After.refl V))) hFV (do_create F sb mb S cs V.drew nm hl32 w.heap.size (w.heap.size + 1) kp kq np nq (by omega)) (fun W => by simp [go_sem])
  have hdone : (stepS S S.done (fput nm ⟨[], 0⟩ S.files)).done = S.done := by unfold stepS; split <;> rfl
  refine wp_region_noPanic ?_
  refine wp_region_held_drew (S := (fun w' => Turn F V w' ∧ w'.cell? ⟨sb, 6, none⟩ = some (.bool S.done))) (by kernel_rfl) ⟨Turn.drew (Turn.refl _ V), hc6⟩ ?_
  intro hS0
  refine tk 0 31 (.pointer (some ⟨sb, 0, none⟩)) (fuel := 8) rfl (by kernel_rfl) (by kernel_rfl) (by kernel_rfl) (by kernel_rfl) noPanic_false (by kernel_rfl) (fun W hW => x_ld23 (x := .tmp 2) (g := w.heap.size) (p := 0) (by kernel_rfl) (by kernel_rfl) (hW.1.cell (p := ⟨w.heap.size, 0, none⟩) np kp)) hS0 ?_
  refine tk 1 32 (.pointer (some ⟨sb, 0, none⟩)) (fuel := 7) rfl (by kernel_rfl) (by kernel_rfl) (by kernel_rfl) (by kernel_rfl) noPanic_false (by kernel_rfl) (fun W hW => x_ld23 (x := .tmp 2) (g := w.heap.size) (p := 0) (by kernel_rfl) (by kernel_rfl) (hW.1.cell (p := ⟨w.heap.size, 0, none⟩) np kp)) hS0 ?_
  refine tk 2 33 (.pointer (some ⟨sb, 0, none⟩)) (fuel := 6) rfl (by kernel_rfl) (by kernel_rfl) (by kernel_rfl) (by kernel_rfl) noPanic_false (by kernel_rfl) (fun _ _ => by kernel_rfl) hS0 ?_
  refine tk 3 34 (.pointer (some ⟨sb, 4, none⟩)) (fuel := 5) rfl (by kernel_rfl) (by kernel_rfl) (by kernel_rfl) (by kernel_rfl) noPanic_false (by kernel_rfl) (fun _ _ => by kernel_rfl) hS0 ?_
  refine tk 4 35 (.pointer (some ⟨sb, 6, none⟩)) (fuel := 4) rfl (by kernel_rfl) (by kernel_rfl) (by kernel_rfl) (by kernel_rfl) noPanic_false (by kernel_rfl) (fun _ _ => by kernel_rfl) hS0 ?_
  refine tk 5 36 (.bool S.done) (fuel := 3) rfl (by kernel_rfl) (by kernel_rfl) (by kernel_rfl) (by kernel_rfl) noPanic_false (by kernel_rfl) (fun W hW => x_ld4 (x := .tmp 35) (g := sb) (p := 6) (by kernel_rfl) (by kernel_rfl) (hW.2)) hS0 ?_
  refine tk 6 37 (.func (.func 51) #[] #[.pointer (some ⟨w.heap.size, 0, none⟩), .pointer (some ⟨w.heap.size + 1, 0, none⟩)]) (fuel := 2) rfl (by kernel_rfl) (by kernel_rfl) (by kernel_rfl) (by kernel_rfl) noPanic_false (by kernel_rfl) (fun _ _ => by kernel_rfl) hS0 ?_
  refine tkCallS 7 38 48 #[.pointer (some ⟨sb, 0, none⟩), .bool S.done, .func (.func 51) #[] #[.pointer (some ⟨w.heap.size, 0, none⟩), .pointer (some ⟨w.heap.size + 1, 0, none⟩)]] (fun v w' => v = .int .i64 (stepE S : Int) ∧ Turn F V.drew w' ∧ DiskAt w' (more F V.drew w') sb (stepS S S.done (fput nm ⟨[], 0⟩ S.files))) (fuel := 1) rfl (by kernel_rfl) (by kernel_rfl) (by kernel_rfl) (fun _ => by kernel_rfl) (Calls.mono CS.out (fun e w' ⟨h1, h2, h3⟩ => ⟨_, h1, rfl, h2, h3⟩)) ?_
  intro v1 w1 ⟨hv1, t1, d1⟩
  subst hv1
  have hc6' : w1.cell? ⟨sb, 6, none⟩ = some (.bool S.done) := by
    obtain ⟨mb1, cs1, hr1⟩ := d1.dr
    have := hr1.row.cells68.c6
    rwa [hdone] at this
  have hT1 : Turn F V w1 := (Turn.drew (Turn.refl _ V)).trans t1
  refine ⟨⟨hT1, hc6'⟩, ?_⟩
  refine tk 8 4 (.int .i64 (stepE S : Int)) (fuel := 0) rfl (by kernel_rfl) (by kernel_rfl) (by kernel_rfl) (by kernel_rfl) noPanic_false (by kernel_rfl) (fun _ _ => by kernel_rfl) ⟨hT1, hc6'⟩ ?_
  refine wpAnyH_done (by kernel_rfl) (NoPanic.normal ?_) _
  have hAs := hAV.size
  go_simp
  go_wp2
  go_ret
  refine ⟨rfl, (Turn.of_after hAV).trans hT1, d1.mono (fun i hi => ?_)⟩
  rcases hi with hi | ⟨h1, h2⟩
  · exact Or.inl hi
  · exact Or.inr ⟨by have : V.heap.size ≤ i := h1; omega, h2⟩
def createE (S : Dk) (nm : Nm) : Nat := if refuse S [nm] = 0 then (if fhas nm S.files then 23 else if 64 ≤ S.files.length then 21 else stepE S) else refuse S [nm]
def createS (S : Dk) (nm : Nm) : Dk := if refuse S [nm] = 0 then (if fhas nm S.files then S else if 64 ≤ S.files.length then S else stepS S S.done (fput nm ⟨[], 0⟩ S.files)) else S
theorem refuse_len {S : Dk} {ns : List Nm} (h : refuse S ns = 0) {nm : Nm} (hm : nm ∈ ns) : named nm = true ∧ nm.length ≤ 32 := by
  unfold refuse at h
  have : ns.all named = true := by
    cases hh : ns.all named
    · rw [hh] at h; simp at h
    · rfl
  have h1 := List.all_eq_true.1 this nm hm
  exact ⟨h1, (named_len h1).2⟩
theorem create_any (F : Nat → Prop) (sb : Nat) (S : Dk) (hS : Ok S) (hst : S.steps < 4611686018427387904) (nm : Nm) (hl : nm.length ≤ maxLen) (w : World) (hd : DiskAt w F sb S) (hF : ∀ i, F i → i < w.heap.size) :
    Calls Try.prog 23 #[.pointer (some ⟨sb, 0, none⟩), .string (strOf nm)] w (SPost F w sb (createE S nm) (createS S nm)) := by
  unfold createE createS
  by_cases hr : refuse S [nm] = 0
  · rw [if_pos hr, if_pos hr]
    cases hh : fhas nm S.files with
    | true => exact create_there F sb S nm hl w hd hF hr hh
    | false =>
      simp only [Bool.false_eq_true, if_false]
      by_cases hf : 64 ≤ S.files.length
      · rw [if_pos hf, if_pos hf]; exact create_full F sb S nm hl w hd hF hr hh hf
      · rw [if_neg hf, if_neg hf]; exact create_go F sb S hS hst nm hl (refuse_len hr (by simp)).2 w hd hF hr hh (by omega)
  · rw [if_neg hr, if_neg hr]; exact create_refused F sb S nm hl w hd hF _ rfl hr
theorem Ok.create {S : Dk} (h : Ok S) (nm : Nm) : Ok (createS S nm) := by
  unfold createS
  split
  · rename_i hr
    split
    · exact h
    · split
      · exact h
      · exact h.step _ (h.fs.new (refuse_len hr (by simp)).1 (by omega))
  · exact h
end Go.Proofs.Ytlbodickflljfaa
