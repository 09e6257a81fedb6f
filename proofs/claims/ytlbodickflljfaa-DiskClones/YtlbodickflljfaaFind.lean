/-
  THE WALKS OF (*Disk).find, safeFile, (*Disk).Read.
-/
import Derived.Test.YtlbodickflljfaaNames
namespace Go.Proofs.Ytlbodickflljfaa
open Go.RowKit Go.Maps Dsk
section
variable {w : World} {ops : Array Oper} {rest : List Oper} {o : Oper} {a : Act} {Q : Exit → Act → World → Prop}
theorem look_some {mb n : Nat} {l : List (Nm × Value)} (hown : w.ownsMap Try.prog 9 Rv mb n (.map (toE l))) {nm : Nm} (hl : nm.length ≤ maxLen) {v : Value} (hg : fget nm l = some v) :
    (Instr.lookup 64 (.map (some mb)) (.string (strOf nm)) true).run Try.prog w = .ok (.tuple #[v, .bool true]) w := by
  obtain ⟨v', ps, hrun, hv⟩ := hown.look_ok law9 Try.underlying64 (zero77 w) (zd := .held (.agg #[.slice none 0 0, .int .i64 0])) (zp := []) rfl (key9 nm hl)
  have := Rv_inv hv
  rw [at_E, hg] at this
  simp at this
  rw [has_E, fhas_get hg, ← this] at hrun
  exact hrun
theorem look_none {mb n : Nat} {l : List (Nm × Value)} (hown : w.ownsMap Try.prog 9 Rv mb n (.map (toE l))) {nm : Nm} (hl : nm.length ≤ maxLen) (hg : fget nm l = none) :
    (Instr.lookup 64 (.map (some mb)) (.string (strOf nm)) true).run Try.prog w = .ok (.tuple #[.agg #[.slice none 0 0, .int .i64 0], .bool false]) w := by
  obtain ⟨v', ps, hrun, hv⟩ := hown.look_ok law9 Try.underlying64 (zero77 w) (zd := .held (.agg #[.slice none 0 0, .int .i64 0])) (zp := []) rfl (key9 nm hl)
  have := Rv_inv hv
  rw [at_E, hg] at this
  simp at this
  rw [has_E, fget_none.1 hg, ← this] at hrun
  exact hrun
/-- m[k], without ok. -/
theorem look_plain {mb n : Nat} {l : List (Nm × Value)} (hown : w.ownsMap Try.prog 9 Rv mb n (.map (toE l))) {nm : Nm} (hl : nm.length ≤ maxLen) {v : Value} (hg : fget nm l = some v) :
    (Instr.lookup 64 (.map (some mb)) (.string (strOf nm)) false).run Try.prog w = .ok v w := by
  obtain ⟨v', ps, hrun, hv⟩ := hown.lookup law9 Try.underlying64 (zero77 w) (zd := .held (.agg #[.slice none 0 0, .int .i64 0])) (zp := []) rfl (key9 nm hl)
  have := Rv_inv hv
  rw [at_E, hg] at this
  simp at this
  rw [← this] at hrun
  exact hrun
end
def findE (S : Dk) (nm : Nm) : Nat := if refuse S [nm] = 0 then (if fhas nm S.files then 0 else 22) else refuse S [nm]
def zF : Value := .agg #[.slice none 0 0, .int .i64 0]
/-- What is known of a disk whose map's entries are cs. -/
structure Ds (w : World) (sb mb : Nat) (S : Dk) (cs : List Ent) : Prop where
  row : RowIs w sb 68 (cells68 S mb)
  own : w.ownsMap Try.prog 9 Rv mb cs.length (.map (toE (vals cs)))
  files : fls cs = S.files
theorem Ds.after {w w' : World} {sb mb : Nat} {S : Dk} {cs : List Ent} (h : Ds w sb mb S cs) (ha : After w w') : Ds w' sb mb S cs :=
  ⟨by unfold RowIs; rw [ha.block sb h.row.lt]; exact h.row, ownsMap_same h.own (ha.block mb h.own.lt), h.files⟩
theorem vals_get {cs : List Ent} {nm : Nm} {v : Value} {f : Fl} (h : fget nm cs = some (v, f)) : fget nm (vals cs) = some v := by
  unfold vals; rw [fget_map, h]; rfl
theorem fls_get {cs : List Ent} {nm : Nm} {v : Value} {f : Fl} (h : fget nm cs = some (v, f)) : fget nm (fls cs) = some f := by
  unfold fls; rw [fget_map, h]; rfl
theorem bcell {W w1 : World} (hb : After W w1) : (∀ b o, b < W.heap.size → w1.cell? ⟨b, o, none⟩ = W.cell? ⟨b, o, none⟩) ∧ (∀ b o, b < W.heap.size → w1.frozen? ⟨b, o, none⟩ = W.frozen? ⟨b, o, none⟩) :=
  ⟨fun b o h => Below.cell hb (p := ⟨b, o, none⟩) h, fun b o h => Below.frozen hb (p := ⟨b, o, none⟩) h⟩
theorem Own.setCellLt {w : World} {base : Nat} {v : Value} {bs : List UInt8} (h : Own w base v bs) {p : Addr} (hp : p.block < base) (u : Value) : Own (w.setCell p u) base v bs :=
  h.same (fun g hg => heap_setCell_other w p g u (by have := (World.ownsRow.lt h g hg).1; omega))
theorem refusal_one (sb : Nat) (S : Dk) (W : World) (nm : Nm) (hl : nm.length ≤ maxLen) (hd : W.cell? ⟨sb, 3, none⟩ = some (.bool S.down)) :
    Calls Try.prog 50 #[.pointer (some ⟨sb, 0, none⟩), .slice (some ⟨W.heap.size, 0, none⟩) 1 1] (W.alloc (.cells #[.string (strOf nm)] 9)) fun e w' => e = .returned (.int .i64 (refuse S [nm] : Int)) ∧ w' = W.alloc (.cells #[.string (strOf nm)] 9) :=
  refusal_any sb S (some ⟨W.heap.size, 0, none⟩) 1 [nm] (by simp) (by simpa using hl) _ (StrsAt.one W nm 9) (Lib.cell?_alloc_some _ hd)
set_option maxHeartbeats 400000 in
theorem find_nil (nm : Nm) (w : World) : Calls Try.prog 42 #[.pointer none, .string (strOf nm)] w fun e w' => e = .returned (.tuple #[zF, .int .i64 1]) ∧ After w w' := by
  go_enter Try.func42, Try.ntmps42
  go_wp2_with (go_at_call 50; refine (refusal_nil _ _).mono ?_; rintro e w' ⟨rfl, rfl⟩)
  refine bodyPost_ret (v := .tuple #[.agg #[.slice none 0 0, .int .i64 0], .int .i64 1]) (by simp [results, Try.results42, go_sem]) rfl ⟨rfl, ?_⟩
  exact after_alloc (after_alloc (After.refl w) _) _
set_option maxRecDepth 100000 in
set_option maxHeartbeats 800000 in
theorem find_ok (sb mb : Nat) (S : Dk) (cs : List Ent) (nm : Nm) (hl : nm.length ≤ maxLen) (w : World) (hd : Ds w sb mb S cs) (hr : refuse S [nm] = 0) (ao : Option Addr) (n c : Nat) (s : Int) (hg : fget nm (vals cs) = some (.agg #[.slice ao n c, .int .i64 s])) :
    Calls Try.prog 42 #[.pointer (some ⟨sb, 0, none⟩), .string (strOf nm)] w fun e w' => e = .returned (.tuple #[.agg #[.slice ao n c, .int .i64 s], .int .i64 0]) ∧ After w w' := by
  have HD : Hid (Ds w sb mb S cs) := hd
  have HG : Hid (fget nm (vals cs) = some (.agg #[.slice ao n c, .int .i64 s])) := hg
  have HL : Hid (nm.length ≤ maxLen) := hl
  have HR : Hid (refuse S [nm] = 0) := hr
  have hc1 := hd.row.cells68.c1
  have hlk : ∀ W : World, After w W → (Instr.lookup 64 (.map (some mb)) (.string (strOf nm)) true).run Try.prog W = .ok (.tuple #[.agg #[.slice ao n c, .int .i64 s], .bool true]) W := fun W hW => look_some (ownsMap_same hd.own (hW.block mb hd.own.lt)) hl hg
  have HLK := show Hid (∀ W : World, After w W → (Instr.lookup 64 (.map (some mb)) (.string (strOf nm)) true).run Try.prog W = .ok (.tuple #[.agg #[.slice ao n c, .int .i64 s], .bool true]) W) from hlk
  have hlt := hd.row.lt
  clear hd hg hl hr hlk
  have hc3 : (w.alloc (.cells #[.slice none 0 0, .int .i64 0] 77)).cell? ⟨sb, 3, none⟩ = some (.bool S.down) := Lib.cell?_alloc_some _ HD.out.row.cells68.c3
  have HC3 := show Hid _ from hc3
  have e1 : (w.alloc (.cells #[.slice none 0 0, .int .i64 0] 77)).heap.size = w.heap.size + 1 := by simp
  have C := show Hid _ from refusal_one sb S (w.alloc (.cells #[.slice none 0 0, .int .i64 0] 77)) nm HL.out hc3
  rw [HR.out, e1] at C
  clear hc3 e1
  have hlk := HLK.out ((w.alloc (.cells #[.slice none 0 0, .int .i64 0] 77)).alloc (.cells #[.string (strOf nm)] 9)) (after_alloc (after_alloc (After.refl w) _) _)
  go_enter Try.func42, Try.ntmps42
  go_wp2_with (go_at_call 50; refine Calls.mono C.out ?_; rintro e w' ⟨rfl, rfl⟩)
  refine bodyPost_ret (v := .tuple #[.agg #[.slice ao n c, .int .i64 s], .int .i64 0]) (by simp [results, Try.results42, go_sem]) rfl ⟨rfl, ?_⟩
  exact after_alloc (after_alloc (after_alloc (After.refl w) _) _) _
set_option maxRecDepth 100000 in
set_option maxHeartbeats 800000 in
theorem find_none (sb mb : Nat) (S : Dk) (cs : List Ent) (nm : Nm) (hl : nm.length ≤ maxLen) (w : World) (hd : Ds w sb mb S cs) (hr : refuse S [nm] = 0) (hg : fget nm (vals cs) = none) :
    Calls Try.prog 42 #[.pointer (some ⟨sb, 0, none⟩), .string (strOf nm)] w fun e w' => e = .returned (.tuple #[zF, .int .i64 22]) ∧ After w w' := by
  have HD : Hid (Ds w sb mb S cs) := hd
  have HL : Hid (nm.length ≤ maxLen) := hl
  have HR : Hid (refuse S [nm] = 0) := hr
  have hc1 := hd.row.cells68.c1
  have hlk := look_none (ownsMap_same hd.own ((after_alloc (after_alloc (After.refl w) (.cells #[.slice none 0 0, .int .i64 0] 77)) (.cells #[.string (strOf nm)] 9)).block mb hd.own.lt)) hl hg
  have hlt := hd.row.lt
  clear hd hg hl hr
  have hc3 : (w.alloc (.cells #[.slice none 0 0, .int .i64 0] 77)).cell? ⟨sb, 3, none⟩ = some (.bool S.down) := Lib.cell?_alloc_some _ HD.out.row.cells68.c3
  have e1 : (w.alloc (.cells #[.slice none 0 0, .int .i64 0] 77)).heap.size = w.heap.size + 1 := by simp
  have C := show Hid _ from refusal_one sb S (w.alloc (.cells #[.slice none 0 0, .int .i64 0] 77)) nm HL.out hc3
  rw [HR.out, e1] at C
  clear hc3 e1
  go_enter Try.func42, Try.ntmps42
  go_wp2_with (go_at_call 50; refine Calls.mono C.out ?_; rintro e w' ⟨rfl, rfl⟩)
  refine bodyPost_ret (v := .tuple #[.agg #[.slice none 0 0, .int .i64 0], .int .i64 22]) (by simp [results, Try.results42, go_sem]) rfl ⟨rfl, ?_⟩
  exact after_alloc (after_alloc (after_alloc (After.refl w) _) _) _
set_option maxRecDepth 100000 in
set_option maxHeartbeats 800000 in
theorem find_refused (sb mb : Nat) (S : Dk) (cs : List Ent) (nm : Nm) (hl : nm.length ≤ maxLen) (w : World) (hd : Ds w sb mb S cs) (r : Nat) (hr : refuse S [nm] = r) (h0 : ¬ r = 0) :
    Calls Try.prog 42 #[.pointer (some ⟨sb, 0, none⟩), .string (strOf nm)] w fun e w' => e = .returned (.tuple #[zF, .int .i64 (r : Int)]) ∧ After w w' := by
  have HD : Hid (Ds w sb mb S cs) := hd
  have HL : Hid (nm.length ≤ maxLen) := hl
  have HR : Hid (refuse S [nm] = r) := hr
  have hlt := hd.row.lt
  clear hd hl hr
  have hc3 : (w.alloc (.cells #[.slice none 0 0, .int .i64 0] 77)).cell? ⟨sb, 3, none⟩ = some (.bool S.down) := Lib.cell?_alloc_some _ HD.out.row.cells68.c3
  have e1 : (w.alloc (.cells #[.slice none 0 0, .int .i64 0] 77)).heap.size = w.heap.size + 1 := by simp
  have C := show Hid _ from refusal_one sb S (w.alloc (.cells #[.slice none 0 0, .int .i64 0] 77)) nm HL.out hc3
  rw [HR.out, e1] at C
  clear hc3 e1
  have h0' : ((r : Int) != 0) = true := by simp; omega
  go_enter Try.func42, Try.ntmps42
  go_wp2_with (go_at_call 50; refine Calls.mono C.out ?_; rintro e w' ⟨rfl, rfl⟩)
  refine bodyPost_ret (v := .tuple #[.agg #[.slice none 0 0, .int .i64 0], .int .i64 (r : Int)]) (by simp [results, Try.results42, go_sem]) rfl ⟨rfl, ?_⟩
  exact after_alloc (after_alloc (After.refl w) _) _
/-- find, whatever there is. -/
theorem find_bad (sb mb : Nat) (S : Dk) (cs : List Ent) (nm : Nm) (hl : nm.length ≤ maxLen) (w : World) (hd : Ds w sb mb S cs) (r : Nat) (hr : findE S nm = r) (h0 : ¬ r = 0) :
    Calls Try.prog 42 #[.pointer (some ⟨sb, 0, none⟩), .string (strOf nm)] w fun e w' => e = .returned (.tuple #[zF, .int .i64 (r : Int)]) ∧ After w w' := by
  unfold findE at hr
  by_cases h : refuse S [nm] = 0
  · rw [if_pos h] at hr
    cases hh : fhas nm S.files with
    | true => rw [hh] at hr; exact absurd hr.symm h0
    | false =>
      rw [hh] at hr
      subst hr
      have hn : fget nm (vals cs) = none := by
        have : fget nm (fls cs) = none := by rw [hd.files]; exact fget_none.2 hh
        unfold fls at this
        unfold vals
        rw [fget_map] at this ⊢
        cases hc : fget nm cs with
        | none => rfl
        | some x => rw [hc] at this; cases this
      exact find_none sb mb S cs nm hl w hd h hn
  · rw [if_neg h] at hr
    exact find_refused sb mb S cs nm hl w hd r hr h0
set_option maxHeartbeats 400000 in
theorem safeFile_any (ao : Option Addr) (cap : Nat) (bs : List UInt8) (hbig : bs.length ≤ 140737488355328) (w : World) (hat : BytesAt w ao bs) :
    Calls Try.prog 58 #[.slice ao bs.length cap] w fun e w' => ∃ v, e = .returned (.agg #[v, .int .i64 (bs.length : Int)]) ∧ Own w' w.heap.size v bs ∧ After w w' := by
  have C := show Hid _ from clone_any ao cap bs hbig (w.alloc (.cells #[.slice none 0 0, .int .i64 0] 77)) (hat.after (after_alloc (After.refl w) _))
  clear hat
  obtain ⟨n, hn⟩ : ∃ n, bs.length = n := ⟨_, rfl⟩
  have HN : Hid (bs.length = n) := hn
  rw [hn] at C hbig ⊢
  clear hn
  go_enter Try.func58, Try.ntmps58
  go_wp2_with (go_at_call 43; refine Calls.mono C.out ?_; rintro e w1 ⟨v, rfl, ho, hb⟩; obtain ⟨ao1, c1, rfl, hat1, hc1⟩ := Own.sl ho n HN.out; have HO : Hid (Own w1 (w.alloc (.cells #[.slice none 0 0, .int .i64 0] 77)).heap.size (.slice ao1 n c1) bs) := ho; have HB : Hid (After (w.alloc (.cells #[.slice none 0 0, .int .i64 0] 77)) w1) := hb; obtain ⟨hcl, hfr⟩ := bcell hb; clear hat1 ho hb)
  refine bodyPost_ret (v := .agg #[.slice ao1 n c1, .int .i64 (n : Int)]) (by simp [results, Try.results58, go_sem, hcl]) rfl ⟨_, rfl, ?_, ?_⟩
  · exact ((HO.out.setCellLt (by simp) _).setCellLt (by simp) _).mono (by simp)
  · exact Below.setCell (Below.setCell (After.trans (after_alloc (After.refl w) _) HB.out) (Nat.le_refl _) _) (Nat.le_refl _) _
/-- Behind find: the file's bytes are cloned. -/
def readB (S : Dk) (nm : Nm) : List UInt8 := if findE S nm = 0 then (match fget nm S.files with | some f => f.data | none => []) else []
def RPost (w : World) (r : Nat) (bs : List UInt8) (e : Ending) (w' : World) : Prop := ∃ ao c, e = .returned (.tuple #[.slice ao bs.length c, .int .i64 (r : Int)]) ∧ Own w' w.heap.size (.slice ao bs.length c) bs ∧ After w w'
set_option maxRecDepth 100000 in
set_option maxHeartbeats 800000 in
theorem read_of (p : Option Addr) (nm : Nm) (w : World) (ao : Option Addr) (bs : List UInt8) (hbig : bs.length ≤ 140737488355328) (c : Nat) (s : Int) (r : Nat) (hat : BytesAt w ao bs)
    (C : Calls Try.prog 42 #[.pointer p, .string (strOf nm)] w fun e w' => e = .returned (.tuple #[.agg #[.slice ao bs.length c, .int .i64 s], .int .i64 (r : Int)]) ∧ After w w') :
    Calls Try.prog 16 #[.pointer p, .string (strOf nm)] w (RPost w r bs) := by
  have HAT : Hid (BytesAt w ao bs) := hat
  have HB0 : Hid (bs.length ≤ 140737488355328) := hbig
  have C' := show Hid _ from C
  clear C hat hbig
  have D := show Hid _ from fun W (hW : After w W) => clone_any ao c bs HB0.out W (HAT.out.after hW)
  unfold RPost
  obtain ⟨n, hn⟩ : ∃ n, bs.length = n := ⟨_, rfl⟩
  have HN : Hid (bs.length = n) := hn
  rw [hn] at C' D ⊢
  clear hn
  go_enter Try.func16, Try.ntmps16
  go_wp2_with (first
    | (go_at_call 42; refine Calls.mono C'.out ?_; rintro e w1 ⟨rfl, hb⟩; have HB : Hid (After w w1) := hb; clear hb)
    | (go_at_call 43; refine Calls.mono (D.out _ (after_alloc HB.out _)) ?_; rintro e w2 ⟨v, rfl, ho, hb⟩; have HB2 := show Hid (After _ w2) from hb; have HO := show Hid (Own _ _ _ _) from ho; obtain ⟨ao1, c1, rfl, hat1, hc1⟩ := Own.sl ho n HN.out; clear hb ho hat1))
  have hz := HB.out.size
  go_ret2
  exact ⟨ao1, c1, rfl, HO.out.mono (by simp; omega), After.trans (after_alloc HB.out _) HB2.out⟩
theorem read_nil (nm : Nm) (w : World) : Calls Try.prog 16 #[.pointer none, .string (strOf nm)] w (RPost w 1 []) :=
  read_of none nm w none [] (by simp) 0 0 1 (fun h => absurd rfl h) (find_nil nm w)
/-- What is known of a disk, with its files' rows. -/
structure Dr (w : World) (F : Nat → Prop) (sb mb : Nat) (S : Dk) (cs : List Ent) : Prop extends Ds w sb mb S cs where
  fsb : F sb
  fmb : F mb
  rows : Rows5 w F cs
theorem DiskAt.dr {w : World} {F : Nat → Prop} {sb : Nat} {S : Dk} (h : DiskAt w F sb S) : ∃ mb cs, Dr w F sb mb S cs := by
  obtain ⟨mb, cs, h1, h2, h3, h4, h5, h6⟩ := h
  exact ⟨mb, cs, ⟨h3, h4, h6⟩, h1, h2, h5⟩
theorem Dr.disk {w : World} {F : Nat → Prop} {sb mb : Nat} {S : Dk} {cs : List Ent} (h : Dr w F sb mb S cs) : DiskAt w F sb S := ⟨mb, cs, h.fsb, h.fmb, h.row, h.own, h.rows, h.files⟩
theorem findE_ok {S : Dk} {nm : Nm} (h : findE S nm = 0) : refuse S [nm] = 0 ∧ fhas nm S.files = true := by
  unfold findE at h
  split at h
  · rename_i h1
    split at h
    · rename_i h2; exact ⟨h1, h2⟩
    · cases h
  · rename_i h1; exact absurd h h1
/-- The entry that is found. -/
theorem Dr.get {w : World} {F : Nat → Prop} {sb mb : Nat} {S : Dk} {cs : List Ent} (h : Dr w F sb mb S cs) {nm : Nm} (hf : fhas nm S.files = true) :
    ∃ ao c f, fget nm cs = some (.agg #[.slice ao f.data.length c, .int .i64 (f.safe : Int)], f) ∧ fget nm S.files = some f ∧ Own w 0 (.slice ao f.data.length c) f.data ∧ BytesAt w ao f.data ∧ f.data.length ≤ c := by
  obtain ⟨f, hf⟩ := fhas_some hf
  have h1 := hf
  rw [← h.files] at h1
  unfold fls at h1
  rw [fget_map] at h1
  obtain ⟨⟨v, f'⟩, hc, e⟩ := Option.map_eq_some_iff.1 h1
  simp only at e
  subst e
  obtain ⟨sl, hv, ho⟩ := h.rows.file _ (fget_mem hc)
  simp only at hv ho
  obtain ⟨ao, c, hsl, hat, hle⟩ := Own.sl ho _ rfl
  subst hsl
  subst hv
  exact ⟨ao, c, f', hc, hf, ho, hat, hle⟩
theorem read_any (F : Nat → Prop) (sb : Nat) (S : Dk) (hS : Ok S) (nm : Nm) (hl : nm.length ≤ maxLen) (w : World) (hd : DiskAt w F sb S) :
    Calls Try.prog 16 #[.pointer (some ⟨sb, 0, none⟩), .string (strOf nm)] w (RPost w (findE S nm) (readB S nm)) := by
  obtain ⟨mb, cs, hr⟩ := hd.dr
  unfold readB
  by_cases h0 : findE S nm = 0
  · rw [if_pos h0]
    obtain ⟨h1, h2⟩ := findE_ok h0
    obtain ⟨ao, c, f, hc, hf, ho, hat, hle⟩ := hr.get h2
    have hu := used_mem (fget_mem hf)
    have := hS.used
    have := hS.most
    rw [hf, h0]
    simp only at hu ⊢
    exact read_of _ nm w ao f.data (by omega) c f.safe 0 hat (find_ok sb mb S cs nm hl w hr.toDs h1 ao _ c _ (vals_get hc))
  · rw [if_neg h0]
    exact read_of _ nm w none [] (by simp) 0 0 _ (fun h => absurd rfl h) (find_bad sb mb S cs nm hl w hr.toDs _ rfl h0)
end Go.Proofs.Ytlbodickflljfaa
