/-
  THE WALK OF (*Disk).step.
-/
import Derived.Test.YtlbodickflljfaaFind
namespace Go.Proofs.Ytlbodickflljfaa
open Go.RowKit Go.Maps Dsk
/-- The disk's cells may be written while its map and its rows stay. -/
theorem Dr.setCells {w w' : World} {F : Nat → Prop} {sb mb : Nat} {S S' : Dk} {cs : List Ent} (h : Dr w F sb mb S cs) (hr : RowIs w' sb 68 (cells68 S' mb)) (hf : S'.files = S.files) (ho : ∀ i, i < w.heap.size → i ≠ sb → w'.heap[i]? = w.heap[i]?) : Dr w' F sb mb S' cs := by
  have hmb : mb ≠ sb := fun e => by
    obtain ⟨es, cl, hb, _⟩ := h.own
    have := h.row
    unfold RowIs at this
    rw [e, this] at hb; cases hb
  refine ⟨⟨hr, ownsMap_same h.own (ho mb h.own.lt hmb), by rw [h.files, hf]⟩, h.fsb, h.fmb, h.rows.same (fun c hc g hg => ?_)⟩
  obtain ⟨cur, hcur⟩ := (h.rows.file c hc).block hg
  refine ho g (Array.getElem?_eq_some_iff.1 hcur).1 (fun e => ?_)
  have := h.row
  unfold RowIs at this
  rw [e, this] at hcur
  simp at hcur
theorem Dr.after {w w' : World} {F : Nat → Prop} {sb mb : Nat} {S : Dk} {cs : List Ent} (h : Dr w F sb mb S cs) (ha : After w w') : Dr w' F sb mb S cs :=
  h.setCells (by unfold RowIs; rw [ha.block sb h.row.lt]; exact h.row) rfl (fun i hi _ => ha.block i hi)
/-- What a step's closure does. -/
def Does (K : Nat) (caps : Array Value) (F : Nat → Prop) (sb mb : Nat) (S : Dk) (cs : List Ent) (fs : List (Nm × Fl)) (w : World) : Prop :=
  ∀ (W : World) (S1 : Dk), S1.files = S.files → Turn F w W → Dr W F sb mb S1 cs → Calls Try.prog K caps W fun e W' => e = .returned (.tuple #[]) ∧ Turn F W W' ∧ DiskAt W' (more F W W') sb { S1 with files := fs }
set_option maxRecDepth 100000 in
set_option maxHeartbeats 800000 in
theorem step_go (F : Nat → Prop) (sb mb : Nat) (S : Dk) (cs : List Ent) (dif : Bool) (K : Nat) (caps : Array Value) (fs : List (Nm × Fl)) (w : World) (hs : S.steps < 4611686018427387904) (hl : S.left < 9223372036854775808)
    (hr : Dr w F sb mb S cs) (hF : ∀ i, F i → i < w.heap.size) (hdo : Does K caps F sb mb S cs fs w) (hn : now S = false) (hcf : ∀ W, (callFunc K caps).run Try.prog W = .ok (.enter K caps) W) :
    Calls Try.prog 48 #[.pointer (some ⟨sb, 0, none⟩), .bool dif, .func (.func K) #[] caps] w fun e w' => e = .returned (.int .i64 0) ∧ Turn F w w' ∧ DiskAt w' (more F w w') sb (stepS S dif fs) := by
  have HR : Hid (Dr w F sb mb S cs) := hr
  have HDO : Hid (Does K caps F sb mb S cs fs w) := hdo
  have HF : Hid (∀ i, F i → i < w.heap.size) := hF
  have hc := hr.row.cells68
  have h4 := hc.c4
  have h5 := hc.c5
  have h6 := hc.c6
  have C := show Hid _ from isNow_any S.said S.done S.left w
  unfold now at hn
  rw [hn] at C
  have HN : Hid ((S.said && (S.left == 0)) = false) := hn
  clear hr hdo hc hF hn
  have N := show Hid _ from fun W => nearer_any S.said S.done S.left hl (fun h => by have := HN.out; rw [h] at this; simp at this; omega) W
  obtain ⟨L, hL⟩ : ∃ L, (if S.said then S.left - 1 else S.left) = L := ⟨_, rfl⟩
  have HL : Hid ((if S.said then S.left - 1 else S.left) = L) := hL
  rw [hL] at N
  clear hL
  go_enter Try.func48, Try.ntmps48
  go_wp2_with (first
    | (go_at_call 65; refine Calls.mono C.out ?_; rintro e w1 ⟨rfl, hb⟩; have HB : Hid (After w w1) := hb; clear hb)
    | (go_at_call 66; refine Calls.mono (N.out _) ?_; rintro e w3 ⟨rfl, hb⟩; have HB3 := show Hid (After _ w3) from hb; obtain ⟨hcl, hfr⟩ := bcell hb; clear hb)
    | (refine Calls.mono (HDO.out w1 S rfl (Turn.of_after HB.out) (HR.out.after HB.out)) ?_; rintro e w2 ⟨rfl, ht, hd⟩; have HT : Hid (Turn F w1 w2) := ht; obtain ⟨mb2, cs2, hr2⟩ := hd.dr; have HR2 := show Hid (Dr _ _ _ _ _ _) from hr2; have hk := hr2.row.cells68; have k2 : w2.cell? ⟨sb, 2, none⟩ = some (.int .i64 (S.steps : Int)) := hk.c2; have k4 : w2.cell? ⟨sb, 4, none⟩ = some (.bool S.said) := hk.c4; have k5 : w2.cell? ⟨sb, 5, none⟩ = some (.int .i64 (S.left : Int)) := hk.c5; have k6 : w2.cell? ⟨sb, 6, none⟩ = some (.bool S.done) := hk.c6; have kf := hk.fz; have hlt := hr2.row.lt; clear ht hd hr2 hk))
  have hn : now S = false := HN.out
  have e1 := HB.out.size
  have e2 := HT.out.size
  have e3 := HB3.out.size
  simp at e3
  have HO : ∀ i, i < w2.heap.size → i ≠ sb → w3.heap[i]? = w2.heap[i]? := fun i hi hne => by
    rw [HB3.out.block i (by simpa using hi), heap_setCell_other _ _ i _ hne]
  have R3 : RowIs w3 sb 68 ((cells68 { S with files := fs } mb2).set 2 (.int .i64 (↑S.steps + 1))) := by
    unfold RowIs
    rw [HB3.out.block sb (by simpa using hlt)]
    exact HR2.out.row.set 2 _
  have R4 := ((R3.set 4 (.bool S.said)).set 5 (.int .i64 (L : Int))).set 6 (.bool S.done)
  have T3 : Turn F w w3 := (((Turn.of_after HB.out).trans HT.out).setCell (p := ⟨sb, 2, none⟩) (Or.inl HR.out.fsb) _).trans (Turn.of_after HB3.out)
  go_ret
  refine ⟨rfl, ((T3.setCell (p := ⟨sb, 4, none⟩) (Or.inl HR.out.fsb) _).setCell (p := ⟨sb, 5, none⟩) (Or.inl HR.out.fsb) _).setCell (p := ⟨sb, 6, none⟩) (Or.inl HR.out.fsb) _, ?_⟩
  have D4 := HR2.out.setCells (S' := stepS S dif fs) (by
    have : cells68 (stepS S dif fs) mb2 = ((((cells68 { S with files := fs } mb2).set 2 (.int .i64 (↑S.steps + 1))).set 4 (.bool S.said)).set 5 (.int .i64 (L : Int))).set 6 (.bool S.done) := by
      unfold stepS
      rw [hn, if_neg (by simp)]
      simp [cells68, HL.out]
    rw [this]; exact R4) (by unfold stepS; rw [hn, if_neg (by simp)]) (fun i hi hne => by rw [heap_setCell_other _ _ i _ hne, heap_setCell_other _ _ i _ hne, heap_setCell_other _ _ i _ hne]; exact HO i hi hne)
  refine D4.disk.mono (fun i hi => ?_)
  rcases hi with hi | ⟨h1, h2⟩
  · exact Or.inl hi
  · exact Or.inr ⟨by omega, by simp; omega⟩
set_option maxRecDepth 100000 in
set_option maxHeartbeats 800000 in
theorem step_yes (F : Nat → Prop) (sb mb : Nat) (S : Dk) (cs : List Ent) (K : Nat) (caps : Array Value) (fs : List (Nm × Fl)) (w : World)
    (hr : Dr w F sb mb S cs) (hdo : Does K caps F sb mb S cs fs w) (hn : now S = true) (hcf : ∀ W, (callFunc K caps).run Try.prog W = .ok (.enter K caps) W) :
    Calls Try.prog 48 #[.pointer (some ⟨sb, 0, none⟩), .bool true, .func (.func K) #[] caps] w fun e w' => e = .returned (.int .i64 20) ∧ Turn F w w' ∧ DiskAt w' (more F w w') sb (stepS S true fs) := by
  have HR : Hid (Dr w F sb mb S cs) := hr
  have HDO : Hid (Does K caps F sb mb S cs fs w) := hdo
  have hc := hr.row.cells68
  have h4 := hc.c4
  have h5 := hc.c5
  have h6 := hc.c6
  have h3 := hc.c3
  have hf := hc.fz
  have C := show Hid _ from isNow_any S.said S.done S.left w
  have HN : Hid (now S = true) := hn
  unfold now at hn
  rw [hn] at C
  have D1 : Hid (∀ w1, After w w1 → Dr (w1.setCell ⟨sb, 3, none⟩ (.bool true)) F sb mb { S with down := true } cs) := fun w1 h1 => by
    have hw := hr.after h1
    exact hw.setCells (S' := { S with down := true }) (hw.row.set 3 (.bool true)) rfl (fun i _ hne => heap_setCell_other _ _ i _ hne)
  clear hr hdo hc hn
  have hlt := HR.out.row.lt
  go_enter Try.func48, Try.ntmps48
  go_wp2_with (first
    | (go_at_call 65; refine Calls.mono C.out ?_; rintro e w1 ⟨rfl, hb⟩; have HB : Hid (After w w1) := hb; obtain ⟨hcl, hfr⟩ := bcell hb; clear hb)
    | (refine Calls.mono (HDO.out (w1.setCell ⟨sb, 3, none⟩ (.bool true)) { S with down := true } rfl ((Turn.of_after HB.out).setCell (Or.inl HR.out.fsb) _) (D1.out w1 HB.out)) ?_; rintro e w2 ⟨rfl, ht, hd⟩; have HT := show Hid (Turn F _ w2) from ht; have HD := show Hid (DiskAt _ _ _ _) from hd; clear ht hd))
  have e1 := HB.out.size
  have e2 := HT.out.size
  simp at e2
  go_ret
  refine ⟨rfl, ((Turn.of_after HB.out).setCell (p := ⟨sb, 3, none⟩) (Or.inl HR.out.fsb) _).trans HT.out, ?_⟩
  have : stepS S true fs = { S with down := true, files := fs } := by unfold stepS; rw [HN.out, if_pos rfl]; rfl
  rw [this]
  refine HD.out.mono (fun i hi => ?_)
  rcases hi with hi | ⟨h1, h2⟩
  · exact Or.inl hi
  · simp at h1
    exact Or.inr ⟨by omega, by omega⟩
set_option maxRecDepth 100000 in
set_option maxHeartbeats 800000 in
theorem step_no (F : Nat → Prop) (sb mb : Nat) (S : Dk) (cs : List Ent) (v : Value) (fs : List (Nm × Fl)) (w : World)
    (hr : Dr w F sb mb S cs) (hn : now S = true) :
    Calls Try.prog 48 #[.pointer (some ⟨sb, 0, none⟩), .bool false, v] w fun e w' => e = .returned (.int .i64 20) ∧ Turn F w w' ∧ DiskAt w' (more F w w') sb (stepS S false fs) := by
  have HR : Hid (Dr w F sb mb S cs) := hr
  have hc := hr.row.cells68
  have h4 := hc.c4
  have h5 := hc.c5
  have h6 := hc.c6
  have h3 := hc.c3
  have hf := hc.fz
  have C := show Hid _ from isNow_any S.said S.done S.left w
  have HN : Hid (now S = true) := hn
  unfold now at hn
  rw [hn] at C
  have D1 : Hid (∀ w1, After w w1 → Dr (w1.setCell ⟨sb, 3, none⟩ (.bool true)) F sb mb { S with down := true } cs) := fun w1 h1 => by
    have hw := hr.after h1
    exact hw.setCells (S' := { S with down := true }) (hw.row.set 3 (.bool true)) rfl (fun i _ hne => heap_setCell_other _ _ i _ hne)
  clear hr hc hn
  have hlt := HR.out.row.lt
  go_enter Try.func48, Try.ntmps48
  go_wp2_with (go_at_call 65; refine Calls.mono C.out ?_; rintro e w1 ⟨rfl, hb⟩; have HB : Hid (After w w1) := hb; obtain ⟨hcl, hfr⟩ := bcell hb; clear hb)
  have e1 := HB.out.size
  go_ret
  refine ⟨rfl, (Turn.of_after HB.out).setCell (p := ⟨sb, 3, none⟩) (Or.inl HR.out.fsb) _, ?_⟩
  have : stepS S false fs = { S with down := true } := by unfold stepS; rw [HN.out, if_pos rfl]; rfl
  rw [this]
  exact (D1.out w1 HB.out).disk.mono (fun i hi => Or.inl hi)
def SPost (F : Nat → Prop) (w : World) (sb : Nat) (r : Nat) (S : Dk) (e : Ending) (w' : World) : Prop := e = .returned (.int .i64 (r : Int)) ∧ Turn F w w' ∧ DiskAt w' (more F w w') sb S
theorem step_any (F : Nat → Prop) (sb mb : Nat) (S : Dk) (cs : List Ent) (dif : Bool) (K : Nat) (caps : Array Value) (fs : List (Nm × Fl)) (w : World) (hs : S.steps < 4611686018427387904) (hS : Ok S)
    (hr : Dr w F sb mb S cs) (hF : ∀ i, F i → i < w.heap.size) (hdo : Does K caps F sb mb S cs fs w) (hcf : ∀ W, (callFunc K caps).run Try.prog W = .ok (.enter K caps) W) :
    Calls Try.prog 48 #[.pointer (some ⟨sb, 0, none⟩), .bool dif, .func (.func K) #[] caps] w (SPost F w sb (stepE S) (stepS S dif fs)) := by
  unfold SPost stepE
  cases hn : now S with
  | false => exact step_go F sb mb S cs dif K caps fs w hs hS.left hr hF hdo hn hcf
  | true =>
    cases dif with
    | true => exact step_yes F sb mb S cs K caps fs w hr hdo hn hcf
    | false => exact step_no F sb mb S cs _ fs w hr hn
end Go.Proofs.Ytlbodickflljfaa
