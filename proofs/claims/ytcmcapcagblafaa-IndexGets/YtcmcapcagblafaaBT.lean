/-
  A TABLE IN MEMORY: the struct's block, the map's, and hashes for each name; New (9), has (29), mayBe (37).
-/
import Derived.Test.YtcmcapcagblafaaBM
import Derived.Test.YtcmcapcagblafaaCL
import Derived.Test.YtcmcapcagblafaaSH
namespace Go.Proofs.Ytcmcapcagblafaa
open Go.RowKit Go.Maps Dsk
attribute [local go_sem] Oper.semAt_some
abbrev Ent := Dsk.Nm × (Value × List H)
def vals (cs : List Ent) : List (Dsk.Nm × Value) := cs.map (onV (·.1))
def fls (cs : List Ent) : Tb := cs.map (onV (·.2))
/-- An entry: hashes in a block of F. -/
def EnAt (W : World) (F : Nat → Prop) (c : Ent) : Prop := ∃ a cap, c.2.1 = .slice a c.2.2.length cap ∧ SlAt W 32 a (hsL c.2.2) ∧ (a = none → cap = 0) ∧ ∀ ad, a = some ad → F ad.block ∧ ad.block < W.heap.size
structure TbA (W : World) (F : Nat → Prop) (tb mb : Nat) (cs : List Ent) : Prop where
  ftb : F tb
  fmb : F mb
  row : RowIs W tb 155 [.map (some mb)]
  own : W.ownsMap Try.prog 9 Rv mb cs.length (.map (toE (vals cs)))
  ent : ∀ c ∈ cs, EnAt W F c
theorem SlAt.same {W W' : World} {k : Nat} {a : Option Addr} {L : List (List Value)} (h : SlAt W k a L) (hs : ∀ ad, a = some ad → W'.heap[ad.block]? = W.heap[ad.block]?) : SlAt W' k a L := ⟨h.1, fun hn => by
  obtain ⟨b, o, e, hr⟩ := h.2 hn
  exact ⟨b, o, e, fun j v hv => Eq.trans (World.cell?_of_block (w := W) (show W'.heap[(⟨b, o + j, none⟩ : Addr).block]? = W.heap[(⟨b, o + j, none⟩ : Addr).block]? from hs ⟨b, o, none⟩ e)) (hr j v hv)⟩⟩
theorem EnAt.same {W W' : World} {F : Nat → Prop} {c : Ent} (h : EnAt W F c) (hs : ∀ b, F b → b < W.heap.size → W'.heap[b]? = W.heap[b]?) (hsz : W.heap.size ≤ W'.heap.size) : EnAt W' F c := by
  obtain ⟨a, cap, e, h1, h2, h3⟩ := h
  exact ⟨a, cap, e, h1.same (fun ad ha => hs _ (h3 ad ha).1 (h3 ad ha).2), h2, fun ad ha => ⟨(h3 ad ha).1, Nat.lt_of_lt_of_le (h3 ad ha).2 hsz⟩⟩
theorem EnAt.mono {W : World} {F G : Nat → Prop} {c : Ent} (h : EnAt W F c) (hF : ∀ b, F b → G b) : EnAt W G c := by
  obtain ⟨a, cap, e, h1, h2, h3⟩ := h
  exact ⟨a, cap, e, h1, h2, fun ad ha => ⟨hF _ (h3 ad ha).1, (h3 ad ha).2⟩⟩
theorem TbA.same {W W' : World} {F : Nat → Prop} {tb mb : Nat} {cs : List Ent} (h : TbA W F tb mb cs) (hs : ∀ b, F b → b < W.heap.size → W'.heap[b]? = W.heap[b]?) (hsz : W.heap.size ≤ W'.heap.size) : TbA W' F tb mb cs :=
  ⟨h.ftb, h.fmb, by unfold RowIs; rw [hs tb h.ftb h.row.lt]; exact h.row, ownsMap_same h.own (hs mb h.fmb h.own.lt), fun c hc => (h.ent c hc).same hs hsz⟩
theorem TbA.mono {W : World} {F G : Nat → Prop} {tb mb : Nat} {cs : List Ent} (h : TbA W F tb mb cs) (hF : ∀ b, F b → G b) : TbA W G tb mb cs :=
  ⟨hF _ h.ftb, hF _ h.fmb, h.row, h.own, fun c hc => (h.ent c hc).mono hF⟩
theorem TbA.after {W W' : World} {F : Nat → Prop} {tb mb : Nat} {cs : List Ent} (h : TbA W F tb mb cs) (ha : After W W') : TbA W' F tb mb cs := h.same (fun b _ hb => ha.block b hb) ha.size
theorem TbA.kept {W W' : World} {F G : Nat → Prop} {tb mb : Nat} {cs : List Ent} (h : TbA W F tb mb cs) (hk : KeptF G W W') (hG : ∀ b, b < W.heap.size → F b → ¬ G b) : TbA W' F tb mb cs := h.same (fun b hF hb => hk.block b hb (hG b hb hF)) hk.size
theorem TbA.ne {W : World} {F : Nat → Prop} {tb mb : Nat} {cs : List Ent} (h : TbA W F tb mb cs) : mb ≠ tb := fun e => by
  obtain ⟨es, cl, hb, _⟩ := h.own
  have := h.row
  unfold RowIs at this
  rw [e, this] at hb; cases hb
theorem vals_len (cs : List Ent) : (vals cs).length = cs.length := by simp [vals]
theorem fls_len (cs : List Ent) : (fls cs).length = cs.length := by simp [fls]
theorem fhas_vals (nm : Dsk.Nm) (cs : List Ent) : fhas nm (vals cs) = fhas nm (fls cs) := by unfold vals fls; rw [fhas_map, fhas_map]
theorem fget_vals (nm : Dsk.Nm) (cs : List Ent) : fget nm (vals cs) = (fget nm cs).map (·.1) := by unfold vals; rw [fget_map (fun x : Value × List H => x.1)]
theorem fget_fls (nm : Dsk.Nm) (cs : List Ent) : fget nm (fls cs) = (fget nm cs).map (·.2) := by unfold fls; rw [fget_map (fun x : Value × List H => x.2)]
theorem zero30 (w : World) : (zeroValue 39).run Try.prog w = .ok (.slice none 0 0) w := by kernel_rfl
section
variable {w : World} {mb n : Nat} {l : List (Dsk.Nm × Value)} {nm : Dsk.Nm}
theorem look_ok (hown : w.ownsMap Try.prog 9 Rv mb n (.map (toE l))) (hl : nm.length ≤ maxLen) :
    (Instr.lookup 153 (.map (some mb)) (.string (strOf nm)) true).run Try.prog w = .ok (.tuple #[(fget nm l).getD (.slice none 0 0), .bool (fhas nm l)]) w := by
  obtain ⟨v', ps, hrun, hv⟩ := hown.look_ok law9 Try.underlying153 (zero30 w) (zd := .held (.slice none 0 0)) (zp := []) rfl (key9 nm hl)
  have := Rv_inv hv
  rw [at_E] at this
  have e : v' = (fget nm l).getD (.slice none 0 0) := by
    cases hf : fget nm l with
    | none => rw [hf] at this; simp at this; exact this.symm
    | some u => rw [hf] at this; simp at this; exact this.symm
  rw [has_E] at hrun
  rw [← e]; exact hrun
theorem look_plain (hown : w.ownsMap Try.prog 9 Rv mb n (.map (toE l))) (hl : nm.length ≤ maxLen) :
    (Instr.lookup 153 (.map (some mb)) (.string (strOf nm)) false).run Try.prog w = .ok ((fget nm l).getD (.slice none 0 0)) w := by
  obtain ⟨v', ps, hrun, hv⟩ := hown.lookup law9 Try.underlying153 (zero30 w) (zd := .held (.slice none 0 0)) (zp := []) rfl (key9 nm hl)
  have := Rv_inv hv
  rw [at_E] at this
  have e : v' = (fget nm l).getD (.slice none 0 0) := by
    cases hf : fget nm l with
    | none => rw [hf] at this; simp at this; exact this.symm
    | some u => rw [hf] at this; simp at this; exact this.symm
  rw [← e]; exact hrun
end
set_option maxRecDepth 100000 in
set_option maxHeartbeats 400000 in
theorem new9 (w : World) : Calls Try.prog 86 #[] w fun e w' => e = .returned (.pointer (some ⟨w.heap.size + 1, 0, none⟩)) ∧ TbA w' (fun b => w.heap.size ≤ b ∧ b < w'.heap.size) (w.heap.size + 1) w.heap.size [] ∧ After w w' := by
  have hmm := @run_makeMap Try.prog
  go_enter Try.func86, Try.ntmps86
  go_wp2
  go_ret
  refine ⟨rfl, ⟨⟨by omega, by simp⟩, ⟨Nat.le_refl _, by simp; omega⟩, ?_, (World.ownsMap_made w Try.prog 9 Rv).alloc _, fun c hc => by simp at hc⟩, after_alloc (after_alloc (After.refl w) _) _⟩
  have := RowIs.new (w.alloc (.map #[] 0)) 155 [.map (some w.heap.size)]
  rw [show (w.alloc (.map #[] 0)).heap.size = w.heap.size + 1 by simp] at this
  exact this
set_option maxRecDepth 100000 in
set_option maxHeartbeats 400000 in
theorem has29 {F : Nat → Prop} {tb mb : Nat} {cs : List Ent} {nm : Dsk.Nm} (hl : nm.length ≤ maxLen) {w : World} (h : TbA w F tb mb cs) : Calls Try.prog 111 #[.pointer (some ⟨tb, 0, none⟩), .string (strOf nm)] w fun e w' => e = .returned (.bool (fhas nm (fls cs))) ∧ w' = w := by
  have hlk := look_ok h.own hl
  have hc := h.row.cell (j := 0) rfl
  rw [fhas_vals] at hlk
  obtain ⟨v, hv⟩ : ∃ v, (fget nm (vals cs)).getD (.slice none 0 0) = v := ⟨_, rfl⟩
  obtain ⟨b, hb⟩ : ∃ b, fhas nm (fls cs) = b := ⟨_, rfl⟩
  rw [hv, hb] at hlk
  rw [hb]
  clear hv hb h
  go_enter Try.func111, Try.ntmps111
  go_wp2
  go_ret
  exact ⟨rfl, rfl⟩
set_option maxRecDepth 100000 in
set_option maxHeartbeats 400000 in
theorem may37 {ao : Option Addr} {ca : Nat} {l : List H} (h32 : All32 l) {n : Nat} (hl : l.length = n) {w : World} (hA : SlAt w 32 ao (hsL l)) : Calls Try.prog 110 #[.slice ao n ca] w fun e w' => e = .returned (.bool (mayB l)) ∧ After w w' := by
  by_cases hn : n ≤ 16
  · have HC := show Hid _ from rising47 (ca := ca) h32 hl (by omega) hA
    have hm : mayB l = upB l := by unfold mayB; rw [hl]; simp [hn]
    rw [hm]
    have hi : (n : Int) ≤ 16 := by omega
    clear hA h32 hl hm
    go_enter Try.func110, Try.ntmps110
    go_wp2_with (go_at_call 20; refine Calls.mono HC.out ?_; rintro e w2 ⟨rfl, ha2⟩; have HA2 := show Hid (After w w2) from ha2; clear ha2)
    go_ret
    exact ⟨rfl, HA2.out⟩
  · have hm : mayB l = false := by unfold mayB; rw [hl]; simp [hn]
    rw [hm]
    have hi : ¬ (n : Int) ≤ 16 := by omega
    clear hA h32 hl hm
    go_enter Try.func110, Try.ntmps110
    go_wp2
    go_ret
    exact ⟨rfl, After.refl _⟩
end Go.Proofs.Ytcmcapcagblafaa
