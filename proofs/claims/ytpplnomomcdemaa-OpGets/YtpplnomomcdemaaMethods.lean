/-
  THE WALKS OF leb's READER: Uint, Int, Text, Left, Err, Done.
-/
import Derived.Test.YtpplnomomcdemaaTaken
namespace Go.Proofs.Ytpplnomomcdemaa
open Go.RowKit Leb
/-- What a reader's calls leave and tell. -/
def suV (bs : List UInt8) (e most : Nat) : Nat := if e = 0 then ruV bs most else 0
def suB (bs : List UInt8) (e most : Nat) : List UInt8 := if e = 0 then bs.drop (ruK bs most) else bs
def suE (bs : List UInt8) (e most : Nat) : Nat := if e = 0 then ruE bs most else e
def siV (bs : List UInt8) (e : Nat) : Int := if e = 0 then giV bs else 0
def siB (bs : List UInt8) (e : Nat) : List UInt8 := if e = 0 then bs.drop (giK bs) else bs
def siE (bs : List UInt8) (e : Nat) : Nat := if e = 0 then giE bs else e
def stS (bs : List UInt8) (e : Nat) (most : Int) : List UInt8 := if e = 0 then gtS bs most else []
def stB (bs : List UInt8) (e : Nat) (most : Int) : List UInt8 := if e = 0 then bs.drop (gtK bs most) else bs
def stE (bs : List UInt8) (e : Nat) (most : Int) : Nat := if e = 0 then gtE bs most else e
def sdE (bs : List UInt8) (e : Nat) : Nat := if e = 0 then (if bs.length = 0 then 0 else 7) else e
/-- Behind a call: the reader as it is then; all else as it was. -/
def Nx (g : Nat) (w : World) (ao : Option Addr) (bs : List UInt8) (e : Nat) (w' : World) : Prop :=
  ∃ ao' cap', Rd w' g bs e ao' cap' ∧ But g w w' ∧ ∀ a, ao' = some a → ∃ b, ao = some b ∧ b.block = a.block
theorem But.pre {g : Nat} {w w1 w2 : World} (h : After w w1) (k : But g w1 w2) : But g w w2 := (But.of_below h).trans k
theorem Nx.same {g : Nat} {w w1 : World} {ao : Option Addr} {cap : Nat} {bs : List UInt8} {e : Nat} (h : Rd w1 g bs e ao cap) (hA : After w w1) : Nx g w ao bs e w1 :=
  ⟨ao, cap, h, But.of_below hA, fun a ha => ⟨a, ha, rfl⟩⟩
theorem box_cell (w : World) (v : Value) (t : TypeId) : (w.alloc (.cells #[v] t)).cell? ⟨w.heap.size, 0, none⟩ = some v := (RowIs.new w t [v]).cell rfl
set_option maxRecDepth 100000 in
set_option maxHeartbeats 400000 in
theorem rUint_any (g : Nat) (bs : List UInt8) (e : Nat) (ao : Option Addr) (cap most : Nat) (w : World) (hR : Rd w g bs e ao cap) :
    Calls Try.prog 73 #[.pointer (some ⟨g, 0, none⟩), .int .u64 (most : Int)] w fun x w' => x = .returned (.int .u64 (suV bs e most : Int)) ∧ Nx g w ao (suB bs e most) (suE bs e most) w' := by
  have hA : After w (w.alloc (.cells #[.int .u64 (most : Int)] 51)) := after_alloc (After.refl w) _
  have HR : Hid (Rd (w.alloc (.cells #[.int .u64 (most : Int)] 51)) g bs e ao cap) := hR.after hA
  clear hR
  by_cases he : e = 0
  · subst he
    have e1 : suV bs 0 most = ruV bs most := rfl
    have e2 : suB bs 0 most = bs.drop (ruK bs most) := rfl
    have e3 : suE bs 0 most = ruE bs most := rfl
    rw [e1, e2, e3]
    clear e1 e2 e3
    go_enter Try.func73, Try.ntmps73
    go_wp2_with (go_at_call 80; refine (takenU_ok g bs ao cap most w.heap.size _ HR.out (box_cell w _ _)).mono ?_; rintro x w1 ⟨rfl, hr1, hb1⟩)
    go_ret
    exact ⟨rfl, _, _, hr1, But.pre hA hb1, fun a ha => cutAt_block ha⟩
  · have e1 : suV bs e most = 0 := if_neg he
    have e2 : suB bs e most = bs := if_neg he
    have e3 : suE bs e most = e := if_neg he
    rw [e1, e2, e3]
    clear e1 e2 e3
    go_enter Try.func73, Try.ntmps73
    go_wp2_with (go_at_call 80; refine (takenU_err g bs e he ao cap _ _ HR.out).mono ?_; rintro x w1 ⟨rfl, rfl⟩)
    go_ret
    exact ⟨rfl, Nx.same HR.out hA⟩
set_option maxRecDepth 100000 in
set_option maxHeartbeats 400000 in
theorem rInt_any (g : Nat) (bs : List UInt8) (e : Nat) (ao : Option Addr) (cap : Nat) (w : World) (hR : Rd w g bs e ao cap) :
    Calls Try.prog 75 #[.pointer (some ⟨g, 0, none⟩)] w fun x w' => x = .returned (.int .i64 (siV bs e)) ∧ Nx g w ao (siB bs e) (siE bs e) w' := by
  have HR : Hid (Rd w g bs e ao cap) := hR
  clear hR
  by_cases he : e = 0
  · subst he
    have e1 : siV bs 0 = giV bs := rfl
    have e2 : siB bs 0 = bs.drop (giK bs) := rfl
    have e3 : siE bs 0 = giE bs := rfl
    rw [e1, e2, e3]
    clear e1 e2 e3
    go_enter Try.func75, Try.ntmps75
    go_wp2_with (go_at_call 82; refine (takenI_ok g bs ao cap _ HR.out).mono ?_; rintro x w1 ⟨rfl, hr1, hb1⟩)
    go_ret
    exact ⟨rfl, _, _, hr1, hb1, fun a ha => cutAt_block ha⟩
  · have e1 : siV bs e = 0 := if_neg he
    have e2 : siB bs e = bs := if_neg he
    have e3 : siE bs e = e := if_neg he
    rw [e1, e2, e3]
    clear e1 e2 e3
    go_enter Try.func75, Try.ntmps75
    go_wp2_with (go_at_call 82; refine (takenI_err g bs e he ao cap _ _ HR.out).mono ?_; rintro x w1 ⟨rfl, rfl⟩)
    go_ret
    exact ⟨rfl, Nx.same HR.out (After.refl _)⟩
set_option maxHeartbeats 400000 in
theorem rLeft_any (g : Nat) (bs : List UInt8) (e : Nat) (ao : Option Addr) (cap : Nat) (w : World) (hR : Rd w g bs e ao cap) :
    Calls Try.prog 72 #[.pointer (some ⟨g, 0, none⟩)] w fun x w' => x = .returned (.int .i64 (bs.length : Int)) ∧ w' = w := by
  have c0 : w.cell? ⟨g, 0, none⟩ = some (.slice ao bs.length cap) := hR.row.cell rfl
  clear hR
  go_enter Try.func72, Try.ntmps72
  go_wp2
  go_ret
  exact ⟨rfl, rfl⟩
set_option maxHeartbeats 400000 in
theorem rErr_any (g : Nat) (bs : List UInt8) (e : Nat) (ao : Option Addr) (cap : Nat) (w : World) (hR : Rd w g bs e ao cap) :
    Calls Try.prog 76 #[.pointer (some ⟨g, 0, none⟩)] w fun x w' => x = .returned (.int .i64 (e : Int)) ∧ w' = w := by
  have c1 : w.cell? ⟨g, 1, none⟩ = some (.int .i64 (e : Int)) := hR.row.cell rfl
  clear hR
  go_enter Try.func76, Try.ntmps76
  go_wp2
  go_ret
  exact ⟨rfl, rfl⟩
end Go.Proofs.Ytpplnomomcdemaa
