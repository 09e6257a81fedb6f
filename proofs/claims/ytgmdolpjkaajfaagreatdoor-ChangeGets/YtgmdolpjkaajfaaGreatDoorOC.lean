/-
  CONTRACTS: Slices Taken Methods RefInt
-/
import Derived.Test.YtgmdolpjkaajfaaGreatDoorOA
import Derived.Lib.Slices
namespace Go.Proofs.YtgmdolpjkaajfaaGreatDoor
open Go.RowKit Leb
theorem bytesAt_none {w : World} {bs : List UInt8} (h : BytesAt w none bs) : bs = [] := Classical.byContradiction fun hn => by
  obtain ⟨b, o, he, _⟩ := h hn; cases he
theorem BytesAt.dropAt {w : World} {b o : Nat} {bs : List UInt8} (h : BytesAt w (some ⟨b, o, none⟩) bs) (k : Nat) : BytesAt w (some ⟨b, o + k, none⟩) (bs.drop k) := fun hn => by
  obtain ⟨b', o', he, hc⟩ := h (by intro h; simp [h] at hn)
  cases he
  refine ⟨b, o + k, rfl, fun j hj => ?_⟩
  simp only [List.length_drop] at hj
  rw [Nat.add_assoc, hc (k + j) (by omega)]
  simp [List.getD_eq_getElem?_getD, List.getElem?_drop]
/-- What slicing makes of an address. -/
def cutAt (ao : Option Addr) (k c : Nat) : Option Addr := if c = k then ao else ao.map fun a => a.add k
theorem cutAt_block {ao : Option Addr} {k c : Nat} {a : Addr} (h : cutAt ao k c = some a) : ∃ b, ao = some b ∧ b.block = a.block := by
  unfold cutAt at h
  split at h
  · exact ⟨a, h, rfl⟩
  · cases ao with
    | none => cases h
    | some b => simp at h; subst h; exact ⟨b, rfl, by unfold Addr.add; split <;> rfl⟩
theorem BytesAt.cut {w : World} {ao : Option Addr} {bs : List UInt8} (h : BytesAt w ao bs) (k c : Nat) (hc : bs.length ≤ c) : BytesAt w (cutAt ao k c) (bs.drop k) := fun hn => by
  obtain ⟨b, o, rfl, _⟩ := h (by intro h; simp [h] at hn)
  have hlt : k < bs.length := Classical.byContradiction fun hk => hn (List.drop_eq_nil_iff.2 (by omega))
  have := h.dropAt k hn
  unfold cutAt
  rw [if_neg (by omega)]
  simpa [Addr.add_mid] using this
theorem slice_three (ao : Option Addr) (n cap k : Nat) (hz : ao = none → n = 0) (hc : n ≤ cap) (hk : k ≤ n) (W : World) :
    (Instr.sliceAt 32 (.slice ao n cap) (some (.int .i64 (k : Int))) (some (.int .i64 (n : Int))) (some (.int .i64 (n : Int)))).run Tryz.prog W = .ok (.slice (cutAt ao k n) (n - k) (n - k)) W := by
  obtain ⟨i, hi', hzz⟩ := Option.map_eq_some_iff.1 bytes5
  simp only [Prod.mk.injEq] at hzz
  obtain ⟨_, hsz, _⟩ := hzz
  cases ao with
  | none =>
    obtain rfl : n = 0 := hz rfl
    obtain rfl : k = 0 := by omega
    simp [Instr.sliceAt, Instr.slice, run_underlying Tryz.underlying32, Instr.sliceBounds, Instr.sliceBound, asIntOf, sizeOf, typeInfo, hi', cutAt]
  | some a =>
    by_cases h : n = k
    · simp [Instr.sliceAt, Instr.slice, run_underlying Tryz.underlying32, Instr.sliceBounds, Instr.sliceBound, asIntOf, sizeOf, typeInfo, hi', hsz, cutAt, h]
      intro h2; omega
    · simp [Instr.sliceAt, Instr.slice, run_underlying Tryz.underlying32, Instr.sliceBounds, Instr.sliceBound, asIntOf, sizeOf, typeInfo, hi', hsz, cutAt, h, hc, hk]
theorem slice_from (ao : Option Addr) (n cap k : Nat) (hz : ao = none → n = 0) (hc : n ≤ cap) (hk : k ≤ n) (W : World) :
    (Instr.sliceAt 32 (.slice ao n cap) (some (.int .i64 (k : Int))) none none).run Tryz.prog W = .ok (.slice (cutAt ao k cap) (n - k) (cap - k)) W := by
  obtain ⟨i, hi', hzz⟩ := Option.map_eq_some_iff.1 bytes5
  simp only [Prod.mk.injEq] at hzz
  obtain ⟨_, hsz, _⟩ := hzz
  cases ao with
  | none =>
    obtain rfl : n = 0 := hz rfl
    obtain rfl : k = 0 := by omega
    simp [Instr.sliceAt, Instr.slice, run_underlying Tryz.underlying32, Instr.sliceBounds, Instr.sliceBound, asIntOf, sizeOf, typeInfo, hi', cutAt]
  | some a =>
    by_cases h : cap = k
    · simp [Instr.sliceAt, Instr.slice, run_underlying Tryz.underlying32, Instr.sliceBounds, Instr.sliceBound, asIntOf, sizeOf, typeInfo, hi', hsz, cutAt, h]
      intro h2; omega
    · simp [Instr.sliceAt, Instr.slice, run_underlying Tryz.underlying32, Instr.sliceBounds, Instr.sliceBound, asIntOf, sizeOf, typeInfo, hi', hsz, cutAt, h, hk]
/-- Nothing that was there has turned, but for block g. -/
structure But (g : Nat) (w w' : World) : Prop where
  os : w'.os = w.os
  tape : w'.tape = w.tape
  output : w'.output = w.output
  size : w.heap.size ≤ w'.heap.size
  block : ∀ k, k < w.heap.size → k ≠ g → w'.heap[k]? = w.heap[k]?
theorem But.refl (g : Nat) (w : World) : But g w w := ⟨rfl, rfl, rfl, Nat.le_refl _, fun _ _ _ => rfl⟩
theorem But.trans {g : Nat} {a b c : World} (h : But g a b) (k : But g b c) : But g a c :=
  ⟨k.os.trans h.os, k.tape.trans h.tape, k.output.trans h.output, Nat.le_trans h.size k.size, fun i hi hg => (k.block i (Nat.lt_of_lt_of_le hi h.size) hg).trans (h.block i hi hg)⟩
theorem But.of_below {g : Nat} {a b : World} (h : Below a.heap.size a b) : But g a b := ⟨h.os, h.tape, h.output, h.size, fun k hk _ => h.block k hk⟩
theorem But.drew {g : Nat} {a b : World} (h : But g a b) : But g a b.drew := ⟨h.os, h.tape, h.output, h.size, h.block⟩
theorem But.setRow {g : Nat} {a b : World} (h : But g a b) (cs : Array Value) : But g a (b.setRow g cs) :=
  ⟨h.os, h.tape, h.output, by have := h.size; simpa using this, fun k hk hg => by rw [Go.setRow_other b g k cs hg]; exact h.block k hk hg⟩
theorem But.setCell {g : Nat} {a b : World} (h : But g a b) (j : Nat) (v : Value) : But g a (b.setCell ⟨g, j, none⟩ v) :=
  ⟨h.os, h.tape, h.output, by have := h.size; simpa using this, fun k hk hg => by rw [heap_setCell_other b _ k v hg]; exact h.block k hk hg⟩
theorem But.row {g g' : Nat} {a b : World} {t : TypeId} {cs : List Value} (h : But g a b) (r : RowIs a g' t cs) (hg : g' ≠ g) : RowIs b g' t cs := by
  unfold RowIs; rw [h.block g' r.lt hg]; exact r
theorem But.cell {g : Nat} {a b : World} (h : But g a b) {p : Addr} {v : Value} (hp : p.block ≠ g) (hc : a.cell? p = some v) : b.cell? p = some v := by
  rw [World.cell?_of_block (w := a) (h.block p.block (block_lt_of_cell hc) hp)]; exact hc
theorem But.below {g B : Nat} {a b : World} (h : But g a b) (hg : B ≤ g) (hB : B ≤ a.heap.size) : Below B a b :=
  ⟨h.os, h.tape, h.output, h.size, fun k hk => h.block k (by omega) (by omega)⟩
theorem But.bytes {g : Nat} {w w' : World} (h : But g w w') {ao : Option Addr} {bs : List UInt8} (hb : BytesAt w ao bs) (hg : ∀ a, ao = some a → a.block ≠ g) : BytesAt w' ao bs := fun hn => by
  obtain ⟨b, o, rfl, hc⟩ := hb hn
  exact ⟨b, o, rfl, fun j hj => h.cell (p := ⟨b, o + j, none⟩) (hg ⟨b, o, none⟩ rfl) (hc j hj)⟩
set_option maxHeartbeats 400000 in
theorem clone_any (ao : Option Addr) (cap : Nat) (bs : List UInt8) (hbig : bs.length ≤ 140737488355328) (w : World) (hat : BytesAt w ao bs) :
    Calls Tryz.prog 109 #[.slice ao bs.length cap] w fun e w' => ∃ v, e = .returned v ∧ Own w' w.heap.size v bs ∧ Below w.heap.size w w' := by
  have HAT : Hid (BytesAt w ao bs) := hat
  have q23 : ∀ W : World, (binOp .eql 32 (.slice ao bs.length cap) (.slice none 0 0)).run Tryz.prog W = .ok (.bool ao.isNone) W := fun W => Lib.run_eql_slice_nil W _ _ ao _ _ _ _ Tryz.underlying32
  clear hat
  cases ao with
  | none =>
    obtain rfl := bytesAt_none HAT.out
    have q : ∀ W : World, (binOp .eql 32 (.slice none 0 cap) (.slice none 0 0)).run Tryz.prog W = .ok (.bool true) W := q23
    clear q23
    go_enter Tryz.func109, Tryz.ntmps109
    go_wp2
    go_ret
    exact ⟨_, rfl, Own.nil w _, Below.refl _ _⟩
  | some a =>
    go_enter Tryz.func109, Tryz.ntmps109
    go_wp2_with (at_builtin; refine wpList_append_any rfl (.tmp 5) (.tmp 6) rfl w.heap.size _ [] rfl (Own.fresh w) (some a) cap bs bs.length rfl rfl (HAT.out.after (after_alloc (After.refl w) _)) (by simp; omega) (by simp) ?_; intro v1 w1 ho1 hg1; rw [List.nil_append] at ho1)
    go_ret
    exact ⟨_, rfl, ho1, after_grown (after_alloc (After.refl w) _) hg1 (Nat.le_refl _) (fun k hk => (World.ownsRow.lt (Own.fresh w) k hk).1)⟩
/-- A reader: its block, what is left, the first error. -/
structure Rd (w : World) (g : Nat) (bs : List UInt8) (e : Nat) (ao : Option Addr) (cap : Nat) : Prop where
  row : RowIs w g 130 [.slice ao bs.length cap, .int .i64 (e : Int)]
  at' : BytesAt w ao bs
  cap : bs.length ≤ cap
  nil : ao = none → bs = []
  apart : ∀ a, ao = some a → a.block ≠ g
end Go.Proofs.YtgmdolpjkaajfaaGreatDoor
namespace Go.Proofs.YtgmdolpjkaajfaaGreatDoor
open Go.RowKit Leb
/-- What the closure of Reader.Uint answers. -/
def ruE (bs : List UInt8) (most : Nat) : Nat := if guE bs = 0 then (if most < guV bs then 5 else 0) else guE bs
def ruK (bs : List UInt8) (most : Nat) : Nat := if ruE bs most = 0 then guK bs else 0
def ruV (bs : List UInt8) (most : Nat) : Nat := if ruE bs most = 0 then guV bs else 0
theorem ruK_le (bs : List UInt8) (most : Nat) : ruK bs most ≤ bs.length := by unfold ruK; split; exact guK_le bs; omega
set_option maxRecDepth 100000 in
set_option maxHeartbeats 400000 in
theorem uintFn_any (ao : Option Addr) (cap : Nat) (bs : List UInt8) (hcap : bs.length ≤ cap) (most p : Nat) (w : World) (hat : BytesAt w ao bs) (hp : w.cell? ⟨p, 0, none⟩ = some (.int .u64 (most : Int))) :
    Calls Tryz.prog 111 #[.slice ao bs.length cap, .pointer (some ⟨p, 0, none⟩)] w fun e w' => e = .returned (.tuple #[.int .u64 (ruV bs most : Int), .int .i64 (ruK bs most : Int), .int .i64 (ruE bs most : Int)]) ∧ Below w.heap.size w w' := by
  have HAT : Hid (BytesAt w ao bs) := hat
  clear hat
  obtain ⟨n, hn⟩ : ∃ n, guV bs = n := ⟨_, rfl⟩
  obtain ⟨k, hk⟩ : ∃ n, guK bs = n := ⟨_, rfl⟩
  obtain ⟨q, hq⟩ : ∃ n, guE bs = n := ⟨_, rfl⟩
  have hn64 : n < 18446744073709551616 := hn ▸ guV_lt bs
  have HN := show Hid (guV bs = n) from hn
  have HK := show Hid (guK bs = k) from hk
  have HQ := show Hid (guE bs = q) from hq
  have hlt := block_lt_of_cell hp
  simp only at hlt
  have HP : ∀ W, After w W → W.cell? ⟨p, 0, none⟩ = some (.int .u64 (most : Int)) := fun W hW => by rw [Below.cell hW (p := ⟨p, 0, none⟩) hlt]; exact hp
  by_cases hm : most < n
  · have h0 : q = 0 := by
      rcases guE_cases bs with h | ⟨_, _, h⟩
      · rw [← hq, h]
      · omega
    have e1 : ruE bs most = 5 := by unfold ruE; rw [hq, h0, hn]; simp [hm]
    have e2 : ruK bs most = 0 := by unfold ruK; rw [e1]; rfl
    have e3 : ruV bs most = 0 := by unfold ruV; rw [e1]; rfl
    rw [e1, e2, e3]
    subst h0
    clear e1 e2 e3 hn hk hq hp hlt
    go_enter Tryz.func111, Tryz.ntmps111
    go_wp2_with (go_at_call 112; refine (gu_0 ao cap hcap _ HAT.out HN.out HK.out HQ.out).mono ?_; rintro e w1 ⟨rfl, hb1⟩; replace HP := HP w1 hb1)
    go_ret3
    exact ⟨rfl, hb1⟩
  · have e1 : ruE bs most = q := by unfold ruE; rw [hq, hn]; split <;> simp [*]
    have e2 : ruK bs most = k := by
      unfold ruK; rw [e1, hk]
      split
      · rfl
      · rename_i h; rcases guE_cases bs with h' | ⟨_, h', _⟩
        · rw [hq] at h'; exact absurd h' h
        · omega
    have e3 : ruV bs most = n := by
      unfold ruV; rw [e1, hn]
      split
      · rfl
      · rename_i h; rcases guE_cases bs with h' | ⟨_, _, h'⟩
        · rw [hq] at h'; exact absurd h' h
        · omega
    rw [e1, e2, e3]
    clear e1 e2 e3 hn hk hq hp hlt
    go_enter Tryz.func111, Tryz.ntmps111
    go_wp2_with (go_at_call 112; refine (gu_0 ao cap hcap _ HAT.out HN.out HK.out HQ.out).mono ?_; rintro e w1 ⟨rfl, hb1⟩; replace HP := HP w1 hb1)
    go_ret3
    exact ⟨rfl, hb1⟩
theorem Rd.after {w w' : World} {g : Nat} {bs : List UInt8} {e : Nat} {ao : Option Addr} {cap : Nat} (h : Rd w g bs e ao cap) (hA : After w w') : Rd w' g bs e ao cap :=
  ⟨h.row.below hA h.row.lt, h.at'.after hA, h.cap, h.nil, h.apart⟩
/-- What is left behind a read of k bytes with the error e. -/
theorem Rd.next {w : World} {g : Nat} {bs : List UInt8} {e0 : Nat} {ao : Option Addr} {cap : Nat} (h : Rd w g bs e0 ao cap) (k e : Nat) (w' : World) (hb : But g w w')
    (hr : RowIs w' g 130 [.slice (cutAt ao k bs.length) (bs.length - k) (bs.length - k), .int .i64 (e : Int)]) : Rd w' g (bs.drop k) e (cutAt ao k bs.length) (bs.length - k) := by
  refine ⟨by rw [List.length_drop]; exact hr, ?_, by simp, fun hn => ?_, fun a ha => ?_⟩
  · exact (hb.bytes h.at' h.apart).cut k bs.length (Nat.le_refl _)
  · unfold cutAt at hn
    split at hn
    · rename_i he; rw [List.drop_eq_nil_iff]; omega
    · cases ao with
      | none => rw [h.nil rfl]; simp
      | some a => simp at hn
  · obtain ⟨b, hb', he⟩ := cutAt_block ha
    rw [← he]; exact h.apart b hb'
set_option maxRecDepth 100000 in
set_option maxHeartbeats 400000 in
theorem takenU_err (g : Nat) (bs : List UInt8) (e : Nat) (he : ¬ e = 0) (ao : Option Addr) (cap : Nat) (f : Value) (w : World) (hR : Rd w g bs e ao cap) :
    Calls Tryz.prog 110 #[.pointer (some ⟨g, 0, none⟩), f] w fun x w' => x = .returned (.int .u64 0) ∧ w' = w := by
  have c1 : w.cell? ⟨g, 1, none⟩ = some (.int .i64 (e : Int)) := hR.row.cell rfl
  clear hR
  go_enter Tryz.func110, Tryz.ntmps110
  go_wp2
  go_ret
  exact ⟨rfl, rfl⟩
set_option maxRecDepth 100000 in
set_option maxHeartbeats 400000 in
theorem takenU_ok (g : Nat) (bs : List UInt8) (ao : Option Addr) (cap : Nat) (most p : Nat) (w : World) (hR : Rd w g bs 0 ao cap) (hp : w.cell? ⟨p, 0, none⟩ = some (.int .u64 (most : Int))) :
    Calls Tryz.prog 110 #[.pointer (some ⟨g, 0, none⟩), .func (.func 111) #[] #[.pointer (some ⟨p, 0, none⟩)]] w fun x w' => x = .returned (.int .u64 (ruV bs most : Int)) ∧ Rd w' g (bs.drop (ruK bs most)) (ruE bs most) (cutAt ao (ruK bs most) bs.length) (bs.length - ruK bs most) ∧ But g w w' := by
  have HR := show Hid _ from hR
  have HP : Hid (w.cell? ⟨p, 0, none⟩ = some (.int .u64 (most : Int))) := hp
  have c0 : w.cell? ⟨g, 0, none⟩ = some (.slice ao bs.length cap) := hR.row.cell rfl
  have c1 : w.cell? ⟨g, 1, none⟩ = some (.int .i64 0) := hR.row.cell rfl
  have hkl := ruK_le bs most
  obtain ⟨k, hk⟩ : ∃ k, ruK bs most = k := ⟨_, rfl⟩
  obtain ⟨q, hq⟩ : ∃ k, ruE bs most = k := ⟨_, rfl⟩
  obtain ⟨n, hn⟩ : ∃ k, ruV bs most = k := ⟨_, rfl⟩
  have HC : Hid (∀ W, BytesAt W ao bs → W.cell? ⟨p, 0, none⟩ = some (.int .u64 (most : Int)) → Calls Tryz.prog 111 #[.slice ao bs.length cap, .pointer (some ⟨p, 0, none⟩)] W fun e w' => e = .returned (.tuple #[.int .u64 (n : Int), .int .i64 (k : Int), .int .i64 (q : Int)]) ∧ Below W.heap.size W w') := fun W h1 h2 => by
    have := uintFn_any ao cap bs hR.cap most p W h1 h2
    rw [hk, hq, hn] at this
    exact this
  rw [hk] at hkl
  rw [hk, hq, hn]
  have hsl := fun W => slice_three ao bs.length cap k (fun h => by rw [hR.nil h]; rfl) hR.cap hkl W
  clear hk hq hn hR hp
  by_cases h0 : q = 0
  · subst h0
    go_enter Tryz.func110, Tryz.ntmps110
    go_wp2_with (go_at_call 111; refine (HC.out _ HR.out.at' HP.out).mono ?_; rintro e w1 ⟨rfl, hb1⟩; have R1 : RowIs w1 g 130 [.slice ao bs.length cap, .int .i64 0] := (HR.out.after hb1).row; have d0 : w1.cell? ⟨g, 0, none⟩ = some (.slice ao bs.length cap) := R1.cell rfl; have d1 := R1.frozen 0; have HR1 : Hid (RowIs w1 g 130 [.slice ao bs.length cap, .int .i64 0]) := R1; clear R1)
    go_ret
    exact ⟨rfl, HR.out.next k 0 _ ((But.of_below hb1).setCell 0 _) (RowIs.set (cs := [.slice ao bs.length cap, .int .i64 0]) HR1.out 0 _), (But.of_below hb1).setCell 0 _⟩
  · go_enter Tryz.func110, Tryz.ntmps110
    go_wp2_with (go_at_call 111; refine (HC.out _ HR.out.at' HP.out).mono ?_; rintro e w1 ⟨rfl, hb1⟩; have R1 : RowIs w1 g 130 [.slice ao bs.length cap, .int .i64 0] := (HR.out.after hb1).row; have d0 : w1.cell? ⟨g, 0, none⟩ = some (.slice ao bs.length cap) := R1.cell rfl; have d1 := R1.frozen 0; have d2 := R1.frozen 1; have d3 : w1.cell? ⟨g, 1, none⟩ = some (.int .i64 0) := R1.cell rfl; have HR1 : Hid (RowIs w1 g 130 [.slice ao bs.length cap, .int .i64 0]) := R1; clear R1)
    go_ret
    exact ⟨rfl, HR.out.next k q _ (((But.of_below hb1).setCell 1 _).setCell 0 _) (RowIs.set (cs := [.slice ao bs.length cap, .int .i64 (q : Int)]) (RowIs.set (cs := [.slice ao bs.length cap, .int .i64 0]) HR1.out 1 _) 0 _), ((But.of_below hb1).setCell 1 _).setCell 0 _⟩
theorem giK_le (bs : List UInt8) : giK bs ≤ bs.length := by
  unfold giK; split
  · rename_i h
    have : (grp 10 bs).1 = 0 := by unfold giE at h; split at h; assumption; assumption
    exact (grp_le 10 bs this).1
  · omega
theorem gtK_le (bs : List UInt8) (most : Int) : gtK bs most ≤ bs.length := by
  by_cases h : gtE bs most = 0
  · exact (gt_only bs most h).1
  · unfold gtK; rw [if_neg h]; omega
set_option maxRecDepth 100000 in
set_option maxHeartbeats 400000 in
theorem takenI_err (g : Nat) (bs : List UInt8) (e : Nat) (he : ¬ e = 0) (ao : Option Addr) (cap : Nat) (f : Value) (w : World) (hR : Rd w g bs e ao cap) :
    Calls Tryz.prog 152 #[.pointer (some ⟨g, 0, none⟩), f] w fun x w' => x = .returned (.int .i64 0) ∧ w' = w := by
  have c1 : w.cell? ⟨g, 1, none⟩ = some (.int .i64 (e : Int)) := hR.row.cell rfl
  clear hR
  go_enter Tryz.func152, Tryz.ntmps152
  go_wp2
  go_ret
  exact ⟨rfl, rfl⟩
set_option maxRecDepth 100000 in
set_option maxHeartbeats 400000 in
theorem takenI_ok (g : Nat) (bs : List UInt8) (ao : Option Addr) (cap : Nat) (w : World) (hR : Rd w g bs 0 ao cap) :
    Calls Tryz.prog 152 #[.pointer (some ⟨g, 0, none⟩), .func (.func 153) #[] #[]] w fun x w' => x = .returned (.int .i64 (giV bs)) ∧ Rd w' g (bs.drop (giK bs)) (giE bs) (cutAt ao (giK bs) bs.length) (bs.length - giK bs) ∧ But g w w' := by
  have HR := show Hid _ from hR
  have c0 : w.cell? ⟨g, 0, none⟩ = some (.slice ao bs.length cap) := hR.row.cell rfl
  have c1 : w.cell? ⟨g, 1, none⟩ = some (.int .i64 0) := hR.row.cell rfl
  have hkl := giK_le bs
  obtain ⟨k, hk⟩ : ∃ k, giK bs = k := ⟨_, rfl⟩
  obtain ⟨q, hq⟩ : ∃ k, giE bs = k := ⟨_, rfl⟩
  obtain ⟨n, hn⟩ : ∃ k, giV bs = k := ⟨_, rfl⟩
  have HC : Hid (∀ W, BytesAt W ao bs → Calls Tryz.prog 153 #[.slice ao bs.length cap] W fun e w' => e = .returned (.tuple #[.int .i64 n, .int .i64 (k : Int), .int .i64 (q : Int)]) ∧ Below W.heap.size W w') := fun W h1 => by
    have := getInt_any ao cap bs hR.cap W h1
    rw [hk, hq, hn] at this
    exact this
  rw [hk] at hkl
  rw [hk, hq, hn]
  have hsl := fun W => slice_three ao bs.length cap k (fun h => by rw [hR.nil h]; rfl) hR.cap hkl W
  clear hk hq hn hR
  by_cases h0 : q = 0
  · subst h0
    go_enter Tryz.func152, Tryz.ntmps152
    go_wp2_with (go_at_call 153; refine (HC.out _ HR.out.at').mono ?_; rintro e w1 ⟨rfl, hb1⟩; have R1 : RowIs w1 g 130 [.slice ao bs.length cap, .int .i64 0] := (HR.out.after hb1).row; have d0 : w1.cell? ⟨g, 0, none⟩ = some (.slice ao bs.length cap) := R1.cell rfl; have d1 := R1.frozen 0; have HR1 : Hid (RowIs w1 g 130 [.slice ao bs.length cap, .int .i64 0]) := R1; clear R1)
    go_ret
    exact ⟨rfl, HR.out.next k 0 _ ((But.of_below hb1).setCell 0 _) (RowIs.set (cs := [.slice ao bs.length cap, .int .i64 0]) HR1.out 0 _), (But.of_below hb1).setCell 0 _⟩
  · go_enter Tryz.func152, Tryz.ntmps152
    go_wp2_with (go_at_call 153; refine (HC.out _ HR.out.at').mono ?_; rintro e w1 ⟨rfl, hb1⟩; have R1 : RowIs w1 g 130 [.slice ao bs.length cap, .int .i64 0] := (HR.out.after hb1).row; have d0 : w1.cell? ⟨g, 0, none⟩ = some (.slice ao bs.length cap) := R1.cell rfl; have d1 := R1.frozen 0; have d2 := R1.frozen 1; have d3 : w1.cell? ⟨g, 1, none⟩ = some (.int .i64 0) := R1.cell rfl; have HR1 : Hid (RowIs w1 g 130 [.slice ao bs.length cap, .int .i64 0]) := R1; clear R1)
    go_ret
    exact ⟨rfl, HR.out.next k q _ (((But.of_below hb1).setCell 1 _).setCell 0 _) (RowIs.set (cs := [.slice ao bs.length cap, .int .i64 (q : Int)]) (RowIs.set (cs := [.slice ao bs.length cap, .int .i64 0]) HR1.out 1 _) 0 _), ((But.of_below hb1).setCell 1 _).setCell 0 _⟩
end Go.Proofs.YtgmdolpjkaajfaaGreatDoor
namespace Go.Proofs.YtgmdolpjkaajfaaGreatDoor
open Go.RowKit Leb
/-- What a reader's calls leave and tell. -/
def suV (bs : List UInt8) (e most : Nat) : Nat := if e = 0 then ruV bs most else 0
def suB (bs : List UInt8) (e most : Nat) : List UInt8 := if e = 0 then bs.drop (ruK bs most) else bs
def suE (bs : List UInt8) (e most : Nat) : Nat := if e = 0 then ruE bs most else e
def siV (bs : List UInt8) (e : Nat) : Int := if e = 0 then giV bs else 0
def siB (bs : List UInt8) (e : Nat) : List UInt8 := if e = 0 then bs.drop (giK bs) else bs
def siE (bs : List UInt8) (e : Nat) : Nat := if e = 0 then giE bs else e
def stS (bs : List UInt8) (e : Nat) (most : Int) : List UInt8 := if e = 0 then gtS bs most else []
def stB (bs : List UInt8) (e : Nat) (most : Int) : List UInt8 := if e = 0 then bs.drop (gtK bs most) else bs
def stE (bs : List UInt8) (e : Nat) (most : Int) : Nat := if e = 0 then gtE bs most else e
def sdE (bs : List UInt8) (e : Nat) : Nat := if e = 0 then (if bs.length = 0 then 0 else 7) else e
/-- Behind a call: the reader as it is then; all else as it was. -/
def Nx (g : Nat) (w : World) (ao : Option Addr) (bs : List UInt8) (e : Nat) (w' : World) : Prop :=
  ∃ ao' cap', Rd w' g bs e ao' cap' ∧ But g w w' ∧ ∀ a, ao' = some a → ∃ b, ao = some b ∧ b.block = a.block
theorem But.pre {g : Nat} {w w1 w2 : World} (h : After w w1) (k : But g w1 w2) : But g w w2 := (But.of_below h).trans k
theorem Nx.same {g : Nat} {w w1 : World} {ao : Option Addr} {cap : Nat} {bs : List UInt8} {e : Nat} (h : Rd w1 g bs e ao cap) (hA : After w w1) : Nx g w ao bs e w1 :=
  ⟨ao, cap, h, But.of_below hA, fun a ha => ⟨a, ha, rfl⟩⟩
theorem box_cell (w : World) (v : Value) (t : TypeId) : (w.alloc (.cells #[v] t)).cell? ⟨w.heap.size, 0, none⟩ = some v := (RowIs.new w t [v]).cell rfl
set_option maxRecDepth 100000 in
set_option maxHeartbeats 400000 in
theorem rUint_any (g : Nat) (bs : List UInt8) (e : Nat) (ao : Option Addr) (cap most : Nat) (w : World) (hR : Rd w g bs e ao cap) :
    Calls Tryz.prog 74 #[.pointer (some ⟨g, 0, none⟩), .int .u64 (most : Int)] w fun x w' => x = .returned (.int .u64 (suV bs e most : Int)) ∧ Nx g w ao (suB bs e most) (suE bs e most) w' := by
  have hA : After w (w.alloc (.cells #[.int .u64 (most : Int)] 69)) := after_alloc (After.refl w) _
  have HR : Hid (Rd (w.alloc (.cells #[.int .u64 (most : Int)] 69)) g bs e ao cap) := hR.after hA
  clear hR
  by_cases he : e = 0
  · subst he
    have e1 : suV bs 0 most = ruV bs most := rfl
    have e2 : suB bs 0 most = bs.drop (ruK bs most) := rfl
    have e3 : suE bs 0 most = ruE bs most := rfl
    rw [e1, e2, e3]
    clear e1 e2 e3
    go_enter Tryz.func74, Tryz.ntmps74
    go_wp2_with (go_at_call 110; refine (takenU_ok g bs ao cap most w.heap.size _ HR.out (box_cell w _ _)).mono ?_; rintro x w1 ⟨rfl, hr1, hb1⟩)
    go_ret
    exact ⟨rfl, _, _, hr1, But.pre hA hb1, fun a ha => cutAt_block ha⟩
  · have e1 : suV bs e most = 0 := if_neg he
    have e2 : suB bs e most = bs := if_neg he
    have e3 : suE bs e most = e := if_neg he
    rw [e1, e2, e3]
    clear e1 e2 e3
    go_enter Tryz.func74, Tryz.ntmps74
    go_wp2_with (go_at_call 110; refine (takenU_err g bs e he ao cap _ _ HR.out).mono ?_; rintro x w1 ⟨rfl, rfl⟩)
    go_ret
    exact ⟨rfl, Nx.same HR.out hA⟩
set_option maxRecDepth 100000 in
set_option maxHeartbeats 400000 in
theorem rInt_any (g : Nat) (bs : List UInt8) (e : Nat) (ao : Option Addr) (cap : Nat) (w : World) (hR : Rd w g bs e ao cap) :
    Calls Tryz.prog 150 #[.pointer (some ⟨g, 0, none⟩)] w fun x w' => x = .returned (.int .i64 (siV bs e)) ∧ Nx g w ao (siB bs e) (siE bs e) w' := by
  have HR : Hid (Rd w g bs e ao cap) := hR
  clear hR
  by_cases he : e = 0
  · subst he
    have e1 : siV bs 0 = giV bs := rfl
    have e2 : siB bs 0 = bs.drop (giK bs) := rfl
    have e3 : siE bs 0 = giE bs := rfl
    rw [e1, e2, e3]
    clear e1 e2 e3
    go_enter Tryz.func150, Tryz.ntmps150
    go_wp2_with (go_at_call 152; refine (takenI_ok g bs ao cap _ HR.out).mono ?_; rintro x w1 ⟨rfl, hr1, hb1⟩)
    go_ret
    exact ⟨rfl, _, _, hr1, hb1, fun a ha => cutAt_block ha⟩
  · have e1 : siV bs e = 0 := if_neg he
    have e2 : siB bs e = bs := if_neg he
    have e3 : siE bs e = e := if_neg he
    rw [e1, e2, e3]
    clear e1 e2 e3
    go_enter Tryz.func150, Tryz.ntmps150
    go_wp2_with (go_at_call 152; refine (takenI_err g bs e he ao cap _ _ HR.out).mono ?_; rintro x w1 ⟨rfl, rfl⟩)
    go_ret
    exact ⟨rfl, Nx.same HR.out (After.refl _)⟩
set_option maxHeartbeats 400000 in
theorem rLeft_any (g : Nat) (bs : List UInt8) (e : Nat) (ao : Option Addr) (cap : Nat) (w : World) (hR : Rd w g bs e ao cap) :
    Calls Tryz.prog 80 #[.pointer (some ⟨g, 0, none⟩)] w fun x w' => x = .returned (.int .i64 (bs.length : Int)) ∧ w' = w := by
  have c0 : w.cell? ⟨g, 0, none⟩ = some (.slice ao bs.length cap) := hR.row.cell rfl
  clear hR
  go_enter Tryz.func80, Tryz.ntmps80
  go_wp2
  go_ret
  exact ⟨rfl, rfl⟩
set_option maxHeartbeats 400000 in
theorem rErr_any (g : Nat) (bs : List UInt8) (e : Nat) (ao : Option Addr) (cap : Nat) (w : World) (hR : Rd w g bs e ao cap) :
    Calls Tryz.prog 78 #[.pointer (some ⟨g, 0, none⟩)] w fun x w' => x = .returned (.int .i64 (e : Int)) ∧ w' = w := by
  have c1 : w.cell? ⟨g, 1, none⟩ = some (.int .i64 (e : Int)) := hR.row.cell rfl
  clear hR
  go_enter Tryz.func78, Tryz.ntmps78
  go_wp2
  go_ret
  exact ⟨rfl, rfl⟩
end Go.Proofs.YtgmdolpjkaajfaaGreatDoor
namespace Go.Proofs.YtgmdolpjkaajfaaGreatDoor
open Go.RowKit Leb
theorem wrap_i64i (x : Int) : IntKind.i64.wrap x = Leb.wrap64 x := by
  simp [IntKind.wrap, IntKind.bits, IntKind.signed, Leb.wrap64]; split <;> omega
theorem wrap_rk (x : Int) : RowKit.wrap64 x = IntKind.i64.wrap x := by rw [wrap_i64i]; unfold RowKit.wrap64 Leb.wrap64; rfl
theorem or_lowi (n : Int) (c : Nat) (hc : c < 128) : bits .or .i64 (IntKind.i64.wrap (n * 128)) (c : Int) = Leb.wrap64 (n * 128 + (c : Int)) := by
  have e : bits .or .i64 (IntKind.i64.wrap (n * 128)) (c : Int) = IntKind.i64.wrap (((2 ^ 7 * (n % 144115188075855872).toNat + c : Nat)) : Int) := by
    show IntKind.i64.wrap (((BitVec.ofInt 64 _ ||| BitVec.ofInt 64 (c : Int)).toNat : Nat) : Int) = _
    have h1 : (IntKind.i64.wrap (n * 128) % ((2 ^ 64 : Nat) : Int)).toNat = 2 ^ 7 * (n % 144115188075855872).toNat := by
      rw [wrap_i64i]; unfold Leb.wrap64; omega
    have h2 : ((c : Int) % ((2 ^ 64 : Nat) : Int)).toNat = c := by omega
    rw [BitVec.toNat_or, BitVec.toNat_ofInt, BitVec.toNat_ofInt, h1, h2, ← Nat.two_pow_add_eq_or_of_lt (by omega : c < 2 ^ 7)]
  rw [e, wrap_i64i]
  unfold Leb.wrap64
  omega
theorem drop_last (bs : List UInt8) (k : Nat) (hk : k < bs.length) : (bs.take (k + 1)).drop k = [bs.getD k 0] := by
  rw [List.take_succ_eq_append_getElem hk, List.drop_append_of_le_length (by simp; omega)]
  simp [hk]
theorem sval_drop (bs : List UInt8) (k i : Nat) (hk : k + 1 ≤ bs.length) (hi : i < k) : sval ((bs.take (k + 1)).drop i) = ((bs.getD i 0).toNat % 128 : Nat) + 128 * sval ((bs.take (k + 1)).drop (i + 1)) := by
  rw [List.drop_eq_getElem_cons (by simp; omega), sval_cons _ _ (by intro h; have := congrArg List.length h; simp at this; omega)]
  have : i < bs.length := by omega
  simp [List.getD_eq_getElem?_getD, this]
set_option maxRecDepth 100000 in
set_option maxHeartbeats 400000 in
theorem rgetInt_neg (b o : Nat) (cap : Nat) (bs : List UInt8) (hcap : bs.length ≤ cap) (w : World) (hat : BytesAt w (some ⟨b, o, none⟩) bs) (h0 : (grp 10 bs).1 = 0) (k1 : Nat) (hk : (grp 10 bs).2 = k1 + 1) (x : UInt8) (hxe : x = bs.getD k1 0) (hs : 64 ≤ x.toNat % 128) :
    Calls Tryz.prog 121 #[.slice (some ⟨b, o, none⟩) bs.length cap] w fun e w' => e = .returned (.tuple #[.int .i64 (giV bs), .int .i64 (giK bs : Int), .int .i64 (giE bs : Int)]) ∧ Below w.heap.size w w' := by
  have HAT : Hid (BytesAt w (some ⟨b, o, none⟩) bs) := hat
  have hle := grp_le 10 bs h0
  rw [hk] at hle
  obtain ⟨hk1', hk2, _⟩ := hle
  have hx : w.cell? ⟨b, o + k1, none⟩ = some (.int .u8 (x.toNat : Int)) := by
    obtain ⟨_, _, he, hc⟩ := HAT.out (by intro h; simp [h] at hk1')
    cases he
    rw [hxe]; exact hc k1 (by omega)
  have HS : Hid (Leb.wrap64 (sval ((bs.take (k1 + 1)).drop k1)) = ((x.toNat % 64 : Nat) : Int) - 64) := by
    unfold Hid
    rw [drop_last bs k1 (by omega), ← hxe]
    simp only [sval]
    rw [if_pos hs]; unfold Leb.wrap64; omega
  have H0 : Hid ((grp 10 bs).1 = 0) := h0
  have HK : Hid ((grp 10 bs).2 = k1 + 1) := hk
  have hx8 := x.toNat_lt
  have hk1i : ((k1 : Int) + 1) - 1 = (k1 : Int) := by omega
  clear hat h0 hk hxe
  go_enter Tryz.func121, Tryz.ntmps121
  go_wp2_with (go_at_call 119; refine (groups_ok _ cap bs _ HAT.out H0.out (k1 + 1) HK.out).mono ?_; rintro e w1 ⟨rfl, rfl⟩)
  go_loopw [7, 8] (fun v i wr => ∃ j : Nat, j ≤ k1 ∧ i = .int .i64 ((j : Int) - 1) ∧ v = .int .i64 (Leb.wrap64 (sval ((bs.take (k1 + 1)).drop j))) ∧ wr = w1) (fun _ i _ => (intOf i + 1).toNat)
  case atStart => exact ⟨k1, Nat.le_refl _, by go_num, by rw [HS.out]; simp, rfl⟩
  case round =>
    obtain ⟨j, hj, rfl, rfl, rfl⟩ := hrel
    by_cases hj0 : 0 < j
    · obtain ⟨i, rfl⟩ : ∃ i, j = i + 1 := ⟨j - 1, by omega⟩
      obtain ⟨_, _, he, hc⟩ := HAT.out (by intro h; simp [h] at hk1')
      cases he
      obtain ⟨y, HY, hy⟩ : ∃ y : UInt8, Hid (y = bs.getD i 0) ∧ wr.cell? ⟨b, o + i, none⟩ = some (.int .u8 (y.toNat : Int)) := ⟨_, rfl, hc i (by omega)⟩
      have hvd := sval_drop bs k1 i hk1' (by omega)
      rw [← HY.out] at hvd
      obtain ⟨z, hz⟩ : ∃ z, Leb.wrap64 (sval ((bs.take (k1 + 1)).drop (i + 1))) = z := ⟨_, rfl⟩
      have hz64 : -9223372036854775808 ≤ z ∧ z ≤ 9223372036854775807 := by rw [← hz]; unfold Leb.wrap64; omega
      have HV : Hid (Leb.wrap64 (sval ((bs.take (k1 + 1)).drop i)) = Leb.wrap64 (z * 128 + (y.toNat % 128 : Nat))) := by unfold Hid; rw [hvd, ← hz]; unfold Leb.wrap64; omega
      have hor := or_lowi z (y.toNat % 128) (by omega)
      obtain ⟨z2, hz2⟩ : ∃ z2, Leb.wrap64 (z * 128 + (y.toNat % 128 : Nat)) = z2 := ⟨_, rfl⟩
      rw [hz2, show ((y.toNat % 128 : Nat) : Int) = (y.toNat : Int) % 128 by omega] at hor
      have HZ : Hid (Leb.wrap64 (sval ((bs.take (k1 + 1)).drop i)) = z2) := by unfold Hid; rw [HV.out, hz2]
      rw [hz]
      clear hvd hc hz hz2 HV
      obtain ⟨hz0, hz1⟩ := hz64
      have hi1 : ((i + 1 : Nat) : Int) - 1 = (i : Int) := by omega
      rw [hi1]
      go_wp2
      go_roundw
      case rel => exact ⟨i, by omega, by go_num, by rw [HZ.out, ← hor, wrap_rk], trivial⟩
      case measure => simp [intOf]
    · obtain rfl : j = 0 := by omega
      obtain ⟨k, hkk⟩ : ∃ k, k1 + 1 = k := ⟨_, rfl⟩
      obtain ⟨m, hm⟩ : ∃ m, giN bs = m := ⟨_, rfl⟩
      have hm64 : -9223372036854775808 ≤ m ∧ m ≤ 9223372036854775807 := hm ▸ giN_lt bs
      have hv : Leb.wrap64 (sval ((bs.take (k1 + 1)).drop 0)) = m := by rw [← hm]; unfold giN; rw [HK.out]; rfl
      have HK2 : Hid ((grp 10 bs).2 = k) := by unfold Hid; rw [HK.out, hkk]
      have hk1 : k ≤ bs.length := by omega
      have hki : ((k1 : Int) + 1) = (k : Int) := by omega
      rw [hv]
      by_cases hu : intB m = bs.take k
      · have E : Hid (giE bs = 0 ∧ giK bs = k ∧ giV bs = m) := giE_0 H0.out HK2.out hm hu.symm
        clear hm hv
        go_wp2
        simp only [hki]
        refine wp_region_noPanic ?_
        refine wp_region_held_drew (S := After wr) (by kernel_rfl) (After.drew (After.refl wr)) ?_
        intro hS0
        have HT3 : BytesAt wr (some ⟨b, o, none⟩) bs := HAT.out
        have HT0 := HT3.after hS0
        refine tk 0 48 (.int .i64 m) (fuel := 7) rfl (by kernel_rfl) (by kernel_rfl) (by kernel_rfl) (by kernel_rfl) noPanic_false (by kernel_rfl) (fun _ _ => by kernel_rfl) hS0 ?_
        refine tk 3 51 (.slice (some ⟨b, o, none⟩) bs.length cap) (fuel := 6) rfl (by kernel_rfl) (by kernel_rfl) (by kernel_rfl) (by kernel_rfl) noPanic_false (by kernel_rfl) (fun _ _ => by kernel_rfl) hS0 ?_
        refine tk 4 52 (.int .i64 (k : Int)) (fuel := 5) rfl (by kernel_rfl) (by kernel_rfl) (by kernel_rfl) (by kernel_rfl) noPanic_false (by kernel_rfl) (fun _ _ => by kernel_rfl) hS0 ?_
        refine tk 5 53 (.slice (some ⟨b, o, none⟩) k cap) (fuel := 4) rfl (by kernel_rfl) (by kernel_rfl) (by kernel_rfl) (by kernel_rfl) noPanic_false (by kernel_rfl) (fun _ _ => x_slice (x := .tmp 51) (y := .tmp 52) (b := b) (off := o) (len := bs.length) (cap := cap) (k := k) (by kernel_rfl) (by kernel_rfl) (by kernel_rfl) (Nat.le_trans hk1 hcap)) hS0 ?_
        refine tk 6 54 (.string (strOf (bs.take k))) (fuel := 3) rfl (by kernel_rfl) (by kernel_rfl) (by kernel_rfl) (by kernel_rfl) noPanic_false (by kernel_rfl) (fun W hW => x_conv (x := .tmp 53) (by kernel_rfl) (by kernel_rfl) (conv_take cap k (HT3.after hW) hk1)) hS0 ?_
        refine tkCall 1 49 128 #[.int .i64 m] _ (fuel := 2) rfl (by kernel_rfl) (by kernel_rfl) (by kernel_rfl) (fun _ => by kernel_rfl) hS0 (rint_any m hm64.1 hm64.2 _) ?_
        intro pv pw pr ps
        have pB : After wr pw := After.trans hS0 ps
        have pT := HT0.after ps
        refine tk 2 50 (.string (strOf (intB m))) (fuel := 1) rfl (by kernel_rfl) (by kernel_rfl) (by kernel_rfl) (by kernel_rfl) noPanic_false (by kernel_rfl) (fun W hW => x_conv (x := .tmp 49) (by kernel_rfl) (by kernel_rfl) (Own.convA pr hW)) (After.refl pw) ?_
        refine tk 7 55 (.bool false) (fuel := 0) rfl (by kernel_rfl) (by kernel_rfl) (by kernel_rfl) (by kernel_rfl) noPanic_false (by kernel_rfl) (fun _ _ => x_streqf (x := .tmp 50) (y := .tmp 54) (s := strOf (intB m)) (t := strOf (bs.take k)) (by kernel_rfl) (by kernel_rfl) (by kernel_rfl) (congrArg strOf hu)) (After.refl pw) ?_
        refine wpAnyH_done (by kernel_rfl) (NoPanic.normal ?_) _
        go_simp
        go_wp2
        go_ret3
        exact ⟨by rw [E.out.1, E.out.2.1, E.out.2.2]; rfl, pB⟩
      · have E : Hid (giE bs = 4 ∧ giK bs = 0 ∧ giV bs = 0) := giE_4 H0.out HK2.out hm (fun h => hu h.symm)
        clear hm hv
        go_wp2
        simp only [hki]
        refine wp_region_noPanic ?_
        refine wp_region_held_drew (S := After wr) (by kernel_rfl) (After.drew (After.refl wr)) ?_
        intro hS0
        have HT3 : BytesAt wr (some ⟨b, o, none⟩) bs := HAT.out
        have HT0 := HT3.after hS0
        refine tk 0 48 (.int .i64 m) (fuel := 7) rfl (by kernel_rfl) (by kernel_rfl) (by kernel_rfl) (by kernel_rfl) noPanic_false (by kernel_rfl) (fun _ _ => by kernel_rfl) hS0 ?_
        refine tk 3 51 (.slice (some ⟨b, o, none⟩) bs.length cap) (fuel := 6) rfl (by kernel_rfl) (by kernel_rfl) (by kernel_rfl) (by kernel_rfl) noPanic_false (by kernel_rfl) (fun _ _ => by kernel_rfl) hS0 ?_
        refine tk 4 52 (.int .i64 (k : Int)) (fuel := 5) rfl (by kernel_rfl) (by kernel_rfl) (by kernel_rfl) (by kernel_rfl) noPanic_false (by kernel_rfl) (fun _ _ => by kernel_rfl) hS0 ?_
        refine tk 5 53 (.slice (some ⟨b, o, none⟩) k cap) (fuel := 4) rfl (by kernel_rfl) (by kernel_rfl) (by kernel_rfl) (by kernel_rfl) noPanic_false (by kernel_rfl) (fun _ _ => x_slice (x := .tmp 51) (y := .tmp 52) (b := b) (off := o) (len := bs.length) (cap := cap) (k := k) (by kernel_rfl) (by kernel_rfl) (by kernel_rfl) (Nat.le_trans hk1 hcap)) hS0 ?_
        refine tk 6 54 (.string (strOf (bs.take k))) (fuel := 3) rfl (by kernel_rfl) (by kernel_rfl) (by kernel_rfl) (by kernel_rfl) noPanic_false (by kernel_rfl) (fun W hW => x_conv (x := .tmp 53) (by kernel_rfl) (by kernel_rfl) (conv_take cap k (HT3.after hW) hk1)) hS0 ?_
        refine tkCall 1 49 128 #[.int .i64 m] _ (fuel := 2) rfl (by kernel_rfl) (by kernel_rfl) (by kernel_rfl) (fun _ => by kernel_rfl) hS0 (rint_any m hm64.1 hm64.2 _) ?_
        intro pv pw pr ps
        have pB : After wr pw := After.trans hS0 ps
        have pT := HT0.after ps
        refine tk 2 50 (.string (strOf (intB m))) (fuel := 1) rfl (by kernel_rfl) (by kernel_rfl) (by kernel_rfl) (by kernel_rfl) noPanic_false (by kernel_rfl) (fun W hW => x_conv (x := .tmp 49) (by kernel_rfl) (by kernel_rfl) (Own.convA pr hW)) (After.refl pw) ?_
        refine tk 7 55 (.bool true) (fuel := 0) rfl (by kernel_rfl) (by kernel_rfl) (by kernel_rfl) (by kernel_rfl) noPanic_false (by kernel_rfl) (fun _ _ => x_strne (x := .tmp 50) (y := .tmp 54) (s := (intB m)) (t := bs.take k) (by kernel_rfl) (by kernel_rfl) (by kernel_rfl) hu) (After.refl pw) ?_
        refine wpAnyH_done (by kernel_rfl) (NoPanic.normal ?_) _
        go_simp
        go_wp2
        go_ret3
        exact ⟨by rw [E.out.1, E.out.2.1, E.out.2.2]; rfl, pB⟩
set_option maxRecDepth 100000 in
set_option maxHeartbeats 400000 in
theorem rgetInt_pos (b o : Nat) (cap : Nat) (bs : List UInt8) (hcap : bs.length ≤ cap) (w : World) (hat : BytesAt w (some ⟨b, o, none⟩) bs) (h0 : (grp 10 bs).1 = 0) (k1 : Nat) (hk : (grp 10 bs).2 = k1 + 1) (x : UInt8) (hxe : x = bs.getD k1 0) (hs : ¬ 64 ≤ x.toNat % 128) :
    Calls Tryz.prog 121 #[.slice (some ⟨b, o, none⟩) bs.length cap] w fun e w' => e = .returned (.tuple #[.int .i64 (giV bs), .int .i64 (giK bs : Int), .int .i64 (giE bs : Int)]) ∧ Below w.heap.size w w' := by
  have HAT : Hid (BytesAt w (some ⟨b, o, none⟩) bs) := hat
  have hle := grp_le 10 bs h0
  rw [hk] at hle
  obtain ⟨hk1', hk2, _⟩ := hle
  have hx : w.cell? ⟨b, o + k1, none⟩ = some (.int .u8 (x.toNat : Int)) := by
    obtain ⟨_, _, he, hc⟩ := HAT.out (by intro h; simp [h] at hk1')
    cases he
    rw [hxe]; exact hc k1 (by omega)
  have HS : Hid (Leb.wrap64 (sval ((bs.take (k1 + 1)).drop k1)) = ((x.toNat % 64 : Nat) : Int)) := by
    unfold Hid
    rw [drop_last bs k1 (by omega), ← hxe]
    simp only [sval]
    rw [if_neg hs]; unfold Leb.wrap64; omega
  have H0 : Hid ((grp 10 bs).1 = 0) := h0
  have HK : Hid ((grp 10 bs).2 = k1 + 1) := hk
  have hx8 := x.toNat_lt
  have hk1i : ((k1 : Int) + 1) - 1 = (k1 : Int) := by omega
  clear hat h0 hk hxe
  go_enter Tryz.func121, Tryz.ntmps121
  go_wp2_with (go_at_call 119; refine (groups_ok _ cap bs _ HAT.out H0.out (k1 + 1) HK.out).mono ?_; rintro e w1 ⟨rfl, rfl⟩)
  go_loopw [7, 8] (fun v i wr => ∃ j : Nat, j ≤ k1 ∧ i = .int .i64 ((j : Int) - 1) ∧ v = .int .i64 (Leb.wrap64 (sval ((bs.take (k1 + 1)).drop j))) ∧ wr = w1) (fun _ i _ => (intOf i + 1).toNat)
  case atStart => exact ⟨k1, Nat.le_refl _, by go_num, by rw [HS.out]; simp, rfl⟩
  case round =>
    obtain ⟨j, hj, rfl, rfl, rfl⟩ := hrel
    by_cases hj0 : 0 < j
    · obtain ⟨i, rfl⟩ : ∃ i, j = i + 1 := ⟨j - 1, by omega⟩
      obtain ⟨_, _, he, hc⟩ := HAT.out (by intro h; simp [h] at hk1')
      cases he
      obtain ⟨y, HY, hy⟩ : ∃ y : UInt8, Hid (y = bs.getD i 0) ∧ wr.cell? ⟨b, o + i, none⟩ = some (.int .u8 (y.toNat : Int)) := ⟨_, rfl, hc i (by omega)⟩
      have hvd := sval_drop bs k1 i hk1' (by omega)
      rw [← HY.out] at hvd
      obtain ⟨z, hz⟩ : ∃ z, Leb.wrap64 (sval ((bs.take (k1 + 1)).drop (i + 1))) = z := ⟨_, rfl⟩
      have hz64 : -9223372036854775808 ≤ z ∧ z ≤ 9223372036854775807 := by rw [← hz]; unfold Leb.wrap64; omega
      have HV : Hid (Leb.wrap64 (sval ((bs.take (k1 + 1)).drop i)) = Leb.wrap64 (z * 128 + (y.toNat % 128 : Nat))) := by unfold Hid; rw [hvd, ← hz]; unfold Leb.wrap64; omega
      have hor := or_lowi z (y.toNat % 128) (by omega)
      obtain ⟨z2, hz2⟩ : ∃ z2, Leb.wrap64 (z * 128 + (y.toNat % 128 : Nat)) = z2 := ⟨_, rfl⟩
      rw [hz2, show ((y.toNat % 128 : Nat) : Int) = (y.toNat : Int) % 128 by omega] at hor
      have HZ : Hid (Leb.wrap64 (sval ((bs.take (k1 + 1)).drop i)) = z2) := by unfold Hid; rw [HV.out, hz2]
      rw [hz]
      clear hvd hc hz hz2 HV
      obtain ⟨hz0, hz1⟩ := hz64
      have hi1 : ((i + 1 : Nat) : Int) - 1 = (i : Int) := by omega
      rw [hi1]
      go_wp2
      go_roundw
      case rel => exact ⟨i, by omega, by go_num, by rw [HZ.out, ← hor, wrap_rk], trivial⟩
      case measure => simp [intOf]
    · obtain rfl : j = 0 := by omega
      obtain ⟨k, hkk⟩ : ∃ k, k1 + 1 = k := ⟨_, rfl⟩
      obtain ⟨m, hm⟩ : ∃ m, giN bs = m := ⟨_, rfl⟩
      have hm64 : -9223372036854775808 ≤ m ∧ m ≤ 9223372036854775807 := hm ▸ giN_lt bs
      have hv : Leb.wrap64 (sval ((bs.take (k1 + 1)).drop 0)) = m := by rw [← hm]; unfold giN; rw [HK.out]; rfl
      have HK2 : Hid ((grp 10 bs).2 = k) := by unfold Hid; rw [HK.out, hkk]
      have hk1 : k ≤ bs.length := by omega
      have hki : ((k1 : Int) + 1) = (k : Int) := by omega
      rw [hv]
      by_cases hu : intB m = bs.take k
      · have E : Hid (giE bs = 0 ∧ giK bs = k ∧ giV bs = m) := giE_0 H0.out HK2.out hm hu.symm
        clear hm hv
        go_wp2
        simp only [hki]
        refine wp_region_noPanic ?_
        refine wp_region_held_drew (S := After wr) (by kernel_rfl) (After.drew (After.refl wr)) ?_
        intro hS0
        have HT3 : BytesAt wr (some ⟨b, o, none⟩) bs := HAT.out
        have HT0 := HT3.after hS0
        refine tk 0 48 (.int .i64 m) (fuel := 7) rfl (by kernel_rfl) (by kernel_rfl) (by kernel_rfl) (by kernel_rfl) noPanic_false (by kernel_rfl) (fun _ _ => by kernel_rfl) hS0 ?_
        refine tk 3 51 (.slice (some ⟨b, o, none⟩) bs.length cap) (fuel := 6) rfl (by kernel_rfl) (by kernel_rfl) (by kernel_rfl) (by kernel_rfl) noPanic_false (by kernel_rfl) (fun _ _ => by kernel_rfl) hS0 ?_
        refine tk 4 52 (.int .i64 (k : Int)) (fuel := 5) rfl (by kernel_rfl) (by kernel_rfl) (by kernel_rfl) (by kernel_rfl) noPanic_false (by kernel_rfl) (fun _ _ => by kernel_rfl) hS0 ?_
        refine tk 5 53 (.slice (some ⟨b, o, none⟩) k cap) (fuel := 4) rfl (by kernel_rfl) (by kernel_rfl) (by kernel_rfl) (by kernel_rfl) noPanic_false (by kernel_rfl) (fun _ _ => x_slice (x := .tmp 51) (y := .tmp 52) (b := b) (off := o) (len := bs.length) (cap := cap) (k := k) (by kernel_rfl) (by kernel_rfl) (by kernel_rfl) (Nat.le_trans hk1 hcap)) hS0 ?_
        refine tk 6 54 (.string (strOf (bs.take k))) (fuel := 3) rfl (by kernel_rfl) (by kernel_rfl) (by kernel_rfl) (by kernel_rfl) noPanic_false (by kernel_rfl) (fun W hW => x_conv (x := .tmp 53) (by kernel_rfl) (by kernel_rfl) (conv_take cap k (HT3.after hW) hk1)) hS0 ?_
        refine tkCall 1 49 128 #[.int .i64 m] _ (fuel := 2) rfl (by kernel_rfl) (by kernel_rfl) (by kernel_rfl) (fun _ => by kernel_rfl) hS0 (rint_any m hm64.1 hm64.2 _) ?_
        intro pv pw pr ps
        have pB : After wr pw := After.trans hS0 ps
        have pT := HT0.after ps
        refine tk 2 50 (.string (strOf (intB m))) (fuel := 1) rfl (by kernel_rfl) (by kernel_rfl) (by kernel_rfl) (by kernel_rfl) noPanic_false (by kernel_rfl) (fun W hW => x_conv (x := .tmp 49) (by kernel_rfl) (by kernel_rfl) (Own.convA pr hW)) (After.refl pw) ?_
        refine tk 7 55 (.bool false) (fuel := 0) rfl (by kernel_rfl) (by kernel_rfl) (by kernel_rfl) (by kernel_rfl) noPanic_false (by kernel_rfl) (fun _ _ => x_streqf (x := .tmp 50) (y := .tmp 54) (s := strOf (intB m)) (t := strOf (bs.take k)) (by kernel_rfl) (by kernel_rfl) (by kernel_rfl) (congrArg strOf hu)) (After.refl pw) ?_
        refine wpAnyH_done (by kernel_rfl) (NoPanic.normal ?_) _
        go_simp
        go_wp2
        go_ret3
        exact ⟨by rw [E.out.1, E.out.2.1, E.out.2.2]; rfl, pB⟩
      · have E : Hid (giE bs = 4 ∧ giK bs = 0 ∧ giV bs = 0) := giE_4 H0.out HK2.out hm (fun h => hu h.symm)
        clear hm hv
        go_wp2
        simp only [hki]
        refine wp_region_noPanic ?_
        refine wp_region_held_drew (S := After wr) (by kernel_rfl) (After.drew (After.refl wr)) ?_
        intro hS0
        have HT3 : BytesAt wr (some ⟨b, o, none⟩) bs := HAT.out
        have HT0 := HT3.after hS0
        refine tk 0 48 (.int .i64 m) (fuel := 7) rfl (by kernel_rfl) (by kernel_rfl) (by kernel_rfl) (by kernel_rfl) noPanic_false (by kernel_rfl) (fun _ _ => by kernel_rfl) hS0 ?_
        refine tk 3 51 (.slice (some ⟨b, o, none⟩) bs.length cap) (fuel := 6) rfl (by kernel_rfl) (by kernel_rfl) (by kernel_rfl) (by kernel_rfl) noPanic_false (by kernel_rfl) (fun _ _ => by kernel_rfl) hS0 ?_
        refine tk 4 52 (.int .i64 (k : Int)) (fuel := 5) rfl (by kernel_rfl) (by kernel_rfl) (by kernel_rfl) (by kernel_rfl) noPanic_false (by kernel_rfl) (fun _ _ => by kernel_rfl) hS0 ?_
        refine tk 5 53 (.slice (some ⟨b, o, none⟩) k cap) (fuel := 4) rfl (by kernel_rfl) (by kernel_rfl) (by kernel_rfl) (by kernel_rfl) noPanic_false (by kernel_rfl) (fun _ _ => x_slice (x := .tmp 51) (y := .tmp 52) (b := b) (off := o) (len := bs.length) (cap := cap) (k := k) (by kernel_rfl) (by kernel_rfl) (by kernel_rfl) (Nat.le_trans hk1 hcap)) hS0 ?_
        refine tk 6 54 (.string (strOf (bs.take k))) (fuel := 3) rfl (by kernel_rfl) (by kernel_rfl) (by kernel_rfl) (by kernel_rfl) noPanic_false (by kernel_rfl) (fun W hW => x_conv (x := .tmp 53) (by kernel_rfl) (by kernel_rfl) (conv_take cap k (HT3.after hW) hk1)) hS0 ?_
        refine tkCall 1 49 128 #[.int .i64 m] _ (fuel := 2) rfl (by kernel_rfl) (by kernel_rfl) (by kernel_rfl) (fun _ => by kernel_rfl) hS0 (rint_any m hm64.1 hm64.2 _) ?_
        intro pv pw pr ps
        have pB : After wr pw := After.trans hS0 ps
        have pT := HT0.after ps
        refine tk 2 50 (.string (strOf (intB m))) (fuel := 1) rfl (by kernel_rfl) (by kernel_rfl) (by kernel_rfl) (by kernel_rfl) noPanic_false (by kernel_rfl) (fun W hW => x_conv (x := .tmp 49) (by kernel_rfl) (by kernel_rfl) (Own.convA pr hW)) (After.refl pw) ?_
        refine tk 7 55 (.bool true) (fuel := 0) rfl (by kernel_rfl) (by kernel_rfl) (by kernel_rfl) (by kernel_rfl) noPanic_false (by kernel_rfl) (fun _ _ => x_strne (x := .tmp 50) (y := .tmp 54) (s := (intB m)) (t := bs.take k) (by kernel_rfl) (by kernel_rfl) (by kernel_rfl) hu) (After.refl pw) ?_
        refine wpAnyH_done (by kernel_rfl) (NoPanic.normal ?_) _
        go_simp
        go_wp2
        go_ret3
        exact ⟨by rw [E.out.1, E.out.2.1, E.out.2.2]; rfl, pB⟩
theorem rgetInt_any (ao : Option Addr) (cap : Nat) (bs : List UInt8) (hcap : bs.length ≤ cap) (w : World) (hat : BytesAt w ao bs) :
    Calls Tryz.prog 121 #[.slice ao bs.length cap] w fun e w' => e = .returned (.tuple #[.int .i64 (giV bs), .int .i64 (giK bs : Int), .int .i64 (giE bs : Int)]) ∧ Below w.heap.size w w' := by
  by_cases h0 : (grp 10 bs).1 = 0
  · have hle := grp_le 10 bs h0
    obtain ⟨b, o, rfl, _⟩ := hat (by intro h; subst h; simp at hle; omega)
    obtain ⟨k1, hk⟩ : ∃ k1, (grp 10 bs).2 = k1 + 1 := ⟨(grp 10 bs).2 - 1, by omega⟩
    by_cases hs : 64 ≤ (bs.getD k1 0).toNat % 128
    · exact rgetInt_neg b o cap bs hcap w hat h0 k1 hk _ rfl hs
    · exact rgetInt_pos b o cap bs hcap w hat h0 k1 hk _ rfl hs
  · obtain ⟨q, hq⟩ : ∃ q, (grp 10 bs).1 = q := ⟨_, rfl⟩
    obtain ⟨e1, e2, e3⟩ := giE_q h0 hq
    have hq0 : ¬ q = 0 := hq ▸ h0
    rw [e1, e2, e3]
    have HAT : Hid (BytesAt w ao bs) := hat
    have H0 : Hid (¬ (grp 10 bs).1 = 0) := h0
    have HQ : Hid ((grp 10 bs).1 = q) := hq
    clear h0 hq e1 e2 e3 hat
    go_enter Tryz.func121, Tryz.ntmps121
    go_wp2_with (go_at_call 119; refine (groups_bad ao cap bs _ HAT.out H0.out q HQ.out).mono ?_; rintro e w1 ⟨rfl, rfl⟩)
    go_ret3
    exact ⟨rfl, Below.refl _ _⟩
end Go.Proofs.YtgmdolpjkaajfaaGreatDoor
