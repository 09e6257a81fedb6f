/-
  leb: LRow LSlices LTaken (of leb's own seat, carried over).
-/
import Derived.Test.YtcmcapcagblafaaLB
import Derived.ChangeKeysEq
import Derived.Lib.Slices
namespace Go.Proofs.Ytcmcapcagblafaa
section
open Go.RowKit Leb
theorem size61 : (Try.prog.info? 43).map (·.size) = some 32 := by kernel_rfl
section
variable {ops : Array Oper} {rest : List Oper} {o : Oper} {ac : Act} {w : World} {Q : Exit → Act → World → Prop}
end
def zeroHash : List UInt8 := List.replicate 32 0
theorem zsize : (Try.prog.info? 43).map (·.size) = some (c8 zeroHash).toArray.size := size61
def Z61 : Obj := .cells (c8 zeroHash).toArray 43
set_option maxHeartbeats 400000 in
theorem rLeft_nil (w : World) : Calls Try.prog 61 #[.pointer none] w fun e w' => e = .returned (.int .i64 0) ∧ w' = w := by
  go_enter Try.func61, Try.ntmps61
  go_wp2
  go_ret
  exact ⟨rfl, rfl⟩
set_option maxHeartbeats 400000 in
theorem rErr_nil (w : World) : Calls Try.prog 60 #[.pointer none] w fun e w' => e = .returned (.int .i64 0) ∧ w' = w := by
  go_enter Try.func60, Try.ntmps60
  go_wp2
  go_ret
  exact ⟨rfl, rfl⟩
set_option maxHeartbeats 400000 in
theorem rDone_nil (w : World) : Calls Try.prog 29 #[.pointer none] w fun e w' => e = .returned (.int .i64 0) ∧ w' = w := by
  go_enter Try.func29, Try.ntmps29
  go_wp2_with (first
    | (go_at_call 60; refine (rErr_nil _).mono ?_; rintro e w1 ⟨rfl, rfl⟩)
    | (go_at_call 61; refine (rLeft_nil _).mono ?_; rintro e w1 ⟨rfl, rfl⟩))
  go_ret
  exact ⟨rfl, rfl⟩
end
section
open Go.RowKit Leb
set_option maxHeartbeats 400000 in
theorem clone_any (ao : Option Addr) (cap : Nat) (bs : List UInt8) (hbig : bs.length ≤ 140737488355328) (w : World) (hat : BytesAt w ao bs) :
    Calls Try.prog 52 #[.slice ao bs.length cap] w fun e w' => ∃ v, e = .returned v ∧ Own w' w.heap.size v bs ∧ Below w.heap.size w w' := by
  have HAT : Hid (BytesAt w ao bs) := hat
  have q23 : ∀ W : World, (binOp .eql 26 (.slice ao bs.length cap) (.slice none 0 0)).run Try.prog W = .ok (.bool ao.isNone) W := fun W => Lib.run_eql_slice_nil W _ _ ao _ _ _ _ Try.underlying26
  clear hat
  cases ao with
  | none =>
    obtain rfl := bytesAt_none HAT.out
    have q : ∀ W : World, (binOp .eql 26 (.slice none 0 cap) (.slice none 0 0)).run Try.prog W = .ok (.bool true) W := q23
    clear q23
    go_enter Try.func52, Try.ntmps52
    go_wp2
    go_ret
    exact ⟨_, rfl, Own.nil w _, Below.refl _ _⟩
  | some a =>
    go_enter Try.func52, Try.ntmps52
    go_wp2_with (at_builtin; refine wpList_append_any rfl (.tmp 5) (.tmp 6) rfl w.heap.size _ [] rfl (Own.fresh w) (some a) cap bs bs.length rfl rfl (HAT.out.after (after_alloc (After.refl w) _)) (by simp; omega) (by simp) ?_; intro v1 w1 ho1 hg1; rw [List.nil_append] at ho1)
    go_ret
    exact ⟨_, rfl, ho1, after_grown (after_alloc (After.refl w) _) hg1 (Nat.le_refl _) (fun k hk => (World.ownsRow.lt (Own.fresh w) k hk).1)⟩
/-- A reader: its block, what is left, the first error. -/
structure Rd (w : World) (g : Nat) (bs : List UInt8) (e : Nat) (ao : Option Addr) (cap : Nat) : Prop where
  row : RowIs w g 88 [.slice ao bs.length cap, .int .i64 (e : Int)]
  at' : BytesAt w ao bs
  cap : bs.length ≤ cap
  nil : ao = none → bs = []
  apart : ∀ a, ao = some a → a.block ≠ g
set_option maxHeartbeats 400000 in
theorem read_any (ao : Option Addr) (cap : Nat) (bs : List UInt8) (hbig : bs.length ≤ 140737488355328) (w : World) (hat : BytesAt w ao bs) :
    Calls Try.prog 27 #[.slice ao bs.length cap] w fun e w' => ∃ g a' c', e = .returned (.pointer (some ⟨g, 0, none⟩)) ∧ Rd w' g bs 0 a' c' ∧ (∀ a, a' = some a → w.heap.size ≤ a.block) ∧ w.heap.size ≤ g ∧ Below w.heap.size w w' := by
  have HAT : Hid (BytesAt w ao bs) := hat
  clear hat
  go_enter Try.func27, Try.ntmps27
  go_wp2_with (go_at_call 52; refine (clone_any ao cap bs hbig _ HAT.out).mono ?_; rintro e w1 ⟨v1, rfl, ho1, hb1⟩; obtain ⟨a1, c1, rfl, hat1, hc1, hl1⟩ := ho1.at)
  go_ret
  refine ⟨w1.heap.size, a1, c1, rfl, ⟨RowIs.new w1 88 [.slice a1 bs.length c1, .int .i64 0], hat1.after (after_alloc (After.refl w1) _), hc1, fun h => ?_, fun a ha => ?_⟩, fun a ha => (hl1 a ha).1, hb1.size, after_alloc hb1 _⟩
  · subst h; exact bytesAt_none hat1
  · have := (hl1 a ha).2; omega
end
section
open Go.RowKit Leb
/-- What the closure of Reader.Uint answers. -/
def ruE (bs : List UInt8) (most : Nat) : Nat := if guE bs = 0 then (if most < guV bs then 5 else 0) else guE bs
def ruK (bs : List UInt8) (most : Nat) : Nat := if ruE bs most = 0 then guK bs else 0
def ruV (bs : List UInt8) (most : Nat) : Nat := if ruE bs most = 0 then guV bs else 0
theorem ruK_le (bs : List UInt8) (most : Nat) : ruK bs most ≤ bs.length := by unfold ruK; split; exact guK_le bs; omega
set_option maxRecDepth 100000 in
set_option maxHeartbeats 400000 in
theorem uintFn_any (ao : Option Addr) (cap : Nat) (bs : List UInt8) (hcap : bs.length ≤ cap) (most p : Nat) (w : World) (hat : BytesAt w ao bs) (hp : w.cell? ⟨p, 0, none⟩ = some (.int .u64 (most : Int))) :
    Calls Try.prog 89 #[.slice ao bs.length cap, .pointer (some ⟨p, 0, none⟩)] w fun e w' => e = .returned (.tuple #[.int .u64 (ruV bs most : Int), .int .i64 (ruK bs most : Int), .int .i64 (ruE bs most : Int)]) ∧ Below w.heap.size w w' := by
  have HAT : Hid (BytesAt w ao bs) := hat
  clear hat
  obtain ⟨n, hn⟩ : ∃ n, guV bs = n := ⟨_, rfl⟩
  obtain ⟨k, hk⟩ : ∃ n, guK bs = n := ⟨_, rfl⟩
  obtain ⟨q, hq⟩ : ∃ n, guE bs = n := ⟨_, rfl⟩
  have hn64 : n < 18446744073709551616 := hn ▸ guV_lt bs
  have HN := show Hid (guV bs = n) from hn
  have HK := show Hid (guK bs = k) from hk
  have HQ := show Hid (guE bs = q) from hq
  have hlt := block_lt_of_cell hp
  simp only at hlt
  have HP : ∀ W, After w W → W.cell? ⟨p, 0, none⟩ = some (.int .u64 (most : Int)) := fun W hW => by rw [Below.cell hW (p := ⟨p, 0, none⟩) hlt]; exact hp
  by_cases hm : most < n
  · have h0 : q = 0 := by
      rcases guE_cases bs with h | ⟨_, _, h⟩
      · rw [← hq, h]
      · omega
    have e1 : ruE bs most = 5 := by unfold ruE; rw [hq, h0, hn]; simp [hm]
    have e2 : ruK bs most = 0 := by unfold ruK; rw [e1]; rfl
    have e3 : ruV bs most = 0 := by unfold ruV; rw [e1]; rfl
    rw [e1, e2, e3]
    subst h0
    clear e1 e2 e3 hn hk hq hp hlt
    go_enter Try.func89, Try.ntmps89
    go_wp2_with (go_at_call 90; refine (gu_0 ao cap hcap _ HAT.out HN.out HK.out HQ.out).mono ?_; rintro e w1 ⟨rfl, hb1⟩; replace HP := HP w1 hb1)
    go_ret3
    exact ⟨rfl, hb1⟩
  · have e1 : ruE bs most = q := by unfold ruE; rw [hq, hn]; split <;> simp [*]
    have e2 : ruK bs most = k := by
      unfold ruK; rw [e1, hk]
      split
      · rfl
      · rename_i h; rcases guE_cases bs with h' | ⟨_, h', _⟩
        · rw [hq] at h'; exact absurd h' h
        · omega
    have e3 : ruV bs most = n := by
      unfold ruV; rw [e1, hn]
      split
      · rfl
      · rename_i h; rcases guE_cases bs with h' | ⟨_, _, h'⟩
        · rw [hq] at h'; exact absurd h' h
        · omega
    rw [e1, e2, e3]
    clear e1 e2 e3 hn hk hq hp hlt
    go_enter Try.func89, Try.ntmps89
    go_wp2_with (go_at_call 90; refine (gu_0 ao cap hcap _ HAT.out HN.out HK.out HQ.out).mono ?_; rintro e w1 ⟨rfl, hb1⟩; replace HP := HP w1 hb1)
    go_ret3
    exact ⟨rfl, hb1⟩
theorem Rd.after {w w' : World} {g : Nat} {bs : List UInt8} {e : Nat} {ao : Option Addr} {cap : Nat} (h : Rd w g bs e ao cap) (hA : After w w') : Rd w' g bs e ao cap :=
  ⟨h.row.below hA h.row.lt, h.at'.after hA, h.cap, h.nil, h.apart⟩
/-- What is left behind a read of k bytes with the error e. -/
theorem Rd.next {w : World} {g : Nat} {bs : List UInt8} {e0 : Nat} {ao : Option Addr} {cap : Nat} (h : Rd w g bs e0 ao cap) (k e : Nat) (w' : World) (hb : But g w w')
    (hr : RowIs w' g 88 [.slice (cutAt ao k bs.length) (bs.length - k) (bs.length - k), .int .i64 (e : Int)]) : Rd w' g (bs.drop k) e (cutAt ao k bs.length) (bs.length - k) := by
  refine ⟨by rw [List.length_drop]; exact hr, ?_, by simp, fun hn => ?_, fun a ha => ?_⟩
  · exact (hb.bytes h.at' h.apart).cut k bs.length (Nat.le_refl _)
  · unfold cutAt at hn
    split at hn
    · rename_i he; rw [List.drop_eq_nil_iff]; omega
    · cases ao with
      | none => rw [h.nil rfl]; simp
      | some a => simp at hn
  · obtain ⟨b, hb', he⟩ := cutAt_block ha
    rw [← he]; exact h.apart b hb'
set_option maxRecDepth 100000 in
set_option maxHeartbeats 400000 in
theorem takenU_err (g : Nat) (bs : List UInt8) (e : Nat) (he : ¬ e = 0) (ao : Option Addr) (cap : Nat) (f : Value) (w : World) (hR : Rd w g bs e ao cap) :
    Calls Try.prog 88 #[.pointer (some ⟨g, 0, none⟩), f] w fun x w' => x = .returned (.int .u64 0) ∧ w' = w := by
  have c1 : w.cell? ⟨g, 1, none⟩ = some (.int .i64 (e : Int)) := hR.row.cell rfl
  clear hR
  go_enter Try.func88, Try.ntmps88
  go_wp2
  go_ret
  exact ⟨rfl, rfl⟩
set_option maxRecDepth 100000 in
set_option maxHeartbeats 400000 in
theorem takenU_ok (g : Nat) (bs : List UInt8) (ao : Option Addr) (cap : Nat) (most p : Nat) (w : World) (hR : Rd w g bs 0 ao cap) (hp : w.cell? ⟨p, 0, none⟩ = some (.int .u64 (most : Int))) :
    Calls Try.prog 88 #[.pointer (some ⟨g, 0, none⟩), .func (.func 89) #[] #[.pointer (some ⟨p, 0, none⟩)]] w fun x w' => x = .returned (.int .u64 (ruV bs most : Int)) ∧ Rd w' g (bs.drop (ruK bs most)) (ruE bs most) (cutAt ao (ruK bs most) bs.length) (bs.length - ruK bs most) ∧ But g w w' := by
  have HR := show Hid _ from hR
  have HP : Hid (w.cell? ⟨p, 0, none⟩ = some (.int .u64 (most : Int))) := hp
  have c0 : w.cell? ⟨g, 0, none⟩ = some (.slice ao bs.length cap) := hR.row.cell rfl
  have c1 : w.cell? ⟨g, 1, none⟩ = some (.int .i64 0) := hR.row.cell rfl
  have hkl := ruK_le bs most
  obtain ⟨k, hk⟩ : ∃ k, ruK bs most = k := ⟨_, rfl⟩
  obtain ⟨q, hq⟩ : ∃ k, ruE bs most = k := ⟨_, rfl⟩
  obtain ⟨n, hn⟩ : ∃ k, ruV bs most = k := ⟨_, rfl⟩
  have HC : Hid (∀ W, BytesAt W ao bs → W.cell? ⟨p, 0, none⟩ = some (.int .u64 (most : Int)) → Calls Try.prog 89 #[.slice ao bs.length cap, .pointer (some ⟨p, 0, none⟩)] W fun e w' => e = .returned (.tuple #[.int .u64 (n : Int), .int .i64 (k : Int), .int .i64 (q : Int)]) ∧ Below W.heap.size W w') := fun W h1 h2 => by
    have := uintFn_any ao cap bs hR.cap most p W h1 h2
    rw [hk, hq, hn] at this
    exact this
  rw [hk] at hkl
  rw [hk, hq, hn]
  have hsl := fun W => slice_three ao bs.length cap k (fun h => by rw [hR.nil h]; rfl) hR.cap hkl W
  clear hk hq hn hR hp
  by_cases h0 : q = 0
  · subst h0
    go_enter Try.func88, Try.ntmps88
    go_wp2_with (go_at_call 89; refine (HC.out _ HR.out.at' HP.out).mono ?_; rintro e w1 ⟨rfl, hb1⟩; have R1 : RowIs w1 g 88 [.slice ao bs.length cap, .int .i64 0] := (HR.out.after hb1).row; have d0 : w1.cell? ⟨g, 0, none⟩ = some (.slice ao bs.length cap) := R1.cell rfl; have d1 := R1.frozen 0; have HR1 : Hid (RowIs w1 g 88 [.slice ao bs.length cap, .int .i64 0]) := R1; clear R1)
    go_ret
    exact ⟨rfl, HR.out.next k 0 _ ((But.of_below hb1).setCell 0 _) (RowIs.set (cs := [.slice ao bs.length cap, .int .i64 0]) HR1.out 0 _), (But.of_below hb1).setCell 0 _⟩
  · go_enter Try.func88, Try.ntmps88
    go_wp2_with (go_at_call 89; refine (HC.out _ HR.out.at' HP.out).mono ?_; rintro e w1 ⟨rfl, hb1⟩; have R1 : RowIs w1 g 88 [.slice ao bs.length cap, .int .i64 0] := (HR.out.after hb1).row; have d0 : w1.cell? ⟨g, 0, none⟩ = some (.slice ao bs.length cap) := R1.cell rfl; have d1 := R1.frozen 0; have d2 := R1.frozen 1; have d3 : w1.cell? ⟨g, 1, none⟩ = some (.int .i64 0) := R1.cell rfl; have HR1 : Hid (RowIs w1 g 88 [.slice ao bs.length cap, .int .i64 0]) := R1; clear R1)
    go_ret
    exact ⟨rfl, HR.out.next k q _ (((But.of_below hb1).setCell 1 _).setCell 0 _) (RowIs.set (cs := [.slice ao bs.length cap, .int .i64 (q : Int)]) (RowIs.set (cs := [.slice ao bs.length cap, .int .i64 0]) HR1.out 1 _) 0 _), ((But.of_below hb1).setCell 1 _).setCell 0 _⟩
theorem gtK_le (bs : List UInt8) (most : Int) : gtK bs most ≤ bs.length := by
  by_cases h : gtE bs most = 0
  · exact (gt_only bs most h).1
  · unfold gtK; rw [if_neg h]; omega
set_option maxHeartbeats 400000 in
theorem textFn_any (ao : Option Addr) (cap : Nat) (bs : List UInt8) (hcap : bs.length ≤ cap) (most : Int) (hm0 : -9223372036854775808 ≤ most) (hm1 : most ≤ 9223372036854775807) (hbig : bs.length ≤ 281474976710656) (p : Nat) (w : World) (hat : BytesAt w ao bs) (hp : w.cell? ⟨p, 0, none⟩ = some (.int .i64 most)) :
    Calls Try.prog 75 #[.slice ao bs.length cap, .pointer (some ⟨p, 0, none⟩)] w fun e w' => e = .returned (.tuple #[.string (strOf (gtS bs most)), .int .i64 (gtK bs most : Int), .int .i64 (gtE bs most : Int)]) ∧ Below w.heap.size w w' := by
  have HAT : Hid (BytesAt w ao bs) := hat
  clear hat
  go_enter Try.func75, Try.ntmps75
  go_wp2_with (go_at_call 76; refine (getText_any ao cap bs most hcap hbig hm0 hm1 _ HAT.out).mono ?_; rintro e w1 ⟨rfl, hb1⟩)
  go_ret3
  exact ⟨rfl, hb1⟩
set_option maxRecDepth 100000 in
set_option maxHeartbeats 400000 in
theorem takenS_err (g : Nat) (bs : List UInt8) (e : Nat) (he : ¬ e = 0) (ao : Option Addr) (cap : Nat) (f : Value) (w : World) (hR : Rd w g bs e ao cap) :
    Calls Try.prog 74 #[.pointer (some ⟨g, 0, none⟩), f] w fun x w' => x = .returned (.string ⟨#[]⟩) ∧ w' = w := by
  have c1 : w.cell? ⟨g, 1, none⟩ = some (.int .i64 (e : Int)) := hR.row.cell rfl
  clear hR
  go_enter Try.func74, Try.ntmps74
  go_wp2
  go_ret
  exact ⟨rfl, rfl⟩
set_option maxRecDepth 100000 in
set_option maxHeartbeats 400000 in
theorem takenS_ok (g : Nat) (bs : List UInt8) (ao : Option Addr) (cap : Nat) (most : Int) (hm0 : -9223372036854775808 ≤ most) (hm1 : most ≤ 9223372036854775807) (hbig : bs.length ≤ 281474976710656) (p : Nat) (w : World) (hR : Rd w g bs 0 ao cap) (hp : w.cell? ⟨p, 0, none⟩ = some (.int .i64 most)) :
    Calls Try.prog 74 #[.pointer (some ⟨g, 0, none⟩), .func (.func 75) #[] #[.pointer (some ⟨p, 0, none⟩)]] w fun x w' => x = .returned (.string (strOf (gtS bs most))) ∧ Rd w' g (bs.drop (gtK bs most)) (gtE bs most) (cutAt ao (gtK bs most) bs.length) (bs.length - gtK bs most) ∧ But g w w' := by
  have HR := show Hid _ from hR
  have HP : Hid (w.cell? ⟨p, 0, none⟩ = some (.int .i64 most)) := hp
  have c0 : w.cell? ⟨g, 0, none⟩ = some (.slice ao bs.length cap) := hR.row.cell rfl
  have c1 : w.cell? ⟨g, 1, none⟩ = some (.int .i64 0) := hR.row.cell rfl
  have hkl := gtK_le bs most
  obtain ⟨k, hk⟩ : ∃ k, gtK bs most = k := ⟨_, rfl⟩
  obtain ⟨q, hq⟩ : ∃ k, gtE bs most = k := ⟨_, rfl⟩
  obtain ⟨n, hn⟩ : ∃ k, gtS bs most = k := ⟨_, rfl⟩
  have HC : Hid (∀ W, BytesAt W ao bs → W.cell? ⟨p, 0, none⟩ = some (.int .i64 most) → Calls Try.prog 75 #[.slice ao bs.length cap, .pointer (some ⟨p, 0, none⟩)] W fun e w' => e = .returned (.tuple #[.string (strOf n), .int .i64 (k : Int), .int .i64 (q : Int)]) ∧ Below W.heap.size W w') := fun W h1 h2 => by
    have := textFn_any ao cap bs hR.cap most hm0 hm1 hbig p W h1 h2
    rw [hk, hq, hn] at this
    exact this
  rw [hk] at hkl
  rw [hk, hq, hn]
  have hsl := fun W => slice_three ao bs.length cap k (fun h => by rw [hR.nil h]; rfl) hR.cap hkl W
  clear hk hq hn hR hp
  by_cases h0 : q = 0
  · subst h0
    go_enter Try.func74, Try.ntmps74
    go_wp2_with (go_at_call 75; refine (HC.out _ HR.out.at' HP.out).mono ?_; rintro e w1 ⟨rfl, hb1⟩; have R1 : RowIs w1 g 88 [.slice ao bs.length cap, .int .i64 0] := (HR.out.after hb1).row; have d0 : w1.cell? ⟨g, 0, none⟩ = some (.slice ao bs.length cap) := R1.cell rfl; have d1 := R1.frozen 0; have HR1 : Hid (RowIs w1 g 88 [.slice ao bs.length cap, .int .i64 0]) := R1; clear R1)
    go_ret
    exact ⟨rfl, HR.out.next k 0 _ ((But.of_below hb1).setCell 0 _) (RowIs.set (cs := [.slice ao bs.length cap, .int .i64 0]) HR1.out 0 _), (But.of_below hb1).setCell 0 _⟩
  · go_enter Try.func74, Try.ntmps74
    go_wp2_with (go_at_call 75; refine (HC.out _ HR.out.at' HP.out).mono ?_; rintro e w1 ⟨rfl, hb1⟩; have R1 : RowIs w1 g 88 [.slice ao bs.length cap, .int .i64 0] := (HR.out.after hb1).row; have d0 : w1.cell? ⟨g, 0, none⟩ = some (.slice ao bs.length cap) := R1.cell rfl; have d1 := R1.frozen 0; have d2 := R1.frozen 1; have d3 : w1.cell? ⟨g, 1, none⟩ = some (.int .i64 0) := R1.cell rfl; have HR1 : Hid (RowIs w1 g 88 [.slice ao bs.length cap, .int .i64 0]) := R1; clear R1)
    go_ret
    exact ⟨rfl, HR.out.next k q _ (((But.of_below hb1).setCell 1 _).setCell 0 _) (RowIs.set (cs := [.slice ao bs.length cap, .int .i64 (q : Int)]) (RowIs.set (cs := [.slice ao bs.length cap, .int .i64 0]) HR1.out 1 _) 0 _), ((But.of_below hb1).setCell 1 _).setCell 0 _⟩
end
end Go.Proofs.Ytcmcapcagblafaa
