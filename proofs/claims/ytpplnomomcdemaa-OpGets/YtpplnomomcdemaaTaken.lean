/-
  THE WALKS OF leb's READER: the closures, taken, Uint, Int, Text, Left, Err, Done.
-/
import Derived.Test.YtpplnomomcdemaaSlices
namespace Go.Proofs.Ytpplnomomcdemaa
open Go.RowKit Leb
/-- What the closure of Reader.Uint answers. -/
def ruE (bs : List UInt8) (most : Nat) : Nat := if guE bs = 0 then (if most < guV bs then 5 else 0) else guE bs
def ruK (bs : List UInt8) (most : Nat) : Nat := if ruE bs most = 0 then guK bs else 0
def ruV (bs : List UInt8) (most : Nat) : Nat := if ruE bs most = 0 then guV bs else 0
theorem ruK_le (bs : List UInt8) (most : Nat) : ruK bs most ≤ bs.length := by unfold ruK; split; exact guK_le bs; omega
set_option maxRecDepth 100000 in
set_option maxHeartbeats 400000 in
theorem uintFn_any (ao : Option Addr) (cap : Nat) (bs : List UInt8) (hcap : bs.length ≤ cap) (most p : Nat) (w : World) (hat : BytesAt w ao bs) (hp : w.cell? ⟨p, 0, none⟩ = some (.int .u64 (most : Int))) :
    Calls Try.prog 81 #[.slice ao bs.length cap, .pointer (some ⟨p, 0, none⟩)] w fun e w' => e = .returned (.tuple #[.int .u64 (ruV bs most : Int), .int .i64 (ruK bs most : Int), .int .i64 (ruE bs most : Int)]) ∧ Below w.heap.size w w' := by
  have HAT : Hid (BytesAt w ao bs) := hat
  clear hat
  obtain ⟨n, hn⟩ : ∃ n, guV bs = n := ⟨_, rfl⟩
  obtain ⟨k, hk⟩ : ∃ n, guK bs = n := ⟨_, rfl⟩
  obtain ⟨q, hq⟩ : ∃ n, guE bs = n := ⟨_, rfl⟩
  have hn64 : n < 18446744073709551616 := hn ▸ guV_lt bs
  have HN := show Hid (guV bs = n) from hn
  have HK := show Hid (guK bs = k) from hk
  have HQ := show Hid (guE bs = q) from hq
  have hlt := block_lt_of_cell hp
  simp only at hlt
  have HP : ∀ W, After w W → W.cell? ⟨p, 0, none⟩ = some (.int .u64 (most : Int)) := fun W hW => by rw [Below.cell hW (p := ⟨p, 0, none⟩) hlt]; exact hp
  by_cases hm : most < n
  · have h0 : q = 0 := by
      rcases guE_cases bs with h | ⟨_, _, h⟩
      · rw [← hq, h]
      · omega
    have e1 : ruE bs most = 5 := by unfold ruE; rw [hq, h0, hn]; simp [hm]
    have e2 : ruK bs most = 0 := by unfold ruK; rw [e1]; rfl
    have e3 : ruV bs most = 0 := by unfold ruV; rw [e1]; rfl
    rw [e1, e2, e3]
    subst h0
    clear e1 e2 e3 hn hk hq hp hlt
    go_enter Try.func81, Try.ntmps81
    go_wp2_with (go_at_call 68; refine (gu_0 ao cap hcap _ HAT.out HN.out HK.out HQ.out).mono ?_; rintro e w1 ⟨rfl, hb1⟩; replace HP := HP w1 hb1)
    go_ret3
    exact ⟨rfl, hb1⟩
  · have e1 : ruE bs most = q := by unfold ruE; rw [hq, hn]; split <;> simp [*]
    have e2 : ruK bs most = k := by
      unfold ruK; rw [e1, hk]
      split
      · rfl
      · rename_i h; rcases guE_cases bs with h' | ⟨_, h', _⟩
        · rw [hq] at h'; exact absurd h' h
        · omega
    have e3 : ruV bs most = n := by
      unfold ruV; rw [e1, hn]
      split
      · rfl
      · rename_i h; rcases guE_cases bs with h' | ⟨_, _, h'⟩
        · rw [hq] at h'; exact absurd h' h
        · omega
    rw [e1, e2, e3]
    clear e1 e2 e3 hn hk hq hp hlt
    go_enter Try.func81, Try.ntmps81
    go_wp2_with (go_at_call 68; refine (gu_0 ao cap hcap _ HAT.out HN.out HK.out HQ.out).mono ?_; rintro e w1 ⟨rfl, hb1⟩; replace HP := HP w1 hb1)
    go_ret3
    exact ⟨rfl, hb1⟩
theorem Rd.after {w w' : World} {g : Nat} {bs : List UInt8} {e : Nat} {ao : Option Addr} {cap : Nat} (h : Rd w g bs e ao cap) (hA : After w w') : Rd w' g bs e ao cap :=
  ⟨h.row.below hA h.row.lt, h.at'.after hA, h.cap, h.nil, h.apart⟩
/-- What is left behind a read of k bytes with the error e. -/
theorem Rd.next {w : World} {g : Nat} {bs : List UInt8} {e0 : Nat} {ao : Option Addr} {cap : Nat} (h : Rd w g bs e0 ao cap) (k e : Nat) (w' : World) (hb : But g w w')
    (hr : RowIs w' g 112 [.slice (cutAt ao k bs.length) (bs.length - k) (bs.length - k), .int .i64 (e : Int)]) : Rd w' g (bs.drop k) e (cutAt ao k bs.length) (bs.length - k) := by
  refine ⟨by rw [List.length_drop]; exact hr, ?_, by simp, fun hn => ?_, fun a ha => ?_⟩
  · exact (hb.bytes h.at' h.apart).cut k bs.length (Nat.le_refl _)
  · unfold cutAt at hn
    split at hn
    · rename_i he; rw [List.drop_eq_nil_iff]; omega
    · cases ao with
      | none => rw [h.nil rfl]; simp
      | some a => simp at hn
  · obtain ⟨b, hb', he⟩ := cutAt_block ha
    rw [← he]; exact h.apart b hb'
theorem But.ofSet1 {w w1 : World} {g : Nat} (hA : After w w1) (j : Nat) (v : Value) : But g w (w1.setCell ⟨g, j, none⟩ v) := (But.of_below hA).setCell j v
set_option maxRecDepth 100000 in
set_option maxHeartbeats 400000 in
theorem takenU_err (g : Nat) (bs : List UInt8) (e : Nat) (he : ¬ e = 0) (ao : Option Addr) (cap : Nat) (f : Value) (w : World) (hR : Rd w g bs e ao cap) :
    Calls Try.prog 80 #[.pointer (some ⟨g, 0, none⟩), f] w fun x w' => x = .returned (.int .u64 0) ∧ w' = w := by
  have c1 : w.cell? ⟨g, 1, none⟩ = some (.int .i64 (e : Int)) := hR.row.cell rfl
  clear hR
  go_enter Try.func80, Try.ntmps80
  go_wp2
  go_ret
  exact ⟨rfl, rfl⟩
set_option maxRecDepth 100000 in
set_option maxHeartbeats 400000 in
theorem takenU_ok (g : Nat) (bs : List UInt8) (ao : Option Addr) (cap : Nat) (most p : Nat) (w : World) (hR : Rd w g bs 0 ao cap) (hp : w.cell? ⟨p, 0, none⟩ = some (.int .u64 (most : Int))) :
    Calls Try.prog 80 #[.pointer (some ⟨g, 0, none⟩), .func (.func 81) #[] #[.pointer (some ⟨p, 0, none⟩)]] w fun x w' => x = .returned (.int .u64 (ruV bs most : Int)) ∧ Rd w' g (bs.drop (ruK bs most)) (ruE bs most) (cutAt ao (ruK bs most) bs.length) (bs.length - ruK bs most) ∧ But g w w' := by
  have HR := show Hid _ from hR
  have HP : Hid (w.cell? ⟨p, 0, none⟩ = some (.int .u64 (most : Int))) := hp
  have c0 : w.cell? ⟨g, 0, none⟩ = some (.slice ao bs.length cap) := hR.row.cell rfl
  have c1 : w.cell? ⟨g, 1, none⟩ = some (.int .i64 0) := hR.row.cell rfl
  have hkl := ruK_le bs most
  obtain ⟨k, hk⟩ : ∃ k, ruK bs most = k := ⟨_, rfl⟩
  obtain ⟨q, hq⟩ : ∃ k, ruE bs most = k := ⟨_, rfl⟩
  obtain ⟨n, hn⟩ : ∃ k, ruV bs most = k := ⟨_, rfl⟩
  have HC : Hid (∀ W, BytesAt W ao bs → W.cell? ⟨p, 0, none⟩ = some (.int .u64 (most : Int)) → Calls Try.prog 81 #[.slice ao bs.length cap, .pointer (some ⟨p, 0, none⟩)] W fun e w' => e = .returned (.tuple #[.int .u64 (n : Int), .int .i64 (k : Int), .int .i64 (q : Int)]) ∧ Below W.heap.size W w') := fun W h1 h2 => by
    have := uintFn_any ao cap bs hR.cap most p W h1 h2
    rw [hk, hq, hn] at this
    exact this
  rw [hk] at hkl
  rw [hk, hq, hn]
  have hsl := fun W => slice_three ao bs.length cap k (fun h => by rw [hR.nil h]; rfl) hR.cap hkl W
  clear hk hq hn hR hp
  by_cases h0 : q = 0
  · subst h0
    go_enter Try.func80, Try.ntmps80
    go_wp2_with (go_at_call 81; refine (HC.out _ HR.out.at' HP.out).mono ?_; rintro e w1 ⟨rfl, hb1⟩; have R1 : RowIs w1 g 112 [.slice ao bs.length cap, .int .i64 0] := (HR.out.after hb1).row; have d0 : w1.cell? ⟨g, 0, none⟩ = some (.slice ao bs.length cap) := R1.cell rfl; have d1 := R1.frozen 0; have HR1 : Hid (RowIs w1 g 112 [.slice ao bs.length cap, .int .i64 0]) := R1; clear R1)
    go_ret
    exact ⟨rfl, HR.out.next k 0 _ ((But.of_below hb1).setCell 0 _) (RowIs.set (cs := [.slice ao bs.length cap, .int .i64 0]) HR1.out 0 _), (But.of_below hb1).setCell 0 _⟩
  · go_enter Try.func80, Try.ntmps80
    go_wp2_with (go_at_call 81; refine (HC.out _ HR.out.at' HP.out).mono ?_; rintro e w1 ⟨rfl, hb1⟩; have R1 : RowIs w1 g 112 [.slice ao bs.length cap, .int .i64 0] := (HR.out.after hb1).row; have d0 : w1.cell? ⟨g, 0, none⟩ = some (.slice ao bs.length cap) := R1.cell rfl; have d1 := R1.frozen 0; have d2 := R1.frozen 1; have d3 : w1.cell? ⟨g, 1, none⟩ = some (.int .i64 0) := R1.cell rfl; have HR1 : Hid (RowIs w1 g 112 [.slice ao bs.length cap, .int .i64 0]) := R1; clear R1)
    go_ret
    exact ⟨rfl, HR.out.next k q _ (((But.of_below hb1).setCell 1 _).setCell 0 _) (RowIs.set (cs := [.slice ao bs.length cap, .int .i64 (q : Int)]) (RowIs.set (cs := [.slice ao bs.length cap, .int .i64 0]) HR1.out 1 _) 0 _), ((But.of_below hb1).setCell 1 _).setCell 0 _⟩
theorem giK_le (bs : List UInt8) : giK bs ≤ bs.length := by
  unfold giK; split
  · rename_i h
    have : (grp 10 bs).1 = 0 := by unfold giE at h; split at h; assumption; assumption
    exact (grp_le 10 bs this).1
  · omega
theorem gtK_le (bs : List UInt8) (most : Int) : gtK bs most ≤ bs.length := by
  by_cases h : gtE bs most = 0
  · exact (gt_only bs most h).1
  · unfold gtK; rw [if_neg h]; omega
set_option maxRecDepth 100000 in
set_option maxHeartbeats 400000 in
theorem takenI_err (g : Nat) (bs : List UInt8) (e : Nat) (he : ¬ e = 0) (ao : Option Addr) (cap : Nat) (f : Value) (w : World) (hR : Rd w g bs e ao cap) :
    Calls Try.prog 82 #[.pointer (some ⟨g, 0, none⟩), f] w fun x w' => x = .returned (.int .i64 0) ∧ w' = w := by
  have c1 : w.cell? ⟨g, 1, none⟩ = some (.int .i64 (e : Int)) := hR.row.cell rfl
  clear hR
  go_enter Try.func82, Try.ntmps82
  go_wp2
  go_ret
  exact ⟨rfl, rfl⟩
set_option maxRecDepth 100000 in
set_option maxHeartbeats 400000 in
theorem takenI_ok (g : Nat) (bs : List UInt8) (ao : Option Addr) (cap : Nat) (w : World) (hR : Rd w g bs 0 ao cap) :
    Calls Try.prog 82 #[.pointer (some ⟨g, 0, none⟩), .func (.func 83) #[] #[]] w fun x w' => x = .returned (.int .i64 (giV bs)) ∧ Rd w' g (bs.drop (giK bs)) (giE bs) (cutAt ao (giK bs) bs.length) (bs.length - giK bs) ∧ But g w w' := by
  have HR := show Hid _ from hR
  have c0 : w.cell? ⟨g, 0, none⟩ = some (.slice ao bs.length cap) := hR.row.cell rfl
  have c1 : w.cell? ⟨g, 1, none⟩ = some (.int .i64 0) := hR.row.cell rfl
  have hkl := giK_le bs
  obtain ⟨k, hk⟩ : ∃ k, giK bs = k := ⟨_, rfl⟩
  obtain ⟨q, hq⟩ : ∃ k, giE bs = k := ⟨_, rfl⟩
  obtain ⟨n, hn⟩ : ∃ k, giV bs = k := ⟨_, rfl⟩
  have HC : Hid (∀ W, BytesAt W ao bs → Calls Try.prog 83 #[.slice ao bs.length cap] W fun e w' => e = .returned (.tuple #[.int .i64 n, .int .i64 (k : Int), .int .i64 (q : Int)]) ∧ Below W.heap.size W w') := fun W h1 => by
    have := getInt_any ao cap bs hR.cap W h1
    rw [hk, hq, hn] at this
    exact this
  rw [hk] at hkl
  rw [hk, hq, hn]
  have hsl := fun W => slice_three ao bs.length cap k (fun h => by rw [hR.nil h]; rfl) hR.cap hkl W
  clear hk hq hn hR
  by_cases h0 : q = 0
  · subst h0
    go_enter Try.func82, Try.ntmps82
    go_wp2_with (go_at_call 83; refine (HC.out _ HR.out.at').mono ?_; rintro e w1 ⟨rfl, hb1⟩; have R1 : RowIs w1 g 112 [.slice ao bs.length cap, .int .i64 0] := (HR.out.after hb1).row; have d0 : w1.cell? ⟨g, 0, none⟩ = some (.slice ao bs.length cap) := R1.cell rfl; have d1 := R1.frozen 0; have HR1 : Hid (RowIs w1 g 112 [.slice ao bs.length cap, .int .i64 0]) := R1; clear R1)
    go_ret
    exact ⟨rfl, HR.out.next k 0 _ ((But.of_below hb1).setCell 0 _) (RowIs.set (cs := [.slice ao bs.length cap, .int .i64 0]) HR1.out 0 _), (But.of_below hb1).setCell 0 _⟩
  · go_enter Try.func82, Try.ntmps82
    go_wp2_with (go_at_call 83; refine (HC.out _ HR.out.at').mono ?_; rintro e w1 ⟨rfl, hb1⟩; have R1 : RowIs w1 g 112 [.slice ao bs.length cap, .int .i64 0] := (HR.out.after hb1).row; have d0 : w1.cell? ⟨g, 0, none⟩ = some (.slice ao bs.length cap) := R1.cell rfl; have d1 := R1.frozen 0; have d2 := R1.frozen 1; have d3 : w1.cell? ⟨g, 1, none⟩ = some (.int .i64 0) := R1.cell rfl; have HR1 : Hid (RowIs w1 g 112 [.slice ao bs.length cap, .int .i64 0]) := R1; clear R1)
    go_ret
    exact ⟨rfl, HR.out.next k q _ (((But.of_below hb1).setCell 1 _).setCell 0 _) (RowIs.set (cs := [.slice ao bs.length cap, .int .i64 (q : Int)]) (RowIs.set (cs := [.slice ao bs.length cap, .int .i64 0]) HR1.out 1 _) 0 _), ((But.of_below hb1).setCell 1 _).setCell 0 _⟩
end Go.Proofs.Ytpplnomomcdemaa
