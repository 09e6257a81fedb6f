/-
  THE WALK OF ref.Open.
-/
import Derived.Test.YtjmjianilcdphaaRefOpenKit
namespace Go.Proofs.Ytjmjianilcdphaa
open Go.RowKit Leb
theorem rcell0 (b o : Nat) (bs : List UInt8) (n : Nat) (hn : bs.length = n) (hp : 0 < n) (w : World) (hat : BytesAt w (some ⟨b, o, none⟩) bs) : (w.alloc (.cells #[.int .u8 0, .slice none 0 0] 36)).cell? ⟨b, o, none⟩ = some (.int .u8 ((bs.getD 0 0).toNat : Int)) := by
  obtain ⟨b', o', he, hc⟩ := (hat.after (after_alloc (After.refl w) (.cells #[.int .u8 0, .slice none 0 0] 36))) (by intro h; subst h; simp at hn; omega)
  cases he
  exact hc 0 (by omega)
theorem rgetU (b o cap : Nat) (bs : List UInt8) (n : Nat) (hn : bs.length = n) (hcap : n ≤ cap) (w : World) (hat : BytesAt w (some ⟨b, o, none⟩) bs) : ∀ W, After w W → Calls Try.prog 28 #[.slice (cutAt (some ⟨b, o, none⟩) 1 cap) (n - 1) (cap - 1)] W fun e w' => e = .returned (.tuple #[.int .u64 (guV (bs.drop 1) : Int), .int .i64 (guK (bs.drop 1) : Int), .int .i64 (guE (bs.drop 1) : Int)]) ∧ After W w' := fun W hW => by
  have := rgetUint_any (cutAt (some ⟨b, o, none⟩) 1 cap) (cap - 1) (bs.drop 1) (by rw [List.length_drop, hn]; omega) W ((hat.cut 1 cap (by omega)).after hW)
  rw [List.length_drop, hn] at this
  exact this
/-- The frame of noughts, with an error. -/
def RZ (w : World) (n : Int) (x : Ending) (w' : World) : Prop := x = .returned (.tuple #[.agg #[.int .u8 0, .slice none 0 0], .int .i64 0, .int .i64 n]) ∧ After w w'
set_option maxRecDepth 100000 in
theorem ropen_none (ao : Option Addr) (cap : Nat) (w : World) : Calls Try.prog 15 #[.slice ao 0 cap] w (RZ w 22) := by
  go_enter Try.func15, Try.ntmps15
  go_wp2
  exact bodyPost_ret (v := .tuple #[.agg #[.int .u8 0, .slice none 0 0], .int .i64 0, .int .i64 22]) (by simp [results, Try.results15, go_sem]) rfl ⟨rfl, after_alloc (After.refl w) _⟩

set_option maxRecDepth 100000 in
theorem ropen_zero (b o cap : Nat) (bs : List UInt8) (n : Nat) (hn : bs.length = n) (hp : 0 < n) (w : World) (hat : BytesAt w (some ⟨b, o, none⟩) bs) (hz : bs.getD 0 0 = 0) : Calls Try.prog 15 #[.slice (some ⟨b, o, none⟩) n cap] w (RZ w 4) := by
  have hc0 := rcell0 b o bs n hn hp w hat
  have HAT : Hid (BytesAt w (some ⟨b, o, none⟩) bs) := hat
  have HN : Hid (bs.length = n) := hn
  clear hat hn
  obtain ⟨k, hk⟩ : ∃ k : UInt8, bs.getD 0 0 = k := ⟨_, rfl⟩
  rw [hk] at hc0
  have hk0 := u8_eq0 k
  have hn0 : ((n : Int) == 0) = false := by simp; omega
  obtain rfl : k = 0 := hk.symm.trans hz
  clear hk0
  go_enter Try.func15, Try.ntmps15
  go_wp2
  exact bodyPost_ret (v := .tuple #[.agg #[.int .u8 0, .slice none 0 0], .int .i64 0, .int .i64 4]) (by simp [results, Try.results15, go_sem]) rfl ⟨rfl, after_alloc (After.refl w) _⟩

set_option maxRecDepth 100000 in
set_option maxHeartbeats 400000 in
theorem ropen_gu (b o cap : Nat) (bs : List UInt8) (n : Nat) (hn : bs.length = n) (hp : 0 < n) (hcap : n ≤ cap) (w : World) (hat : BytesAt w (some ⟨b, o, none⟩) bs) (hnz : ¬ bs.getD 0 0 = 0) (E : Nat) (hE : guE (bs.drop 1) = E) (hE0 : ¬ E = 0) : Calls Try.prog 15 #[.slice (some ⟨b, o, none⟩) n cap] w (RZ w (E : Int)) := by
  have hc0 := rcell0 b o bs n hn hp w hat
  have HAT : Hid (BytesAt w (some ⟨b, o, none⟩) bs) := hat
  have HN : Hid (bs.length = n) := hn
  clear hat hn
  obtain ⟨k, hk⟩ : ∃ k : UInt8, bs.getD 0 0 = k := ⟨_, rfl⟩
  rw [hk] at hc0
  have hk0 := u8_eq0 k
  have hn0 : ((n : Int) == 0) = false := by simp; omega
  rw [decide_eq_false (fun h => hnz (hk.trans h))] at hk0
  have hs1 := sl1 b o cap n hp hcap
  have C31 := show Hid _ from rgetU b o cap bs n HN.out hcap w HAT.out
  obtain ⟨V, hV⟩ : ∃ V, guV (bs.drop 1) = V := ⟨_, rfl⟩
  obtain ⟨KK, hK⟩ : ∃ K, guK (bs.drop 1) = K := ⟨_, rfl⟩
  simp only [hV, hK, hE] at C31
  clear hV hK hE hk hnz
  go_enter Try.func15, Try.ntmps15
  go_wp2_with (go_at_call 28; refine (C31.out _ (after_alloc (After.refl w) _)).mono ?_; rintro e w1 ⟨rfl, hb1⟩; have B1 : Hid (After w w1) := After.trans (after_alloc (After.refl w) _) hb1; have hRf : RowIs w1 w.heap.size 36 [.int .u8 0, .slice none 0 0] := (RowIs.new w 36 [.int .u8 0, .slice none 0 0]).below hb1 (by simp); have HRf : Hid (RowIs w1 w.heap.size 36 [.int .u8 0, .slice none 0 0]) := hRf; have q0 := hRf.cell (j := 0) rfl; have q1 := hRf.cell (j := 1) rfl; have f0 := hRf.frozen 0; have f1 := hRf.frozen 1; clear hRf; clear hb1)
  have r1 := (HRf.out.set 0 (.int .u8 0)).set 1 (.slice none 0 0)
  have b1 := after_set (after_set B1.out ⟨w.heap.size, 0, none⟩ (Nat.le_refl _) (.int .u8 0)) ⟨w.heap.size, 1, none⟩ (Nat.le_refl _) (.slice none 0 0)
  generalize (w1.setCell ⟨w.heap.size, 0, none⟩ (.int .u8 0)).setCell ⟨w.heap.size, 1, none⟩ (.slice none 0 0) = w9 at r1 b1 ⊢
  have h0 := r1.cell (j := 0) rfl
  have h1 := r1.cell (j := 1) rfl
  exact bodyPost_ret (v := .tuple #[.agg #[.int .u8 0, .slice none 0 0], .int .i64 0, .int .i64 (E : Int)]) (by simp [results, Try.results15, go_sem, h0, h1]) rfl ⟨rfl, b1⟩

set_option maxRecDepth 100000 in
set_option maxHeartbeats 400000 in
theorem ropen_long (b o cap : Nat) (bs : List UInt8) (n : Nat) (hn : bs.length = n) (hp : 0 < n) (hcap : n ≤ cap) (w : World) (hat : BytesAt w (some ⟨b, o, none⟩) bs) (hnz : ¬ bs.getD 0 0 = 0) (hE : guE (bs.drop 1) = 0) (V : Nat) (hV : guV (bs.drop 1) = V) (hL : 1048576 < V) : Calls Try.prog 15 #[.slice (some ⟨b, o, none⟩) n cap] w (RZ w 5) := by
  have hc0 := rcell0 b o bs n hn hp w hat
  have HAT : Hid (BytesAt w (some ⟨b, o, none⟩) bs) := hat
  have HN : Hid (bs.length = n) := hn
  clear hat hn
  obtain ⟨k, hk⟩ : ∃ k : UInt8, bs.getD 0 0 = k := ⟨_, rfl⟩
  rw [hk] at hc0
  have hk0 := u8_eq0 k
  have hn0 : ((n : Int) == 0) = false := by simp; omega
  rw [decide_eq_false (fun h => hnz (hk.trans h))] at hk0
  have hs1 := sl1 b o cap n hp hcap
  have C31 := show Hid _ from rgetU b o cap bs n HN.out hcap w HAT.out
  obtain ⟨KK, hK⟩ : ∃ K, guK (bs.drop 1) = K := ⟨_, rfl⟩
  simp only [hV, hK, hE] at C31
  clear hV hK hE hk hnz
  go_enter Try.func15, Try.ntmps15
  go_wp2_with (go_at_call 28; refine (C31.out _ (after_alloc (After.refl w) _)).mono ?_; rintro e w1 ⟨rfl, hb1⟩; have B1 : Hid (After w w1) := After.trans (after_alloc (After.refl w) _) hb1; have hRf : RowIs w1 w.heap.size 36 [.int .u8 0, .slice none 0 0] := (RowIs.new w 36 [.int .u8 0, .slice none 0 0]).below hb1 (by simp); have HRf : Hid (RowIs w1 w.heap.size 36 [.int .u8 0, .slice none 0 0]) := hRf; have q0 := hRf.cell (j := 0) rfl; have q1 := hRf.cell (j := 1) rfl; have f0 := hRf.frozen 0; have f1 := hRf.frozen 1; clear hRf; clear hb1)
  have r1 := (HRf.out.set 0 (.int .u8 0)).set 1 (.slice none 0 0)
  have b1 := after_set (after_set B1.out ⟨w.heap.size, 0, none⟩ (Nat.le_refl _) (.int .u8 0)) ⟨w.heap.size, 1, none⟩ (Nat.le_refl _) (.slice none 0 0)
  generalize (w1.setCell ⟨w.heap.size, 0, none⟩ (.int .u8 0)).setCell ⟨w.heap.size, 1, none⟩ (.slice none 0 0) = w9 at r1 b1 ⊢
  have h0 := r1.cell (j := 0) rfl
  have h1 := r1.cell (j := 1) rfl
  exact bodyPost_ret (v := .tuple #[.agg #[.int .u8 0, .slice none 0 0], .int .i64 0, .int .i64 5]) (by simp [results, Try.results15, go_sem, h0, h1]) rfl ⟨rfl, b1⟩

set_option maxRecDepth 100000 in
set_option maxHeartbeats 400000 in
theorem ropen_cut (b o cap : Nat) (bs : List UInt8) (n : Nat) (hn : bs.length = n) (hp : 0 < n) (hcap : n ≤ cap) (hbig : n ≤ 140737488355328) (w : World) (hat : BytesAt w (some ⟨b, o, none⟩) bs) (hnz : ¬ bs.getD 0 0 = 0) (hE : guE (bs.drop 1) = 0) (V : Nat) (hV : guV (bs.drop 1) = V) (hL : V ≤ 1048576) (KK : Nat) (hK : guK (bs.drop 1) = KK) (hcut : n < 1 + KK + V + 4) : Calls Try.prog 15 #[.slice (some ⟨b, o, none⟩) n cap] w (RZ w 3) := by
  have hc0 := rcell0 b o bs n hn hp w hat
  have HAT : Hid (BytesAt w (some ⟨b, o, none⟩) bs) := hat
  have HN : Hid (bs.length = n) := hn
  clear hat hn
  obtain ⟨k, hk⟩ : ∃ k : UInt8, bs.getD 0 0 = k := ⟨_, rfl⟩
  rw [hk] at hc0
  have hk0 := u8_eq0 k
  have hn0 : ((n : Int) == 0) = false := by simp; omega
  rw [decide_eq_false (fun h => hnz (hk.trans h))] at hk0
  have hs1 := sl1 b o cap n hp hcap
  have C31 := show Hid _ from rgetU b o cap bs n HN.out hcap w HAT.out
  have hKn := guK_le (bs.drop 1)
  rw [hK, List.length_drop, HN.out] at hKn
  simp only [hV, hK, hE] at C31
  clear hV hK hE hk hnz
  go_enter Try.func15, Try.ntmps15
  go_wp2_with (go_at_call 28; refine (C31.out _ (after_alloc (After.refl w) _)).mono ?_; rintro e w1 ⟨rfl, hb1⟩; have B1 : Hid (After w w1) := After.trans (after_alloc (After.refl w) _) hb1; have hRf : RowIs w1 w.heap.size 36 [.int .u8 0, .slice none 0 0] := (RowIs.new w 36 [.int .u8 0, .slice none 0 0]).below hb1 (by simp); have HRf : Hid (RowIs w1 w.heap.size 36 [.int .u8 0, .slice none 0 0]) := hRf; have q0 := hRf.cell (j := 0) rfl; have q1 := hRf.cell (j := 1) rfl; have f0 := hRf.frozen 0; have f1 := hRf.frozen 1; clear hRf; clear hb1)
  have r1 := (HRf.out.set 0 (.int .u8 0)).set 1 (.slice none 0 0)
  have b1 := after_set (after_set B1.out ⟨w.heap.size, 0, none⟩ (Nat.le_refl _) (.int .u8 0)) ⟨w.heap.size, 1, none⟩ (Nat.le_refl _) (.slice none 0 0)
  generalize (w1.setCell ⟨w.heap.size, 0, none⟩ (.int .u8 0)).setCell ⟨w.heap.size, 1, none⟩ (.slice none 0 0) = w9 at r1 b1 ⊢
  have h0 := r1.cell (j := 0) rfl
  have h1 := r1.cell (j := 1) rfl
  exact bodyPost_ret (v := .tuple #[.agg #[.int .u8 0, .slice none 0 0], .int .i64 0, .int .i64 3]) (by simp [results, Try.results15, go_sem, h0, h1]) rfl ⟨rfl, b1⟩

end Go.Proofs.Ytjmjianilcdphaa