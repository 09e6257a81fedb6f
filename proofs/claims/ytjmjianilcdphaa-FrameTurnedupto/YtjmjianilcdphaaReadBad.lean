/-
  THE WALK OF frame.read, WHERE IT GIVES UP AHEAD OF THE SUM.
-/
import Derived.Test.YtjmjianilcdphaaOpenPlain
namespace Go.Proofs.Ytjmjianilcdphaa
open Go.RowKit Leb
def RBad (w : World) (n : Int) (x : Ending) (w' : World) : Prop := x = .panicked (gc n) ∧ After w w'
set_option maxRecDepth 100000 in
theorem read_none (ao : Option Addr) (cap : Nat) (w : World) : Calls Try.prog 27 #[.slice ao 0 cap] w (RBad w 22) := by
  go_enter Try.func27, Try.ntmps27
  go_wp2_with (go_at_call 30; refine (give_yes _ (by rfl) _ _).mono ?_; rintro e w1 ⟨rfl, rfl⟩)
  exact ⟨rfl, rfl, after_alloc (After.refl w) _⟩

theorem cell0 (b o : Nat) (bs : List UInt8) (n : Nat) (hn : bs.length = n) (hp : 0 < n) (w : World) (hat : BytesAt w (some ⟨b, o, none⟩) bs) : (w.alloc (.cells #[.int .u8 0, .slice none 0 0] 33)).cell? ⟨b, o, none⟩ = some (.int .u8 ((bs.getD 0 0).toNat : Int)) := by
  obtain ⟨b', o', he, hc⟩ := (hat.after (after_alloc (After.refl w) (.cells #[.int .u8 0, .slice none 0 0] 33))) (by intro h; subst h; simp at hn; omega)
  cases he
  exact hc 0 (by omega)

set_option maxRecDepth 100000 in
theorem read_zero (b o cap : Nat) (bs : List UInt8) (n : Nat) (hn : bs.length = n) (hp : 0 < n) (w : World) (hat : BytesAt w (some ⟨b, o, none⟩) bs) (hz : bs.getD 0 0 = 0) : Calls Try.prog 27 #[.slice (some ⟨b, o, none⟩) n cap] w (RBad w 4) := by
  have hc0 := cell0 b o bs n hn hp w hat
  have HAT : Hid (BytesAt w (some ⟨b, o, none⟩) bs) := hat
  have HN : Hid (bs.length = n) := hn
  clear hat hn
  obtain ⟨k, hk⟩ : ∃ k : UInt8, bs.getD 0 0 = k := ⟨_, rfl⟩
  rw [hk] at hc0
  have hk0 := u8_eq0 k
  obtain rfl : k = 0 := hk.symm.trans hz
  clear hk0
  go_enter Try.func27, Try.ntmps27
  go_wp2_with (first
    | (go_at_call 30; refine (give_no _ (by first | rfl | (simp; omega)) _ _).mono ?_; rintro e W ⟨rfl, hW⟩; have hW2 := hW.symm; clear hW; subst hW2)
    | (go_at_call 30; refine (give_yes _ (by first | rfl | (simp; omega)) _ _).mono ?_; rintro e W ⟨rfl, hW⟩; have hW2 := hW.symm; clear hW; subst hW2))
  exact ⟨rfl, rfl, after_alloc (After.refl w) _⟩

theorem getU (b o cap : Nat) (bs : List UInt8) (n : Nat) (hn : bs.length = n) (hcap : n ≤ cap) (w : World) (hat : BytesAt w (some ⟨b, o, none⟩) bs) : ∀ W, After w W → Calls Try.prog 31 #[.slice (cutAt (some ⟨b, o, none⟩) 1 cap) (n - 1) (cap - 1)] W fun e w' => e = .returned (.tuple #[.int .u64 (guV (bs.drop 1) : Int), .int .i64 (guK (bs.drop 1) : Int), .int .i64 (guE (bs.drop 1) : Int)]) ∧ After W w' := fun W hW => by
  have := getUint_any (cutAt (some ⟨b, o, none⟩) 1 cap) (cap - 1) (bs.drop 1) (by rw [List.length_drop, hn]; omega) W ((hat.cut 1 cap (by omega)).after hW)
  rw [List.length_drop, hn] at this
  exact this
theorem sl1 (b o cap n : Nat) (hp : 0 < n) (hcap : n ≤ cap) : ∀ W : World, (Instr.sliceAt 22 (.slice (some ⟨b, o, none⟩) n cap) (some (.int .i64 1)) none none).run Try.prog W = .ok (.slice (cutAt (some ⟨b, o, none⟩) 1 cap) (n - 1) (cap - 1)) W := fun W => slice_from (some ⟨b, o, none⟩) n cap 1 (fun h => by cases h) hcap hp W

set_option maxRecDepth 100000 in
set_option maxHeartbeats 400000 in
theorem read_gu (b o cap : Nat) (bs : List UInt8) (n : Nat) (hn : bs.length = n) (hp : 0 < n) (hcap : n ≤ cap) (w : World) (hat : BytesAt w (some ⟨b, o, none⟩) bs) (hnz : ¬ bs.getD 0 0 = 0) (E : Nat) (hE : guE (bs.drop 1) = E) (hE0 : ¬ E = 0) : Calls Try.prog 27 #[.slice (some ⟨b, o, none⟩) n cap] w (RBad w (E : Int)) := by
  have hc0 := cell0 b o bs n hn hp w hat
  have HAT : Hid (BytesAt w (some ⟨b, o, none⟩) bs) := hat
  have HN : Hid (bs.length = n) := hn
  clear hat hn
  obtain ⟨k, hk⟩ : ∃ k : UInt8, bs.getD 0 0 = k := ⟨_, rfl⟩
  rw [hk] at hc0
  have hk0 := u8_eq0 k
  rw [decide_eq_false (fun h => hnz (hk.trans h))] at hk0
  have hs1 := sl1 b o cap n hp hcap
  have C31 := show Hid _ from getU b o cap bs n HN.out hcap w HAT.out
  obtain ⟨V, hV⟩ : ∃ V, guV (bs.drop 1) = V := ⟨_, rfl⟩
  obtain ⟨K, hK⟩ : ∃ K, guK (bs.drop 1) = K := ⟨_, rfl⟩
  simp only [hV, hK, hE] at C31
  clear hV hK hE hk hnz
  go_enter Try.func27, Try.ntmps27
  go_wp2_with (first
    | (go_at_call 31; refine (C31.out _ (after_alloc (After.refl w) _)).mono ?_; rintro e w1 ⟨rfl, hb1⟩; have B1 : Hid (After w w1) := After.trans (after_alloc (After.refl w) _) hb1; clear hb1)
    | (go_at_call 30; refine (give_no _ (by first | rfl | (simp; omega)) _ _).mono ?_; rintro e W ⟨rfl, hW⟩; have hW2 := hW.symm; clear hW; subst hW2)
    | (go_at_call 30; refine (give_yes _ (by first | rfl | (simp; omega)) _ _).mono ?_; rintro e W ⟨rfl, hW⟩; have hW2 := hW.symm; clear hW; subst hW2))
  exact ⟨rfl, rfl, B1.out⟩

set_option maxRecDepth 100000 in
set_option maxHeartbeats 400000 in
theorem read_long (b o cap : Nat) (bs : List UInt8) (n : Nat) (hn : bs.length = n) (hp : 0 < n) (hcap : n ≤ cap) (w : World) (hat : BytesAt w (some ⟨b, o, none⟩) bs) (hnz : ¬ bs.getD 0 0 = 0) (hE : guE (bs.drop 1) = 0) (V : Nat) (hV : guV (bs.drop 1) = V) (hL : 1048576 < V) : Calls Try.prog 27 #[.slice (some ⟨b, o, none⟩) n cap] w (RBad w 5) := by
  have hc0 := cell0 b o bs n hn hp w hat
  have HAT : Hid (BytesAt w (some ⟨b, o, none⟩) bs) := hat
  have HN : Hid (bs.length = n) := hn
  clear hat hn
  obtain ⟨k, hk⟩ : ∃ k : UInt8, bs.getD 0 0 = k := ⟨_, rfl⟩
  rw [hk] at hc0
  have hk0 := u8_eq0 k
  rw [decide_eq_false (fun h => hnz (hk.trans h))] at hk0
  have hs1 := sl1 b o cap n hp hcap
  have C31 := show Hid _ from getU b o cap bs n HN.out hcap w HAT.out
  obtain ⟨K, hK⟩ : ∃ K, guK (bs.drop 1) = K := ⟨_, rfl⟩
  simp only [hV, hK, hE] at C31
  clear hV hK hE hk hnz
  go_enter Try.func27, Try.ntmps27
  go_wp2_with (first
    | (go_at_call 31; refine (C31.out _ (after_alloc (After.refl w) _)).mono ?_; rintro e w1 ⟨rfl, hb1⟩; have B1 : Hid (After w w1) := After.trans (after_alloc (After.refl w) _) hb1; clear hb1)
    | (go_at_call 30; refine (give_no _ (by first | rfl | (simp; omega)) _ _).mono ?_; rintro e W ⟨rfl, hW⟩; have hW2 := hW.symm; clear hW; subst hW2)
    | (go_at_call 30; refine (give_yes _ (by first | rfl | (simp; omega)) _ _).mono ?_; rintro e W ⟨rfl, hW⟩; have hW2 := hW.symm; clear hW; subst hW2))
  exact ⟨rfl, rfl, B1.out⟩

set_option maxRecDepth 100000 in
set_option maxHeartbeats 400000 in
theorem read_cut (b o cap : Nat) (bs : List UInt8) (n : Nat) (hn : bs.length = n) (hp : 0 < n) (hcap : n ≤ cap) (hbig : n ≤ 140737488355328) (w : World) (hat : BytesAt w (some ⟨b, o, none⟩) bs) (hnz : ¬ bs.getD 0 0 = 0) (hE : guE (bs.drop 1) = 0) (V : Nat) (hV : guV (bs.drop 1) = V) (hL : V ≤ 1048576) (K : Nat) (hK : guK (bs.drop 1) = K) (hcut : n < 1 + K + V + 4) : Calls Try.prog 27 #[.slice (some ⟨b, o, none⟩) n cap] w (RBad w 3) := by
  have hc0 := cell0 b o bs n hn hp w hat
  have HAT : Hid (BytesAt w (some ⟨b, o, none⟩) bs) := hat
  have HN : Hid (bs.length = n) := hn
  clear hat hn
  obtain ⟨k, hk⟩ : ∃ k : UInt8, bs.getD 0 0 = k := ⟨_, rfl⟩
  rw [hk] at hc0
  have hk0 := u8_eq0 k
  rw [decide_eq_false (fun h => hnz (hk.trans h))] at hk0
  have hs1 := sl1 b o cap n hp hcap
  have C31 := show Hid _ from getU b o cap bs n HN.out hcap w HAT.out
  have hKn := guK_le (bs.drop 1)
  rw [hK, List.length_drop, HN.out] at hKn
  simp only [hV, hK, hE] at C31
  clear hV hK hE hk hnz
  go_enter Try.func27, Try.ntmps27
  go_wp2_with (first
    | (go_at_call 31; refine (C31.out _ (after_alloc (After.refl w) _)).mono ?_; rintro e w1 ⟨rfl, hb1⟩; have B1 : Hid (After w w1) := After.trans (after_alloc (After.refl w) _) hb1; clear hb1)
    | (go_at_call 30; refine (give_no _ (by first | rfl | (simp; omega)) _ _).mono ?_; rintro e W ⟨rfl, hW⟩; have hW2 := hW.symm; clear hW; subst hW2)
    | (go_at_call 30; refine (give_yes _ (by first | rfl | (simp; omega)) _ _).mono ?_; rintro e W ⟨rfl, hW⟩; have hW2 := hW.symm; clear hW; subst hW2))
  exact ⟨rfl, rfl, B1.out⟩

end Go.Proofs.Ytjmjianilcdphaa
