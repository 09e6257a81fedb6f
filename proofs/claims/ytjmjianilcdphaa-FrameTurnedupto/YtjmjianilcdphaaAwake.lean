/-
  THE WALK OF awake.
-/
import Derived.Test.YtjmjianilcdphaaOpenWalk
import Derived.Test.YtjmjianilcdphaaBackPlain
import Derived.Lib.SlBytesConst
namespace Go.Proofs.Ytjmjianilcdphaa
open Go.RowKit Leb
theorem seven : (frameB 1 [97]).length = 7 := by rw [frameB_len]; simp [uint1]
theorem seal_a (a : Nat) (W : World) (hat : BytesAt W (some ⟨a, 0, none⟩) [97]) : Calls Try.prog 9 #[.int .u8 1, .slice (some ⟨a, 0, none⟩) 1 1] W fun e w' => ∃ v c, e = .returned (.tuple #[.slice v 7 c, .int .i64 0]) ∧ 7 ≤ c ∧ BytesAt w' v (frameB 1 [97]) ∧ After W w' := by
  refine (seal_any 1 (some ⟨a, 0, none⟩) 1 [97] (by simp) W hat).mono ?_
  rintro e w' ⟨v, rfl, ho, hb⟩
  obtain ⟨h1, h2⟩ := sealB_eq 1 [97] (by decide) (by simp)
  rw [h1] at ho
  rw [h2]
  obtain ⟨ao, cap, rfl, hat', hc, _⟩ := Own.at ho
  rw [seven] at hc ⊢
  exact ⟨ao, cap, rfl, hc, hat', hb⟩
theorem open_a (ao : Option Addr) (c : Nat) (hc : 7 ≤ c) (W : World) (hat : BytesAt W ao (frameB 1 [97])) : Calls Try.prog 14 #[.slice ao 7 c] W fun e w' => ∃ a c, e = .returned (.tuple #[.agg #[.int .u8 1, .slice a 1 c], .int .i64 7, .int .i64 0]) ∧ BytesAt w' a [97] ∧ After W w' := by
  have := open_any ao c (frameB 1 [97]) (by rw [seven]; exact hc) (by rw [seven]; omega) W hat
  rw [seven] at this
  refine this.mono ?_
  rintro e w' ⟨v, rfl, ho, hb⟩
  obtain ⟨h0, h1, h2, h3⟩ := open_back 1 [97] [] (by decide) (by simp)
  rw [List.append_nil] at h0 h1 h2 h3
  rw [h2] at ho
  obtain ⟨a, cap, rfl, hat', _, _⟩ := Own.at ho
  rw [h0, h1, h3, seven]
  exact ⟨a, cap, rfl, hat', hb⟩
theorem crc_a_any (a : Nat) (W : World) (hat : BytesAt W (some ⟨a, 0, none⟩) [97]) : Calls Try.prog 11 #[.slice (some ⟨a, 0, none⟩) 1 1] W fun e w' => e = .returned (.int .u32 3904355907) ∧ w' = W := by
  have := crc_any (some ⟨a, 0, none⟩) 1 [97] (by simp) W hat
  rwa [crc_a] at this
theorem one_a (w : World) : BytesAt (w.alloc (.cells #[.int .u8 97] 5 (1, 2))) (some ⟨w.heap.size, 0, none⟩) [97] := fun _ => ⟨w.heap.size, 0, rfl, fun j hj => by
  obtain rfl : j = 0 := by simpa using hj
  rw [cell_of_row _ _ _ _ _ _ (heap_alloc_new w _)]
  rfl⟩
theorem one_a2 (w : World) (o : Obj) : BytesAt ((w.alloc o).alloc (.cells #[.int .u8 97] 5 (1, 2))) (some ⟨w.heap.size + 1, 0, none⟩) [97] := by
  have h := one_a (w.alloc o)
  have e : (w.alloc o).heap.size = w.heap.size + 1 := by simp
  rwa [e] at h
theorem conv_a2 (w : World) (o : Obj) : (convert 22 22 (.slice (some ⟨w.heap.size + 1, 0, none⟩) 1 1)).run Try.prog ((w.alloc o).alloc (.cells #[.int .u8 97] 5)) = .ok (.slice (some ⟨w.heap.size + 1, 0, none⟩) 1 1) ((w.alloc o).alloc (.cells #[.int .u8 97] 5 (1, 2))) := by
  have h := Lib.run_convert_bytes_const (P := Try.prog) (w.alloc o) 22 5 #[.int .u8 97] 1 1 Try.underlying22 Try.underlying5
  have e : (w.alloc o).heap.size = w.heap.size + 1 := by simp
  rw [e] at h
  exact h
theorem str_a : strOf [97] = ⟨#[97]⟩ := rfl
set_option maxRecDepth 100000 in
set_option maxHeartbeats 800000 in
theorem awake_any (w : World) : Calls Try.prog 13 #[] w fun e w' => e = .returned (.bool true) ∧ Below w.heap.size w w' := by
  have kc := fun (w : World) (C : Array Value) (n c : Nat) => Lib.run_convert_bytes_const (P := Try.prog) w 22 5 C n c Try.underlying22 Try.underlying5
  go_enter Try.func13, Try.ntmps13
  go_wp2_with (first
    | (go_at_call 9; refine (seal_a w.heap.size _ (one_a w)).mono ?_; rintro e w1 ⟨a1, c1, rfl, hc1, hat1, hb1⟩; have HT1 : Hid (BytesAt w1 a1 (frameB 1 [97])) := hat1; have HC1 : Hid (7 ≤ c1) := hc1; have B1 : Hid (After w w1) := After.trans (after_alloc (After.refl w) _) hb1; clear hat1 hb1 hc1)
    | (go_at_call 14; refine (open_a a1 c1 HC1.out w1 HT1.out).mono ?_; rintro e w2 ⟨a2, c2, rfl, hat2, hb2⟩; have HT2 : Hid (BytesAt w2 a2 [97]) := hat2; have B2 : Hid (After w w2) := After.trans B1.out hb2; have hcv := fun W (hW : After w2 W) => conv_at c2 (hat2.after hW); simp only [List.length_cons, List.length_nil] at hcv; have HCV := show Hid _ from hcv; have hcv2 := hcv (w2.alloc (.cells #[.int .u8 1, .slice a2 1 c2] 33)) (after_alloc (After.refl w2) _); rw [str_a] at hcv2; have kc2 := conv_a2 w2 (.cells #[.int .u8 1, .slice a2 1 c2] 33); clear hcv hat2 hb2)
    | (go_at_call 11; refine (crc_a_any _ _ (one_a2 w2 _)).mono ?_; rintro e w3 ⟨rfl, hw3⟩; have hw4 := hw3.symm; clear hw3; subst hw4))
  go_ret
  exact ⟨rfl, after_alloc (after_alloc B2.out _) _⟩
end Go.Proofs.Ytjmjianilcdphaa
