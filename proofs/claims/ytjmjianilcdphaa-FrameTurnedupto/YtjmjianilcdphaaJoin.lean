/-
  THE WALK OF frame.joinWithSum.
-/
import Derived.Test.YtjmjianilcdphaaSum
namespace Go.Proofs.Ytjmjianilcdphaa
open Go.RowKit Leb
/-- Slices of bytes, one behind the other. -/
def PiecesAt (w : World) (g : Nat) (ps : List (List UInt8)) : Prop := ∀ j, j < ps.length → ∃ a c, w.cell? ⟨g, j, none⟩ = some (.slice a (ps.getD j []).length c) ∧ BytesAt w a (ps.getD j [])
theorem PiecesAt.after {w W : World} {g : Nat} {ps : List (List UInt8)} (h : PiecesAt w g ps) (hA : After w W) : PiecesAt W g ps := fun j hj => by
  obtain ⟨a, c, h1, h2⟩ := h j hj
  exact ⟨a, c, (Below.cell hA (p := ⟨g, j, none⟩) (block_lt_of_cell h1)).trans h1, h2.after hA⟩
theorem flatten_next (ps : List (List UInt8)) (k : Nat) (hk : k < ps.length) : (ps.take (k + 1)).flatten = (ps.take k).flatten ++ ps.getD k [] := by
  have e : ps.getD k [] = ps[k] := by simp [hk]
  rw [e, List.take_add_one, List.getElem?_eq_getElem hk, Option.toList_some, List.flatten_append, List.flatten_singleton]
theorem flatten_le (ps : List (List UInt8)) (k : Nat) : (ps.take k).flatten.length ≤ ps.flatten.length := by
  conv => rhs; rw [← List.take_append_drop k ps]
  rw [List.flatten_append, List.length_append]
  omega
theorem row_at {w : World} {g : Nat} {t : TypeId} {bs : List UInt8} (h : RowIs w g t (c8 bs)) : BytesAt w (some ⟨g, 0, none⟩) bs := fun _ => ⟨g, 0, rfl, fun j hj => by rw [Nat.zero_add]; exact h.cell (c8_get bs j hj)⟩
theorem four_at (w : World) (t : TypeId) (b0 b1 b2 b3 : UInt8) : BytesAt (w.alloc (.cells #[.int .u8 (b0.toNat : Int), .int .u8 (b1.toNat : Int), .int .u8 (b2.toNat : Int), .int .u8 (b3.toNat : Int)] t)) (some ⟨w.heap.size, 0, none⟩) [b0, b1, b2, b3] :=
  row_at (t := t) (RowIs.new w t (c8 [b0, b1, b2, b3]))
theorem one_at (w : World) (t : TypeId) (b : UInt8) : BytesAt (w.alloc (.cells #[.int .u8 (b.toNat : Int)] t)) (some ⟨w.heap.size, 0, none⟩) [b] :=
  row_at (t := t) (RowIs.new w t (c8 [b]))
def zerosN (m : Nat) : List UInt8 := List.replicate m 0
theorem makeN (m : Nat) (hm : m ≤ 2097156) (W : World) : (Instr.makeSlice 22 (.int .i64 0) (.int .i64 (m : Int))).run Try.prog W = .ok (.slice (some ⟨W.heap.size, 0, none⟩) 0 m) (W.alloc (.cells (c8 (zerosN m)).toArray 5)) := make_bytes W 0 m (by omega) (by omega)
theorem Own.madeN (w : World) (m : Nat) (hm : m ≤ 2097156) : Own (w.alloc (.cells (c8 (zerosN m)).toArray 5)) w.heap.size (.slice (some ⟨w.heap.size, 0, none⟩) 0 m) [] := Own.made w m (by unfold maxLen; omega)
set_option maxRecDepth 100000 in
set_option maxHeartbeats 800000 in
theorem join_any (g n c : Nat) (ps : List (List UInt8)) (hn : ps.length = n) (hn4 : n ≤ 1000) (hbig : ps.flatten.length ≤ 2097152) (w : World) (hat : PiecesAt w g ps) :
    Calls Try.prog 21 #[.slice (some ⟨g, 0, none⟩) n c] w fun e w' => ∃ v, e = .returned v ∧ Own w' w.heap.size v (ps.flatten ++ le4 (crc ps.flatten)) ∧ After w w' := by
  have HAT : Hid (PiecesAt w g ps) := hat
  have HN : Hid (ps.length = n) := hn
  have HBIG : Hid (ps.flatten.length ≤ 2097152) := hbig
  clear hat hn hbig
  go_enter Try.func21, Try.ntmps21
  go_wp2
  go_loop [3, 12] (fun s i => ∃ (k m : Nat), k ≤ n ∧ i = .int .i64 k ∧ s = .int .i64 m ∧ m ≤ 2097156 ∧ Hid (m = 4 + (ps.take k).flatten.length)) (fun _ i => n - (intOf i).toNat)
  case atStart => exact ⟨0, 4, by omega, rfl, rfl, by omega, rfl⟩
  case round =>
    obtain ⟨k, m, hk, rfl, rfl, hm, HM⟩ := hrel
    by_cases hlt : k < n
    · obtain ⟨a, c1, hc, hb⟩ := HAT.out k (by rw [HN.out]; exact hlt)
      have HT := flatten_next ps k (by rw [HN.out]; exact hlt)
      have HLE := flatten_le ps (k + 1)
      have h5 := HBIG.out
      have h6 := HM.out
      rw [HT, List.length_append] at HLE
      obtain ⟨q, hq⟩ : ∃ q, (ps.getD k []).length = q := ⟨_, rfl⟩
      rw [hq] at hc HLE
      have hmq : m + q ≤ 2097156 := by omega
      have HMQ : Hid (m + q = 4 + (ps.take (k + 1)).flatten.length) := by unfold Hid; rw [HT, List.length_append, hq]; omega
      clear hb HT HLE h5 h6 hq
      go_wp2
      go_round
      case rel => exact ⟨k + 1, m + q, by omega, by go_num, by go_num, by omega, HMQ.out⟩
      case measure => simp [intOf]; omega
    · have hmk := makeN m hm
      have HO0 : Hid (Own (w.alloc (.cells (c8 (zerosN m)).toArray 5)) w.heap.size (.slice (some ⟨w.heap.size, 0, none⟩) 0 m) []) := Own.madeN w m hm
      have HB0 : Hid (After w (w.alloc (.cells (c8 (zerosN m)).toArray 5))) := after_alloc (After.refl w) _
      go_wp2
      clear hmk
      go_loopw [6, 25] (fun v i wr => ∃ k : Nat, k ≤ n ∧ i = .int .i64 k ∧ Hid (Own wr w.heap.size v (ps.take k).flatten) ∧ Hid (After w wr)) (fun _ i _ => n - (intOf i).toNat)
      case atStart => exact ⟨0, by omega, rfl, HO0.out, HB0.out⟩
      case round =>
        clear HO0 HB0
        obtain ⟨j, hj, rfl, HO, HB⟩ := hrel
        by_cases hjl : j < n
        · obtain ⟨a, c1, hc, hb⟩ := HAT.out j (by rw [HN.out]; exact hjl)
          have HT : Hid ((ps.take (j + 1)).flatten = (ps.take j).flatten ++ ps.getD j []) := flatten_next ps j (by rw [HN.out]; exact hjl)
          have HLE : Hid ((ps.take (j + 1)).flatten.length ≤ 2097152) := Nat.le_trans (flatten_le ps (j + 1)) HBIG.out
          obtain ⟨Q, hQ⟩ : ∃ Q, ps.getD j [] = Q := ⟨_, rfl⟩
          obtain ⟨T, hT⟩ : ∃ T, (ps.take j).flatten = T := ⟨_, rfl⟩
          rw [hQ] at hc hb HT
          rw [hT] at HT HO
          rw [HT.out, List.length_append] at HLE
          obtain ⟨q, hq⟩ : ∃ q, Q.length = q := ⟨_, rfl⟩
          have HQ : Hid (Q.length = q) := hq
          rw [hq] at hc
          have hc' : wr.cell? ⟨g, j, none⟩ = some (.slice a q c1) := (Below.cell HB.out (p := ⟨g, j, none⟩) (block_lt_of_cell hc)).trans hc
          have HBQ : Hid (BytesAt wr a Q) := hb.after HB.out
          clear hb hc hq hQ hT
          go_wp2_with (at_builtin; refine wpList_append_any rfl _ _ rfl w.heap.size _ T rfl HO.out a c1 Q q HQ.out rfl HBQ.out (by have := HLE.out; omega) HB.out.size ?_; intro v3 w3 ho3 hg3; have HO3 : Hid (Own w3 w.heap.size v3 (T ++ Q)) := ho3; have HB3 : Hid (After w w3) := after_grown HB.out hg3 (Nat.le_refl _) (fun k hk => (World.ownsRow.lt HO.out k hk).1); clear ho3 hg3)
          go_roundw
          case rel => exact ⟨j + 1, by omega, by go_num, by unfold Hid; rw [HT.out]; exact HO3.out, HB3.out⟩
          case measure => simp [intOf]; omega
        · have hjn : j = n := by omega
          have HO1 := HO.out
          rw [hjn, ← HN.out, List.take_length] at HO1
          obtain ⟨T, hT⟩ : ∃ T, ps.flatten = T := ⟨_, rfl⟩
          rw [hT] at HO1
          have HTT : Hid (ps.flatten = T) := hT
          have HTL : Hid (T.length ≤ 2097152) := (by unfold Hid; rw [← hT]; exact HBIG.out)
          obtain ⟨a, c1, hv, hat, _, _⟩ := Own.at HO1
          have HO2 : Hid (Own wr w.heap.size _ T) := HO1
          have HAT2 : Hid (BytesAt wr a T) := hat
          obtain ⟨L, hL⟩ : ∃ L, T.length = L := ⟨_, rfl⟩
          have HLL : Hid (T.length = L) := hL
          rw [hL] at hv
          subst hv
          clear HO1 hat hT hL HO
          have C29 := sumOf_any a c1 T (by have := HTL.out; omega) wr HAT2.out
          rw [HLL.out] at C29
          obtain ⟨b0, b1, b2, b3, hle⟩ : ∃ b0 b1 b2 b3, le4 (crc T) = [b0, b1, b2, b3] := ⟨_, _, _, _, rfl⟩
          rw [hle] at C29
          have HLE : Hid (le4 (crc T) = [b0, b1, b2, b3]) := hle
          have HC29 := show Hid (Calls Try.prog 29 #[.slice a L c1] wr fun e w' => e = .returned (.agg #[.int .u8 (b0.toNat : Int), .int .u8 (b1.toNat : Int), .int .u8 (b2.toNat : Int), .int .u8 (b3.toNat : Int)]) ∧ After wr w') from C29
          clear C29 hle
          go_wp2_with (first
            | (go_at_call 29; refine Calls.mono HC29.out ?_; rintro e w4 ⟨rfl, hb4⟩; have HB4 : Hid (After wr w4) := hb4; clear hb4)
            | (at_builtin; refine wpList_append_any rfl _ _ rfl w.heap.size _ T rfl (Own.below HO2.out (after_alloc HB4.out _) (Nat.le_refl _)) (some ⟨w4.heap.size, 0, none⟩) 4 [b0, b1, b2, b3] 4 rfl rfl (four_at w4 69 b0 b1 b2 b3) (by have := HTL.out; simp; omega) (by have := HB.out.size; have := HB4.out.size; simp; omega) ?_; intro v5 w5 ho5 hg5; have HO5 : Hid (Own w5 w.heap.size v5 (T ++ [b0, b1, b2, b3])) := ho5; have HB5 : Hid (After w w5) := after_grown (after_alloc (After.trans HB.out HB4.out) _) hg5 (Nat.le_refl _) (fun k hk => (World.ownsRow.lt HO2.out k hk).1); clear ho5 hg5))
          go_ret
          exact ⟨_, rfl, by rw [HTT.out, HLE.out]; exact HO5.out, HB5.out⟩
end Go.Proofs.Ytjmjianilcdphaa
