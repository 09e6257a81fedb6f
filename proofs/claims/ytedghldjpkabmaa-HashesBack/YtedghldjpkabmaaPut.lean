/-
  THE WALKS OF hashes.Put AND ref.Put.
-/
import Derived.Test.YtedghldjpkabmaaGet
namespace Go.Proofs.Ytedghldjpkabmaa
open Go.RowKit Leb
theorem slice24 (g o : Nat) (W : World) : (Instr.sliceAt 24 (.pointer (some ⟨g, o, none⟩)) none none none).run Try.prog W = .ok (.slice (some ⟨g, o, none⟩) 32 32) W := by
  obtain ⟨i, hi, hz⟩ := Option.map_eq_some_iff.1 bytes5
  simp [Instr.sliceAt, run_underlying Try.underlying24, Instr.sureAddr, Instr.sliceBounds, sizeOf, typeInfo, hi, Addr.add]
theorem x_sl24 {o : Oper} {a : Act} {x : Operand} {w : World} {g p : Nat} (hop : o.op = .slice 24 x none none none) (hx : a.eval x = .pointer (some ⟨g, p, none⟩)) : (execOp a.eval o).run Try.prog w = .ok (.value (.slice (some ⟨g, p, none⟩) 32 32)) w := by
  unfold execOp
  simp only [hop, hx, Option.map, Sem.run_bind, slice24 g p w, Result.andThen_ok]
  rfl
theorem bytes_row {w : World} {g : Nat} {h : Hs} (hr : w.heap[g]? = some (.cells (c8 h).toArray 24 (0, 0))) : BytesAt w (some ⟨g, 0, none⟩) h := fun _ => ⟨g, 0, rfl, fun j hj => by
  rw [Nat.zero_add]; exact (show RowIs w g 24 (c8 h) from hr).cell (c8_get h j hj)⟩
theorem bytes_range {w : World} {g o : Nat} {h : Hs} (hr : w.rangeAt g o (c8 h)) : BytesAt w (some ⟨g, o, none⟩) h := fun _ => ⟨g, o, rfl, fun j hj => hr j _ (c8_get h j hj)⟩
/-- The bytes of a list. -/
def putB (l : List Hs) (n i : Nat) : List UInt8 := uintB n ++ (l.take i).flatten
theorem putB_succ {l : List Hs} {n i : Nat} {h : Hs} (hi : l[i]? = some h) : putB l n i ++ h = putB l n (i + 1) := by
  unfold putB; rw [List.take_add_one, hi]; simp
theorem putB_len {l : List Hs} {n i : Nat} (h32 : All32 l) : (putB l n i).length ≤ (uintB n).length + i * 32 := by
  unfold putB
  rw [List.length_append, flat_len (fun x hx => h32 x (List.mem_of_mem_take hx)), List.length_take]
  have : min i l.length ≤ i := Nat.min_le_left _ _
  have := Nat.mul_le_mul_right 32 this
  omega
structure PtI (w : World) (l : List Hs) (n i : Nat) (v : Value) (wr : World) : Prop where
  own : Own wr w.heap.size v (putB l n i)
  aft : After w wr
set_option maxRecDepth 100000 in
set_option maxHeartbeats 3200000 in
theorem put_any (ao : Option Addr) (ca : Nat) (l : List Hs) (h32 : All32 l) (n : Nat) (hl : l.length = n) (hbig : n * 32 + 20 ≤ 140737488355328) (w : World) (hA : HsAt w ao l) :
    Calls Try.prog 26 #[.slice ao n ca] w fun e w' => ∃ v, e = .returned v ∧ Own w' w.heap.size v (putB l n n) ∧ After w w' := by
  have HFA : Hid (HsAt w ao l ∧ All32 l ∧ l.length = n) := ⟨hA, h32, hl⟩
  have HUL : Hid ((uintB n).length ≤ 10) := uintB_len10 n (by omega)
  have hC : Calls Try.prog 42 #[.int .u64 (n : Int)] w fun e w' => ∃ v, e = .returned v ∧ Own w' w.heap.size v (putB l n 0) ∧ After w w' := by
    have := LB.uint_any n (by omega) w
    unfold putB; rw [List.take_zero, List.flatten_nil, List.append_nil]; exact this
  have HC := show Hid _ from hC
  have hn64 : n < 9223372036854775808 := by omega
  clear hA h32 hl hC
  go_enter Try.func26, Try.ntmps26
  go_wp2_with (go_at_call 42; refine Calls.mono HC.out ?_; rintro e w1 ⟨v, rfl, ho1, ha1⟩; have HP0 := show Hid (PtI w l n 0 v w1) from ⟨ho1, ha1⟩; clear ho1 ha1)
  clear HC
  go_loopw [3, 12] (fun v iv wr => ∃ i : Nat, i ≤ n ∧ iv = .int .i64 (i : Int) ∧ Hid (PtI w l n i v wr)) (fun _ iv _ => n - (intOf iv).toNat)
  case atStart => exact ⟨0, Nat.zero_le _, rfl, HP0⟩
  case round =>
    obtain ⟨i, hin, rfl, HI⟩ := hrel
    obtain ⟨v, rfl⟩ : ∃ v, v = u3 := ⟨_, rfl⟩
    by_cases hlt : i < n
    · have hii : (i : Int) < (n : Int) := by omega
      obtain ⟨h, hh⟩ : ∃ h, l[i]? = some h := ⟨_, List.getElem?_eq_getElem (by rw [HFA.out.2.2]; exact hlt)⟩
      obtain ⟨xb, xo, hxa, hrg⟩ := HFA.out.1.get HFA.out.2.1 (by intro e; rw [e] at hh; simp at hh)
      subst hxa
      have HR : Hid (wr.rangeAt xb (xo + i * 32) (c8 h)) := range_after (hrg i h hh) HI.out.aft
      have H32 : Hid (h.length = 32) := HFA.out.2.1.at hh
      have HNX : Hid (putB l n i ++ h = putB l n (i + 1)) := putB_succ hh
      have HFS : Hid (∀ cs : Array Value, ((wr.alloc (.cells cs 24)).setRow wr.heap.size (c8 h).toArray).heap[wr.heap.size]? = some (.cells (c8 h).toArray 24 (0, 0)) ∧ After wr ((wr.alloc (.cells cs 24)).setRow wr.heap.size (c8 h).toArray) ∧ ((wr.alloc (.cells cs 24)).setRow wr.heap.size (c8 h).toArray).heap.size = wr.heap.size + 1) := fun cs => fresh_row wr h cs
      have HKB : Hid ((putB l n i).length + h.length ≤ 140737488355328) := by have h1 := putB_len (n := n) (i := i) HFA.out.2.1; have h2 := HUL.out; have h3 := H32.out; unfold Hid; omega
      clear hh hrg
      go_wp2_with (first
        | (refine wpList_load_mid rfl 24 (.tmp 14) rfl xb (xo + i * 32) rfl (c8 h) _ HR.out Try.underlying24 rfl (size24' H32.out) ?_)
        | (refine wpList_store_row rfl 24 (.tmp 5) (.tmp 15) rfl wr.heap.size (c8 h).toArray rfl rfl 24 _ (heap_alloc_new wr _) (size24a H32.out) (by simp [c8_len, H32.out]) (hs_one h) ?_)
        | (refine wpList_of_run rfl (x_sl24 (x := .tmp 5) (g := wr.heap.size) (p := 0) rfl rfl) ?_)
        | (at_builtin; refine wpList_append_any rfl _ _ rfl w.heap.size v (putB l n i) rfl (Own.below HI.out.own (HFS.out _).2.1 (Nat.le_refl _)) (some ⟨wr.heap.size, 0, none⟩) 32 h 32 H32.out rfl (bytes_row (HFS.out _).1) HKB.out (by rw [(HFS.out _).2.2]; have := HI.out.aft.size; omega) ?_
           intro v' w6 ho6 hg6
           rw [HNX.out] at ho6
           have HN2 := show Hid (PtI w l n (i + 1) v' w6) from ⟨ho6, after_grown (After.trans HI.out.aft (HFS.out _).2.1) hg6 (Nat.le_refl _) (fun j hj => (World.ownsRow.lt HI.out.own j hj).1)⟩
           clear ho6 hg6))
      go_roundw
      case rel => exact ⟨i + 1, by omega, by go_num, HN2⟩
      case measure => simp [intOf]; omega
    · have hii : ¬ (i : Int) < (n : Int) := by omega
      have hie : i = n := by omega
      have HE : Hid (PtI w l n n v wr) := by have := HI.out; rw [hie] at this; exact this
      clear hie HI
      go_wp2
      go_ret
      exact ⟨_, rfl, HE.out.own, HE.out.aft⟩
set_option maxRecDepth 100000 in
set_option maxHeartbeats 3200000 in
theorem rput_any (ao : Option Addr) (ca : Nat) (l : List Hs) (h32 : All32 l) (n : Nat) (hl : l.length = n) (hbig : n * 32 + 20 ≤ 140737488355328) (w : World) (hA : HsAt w ao l) :
    Calls Try.prog 27 #[.slice ao n ca] w fun e w' => ∃ v, e = .returned v ∧ Own w' w.heap.size v (putB l n n) ∧ After w w' := by
  have HFA : Hid (HsAt w ao l ∧ All32 l ∧ l.length = n) := ⟨hA, h32, hl⟩
  have HUL : Hid ((uintB n).length ≤ 10) := uintB_len10 n (by omega)
  have hC : Calls Try.prog 43 #[.int .u64 (n : Int)] w fun e w' => ∃ v, e = .returned v ∧ Own w' w.heap.size v (putB l n 0) ∧ After w w' := by
    have := LB.ruint_any n (by omega) w
    unfold putB; rw [List.take_zero, List.flatten_nil, List.append_nil]; exact this
  have HC := show Hid _ from hC
  have hn64 : n < 9223372036854775808 := by omega
  clear hA h32 hl hC
  go_enter Try.func27, Try.ntmps27
  go_wp2_with (go_at_call 43; refine Calls.mono HC.out ?_; rintro e w1 ⟨v, rfl, ho1, ha1⟩; have HP0 := show Hid (PtI w l n 0 v w1) from ⟨ho1, ha1⟩; clear ho1 ha1)
  clear HC
  go_loopw [3, 4] (fun v iv wr => ∃ i : Nat, i ≤ n ∧ iv = .int .i64 (i : Int) ∧ Hid (PtI w l n i v wr)) (fun _ iv _ => n - (intOf iv).toNat)
  case atStart => exact ⟨0, Nat.zero_le _, rfl, HP0⟩
  case round =>
    obtain ⟨i, hin, rfl, HI⟩ := hrel
    obtain ⟨v, rfl⟩ : ∃ v, v = u3 := ⟨_, rfl⟩
    by_cases hlt : i < n
    · have hii : (i : Int) < (n : Int) := by omega
      obtain ⟨h, hh⟩ : ∃ h, l[i]? = some h := ⟨_, List.getElem?_eq_getElem (by rw [HFA.out.2.2]; exact hlt)⟩
      obtain ⟨xb, xo, hxa, hrg⟩ := HFA.out.1.get HFA.out.2.1 (by intro e; rw [e] at hh; simp at hh)
      subst hxa
      have HR : Hid (wr.rangeAt xb (xo + i * 32) (c8 h)) := range_after (hrg i h hh) HI.out.aft
      have H32 : Hid (h.length = 32) := HFA.out.2.1.at hh
      have HNX : Hid (putB l n i ++ h = putB l n (i + 1)) := putB_succ hh
      have HKB : Hid ((putB l n i).length + h.length ≤ 140737488355328) := by have h1 := putB_len (n := n) (i := i) HFA.out.2.1; have h2 := HUL.out; have h3 := H32.out; unfold Hid; omega
      clear hh hrg
      go_wp2_with (first
        | (refine wpList_of_run rfl (x_sl24 (x := .tmp 18) (g := xb) (p := xo + i * 32) rfl rfl) ?_)
        | (at_builtin; refine wpList_append_any rfl _ _ rfl w.heap.size v (putB l n i) rfl HI.out.own (some ⟨xb, xo + i * 32, none⟩) 32 h 32 H32.out rfl (bytes_range HR.out) HKB.out HI.out.aft.size ?_
           intro v' w6 ho6 hg6
           rw [HNX.out] at ho6
           have HN2 := show Hid (PtI w l n (i + 1) v' w6) from ⟨ho6, after_grown HI.out.aft hg6 (Nat.le_refl _) (fun j hj => (World.ownsRow.lt HI.out.own j hj).1)⟩
           clear ho6 hg6))
      go_roundw
      case rel => exact ⟨i + 1, by omega, by go_num, HN2⟩
      case measure => simp [intOf]; omega
    · have hii : ¬ (i : Int) < (n : Int) := by omega
      have hie : i = n := by omega
      have HE : Hid (PtI w l n n v wr) := by have := HI.out; rw [hie] at this; exact this
      clear hie HI
      go_wp2
      go_ret
      exact ⟨_, rfl, HE.out.own, HE.out.aft⟩
end Go.Proofs.Ytedghldjpkabmaa
