/-
  THE WALKS OF disk.isName, disk.allNames, (failure).isNow, (failure).nearer, staying.
-/
import Derived.Test.YtlbodickflljfaaDisk
namespace Go.Proofs.Ytlbodickflljfaa
open Go.RowKit Go.Maps Dsk
theorem ret_bool {a b : Bool} (h : a = b) : Ending.returned (.bool a) = .returned (.bool b) := by rw [h]
theorem take_all (s : ByteArray) (k : Nat) (h : k < s.size) : (s.data.toList.take (k + 1)).all okByte = ((s.data.toList.take k).all okByte && okByte s[k]) := by
  rw [List.take_succ_eq_append_getElem (by simpa using h), List.all_append]; simp; rfl
theorem named_of {s : Nm} (h1 : 1 ≤ s.length) (h2 : s.length ≤ 32) : named s = s.all okByte := by simp [named, h1, h2]
theorem named_no {s : Nm} (h : ¬ (1 ≤ s.length ∧ s.length ≤ 32)) : named s = false := by
  simp [named]; omega
set_option maxHeartbeats 800000 in
theorem isName_one (s : ByteArray) (w : World) (hs : s.size ≤ maxLen) : Calls Try.prog 71 #[.string s] w fun e w' => e = .returned (.bool (named s.data.toList)) ∧ w' = w := by
  unfold maxLen at hs
  have hsz : s.data.toList.length = s.size := by simp
  by_cases h1 : s.size < 1
  · have hn := named_no (s := s.data.toList) (by omega)
    have HN : Hid (named s.data.toList = false) := hn
    clear hn
    go_enter Try.func71, Try.ntmps71
    go_wp2
    go_ret
    exact ⟨ret_bool HN.out.symm, rfl⟩
  by_cases h2 : 32 < s.size
  · have hn := named_no (s := s.data.toList) (by omega)
    have HN : Hid (named s.data.toList = false) := hn
    clear hn
    go_enter Try.func71, Try.ntmps71
    go_wp2
    go_ret
    exact ⟨ret_bool HN.out.symm, rfl⟩
  have HN : Hid (named s.data.toList = s.data.toList.all okByte) := named_of (by omega) (by omega)
  clear hsz
  go_enter Try.func71, Try.ntmps71
  go_wp2
  go_loop [14] (fun i => ∃ k : Nat, k ≤ s.size ∧ i = .int .i64 k ∧ Hid ((s.data.toList.take k).all okByte = true)) (fun i => s.size - (intOf i).toNat)
  case atStart => exact ⟨0, Nat.zero_le _, rfl, by unfold Hid; simp⟩
  case round =>
    obtain ⟨k, hk, rfl, hall⟩ := hrel
    by_cases hlt : k < s.size
    · have hta := take_all s k hlt
      have HT : Hid ((s.data.toList.take (k + 1)).all okByte = ((s.data.toList.take k).all okByte && okByte s[k])) := hta
      clear hta
      by_cases hb1 : (s[k].toNat : Int) < 33
      · go_wp2
        go_ret
        refine ⟨ret_bool ?_, rfl⟩
        rw [HN.out]
        symm
        apply Bool.eq_false_iff.2
        intro h
        have := List.all_eq_true.1 h s[k] (by have : s[k] = s.data.toList[k]'(by simpa using hlt) := rfl; rw [this]; exact List.getElem_mem _)
        simp [okByte] at this
        omega
      · by_cases hb2 : (126 : Int) < (s[k].toNat : Int)
        · go_wp2
          go_ret
          refine ⟨ret_bool ?_, rfl⟩
          rw [HN.out]
          symm
          apply Bool.eq_false_iff.2
          intro h
          have := List.all_eq_true.1 h s[k] (by have : s[k] = s.data.toList[k]'(by simpa using hlt) := rfl; rw [this]; exact List.getElem_mem _)
          simp [okByte] at this
          omega
        · go_wp2
          go_round
          case rel => exact ⟨k + 1, by omega, by go_num, by
            have h1 := HT.out
            rw [hall.out] at h1
            unfold Hid; rw [h1]; simp [okByte]; omega⟩
          case measure => simp [intOf]; omega
    · go_wp2
      go_ret
      refine ⟨ret_bool ?_, rfl⟩
      rw [HN.out]
      have := hall.out
      rw [List.take_of_length_le (by simp; omega)] at this
      exact this.symm
theorem isName_any (nm : Nm) (w : World) (hs : nm.length ≤ maxLen) : Calls Try.prog 71 #[.string (strOf nm)] w fun e w' => e = .returned (.bool (named nm)) ∧ w' = w := by
  have := isName_one (strOf nm) w (by rw [strOf_size]; exact hs)
  exact this
/-- Texts lie at a slice's head. -/
def StrsAt (w : World) (ao : Option Addr) (ns : List Nm) : Prop := ns ≠ [] → ∃ b o, ao = some ⟨b, o, none⟩ ∧ ∀ j, j < ns.length → w.cell? ⟨b, o + j, none⟩ = some (.string (strOf (ns.getD j [])))
theorem all_take (ns : List Nm) (k : Nat) (h : k < ns.length) : (ns.take (k + 1)).all named = ((ns.take k).all named && named (ns.getD k [])) := by
  rw [List.take_succ_eq_append_getElem h, List.all_append]; simp [List.getD_eq_getElem?_getD, h]
set_option maxHeartbeats 800000 in
theorem allNames_any (ao : Option Addr) (cap : Nat) (ns : List Nm) (hn : ns.length ≤ 1000) (hs : ∀ s ∈ ns, s.length ≤ maxLen) (w : World) (hat : StrsAt w ao ns) :
    Calls Try.prog 67 #[.slice ao ns.length cap] w fun e w' => e = .returned (.bool (ns.all named)) ∧ w' = w := by
  by_cases hne : ns = []
  · subst hne
    have : (List.length ([] : List Nm)) = 0 := rfl
    rw [this]
    go_enter Try.func67, Try.ntmps67
    go_wp2
    go_loop [7] (fun i => i = .int .i64 0) (fun _ => 0)
    case atStart => rfl
    case round =>
      subst hrel
      go_wp2
      go_ret
      exact ⟨rfl, rfl⟩
  obtain ⟨b, o, rfl, hc⟩ := hat hne
  have HC := show Hid (∀ j, j < ns.length → w.cell? ⟨b, o + j, none⟩ = some (.string (strOf (ns.getD j [])))) from hc
  clear hc hat
  obtain ⟨n, hn'⟩ : ∃ n, ns.length = n := ⟨_, rfl⟩
  have HN : Hid (ns.length = n) := hn'
  rw [hn'] at hn HC ⊢
  clear hn'
  go_enter Try.func67, Try.ntmps67
  go_wp2
  go_loop [7] (fun i => ∃ k : Nat, k ≤ n ∧ i = .int .i64 k ∧ Hid ((ns.take k).all named = true)) (fun i => n - (intOf i).toNat)
  case atStart => exact ⟨0, Nat.zero_le _, rfl, by unfold Hid; simp⟩
  case round =>
    obtain ⟨k, hk, rfl, hall⟩ := hrel
    by_cases hlt : k < n
    · have hck := HC.out k hlt
      have HT : Hid ((ns.take (k + 1)).all named = ((ns.take k).all named && named (ns.getD k []))) := all_take ns k (by rw [HN.out]; exact hlt)
      obtain ⟨s, hsk⟩ : ∃ s, ns.getD k [] = s := ⟨_, rfl⟩
      have HSK : Hid (ns.getD k [] = s) := hsk
      have hmem : s ∈ ns := by rw [← hsk, List.getD_eq_getElem?_getD, List.getElem?_eq_getElem (by rw [HN.out]; exact hlt)]; simp
      have hlen := hs s hmem
      have HL : Hid (s.length ≤ maxLen) := hlen
      have HM : Hid (s ∈ ns) := hmem
      rw [hsk] at hck
      clear hsk hlen hmem hs
      cases hnm : named s with
      | false =>
        have HNM : Hid (named s = false) := hnm
        clear hnm
        go_wp2_with (go_at_call 71; refine (isName_any s w HL.out).mono ?_; rw [HNM.out]; rintro e w' ⟨rfl, rfl⟩)
        go_ret
        refine ⟨ret_bool ?_, rfl⟩
        symm
        apply Bool.eq_false_iff.2
        intro h
        have := List.all_eq_true.1 h s HM.out
        rw [HNM.out] at this; cases this
      | true =>
        have HNM : Hid (named s = true) := hnm
        clear hnm
        go_wp2_with (go_at_call 71; refine (isName_any s w HL.out).mono ?_; rw [HNM.out]; rintro e w' ⟨rfl, rfl⟩)
        go_round
        case rel => exact ⟨k + 1, by omega, by go_num, by
          have h1 := HT.out
          rw [hall.out, HSK.out, HNM.out] at h1
          unfold Hid; rw [h1]; rfl⟩
        case measure => simp [intOf]; omega
    · go_wp2
      go_ret
      refine ⟨ret_bool ?_, rfl⟩
      have := hall.out
      rw [List.take_of_length_le (by rw [HN.out]; omega)] at this
      exact this.symm
theorem StrsAt.one (w : World) (s : Nm) (t : TypeId) : StrsAt (w.alloc (.cells #[.string (strOf s)] t)) (some ⟨w.heap.size, 0, none⟩) [s] := fun _ => ⟨w.heap.size, 0, rfl, fun j hj => by
  obtain rfl : j = 0 := by simpa using hj
  rw [cell_of_row _ _ _ _ _ _ (heap_alloc_new w _)]
  rfl⟩
theorem StrsAt.two (w : World) (s r : Nm) (t : TypeId) : StrsAt (w.alloc (.cells #[.string (strOf s), .string (strOf r)] t)) (some ⟨w.heap.size, 0, none⟩) [s, r] := fun _ => ⟨w.heap.size, 0, rfl, fun j hj => by
  rw [cell_of_row _ _ _ _ _ _ (heap_alloc_new w _)]
  simp at hj
  have : j = 0 ∨ j = 1 := by omega
  rcases this with rfl | rfl <;> rfl⟩
theorem StrsAt.nil (w : World) : StrsAt w none [] := fun h => absurd rfl h
/-- The disk's own cells. -/
structure Cells68 (w : World) (sb : Nat) (S : Dk) (mb : Nat) : Prop where
  c0 : w.cell? ⟨sb, 0, none⟩ = some (.int .i64 (S.most : Int))
  c1 : w.cell? ⟨sb, 1, none⟩ = some (.map (some mb))
  c2 : w.cell? ⟨sb, 2, none⟩ = some (.int .i64 (S.steps : Int))
  c3 : w.cell? ⟨sb, 3, none⟩ = some (.bool S.down)
  c4 : w.cell? ⟨sb, 4, none⟩ = some (.bool S.said)
  c5 : w.cell? ⟨sb, 5, none⟩ = some (.int .i64 (S.left : Int))
  c6 : w.cell? ⟨sb, 6, none⟩ = some (.bool S.done)
  fz : ∀ j, w.frozen? ⟨sb, j, none⟩ = false
theorem RowIs.cells68 {w : World} {sb : Nat} {S : Dk} {mb : Nat} (h : RowIs w sb 68 (cells68 S mb)) : Cells68 w sb S mb :=
  ⟨h.cell rfl, h.cell rfl, h.cell rfl, h.cell rfl, h.cell rfl, h.cell rfl, h.cell rfl, fun j => h.frozen j⟩
set_option maxHeartbeats 400000 in
theorem refusal_nil (v : Value) (w : World) : Calls Try.prog 50 #[.pointer none, v] w fun e w' => e = .returned (.int .i64 1) ∧ w' = w := by
  go_enter Try.func50, Try.ntmps50
  go_wp2
  go_ret
  exact ⟨rfl, rfl⟩
theorem ret_int {k : IntKind} {a b : Int} (h : a = b) : Ending.returned (.int k a) = .returned (.int k b) := by rw [h]
set_option maxHeartbeats 400000 in
theorem refusal_any (sb : Nat) (S : Dk) (ao : Option Addr) (cap : Nat) (ns : List Nm) (hn : ns.length ≤ 1000) (hs : ∀ s ∈ ns, s.length ≤ maxLen) (w : World) (hat : StrsAt w ao ns) (hd : w.cell? ⟨sb, 3, none⟩ = some (.bool S.down)) :
    Calls Try.prog 50 #[.pointer (some ⟨sb, 0, none⟩), .slice ao ns.length cap] w fun e w' => e = .returned (.int .i64 (refuse S ns : Int)) ∧ w' = w := by
  have C := show Hid _ from allNames_any ao cap ns hn hs w hat
  clear hat hs hn
  obtain ⟨n, hn'⟩ : ∃ n, ns.length = n := ⟨_, rfl⟩
  rw [hn'] at C ⊢
  obtain ⟨r, hr⟩ : ∃ r, refuse S ns = r := ⟨_, rfl⟩
  rw [hr]
  unfold refuse at hr
  cases hnm : ns.all named with
  | false =>
    rw [hnm] at C hr
    go_enter Try.func50, Try.ntmps50
    go_wp2_with (go_at_call 67; refine Calls.mono C.out ?_; rintro e w' ⟨rfl, rfl⟩)
    go_ret
    exact ⟨ret_int (by rw [← hr]; rfl), rfl⟩
  | true =>
    rw [hnm] at C hr
    obtain ⟨dn, hdn⟩ : ∃ d, S.down = d := ⟨_, rfl⟩
    rw [hdn] at hd hr
    cases dn with
    | false =>
      go_enter Try.func50, Try.ntmps50
      go_wp2_with (go_at_call 67; refine Calls.mono C.out ?_; rintro e w' ⟨rfl, rfl⟩)
      go_ret
      exact ⟨ret_int (by rw [← hr]; rfl), rfl⟩
    | true =>
      go_enter Try.func50, Try.ntmps50
      go_wp2_with (go_at_call 67; refine Calls.mono C.out ?_; rintro e w' ⟨rfl, rfl⟩)
      go_ret
      exact ⟨ret_int (by rw [← hr]; rfl), rfl⟩
set_option maxHeartbeats 400000 in
theorem isNow_any (said done : Bool) (left : Nat) (w : World) : Calls Try.prog 65 #[.agg #[.bool said, .int .i64 (left : Int), .bool done]] w fun e w' => e = .returned (.bool (said && (left == 0))) ∧ After w w' := by
  cases said with
  | false =>
    go_enter Try.func65, Try.ntmps65
    go_wp2
    go_ret
    exact ⟨rfl, after_alloc (After.refl w) _⟩
  | true =>
    have hb : ((left : Int) == 0) = (left == 0) := by rw [Bool.eq_iff_iff]; simp
    go_enter Try.func65, Try.ntmps65
    go_wp2
    go_ret
    exact ⟨ret_bool (by simp), after_alloc (After.refl w) _⟩
set_option maxHeartbeats 400000 in
theorem nearer_any (said done : Bool) (left : Nat) (hl : left < 9223372036854775808) (h0 : said = true → 0 < left) (w : World) : Calls Try.prog 66 #[.agg #[.bool said, .int .i64 (left : Int), .bool done]] w fun e w' =>
    e = .returned (.agg #[.bool said, .int .i64 ((if said then left - 1 else left : Nat) : Int), .bool done]) ∧ After w w' := by
  cases said with
  | false =>
    go_enter Try.func66, Try.ntmps66
    go_wp2
    refine bodyPost_ret (v := .agg #[.bool false, .int .i64 (left : Int), .bool done]) (by simp [results, Try.results66, go_sem]) rfl ⟨rfl, ?_⟩
    exact after_alloc (after_alloc (After.refl w) _) _
  | true =>
    obtain ⟨m, rfl⟩ : ∃ m, left = m + 1 := ⟨left - 1, by have := h0 rfl; omega⟩
    go_enter Try.func66, Try.ntmps66
    go_wp2
    refine bodyPost_ret (v := .agg #[.bool true, .int .i64 (m : Int), .bool done]) (by simp [results, Try.results66, go_sem]) rfl ⟨rfl, ?_⟩
    exact after_alloc (after_alloc (After.refl w) _) _
set_option maxHeartbeats 400000 in
theorem staying_any (k : UInt8) (n : Nat) (hn : n ≤ 1000000) (w : World) : Calls Try.prog 64 #[.int .u8 (k.toNat : Int), .int .i64 (n : Int)] w fun e w' => e = .returned (.int .i64 (stay k n : Int)) ∧ w' = w := by
  have hk := k.toNat_lt
  unfold stay
  by_cases h : k = 255
  · subst h
    go_enter Try.func64, Try.ntmps64
    go_wp2
    go_ret
    exact ⟨rfl, rfl⟩
  · have h' : ¬ (k.toNat : Int) = 255 := fun e => h (by rw [← UInt8.toNat_inj]; simp; omega)
    rw [if_neg h]
    go_enter Try.func64, Try.ntmps64
    go_wp2
    go_ret
    exact ⟨ret_int (by simp), rfl⟩
end Go.Proofs.Ytlbodickflljfaa
