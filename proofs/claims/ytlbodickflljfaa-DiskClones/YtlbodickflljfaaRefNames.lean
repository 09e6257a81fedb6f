/-
  THE WALKS OF stemmaref05.Named, (Disk).first; WHAT A ref.Disk IS.
-/
import Derived.Test.YtlbodickflljfaaSafe
namespace Go.Proofs.Ytlbodickflljfaa
open Go.RowKit Go.Maps Dsk
set_option maxHeartbeats 800000 in
theorem rNamed_one (s : ByteArray) (w : World) (hs : s.size ≤ maxLen) : Calls Try.prog 63 #[.string s] w fun e w' => e = .returned (.bool (named s.data.toList)) ∧ w' = w := by
  unfold maxLen at hs
  have hsz : s.data.toList.length = s.size := by simp
  have HNL : Hid (s.data.toList.length = s.size) := hsz
  clear hsz
  go_enter Try.func63, Try.ntmps63
  go_wp2
  go_loop [3] (fun i => ∃ k : Nat, k ≤ s.size ∧ i = .int .i64 k ∧ Hid ((s.data.toList.take k).all okByte = true)) (fun i => s.size - (intOf i).toNat)
  case atStart => exact ⟨0, Nat.zero_le _, rfl, by unfold Hid; simp⟩
  case round =>
    obtain ⟨k, hk, rfl, hall⟩ := hrel
    by_cases hlt : k < s.size
    · have hta := take_all s k hlt
      have HT : Hid ((s.data.toList.take (k + 1)).all okByte = ((s.data.toList.take k).all okByte && okByte s[k])) := hta
      have HBAD : Hid (okByte s[k] = false → named s.data.toList = false) := fun hb => by
        have h : ¬ s.data.toList.all okByte = true := fun h => by
          have := List.all_eq_true.1 h s[k] (by have : s[k] = s.data.toList[k]'(by simpa using hlt) := rfl; rw [this]; exact List.getElem_mem _)
          rw [hb] at this; cases this
        unfold named; simp only [Bool.and_eq_false_iff]; exact Or.inr (Bool.eq_false_iff.2 h)
      clear hta
      by_cases hb1 : (s[k].toNat : Int) < 33
      · go_wp2
        go_ret
        exact ⟨ret_bool (HBAD.out (by simp [okByte]; omega)).symm, rfl⟩
      · by_cases hb2 : (126 : Int) < (s[k].toNat : Int)
        · go_wp2
          go_ret
          exact ⟨ret_bool (HBAD.out (by simp [okByte]; omega)).symm, rfl⟩
        · go_wp2
          go_round
          case rel => exact ⟨k + 1, by omega, by go_num, by
            have h1 := HT.out
            rw [hall.out] at h1
            unfold Hid; rw [h1]; simp [okByte]; omega⟩
          case measure => simp [intOf]; omega
    · have HAL : Hid (s.data.toList.all okByte = true) := by
        have := hall.out
        rw [List.take_of_length_le (by simp; omega)] at this
        exact this
      by_cases h1 : 1 ≤ s.size
      · by_cases h2 : s.size ≤ 32
        · have HN : Hid (named s.data.toList = true) := by
            have := named_of (s := s.data.toList) (by rw [HNL.out]; exact h1) (by rw [HNL.out]; exact h2)
            unfold Hid; rw [this, HAL.out]
          go_wp2
          go_ret
          exact ⟨ret_bool (by rw [HN.out]; simp; omega), rfl⟩
        · have HN : Hid (named s.data.toList = false) := named_no (by rw [HNL.out]; omega)
          go_wp2
          go_ret
          exact ⟨ret_bool (by rw [HN.out]; simp; omega), rfl⟩
      · have HN : Hid (named s.data.toList = false) := named_no (by rw [HNL.out]; omega)
        go_wp2
        go_ret
        exact ⟨ret_bool HN.out.symm, rfl⟩
theorem rNamed_any (nm : Nm) (w : World) (hs : nm.length ≤ maxLen) : Calls Try.prog 63 #[.string (strOf nm)] w fun e w' => e = .returned (.bool (named nm)) ∧ w' = w := by
  have := rNamed_one (strOf nm) w (by rw [strOf_size]; exact hs)
  exact this
/-- A ref.File's three texts. -/
def f75 (p : Nm × Fl) : List Value := [.string (strOf p.1), .string (strOf (p.2.data.take p.2.safe)), .string (strOf (p.2.data.drop p.2.safe))]
/-- A row of files. -/
def T75 (w : World) (b : Nat) : Prop := ∃ cur m, w.heap[b]? = some (.cells cur 75 m)
theorem T75.after {w w' : World} {b : Nat} (h : T75 w b) (ha : After w w') : T75 w' b := by
  obtain ⟨cur, m, hb⟩ := h
  exact ⟨cur, m, by rw [ha.block b (by rcases Nat.lt_or_ge b w.heap.size with h | h; exact h; rw [Array.getElem?_eq_none h] at hb; cases hb)]; exact hb⟩
/-- The files lie at a slice's head. -/
def FilesAt (w : World) (ao : Option Addr) (l : List (Nm × Fl)) : Prop := l ≠ [] → ∃ b o, ao = some ⟨b, o, none⟩ ∧ T75 w b ∧ ∀ j p, l[j]? = some p → w.cell? ⟨b, o + j * 3, none⟩ = some (.string (strOf p.1)) ∧ w.cell? ⟨b, o + j * 3 + 1, none⟩ = some (.string (strOf (p.2.data.take p.2.safe))) ∧ w.cell? ⟨b, o + j * 3 + 2, none⟩ = some (.string (strOf (p.2.data.drop p.2.safe)))
theorem FilesAt.after {w w' : World} {ao : Option Addr} {l : List (Nm × Fl)} (h : FilesAt w ao l) (ha : After w w') : FilesAt w' ao l := fun hne => by
  obtain ⟨b, o, e, ht, hc⟩ := h hne
  exact ⟨b, o, e, ht.after ha, fun j p hj => ⟨cell_after ha (hc j p hj).1, cell_after ha (hc j p hj).2.1, cell_after ha (hc j p hj).2.2⟩⟩
/-- A ref.Disk as a value. -/
def rV (S : Dk) (ao : Option Addr) (n c : Nat) (armed : Bool) (left : Nat) (done : Bool) : Array Value := #[.int .i64 (S.most : Int), .slice ao n c, .int .i64 (S.steps : Int), .bool armed, .int .i64 (left : Int), .bool done, .bool S.down]
/-- v is a ref.Disk that says what S says. -/
structure RefAt (w : World) (v : Value) (S : Dk) : Prop where
  ex : ∃ ao c armed left done, v = .agg (rV S ao S.files.length c armed left done) ∧ FilesAt w ao S.files ∧ S.files.length ≤ c ∧ (S.down = false → armed = S.said ∧ left = S.left ∧ done = S.done) ∧ left < 9223372036854775808 ∧ (ao = none → c = 0)
theorem RefAt.after {w w' : World} {v : Value} {S : Dk} (h : RefAt w v S) (ha : After w w') : RefAt w' v S := by
  obtain ⟨ao, c, ar, lf, dn, h1, h2, h3⟩ := h.ex
  exact ⟨ao, c, ar, lf, dn, h1, h2.after ha, h3⟩
set_option maxHeartbeats 1600000 in
theorem rFirst_any (S : Dk) (fa : Option Addr) (fn fc : Nat) (ar : Bool) (lf : Nat) (dn : Bool) (ao : Option Addr) (cap : Nat) (ns : List Nm) (hn : ns.length ≤ 1000) (hne : ns ≠ []) (hs : ∀ s ∈ ns, s.length ≤ maxLen) (w : World) (hat : StrsAt w ao ns) :
    Calls Try.prog 44 #[.agg (rV S fa fn fc ar lf dn), .slice ao ns.length cap] w fun e w' => e = .returned (.int .i64 (refuse S ns : Int)) ∧ After w w' := by
  obtain ⟨b, o, rfl, hc⟩ := hat hne
  have HC := show Hid (∀ j, j < ns.length → w.cell? ⟨b, o + j, none⟩ = some (.string (strOf (ns.getD j [])))) from hc
  have HS : Hid (∀ s ∈ ns, s.length ≤ maxLen) := hs
  clear hc hat hs
  obtain ⟨n, hn'⟩ : ∃ n, ns.length = n := ⟨_, rfl⟩
  have HN : Hid (ns.length = n) := hn'
  rw [hn'] at hn HC ⊢
  obtain ⟨r, hr⟩ : ∃ r, refuse S ns = r := ⟨_, rfl⟩
  have HR : Hid (refuse S ns = r) := hr
  rw [hr]
  obtain ⟨down, hdown⟩ : ∃ d, S.down = d := ⟨_, rfl⟩
  have HD : Hid (S.down = down) := hdown
  unfold rV
  rw [hdown]
  clear hn' hr hdown
  go_enter Try.func44, Try.ntmps44
  go_wp2
  obtain ⟨w0, hw0⟩ : ∃ w0, w.alloc (.cells #[.int .i64 (S.most : Int), .slice fa fn fc, .int .i64 (S.steps : Int), .bool ar, .int .i64 (lf : Int), .bool dn, .bool down] 27) = w0 := ⟨_, rfl⟩
  rw [hw0]
  have HA0 : Hid (After w w0) := by rw [← hw0]; exact after_alloc (After.refl w) _
  have h6 : w0.cell? ⟨w.heap.size, 6, none⟩ = some (.bool down) := by rw [← hw0]; exact (RowIs.new w 27 [.int .i64 (S.most : Int), .slice fa fn fc, .int .i64 (S.steps : Int), .bool ar, .int .i64 (lf : Int), .bool dn, .bool down]).cell rfl
  clear hw0
  go_loop [5] (fun i => ∃ k : Nat, k ≤ n ∧ i = .int .i64 k ∧ Hid ((ns.take k).all named = true)) (fun i => n - (intOf i).toNat)
  case atStart => exact ⟨0, Nat.zero_le _, rfl, by unfold Hid; simp⟩
  case round =>
    obtain ⟨k, hk, rfl, hall⟩ := hrel
    by_cases hlt : k < n
    · have hck := cell_after HA0.out (HC.out k hlt)
      have HT : Hid ((ns.take (k + 1)).all named = ((ns.take k).all named && named (ns.getD k []))) := all_take ns k (by rw [HN.out]; exact hlt)
      obtain ⟨s, hsk⟩ : ∃ s, ns.getD k [] = s := ⟨_, rfl⟩
      have HSK : Hid (ns.getD k [] = s) := hsk
      have HM : Hid (s ∈ ns) := by rw [← hsk, List.getD_eq_getElem?_getD, List.getElem?_eq_getElem (by rw [HN.out]; exact hlt)]; simp [Hid]
      rw [hsk] at hck
      clear hsk
      cases hnm : named s with
      | false =>
        have HNM : Hid (named s = false) := hnm
        have HRR : Hid (r = 30) := by
          have : ns.all named = false := Bool.eq_false_iff.2 (fun h => by have := List.all_eq_true.1 h s HM.out; rw [hnm] at this; cases this)
          unfold Hid; rw [← HR.out]; unfold refuse; rw [this]; rfl
        clear hnm
        go_wp2_with (go_at_call 63; refine (rNamed_any s w0 (HS.out s HM.out)).mono ?_; rw [HNM.out]; rintro e w' ⟨rfl, hw'⟩; have hw2 := hw'.symm; clear hw'; subst hw2)
        go_ret
        exact ⟨by rw [HRR.out]; rfl, HA0.out⟩
      | true =>
        have HNM : Hid (named s = true) := hnm
        clear hnm
        go_wp2_with (go_at_call 63; refine (rNamed_any s w0 (HS.out s HM.out)).mono ?_; rw [HNM.out]; rintro e w' ⟨rfl, hw'⟩; have hw2 := hw'.symm; clear hw'; subst hw2)
        go_round
        case rel => exact ⟨k + 1, by omega, by go_num, by
          have h1 := HT.out
          rw [hall.out, HSK.out, HNM.out] at h1
          unfold Hid; rw [h1]; rfl⟩
        case measure => simp [intOf]; omega
    · have HAL : Hid (ns.all named = true) := by
        have := hall.out
        rw [List.take_of_length_le (by rw [HN.out]; omega)] at this
        exact this
      cases down with
      | true =>
        have HRR : Hid (r = 20) := by unfold Hid; rw [← HR.out]; unfold refuse; rw [HAL.out, HD.out]; rfl
        go_wp2
        go_ret
        exact ⟨by rw [HRR.out]; rfl, HA0.out⟩
      | false =>
        have HRR : Hid (r = 0) := by unfold Hid; rw [← HR.out]; unfold refuse; rw [HAL.out, HD.out]; rfl
        go_wp2
        go_ret
        exact ⟨by rw [HRR.out]; rfl, HA0.out⟩
end Go.Proofs.Ytlbodickflljfaa
