/-
  THE WALK OF played: any calls, one behind the other.
-/
import Derived.Test.YtlbodickflljfaaFails
namespace Go.Proofs.Ytlbodickflljfaa
open Go.RowKit Go.Maps Dsk
/-- A call, as it came in. -/
structure Act5 where
  kind : UInt8
  name : Nm
  now : Nm
  pa : Option Addr
  pn : Nat
  pc : Nat
  data : List UInt8
  n : Int
  done : Bool
/-- Six cells that are an Act. -/
structure ActIs (W : World) (b o : Nat) (a : Act5) : Prop where
  c0 : W.cell? ⟨b, o, none⟩ = some (.int .u8 (a.kind.toNat : Int))
  c1 : W.cell? ⟨b, o + 1, none⟩ = some (.string (strOf a.name))
  c2 : W.cell? ⟨b, o + 2, none⟩ = some (.string (strOf a.now))
  c3 : W.cell? ⟨b, o + 3, none⟩ = some (.slice a.pa a.pn a.pc)
  c4 : W.cell? ⟨b, o + 4, none⟩ = some (.int .i64 a.n)
  c5 : W.cell? ⟨b, o + 5, none⟩ = some (.bool a.done)
  nl : a.name.length ≤ maxLen
  wl : a.now.length ≤ maxLen
  dl : a.data.length = a.pn
  pl : a.pn ≤ a.pc
  at_ : BytesAt W a.pa a.data
  nb : a.n < 9223372036854775808
  db : a.pc ≤ 140737488351232
theorem ActIs.after {W W' : World} {b o : Nat} {a : Act5} (h : ActIs W b o a) (ha : After W W') : ActIs W' b o a :=
  ⟨(Below.cell ha (p := ⟨b, o, none⟩) (block_lt_of_cell h.c0)).trans h.c0, (Below.cell ha (p := ⟨b, o + 1, none⟩) (block_lt_of_cell h.c1)).trans h.c1, (Below.cell ha (p := ⟨b, o + 2, none⟩) (block_lt_of_cell h.c2)).trans h.c2,
   (Below.cell ha (p := ⟨b, o + 3, none⟩) (block_lt_of_cell h.c3)).trans h.c3, (Below.cell ha (p := ⟨b, o + 4, none⟩) (block_lt_of_cell h.c4)).trans h.c4, (Below.cell ha (p := ⟨b, o + 5, none⟩) (block_lt_of_cell h.c5)).trans h.c5, h.nl, h.wl, h.dl, h.pl, h.at_.after ha, h.nb, h.db⟩
/-- Acts lie at a slice's head. -/
def ActsAt (W : World) (ao : Option Addr) (l : List Act5) : Prop := l ≠ [] → ∃ b o, ao = some ⟨b, o, none⟩ ∧ ∀ j a, l[j]? = some a → ActIs W b (o + j * 6) a
theorem ActsAt.after {W W' : World} {ao : Option Addr} {l : List Act5} (h : ActsAt W ao l) (ha : After W W') : ActsAt W' ao l := fun hne => by
  obtain ⟨b, o, e, hc⟩ := h hne
  exact ⟨b, o, e, fun j a hj => (hc j a hj).after ha⟩
/-- What a call makes of a disk. -/
def actS (S : Dk) (a : Act5) : Dk :=
  match a.kind.toNat % 9 with
  | 0 => createS S a.name
  | 1 => appendS S a.name a.data
  | 2 => appendS S a.name a.data
  | 3 => syncS S a.name
  | 4 => renameS S a.name a.now
  | 5 => removeS S a.name
  | 6 => failD S a.n a.done
  | 7 => startS S a.data
  | _ => cutS S a.name a.n
def playS (S : Dk) (l : List Act5) : Dk := l.foldl actS S
theorem stepS_most (S : Dk) (d : Bool) (fs : List (Nm × Fl)) : (stepS S d fs).most = S.most := by unfold stepS; split <;> rfl
theorem actS_most (S : Dk) (a : Act5) : (actS S a).most = S.most := by
  unfold actS createS appendS syncS renameS removeS failD startS cutS
  split <;> (repeat' split) <;> first | rfl | exact stepS_most _ _ _
theorem actS_steps (S : Dk) (a : Act5) : (actS S a).steps ≤ S.steps + 1 := by
  unfold actS
  split
  · exact create_steps _ _
  · exact append_steps _ _ _
  · exact append_steps _ _ _
  · exact sync_steps _ _
  · exact rename_steps _ _ _
  · exact remove_steps _ _
  · rw [fail_steps]; omega
  · simp [startS]
  · exact cut_steps _ _ _
theorem playS_most (l : List Act5) : ∀ S, (playS S l).most = S.most := by
  induction l with
  | nil => intro S; rfl
  | cons a l ih => intro S; rw [playS, List.foldl_cons, ← playS, ih, actS_most]
theorem size33 : (Try.prog.info? 33).map (·.size) = some 6 := by kernel_rfl
theorem act_new (w : World) (a : Act5) (f0 : Obj) (h : f0 = .cells #[.int .u8 (a.kind.toNat : Int), .string (strOf a.name), .string (strOf a.now), .slice a.pa a.pn a.pc, .int .i64 a.n, .bool a.done] 33) : (w.alloc f0).heap[w.heap.size]? = some f0 := by rw [h]; exact heap_alloc_new w _

set_option maxRecDepth 100000 in
set_option maxHeartbeats 3200000 in
theorem played_any (most : Int) (ao : Option Addr) (c : Nat) (l : List Act5) (hn : l.length ≤ 140737488355328) (w : World) (hat : ActsAt w ao l) :
    Calls Try.prog 21 #[.int .i64 most, .slice ao l.length c] w fun e w' => e = .returned (.pointer (some ⟨w.heap.size + 1, 0, none⟩)) ∧ Live w w'.heap.size (w.heap.size + 1) (playS (newS most) l) w' ∧ (playS (newS most) l).steps ≤ l.length := by
  have HAT : Hid (ActsAt w ao l) := hat
  obtain ⟨n, hl⟩ : ∃ n, l.length = n := ⟨_, rfl⟩
  have HN : Hid (l.length = n) := hl
  rw [hl] at hn ⊢
  clear hat hl
  go_enter Try.func21, Try.ntmps21
  go_wp2_with (go_at_call 11; refine (live_new most w).mono ?_; rintro e w1 ⟨rfl, h1⟩; have H1 := show Hid (Live _ _ _ _ _) from h1; clear h1)
  go_loopw [6] (fun i wr => ∃ (j L : Nat), j ≤ n ∧ i = .int .i64 j ∧ Hid (Live w L (w.heap.size + 1) (playS (newS most) (l.take j)) wr ∧ (playS (newS most) (l.take j)).steps ≤ j)) (fun i _ => n - (intOf i).toNat)
  case atStart => exact ⟨0, _, Nat.zero_le _, rfl, by rw [List.take_zero]; exact ⟨H1.out, Nat.le_refl _⟩⟩
  case round =>
    obtain ⟨j, L, hjn, rfl, HX⟩ := hrel
    by_cases hlt : j < n
    · obtain ⟨a, ha⟩ : ∃ a, l[j]? = some a := ⟨l[j]'(by rw [HN.out]; exact hlt), List.getElem?_eq_getElem _⟩
      obtain ⟨b, o, hao, hac⟩ := HAT.out (by intro h; have := HN.out; rw [h] at this; simp at this; omega)
      have hact := (hac j a ha).after HX.out.1.aft
      have HACT0 := show Hid (ActIs _ _ _ _) from hac j a ha
      have e0 := hact.c0
      have e1 := hact.c1
      have e2 := hact.c2
      have e3 := hact.c3
      have e4 := hact.c4
      have e5 := hact.c5
      obtain ⟨S, hS⟩ : ∃ S, playS (newS most) (l.take j) = S := ⟨_, rfl⟩
      have hnx : playS (newS most) (l.take (j + 1)) = actS S a := by
        rw [List.take_add_one, ha, ← hS]
        simp [playS, List.foldl_append]
      have HNX : Hid (playS (newS most) (l.take (j + 1)) = actS S a) := hnx
      rw [hS] at HX
      have hst : S.steps < 4611686018427387904 := by have := HX.out.2; omega
      have HST : Hid (S.steps ≤ j) := HX.out.2
      have HLV : Hid (Live w L (w.heap.size + 1) S wr) := HX.out.1
      subst hao
      obtain ⟨k, nm, nw, pa, pn, pc, da, N, dn⟩ := a
      simp only at e0 e1 e2 e3 e4 e5
      have hkl := k.toNat_lt
      have HPF : Hid (da ≠ [] → ∀ L a, pa = some a → a.block < w.heap.size ∨ L ≤ a.block) := fun hne L a ha => by
        obtain ⟨b, o, e1, hc⟩ := HACT0.out.at_ hne
        simp only at e1
        rw [e1] at ha
        cases ha
        exact Or.inl (block_lt_of_cell (hc 0 (by cases da with | nil => exact absurd rfl hne | cons _ _ => simp)))
      have hnl := HACT0.out.nl
      have hwl := HACT0.out.wl
      have hdl := HACT0.out.dl
      have hpl := HACT0.out.pl
      have hnb := HACT0.out.nb
      simp only at hnl hwl hdl hpl hnb
      have HFACT := show Hid _ from (⟨hnl, hwl, hdl, hpl, hnb⟩ : nm.length ≤ maxLen ∧ nw.length ≤ maxLen ∧ da.length = pn ∧ pn ≤ pc ∧ N < 9223372036854775808)
      have HDA := show Hid (BytesAt w pa da) from HACT0.out.at_
      have HLV2 : Hid (Live w L (w.heap.size + 1) S (wr.alloc (.cells #[.int .u8 (k.toNat : Int), .string (strOf nm), .string (strOf nw), .slice pa pn pc, .int .i64 N, .bool dn] 33))) := HLV.out.alloc _
      have HAF : Hid (After w (wr.alloc (.cells #[.int .u8 (k.toNat : Int), .string (strOf nm), .string (strOf nw), .slice pa pn pc, .int .i64 N, .bool dn] 33))) := HLV2.out.aft
      have FIN : Hid (∀ (w9 : World) (L9 : Nat), Live w L9 (w.heap.size + 1) (actS S ⟨k, nm, nw, pa, pn, pc, da, N, dn⟩) w9 → Live w L9 (w.heap.size + 1) (playS (newS most) (l.take (j + 1))) w9 ∧ (playS (newS most) (l.take (j + 1))).steps ≤ j + 1) := fun w9 L9 h9 => by
        rw [HNX.out]
        exact ⟨h9, by have := actS_steps S ⟨k, nm, nw, pa, pn, pc, da, N, dn⟩; have := HST.out; omega⟩
      obtain ⟨q, hq⟩ : ∃ q, k.toNat % 9 = q := ⟨_, rfl⟩
      have hq9 : q < 9 := by omega
      have hqi : (k.toNat : Int) % 9 = (q : Int) := by omega
      have HQ : Hid (k.toNat % 9 = q) := hq
      clear hact hac HX hnl hwl hdl hpl hnb hnx hS hq ha
      have hqs : q = 0 ∨ q = 1 ∨ q = 2 ∨ q = 3 ∨ q = 4 ∨ q = 5 ∨ q = 6 ∨ q = 7 ∨ q = 8 := by omega
      clear hq9
      rcases hqs with rfl | rfl | rfl | rfl | rfl | rfl | rfl | rfl | rfl
      · have C := show Hid _ from (live_create HLV2.out hst nm HFACT.out.1)
        go_wp2_with (go_at_call 23; refine Calls.mono C.out ?_; rintro e w9 ⟨rfl, h9⟩; have H9 := show Hid (Live _ _ _ _ _) from h9; clear h9)
        go_roundw
        case rel => exact ⟨j + 1, _, by omega, by go_num, FIN.out w9 _ (by unfold actS; simp only [HQ.out]; exact H9.out)⟩
        case measure => simp [intOf]; omega
      · have C := show Hid _ from (live_append HLV2.out hst nm HFACT.out.1 pa pn pc da HFACT.out.2.2.1 (HDA.out.after HAF.out) (fun hne a ha => HPF.out hne _ a ha))
        go_wp2_with (go_at_call 24; refine Calls.mono C.out ?_; rintro e w9 ⟨rfl, h9⟩; have H9 := show Hid (Live _ _ _ _ _) from h9; clear h9)
        go_roundw
        case rel => exact ⟨j + 1, _, by omega, by go_num, FIN.out w9 _ (by unfold actS; simp only [HQ.out]; exact H9.out)⟩
        case measure => simp [intOf]; omega
      · have C := show Hid _ from (live_append HLV2.out hst nm HFACT.out.1 pa pn pc da HFACT.out.2.2.1 (HDA.out.after HAF.out) (fun hne a ha => HPF.out hne _ a ha))
        go_wp2_with (go_at_call 24; refine Calls.mono C.out ?_; rintro e w9 ⟨rfl, h9⟩; have H9 := show Hid (Live _ _ _ _ _) from h9; clear h9)
        go_roundw
        case rel => exact ⟨j + 1, _, by omega, by go_num, FIN.out w9 _ (by unfold actS; simp only [HQ.out]; exact H9.out)⟩
        case measure => simp [intOf]; omega
      · have C := show Hid _ from (live_sync HLV2.out hst nm HFACT.out.1)
        go_wp2_with (go_at_call 27; refine Calls.mono C.out ?_; rintro e w9 ⟨rfl, h9⟩; have H9 := show Hid (Live _ _ _ _ _) from h9; clear h9)
        go_roundw
        case rel => exact ⟨j + 1, _, by omega, by go_num, FIN.out w9 _ (by unfold actS; simp only [HQ.out]; exact H9.out)⟩
        case measure => simp [intOf]; omega
      · have C := show Hid _ from (live_rename HLV2.out hst nm HFACT.out.1 nw HFACT.out.2.1)
        go_wp2_with (go_at_call 32; refine Calls.mono C.out ?_; rintro e w9 ⟨rfl, h9⟩; have H9 := show Hid (Live _ _ _ _ _) from h9; clear h9)
        go_roundw
        case rel => exact ⟨j + 1, _, by omega, by go_num, FIN.out w9 _ (by unfold actS; simp only [HQ.out]; exact H9.out)⟩
        case measure => simp [intOf]; omega
      · have C := show Hid _ from (live_remove HLV2.out hst nm HFACT.out.1)
        go_wp2_with (go_at_call 22; refine Calls.mono C.out ?_; rintro e w9 ⟨rfl, h9⟩; have H9 := show Hid (Live _ _ _ _ _) from h9; clear h9)
        go_roundw
        case rel => exact ⟨j + 1, _, by omega, by go_num, FIN.out w9 _ (by unfold actS; simp only [HQ.out]; exact H9.out)⟩
        case measure => simp [intOf]; omega
      · have C := show Hid _ from (live_fail HLV2.out N HFACT.out.2.2.2.2 dn)
        go_wp2_with (go_at_call 30; refine Calls.mono C.out ?_; rintro e w9 ⟨rfl, h9⟩; have H9 := show Hid (Live _ _ _ _ _) from h9; clear h9)
        go_roundw
        case rel => exact ⟨j + 1, _, by omega, by go_num, FIN.out w9 _ (by unfold actS; simp only [HQ.out]; exact H9.out)⟩
        case measure => simp [intOf]; omega
      · have C := show Hid _ from (live_start HLV2.out pa pn pc da HFACT.out.2.2.1 HFACT.out.2.2.2.1 (HDA.out.after HAF.out) (fun hne a ha => HPF.out hne _ a ha))
        go_wp2_with (go_at_call 19; refine Calls.mono C.out ?_; rintro e w9 ⟨rfl, h9⟩; have H9 := show Hid (Live _ _ _ _ _) from h9; clear h9)
        go_roundw
        case rel => exact ⟨j + 1, _, by omega, by go_num, FIN.out w9 _ (by unfold actS; simp only [HQ.out]; exact H9.out)⟩
        case measure => simp [intOf]; omega
      · have C := show Hid _ from (live_cut HLV2.out hst nm HFACT.out.1 N)
        go_wp2_with (go_at_call 33; refine Calls.mono C.out ?_; rintro e w9 ⟨rfl, h9⟩; have H9 := show Hid (Live _ _ _ _ _) from h9; clear h9)
        go_roundw
        case rel => exact ⟨j + 1, _, by omega, by go_num, FIN.out w9 _ (by unfold actS; simp only [HQ.out]; exact H9.out)⟩
        case measure => simp [intOf]; omega
    · obtain rfl : j = n := by omega
      have HE : Hid (Live w wr.heap.size (w.heap.size + 1) (playS (newS most) l) wr ∧ (playS (newS most) l).steps ≤ j) := by
        have := HX.out
        rw [List.take_of_length_le (by rw [HN.out]; exact Nat.le_refl _)] at this
        refine ⟨?_, this.2⟩
        obtain ⟨F, hd, hF⟩ := this.1.ex
        have hle := this.1.le
        exact ⟨this.1.ok, ⟨F, hd, fun i hi => ⟨(hF i hi).1, by have := (hF i hi).2; omega⟩⟩, Nat.le_refl _, this.1.aft⟩
      clear HX
      go_wp2
      go_ret
      exact ⟨rfl, HE.out.1, HE.out.2⟩
end Go.Proofs.Ytlbodickflljfaa
