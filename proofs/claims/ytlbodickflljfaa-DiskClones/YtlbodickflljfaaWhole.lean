/-
  THE WALK OF stemmalaw05.DiskWhole.
-/
import Derived.Test.YtlbodickflljfaaFull
namespace Go.Proofs.Ytlbodickflljfaa
open Go.RowKit Go.Maps Dsk
theorem surv_255 : ∀ (fuel i : Nat) (d : List UInt8) (k : Nat), i ≤ d.length → d.length - i ≤ fuel → d.length - i ≤ k → ∃ k', surv fuel i i d (List.replicate k 255) = (d.length, d, List.replicate k' 255) ∧ k ≤ k' + (d.length - i)
  | 0, i, d, k, h1, h2, h3 => by
    have e : i = d.length := by omega
    exact ⟨k, by subst e; simp [surv], by omega⟩
  | fuel + 1, i, d, k, h1, h2, h3 => by
    by_cases hi : i < d.length
    · obtain ⟨g1, g2⟩ := nextAt_gt hi
      obtain ⟨k0, rfl⟩ : ∃ k0, k = k0 + 1 := ⟨k - 1, by omega⟩
      obtain ⟨nx, hnx⟩ : ∃ nx, nextAt i d.length = nx := ⟨_, rfl⟩
      rw [hnx] at g1 g2
      have hs : stays (List.replicate (k0 + 1) 255) (nx - i) = nx - i := by simp [List.replicate_succ, stays, stay]
      rw [surv_step fuel i i d _ hi hnx hs, if_pos (by omega)]
      have e1 : cutLen i (nx - i) nx d = d := by
        unfold cutLen
        rw [show i + (nx - i) = nx by omega]; simp
      have e2 : (List.replicate (k0 + 1) (255 : UInt8)).drop 1 = List.replicate k0 255 := by simp [List.replicate_succ]
      rw [e1, e2, show i + (nx - i) = nx by omega]
      obtain ⟨k', h4, h5⟩ := surv_255 fuel nx d k0 g2 (by omega) (by omega)
      exact ⟨k', h4, by omega⟩
    · rw [surv_end _ _ _ _ _ hi]
      exact ⟨k, by rw [show i = d.length by omega], by omega⟩
theorem used_255 : ∀ (l : List (Nm × Fl)) (k : Nat), (∀ p ∈ l, p.2.safe ≤ p.2.data.length) → used l ≤ k → used (survAll l (List.replicate k 255)) = used l
  | [], _, _, _ => rfl
  | p :: r, k, hs, hu => by
    rw [used_cons] at hu
    have h1 := hs p (by simp)
    obtain ⟨k', h2, h3⟩ := surv_255 p.2.data.length p.2.safe p.2.data k h1 (by omega) (by omega)
    have e1 : survF p.2 (List.replicate k 255) = ⟨p.2.data, p.2.data.length⟩ := by unfold survF; simp only [h2]; simp
    have e2 : survK p.2 (List.replicate k 255) = List.replicate k' 255 := by unfold survK; rw [h2]
    simp only [survAll, e1, e2, used_cons]
    rw [used_255 r k' (fun q hq => hs q (by simp [hq])) (by omega)]
def zb (n : Nat) : Array Value := (c8 (List.replicate n 0)).toArray
theorem zb_size (n : Nat) : (zb n).size = n := by simp [zb, c8]
theorem make_zb (W : World) (n : Nat) (h : n ≤ 100000) : (Instr.makeSlice 31 (.int .i64 (n : Int)) (.int .i64 (n : Int))).run Try.prog W = .ok (.slice (some ⟨W.heap.size, 0, none⟩) n n) (W.alloc (.cells (zb n) 5)) := make_bytes W n n (Nat.le_refl _) (by omega)
/-- The row is full up to j. -/
structure FR (W : World) (kb n j : Nat) (wr : World) : Prop where
  row : RowIs wr kb 5 (c8 (List.replicate j 255 ++ List.replicate (n - j) 0))
  turn : Turn (fun i => i = kb) W wr
  sz : wr.heap.size = W.heap.size
theorem FR.step {W wr : World} {kb n j : Nat} (h : FR W kb n j wr) (hj : j < n) : FR W kb n (j + 1) (wr.setCell ⟨kb, j, none⟩ (.int .u8 255)) := by
  refine ⟨?_, h.turn.setCell (Or.inl rfl) _, by simp [h.sz]⟩
  have := h.row.set j (.int .u8 255)
  have e : (c8 (List.replicate j 255 ++ List.replicate (n - j) 0)).set j (.int .u8 255) = c8 (List.replicate (j + 1) 255 ++ List.replicate (n - (j + 1)) 0) := by
    obtain ⟨m, hm⟩ : ∃ m, n - j = m + 1 := ⟨n - j - 1, by omega⟩
    rw [hm, show n - (j + 1) = m by omega, List.replicate_succ, List.replicate_succ']
    simp [c8]
  rw [e] at this
  exact this
theorem FR.cell {W wr : World} {kb n j : Nat} (h : FR W kb n j wr) (hj : j < n) : wr.cell? ⟨kb, j, none⟩ = some (.int .u8 0) := by
  refine h.row.cell ?_
  obtain ⟨m, hm⟩ : ∃ m, n - j = m + 1 := ⟨n - j - 1, by omega⟩
  rw [hm, List.replicate_succ]
  simp [c8]
theorem FR.done {W wr : World} {kb n : Nat} (h : FR W kb n n wr) : BytesAt wr (some ⟨kb, 0, none⟩) (List.replicate n 255) := fun _ => ⟨kb, 0, rfl, fun j hj => by
  have := h.row.cell (j := j) (v := .int .u8 255) (by simp at hj; simp [c8, hj])
  rw [Nat.zero_add, this]
  simp at hj
  simp [List.getD_eq_getElem?_getD, hj]⟩
/-- Two disks that say the same. -/
structure Both (w : World) (sb sc : Nat) (T : Dk) (W : World) : Prop where
  ok : Ok T
  one : ∃ F, DiskAt W F sb T ∧ ∀ i, F i → i < W.heap.size
  two : ∃ F, DiskAt W F sc T ∧ ∀ i, F i → i < W.heap.size
  aft : After w W
theorem Both.after {w W W' : World} {sb sc : Nat} {T : Dk} (h : Both w sb sc T W) (ha : After W W') : Both w sb sc T W' := by
  obtain ⟨F, h1, h2⟩ := h.one
  obtain ⟨G, h3, h4⟩ := h.two
  have := ha.size
  exact ⟨h.ok, ⟨F, h1.after h2 ha, fun i hi => by have := h2 i hi; omega⟩, ⟨G, h3.after h4 ha, fun i hi => by have := h4 i hi; omega⟩, After.trans h.aft ha⟩
/-- The clone, and both given the power again. -/
theorem whole_twin {w W : World} {L sb : Nat} {S : Dk} (h : Live w L sb S W) : Calls Try.prog 18 #[.pointer (some ⟨sb, 0, none⟩)] W fun e W' => e = .returned (.pointer (some ⟨W.heap.size, 0, none⟩)) ∧ After W W' ∧ DiskAt W' (fun i => W.heap.size ≤ i ∧ i < W'.heap.size) W.heap.size S := by
  obtain ⟨F, hd, hF⟩ := h.ex
  exact twin_any F sb S h.ok W hd
/-- Behind the first Start: the second disk as it was. -/
structure Mid (w : World) (L sb sc : Nat) (S T : Dk) (kb : Nat) (keep : List UInt8) (W : World) : Prop where
  ok : Ok S
  okT : Ok T
  one : ∃ F, DiskAt W F sb T ∧ ∀ i, F i → w.heap.size ≤ i ∧ i < W.heap.size ∧ ¬ (sc ≤ i ∧ i < L)
  two : ∃ F, DiskAt W F sc S ∧ ∀ i, F i → sc ≤ i ∧ i < L
  keep : BytesAt W (some ⟨kb, 0, none⟩) keep
  kl : kb < sc
  wl : w.heap.size ≤ sc
  le : L ≤ W.heap.size
  aft : After w W
theorem whole_start1 {w W W' : World} {L sb : Nat} {S : Dk} {kb n : Nat} {keep : List UInt8} (h : Live w L sb S W) (hk : keep.length = n) (hne : keep ≠ []) (hka : BytesAt W (some ⟨kb, 0, none⟩) keep) (hkb : L ≤ kb) (ha : After W W')
    (hc : DiskAt W' (fun i => W.heap.size ≤ i ∧ i < W'.heap.size) W.heap.size S) : Calls Try.prog 19 #[.pointer (some ⟨sb, 0, none⟩), .slice (some ⟨kb, 0, none⟩) n n] W' fun e W2 => e = .returned (.tuple #[]) ∧ Mid w W'.heap.size sb W.heap.size S (startS S keep) kb keep W2 := by
  obtain ⟨F, hd, hF⟩ := h.ex
  have hs := ha.size
  have hle := h.le
  have hwa := h.aft.size
  have hkW : kb < W.heap.size := by
    obtain ⟨b, o, e, hcc⟩ := hka hne
    cases e
    exact block_lt_of_cell (hcc 0 (by cases keep with | nil => exact absurd rfl hne | cons _ _ => simp))
  have hFW : ∀ i, F i → i < W.heap.size := fun i hi => by have := hF i hi; omega
  refine (start_any F sb S h.ok (some ⟨kb, 0, none⟩) n n keep hk (Nat.le_refl _) W' (hd.after hFW ha) (fun i hi => by have := hFW i hi; omega) (hka.after ha) (fun _ a e1 e2 => by cases e1; have := hF _ e2; simp only at this; omega)).mono (fun e W2 ⟨h1, h2, h3⟩ => ⟨h1, ?_⟩)
  have hs2 := h2.size
  refine ⟨h.ok, h.ok.start keep, ⟨_, h3, fun i hi => ?_⟩, ⟨_, hc.turn (fun i hi => hi.2) h2 (fun i hi e2 => by have := hFW i e2; omega), fun i hi => hi⟩, fun hne => ?_, hkW, hwa, hs2, ?_⟩
  · rcases hi with hi | hi
    · have := hF i hi
      exact ⟨this.1, by omega, by omega⟩
    · exact ⟨by omega, hi.2, by omega⟩
  · obtain ⟨b, o, e, hcc⟩ := (hka.after ha) hne
    cases e
    exact ⟨kb, 0, rfl, fun j hj => h2.cell (p := ⟨kb, 0 + j, none⟩) (fun e2 => by have := hF _ e2; simp only at this; omega) (hcc j hj)⟩
  · exact Below.trans (After.trans h.aft ha) (Turn.below h2 (by omega) (fun i hi => (hF i hi).1))
theorem whole_start2 {w W : World} {L sb sc : Nat} {S : Dk} {kb n : Nat} {keep : List UInt8} (h : Mid w L sb sc S (startS S keep) kb keep W) (hk : keep.length = n) : Calls Try.prog 19 #[.pointer (some ⟨sc, 0, none⟩), .slice (some ⟨kb, 0, none⟩) n n] W fun e W2 => e = .returned (.tuple #[]) ∧ Both w sb sc (startS S keep) W2 := by
  obtain ⟨F, hd, hF⟩ := h.one
  obtain ⟨G, hg, hG⟩ := h.two
  have hkl := h.kl
  have hle := h.le
  refine (start_any G sc S h.ok (some ⟨kb, 0, none⟩) n n keep hk (Nat.le_refl _) W hg (fun i hi => by have := hG i hi; omega) h.keep (fun _ a e1 e2 => by cases e1; have := hG _ e2; simp only at this; omega)).mono (fun e W2 ⟨h1, h2, h3⟩ => ⟨h1, h.okT, ⟨F, hd.turn (fun i hi => (hF i hi).2.1) h2 (fun i hi e2 => (hF i hi).2.2 (hG i e2)), fun i hi => by have := hF i hi; have := h2.size; omega⟩, ⟨_, h3, more_lt (fun i hi => by have := hG i hi; omega) h2.size⟩, ?_⟩)
  have hwl := h.wl
  exact Below.trans h.aft (Turn.below h2 h.aft.size (fun i hi => by have := hG i hi; omega))
theorem both_list {w W : World} {sb sc : Nat} {T : Dk} (h : Both w sb sc T W) : Calls Try.prog 25 #[.pointer (some ⟨sb, 0, none⟩)] W fun e W' => ∃ v, e = .returned v ∧ OwnS W' W.heap.size v (T.files.map (·.1)) ∧ After W W' := by
  obtain ⟨F, hd, _⟩ := h.one
  exact list_any F sb T h.ok W hd
theorem both_used {w W : World} {sb sc : Nat} {T : Dk} (h : Both w sb sc T W) : Calls Try.prog 26 #[.pointer (some ⟨sb, 0, none⟩)] W fun e W' => e = .returned (.int .i64 (used T.files : Int)) ∧ After W W' := by
  obtain ⟨F, hd, _⟩ := h.one
  exact used_any F sb T h.ok W hd
theorem both_down {w W : World} {sb sc : Nat} {T : Dk} (h : Both w sb sc T W) : Calls Try.prog 29 #[.pointer (some ⟨sb, 0, none⟩)] W fun e W' => e = .returned (.bool T.down) ∧ W' = W := by
  obtain ⟨F, hd, _⟩ := h.one
  exact down_any F sb T W hd
theorem both_read1 {w W : World} {sb sc : Nat} {T : Dk} (h : Both w sb sc T W) (nm : Nm) (hl : nm.length ≤ maxLen) : Calls Try.prog 16 #[.pointer (some ⟨sb, 0, none⟩), .string (strOf nm)] W (RPost W (findE T nm) (readB T nm)) := by
  obtain ⟨F, hd, _⟩ := h.one
  exact read_any F sb T h.ok nm hl W hd
theorem both_read2 {w W : World} {sb sc : Nat} {T : Dk} (h : Both w sb sc T W) (nm : Nm) (hl : nm.length ≤ maxLen) : Calls Try.prog 16 #[.pointer (some ⟨sc, 0, none⟩), .string (strOf nm)] W (RPost W (findE T nm) (readB T nm)) := by
  obtain ⟨F, hd, _⟩ := h.two
  exact read_any F sc T h.ok nm hl W hd
/-- THE WALK -/
theorem Live.fr {w W wr : World} {L sb : Nat} {S : Dk} {kb n j : Nat} (h : Live w L sb S W) (hk : L ≤ kb) (hw : w.heap.size ≤ kb) (hf : FR W kb n j wr) : Live w L sb S wr := by
  obtain ⟨F, hd, hF⟩ := h.ex
  have hle := h.le
  exact ⟨h.ok, ⟨F, hd.turn (fun i hi => by have := hF i hi; omega) hf.turn (fun i hi e => by have := hF i hi; omega), hF⟩, by have := hf.sz; omega, Below.trans h.aft (Turn.below hf.turn h.aft.size (fun i hi => by omega))⟩
theorem used_take (l : List (Nm × Fl)) (j : Nat) (p : Nm × Fl) (h : l[j]? = some p) : used (l.take (j + 1)) = used (l.take j) + p.2.data.length := by
  rw [List.take_add_one, h]
  simp [used]
theorem read_file {T : Dk} (h : Ok T) (hd : T.down = false) {nm : Nm} {f : Fl} (hm : (nm, f) ∈ T.files) : findE T nm = 0 ∧ readB T nm = f.data := by
  have hg := rising_get h.ris hm
  have hh : fhas nm T.files = true := by
    cases e : fhas nm T.files with
    | true => rfl
    | false => rw [fget_none.2 e] at hg; cases hg
  have hf := stay_find h hd hh
  exact ⟨hf, by unfold readB; rw [if_pos hf, hg]⟩
theorem sum_i {a b c : Nat} (h : a + b = c) : (a : Int) + (b : Int) = (c : Int) := by omega
theorem cell_after {w w' : World} {p : Addr} {v : Value} (h : After w w') (hc : w.cell? p = some v) : w'.cell? p = some v := by
  rw [Below.cell h (block_lt_of_cell hc)]; exact hc
theorem used_take_le (l : List (Nm × Fl)) (j : Nat) : used (l.take j) ≤ used l := by
  have := congrArg used (List.take_append_drop j l)
  simp only [used, List.map_append, List.sum_append] at this ⊢
  omega
set_option maxRecDepth 100000 in
set_option maxHeartbeats 3200000 in
theorem whole_any (ao : Option Addr) (c : Nat) (l : List Act5) (hn : l.length ≤ 140737488355328) (w : World) (hat : ActsAt w ao l) :
    Calls Try.prog 7 #[.slice ao l.length c] w fun e w' => e = .returned (.bool true) ∧ Below w.heap.size w w' := by
  have C21 := show Hid _ from played_any 2000 ao c l hn w hat
  have hmost : (playS (newS 2000) l).most = 2000 := by rw [playS_most]; rfl
  obtain ⟨S, hS⟩ : ∃ S, playS (newS 2000) l = S := ⟨_, rfl⟩
  rw [hS] at C21 hmost
  obtain ⟨n, hln⟩ : ∃ n, l.length = n := ⟨_, rfl⟩
  rw [hln] at C21 hn ⊢
  obtain ⟨u, hu⟩ : ∃ u, used S.files = u := ⟨_, rfl⟩
  obtain ⟨k1, hk1⟩ : ∃ k1, u + 1 = k1 := ⟨_, rfl⟩
  have hki : (u : Int) + 1 = (k1 : Int) := by omega
  have HU : Hid (used S.files = u) := hu
  have HK1 : Hid (u + 1 = k1) := hk1
  have HM : Hid (S.most = 2000) := hmost
  obtain ⟨K, hK⟩ : ∃ K : List UInt8, List.replicate k1 255 = K := ⟨_, rfl⟩
  have HK : Hid (List.replicate k1 255 = K) := hK
  have HKL : Hid (K.length = k1) := by rw [← hK]; exact List.length_replicate
  obtain ⟨T, hT⟩ : ∃ T, startS S K = T := ⟨_, rfl⟩
  have HT : Hid (startS S K = T) := hT
  have HTD : Hid (T.down = false) := by rw [← hT]; rfl
  have HTU : Hid (Ok S → used T.files = u) := fun ok => by
    rw [← HT.out, ← HK.out]
    show used (survAll S.files (List.replicate k1 255)) = u
    rw [used_255 S.files k1 ok.safe (by have := HU.out; have := HK1.out; omega), HU.out]
  obtain ⟨N, hN⟩ : ∃ N, (T.files.map (·.1)).length = N := ⟨_, rfl⟩
  have HN : Hid ((T.files.map (·.1)).length = N) := hN
  clear hat hln hS hu hk1 hmost hK hT hN
  have tok : True := trivial
  have tok19 : True := trivial
  have tok16 : True := trivial
  go_enter Try.func7, Try.ntmps7
  go_wp2_with (first
    | (go_at_call 21; refine Calls.mono C21.out ?_; rintro e w1 ⟨rfl, h1, hs1⟩; have hk2 : k1 ≤ 100000 := (by have := h1.ok.used; rw [HU.out, HM.out] at this; have := HK1.out; omega); have MK : ∀ W : World, (Instr.makeSlice 31 (.int .i64 (k1 : Int)) (.int .i64 (k1 : Int))).run Try.prog W = .ok (.slice (some ⟨W.heap.size, 0, none⟩) k1 k1) (W.alloc (.cells (zb k1) 5)) := (fun W => make_zb W k1 hk2); have H1 := show Hid (Live _ _ _ _ _) from h1; clear h1 hs1)
    | (go_at_call 26; refine (live_used H1.out).mono ?_; rw [HU.out]; rintro e w2 ⟨rfl, h2⟩; have H2 := show Hid (Live _ _ _ _ _) from H1.out.after h2; clear h2))
  obtain ⟨kb, hkb⟩ : ∃ kb, w2.heap.size = kb := ⟨_, rfl⟩
  obtain ⟨W3, hW3⟩ : ∃ W3, w2.alloc (.cells (zb k1) 5) = W3 := ⟨_, rfl⟩
  have H3 : Hid (Live w w1.heap.size (w.heap.size + 1) S W3) := by rw [← hW3]; exact H2.out.alloc _
  have HLK : Hid (w1.heap.size ≤ kb ∧ w.heap.size ≤ kb) := by rw [← hkb]; exact ⟨H2.out.le, H2.out.aft.size⟩
  have HF0 : Hid (FR W3 kb k1 0 W3) := by
    refine ⟨?_, Turn.refl _ _, rfl⟩
    rw [← hW3, ← hkb]
    simp only [List.replicate_zero, List.nil_append, Nat.sub_zero]
    exact RowIs.new w2 5 (c8 (List.replicate k1 0))
  rw [hkb, hW3]
  clear hkb hW3 H1 H2 MK
  go_loopw [5] (fun i wr => ∃ j : Nat, j ≤ k1 ∧ i = .int .i64 j ∧ Hid (FR W3 kb k1 j wr)) (fun i _ => k1 - (intOf i).toNat)
  case atStart => exact ⟨0, Nat.zero_le _, rfl, HF0⟩
  case round =>
    obtain ⟨j, hjn, rfl, HX⟩ := hrel
    by_cases hlt : j < k1
    · have hc := HX.out.cell hlt
      have hfz := HX.out.row.frozen j
      have hji : (j : Int) < (k1 : Int) := by omega
      go_wp2
      go_roundw
      case rel => exact ⟨j + 1, by omega, by go_num, HX.out.step hlt⟩
      case measure => simp [intOf]; omega
    · obtain rfl : j = k1 := by omega
      have HKA : Hid (BytesAt wr (some ⟨kb, 0, none⟩) K) := by rw [← HK.out]; exact HX.out.done
      have H4 : Hid (Live w w1.heap.size (w.heap.size + 1) S wr) := H3.out.fr HLK.out.1 HLK.out.2 HX.out
      clear HF0 H3 HX hjn
      go_wp2_with (first
        | (go_at_call 18; refine (whole_twin H4.out).mono ?_; rintro e w5 ⟨rfl, ha5, h5⟩; have H5 := show Hid (After wr w5 ∧ DiskAt _ _ _ _) from ⟨ha5, h5⟩; clear ha5 h5)
        | (go_at_call 19; have _t := tok19; refine (whole_start1 H4.out HKL.out (by intro h; have := HKL.out; rw [h] at this; have := HK1.out; simp at *; omega) HKA.out HLK.out.1 H5.out.1 H5.out.2).mono ?_; rw [HT.out]; rintro e w6 ⟨rfl, h6⟩; have H6 := show Hid (Mid _ _ _ _ _ _ _ _ _) from h6; clear h6 tok19)
        | (go_at_call 19; refine (whole_start2 (by have := H6.out; rw [← HT.out] at this; exact this) HKL.out).mono ?_; rw [HT.out]; rintro e w7 ⟨rfl, h7⟩; have H7 := show Hid (Both _ _ _ _ _) from h7; clear h7)
        | (go_at_call 25; refine (both_list H7.out).mono ?_; rintro e w8 ⟨v, rfl, hv, h8⟩; obtain ⟨na, nc, hv2, hat, _⟩ := hv.at; rw [HN.out] at hv2; subst hv2; have HNA : Hid (StrsAt w8 na (T.files.map (·.1))) := hat; have H8 := show Hid (Both _ _ _ _ _) from H7.out.after h8; clear hv hat h8))
      have HOK : Hid (Ok S) := H4.out.ok
      obtain ⟨sc, hsc⟩ : ∃ sc, wr.heap.size = sc := ⟨_, rfl⟩
      rw [hsc] at H8 ⊢
      clear H4 H5 H6 H7 HKA HLK hsc
      go_loopw [7, 9] (fun m i wr => ∃ j q : Nat, j ≤ N ∧ m = .int .i64 q ∧ i = .int .i64 j ∧ Hid (used (T.files.take j) = q) ∧ Hid (After w8 wr)) (fun _ i _ => N - (intOf i).toNat)
      case atStart => exact ⟨0, 0, Nat.zero_le _, rfl, rfl, rfl, After.refl _⟩
      case round =>
        obtain ⟨i, q, hiN, rfl, rfl, HQ, HA⟩ := hrel
        have H9 := show Hid (Both _ _ _ _ _) from H8.out.after HA.out
        have hNl : T.files.length = N := by have := HN.out; simpa using this
        have hN64 : N ≤ 64 := by rw [← hNl]; exact H8.out.ok.count
        have hqb : q ≤ u := by rw [← HQ.out, ← HTU.out HOK.out]; exact used_take_le _ _
        by_cases hlt2 : i < N
        · obtain ⟨p, hp⟩ : ∃ p, T.files[i]? = some p := ⟨_, List.getElem?_eq_getElem (by omega)⟩
          obtain ⟨nm, f⟩ := p
          have hmem := List.mem_of_getElem? hp
          obtain ⟨hf0, hrd⟩ := read_file H8.out.ok HTD.out hmem
          have hnml : nm.length ≤ maxLen := by have := (named_len (H8.out.ok.named (nm, f) hmem)).2; simp only at this; unfold maxLen; omega
          have hnext := used_take T.files i (nm, f) hp
          obtain ⟨bs, hbs⟩ : ∃ bs, f.data = bs := ⟨_, rfl⟩
          obtain ⟨bn, hbn⟩ : ∃ bn, bs.length = bn := ⟨_, rfl⟩
          have HBN : Hid (bs.length = bn) := hbn
          obtain ⟨q2, hq2⟩ : ∃ q2, q + bn = q2 := ⟨_, rfl⟩
          have HQ2 : Hid (used (T.files.take (i + 1)) = q2) := by show used (T.files.take (i + 1)) = q2; rw [hnext, HQ.out]; simp only; rw [hbs, hbn, hq2]
          have hq3 : q2 ≤ u := by rw [← HQ2.out, ← HTU.out HOK.out]; exact used_take_le _ _
          have hq4 := sum_i hq2
          rw [hbs] at hrd
          have R1 := show Hid _ from (both_read1 H9.out nm hnml)
          have R2 := show Hid (∀ W', After wr W' → Calls Try.prog 16 #[.pointer (some ⟨sc, 0, none⟩), .string (strOf nm)] W' (RPost W' 0 bs)) from fun W' h => by
            have := both_read2 (H9.out.after h) nm hnml
            rw [hf0, hrd] at this; exact this
          rw [hf0, hrd] at R1
          obtain ⟨nb, no, hna, hcs⟩ := HNA.out (by intro h; have := HN.out; rw [h] at this; simp at this; omega)
          have hcn := hcs i (by rw [HN.out]; exact hlt2)
          rw [List.getD_eq_getElem?_getD, List.getElem?_map, hp] at hcn
          simp only [Option.map_some, Option.getD_some] at hcn
          have hcr := cell_after HA.out hcn
          have hii : (i : Int) < (N : Int) := by omega
          clear hcs hcn hp hmem hf0 hrd hnext hbs hbn hq2 hNl H9
          subst hna
          go_wp2_with (first
            | (go_at_call 16; have _t := tok16; refine Calls.mono R1.out ?_; rintro e w10 ⟨a10, c10, rfl, ho10, h10⟩; obtain ⟨ao2, cap2, e2, hb10, _⟩ := ho10.at; have e3 : a10 = ao2 := (by injection e2); subst e3; rw [HBN.out]; have HB10 : Hid (BytesAt w10 a10 bs) := hb10; have H10 : Hid (After wr w10) := h10; have hcr2 := cell_after h10 hcr; clear ho10 h10 hb10 e2 hcr tok16)
            | (go_at_call 16; refine Calls.mono (R2.out _ H10.out) ?_; rintro e w11 ⟨a11, c11, rfl, ho11, h11⟩; obtain ⟨ao2, cap2, e2, hb11, _⟩ := ho11.at; have e3 : a11 = ao2 := (by injection e2); subst e3; rw [HBN.out]; have CV1 := conv_at c10 (HB10.out.after h11); have CV2 := conv_at c11 hb11; rw [HBN.out] at CV1 CV2; have H11 : Hid (After w8 w11) := After.trans (After.trans HA.out H10.out) h11; clear ho11 h11 hb11 e2))
          go_roundw
          case rel => exact ⟨i + 1, q2, by omega, by go_num, by go_num, HQ2, H11⟩
          case measure => simp [intOf]; omega
        · obtain rfl : i = N := by omega
          have hqu : q = u := by rw [← HQ.out, ← HTU.out HOK.out, List.take_of_length_le (by omega)]
          subst hqu
          clear hNl HQ
          go_wp2_with (first
            | (go_at_call 26; refine (both_used H9.out).mono ?_; rw [HTU.out HOK.out]; rintro e w12 ⟨rfl, h12⟩; have H12 := show Hid (Both _ _ _ _ _) from H9.out.after h12; clear h12)
            | (go_at_call 29; refine (both_down H12.out).mono ?_; rw [HTD.out]; rintro e w13 ⟨rfl, h13⟩; have h13' := h13.symm; clear h13; subst h13')
            | (go_at_call 15; refine (awake_any w12).mono ?_; rintro e w14 ⟨rfl, h14⟩; have A14 : Hid (After w w14) := After.trans H12.out.aft h14; clear h14))
          go_ret
          exact ⟨rfl, A14.out⟩
end Go.Proofs.Ytlbodickflljfaa
