/-
  THE WALKS OF change.taken AND change.read.
-/
import Derived.Test.YtgmdolpjkaajfaaGreatDoorCC
import Derived.Test.YtgmdolpjkaajfaaGreatDoorRD
namespace Go.Proofs.YtgmdolpjkaajfaaGreatDoor
open Go.RowKit Leb
/-- What reading keeps: the reader in its block g, the change in its box. -/
structure CI (w : World) (g T : Nat) (bs : List UInt8) (e : Nat) (cs : List Value) (W : World) : Prop where
  aft : After w W
  rd : ∃ ao cap, Rd W g bs e ao cap ∧ ∀ a, ao = some a → w.heap.size < a.block ∧ a.block < T
  box : RowIs W w.heap.size 25 cs
  gn : w.heap.size < g
  gt : g < T
  tw : T ≤ W.heap.size
theorem CI.next {w : World} {g T : Nat} {bs bs' : List UInt8} {e e' : Nat} {cs : List Value} {W W' : World} (h : CI w g T bs e cs W) {ao : Option Addr} {cap : Nat} (_hR : Rd W g bs e ao cap) (hb : ∀ a, ao = some a → w.heap.size < a.block ∧ a.block < T) (hN : Nx g W ao bs' e' W') : CI w g T bs' e' cs W' := by
  obtain ⟨ao', cap', h1, h2, h3⟩ := hN
  refine ⟨Below.trans h.aft (h2.below (by have := h.gn; omega) h.aft.size), ⟨ao', cap', h1, fun a ha => ?_⟩, h2.row h.box (by have := h.gn; omega), h.gn, h.gt, Nat.le_trans h.tw h2.size⟩
  obtain ⟨b, hb1, hb2⟩ := h3 a ha
  rw [← hb2]
  exact hb b hb1
theorem CI.uint {w : World} {g T : Nat} {bs : List UInt8} {e : Nat} {cs : List Value} {W : World} (h : CI w g T bs e cs W) (most : Nat) {v e' : Nat} {bs' : List UInt8} (h1 : suV bs e most = v) (h2 : suB bs e most = bs') (h3 : suE bs e most = e') :
    Calls Tryz.prog 74 #[.pointer (some ⟨g, 0, none⟩), .int .u64 (most : Int)] W fun x w' => x = .returned (.int .u64 (v : Int)) ∧ CI w g T bs' e' cs w' ∧ But g W w' := by
  obtain ⟨ao, cap, hR, hb⟩ := h.rd
  subst h1 h2 h3
  refine (rUint_any g bs e ao cap most W hR).mono ?_
  rintro x w' ⟨rfl, hN⟩
  exact ⟨rfl, h.next hR hb hN, by obtain ⟨_, _, _, h2, _⟩ := hN; exact h2⟩
theorem CI.text {w : World} {g T : Nat} {bs : List UInt8} {e : Nat} {cs : List Value} {W : World} (h : CI w g T bs e cs W) (most : Nat) (hm : most ≤ 2000) (hbig : bs.length ≤ 281474976710656) {s : List UInt8} {e' : Nat} {bs' : List UInt8} (h1 : stS bs e most = s) (h2 : stB bs e most = bs') (h3 : stE bs e most = e') :
    Calls Tryz.prog 75 #[.pointer (some ⟨g, 0, none⟩), .int .i64 (most : Int)] W fun x w' => x = .returned (.string (strOf s)) ∧ CI w g T bs' e' cs w' ∧ But g W w' := by
  obtain ⟨ao, cap, hR, hb⟩ := h.rd
  subst h1 h2 h3
  refine (rText_any g bs e ao cap most (by omega) (by omega) hbig W hR).mono ?_
  rintro x w' ⟨rfl, hN⟩
  exact ⟨rfl, h.next hR hb hN, by obtain ⟨_, _, _, h2, _⟩ := hN; exact h2⟩
theorem CI.hash {w : World} {g T : Nat} {bs : List UInt8} {e : Nat} {cs : List Value} {W : World} (h : CI w g T bs e cs W) {s : List UInt8} {e' : Nat} {bs' : List UInt8} (h1 : shH bs e = s) (h2 : shB bs e = bs') (h3 : shE bs e = e') :
    Calls Tryz.prog 77 #[.pointer (some ⟨g, 0, none⟩)] W fun x w' => x = .returned (.agg (c8 s).toArray) ∧ CI w g T bs' e' cs w' ∧ But g W w' := by
  obtain ⟨ao, cap, hR, hb⟩ := h.rd
  subst h1 h2 h3
  refine (rHash_any g bs e ao cap W hR).mono ?_
  rintro x w' ⟨rfl, hN⟩
  exact ⟨rfl, h.next hR hb hN, by obtain ⟨_, _, _, h2, _⟩ := hN; exact h2⟩
theorem Rd.other {w : World} {g : Nat} {bs : List UInt8} {e : Nat} {ao : Option Addr} {cap : Nat} (h : Rd w g bs e ao cap) (a : Addr) (v : Value) (hg : g ≠ a.block) (hb : ∀ x, ao = some x → x.block ≠ a.block) : Rd (w.setCell a v) g bs e ao cap := by
  refine ⟨h.row.other a v hg, fun hn => ?_, h.cap, h.nil, h.apart⟩
  obtain ⟨b, o, rfl, hc⟩ := h.at' hn
  refine ⟨b, o, rfl, fun j hj => ?_⟩
  rw [World.cell?_of_block (a := ⟨b, o + j, none⟩) (Below.heap_setCell _ _ _ _ (hb ⟨b, o, none⟩ rfl))]
  exact hc j hj
theorem CI.set {w : World} {g T : Nat} {bs : List UInt8} {e : Nat} {cs : List Value} {W : World} (h : CI w g T bs e cs W) (j : Nat) (v : Value) : CI w g T bs e (cs.set j v) (W.setCell ⟨w.heap.size, j, none⟩ v) := by
  obtain ⟨ao, cap, hR, hb⟩ := h.rd
  exact ⟨Below.setCell h.aft (p := ⟨w.heap.size, j, none⟩) (Nat.le_refl _) v, ⟨ao, cap, hR.other _ _ (by have := h.gn; show g ≠ w.heap.size; omega) (fun x hx => by have := (hb x hx).1; show x.block ≠ w.heap.size; omega), hb⟩, h.box.set j v, h.gn, h.gt, by simpa using h.tw⟩
/-- Hashes taken off one behind the other. -/
def hsM : Nat → List UInt8 → Nat → List (List UInt8) × List UInt8 × Nat
  | 0, bs, e => ([], bs, e)
  | n + 1, bs, e => ((hsM n bs e).1 ++ [shH (hsM n bs e).2.1 (hsM n bs e).2.2], shB (hsM n bs e).2.1 (hsM n bs e).2.2, shE (hsM n bs e).2.1 (hsM n bs e).2.2)
theorem shH_len (bs : List UInt8) (e : Nat) : (shH bs e).length = 32 := by
  unfold shH
  split
  · exact ghH_len bs
  · simp [zeroHash]
theorem hsM_len : ∀ (n : Nat) (bs : List UInt8) (e : Nat), (hsM n bs e).1.length = n
  | 0, _, _ => rfl
  | n + 1, bs, e => by show (_ ++ [_]).length = _; rw [List.length_append, hsM_len n bs e]; rfl
theorem hsM_32 : ∀ (n : Nat) (bs : List UInt8) (e : Nat), HS.All32 (hsM n bs e).1
  | 0, _, _ => HS.All32.nil
  | n + 1, bs, e => fun x hx => (List.mem_append.1 hx).elim (fun h => hsM_32 n bs e x h) (fun h => by rw [List.mem_singleton.1 h]; exact shH_len _ _)
def zH (n : Nat) : List (List UInt8) := List.replicate n zeroHash
theorem zH_32 (n : Nat) : HS.All32 (zH n) := fun h hh => by rw [(List.mem_replicate.1 hh).2]; simp [zeroHash]
theorem setR_mid : ∀ (vs zs C : List Value), zs.length = vs.length → setR (zs ++ C) 0 vs = vs ++ C
  | [], [], C, _ => rfl
  | v :: vs, z :: zs, C, h => by
    show setR ((z :: (zs ++ C)).set 0 v) (0 + 1) vs = v :: (vs ++ C)
    rw [List.set_cons_zero]
    have := setR_app [v] vs 0 (zs ++ C)
    show setR ([v] ++ (zs ++ C)) ([v].length + 0) vs = _
    rw [this, setR_mid vs zs C (by simpa using h)]
    rfl
theorem row_put {L : List (List UInt8)} {n i : Nat} {h : List UInt8} (h32 : HS.All32 L) (hL : L.length = i) (hi : i < n) (hh : h.length = 32) : setR (c8 (L ++ zH (n - i)).flatten) (i * 32) (c8 h) = c8 (L ++ [h] ++ zH (n - (i + 1))).flatten := by
  have e1 : zH (n - i) = zeroHash :: zH (n - (i + 1)) := by
    unfold zH
    rw [← List.replicate_succ, show n - i = n - (i + 1) + 1 by omega]
  rw [e1]
  simp only [List.flatten_append, List.flatten_cons, List.flatten_nil, List.append_nil, c8_append, List.append_assoc]
  have hl : (c8 L.flatten).length = i * 32 := by rw [c8_len, HS.flat_len h32, hL]
  have := setR_app (c8 L.flatten) (c8 h) 0 (c8 zeroHash ++ c8 (zH (n - (i + 1))).flatten)
  simp only [hl, Nat.add_zero] at this
  rw [this, setR_mid _ _ _ (by rw [c8_len, c8_len, hh]; rfl)]
theorem made_h (c : Nat) : madeCells (Array.replicate 32 (Value.int .u8 0)) (c * 32) = (c8 (zH c).flatten).toArray := by
  apply Array.ext_getElem?
  intro i
  have hz : (zH c).flatten = List.replicate (c * 32) 0 := by
    unfold zH zeroHash
    rw [List.flatten_replicate_replicate]
  rw [hz]
  simp only [madeCells]
  have hm : i % 32 < 32 := Nat.mod_lt _ (by omega)
  by_cases h : i < c * 32
  · simp [h, c8, hm]
  · simp [h, c8]

theorem make_h (W : World) (n : Nat) (hn : n ≤ 1048576) :
    (Instr.makeSlice 22 (.int .u64 (n : Int)) (.int .u64 (n : Int))).run Tryz.prog W = .ok (.slice (some ⟨W.heap.size, 0, none⟩) n n) (W.alloc (.cells (c8 (zH n).flatten).toArray 38)) := by
  obtain ⟨i, z, hi, hz, hsz, hby, hzs, hzc⟩ := HS.info24
  have := run_make (P := Tryz.prog) W 22 38 i _ Tryz.underlying22 hi hz .u64 .u64 n n (by omega) (by omega) (by rw [hby]; omega) (by omega)
  rw [this, hsz, Int.toNat_natCast]
  rw [hzc, made_h]
/-- The hashes that were taken: their row, apart from the reader and from the box. -/
structure HR (w : World) (g gh : Nat) (L : List (List UInt8)) (W : World) : Prop where
  row : RowIs W gh 38 (c8 L.flatten)
  ng : gh ≠ g
  nw : w.heap.size < gh
theorem HR.but {w : World} {g gh : Nat} {L : List (List UInt8)} {W W' : World} (h : HR w g gh L W) (hb : But g W W') : HR w g gh L W' := ⟨hb.row h.row h.ng, h.ng, h.nw⟩
theorem HR.set {w : World} {g gh : Nat} {L : List (List UInt8)} {W : World} (h : HR w g gh L W) (j : Nat) (v : Value) : HR w g gh L (W.setCell ⟨w.heap.size, j, none⟩ v) := ⟨h.row.other _ _ (by have := h.nw; show gh ≠ w.heap.size; omega), h.ng, h.nw⟩
theorem HR.at_ {w : World} {g gh : Nat} {L : List (List UInt8)} {W : World} (h : HR w g gh L W) : HS.HsAt W (some ⟨gh, 0, none⟩) L := fun hn => ⟨gh, 0, rfl, fun j hj => by rw [Nat.zero_add]; exact h.row.cell (c8_get _ j hj)⟩
theorem CI.other {w : World} {g gh T : Nat} {bs : List UInt8} {e : Nat} {cs : List Value} {W W' : World} (h : CI w g T bs e cs W) (hb : But gh W W') (hT : T ≤ gh) : CI w g T bs e cs W' := by
  obtain ⟨ao, cap, hR, hx⟩ := h.rd
  have h1 := h.gn
  have h2 := h.gt
  exact ⟨Below.trans h.aft (hb.below (by omega) h.aft.size), ⟨ao, cap, ⟨hb.row hR.row (by omega), hb.bytes hR.at' (fun a ha => by have := (hx a ha).2; omega), hR.cap, hR.nil, hR.apart⟩, hx⟩, hb.row h.box (by omega), h.gn, h.gt, Nat.le_trans h.tw hb.size⟩
set_option maxHeartbeats 400000 in
theorem cread_far (ao : Option Addr) (n cap : Nat) (bs : List UInt8) (hn : bs.length = n) (hbig : n ≤ 140737488355328) (w : World) (hat : BytesAt w ao bs) :
    Calls Tryz.prog 73 #[.slice ao n cap] w fun e w' => ∃ g a' c', e = .returned (.pointer (some ⟨g, 0, none⟩)) ∧ Rd w' g bs 0 a' c' ∧ (∀ a, a' = some a → w.heap.size ≤ a.block ∧ a.block < w'.heap.size) ∧ w.heap.size ≤ g ∧ After w w' := by
  subst hn
  have HAT : Hid (BytesAt w ao bs) := hat
  clear hat
  go_enter Tryz.func73, Tryz.ntmps73
  go_wp2_with (go_at_call 109; refine (clone_any ao cap bs hbig _ HAT.out).mono ?_; rintro e w1 ⟨v1, rfl, ho1, hb1⟩; obtain ⟨a1, c1, rfl, hat1, hc1, hl1⟩ := ho1.at)
  go_ret
  refine ⟨w1.heap.size, a1, c1, rfl, ⟨RowIs.new w1 130 [.slice a1 bs.length c1, .int .i64 0], hat1.after (after_alloc (After.refl w1) _), hc1, fun h => ?_, fun a ha => ?_⟩, fun a ha => ⟨(hl1 a ha).1, by have := (hl1 a ha).2; simp; omega⟩, hb1.size, after_alloc hb1 _⟩
  · subst h; exact bytesAt_none hat1
  · have := (hl1 a ha).2; omega
theorem there_h {w : World} {g i n : Nat} {L : List UInt8} (h : RowIs w g 38 (c8 L)) (hL : L.length = n * 32) (hi : i < n) : w.there g (i * 32) 32 := fun j hj => by
  refine ⟨?_, h.frozen _⟩
  rw [h.cell (c8_get L (i * 32 + j) (by omega))]
  rfl
set_option maxRecDepth 100000 in
set_option maxHeartbeats 2400000 in
theorem taken_any {w : World} {g T : Nat} {bs : List UInt8} {e : Nat} {cs : List Value} {W : World} (h : CI w g T bs e cs W) (n : Nat) (hn : n ≤ 16) {L : List (List UInt8)} {bs' : List UInt8} {e' : Nat} (hM : hsM n bs e = (L, bs', e')) :
    Calls Tryz.prog 76 #[.int .u64 (n : Int), .func (.func 77) #[.pointer (some ⟨g, 0, none⟩)] #[]] W fun x w' => ∃ gh, x = .returned (.slice (some ⟨gh, 0, none⟩) n n) ∧ CI w g T bs' e' cs w' ∧ HR w g gh L w' := by
  have hmk := make_h W n (by omega)
  have he77 : ∀ args w, (callFunc 77 args).run Tryz.prog w = .ok (.enter 77 args) w := enters_of Tryz.func77 (by kernel_rfl) rfl
  obtain ⟨gh, hgh⟩ : ∃ gh, W.heap.size = gh := ⟨_, rfl⟩
  obtain ⟨W1, hW1⟩ : ∃ W1, W.alloc (.cells (c8 (zH n).flatten).toArray 38) = W1 := ⟨_, rfl⟩
  have H0 : Hid (CI w g T bs e cs W1 ∧ RowIs W1 gh 38 (c8 ([] ++ zH (n - 0)).flatten) ∧ T ≤ gh ∧ g < gh ∧ w.heap.size < gh ∧ hsM n bs e = (L, bs', e')) := by
    have h1 := h.gn
    have h2 := h.gt
    have hT := h.tw
    refine ⟨?_, ?_, by omega, by omega, by omega, hM⟩
    · rw [← hW1]
      exact h.other (gh := gh) (But.of_below (after_alloc (After.refl W) _)) (by omega)
    · rw [← hW1, ← hgh]
      exact RowIs.new W 38 (c8 (zH n).flatten)
  clear h hM
  rw [hgh, hW1] at hmk
  clear hgh hW1
  go_enter Tryz.func76, Tryz.ntmps76
  go_wp2
  go_loopw [11] (fun vi wr => ∃ i : Nat, vi = .int .i64 (i : Int) ∧ i ≤ n ∧ Hid (CI w g T (hsM i bs e).2.1 (hsM i bs e).2.2 cs wr ∧ RowIs wr gh 38 (c8 ((hsM i bs e).1 ++ zH (n - i)).flatten))) (fun vi _ => n - (intOf vi).toNat)
  case atStart => exact ⟨0, rfl, Nat.zero_le _, H0.out.1, H0.out.2.1⟩
  case round =>
    obtain ⟨i, rfl, hi, HI⟩ := hrel
    by_cases hlt : i < n
    · have hii : (i : Int) < (n : Int) := by omega
      obtain ⟨s, hs⟩ : ∃ s, shH (hsM i bs e).2.1 (hsM i bs e).2.2 = s := ⟨_, rfl⟩
      obtain ⟨b2, hb2⟩ : ∃ s, shB (hsM i bs e).2.1 (hsM i bs e).2.2 = s := ⟨_, rfl⟩
      obtain ⟨e2, he2⟩ : ∃ s, shE (hsM i bs e).2.1 (hsM i bs e).2.2 = s := ⟨_, rfl⟩
      have HH : Hid (shH (hsM i bs e).2.1 (hsM i bs e).2.2 = s ∧ shB (hsM i bs e).2.1 (hsM i bs e).2.2 = b2 ∧ shE (hsM i bs e).2.1 (hsM i bs e).2.2 = e2) := ⟨hs, hb2, he2⟩
      have HS32 : Hid (s.length = 32) := by unfold Hid; rw [← hs]; exact shH_len _ _
      have HN : Hid (hsM (i + 1) bs e = ((hsM i bs e).1 ++ [s], b2, e2)) := by unfold Hid; rw [← hs, ← hb2, ← he2]; rfl
      have HFL : Hid (((hsM i bs e).1 ++ zH (n - i)).flatten.length = n * 32) := by
        unfold Hid
        rw [HS.flat_len (fun x hx => (List.mem_append.1 hx).elim (fun h => hsM_32 i bs e x h) (fun h => zH_32 _ x h)), List.length_append, hsM_len]
        simp [zH]
        omega
      clear hs hb2 he2
      go_wp2_with (first
        | (go_at_fn 77; refine Calls.mono (HI.out.1.hash HH.out.1 HH.out.2.1 HH.out.2.2) ?_; rintro x w1 ⟨rfl, hci, hbt⟩; have H1 := show Hid (CI w g T b2 e2 cs w1 ∧ RowIs w1 gh 38 (c8 ((hsM i bs e).1 ++ zH (n - i)).flatten)) from ⟨hci, hbt.row HI.out.2 (by have := H0.out.2.2.2.1; omega)⟩; clear hci hbt)
        | (refine wpList_of_run rfl (HS.x_idx22 (x := .tmp 14) (y := .tmp 15) (b := gh) (f := 0) (n := n) (c := n) (k := i) rfl rfl rfl hlt) ?_)
        | (refine wpList_store_mid rfl 38 (.tmp 18) (.tmp 17) rfl gh (0 + i * 32) (c8 s).toArray rfl rfl (by have h := there_h H1.out.2 HFL.out hlt; simpa [c8_len, HS32.out] using h) (by rw [HS.size24a HS32.out]) (all_oneCell_toArray (c8_one s)) ?_))
      have H2 : Hid (CI w g T b2 e2 cs (w1.setCells gh (i * 32) (c8 s)) ∧ RowIs (w1.setCells gh (i * 32) (c8 s)) gh 38 (c8 ((hsM (i + 1) bs e).1 ++ zH (n - (i + 1))).flatten)) := by
        refine ⟨H1.out.1.other (gh := gh) (But.setCells _ _ (But.refl gh w1)) H0.out.2.2.1, ?_⟩
        have h1 := RowIs.setCells (c8 s) (i * 32) H1.out.2
        rw [row_put (hsM_32 i bs e) (hsM_len i bs e) hlt HS32.out] at h1
        rw [HN.out]
        exact h1
      go_roundw
      case rel => exact ⟨i + 1, by go_num, by omega, by rw [HN.out]; exact H2.out.1, H2.out.2⟩
      case measure => simp [intOf]; omega
    · obtain rfl : i = n := by omega
      have hii : ¬ (i : Int) < (i : Int) := by omega
      go_wp2
      go_ret
      have hM := H0.out.2.2.2.2.2
      have hI := HI.out
      rw [hM, Nat.sub_self] at hI
      exact ⟨gh, rfl, hI.1, ⟨by simpa [zH] using hI.2, by have := H0.out.2.2.2.1; omega, H0.out.2.2.2.2.1⟩⟩

end Go.Proofs.YtgmdolpjkaajfaaGreatDoor
