/-
  CONTRACTS: PutsLaw RGKit RefGet GetsLaw
-/
import Derived.Test.YtgmdolpjkaajfaaGreatDoorOJ
namespace Go.Proofs.YtgmdolpjkaajfaaGreatDoor
open Go.RowKit Leb
theorem rput_k (ao : Option Addr) (n ca : Nat) (l : List Opn) (hl : l.length = n) (hok : ∀ x ∈ l, x.Ok) (hbig : n ≤ 1152921504606846976) (w : World) (hA : OpsAt w ao l) {q : Nat} {B : List UInt8} (hq : putE l = q) (hB : putBs l = B) :
    Calls Tryz.prog 57 #[.slice ao n ca] w fun e w' => ∃ v, e = .returned (.tuple #[v, .int .i64 (q : Int)]) ∧ Own w' w.heap.size v B ∧ After w w' := by
  have h := rput_any ao n ca l hl hok hbig w hA
  rw [hq, hB] at h
  exact h
theorem ops_sl {w : World} {base : Nat} {v : Value} {l : List Opn} (h : OwnO w base v l) {k : Nat} (hk : l.length = k) : ∃ a c, v = .slice a k c ∧ OpsAt w a l ∧ k ≤ c ∧ ∀ x, a = some x → base ≤ x.block := by
  obtain ⟨a, c, rfl, h1, h2, h3⟩ := h.at
  rw [hk] at h2 ⊢
  exact ⟨a, c, rfl, h1, h2, fun x hx => (h3 x hx).1⟩
end Go.Proofs.YtgmdolpjkaajfaaGreatDoor
namespace Go.Proofs.YtgmdolpjkaajfaaGreatDoor
open Go.RowKit Leb
/-- Bytes that are still to be read. -/
structure InB (w : World) (a : Option Addr) (n c : Nat) (bs : List UInt8) : Prop where
  at_ : BytesAt w a bs
  len : bs.length = n
  cap : n ≤ c
  nil : a = none → n = 0
  big : n ≤ 140737488355328
theorem InB.after {w w' : World} {a : Option Addr} {n c : Nat} {bs : List UInt8} (h : InB w a n c bs) (ha : After w w') : InB w' a n c bs := ⟨h.at_.after ha, h.len, h.cap, h.nil, h.big⟩
theorem rest_k {w0 : World} {a : Option Addr} {n c : Nat} {bs : List UInt8} (h : InB w0 a n c bs) (k : Nat) (hk : k ≤ n) (w : World) :
    Calls Tryz.prog 85 #[.slice a n c, .int .i64 (k : Int)] w fun e w' => (∃ a' n' c', e = .returned (.slice a' n' c') ∧ InB w0 a' n' c' (bs.drop k)) ∧ w' = w := by
  have SL := slice_from a n c k h.nil h.cap hk w
  have hkn : ¬ (n : Int) < (k : Int) := by omega
  have hkn2 : (k : Int) ≤ (n : Int) := by omega
  have hmin : min (k : Int) (n : Int) = (k : Int) := by omega
  have HR : Hid (InB w0 (cutAt a k c) (n - k) (c - k) (bs.drop k)) := ⟨h.at_.cut k c (by rw [h.len]; exact h.cap), by rw [List.length_drop, h.len], by have := h.cap; omega, fun e => by have := h.nil (cutAt_none e); omega, by have := h.big; omega⟩
  clear h
  go_enter Tryz.func85, Tryz.ntmps85
  go_wp2
  go_ret
  exact ⟨⟨_, _, _, rfl, HR.out⟩, rfl⟩
theorem gruns_k {w : World} {a : Option Addr} {n c : Nat} {bs : List UInt8} (h : InB w a n c bs) {l : List Int} {k q m : Nat} (e : G1 bs = (l, k, q)) (hm : l.length = m) :
    Calls Tryz.prog 84 #[.slice a n c, .int .i64 256] w fun e w' => ∃ p cc, e = .returned (.tuple #[.slice p m cc, .int .i64 (k : Int), .int .i64 (q : Int)]) ∧ IntsAt w' p l ∧ After w w' := by
  have h1 := refRuns_any a c bs (by rw [h.len]; exact h.cap) (fun e => by rw [h.len]; exact h.nil e) (by rw [h.len]; exact h.big) 256 (by omega) (by omega) w h.at_
  rw [h.len] at h1
  refine Calls.mono h1 ?_
  rintro x w' ⟨v, rfl, ho, ha⟩
  rw [show getR bs 256 = (l, k, q) from e] at ho ⊢
  obtain ⟨p, cc, rfl, hI⟩ := ints_sl ho hm
  exact ⟨p, cc, rfl, hI, ha⟩
theorem gdel_k {w : World} {a : Option Addr} {n c : Nat} {bs : List UInt8} (h : InB w a n c bs) {l : List Int} {k q m : Nat} (e : G2 bs = (l, k, q)) (hm : l.length = m) :
    Calls Tryz.prog 86 #[.slice a n c, .int .i64 256] w fun e w' => ∃ p cc, e = .returned (.tuple #[.slice p m cc, .int .i64 (k : Int), .int .i64 (q : Int)]) ∧ IntsAt w' p l ∧ After w w' := by
  have h1 := refDeltas_any a c bs (by rw [h.len]; exact h.cap) (fun e => by rw [h.len]; exact h.nil e) (by rw [h.len]; exact h.big) 256 (by omega) (by omega) w h.at_
  rw [h.len] at h1
  refine Calls.mono h1 ?_
  rintro x w' ⟨v, rfl, ho, ha⟩
  rw [show (dsums (getR bs 256).1, (getR bs 256).2) = (l, k, q) from e] at ho ⊢
  obtain ⟨p, cc, rfl, hI⟩ := ints_sl ho hm
  exact ⟨p, cc, rfl, hI, ha⟩
theorem gu_k {w : World} {a : Option Addr} {n c : Nat} {bs : List UInt8} (h : InB w a n c bs) {v k q : Nat} (e1 : guV bs = v) (e2 : guK bs = k) (e3 : guE bs = q) :
    Calls Tryz.prog 83 #[.slice a n c] w fun e w' => e = .returned (.tuple #[.int .u64 (v : Int), .int .i64 (k : Int), .int .i64 (q : Int)]) ∧ After w w' := by
  have h1 := rgetUint_any a c bs (by rw [h.len]; exact h.cap) w h.at_
  rw [h.len, e1, e2, e3] at h1
  exact h1
theorem gt_k {w : World} {a : Option Addr} {n c : Nat} {bs : List UInt8} (h : InB w a n c bs) (most : Nat) (hm : most ≤ 2000) {s : List UInt8} {k q : Nat} (e1 : gtS bs most = s) (e2 : gtK bs most = k) (e3 : gtE bs most = q) :
    Calls Tryz.prog 81 #[.slice a n c, .int .i64 (most : Int)] w fun e w' => e = .returned (.tuple #[.string (strOf s), .int .i64 (k : Int), .int .i64 (q : Int)]) ∧ After w w' := by
  have h1 := rgetText_any a c bs most (by rw [h.len]; exact h.cap) (by rw [h.len]; have := h.big; omega) (by omega) (by omega) w h.at_
  rw [h.len, e1, e2, e3] at h1
  exact h1
theorem colM_up (G : List UInt8 → List Int × Nat × Nat) (bs : List UInt8) {fl : Bool} (h : fl = true) : (colM G bs fl).2.2 = true := by subst h; rfl
theorem countM_up (bs : List UInt8) {fl : Bool} (h : fl = true) : (countM bs fl).2.2 = true := by subst h; rfl
theorem textsM_up (most : Int) : ∀ (n : Nat) (bs : List UInt8) {fl : Bool}, fl = true → (textsM most n bs fl).2.2 = true
  | 0, _, _, h => h
  | n + 1, bs, fl, h => by
    subst h
    exact textsM_up most n _ rfl
theorem textsM_add (most : Int) : ∀ (j k : Nat) (bs : List UInt8) (fl : Bool), (textsM most j bs fl).2.2 = true → (textsM most (j + k) bs fl).2.2 = true
  | j, 0, _, _, h => h
  | j, k + 1, bs, fl, h => by
    have h1 := textsM_add most j k bs fl h
    rw [← Nat.add_assoc, textsM_snoc]
    show (textM most _ _).2.2 = true
    rw [h1]
    rfl
theorem readM_up {bs : List UInt8} (h : (colsM bs).fl = true) : readM bs = none := by unfold readM readC; rw [if_pos (.inl h)]
theorem readM_a {bs : List UInt8} {l : List Int} {k q : Nat} (e : G1 bs = (l, k, q)) (hq : ¬ q = 0) : readM bs = none := by
  refine readM_up ?_
  refine colM_up _ _ (colM_up _ _ (colM_up _ _ (textsM_up _ _ _ (countM_up _ ?_))))
  show decide ((G1 bs).2.2 ≠ 0) = true
  rw [e]
  simpa using hq
theorem colA {bs : List UInt8} {l : List Int} {k : Nat} (e : G1 bs = (l, k, 0)) : colM G1 bs false = (l, bs.drop k, false) := by
  unfold colM
  rw [e]
  rfl
theorem colB {bs : List UInt8} {l : List Int} {k : Nat} (e : G2 bs = (l, k, 0)) : colM G2 bs false = (l, bs.drop k, false) := by
  unfold colM
  rw [e]
  rfl
theorem readM_c {bs : List UInt8} {l : List Int} {k v k2 q : Nat} (e : G1 bs = (l, k, 0)) (e1 : guV (bs.drop k) = v) (_e2 : guK (bs.drop k) = k2) (e3 : guE (bs.drop k) = q) (hq : ¬ q = 0 ∨ 256 < v) : readM bs = none := by
  refine readM_up ?_
  refine colM_up _ _ (colM_up _ _ (colM_up _ _ (textsM_up _ _ _ ?_)))
  rw [colA e]
  show (countM (bs.drop k) false).2.2 = true
  unfold countM
  rw [e1, e3]
  by_cases h : 256 < v
  · simp [h]
  · have hq' := hq.resolve_right h
    simp [h, hq']
theorem countA {bs : List UInt8} {v k : Nat} (e1 : guV bs = v) (e2 : guK bs = k) (e3 : guE bs = 0) (hv : ¬ 256 < v) : countM bs false = (v, bs.drop k, false) := by
  unfold countM
  rw [e1, e2, e3]
  simp [hv]
theorem readM_t {bs : List UInt8} {l : List Int} {k v k2 j : Nat} (e : G1 bs = (l, k, 0)) (ec : countM (bs.drop k) false = (v, (bs.drop k).drop k2, false)) (hj : j ≤ v) (h : (textsM 32 j ((bs.drop k).drop k2) false).2.2 = true) : readM bs = none := by
  refine readM_up ?_
  refine colM_up _ _ (colM_up _ _ (colM_up _ _ ?_))
  rw [colA e]
  show (textsM 32 (countM (bs.drop k) false).1 (countM (bs.drop k) false).2.1 (countM (bs.drop k) false).2.2).2.2 = true
  rw [ec]
  obtain ⟨d, rfl⟩ : ∃ d, v = j + d := ⟨v - j, by omega⟩
  exact textsM_add 32 j d _ _ h
/-- All columns, where nothing failed ahead of them. -/
theorem colsM_of {bs r3 : List UInt8} {l lw lp ly : List Int} {k v k2 k3 k4 k5 q3 q4 q5 : Nat} {L : List (List UInt8)} (e : G1 bs = (l, k, 0)) (ec : countM (bs.drop k) false = (v, (bs.drop k).drop k2, false)) (et : textsM 32 v ((bs.drop k).drop k2) false = (L, r3, false))
    (e3 : G1 r3 = (lw, k3, q3)) (e4 : G2 (r3.drop k3) = (lp, k4, q4)) (e5 : G1 ((r3.drop k3).drop k4) = (ly, k5, q5)) :
    (q3 = 0 → q4 = 0 → q5 = 0 → colsM bs = ⟨l, L, lw, lp, ly, ((r3.drop k3).drop k4).drop k5, false⟩) ∧ (¬ q3 = 0 ∨ ¬ q4 = 0 ∨ ¬ q5 = 0 → readM bs = none) := by
  constructor
  · rintro rfl rfl rfl
    unfold colsM
    simp only [colA e, ec, et, colA e3, colB e4, colA e5]
  · intro h
    refine readM_up ?_
    have ht : ∀ x, x = colsM bs → x.fl = (colM G1 (colM G2 (colM G1 r3 false).2.1 (colM G1 r3 false).2.2).2.1 (colM G2 (colM G1 r3 false).2.1 (colM G1 r3 false).2.2).2.2).2.2 := by
      rintro x rfl
      unfold colsM
      simp only [colA e, ec, et]
    rw [ht _ rfl]
    by_cases h3 : q3 = 0
    · subst h3
      rw [colA e3]
      show (colM G1 (colM G2 (r3.drop k3) false).2.1 (colM G2 (r3.drop k3) false).2.2).2.2 = true
      by_cases h4 : q4 = 0
      · subst h4
        rw [colB e4]
        show decide ((G1 ((r3.drop k3).drop k4)).2.2 ≠ 0) = true
        rw [e5]
        have h5 : ¬ q5 = 0 := by rcases h with h | h | h; exact absurd rfl h; exact absurd rfl h; exact h
        simpa using h5
      · refine colM_up _ _ ?_
        show decide ((G2 (r3.drop k3)).2.2 ≠ 0) = true
        rw [e4]
        simpa using h4
    · refine colM_up _ _ (colM_up _ _ ?_)
      show decide ((G1 r3).2.2 ≠ 0) = true
      rw [e3]
      simpa using h3
theorem stM_up {C : Cols} : ∀ (i k : Nat) (S : RdS), stM C i = some S → S.fl = true → stM C (i + k) = none ∨ ∃ S', stM C (i + k) = some S' ∧ S'.fl = true
  | i, 0, S, h, hf => .inr ⟨S, h, hf⟩
  | i, k + 1, S, h, hf => by
    rcases stM_up i k S h hf with h1 | ⟨S', h1, h2⟩
    · exact .inl (by rw [← Nat.add_assoc]; exact stM_none h1 _ (by omega))
    · rw [← Nat.add_assoc]
      show (stM C (i + k)).bind (stepM C (i + k)) = none ∨ ∃ S', (stM C (i + k)).bind (stepM C (i + k)) = some S' ∧ S'.fl = true
      rw [h1]
      show stepM C (i + k) S' = none ∨ ∃ S'', stepM C (i + k) S' = some S'' ∧ S''.fl = true
      unfold stepM
      split
      · exact .inl rfl
      · split
        · exact .inr ⟨_, rfl, by rw [h2]; rfl⟩
        · exact .inr ⟨_, rfl, h2⟩
theorem readC_up {C : Cols} {n i : Nat} {S : RdS} (hn : C.ks.length = n) (hi : i ≤ n) (h : stM C i = some S) (hf : S.fl = true) : readC C = none := by
  obtain ⟨d, rfl⟩ : ∃ d, n = i + d := ⟨n - i, by omega⟩
  unfold readC
  split
  · rfl
  · rw [hn]
    rcases stM_up i d S h hf with h1 | ⟨S', h1, h2⟩
    · rw [h1]; rfl
    · rw [h1]
      show (if S'.fl = true then none else some S'.ops) = none
      rw [if_pos h2]
def RGetPost (w : World) (R : Option (List Opn)) (e : Ending) (w' : World) : Prop :=
  ∃ v q, e = .returned (.tuple #[v, .int .i64 q]) ∧ After w w' ∧ (R = none → v = .slice none 0 0 ∧ q = 4) ∧ (∀ l, R = some l → q = 0 ∧ ∃ a c, v = .slice a l.length c ∧ OpsAt w' a l ∧ ∀ x, a = some x → w.heap.size ≤ x.block)
theorem getM_no {bs : List UInt8} (h : readM bs = none) : getM bs = none := by unfold getM; rw [h]; rfl
theorem rgp_none {w w' : World} {bs : List UInt8} (h : readM bs = none) (ha : After w w') : RGetPost w (getM bs) (.returned (.tuple #[.slice none 0 0, .int .i64 4])) w' :=
  ⟨_, _, rfl, ha, fun _ => ⟨rfl, rfl⟩, fun l e => by rw [getM_no h] at e; cases e⟩
end Go.Proofs.YtgmdolpjkaajfaaGreatDoor
namespace Go.Proofs.YtgmdolpjkaajfaaGreatDoor
open Go.RowKit Leb
theorem there_new (w : World) : (w.alloc (.cells #[.int .i64 0, .string ⟨#[]⟩, .int .i64 0, .int .i64 0, .string ⟨#[]⟩] 46)).there w.heap.size 0 5 := by
  have h := there_row (i := 0) (L := [z0]) (RowIs.new w 46 (cellsOf [z0])) (by simp)
  exact h
theorem Below.setCells_new {a : World} : ∀ (vs : List Value) {b : World} {o g : Nat}, After a b → a.heap.size ≤ g → After a (b.setCells g o vs)
  | [], _, _, _, h, _ => h
  | v :: r, _, o, g, h, hg => Below.setCells_new r (o := o + 1) (Below.setCell h (p := ⟨g, o, none⟩) hg v) hg
theorem row_new (w : World) (x : Opn) : RowIs ((w.alloc (.cells #[.int .i64 0, .string ⟨#[]⟩, .int .i64 0, .int .i64 0, .string ⟨#[]⟩] 46)).setCells w.heap.size 0 (oc x)) w.heap.size 46 (oc x) :=
  RowIs.setCells (oc x) 0 (RowIs.new w 46 (oc z0))
set_option maxRecDepth 100000 in
set_option maxHeartbeats 6400000 in
theorem rget_any (a0 : Option Addr) (n0 c0 : Nat) (bs : List UInt8) (w : World) (hin : InB w a0 n0 c0 bs) :
    Calls Tryz.prog 51 #[.slice a0 n0 c0] w (RGetPost w (getM bs)) := by
  obtain ⟨⟨la, k1, q1⟩, h1⟩ : ∃ x, G1 bs = x := ⟨_, rfl⟩
  obtain ⟨m1, hm1⟩ : ∃ m, la.length = m := ⟨_, rfl⟩
  obtain ⟨v2, e1⟩ : ∃ v, guV (bs.drop k1) = v := ⟨_, rfl⟩
  obtain ⟨k2, e2⟩ : ∃ v, guK (bs.drop k1) = v := ⟨_, rfl⟩
  obtain ⟨q2, e3⟩ : ∃ v, guE (bs.drop k1) = v := ⟨_, rfl⟩
  have HIN : Hid (InB w a0 n0 c0 bs) := hin
  have HG : Hid (G1 bs = (la, k1, q1) ∧ la.length = m1 ∧ guV (bs.drop k1) = v2 ∧ guK (bs.drop k1) = k2 ∧ guE (bs.drop k1) = q2) := ⟨h1, hm1, e1, e2, e3⟩
  have HK : Hid (k1 ≤ n0 ∧ k2 ≤ (bs.drop k1).length) := ⟨by have := G1_le bs; rw [h1] at this; rw [← hin.len]; exact this, by rw [← e2]; exact guK_le _⟩
  have hm1b : m1 ≤ 65536 := by rw [← hm1]; have := getR_most bs 256; rw [show getR bs 256 = (la, k1, q1) from h1] at this; exact this
  clear hin h1 hm1 e1 e2 e3
  by_cases z1 : q1 = 0
  case neg =>
    have f1i : ¬ (q1 : Int) = 0 := by omega
    have f1b : ((q1 : Int) == 0) = false := beq_eq_false_iff_ne.2 f1i
    have f1n : ((q1 : Int) != 0) = true := by simp [bne, f1b]
    go_enter Tryz.func51, Tryz.ntmps51
    go_wp2_with (first
      | (go_at_call 85; have _u := H3.out; clear _u; refine Calls.mono (rest_k (H2.out.1.after H3.out) k2 (by have h1 := HK.out.2; have h2 := H2.out.1.len; omega) w3) ?_; rintro e w4 ⟨⟨a4, n4, c4, he, hI⟩, hw⟩; subst he; have hw2 := hw.symm; clear hw; subst hw2; have H4 := show Hid (InB w3 a4 n4 c4 ((bs.drop k1).drop k2)) from hI; clear hI)
      | (go_at_call 83; refine Calls.mono (gu_k H2.out.1 HG.out.2.2.1 HG.out.2.2.2.1 HG.out.2.2.2.2) ?_; rintro e w3 ⟨rfl, ha⟩; have H3 := show Hid (After w1 w3) from ha; clear ha)
      | (go_at_call 85; have _u := H1.out; clear _u; refine Calls.mono (rest_k (HIN.out.after H1.out.2) k1 HK.out.1 w1) ?_; rintro e w2 ⟨⟨a2, n2, c2, he, hI⟩, hw⟩; subst he; have hw2 := hw.symm; clear hw; subst hw2; have H2 := show Hid (InB w1 a2 n2 c2 (bs.drop k1) ∧ True) from ⟨hI, trivial⟩; clear hI)
      | (go_at_call 84; refine Calls.mono (gruns_k HIN.out HG.out.1 HG.out.2.1) ?_; rintro e w1 ⟨p1, c1, he, hI, ha⟩; subst he; have H1 := show Hid (IntsAt w1 p1 la ∧ After w w1) from ⟨hI, ha⟩; clear hI ha))
    go_ret2
    exact rgp_none (readM_a HG.out.1 z1) (After.trans H1.out.2 H3.out)
  subst z1
  by_cases z2 : q2 = 0
  case neg =>
    have f2i : ¬ (q2 : Int) = 0 := by omega
    have f2b : ((q2 : Int) == 0) = false := beq_eq_false_iff_ne.2 f2i
    have f2n : ((q2 : Int) != 0) = true := by simp [bne, f2b]
    go_enter Tryz.func51, Tryz.ntmps51
    go_wp2_with (first
      | (go_at_call 85; have _u := H3.out; clear _u; refine Calls.mono (rest_k (H2.out.1.after H3.out) k2 (by have h1 := HK.out.2; have h2 := H2.out.1.len; omega) w3) ?_; rintro e w4 ⟨⟨a4, n4, c4, he, hI⟩, hw⟩; subst he; have hw2 := hw.symm; clear hw; subst hw2; have H4 := show Hid (InB w3 a4 n4 c4 ((bs.drop k1).drop k2)) from hI; clear hI)
      | (go_at_call 83; refine Calls.mono (gu_k H2.out.1 HG.out.2.2.1 HG.out.2.2.2.1 HG.out.2.2.2.2) ?_; rintro e w3 ⟨rfl, ha⟩; have H3 := show Hid (After w1 w3) from ha; clear ha)
      | (go_at_call 85; have _u := H1.out; clear _u; refine Calls.mono (rest_k (HIN.out.after H1.out.2) k1 HK.out.1 w1) ?_; rintro e w2 ⟨⟨a2, n2, c2, he, hI⟩, hw⟩; subst he; have hw2 := hw.symm; clear hw; subst hw2; have H2 := show Hid (InB w1 a2 n2 c2 (bs.drop k1) ∧ True) from ⟨hI, trivial⟩; clear hI)
      | (go_at_call 84; refine Calls.mono (gruns_k HIN.out HG.out.1 HG.out.2.1) ?_; rintro e w1 ⟨p1, c1, he, hI, ha⟩; subst he; have H1 := show Hid (IntsAt w1 p1 la ∧ After w w1) from ⟨hI, ha⟩; clear hI ha))
    go_ret2
    exact rgp_none (readM_c HG.out.1 HG.out.2.2.1 HG.out.2.2.2.1 HG.out.2.2.2.2 (.inl z2)) (After.trans H1.out.2 H3.out)
  subst z2
  by_cases z3 : 256 < v2
  case pos =>
    have z3i : (v2 : Int) > 256 := by omega
    go_enter Tryz.func51, Tryz.ntmps51
    go_wp2_with (first
      | (go_at_call 85; have _u := H3.out; clear _u; refine Calls.mono (rest_k (H2.out.1.after H3.out) k2 (by have h1 := HK.out.2; have h2 := H2.out.1.len; omega) w3) ?_; rintro e w4 ⟨⟨a4, n4, c4, he, hI⟩, hw⟩; subst he; have hw2 := hw.symm; clear hw; subst hw2; have H4 := show Hid (InB w3 a4 n4 c4 ((bs.drop k1).drop k2)) from hI; clear hI)
      | (go_at_call 83; refine Calls.mono (gu_k H2.out.1 HG.out.2.2.1 HG.out.2.2.2.1 HG.out.2.2.2.2) ?_; rintro e w3 ⟨rfl, ha⟩; have H3 := show Hid (After w1 w3) from ha; clear ha)
      | (go_at_call 85; have _u := H1.out; clear _u; refine Calls.mono (rest_k (HIN.out.after H1.out.2) k1 HK.out.1 w1) ?_; rintro e w2 ⟨⟨a2, n2, c2, he, hI⟩, hw⟩; subst he; have hw2 := hw.symm; clear hw; subst hw2; have H2 := show Hid (InB w1 a2 n2 c2 (bs.drop k1) ∧ True) from ⟨hI, trivial⟩; clear hI)
      | (go_at_call 84; refine Calls.mono (gruns_k HIN.out HG.out.1 HG.out.2.1) ?_; rintro e w1 ⟨p1, c1, he, hI, ha⟩; subst he; have H1 := show Hid (IntsAt w1 p1 la ∧ After w w1) from ⟨hI, ha⟩; clear hI ha))
    go_ret2
    exact rgp_none (readM_c HG.out.1 HG.out.2.2.1 HG.out.2.2.2.1 HG.out.2.2.2.2 (.inr z3)) (After.trans H1.out.2 H3.out)
  have z3i : ¬ (v2 : Int) > 256 := by omega
  have HCT : Hid (countM (bs.drop k1) false = (v2, (bs.drop k1).drop k2, false)) := countA HG.out.2.2.1 HG.out.2.2.2.1 HG.out.2.2.2.2 z3
  obtain ⟨r2, hr2⟩ : ∃ r, (bs.drop k1).drop k2 = r := ⟨_, rfl⟩
  have HR2 : Hid ((bs.drop k1).drop k2 = r2) := hr2
  clear hr2
  go_enter Tryz.func51, Tryz.ntmps51
  go_wp2_with (first
    | (go_at_call 85; have _u := H3.out; clear _u; refine Calls.mono (rest_k (H2.out.1.after H3.out) k2 (by have h1 := HK.out.2; have h2 := H2.out.1.len; omega) w3) ?_; rintro e w4 ⟨⟨a4, n4, c4, he, hI⟩, hw⟩; subst he; have hw2 := hw.symm; clear hw; subst hw2; have H4 := show Hid (InB w3 a4 n4 c4 ((bs.drop k1).drop k2)) from hI; clear hI)
    | (go_at_call 83; refine Calls.mono (gu_k H2.out.1 HG.out.2.2.1 HG.out.2.2.2.1 HG.out.2.2.2.2) ?_; rintro e w3 ⟨rfl, ha⟩; have H3 := show Hid (After w1 w3) from ha; clear ha)
    | (go_at_call 85; have _u := H1.out; clear _u; refine Calls.mono (rest_k (HIN.out.after H1.out.2) k1 HK.out.1 w1) ?_; rintro e w2 ⟨⟨a2, n2, c2, he, hI⟩, hw⟩; subst he; have hw2 := hw.symm; clear hw; subst hw2; have H2 := show Hid (InB w1 a2 n2 c2 (bs.drop k1) ∧ True) from ⟨hI, trivial⟩; clear hI)
    | (go_at_call 84; refine Calls.mono (gruns_k HIN.out HG.out.1 HG.out.2.1) ?_; rintro e w1 ⟨p1, c1, he, hI, ha⟩; subst he; have H1 := show Hid (IntsAt w1 p1 la ∧ After w w1) from ⟨hI, ha⟩; clear hI ha))
  have HW1 := show Hid (After w w3 ∧ IntsAt w3 p1 la ∧ InB w3 a4 n4 c4 r2) from ⟨After.trans H1.out.2 H3.out, intsAt_after H1.out.1 H3.out, by rw [← HR2.out]; exact H4.out⟩
  obtain ⟨B, hB⟩ : ∃ B, B = w3.heap.size := ⟨_, rfl⟩
  have HB : Hid (B = w3.heap.size) := hB
  clear hB
  go_loopw [7, 10, 11] (fun vi vn vj wr => ∃ (j : Nat) (a n c : _) (L : List (List UInt8)) (r : List UInt8), vi = .slice a n c ∧ vj = .int .u64 (j : Int) ∧ j ≤ v2 ∧ Hid (textsM 32 j r2 false = (L, r, false) ∧ InB w3 a n c r ∧ Fam wr B [rS vn L] ∧ After w3 wr)) (fun _ _ vj _ => v2 - (intOf vj).toNat)
  case atStart => exact ⟨0, a4, n4, c4, [], r2, rfl, rfl, Nat.zero_le _, rfl, HW1.out.2.2, ⟨fun k r hr => by
    have h6 : k < 1 := by have := (List.getElem?_eq_some_iff.1 hr).1; simpa using this
    match k, h6, hr with
    | 0, _, hr => cases hr; exact World.ownsRow_nil _ _ _ _, fun j k r s hr hs hjk g hg => by
    have h6 : j < 1 := by have := (List.getElem?_eq_some_iff.1 hr).1; simpa using this
    match j, h6, hr with
    | 0, _, hr => cases hr; cases hg⟩, After.refl _⟩
  case round =>
    obtain ⟨j, a, n, c, L, r, hva, hvj, hj, HI⟩ := hrel
    obtain ⟨vn, hvn⟩ : ∃ v, v = u10 := ⟨_, rfl⟩
    subst hva hvj hvn
    have HLL : Hid (L.length = j) := textsM_count 32 HI.out.1
    by_cases hlt : j < v2
    · have hii : (j : Int) < (v2 : Int) := by omega
      obtain ⟨s, es⟩ : ∃ v, gtS r (32 : Nat) = v := ⟨_, rfl⟩
      obtain ⟨kt, ek⟩ : ∃ v, gtK r (32 : Nat) = v := ⟨_, rfl⟩
      obtain ⟨qt, eq⟩ : ∃ v, gtE r (32 : Nat) = v := ⟨_, rfl⟩
      have HT : Hid (gtS r (32 : Nat) = s ∧ gtK r (32 : Nat) = kt ∧ gtE r (32 : Nat) = qt) := ⟨es, ek, eq⟩
      have HTM : Hid (textsM 32 (j + 1) r2 false = (L ++ [s], r.drop kt, decide (qt ≠ 0)) ∧ kt ≤ n) := by
        refine ⟨?_, by rw [← HI.out.2.1.len, ← ek]; exact gtK_le _ _⟩
        rw [textsM_snoc, HI.out.1]
        show (L ++ [(textM 32 r false).1], (textM 32 r false).2) = _
        unfold textM
        simp only [Bool.false_eq_true, if_false]
        rw [show gtS r 32 = s from es, show gtK r 32 = kt from ek, show gtE r 32 = qt from eq]
      clear es ek eq
      by_cases zt : qt = 0
      case neg =>
        have fti : ¬ (qt : Int) = 0 := by omega
        have ftb : ((qt : Int) == 0) = false := beq_eq_false_iff_ne.2 fti
        have ftn : ((qt : Int) != 0) = true := by simp [bne, ftb]
        go_wp2_with (go_at_call 81; refine Calls.mono (gt_k (HI.out.2.1.after HI.out.2.2.2) 32 (by omega) HT.out.1 HT.out.2.1 HT.out.2.2) ?_; rintro e w5 ⟨rfl, ha⟩; have H5 := show Hid (After wr w5) from ha; clear ha)
        go_ret2
        exact rgp_none (readM_t HG.out.1 HCT.out (j := j + 1) (by omega) (by rw [HR2.out, HTM.out.1]; simpa using zt)) (After.trans HW1.out.1 (After.trans HI.out.2.2.2 H5.out))
      subst zt
      go_wp2_with (first
        | (go_at_call 85; have _u := H6.out; clear _u; refine Calls.mono (rest_k HI.out.2.1 kt HTM.out.2 w6) ?_; rintro e w7 ⟨⟨a7, n7, c7, he, hI⟩, hw⟩; subst he; have hw2 := hw.symm; clear hw; subst hw2; have H7 := show Hid (InB w3 a7 n7 c7 (r.drop kt)) from hI; clear hI)
        | (at_builtin; refine wpList_fam_str rfl _ _ rfl 0 vn L rfl (HI.out.2.2.1.after H5.out) rfl s rfl (by rw [HLL.out]; omega) (by rw [HB.out]; have h1 := HI.out.2.2.2.size; have h2 := H5.out.size; omega) 9 ?_; intro v6 w6 hF hg; have H6 := show Hid (Fam w6 B [rS v6 (L ++ [s])] ∧ After w3 w6) from ⟨hF, ((HI.out.2.2.1.after H5.out).after (after_alloc (After.refl w5) _)).grown (k := 0) rfl hg (After.trans HI.out.2.2.2 (after_alloc H5.out _)) (by rw [HB.out]; exact Nat.le_refl _)⟩; clear hF hg)
        | (go_at_call 81; refine Calls.mono (gt_k (HI.out.2.1.after HI.out.2.2.2) 32 (by omega) HT.out.1 HT.out.2.1 HT.out.2.2) ?_; rintro e w5 ⟨rfl, ha⟩; have H5 := show Hid (After wr w5) from ha; clear ha))
      go_roundw
      case rel => exact ⟨j + 1, a7, n7, c7, L ++ [s], r.drop kt, rfl, by go_num, by omega, HTM.out.1, H7.out, H6.out⟩
      case measure => simp [intOf]; omega
    · obtain rfl : j = v2 := by omega
      have hii : ¬ (j : Int) < (j : Int) := by omega
      obtain ⟨aN, cN, hvN, hSN, hcN⟩ := strs_of_own HLL.out (HI.out.2.2.1.own 0 _ rfl)
      have hvN' : vn = .slice aN j cN := hvN
      subst hvN'
      have HSN : Hid (StrsAt wr aN L ∧ L.length = j) := ⟨hSN, HLL.out⟩
      obtain ⟨⟨lw, k3, q3⟩, h3⟩ : ∃ x, G1 r = x := ⟨_, rfl⟩
      obtain ⟨⟨lp, k4, q4⟩, h4⟩ : ∃ x, G2 (r.drop k3) = x := ⟨_, rfl⟩
      obtain ⟨⟨ly, k5, q5⟩, h5⟩ : ∃ x, G1 ((r.drop k3).drop k4) = x := ⟨_, rfl⟩
      obtain ⟨m2, hm2⟩ : ∃ m, lw.length = m := ⟨_, rfl⟩
      obtain ⟨m3, hm3⟩ : ∃ m, lp.length = m := ⟨_, rfl⟩
      obtain ⟨m4, hm4⟩ : ∃ m, ly.length = m := ⟨_, rfl⟩
      have HCC := show Hid _ from colsM_of HG.out.1 HCT.out (by rw [HR2.out]; exact HI.out.1) h3 h4 h5
      have HGG : Hid (G1 r = (lw, k3, q3) ∧ G2 (r.drop k3) = (lp, k4, q4) ∧ G1 ((r.drop k3).drop k4) = (ly, k5, q5) ∧ lw.length = m2 ∧ lp.length = m3 ∧ ly.length = m4) := ⟨h3, h4, h5, hm2, hm3, hm4⟩
      have HKK : Hid (k3 ≤ r.length ∧ k4 ≤ (r.drop k3).length ∧ k5 ≤ ((r.drop k3).drop k4).length) := ⟨by have := G1_le r; rw [h3] at this; exact this, by have := G2_le (r.drop k3); rw [h4] at this; exact this, by have := G1_le ((r.drop k3).drop k4); rw [h5] at this; exact this⟩
      have HII := show Hid (InB wr a n c r) from HI.out.2.1.after HI.out.2.2.2
      have HWR := show Hid (After w wr ∧ IntsAt wr p1 la) from ⟨After.trans HW1.out.1 HI.out.2.2.2, intsAt_after HW1.out.2.1 HI.out.2.2.2⟩
      clear hSN hcN h3 h4 h5 hm2 hm3 hm4 hvN
      clear H1 H2 H3 H4
      by_cases zq3 : q3 = 0
      case neg =>
        have gq3i : ¬ (q3 : Int) = 0 := by omega
        have gq3b : ((q3 : Int) == 0) = false := beq_eq_false_iff_ne.2 gq3i
        have gq3n : ((q3 : Int) != 0) = true := by simp [bne, gq3b]
        go_wp2_with (first
          | (go_at_call 85; have _u := K5.out; clear _u; refine Calls.mono (rest_k K4.out k5 (by have h1 := HKK.out.2.2; have h2 := K4.out.len; omega) y5) ?_; rintro e y6 ⟨⟨a8, n8, c8, he, hI⟩, hw⟩; subst he; have hw2 := hw.symm; clear hw; subst hw2; have K6 := show Hid (InB wr a8 n8 c8 (((r.drop k3).drop k4).drop k5)) from hI; clear hI)
          | (go_at_call 84; have _u := K4.out; clear _u; refine Calls.mono (gruns_k (K4.out.after K3.out.2.2) HGG.out.2.2.1 HGG.out.2.2.2.2.2) ?_; rintro e y5 ⟨p5, d5, he, hI, ha⟩; subst he; have K5 := show Hid (IntsAt y5 p5 ly ∧ After y3 y5 ∧ After wr y5) from ⟨hI, ha, After.trans K3.out.2.2 ha⟩; clear hI ha)
          | (go_at_call 85; have _u := K3.out; clear _u; refine Calls.mono (rest_k K2.out k4 (by have h1 := HKK.out.2.1; have h2 := K2.out.len; omega) y3) ?_; rintro e y4 ⟨⟨a6, n6, c6, he, hI⟩, hw⟩; subst he; have hw2 := hw.symm; clear hw; subst hw2; have K4 := show Hid (InB wr a6 n6 c6 ((r.drop k3).drop k4)) from hI; clear hI)
          | (go_at_call 86; refine Calls.mono (gdel_k (K2.out.after K1.out.2) HGG.out.2.1 HGG.out.2.2.2.2.1) ?_; rintro e y3 ⟨p4, d4, he, hI, ha⟩; subst he; have K3 := show Hid (IntsAt y3 p4 lp ∧ After y1 y3 ∧ After wr y3) from ⟨hI, ha, After.trans K1.out.2 ha⟩; clear hI ha)
          | (go_at_call 85; have _u := K1.out; clear _u; refine Calls.mono (rest_k HII.out k3 (by have h1 := HKK.out.1; have h2 := HII.out.len; omega) y1) ?_; rintro e y2 ⟨⟨a5, n5, c5, he, hI⟩, hw⟩; subst he; have hw2 := hw.symm; clear hw; subst hw2; have K2 := show Hid (InB wr a5 n5 c5 (r.drop k3)) from hI; clear hI)
          | (go_at_call 84; refine Calls.mono (gruns_k HII.out HGG.out.1 HGG.out.2.2.2.1) ?_; rintro e y1 ⟨p3, d3, he, hI, ha⟩; subst he; have K1 := show Hid (IntsAt y1 p3 lw ∧ After wr y1) from ⟨hI, ha⟩; clear hI ha))
        go_ret2
        exact rgp_none (HCC.out.2 (.inl zq3)) (After.trans HWR.out.1 K5.out.2.2)
      subst zq3
      by_cases zq4 : q4 = 0
      case neg =>
        have gq4i : ¬ (q4 : Int) = 0 := by omega
        have gq4b : ((q4 : Int) == 0) = false := beq_eq_false_iff_ne.2 gq4i
        have gq4n : ((q4 : Int) != 0) = true := by simp [bne, gq4b]
        go_wp2_with (first
          | (go_at_call 85; have _u := K5.out; clear _u; refine Calls.mono (rest_k K4.out k5 (by have h1 := HKK.out.2.2; have h2 := K4.out.len; omega) y5) ?_; rintro e y6 ⟨⟨a8, n8, c8, he, hI⟩, hw⟩; subst he; have hw2 := hw.symm; clear hw; subst hw2; have K6 := show Hid (InB wr a8 n8 c8 (((r.drop k3).drop k4).drop k5)) from hI; clear hI)
          | (go_at_call 84; have _u := K4.out; clear _u; refine Calls.mono (gruns_k (K4.out.after K3.out.2.2) HGG.out.2.2.1 HGG.out.2.2.2.2.2) ?_; rintro e y5 ⟨p5, d5, he, hI, ha⟩; subst he; have K5 := show Hid (IntsAt y5 p5 ly ∧ After y3 y5 ∧ After wr y5) from ⟨hI, ha, After.trans K3.out.2.2 ha⟩; clear hI ha)
          | (go_at_call 85; have _u := K3.out; clear _u; refine Calls.mono (rest_k K2.out k4 (by have h1 := HKK.out.2.1; have h2 := K2.out.len; omega) y3) ?_; rintro e y4 ⟨⟨a6, n6, c6, he, hI⟩, hw⟩; subst he; have hw2 := hw.symm; clear hw; subst hw2; have K4 := show Hid (InB wr a6 n6 c6 ((r.drop k3).drop k4)) from hI; clear hI)
          | (go_at_call 86; refine Calls.mono (gdel_k (K2.out.after K1.out.2) HGG.out.2.1 HGG.out.2.2.2.2.1) ?_; rintro e y3 ⟨p4, d4, he, hI, ha⟩; subst he; have K3 := show Hid (IntsAt y3 p4 lp ∧ After y1 y3 ∧ After wr y3) from ⟨hI, ha, After.trans K1.out.2 ha⟩; clear hI ha)
          | (go_at_call 85; have _u := K1.out; clear _u; refine Calls.mono (rest_k HII.out k3 (by have h1 := HKK.out.1; have h2 := HII.out.len; omega) y1) ?_; rintro e y2 ⟨⟨a5, n5, c5, he, hI⟩, hw⟩; subst he; have hw2 := hw.symm; clear hw; subst hw2; have K2 := show Hid (InB wr a5 n5 c5 (r.drop k3)) from hI; clear hI)
          | (go_at_call 84; refine Calls.mono (gruns_k HII.out HGG.out.1 HGG.out.2.2.2.1) ?_; rintro e y1 ⟨p3, d3, he, hI, ha⟩; subst he; have K1 := show Hid (IntsAt y1 p3 lw ∧ After wr y1) from ⟨hI, ha⟩; clear hI ha))
        go_ret2
        exact rgp_none (HCC.out.2 (.inr (.inl zq4))) (After.trans HWR.out.1 K5.out.2.2)
      subst zq4
      by_cases zq5 : q5 = 0
      case neg =>
        have gq5i : ¬ (q5 : Int) = 0 := by omega
        have gq5b : ((q5 : Int) == 0) = false := beq_eq_false_iff_ne.2 gq5i
        have gq5n : ((q5 : Int) != 0) = true := by simp [bne, gq5b]
        go_wp2_with (first
          | (go_at_call 85; have _u := K5.out; clear _u; refine Calls.mono (rest_k K4.out k5 (by have h1 := HKK.out.2.2; have h2 := K4.out.len; omega) y5) ?_; rintro e y6 ⟨⟨a8, n8, c8, he, hI⟩, hw⟩; subst he; have hw2 := hw.symm; clear hw; subst hw2; have K6 := show Hid (InB wr a8 n8 c8 (((r.drop k3).drop k4).drop k5)) from hI; clear hI)
          | (go_at_call 84; have _u := K4.out; clear _u; refine Calls.mono (gruns_k (K4.out.after K3.out.2.2) HGG.out.2.2.1 HGG.out.2.2.2.2.2) ?_; rintro e y5 ⟨p5, d5, he, hI, ha⟩; subst he; have K5 := show Hid (IntsAt y5 p5 ly ∧ After y3 y5 ∧ After wr y5) from ⟨hI, ha, After.trans K3.out.2.2 ha⟩; clear hI ha)
          | (go_at_call 85; have _u := K3.out; clear _u; refine Calls.mono (rest_k K2.out k4 (by have h1 := HKK.out.2.1; have h2 := K2.out.len; omega) y3) ?_; rintro e y4 ⟨⟨a6, n6, c6, he, hI⟩, hw⟩; subst he; have hw2 := hw.symm; clear hw; subst hw2; have K4 := show Hid (InB wr a6 n6 c6 ((r.drop k3).drop k4)) from hI; clear hI)
          | (go_at_call 86; refine Calls.mono (gdel_k (K2.out.after K1.out.2) HGG.out.2.1 HGG.out.2.2.2.2.1) ?_; rintro e y3 ⟨p4, d4, he, hI, ha⟩; subst he; have K3 := show Hid (IntsAt y3 p4 lp ∧ After y1 y3 ∧ After wr y3) from ⟨hI, ha, After.trans K1.out.2 ha⟩; clear hI ha)
          | (go_at_call 85; have _u := K1.out; clear _u; refine Calls.mono (rest_k HII.out k3 (by have h1 := HKK.out.1; have h2 := HII.out.len; omega) y1) ?_; rintro e y2 ⟨⟨a5, n5, c5, he, hI⟩, hw⟩; subst he; have hw2 := hw.symm; clear hw; subst hw2; have K2 := show Hid (InB wr a5 n5 c5 (r.drop k3)) from hI; clear hI)
          | (go_at_call 84; refine Calls.mono (gruns_k HII.out HGG.out.1 HGG.out.2.2.2.1) ?_; rintro e y1 ⟨p3, d3, he, hI, ha⟩; subst he; have K1 := show Hid (IntsAt y1 p3 lw ∧ After wr y1) from ⟨hI, ha⟩; clear hI ha))
        go_ret2
        exact rgp_none (HCC.out.2 (.inr (.inr zq5))) (After.trans HWR.out.1 K5.out.2.2)
      subst zq5
      obtain ⟨C, hC⟩ : ∃ C, (⟨la, L, lw, lp, ly, ((r.drop k3).drop k4).drop k5, false⟩ : Cols) = C := ⟨_, rfl⟩
      have HRC : Hid (readM bs = readC C ∧ C.ks = la ∧ C.nms = L ∧ C.ws = lw ∧ C.ps = lp ∧ C.ys = ly ∧ C.fl = false ∧ C.rest = ((r.drop k3).drop k4).drop k5) := ⟨by unfold readM; rw [HCC.out.1 rfl rfl rfl, hC], by rw [← hC], by rw [← hC], by rw [← hC], by rw [← hC], by rw [← hC], by rw [← hC], by rw [← hC]⟩
      clear hC HCC
      by_cases qm2 : m1 = m2
      case neg =>
        have qi : ¬ (m2 : Int) = (m1 : Int) := by omega
        have qb : ((m2 : Int) == (m1 : Int)) = false := beq_eq_false_iff_ne.2 qi
        have qn : ((m2 : Int) != (m1 : Int)) = true := by simp [bne, qb]
        go_wp2_with (first
          | (go_at_call 85; have _u := K5.out; clear _u; refine Calls.mono (rest_k K4.out k5 (by have h1 := HKK.out.2.2; have h2 := K4.out.len; omega) y5) ?_; rintro e y6 ⟨⟨a8, n8, c8, he, hI⟩, hw⟩; subst he; have hw2 := hw.symm; clear hw; subst hw2; have K6 := show Hid (InB wr a8 n8 c8 (((r.drop k3).drop k4).drop k5)) from hI; clear hI)
          | (go_at_call 84; have _u := K4.out; clear _u; refine Calls.mono (gruns_k (K4.out.after K3.out.2.2) HGG.out.2.2.1 HGG.out.2.2.2.2.2) ?_; rintro e y5 ⟨p5, d5, he, hI, ha⟩; subst he; have K5 := show Hid (IntsAt y5 p5 ly ∧ After y3 y5 ∧ After wr y5) from ⟨hI, ha, After.trans K3.out.2.2 ha⟩; clear hI ha)
          | (go_at_call 85; have _u := K3.out; clear _u; refine Calls.mono (rest_k K2.out k4 (by have h1 := HKK.out.2.1; have h2 := K2.out.len; omega) y3) ?_; rintro e y4 ⟨⟨a6, n6, c6, he, hI⟩, hw⟩; subst he; have hw2 := hw.symm; clear hw; subst hw2; have K4 := show Hid (InB wr a6 n6 c6 ((r.drop k3).drop k4)) from hI; clear hI)
          | (go_at_call 86; refine Calls.mono (gdel_k (K2.out.after K1.out.2) HGG.out.2.1 HGG.out.2.2.2.2.1) ?_; rintro e y3 ⟨p4, d4, he, hI, ha⟩; subst he; have K3 := show Hid (IntsAt y3 p4 lp ∧ After y1 y3 ∧ After wr y3) from ⟨hI, ha, After.trans K1.out.2 ha⟩; clear hI ha)
          | (go_at_call 85; have _u := K1.out; clear _u; refine Calls.mono (rest_k HII.out k3 (by have h1 := HKK.out.1; have h2 := HII.out.len; omega) y1) ?_; rintro e y2 ⟨⟨a5, n5, c5, he, hI⟩, hw⟩; subst he; have hw2 := hw.symm; clear hw; subst hw2; have K2 := show Hid (InB wr a5 n5 c5 (r.drop k3)) from hI; clear hI)
          | (go_at_call 84; refine Calls.mono (gruns_k HII.out HGG.out.1 HGG.out.2.2.2.1) ?_; rintro e y1 ⟨p3, d3, he, hI, ha⟩; subst he; have K1 := show Hid (IntsAt y1 p3 lw ∧ After wr y1) from ⟨hI, ha⟩; clear hI ha))
        go_ret2
        exact rgp_none (by rw [HRC.out.1]; unfold readC; rw [if_pos (.inr (.inl (by rw [HRC.out.2.2.2.1, HRC.out.2.1, HGG.out.2.2.2.1, HG.out.2.1]; omega)))]) (After.trans HWR.out.1 K5.out.2.2)
      subst qm2
      by_cases qm3 : m1 = m3
      case neg =>
        have qi : ¬ (m3 : Int) = (m1 : Int) := by omega
        have qb : ((m3 : Int) == (m1 : Int)) = false := beq_eq_false_iff_ne.2 qi
        have qn : ((m3 : Int) != (m1 : Int)) = true := by simp [bne, qb]
        go_wp2_with (first
          | (go_at_call 85; have _u := K5.out; clear _u; refine Calls.mono (rest_k K4.out k5 (by have h1 := HKK.out.2.2; have h2 := K4.out.len; omega) y5) ?_; rintro e y6 ⟨⟨a8, n8, c8, he, hI⟩, hw⟩; subst he; have hw2 := hw.symm; clear hw; subst hw2; have K6 := show Hid (InB wr a8 n8 c8 (((r.drop k3).drop k4).drop k5)) from hI; clear hI)
          | (go_at_call 84; have _u := K4.out; clear _u; refine Calls.mono (gruns_k (K4.out.after K3.out.2.2) HGG.out.2.2.1 HGG.out.2.2.2.2.2) ?_; rintro e y5 ⟨p5, d5, he, hI, ha⟩; subst he; have K5 := show Hid (IntsAt y5 p5 ly ∧ After y3 y5 ∧ After wr y5) from ⟨hI, ha, After.trans K3.out.2.2 ha⟩; clear hI ha)
          | (go_at_call 85; have _u := K3.out; clear _u; refine Calls.mono (rest_k K2.out k4 (by have h1 := HKK.out.2.1; have h2 := K2.out.len; omega) y3) ?_; rintro e y4 ⟨⟨a6, n6, c6, he, hI⟩, hw⟩; subst he; have hw2 := hw.symm; clear hw; subst hw2; have K4 := show Hid (InB wr a6 n6 c6 ((r.drop k3).drop k4)) from hI; clear hI)
          | (go_at_call 86; refine Calls.mono (gdel_k (K2.out.after K1.out.2) HGG.out.2.1 HGG.out.2.2.2.2.1) ?_; rintro e y3 ⟨p4, d4, he, hI, ha⟩; subst he; have K3 := show Hid (IntsAt y3 p4 lp ∧ After y1 y3 ∧ After wr y3) from ⟨hI, ha, After.trans K1.out.2 ha⟩; clear hI ha)
          | (go_at_call 85; have _u := K1.out; clear _u; refine Calls.mono (rest_k HII.out k3 (by have h1 := HKK.out.1; have h2 := HII.out.len; omega) y1) ?_; rintro e y2 ⟨⟨a5, n5, c5, he, hI⟩, hw⟩; subst he; have hw2 := hw.symm; clear hw; subst hw2; have K2 := show Hid (InB wr a5 n5 c5 (r.drop k3)) from hI; clear hI)
          | (go_at_call 84; refine Calls.mono (gruns_k HII.out HGG.out.1 HGG.out.2.2.2.1) ?_; rintro e y1 ⟨p3, d3, he, hI, ha⟩; subst he; have K1 := show Hid (IntsAt y1 p3 lw ∧ After wr y1) from ⟨hI, ha⟩; clear hI ha))
        go_ret2
        exact rgp_none (by rw [HRC.out.1]; unfold readC; rw [if_pos (.inr (.inr (.inl (by rw [HRC.out.2.2.2.2.1, HRC.out.2.1, HGG.out.2.2.2.2.1, HG.out.2.1]; omega))))]) (After.trans HWR.out.1 K5.out.2.2)
      subst qm3
      by_cases qm4 : m1 = m4
      case neg =>
        have qi : ¬ (m4 : Int) = (m1 : Int) := by omega
        have qb : ((m4 : Int) == (m1 : Int)) = false := beq_eq_false_iff_ne.2 qi
        have qn : ((m4 : Int) != (m1 : Int)) = true := by simp [bne, qb]
        go_wp2_with (first
          | (go_at_call 85; have _u := K5.out; clear _u; refine Calls.mono (rest_k K4.out k5 (by have h1 := HKK.out.2.2; have h2 := K4.out.len; omega) y5) ?_; rintro e y6 ⟨⟨a8, n8, c8, he, hI⟩, hw⟩; subst he; have hw2 := hw.symm; clear hw; subst hw2; have K6 := show Hid (InB wr a8 n8 c8 (((r.drop k3).drop k4).drop k5)) from hI; clear hI)
          | (go_at_call 84; have _u := K4.out; clear _u; refine Calls.mono (gruns_k (K4.out.after K3.out.2.2) HGG.out.2.2.1 HGG.out.2.2.2.2.2) ?_; rintro e y5 ⟨p5, d5, he, hI, ha⟩; subst he; have K5 := show Hid (IntsAt y5 p5 ly ∧ After y3 y5 ∧ After wr y5) from ⟨hI, ha, After.trans K3.out.2.2 ha⟩; clear hI ha)
          | (go_at_call 85; have _u := K3.out; clear _u; refine Calls.mono (rest_k K2.out k4 (by have h1 := HKK.out.2.1; have h2 := K2.out.len; omega) y3) ?_; rintro e y4 ⟨⟨a6, n6, c6, he, hI⟩, hw⟩; subst he; have hw2 := hw.symm; clear hw; subst hw2; have K4 := show Hid (InB wr a6 n6 c6 ((r.drop k3).drop k4)) from hI; clear hI)
          | (go_at_call 86; refine Calls.mono (gdel_k (K2.out.after K1.out.2) HGG.out.2.1 HGG.out.2.2.2.2.1) ?_; rintro e y3 ⟨p4, d4, he, hI, ha⟩; subst he; have K3 := show Hid (IntsAt y3 p4 lp ∧ After y1 y3 ∧ After wr y3) from ⟨hI, ha, After.trans K1.out.2 ha⟩; clear hI ha)
          | (go_at_call 85; have _u := K1.out; clear _u; refine Calls.mono (rest_k HII.out k3 (by have h1 := HKK.out.1; have h2 := HII.out.len; omega) y1) ?_; rintro e y2 ⟨⟨a5, n5, c5, he, hI⟩, hw⟩; subst he; have hw2 := hw.symm; clear hw; subst hw2; have K2 := show Hid (InB wr a5 n5 c5 (r.drop k3)) from hI; clear hI)
          | (go_at_call 84; refine Calls.mono (gruns_k HII.out HGG.out.1 HGG.out.2.2.2.1) ?_; rintro e y1 ⟨p3, d3, he, hI, ha⟩; subst he; have K1 := show Hid (IntsAt y1 p3 lw ∧ After wr y1) from ⟨hI, ha⟩; clear hI ha))
        go_ret2
        exact rgp_none (by rw [HRC.out.1]; unfold readC; rw [if_pos (.inr (.inr (.inr (by rw [HRC.out.2.2.2.2.2.1, HRC.out.2.1, HGG.out.2.2.2.2.2, HG.out.2.1]; omega))))]) (After.trans HWR.out.1 K5.out.2.2)
      subst qm4
      go_wp2_with (first
        | (go_at_call 85; have _u := K5.out; clear _u; refine Calls.mono (rest_k K4.out k5 (by have h1 := HKK.out.2.2; have h2 := K4.out.len; omega) y5) ?_; rintro e y6 ⟨⟨a8, n8, c8, he, hI⟩, hw⟩; subst he; have hw2 := hw.symm; clear hw; subst hw2; have K6 := show Hid (InB wr a8 n8 c8 (((r.drop k3).drop k4).drop k5)) from hI; clear hI)
        | (go_at_call 84; have _u := K4.out; clear _u; refine Calls.mono (gruns_k (K4.out.after K3.out.2.2) HGG.out.2.2.1 HGG.out.2.2.2.2.2) ?_; rintro e y5 ⟨p5, d5, he, hI, ha⟩; subst he; have K5 := show Hid (IntsAt y5 p5 ly ∧ After y3 y5 ∧ After wr y5) from ⟨hI, ha, After.trans K3.out.2.2 ha⟩; clear hI ha)
        | (go_at_call 85; have _u := K3.out; clear _u; refine Calls.mono (rest_k K2.out k4 (by have h1 := HKK.out.2.1; have h2 := K2.out.len; omega) y3) ?_; rintro e y4 ⟨⟨a6, n6, c6, he, hI⟩, hw⟩; subst he; have hw2 := hw.symm; clear hw; subst hw2; have K4 := show Hid (InB wr a6 n6 c6 ((r.drop k3).drop k4)) from hI; clear hI)
        | (go_at_call 86; refine Calls.mono (gdel_k (K2.out.after K1.out.2) HGG.out.2.1 HGG.out.2.2.2.2.1) ?_; rintro e y3 ⟨p4, d4, he, hI, ha⟩; subst he; have K3 := show Hid (IntsAt y3 p4 lp ∧ After y1 y3 ∧ After wr y3) from ⟨hI, ha, After.trans K1.out.2 ha⟩; clear hI ha)
        | (go_at_call 85; have _u := K1.out; clear _u; refine Calls.mono (rest_k HII.out k3 (by have h1 := HKK.out.1; have h2 := HII.out.len; omega) y1) ?_; rintro e y2 ⟨⟨a5, n5, c5, he, hI⟩, hw⟩; subst he; have hw2 := hw.symm; clear hw; subst hw2; have K2 := show Hid (InB wr a5 n5 c5 (r.drop k3)) from hI; clear hI)
        | (go_at_call 84; refine Calls.mono (gruns_k HII.out HGG.out.1 HGG.out.2.2.2.1) ?_; rintro e y1 ⟨p3, d3, he, hI, ha⟩; subst he; have K1 := show Hid (IntsAt y1 p3 lw ∧ After wr y1) from ⟨hI, ha⟩; clear hI ha))
      obtain ⟨W0, hW0⟩ : ∃ W, W = y5 := ⟨_, rfl⟩
      have HCI : Hid (IntsAt y5 p1 la ∧ IntsAt y5 p3 lw ∧ IntsAt y5 p4 lp ∧ IntsAt y5 p5 ly ∧ StrsAt y5 aN L ∧ InB y5 a8 n8 c8 (((r.drop k3).drop k4).drop k5) ∧ After w y5 ∧ BytesAt y5 a0 bs) := ⟨intsAt_after HWR.out.2 K5.out.2.2, intsAt_after K1.out.1 (After.trans K3.out.2.1 K5.out.2.1), intsAt_after K3.out.1 K5.out.2.1, K5.out.1, HSN.out.1.after K5.out.2.2, K6.out.after K5.out.2.2, After.trans HWR.out.1 K5.out.2.2, HIN.out.at_.after (After.trans HWR.out.1 K5.out.2.2)⟩
      subst hW0
      clear K1 K2 K3 K4 K5 K6 HII HWR HI
      obtain ⟨rest0, hrest0⟩ : ∃ x, ((r.drop k3).drop k4).drop k5 = x := ⟨_, rfl⟩
      rw [hrest0] at HCI HRC
      clear hrest0 HKK
      have HBG : Hid (rest0.length ≤ 140737488355328) := by have h1 := HCI.out.2.2.2.2.2.1.len; have h2 := HCI.out.2.2.2.2.2.1.big; unfold Hid; omega
      go_loopw [7, 19, 20] (fun vi vl vj wr => ∃ (i : Nat) (a n c : _) (S : RdS), vi = .slice a n c ∧ vj = .int .i64 (i : Int) ∧ i ≤ m1 ∧ Hid (stM C i = some S ∧ S.fl = false ∧ S.ops.length = i ∧ InB W0 a n c S.rest ∧ OwnO wr W0.heap.size vl S.ops ∧ After W0 wr)) (fun _ _ vj _ => m1 - (intOf vj).toNat)
      case atStart => exact ⟨0, a8, n8, c8, ⟨[], rest0, false⟩, rfl, rfl, Nat.zero_le _, by show some (⟨[], C.rest, false⟩ : RdS) = _; rw [HRC.out.2.2.2.2.2.2.2], rfl, rfl, HCI.out.2.2.2.2.2.1, OwnO.nil _ _, After.refl _⟩
      case round =>
        obtain ⟨i, a, n, c, S, hva, hvj, hi, HS⟩ := hrel
        obtain ⟨vl, hvl⟩ : ∃ v, v = u19 := ⟨_, rfl⟩
        subst hva hvj hvl
        by_cases hlt : i < m1
        · have hii : (i : Int) < (m1 : Int) := by omega
          obtain ⟨b1, o1, hp1, hc1⟩ := ints_len (intsAt_after HCI.out.1 HS.out.2.2.2.2.2) HG.out.2.1 hlt
          obtain ⟨b4, o4, hp4, hc4⟩ := ints_len (intsAt_after HCI.out.2.1 HS.out.2.2.2.2.2) HGG.out.2.2.2.1 hlt
          obtain ⟨b5, o5, hp5, hc5⟩ := ints_len (intsAt_after HCI.out.2.2.1 HS.out.2.2.2.2.2) HGG.out.2.2.2.2.1 hlt
          obtain ⟨b6, o6, hp6, hc6⟩ := ints_len (intsAt_after HCI.out.2.2.2.1 HS.out.2.2.2.2.2) HGG.out.2.2.2.2.2 hlt
          subst hp1 hp4 hp5 hp6
          obtain ⟨k, hk⟩ : ∃ k, la[i]?.getD 0 = k := ⟨_, rfl⟩
          obtain ⟨z, hz⟩ : ∃ z, lw[i]?.getD 0 = z := ⟨_, rfl⟩
          obtain ⟨p, hp⟩ : ∃ p, lp[i]?.getD 0 = p := ⟨_, rfl⟩
          obtain ⟨y, hy⟩ : ∃ y, ly[i]?.getD 0 = y := ⟨_, rfl⟩
          rw [hk] at hc1
          rw [hz] at hc4
          rw [hp] at hc5
          rw [hy] at hc6
          have HZ : Hid (C.ws[i]?.getD 0 = z ∧ C.nms.length = j) := ⟨by rw [HRC.out.2.2.2.1]; exact hz, by rw [HRC.out.2.2.1]; exact HSN.out.2⟩
          have HXX : Hid (∀ nm, L[z.toNat]?.getD [] = nm → opAt C i = ⟨k, nm, p, y, []⟩) := fun nm hnm => by
            unfold opAt
            rw [HRC.out.2.1, HRC.out.2.2.1, HRC.out.2.2.2.1, HRC.out.2.2.2.2.1, HRC.out.2.2.2.2.2.1, hk, hz, hp, hy, hnm]
          have OUT : Hid ((z < 0 ∨ (j : Int) ≤ z) → readM bs = none) := fun h => by
            rw [HRC.out.1]
            exact readC_none (n := m1) (by rw [HRC.out.2.1]; exact HG.out.2.1) (stM_none (stM_out HS.out.1 (by rw [HZ.out.1, HZ.out.2]; exact h)) m1 (by omega))
          have HAW := show Hid (After w wr) from After.trans HCI.out.2.2.2.2.2.2.1 HS.out.2.2.2.2.2
          clear hk hz hp hy
          by_cases hz0 : z < 0
          · go_wp2
            go_ret2
            exact rgp_none (OUT.out (.inl hz0)) HAW.out
          · by_cases hz1 : (j : Int) ≤ z
            · have hz2 : z ≥ (j : Int) := hz1
              go_wp2
              go_ret2
              exact rgp_none (OUT.out (.inr hz1)) HAW.out
            · have hz2 : ¬ z ≥ (j : Int) := hz1
              have HZ0 : Hid (¬ (C.ws[i]?.getD 0 < 0 ∨ (C.nms.length : Int) ≤ C.ws[i]?.getD 0)) := fun h => by rw [HZ.out.1, HZ.out.2] at h; omega
              obtain ⟨zn, rfl⟩ : ∃ zn : Nat, z = (zn : Int) := ⟨z.toNat, by omega⟩
              have hzn : zn < j := by omega
              obtain ⟨nm, hnm⟩ : ∃ nm, L[zn]?.getD [] = nm := ⟨_, rfl⟩
              have HX : Hid (opAt C i = ⟨k, nm, p, y, []⟩) := HXX.out nm (by rw [Int.toNat_natCast]; exact hnm)
              obtain ⟨bN, oN, haN, hcN⟩ := HCI.out.2.2.2.2.1 (fun e => by have h := HSN.out.2; rw [e] at h; simp at h; omega)
              have hcn : wr.cell? ⟨bN, oN + zn, none⟩ = some (.string (strOf nm)) := by
                have h1 : L[zn]? = some nm := by
                  rw [List.getElem?_eq_getElem (by rw [HSN.out.2]; exact hzn)] at hnm ⊢
                  simpa using hnm
                have h2 := hcN zn nm h1
                exact (Below.cell HS.out.2.2.2.2.2 (p := ⟨bN, oN + zn, none⟩) (World.block_lt_of_cell? _ _ h2)).trans h2
              subst haN
              have HC1 : Hid (wr.cell? ⟨b1, o1 + i, none⟩ = some (.int .i64 k)) := hc1
              have HC4 : Hid (wr.cell? ⟨b4, o4 + i, none⟩ = some (.int .i64 (zn : Int))) := hc4
              have HC5 : Hid (wr.cell? ⟨b5, o5 + i, none⟩ = some (.int .i64 p)) := hc5
              have HC6 : Hid (wr.cell? ⟨b6, o6 + i, none⟩ = some (.int .i64 y)) := hc6
              have HCN : Hid (wr.cell? ⟨bN, oN + zn, none⟩ = some (.string (strOf nm))) := hcn
              clear hnm hcN hcn hc1 hc5 hc6
              go_wp2_with fail
              clear hc4
              refine wp_region_noPanic ?_
              refine wp_region_held_drew (S := After wr) (by kernel_rfl) (After.drew (After.refl wr)) ?_
              intro hS0
              refine tk 0 153 (.slice (some ⟨b1, o1, none⟩) m1 c1) (fuel := 21) rfl (by kernel_rfl) (by kernel_rfl) (by kernel_rfl) (by kernel_rfl) noPanic_false (by kernel_rfl) (fun _ _ => by kernel_rfl) hS0 ?_
              refine tk 1 154 (.int .i64 (i : Int)) (fuel := 20) rfl (by kernel_rfl) (by kernel_rfl) (by kernel_rfl) (by kernel_rfl) noPanic_false (by kernel_rfl) (fun _ _ => by kernel_rfl) hS0 ?_
              refine tk 2 155 (.pointer (some ⟨b1, o1 + i, none⟩)) (fuel := 19) rfl (by kernel_rfl) (by kernel_rfl) (by kernel_rfl) (by kernel_rfl) noPanic_false (by kernel_rfl) (fun W _ => x_idx46 (x := .tmp 153) (y := .tmp 154) (b := b1) (p := o1) (n := m1) (c := c1) (j := i) (by kernel_rfl) (by kernel_rfl) (by kernel_rfl) hlt) hS0 ?_
              refine tk 3 156 (.int .i64 k) (fuel := 18) rfl (by kernel_rfl) (by kernel_rfl) (by kernel_rfl) (by kernel_rfl) noPanic_false (by kernel_rfl) (fun W hW => x_load2 (x := .tmp 155) (g := b1) (p := o1 + i) (z := k) (by kernel_rfl) (by kernel_rfl) ((Below.cell hW (p := ⟨b1, o1 + i, none⟩) (World.block_lt_of_cell? _ _ HC1.out)).trans HC1.out)) hS0 ?_
              refine tk 4 157 (.slice (some ⟨bN, oN, none⟩) j cN) (fuel := 17) rfl (by kernel_rfl) (by kernel_rfl) (by kernel_rfl) (by kernel_rfl) noPanic_false (by kernel_rfl) (fun _ _ => by kernel_rfl) hS0 ?_
              refine tk 5 158 (.slice (some ⟨b4, o4, none⟩) m1 d3) (fuel := 16) rfl (by kernel_rfl) (by kernel_rfl) (by kernel_rfl) (by kernel_rfl) noPanic_false (by kernel_rfl) (fun _ _ => by kernel_rfl) hS0 ?_
              refine tk 6 159 (.int .i64 (i : Int)) (fuel := 15) rfl (by kernel_rfl) (by kernel_rfl) (by kernel_rfl) (by kernel_rfl) noPanic_false (by kernel_rfl) (fun _ _ => by kernel_rfl) hS0 ?_
              refine tk 7 160 (.pointer (some ⟨b4, o4 + i, none⟩)) (fuel := 14) rfl (by kernel_rfl) (by kernel_rfl) (by kernel_rfl) (by kernel_rfl) noPanic_false (by kernel_rfl) (fun W _ => x_idx46 (x := .tmp 158) (y := .tmp 159) (b := b4) (p := o4) (n := m1) (c := d3) (j := i) (by kernel_rfl) (by kernel_rfl) (by kernel_rfl) hlt) hS0 ?_
              refine tk 8 161 (.int .i64 (zn : Int)) (fuel := 13) rfl (by kernel_rfl) (by kernel_rfl) (by kernel_rfl) (by kernel_rfl) noPanic_false (by kernel_rfl) (fun W hW => x_load2 (x := .tmp 160) (g := b4) (p := o4 + i) (z := (zn : Int)) (by kernel_rfl) (by kernel_rfl) ((Below.cell hW (p := ⟨b4, o4 + i, none⟩) (World.block_lt_of_cell? _ _ HC4.out)).trans HC4.out)) hS0 ?_
              refine tk 9 162 (.pointer (some ⟨bN, oN + zn, none⟩)) (fuel := 12) rfl (by kernel_rfl) (by kernel_rfl) (by kernel_rfl) (by kernel_rfl) noPanic_false (by kernel_rfl) (fun W _ => x_idx45 (x := .tmp 157) (y := .tmp 161) (b := bN) (p := oN) (n := j) (c := cN) (j := zn) (by kernel_rfl) (by kernel_rfl) (by kernel_rfl) hzn) hS0 ?_
              refine tk 10 163 (.string (strOf nm)) (fuel := 11) rfl (by kernel_rfl) (by kernel_rfl) (by kernel_rfl) (by kernel_rfl) noPanic_false (by kernel_rfl) (fun W hW => x_loadT (x := .tmp 162) (t := 9) (g := bN) (j := oN + zn) Tryz.underlying9 rfl (by kernel_rfl) (by kernel_rfl) ((Below.cell hW (p := ⟨bN, oN + zn, none⟩) (World.block_lt_of_cell? _ _ HCN.out)).trans HCN.out)) hS0 ?_
              refine tk 11 164 (.slice (some ⟨b5, o5, none⟩) m1 d4) (fuel := 10) rfl (by kernel_rfl) (by kernel_rfl) (by kernel_rfl) (by kernel_rfl) noPanic_false (by kernel_rfl) (fun _ _ => by kernel_rfl) hS0 ?_
              refine tk 12 165 (.int .i64 (i : Int)) (fuel := 9) rfl (by kernel_rfl) (by kernel_rfl) (by kernel_rfl) (by kernel_rfl) noPanic_false (by kernel_rfl) (fun _ _ => by kernel_rfl) hS0 ?_
              refine tk 13 166 (.pointer (some ⟨b5, o5 + i, none⟩)) (fuel := 8) rfl (by kernel_rfl) (by kernel_rfl) (by kernel_rfl) (by kernel_rfl) noPanic_false (by kernel_rfl) (fun W _ => x_idx46 (x := .tmp 164) (y := .tmp 165) (b := b5) (p := o5) (n := m1) (c := d4) (j := i) (by kernel_rfl) (by kernel_rfl) (by kernel_rfl) hlt) hS0 ?_
              refine tk 14 167 (.int .i64 p) (fuel := 7) rfl (by kernel_rfl) (by kernel_rfl) (by kernel_rfl) (by kernel_rfl) noPanic_false (by kernel_rfl) (fun W hW => x_load2 (x := .tmp 166) (g := b5) (p := o5 + i) (z := p) (by kernel_rfl) (by kernel_rfl) ((Below.cell hW (p := ⟨b5, o5 + i, none⟩) (World.block_lt_of_cell? _ _ HC5.out)).trans HC5.out)) hS0 ?_
              refine tk 15 168 (.slice (some ⟨b6, o6, none⟩) m1 d5) (fuel := 6) rfl (by kernel_rfl) (by kernel_rfl) (by kernel_rfl) (by kernel_rfl) noPanic_false (by kernel_rfl) (fun _ _ => by kernel_rfl) hS0 ?_
              refine tk 16 169 (.int .i64 (i : Int)) (fuel := 5) rfl (by kernel_rfl) (by kernel_rfl) (by kernel_rfl) (by kernel_rfl) noPanic_false (by kernel_rfl) (fun _ _ => by kernel_rfl) hS0 ?_
              refine tk 17 170 (.pointer (some ⟨b6, o6 + i, none⟩)) (fuel := 4) rfl (by kernel_rfl) (by kernel_rfl) (by kernel_rfl) (by kernel_rfl) noPanic_false (by kernel_rfl) (fun W _ => x_idx46 (x := .tmp 168) (y := .tmp 169) (b := b6) (p := o6) (n := m1) (c := d5) (j := i) (by kernel_rfl) (by kernel_rfl) (by kernel_rfl) hlt) hS0 ?_
              refine tk 18 171 (.int .i64 y) (fuel := 3) rfl (by kernel_rfl) (by kernel_rfl) (by kernel_rfl) (by kernel_rfl) noPanic_false (by kernel_rfl) (fun W hW => x_load2 (x := .tmp 170) (g := b6) (p := o6 + i) (z := y) (by kernel_rfl) (by kernel_rfl) ((Below.cell hW (p := ⟨b6, o6 + i, none⟩) (World.block_lt_of_cell? _ _ HC6.out)).trans HC6.out)) hS0 ?_
              refine tk 19 172 (.agg #[.int .i64 k, .string (strOf nm), .int .i64 p, .int .i64 y, .string ⟨#[]⟩]) (fuel := 2) rfl (by kernel_rfl) (by kernel_rfl) (by kernel_rfl) (by kernel_rfl) noPanic_false (by kernel_rfl) (fun _ _ => by kernel_rfl) hS0 ?_
              refine wpAnyH_all (rs := [20]) (by kernel_rfl) (by simp) (fun i1 hi1 => ?_)
              obtain rfl : i1 = 20 := by simpa using hi1
              clear hi1
              refine opVal 20 21 (.pointer (some ⟨wr.heap.size, 0, none⟩)) (wr.drew.alloc (.cells #[.int .i64 0, .string ⟨#[]⟩, .int .i64 0, .int .i64 0, .string ⟨#[]⟩] 46)) rfl (by kernel_rfl) (by kernel_rfl) (by kernel_rfl) ?_
              refine ⟨after_alloc hS0 _, ?_⟩
              refine tkStoreM 21 46 (.tmp 21) (.tmp 172) wr.heap.size 0 #[.int .i64 k, .string (strOf nm), .int .i64 p, .int .i64 y, .string ⟨#[]⟩] (fuel := 0) rfl rfl rfl (by kernel_rfl) (by kernel_rfl) (by kernel_rfl) (by kernel_rfl) (there_new wr.drew) (by kernel_rfl) (by kernel_rfl) (Below.setCells_new _ (after_alloc hS0 _) (Nat.le_refl _)) ?_
              refine wpAnyH_done (by kernel_rfl) (NoPanic.normal ?_) _
              have H5 := show Hid (RowIs ((wr.drew.alloc (.cells #[.int .i64 0, .string ⟨#[]⟩, .int .i64 0, .int .i64 0, .string ⟨#[]⟩] 46)).setCells wr.heap.size 0 (#[.int .i64 k, .string (strOf nm), .int .i64 p, .int .i64 y, .string ⟨#[]⟩] : Array Value).toList) wr.heap.size 46 (oc ⟨k, nm, p, y, []⟩) ∧ After wr ((wr.drew.alloc (.cells #[.int .i64 0, .string ⟨#[]⟩, .int .i64 0, .int .i64 0, .string ⟨#[]⟩] 46)).setCells wr.heap.size 0 (#[.int .i64 k, .string (strOf nm), .int .i64 p, .int .i64 y, .string ⟨#[]⟩] : Array Value).toList)) from ⟨row_new wr.drew ⟨k, nm, p, y, []⟩, Below.setCells_new _ (after_alloc hS0 _) (Nat.le_refl _)⟩
              revert H5
              generalize (wr.drew.alloc (.cells #[.int .i64 0, .string ⟨#[]⟩, .int .i64 0, .int .i64 0, .string ⟨#[]⟩] 46)).setCells wr.heap.size 0 (#[.int .i64 k, .string (strOf nm), .int .i64 p, .int .i64 y, .string ⟨#[]⟩] : Array Value).toList = W5
              intro H5
              clear hS0
              have f0 := H5.out.1.cell (j := 0) rfl
              by_cases hk1 : k = 1
              · have b1' : (k == 1) = true := beq_iff_eq.2 hk1
                have HT : Hid (hasT ⟨k, nm, p, y, []⟩ = true) := by unfold Hid hasT; simp [hk1]
                clear hk1
                obtain ⟨s, es⟩ : ∃ v, gtS S.rest (1024 : Nat) = v := ⟨_, rfl⟩
                obtain ⟨kt, ek⟩ : ∃ v, gtK S.rest (1024 : Nat) = v := ⟨_, rfl⟩
                obtain ⟨qt, eq⟩ : ∃ v, gtE S.rest (1024 : Nat) = v := ⟨_, rfl⟩
                have HTX : Hid (gtS S.rest (1024 : Nat) = s ∧ gtK S.rest (1024 : Nat) = kt ∧ gtE S.rest (1024 : Nat) = qt) := ⟨es, ek, eq⟩
                have HTM : Hid (stM C (i + 1) = some ⟨S.ops ++ [⟨k, nm, p, y, s⟩], S.rest.drop kt, decide (qt ≠ 0)⟩ ∧ kt ≤ n) := by
                  refine ⟨?_, by rw [← HS.out.2.2.2.1.len, ← ek]; exact gtK_le _ _⟩
                  refine stM_text HS.out.1 HZ0.out HX.out HT.out ?_
                  rw [HS.out.2.1]
                  unfold textM
                  simp only [Bool.false_eq_true, if_false]
                  rw [show gtS S.rest 1024 = s from es, show gtK S.rest 1024 = kt from ek, show gtE S.rest 1024 = qt from eq]
                clear es ek eq
                by_cases zt : qt = 0
                case neg =>
                  have fti : ¬ (qt : Int) = 0 := by omega
                  have ftb : ((qt : Int) == 0) = false := beq_eq_false_iff_ne.2 fti
                  have ftn : ((qt : Int) != 0) = true := by simp [bne, ftb]
                  go_simp
                  go_wp2_with (go_at_call 81; refine Calls.mono (gt_k (HS.out.2.2.2.1.after (After.trans HS.out.2.2.2.2.2 H5.out.2)) 1024 (by omega) HTX.out.1 HTX.out.2.1 HTX.out.2.2) ?_; rintro e w6 ⟨rfl, ha⟩; have H6 := show Hid (After wr w6 ∧ RowIs w6 wr.heap.size 46 (oc ⟨k, nm, p, y, []⟩)) from ⟨After.trans H5.out.2 ha, H5.out.1.below ha H5.out.1.lt⟩; have g4 := H6.out.2.cell (j := 4) rfl; have g4f := H6.out.2.frozen 4; clear ha)
                  go_ret2
                  exact rgp_none (by rw [HRC.out.1]; exact readC_up (n := m1) (by rw [HRC.out.2.1]; exact HG.out.2.1) (by omega) HTM.out.1 (by simpa using zt)) (After.trans HAW.out H6.out.1)
                subst zt
                go_simp
                go_wp2_with (first
                  | (at_builtin; refine wpList_append_ops rfl _ _ rfl W0.heap.size vl S.ops rfl ((HS.out.2.2.2.2.1.after H8.out.2).after (after_alloc (After.refl w8) _)) (some ⟨w8.heap.size, 0, none⟩) 1 [⟨k, nm, p, y, s⟩] 1 rfl rfl (ops_one w8 ⟨k, nm, p, y, s⟩) (by rw [HS.out.2.2.1]; omega) (by have h1 := HS.out.2.2.2.2.2.size; have h2 := (H8.out.2).size; simp; omega) ?_; intro v9 w9 ho hg _; have H9 := show Hid (OwnO w9 W0.heap.size v9 (S.ops ++ [⟨k, nm, p, y, s⟩]) ∧ After W0 w9) from ⟨ho, after_grown (After.trans HS.out.2.2.2.2.2 (after_alloc H8.out.2 _)) hg (Nat.le_refl _) (fun g hg => (World.ownsRow.lt HS.out.2.2.2.2.1 g hg).1)⟩; clear ho hg)
                  | (refine wpList_load_row rfl 46 (.tmp 21) rfl wr.heap.size rfl 46 _ (0, 0) _ H8.out.1 Tryz.underlying46 rfl (by kernel_rfl) ?_)
                  | (go_at_call 85; have _u := H6.out; clear _u; have H8 := show Hid (RowIs (w6.setCell ⟨wr.heap.size, 4, none⟩ (.string (strOf s))) wr.heap.size 46 (oc ⟨k, nm, p, y, s⟩) ∧ After wr (w6.setCell ⟨wr.heap.size, 4, none⟩ (.string (strOf s)))) from ⟨H6.out.2.set 4 _, Below.setCell H6.out.1 (p := ⟨wr.heap.size, 4, none⟩) (Nat.le_refl _) _⟩; revert H8; generalize w6.setCell ⟨wr.heap.size, 4, none⟩ (.string (strOf s)) = w8; intro H8; refine Calls.mono (rest_k HS.out.2.2.2.1 kt HTM.out.2 w8) ?_; rintro e w7 ⟨⟨a7, n7, c7, he, hI⟩, hw⟩; subst he; have hw2 := hw.symm; clear hw; subst hw2; have H7 := show Hid (InB W0 a7 n7 c7 (S.rest.drop kt)) from hI; clear hI)
                  | (go_at_call 81; refine Calls.mono (gt_k (HS.out.2.2.2.1.after (After.trans HS.out.2.2.2.2.2 H5.out.2)) 1024 (by omega) HTX.out.1 HTX.out.2.1 HTX.out.2.2) ?_; rintro e w6 ⟨rfl, ha⟩; have H6 := show Hid (After wr w6 ∧ RowIs w6 wr.heap.size 46 (oc ⟨k, nm, p, y, []⟩)) from ⟨After.trans H5.out.2 ha, H5.out.1.below ha H5.out.1.lt⟩; have g4 := H6.out.2.cell (j := 4) rfl; have g4f := H6.out.2.frozen 4; clear ha))
                go_roundw
                case rel => exact ⟨i + 1, a7, n7, c7, _, rfl, by go_num, by omega, HTM.out.1, rfl, by simp [HS.out.2.2.1], H7.out, H9.out.1, H9.out.2⟩
                case measure => simp [intOf]; omega
              · have b1' : (k == 1) = false := beq_eq_false_iff_ne.2 hk1
                by_cases hk4 : k = 4
                · have b4' : (k == 4) = true := beq_iff_eq.2 hk4
                  have HT : Hid (hasT ⟨k, nm, p, y, []⟩ = true) := by unfold Hid hasT; simp [hk4]
                  clear hk1 hk4
                  obtain ⟨s, es⟩ : ∃ v, gtS S.rest (1024 : Nat) = v := ⟨_, rfl⟩
                  obtain ⟨kt, ek⟩ : ∃ v, gtK S.rest (1024 : Nat) = v := ⟨_, rfl⟩
                  obtain ⟨qt, eq⟩ : ∃ v, gtE S.rest (1024 : Nat) = v := ⟨_, rfl⟩
                  have HTX : Hid (gtS S.rest (1024 : Nat) = s ∧ gtK S.rest (1024 : Nat) = kt ∧ gtE S.rest (1024 : Nat) = qt) := ⟨es, ek, eq⟩
                  have HTM : Hid (stM C (i + 1) = some ⟨S.ops ++ [⟨k, nm, p, y, s⟩], S.rest.drop kt, decide (qt ≠ 0)⟩ ∧ kt ≤ n) := by
                    refine ⟨?_, by rw [← HS.out.2.2.2.1.len, ← ek]; exact gtK_le _ _⟩
                    refine stM_text HS.out.1 HZ0.out HX.out HT.out ?_
                    rw [HS.out.2.1]
                    unfold textM
                    simp only [Bool.false_eq_true, if_false]
                    rw [show gtS S.rest 1024 = s from es, show gtK S.rest 1024 = kt from ek, show gtE S.rest 1024 = qt from eq]
                  clear es ek eq
                  by_cases zt : qt = 0
                  case neg =>
                    have fti : ¬ (qt : Int) = 0 := by omega
                    have ftb : ((qt : Int) == 0) = false := beq_eq_false_iff_ne.2 fti
                    have ftn : ((qt : Int) != 0) = true := by simp [bne, ftb]
                    go_simp
                    go_wp2_with (go_at_call 81; refine Calls.mono (gt_k (HS.out.2.2.2.1.after (After.trans HS.out.2.2.2.2.2 H5.out.2)) 1024 (by omega) HTX.out.1 HTX.out.2.1 HTX.out.2.2) ?_; rintro e w6 ⟨rfl, ha⟩; have H6 := show Hid (After wr w6 ∧ RowIs w6 wr.heap.size 46 (oc ⟨k, nm, p, y, []⟩)) from ⟨After.trans H5.out.2 ha, H5.out.1.below ha H5.out.1.lt⟩; have g4 := H6.out.2.cell (j := 4) rfl; have g4f := H6.out.2.frozen 4; clear ha)
                    go_ret2
                    exact rgp_none (by rw [HRC.out.1]; exact readC_up (n := m1) (by rw [HRC.out.2.1]; exact HG.out.2.1) (by omega) HTM.out.1 (by simpa using zt)) (After.trans HAW.out H6.out.1)
                  subst zt
                  go_simp
                  go_wp2_with (first
                    | (at_builtin; refine wpList_append_ops rfl _ _ rfl W0.heap.size vl S.ops rfl ((HS.out.2.2.2.2.1.after H8.out.2).after (after_alloc (After.refl w8) _)) (some ⟨w8.heap.size, 0, none⟩) 1 [⟨k, nm, p, y, s⟩] 1 rfl rfl (ops_one w8 ⟨k, nm, p, y, s⟩) (by rw [HS.out.2.2.1]; omega) (by have h1 := HS.out.2.2.2.2.2.size; have h2 := (H8.out.2).size; simp; omega) ?_; intro v9 w9 ho hg _; have H9 := show Hid (OwnO w9 W0.heap.size v9 (S.ops ++ [⟨k, nm, p, y, s⟩]) ∧ After W0 w9) from ⟨ho, after_grown (After.trans HS.out.2.2.2.2.2 (after_alloc H8.out.2 _)) hg (Nat.le_refl _) (fun g hg => (World.ownsRow.lt HS.out.2.2.2.2.1 g hg).1)⟩; clear ho hg)
                    | (refine wpList_load_row rfl 46 (.tmp 21) rfl wr.heap.size rfl 46 _ (0, 0) _ H8.out.1 Tryz.underlying46 rfl (by kernel_rfl) ?_)
                    | (go_at_call 85; have _u := H6.out; clear _u; have H8 := show Hid (RowIs (w6.setCell ⟨wr.heap.size, 4, none⟩ (.string (strOf s))) wr.heap.size 46 (oc ⟨k, nm, p, y, s⟩) ∧ After wr (w6.setCell ⟨wr.heap.size, 4, none⟩ (.string (strOf s)))) from ⟨H6.out.2.set 4 _, Below.setCell H6.out.1 (p := ⟨wr.heap.size, 4, none⟩) (Nat.le_refl _) _⟩; revert H8; generalize w6.setCell ⟨wr.heap.size, 4, none⟩ (.string (strOf s)) = w8; intro H8; refine Calls.mono (rest_k HS.out.2.2.2.1 kt HTM.out.2 w8) ?_; rintro e w7 ⟨⟨a7, n7, c7, he, hI⟩, hw⟩; subst he; have hw2 := hw.symm; clear hw; subst hw2; have H7 := show Hid (InB W0 a7 n7 c7 (S.rest.drop kt)) from hI; clear hI)
                    | (go_at_call 81; refine Calls.mono (gt_k (HS.out.2.2.2.1.after (After.trans HS.out.2.2.2.2.2 H5.out.2)) 1024 (by omega) HTX.out.1 HTX.out.2.1 HTX.out.2.2) ?_; rintro e w6 ⟨rfl, ha⟩; have H6 := show Hid (After wr w6 ∧ RowIs w6 wr.heap.size 46 (oc ⟨k, nm, p, y, []⟩)) from ⟨After.trans H5.out.2 ha, H5.out.1.below ha H5.out.1.lt⟩; have g4 := H6.out.2.cell (j := 4) rfl; have g4f := H6.out.2.frozen 4; clear ha))
                  go_roundw
                  case rel => exact ⟨i + 1, a7, n7, c7, _, rfl, by go_num, by omega, HTM.out.1, rfl, by simp [HS.out.2.2.1], H7.out, H9.out.1, H9.out.2⟩
                  case measure => simp [intOf]; omega
                · have b4' : (k == 4) = false := beq_eq_false_iff_ne.2 hk4
                  have HT : Hid (hasT ⟨k, nm, p, y, []⟩ = false) := by unfold Hid hasT; simp [hk1, hk4]
                  clear hk1 hk4
                  go_simp
                  go_wp2_with (first
                    | (at_builtin; refine wpList_append_ops rfl _ _ rfl W0.heap.size vl S.ops rfl ((HS.out.2.2.2.2.1.after H5.out.2).after (after_alloc (After.refl W5) _)) (some ⟨W5.heap.size, 0, none⟩) 1 [⟨k, nm, p, y, []⟩] 1 rfl rfl (ops_one W5 ⟨k, nm, p, y, []⟩) (by rw [HS.out.2.2.1]; omega) (by have h1 := HS.out.2.2.2.2.2.size; have h2 := (H5.out.2).size; simp; omega) ?_; intro v9 w9 ho hg _; have H9 := show Hid (OwnO w9 W0.heap.size v9 (S.ops ++ [⟨k, nm, p, y, []⟩]) ∧ After W0 w9) from ⟨ho, after_grown (After.trans HS.out.2.2.2.2.2 (after_alloc H5.out.2 _)) hg (Nat.le_refl _) (fun g hg => (World.ownsRow.lt HS.out.2.2.2.2.1 g hg).1)⟩; clear ho hg)
                    | (refine wpList_load_row rfl 46 (.tmp 21) rfl wr.heap.size rfl 46 _ (0, 0) _ H5.out.1 Tryz.underlying46 rfl (by kernel_rfl) ?_))
                  go_roundw
                  case rel => exact ⟨i + 1, a, n, c, _, rfl, by go_num, by omega, stM_plain HS.out.1 HZ0.out HX.out HT.out, HS.out.2.1, by simp [HS.out.2.2.1], HS.out.2.2.2.1, H9.out.1, H9.out.2⟩
                  case measure => simp [intOf]; omega
        · obtain rfl : i = m1 := by omega
          have hii : ¬ (i : Int) < (i : Int) := by omega
          have HRM : Hid (readM bs = some S.ops) := by
            rw [HRC.out.1, readC_some (n := i) (by rw [HRC.out.2.1]; exact HG.out.2.1) (by rw [HRC.out.2.2.2.1]; exact HGG.out.2.2.2.1) (by rw [HRC.out.2.2.2.2.1]; exact HGG.out.2.2.2.2.1) (by rw [HRC.out.2.2.2.2.2.1]; exact HGG.out.2.2.2.2.2) HRC.out.2.2.2.2.2.2.1 HS.out.1, HS.out.2.1]
            rfl
          have HOK : Hid (∀ x ∈ S.ops, x.Ok) := readM_ok (by have h1 := HIN.out.len; have h2 := HIN.out.big; unfold maxLen; omega) HRM.out
          obtain ⟨al, cl, hvl, hAl, _, hfr⟩ := ops_sl HS.out.2.2.2.2.1 HS.out.2.2.1
          subst hvl
          have HAL : Hid (OpsAt wr al S.ops) := hAl
          have HFR : Hid (∀ x, al = some x → w.heap.size ≤ x.block) := fun x hx => Nat.le_trans HCI.out.2.2.2.2.2.2.1.size (hfr x hx)
          clear hAl hfr
          have HAW := show Hid (After w wr ∧ BytesAt wr a0 bs) from ⟨After.trans HCI.out.2.2.2.2.2.2.1 HS.out.2.2.2.2.2, HCI.out.2.2.2.2.2.2.2.after HS.out.2.2.2.2.2⟩
          obtain ⟨q, hq⟩ : ∃ q, putE S.ops = q := ⟨_, rfl⟩
          obtain ⟨Bq, hBq⟩ : ∃ B, putBs S.ops = B := ⟨_, rfl⟩
          have HQ : Hid (putE S.ops = q ∧ putBs S.ops = Bq) := ⟨hq, hBq⟩
          have HGM : Hid (getM bs = if putE S.ops = 0 ∧ layB S.ops = bs then some S.ops else none) := by
            show getM bs = _
            unfold getM
            rw [HRM.out]
            rfl
          clear hq hBq
          by_cases zq : q = 0
          case neg =>
            have fqi : ¬ (q : Int) = 0 := by omega
            have fqb : ((q : Int) == 0) = false := beq_eq_false_iff_ne.2 fqi
            have fqn : ((q : Int) != 0) = true := by simp [bne, fqb]
            go_wp2_with (go_at_call 57; refine Calls.mono (rput_k al i cl S.ops HS.out.2.2.1 HOK.out (by omega) wr HAL.out HQ.out.1 HQ.out.2) ?_; rintro e w9 ⟨v9, rfl, ho, ha⟩; have H9 := show Hid (After wr w9) from ha; have hc1 := ho.conv; have hc2 : (convert 32 9 (.slice a0 n0 c0)).run Tryz.prog w9 = .ok (.string (strOf bs)) w9 := (by have h := conv_at c0 (HAW.out.2.after ha); rw [HIN.out.len] at h; exact h); clear ho ha)
            go_ret2
            exact ⟨_, _, rfl, After.trans HAW.out.1 H9.out, fun _ => ⟨rfl, rfl⟩, fun l e => by rw [HGM.out, HQ.out.1, if_neg (fun h => zq h.1)] at e; cases e⟩
          subst zq
          have HBQ : Hid (layB S.ops = Bq) := by have h := HQ.out.2; unfold putBs at h; rw [HQ.out.1, if_pos rfl] at h; exact h
          by_cases hb : Bq = bs
          case neg =>
            have hbe : ((strOf Bq).toList == (strOf bs).toList) = false := by rw [toList_data, toList_data, data_strOf, data_strOf]; exact beq_eq_false_iff_ne.2 hb
            go_wp2_with (go_at_call 57; refine Calls.mono (rput_k al i cl S.ops HS.out.2.2.1 HOK.out (by omega) wr HAL.out HQ.out.1 HQ.out.2) ?_; rintro e w9 ⟨v9, rfl, ho, ha⟩; have H9 := show Hid (After wr w9) from ha; have hc1 := ho.conv; have hc2 : (convert 32 9 (.slice a0 n0 c0)).run Tryz.prog w9 = .ok (.string (strOf bs)) w9 := (by have h := conv_at c0 (HAW.out.2.after ha); rw [HIN.out.len] at h; exact h); clear ho ha)
            go_ret2
            exact ⟨_, _, rfl, After.trans HAW.out.1 H9.out, fun _ => ⟨rfl, rfl⟩, fun l e => by rw [HGM.out, HBQ.out, if_neg (fun h => hb h.2)] at e; cases e⟩
          have hbe : ((strOf Bq).toList == (strOf bs).toList) = true := by rw [hb]; exact beq_self_eq_true _
          have HBB : Hid (Bq = bs) := hb
          clear hb
          go_wp2_with (go_at_call 57; refine Calls.mono (rput_k al i cl S.ops HS.out.2.2.1 HOK.out (by omega) wr HAL.out HQ.out.1 HQ.out.2) ?_; rintro e w9 ⟨v9, rfl, ho, ha⟩; have H9 := show Hid (After wr w9) from ha; have hc1 := ho.conv; have hc2 : (convert 32 9 (.slice a0 n0 c0)).run Tryz.prog w9 = .ok (.string (strOf bs)) w9 := (by have h := conv_at c0 (HAW.out.2.after ha); rw [HIN.out.len] at h; exact h); clear ho ha)
          go_ret2
          exact ⟨_, _, rfl, After.trans HAW.out.1 H9.out, fun e => (by rw [HGM.out, HQ.out.1, HBQ.out, HBB.out, if_pos ⟨rfl, rfl⟩] at e; cases e), fun l e => by rw [HGM.out, HQ.out.1, HBQ.out, HBB.out, if_pos ⟨rfl, rfl⟩] at e; cases e; exact ⟨rfl, al, cl, by rw [HS.out.2.2.1]; rfl, HAL.out.after H9.out, HFR.out⟩⟩
end Go.Proofs.YtgmdolpjkaajfaaGreatDoor
namespace Go.Proofs.YtgmdolpjkaajfaaGreatDoor
open Go.RowKit Leb
theorem rget_none {w : World} {a : Option Addr} {n c : Nat} {bs : List UInt8} (h : InB w a n c bs) (hg : getM bs = none) :
    Calls Tryz.prog 51 #[.slice a n c] w fun e w' => e = .returned (.tuple #[.slice none 0 0, .int .i64 4]) ∧ After w w' := by
  refine Calls.mono (rget_any a n c bs w h) ?_
  rintro e w' ⟨v, q, rfl, ha, h0, _⟩
  obtain ⟨rfl, rfl⟩ := h0 hg
  exact ⟨rfl, ha⟩
theorem rget_some {w : World} {a : Option Addr} {n c : Nat} {bs : List UInt8} (h : InB w a n c bs) {l : List Opn} {m : Nat} (hg : getM bs = some l) (hm : l.length = m) :
    Calls Tryz.prog 51 #[.slice a n c] w fun e w' => ∃ a' c', e = .returned (.tuple #[.slice a' m c', .int .i64 0]) ∧ OpsAt w' a' l ∧ After w w' ∧ ∀ x, a' = some x → w.heap.size ≤ x.block := by
  refine Calls.mono (rget_any a n c bs w h) ?_
  rintro e w' ⟨v, q, rfl, ha, _, h1⟩
  obtain ⟨rfl, a', c', rfl, hA, hfr⟩ := h1 l hg
  rw [hm]
  exact ⟨a', c', rfl, hA, ha, hfr⟩
end Go.Proofs.YtgmdolpjkaajfaaGreatDoor
