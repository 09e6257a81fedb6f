/-
  readM of what lay lays; what readM reads is made of numbers and short texts.
-/
import Derived.Test.YtpplnomomcdemaaReadW
import Derived.Test.YtpplnomomcdemaaBackMath
namespace Go.Proofs.Ytpplnomomcdemaa
open Go.RowKit Leb
abbrev Int64s (l : List Int) : Prop := ∀ x ∈ l, -9223372036854775808 ≤ x ∧ x ≤ 9223372036854775807
theorem col1_back (l : List Int) (t : List UInt8) (hl : Int64s l) (hn : l.length ≤ 256) : colM G1 (runsB l ++ t) false = (l, t, false) := by
  have h := getR_back l t 256 hl (by simpa [clampM] using hn)
  unfold colM G1
  rw [h]
  simp
theorem col2_back (l : List Int) (t : List UInt8) (hl : Int64s l) (hn : l.length ≤ 256) : colM G2 (runsB (diffs l) ++ t) false = (l, t, false) := by
  have h := getR_back (diffs l) t 256 (diffs_int l) (by rw [diffs_len]; simpa [clampM] using hn)
  unfold colM G2
  rw [h]
  simp [dsums_diffs l hl]
theorem count_back (n : Nat) (t : List UInt8) (hn : n ≤ 256) : countM (uintB n ++ t) false = (n, t, false) := by
  obtain ⟨h1, h2, h3⟩ := gu_back n t (by omega)
  unfold countM
  rw [h1, h2, h3]
  have : ¬ 256 < n := by omega
  simp [this]
theorem text_back (most : Int) (s t : List UInt8) (hs : s.length ≤ 100000) (hm : (s.length : Int) ≤ most) : textM most (textB s ++ t) false = (s, t, false) := by
  obtain ⟨h1, h2, h3⟩ := gt_back s t most (by omega) hm
  unfold textM
  rw [h1, h2, h3]
  simp
theorem texts_back : ∀ (N : List (List UInt8)) (t : List UInt8), (∀ y ∈ N, y.length ≤ 32) → textsM 32 N.length (namesB N ++ t) false = (N, t, false)
  | [], t, _ => by simp [namesB, textsM]
  | y :: N, t, h => by
    have hy := h y (by simp)
    have e : namesB (y :: N) ++ t = textB y ++ (namesB N ++ t) := by simp [namesB]
    have hb := text_back 32 y (namesB N ++ t) (by omega) (by omega)
    have ih := texts_back N t (fun z hz => h z (by simp [hz]))
    rw [e, List.length_cons]
    unfold textsM
    simp only [hb, ih]
/-- Operations that may be. -/
structure Good (l : List Opn) : Prop where
  few : l.length ≤ 256
  ok : ∀ x ∈ l, x.Ok
  may : ∀ x ∈ l, mayB x = true
theorem Good.name {l : List Opn} (h : Good l) {x : Opn} (hx : x ∈ l) : x.name.length ≤ 32 := by
  have h1 := h.may x hx
  unfold mayB nmB at h1
  simp only [Bool.and_eq_true, decide_eq_true_eq] at h1
  omega
theorem Good.text {l : List Opn} (h : Good l) {x : Opn} (hx : x ∈ l) : x.text.length ≤ 1024 := by
  have h1 := h.may x hx
  unfold mayB fitsB at h1
  grind
theorem Good.none {l : List Opn} (h : Good l) {x : Opn} (hx : x ∈ l) (ht : hasT x = false) : x.text = [] := by
  have h1 := h.may x hx
  unfold mayB fitsB at h1
  unfold hasT at ht
  apply List.eq_nil_of_length_eq_zero
  grind
def colsOf (l : List Opn) (t : List UInt8) : Cols := ⟨l.map (·.kind), firsts l, whichs (firsts l) l, l.map (·.pos), l.map (·.by_), textsB l ++ t, false⟩
theorem cols_back {l : List Opn} (h : Good l) (t : List UInt8) : colsM (layB l ++ t) = colsOf l t := by
  have e : layB l ++ t = runsB (l.map (·.kind)) ++ (uintB (firsts l).length ++ (namesB (firsts l) ++ (runsB (whichs (firsts l) l) ++ (runsB (diffs (l.map (·.pos))) ++ (runsB (l.map (·.by_)) ++ (textsB l ++ t)))))) := by simp [layB, layNB]
  have hf := firsts_len l
  have hn := h.few
  have h1 := col1_back (l.map (·.kind)) (uintB (firsts l).length ++ (namesB (firsts l) ++ (runsB (whichs (firsts l) l) ++ (runsB (diffs (l.map (·.pos))) ++ (runsB (l.map (·.by_)) ++ (textsB l ++ t)))))) (fun z hz => by obtain ⟨x, hx, rfl⟩ := List.mem_map.1 hz; exact ⟨(h.ok x hx).k0, (h.ok x hx).k1⟩) (by simpa using hn)
  have h2 := count_back (firsts l).length (namesB (firsts l) ++ (runsB (whichs (firsts l) l) ++ (runsB (diffs (l.map (·.pos))) ++ (runsB (l.map (·.by_)) ++ (textsB l ++ t))))) (by omega)
  have h3 := texts_back (firsts l) (runsB (whichs (firsts l) l) ++ (runsB (diffs (l.map (·.pos))) ++ (runsB (l.map (·.by_)) ++ (textsB l ++ t)))) (fun y hy => by obtain ⟨x, hx, rfl⟩ := (mem_firsts l y).1 hy; exact h.name hx)
  have h4 := col1_back (whichs (firsts l) l) (runsB (diffs (l.map (·.pos))) ++ (runsB (l.map (·.by_)) ++ (textsB l ++ t))) (whichs_int _ _ (by omega)) (by simpa [whichs] using hn)
  have h5 := col2_back (l.map (·.pos)) (runsB (l.map (·.by_)) ++ (textsB l ++ t)) (fun z hz => by obtain ⟨x, hx, rfl⟩ := List.mem_map.1 hz; exact ⟨(h.ok x hx).p0, (h.ok x hx).p1⟩) (by simpa using hn)
  have h6 := col1_back (l.map (·.by_)) (textsB l ++ t) (fun z hz => by obtain ⟨x, hx, rfl⟩ := List.mem_map.1 hz; exact ⟨(h.ok x hx).b0, (h.ok x hx).b1⟩) (by simpa using hn)
  unfold colsM colsOf
  rw [e]
  simp only [h1, h2, h3, h4, h5, h6]
theorem textsB_cons (x : Opn) (l : List Opn) : textsB (x :: l) = (if hasT x = true then textB x.text else []) ++ textsB l := by simp [textsB]
theorem opAt_back {l : List Opn} (t : List UInt8) {i : Nat} {x : Opn} (hx : l[i]? = some x) : opAt (colsOf l t) i = { x with text := [] } := by
  have hm : x.name ∈ firsts l := (mem_firsts l x.name).2 ⟨x, List.mem_of_getElem? hx, rfl⟩
  have hi := List.idxOf_lt_length_of_mem hm
  have hg : (firsts l)[(firsts l).idxOf x.name]? = some x.name := by rw [List.getElem?_eq_getElem hi, List.getElem_idxOf hi]
  unfold opAt colsOf whichs
  simp [hx, hg]
theorem st_back {l : List Opn} (h : Good l) (t : List UInt8) : ∀ i, i ≤ l.length → stM (colsOf l t) i = some ⟨l.take i, textsB (l.drop i) ++ t, false⟩
  | 0, _ => rfl
  | i + 1, hi => by
    have ih := st_back h t i (by omega)
    obtain ⟨x, hx⟩ : ∃ x, l[i]? = some x := ⟨_, List.getElem?_eq_getElem (by omega)⟩
    have hmx := List.mem_of_getElem? hx
    have hm : x.name ∈ firsts l := (mem_firsts l x.name).2 ⟨x, hmx, rfl⟩
    have hlt := List.idxOf_lt_length_of_mem hm
    have hw : (colsOf l t).ws[i]?.getD 0 = ((firsts l).idxOf x.name : Int) := by unfold colsOf whichs; simp [hx]
    have hz : ¬ ((colsOf l t).ws[i]?.getD 0 < 0 ∨ ((colsOf l t).nms.length : Int) ≤ (colsOf l t).ws[i]?.getD 0) := by
      rw [hw]
      show ¬ (_ ∨ ((firsts l).length : Int) ≤ _)
      omega
    have ho := opAt_back t hx
    have hd : l.drop i = x :: l.drop (i + 1) := by
      have hil : i < l.length := by omega
      rw [List.drop_eq_getElem_cons hil]
      rw [List.getElem?_eq_getElem hil] at hx
      simp at hx
      rw [hx]
    have hk : l.take (i + 1) = l.take i ++ [x] := by rw [List.take_add_one, hx]; rfl
    cases ht : hasT x with
    | false =>
      have he := h.none hmx ht
      have hxe : ({ x with text := [] } : Opn) = x := by cases x; simp_all
      rw [hxe] at ho
      rw [stM_plain ih hz ho ht, hd, textsB_cons, ht, hk]
      simp
    | true =>
      have ht' : hasT { x with text := [] } = true := ht
      have hb := text_back 1024 x.text (textsB (l.drop (i + 1)) ++ t) (by have := h.text hmx; omega) (by have := h.text hmx; omega)
      have he : textM 1024 (textsB (l.drop i) ++ t) false = (x.text, textsB (l.drop (i + 1)) ++ t, false) := by
        rw [hd, textsB_cons, ht, if_pos rfl, List.append_assoc]
        exact hb
      rw [stM_text ih hz ho ht' he, hk]
theorem read_back {l : List Opn} (h : Good l) (t : List UInt8) : readM (layB l ++ t) = some l := by
  unfold readM
  rw [cols_back h t, readC_some (n := l.length) (S := ⟨l, t, false⟩) (by simp [colsOf]) (by simp [colsOf, whichs]) (by simp [colsOf]) (by simp [colsOf]) rfl (by rw [st_back h t _ (Nat.le_refl _)]; simp [textsB])]
  rfl
theorem good_iff {l : List Opn} (hok : ∀ x ∈ l, x.Ok) : putE l = 0 ↔ Good l := by
  unfold putE
  constructor
  · intro h
    split at h
    · omega
    · split at h
      · rename_i h1 h2
        exact ⟨by omega, hok, fun x hx => List.all_eq_true.1 h2 x hx⟩
      · omega
  · intro h
    rw [if_neg (by have := h.few; omega), if_pos (List.all_eq_true.2 h.may)]
theorem lay_inj {l m : List Opn} (hl : Good l) (hm : Good m) (e : layB l = layB m) : l = m := by
  have h1 := read_back hl []
  have h2 := read_back hm []
  rw [e, h2] at h1
  exact (Option.some.inj h1).symm
theorem wrap64_int (z : Int) : -9223372036854775808 ≤ RowKit.wrap64 z ∧ RowKit.wrap64 z ≤ 9223372036854775807 := by unfold RowKit.wrap64; omega
theorem dsums_int (l : List Int) (hl : Int64s l) : Int64s (dsums l) := fun z hz => by
  obtain ⟨j, hj, rfl⟩ := List.mem_map.1 hz
  cases j with
  | zero =>
    show -9223372036854775808 ≤ l[0]?.getD 0 ∧ l[0]?.getD 0 ≤ 9223372036854775807
    cases l with
    | nil => simp
    | cons a r => simpa using hl a (by simp)
  | succ j => exact wrap64_int _
theorem colM1_int (bs : List UInt8) (fl : Bool) : Int64s (colM G1 bs fl).1 := by
  unfold colM
  split
  · intro z hz; simp at hz
  · exact getR_int bs 256
theorem colM2_int (bs : List UInt8) (fl : Bool) : Int64s (colM G2 bs fl).1 := by
  unfold colM
  split
  · intro z hz; simp at hz
  · exact dsums_int _ (getR_int bs 256)
theorem colM_rest (G : List UInt8 → List Int × Nat × Nat) (bs : List UInt8) (fl : Bool) : (colM G bs fl).2.1.length ≤ bs.length := by
  unfold colM
  split <;> simp
theorem countM_rest (bs : List UInt8) (fl : Bool) : (countM bs fl).2.1.length ≤ bs.length := by
  unfold countM
  split
  · simp
  · split <;> simp
theorem textM_len (most : Int) (bs : List UInt8) (fl : Bool) : (textM most bs fl).1.length ≤ bs.length ∧ (textM most bs fl).2.1.length ≤ bs.length := by
  unfold textM
  split
  · simp
  · refine ⟨?_, by simp⟩
    show (gtS bs most).length ≤ bs.length
    unfold gtS
    split
    · rw [List.length_take, List.length_drop]; omega
    · simp
theorem textsM_lens (most : Int) : ∀ (n : Nat) (bs : List UInt8) (fl : Bool), (∀ s ∈ (textsM most n bs fl).1, s.length ≤ bs.length) ∧ (textsM most n bs fl).2.1.length ≤ bs.length
  | 0, bs, fl => by simp [textsM]
  | n + 1, bs, fl => by
    have h1 := textM_len most bs fl
    have h2 := textsM_lens most n (textM most bs fl).2.1 (textM most bs fl).2.2
    refine ⟨fun s hs => ?_, ?_⟩
    · have hs' : s ∈ (textM most bs fl).1 :: (textsM most n (textM most bs fl).2.1 (textM most bs fl).2.2).1 := hs
      rcases List.mem_cons.1 hs' with rfl | hs
      · exact h1.1
      · have := h2.1 s hs; omega
    · show (textsM most n (textM most bs fl).2.1 (textM most bs fl).2.2).2.1.length ≤ bs.length
      omega
structure COk (C : Cols) : Prop where
  ks : Int64s C.ks
  ps : Int64s C.ps
  ys : Int64s C.ys
  nms : ∀ s ∈ C.nms, s.length ≤ maxLen
  rest : C.rest.length ≤ maxLen
theorem colsM_ok (bs : List UInt8) (hb : bs.length ≤ maxLen) : COk (colsM bs) := by
  have h1 := colM_rest G1 bs false
  have h2 := countM_rest (colM G1 bs false).2.1 (colM G1 bs false).2.2
  have h3 := textsM_lens 32 (countM (colM G1 bs false).2.1 (colM G1 bs false).2.2).1 (countM (colM G1 bs false).2.1 (colM G1 bs false).2.2).2.1 (countM (colM G1 bs false).2.1 (colM G1 bs false).2.2).2.2
  unfold colsM
  refine ⟨colM1_int _ _, colM2_int _ _, colM1_int _ _, fun s hs => ?_, ?_⟩
  · have := h3.1 s hs
    omega
  · refine Nat.le_trans (colM_rest G1 _ _) (Nat.le_trans (colM_rest G2 _ _) (Nat.le_trans (colM_rest G1 _ _) ?_))
    omega
theorem getD_int {l : List Int} (h : Int64s l) (i : Nat) : -9223372036854775808 ≤ l[i]?.getD 0 ∧ l[i]?.getD 0 ≤ 9223372036854775807 := by
  cases e : l[i]? with
  | none => simp
  | some z => exact h z (List.mem_of_getElem? e)
theorem opAt_ok {C : Cols} (h : COk C) (i : Nat) (s : List UInt8) (hs : s.length ≤ maxLen) : Opn.Ok { opAt C i with text := s } := by
  refine ⟨(getD_int h.ks i).1, (getD_int h.ks i).2, (getD_int h.ps i).1, (getD_int h.ps i).2, (getD_int h.ys i).1, (getD_int h.ys i).2, ?_, hs⟩
  show (C.nms[(C.ws[i]?.getD 0).toNat]?.getD []).length ≤ maxLen
  cases e : C.nms[(C.ws[i]?.getD 0).toNat]? with
  | none => simp
  | some z => exact h.nms z (List.mem_of_getElem? e)
theorem stM_ok {C : Cols} (h : COk C) : ∀ (i : Nat) (S : RdS), stM C i = some S → (∀ x ∈ S.ops, x.Ok) ∧ S.rest.length ≤ maxLen
  | 0, S, e => by
    have e' : some (⟨[], C.rest, false⟩ : RdS) = some S := e
    cases e'
    exact ⟨fun x hx => by simp at hx, h.rest⟩
  | i + 1, S, e => by
    have e' : (stM C i).bind (stepM C i) = some S := e
    cases hs : stM C i with
    | none => rw [hs] at e'; cases e'
    | some T =>
      rw [hs] at e'
      have e2 : stepM C i T = some S := e'
      obtain ⟨ih1, ih2⟩ := stM_ok h i T hs
      unfold stepM at e2
      split at e2
      · cases e2
      · split at e2
        · have ht := textM_len 1024 T.rest T.fl
          cases e2
          refine ⟨fun x hx => ?_, ?_⟩
          · rcases List.mem_append.1 hx with hx | hx
            · exact ih1 x hx
            · simp only [List.mem_singleton] at hx
              rw [hx]
              exact opAt_ok h i _ (by omega)
          · show (textM 1024 T.rest T.fl).2.1.length ≤ maxLen
            omega
        · cases e2
          refine ⟨fun x hx => ?_, ih2⟩
          rcases List.mem_append.1 hx with hx | hx
          · exact ih1 x hx
          · simp only [List.mem_singleton] at hx
            rw [hx]
            exact opAt_ok h i [] (by simp)
theorem readM_ok {bs : List UInt8} {l : List Opn} (hb : bs.length ≤ maxLen) (h : readM bs = some l) : ∀ x ∈ l, x.Ok := by
  unfold readM readC at h
  split at h
  · cases h
  · cases hs : stM (colsM bs) (colsM bs).ks.length with
    | none => rw [hs] at h; cases h
    | some S =>
      rw [hs] at h
      have h2 : (if S.fl = true then none else some S.ops) = some l := h
      split at h2
      · cases h2
      · cases h2
        exact (stM_ok (colsM_ok bs hb) _ S hs).1
end Go.Proofs.Ytpplnomomcdemaa
