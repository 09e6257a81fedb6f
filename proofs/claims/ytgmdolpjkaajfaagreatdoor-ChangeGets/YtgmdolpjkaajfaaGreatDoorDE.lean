/-
  BYTES THAT ARE A CHANGE: the reference's reading of them (mathematics), and its walk whole.
-/
import Derived.Test.YtgmdolpjkaajfaaGreatDoorDD
import Derived.Test.YtgmdolpjkaajfaaGreatDoorCM
namespace Go.Proofs.YtgmdolpjkaajfaaGreatDoor
open Go.RowKit Leb
namespace HS
theorem flat_drop : ∀ {l : List Hs} (j : Nat), All32 l → l.flatten.drop (j * 32) = (l.drop j).flatten
  | [], j, _ => by simp
  | h :: l, 0, _ => by simp
  | h :: l, j + 1, hl => by
    have h0 := hl h (by simp)
    rw [List.flatten_cons, List.drop_append, List.drop_succ_cons, List.drop_of_length_le (by omega), h0, show (j + 1) * 32 - 32 = j * 32 by omega, flat_drop j hl.tail, List.nil_append]
theorem gL_app {s : List Hs} (h32 : All32 s) (a t : List UInt8) : gL (a ++ (s.flatten ++ t)) a.length s.length = s := by
  apply List.ext_getElem?
  intro j
  unfold gL
  by_cases hj : j < s.length
  · rw [List.getElem?_map, List.getElem?_range hj, Option.map_some, List.getElem?_eq_getElem hj]
    congr 1
    unfold hAt
    rw [← List.drop_drop, List.drop_left, List.drop_append_of_le_length (by rw [flat_len h32]; omega), flat_drop j h32, List.drop_eq_getElem_cons hj, List.flatten_cons, List.append_assoc]
    have hl : (s[j]).length = 32 := h32 _ (List.getElem_mem hj)
    rw [← hl, List.take_left]
  · rw [List.getElem?_eq_none (by simp; omega), List.getElem?_eq_none (by omega)]
theorem gh_back {s : List Hs} (h32 : All32 s) (hu : upB s = true) (hb : s.length ≤ 16) (t : List UInt8) : ghE (uintB s.length ++ (s.flatten ++ t)) 16 = 0 ∧ ghK (uintB s.length ++ (s.flatten ++ t)) 16 = (uintB s.length).length + s.length * 32 ∧ ghL (uintB s.length ++ (s.flatten ++ t)) 16 = s := by
  obtain ⟨g1, g2, g3⟩ := gu_back s.length (s.flatten ++ t) (by omega)
  have hE : ghE (uintB s.length ++ (s.flatten ++ t)) 16 = 0 := by
    unfold ghE
    rw [g1, g2, g3, if_pos rfl, if_neg (by omega), gL_app h32, hu, if_neg (by rw [List.length_append, List.length_append, flat_len h32]; omega), if_pos rfl]
  refine ⟨hE, ?_, ?_⟩
  · unfold ghK; rw [hE, if_pos rfl, g2, g3]
  · unfold ghL; rw [hE, if_pos rfl, g2, g3, gL_app h32]
end HS
theorem readK_some {bs : List UInt8} {x : Chg} (hb : bs.length ≤ maxLen) (h : readK bs = some x) : HS.All32 x.deps ∧ ∀ y ∈ x.ops, y.Ok := by
  unfold readK at h
  split at h
  · cases hm : getM (readX bs).rest with
    | none => rw [hm] at h; cases h
    | some l =>
      rw [hm] at h
      have h2 := Option.some.inj h
      have hl := (readX_suf bs).le
      have hk := (getM_some (by omega) hm).2.2.ok
      rw [← h2]
      exact ⟨hsM_32 _ _ _, hk⟩
  · cases h
theorem getC_good {bs : List UInt8} {x : Chg} (hb : bs.length ≤ maxLen) (h : getC bs = some x) : CGood x ∧ layC x = bs := by
  obtain ⟨h1, h2⟩ := getC_some h
  refine ⟨?_, h2⟩
  have hr : readK bs = some x := by
    unfold getC at h
    split at h
    · cases h
    · cases hr : readK bs with
      | none => rw [hr] at h; cases h
      | some y =>
        rw [hr] at h
        have h3 : (if chgE y = 0 ∧ layC y = bs then some y else none) = some x := h
        split at h3
        · exact h3
        · cases h3
  obtain ⟨h3, h4⟩ := readK_some hb hr
  exact ⟨chgE_zero.1 h1, h3, h4⟩
/-- What the reference sees in the bytes of a change that may be. -/
theorem ref_sees {x : Chg} (h : CGood x) {bs : List UInt8} (hbs : layC x = bs) :
    1 ≤ bs.length ∧ bs.getD 0 0 = 1 ∧ okH bs ∧ HS.ghE (f3 bs) 16 = 0 ∧ gtE (f4 bs) (1024 : Nat) = 0 ∧ getM (f5 bs) = some x.ops ∧ (⟨gtS (f0 bs) (32 : Nat), (guV (f1 bs) : Int), (guV (f2 bs) : Int), HS.ghL (f3 bs) 16, gtS (f4 bs) (1024 : Nat), x.ops⟩ : Chg) = x ∧ chgE x = 0 ∧ chgB x = bs := by
  obtain ⟨sq, hsq, hsq1⟩ := num_of (h.e 1 (by omega))
  obtain ⟨st, hst, hst1⟩ := num_of (h.e 2 (by omega))
  have hau : x.author.length ≤ 32 := by
    have h0 : nmB x.author = true := eOf_zero (e := 30) (by omega) (h.e 0 (by omega))
    unfold nmB at h0
    simp only [Bool.and_eq_true, decide_eq_true_eq] at h0
    omega
  have hdn := deps_len (h.e 3 (by omega))
  have hup : HS.upB x.deps = true := by
    have h3 : depsB x.deps = true := eOf_zero (e := 41) (by omega) (h.e 3 (by omega))
    unfold depsB at h3
    simp only [Bool.and_eq_true] at h3
    exact h3.2
  have hnt := note_len (h.e 4 (by omega))
  have hgm := getM_back h.ops
  have hce := h.chg
  have hcb : chgB x = layC x := by unfold chgB; rw [hce, if_pos rfl]
  have hd32 := h.d32
  clear h
  obtain ⟨au, s, t, ds, nt, os⟩ := x
  simp only at hsq hst hau hdn hup hnt hgm hd32
  subst hsq hst
  have e : bs = 1 :: (textB au ++ (uintB sq ++ (uintB st ++ (uintB ds.length ++ (ds.flatten ++ (textB nt ++ layB os)))))) := by
    rw [← hbs]
    unfold layC layX putD
    simp [List.append_assoc]
  have e0 : f0 bs = textB au ++ (uintB sq ++ (uintB st ++ (uintB ds.length ++ (ds.flatten ++ (textB nt ++ layB os))))) := by unfold f0; rw [e]; rfl
  obtain ⟨a1, a2, a3⟩ := gt_back au (uintB sq ++ (uintB st ++ (uintB ds.length ++ (ds.flatten ++ (textB nt ++ layB os))))) (32 : Nat) (by omega) (by omega)
  have e1 : f1 bs = uintB sq ++ (uintB st ++ (uintB ds.length ++ (ds.flatten ++ (textB nt ++ layB os)))) := by unfold f1; rw [e0, a2, List.drop_left]
  obtain ⟨b1, b2, b3⟩ := gu_back sq (uintB st ++ (uintB ds.length ++ (ds.flatten ++ (textB nt ++ layB os)))) (by omega)
  have e2 : f2 bs = uintB st ++ (uintB ds.length ++ (ds.flatten ++ (textB nt ++ layB os))) := by unfold f2; rw [e1, b2, List.drop_left]
  obtain ⟨c1, c2, c3⟩ := gu_back st (uintB ds.length ++ (ds.flatten ++ (textB nt ++ layB os))) (by omega)
  have e3 : f3 bs = uintB ds.length ++ (ds.flatten ++ (textB nt ++ layB os)) := by unfold f3; rw [e2, c2, List.drop_left]
  obtain ⟨d1, d2, d3⟩ := HS.gh_back hd32 hup hdn (textB nt ++ layB os)
  have e4 : f4 bs = textB nt ++ layB os := by
    unfold f4
    rw [e3, d2, ← List.drop_drop, List.drop_left, ← HS.flat_len hd32, List.drop_left]
  obtain ⟨k1, k2, k3⟩ := gt_back nt (layB os) (1024 : Nat) (by omega) (by omega)
  have e5 : f5 bs = layB os := by unfold f5; rw [e4, k2, List.drop_left]
  refine ⟨by rw [e]; simp, by rw [e]; rfl, ⟨by rw [e0]; exact a1, by rw [e1]; exact b1, by rw [e1, b3]; exact hsq1, by rw [e2]; exact c1, by rw [e2, c3]; exact hst1⟩, by rw [e3]; exact d1, by rw [e4]; exact k1, by rw [e5]; exact hgm, ?_, hce, by rw [hcb]; exact hbs⟩
  rw [e0, e1, e2, e3, e4, a3, b3, c3, d3, k3]
theorem cgood_built {s1 s6 : List UInt8} {v2 v3 : Int} {ds : List (List UInt8)} {l : List Opn} {x : Chg} (hx : (⟨s1, v2, v3, ds, s6, l⟩ : Chg) = x) (hd : HS.All32 ds) (hl : Good l) (hq : chgE x = 0) : CGood x := by
  subst hx
  exact ⟨chgE_zero.1 hq, hd, hl.ok⟩
/-- What stemmaref08.Get answers, of bytes that are none. -/
theorem rgetC_n (a : Option Addr) (n c : Nat) (bs : List UInt8) (hn : bs.length = n) (hca : n ≤ c) (hz : a = none → n = 0) (hbig : n ≤ 140737488355328) (w : World) (hat : BytesAt w a bs) (hg : getC bs = none) :
    Calls Tryz.prog 22 #[.slice a n c] w fun e w' => e = .returned (.tuple #[.agg zc.toArray, .int .i64 4]) ∧ After w w' := by
  by_cases h0 : n = 0
  · exact rg_0 a n c bs hn hca hz hbig w hat h0
  have hp : 1 ≤ n := by omega
  by_cases hb1 : bs.getD 0 0 = 1
  case neg => exact rg_1 a n c bs hn hca hz hbig w hat hp hb1
  by_cases ho : okH bs
  case neg => exact rg_2 a n c bs hn hca hz hbig w hat hp hb1 ho
  by_cases hgh : HS.ghE (f3 bs) 16 = 0
  case neg => exact rg_3 a n c bs hn hca hz hbig w hat hp hb1 ho hgh
  by_cases h6 : gtE (f4 bs) (1024 : Nat) = 0
  case neg => exact rg_4 a n c bs hn hca hz hbig w hat hp hb1 ho hgh h6
  cases hM : getM (f5 bs) with
  | none => exact rg_5 a n c bs hn hca hz hbig w hat hp hb1 ho hgh h6 hM
  | some l =>
    have hf5 : (f5 bs).length ≤ maxLen := by unfold f5 f4 f3 f2 f1 f0 maxLen; simp only [List.length_drop]; omega
    have hgd : Good l := (getM_some hf5 hM).2.2
    obtain ⟨x, hx⟩ : ∃ x, (⟨gtS (f0 bs) (32 : Nat), (guV (f1 bs) : Int), (guV (f2 bs) : Int), HS.ghL (f3 bs) 16, gtS (f4 bs) (1024 : Nat), l⟩ : Chg) = x := ⟨_, rfl⟩
    by_cases hq : chgE x = 0
    case neg => exact rg_6 a n c bs hn hca hz hbig w hat hp hb1 ho hgh h6 hM hgd hx rfl rfl hq
    by_cases hB : chgB x = bs
    case neg => exact rg_7 a n c bs hn hca hz hbig w hat hp hb1 ho hgh h6 hM hgd hx hq rfl hB
    exfalso
    have hlay : layC x = bs := by rw [← hB]; unfold chgB; rw [hq, if_pos rfl]
    have hgx : CGood x := cgood_built hx (gh_ok hgh).2.1 hgd hq
    have := getC_back hgx
    rw [hlay, hg] at this
    cases this
/-- What stemmaref08.Get answers, of bytes that are a change. -/
theorem rgetC_s (a : Option Addr) (n c : Nat) (bs : List UInt8) (hn : bs.length = n) (hca : n ≤ c) (hz : a = none → n = 0) (hbig : n ≤ 140737488355328) (w : World) (hat : BytesAt w a bs) {x : Chg} (hg : getC bs = some x) :
    Calls Tryz.prog 22 #[.slice a n c] w fun e w' => ∃ d p, e = .returned (.tuple #[cV x d p, .int .i64 0]) ∧ After w w' ∧ ChAt w' x d p ∧ (∀ y, d.a = some y → w.heap.size ≤ y.block) ∧ (∀ y, p.a = some y → w.heap.size ≤ y.block) := by
  obtain ⟨hgd, hl⟩ := getC_good (by rw [hn]; unfold maxLen; omega) hg
  obtain ⟨hp, hb1, ho, hgh, h6, hM, hx, hq, hB⟩ := ref_sees hgd hl
  exact rg_8 a n c bs hn hca hz hbig w hat (by rw [← hn]; exact hp) hb1 ho hgh h6 hM hgd.ops hx hq hB rfl
end Go.Proofs.YtgmdolpjkaajfaaGreatDoor
