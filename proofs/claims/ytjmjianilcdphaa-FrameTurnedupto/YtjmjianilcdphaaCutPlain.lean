/-
  FRAMES THAT ARE CUT OFF.
-/
import Derived.Test.YtjmjianilcdphaaNoughtsWalk
namespace Go.Proofs.Ytjmjianilcdphaa
open Go.RowKit Leb
theorem grp_cut : ∀ (f n m : Nat), n < 128 ^ (f + 1) → m < (uintB n).length → grp (f + 1) ((uintB n).take m) = (3, 0)
  | f, n, 0, _, _ => by simp [grp]
  | f, n, m + 1, h, hm => by
    rw [uintB] at hm ⊢
    split at hm
    · simp at hm
    · rename_i h1
      rw [if_neg h1]
      cases f with
      | zero => simp at h; omega
      | succ f =>
        have ih := grp_cut f (n / 128) m (by rw [Nat.pow_succ] at h; omega) (by simpa using hm)
        have h2 : ¬ (UInt8.ofNat (n % 128 + 128)).toNat < 128 := by rw [b8 _ (by omega)]; omega
        rw [List.take_succ_cons, grp, if_neg h2, ih]
        simp
theorem guE_cut (n m : Nat) (h : n < 18446744073709551616) (hm : m < (uintB n).length) : guE ((uintB n).take m) = 3 := by
  have hg := grp_cut 9 n m (by omega) hm
  unfold guE
  rw [hg]
  simp
theorem opE_cut (k : UInt8) (b : List UInt8) (m : Nat) (hk : k ≠ 0) (hl : b.length ≤ 1048576) (h0 : 0 < m) (hm : m < (frameB k b).length) : opE ((frameB k b).take m) = 3 := by
  obtain ⟨m, rfl⟩ : ∃ x, m = x + 1 := ⟨m - 1, by omega⟩
  have e : frameB k b = k :: (uintB b.length ++ (b ++ le4 (crc (headB k b)))) := by unfold frameB withSum headB; simp
  have hlen := frameB_len k b
  have e1 : ((frameB k b).take (m + 1)).drop 1 = (uintB b.length ++ (b ++ le4 (crc (headB k b)))).take m := by rw [e]; simp
  have hne : (frameB k b).take (m + 1) ≠ [] := by rw [e]; simp
  have hkd : ((frameB k b).take (m + 1)).getD 0 0 = k := by rw [e]; simp
  have hll : ((frameB k b).take (m + 1)).length = m + 1 := by rw [List.length_take]; omega
  by_cases hu : m < (uintB b.length).length
  · have e2 : ((frameB k b).take (m + 1)).drop 1 = (uintB b.length).take m := by rw [e1, List.take_append_of_le_length (by omega)]
    have hg : guE (((frameB k b).take (m + 1)).drop 1) = 3 := by rw [e2]; exact guE_cut _ _ (by omega) hu
    unfold opE
    rw [if_neg hne, if_neg (by rw [hkd]; exact hk), if_pos (by rw [hg]; omega), hg]
  · have e2 : ((frameB k b).take (m + 1)).drop 1 = uintB b.length ++ (b ++ le4 (crc (headB k b))).take (m - (uintB b.length).length) := by
      rw [e1, List.take_append, List.take_of_length_le (by omega)]
    have hg := gu_back b.length ((b ++ le4 (crc (headB k b))).take (m - (uintB b.length).length)) (by omega)
    rw [← e2] at hg
    have h1 : opV ((frameB k b).take (m + 1)) = b.length := hg.2.2
    have h2 : opK ((frameB k b).take (m + 1)) = (uintB b.length).length := hg.2.1
    unfold opE
    rw [if_neg hne, if_neg (by rw [hkd]; exact hk), if_neg (fun h => h hg.1), if_neg (by rw [h1]; omega), if_pos (by rw [hll]; unfold opEnd; rw [h1, h2]; omega)]
/-- Where the first j frames end. -/
def pl (ps : List (UInt8 × List UInt8)) (j : Nat) : Nat := (laidB (ps.take j)).length
theorem pl_zero (ps : List (UInt8 × List UInt8)) : pl ps 0 = 0 := rfl
theorem pl_all (ps : List (UInt8 × List UInt8)) : pl ps ps.length = (laidB ps).length := by unfold pl; rw [List.take_length]
theorem endsI_get (ps : List (UInt8 × List UInt8)) (j : Nat) (h : j < ps.length) : (endsI ps)[j]?.getD 0 = (pl ps (j + 1) : Int) := by unfold endsI pl; simp [h]
theorem cut_scan (ps : List (UInt8 × List UInt8)) (hps : ∀ p ∈ ps, p.2.length ≤ 1048576) (j k : Nat) (hj : j ≤ ps.length) (h1 : pl ps j ≤ k) (hk : k ≤ (laidB ps).length) (h2 : j = ps.length ∨ k < pl ps (j + 1)) :
    scan ((laidB ps).take k) = (norm (ps.take j), pl ps j, if pl ps j = k then 0 else 3) := by
  have hB : laidB ps = laidB (ps.take j) ++ laidB (ps.drop j) := by rw [← laidB_app, List.take_append_drop]
  by_cases he : pl ps j = k
  · rw [if_pos he, hB, ← he]
    unfold pl
    rw [List.take_left]
    have := scan_laid (ps.take j) [] (fun p hp => hps p (List.mem_of_mem_take hp))
    rw [List.append_nil, scan_nil] at this
    simpa using this
  · rw [if_neg he]
    have hjl : j < ps.length := by
      rcases Nat.lt_or_eq_of_le hj with h | h
      · exact h
      · subst h; have := pl_all ps; omega
    have hlt : k < pl ps (j + 1) := by
      rcases h2 with h | h
      · omega
      · exact h
    obtain ⟨p, hp⟩ : ∃ p, ps[j]? = some p := ⟨_, List.getElem?_eq_getElem hjl⟩
    have hd : ps.drop j = p :: ps.drop (j + 1) := by rw [List.drop_eq_getElem_cons hjl]; rw [List.getElem?_eq_getElem hjl] at hp; rw [Option.some.inj hp]
    have hpn : pl ps (j + 1) = pl ps j + (frameB (mk p.1) p.2).length := by unfold pl; rw [take_snocP ps j p hp, laidB_snoc, List.length_append]
    have hc : laidB (p :: ps.drop (j + 1)) = frameB (mk p.1) p.2 ++ laidB (ps.drop (j + 1)) := by simp [laidB]
    have e : (laidB ps).take k = laidB (ps.take j) ++ (frameB (mk p.1) p.2).take (k - pl ps j) := by
      rw [hB, hd, hc, List.take_append, List.take_of_length_le (by unfold pl at h1; exact h1), List.take_append_of_le_length (by unfold pl at hpn hlt h1; omega)]
      rfl
    have ho := opE_cut (mk p.1) p.2 (k - pl ps j) (mk_ne _) (hps p (List.mem_of_getElem? hp)) (by omega) (by omega)
    have hsb := scan_bad ((frameB (mk p.1) p.2).take (k - pl ps j)) (by rw [ho]; omega) (by rw [ho]; omega)
    rw [ho] at hsb
    have := scan_laid (ps.take j) ((frameB (mk p.1) p.2).take (k - pl ps j)) (fun p hp => hps p (List.mem_of_mem_take hp))
    rw [hsb] at this
    rw [e, this]
    simp [pl]
theorem Own.at' {w : World} {base : Nat} {v : Value} {bs : List UInt8} (h : Own w base v bs) : ∃ ao cap, v = .slice ao bs.length cap ∧ BytesAt w ao bs ∧ bs.length ≤ cap ∧ (ao = none → cap = 0) ∧ (∀ a, ao = some a → ∃ g, a = ⟨g, 0, none⟩) := by
  obtain ⟨ao, cap, hv, hb, hc, _⟩ := Own.at h
  refine ⟨ao, cap, hv, hb, hc, ?_, ?_⟩
  · intro h0
    subst h0
    rcases h.2 with ⟨h1, _⟩ | ⟨g, cap', cur, h1, _⟩
    · rw [hv] at h1; injection h1
    · rw [hv] at h1; injection h1 with h2; cases h2
  · intro a ha
    subst ha
    rcases h.2 with ⟨h1, _⟩ | ⟨g, cap', cur, h1, _⟩
    · rw [hv] at h1; injection h1 with h2; cases h2
    · rw [hv] at h1; injection h1 with h2; exact ⟨g, Option.some.inj h2⟩
theorem slice_upto (ao : Option Addr) (L c k : Nat) (hk : k ≤ c) (h0 : ao = none → c = 0) (ha : ∀ a, ao = some a → ∃ g, a = ⟨g, 0, none⟩) (W : World) : (Instr.sliceAt 22 (.slice ao L c) none (some (.int .i64 (k : Int))) none).run Try.prog W = .ok (.slice ao k c) W := by
  cases ao with
  | none =>
    obtain rfl := h0 rfl
    obtain rfl : k = 0 := by omega
    obtain ⟨i, hi', _⟩ := Option.map_eq_some_iff.1 bytes5
    simp [Instr.sliceAt, Instr.slice, run_underlying Try.underlying22, Instr.sliceBounds, Instr.sliceBound, asIntOf, sizeOf, typeInfo, hi']
  | some a =>
    obtain ⟨g, rfl⟩ := ha a rfl
    exact slice_hi g 0 L c k hk W
end Go.Proofs.Ytjmjianilcdphaa
