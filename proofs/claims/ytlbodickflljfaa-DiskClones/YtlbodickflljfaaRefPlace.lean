/-
  THE WALK OF (stemmaref05.Disk).place.
-/
import Derived.Test.YtlbodickflljfaaRefNames
import Derived.Deep.QuietTactic
import Derived.BigQuiet
namespace Go.Proofs.Ytlbodickflljfaa
open Go.RowKit Go.Maps Dsk
theorem less_before : ∀ (a b : List UInt8), Op.bytesLess a b = bytesBefore a b
  | [], [] => rfl
  | _ :: _, [] => rfl
  | [], _ :: _ => by simp [Op.bytesLess, bytesBefore]
  | x :: r, y :: s => by simp [Op.bytesLess, bytesBefore, less_before r s]
theorem less_strOf (a b : Nm) : Op.bytesLess (strOf a).toList (strOf b).toList = bytesBefore a b := by
  rw [strOf_toList, strOf_toList, less_before]
theorem eq_strOf (a b : Nm) : ((strOf a).toList == (strOf b).toList) = (a == b) := by rw [strOf_toList, strOf_toList]
/-- The place of a name among files that rise. -/
structure Place (nm : Nm) (l : List (Nm × Fl)) (k : Nat) : Prop where
  le : k ≤ l.length
  lo : ∀ p ∈ l.take k, bytesBefore p.1 nm = true
  hi : ∀ p, l[k]? = some p → bytesBefore p.1 nm = false
theorem before_asym {a b : Nm} (h : bytesBefore a b = true) : bytesBefore b a = false := by
  cases e : bytesBefore b a with
  | false => rfl
  | true => have := WideShapes.bytes_trans a b a h e; rw [bb_irrefl] at this; cases this
/-- The one that stands there, and whether it is the one. -/
theorem Place.has {nm : Nm} {l : List (Nm × Fl)} {k : Nat} (h : Place nm l k) (hr : rising l) : fhas nm l = true ↔ ∃ f, l[k]? = some (nm, f) := by
  constructor
  · intro hh
    obtain ⟨f, hf⟩ := fhas_some hh
    have hm := fget_mem hf
    obtain ⟨i, hi⟩ := List.getElem?_of_mem hm
    have hil : i < l.length := (List.getElem?_eq_some_iff.1 hi).1
    have h1 : ¬ i < k := fun hlt => by
      have := h.lo (nm, f) (List.mem_of_getElem? (i := i) (by rw [List.getElem?_take, if_pos hlt]; exact hi))
      simp only at this; rw [bb_irrefl] at this; cases this
    by_cases h2 : i = k
    · exact ⟨f, h2 ▸ hi⟩
    · have hk : k < l.length := by omega
      have hh2 := h.hi l[k] (List.getElem?_eq_getElem hk)
      have := List.pairwise_iff_getElem.1 hr k i hk hil (by omega)
      have e : l[i] = (nm, f) := by have := List.getElem?_eq_getElem hil; rw [hi] at this; exact (Option.some.inj this).symm
      rw [e] at this
      simp only at this
      rw [this] at hh2; cases hh2
  · rintro ⟨f, hf⟩
    exact fhas_get (rising_get hr (List.mem_of_getElem? hf))
theorem Place.get {nm : Nm} {l : List (Nm × Fl)} {k : Nat} (h : Place nm l k) (hr : rising l) (hh : fhas nm l = true) : ∃ f, l[k]? = some (nm, f) ∧ fget nm l = some f := by
  obtain ⟨f, hf⟩ := (h.has hr).1 hh
  exact ⟨f, hf, rising_get hr (List.mem_of_getElem? hf)⟩
/-- What lies behind the place lies behind the name. -/
theorem Place.behind {nm : Nm} {l : List (Nm × Fl)} {k : Nat} (h : Place nm l k) (hr : rising l) {j : Nat} (hj : (if fhas nm l then k + 1 else k) ≤ j) {p : Nm × Fl} (hp : l[j]? = some p) : bytesBefore nm p.1 = true := by
  have hjl := (List.getElem?_eq_some_iff.1 hp).1
  have e : l[j] = p := (List.getElem?_eq_some_iff.1 hp).2
  by_cases hh : fhas nm l = true
  · rw [if_pos hh] at hj
    obtain ⟨f, hf⟩ := (h.has hr).1 hh
    obtain ⟨hkl, hkf⟩ := List.getElem?_eq_some_iff.1 hf
    have := List.pairwise_iff_getElem.1 hr k j hkl hjl (by omega)
    rw [hkf, e] at this
    exact this
  · rw [if_neg hh] at hj
    have hkl : k < l.length := by omega
    have h1 := h.hi l[k] (List.getElem?_eq_getElem hkl)
    have hne : l[k].1 ≠ nm := fun e2 => hh ((h.has hr).2 ⟨l[k].2, by rw [List.getElem?_eq_getElem hkl, ← e2]⟩)
    have h2 : bytesBefore nm l[k].1 = true := by
      rcases WideAt.bytes_total l[k].1 nm hne with h3 | h3
      · rw [h3] at h1; cases h1
      · exact h3
    by_cases hjk : j = k
    · subst hjk; rw [← e]; exact h2
    · have := List.pairwise_iff_getElem.1 hr k j hkl hjl (by omega)
      rw [e] at this
      exact WideShapes.bytes_trans _ _ _ h2 this
theorem mem_take_drop {l : List (Nm × Fl)} {k m : Nat} (p : Nm × Fl) : p ∈ l.take k ++ l.drop m ↔ ∃ j, l[j]? = some p ∧ (j < k ∨ m ≤ j) := by
  rw [List.mem_append]
  constructor
  · rintro (h | h)
    · obtain ⟨j, hj⟩ := List.getElem?_of_mem h
      rw [List.getElem?_take] at hj
      split at hj
      · exact ⟨j, hj, Or.inl (by assumption)⟩
      · cases hj
    · obtain ⟨j, hj⟩ := List.getElem?_of_mem h
      rw [List.getElem?_drop] at hj
      exact ⟨m + j, hj, Or.inr (by omega)⟩
  · rintro ⟨j, hj, h | h⟩
    · exact Or.inl (List.mem_of_getElem? (i := j) (by rw [List.getElem?_take, if_pos h]; exact hj))
    · exact Or.inr (List.mem_of_getElem? (i := j - m) (by rw [List.getElem?_drop, show m + (j - m) = j by omega]; exact hj))
theorem Place.del {nm : Nm} {l : List (Nm × Fl)} {k : Nat} (h : Place nm l k) (hr : rising l) : fdel nm l = l.take k ++ l.drop (if fhas nm l then k + 1 else k) := by
  have hkm : k ≤ (if fhas nm l then k + 1 else k) := by split <;> omega
  refine eq_of_mem (fdel_rising nm hr) ?_ (fun p => ?_)
  · refine List.Pairwise.sublist ?_ hr
    have : List.Sublist (l.take k ++ l.drop (if fhas nm l then k + 1 else k)) (l.take k ++ l.drop k) := List.Sublist.append_left (by
      have e : l.drop (if fhas nm l then k + 1 else k) = (l.drop k).drop ((if fhas nm l then k + 1 else k) - k) := by rw [List.drop_drop]; congr 1; omega
      rw [e]; exact List.drop_sublist _ _) _
    rwa [List.take_append_drop] at this
  · rw [fdel_mem, mem_take_drop]
    constructor
    · rintro ⟨hm, hne⟩
      obtain ⟨j, hj⟩ := List.getElem?_of_mem hm
      refine ⟨j, hj, ?_⟩
      by_cases h1 : j < k
      · exact Or.inl h1
      · right
        by_cases hh : fhas nm l = true
        · rw [if_pos hh]
          obtain ⟨f, hf⟩ := (h.has hr).1 hh
          by_cases h2 : j = k
          · subst h2; rw [hf] at hj; cases hj; exact absurd rfl hne
          · omega
        · rw [if_neg hh]; omega
    · rintro ⟨j, hj, hc⟩
      refine ⟨List.mem_of_getElem? hj, fun e => ?_⟩
      rcases hc with hc | hc
      · have := h.lo p (List.mem_of_getElem? (i := j) (by rw [List.getElem?_take, if_pos hc]; exact hj))
        rw [e, bb_irrefl] at this; cases this
      · have := h.behind hr hc hj
        rw [e, bb_irrefl] at this; cases this
theorem Place.put {nm : Nm} {l : List (Nm × Fl)} {k : Nat} (h : Place nm l k) (hr : rising l) (x : Fl) : fput nm x l = l.take k ++ (nm, x) :: l.drop (if fhas nm l then k + 1 else k) := by
  have hkm : k ≤ (if fhas nm l then k + 1 else k) := by split <;> omega
  have hd := h.del hr
  refine eq_of_mem (fput_rising nm x hr) ?_ (fun p => ?_)
  · have h1 : rising (l.take k ++ l.drop (if fhas nm l then k + 1 else k)) := by rw [← hd]; exact fdel_rising nm hr
    unfold rising at h1 ⊢
    rw [List.pairwise_append] at h1 ⊢
    refine ⟨h1.1, List.pairwise_cons.2 ⟨fun q hq => ?_, h1.2.1⟩, fun a ha b hb => ?_⟩
    · obtain ⟨j, hj⟩ := List.getElem?_of_mem hq
      rw [List.getElem?_drop] at hj
      exact h.behind hr (Nat.le_add_right _ _) hj
    · rcases List.mem_cons.1 hb with rfl | hb
      · exact h.lo a ha
      · exact h1.2.2 a ha b hb
  · have e := fdel_mem nm l p
    rw [hd, List.mem_append] at e
    rw [fput_mem, List.mem_append, List.mem_cons]
    rw [← e]
    constructor
    · rintro (h1 | h1 | h1)
      · exact Or.inr (Or.inl h1)
      · exact Or.inl h1
      · exact Or.inr (Or.inr h1)
    · rintro (h1 | h1 | h1)
      · exact Or.inr (Or.inl h1)
      · exact Or.inl h1
      · exact Or.inr (Or.inr h1)
set_option maxRecDepth 100000 in
set_option maxHeartbeats 1600000 in
theorem place_any (S : Dk) (hS : Ok S) (ao : Option Addr) (c : Nat) (ar : Bool) (lf : Nat) (dn : Bool) (nm : Nm) (w : World) (hat : FilesAt w ao S.files) :
    Calls Try.prog 45 #[.agg (rV S ao S.files.length c ar lf dn), .string (strOf nm)] w fun e w' => ∃ k, Place nm S.files k ∧ e = .returned (.tuple #[.int .i64 (k : Int), .bool (fhas nm S.files)]) ∧ After w w' := by
  have HF : Hid (FilesAt w ao S.files) := hat
  have HR : Hid (rising S.files) := hS.ris
  have hn := hS.count
  obtain ⟨l, hl⟩ : ∃ l, S.files = l := ⟨_, rfl⟩
  rw [hl] at HF HR hn ⊢
  obtain ⟨n, hn'⟩ : ∃ n, l.length = n := ⟨_, rfl⟩
  have HN : Hid (l.length = n) := hn'
  rw [hn'] at hn ⊢
  unfold rV
  obtain ⟨is, his⟩ : ∃ is, fhas nm l = is := ⟨_, rfl⟩
  have HIS : Hid (fhas nm l = is) := his
  rw [his]
  clear hat hS hl hn' his
  go_enter Try.func45, Try.ntmps45
  go_wp2
  obtain ⟨w0, hw0⟩ : ∃ w0, w.alloc (.cells #[.int .i64 (S.most : Int), .slice ao n c, .int .i64 (S.steps : Int), .bool ar, .int .i64 (lf : Int), .bool dn, .bool S.down] 27) = w0 := ⟨_, rfl⟩
  rw [hw0]
  have HA0 : Hid (After w w0) := by rw [← hw0]; exact after_alloc (After.refl w) _
  have h1 : w0.cell? ⟨w.heap.size, 1, none⟩ = some (.slice ao n c) := by rw [← hw0]; exact (RowIs.new w 27 [.int .i64 (S.most : Int), .slice ao n c, .int .i64 (S.steps : Int), .bool ar, .int .i64 (lf : Int), .bool dn, .bool S.down]).cell rfl
  clear hw0
  go_loop [6] (fun i => ∃ k : Nat, k ≤ n ∧ i = .int .i64 k ∧ Hid (∀ p ∈ l.take k, bytesBefore p.1 nm = true)) (fun i => n - (intOf i).toNat)
  case atStart => exact ⟨0, Nat.zero_le _, rfl, fun p hp => by simp at hp⟩
  case round =>
    obtain ⟨k, hk, rfl, hlo⟩ := hrel
    by_cases hlt : k < n
    · have hki : (k : Int) < (n : Int) := by omega
      obtain ⟨p, hp⟩ : ∃ p, l[k]? = some p := ⟨_, List.getElem?_eq_getElem (by rw [HN.out]; exact hlt)⟩
      have HP : Hid (l[k]? = some p) := hp
      obtain ⟨fb, fo, hao, _, hfc⟩ := HF.out (by intro h; rw [h] at hp; simp at hp)
      subst hao
      have hc := cell_after HA0.out (hfc k p hp).1
      obtain ⟨q, hq⟩ : ∃ q, p.1 = q := ⟨_, rfl⟩
      have HQ : Hid (p.1 = q) := hq
      rw [hq] at hc
      clear hp hq hfc
      cases hb : bytesBefore q nm with
      | true =>
        have hb2 : Op.bytesLess (strOf q).toList (strOf nm).toList = true := by rw [less_strOf]; exact hb
        have HB : Hid (bytesBefore q nm = true) := hb
        clear hb
        go_wp2
        go_round
        case rel => exact ⟨k + 1, by omega, by go_num, fun x hx => by
          rw [List.take_add_one, HP.out, List.mem_append] at hx
          rcases hx with hx | hx
          · exact hlo.out x hx
          · simp at hx; subst hx; rw [HQ.out]; exact HB.out⟩
        case measure => simp [intOf]; omega
      | false =>
        have hb2 : Op.bytesLess (strOf q).toList (strOf nm).toList = false := by rw [less_strOf]; exact hb
        have HPL : Hid (Place nm l k) := ⟨by rw [HN.out]; omega, hlo.out, fun x hx => by rw [HP.out] at hx; cases hx; rw [HQ.out]; exact hb⟩
        have he : ((strOf q).toList == (strOf nm).toList) = is := by
          rw [eq_strOf, ← HIS.out]
          apply Bool.eq_iff_iff.2
          rw [HPL.out.has HR.out, HP.out]
          constructor
          · intro h; exact ⟨p.2, by rw [← eq_of_beq h, ← HQ.out]⟩
          · rintro ⟨f, hf⟩; cases hf; rw [← HQ.out]; simp
        clear hb
        go_wp2_with fail
        go_quiet (fail)
        go_wp2
        go_ret2
        refine ⟨k, HPL.out, ?_, below_drewN HA0.out _⟩
        simp
    · obtain rfl : k = n := by omega
      have hdf : decide ((k : Int) < (k : Int)) = false := by simp
      have HPL : Hid (Place nm l k) := ⟨by rw [HN.out]; omega, hlo.out, fun x hx => by have := (List.getElem?_eq_some_iff.1 hx).1; rw [HN.out] at this; omega⟩
      have HI2 : Hid (is = false) := by
        cases e : is with
        | false => rfl
        | true =>
          obtain ⟨f, hf⟩ := (HPL.out.has HR.out).1 (HIS.out.trans e)
          have := (List.getElem?_eq_some_iff.1 hf).1; rw [HN.out] at this; omega
      go_wp2_with fail
      go_quiet (fail)
      go_wp2
      go_ret2
      refine ⟨k, HPL.out, ?_, below_drewN HA0.out _⟩
      rw [HI2.out]; simp
end Go.Proofs.Ytlbodickflljfaa
