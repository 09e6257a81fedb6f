/-
  CONTRACTS: Plain Kit Hand Puts Gets GetsTwo GetsThree BackWalk Hand2 Row RefGets
-/
import Derived.Test.YtgmdolpjkaajfaaGreatDoorRows
import Derived.WalkKit
import Derived.WalkSpells
import Derived.WalkLawsBesides
import Derived.Lib.AppendStr
import Derived.Deep.RegionHeld3
import Derived.Laws.Bits64b
import Derived.Lib.Strings
import Derived.Deep.Upon
import Derived.ChangeKeysEq
namespace Leb
/-- A number's groups. -/
def uintB (n : Nat) : List UInt8 := if n < 128 then [UInt8.ofNat n] else UInt8.ofNat (n % 128 + 128) :: uintB (n / 128)
termination_by n
decreasing_by omega
def intB (n : Int) : List UInt8 := if -64 ≤ n ∧ n ≤ 63 then [UInt8.ofNat (n % 128).toNat] else UInt8.ofNat ((n % 128).toNat + 128) :: intB (n / 128)
termination_by n.natAbs
decreasing_by omega
def textB (s : List UInt8) : List UInt8 := uintB s.length ++ s
def val : List UInt8 → Nat
  | [] => 0
  | b :: bs => b.toNat % 128 + 128 * val bs
def sval : List UInt8 → Int
  | [] => 0
  | [b] => if 64 ≤ b.toNat % 128 then (b.toNat % 128 : Nat) - 128 else (b.toNat % 128 : Nat)
  | b :: c :: bs => (b.toNat % 128 : Nat) + 128 * sval (c :: bs)
/-- The error, and how many groups. -/
def grp : Nat → List UInt8 → Nat × Nat
  | 0, _ => (4, 0)
  | _ + 1, [] => (3, 0)
  | f + 1, b :: bs => if b.toNat < 128 then (0, 1) else if (grp f bs).1 = 0 then (0, (grp f bs).2 + 1) else ((grp f bs).1, 0)
theorem grp_ok : ∀ (f : Nat) (bs : List UInt8) (i : Nat), i < f → i < bs.length → (∀ j, j < i → 128 ≤ (bs.getD j 0).toNat) → (bs.getD i 0).toNat < 128 → grp f bs = (0, i + 1)
  | 0, _, _, h, _, _, _ => by omega
  | _ + 1, [], _, _, h, _, _ => by simp at h
  | f + 1, b :: bs, 0, _, _, _, h => by simp at h; simp [grp, h]
  | f + 1, b :: bs, i + 1, h0, h1, h2, h3 => by
    have hb := h2 0 (by omega)
    simp at hb
    have ih := grp_ok f bs i (by omega) (by simpa using h1) (fun j hj => by simpa using h2 (j + 1) (by omega)) (by simpa using h3)
    simp [grp, ih]; omega
theorem grp_cut : ∀ (f : Nat) (bs : List UInt8), bs.length < f → (∀ j, j < bs.length → 128 ≤ (bs.getD j 0).toNat) → grp f bs = (3, 0)
  | 0, _, h, _ => by omega
  | _ + 1, [], _, _ => rfl
  | f + 1, b :: bs, h, h2 => by
    have hb := h2 0 (by simp)
    simp at hb
    have ih := grp_cut f bs (by simpa using h) (fun j hj => by simpa using h2 (j + 1) (by simpa using hj))
    simp [grp, ih]; omega
theorem grp_form : ∀ (f : Nat) (bs : List UInt8), f ≤ bs.length → (∀ j, j < f → 128 ≤ (bs.getD j 0).toNat) → grp f bs = (4, 0)
  | 0, _, _, _ => rfl
  | _ + 1, [], h, _ => by simp at h
  | f + 1, b :: bs, h, h2 => by
    have hb := h2 0 (by omega)
    simp at hb
    have ih := grp_form f bs (by simpa using h) (fun j hj => by simpa using h2 (j + 1) (by omega))
    simp [grp, ih]; omega
theorem grp_le : ∀ (f : Nat) (bs : List UInt8), (grp f bs).1 = 0 → (grp f bs).2 ≤ bs.length ∧ (grp f bs).2 ≤ f ∧ 0 < (grp f bs).2
  | 0, _, h => by simp [grp] at h
  | _ + 1, [], h => by simp [grp] at h
  | f + 1, b :: bs, h => by
    simp only [grp] at h ⊢
    split
    · simp
    · rename_i hb
      rw [if_neg hb] at h
      split
      · rename_i h0
        have := grp_le f bs h0
        simp; omega
      · rename_i h0
        rw [if_neg h0] at h
        exact absurd h h0
theorem intB_ne (n : Int) : intB n ≠ [] := by rw [intB]; split <;> simp
theorem b8 (n : Nat) (h : n < 256) : (UInt8.ofNat n).toNat = n := by simp [UInt8.toNat_ofNat']; omega
theorem val_uintB (n : Nat) : val (uintB n) = n := by
  induction n using Nat.strongRecOn with
  | _ n ih =>
    rw [uintB]
    split
    · rename_i h; simp only [val]; rw [b8 _ (by omega)]; omega
    · rename_i h; simp only [val]; rw [b8 _ (by omega), ih (n / 128) (by omega)]; omega
theorem sval_cons (b : UInt8) (bs : List UInt8) (h : bs ≠ []) : sval (b :: bs) = (b.toNat % 128 : Nat) + 128 * sval bs := by
  cases bs with
  | nil => exact absurd rfl h
  | cons c cs => rfl
theorem sval_intB (n : Int) : sval (intB n) = n := by
  induction h : n.natAbs using Nat.strongRecOn generalizing n with
  | _ k ih =>
    subst h
    rw [intB]
    split
    · rename_i h; simp only [sval]; rw [b8 _ (by omega)]; split <;> omega
    · rename_i h; rw [sval_cons _ _ (intB_ne _), b8 _ (by omega), ih _ (by omega) _ rfl]; omega
theorem grp_uintB : ∀ (f n : Nat) (t : List UInt8), n < 128 ^ (f + 1) → grp (f + 1) (uintB n ++ t) = (0, (uintB n).length)
  | f, n, t, h => by
    rw [uintB]
    split
    · simp [grp]; omega
    · rename_i h1
      cases f with
      | zero => simp at h; omega
      | succ f =>
        have ih := grp_uintB f (n / 128) t (by rw [Nat.pow_succ] at h; omega)
        have h2 : ¬ (UInt8.ofNat (n % 128 + 128)).toNat < 128 := by rw [b8 _ (by omega)]; omega
        rw [List.cons_append, grp, if_neg h2, ih]; simp
theorem uintB_len : ∀ (f n : Nat), n < 128 ^ (f + 1) → (uintB n).length ≤ f + 1
  | f, n, h => by
    rw [uintB]
    split
    · simp
    · rename_i h1
      cases f with
      | zero => simp at h; omega
      | succ f =>
        have ih := uintB_len f (n / 128) (by rw [Nat.pow_succ] at h; omega)
        simp; omega
theorem grp_intB : ∀ (f : Nat) (n : Int) (t : List UInt8), -64 * 128 ^ f ≤ n → n < 64 * 128 ^ f → grp (f + 1) (intB n ++ t) = (0, (intB n).length)
  | f, n, t, h, h' => by
    rw [intB]
    split
    · rename_i h1; simp [grp]; omega
    · rename_i h1
      cases f with
      | zero => simp at h h'; omega
      | succ f =>
        have ih := grp_intB f (n / 128) t (by rw [Int.pow_succ] at h; omega) (by rw [Int.pow_succ] at h'; omega)
        have h2 : ¬ (UInt8.ofNat ((n % 128).toNat + 128)).toNat < 128 := by rw [b8 _ (by omega)]; omega
        rw [List.cons_append, grp, if_neg h2, ih]; simp
theorem intB_len : ∀ (f : Nat) (n : Int), -64 * 128 ^ f ≤ n → n < 64 * 128 ^ f → (intB n).length ≤ f + 1
  | f, n, h, h' => by
    rw [intB]
    split
    · simp
    · rename_i h1
      cases f with
      | zero => simp at h h'; omega
      | succ f =>
        have ih := intB_len f (n / 128) (by rw [Int.pow_succ] at h; omega) (by rw [Int.pow_succ] at h'; omega)
        simp; omega
theorem uintB_len10 (n : Nat) (h : n < 18446744073709551616) : (uintB n).length ≤ 10 := uintB_len 9 n (by omega)
theorem intB_len10 (n : Int) (h : -9223372036854775808 ≤ n) (h' : n ≤ 9223372036854775807) : (intB n).length ≤ 10 := intB_len 9 n (by omega) (by omega)
theorem grp_uint (n : Nat) (t : List UInt8) (h : n < 18446744073709551616) : grp 10 (uintB n ++ t) = (0, (uintB n).length) := grp_uintB 9 n t (by omega)
theorem grp_int (n : Int) (t : List UInt8) (h : -9223372036854775808 ≤ n) (h' : n ≤ 9223372036854775807) : grp 10 (intB n ++ t) = (0, (intB n).length) := grp_intB 9 n t (by omega) (by omega)
/-- What GetUint answers: the number, how many bytes, the error. -/
def guN (bs : List UInt8) : Nat := val (bs.take (grp 10 bs).2) % 18446744073709551616
def guOk (bs : List UInt8) : Bool := decide ((grp 10 bs).1 = 0) && decide (uintB (guN bs) = bs.take (grp 10 bs).2)
def guE (bs : List UInt8) : Nat := if (grp 10 bs).1 = 0 then (if uintB (guN bs) = bs.take (grp 10 bs).2 then 0 else 4) else (grp 10 bs).1
def guK (bs : List UInt8) : Nat := if guE bs = 0 then (grp 10 bs).2 else 0
def guV (bs : List UInt8) : Nat := if guE bs = 0 then guN bs else 0
def wrap64 (x : Int) : Int := (x + 9223372036854775808) % 18446744073709551616 - 9223372036854775808
def giN (bs : List UInt8) : Int := wrap64 (sval (bs.take (grp 10 bs).2))
def giE (bs : List UInt8) : Nat := if (grp 10 bs).1 = 0 then (if intB (giN bs) = bs.take (grp 10 bs).2 then 0 else 4) else (grp 10 bs).1
def giK (bs : List UInt8) : Nat := if giE bs = 0 then (grp 10 bs).2 else 0
def giV (bs : List UInt8) : Int := if giE bs = 0 then giN bs else 0
def gtE (bs : List UInt8) (most : Int) : Nat := if guE bs = 0 then (if most < (guV bs : Int) then 5 else if bs.length < guK bs + guV bs then 3 else 0) else guE bs
def gtK (bs : List UInt8) (most : Int) : Nat := if gtE bs most = 0 then guK bs + guV bs else 0
def gtS (bs : List UInt8) (most : Int) : List UInt8 := if gtE bs most = 0 then (bs.drop (guK bs)).take (guV bs) else []
theorem guN_lt (bs : List UInt8) : guN bs < 18446744073709551616 := Nat.mod_lt _ (by omega)
theorem guV_lt (bs : List UInt8) : guV bs < 18446744073709551616 := by unfold guV; split; exact guN_lt bs; omega
theorem giN_lt (bs : List UInt8) : -9223372036854775808 ≤ giN bs ∧ giN bs ≤ 9223372036854775807 := by unfold giN wrap64; omega
theorem guK_le (bs : List UInt8) : guK bs ≤ bs.length := by
  unfold guK; split
  · rename_i h
    have : (grp 10 bs).1 = 0 := by unfold guE at h; split at h; assumption; assumption
    exact (grp_le 10 bs this).1
  · omega
theorem guE_cases (bs : List UInt8) : guE bs = 0 ∨ (guE bs ≠ 0 ∧ guK bs = 0 ∧ guV bs = 0) := by
  by_cases h : guE bs = 0
  · exact .inl h
  · exact .inr ⟨h, by simp [guK, h], by simp [guV, h]⟩
/-- Bytes that are taken off as a number are those that are laid for it. -/
theorem gu_only (bs : List UInt8) (h : guE bs = 0) : uintB (guV bs) = bs.take (guK bs) := by
  have h' := h
  unfold guE at h
  split at h
  · split at h
    · rename_i h2; simp [guV, guK, h', h2]
    · cases h
  · rename_i h1; exact absurd h h1
theorem gu_back (n : Nat) (t : List UInt8) (h : n < 18446744073709551616) : guE (uintB n ++ t) = 0 ∧ guK (uintB n ++ t) = (uintB n).length ∧ guV (uintB n ++ t) = n := by
  have hg := grp_uint n t h
  have hN : guN (uintB n ++ t) = n := by unfold guN; rw [hg]; simp [val_uintB]; omega
  have hE : guE (uintB n ++ t) = 0 := by unfold guE; rw [hN, hg]; simp
  exact ⟨hE, by unfold guK; rw [if_pos hE, hg], by unfold guV; rw [if_pos hE, hN]⟩
theorem gi_back (n : Int) (t : List UInt8) (h : -9223372036854775808 ≤ n) (h' : n ≤ 9223372036854775807) : giE (intB n ++ t) = 0 ∧ giK (intB n ++ t) = (intB n).length ∧ giV (intB n ++ t) = n := by
  have hg := grp_int n t h h'
  have hN : giN (intB n ++ t) = n := by unfold giN; rw [hg]; simp [sval_intB, wrap64]; omega
  have hE : giE (intB n ++ t) = 0 := by unfold giE; rw [hN, hg]; simp
  exact ⟨hE, by unfold giK; rw [if_pos hE, hg], by unfold giV; rw [if_pos hE, hN]⟩
theorem gt_back (s t : List UInt8) (most : Int) (h : s.length < 18446744073709551616) (hm : (s.length : Int) ≤ most) : gtE (textB s ++ t) most = 0 ∧ gtK (textB s ++ t) most = (textB s).length ∧ gtS (textB s ++ t) most = s := by
  obtain ⟨h1, h2, h3⟩ := gu_back s.length (s ++ t) h
  rw [← List.append_assoc, show uintB s.length ++ s = textB s from rfl] at h1 h2 h3
  have hE : gtE (textB s ++ t) most = 0 := by
    unfold gtE; rw [if_pos h1, h3, h2, if_neg (by omega), if_neg (by simp [textB])]
  refine ⟨hE, by unfold gtK; rw [if_pos hE, h2, h3]; simp [textB], ?_⟩
  unfold gtS
  rw [if_pos hE, h2, h3]
  simp [textB]
theorem gtE_ok (bs : List UInt8) (most : Int) (h : gtE bs most = 0) : guE bs = 0 ∧ (guV bs : Int) ≤ most ∧ guK bs + guV bs ≤ bs.length := by
  unfold gtE at h
  split at h
  · rename_i h0
    split at h
    · cases h
    · rename_i h1
      split at h
      · cases h
      · rename_i h2; exact ⟨h0, by omega, by omega⟩
  · rename_i h0; exact absurd h h0
theorem gt_only (bs : List UInt8) (most : Int) (h : gtE bs most = 0) : gtK bs most ≤ bs.length ∧ textB (gtS bs most) = bs.take (gtK bs most) := by
  obtain ⟨h0, h1, h2⟩ := gtE_ok bs most h
  have hk : gtK bs most = guK bs + guV bs := by unfold gtK; rw [if_pos h]
  have hs : gtS bs most = (bs.drop (guK bs)).take (guV bs) := by unfold gtS; rw [if_pos h]
  refine ⟨by rw [hk]; exact h2, ?_⟩
  have hl : ((bs.drop (guK bs)).take (guV bs)).length = guV bs := by simp; omega
  rw [hk, hs, textB, hl, gu_only bs h0, List.take_add]
end Leb
namespace Go.Proofs.YtgmdolpjkaajfaaGreatDoor
open Go.RowKit Leb
def c8 (l : List UInt8) : List Value := l.map fun b => .int .u8 (b.toNat : Int)
theorem c8_len (l : List UInt8) : (c8 l).length = l.length := by simp [c8]
theorem c8_get (l : List UInt8) (j : Nat) (h : j < l.length) : (c8 l)[j]? = some (.int .u8 ((l.getD j 0).toNat : Int)) := by
  simp [c8, h]
theorem c8_one (l : List UInt8) : ∀ v ∈ c8 l, v.oneCell' = true := by
  intro v hv; simp only [c8, List.mem_map] at hv; obtain ⟨b, _, rfl⟩ := hv; rfl
theorem c8_append (l m : List UInt8) : c8 (l ++ m) = c8 l ++ c8 m := by simp [c8]
def strOf (l : List UInt8) : ByteArray := ⟨l.toArray⟩
theorem strOf_size (l : List UInt8) : (strOf l).size = l.length := by simp [strOf, ByteArray.size]
theorem foldl_push (l : List UInt8) : ∀ s : List UInt8, (l.map fun b => (b.toNat : Int)).foldl (fun r n => r.push (UInt8.ofNat n.toNat)) (strOf s) = strOf (s ++ l) := by
  induction l with
  | nil => intro s; simp
  | cons b l ih =>
    intro s
    simp only [List.map_cons, List.foldl_cons, Int.toNat_natCast]
    have e : (strOf s).push (UInt8.ofNat b.toNat) = strOf (s ++ [b]) := by simp [strOf, ByteArray.push]
    rw [e, ih]; simp
/-- The bytes bs lie at a slice's head. -/
def BytesAt (w : World) (ao : Option Addr) (bs : List UInt8) : Prop := bs ≠ [] → ∃ b o, ao = some ⟨b, o, none⟩ ∧ ∀ j, j < bs.length → w.cell? ⟨b, o + j, none⟩ = some (.int .u8 ((bs.getD j 0).toNat : Int))
theorem conv_at {W : World} {ao : Option Addr} {bs : List UInt8} (cap : Nat) (h : BytesAt W ao bs) :
    (convert 32 9 (.slice ao bs.length cap)).run Tryz.prog W = .ok (.string (strOf bs)) W := by
  rw [run_convert_bytes_string W 32 9 5 _ _ _ Tryz.underlying32 Tryz.underlying5 Tryz.underlying9]
  have step : ∀ ad : Addr, (∀ (j : Nat) (v : Value), (c8 bs)[j]? = some v → W.cell? (ad.add j) = some v) → (Conv.bytesToString (.slice (some ad) bs.length cap)).run Tryz.prog W = .ok (.string (strOf bs)) W := fun ad hc => by
    have hl := run_loadCells_list (P := Tryz.prog) W ad (c8 bs) hc
    rw [c8_len] at hl
    have e : c8 bs = (bs.map fun b => (b.toNat : Int)).map (Value.int .u8) := by simp [c8]
    rw [e] at hl
    rw [run_bytesToString W _ _ _ _ hl]
    have := foldl_push bs []
    simp only [List.nil_append] at this
    rw [show ByteArray.empty = strOf [] from rfl, this]
  by_cases hn : bs = []
  · subst hn
    cases ao with
    | none => simp [Conv.bytesToString, strOf]; rfl
    | some ad => exact step ad (fun j v hv => by simp [c8] at hv)
  · obtain ⟨b, o, rfl, hc⟩ := h hn
    refine step _ (fun j v hv => ?_)
    have hj := (List.getElem?_eq_some_iff.1 hv).1
    rw [c8_len] at hj
    rw [c8_get bs j hj] at hv
    rw [Addr.add_mid, hc j hj, hv]
/-- A row of the call's own that holds bytes. -/
def Own (w : World) (base : Nat) (v : Value) (bs : List UInt8) : Prop := w.ownsRow base 5 1 v bs.length (c8 bs)
theorem Own.nil (w : World) (base : Nat) : Own w base (.slice none 0 0) [] := World.ownsRow_nil w base 5 1
theorem Own.at {w : World} {base : Nat} {v : Value} {bs : List UInt8} (h : Own w base v bs) : ∃ ao cap, v = .slice ao bs.length cap ∧ BytesAt w ao bs ∧ bs.length ≤ cap ∧ (∀ a, ao = some a → base ≤ a.block ∧ a.block < w.heap.size) := by
  have hlt := World.ownsRow.lt h
  have hc := fun g hg => World.ownsRow.cells (g := g) h hg
  rcases h.2 with ⟨rfl, h0⟩ | ⟨g, cap, cur, rfl, hb, hg, hnc, _, hcs, ht⟩
  · obtain rfl : bs = [] := List.eq_nil_of_length_eq_zero h0
    exact ⟨none, 0, rfl, fun h => absurd rfl h, Nat.le_refl _, fun _ h => by cases h⟩
  · refine ⟨some ⟨g, 0, none⟩, cap, rfl, fun _ => ⟨g, 0, rfl, fun j hj => ?_⟩, hnc, fun a ha => ?_⟩
    · have := hc g rfl j _ (c8_get bs j hj)
      rwa [Addr.add_mid] at this
    · cases ha; exact hlt g rfl
theorem BytesAt.below {w w' : World} {B : Nat} {ao : Option Addr} {bs : List UInt8} (h : BytesAt w ao bs) (hb : Below B w w') (hl : ∀ a, ao = some a → bs ≠ [] → a.block < B) : BytesAt w' ao bs := fun hn => by
  obtain ⟨b, o, rfl, hc⟩ := h hn
  exact ⟨b, o, rfl, fun j hj => by rw [hb.cell (p := ⟨b, o + j, none⟩) (hl ⟨b, o, none⟩ rfl hn)]; exact hc j hj⟩
theorem Own.conv {w : World} {base : Nat} {v : Value} {bs : List UInt8} (h : Own w base v bs) : (convert 32 9 v).run Tryz.prog w = .ok (.string (strOf bs)) w := by
  obtain ⟨ao, cap, rfl, hb, _⟩ := h.at
  exact conv_at cap hb
theorem Own.below {w w' : World} {base B : Nat} {v : Value} {bs : List UInt8} (h : Own w base v bs) (hb : Below B w w') (hB : w.heap.size ≤ B) : Own w' base v bs := by
  refine ⟨h.1, ?_⟩
  rcases h.2 with hn | ⟨g, cap, cur, rfl, h1, h2, rest⟩
  · exact .inl hn
  · refine .inr ⟨g, cap, cur, rfl, h1, ?_, rest⟩
    have := (Array.getElem?_eq_some_iff.1 h2).1
    rw [hb.block g (by omega)]; exact h2
theorem Own.mono {w : World} {base base' : Nat} {v : Value} {bs : List UInt8} (h : Own w base v bs) (hb : base' ≤ base) : Own w base' v bs := by
  refine ⟨h.1, ?_⟩
  rcases h.2 with hn | ⟨g, cap, cur, rfl, h1, rest⟩
  · exact .inl hn
  · exact .inr ⟨g, cap, cur, rfl, by omega, rest⟩
theorem bytes5 : (Tryz.prog.info? 5).map (fun i => (i.zero, i.size, i.bytes)) = some (some (.int .u8 0), 1, 1) := by kernel_rfl
theorem made_zero (c : Nat) : madeCells (Value.cells (.int .u8 0)) c = (c8 (List.replicate c 0)).toArray := by
  apply Array.ext_getElem?
  intro i
  simp only [madeCells, c8, List.map_replicate]
  by_cases h : i < c
  · simp [h, Value.cells, Nat.mod_one]
  · simp [h]
theorem make_bytes (W : World) (l c : Nat) (hlc : l ≤ c) (hc : c ≤ 281474976710656) :
    (Instr.makeSlice 32 (.int .i64 (l : Int)) (.int .i64 (c : Int))).run Tryz.prog W = .ok (.slice (some ⟨W.heap.size, 0, none⟩) l c) (W.alloc (.cells (c8 (List.replicate c 0)).toArray 5)) := by
  obtain ⟨i, hi, hz⟩ := Option.map_eq_some_iff.1 bytes5
  simp only [Prod.mk.injEq] at hz
  obtain ⟨hz, hs, hb⟩ := hz
  have := run_make (P := Tryz.prog) W 32 5 i (.int .u8 0) Tryz.underlying32 hi hz .i64 .i64 l c (by omega) (by omega) (by rw [hb]; omega) (by omega)
  rw [this, hs, Nat.mul_one, Int.toNat_natCast, Int.toNat_natCast, made_zero]
theorem Own.made (w : World) (c : Nat) (hc : c ≤ maxLen) : Own (w.alloc (.cells (c8 (List.replicate c 0)).toArray 5)) w.heap.size (.slice (some ⟨w.heap.size, 0, none⟩) 0 c) [] :=
  World.ownsRow_made w _ c (Nat.le_refl _) hc (by simp [c8])
/-- Nothing old has turned, when the row that grew is new. -/
theorem below_grown {w w1 w2 : World} {B : Nat} {row : Option Nat} (h : Below B w w1) (hg : w1.grownBy w2 row) (hr : ∀ k, row = some k → B ≤ k) (hB : B ≤ w1.heap.size) : Below B w w2 :=
  ⟨hg.os.trans h.os, hg.tape.trans h.tape, hg.output.trans h.output, Nat.le_trans h.size hg.size, fun k hk => (hg.block k (by omega) (fun e => by have := hr k e.symm; omega)).trans (h.block k hk)⟩
/-- append(own, b...), b a slice whose bytes are known. -/
theorem wpList_append_bytes {w : World} {ops : Array Oper} {rest : List Oper} {o : Oper} {a : Act} {Q : Exit → Act → World → Prop} (hgd : o.guard = none) (s x : Operand)
    (ho : o.op = .call { callee := .builtin .append, args := #[s, x], argTypes := #[32, 32] })
    (base : Nat) (v : Value) (bs : List UInt8) (hs : a.eval s = v) (hown : Own w base v bs)
    (ad : Addr) (c : Nat) (news : List UInt8) (hx : a.eval x = .slice (some ad) news.length c) (hnews : BytesAt w (some ad) news)
    (hbytes : bs.length + news.length ≤ 140737488355328) (hbase : base ≤ w.heap.size)
    (h : ∀ v' w', Own w' base v' (bs ++ news) → w.grownBy w' v.ownBlock → wpList Tryz.prog ops Q rest (a.put o.dst v') w') : wpList Tryz.prog ops Q (o :: rest) a w := by
  obtain ⟨i, hi, hz⟩ := Option.map_eq_some_iff.1 bytes5
  simp only [Prod.mk.injEq] at hz
  obtain ⟨hz, hsz, hby⟩ := hz
  refine wpList_append_own w hgd s x 32 ho base 5 i (.int .u8 0) 1 1 Tryz.underlying32 hi hz hsz hby rfl (by omega) v bs.length (c8 bs) hs hown ad news.length c (c8 news) hx (by simp [c8_len]) ?_ (c8_one _) (by unfold maxLen; omega) (by omega) hbase ?_
  · intro j u hu
    have hj := (List.getElem?_eq_some_iff.1 hu).1
    rw [c8_len] at hj
    obtain ⟨b, o, he, hc⟩ := hnews (by intro h; simp [h] at hj)
    cases he
    rw [c8_get news j hj] at hu
    rw [Addr.add_mid, hc j hj, hu]
  · intro v' w' h1 h2 _
    exact h v' w' (by unfold Own; rw [c8_append, List.length_append]; exact h1) h2
theorem BytesAt.one (w : World) (b : UInt8) : BytesAt (w.alloc (.cells #[.int .u8 (b.toNat : Int)] 5)) (some ⟨w.heap.size, 0, none⟩) [b] := fun _ =>
  ⟨w.heap.size, 0, rfl, fun j hj => by
    obtain rfl : j = 0 := by simpa using hj
    rw [cell_of_row _ _ _ _ _ _ (heap_alloc_new w _)]; simp⟩
end Go.Proofs.YtgmdolpjkaajfaaGreatDoor
namespace Go.Proofs.YtgmdolpjkaajfaaGreatDoor
open Go.RowKit Leb
/-- Nothing of W has turned. -/
def After (W w : World) : Prop := Below W.heap.size W w
theorem After.refl (W : World) : After W W := Below.refl _ _
theorem After.trans {a b c : World} (h : After a b) (k : After b c) : After a c := Below.trans h (Below.mono k h.size)
theorem After.drew {a b : World} (h : After a b) : After a b.drew := Below.drew h
theorem turnH {P : Program} {md : Region.Mode} {ops : Array Oper} {Q : Exit → Act → World → Prop} {S T : World → Prop} (h : ∀ w, T w → S w) :
    ∀ (fuel : Nat) (listed : Array Bool) (a : Act) (w : World), wpAnyH P md ops Q T fuel listed a w → wpAnyH P md ops Q S fuel listed a w
  | 0, _, _, _, k => k
  | fuel + 1, _, _, _, k => ⟨k.1, fun i hi => wpOp_mono (fun a' w' k' => ⟨h _ k'.1, turnH h fuel _ a' w' k'.2⟩) (k.2 i hi)⟩
section
variable {ops : Array Oper} {Q : Exit → Act → World → Prop} {S : World → Prop} {fuel : Nat} {listed : Array Bool} {a : Act} {w W : World} {oi : Oper}
/-- Number i is taken first: it yields v, into slot d. -/
theorem tk (i d : Nat) (v : Value) (hi : ops[i]? = some oi) (hd : oi.dst = some d) (hs : Region.noSelect ops = true) (hf : Region.free .any ops listed i = true) (hr : (Region.ready .any ops listed).contains i = true)
    (hQ : ∀ c a w, Q (.panic c) a w → False) (hw : Region.wanted oi (yielded ops a.tmps) = true) (hx : ∀ w, S w → (execOp a.eval oi).run Tryz.prog w = .ok (.value v) w) (hS : S w)
    (h : wpAnyH Tryz.prog .any ops Q S fuel (listed.setIfInBounds i true) (a.put (some d) v) w) : wpAnyH Tryz.prog .any ops Q S (fuel + 1) listed a w :=
  wpAnyH_take hi hs hf hr (fun c a w h => (hQ c _ w h).elim) (.inl ⟨hw, hx⟩) hS (by rw [hd]; exact h)
/-- Number i is a call, by its contract; nothing else may come up; from then on the world behind it is kept. -/
theorem tkCall (i d : Nat) (f : FuncId) (args : Array Value) (R : Value → World → Prop) (hi : ops[i]? = some oi) (hd : oi.dst = some d) (hr : Region.ready .any ops listed = [i])
    (hw : Region.wanted oi (yielded ops a.tmps) = true) (hrun : ∀ w, (execOp a.eval oi).run Tryz.prog w = .ok (.enter f args) w) (hS : After W w)
    (hc : Calls Tryz.prog f args w fun e w' => ∃ v, e = .returned v ∧ R v w' ∧ Below w.heap.size w w')
    (h : ∀ v w', R v w' → After w w' → wpAnyH Tryz.prog .any ops Q (After w') fuel (listed.setIfInBounds i true) (a.put (some d) v) w') : wpAnyH Tryz.prog .any ops Q (After W) (fuel + 1) listed a w :=
  wpAnyH_all hr (by simp) (fun j hj => by
    obtain rfl : j = i := by simpa using hj
    refine wpOp_step hi (fun K' hK => ?_)
    rw [if_pos hw]
    unfold Oper.wp
    rw [hrun, Oper.upon_enter]
    refine hc.mono (fun e w' ⟨v, he, hr, hb⟩ => ?_)
    subst he
    rw [hd]
    exact hK _ _ ⟨hS.trans hb, turnH (fun w hw => (hS.trans hb).trans hw) _ _ _ _ (h v w' hr hb)⟩)
theorem noPanic_false {Q : Exit → Act → World → Prop} : ∀ c a w, NoPanic Q (.panic c) a w → False := fun _ _ _ h => h
theorem x_conv {o : Oper} {a : Act} {x : Operand} {v : Value} {s : ByteArray} {w : World} (hop : o.op = .convert 32 9 x) (hx : a.eval x = v) (h : (convert 32 9 v).run Tryz.prog w = .ok (.string s) w) : (execOp a.eval o).run Tryz.prog w = .ok (.value (.string s)) w := by
  unfold execOp
  simp only [hop, hx, Sem.run_bind, h, Result.andThen_ok]
  rfl
end
end Go.Proofs.YtgmdolpjkaajfaaGreatDoor
namespace Go.Proofs.YtgmdolpjkaajfaaGreatDoor
open Go.RowKit Leb
theorem or128 (m : Nat) : bits .or .u8 ((m : Int) % 256) 128 = ((UInt8.ofNat (m % 128 + 128)).toNat : Int) := by
  have all : ∀ j : Fin 256, bits .or .u8 (j.val : Int) 128 = ((UInt8.ofNat (j.val % 128 + 128)).toNat : Int) := by decide +kernel
  have := all ⟨m % 256, Nat.mod_lt _ (by omega)⟩
  simp only at this
  rw [show m % 256 % 128 = m % 128 by omega] at this
  rw [← this]; rfl
theorem or128i (m : Int) : bits .or .u8 (m % 256) 128 = ((UInt8.ofNat ((m % 128).toNat + 128)).toNat : Int) := by
  have all : ∀ j : Fin 256, bits .or .u8 (j.val : Int) 128 = ((UInt8.ofNat (j.val % 128 + 128)).toNat : Int) := by decide +kernel
  have := all ⟨(m % 256).toNat, by omega⟩
  simp only at this
  rw [show (m % 256).toNat % 128 = (m % 128).toNat by omega, show (((m % 256).toNat : Nat) : Int) = m % 256 by omega] at this
  exact this
theorem and127i (m : Int) : bits .and .u8 (m % 256) 127 = m % 128 := by
  have all : ∀ j : Fin 256, bits .and .u8 (j.val : Int) 127 = ((j.val % 128 : Nat) : Int) := by decide +kernel
  have := all ⟨(m % 256).toNat, by omega⟩
  simp only at this
  rw [show (((m % 256).toNat : Nat) : Int) = m % 256 by omega] at this
  rw [this]; omega
theorem and127w (m : Int) : bits .and .i64 m 127 = m % 128 := by
  have e : bits .and .i64 m 127 = IntKind.i64.wrap (((m % 18446744073709551616).toNat % 2 ^ 7 : Nat) : Int) := by
    show IntKind.i64.wrap (((BitVec.ofInt 64 m &&& BitVec.ofInt 64 127).toNat : Nat) : Int) = _
    rw [BitVec.toNat_and, BitVec.toNat_ofInt, ← Nat.and_two_pow_sub_one_eq_mod]
    rfl
  rw [e]
  simp [IntKind.wrap, IntKind.bits, IntKind.signed]
  split <;> omega
def zero10 : List UInt8 := List.replicate 10 0
theorem make10 (W : World) : (Instr.makeSlice 32 (.int .i64 0) (.int .i64 10)).run Tryz.prog W = .ok (.slice (some ⟨W.heap.size, 0, none⟩) 0 10) (W.alloc (.cells (c8 zero10).toArray 5)) := make_bytes W 0 10 (by omega) (by omega)
theorem Own.made10 (w : World) : Own (w.alloc (.cells (c8 zero10).toArray 5)) w.heap.size (.slice (some ⟨w.heap.size, 0, none⟩) 0 10) [] := Own.made w 10 (by decide)
set_option maxRecDepth 100000 in
set_option maxHeartbeats 400000 in
theorem uint_any (n : Nat) (hn : n < 18446744073709551616) (w : World) :
    Calls Tryz.prog 69 #[.int .u64 n] w fun e w' => ∃ v, e = .returned v ∧ Own w' w.heap.size v (uintB n) ∧ Below w.heap.size w w' := by
  have hmk := make10
  have HN : Hid (n < 18446744073709551616) := hn
  clear hn
  go_enter Tryz.func69, Tryz.ntmps69
  go_wp2
  clear hmk
  go_loopw [0, 3] (fun i v wr => ∃ m : Nat, i = .int .u64 m ∧ m < 18446744073709551616 ∧ ∃ acc, acc ++ uintB m = uintB n ∧ Own wr w.heap.size v acc ∧ Below w.heap.size w wr) (fun i _ _ => (intOf i).toNat)
  case atStart => exact ⟨n, rfl, HN.out, [], rfl, Own.made10 w, (Below.refl _ _).alloc (Nat.le_refl _) _⟩
  case round =>
    obtain ⟨m, rfl, hm, acc, hacc, hown, hb⟩ := hrel
    have hlen : acc.length + [UInt8.ofNat 0].length ≤ 140737488355328 := by
      have h1 := congrArg List.length hacc
      have h2 := uintB_len10 n HN.out
      simp at h1 ⊢; omega
    have HL := show Hid _ from hlen
    have HA : Hid (acc ++ uintB m = uintB n) := hacc
    have HB : Hid (Below w.heap.size w wr) := hb
    have hsz := hb.size
    clear hacc hb hlen
    by_cases hlt : 127 < m
    · have hb0 := or128 m
      obtain ⟨x, hx⟩ : ∃ x, UInt8.ofNat (m % 128 + 128) = x := ⟨_, rfl⟩
      rw [hx] at hb0
      have HX : Hid (uintB m = x :: uintB (m / 128)) := by unfold Hid; rw [uintB, if_neg (by omega), hx]
      have HO : Hid (Own (wr.alloc (.cells #[.int .u8 (x.toNat : Int)] 5)) w.heap.size u3 acc) := World.ownsRow.alloc hown _
      have HO1 := World.ownsRow.lt hown
      clear hx hown
      go_wp2_with (at_builtin; refine wpList_append_bytes rfl _ _ rfl w.heap.size u3 acc rfl HO.out ⟨wr.heap.size, 0, none⟩ 1 [x] rfl (BytesAt.one wr x) HL.out (by simp; omega) ?_; intro v' w' ho hg)
      go_roundw
      case rel => exact ⟨m / 128, by go_num, by omega, acc ++ [x], by rw [← HA.out, HX.out]; simp, ho, below_grown (HB.out.alloc hsz _) hg (fun k hk => (HO1 k hk).1) (by simp; omega)⟩
      case measure => simp [intOf]; omega
    · obtain ⟨x, rfl⟩ : ∃ x : UInt8, m = x.toNat := ⟨UInt8.ofNat m, by rw [b8 m (by omega)]⟩
      have HX : Hid (uintB x.toNat = [x]) := by unfold Hid; rw [uintB, if_pos (by omega)]; simp
      have HO : Hid (Own (wr.alloc (.cells #[.int .u8 (x.toNat : Int)] 5)) w.heap.size u3 acc) := World.ownsRow.alloc hown _
      have HO1 := World.ownsRow.lt hown
      clear hown
      go_wp2_with (at_builtin; refine wpList_append_bytes rfl _ _ rfl w.heap.size u3 acc rfl HO.out ⟨wr.heap.size, 0, none⟩ 1 [x] rfl (BytesAt.one wr x) HL.out (by simp; omega) ?_; intro v' w' ho hg)
      go_ret
      exact ⟨_, rfl, by rw [← HA.out, HX.out]; exact ho, below_grown (HB.out.alloc hsz _) hg (fun k hk => (HO1 k hk).1) (by simp; omega)⟩
set_option maxRecDepth 100000 in
set_option maxHeartbeats 400000 in
theorem ruint_any (n : Nat) (hn : n < 18446744073709551616) (w : World) :
    Calls Tryz.prog 59 #[.int .u64 n] w fun e w' => ∃ v, e = .returned v ∧ Own w' w.heap.size v (uintB n) ∧ Below w.heap.size w w' := by
  have HN : Hid (n < 18446744073709551616) := hn
  clear hn
  go_enter Tryz.func59, Tryz.ntmps59
  go_wp2
  go_loopw [0, 3] (fun i v wr => ∃ m : Nat, i = .int .u64 m ∧ m < 18446744073709551616 ∧ ∃ acc, acc ++ uintB m = uintB n ∧ Own wr w.heap.size v acc ∧ Below w.heap.size w wr) (fun i _ _ => (intOf i).toNat)
  case atStart => exact ⟨n, rfl, HN.out, [], rfl, Own.nil w _, Below.refl _ _⟩
  case round =>
    obtain ⟨m, rfl, hm, acc, hacc, hown, hb⟩ := hrel
    have hlen : acc.length + [UInt8.ofNat 0].length ≤ 140737488355328 := by
      have h1 := congrArg List.length hacc
      have h2 := uintB_len10 n HN.out
      simp at h1 ⊢; omega
    have HL := show Hid _ from hlen
    have HA : Hid (acc ++ uintB m = uintB n) := hacc
    have HB : Hid (Below w.heap.size w wr) := hb
    have hsz := hb.size
    clear hacc hb hlen
    by_cases hlt : 127 < m
    · obtain ⟨x, hx, hb0⟩ : ∃ x, UInt8.ofNat (m % 128 + 128) = x ∧ (m : Int) % 128 + 128 = (x.toNat : Int) := ⟨_, rfl, by rw [b8 _ (by omega)]; omega⟩
      have HX : Hid (uintB m = x :: uintB (m / 128)) := by unfold Hid; rw [uintB, if_neg (by omega), hx]
      have HO : Hid (Own (wr.alloc (.cells #[.int .u8 (x.toNat : Int)] 5)) w.heap.size u3 acc) := World.ownsRow.alloc hown _
      have HO1 := World.ownsRow.lt hown
      clear hx hown
      go_wp2_with (at_builtin; refine wpList_append_bytes rfl _ _ rfl w.heap.size u3 acc rfl HO.out ⟨wr.heap.size, 0, none⟩ 1 [x] rfl (BytesAt.one wr x) HL.out (by simp; omega) ?_; intro v' w' ho hg)
      go_roundw
      case rel => exact ⟨m / 128, by go_num, by omega, acc ++ [x], by rw [← HA.out, HX.out]; simp, ho, below_grown (HB.out.alloc hsz _) hg (fun k hk => (HO1 k hk).1) (by simp; omega)⟩
      case measure => simp [intOf]; omega
    · obtain ⟨x, rfl⟩ : ∃ x : UInt8, m = x.toNat := ⟨UInt8.ofNat m, by rw [b8 m (by omega)]⟩
      have HX : Hid (uintB x.toNat = [x]) := by unfold Hid; rw [uintB, if_pos (by omega)]; simp
      have HO : Hid (Own (wr.alloc (.cells #[.int .u8 (x.toNat : Int)] 5)) w.heap.size u3 acc) := World.ownsRow.alloc hown _
      have HO1 := World.ownsRow.lt hown
      clear hown
      go_wp2_with (at_builtin; refine wpList_append_bytes rfl _ _ rfl w.heap.size u3 acc rfl HO.out ⟨wr.heap.size, 0, none⟩ 1 [x] rfl (BytesAt.one wr x) HL.out (by simp; omega) ?_; intro v' w' ho hg)
      go_ret
      exact ⟨_, rfl, by rw [← HA.out, HX.out]; exact ho, below_grown (HB.out.alloc hsz _) hg (fun k hk => (HO1 k hk).1) (by simp; omega)⟩
set_option maxRecDepth 100000 in
set_option maxHeartbeats 400000 in
theorem int_any (n : Int) (h0 : -9223372036854775808 ≤ n) (h1 : n ≤ 9223372036854775807) (w : World) :
    Calls Tryz.prog 132 #[.int .i64 n] w fun e w' => ∃ v, e = .returned v ∧ Own w' w.heap.size v (intB n) ∧ Below w.heap.size w w' := by
  have hmk := make10
  have HN : Hid (-9223372036854775808 ≤ n ∧ n ≤ 9223372036854775807) := ⟨h0, h1⟩
  clear h0 h1
  go_enter Tryz.func132, Tryz.ntmps132
  go_wp2
  clear hmk
  go_loopw [0, 3] (fun i v wr => ∃ m : Int, i = .int .i64 m ∧ -9223372036854775808 ≤ m ∧ m ≤ 9223372036854775807 ∧ ∃ acc, acc ++ intB m = intB n ∧ Own wr w.heap.size v acc ∧ Below w.heap.size w wr) (fun i _ _ => (intOf i).natAbs)
  case atStart => exact ⟨n, rfl, HN.out.1, HN.out.2, [], rfl, Own.made10 w, (Below.refl _ _).alloc (Nat.le_refl _) _⟩
  case round =>
    obtain ⟨m, rfl, hm0, hm1, acc, hacc, hown, hb⟩ := hrel
    have hlen : acc.length + [UInt8.ofNat 0].length ≤ 140737488355328 := by
      have h1 := congrArg List.length hacc
      have h2 := intB_len10 n HN.out.1 HN.out.2
      simp at h1 ⊢; omega
    have HL := show Hid _ from hlen
    have HA : Hid (acc ++ intB m = intB n) := hacc
    have HB : Hid (Below w.heap.size w wr) := hb
    have hsz := hb.size
    clear hacc hb hlen
    by_cases hlt : ¬ (-64 ≤ m ∧ m ≤ 63)
    · have hb0 := or128i m
      obtain ⟨x, hx⟩ : ∃ x, UInt8.ofNat ((m % 128).toNat + 128) = x := ⟨_, rfl⟩
      rw [hx] at hb0
      have HX : Hid (intB m = x :: intB (m / 128)) := by unfold Hid; rw [intB, if_neg hlt, hx]
      have HO : Hid (Own (wr.alloc (.cells #[.int .u8 (x.toNat : Int)] 5)) w.heap.size u3 acc) := World.ownsRow.alloc hown _
      have HO1 := World.ownsRow.lt hown
      clear hx hown
      go_wp2_with (at_builtin; refine wpList_append_bytes rfl _ _ rfl w.heap.size u3 acc rfl HO.out ⟨wr.heap.size, 0, none⟩ 1 [x] rfl (BytesAt.one wr x) HL.out (by simp; omega) ?_; intro v' w' ho hg)
      all_goals exact ⟨⟨m / 128, rfl, by omega, by omega, acc ++ [x], by rw [← HA.out, HX.out]; simp, ho, below_grown (HB.out.alloc hsz _) hg (fun k hk => (HO1 k hk).1) (by simp; omega)⟩, by simp [intOf]; omega⟩
    · obtain ⟨x, hx, hx2⟩ : ∃ x : UInt8, UInt8.ofNat (m % 128).toNat = x ∧ m % 128 = (x.toNat : Int) := ⟨_, rfl, by rw [b8 _ (by omega)]; omega⟩
      have hb1 := and127i m
      rw [hx2] at hb1
      have HX : Hid (intB m = [x]) := by unfold Hid; rw [intB, if_pos (by omega), hx]
      clear hx hx2
      have HO : Hid (Own (wr.alloc (.cells #[.int .u8 (x.toNat : Int)] 5)) w.heap.size u3 acc) := World.ownsRow.alloc hown _
      have HO1 := World.ownsRow.lt hown
      clear hown
      go_wp2_with (at_builtin; refine wpList_append_bytes rfl _ _ rfl w.heap.size u3 acc rfl HO.out ⟨wr.heap.size, 0, none⟩ 1 [x] rfl (BytesAt.one wr x) HL.out (by simp; omega) ?_; intro v' w' ho hg)
      go_ret
      exact ⟨_, rfl, by rw [← HA.out, HX.out]; exact ho, below_grown (HB.out.alloc hsz _) hg (fun k hk => (HO1 k hk).1) (by simp; omega)⟩
set_option maxRecDepth 100000 in
set_option maxHeartbeats 400000 in
theorem rint_any (n : Int) (h0 : -9223372036854775808 ≤ n) (h1 : n ≤ 9223372036854775807) (w : World) :
    Calls Tryz.prog 128 #[.int .i64 n] w fun e w' => ∃ v, e = .returned v ∧ Own w' w.heap.size v (intB n) ∧ Below w.heap.size w w' := by
  have HN : Hid (-9223372036854775808 ≤ n ∧ n ≤ 9223372036854775807) := ⟨h0, h1⟩
  clear h0 h1
  go_enter Tryz.func128, Tryz.ntmps128
  go_wp2
  go_loopw [0, 3] (fun i v wr => ∃ m : Int, i = .int .i64 m ∧ -9223372036854775808 ≤ m ∧ m ≤ 9223372036854775807 ∧ ∃ acc, acc ++ intB m = intB n ∧ Own wr w.heap.size v acc ∧ Below w.heap.size w wr) (fun i _ _ => (intOf i).natAbs)
  case atStart => exact ⟨n, rfl, HN.out.1, HN.out.2, [], rfl, Own.nil w _, Below.refl _ _⟩
  case round =>
    obtain ⟨m, rfl, hm0, hm1, acc, hacc, hown, hb⟩ := hrel
    have hlen : acc.length + [UInt8.ofNat 0].length ≤ 140737488355328 := by
      have h1 := congrArg List.length hacc
      have h2 := intB_len10 n HN.out.1 HN.out.2
      simp at h1 ⊢; omega
    have HL := show Hid _ from hlen
    have HA : Hid (acc ++ intB m = intB n) := hacc
    have HB : Hid (Below w.heap.size w wr) := hb
    have hsz := hb.size
    clear hacc hb hlen
    by_cases hlt : ¬ (-64 ≤ m ∧ m ≤ 63)
    · obtain ⟨x, hx, hb0⟩ : ∃ x, UInt8.ofNat ((m % 128).toNat + 128) = x ∧ (m : Int) % 128 + 128 = (x.toNat : Int) := ⟨_, rfl, by rw [b8 _ (by omega)]; omega⟩
      have hw := and127w m
      have HX : Hid (intB m = x :: intB (m / 128)) := by unfold Hid; rw [intB, if_neg hlt, hx]
      have HO : Hid (Own (wr.alloc (.cells #[.int .u8 (x.toNat : Int)] 5)) w.heap.size u3 acc) := World.ownsRow.alloc hown _
      have HO1 := World.ownsRow.lt hown
      clear hx hown
      go_wp2_with (at_builtin; refine wpList_append_bytes rfl _ _ rfl w.heap.size u3 acc rfl HO.out ⟨wr.heap.size, 0, none⟩ 1 [x] rfl (BytesAt.one wr x) HL.out (by simp; omega) ?_; intro v' w' ho hg)
      all_goals exact ⟨⟨m / 128, rfl, by omega, by omega, acc ++ [x], by rw [← HA.out, HX.out]; simp, ho, below_grown (HB.out.alloc hsz _) hg (fun k hk => (HO1 k hk).1) (by simp; omega)⟩, by simp [intOf]; omega⟩
    · obtain ⟨x, hx, hx2⟩ : ∃ x : UInt8, UInt8.ofNat (m % 128).toNat = x ∧ m % 128 = (x.toNat : Int) := ⟨_, rfl, by rw [b8 _ (by omega)]; omega⟩
      have hb1 := and127w m
      rw [hx2] at hb1
      have HX : Hid (intB m = [x]) := by unfold Hid; rw [intB, if_pos (by omega), hx]
      clear hx hx2
      have hx8 := x.toNat_lt
      have HO : Hid (Own (wr.alloc (.cells #[.int .u8 (x.toNat : Int)] 5)) w.heap.size u3 acc) := World.ownsRow.alloc hown _
      have HO1 := World.ownsRow.lt hown
      clear hown
      go_wp2_with (at_builtin; refine wpList_append_bytes rfl _ _ rfl w.heap.size u3 acc rfl HO.out ⟨wr.heap.size, 0, none⟩ 1 [x] rfl (BytesAt.one wr x) HL.out (by simp; omega) ?_; intro v' w' ho hg)
      go_ret
      exact ⟨_, rfl, by rw [← HA.out, HX.out]; exact ho, below_grown (HB.out.alloc hsz _) hg (fun k hk => (HO1 k hk).1) (by simp; omega)⟩
end Go.Proofs.YtgmdolpjkaajfaaGreatDoor
namespace Go.Proofs.YtgmdolpjkaajfaaGreatDoor
open Go.RowKit Leb
theorem strCells_of (s : List UInt8) : Lib.strCells (strOf s) = c8 s := by simp [Lib.strCells, strOf, c8]
/-- append(own, s...), s a string. -/
theorem wpList_append_text {w : World} {ops : Array Oper} {rest : List Oper} {o : Oper} {a : Act} {Q : Exit → Act → World → Prop} (hgd : o.guard = none) (sl x : Operand)
    (ho : o.op = .call { callee := .builtin .append, args := #[sl, x], argTypes := #[32, 9] })
    (base : Nat) (v : Value) (bs : List UInt8) (hs : a.eval sl = v) (hown : Own w base v bs) (s : List UInt8) (hx : a.eval x = .string (strOf s))
    (hbytes : bs.length + s.length ≤ 140737488355328) (hbase : base ≤ w.heap.size)
    (h : ∀ v' w', Own w' base v' (bs ++ s) → w.grownBy w' v.ownBlock → wpList Tryz.prog ops Q rest (a.put o.dst v') w') : wpList Tryz.prog ops Q (o :: rest) a w := by
  obtain ⟨i, hi, hz⟩ := Option.map_eq_some_iff.1 bytes5
  simp only [Prod.mk.injEq] at hz
  obtain ⟨hz, hsz, hby⟩ := hz
  refine Lib.wpList_append_own_string w hgd sl x 32 9 ho base 5 i Tryz.underlying32 Tryz.underlying9 hi hz hsz hby v bs.length (c8 bs) hs hown (strOf s) hx (by rw [strOf_size]; unfold maxLen; omega) (by rw [strOf_size]; exact hbytes) hbase ?_
  intro v' w' h1 h2 _
  rw [strOf_size, strCells_of, ← c8_append, ← List.length_append] at h1
  exact h v' w' h1 h2
theorem strOf_toList (l : List UInt8) : (strOf l).toList = l := by
  rw [Lib.toList_data]
  rfl
set_option maxHeartbeats 400000 in
theorem equal_any (v1 v2 : Value) (xs ys : List UInt8) (w : World) (h1 : (convert 32 9 v1).run Tryz.prog w = .ok (.string (strOf xs)) w) (h2 : (convert 32 9 v2).run Tryz.prog w = .ok (.string (strOf ys)) w) :
    Calls Tryz.prog 47 #[v1, v2] w fun e w' => e = .returned (.bool (decide (xs = ys))) ∧ w' = w := by
  go_enter Tryz.func47, Tryz.ntmps47
  go_wp2
  go_ret
  refine ⟨?_, rfl⟩
  have e : (strOf xs).toList = xs := strOf_toList xs
  have e2 : (strOf ys).toList = ys := strOf_toList ys
  have e3 : (xs == ys) = decide (xs = ys) := by by_cases h : xs = ys <;> simp [h]
  rw [e, e2, e3]
  rfl
theorem and127b (b : UInt8) : bits .and .u8 (b.toNat : Int) 127 = ((b.toNat % 128 : Nat) : Int) := by
  have all : ∀ j : Fin 256, bits .and .u8 (j.val : Int) 127 = ((j.val % 128 : Nat) : Int) := by decide +kernel
  exact all ⟨b.toNat, b.toNat_lt⟩
theorem and128b (b : UInt8) : bits .and .u8 (b.toNat : Int) 128 = ((b.toNat / 128 * 128 : Nat) : Int) := by
  have all : ∀ j : Fin 256, bits .and .u8 (j.val : Int) 128 = ((j.val / 128 * 128 : Nat) : Int) := by decide +kernel
  exact all ⟨b.toNat, b.toNat_lt⟩
theorem or_shift (k a c : Nat) (h : k < 10) (ha : a < 128 ^ k) :
    bits .or .u64 ((a : Int) % 18446744073709551616) (IntKind.u64.wrap ((c : Int) * 2 ^ (7 * k))) = (((a + c * 128 ^ k) % 18446744073709551616 : Nat) : Int) := by
  have e7 : 128 ^ k = 2 ^ (7 * k) := by rw [Nat.pow_mul]
  rw [e7] at ha ⊢
  have hp : (2 : Nat) ^ 64 = 2 ^ (7 * k) * 2 ^ (64 - 7 * k) := by rw [← Nat.pow_add]; congr 1; omega
  have hle : (2 : Nat) ^ (7 * k) ≤ 2 ^ 63 := Nat.pow_le_pow_right (by omega) (by omega)
  have hw : IntKind.u64.wrap ((c : Int) * 2 ^ (7 * k)) = ((2 ^ (7 * k) * (c % 2 ^ (64 - 7 * k)) : Nat) : Int) := by
    have : IntKind.u64.wrap ((c : Int) * 2 ^ (7 * k)) = (((c * 2 ^ (7 * k)) % 2 ^ 64 : Nat) : Int) := by
      simp [IntKind.wrap, IntKind.bits, IntKind.signed]
    rw [this, hp, Nat.mul_comm c, Nat.mul_mod_mul_left]
  have hm : 2 ^ (7 * k) * (c % 2 ^ (64 - 7 * k)) + 2 ^ (7 * k) ≤ 2 ^ 64 := by
    rw [hp, ← Nat.mul_succ]
    exact Nat.mul_le_mul_left _ (Nat.mod_lt _ (Nat.two_pow_pos _))
  rw [hw, show ((a : Int) % 18446744073709551616) = ((a : Nat) : Int) by omega, bits_or_u64_nat _ _ (by omega) (by omega), Nat.or_comm, ← Nat.two_pow_add_eq_or_of_lt ha]
  have hc : c * 2 ^ (7 * k) % 2 ^ 64 = 2 ^ (7 * k) * (c % 2 ^ (64 - 7 * k)) := by rw [Nat.mul_comm c, hp, Nat.mul_mod_mul_left]
  have h2 := Nat.add_mod a (c * 2 ^ (7 * k)) (2 ^ 64)
  have h3 : (a + 2 ^ (7 * k) * (c % 2 ^ (64 - 7 * k))) % 2 ^ 64 = a + 2 ^ (7 * k) * (c % 2 ^ (64 - 7 * k)) := Nat.mod_eq_of_lt (by omega)
  rw [hc, Nat.mod_eq_of_lt (a := a) (by omega), h3] at h2
  rw [show 18446744073709551616 = 2 ^ 64 from rfl, h2, Nat.add_comm]
theorem val_lt : ∀ l : List UInt8, val l < 128 ^ l.length
  | [] => by simp [val]
  | b :: l => by
    have ih := val_lt l
    simp only [val, List.length_cons, Nat.pow_succ]
    omega
theorem val_take : ∀ (l : List UInt8) (k : Nat), k < l.length → val (l.take (k + 1)) = val (l.take k) + (l.getD k 0).toNat % 128 * 128 ^ k
  | [], k, h => by simp at h
  | b :: l, 0, _ => by simp [val]
  | b :: l, k + 1, h => by
    have ih := val_take l k (by simpa using h)
    simp only [List.take_succ_cons, val, ih, List.getD_cons_succ, Nat.pow_succ]
    rw [Nat.mul_add, Nat.add_assoc, Nat.mul_left_comm]
    simp [Nat.mul_comm]
/-- What groupsOf answers. -/
def goV (bs : List UInt8) : Nat := if (grp 10 bs).1 = 0 then guN bs else 0
def goS (ao : Option Addr) (cap : Nat) (bs : List UInt8) : Value := if (grp 10 bs).1 = 0 then .slice ao (grp 10 bs).2 cap else .slice none 0 0
def goT (ao : Option Addr) (cap : Nat) (bs : List UInt8) : Value := .tuple #[.int .u64 (goV bs : Int), goS ao cap bs, .int .i64 ((grp 10 bs).1 : Int)]
set_option maxRecDepth 100000 in
set_option maxHeartbeats 400000 in
theorem groupsOf_any (ao : Option Addr) (cap : Nat) (bs : List UInt8) (hcap : bs.length ≤ cap) (w : World) (hat : BytesAt w ao bs) :
    Calls Tryz.prog 134 #[.slice ao bs.length cap] w fun e w' => e = .returned (goT ao cap bs) ∧ Below w.heap.size w w' := by
  have HAT : Hid (BytesAt w ao bs) := hat
  clear hat
  go_enter Tryz.func134, Tryz.ntmps134
  go_wp2
  go_loopw [2, 6] (fun v i wr => ∃ k : Nat, k ≤ 10 ∧ k ≤ bs.length ∧ i = .int .i64 k ∧ v = .int .u64 ((val (bs.take k) % 18446744073709551616 : Nat) : Int) ∧ (∀ j, j < k → 128 ≤ (bs.getD j 0).toNat) ∧ Below w.heap.size w wr) (fun _ i _ => 10 - (intOf i).toNat)
  case atStart => exact ⟨0, by omega, by omega, rfl, by simp [val], fun j hj => by omega, Below.refl _ _⟩
  case round =>
    obtain ⟨k, hk, hkl, rfl, rfl, hall, hb⟩ := hrel
    have HALL : Hid (∀ j, j < k → 128 ≤ (bs.getD j 0).toNat) := hall
    have HB : Hid (Below w.heap.size w wr) := hb
    clear hall hb
    by_cases h10 : k < 10
    · by_cases hend : k = bs.length
      · have HG : Hid (grp 10 bs = (3, 0)) := grp_cut 10 bs (by omega) (by rw [← hend]; exact HALL.out)
        subst hend
        go_wp2
        go_ret3
        exact ⟨by simp [goT, goV, goS, HG.out], HB.out⟩
      · have hlt : k < bs.length := by omega
        obtain ⟨b, o, rfl, hc⟩ := HAT.out (by intro h; simp [h] at hlt)
        have hck := hc k hlt
        obtain ⟨x, HX, hx⟩ : ∃ x : UInt8, Hid (x = bs.getD k 0) ∧ wr.cell? ⟨b, o + k, none⟩ = some (.int .u8 (x.toNat : Int)) := ⟨_, rfl, by rw [HB.out.cell (p := ⟨b, o + k, none⟩) (block_lt_of_cell hck)]; exact hck⟩
        clear hc hck
        have hvt : val (bs.take (k + 1)) = val (bs.take k) + x.toNat % 128 * 128 ^ k := by rw [val_take bs k hlt, HX.out]
        have hor := or_shift k (val (bs.take k)) (x.toNat % 128) h10 (by have := val_lt (bs.take k); rwa [List.length_take, Nat.min_eq_left (by omega)] at this)
        rw [← hvt] at hor
        obtain ⟨y, HY, hy⟩ : ∃ y : Nat, Hid (y = val (bs.take k)) ∧ val (bs.take k) = y := ⟨_, rfl, rfl⟩
        obtain ⟨z, HZ, hz⟩ : ∃ z : Nat, Hid (z = val (bs.take (k + 1)) % 18446744073709551616) ∧ val (bs.take (k + 1)) % 18446744073709551616 = z := ⟨_, rfl, rfl⟩
        rw [hy, hz, show ((x.toNat % 128 : Nat) : Int) = (x.toNat : Int) % 128 by omega] at hor
        rw [hy]
        clear hvt hy hz
        have hx8 := x.toNat_lt
        by_cases hx7 : x.toNat < 128
        · have HG : Hid (grp 10 bs = (0, k + 1)) := grp_ok 10 bs k h10 hlt HALL.out (by rw [← HX.out]; exact hx7)
          have ha := and127b x
          have ha2 : bits .and .u8 (x.toNat : Int) 128 = 0 := by rw [and128b x]; omega
          have hk1 : k + 1 ≤ cap := by omega
          go_wp2
          go_region
          go_wp2
          go_ret3
          exact ⟨by simp [goT, goV, goS, HG.out, guN, HZ.out], HB.out.drew⟩
        · have ha := and127b x
          have ha2 : bits .and .u8 (x.toNat : Int) 128 = 128 := by rw [and128b x]; omega
          go_wp2
          go_roundw
          case rel => exact ⟨k + 1, by omega, by omega, by go_num, by rw [← HZ.out], fun j hj => by
            rcases Nat.lt_succ_iff_lt_or_eq.1 hj with h | rfl
            · exact HALL.out j h
            · rw [← HX.out]; omega, HB.out⟩
          case measure => simp [intOf]; omega
    · obtain rfl : k = 10 := by omega
      have HG : Hid (grp 10 bs = (4, 0)) := grp_form 10 bs hkl HALL.out
      go_wp2
      go_ret3
      exact ⟨by simp [goT, goV, goS, HG.out], HB.out⟩
theorem groupsOf_ok (ao : Option Addr) (cap : Nat) (bs : List UInt8) (hcap : bs.length ≤ cap) (w : World) (hat : BytesAt w ao bs) (h0 : (grp 10 bs).1 = 0) (k : Nat) (hk : (grp 10 bs).2 = k) (n : Nat) (hn : guN bs = n) :
    Calls Tryz.prog 134 #[.slice ao bs.length cap] w fun e w' => e = .returned (.tuple #[.int .u64 (n : Int), .slice ao k cap, .int .i64 0]) ∧ Below w.heap.size w w' := by
  have := groupsOf_any ao cap bs hcap w hat
  unfold goT goV goS at this
  rw [if_pos h0, if_pos h0, h0, hk, hn] at this
  exact this
theorem groupsOf_bad (ao : Option Addr) (cap : Nat) (bs : List UInt8) (hcap : bs.length ≤ cap) (w : World) (hat : BytesAt w ao bs) (h0 : ¬ (grp 10 bs).1 = 0) (q : Nat) (hq : (grp 10 bs).1 = q) :
    Calls Tryz.prog 134 #[.slice ao bs.length cap] w fun e w' => e = .returned (.tuple #[.int .u64 0, .slice none 0 0, .int .i64 (q : Int)]) ∧ Below w.heap.size w w' := by
  have := groupsOf_any ao cap bs hcap w hat
  unfold goT goV goS at this
  rw [if_neg h0, if_neg h0, hq] at this
  exact this
theorem BytesAt.after {w w' : World} {ao : Option Addr} {bs : List UInt8} (h : BytesAt w ao bs) (hb : After w w') : BytesAt w' ao bs := fun hn => by
  obtain ⟨b, o, rfl, hc⟩ := h hn
  exact ⟨b, o, rfl, fun j hj => by rw [Below.cell hb (p := ⟨b, o + j, none⟩) (block_lt_of_cell (hc j hj))]; exact hc j hj⟩
theorem BytesAt.take {w : World} {ao : Option Addr} {bs : List UInt8} (h : BytesAt w ao bs) (k : Nat) : BytesAt w ao (bs.take k) := fun hn => by
  obtain ⟨b, o, rfl, hc⟩ := h (by intro h; simp [h] at hn)
  refine ⟨b, o, rfl, fun j hj => ?_⟩
  simp only [List.length_take] at hj
  rw [hc j (by omega)]
  have h1 : j < bs.length := by omega
  have h2 : j < k := by omega
  simp [List.getD_eq_getElem?_getD, h1, h2]
theorem conv_take {W : World} {ao : Option Addr} {bs : List UInt8} (cap k : Nat) (h : BytesAt W ao bs) (hk : k ≤ bs.length) :
    (convert 32 9 (.slice ao k cap)).run Tryz.prog W = .ok (.string (strOf (bs.take k))) W := by
  have := conv_at cap (h.take k)
  rwa [List.length_take, Nat.min_eq_left hk] at this
set_option maxRecDepth 100000 in
set_option maxHeartbeats 400000 in
theorem getUint_any (ao : Option Addr) (cap : Nat) (bs : List UInt8) (hcap : bs.length ≤ cap) (w : World) (hat : BytesAt w ao bs) :
    Calls Tryz.prog 112 #[.slice ao bs.length cap] w fun e w' => e = .returned (.tuple #[.int .u64 (guV bs : Int), .int .i64 (guK bs : Int), .int .i64 (guE bs : Int)]) ∧ Below w.heap.size w w' := by
  have HAT : Hid (BytesAt w ao bs) := hat
  clear hat
  by_cases h0 : (grp 10 bs).1 = 0
  · have hle := grp_le 10 bs h0
    obtain ⟨k, hk⟩ : ∃ k, (grp 10 bs).2 = k := ⟨_, rfl⟩
    obtain ⟨n, hn⟩ : ∃ n, guN bs = n := ⟨_, rfl⟩
    have hn64 : n < 18446744073709551616 := hn ▸ guN_lt bs
    rw [hk] at hle
    by_cases hu : bs.take k = uintB n
    · have e1 : guE bs = 0 := by unfold guE; rw [if_pos h0, hn, hk, if_pos hu.symm]
      have e2 : guK bs = k := by unfold guK; rw [if_pos e1, hk]
      have e3 : guV bs = n := by unfold guV; rw [if_pos e1, hn]
      rw [e1, e2, e3]
      have hd : decide (bs.take k = uintB n) = true := by simp [hu]
      have H0 : Hid ((grp 10 bs).1 = 0) := h0
      have HK : Hid ((grp 10 bs).2 = k) := hk
      have HN : Hid (guN bs = n) := hn
      obtain ⟨hk1, hk2, hk3⟩ := hle
      clear h0 hk hn hu e1 e2 e3
      go_enter Tryz.func112, Tryz.ntmps112
      go_wp2_with (first
        | (go_at_call 134; refine (groupsOf_ok ao cap bs hcap _ HAT.out H0.out k HK.out n HN.out).mono ?_; rintro e w1 ⟨rfl, hb1⟩)
        | (go_at_call 69; refine (uint_any n hn64 _).mono ?_; rintro e w2 ⟨v2, rfl, ho2, hb2⟩)
        | (go_at_call 47; refine (equal_any _ _ (bs.take k) (uintB n) _ (conv_take cap k ((HAT.out.after hb1).after hb2) hk1) ho2.conv).mono ?_; rintro e w3 ⟨rfl, rfl⟩))
      go_ret3
      exact ⟨rfl, After.trans hb1 hb2⟩
    · have e1 : guE bs = 4 := by unfold guE; rw [if_pos h0, hn, hk, if_neg (fun h => hu h.symm)]
      have e2 : guK bs = 0 := by unfold guK; rw [e1]; rfl
      have e3 : guV bs = 0 := by unfold guV; rw [e1]; rfl
      rw [e1, e2, e3]
      have hd : decide (bs.take k = uintB n) = false := by simp [hu]
      have H0 : Hid ((grp 10 bs).1 = 0) := h0
      have HK : Hid ((grp 10 bs).2 = k) := hk
      have HN : Hid (guN bs = n) := hn
      obtain ⟨hk1, hk2, hk3⟩ := hle
      clear h0 hk hn hu e1 e2 e3
      go_enter Tryz.func112, Tryz.ntmps112
      go_wp2_with (first
        | (go_at_call 134; refine (groupsOf_ok ao cap bs hcap _ HAT.out H0.out k HK.out n HN.out).mono ?_; rintro e w1 ⟨rfl, hb1⟩)
        | (go_at_call 69; refine (uint_any n hn64 _).mono ?_; rintro e w2 ⟨v2, rfl, ho2, hb2⟩)
        | (go_at_call 47; refine (equal_any _ _ (bs.take k) (uintB n) _ (conv_take cap k ((HAT.out.after hb1).after hb2) hk1) ho2.conv).mono ?_; rintro e w3 ⟨rfl, rfl⟩))
      go_ret3
      exact ⟨rfl, After.trans hb1 hb2⟩
  · obtain ⟨q, hq⟩ : ∃ q, (grp 10 bs).1 = q := ⟨_, rfl⟩
    have e1 : guE bs = q := by unfold guE; rw [if_neg h0, hq]
    have hq0 : ¬ q = 0 := hq ▸ h0
    have e2 : guK bs = 0 := by unfold guK; rw [if_neg (by rw [e1]; exact hq0)]
    have e3 : guV bs = 0 := by unfold guV; rw [if_neg (by rw [e1]; exact hq0)]
    rw [e1, e2, e3]
    have H0 : Hid (¬ (grp 10 bs).1 = 0) := h0
    have HQ : Hid ((grp 10 bs).1 = q) := hq
    clear h0 hq e1 e2 e3
    go_enter Tryz.func112, Tryz.ntmps112
    go_wp2_with (go_at_call 134; refine (groupsOf_bad ao cap bs hcap _ HAT.out H0.out q HQ.out).mono ?_; rintro e w1 ⟨rfl, hb1⟩)
    go_ret3
    exact ⟨rfl, hb1⟩
end Go.Proofs.YtgmdolpjkaajfaaGreatDoor
namespace Go.Proofs.YtgmdolpjkaajfaaGreatDoor
open Go.RowKit Leb
theorem sval_val : ∀ (l : List UInt8) (k : Nat), l.length = k + 1 → sval l = (val l : Int) - if 64 ≤ (l.getD k 0).toNat % 128 then 128 ^ (k + 1) else 0
  | [b], 0, _ => by simp only [sval, val, List.getD_cons_zero]; split <;> omega
  | b :: c :: l, k + 1, h => by
    have ih := sval_val (c :: l) k (by simpa using h)
    rw [sval_cons b (c :: l) (by simp), ih]
    simp only [val, List.getD_cons_succ]
    split
    · rw [Int.pow_succ 128 (k + 1)]; omega
    · omega
  | [b], k + 1, h => by simp at h
  | b :: c :: l, 0, h => by simp at h
theorem or_fill (k a : Nat) (h : k < 11) (ha : a < 128 ^ k) :
    bits .or .u64 ((a % 18446744073709551616 : Nat) : Int) (IntKind.u64.wrap (18446744073709551615 * 2 ^ (7 * k))) = (((a + 18446744073709551615 * 128 ^ k) % 18446744073709551616 : Nat) : Int) := by
  rcases Nat.lt_or_ge k 10 with h10 | h10
  · have := or_shift k a 18446744073709551615 h10 ha
    exact this
  · obtain rfl : k = 10 := by omega
    have e : IntKind.u64.wrap (18446744073709551615 * 2 ^ (7 * 10)) = ((0 : Nat) : Int) := by decide +kernel
    rw [e, bits_or_u64_nat _ _ (by omega) (by omega), Nat.or_zero]
    omega
theorem wrap_i64 (n : Nat) : IntKind.i64.wrap (n : Int) = Leb.wrap64 (n : Int) := by
  simp [IntKind.wrap, IntKind.bits, IntKind.signed, Leb.wrap64]; split <;> omega
theorem and64b (b : UInt8) : bits .and .u8 (b.toNat : Int) 64 = if 64 ≤ b.toNat % 128 then 64 else 0 := by
  have all : ∀ j : Fin 256, bits .and .u8 (j.val : Int) 64 = if 64 ≤ j.val % 128 then 64 else 0 := by decide +kernel
  exact all ⟨b.toNat, b.toNat_lt⟩
theorem giE_0 {bs : List UInt8} (h0 : (grp 10 bs).1 = 0) {k : Nat} (hk : (grp 10 bs).2 = k) {m : Int} (hm : giN bs = m) (hu : bs.take k = intB m) : giE bs = 0 ∧ giK bs = k ∧ giV bs = m := by
  have e1 : giE bs = 0 := by unfold giE; rw [if_pos h0, hm, hk, if_pos hu.symm]
  exact ⟨e1, by unfold giK; rw [if_pos e1, hk], by unfold giV; rw [if_pos e1, hm]⟩
theorem giE_4 {bs : List UInt8} (h0 : (grp 10 bs).1 = 0) {k : Nat} (hk : (grp 10 bs).2 = k) {m : Int} (hm : giN bs = m) (hu : ¬ bs.take k = intB m) : giE bs = 4 ∧ giK bs = 0 ∧ giV bs = 0 := by
  have e1 : giE bs = 4 := by unfold giE; rw [if_pos h0, hm, hk, if_neg (fun h => hu h.symm)]
  exact ⟨e1, by unfold giK; rw [e1]; rfl, by unfold giV; rw [e1]; rfl⟩
theorem giE_q {bs : List UInt8} (h0 : ¬ (grp 10 bs).1 = 0) {q : Nat} (hq : (grp 10 bs).1 = q) : giE bs = q ∧ giK bs = 0 ∧ giV bs = 0 := by
  have e1 : giE bs = q := by unfold giE; rw [if_neg h0, hq]
  have hq0 : ¬ q = 0 := hq ▸ h0
  exact ⟨e1, by unfold giK; rw [if_neg (by rw [e1]; exact hq0)], by unfold giV; rw [if_neg (by rw [e1]; exact hq0)]⟩
theorem sval_take (bs : List UInt8) (k : Nat) (hk : k < bs.length) : sval (bs.take (k + 1)) = (val (bs.take (k + 1)) : Int) - if 64 ≤ (bs.getD k 0).toNat % 128 then 128 ^ (k + 1) else 0 := by
  have := sval_val (bs.take (k + 1)) k (by simp; omega)
  rw [this]
  have e : (bs.take (k + 1)).getD k 0 = bs.getD k 0 := by simp [List.getD_eq_getElem?_getD]
  rw [e]
/-- Both ways of filling: what is read as a number below 0 or not. -/
theorem fill_pos (bs : List UInt8) (k : Nat) (hk : k < bs.length) (h0 : (grp 10 bs).2 = k + 1) (hs : ¬ 64 ≤ (bs.getD k 0).toNat % 128) : IntKind.i64.wrap ((guN bs : Nat) : Int) = giN bs := by
  rw [wrap_i64 _]
  unfold giN guN
  rw [h0, sval_take bs k hk, if_neg hs]
  unfold Leb.wrap64; omega
theorem fill_neg (bs : List UInt8) (k : Nat) (hk : k < bs.length) (h10 : k < 10) (h0 : (grp 10 bs).2 = k + 1) (hs : 64 ≤ (bs.getD k 0).toNat % 128) :
    ∃ n : Nat, n < 18446744073709551616 ∧ bits .or .u64 ((guN bs : Nat) : Int) (IntKind.u64.wrap (18446744073709551615 * 2 ^ (7 * (k + 1)))) = (n : Int) ∧ IntKind.i64.wrap (n : Int) = giN bs := by
  have hv : val (bs.take (k + 1)) < 128 ^ (k + 1) := by have := val_lt (bs.take (k + 1)); rwa [List.length_take, Nat.min_eq_left (by omega)] at this
  refine ⟨(val (bs.take (k + 1)) + 18446744073709551615 * 128 ^ (k + 1)) % 18446744073709551616, Nat.mod_lt _ (by omega), ?_, ?_⟩
  · unfold guN; rw [h0]; exact or_fill (k + 1) _ (by omega) hv
  · rw [wrap_i64 _]
    unfold giN
    rw [h0, sval_take bs k hk, if_pos hs]
    have e : (128 : Int) ^ (k + 1) = ((128 ^ (k + 1) : Nat) : Int) := by simp
    rw [e]
    unfold Leb.wrap64
    omega
theorem shift_fill (k : Nat) (s : Int) (hs : IntKind.u64.wrap (18446744073709551615 * 2 ^ (7 * (k + 1))) = s) (hk : k < 10) (W : World) : (Op.shift .shl .u64 18446744073709551615 .i64 (7 * ((k : Int) + 1))).run Tryz.prog W = .ok (.int .u64 s) W := by
  have h0 : ¬ (7 * ((k : Int) + 1)) < 0 := by omega
  have e : (7 * ((k : Int) + 1)).toNat = 7 * (k + 1) := by omega
  unfold Op.shift
  rw [if_neg h0, e]
  rcases Nat.lt_or_ge k 9 with h | h
  · rw [show min (7 * (k + 1)) IntKind.u64.bits = 7 * (k + 1) from Nat.min_eq_left (by simp [IntKind.bits]; omega), ← hs]
    rfl
  · obtain rfl : k = 9 := by omega
    rw [← hs]
    have e2 : IntKind.u64.wrap (18446744073709551615 * 2 ^ (min (7 * (9 + 1)) IntKind.u64.bits)) = IntKind.u64.wrap (18446744073709551615 * 2 ^ (7 * (9 + 1))) := by decide +kernel
    show Result.ok _ _ = _
    rw [e2]
set_option maxRecDepth 100000 in
set_option maxHeartbeats 400000 in
theorem getInt_any (ao : Option Addr) (cap : Nat) (bs : List UInt8) (hcap : bs.length ≤ cap) (w : World) (hat : BytesAt w ao bs) :
    Calls Tryz.prog 153 #[.slice ao bs.length cap] w fun e w' => e = .returned (.tuple #[.int .i64 (giV bs), .int .i64 (giK bs : Int), .int .i64 (giE bs : Int)]) ∧ Below w.heap.size w w' := by
  have HAT : Hid (BytesAt w ao bs) := hat
  clear hat
  by_cases h0 : (grp 10 bs).1 = 0
  · have hle := grp_le 10 bs h0
    obtain ⟨k, hk⟩ : ∃ k, (grp 10 bs).2 = k + 1 := ⟨(grp 10 bs).2 - 1, by omega⟩
    obtain ⟨n, hn⟩ : ∃ n, guN bs = n := ⟨_, rfl⟩
    obtain ⟨m, hm⟩ : ∃ m, giN bs = m := ⟨_, rfl⟩
    have hn64 : n < 18446744073709551616 := hn ▸ guN_lt bs
    have hm64 : -9223372036854775808 ≤ m ∧ m ≤ 9223372036854775807 := hm ▸ giN_lt bs
    rw [hk] at hle
    obtain ⟨hk1, hk2, hk3⟩ := hle
    obtain ⟨b, o, rfl, hc⟩ := HAT.out (by intro h; simp [h] at hk1)
    obtain ⟨x, HX, hx⟩ : ∃ x : UInt8, Hid (x = bs.getD k 0) ∧ w.cell? ⟨b, o + k, none⟩ = some (.int .u8 (x.toNat : Int)) := ⟨_, rfl, hc k (by omega)⟩
    have ha := and64b x
    have H0 : Hid ((grp 10 bs).1 = 0) := h0
    have HK : Hid ((grp 10 bs).2 = k + 1) := hk
    have HN : Hid (guN bs = n) := hn
    clear hc
    by_cases hs : 64 ≤ x.toNat % 128
    · rw [if_pos hs] at ha
      obtain ⟨n2, hn2, hor, hwr⟩ := fill_neg bs k (by omega) (by omega) hk (by rw [← HX.out]; exact hs)
      rw [hn] at hor
      obtain ⟨s, hs2⟩ : ∃ s, IntKind.u64.wrap (18446744073709551615 * 2 ^ (7 * (k + 1))) = s := ⟨_, rfl⟩
      rw [hs2] at hor
      have hsh := fun W => shift_fill k s hs2 (by omega) W
      clear hs2
      rw [hm] at hwr
      by_cases hu : bs.take (k + 1) = intB m
      · have hd : decide (bs.take (k + 1) = intB m) = true := by simp [hu]
        obtain ⟨e1, e2, e3⟩ := giE_0 h0 hk hm hu
        rw [e1, e2, e3]
        clear e1 e2 e3 hu h0 hk hm
        go_enter Tryz.func153, Tryz.ntmps153
        go_wp2_with (first
          | (go_at_call 134; refine (groupsOf_ok _ cap bs hcap _ HAT.out H0.out (k + 1) HK.out n HN.out).mono ?_; rintro e w1 ⟨rfl, hb1⟩; have hx1 : w1.cell? ⟨b, o + k, none⟩ = some (.int .u8 (x.toNat : Int)) := by rw [Below.cell hb1 (p := ⟨b, o + k, none⟩) (block_lt_of_cell hx)]; exact hx)
          | (go_at_call 132; refine (int_any m hm64.1 hm64.2 _).mono ?_; rintro e w2 ⟨v2, rfl, ho2, hb2⟩)
          | (go_at_call 47; refine (equal_any _ _ (bs.take (k + 1)) (intB m) _ (conv_take cap (k + 1) ((HAT.out.after hb1).after hb2) hk1) ho2.conv).mono ?_; rintro e w3 ⟨rfl, rfl⟩))
        go_ret3
        exact ⟨rfl, After.trans hb1 hb2⟩
      · have hd : decide (bs.take (k + 1) = intB m) = false := by simp [hu]
        obtain ⟨e1, e2, e3⟩ := giE_4 h0 hk hm hu
        rw [e1, e2, e3]
        clear e1 e2 e3 hu h0 hk hm
        go_enter Tryz.func153, Tryz.ntmps153
        go_wp2_with (first
          | (go_at_call 134; refine (groupsOf_ok _ cap bs hcap _ HAT.out H0.out (k + 1) HK.out n HN.out).mono ?_; rintro e w1 ⟨rfl, hb1⟩; have hx1 : w1.cell? ⟨b, o + k, none⟩ = some (.int .u8 (x.toNat : Int)) := by rw [Below.cell hb1 (p := ⟨b, o + k, none⟩) (block_lt_of_cell hx)]; exact hx)
          | (go_at_call 132; refine (int_any m hm64.1 hm64.2 _).mono ?_; rintro e w2 ⟨v2, rfl, ho2, hb2⟩)
          | (go_at_call 47; refine (equal_any _ _ (bs.take (k + 1)) (intB m) _ (conv_take cap (k + 1) ((HAT.out.after hb1).after hb2) hk1) ho2.conv).mono ?_; rintro e w3 ⟨rfl, rfl⟩))
        go_ret3
        exact ⟨rfl, After.trans hb1 hb2⟩
    · rw [if_neg hs] at ha
      have hwr := fill_pos bs k (by omega) hk (by rw [← HX.out]; exact hs)
      rw [hn, hm] at hwr
      by_cases hu : bs.take (k + 1) = intB m
      · have hd : decide (bs.take (k + 1) = intB m) = true := by simp [hu]
        obtain ⟨e1, e2, e3⟩ := giE_0 h0 hk hm hu
        rw [e1, e2, e3]
        clear e1 e2 e3 hu h0 hk hm
        go_enter Tryz.func153, Tryz.ntmps153
        go_wp2_with (first
          | (go_at_call 134; refine (groupsOf_ok _ cap bs hcap _ HAT.out H0.out (k + 1) HK.out n HN.out).mono ?_; rintro e w1 ⟨rfl, hb1⟩; have hx1 : w1.cell? ⟨b, o + k, none⟩ = some (.int .u8 (x.toNat : Int)) := by rw [Below.cell hb1 (p := ⟨b, o + k, none⟩) (block_lt_of_cell hx)]; exact hx)
          | (go_at_call 132; refine (int_any m hm64.1 hm64.2 _).mono ?_; rintro e w2 ⟨v2, rfl, ho2, hb2⟩)
          | (go_at_call 47; refine (equal_any _ _ (bs.take (k + 1)) (intB m) _ (conv_take cap (k + 1) ((HAT.out.after hb1).after hb2) hk1) ho2.conv).mono ?_; rintro e w3 ⟨rfl, rfl⟩))
        go_ret3
        exact ⟨rfl, After.trans hb1 hb2⟩
      · have hd : decide (bs.take (k + 1) = intB m) = false := by simp [hu]
        obtain ⟨e1, e2, e3⟩ := giE_4 h0 hk hm hu
        rw [e1, e2, e3]
        clear e1 e2 e3 hu h0 hk hm
        go_enter Tryz.func153, Tryz.ntmps153
        go_wp2_with (first
          | (go_at_call 134; refine (groupsOf_ok _ cap bs hcap _ HAT.out H0.out (k + 1) HK.out n HN.out).mono ?_; rintro e w1 ⟨rfl, hb1⟩; have hx1 : w1.cell? ⟨b, o + k, none⟩ = some (.int .u8 (x.toNat : Int)) := by rw [Below.cell hb1 (p := ⟨b, o + k, none⟩) (block_lt_of_cell hx)]; exact hx)
          | (go_at_call 132; refine (int_any m hm64.1 hm64.2 _).mono ?_; rintro e w2 ⟨v2, rfl, ho2, hb2⟩)
          | (go_at_call 47; refine (equal_any _ _ (bs.take (k + 1)) (intB m) _ (conv_take cap (k + 1) ((HAT.out.after hb1).after hb2) hk1) ho2.conv).mono ?_; rintro e w3 ⟨rfl, rfl⟩))
        go_ret3
        exact ⟨rfl, After.trans hb1 hb2⟩
  · obtain ⟨q, hq⟩ : ∃ q, (grp 10 bs).1 = q := ⟨_, rfl⟩
    obtain ⟨e1, e2, e3⟩ := giE_q h0 hq
    have hq0 : ¬ q = 0 := hq ▸ h0
    rw [e1, e2, e3]
    have H0 : Hid (¬ (grp 10 bs).1 = 0) := h0
    have HQ : Hid ((grp 10 bs).1 = q) := hq
    clear h0 hq e1 e2 e3
    go_enter Tryz.func153, Tryz.ntmps153
    go_wp2_with (go_at_call 134; refine (groupsOf_bad ao cap bs hcap _ HAT.out H0.out q HQ.out).mono ?_; rintro e w1 ⟨rfl, hb1⟩)
    go_ret3
    exact ⟨rfl, hb1⟩
end Go.Proofs.YtgmdolpjkaajfaaGreatDoor
namespace Go.Proofs.YtgmdolpjkaajfaaGreatDoor
open Go.RowKit Leb
/-- b[lo:hi], of a slice that is not nil. -/
theorem slice_mid (b o len cap lo hi : Nat) (h1 : lo ≤ hi) (h2 : hi ≤ cap) (bs : List UInt8) (hl : bs.length = len) (hh : hi ≤ len) : ∃ ao : Option Addr, (∀ W : World, BytesAt W (some ⟨b, o, none⟩) bs → BytesAt W ao ((bs.drop lo).take (hi - lo))) ∧
    ∀ W : World, (Instr.sliceAt 32 (.slice (some ⟨b, o, none⟩) len cap) (some (.int .i64 (lo : Int))) (some (.int .i64 (hi : Int))) none).run Tryz.prog W = .ok (.slice ao (hi - lo) (cap - lo)) W := by
  obtain ⟨i, hi', hz⟩ := Option.map_eq_some_iff.1 bytes5
  simp only [Prod.mk.injEq] at hz
  obtain ⟨_, hsz, _⟩ := hz
  refine ⟨if cap = lo then some ⟨b, o, none⟩ else some ((⟨b, o, none⟩ : Addr).add lo), fun W hW hn => ?_, fun W => ?_⟩
  · have hlt : lo < hi := by
      rcases Nat.lt_or_ge lo hi with h | h
      · exact h
      · rw [show hi - lo = 0 by omega] at hn; simp at hn
    obtain ⟨b', o', he, hc⟩ := hW (by intro h; subst h; simp at hl; omega)
    cases he
    refine ⟨b, o + lo, by rw [if_neg (by omega), Addr.add_mid], fun j hj => ?_⟩
    simp only [List.length_take, List.length_drop] at hj
    rw [Nat.add_assoc, hc (lo + j) (by omega)]
    have h3 : j < hi - lo := by omega
    simp [List.getD_eq_getElem?_getD, List.getElem?_drop, h3]
  · by_cases hcl : cap = lo
    · simp [Instr.sliceAt, Instr.slice, run_underlying Tryz.underlying32, Instr.sliceBounds, Instr.sliceBound, asIntOf, sizeOf, typeInfo, hi', hsz, hcl]
      rw [if_pos (by omega), if_pos h1]
    · simp [Instr.sliceAt, Instr.slice, run_underlying Tryz.underlying32, Instr.sliceBounds, Instr.sliceBound, asIntOf, sizeOf, typeInfo, hi', hsz, hcl]
      rw [if_pos h2, if_pos h1]
theorem gt_0 {bs : List UInt8} {most : Int} {k n : Nat} (h0 : guE bs = 0) (hk : guK bs = k) (hn : guV bs = n) (h1 : ¬ most < (n : Int)) (h2 : ¬ bs.length < k + n) : gtE bs most = 0 ∧ gtK bs most = k + n ∧ gtS bs most = (bs.drop k).take n := by
  have e : gtE bs most = 0 := by unfold gtE; rw [if_pos h0, hk, hn, if_neg h1, if_neg h2]
  exact ⟨e, by unfold gtK; rw [if_pos e, hk, hn], by unfold gtS; rw [if_pos e, hk, hn]⟩
theorem gt_e {bs : List UInt8} {most : Int} {q : Nat} (hq : gtE bs most = q) (h0 : ¬ q = 0) : gtE bs most = q ∧ gtK bs most = 0 ∧ gtS bs most = [] := by
  have h0' : ¬ gtE bs most = 0 := by rw [hq]; exact h0
  exact ⟨hq, by unfold gtK; rw [if_neg h0'], by unfold gtS; rw [if_neg h0']⟩
theorem gu_0 {bs : List UInt8} (ao : Option Addr) (cap : Nat) (hcap : bs.length ≤ cap) (w : World) (hat : BytesAt w ao bs) {n k q : Nat} (hn : guV bs = n) (hk : guK bs = k) (hq : guE bs = q) :
    Calls Tryz.prog 112 #[.slice ao bs.length cap] w fun e w' => e = .returned (.tuple #[.int .u64 (n : Int), .int .i64 (k : Int), .int .i64 (q : Int)]) ∧ Below w.heap.size w w' := by
  have := getUint_any ao cap bs hcap w hat
  rw [hn, hk, hq] at this
  exact this
theorem guK_pos {bs : List UInt8} (h : guE bs = 0) : 0 < guK bs := by
  have h0 : (grp 10 bs).1 = 0 := by unfold guE at h; split at h; assumption; assumption
  unfold guK; rw [if_pos h]; exact (grp_le 10 bs h0).2.2
end Go.Proofs.YtgmdolpjkaajfaaGreatDoor
namespace Go.Proofs.YtgmdolpjkaajfaaGreatDoor
open Go.RowKit Leb
theorem Own.fresh (w : World) : Own (w.alloc (.cells #[] 5)) w.heap.size (.slice (some ⟨w.heap.size, 0, none⟩) 0 0) [] :=
  World.ownsRow_made w #[] 0 (Nat.le_refl _) (by decide) rfl
/-- append(own, b...), b a slice whose bytes are known, or nil. -/
theorem wpList_append_any {w : World} {ops : Array Oper} {rest : List Oper} {o : Oper} {a : Act} {Q : Exit → Act → World → Prop} (hgd : o.guard = none) (s x : Operand)
    (ho : o.op = .call { callee := .builtin .append, args := #[s, x], argTypes := #[32, 32] })
    (base : Nat) (v : Value) (bs : List UInt8) (hs : a.eval s = v) (hown : Own w base v bs)
    (ao : Option Addr) (c : Nat) (news : List UInt8) (k : Nat) (hk : news.length = k) (hx : a.eval x = .slice ao k c) (hnews : BytesAt w ao news)
    (hbytes : bs.length + news.length ≤ 140737488355328) (hbase : base ≤ w.heap.size)
    (h : ∀ v' w', Own w' base v' (bs ++ news) → w.grownBy w' v.ownBlock → wpList Tryz.prog ops Q rest (a.put o.dst v') w') : wpList Tryz.prog ops Q (o :: rest) a w := by
  subst hk
  cases ao with
  | some ad => exact wpList_append_bytes hgd s x ho base v bs hs hown ad c news hx hnews hbytes hbase h
  | none =>
    obtain rfl : news = [] := Classical.byContradiction fun hn => by obtain ⟨b, o, he, _⟩ := hnews hn; cases he
    rw [List.append_nil] at h
    obtain ⟨i, hi, hz⟩ := Option.map_eq_some_iff.1 bytes5
    simp only [Prod.mk.injEq] at hz
    have hk := h v w hown ⟨rfl, rfl, rfl, Nat.le_refl _, fun _ _ _ => rfl⟩
    obtain ⟨ao', cap', hv, _, hle, _⟩ := hown.at
    refine wpList_plain hgd fun K hK => ?_
    have hr := run_append_nothing (P := Tryz.prog) w 32 32 o.type 5 i Tryz.underlying32 hi ao' bs.length cap' hle (.slice none 0 c) (Src.ofNil w Tryz.underlying32 c)
    unfold Oper.wp execOp
    rw [← hv] at hr
    simp only [List.length_nil] at hx
    simp only [ho, resolve, invoke, builtin, Sem.run_bind, Sem.run_pure, Result.andThen_ok, List.map_toArray, List.map_cons, List.map_nil, hs, hx, hr]
    exact hK _ _ hk
theorem Own.sl {w : World} {base : Nat} {v : Value} {bs : List UInt8} (h : Own w base v bs) (k : Nat) (hk : bs.length = k) : ∃ ao cap, v = .slice ao k cap ∧ BytesAt w ao bs ∧ k ≤ cap := by
  obtain ⟨ao, cap, hv, hb, hc, _⟩ := h.at
  rw [hk] at hv hc
  exact ⟨ao, cap, hv, hb, hc⟩
/-- Behind a row that is the call's own, grown. -/
theorem after_grown {w1 w2 : World} {B : Nat} {row : Option Nat} {w : World} (h : After w w1) (hg : w1.grownBy w2 row) (hB : w.heap.size ≤ B) (hr : ∀ k, row = some k → B ≤ k) : After w w2 :=
  below_grown h hg (fun k hk => by have := hr k hk; omega) h.size
theorem after_alloc {w w1 : World} (h : After w w1) (o : Obj) : After w (w1.alloc o) := Below.alloc h h.size _
end Go.Proofs.YtgmdolpjkaajfaaGreatDoor
namespace Go.Proofs.YtgmdolpjkaajfaaGreatDoor
open Go.RowKit Leb
section
variable {o : Oper} {a : Act} {x y : Operand} {w : World}
theorem x_streqf {s t : ByteArray} (hop : o.op = .binOp .neq 9 x y 9) (hx : a.eval x = .string s) (hy : a.eval y = .string t) (h : s = t) : (execOp a.eval o).run Tryz.prog w = .ok (.value (.bool false)) w := by
  subst h
  unfold execOp
  simp only [hop, hx, hy]
  simp [go_sem]
theorem slice_hi (b off len cap k : Nat) (hk : k ≤ cap) (W : World) : (Instr.sliceAt 32 (.slice (some ⟨b, off, none⟩) len cap) none (some (.int .i64 (k : Int))) none).run Tryz.prog W = .ok (.slice (some ⟨b, off, none⟩) k cap) W := by
  obtain ⟨i, hi', _⟩ := Option.map_eq_some_iff.1 bytes5
  by_cases h0 : cap = 0
  · obtain rfl : k = 0 := by omega
    simp [Instr.sliceAt, Instr.slice, run_underlying Tryz.underlying32, Instr.sliceBounds, Instr.sliceBound, asIntOf, sizeOf, typeInfo, hi', h0]
  · simp [Instr.sliceAt, Instr.slice, run_underlying Tryz.underlying32, Instr.sliceBounds, Instr.sliceBound, asIntOf, sizeOf, typeInfo, hi', hk, Addr.add]
theorem x_slice {b off len cap k : Nat} (hop : o.op = .slice 32 x none (some y) none) (hx : a.eval x = .slice (some ⟨b, off, none⟩) len cap) (hy : a.eval y = .int .i64 (k : Int)) (hk : k ≤ cap) : (execOp a.eval o).run Tryz.prog w = .ok (.value (.slice (some ⟨b, off, none⟩) k cap)) w := by
  unfold execOp
  simp only [hop, hx, hy, Option.map, Sem.run_bind, slice_hi b off len cap k hk w, Result.andThen_ok]
  rfl
theorem Own.convA {w W : World} {base : Nat} {v : Value} {bs : List UInt8} (h : Own w base v bs) (hA : After w W) : (convert 32 9 v).run Tryz.prog W = .ok (.string (strOf bs)) W := (Own.below h hA (Nat.le_refl _)).conv
end
end Go.Proofs.YtgmdolpjkaajfaaGreatDoor
namespace Go.Proofs.YtgmdolpjkaajfaaGreatDoor
open Go.RowKit Leb
/-- Block g holds the cells cs, of type t; nothing of it is frozen. -/
def RowIs (w : World) (g : Nat) (t : TypeId) (cs : List Value) : Prop := w.heap[g]? = some (.cells cs.toArray t (0, 0))
theorem RowIs.lt {w : World} {g : Nat} {t : TypeId} {cs : List Value} (h : RowIs w g t cs) : g < w.heap.size := by
  unfold RowIs at h; exact (Array.getElem?_eq_some_iff.1 h).1
theorem RowIs.cell {w : World} {g : Nat} {t : TypeId} {cs : List Value} (h : RowIs w g t cs) {j : Nat} {v : Value} (hj : cs[j]? = some v) : w.cell? ⟨g, j, none⟩ = some v := by
  rw [cell_of_row w g j _ t _ h]; simpa using hj
theorem RowIs.frozen {w : World} {g : Nat} {t : TypeId} {cs : List Value} (h : RowIs w g t cs) (j : Nat) : w.frozen? ⟨g, j, none⟩ = false := frozen_of_row w g j _ t h
theorem RowIs.drew {w : World} {g : Nat} {t : TypeId} {cs : List Value} (h : RowIs w g t cs) : RowIs w.drew g t cs := h
theorem RowIs.set {w : World} {g : Nat} {t : TypeId} {cs : List Value} (h : RowIs w g t cs) (j : Nat) (v : Value) : RowIs (w.setCell ⟨g, j, none⟩ v) g t (cs.set j v) := by
  unfold RowIs; rw [heap_setCell_same w g j _ t v h]; simp
theorem RowIs.other {w : World} {g : Nat} {t : TypeId} {cs : List Value} (h : RowIs w g t cs) (a : Addr) (v : Value) (hg : g ≠ a.block) : RowIs (w.setCell a v) g t cs := by
  unfold RowIs; rw [heap_setCell_other w a g v hg]; exact h
theorem RowIs.alloc {w : World} {g : Nat} {t : TypeId} {cs : List Value} (h : RowIs w g t cs) (o : Obj) : RowIs (w.alloc o) g t cs := by
  have := h.lt; unfold RowIs; rw [Below.heap_alloc w o g this]; exact h
theorem RowIs.new (w : World) (t : TypeId) (cs : List Value) : RowIs (w.alloc (.cells cs.toArray t)) w.heap.size t cs := by
  unfold RowIs; show (w.heap.push _)[w.heap.size]? = _; simp
theorem RowIs.setRow {w : World} {g : Nat} {t : TypeId} {cs : List Value} (h : RowIs w g t cs) (cs' : List Value) : RowIs (w.setRow g cs'.toArray) g t cs' := setRow_heap w g _ _ t _ h
theorem RowIs.setRow_other {w : World} {g g' : Nat} {t : TypeId} {cs : List Value} (h : RowIs w g t cs) (cs' : Array Value) (hg : g ≠ g') : RowIs (w.setRow g' cs') g t cs := by
  unfold RowIs; rw [Go.setRow_other w g' g cs' hg]; exact h
theorem RowIs.below {w w' : World} {B g : Nat} {t : TypeId} {cs : List Value} (h : RowIs w g t cs) (hb : Below B w w') (hg : g < B) : RowIs w' g t cs := by
  unfold RowIs; rw [hb.block g hg]; exact h
theorem Below.row {B : Nat} {a w : World} (h : Below B a w) {g : Nat} (hg : B ≤ g) (cs : Array Value) : Below B a (w.setRow g cs) :=
  ⟨h.os, h.tape, h.output, by have := h.size; simpa using this, fun k hk => by rw [Go.setRow_other w g k cs (by omega)]; exact h.block k hk⟩
theorem info5 : (Tryz.prog.info? 5).map (·.size) = some 1 := by kernel_rfl
theorem cells5' : Tryz.prog.cellsOf 5 = 1 := by kernel_rfl
theorem part5 (cs : List Value) (j : Nat) (v : Value) (hv : cs[j]? = some v) (w : World) : (part 5 cs.toArray (j * 1)).run Tryz.prog w = .ok v w := by
  have hag : (isAgg 5).run Tryz.prog w = .ok false w := by
    unfold isAgg; rw [Sem.run_bind, run_underlying Tryz.underlying5 w]; rfl
  simp [part, hag, hv]
theorem eqItems5 (d : Nat) (a b : List UInt8) (w : World) : ∀ is : List Nat, (∀ i ∈ is, i < a.length ∧ i < b.length) →
    (Op.eqItems (d + 1) 5 1 (c8 a).toArray (c8 b).toArray is).run Tryz.prog w = .ok (is.all fun i => a.getD i 0 == b.getD i 0) w
  | [], _ => by simp [Op.eqItems]
  | i :: is, h => by
    obtain ⟨h1, h2⟩ := h i (by simp)
    have ih := eqItems5 d a b w is (fun j hj => h j (by simp [hj]))
    have e : (((a.getD i 0).toNat : Int) == ((b.getD i 0).toNat : Int)) = (a.getD i 0 == b.getD i 0) := by
      rw [Bool.eq_iff_iff, beq_iff_eq, beq_iff_eq, Int.ofNat_inj, UInt8.toNat_inj]
    simp only [Op.eqItems, Sem.run_bind, part5 _ i _ (c8_get a i h1), part5 _ i _ (c8_get b i h2), Result.andThen_ok, run_equalIn_int w d 5 .u8 .u8 _ _ Tryz.underlying5, e, List.all_cons]
    cases (a.getD i 0 == b.getD i 0)
    · simp
    · simpa using ih
section
variable {ops : Array Oper} {rest : List Oper} {o : Oper} {ac : Act} {w : World} {Q : Exit → Act → World → Prop}
end
end Go.Proofs.YtgmdolpjkaajfaaGreatDoor
namespace Go.Proofs.YtgmdolpjkaajfaaGreatDoor
open Go.RowKit Leb
theorem x_strne {o : Oper} {a : Act} {x y : Operand} {w : World} {s t : List UInt8} (hop : o.op = .binOp .neq 9 x y 9) (hx : a.eval x = .string (strOf s)) (hy : a.eval y = .string (strOf t)) (h : ¬ s = t) : (execOp a.eval o).run Tryz.prog w = .ok (.value (.bool true)) w := by
  unfold execOp
  simp only [hop, hx, hy]
  simp [go_sem, strOf_toList, h]
theorem grp_snd : ∀ (f : Nat) (bs : List UInt8), ¬ (grp f bs).1 = 0 → (grp f bs).2 = 0
  | 0, _, _ => rfl
  | _ + 1, [], _ => rfl
  | f + 1, b :: bs, h => by
    simp only [grp] at h ⊢
    split
    · rename_i hb; rw [if_pos hb] at h; exact absurd rfl h
    · rename_i hb
      rw [if_neg hb] at h
      split
      · rename_i h0; rw [if_pos h0] at h; exact absurd rfl h
      · rfl
set_option maxRecDepth 100000 in
set_option maxHeartbeats 400000 in
theorem groups_any (ao : Option Addr) (cap : Nat) (bs : List UInt8) (w : World) (hat : BytesAt w ao bs) :
    Calls Tryz.prog 119 #[.slice ao bs.length cap] w fun e w' => e = .returned (.tuple #[.int .i64 ((grp 10 bs).2 : Int), .int .i64 ((grp 10 bs).1 : Int)]) ∧ w' = w := by
  have HAT : Hid (BytesAt w ao bs) := hat
  clear hat
  go_enter Tryz.func119, Tryz.ntmps119
  go_wp2
  go_loopw [4] (fun i wr => ∃ k : Nat, k ≤ 10 ∧ k ≤ bs.length ∧ i = .int .i64 k ∧ (∀ j, j < k → 128 ≤ (bs.getD j 0).toNat) ∧ wr = w) (fun i _ => 10 - (intOf i).toNat)
  case atStart => exact ⟨0, by omega, by omega, rfl, fun j hj => by omega, rfl⟩
  case round =>
    obtain ⟨k, hk, hkl, rfl, hall, rfl⟩ := hrel
    have HALL : Hid (∀ j, j < k → 128 ≤ (bs.getD j 0).toNat) := hall
    clear hall
    by_cases h10 : k < 10
    · by_cases hend : k = bs.length
      · have HG : Hid (grp 10 bs = (3, 0)) := grp_cut 10 bs (by omega) (by rw [← hend]; exact HALL.out)
        subst hend
        go_wp2
        go_ret2
        exact ⟨by simp [HG.out], rfl⟩
      · have hlt : k < bs.length := by omega
        obtain ⟨b, o, rfl, hc⟩ := HAT.out (by intro h; simp [h] at hlt)
        have hck := hc k hlt
        obtain ⟨x, HX, hx⟩ : ∃ x : UInt8, Hid (x = bs.getD k 0) ∧ wr.cell? ⟨b, o + k, none⟩ = some (.int .u8 (x.toNat : Int)) := ⟨_, rfl, hck⟩
        clear hc hck
        by_cases hx7 : x.toNat < 128
        · have HG : Hid (grp 10 bs = (0, k + 1)) := grp_ok 10 bs k h10 hlt HALL.out (by rw [← HX.out]; exact hx7)
          go_wp2
          go_ret2
          exact ⟨by simp [HG.out], rfl⟩
        · go_wp2
          go_roundw
          case rel => exact ⟨k + 1, by omega, by omega, by go_num, fun j hj => by
            rcases Nat.lt_succ_iff_lt_or_eq.1 hj with h | rfl
            · exact HALL.out j h
            · rw [← HX.out]; omega, trivial⟩
          case measure => simp [intOf]; omega
    · obtain rfl : k = 10 := by omega
      have HG : Hid (grp 10 bs = (4, 0)) := grp_form 10 bs hkl HALL.out
      go_wp2
      go_ret2
      exact ⟨by simp [HG.out], rfl⟩
theorem groups_ok (ao : Option Addr) (cap : Nat) (bs : List UInt8) (w : World) (hat : BytesAt w ao bs) (h0 : (grp 10 bs).1 = 0) (k : Nat) (hk : (grp 10 bs).2 = k) :
    Calls Tryz.prog 119 #[.slice ao bs.length cap] w fun e w' => e = .returned (.tuple #[.int .i64 (k : Int), .int .i64 0]) ∧ w' = w := by
  have := groups_any ao cap bs w hat
  rw [h0, hk] at this
  exact this
theorem groups_bad (ao : Option Addr) (cap : Nat) (bs : List UInt8) (w : World) (hat : BytesAt w ao bs) (h0 : ¬ (grp 10 bs).1 = 0) (q : Nat) (hq : (grp 10 bs).1 = q) :
    Calls Tryz.prog 119 #[.slice ao bs.length cap] w fun e w' => e = .returned (.tuple #[.int .i64 0, .int .i64 (q : Int)]) ∧ w' = w := by
  have := groups_any ao cap bs w hat
  rw [grp_snd 10 bs h0, hq] at this
  exact this
theorem or_low (n c : Nat) (hc : c < 128) : bits .or .u64 (IntKind.u64.wrap ((n : Int) * 128)) (c : Int) = (((n * 128 + c) % 18446744073709551616 : Nat) : Int) := by
  have hw : IntKind.u64.wrap ((n : Int) * 128) = ((2 ^ 7 * (n % 2 ^ 57) : Nat) : Int) := by
    simp [IntKind.wrap, IntKind.bits, IntKind.signed]; omega
  rw [hw, bits_or_u64_nat _ _ (by omega) (by omega), ← Nat.two_pow_add_eq_or_of_lt (by omega : c < 2 ^ 7)]
  omega
theorem val_drop (bs : List UInt8) (k j : Nat) (hk : k ≤ bs.length) (hj : j < k) : val ((bs.take k).drop j) = (bs.getD j 0).toNat % 128 + 128 * val ((bs.take k).drop (j + 1)) := by
  rw [List.drop_eq_getElem_cons (by simp; omega)]
  simp only [val]
  have : j < bs.length := by omega
  simp [List.getD_eq_getElem?_getD, this]
set_option maxRecDepth 100000 in
set_option maxHeartbeats 400000 in
theorem rgetUint_ok (b o : Nat) (cap : Nat) (bs : List UInt8) (hcap : bs.length ≤ cap) (w : World) (hat : BytesAt w (some ⟨b, o, none⟩) bs) (h0 : (grp 10 bs).1 = 0) :
    Calls Tryz.prog 83 #[.slice (some ⟨b, o, none⟩) bs.length cap] w fun e w' => e = .returned (.tuple #[.int .u64 (guV bs : Int), .int .i64 (guK bs : Int), .int .i64 (guE bs : Int)]) ∧ Below w.heap.size w w' := by
  have HAT : Hid (BytesAt w (some ⟨b, o, none⟩) bs) := hat
  have hle := grp_le 10 bs h0
  obtain ⟨k, hk⟩ : ∃ k, (grp 10 bs).2 = k := ⟨_, rfl⟩
  rw [hk] at hle
  obtain ⟨hk1, hk2, hk3⟩ := hle
  have H0 : Hid ((grp 10 bs).1 = 0) := h0
  have HK : Hid ((grp 10 bs).2 = k) := hk
  clear hat h0 hk
  go_enter Tryz.func83, Tryz.ntmps83
  go_wp2_with (go_at_call 119; refine (groups_ok _ cap bs _ HAT.out H0.out k HK.out).mono ?_; rintro e w1 ⟨rfl, rfl⟩)
  go_loopw [7, 8] (fun v i wr => ∃ j : Nat, j ≤ k ∧ i = .int .i64 ((j : Int) - 1) ∧ v = .int .u64 ((val ((bs.take k).drop j) % 18446744073709551616 : Nat) : Int) ∧ wr = w1) (fun _ i _ => (intOf i + 1).toNat)
  case atStart => exact ⟨k, Nat.le_refl _, rfl, by simp [val], rfl⟩
  case round =>
    obtain ⟨j, hj, rfl, rfl, rfl⟩ := hrel
    by_cases hj0 : 0 < j
    · obtain ⟨i, rfl⟩ : ∃ i, j = i + 1 := ⟨j - 1, by omega⟩
      obtain ⟨_, _, he, hc⟩ := HAT.out (by intro h; simp [h] at hk1; omega)
      cases he
      obtain ⟨x, HX, hx⟩ : ∃ x : UInt8, Hid (x = bs.getD i 0) ∧ wr.cell? ⟨b, o + i, none⟩ = some (.int .u8 (x.toNat : Int)) := ⟨_, rfl, hc i (by omega)⟩
      have hvd := val_drop bs k i hk1 (by omega)
      rw [← HX.out] at hvd
      have hor := or_low (val ((bs.take k).drop (i + 1)) % 18446744073709551616) (x.toNat % 128) (by omega)
      obtain ⟨y, hy⟩ : ∃ y, val ((bs.take k).drop (i + 1)) % 18446744073709551616 = y := ⟨_, rfl⟩
      have HV : Hid (val ((bs.take k).drop i) % 18446744073709551616 = (y * 128 + x.toNat % 128) % 18446744073709551616) := by unfold Hid; omega
      rw [hy, show ((x.toNat % 128 : Nat) : Int) = (x.toNat : Int) % 128 by omega] at hor
      rw [hy]
      clear hvd hc hy
      have hi1 : ((i + 1 : Nat) : Int) - 1 = (i : Int) := by omega
      rw [hi1]
      go_wp2
      go_roundw
      case rel => exact ⟨i, by omega, by go_num, by rw [HV.out]; simp, trivial⟩
      case measure => simp [intOf]
    · obtain rfl : j = 0 := by omega
      obtain ⟨n, hn⟩ : ∃ n, guN bs = n := ⟨_, rfl⟩
      have hn64 : n < 18446744073709551616 := hn ▸ guN_lt bs
      have hv : val ((bs.take k).drop 0) % 18446744073709551616 = n := by rw [← hn]; unfold guN; rw [HK.out]; rfl
      rw [hv]
      by_cases hu : uintB n = bs.take k
      · have e1 : guE bs = 0 := by unfold guE; rw [if_pos H0.out, hn, HK.out, if_pos hu]
        have e2 : guK bs = k := by unfold guK; rw [if_pos e1, HK.out]
        have e3 : guV bs = n := by unfold guV; rw [if_pos e1, hn]
        have E : Hid (guE bs = _ ∧ guK bs = _ ∧ guV bs = _) := ⟨e1, e2, e3⟩
        clear e1 e2 e3 hn hv
        go_wp2
        refine wp_region_noPanic ?_
        refine wp_region_held_drew (S := After wr) (by kernel_rfl) (After.drew (After.refl wr)) ?_
        intro hS0
        have HT3 : BytesAt wr (some ⟨b, o, none⟩) bs := HAT.out
        have HT0 := HT3.after hS0
        refine tk 0 32 (.int .u64 (n : Int)) (fuel := 7) rfl (by kernel_rfl) (by kernel_rfl) (by kernel_rfl) (by kernel_rfl) noPanic_false (by kernel_rfl) (fun _ _ => by kernel_rfl) hS0 ?_
        refine tk 3 35 (.slice (some ⟨b, o, none⟩) bs.length cap) (fuel := 6) rfl (by kernel_rfl) (by kernel_rfl) (by kernel_rfl) (by kernel_rfl) noPanic_false (by kernel_rfl) (fun _ _ => by kernel_rfl) hS0 ?_
        refine tk 4 36 (.int .i64 (k : Int)) (fuel := 5) rfl (by kernel_rfl) (by kernel_rfl) (by kernel_rfl) (by kernel_rfl) noPanic_false (by kernel_rfl) (fun _ _ => by kernel_rfl) hS0 ?_
        refine tk 5 37 (.slice (some ⟨b, o, none⟩) k cap) (fuel := 4) rfl (by kernel_rfl) (by kernel_rfl) (by kernel_rfl) (by kernel_rfl) noPanic_false (by kernel_rfl) (fun _ _ => x_slice (x := .tmp 35) (y := .tmp 36) (b := b) (off := o) (len := bs.length) (cap := cap) (k := k) (by kernel_rfl) (by kernel_rfl) (by kernel_rfl) (Nat.le_trans hk1 hcap)) hS0 ?_
        refine tk 6 38 (.string (strOf (bs.take k))) (fuel := 3) rfl (by kernel_rfl) (by kernel_rfl) (by kernel_rfl) (by kernel_rfl) noPanic_false (by kernel_rfl) (fun W hW => x_conv (x := .tmp 37) (by kernel_rfl) (by kernel_rfl) (conv_take cap k (HT3.after hW) hk1)) hS0 ?_
        refine tkCall 1 33 59 #[.int .u64 (n : Int)] _ (fuel := 2) rfl (by kernel_rfl) (by kernel_rfl) (by kernel_rfl) (fun _ => by kernel_rfl) hS0 (ruint_any n hn64 _) ?_
        intro pv pw pr ps
        have pB : After wr pw := After.trans hS0 ps
        have pT := HT0.after ps
        refine tk 2 34 (.string (strOf (uintB n))) (fuel := 1) rfl (by kernel_rfl) (by kernel_rfl) (by kernel_rfl) (by kernel_rfl) noPanic_false (by kernel_rfl) (fun W hW => x_conv (x := .tmp 33) (by kernel_rfl) (by kernel_rfl) (Own.convA pr hW)) (After.refl pw) ?_
        refine tk 7 39 (.bool false) (fuel := 0) rfl (by kernel_rfl) (by kernel_rfl) (by kernel_rfl) (by kernel_rfl) noPanic_false (by kernel_rfl) (fun _ _ => x_streqf (x := .tmp 34) (y := .tmp 38) (s := strOf (uintB n)) (t := strOf (bs.take k)) (by kernel_rfl) (by kernel_rfl) (by kernel_rfl) (congrArg strOf hu)) (After.refl pw) ?_
        refine wpAnyH_done (by kernel_rfl) (NoPanic.normal ?_) _
        go_simp
        go_wp2
        go_ret3
        exact ⟨by rw [E.out.1, E.out.2.1, E.out.2.2]; rfl, pB⟩
      · have e1 : guE bs = 4 := by unfold guE; rw [if_pos H0.out, hn, HK.out, if_neg hu]
        have e2 : guK bs = 0 := by unfold guK; rw [e1]; rfl
        have e3 : guV bs = 0 := by unfold guV; rw [e1]; rfl
        have E : Hid (guE bs = _ ∧ guK bs = _ ∧ guV bs = _) := ⟨e1, e2, e3⟩
        clear e1 e2 e3 hn hv
        go_wp2
        refine wp_region_noPanic ?_
        refine wp_region_held_drew (S := After wr) (by kernel_rfl) (After.drew (After.refl wr)) ?_
        intro hS0
        have HT3 : BytesAt wr (some ⟨b, o, none⟩) bs := HAT.out
        have HT0 := HT3.after hS0
        refine tk 0 32 (.int .u64 (n : Int)) (fuel := 7) rfl (by kernel_rfl) (by kernel_rfl) (by kernel_rfl) (by kernel_rfl) noPanic_false (by kernel_rfl) (fun _ _ => by kernel_rfl) hS0 ?_
        refine tk 3 35 (.slice (some ⟨b, o, none⟩) bs.length cap) (fuel := 6) rfl (by kernel_rfl) (by kernel_rfl) (by kernel_rfl) (by kernel_rfl) noPanic_false (by kernel_rfl) (fun _ _ => by kernel_rfl) hS0 ?_
        refine tk 4 36 (.int .i64 (k : Int)) (fuel := 5) rfl (by kernel_rfl) (by kernel_rfl) (by kernel_rfl) (by kernel_rfl) noPanic_false (by kernel_rfl) (fun _ _ => by kernel_rfl) hS0 ?_
        refine tk 5 37 (.slice (some ⟨b, o, none⟩) k cap) (fuel := 4) rfl (by kernel_rfl) (by kernel_rfl) (by kernel_rfl) (by kernel_rfl) noPanic_false (by kernel_rfl) (fun _ _ => x_slice (x := .tmp 35) (y := .tmp 36) (b := b) (off := o) (len := bs.length) (cap := cap) (k := k) (by kernel_rfl) (by kernel_rfl) (by kernel_rfl) (Nat.le_trans hk1 hcap)) hS0 ?_
        refine tk 6 38 (.string (strOf (bs.take k))) (fuel := 3) rfl (by kernel_rfl) (by kernel_rfl) (by kernel_rfl) (by kernel_rfl) noPanic_false (by kernel_rfl) (fun W hW => x_conv (x := .tmp 37) (by kernel_rfl) (by kernel_rfl) (conv_take cap k (HT3.after hW) hk1)) hS0 ?_
        refine tkCall 1 33 59 #[.int .u64 (n : Int)] _ (fuel := 2) rfl (by kernel_rfl) (by kernel_rfl) (by kernel_rfl) (fun _ => by kernel_rfl) hS0 (ruint_any n hn64 _) ?_
        intro pv pw pr ps
        have pB : After wr pw := After.trans hS0 ps
        have pT := HT0.after ps
        refine tk 2 34 (.string (strOf (uintB n))) (fuel := 1) rfl (by kernel_rfl) (by kernel_rfl) (by kernel_rfl) (by kernel_rfl) noPanic_false (by kernel_rfl) (fun W hW => x_conv (x := .tmp 33) (by kernel_rfl) (by kernel_rfl) (Own.convA pr hW)) (After.refl pw) ?_
        refine tk 7 39 (.bool true) (fuel := 0) rfl (by kernel_rfl) (by kernel_rfl) (by kernel_rfl) (by kernel_rfl) noPanic_false (by kernel_rfl) (fun _ _ => x_strne (x := .tmp 34) (y := .tmp 38) (s := (uintB n)) (t := bs.take k) (by kernel_rfl) (by kernel_rfl) (by kernel_rfl) hu) (After.refl pw) ?_
        refine wpAnyH_done (by kernel_rfl) (NoPanic.normal ?_) _
        go_simp
        go_wp2
        go_ret3
        exact ⟨by rw [E.out.1, E.out.2.1, E.out.2.2]; rfl, pB⟩
theorem rgetUint_any (ao : Option Addr) (cap : Nat) (bs : List UInt8) (hcap : bs.length ≤ cap) (w : World) (hat : BytesAt w ao bs) :
    Calls Tryz.prog 83 #[.slice ao bs.length cap] w fun e w' => e = .returned (.tuple #[.int .u64 (guV bs : Int), .int .i64 (guK bs : Int), .int .i64 (guE bs : Int)]) ∧ Below w.heap.size w w' := by
  by_cases h0 : (grp 10 bs).1 = 0
  · have hle := grp_le 10 bs h0
    obtain ⟨b, o, rfl, _⟩ := hat (by intro h; subst h; simp at hle; omega)
    exact rgetUint_ok b o cap bs hcap w hat h0
  · obtain ⟨q, hq⟩ : ∃ q, (grp 10 bs).1 = q := ⟨_, rfl⟩
    have e1 : guE bs = q := by unfold guE; rw [if_neg h0, hq]
    have hq0 : ¬ q = 0 := hq ▸ h0
    have e2 : guK bs = 0 := by unfold guK; rw [if_neg (by rw [e1]; exact hq0)]
    have e3 : guV bs = 0 := by unfold guV; rw [if_neg (by rw [e1]; exact hq0)]
    rw [e1, e2, e3]
    have HAT : Hid (BytesAt w ao bs) := hat
    have H0 : Hid (¬ (grp 10 bs).1 = 0) := h0
    have HQ : Hid ((grp 10 bs).1 = q) := hq
    clear h0 hq e1 e2 e3 hat
    go_enter Tryz.func83, Tryz.ntmps83
    go_wp2_with (go_at_call 119; refine (groups_bad ao cap bs _ HAT.out H0.out q HQ.out).mono ?_; rintro e w1 ⟨rfl, rfl⟩)
    go_ret3
    exact ⟨rfl, Below.refl _ _⟩
end Go.Proofs.YtgmdolpjkaajfaaGreatDoor
