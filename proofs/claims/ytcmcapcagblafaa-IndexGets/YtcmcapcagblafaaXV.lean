/-
  The reference's reader, as a state that hangs on the bytes that came in: numbers, texts, lists of hashes.
-/
import Derived.Test.YtcmcapcagblafaaXT
import Derived.Test.YtcmcapcagblafaaXE
import Derived.Test.YtcmcapcagblafaaXJ
import Derived.Test.YtcmcapcagblafaaLF
import Derived.Test.YtcmcapcagblafaaHB
namespace Go.Proofs.Ytcmcapcagblafaa
open Go.RowKit Go.Maps Dsk Leb
attribute [local go_sem] Oper.semAt_some
/-- What is left, in memory that was there ahead of the call. -/
structure RO (w : World) (bs : List UInt8) (ao : Option Addr) (cap : Nat) : Prop where
  rs : Rs w bs ao cap
  old : ∀ a, ao = some a → a.block < w.heap.size
  len : bs.length ≤ 140737488355328
theorem rrx_back {w W W' : World} {bs bs' : List UInt8} {ao : Option Addr} {cap e' : Nat} {v y : Value} (h : RO w bs ao cap) (hA : After w W) (hl : bs'.length ≤ bs.length) (hx : RrX W W' ao bs' e' v y) : ∃ ao' cap', y = .tuple #[.agg #[.slice ao' bs'.length cap', .int .i64 (e' : Int)], v] ∧ RO w bs' ao' cap' ∧ After W W' := by
  obtain ⟨ao', cap', h1, h2, h3, h4⟩ := hx
  have hold : ∀ a, ao' = some a → a.block < w.heap.size := fun a ha => by
    obtain ⟨b, hb, e⟩ := h4 a ha
    rw [← e]; exact h.old b hb
  refine ⟨ao', cap', h1, ⟨⟨fun hn => ?_, h2.cap, h2.nil⟩, hold, Nat.le_trans hl h.len⟩, h3⟩
  obtain ⟨b, o, e, hc⟩ := h2.at' hn
  refine ⟨b, o, e, fun j hj => ?_⟩
  have h9 := hc j hj
  rw [World.cell?_of_block (w := w) (show W'.heap[(⟨b, o + j, none⟩ : Addr).block]? = w.heap[(⟨b, o + j, none⟩ : Addr).block]? from (hA.trans h3).block b (hold _ e))] at h9
  exact h9
theorem runt30 {w W : World} {bs : List UInt8} {ao : Option Addr} {k cap e : Nat} (most : Nat) (hk : bs.length = k) (h : RO w bs ao cap) (hA : After w W) : Calls Try.prog 30 #[.agg #[.slice ao k cap, .int .i64 (e : Int)], .int .u64 (most : Int)] W fun x W' => ∃ (ao' : Option Addr) (k' cap' e' n : Nat) (bs' : List UInt8), x = .returned (.tuple #[.agg #[.slice ao' k' cap', .int .i64 (e' : Int)], .int .u64 (n : Int)]) ∧ bs'.length = k' ∧ RO w bs' ao' cap' ∧ n ≤ most ∧ Stp (pN most) bs e n bs' e' ∧ After W W' := by
  subst hk
  refine (rrUint_any bs e ao cap most W (h.rs.after hA)).mono ?_
  rintro x W' ⟨y, rfl, hx⟩
  have hl : (suB bs e most).length ≤ bs.length := by unfold suB; split; simp; omega
  obtain ⟨ao', cap', rfl, h2, h3⟩ := rrx_back h hA hl hx
  refine ⟨ao', _, cap', _, _, _, rfl, rfl, h2, ?_, ?_, h3⟩
  · unfold suV
    split
    · unfold ruV
      split
      · rename_i h0
        unfold ruE at h0
        split at h0
        · split at h0
          · cases h0
          · omega
        · rename_i h1; exact absurd h0 h1
      · omega
    · omega
  · by_cases he : e = 0
    · subst he
      unfold suV suB suE
      rw [if_pos rfl, if_pos rfl, if_pos rfl]
      by_cases h0 : ruE bs most = 0
      · refine .inl ⟨rfl, ?_, h0⟩
        unfold pN ruV ruK
        rw [if_pos h0, if_pos h0, if_pos h0]
      · exact .inr ⟨h0, fun _ => by unfold pN; rw [if_neg h0]⟩
    · refine .inr ⟨by unfold suE; rw [if_neg he]; exact he, fun h0 => absurd h0 he⟩
theorem rtxt31 {w W : World} {bs : List UInt8} {ao : Option Addr} {k cap e : Nat} (hk : bs.length = k) (h : RO w bs ao cap) (hA : After w W) : Calls Try.prog 31 #[.agg #[.slice ao k cap, .int .i64 (e : Int)], .int .i64 32] W fun x W' => ∃ (ao' : Option Addr) (k' cap' e' : Nat) (s bs' : List UInt8), x = .returned (.tuple #[.agg #[.slice ao' k' cap', .int .i64 (e' : Int)], .string (strOf s)]) ∧ bs'.length = k' ∧ RO w bs' ao' cap' ∧ s.length ≤ 32 ∧ Stp (pT 32) bs e s bs' e' ∧ After W W' := by
  subst hk
  refine (rrText_any bs e ao cap 32 (by omega) (by omega) (by have := h.len; omega) W (h.rs.after hA)).mono ?_
  rintro x W' ⟨y, rfl, hx⟩
  have hl : (stB bs e 32).length ≤ bs.length := by unfold stB; split; simp; omega
  obtain ⟨ao', cap', rfl, h2, h3⟩ := rrx_back h hA hl hx
  refine ⟨ao', _, cap', _, _, _, rfl, rfl, h2, ?_, ?_, h3⟩
  · unfold ltS
    split
    · by_cases h0 : gtE bs 32 = 0
      · obtain ⟨_, g2, g3⟩ := gtE_ok bs 32 h0
        unfold gtS; rw [if_pos h0]; simp; omega
      · unfold gtS; rw [if_neg h0]; simp
    · simp
  · by_cases he : e = 0
    · subst he
      unfold ltS stB stE
      rw [if_pos rfl, if_pos rfl, if_pos rfl]
      by_cases h0 : gtE bs 32 = 0
      · exact .inl ⟨rfl, by unfold pT; rw [if_pos h0], h0⟩
      · exact .inr ⟨h0, fun _ => by unfold pT; rw [if_neg h0]⟩
    · refine .inr ⟨by unfold stE; rw [if_neg he]; exact he, fun h0 => absurd h0 he⟩
theorem gL_app {s : List H} (h32 : All32 s) (a t : List UInt8) : gL (a ++ (s.flatten ++ t)) a.length s.length = s := by
  apply List.ext_getElem?
  intro j
  unfold gL
  by_cases hj : j < s.length
  · rw [List.getElem?_map, List.getElem?_range hj, Option.map_some, List.getElem?_eq_getElem hj]
    congr 1
    unfold hAt
    rw [← List.drop_drop, List.drop_left, List.drop_append_of_le_length (by rw [flat_len h32]; omega), flat_drop j h32, List.drop_eq_getElem_cons hj, List.flatten_cons, List.append_assoc]
    have hl : (s[j]).length = 32 := h32 _ (List.getElem_mem hj)
    rw [← hl, List.take_left]
  · rw [List.getElem?_eq_none (by simp; omega), List.getElem?_eq_none (by omega)]
theorem hg_back {s : List H} {m : Nat} (h32 : All32 s) (hu : upB s = true) (hn : s.length ≤ m) (hb : m ≤ 4096) (t : List UInt8) : hgE (hsB s ++ t) (m : Int) = 0 ∧ hgK (hsB s ++ t) (m : Int) = (hsB s).length ∧ hgL (hsB s ++ t) (m : Int) = s := by
  have e : hsB s ++ t = uintB s.length ++ (s.flatten ++ t) := by unfold hsB; rw [List.append_assoc]
  have el : (hsB s).length = (uintB s.length).length + s.length * 32 := by unfold hsB; rw [List.length_append, flat_len h32]
  obtain ⟨g1, g2, g3⟩ := gu_back s.length (s.flatten ++ t) (by omega)
  have hE : hgE (uintB s.length ++ (s.flatten ++ t)) (m : Int) = 0 := by
    unfold hgE
    rw [g1, g2, g3, if_pos rfl, if_neg (by omega), gL_app h32, hu, if_neg (by rw [List.length_append, List.length_append, flat_len h32]; omega), if_pos rfl]
  rw [e, el]
  refine ⟨hE, ?_, ?_⟩
  · unfold hgK; rw [hE, if_pos rfl, g2, g3]
  · unfold hgL; rw [hE, if_pos rfl, g2, g3, gL_app h32]
theorem hgE_ok {bs : List UInt8} {m : Int} (h : hgE bs m = 0) : guE bs = 0 ∧ (guV bs : Int) ≤ m ∧ guK bs + guV bs * 32 ≤ bs.length := by
  unfold hgE at h
  split at h
  · rename_i h0
    split at h
    · cases h
    · rename_i h1
      split at h
      · cases h
      · rename_i h2
        have := guK_le bs
        refine ⟨h0, by omega, ?_⟩
        have h3 : guV bs ≤ (bs.length - guK bs) / 32 := by omega
        have h4 := Nat.div_mul_le_self (bs.length - guK bs) 32
        have h5 : guV bs * 32 ≤ (bs.length - guK bs) / 32 * 32 := Nat.mul_le_mul_right _ h3
        omega
  · rename_i h0; exact absurd h h0
theorem rgts32 {w W : World} {bs : List UInt8} {ao : Option Addr} {k cap m : Nat} (hk : bs.length = k) (hm : m ≤ 4096) (h : RO w bs ao cap) (hA : After w W) : Calls Try.prog 32 #[.slice ao k cap, .int .i64 (m : Int)] W fun x W' => ∃ (a : Option Addr) (c n u e' : Nat) (l : List H), x = .returned (.tuple #[.slice a n c, .int .i64 (u : Int), .int .i64 (e' : Int)]) ∧ l.length = n ∧ n ≤ m ∧ u ≤ k ∧ All32 l ∧ OwnL W' W.heap.size 43 32 (.slice a n c) (hsL l) ∧ (∀ (s : List H) (t : List UInt8), bs = hsB s ++ t → All32 s → s.length ≤ m → upB s = true → e' = 0 ∧ l = s ∧ u = (hsB s).length) ∧ After W W' := by
  subst hk
  have hr := h.rs.after hA
  refine (rget_any ao cap bs (m : Int) hr.cap h.len (by omega) (by omega) W hr.at').mono ?_
  rintro x W' ⟨v, rfl, ho, ha⟩
  have h32 : All32 (hgL bs (m : Int)) := by
    by_cases h0 : hgE bs (m : Int) = 0
    · unfold hgL; rw [if_pos h0]; exact gL_32 (hgE_ok h0).2.2
    · unfold hgL; rw [if_neg h0]; exact All32.nil
  have hown : OwnL W' W.heap.size 43 32 v (hsL (hgL bs (m : Int))) := ⟨uni_hs h32, by rw [hs_len, c8_flat32]; exact ho⟩
  obtain ⟨a, c, rfl, _⟩ := hown.val (n := (hgL bs (m : Int)).length) (hs_len _)
  refine ⟨a, c, _, _, _, _, rfl, rfl, ?_, ?_, h32, hown, fun s t e hs32 hsm hsu => ?_, ha⟩
  · by_cases h0 : hgE bs (m : Int) = 0
    · unfold hgL; rw [if_pos h0, gL_len]; have := (hgE_ok h0).2.1; omega
    · unfold hgL; rw [if_neg h0]; simp
  · by_cases h0 : hgE bs (m : Int) = 0
    · unfold hgK; rw [if_pos h0]; exact (hgE_ok h0).2.2
    · unfold hgK; rw [if_neg h0]; omega
  · obtain ⟨b1, b2, b3⟩ := hg_back hs32 hsu hsm hm t
    rw [e]
    exact ⟨b1, b3, b2⟩
end Go.Proofs.Ytcmcapcagblafaa
