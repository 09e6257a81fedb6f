/-
  READING: the reader's state by what is left; numbers, texts, hashes; gathered[Hash] (58).
-/
import Derived.Test.YtcmcapcagblafaaXD
import Derived.Test.YtcmcapcagblafaaLE
namespace Go.Proofs.Ytcmcapcagblafaa
open Go.RowKit Go.Maps Dsk Leb
attribute [local go_sem] Oper.semAt_some
section
variable {α β : Type}
/-- One thing was taken off, or there is an error. -/
def Stp (p : List UInt8 → Option (α × List UInt8)) (bs : List UInt8) (e : Nat) (x : α) (bs' : List UInt8) (e' : Nat) : Prop := (e = 0 ∧ p bs = some (x, bs') ∧ e' = 0) ∨ (e' ≠ 0 ∧ (e = 0 → p bs = none))
theorem Stp.ok {p : List UInt8 → Option (α × List UInt8)} {bs bs' : List UInt8} {e : Nat} {x : α} (h : Stp p bs e x bs' 0) : e = 0 ∧ p bs = some (x, bs') := by
  rcases h with ⟨h1, h2, _⟩ | ⟨h1, _⟩
  · exact ⟨h1, h2⟩
  · exact absurd rfl h1
theorem Stp.bad {p : List UInt8 → Option (α × List UInt8)} {bs bs' : List UInt8} {e e' : Nat} {x : α} (h : Stp p bs e x bs' e') (he : e' ≠ 0) : e = 0 → p bs = none := by
  rcases h with ⟨_, _, h3⟩ | ⟨_, h2⟩
  · exact absurd h3 he
  · exact h2
theorem Stp.two {p : List UInt8 → Option (α × List UInt8)} {q : List UInt8 → Option (β × List UInt8)} {bs b1 b2 : List UInt8} {e e1 e2 : Nat} {x : α} {y : β} (h : Stp p bs e x b1 e1) (k : Stp q b1 e1 y b2 e2) : Stp (fun b => (p b).bind fun r => (q r.2).map fun s => ((r.1, s.1), s.2)) bs e (x, y) b2 e2 := by
  rcases k with ⟨k1, k2, k3⟩ | ⟨k1, k2⟩
  · subst k1
    obtain ⟨h1, h2⟩ := h.ok
    refine .inl ⟨h1, ?_, k3⟩
    simp only [h2, Option.bind_some, k2, Option.map_some]
  · refine .inr ⟨k1, fun h0 => ?_⟩
    rcases h with ⟨_, h2, h3⟩ | ⟨_, h2⟩
    · simp only [h2, Option.bind_some, k2 h3, Option.map_none]
    · simp only [h2 h0, Option.bind_none]
/-- The loop of what is gathered. -/
theorem Stp.zero {p : List UInt8 → Option (α × List UInt8)} (t : List UInt8) (e : Nat) : Stp (pMany p 0) t e [] t e := by
  by_cases h : e = 0
  · exact .inl ⟨h, rfl, h⟩
  · exact .inr ⟨h, fun h0 => absurd h0 h⟩
theorem Stp.succ {p : List UInt8 → Option (α × List UInt8)} {i : Nat} {t b1 b2 : List UInt8} {e e2 : Nat} {l : List α} {x : α} (h : Stp (pMany p i) t e l b1 0) (k : Stp p b1 0 x b2 e2) : Stp (pMany p (i + 1)) t e (l ++ [x]) b2 e2 := by
  obtain ⟨h1, h2⟩ := h.ok
  rcases k with ⟨_, k2, k3⟩ | ⟨k1, k2⟩
  · refine .inl ⟨h1, ?_, k3⟩
    show (pMany p i t).bind _ = _
    rw [h2]
    show (p b1).map _ = _
    rw [k2]; rfl
  · refine .inr ⟨k1, fun _ => ?_⟩
    show (pMany p i t).bind _ = _
    rw [h2]
    show (p b1).map _ = _
    rw [k2 rfl]; rfl
theorem Stp.list {p : List UInt8 → Option (α × List UInt8)} {most n i : Nat} {bs t b' : List UInt8} {e e1 e' : Nat} {l : List α} (hn : Stp (pN most) bs e n t e1) (h : Stp (pMany p i) t e1 l b' e') (hi : i = n ∨ (e' ≠ 0 ∧ i ≤ n)) : Stp (pL most p) bs e l b' e' := by
  by_cases h0 : e' = 0
  · have hin : i = n := by rcases hi with h1 | ⟨h1, _⟩; exact h1; exact absurd h0 h1
    subst hin h0
    obtain ⟨h1, h2⟩ := h.ok
    subst h1
    obtain ⟨h3, h4⟩ := hn.ok
    refine .inl ⟨h3, ?_, rfl⟩
    unfold pL
    rw [h4]; exact h2
  · refine .inr ⟨h0, fun he => ?_⟩
    unfold pL
    rcases hn with ⟨_, h2, h3⟩ | ⟨_, h2⟩
    · rw [h2]
      exact pMany_none (h.bad h0 h3) (by rcases hi with h1 | ⟨_, h1⟩ <;> omega)
    · rw [h2 he]; rfl
end
/-- A reader in block g, whose bytes lie below m. -/
structure RdS (w : World) (g m : Nat) (bs : List UInt8) (e : Nat) : Prop where
  rd : ∃ ao cap, Rd w g bs e ao cap ∧ ∀ a, ao = some a → a.block < m
  len : bs.length ≤ 524288
  gm : g < m
  mw : m ≤ w.heap.size
theorem RdS.keep {w w' : World} {g m : Nat} {bs : List UInt8} {e : Nat} (h : RdS w g m bs e) (hk : ∀ b, b < m → w'.heap[b]? = w.heap[b]?) (hs : w.heap.size ≤ w'.heap.size) : RdS w' g m bs e := by
  obtain ⟨ao, cap, hr, hb⟩ := h.rd
  refine ⟨⟨ao, cap, ⟨by have := hr.row; unfold RowIs at this ⊢; rw [hk g h.gm]; exact this, fun hn => ?_, hr.cap, hr.nil, hr.apart⟩, hb⟩, h.len, h.gm, Nat.le_trans h.mw hs⟩
  obtain ⟨b, o, e1, hc⟩ := hr.at' hn
  refine ⟨b, o, e1, fun j hj => ?_⟩
  rw [World.cell?_of_block (w := w) (show w'.heap[(⟨b, o + j, none⟩ : Addr).block]? = w.heap[(⟨b, o + j, none⟩ : Addr).block]? from hk b (hb _ e1))]
  exact hc j hj
theorem RdS.after {w w' : World} {g m : Nat} {bs : List UInt8} {e : Nat} (h : RdS w g m bs e) (ha : After w w') : RdS w' g m bs e := h.keep (fun b hb => ha.block b (Nat.lt_of_lt_of_le hb h.mw)) ha.size
theorem RdS.grown {w w' : World} {g m : Nat} {bs : List UInt8} {e : Nat} {row : Option Nat} (h : RdS w g m bs e) (hg : w.grownBy w' row) (hr : ∀ b, row = some b → m ≤ b) : RdS w' g m bs e := h.keep (fun b hb => hg.block b (Nat.lt_of_lt_of_le hb h.mw) (fun e1 => by have := hr b e1.symm; omega)) hg.size
theorem RdS.next {w w' : World} {g m : Nat} {bs bs' : List UInt8} {e e' : Nat} {ao : Option Addr} {cap : Nat} (h : RdS w g m bs e) (_hr : Rd w g bs e ao cap) (hb : ∀ a, ao = some a → a.block < m) (hn : Nx g w ao bs' e' w') (hl : bs'.length ≤ bs.length) : RdS w' g m bs' e' ∧ But g w w' := by
  obtain ⟨ao', cap', h1, h2, h3⟩ := hn
  refine ⟨⟨⟨ao', cap', h1, fun a ha => ?_⟩, Nat.le_trans hl h.len, h.gm, Nat.le_trans h.mw h2.size⟩, h2⟩
  obtain ⟨b, hb1, hb2⟩ := h3 a ha
  rw [← hb2]; exact hb b hb1
theorem hash59 {w : World} {g m : Nat} {bs : List UInt8} {e : Nat} (h : RdS w g m bs e) : Calls Try.prog 59 #[.pointer (some ⟨g, 0, none⟩)] w fun x w' => ∃ y bs' e', x = .returned (.agg (c8 y).toArray) ∧ y.length = 32 ∧ Stp pX bs e y bs' e' ∧ RdS w' g m bs' e' ∧ But g w w' := by
  obtain ⟨ao, cap, hr, hb⟩ := h.rd
  refine (rHash_any g bs e ao cap w hr).mono ?_
  rintro x w' ⟨rfl, hn⟩
  have hl : (shB bs e).length ≤ bs.length := by unfold shB; split; simp; omega
  obtain ⟨k1, k2⟩ := h.next hr hb hn hl
  refine ⟨_, _, _, rfl, ?_, ?_, k1, k2⟩
  · unfold shH; split; exact ghH_len bs; rfl
  · by_cases he : e = 0
    · subst he
      unfold shH shB shE
      rw [if_pos rfl, if_pos rfl, if_pos rfl]
      unfold ghH ghK ghE
      by_cases hs : bs.length < 32
      · rw [if_pos hs, if_pos hs, if_pos hs]
        exact .inr ⟨by decide, fun _ => by unfold pX; rw [if_pos hs]⟩
      · rw [if_neg hs, if_neg hs, if_neg hs]
        exact .inl ⟨rfl, by unfold pX; rw [if_neg hs], rfl⟩
    · refine .inr ⟨by unfold shE; rw [if_neg he]; exact he, fun h0 => absurd h0 he⟩
theorem text55 {w : World} {g m : Nat} {bs : List UInt8} {e : Nat} (h : RdS w g m bs e) : Calls Try.prog 55 #[.pointer (some ⟨g, 0, none⟩), .int .i64 32] w fun x w' => ∃ s bs' e', x = .returned (.string (strOf s)) ∧ s.length ≤ 32 ∧ Stp (pT 32) bs e s bs' e' ∧ RdS w' g m bs' e' ∧ But g w w' := by
  obtain ⟨ao, cap, hr, hb⟩ := h.rd
  refine (rText_any g bs e ao cap 32 (by omega) (by omega) (by have := h.len; omega) w hr).mono ?_
  rintro x w' ⟨rfl, hn⟩
  have hl : (stB bs e 32).length ≤ bs.length := by unfold stB; split; simp; omega
  obtain ⟨k1, k2⟩ := h.next hr hb hn hl
  refine ⟨_, _, _, rfl, ?_, ?_, k1, k2⟩
  · unfold ltS
    split
    · by_cases h0 : gtE bs 32 = 0
      · obtain ⟨_, g2, g3⟩ := gtE_ok bs 32 h0
        unfold gtS; rw [if_pos h0]; simp; omega
      · unfold gtS; rw [if_neg h0]; simp
    · simp
  · by_cases he : e = 0
    · subst he
      unfold ltS stB stE
      rw [if_pos rfl, if_pos rfl, if_pos rfl]
      by_cases h0 : gtE bs 32 = 0
      · exact .inl ⟨rfl, by unfold pT; rw [if_pos h0], h0⟩
      · exact .inr ⟨h0, fun _ => by unfold pT; rw [if_neg h0]⟩
    · refine .inr ⟨by unfold stE; rw [if_neg he]; exact he, fun h0 => absurd h0 he⟩
theorem uint73 {w : World} {g m : Nat} {bs : List UInt8} {e : Nat} (most : Nat) (h : RdS w g m bs e) : Calls Try.prog 73 #[.pointer (some ⟨g, 0, none⟩), .int .u64 (most : Int)] w fun x w' => ∃ (n : Nat) (bs' : List UInt8) (e' : Nat), x = .returned (.int .u64 (n : Int)) ∧ n ≤ most ∧ Stp (pN most) bs e n bs' e' ∧ RdS w' g m bs' e' ∧ But g w w' := by
  obtain ⟨ao, cap, hr, hb⟩ := h.rd
  refine (rUint_any g bs e ao cap most w hr).mono ?_
  rintro x w' ⟨rfl, hn⟩
  have hl : (suB bs e most).length ≤ bs.length := by unfold suB; split; simp; omega
  obtain ⟨k1, k2⟩ := h.next hr hb hn hl
  refine ⟨_, _, _, rfl, ?_, ?_, k1, k2⟩
  · unfold suV
    split
    · unfold ruV
      split
      · rename_i h0
        unfold ruE at h0
        split at h0
        · split at h0
          · cases h0
          · omega
        · rename_i h1; exact absurd h0 h1
      · omega
    · omega
  · by_cases he : e = 0
    · subst he
      unfold suV suB suE
      rw [if_pos rfl, if_pos rfl, if_pos rfl]
      by_cases h0 : ruE bs most = 0
      · refine .inl ⟨rfl, ?_, h0⟩
        unfold pN ruV ruK
        rw [if_pos h0, if_pos h0, if_pos h0]
      · exact .inr ⟨h0, fun _ => by unfold pN; rw [if_neg h0]⟩
    · refine .inr ⟨by unfold suE; rw [if_neg he]; exact he, fun h0 => absurd h0 he⟩
theorem err60 {w : World} {g m : Nat} {bs : List UInt8} {e : Nat} (h : RdS w g m bs e) : Calls Try.prog 60 #[.pointer (some ⟨g, 0, none⟩)] w fun x w' => x = .returned (.int .i64 (e : Int)) ∧ w' = w := by
  obtain ⟨ao, cap, hr, _⟩ := h.rd
  exact rErr_any g bs e ao cap w hr
theorem done29 {w : World} {g m : Nat} {bs : List UInt8} {e : Nat} (h : RdS w g m bs e) : Calls Try.prog 29 #[.pointer (some ⟨g, 0, none⟩)] w fun x w' => x = .returned (.int .i64 (sdE bs e : Int)) ∧ w' = w := by
  obtain ⟨ao, cap, hr, _⟩ := h.rd
  exact rDone_any g bs e ao cap w hr
end Go.Proofs.Ytcmcapcagblafaa
