/-
  RECORDS: their bytes, and how they are taken off again, in plain mathematics.
-/
import Derived.Test.YtcmcapcagblafaaBV
import Derived.Test.YtcmcapcagblafaaHA
import Derived.Test.YtcmcapcagblafaaLD
namespace Go.Proofs.Ytcmcapcagblafaa
open Go Dsk Leb
/-- A record: its name, its branches, its changes. -/
abbrev Rc := Dsk.Nm × (Tb × List H)
def hsB (l : List H) : List UInt8 := uintB l.length ++ l.flatten
theorem putB_all (l : List H) {n : Nat} (h : l.length = n) : putB l n n = hsB l := by unfold putB hsB; rw [h, List.take_of_length_le (by omega)]
def brB (p : Dsk.Nm × List H) : List UInt8 := textB p.1 ++ hsB p.2
def brsB (S : Tb) : List UInt8 := uintB S.length ++ (S.map brB).flatten
def rcB (r : Rc) : List UInt8 := textB r.1 ++ (brsB r.2.1 ++ hsB r.2.2)
def ixB (L : List Rc) : List UInt8 := (1 : UInt8) :: (uintB L.length ++ (L.map rcB).flatten)
structure ROk (r : Rc) : Prop where
  nam : nmB r.1 = true
  few : r.2.2.length ≤ 4096
  up : upB r.2.2 = true
  brs : LOk r.2.1
structure MOk (L : List Rc) : Prop where
  few : L.length ≤ 64
  each : ∀ r ∈ L, ROk r
  adj : ∀ (i : Nat) (p q : Rc), L[i]? = some p → L[i + 1]? = some q → bytesBefore p.1 q.1 = true
/-- All hashes have 32 bytes. -/
structure R32 (r : Rc) : Prop where
  chs : All32 r.2.2
  brs : ∀ p ∈ r.2.1, All32 p.2
theorem hsB_len {l : List H} (h : All32 l) (hn : l.length ≤ 4096) : (hsB l).length ≤ 10 + l.length * 32 := by
  unfold hsB
  rw [List.length_append, flat_len h]
  have := uintB_len10 l.length (by omega)
  omega
theorem textB_len {s : List UInt8} (h : s.length ≤ 32) : (textB s).length ≤ 42 := by
  unfold textB
  rw [List.length_append]
  have := uintB_len10 s.length (by omega)
  omega
theorem brB_len {p : Dsk.Nm × List H} (hn : nmB p.1 = true) (hm : mayB p.2 = true) (h32 : All32 p.2) : (brB p).length ≤ 600 := by
  unfold brB
  rw [List.length_append]
  have h1 := textB_len (nmB_len hn)
  have h3 := mayB_len hm
  have h2 := hsB_len h32 (by omega)
  omega
theorem flat_bound {α : Type} {f : α → List UInt8} {k : Nat} : ∀ {l : List α}, (∀ x ∈ l, (f x).length ≤ k) → ((l.map f).flatten).length ≤ l.length * k
  | [], _ => by simp
  | x :: l, h => by
    have h1 := flat_bound (f := f) (k := k) (l := l) (fun y hy => h y (by simp [hy]))
    have h2 := h x (by simp)
    simp only [List.map_cons, List.flatten_cons, List.length_append, List.length_cons, Nat.succ_mul]
    omega
theorem brsB_len {S : Tb} (h : LOk S) (h32 : ∀ p ∈ S, All32 p.2) : (brsB S).length ≤ 38410 := by
  unfold brsB
  rw [List.length_append]
  have h1 := flat_bound (f := brB) (k := 600) (l := S) (fun p hp => brB_len (h.each p hp).1 (h.each p hp).2 (h32 p hp))
  have h2 := h.few
  have := uintB_len10 S.length (by omega)
  have : S.length * 600 ≤ 64 * 600 := Nat.mul_le_mul_right _ h2
  omega
theorem rcB_len {r : Rc} (h : ROk r) (h32 : R32 r) : (rcB r).length ≤ 200000 := by
  unfold rcB
  rw [List.length_append, List.length_append]
  have h1 := textB_len (nmB_len h.nam)
  have h2 := brsB_len h.brs h32.brs
  have h4 := h.few
  have h3 := hsB_len h32.chs h4
  omega
/-! What is taken off. -/
/-- A number of at most so much. -/
def pN (most : Nat) (bs : List UInt8) : Option (Nat × List UInt8) := if ruE bs most = 0 then some (guV bs, bs.drop (guK bs)) else none
def pT (most : Int) (bs : List UInt8) : Option (Dsk.Nm × List UInt8) := if gtE bs most = 0 then some (gtS bs most, bs.drop (gtK bs most)) else none
def pX (bs : List UInt8) : Option (H × List UInt8) := if bs.length < 32 then none else some (bs.take 32, bs.drop 32)
section
variable {α : Type}
def pMany (p : List UInt8 → Option (α × List UInt8)) : Nat → List UInt8 → Option (List α × List UInt8)
  | 0, t => some ([], t)
  | n + 1, t => (pMany p n t).bind fun r => (p r.2).map fun q => (r.1 ++ [q.1], q.2)
def pL (most : Nat) (p : List UInt8 → Option (α × List UInt8)) (bs : List UInt8) : Option (List α × List UInt8) := (pN most bs).bind fun r => pMany p r.1 r.2
theorem pMany_none {p : List UInt8 → Option (α × List UInt8)} {i n : Nat} {t : List UInt8} (h : pMany p i t = none) (hin : i ≤ n) : pMany p n t = none := by
  induction n with
  | zero => have : i = 0 := by omega
            subst this; exact h
  | succ n ih =>
    by_cases e : i = n + 1
    · subst e; exact h
    · show (pMany p n t).bind _ = none
      rw [ih (by omega)]; rfl
/-- A way to lay things and a way to take them off that are one another's. -/
structure Ways (enc : α → List UInt8) (ok : α → Prop) (p : List UInt8 → Option (α × List UInt8)) : Prop where
  only : ∀ {bs x t}, p bs = some (x, t) → bs = enc x ++ t ∧ ok x
  back : ∀ {x} (t), ok x → p (enc x ++ t) = some (x, t)
theorem pMany_only {enc : α → List UInt8} {ok : α → Prop} {p : List UInt8 → Option (α × List UInt8)} (W : Ways enc ok p) : ∀ {n : Nat} {bs : List UInt8} {l : List α} {t : List UInt8}, pMany p n bs = some (l, t) → bs = (l.map enc).flatten ++ t ∧ l.length = n ∧ ∀ x ∈ l, ok x
  | 0, bs, l, t, h => by cases h; exact ⟨rfl, rfl, fun x hx => by cases hx⟩
  | n + 1, bs, l, t, h => by
    obtain ⟨⟨l0, t0⟩, h1, h2⟩ := Option.bind_eq_some_iff.1 h
    obtain ⟨⟨x, t1⟩, h3, h4⟩ := Option.map_eq_some_iff.1 h2
    cases h4
    obtain ⟨e1, e2, e3⟩ := pMany_only W h1
    obtain ⟨e4, e5⟩ := W.only h3
    simp only at e4
    refine ⟨by rw [e1, e4]; simp, by simp [e2], fun y hy => ?_⟩
    rcases List.mem_append.1 hy with hy | hy
    · exact e3 y hy
    · rw [List.mem_singleton.1 hy]; exact e5
theorem pMany_back {enc : α → List UInt8} {ok : α → Prop} {p : List UInt8 → Option (α × List UInt8)} (W : Ways enc ok p) (l : List α) (hl : ∀ x ∈ l, ok x) (t : List UInt8) : ∀ n, n ≤ l.length → pMany p n ((l.map enc).flatten ++ t) = some (l.take n, ((l.drop n).map enc).flatten ++ t)
  | 0, _ => rfl
  | n + 1, hn => by
    obtain ⟨x, hx⟩ : ∃ x, l[n]? = some x := ⟨_, List.getElem?_eq_getElem (by omega)⟩
    have hd : l.drop n = x :: l.drop (n + 1) := by
      rw [List.drop_eq_getElem_cons (by omega)]
      have := (List.getElem?_eq_some_iff.1 hx).2
      rw [this]
    show (pMany p n _).bind _ = _
    rw [pMany_back W l hl t n (by omega)]
    show (p _).map _ = _
    have hb := W.back (((l.drop (n + 1)).map enc).flatten ++ t) (hl x (List.mem_of_getElem? hx))
    simp only [hd, List.map_cons, List.flatten_cons, List.append_assoc] at hb ⊢
    rw [hb]
    show some (l.take n ++ [x], _) = _
    rw [List.take_add_one, hx]; rfl
theorem pN_only {most : Nat} {bs : List UInt8} {n : Nat} {t : List UInt8} (h : pN most bs = some (n, t)) : bs = uintB n ++ t ∧ n ≤ most := by
  unfold pN at h
  split at h
  · rename_i h0
    cases h
    unfold ruE at h0
    split at h0
    · rename_i h1
      split at h0
      · cases h0
      · exact ⟨by rw [gu_only bs h1, List.take_append_drop], by omega⟩
    · rename_i h1; exact absurd h0 h1
  · cases h
theorem pN_back {most n : Nat} (hn : n ≤ most) (hm : n < 18446744073709551616) (t : List UInt8) : pN most (uintB n ++ t) = some (n, t) := by
  obtain ⟨h1, h2, h3⟩ := gu_back n t hm
  have hr : ruE (uintB n ++ t) most = 0 := by unfold ruE; rw [if_pos h1, h3, if_neg (by omega)]
  unfold pN
  rw [if_pos hr, h3, h2, List.drop_left]
/-- A list of at most so many. -/
def encL (enc : α → List UInt8) (l : List α) : List UInt8 := uintB l.length ++ (l.map enc).flatten
theorem Ways.list {enc : α → List UInt8} {ok : α → Prop} {p : List UInt8 → Option (α × List UInt8)} (W : Ways enc ok p) (most : Nat) (hm : most < 18446744073709551616) : Ways (encL enc) (fun l => l.length ≤ most ∧ ∀ x ∈ l, ok x) (pL most p) where
  only := fun {bs l t} h => by
    obtain ⟨⟨n, t0⟩, h1, h2⟩ := Option.bind_eq_some_iff.1 h
    obtain ⟨e1, e2⟩ := pN_only h1
    obtain ⟨e3, e4, e5⟩ := pMany_only W h2
    simp only at e3 e4
    refine ⟨?_, by omega, e5⟩
    unfold encL
    rw [e1, e3, e4, List.append_assoc]
  back := fun {l} t h => by
    have h1 := pN_back (most := most) (n := l.length) h.1 (by have := h.1; omega) ((l.map enc).flatten ++ t)
    unfold pL encL
    rw [List.append_assoc, h1]
    have h2 := pMany_back W l h.2 t l.length (Nat.le_refl _)
    show pMany p l.length _ = _
    rw [h2, List.take_length, List.drop_length]
    rfl
end
theorem waysT : Ways textB (fun s => (s.length : Int) ≤ 32) (pT 32) where
  only := fun {bs x t} h => by
    unfold pT at h
    split at h
    · rename_i h0
      cases h
      obtain ⟨h1, h2⟩ := gt_only bs 32 h0
      obtain ⟨g1, g2, g3⟩ := gtE_ok bs 32 h0
      refine ⟨by rw [h2, List.take_append_drop], ?_⟩
      have : (gtS bs 32).length ≤ guV bs := by unfold gtS; rw [if_pos h0]; simp; omega
      omega
    · cases h
  back := fun {x} t h => by
    obtain ⟨h1, h2, h3⟩ := gt_back x t 32 (by omega) h
    unfold pT
    rw [h1, if_pos rfl, h2, h3, List.drop_left]
theorem waysX : Ways (fun x : H => x) (fun x => x.length = 32) pX where
  only := fun {bs x t} h => by
    unfold pX at h
    split at h
    · cases h
    · cases h; exact ⟨(List.take_append_drop 32 bs).symm, by rw [List.length_take]; omega⟩
  back := fun {x} t h => by
    unfold pX
    rw [if_neg (by rw [List.length_append]; omega), ← h, List.take_left, List.drop_left]
def pHs (most : Nat) : List UInt8 → Option (List H × List UInt8) := pL most pX
theorem encL_id (l : List H) : encL (fun x : H => x) l = hsB l := by unfold encL hsB; simp
theorem waysH (most : Nat) (hm : most < 18446744073709551616) : Ways hsB (fun l => l.length ≤ most ∧ All32 l) (pHs most) := by
  have h := waysX.list most hm
  have e : encL (fun x : H => x) = hsB := funext encL_id
  rw [e] at h
  exact h
def pBr (bs : List UInt8) : Option ((Dsk.Nm × List H) × List UInt8) := (pT 32 bs).bind fun r => (pHs 16 r.2).map fun q => ((r.1, q.1), q.2)
theorem waysB : Ways brB (fun p => (p.1.length : Int) ≤ 32 ∧ p.2.length ≤ 16 ∧ All32 p.2) pBr where
  only := fun {bs x t} h => by
    obtain ⟨⟨s, t0⟩, h1, h2⟩ := Option.bind_eq_some_iff.1 h
    obtain ⟨⟨l, t1⟩, h3, h4⟩ := Option.map_eq_some_iff.1 h2
    cases h4
    obtain ⟨e1, e2⟩ := waysT.only h1
    obtain ⟨e3, e4⟩ := (waysH 16 (by omega)).only h3
    simp only at e3
    exact ⟨by unfold brB; rw [e1, e3, List.append_assoc], e2, e4⟩
  back := fun {x} t h => by
    have h1 := waysT.back (hsB x.2 ++ t) h.1
    have h2 := (waysH 16 (by omega)).back t h.2
    unfold pBr brB
    rw [List.append_assoc, h1]
    show (pHs 16 _).map _ = _
    rw [h2]; rfl
def pRc (bs : List UInt8) : Option (Rc × List UInt8) := (pT 32 bs).bind fun r => (pL 64 pBr r.2).bind fun q => (pHs 4096 q.2).map fun s => ((r.1, (q.1, s.1)), s.2)
/-- A record whose bytes may be read. -/
def RdOk (r : Rc) : Prop := (r.1.length : Int) ≤ 32 ∧ (r.2.1.length ≤ 64 ∧ ∀ p ∈ r.2.1, (p.1.length : Int) ≤ 32 ∧ p.2.length ≤ 16 ∧ All32 p.2) ∧ r.2.2.length ≤ 4096 ∧ All32 r.2.2
theorem waysR : Ways rcB RdOk pRc where
  only := fun {bs x t} h => by
    obtain ⟨⟨s, t0⟩, h1, h2⟩ := Option.bind_eq_some_iff.1 h
    obtain ⟨⟨S, t1⟩, h3, h4⟩ := Option.bind_eq_some_iff.1 h2
    obtain ⟨⟨l, t2⟩, h5, h6⟩ := Option.map_eq_some_iff.1 h4
    cases h6
    obtain ⟨e1, e2⟩ := waysT.only h1
    obtain ⟨e3, e4⟩ := (waysB.list 64 (by omega)).only h3
    obtain ⟨e5, e6⟩ := (waysH 4096 (by omega)).only h5
    simp only at e3 e5
    refine ⟨?_, e2, e4, e6⟩
    simp only [rcB]
    show bs = (textB s ++ (encL brB S ++ hsB l)) ++ _
    rw [e1, e3, e5]; simp only [List.append_assoc]
  back := fun {x} t h => by
    have h1 := waysT.back (brsB x.2.1 ++ (hsB x.2.2 ++ t)) h.1
    have h2 := (waysB.list 64 (by omega)).back (hsB x.2.2 ++ t) h.2.1
    have h3 := (waysH 4096 (by omega)).back t h.2.2
    unfold pRc rcB
    rw [List.append_assoc, List.append_assoc, h1]
    show (pL 64 pBr _).bind _ = _
    rw [show brsB x.2.1 ++ (hsB x.2.2 ++ t) = encL brB x.2.1 ++ (hsB x.2.2 ++ t) from rfl, h2]
    show (pHs 4096 _).map _ = _
    rw [h3]; rfl
def pIx : List UInt8 → Option (List Rc × List UInt8) := pL 64 pRc
theorem waysI : Ways (fun L : List Rc => uintB L.length ++ (L.map rcB).flatten) (fun L => L.length ≤ 64 ∧ ∀ r ∈ L, RdOk r) pIx := waysR.list 64 (by omega)
theorem ROk.rd {r : Rc} (h : ROk r) (h32 : R32 r) : RdOk r := ⟨by have := nmB_len h.nam; omega, ⟨h.brs.few, fun p hp => ⟨by have := nmB_len (h.brs.each p hp).1; omega, mayB_len (h.brs.each p hp).2, h32.brs p hp⟩⟩, h.few, h32.chs⟩
theorem RdOk.r32 {r : Rc} (h : RdOk r) : R32 r := ⟨h.2.2.2, fun p hp => (h.2.1.2 p hp).2.2⟩
/-- Bytes that Get takes, as records. -/
def gOk (raw : List UInt8) (L : List Rc) : Prop := raw.length ≤ 524288 ∧ raw = ixB L ∧ MOk L ∧ ∀ r ∈ L, R32 r
theorem gOk_iff {raw : List UInt8} {L : List Rc} : gOk raw L ↔ raw.length ≤ 524288 ∧ (∃ t, raw = 1 :: t ∧ pIx t = some (L, [])) ∧ MOk L := by
  constructor
  · rintro ⟨h1, rfl, h3, h4⟩
    refine ⟨h1, ⟨_, rfl, ?_⟩, h3⟩
    have := waysI.back (x := L) [] ⟨h3.few, fun r hr => (h3.each r hr).rd (h4 r hr)⟩
    rw [List.append_nil] at this
    exact this
  · rintro ⟨h1, ⟨t, rfl, h2⟩, h3⟩
    obtain ⟨e1, e2⟩ := waysI.only h2
    rw [List.append_nil] at e1
    exact ⟨h1, by rw [e1]; rfl, h3, fun r hr => (e2.2 r hr).r32⟩
theorem gOk_inj {raw : List UInt8} {L M : List Rc} (h : gOk raw L) (k : gOk raw M) : L = M := by
  obtain ⟨_, ⟨t, e, h2⟩, _⟩ := gOk_iff.1 h
  obtain ⟨_, ⟨t', e', k2⟩, _⟩ := gOk_iff.1 k
  rw [e] at e'; cases e'
  rw [h2] at k2; cases k2; rfl
/-- A byte more or less is none. -/
theorem gOk_more {raw s : List UInt8} {L M : List Rc} (h : gOk raw L) (k : gOk (raw ++ s) M) : s = [] := by
  obtain ⟨_, rfl, h3, h4⟩ := h
  obtain ⟨_, ⟨t', e', k2⟩, _⟩ := gOk_iff.1 k
  have := waysI.back (x := L) s ⟨h3.few, fun r hr => (h3.each r hr).rd (h4 r hr)⟩
  cases e'
  have k3 : pIx (uintB L.length ++ (List.map rcB L).flatten ++ s) = some (M, []) := k2
  rw [this] at k3; cases k3; rfl
end Go.Proofs.Ytcmcapcagblafaa
