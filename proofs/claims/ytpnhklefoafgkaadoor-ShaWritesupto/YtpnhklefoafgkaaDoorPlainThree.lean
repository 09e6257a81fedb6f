/-
  PLAIN MATHEMATICS FOR LAYER 1 (sha): a hasher (state, waiting bytes, how many were written) that takes bytes one by one, or as many as fit. No program is named.
-/
import Derived.Test.YtpnhklefoafgkaaDoorPlainTwo
namespace Go.Proofs.YtpnhklefoafgkaaDoor.Sha
open Go
structure Hs where
  st : St
  part : List UInt8
  n : Nat
def hcs (h : Hs) : List Value := c32 h.st.list ++ (c8 h.part ++ [.int .i64 (h.n : Int)])
theorem list_len (s : St) : s.list.length = 8 := rfl
theorem hcs_len (h : Hs) (hp : h.part.length = 64) : (hcs h).length = 73 := by simp [hcs, c32_len, c8_len, list_len, hp]
theorem hcs_n (h : Hs) (hp : h.part.length = 64) : (hcs h)[72]? = some (.int .i64 (h.n : Int)) := by
  unfold hcs
  rw [List.getElem?_append_right (by simp [c32_len, list_len]), List.getElem?_append_right (by simp [c32_len, c8_len, list_len, hp])]
  simp [c32_len, c8_len, list_len, hp]
def chunk (part : List UInt8) (off : Nat) (xs : List UInt8) : List UInt8 := part.take off ++ xs ++ part.drop (off + xs.length)
theorem chunk_len (part : List UInt8) (off : Nat) (xs : List UInt8) (h : off + xs.length ≤ part.length) : (chunk part off xs).length = part.length := by
  simp [chunk]; omega
theorem chunk_nil (part : List UInt8) (off : Nat) : chunk part off [] = part := by simp [chunk]
theorem chunk_cons (part : List UInt8) (off : Nat) (x : UInt8) (xs : List UInt8) (h : off < part.length) : chunk (part.set off x) (off + 1) xs = chunk part off (x :: xs) := by
  unfold chunk
  rw [List.take_set, List.drop_set_of_lt (by omega)]
  have e : (List.take (off + 1) part).set off x = List.take off part ++ [x] := by
    apply List.ext_getElem?
    intro i
    rw [List.getElem?_set]
    by_cases h1 : off = i
    · subst h1
      rw [if_pos rfl, if_pos (by simp; omega), List.getElem?_append_right (by simp; omega)]
      simp [Nat.min_eq_left (Nat.le_of_lt h)]
    · rw [if_neg h1]
      rcases Nat.lt_or_ge i off with h2 | h2
      · rw [List.getElem?_append_left (by simp; omega), List.getElem?_take, List.getElem?_take, if_pos (by omega), if_pos h2]
      · rw [List.getElem?_append_right (by simp; omega), List.getElem?_take, if_neg (by omega), List.getElem?_eq_none (by simp; omega)]
  rw [e]
  simp [Nat.add_comm, Nat.add_left_comm]
/-- One byte more. -/
def put (h : Hs) (b : UInt8) : Hs := ⟨if (h.n + 1) % 64 = 0 then mix h.st (h.part.set (h.n % 64) b) else h.st, h.part.set (h.n % 64) b, h.n + 1⟩
def feed (h : Hs) (l : List UInt8) : Hs := l.foldl put h
theorem feed_nil (h : Hs) : feed h [] = h := rfl
theorem feed_append (h : Hs) (a b : List UInt8) : feed h (a ++ b) = feed (feed h a) b := by simp [feed]
theorem feed_n (l : List UInt8) : ∀ h : Hs, (feed h l).n = h.n + l.length := by
  induction l with
  | nil => intro h; rfl
  | cons x xs ih => intro h; show (feed (put h x) xs).n = _; rw [ih]; simp [put]; omega
theorem feed_part (l : List UInt8) : ∀ h : Hs, (feed h l).part.length = h.part.length := by
  induction l with
  | nil => intro h; rfl
  | cons x xs ih => intro h; show (feed (put h x) xs).part.length = _; rw [ih]; simp [put]
theorem feed_chunk (xs : List UInt8) : ∀ h : Hs, h.part.length = 64 → xs ≠ [] → xs.length ≤ 64 - h.n % 64 →
    feed h xs = ⟨if (h.n + xs.length) % 64 = 0 then mix h.st (chunk h.part (h.n % 64) xs) else h.st, chunk h.part (h.n % 64) xs, h.n + xs.length⟩ := by
  induction xs with
  | nil => intro h _ hne; exact absurd rfl hne
  | cons x xs ih =>
    intro h hp _ hl
    have hoff : h.n % 64 < h.part.length := by rw [hp]; omega
    have hc := chunk_cons h.part (h.n % 64) x xs hoff
    show feed (put h x) xs = _
    cases xs with
    | nil =>
      rw [chunk_nil] at hc
      rw [← hc]; rfl
    | cons y ys =>
      simp only [List.length_cons] at hl
      have h1 : ¬ (h.n + 1) % 64 = 0 := by omega
      have e : put h x = ⟨h.st, h.part.set (h.n % 64) x, h.n + 1⟩ := by unfold put; rw [if_neg h1]
      rw [e, ih _ (by simpa using hp) (by simp) (by simp only [List.length_cons]; omega)]
      have h2 : (h.n + 1) % 64 = h.n % 64 + 1 := by omega
      simp only [h2, hc, List.length_cons, show h.n + 1 + (ys.length + 1) = h.n + (ys.length + 1 + 1) by omega]
end Go.Proofs.YtpnhklefoafgkaaDoor.Sha
