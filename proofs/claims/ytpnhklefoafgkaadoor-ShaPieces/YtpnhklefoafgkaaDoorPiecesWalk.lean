/-
  THE WALK OF stemmalaw01.ShaPieces.
-/
import Derived.Test.YtpnhklefoafgkaaDoorSame
namespace Go.Proofs.YtpnhklefoafgkaaDoor
open Go.RowKit Sha
theorem sliceHi (a : Option Addr) (len cap k : Nat) (hk : k ≤ cap) (W : World) : (Instr.sliceAt 22 (.slice a len cap) none (some (.int .i64 (k : Int))) none).run Tryd.prog W = .ok (.slice a k cap) W := by
  obtain ⟨i, hi, hz⟩ := Option.map_eq_some_iff.1 bytes5
  simp only [Prod.mk.injEq] at hz
  obtain ⟨_, hsz, _⟩ := hz
  have h0 : ∀ x : Addr, x.add 0 = x := fun x => by unfold Addr.add; simp
  have h1 : a.map (·.add 0) = a := by cases a <;> simp [h0]
  by_cases h2 : cap = 0
  · simp [Instr.sliceAt, Instr.slice, run_underlying Tryd.underlying22, Instr.sliceBounds, Instr.sliceBound, asIntOf, sizeOf, typeInfo, hi, h2]
    omega
  · simp [Instr.sliceAt, Instr.slice, run_underlying Tryd.underlying22, Instr.sliceBounds, Instr.sliceBound, asIntOf, sizeOf, typeInfo, hi, h2, h1]
    intro h; omega
theorem sliceLo (a : Option Addr) (len cap k : Nat) (hk : k ≤ len) (hc : len ≤ cap) : ∃ ao : Option Addr, (∀ b o, a = some ⟨b, o, none⟩ → k < len → ao = some ⟨b, o + k, none⟩) ∧
    ∀ W : World, (Instr.sliceAt 22 (.slice a len cap) (some (.int .i64 (k : Int))) none none).run Tryd.prog W = .ok (.slice ao (len - k) (cap - k)) W := by
  obtain ⟨i, hi, hz⟩ := Option.map_eq_some_iff.1 bytes5
  simp only [Prod.mk.injEq] at hz
  obtain ⟨_, hsz, _⟩ := hz
  refine ⟨if cap = k then a else a.map (·.add k), fun b o he h => ?_, fun W => ?_⟩
  · rw [if_neg (by omega), he]; simp [Addr.add_mid]
  · by_cases h2 : cap = k
    · simp [Instr.sliceAt, Instr.slice, run_underlying Tryd.underlying22, Instr.sliceBounds, Instr.sliceBound, asIntOf, sizeOf, typeInfo, hi, h2]
      intro h; omega
    · simp [Instr.sliceAt, Instr.slice, run_underlying Tryd.underlying22, Instr.sliceBounds, Instr.sliceBound, asIntOf, sizeOf, typeInfo, hi, hsz, h2]
      intro h; omega
def PRel (w w1 : World) (g : Nat) (h : Hs) : Prop := w.heap.size ≤ g ∧ Below w.heap.size w w1 ∧ RowIs w1 g 56 (hcs h)
theorem PRel.tab {w w1 : World} {g : Nat} {h : Hs} (t : PRel w w1 g h) (ht : Tab w) : Tab w1 := ht.below t.2.1 ht.1
theorem PRel.ne0 {w w1 : World} {g : Nat} {h : Hs} (t : PRel w w1 g h) (ht : Tab w) : 0 ≠ g := by have := t.1; have := ht.1; omega
theorem PRel.but {w w1 w2 : World} {g : Nat} {h h' : Hs} (t : PRel w w1 g h) (hb : But g w1 w2) (hr : RowIs w2 g 56 (hcs h')) : PRel w w2 g h' :=
  ⟨t.1, t.2.1.trans (hb.below t.1 t.2.1.size), hr⟩
theorem PRel.more {w w1 w2 : World} {g : Nat} {h : Hs} (t : PRel w w1 g h) (hb : Below w1.heap.size w1 w2) : PRel w w2 g h :=
  ⟨t.1, t.2.1.trans (hb.mono t.2.1.size), t.2.2.below hb t.2.2.lt⟩
theorem PRel.bytes {w w1 : World} {g : Nat} {h : Hs} {ao : Option Addr} {bs : List UInt8} (t : PRel w w1 g h) (hb : BytesAt w ao bs) (ha : bs ≠ [] → ∀ b o, ao = some ⟨b, o, none⟩ → b < w.heap.size) : BytesAt w1 ao bs := fun hne => by
  obtain ⟨b, o, he, hc⟩ := hb hne
  exact ⟨b, o, he, fun j hj => by rw [t.2.1.cell (p := ⟨b, o + j, none⟩) (ha hne b o he)]; exact hc j hj⟩
theorem BytesAt.take {w : World} {ao : Option Addr} {bs : List UInt8} (h : BytesAt w ao bs) (k : Nat) : BytesAt w ao (bs.take k) := fun hne => by
  obtain ⟨b, o, he, hc⟩ := h (fun e => hne (by rw [e]; simp))
  refine ⟨b, o, he, fun j hj => ?_⟩
  simp only [List.length_take] at hj
  rw [hc j (by omega)]
  have h1 : j < k := by omega
  simp [h1]
theorem BytesAt.drop {w : World} {ao ao' : Option Addr} {bs : List UInt8} (h : BytesAt w ao bs) (k : Nat) (ha : ∀ b o, ao = some ⟨b, o, none⟩ → k < bs.length → ao' = some ⟨b, o + k, none⟩) : BytesAt w ao' (bs.drop k) := fun hne => by
  have hk : k < bs.length := by
    rcases Nat.lt_or_ge k bs.length with h | h
    · exact h
    · exact absurd (List.drop_eq_nil_of_le h) hne
  obtain ⟨b, o, he, hc⟩ := h (fun e => by rw [e] at hk; simp at hk)
  refine ⟨b, o + k, ha b o he hk, fun j hj => ?_⟩
  simp only [List.length_drop] at hj
  rw [Nat.add_assoc, hc (k + j) (by omega)]
  simp
set_option maxRecDepth 100000 in
set_option maxHeartbeats 800000 in
theorem pieces_any (ao : Option Addr) (bs : List UInt8) (cap : Nat) (n : Int) (hn : 0 ≤ n ∧ n ≤ 65535) (w : World) (ht : Tab w) (hcap : bs.length ≤ cap) (hcap2 : cap ≤ 140737488351232) (hb : BytesAt w ao bs)
    (hap : bs ≠ [] → ∀ b o, ao = some ⟨b, o, none⟩ → b < w.heap.size) :
    Calls Tryd.prog 7 #[.slice ao bs.length cap, .int .u16 n] w fun e w' => e = .returned (.bool true) ∧ Below w.heap.size w w' := by
  obtain ⟨k, hk, Hk⟩ : ∃ k : Nat, n % ((bs.length : Int) + 1) = (k : Int) ∧ Hid (k ≤ bs.length) := by
    have h1 := Int.emod_nonneg n (show (bs.length : Int) + 1 ≠ 0 by omega)
    have h2 := Int.emod_lt_of_pos n (show (0 : Int) < (bs.length : Int) + 1 by omega)
    exact ⟨(n % ((bs.length : Int) + 1)).toNat, by omega, by unfold Hid; omega⟩
  have hkl := Hk.out
  have hhi := fun W => sliceHi ao bs.length cap k (by omega) W
  obtain ⟨ao2, ha2, hlo⟩ := sliceLo ao bs.length cap k hkl hcap
  have heq : ∀ W : World, (Op.equalIn 10000 24 (.agg (c8 (sumOf (feed newHs bs))).toArray) (.agg (c8 (sumP bs)).toArray)).run Tryd.prog W = .ok true W := fun W => by
    have := eq24 (sumP bs) (sumP bs) (sumP_len _) (sumP_len _) W
    rw [decide_eq_true rfl] at this
    exact this
  have HT : Hid (Tab w) := ht
  have HB : Hid (BytesAt w ao bs) := hb
  have HA : Hid (bs ≠ [] → ∀ b o, ao = some ⟨b, o, none⟩ → b < w.heap.size) := hap
  have H2 := show Hid _ from ha2
  have HF : Hid (feed (feed (feed newHs (bs.take k)) []) (bs.drop k) = feed newHs bs) := by
    unfold Hid; rw [feed_nil, ← feed_append, List.take_append_drop]
  obtain ⟨n1, n2⟩ := hn
  clear ht hb hap ha2
  go_enter Tryd.func7, Tryd.ntmps7
  go_wp2_with (first
    | (go_at_call 13; refine (new_any _).mono ?_; rintro e w1 ⟨g, rfl, hg, hb1, hr1⟩; have R1 : Hid (PRel w w1 g newHs) := ⟨hg, hb1, hr1⟩; clear hg hb1 hr1))
  go_wp2_with fail
  refine (write_any g newHs newHs_part ao (bs.take k) k cap ?_ ?_ _ (R1.out.tab HT.out) (R1.out.ne0 HT.out) R1.out.2.2 (R1.out.bytes (HB.out.take k) ?_) ?_ ?_).mono ?_
  · simp; exact (Nat.min_eq_left Hk.out).symm
  · have := Hk.out; omega
  · intro hne b o he; exact HA.out (fun e => hne (by rw [e]; simp)) b o he
  · intro hne b o he; have := HA.out (fun e => hne (by rw [e]; simp)) b o he; have := R1.out.1; omega
  · show 0 + _ < _; simp; omega
  rintro e w2 ⟨rfl, hb2, hr2⟩
  have R2 : Hid (PRel w w2 g (feed newHs (bs.take k))) := R1.out.but hb2 hr2
  clear hb2 hr2
  go_wp2_with fail
  refine (write_any g (feed newHs (bs.take k)) (by rw [feed_part]; rfl) none [] 0 0 rfl (Nat.le_refl _) _ (R2.out.tab HT.out) (R2.out.ne0 HT.out) R2.out.2.2 (fun h => absurd rfl h) (fun h => absurd rfl h) ?_).mono ?_
  · rw [feed_n]; show 0 + _ + 0 < _; simp; omega
  rintro e w3 ⟨rfl, hb3, hr3⟩
  have R3 : Hid (PRel w w3 g (feed (feed newHs (bs.take k)) [])) := R2.out.but hb3 hr3
  clear hb3 hr3
  go_wp2_with fail
  refine (write_any g (feed (feed newHs (bs.take k)) []) (by rw [feed_part, feed_part]; rfl) ao2 (bs.drop k) (bs.length - k) (cap - k) ?_ ?_ _ (R3.out.tab HT.out) (R3.out.ne0 HT.out) R3.out.2.2 ((R3.out.bytes HB.out HA.out).drop k H2.out) ?_ ?_).mono ?_
  · simp
  · omega
  · intro hne b o he
    have hkk : k < bs.length := by
      rcases Nat.lt_or_ge k bs.length with h | h
      · exact h
      · exact absurd (List.drop_eq_nil_of_le h) hne
    have hbs : bs ≠ [] := fun e => by rw [e] at hkk; simp at hkk
    obtain ⟨b', o', he', _⟩ := HB.out hbs
    have h3 := H2.out b' o' he' hkk
    rw [h3] at he
    cases he
    have := HA.out hbs b o' he'
    have := R3.out.1
    omega
  · rw [feed_n, feed_n]; show 0 + _ + 0 + _ < _; simp; omega
  rintro e w4 ⟨rfl, hb4, hr4⟩
  rw [HF.out] at hr4
  have R4 : Hid (PRel w w4 g (feed newHs bs)) := R3.out.but hb4 hr4
  clear hb4 hr4
  have hfn : (feed newHs bs).n = bs.length := by rw [feed_n]; exact Nat.zero_add _
  go_wp2_with (first
    | (go_at_call 15; refine (hsum_any g (feed newHs bs) (by rw [feed_part]; rfl) _ (R4.out.tab HT.out) R4.out.2.2 (by rw [feed_n]; show 0 + _ < _; omega)).mono ?_; rintro e w5 ⟨rfl, hb5⟩; have R5 : Hid (PRel w w5 g (feed newHs bs)) := R4.out.more hb5; clear hb5)
    | (go_at_call 10; refine (sum_any ao bs bs.length cap rfl hcap _ (R5.out.tab HT.out) (R5.out.bytes HB.out HA.out) ?_ (by omega)).mono ?_; (intro hne b o he; have := HA.out hne b o he; have := R5.out.2.1.size; omega); rintro e w6 ⟨rfl, hb6⟩; have R6 : Hid (PRel w w6 g (feed newHs bs)) := R5.out.more hb6; clear hb6)
    | (go_at_call 16; refine (len_any g (feed newHs bs) (by rw [feed_part]; rfl) _ R6.out.2.2).mono ?_; rintro e w' ⟨rfl, rfl⟩)
    | (go_at_call 12; refine (awake_any _ (R6.out.tab HT.out)).mono ?_; rintro e w7 ⟨rfl, hb7⟩))
  go_ret
  exact ⟨rfl, R6.out.2.1.trans (hb7.mono R6.out.2.1.size)⟩
end Go.Proofs.YtpnhklefoafgkaaDoor
