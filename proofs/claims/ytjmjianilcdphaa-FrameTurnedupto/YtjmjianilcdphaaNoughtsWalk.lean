/-
  THE WALK OF stemmalaw04.FrameNoughts.
-/
import Derived.Test.YtjmjianilcdphaaScanBack
namespace Go.Proofs.Ytjmjianilcdphaa
open Go.RowKit Leb
theorem sizes_ge : ∀ ps : List (UInt8 × List UInt8), 4 * ps.length ≤ sizes ps
  | [] => by simp [sizes]
  | p :: ps => by have := sizes_ge ps; rw [sizes_cons, List.length_cons]; omega
/-- append(own, make([]byte, n)...). -/
theorem wpList_append_zs {w : World} {ops : Array Oper} {rest : List Oper} {o : Oper} {a : Act} {Q : Exit → Act → World → Prop} (hgd : o.guard = none) (s x : Operand)
    (ho : o.op = .call { callee := .builtin .append, args := #[s, x], argTypes := #[22, 3] })
    (base : Nat) (v : Value) (bs : List UInt8) (hs : a.eval s = v) (hown : Own w base v bs) (n : Nat) (hn : n ≤ 255) (hx : a.eval x = .int .i64 (n : Int))
    (hbytes : bs.length ≤ 16777216) (hbase : base ≤ w.heap.size)
    (h : ∀ v' w', Own w' base v' (bs ++ zs n) → w.grownBy w' v.ownBlock → wpList Try.prog ops Q rest (a.put o.dst v') w') : wpList Try.prog ops Q (o :: rest) a w := by
  obtain ⟨i, hi, hz⟩ := Option.map_eq_some_iff.1 bytes5
  simp only [Prod.mk.injEq] at hz
  obtain ⟨hz, hsz, hby⟩ := hz
  refine wpList_plain hgd fun K hK => ?_
  obtain ⟨v', w', hr, h2, h3, _⟩ := Lib.run_append_own_string (P := Try.prog) w base 22 9 o.type 5 i Try.underlying22 Try.underlying9 hi hz hsz hby v bs.length (c8 bs) hown (strOf (zs n)) (by rw [strOf_size, zs_len]; unfold maxLen; omega) (by rw [strOf_size, zs_len]; omega) hbase
  obtain ⟨ao, cap, hv, _, _, _⟩ := Own.at hown
  have hq := append_zs w o.type ao bs.length cap n hn hbytes
  rw [← hv] at hq
  rw [hr] at hq
  rw [strOf_size, strCells_of, ← c8_append, ← List.length_append] at h2
  unfold Oper.wp execOp
  simp only [ho, resolve, invoke, builtin, Sem.run_bind, Sem.run_pure, Result.andThen_ok, List.map_toArray, List.map_cons, List.map_nil, hs, hx, hq]
  exact hK _ _ (h v' w' h2 h3)
set_option maxRecDepth 100000 in
set_option maxHeartbeats 1600000 in
theorem noughts_any (ao : Option Addr) (cap : Nat) (ps : List (UInt8 × List UInt8)) (hn : ps.length ≤ 1048576) (hps : ∀ p ∈ ps, p.2.length ≤ 1048576) (hbig : (laidB ps).length ≤ 4194000) (z : Nat) (hz : z ≤ 255) (w : World) (hat : PiecesIn w ao ps) :
    Calls Try.prog 8 #[.slice ao ps.length cap, .int .u8 (z : Int)] w fun e w' => e = .returned (.bool true) ∧ Below w.heap.size w w' := by
  have HAT : Hid (PiecesIn w ao ps) := hat
  have C19 := show Hid _ from laid_any ao cap ps hn hps (by omega) w hat
  have hsc := scan_laid ps (zs z) hps
  rw [scan_zs] at hsc
  simp only [List.append_nil, Nat.add_zero] at hsc
  have C20 := show Hid _ from fun a1 c1 W h1 h2 => whole_any a1 ao c1 cap ps ps.length (Nat.le_refl _) hn W (by rw [List.take_length]; exact h1) h2
  obtain ⟨B, hB⟩ : ∃ B, laidB ps = B := ⟨_, rfl⟩
  obtain ⟨E, hE⟩ : ∃ E : Nat, (if z = 0 then 0 else 4) = E := ⟨_, rfl⟩
  obtain ⟨n, hn'⟩ : ∃ n, ps.length = n := ⟨_, rfl⟩
  obtain ⟨L, hL⟩ : ∃ n, B.length = n := ⟨_, rfl⟩
  have hE1 : (z = 0 ∧ E = 0) ∨ (¬ z = 0 ∧ E = 4) := by rw [← hE]; by_cases h : z = 0 <;> simp [h]
  rw [hB, hE] at hsc
  rw [hL] at hsc
  rw [hB, hL] at hbig
  rw [hB] at C19
  have C16 : Hid (∀ (a : Option Addr) (c : Nat) (W : World), L + z ≤ c → BytesAt W a (B ++ zs z) → Calls Try.prog 16 #[.slice a (L + z) c] W (SPost 33 W (norm ps, L, E))) := fun a c W hc h => by
    have hl : (B ++ zs z).length = L + z := by rw [List.length_append, hL, zs_len]
    have := scan_any a c (B ++ zs z) (by rw [hl]; exact hc) (by rw [hl]; omega) W h (fun h0 => by subst h0; rw [bytesAt_none h]; rfl)
    rwa [hl, hsc] at this
  have HNL : Hid ((norm ps).length = n) := (by unfold Hid norm; rw [List.length_map]; exact hn')
  unfold SPost at C16
  simp only at C16
  rw [hn'] at C19 C20 hn ⊢
  have HL : Hid (B.length = L) := hL
  obtain ⟨F, hF⟩ : ∃ F, norm ps = F := ⟨_, rfl⟩
  rw [hF] at C16 HNL C20
  clear hat hsc hB hE hn' hL hps hF
  rcases hE1 with ⟨hz0, hE0⟩ | ⟨hz0, hE0⟩
  · subst hz0 hE0
    go_enter Try.func8, Try.ntmps8
    go_wp2_with (first
      | (go_at_call 19; refine Calls.mono C19.out ?_; rintro e w1 ⟨v1, ve1, rfl, ho1, hoe, hb1⟩; obtain ⟨a1, c1, hv1, hat1, _, _⟩ := Own.at ho1; obtain ⟨a0, c0, hv0, _, _⟩ := OwnN.at hoe; rw [HL.out] at hv1; subst hv1; subst hv0; have HT1 : Hid (BytesAt w1 a1 B) := hat1; have B1 : Hid (After w w1) := hb1; clear ho1 hb1 hat1 hoe)
      | (at_builtin; refine wpList_append_zs rfl _ _ rfl w1.heap.size _ B rfl HO3.out 0 (by omega) rfl (by have := HL.out; omega) A13.out.size ?_; intro v4 w4 ho4 hg4; have A14 : Hid (After w1 w4) := after_grown A13.out hg4 (Nat.le_refl _) (fun k hk => (World.ownsRow.lt HO3.out k hk).1); obtain ⟨a4, c4, hv4, hat4, hc4, _⟩ := Own.at ho4; rw [List.length_append, HL.out, zs_len] at hv4 hc4; subst hv4; have HT4 : Hid (BytesAt w4 a4 (B ++ zs 0)) := hat4; have HC4 : Hid (L + 0 ≤ c4) := hc4; clear ho4 hg4 hat4 hc4)
      | (at_builtin; refine wpList_append_any rfl _ _ rfl w1.heap.size _ [] rfl (Own.fresh w1) a1 c1 B L HL.out rfl (HT1.out.after (after_alloc (After.refl w1) _)) (by have := HL.out; simp; omega) (by simp) ?_; intro v3 w3 ho3 hg3; rw [List.nil_append] at ho3; have HO3 : Hid (Own w3 w1.heap.size v3 B) := ho3; have A13 : Hid (After w1 w3) := after_grown (after_alloc (After.refl w1) _) hg3 (Nat.le_refl _) (fun k hk => (World.ownsRow.lt (Own.fresh w1) k hk).1); clear ho3 hg3)
      | (go_at_call 16; refine (C16.out a4 c4 w4 HC4.out HT4.out).mono ?_; rintro e w5 ⟨v5, rfl, ho5, hb5⟩; obtain ⟨a5, c5, hv5, hf5⟩ := OwnF.at ho5; rw [HNL.out] at hv5; subst hv5; have HF5 : Hid (FramesAt w5 a5 F) := hf5; have B5 : Hid (After w w5) := After.trans B1.out (After.trans A14.out hb5); clear ho5 hb5 hf5)
      | (go_at_call 20; refine (C20.out a5 c5 w5 HF5.out (HAT.out.after B5.out)).mono ?_; rintro e w6 ⟨rfl, hb6⟩; have B6 : Hid (After w w6) := After.trans B5.out hb6; clear hb6)
      | (go_at_call 13; refine (awake_any _).mono ?_; rintro e w7 ⟨rfl, hb7⟩; have B7 : Hid (After w w7) := After.trans B6.out hb7; clear hb7))
    go_ret
    exact ⟨rfl, B7.out⟩
  · subst hE0
    have hzz : ((z : Int) == 0) = false := by simp; omega
    go_enter Try.func8, Try.ntmps8
    go_wp2_with (first
      | (go_at_call 19; refine Calls.mono C19.out ?_; rintro e w1 ⟨v1, ve1, rfl, ho1, hoe, hb1⟩; obtain ⟨a1, c1, hv1, hat1, _, _⟩ := Own.at ho1; obtain ⟨a0, c0, hv0, _, _⟩ := OwnN.at hoe; rw [HL.out] at hv1; subst hv1; subst hv0; have HT1 : Hid (BytesAt w1 a1 B) := hat1; have B1 : Hid (After w w1) := hb1; clear ho1 hb1 hat1 hoe)
      | (at_builtin; refine wpList_append_zs rfl _ _ rfl w1.heap.size _ B rfl HO3.out z hz rfl (by have := HL.out; omega) A13.out.size ?_; intro v4 w4 ho4 hg4; have A14 : Hid (After w1 w4) := after_grown A13.out hg4 (Nat.le_refl _) (fun k hk => (World.ownsRow.lt HO3.out k hk).1); obtain ⟨a4, c4, hv4, hat4, hc4, _⟩ := Own.at ho4; rw [List.length_append, HL.out, zs_len] at hv4 hc4; subst hv4; have HT4 : Hid (BytesAt w4 a4 (B ++ zs z)) := hat4; have HC4 : Hid (L + z ≤ c4) := hc4; clear ho4 hg4 hat4 hc4)
      | (at_builtin; refine wpList_append_any rfl _ _ rfl w1.heap.size _ [] rfl (Own.fresh w1) a1 c1 B L HL.out rfl (HT1.out.after (after_alloc (After.refl w1) _)) (by have := HL.out; simp; omega) (by simp) ?_; intro v3 w3 ho3 hg3; rw [List.nil_append] at ho3; have HO3 : Hid (Own w3 w1.heap.size v3 B) := ho3; have A13 : Hid (After w1 w3) := after_grown (after_alloc (After.refl w1) _) hg3 (Nat.le_refl _) (fun k hk => (World.ownsRow.lt (Own.fresh w1) k hk).1); clear ho3 hg3)
      | (go_at_call 16; refine (C16.out a4 c4 w4 HC4.out HT4.out).mono ?_; rintro e w5 ⟨v5, rfl, ho5, hb5⟩; obtain ⟨a5, c5, hv5, hf5⟩ := OwnF.at ho5; rw [HNL.out] at hv5; subst hv5; have HF5 : Hid (FramesAt w5 a5 F) := hf5; have B5 : Hid (After w w5) := After.trans B1.out (After.trans A14.out hb5); clear ho5 hb5 hf5)
      | (go_at_call 20; refine (C20.out a5 c5 w5 HF5.out (HAT.out.after B5.out)).mono ?_; rintro e w6 ⟨rfl, hb6⟩; have B6 : Hid (After w w6) := After.trans B5.out hb6; clear hb6)
      | (go_at_call 13; refine (awake_any _).mono ?_; rintro e w7 ⟨rfl, hb7⟩; have B7 : Hid (After w w7) := After.trans B6.out hb7; clear hb7))
    go_ret
    exact ⟨rfl, B7.out⟩
end Go.Proofs.Ytjmjianilcdphaa
