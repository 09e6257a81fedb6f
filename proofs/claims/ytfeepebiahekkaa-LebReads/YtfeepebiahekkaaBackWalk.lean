/-
  THE WALK OF stemmalaw02.LebBack.
-/
import Derived.Test.YtfeepebiahekkaaAwake
import Derived.Deep.Upon
namespace Go.Proofs.Ytfeepebiahekkaa
open Go.RowKit Leb
theorem Own.fresh (w : World) : Own (w.alloc (.cells #[] 5)) w.heap.size (.slice (some ⟨w.heap.size, 0, none⟩) 0 0) [] :=
  World.ownsRow_made w #[] 0 (Nat.le_refl _) (by decide) rfl
/-- append(own, b...), b a slice whose bytes are known, or nil. -/
theorem wpList_append_any {w : World} {ops : Array Oper} {rest : List Oper} {o : Oper} {a : Act} {Q : Exit → Act → World → Prop} (hgd : o.guard = none) (s x : Operand)
    (ho : o.op = .call { callee := .builtin .append, args := #[s, x], argTypes := #[23, 23] })
    (base : Nat) (v : Value) (bs : List UInt8) (hs : a.eval s = v) (hown : Own w base v bs)
    (ao : Option Addr) (c : Nat) (news : List UInt8) (k : Nat) (hk : news.length = k) (hx : a.eval x = .slice ao k c) (hnews : BytesAt w ao news)
    (hbytes : bs.length + news.length ≤ 140737488355328) (hbase : base ≤ w.heap.size)
    (h : ∀ v' w', Own w' base v' (bs ++ news) → w.grownBy w' v.ownBlock → wpList Try.prog ops Q rest (a.put o.dst v') w') : wpList Try.prog ops Q (o :: rest) a w := by
  subst hk
  cases ao with
  | some ad => exact wpList_append_bytes hgd s x ho base v bs hs hown ad c news hx hnews hbytes hbase h
  | none =>
    obtain rfl : news = [] := Classical.byContradiction fun hn => by obtain ⟨b, o, he, _⟩ := hnews hn; cases he
    rw [List.append_nil] at h
    obtain ⟨i, hi, hz⟩ := Option.map_eq_some_iff.1 bytes5
    simp only [Prod.mk.injEq] at hz
    have hk := h v w hown ⟨rfl, rfl, rfl, Nat.le_refl _, fun _ _ _ => rfl⟩
    obtain ⟨ao', cap', hv, _, hle, _⟩ := hown.at
    refine wpList_plain hgd fun K hK => ?_
    have hr := run_append_nothing (P := Try.prog) w 23 23 o.type 5 i Try.underlying23 hi ao' bs.length cap' hle (.slice none 0 c) (Src.ofNil w Try.underlying23 c)
    unfold Oper.wp execOp
    rw [← hv] at hr
    simp only [List.length_nil] at hx
    simp only [ho, resolve, invoke, builtin, Sem.run_bind, Sem.run_pure, Result.andThen_ok, List.map_toArray, List.map_cons, List.map_nil, hs, hx, hr]
    exact hK _ _ hk
theorem Own.sl {w : World} {base : Nat} {v : Value} {bs : List UInt8} (h : Own w base v bs) (k : Nat) (hk : bs.length = k) : ∃ ao cap, v = .slice ao k cap ∧ BytesAt w ao bs ∧ k ≤ cap := by
  obtain ⟨ao, cap, hv, hb, hc, _⟩ := h.at
  rw [hk] at hv hc
  exact ⟨ao, cap, hv, hb, hc⟩
theorem uint_sl (n k : Nat) (hn : n < 18446744073709551616) (hk : (uintB n).length = k) (w : World) :
    Calls Try.prog 11 #[.int .u64 n] w fun e w' => ∃ ao cap, e = .returned (.slice ao k cap) ∧ BytesAt w' ao (uintB n) ∧ Below w.heap.size w w' := by
  refine (uint_any n hn w).mono ?_
  rintro e w' ⟨v, rfl, ho, hb⟩
  obtain ⟨ao, cap, rfl, hat, _⟩ := ho.sl k hk
  exact ⟨ao, cap, rfl, hat, hb⟩
theorem int_sl (m : Int) (k : Nat) (h0 : -9223372036854775808 ≤ m) (h1 : m ≤ 9223372036854775807) (hk : (intB m).length = k) (w : World) :
    Calls Try.prog 13 #[.int .i64 m] w fun e w' => ∃ ao cap, e = .returned (.slice ao k cap) ∧ BytesAt w' ao (intB m) ∧ Below w.heap.size w w' := by
  refine (int_any m h0 h1 w).mono ?_
  rintro e w' ⟨v, rfl, ho, hb⟩
  obtain ⟨ao, cap, rfl, hat, _⟩ := ho.sl k hk
  exact ⟨ao, cap, rfl, hat, hb⟩
theorem text_sl (s : List UInt8) (k : Nat) (hs : s.length ≤ 140737488351232) (hk : (textB s).length = k) (w : World) :
    Calls Try.prog 15 #[.string (strOf s)] w fun e w' => ∃ ao cap, e = .returned (.slice ao k cap) ∧ BytesAt w' ao (textB s) ∧ Below w.heap.size w w' := by
  refine (text_any s hs w).mono ?_
  rintro e w' ⟨v, rfl, ho, hb⟩
  obtain ⟨ao, cap, rfl, hat, _⟩ := ho.sl k hk
  exact ⟨ao, cap, rfl, hat, hb⟩
theorem getU_back (n k j : Nat) (t : List UInt8) (hn : n < 18446744073709551616) (hk : (uintB n).length = k) (ao : Option Addr) (cap : Nat) (hj : (uintB n ++ t).length = j) (hcap : j ≤ cap) (w : World) (hat : BytesAt w ao (uintB n ++ t)) :
    Calls Try.prog 18 #[.slice ao j cap] w fun e w' => e = .returned (.tuple #[.int .u64 n, .int .i64 k, .int .i64 0]) ∧ Below w.heap.size w w' := by
  obtain ⟨h1, h2, h3⟩ := gu_back n t hn
  subst hj
  exact gu_0 ao cap hcap w hat h3 (by rw [h2, hk]) h1
theorem getI_back (m : Int) (k j : Nat) (t : List UInt8) (h0 : -9223372036854775808 ≤ m) (h1 : m ≤ 9223372036854775807) (hk : (intB m).length = k) (ao : Option Addr) (cap : Nat) (hj : (intB m ++ t).length = j) (hcap : j ≤ cap) (w : World) (hat : BytesAt w ao (intB m ++ t)) :
    Calls Try.prog 20 #[.slice ao j cap] w fun e w' => e = .returned (.tuple #[.int .i64 m, .int .i64 k, .int .i64 0]) ∧ Below w.heap.size w w' := by
  obtain ⟨h1, h2, h3⟩ := gi_back m t h0 h1
  subst hj
  have := getInt_any ao cap _ hcap w hat
  rw [h1, h2, h3, hk] at this
  exact this
theorem getT_back (s t : List UInt8) (k j l : Nat) (hl : s.length = l) (hs : s.length ≤ 140737488351232) (hk : (textB s).length = k) (ao : Option Addr) (cap : Nat) (hj : (textB s ++ t).length = j) (hb : j ≤ 281474976710656) (hcap : j ≤ cap) (w : World) (hat : BytesAt w ao (textB s ++ t)) :
    Calls Try.prog 22 #[.slice ao j cap, .int .i64 l] w fun e w' => e = .returned (.tuple #[.string (strOf s), .int .i64 k, .int .i64 0]) ∧ Below w.heap.size w w' := by
  obtain ⟨h1, h2, h3⟩ := gt_back s t (l : Int) (by omega) (by omega)
  subst hj
  have := getText_any ao cap _ (l : Int) hcap hb (by omega) (by omega) w hat
  rw [h1, h2, h3, hk] at this
  exact this
/-- Behind a row that is the call's own, grown. -/
theorem after_grown {w1 w2 : World} {B : Nat} {row : Option Nat} {w : World} (h : After w w1) (hg : w1.grownBy w2 row) (hB : w.heap.size ≤ B) (hr : ∀ k, row = some k → B ≤ k) : After w w2 :=
  below_grown h hg (fun k hk => by have := hr k hk; omega) h.size
theorem after_alloc {w w1 : World} (h : After w w1) (o : Obj) : After w (w1.alloc o) := Below.alloc h h.size _
set_option maxRecDepth 100000 in
set_option maxHeartbeats 800000 in
theorem back_any (n : Nat) (hn : n < 18446744073709551616) (m : Int) (hm0 : -9223372036854775808 ≤ m) (hm1 : m ≤ 9223372036854775807) (ao : Option Addr) (cap : Nat) (bs : List UInt8) (hcap : bs.length ≤ cap) (hbig : cap ≤ 140737488351232) (w : World) (hat : BytesAt w ao bs) :
    Calls Try.prog 7 #[.int .u64 n, .int .i64 m, .slice ao bs.length cap] w fun e w' => e = .returned (.bool true) ∧ Below w.heap.size w w' := by
  have HAT : Hid (BytesAt w ao bs) := hat
  have hu := uintB_len10 n hn
  have hi := intB_len10 m hm0 hm1
  obtain ⟨ku, hku⟩ : ∃ k, (uintB n).length = k := ⟨_, rfl⟩
  obtain ⟨ki, hki⟩ : ∃ k, (intB m).length = k := ⟨_, rfl⟩
  obtain ⟨l, hl⟩ : ∃ k, bs.length = k := ⟨_, rfl⟩
  have htl : (textB bs).length ≤ l + 10 := by have := uintB_len10 bs.length (by omega); simp [textB]; omega
  obtain ⟨kt, hkt⟩ : ∃ k, (textB bs).length = k := ⟨_, rfl⟩
  rw [hl] at hcap ⊢
  rw [hku] at hu
  rw [hki] at hi
  rw [hkt] at htl
  have HU : Hid ((uintB n).length = ku) := hku
  have HI : Hid ((intB m).length = ki) := hki
  have HL : Hid (bs.length = l) := hl
  have HT : Hid ((textB bs).length = kt) := hkt
  clear hat hku hki hl hkt
  go_enter Try.func7, Try.ntmps7
  go_wp2_with (first
    | (go_at_call 11; refine (uint_sl n ku hn HU.out _).mono ?_; rintro e w1 ⟨a1, c1, rfl, hat1, hb1⟩)
    | (go_at_call 13; refine (int_sl m ki hm0 hm1 HI.out _).mono ?_; rintro e w2 ⟨a2, c2, rfl, hat2, hb2⟩; have hat1' := hat1.after hb2; have B2 : After w w2 := After.trans hb1 hb2; have hat0 : BytesAt w2 ao bs := HAT.out.after B2; clear hb1 hb2 hat1)
    | (at_builtin; refine wpList_append_any rfl (.tmp 23) (.tmp 24) rfl w2.heap.size _ [] rfl (Own.fresh w2) a1 c1 (uintB n) ku HU.out rfl (hat1'.after (after_alloc (After.refl w2) _)) (by rw [HU.out]; simp; omega) (by simp) ?_; intro v4 x4 ho4 hg4; rw [List.nil_append] at ho4; have bx4 : After w2 x4 := after_grown (after_alloc (After.refl w2) _) hg4 (Nat.le_refl _) (fun k hk => (World.ownsRow.lt (Own.fresh w2) k hk).1))
    | (at_builtin; refine wpList_append_any rfl (.tmp 25) (.tmp 26) rfl w2.heap.size v4 (uintB n) rfl ho4 ao cap bs l HL.out rfl (hat0.after bx4) (by rw [HU.out, HL.out]; omega) bx4.size ?_; intro y4 z4 hoo4 hgg4; have bz4 : After w2 z4 := after_grown bx4 hgg4 (Nat.le_refl _) (fun k hk => (World.ownsRow.lt ho4 k hk).1); obtain ⟨a4, c4, rfl, hat4, hc4⟩ := hoo4.sl (ku + l) (by rw [List.length_append, HU.out, HL.out]); clear ho4 hg4 hgg4 hoo4)
    | (go_at_call 18; refine (getU_back n ku (ku + l) bs hn HU.out a4 c4 (by rw [List.length_append, HU.out, HL.out]) hc4 _ hat4).mono ?_; rintro e w5 ⟨rfl, hb5⟩; have b5 : After w2 w5 := After.trans bz4 hb5; have hat05 := hat0.after b5; have hat15 := hat1'.after b5; have hat25 := hat2.after b5; have B5 : After w w5 := After.trans B2 b5; clear hat4 bx4 bz4 hb5 b5 hat0 hat1' hat2 B2)
    | (at_builtin; refine wpList_append_any rfl (.tmp 33) (.tmp 34) rfl w5.heap.size _ [] rfl (Own.fresh w5) a2 c2 (intB m) ki HI.out rfl (hat25.after (after_alloc (After.refl w5) _)) (by rw [HI.out]; simp; omega) (by simp) ?_; intro v6 x6 ho6 hg6; rw [List.nil_append] at ho6; have bx6 : After w5 x6 := after_grown (after_alloc (After.refl w5) _) hg6 (Nat.le_refl _) (fun k hk => (World.ownsRow.lt (Own.fresh w5) k hk).1))
    | (at_builtin; refine wpList_append_any rfl (.tmp 35) (.tmp 36) rfl w5.heap.size v6 (intB m) rfl ho6 ao cap bs l HL.out rfl (hat05.after bx6) (by rw [HI.out, HL.out]; omega) bx6.size ?_; intro y6 z6 hoo6 hgg6; have bz6 : After w5 z6 := after_grown bx6 hgg6 (Nat.le_refl _) (fun k hk => (World.ownsRow.lt ho6 k hk).1); obtain ⟨a6, c6, rfl, hat6, hc6⟩ := hoo6.sl (ki + l) (by rw [List.length_append, HI.out, HL.out]); clear ho6 hg6 hgg6 hoo6)
    | (go_at_call 20; refine (getI_back m ki (ki + l) bs hm0 hm1 HI.out a6 c6 (by rw [List.length_append, HI.out, HL.out]) hc6 _ hat6).mono ?_; rintro e w7 ⟨rfl, hb7⟩; have b7 : After w5 w7 := After.trans bz6 hb7; have hat07 := hat05.after b7; have hat17 := hat15.after b7; have B7 : After w w7 := After.trans B5 b7; clear hat6 bx6 bz6 hb7 b7 hat05 hat15 hat25 B5; have hcv7 : ∀ W, After w7 W → (convert 23 9 (.slice ao l cap)).run Try.prog W = .ok (.string (strOf bs)) W := fun W hW => (by have := conv_at cap (hat07.after hW); rwa [HL.out] at this); have hcv := hcv7 _ (after_alloc (After.refl w7) (.cells #[] 5)))
    | (go_at_call 15; refine (text_sl bs kt (by rw [HL.out]; omega) HT.out _).mono ?_; rintro e w8 ⟨a8, d8, rfl, hat8, hb8⟩; clear hcv; have ho8 : Own w8 w7.heap.size (.slice (some ⟨w7.heap.size, 0, none⟩) 0 0) [] := Own.below (Own.fresh w7) hb8 (Nat.le_refl _); have b8 : After w7 w8 := After.trans (after_alloc (After.refl w7) _) hb8)
    | (at_builtin; refine wpList_append_any rfl (.tmp 43) (.tmp 46) rfl w7.heap.size _ [] rfl ho8 a8 d8 (textB bs) kt HT.out rfl hat8 (by rw [HT.out]; simp; omega) b8.size ?_; intro v9 x9 ho9 hg9; rw [List.nil_append] at ho9; have bx9 : After w7 x9 := after_grown b8 hg9 (Nat.le_refl _) (fun k hk => (World.ownsRow.lt ho8 k hk).1))
    | (at_builtin; refine wpList_append_any rfl (.tmp 47) (.tmp 48) rfl w7.heap.size v9 (textB bs) rfl ho9 a1 c1 (uintB n) ku HU.out rfl (hat17.after bx9) (by rw [HT.out, HU.out]; omega) bx9.size ?_; intro y9 z9 hoo9 hgg9; have bz9 : After w7 z9 := after_grown bx9 hgg9 (Nat.le_refl _) (fun k hk => (World.ownsRow.lt ho9 k hk).1); obtain ⟨a9, c9, rfl, hat9, hc9⟩ := hoo9.sl (kt + ku) (by rw [List.length_append, HT.out, HU.out]); clear ho8 hat8 ho9 hg9 hgg9 hoo9)
    | (go_at_call 22; refine (getT_back bs (uintB n) kt (kt + ku) l HL.out (by rw [HL.out]; omega) HT.out a9 c9 (by rw [List.length_append, HT.out, HU.out]) (by omega) hc9 _ hat9).mono ?_; rintro e w10 ⟨rfl, hb10⟩; have b10 : After w7 w10 := After.trans bz9 hb10; have B10 : After w w10 := After.trans B7 b10; have hcv := hcv7 w10 b10; clear hcv7 hat9 bx9 bz9 hb10 hat17 hat07)
    | (go_at_call 15; refine (text_sl bs kt (by rw [HL.out]; omega) HT.out _).mono ?_; rintro e w11 ⟨a11, c11, rfl, hat11, hb11⟩; have B11 : After w w11 := After.trans B10 hb11)
    | (go_at_call 17; refine (awake_any _).mono ?_; rintro e w12 ⟨rfl, hb12⟩; have B12 : After w w12 := After.trans B11 hb12))
  go_ret
  exact ⟨rfl, B12⟩
end Go.Proofs.Ytfeepebiahekkaa
