/-
  THE WALK OF stemmalaw04.FrameTurned.
-/
import Derived.Test.YtjmjianilcdphaaTurnPlain
namespace Go.Proofs.Ytjmjianilcdphaa
open Go.RowKit Leb
theorem wrap_u8 (n : Nat) (h : n < 256) : IntKind.u8.wrap (n : Int) = n := by simp [IntKind.wrap, IntKind.bits, IntKind.signed]; omega
theorem xor8 (y b : UInt8) : bits .xor .u8 (y.toNat : Int) (b.toNat : Int) = ((y ^^^ b).toNat : Int) := by
  have h : ∀ x : UInt8, BitVec.ofInt 8 (x.toNat : Int) = x.toBitVec := fun x => by
    apply BitVec.eq_of_toNat_eq
    simp
  show IntKind.u8.wrap (((BitVec.ofInt 8 (y.toNat : Int) ^^^ BitVec.ofInt 8 (b.toNat : Int)).toNat : Nat) : Int) = _
  rw [h, h]
  have e : (y.toBitVec ^^^ b.toBitVec).toNat = (y ^^^ b).toNat := rfl
  rw [e]
  exact wrap_u8 _ (y ^^^ b).toNat_lt
theorem Own.shape {w : World} {base : Nat} {v : Value} {l : List UInt8} (h : Own w base v l) (hn : l ≠ []) : ∃ g cap, v = .slice (some ⟨g, 0, none⟩) l.length cap ∧ base ≤ g ∧ l.length ≤ cap := by
  rcases h.2 with ⟨rfl, h0⟩ | ⟨g, cap, cur, rfl, hb, hg, hnc, _, hcs, ht⟩
  · exact absurd (List.eq_nil_of_length_eq_zero h0) hn
  · exact ⟨g, cap, rfl, hb, hnc⟩
/-- A byte of an own row, set. -/
theorem Own.put {w : World} {base g cap L : Nat} {l : List UInt8} (hL : l.length = L) (h : Own w base (.slice (some ⟨g, 0, none⟩) L cap) l) (k : Nat) (hk : k < L) (z : UInt8) :
    w.cell? ⟨g, k, none⟩ = some (.int .u8 ((l.getD k 0).toNat : Int)) ∧ w.frozen? ⟨g, k, none⟩ = false ∧ Own (w.setCell ⟨g, k, none⟩ (.int .u8 (z.toNat : Int))) base (.slice (some ⟨g, 0, none⟩) L cap) (l.set k z) ∧ w.grownBy (w.setCell ⟨g, k, none⟩ (.int .u8 (z.toNat : Int))) (some g) := by
  subst hL
  obtain ⟨h1, h2⟩ := World.ownsRow.stored h k (.int .u8 (z.toNat : Int))
  refine ⟨by rw [World.ownsRow.cellAt h k (by omega), c8_get l k hk], World.ownsRow.frozenAt h k, ?_, h2⟩
  unfold Own
  rw [List.length_set]
  have : (c8 l).set k (.int .u8 (z.toNat : Int)) = c8 (l.set k z) := by unfold c8; rw [List.map_set]
  rwa [this] at h1
theorem row_b (w : World) (x y : Value) (o : Obj) {w1 : World} (hb : After ((w.alloc (.cells #[x, y] 52)).alloc o) w1) : RowIs w1 w.heap.size 52 [x, y] :=
  ((RowIs.new w 52 [x, y]).alloc o).below hb (by simp; omega)
theorem row_c (w : World) (x y : Value) (o : Obj) {w1 : World} (hb : After ((w.alloc o).alloc (.cells #[x, y] 55)) w1) : RowIs w1 (w.heap.size + 1) 55 [x, y] := by
  have h := RowIs.new (w.alloc o) 55 [x, y]
  have e : (w.alloc o).heap.size = w.heap.size + 1 := by simp
  rw [e] at h
  exact h.below hb (by simp)
theorem fresh_set (w : World) (p : Addr) (v : Value) : Own ((w.setCell p v).alloc (.cells #[] 5)) w.heap.size (.slice (some ⟨w.heap.size, 0, none⟩) 0 0) [] := by
  have h := Own.fresh (w.setCell p v)
  have e : (w.setCell p v).heap.size = w.heap.size := by simp
  rwa [e] at h
theorem own_at {w : World} {base : Nat} {g L c : Nat} {l : List UInt8} (h : Own w base (.slice (some ⟨g, 0, none⟩) L c) l) : BytesAt w (some ⟨g, 0, none⟩) l := by
  obtain ⟨ao, cap, hv, hat, _, _⟩ := Own.at h
  injection hv with h1
  rwa [← h1] at hat
theorem own_byte {w : World} {base : Nat} {g L c : Nat} {l : List UInt8} (h : Own w base (.slice (some ⟨g, 0, none⟩) L c) l) (hp : 0 < l.length) : w.cell? ⟨g, 0, none⟩ = some (.int .u8 ((l.getD 0 0).toNat : Int)) := by
  obtain ⟨b, o, he, hc⟩ := own_at h (by intro h0; rw [h0] at hp; simp at hp)
  cases he
  exact hc 0 hp
theorem set_zero {l : List UInt8} (h : l ≠ []) {z : UInt8} : (l.set 0 z).getD 0 0 = z := by
  cases l with
  | nil => exact absurd rfl h
  | cons x r => rfl
theorem max_any (k : UInt8) (ty : TypeId) (W : World) : (Builtin.max_ #[5, 5] ty #[.int .u8 (k.toNat : Int), .int .u8 1]).run Try.prog W = .ok (.int .u8 ((mk k).toNat : Int)) W := by
  have e : (if (1 : Int) > (k.toNat : Int) then (1 : Int) else (k.toNat : Int)) = ((mk k).toNat : Int) := by
    unfold mk
    by_cases hk : k = 0
    · subst hk; rfl
    · have : k.toNat ≠ 0 := fun h => hk (UInt8.toNat_inj.1 (by simpa using h))
      rw [if_neg hk, if_neg (by omega)]
  rw [← e]
  rfl
set_option maxRecDepth 100000 in
set_option maxHeartbeats 3200000 in
theorem turned_zero (ao ax : Option Addr) (cap cx : Nat) (ps : List (UInt8 × List UInt8)) (hn : ps.length ≤ 1048576) (hps : ∀ p ∈ ps, p.2.length ≤ 1048576) (hbig : (laidB ps).length ≤ 4194000) (kx : UInt8) (D : List UInt8) (hD : D.length ≤ 1048576) (t0 t1 : Int) (hby : t1 % 256 = 0) (w : World) (hat : PiecesIn w ao ps) (hax : BytesAt w ax D) :
    Calls Try.prog 7 #[.slice ao ps.length cap, .agg #[.int .u8 (kx.toNat : Int), .slice ax D.length cx], .agg #[.int .u16 t0, .int .u16 t1]] w fun e w' => e = .returned (.bool true) ∧ Below w.heap.size w w' := by
  have C19 := show Hid _ from fun W (hW : After w W) => laid_any ao cap ps hn hps (by omega) W (hat.after hW)
  have hmx := max_any kx
  obtain ⟨k, hk⟩ : ∃ k, mk kx = k := ⟨_, rfl⟩
  have hk0 : k ≠ 0 := by rw [← hk]; exact mk_ne kx
  have C9 := show Hid _ from fun W (hW : After w W) => seal_any k ax cx D (by omega) W (hax.after hW)
  obtain ⟨hs1, hs2⟩ := sealB_eq k D hk0 hD
  simp only [hs1, hs2] at C9
  rw [hk] at hmx
  clear hat hax hs1 hs2 hk
  go_enter Try.func7, Try.ntmps7
  go_wp2_with (first
    | (go_at_call 19; refine (C19.out _ (after_alloc (after_alloc (After.refl w) _) _)).mono ?_; rintro e w1 ⟨v1, ve1, rfl, ho1, hoe, hb1⟩; obtain ⟨a1, c1, hv1, hat1, _, _⟩ := Own.at ho1; obtain ⟨a0, c0, hv0, _, _⟩ := OwnN.at hoe; subst hv1; subst hv0; have B1 : Hid (After w w1) := After.trans (after_alloc (after_alloc (After.refl w) _) _) hb1; have hRb := row_b w _ _ _ hb1; have hRc := row_c w _ _ _ hb1; have p0 := hRb.cell (j := 0) rfl; have p1 := hRb.cell (j := 1) rfl; have HRb : Hid (RowIs w1 w.heap.size 52 [.int .u8 (kx.toNat : Int), .slice ax D.length cx]) := hRb; have HRc : Hid (RowIs w1 (w.heap.size + 1) 55 [.int .u16 t0, .int .u16 t1]) := hRc; clear ho1 hb1 hat1 hoe hRb hRc)
    | (go_at_call 9; refine (C9.out _ B1.out).mono ?_; rintro e w2 ⟨v2, rfl, ho2, hb2⟩; obtain ⟨a2, c2, hv2, _, _, _⟩ := Own.at ho2; subst hv2; have B2 : Hid (After w w2) := After.trans B1.out hb2; have q1 := (HRc.out.below hb2 HRc.out.lt).cell (j := 1) rfl; clear ho2 hb2)
    | (go_at_call 13; refine (awake_any _).mono ?_; rintro e w3 ⟨rfl, hb3⟩; have B3 : Hid (After w w3) := After.trans B2.out hb3; clear hb3))
  go_ret
  exact ⟨rfl, B3.out⟩
set_option maxRecDepth 100000 in
set_option maxHeartbeats 3200000 in
theorem turned_some (ao ax : Option Addr) (cap cx : Nat) (ps : List (UInt8 × List UInt8)) (hn : ps.length ≤ 1048576) (hps : ∀ p ∈ ps, p.2.length ≤ 1048576) (kx : UInt8) (D : List UInt8) (hbig : (laidB ps).length + D.length ≤ 3145800) (hD : D.length ≤ 1048570) (t0 : Nat) (ht0 : t0 ≤ 65535) (t1 : Int) (bb : UInt8) (hby : t1 % 256 = (bb.toNat : Int)) (hbb : bb ≠ 0) (w : World) (hat : PiecesIn w ao ps) (hax : BytesAt w ax D) :
    Calls Try.prog 7 #[.slice ao ps.length cap, .agg #[.int .u8 (kx.toNat : Int), .slice ax D.length cx], .agg #[.int .u16 (t0 : Int), .int .u16 t1]] w fun e w' => e = .returned (.bool true) ∧ Below w.heap.size w w' := by
  have HAT : Hid (PiecesIn w ao ps) := hat
  have C19 := show Hid _ from fun W (hW : After w W) => laid_any ao cap ps hn hps (by omega) W (hat.after hW)
  have C20 := show Hid _ from fun a1 c1 W h1 h2 => whole_any a1 ao c1 cap ps ps.length (Nat.le_refl _) hn W (by rw [List.take_length]; exact h1) h2
  have hmx := max_any kx
  obtain ⟨k, hk⟩ : ∃ k, mk kx = k := ⟨_, rfl⟩
  have hk0 : k ≠ 0 := by rw [← hk]; exact mk_ne kx
  have C9 := show Hid _ from fun W (hW : After w W) => seal_any k ax cx D (by omega) W (hax.after hW)
  obtain ⟨hs1, hs2⟩ := sealB_eq k D hk0 (by omega)
  simp only [hs1, hs2] at C9
  rw [hk] at hmx
  have hfl := frameB_len k D
  have hu4 : (uintB D.length).length ≤ 4 := uintB_len 3 D.length (by omega)
  have hu1 : 1 ≤ (uintB D.length).length := by
    have : uintB D.length ≠ [] := by rw [uintB]; split <;> simp
    exact List.length_pos_iff.2 this
  obtain ⟨n, hn'⟩ : ∃ n, D.length = n := ⟨_, rfl⟩
  obtain ⟨HD, hHD⟩ : ∃ h, 1 + (uintB D.length).length = h := ⟨_, rfl⟩
  obtain ⟨at0, ha0⟩ : ∃ a, t0 % (n + 5) = a := ⟨_, rfl⟩
  have ha1 : at0 < n + 5 := by rw [← ha0]; exact Nat.mod_lt _ (by omega)
  have hai : (t0 : Int) % ((n : Int) + 5) = (at0 : Int) := by have := Int.natCast_emod t0 (n + 5); rw [ha0] at this; rw [this]; rfl
  obtain ⟨AT, hAT⟩ : ∃ a, (if at0 = 0 then 0 else HD + at0 - 1) = a := ⟨_, rfl⟩
  have hA1 : (at0 = 0 ∧ AT = 0) ∨ (0 < at0 ∧ AT + 1 = HD + at0) := by
    by_cases h : at0 = 0
    · rw [if_pos h] at hAT; omega
    · rw [if_neg h] at hAT; omega
  rw [hHD, hn'] at hfl
  have hst := fun v hv => scan_turned ps hps k D AT v hk0 (by omega) (by omega) (by omega) hv
  obtain ⟨R, hR⟩ : ∃ R, frameB k D = R := ⟨_, rfl⟩
  rw [hR] at hfl hst C9
  obtain ⟨y, hy⟩ : ∃ y, R.getD AT 0 = y := ⟨_, rfl⟩
  obtain ⟨z, hz⟩ : ∃ z, y ^^^ bb = z := ⟨_, rfl⟩
  have hyz : y ≠ z := by
    intro h
    apply hbb
    have : y ^^^ (y ^^^ bb) = y ^^^ y := by rw [hz, ← h]
    simpa [← UInt8.xor_assoc] using this
  have hsz := hst z (by rw [hy]; exact hyz)
  have hxor : bits .xor .u8 (y.toNat : Int) (bb.toNat : Int) = (z.toNat : Int) := by rw [xor8, hz]
  have hxor2 : bits .xor .u8 (y.toNat : Int) (t1 % 256) = (z.toNat : Int) := by rw [hby]; exact hxor
  have hb0 := u8_eq0 bb
  rw [decide_eq_false hbb] at hb0
  obtain ⟨A, hA⟩ : ∃ A, laidB ps = A := ⟨_, rfl⟩
  obtain ⟨AL, hAL⟩ : ∃ A', A.length = A' := ⟨_, rfl⟩
  obtain ⟨N, hN⟩ : ∃ A', ps.length = A' := ⟨_, rfl⟩
  obtain ⟨E, hE⟩ : ∃ E : Nat, (if AT = 0 ∧ z = 0 then 4 else 6) = E := ⟨_, rfl⟩
  have hE1 : (AT = 0 ∧ z = 0 ∧ E = 4) ∨ E = 6 := by
    by_cases h : AT = 0 ∧ z = 0
    · rw [if_pos h] at hE; exact .inl ⟨h.1, h.2, hE.symm⟩
    · rw [if_neg h] at hE; exact .inr hE.symm
  rw [hA, hAL, hE] at hsz
  rw [hA] at C19
  rw [hA, hAL, hn'] at hbig
  have HNF : Hid ((norm ps).length = N) := (by unfold Hid norm; rw [List.length_map]; exact hN)
  obtain ⟨F, hF⟩ : ∃ F, norm ps = F := ⟨_, rfl⟩
  rw [hF] at hsz HNF C20
  rw [hN] at C19 C20 hn ⊢
  have C16 : Hid (∀ (a : Option Addr) (c : Nat) (W : World), AL + (HD + n + 4) ≤ c → BytesAt W a (A ++ R.set AT z) → Calls Try.prog 16 #[.slice a (AL + (HD + n + 4)) c] W (SPost 33 W (F, AL, E))) := fun a c W hc h => by
    have hl : (A ++ R.set AT z).length = AL + (HD + n + 4) := by rw [List.length_append, List.length_set, hAL, hfl]
    have := scan_any a c (A ++ R.set AT z) (by rw [hl]; exact hc) (by rw [hl]; omega) W h (fun h0 => by subst h0; rw [bytesAt_none h]; rfl)
    rwa [hl, hsz] at this
  unfold SPost at C16
  simp only at C16
  have HRL : Hid (R.length = HD + n + 4) := hfl
  have HAL : Hid (A.length = AL) := hAL
  have HY : Hid (R.getD AT 0 = y) := hy
  rw [hn'] at C9 hD ⊢
  have hHD2 : 2 ≤ HD ∧ HD ≤ 5 := by omega
  clear hat hax hs1 hs2 hk hfl hu4 hu1 hst hsz hR hy hz hyz hA hAL hN hE hF hn' hHD ha0 hAT hps hk0 hbb
  have HNE : Hid (R ≠ []) := fun h => by have := HRL.out; rw [h] at this; simp at this
  rcases hA1 with ⟨rfl, rfl⟩ | ⟨hpos, hAX⟩
  · rcases hE1 with ⟨_, hz0, rfl⟩ | rfl
    · have hz1 := u8_eq0 z
      rw [decide_eq_true hz0] at hz1
      clear hz0
      go_enter Try.func7, Try.ntmps7
      go_wp2_with (first
        | (go_at_call 19; refine (C19.out _ (after_alloc (after_alloc (After.refl w) _) _)).mono ?_; rintro e w1 ⟨v1, ve1, rfl, ho1, hoe, hb1⟩; obtain ⟨a1, c1, hv1, hat1, _, _⟩ := Own.at ho1; obtain ⟨a0, c0, hv0, _, _⟩ := OwnN.at hoe; rw [HAL.out] at hv1; subst hv1; subst hv0; have HT1 : Hid (BytesAt w1 a1 A) := hat1; have B1 : Hid (After w w1) := After.trans (after_alloc (after_alloc (After.refl w) _) _) hb1; have hRb := row_b w _ _ _ hb1; have hRc := row_c w _ _ _ hb1; have p0 := hRb.cell (j := 0) rfl; have p1 := hRb.cell (j := 1) rfl; have HRb : Hid (RowIs w1 w.heap.size 52 [.int .u8 (kx.toNat : Int), .slice ax n cx]) := hRb; have HRc : Hid (RowIs w1 (w.heap.size + 1) 55 [.int .u16 (t0 : Int), .int .u16 t1]) := hRc; clear ho1 hb1 hat1 hoe hRb hRc)
        | (go_at_call 9; refine (C9.out _ B1.out).mono ?_; rintro e w2 ⟨v2, rfl, ho2, hb2⟩; obtain ⟨g2, c2, hv2, hg2, _⟩ := Own.shape ho2 HNE.out; rw [HRL.out] at hv2; subst hv2; have A2 : Hid (After w1 w2) := hb2; obtain ⟨y0, y1, ho3, hg3⟩ := Own.put HRL.out ho2 (0) (by omega) z; rw [HY.out] at y0; have HO3 : Hid (Own (w2.setCell ⟨g2, 0, none⟩ (.int .u8 (z.toNat : Int))) w1.heap.size (.slice (some ⟨g2, 0, none⟩) (HD + n + 4) c2) (R.set (0) z)) := ho3; have A3 : Hid (After w1 (w2.setCell ⟨g2, 0, none⟩ (.int .u8 (z.toNat : Int)))) := after_grown hb2 hg3 (Nat.le_refl _) (fun k hk => by cases hk; exact hg2); have q0 := (HRc.out.below hb2 HRc.out.lt).cell (j := 0) rfl; have q1 := (HRc.out.below hb2 HRc.out.lt).cell (j := 1) rfl; have r1 := (HRb.out.below hb2 HRb.out.lt).cell (j := 1) rfl; clear ho2 hb2 ho3 hg3 hg2)
        | (at_builtin; have _u := HO5.out; clear _u; refine wpList_append_any rfl _ _ rfl w2.heap.size _ A rfl HO5.out (some ⟨g2, 0, none⟩) c2 (R.set (0) z) (HD + n + 4) (by rw [List.length_set]; exact HRL.out) rfl HT5.out (by have := HAL.out; rw [List.length_set, HRL.out]; omega) (by have := A35.out.size; simpa using this) ?_; intro v6 w6 ho6 hg6; have A36 : Hid (After (w2.setCell ⟨g2, 0, none⟩ (.int .u8 (z.toNat : Int))) w6) := after_grown A35.out hg6 (by simp) (fun k hk => (World.ownsRow.lt HO5.out k hk).1); obtain ⟨a6, c6, hv6, hat6, hc6, _⟩ := Own.at ho6; rw [List.length_append, List.length_set, HAL.out, HRL.out] at hv6 hc6; subst hv6; have HT6 : Hid (BytesAt w6 a6 (A ++ R.set (0) z)) := hat6; have HC6 : Hid (AL + (HD + n + 4) ≤ c6) := hc6; clear ho6 hg6 hat6 hc6)
        | (at_builtin; refine wpList_append_any rfl _ _ rfl w2.heap.size _ [] rfl (fresh_set w2 ⟨g2, 0, none⟩ (.int .u8 (z.toNat : Int))) a1 c1 A AL HAL.out rfl (HT1.out.after (After.trans A3.out (after_alloc (After.refl _) _))) (by have := HAL.out; simp; omega) (by simp) ?_; intro v5 w5 ho5 hg5; rw [List.nil_append] at ho5; have HO5 : Hid (Own w5 w2.heap.size v5 A) := ho5; have A35 : Hid (After (w2.setCell ⟨g2, 0, none⟩ (.int .u8 (z.toNat : Int))) w5) := after_grown (after_alloc (After.refl _) _) hg5 (by simp) (fun k hk => (World.ownsRow.lt (fresh_set w2 ⟨g2, 0, none⟩ (.int .u8 (z.toNat : Int))) k hk).1); have HT5 : Hid (BytesAt w5 (some ⟨g2, 0, none⟩) (R.set (0) z)) := own_at (Own.below HO3.out A35.out (Nat.le_refl _)); clear ho5 hg5)
        | (go_at_call 16; refine (C16.out a6 c6 w6 HC6.out HT6.out).mono ?_; rintro e w7 ⟨v7, rfl, ho7, hb7⟩; obtain ⟨a7, c7, hv7, hf7⟩ := OwnF.at ho7; rw [HNF.out] at hv7; subst hv7; have HF7 : Hid (FramesAt w7 a7 F) := hf7; have A37 : Hid (After (w2.setCell ⟨g2, 0, none⟩ (.int .u8 (z.toNat : Int))) w7) := After.trans A36.out hb7; have B7 : Hid (After w w7) := After.trans B1.out (After.trans A3.out A37.out); clear ho7 hb7 hf7)
        | (go_at_call 20; refine (C20.out a7 c7 w7 HF7.out (HAT.out.after B7.out)).mono ?_; rintro e w8 ⟨rfl, hb8⟩; have A38 : Hid (After (w2.setCell ⟨g2, 0, none⟩ (.int .u8 (z.toNat : Int))) w8) := After.trans A37.out hb8; have B8 : Hid (After w w8) := After.trans B7.out hb8; have z0 := (Below.cell A38.out (p := ⟨g2, 0, none⟩) (block_lt_of_cell (own_byte HO3.out (by rw [List.length_set, HRL.out]; omega)))).trans (own_byte HO3.out (by rw [List.length_set, HRL.out]; omega)); rw [set_zero HNE.out] at z0; clear hb8)
        | (go_at_call 13; refine (awake_any _).mono ?_; rintro e w9 ⟨rfl, hb9⟩; have B9 : Hid (After w w9) := After.trans B8.out hb9; clear hb9))
      go_ret
      exact ⟨rfl, B9.out⟩
    · 
      go_enter Try.func7, Try.ntmps7
      go_wp2_with (first
        | (go_at_call 19; refine (C19.out _ (after_alloc (after_alloc (After.refl w) _) _)).mono ?_; rintro e w1 ⟨v1, ve1, rfl, ho1, hoe, hb1⟩; obtain ⟨a1, c1, hv1, hat1, _, _⟩ := Own.at ho1; obtain ⟨a0, c0, hv0, _, _⟩ := OwnN.at hoe; rw [HAL.out] at hv1; subst hv1; subst hv0; have HT1 : Hid (BytesAt w1 a1 A) := hat1; have B1 : Hid (After w w1) := After.trans (after_alloc (after_alloc (After.refl w) _) _) hb1; have hRb := row_b w _ _ _ hb1; have hRc := row_c w _ _ _ hb1; have p0 := hRb.cell (j := 0) rfl; have p1 := hRb.cell (j := 1) rfl; have HRb : Hid (RowIs w1 w.heap.size 52 [.int .u8 (kx.toNat : Int), .slice ax n cx]) := hRb; have HRc : Hid (RowIs w1 (w.heap.size + 1) 55 [.int .u16 (t0 : Int), .int .u16 t1]) := hRc; clear ho1 hb1 hat1 hoe hRb hRc)
        | (go_at_call 9; refine (C9.out _ B1.out).mono ?_; rintro e w2 ⟨v2, rfl, ho2, hb2⟩; obtain ⟨g2, c2, hv2, hg2, _⟩ := Own.shape ho2 HNE.out; rw [HRL.out] at hv2; subst hv2; have A2 : Hid (After w1 w2) := hb2; obtain ⟨y0, y1, ho3, hg3⟩ := Own.put HRL.out ho2 (0) (by omega) z; rw [HY.out] at y0; have HO3 : Hid (Own (w2.setCell ⟨g2, 0, none⟩ (.int .u8 (z.toNat : Int))) w1.heap.size (.slice (some ⟨g2, 0, none⟩) (HD + n + 4) c2) (R.set (0) z)) := ho3; have A3 : Hid (After w1 (w2.setCell ⟨g2, 0, none⟩ (.int .u8 (z.toNat : Int)))) := after_grown hb2 hg3 (Nat.le_refl _) (fun k hk => by cases hk; exact hg2); have q0 := (HRc.out.below hb2 HRc.out.lt).cell (j := 0) rfl; have q1 := (HRc.out.below hb2 HRc.out.lt).cell (j := 1) rfl; have r1 := (HRb.out.below hb2 HRb.out.lt).cell (j := 1) rfl; clear ho2 hb2 ho3 hg3 hg2)
        | (at_builtin; have _u := HO5.out; clear _u; refine wpList_append_any rfl _ _ rfl w2.heap.size _ A rfl HO5.out (some ⟨g2, 0, none⟩) c2 (R.set (0) z) (HD + n + 4) (by rw [List.length_set]; exact HRL.out) rfl HT5.out (by have := HAL.out; rw [List.length_set, HRL.out]; omega) (by have := A35.out.size; simpa using this) ?_; intro v6 w6 ho6 hg6; have A36 : Hid (After (w2.setCell ⟨g2, 0, none⟩ (.int .u8 (z.toNat : Int))) w6) := after_grown A35.out hg6 (by simp) (fun k hk => (World.ownsRow.lt HO5.out k hk).1); obtain ⟨a6, c6, hv6, hat6, hc6, _⟩ := Own.at ho6; rw [List.length_append, List.length_set, HAL.out, HRL.out] at hv6 hc6; subst hv6; have HT6 : Hid (BytesAt w6 a6 (A ++ R.set (0) z)) := hat6; have HC6 : Hid (AL + (HD + n + 4) ≤ c6) := hc6; clear ho6 hg6 hat6 hc6)
        | (at_builtin; refine wpList_append_any rfl _ _ rfl w2.heap.size _ [] rfl (fresh_set w2 ⟨g2, 0, none⟩ (.int .u8 (z.toNat : Int))) a1 c1 A AL HAL.out rfl (HT1.out.after (After.trans A3.out (after_alloc (After.refl _) _))) (by have := HAL.out; simp; omega) (by simp) ?_; intro v5 w5 ho5 hg5; rw [List.nil_append] at ho5; have HO5 : Hid (Own w5 w2.heap.size v5 A) := ho5; have A35 : Hid (After (w2.setCell ⟨g2, 0, none⟩ (.int .u8 (z.toNat : Int))) w5) := after_grown (after_alloc (After.refl _) _) hg5 (by simp) (fun k hk => (World.ownsRow.lt (fresh_set w2 ⟨g2, 0, none⟩ (.int .u8 (z.toNat : Int))) k hk).1); have HT5 : Hid (BytesAt w5 (some ⟨g2, 0, none⟩) (R.set (0) z)) := own_at (Own.below HO3.out A35.out (Nat.le_refl _)); clear ho5 hg5)
        | (go_at_call 16; refine (C16.out a6 c6 w6 HC6.out HT6.out).mono ?_; rintro e w7 ⟨v7, rfl, ho7, hb7⟩; obtain ⟨a7, c7, hv7, hf7⟩ := OwnF.at ho7; rw [HNF.out] at hv7; subst hv7; have HF7 : Hid (FramesAt w7 a7 F) := hf7; have A37 : Hid (After (w2.setCell ⟨g2, 0, none⟩ (.int .u8 (z.toNat : Int))) w7) := After.trans A36.out hb7; have B7 : Hid (After w w7) := After.trans B1.out (After.trans A3.out A37.out); clear ho7 hb7 hf7)
        | (go_at_call 20; refine (C20.out a7 c7 w7 HF7.out (HAT.out.after B7.out)).mono ?_; rintro e w8 ⟨rfl, hb8⟩; have A38 : Hid (After (w2.setCell ⟨g2, 0, none⟩ (.int .u8 (z.toNat : Int))) w8) := After.trans A37.out hb8; have B8 : Hid (After w w8) := After.trans B7.out hb8;  clear hb8)
        | (go_at_call 13; refine (awake_any _).mono ?_; rintro e w9 ⟨rfl, hb9⟩; have B9 : Hid (After w w9) := After.trans B8.out hb9; clear hb9))
      go_ret
      exact ⟨rfl, B9.out⟩
  · obtain rfl : AT = HD + n + 4 - n - 4 + at0 - 1 := by omega
    obtain rfl : E = 6 := by omega
    go_enter Try.func7, Try.ntmps7
    go_wp2_with (first
      | (go_at_call 19; refine (C19.out _ (after_alloc (after_alloc (After.refl w) _) _)).mono ?_; rintro e w1 ⟨v1, ve1, rfl, ho1, hoe, hb1⟩; obtain ⟨a1, c1, hv1, hat1, _, _⟩ := Own.at ho1; obtain ⟨a0, c0, hv0, _, _⟩ := OwnN.at hoe; rw [HAL.out] at hv1; subst hv1; subst hv0; have HT1 : Hid (BytesAt w1 a1 A) := hat1; have B1 : Hid (After w w1) := After.trans (after_alloc (after_alloc (After.refl w) _) _) hb1; have hRb := row_b w _ _ _ hb1; have hRc := row_c w _ _ _ hb1; have p0 := hRb.cell (j := 0) rfl; have p1 := hRb.cell (j := 1) rfl; have HRb : Hid (RowIs w1 w.heap.size 52 [.int .u8 (kx.toNat : Int), .slice ax n cx]) := hRb; have HRc : Hid (RowIs w1 (w.heap.size + 1) 55 [.int .u16 (t0 : Int), .int .u16 t1]) := hRc; clear ho1 hb1 hat1 hoe hRb hRc)
      | (go_at_call 9; refine (C9.out _ B1.out).mono ?_; rintro e w2 ⟨v2, rfl, ho2, hb2⟩; obtain ⟨g2, c2, hv2, hg2, _⟩ := Own.shape ho2 HNE.out; rw [HRL.out] at hv2; subst hv2; have A2 : Hid (After w1 w2) := hb2; obtain ⟨y0, y1, ho3, hg3⟩ := Own.put HRL.out ho2 (HD + n + 4 - n - 4 + at0 - 1) (by omega) z; rw [HY.out] at y0; have HO3 : Hid (Own (w2.setCell ⟨g2, HD + n + 4 - n - 4 + at0 - 1, none⟩ (.int .u8 (z.toNat : Int))) w1.heap.size (.slice (some ⟨g2, 0, none⟩) (HD + n + 4) c2) (R.set (HD + n + 4 - n - 4 + at0 - 1) z)) := ho3; have A3 : Hid (After w1 (w2.setCell ⟨g2, HD + n + 4 - n - 4 + at0 - 1, none⟩ (.int .u8 (z.toNat : Int)))) := after_grown hb2 hg3 (Nat.le_refl _) (fun k hk => by cases hk; exact hg2); have q0 := (HRc.out.below hb2 HRc.out.lt).cell (j := 0) rfl; have q1 := (HRc.out.below hb2 HRc.out.lt).cell (j := 1) rfl; have r1 := (HRb.out.below hb2 HRb.out.lt).cell (j := 1) rfl; clear ho2 hb2 ho3 hg3 hg2)
      | (at_builtin; have _u := HO5.out; clear _u; refine wpList_append_any rfl _ _ rfl w2.heap.size _ A rfl HO5.out (some ⟨g2, 0, none⟩) c2 (R.set (HD + n + 4 - n - 4 + at0 - 1) z) (HD + n + 4) (by rw [List.length_set]; exact HRL.out) rfl HT5.out (by have := HAL.out; rw [List.length_set, HRL.out]; omega) (by have := A35.out.size; simpa using this) ?_; intro v6 w6 ho6 hg6; have A36 : Hid (After (w2.setCell ⟨g2, HD + n + 4 - n - 4 + at0 - 1, none⟩ (.int .u8 (z.toNat : Int))) w6) := after_grown A35.out hg6 (by simp) (fun k hk => (World.ownsRow.lt HO5.out k hk).1); obtain ⟨a6, c6, hv6, hat6, hc6, _⟩ := Own.at ho6; rw [List.length_append, List.length_set, HAL.out, HRL.out] at hv6 hc6; subst hv6; have HT6 : Hid (BytesAt w6 a6 (A ++ R.set (HD + n + 4 - n - 4 + at0 - 1) z)) := hat6; have HC6 : Hid (AL + (HD + n + 4) ≤ c6) := hc6; clear ho6 hg6 hat6 hc6)
      | (at_builtin; refine wpList_append_any rfl _ _ rfl w2.heap.size _ [] rfl (fresh_set w2 ⟨g2, HD + n + 4 - n - 4 + at0 - 1, none⟩ (.int .u8 (z.toNat : Int))) a1 c1 A AL HAL.out rfl (HT1.out.after (After.trans A3.out (after_alloc (After.refl _) _))) (by have := HAL.out; simp; omega) (by simp) ?_; intro v5 w5 ho5 hg5; rw [List.nil_append] at ho5; have HO5 : Hid (Own w5 w2.heap.size v5 A) := ho5; have A35 : Hid (After (w2.setCell ⟨g2, HD + n + 4 - n - 4 + at0 - 1, none⟩ (.int .u8 (z.toNat : Int))) w5) := after_grown (after_alloc (After.refl _) _) hg5 (by simp) (fun k hk => (World.ownsRow.lt (fresh_set w2 ⟨g2, HD + n + 4 - n - 4 + at0 - 1, none⟩ (.int .u8 (z.toNat : Int))) k hk).1); have HT5 : Hid (BytesAt w5 (some ⟨g2, 0, none⟩) (R.set (HD + n + 4 - n - 4 + at0 - 1) z)) := own_at (Own.below HO3.out A35.out (Nat.le_refl _)); clear ho5 hg5)
      | (go_at_call 16; refine (C16.out a6 c6 w6 HC6.out HT6.out).mono ?_; rintro e w7 ⟨v7, rfl, ho7, hb7⟩; obtain ⟨a7, c7, hv7, hf7⟩ := OwnF.at ho7; rw [HNF.out] at hv7; subst hv7; have HF7 : Hid (FramesAt w7 a7 F) := hf7; have A37 : Hid (After (w2.setCell ⟨g2, HD + n + 4 - n - 4 + at0 - 1, none⟩ (.int .u8 (z.toNat : Int))) w7) := After.trans A36.out hb7; have B7 : Hid (After w w7) := After.trans B1.out (After.trans A3.out A37.out); clear ho7 hb7 hf7)
      | (go_at_call 20; refine (C20.out a7 c7 w7 HF7.out (HAT.out.after B7.out)).mono ?_; rintro e w8 ⟨rfl, hb8⟩; have A38 : Hid (After (w2.setCell ⟨g2, HD + n + 4 - n - 4 + at0 - 1, none⟩ (.int .u8 (z.toNat : Int))) w8) := After.trans A37.out hb8; have B8 : Hid (After w w8) := After.trans B7.out hb8;  clear hb8)
      | (go_at_call 13; refine (awake_any _).mono ?_; rintro e w9 ⟨rfl, hb9⟩; have B9 : Hid (After w w9) := After.trans B8.out hb9; clear hb9))
    go_ret
    exact ⟨rfl, B9.out⟩
end Go.Proofs.Ytjmjianilcdphaa
