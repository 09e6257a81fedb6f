/-
  THE WALK OF stemmalaw09.BloomFull.
-/
import Derived.Test.YtgcgblecendijaaBA
namespace Go.Proofs.Ytgcgblecendijaa
open Go.RowKit Leb
section
variable {o : Oper} {a : Act} {x y : Operand} {w : World} {p q r : Nat}
theorem x_conv53 (hop : o.op = .convert 5 3 x) (hx : a.eval x = .int .u8 (p : Int)) (hp : p < 256) : (execOp a.eval o).run Try.prog w = .ok (.value (.int .i64 (p : Int))) w := by
  have e : IntKind.i64.wrap (p : Int) = (p : Int) := wrapi (by omega)
  unfold execOp
  simp only [hop, hx]
  simp [go_sem, e]
theorem x_conv35 (hop : o.op = .convert 3 5 x) (hx : a.eval x = .int .i64 (p : Int)) (hp : p < 256) : (execOp a.eval o).run Try.prog w = .ok (.value (.int .u8 (p : Int))) w := by
  have e : IntKind.u8.wrap (p : Int) = (p : Int) := wrap8 hp
  unfold execOp
  simp only [hop, hx]
  simp [go_sem, e]
theorem x_remi (hop : o.op = .binOp .rem 3 x y 3) (hx : a.eval x = .int .i64 (p : Int)) (hy : a.eval y = .int .i64 (q : Int)) (hr : p % q = r) (hq : 0 < q) : (execOp a.eval o).run Try.prog w = .ok (.value (.int .i64 (r : Int))) w := by
  have e : Int.tmod (p : Int) (q : Int) = (r : Int) := by rw [← hr]; exact (Int.ofNat_tmod p q).symm
  have e0 : ¬ q = 0 := by omega
  unfold execOp
  simp only [hop, hx, hy]
  simp [go_sem, e, e0]
theorem x_quoi (hop : o.op = .binOp .quo 3 x y 3) (hx : a.eval x = .int .i64 (p : Int)) (hy : a.eval y = .int .i64 (q : Int)) (hr : p / q = r) (hq : 0 < q) (hb : r < 9223372036854775808) : (execOp a.eval o).run Try.prog w = .ok (.value (.int .i64 (r : Int))) w := by
  have e : Int.tdiv (p : Int) (q : Int) = (r : Int) := by rw [← hr]; exact (Int.ofNat_tdiv p q).symm
  have e0 : ¬ q = 0 := by omega
  have ew : IntKind.i64.wrap (r : Int) = (r : Int) := wrapi hb
  unfold execOp
  simp only [hop, hx, hy]
  simp [go_sem, e, e0, ew]
theorem x_addi (hop : o.op = .binOp .add 3 x y 3) (hx : a.eval x = .int .i64 (p : Int)) (hy : a.eval y = .int .i64 (q : Int)) (hr : p + q = r) (hb : r < 9223372036854775808) : (execOp a.eval o).run Try.prog w = .ok (.value (.int .i64 (r : Int))) w := by
  have e : IntKind.i64.wrap ((p : Int) + (q : Int)) = (r : Int) := by rw [← Int.natCast_add, hr, wrapi hb]
  unfold execOp
  simp only [hop, hx, hy]
  simp [go_sem, e]
end
/-- append to a row of the call's own, and where the row then lies. -/
theorem run_append_at (w : World) (ty : TypeId) (base : Nat) (v : Value) (bs : List UInt8) (hown : Own w base v bs) (ad : Addr) (c : Nat) (news : List UInt8) (k : Nat) (hk : news.length = k) (hnews : BytesAt w (some ad) news)
    (hbytes : bs.length + news.length ≤ 140737488355328) (hbase : base ≤ w.heap.size) :
    ∃ v' w', (Builtin.append_ #[26, 26] ty #[v, .slice (some ad) k c]).run Try.prog w = .ok v' w' ∧ Own w' base v' (bs ++ news) ∧ w.grownBy w' v.ownBlock ∧ (v'.ownBlock = v.ownBlock ∨ v'.ownBlock = some w.heap.size) := by
  subst hk
  obtain ⟨i, hi, hz⟩ := Option.map_eq_some_iff.1 bytes5
  simp only [Prod.mk.injEq] at hz
  obtain ⟨hz, hsz, hby⟩ := hz
  obtain ⟨v', w', h1, h2, h3, _, h5⟩ := run_append_own_at (P := Try.prog) w base 26 ty 5 i (.int .u8 0) 1 1 Try.underlying26 hi hz hsz hby rfl (by omega) v bs.length (c8 bs) hown ad news.length c (c8 news) (by simp [c8_len]) (fun j u hu => by
      have hj := (List.getElem?_eq_some_iff.1 hu).1
      rw [c8_len] at hj
      obtain ⟨b, o, he, hc⟩ := hnews (by intro h; simp [h] at hj)
      cases he
      rw [c8_get news j hj] at hu
      rw [Addr.add_mid, hc j hj, hu]) (c8_one _) (by unfold maxLen; omega) (by omega) hbase
  exact ⟨v', w', h1, by unfold Own; rw [c8_append, List.length_append]; exact h2, h3, h5⟩
/-- Two rows of one's own, apart. -/
structure Two (w : World) (base : Nat) (u v : Value) (xs ys : List UInt8) : Prop where
  fst : Own w base u xs
  snd : Own w base v ys
  apart : ∀ g, u.ownBlock = some g → v.ownBlock ≠ some g
theorem Two.after {w w' : World} {base : Nat} {u v : Value} {xs ys : List UInt8} (h : Two w base u v xs ys) (ha : After w w') : Two w' base u v xs ys := ⟨Own.below h.fst ha (Nat.le_refl _), Own.below h.snd ha (Nat.le_refl _), h.apart⟩
theorem Two.swap {w : World} {base : Nat} {u v : Value} {xs ys : List UInt8} (h : Two w base u v xs ys) : Two w base v u ys xs := ⟨h.snd, h.fst, fun g hv hu => h.apart g hu hv⟩
theorem Two.grow {w w' : World} {base : Nat} {u v u' : Value} {xs ys xs' : List UInt8} (h : Two w base u v xs ys) (ho : Own w' base u' xs') (hg : w.grownBy w' u.ownBlock) (hat : u'.ownBlock = u.ownBlock ∨ u'.ownBlock = some w.heap.size) : Two w' base u' v xs' ys := by
  refine ⟨ho, World.ownsRow.kept h.snd hg ?_, fun g hu hv => ?_⟩
  · cases hb : v.ownBlock with
    | none => exact .inl rfl
    | some g => exact .inr (fun e => h.apart g e.symm hb)
  · rcases hat with e | e
    · exact h.apart g (by rw [← e]; exact hu) hv
    · have := (World.ownsRow.lt h.snd g hv).2
      rw [e] at hu; cases hu; omega
theorem full_head {N k : Nat} (hk : k < 128) : headB ⟨N, 0, k⟩ = uintB N ++ [0, UInt8.ofNat k] := by
  unfold headB
  rw [uintB_small (show (Prt.mk N 0 k).seed < 128 from (by decide : (0 : Nat) < 128)), uintB_small (show (Prt.mk N 0 k).bits < 128 from hk)]
  simp
theorem rd_head' {p : Prt} (hp : p.Ok) (f : List UInt8) : rdR (headB p ++ f) = p ∧ rst (headB p ++ f) 3 = f := by
  obtain ⟨m, s, b⟩ := p
  have hm : m < 18446744073709551616 := by have h : m ≤ 65536 := hp.many; omega
  have hs : s < 18446744073709551616 := by have h : s < 4294967296 := hp.seed; omega
  have hb : b < 18446744073709551616 := by have h : b ≤ 64 := hp.bits'; omega
  have e0 : headB ⟨m, s, b⟩ ++ f = uintB m ++ (uintB s ++ (uintB b ++ f)) := by simp [headB]
  obtain ⟨a1, a2, a3⟩ := gu_back m (uintB s ++ (uintB b ++ f)) hm
  obtain ⟨b1, b2, b3⟩ := gu_back s (uintB b ++ f) hs
  obtain ⟨c1, c2, c3⟩ := gu_back b f hb
  have r0 : rst (headB ⟨m, s, b⟩ ++ f) 0 = uintB m ++ (uintB s ++ (uintB b ++ f)) := e0
  have r1 : rst (headB ⟨m, s, b⟩ ++ f) 1 = uintB s ++ (uintB b ++ f) := by
    show (rst _ 0).drop (guK (rst _ 0)) = _
    rw [r0, a2, List.drop_left']; rfl
  have r2 : rst (headB ⟨m, s, b⟩ ++ f) 2 = uintB b ++ f := by
    show (rst _ 1).drop (guK (rst _ 1)) = _
    rw [r1, b2, List.drop_left']; rfl
  have r3 : rst (headB ⟨m, s, b⟩ ++ f) 3 = f := by
    show (rst _ 2).drop (guK (rst _ 2)) = _
    rw [r2, c2, List.drop_left']; rfl
  exact ⟨by unfold rdR nmb; rw [r0, r1, r2, a3, b3, c3], r3⟩
theorem full_math {p : Prt} (hp : p.Ok) (h : Hs) : ckE (headB p ++ List.replicate p.size 0) = 0 ∧ (rdP (headB p ++ List.replicate p.size 255)).many = p.many ∧ hasB (headB p ++ List.replicate p.size 0) h = false ∧ hasB (headB p ++ List.replicate p.size 255) h = decide (0 < p.many) ∧ ckE ((headB p ++ List.replicate p.size 255) ++ [255]) = 4 := by
  obtain ⟨z1, z2, z3⟩ := rd_head hp (f := List.replicate p.size 0) (by simp)
  obtain ⟨o1, o2, o3⟩ := rd_head hp (f := List.replicate p.size 255) (by simp)
  obtain ⟨y1, y2⟩ := rd_yes z1
  obtain ⟨x1, x2⟩ := rd_yes o1
  have it0 : ∀ f : List UInt8, p.has f h = true → bitAt f (p.it h 0).1 = true := fun f hf => List.all_eq_true.1 hf _ (List.mem_map.2 ⟨0, by decide, rfl⟩)
  refine ⟨by unfold ckE; rw [if_pos z1], by rw [x1, o2], ?_, ?_, ?_⟩
  · unfold hasB
    rw [y1, y2, z2, z3]
    split
    · rfl
    · refine Classical.byContradiction fun hc => ?_
      have := it0 _ (by simpa using hc)
      rw [bitAt_zero] at this; cases this
  · unfold hasB
    rw [x1, x2, o2, o3]
    by_cases hm : p.many = 0
    · rw [if_pos hm, hm]; rfl
    · rw [if_neg hm, decide_eq_true (show 0 < p.many by omega)]
      have hpos := hp.size_pos (by omega)
      refine List.all_eq_true.2 (fun q hq => bitAt_ones ?_)
      have := Prt.plc_lt (p := p) (by unfold Prt.all; omega) h 7 q hq
      unfold Prt.all at this; omega
  · unfold ckE
    rw [List.append_assoc, if_neg]
    intro hk
    obtain ⟨r1, r2⟩ := rd_head' hp (List.replicate p.size 255 ++ [255])
    have := hk.2.2.2.2
    rw [r1, r2, List.length_append, List.length_replicate] at this
    simp at this

set_option maxRecDepth 100000 in
set_option maxHeartbeats 6000000 in
theorem full_small (N BB : Nat) (hN : N < 128) (hB : BB < 256) (h : Hs) (h32 : h.length = 32) (w : World) :
    Calls Try.prog 8 #[.int .u8 (N : Int), .int .u8 (BB : Int), .agg (c8 h).toArray] w fun e w' => e = .returned (.bool true) ∧ After w w' := by
  obtain ⟨k0, hk0⟩ : ∃ k, BB % 64 = k := ⟨_, rfl⟩
  obtain ⟨k, hk⟩ : ∃ k', k0 + 1 = k' := ⟨_, rfl⟩
  obtain ⟨nk, hnk⟩ : ∃ m, N * k = m := ⟨_, rfl⟩
  obtain ⟨nk7, hnk7⟩ : ∃ m, nk + 7 = m := ⟨_, rfl⟩
  obtain ⟨m, hm⟩ : ∃ m, nk7 / 8 = m := ⟨_, rfl⟩
  have hnkl : nk ≤ 255 * 64 := by rw [← hnk]; exact Nat.mul_le_mul (by omega) (by omega)
  have HK : Hid (BB % 64 = k0 ∧ k0 + 1 = k ∧ N * k = nk ∧ nk + 7 = nk7 ∧ nk7 / 8 = m ∧ k ≤ 64 ∧ nk ≤ 16320 ∧ N < 256 ∧ BB < 256) := ⟨hk0, hk, hnk, hnk7, hm, by omega, by omega, by omega, hB⟩
  have hok : (Prt.mk N 0 k).Ok := ⟨by show N ≤ _; omega, by show 0 < _; omega, by show 1 ≤ k; omega, by show k ≤ _; omega⟩
  have hsz : (Prt.mk N 0 k).size = m := by show (N * k + 7) / 8 = m; rw [hnk, hnk7, hm]
  have hhd : headB ⟨N, 0, k⟩ = [UInt8.ofNat N, 0, UInt8.ofNat k] := by
    rw [full_head (by omega)]
    rw [uintB_small (by omega)]; rfl
  obtain ⟨q1, q2, q3, q4, q5⟩ := full_math hok h
  rw [hsz] at q1 q2 q3 q4 q5
  obtain ⟨Hd, hHd⟩ : ∃ H, headB ⟨N, 0, k⟩ = H := ⟨_, rfl⟩
  rw [hHd] at q1 q2 q3 q4 q5 hhd
  have HL : Hid (Hd.length = 3) := by unfold Hid; rw [hhd]; rfl
  have HQ : Hid (ckE (Hd ++ List.replicate m 0) = 0 ∧ (rdP (Hd ++ List.replicate m 255)).many = N ∧ hasB (Hd ++ List.replicate m 0) h = false ∧ hasB (Hd ++ List.replicate m 255) h = decide (0 < N) ∧ ckE ((Hd ++ List.replicate m 255) ++ [255]) = 4) := ⟨q1, q2, q3, q4, q5⟩
  have HM : Hid (m ≤ 3000) := by show m ≤ _; omega
  obtain ⟨wh, hwh⟩ : ∃ wh, (w.alloc (.cells (c8 h).toArray 29)).alloc (.cells #[.int .u8 (N : Int), .int .u8 0, .int .u8 (k : Int)] 5) = wh := ⟨_, rfl⟩
  have HW : Hid (After w wh ∧ RowIs wh w.heap.size 29 (c8 h) ∧ BytesAt wh (some ⟨w.heap.size + 1, 0, none⟩) Hd) := by
    have e1 : (UInt8.ofNat N).toNat = N := by rw [UInt8.toNat_ofNat_of_lt' (by show N < 256; omega)]
    have e2 : (UInt8.ofNat k).toNat = k := by rw [UInt8.toNat_ofNat_of_lt' (by show k < 256; omega)]
    refine ⟨by rw [← hwh]; exact after_alloc (after_alloc (After.refl w) _) _, by rw [← hwh]; exact (RowIs.new w 29 (c8 h)).alloc _, ?_⟩
    have hr : RowIs wh (w.heap.size + 1) 5 (c8 Hd) := by
      have hcc : c8 Hd = [.int .u8 (N : Int), .int .u8 0, .int .u8 (k : Int)] := by rw [hhd]; simp [c8, e1, e2]
      have hn := RowIs.new ((w.alloc (.cells (c8 h).toArray 29))) 5 ([.int .u8 (N : Int), .int .u8 0, .int .u8 (k : Int)])
      rw [hcc, ← hwh]
      simpa using hn
    exact row_bytes hr
  obtain ⟨gh, hgh⟩ : ∃ g, w.heap.size + 1 = g := ⟨_, rfl⟩
  clear hk0 hk hnk hnk7 hm hnkl hok hsz hhd q1 q2 q3 q4 q5 hHd
  rw [hgh] at HW
  have hNi : ¬ (128 : Int) ≤ (N : Int) := by omega
  have hNd : decide ((128 : Int) ≤ (N : Int)) = false := decide_eq_false hNi
  go_enter Try.func8, Try.ntmps8
  go_wp2_with (first
    | (refine wpList_of_run rfl (x_conv53 (x := .tmp 13) (p := BB) rfl rfl HK.out.2.2.2.2.2.2.2.2) ?_)
    | (refine wpList_of_run rfl (x_remi (x := .tmp 14) (y := .const (.int .i64 64)) (p := BB) (q := 64) (r := k0) rfl rfl rfl HK.out.1 (by omega)) ?_)
    | (refine wpList_of_run rfl (x_addi (x := .tmp 15) (y := .const (.int .i64 1)) (p := k0) (q := 1) (r := k) rfl rfl rfl HK.out.2.1 (by have := HK.out; omega)) ?_)
    | (refine wpList_of_run rfl (x_conv53 (x := .tmp 17) (p := N) rfl rfl HK.out.2.2.2.2.2.2.2.1) ?_)
    | (refine wpList_of_run rfl (x_muli (x := .tmp 18) (y := .tmp 19) (p := N) (q := k) (r := nk) rfl rfl rfl HK.out.2.2.1 (by have := HK.out; omega)) ?_)
    | (refine wpList_of_run rfl (x_addi (x := .tmp 20) (y := .const (.int .i64 7)) (p := nk) (q := 7) (r := nk7) rfl rfl rfl HK.out.2.2.2.1 (by have := HK.out; omega)) ?_)
    | (refine wpList_of_run rfl (x_quoi (x := .tmp 21) (y := .const (.int .i64 8)) (p := nk7) (q := 8) (r := m) rfl rfl rfl HK.out.2.2.2.2.1 (by omega) (by have := HM.out; omega)) ?_)
    | (refine wpList_of_run rfl (x_conv35 (x := .tmp 24) (p := k) rfl rfl (by have := HK.out; omega)) ?_)
    | (refine wpList_of_run rfl (x_conv35 (x := .tmp 30) (p := k) rfl rfl (by have := HK.out; omega)) ?_)
    | (at_builtin; have _t := H1.out; clear _t; obtain ⟨u2, w2, he2, ho2, hg2, hat2⟩ := run_append_at (w1.alloc (.cells #[] 5)) 26 wh.heap.size (.slice (some ⟨w1.heap.size, 0, none⟩) 0 0) [] H1.out.1.snd ⟨gh, 0, none⟩ 3 Hd 3 HL.out H1.out.2.1 (by have := HL.out; simp; omega) H1.out.2.2.size; refine wpList_of_run rfl (x_app (s := .tmp 36) (x := .tmp 37) rfl rfl rfl he2) ?_; have H2 := show Hid (Two w2 wh.heap.size u1 u2 Hd Hd ∧ After wh w2) from ⟨(H1.out.1.swap.grow ho2 hg2 hat2).swap, after_grown H1.out.2.2 hg2 (Nat.le_refl _) (fun k hk => (World.ownsRow.lt H1.out.1.snd k hk).1)⟩; clear he2 ho2 hg2 hat2)
    | (at_builtin; obtain ⟨u1, w1, he1, ho1, hg1, hat1⟩ := run_append_at (wh.alloc (.cells #[] 5)) 26 wh.heap.size (.slice (some ⟨wh.heap.size, 0, none⟩) 0 0) [] (Own.fresh wh) ⟨gh, 0, none⟩ 3 Hd 3 HL.out (HW.out.2.2.after (after_alloc (After.refl wh) _)) (by have := HL.out; simp; omega) (after_alloc (After.refl wh) _).size; refine wpList_of_run rfl (x_app (s := .tmp 33) (x := .tmp 34) rfl rfl rfl he1) ?_; have hA1 : After wh w1 := after_grown (after_alloc (After.refl wh) (.cells #[] 5)) hg1 (Nat.le_refl _) (fun k hk => (World.ownsRow.lt (Own.fresh wh) k hk).1); have H1 := show Hid (Two (w1.alloc (.cells #[] 5)) wh.heap.size u1 (.slice (some ⟨w1.heap.size, 0, none⟩) 0 0) Hd [] ∧ BytesAt (w1.alloc (.cells #[] 5)) (some ⟨gh, 0, none⟩) Hd ∧ After wh (w1.alloc (.cells #[] 5))) from ⟨⟨Own.below ho1 (after_alloc (After.refl w1) _) (Nat.le_refl _), (Own.fresh w1).mono hA1.size, fun g hu hv => (by have := (World.ownsRow.lt ho1 g hu).2; cases hv; exact Nat.lt_irrefl _ this)⟩, HW.out.2.2.after (after_alloc hA1 _), after_alloc hA1 _⟩; clear he1 ho1 hg1 hat1 hA1))
  clear hwh
  go_loopw [10, 11, 12] (fun su sv i wr => ∃ (j : Nat), j ≤ m ∧ i = .int .i64 j ∧ Hid (Two wr wh.heap.size su sv (Hd ++ List.replicate j 0) (Hd ++ List.replicate j 255) ∧ After wh wr)) (fun _ _ i _ => m - (intOf i).toNat)
  case atStart => exact ⟨0, by omega, rfl, by simpa using H2.out.1, H2.out.2⟩
  case round =>
    obtain ⟨j, hj, rfl, HI⟩ := hrel
    by_cases hlt : j < m
    · have hji : (j : Int) < (m : Int) := by omega
      have hmb := HM.out
      obtain ⟨A, hA⟩ : ∃ A, Hd ++ List.replicate j 0 = A := ⟨_, rfl⟩
      obtain ⟨B, hB'⟩ : ∃ B, Hd ++ List.replicate j 255 = B := ⟨_, rfl⟩
      have HAB : Hid (A ++ [0] = Hd ++ List.replicate (j + 1) 0 ∧ B ++ [255] = Hd ++ List.replicate (j + 1) 255 ∧ A.length ≤ 4000 ∧ B.length ≤ 4000) := by
        have hl := HL.out
        refine ⟨by rw [← hA, List.append_assoc, ← List.replicate_succ'], by rw [← hB', List.append_assoc, ← List.replicate_succ'], by rw [← hA, List.length_append, List.length_replicate]; omega, by rw [← hB', List.length_append, List.length_replicate]; omega⟩
      rw [hA, hB'] at HI
      have H0 : Hid (Two (wr.alloc (.cells #[.int .u8 0] 5)) wh.heap.size u10 u11 A B ∧ After wh (wr.alloc (.cells #[.int .u8 0] 5)) ∧ BytesAt (wr.alloc (.cells #[.int .u8 0] 5)) (some ⟨wr.heap.size, 0, none⟩) [0]) := ⟨HI.out.1.after (after_alloc (After.refl wr) _), after_alloc HI.out.2 _, BytesAt.one wr 0⟩
      clear hA hB'
      go_wp2_with (first
        | (at_builtin; have _t := H3.out; clear _t; obtain ⟨v4, w4, he4, ho4, hg4, hat4⟩ := run_append_at (w3.alloc (.cells #[.int .u8 255] 5)) 26 wh.heap.size u11 B H3.out.1.snd ⟨w3.heap.size, 0, none⟩ 1 [255] 1 rfl H3.out.2.2 (by have := HAB.out.2.2.2; simp only [List.length_cons, List.length_nil]; omega) H3.out.2.1.size; refine wpList_of_run rfl (x_app (s := .tmp 47) (x := .tmp 48) rfl rfl rfl he4) ?_; have H4 := show Hid (Two w4 wh.heap.size v3 v4 (Hd ++ List.replicate (j + 1) 0) (Hd ++ List.replicate (j + 1) 255) ∧ After wh w4) from ⟨by rw [← HAB.out.1, ← HAB.out.2.1]; exact (H3.out.1.swap.grow ho4 hg4 hat4).swap, after_grown H3.out.2.1 hg4 (Nat.le_refl _) (fun k hk => (World.ownsRow.lt H3.out.1.snd k hk).1)⟩; clear he4 ho4 hg4 hat4)
        | (at_builtin; obtain ⟨v3, w3, he3, ho3, hg3, hat3⟩ := run_append_at (wr.alloc (.cells #[.int .u8 0] 5)) 26 wh.heap.size u10 A H0.out.1.fst ⟨wr.heap.size, 0, none⟩ 1 [0] 1 rfl H0.out.2.2 (by have := HAB.out.2.2.1; simp only [List.length_cons, List.length_nil]; omega) H0.out.2.1.size; refine wpList_of_run rfl (x_app (s := .tmp 44) (x := .tmp 45) rfl rfl rfl he3) ?_; have H3 := show Hid (Two (w3.alloc (.cells #[.int .u8 255] 5)) wh.heap.size v3 u11 (A ++ [0]) B ∧ After wh (w3.alloc (.cells #[.int .u8 255] 5)) ∧ BytesAt (w3.alloc (.cells #[.int .u8 255] 5)) (some ⟨w3.heap.size, 0, none⟩) [255]) from ⟨(H0.out.1.grow ho3 hg3 hat3).after (after_alloc (After.refl w3) _), after_alloc (after_grown H0.out.2.1 hg3 (Nat.le_refl _) (fun k hk => (World.ownsRow.lt H0.out.1.fst k hk).1)) _, BytesAt.one w3 255⟩; clear he3 ho3 hg3 hat3))
      go_roundw
      case rel => exact ⟨j + 1, by omega, by go_num, H4.out⟩
      case measure => simp [intOf]; omega
    · obtain rfl : j = m := by omega
      have hji : ¬ (j : Int) < (j : Int) := by omega
      obtain ⟨A, hA⟩ : ∃ A, Hd ++ List.replicate j 0 = A := ⟨_, rfl⟩
      obtain ⟨B, hB'⟩ : ∃ B, Hd ++ List.replicate j 255 = B := ⟨_, rfl⟩
      rw [hA, hB'] at HI HQ
      obtain ⟨K, hKA⟩ : ∃ K, A.length = K := ⟨_, rfl⟩
      have hKB : B.length = K := by rw [← hKA, ← hA, ← hB']; simp
      have hKl : K ≤ 4000 := by rw [← hKA, ← hA, List.length_append, List.length_replicate]; have := HL.out; have := HM.out; omega
      obtain ⟨ua, uc, rfl, hua, hule, _⟩ := HI.out.1.fst.at
      obtain ⟨va, vc, hve, hva, hvle, _⟩ := HI.out.1.snd.at
      subst hve
      rw [hKA] at hule HI ⊢
      rw [hKB] at hvle HI ⊢
      have HU : Hid (A.length = K ∧ B.length = K ∧ K ≤ 4000 ∧ K ≤ uc ∧ K ≤ vc ∧ BytesAt wr ua A ∧ BytesAt wr va B ∧ After wh wr ∧ Own wr wh.heap.size (.slice va K vc) B ∧ K ≤ 1152921504606846976) := ⟨hKA, hKB, hKl, hule, hvle, hua, hva, HI.out.2, HI.out.1.snd, by omega⟩
      have HH : Hid (RowIs wh w.heap.size 29 (c8 h) ∧ h.length = 32) := ⟨HW.out.2.1, h32⟩
      clear hA hB' hKA hKB hKl hua hva hule hvle HI
      by_cases hN0 : 0 < N
      · have n0 : (0 : Int) < (N : Int) := by omega
        have hdN : decide (0 < N) = true := decide_eq_true hN0
        rw [hdN] at HQ
        clear hdN
        go_wp2_with (first
          | (go_at_call 10; refine Calls.mono (awake_any w9) ?_; rintro e w10 ⟨rfl, ha⟩; have H10 := show Hid (After wh w10) from H9.out.trans ha; clear ha)
          | (go_at_call 13; have _t := H8.out; clear _t; refine Calls.mono (bcheck_any v8a (K + 1) v8c (B ++ [255]) H8.out.2.2.1 H8.out.2.2.2 (by have := HU.out.2.2.1; omega) w8 H8.out.2.1) ?_; rintro e w9 ⟨rfl, ha⟩; rw [HQ.out.2.2.2.2]; have H9 := show Hid (After wh w9) from H8.out.1.trans ha; clear ha)
          | (at_builtin; have _t := H7.out; clear _t; obtain ⟨v8, w8, he8, ho8, hg8, hat8⟩ := run_append_at (w7.alloc (.cells #[.int .u8 255] 5)) 26 wh.heap.size (.slice va K vc) B (Own.below HU.out.2.2.2.2.2.2.2.2.1 (after_alloc H7.out _) (Nat.le_refl _)) ⟨w7.heap.size, 0, none⟩ 1 [255] 1 rfl (BytesAt.one w7 255) (by have := HU.out.2.1; have := HU.out.2.2.1; simp only [List.length_cons, List.length_nil]; omega) (HU.out.2.2.2.2.2.2.2.1.trans (after_alloc H7.out _)).size; refine wpListG_of_run rfl (x_app (s := .tmp 75) (x := .tmp 76) rfl rfl rfl he8) ?_; obtain ⟨v8a, v8c, rfl, hva8, hvl8, _⟩ := ho8.at; have hl8 : (B ++ [255]).length = K + 1 := (by rw [List.length_append, HU.out.2.1]; rfl); rw [hl8] at hvl8 ⊢; have H8 := show Hid (After wh w8 ∧ BytesAt w8 v8a (B ++ [255]) ∧ (B ++ [255]).length = K + 1 ∧ K + 1 ≤ v8c) from ⟨after_grown (HU.out.2.2.2.2.2.2.2.1.trans (after_alloc H7.out _)) hg8 (Nat.le_refl _) (fun k hk => (World.ownsRow.lt HU.out.2.2.2.2.2.2.2.2.1 k hk).1), hva8, hl8, hvl8⟩; clear he8 ho8 hg8 hat8 hva8 hvl8 hl8)
          | (go_at_call 17; have _t := H6.out; clear _t; refine Calls.mono (bhas_any va K vc B h HH.out.2 HU.out.2.1 HU.out.2.2.2.2.1 HU.out.2.2.2.2.2.2.2.2.2 w6 (HU.out.2.2.2.2.2.2.1.after H6.out)) ?_; rintro e w7 ⟨rfl, ha⟩; rw [HQ.out.2.2.2.1]; have H7 := show Hid (After wr w7) from H6.out.trans ha; clear ha H6)
          | (have _t := H6.out; clear _t; refine wpListG_of_run rfl (x_ld29 (x := .tmp 5) (g := w.heap.size) (h := h) HH.out.2 rfl rfl (HH.out.1.below (HU.out.2.2.2.2.2.2.2.1.trans H6.out) HH.out.1.lt)) ?_)
          | (go_at_call 17; have _t := H5.out; clear _t; refine Calls.mono (bhas_any ua K uc A h HH.out.2 HU.out.1 HU.out.2.2.2.1 HU.out.2.2.2.2.2.2.2.2.2 w5 (HU.out.2.2.2.2.2.1.after H5.out)) ?_; rintro e w6 ⟨rfl, ha⟩; rw [HQ.out.2.2.1]; have H6 := show Hid (After wr w6) from H5.out.trans ha; clear ha H5)
          | (have _t := H5.out; clear _t; refine wpListG_of_run rfl (x_ld29 (x := .tmp 5) (g := w.heap.size) (h := h) HH.out.2 rfl rfl (HH.out.1.below (HU.out.2.2.2.2.2.2.2.1.trans H5.out) HH.out.1.lt)) ?_)
          | (refine wpListG_of_run rfl (x_conv53 (x := .tmp 56) (p := N) rfl rfl HK.out.2.2.2.2.2.2.2.1) ?_)
          | (go_at_call 15; have _t := H4.out; clear _t; refine Calls.mono (bmany_any va K vc B HU.out.2.1 HU.out.2.2.2.2.1 HU.out.2.2.2.2.2.2.2.2.2 w4 (HU.out.2.2.2.2.2.2.1.after H4.out)) ?_; rintro e w5 ⟨rfl, ha⟩; rw [HQ.out.2.1]; have H5 := show Hid (After wr w5) from H4.out.trans ha; clear ha H4)
          | (go_at_call 13; refine Calls.mono (bcheck_any ua K uc A HU.out.1 HU.out.2.2.2.1 HU.out.2.2.2.2.2.2.2.2.2 wr HU.out.2.2.2.2.2.1) ?_; rintro e w4 ⟨rfl, ha⟩; rw [HQ.out.1]; have H4 := show Hid (After wr w4) from ha; clear ha))
        go_ret
        exact ⟨rfl, HW.out.1.trans H10.out⟩
      · have n0 : ¬ (0 : Int) < (N : Int) := by omega
        have hdN : decide (0 < N) = false := decide_eq_false hN0
        rw [hdN] at HQ
        clear hdN
        go_wp2_with (first
          | (go_at_call 10; refine Calls.mono (awake_any w9) ?_; rintro e w10 ⟨rfl, ha⟩; have H10 := show Hid (After wh w10) from H9.out.trans ha; clear ha)
          | (go_at_call 13; have _t := H8.out; clear _t; refine Calls.mono (bcheck_any v8a (K + 1) v8c (B ++ [255]) H8.out.2.2.1 H8.out.2.2.2 (by have := HU.out.2.2.1; omega) w8 H8.out.2.1) ?_; rintro e w9 ⟨rfl, ha⟩; rw [HQ.out.2.2.2.2]; have H9 := show Hid (After wh w9) from H8.out.1.trans ha; clear ha)
          | (at_builtin; have _t := H7.out; clear _t; obtain ⟨v8, w8, he8, ho8, hg8, hat8⟩ := run_append_at (w7.alloc (.cells #[.int .u8 255] 5)) 26 wh.heap.size (.slice va K vc) B (Own.below HU.out.2.2.2.2.2.2.2.2.1 (after_alloc H7.out _) (Nat.le_refl _)) ⟨w7.heap.size, 0, none⟩ 1 [255] 1 rfl (BytesAt.one w7 255) (by have := HU.out.2.1; have := HU.out.2.2.1; simp only [List.length_cons, List.length_nil]; omega) (HU.out.2.2.2.2.2.2.2.1.trans (after_alloc H7.out _)).size; refine wpListG_of_run rfl (x_app (s := .tmp 75) (x := .tmp 76) rfl rfl rfl he8) ?_; obtain ⟨v8a, v8c, rfl, hva8, hvl8, _⟩ := ho8.at; have hl8 : (B ++ [255]).length = K + 1 := (by rw [List.length_append, HU.out.2.1]; rfl); rw [hl8] at hvl8 ⊢; have H8 := show Hid (After wh w8 ∧ BytesAt w8 v8a (B ++ [255]) ∧ (B ++ [255]).length = K + 1 ∧ K + 1 ≤ v8c) from ⟨after_grown (HU.out.2.2.2.2.2.2.2.1.trans (after_alloc H7.out _)) hg8 (Nat.le_refl _) (fun k hk => (World.ownsRow.lt HU.out.2.2.2.2.2.2.2.2.1 k hk).1), hva8, hl8, hvl8⟩; clear he8 ho8 hg8 hat8 hva8 hvl8 hl8)
          | (go_at_call 17; have _t := H6.out; clear _t; refine Calls.mono (bhas_any va K vc B h HH.out.2 HU.out.2.1 HU.out.2.2.2.2.1 HU.out.2.2.2.2.2.2.2.2.2 w6 (HU.out.2.2.2.2.2.2.1.after H6.out)) ?_; rintro e w7 ⟨rfl, ha⟩; rw [HQ.out.2.2.2.1]; have H7 := show Hid (After wr w7) from H6.out.trans ha; clear ha H6)
          | (have _t := H6.out; clear _t; refine wpListG_of_run rfl (x_ld29 (x := .tmp 5) (g := w.heap.size) (h := h) HH.out.2 rfl rfl (HH.out.1.below (HU.out.2.2.2.2.2.2.2.1.trans H6.out) HH.out.1.lt)) ?_)
          | (go_at_call 17; have _t := H5.out; clear _t; refine Calls.mono (bhas_any ua K uc A h HH.out.2 HU.out.1 HU.out.2.2.2.1 HU.out.2.2.2.2.2.2.2.2.2 w5 (HU.out.2.2.2.2.2.1.after H5.out)) ?_; rintro e w6 ⟨rfl, ha⟩; rw [HQ.out.2.2.1]; have H6 := show Hid (After wr w6) from H5.out.trans ha; clear ha H5)
          | (have _t := H5.out; clear _t; refine wpListG_of_run rfl (x_ld29 (x := .tmp 5) (g := w.heap.size) (h := h) HH.out.2 rfl rfl (HH.out.1.below (HU.out.2.2.2.2.2.2.2.1.trans H5.out) HH.out.1.lt)) ?_)
          | (refine wpListG_of_run rfl (x_conv53 (x := .tmp 56) (p := N) rfl rfl HK.out.2.2.2.2.2.2.2.1) ?_)
          | (go_at_call 15; have _t := H4.out; clear _t; refine Calls.mono (bmany_any va K vc B HU.out.2.1 HU.out.2.2.2.2.1 HU.out.2.2.2.2.2.2.2.2.2 w4 (HU.out.2.2.2.2.2.2.1.after H4.out)) ?_; rintro e w5 ⟨rfl, ha⟩; rw [HQ.out.2.1]; have H5 := show Hid (After wr w5) from H4.out.trans ha; clear ha H4)
          | (go_at_call 13; refine Calls.mono (bcheck_any ua K uc A HU.out.1 HU.out.2.2.2.1 HU.out.2.2.2.2.2.2.2.2.2 wr HU.out.2.2.2.2.2.1) ?_; rintro e w4 ⟨rfl, ha⟩; rw [HQ.out.1]; have H4 := show Hid (After wr w4) from ha; clear ha))
        go_ret
        exact ⟨rfl, HW.out.1.trans H10.out⟩

set_option maxRecDepth 100000 in
set_option maxHeartbeats 6000000 in
theorem full_big (N BB : Nat) (hN : 128 ≤ N) (hN2 : N < 256) (hB : BB < 256) (h : Hs) (h32 : h.length = 32) (w : World) :
    Calls Try.prog 8 #[.int .u8 (N : Int), .int .u8 (BB : Int), .agg (c8 h).toArray] w fun e w' => e = .returned (.bool true) ∧ After w w' := by
  obtain ⟨k0, hk0⟩ : ∃ k, BB % 64 = k := ⟨_, rfl⟩
  obtain ⟨k, hk⟩ : ∃ k', k0 + 1 = k' := ⟨_, rfl⟩
  obtain ⟨nk, hnk⟩ : ∃ m, N * k = m := ⟨_, rfl⟩
  obtain ⟨nk7, hnk7⟩ : ∃ m, nk + 7 = m := ⟨_, rfl⟩
  obtain ⟨m, hm⟩ : ∃ m, nk7 / 8 = m := ⟨_, rfl⟩
  have hnkl : nk ≤ 255 * 64 := by rw [← hnk]; exact Nat.mul_le_mul (by omega) (by omega)
  have HK : Hid (BB % 64 = k0 ∧ k0 + 1 = k ∧ N * k = nk ∧ nk + 7 = nk7 ∧ nk7 / 8 = m ∧ k ≤ 64 ∧ nk ≤ 16320 ∧ N < 256 ∧ BB < 256) := ⟨hk0, hk, hnk, hnk7, hm, by omega, by omega, by omega, hB⟩
  have hok : (Prt.mk N 0 k).Ok := ⟨by show N ≤ _; omega, by show 0 < _; omega, by show 1 ≤ k; omega, by show k ≤ _; omega⟩
  have hsz : (Prt.mk N 0 k).size = m := by show (N * k + 7) / 8 = m; rw [hnk, hnk7, hm]
  have hhd : headB ⟨N, 0, k⟩ = [UInt8.ofNat N, 1, 0, UInt8.ofNat k] := by
    rw [full_head (by omega)]
    unfold uintB; rw [if_neg (by omega), uintB_small (by omega), show N % 128 + 128 = N by omega, show N / 128 = 1 by omega]; rfl
  obtain ⟨q1, q2, q3, q4, q5⟩ := full_math hok h
  rw [hsz] at q1 q2 q3 q4 q5
  obtain ⟨Hd, hHd⟩ : ∃ H, headB ⟨N, 0, k⟩ = H := ⟨_, rfl⟩
  rw [hHd] at q1 q2 q3 q4 q5 hhd
  have HL : Hid (Hd.length = 4) := by unfold Hid; rw [hhd]; rfl
  have HQ : Hid (ckE (Hd ++ List.replicate m 0) = 0 ∧ (rdP (Hd ++ List.replicate m 255)).many = N ∧ hasB (Hd ++ List.replicate m 0) h = false ∧ hasB (Hd ++ List.replicate m 255) h = decide (0 < N) ∧ ckE ((Hd ++ List.replicate m 255) ++ [255]) = 4) := ⟨q1, q2, q3, q4, q5⟩
  have HM : Hid (m ≤ 3000) := by show m ≤ _; omega
  obtain ⟨wh, hwh⟩ : ∃ wh, ((w.alloc (.cells (c8 h).toArray 29)).alloc (.cells #[.int .u8 (N : Int), .int .u8 0, .int .u8 (k : Int)] 5)).alloc (.cells #[.int .u8 (N : Int), .int .u8 1, .int .u8 0, .int .u8 (k : Int)] 5) = wh := ⟨_, rfl⟩
  have HW : Hid (After w wh ∧ RowIs wh w.heap.size 29 (c8 h) ∧ BytesAt wh (some ⟨w.heap.size + 1 + 1, 0, none⟩) Hd) := by
    have e1 : (UInt8.ofNat N).toNat = N := by rw [UInt8.toNat_ofNat_of_lt' (by show N < 256; omega)]
    have e2 : (UInt8.ofNat k).toNat = k := by rw [UInt8.toNat_ofNat_of_lt' (by show k < 256; omega)]
    refine ⟨by rw [← hwh]; exact after_alloc (after_alloc (after_alloc (After.refl w) _) _) _, by rw [← hwh]; exact ((RowIs.new w 29 (c8 h)).alloc _).alloc _, ?_⟩
    have hr : RowIs wh (w.heap.size + 1 + 1) 5 (c8 Hd) := by
      have hcc : c8 Hd = [.int .u8 (N : Int), .int .u8 1, .int .u8 0, .int .u8 (k : Int)] := by rw [hhd]; simp [c8, e1, e2]
      have hn := RowIs.new (((w.alloc (.cells (c8 h).toArray 29)).alloc (.cells #[.int .u8 (N : Int), .int .u8 0, .int .u8 (k : Int)] 5))) 5 ([.int .u8 (N : Int), .int .u8 1, .int .u8 0, .int .u8 (k : Int)])
      rw [hcc, ← hwh]
      simpa using hn
    exact row_bytes hr
  obtain ⟨gh, hgh⟩ : ∃ g, w.heap.size + 1 + 1 = g := ⟨_, rfl⟩
  clear hk0 hk hnk hnk7 hm hnkl hok hsz hhd q1 q2 q3 q4 q5 hHd
  rw [hgh] at HW
  have hNi : (128 : Int) ≤ (N : Int) := by omega
  have hNd : decide ((128 : Int) ≤ (N : Int)) = true := decide_eq_true hNi
  go_enter Try.func8, Try.ntmps8
  go_wp2_with (first
    | (refine wpList_of_run rfl (x_conv53 (x := .tmp 13) (p := BB) rfl rfl HK.out.2.2.2.2.2.2.2.2) ?_)
    | (refine wpList_of_run rfl (x_remi (x := .tmp 14) (y := .const (.int .i64 64)) (p := BB) (q := 64) (r := k0) rfl rfl rfl HK.out.1 (by omega)) ?_)
    | (refine wpList_of_run rfl (x_addi (x := .tmp 15) (y := .const (.int .i64 1)) (p := k0) (q := 1) (r := k) rfl rfl rfl HK.out.2.1 (by have := HK.out; omega)) ?_)
    | (refine wpList_of_run rfl (x_conv53 (x := .tmp 17) (p := N) rfl rfl HK.out.2.2.2.2.2.2.2.1) ?_)
    | (refine wpList_of_run rfl (x_muli (x := .tmp 18) (y := .tmp 19) (p := N) (q := k) (r := nk) rfl rfl rfl HK.out.2.2.1 (by have := HK.out; omega)) ?_)
    | (refine wpList_of_run rfl (x_addi (x := .tmp 20) (y := .const (.int .i64 7)) (p := nk) (q := 7) (r := nk7) rfl rfl rfl HK.out.2.2.2.1 (by have := HK.out; omega)) ?_)
    | (refine wpList_of_run rfl (x_quoi (x := .tmp 21) (y := .const (.int .i64 8)) (p := nk7) (q := 8) (r := m) rfl rfl rfl HK.out.2.2.2.2.1 (by omega) (by have := HM.out; omega)) ?_)
    | (refine wpList_of_run rfl (x_conv35 (x := .tmp 24) (p := k) rfl rfl (by have := HK.out; omega)) ?_)
    | (refine wpList_of_run rfl (x_conv35 (x := .tmp 30) (p := k) rfl rfl (by have := HK.out; omega)) ?_)
    | (at_builtin; have _t := H1.out; clear _t; obtain ⟨u2, w2, he2, ho2, hg2, hat2⟩ := run_append_at (w1.alloc (.cells #[] 5)) 26 wh.heap.size (.slice (some ⟨w1.heap.size, 0, none⟩) 0 0) [] H1.out.1.snd ⟨gh, 0, none⟩ 4 Hd 4 HL.out H1.out.2.1 (by have := HL.out; simp; omega) H1.out.2.2.size; refine wpList_of_run rfl (x_app (s := .tmp 36) (x := .tmp 37) rfl rfl rfl he2) ?_; have H2 := show Hid (Two w2 wh.heap.size u1 u2 Hd Hd ∧ After wh w2) from ⟨(H1.out.1.swap.grow ho2 hg2 hat2).swap, after_grown H1.out.2.2 hg2 (Nat.le_refl _) (fun k hk => (World.ownsRow.lt H1.out.1.snd k hk).1)⟩; clear he2 ho2 hg2 hat2)
    | (at_builtin; obtain ⟨u1, w1, he1, ho1, hg1, hat1⟩ := run_append_at (wh.alloc (.cells #[] 5)) 26 wh.heap.size (.slice (some ⟨wh.heap.size, 0, none⟩) 0 0) [] (Own.fresh wh) ⟨gh, 0, none⟩ 4 Hd 4 HL.out (HW.out.2.2.after (after_alloc (After.refl wh) _)) (by have := HL.out; simp; omega) (after_alloc (After.refl wh) _).size; refine wpList_of_run rfl (x_app (s := .tmp 33) (x := .tmp 34) rfl rfl rfl he1) ?_; have hA1 : After wh w1 := after_grown (after_alloc (After.refl wh) (.cells #[] 5)) hg1 (Nat.le_refl _) (fun k hk => (World.ownsRow.lt (Own.fresh wh) k hk).1); have H1 := show Hid (Two (w1.alloc (.cells #[] 5)) wh.heap.size u1 (.slice (some ⟨w1.heap.size, 0, none⟩) 0 0) Hd [] ∧ BytesAt (w1.alloc (.cells #[] 5)) (some ⟨gh, 0, none⟩) Hd ∧ After wh (w1.alloc (.cells #[] 5))) from ⟨⟨Own.below ho1 (after_alloc (After.refl w1) _) (Nat.le_refl _), (Own.fresh w1).mono hA1.size, fun g hu hv => (by have := (World.ownsRow.lt ho1 g hu).2; cases hv; exact Nat.lt_irrefl _ this)⟩, HW.out.2.2.after (after_alloc hA1 _), after_alloc hA1 _⟩; clear he1 ho1 hg1 hat1 hA1))
  clear hwh
  go_loopw [10, 11, 12] (fun su sv i wr => ∃ (j : Nat), j ≤ m ∧ i = .int .i64 j ∧ Hid (Two wr wh.heap.size su sv (Hd ++ List.replicate j 0) (Hd ++ List.replicate j 255) ∧ After wh wr)) (fun _ _ i _ => m - (intOf i).toNat)
  case atStart => exact ⟨0, by omega, rfl, by simpa using H2.out.1, H2.out.2⟩
  case round =>
    obtain ⟨j, hj, rfl, HI⟩ := hrel
    by_cases hlt : j < m
    · have hji : (j : Int) < (m : Int) := by omega
      have hmb := HM.out
      obtain ⟨A, hA⟩ : ∃ A, Hd ++ List.replicate j 0 = A := ⟨_, rfl⟩
      obtain ⟨B, hB'⟩ : ∃ B, Hd ++ List.replicate j 255 = B := ⟨_, rfl⟩
      have HAB : Hid (A ++ [0] = Hd ++ List.replicate (j + 1) 0 ∧ B ++ [255] = Hd ++ List.replicate (j + 1) 255 ∧ A.length ≤ 4000 ∧ B.length ≤ 4000) := by
        have hl := HL.out
        refine ⟨by rw [← hA, List.append_assoc, ← List.replicate_succ'], by rw [← hB', List.append_assoc, ← List.replicate_succ'], by rw [← hA, List.length_append, List.length_replicate]; omega, by rw [← hB', List.length_append, List.length_replicate]; omega⟩
      rw [hA, hB'] at HI
      have H0 : Hid (Two (wr.alloc (.cells #[.int .u8 0] 5)) wh.heap.size u10 u11 A B ∧ After wh (wr.alloc (.cells #[.int .u8 0] 5)) ∧ BytesAt (wr.alloc (.cells #[.int .u8 0] 5)) (some ⟨wr.heap.size, 0, none⟩) [0]) := ⟨HI.out.1.after (after_alloc (After.refl wr) _), after_alloc HI.out.2 _, BytesAt.one wr 0⟩
      clear hA hB'
      go_wp2_with (first
        | (at_builtin; have _t := H3.out; clear _t; obtain ⟨v4, w4, he4, ho4, hg4, hat4⟩ := run_append_at (w3.alloc (.cells #[.int .u8 255] 5)) 26 wh.heap.size u11 B H3.out.1.snd ⟨w3.heap.size, 0, none⟩ 1 [255] 1 rfl H3.out.2.2 (by have := HAB.out.2.2.2; simp only [List.length_cons, List.length_nil]; omega) H3.out.2.1.size; refine wpList_of_run rfl (x_app (s := .tmp 47) (x := .tmp 48) rfl rfl rfl he4) ?_; have H4 := show Hid (Two w4 wh.heap.size v3 v4 (Hd ++ List.replicate (j + 1) 0) (Hd ++ List.replicate (j + 1) 255) ∧ After wh w4) from ⟨by rw [← HAB.out.1, ← HAB.out.2.1]; exact (H3.out.1.swap.grow ho4 hg4 hat4).swap, after_grown H3.out.2.1 hg4 (Nat.le_refl _) (fun k hk => (World.ownsRow.lt H3.out.1.snd k hk).1)⟩; clear he4 ho4 hg4 hat4)
        | (at_builtin; obtain ⟨v3, w3, he3, ho3, hg3, hat3⟩ := run_append_at (wr.alloc (.cells #[.int .u8 0] 5)) 26 wh.heap.size u10 A H0.out.1.fst ⟨wr.heap.size, 0, none⟩ 1 [0] 1 rfl H0.out.2.2 (by have := HAB.out.2.2.1; simp only [List.length_cons, List.length_nil]; omega) H0.out.2.1.size; refine wpList_of_run rfl (x_app (s := .tmp 44) (x := .tmp 45) rfl rfl rfl he3) ?_; have H3 := show Hid (Two (w3.alloc (.cells #[.int .u8 255] 5)) wh.heap.size v3 u11 (A ++ [0]) B ∧ After wh (w3.alloc (.cells #[.int .u8 255] 5)) ∧ BytesAt (w3.alloc (.cells #[.int .u8 255] 5)) (some ⟨w3.heap.size, 0, none⟩) [255]) from ⟨(H0.out.1.grow ho3 hg3 hat3).after (after_alloc (After.refl w3) _), after_alloc (after_grown H0.out.2.1 hg3 (Nat.le_refl _) (fun k hk => (World.ownsRow.lt H0.out.1.fst k hk).1)) _, BytesAt.one w3 255⟩; clear he3 ho3 hg3 hat3))
      go_roundw
      case rel => exact ⟨j + 1, by omega, by go_num, H4.out⟩
      case measure => simp [intOf]; omega
    · obtain rfl : j = m := by omega
      have hji : ¬ (j : Int) < (j : Int) := by omega
      obtain ⟨A, hA⟩ : ∃ A, Hd ++ List.replicate j 0 = A := ⟨_, rfl⟩
      obtain ⟨B, hB'⟩ : ∃ B, Hd ++ List.replicate j 255 = B := ⟨_, rfl⟩
      rw [hA, hB'] at HI HQ
      obtain ⟨K, hKA⟩ : ∃ K, A.length = K := ⟨_, rfl⟩
      have hKB : B.length = K := by rw [← hKA, ← hA, ← hB']; simp
      have hKl : K ≤ 4000 := by rw [← hKA, ← hA, List.length_append, List.length_replicate]; have := HL.out; have := HM.out; omega
      obtain ⟨ua, uc, rfl, hua, hule, _⟩ := HI.out.1.fst.at
      obtain ⟨va, vc, hve, hva, hvle, _⟩ := HI.out.1.snd.at
      subst hve
      rw [hKA] at hule HI ⊢
      rw [hKB] at hvle HI ⊢
      have HU : Hid (A.length = K ∧ B.length = K ∧ K ≤ 4000 ∧ K ≤ uc ∧ K ≤ vc ∧ BytesAt wr ua A ∧ BytesAt wr va B ∧ After wh wr ∧ Own wr wh.heap.size (.slice va K vc) B ∧ K ≤ 1152921504606846976) := ⟨hKA, hKB, hKl, hule, hvle, hua, hva, HI.out.2, HI.out.1.snd, by omega⟩
      have HH : Hid (RowIs wh w.heap.size 29 (c8 h) ∧ h.length = 32) := ⟨HW.out.2.1, h32⟩
      clear hA hB' hKA hKB hKl hua hva hule hvle HI
      by_cases hN0 : 0 < N
      · have n0 : (0 : Int) < (N : Int) := by omega
        have hdN : decide (0 < N) = true := decide_eq_true hN0
        rw [hdN] at HQ
        clear hdN
        go_wp2_with (first
          | (go_at_call 10; refine Calls.mono (awake_any w9) ?_; rintro e w10 ⟨rfl, ha⟩; have H10 := show Hid (After wh w10) from H9.out.trans ha; clear ha)
          | (go_at_call 13; have _t := H8.out; clear _t; refine Calls.mono (bcheck_any v8a (K + 1) v8c (B ++ [255]) H8.out.2.2.1 H8.out.2.2.2 (by have := HU.out.2.2.1; omega) w8 H8.out.2.1) ?_; rintro e w9 ⟨rfl, ha⟩; rw [HQ.out.2.2.2.2]; have H9 := show Hid (After wh w9) from H8.out.1.trans ha; clear ha)
          | (at_builtin; have _t := H7.out; clear _t; obtain ⟨v8, w8, he8, ho8, hg8, hat8⟩ := run_append_at (w7.alloc (.cells #[.int .u8 255] 5)) 26 wh.heap.size (.slice va K vc) B (Own.below HU.out.2.2.2.2.2.2.2.2.1 (after_alloc H7.out _) (Nat.le_refl _)) ⟨w7.heap.size, 0, none⟩ 1 [255] 1 rfl (BytesAt.one w7 255) (by have := HU.out.2.1; have := HU.out.2.2.1; simp only [List.length_cons, List.length_nil]; omega) (HU.out.2.2.2.2.2.2.2.1.trans (after_alloc H7.out _)).size; refine wpListG_of_run rfl (x_app (s := .tmp 75) (x := .tmp 76) rfl rfl rfl he8) ?_; obtain ⟨v8a, v8c, rfl, hva8, hvl8, _⟩ := ho8.at; have hl8 : (B ++ [255]).length = K + 1 := (by rw [List.length_append, HU.out.2.1]; rfl); rw [hl8] at hvl8 ⊢; have H8 := show Hid (After wh w8 ∧ BytesAt w8 v8a (B ++ [255]) ∧ (B ++ [255]).length = K + 1 ∧ K + 1 ≤ v8c) from ⟨after_grown (HU.out.2.2.2.2.2.2.2.1.trans (after_alloc H7.out _)) hg8 (Nat.le_refl _) (fun k hk => (World.ownsRow.lt HU.out.2.2.2.2.2.2.2.2.1 k hk).1), hva8, hl8, hvl8⟩; clear he8 ho8 hg8 hat8 hva8 hvl8 hl8)
          | (go_at_call 17; have _t := H6.out; clear _t; refine Calls.mono (bhas_any va K vc B h HH.out.2 HU.out.2.1 HU.out.2.2.2.2.1 HU.out.2.2.2.2.2.2.2.2.2 w6 (HU.out.2.2.2.2.2.2.1.after H6.out)) ?_; rintro e w7 ⟨rfl, ha⟩; rw [HQ.out.2.2.2.1]; have H7 := show Hid (After wr w7) from H6.out.trans ha; clear ha H6)
          | (have _t := H6.out; clear _t; refine wpListG_of_run rfl (x_ld29 (x := .tmp 5) (g := w.heap.size) (h := h) HH.out.2 rfl rfl (HH.out.1.below (HU.out.2.2.2.2.2.2.2.1.trans H6.out) HH.out.1.lt)) ?_)
          | (go_at_call 17; have _t := H5.out; clear _t; refine Calls.mono (bhas_any ua K uc A h HH.out.2 HU.out.1 HU.out.2.2.2.1 HU.out.2.2.2.2.2.2.2.2.2 w5 (HU.out.2.2.2.2.2.1.after H5.out)) ?_; rintro e w6 ⟨rfl, ha⟩; rw [HQ.out.2.2.1]; have H6 := show Hid (After wr w6) from H5.out.trans ha; clear ha H5)
          | (have _t := H5.out; clear _t; refine wpListG_of_run rfl (x_ld29 (x := .tmp 5) (g := w.heap.size) (h := h) HH.out.2 rfl rfl (HH.out.1.below (HU.out.2.2.2.2.2.2.2.1.trans H5.out) HH.out.1.lt)) ?_)
          | (refine wpListG_of_run rfl (x_conv53 (x := .tmp 56) (p := N) rfl rfl HK.out.2.2.2.2.2.2.2.1) ?_)
          | (go_at_call 15; have _t := H4.out; clear _t; refine Calls.mono (bmany_any va K vc B HU.out.2.1 HU.out.2.2.2.2.1 HU.out.2.2.2.2.2.2.2.2.2 w4 (HU.out.2.2.2.2.2.2.1.after H4.out)) ?_; rintro e w5 ⟨rfl, ha⟩; rw [HQ.out.2.1]; have H5 := show Hid (After wr w5) from H4.out.trans ha; clear ha H4)
          | (go_at_call 13; refine Calls.mono (bcheck_any ua K uc A HU.out.1 HU.out.2.2.2.1 HU.out.2.2.2.2.2.2.2.2.2 wr HU.out.2.2.2.2.2.1) ?_; rintro e w4 ⟨rfl, ha⟩; rw [HQ.out.1]; have H4 := show Hid (After wr w4) from ha; clear ha))
        go_ret
        exact ⟨rfl, HW.out.1.trans H10.out⟩
      · exact absurd (show 0 < N by omega) hN0

theorem full_any (N BB : Nat) (hN : N < 256) (hB : BB < 256) (h : Hs) (h32 : h.length = 32) (w : World) :
    Calls Try.prog 8 #[.int .u8 (N : Int), .int .u8 (BB : Int), .agg (c8 h).toArray] w fun e w' => e = .returned (.bool true) ∧ After w w' := by
  by_cases h1 : N < 128
  · exact full_small N BB h1 hB h h32 w
  · exact full_big N BB (by omega) hN hB h h32 w

end Go.Proofs.Ytgcgblecendijaa
