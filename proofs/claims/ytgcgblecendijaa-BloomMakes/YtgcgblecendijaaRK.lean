/-
  THE WALK OF stemmaref09.Make.
-/
import Derived.Test.YtgcgblecendijaaRH
import Derived.Test.YtgcgblecendijaaRefSets
namespace Go.Proofs.Ytgcgblecendijaa
open Go.RowKit Leb
section
variable {ops : Array Oper} {Q : Exit → Act → World → Prop} {S : World → Prop} {fuel : Nat} {listed : Array Bool} {a : Act} {w : World} {oi : Oper}
/-- Number i, which alone may come up, stores. -/
theorem tkStoreS (i : Nat) (w' : World) (hi : ops[i]? = some oi) (hd : oi.dst = none) (hr : Region.ready .any ops listed = [i]) (hw : Region.wanted oi (yielded ops a.tmps) = true) (hrun : (execOp a.eval oi).run Try.prog w = .ok .skip w') (hS : S w')
    (h : wpAnyH Try.prog .any ops Q S fuel (listed.setIfInBounds i true) (a.put none undef) w') : wpAnyH Try.prog .any ops Q S (fuel + 1) listed a w :=
  wpAnyH_all hr (by simp) (fun j hj => by
    obtain rfl : j = i := by simpa using hj
    refine wpOp_step hi (fun K' hK => ?_)
    rw [if_pos hw]
    unfold Oper.wp
    rw [hrun, Oper.upon_skip, hd]
    exact hK _ _ ⟨hS, h⟩)
end
theorem x_max1 {o : Oper} {a : Act} {x y : Operand} {w : World} {p r : Int} (hop : o.op = .call { callee := .builtin .max, args := #[x, y], argTypes := #[3, 3] }) (hx : a.eval x = .int .i64 1) (hy : a.eval y = .int .i64 p) (h : max 1 p = r) : (execOp a.eval o).run Try.prog w = .ok (.value (.int .i64 r)) w := by
  have e : (if p > (1 : Int) then p else (1 : Int)) = r := by rw [← h]; split <;> omega
  have hm := run_max_int2 (P := Try.prog) (w := w) #[3, 3] o.type .i64 .i64 1 p
  rw [e] at hm
  simp [execOp, hop, resolve, invoke, builtin, hx, hy, hm, Result.andThen]
theorem ruint_s (n : Nat) (hn : n < 18446744073709551616) (w : World) : Calls Try.prog 25 #[.int .u64 (n : Int)] w fun e w' => ∃ v, e = .returned v ∧ (Own w' w.heap.size v (uintB n) ∧ After w w') := LB.ruint_any n hn w
/-- What the outer loop keeps. -/
structure KI (w1 : World) (p : Prt) (s : List Hs) (so : Option Addr) (gf : Nat) (f : List UInt8) (W : World) : Prop where
  fld : RowIs W gf 5 (c8 f)
  aft : After w1 W
  ge : w1.heap.size ≤ gf
theorem KI.after {w1 : World} {p : Prt} {s : List Hs} {so : Option Addr} {gf : Nat} {f : List UInt8} {W W' : World} (h : KI w1 p s so gf f W) (ha : After W W') : KI w1 p s so gf f W' := ⟨h.fld.below ha h.fld.lt, h.aft.trans ha, h.ge⟩
theorem KI.set {w1 : World} {p : Prt} {s : List Hs} {so : Option Addr} {gf : Nat} {f f' : List UInt8} {W : World} (h : KI w1 p s so gf f W) (d : Nat) (v : Value) (hf : c8 f' = (c8 f).set d v) : KI w1 p s so gf f' (W.setCell ⟨gf, d, none⟩ v) :=
  ⟨by rw [hf]; exact h.fld.set d v, Below.setCell h.aft (p := ⟨gf, d, none⟩) h.ge _, h.ge⟩

set_option maxRecDepth 100000 in
set_option maxHeartbeats 6000000 in
theorem rmake_any (ao : Option Addr) (n ca : Nat) (l : List Hs) (h32 : All32 l) (hl : l.length = n) (hn : n ≤ 50000) (seed : Nat) (hsd : seed < 4294967296) (bits : Int) (w : World) (hA : HsAt w ao l) :
    Calls Try.prog 12 #[.slice ao n ca, .int .u32 (seed : Int), .int .i64 bits] w fun e w' => ∃ s v, e = .returned v ∧ Srt l s ∧ Own w' w.heap.size v (mkB s seed (bitsN bits)) ∧ After w w' := by
  have HC := show Hid _ from rsort14 ao n ca l h32 hl hn w hA
  unfold TellW at HC
  obtain ⟨b1, hb1⟩ : ∃ b, min bits 64 = b := ⟨_, rfl⟩
  obtain ⟨bN, hbN⟩ : ∃ b, bitsN bits = b := ⟨_, rfl⟩
  have HB : Hid (min bits 64 = b1 ∧ max 1 b1 = (bN : Int) ∧ 1 ≤ bN ∧ bN ≤ 64) := ⟨hb1, by rw [← hbN, bitsN_int, ← hb1]; omega, by rw [← hbN]; exact (bitsN_ok bits).1, by rw [← hbN]; exact (bitsN_ok bits).2⟩
  have HL : Hid (l.length = n ∧ n ≤ 50000 ∧ seed < 4294967296) := ⟨hl, hn, hsd⟩
  rw [hbN]
  clear h32 hl hn hA hsd hb1 hbN
  go_enter Try.func12, Try.ntmps12
  refine wp_seq_k (fun K hK => ?_)
  have HK := show Hid _ from hK
  clear hK
  go_wp2_with fail
  refine HK.out _ _ ?_
  clear HK
  refine wp_seq_k (fun K hK => ?_)
  have HK := show Hid _ from hK
  clear hK
  go_wp2_with (first
    | (refine wpList_of_run rfl (x_min (x := .tmp 14) (y := .const (.int .i64 64)) (p := bits) (r := b1) rfl rfl rfl HB.out.1) ?_)
    | (refine wpList_of_run rfl (x_max1 (x := .const (.int .i64 1)) (y := .tmp 15) (p := b1) (r := (bN : Int)) rfl rfl rfl HB.out.2.1) ?_))
  refine HK.out _ _ ?_
  clear HK
  refine wp_seq_k (fun K hK => ?_)
  have HK := show Hid _ from hK
  clear hK
  go_wp2_with (go_at_call 23; refine Calls.mono HC.out ?_; rintro e w1 ⟨so, N, sc, s, rfl, hwi, hle⟩; have H1 := show Hid (After w w1 ∧ Srt l s ∧ HsAt w1 so s ∧ s.length = N ∧ N ≤ 50000) from ⟨hwi.aft, ⟨hwi.ws.up, hwi.mem, hwi.ws.a32, by rw [hwi.ws.len, HL.out.1]; exact hle⟩, hwi.ws.at_, hwi.ws.len, by have := HL.out.2.1; omega⟩; clear hwi hle)
  refine HK.out _ _ ?_
  clear HK HC
  obtain ⟨p, hp⟩ : ∃ p, mkP s seed bN = p := ⟨_, rfl⟩
  obtain ⟨nk, hnk⟩ : ∃ m, N * bN = m := ⟨_, rfl⟩
  obtain ⟨nk7, hnk7⟩ : ∃ m, nk + 7 = m := ⟨_, rfl⟩
  obtain ⟨Z, hZ⟩ : ∃ m, nk7 / 8 = m := ⟨_, rfl⟩
  obtain ⟨M, hM⟩ : ∃ m, 8 * Z = m := ⟨_, rfl⟩
  have hnkl : nk ≤ 50000 * 64 := by rw [← hnk]; exact Nat.mul_le_mul H1.out.2.2.2.2 HB.out.2.2.2
  have hps : p.size = Z := by rw [← hp, ← hZ, ← hnk7, ← hnk, ← H1.out.2.2.2.1]; rfl
  have HP : Hid (mkP s seed bN = p ∧ p.Ok ∧ N * bN = nk ∧ nk + 7 = nk7 ∧ nk7 / 8 = Z ∧ 8 * Z = M ∧ Z ≤ 400001 ∧ nk ≤ 3200000 ∧ p.size = Z ∧ p.all = M) := by
    refine ⟨hp, ?_, hnk, hnk7, hZ, hM, by omega, by omega, hps, by unfold Prt.all; rw [hps]; omega⟩
    rw [← hp]; exact mkP_ok (by rw [H1.out.2.2.2.1]; have := H1.out.2.2.2.2; omega) HL.out.2.2 HB.out.2.2.1 HB.out.2.2.2
  obtain ⟨sd', hsd'⟩ : ∃ m, p.seed = m := ⟨_, rfl⟩
  have hse : seed = sd' := by rw [← hsd', ← hp]; rfl
  subst hse
  have hmk := make_bytes w1 Z Z (Nat.le_refl _) (by omega)
  obtain ⟨gf, hgf⟩ : ∃ g, w1.heap.size = g := ⟨_, rfl⟩
  obtain ⟨w2, hw2⟩ : ∃ w2, w1.alloc (.cells (c8 (List.replicate Z 0)).toArray 5) = w2 := ⟨_, rfl⟩
  have H2 : Hid (KI w1 p s so gf (p.fieldOf (s.take 0)) w2) := by
    have e : p.fieldOf (s.take 0) = List.replicate Z 0 := by show List.replicate p.size 0 = _; rw [hps]
    refine ⟨by rw [← hw2, ← hgf, e]; exact RowIs.new w1 5 (c8 (List.replicate Z 0)), by rw [← hw2]; exact after_alloc (After.refl w1) _, by omega⟩
  rw [hgf, hw2] at hmk
  clear hp hnk hnk7 hZ hM hnkl hps hw2
  go_wp2_with (first
    | (refine wpList_of_run rfl (x_muli (x := .tmp 20) (y := .tmp 21) (p := N) (q := bN) (r := nk) rfl rfl rfl HP.out.2.2.1 (by have := HP.out; omega)) ?_)
    | (refine wpList_of_run rfl (x_addi (x := .tmp 22) (y := .const (.int .i64 7)) (p := nk) (q := 7) (r := nk7) rfl rfl rfl HP.out.2.2.2.1 (by have := HP.out; omega)) ?_)
    | (refine wpList_of_run rfl (x_quoi (x := .tmp 23) (y := .const (.int .i64 8)) (p := nk7) (q := 8) (r := Z) rfl rfl rfl HP.out.2.2.2.2.1 (by omega) (by have := HP.out; omega)) ?_))
  clear hmk hgf
  go_loopw [10] (fun i wr => ∃ (k : Nat), k ≤ N ∧ i = .int .i64 k ∧ Hid (KI w1 p s so gf (p.fieldOf (s.take k)) wr)) (fun i _ => N - (intOf i).toNat)
  case atStart => exact ⟨0, by omega, rfl, H2.out⟩
  case round =>
    obtain ⟨k, hk, rfl, HI⟩ := hrel
    have hN5 := H1.out.2.2.2.2
    by_cases hlt : k < N
    · have hki : (k : Int) < (N : Int) := by omega
      obtain ⟨h, hh⟩ : ∃ h, s[k]? = some h := ⟨_, List.getElem?_eq_getElem (by rw [H1.out.2.2.2.1]; exact hlt)⟩
      obtain ⟨sb, sf, rfl, hrange⟩ := H1.out.2.2.1.get H1.out.2.1.a32 (by intro e; rw [e] at hh; simp at hh)
      have HH : Hid (s[k]? = some h ∧ h.length = 32 ∧ wr.rangeAt sb (sf + k * 32) (c8 h)) := ⟨hh, H1.out.2.1.a32.at hh, range_after (hrange k h hh) HI.out.aft⟩
      have HM : Hid (0 < M ∧ M < 2000000000) := by
        have := HP.out.2.1.size_pos (by have : p.many = s.length := by rw [← HP.out.1]; rfl
                                        rw [this, H1.out.2.2.2.1]; omega)
        have h8 := HP.out.2.2.2.2.2.1
        have h9 := HP.out.2.2.2.2.2.2.2.2.1
        have h7 := HP.out.2.2.2.2.2.2.1
        exact ⟨by omega, by omega⟩
      have HCP : Hid (Calls Try.prog 24 #[.agg (c8 h).toArray, .int .u64 (seed : Int), .int .u64 (M : Int)] wr fun e w' => ∃ v, e = .returned v ∧ (OwnU w' wr.heap.size v (p.plc h 7) ∧ After wr w')) := by
        have := rplaces_any p HP.out.2.1.seed M HP.out.2.2.2.2.2.2.2.2.2 HM.out.1 HM.out.2 h HH.out.2.1 wr
        rw [hsd'] at this; exact this
      obtain ⟨F0, hF0⟩ : ∃ f, p.fieldOf (s.take k) = f := ⟨_, rfl⟩
      have HF : Hid (F0.length = Z ∧ setBits F0 (p.plc h 7) = p.fieldOf (s.take (k + 1))) := by
        refine ⟨by rw [← hF0, Prt.fieldOf_len]; exact HP.out.2.2.2.2.2.2.2.2.1, ?_⟩
        rw [List.take_add_one, HH.out.1, Option.toList_some, Prt.fieldOf_snoc, hF0]
      rw [hF0] at HI
      clear hh hrange hF0
      go_wp2_with (first
        | (refine wpList_of_run rfl (x_idx22 (x := .tmp 33) (y := .tmp 34) (b := sb) (f := sf) (n := N) (k := k) rfl rfl rfl hlt) ?_)
        | (refine wpList_of_run rfl (x_ld24 HH.out.2.1 (x := .tmp 35) (g := sb) (p := sf + k * 32) rfl rfl HH.out.2.2) ?_)
        | (refine wpList_of_run rfl (x_conv2339 (x := .tmp 37) (p := seed) rfl rfl (by have := HL.out.2.2; omega)) ?_)
        | (refine wpList_of_run rfl (x_muli8 (y := .tmp 39) (q := Z) (r := M) rfl rfl HP.out.2.2.2.2.2.1 (by have := HM.out; omega)) ?_)
        | (refine wpList_of_run rfl (x_conv339 (x := .tmp 40) (p := M) rfl rfl (by have := HM.out; omega)) ?_)
        | (go_at_call 24; refine Calls.mono HCP.out ?_; rintro e w3 ⟨v3, rfl, ho, ha⟩; obtain ⟨pa, pcap, he3, hpl⟩ := ho.at; rw [Prt.plc_len] at he3; subst he3; obtain ⟨gb, hgb, hpc⟩ := hpl (by intro e; have := congrArg List.length e; rw [Prt.plc_len] at this; simp at this); subst hgb; have hgl : wr.heap.size ≤ gb := (World.ownsRow.lt ho gb rfl).1; have H3 := show Hid (KI w1 p s (some ⟨sb, sf, none⟩) gf F0 w3 ∧ (∀ j, j < 7 → w3.cell? ⟨gb, j, none⟩ = some (.int .u64 (((p.plc h 7).getD j 0 : Nat) : Int))) ∧ gb ≠ gf) from ⟨HI.out.after ha, fun j hj => hpc j (by rw [Prt.plc_len]; exact hj), by have := HI.out.fld.lt; omega⟩; clear ho ha hpl hpc hgl))
      go_loopw [12] (fun i wq => ∃ (j : Nat), j ≤ 7 ∧ i = .int .i64 j ∧ Hid (KI w1 p s (some ⟨sb, sf, none⟩) gf (setBits F0 ((p.plc h 7).take j)) wq ∧ But gf w3 wq)) (fun i _ => 7 - (intOf i).toNat)
      case atStart => exact ⟨0, by omega, rfl, H3.out.1, But.refl _ _⟩
      case round =>
        obtain ⟨j, hj, rfl, HJ⟩ := hrel
        by_cases hlt7 : j < 7
        · have hji : (j : Int) < 7 := by omega
          obtain ⟨q, hq⟩ : ∃ q, (p.plc h 7).getD j 0 = q := ⟨_, rfl⟩
          have hjl : j < (p.plc h 7).length := by rw [Prt.plc_len]; exact hlt7
          have hqe : (p.plc h 7)[j]? = some q := by rw [← hq, List.getD_eq_getElem?_getD, List.getElem?_eq_getElem hjl]; rfl
          have hqm : q < M := by
            rw [← HP.out.2.2.2.2.2.2.2.2.2]
            exact Prt.plc_lt (by rw [HP.out.2.2.2.2.2.2.2.2.2]; exact HM.out.1) h 7 _ (List.mem_of_getElem? hqe)
          obtain ⟨f, hf⟩ : ∃ f, setBits F0 ((p.plc h 7).take j) = f := ⟨_, rfl⟩
          rw [hf] at HJ
          have hfl : f.length = Z := by rw [← hf, setBits_len]; exact HF.out.1
          have hqk : q / 8 < Z := by have := HP.out.2.2.2.2.2.1; omega
          obtain ⟨d, hd⟩ : ∃ d, q / 8 = d := ⟨_, rfl⟩
          obtain ⟨r, hr⟩ : ∃ d, q % 8 = d := ⟨_, rfl⟩
          obtain ⟨y, hy⟩ : ∃ y, (f.getD d 0).toNat = y := ⟨_, rfl⟩
          obtain ⟨t, ht⟩ : ∃ t, 2 ^ r = t := ⟨_, rfl⟩
          obtain ⟨z, hz⟩ : ∃ z, y ||| t = z := ⟨_, rfl⟩
          have hyl : y < 256 := by rw [← hy]; exact UInt8.toNat_lt _
          have hrl : r < 8 := by omega
          have htl : t < 256 := by rw [← ht]; exact Nat.pow_lt_pow_right (n := 8) (by omega) hrl
          have HSET : Hid (c8 (setBit f q) = (c8 f).set d (.int .u8 (z : Int)) ∧ setBits F0 ((p.plc h 7).take (j + 1)) = setBit f q) := by
            refine ⟨?_, by rw [List.take_add_one, hqe, Option.toList_some, setBits_snoc, hf]⟩
            unfold setBit
            rw [hd, hr, hy, ht, hz]
            unfold c8
            rw [List.map_set]
            congr 2
            rw [UInt8.toNat_ofNat_of_lt' (by rw [← hz, ← ht]; exact or_lt hyl hrl)]
          have HC1 : Hid (∀ W, But gf wr W → W.cell? ⟨gb, j, none⟩ = some (.int .u64 (q : Int))) := fun W hW => by
            have h0 := H3.out.2.1 j hlt7
            rw [hq] at h0
            exact But.cell (HJ.out.2.trans hW) (p := ⟨gb, j, none⟩) H3.out.2.2 h0
          have HC2 : Hid (wr.drew.cell? ⟨gf, 0 + d, none⟩ = some (.int .u8 (y : Int))) := by
            rw [Nat.zero_add, ← hy]; exact HJ.out.1.fld.drew.cell (c8_get f d (by omega))
          have HQ : Hid (q / 8 = d ∧ q % 8 = r ∧ 2 ^ r = t ∧ y ||| t = z ∧ y < 256 ∧ t < 256 ∧ d < Z ∧ r < 8 ∧ d < 18446744073709551616) := ⟨hd, hr, ht, hz, hyl, htl, by omega, hrl, by have := HP.out; omega⟩
          clear hf hfl hqk hd hr hy ht hz hyl hrl htl hq hqe hqm hjl
          go_wp2_with fail
          refine wp_region_noPanic ?_
          refine wp_region_held_drew (S := But gf wr) (by kernel_rfl) ((But.refl gf wr).drew) ?_
          intro hS0
          refine tk 0 49 (.slice (some ⟨gf, 0, none⟩) Z Z) (fuel := 22) rfl (by kernel_rfl) (by kernel_rfl) (by kernel_rfl) (by kernel_rfl) noPanic_false (by kernel_rfl) (fun _ _ => by kernel_rfl) hS0 ?_
          refine tk 1 50 (.slice (some ⟨gb, 0, none⟩) 7 pcap) (fuel := 21) rfl (by kernel_rfl) (by kernel_rfl) (by kernel_rfl) (by kernel_rfl) noPanic_false (by kernel_rfl) (fun _ _ => by kernel_rfl) hS0 ?_
          refine tk 2 51 (.int .i64 (j : Int)) (fuel := 20) rfl (by kernel_rfl) (by kernel_rfl) (by kernel_rfl) (by kernel_rfl) noPanic_false (by kernel_rfl) (fun _ _ => by kernel_rfl) hS0 ?_
          refine tk 3 52 (.pointer (some ⟨gb, j, none⟩)) (fuel := 19) rfl (by kernel_rfl) (by kernel_rfl) (by kernel_rfl) (by kernel_rfl) noPanic_false (by kernel_rfl) (fun W _ => x_idx47 (x := .tmp 50) (y := .tmp 51) (b := gb) (n := 7) (c := pcap) (j := j) (by kernel_rfl) (by kernel_rfl) (by kernel_rfl) hlt7) hS0 ?_
          refine tk 4 53 (.int .u64 (q : Int)) (fuel := 18) rfl (by kernel_rfl) (by kernel_rfl) (by kernel_rfl) (by kernel_rfl) noPanic_false (by kernel_rfl) (fun W hW => x_ldc (t := 39) (x := .tmp 52) (g := gb) (j := j) Try.underlying39 rfl (by kernel_rfl) (by kernel_rfl) (HC1.out W hW)) hS0 ?_
          refine tk 5 54 (.int .u64 (d : Int)) (fuel := 17) rfl (by kernel_rfl) (by kernel_rfl) (by kernel_rfl) (by kernel_rfl) noPanic_false (by kernel_rfl) (fun W _ => x_quo64 (x := .tmp 53) (y := .const (.int .u64 8)) (p := q) (q := 8) (r := d) (by kernel_rfl) (by kernel_rfl) rfl HQ.out.1 ⟨by omega, HQ.out.2.2.2.2.2.2.2.2⟩) hS0 ?_
          refine tk 6 55 (.slice (some ⟨gf, 0, none⟩) Z Z) (fuel := 16) rfl (by kernel_rfl) (by kernel_rfl) (by kernel_rfl) (by kernel_rfl) noPanic_false (by kernel_rfl) (fun _ _ => by kernel_rfl) hS0 ?_
          refine tk 7 56 (.slice (some ⟨gb, 0, none⟩) 7 pcap) (fuel := 15) rfl (by kernel_rfl) (by kernel_rfl) (by kernel_rfl) (by kernel_rfl) noPanic_false (by kernel_rfl) (fun _ _ => by kernel_rfl) hS0 ?_
          refine tk 8 57 (.int .i64 (j : Int)) (fuel := 14) rfl (by kernel_rfl) (by kernel_rfl) (by kernel_rfl) (by kernel_rfl) noPanic_false (by kernel_rfl) (fun _ _ => by kernel_rfl) hS0 ?_
          refine tk 9 58 (.pointer (some ⟨gb, j, none⟩)) (fuel := 13) rfl (by kernel_rfl) (by kernel_rfl) (by kernel_rfl) (by kernel_rfl) noPanic_false (by kernel_rfl) (fun W _ => x_idx47 (x := .tmp 56) (y := .tmp 57) (b := gb) (n := 7) (c := pcap) (j := j) (by kernel_rfl) (by kernel_rfl) (by kernel_rfl) hlt7) hS0 ?_
          refine tk 10 59 (.int .u64 (q : Int)) (fuel := 12) rfl (by kernel_rfl) (by kernel_rfl) (by kernel_rfl) (by kernel_rfl) noPanic_false (by kernel_rfl) (fun W hW => x_ldc (t := 39) (x := .tmp 58) (g := gb) (j := j) Try.underlying39 rfl (by kernel_rfl) (by kernel_rfl) (HC1.out W hW)) hS0 ?_
          refine tk 11 60 (.int .u64 (d : Int)) (fuel := 11) rfl (by kernel_rfl) (by kernel_rfl) (by kernel_rfl) (by kernel_rfl) noPanic_false (by kernel_rfl) (fun W _ => x_quo64 (x := .tmp 59) (y := .const (.int .u64 8)) (p := q) (q := 8) (r := d) (by kernel_rfl) (by kernel_rfl) rfl HQ.out.1 ⟨by omega, HQ.out.2.2.2.2.2.2.2.2⟩) hS0 ?_
          refine tk 12 61 (.pointer (some ⟨gf, 0 + d, none⟩)) (fuel := 10) rfl (by kernel_rfl) (by kernel_rfl) (by kernel_rfl) (by kernel_rfl) noPanic_false (by kernel_rfl) (fun W _ => x_idxb (x := .tmp 55) (y := .tmp 60) (b := gf) (off := 0) (Z := Z) (c := Z) (d := d) (by kernel_rfl) (by kernel_rfl) (by kernel_rfl) HQ.out.2.2.2.2.2.2.1) hS0 ?_
          refine tk 14 63 (.slice (some ⟨gb, 0, none⟩) 7 pcap) (fuel := 9) rfl (by kernel_rfl) (by kernel_rfl) (by kernel_rfl) (by kernel_rfl) noPanic_false (by kernel_rfl) (fun _ _ => by kernel_rfl) hS0 ?_
          refine tk 15 64 (.int .i64 (j : Int)) (fuel := 8) rfl (by kernel_rfl) (by kernel_rfl) (by kernel_rfl) (by kernel_rfl) noPanic_false (by kernel_rfl) (fun _ _ => by kernel_rfl) hS0 ?_
          refine tk 16 65 (.pointer (some ⟨gb, j, none⟩)) (fuel := 7) rfl (by kernel_rfl) (by kernel_rfl) (by kernel_rfl) (by kernel_rfl) noPanic_false (by kernel_rfl) (fun W _ => x_idx47 (x := .tmp 63) (y := .tmp 64) (b := gb) (n := 7) (c := pcap) (j := j) (by kernel_rfl) (by kernel_rfl) (by kernel_rfl) hlt7) hS0 ?_
          refine tk 17 66 (.int .u64 (q : Int)) (fuel := 6) rfl (by kernel_rfl) (by kernel_rfl) (by kernel_rfl) (by kernel_rfl) noPanic_false (by kernel_rfl) (fun W hW => x_ldc (t := 39) (x := .tmp 65) (g := gb) (j := j) Try.underlying39 rfl (by kernel_rfl) (by kernel_rfl) (HC1.out W hW)) hS0 ?_
          refine tk 18 67 (.int .u64 (r : Int)) (fuel := 5) rfl (by kernel_rfl) (by kernel_rfl) (by kernel_rfl) (by kernel_rfl) noPanic_false (by kernel_rfl) (fun W _ => x_rem64 (x := .tmp 66) (y := .const (.int .u64 8)) (p := q) (q := 8) (r := r) (by kernel_rfl) (by kernel_rfl) rfl HQ.out.2.1 (by omega)) hS0 ?_
          refine tk 19 68 (.int .u8 (t : Int)) (fuel := 4) rfl (by kernel_rfl) (by kernel_rfl) (by kernel_rfl) (by kernel_rfl) noPanic_false (by kernel_rfl) (fun W _ => x_shl8 (ty := 49) (x := .const (.int .u8 1)) (y := .tmp 67) (q := r) (r := t) (by kernel_rfl) rfl (by kernel_rfl) HQ.out.2.2.2.2.2.2.2.1 HQ.out.2.2.1) hS0 ?_
          refine tkRunS 13 62 (.int .u8 (y : Int)) wr.drew (fuel := 3) rfl (by kernel_rfl) (by kernel_rfl) (by kernel_rfl) (x_ldc (t := 5) (x := .tmp 61) (g := gf) (j := 0 + d) Try.underlying5 rfl (by kernel_rfl) (by kernel_rfl) HC2.out) hS0 ?_
          refine tk 20 69 (.int .u8 (z : Int)) (fuel := 2) rfl (by kernel_rfl) (by kernel_rfl) (by kernel_rfl) (by kernel_rfl) noPanic_false (by kernel_rfl) (fun W _ => x_or8 (x := .tmp 62) (y := .tmp 68) (p := y) (q := t) (r := z) (by kernel_rfl) (by kernel_rfl) (by kernel_rfl) HQ.out.2.2.2.2.1 HQ.out.2.2.2.2.2.1 HQ.out.2.2.2.1) hS0 ?_
          refine tk 21 70 (.pointer (some ⟨gf, 0 + d, none⟩)) (fuel := 1) rfl (by kernel_rfl) (by kernel_rfl) (by kernel_rfl) (by kernel_rfl) noPanic_false (by kernel_rfl) (fun W _ => x_idxb (x := .tmp 49) (y := .tmp 54) (b := gf) (off := 0) (Z := Z) (c := Z) (d := d) (by kernel_rfl) (by kernel_rfl) (by kernel_rfl) HQ.out.2.2.2.2.2.2.1) hS0 ?_
          refine tkStoreS 22 (wr.drew.setCell ⟨gf, 0 + d, none⟩ (.int .u8 (z : Int))) (fuel := 0) rfl (by kernel_rfl) (by kernel_rfl) (by kernel_rfl) (x_st5 (x := .tmp 70) (y := .tmp 69) (by kernel_rfl) (by kernel_rfl) (by kernel_rfl) HC2.out (HJ.out.1.fld.drew.frozen _)) (hS0.setCell _ _) ?_
          refine wpAnyH_done (by kernel_rfl) (NoPanic.normal ?_) _
          have HN : Hid (KI w1 p s (some ⟨sb, sf, none⟩) gf (setBits F0 ((p.plc h 7).take (j + 1))) (wr.drew.setCell ⟨gf, 0 + d, none⟩ (.int .u8 (z : Int))) ∧ But gf w3 (wr.drew.setCell ⟨gf, 0 + d, none⟩ (.int .u8 (z : Int)))) := by
            refine ⟨?_, HJ.out.2.trans (hS0.setCell _ _)⟩
            rw [HSET.out.2]
            have hd := (HJ.out.1.after (After.drew (After.refl wr))).set d (.int .u8 (z : Int)) HSET.out.1
            rw [Nat.zero_add]; exact hd
          have HN2 : Hid (KI w1 p s (some ⟨sb, sf, none⟩) gf (setBits F0 ((p.plc h 7).take (j + 1))) (wr.setCell ⟨gf, d, none⟩ (.int .u8 (z : Int))).drew ∧ But gf w3 (wr.setCell ⟨gf, d, none⟩ (.int .u8 (z : Int))).drew) := by
            have h := HN.out
            rw [Nat.zero_add] at h
            exact h
          clear hS0
          go_simp
          go_wp2
          go_roundw
          case rel => exact ⟨j + 1, by omega, by go_num, HN2.out⟩
          case measure => simp [intOf]; omega
        · obtain rfl : j = 7 := by omega
          have HN : Hid (KI w1 p s (some ⟨sb, sf, none⟩) gf (p.fieldOf (s.take (k + 1))) wr) := by
            have := HJ.out.1
            rw [List.take_of_length_le (by rw [Prt.plc_len]; exact Nat.le_refl _), HF.out.2] at this
            exact this
          go_wp2
          go_roundw
          case rel => exact ⟨k + 1, by omega, by go_num, HN.out⟩
          case measure => simp [intOf]; omega
    · obtain rfl : k = N := by omega
      have hki : ¬ (k : Int) < (k : Int) := by omega
      obtain ⟨f, hf⟩ : ∃ f, p.fieldOf s = f := ⟨_, rfl⟩
      have HF : Hid (RowIs wr gf 5 (c8 f) ∧ After w wr ∧ f.length = Z ∧ mkB s seed bN = (uintB k ++ uintB seed ++ uintB bN) ++ f ∧ (uintB k).length ≤ 10 ∧ (uintB seed).length ≤ 10 ∧ (uintB bN).length ≤ 10 ∧ k < 18446744073709551616 ∧ seed < 18446744073709551616 ∧ bN < 18446744073709551616 ∧ Z ≤ 400001) := by
        have h1 := HI.out.fld
        rw [← H1.out.2.2.2.1, List.take_length, hf] at h1
        have b1 : k < 18446744073709551616 := by omega
        have b2 : seed < 18446744073709551616 := by have := HL.out.2.2; omega
        have b3 : bN < 18446744073709551616 := by have := HB.out.2.2.2; omega
        refine ⟨h1, H1.out.1.trans HI.out.aft, by rw [← hf, Prt.fieldOf_len]; exact HP.out.2.2.2.2.2.2.2.2.1, ?_, uintB_len10 _ b1, uintB_len10 _ b2, uintB_len10 _ b3, b1, b2, b3, HP.out.2.2.2.2.2.2.1⟩
        unfold mkB
        rw [HP.out.1, hf]
        unfold headB
        rw [← HP.out.1]
        show uintB s.length ++ uintB seed ++ uintB bN ++ f = _
        rw [H1.out.2.2.2.1]
      clear HI hf
      go_wp2_with (first
        | (at_builtin; have _t := H9.out; clear _t; obtain ⟨va, wa, hea, hoa, hga⟩ := run_append_any w9 26 wr.heap.size v9 (uintB k ++ uintB seed ++ uintB bN) H9.out.1 (some ⟨gf, 0, none⟩) Z f Z HF.out.2.2.1 H9.out.2.2 (by have := HF.out; simp only [List.length_append]; omega) H9.out.2.1.size; refine wpList_of_run rfl (x_app (s := .tmp 83) (x := .tmp 84) rfl rfl rfl hea) ?_; have HA := show Hid (Own wa w.heap.size va (mkB s seed bN) ∧ After w wa) from ⟨by rw [HF.out.2.2.2.1]; exact hoa.mono HF.out.2.1.size, HF.out.2.1.trans (after_grown H9.out.2.1 hga (Nat.le_refl _) (fun k hk => (World.ownsRow.lt H9.out.1 k hk).1))⟩; clear hea hoa hga)
        | (at_builtin; have _t := H8.out; clear _t; obtain ⟨v9, w9, he9, ho9, hg9⟩ := run_append_any w8 26 wr.heap.size v7 (uintB k ++ uintB seed) H8.out.1 a8 c8' (uintB bN) _ rfl H8.out.2.1 (by have := HF.out; simp only [List.length_append]; omega) H8.out.2.2.1.size; refine wpList_of_run rfl (x_app (s := .tmp 79) (x := .tmp 82) rfl rfl rfl he9) ?_; have hA9 : After wr w9 := after_grown H8.out.2.2.1 hg9 (Nat.le_refl _) (fun k hk => (World.ownsRow.lt H8.out.1 k hk).1); have H9 := show Hid (Own w9 wr.heap.size v9 (uintB k ++ uintB seed ++ uintB bN) ∧ After wr w9 ∧ BytesAt w9 (some ⟨gf, 0, none⟩) f) from ⟨ho9, hA9, row_bytes (grown_row H8.out.2.2.2 hg9 (fun e => by have := (World.ownsRow.lt H8.out.1 _ e).1; have := HF.out.1.lt; omega))⟩; clear he9 ho9 hg9 hA9)
        | (go_at_call 25; have _t := H7.out; clear _t; refine Calls.mono (ruint_s bN HF.out.2.2.2.2.2.2.2.2.2.1 w7) ?_; rintro e w8 ⟨v8, rfl, ho8, ha8⟩; obtain ⟨a8, c8', rfl, hat8, _, _⟩ := ho8.at; have H8 := show Hid (Own w8 wr.heap.size v7 (uintB k ++ uintB seed) ∧ BytesAt w8 a8 (uintB bN) ∧ After wr w8 ∧ RowIs w8 gf 5 (c8 f)) from ⟨Own.below H7.out.1 ha8 (Nat.le_refl _), hat8, H7.out.2.1.trans ha8, H7.out.2.2.below ha8 H7.out.2.2.lt⟩; clear ho8 ha8 hat8)
        | (refine wpList_of_run rfl (x_conv339 (x := .tmp 80) (p := bN) rfl rfl HF.out.2.2.2.2.2.2.2.2.2.1) ?_)
        | (at_builtin; have _t := H6.out; clear _t; obtain ⟨v7, w7, he7, ho7, hg7⟩ := run_append_any w6 26 wr.heap.size v5 (uintB k) H6.out.1 a6 c6 (uintB seed) _ rfl H6.out.2.1 (by have := HF.out; omega) H6.out.2.2.1.size; refine wpList_of_run rfl (x_app (s := .tmp 74) (x := .tmp 77) rfl rfl rfl he7) ?_; have hA7 : After wr w7 := after_grown H6.out.2.2.1 hg7 (Nat.le_refl _) (fun k hk => (World.ownsRow.lt H6.out.1 k hk).1); have H7 := show Hid (Own w7 wr.heap.size v7 (uintB k ++ uintB seed) ∧ After wr w7 ∧ RowIs w7 gf 5 (c8 f)) from ⟨ho7, hA7, grown_row H6.out.2.2.2 hg7 (fun e => by have := (World.ownsRow.lt H6.out.1 _ e).1; have := HF.out.1.lt; omega)⟩; clear he7 ho7 hg7 hA7)
        | (go_at_call 25; have _t := H5.out; clear _t; refine Calls.mono (ruint_s seed HF.out.2.2.2.2.2.2.2.2.1 w5) ?_; rintro e w6 ⟨v6, rfl, ho6, ha6⟩; obtain ⟨a6, c6, rfl, hat6, _, _⟩ := ho6.at; have H6 := show Hid (Own w6 wr.heap.size v5 (uintB k) ∧ BytesAt w6 a6 (uintB seed) ∧ After wr w6 ∧ RowIs w6 gf 5 (c8 f)) from ⟨Own.below H5.out.1 ha6 (Nat.le_refl _), hat6, H5.out.2.1.trans ha6, H5.out.2.2.below ha6 H5.out.2.2.lt⟩; clear ho6 ha6 hat6 H5)
        | (refine wpList_of_run rfl (x_conv2339 (x := .tmp 75) (p := seed) rfl rfl HF.out.2.2.2.2.2.2.2.2.1) ?_)
        | (go_at_call 25; refine Calls.mono (ruint_s k HF.out.2.2.2.2.2.2.2.1 wr) ?_; rintro e w5 ⟨v5, rfl, ho5, ha5⟩; have H5 := show Hid (Own w5 wr.heap.size v5 (uintB k) ∧ After wr w5 ∧ RowIs w5 gf 5 (c8 f)) from ⟨ho5, ha5, HF.out.1.below ha5 HF.out.1.lt⟩; clear ho5 ha5)
        | (refine wpList_of_run rfl (x_conv339 (x := .tmp 72) (p := k) rfl rfl HF.out.2.2.2.2.2.2.2.1) ?_))
      go_ret
      exact ⟨s, _, rfl, H1.out.2.1, HA.out⟩
end Go.Proofs.Ytgcgblecendijaa
