/-
  THE WALK OF stemmaref09.Has.
-/
import Derived.Test.YtgcgblecendijaaRM
import Derived.Test.YtgcgblecendijaaRQ
import Derived.Test.YtgcgblecendijaaFuLaw
namespace Go.Proofs.Ytgcgblecendijaa
open Go.RowKit Leb
theorem x_idx47 {o : Oper} {a : Act} {x y : Operand} {w : World} {b n c j : Nat} (hop : o.op = .indexAddr 47 x y) (hx : a.eval x = .slice (some ⟨b, 0, none⟩) n c) (hy : a.eval y = .int .i64 (j : Int)) (hj : j < n) : (execOp a.eval o).run Try.prog w = .ok (.value (.pointer (some ⟨b, j, none⟩))) w := by
  unfold execOp
  simp only [hop, hx, hy]
  simp [go_sem, hj]
theorem x_eq8 {o : Oper} {a : Act} {x y : Operand} {w : World} {p : Nat} (hop : o.op = .binOp .eql 5 x y 5) (hx : a.eval x = .int .u8 (p : Int)) (hy : a.eval y = .int .u8 0) : (execOp a.eval o).run Try.prog w = .ok (.value (.bool (decide (p = 0)))) w := by
  have e : ((p : Int) == 0) = decide (p = 0) := by by_cases h : p = 0 <;> simp [h]
  unfold execOp
  simp only [hop, hx, hy]
  simp [go_sem, e]
theorem x_muli8 {o : Oper} {a : Act} {y : Operand} {w : World} {q r : Nat} (hop : o.op = .binOp .mul 3 (.const (.int .i64 8)) y 3) (hy : a.eval y = .int .i64 (q : Int)) (hr : 8 * q = r) (hb : r < 9223372036854775808) : (execOp a.eval o).run Try.prog w = .ok (.value (.int .i64 (r : Int))) w := by
  have e : IntKind.i64.wrap (8 * (q : Int)) = (r : Int) := by
    have : (8 : Int) * (q : Int) = ((8 * q : Nat) : Int) := by simp
    rw [this, hr, wrapi hb]
  unfold execOp
  simp only [hop, hy]
  simp [go_sem, e]

set_option maxRecDepth 100000 in
set_option maxHeartbeats 6000000 in
theorem rhas_bad (ao : Option Addr) (n cap : Nat) (bs : List UInt8) (h : Hs) (hl : bs.length = n) (hcap : n ≤ cap) (hbig : n ≤ 1152921504606846976) (w : World) (hat : BytesAt w ao bs) (hb : okB bs = false) :
    Calls Try.prog 18 #[.slice ao n cap, .agg (c8 h).toArray] w fun e w' => e = .returned (.bool false) ∧ After w w' := by
  obtain ⟨w0, hw0⟩ : ∃ w0, w.alloc (.cells (c8 h).toArray 29) = w0 := ⟨_, rfl⟩
  have H0 : Hid (After w w0) := by rw [← hw0]; exact after_alloc (After.refl w) _
  have HC := show Hid _ from parts_any ao n cap bs hl hcap hbig w0 (hat.after H0.out)
  unfold PtPost at HC
  rw [hb] at HC
  obtain ⟨m, hm'⟩ : ∃ m, (rdP bs).many = m := ⟨_, rfl⟩
  obtain ⟨s, hs⟩ : ∃ m, (rdP bs).seed = m := ⟨_, rfl⟩
  rw [hm', hs] at HC
  
  clear hl hcap hbig hat hb hs
  go_enter Try.func18, Try.ntmps18
  go_wp2_with (go_at_call 27; refine Calls.mono HC.out ?_; rintro e w1 ⟨a, k, c, rfl, _, _, _, ha⟩; have H1 := show Hid (After w w1) from H0.out.trans ha; clear ha)
  go_ret
  exact ⟨rfl, H1.out⟩

set_option maxRecDepth 100000 in
set_option maxHeartbeats 6000000 in
theorem rhas_zero (ao : Option Addr) (n cap : Nat) (bs : List UInt8) (h : Hs) (hl : bs.length = n) (hcap : n ≤ cap) (hbig : n ≤ 1152921504606846976) (w : World) (hat : BytesAt w ao bs) (hb : okB bs = true) (hm : (rdP bs).many = 0) :
    Calls Try.prog 18 #[.slice ao n cap, .agg (c8 h).toArray] w fun e w' => e = .returned (.bool false) ∧ After w w' := by
  obtain ⟨w0, hw0⟩ : ∃ w0, w.alloc (.cells (c8 h).toArray 29) = w0 := ⟨_, rfl⟩
  have H0 : Hid (After w w0) := by rw [← hw0]; exact after_alloc (After.refl w) _
  have HC := show Hid _ from parts_any ao n cap bs hl hcap hbig w0 (hat.after H0.out)
  unfold PtPost at HC
  rw [hb] at HC
  obtain ⟨m, hm'⟩ : ∃ m, (rdP bs).many = m := ⟨_, rfl⟩
  obtain ⟨s, hs⟩ : ∃ m, (rdP bs).seed = m := ⟨_, rfl⟩
  rw [hm', hs] at HC
  rw [hm] at hm'
  subst hm'
  clear hl hcap hbig hat hb hs
  go_enter Try.func18, Try.ntmps18
  go_wp2_with (go_at_call 27; refine Calls.mono HC.out ?_; rintro e w1 ⟨a, k, c, rfl, _, _, _, ha⟩; have H1 := show Hid (After w w1) from H0.out.trans ha; clear ha)
  go_ret
  exact ⟨rfl, H1.out⟩

set_option maxRecDepth 100000 in
set_option maxHeartbeats 6000000 in
theorem rhas_some (ao : Option Addr) (n cap : Nat) (bs : List UInt8) (h : Hs) (h32 : h.length = 32) (hl : bs.length = n) (hcap : n ≤ cap) (hbig : n ≤ 1152921504606846976) (w : World) (hat : BytesAt w ao bs) (hok : rdOk bs) (hz : ¬ (rdP bs).many = 0) :
    Calls Try.prog 18 #[.slice ao n cap, .agg (c8 h).toArray] w fun e w' => e = .returned (.bool ((rdP bs).has (rdB bs) h)) ∧ After w w' := by
  obtain ⟨w0, hw0⟩ : ∃ w0, w.alloc (.cells (c8 h).toArray 29) = w0 := ⟨_, rfl⟩
  have H0 : Hid (After w w0 ∧ RowIs w0 w.heap.size 29 (c8 h)) := by rw [← hw0]; exact ⟨after_alloc (After.refl w) _, RowIs.new w 29 (c8 h)⟩
  have HC := show Hid _ from parts_any ao n cap bs hl hcap hbig w0 (hat.after H0.out.1)
  unfold PtPost at HC
  have HOK : Hid ((rdP bs).Ok ∧ (rdB bs).length = (rdP bs).size ∧ h.length = 32) := by
    rw [(rd_yes hok).1, (rd_yes hok).2]; exact ⟨hok.2.2.2.1, hok.2.2.2.2, h32⟩
  rw [okB_yes hok] at HC
  obtain ⟨p, hp⟩ : ∃ p, rdP bs = p := ⟨_, rfl⟩
  obtain ⟨f, hf⟩ : ∃ f, rdB bs = f := ⟨_, rfl⟩
  rw [hp] at HC hz HOK ⊢
  rw [hf] at HC HOK ⊢
  obtain ⟨Z, hZ⟩ : ∃ z, f.length = z := ⟨_, rfl⟩
  obtain ⟨M, hM⟩ : ∃ z, 8 * Z = z := ⟨_, rfl⟩
  have hall : p.all = M := by unfold Prt.all; rw [← HOK.out.2.1, hZ, ← hM]; omega
  have hpos := HOK.out.1.size_pos (by omega)
  have hsz := HOK.out.1.size
  rw [← HOK.out.2.1, hZ] at hpos hsz
  have HM : Hid (p.all = M ∧ 8 * Z = M ∧ 0 < M ∧ M < 2000000000 ∧ f.length = Z) := ⟨hall, hM, by omega, by omega, hZ⟩
  obtain ⟨m, hm⟩ : ∃ m, p.many = m := ⟨_, rfl⟩
  obtain ⟨sd, hsd⟩ : ∃ m, p.seed = m := ⟨_, rfl⟩
  rw [hm] at hz HC
  rw [hsd] at HC
  have hmz : ((m : Int) == 0) = false := beq_eq_false_iff_ne.2 (by omega)
  have hmz' : ¬ (m : Int) = 0 := by omega
  have HCP : Hid (∀ W, Calls Try.prog 24 #[.agg (c8 h).toArray, .int .u64 (sd : Int), .int .u64 (M : Int)] W fun e w' => ∃ v, e = .returned v ∧ (OwnU w' W.heap.size v (p.plc h 7) ∧ After W w')) := fun W => by
    have := rplaces_any p HOK.out.1.seed M hall (by omega) (by omega) h HOK.out.2.2 W
    rw [hsd] at this; exact this
  clear hl hcap hbig hat hok h32 hall hpos hsz hM hm hsd hp hf
  go_enter Try.func18, Try.ntmps18
  go_wp2_with (first
    | (go_at_call 27; refine Calls.mono HC.out ?_; rintro e w1 ⟨a, k, c, rfl, h1, h2, h3, ha⟩; rw [hZ] at h2; subst h2; have H1 := show Hid (After w w1 ∧ RowIs w1 w.heap.size 29 (c8 h) ∧ BytesAt w1 a f) from ⟨H0.out.1.trans ha, H0.out.2.below ha H0.out.2.lt, h1⟩; clear h1 h3 ha)
    | (refine wpList_of_run rfl (x_ld29 (x := .tmp 3) (g := w.heap.size) (h := h) HOK.out.2.2 rfl rfl H1.out.2.1) ?_)
    | (refine wpList_of_run rfl (x_muli8 (y := .tmp 27) (q := Z) (r := M) rfl rfl HM.out.2.1 (by have := HM.out.2.2.2.1; omega)) ?_)
    | (refine wpList_of_run rfl (x_conv339 (x := .tmp 28) (p := M) rfl rfl (by have := HM.out.2.2.2.1; omega)) ?_)
    | (go_at_call 24; refine Calls.mono (HCP.out w1) ?_; rintro e w2 ⟨v2, rfl, ho, ha⟩; obtain ⟨pa, pcap, he2, hpl⟩ := ho.at; rw [Prt.plc_len] at he2; subst he2; obtain ⟨gb, hgb, hpc⟩ := hpl (by intro e; have := congrArg List.length e; rw [Prt.plc_len] at this; simp at this); subst hgb; have H2 := show Hid (After w w2 ∧ BytesAt w2 a f ∧ ∀ j, j < 7 → w2.cell? ⟨gb, j, none⟩ = some (.int .u64 (((p.plc h 7).getD j 0 : Nat) : Int))) from ⟨H1.out.1.trans ha, H1.out.2.2.after ha, fun j hj => hpc j (by rw [Prt.plc_len]; exact hj)⟩; clear ho ha hpl hpc))
  go_loopw [10] (fun i wr => ∃ (j : Nat), j ≤ 7 ∧ i = .int .i64 j ∧ Hid (After w2 wr ∧ ∀ t, t < j → bitAt f ((p.plc h 7).getD t 0) = true)) (fun i _ => 7 - (intOf i).toNat)
  case atStart => exact ⟨0, by omega, rfl, After.refl _, fun t ht => by omega⟩
  case round =>
    obtain ⟨j, hj, rfl, HI⟩ := hrel
    by_cases hlt : j < 7
    · have hji : (j : Int) < 7 := by omega
      obtain ⟨q, hq⟩ : ∃ q, (p.plc h 7).getD j 0 = q := ⟨_, rfl⟩
      have hqm : q < M := by
        rw [← hq, ← HM.out.1]
        refine Prt.plc_lt (by rw [HM.out.1]; exact HM.out.2.2.1) h 7 _ ?_
        rw [List.getD_eq_getElem?_getD, List.getElem?_eq_getElem (by rw [Prt.plc_len]; exact hlt)]
        exact List.getElem_mem _
      have HMEM : Hid (q ∈ p.plc h 7) := by
        unfold Hid
        rw [← hq, List.getD_eq_getElem?_getD, List.getElem?_eq_getElem (by rw [Prt.plc_len]; exact hlt)]
        exact List.getElem_mem _
      have hqk : q / 8 < Z := by have := HM.out.2.1; omega
      obtain ⟨fb, fo, rfl, hcf⟩ := H2.out.2.1 (by intro e; have := HM.out.2.2.2.2; rw [e] at this; simp at this; omega)
      obtain ⟨d, hd⟩ : ∃ d, q / 8 = d := ⟨_, rfl⟩
      obtain ⟨r, hr⟩ : ∃ d, q % 8 = d := ⟨_, rfl⟩
      obtain ⟨y, hy⟩ : ∃ y, (f.getD d 0).toNat = y := ⟨_, rfl⟩
      obtain ⟨g, hg⟩ : ∃ g, y / 2 ^ r = g := ⟨_, rfl⟩
      have HBIT : Hid (bitAt f q = y.testBit r) := by unfold Hid bitAt; rw [hd, hr, hy]
      have hyl : y < 256 := by rw [← hy]; exact UInt8.toNat_lt _
      have hgl : g < 256 := by rw [← hg]; exact Nat.lt_of_le_of_lt (Nat.div_le_self _ _) hyl
      have hg1 := bit_div y r
      rw [hg] at hg1
      have HC1 : Hid (∀ W, After wr W → W.cell? ⟨gb, j, none⟩ = some (.int .u64 (q : Int))) := fun W hW => by
        have h0 := H2.out.2.2 j hlt
        rw [hq] at h0
        rw [← h0]; exact Below.cell (HI.out.1.trans hW) (p := ⟨gb, j, none⟩) (World.block_lt_of_cell? w2 _ h0)
      have HC2 : Hid (∀ W, After wr W → W.cell? ⟨fb, fo + d, none⟩ = some (.int .u8 (y : Int))) := fun W hW => by
        have h0 := hcf d (by rw [HM.out.2.2.2.2, ← hd]; exact hqk)
        rw [hy] at h0
        rw [← h0]; exact Below.cell (HI.out.1.trans hW) (p := ⟨fb, fo + d, none⟩) (World.block_lt_of_cell? w2 _ h0)
      have HQ : Hid (q / 8 = d ∧ q % 8 = r ∧ y / 2 ^ r = g ∧ g < 256 ∧ d < Z ∧ r < 8 ∧ d < 18446744073709551616 ∧ (p.plc h 7).getD j 0 = q) := ⟨hd, hr, hg, hgl, by omega, by omega, by have := HM.out; omega, hq⟩
      clear hqk hcf hd hr hy hg hyl hgl hq hqm
      obtain ⟨bit, hbit⟩ : ∃ b, y.testBit r = b := ⟨_, rfl⟩
      obtain ⟨tv, htv⟩ : ∃ t, (if y.testBit r then 1 else 0 : Nat) = t := ⟨_, rfl⟩
      have HT : Hid (g &&& 1 = tv) := by unfold Hid; rw [hg1, htv]
      clear hg1
      go_wp2_with fail
      refine wp_region_noPanic ?_
      refine wp_region_held_drew (S := After wr) (by kernel_rfl) (After.drew (After.refl wr)) ?_
      intro hS0
      refine tk 0 37 (.slice (some ⟨fb, fo, none⟩) Z c) (fuel := 15) rfl (by kernel_rfl) (by kernel_rfl) (by kernel_rfl) (by kernel_rfl) noPanic_false (by kernel_rfl) (fun _ _ => by kernel_rfl) hS0 ?_
      refine tk 1 38 (.slice (some ⟨gb, 0, none⟩) 7 pcap) (fuel := 14) rfl (by kernel_rfl) (by kernel_rfl) (by kernel_rfl) (by kernel_rfl) noPanic_false (by kernel_rfl) (fun _ _ => by kernel_rfl) hS0 ?_
      refine tk 2 39 (.int .i64 (j : Int)) (fuel := 13) rfl (by kernel_rfl) (by kernel_rfl) (by kernel_rfl) (by kernel_rfl) noPanic_false (by kernel_rfl) (fun _ _ => by kernel_rfl) hS0 ?_
      refine tk 3 40 (.pointer (some ⟨gb, j, none⟩)) (fuel := 12) rfl (by kernel_rfl) (by kernel_rfl) (by kernel_rfl) (by kernel_rfl) noPanic_false (by kernel_rfl) (fun W _ => x_idx47 (x := .tmp 38) (y := .tmp 39) (b := gb) (n := 7) (c := pcap) (j := j) (by kernel_rfl) (by kernel_rfl) (by kernel_rfl) hlt) hS0 ?_
      refine tk 4 41 (.int .u64 (q : Int)) (fuel := 11) rfl (by kernel_rfl) (by kernel_rfl) (by kernel_rfl) (by kernel_rfl) noPanic_false (by kernel_rfl) (fun W hW => x_ldc (t := 39) (x := .tmp 40) (g := gb) (j := j) Try.underlying39 rfl (by kernel_rfl) (by kernel_rfl) (HC1.out W hW)) hS0 ?_
      refine tk 5 42 (.int .u64 (d : Int)) (fuel := 10) rfl (by kernel_rfl) (by kernel_rfl) (by kernel_rfl) (by kernel_rfl) noPanic_false (by kernel_rfl) (fun W _ => x_quo64 (x := .tmp 41) (y := .const (.int .u64 8)) (p := q) (q := 8) (r := d) (by kernel_rfl) (by kernel_rfl) rfl HQ.out.1 ⟨by omega, HQ.out.2.2.2.2.2.2.1⟩) hS0 ?_
      refine tk 6 43 (.pointer (some ⟨fb, fo + d, none⟩)) (fuel := 9) rfl (by kernel_rfl) (by kernel_rfl) (by kernel_rfl) (by kernel_rfl) noPanic_false (by kernel_rfl) (fun W _ => x_idxb (x := .tmp 37) (y := .tmp 42) (b := fb) (off := fo) (Z := Z) (c := c) (d := d) (by kernel_rfl) (by kernel_rfl) (by kernel_rfl) HQ.out.2.2.2.2.1) hS0 ?_
      refine tk 7 44 (.int .u8 (y : Int)) (fuel := 8) rfl (by kernel_rfl) (by kernel_rfl) (by kernel_rfl) (by kernel_rfl) noPanic_false (by kernel_rfl) (fun W hW => x_ldc (t := 5) (x := .tmp 43) (g := fb) (j := fo + d) Try.underlying5 rfl (by kernel_rfl) (by kernel_rfl) (HC2.out W hW)) hS0 ?_
      refine tk 8 45 (.slice (some ⟨gb, 0, none⟩) 7 pcap) (fuel := 7) rfl (by kernel_rfl) (by kernel_rfl) (by kernel_rfl) (by kernel_rfl) noPanic_false (by kernel_rfl) (fun _ _ => by kernel_rfl) hS0 ?_
      refine tk 9 46 (.int .i64 (j : Int)) (fuel := 6) rfl (by kernel_rfl) (by kernel_rfl) (by kernel_rfl) (by kernel_rfl) noPanic_false (by kernel_rfl) (fun _ _ => by kernel_rfl) hS0 ?_
      refine tk 10 47 (.pointer (some ⟨gb, j, none⟩)) (fuel := 5) rfl (by kernel_rfl) (by kernel_rfl) (by kernel_rfl) (by kernel_rfl) noPanic_false (by kernel_rfl) (fun W _ => x_idx47 (x := .tmp 45) (y := .tmp 46) (b := gb) (n := 7) (c := pcap) (j := j) (by kernel_rfl) (by kernel_rfl) (by kernel_rfl) hlt) hS0 ?_
      refine tk 11 48 (.int .u64 (q : Int)) (fuel := 4) rfl (by kernel_rfl) (by kernel_rfl) (by kernel_rfl) (by kernel_rfl) noPanic_false (by kernel_rfl) (fun W hW => x_ldc (t := 39) (x := .tmp 47) (g := gb) (j := j) Try.underlying39 rfl (by kernel_rfl) (by kernel_rfl) (HC1.out W hW)) hS0 ?_
      refine tk 12 49 (.int .u64 (r : Int)) (fuel := 3) rfl (by kernel_rfl) (by kernel_rfl) (by kernel_rfl) (by kernel_rfl) noPanic_false (by kernel_rfl) (fun W _ => x_rem64 (x := .tmp 48) (y := .const (.int .u64 8)) (p := q) (q := 8) (r := r) (by kernel_rfl) (by kernel_rfl) rfl HQ.out.2.1 (by omega)) hS0 ?_
      refine tk 13 50 (.int .u8 (g : Int)) (fuel := 2) rfl (by kernel_rfl) (by kernel_rfl) (by kernel_rfl) (by kernel_rfl) noPanic_false (by kernel_rfl) (fun W _ => x_shr8 (ty := 49) (x := .tmp 44) (y := .tmp 49) (p := y) (q := r) (r := g) (by kernel_rfl) (by kernel_rfl) (by kernel_rfl) HQ.out.2.2.2.2.2.1 HQ.out.2.2.1) hS0 ?_
      refine tk 14 51 (.int .u8 (tv : Int)) (fuel := 1) rfl (by kernel_rfl) (by kernel_rfl) (by kernel_rfl) (by kernel_rfl) noPanic_false (by kernel_rfl) (fun W _ => x_and8 (x := .tmp 50) (y := .const (.int .u8 1)) (p := g) (q := 1) (r := tv) (by kernel_rfl) (by kernel_rfl) rfl HQ.out.2.2.2.1 (by omega) HT.out) hS0 ?_
      refine tk 15 52 (.bool (decide (tv = 0))) (fuel := 0) rfl (by kernel_rfl) (by kernel_rfl) (by kernel_rfl) (by kernel_rfl) noPanic_false (by kernel_rfl) (fun W _ => x_eq8 (x := .tmp 51) (y := .const (.int .u8 0)) (p := tv) (by kernel_rfl) (by kernel_rfl) rfl) hS0 ?_
      refine wpAnyH_done (by kernel_rfl) (NoPanic.normal ?_) _
      have HI3 : Hid (After w2 wr.drew) := HI.out.1.trans hS0
      clear hS0
      cases bit with
      | true =>
        have ht : decide (tv = 0) = false := by rw [← htv, if_pos hbit]; rfl
        rw [ht]
        have HB : Hid (bitAt f q = true) := by unfold Hid; rw [HBIT.out, hbit]
        clear ht htv hbit
        go_simp
        go_wp2
        go_roundw
        case rel => exact ⟨j + 1, by omega, by go_num, HI3.out, fun t ht => by
          rcases Nat.lt_or_ge t j with h1 | h1
          · exact HI.out.2 t h1
          · rw [show t = j by omega, HQ.out.2.2.2.2.2.2.2]; exact HB.out⟩
        case measure => simp [intOf]; omega
      | false =>
        have ht : decide (tv = 0) = true := by rw [← htv, if_neg (by rw [hbit]; simp)]; rfl
        rw [ht]
        have HB : Hid (p.has f h = false) := by
          unfold Hid Prt.has
          rw [List.all_eq_false]
          exact ⟨q, HMEM.out, by rw [HBIT.out, hbit]; simp⟩
        clear ht htv hbit
        go_simp
        go_wp2
        go_ret
        exact ⟨by rw [HB.out]; rfl, H2.out.1.trans HI3.out⟩
    · obtain rfl : j = 7 := by omega
      have HB : Hid (p.has f h = true) := by
        unfold Hid Prt.has
        rw [List.all_eq_true]
        intro q hq
        obtain ⟨t, ht, he⟩ := List.mem_iff_getElem.1 hq
        have := HI.out.2 t (by rw [Prt.plc_len] at ht; exact ht)
        rw [List.getD_eq_getElem?_getD, List.getElem?_eq_getElem ht, Option.getD_some, he] at this
        exact this
      go_wp2
      go_ret
      exact ⟨by rw [HB.out]; rfl, H2.out.1.trans HI.out.1⟩
theorem rhas_any (ao : Option Addr) (n cap : Nat) (bs : List UInt8) (h : Hs) (h32 : h.length = 32) (hl : bs.length = n) (hcap : n ≤ cap) (hbig : n ≤ 1152921504606846976) (w : World) (hat : BytesAt w ao bs) :
    Calls Try.prog 18 #[.slice ao n cap, .agg (c8 h).toArray] w fun e w' => e = .returned (.bool (hasB bs h)) ∧ After w w' := by
  unfold hasB
  by_cases hk : rdOk bs
  · by_cases hz : (rdP bs).many = 0
    · rw [if_pos hz]; exact rhas_zero ao n cap bs h hl hcap hbig w hat (okB_yes hk) hz
    · rw [if_neg hz]; exact rhas_some ao n cap bs h h32 hl hcap hbig w hat hk hz
  · rw [if_pos (by rw [(rd_no hk).1])]; exact rhas_bad ao n cap bs h hl hcap hbig w hat (okB_no hk)
end Go.Proofs.Ytgcgblecendijaa
