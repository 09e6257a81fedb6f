/-
  THE WALK OF (*Hasher).Write: bytes that are written are taken one by one, a block mixed in each time one is full; nothing but the hasher has turned.
-/
import Derived.Test.YtpnhklefoafgkaaDoorWriteKit
namespace Go.Proofs.YtpnhklefoafgkaaDoor
open Go.RowKit Sha
def WrRel (gH : Nat) (h0 : Hs) (bs : List UInt8) (w : World) (j : Nat) (wr : World) : Prop :=
  But gH w wr ∧ RowIs wr gH 56 (hcs (feed h0 (bs.take j)))
set_option maxRecDepth 100000 in
set_option maxHeartbeats 400000 in
theorem write_any (gH : Nat) (h0 : Hs) (hp : h0.part.length = 64) (ao : Option Addr) (bs : List UInt8) (len cap : Nat) (hlen : len = bs.length) (hcap : len ≤ cap) (w : World)
    (ht : Tab w) (hg0 : 0 ≠ gH) (hr : RowIs w gH 56 (hcs h0)) (hb : BytesAt w ao bs) (hap : bs ≠ [] → ∀ b o, ao = some ⟨b, o, none⟩ → b ≠ gH) (hbd : h0.n + bs.length < 1152921504606846976) :
    Calls Tryd.prog 14 #[.pointer (some ⟨gH, 0, none⟩), .slice ao len cap] w fun e w' => e = .returned (.tuple #[]) ∧ But gH w w' ∧ RowIs w' gH 56 (hcs (feed h0 bs)) := by
  have H1 : Hid (Tab w) := ht
  have H2 : Hid (RowIs w gH 56 (hcs h0)) := hr
  have H3 : Hid (BytesAt w ao bs) := hb
  have H4 : Hid (bs ≠ [] → ∀ b o, ao = some ⟨b, o, none⟩ → b ≠ gH) := hap
  clear ht hr hb hap
  go_enter Tryd.func14, Tryd.ntmps14
  go_wp2
  go_loopw [1] (fun v wr => ∃ (j : Nat) (ao' : Option Addr), j ≤ bs.length ∧ v = .slice ao' (bs.length - j) (cap - j) ∧ (∀ b o, ao = some ⟨b, o, none⟩ → j < bs.length → ao' = some ⟨b, o + j, none⟩) ∧ WrRel gH h0 bs w j wr) (fun v _ => match v with | .slice _ n _ => n | _ => 0)
  case atStart => exact ⟨0, ao, Nat.zero_le _, by rw [hlen]; rfl, fun b o h _ => by simpa using h, But.refl _ _, by simpa [feed] using H2.out⟩
  case round =>
    obtain ⟨j, ao', hj, rfl, ha, hR⟩ := hrel
    by_cases hlt : j < bs.length
    · obtain ⟨b, o, hao, hc⟩ := H3.out (by intro e; rw [e] at hlt; simp at hlt)
      have ea := ha b o hao hlt
      have hne : b ≠ gH := H4.out (by intro e; rw [e] at hlt; simp at hlt) b o hao
      subst ea
      have HAO := show Hid _ from hao
      clear ha hao H3 H4
      obtain ⟨hB, hRow⟩ := hR
      have hpart := feed_part (bs.take j) h0
      have hnn := feed_n (bs.take j) h0
      rw [List.length_take, Nat.min_eq_left hj] at hnn
      rw [hp] at hpart
      generalize hh : feed h0 (bs.take j) = h at *
      have HH := show Hid _ from hh
      clear hh
      have e72 : wr.cell? ⟨gH, 72, none⟩ = some (.int .i64 (h.n : Int)) := hRow.cell (hcs_n h hpart)
      have bN : h.n < 1152921504606846976 := by omega
      obtain ⟨off, Hoff, ho64, htm⟩ : ∃ off : Nat, Hid (off = h.n % 64) ∧ off < 64 ∧ (h.n : Int).tmod 64 = (off : Int) := ⟨h.n % 64, rfl, by omega, by rw [Int.tmod_eq_emod_of_nonneg (by omega)]; omega⟩
      have hsl := fun W => slice54 gH off ho64 W
      obtain ⟨xs, Hxs, hxl, hx0⟩ : ∃ xs : List UInt8, Hid (xs = (bs.drop j).take (64 - off)) ∧ xs.length = Nat.min (bs.length - j) (64 - off) ∧ 0 < xs.length := ⟨_, rfl, by simp [Nat.min_comm], by simp; omega⟩
      obtain ⟨m, hxm⟩ : ∃ m, xs.length = m := ⟨_, rfl⟩
      rw [hxm] at hxl hx0
      have hml : m ≤ bs.length - j := by rw [hxl]; exact Nat.min_le_left _ _
      have hmo : m ≤ 64 - off := by rw [hxl]; exact Nat.min_le_right _ _
      have hsrc : Hid (∀ i v, (c8 xs)[i]? = some v → wr.drew.cell? ((⟨b, o + j, none⟩ : Addr).add i) = some v) := fun i v hv => by
        have hi : i < xs.length := by have := (List.getElem?_eq_some_iff.1 hv).1; rwa [c8_len] at this
        rw [c8_get xs i hi] at hv
        rw [Addr.add_mid, World.cell?_drew]
        refine hB.cell (p := ⟨b, o + j + i, none⟩) hne ?_
        have := hc (j + i) (by omega)
        rw [show o + (j + i) = o + j + i by omega] at this
        rw [this, ← hv, Hxs.out]
        have : i < 64 - off := by omega
        simp [this]
      have hres : Hid ((hcs h).take (8 + off) ++ c8 xs ++ (hcs h).drop (8 + off + (c8 xs).length) = hcs ⟨h.st, chunk h.part off xs, h.n⟩) := hcs_copy h hpart off xs (by omega)
      have hfit : Hid (8 + off + (c8 xs).length ≤ (hcs h).length) := by unfold Hid; rw [hcs_len h hpart, c8_len]; omega
      have hcl : Hid ((c8 xs).length = Nat.min (bs.length - j) (64 - off)) := by unfold Hid; rw [c8_len, hxm]; exact hxl
      have hcpart : Hid ((chunk h.part off xs).length = 64) := by unfold Hid; rw [chunk_len _ _ _ (by omega)]; exact hpart
      have hcm : Hid ((c8 xs).length = m) := by unfold Hid; rw [c8_len]; exact hxm
      have HF : Hid (feed h xs = ⟨if (h.n + m) % 64 = 0 then mix h.st (chunk h.part off xs) else h.st, chunk h.part off xs, h.n + m⟩) := by
        unfold Hid
        rw [feed_chunk xs h hpart (by intro e; rw [e] at hxm; simp at hxm; omega) (by rw [hxm, ← Hoff.out]; exact hmo), hxm, ← Hoff.out]
      have HN : Hid (feed h0 (bs.take (j + m)) = feed h xs) := by
        unfold Hid
        rw [← HH.out, ← feed_append]
        congr 1
        rw [Hxs.out, List.take_add]
        congr 1
        rw [hxl]
        simp only [Nat.min_def]
        split
        · rw [List.take_of_length_le (by simp), List.take_of_length_le (by simp; omega)]
        · rfl
      have hfit5 : Hid (0 + (c32 (mix h.st (chunk h.part off xs)).list).length ≤ (hcs ⟨h.st, chunk h.part off xs, h.n + m⟩).length) := by
        unfold Hid; rw [hcs_len ⟨h.st, chunk h.part off xs, h.n + m⟩ hcpart.out, c32_len, list_len]; omega
      have hsz8 : Hid ((Tryd.prog.info? 51).map (·.size) = some (c32 (mix h.st (chunk h.part off xs)).list).length) := by
        unfold Hid; rw [c32_len, list_len]; exact size51
      have hap8 : Hid (0 + (c32 (mix h.st (chunk h.part off xs)).list).length ≤ 8) := by unfold Hid; rw [c32_len, list_len]; omega
      have HXL := show Hid _ from hxl
      have HXM := show Hid _ from hxm
      have HB : Hid (But gH w wr) := hB
      have HRow : Hid (RowIs wr gH 56 (hcs h)) := hRow
      have Hpart : Hid (h.part.length = 64) := hpart
      have Hnn := show Hid _ from hnn
      have HC := show Hid _ from hc
      clear hB hRow hpart hnn hc hxl hxm
      go_wp2
      go_region_held3 (fun w' => w'.cell? ⟨gH, 72, none⟩ = some (.int .i64 (h.n : Int))) (first | (go_keep; done) | exact (RowIs.setRow HRow.out _).cell (hcs_n _ hcpart.out)) (refine step_copy_row rfl _ _ rfl gH (8 + off) (64 - off) (64 - off) rfl ⟨b, o + j, none⟩ (bs.length - j) (cap - j) rfl 56 (hcs h) (c8 xs) _ HRow.out hcl.out hsrc.out m hcm.out hfit.out (c8_one _) hres.out ?_)
      refine with_world (p := fun W => Exit.then _ _ _ _ W) (fun W => But gH w W ∧ RowIs W gH 56 (hcs ⟨h.st, chunk h.part off xs, h.n⟩)) ⟨(HB.out.setRow _).drew, (RowIs.setRow HRow.out _).drew⟩ ?_
      rintro W2 ⟨hB2, hRow2⟩
      have f72 : W2.cell? ⟨gH, 72, none⟩ = some (.int .i64 (h.n : Int)) := hRow2.cell (hcs_n _ hcpart.out)
      have z72 := hRow2.frozen 72
      have HB2 : Hid (But gH w W2) := hB2
      have HRow2 : Hid (RowIs W2 gH 56 (hcs ⟨h.st, chunk h.part off xs, h.n⟩)) := hRow2
      clear hB2 hRow2 e72 hsl htm
      obtain ⟨ao2, hao2, hs22⟩ := slice22 b (o + j) (bs.length - j) (cap - j) m hml (by omega)
      have HA2 := show Hid _ from hao2
      clear hao2
      by_cases hz : (h.n + m) % 64 = 0
      · have hz' : (((h.n : Int) + (m : Int)) % 64 == 0) = true := by rw [beq_iff_eq]; omega
        go_wp2
        refine with_world (p := fun W => Code.wp _ _ _ _ W) (fun W => But gH w W ∧ RowIs W gH 56 (hcs ⟨h.st, chunk h.part off xs, h.n + m⟩)) ⟨HB2.out.setCell _ _, by have := HRow2.out.set 72 (.int .i64 ((h.n : Int) + (m : Int))); rw [hcs_set _ _ hcpart.out] at this; exact this⟩ ?_
        rintro W3 ⟨hB3, hRow3⟩
        clear hs22 f72 z72 hz' HRow2 HB2
        refine wp_region_noPanic ?_
        refine wp_region_held_drew (S := fun w' => w'.rangeAt gH 8 (c8 (chunk h.part off xs))) (by kernel_rfl) ((World.rangeAt_drew _ _ _ _).2 (RowIs.range (h := ⟨h.st, chunk h.part off xs, h.n + m⟩) hRow3)) ?_
        intro hS
        refine wpAnyH_take (i := 0) (v := (.pointer (some ⟨gH, 0, none⟩))) (fuel := 12) rfl (by kernel_rfl) (by kernel_rfl) (by kernel_rfl) (fun _ _ _ h => (h : False).elim) (.inl ⟨by kernel_rfl, fun _ _ => by kernel_rfl⟩) hS ?_
        refine wpAnyH_take (i := 1) (v := (.pointer (some ⟨gH, 0, none⟩))) (fuel := 11) rfl (by kernel_rfl) (by kernel_rfl) (by kernel_rfl) (fun _ _ _ h => (h : False).elim) (.inl ⟨by kernel_rfl, fun _ _ => by kernel_rfl⟩) hS ?_
        refine wpAnyH_take (i := 2) (v := (.pointer (some ⟨gH, 0, none⟩))) (fuel := 10) rfl (by kernel_rfl) (by kernel_rfl) (by kernel_rfl) (fun _ _ _ h => (h : False).elim) (.inl ⟨by kernel_rfl, fun _ _ => by kernel_rfl⟩) hS ?_
        refine wpAnyH_take (i := 3) (v := (.pointer (some ⟨gH, 0, none⟩))) (fuel := 9) rfl (by kernel_rfl) (by kernel_rfl) (by kernel_rfl) (fun _ _ _ h => (h : False).elim) (.inl ⟨by kernel_rfl, fun _ _ => by kernel_rfl⟩) hS ?_
        refine wpAnyH_take (i := 5) (v := (.pointer (some ⟨gH, 0, none⟩))) (fuel := 8) rfl (by kernel_rfl) (by kernel_rfl) (by kernel_rfl) (fun _ _ _ h => (h : False).elim) (.inl ⟨by kernel_rfl, fun _ _ => by kernel_rfl⟩) hS ?_
        refine wpAnyH_take (i := 6) (v := (.pointer (some ⟨gH, 0, none⟩))) (fuel := 7) rfl (by kernel_rfl) (by kernel_rfl) (by kernel_rfl) (fun _ _ _ h => (h : False).elim) (.inl ⟨by kernel_rfl, fun _ _ => by kernel_rfl⟩) hS ?_
        refine wpAnyH_take (i := 7) (v := (.pointer (some ⟨gH, 8, none⟩))) (fuel := 6) rfl (by kernel_rfl) (by kernel_rfl) (by kernel_rfl) (fun _ _ _ h => (h : False).elim) (.inl ⟨by kernel_rfl, fun _ _ => by kernel_rfl⟩) hS ?_
        refine wpAnyH_take (i := 8) (fuel := 5) rfl (by kernel_rfl) (by kernel_rfl) (by kernel_rfl) (fun _ _ _ h => (h : False).elim) (yieldsIf_load_mid (by kernel_rfl) 54 (.tmp 45) rfl gH 8 (by kernel_rfl) (c8 (chunk h.part off xs)) _ (fun _ h => h) Tryd.underlying54 rfl (by rw [c8_len, hcpart.out]; exact size54)) hS ?_
        refine wpAnyH_all (rs := [4]) (by kernel_rfl) (by simp) ?_
        intro i hi
        obtain rfl : i = 4 := by simpa using hi
        refine op_load rfl (by kernel_rfl) 51 (.tmp 41) rfl gH 0 (by kernel_rfl) (c32 h.st.list) _ (RowIs.range0 (h := ⟨h.st, chunk h.part off xs, h.n + m⟩) hRow3.drew) Tryd.underlying51 rfl size51 ⟨hS, ?_⟩
        refine wpAnyH_all (rs := [9]) (by kernel_rfl) (by simp) ?_
        intro i hi
        obtain rfl : i = 9 := by simpa using hi
        refine op_call rfl (by kernel_rfl) 26 #[.agg (c32 h.st.list).toArray, .agg (c8 (chunk h.part off xs)).toArray] _ _ (by kernel_rfl) (mixed_any h.st _ hcpart.out _ (hB3.drew.tab hg0 H1.out)) ?_
        intro w1 hb1
        have hRow4 : RowIs w1 gH 56 (hcs ⟨h.st, chunk h.part off xs, h.n + m⟩) := hRow3.drew.below hb1 hRow3.drew.lt
        have hB4 : But gH w w1 := hB3.drew.trans (But.of_below hb1)
        have hS1 : w1.rangeAt gH 8 (c8 (chunk h.part off xs)) := RowIs.range (h := ⟨h.st, chunk h.part off xs, h.n + m⟩) hRow4
        refine ⟨hS1, ?_⟩
        refine wpAnyH_take (i := 10) (v := (.pointer (some ⟨gH, 0, none⟩))) (fuel := 2) rfl (by kernel_rfl) (by kernel_rfl) (by kernel_rfl) (fun _ _ _ h => (h : False).elim) (.inl ⟨by kernel_rfl, fun _ _ => by kernel_rfl⟩) hS1 ?_
        refine wpAnyH_take (i := 11) (v := (.pointer (some ⟨gH, 0, none⟩))) (fuel := 1) rfl (by kernel_rfl) (by kernel_rfl) (by kernel_rfl) (fun _ _ _ h => (h : False).elim) (.inl ⟨by kernel_rfl, fun _ _ => by kernel_rfl⟩) hS1 ?_
        have hth : w1.there gH 0 (c32 (mix h.st (chunk h.part off xs)).list).length := by
          have := RowIs.there (h := ⟨h.st, chunk h.part off xs, h.n + m⟩) hRow4
          rw [c32_len, list_len] at this ⊢
          exact this
        refine wpAnyH_all (rs := [12]) (by kernel_rfl) (by simp) ?_
        intro i hi
        obtain rfl : i = 12 := by simpa using hi
        refine op_store rfl (by kernel_rfl) 51 (.tmp 49) (.tmp 47) rfl gH 0 (c32 (mix h.st (chunk h.part off xs)).list) (by kernel_rfl) (by kernel_rfl) hth hsz8.out (c32_one _) ⟨World.rangeAt_setCells_apart hS1 _ _ _ (Or.inr (Or.inr hap8.out)), ?_⟩
        refine wpAnyH_done (by kernel_rfl) (NoPanic.normal ?_) _
        have hB5 := hB4.setCells (c32 (mix h.st (chunk h.part off xs)).list) 0
        have hRow5 := RowIs.setCells (c32 (mix h.st (chunk h.part off xs)).list) 0 w1 _ hRow4 hfit5.out
        rw [hcs_mix] at hRow5
        refine with_world (p := fun W => Exit.inBlock _ _ _ _ W) (fun W => But gH w W ∧ RowIs W gH 56 (hcs ⟨mix h.st (chunk h.part off xs), chunk h.part off xs, h.n + m⟩)) ⟨hB5, hRow5⟩ ?_
        clear hB5 hRow5 hB4 hRow4 hS1 hb1 hS hB3 hRow3 hth
        rintro W5 ⟨hB5, hRow5⟩
        have HB5 := show Hid _ from hB5
        have HRow5 := show Hid _ from hRow5
        clear hB5 hRow5
        have HF' : Hid (feed h xs = ⟨mix h.st (chunk h.part off xs), chunk h.part off xs, h.n + m⟩) := by have := HF.out; rw [if_pos hz] at this; exact this
        clear hz
        have HBX := HB5
        have HRX := HRow5
        go_simp
        go_wp2
        go_roundw
        case rel => exact ⟨j + m, ao2, by omega, by rw [Nat.sub_sub, Nat.sub_sub], fun b' o' he hl => by
            rw [HAO.out] at he; cases he; rw [← Nat.add_assoc]; exact HA2.out (by omega), HBX.out, by rw [HN.out, HF'.out]; exact HRX.out⟩
        case measure => simp; omega
      · have hz' : (((h.n : Int) + (m : Int)) % 64 == 0) = false := by rw [beq_eq_false_iff_ne]; omega
        have HF' : Hid (feed h xs = ⟨h.st, chunk h.part off xs, h.n + m⟩) := by have := HF.out; rw [if_neg hz] at this; exact this
        have HBX : Hid (But gH w (W2.setCell ⟨gH, 72, none⟩ (.int .i64 ((h.n : Int) + (m : Int))))) := HB2.out.setCell _ _
        have HRX : Hid (RowIs (W2.setCell ⟨gH, 72, none⟩ (.int .i64 ((h.n : Int) + (m : Int)))) gH 56 (hcs ⟨h.st, chunk h.part off xs, h.n + m⟩)) := by have := HRow2.out.set 72 (.int .i64 ((h.n : Int) + (m : Int))); rw [hcs_set _ _ hcpart.out] at this; exact this
        go_wp2
        go_roundw
        case rel => exact ⟨j + m, ao2, by omega, by rw [Nat.sub_sub, Nat.sub_sub], fun b' o' he hl => by
            rw [HAO.out] at he; cases he; rw [← Nat.add_assoc]; exact HA2.out (by omega), HBX.out, by rw [HN.out, HF'.out]; exact HRX.out⟩
        case measure => simp; omega
    · obtain rfl : j = bs.length := by omega
      obtain ⟨hB, hRow⟩ := hR
      rw [List.take_length] at hRow
      have HB : Hid (But gH w wr) := hB
      have HRow : Hid (RowIs wr gH 56 (hcs (feed h0 bs))) := hRow
      clear hB hRow ha H3 H4
      go_wp2
      go_end0
      exact ⟨rfl, HB.out, HRow.out⟩
end Go.Proofs.YtpnhklefoafgkaaDoor
