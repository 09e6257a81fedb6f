/-
  THE WALK OF (*Disk).Clone.
-/
import Derived.Test.YtlbodickflljfaaStart
namespace Go.Proofs.Ytlbodickflljfaa
open Go.RowKit Go.Maps Dsk
theorem makeMap_n (n : Nat) (w : World) : (Instr.makeMap 64 (some (.int .i64 (n : Int)))).run Try.prog w = .ok (.map (some w.heap.size)) (w.alloc (.map #[] 0)) := by
  simp [Instr.makeMap, run_underlying Try.underlying64, asInt, asIntOf]
theorem toE_rising {l : List (Nm × Value)} (h : Maps.Canon (.map (toE l) : DataW Value)) : rising l := by
  obtain ⟨es, e, hp, _⟩ := h
  simp only [DataW.map.injEq] at e
  subst e
  unfold toE at hp
  rw [List.pairwise_map] at hp
  exact hp
theorem Dr.rising {w : World} {F : Nat → Prop} {sb mb : Nat} {S : Dk} {cs : List Ent} (h : Dr w F sb mb S cs) : Dsk.rising S.files := by
  have h1 := toE_rising (h.own.canon law9)
  rw [← h.files]
  exact rising_names (by simp [vals, fls, onV]) h1
/-- What the loop of Clone keeps: fs: what the twin has so far. -/
structure ClR (w : World) (S : Dk) (mb r n : Nat) (cs : List Ent) (left : Lit → Bool) (cnt : Nat) (fs : List (Nm × Fl)) (wr : World) : Prop where
  rng : wr.ranges Try.prog 9 Rv mb r n (.map (toE (vals cs))) left cnt
  aft : After w wr
  twin : DiskAt wr (fun i => w.heap.size ≤ i ∧ i < wr.heap.size) w.heap.size { S with files := fs }
  mem : ∀ p, p ∈ fs ↔ p ∈ S.files ∧ left (.string p.1) = false
  len : fs.length + cnt ≤ cs.length
set_option maxHeartbeats 400000 in
theorem clone_nil (w : World) : Calls Try.prog 18 #[.pointer none] w fun e w' => e = .returned (.pointer none) ∧ w' = w := by
  go_enter Try.func18, Try.ntmps18
  go_wp2
  go_ret
  exact ⟨rfl, rfl⟩

set_option maxRecDepth 100000 in
set_option maxHeartbeats 1600000 in
theorem twin_any (F : Nat → Prop) (sb : Nat) (S : Dk) (hS : Ok S) (w : World) (hd : DiskAt w F sb S) :
    Calls Try.prog 18 #[.pointer (some ⟨sb, 0, none⟩)] w fun e w' => e = .returned (.pointer (some ⟨w.heap.size, 0, none⟩)) ∧ After w w' ∧ DiskAt w' (fun i => w.heap.size ≤ i ∧ i < w'.heap.size) w.heap.size S := by
  obtain ⟨mb, cs, hdr⟩ := hd.dr
  have HR : Hid (Dr w F sb mb S cs) := hdr
  have HS : Hid (Ok S) := hS
  have hc := hdr.row.cells68
  have h0 := hc.c0
  have h1 := hc.c1
  have h2 := hc.c2
  have h3 := hc.c3
  have h4 := hc.c4
  have h5 := hc.c5
  have h6 := hc.c6
  have hlt := hdr.row.lt
  have hcl : cs.length ≤ 64 := by have := hS.count; rw [← hdr.files] at this; simpa [fls] using this
  obtain ⟨w0, hw0⟩ : ∃ w0, w.alloc (.cells #[.int .i64 (S.most : Int), .map (some mb), .int .i64 (S.steps : Int), .bool S.down, .bool S.said, .int .i64 (S.left : Int), .bool S.done] 68) = w0 := ⟨_, rfl⟩
  have hA0 : After w w0 := by rw [← hw0]; exact after_alloc (After.refl w) _
  have hs0 : w0.heap.size = w.heap.size + 1 := by rw [← hw0]; simp
  have hlen : (Builtin.len_ #[64] 3 #[.map (some mb)]).run Try.prog w0 = .ok (.int .i64 (cs.length : Int)) w0 := by
    have := (ownsMap_same hdr.own (hA0.block mb hdr.own.lt)).len Try.underlying64 3
    rwa [size_E, show (vals cs).length = cs.length by simp [vals]] at this
  have hmk := makeMap_n cs.length w0
  have k1 := (Below.cell hA0 (p := ⟨sb, 1, none⟩) hlt).trans h1
  have hrow0 : RowIs w0 w.heap.size 68 (cells68 S mb) := by rw [← hw0]; exact RowIs.new w 68 (cells68 S mb)
  have t1 := hrow0.cell (j := 1) rfl
  have tf := fun j => hrow0.frozen j
  have hsz := hrow0.lt
  obtain ⟨W1, hW1⟩ : ∃ W1, (w0.setCell ⟨w.heap.size, 1, none⟩ (.map (some (w.heap.size + 1)))).alloc (.map #[] 0) = W1 := ⟨_, rfl⟩
  have hA1 : After w W1 := by rw [← hW1]; exact after_alloc (Below.setCell hA0 (Nat.le_refl _) _) _
  have hs1 : W1.heap.size = w.heap.size + 2 := by rw [← hW1]; simp [hs0]
  have TW : Hid (DiskAt W1 (fun i => w.heap.size ≤ i ∧ i < W1.heap.size) w.heap.size { S with files := [] }) := by
    refine ⟨w.heap.size + 1, [], ⟨Nat.le_refl _, by omega⟩, ⟨by omega, by omega⟩, ?_, ?_, ⟨by simp, by simp, by simp⟩, rfl⟩
    · rw [← hW1]
      have := (hrow0.set 1 (.map (some (w.heap.size + 1)))).alloc (.map #[] 0)
      exact this
    · rw [← hW1]
      have := World.ownsMap_made (w0.setCell ⟨w.heap.size, 1, none⟩ (.map (some (w.heap.size + 1)))) Try.prog 9 Rv
      rw [show (w0.setCell ⟨w.heap.size, 1, none⟩ (.map (some (w.heap.size + 1)))).heap.size = w.heap.size + 1 by simp [hs0]] at this
      exact this
  have HOWN : Hid (W1.ownsMap Try.prog 9 Rv mb cs.length (.map (toE (vals cs)))) := ownsMap_same hdr.own (hA1.block mb hdr.own.lt)
  have HA1 : Hid (After w W1) := hA1
  have kW := (Below.cell hA1 (p := ⟨sb, 1, none⟩) hlt).trans h1
  have hmlt := hdr.own.lt
  clear hd hdr hc hS hA1
  go_enter Try.func18, Try.ntmps18
  go_wp2_with (first | (at_range; refine wpList_range_own _ rfl _ 64 rfl 9 77 law9 Try.underlying64 Rv mb cs.length (.map (toE (vals cs))) rfl HOWN.out ?_; intro w2 hrg0 hg0 hs2) | go_in)
  go_frame
  have HC0 : Hid (ClR w S mb W1.heap.size cs.length cs (Maps.has (.map (toE (vals cs)))) (Maps.size (.map (toE (vals cs)) : DataW Value)) [] w2) := by
    have hA2 : After W1 w2 := ⟨hg0.os, hg0.tape, hg0.output, hg0.size, fun k hk => hg0.block k hk (by simp)⟩
    refine ⟨hrg0, After.trans HA1.out hA2, ((TW.out.after (fun i hi => hi.2) hA2).mono (fun i hi => ⟨hi.1, by have := hA2.size; omega⟩)), fun p => ⟨fun h => by simp at h, fun ⟨h1, h2⟩ => ?_⟩, by rw [size_E]; simp [vals]⟩
    rw [has_E] at h2
    have : fhas p.1 (vals cs) = true := by
      unfold vals
      rw [fhas_map, ← fhas_map (fun x : Value × Fl => x.2), show cs.map (onV fun x => x.2) = S.files from HR.out.files]
      exact List.any_eq_true.2 ⟨p, h1, by simp⟩
    rw [this] at h2; cases h2
  clear hrg0 hg0
  rw [hs1] at HC0
  rw [hs1]
  go_loopw [4] (fun _ wr => ∃ left cnt fs, Hid (ClR w S mb (w.heap.size + 2) cs.length cs left cnt fs wr)) (fun _ wr => wr.rangeLeft mb (w.heap.size + 2))
  case atStart => exact ⟨_, _, _, HC0⟩
  case round =>
    obtain ⟨left, cnt, fs, HX⟩ := hrel
    go_wp2_with (first | (at_next; refine wpList_next_files rfl _ rfl mb (w.heap.size + 2) cs.length cs HR.out.shaped left cnt rfl HX.out.rng ?_ ?_) | go_in)
    · intro _ hl0
      have HL0 := show Hid (∀ kl, left kl = false) from hl0
      clear hl0
      go_wp2
      go_ret
      refine ⟨rfl, HX.out.aft, ?_⟩
      obtain ⟨mb2, cs2, hd2⟩ := HX.out.twin.dr
      have e1 : fs = S.files := eq_of_mem hd2.rising HS.out.ris (fun p => by rw [HX.out.mem p]; simp [HL0.out])
      have := HX.out.twin
      rw [e1] at this
      exact this
    · intro nm ao k f w3 cnt3 hgc hlk hrg3 hlt3 hg3 hs3 hen
      have hA3 : After w w3 := below_grown HX.out.aft hg3 (fun k hk => by cases hk; omega) HX.out.aft.size
      have hT3 := HX.out.twin
      obtain ⟨mb2, cs2, hd2⟩ := hT3.dr
      have hr2 : (w.heap.size + 2) ≠ mb2 := fun e => by
        obtain ⟨es, cl, hb, _⟩ := hd2.own
        obtain ⟨_, _, _, _, _, _, _, _, _, hr, _⟩ := HX.out.rng
        rw [← e, hr] at hb; cases hb
      have hr3 : ∀ i, (w.heap.size ≤ i ∧ i < wr.heap.size) → (∃ cur t, wr.heap[i]? = some (Obj.cells cur t (0, 0))) ∨ i = mb2 → w3.heap[i]? = wr.heap[i]? := fun i hi hh => hg3.block i hi.2 (fun e => by
        simp only [Option.some.injEq] at e
        subst e
        rcases hh with ⟨cur, t, hh⟩ | hh
        · obtain ⟨_, _, _, _, _, _, _, _, _, hr, _⟩ := HX.out.rng
          rw [hr] at hh; cases hh
        · exact hr2 hh)
      have hd3 : Dr w3 (fun i => w.heap.size ≤ i ∧ i < wr.heap.size) w.heap.size mb2 { S with files := fs } cs2 := by
        refine ⟨⟨by unfold RowIs; rw [hr3 _ hd2.fsb (Or.inl ⟨_, _, hd2.row⟩)]; exact hd2.row, ownsMap_same hd2.own (hr3 _ hd2.fmb (Or.inr rfl)), hd2.files⟩, hd2.fsb, hd2.fmb, hd2.rows.same (fun c hc g hg => ?_)⟩
        obtain ⟨cur, hcur⟩ := (hd2.rows.file c hc).block hg
        exact hr3 g (hd2.rows.foot c hc g hg) (Or.inl ⟨cur, 5, hcur⟩)
      have HRG3 := show Hid (World.ranges _ _ _ _ _ _ _ _ _ _) from hrg3
      have HD3 := show Hid (Dr _ _ _ _ _ _) from hd3
      have hgf : fget nm S.files = some f := by rw [← HR.out.files]; exact fls_get hgc
      have HGF : Hid (fget nm S.files = some f) := hgf
      have HLK : Hid (left (.string nm) = true) := hlk
      have HLT : Hid (cnt3 < cnt) := hlt3
      have hmem := fget_mem hgf
      have hnm32 := (named_len (HS.out.named _ hmem)).2
      have hml : nm.length ≤ maxLen := by unfold maxLen; simp only at hnm32; omega
      have HML : Hid (nm.length ≤ maxLen) := hml
      have hfn : f.data.length ≤ 16777216 := by have h1 := used_mem hmem; have h2 := HS.out.used; have h3 := HS.out.most; simp only at h1; omega
      have hown : Own w 0 (.slice ao f.data.length k) f.data := by
        obtain ⟨sl, e, ho⟩ := HR.out.rows.file _ (fget_mem hgc)
        simp only [Value.agg.injEq] at e
        have := congrArg (fun x : Array Value => x[0]?) e
        simp at this
        rw [this]; exact ho
      obtain ⟨_, _, hsl', hat, _⟩ := Own.sl hown _ rfl
      simp only [Value.slice.injEq] at hsl'
      obtain ⟨rfl, _, rfl⟩ := hsl'
      have HAT : Hid (BytesAt w ao f.data) := hat
      have CC := show Hid (∀ W, After w W → Calls Try.prog 43 #[.slice ao f.data.length k] W fun e w' => ∃ v, e = .returned v ∧ Own w' W.heap.size v f.data ∧ Below W.heap.size W w') from fun W hW => clone_any ao k f.data (by omega) W (hat.after hW)
      obtain ⟨n, hn⟩ : ∃ n, f.data.length = n := ⟨_, rfl⟩
      have HN : Hid (f.data.length = n) := hn
      rw [hn] at CC hen ⊢
      have hcs2 : cs2.length < maxLen := by
        have h1 : cs2.length = fs.length := by rw [← (show fls cs2 = fs from hd2.files)]; simp [fls]
        have h2 := HX.out.len
        unfold maxLen; omega
      have HA3 : Hid (After w w3) := hA3
      have hz3 : w.heap.size < w3.heap.size := by have := hd3.row.lt; exact this
      clear hgc hlk hrg3 hlt3 hg3 hd2 hd3 hT3 hr3 hgf hmem hnm32 hml hown hat hn hA3
      go_wp2
      obtain ⟨V, hV⟩ : ∃ V, w3.alloc (.cells #[.slice ao n k, .int .i64 (f.safe : Int)] 77) = V := ⟨_, rfl⟩
      have hA3V : After w3 V := by rw [← hV]; exact after_alloc (After.refl w3) _
      have kf0 : V.cell? ⟨wr.heap.size, 0, none⟩ = some (.slice ao n k) := by rw [← hV, ← hs3]; exact (RowIs.new w3 77 [.slice ao n k, .int .i64 (f.safe : Int)]).cell (j := 0) rfl
      have kf1 : V.cell? ⟨wr.heap.size, 1, none⟩ = some (.int .i64 (f.safe : Int)) := by rw [← hV, ← hs3]; exact (RowIs.new w3 77 [.slice ao n k, .int .i64 (f.safe : Int)]).cell (j := 1) rfl
      have hVs : V.heap.size = wr.heap.size + 1 := by rw [← hV, ← hs3]; simp
      have HDV := show Hid (Dr _ _ _ _ _ _) from HD3.out.after hA3V
      have kt1 := HDV.out.row.cells68.c1
      have ns : w.heap.size ≠ mb2 := fun e => HDV.out.mb_ne e.symm
      have hmb2 := HDV.out.own.lt
      have hmbw : mb2 < wr.heap.size := HD3.out.fmb.2
      have nfb : wr.heap.size ≠ mb2 := by omega
      rw [hV]

      refine wp_region_noPanic ?_
      refine wp_region_held_drew (S := (Turn (fun i => i = mb2) V)) (by kernel_rfl) (Turn.drew (Turn.refl _ V)) ?_
      intro hS0
      refine tk 0 28 (.pointer (some ⟨w.heap.size, 1, none⟩)) (fuel := 9) rfl (by kernel_rfl) (by kernel_rfl) (by kernel_rfl) (by kernel_rfl) noPanic_false (by kernel_rfl) (fun _ _ => by kernel_rfl) hS0 ?_
      refine tk 1 29 (.map (some mb2)) (fuel := 8) rfl (by kernel_rfl) (by kernel_rfl) (by kernel_rfl) (by kernel_rfl) noPanic_false (by kernel_rfl) (fun W hW => x_ld64 (x := .tmp 28) (g := w.heap.size) (p := 1) (by kernel_rfl) (by kernel_rfl) (hW.cell (p := ⟨w.heap.size, 1, none⟩) ns kt1)) hS0 ?_
      refine tk 2 30 (.string (strOf nm)) (fuel := 7) rfl (by kernel_rfl) (by kernel_rfl) (by kernel_rfl) (by kernel_rfl) noPanic_false (by kernel_rfl) (fun _ _ => by kernel_rfl) hS0 ?_
      refine tk 3 31 (.pointer (some ⟨wr.heap.size, 0, none⟩)) (fuel := 6) rfl (by kernel_rfl) (by kernel_rfl) (by kernel_rfl) (by kernel_rfl) noPanic_false (by kernel_rfl) (fun _ _ => by kernel_rfl) hS0 ?_
      refine tk 4 32 (.slice ao n k) (fuel := 5) rfl (by kernel_rfl) (by kernel_rfl) (by kernel_rfl) (by kernel_rfl) noPanic_false (by kernel_rfl) (fun W hW => x_ld31 (x := .tmp 31) (g := wr.heap.size) (p := 0) (by kernel_rfl) (by kernel_rfl) (hW.cell (p := ⟨wr.heap.size, 0, none⟩) nfb kf0)) hS0 ?_
      refine tk 6 34 (.pointer (some ⟨wr.heap.size, 1, none⟩)) (fuel := 4) rfl (by kernel_rfl) (by kernel_rfl) (by kernel_rfl) (by kernel_rfl) noPanic_false (by kernel_rfl) (fun _ _ => by kernel_rfl) hS0 ?_
      refine tk 7 35 (.int .i64 (f.safe : Int)) (fuel := 3) rfl (by kernel_rfl) (by kernel_rfl) (by kernel_rfl) (by kernel_rfl) noPanic_false (by kernel_rfl) (fun W hW => x_ld3 (x := .tmp 34) (g := wr.heap.size) (p := 1) (by kernel_rfl) (by kernel_rfl) (hW.cell (p := ⟨wr.heap.size, 1, none⟩) nfb kf1)) hS0 ?_
      refine tkCallS 5 33 43 #[.slice ao n k] (fun v w' => Own w' V.drew.heap.size v f.data ∧ After V.drew w') (fuel := 2) rfl (by kernel_rfl) (by kernel_rfl) (by kernel_rfl) (fun _ => by kernel_rfl) (Calls.mono (CC.out V.drew (After.drew (After.trans HA3.out hA3V))) (fun e w' ⟨v, he, h1, h2⟩ => ⟨v, he, h1, h2⟩)) ?_
      intro v4 w4 ⟨o4, b4⟩
      have hA4 : After V w4 := After.trans (After.drew (After.refl V)) b4
      have hT4 : Turn (fun i => i = mb2) V w4 := Turn.of_after hA4
      refine ⟨hT4, ?_⟩
      obtain ⟨a4, c4, hv4, _, _⟩ := Own.sl o4 n HN.out
      subst hv4
      refine tk 8 36 (.agg #[.slice a4 n c4, .int .i64 (f.safe : Int)]) (fuel := 1) rfl (by kernel_rfl) (by kernel_rfl) (by kernel_rfl) (by kernel_rfl) noPanic_false (by kernel_rfl) (fun _ _ => by kernel_rfl) hT4 ?_
      refine tkPut 9 (.tmp 29) (.tmp 30) (.tmp 36) mb2 (cs2.length) (vals cs2) (nm) (.agg #[.slice a4 n c4, .int .i64 (f.safe : Int)]) (fuel := 0) rfl (by kernel_rfl) (by kernel_rfl) (by kernel_rfl) (by kernel_rfl) (by kernel_rfl) (by kernel_rfl) (by kernel_rfl) (ownsMap_same HDV.out.own (hA4.block mb2 hmb2)) (hcs2) (HML.out) ?_
      intro w5 g1 g2
      have hT5 : Turn (fun i => i = mb2) V w5 := hT4.grow g2 (fun g e => Or.inl (by cases e; rfl))
      refine ⟨hT5, ?_⟩
      refine wpAnyH_done (by kernel_rfl) (NoPanic.normal ?_) _
      have NEXT : Hid (ClR w S mb (w.heap.size + 2) cs.length cs (fun z => left z && !z.sameKey (.string nm)) cnt3 (fput nm f fs) w5) := by
        have hs5 := g2.size
        have hs4 := hA4.size
        have hnew : ∀ g, (Value.slice a4 n c4).ownBlock = some g → V.heap.size ≤ g ∧ g < w4.heap.size := fun g hg => World.ownsRow.lt o4 g hg
        have hsbV := HDV.out.row.lt
        have hD := HDV.out.put (F' := fun i => w.heap.size ≤ i ∧ i < w5.heap.size) (f := f) (fun i hi => ⟨hi.1, by omega⟩) (hT5.same hsbV ns) g1 (fun c hc _ g hg => hT5.same (HDV.out.row_ne hc hg).2.2 (HDV.out.row_ne hc hg).1)
          ⟨.slice a4 n c4, rfl, (o4.mono (Nat.zero_le _)).same (fun g hg => g2.block g (hnew g hg).2 (fun e => by
            cases e
            have := (hnew _ hg).1
            omega))⟩ (fun g hg => by
            rw [rowB_file] at hg
            have := hnew g hg
            exact ⟨⟨by omega, by omega⟩, fun c hc _ hcg => by have := (HDV.out.row_ne hc hcg).2.2; omega⟩)
        have hmem := fget_mem HGF.out
        have hmne : some mb ≠ some mb2 := fun e => by simp only [Option.some.injEq] at e; have := HD3.out.fmb.1; omega
        have hrne : some (w.heap.size + 2) ≠ some mb2 := fun e => by simp only [Option.some.injEq] at e; exact hr2 e
        have hgV : w3.grownBy V none := ⟨hA3V.os, hA3V.tape, hA3V.output, hA3V.size, fun k hk _ => hA3V.block k hk⟩
        have hg4 : V.grownBy w4 none := ⟨hA4.os, hA4.tape, hA4.output, hA4.size, fun k hk _ => hA4.block k hk⟩
        have hwlt := HA3.out.size
        refine ⟨((HRG3.out.kept hgV (by simp) (by simp)).kept hg4 (by simp) (by simp)).kept g2 hmne hrne, ?_, hD.disk, fun p => ?_, ?_⟩
        · exact below_grown (After.trans HA3.out (After.trans hA3V hA4)) g2 (fun g e => by cases e; exact HD3.out.fmb.1) (After.trans HA3.out (After.trans hA3V hA4)).size
        · rw [fput_mem, HX.out.mem p]
          have hsk : ∀ q : Nm × Fl, (Lit.string q.1).sameKey (.string nm) = (q.1 == nm) := fun _ => rfl
          by_cases e : p.1 = nm
          · have h1 : (Lit.string p.1).sameKey (.string nm) = true := by rw [hsk p, e]; simp
            rw [h1]
            simp only [Bool.not_true, Bool.and_false, and_true]
            constructor
            · rintro (rfl | ⟨_, h2⟩)
              · exact hmem
              · exact absurd e h2
            · intro h2
              left
              obtain ⟨p1, p2⟩ := p
              simp only at e
              subst e
              have := rising_get HS.out.ris h2
              rw [HGF.out] at this
              cases this; rfl
          · have h1 : (Lit.string p.1).sameKey (.string nm) = false := by rw [hsk p]; simp [e]
            rw [h1]
            simp only [Bool.not_false, Bool.and_true]
            constructor
            · rintro (rfl | ⟨h2, _⟩)
              · exact absurd rfl e
              · exact h2
            · intro h2; exact Or.inr ⟨h2, e⟩
        · have h1 := fput_len nm f fs
          have h2 := HX.out.len
          have h3 := HLT.out
          omega
      have hmeas : w5.rangeLeft mb (w.heap.size + 2) < wr.rangeLeft mb (w.heap.size + 2) := by rw [NEXT.out.rng.left_eq, HX.out.rng.left_eq]; exact HLT.out
      have HME : Hid (w5.rangeLeft mb (w.heap.size + 2) < wr.rangeLeft mb (w.heap.size + 2)) := hmeas
      clear hmeas hT5 hT4 g1 g2 o4 b4 hA4 hS0 kf0 kf1 kt1
      go_simp
      go_wp2
      go_roundw
      case rel => exact ⟨_, _, _, NEXT⟩
      case measure => exact HME.out
end Go.Proofs.Ytlbodickflljfaa
