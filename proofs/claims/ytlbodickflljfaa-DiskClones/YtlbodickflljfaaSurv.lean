/-
  THE WALK OF disk.survivor.
-/
import Derived.Test.YtlbodickflljfaaRename
namespace Go.Proofs.Ytlbodickflljfaa
open Go.RowKit Go.Maps Dsk
theorem zero5 (w : World) : (zeroValue 5).run Try.prog w = .ok (.int .u8 0) w := by kernel_rfl
/-- f.data[lo:hi], of a row. -/
theorem Own.slice_lohi {w : World} {ao : Option Addr} {n c : Nat} {bs : List UInt8} (h : Own w 0 (.slice ao n c) bs) {g : Nat} (hg : ao = some ⟨g, 0, none⟩) {lo hi : Nat} (h1 : lo ≤ hi) (h2 : hi ≤ n) :
    ∃ a1, (lo < hi → a1 = ⟨g, lo, none⟩) ∧ ∀ W : World, (Instr.sliceAt 31 (.slice ao n c) (some (.int .i64 (lo : Int))) (some (.int .i64 (hi : Int))) none).run Try.prog W = .ok (.slice (some a1) (hi - lo) (c - lo)) W := by
  have hnc : n ≤ c := by
    obtain ⟨ao', c', e, _, hle, _⟩ := h.at
    simp at e; omega
  subst hg
  obtain ⟨i, hi', hz⟩ := Option.map_eq_some_iff.1 bytes5
  simp only [Prod.mk.injEq] at hz
  obtain ⟨_, hsz, _⟩ := hz
  refine ⟨if c = lo then ⟨g, 0, none⟩ else ((⟨g, 0, none⟩ : Addr).add lo), fun hlt => ?_, fun W => ?_⟩
  · rw [if_neg (by omega), Addr.add_mid]; simp
  · by_cases hcl : c = lo
    · simp [Instr.sliceAt, Instr.slice, run_underlying Try.underlying31, Instr.sliceBounds, Instr.sliceBound, asIntOf, sizeOf, typeInfo, hi', hsz, hcl]
      rw [if_pos (by omega), if_pos h1]
    · simp [Instr.sliceAt, Instr.slice, run_underlying Try.underlying31, Instr.sliceBounds, Instr.sliceBound, asIntOf, sizeOf, typeInfo, hi', hsz, hcl]
      rw [if_pos (by omega), if_pos h1]
theorem take_cut {α : Type} (cur : List α) (lo m n : Nat) (z : α) (h : lo + m ≤ n) (hn : n ≤ cur.length) : (cur.take lo ++ List.replicate m z ++ cur.drop (lo + m)).take n = (cur.take n).take lo ++ List.replicate m z ++ (cur.take n).drop (lo + m) := by
  have hl : (cur.take lo ++ List.replicate m z).length = lo + m := by simp; omega
  rw [List.take_append, hl, List.take_of_length_le (by omega), List.take_take, Nat.min_eq_left (by omega), List.drop_take]
theorem c8_cut (i s n : Nat) (d : List UInt8) : c8 (cutLen i s n d) = (c8 d).take (i + s) ++ List.replicate (n - (i + s)) (.int .u8 0) ++ (c8 d).drop n := by
  simp [c8, cutLen, List.map_take, List.map_drop]
/-- clear of a part of a row. -/
theorem Own.clear {w : World} {g n c : Nat} {d : List UInt8} (h : Own w 0 (.slice (some ⟨g, 0, none⟩) n c) d) (hn : d.length = n) {i s next : Nat} (h1 : i + s ≤ next) (h2 : next ≤ n) {a1 : Addr} (ha : i + s < next → a1 = ⟨g, i + s, none⟩) (k : Nat) :
    ∃ w', (Builtin.clear_ #[31] 0 #[.slice (some a1) (next - (i + s)) k]).run Try.prog w = .ok (.tuple #[]) w' ∧ Own w' 0 (.slice (some ⟨g, 0, none⟩) n c) (cutLen i s next d) ∧ w.grownBy w' (some g) := by
  by_cases hlt : i + s < next
  · rw [ha hlt]
    rcases h.2 with ⟨e, _⟩ | ⟨g', cap, cur, e, hb, hg, hnc, hcm, hcs, ht⟩
    · cases e
    · simp at e
      obtain ⟨rfl, e2, rfl⟩ := e
      rw [Nat.mul_one] at hcs ht
      obtain ⟨m, hm⟩ : ∃ m, next - (i + s) = m + 1 := ⟨next - (i + s) - 1, by omega⟩
      have hz : (Builtin.zeroCells (Value.cells (.int .u8 0)) (m + 1)).toList = List.replicate (m + 1) (.int .u8 0) := by
        simp [Builtin.zeroCells, Value.cells]
        apply List.ext_getElem
        · simp
        · intro j h1 h2; simp [Nat.mod_one]
      have hst := run_storeCells_at Try.prog g (i + s) 5 (List.replicate (m + 1) (Value.int .u8 0)) 0 cur w hg (by simp; omega) (by intro v hv; rw [List.eq_of_mem_replicate hv]; rfl)
      simp only [Nat.add_zero] at hst
      refine ⟨w.setRow g (cur.toList.take (i + s) ++ List.replicate (m + 1) (Value.int .u8 0) ++ cur.toList.drop (i + s + (List.replicate (m + 1) (Value.int .u8 0)).length)).toArray, ?_, ⟨by simp [c8_len], .inr ⟨g, c, _, by rw [cutLen_len i s next d h1 (by omega), hn], hb, setRow_heap w g cur _ 5 _ hg, by rw [cutLen_len i s next d h1 (by omega), hn]; omega, hcm, by simp; omega, ?_⟩⟩,
        ⟨rfl, rfl, rfl, by simp, fun k _ hk => setRow_other w g k _ (fun e => hk (by rw [e]))⟩⟩
      · rw [hm]
        simp [Builtin.clear_, run_underlying Try.underlying31, hz, hst]
      · rw [Nat.mul_one, cutLen_len i s next d h1 (by omega), c8_cut, hm]
        have e1 : i + s + (m + 1) = next := by omega
        rw [← ht, List.length_replicate, take_cut cur.toList (i + s) (m + 1) d.length _ (by omega) (by simp; omega), e1]
  · have e1 : i + s = next := by omega
    have e2 : cutLen i s next d = d := by
      unfold cutLen; rw [e1]; simp
    refine ⟨w, ?_, by rw [e2]; exact h, ⟨rfl, rfl, rfl, Nat.le_refl _, fun _ _ _ => rfl⟩⟩
    rw [show next - (i + s) = 0 by omega]
    simp [Builtin.clear_, run_underlying Try.underlying31]
/-- keep[1:]. -/
theorem keep_from (b o len cap : Nat) (hc : len + 1 ≤ cap) (W : World) : (Instr.sliceAt 31 (.slice (some ⟨b, o, none⟩) (len + 1) cap) (some (.int .i64 1)) none none).run Try.prog W = .ok (.slice (cutAt (some ⟨b, o, none⟩) 1 cap) len (cap - 1)) W := by
  have := slice_from (some ⟨b, o, none⟩) (len + 1) cap 1 (fun h => by cases h) hc (by omega) W
  simpa using this
theorem surv_round {n i e : Nat} {d k : List UInt8} {R : Nat × List UInt8 × List UInt8} (hd : d.length = n) (hi : i < n) (hR : surv n i e d k = R) {nx s : Nat} (hnx : nextAt i n = nx) (hs : stays k (nx - i) = s) : surv n nx (if 0 < s then i + s else e) (cutLen i s nx d) (k.drop 1) = R := by
  subst hd
  obtain ⟨m, hm⟩ : ∃ m, d.length = m + 1 := ⟨d.length - 1, by omega⟩
  have hg := nextAt_gt hi
  have hsl := stays_le k (nx - i)
  have h1 := surv_step m i e d k hi hnx hs
  rw [hm] at hR ⊢
  rw [← hR, h1]
  refine surv_more m _ _ _ _ ?_ 1
  rw [cutLen_len _ _ _ _ (by omega) (by omega)]
  omega
/-- What the loop of survivor keeps. -/
structure SR (w : World) (ao : Option Addr) (n c : Nat) (R : Nat × List UInt8 × List UInt8) (ka : Option Addr) (i e : Nat) (d k : List UInt8) (ka' : Option Addr) (kc' : Nat) (wr : World) : Prop where
  i_le : i ≤ n
  e_le : e ≤ i
  dl : d.length = n
  own : Own wr 0 (.slice ao n c) d
  res : surv n i e d k = R
  keep : BytesAt wr ka' k
  kc : k.length ≤ kc'
  kb : ∀ a, ka' = some a → ∃ b, ka = some b ∧ b.block = a.block
  turn : Turn (fun i => (Value.slice ao n c).ownBlock = some i) w wr
  f0 : wr.cell? ⟨w.heap.size, 0, none⟩ = some (.slice ao n c)
  sz : w.heap.size + 1 < wr.heap.size
  gl : ∀ g, (Value.slice ao n c).ownBlock = some g → g < w.heap.size
  rr : RowIs wr (w.heap.size + 1) 77 [.slice none 0 0, .int .i64 0]
  kl : ∀ a, ka' = some a → k ≠ [] → a.block < w.heap.size ∧ (Value.slice ao n c).ownBlock ≠ some a.block
theorem cell_set_other {w : World} {p q : Addr} {u : Value} (h : q.block ≠ p.block) : (w.setCell p u).cell? q = w.cell? q :=
  World.cell?_of_block (heap_setCell_other w p q.block u h)
theorem SR.step {w : World} {ao : Option Addr} {n c : Nat} {R : Nat × List UInt8 × List UInt8} {ka : Option Addr} {i e : Nat} {d k : List UInt8} {ka' : Option Addr} {kc' : Nat} {wr w5 : World} (h : SR w ao n c R ka i e d k ka' kc' wr) {g : Nat} (hg : ao = some ⟨g, 0, none⟩) (hlt : i < n) {nx s : Nat} (hnx : nextAt i n = nx) (hs : stays k (nx - i) = s)
    (ho5 : Own w5 0 (.slice (some ⟨g, 0, none⟩) n c) (cutLen i s nx d)) (hg5 : wr.grownBy w5 (some g)) {ka2 : Option Addr} {kc2 : Nat} (hka2 : BytesAt wr ka2 (k.drop 1)) (hkc2 : (k.drop 1).length ≤ kc2) (hkb2 : ∀ a, ka2 = some a → ∃ b, ka' = some b ∧ b.block = a.block) : SR w ao n c R ka nx (if 0 < s then i + s else e) (cutLen i s nx d) (k.drop 1) ka2 kc2 w5 := by
  have hgt := nextAt_gt hlt
  have hsl := stays_le k (nx - i)
  rw [hs] at hsl
  rw [hnx] at hgt
  have hob : (Value.slice ao n c).ownBlock = some g := by rw [hg]; rfl
  have hka3 : ∀ a, ka2 = some a → ∃ b, ka = some b ∧ b.block = a.block := fun a ha => by
    obtain ⟨b, hb, e1⟩ := hkb2 a ha
    obtain ⟨b2, hb2, e2⟩ := h.kb b hb
    exact ⟨b2, hb2, e2.trans e1⟩
  have hgw := h.gl g hob
  refine ⟨hgt.2, by have := h.e_le; split <;> omega, by rw [cutLen_len _ _ _ _ (by omega) (by rw [h.dl]; exact hgt.2)]; exact h.dl, by rw [hg]; exact ho5, surv_round h.dl hlt h.res hnx hs, fun hne => ?_, hkc2, hka3, h.turn.grow hg5 (fun g' e' => Or.inl (by rw [hob]; exact e')), ?_, by have := h.sz; have := hg5.size; omega, h.gl, by unfold RowIs; rw [hg5.block (w.heap.size + 1) h.rr.lt (fun e' => by simp at e'; omega)]; exact h.rr, fun a ha hne => by
      obtain ⟨b, hb, e1⟩ := hkb2 a ha
      rw [← e1]
      exact h.kl b hb (fun e2 => hne (by rw [e2]; rfl))⟩
  · obtain ⟨b, o, rfl, hc⟩ := hka2 hne
    refine ⟨b, o, rfl, fun j hj => hg5.cell (hc j hj) (fun e' => ?_)⟩
    obtain ⟨b2, hb2, e2⟩ := hkb2 _ rfl
    have := (h.kl b2 hb2 (fun e3 => hne (by rw [e3]; rfl))).2
    rw [hob, e2] at this
    exact this e'.symm
  · exact hg5.cell h.f0 (fun e' => by simp at e'; omega)
set_option maxRecDepth 100000 in
set_option maxHeartbeats 1600000 in
theorem survivor_any (ao : Option Addr) (n c safe : Nat) (data : List UInt8) (hn : data.length = n) (hs : safe ≤ n) (hb : n ≤ 16777216) (ka : Option Addr) (kn kc : Nat) (keep : List UInt8) (hk : keep.length = kn) (hkc : kn ≤ kc) (w : World)
    (ho : Own w 0 (.slice ao n c) data) (hka : BytesAt w ka keep) (hkb : keep ≠ [] → ∀ a, ka = some a → (Value.slice ao n c).ownBlock ≠ some a.block) :
    Calls Try.prog 46 #[.agg #[.slice ao n c, .int .i64 (safe : Int)], .slice ka kn kc] w fun x w' => ∃ v ka' kc' kn', x = .returned (.tuple #[.agg #[v, .int .i64 ((survF ⟨data, safe⟩ keep).safe : Int)], .slice ka' kn' kc']) ∧ Own w' w.heap.size v (survF ⟨data, safe⟩ keep).data ∧ (survK ⟨data, safe⟩ keep).length = kn' ∧
      BytesAt w' ka' (survK ⟨data, safe⟩ keep) ∧ kn' ≤ kc' ∧ (∀ a, ka' = some a → ∃ b, ka = some b ∧ b.block = a.block) ∧ Turn (fun i => (Value.slice ao n c).ownBlock = some i) w w' := by
  obtain ⟨R, hR⟩ : ∃ R, surv n safe safe data keep = R := ⟨_, rfl⟩
  have HR : Hid (surv n safe safe data keep = R) := hR
  have eF : survF ⟨data, safe⟩ keep = ⟨R.2.1.take R.1, R.1⟩ := by unfold survF; simp only; rw [hn, hR]
  have eK : survK ⟨data, safe⟩ keep = R.2.2 := by unfold survK; simp only; rw [hn, hR]
  rw [eF, eK]
  have HK0 : Hid (keep.length = kn) := hk
  have w2 : After w ((w.alloc (.cells #[.slice ao n c, .int .i64 (safe : Int)] 77)).alloc (.cells #[.slice none 0 0, .int .i64 0] 77)) := after_alloc (after_alloc (After.refl w) _) _
  have S0 : Hid (SR w ao n c R ka safe safe data keep ka kc ((w.alloc (.cells #[.slice ao n c, .int .i64 (safe : Int)] 77)).alloc (.cells #[.slice none 0 0, .int .i64 0] 77))) :=
    ⟨hs, Nat.le_refl _, hn, Own.below ho w2 (Nat.le_refl _), hR, hka.after w2, by rw [hk]; exact hkc, fun a ha => ⟨a, ha, rfl⟩, Turn.of_after w2, Lib.cell?_alloc_some _ ((RowIs.new w 77 [.slice ao n c, .int .i64 (safe : Int)]).cell (j := 0) rfl), by simp, fun g hg => (World.ownsRow.lt ho g hg).2, by have := RowIs.new (w.alloc (.cells #[.slice ao n c, .int .i64 (safe : Int)] 77)) 77 [.slice none 0 0, .int .i64 0]; rwa [show (w.alloc (.cells #[.slice ao n c, .int .i64 (safe : Int)] 77)).heap.size = w.heap.size + 1 by simp] at this, fun a ha hne => by
      obtain ⟨b, o, e1, hc⟩ := hka hne
      have hkb2 := hkb hne a ha
      rw [e1] at ha
      cases ha
      exact ⟨block_lt_of_cell (hc 0 (by cases keep with | nil => exact absurd rfl hne | cons _ _ => simp)), hkb2⟩⟩
  clear hR eF eK ho hka hkb w2 hn hk
  go_enter Try.func46, Try.ntmps46
  go_wp2
  go_loopw [1, 6, 7] (fun kv ev iv wr => ∃ (i e : Nat) (d k : List UInt8) (ka' : Option Addr) (kc' kl : Nat), Hid (k.length = kl) ∧ kv = .slice ka' kl kc' ∧ ev = .int .i64 (e : Int) ∧ iv = .int .i64 (i : Int) ∧ Hid (SR w ao n c R ka i e d k ka' kc' wr)) (fun _ _ iv _ => n - (intOf iv).toNat)
  case atStart => exact ⟨safe, safe, data, keep, ka, kc, kn, HK0, rfl, rfl, rfl, S0⟩
  case round =>
    obtain ⟨i, e, d, k, ka', kc', kl, HKL, rfl, rfl, rfl, HS⟩ := hrel
    have hf0 := HS.out.f0
    by_cases hlt : i < n
    · have hile := HS.out.i_le
      have hele := HS.out.e_le
      obtain ⟨g, hg⟩ : ∃ g, ao = some ⟨g, 0, none⟩ := by
        rcases HS.out.own.2 with ⟨e1, e2⟩ | ⟨g, cap, cur, e1, _⟩
        · rw [HS.out.dl] at e2; omega
        · simp at e1; exact ⟨g, e1.1⟩
      obtain ⟨q, hq⟩ : ∃ q, i % 16 = q := ⟨_, rfl⟩
      have hqi : (i : Int) % 16 = (q : Int) := by omega
      have hq16 : q < 16 := by omega
      obtain ⟨nx, hnx⟩ : ∃ nx, nextAt i n = nx := ⟨_, rfl⟩
      have hnx2 := nextAt_gt hlt
      rw [hnx] at hnx2
      have hnx1 : min ((i : Int) + 16 - (q : Int)) (n : Int) = (nx : Int) := by
        have := hnx; unfold nextAt at this; rw [hq] at this; omega
      have HNX : Hid (nextAt i n = nx) := hnx
      obtain ⟨hnxi, hnxn⟩ := hnx2
      clear hq hnx
      cases k with
      | nil =>
        have hkl0 : kl = 0 := HKL.out.symm
        subst hkl0
        obtain ⟨a1, ha1, hsl⟩ := HS.out.own.slice_lohi hg (lo := i) (hi := nx) (by omega) hnxn
        have hown := HS.out.own
        rw [hg] at hown
        obtain ⟨w5, hclr, ho5, hg5⟩ := hown.clear HS.out.dl (i := i) (s := 0) (next := nx) (by omega) hnxn ha1 (c - i)
        have hclr' : (Builtin.clear_ #[31] 0 #[.slice (some a1) (nx - i) (c - i)]).run Try.prog wr = .ok (.tuple #[]) w5 := hclr
        have HO5 := show Hid (Own _ _ _ _) from ho5
        have HG5 := show Hid (World.grownBy _ _ _) from hg5
        have HGA : Hid (ao = some ⟨g, 0, none⟩) := hg
        have hslW := hsl wr
        clear hsl hclr ha1 hown ho5 hg5 hg
        go_wp2
        go_roundw
        case rel => exact ⟨nx, e, cutLen i 0 nx d, [], ka', kc', 0, rfl, rfl, rfl, rfl, HS.out.step HGA.out hlt HNX.out rfl HO5.out HG5.out (fun h => absurd rfl h) (Nat.zero_le _) (fun a ha => ⟨a, ha, rfl⟩)⟩
        case measure => simp [intOf]; omega
      | cons x ks =>
        obtain ⟨b, o, hka, hcx⟩ := HS.out.keep (by simp)
        obtain ⟨l, hl⟩ : ∃ l, ks.length = l := ⟨_, rfl⟩
        have hkl1 : kl = l + 1 := by rw [← hl]; exact HKL.out.symm
        have hx0 : wr.cell? ⟨b, o, none⟩ = some (.int .u8 (x.toNat : Int)) := hcx 0 (by simp)
        have hkcl : l + 1 ≤ kc' := by have := HS.out.kc; simp only [List.length_cons, hl] at this; exact this
        have hkf := keep_from b o l kc' hkcl wr
        obtain ⟨m, hm⟩ : ∃ m, nx - i = m := ⟨_, rfl⟩
        have hmi : (nx : Int) - (i : Int) = (m : Int) := by omega
        obtain ⟨s, hs⟩ : ∃ s, stay x m = s := ⟨_, rfl⟩
        have hsl := stay_le x m
        rw [hs] at hsl
        obtain ⟨j, hj⟩ : ∃ j, i + s = j := ⟨_, rfl⟩
        have hij : (i : Int) + (s : Int) = (j : Int) := by omega
        have C := show Hid _ from staying_any x m (by omega) wr
        rw [hs] at C
        obtain ⟨a1, ha1, hsl1⟩ := HS.out.own.slice_lohi hg (lo := j) (hi := nx) (by omega) hnxn
        have hown := HS.out.own
        rw [hg] at hown
        obtain ⟨w5, hclr, ho5, hg5⟩ := hown.clear HS.out.dl (i := i) (s := s) (next := nx) (by omega) hnxn (a1 := a1) (by rw [hj]; exact ha1) (c - j)
        rw [hj] at hclr
        have HO5 := show Hid (Own _ _ _ _) from ho5
        have HG5 := show Hid (World.grownBy _ _ _) from hg5
        have HGA : Hid (ao = some ⟨g, 0, none⟩) := hg
        have HST : Hid (stays (x :: ks) (nx - i) = s) := by unfold Hid; rw [hm]; exact hs
        have HJ : Hid (i + s = j) := hj
        have HL : Hid (ks.length = l) := hl
        have HKA : Hid (ka' = some ⟨b, o, none⟩) := hka
        have hslW := hsl1 wr
        have NEW := fun (S' : Nat → Prop) => HS.out.step HGA.out hlt HNX.out HST.out HO5.out HG5.out (ka2 := cutAt (some ⟨b, o, none⟩) 1 kc') (kc2 := kc' - 1) (by
          have := HS.out.keep.cut 1 kc' HS.out.kc
          rw [HKA.out] at this; exact this) (by simp only [List.drop_succ_cons, List.drop_zero, HL.out]; omega) (fun a ha => by
          obtain ⟨b2, e1, e2⟩ := cutAt_block ha
          exact ⟨b2, by rw [HKA.out]; exact e1, e2⟩)
        have HNEW := show Hid _ from NEW (fun _ => True)
        have hjn : j ≤ n := by omega
        subst hkl1
        subst hka
        clear NEW hsl1 ha1 hown ho5 hg5 hg hcx hm hs hj hl hsl
        by_cases hs0 : 0 < s
        · go_wp2_with (go_at_call 64; refine Calls.mono C.out ?_; rintro e9 w9 ⟨rfl, hw9⟩; have hw8 := hw9.symm; clear hw9; subst hw8)
          go_roundw
          case rel => exact ⟨nx, j, cutLen i s nx d, ks, cutAt (some ⟨b, o, none⟩) 1 kc', kc' - 1, l, HL, rfl, rfl, rfl, by have := HNEW.out; rw [if_pos hs0, HJ.out] at this; exact this⟩
          case measure => simp [intOf]; omega
        · go_wp2_with (go_at_call 64; refine Calls.mono C.out ?_; rintro e9 w9 ⟨rfl, hw9⟩; have hw8 := hw9.symm; clear hw9; subst hw8)
          go_roundw
          case rel => exact ⟨nx, e, cutLen i s nx d, ks, cutAt (some ⟨b, o, none⟩) 1 kc', kc' - 1, l, HL, rfl, rfl, rfl, by have := HNEW.out; rw [if_neg hs0] at this; exact this⟩
          case measure => simp [intOf]; omega
    · have hin : i = n := by have := HS.out.i_le; omega
      have hres := HS.out.res
      rw [surv_end n i e d k (by rw [HS.out.dl]; exact hlt)] at hres
      subst hres
      have hele := HS.out.e_le
      have hen : e ≤ n := by omega
      have hsh := HS.out.own.slice_hi hen wr
      obtain ⟨_, _, hsl', hat, _⟩ := Own.sl HS.out.own n HS.out.dl
      simp only [Value.slice.injEq] at hsl'
      obtain ⟨rfl, _, rfl⟩ := hsl'
      have hel : (d.take e).length = e := by rw [List.length_take, HS.out.dl]; omega
      have HEL : Hid ((d.take e).length = e) := hel
      have C := show Hid _ from safeFile_any ao c (d.take e) (by rw [hel]; omega) wr (hat.take e)
      rw [hel] at C
      have hsz := HS.out.sz
      clear hat hel
      have hrr := HS.out.rr
      have HRR := show Hid (RowIs _ _ _ _) from hrr
      clear hrr
      go_wp2_with (go_at_call 58; refine Calls.mono C.out ?_; rintro e9 w9 ⟨v9, rfl, ho9, hb9⟩; obtain ⟨a9, c9, rfl, _, _⟩ := Own.sl ho9 e HEL.out; have HO9 := show Hid (Own _ _ _ _) from ho9; have HB9 : Hid (After wr w9) := hb9; have hr9 : RowIs w9 (w.heap.size + 1) 77 [.slice none 0 0, .int .i64 0] := HRR.out.below hb9 HRR.out.lt; have HR9 := show Hid (RowIs _ _ _ _) from hr9; have r0 := hr9.cell (j := 0) rfl; have r1 := hr9.cell (j := 1) rfl; have rf := fun j => hr9.frozen j; clear ho9 hb9 hr9)
      refine bodyPost_ret (v := .tuple #[.agg #[.slice a9 e c9, .int .i64 (e : Int)], .slice ka' kl kc']) (by simp [results, Try.results46, go_sem, r0, r1]) rfl ⟨.slice a9 e c9, ka', kc', kl, rfl, ?_, HKL.out, ?_, by have := HS.out.kc; rw [HKL.out] at this; exact this, HS.out.kb, ?_⟩
      · have hz := HS.out.sz
        exact ((HO9.out.setCellLt (by simp; omega) _).setCellLt (by simp; omega) _).mono (by omega)
      · refine fun hne => ?_
        obtain ⟨b, o, rfl, hc⟩ := (HS.out.keep.after HB9.out) hne
        have hbl := (HS.out.kl _ rfl hne).1
        simp only at hbl
        refine ⟨b, o, rfl, fun j hj => ?_⟩
        rw [cell_set_other, cell_set_other]
        · exact hc j hj
        · simp; omega
        · simp; omega
      · exact ((HS.out.turn.trans (Turn.of_after HB9.out)).setCell (Or.inr (by simp)) _).setCell (Or.inr (by simp)) _
end Go.Proofs.Ytlbodickflljfaa
