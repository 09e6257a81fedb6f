/-
  SHA's reference: its sum.
-/
import Derived.Test.YtgmdolpjkaajfaaGreatDoorSC
import Derived.BigRegion
namespace Go.Proofs.YtgmdolpjkaajfaaGreatDoor.SH
open Go.RowKit Sha
theorem size47 : (Tryz.prog.info? 89).map (·.size) = some 8 := by kernel_rfl
theorem wrap_mul256 (x : BitVec 32) : IntKind.u32.wrap (256 * n32 x) = n32 (256#32 * x) := by
  simp [IntKind.wrap, IntKind.bits, IntKind.signed, n32, BitVec.toNat_mul]
theorem mod_mul256 (x : BitVec 32) : 256 * n32 x % 4294967296 = n32 (256#32 * x) := by
  simp [n32, BitVec.toNat_mul]
/-- The word of four bytes, behind j of them. -/
def accTo (bs : List UInt8) (i : Nat) : Nat → BitVec 32
  | 0 => 0
  | j + 1 => accW (accTo bs i j) (bs.getD (4 * i + j) 0)
theorem accTo_4 (bs : List UInt8) (i : Nat) : accTo bs i 4 = word bs i := by
  unfold word; rw [← word4_acc]; rfl
def BRel (s : St) (w : World) (row : List (BitVec 32)) (wr : World) : Prop :=
  Below w.heap.size w wr ∧ RowIs wr w.heap.size 89 (c32 s.list) ∧ RowIs wr (w.heap.size + 1) 89 zero8 ∧ RowIs wr (w.heap.size + 1 + 1) 126 (c32 row)
theorem BRel.start (s : St) (w : World) : BRel s w (List.replicate 64 0) (((w.alloc (.cells (c32 s.list).toArray 89)).alloc (.cells zero8.toArray 89)).alloc (.cells zero64.toArray 126)) := by
  refine ⟨(((Below.refl _ _).alloc (Nat.le_refl _) _).alloc (by simp) _).alloc (by simp; omega) _, ((RowIs.new w 89 _).alloc _).alloc _, RowIs.alloc ?_ _, ?_⟩
  · have := RowIs.new (w.alloc (.cells (c32 s.list).toArray 89)) 89 zero8
    rw [show (w.alloc (.cells (c32 s.list).toArray 89)).heap.size = w.heap.size + 1 by simp] at this
    exact this
  · have := RowIs.new ((w.alloc (.cells (c32 s.list).toArray 89)).alloc (.cells zero8.toArray 89)) 126 zero64
    rw [show ((w.alloc (.cells (c32 s.list).toArray 89)).alloc (.cells zero8.toArray 89)).heap.size = w.heap.size + 1 + 1 by simp] at this
    exact this
theorem BRel.set {s : St} {w wr : World} {row : List (BitVec 32)} (h : BRel s w row wr) (i : Nat) (x : BitVec 32) : BRel s w (row.set i x) ((wr.setCell ⟨w.heap.size + 1 + 1, i, none⟩ (.int .u32 (n32 x))).drew) := by
  obtain ⟨hb, r0, r1, r2⟩ := h
  refine ⟨(hb.setCell (by show w.heap.size ≤ w.heap.size + 1 + 1; omega) _).drew, (r0.other _ _ (by show w.heap.size ≠ w.heap.size + 1 + 1; omega)).drew, (r1.other _ _ (by show w.heap.size + 1 ≠ w.heap.size + 1 + 1; omega)).drew, ?_⟩
  have := (r2.set i (.int .u32 (n32 x))).drew
  rwa [c32_set] at this
theorem rowTo_zero (bs : List UInt8) (i : Nat) (h : i < 64) : (rowTo bs i).set i 0 = rowTo bs i := by
  have hl := schedTo_len bs i
  unfold rowTo
  rw [List.set_append_right _ _ (by omega), hl, Nat.sub_self, show 64 - i = (64 - (i + 1)) + 1 by omega, List.replicate_succ, List.set_cons_zero]
theorem cell_set_drew2 {W : World} {g g' k m : Nat} {v x : Value} (h : g ≠ g' ∨ m ≠ k) (hc : W.cell? ⟨g, m, none⟩ = some x) : ((W.setCell ⟨g', k, none⟩ v).drew.drew).cell? ⟨g, m, none⟩ = some x := cell_set_drew h hc
theorem BRel.drew {s : St} {w wr : World} {row : List (BitVec 32)} (h : BRel s w row wr) : BRel s w row wr.drew := ⟨h.1.drew, h.2.1, h.2.2.1, h.2.2.2⟩
/-- Behind k rounds: the blocks h, out, w, and s at block g. -/
def SRel (s : St) (bs : List UInt8) (w : World) (g k : Nat) (wr : World) : Prop :=
  BRel s w (sched bs) wr ∧ w.heap.size + 1 + 1 < g ∧ g < wr.heap.size ∧ RowIs wr g 89 (c32 (roundsTo (sched bs) s k).list)
theorem BRel.below {s : St} {w wr w' : World} {row : List (BitVec 32)} (h : BRel s w row wr) (hb : Below wr.heap.size wr w') : BRel s w row w' :=
  ⟨h.1.trans (hb.mono h.1.size), h.2.1.below hb h.2.1.lt, h.2.2.1.below hb h.2.2.1.lt, h.2.2.2.below hb h.2.2.2.lt⟩
theorem SRel.below {s : St} {bs : List UInt8} {w wr w' : World} {g k : Nat} (h : SRel s bs w g k wr) (hb : Below wr.heap.size wr w') : SRel s bs w g k w' :=
  ⟨h.1.below hb, h.2.1, Nat.lt_of_lt_of_le h.2.2.1 hb.size, h.2.2.2.below hb h.2.2.1⟩
theorem SRel.drew {s : St} {bs : List UInt8} {w wr : World} {g k : Nat} (h : SRel s bs w g k wr) : SRel s bs w g k wr.drew := ⟨h.1.drew, h.2.1, h.2.2.1, h.2.2.2⟩
structure SBox (s : St) (bs : List UInt8) (w : World) (g k : Nat) (wr : World) : Prop where
  out : SRel s bs w g k wr
def R19 (s : St) (bs : List UInt8) (w : World) (g k : Nat) (z5 z6 z7 xx : BitVec 32) (w' : World) : Prop :=
  SBox s bs w g k w' ∧ w'.cell? ⟨g, 5, none⟩ = some (.int .u32 (n32 z5)) ∧ w'.cell? ⟨g, 6, none⟩ = some (.int .u32 (n32 z6)) ∧ w'.cell? ⟨g, 7, none⟩ = some (.int .u32 (n32 z7)) ∧ w'.cell? ⟨w.heap.size + 1 + 1, k, none⟩ = some (.int .u32 (n32 xx))
theorem R19.below {s : St} {bs : List UInt8} {w wr w' : World} {g k : Nat} {z5 z6 z7 xx : BitVec 32} (h : R19 s bs w g k z5 z6 z7 xx wr) (hb : Below wr.heap.size wr w') : R19 s bs w g k z5 z6 z7 xx w' := by
  obtain ⟨h0, h1, h2, h3, h4⟩ := h
  have hg := h0.out.2.2.1
  have hw := h0.out.1.2.2.2.lt
  exact ⟨⟨h0.out.below hb⟩, by rw [hb.cell (p := ⟨g, 5, none⟩) hg]; exact h1, by rw [hb.cell (p := ⟨g, 6, none⟩) hg]; exact h2, by rw [hb.cell (p := ⟨g, 7, none⟩) hg]; exact h3, by rw [hb.cell (p := ⟨w.heap.size + 1 + 1, k, none⟩) hw]; exact h4⟩
theorem SRel.start {s : St} {bs : List UInt8} {w wr : World} (h : BRel s w (sched bs) wr) : SRel s bs w wr.heap.size 0 ((wr.alloc (.cells zero8.toArray 89)).setRow wr.heap.size (c32 s.list).toArray) := by
  obtain ⟨hb, r0, r1, r2⟩ := h
  have hs : w.heap.size + 1 + 1 < wr.heap.size := r2.lt
  refine ⟨⟨Below.row (hb.alloc (by omega) _) (by omega) _, (r0.alloc _).setRow_other _ (by omega), (r1.alloc _).setRow_other _ (by omega), (r2.alloc _).setRow_other _ (by omega)⟩, hs, ?_, (RowIs.new wr 89 zero8).setRow _⟩
  simp
theorem SRel.next {s : St} {bs : List UInt8} {w wr : World} {g k : Nat} (h : SRel s bs w g k wr) : SRel s bs w g (k + 1) (wr.setRow g (c32 (roundsTo (sched bs) s (k + 1)).list).toArray) := by
  obtain ⟨⟨hb, r0, r1, r2⟩, hg, hg2, hr⟩ := h
  refine ⟨⟨Below.row hb (by omega) _, r0.setRow_other _ (by omega), r1.setRow_other _ (by omega), r2.setRow_other _ (by omega)⟩, hg, ?_, hr.setRow _⟩
  simpa using hg2
/-- Words added one by one. -/
def plusTo (a b : List (BitVec 32)) : Nat → List (BitVec 32)
  | 0 => a
  | i + 1 => (plusTo a b i).set i (a.getD i 0 + b.getD i 0)
theorem plusTo_len (a b : List (BitVec 32)) : ∀ i, (plusTo a b i).length = a.length
  | 0 => rfl
  | i + 1 => by simp [plusTo, plusTo_len a b i]
theorem plusTo_get (a b : List (BitVec 32)) (j : Nat) : ∀ i, i ≤ j → (plusTo a b i).getD j 0 = a.getD j 0
  | 0, _ => rfl
  | i + 1, h => by
    have := plusTo_get a b j i (by omega)
    simp only [List.getD_eq_getElem?_getD] at this ⊢
    rw [plusTo, List.getElem?_set_ne (by omega)]
    exact this
theorem plusTo_8 (s r : St) : plusTo s.list r.list 8 = (s.plus r).list := rfl
def TRel (s r : St) (w : World) (g i : Nat) (wr : World) : Prop :=
  Below w.heap.size w wr ∧ RowIs wr w.heap.size 89 (c32 (plusTo s.list r.list i)) ∧ RowIs wr (w.heap.size + 1) 89 zero8 ∧ RowIs wr g 89 (c32 r.list) ∧ w.heap.size + 1 + 1 < g
theorem TRel.start {s : St} {bs : List UInt8} {w wr : World} {g : Nat} (h : SRel s bs w g 64 wr) : TRel s (roundsTo (sched bs) s 64) w g 0 wr := ⟨h.1.1, h.1.2.1, h.1.2.2.1, h.2.2.2, h.2.1⟩
theorem TRel.next {s r : St} {w wr : World} {g i : Nat} (h : TRel s r w g i wr) (x y : BitVec 32) (hx : x = s.list.getD i 0) (hy : y = r.list.getD i 0) : TRel s r w g (i + 1) ((wr.setCell ⟨w.heap.size, i, none⟩ (.int .u32 (n32 (x + y)))).drew) := by
  obtain ⟨hb, r0, r1, r2, hg⟩ := h
  refine ⟨(hb.setCell (Nat.le_refl _) _).drew, ?_, (r1.other _ _ (by show w.heap.size + 1 ≠ w.heap.size; omega)).drew, (r2.other _ _ (by show g ≠ w.heap.size; omega)).drew, hg⟩
  have := (r0.set i (.int .u32 (n32 (x + y)))).drew
  rw [c32_set, hx, hy] at this
  rw [hx, hy]
  exact this
set_option maxRecDepth 100000 in
set_option maxHeartbeats 1600000 in
theorem block_any (s : St) (bs : List UInt8) (_hl : bs.length = 64) (gb ob cap : Nat) (w : World) (hgb : gb < w.heap.size) (hbs : ∀ j, j < 64 → w.cell? ⟨gb, ob + j, none⟩ = some (.int .u8 ((bs.getD j 0).toNat : Int))) :
    Calls Tryz.prog 72 #[.agg (c32 s.list).toArray, .slice (some ⟨gb, ob, none⟩) 64 cap] w fun e w' => e = .returned (.agg (c32 (mix s bs).list).toArray) ∧ Below w.heap.size w w' := by
  have HBS := show Hid _ from hbs
  clear hbs
  go_enter Tryz.func72, Tryz.ntmps72
  go_wp2
  go_loopw [6] (fun i wr => ∃ k : Nat, k ≤ 16 ∧ i = .int .i64 k ∧ BRel s w (rowTo bs k) wr) (fun i _ => 16 - (intOf i).toNat)
  case atStart => exact ⟨0, by omega, rfl, BRel.start s w⟩
  case round =>
    obtain ⟨i, hi, rfl, hR⟩ := hrel
    by_cases hlt : i < 16
    · have HR : Hid (BRel s w (rowTo bs i) wr) := hR
      clear hR
      go_wp2
      go_loopw [7] (fun j wr => ∃ k : Nat, k ≤ 4 ∧ j = .int .i64 k ∧ BRel s w ((rowTo bs i).set i (accTo bs i k)) wr) (fun j _ => 4 - (intOf j).toNat)
      case atStart => exact ⟨0, by omega, rfl, by rw [show accTo bs i 0 = 0 from rfl, rowTo_zero bs i (by omega)]; exact HR.out⟩
      case round =>
        clear HR
        obtain ⟨j, hj, rfl, hR⟩ := hrel
        by_cases hjt : j < 4
        · obtain ⟨m0, w0, H0⟩ : ∃ m : Nat, IntKind.i64.wrap (4 * (i : Int)) = (m : Int) ∧ Hid (m = 4 * i) := ⟨4 * i, by rw [wrap_i64 _ (by omega) (by omega)]; omega, rfl⟩
          have q0 := H0.out
          obtain ⟨m, w1, H1⟩ : ∃ m : Nat, IntKind.i64.wrap ((m0 : Int) + (j : Int)) = (m : Int) ∧ Hid (m = 4 * i + j) := ⟨4 * i + j, by rw [wrap_i64 _ (by omega) (by omega)]; omega, rfl⟩
          have q1 := H1.out
          obtain ⟨x, X, e0⟩ : ∃ x : BitVec 32, Hid (x = accTo bs i j) ∧ wr.cell? ⟨w.heap.size + 1 + 1, i, none⟩ = some (.int .u32 (n32 x)) := ⟨_, rfl, by
            have := hR.2.2.2.cell (c32_get _ i (by rw [List.length_set, rowTo_len bs i (by omega)]; omega))
            rw [this]
            have hh : i < (rowTo bs i).length := by rw [rowTo_len bs i (by omega)]; omega
            simp [hh]⟩
          have f0 := hR.2.2.2.frozen i
          obtain ⟨y, Y, e1⟩ : ∃ y : UInt8, Hid (y = bs.getD m 0) ∧ wr.cell? ⟨gb, ob + m, none⟩ = some (.int .u8 (y.toNat : Int)) := ⟨_, rfl, by rw [hR.1.cell (p := ⟨gb, ob + m, none⟩) hgb]; exact HBS.out m (by omega)⟩
          have p1 := wrap_mul256 x
          have p2 := wrap_w8 y
          have p3 := wrap_add (256#32 * x) (w8 y)
          have p1' := mod_mul256 x
          have p3' := mod_add (256#32 * x) (w8 y)
          have bi : (i : Int) < 64 := by omega
          have bm : (m : Int) < 64 := by omega
          have HN : Hid (accW x y = accTo bs i (j + 1)) := by unfold Hid; rw [X.out, Y.out, H1.out]; rfl
          have HR : Hid (BRel s w ((rowTo bs i).set i (accTo bs i j)) wr) := hR
          clear hR q0 q1
          go_wp2
          go_region
          all_goals
            have HS : Hid (BRel s w ((rowTo bs i).set i (accTo bs i (j + 1))) ((wr.setCell ⟨w.heap.size + 1 + 1, i, none⟩ (.int .u32 (n32 (256#32 * x + w8 y)))).drew)) := by
              have := BRel.set HR.out i (accW x y)
              rw [List.set_set, HN.out] at this
              rw [← HN.out] at this ⊢
              exact this
            go_wp2
            go_roundw
            case rel => exact ⟨j + 1, by omega, by go_num, HS.out⟩
            case measure => simp [intOf]; omega
        · obtain rfl : j = 4 := by omega
          have HN : Hid (BRel s w (rowTo bs (i + 1)) wr) := by
            unfold Hid
            rw [accTo_4, ← step_word bs i hlt, rowTo_set bs i (by omega)] at hR
            exact hR
          clear hR
          go_wp2
          go_roundw
          case rel => exact ⟨i + 1, by omega, by go_num, HN.out⟩
          case measure => simp [intOf]; omega
    · obtain rfl : i = 16 := by omega
      have HR0 : Hid (BRel s w (rowTo bs 16) wr) := hR
      clear hR
      go_wp2
      go_loopw [8] (fun i wr => ∃ k : Nat, 16 ≤ k ∧ k ≤ 64 ∧ i = .int .i64 k ∧ BRel s w (rowTo bs k) wr) (fun i _ => 64 - (intOf i).toNat)
      case atStart => exact ⟨16, by omega, by omega, rfl, HR0.out⟩
      case round =>
        clear HR0
        obtain ⟨k, hk0, hk, rfl, hR⟩ := hrel
        by_cases hkt : k < 64
        · have hrl := rowTo_len bs k hk
          obtain ⟨a, w0, H0⟩ : ∃ m : Nat, IntKind.i64.wrap ((k : Int) - 16) = (m : Int) ∧ Hid (m = k - 16) := ⟨k - 16, by rw [wrap_i64 _ (by omega) (by omega)]; omega, rfl⟩
          obtain ⟨b, w1, H1⟩ : ∃ m : Nat, IntKind.i64.wrap ((k : Int) - 15) = (m : Int) ∧ Hid (m = k - 15) := ⟨k - 15, by rw [wrap_i64 _ (by omega) (by omega)]; omega, rfl⟩
          obtain ⟨c, w2, H2⟩ : ∃ m : Nat, IntKind.i64.wrap ((k : Int) - 7) = (m : Int) ∧ Hid (m = k - 7) := ⟨k - 7, by rw [wrap_i64 _ (by omega) (by omega)]; omega, rfl⟩
          obtain ⟨d, w3, H3⟩ : ∃ m : Nat, IntKind.i64.wrap ((k : Int) - 2) = (m : Int) ∧ Hid (m = k - 2) := ⟨k - 2, by rw [wrap_i64 _ (by omega) (by omega)]; omega, rfl⟩
          have q0 := H0.out
          have q1 := H1.out
          have q2 := H2.out
          have q3 := H3.out
          obtain ⟨v0, V0, e0⟩ : ∃ v : BitVec 32, Hid (v = (rowTo bs k).getD a 0) ∧ wr.cell? ⟨w.heap.size + 1 + 1, a, none⟩ = some (.int .u32 (n32 v)) := ⟨_, rfl, hR.2.2.2.cell (c32_get _ a (by omega))⟩
          obtain ⟨v1, V1, e1⟩ : ∃ v : BitVec 32, Hid (v = (rowTo bs k).getD b 0) ∧ wr.cell? ⟨w.heap.size + 1 + 1, b, none⟩ = some (.int .u32 (n32 v)) := ⟨_, rfl, hR.2.2.2.cell (c32_get _ b (by omega))⟩
          obtain ⟨v2, V2, e2⟩ : ∃ v : BitVec 32, Hid (v = (rowTo bs k).getD c 0) ∧ wr.cell? ⟨w.heap.size + 1 + 1, c, none⟩ = some (.int .u32 (n32 v)) := ⟨_, rfl, hR.2.2.2.cell (c32_get _ c (by omega))⟩
          obtain ⟨v3, V3, e3⟩ : ∃ v : BitVec 32, Hid (v = (rowTo bs k).getD d 0) ∧ wr.cell? ⟨w.heap.size + 1 + 1, d, none⟩ = some (.int .u32 (n32 v)) := ⟨_, rfl, hR.2.2.2.cell (c32_get _ d (by omega))⟩
          have HW : Hid (v0 + s0 v1 + v2 + s1 v3 = nextW bs (schedTo bs k)) := by
            rw [step_mix bs k hk0, V0.out, V1.out, V2.out, V3.out, H0.out, H1.out, H2.out, H3.out]; rfl
          have b0 : (a : Int) < 64 := by omega
          have b1 : (b : Int) < 64 := by omega
          have b2 : (c : Int) < 64 := by omega
          have b3 : (d : Int) < 64 := by omega
          have bk : (k : Int) < 64 := by omega
          have na : a ≠ k := by omega
          have nc : c ≠ k := by omega
          have cz := hR.2.2.2.cell (c32_get (rowTo bs k) k (by omega))
          have fz := hR.2.2.2.frozen k
          have x1 := bits_xor (rotr v1 7) (rotr v1 18)
          have x2 : bits .xor .u32 (n32 (rotr v1 7 ^^^ rotr v1 18)) (n32 (v1 >>> 3)) = n32 (s0 v1) := bits_xor _ _
          have x3 := bits_xor (rotr v3 17) (rotr v3 19)
          have x4 : bits .xor .u32 (n32 (rotr v3 17 ^^^ rotr v3 19)) (n32 (v3 >>> 10)) = n32 (s1 v3) := bits_xor _ _
          have x5 : n32 v1 / 8 = n32 (v1 >>> 3) := shr_n32 v1 3
          have x6 : n32 v3 / 1024 = n32 (v3 >>> 10) := shr_n32 v3 10
          have p1 := wrap_add v0 (s0 v1)
          have p2 := wrap_add (v0 + s0 v1) v2
          have p3 := wrap_add (v0 + s0 v1 + v2) (s1 v3)
          have pv : (((n32 v0 + bits BinOp.xor IntKind.u32 (n32 (rotr v1 7 ^^^ rotr v1 18)) (n32 v1 / 8)) % 4294967296 + n32 v2) % 4294967296 + bits BinOp.xor IntKind.u32 (n32 (rotr v3 17 ^^^ rotr v3 19)) (n32 v3 / 1024)) % 4294967296 = n32 (v0 + s0 v1 + v2 + s1 v3) := by
            have y5 : n32 v1 / (8 : Int) = n32 (v1 >>> 3) := by first | exact x5 | simpa using x5
            have y6 : n32 v3 / (1024 : Int) = n32 (v3 >>> 10) := by first | exact x6 | simpa using x6
            simp only [y5, x2, y6, x4, mod_add]
          have PV := show Hid _ from pv
          clear pv
          have HN : Hid (BRel s w (rowTo bs (k + 1)) ((wr.setCell ⟨w.heap.size + 1 + 1, k, none⟩ (.int .u32 (n32 (v0 + s0 v1 + v2 + s1 v3)))).drew)) := by
            unfold Hid
            rw [HW.out, ← rowTo_set bs k (by omega)]
            exact BRel.set hR k _
          clear hR hrl q0 q1 q2 q3 V0 V1 V2 V3 H0 H1 H2 H3 HW
          go_wp2
          go_region_held3 (fun w' => w'.cell? ⟨w.heap.size + 1 + 1, b, none⟩ = some (.int .u32 (n32 v1)) ∧ w'.cell? ⟨w.heap.size + 1 + 1, d, none⟩ = some (.int .u32 (n32 v3))) (go_keep) (fail)
          go_wp2
          go_region_held3 (fun w' => w'.cell? ⟨w.heap.size + 1 + 1, a, none⟩ = some (.int .u32 (n32 v0)) ∧ w'.cell? ⟨w.heap.size + 1 + 1, c, none⟩ = some (.int .u32 (n32 v2))) (first | (go_keep; done) | exact ⟨cell_set_drew2 (Or.inr na) e0, cell_set_drew2 (Or.inr nc) e2⟩) (first | (go_at_call 107; refine (turned_any _ _ (by omega) (by omega) _).mono ?_; rintro e w' ⟨rfl, rfl⟩))
          go_wp2
          go_roundw
          case rel => (repeat apply Exists.intro); exact ⟨⟨k + 1, by omega, by omega, by go_num, by have h := HN.out.drew; rw [← PV.out] at h; exact h⟩, rfl⟩
          case measure => simp [intOf]; omega
        · obtain rfl : k = 64 := by omega
          rw [show rowTo bs 64 = sched bs from rowTo_64 bs] at hR
          have hss : (c32 s.list).toArray.size = 8 := by simp [c32_len, list_len]
          have HR : Hid (BRel s w (sched bs) wr) := hR
          have r1 : Hid (RowIs (wr.alloc (.cells zero8.toArray 89)) wr.heap.size 89 zero8) := RowIs.new wr 89 zero8
          clear hR
          go_wp2_with (first
            | (refine wpList_load_row rfl 89 (.tmp 2) rfl w.heap.size rfl 89 (c32 s.list).toArray (0, 0) _ HR.out.2.1 Tryz.underlying89 rfl (by rw [hss]; exact size47) ?_)
            | (refine wpList_store_row rfl 89 (.tmp 11) (.tmp 82) rfl wr.heap.size (c32 s.list).toArray rfl rfl 89 zero8.toArray r1.out (by rw [hss]; exact size47) (by rw [hss]; rfl) (all_oneCell_toArray (c32_one _)) ?_))
          have HQ : Hid (SRel s bs w wr.heap.size 0 ((wr.alloc (.cells zero8.toArray 89)).setRow wr.heap.size (c32 s.list).toArray)) := SRel.start HR.out
          clear HR r1 hss
          revert HQ
          refine with_world (p := fun W => Hid (SRel s bs w wr.heap.size 0 W) → Code.wp _ _ _ _ W) (fun _ => True) trivial ?_
          generalize wr.heap.size = g
          intro W2 _ HQ
          go_loopw [12] (fun i wr => ∃ k : Nat, k ≤ 64 ∧ i = .int .i64 k ∧ SRel s bs w g k wr) (fun i _ => 64 - (intOf i).toNat)
          case atStart => exact ⟨0, by omega, rfl, HQ.out⟩
          case round =>
            clear HQ
            obtain ⟨k, hk, rfl, hR⟩ := hrel
            by_cases hkt : k < 64
            · obtain ⟨z, Z⟩ : ∃ z, Hid (z = roundsTo (sched bs) s k) := ⟨_, rfl⟩
              obtain ⟨z0, z1, z2, z3, z4, z5, z6, z7⟩ := z
              have rz : RowIs wr g 89 (c32 [z0, z1, z2, z3, z4, z5, z6, z7]) := by
                have := hR.2.2.2
                rw [← Z.out] at this
                exact this
              have bk : (k : Int) < 64 := by omega
              have e0 : wr.cell? ⟨g, 0, none⟩ = some (.int .u32 (n32 z0)) := rz.cell rfl
              have e1 : wr.cell? ⟨g, 1, none⟩ = some (.int .u32 (n32 z1)) := rz.cell rfl
              have e2 : wr.cell? ⟨g, 2, none⟩ = some (.int .u32 (n32 z2)) := rz.cell rfl
              have e3 : wr.cell? ⟨g, 3, none⟩ = some (.int .u32 (n32 z3)) := rz.cell rfl
              have e4 : wr.cell? ⟨g, 4, none⟩ = some (.int .u32 (n32 z4)) := rz.cell rfl
              have e5 : wr.cell? ⟨g, 5, none⟩ = some (.int .u32 (n32 z5)) := rz.cell rfl
              have e6 : wr.cell? ⟨g, 6, none⟩ = some (.int .u32 (n32 z6)) := rz.cell rfl
              have e7 : wr.cell? ⟨g, 7, none⟩ = some (.int .u32 (n32 z7)) := rz.cell rfl
              obtain ⟨xx, VX, ex⟩ : ∃ v : BitVec 32, Hid (v = (sched bs).getD k 0) ∧ wr.cell? ⟨w.heap.size + 1 + 1, k, none⟩ = some (.int .u32 (n32 v)) := ⟨_, rfl, hR.1.2.2.2.cell (c32_get _ k (by simp [sched, schedTo_len, hkt]))⟩
              have HR : Hid (SRel s bs w g k wr) := hR
              have RZ := show Hid _ from rz
              clear hR rz
              go_wp2
              obtain ⟨kk, VK⟩ : ∃ v : BitVec 32, Hid (v = kWords.getD k 0) := ⟨_, rfl⟩
              refine wp_region_noPanic ?_
              refine wp_region_held_drew (S := After wr) (by kernel_rfl) (After.drew (After.refl wr)) ?_
              intro hS0
              refine tk 0 89 (.pointer (some ⟨g, 7, none⟩)) (fuel := 29) rfl (by kernel_rfl) (by kernel_rfl) (by kernel_rfl) (by kernel_rfl) noPanic_false (by kernel_rfl) (fun _ _ => by kernel_rfl) hS0 ?_
              refine tk 1 90 (.int .u32 (n32 z7)) (fuel := 28) rfl (by kernel_rfl) (by kernel_rfl) (by kernel_rfl) (by kernel_rfl) noPanic_false (by kernel_rfl) (fun W h => x_load46 (x := .tmp 89) (g := g) (j := 7) (by kernel_rfl) (by kernel_rfl) ((RowIs.below RZ.out h (RowIs.lt RZ.out)).cell rfl)) hS0 ?_
              refine tk 2 91 (.int .u32 (n32 z4)) (fuel := 27) rfl (by kernel_rfl) (by kernel_rfl) (by kernel_rfl) (by kernel_rfl) noPanic_false (by kernel_rfl) (fun _ _ => by kernel_rfl) hS0 ?_
              refine tk 4 93 (.int .u32 (n32 z4)) (fuel := 26) rfl (by kernel_rfl) (by kernel_rfl) (by kernel_rfl) (by kernel_rfl) noPanic_false (by kernel_rfl) (fun _ _ => by kernel_rfl) hS0 ?_
              refine tk 7 96 (.int .u32 (n32 z4)) (fuel := 25) rfl (by kernel_rfl) (by kernel_rfl) (by kernel_rfl) (by kernel_rfl) noPanic_false (by kernel_rfl) (fun _ _ => by kernel_rfl) hS0 ?_
              refine tk 11 100 (.int .u32 (n32 z4)) (fuel := 24) rfl (by kernel_rfl) (by kernel_rfl) (by kernel_rfl) (by kernel_rfl) noPanic_false (by kernel_rfl) (fun _ _ => by kernel_rfl) hS0 ?_
              refine tk 12 101 (.pointer (some ⟨g, 5, none⟩)) (fuel := 23) rfl (by kernel_rfl) (by kernel_rfl) (by kernel_rfl) (by kernel_rfl) noPanic_false (by kernel_rfl) (fun _ _ => by kernel_rfl) hS0 ?_
              refine tk 13 102 (.int .u32 (n32 z5)) (fuel := 22) rfl (by kernel_rfl) (by kernel_rfl) (by kernel_rfl) (by kernel_rfl) noPanic_false (by kernel_rfl) (fun W h => x_load46 (x := .tmp 101) (g := g) (j := 5) (by kernel_rfl) (by kernel_rfl) ((RowIs.below RZ.out h (RowIs.lt RZ.out)).cell rfl)) hS0 ?_
              refine tk 14 103 (.int .u32 (n32 (z4 &&& z5))) (fuel := 21) rfl (by kernel_rfl) (by kernel_rfl) (by kernel_rfl) (by kernel_rfl) noPanic_false (by kernel_rfl) (fun _ _ => x_and (x := .tmp 100) (y := .tmp 102) (p := z4) (q := z5) (by kernel_rfl) (by kernel_rfl) (by kernel_rfl)) hS0 ?_
              refine tk 15 104 (.int .u32 (n32 z4)) (fuel := 20) rfl (by kernel_rfl) (by kernel_rfl) (by kernel_rfl) (by kernel_rfl) noPanic_false (by kernel_rfl) (fun _ _ => by kernel_rfl) hS0 ?_
              refine tk 16 105 (.int .u32 (n32 (~~~z4))) (fuel := 19) rfl (by kernel_rfl) (by kernel_rfl) (by kernel_rfl) (by kernel_rfl) noPanic_false (by kernel_rfl) (fun _ _ => x_not (x := .tmp 104) (p := z4) (by kernel_rfl) (by kernel_rfl)) hS0 ?_
              refine tk 17 106 (.pointer (some ⟨g, 6, none⟩)) (fuel := 18) rfl (by kernel_rfl) (by kernel_rfl) (by kernel_rfl) (by kernel_rfl) noPanic_false (by kernel_rfl) (fun _ _ => by kernel_rfl) hS0 ?_
              refine tk 18 107 (.int .u32 (n32 z6)) (fuel := 17) rfl (by kernel_rfl) (by kernel_rfl) (by kernel_rfl) (by kernel_rfl) noPanic_false (by kernel_rfl) (fun W h => x_load46 (x := .tmp 106) (g := g) (j := 6) (by kernel_rfl) (by kernel_rfl) ((RowIs.below RZ.out h (RowIs.lt RZ.out)).cell rfl)) hS0 ?_
              refine tk 19 108 (.int .u32 (n32 ((~~~z4) &&& z6))) (fuel := 16) rfl (by kernel_rfl) (by kernel_rfl) (by kernel_rfl) (by kernel_rfl) noPanic_false (by kernel_rfl) (fun _ _ => x_and (x := .tmp 105) (y := .tmp 107) (p := (~~~z4)) (q := z6) (by kernel_rfl) (by kernel_rfl) (by kernel_rfl)) hS0 ?_
              refine tk 20 109 (.int .u32 (n32 ((z4 &&& z5) ^^^ (~~~z4 &&& z6)))) (fuel := 15) rfl (by kernel_rfl) (by kernel_rfl) (by kernel_rfl) (by kernel_rfl) noPanic_false (by kernel_rfl) (fun _ _ => x_xor (x := .tmp 103) (y := .tmp 108) (p := (z4 &&& z5)) (q := (~~~z4 &&& z6)) (by kernel_rfl) (by kernel_rfl) (by kernel_rfl)) hS0 ?_
              refine tk 22 111 (.int .i64 (k : Int)) (fuel := 14) rfl (by kernel_rfl) (by kernel_rfl) (by kernel_rfl) (by kernel_rfl) noPanic_false (by kernel_rfl) (fun _ _ => by kernel_rfl) hS0 ?_
              refine tk 25 114 (.int .i64 (k : Int)) (fuel := 13) rfl (by kernel_rfl) (by kernel_rfl) (by kernel_rfl) (by kernel_rfl) noPanic_false (by kernel_rfl) (fun _ _ => by kernel_rfl) hS0 ?_
              refine tk 26 115 (.pointer (some ⟨w.heap.size + 1 + 1, k, none⟩)) (fuel := 12) rfl (by kernel_rfl) (by kernel_rfl) (by kernel_rfl) (by kernel_rfl) noPanic_false (by kernel_rfl) (fun _ _ => x_index64 (x := .tmp 5) (y := .tmp 114) (g := w.heap.size + 1 + 1) (k := k) (by kernel_rfl) (by kernel_rfl) (by kernel_rfl) hkt) hS0 ?_
              refine tk 27 116 (.int .u32 (n32 xx)) (fuel := 11) rfl (by kernel_rfl) (by kernel_rfl) (by kernel_rfl) (by kernel_rfl) noPanic_false (by kernel_rfl) (fun W h => x_load46 (x := .tmp 115) (g := w.heap.size + 1 + 1) (j := k) (by kernel_rfl) (by kernel_rfl) (by rw [Below.cell h (p := ⟨w.heap.size + 1 + 1, k, none⟩) (block_lt_of_cell ex)]; exact ex)) hS0 ?_
              refine tkCallA 3 92 107 #[.int .u32 (n32 z4), .int .u64 6] (fun v _ => v = .int .u32 (n32 (rotr z4 6))) (fuel := 10) rfl (by kernel_rfl) (by kernel_rfl) (by kernel_rfl) (fun _ => by kernel_rfl) hS0 ((turned_any z4 6 (by omega) (by omega) _).mono (fun _ _ h => ⟨_, h.1, rfl, h.2 ▸ Below.refl _ _⟩)) ?_
              rintro _ c1 rfl c1s
              refine tkCallA 5 94 107 #[.int .u32 (n32 z4), .int .u64 11] (fun v _ => v = .int .u32 (n32 (rotr z4 11))) (fuel := 9) rfl (by kernel_rfl) (by kernel_rfl) (by kernel_rfl) (fun _ => by kernel_rfl) (After.refl c1) ((turned_any z4 11 (by omega) (by omega) _).mono (fun _ _ h => ⟨_, h.1, rfl, h.2 ▸ Below.refl _ _⟩)) ?_
              rintro _ c2 rfl c2s
              refine tk 6 95 (.int .u32 (n32 ((rotr z4 6) ^^^ (rotr z4 11)))) (fuel := 8) rfl (by kernel_rfl) (by kernel_rfl) (by kernel_rfl) (by kernel_rfl) noPanic_false (by kernel_rfl) (fun _ _ => x_xor (x := .tmp 92) (y := .tmp 94) (p := (rotr z4 6)) (q := (rotr z4 11)) (by kernel_rfl) (by kernel_rfl) (by kernel_rfl)) (After.refl c2) ?_
              refine tkCallA 8 97 107 #[.int .u32 (n32 z4), .int .u64 25] (fun v _ => v = .int .u32 (n32 (rotr z4 25))) (fuel := 7) rfl (by kernel_rfl) (by kernel_rfl) (by kernel_rfl) (fun _ => by kernel_rfl) (After.refl c2) ((turned_any z4 25 (by omega) (by omega) _).mono (fun _ _ h => ⟨_, h.1, rfl, h.2 ▸ Below.refl _ _⟩)) ?_
              rintro _ c3 rfl c3s
              refine tk 9 98 (.int .u32 (n32 ((rotr z4 6 ^^^ rotr z4 11) ^^^ (rotr z4 25)))) (fuel := 6) rfl (by kernel_rfl) (by kernel_rfl) (by kernel_rfl) (by kernel_rfl) noPanic_false (by kernel_rfl) (fun _ _ => x_xor (x := .tmp 95) (y := .tmp 97) (p := (rotr z4 6 ^^^ rotr z4 11)) (q := (rotr z4 25)) (by kernel_rfl) (by kernel_rfl) (by kernel_rfl)) (After.refl c3) ?_
              refine tk 10 99 (.int .u32 (n32 (z7 + (S1 z4)))) (fuel := 5) rfl (by kernel_rfl) (by kernel_rfl) (by kernel_rfl) (by kernel_rfl) noPanic_false (by kernel_rfl) (fun _ _ => x_add (x := .tmp 90) (y := .tmp 98) (p := z7) (q := (S1 z4)) (by kernel_rfl) (by kernel_rfl) (by kernel_rfl)) (After.refl c3) ?_
              refine tk 21 110 (.int .u32 (n32 ((z7 + S1 z4) + (ch z4 z5 z6)))) (fuel := 4) rfl (by kernel_rfl) (by kernel_rfl) (by kernel_rfl) (by kernel_rfl) noPanic_false (by kernel_rfl) (fun _ _ => x_add (x := .tmp 99) (y := .tmp 109) (p := (z7 + S1 z4)) (q := (ch z4 z5 z6)) (by kernel_rfl) (by kernel_rfl) (by kernel_rfl)) (After.refl c3) ?_
              refine tkCallA 23 112 108 #[.int .i64 (k : Int)] (fun v _ => v = .int .u32 (n32 kk)) (fuel := 3) rfl (by kernel_rfl) (by kernel_rfl) (by kernel_rfl) (fun _ => by kernel_rfl) (After.refl c3) ((constant_any k hkt _).mono (fun _ _ h => ⟨_, h.1, by rw [VK.out], h.2⟩)) ?_
              rintro _ c4 rfl c4s
              refine tk 24 113 (.int .u32 (n32 ((z7 + S1 z4 + ch z4 z5 z6) + kk))) (fuel := 2) rfl (by kernel_rfl) (by kernel_rfl) (by kernel_rfl) (by kernel_rfl) noPanic_false (by kernel_rfl) (fun _ _ => x_add (x := .tmp 110) (y := .tmp 112) (p := (z7 + S1 z4 + ch z4 z5 z6)) (q := kk) (by kernel_rfl) (by kernel_rfl) (by kernel_rfl)) (After.refl c4) ?_
              refine tk 28 117 (.int .u32 (n32 ((z7 + S1 z4 + ch z4 z5 z6 + kk) + xx))) (fuel := 1) rfl (by kernel_rfl) (by kernel_rfl) (by kernel_rfl) (by kernel_rfl) noPanic_false (by kernel_rfl) (fun _ _ => x_add (x := .tmp 113) (y := .tmp 116) (p := (z7 + S1 z4 + ch z4 z5 z6 + kk)) (q := xx) (by kernel_rfl) (by kernel_rfl) (by kernel_rfl)) (After.refl c4) ?_
              refine tk 29 14 (.int .u32 (n32 (z7 + S1 z4 + ch z4 z5 z6 + kk + xx))) (fuel := 0) rfl (by kernel_rfl) (by kernel_rfl) (by kernel_rfl) (by kernel_rfl) noPanic_false (by kernel_rfl) (fun _ _ => by kernel_rfl) (After.refl c4) ?_
              have A4 : After wr c4 := (((hS0.trans c1s).trans c2s).trans c3s).trans c4s
              have R4 : Hid (SRel s bs w g k c4) := SRel.below HR.out A4
              have Y4 : RowIs c4 g 89 (c32 [z0, z1, z2, z3, z4, z5, z6, z7]) := RowIs.below RZ.out A4 (RowIs.lt RZ.out)
              have y0 : c4.cell? ⟨g, 0, none⟩ = some (.int .u32 (n32 z0)) := Y4.cell rfl
              have RY := show Hid (RowIs c4 g 89 (c32 [z0, z1, z2, z3, z4, z5, z6, z7])) from Y4
              obtain ⟨tt, TT⟩ : ∃ t : BitVec 32, Hid (z7 + S1 z4 + ch z4 z5 z6 + kk + xx = t) := ⟨_, rfl⟩
              clear hS0 c1s c2s c3s c4s Y4 HR e0 e1 e2 e3 e4 e5 e6 e7 ex A4
              refine wpAnyH_done (by kernel_rfl) (NoPanic.normal ?_) _
              rw [TT.out]
              go_simp
              go_wp2
              refine wp_region_noPanic ?_
              refine wp_region_held_drew (S := After c4) (by kernel_rfl) (After.drew (After.refl c4)) ?_
              intro hT0
              refine tk 0 120 (.int .u32 (n32 z0)) (fuel := 24) rfl (by kernel_rfl) (by kernel_rfl) (by kernel_rfl) (by kernel_rfl) noPanic_false (by kernel_rfl) (fun _ _ => by kernel_rfl) hT0 ?_
              refine tk 2 122 (.int .u32 (n32 z0)) (fuel := 23) rfl (by kernel_rfl) (by kernel_rfl) (by kernel_rfl) (by kernel_rfl) noPanic_false (by kernel_rfl) (fun _ _ => by kernel_rfl) hT0 ?_
              refine tk 5 125 (.int .u32 (n32 z0)) (fuel := 22) rfl (by kernel_rfl) (by kernel_rfl) (by kernel_rfl) (by kernel_rfl) noPanic_false (by kernel_rfl) (fun _ _ => by kernel_rfl) hT0 ?_
              refine tk 8 128 (.int .u32 (n32 z0)) (fuel := 21) rfl (by kernel_rfl) (by kernel_rfl) (by kernel_rfl) (by kernel_rfl) noPanic_false (by kernel_rfl) (fun _ _ => by kernel_rfl) hT0 ?_
              refine tk 12 132 (.int .u32 (n32 z0)) (fuel := 20) rfl (by kernel_rfl) (by kernel_rfl) (by kernel_rfl) (by kernel_rfl) noPanic_false (by kernel_rfl) (fun _ _ => by kernel_rfl) hT0 ?_
              refine tk 9 129 (.pointer (some ⟨g, 1, none⟩)) (fuel := 19) rfl (by kernel_rfl) (by kernel_rfl) (by kernel_rfl) (by kernel_rfl) noPanic_false (by kernel_rfl) (fun _ _ => by kernel_rfl) hT0 ?_
              refine tk 10 130 (.int .u32 (n32 z1)) (fuel := 18) rfl (by kernel_rfl) (by kernel_rfl) (by kernel_rfl) (by kernel_rfl) noPanic_false (by kernel_rfl) (fun W h => x_load46 (x := .tmp 129) (g := g) (j := 1) (by kernel_rfl) (by kernel_rfl) ((RowIs.below RY.out h (RowIs.lt RY.out)).cell rfl)) hT0 ?_
              refine tk 11 131 (.int .u32 (n32 (z0 &&& z1))) (fuel := 17) rfl (by kernel_rfl) (by kernel_rfl) (by kernel_rfl) (by kernel_rfl) noPanic_false (by kernel_rfl) (fun _ _ => x_and (x := .tmp 128) (y := .tmp 130) (p := z0) (q := z1) (by kernel_rfl) (by kernel_rfl) (by kernel_rfl)) hT0 ?_
              refine tk 13 133 (.pointer (some ⟨g, 2, none⟩)) (fuel := 16) rfl (by kernel_rfl) (by kernel_rfl) (by kernel_rfl) (by kernel_rfl) noPanic_false (by kernel_rfl) (fun _ _ => by kernel_rfl) hT0 ?_
              refine tk 14 134 (.int .u32 (n32 z2)) (fuel := 15) rfl (by kernel_rfl) (by kernel_rfl) (by kernel_rfl) (by kernel_rfl) noPanic_false (by kernel_rfl) (fun W h => x_load46 (x := .tmp 133) (g := g) (j := 2) (by kernel_rfl) (by kernel_rfl) ((RowIs.below RY.out h (RowIs.lt RY.out)).cell rfl)) hT0 ?_
              refine tk 15 135 (.int .u32 (n32 (z0 &&& z2))) (fuel := 14) rfl (by kernel_rfl) (by kernel_rfl) (by kernel_rfl) (by kernel_rfl) noPanic_false (by kernel_rfl) (fun _ _ => x_and (x := .tmp 132) (y := .tmp 134) (p := z0) (q := z2) (by kernel_rfl) (by kernel_rfl) (by kernel_rfl)) hT0 ?_
              refine tk 16 136 (.int .u32 (n32 ((z0 &&& z1) ^^^ (z0 &&& z2)))) (fuel := 13) rfl (by kernel_rfl) (by kernel_rfl) (by kernel_rfl) (by kernel_rfl) noPanic_false (by kernel_rfl) (fun _ _ => x_xor (x := .tmp 131) (y := .tmp 135) (p := (z0 &&& z1)) (q := (z0 &&& z2)) (by kernel_rfl) (by kernel_rfl) (by kernel_rfl)) hT0 ?_
              refine tk 17 137 (.pointer (some ⟨g, 1, none⟩)) (fuel := 12) rfl (by kernel_rfl) (by kernel_rfl) (by kernel_rfl) (by kernel_rfl) noPanic_false (by kernel_rfl) (fun _ _ => by kernel_rfl) hT0 ?_
              refine tk 18 138 (.int .u32 (n32 z1)) (fuel := 11) rfl (by kernel_rfl) (by kernel_rfl) (by kernel_rfl) (by kernel_rfl) noPanic_false (by kernel_rfl) (fun W h => x_load46 (x := .tmp 137) (g := g) (j := 1) (by kernel_rfl) (by kernel_rfl) ((RowIs.below RY.out h (RowIs.lt RY.out)).cell rfl)) hT0 ?_
              refine tk 19 139 (.pointer (some ⟨g, 2, none⟩)) (fuel := 10) rfl (by kernel_rfl) (by kernel_rfl) (by kernel_rfl) (by kernel_rfl) noPanic_false (by kernel_rfl) (fun _ _ => by kernel_rfl) hT0 ?_
              refine tk 20 140 (.int .u32 (n32 z2)) (fuel := 9) rfl (by kernel_rfl) (by kernel_rfl) (by kernel_rfl) (by kernel_rfl) noPanic_false (by kernel_rfl) (fun W h => x_load46 (x := .tmp 139) (g := g) (j := 2) (by kernel_rfl) (by kernel_rfl) ((RowIs.below RY.out h (RowIs.lt RY.out)).cell rfl)) hT0 ?_
              refine tk 21 141 (.int .u32 (n32 (z1 &&& z2))) (fuel := 8) rfl (by kernel_rfl) (by kernel_rfl) (by kernel_rfl) (by kernel_rfl) noPanic_false (by kernel_rfl) (fun _ _ => x_and (x := .tmp 138) (y := .tmp 140) (p := z1) (q := z2) (by kernel_rfl) (by kernel_rfl) (by kernel_rfl)) hT0 ?_
              refine tk 22 142 (.int .u32 (n32 ((z0 &&& z1 ^^^ z0 &&& z2) ^^^ (z1 &&& z2)))) (fuel := 7) rfl (by kernel_rfl) (by kernel_rfl) (by kernel_rfl) (by kernel_rfl) noPanic_false (by kernel_rfl) (fun _ _ => x_xor (x := .tmp 136) (y := .tmp 141) (p := (z0 &&& z1 ^^^ z0 &&& z2)) (q := (z1 &&& z2)) (by kernel_rfl) (by kernel_rfl) (by kernel_rfl)) hT0 ?_
              refine tkCallA 1 121 107 #[.int .u32 (n32 z0), .int .u64 2] (fun v _ => v = .int .u32 (n32 (rotr z0 2))) (fuel := 6) rfl (by kernel_rfl) (by kernel_rfl) (by kernel_rfl) (fun _ => by kernel_rfl) hT0 ((turned_any z0 2 (by omega) (by omega) _).mono (fun _ _ h => ⟨_, h.1, rfl, h.2 ▸ Below.refl _ _⟩)) ?_
              rintro _ d1 rfl d1s
              refine tkCallA 3 123 107 #[.int .u32 (n32 z0), .int .u64 13] (fun v _ => v = .int .u32 (n32 (rotr z0 13))) (fuel := 5) rfl (by kernel_rfl) (by kernel_rfl) (by kernel_rfl) (fun _ => by kernel_rfl) (After.refl d1) ((turned_any z0 13 (by omega) (by omega) _).mono (fun _ _ h => ⟨_, h.1, rfl, h.2 ▸ Below.refl _ _⟩)) ?_
              rintro _ d2 rfl d2s
              refine tk 4 124 (.int .u32 (n32 ((rotr z0 2) ^^^ (rotr z0 13)))) (fuel := 4) rfl (by kernel_rfl) (by kernel_rfl) (by kernel_rfl) (by kernel_rfl) noPanic_false (by kernel_rfl) (fun _ _ => x_xor (x := .tmp 121) (y := .tmp 123) (p := (rotr z0 2)) (q := (rotr z0 13)) (by kernel_rfl) (by kernel_rfl) (by kernel_rfl)) (After.refl d2) ?_
              refine tkCallA 6 126 107 #[.int .u32 (n32 z0), .int .u64 22] (fun v _ => v = .int .u32 (n32 (rotr z0 22))) (fuel := 3) rfl (by kernel_rfl) (by kernel_rfl) (by kernel_rfl) (fun _ => by kernel_rfl) (After.refl d2) ((turned_any z0 22 (by omega) (by omega) _).mono (fun _ _ h => ⟨_, h.1, rfl, h.2 ▸ Below.refl _ _⟩)) ?_
              rintro _ d3 rfl d3s
              refine tk 7 127 (.int .u32 (n32 ((rotr z0 2 ^^^ rotr z0 13) ^^^ (rotr z0 22)))) (fuel := 2) rfl (by kernel_rfl) (by kernel_rfl) (by kernel_rfl) (by kernel_rfl) noPanic_false (by kernel_rfl) (fun _ _ => x_xor (x := .tmp 124) (y := .tmp 126) (p := (rotr z0 2 ^^^ rotr z0 13)) (q := (rotr z0 22)) (by kernel_rfl) (by kernel_rfl) (by kernel_rfl)) (After.refl d3) ?_
              refine tk 23 143 (.int .u32 (n32 ((S0 z0) + (maj z0 z1 z2)))) (fuel := 1) rfl (by kernel_rfl) (by kernel_rfl) (by kernel_rfl) (by kernel_rfl) noPanic_false (by kernel_rfl) (fun _ _ => x_add (x := .tmp 127) (y := .tmp 142) (p := (S0 z0)) (q := (maj z0 z1 z2)) (by kernel_rfl) (by kernel_rfl) (by kernel_rfl)) (After.refl d3) ?_
              refine tk 24 16 (.int .u32 (n32 (S0 z0 + maj z0 z1 z2))) (fuel := 0) rfl (by kernel_rfl) (by kernel_rfl) (by kernel_rfl) (by kernel_rfl) noPanic_false (by kernel_rfl) (fun _ _ => by kernel_rfl) (After.refl d3) ?_
              have A5 : After c4 d3 := ((hT0.trans d1s).trans d2s).trans d3s
              have R5 : Hid (SRel s bs w g k d3) := SRel.below R4.out A5
              have Y5 : RowIs d3 g 89 (c32 [z0, z1, z2, z3, z4, z5, z6, z7]) := RowIs.below RY.out A5 (RowIs.lt RY.out)
              have RX := show Hid (RowIs d3 g 89 (c32 [z0, z1, z2, z3, z4, z5, z6, z7])) from Y5
              have e0 : d3.cell? ⟨g, 0, none⟩ = some (.int .u32 (n32 z0)) := Y5.cell rfl
              have e1 : d3.cell? ⟨g, 1, none⟩ = some (.int .u32 (n32 z1)) := Y5.cell rfl
              have e2 : d3.cell? ⟨g, 2, none⟩ = some (.int .u32 (n32 z2)) := Y5.cell rfl
              have e3 : d3.cell? ⟨g, 3, none⟩ = some (.int .u32 (n32 z3)) := Y5.cell rfl
              have e4 : d3.cell? ⟨g, 4, none⟩ = some (.int .u32 (n32 z4)) := Y5.cell rfl
              have e5 : d3.cell? ⟨g, 5, none⟩ = some (.int .u32 (n32 z5)) := Y5.cell rfl
              have e6 : d3.cell? ⟨g, 6, none⟩ = some (.int .u32 (n32 z6)) := Y5.cell rfl
              obtain ⟨uu, UU⟩ : ∃ t : BitVec 32, Hid (S0 z0 + maj z0 z1 z2 = t) := ⟨_, rfl⟩
              have m1 := mod_add tt uu
              have m2 := mod_add z3 tt
              have HN : Hid ((roundsTo (sched bs) s (k + 1)).list = [tt + uu, z0, z1, z2, z3 + tt, z4, z5, z6]) := by
                unfold Hid
                show (rnd (roundsTo (sched bs) s k) (kWords.getD k 0) ((sched bs).getD k 0)).list = _
                rw [← Z.out, ← VK.out, ← VX.out, ← TT.out, ← UU.out]
                rfl
              clear hT0 d1s d2s d3s Y5 R4 RY y0 A5
              refine wpAnyH_done (by kernel_rfl) (NoPanic.normal ?_) _
              rw [UU.out]
              go_simp
              go_wp2_with (first
                | (refine wpList_built rfl 89 _ rfl (c32 [tt + uu, z0, z1, z2, z3 + tt, z4, z5, z6]).toArray (by kernel_rfl) ?_)
                | (refine wpList_store_row rfl 89 (.tmp 11) (.tmp 163) rfl g (c32 [tt + uu, z0, z1, z2, z3 + tt, z4, z5, z6]).toArray rfl rfl 89 (c32 [z0, z1, z2, z3, z4, z5, z6, z7]).toArray RX.out size47 rfl (all_oneCell_toArray (c32_one _)) ?_))
              go_roundw
              case rel => exact ⟨k + 1, by omega, by go_num, by have h := SRel.next R5.out; rw [HN.out] at h; exact h⟩
              case measure => simp [intOf]; omega
            · obtain rfl : k = 64 := by omega
              have HT0 : Hid (TRel s (roundsTo (sched bs) s 64) w g 0 wr) := TRel.start hR
              clear hR
              obtain ⟨r, RR⟩ : ∃ r, Hid (roundsTo (sched bs) s 64 = r) := ⟨_, rfl⟩
              rw [RR.out] at HT0
              go_wp2
              go_loopw [17] (fun i wr => ∃ k : Nat, k ≤ 8 ∧ i = .int .i64 k ∧ TRel s r w g k wr) (fun i _ => 8 - (intOf i).toNat)
              case atStart => exact ⟨0, by omega, rfl, HT0.out⟩
              case round =>
                clear HT0
                obtain ⟨i, hi, rfl, hR⟩ := hrel
                by_cases hi8 : i < 8
                · obtain ⟨x, X, e0⟩ : ∃ x : BitVec 32, Hid (x = s.list.getD i 0) ∧ wr.cell? ⟨w.heap.size, i, none⟩ = some (.int .u32 (n32 x)) := ⟨_, rfl, by
                    have := hR.2.1.cell (c32_get _ i (by rw [plusTo_len, list_len]; exact hi8))
                    rw [plusTo_get _ _ i i (Nat.le_refl _)] at this
                    exact this⟩
                  obtain ⟨y, Y, e1⟩ : ∃ x : BitVec 32, Hid (x = r.list.getD i 0) ∧ wr.cell? ⟨g, i, none⟩ = some (.int .u32 (n32 x)) := ⟨_, rfl, hR.2.2.2.1.cell (c32_get _ i (by rw [list_len]; exact hi8))⟩
                  have f0 := hR.2.1.frozen i
                  have bi : (i : Int) < 8 := by omega
                  have p1 := wrap_add x y
                  have p2 := mod_add x y
                  have HN : Hid (TRel s r w g (i + 1) ((wr.setCell ⟨w.heap.size, i, none⟩ (.int .u32 (n32 (x + y)))).drew)) := TRel.next hR x y X.out Y.out
                  clear hR
                  go_wp2
                  go_region
                  all_goals
                    go_wp2
                    go_roundw
                    case rel => exact ⟨i + 1, by omega, by go_num, HN.out⟩
                    case measure => simp [intOf]; omega
                · obtain rfl : i = 8 := by omega
                  have hss : (c32 (mix s bs).list).toArray.size = 8 := by simp [c32_len, list_len]
                  have H0 : Hid (RowIs wr w.heap.size 89 (c32 (mix s bs).list)) := by
                    unfold Hid mix; rw [RR.out, ← plusTo_8]; exact hR.2.1
                  have H1 : Hid (RowIs wr (w.heap.size + 1) 89 zero8) := hR.2.2.1
                  have HB : Hid (Below w.heap.size w wr) := hR.1
                  clear hR
                  go_wp2_with (first
                    | (refine wpList_load_row rfl 89 (.tmp 2) rfl w.heap.size rfl 89 (c32 (mix s bs).list).toArray (0, 0) _ H0.out Tryz.underlying89 rfl (by rw [hss]; exact size47) ?_)
                    | (refine wpList_store_row rfl 89 (.tmp 4) (.tmp 177) rfl (w.heap.size + 1) (c32 (mix s bs).list).toArray rfl rfl 89 zero8.toArray H1.out (by rw [hss]; exact size47) (by rw [hss]; rfl) (all_oneCell_toArray (c32_one _)) ?_))
                  exact bodyPost_ret (v := .agg (c32 (mix s bs).list).toArray) (results_cell_row Tryz.results72 _ _ (w.heap.size + 1) 89 _ (0, 0) _ rfl (RowIs.setRow H1.out _) Tryz.underlying89 rfl (by rw [hss]; exact size47)) rfl ⟨rfl, Below.row HB.out (by omega) _⟩
end Go.Proofs.YtgmdolpjkaajfaaGreatDoor.SH
namespace Go.Proofs.YtgmdolpjkaajfaaGreatDoor.SH
open Go.RowKit Sha
section
variable {ops : Array Oper} {Q : Exit → Act → World → Prop} {a : Act} {w : World} {oi : Oper} {K : Act → World → Prop}
/-- Number i comes up: it yields v. -/
theorem opVal (i d : Nat) (v : Value) (w' : World) (hi : ops[i]? = some oi) (hd : oi.dst = some d) (hw : Region.wanted oi (yielded ops a.tmps) = true)
    (hrun : (execOp a.eval oi).run Tryz.prog w = .ok (.value v) w') (h : K (a.put (some d) v) w') : wpOp Tryz.prog ops Q i K a w := by
  refine wpOp_step hi (fun K' hK => ?_)
  rw [if_pos hw]
  unfold Oper.wp
  rw [hrun]
  rw [← hd] at h
  exact hK _ _ h
end
theorem x_load47 {o : Oper} {a : Act} {x : Operand} {g : Nat} {l : List (BitVec 32)} {w : World} (hop : o.op = .load 89 x) (hx : a.eval x = .pointer (some ⟨g, 0, none⟩)) (hl : l.length = 8) (h : RowIs w g 89 (c32 l)) : (execOp a.eval o).run Tryz.prog w = .ok (.value (.agg (c32 l).toArray)) w := by
  have hz : (Tryz.prog.info? 89).map (·.size) = some (c32 l).toArray.size := by simp only [List.size_toArray, c32_len, hl]; exact size47
  unfold execOp
  simp only [hop, hx, Instr.loadAt, Instr.sureAddr, Sem.run_bind, Sem.run_pure, Result.andThen_ok, run_loadVar_row (P := Tryz.prog) w g 89 89 (c32 l).toArray (0, 0) _ h Tryz.underlying89 rfl hz]
theorem x_addi {o : Oper} {a : Act} {x y : Operand} {p q r : Int} {w : World} (hop : o.op = .binOp .add 3 x y 3) (hx : a.eval x = .int .i64 p) (hy : a.eval y = .int .i64 q) (h : IntKind.i64.wrap (p + q) = r) : (execOp a.eval o).run Tryz.prog w = .ok (.value (.int .i64 r)) w := by
  unfold execOp
  simp only [hop, hx, hy]
  rw [← h]
  simp [go_sem]
theorem slice_mid (b o n c lo hi : Nat) (h1 : lo < hi) (h2 : hi ≤ n) (h3 : n ≤ c) (W : World) : (Instr.sliceAt 32 (.slice (some ⟨b, o, none⟩) n c) (some (.int .i64 (lo : Int))) (some (.int .i64 (hi : Int))) none).run Tryz.prog W = .ok (.slice (some ⟨b, o + lo, none⟩) (hi - lo) (c - lo)) W := by
  obtain ⟨i, hi', hz⟩ := Option.map_eq_some_iff.1 bytes5
  simp only [Prod.mk.injEq] at hz
  obtain ⟨_, hsz, _⟩ := hz
  simp [Instr.sliceAt, Instr.slice, run_underlying Tryz.underlying32, Instr.sliceBounds, Instr.sliceBound, asIntOf, sizeOf, typeInfo, hi', hsz, show hi ≤ c by omega, show lo ≤ hi by omega, show ¬ c = lo by omega, Addr.add_mid]
theorem x_slmid {o : Oper} {a : Act} {x y z : Operand} {u i j v : Value} {w : World} (hop : o.op = .slice 32 x (some y) (some z) none) (hx : a.eval x = u) (hy : a.eval y = i) (hz : a.eval z = j) (h : (Instr.sliceAt 32 u (some i) (some j) none).run Tryz.prog w = .ok v w) : (execOp a.eval o).run Tryz.prog w = .ok (.value v) w := by
  unfold execOp
  simp only [hop, hx, hy, hz, Option.map, Sem.run_bind, h, Result.andThen_ok]
  rfl
/-- Behind k blocks. -/
structure SuRel (w W : World) (ws : List (BitVec 32)) (ao : Option Addr) (p : List UInt8) : Prop where
  aft : After w W
  r0 : RowIs W w.heap.size 38 (c8 (List.replicate 32 0))
  r1 : RowIs W (w.heap.size + 1) 89 (c32 ws)
  at' : BytesAt W ao p
  far : ∀ a, ao = some a → w.heap.size + 1 < a.block ∧ a.block < W.heap.size
theorem SuRel.drew {w W : World} {ws : List (BitVec 32)} {ao : Option Addr} {p : List UInt8} (h : SuRel w W ws ao p) : SuRel w W.drew ws ao p := ⟨h.aft.drew, h.r0, h.r1, h.at', h.far⟩
theorem SuRel.after {w W W' : World} {ws : List (BitVec 32)} {ao : Option Addr} {p : List UInt8} (h : SuRel w W ws ao p) (hA : After W W') : SuRel w W' ws ao p :=
  ⟨h.aft.trans hA, h.r0.below hA h.r0.lt, h.r1.below hA h.r1.lt, h.at'.after hA, fun a ha => ⟨(h.far a ha).1, Nat.lt_of_lt_of_le (h.far a ha).2 hA.size⟩⟩
theorem SuRel.next {w W : World} {ws ws' : List (BitVec 32)} {ao : Option Addr} {p : List UInt8} (h : SuRel w W ws ao p) : SuRel w (W.setRow (w.heap.size + 1) (c32 ws').toArray) ws' ao p := by
  refine ⟨Below.row h.aft (by omega) _, h.r0.setRow_other _ (by omega), h.r1.setRow _, fun hn => ?_, fun a ha => ⟨(h.far a ha).1, by have := (h.far a ha).2; simpa using this⟩⟩
  obtain ⟨b, o, he, hc⟩ := h.at' hn
  refine ⟨b, o, he, fun j hj => ?_⟩
  have hb := (h.far ⟨b, o, none⟩ he).1
  rw [World.cell?_of_block (w := W) (Go.setRow_other W (w.heap.size + 1) b _ (by simp at hb; omega))]
  exact hc j hj
/-- Behind i bytes. -/
structure OuRel (w W : World) (g : Nat) (ws : List (BitVec 32)) (l : List UInt8) : Prop where
  aft : After w W
  r0 : RowIs W w.heap.size 38 (c8 (List.replicate 32 0))
  r1 : RowIs W (w.heap.size + 1) 89 (c32 ws)
  r6 : RowIs W g 38 (c8 l)
  gt : w.heap.size + 1 < g
theorem OuRel.start {w W : World} {ws : List (BitVec 32)} {ao : Option Addr} {p : List UInt8} (h : SuRel w W ws ao p) : OuRel w (W.alloc (.cells (c8 (List.replicate 32 0)).toArray 38)) W.heap.size ws (outL ws 0) :=
  ⟨after_alloc h.aft _, h.r0.alloc _, h.r1.alloc _, RowIs.new W 38 _, h.r1.lt⟩
theorem OuRel.next {w W : World} {g i : Nat} {ws : List (BitVec 32)} (h : OuRel w W g ws (outL ws i)) : OuRel w (W.setCell ⟨g, i, none⟩ (.int .u8 ((outB ws i).toNat : Int))) g ws (outL ws (i + 1)) := by
  have hg := h.gt
  refine ⟨Below.setCell h.aft (by show w.heap.size ≤ g; omega) _, h.r0.other _ _ (by show w.heap.size ≠ g; omega), h.r1.other _ _ (by show w.heap.size + 1 ≠ g; omega), ?_, hg⟩
  have := h.r6.set i (.int .u8 ((outB ws i).toNat : Int))
  rw [c8_set] at this
  exact this
theorem first_built : Tryz.prog.built 89 [(0, .int .u32 1779033703), (1, .int .u32 3144134277), (2, .int .u32 1013904242), (3, .int .u32 2773480762), (4, .int .u32 1359893119), (5, .int .u32 2600822924), (6, .int .u32 528734635), (7, .int .u32 1541459225)] = some (c32 first.list).toArray := by kernel_rfl
theorem block_bytes {W : World} {b o : Nat} {p : List UInt8} (h : BytesAt W (some ⟨b, o, none⟩) p) (k : Nat) (hk : 64 * (k + 1) ≤ p.length) : ∀ j, j < 64 → W.cell? ⟨b, o + 64 * k + j, none⟩ = some (.int .u8 (((blockAt p k).getD j 0).toNat : Int)) := fun j hj => by
  obtain ⟨b', o', he, hc⟩ := h (by intro h; simp [h] at hk)
  cases he
  rw [Nat.add_assoc, hc (64 * k + j) (by omega)]
  simp [blockAt, List.getElem?_drop, hj]
set_option maxRecDepth 100000 in
set_option maxHeartbeats 1600000 in
theorem refSum_any (ao : Option Addr) (cap : Nat) (bs : List UInt8) (hbig : bs.length ≤ 140737488351232) (w : World) (hat : BytesAt w ao bs) :
    Calls Tryz.prog 45 #[.slice ao bs.length cap] w fun e w' => e = .returned (.agg (c8 (sumP bs)).toArray) ∧ Below w.heap.size w w' := by
  have HAT : Hid (BytesAt w ao bs) := hat
  have hpl := padP_len bs
  obtain ⟨p, HP⟩ : ∃ p, Hid (padP bs = p) := ⟨_, rfl⟩
  obtain ⟨m, HM⟩ : ∃ m, Hid ((bs.length + 72) / 64 = m) := ⟨_, rfl⟩
  rw [HP.out, HM.out] at hpl
  have HPL : Hid (p.length = 64 * m) := hpl
  have hm : 64 * m ≤ 140737488351304 := by rw [← HM.out]; omega
  have HS : Hid (outL (blocksTo p m).list 32 = sumP bs) := by have := sumP_blocks bs; rw [HP.out, HM.out] at this; exact this
  clear hat hpl
  have W0 : Hid (RowIs ((w.alloc (.cells (c8 (List.replicate 32 0)).toArray 38)).alloc (.cells zero8.toArray 89)) (w.heap.size + 1) 89 zero8) := by
    have := RowIs.new (w.alloc (.cells (c8 (List.replicate 32 0)).toArray 38)) 89 zero8
    rw [show (w.alloc (.cells (c8 (List.replicate 32 0)).toArray 38)).heap.size = w.heap.size + 1 by simp] at this
    exact this
  have HW1 : Hid (After w (((w.alloc (.cells (c8 (List.replicate 32 0)).toArray 38)).alloc (.cells zero8.toArray 89)).setRow (w.heap.size + 1) (c32 first.list).toArray) ∧ RowIs (((w.alloc (.cells (c8 (List.replicate 32 0)).toArray 38)).alloc (.cells zero8.toArray 89)).setRow (w.heap.size + 1) (c32 first.list).toArray) w.heap.size 38 (c8 (List.replicate 32 0)) ∧ RowIs (((w.alloc (.cells (c8 (List.replicate 32 0)).toArray 38)).alloc (.cells zero8.toArray 89)).setRow (w.heap.size + 1) (c32 first.list).toArray) (w.heap.size + 1) 89 (c32 first.list)) :=
    ⟨Below.row (after_alloc (after_alloc (After.refl w) _) _) (by omega) _, ((RowIs.new w 38 _).alloc _).setRow_other _ (by omega), RowIs.setRow W0.out _⟩
  have fs : Hid ((Tryz.prog.info? 89).map (·.size) = some (c32 first.list).toArray.size) := size47
  go_enter Tryz.func45, Tryz.ntmps45
  go_wp2_with (first
    | (refine wpList_built rfl 89 _ rfl (c32 first.list).toArray (by kernel_rfl) ?_)
    | (refine wpList_store_row rfl 89 (.tmp 3) (.tmp 8) rfl (w.heap.size + 1) (c32 first.list).toArray rfl rfl 89 zero8.toArray W0.out fs.out rfl (all_oneCell_toArray (c32_one _)) ?_)
    | (go_at_call 71; refine (padded_any ao cap bs hbig _ (HAT.out.after HW1.out.1)).mono ?_; rintro e w2 ⟨v2, rfl, ho2, hb2⟩; rw [HP.out] at ho2; obtain ⟨a2, c2, rfl, hat2, hc2, hl2⟩ := ho2.at; have HR0 : Hid (SuRel w w2 first.list a2 p) := ⟨HW1.out.1.trans hb2, HW1.out.2.1.below hb2 HW1.out.2.1.lt, HW1.out.2.2.below hb2 HW1.out.2.2.lt, hat2, fun a ha => (by have := hl2 a ha; have := HW1.out.2.2.lt; omega)⟩; rw [HPL.out]; have HC2 : Hid (64 * m ≤ c2) := (by rw [← HPL.out]; exact hc2); clear ho2 hb2 hat2 hc2 hl2))
  go_loopw [5] (fun i wr => ∃ k : Nat, k ≤ m ∧ i = .int .i64 ((64 * k : Nat) : Int) ∧ SuRel w wr (blocksTo p k).list a2 p) (fun i _ => 64 * m - (intOf i).toNat)
  case atStart => exact ⟨0, by omega, rfl, HR0.out⟩
  case round =>
    clear HR0
    obtain ⟨k, hk, rfl, hR⟩ := hrel
    by_cases hkm : k < m
    · have hkp : 64 * (k + 1) ≤ p.length := by rw [HPL.out]; omega
      obtain ⟨b, o, rfl, _⟩ := hR.at' (by intro h; simp [h] at hkp)
      have HKP := show Hid (64 * (k + 1) ≤ p.length) from hkp
      have HRR := show Hid (SuRel w wr (blocksTo p k).list (some ⟨b, o, none⟩) p) from hR
      have HWR : Hid (IntKind.i64.wrap (((64 * k : Nat) : Int) + 64) = ((64 * k + 64 : Nat) : Int)) := by unfold Hid; rw [wrap_i64 _ (by omega) (by omega)]; omega
      have HSL : Hid (∀ W : World, (Instr.sliceAt 32 (.slice (some ⟨b, o, none⟩) (64 * m) c2) (some (.int .i64 ((64 * k : Nat) : Int))) (some (.int .i64 ((64 * k + 64 : Nat) : Int))) none).run Tryz.prog W = .ok (.slice (some ⟨b, o + 64 * k, none⟩) 64 (c2 - 64 * k)) W) := fun W => by
        have := slice_mid b o (64 * m) c2 (64 * k) (64 * k + 64) (by omega) (by omega) HC2.out W
        rwa [show 64 * k + 64 - 64 * k = 64 by omega] at this
      clear hR hkp
      go_wp2
      refine wp_region_noPanic ?_
      refine wp_region_held_drew (S := fun _ => True) (by kernel_rfl) trivial ?_
      intro _
      refine tk 1 18 (.slice (some ⟨b, o, none⟩) (64 * m) c2) (fuel := 7) rfl (by kernel_rfl) (by kernel_rfl) (by kernel_rfl) (by kernel_rfl) noPanic_false (by kernel_rfl) (fun _ _ => by kernel_rfl) trivial ?_
      refine tk 2 19 (.int .i64 ((64 * k : Nat) : Int)) (fuel := 6) rfl (by kernel_rfl) (by kernel_rfl) (by kernel_rfl) (by kernel_rfl) noPanic_false (by kernel_rfl) (fun _ _ => by kernel_rfl) trivial ?_
      refine tk 3 20 (.int .i64 ((64 * k : Nat) : Int)) (fuel := 5) rfl (by kernel_rfl) (by kernel_rfl) (by kernel_rfl) (by kernel_rfl) noPanic_false (by kernel_rfl) (fun _ _ => by kernel_rfl) trivial ?_
      refine tk 4 21 (.int .i64 ((64 * k + 64 : Nat) : Int)) (fuel := 4) rfl (by kernel_rfl) (by kernel_rfl) (by kernel_rfl) (by kernel_rfl) noPanic_false (by kernel_rfl) (fun _ _ => x_addi (x := .tmp 20) (y := .const (.int .i64 64)) (by kernel_rfl) (by kernel_rfl) (by kernel_rfl) HWR.out) trivial ?_
      refine tk 5 22 (.slice (some ⟨b, o + 64 * k, none⟩) 64 (c2 - 64 * k)) (fuel := 3) rfl (by kernel_rfl) (by kernel_rfl) (by kernel_rfl) (by kernel_rfl) noPanic_false (by kernel_rfl) (fun W _ => x_slmid (x := .tmp 18) (y := .tmp 19) (z := .tmp 21) (by kernel_rfl) (by kernel_rfl) (by kernel_rfl) (by kernel_rfl) (HSL.out W)) trivial ?_
      refine wpAnyH_all (rs := [0]) (fuel := 2) (by kernel_rfl) (by simp) (fun j hj => ?_)
      obtain rfl : j = 0 := by simpa using hj
      refine opVal 0 17 (.agg (c32 (blocksTo p k).list).toArray) wr.drew rfl (by kernel_rfl) (by kernel_rfl) (x_load47 (x := .tmp 3) (g := w.heap.size + 1) (by kernel_rfl) (by kernel_rfl) (list_len _) HRR.out.drew.r1) ⟨trivial, ?_⟩
      refine tkCallS 6 23 72 #[.agg (c32 (blocksTo p k).list).toArray, .slice (some ⟨b, o + 64 * k, none⟩) 64 (c2 - 64 * k)] (fun v w' => v = .agg (c32 (blocksTo p (k + 1)).list).toArray ∧ After wr.drew w') (fuel := 1) rfl (by kernel_rfl) (by kernel_rfl) (by kernel_rfl) (fun _ => by kernel_rfl) ((block_any (blocksTo p k) (blockAt p k) (blockAt_len p k HKP.out) b (o + 64 * k) _ wr.drew (HRR.out.far _ rfl).2 (block_bytes HRR.out.drew.at' k HKP.out)).mono (fun _ _ h => ⟨_, h.1, rfl, h.2⟩)) (fun _ _ _ => trivial) ?_
      rintro v w3 ⟨rfl, hb3⟩
      have R3 := HRR.out.drew.after hb3
      refine tkStore 7 (w.heap.size + 1) 89 (.tmp 3) (.tmp 23) (c32 (blocksTo p (k + 1)).list).toArray (c32 (blocksTo p k).list).toArray 89 (fuel := 0) rfl (by kernel_rfl) (by kernel_rfl) (by kernel_rfl) (by kernel_rfl) (by kernel_rfl) (by kernel_rfl) R3.r1 (by simp only [List.size_toArray, c32_len, list_len]; exact size47) (by simp only [List.size_toArray, c32_len, list_len]) (all_oneCell_toArray (c32_one _)) trivial ?_
      have HR3 := show Hid (SuRel w (w3.setRow (w.heap.size + 1) (c32 (blocksTo p (k + 1)).list).toArray) (blocksTo p (k + 1)).list (some ⟨b, o, none⟩) p) from R3.next
      clear R3 hb3
      refine wpAnyH_done (by kernel_rfl) (NoPanic.normal ?_) _
      go_simp
      go_wp2
      go_roundw
      case rel => exact ⟨k + 1, by omega, by go_num, HR3.out⟩
      case measure => simp [intOf]; omega
    · obtain rfl : k = m := by omega
      obtain ⟨ws, HWS⟩ : ∃ ws, Hid ((blocksTo p k).list = ws) := ⟨_, rfl⟩
      have hwl : Hid (ws.length = 8) := by unfold Hid; rw [← HWS.out]; exact list_len _
      rw [HWS.out] at hR HS
      have HO : Hid (OuRel w (wr.alloc (.cells (c8 (List.replicate 32 0)).toArray 38)) wr.heap.size ws (outL ws 0)) := OuRel.start hR
      clear hR
      go_wp2
      revert HO
      refine with_world (p := fun W => Hid (OuRel w W wr.heap.size ws (outL ws 0)) → Code.wp _ _ _ _ W) (fun _ => True) trivial ?_
      generalize wr.heap.size = g
      intro W2 _ HO
      go_loopw [7] (fun i wr => ∃ k : Nat, k ≤ 32 ∧ i = .int .i64 k ∧ OuRel w wr g ws (outL ws k)) (fun i _ => 32 - (intOf i).toNat)
      case atStart => exact ⟨0, by omega, rfl, HO.out⟩
      case round =>
        clear HO
        obtain ⟨i, hi, rfl, hR⟩ := hrel
        by_cases hi32 : i < 32
        · obtain ⟨q, r, h4, hq8, hr4, HI⟩ : ∃ q r : Nat, (i : Int) / 4 = (q : Int) ∧ q < 8 ∧ r < 4 ∧ Hid ((i : Int) % 4 = (r : Int) ∧ i / 4 = q ∧ i % 4 = r) := ⟨i / 4, i % 4, by omega, by omega, by omega, by unfold Hid; omega⟩
          have h4r : (i : Int) % 4 = (r : Int) := HI.out.1
          obtain ⟨x, X, e1⟩ : ∃ x : BitVec 32, Hid (x = ws.getD (i / 4) 0) ∧ wr.cell? ⟨w.heap.size + 1, q, none⟩ = some (.int .u32 (n32 x)) := ⟨_, rfl, by rw [← HI.out.2.1]; exact hR.r1.cell (c32_get ws (i / 4) (by rw [hwl.out, HI.out.2.1]; exact hq8))⟩
          have f6 := hR.r6.frozen i
          obtain ⟨y, c6⟩ : ∃ y : UInt8, wr.cell? ⟨g, i, none⟩ = some (.int .u8 (y.toNat : Int)) := ⟨_, hR.r6.cell (c8_get _ i (by rw [outL_len]; exact hi32))⟩
          obtain ⟨ob, OB⟩ : ∃ b, Hid (outB ws i = b) := ⟨_, rfl⟩
          have HN : Hid (OuRel w (wr.setCell ⟨g, i, none⟩ (.int .u8 (ob.toNat : Int))) g ws (outL ws (i + 1))) := by unfold Hid; rw [← OB.out]; exact hR.next
          have s0 : (0 : Int) ≤ 24 - 8 * (r : Int) := by omega
          have s1 : 24 - 8 * (r : Int) ≤ 32 := by omega
          have s2 : (24 - 8 * (r : Int)).toNat = 24 - 8 * r := by omega
          have hv : n32 x / 2 ^ (24 - 8 * r) % 256 = (ob.toNat : Int) := by rw [← OB.out, byt_mod, X.out, ← HI.out.2.2]; rfl
          have bq : (q : Int) < 8 := by omega
          have bi : (i : Int) < 32 := by omega
          clear hR
          go_wp2
          go_roundw
          case rel => exact ⟨i + 1, by omega, by go_num, HN.out⟩
          case measure => simp [intOf]; omega
        · obtain rfl : i = 32 := by omega
          have hss : (c8 (sumP bs)).toArray.size = 32 := by simp only [List.size_toArray, c8_len, sumP_len]
          have HSS : Hid ((Tryz.prog.info? 38).map (·.size) = some (c8 (sumP bs)).toArray.size) := by unfold Hid; rw [hss]; exact size24
          have HSZ : Hid ((c8 (List.replicate 32 0)).toArray.size = (c8 (sumP bs)).toArray.size) := by unfold Hid; rw [hss]; simp [c8_len]
          have R6 : Hid (RowIs wr g 38 (c8 (sumP bs))) := by unfold Hid; rw [← HS.out]; exact hR.r6
          have HRR := show Hid (OuRel w wr g ws (outL ws 32)) from hR
          clear hR hss
          go_wp2_with (first
            | (refine wpList_load_row rfl 38 (.tmp 6) rfl g rfl 38 (c8 (sumP bs)).toArray (0, 0) _ R6.out Tryz.underlying38 rfl HSS.out ?_)
            | (refine wpList_store_row rfl 38 (.tmp 2) (.tmp 41) rfl w.heap.size (c8 (sumP bs)).toArray rfl rfl 38 (c8 (List.replicate 32 0)).toArray HRR.out.r0 HSS.out HSZ.out (all_oneCell_toArray (c8_one _)) ?_))
          exact bodyPost_ret (v := .agg (c8 (sumP bs)).toArray) (results_cell_row Tryz.results45 _ _ w.heap.size 38 _ (0, 0) _ rfl (RowIs.setRow HRR.out.r0 _) Tryz.underlying38 rfl HSS.out) rfl ⟨rfl, Below.row HRR.out.aft (Nat.le_refl _) _⟩
end Go.Proofs.YtgmdolpjkaajfaaGreatDoor.SH
