/-
  SHA's reference: what its sum wants.
-/
import Derived.Test.YtgmdolpjkaajfaaGreatDoorSB
import Derived.ChangeKeysEq
import Derived.Lib.AppendStr
import Derived.Deep.Upon
namespace Go.Proofs.YtgmdolpjkaajfaaGreatDoor.SH
open Go.RowKit Sha
theorem cells5 : Tryz.prog.cellsOf 5 = 1 := by kernel_rfl
theorem part5 (cs : List Value) (j : Nat) (v : Value) (hv : cs[j]? = some v) (w : World) : (part 5 cs.toArray (j * 1)).run Tryz.prog w = .ok v w := by
  have hag : (isAgg 5).run Tryz.prog w = .ok false w := by
    unfold isAgg; rw [Sem.run_bind, run_underlying Tryz.underlying5 w]; rfl
  simp [part, hag, hv]
theorem eqItems5 (d : Nat) (a b : List UInt8) (w : World) : ∀ is : List Nat, (∀ i ∈ is, i < a.length ∧ i < b.length) →
    (Op.eqItems (d + 1) 5 1 (c8 a).toArray (c8 b).toArray is).run Tryz.prog w = .ok (is.all fun i => a.getD i 0 == b.getD i 0) w
  | [], _ => by simp [Op.eqItems]
  | i :: is, h => by
    obtain ⟨h1, h2⟩ := h i (by simp)
    have ih := eqItems5 d a b w is (fun j hj => h j (by simp [hj]))
    have e : (((a.getD i 0).toNat : Int) == ((b.getD i 0).toNat : Int)) = (a.getD i 0 == b.getD i 0) := by
      rw [Bool.eq_iff_iff, beq_iff_eq, beq_iff_eq, Int.ofNat_inj, UInt8.toNat_inj]
    simp only [Op.eqItems, Sem.run_bind, part5 _ i _ (c8_get a i h1), part5 _ i _ (c8_get b i h2), Result.andThen_ok, run_equalIn_int w d 5 .u8 .u8 _ _ Tryz.underlying5, e, List.all_cons]
    cases (a.getD i 0 == b.getD i 0)
    · simp
    · simpa using ih
set_option maxRecDepth 100000 in
theorem eq24 (a b : List UInt8) (ha : a.length = 32) (hb : b.length = 32) (w : World) : (Op.equalIn 10000 38 (.agg (c8 a).toArray) (.agg (c8 b).toArray)).run Tryz.prog w = .ok (decide (a = b)) w := by
  obtain ⟨i, hi, hz⟩ := Option.map_eq_some_iff.1 info5
  have h := run_equalIn_array (P := Tryz.prog) w 9999 (c8 a).toArray (c8 b).toArray Tryz.underlying38 hi
  rw [cells5, eqItems5 9998 a b w (List.range 32) (fun i hi => by simp at hi; omega)] at h
  rw [show (10000 : Nat) = 9999 + 1 from rfl, h]
  congr 1
  rw [Bool.eq_iff_iff, decide_eq_true_iff, List.all_eq_true]
  constructor
  · intro hall
    apply List.ext_getElem (by omega)
    intro i h1 h2
    have := hall i (by simp; omega)
    simp [h1, h2] at this
    exact this
  · intro he; subst he; simp
end Go.Proofs.YtgmdolpjkaajfaaGreatDoor.SH
namespace Go.Proofs.YtgmdolpjkaajfaaGreatDoor.SH
open Go.RowKit Sha
set_option maxHeartbeats 400000 in
theorem turned_any (x : BitVec 32) (n : Int) (h0 : 0 < n) (h1 : n < 32) (w : World) :
    Calls Tryz.prog 107 #[.int .u32 (n32 x), .int .u64 n] w fun e w' => e = .returned (.int .u32 (n32 (rotr x n.toNat))) ∧ w' = w := by
  obtain ⟨m, rfl⟩ := Int.eq_ofNat_of_zero_le (Int.le_of_lt h0)
  rw [Int.toNat_natCast]
  have hs : ((32 : Int) - m).toNat = 32 - m := by omega
  have e : n32 (rotr x m) = bits .or .u32 (n32 x / 2 ^ m) (n32 x * 2 ^ (32 - m) % 4294967296) := by
    rw [mod_shl, shr_n32, bits_or]; unfold rotr; rw [BitVec.or_comm]
  have HE := show Hid _ from e
  clear e
  go_enter Tryz.func107, Tryz.ntmps107
  go_wp2
  go_ret
  refine ⟨?_, rfl⟩
  rw [HE.out]; rfl
theorem kWords_len : kWords.length = 64 := rfl
theorem ksize : (Tryz.prog.info? 126).map (·.size) = some (c32 kWords).toArray.size := size64
set_option maxRecDepth 100000 in
set_option maxHeartbeats 400000 in
theorem constant_any (k : Nat) (hk : k < 64) (w : World) :
    Calls Tryz.prog 108 #[.int .i64 (k : Int)] w fun e w' => e = .returned (.int .u32 (n32 (kWords.getD k 0))) ∧ Below w.heap.size w w' := by
  have bk : (k : Int) < 64 := by omega
  have r1 : Hid (RowIs ((w.alloc (.cells zero64.toArray 126)).setRow w.heap.size (c32 kWords).toArray) w.heap.size 126 (c32 kWords)) := RowIs.setRow (RowIs.new w 126 zero64) _
  have hb : Hid (Below w.heap.size w ((w.alloc (.cells zero64.toArray 126)).setRow w.heap.size (c32 kWords).toArray)) := Below.row ((Below.refl _ _).alloc (Nat.le_refl _) _) (Nat.le_refl _) _
  go_enter Tryz.func108, Tryz.ntmps108
  go_wp2_with (first
    | (refine wpList_built rfl 126 _ rfl (c32 kWords).toArray (by kernel_rfl) ?_)
    | (refine wpList_store_row rfl 126 (.tmp 3) (.tmp 4) rfl w.heap.size (c32 kWords).toArray rfl rfl 126 zero64.toArray (RowIs.new w 126 zero64) ksize rfl (all_oneCell_toArray (c32_one _)) ?_
       refine with_world (p := fun W => wpList _ _ _ _ _ W) (fun W => RowIs W w.heap.size 126 (c32 kWords) ∧ Below w.heap.size w W) ⟨r1.out, hb.out⟩ ?_
       rintro W1 ⟨hr1, hb1⟩
       have e0 := hr1.cell (c32_get kWords k (by rw [kWords_len]; exact hk))
       have HB1 := show Hid _ from hb1
       clear hb1 hr1))
  go_ret
  exact ⟨rfl, HB1.out⟩
/-- One byte more behind a word. -/
def accW (x : BitVec 32) (b : UInt8) : BitVec 32 := 256#32 * x + w8 b
theorem word4_acc (a b c d : UInt8) : accW (accW (accW (accW 0 a) b) c) d = word4 a b c d := by
  have ha := a.toNat_lt
  have hb := b.toNat_lt
  have hc := c.toNat_lt
  have hd := d.toNat_lt
  apply BitVec.eq_of_toNat_eq
  have l : (accW (accW (accW (accW 0 a) b) c) d).toNat = ((a.toNat * 256 + b.toNat) * 256 + c.toNat) * 256 + d.toNat := by
    simp [accW, w8]; omega
  have s1 : a.toNat <<< 24 ||| b.toNat <<< 16 = (a.toNat * 256 + b.toNat) <<< 16 := by
    rw [show a.toNat <<< 24 = (a.toNat <<< 8) <<< 16 by rw [← Nat.shiftLeft_add], ← Nat.shiftLeft_or_distrib, ← Nat.shiftLeft_add_eq_or_of_lt (by omega)]
    simp only [Nat.shiftLeft_eq]
  have s2 : (a.toNat * 256 + b.toNat) <<< 16 ||| c.toNat <<< 8 = ((a.toNat * 256 + b.toNat) * 256 + c.toNat) <<< 8 := by
    rw [show (a.toNat * 256 + b.toNat) <<< 16 = ((a.toNat * 256 + b.toNat) <<< 8) <<< 8 by rw [← Nat.shiftLeft_add], ← Nat.shiftLeft_or_distrib, ← Nat.shiftLeft_add_eq_or_of_lt (by omega)]
    simp only [Nat.shiftLeft_eq]
  have s3 : ((a.toNat * 256 + b.toNat) * 256 + c.toNat) <<< 8 ||| d.toNat = ((a.toNat * 256 + b.toNat) * 256 + c.toNat) * 256 + d.toNat := by
    rw [← Nat.shiftLeft_add_eq_or_of_lt (by omega), Nat.shiftLeft_eq]
  have r : (word4 a b c d).toNat = a.toNat <<< 24 ||| b.toNat <<< 16 ||| c.toNat <<< 8 ||| d.toNat := by
    have m : ∀ (x : UInt8) (k : Nat), k ≤ 24 → (w8 x <<< k).toNat = x.toNat <<< k := fun x k hk => by
      have hx := x.toNat_lt
      have : x.toNat * 2 ^ k < 2 ^ 8 * 2 ^ 24 := Nat.lt_of_lt_of_le (Nat.mul_lt_mul_of_pos_right hx (Nat.two_pow_pos k)) (Nat.mul_le_mul_left _ (Nat.pow_le_pow_right (by omega) hk))
      simp only [w8, BitVec.toNat_shiftLeft, BitVec.toNat_ofNat, Nat.shiftLeft_eq]
      rw [Nat.mod_eq_of_lt (show x.toNat < 2 ^ 32 by omega), Nat.mod_eq_of_lt (by omega)]
    have m0 : (w8 d).toNat = d.toNat := by simp [w8]
    unfold word4
    rw [BitVec.toNat_or, BitVec.toNat_or, BitVec.toNat_or, m a 24 (by omega), m b 16 (by omega), m c 8 (by omega), m0]
  rw [l, r, s1, s2, s3]
end Go.Proofs.YtgmdolpjkaajfaaGreatDoor.SH
namespace Go.Proofs.YtgmdolpjkaajfaaGreatDoor.SH
open Go.RowKit Sha
theorem c8_append (l m : List UInt8) : c8 (l ++ m) = c8 l ++ c8 m := by simp [c8]
def Own (w : World) (base : Nat) (v : Value) (bs : List UInt8) : Prop := w.ownsRow base 5 1 v bs.length (c8 bs)
theorem Own.nil (w : World) (base : Nat) : Own w base (.slice none 0 0) [] := World.ownsRow_nil w base 5 1
theorem Own.at {w : World} {base : Nat} {v : Value} {bs : List UInt8} (h : Own w base v bs) : ∃ ao cap, v = .slice ao bs.length cap ∧ BytesAt w ao bs ∧ bs.length ≤ cap ∧ (∀ a, ao = some a → base ≤ a.block ∧ a.block < w.heap.size) := by
  have hlt := World.ownsRow.lt h
  have hc := fun g hg => World.ownsRow.cells (g := g) h hg
  rcases h.2 with ⟨rfl, h0⟩ | ⟨g, cap, cur, rfl, hb, hg, hnc, _, hcs, ht⟩
  · obtain rfl : bs = [] := List.eq_nil_of_length_eq_zero h0
    exact ⟨none, 0, rfl, fun h => absurd rfl h, Nat.le_refl _, fun _ h => by cases h⟩
  · refine ⟨some ⟨g, 0, none⟩, cap, rfl, fun _ => ⟨g, 0, rfl, fun j hj => ?_⟩, hnc, fun a ha => ?_⟩
    · have := hc g rfl j _ (c8_get bs j hj)
      rwa [Addr.add_mid] at this
    · cases ha; exact hlt g rfl
theorem BytesAt.below {w w' : World} {B : Nat} {ao : Option Addr} {bs : List UInt8} (h : BytesAt w ao bs) (hb : Below B w w') (hl : ∀ a, ao = some a → bs ≠ [] → a.block < B) : BytesAt w' ao bs := fun hn => by
  obtain ⟨b, o, rfl, hc⟩ := h hn
  exact ⟨b, o, rfl, fun j hj => by rw [hb.cell (p := ⟨b, o + j, none⟩) (hl ⟨b, o, none⟩ rfl hn)]; exact hc j hj⟩
theorem Own.below {w w' : World} {base B : Nat} {v : Value} {bs : List UInt8} (h : Own w base v bs) (hb : Below B w w') (hB : w.heap.size ≤ B) : Own w' base v bs := by
  refine ⟨h.1, ?_⟩
  rcases h.2 with hn | ⟨g, cap, cur, rfl, h1, h2, rest⟩
  · exact .inl hn
  · refine .inr ⟨g, cap, cur, rfl, h1, ?_, rest⟩
    have := (Array.getElem?_eq_some_iff.1 h2).1
    rw [hb.block g (by omega)]; exact h2
theorem Own.mono {w : World} {base base' : Nat} {v : Value} {bs : List UInt8} (h : Own w base v bs) (hb : base' ≤ base) : Own w base' v bs := by
  refine ⟨h.1, ?_⟩
  rcases h.2 with hn | ⟨g, cap, cur, rfl, h1, rest⟩
  · exact .inl hn
  · exact .inr ⟨g, cap, cur, rfl, by omega, rest⟩
theorem below_grown {w w1 w2 : World} {B : Nat} {row : Option Nat} (h : Below B w w1) (hg : w1.grownBy w2 row) (hr : ∀ k, row = some k → B ≤ k) (hB : B ≤ w1.heap.size) : Below B w w2 :=
  ⟨hg.os.trans h.os, hg.tape.trans h.tape, hg.output.trans h.output, Nat.le_trans h.size hg.size, fun k hk => (hg.block k (by omega) (fun e => by have := hr k e.symm; omega)).trans (h.block k hk)⟩
theorem wpList_append_bytes {w : World} {ops : Array Oper} {rest : List Oper} {o : Oper} {a : Act} {Q : Exit → Act → World → Prop} (hgd : o.guard = none) (s x : Operand)
    (ho : o.op = .call { callee := .builtin .append, args := #[s, x], argTypes := #[32, 32] })
    (base : Nat) (v : Value) (bs : List UInt8) (hs : a.eval s = v) (hown : Own w base v bs)
    (ad : Addr) (c : Nat) (news : List UInt8) (hx : a.eval x = .slice (some ad) news.length c) (hnews : BytesAt w (some ad) news)
    (hbytes : bs.length + news.length ≤ 140737488355328) (hbase : base ≤ w.heap.size)
    (h : ∀ v' w', Own w' base v' (bs ++ news) → w.grownBy w' v.ownBlock → wpList Tryz.prog ops Q rest (a.put o.dst v') w') : wpList Tryz.prog ops Q (o :: rest) a w := by
  obtain ⟨i, hi, hz⟩ := Option.map_eq_some_iff.1 bytes5
  simp only [Prod.mk.injEq] at hz
  obtain ⟨hz, hsz, hby⟩ := hz
  refine wpList_append_own w hgd s x 32 ho base 5 i (.int .u8 0) 1 1 Tryz.underlying32 hi hz hsz hby rfl (by omega) v bs.length (c8 bs) hs hown ad news.length c (c8 news) hx (by simp [c8_len]) ?_ (c8_one _) (by unfold maxLen; omega) (by omega) hbase ?_
  · intro j u hu
    have hj := (List.getElem?_eq_some_iff.1 hu).1
    rw [c8_len] at hj
    obtain ⟨b, o, he, hc⟩ := hnews (by intro h; simp [h] at hj)
    cases he
    rw [c8_get news j hj] at hu
    rw [Addr.add_mid, hc j hj, hu]
  · intro v' w' h1 h2 _
    exact h v' w' (by unfold Own; rw [c8_append, List.length_append]; exact h1) h2
theorem BytesAt.one (w : World) (b : UInt8) : BytesAt (w.alloc (.cells #[.int .u8 (b.toNat : Int)] 5)) (some ⟨w.heap.size, 0, none⟩) [b] := fun _ =>
  ⟨w.heap.size, 0, rfl, fun j hj => by
    obtain rfl : j = 0 := by simpa using hj
    rw [cell_of_row _ _ _ _ _ _ (heap_alloc_new w _)]; simp⟩
theorem Own.fresh (w : World) : Own (w.alloc (.cells #[] 5)) w.heap.size (.slice (some ⟨w.heap.size, 0, none⟩) 0 0) [] :=
  World.ownsRow_made w #[] 0 (Nat.le_refl _) (by decide) rfl
theorem wpList_append_any {w : World} {ops : Array Oper} {rest : List Oper} {o : Oper} {a : Act} {Q : Exit → Act → World → Prop} (hgd : o.guard = none) (s x : Operand)
    (ho : o.op = .call { callee := .builtin .append, args := #[s, x], argTypes := #[32, 32] })
    (base : Nat) (v : Value) (bs : List UInt8) (hs : a.eval s = v) (hown : Own w base v bs)
    (ao : Option Addr) (c : Nat) (news : List UInt8) (k : Nat) (hk : news.length = k) (hx : a.eval x = .slice ao k c) (hnews : BytesAt w ao news)
    (hbytes : bs.length + news.length ≤ 140737488355328) (hbase : base ≤ w.heap.size)
    (h : ∀ v' w', Own w' base v' (bs ++ news) → w.grownBy w' v.ownBlock → wpList Tryz.prog ops Q rest (a.put o.dst v') w') : wpList Tryz.prog ops Q (o :: rest) a w := by
  subst hk
  cases ao with
  | some ad => exact wpList_append_bytes hgd s x ho base v bs hs hown ad c news hx hnews hbytes hbase h
  | none =>
    obtain rfl : news = [] := Classical.byContradiction fun hn => by obtain ⟨b, o, he, _⟩ := hnews hn; cases he
    rw [List.append_nil] at h
    obtain ⟨i, hi, hz⟩ := Option.map_eq_some_iff.1 bytes5
    simp only [Prod.mk.injEq] at hz
    have hk := h v w hown ⟨rfl, rfl, rfl, Nat.le_refl _, fun _ _ _ => rfl⟩
    obtain ⟨ao', cap', hv, _, hle, _⟩ := hown.at
    refine wpList_plain hgd fun K hK => ?_
    have hr := run_append_nothing (P := Tryz.prog) w 32 32 o.type 5 i Tryz.underlying32 hi ao' bs.length cap' hle (.slice none 0 c) (Src.ofNil w Tryz.underlying32 c)
    unfold Oper.wp execOp
    rw [← hv] at hr
    simp only [List.length_nil] at hx
    simp only [ho, resolve, invoke, builtin, Sem.run_bind, Sem.run_pure, Result.andThen_ok, List.map_toArray, List.map_cons, List.map_nil, hs, hx, hr]
    exact hK _ _ hk
def After (W w : World) : Prop := Below W.heap.size W w
theorem After.refl (W : World) : After W W := Below.refl _ _
theorem After.trans {a b c : World} (h : After a b) (k : After b c) : After a c := Below.trans h (Below.mono k h.size)
theorem After.drew {a b : World} (h : After a b) : After a b.drew := Below.drew h
theorem after_grown {w1 w2 : World} {B : Nat} {row : Option Nat} {w : World} (h : After w w1) (hg : w1.grownBy w2 row) (hB : w.heap.size ≤ B) (hr : ∀ k, row = some k → B ≤ k) : After w w2 :=
  below_grown h hg (fun k hk => by have := hr k hk; omega) h.size
theorem after_alloc {w w1 : World} (h : After w w1) (o : Obj) : After w (w1.alloc o) := Below.alloc h h.size _
theorem BytesAt.after {w w' : World} {ao : Option Addr} {bs : List UInt8} (h : BytesAt w ao bs) (hb : After w w') : BytesAt w' ao bs := fun hn => by
  obtain ⟨b, o, rfl, hc⟩ := h hn
  exact ⟨b, o, rfl, fun j hj => by rw [Below.cell hb (p := ⟨b, o + j, none⟩) (block_lt_of_cell (hc j hj))]; exact hc j hj⟩
end Go.Proofs.YtgmdolpjkaajfaaGreatDoor.SH
namespace Go.Proofs.YtgmdolpjkaajfaaGreatDoor.SH
open Go.RowKit Sha
/-- The bytes behind: mark, noughts, and k bytes of the length. -/
def endK (n k : Nat) : List UInt8 := 128 :: (List.replicate (noughts n) 0 ++ (List.range k).map (lb n))
theorem endTo_eq (n : Nat) : ∀ k, k ≤ 8 → endTo n k = endK n k ++ List.replicate (8 - k) 0
  | 0, _ => by
    have e : List.replicate (noughts n + 8) (0 : UInt8) = List.replicate (noughts n) 0 ++ List.replicate 8 0 := by rw [List.replicate_append_replicate]
    show 128 :: List.replicate (noughts n + 8) 0 = _
    rw [e]; simp only [endK, List.range_zero, List.map_nil, List.append_nil, List.cons_append, Nat.sub_zero]
  | k + 1, h => by
    have ih := endTo_eq n k (by omega)
    have hl : (endK n k).length = 1 + noughts n + k := by simp [endK]; omega
    show (endTo n k).set (1 + noughts n + k) (lb n k) = _
    rw [ih, List.set_append_right _ _ (by omega), hl, Nat.sub_self, show 8 - k = (8 - (k + 1)) + 1 by omega, List.replicate_succ, List.set_cons_zero]
    simp [endK, List.range_succ]
theorem endTo_8 (n : Nat) : endTo n 8 = endK n 8 := by rw [endTo_eq n 8 (by omega)]; simp
/-- Bytes as blocks. -/
def padP (bs : List UInt8) : List UInt8 := bs ++ endK bs.length 8
theorem padP_len (bs : List UInt8) : (padP bs).length = 64 * ((bs.length + 72) / 64) := by
  simp [padP, endK, noughts]
  omega
def blockAt (p : List UInt8) (k : Nat) : List UInt8 := (p.drop (64 * k)).take 64
theorem blockAt_len (p : List UInt8) (k : Nat) (h : 64 * (k + 1) ≤ p.length) : (blockAt p k).length = 64 := by simp [blockAt]; omega
/-- The state behind k blocks. -/
def blocksTo (p : List UInt8) : Nat → St
  | 0 => first
  | k + 1 => mix (blocksTo p k) (blockAt p k)
theorem feed_blocks (p : List UInt8) : ∀ k, 64 * k ≤ p.length → (feed newHs (p.take (64 * k))).st = blocksTo p k
  | 0, _ => rfl
  | k + 1, h => by
    have ih := feed_blocks p k (by omega)
    have e : p.take (64 * (k + 1)) = p.take (64 * k) ++ blockAt p k := by
      rw [show 64 * (k + 1) = 64 * k + 64 by omega, List.take_add]; rfl
    have hn : (feed newHs (p.take (64 * k))).n = 64 * k := by rw [feed_n]; simp [newHs]; omega
    have hp : (feed newHs (p.take (64 * k))).part.length = 64 := by rw [feed_part]; rfl
    have hb := blockAt_len p k h
    rw [e, feed_append, feed_chunk _ _ hp (by intro h; rw [h] at hb; simp at hb) (by rw [hb, hn]; omega)]
    show (if _ then _ else _) = mix _ _
    rw [if_pos (by rw [hn, hb]; omega), ih, hn]
    congr 1
    rw [Nat.mul_mod_right]
    simp [chunk, hb]
    omega
/-- The bytes of the words, one by one. -/
def outB (ws : List (BitVec 32)) (i : Nat) : UInt8 := byt (ws.getD (i / 4) 0) (24 - 8 * (i % 4))
def outL (ws : List (BitVec 32)) : Nat → List UInt8
  | 0 => List.replicate 32 0
  | i + 1 => (outL ws i).set i (outB ws i)
theorem outL_len (ws : List (BitVec 32)) : ∀ i, (outL ws i).length = 32
  | 0 => by simp [outL]
  | i + 1 => by simp [outL, outL_len ws i]
theorem outL_32 (ws : List (BitVec 32)) : outL ws 32 = outTo ws 8 := rfl
theorem sumP_blocks (bs : List UInt8) : outL (blocksTo (padP bs) ((bs.length + 72) / 64)).list 32 = sumOf (feed newHs bs) := by
  have hl := padP_len bs
  have h := feed_blocks (padP bs) ((bs.length + 72) / 64) (by omega)
  rw [List.take_of_length_le (by omega)] at h
  rw [outL_32, ← h]
  unfold sumOf
  rw [feed_n, show newHs.n + bs.length = bs.length by simp [newHs], endTo_8, ← feed_append]
  rfl
end Go.Proofs.YtgmdolpjkaajfaaGreatDoor.SH
namespace Go.Proofs.YtgmdolpjkaajfaaGreatDoor.SH
open Go.RowKit Sha
def slen : Value → Nat
  | .slice _ n _ => n
  | _ => 0
/-- Behind the mark and k noughts. -/
def padZ (bs : List UInt8) (k : Nat) : List UInt8 := bs ++ 128 :: List.replicate k 0
theorem padZ_len (bs : List UInt8) (k : Nat) : (padZ bs k).length = bs.length + 1 + k := by simp [padZ]; omega
theorem padZ_next (bs : List UInt8) (k : Nat) : padZ bs k ++ [0] = padZ bs (k + 1) := by simp [padZ, List.replicate_succ']
/-- Behind k bytes of the length. -/
def padK (bs : List UInt8) (k : Nat) : List UInt8 := bs ++ endK bs.length k
theorem padK_len (bs : List UInt8) (k : Nat) : (padK bs k).length = bs.length + 1 + noughts bs.length + k := by simp [padK, endK]; omega
theorem padK_next (bs : List UInt8) (k : Nat) : padK bs k ++ [lb bs.length k] = padK bs (k + 1) := by simp [padK, endK, List.range_succ]
theorem padK_0 (bs : List UInt8) : padZ bs (noughts bs.length) = padK bs 0 := by simp [padK, padZ, endK]
set_option maxRecDepth 100000 in
set_option maxHeartbeats 800000 in
theorem padded_any (ao : Option Addr) (cap : Nat) (bs : List UInt8) (hbig : bs.length ≤ 140737488351232) (w : World) (hat : BytesAt w ao bs) :
    Calls Tryz.prog 71 #[.slice ao bs.length cap] w fun e w' => ∃ v, e = .returned v ∧ Own w' w.heap.size v (padP bs) ∧ After w w' := by
  have HAT : Hid (BytesAt w ao bs) := hat
  clear hat
  obtain ⟨z, HZ, hz64⟩ : ∃ z : Nat, Hid (noughts bs.length = z) ∧ z < 64 := ⟨_, rfl, by unfold noughts; omega⟩
  have hzz : Hid (∀ k, k ≤ z → ((bs.length + 1 + k) % 64 = 56 ↔ k = z)) := by
    have := HZ.out; unfold noughts at this
    intro k hk; omega
  go_enter Tryz.func71, Tryz.ntmps71
  go_wp2_with (first
    | (at_builtin; refine wpList_append_any rfl (.tmp 6) (.tmp 7) rfl w.heap.size _ [] rfl (Own.nil w _) ao cap bs bs.length rfl rfl HAT.out (by simp; omega) (Nat.le_refl _) ?_; intro v1 w1 ho1 hg1; rw [List.nil_append] at ho1; have B1 : After w w1 := after_grown (After.refl w) hg1 (Nat.le_refl _) (fun k hk => (World.ownsRow.lt (Own.nil w _) k hk).1); have O1 : Own (w1.alloc (.cells #[.int .u8 128] 5)) w.heap.size v1 bs := Own.below ho1 (after_alloc (After.refl w1) _) (Nat.le_refl _); have T1 : BytesAt (w1.alloc (.cells #[.int .u8 128] 5)) (some ⟨w1.heap.size, 0, none⟩) [128] := BytesAt.one w1 128; have Z1 : w.heap.size ≤ (w1.alloc (.cells #[.int .u8 128] 5)).heap.size := (after_alloc B1 _).size)
    | (at_builtin; refine wpList_append_any rfl (.tmp 8) (.tmp 9) rfl w.heap.size v1 bs rfl O1 (some ⟨w1.heap.size, 0, none⟩) 1 [128] 1 rfl rfl T1 (by simp; omega) Z1 ?_; intro v2 w2 ho2 hg2; have B2 : After w w2 := after_grown (after_alloc B1 _) hg2 (Nat.le_refl _) (fun k hk => (World.ownsRow.lt O1 k hk).1)))
  have HO : Hid (Own w2 w.heap.size v2 (padZ bs 0)) := ho2
  clear ho2 hg2 ho1 hg1 B1 O1 T1 Z1
  go_loopw [3] (fun v wr => ∃ k : Nat, k ≤ z ∧ Own wr w.heap.size v (padZ bs k) ∧ After w wr) (fun v _ => bs.length + 1 + z - slen v)
  case atStart => exact ⟨0, by omega, HO.out, B2⟩
  case round =>
    clear HO B2
    obtain ⟨k, hk, ho, B3⟩ := hrel
    obtain ⟨a3, c3, rfl, _, _, _⟩ := ho.at
    rw [padZ_len] at *
    have HO : Hid (Own wr w.heap.size (.slice a3 (bs.length + 1 + k) c3) (padZ bs k)) := ho
    clear ho
    by_cases hkz : k = z
    · have h56 : (bs.length + 1 + k) % 64 = 56 := (hzz.out k hk).2 hkz
      have HO2 : Hid (Own wr w.heap.size (.slice a3 (bs.length + 1 + k) c3) (padK bs 0)) := by unfold Hid; rw [← padK_0, HZ.out, ← hkz]; exact HO.out
      go_wp2
      generalize (((bs.length : Int) + 1 + (z : Int)) % 64 != 56) = b56
      go_loopw [3, 5] (fun v i wr => ∃ k : Nat, k ≤ 8 ∧ i = .int .i64 k ∧ Own wr w.heap.size v (padK bs k) ∧ After w wr) (fun _ i _ => 8 - (intOf i).toNat)
      case atStart => exact ⟨0, by omega, rfl, HO2.out, B3⟩
      case round =>
        clear HO HO2 B3 h56 hkz
        obtain ⟨j, hj, rfl, ho, B5⟩ := hrel
        obtain ⟨a5, c5, rfl, _, _, _⟩ := ho.at
        by_cases hj8 : j < 8
        · have HO : Hid (Own wr w.heap.size (.slice a5 (padK bs j).length c5) (padK bs j)) := ho
          have s0 : (0 : Int) ≤ 56 - 8 * (j : Int) := by omega
          have s1 : 56 - 8 * (j : Int) ≤ 64 := by omega
          have s2 : (56 - 8 * (j : Int)).toNat = 56 - 8 * j := by omega
          have hv : (bs.length : Int) * 8 / 2 ^ (56 - 8 * j) % 256 = ((lb bs.length j).toNat : Int) := by rw [Int.mul_comm]; exact lb_mod bs.length j
          have O6 : Own (wr.alloc (.cells #[.int .u8 ((lb bs.length j).toNat : Int)] 5)) w.heap.size (.slice a5 (padK bs j).length c5) (padK bs j) := Own.below HO.out (after_alloc (After.refl wr) _) (Nat.le_refl _)
          have T6 : BytesAt (wr.alloc (.cells #[.int .u8 ((lb bs.length j).toNat : Int)] 5)) (some ⟨wr.heap.size, 0, none⟩) [lb bs.length j] := BytesAt.one wr (lb bs.length j)
          have Z6 : w.heap.size ≤ (wr.alloc (.cells #[.int .u8 ((lb bs.length j).toNat : Int)] 5)).heap.size := (after_alloc B5 _).size
          have HT6 := show Hid _ from T6
          have HZ6 := show Hid _ from Z6
          have hbj : Hid ((padK bs j).length + [lb bs.length j].length ≤ 140737488355328) := by
            unfold Hid; rw [padK_len, HZ.out]; simp; omega
          obtain ⟨pl, HPL⟩ : ∃ pl, Hid ((padK bs j).length = pl) := ⟨_, rfl⟩
          have HO6 : Hid (Own (wr.alloc (.cells #[.int .u8 ((lb bs.length j).toNat : Int)] 5)) w.heap.size (.slice a5 pl c5) (padK bs j)) := by unfold Hid; rw [← HPL.out]; exact O6
          rw [HPL.out] at hbj
          clear ho O6 T6 Z6 HO
          rw [HPL.out]
          go_wp2_with (at_builtin; refine wpList_append_any rfl (.tmp 26) (.tmp 34) rfl w.heap.size _ (padK bs j) rfl HO6.out (some ⟨wr.heap.size, 0, none⟩) 1 [lb bs.length j] 1 rfl rfl HT6.out (by rw [HPL.out]; exact hbj.out) HZ6.out ?_; intro v7 w7 ho7 hg7; rw [padK_next] at ho7; have B7 : After w w7 := after_grown (after_alloc B5 _) hg7 (Nat.le_refl _) (fun k hk => (World.ownsRow.lt HO6.out k hk).1); have H7 : Hid (Own w7 w.heap.size v7 (padK bs (j + 1))) := ho7; clear ho7 hg7)
          go_roundw
          case rel => exact ⟨j + 1, by omega, by go_num, H7.out, B7⟩
          case measure => simp [intOf]; omega
        · obtain rfl : j = 8 := by omega
          have HO : Hid (Own wr w.heap.size (.slice a5 (padK bs 8).length c5) (padP bs)) := ho
          clear ho
          go_wp2
          go_ret
          exact ⟨_, rfl, HO.out, B5⟩
    · have h56 : ¬ (bs.length + 1 + k) % 64 = 56 := fun h => hkz ((hzz.out k hk).1 h)
      have O3 : Own (wr.alloc (.cells #[.int .u8 0] 5)) w.heap.size (.slice a3 (bs.length + 1 + k) c3) (padZ bs k) := Own.below HO.out (after_alloc (After.refl wr) _) (Nat.le_refl _)
      have T3 : BytesAt (wr.alloc (.cells #[.int .u8 0] 5)) (some ⟨wr.heap.size, 0, none⟩) [0] := BytesAt.one wr 0
      have Z3 : w.heap.size ≤ (wr.alloc (.cells #[.int .u8 0] 5)).heap.size := (after_alloc B3 _).size
      go_wp2_with (at_builtin; refine wpList_append_any rfl (.tmp 15) (.tmp 16) rfl w.heap.size _ (padZ bs k) rfl O3 (some ⟨wr.heap.size, 0, none⟩) 1 [0] 1 rfl rfl T3 (by rw [padZ_len]; simp; omega) Z3 ?_; intro v4 w4 ho4 hg4; rw [padZ_next] at ho4; have B4 : After w w4 := after_grown (after_alloc B3 _) hg4 (Nat.le_refl _) (fun k hk => (World.ownsRow.lt O3 k hk).1); have H4 : Hid (Own w4 w.heap.size v4 (padZ bs (k + 1))) := ho4; obtain ⟨a5, c5, rfl, _, _, _⟩ := ho4.at; clear ho4 hg4)
      go_roundw
      case rel => exact ⟨k + 1, by omega, H4.out, B4⟩
      case measure => simp [slen, padZ_len]; omega
end Go.Proofs.YtgmdolpjkaajfaaGreatDoor.SH
namespace Go.Proofs.YtgmdolpjkaajfaaGreatDoor.SH
open Go.RowKit Sha
section
variable {ops : Array Oper} {Q : Exit → Act → World → Prop} {S : World → Prop} {fuel : Nat} {listed : Array Bool} {a : Act} {w : World} {oi : Oper}
/-- Number i is taken first: it yields v, into slot d. -/
theorem tk (i d : Nat) (v : Value) (hi : ops[i]? = some oi) (hd : oi.dst = some d) (hs : Region.noSelect ops = true) (hf : Region.free .any ops listed i = true) (hr : (Region.ready .any ops listed).contains i = true)
    (hQ : ∀ c a w, Q (.panic c) a w → False) (hw : Region.wanted oi (yielded ops a.tmps) = true) (hx : ∀ w, S w → (execOp a.eval oi).run Tryz.prog w = .ok (.value v) w) (hS : S w)
    (h : wpAnyH Tryz.prog .any ops Q S fuel (listed.setIfInBounds i true) (a.put (some d) v) w) : wpAnyH Tryz.prog .any ops Q S (fuel + 1) listed a w :=
  wpAnyH_take hi hs hf hr (fun c a w h => (hQ c _ w h).elim) (.inl ⟨hw, hx⟩) hS (by rw [hd]; exact h)
/-- Number i is a whole array's load. -/
theorem tkLoad (i d : Nat) (ty : TypeId) (x : Operand) (b off : Nat) (cs : List Value) (hi : ops[i]? = some oi) (hd : oi.dst = some d) (hop : oi.op = .load ty x) (hs : Region.noSelect ops = true) (hf : Region.free .any ops listed i = true) (hr : (Region.ready .any ops listed).contains i = true)
    (hQ : ∀ c a w, Q (.panic c) a w → False) (hw : Region.wanted oi (yielded ops a.tmps) = true) (hx : a.eval x = .pointer (some ⟨b, off, none⟩)) (ds : TypeDesc) (hr2 : ∀ w, S w → w.rangeAt b off cs)
    (hu : Tryz.prog.underlying ty = some ds) (hds : ds.isRow = true) (hz : (Tryz.prog.info? ty).map (·.size) = some cs.length) (hS : S w)
    (h : wpAnyH Tryz.prog .any ops Q S fuel (listed.setIfInBounds i true) (a.put (some d) (.agg cs.toArray)) w) : wpAnyH Tryz.prog .any ops Q S (fuel + 1) listed a w :=
  wpAnyH_take hi hs hf hr (fun c a w h => (hQ c _ w h).elim) (yieldsIf_load_mid hw ty x hop b off hx cs ds hr2 hu hds hz) hS (by rw [hd]; exact h)
/-- Number i's guard says no. -/
theorem tkSkip (i d : Nat) (hi : ops[i]? = some oi) (hd : oi.dst = some d) (hs : Region.noSelect ops = true) (hf : Region.free .any ops listed i = true) (hr : (Region.ready .any ops listed).contains i = true)
    (hQ : ∀ c a w, Q (.panic c) a w → False) (hw : Region.wanted oi (yielded ops a.tmps) = false) (hS : S w)
    (h : wpAnyH Tryz.prog .any ops Q S fuel (listed.setIfInBounds i true) (a.put (some d) undef) w) : wpAnyH Tryz.prog .any ops Q S (fuel + 1) listed a w :=
  wpAnyH_take hi hs hf hr (fun c a w h => (hQ c _ w h).elim) (.inr ⟨hw, rfl⟩) hS (by rw [hd]; exact h)
/-- Number i is a call, by its contract; nothing else may come up. -/
theorem tkCall (i d : Nat) (f : FuncId) (args : Array Value) (v : Value) (R : World → Prop) (hi : ops[i]? = some oi) (hd : oi.dst = some d) (hr : Region.ready .any ops listed = [i])
    (hw : Region.wanted oi (yielded ops a.tmps) = true) (hrun : ∀ w, (execOp a.eval oi).run Tryz.prog w = .ok (.enter f args) w) (hc : Calls Tryz.prog f args w fun e w' => e = .returned v ∧ R w')
    (h : ∀ w', R w' → S w' ∧ wpAnyH Tryz.prog .any ops Q S fuel (listed.setIfInBounds i true) (a.put (some d) v) w') : wpAnyH Tryz.prog .any ops Q S (fuel + 1) listed a w :=
  wpAnyH_all hr (by simp) (fun j hj => by
    obtain rfl : j = i := by simpa using hj
    exact op_call hi hw f args v R (hrun w) hc (fun w' hw' => by rw [hd]; exact h w' hw'))
theorem noPanic_false {Q : Exit → Act → World → Prop} : ∀ c a w, NoPanic Q (.panic c) a w → False := fun _ _ _ h => h
/-- Two bools that are one, compared. -/
theorem eql_same {o : Oper} {a : Act} (x y : Operand) (c : Bool) (hop : o.op = .binOp .eql 4 x y 4) (hx : a.eval x = .bool c) (hy : a.eval y = .bool c) (w : World) : (execOp a.eval o).run Tryz.prog w = .ok (.value (.bool true)) w := by
  unfold execOp
  simp only [hop, hx, hy]
  simp [go_sem]
end
end Go.Proofs.YtgmdolpjkaajfaaGreatDoor.SH
namespace Go.Proofs.YtgmdolpjkaajfaaGreatDoor.SH
open Go.RowKit Sha
theorem turnH {P : Program} {md : Region.Mode} {ops : Array Oper} {Q : Exit → Act → World → Prop} {S T : World → Prop} (h : ∀ w, T w → S w) :
    ∀ (fuel : Nat) (listed : Array Bool) (a : Act) (w : World), wpAnyH P md ops Q T fuel listed a w → wpAnyH P md ops Q S fuel listed a w
  | 0, _, _, _, k => k
  | fuel + 1, _, _, _, k => ⟨k.1, fun i hi => wpOp_mono (fun a' w' k' => ⟨h _ k'.1, turnH h fuel _ a' w' k'.2⟩) (k.2 i hi)⟩
section
variable {ops : Array Oper} {Q : Exit → Act → World → Prop} {S : World → Prop} {fuel : Nat} {listed : Array Bool} {a : Act} {w W : World} {oi : Oper}
/-- Number i is a call, by its contract; nothing else may come up; from then on the world behind it is kept. -/
theorem tkCallA (i d : Nat) (f : FuncId) (args : Array Value) (R : Value → World → Prop) (hi : ops[i]? = some oi) (hd : oi.dst = some d) (hr : Region.ready .any ops listed = [i])
    (hw : Region.wanted oi (yielded ops a.tmps) = true) (hrun : ∀ w, (execOp a.eval oi).run Tryz.prog w = .ok (.enter f args) w) (hS : After W w)
    (hc : Calls Tryz.prog f args w fun e w' => ∃ v, e = .returned v ∧ R v w' ∧ Below w.heap.size w w')
    (h : ∀ v w', R v w' → After w w' → wpAnyH Tryz.prog .any ops Q (After w') fuel (listed.setIfInBounds i true) (a.put (some d) v) w') : wpAnyH Tryz.prog .any ops Q (After W) (fuel + 1) listed a w :=
  wpAnyH_all hr (by simp) (fun j hj => by
    obtain rfl : j = i := by simpa using hj
    refine wpOp_step hi (fun K' hK => ?_)
    rw [if_pos hw]
    unfold Oper.wp
    rw [hrun, Oper.upon_enter]
    refine hc.mono (fun e w' ⟨v, he, hr, hb⟩ => ?_)
    subst he
    rw [hd]
    exact hK _ _ ⟨hS.trans hb, turnH (fun w hw => (hS.trans hb).trans hw) _ _ _ _ (h v w' hr hb)⟩)
/-- Number i, which alone may come up, stores a whole row. -/
theorem tkStore (i : Nat) (g : Nat) (ty : TypeId) (x y : Operand) (cells old : Array Value) (t : TypeId) (hi : ops[i]? = some oi) (hd : oi.dst = none) (ho : oi.op = .store ty x y) (hr : Region.ready .any ops listed = [i])
    (hw : Region.wanted oi (yielded ops a.tmps) = true) (hx : a.eval x = .pointer (some ⟨g, 0, none⟩)) (hy : a.eval y = .agg cells) (hg : w.heap[g]? = some (.cells old t (0, 0))) (hz : (Tryz.prog.info? ty).map (·.size) = some cells.size)
    (hold : old.size = cells.size) (h1 : cells.all (·.oneCell') = true) (hS : S (w.setRow g cells))
    (h : wpAnyH Tryz.prog .any ops Q S fuel (listed.setIfInBounds i true) (a.put none undef) (w.setRow g cells)) : wpAnyH Tryz.prog .any ops Q S (fuel + 1) listed a w :=
  wpAnyH_all hr (by simp) (fun j hj => by
    obtain rfl : j = i := by simpa using hj
    refine wpOp_step hi (fun K' hK => ?_)
    rw [if_pos hw]
    refine wp_store_row ty x y ho g cells hx hy t old hg hz hold h1 ?_
    rw [hd]
    exact hK _ _ ⟨hS, h⟩)
/-- Number i, which alone may come up, is a call, by its contract. -/
theorem tkCallS (i d : Nat) (f : FuncId) (args : Array Value) (R : Value → World → Prop) (hi : ops[i]? = some oi) (hd : oi.dst = some d) (hr : Region.ready .any ops listed = [i])
    (hw : Region.wanted oi (yielded ops a.tmps) = true) (hrun : ∀ w, (execOp a.eval oi).run Tryz.prog w = .ok (.enter f args) w)
    (hc : Calls Tryz.prog f args w fun e w' => ∃ v, e = .returned v ∧ R v w') (hS : ∀ v w', R v w' → S w')
    (h : ∀ v w', R v w' → wpAnyH Tryz.prog .any ops Q S fuel (listed.setIfInBounds i true) (a.put (some d) v) w') : wpAnyH Tryz.prog .any ops Q S (fuel + 1) listed a w :=
  wpAnyH_all hr (by simp) (fun j hj => by
    obtain rfl : j = i := by simpa using hj
    refine wpOp_step hi (fun K' hK => ?_)
    rw [if_pos hw]
    unfold Oper.wp
    rw [hrun, Oper.upon_enter]
    refine hc.mono (fun e w' ⟨v, he, hr⟩ => ?_)
    subst he
    rw [hd]
    exact hK _ _ ⟨hS v w' hr, h v w' hr⟩)
end
section
variable {o : Oper} {a : Act} {x y : Operand} {w : World} {p q : BitVec 32}
theorem x_xor (hop : o.op = .binOp .xor 88 x y 88) (hx : a.eval x = .int .u32 (n32 p)) (hy : a.eval y = .int .u32 (n32 q)) : (execOp a.eval o).run Tryz.prog w = .ok (.value (.int .u32 (n32 (p ^^^ q)))) w := by
  unfold execOp
  simp only [hop, hx, hy]
  simp [go_sem, bits_xor]
theorem x_and (hop : o.op = .binOp .and 88 x y 88) (hx : a.eval x = .int .u32 (n32 p)) (hy : a.eval y = .int .u32 (n32 q)) : (execOp a.eval o).run Tryz.prog w = .ok (.value (.int .u32 (n32 (p &&& q)))) w := by
  unfold execOp
  simp only [hop, hx, hy]
  simp [go_sem, bits_and]
theorem x_add (hop : o.op = .binOp .add 88 x y 88) (hx : a.eval x = .int .u32 (n32 p)) (hy : a.eval y = .int .u32 (n32 q)) : (execOp a.eval o).run Tryz.prog w = .ok (.value (.int .u32 (n32 (p + q)))) w := by
  unfold execOp
  simp only [hop, hx, hy]
  rw [← wrap_add]
  simp [go_sem]
theorem x_not (hop : o.op = .unOp .xor 88 x) (hx : a.eval x = .int .u32 (n32 p)) : (execOp a.eval o).run Tryz.prog w = .ok (.value (.int .u32 (n32 (~~~p)))) w := by
  unfold execOp
  simp only [hop, hx]
  rw [← bits_not]
  simp [go_sem]
  rfl
theorem x_load46 {g j : Nat} {v : Value} (hop : o.op = .load 88 x) (hx : a.eval x = .pointer (some ⟨g, j, none⟩)) (h : w.cell? ⟨g, j, none⟩ = some v) : (execOp a.eval o).run Tryz.prog w = .ok (.value v) w := by
  have hag : (isAgg 88).run Tryz.prog w = .ok false w := by
    unfold isAgg; rw [Sem.run_bind, run_underlying Tryz.underlying88 w]; rfl
  unfold execOp
  simp only [hop, hx, Instr.loadAt, Instr.sureAddr, Sem.run_bind, Sem.run_pure, Result.andThen_ok, loadVar, hag]
  simp [h, go_sem]
theorem x_index64 {g k : Nat} (hop : o.op = .indexAddr 126 x y) (hx : a.eval x = .pointer (some ⟨g, 0, none⟩)) (hy : a.eval y = .int .i64 (k : Int)) (hk : k < 64) :
    (execOp a.eval o).run Tryz.prog w = .ok (.value (.pointer (some ⟨g, k, none⟩))) w := by
  obtain ⟨i, hi, hz⟩ := Option.map_eq_some_iff.1 (show (Tryz.prog.info? 88).map (·.size) = some 1 by kernel_rfl)
  unfold execOp
  simp only [hop, hx, hy]
  simp [Instr.indexAt, run_underlying Tryz.underlying126, Instr.sureAddr, asIntOf, sizeOf, typeInfo, hi, hz, Addr.add_mid, go_sem]
  intro h; omega
end
end Go.Proofs.YtgmdolpjkaajfaaGreatDoor.SH
