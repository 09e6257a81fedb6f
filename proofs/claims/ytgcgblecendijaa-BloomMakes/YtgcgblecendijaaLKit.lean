/-
  SMALL LAWS: bytes as cells; a row of the call's own; string(b); b[i:j].
-/
import Derived.Test.YtgcgblecendijaaRows
import Derived.Test.YtgcgblecendijaaLPlain
import Derived.WalkKit
import Derived.WalkSpells
import Derived.WalkLawsBesides
import Derived.Lib.AppendStr
import Derived.Deep.RegionHeld3
namespace Go.Proofs.Ytgcgblecendijaa.LB
open Go.RowKit Leb
def c8 (l : List UInt8) : List Value := l.map fun b => .int .u8 (b.toNat : Int)
theorem c8_len (l : List UInt8) : (c8 l).length = l.length := by simp [c8]
theorem c8_get (l : List UInt8) (j : Nat) (h : j < l.length) : (c8 l)[j]? = some (.int .u8 ((l.getD j 0).toNat : Int)) := by
  simp [c8, h]
theorem c8_one (l : List UInt8) : ∀ v ∈ c8 l, v.oneCell' = true := by
  intro v hv; simp only [c8, List.mem_map] at hv; obtain ⟨b, _, rfl⟩ := hv; rfl
theorem c8_append (l m : List UInt8) : c8 (l ++ m) = c8 l ++ c8 m := by simp [c8]
def strOf (l : List UInt8) : ByteArray := ⟨l.toArray⟩
theorem strOf_size (l : List UInt8) : (strOf l).size = l.length := by simp [strOf, ByteArray.size]
theorem strOf_inj {a b : List UInt8} : strOf a = strOf b ↔ a = b := by simp [strOf]
theorem foldl_push (l : List UInt8) : ∀ s : List UInt8, (l.map fun b => (b.toNat : Int)).foldl (fun r n => r.push (UInt8.ofNat n.toNat)) (strOf s) = strOf (s ++ l) := by
  induction l with
  | nil => intro s; simp
  | cons b l ih =>
    intro s
    simp only [List.map_cons, List.foldl_cons, Int.toNat_natCast]
    have e : (strOf s).push (UInt8.ofNat b.toNat) = strOf (s ++ [b]) := by simp [strOf, ByteArray.push]
    rw [e, ih]; simp
/-- The bytes bs lie at a slice's head. -/
def BytesAt (w : World) (ao : Option Addr) (bs : List UInt8) : Prop := bs ≠ [] → ∃ b o, ao = some ⟨b, o, none⟩ ∧ ∀ j, j < bs.length → w.cell? ⟨b, o + j, none⟩ = some (.int .u8 ((bs.getD j 0).toNat : Int))
theorem conv_at {W : World} {ao : Option Addr} {bs : List UInt8} (cap : Nat) (h : BytesAt W ao bs) :
    (convert 26 9 (.slice ao bs.length cap)).run Try.prog W = .ok (.string (strOf bs)) W := by
  rw [run_convert_bytes_string W 26 9 5 _ _ _ Try.underlying26 Try.underlying5 Try.underlying9]
  have step : ∀ ad : Addr, (∀ (j : Nat) (v : Value), (c8 bs)[j]? = some v → W.cell? (ad.add j) = some v) → (Conv.bytesToString (.slice (some ad) bs.length cap)).run Try.prog W = .ok (.string (strOf bs)) W := fun ad hc => by
    have hl := run_loadCells_list (P := Try.prog) W ad (c8 bs) hc
    rw [c8_len] at hl
    have e : c8 bs = (bs.map fun b => (b.toNat : Int)).map (Value.int .u8) := by simp [c8]
    rw [e] at hl
    rw [run_bytesToString W _ _ _ _ hl]
    have := foldl_push bs []
    simp only [List.nil_append] at this
    rw [show ByteArray.empty = strOf [] from rfl, this]
  by_cases hn : bs = []
  · subst hn
    cases ao with
    | none => simp [Conv.bytesToString, strOf]; rfl
    | some ad => exact step ad (fun j v hv => by simp [c8] at hv)
  · obtain ⟨b, o, rfl, hc⟩ := h hn
    refine step _ (fun j v hv => ?_)
    have hj := (List.getElem?_eq_some_iff.1 hv).1
    rw [c8_len] at hj
    rw [c8_get bs j hj] at hv
    rw [Addr.add_mid, hc j hj, hv]
/-- A row of the call's own that holds bytes. -/
def Own (w : World) (base : Nat) (v : Value) (bs : List UInt8) : Prop := w.ownsRow base 5 1 v bs.length (c8 bs)
theorem Own.nil (w : World) (base : Nat) : Own w base (.slice none 0 0) [] := World.ownsRow_nil w base 5 1
theorem Own.at {w : World} {base : Nat} {v : Value} {bs : List UInt8} (h : Own w base v bs) : ∃ ao cap, v = .slice ao bs.length cap ∧ BytesAt w ao bs ∧ bs.length ≤ cap ∧ (∀ a, ao = some a → base ≤ a.block ∧ a.block < w.heap.size) := by
  have hlt := World.ownsRow.lt h
  have hc := fun g hg => World.ownsRow.cells (g := g) h hg
  rcases h.2 with ⟨rfl, h0⟩ | ⟨g, cap, cur, rfl, hb, hg, hnc, _, hcs, ht⟩
  · obtain rfl : bs = [] := List.eq_nil_of_length_eq_zero h0
    exact ⟨none, 0, rfl, fun h => absurd rfl h, Nat.le_refl _, fun _ h => by cases h⟩
  · refine ⟨some ⟨g, 0, none⟩, cap, rfl, fun _ => ⟨g, 0, rfl, fun j hj => ?_⟩, hnc, fun a ha => ?_⟩
    · have := hc g rfl j _ (c8_get bs j hj)
      rwa [Addr.add_mid] at this
    · cases ha; exact hlt g rfl
theorem BytesAt.below {w w' : World} {B : Nat} {ao : Option Addr} {bs : List UInt8} (h : BytesAt w ao bs) (hb : Below B w w') (hl : ∀ a, ao = some a → bs ≠ [] → a.block < B) : BytesAt w' ao bs := fun hn => by
  obtain ⟨b, o, rfl, hc⟩ := h hn
  exact ⟨b, o, rfl, fun j hj => by rw [hb.cell (p := ⟨b, o + j, none⟩) (hl ⟨b, o, none⟩ rfl hn)]; exact hc j hj⟩
theorem Own.conv {w : World} {base : Nat} {v : Value} {bs : List UInt8} (h : Own w base v bs) : (convert 26 9 v).run Try.prog w = .ok (.string (strOf bs)) w := by
  obtain ⟨ao, cap, rfl, hb, _⟩ := h.at
  exact conv_at cap hb
theorem Own.below {w w' : World} {base B : Nat} {v : Value} {bs : List UInt8} (h : Own w base v bs) (hb : Below B w w') (hB : w.heap.size ≤ B) : Own w' base v bs := by
  refine ⟨h.1, ?_⟩
  rcases h.2 with hn | ⟨g, cap, cur, rfl, h1, h2, rest⟩
  · exact .inl hn
  · refine .inr ⟨g, cap, cur, rfl, h1, ?_, rest⟩
    have := (Array.getElem?_eq_some_iff.1 h2).1
    rw [hb.block g (by omega)]; exact h2
theorem Own.mono {w : World} {base base' : Nat} {v : Value} {bs : List UInt8} (h : Own w base v bs) (hb : base' ≤ base) : Own w base' v bs := by
  refine ⟨h.1, ?_⟩
  rcases h.2 with hn | ⟨g, cap, cur, rfl, h1, rest⟩
  · exact .inl hn
  · exact .inr ⟨g, cap, cur, rfl, by omega, rest⟩
theorem bytes5 : (Try.prog.info? 5).map (fun i => (i.zero, i.size, i.bytes)) = some (some (.int .u8 0), 1, 1) := by kernel_rfl
theorem made_zero (c : Nat) : madeCells (Value.cells (.int .u8 0)) c = (c8 (List.replicate c 0)).toArray := by
  apply Array.ext_getElem?
  intro i
  simp only [madeCells, c8, List.map_replicate]
  by_cases h : i < c
  · simp [h, Value.cells, Nat.mod_one]
  · simp [h]
theorem make_bytes (W : World) (l c : Nat) (hlc : l ≤ c) (hc : c ≤ 281474976710656) :
    (Instr.makeSlice 26 (.int .i64 (l : Int)) (.int .i64 (c : Int))).run Try.prog W = .ok (.slice (some ⟨W.heap.size, 0, none⟩) l c) (W.alloc (.cells (c8 (List.replicate c 0)).toArray 5)) := by
  obtain ⟨i, hi, hz⟩ := Option.map_eq_some_iff.1 bytes5
  simp only [Prod.mk.injEq] at hz
  obtain ⟨hz, hs, hb⟩ := hz
  have := run_make (P := Try.prog) W 26 5 i (.int .u8 0) Try.underlying26 hi hz .i64 .i64 l c (by omega) (by omega) (by rw [hb]; omega) (by omega)
  rw [this, hs, Nat.mul_one, Int.toNat_natCast, Int.toNat_natCast, made_zero]
theorem Own.made (w : World) (c : Nat) (hc : c ≤ maxLen) : Own (w.alloc (.cells (c8 (List.replicate c 0)).toArray 5)) w.heap.size (.slice (some ⟨w.heap.size, 0, none⟩) 0 c) [] :=
  World.ownsRow_made w _ c (Nat.le_refl _) hc (by simp [c8])
/-- Nothing old has turned, when the row that grew is new. -/
theorem below_grown {w w1 w2 : World} {B : Nat} {row : Option Nat} (h : Below B w w1) (hg : w1.grownBy w2 row) (hr : ∀ k, row = some k → B ≤ k) (hB : B ≤ w1.heap.size) : Below B w w2 :=
  ⟨hg.os.trans h.os, hg.tape.trans h.tape, hg.output.trans h.output, Nat.le_trans h.size hg.size, fun k hk => (hg.block k (by omega) (fun e => by have := hr k e.symm; omega)).trans (h.block k hk)⟩
/-- append(own, b...), b a slice whose bytes are known. -/
theorem wpList_append_bytes {w : World} {ops : Array Oper} {rest : List Oper} {o : Oper} {a : Act} {Q : Exit → Act → World → Prop} (hgd : o.guard = none) (s x : Operand)
    (ho : o.op = .call { callee := .builtin .append, args := #[s, x], argTypes := #[26, 26] })
    (base : Nat) (v : Value) (bs : List UInt8) (hs : a.eval s = v) (hown : Own w base v bs)
    (ad : Addr) (c : Nat) (news : List UInt8) (hx : a.eval x = .slice (some ad) news.length c) (hnews : BytesAt w (some ad) news)
    (hbytes : bs.length + news.length ≤ 140737488355328) (hbase : base ≤ w.heap.size)
    (h : ∀ v' w', Own w' base v' (bs ++ news) → w.grownBy w' v.ownBlock → wpList Try.prog ops Q rest (a.put o.dst v') w') : wpList Try.prog ops Q (o :: rest) a w := by
  obtain ⟨i, hi, hz⟩ := Option.map_eq_some_iff.1 bytes5
  simp only [Prod.mk.injEq] at hz
  obtain ⟨hz, hsz, hby⟩ := hz
  refine wpList_append_own w hgd s x 26 ho base 5 i (.int .u8 0) 1 1 Try.underlying26 hi hz hsz hby rfl (by omega) v bs.length (c8 bs) hs hown ad news.length c (c8 news) hx (by simp [c8_len]) ?_ (c8_one _) (by unfold maxLen; omega) (by omega) hbase ?_
  · intro j u hu
    have hj := (List.getElem?_eq_some_iff.1 hu).1
    rw [c8_len] at hj
    obtain ⟨b, o, he, hc⟩ := hnews (by intro h; simp [h] at hj)
    cases he
    rw [c8_get news j hj] at hu
    rw [Addr.add_mid, hc j hj, hu]
  · intro v' w' h1 h2 _
    exact h v' w' (by unfold Own; rw [c8_append, List.length_append]; exact h1) h2
theorem BytesAt.one (w : World) (b : UInt8) : BytesAt (w.alloc (.cells #[.int .u8 (b.toNat : Int)] 5)) (some ⟨w.heap.size, 0, none⟩) [b] := fun _ =>
  ⟨w.heap.size, 0, rfl, fun j hj => by
    obtain rfl : j = 0 := by simpa using hj
    rw [cell_of_row _ _ _ _ _ _ (heap_alloc_new w _)]; simp⟩
end Go.Proofs.Ytgcgblecendijaa.LB
