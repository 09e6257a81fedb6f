/-
  A ROW OF THE CALL'S OWN THAT HOLDS BYTES; append to it; string(b).
-/
import Derived.Test.YtpnhklefoafgkaaDoorSame
import Derived.Lib.AppendStr
import Derived.Deep.Upon
namespace Go.Proofs.YtpnhklefoafgkaaDoor
open Go.RowKit Sha
theorem c8_append (l m : List UInt8) : c8 (l ++ m) = c8 l ++ c8 m := by simp [c8]
theorem conv_at {W : World} {ao : Option Addr} {bs : List UInt8} (cap : Nat) (h : BytesAt W ao bs) :
    (convert 22 9 (.slice ao bs.length cap)).run Tryd.prog W = .ok (.string (strOf bs)) W := by
  rw [run_convert_bytes_string W 22 9 5 _ _ _ Tryd.underlying22 Tryd.underlying5 Tryd.underlying9]
  have step : ∀ ad : Addr, (∀ (j : Nat) (v : Value), (c8 bs)[j]? = some v → W.cell? (ad.add j) = some v) → (Conv.bytesToString (.slice (some ad) bs.length cap)).run Tryd.prog W = .ok (.string (strOf bs)) W := fun ad hc => by
    have hl := run_loadCells_list (P := Tryd.prog) W ad (c8 bs) hc
    rw [c8_len] at hl
    have e : c8 bs = (bs.map fun b => (b.toNat : Int)).map (Value.int .u8) := by simp [c8]
    rw [e] at hl
    rw [run_bytesToString W _ _ _ _ hl]
    have := foldl_push bs []
    simp only [List.nil_append] at this
    rw [show ByteArray.empty = strOf [] from rfl, this]
  by_cases hn : bs = []
  · subst hn
    cases ao with
    | none => simp [Conv.bytesToString, strOf]; rfl
    | some ad => exact step ad (fun j v hv => by simp [c8] at hv)
  · obtain ⟨b, o, rfl, hc⟩ := h hn
    refine step _ (fun j v hv => ?_)
    have hj := (List.getElem?_eq_some_iff.1 hv).1
    rw [c8_len] at hj
    rw [c8_get bs j hj] at hv
    rw [Addr.add_mid, hc j hj, hv]
def Own (w : World) (base : Nat) (v : Value) (bs : List UInt8) : Prop := w.ownsRow base 5 1 v bs.length (c8 bs)
theorem Own.nil (w : World) (base : Nat) : Own w base (.slice none 0 0) [] := World.ownsRow_nil w base 5 1
theorem Own.at {w : World} {base : Nat} {v : Value} {bs : List UInt8} (h : Own w base v bs) : ∃ ao cap, v = .slice ao bs.length cap ∧ BytesAt w ao bs ∧ bs.length ≤ cap ∧ (∀ a, ao = some a → base ≤ a.block ∧ a.block < w.heap.size) := by
  have hlt := World.ownsRow.lt h
  have hc := fun g hg => World.ownsRow.cells (g := g) h hg
  rcases h.2 with ⟨rfl, h0⟩ | ⟨g, cap, cur, rfl, hb, hg, hnc, _, hcs, ht⟩
  · obtain rfl : bs = [] := List.eq_nil_of_length_eq_zero h0
    exact ⟨none, 0, rfl, fun h => absurd rfl h, Nat.le_refl _, fun _ h => by cases h⟩
  · refine ⟨some ⟨g, 0, none⟩, cap, rfl, fun _ => ⟨g, 0, rfl, fun j hj => ?_⟩, hnc, fun a ha => ?_⟩
    · have := hc g rfl j _ (c8_get bs j hj)
      rwa [Addr.add_mid] at this
    · cases ha; exact hlt g rfl
theorem BytesAt.below {w w' : World} {B : Nat} {ao : Option Addr} {bs : List UInt8} (h : BytesAt w ao bs) (hb : Below B w w') (hl : ∀ a, ao = some a → bs ≠ [] → a.block < B) : BytesAt w' ao bs := fun hn => by
  obtain ⟨b, o, rfl, hc⟩ := h hn
  exact ⟨b, o, rfl, fun j hj => by rw [hb.cell (p := ⟨b, o + j, none⟩) (hl ⟨b, o, none⟩ rfl hn)]; exact hc j hj⟩
theorem Own.conv {w : World} {base : Nat} {v : Value} {bs : List UInt8} (h : Own w base v bs) : (convert 22 9 v).run Tryd.prog w = .ok (.string (strOf bs)) w := by
  obtain ⟨ao, cap, rfl, hb, _⟩ := h.at
  exact conv_at cap hb
theorem Own.below {w w' : World} {base B : Nat} {v : Value} {bs : List UInt8} (h : Own w base v bs) (hb : Below B w w') (hB : w.heap.size ≤ B) : Own w' base v bs := by
  refine ⟨h.1, ?_⟩
  rcases h.2 with hn | ⟨g, cap, cur, rfl, h1, h2, rest⟩
  · exact .inl hn
  · refine .inr ⟨g, cap, cur, rfl, h1, ?_, rest⟩
    have := (Array.getElem?_eq_some_iff.1 h2).1
    rw [hb.block g (by omega)]; exact h2
theorem Own.mono {w : World} {base base' : Nat} {v : Value} {bs : List UInt8} (h : Own w base v bs) (hb : base' ≤ base) : Own w base' v bs := by
  refine ⟨h.1, ?_⟩
  rcases h.2 with hn | ⟨g, cap, cur, rfl, h1, rest⟩
  · exact .inl hn
  · exact .inr ⟨g, cap, cur, rfl, by omega, rest⟩
theorem below_grown {w w1 w2 : World} {B : Nat} {row : Option Nat} (h : Below B w w1) (hg : w1.grownBy w2 row) (hr : ∀ k, row = some k → B ≤ k) (hB : B ≤ w1.heap.size) : Below B w w2 :=
  ⟨hg.os.trans h.os, hg.tape.trans h.tape, hg.output.trans h.output, Nat.le_trans h.size hg.size, fun k hk => (hg.block k (by omega) (fun e => by have := hr k e.symm; omega)).trans (h.block k hk)⟩
theorem wpList_append_bytes {w : World} {ops : Array Oper} {rest : List Oper} {o : Oper} {a : Act} {Q : Exit → Act → World → Prop} (hgd : o.guard = none) (s x : Operand)
    (ho : o.op = .call { callee := .builtin .append, args := #[s, x], argTypes := #[22, 22] })
    (base : Nat) (v : Value) (bs : List UInt8) (hs : a.eval s = v) (hown : Own w base v bs)
    (ad : Addr) (c : Nat) (news : List UInt8) (hx : a.eval x = .slice (some ad) news.length c) (hnews : BytesAt w (some ad) news)
    (hbytes : bs.length + news.length ≤ 140737488355328) (hbase : base ≤ w.heap.size)
    (h : ∀ v' w', Own w' base v' (bs ++ news) → w.grownBy w' v.ownBlock → wpList Tryd.prog ops Q rest (a.put o.dst v') w') : wpList Tryd.prog ops Q (o :: rest) a w := by
  obtain ⟨i, hi, hz⟩ := Option.map_eq_some_iff.1 bytes5
  simp only [Prod.mk.injEq] at hz
  obtain ⟨hz, hsz, hby⟩ := hz
  refine wpList_append_own w hgd s x 22 ho base 5 i (.int .u8 0) 1 1 Tryd.underlying22 hi hz hsz hby rfl (by omega) v bs.length (c8 bs) hs hown ad news.length c (c8 news) hx (by simp [c8_len]) ?_ (c8_one _) (by unfold maxLen; omega) (by omega) hbase ?_
  · intro j u hu
    have hj := (List.getElem?_eq_some_iff.1 hu).1
    rw [c8_len] at hj
    obtain ⟨b, o, he, hc⟩ := hnews (by intro h; simp [h] at hj)
    cases he
    rw [c8_get news j hj] at hu
    rw [Addr.add_mid, hc j hj, hu]
  · intro v' w' h1 h2 _
    exact h v' w' (by unfold Own; rw [c8_append, List.length_append]; exact h1) h2
theorem BytesAt.one (w : World) (b : UInt8) : BytesAt (w.alloc (.cells #[.int .u8 (b.toNat : Int)] 5)) (some ⟨w.heap.size, 0, none⟩) [b] := fun _ =>
  ⟨w.heap.size, 0, rfl, fun j hj => by
    obtain rfl : j = 0 := by simpa using hj
    rw [cell_of_row _ _ _ _ _ _ (heap_alloc_new w _)]; simp⟩
theorem Own.fresh (w : World) : Own (w.alloc (.cells #[] 5)) w.heap.size (.slice (some ⟨w.heap.size, 0, none⟩) 0 0) [] :=
  World.ownsRow_made w #[] 0 (Nat.le_refl _) (by decide) rfl
theorem wpList_append_any {w : World} {ops : Array Oper} {rest : List Oper} {o : Oper} {a : Act} {Q : Exit → Act → World → Prop} (hgd : o.guard = none) (s x : Operand)
    (ho : o.op = .call { callee := .builtin .append, args := #[s, x], argTypes := #[22, 22] })
    (base : Nat) (v : Value) (bs : List UInt8) (hs : a.eval s = v) (hown : Own w base v bs)
    (ao : Option Addr) (c : Nat) (news : List UInt8) (k : Nat) (hk : news.length = k) (hx : a.eval x = .slice ao k c) (hnews : BytesAt w ao news)
    (hbytes : bs.length + news.length ≤ 140737488355328) (hbase : base ≤ w.heap.size)
    (h : ∀ v' w', Own w' base v' (bs ++ news) → w.grownBy w' v.ownBlock → wpList Tryd.prog ops Q rest (a.put o.dst v') w') : wpList Tryd.prog ops Q (o :: rest) a w := by
  subst hk
  cases ao with
  | some ad => exact wpList_append_bytes hgd s x ho base v bs hs hown ad c news hx hnews hbytes hbase h
  | none =>
    obtain rfl : news = [] := Classical.byContradiction fun hn => by obtain ⟨b, o, he, _⟩ := hnews hn; cases he
    rw [List.append_nil] at h
    obtain ⟨i, hi, hz⟩ := Option.map_eq_some_iff.1 bytes5
    simp only [Prod.mk.injEq] at hz
    have hk := h v w hown ⟨rfl, rfl, rfl, Nat.le_refl _, fun _ _ _ => rfl⟩
    obtain ⟨ao', cap', hv, _, hle, _⟩ := hown.at
    refine wpList_plain hgd fun K hK => ?_
    have hr := run_append_nothing (P := Tryd.prog) w 22 22 o.type 5 i Tryd.underlying22 hi ao' bs.length cap' hle (.slice none 0 c) (Src.ofNil w Tryd.underlying22 c)
    unfold Oper.wp execOp
    rw [← hv] at hr
    simp only [List.length_nil] at hx
    simp only [ho, resolve, invoke, builtin, Sem.run_bind, Sem.run_pure, Result.andThen_ok, List.map_toArray, List.map_cons, List.map_nil, hs, hx, hr]
    exact hK _ _ hk
def After (W w : World) : Prop := Below W.heap.size W w
theorem After.refl (W : World) : After W W := Below.refl _ _
theorem After.trans {a b c : World} (h : After a b) (k : After b c) : After a c := Below.trans h (Below.mono k h.size)
theorem After.drew {a b : World} (h : After a b) : After a b.drew := Below.drew h
theorem after_grown {w1 w2 : World} {B : Nat} {row : Option Nat} {w : World} (h : After w w1) (hg : w1.grownBy w2 row) (hB : w.heap.size ≤ B) (hr : ∀ k, row = some k → B ≤ k) : After w w2 :=
  below_grown h hg (fun k hk => by have := hr k hk; omega) h.size
theorem after_alloc {w w1 : World} (h : After w w1) (o : Obj) : After w (w1.alloc o) := Below.alloc h h.size _
theorem BytesAt.after {w w' : World} {ao : Option Addr} {bs : List UInt8} (h : BytesAt w ao bs) (hb : After w w') : BytesAt w' ao bs := fun hn => by
  obtain ⟨b, o, rfl, hc⟩ := h hn
  exact ⟨b, o, rfl, fun j hj => by rw [Below.cell hb (p := ⟨b, o + j, none⟩) (block_lt_of_cell (hc j hj))]; exact hc j hj⟩
end Go.Proofs.YtpnhklefoafgkaaDoor
