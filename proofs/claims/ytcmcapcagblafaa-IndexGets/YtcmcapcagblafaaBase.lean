/-
  SMALL LAWS: bytes as cells; a row of the call's own; slices; regions that draw their order, walked by hand.
-/
import Derived.Test.YtcmcapcagblafaaRows
import Derived.WalkKit
import Derived.WalkSpells
import Derived.WalkLawsBesides
import Derived.Lib.AppendStr
import Derived.Lib.Strings
import Derived.Lib.Slices
import Derived.Deep.RegionHeld3
import Derived.Deep.Upon
import Derived.ChangeKeysEq
import Derived.Laws.Bits64b
namespace Go.Proofs.Ytcmcapcagblafaa
open Go.RowKit
def c8 (l : List UInt8) : List Value := l.map fun b => .int .u8 (b.toNat : Int)
theorem c8_len (l : List UInt8) : (c8 l).length = l.length := by simp [c8]
theorem c8_get (l : List UInt8) (j : Nat) (h : j < l.length) : (c8 l)[j]? = some (.int .u8 ((l.getD j 0).toNat : Int)) := by
  simp [c8, h]
theorem c8_one (l : List UInt8) : ∀ v ∈ c8 l, v.oneCell' = true := by
  intro v hv; simp only [c8, List.mem_map] at hv; obtain ⟨b, _, rfl⟩ := hv; rfl
theorem c8_append (l m : List UInt8) : c8 (l ++ m) = c8 l ++ c8 m := by simp [c8]
def strOf (l : List UInt8) : ByteArray := ⟨l.toArray⟩
theorem strOf_size (l : List UInt8) : (strOf l).size = l.length := by simp [strOf, ByteArray.size]
theorem strOf_inj {a b : List UInt8} : strOf a = strOf b ↔ a = b := by simp [strOf]
theorem foldl_push (l : List UInt8) : ∀ s : List UInt8, (l.map fun b => (b.toNat : Int)).foldl (fun r n => r.push (UInt8.ofNat n.toNat)) (strOf s) = strOf (s ++ l) := by
  induction l with
  | nil => intro s; simp
  | cons b l ih =>
    intro s
    simp only [List.map_cons, List.foldl_cons, Int.toNat_natCast]
    have e : (strOf s).push (UInt8.ofNat b.toNat) = strOf (s ++ [b]) := by simp [strOf, ByteArray.push]
    rw [e, ih]; simp
/-- The bytes bs lie at a slice's head. -/
def BytesAt (w : World) (ao : Option Addr) (bs : List UInt8) : Prop := bs ≠ [] → ∃ b o, ao = some ⟨b, o, none⟩ ∧ ∀ j, j < bs.length → w.cell? ⟨b, o + j, none⟩ = some (.int .u8 ((bs.getD j 0).toNat : Int))
theorem conv_at {W : World} {ao : Option Addr} {bs : List UInt8} (cap : Nat) (h : BytesAt W ao bs) :
    (convert 26 9 (.slice ao bs.length cap)).run Try.prog W = .ok (.string (strOf bs)) W := by
  rw [run_convert_bytes_string W 26 9 5 _ _ _ Try.underlying26 Try.underlying5 Try.underlying9]
  have step : ∀ ad : Addr, (∀ (j : Nat) (v : Value), (c8 bs)[j]? = some v → W.cell? (ad.add j) = some v) → (Conv.bytesToString (.slice (some ad) bs.length cap)).run Try.prog W = .ok (.string (strOf bs)) W := fun ad hc => by
    have hl := run_loadCells_list (P := Try.prog) W ad (c8 bs) hc
    rw [c8_len] at hl
    have e : c8 bs = (bs.map fun b => (b.toNat : Int)).map (Value.int .u8) := by simp [c8]
    rw [e] at hl
    rw [run_bytesToString W _ _ _ _ hl]
    have := foldl_push bs []
    simp only [List.nil_append] at this
    rw [show ByteArray.empty = strOf [] from rfl, this]
  by_cases hn : bs = []
  · subst hn
    cases ao with
    | none => simp [Conv.bytesToString, strOf]; rfl
    | some ad => exact step ad (fun j v hv => by simp [c8] at hv)
  · obtain ⟨b, o, rfl, hc⟩ := h hn
    refine step _ (fun j v hv => ?_)
    have hj := (List.getElem?_eq_some_iff.1 hv).1
    rw [c8_len] at hj
    rw [c8_get bs j hj] at hv
    rw [Addr.add_mid, hc j hj, hv]
/-- A row of the call's own that holds bytes. -/
def Own (w : World) (base : Nat) (v : Value) (bs : List UInt8) : Prop := w.ownsRow base 5 1 v bs.length (c8 bs)
theorem Own.nil (w : World) (base : Nat) : Own w base (.slice none 0 0) [] := World.ownsRow_nil w base 5 1
theorem Own.at {w : World} {base : Nat} {v : Value} {bs : List UInt8} (h : Own w base v bs) : ∃ ao cap, v = .slice ao bs.length cap ∧ BytesAt w ao bs ∧ bs.length ≤ cap ∧ (∀ a, ao = some a → base ≤ a.block ∧ a.block < w.heap.size) := by
  have hlt := World.ownsRow.lt h
  have hc := fun g hg => World.ownsRow.cells (g := g) h hg
  rcases h.2 with ⟨rfl, h0⟩ | ⟨g, cap, cur, rfl, hb, hg, hnc, _, hcs, ht⟩
  · obtain rfl : bs = [] := List.eq_nil_of_length_eq_zero h0
    exact ⟨none, 0, rfl, fun h => absurd rfl h, Nat.le_refl _, fun _ h => by cases h⟩
  · refine ⟨some ⟨g, 0, none⟩, cap, rfl, fun _ => ⟨g, 0, rfl, fun j hj => ?_⟩, hnc, fun a ha => ?_⟩
    · have := hc g rfl j _ (c8_get bs j hj)
      rwa [Addr.add_mid] at this
    · cases ha; exact hlt g rfl
theorem BytesAt.below {w w' : World} {B : Nat} {ao : Option Addr} {bs : List UInt8} (h : BytesAt w ao bs) (hb : Below B w w') (hl : ∀ a, ao = some a → bs ≠ [] → a.block < B) : BytesAt w' ao bs := fun hn => by
  obtain ⟨b, o, rfl, hc⟩ := h hn
  exact ⟨b, o, rfl, fun j hj => by rw [hb.cell (p := ⟨b, o + j, none⟩) (hl ⟨b, o, none⟩ rfl hn)]; exact hc j hj⟩
theorem Own.conv {w : World} {base : Nat} {v : Value} {bs : List UInt8} (h : Own w base v bs) : (convert 26 9 v).run Try.prog w = .ok (.string (strOf bs)) w := by
  obtain ⟨ao, cap, rfl, hb, _⟩ := h.at
  exact conv_at cap hb
theorem Own.below {w w' : World} {base B : Nat} {v : Value} {bs : List UInt8} (h : Own w base v bs) (hb : Below B w w') (hB : w.heap.size ≤ B) : Own w' base v bs := by
  refine ⟨h.1, ?_⟩
  rcases h.2 with hn | ⟨g, cap, cur, rfl, h1, h2, rest⟩
  · exact .inl hn
  · refine .inr ⟨g, cap, cur, rfl, h1, ?_, rest⟩
    have := (Array.getElem?_eq_some_iff.1 h2).1
    rw [hb.block g (by omega)]; exact h2
theorem Own.mono {w : World} {base base' : Nat} {v : Value} {bs : List UInt8} (h : Own w base v bs) (hb : base' ≤ base) : Own w base' v bs := by
  refine ⟨h.1, ?_⟩
  rcases h.2 with hn | ⟨g, cap, cur, rfl, h1, rest⟩
  · exact .inl hn
  · exact .inr ⟨g, cap, cur, rfl, by omega, rest⟩
theorem bytes5 : (Try.prog.info? 5).map (fun i => (i.zero, i.size, i.bytes)) = some (some (.int .u8 0), 1, 1) := by kernel_rfl
theorem made_zero (c : Nat) : madeCells (Value.cells (.int .u8 0)) c = (c8 (List.replicate c 0)).toArray := by
  apply Array.ext_getElem?
  intro i
  simp only [madeCells, c8, List.map_replicate]
  by_cases h : i < c
  · simp [h, Value.cells, Nat.mod_one]
  · simp [h]
theorem make_bytes (W : World) (l c : Nat) (hlc : l ≤ c) (hc : c ≤ 281474976710656) :
    (Instr.makeSlice 26 (.int .i64 (l : Int)) (.int .i64 (c : Int))).run Try.prog W = .ok (.slice (some ⟨W.heap.size, 0, none⟩) l c) (W.alloc (.cells (c8 (List.replicate c 0)).toArray 5)) := by
  obtain ⟨i, hi, hz⟩ := Option.map_eq_some_iff.1 bytes5
  simp only [Prod.mk.injEq] at hz
  obtain ⟨hz, hs, hb⟩ := hz
  have := run_make (P := Try.prog) W 26 5 i (.int .u8 0) Try.underlying26 hi hz .i64 .i64 l c (by omega) (by omega) (by rw [hb]; omega) (by omega)
  rw [this, hs, Nat.mul_one, Int.toNat_natCast, Int.toNat_natCast, made_zero]
theorem Own.made (w : World) (c : Nat) (hc : c ≤ maxLen) : Own (w.alloc (.cells (c8 (List.replicate c 0)).toArray 5)) w.heap.size (.slice (some ⟨w.heap.size, 0, none⟩) 0 c) [] :=
  World.ownsRow_made w _ c (Nat.le_refl _) hc (by simp [c8])
/-- Nothing old has turned, when the row that grew is new. -/
theorem below_grown {w w1 w2 : World} {B : Nat} {row : Option Nat} (h : Below B w w1) (hg : w1.grownBy w2 row) (hr : ∀ k, row = some k → B ≤ k) (hB : B ≤ w1.heap.size) : Below B w w2 :=
  ⟨hg.os.trans h.os, hg.tape.trans h.tape, hg.output.trans h.output, Nat.le_trans h.size hg.size, fun k hk => (hg.block k (by omega) (fun e => by have := hr k e.symm; omega)).trans (h.block k hk)⟩
/-- append(own, b...), b a slice whose bytes are known. -/
theorem wpList_append_bytes {w : World} {ops : Array Oper} {rest : List Oper} {o : Oper} {a : Act} {Q : Exit → Act → World → Prop} (hgd : o.guard = none) (s x : Operand)
    (ho : o.op = .call { callee := .builtin .append, args := #[s, x], argTypes := #[26, 26] })
    (base : Nat) (v : Value) (bs : List UInt8) (hs : a.eval s = v) (hown : Own w base v bs)
    (ad : Addr) (c : Nat) (news : List UInt8) (hx : a.eval x = .slice (some ad) news.length c) (hnews : BytesAt w (some ad) news)
    (hbytes : bs.length + news.length ≤ 140737488355328) (hbase : base ≤ w.heap.size)
    (h : ∀ v' w', Own w' base v' (bs ++ news) → w.grownBy w' v.ownBlock → wpList Try.prog ops Q rest (a.put o.dst v') w') : wpList Try.prog ops Q (o :: rest) a w := by
  obtain ⟨i, hi, hz⟩ := Option.map_eq_some_iff.1 bytes5
  simp only [Prod.mk.injEq] at hz
  obtain ⟨hz, hsz, hby⟩ := hz
  refine wpList_append_own w hgd s x 26 ho base 5 i (.int .u8 0) 1 1 Try.underlying26 hi hz hsz hby rfl (by omega) v bs.length (c8 bs) hs hown ad news.length c (c8 news) hx (by simp [c8_len]) ?_ (c8_one _) (by unfold maxLen; omega) (by omega) hbase ?_
  · intro j u hu
    have hj := (List.getElem?_eq_some_iff.1 hu).1
    rw [c8_len] at hj
    obtain ⟨b, o, he, hc⟩ := hnews (by intro h; simp [h] at hj)
    cases he
    rw [c8_get news j hj] at hu
    rw [Addr.add_mid, hc j hj, hu]
  · intro v' w' h1 h2 _
    exact h v' w' (by unfold Own; rw [c8_append, List.length_append]; exact h1) h2
theorem BytesAt.one (w : World) (b : UInt8) : BytesAt (w.alloc (.cells #[.int .u8 (b.toNat : Int)] 5)) (some ⟨w.heap.size, 0, none⟩) [b] := fun _ =>
  ⟨w.heap.size, 0, rfl, fun j hj => by
    obtain rfl : j = 0 := by simpa using hj
    rw [cell_of_row _ _ _ _ _ _ (heap_alloc_new w _)]; simp⟩
/-- Nothing of W has turned. -/
def After (W w : World) : Prop := Below W.heap.size W w
theorem After.refl (W : World) : After W W := Below.refl _ _
theorem After.trans {a b c : World} (h : After a b) (k : After b c) : After a c := Below.trans h (Below.mono k h.size)
theorem After.drew {a b : World} (h : After a b) : After a b.drew := Below.drew h
theorem turnH {P : Program} {md : Region.Mode} {ops : Array Oper} {Q : Exit → Act → World → Prop} {S T : World → Prop} (h : ∀ w, T w → S w) :
    ∀ (fuel : Nat) (listed : Array Bool) (a : Act) (w : World), wpAnyH P md ops Q T fuel listed a w → wpAnyH P md ops Q S fuel listed a w
  | 0, _, _, _, k => k
  | fuel + 1, _, _, _, k => ⟨k.1, fun i hi => wpOp_mono (fun a' w' k' => ⟨h _ k'.1, turnH h fuel _ a' w' k'.2⟩) (k.2 i hi)⟩
section
variable {ops : Array Oper} {Q : Exit → Act → World → Prop} {S : World → Prop} {fuel : Nat} {listed : Array Bool} {a : Act} {w W : World} {oi : Oper}
/-- Number i is taken first: it yields v, into slot d. -/
theorem tk (i d : Nat) (v : Value) (hi : ops[i]? = some oi) (hd : oi.dst = some d) (hs : Region.noSelect ops = true) (hf : Region.free .any ops listed i = true) (hr : (Region.ready .any ops listed).contains i = true)
    (hQ : ∀ c a w, Q (.panic c) a w → False) (hw : Region.wanted oi (yielded ops a.tmps) = true) (hx : ∀ w, S w → (execOp a.eval oi).run Try.prog w = .ok (.value v) w) (hS : S w)
    (h : wpAnyH Try.prog .any ops Q S fuel (listed.setIfInBounds i true) (a.put (some d) v) w) : wpAnyH Try.prog .any ops Q S (fuel + 1) listed a w :=
  wpAnyH_take hi hs hf hr (fun c a w h => (hQ c _ w h).elim) (.inl ⟨hw, hx⟩) hS (by rw [hd]; exact h)
/-- Number i's guard says no. -/
theorem tkSkip (i d : Nat) (hi : ops[i]? = some oi) (hd : oi.dst = some d) (hs : Region.noSelect ops = true) (hf : Region.free .any ops listed i = true) (hr : (Region.ready .any ops listed).contains i = true)
    (hQ : ∀ c a w, Q (.panic c) a w → False) (hw : Region.wanted oi (yielded ops a.tmps) = false) (hS : S w)
    (h : wpAnyH Try.prog .any ops Q S fuel (listed.setIfInBounds i true) (a.put (some d) undef) w) : wpAnyH Try.prog .any ops Q S (fuel + 1) listed a w :=
  wpAnyH_take hi hs hf hr (fun c a w h => (hQ c _ w h).elim) (.inr ⟨hw, rfl⟩) hS (by rw [hd]; exact h)
/-- Number i is a call, by its contract; nothing else may come up; from then on the world behind it is kept. -/
theorem tkCall (i d : Nat) (f : FuncId) (args : Array Value) (R : Value → World → Prop) (hi : ops[i]? = some oi) (hd : oi.dst = some d) (hr : Region.ready .any ops listed = [i])
    (hw : Region.wanted oi (yielded ops a.tmps) = true) (hrun : ∀ w, (execOp a.eval oi).run Try.prog w = .ok (.enter f args) w) (hS : After W w)
    (hc : Calls Try.prog f args w fun e w' => ∃ v, e = .returned v ∧ R v w' ∧ Below w.heap.size w w')
    (h : ∀ v w', R v w' → After w w' → wpAnyH Try.prog .any ops Q (After w') fuel (listed.setIfInBounds i true) (a.put (some d) v) w') : wpAnyH Try.prog .any ops Q (After W) (fuel + 1) listed a w :=
  wpAnyH_all hr (by simp) (fun j hj => by
    obtain rfl : j = i := by simpa using hj
    refine wpOp_step hi (fun K' hK => ?_)
    rw [if_pos hw]
    unfold Oper.wp
    rw [hrun, Oper.upon_enter]
    refine hc.mono (fun e w' ⟨v, he, hr, hb⟩ => ?_)
    subst he
    rw [hd]
    exact hK _ _ ⟨hS.trans hb, turnH (fun w hw => (hS.trans hb).trans hw) _ _ _ _ (h v w' hr hb)⟩)
theorem noPanic_false {Q : Exit → Act → World → Prop} : ∀ c a w, NoPanic Q (.panic c) a w → False := fun _ _ _ h => h
theorem x_conv {o : Oper} {a : Act} {x : Operand} {v : Value} {s : ByteArray} {w : World} (hop : o.op = .convert 26 9 x) (hx : a.eval x = v) (h : (convert 26 9 v).run Try.prog w = .ok (.string s) w) : (execOp a.eval o).run Try.prog w = .ok (.value (.string s)) w := by
  unfold execOp
  simp only [hop, hx, Sem.run_bind, h, Result.andThen_ok]
  rfl
theorem x_streq {o : Oper} {a : Act} {x y : Operand} {s t : ByteArray} {w : World} (hop : o.op = .binOp .eql 9 x y 9) (hx : a.eval x = .string s) (hy : a.eval y = .string t) (h : s = t) : (execOp a.eval o).run Try.prog w = .ok (.value (.bool true)) w := by
  subst h
  unfold execOp
  simp only [hop, hx, hy]
  simp [go_sem]
end
theorem strCells_of (s : List UInt8) : Lib.strCells (strOf s) = c8 s := by simp [Lib.strCells, strOf, c8]
theorem wpList_append_text {w : World} {ops : Array Oper} {rest : List Oper} {o : Oper} {a : Act} {Q : Exit → Act → World → Prop} (hgd : o.guard = none) (sl x : Operand)
    (ho : o.op = .call { callee := .builtin .append, args := #[sl, x], argTypes := #[26, 9] })
    (base : Nat) (v : Value) (bs : List UInt8) (hs : a.eval sl = v) (hown : Own w base v bs) (s : List UInt8) (hx : a.eval x = .string (strOf s))
    (hbytes : bs.length + s.length ≤ 140737488355328) (hbase : base ≤ w.heap.size)
    (h : ∀ v' w', Own w' base v' (bs ++ s) → w.grownBy w' v.ownBlock → wpList Try.prog ops Q rest (a.put o.dst v') w') : wpList Try.prog ops Q (o :: rest) a w := by
  obtain ⟨i, hi, hz⟩ := Option.map_eq_some_iff.1 bytes5
  simp only [Prod.mk.injEq] at hz
  obtain ⟨hz, hsz, hby⟩ := hz
  refine Lib.wpList_append_own_string w hgd sl x 26 9 ho base 5 i Try.underlying26 Try.underlying9 hi hz hsz hby v bs.length (c8 bs) hs hown (strOf s) hx (by rw [strOf_size]; unfold maxLen; omega) (by rw [strOf_size]; exact hbytes) hbase ?_
  intro v' w' h1 h2 _
  rw [strOf_size, strCells_of, ← c8_append, ← List.length_append] at h1
  exact h v' w' h1 h2
theorem strOf_toList (l : List UInt8) : (strOf l).toList = l := by
  rw [Lib.toList_data]
  rfl
theorem BytesAt.after {w w' : World} {ao : Option Addr} {bs : List UInt8} (h : BytesAt w ao bs) (hb : After w w') : BytesAt w' ao bs := fun hn => by
  obtain ⟨b, o, rfl, hc⟩ := h hn
  exact ⟨b, o, rfl, fun j hj => by rw [Below.cell hb (p := ⟨b, o + j, none⟩) (block_lt_of_cell (hc j hj))]; exact hc j hj⟩
theorem BytesAt.take {w : World} {ao : Option Addr} {bs : List UInt8} (h : BytesAt w ao bs) (k : Nat) : BytesAt w ao (bs.take k) := fun hn => by
  obtain ⟨b, o, rfl, hc⟩ := h (by intro h; simp [h] at hn)
  refine ⟨b, o, rfl, fun j hj => ?_⟩
  simp only [List.length_take] at hj
  rw [hc j (by omega)]
  have h1 : j < bs.length := by omega
  have h2 : j < k := by omega
  simp [List.getD_eq_getElem?_getD, h1, h2]
theorem conv_take {W : World} {ao : Option Addr} {bs : List UInt8} (cap k : Nat) (h : BytesAt W ao bs) (hk : k ≤ bs.length) :
    (convert 26 9 (.slice ao k cap)).run Try.prog W = .ok (.string (strOf (bs.take k))) W := by
  have := conv_at cap (h.take k)
  rwa [List.length_take, Nat.min_eq_left hk] at this

theorem slice_mid (b o len cap lo hi : Nat) (h1 : lo ≤ hi) (h2 : hi ≤ cap) (bs : List UInt8) (hl : bs.length = len) (hh : hi ≤ len) : ∃ ao : Option Addr, (∀ W : World, BytesAt W (some ⟨b, o, none⟩) bs → BytesAt W ao ((bs.drop lo).take (hi - lo))) ∧
    ∀ W : World, (Instr.sliceAt 26 (.slice (some ⟨b, o, none⟩) len cap) (some (.int .i64 (lo : Int))) (some (.int .i64 (hi : Int))) none).run Try.prog W = .ok (.slice ao (hi - lo) (cap - lo)) W := by
  obtain ⟨i, hi', hz⟩ := Option.map_eq_some_iff.1 bytes5
  simp only [Prod.mk.injEq] at hz
  obtain ⟨_, hsz, _⟩ := hz
  refine ⟨if cap = lo then some ⟨b, o, none⟩ else some ((⟨b, o, none⟩ : Addr).add lo), fun W hW hn => ?_, fun W => ?_⟩
  · have hlt : lo < hi := by
      rcases Nat.lt_or_ge lo hi with h | h
      · exact h
      · rw [show hi - lo = 0 by omega] at hn; simp at hn
    obtain ⟨b', o', he, hc⟩ := hW (by intro h; subst h; simp at hl; omega)
    cases he
    refine ⟨b, o + lo, by rw [if_neg (by omega), Addr.add_mid], fun j hj => ?_⟩
    simp only [List.length_take, List.length_drop] at hj
    rw [Nat.add_assoc, hc (lo + j) (by omega)]
    have h3 : j < hi - lo := by omega
    simp [List.getD_eq_getElem?_getD, List.getElem?_drop, h3]
  · by_cases hcl : cap = lo
    · simp [Instr.sliceAt, Instr.slice, run_underlying Try.underlying26, Instr.sliceBounds, Instr.sliceBound, asIntOf, sizeOf, typeInfo, hi', hsz, hcl]
      rw [if_pos (by omega), if_pos h1]
    · simp [Instr.sliceAt, Instr.slice, run_underlying Try.underlying26, Instr.sliceBounds, Instr.sliceBound, asIntOf, sizeOf, typeInfo, hi', hsz, hcl]
      rw [if_pos h2, if_pos h1]
theorem strOf_nil : (⟨#[]⟩ : ByteArray) = strOf [] := rfl

theorem Own.fresh (w : World) : Own (w.alloc (.cells #[] 5)) w.heap.size (.slice (some ⟨w.heap.size, 0, none⟩) 0 0) [] :=
  World.ownsRow_made w #[] 0 (Nat.le_refl _) (by decide) rfl
/-- append(own, b...), b a slice whose bytes are known, or nil. -/
theorem wpList_append_any {w : World} {ops : Array Oper} {rest : List Oper} {o : Oper} {a : Act} {Q : Exit → Act → World → Prop} (hgd : o.guard = none) (s x : Operand)
    (ho : o.op = .call { callee := .builtin .append, args := #[s, x], argTypes := #[26, 26] })
    (base : Nat) (v : Value) (bs : List UInt8) (hs : a.eval s = v) (hown : Own w base v bs)
    (ao : Option Addr) (c : Nat) (news : List UInt8) (k : Nat) (hk : news.length = k) (hx : a.eval x = .slice ao k c) (hnews : BytesAt w ao news)
    (hbytes : bs.length + news.length ≤ 140737488355328) (hbase : base ≤ w.heap.size)
    (h : ∀ v' w', Own w' base v' (bs ++ news) → w.grownBy w' v.ownBlock → wpList Try.prog ops Q rest (a.put o.dst v') w') : wpList Try.prog ops Q (o :: rest) a w := by
  subst hk
  cases ao with
  | some ad => exact wpList_append_bytes hgd s x ho base v bs hs hown ad c news hx hnews hbytes hbase h
  | none =>
    obtain rfl : news = [] := Classical.byContradiction fun hn => by obtain ⟨b, o, he, _⟩ := hnews hn; cases he
    rw [List.append_nil] at h
    obtain ⟨i, hi, hz⟩ := Option.map_eq_some_iff.1 bytes5
    simp only [Prod.mk.injEq] at hz
    have hk := h v w hown ⟨rfl, rfl, rfl, Nat.le_refl _, fun _ _ _ => rfl⟩
    obtain ⟨ao', cap', hv, _, hle, _⟩ := hown.at
    refine wpList_plain hgd fun K hK => ?_
    have hr := run_append_nothing (P := Try.prog) w 26 26 o.type 5 i Try.underlying26 hi ao' bs.length cap' hle (.slice none 0 c) (Src.ofNil w Try.underlying26 c)
    unfold Oper.wp execOp
    rw [← hv] at hr
    simp only [List.length_nil] at hx
    simp only [ho, resolve, invoke, builtin, Sem.run_bind, Sem.run_pure, Result.andThen_ok, List.map_toArray, List.map_cons, List.map_nil, hs, hx, hr]
    exact hK _ _ hk
theorem Own.sl {w : World} {base : Nat} {v : Value} {bs : List UInt8} (h : Own w base v bs) (k : Nat) (hk : bs.length = k) : ∃ ao cap, v = .slice ao k cap ∧ BytesAt w ao bs ∧ k ≤ cap := by
  obtain ⟨ao, cap, hv, hb, hc, _⟩ := h.at
  rw [hk] at hv hc
  exact ⟨ao, cap, hv, hb, hc⟩
/-- Behind a row that is the call's own, grown. -/
theorem after_grown {w1 w2 : World} {B : Nat} {row : Option Nat} {w : World} (h : After w w1) (hg : w1.grownBy w2 row) (hB : w.heap.size ≤ B) (hr : ∀ k, row = some k → B ≤ k) : After w w2 :=
  below_grown h hg (fun k hk => by have := hr k hk; omega) h.size
theorem after_alloc {w w1 : World} (h : After w w1) (o : Obj) : After w (w1.alloc o) := Below.alloc h h.size _
section
variable {o : Oper} {a : Act} {x y : Operand} {w : World}
theorem x_ne0 {t : TypeId} {q : Nat} (hop : o.op = .binOp .eql t x y t) (hx : a.eval x = .int .i64 (q : Int)) (hy : a.eval y = .int .i64 0) (h : ¬ q = 0) : (execOp a.eval o).run Try.prog w = .ok (.value (.bool false)) w := by
  unfold execOp
  have h' : ((q : Int) == 0) = false := by simp; omega
  simp only [hop, hx, hy]
  simp [go_sem, h']
theorem x_neq0 {t : TypeId} {q : Nat} (hop : o.op = .binOp .neq t x y t) (hx : a.eval x = .int .i64 (q : Int)) (hy : a.eval y = .int .i64 0) (h : ¬ q = 0) : (execOp a.eval o).run Try.prog w = .ok (.value (.bool true)) w := by
  unfold execOp
  simp only [hop, hx, hy]
  simp [go_sem, h]
theorem x_gtr {t : TypeId} {p q : Nat} (hop : o.op = .binOp .gtr t x y t) (hx : a.eval x = .int .i64 (p : Int)) (hy : a.eval y = .int .i64 (q : Int)) (h : p ≤ q) : (execOp a.eval o).run Try.prog w = .ok (.value (.bool false)) w := by
  unfold execOp
  simp only [hop, hx, hy]
  simp [go_sem]; omega
theorem x_leq {t : TypeId} {p q : Nat} (hop : o.op = .binOp .leq t x y t) (hx : a.eval x = .int .i64 (p : Int)) (hy : a.eval y = .int .i64 (q : Int)) (h : p ≤ q) : (execOp a.eval o).run Try.prog w = .ok (.value (.bool true)) w := by
  unfold execOp
  simp only [hop, hx, hy]
  simp [go_sem]; omega
theorem x_streqf {s t : ByteArray} (hop : o.op = .binOp .neq 9 x y 9) (hx : a.eval x = .string s) (hy : a.eval y = .string t) (h : s = t) : (execOp a.eval o).run Try.prog w = .ok (.value (.bool false)) w := by
  subst h
  unfold execOp
  simp only [hop, hx, hy]
  simp [go_sem]
theorem slice_hi (b off len cap k : Nat) (hk : k ≤ cap) (W : World) : (Instr.sliceAt 26 (.slice (some ⟨b, off, none⟩) len cap) none (some (.int .i64 (k : Int))) none).run Try.prog W = .ok (.slice (some ⟨b, off, none⟩) k cap) W := by
  obtain ⟨i, hi', _⟩ := Option.map_eq_some_iff.1 bytes5
  by_cases h0 : cap = 0
  · obtain rfl : k = 0 := by omega
    simp [Instr.sliceAt, Instr.slice, run_underlying Try.underlying26, Instr.sliceBounds, Instr.sliceBound, asIntOf, sizeOf, typeInfo, hi', h0]
  · simp [Instr.sliceAt, Instr.slice, run_underlying Try.underlying26, Instr.sliceBounds, Instr.sliceBound, asIntOf, sizeOf, typeInfo, hi', hk, Addr.add]
theorem x_slice {b off len cap k : Nat} (hop : o.op = .slice 26 x none (some y) none) (hx : a.eval x = .slice (some ⟨b, off, none⟩) len cap) (hy : a.eval y = .int .i64 (k : Int)) (hk : k ≤ cap) : (execOp a.eval o).run Try.prog w = .ok (.value (.slice (some ⟨b, off, none⟩) k cap)) w := by
  unfold execOp
  simp only [hop, hx, hy, Option.map, Sem.run_bind, slice_hi b off len cap k hk w, Result.andThen_ok]
  rfl
theorem Own.convA {w W : World} {base : Nat} {v : Value} {bs : List UInt8} (h : Own w base v bs) (hA : After w W) : (convert 26 9 v).run Try.prog W = .ok (.string (strOf bs)) W := (Own.below h hA (Nat.le_refl _)).conv
end
theorem x_strne {o : Oper} {a : Act} {x y : Operand} {w : World} {s t : List UInt8} (hop : o.op = .binOp .neq 9 x y 9) (hx : a.eval x = .string (strOf s)) (hy : a.eval y = .string (strOf t)) (h : ¬ s = t) : (execOp a.eval o).run Try.prog w = .ok (.value (.bool true)) w := by
  unfold execOp
  simp only [hop, hx, hy]
  simp [go_sem, strOf_toList, h]
/-- Block g holds the cells cs, of type t; nothing of it is frozen. -/
def RowIs (w : World) (g : Nat) (t : TypeId) (cs : List Value) : Prop := w.heap[g]? = some (.cells cs.toArray t (0, 0))
theorem RowIs.lt {w : World} {g : Nat} {t : TypeId} {cs : List Value} (h : RowIs w g t cs) : g < w.heap.size := by
  unfold RowIs at h; exact (Array.getElem?_eq_some_iff.1 h).1
theorem RowIs.cell {w : World} {g : Nat} {t : TypeId} {cs : List Value} (h : RowIs w g t cs) {j : Nat} {v : Value} (hj : cs[j]? = some v) : w.cell? ⟨g, j, none⟩ = some v := by
  rw [cell_of_row w g j _ t _ h]; simpa using hj
theorem RowIs.frozen {w : World} {g : Nat} {t : TypeId} {cs : List Value} (h : RowIs w g t cs) (j : Nat) : w.frozen? ⟨g, j, none⟩ = false := frozen_of_row w g j _ t h
theorem RowIs.drew {w : World} {g : Nat} {t : TypeId} {cs : List Value} (h : RowIs w g t cs) : RowIs w.drew g t cs := h
theorem RowIs.set {w : World} {g : Nat} {t : TypeId} {cs : List Value} (h : RowIs w g t cs) (j : Nat) (v : Value) : RowIs (w.setCell ⟨g, j, none⟩ v) g t (cs.set j v) := by
  unfold RowIs; rw [heap_setCell_same w g j _ t v h]; simp
theorem RowIs.other {w : World} {g : Nat} {t : TypeId} {cs : List Value} (h : RowIs w g t cs) (a : Addr) (v : Value) (hg : g ≠ a.block) : RowIs (w.setCell a v) g t cs := by
  unfold RowIs; rw [heap_setCell_other w a g v hg]; exact h
theorem RowIs.alloc {w : World} {g : Nat} {t : TypeId} {cs : List Value} (h : RowIs w g t cs) (o : Obj) : RowIs (w.alloc o) g t cs := by
  have := h.lt; unfold RowIs; rw [Below.heap_alloc w o g this]; exact h
theorem RowIs.new (w : World) (t : TypeId) (cs : List Value) : RowIs (w.alloc (.cells cs.toArray t)) w.heap.size t cs := by
  unfold RowIs; show (w.heap.push _)[w.heap.size]? = _; simp
theorem RowIs.setRow {w : World} {g : Nat} {t : TypeId} {cs : List Value} (h : RowIs w g t cs) (cs' : List Value) : RowIs (w.setRow g cs'.toArray) g t cs' := setRow_heap w g _ _ t _ h
theorem RowIs.setRow_other {w : World} {g g' : Nat} {t : TypeId} {cs : List Value} (h : RowIs w g t cs) (cs' : Array Value) (hg : g ≠ g') : RowIs (w.setRow g' cs') g t cs := by
  unfold RowIs; rw [Go.setRow_other w g' g cs' hg]; exact h
theorem RowIs.below {w w' : World} {B g : Nat} {t : TypeId} {cs : List Value} (h : RowIs w g t cs) (hb : Below B w w') (hg : g < B) : RowIs w' g t cs := by
  unfold RowIs; rw [hb.block g hg]; exact h
theorem Below.row {B : Nat} {a w : World} (h : Below B a w) {g : Nat} (hg : B ≤ g) (cs : Array Value) : Below B a (w.setRow g cs) :=
  ⟨h.os, h.tape, h.output, by have := h.size; simpa using this, fun k hk => by rw [Go.setRow_other w g k cs (by omega)]; exact h.block k hk⟩
theorem info5 : (Try.prog.info? 5).map (·.size) = some 1 := by kernel_rfl
theorem cells5' : Try.prog.cellsOf 5 = 1 := by kernel_rfl
theorem part5 (cs : List Value) (j : Nat) (v : Value) (hv : cs[j]? = some v) (w : World) : (part 5 cs.toArray (j * 1)).run Try.prog w = .ok v w := by
  have hag : (isAgg 5).run Try.prog w = .ok false w := by
    unfold isAgg; rw [Sem.run_bind, run_underlying Try.underlying5 w]; rfl
  simp [part, hag, hv]
theorem eqItems5 (d : Nat) (a b : List UInt8) (w : World) : ∀ is : List Nat, (∀ i ∈ is, i < a.length ∧ i < b.length) →
    (Op.eqItems (d + 1) 5 1 (c8 a).toArray (c8 b).toArray is).run Try.prog w = .ok (is.all fun i => a.getD i 0 == b.getD i 0) w
  | [], _ => by simp [Op.eqItems]
  | i :: is, h => by
    obtain ⟨h1, h2⟩ := h i (by simp)
    have ih := eqItems5 d a b w is (fun j hj => h j (by simp [hj]))
    have e : (((a.getD i 0).toNat : Int) == ((b.getD i 0).toNat : Int)) = (a.getD i 0 == b.getD i 0) := by
      rw [Bool.eq_iff_iff, beq_iff_eq, beq_iff_eq, Int.ofNat_inj, UInt8.toNat_inj]
    simp only [Op.eqItems, Sem.run_bind, part5 _ i _ (c8_get a i h1), part5 _ i _ (c8_get b i h2), Result.andThen_ok, run_equalIn_int w d 5 .u8 .u8 _ _ Try.underlying5, e, List.all_cons]
    cases (a.getD i 0 == b.getD i 0)
    · simp
    · simpa using ih
section
variable {ops : Array Oper} {rest : List Oper} {o : Oper} {ac : Act} {w : World} {Q : Exit → Act → World → Prop}
theorem wpListG_load_row (hw : Region.wanted o (yielded ops ac.tmps) = true) (ty : TypeId) (x : Operand) (ho : o.op = .load ty x)
    (g : Nat) (hx : ac.eval x = .pointer (some ⟨g, 0, none⟩)) (t : TypeId) (cs : Array Value) (n : Nat) (e : TypeId) (hg : w.heap[g]? = some (.cells cs t (0, 0)))
    (hu : Try.prog.underlying ty = some (.array n e)) (hi : (Try.prog.info? ty).map (·.size) = some cs.size)
    (h : wpList Try.prog ops Q rest (ac.put o.dst (.agg cs)) w) : wpList Try.prog ops Q (o :: rest) ac w :=
  wpList_step fun K hK => by rw [if_pos hw]; exact wp_load_row ty x ho g hx t cs (0, 0) _ hg hu rfl hi (hK _ _ h)
theorem wpListG_built (hw : Region.wanted o (yielded ops ac.tmps) = true) (t : TypeId) (parts : Array (Nat × Operand)) (ho : o.op = .build t parts)
    (cells : Array Value) (hb : Try.prog.built t (parts.map fun (i, x) => (i, ac.eval x)).toList = some cells)
    (h : wpList Try.prog ops Q rest (ac.put o.dst (.agg cells)) w) : wpList Try.prog ops Q (o :: rest) ac w :=
  wpList_step fun K hK => by rw [if_pos hw]; exact wp_build t parts ho (by rw [hb]; rfl) (hK _ _ (by rw [hb]; exact h))
end
theorem bytesAt_none {w : World} {bs : List UInt8} (h : BytesAt w none bs) : bs = [] := Classical.byContradiction fun hn => by
  obtain ⟨b, o, he, _⟩ := h hn; cases he
theorem BytesAt.dropAt {w : World} {b o : Nat} {bs : List UInt8} (h : BytesAt w (some ⟨b, o, none⟩) bs) (k : Nat) : BytesAt w (some ⟨b, o + k, none⟩) (bs.drop k) := fun hn => by
  obtain ⟨b', o', he, hc⟩ := h (by intro h; simp [h] at hn)
  cases he
  refine ⟨b, o + k, rfl, fun j hj => ?_⟩
  simp only [List.length_drop] at hj
  rw [Nat.add_assoc, hc (k + j) (by omega)]
  simp [List.getD_eq_getElem?_getD, List.getElem?_drop]
/-- What slicing makes of an address. -/
def cutAt (ao : Option Addr) (k c : Nat) : Option Addr := if c = k then ao else ao.map fun a => a.add k
theorem cutAt_block {ao : Option Addr} {k c : Nat} {a : Addr} (h : cutAt ao k c = some a) : ∃ b, ao = some b ∧ b.block = a.block := by
  unfold cutAt at h
  split at h
  · exact ⟨a, h, rfl⟩
  · cases ao with
    | none => cases h
    | some b => simp at h; subst h; exact ⟨b, rfl, by unfold Addr.add; split <;> rfl⟩
theorem BytesAt.cut {w : World} {ao : Option Addr} {bs : List UInt8} (h : BytesAt w ao bs) (k c : Nat) (hc : bs.length ≤ c) : BytesAt w (cutAt ao k c) (bs.drop k) := fun hn => by
  obtain ⟨b, o, rfl, _⟩ := h (by intro h; simp [h] at hn)
  have hlt : k < bs.length := Classical.byContradiction fun hk => hn (List.drop_eq_nil_iff.2 (by omega))
  have := h.dropAt k hn
  unfold cutAt
  rw [if_neg (by omega)]
  simpa [Addr.add_mid] using this
theorem slice_three (ao : Option Addr) (n cap k : Nat) (hz : ao = none → n = 0) (hc : n ≤ cap) (hk : k ≤ n) (W : World) :
    (Instr.sliceAt 26 (.slice ao n cap) (some (.int .i64 (k : Int))) (some (.int .i64 (n : Int))) (some (.int .i64 (n : Int)))).run Try.prog W = .ok (.slice (cutAt ao k n) (n - k) (n - k)) W := by
  obtain ⟨i, hi', hzz⟩ := Option.map_eq_some_iff.1 bytes5
  simp only [Prod.mk.injEq] at hzz
  obtain ⟨_, hsz, _⟩ := hzz
  cases ao with
  | none =>
    obtain rfl : n = 0 := hz rfl
    obtain rfl : k = 0 := by omega
    simp [Instr.sliceAt, Instr.slice, run_underlying Try.underlying26, Instr.sliceBounds, Instr.sliceBound, asIntOf, sizeOf, typeInfo, hi', cutAt]
  | some a =>
    by_cases h : n = k
    · simp [Instr.sliceAt, Instr.slice, run_underlying Try.underlying26, Instr.sliceBounds, Instr.sliceBound, asIntOf, sizeOf, typeInfo, hi', hsz, cutAt, h]
      intro h2; omega
    · simp [Instr.sliceAt, Instr.slice, run_underlying Try.underlying26, Instr.sliceBounds, Instr.sliceBound, asIntOf, sizeOf, typeInfo, hi', hsz, cutAt, h, hc, hk]
theorem slice_from (ao : Option Addr) (n cap k : Nat) (hz : ao = none → n = 0) (hc : n ≤ cap) (hk : k ≤ n) (W : World) :
    (Instr.sliceAt 26 (.slice ao n cap) (some (.int .i64 (k : Int))) none none).run Try.prog W = .ok (.slice (cutAt ao k cap) (n - k) (cap - k)) W := by
  obtain ⟨i, hi', hzz⟩ := Option.map_eq_some_iff.1 bytes5
  simp only [Prod.mk.injEq] at hzz
  obtain ⟨_, hsz, _⟩ := hzz
  cases ao with
  | none =>
    obtain rfl : n = 0 := hz rfl
    obtain rfl : k = 0 := by omega
    simp [Instr.sliceAt, Instr.slice, run_underlying Try.underlying26, Instr.sliceBounds, Instr.sliceBound, asIntOf, sizeOf, typeInfo, hi', cutAt]
  | some a =>
    by_cases h : cap = k
    · simp [Instr.sliceAt, Instr.slice, run_underlying Try.underlying26, Instr.sliceBounds, Instr.sliceBound, asIntOf, sizeOf, typeInfo, hi', hsz, cutAt, h]
      intro h2; omega
    · simp [Instr.sliceAt, Instr.slice, run_underlying Try.underlying26, Instr.sliceBounds, Instr.sliceBound, asIntOf, sizeOf, typeInfo, hi', hsz, cutAt, h, hk]
/-- Nothing that was there has turned, but for block g. -/
structure But (g : Nat) (w w' : World) : Prop where
  os : w'.os = w.os
  tape : w'.tape = w.tape
  output : w'.output = w.output
  size : w.heap.size ≤ w'.heap.size
  block : ∀ k, k < w.heap.size → k ≠ g → w'.heap[k]? = w.heap[k]?
theorem But.refl (g : Nat) (w : World) : But g w w := ⟨rfl, rfl, rfl, Nat.le_refl _, fun _ _ _ => rfl⟩
theorem But.trans {g : Nat} {a b c : World} (h : But g a b) (k : But g b c) : But g a c :=
  ⟨k.os.trans h.os, k.tape.trans h.tape, k.output.trans h.output, Nat.le_trans h.size k.size, fun i hi hg => (k.block i (Nat.lt_of_lt_of_le hi h.size) hg).trans (h.block i hi hg)⟩
theorem But.of_below {g : Nat} {a b : World} (h : Below a.heap.size a b) : But g a b := ⟨h.os, h.tape, h.output, h.size, fun k hk _ => h.block k hk⟩
theorem But.drew {g : Nat} {a b : World} (h : But g a b) : But g a b.drew := ⟨h.os, h.tape, h.output, h.size, h.block⟩
theorem But.setRow {g : Nat} {a b : World} (h : But g a b) (cs : Array Value) : But g a (b.setRow g cs) :=
  ⟨h.os, h.tape, h.output, by have := h.size; simpa using this, fun k hk hg => by rw [Go.setRow_other b g k cs hg]; exact h.block k hk hg⟩
theorem But.setCell {g : Nat} {a b : World} (h : But g a b) (j : Nat) (v : Value) : But g a (b.setCell ⟨g, j, none⟩ v) :=
  ⟨h.os, h.tape, h.output, by have := h.size; simpa using this, fun k hk hg => by rw [heap_setCell_other b _ k v hg]; exact h.block k hk hg⟩
theorem But.row {g g' : Nat} {a b : World} {t : TypeId} {cs : List Value} (h : But g a b) (r : RowIs a g' t cs) (hg : g' ≠ g) : RowIs b g' t cs := by
  unfold RowIs; rw [h.block g' r.lt hg]; exact r
theorem But.cell {g : Nat} {a b : World} (h : But g a b) {p : Addr} {v : Value} (hp : p.block ≠ g) (hc : a.cell? p = some v) : b.cell? p = some v := by
  rw [World.cell?_of_block (w := a) (h.block p.block (block_lt_of_cell hc) hp)]; exact hc
theorem But.below {g B : Nat} {a b : World} (h : But g a b) (hg : B ≤ g) (hB : B ≤ a.heap.size) : Below B a b :=
  ⟨h.os, h.tape, h.output, h.size, fun k hk => h.block k (by omega) (by omega)⟩
theorem But.bytes {g : Nat} {w w' : World} (h : But g w w') {ao : Option Addr} {bs : List UInt8} (hb : BytesAt w ao bs) (hg : ∀ a, ao = some a → a.block ≠ g) : BytesAt w' ao bs := fun hn => by
  obtain ⟨b, o, rfl, hc⟩ := hb hn
  exact ⟨b, o, rfl, fun j hj => h.cell (p := ⟨b, o + j, none⟩) (hg ⟨b, o, none⟩ rfl) (hc j hj)⟩
end Go.Proofs.Ytcmcapcagblafaa
