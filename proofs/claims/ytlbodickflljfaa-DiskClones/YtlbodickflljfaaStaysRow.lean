/-
  A ROW OF BYTES THAT IS THE CALL'S OWN, TOLD BY ITS CELLS: what []byte(s) lays, and what is appended to it.
-/
import Derived.Test.YtlbodickflljfaaRefStays
import Derived.Lib.ConvBytes
import Derived.Deep.AppendSrc
namespace Go.Proofs.Ytlbodickflljfaa
open Go.RowKit Go.Maps Dsk
structure OwnC (w : World) (base : Nat) (v : Value) (bs : List UInt8) : Prop where
  ex : ∃ g c, v = .slice (some ⟨g, 0, none⟩) bs.length c ∧ base ≤ g ∧ g < w.heap.size ∧ bs.length ≤ c ∧ c ≤ maxLen ∧ (∀ j, j < bs.length → w.cell? ⟨g, j, none⟩ = some (.int .u8 ((bs.getD j 0).toNat : Int))) ∧ (∀ j, j < c → (w.cell? ⟨g, j, none⟩).isSome = true ∧ w.frozen? ⟨g, j, none⟩ = false)
theorem OwnC.after {w w' : World} {base : Nat} {v : Value} {bs : List UInt8} (h : OwnC w base v bs) (ha : After w w') : OwnC w' base v bs := by
  obtain ⟨g, c, h1, h2, h3, h4, h5, h6, h7⟩ := h.ex
  have hc : ∀ j, w'.cell? ⟨g, j, none⟩ = w.cell? ⟨g, j, none⟩ := fun j => Below.cell ha (p := ⟨g, j, none⟩) h3
  have hf : ∀ j, w'.frozen? ⟨g, j, none⟩ = w.frozen? ⟨g, j, none⟩ := fun j => World.frozen?_of_block (a := ⟨g, j, none⟩) (ha.block g h3)
  exact ⟨g, c, h1, h2, by have := ha.size; omega, h4, h5, fun j hj => by rw [hc]; exact h6 j hj, fun j hj => by rw [hc, hf]; exact h7 j hj⟩
theorem OwnC.at {w : World} {base : Nat} {v : Value} {bs : List UInt8} (h : OwnC w base v bs) : ∃ g c, v = .slice (some ⟨g, 0, none⟩) bs.length c ∧ BytesAt w (some ⟨g, 0, none⟩) bs ∧ bs.length ≤ c := by
  obtain ⟨g, c, h1, h2, h3, h4, h5, h6, h7⟩ := h.ex
  exact ⟨g, c, h1, fun _ => ⟨g, 0, rfl, fun j hj => by rw [Nat.zero_add]; exact h6 j hj⟩, h4⟩
theorem bytesWorld_after (w : World) (s : ByteArray) : After w (Lib.bytesWorld w 5 s) :=
  ⟨rfl, rfl, rfl, by rw [Lib.bytesWorld_size]; omega, fun k hk => Lib.bytesWorld_at_old w 5 s k hk⟩
theorem conv_bytes (w : World) (l : List UInt8) (hl : l.length ≤ 16777216) : ∃ v w', (convert 9 31 (.string (strOf l))).run Try.prog w = .ok v w' ∧ OwnC w' w.heap.size v l ∧ After w w' := by
  have hrun := Lib.run_convert_string_bytes (P := Try.prog) w 9 31 5 (strOf l) (u := .string) Try.underlying9 Try.underlying31 Try.underlying5
  refine ⟨_, _, hrun, ?_, bytesWorld_after w _⟩
  have hsz : (strOf l).size = l.length := strOf_size l
  have hge := grownCap_ge w l.length 0 5
  have hbc : (Lib.bytesCells w 5 (strOf l)).size = grownCap w l.length 0 5 := by
    unfold Lib.bytesCells
    rw [hsz]
    have : (strOf l).data.size = l.length := by simp [strOf]
    simp only [Array.size_append, Array.size_map, Array.size_replicate, this]
    omega
  refine ⟨w.heap.size, grownCap w l.length 0 5, by rw [hsz], Nat.le_refl _, by rw [Lib.bytesWorld_size]; omega, hge, grownCap_le_maxLen w _ _ _ (by unfold maxLen; omega), fun j hj => ?_, fun j hj => ⟨?_, ?_⟩⟩
  · have := Lib.bytesWorld_cell w 5 (strOf l) j (by rw [hsz]; exact hj)
    rw [this]; simp [strOf]
  · simp only [World.cell?, Lib.bytesWorld_at_new]
    simp [hbc, hj]
  · have hat := Lib.bytesWorld_at_new w 5 (strOf l)
    rw [hbc] at hat
    simp [World.frozen?, hat]
    omega
/-- append(own, b). -/
theorem OwnC.push {w : World} {base : Nat} {v : Value} {bs : List UInt8} (h : OwnC w base v bs) (hb : base ≤ w.heap.size) (hbig : bs.length ≤ 16777216) (ad : Addr) (c : Nat) (b : UInt8) (ty : TypeId) (hx : BytesAt w (some ad) [b]) :
    ∃ v' w', (Builtin.append_ #[31, 31] ty #[v, .slice (some ad) 1 c]).run Try.prog w = .ok v' w' ∧ OwnC w' base v' (bs ++ [b]) ∧ Below base w w' := by
  obtain ⟨i, hi, hz⟩ := Option.map_eq_some_iff.1 bytes5
  simp only [Prod.mk.injEq] at hz
  obtain ⟨hz, hsz, hby⟩ := hz
  obtain ⟨g, cp, h1, h2, h3, h4, h5, h6, h7⟩ := h.ex
  subst h1
  have hxc : w.cell? ad = some (.int .u8 (b.toNat : Int)) := by
    obtain ⟨b', o', e, hc⟩ := hx (by simp)
    cases e
    have := hc 0 (by simp)
    simpa using this
  have hs : Src Try.prog i.size 31 (.slice (some ad) 1 c) 1 [.int .u8 (b.toNat : Int)] w := by
    refine Src.ofSlice w Try.underlying31 ad 1 c _ (by simp [hsz]) ?_ (by simp [Value.oneCell'])
    intro j u hu
    cases j with
    | zero =>
      obtain rfl : Value.int .u8 (b.toNat : Int) = u := by simpa using hu
      obtain ⟨x1, x2, x3⟩ := ad
      simpa [Addr.add] using hxc
    | succ j => simp at hu
  by_cases hfit : bs.length + 1 ≤ cp
  · refine ⟨_, _, run_append_room_src (P := Try.prog) w 31 31 ty 5 i Try.underlying31 hi g 0 bs.length cp _ 1 _ hs hfit (fun j hj => ?_) (fun j hj => ?_), ⟨g, cp, by simp, h2, ?_, by simpa using hfit, h5, fun j hj => ?_, fun j hj => ?_⟩, ?_⟩
    · simp at hj; subst hj; rw [hsz]; simp only [Nat.mul_one, Nat.zero_add, Nat.add_zero]; exact (h7 _ (by omega)).1
    · simp at hj; subst hj; rw [hsz]; simp only [Nat.mul_one, Nat.zero_add, Nat.add_zero]; exact (h7 _ (by omega)).2
    · simp [World.setCells]; exact h3
    · rw [hsz]; simp only [Nat.mul_one, Nat.zero_add, World.setCells]
      by_cases he : j = bs.length
      · subst he
        rw [World.cell?_setCell_same' _ _ _ (h7 _ (by omega)).1]
        simp
      · rw [World.cell?_setCell_other _ _ _ _ (by simp only [ne_eq, Addr.mk.injEq, true_and, and_true]; omega)]
        simp at hj
        rw [h6 j (by omega)]
        simp [List.getD, List.getElem?_append_left (show j < bs.length by omega)]
    · rw [hsz]; simp only [Nat.mul_one, Nat.zero_add, World.setCells]
      rw [World.frozen?_setCell]
      refine ⟨?_, (h7 j hj).2⟩
      by_cases he : j = bs.length
      · subst he
        rw [World.cell?_setCell_same' _ _ _ (h7 _ (by omega)).1]; rfl
      · rw [World.cell?_setCell_other _ _ _ _ (by simp only [ne_eq, Addr.mk.injEq, true_and, and_true]; omega)]; exact (h7 j hj).1
    · simp only [World.setCells]; exact Below.setCell (Below.refl _ _) h2 _
  · have hold : (Builtin.firstCells i.size bs.length (.slice (some ⟨g, 0, none⟩) bs.length cp)).run Try.prog w.drew = .ok (c8 bs).toArray w.drew := by
      rw [hsz]
      refine run_firstCells_some w.drew 1 bs.length ⟨g, 0, none⟩ bs.length cp (c8 bs) (by rw [c8_len]; omega) (fun j u hu => ?_)
      have hj := (List.getElem?_eq_some_iff.1 hu).1
      rw [c8_len] at hj
      rw [c8_get bs j hj] at hu
      rw [Addr.add_lit, ← hu]
      have := h6 j hj
      simpa using this
    have hrun := run_append_grow_src (P := Try.prog) w 31 31 ty 5 i (.int .u8 0) Try.underlying31 hi hz (some ⟨g, 0, none⟩) bs.length cp (c8 bs) hold _ 1 _ hs (by omega) (by omega) (by rw [hby]; exact growslice_fits (by omega) (by omega))
    have hge := grownCap_ge w (bs.length + 1) cp 5
    have hcm := grownCap_le_maxLen w (bs.length + 1) cp 5 (by unfold maxLen; omega)
    have hsize : ((c8 bs ++ [Value.int .u8 (b.toNat : Int)]).toArray ++ Builtin.zeroCells (Value.int .u8 0).cells (grownCap w (bs.length + 1) cp 5 - (bs.length + 1))).size = grownCap w (bs.length + 1) cp 5 := by
      rw [Array.size_append, List.size_toArray, List.length_append, c8_len, size_zeroCells]
      simp [Value.cells]; omega
    refine ⟨_, _, hrun, ⟨w.heap.size, _, by simp, hb, by simp, by simpa using hge, hcm, fun j hj => ?_, fun j hj => ⟨?_, ?_⟩⟩, ?_⟩
    · rw [show (w.drew.alloc _).cell? ⟨w.heap.size, j, none⟩ = _ from World.cell?_alloc_new w.drew _ _ j]
      rw [Array.getElem?_append_left (by simp [c8_len]; simpa using hj), List.getElem?_toArray]
      have e : c8 bs ++ [Value.int .u8 (b.toNat : Int)] = c8 (bs ++ [b]) := by simp [c8]
      rw [e, c8_get _ _ hj]
    · rw [show (w.drew.alloc _).cell? ⟨w.heap.size, j, none⟩ = _ from World.cell?_alloc_new w.drew _ _ j]
      rw [Array.getElem?_eq_getElem (by rw [hsize]; exact hj)]; rfl
    · exact World.frozen?_alloc_new w.drew _ _ j
    · exact Below.alloc (Below.drew (Below.refl _ _)) (by simpa using hb) _
theorem wpList_append_ownC {w : World} {ops : Array Oper} {rest : List Oper} {o : Oper} {a : Act} {Q : Exit → Act → World → Prop} (hgd : o.guard = none) (s x : Operand)
    (ho : o.op = .call { callee := .builtin .append, args := #[s, x], argTypes := #[31, 31] })
    (base : Nat) (v : Value) (bs : List UInt8) (hs : a.eval s = v) (hown : OwnC w base v bs)
    (ad : Addr) (c : Nat) (b : UInt8) (hx : a.eval x = .slice (some ad) 1 c) (hnews : BytesAt w (some ad) [b])
    (hbytes : bs.length ≤ 16777216) (hbase : base ≤ w.heap.size)
    (h : ∀ v' w', OwnC w' base v' (bs ++ [b]) → Below base w w' → wpList Try.prog ops Q rest (a.put o.dst v') w') : wpList Try.prog ops Q (o :: rest) a w := by
  obtain ⟨v', w', hr, h1, h2⟩ := hown.push hbase hbytes ad c b o.type hnews
  have hk := h v' w' h1 h2
  refine wpList_plain hgd fun K hK => ?_
  unfold Oper.wp execOp
  simp only [ho, resolve, invoke, builtin, Sem.run_bind, Sem.run_pure, Result.andThen_ok, List.map_toArray, List.map_cons, List.map_nil, hs, hx, hr]
  exact hK _ _ hk
theorem wpList_conv_bytes {w : World} {ops : Array Oper} {rest : List Oper} {o : Oper} {a : Act} {Q : Exit → Act → World → Prop} (hgd : o.guard = none) (x : Operand)
    (ho : o.op = .convert 9 31 x) (l : List UInt8) (hx : a.eval x = .string (strOf l)) (hl : l.length ≤ 16777216)
    (h : ∀ v w', OwnC w' w.heap.size v l → After w w' → wpList Try.prog ops Q rest (a.put o.dst v) w') : wpList Try.prog ops Q (o :: rest) a w := by
  obtain ⟨v', w', hr, h1, h2⟩ := conv_bytes w l hl
  have hk := h v' w' h1 h2
  refine wpList_plain hgd fun K hK => ?_
  unfold Oper.wp execOp
  simp only [ho, Sem.run_bind, Sem.run_pure, Result.andThen_ok, hx, hr]
  exact hK _ _ hk
end Go.Proofs.Ytlbodickflljfaa
