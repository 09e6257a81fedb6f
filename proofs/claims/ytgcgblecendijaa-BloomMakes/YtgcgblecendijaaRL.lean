/-
  THE DOCUMENT'S PLACES: the walks of stemmaref09.number AND Places.
-/
import Derived.Test.YtgcgblecendijaaBA
namespace Go.Proofs.Ytgcgblecendijaa
open Go.RowKit Leb
theorem x_idxc {o : Oper} {a : Act} {x : Operand} {w : World} {b off Z c d : Nat} (hop : o.op = .indexAddr 26 x (.const (.int .i64 (d : Int)))) (hx : a.eval x = .slice (some ⟨b, off, none⟩) Z c) (hd : d < Z) : (execOp a.eval o).run Try.prog w = .ok (.value (.pointer (some ⟨b, off + d, none⟩))) w := by
  unfold execOp
  simp only [hop, hx]
  simp [go_sem, hd]

set_option maxRecDepth 100000 in
set_option maxHeartbeats 6000000 in
theorem rnumber_any (b off c : Nat) (bs : List UInt8) (hl : bs.length = 4) (w : World) (hA : BytesAt w (some ⟨b, off, none⟩) bs) :
    Calls Try.prog 34 #[.slice (some ⟨b, off, none⟩) 4 c] w fun e w' => ∃ v, e = .returned v ∧ v = .int .u64 (num4 bs 0 : Int) ∧ Below w.heap.size w w' := by
  obtain ⟨b', o', eb, hc⟩ := hA (by intro h; rw [h] at hl; simp at hl)
  cases eb
  obtain ⟨y0, hy0⟩ : ∃ y, (bs.getD 0 0).toNat = y := ⟨_, rfl⟩
  obtain ⟨y1, hy1⟩ : ∃ y, (bs.getD 1 0).toNat = y := ⟨_, rfl⟩
  obtain ⟨y2, hy2⟩ : ∃ y, (bs.getD 2 0).toNat = y := ⟨_, rfl⟩
  obtain ⟨y3, hy3⟩ : ∃ y, (bs.getD 3 0).toNat = y := ⟨_, rfl⟩
  have hN : num4 bs 0 = y0 + y1 * 256 + y2 * 65536 + y3 * 16777216 := by unfold num4; rw [hy0]; simp only [Nat.zero_add]; rw [hy1, hy2, hy3]
  have hb : y0 < 256 ∧ y1 < 256 ∧ y2 < 256 ∧ y3 < 256 := ⟨by rw [← hy0]; exact UInt8.toNat_lt _, by rw [← hy1]; exact UInt8.toNat_lt _, by rw [← hy2]; exact UInt8.toNat_lt _, by rw [← hy3]; exact UInt8.toNat_lt _⟩
  have hcell : ∀ j, j < 4 → ∀ W, After w W → W.cell? ⟨b, off + j, none⟩ = some (.int .u8 ((bs.getD j 0).toNat : Int)) := fun j hj W hW => by
    have h := hc j (by rw [hl]; exact hj)
    rw [← h]; exact Below.cell hW (p := ⟨b, off + j, none⟩) (World.block_lt_of_cell? w _ h)
  have HC : Hid (∀ W, After w W → W.cell? ⟨b, off + 0, none⟩ = some (.int .u8 (y0 : Int)) ∧ W.cell? ⟨b, off + 1, none⟩ = some (.int .u8 (y1 : Int)) ∧ W.cell? ⟨b, off + 2, none⟩ = some (.int .u8 (y2 : Int)) ∧ W.cell? ⟨b, off + 3, none⟩ = some (.int .u8 (y3 : Int))) := fun W hW => by
    refine ⟨?_, ?_, ?_, ?_⟩
    · rw [← hy0]; exact hcell 0 (by omega) W hW
    · rw [← hy1]; exact hcell 1 (by omega) W hW
    · rw [← hy2]; exact hcell 2 (by omega) W hW
    · rw [← hy3]; exact hcell 3 (by omega) W hW
  rw [hN]
  obtain ⟨z1, hz1⟩ : ∃ z, y1 * 256 = z := ⟨_, rfl⟩
  obtain ⟨z2, hz2⟩ : ∃ z, y2 * 65536 = z := ⟨_, rfl⟩
  obtain ⟨z3, hz3⟩ : ∃ z, y3 * 16777216 = z := ⟨_, rfl⟩
  rw [hz1, hz2, hz3]
  obtain ⟨s1, hs1⟩ : ∃ z, y0 + z1 = z := ⟨_, rfl⟩
  obtain ⟨s2, hs2⟩ : ∃ z, s1 + z2 = z := ⟨_, rfl⟩
  obtain ⟨s3, hs3⟩ : ∃ z, s2 + z3 = z := ⟨_, rfl⟩
  rw [hs1, hs2, hs3]
  have HZ : Hid (y0 < 256 ∧ y1 < 256 ∧ y2 < 256 ∧ y3 < 256 ∧ y1 * 2 ^ 8 = z1 ∧ y2 * 2 ^ 16 = z2 ∧ y3 * 2 ^ 24 = z3 ∧ y0 + z1 = s1 ∧ s1 + z2 = s2 ∧ s2 + z3 = s3 ∧ s3 < 18446744073709551616 ∧ s2 < 18446744073709551616 ∧ s1 < 18446744073709551616 ∧ z1 < 18446744073709551616 ∧ z2 < 18446744073709551616 ∧ z3 < 18446744073709551616) := ⟨hb.1, hb.2.1, hb.2.2.1, hb.2.2.2, hz1, hz2, hz3, hs1, hs2, hs3, by omega, by omega, by omega, by omega, by omega, by omega⟩
  clear hy0 hy1 hy2 hy3 hN hb hcell hc hA hz1 hz2 hz3 hs1 hs2 hs3 hl
  go_enter Try.func34, Try.ntmps34
  go_wp2_with fail
  refine wp_region_noPanic ?_
  refine wp_region_held_drew (S := After w) (by kernel_rfl) (After.drew (After.refl w)) ?_
  intro hS0
  refine tk 0 3 (.slice (some ⟨b, off, none⟩) 4 c) (fuel := 22) rfl (by kernel_rfl) (by kernel_rfl) (by kernel_rfl) (by kernel_rfl) noPanic_false (by kernel_rfl) (fun _ _ => by kernel_rfl) hS0 ?_
  refine tk 1 4 (.pointer (some ⟨b, off + 0, none⟩)) (fuel := 21) rfl (by kernel_rfl) (by kernel_rfl) (by kernel_rfl) (by kernel_rfl) noPanic_false (by kernel_rfl) (fun W _ => x_idxc (x := .tmp 3) (b := b) (off := off) (Z := 4) (c := c) (d := 0) (by kernel_rfl) (by kernel_rfl) (by omega)) hS0 ?_
  refine tk 2 5 (.int .u8 (y0 : Int)) (fuel := 20) rfl (by kernel_rfl) (by kernel_rfl) (by kernel_rfl) (by kernel_rfl) noPanic_false (by kernel_rfl) (fun W hW => x_ldc (t := 5) (x := .tmp 4) (g := b) (j := off + 0) Try.underlying5 rfl (by kernel_rfl) (by kernel_rfl) (HC.out W hW).1) hS0 ?_
  refine tk 3 6 (.int .u64 (y0 : Int)) (fuel := 19) rfl (by kernel_rfl) (by kernel_rfl) (by kernel_rfl) (by kernel_rfl) noPanic_false (by kernel_rfl) (fun W _ => x_conv839 (x := .tmp 5) (p := y0) (by kernel_rfl) (by kernel_rfl) HZ.out.1) hS0 ?_
  refine tk 4 7 (.slice (some ⟨b, off, none⟩) 4 c) (fuel := 18) rfl (by kernel_rfl) (by kernel_rfl) (by kernel_rfl) (by kernel_rfl) noPanic_false (by kernel_rfl) (fun _ _ => by kernel_rfl) hS0 ?_
  refine tk 5 8 (.pointer (some ⟨b, off + 1, none⟩)) (fuel := 17) rfl (by kernel_rfl) (by kernel_rfl) (by kernel_rfl) (by kernel_rfl) noPanic_false (by kernel_rfl) (fun W _ => x_idxc (x := .tmp 7) (b := b) (off := off) (Z := 4) (c := c) (d := 1) (by kernel_rfl) (by kernel_rfl) (by omega)) hS0 ?_
  refine tk 6 9 (.int .u8 (y1 : Int)) (fuel := 16) rfl (by kernel_rfl) (by kernel_rfl) (by kernel_rfl) (by kernel_rfl) noPanic_false (by kernel_rfl) (fun W hW => x_ldc (t := 5) (x := .tmp 8) (g := b) (j := off + 1) Try.underlying5 rfl (by kernel_rfl) (by kernel_rfl) (HC.out W hW).2.1) hS0 ?_
  refine tk 7 10 (.int .u64 (y1 : Int)) (fuel := 15) rfl (by kernel_rfl) (by kernel_rfl) (by kernel_rfl) (by kernel_rfl) noPanic_false (by kernel_rfl) (fun W _ => x_conv839 (x := .tmp 9) (p := y1) (by kernel_rfl) (by kernel_rfl) HZ.out.2.1) hS0 ?_
  refine tk 8 11 (.int .u64 (z1 : Int)) (fuel := 14) rfl (by kernel_rfl) (by kernel_rfl) (by kernel_rfl) (by kernel_rfl) noPanic_false (by kernel_rfl) (fun W _ => x_shl64 (ty := 49) (k := .u64) (x := .tmp 10) (y := .const (.int .u64 8)) (p := y1) (q := 8) (r := z1) (by kernel_rfl) (by kernel_rfl) rfl (by omega) HZ.out.2.2.2.2.1 HZ.out.2.2.2.2.2.2.2.2.2.2.2.2.2.1) hS0 ?_
  refine tk 9 12 (.int .u64 (s1 : Int)) (fuel := 13) rfl (by kernel_rfl) (by kernel_rfl) (by kernel_rfl) (by kernel_rfl) noPanic_false (by kernel_rfl) (fun W _ => x_add64 (x := .tmp 6) (y := .tmp 11) (p := y0) (q := z1) (r := s1) (by kernel_rfl) (by kernel_rfl) (by kernel_rfl) HZ.out.2.2.2.2.2.2.2.1 HZ.out.2.2.2.2.2.2.2.2.2.2.2.2.1) hS0 ?_
  refine tk 10 13 (.slice (some ⟨b, off, none⟩) 4 c) (fuel := 12) rfl (by kernel_rfl) (by kernel_rfl) (by kernel_rfl) (by kernel_rfl) noPanic_false (by kernel_rfl) (fun _ _ => by kernel_rfl) hS0 ?_
  refine tk 11 14 (.pointer (some ⟨b, off + 2, none⟩)) (fuel := 11) rfl (by kernel_rfl) (by kernel_rfl) (by kernel_rfl) (by kernel_rfl) noPanic_false (by kernel_rfl) (fun W _ => x_idxc (x := .tmp 13) (b := b) (off := off) (Z := 4) (c := c) (d := 2) (by kernel_rfl) (by kernel_rfl) (by omega)) hS0 ?_
  refine tk 12 15 (.int .u8 (y2 : Int)) (fuel := 10) rfl (by kernel_rfl) (by kernel_rfl) (by kernel_rfl) (by kernel_rfl) noPanic_false (by kernel_rfl) (fun W hW => x_ldc (t := 5) (x := .tmp 14) (g := b) (j := off + 2) Try.underlying5 rfl (by kernel_rfl) (by kernel_rfl) (HC.out W hW).2.2.1) hS0 ?_
  refine tk 13 16 (.int .u64 (y2 : Int)) (fuel := 9) rfl (by kernel_rfl) (by kernel_rfl) (by kernel_rfl) (by kernel_rfl) noPanic_false (by kernel_rfl) (fun W _ => x_conv839 (x := .tmp 15) (p := y2) (by kernel_rfl) (by kernel_rfl) HZ.out.2.2.1) hS0 ?_
  refine tk 14 17 (.int .u64 (z2 : Int)) (fuel := 8) rfl (by kernel_rfl) (by kernel_rfl) (by kernel_rfl) (by kernel_rfl) noPanic_false (by kernel_rfl) (fun W _ => x_shl64 (ty := 49) (k := .u64) (x := .tmp 16) (y := .const (.int .u64 16)) (p := y2) (q := 16) (r := z2) (by kernel_rfl) (by kernel_rfl) rfl (by omega) HZ.out.2.2.2.2.2.1 HZ.out.2.2.2.2.2.2.2.2.2.2.2.2.2.2.1) hS0 ?_
  refine tk 15 18 (.int .u64 (s2 : Int)) (fuel := 7) rfl (by kernel_rfl) (by kernel_rfl) (by kernel_rfl) (by kernel_rfl) noPanic_false (by kernel_rfl) (fun W _ => x_add64 (x := .tmp 12) (y := .tmp 17) (p := s1) (q := z2) (r := s2) (by kernel_rfl) (by kernel_rfl) (by kernel_rfl) HZ.out.2.2.2.2.2.2.2.2.1 HZ.out.2.2.2.2.2.2.2.2.2.2.2.1) hS0 ?_
  refine tk 16 19 (.slice (some ⟨b, off, none⟩) 4 c) (fuel := 6) rfl (by kernel_rfl) (by kernel_rfl) (by kernel_rfl) (by kernel_rfl) noPanic_false (by kernel_rfl) (fun _ _ => by kernel_rfl) hS0 ?_
  refine tk 17 20 (.pointer (some ⟨b, off + 3, none⟩)) (fuel := 5) rfl (by kernel_rfl) (by kernel_rfl) (by kernel_rfl) (by kernel_rfl) noPanic_false (by kernel_rfl) (fun W _ => x_idxc (x := .tmp 19) (b := b) (off := off) (Z := 4) (c := c) (d := 3) (by kernel_rfl) (by kernel_rfl) (by omega)) hS0 ?_
  refine tk 18 21 (.int .u8 (y3 : Int)) (fuel := 4) rfl (by kernel_rfl) (by kernel_rfl) (by kernel_rfl) (by kernel_rfl) noPanic_false (by kernel_rfl) (fun W hW => x_ldc (t := 5) (x := .tmp 20) (g := b) (j := off + 3) Try.underlying5 rfl (by kernel_rfl) (by kernel_rfl) (HC.out W hW).2.2.2) hS0 ?_
  refine tk 19 22 (.int .u64 (y3 : Int)) (fuel := 3) rfl (by kernel_rfl) (by kernel_rfl) (by kernel_rfl) (by kernel_rfl) noPanic_false (by kernel_rfl) (fun W _ => x_conv839 (x := .tmp 21) (p := y3) (by kernel_rfl) (by kernel_rfl) HZ.out.2.2.2.1) hS0 ?_
  refine tk 20 23 (.int .u64 (z3 : Int)) (fuel := 2) rfl (by kernel_rfl) (by kernel_rfl) (by kernel_rfl) (by kernel_rfl) noPanic_false (by kernel_rfl) (fun W _ => x_shl64 (ty := 49) (k := .u64) (x := .tmp 22) (y := .const (.int .u64 24)) (p := y3) (q := 24) (r := z3) (by kernel_rfl) (by kernel_rfl) rfl (by omega) HZ.out.2.2.2.2.2.2.1 HZ.out.2.2.2.2.2.2.2.2.2.2.2.2.2.2.2) hS0 ?_
  refine tk 21 24 (.int .u64 (s3 : Int)) (fuel := 1) rfl (by kernel_rfl) (by kernel_rfl) (by kernel_rfl) (by kernel_rfl) noPanic_false (by kernel_rfl) (fun W _ => x_add64 (x := .tmp 18) (y := .tmp 23) (p := s2) (q := z3) (r := s3) (by kernel_rfl) (by kernel_rfl) (by kernel_rfl) HZ.out.2.2.2.2.2.2.2.2.2.1 HZ.out.2.2.2.2.2.2.2.2.2.2.1) hS0 ?_
  refine tk 22 2 (.int .u64 (s3 : Int)) (fuel := 0) rfl (by kernel_rfl) (by kernel_rfl) (by kernel_rfl) (by kernel_rfl) noPanic_false (by kernel_rfl) (fun _ _ => by kernel_rfl) hS0 ?_
  refine wpAnyH_done (by kernel_rfl) (NoPanic.normal ?_) _
  have HS : Hid (After w w.drew) := hS0
  clear hS0
  go_simp
  go_wp2
  go_ret
  exact ⟨_, rfl, rfl, HS.out⟩
theorem rnumber_k (h : Hs) (h32 : h.length = 32) (B i c : Nat) (hi : i + 4 ≤ 32) (w : World) (hr : RowIs w B 29 (c8 h)) {r : Nat} (hr' : num4 h i = r) :
    Calls Try.prog 34 #[.slice (some ⟨B, i, none⟩) 4 c] w fun e w' => ∃ v, e = .returned v ∧ v = .int .u64 (r : Int) ∧ Below w.heap.size w w' :=
  (rnumber_any B i c ((h.drop i).take 4) (by rw [List.length_take, List.length_drop]; omega) w (cut_at h32 hr i hi)).mono (fun e w' ⟨v, he, hv, ha⟩ => ⟨v, he, by rw [hv, cut_num, hr'], ha⟩)
/-- A row of numbers of the call's own. -/
def c64 (l : List Nat) : List Value := l.map fun (q : Nat) => Value.int .u64 (q : Int)
def OwnU (w : World) (base : Nat) (v : Value) (l : List Nat) : Prop := w.ownsRow base 39 1 v l.length (c64 l)
theorem info39 : (Try.prog.info? 39).map (fun i => (i.zero, i.size, i.bytes)) = some (some (.int .u64 0), 1, 8) := by kernel_rfl
theorem c64_len (l : List Nat) : (c64 l).length = l.length := by simp [c64]
theorem c64_get (l : List Nat) (j : Nat) (h : j < l.length) : (c64 l)[j]? = some (.int .u64 ((l.getD j 0 : Nat) : Int)) := by simp [c64, List.getElem?_eq_getElem h]
theorem OwnU.at {w : World} {base : Nat} {v : Value} {l : List Nat} (h : OwnU w base v l) : ∃ ao cap, v = .slice ao l.length cap ∧ (l ≠ [] → ∃ b, ao = some ⟨b, 0, none⟩ ∧ ∀ j, j < l.length → w.cell? ⟨b, j, none⟩ = some (.int .u64 ((l.getD j 0 : Nat) : Int))) := by
  rcases h.2 with ⟨hv, h0⟩ | ⟨g, cap, cur, hv, hb, hg, hnc, _, hcs, ht⟩
  · have : l = [] := List.eq_nil_of_length_eq_zero h0
    subst this
    exact ⟨none, 0, hv, fun h => absurd rfl h⟩
  · subst hv
    refine ⟨_, cap, rfl, fun _ => ⟨g, rfl, fun j hj => ?_⟩⟩
    rw [World.ownsRow.cellAt h j (by omega), c64_get _ j hj]
theorem OwnU.after {w w' : World} {base : Nat} {v : Value} {l : List Nat} (h : OwnU w base v l) (ha : After w w') : OwnU w' base v l := by
  refine ⟨h.1, ?_⟩
  rcases h.2 with hn | ⟨g, cap, cur, hv, h1, h2, rest⟩
  · exact .inl hn
  · exact .inr ⟨g, cap, cur, hv, h1, (ha.block g (World.ownsRow.lt h g (by rw [hv]; rfl)).2).trans h2, rest⟩
theorem OwnU.one (w : World) (q : Nat) : OwnU (w.alloc (.cells #[.int .u64 (q : Int)] 39)) w.heap.size (.slice (some ⟨w.heap.size, 0, none⟩) 1 1) [q] :=
  ⟨rfl, .inr ⟨w.heap.size, 1, #[.int .u64 (q : Int)], rfl, Nat.le_refl _, heap_alloc_new w _, Nat.le_refl _, by decide, rfl, rfl⟩⟩
/-- append(own, q). -/
theorem wpList_append_u {w : World} {ops : Array Oper} {rest : List Oper} {o : Oper} {a : Act} {Q : Exit → Act → World → Prop} (hgd : o.guard = none) (s x : Operand)
    (ho : o.op = .call { callee := .builtin .append, args := #[s, x], argTypes := #[47, 47] })
    (base : Nat) (v : Value) (l : List Nat) (hs : a.eval s = v) (hown : OwnU w base v l) (g q : Nat) (hx : a.eval x = .slice (some ⟨g, 0, none⟩) 1 1) (hq : w.cell? ⟨g, 0, none⟩ = some (.int .u64 (q : Int)))
    (hbytes : (l.length + 1) * 8 ≤ 140737488355328) (hbase : base ≤ w.heap.size)
    (h : ∀ v' w', OwnU w' base v' (l ++ [q]) → w.grownBy w' v.ownBlock → wpList Try.prog ops Q rest (a.put o.dst v') w') : wpList Try.prog ops Q (o :: rest) a w := by
  obtain ⟨i, hi, hz⟩ := Option.map_eq_some_iff.1 info39
  simp only [Prod.mk.injEq] at hz
  obtain ⟨hz, hsz, hby⟩ := hz
  refine wpList_append_own w hgd s x 47 ho base 39 i (.int .u64 0) 1 8 Try.underlying47 hi hz hsz hby rfl (by omega) v l.length (c64 l) hs hown ⟨g, 0, none⟩ 1 1 (c64 [q]) hx rfl (fun j u hu => ?_) (fun u hu => ?_) (by unfold maxLen; omega) hbytes hbase ?_
  · have hj := (List.getElem?_eq_some_iff.1 hu).1
    rw [c64_len] at hj
    obtain rfl : j = 0 := by simpa using hj
    rw [Addr.add_mid]
    simp only [c64, List.map_cons, List.map_nil, List.getElem?_cons_zero, Option.some.injEq] at hu
    subst hu; exact hq
  · simp only [c64, List.map_cons, List.map_nil, List.mem_singleton] at hu
    subst hu; rfl
  · intro v' w' h1 h2 _
    exact h v' w' (by unfold OwnU; rw [List.length_append]; unfold c64; rw [List.map_append]; exact h1) h2
end Go.Proofs.Ytgcgblecendijaa
