/-
  THE WALK OF bloom.Make.
-/
import Derived.Test.YtgcgblecendijaaBL
import Derived.Laws.Small
namespace Go.Proofs.Ytgcgblecendijaa
open Go.RowKit Go.Shelf Leb
attribute [local go_sem] Oper.semAt_some
/-- The numbers of bits for each hash. -/
def bitsN (b : Int) : Nat := (min (max b 1) 64).toNat
theorem bitsN_ok (b : Int) : 1 ≤ bitsN b ∧ bitsN b ≤ 64 := by unfold bitsN; omega
theorem bitsN_int (b : Int) : ((bitsN b : Nat) : Int) = min (max b 1) 64 := by unfold bitsN; omega
/-- The unlike hashes of a list, rising. -/
structure Srt (l s : List Hs) : Prop where
  up : Up s
  mem : ∀ h, h ∈ s ↔ h ∈ l
  a32 : All32 s
  le : s.length ≤ l.length
theorem Srt.eq {l m s t : List Hs} (h : Srt l s) (g : Srt m t) (e : ∀ x, x ∈ l ↔ x ∈ m) : s = t := h.up.unique g.up (fun x => (h.mem x).trans ((e x).trans (g.mem x).symm))
/-- A filter's bytes. -/
def mkP (s : List Hs) (seed b : Nat) : Prt := ⟨s.length, seed, b⟩
def mkB (s : List Hs) (seed b : Nat) : List UInt8 := headB (mkP s seed b) ++ (mkP s seed b).fieldOf s
section
variable {o : Oper} {a : Act} {x y : Operand} {w : World}
theorem x_st5 {g j : Nat} {u : Value} {n : Int} (hop : o.op = .store 5 x y) (hx : a.eval x = .pointer (some ⟨g, j, none⟩)) (hy : a.eval y = .int .u8 n) (hc : w.cell? ⟨g, j, none⟩ = some u) (hf : w.frozen? ⟨g, j, none⟩ = false) : (execOp a.eval o).run Try.prog w = .ok .skip (w.setCell ⟨g, j, none⟩ (.int .u8 n)) := by
  unfold execOp
  simp only [hop, hx, hy]
  simp [go_sem, hc, hf, Instr.storeAt, Instr.sureAddr]
theorem x_max {p r : Int} (hop : o.op = .call { callee := .builtin .max, args := #[x, y], argTypes := #[3, 3] }) (hx : a.eval x = .int .i64 p) (hy : a.eval y = .int .i64 1) (h : max p 1 = r) : (execOp a.eval o).run Try.prog w = .ok (.value (.int .i64 r)) w := by
  have e : (if (1 : Int) > p then (1 : Int) else p) = r := by rw [← h]; split <;> omega
  have hm := run_max_int2 (P := Try.prog) (w := w) #[3, 3] o.type .i64 .i64 p 1
  rw [e] at hm
  simp [execOp, hop, resolve, invoke, builtin, hx, hy, hm, Result.andThen]
theorem x_min {p r : Int} (hop : o.op = .call { callee := .builtin .min, args := #[x, y], argTypes := #[3, 3] }) (hx : a.eval x = .int .i64 p) (hy : a.eval y = .int .i64 64) (h : min p 64 = r) : (execOp a.eval o).run Try.prog w = .ok (.value (.int .i64 r)) w := by
  have e : (if (64 : Int) < p then (64 : Int) else p) = r := by rw [← h]; split <;> omega
  have hm := run_min_int2 (P := Try.prog) (w := w) #[3, 3] o.type .i64 .i64 p 64
  rw [e] at hm
  simp [execOp, hop, resolve, invoke, builtin, hx, hy, hm, Result.andThen]
end
theorem make_u (W : World) (c : Nat) (hc : c ≤ 1000000000) :
    (Instr.makeSlice 26 (.int .u64 (c : Int)) (.int .u64 (c : Int))).run Try.prog W = .ok (.slice (some ⟨W.heap.size, 0, none⟩) c c) (W.alloc (.cells (c8 (List.replicate c 0)).toArray 5)) := by
  obtain ⟨i, hi, hz⟩ := Option.map_eq_some_iff.1 bytes5
  simp only [Prod.mk.injEq] at hz
  obtain ⟨hz, hs, hb⟩ := hz
  have := run_make (P := Try.prog) W 26 5 i (.int .u8 0) Try.underlying26 hi hz .u64 .u64 c c (by omega) (by omega) (by rw [hb]; omega) (by omega)
  rw [this, hs, Nat.mul_one, Int.toNat_natCast, made_zero]
/-- What the loop keeps. -/
structure MkI (w1 : World) (p : Prt) (s : List Hs) (so : Option Addr) (gf k : Nat) (ds : List Nat) (W : World) : Prop where
  bp : RowIs W w1.heap.size 41 (pc p)
  bf : RowIs W (gf + 1) 26 [.slice (some ⟨gf, 0, none⟩) p.size p.size]
  fld : RowIs W gf 5 (c8 (p.fieldOf (s.take k)))
  aft : After w1 W
  hs : HsAt W so s
  mrk : ∀ D ∈ ds, w1.heap.size ≤ D ∧ W.heap[D]? = some (.deferred (some []))
  nd : ds.Nodup
  low : ∀ a, so = some a → s ≠ [] → a.block < w1.heap.size
  lt : w1.heap.size < gf
theorem MkI.after {w1 : World} {p : Prt} {s : List Hs} {so : Option Addr} {gf k : Nat} {ds : List Nat} {W W' : World} (h : MkI w1 p s so gf k ds W) (ha : After W W') : MkI w1 p s so gf k ds W' :=
  ⟨h.bp.below ha h.bp.lt, h.bf.below ha h.bf.lt, h.fld.below ha h.fld.lt, h.aft.trans ha, h.hs.after ha, fun D hD => ⟨(h.mrk D hD).1, (ha.block D (Array.getElem?_eq_some_iff.1 (h.mrk D hD).2).1).trans (h.mrk D hD).2⟩, h.nd, h.low, h.lt⟩
/-- What a range over the places keeps. -/
structure InI (w1 : World) (p : Prt) (s : List Hs) (so : Option Addr) (gf : Nat) (ds : List Nat) (f : List UInt8) (W : World) : Prop where
  bp : RowIs W w1.heap.size 41 (pc p)
  bf : RowIs W (gf + 1) 26 [.slice (some ⟨gf, 0, none⟩) p.size p.size]
  fld : RowIs W gf 5 (c8 f)
  aft : After w1 W
  hs : HsAt W so s
  mrk : ∀ D ∈ ds, W.heap[D]? = some (.deferred (some []))
  low : ∀ a, so = some a → s ≠ [] → a.block < w1.heap.size
  lt : w1.heap.size < gf
theorem InI.grown {w1 : World} {p : Prt} {s : List Hs} {so : Option Addr} {gf : Nat} {ds : List Nat} {f : List UInt8} {W W' : World} {row : Option Nat} (h : InI w1 p s so gf ds f W) (hg : W.grownBy W' row) (hr : ∀ r, row = some r → ∃ o : Obj, W.heap[r]? = some o ∧ o.isCells = false ∧ r ∉ ds ∧ w1.heap.size ≤ r) : InI w1 p s so gf ds f W' := by
  have hb : Below w1.heap.size w1 W' := h.aft.grown hg h.aft.size (fun r e => by obtain ⟨o, _, _, _, hl⟩ := hr r e; exact hl)
  have hne : ∀ {g : Nat} {t : TypeId} {cs : List Value}, RowIs W g t cs → row ≠ some g := fun hb e => by
    obtain ⟨o, ho, hc, _⟩ := hr _ e
    rw [show W.heap[_]? = _ from hb] at ho; cases ho; cases hc
  refine ⟨grown_row h.bp hg (hne h.bp), grown_row h.bf hg (hne h.bf), grown_row h.fld hg (hne h.fld), hb, ?_, fun D hD => ?_, h.low, h.lt⟩
  · refine BytesAt.below (B := w1.heap.size) h.hs (Below.grown (Below.refl _ _) hg h.aft.size (fun r e => by obtain ⟨o, _, _, _, hl⟩ := hr r e; exact hl)) (fun a ha hn => h.low a ha (fun e => hn (by rw [e]; rfl)))
  · exact (hg.block D (Array.getElem?_eq_some_iff.1 (h.mrk D hD)).1 (fun e => by obtain ⟨o, _, _, hd, _⟩ := hr D e.symm; exact hd hD)).trans (h.mrk D hD)
theorem InI.set {w1 : World} {p : Prt} {s : List Hs} {so : Option Addr} {gf : Nat} {ds : List Nat} {f f' : List UInt8} {W : World} (h : InI w1 p s so gf ds f W) (d : Nat) (v : Value) (hf : c8 f' = (c8 f).set d v) : InI w1 p s so gf ds f' (W.setCell ⟨gf, d, none⟩ v) := by
  have hlt := h.lt
  refine ⟨h.bp.other _ _ (by show w1.heap.size ≠ gf; omega), h.bf.other _ _ (by show gf + 1 ≠ gf; omega), by rw [hf]; exact h.fld.set d v, Below.setCell h.aft (p := ⟨gf, d, none⟩) (by show w1.heap.size ≤ gf; omega) _, ?_, fun D hD => (KeepsOthers.setCell W ⟨gf, d, none⟩ v).same D _ (h.mrk D hD) rfl, h.low, h.lt⟩
  exact BytesAt.below (B := w1.heap.size) h.hs (Below.setCell (Below.refl _ _) (p := ⟨gf, d, none⟩) (by show w1.heap.size ≤ gf; omega) _) (fun a ha hn => h.low a ha (fun e => hn (by rw [e]; rfl)))
theorem MkI.inner {w1 : World} {p : Prt} {s : List Hs} {so : Option Addr} {gf k : Nat} {ds : List Nat} {W : World} {F0 : List UInt8} (h : MkI w1 p s so gf k ds W) (hF : p.fieldOf (s.take k) = F0) : InI w1 p s so gf ds F0 W :=
  ⟨h.bp, h.bf, by rw [← hF]; exact h.fld, h.aft, h.hs, fun D hD => (h.mrk D hD).2, h.low, h.lt⟩
theorem Own.keep' {w w' : World} {B : Nat} {v : Value} {l : List UInt8} (h : Own w B v l) (hk : ∀ k, v.ownBlock = some k → w'.heap[k]? = w.heap[k]?) : Own w' B v l := by
  refine ⟨h.1, ?_⟩
  rcases h.2 with hn | ⟨g, cap, cur, rfl, h1, h2, rest⟩
  · exact .inl hn
  · exact .inr ⟨g, cap, cur, rfl, h1, by rw [hk g rfl]; exact h2, rest⟩
theorem own_cells {W : World} {base : Nat} {v : Value} {ls : List UInt8} (h : Own W base v ls) {g : Nat} (hg : v.ownBlock = some g) : ∃ c t f, W.heap[g]? = some (.cells c t f) := by
  rcases h.2 with ⟨rfl, _⟩ | ⟨g', cap, cur, rfl, _, h2, _⟩
  · cases hg
  · cases hg; exact ⟨_, _, _, h2⟩
theorem row_bytes {W : World} {g : Nat} {f : List UInt8} (h : RowIs W g 5 (c8 f)) : BytesAt W (some ⟨g, 0, none⟩) f := fun _ => ⟨g, 0, rfl, fun j hj => by rw [Nat.zero_add]; exact h.cell (c8_get f j hj)⟩
theorem After.trans' {a b c : World} (h : After a b) (k : Below a.heap.size b c) : After a c := Below.trans h k
/-- Marks taken one by one. -/
abbrev mark (D : Nat) : Deferred := { target := .collected D, args := #[] }
structure Shut (ds : List Nat) (w w' : World) : Prop where
  os : w'.os = w.os
  tape : w'.tape = w.tape
  output : w'.output = w.output
  size : w'.heap.size = w.heap.size
  block : ∀ k, k ∉ ds → w'.heap[k]? = w.heap[k]?
theorem leaves_marks {F : Fence} {n : Nat} {fn : Func} {tmps : Array Value} {R : Ending → World → Prop} : ∀ (ds : List Nat) (w : World), ds.Nodup → (∀ D ∈ ds, w.heap[D]? = some (.deferred (some []))) → (∀ w', Shut ds w w' → ∃ v, (results fn tmps).run Try.prog w' = .ok v w' ∧ R (.returned v) w') →
    LeavesInM F n Try.prog fn tmps R (ds.map mark) .returning w
  | [], w, _, _, h => by
    obtain ⟨v, h1, h2⟩ := h w ⟨rfl, rfl, rfl, rfl, fun _ _ => rfl⟩
    exact ⟨v, h1, h2⟩
  | D :: ds, w, hn, hd, h => by
    have hD := hd D (by simp)
    have hnd := List.nodup_cons.1 hn
    refine ⟨by simp, .inl ⟨D, _, rfl, run_takeDeferred hD, ?_⟩⟩
    refine leaves_marks ds _ hnd.2 (fun E hE => ?_) (fun w' hs => ?_)
    · rw [World.putObj_heap_other (fun e => hnd.1 (by rw [← e]; exact hE))]; exact hd E (by simp [hE])
    · refine h w' ⟨hs.os, hs.tape, hs.output, hs.size.trans World.putObj_size, fun k hk => ?_⟩
      rw [hs.block k (fun e => hk (by simp [e])), World.putObj_heap_other (fun e => hk (by simp [e]))]
theorem Shut.below {ds : List Nat} {w w' : World} {B : Nat} (h : Shut ds w w') (hB : ∀ D ∈ ds, B ≤ D) : Below B w w' :=
  ⟨h.os, h.tape, h.output, Nat.le_of_eq h.size.symm, fun k hk => h.block k (fun e => by have := hB k e; omega)⟩

set_option maxRecDepth 100000 in
set_option maxHeartbeats 6000000 in
theorem bmake_any (ao : Option Addr) (n ca : Nat) (l : List Hs) (h32 : All32 l) (hl : l.length = n) (hn : n ≤ 65536) (seed : Nat) (hsd : seed < 4294967296) (bits : Int) (w : World) (hA : HsAt w ao l) :
    Calls Try.prog 11 #[.slice ao n ca, .int .u32 (seed : Int), .int .i64 bits] w fun e w' => ∃ s v, e = .returned v ∧ Srt l s ∧ Own w' w.heap.size v (mkB s seed (bitsN bits)) ∧ After w w' := by
  have HC := show Hid _ from sort12 (sortOK_all 100000 (by omega)) ao ca l h32 n hl (by omega) (by omega) w hA
  have HL : Hid (l.length = n ∧ n ≤ 65536 ∧ seed < 4294967296) := ⟨hl, hn, hsd⟩
  obtain ⟨b1, hb1⟩ : ∃ b, max bits 1 = b := ⟨_, rfl⟩
  obtain ⟨bN, hbN⟩ : ∃ b, bitsN bits = b := ⟨_, rfl⟩
  have HB : Hid (max bits 1 = b1 ∧ min b1 64 = (bN : Int) ∧ 1 ≤ bN ∧ bN ≤ 64) := ⟨hb1, by rw [← hbN, bitsN_int, hb1], by rw [← hbN]; exact (bitsN_ok bits).1, by rw [← hbN]; exact (bitsN_ok bits).2⟩
  rw [hbN]
  clear h32 hl hn hA hsd hb1 hbN
  refine (callsIn_wide (n := 4)).1 ?_
  refine callsIn_of_wp_marks Try.func11 rfl trivial ?_ rfl
  simp only [Try.ntmps11, List.size_toArray, List.length_cons, List.length_nil, Nat.reduceAdd, Nat.reduceSub, Array.replicate_succ, Array.replicate_zero, List.push_toArray, List.append_toArray, List.nil_append, List.cons_append]
  refine wpIn_seq ?_
  refine wpIn_wide.2 ?_
  go_wp2_with fail
  refine wpIn_seq ?_
  refine wpIn_wide.2 ?_
  go_wp2_with (go_at_call 19; refine Calls.mono HC.out ?_; rintro e w1 ⟨v1, s, rfl, ho, ha32, hup, hmem, hle, ha⟩; obtain ⟨so, sc, rfl, hsat, _, hsb, hsn⟩ := ho.at; obtain ⟨N, hN⟩ : ∃ N, s.length = N := ⟨_, rfl⟩; rw [hN]; have H1 := show Hid (After w w1 ∧ Srt l s ∧ HsAt w1 so s ∧ s.length = N ∧ N ≤ 65536 ∧ ∀ a, so = some a → a.block < w1.heap.size) from ⟨ha, ⟨hup, hmem, ha32, by rw [HL.out.1]; exact hle⟩, hsat, hN, by have := HL.out.2.1; omega, fun a e => (hsb a e).2⟩; clear hsb hsn ho ha32 hup hmem hle ha hsat hN)
  obtain ⟨p, hp⟩ : ∃ p, Prt.mk N seed bN = p := ⟨_, rfl⟩
  have HP : Hid (p = mkP s seed bN ∧ p.Ok) := by
    refine ⟨by rw [← hp, ← H1.out.2.2.2.1]; rfl, ?_⟩
    rw [← hp]; exact ⟨H1.out.2.2.2.2.1, HL.out.2.2, HB.out.2.2.1, HB.out.2.2.2⟩
  have hpc : pc p = [.int .u64 (N : Int), .int .u64 (seed : Int), .int .u64 (bN : Int)] := by rw [← hp]
  obtain ⟨Z, hZ⟩ : ∃ Z, p.size = Z := ⟨_, rfl⟩
  have HZ : Hid (p.size = Z ∧ Z ≤ 524288) := ⟨hZ, by rw [← hZ]; exact HP.out.2.size⟩
  obtain ⟨w2, hw2⟩ : ∃ w2, (w1.alloc (.cells #[.int .u64 0, .int .u64 0, .int .u64 0] 41)).setRow w1.heap.size (pc p).toArray = w2 := ⟨_, rfl⟩
  have H2 : Hid (After w1 w2 ∧ RowIs w2 w1.heap.size 41 (pc p) ∧ w2.heap.size = w1.heap.size + 1) := by
    rw [← hw2]
    exact ⟨Below.row (after_alloc (After.refl w1) _) (Nat.le_refl _) _, (RowIs.new w1 41 (pc ⟨0, 0, 0⟩)).setRow _, by simp⟩
  rw [hpc] at hw2
  clear hp hZ HC
  refine wpIn_seq ?_
  refine wpIn_wide.2 ?_
  go_wp2_with (first
    | (refine wpList_of_run rfl (x_conv339 (x := .tmp 16) (p := N) rfl rfl (by have := H1.out.2.2.2.2.1; omega)) ?_)
    | (refine wpList_of_run rfl (x_conv2339 (x := .tmp 18) (p := seed) rfl rfl (by have := HL.out.2.2; omega)) ?_)
    | (refine wpList_of_run rfl (x_max (x := .tmp 20) (y := .const (.int .i64 1)) (p := bits) (r := b1) rfl rfl rfl HB.out.1) ?_)
    | (refine wpList_of_run rfl (x_min (x := .tmp 21) (y := .const (.int .i64 64)) (p := b1) (r := (bN : Int)) rfl rfl rfl HB.out.2.1) ?_)
    | (refine wpList_of_run rfl (x_conv339 (x := .tmp 22) (p := bN) rfl rfl (by have := HB.out.2.2.2; omega)) ?_)
    | (refine wpList_store_row rfl 41 (.tmp 8) (.tmp 24) rfl w1.heap.size [.int .u64 (N : Int), .int .u64 (seed : Int), .int .u64 (bN : Int)].toArray rfl rfl 41 _ (RowIs.new w1 41 (pc ⟨0, 0, 0⟩)) (size_pc ⟨N, seed, bN⟩) rfl (all41 ⟨N, seed, bN⟩) ?_; simp only [hw2]))
  refine wpIn_seq ?_
  refine wpIn_wide.2 ?_
  go_wp2_with (first
    | (go_at_call 20; refine Calls.mono (size_any p (by have := HP.out.2.mul; omega) w2) ?_; rintro e w3 ⟨rfl, ha⟩; rw [HZ.out.1]; have H3 := show Hid (After w1 w3 ∧ RowIs w3 w1.heap.size 41 (pc p)) from ⟨H2.out.1.trans ha, H2.out.2.1.below ha H2.out.2.1.lt⟩; have hmk := make_u w3 Z (by have := HZ.out.2; omega); clear ha)
    | (refine wpList_of_run rfl (x_ld41 (x := .tmp 8) (g := w1.heap.size) (p := p) rfl rfl H2.out.2.1) ?_))
  obtain ⟨w4, hw4⟩ : ∃ w4, (w3.alloc (.cells (c8 (List.replicate Z 0)).toArray 5)).alloc (.cells #[.slice (some ⟨w3.heap.size, 0, none⟩) Z Z] 26) = w4 := ⟨_, rfl⟩
  obtain ⟨gf, hgf⟩ : ∃ g, w3.heap.size = g := ⟨_, rfl⟩
  have H4 : Hid (MkI w1 p s so gf 0 [] w4) := by
    have hlt := H3.out.2.lt
    have hA : After w1 w4 := by rw [← hw4]; exact after_alloc (after_alloc H3.out.1 _) _
    have hb : RowIs w4 (w3.heap.size + 1) 26 [.slice (some ⟨w3.heap.size, 0, none⟩) Z Z] := by
      have h := RowIs.new (w3.alloc (.cells (c8 (List.replicate Z 0)).toArray 5)) 26 [.slice (some ⟨w3.heap.size, 0, none⟩) Z Z]
      rw [← hw4]; simpa using h
    refine ⟨?_, ?_, ?_, hA, H1.out.2.2.1.after hA, fun D hD => (by cases hD), List.nodup_nil, fun a ha hne => H1.out.2.2.2.2.2 a ha, by omega⟩
    · rw [← hw4]; exact (H3.out.2.alloc _).alloc _
    · rw [← hgf, HZ.out.1]; exact hb
    · have e : p.fieldOf (s.take 0) = List.replicate Z 0 := by show List.replicate p.size 0 = _; rw [HZ.out.1]
      rw [← hw4, ← hgf, e]; exact (RowIs.new w3 5 (c8 (List.replicate Z 0))).alloc _
  try simp only [hw4]
  clear hmk hw4 hw2
  rw [hgf]
  refine wpIn_seq ?_
  refine wpIn_seq ?_
  refine wpIn_wide.2 ?_
  go_wp2_with fail
  clear hgf H2
  gi_wp2
  refine wpIn_loop (fun a W => ∃ (k : Nat) (ds : List Nat) (u11 u31 u32 u33 u34 u35 u36 u48 : Value), k ≤ N ∧ a = { tmps := #[.slice ao n ca, .int .u32 (seed : Int), .int .i64 bits, undef, undef, undef, .slice none 0 0, .slice so N sc, .pointer (some ⟨w1.heap.size, 0, none⟩), .pointer (some ⟨gf + 1, 0, none⟩), undef, u11, undef, .slice ao n ca, .slice so N sc, .slice so N sc, .int .i64 (N : Int), .int .u64 (N : Int), .int .u32 (seed : Int), .int .u64 (seed : Int), .int .i64 bits, .int .i64 b1, .int .i64 (bN : Int), .int .u64 (bN : Int), .agg #[.int .u64 (N : Int), .int .u64 (seed : Int), .int .u64 (bN : Int)], pV p, .int .u64 (Z : Int), .slice (some ⟨gf, 0, none⟩) Z Z, .slice so N sc, .int .i64 (N : Int), .int .i64 (k : Int), u31, u32, u33, u34, u35, u36, undef, undef, undef, undef, undef, undef, undef, undef, undef, undef, undef, u48, undef, undef, undef, undef], defers := ds.map mark } ∧ Hid (MkI w1 p s so gf k ds W)) (fun a _ => N - (intOf (a.tmps.getD 30 undef)).toNat) ⟨0, [], undef, undef, undef, undef, undef, undef, undef, undef, by omega, rfl, H4.out⟩ ?_
  rintro a W ⟨k, ds, u11, u31, u32, u33, u34, u35, u36, u48, hk, rfl, HI⟩
  by_cases hlt : k < N
  · have hki : (k : Int) < (N : Int) := by omega
    obtain ⟨h, hh⟩ : ∃ h, s[k]? = some h := ⟨_, List.getElem?_eq_getElem (by rw [H1.out.2.2.2.1]; exact hlt)⟩
    have HH : Hid (s[k]? = some h ∧ h.length = 32) := ⟨hh, H1.out.2.1.a32.at hh⟩
    obtain ⟨sb, sf, rfl, hrange⟩ := HI.out.hs.get H1.out.2.1.a32 (by intro e; rw [e] at hh; simp at hh)
    have HRG : Hid (W.rangeAt sb (sf + k * 32) (c8 h)) := hrange k h hh
    clear hh hrange
    refine wpIn_seq ?_
    refine wpIn_wide.2 ?_
    go_wp2_with fail
    refine wpIn_seq ?_
    refine wpIn_wide.2 ?_
    go_wp2_with fail
    refine wpIn_seq ?_
    refine wpIn_block ?_
    refine wpIn_seq ?_
    refine wpIn_wide.2 ?_
    obtain ⟨w5, hw5⟩ : ∃ w5, (W.alloc (.cells (c8 zero32).toArray 29)).setRow W.heap.size (c8 h).toArray = w5 := ⟨_, rfl⟩
    have H5 : Hid (After W w5 ∧ RowIs w5 W.heap.size 29 (c8 h)) := by
      rw [← hw5]
      exact ⟨Below.row (after_alloc (After.refl W) _) (Nat.le_refl _) _, (RowIs.new W 29 (c8 zero32)).setRow _⟩
    have hw5' : (W.alloc (.cells #[.int .u8 0, .int .u8 0, .int .u8 0, .int .u8 0, .int .u8 0, .int .u8 0, .int .u8 0, .int .u8 0, .int .u8 0, .int .u8 0, .int .u8 0, .int .u8 0, .int .u8 0, .int .u8 0, .int .u8 0, .int .u8 0, .int .u8 0, .int .u8 0, .int .u8 0, .int .u8 0, .int .u8 0, .int .u8 0, .int .u8 0, .int .u8 0, .int .u8 0, .int .u8 0, .int .u8 0, .int .u8 0, .int .u8 0, .int .u8 0, .int .u8 0, .int .u8 0] 29)).setRow W.heap.size (c8 h).toArray = w5 := hw5
    clear hw5
    go_wp2_with (first
      | (refine wpList_of_run rfl (x_idx22 (x := .tmp 28) (y := .tmp 30) (b := sb) (f := sf) (n := N) (k := k) rfl rfl rfl hlt) ?_)
      | (refine wpList_of_run rfl (x_ld24 HH.out.2 (x := .tmp 32) (g := sb) (p := sf + k * 32) rfl rfl HRG.out) ?_)
      | (refine wpList_store_row rfl 29 (.tmp 11) (.tmp 33) rfl W.heap.size (c8 h).toArray rfl rfl 29 _ (RowIs.new W 29 (c8 zero32)) (size24a HH.out.2) (by simp [c8_len, HH.out.2, zero32]) (hs_one h) ?_; simp only [hw5']; clear hw5'))
    have HI5 := show Hid (MkI w1 p s (some ⟨sb, sf, none⟩) gf k ds w5) from HI.out.after H5.out.1
    refine wpIn_seq ?_
    refine wpIn_wide.2 ?_
    go_wp2_with (first
      | (go_at_call 21; refine Calls.mono (places_any p h HH.out.2 w5) ?_; rintro e w6 ⟨rfl, r1, r2, ha, hs6⟩; have H6 := show Hid (MkI w1 p s (some ⟨sb, sf, none⟩) gf k ds w6 ∧ RowIs w6 w5.heap.size 41 (pc p) ∧ RowIs w6 (w5.heap.size + 1) 29 (c8 h)) from ⟨HI5.out.after ha, r1, r2⟩; clear r1 r2 ha hs6)
      | (refine wpList_of_run rfl (x_ld41 (x := .tmp 8) (g := w1.heap.size) (p := p) rfl rfl HI5.out.bp) ?_)
      | (refine wpList_of_run rfl (x_ld29 (x := .tmp 11) (g := W.heap.size) (h := h) HH.out.2 rfl rfl H5.out.2) ?_))
    refine wpIn_block ?_
    obtain ⟨F0, hF0⟩ : ∃ f, p.fieldOf (s.take k) = f := ⟨_, rfl⟩
    have HF0 : Hid (p.fieldOf (s.take k) = F0 ∧ F0.length = Z) := ⟨hF0, by rw [← hF0, Prt.fieldOf_len]; exact HZ.out.1⟩
    have HF1 : Hid (setBits F0 (p.plc h 7) = p.fieldOf (s.take (k + 1))) := by
      unfold Hid
      rw [List.take_add_one, HH.out.1, Option.toList_some, Prt.fieldOf_snoc, hF0]
    have HALL : Hid (0 < p.all ∧ p.all = Z * 8) := by
      have hm : 0 < p.many := by rw [HP.out.1]; show 0 < s.length; rw [H1.out.2.2.2.1]; omega
      have := HP.out.2.size_pos hm
      refine ⟨by unfold Prt.all; omega, by unfold Prt.all; rw [HZ.out.1]⟩
    clear hF0
    refine wpIn_rangeFunc_ownG rfl (by omega) (gf := 30) (lb := #[.pointer (some ⟨w5.heap.size, 0, none⟩), .pointer (some ⟨w5.heap.size + 1, 0, none⟩)]) rfl trivial (enters_of Try.func30 (by kernel_rfl) rfl)
      (plc_stops w1.heap.size w5.heap.size (w5.heap.size + 1) p HP.out.2.seed (by have := HP.out.2.mul; omega) HALL.out.1 h HH.out.2 w6 H6.out.2.1 H6.out.2.2) belowK_t (belowK_b H6.out.1.aft.size) (Below.refl _ _) (fun _ => rfl)
      (fun (pre : List (Pl p.all)) W' => InI w1 p s (some ⟨sb, sf, none⟩) gf ds (setBits F0 (pre.map (fun x : Pl p.all => x.1))) W')
      (fun _ _ _ => False)
      (fun pre W' W'' row hs hg hr => hs.grown hg (fun r e => by
        obtain ⟨h1, o, ho, hc⟩ := hr r e
        exact ⟨o, ho, hc, fun hd => (by have := (Array.getElem?_eq_some_iff.1 (H6.out.1.mrk r hd).2).1; omega), Nat.le_trans H6.out.1.aft.size h1⟩))
      (fun _ _ _ _ _ hs _ _ => hs)
      (H6.out.1.inner HF0.out.1)
      (fun x => { tmps := #[.slice ao n ca, .int .u32 (seed : Int), .int .i64 bits, undef, undef, undef, .slice none 0 0, .slice (some ⟨sb, sf, none⟩) N sc, .pointer (some ⟨w1.heap.size, 0, none⟩), .pointer (some ⟨gf + 1, 0, none⟩), undef, .pointer (some ⟨W.heap.size, 0, none⟩), .int .u64 (x.1 : Int), .slice ao n ca, .slice (some ⟨sb, sf, none⟩) N sc, .slice (some ⟨sb, sf, none⟩) N sc, .int .i64 (N : Int), .int .u64 (N : Int), .int .u32 (seed : Int), .int .u64 (seed : Int), .int .i64 bits, .int .i64 b1, .int .i64 (bN : Int), .int .u64 (bN : Int), .agg #[.int .u64 (N : Int), .int .u64 (seed : Int), .int .u64 (bN : Int)], pV p, .int .u64 (Z : Int), .slice (some ⟨gf, 0, none⟩) Z Z, .slice (some ⟨sb, sf, none⟩) N sc, .int .i64 (N : Int), .int .i64 (k : Int), .bool true, .pointer (some ⟨sb, sf + k * 32, none⟩), hv h, pV p, .agg (c8 h).toArray, .func (.func 30) #[] #[.pointer (some ⟨w5.heap.size, 0, none⟩), .pointer (some ⟨w5.heap.size + 1, 0, none⟩)], .int .u64 (x.1 : Int), undef, undef, undef, undef, undef, undef, undef, undef, undef, undef, u48, undef, undef, undef, undef], defers := [] }) ?assign ?body ?done ?stop
    case assign =>
      intro lp x W' K hK
      gi_wp2
      exact hK
    case body =>
      rintro lp pre ⟨q, hq⟩ W' hin hltN
      have HIN := show Hid (InI w1 p s (some ⟨sb, sf, none⟩) gf ds (setBits F0 (pre.map (·.1))) W') from hin
      obtain ⟨f, hf⟩ : ∃ f, setBits F0 (pre.map (·.1)) = f := ⟨_, rfl⟩
      rw [hf] at HIN
      have hfl : f.length = Z := by rw [← hf, setBits_len]; exact HF0.out.2
      have hqk : q / 8 < Z := by rw [HALL.out.2] at hq; omega
      obtain ⟨d, hd⟩ : ∃ d, q / 8 = d := ⟨_, rfl⟩
      obtain ⟨r, hr⟩ : ∃ d, q % 8 = d := ⟨_, rfl⟩
      obtain ⟨y, hy⟩ : ∃ y, (f.getD d 0).toNat = y := ⟨_, rfl⟩
      obtain ⟨t, ht⟩ : ∃ t, 2 ^ r = t := ⟨_, rfl⟩
      obtain ⟨z, hz⟩ : ∃ z, y ||| t = z := ⟨_, rfl⟩
      have hyl : y < 256 := by rw [← hy]; exact UInt8.toNat_lt _
      have hrl : r < 8 := by omega
      have htl : t < 256 := by rw [← ht]; exact Nat.pow_lt_pow_right (n := 8) (by omega) hrl
      have HSET : Hid (c8 (setBit f q) = (c8 f).set d (.int .u8 (z : Int)) ∧ setBits F0 ((pre ++ [(⟨q, hq⟩ : Pl p.all)]).map (·.1)) = setBit f q) := by
        refine ⟨?_, by rw [List.map_append, ← hf]; exact setBits_snoc _ _ _⟩
        unfold setBit
        rw [hd, hr, hy, ht, hz]
        unfold c8
        rw [List.map_set]
        congr 2
        rw [UInt8.toNat_ofNat_of_lt' (by rw [← hz, ← ht]; exact or_lt hyl hrl)]
      have HC1 : Hid (W'.cell? ⟨gf + 1, 0, none⟩ = some (.slice (some ⟨gf, 0, none⟩) Z Z)) := by
        have := HIN.out.bf.cell (j := 0) rfl
        rw [HZ.out.1] at this; exact this
      have HC2 : Hid (W'.cell? ⟨gf, 0 + d, none⟩ = some (.int .u8 (y : Int))) := by
        rw [Nat.zero_add, ← hy]; exact HIN.out.fld.cell (c8_get f d (by omega))
      have HQ : Hid (q / 8 = d ∧ q % 8 = r ∧ 2 ^ r = t ∧ y ||| t = z ∧ y < 256 ∧ t < 256 ∧ d < Z ∧ r < 8 ∧ d < 18446744073709551616) := ⟨hd, hr, ht, hz, hyl, htl, by omega, hrl, by have := HZ.out.2; omega⟩
      clear hin hf hfl hqk hd hr hy ht hz hyl hrl htl hltN
      gi_wp2_with (first
        | (refine wpListIn_run rfl (fun _ => trivial) (fun _ h => by cases h) (x_ldc (t := 26) (x := .tmp 9) (g := gf + 1) (j := 0) Try.underlying26 rfl rfl rfl HC1.out) ?_)
        | (refine wpListIn_run rfl (fun _ => trivial) (fun _ h => by cases h) (x_quo64 (x := .tmp 39) (y := .const (.int .u64 8)) (p := q) (q := 8) (r := d) rfl rfl rfl HQ.out.1 ⟨by omega, HQ.out.2.2.2.2.2.2.2.2⟩) ?_)
        | (refine wpListIn_run rfl (fun _ => trivial) (fun _ h => by cases h) (x_idxb (x := .tmp 38) (y := .tmp 40) (d := d) rfl rfl rfl HQ.out.2.2.2.2.2.2.1) ?_)
        | (refine wpListIn_run rfl (fun _ => trivial) (fun _ h => by cases h) (x_ldc (t := 5) (x := .tmp 41) (g := gf) (j := 0 + d) Try.underlying5 rfl rfl rfl HC2.out) ?_)
        | (refine wpListIn_run rfl (fun _ => trivial) (fun _ h => by cases h) (x_rem64 (x := .tmp 43) (y := .const (.int .u64 8)) (p := q) (q := 8) (r := r) rfl rfl rfl HQ.out.2.1 (by omega)) ?_)
        | (refine wpListIn_run rfl (fun _ => trivial) (fun _ h => by cases h) (x_shl8 (x := .const (.int .u8 1)) (y := .tmp 44) (q := r) (r := t) rfl rfl rfl HQ.out.2.2.2.2.2.2.2.1 HQ.out.2.2.1) ?_)
        | (refine wpListIn_run rfl (fun _ => trivial) (fun _ h => by cases h) (x_or8 (x := .tmp 42) (y := .tmp 45) (p := y) (q := t) (r := z) rfl rfl rfl HQ.out.2.2.2.2.1 HQ.out.2.2.2.2.2.1 HQ.out.2.2.2.1) ?_)
        | (refine wpListIn_st rfl rfl (fun _ => trivial) (fun _ h => by cases h) (x_st5 (x := .tmp 47) (y := .tmp 46) (g := gf) (j := 0 + d) rfl rfl rfl HC2.out (HIN.out.fld.frozen _)) ?_))
      refine ⟨(KeepsOthers.setCell _ _ _).from _, Below.setCell (Below.refl _ _) (p := ⟨gf, 0 + d, none⟩) (by show w1.heap.size ≤ gf; have := HIN.out.lt; omega) _, ?_⟩
      have := HIN.out.set d (.int .u8 (z : Int)) HSET.out.1
      show InI w1 p s (some ⟨sb, sf, none⟩) gf ds (setBits F0 ((pre ++ [(⟨q, hq⟩ : Pl p.all)]).map (·.1))) _
      rw [HSET.out.2, Nat.zero_add]; exact this
    case done =>
      rintro D ys W' hD hys hin hK
      have HN : Hid (MkI w1 p s (some ⟨sb, sf, none⟩) gf (k + 1) (D :: ds) W') := by
        have hys' : ys.map (·.1) = p.plc h 7 := hys
        rw [hys', HF1.out] at hin
        refine ⟨hin.bp, hin.bf, hin.fld, hin.aft, hin.hs, fun E hE => ?_, ?_, hin.low, hin.lt⟩
        · rcases List.mem_cons.1 hE with rfl | hE
          · exact ⟨Nat.le_trans H6.out.1.aft.size hD, hK⟩
          · exact ⟨(H6.out.1.mrk E hE).1, hin.mrk E hE⟩
        · refine List.nodup_cons.2 ⟨fun hd => ?_, H6.out.1.nd⟩
          have := (Array.getElem?_eq_some_iff.1 (H6.out.1.mrk D hd).2).1
          omega
      clear hys hin hK hD
      gi_wp2
      have e30 : RowKit.wrap64 ((k : Int) + 1) = ((k + 1 : Nat) : Int) := by unfold RowKit.wrap64; have := H1.out.2.2.2.2.1; omega
      simp only [e30]
      refine ⟨⟨k + 1, D :: ds, _, _, _, _, _, _, _, _, by omega, rfl, HN.out⟩, ?_⟩
      simp [intOf]; omega
    case stop =>
      rintro D c pre W' _ _ h _
      exact h.elim
  · obtain rfl : k = N := by omega
    have hki : ¬ (k : Int) < (k : Int) := by omega
    obtain ⟨f, hf⟩ : ∃ f, p.fieldOf s = f := ⟨_, rfl⟩
    have HI2 : Hid (RowIs W w1.heap.size 41 (pc p) ∧ RowIs W (gf + 1) 26 [.slice (some ⟨gf, 0, none⟩) Z Z] ∧ RowIs W gf 5 (c8 f) ∧ After w1 W ∧ (∀ D ∈ ds, w1.heap.size ≤ D ∧ W.heap[D]? = some (.deferred (some []))) ∧ ds.Nodup ∧ f.length = Z) := by
      have h1 := HI.out.bf
      rw [HZ.out.1] at h1
      have h2 := HI.out.fld
      rw [← H1.out.2.2.2.1, List.take_length, hf] at h2
      exact ⟨HI.out.bp, h1, h2, HI.out.aft, HI.out.mrk, HI.out.nd, by rw [← hf, Prt.fieldOf_len]; exact HZ.out.1⟩
    have HMB : Hid (mkB s seed bN = headB p ++ f ∧ (headB p).length ≤ 30) := ⟨by unfold mkB; rw [← HP.out.1, hf], headB_len p (by have := HP.out.2.many; omega) (by have := HP.out.2.seed; omega) (by have := HP.out.2.bits'; omega)⟩
    clear HI hf hlt
    gi_wp2
    refine wpIn_wide.2 ?_
    refine wp_region_noPanic ?_
    refine wp_region_held_drew (S := After W) (by kernel_rfl) (After.drew (After.refl W)) ?_
    intro hS0
    refine tk 0 49 (pV p) (fuel := 4) rfl (by kernel_rfl) (by kernel_rfl) (by kernel_rfl) (by kernel_rfl) noPanic_false (by kernel_rfl) (fun W2 hW => x_ld41 (x := .tmp 8) (g := w1.heap.size) (p := p) (by kernel_rfl) (by kernel_rfl) (HI2.out.1.below hW HI2.out.1.lt)) hS0 ?_
    refine tk 2 51 (.slice (some ⟨gf, 0, none⟩) Z Z) (fuel := 3) rfl (by kernel_rfl) (by kernel_rfl) (by kernel_rfl) (by kernel_rfl) noPanic_false (by kernel_rfl) (fun W2 hW => x_ldc (t := 26) (x := .tmp 9) (g := gf + 1) (j := 0) Try.underlying26 rfl (by kernel_rfl) (by kernel_rfl) ((HI2.out.2.1.below hW HI2.out.2.1.lt).cell (j := 0) rfl)) hS0 ?_
    refine tkCallZ 1 50 22 #[pV p] (fun v W2 => Own W2 W.heap.size v (headB p) ∧ After W W2) (fuel := 2) rfl (by kernel_rfl) (by kernel_rfl) (by kernel_rfl) (fun _ => by kernel_rfl) ((head_any p (by have := HP.out.2.many; omega) (by have := HP.out.2.seed; omega) (by have := HP.out.2.bits'; omega) W.drew).mono (fun _ _ ⟨v, he, h1, h2⟩ => ⟨v, he, h1, (After.drew (After.refl W)).trans h2⟩)) ?_
    rintro v7 w7 ⟨ho7, ha7⟩
    refine ⟨ha7, ?_⟩
    have hr7 := HI2.out.2.2.1.below ha7 HI2.out.2.2.1.lt
    have hat7 := row_bytes hr7
    have hk7 := HI2.out.2.2.2.2.2.2
    obtain ⟨v8, w8, he8, ho8, hg8⟩ := run_append_any w7 26 W.heap.size v7 (headB p) ho7 (some ⟨gf, 0, none⟩) Z f Z hk7 hat7 (by have := HMB.out.2; have := HZ.out.2; omega) ha7.size
    have ha8 : After W w8 := after_grown ha7 hg8 (Nat.le_refl _) (fun k hk => (World.ownsRow.lt ho7 k hk).1)
    refine tkRunS 3 52 v8 w8 (fuel := 1) rfl (by kernel_rfl) (by kernel_rfl) (by kernel_rfl) (x_app (s := .tmp 50) (x := .tmp 51) (by kernel_rfl) (by kernel_rfl) (by kernel_rfl) he8) ha8 ?_
    refine tk 4 6 (v8) (fuel := 0) rfl (by kernel_rfl) (by kernel_rfl) (by kernel_rfl) (by kernel_rfl) noPanic_false (by kernel_rfl) (fun _ _ => by kernel_rfl) ha8 ?_
    refine wpAnyH_done (by kernel_rfl) (NoPanic.normal ?_) _
    have HO : Hid (Own w8 w.heap.size v8 (headB p ++ f) ∧ After w1 w8 ∧ ∀ D ∈ ds, w8.heap[D]? = some (.deferred (some []))) := by
      refine ⟨ho8.mono (Nat.le_trans H1.out.1.size HI2.out.2.2.2.1.size), HI2.out.2.2.2.1.trans ha8, fun D hD => ?_⟩
      have h := (HI2.out.2.2.2.2.1 D hD).2
      exact (ha8.block D (Array.getElem?_eq_some_iff.1 h).1).trans h
    clear hS0 ho7 ha7 hr7 hat7 he8 ho8 hg8 ha8 hk7
    go_simp
    gi_wp2
    refine leaves_marks ds w8 HI2.out.2.2.2.2.2.1 HO.out.2.2 (fun w9 hs => ?_)
    refine ⟨_, results_tmp rfl _ _ _, s, v8, rfl, H1.out.2.1, ?_, ?_⟩
    · rw [HMB.out.1]
      refine Own.keep' HO.out.1 (fun g hg => hs.block g (fun hd => ?_))
      obtain ⟨c, t, fr, hc⟩ := own_cells HO.out.1 hg
      rw [HO.out.2.2 g hd] at hc; cases hc
    · exact (H1.out.1.trans HO.out.2.1).trans' (hs.below (fun D hD => Nat.le_trans H1.out.1.size (HI2.out.2.2.2.2.1 D hD).1))
end Go.Proofs.Ytgcgblecendijaa
