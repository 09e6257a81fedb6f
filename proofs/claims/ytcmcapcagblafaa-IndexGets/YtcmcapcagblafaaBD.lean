/-
  BRANCHES IN A ROW; (*Table).List (23).
-/
import Derived.Test.YtcmcapcagblafaaBC
import Derived.Test.YtcmcapcagblafaaRows
namespace Go.Proofs.Ytcmcapcagblafaa
open Go.RowKit Go.Maps Dsk
attribute [local go_sem] Oper.semAt_some
/-- A branch as it lies: its name, and where its hashes are. -/
structure Bx where
  nm : Dsk.Nm
  a : Option Addr
  c : Nat
  l : List H
def Bx.v (x : Bx) : Value := .slice x.a x.l.length x.c
def brc (x : Bx) : List Value := [.string (strOf x.nm), x.v]
structure BxAt (W : World) (x : Bx) : Prop where
  sl : SlAt W 32 x.a (hsL x.l)
  l32 : All32 x.l
  z : x.a = none → x.c = 0
  fit : x.l.length * 32 ≤ 140737488355328
def bof (X : List Bx) : Tb := X.map fun x => (x.nm, x.l)
def bsL (X : List Bx) : List (List Value) := X.map brc
theorem uni_bs (X : List Bx) : Uni 2 (bsL X) := fun x hx => by
  obtain ⟨y, _, rfl⟩ := List.mem_map.1 hx; rfl
theorem bs_len (X : List Bx) : (bsL X).length = X.length := by simp [bsL]
theorem bs_get {X : List Bx} {i : Nat} {x : Bx} (h : X[i]? = some x) : (bsL X)[i]? = some (brc x) := by unfold bsL; rw [List.getElem?_map, h]; rfl
theorem bs_one (X : List Bx) : ∀ x ∈ bsL X, ∀ u ∈ x, u.oneCell' = true := fun x hx u hu => by
  obtain ⟨y, _, rfl⟩ := List.mem_map.1 hx
  simp only [brc, List.mem_cons, List.not_mem_nil, or_false] at hu
  rcases hu with rfl | rfl
  · rfl
  · rfl
theorem BxAt.after {W W' : World} {x : Bx} (h : BxAt W x) (ha : After W W') : BxAt W' x := ⟨h.sl.after ha, h.l32, h.z, h.fit⟩
theorem bof_len (X : List Bx) : (bof X).length = X.length := by simp [bof]
theorem bof_get {X : List Bx} {i : Nat} {x : Bx} (h : X[i]? = some x) : (bof X)[i]? = some (x.nm, x.l) := by unfold bof; rw [List.getElem?_map, h]; rfl
/-- Branches that lie somewhere. -/
structure BsAt (W : World) (a : Option Addr) (X : List Bx) : Prop where
  sl : SlAt W 2 a (bsL X)
  each : ∀ x ∈ X, BxAt W x
theorem BsAt.after {W W' : World} {a : Option Addr} {X : List Bx} (h : BsAt W a X) (ha : After W W') : BsAt W' a X := ⟨h.sl.after ha, fun x hx => (h.each x hx).after ha⟩
theorem BsAt.nil (W : World) (a : Option Addr) : BsAt W a [] := ⟨SlAt.nil _ _ _, fun x h => by simp at h⟩
/-- Hashes in a row from its beginning. -/
def RwAt (W : World) (ad : Addr) : Prop := ad.off = 0 ∧ ad.spot = none ∧ ∃ cs, RowIs W ad.block 43 cs
theorem RwAt.same {W W' : World} {ad : Addr} (h : RwAt W ad) (hs : W'.heap[ad.block]? = W.heap[ad.block]?) : RwAt W' ad := ⟨h.1, h.2.1, by obtain ⟨cs, hr⟩ := h.2.2; exact ⟨cs, by unfold RowIs; rw [hs]; exact hr⟩⟩
/-- Branches in a row of one's own, all in blocks from B on. -/
structure OwnB (W : World) (B : Nat) (v : Value) (X : List Bx) : Prop where
  row : OwnL W B 65 2 v (bsL X)
  each : ∀ x ∈ X, BxAt W x
  ge : ∀ x ∈ X, ∀ ad, x.a = some ad → B ≤ ad.block ∧ ad.block < W.heap.size ∧ v.ownBlock ≠ some ad.block ∧ RwAt W ad
theorem OwnB.nil (W : World) (B : Nat) : OwnB W B (.slice none 0 0) [] := ⟨OwnL.nil _ _ _ _, fun x h => by simp at h, fun x h => by simp at h⟩
theorem OwnB.at {W : World} {B : Nat} {v : Value} {X : List Bx} (h : OwnB W B v X) : ∃ a c, v = .slice a X.length c ∧ BsAt W a X := by
  obtain ⟨a, c, e, hs⟩ := h.row.sl
  rw [bs_len] at e
  exact ⟨a, c, e, hs, h.each⟩
theorem OwnB.after {W W' : World} {B : Nat} {v : Value} {X : List Bx} (h : OwnB W B v X) (ha : After W W') : OwnB W' B v X := ⟨h.row.same (fun b hb => ha.block b (own_lt h.row.2 hb).2.1), fun x hx => (h.each x hx).after ha, fun x hx ad e => ⟨(h.ge x hx ad e).1, Nat.lt_of_lt_of_le (h.ge x hx ad e).2.1 ha.size, (h.ge x hx ad e).2.2.1, (h.ge x hx ad e).2.2.2.same (ha.block _ (h.ge x hx ad e).2.1)⟩⟩
theorem OwnL.lower {w : World} {base base' : Nat} {t : TypeId} {k : Nat} {v : Value} {L : List (List Value)} (h : OwnL w base t k v L) (hb : base' ≤ base) : OwnL w base' t k v L := ⟨h.1, own_mono h.2 hb⟩
theorem info48 : (Try.prog.info? 65).map (fun i => (i.zero, i.size, i.bytes)) = some (some (.agg #[.string ⟨#[]⟩, .slice none 0 0]), 2, 40) := by kernel_rfl
theorem x_bs25 {oi : Oper} {a : Act} {w : World} {x : Operand} {u v : Value} (hop : oi.op = .buildSlice 38 1 #[(0, x)]) (hx : a.eval x = .agg #[u, v]) : (execOp a.eval oi).run Try.prog w = .ok (.value (.slice (some ⟨w.heap.size, 0, none⟩) 1 1)) (w.alloc (.cells #[u, v] 65)) := by
  have hb : (Instr.buildSlice 38 1 #[(0, .agg #[u, v])]).run Try.prog w = .ok (.slice (some ⟨w.heap.size, 0, none⟩) 1 1) (w.alloc (.cells #[u, v] 65)) := by kernel_rfl
  unfold execOp
  simp [hop, hx, hb]
theorem x_bld48 {oi : Oper} {a : Act} {w : World} {x y : Operand} {s : ByteArray} {b : Option Addr} {n c : Nat} (hop : oi.op = .build 65 #[(0, x), (1, y)]) (hx : a.eval x = .string s) (hy : a.eval y = .slice b n c) : (execOp a.eval oi).run Try.prog w = .ok (.value (.agg #[.string s, .slice b n c])) w := by
  have h := run_build (P := Try.prog) w 65 #[(0, .string s), (1, .slice b n c)] #[.string s, .slice b n c] (by kernel_rfl)
  unfold execOp
  simp only [hop]
  simp [hx, hy, h]
/-- Branches behind branches in a row. -/
theorem run_appB {w : World} {B : Nat} {v : Value} {X Y : List Bx} (ty : TypeId) (h : OwnB w B v X) {a : Option Addr} {m c : Nat} (hm : Y.length = m) (hs : BsAt w a Y) (hl : (X.length + m) * 40 ≤ 140737488355328) (hb : B ≤ w.heap.size) (hc : Y = [] → a = none → c = 0) :
    ∃ va vc w', (Builtin.append_ #[38, 38] ty #[v, .slice a m c]).run Try.prog w = .ok (.slice va (X.length + m) vc) w' ∧ OwnL w' B 65 2 (.slice va (X.length + m) vc) (bsL (X ++ Y)) ∧ w.grownBy w' v.ownBlock ∧ ((Value.slice va (X.length + m) vc).ownBlock = v.ownBlock ∨ (Value.slice va (X.length + m) vc).ownBlock = some w.heap.size) := by
  obtain ⟨i, hi, hz⟩ := Option.map_eq_some_iff.1 info48
  simp only [Prod.mk.injEq] at hz
  obtain ⟨hz, hsz, hby⟩ := hz
  have := run_appL (t := 38) ty 65 2 40 Try.underlying38 hi hz hsz hby rfl (by omega) h.row (by rw [bs_len, hm]) hs.sl (bs_one Y) (by rw [bs_len]; unfold maxLen; omega) (by rw [bs_len]; exact hl) hb (fun e => hc (by cases Y with | nil => rfl | cons x Y => simp [bsL] at e))
  rw [bs_len] at this
  obtain ⟨va, vc, w', r1, r2, r3, r4⟩ := this
  exact ⟨va, vc, w', r1, by unfold bsL; rw [List.map_append]; exact r2, r3, r4⟩
theorem BxAt.box {w : World} {x : Bx} (h : BxAt w x) : BsAt (w.alloc (.cells #[.string (strOf x.nm), x.v] 65)) (some ⟨w.heap.size, 0, none⟩) [x] := by
  refine ⟨⟨uni_bs _, fun _ => ⟨_, _, rfl, fun j u hu => ?_⟩⟩, fun y hy => ?_⟩
  · have := (RowIs.new w 65 (brc x)).cell (j := j) (v := u) (by simpa [bsL] using hu)
    rw [Nat.zero_add]; exact this
  · rw [List.mem_singleton] at hy; subst hy; exact h.after (after_alloc (After.refl w) _)
theorem BxAt.grown {w w' : World} {x : Bx} {row : Option Nat} (h : BxAt w x) (hg : w.grownBy w' row) (hne : ∀ ad, x.a = some ad → row ≠ some ad.block) : BxAt w' x := by
  refine ⟨⟨h.sl.1, fun hn => ?_⟩, h.l32, h.z, h.fit⟩
  obtain ⟨b, o, e, hra⟩ := h.sl.2 hn
  refine ⟨b, o, e, fun j u hu => ?_⟩
  have hc := hra j u hu
  exact Eq.trans (World.cell?_of_block (w := w) (show w'.heap[(⟨b, o + j, none⟩ : Addr).block]? = w.heap[(⟨b, o + j, none⟩ : Addr).block]? from hg.block b (World.block_lt_of_cell? w _ hc) (fun e' => hne _ e e'.symm))) hc
/-- What a list that grew is. -/
theorem OwnB.grow {w w' : World} {B : Nat} {v v' : Value} {X Y : List Bx} (h : OwnB w B v X) (hY : ∀ y ∈ Y, BxAt w y ∧ ∀ ad, y.a = some ad → B ≤ ad.block ∧ ad.block < w.heap.size ∧ v.ownBlock ≠ some ad.block ∧ RwAt w ad) (hr : OwnL w' B 65 2 v' (bsL (X ++ Y))) (hg : w.grownBy w' v.ownBlock) (hv : v'.ownBlock = v.ownBlock ∨ v'.ownBlock = some w.heap.size) : OwnB w' B v' (X ++ Y) := by
  have hall : ∀ x ∈ X ++ Y, BxAt w x ∧ ∀ ad, x.a = some ad → B ≤ ad.block ∧ ad.block < w.heap.size ∧ v.ownBlock ≠ some ad.block ∧ RwAt w ad := fun x hx => by
    rcases List.mem_append.1 hx with hx | hx
    · exact ⟨h.each x hx, h.ge x hx⟩
    · exact hY x hx
  refine ⟨hr, fun x hx => (hall x hx).1.grown hg (fun ad e => ((hall x hx).2 ad e).2.2.1), fun x hx ad e => ?_⟩
  obtain ⟨h1, h2, h3, h4⟩ := (hall x hx).2 ad e
  refine ⟨h1, Nat.lt_of_lt_of_le h2 hg.size, ?_, h4.same (hg.block _ h2 (fun e' => h3 e'.symm))⟩
  rcases hv with hv | hv
  · rw [hv]; exact h3
  · rw [hv]; intro e'; have := Option.some.inj e'; omega
theorem bof_snoc (X : List Bx) (x : Bx) : bof (X ++ [x]) = bof X ++ [(x.nm, x.l)] := by simp [bof]
/-- How far List has come. -/
structure LsI (w : World) (S : Tb) (i : Nat) (v : Value) (X : List Bx) (wr : World) : Prop where
  aft : After w wr
  own : OwnB wr w.heap.size v X
  pre : bof X = S.take i
theorem x_idxT {oi : Oper} {a : Act} {w : World} {t e k : Nat} (ht : Try.prog.underlying t = some (.slice e)) (hs : (Try.prog.info? e).map (·.size) = some k) {x y : Operand} {b f n c i : Nat} (hop : oi.op = .indexAddr t x y) (hx : a.eval x = .slice (some ⟨b, f, none⟩) n c) (hy : a.eval y = .int .i64 (i : Int)) (hk : i < n) : (execOp a.eval oi).run Try.prog w = .ok (.value (.pointer (some ⟨b, f + i * k, none⟩))) w := by
  have hk' : (i : Int) < (n : Int) := by omega
  obtain ⟨i', hi, hz⟩ := Option.map_eq_some_iff.1 hs
  unfold execOp; simp only [hop, hx, hy]; simp [go_sem, hk', hi, hz, sizeOf, typeInfo, ht]
theorem x_idx25 {oi : Oper} {a : Act} {w : World} {x y : Operand} {b f n c i : Nat} (hop : oi.op = .indexAddr 38 x y) (hx : a.eval x = .slice (some ⟨b, f, none⟩) n c) (hy : a.eval y = .int .i64 (i : Int)) (hk : i < n) : (execOp a.eval oi).run Try.prog w = .ok (.value (.pointer (some ⟨b, f + i * 2, none⟩))) w := x_idxT (e := 65) (k := 2) Try.underlying38 (by kernel_rfl) hop hx hy hk
theorem bb_lt : ∀ {a b : Dsk.Nm}, bytesBefore a b = true → a < b
  | [], [], h => by simp [bytesBefore] at h
  | [], _ :: _, _ => List.nil_lt_cons _ _
  | _ :: _, [], h => by simp [bytesBefore] at h
  | a :: r, b :: s, h => by
    simp only [bytesBefore, Bool.or_eq_true, decide_eq_true_eq, Bool.and_eq_true, beq_iff_eq] at h
    rw [List.cons_lt_cons_iff]
    rcases h with h | ⟨h1, h2⟩
    · exact Or.inl h
    · exact Or.inr ⟨h1, bb_lt h2⟩
theorem sorted_names {α : Type} {l : List (Dsk.Nm × α)} (h : rising l) {ss : List Dsk.Nm} (hp : ss.Perm (l.map (·.1))) : ss.mergeSort (fun x y => decide (x ≤ y)) = l.map (·.1) := by
  have h1 := mergeSort_of_perm hp
  refine h1.trans (List.mergeSort_of_pairwise ?_)
  rw [List.pairwise_map]
  exact h.imp (fun {a b} hab => by simp only [leB, decide_eq_true_eq]; exact List.le_of_lt (bb_lt hab))
end Go.Proofs.Ytcmcapcagblafaa
