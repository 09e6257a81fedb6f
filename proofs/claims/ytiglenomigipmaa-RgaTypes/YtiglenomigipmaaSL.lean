/-
  ids (29): of a put that is not wild.
-/
import Derived.Test.YtiglenomigipmaaSK
namespace Go.Proofs.Ytiglenomigipmaa
open Go.RowKit Go.Shelf
attribute [local go_sem] Oper.semAt_some
def tAf (l : List RC) (p : Put) : Idn := match p.af.toNat % (l.length + 1) with | 0 => zId | k + 1 => (match l[k]? with | some c => c.id | none => zId)
def tUp (a : Idn) (p : Put) : Nat := if a.c > 1099511627776 then 0 else 1 + p.up.toNat % 4
def tId (l : List RC) (p : Put) : Idn := ⟨(tAf l p).c + tUp (tAf l p) p, h1 p.by_⟩
section
variable {o : Oper} {a : Act} {w : World} {x y : Operand} {p q r : Nat}
theorem x_remi (hop : o.op = .binOp .rem 3 x y 3) (hx : a.eval x = .int .i64 (p : Int)) (hy : a.eval y = .int .i64 (q : Int)) (hr : p % q = r) (hq : 0 < q) : (execOp a.eval o).run Try.prog w = .ok (.value (.int .i64 (r : Int))) w := by
  have e : Int.tmod (p : Int) (q : Int) = (r : Int) := by rw [← hr]; exact (Int.ofNat_tmod p q).symm
  unfold execOp; simp only [hop, hx, hy]
  simp [go_sem, e, show q ≠ 0 by omega]
theorem x_rem8 {u : UInt8} (hop : o.op = .binOp .rem 5 x (.const (.int .u8 4)) 5) (hx : a.eval x = .int .u8 (u.toNat : Int)) : (execOp a.eval o).run Try.prog w = .ok (.value (.int .u8 ((u.toNat % 4 : Nat) : Int))) w := by
  have hy : a.eval (.const (.int .u8 4)) = .int .u8 4 := rfl
  have e : Int.tmod (u.toNat : Int) 4 = ((u.toNat % 4 : Nat) : Int) := (Int.ofNat_tmod u.toNat 4).symm
  unfold execOp; simp only [hop, hx, hy]
  simp [go_sem, e]
theorem x_dec1 {k : Nat} (hk : k ≤ 1000000) (hop : o.op = .binOp .sub 3 x (.const (.int .i64 1)) 3) (hx : a.eval x = pv (k + 1)) : (execOp a.eval o).run Try.prog w = .ok (.value (pv k)) w := by
  have hy : a.eval (.const (.int .i64 1)) = .int .i64 1 := rfl
  have hw2 : IntKind.i64.wrap (k : Int) = (k : Int) := by rw [IntKind.wrap_i64]; omega
  unfold execOp
  simp only [hop, hx, hy, pv]
  simp [go_sem, hw2]
theorem x_addz {p q : Int} (h1 : -9223372036854775808 ≤ p + q) (h2 : p + q ≤ 9223372036854775807) (hop : o.op = .binOp .add 3 x y 3) (hx : a.eval x = .int .i64 p) (hy : a.eval y = .int .i64 q) : (execOp a.eval o).run Try.prog w = .ok (.value (.int .i64 (p + q))) w := by
  have hw : IntKind.i64.wrap (p + q) = p + q := by rw [IntKind.wrap_i64]; omega
  unfold execOp
  simp only [hop, hx, hy]
  simp [go_sem, hw]
theorem x_cv53 {m : Nat} (hm : m ≤ 1000) (hop : o.op = .convert 5 3 x) (hx : a.eval x = .int .u8 (m : Int)) : (execOp a.eval o).run Try.prog w = .ok (.value (pv m)) w := by
  have hw : IntKind.i64.wrap (m : Int) = (m : Int) := by rw [IntKind.wrap_i64]; omega
  unfold execOp
  simp only [hop, hx, pv]
  simp [go_sem, hw]
end
set_option maxRecDepth 100000 in
set_option maxHeartbeats 1600000 in
theorem ids_tameZ {w : World} {base : Nat} {v : Value} {l : List RC} (h : RowR w base v l) {p : Put} (hwd : p.wild = false) (hl : l.length ≤ 100000) (hk : p.af.toNat % (l.length + 1) = 0) :
    Calls Try.prog 29 #[.agg #[v], .agg (pcell p).toArray] w fun e w' => e = .returned (.tuple #[idv (tAf l p), idv (tId l p)]) ∧ After w w' := by
  obtain ⟨va, cap, rfl⟩ := h.sl
  obtain ⟨n, hn⟩ : ∃ n, l.length = n := ⟨_, rfl⟩
  have hnl : n ≤ 100000 := by omega
  have ez : tAf l p = zId := by unfold tAf; rw [hk]
  rw [hn] at h hk ⊢
  obtain ⟨W0, hW0⟩ : ∃ W0, (((w.alloc (.cells #[.slice va n cap] 29)).alloc (.cells (pcell p).toArray 33)).alloc (.cells (idc zId).toArray 40)).alloc (.cells (idc zId).toArray 40) = W0 := ⟨_, rfl⟩
  have HA0 : Hid (After w W0 ∧ W0.heap.size = w.heap.size + 1 + 1 + 1 + 1 ∧ RowIs W0 w.heap.size 29 [.slice va n cap] ∧ RowIs W0 (w.heap.size + 1) 33 (pcell p) ∧ RowIs W0 (w.heap.size + 1 + 1) 40 (idc zId) ∧ RowIs W0 (w.heap.size + 1 + 1 + 1) 40 (idc zId)) := by
    rw [← hW0]
    refine ⟨after_alloc (after_alloc (after_alloc (after_alloc (After.refl w) _) _) _) _, by simp, (((RowIs.new w 29 [.slice va n cap]).alloc _).alloc _).alloc _, ?_, ?_, ?_⟩
    · have := RowIs.new (w.alloc (.cells #[.slice va n cap] 29)) 33 (pcell p)
      rw [World.size_alloc] at this
      exact (this.alloc _).alloc _
    · have := RowIs.new ((w.alloc (.cells #[.slice va n cap] 29)).alloc (.cells (pcell p).toArray 33)) 40 (idc zId)
      rw [World.size_alloc, World.size_alloc] at this
      exact this.alloc _
    · have := RowIs.new (((w.alloc (.cells #[.slice va n cap] 29)).alloc (.cells (pcell p).toArray 33)).alloc (.cells (idc zId).toArray 40)) 40 (idc zId)
      rwa [World.size_alloc, World.size_alloc, World.size_alloc] at this
  obtain ⟨W1, hW1⟩ : ∃ W1, W0.alloc (.cells (idc zId).toArray 40) = W1 := ⟨_, rfl⟩
  have HA : Hid (After w W1 ∧ RowIs W1 w.heap.size 29 [.slice va n cap] ∧ RowIs W1 (w.heap.size + 1) 33 (pcell p) ∧ RowIs W1 (w.heap.size + 1 + 1) 40 (idc zId) ∧ RowIs W1 (w.heap.size + 1 + 1 + 1) 40 (idc zId) ∧ RowIs W1 (w.heap.size + 1 + 1 + 1 + 1) 40 (idc zId)) := by
    rw [← hW1]
    have := RowIs.new W0 40 (idc zId)
    rw [HA0.out.2.1] at this
    exact ⟨after_alloc HA0.out.1 _, HA0.out.2.2.1.alloc _, HA0.out.2.2.2.1.alloc _, HA0.out.2.2.2.2.1.alloc _, HA0.out.2.2.2.2.2.alloc _, this⟩
  have cw : W0.cell? ⟨w.heap.size + 1, 5, none⟩ = some (.bool false) := by rw [← hwd]; exact HA0.out.2.2.2.1.cell rfl
  have ca : W1.cell? ⟨w.heap.size + 1, 0, none⟩ = some (.int .u8 (p.af.toNat : Int)) := HA.out.2.2.1.cell rfl
  have cB : W1.cell? ⟨w.heap.size, 0, none⟩ = some (.slice va n cap) := HA.out.2.1.cell rfl
  have hsz : W0.heap.size = w.heap.size + 1 + 1 + 1 + 1 := HA0.out.2.1
  obtain ⟨m, hm⟩ : ∃ m, p.up.toNat % 4 = m := ⟨_, rfl⟩
  have hm4 : m < 4 := by omega
  have haf : p.af.toNat ≤ 255 := by have := p.af.toNat_lt; omega
  have HK : Hid (p.af.toNat % (n + 1) = 0 ∧ n ≤ 100000 ∧ p.af.toNat ≤ 255 ∧ m < 4) := ⟨hk, hnl, haf, hm4⟩
  have cu : W1.cell? ⟨w.heap.size + 1, 1, none⟩ = some (.int .u8 (p.up.toNat : Int)) := HA.out.2.2.1.cell rfl
  have cc : W1.cell? ⟨w.heap.size + 1 + 1 + 1 + 1, 0, none⟩ = some (.int .i64 0) := HA.out.2.2.2.2.2.cell rfl
  have HX : Hid (RowIs W1 (w.heap.size + 1) 33 (pcell p) ∧ RowIs W1 (w.heap.size + 1 + 1) 40 (idc zId) ∧ RowIs W1 (w.heap.size + 1 + 1 + 1) 40 (idc zId) ∧ RowIs W1 (w.heap.size + 1 + 1 + 1 + 1) 40 (idc zId)) := HA.out.2.2
  have HKW : Hid (KeptF (fun b => w.heap.size ≤ b) w W1) := KeptF.of_after HA.out.1
  have HZ : Hid (zId.Ok ∧ (⟨zId.c + ((1 + m : Nat) : Int), h1 p.by_⟩ : Idn).Ok ∧ tAf l p = zId ∧ tId l p = ⟨zId.c + ((1 + m : Nat) : Int), h1 p.by_⟩) := ⟨zId_ok, ⟨by show _ ≤ (0 : Int) + _; omega, by show (0 : Int) + _ ≤ _; omega, h1_len _⟩, ez, by unfold tId tUp; rw [ez, if_neg (by decide), hm]⟩
  clear h hwd hl ez hk 
  go_enter Try.func29, Try.ntmps29
  go_wp2_with (first
    | (rw [hW0])
    | (rw [hW1])
    | (refine wpList_of_run rfl ((x_al40 rfl).trans (by rw [hW1, hsz])) ?_)
    | (refine wpList_of_run rfl (x_al40 rfl) ?_)
    | (refine wpList_of_run rfl (x_cv53 (x := .tmp 24) (m := p.af.toNat) (by have := HK.out.2.2.1; omega) rfl (by kernel_rfl)) ?_)
    | (refine wpList_of_run rfl (x_add1 (x := .tmp 28) (k := n) (by have := HK.out.2.1; omega) rfl (by kernel_rfl)) ?_)
    | (refine wpList_of_run rfl (x_remi (x := .tmp 25) (y := .tmp 29) (p := p.af.toNat) (q := n + 1) rfl (by kernel_rfl) (by kernel_rfl) HK.out.1 (Nat.succ_pos _)) ?_)
    | (refine wpList_of_run rfl (x_rem8 (x := .tmp 41) (u := p.up) rfl (by kernel_rfl)) ?_; rw [hm])
    | (refine wpList_of_run rfl (x_cv53 (x := .tmp 42) (m := m) (by have := HK.out.2.2.2; omega) rfl (by kernel_rfl)) ?_))
  refine wp_region_noPanic ?_
  refine wp_region_held_drew (S := KeptF (fun b => b = w.heap.size + 1 + 1 ∨ b = w.heap.size + 1 + 1 + 1) W1) (by kernel_rfl) (KeptF.of_after (After.drew (After.refl _))) ?_
  intro hS0
  refine tk 0 48 (idv zId) (fuel := 10) rfl (by kernel_rfl) (by kernel_rfl) (by kernel_rfl) (by kernel_rfl) noPanic_false (by kernel_rfl) (fun W hW => x_ld40m (x := .tmp 6) (g := w.heap.size + 1 + 1 + 1 + 1) (p := 0) HZ.out.1 (by kernel_rfl) (by kernel_rfl) (hW.row HX.out.2.2.2 (by omega)).range0) hS0 ?_
  refine tk 1 49 (.pointer (some ⟨w.heap.size + 1 + 1 + 1 + 1, 0, none⟩)) (fuel := 9) rfl (by kernel_rfl) (by kernel_rfl) (by kernel_rfl) (by kernel_rfl) noPanic_false (by kernel_rfl) (fun _ _ => by kernel_rfl) hS0 ?_
  refine tk 2 50 (.int .i64 zId.c) (fuel := 8) rfl (by kernel_rfl) (by kernel_rfl) (by kernel_rfl) (by kernel_rfl) noPanic_false (by kernel_rfl) (fun W hW => x_loadT (x := .tmp 49) (t := 3) (g := w.heap.size + 1 + 1 + 1 + 1) (j := 0) Try.underlying3 rfl (by kernel_rfl) (by kernel_rfl) ((hW.row HX.out.2.2.2 (by omega)).cell (j := 0) rfl)) hS0 ?_
  refine tk 3 51 (.int .i64 ((1 + m : Nat) : Int)) (fuel := 7) rfl (by kernel_rfl) (by kernel_rfl) (by kernel_rfl) (by kernel_rfl) noPanic_false (by kernel_rfl) (fun _ _ => by kernel_rfl) hS0 ?_
  refine tk 4 52 (.int .i64 (zId.c + ((1 + m : Nat) : Int))) (fuel := 6) rfl (by kernel_rfl) (by kernel_rfl) (by kernel_rfl) (by kernel_rfl) noPanic_false (by kernel_rfl) (fun W hW => x_addz (x := .tmp 50) (y := .tmp 51) (p := zId.c) (q := ((1 + m : Nat) : Int)) HZ.out.2.1.lo HZ.out.2.1.hi (by kernel_rfl) (by kernel_rfl) (by kernel_rfl)) hS0 ?_
  refine tk 5 53 (.pointer (some ⟨w.heap.size + 1, 2, none⟩)) (fuel := 5) rfl (by kernel_rfl) (by kernel_rfl) (by kernel_rfl) (by kernel_rfl) noPanic_false (by kernel_rfl) (fun _ _ => by kernel_rfl) hS0 ?_
  refine tk 6 54 (.int .u8 (p.by_.toNat : Int)) (fuel := 4) rfl (by kernel_rfl) (by kernel_rfl) (by kernel_rfl) (by kernel_rfl) noPanic_false (by kernel_rfl) (fun W hW => x_loadT (x := .tmp 53) (t := 5) (g := w.heap.size + 1) (j := 2) Try.underlying5 rfl (by kernel_rfl) (by kernel_rfl) ((hW.row HX.out.1 (by omega)).cell (j := 2) rfl)) hS0 ?_
  refine tk 7 55 (.agg (c8 (h1 p.by_)).toArray) (fuel := 3) rfl (by kernel_rfl) (by kernel_rfl) (by kernel_rfl) (by kernel_rfl) noPanic_false (by kernel_rfl) (fun W hW => x_bld35 (x := .tmp 54) (by kernel_rfl) (by kernel_rfl)) hS0 ?_
  refine tk 8 56 (idv ⟨zId.c + ((1 + m : Nat) : Int), h1 p.by_⟩) (fuel := 2) rfl (by kernel_rfl) (by kernel_rfl) (by kernel_rfl) (by kernel_rfl) noPanic_false (by kernel_rfl) (fun W hW => x_bld40 (x := .tmp 52) (y := .tmp 55) (h1_len _) (by kernel_rfl) (by kernel_rfl) (by kernel_rfl)) hS0 ?_
  have d3 : RowIs W1.drew (w.heap.size + 1 + 1) 40 (idc zId) := HX.out.2.1.below (After.drew (After.refl _)) HX.out.2.1.lt
  have d4 : RowIs W1.drew (w.heap.size + 1 + 1 + 1) 40 (idc zId) := HX.out.2.2.1.below (After.drew (After.refl _)) HX.out.2.2.1.lt
  have e3 : RowIs ((W1.drew).setRow (w.heap.size + 1 + 1) (idc zId).toArray) (w.heap.size + 1 + 1) 40 (idc zId) := d3.setRow _
  have e4 : RowIs ((W1.drew).setRow (w.heap.size + 1 + 1) (idc zId).toArray) (w.heap.size + 1 + 1 + 1) 40 (idc zId) := d4.setRow_other _ (by omega)
  have f3 : RowIs (((W1.drew).setRow (w.heap.size + 1 + 1) (idc zId).toArray).setRow (w.heap.size + 1 + 1 + 1) (idc (⟨zId.c + ((1 + m : Nat) : Int), h1 p.by_⟩ : Idn)).toArray) (w.heap.size + 1 + 1) 40 (idc zId) := e3.setRow_other _ (by omega)
  have f4 : RowIs (((W1.drew).setRow (w.heap.size + 1 + 1) (idc zId).toArray).setRow (w.heap.size + 1 + 1 + 1) (idc (⟨zId.c + ((1 + m : Nat) : Int), h1 p.by_⟩ : Idn)).toArray) (w.heap.size + 1 + 1 + 1) 40 (idc (⟨zId.c + ((1 + m : Nat) : Int), h1 p.by_⟩ : Idn)) := e4.setRow _
  have k3 : KeptF (fun b => b = w.heap.size + 1 + 1 ∨ b = w.heap.size + 1 + 1 + 1) W1 ((W1.drew).setRow (w.heap.size + 1 + 1) (idc zId).toArray) := (KeptF.of_after (After.drew (After.refl _))).trans (KeptF.setRow (F := fun b => b = w.heap.size + 1 + 1 ∨ b = w.heap.size + 1 + 1 + 1) _ _ _ (.inl rfl)) (fun _ _ h => h)
  have k4 : KeptF (fun b => b = w.heap.size + 1 + 1 ∨ b = w.heap.size + 1 + 1 + 1) W1 (((W1.drew).setRow (w.heap.size + 1 + 1) (idc zId).toArray).setRow (w.heap.size + 1 + 1 + 1) (idc (⟨zId.c + ((1 + m : Nat) : Int), h1 p.by_⟩ : Idn)).toArray) := k3.trans (KeptF.setRow (F := fun b => b = w.heap.size + 1 + 1 ∨ b = w.heap.size + 1 + 1 + 1) _ _ _ (.inr rfl)) (fun _ _ h => h)
  refine tkStoreS 9 ((W1.drew).setRow (w.heap.size + 1 + 1) (idc zId).toArray) (fuel := 1) rfl (by kernel_rfl) (by kernel_rfl) (by kernel_rfl) (x_st40 (x := .tmp 4) (y := .tmp 48) (g := w.heap.size + 1 + 1) (z := zId) (z0 := zId) HZ.out.1 zId_ok (by kernel_rfl) (by kernel_rfl) (by kernel_rfl) d3) (k3) ?_
  refine tkStoreS 10 (((W1.drew).setRow (w.heap.size + 1 + 1) (idc zId).toArray).setRow (w.heap.size + 1 + 1 + 1) (idc (⟨zId.c + ((1 + m : Nat) : Int), h1 p.by_⟩ : Idn)).toArray) (fuel := 0) rfl (by kernel_rfl) (by kernel_rfl) (by kernel_rfl) (x_st40 (x := .tmp 5) (y := .tmp 56) (g := w.heap.size + 1 + 1 + 1) (z := (⟨zId.c + ((1 + m : Nat) : Int), h1 p.by_⟩ : Idn)) (z0 := zId) HZ.out.2.1 zId_ok (by kernel_rfl) (by kernel_rfl) (by kernel_rfl) e4) (k4) ?_
  refine wpAnyH_done (by kernel_rfl) (NoPanic.normal ?_) _
  have HF := show Hid (RowIs (((W1.drew).setRow (w.heap.size + 1 + 1) (idc zId).toArray).setRow (w.heap.size + 1 + 1 + 1) (idc (⟨zId.c + ((1 + m : Nat) : Int), h1 p.by_⟩ : Idn)).toArray) (w.heap.size + 1 + 1) 40 (idc zId) ∧ RowIs (((W1.drew).setRow (w.heap.size + 1 + 1) (idc zId).toArray).setRow (w.heap.size + 1 + 1 + 1) (idc (⟨zId.c + ((1 + m : Nat) : Int), h1 p.by_⟩ : Idn)).toArray) (w.heap.size + 1 + 1 + 1) 40 (idc (⟨zId.c + ((1 + m : Nat) : Int), h1 p.by_⟩ : Idn)) ∧ KeptF (fun b => b = w.heap.size + 1 + 1 ∨ b = w.heap.size + 1 + 1 + 1) W1 (((W1.drew).setRow (w.heap.size + 1 + 1) (idc zId).toArray).setRow (w.heap.size + 1 + 1 + 1) (idc (⟨zId.c + ((1 + m : Nat) : Int), h1 p.by_⟩ : Idn)).toArray)) from ⟨f3, f4, k4⟩
  obtain ⟨W5, hW5⟩ : ∃ W5, ((W1.drew).setRow (w.heap.size + 1 + 1) (idc zId).toArray).setRow (w.heap.size + 1 + 1 + 1) (idc (⟨zId.c + ((1 + m : Nat) : Int), h1 p.by_⟩ : Idn)).toArray = W5 := ⟨_, rfl⟩
  rw [hW5] at HF ⊢
  clear hW5 d3 d4 e3 e4 f3 f4 k3 k4
  go_simp
  go_wp2_with fail
  refine ⟨rfl, _, ret4040 Try.results29 _ _ (w.heap.size + 1 + 1) (w.heap.size + 1 + 1 + 1) zId (⟨zId.c + ((1 + m : Nat) : Int), h1 p.by_⟩ : Idn) HZ.out.1 HZ.out.2.1 rfl HF.out.1 rfl HF.out.2.1, by rw [HZ.out.2.2.1, HZ.out.2.2.2], ?_⟩
  exact ((HKW.out).trans HF.out.2.2 (fun x hx h => by rcases h with h | h <;> (show w.heap.size ≤ x; omega))).below (Nat.le_refl _) (fun _ h => h)
set_option maxRecDepth 100000 in
set_option maxHeartbeats 1600000 in
theorem ids_tameN {w : World} {base : Nat} {v : Value} {l : List RC} (h : RowR w base v l) {p : Put} (hwd : p.wild = false) (hl : l.length ≤ 100000) {k : Nat} {c : RC} (hk : p.af.toNat % (l.length + 1) = k + 1) (hc : l[k]? = some c) (hbg : ¬ c.id.c > 1099511627776) :
    Calls Try.prog 29 #[.agg #[v], .agg (pcell p).toArray] w fun e w' => e = .returned (.tuple #[idv (tAf l p), idv (tId l p)]) ∧ After w w' := by
  obtain ⟨va, cap, rfl⟩ := h.sl
  obtain ⟨n, hn⟩ : ∃ n, l.length = n := ⟨_, rfl⟩
  have hnl : n ≤ 100000 := by omega
  have ez : tAf l p = c.id := by unfold tAf; rw [hk]; show (match l[k]? with | some c => c.id | none => zId) = _; rw [hc]
  have hok := (h.1 c (List.mem_of_getElem? hc)).id
  rw [hn] at h hk ⊢
  obtain ⟨W0, hW0⟩ : ∃ W0, (((w.alloc (.cells #[.slice va n cap] 29)).alloc (.cells (pcell p).toArray 33)).alloc (.cells (idc zId).toArray 40)).alloc (.cells (idc zId).toArray 40) = W0 := ⟨_, rfl⟩
  have HA0 : Hid (After w W0 ∧ W0.heap.size = w.heap.size + 1 + 1 + 1 + 1 ∧ RowIs W0 w.heap.size 29 [.slice va n cap] ∧ RowIs W0 (w.heap.size + 1) 33 (pcell p) ∧ RowIs W0 (w.heap.size + 1 + 1) 40 (idc zId) ∧ RowIs W0 (w.heap.size + 1 + 1 + 1) 40 (idc zId)) := by
    rw [← hW0]
    refine ⟨after_alloc (after_alloc (after_alloc (after_alloc (After.refl w) _) _) _) _, by simp, (((RowIs.new w 29 [.slice va n cap]).alloc _).alloc _).alloc _, ?_, ?_, ?_⟩
    · have := RowIs.new (w.alloc (.cells #[.slice va n cap] 29)) 33 (pcell p)
      rw [World.size_alloc] at this
      exact (this.alloc _).alloc _
    · have := RowIs.new ((w.alloc (.cells #[.slice va n cap] 29)).alloc (.cells (pcell p).toArray 33)) 40 (idc zId)
      rw [World.size_alloc, World.size_alloc] at this
      exact this.alloc _
    · have := RowIs.new (((w.alloc (.cells #[.slice va n cap] 29)).alloc (.cells (pcell p).toArray 33)).alloc (.cells (idc zId).toArray 40)) 40 (idc zId)
      rwa [World.size_alloc, World.size_alloc, World.size_alloc] at this
  obtain ⟨W1, hW1⟩ : ∃ W1, W0.alloc (.cells (idc zId).toArray 40) = W1 := ⟨_, rfl⟩
  have HA : Hid (After w W1 ∧ RowIs W1 w.heap.size 29 [.slice va n cap] ∧ RowIs W1 (w.heap.size + 1) 33 (pcell p) ∧ RowIs W1 (w.heap.size + 1 + 1) 40 (idc zId) ∧ RowIs W1 (w.heap.size + 1 + 1 + 1) 40 (idc zId) ∧ RowIs W1 (w.heap.size + 1 + 1 + 1 + 1) 40 (idc zId)) := by
    rw [← hW1]
    have := RowIs.new W0 40 (idc zId)
    rw [HA0.out.2.1] at this
    exact ⟨after_alloc HA0.out.1 _, HA0.out.2.2.1.alloc _, HA0.out.2.2.2.1.alloc _, HA0.out.2.2.2.2.1.alloc _, HA0.out.2.2.2.2.2.alloc _, this⟩
  have cw : W0.cell? ⟨w.heap.size + 1, 5, none⟩ = some (.bool false) := by rw [← hwd]; exact HA0.out.2.2.2.1.cell rfl
  have ca : W1.cell? ⟨w.heap.size + 1, 0, none⟩ = some (.int .u8 (p.af.toNat : Int)) := HA.out.2.2.1.cell rfl
  have cB : W1.cell? ⟨w.heap.size, 0, none⟩ = some (.slice va n cap) := HA.out.2.1.cell rfl
  have hsz : W0.heap.size = w.heap.size + 1 + 1 + 1 + 1 := HA0.out.2.1
  obtain ⟨m, hm⟩ : ∃ m, p.up.toNat % 4 = m := ⟨_, rfl⟩
  have hm4 : m < 4 := by omega
  have haf : p.af.toNat ≤ 255 := by have := p.af.toNat_lt; omega
  obtain ⟨gs, hva, hkn, hrg⟩ := h.at hc
  subst hva
  have hrg1 : W1.rangeAt gs (k * 68) (idc c.id) := by
    have := range_after (range_rid hrg) HA.out.1
    rwa [Nat.zero_add] at this
  have HK : Hid (p.af.toNat % (n + 1) = k + 1 ∧ n ≤ 100000 ∧ p.af.toNat ≤ 255 ∧ m < 4) := ⟨hk, hnl, haf, hm4⟩
  have HS : Hid (k < n ∧ c.id.Ok ∧ W1.rangeAt gs (k * 68) (idc c.id)) := ⟨hkn, hok, hrg1⟩
  obtain ⟨W2, hW2⟩ : ∃ W2, W1.setRow (w.heap.size + 1 + 1 + 1 + 1) (idc c.id).toArray = W2 := ⟨_, rfl⟩
  have HX : Hid (RowIs W2 (w.heap.size + 1) 33 (pcell p) ∧ RowIs W2 (w.heap.size + 1 + 1) 40 (idc zId) ∧ RowIs W2 (w.heap.size + 1 + 1 + 1) 40 (idc zId) ∧ RowIs W2 (w.heap.size + 1 + 1 + 1 + 1) 40 (idc c.id)) := by
    rw [← hW2]
    exact ⟨HA.out.2.2.1.setRow_other _ (by omega), HA.out.2.2.2.1.setRow_other _ (by omega), HA.out.2.2.2.2.1.setRow_other _ (by omega), HA.out.2.2.2.2.2.setRow _⟩
  have cu : W2.cell? ⟨w.heap.size + 1, 1, none⟩ = some (.int .u8 (p.up.toNat : Int)) := HX.out.1.cell rfl
  have cc : W2.cell? ⟨w.heap.size + 1 + 1 + 1 + 1, 0, none⟩ = some (.int .i64 c.id.c) := HX.out.2.2.2.cell rfl
  have HKW : Hid (KeptF (fun b => w.heap.size ≤ b) w W2) := by
    rw [← hW2]
    exact (KeptF.of_after HA.out.1).trans (KeptF.setRow (F := fun b => w.heap.size ≤ b) _ _ _ (by show w.heap.size ≤ w.heap.size + 1 + 1 + 1 + 1; omega)) (fun _ _ h => h)
  have hlo := hok.lo
  have hhi := hok.hi
  have HZ : Hid (c.id.Ok ∧ (⟨c.id.c + ((1 + m : Nat) : Int), h1 p.by_⟩ : Idn).Ok ∧ tAf l p = c.id ∧ tId l p = ⟨c.id.c + ((1 + m : Nat) : Int), h1 p.by_⟩) := ⟨hok, ⟨by show _ ≤ c.id.c + _; omega, by show c.id.c + _ ≤ _; omega, h1_len _⟩, ez, by unfold tId tUp; rw [ez, if_neg hbg, hm]⟩
  have hk0 : (0 : Int) < (k : Int) + 1 := by omega
  clear hrg hrg1 hlo hhi hkn
  clear h hwd hl ez hk hok hc
  go_enter Try.func29, Try.ntmps29
  go_wp2_with (first
    | (rw [hW0])
    | (rw [hW1])
    | (refine wpList_of_run rfl ((x_al40 rfl).trans (by rw [hW1, hsz])) ?_)
    | (refine wpList_of_run rfl (x_al40 rfl) ?_)
    | (refine wpList_of_run rfl (x_cv53 (x := .tmp 24) (m := p.af.toNat) (by have := HK.out.2.2.1; omega) rfl (by kernel_rfl)) ?_)
    | (refine wpList_of_run rfl (x_add1 (x := .tmp 28) (k := n) (by have := HK.out.2.1; omega) rfl (by kernel_rfl)) ?_)
    | (refine wpList_of_run rfl (x_remi (x := .tmp 25) (y := .tmp 29) (p := p.af.toNat) (q := n + 1) rfl (by kernel_rfl) (by kernel_rfl) HK.out.1 (Nat.succ_pos _)) ?_)
    | (refine wpList_of_run rfl (x_dec1 (x := .tmp 35) (k := k) (by have := HS.out.1; have := HK.out.2.1; omega) rfl (by kernel_rfl)) ?_)
    | (refine wpList_of_run rfl (x_idx27 (x := .tmp 34) (y := .tmp 36) (b := gs) (f := 0) (n := n) (c := cap) (k := k) rfl (by kernel_rfl) (by kernel_rfl) HS.out.1) ?_)
    | (refine wpList_of_run rfl (x_ld40m (x := .tmp 38) (g := gs) (p := k * 68) (y := c.id) HS.out.2.1 rfl (by kernel_rfl) HS.out.2.2) ?_)
    | (refine wpList_store_row rfl 40 (.tmp 6) (.tmp 39) rfl (w.heap.size + 1 + 1 + 1 + 1) (idc c.id).toArray rfl rfl 40 _ HA.out.2.2.2.2.2 (size40 HS.out.2.1) (by simp [idc_len HS.out.2.1, idc_len zId_ok]) (by simpa using idc_one c.id) ?_; rw [hW2])
    | (refine wpList_of_run rfl (x_rem8 (x := .tmp 41) (u := p.up) rfl (by kernel_rfl)) ?_; rw [hm])
    | (refine wpList_of_run rfl (x_cv53 (x := .tmp 42) (m := m) (by have := HK.out.2.2.2; omega) rfl (by kernel_rfl)) ?_))
  refine wp_region_noPanic ?_
  refine wp_region_held_drew (S := KeptF (fun b => b = w.heap.size + 1 + 1 ∨ b = w.heap.size + 1 + 1 + 1) W2) (by kernel_rfl) (KeptF.of_after (After.drew (After.refl _))) ?_
  intro hS0
  refine tk 0 48 (idv c.id) (fuel := 10) rfl (by kernel_rfl) (by kernel_rfl) (by kernel_rfl) (by kernel_rfl) noPanic_false (by kernel_rfl) (fun W hW => x_ld40m (x := .tmp 6) (g := w.heap.size + 1 + 1 + 1 + 1) (p := 0) HZ.out.1 (by kernel_rfl) (by kernel_rfl) (hW.row HX.out.2.2.2 (by omega)).range0) hS0 ?_
  refine tk 1 49 (.pointer (some ⟨w.heap.size + 1 + 1 + 1 + 1, 0, none⟩)) (fuel := 9) rfl (by kernel_rfl) (by kernel_rfl) (by kernel_rfl) (by kernel_rfl) noPanic_false (by kernel_rfl) (fun _ _ => by kernel_rfl) hS0 ?_
  refine tk 2 50 (.int .i64 c.id.c) (fuel := 8) rfl (by kernel_rfl) (by kernel_rfl) (by kernel_rfl) (by kernel_rfl) noPanic_false (by kernel_rfl) (fun W hW => x_loadT (x := .tmp 49) (t := 3) (g := w.heap.size + 1 + 1 + 1 + 1) (j := 0) Try.underlying3 rfl (by kernel_rfl) (by kernel_rfl) ((hW.row HX.out.2.2.2 (by omega)).cell (j := 0) rfl)) hS0 ?_
  refine tk 3 51 (.int .i64 ((1 + m : Nat) : Int)) (fuel := 7) rfl (by kernel_rfl) (by kernel_rfl) (by kernel_rfl) (by kernel_rfl) noPanic_false (by kernel_rfl) (fun _ _ => by kernel_rfl) hS0 ?_
  refine tk 4 52 (.int .i64 (c.id.c + ((1 + m : Nat) : Int))) (fuel := 6) rfl (by kernel_rfl) (by kernel_rfl) (by kernel_rfl) (by kernel_rfl) noPanic_false (by kernel_rfl) (fun W hW => x_addz (x := .tmp 50) (y := .tmp 51) (p := c.id.c) (q := ((1 + m : Nat) : Int)) HZ.out.2.1.lo HZ.out.2.1.hi (by kernel_rfl) (by kernel_rfl) (by kernel_rfl)) hS0 ?_
  refine tk 5 53 (.pointer (some ⟨w.heap.size + 1, 2, none⟩)) (fuel := 5) rfl (by kernel_rfl) (by kernel_rfl) (by kernel_rfl) (by kernel_rfl) noPanic_false (by kernel_rfl) (fun _ _ => by kernel_rfl) hS0 ?_
  refine tk 6 54 (.int .u8 (p.by_.toNat : Int)) (fuel := 4) rfl (by kernel_rfl) (by kernel_rfl) (by kernel_rfl) (by kernel_rfl) noPanic_false (by kernel_rfl) (fun W hW => x_loadT (x := .tmp 53) (t := 5) (g := w.heap.size + 1) (j := 2) Try.underlying5 rfl (by kernel_rfl) (by kernel_rfl) ((hW.row HX.out.1 (by omega)).cell (j := 2) rfl)) hS0 ?_
  refine tk 7 55 (.agg (c8 (h1 p.by_)).toArray) (fuel := 3) rfl (by kernel_rfl) (by kernel_rfl) (by kernel_rfl) (by kernel_rfl) noPanic_false (by kernel_rfl) (fun W hW => x_bld35 (x := .tmp 54) (by kernel_rfl) (by kernel_rfl)) hS0 ?_
  refine tk 8 56 (idv ⟨c.id.c + ((1 + m : Nat) : Int), h1 p.by_⟩) (fuel := 2) rfl (by kernel_rfl) (by kernel_rfl) (by kernel_rfl) (by kernel_rfl) noPanic_false (by kernel_rfl) (fun W hW => x_bld40 (x := .tmp 52) (y := .tmp 55) (h1_len _) (by kernel_rfl) (by kernel_rfl) (by kernel_rfl)) hS0 ?_
  have d3 : RowIs W2.drew (w.heap.size + 1 + 1) 40 (idc zId) := HX.out.2.1.below (After.drew (After.refl _)) HX.out.2.1.lt
  have d4 : RowIs W2.drew (w.heap.size + 1 + 1 + 1) 40 (idc zId) := HX.out.2.2.1.below (After.drew (After.refl _)) HX.out.2.2.1.lt
  have e3 : RowIs ((W2.drew).setRow (w.heap.size + 1 + 1) (idc c.id).toArray) (w.heap.size + 1 + 1) 40 (idc c.id) := d3.setRow _
  have e4 : RowIs ((W2.drew).setRow (w.heap.size + 1 + 1) (idc c.id).toArray) (w.heap.size + 1 + 1 + 1) 40 (idc zId) := d4.setRow_other _ (by omega)
  have f3 : RowIs (((W2.drew).setRow (w.heap.size + 1 + 1) (idc c.id).toArray).setRow (w.heap.size + 1 + 1 + 1) (idc (⟨c.id.c + ((1 + m : Nat) : Int), h1 p.by_⟩ : Idn)).toArray) (w.heap.size + 1 + 1) 40 (idc c.id) := e3.setRow_other _ (by omega)
  have f4 : RowIs (((W2.drew).setRow (w.heap.size + 1 + 1) (idc c.id).toArray).setRow (w.heap.size + 1 + 1 + 1) (idc (⟨c.id.c + ((1 + m : Nat) : Int), h1 p.by_⟩ : Idn)).toArray) (w.heap.size + 1 + 1 + 1) 40 (idc (⟨c.id.c + ((1 + m : Nat) : Int), h1 p.by_⟩ : Idn)) := e4.setRow _
  have k3 : KeptF (fun b => b = w.heap.size + 1 + 1 ∨ b = w.heap.size + 1 + 1 + 1) W2 ((W2.drew).setRow (w.heap.size + 1 + 1) (idc c.id).toArray) := (KeptF.of_after (After.drew (After.refl _))).trans (KeptF.setRow (F := fun b => b = w.heap.size + 1 + 1 ∨ b = w.heap.size + 1 + 1 + 1) _ _ _ (.inl rfl)) (fun _ _ h => h)
  have k4 : KeptF (fun b => b = w.heap.size + 1 + 1 ∨ b = w.heap.size + 1 + 1 + 1) W2 (((W2.drew).setRow (w.heap.size + 1 + 1) (idc c.id).toArray).setRow (w.heap.size + 1 + 1 + 1) (idc (⟨c.id.c + ((1 + m : Nat) : Int), h1 p.by_⟩ : Idn)).toArray) := k3.trans (KeptF.setRow (F := fun b => b = w.heap.size + 1 + 1 ∨ b = w.heap.size + 1 + 1 + 1) _ _ _ (.inr rfl)) (fun _ _ h => h)
  refine tkStoreS 9 ((W2.drew).setRow (w.heap.size + 1 + 1) (idc c.id).toArray) (fuel := 1) rfl (by kernel_rfl) (by kernel_rfl) (by kernel_rfl) (x_st40 (x := .tmp 4) (y := .tmp 48) (g := w.heap.size + 1 + 1) (z := c.id) (z0 := zId) HZ.out.1 zId_ok (by kernel_rfl) (by kernel_rfl) (by kernel_rfl) d3) (k3) ?_
  refine tkStoreS 10 (((W2.drew).setRow (w.heap.size + 1 + 1) (idc c.id).toArray).setRow (w.heap.size + 1 + 1 + 1) (idc (⟨c.id.c + ((1 + m : Nat) : Int), h1 p.by_⟩ : Idn)).toArray) (fuel := 0) rfl (by kernel_rfl) (by kernel_rfl) (by kernel_rfl) (x_st40 (x := .tmp 5) (y := .tmp 56) (g := w.heap.size + 1 + 1 + 1) (z := (⟨c.id.c + ((1 + m : Nat) : Int), h1 p.by_⟩ : Idn)) (z0 := zId) HZ.out.2.1 zId_ok (by kernel_rfl) (by kernel_rfl) (by kernel_rfl) e4) (k4) ?_
  refine wpAnyH_done (by kernel_rfl) (NoPanic.normal ?_) _
  have HF := show Hid (RowIs (((W2.drew).setRow (w.heap.size + 1 + 1) (idc c.id).toArray).setRow (w.heap.size + 1 + 1 + 1) (idc (⟨c.id.c + ((1 + m : Nat) : Int), h1 p.by_⟩ : Idn)).toArray) (w.heap.size + 1 + 1) 40 (idc c.id) ∧ RowIs (((W2.drew).setRow (w.heap.size + 1 + 1) (idc c.id).toArray).setRow (w.heap.size + 1 + 1 + 1) (idc (⟨c.id.c + ((1 + m : Nat) : Int), h1 p.by_⟩ : Idn)).toArray) (w.heap.size + 1 + 1 + 1) 40 (idc (⟨c.id.c + ((1 + m : Nat) : Int), h1 p.by_⟩ : Idn)) ∧ KeptF (fun b => b = w.heap.size + 1 + 1 ∨ b = w.heap.size + 1 + 1 + 1) W2 (((W2.drew).setRow (w.heap.size + 1 + 1) (idc c.id).toArray).setRow (w.heap.size + 1 + 1 + 1) (idc (⟨c.id.c + ((1 + m : Nat) : Int), h1 p.by_⟩ : Idn)).toArray)) from ⟨f3, f4, k4⟩
  obtain ⟨W5, hW5⟩ : ∃ W5, ((W2.drew).setRow (w.heap.size + 1 + 1) (idc c.id).toArray).setRow (w.heap.size + 1 + 1 + 1) (idc (⟨c.id.c + ((1 + m : Nat) : Int), h1 p.by_⟩ : Idn)).toArray = W5 := ⟨_, rfl⟩
  rw [hW5] at HF ⊢
  clear hW5 d3 d4 e3 e4 f3 f4 k3 k4
  go_simp
  go_wp2_with fail
  refine ⟨rfl, _, ret4040 Try.results29 _ _ (w.heap.size + 1 + 1) (w.heap.size + 1 + 1 + 1) c.id (⟨c.id.c + ((1 + m : Nat) : Int), h1 p.by_⟩ : Idn) HZ.out.1 HZ.out.2.1 rfl HF.out.1 rfl HF.out.2.1, by rw [HZ.out.2.2.1, HZ.out.2.2.2], ?_⟩
  exact ((HKW.out).trans HF.out.2.2 (fun x hx h => by rcases h with h | h <;> (show w.heap.size ≤ x; omega))).below (Nat.le_refl _) (fun _ h => h)
set_option maxRecDepth 100000 in
set_option maxHeartbeats 1600000 in
theorem ids_tameB {w : World} {base : Nat} {v : Value} {l : List RC} (h : RowR w base v l) {p : Put} (hwd : p.wild = false) (hl : l.length ≤ 100000) {k : Nat} {c : RC} (hk : p.af.toNat % (l.length + 1) = k + 1) (hc : l[k]? = some c) (hbg : c.id.c > 1099511627776) :
    Calls Try.prog 29 #[.agg #[v], .agg (pcell p).toArray] w fun e w' => e = .returned (.tuple #[idv (tAf l p), idv (tId l p)]) ∧ After w w' := by
  obtain ⟨va, cap, rfl⟩ := h.sl
  obtain ⟨n, hn⟩ : ∃ n, l.length = n := ⟨_, rfl⟩
  have hnl : n ≤ 100000 := by omega
  have ez : tAf l p = c.id := by unfold tAf; rw [hk]; show (match l[k]? with | some c => c.id | none => zId) = _; rw [hc]
  have hok := (h.1 c (List.mem_of_getElem? hc)).id
  rw [hn] at h hk ⊢
  obtain ⟨W0, hW0⟩ : ∃ W0, (((w.alloc (.cells #[.slice va n cap] 29)).alloc (.cells (pcell p).toArray 33)).alloc (.cells (idc zId).toArray 40)).alloc (.cells (idc zId).toArray 40) = W0 := ⟨_, rfl⟩
  have HA0 : Hid (After w W0 ∧ W0.heap.size = w.heap.size + 1 + 1 + 1 + 1 ∧ RowIs W0 w.heap.size 29 [.slice va n cap] ∧ RowIs W0 (w.heap.size + 1) 33 (pcell p) ∧ RowIs W0 (w.heap.size + 1 + 1) 40 (idc zId) ∧ RowIs W0 (w.heap.size + 1 + 1 + 1) 40 (idc zId)) := by
    rw [← hW0]
    refine ⟨after_alloc (after_alloc (after_alloc (after_alloc (After.refl w) _) _) _) _, by simp, (((RowIs.new w 29 [.slice va n cap]).alloc _).alloc _).alloc _, ?_, ?_, ?_⟩
    · have := RowIs.new (w.alloc (.cells #[.slice va n cap] 29)) 33 (pcell p)
      rw [World.size_alloc] at this
      exact (this.alloc _).alloc _
    · have := RowIs.new ((w.alloc (.cells #[.slice va n cap] 29)).alloc (.cells (pcell p).toArray 33)) 40 (idc zId)
      rw [World.size_alloc, World.size_alloc] at this
      exact this.alloc _
    · have := RowIs.new (((w.alloc (.cells #[.slice va n cap] 29)).alloc (.cells (pcell p).toArray 33)).alloc (.cells (idc zId).toArray 40)) 40 (idc zId)
      rwa [World.size_alloc, World.size_alloc, World.size_alloc] at this
  obtain ⟨W1, hW1⟩ : ∃ W1, W0.alloc (.cells (idc zId).toArray 40) = W1 := ⟨_, rfl⟩
  have HA : Hid (After w W1 ∧ RowIs W1 w.heap.size 29 [.slice va n cap] ∧ RowIs W1 (w.heap.size + 1) 33 (pcell p) ∧ RowIs W1 (w.heap.size + 1 + 1) 40 (idc zId) ∧ RowIs W1 (w.heap.size + 1 + 1 + 1) 40 (idc zId) ∧ RowIs W1 (w.heap.size + 1 + 1 + 1 + 1) 40 (idc zId)) := by
    rw [← hW1]
    have := RowIs.new W0 40 (idc zId)
    rw [HA0.out.2.1] at this
    exact ⟨after_alloc HA0.out.1 _, HA0.out.2.2.1.alloc _, HA0.out.2.2.2.1.alloc _, HA0.out.2.2.2.2.1.alloc _, HA0.out.2.2.2.2.2.alloc _, this⟩
  have cw : W0.cell? ⟨w.heap.size + 1, 5, none⟩ = some (.bool false) := by rw [← hwd]; exact HA0.out.2.2.2.1.cell rfl
  have ca : W1.cell? ⟨w.heap.size + 1, 0, none⟩ = some (.int .u8 (p.af.toNat : Int)) := HA.out.2.2.1.cell rfl
  have cB : W1.cell? ⟨w.heap.size, 0, none⟩ = some (.slice va n cap) := HA.out.2.1.cell rfl
  have hsz : W0.heap.size = w.heap.size + 1 + 1 + 1 + 1 := HA0.out.2.1
  obtain ⟨m, hm⟩ : ∃ m, p.up.toNat % 4 = m := ⟨_, rfl⟩
  have hm4 : m < 4 := by omega
  have haf : p.af.toNat ≤ 255 := by have := p.af.toNat_lt; omega
  obtain ⟨gs, hva, hkn, hrg⟩ := h.at hc
  subst hva
  have hrg1 : W1.rangeAt gs (k * 68) (idc c.id) := by
    have := range_after (range_rid hrg) HA.out.1
    rwa [Nat.zero_add] at this
  have HK : Hid (p.af.toNat % (n + 1) = k + 1 ∧ n ≤ 100000 ∧ p.af.toNat ≤ 255 ∧ m < 4) := ⟨hk, hnl, haf, hm4⟩
  have HS : Hid (k < n ∧ c.id.Ok ∧ W1.rangeAt gs (k * 68) (idc c.id)) := ⟨hkn, hok, hrg1⟩
  obtain ⟨W2, hW2⟩ : ∃ W2, W1.setRow (w.heap.size + 1 + 1 + 1 + 1) (idc c.id).toArray = W2 := ⟨_, rfl⟩
  have HX : Hid (RowIs W2 (w.heap.size + 1) 33 (pcell p) ∧ RowIs W2 (w.heap.size + 1 + 1) 40 (idc zId) ∧ RowIs W2 (w.heap.size + 1 + 1 + 1) 40 (idc zId) ∧ RowIs W2 (w.heap.size + 1 + 1 + 1 + 1) 40 (idc c.id)) := by
    rw [← hW2]
    exact ⟨HA.out.2.2.1.setRow_other _ (by omega), HA.out.2.2.2.1.setRow_other _ (by omega), HA.out.2.2.2.2.1.setRow_other _ (by omega), HA.out.2.2.2.2.2.setRow _⟩
  have cu : W2.cell? ⟨w.heap.size + 1, 1, none⟩ = some (.int .u8 (p.up.toNat : Int)) := HX.out.1.cell rfl
  have cc : W2.cell? ⟨w.heap.size + 1 + 1 + 1 + 1, 0, none⟩ = some (.int .i64 c.id.c) := HX.out.2.2.2.cell rfl
  have HKW : Hid (KeptF (fun b => w.heap.size ≤ b) w W2) := by
    rw [← hW2]
    exact (KeptF.of_after HA.out.1).trans (KeptF.setRow (F := fun b => w.heap.size ≤ b) _ _ _ (by show w.heap.size ≤ w.heap.size + 1 + 1 + 1 + 1; omega)) (fun _ _ h => h)
  have hlo := hok.lo
  have hhi := hok.hi
  have HZ : Hid (c.id.Ok ∧ (⟨c.id.c + ((0 : Nat) : Int), h1 p.by_⟩ : Idn).Ok ∧ tAf l p = c.id ∧ tId l p = ⟨c.id.c + ((0 : Nat) : Int), h1 p.by_⟩) := ⟨hok, ⟨by show _ ≤ c.id.c + _; omega, by show c.id.c + _ ≤ _; omega, h1_len _⟩, ez, by unfold tId tUp; rw [ez, if_pos hbg]⟩
  have hk0 : (0 : Int) < (k : Int) + 1 := by omega
  clear hrg hrg1 hlo hhi hkn
  clear h hwd hl ez hk hok hc
  go_enter Try.func29, Try.ntmps29
  go_wp2_with (first
    | (rw [hW0])
    | (rw [hW1])
    | (refine wpList_of_run rfl ((x_al40 rfl).trans (by rw [hW1, hsz])) ?_)
    | (refine wpList_of_run rfl (x_al40 rfl) ?_)
    | (refine wpList_of_run rfl (x_cv53 (x := .tmp 24) (m := p.af.toNat) (by have := HK.out.2.2.1; omega) rfl (by kernel_rfl)) ?_)
    | (refine wpList_of_run rfl (x_add1 (x := .tmp 28) (k := n) (by have := HK.out.2.1; omega) rfl (by kernel_rfl)) ?_)
    | (refine wpList_of_run rfl (x_remi (x := .tmp 25) (y := .tmp 29) (p := p.af.toNat) (q := n + 1) rfl (by kernel_rfl) (by kernel_rfl) HK.out.1 (Nat.succ_pos _)) ?_)
    | (refine wpList_of_run rfl (x_dec1 (x := .tmp 35) (k := k) (by have := HS.out.1; have := HK.out.2.1; omega) rfl (by kernel_rfl)) ?_)
    | (refine wpList_of_run rfl (x_idx27 (x := .tmp 34) (y := .tmp 36) (b := gs) (f := 0) (n := n) (c := cap) (k := k) rfl (by kernel_rfl) (by kernel_rfl) HS.out.1) ?_)
    | (refine wpList_of_run rfl (x_ld40m (x := .tmp 38) (g := gs) (p := k * 68) (y := c.id) HS.out.2.1 rfl (by kernel_rfl) HS.out.2.2) ?_)
    | (refine wpList_store_row rfl 40 (.tmp 6) (.tmp 39) rfl (w.heap.size + 1 + 1 + 1 + 1) (idc c.id).toArray rfl rfl 40 _ HA.out.2.2.2.2.2 (size40 HS.out.2.1) (by simp [idc_len HS.out.2.1, idc_len zId_ok]) (by simpa using idc_one c.id) ?_; rw [hW2])
    | (refine wpList_of_run rfl (x_rem8 (x := .tmp 41) (u := p.up) rfl (by kernel_rfl)) ?_; rw [hm])
    | (refine wpList_of_run rfl (x_cv53 (x := .tmp 42) (m := m) (by have := HK.out.2.2.2; omega) rfl (by kernel_rfl)) ?_))
  refine wp_region_noPanic ?_
  refine wp_region_held_drew (S := KeptF (fun b => b = w.heap.size + 1 + 1 ∨ b = w.heap.size + 1 + 1 + 1) W2) (by kernel_rfl) (KeptF.of_after (After.drew (After.refl _))) ?_
  intro hS0
  refine tk 0 48 (idv c.id) (fuel := 10) rfl (by kernel_rfl) (by kernel_rfl) (by kernel_rfl) (by kernel_rfl) noPanic_false (by kernel_rfl) (fun W hW => x_ld40m (x := .tmp 6) (g := w.heap.size + 1 + 1 + 1 + 1) (p := 0) HZ.out.1 (by kernel_rfl) (by kernel_rfl) (hW.row HX.out.2.2.2 (by omega)).range0) hS0 ?_
  refine tk 1 49 (.pointer (some ⟨w.heap.size + 1 + 1 + 1 + 1, 0, none⟩)) (fuel := 9) rfl (by kernel_rfl) (by kernel_rfl) (by kernel_rfl) (by kernel_rfl) noPanic_false (by kernel_rfl) (fun _ _ => by kernel_rfl) hS0 ?_
  refine tk 2 50 (.int .i64 c.id.c) (fuel := 8) rfl (by kernel_rfl) (by kernel_rfl) (by kernel_rfl) (by kernel_rfl) noPanic_false (by kernel_rfl) (fun W hW => x_loadT (x := .tmp 49) (t := 3) (g := w.heap.size + 1 + 1 + 1 + 1) (j := 0) Try.underlying3 rfl (by kernel_rfl) (by kernel_rfl) ((hW.row HX.out.2.2.2 (by omega)).cell (j := 0) rfl)) hS0 ?_
  refine tk 3 51 (.int .i64 ((0 : Nat) : Int)) (fuel := 7) rfl (by kernel_rfl) (by kernel_rfl) (by kernel_rfl) (by kernel_rfl) noPanic_false (by kernel_rfl) (fun _ _ => by kernel_rfl) hS0 ?_
  refine tk 4 52 (.int .i64 (c.id.c + ((0 : Nat) : Int))) (fuel := 6) rfl (by kernel_rfl) (by kernel_rfl) (by kernel_rfl) (by kernel_rfl) noPanic_false (by kernel_rfl) (fun W hW => x_addz (x := .tmp 50) (y := .tmp 51) (p := c.id.c) (q := ((0 : Nat) : Int)) HZ.out.2.1.lo HZ.out.2.1.hi (by kernel_rfl) (by kernel_rfl) (by kernel_rfl)) hS0 ?_
  refine tk 5 53 (.pointer (some ⟨w.heap.size + 1, 2, none⟩)) (fuel := 5) rfl (by kernel_rfl) (by kernel_rfl) (by kernel_rfl) (by kernel_rfl) noPanic_false (by kernel_rfl) (fun _ _ => by kernel_rfl) hS0 ?_
  refine tk 6 54 (.int .u8 (p.by_.toNat : Int)) (fuel := 4) rfl (by kernel_rfl) (by kernel_rfl) (by kernel_rfl) (by kernel_rfl) noPanic_false (by kernel_rfl) (fun W hW => x_loadT (x := .tmp 53) (t := 5) (g := w.heap.size + 1) (j := 2) Try.underlying5 rfl (by kernel_rfl) (by kernel_rfl) ((hW.row HX.out.1 (by omega)).cell (j := 2) rfl)) hS0 ?_
  refine tk 7 55 (.agg (c8 (h1 p.by_)).toArray) (fuel := 3) rfl (by kernel_rfl) (by kernel_rfl) (by kernel_rfl) (by kernel_rfl) noPanic_false (by kernel_rfl) (fun W hW => x_bld35 (x := .tmp 54) (by kernel_rfl) (by kernel_rfl)) hS0 ?_
  refine tk 8 56 (idv ⟨c.id.c + ((0 : Nat) : Int), h1 p.by_⟩) (fuel := 2) rfl (by kernel_rfl) (by kernel_rfl) (by kernel_rfl) (by kernel_rfl) noPanic_false (by kernel_rfl) (fun W hW => x_bld40 (x := .tmp 52) (y := .tmp 55) (h1_len _) (by kernel_rfl) (by kernel_rfl) (by kernel_rfl)) hS0 ?_
  have d3 : RowIs W2.drew (w.heap.size + 1 + 1) 40 (idc zId) := HX.out.2.1.below (After.drew (After.refl _)) HX.out.2.1.lt
  have d4 : RowIs W2.drew (w.heap.size + 1 + 1 + 1) 40 (idc zId) := HX.out.2.2.1.below (After.drew (After.refl _)) HX.out.2.2.1.lt
  have e3 : RowIs ((W2.drew).setRow (w.heap.size + 1 + 1) (idc c.id).toArray) (w.heap.size + 1 + 1) 40 (idc c.id) := d3.setRow _
  have e4 : RowIs ((W2.drew).setRow (w.heap.size + 1 + 1) (idc c.id).toArray) (w.heap.size + 1 + 1 + 1) 40 (idc zId) := d4.setRow_other _ (by omega)
  have f3 : RowIs (((W2.drew).setRow (w.heap.size + 1 + 1) (idc c.id).toArray).setRow (w.heap.size + 1 + 1 + 1) (idc (⟨c.id.c + ((0 : Nat) : Int), h1 p.by_⟩ : Idn)).toArray) (w.heap.size + 1 + 1) 40 (idc c.id) := e3.setRow_other _ (by omega)
  have f4 : RowIs (((W2.drew).setRow (w.heap.size + 1 + 1) (idc c.id).toArray).setRow (w.heap.size + 1 + 1 + 1) (idc (⟨c.id.c + ((0 : Nat) : Int), h1 p.by_⟩ : Idn)).toArray) (w.heap.size + 1 + 1 + 1) 40 (idc (⟨c.id.c + ((0 : Nat) : Int), h1 p.by_⟩ : Idn)) := e4.setRow _
  have k3 : KeptF (fun b => b = w.heap.size + 1 + 1 ∨ b = w.heap.size + 1 + 1 + 1) W2 ((W2.drew).setRow (w.heap.size + 1 + 1) (idc c.id).toArray) := (KeptF.of_after (After.drew (After.refl _))).trans (KeptF.setRow (F := fun b => b = w.heap.size + 1 + 1 ∨ b = w.heap.size + 1 + 1 + 1) _ _ _ (.inl rfl)) (fun _ _ h => h)
  have k4 : KeptF (fun b => b = w.heap.size + 1 + 1 ∨ b = w.heap.size + 1 + 1 + 1) W2 (((W2.drew).setRow (w.heap.size + 1 + 1) (idc c.id).toArray).setRow (w.heap.size + 1 + 1 + 1) (idc (⟨c.id.c + ((0 : Nat) : Int), h1 p.by_⟩ : Idn)).toArray) := k3.trans (KeptF.setRow (F := fun b => b = w.heap.size + 1 + 1 ∨ b = w.heap.size + 1 + 1 + 1) _ _ _ (.inr rfl)) (fun _ _ h => h)
  refine tkStoreS 9 ((W2.drew).setRow (w.heap.size + 1 + 1) (idc c.id).toArray) (fuel := 1) rfl (by kernel_rfl) (by kernel_rfl) (by kernel_rfl) (x_st40 (x := .tmp 4) (y := .tmp 48) (g := w.heap.size + 1 + 1) (z := c.id) (z0 := zId) HZ.out.1 zId_ok (by kernel_rfl) (by kernel_rfl) (by kernel_rfl) d3) (k3) ?_
  refine tkStoreS 10 (((W2.drew).setRow (w.heap.size + 1 + 1) (idc c.id).toArray).setRow (w.heap.size + 1 + 1 + 1) (idc (⟨c.id.c + ((0 : Nat) : Int), h1 p.by_⟩ : Idn)).toArray) (fuel := 0) rfl (by kernel_rfl) (by kernel_rfl) (by kernel_rfl) (x_st40 (x := .tmp 5) (y := .tmp 56) (g := w.heap.size + 1 + 1 + 1) (z := (⟨c.id.c + ((0 : Nat) : Int), h1 p.by_⟩ : Idn)) (z0 := zId) HZ.out.2.1 zId_ok (by kernel_rfl) (by kernel_rfl) (by kernel_rfl) e4) (k4) ?_
  refine wpAnyH_done (by kernel_rfl) (NoPanic.normal ?_) _
  have HF := show Hid (RowIs (((W2.drew).setRow (w.heap.size + 1 + 1) (idc c.id).toArray).setRow (w.heap.size + 1 + 1 + 1) (idc (⟨c.id.c + ((0 : Nat) : Int), h1 p.by_⟩ : Idn)).toArray) (w.heap.size + 1 + 1) 40 (idc c.id) ∧ RowIs (((W2.drew).setRow (w.heap.size + 1 + 1) (idc c.id).toArray).setRow (w.heap.size + 1 + 1 + 1) (idc (⟨c.id.c + ((0 : Nat) : Int), h1 p.by_⟩ : Idn)).toArray) (w.heap.size + 1 + 1 + 1) 40 (idc (⟨c.id.c + ((0 : Nat) : Int), h1 p.by_⟩ : Idn)) ∧ KeptF (fun b => b = w.heap.size + 1 + 1 ∨ b = w.heap.size + 1 + 1 + 1) W2 (((W2.drew).setRow (w.heap.size + 1 + 1) (idc c.id).toArray).setRow (w.heap.size + 1 + 1 + 1) (idc (⟨c.id.c + ((0 : Nat) : Int), h1 p.by_⟩ : Idn)).toArray)) from ⟨f3, f4, k4⟩
  obtain ⟨W5, hW5⟩ : ∃ W5, ((W2.drew).setRow (w.heap.size + 1 + 1) (idc c.id).toArray).setRow (w.heap.size + 1 + 1 + 1) (idc (⟨c.id.c + ((0 : Nat) : Int), h1 p.by_⟩ : Idn)).toArray = W5 := ⟨_, rfl⟩
  rw [hW5] at HF ⊢
  clear hW5 d3 d4 e3 e4 f3 f4 k3 k4
  go_simp
  go_wp2_with fail
  refine ⟨rfl, _, ret4040 Try.results29 _ _ (w.heap.size + 1 + 1) (w.heap.size + 1 + 1 + 1) c.id (⟨c.id.c + ((0 : Nat) : Int), h1 p.by_⟩ : Idn) HZ.out.1 HZ.out.2.1 rfl HF.out.1 rfl HF.out.2.1, by rw [HZ.out.2.2.1, HZ.out.2.2.2], ?_⟩
  exact ((HKW.out).trans HF.out.2.2 (fun x hx h => by rcases h with h | h <;> (show w.heap.size ≤ x; omega))).below (Nat.le_refl _) (fun _ h => h)
end Go.Proofs.Ytiglenomigipmaa
