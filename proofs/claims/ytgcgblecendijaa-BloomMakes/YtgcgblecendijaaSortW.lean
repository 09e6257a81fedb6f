/-
  A ROW OF HASHES THAT IS BEING SORTED: what the comparison tells, what the exchange does.
-/
import Derived.Test.YtgcgblecendijaaLists
import Derived.Test.YtgcgblecendijaaShelf
import Derived.Lib.ReflectliteSwap
import Derived.Sort.Lot0
import Derived.Sort.WalkA
namespace Go.Proofs.Ytgcgblecendijaa
open Go.RowKit Go.Sort Go.Lib
section
variable {ops : Array Oper} {Q : Exit → Act → World → Prop} {T : World → Prop} {fuel : Nat} {listed : Array Bool} {a : Act} {w : World} {oi : Oper}
theorem tkCallS (i d : Nat) (f : FuncId) (args : Array Value) (R : Value → World → Prop) (hi : ops[i]? = some oi) (hd : oi.dst = some d) (hr : Region.ready .any ops listed = [i])
    (hw : Region.wanted oi (yielded ops a.tmps) = true) (hrun : ∀ w, (execOp a.eval oi).run Try.prog w = .ok (.enter f args) w)
    (hc : Calls Try.prog f args w fun e w' => ∃ v, e = .returned v ∧ R v w')
    (h : ∀ v w', R v w' → T w' ∧ wpAnyH Try.prog .any ops Q T fuel (listed.setIfInBounds i true) (a.put (some d) v) w') : wpAnyH Try.prog .any ops Q T (fuel + 1) listed a w :=
  wpAnyH_all hr (by simp) (fun j hj => by
    obtain rfl : j = i := by simpa using hj
    refine wpOp_step hi (fun K' hK => ?_)
    rw [if_pos hw]
    unfold Oper.wp
    rw [hrun, Oper.upon_enter]
    refine hc.mono (fun e w' ⟨v, he, hr⟩ => ?_)
    subst he
    rw [hd]
    exact hK _ _ (h v w' hr))
theorem x_ld22 {x : Operand} {g p : Nat} {v : Value} (hop : oi.op = .load 22 x) (hx : a.eval x = .pointer (some ⟨g, p, none⟩)) (hc : w.cell? ⟨g, p, none⟩ = some v) : (execOp a.eval oi).run Try.prog w = .ok (.value v) w := by
  unfold execOp; simp only [hop, hx]; simp [go_sem, hc]
theorem x_ld24 {x : Operand} {g p : Nat} {h : Hs} (h32 : h.length = 32) (hop : oi.op = .load 29 x) (hx : a.eval x = .pointer (some ⟨g, p, none⟩)) (hc : w.rangeAt g p (c8 h)) : (execOp a.eval oi).run Try.prog w = .ok (.value (hv h)) w := by
  unfold execOp
  simp only [hop, hx, Instr.loadAt, Instr.sureAddr, Sem.run_bind, Sem.run_pure, Result.andThen_ok, run_loadVar_mid w g p 29 (c8 h) _ hc Try.underlying29 rfl (size24' h32)]
  rfl
theorem x_idx22 {x y : Operand} {b f n c k : Nat} (hop : oi.op = .indexAddr 22 x y) (hx : a.eval x = .slice (some ⟨b, f, none⟩) n c) (hy : a.eval y = .int .i64 (k : Int)) (hk : k < n) : (execOp a.eval oi).run Try.prog w = .ok (.value (.pointer (some ⟨b, f + k * 32, none⟩))) w := by
  have hk' : (k : Int) < (n : Int) := by omega
  obtain ⟨i, hi, hz⟩ := Option.map_eq_some_iff.1 size24
  unfold execOp; simp only [hop, hx, hy]; simp [go_sem, hk', hi, hz, sizeOf, typeInfo]
end
instance : Inhabited Hs := ⟨[]⟩
/-- A row of hashes under way: the array d, in block g; s, the closure's variable, lies in block Bs. -/
structure SW (w0 : World) (g cap Bs : Nat) (d : Array Hs) (W : World) : Prop where
  own : OwnH W g (.slice (some ⟨g, 0, none⟩) d.size cap) d.toList
  box : W.cell? ⟨Bs, 0, none⟩ = some (.slice (some ⟨g, 0, none⟩) d.size cap)
  ne : Bs ≠ g
  grow : w0.grownBy W (some g)
  a32 : All32 d.toList
theorem grown_after {w0 W W' : World} {r : Option Nat} (h : w0.grownBy W r) (ha : After W W') : w0.grownBy W' r :=
  ⟨ha.os.trans h.os, ha.tape.trans h.tape, ha.output.trans h.output, Nat.le_trans h.size ha.size, fun k hk hne => (ha.block k (Nat.lt_of_lt_of_le hk h.size)).trans (h.block k hk hne)⟩
theorem SW.after {w0 : World} {g cap Bs : Nat} {d : Array Hs} {W W' : World} (h : SW w0 g cap Bs d W) (ha : After W W') : SW w0 g cap Bs d W' :=
  ⟨h.own.after ha, (Below.cell ha (block_lt_of_cell h.box)).trans h.box, h.ne, grown_after h.grow ha, h.a32⟩
theorem get_bang (d : Array Hs) (i : Nat) (hi : i < d.size) : d.toList[i]? = some d[i]! := by
  rw [getElem!_pos d i hi]; simp [hi]
theorem ne_nil_of_size {d : Array Hs} {i : Nat} (hi : i < d.size) : d.toList ≠ [] := fun e => by
  have h2 : d.toList.length = 0 := by rw [e]; rfl
  rw [Array.length_toList] at h2; omega
theorem SW.range {w0 : World} {g cap Bs : Nat} {d : Array Hs} {W : World} (h : SW w0 g cap Bs d W) {i : Nat} (hi : i < d.size) : W.rangeAt g (i * 32) (c8 d[i]!) := by
  obtain ⟨ao, c, e, hat, _⟩ := h.own.at
  obtain ⟨b, o, e2, hr⟩ := hat.get h.a32 (ne_nil_of_size hi)
  have e3 : ao = some ⟨g, 0, none⟩ := by injection e with e1; exact e1.symm
  rw [e3] at e2
  cases e2
  have := hr i _ (get_bang d i hi)
  simpa using this
theorem SW.len {w0 : World} {g cap Bs : Nat} {d : Array Hs} {W : World} (h : SW w0 g cap Bs d W) {i : Nat} (hi : i < d.size) : (d[i]!).length = 32 := h.a32.at (get_bang d i hi)
set_option maxRecDepth 100000 in
set_option maxHeartbeats 1600000 in
/-- What the comparison, handed to sort.Slice, tells. -/
theorem less51 {w0 : World} {g cap Bs : Nat} {d : Array Hs} {w : World} (h : SW w0 g cap Bs d w) {i j : Nat} (hi : i < d.size) (hj : j < d.size) :
    Calls Try.prog 39 #[.int .i64 (i : Int), .int .i64 (j : Int), .pointer (some ⟨Bs, 0, none⟩)] w fun e w' => e = .returned (.bool (ltB d[i]! d[j]!)) ∧ After w w' := by
  have HS := show Hid (SW _ _ _ _ _ _) from h
  obtain ⟨n, hn⟩ : ∃ n, d.size = n := ⟨_, rfl⟩
  have HN : Hid (d.size = n) := hn
  have hin : i < n := by omega
  have hjn : j < n := by omega
  obtain ⟨x, hx⟩ : ∃ x, d[i]! = x := ⟨_, rfl⟩
  obtain ⟨y, hy⟩ : ∃ y, d[j]! = y := ⟨_, rfl⟩
  have HX : Hid (x.length = 32 ∧ w.rangeAt g (0 + i * 32) (c8 x)) := by rw [← hx, Nat.zero_add]; exact ⟨h.len hi, h.range hi⟩
  have HY : Hid (y.length = 32 ∧ w.rangeAt g (0 + j * 32) (c8 y)) := by rw [← hy, Nat.zero_add]; exact ⟨h.len hj, h.range hj⟩
  have HB : Hid (w.cell? ⟨Bs, 0, none⟩ = some (.slice (some ⟨g, 0, none⟩) n cap)) := by rw [← hn]; exact h.box
  rw [hx, hy]
  clear h hi hj hx hy hn
  go_enter Try.func39, Try.ntmps39
  go_wp2_with fail
  refine wp_region_noPanic ?_
  refine wp_region_held_drew (S := After w) (by kernel_rfl) (After.drew (After.refl w)) ?_
  intro hS0
  refine tk 0 6 (.slice (some ⟨g, 0, none⟩) n cap) (fuel := 9) rfl (by kernel_rfl) (by kernel_rfl) (by kernel_rfl) (by kernel_rfl) noPanic_false (by kernel_rfl) (fun W hW => x_ld22 (x := .tmp 2) (g := Bs) (p := 0) (by kernel_rfl) (by kernel_rfl) ((Below.cell hW (block_lt_of_cell HB.out)).trans HB.out)) hS0 ?_
  refine tk 1 7 (.int .i64 (i : Int)) (fuel := 8) rfl (by kernel_rfl) (by kernel_rfl) (by kernel_rfl) (by kernel_rfl) noPanic_false (by kernel_rfl) (fun _ _ => by kernel_rfl) hS0 ?_
  refine tk 2 8 (.pointer (some ⟨g, 0 + i * 32, none⟩)) (fuel := 7) rfl (by kernel_rfl) (by kernel_rfl) (by kernel_rfl) (by kernel_rfl) noPanic_false (by kernel_rfl) (fun W _ => x_idx22 (n := n) (c := cap) (x := .tmp 6) (y := .tmp 7) (by kernel_rfl) (by kernel_rfl) (by kernel_rfl) hin) hS0 ?_
  refine tk 3 9 (hv x) (fuel := 6) rfl (by kernel_rfl) (by kernel_rfl) (by kernel_rfl) (by kernel_rfl) noPanic_false (by kernel_rfl) (fun W hW => x_ld24 HX.out.1 (x := .tmp 8) (g := g) (p := 0 + i * 32) (by kernel_rfl) (by kernel_rfl) (range_after HX.out.2 hW)) hS0 ?_
  refine tk 4 10 (.slice (some ⟨g, 0, none⟩) n cap) (fuel := 5) rfl (by kernel_rfl) (by kernel_rfl) (by kernel_rfl) (by kernel_rfl) noPanic_false (by kernel_rfl) (fun W hW => x_ld22 (x := .tmp 2) (g := Bs) (p := 0) (by kernel_rfl) (by kernel_rfl) ((Below.cell hW (block_lt_of_cell HB.out)).trans HB.out)) hS0 ?_
  refine tk 5 11 (.int .i64 (j : Int)) (fuel := 4) rfl (by kernel_rfl) (by kernel_rfl) (by kernel_rfl) (by kernel_rfl) noPanic_false (by kernel_rfl) (fun _ _ => by kernel_rfl) hS0 ?_
  refine tk 6 12 (.pointer (some ⟨g, 0 + j * 32, none⟩)) (fuel := 3) rfl (by kernel_rfl) (by kernel_rfl) (by kernel_rfl) (by kernel_rfl) noPanic_false (by kernel_rfl) (fun W _ => x_idx22 (n := n) (c := cap) (x := .tmp 10) (y := .tmp 11) (by kernel_rfl) (by kernel_rfl) (by kernel_rfl) hjn) hS0 ?_
  refine tk 7 13 (hv y) (fuel := 2) rfl (by kernel_rfl) (by kernel_rfl) (by kernel_rfl) (by kernel_rfl) noPanic_false (by kernel_rfl) (fun W hW => x_ld24 HY.out.1 (x := .tmp 12) (g := g) (p := 0 + j * 32) (by kernel_rfl) (by kernel_rfl) (range_after HY.out.2 hW)) hS0 ?_
  refine tkCallS 8 14 40 #[hv x, hv y] (fun v w' => v = .bool (ltB x y) ∧ After w w') (fuel := 1) rfl (by kernel_rfl) (by kernel_rfl) (by kernel_rfl) (fun _ => by kernel_rfl) ((less_any x y HX.out.1 HY.out.1 w.drew).mono (fun e w' ⟨he, ha⟩ => ⟨_, he, rfl, After.trans hS0 ha⟩)) ?_
  intro v1 w1 ⟨hv1, hA1⟩
  subst hv1
  refine ⟨hA1, ?_⟩
  refine tk 9 5 (.bool (ltB x y)) (fuel := 0) rfl (by kernel_rfl) (by kernel_rfl) (by kernel_rfl) (by kernel_rfl) noPanic_false (by kernel_rfl) (fun _ _ => by kernel_rfl) hA1 ?_
  refine wpAnyH_done (by kernel_rfl) (NoPanic.normal ?_) _
  have HA1 : Hid (After w w1) := hA1
  clear hA1 hS0
  go_simp
  go_wp2
  go_ret
  exact ⟨rfl, HA1.out⟩
end Go.Proofs.Ytgcgblecendijaa
