/-
  THE WALK OF stemmalaw05.same: both tell the same.
-/
import Derived.Test.YtlbodickflljfaaRefStart
namespace Go.Proofs.Ytlbodickflljfaa
open Go.RowKit Go.Maps Dsk
theorem Own.form {w : World} {base : Nat} {v : Value} {l : List UInt8} (h : Own w base v l) (hn : l ≠ []) : ∃ g cap, v = .slice (some ⟨g, 0, none⟩) l.length cap ∧ base ≤ g ∧ l.length ≤ cap := by
  rcases h.2 with ⟨rfl, h0⟩ | ⟨g, cap, cur, rfl, hb, hg, hnc, _, hcs, ht⟩
  · exact absurd (List.eq_nil_of_length_eq_zero h0) hn
  · exact ⟨g, cap, rfl, hb, hnc⟩
theorem byte_up (b : UInt8) : ((b.toNat : Int) + 1) % 256 = ((b + 1).toNat : Int) := by
  rw [UInt8.toNat_add]
  simp
/-- A byte of an own row, one more. -/
theorem Own.up {w : World} {base g cap L : Nat} {l : List UInt8} (hL : l.length = L) (h : Own w base (.slice (some ⟨g, 0, none⟩) L cap) l) (k : Nat) (hk : k < L) :
    ∃ b : UInt8, w.cell? ⟨g, k, none⟩ = some (.int .u8 (b.toNat : Int)) ∧ w.frozen? ⟨g, k, none⟩ = false ∧ Own (w.setCell ⟨g, k, none⟩ (.int .u8 ((b + 1).toNat : Int))) base (.slice (some ⟨g, 0, none⟩) L cap) (l.set k (b + 1)) ∧ w.grownBy (w.setCell ⟨g, k, none⟩ (.int .u8 ((b + 1).toNat : Int))) (some g) := by
  subst hL
  obtain ⟨h1, h2⟩ := World.ownsRow.stored h k (.int .u8 (((l.getD k 0) + 1).toNat : Int))
  refine ⟨l.getD k 0, by rw [World.ownsRow.cellAt h k (by omega), c8_get l k hk], World.ownsRow.frozenAt h k, ?_, h2⟩
  unfold Own
  rw [List.length_set]
  have : (c8 l).set k (.int .u8 (((l.getD k 0) + 1).toNat : Int)) = c8 (l.set k (l.getD k 0 + 1)) := by unfold c8; rw [List.map_set]
  rwa [this] at h1
theorem OwnS.form {w : World} {base : Nat} {v : Value} {l : List Nm} (h : OwnS w base v l) (hn : l ≠ []) : ∃ g cap, v = .slice (some ⟨g, 0, none⟩) l.length cap ∧ base ≤ g ∧ l.length ≤ cap := by
  rcases h.2 with ⟨rfl, h0⟩ | ⟨g, cap, cur, rfl, hb, hg, hnc, _, hcs, ht⟩
  · exact absurd (List.eq_nil_of_length_eq_zero h0) hn
  · exact ⟨g, cap, rfl, hb, hnc⟩
/-- A text of an own row, emptied. -/
theorem OwnS.wipe {w : World} {base g cap L : Nat} {l : List Nm} (hL : l.length = L) (h : OwnS w base (.slice (some ⟨g, 0, none⟩) L cap) l) (k : Nat) {nm : Nm} (hk : l[k]? = some nm) :
    w.cell? ⟨g, k, none⟩ = some (.string (strOf nm)) ∧ w.frozen? ⟨g, k, none⟩ = false ∧ OwnS (w.setCell ⟨g, k, none⟩ (.string ⟨#[]⟩)) base (.slice (some ⟨g, 0, none⟩) L cap) (l.set k []) ∧ w.grownBy (w.setCell ⟨g, k, none⟩ (.string ⟨#[]⟩)) (some g) := by
  subst hL
  have hk2 := (List.getElem?_eq_some_iff.1 hk).1
  obtain ⟨h1, h2⟩ := World.ownsRow.stored h k (.string (strOf []))
  refine ⟨by rw [World.ownsRow.cellAt h k (by omega), List.getElem?_map, hk]; rfl, World.ownsRow.frozenAt h k, ?_, h2⟩
  unfold OwnS
  rw [List.length_set, List.map_set]
  exact h1
theorem OwnS.after {w w' : World} {base : Nat} {v : Value} {ns : List Nm} (h : OwnS w base v ns) (ha : After w w') : OwnS w' base v ns :=
  h.same (fun g cur hg => ha.block g (by rcases Nat.lt_or_ge g w.heap.size with h | h; exact h; rw [Array.getElem?_eq_none h] at hg; cases hg))
theorem x_neqf {o : Oper} {a : Act} {x y : Operand} {w : World} {t : TypeId} {p : Int} (hop : o.op = .binOp .neq t x y t) (hx : a.eval x = .int .i64 p) (hy : a.eval y = .int .i64 p) : (execOp a.eval o).run Try.prog w = .ok (.value (.bool false)) w := by
  unfold execOp; simp only [hop, hx, hy]; simp [go_sem]
theorem x_neqb {o : Oper} {a : Act} {x y : Operand} {w : World} {p : Bool} (hop : o.op = .binOp .neq 4 x y 4) (hx : a.eval x = .bool p) (hy : a.eval y = .bool p) : (execOp a.eval o).run Try.prog w = .ok (.value (.bool false)) w := by
  unfold execOp; simp only [hop, hx, hy]; cases p <;> kernel_rfl
theorem x_idx25 {o : Oper} {a : Act} {x y : Operand} {w : World} {b f n c k : Nat} (hop : o.op = .indexAddr 25 x y) (hx : a.eval x = .slice (some ⟨b, f, none⟩) n c) (hy : a.eval y = .int .i64 (k : Int)) (hk : k < n) : (execOp a.eval o).run Try.prog w = .ok (.value (.pointer (some ⟨b, f + k * 3, none⟩))) w := by
  have hk' : (k : Int) < (n : Int) := by omega
  obtain ⟨i, hi, hz⟩ := Option.map_eq_some_iff.1 info75
  simp only [Prod.mk.injEq] at hz
  unfold execOp; simp only [hop, hx, hy]; simp [go_sem, hk', hi, hz.2.1, sizeOf, typeInfo]
theorem x_idx51 {o : Oper} {a : Act} {x y : Operand} {w : World} {b n c k : Nat} (hop : o.op = .indexAddr 51 x y) (hx : a.eval x = .slice (some ⟨b, 0, none⟩) n c) (hy : a.eval y = .int .i64 (k : Int)) (hk : k < n) : (execOp a.eval o).run Try.prog w = .ok (.value (.pointer (some ⟨b, k, none⟩))) w := by
  have hk' : (k : Int) < (n : Int) := by omega
  obtain ⟨i, hi, hz⟩ := Option.map_eq_some_iff.1 (show (Try.prog.info? 9).map (·.size) = some 1 by kernel_rfl)
  unfold execOp; simp only [hop, hx, hy]; simp [go_sem, hk', hi, hz, sizeOf, typeInfo]
theorem readB_len {S : Dk} (h : Ok S) (nm : Nm) : (readB S nm).length ≤ 16777216 := by
  unfold readB
  split
  · split
    · rename_i f hf
      have h1 := used_mem (fget_mem hf); have h2 := h.used; have h3 := h.most; simp only at h1; omega
    · simp
  · simp
/-- What the loop of same keeps: what is left of the names. -/
structure SmI (w : World) (base n : Nat) (ns : List Nm) (j : Nat) (ns' : List Nm) (lv : Value) (wr : World) : Prop where
  own : OwnS wr base lv ns'
  len : ns'.length = n
  rest : ∀ k, j ≤ k → ns'[k]? = ns[k]?
  aft : After w wr

set_option maxRecDepth 100000 in
set_option maxHeartbeats 3200000 in
theorem same_any {w0 : World} {L sb : Nat} {S : Dk} {w : World} (h : Live w0 L sb S w) (v : Value) (hr : RefAt w v S) :
    Calls Try.prog 14 #[.pointer (some ⟨sb, 0, none⟩), v] w fun e w' => e = .returned (.bool true) ∧ After w w' := by
  have HL : Hid (Live w0 L sb S w) := h
  obtain ⟨ao, c, ar, lf, dn, rfl, hat, hc, hrel, hlf, hz⟩ := hr.ex
  obtain ⟨n, hn⟩ : ∃ n, S.files.length = n := ⟨_, rfl⟩
  have HRA := show Hid (RefAt w _ S) from hr
  have HFA : Hid (FA w ao n c S.files) := ⟨hat, hn, by rw [← hn]; exact hc, hz⟩
  have HN : Hid (S.files.length = n) := hn
  rw [hn] at HRA
  have hcnt : n ≤ 64 := by rw [← hn]; exact h.ok.count
  have CU := show Hid (∀ W, After w W → _) from fun W hW => usedR S h.ok ao n c ar lf dn W (HFA.out.after hW)
  have C17 := show Hid (∀ W nm, nm.length ≤ maxLen → After w W → _) from fun W nm hl hW => readR S h.ok nm hl W _ (HRA.out.after hW)
  have HNL : Hid (∀ (j : Nat) (p : Nm × Fl), S.files[j]? = some p → p.1.length ≤ maxLen) := fun j p hp => by
    have := (named_len (h.ok.named p (List.mem_of_getElem? hp))).2; unfold maxLen; omega
  unfold rV at CU C17 ⊢
  rw [hn]
  clear hat hc hrel hlf hz hr hn h
  go_enter Try.func14, Try.ntmps14
  go_wp2_with fail
  obtain ⟨w1, hw1⟩ : ∃ w1, w.alloc (.cells #[.int .i64 (S.most : Int), .slice ao n c, .int .i64 (S.steps : Int), .bool ar, .int .i64 (lf : Int), .bool dn, .bool S.down] 27) = w1 := ⟨_, rfl⟩
  rw [hw1]
  have HA1 : Hid (After w w1) := by rw [← hw1]; exact after_alloc (After.refl w) _
  have HR1 : Hid (RowIs w1 w.heap.size 27 [.int .i64 (S.most : Int), .slice ao n c, .int .i64 (S.steps : Int), .bool ar, .int .i64 (lf : Int), .bool dn, .bool S.down]) := by rw [← hw1]; exact RowIs.new w 27 _
  clear hw1
  go_wp2_with (go_at_call 25; refine (live_list (HL.out.after HA1.out)).mono ?_; rintro e w2 ⟨lv, rfl, hlv, ha2⟩; obtain ⟨la, lc, hlv2, _, _⟩ := hlv.at; rw [List.length_map, HN.out] at hlv2; subst hlv2; have HO2 := show Hid (OwnS _ _ _ _) from hlv; have HA2 : Hid (After w1 w2) := ha2; clear hlv ha2)
  have HR2 := show Hid (RowIs w2 _ _ _) from HR1.out.below HA2.out HR1.out.lt
  refine wp_region_noPanic ?_
  refine wp_region_held_drew (S := After w2) (by kernel_rfl) (After.drew (After.refl w2)) ?_
  intro hS0
  refine tk 0 14 (.slice la n lc) (fuel := 26) rfl (by kernel_rfl) (by kernel_rfl) (by kernel_rfl) (by kernel_rfl) noPanic_false (by kernel_rfl) (fun _ _ => by kernel_rfl) hS0 ?_
  refine tk 1 15 (.int .i64 (n : Int)) (fuel := 25) rfl (by kernel_rfl) (by kernel_rfl) (by kernel_rfl) (by kernel_rfl) noPanic_false (by kernel_rfl) (fun _ _ => by kernel_rfl) hS0 ?_
  refine tk 2 16 (.pointer (some ⟨w.heap.size, 1, none⟩)) (fuel := 24) rfl (by kernel_rfl) (by kernel_rfl) (by kernel_rfl) (by kernel_rfl) noPanic_false (by kernel_rfl) (fun _ _ => by kernel_rfl) hS0 ?_
  refine tk 3 17 (.slice ao n c) (fuel := 23) rfl (by kernel_rfl) (by kernel_rfl) (by kernel_rfl) (by kernel_rfl) noPanic_false (by kernel_rfl) (fun W hW => x_ld25 (x := .tmp 16) (g := w.heap.size) (p := 1) (by kernel_rfl) (by kernel_rfl) ((HR2.out.below hW HR2.out.lt).cell (j := 1) rfl)) hS0 ?_
  refine tk 4 18 (.int .i64 (n : Int)) (fuel := 22) rfl (by kernel_rfl) (by kernel_rfl) (by kernel_rfl) (by kernel_rfl) noPanic_false (by kernel_rfl) (fun _ _ => by kernel_rfl) hS0 ?_
  refine tk 5 19 (.bool false) (fuel := 21) rfl (by kernel_rfl) (by kernel_rfl) (by kernel_rfl) (by kernel_rfl) noPanic_false (by kernel_rfl) (fun W _ => x_neqf (t := 3) (p := (n : Int)) (x := .tmp 15) (y := .tmp 18) (by kernel_rfl) (by kernel_rfl) (by kernel_rfl)) hS0 ?_
  refine tk 6 20 (.bool false) (fuel := 20) rfl (by kernel_rfl) (by kernel_rfl) (by kernel_rfl) (by kernel_rfl) noPanic_false (by kernel_rfl) (fun _ _ => by kernel_rfl) hS0 ?_
  refine tk 7 21 (.pointer (some ⟨sb, 0, none⟩)) (fuel := 19) rfl (by kernel_rfl) (by kernel_rfl) (by kernel_rfl) (by kernel_rfl) noPanic_false (by kernel_rfl) (fun _ _ => by kernel_rfl) hS0 ?_
  refine tk 9 23 (.agg #[.int .i64 (S.most : Int), .slice ao n c, .int .i64 (S.steps : Int), .bool ar, .int .i64 (lf : Int), .bool dn, .bool S.down]) (fuel := 18) rfl (by kernel_rfl) (by kernel_rfl) (by kernel_rfl) (by kernel_rfl) noPanic_false (by kernel_rfl) (fun W hW => x_row27 (x := .tmp 3) (g := w.heap.size) (by kernel_rfl) (by kernel_rfl) (HR2.out.below hW HR2.out.lt) rfl) hS0 ?_
  refine tkCallS 8 22 26 #[.pointer (some ⟨sb, 0, none⟩)] (fun v w' => v = .int .i64 (used S.files : Int) ∧ After w2 w') (fuel := 17) rfl (by kernel_rfl) (by kernel_rfl) (by kernel_rfl) (fun _ => by kernel_rfl) ((live_used (((HL.out.after HA1.out).after HA2.out).after hS0)).mono (fun e w' ⟨he, ha⟩ => ⟨_, he, rfl, After.trans hS0 ha⟩)) ?_
  intro v3 w3 ⟨hv3, hA3⟩
  subst hv3
  refine ⟨hA3, ?_⟩
  refine tkCallS 10 24 41 #[.agg #[.int .i64 (S.most : Int), .slice ao n c, .int .i64 (S.steps : Int), .bool ar, .int .i64 (lf : Int), .bool dn, .bool S.down]] (fun v w' => v = .int .i64 (used S.files : Int) ∧ After w2 w') (fuel := 16) rfl (by kernel_rfl) (by kernel_rfl) (by kernel_rfl) (fun _ => by kernel_rfl) (Calls.mono (CU.out w3 (After.trans HA1.out (After.trans HA2.out hA3))) (fun e w' ⟨he, ha⟩ => ⟨_, he, rfl, After.trans hA3 ha⟩)) ?_
  intro v4 w4 ⟨hv4, hA4⟩
  subst hv4
  refine ⟨hA4, ?_⟩
  refine tk 11 25 (.bool false) (fuel := 15) rfl (by kernel_rfl) (by kernel_rfl) (by kernel_rfl) (by kernel_rfl) noPanic_false (by kernel_rfl) (fun W _ => x_neqf (t := 3) (p := (used S.files : Int)) (x := .tmp 22) (y := .tmp 24) (by kernel_rfl) (by kernel_rfl) (by kernel_rfl)) hA4 ?_
  refine tk 12 26 (.bool false) (fuel := 14) rfl (by kernel_rfl) (by kernel_rfl) (by kernel_rfl) (by kernel_rfl) noPanic_false (by kernel_rfl) (fun _ _ => by kernel_rfl) hA4 ?_
  refine tk 13 27 (.bool false) (fuel := 13) rfl (by kernel_rfl) (by kernel_rfl) (by kernel_rfl) (by kernel_rfl) noPanic_false (by kernel_rfl) (fun _ _ => by kernel_rfl) hA4 ?_
  refine tk 14 28 (.pointer (some ⟨sb, 0, none⟩)) (fuel := 12) rfl (by kernel_rfl) (by kernel_rfl) (by kernel_rfl) (by kernel_rfl) noPanic_false (by kernel_rfl) (fun _ _ => by kernel_rfl) hA4 ?_
  refine tk 16 30 (.pointer (some ⟨w.heap.size, 2, none⟩)) (fuel := 11) rfl (by kernel_rfl) (by kernel_rfl) (by kernel_rfl) (by kernel_rfl) noPanic_false (by kernel_rfl) (fun _ _ => by kernel_rfl) hA4 ?_
  refine tk 17 31 (.int .i64 (S.steps : Int)) (fuel := 10) rfl (by kernel_rfl) (by kernel_rfl) (by kernel_rfl) (by kernel_rfl) noPanic_false (by kernel_rfl) (fun W hW => x_ld3 (x := .tmp 30) (g := w.heap.size) (p := 2) (by kernel_rfl) (by kernel_rfl) ((HR2.out.below hW HR2.out.lt).cell (j := 2) rfl)) hA4 ?_
  refine tkCallS 15 29 31 #[.pointer (some ⟨sb, 0, none⟩)] (fun v w' => v = .int .i64 (S.steps : Int) ∧ After w2 w') (fuel := 9) rfl (by kernel_rfl) (by kernel_rfl) (by kernel_rfl) (fun _ => by kernel_rfl) ((live_steps (((HL.out.after HA1.out).after HA2.out).after hA4)).mono (fun e w' ⟨he, ha⟩ => ⟨_, he, rfl, by rw [ha]; exact hA4⟩)) ?_
  intro v5 w5 ⟨hv5, hA5⟩
  subst hv5
  refine ⟨hA5, ?_⟩
  refine tk 18 32 (.bool false) (fuel := 8) rfl (by kernel_rfl) (by kernel_rfl) (by kernel_rfl) (by kernel_rfl) noPanic_false (by kernel_rfl) (fun W _ => x_neqf (t := 3) (p := (S.steps : Int)) (x := .tmp 29) (y := .tmp 31) (by kernel_rfl) (by kernel_rfl) (by kernel_rfl)) hA5 ?_
  refine tk 19 33 (.bool false) (fuel := 7) rfl (by kernel_rfl) (by kernel_rfl) (by kernel_rfl) (by kernel_rfl) noPanic_false (by kernel_rfl) (fun _ _ => by kernel_rfl) hA5 ?_
  refine tk 20 34 (.bool false) (fuel := 6) rfl (by kernel_rfl) (by kernel_rfl) (by kernel_rfl) (by kernel_rfl) noPanic_false (by kernel_rfl) (fun _ _ => by kernel_rfl) hA5 ?_
  refine tk 21 35 (.pointer (some ⟨sb, 0, none⟩)) (fuel := 5) rfl (by kernel_rfl) (by kernel_rfl) (by kernel_rfl) (by kernel_rfl) noPanic_false (by kernel_rfl) (fun _ _ => by kernel_rfl) hA5 ?_
  refine tk 23 37 (.pointer (some ⟨w.heap.size, 6, none⟩)) (fuel := 4) rfl (by kernel_rfl) (by kernel_rfl) (by kernel_rfl) (by kernel_rfl) noPanic_false (by kernel_rfl) (fun _ _ => by kernel_rfl) hA5 ?_
  refine tk 24 38 (.bool S.down) (fuel := 3) rfl (by kernel_rfl) (by kernel_rfl) (by kernel_rfl) (by kernel_rfl) noPanic_false (by kernel_rfl) (fun W hW => x_ld4 (x := .tmp 37) (g := w.heap.size) (p := 6) (by kernel_rfl) (by kernel_rfl) ((HR2.out.below hW HR2.out.lt).cell (j := 6) rfl)) hA5 ?_
  refine tkCallS 22 36 29 #[.pointer (some ⟨sb, 0, none⟩)] (fun v w' => v = .bool S.down ∧ After w2 w') (fuel := 2) rfl (by kernel_rfl) (by kernel_rfl) (by kernel_rfl) (fun _ => by kernel_rfl) ((live_down (((HL.out.after HA1.out).after HA2.out).after hA5)).mono (fun e w' ⟨he, ha⟩ => ⟨_, he, rfl, by rw [ha]; exact hA5⟩)) ?_
  intro v6 w6 ⟨hv6, hA6⟩
  subst hv6
  refine ⟨hA6, ?_⟩
  refine tk 25 39 (.bool false) (fuel := 1) rfl (by kernel_rfl) (by kernel_rfl) (by kernel_rfl) (by kernel_rfl) noPanic_false (by kernel_rfl) (fun W _ => x_neqb (p := S.down) (x := .tmp 36) (y := .tmp 38) (by kernel_rfl) (by kernel_rfl) (by kernel_rfl)) hA6 ?_
  refine tk 26 40 (.bool false) (fuel := 0) rfl (by kernel_rfl) (by kernel_rfl) (by kernel_rfl) (by kernel_rfl) noPanic_false (by kernel_rfl) (fun _ _ => by kernel_rfl) hA6 ?_
  refine wpAnyH_done (by kernel_rfl) (NoPanic.normal ?_) _
  have HA6 : Hid (After w2 w6) := hA6
  clear hS0 hA3 hA4 hA5 hA6
  go_simp
  go_wp2_with fail
  go_loopw [6] (fun iv wr => ∃ (j : Nat) (ns' : List Nm), j ≤ n ∧ iv = .int .i64 (j : Int) ∧ Hid (SmI w1 w1.heap.size n (S.files.map (·.1)) j ns' (.slice la n lc) wr)) (fun iv _ => n - (intOf iv).toNat)
  case atStart => exact ⟨0, S.files.map (·.1), Nat.zero_le _, rfl, HO2.out.after HA6.out, by rw [List.length_map]; exact HN.out, fun _ _ => rfl, After.trans HA2.out HA6.out⟩
  case round =>
    obtain ⟨j, ns', hjn, rfl, HI⟩ := hrel
    obtain ⟨wo, rfl⟩ : ∃ wo, wo = wr := ⟨_, rfl⟩
    have HRR := show Hid (RowIs wo _ _ _) from HR1.out.below HI.out.aft HR1.out.lt
    by_cases hlt : j < n
    · have hji : (j : Int) < (n : Int) := by omega
      obtain ⟨p, hp⟩ : ∃ p, S.files[j]? = some p := ⟨_, List.getElem?_eq_getElem (by rw [HN.out]; exact hlt)⟩
      obtain ⟨nm, f⟩ := p
      have hnl := HNL.out j _ hp
      simp only at hnl
      have HNM : Hid (nm.length ≤ maxLen) := hnl
      have hns : ns'[j]? = some nm := by rw [HI.out.rest j (Nat.le_refl _), List.getElem?_map, hp]; rfl
      obtain ⟨g, cg, hlv, hbg, _⟩ := HI.out.own.form (by intro h; rw [h] at hns; simp at hns)
      rw [HI.out.len] at hlv
      obtain ⟨rfl, _, rfl⟩ : la = some ⟨g, 0, none⟩ ∧ n = n ∧ lc = cg := by injection hlv with h1 h2 h3; exact ⟨h1, rfl, h3⟩
      obtain ⟨hcn, _, _, _⟩ := HI.out.own.wipe HI.out.len j hns
      obtain ⟨fb, fo, hao, _, hfc⟩ := HFA.out.at_ (by intro h; rw [h] at hp; simp at hp)
      obtain ⟨e0, _, _⟩ := hfc j _ hp
      have HE0 : Hid (w.cell? ⟨fb, fo + j * 3, none⟩ = some (.string (strOf nm))) := e0
      subst hao
      have HNS : Hid (ns'[j]? = some nm) := hns
      obtain ⟨B, hB⟩ : ∃ B, readB S nm = B := ⟨_, rfl⟩
      obtain ⟨E, hE⟩ : ∃ E, findE S nm = E := ⟨_, rfl⟩
      obtain ⟨m, hm⟩ : ∃ m, B.length = m := ⟨_, rfl⟩
      have HM : Hid (B.length = m) := hm
      have HBE : Hid (readB S nm = B ∧ findE S nm = E) := ⟨hB, hE⟩
      have HG : Hid (w1.heap.size ≤ g) := hbg
      have hmb : m ≤ 16777216 := by rw [← hm, ← hB]; exact readB_len HL.out.ok nm
      clear hnl hns hlv hfc e0 hp hB hE hm hbg
      go_wp2_with (go_at_call 16; refine (live_read ((HL.out.after HA1.out).after HI.out.aft) nm HNM.out).mono ?_; rw [HBE.out.1, HBE.out.2]; unfold RPost; rw [HM.out]; rintro e w3 ⟨ba, bc, rfl, hob, ha3⟩; have HOB := show Hid (Own _ _ _ _) from hob; have HA3 : Hid (After wo w3) := ha3; clear hob ha3)
      have HR3 := show Hid (RowIs w3 _ _ _) from HRR.out.below HA3.out HRR.out.lt
      have HAW3 : Hid (After w w3) := After.trans HA1.out (After.trans HI.out.aft HA3.out)
      refine wp_region_noPanic ?_
      refine wp_region_held_drew (S := After w3) (by kernel_rfl) (After.drew (After.refl w3)) ?_
      intro hS0
      refine tk 0 57 (.agg #[.int .i64 (S.most : Int), .slice (some ⟨fb, fo, none⟩) n c, .int .i64 (S.steps : Int), .bool ar, .int .i64 (lf : Int), .bool dn, .bool S.down]) (fuel := 12) rfl (by kernel_rfl) (by kernel_rfl) (by kernel_rfl) (by kernel_rfl) noPanic_false (by kernel_rfl) (fun W hW => x_row27 (x := .tmp 3) (g := w.heap.size) (by kernel_rfl) (by kernel_rfl) (HR3.out.below hW HR3.out.lt) rfl) hS0 ?_
      refine tk 1 58 (.pointer (some ⟨w.heap.size, 1, none⟩)) (fuel := 11) rfl (by kernel_rfl) (by kernel_rfl) (by kernel_rfl) (by kernel_rfl) noPanic_false (by kernel_rfl) (fun _ _ => by kernel_rfl) hS0 ?_
      refine tk 2 59 (.slice (some ⟨fb, fo, none⟩) n c) (fuel := 10) rfl (by kernel_rfl) (by kernel_rfl) (by kernel_rfl) (by kernel_rfl) noPanic_false (by kernel_rfl) (fun W hW => x_ld25 (x := .tmp 58) (g := w.heap.size) (p := 1) (by kernel_rfl) (by kernel_rfl) ((HR3.out.below hW HR3.out.lt).cell (j := 1) rfl)) hS0 ?_
      refine tk 3 60 (.int .i64 (j : Int)) (fuel := 9) rfl (by kernel_rfl) (by kernel_rfl) (by kernel_rfl) (by kernel_rfl) noPanic_false (by kernel_rfl) (fun _ _ => by kernel_rfl) hS0 ?_
      refine tk 4 61 (.pointer (some ⟨fb, fo + j * 3, none⟩)) (fuel := 8) rfl (by kernel_rfl) (by kernel_rfl) (by kernel_rfl) (by kernel_rfl) noPanic_false (by kernel_rfl) (fun W _ => x_idx25 (n := n) (c := c) (x := .tmp 59) (y := .tmp 60) (by kernel_rfl) (by kernel_rfl) (by kernel_rfl) hlt) hS0 ?_
      refine tk 5 62 (.pointer (some ⟨fb, fo + j * 3, none⟩)) (fuel := 7) rfl (by kernel_rfl) (by kernel_rfl) (by kernel_rfl) (by kernel_rfl) noPanic_false (by kernel_rfl) (fun _ _ => by kernel_rfl) hS0 ?_
      refine tk 6 63 (.string (strOf nm)) (fuel := 6) rfl (by kernel_rfl) (by kernel_rfl) (by kernel_rfl) (by kernel_rfl) noPanic_false (by kernel_rfl) (fun W hW => x_ld9 (x := .tmp 62) (g := fb) (p := (fo + j * 3)) (by kernel_rfl) (by kernel_rfl) (cell_after (After.trans HAW3.out hW) HE0.out)) hS0 ?_
      refine tkCallS 7 64 17 #[.agg #[.int .i64 (S.most : Int), .slice (some ⟨fb, fo, none⟩) n c, .int .i64 (S.steps : Int), .bool ar, .int .i64 (lf : Int), .bool dn, .bool S.down], .string (strOf nm)] (fun v w' => v = .tuple #[.string (strOf B), .int .i64 (E : Int)] ∧ After w3 w') (fuel := 5) rfl (by kernel_rfl) (by kernel_rfl) (by kernel_rfl) (fun _ => by kernel_rfl) (Calls.mono (C17.out w3.drew nm HNM.out (After.trans HAW3.out hS0)) (fun e w' ⟨he, ha⟩ => ⟨_, he, by rw [HBE.out.1, HBE.out.2], After.trans hS0 ha⟩)) ?_
      intro v4 w4 ⟨hv4, hA4⟩
      subst hv4
      refine ⟨hA4, ?_⟩
      refine tk 8 56 (.tuple #[.string (strOf B), .int .i64 (E : Int)]) (fuel := 4) rfl (by kernel_rfl) (by kernel_rfl) (by kernel_rfl) (by kernel_rfl) noPanic_false (by kernel_rfl) (fun _ _ => by kernel_rfl) hA4 ?_
      refine tk 9 65 (.string (strOf B)) (fuel := 3) rfl (by kernel_rfl) (by kernel_rfl) (by kernel_rfl) (by kernel_rfl) noPanic_false (by kernel_rfl) (fun _ _ => by kernel_rfl) hA4 ?_
      refine tk 10 66 (.int .i64 (E : Int)) (fuel := 2) rfl (by kernel_rfl) (by kernel_rfl) (by kernel_rfl) (by kernel_rfl) noPanic_false (by kernel_rfl) (fun _ _ => by kernel_rfl) hA4 ?_
      refine tk 11 9 (.string (strOf B)) (fuel := 1) rfl (by kernel_rfl) (by kernel_rfl) (by kernel_rfl) (by kernel_rfl) noPanic_false (by kernel_rfl) (fun _ _ => by kernel_rfl) hA4 ?_
      refine tk 12 10 (.int .i64 (E : Int)) (fuel := 0) rfl (by kernel_rfl) (by kernel_rfl) (by kernel_rfl) (by kernel_rfl) noPanic_false (by kernel_rfl) (fun _ _ => by kernel_rfl) hA4 ?_
      refine wpAnyH_done (by kernel_rfl) (NoPanic.normal ?_) _
      have HA4 : Hid (After w3 w4) := hA4
      clear hA4 hS0
      go_simp
      have HA34 : Hid (After wo w4) := After.trans HA3.out HA4.out
      have HR4 := show Hid (RowIs w4 _ _ _) from HR3.out.below HA4.out HR3.out.lt
      have HOB4 : Hid (Own w4 wo.heap.size (.slice ba m bc) B) := Own.below HOB.out HA4.out (Nat.le_refl _)
      go_wp2_with fail
      refine wp_region_noPanic ?_
      refine wp_region_held_drew (S := After w4) (by kernel_rfl) (After.drew (After.refl w4)) ?_
      intro hS0
      refine tk 0 67 (.slice (some ⟨g, 0, none⟩) n lc) (fuel := 21) rfl (by kernel_rfl) (by kernel_rfl) (by kernel_rfl) (by kernel_rfl) noPanic_false (by kernel_rfl) (fun _ _ => by kernel_rfl) hS0 ?_
      refine tk 1 68 (.int .i64 (j : Int)) (fuel := 20) rfl (by kernel_rfl) (by kernel_rfl) (by kernel_rfl) (by kernel_rfl) noPanic_false (by kernel_rfl) (fun _ _ => by kernel_rfl) hS0 ?_
      refine tk 2 69 (.pointer (some ⟨g, j, none⟩)) (fuel := 19) rfl (by kernel_rfl) (by kernel_rfl) (by kernel_rfl) (by kernel_rfl) noPanic_false (by kernel_rfl) (fun W _ => x_idx51 (n := n) (c := lc) (x := .tmp 67) (y := .tmp 68) (by kernel_rfl) (by kernel_rfl) (by kernel_rfl) hlt) hS0 ?_
      refine tk 3 70 (.string (strOf nm)) (fuel := 18) rfl (by kernel_rfl) (by kernel_rfl) (by kernel_rfl) (by kernel_rfl) noPanic_false (by kernel_rfl) (fun W hW => x_ld9 (x := .tmp 69) (g := g) (p := j) (by kernel_rfl) (by kernel_rfl) (cell_after (After.trans HA34.out hW) hcn)) hS0 ?_
      refine tk 4 71 (.pointer (some ⟨w.heap.size, 1, none⟩)) (fuel := 17) rfl (by kernel_rfl) (by kernel_rfl) (by kernel_rfl) (by kernel_rfl) noPanic_false (by kernel_rfl) (fun _ _ => by kernel_rfl) hS0 ?_
      refine tk 5 72 (.slice (some ⟨fb, fo, none⟩) n c) (fuel := 16) rfl (by kernel_rfl) (by kernel_rfl) (by kernel_rfl) (by kernel_rfl) noPanic_false (by kernel_rfl) (fun W hW => x_ld25 (x := .tmp 71) (g := w.heap.size) (p := 1) (by kernel_rfl) (by kernel_rfl) ((HR4.out.below hW HR4.out.lt).cell (j := 1) rfl)) hS0 ?_
      refine tk 6 73 (.int .i64 (j : Int)) (fuel := 15) rfl (by kernel_rfl) (by kernel_rfl) (by kernel_rfl) (by kernel_rfl) noPanic_false (by kernel_rfl) (fun _ _ => by kernel_rfl) hS0 ?_
      refine tk 7 74 (.pointer (some ⟨fb, fo + j * 3, none⟩)) (fuel := 14) rfl (by kernel_rfl) (by kernel_rfl) (by kernel_rfl) (by kernel_rfl) noPanic_false (by kernel_rfl) (fun W _ => x_idx25 (n := n) (c := c) (x := .tmp 72) (y := .tmp 73) (by kernel_rfl) (by kernel_rfl) (by kernel_rfl) hlt) hS0 ?_
      refine tk 8 75 (.pointer (some ⟨fb, fo + j * 3, none⟩)) (fuel := 13) rfl (by kernel_rfl) (by kernel_rfl) (by kernel_rfl) (by kernel_rfl) noPanic_false (by kernel_rfl) (fun _ _ => by kernel_rfl) hS0 ?_
      refine tk 9 76 (.string (strOf nm)) (fuel := 12) rfl (by kernel_rfl) (by kernel_rfl) (by kernel_rfl) (by kernel_rfl) noPanic_false (by kernel_rfl) (fun W hW => x_ld9 (x := .tmp 75) (g := fb) (p := (fo + j * 3)) (by kernel_rfl) (by kernel_rfl) (cell_after (After.trans HAW3.out (After.trans HA4.out hW)) HE0.out)) hS0 ?_
      refine tk 10 77 (.bool false) (fuel := 11) rfl (by kernel_rfl) (by kernel_rfl) (by kernel_rfl) (by kernel_rfl) noPanic_false (by kernel_rfl) (fun W _ => x_streqf (s := strOf nm) (t := strOf nm) (x := .tmp 70) (y := .tmp 76) (by kernel_rfl) (by kernel_rfl) (by kernel_rfl) rfl) hS0 ?_
      refine tk 11 78 (.bool false) (fuel := 10) rfl (by kernel_rfl) (by kernel_rfl) (by kernel_rfl) (by kernel_rfl) noPanic_false (by kernel_rfl) (fun _ _ => by kernel_rfl) hS0 ?_
      refine tk 12 79 (.slice ba m bc) (fuel := 9) rfl (by kernel_rfl) (by kernel_rfl) (by kernel_rfl) (by kernel_rfl) noPanic_false (by kernel_rfl) (fun _ _ => by kernel_rfl) hS0 ?_
      refine tk 13 80 (.string (strOf B)) (fuel := 8) rfl (by kernel_rfl) (by kernel_rfl) (by kernel_rfl) (by kernel_rfl) noPanic_false (by kernel_rfl) (fun W hW => x_conv (x := .tmp 79) (by kernel_rfl) (by kernel_rfl) (HOB4.out.convA hW)) hS0 ?_
      refine tk 14 81 (.string (strOf B)) (fuel := 7) rfl (by kernel_rfl) (by kernel_rfl) (by kernel_rfl) (by kernel_rfl) noPanic_false (by kernel_rfl) (fun _ _ => by kernel_rfl) hS0 ?_
      refine tk 15 82 (.bool false) (fuel := 6) rfl (by kernel_rfl) (by kernel_rfl) (by kernel_rfl) (by kernel_rfl) noPanic_false (by kernel_rfl) (fun W _ => x_streqf (s := strOf B) (t := strOf B) (x := .tmp 80) (y := .tmp 81) (by kernel_rfl) (by kernel_rfl) (by kernel_rfl) rfl) hS0 ?_
      refine tk 16 83 (.bool false) (fuel := 5) rfl (by kernel_rfl) (by kernel_rfl) (by kernel_rfl) (by kernel_rfl) noPanic_false (by kernel_rfl) (fun _ _ => by kernel_rfl) hS0 ?_
      refine tk 17 84 (.bool false) (fuel := 4) rfl (by kernel_rfl) (by kernel_rfl) (by kernel_rfl) (by kernel_rfl) noPanic_false (by kernel_rfl) (fun _ _ => by kernel_rfl) hS0 ?_
      refine tk 18 85 (.int .i64 (E : Int)) (fuel := 3) rfl (by kernel_rfl) (by kernel_rfl) (by kernel_rfl) (by kernel_rfl) noPanic_false (by kernel_rfl) (fun _ _ => by kernel_rfl) hS0 ?_
      refine tk 19 86 (.int .i64 (E : Int)) (fuel := 2) rfl (by kernel_rfl) (by kernel_rfl) (by kernel_rfl) (by kernel_rfl) noPanic_false (by kernel_rfl) (fun _ _ => by kernel_rfl) hS0 ?_
      refine tk 20 87 (.bool false) (fuel := 1) rfl (by kernel_rfl) (by kernel_rfl) (by kernel_rfl) (by kernel_rfl) noPanic_false (by kernel_rfl) (fun W _ => x_neqf (t := 3) (p := (E : Int)) (x := .tmp 85) (y := .tmp 86) (by kernel_rfl) (by kernel_rfl) (by kernel_rfl)) hS0 ?_
      refine tk 21 88 (.bool false) (fuel := 0) rfl (by kernel_rfl) (by kernel_rfl) (by kernel_rfl) (by kernel_rfl) noPanic_false (by kernel_rfl) (fun _ _ => by kernel_rfl) hS0 ?_
      refine wpAnyH_done (by kernel_rfl) (NoPanic.normal ?_) _
      clear hS0
      go_simp
      go_wp2_with fail
      have HW4 : Hid (After wo w4.drew) := After.drew HA34.out
      have HOW : Hid (Own w4.drew wo.heap.size (.slice ba m bc) B) := Own.below HOB4.out (After.drew (After.refl w4)) (Nat.le_refl _)
      go_loopw [11] (fun kv wk => ∃ (k : Nat) (bs : List UInt8), k ≤ m ∧ kv = .int .i64 (k : Int) ∧ Hid (bs.length = m ∧ Own wk wo.heap.size (.slice ba m bc) bs ∧ After wo wk)) (fun kv _ => m - (intOf kv).toNat)
      case atStart => exact ⟨0, B, Nat.zero_le _, rfl, HM.out, HOW.out, HW4.out⟩
      case round =>
        obtain ⟨k, bs, hkm, rfl, HK⟩ := hrel
        by_cases hk : k < m
        · have hki : (k : Int) < (m : Int) := by omega
          obtain ⟨gb, cb, hv, hbb, _⟩ := Own.form HK.out.2.1 (by intro h; have := HK.out.1; rw [h] at this; simp at this; omega)
          rw [HK.out.1] at hv
          obtain ⟨rfl, _, rfl⟩ : ba = some ⟨gb, 0, none⟩ ∧ m = m ∧ bc = cb := by injection hv with h1 h2 h3; exact ⟨h1, rfl, h3⟩
          obtain ⟨y, hy, hf, ho4, hg4⟩ := Own.up HK.out.1 HK.out.2.1 k hk
          have hup := byte_up y
          obtain ⟨z, hz⟩ : ∃ z, y + 1 = z := ⟨_, rfl⟩
          rw [hz] at hup ho4 hg4
          have HO4 := show Hid (Own _ _ _ _) from ho4
          have HG4 := show Hid (World.grownBy _ _ _) from hg4
          clear ho4 hg4 hv hz
          go_wp2
          go_roundw
          case rel => exact ⟨k + 1, _, by omega, by go_num, by rw [List.length_set]; exact HK.out.1, HO4.out, after_grown HK.out.2.2 HG4.out (Nat.le_refl _) (fun k hk => by cases hk; exact hbb)⟩
          case measure => simp [intOf]; omega
        · obtain ⟨hcn2, hfn2, ho5, hg5⟩ := (HI.out.own.after HK.out.2.2).wipe HI.out.len j HNS.out
          have HO5 := show Hid (OwnS _ _ _ _) from ho5
          have HG5 := show Hid (World.grownBy _ _ _) from hg5
          clear ho5 hg5
          go_wp2
          go_roundw
          case rel => exact ⟨j + 1, ns'.set j [], by omega, by go_num, HO5.out, by rw [List.length_set]; exact HI.out.len, fun k hk => by rw [List.getElem?_set_ne (by omega)]; exact HI.out.rest k (by omega), after_grown (After.trans HI.out.aft HK.out.2.2) HG5.out (Nat.le_refl _) (fun k hk => by cases hk; exact HG.out)⟩
          case measure => simp [intOf]; omega
    · go_wp2
      go_ret
      exact ⟨rfl, After.trans HA1.out HI.out.aft⟩
end Go.Proofs.Ytlbodickflljfaa
