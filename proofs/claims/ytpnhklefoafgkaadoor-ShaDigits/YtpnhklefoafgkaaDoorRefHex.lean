/-
  THE WALK OF stemmaref01.Hex.
-/
import Derived.Test.YtpnhklefoafgkaaDoorDigits
namespace Go.Proofs.YtpnhklefoafgkaaDoor
open Go.RowKit Sha
/-- append to a row of bytes that the call itself has made, as one step of a region that draws. -/
theorem step_append_bytes {ops : Array Oper} {o : Oper} {a : Act} {w : World} {K : Act → World → Prop} {Q : Exit → Act → World → Prop} {E : Prop}
    (hg : o.guard = none) (s x : Operand) (hop : o.op = Op.call { callee := Callee.builtin Builtin.append, args := #[s, x], argTypes := #[22, 22] })
    (base : Nat) (v : Value) (n : Nat) (xs : List Value) (hs : a.eval s = v) (hown : w.ownsRow base 5 1 v n xs)
    (ad : Addr) (m c : Nat) (news : List Value) (hx : a.eval x = .slice (some ad) m c) (hl : news.length = m) (hnews : ∀ j u, news[j]? = some u → w.cell? (ad.add j) = some u) (h1 : ∀ u ∈ news, u.oneCell' = true)
    (hb : n + m ≤ 140737488355328) (hbase : base ≤ w.heap.size)
    (h : ∀ v' w', w'.ownsRow base 5 1 v' (n + m) (xs ++ news) → w.grownBy w' v.ownBlock → K (a.put o.dst v') w') :
    if Region.wanted o (yielded ops a.tmps) = true then Oper.wp Tryd.prog o a w K Q else E := by
  have hw : Region.wanted o (yielded ops a.tmps) = true := by simp [Region.wanted, hg]
  rw [if_pos hw]
  obtain ⟨i, hi, hz⟩ := Option.map_eq_some_iff.1 bytes5
  simp only [Prod.mk.injEq] at hz
  obtain ⟨hz, hsz, hby⟩ := hz
  exact wp_append_own w s x 22 hop base 5 i (.int .u8 0) 1 1 Tryd.underlying22 hi hz hsz hby rfl (by omega) v n xs hs hown ad m c news hx (by omega) hnews h1 (by unfold maxLen; omega) (by omega) hbase (fun v' w' h2 h3 _ => h v' w' h2 h3)
def RHRel (bs : List UInt8) (w : World) (k : Nat) (v : Value) (wr : World) : Prop :=
  Below w.heap.size w wr ∧ RowIs wr w.heap.size 24 (c8 bs) ∧ wr.ownsRow (w.heap.size + 1) 5 1 v (2 * k) (c8 (hexL (bs.take k)))
theorem RHRel.own2 {bs : List UInt8} {w wr : World} {k : Nat} {v : Value} (h : RHRel bs w k v wr) (o : Obj) : (wr.alloc o).ownsRow (w.heap.size + 1) 5 1 v (2 * k) (c8 (hexL (bs.take k))) :=
  h.2.2.kept (World.grownBy_alloc wr o none) (by cases hv : v.ownBlock with | none => exact Or.inl rfl | some g => exact Or.inr (by simp))
theorem ownBlock_ge {W : World} {base n : Nat} {v : Value} {xs : List Value} (h : W.ownsRow base 5 1 v n xs) {g : Nat} (hg : v.ownBlock = some g) : base ≤ g := by
  rcases h.2 with ⟨rfl, _⟩ | ⟨g', cap, cur, rfl, hb, _⟩
  · simp [Value.ownBlock] at hg
  · simp [Value.ownBlock] at hg; omega
theorem RHRel.cell_kept {bs : List UInt8} {w wr w' : World} {k j : Nat} {v u : Value} {o : Obj} (h : RHRel bs w k v wr) (hc : wr.cell? ⟨w.heap.size, j, none⟩ = some u) (hg : ((wr.alloc o).drew).grownBy w' v.ownBlock) : w'.cell? ⟨w.heap.size, j, none⟩ = some u := by
  have h1 : ((wr.alloc o).drew).cell? ⟨w.heap.size, j, none⟩ = some u := by
    rw [World.cell?_drew, World.cell?_alloc_lt _ _ _ (block_lt_of_cell hc)]; exact hc
  refine hg.cell h1 ?_
  cases hv : v.ownBlock with
  | none => simp
  | some g => have := ownBlock_ge h.2.2 hv; simp; omega
theorem RHRel.next {bs : List UInt8} {w wr w' : World} {k : Nat} {v v' : Value} {o : Obj} {d1 d2 : UInt8} (h : RHRel bs w k v wr) (hk : k < bs.length) (h1 : d1 = dg ((bs.getD k 0).toNat / 16)) (h2 : d2 = dg ((bs.getD k 0).toNat % 16))
    (hown : w'.ownsRow (w.heap.size + 1) 5 1 v' (2 * k + 2) (c8 (hexL (bs.take k)) ++ c8 [d1, d2])) (hg : ((wr.alloc o).drew).grownBy w' v.ownBlock) : RHRel bs w (k + 1) v' w' := by
  have hlt := h.2.1.lt
  have hsz : w.heap.size + 1 ≤ ((wr.alloc o).drew).heap.size := by show _ ≤ (wr.alloc o).heap.size; simp; omega
  refine ⟨((h.1.alloc h.1.size _).drew).grown hg (by omega) (fun g hg' => by have := ownBlock_ge h.2.2 hg'; omega), ?_, ?_⟩
  · have r : RowIs ((wr.alloc o).drew) w.heap.size 24 (c8 bs) := (h.2.1.alloc o).drew
    unfold RowIs
    rw [hg.block w.heap.size (by omega) (by
      cases hv : v.ownBlock with
      | none => simp
      | some g => have := ownBlock_ge h.2.2 hv; simp; omega)]
    exact r
  · have e : c8 (hexL (bs.take k)) ++ c8 [d1, d2] = c8 (hexL (bs.take (k + 1))) := by
      have ht : bs.take (k + 1) = bs.take k ++ [bs.getD k 0] := by
        rw [List.take_succ_eq_append_getElem hk]; simp [hk]
      rw [ht, hexL_snoc, h1, h2]
      simp [c8, hexOf]
    rw [e] at hown
    exact hown
theorem RHRel.conv {bs : List UInt8} {w wr : World} {v : Value} (h : RHRel bs w 32 v wr) (hl : bs.length = 32) : (convert 22 9 v).run Tryd.prog wr = .ok (.string (strOf (hexL bs))) wr := by
  rw [RHRel, List.take_of_length_le (by omega)] at h
  rcases h.2.2.2 with ⟨_, h0⟩ | ⟨g, cap, cur, rfl, _, hg, hn, _, hs, ht⟩
  · omega
  · rw [Nat.mul_one] at ht
    have hcell : ∀ j u, (c8 (hexL bs))[j]? = some u → wr.cell? ((⟨g, 0, none⟩ : Addr).add j) = some u := fun j u hu => by
      rw [Addr.add_mid, Nat.zero_add, cell_of_row wr g j cur 5 _ hg]
      rw [← ht, List.getElem?_take] at hu
      split at hu
      · simpa using hu
      · cases hu
    have hl2 := run_loadCells_list (P := Tryd.prog) wr ⟨g, 0, none⟩ (c8 (hexL bs)) hcell
    rw [c8_len, hexL_len, hl] at hl2
    have e : c8 (hexL bs) = ((hexL bs).map fun b => (b.toNat : Int)).map (Value.int .u8) := by simp [c8]
    rw [e] at hl2
    rw [run_convert_bytes_string wr 22 9 5 _ _ _ Tryd.underlying22 Tryd.underlying5 Tryd.underlying9, run_bytesToString wr _ _ _ _ hl2]
    have := foldl_push (hexL bs) []
    simp only [List.nil_append] at this
    rw [show ByteArray.empty = strOf [] from rfl, this]
set_option maxRecDepth 100000 in
set_option maxHeartbeats 800000 in
theorem refHex_any (bs : List UInt8) (hl : bs.length = 32) (w : World) :
    Calls Tryd.prog 20 #[.agg (c8 bs).toArray] w fun e w' => e = .returned (.string (strOf (hexL bs))) ∧ Below w.heap.size w w' := by
  go_enter Tryd.func20, Tryd.ntmps20
  go_wp2
  go_loopw [3, 4] (fun v i wr => ∃ k : Nat, k ≤ 32 ∧ i = .int .i64 k ∧ RHRel bs w k v wr) (fun _ i _ => 32 - (intOf i).toNat)
  case atStart => exact ⟨0, by omega, rfl, (Below.refl _ _).alloc (Nat.le_refl _) _, RowIs.new w 24 _, World.ownsRow_nil _ _ 5 1⟩
  case round =>
    obtain ⟨k, hk, rfl, hR⟩ := hrel
    by_cases hlt : k < 32
    · have bk : (k : Int) < 32 := by omega
      obtain ⟨x, X, e0⟩ : ∃ x : UInt8, Hid (x = bs.getD k 0) ∧ wr.cell? ⟨w.heap.size, k, none⟩ = some (.int .u8 (x.toNat : Int)) := ⟨_, rfl, hR.2.1.cell (c8_get _ k (by omega))⟩
      have hx8 := x.toNat_lt
      obtain ⟨q, hq, Hq⟩ : ∃ q : Nat, IntKind.u8.wrap ((x.toNat : Int) / 16) = (q : Int) ∧ Hid (q = x.toNat / 16) := ⟨x.toNat / 16, by simp [IntKind.wrap, IntKind.bits, IntKind.signed]; omega, rfl⟩
      obtain ⟨r, hr, Hr⟩ : ∃ r : Nat, (x.toNat : Int).tmod 16 = (r : Int) ∧ Hid (r = x.toNat % 16) := ⟨x.toNat % 16, by rw [Int.tmod_eq_emod_of_nonneg (by omega)]; omega, rfl⟩
      have hq0 := fun W => idxDigit q (by have := Hq.out; omega) .u8 W
      have hr0 := fun W => idxDigit r (by have := Hr.out; omega) .u8 W
      have HR : Hid (RHRel bs w k u3 wr) := hR
      clear hR hx8
      go_wp2
      obtain ⟨d1, D1, hqi⟩ : ∃ d1 : UInt8, Hid (d1 = dg q) ∧ ∀ W, (Instr.index 9 (.string ⟨#[48, 49, 50, 51, 52, 53, 54, 55, 56, 57, 97, 98, 99, 100, 101, 102]⟩) (.int .u8 (q : Int))).run Tryd.prog W = .ok (.int .u8 (d1.toNat : Int)) W := ⟨_, rfl, hq0⟩
      obtain ⟨d2, D2, hri⟩ : ∃ d2 : UInt8, Hid (d2 = dg r) ∧ ∀ W, (Instr.index 9 (.string ⟨#[48, 49, 50, 51, 52, 53, 54, 55, 56, 57, 97, 98, 99, 100, 101, 102]⟩) (.int .u8 (r : Int))).run Tryd.prog W = .ok (.int .u8 (d2.toNat : Int)) W := ⟨_, rfl, hr0⟩
      clear hq0 hr0
      have HO : Hid (((wr.alloc (.cells #[.int .u8 (d1.toNat : Int), .int .u8 (d2.toNat : Int)] 5)).drew).ownsRow (w.heap.size + 1) 5 1 u3 (2 * k) (c8 (hexL (bs.take k)))) := (RHRel.own2 HR.out _).drew
      have HNW : Hid (∀ j u, (c8 [d1, d2])[j]? = some u → ((wr.alloc (.cells #[.int .u8 (d1.toNat : Int), .int .u8 (d2.toNat : Int)] 5)).drew).cell? ((⟨wr.heap.size, 0, none⟩ : Addr).add j) = some u) := fun j u hu => by
        rw [Addr.add_mid, Nat.zero_add]; exact (RowIs.new wr 5 (c8 [d1, d2])).drew.cell hu
      have HSZ : Hid (w.heap.size + 1 ≤ ((wr.alloc (.cells #[.int .u8 (d1.toNat : Int), .int .u8 (d2.toNat : Int)] 5)).drew).heap.size) := by
        have := HR.out.2.1.lt
        unfold Hid
        show _ ≤ (wr.alloc _).heap.size
        simp; omega
      go_region_held3 (fun w' => w'.cell? ⟨w.heap.size, k, none⟩ = some (.int .u8 (x.toNat : Int))) (first | (go_keep; done) | exact RHRel.cell_kept HR.out e0 (by assumption))
        ((refine step_append_bytes rfl _ _ rfl (w.heap.size + 1) u3 (2 * k) (c8 (hexL (bs.take k))) rfl HO.out ⟨wr.heap.size, 0, none⟩ 2 2 (c8 [d1, d2]) rfl rfl HNW.out (c8_one _) (by omega) HSZ.out ?_; intro v' w' hown hgrow))
      all_goals
        have HN : Hid (RHRel bs w (k + 1) v' w') := RHRel.next HR.out (by omega) (by rw [D1.out, Hq.out, X.out]) (by rw [D2.out, Hr.out, X.out]) hown hgrow
        clear hown hgrow
        go_wp2
        go_roundw
        case rel => exact ⟨k + 1, by omega, by go_num, HN.out⟩
        case measure => simp [intOf]; omega
    · obtain rfl : k = 32 := by omega
      have hc := RHRel.conv hR hl
      have HR : Hid (RHRel bs w 32 u3 wr) := hR
      clear hR
      go_wp2
      go_ret
      exact ⟨rfl, HR.out.1⟩
end Go.Proofs.YtpnhklefoafgkaaDoor
