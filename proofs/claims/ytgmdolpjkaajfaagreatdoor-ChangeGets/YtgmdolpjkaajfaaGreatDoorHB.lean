/-
  HASHES: lists as bytes.
-/
import Derived.Test.YtgmdolpjkaajfaaGreatDoorHA
import Derived.Test.YtgmdolpjkaajfaaGreatDoorOC
namespace Go.Proofs.YtgmdolpjkaajfaaGreatDoor.HS
open Leb
open Go.RowKit
def hAt (bs : List UInt8) (k j : Nat) : Hs := (bs.drop (k + j * 32)).take 32
theorem hAt_len {bs : List UInt8} {k j n : Nat} (h : k + n * 32 ≤ bs.length) (hj : j < n) : (hAt bs k j).length = 32 := by
  unfold hAt; rw [List.length_take, List.length_drop]
  have : (j + 1) * 32 ≤ n * 32 := Nat.mul_le_mul_right 32 hj
  omega
def zero32 : Hs := List.replicate 32 0
def gl (bs : List UInt8) (k n i : Nat) : List Hs := (List.range n).map fun j => if j < i then hAt bs k j else zero32
theorem gl_len (bs : List UInt8) (k n i : Nat) : (gl bs k n i).length = n := by simp [gl]
theorem gl_get (bs : List UInt8) (k n i j : Nat) (hj : j < n) : (gl bs k n i)[j]? = some (if j < i then hAt bs k j else zero32) := by simp [gl, hj]
theorem gl_32 {bs : List UInt8} {k n i : Nat} (h : k + n * 32 ≤ bs.length) : All32 (gl bs k n i) := fun x hx => by
  obtain ⟨j, hj⟩ := List.getElem?_of_mem hx
  have hjn : j < n := by have := (List.getElem?_eq_some_iff.1 hj).1; rwa [gl_len] at this
  rw [gl_get _ _ _ _ _ hjn] at hj
  cases hj
  split
  · exact hAt_len h hjn
  · simp [zero32]
/-- The list that is taken off. -/
def gL (bs : List UInt8) (k n : Nat) : List Hs := (List.range n).map (hAt bs k)
theorem gL_succ (bs : List UInt8) (k n : Nat) : gL bs k (n + 1) = gL bs k n ++ [hAt bs k n] := by unfold gL; rw [List.range_succ, List.map_append]; rfl
theorem gL_len (bs : List UInt8) (k n : Nat) : (gL bs k n).length = n := by simp [gL]
theorem gl_all (bs : List UInt8) (k n : Nat) : gl bs k n n = gL bs k n := by
  unfold gl gL
  apply List.map_congr_left
  intro j hj
  rw [if_pos (by simpa using hj)]
theorem gL_32 {bs : List UInt8} {k n : Nat} (h : k + n * 32 ≤ bs.length) : All32 (gL bs k n) := by rw [← gl_all]; exact gl_32 h
theorem OwnH.set {W : World} {g n cap i : Nat} {l : List Hs} {x : Hs} (h : OwnH W g (.slice (some ⟨g, 0, none⟩) n cap) l) (h32 : All32 l) (hx : x.length = 32) (hi : i < n) :
    OwnH (W.setCells g (i * 32) (c8 x)) g (.slice (some ⟨g, 0, none⟩) n cap) (l.set i x) := by
  obtain ⟨cur, hg, hcs, hnc, hcm, hln⟩ := h.row
  obtain ⟨c1, hg1, hs1⟩ := setCells_row hg (i * 32) (c8 x)
  have h32' : All32 (l.set i x) := fun y hy => by
    rcases List.mem_or_eq_of_mem_set hy with hy | hy
    · exact h32 y hy
    · rw [hy]; exact hx
  have hcell : ∀ j, j < n * 32 → W.cell? ⟨g, j, none⟩ = some (.int .u8 ((l.flatten.getD j 0).toNat : Int)) := fun j hj => by
    subst hln
    rw [World.ownsRow.cellAt h j (by first | exact hj | (rw [c8_len, flat_len h32]; omega)), c8_get _ j (by rw [flat_len h32]; omega)]
  refine OwnH.of_cells h32' (by rw [List.length_set]; exact hln) hg1 (by rw [hs1, hcs]) hnc hcm (fun q hq => ?_)
  have hq1 : q / 32 < n := by omega
  have hq2 : q % 32 < 32 := Nat.mod_lt _ (by omega)
  have hqe : q = q / 32 * 32 + q % 32 := by omega
  by_cases e1 : q / 32 = i
  · have hfl := flat_at h32' (j := q / 32) (h := x) (by rw [e1, List.getElem?_set, if_pos rfl, if_pos (by omega)]) (q % 32) hq2
    rw [← hqe] at hfl
    rw [hfl]
    have hin := World.cell?_setCells_in g (c8 x) (i * 32) W (fun u hu => by
      rw [c8_len, hx] at hu
      rw [hcell (i * 32 + u) (by omega)]; rfl) (q % 32) (by rw [c8_len, hx]; exact hq2)
    have e2 : (⟨g, q, none⟩ : Addr) = ⟨g, i * 32 + q % 32, none⟩ := by rw [← e1, ← hqe]
    rw [e2, hin]
    have := c8_get x (q % 32) (by rw [hx]; exact hq2)
    rw [← this, List.getElem?_eq_getElem (by rw [c8_len, hx]; exact hq2)]
  · obtain ⟨y, hy⟩ : ∃ y, l[q / 32]? = some y := ⟨_, List.getElem?_eq_getElem (by omega)⟩
    have hfl := flat_at h32' (j := q / 32) (h := y) (by rw [List.getElem?_set, if_neg (fun e => e1 e.symm)]; exact hy) (q % 32) hq2
    have hfo := flat_at h32 (j := q / 32) (h := y) hy (q % 32) hq2
    rw [← hqe] at hfl hfo
    rw [hfl, World.cell?_setCells_out g _ _ _ _ (fun _ _ => by
      rw [c8_len, hx]
      rcases Nat.lt_or_gt_of_ne e1 with h | h
      · left; show q < i * 32; omega
      · right; show i * 32 + 32 ≤ q; omega), hcell q hq, hfo]
end Go.Proofs.YtgmdolpjkaajfaaGreatDoor.HS
namespace Go.Proofs.YtgmdolpjkaajfaaGreatDoor.HS
open Leb
open Go.RowKit Leb
/-- What Get tells. -/
def ghE (bs : List UInt8) (m : Int) : Nat := if guE bs = 0 then (if m < 0 ∨ m < (guV bs : Int) then 5 else if (bs.length - guK bs) / 32 < guV bs then 3 else if upB (gL bs (guK bs) (guV bs)) = true then 0 else 4) else guE bs
def ghK (bs : List UInt8) (m : Int) : Nat := if ghE bs m = 0 then guK bs + guV bs * 32 else 0
def ghL (bs : List UInt8) (m : Int) : List Hs := if ghE bs m = 0 then gL bs (guK bs) (guV bs) else []
theorem gh_bad {bs : List UInt8} {m : Int} {q : Nat} (h : ghE bs m = q) (hq : q ≠ 0) : ghK bs m = 0 ∧ ghL bs m = [] := by
  unfold ghK ghL; rw [h, if_neg hq, if_neg hq]; exact ⟨rfl, rfl⟩
section
variable {o : Oper} {a : Act} {x y z : Operand} {w : World}
end
end Go.Proofs.YtgmdolpjkaajfaaGreatDoor.HS
namespace Go.Proofs.YtgmdolpjkaajfaaGreatDoor.HS
open Leb
open Go.RowKit Leb
/-- A hash whose first c bytes are told. -/
def pt (bs : List UInt8) (p c : Nat) : Hs := (List.range 32).map fun j => if j < c then bs.getD (p + j) 0 else 0
theorem pt_len (bs : List UInt8) (p c : Nat) : (pt bs p c).length = 32 := by simp [pt]
theorem pt_get (bs : List UInt8) (p c j : Nat) (hj : j < 32) : (pt bs p c)[j]? = some (if j < c then bs.getD (p + j) 0 else 0) := by simp [pt, hj]
theorem pt_set (bs : List UInt8) (p c : Nat) (_hc : c < 32) : (c8 (pt bs p c)).set c (.int .u8 ((bs.getD (p + c) 0).toNat : Int)) = c8 (pt bs p (c + 1)) := by
  have h1 : (c8 (pt bs p c)).set c (.int .u8 ((bs.getD (p + c) 0).toNat : Int)) = c8 ((pt bs p c).set c (bs.getD (p + c) 0)) := by unfold c8; rw [List.map_set]
  rw [h1]
  congr 1
  apply List.ext_getElem?
  intro j
  by_cases hj : j < 32
  · rw [List.getElem?_set]
    by_cases e : c = j
    · subst e; rw [if_pos rfl, if_pos (by rw [pt_len]; exact hj), pt_get _ _ _ _ hj, if_pos (by omega)]
    · rw [if_neg e, pt_get _ _ _ _ hj, pt_get _ _ _ _ hj]
      by_cases h2 : j < c
      · rw [if_pos h2, if_pos (by omega)]
      · rw [if_neg h2, if_neg (by omega)]
  · rw [List.getElem?_eq_none (by rw [List.length_set, pt_len]; omega), List.getElem?_eq_none (by rw [pt_len]; omega)]
theorem pt_all {bs : List UInt8} {k j n : Nat} (h : k + n * 32 ≤ bs.length) (hj : j < n) : pt bs (k + j * 32) 32 = hAt bs k j := by
  have hl := hAt_len h hj
  apply List.ext_getElem?
  intro q
  by_cases hq : q < 32
  · rw [pt_get _ _ _ _ hq, if_pos hq]
    unfold hAt
    rw [List.getElem?_take_of_lt hq, List.getElem?_drop, List.getD_eq_getElem?_getD]
    have : (j + 1) * 32 ≤ n * 32 := Nat.mul_le_mul_right 32 hj
    rw [List.getElem?_eq_getElem (by omega)]; rfl
  · rw [List.getElem?_eq_none (by rw [pt_len]; omega), List.getElem?_eq_none (by rw [hl]; omega)]
section
variable {oi : Oper} {a : Act} {w : World} {x y : Operand}
theorem x_mul32 {p r : Nat} (hop : oi.op = .binOp .mul 3 (.const (.int .i64 32)) y 3) (hy : a.eval y = .int .i64 (p : Int)) (hr : r = 32 * p) (hb : r < 4611686018427387904) : (execOp a.eval oi).run Tryz.prog w = .ok (.value (.int .i64 (r : Int))) w := by
  subst hr
  unfold execOp
  simp only [hop, hy]
  simp [go_sem, Act.eval, IntKind.wrap, IntKind.bits, IntKind.signed]
  omega
theorem x_addN {p q r : Nat} (hop : oi.op = .binOp .add 3 x y 3) (hx : a.eval x = .int .i64 (p : Int)) (hy : a.eval y = .int .i64 (q : Int)) (hr : r = p + q) (hb : r < 4611686018427387904) : (execOp a.eval oi).run Tryz.prog w = .ok (.value (.int .i64 (r : Int))) w := by
  subst hr
  unfold execOp
  simp only [hop, hx, hy]
  simp [go_sem, IntKind.wrap, IntKind.bits, IntKind.signed]
  omega
end
structure OtI (w : World) (bs : List UInt8) (k i : Nat) (v : Value) (wr : World) : Prop where
  own : OwnH wr w.heap.size v (gL bs k i)
  aft : After w wr
structure InI (w0 : World) (B : Nat) (bs : List UInt8) (p c : Nat) (wr : World) : Prop where
  row : RowIs wr B 38 (c8 (pt bs p c))
  aft : After w0 wr
theorem zeros24 : (zeroValue 38).run Tryz.prog = fun w => .ok (.agg (c8 zero32).toArray) w := by funext w; kernel_rfl
set_option maxRecDepth 100000 in
set_option maxHeartbeats 3200000 in
theorem rget_any (ao : Option Addr) (cap : Nat) (bs : List UInt8) (m : Int) (hcap : bs.length ≤ cap) (hbig : bs.length ≤ 140737488355328) (hm : m ≤ 9223372036854775807) (hm2 : -9223372036854775808 ≤ m) (w : World) (hat : BytesAt w ao bs) :
    Calls Tryz.prog 50 #[.slice ao bs.length cap, .int .i64 m] w fun e w' => ∃ v, e = .returned (.tuple #[v, .int .i64 (ghK bs m : Int), .int .i64 (ghE bs m : Int)]) ∧ OwnH w' w.heap.size v (ghL bs m) ∧ After w w' := by
  obtain ⟨L, hL⟩ : ∃ L, bs.length = L := ⟨_, rfl⟩
  obtain ⟨n, hn⟩ : ∃ n, guV bs = n := ⟨_, rfl⟩
  obtain ⟨k, hk⟩ : ∃ k, guK bs = k := ⟨_, rfl⟩
  obtain ⟨q, hq⟩ : ∃ q, guE bs = q := ⟨_, rfl⟩
  have hkL : k ≤ L := by rw [← hk, ← hL]; exact guK_le bs
  have hnl : n < 18446744073709551616 := by rw [← hn]; exact guV_lt bs
  have hC : Calls Tryz.prog 83 #[.slice ao L cap] w fun e w' => e = .returned (.tuple #[.int .u64 (n : Int), .int .i64 (k : Int), .int .i64 (q : Int)]) ∧ After w w' := by
    have := rgetUint_any ao cap bs hcap w hat
    rw [hL, hn, hk, hq] at this; exact this
  have HC := show Hid _ from hC
  have HAT : Hid (BytesAt w ao bs ∧ bs.length = L ∧ guV bs = n ∧ guK bs = k ∧ guE bs = q) := ⟨hat, hL, hn, hk, hq⟩
  rw [hL] at hcap hbig ⊢
  have hE : ghE bs m = if q = 0 then (if m < 0 ∨ m < (n : Int) then 5 else if (L - k) / 32 < n then 3 else if upB (gL bs k n) = true then 0 else 4) else q := by unfold ghE; rw [hn, hk, hq, hL]
  have HE := show Hid (ghE bs m = _) from hE
  clear hat hL hn hk hC hE
  by_cases hq0 : q = 0
  · subst hq0
    by_cases hm0 : m < 0
    · have he : ghE bs m = 5 := by rw [HE.out, if_pos rfl, if_pos (Or.inl hm0)]
      obtain ⟨e1, e2⟩ := gh_bad he (by omega)
      rw [he, e1, e2]
      clear he e1 e2 hq
      go_enter Tryz.func50, Tryz.ntmps50
      go_wp2_with (go_at_call 83; refine Calls.mono HC.out ?_; rintro e w1 ⟨rfl, ha1⟩; have HA1 := show Hid (After w w1) from ha1; clear ha1)
      go_ret3
      exact ⟨_, rfl, OwnH.nil _ _, HA1.out⟩
    · obtain ⟨M, rfl⟩ : ∃ M : Nat, m = (M : Int) := ⟨m.toNat, by omega⟩
      by_cases hmn : M < n
      · have he : ghE bs M = 5 := by rw [HE.out, if_pos rfl, if_pos (Or.inr (by omega))]
        obtain ⟨e1, e2⟩ := gh_bad he (by omega)
        rw [he, e1, e2]
        have hmi : (M : Int) < (n : Int) := by omega
        clear he e1 e2 hq
        go_enter Tryz.func50, Tryz.ntmps50
        go_wp2_with (go_at_call 83; refine Calls.mono HC.out ?_; rintro e w1 ⟨rfl, ha1⟩; have HA1 := show Hid (After w w1) from ha1; clear ha1)
        go_ret3
        exact ⟨_, rfl, OwnH.nil _ _, HA1.out⟩
      · have hmi : ¬ (M : Int) < (n : Int) := by omega
        obtain ⟨r, hr⟩ : ∃ r, L - k = r := ⟨_, rfl⟩
        have hri : (L : Int) - (k : Int) = (r : Int) := by omega
        obtain ⟨c, hc⟩ : ∃ c, r / 32 = c := ⟨_, rfl⟩
        have hdv : (r : Int).tdiv 32 = (c : Int) := by rw [Int.tdiv_eq_ediv_of_nonneg (by omega)]; omega
        have hcL : c ≤ 140737488355328 := by omega
        have hrL : r ≤ 140737488355328 := by omega
        by_cases hcn : c < n
        · have he : ghE bs M = 3 := by rw [HE.out, if_pos rfl, if_neg (by omega), hr, hc, if_pos hcn]
          obtain ⟨e1, e2⟩ := gh_bad he (by omega)
          rw [he, e1, e2]
          have hci : (c : Int) < (n : Int) := by omega
          clear he e1 e2 hq hc hr
          go_enter Tryz.func50, Tryz.ntmps50
          go_wp2_with (go_at_call 83; refine Calls.mono HC.out ?_; rintro e w1 ⟨rfl, ha1⟩; have HA1 := show Hid (After w w1) from ha1; clear ha1)
          go_ret3
          exact ⟨_, rfl, OwnH.nil _ _, HA1.out⟩
        · have hci : ¬ (c : Int) < (n : Int) := by omega
          have hkn : k + n * 32 ≤ L := by omega
          have hn2 : n ≤ 4398046511104 := by omega
          have HE2 : Hid (ghE bs M = if upB (gL bs k n) = true then 0 else 4) := by unfold Hid; rw [HE.out, if_pos rfl, if_neg (by omega), hr, hc, if_neg hcn]
          have HKN : Hid (k + n * 32 ≤ bs.length) := by unfold Hid; rw [HAT.out.2.1]; exact hkn
          clear hq hc HE hr
          go_enter Tryz.func50, Tryz.ntmps50
          go_wp2_with (go_at_call 83; refine Calls.mono HC.out ?_; rintro e w1 ⟨rfl, ha1⟩; have HA1 := show Hid (After w w1) from ha1; clear ha1)
          have HO0 : Hid (OtI w bs k 0 (.slice none 0 0) w1) := ⟨OwnH.nil _ _, HA1.out⟩
          clear HC HA1
          go_loopw [10, 11] (fun v iv wr => ∃ i : Nat, i ≤ n ∧ iv = .int .i64 (i : Int) ∧ Hid (OtI w bs k i v wr)) (fun _ iv _ => n - (intOf iv).toNat)
          case atStart => exact ⟨0, Nat.zero_le _, rfl, HO0⟩
          case round =>
            obtain ⟨i, hin, rfl, HI⟩ := hrel
            obtain ⟨v, rfl⟩ : ∃ v, v = u10 := ⟨_, rfl⟩
            obtain ⟨w0, rfl⟩ : ∃ w0, w0 = wr := ⟨_, rfl⟩
            by_cases hlt : i < n
            · have hii : (i : Int) < (n : Int) := by omega
              obtain ⟨p, hp⟩ : ∃ p, p = k + i * 32 := ⟨_, rfl⟩
              have HP : Hid (p = k + i * 32) := hp
              have hpL : p + 32 ≤ L := by have h2 := HKN.out; rw [HAT.out.2.1] at h2; have : (i + 1) * 32 ≤ n * 32 := Nat.mul_le_mul_right 32 hlt; omega
              obtain ⟨t, ht⟩ : ∃ t, t = 32 * i := ⟨_, rfl⟩
              have HT : Hid (t = 32 * i ∧ p = k + t) := ⟨ht, by omega⟩
              have htb : t < 140737488355328 := by omega
              obtain ⟨b, o, hao, hcs⟩ := HAT.out.1 (by intro e; have := HAT.out.2.1; rw [e] at this; simp at this; omega)
              subst hao
              have HCS : Hid (∀ j, j < L → w.cell? ⟨b, o + j, none⟩ = some (.int .u8 ((bs.getD j 0).toNat : Int))) := fun j hj => hcs j (by rw [HAT.out.2.1]; exact hj)
              have HI0 : Hid (InI w0 w0.heap.size bs p 0 (w0.alloc (.cells (c8 zero32).toArray 38))) := ⟨by
                have e : zero32 = pt bs p 0 := rfl
                rw [← e]; exact RowIs.new w0 38 _, after_alloc (After.refl w0) _⟩
              have hz := zeros24
              clear hp ht hcs
              go_wp2_with fail
              obtain ⟨B, hB⟩ : ∃ B, w0.heap.size = B := ⟨_, rfl⟩
              rw [hB] at HI0
              rw [hB]
              have HB : Hid (w0.heap.size = B) := hB
              clear hz hB
              go_loopw [13] (fun cv wr => ∃ c : Nat, c ≤ 32 ∧ cv = .int .i64 (c : Int) ∧ Hid (InI w0 B bs p c wr)) (fun cv _ => 32 - (intOf cv).toNat)
              case atStart => exact ⟨0, by omega, rfl, HI0⟩
              case round =>
                obtain ⟨c1, hc1, rfl, HJ⟩ := hrel
                by_cases hc2 : c1 < 32
                · have hci2 : (c1 : Int) < 32 := by omega
                  obtain ⟨s, hs⟩ : ∃ s, s = p + c1 := ⟨_, rfl⟩
                  have HSS : Hid (s = p + c1) := hs
                  have hsL : s < L := by omega
                  have hcl : wr.cell? ⟨b, o + s, none⟩ = some (.int .u8 ((bs.getD s 0).toNat : Int)) := cell_at HJ.out.aft (cell_at HI.out.aft (HCS.out s hsL))
                  have hfr := HJ.out.row.frozen c1
                  have hcc := HJ.out.row.cell (c8_get (pt bs p c1) c1 (by rw [pt_len]; exact hc2))
                  have hrl := HJ.out.row.lt
                  have HNX : Hid (InI w0 B bs p (c1 + 1) (wr.setCell ⟨B, c1, none⟩ (.int .u8 ((bs.getD s 0).toNat : Int)))) := ⟨by rw [← pt_set bs p c1 hc2, hs]; exact HJ.out.row.set c1 _, Below.setCell HJ.out.aft (by rw [HB.out]; exact Nat.le_refl _) _⟩
                  generalize (bs.getD s 0).toNat = xb at hcl HNX
                  generalize ((pt bs p c1).getD c1 0).toNat = xo at hcc
                  clear hs
                  go_wp2_with (first
                    | (refine wpList_of_run rfl (x_mul32 (p := i) (r := t) rfl rfl HT.out.1 (by omega)) ?_)
                    | (refine wpList_of_run rfl (x_addN (x := .tmp 54) (y := .tmp 56) (p := k) (q := t) (r := p) rfl rfl rfl HT.out.2 (by omega)) ?_)
                    | (refine wpList_of_run rfl (x_addN (x := .tmp 57) (y := .tmp 58) (p := p) (q := c1) (r := s) rfl rfl rfl HSS.out (by omega)) ?_))
                  go_roundw
                  case rel => exact ⟨c1 + 1, by omega, by go_num, HNX⟩
                  case measure => simp [intOf]; omega
                · have hci2 : ¬ (c1 : Int) < 32 := by omega
                  have HROW : Hid (wr.heap[B]? = some (.cells (c8 (hAt bs k i)).toArray 38 (0, 0))) := by
                    have := HJ.out.row
                    rw [show c1 = 32 by omega, HP.out, pt_all HKN.out hlt] at this
                    exact this
                  have H32 : Hid ((hAt bs k i).length = 32) := hAt_len HKN.out hlt
                  have HA3 : Hid (After w wr) := After.trans HI.out.aft HJ.out.aft
                  have HO3 : Hid (OwnH wr w.heap.size v (gL bs k i)) := HI.out.own.after HJ.out.aft
                  have HGS : Hid (gL bs k i ++ [hAt bs k i] = gL bs k (i + 1)) := (gL_succ bs k i).symm
                  have HKB : Hid (((gL bs k i).length + [hAt bs k i].length) * 32 ≤ 140737488355328) := by unfold Hid; rw [gL_len]; simp only [List.length_cons, List.length_nil]; omega
                  generalize hAt bs k i = h at HROW H32 HGS HKB
                  go_wp2_with (first
                    | (refine wpList_load_row rfl 38 (.tmp 12) rfl B rfl 38 (c8 h).toArray (0, 0) _ HROW.out Tryz.underlying38 rfl (size24a H32.out) ?_)
                    | (refine wpList_bs22 rfl (.tmp 64) rfl H32.out rfl ?_)
                    | (at_builtin; refine wpList_append_hashes rfl _ _ rfl w.heap.size v (gL bs k i) rfl (HO3.out.after (after_alloc (After.refl _) _)) (some ⟨_, 0, none⟩) 1 [h] (All32.cons H32.out All32.nil) 1 rfl rfl (HsAt.one _ h) HKB.out (by simp; have := HA3.out.size; omega) ?_
                       intro v' w6 ho6 hg6
                       rw [HGS.out] at ho6
                       have HNX := show Hid (OtI w bs k (i + 1) v' w6) from ⟨ho6, after_grown (after_alloc HA3.out _) hg6 (Nat.le_refl _) (fun j hj => (HO3.out.lt j hj).1)⟩
                       clear ho6 hg6))
                  go_roundw
                  case rel => exact ⟨i + 1, by omega, by go_num, HNX⟩
                  case measure => simp [intOf]; omega
            · have hii : ¬ (i : Int) < (n : Int) := by omega
              have hie : i = n := by omega
              have HOW : Hid (OwnH w0 w.heap.size v (gL bs k n)) := by have := HI.out.own; rw [hie] at this; exact this
              obtain ⟨ga, gc, hge, hgat, _⟩ := HOW.out.at
              rw [gL_len] at hge
              subst hge
              have HA : Hid (After w w0) := HI.out.aft
              have hR := rising16 ga gc (gL bs k n) (gL_32 HKN.out) n (gL_len _ _ _) (by omega) w0 hgat
              obtain ⟨t, ht⟩ : ∃ t, t = 32 * n := ⟨_, rfl⟩
              obtain ⟨U, hU⟩ : ∃ U, U = k + t := ⟨_, rfl⟩
              have HUN : Hid (U = k + n * 32) := by unfold Hid; omega
              have HT : Hid (t = 32 * n ∧ U = k + t) := ⟨ht, hU⟩
              have htb : t < 4611686018427387904 := by omega
              have hUb : U < 4611686018427387904 := by omega
              clear ht hU
              by_cases hu : upB (gL bs k n) = true
              · rw [hu] at hR
                have HR := show Hid _ from hR
                have he : ghE bs M = 0 := by rw [HE2.out, if_pos hu]
                have e1 : ghK bs M = k + n * 32 := by unfold ghK; rw [if_pos he, HAT.out.2.2.1, HAT.out.2.2.2.1]
                have e2 : ghL bs M = gL bs k n := by unfold ghL; rw [if_pos he, HAT.out.2.2.1, HAT.out.2.2.2.1]
                have HEE : Hid (ghE bs M = 0 ∧ ghK bs M = U ∧ ghL bs M = gL bs k n) := ⟨he, by rw [e1, HUN.out], e2⟩
                clear hR hu he e1 e2 hie HI
                go_wp2_with (first
                  | (go_at_call 56; refine Calls.mono HR.out ?_; rintro e w3 ⟨rfl, ha3⟩; have HA3 := show Hid (After w0 w3) from ha3; clear ha3)
                  | (refine wpList_of_run rfl (x_mul32 (p := n) (r := t) rfl rfl HT.out.1 (by omega)) ?_)
                  | (refine wpList_of_run rfl (x_addN (x := .tmp 71) (y := .tmp 74) (p := k) (q := t) (r := U) rfl rfl rfl HT.out.2 (by omega)) ?_))
                go_ret3
                refine ⟨.slice ga n gc, ?_, ?_, After.trans HA.out HA3.out⟩
                · rw [HEE.out.1, HEE.out.2.1]; rfl
                · rw [HEE.out.2.2]; exact HOW.out.after HA3.out
              · have hu' : upB (gL bs k n) = false := Bool.eq_false_iff.2 hu
                rw [hu'] at hR
                have HR := show Hid _ from hR
                have he : ghE bs M = 4 := by rw [HE2.out, if_neg hu]
                obtain ⟨e1, e2⟩ := gh_bad he (by omega)
                have HEE : Hid (ghE bs M = 4 ∧ ghK bs M = 0 ∧ ghL bs M = []) := ⟨he, e1, e2⟩
                clear hR hu hu' he e1 e2 hie HI
                go_wp2_with (go_at_call 56; refine Calls.mono HR.out ?_; rintro e w3 ⟨rfl, ha3⟩; have HA3 := show Hid (After w0 w3) from ha3; clear ha3)
                go_ret3
                refine ⟨.slice none 0 0, ?_, ?_, After.trans HA.out HA3.out⟩
                · rw [HEE.out.1, HEE.out.2.1]; rfl
                · rw [HEE.out.2.2]; exact OwnH.nil _ _
  · have he : ghE bs m = q := by rw [HE.out, if_neg hq0]
    obtain ⟨e1, e2⟩ := gh_bad he hq0
    rw [he, e1, e2]
    have hq0i : ((q : Int) != 0) = true := by simp; omega
    clear he e1 e2 hq
    go_enter Tryz.func50, Tryz.ntmps50
    go_wp2_with (go_at_call 83; refine Calls.mono HC.out ?_; rintro e w1 ⟨rfl, ha1⟩; have HA1 := show Hid (After w w1) from ha1; clear ha1)
    go_ret3
    exact ⟨_, rfl, OwnH.nil _ _, HA1.out⟩
end Go.Proofs.YtgmdolpjkaajfaaGreatDoor.HS
namespace Go.Proofs.YtgmdolpjkaajfaaGreatDoor.HS
open Leb
open Go.RowKit Leb
theorem slice24 (g o : Nat) (W : World) : (Instr.sliceAt 38 (.pointer (some ⟨g, o, none⟩)) none none none).run Tryz.prog W = .ok (.slice (some ⟨g, o, none⟩) 32 32) W := by
  obtain ⟨i, hi, hz⟩ := Option.map_eq_some_iff.1 bytes5
  simp [Instr.sliceAt, run_underlying Tryz.underlying38, Instr.sureAddr, Instr.sliceBounds, sizeOf, typeInfo, hi, Addr.add]
theorem x_sl24 {o : Oper} {a : Act} {x : Operand} {w : World} {g p : Nat} (hop : o.op = .slice 38 x none none none) (hx : a.eval x = .pointer (some ⟨g, p, none⟩)) : (execOp a.eval o).run Tryz.prog w = .ok (.value (.slice (some ⟨g, p, none⟩) 32 32)) w := by
  unfold execOp
  simp only [hop, hx, Option.map, Sem.run_bind, slice24 g p w, Result.andThen_ok]
  rfl
theorem bytes_row {w : World} {g : Nat} {h : Hs} (hr : w.heap[g]? = some (.cells (c8 h).toArray 38 (0, 0))) : BytesAt w (some ⟨g, 0, none⟩) h := fun _ => ⟨g, 0, rfl, fun j hj => by
  rw [Nat.zero_add]; exact (show RowIs w g 38 (c8 h) from hr).cell (c8_get h j hj)⟩
theorem bytes_range {w : World} {g o : Nat} {h : Hs} (hr : w.rangeAt g o (c8 h)) : BytesAt w (some ⟨g, o, none⟩) h := fun _ => ⟨g, o, rfl, fun j hj => hr j _ (c8_get h j hj)⟩
/-- The bytes of a list. -/
def putB (l : List Hs) (n i : Nat) : List UInt8 := uintB n ++ (l.take i).flatten
theorem putB_succ {l : List Hs} {n i : Nat} {h : Hs} (hi : l[i]? = some h) : putB l n i ++ h = putB l n (i + 1) := by
  unfold putB; rw [List.take_add_one, hi]; simp
theorem putB_len {l : List Hs} {n i : Nat} (h32 : All32 l) : (putB l n i).length ≤ (uintB n).length + i * 32 := by
  unfold putB
  rw [List.length_append, flat_len (fun x hx => h32 x (List.mem_of_mem_take hx)), List.length_take]
  have : min i l.length ≤ i := Nat.min_le_left _ _
  have := Nat.mul_le_mul_right 32 this
  omega
structure PtI (w : World) (l : List Hs) (n i : Nat) (v : Value) (wr : World) : Prop where
  own : Own wr w.heap.size v (putB l n i)
  aft : After w wr
set_option maxRecDepth 100000 in
set_option maxHeartbeats 3200000 in
theorem put_any (ao : Option Addr) (ca : Nat) (l : List Hs) (h32 : All32 l) (n : Nat) (hl : l.length = n) (hbig : n * 32 + 20 ≤ 140737488355328) (w : World) (hA : HsAt w ao l) :
    Calls Tryz.prog 70 #[.slice ao n ca] w fun e w' => ∃ v, e = .returned v ∧ Own w' w.heap.size v (putB l n n) ∧ After w w' := by
  have HFA : Hid (HsAt w ao l ∧ All32 l ∧ l.length = n) := ⟨hA, h32, hl⟩
  have HUL : Hid ((uintB n).length ≤ 10) := uintB_len10 n (by omega)
  have hC : Calls Tryz.prog 69 #[.int .u64 (n : Int)] w fun e w' => ∃ v, e = .returned v ∧ Own w' w.heap.size v (putB l n 0) ∧ After w w' := by
    have := uint_any n (by omega) w
    unfold putB; rw [List.take_zero, List.flatten_nil, List.append_nil]; exact this
  have HC := show Hid _ from hC
  have hn64 : n < 9223372036854775808 := by omega
  clear hA h32 hl hC
  go_enter Tryz.func70, Tryz.ntmps70
  go_wp2_with (go_at_call 69; refine Calls.mono HC.out ?_; rintro e w1 ⟨v, rfl, ho1, ha1⟩; have HP0 := show Hid (PtI w l n 0 v w1) from ⟨ho1, ha1⟩; clear ho1 ha1)
  clear HC
  go_loopw [3, 12] (fun v iv wr => ∃ i : Nat, i ≤ n ∧ iv = .int .i64 (i : Int) ∧ Hid (PtI w l n i v wr)) (fun _ iv _ => n - (intOf iv).toNat)
  case atStart => exact ⟨0, Nat.zero_le _, rfl, HP0⟩
  case round =>
    obtain ⟨i, hin, rfl, HI⟩ := hrel
    obtain ⟨v, rfl⟩ : ∃ v, v = u3 := ⟨_, rfl⟩
    by_cases hlt : i < n
    · have hii : (i : Int) < (n : Int) := by omega
      obtain ⟨h, hh⟩ : ∃ h, l[i]? = some h := ⟨_, List.getElem?_eq_getElem (by rw [HFA.out.2.2]; exact hlt)⟩
      obtain ⟨xb, xo, hxa, hrg⟩ := HFA.out.1.get HFA.out.2.1 (by intro e; rw [e] at hh; simp at hh)
      subst hxa
      have HR : Hid (wr.rangeAt xb (xo + i * 32) (c8 h)) := range_after (hrg i h hh) HI.out.aft
      have H32 : Hid (h.length = 32) := HFA.out.2.1.at hh
      have HNX : Hid (putB l n i ++ h = putB l n (i + 1)) := putB_succ hh
      have HFS : Hid (∀ cs : Array Value, ((wr.alloc (.cells cs 38)).setRow wr.heap.size (c8 h).toArray).heap[wr.heap.size]? = some (.cells (c8 h).toArray 38 (0, 0)) ∧ After wr ((wr.alloc (.cells cs 38)).setRow wr.heap.size (c8 h).toArray) ∧ ((wr.alloc (.cells cs 38)).setRow wr.heap.size (c8 h).toArray).heap.size = wr.heap.size + 1) := fun cs => fresh_row wr h cs
      have HKB : Hid ((putB l n i).length + h.length ≤ 140737488355328) := by have h1 := putB_len (n := n) (i := i) HFA.out.2.1; have h2 := HUL.out; have h3 := H32.out; unfold Hid; omega
      clear hh hrg
      go_wp2_with (first
        | (refine wpList_load_mid rfl 38 (.tmp 14) rfl xb (xo + i * 32) rfl (c8 h) _ HR.out Tryz.underlying38 rfl (size24' H32.out) ?_)
        | (refine wpList_store_row rfl 38 (.tmp 5) (.tmp 15) rfl wr.heap.size (c8 h).toArray rfl rfl 38 _ (heap_alloc_new wr _) (size24a H32.out) (by simp [c8_len, H32.out]) (hs_one h) ?_)
        | (refine wpList_of_run rfl (x_sl24 (x := .tmp 5) (g := wr.heap.size) (p := 0) rfl rfl) ?_)
        | (at_builtin; refine wpList_append_any rfl _ _ rfl w.heap.size v (putB l n i) rfl (Own.below HI.out.own (HFS.out _).2.1 (Nat.le_refl _)) (some ⟨wr.heap.size, 0, none⟩) 32 h 32 H32.out rfl (bytes_row (HFS.out _).1) HKB.out (by rw [(HFS.out _).2.2]; have := HI.out.aft.size; omega) ?_
           intro v' w6 ho6 hg6
           rw [HNX.out] at ho6
           have HN2 := show Hid (PtI w l n (i + 1) v' w6) from ⟨ho6, after_grown (After.trans HI.out.aft (HFS.out _).2.1) hg6 (Nat.le_refl _) (fun j hj => (World.ownsRow.lt HI.out.own j hj).1)⟩
           clear ho6 hg6))
      go_roundw
      case rel => exact ⟨i + 1, by omega, by go_num, HN2⟩
      case measure => simp [intOf]; omega
    · have hii : ¬ (i : Int) < (n : Int) := by omega
      have hie : i = n := by omega
      have HE : Hid (PtI w l n n v wr) := by have := HI.out; rw [hie] at this; exact this
      clear hie HI
      go_wp2
      go_ret
      exact ⟨_, rfl, HE.out.own, HE.out.aft⟩
set_option maxRecDepth 100000 in
set_option maxHeartbeats 3200000 in
theorem rput_any (ao : Option Addr) (ca : Nat) (l : List Hs) (h32 : All32 l) (n : Nat) (hl : l.length = n) (hbig : n * 32 + 20 ≤ 140737488355328) (w : World) (hA : HsAt w ao l) :
    Calls Tryz.prog 60 #[.slice ao n ca] w fun e w' => ∃ v, e = .returned v ∧ Own w' w.heap.size v (putB l n n) ∧ After w w' := by
  have HFA : Hid (HsAt w ao l ∧ All32 l ∧ l.length = n) := ⟨hA, h32, hl⟩
  have HUL : Hid ((uintB n).length ≤ 10) := uintB_len10 n (by omega)
  have hC : Calls Tryz.prog 59 #[.int .u64 (n : Int)] w fun e w' => ∃ v, e = .returned v ∧ Own w' w.heap.size v (putB l n 0) ∧ After w w' := by
    have := ruint_any n (by omega) w
    unfold putB; rw [List.take_zero, List.flatten_nil, List.append_nil]; exact this
  have HC := show Hid _ from hC
  have hn64 : n < 9223372036854775808 := by omega
  clear hA h32 hl hC
  go_enter Tryz.func60, Tryz.ntmps60
  go_wp2_with (go_at_call 59; refine Calls.mono HC.out ?_; rintro e w1 ⟨v, rfl, ho1, ha1⟩; have HP0 := show Hid (PtI w l n 0 v w1) from ⟨ho1, ha1⟩; clear ho1 ha1)
  clear HC
  go_loopw [3, 4] (fun v iv wr => ∃ i : Nat, i ≤ n ∧ iv = .int .i64 (i : Int) ∧ Hid (PtI w l n i v wr)) (fun _ iv _ => n - (intOf iv).toNat)
  case atStart => exact ⟨0, Nat.zero_le _, rfl, HP0⟩
  case round =>
    obtain ⟨i, hin, rfl, HI⟩ := hrel
    obtain ⟨v, rfl⟩ : ∃ v, v = u3 := ⟨_, rfl⟩
    by_cases hlt : i < n
    · have hii : (i : Int) < (n : Int) := by omega
      obtain ⟨h, hh⟩ : ∃ h, l[i]? = some h := ⟨_, List.getElem?_eq_getElem (by rw [HFA.out.2.2]; exact hlt)⟩
      obtain ⟨xb, xo, hxa, hrg⟩ := HFA.out.1.get HFA.out.2.1 (by intro e; rw [e] at hh; simp at hh)
      subst hxa
      have HR : Hid (wr.rangeAt xb (xo + i * 32) (c8 h)) := range_after (hrg i h hh) HI.out.aft
      have H32 : Hid (h.length = 32) := HFA.out.2.1.at hh
      have HNX : Hid (putB l n i ++ h = putB l n (i + 1)) := putB_succ hh
      have HKB : Hid ((putB l n i).length + h.length ≤ 140737488355328) := by have h1 := putB_len (n := n) (i := i) HFA.out.2.1; have h2 := HUL.out; have h3 := H32.out; unfold Hid; omega
      clear hh hrg
      go_wp2_with (first
        | (refine wpList_of_run rfl (x_sl24 (x := .tmp 18) (g := xb) (p := xo + i * 32) rfl rfl) ?_)
        | (at_builtin; refine wpList_append_any rfl _ _ rfl w.heap.size v (putB l n i) rfl HI.out.own (some ⟨xb, xo + i * 32, none⟩) 32 h 32 H32.out rfl (bytes_range HR.out) HKB.out HI.out.aft.size ?_
           intro v' w6 ho6 hg6
           rw [HNX.out] at ho6
           have HN2 := show Hid (PtI w l n (i + 1) v' w6) from ⟨ho6, after_grown HI.out.aft hg6 (Nat.le_refl _) (fun j hj => (World.ownsRow.lt HI.out.own j hj).1)⟩
           clear ho6 hg6))
      go_roundw
      case rel => exact ⟨i + 1, by omega, by go_num, HN2⟩
      case measure => simp [intOf]; omega
    · have hii : ¬ (i : Int) < (n : Int) := by omega
      have hie : i = n := by omega
      have HE : Hid (PtI w l n n v wr) := by have := HI.out; rw [hie] at this; exact this
      clear hie HI
      go_wp2
      go_ret
      exact ⟨_, rfl, HE.out.own, HE.out.aft⟩
end Go.Proofs.YtgmdolpjkaajfaaGreatDoor.HS
