/-
  THE WALKS OF hashes.Text AND ref.Text.
-/
import Derived.Test.YtedghldjpkabmaaPut
import Derived.Test.YtedghldjpkabmaaHex
import Derived.Test.YtedghldjpkabmaaShelf2
namespace Go.Proofs.Ytedghldjpkabmaa
open Go.RowKit
/-- What Text tells. -/
def txt : List Hs → List UInt8
  | [] => [45]
  | h :: l => hexL h ++ Lib.joinTail [44] (l.map hexL)
theorem txt_join {l : List Hs} (h : l ≠ []) : Lib.join (l.map hexL) [44] = txt l := by
  cases l with
  | nil => exact absurd rfl h
  | cons x l => rw [List.map_cons, Lib.join_cons]; rfl
theorem tail_len (l : List Hs) (h32 : All32 l) : (Lib.joinTail [44] (l.map hexL)).length = 65 * l.length := by
  induction l with
  | nil => rfl
  | cons x l ih =>
    have h1 : Lib.joinTail [44] ((x :: l).map hexL) = [44] ++ hexL x ++ Lib.joinTail [44] (l.map hexL) := by simp [Lib.joinTail]
    rw [h1, List.length_append, List.length_append, ih h32.tail, hexL_len, h32 x (by simp), List.length_cons]
    simp only [List.length_cons, List.length_nil]; omega
theorem txt_len (l : List Hs) (h32 : All32 l) (hn : l.length ≤ 500) : (txt l).length ≤ 32500 := by
  cases l with
  | nil => simp [txt]
  | cons x l =>
    unfold txt
    rw [List.length_append, tail_len l h32.tail, hexL_len, h32 x (by simp)]
    simp only [List.length_cons] at hn
    omega
def txc (l : List Hs) (n i : Nat) : List Value := (List.range n).map fun j => if j < i then .string (strOf (hexL (l.getD j []))) else .string ⟨#[]⟩
theorem txc_len (l : List Hs) (n i : Nat) : (txc l n i).length = n := by simp [txc]
theorem txc_get (l : List Hs) (n i j : Nat) (hj : j < n) : (txc l n i)[j]? = some (if j < i then .string (strOf (hexL (l.getD j []))) else .string ⟨#[]⟩) := by simp [txc, hj]
theorem txc_set (l : List Hs) (n i : Nat) (hi : i < n) : (txc l n i).set i (.string (strOf (hexL (l.getD i [])))) = txc l n (i + 1) := by
  apply List.ext_getElem?
  intro j
  by_cases hj : j < n
  · rw [List.getElem?_set]
    by_cases e : i = j
    · subst e
      rw [if_pos rfl, if_pos (by rw [txc_len]; exact hi), txc_get _ _ _ _ hj, if_pos (by omega)]
    · rw [if_neg e, txc_get _ _ _ _ hj, txc_get _ _ _ _ hj]
      by_cases h2 : j < i
      · rw [if_pos h2, if_pos (by omega)]
      · rw [if_neg h2, if_neg (by omega)]
  · rw [List.getElem?_eq_none (by rw [List.length_set, txc_len]; omega), List.getElem?_eq_none (by rw [txc_len]; omega)]
theorem info9 : (Try.prog.info? 9).map (fun i => (i.zero, i.size, i.bytes)) = some (some (.string ⟨#[]⟩), 1, 16) := by kernel_rfl
theorem make_strs (W : World) (n : Nat) (hn : n ≤ 500) (l : List Hs) :
    (Instr.makeSlice 53 (.int .i64 (n : Int)) (.int .i64 (n : Int))).run Try.prog W = .ok (.slice (some ⟨W.heap.size, 0, none⟩) n n) (W.alloc (.cells (txc l n 0).toArray 9)) := by
  obtain ⟨i, hi, hz⟩ := Option.map_eq_some_iff.1 info9
  simp only [Prod.mk.injEq] at hz
  obtain ⟨hz, hs, hb⟩ := hz
  have := run_make (P := Try.prog) W 53 9 i (.string ⟨#[]⟩) Try.underlying53 hi hz .i64 .i64 n n (by omega) (by omega) (by rw [hb]; omega) (by omega)
  rw [this, hs, Nat.mul_one, Int.toNat_natCast]
  have e : madeCells (Value.cells (.string ⟨#[]⟩)) n = (txc l n 0).toArray := by
    apply Array.ext_getElem?
    intro j
    simp only [madeCells, txc]
    by_cases h : j < n
    · simp [h, Value.cells, Nat.mod_one]
    · simp [h]
  rw [e]
structure TxI (w : World) (g n : Nat) (l : List Hs) (i : Nat) (wr : World) : Prop where
  row : RowIs wr g 9 (txc l n i)
  aft : After w wr
set_option maxRecDepth 100000 in
set_option maxHeartbeats 3200000 in
theorem text_any (ao : Option Addr) (ca : Nat) (l : List Hs) (h32 : All32 l) (n : Nat) (hl : l.length = n) (hn5 : n ≤ 500) (w : World) (hA : HsAt w ao l) :
    Calls Try.prog 28 #[.slice ao n ca] w fun e w' => e = .returned (.string (strOf (txt l))) ∧ After w w' := by
  by_cases hn0 : n = 0
  · subst hn0
    obtain rfl : l = [] := List.eq_nil_of_length_eq_zero hl
    go_enter Try.func28, Try.ntmps28
    go_wp2
    go_ret
    exact ⟨rfl, After.refl w⟩
  · have hn0i : ((n : Int) == 0) = false := by rw [beq_eq_false_iff_ne]; omega
    have HFA : Hid (HsAt w ao l ∧ All32 l ∧ l.length = n) := ⟨hA, h32, hl⟩
    have hmk := make_strs w n hn5 l
    have HT0 : Hid (TxI w w.heap.size n l 0 (w.alloc (.cells (txc l n 0).toArray 9))) := ⟨RowIs.new w 9 _, after_alloc (After.refl w) _⟩
    clear hA h32 hl
    go_enter Try.func28, Try.ntmps28
    go_wp2_with fail
    obtain ⟨w1, hw1⟩ : ∃ w1, w.alloc (.cells (txc l n 0).toArray 9) = w1 := ⟨_, rfl⟩
    rw [hw1] at HT0 ⊢
    obtain ⟨g, hg⟩ : ∃ g, w.heap.size = g := ⟨_, rfl⟩
    have HG : Hid (w.heap.size = g) := hg
    rw [hg] at HT0 ⊢
    clear hw1 hmk hg
    go_loopw [14] (fun iv wr => ∃ i : Nat, i ≤ n ∧ iv = .int .i64 (i : Int) ∧ Hid (TxI w g n l i wr)) (fun iv _ => n - (intOf iv).toNat)
    case atStart => exact ⟨0, Nat.zero_le _, rfl, HT0⟩
    case round =>
      obtain ⟨i, hin, rfl, HI⟩ := hrel
      by_cases hlt : i < n
      · have hii : (i : Int) < (n : Int) := by omega
        obtain ⟨h, hh⟩ : ∃ h, l[i]? = some h := ⟨_, List.getElem?_eq_getElem (by rw [HFA.out.2.2]; exact hlt)⟩
        obtain ⟨xb, xo, hxa, hrg⟩ := HFA.out.1.get HFA.out.2.1 (by intro e; rw [e] at hh; simp at hh)
        subst hxa
        have HR : Hid (wr.rangeAt xb (xo + i * 32) (c8 h)) := range_after (hrg i h hh) HI.out.aft
        have H32 : Hid (h.length = 32) := HFA.out.2.1.at hh
        have HFS : Hid (∀ cs : Array Value, ((wr.alloc (.cells cs 24)).setRow wr.heap.size (c8 h).toArray).heap[wr.heap.size]? = some (.cells (c8 h).toArray 24 (0, 0)) ∧ After wr ((wr.alloc (.cells cs 24)).setRow wr.heap.size (c8 h).toArray) ∧ ((wr.alloc (.cells cs 24)).setRow wr.heap.size (c8 h).toArray).heap.size = wr.heap.size + 1) := fun cs => fresh_row wr h cs
        have hgd : l.getD i [] = h := by rw [List.getD_eq_getElem?_getD, hh]; rfl
        have HST : Hid ((txc l n i).set i (.string (strOf (hexL h))) = txc l n (i + 1)) := by have := txc_set l n i hlt; rw [hgd] at this; exact this
        clear hh hrg hgd
        go_wp2_with (first
          | (refine wpList_load_mid rfl 24 (.tmp 17) rfl xb (xo + i * 32) rfl (c8 h) _ HR.out Try.underlying24 rfl (size24' H32.out) ?_)
          | (refine wpList_store_row rfl 24 (.tmp 5) (.tmp 18) rfl wr.heap.size (c8 h).toArray rfl rfl 24 _ (heap_alloc_new wr _) (size24a H32.out) (by simp [c8_len, H32.out]) (hs_one h) ?_)
          | (refine wpList_load_row rfl 24 (.tmp 5) rfl wr.heap.size rfl 24 (c8 h).toArray (0, 0) _ (HFS.out _).1 Try.underlying24 rfl (size24a H32.out) ?_)
          | (go_at_call 44; refine Calls.mono (hexL_any h H32.out _) ?_; rintro e w4 ⟨rfl, ha4⟩
             have hA4 : After wr w4 := After.trans (HFS.out _).2.1 ha4
             have hrow := HI.out.row.below hA4 HI.out.row.lt
             have hfr := hrow.frozen i
             have hcc := hrow.cell (txc_get l n i i hlt)
             have hrl := hrow.lt
             rw [if_neg (Nat.lt_irrefl i)] at hcc
             have HNX := show Hid (TxI w g n l (i + 1) (w4.setCell ⟨g, i, none⟩ (.string (strOf (hexL h))))) from ⟨by rw [← HST.out]; exact hrow.set i _, Below.setCell (After.trans HI.out.aft hA4) (by rw [HG.out]; exact Nat.le_refl _) _⟩
             clear ha4 hA4 hrow))
        go_roundw
        case rel => exact ⟨i + 1, by omega, by go_num, HNX⟩
        case measure => simp [intOf]; omega
      · have hii : ¬ (i : Int) < (n : Int) := by omega
        have hie : i = n := by omega
        have hrow : RowIs wr g 9 (txc l n n) := by have := HI.out.row; rw [hie] at this; exact this
        have hne : l ≠ [] := fun e => hn0 (by have := HFA.out.2.2; rw [e] at this; exact this.symm)
        have hxm : (l.map fun h => strOf (hexL h)).map (fun s => s.data.toList) = l.map hexL := by simp [strOf, Function.comp_def]
        have hJ := join_any g 0 n (l.map fun h => strOf (hexL h)) ⟨#[44]⟩ wr (fun j x hj => by
          have hjn : j < n := by have := (List.getElem?_eq_some_iff.1 hj).1; rw [List.length_map, HFA.out.2.2] at this; exact this
          rw [List.getElem?_map] at hj
          obtain ⟨y, hy, rfl⟩ := Option.map_eq_some_iff.1 hj
          have := hrow.cell (txc_get l n n j hjn)
          rw [if_pos hjn, List.getD_eq_getElem?_getD, hy] at this
          rw [Nat.zero_add]; exact this) hrow.lt (by rw [List.length_map, HFA.out.2.2]; omega) (by rw [List.length_map, HFA.out.2.2]; exact Nat.le_refl _)
          (by rw [hxm, show (⟨#[44]⟩ : ByteArray).data.toList = [44] from rfl, txt_join hne]; have := txt_len l HFA.out.2.1 (by rw [HFA.out.2.2]; exact hn5); omega)
        rw [hxm, show (⟨#[44]⟩ : ByteArray).data.toList = [44] from rfl, txt_join hne, List.length_map, HFA.out.2.2] at hJ
        have HJ := show Hid _ from hJ
        have HA : Hid (After w wr) := HI.out.aft
        clear hJ hrow hie hxm HI hne
        go_wp2_with (go_at_call 45; refine Calls.mono HJ.out ?_; rintro e w4 ⟨rfl, ha4⟩; have HA4 := show Hid (After wr w4) from ha4; clear ha4)
        go_ret
        exact ⟨rfl, After.trans HA.out HA4.out⟩
theorem x_cat {oi : Oper} {a : Act} {x y : Operand} {w : World} {p q : List UInt8} (hop : oi.op = .binOp .add 9 x y 9) (hx : a.eval x = .string (strOf p)) (hy : a.eval y = .string (strOf q)) (hb : p.length + q.length ≤ 9223372036854775807) : (execOp a.eval oi).run Try.prog w = .ok (.value (.string (strOf (p ++ q)))) w := by
  have hb' : (strOf p).size + (strOf q).size ≤ 9223372036854775807 := by rw [strOf_size, strOf_size]; exact hb
  have e : strOf p ++ strOf q = strOf (p ++ q) := by simp [strOf, ByteArray.ext_iff]
  unfold execOp
  simp only [hop, hx, hy]
  simp [go_sem, e, hb']
def rtx (h : Hs) (r : List Hs) (j : Nat) : List UInt8 := hexL h ++ Lib.joinTail [44] ((r.take j).map hexL)
theorem rtx_succ {h x : Hs} {r : List Hs} {j : Nat} (hx : r[j]? = some x) : (rtx h r j ++ [44]) ++ hexL x = rtx h r (j + 1) := by
  unfold rtx
  have := Lib.joinTail_take_succ [44] (r.map hexL) j (hexL x) (by rw [List.getElem?_map, hx]; rfl)
  rw [List.map_take, List.map_take, this]
  simp [List.append_assoc]
theorem rtx_len {h : Hs} {r : List Hs} (h32 : All32 (h :: r)) (j : Nat) : (rtx h r j).length ≤ 64 + 65 * j := by
  unfold rtx
  rw [List.length_append, tail_len _ (fun x hx => h32 x (by simp [List.mem_of_mem_take hx])), hexL_len, h32 h (by simp), List.length_take]
  have : min j r.length ≤ j := Nat.min_le_left _ _
  omega
structure RtI (w : World) (h : Hs) (r : List Hs) (k : Nat) (v : Value) (wr : World) : Prop where
  val : ∃ j, k = j + 1 ∧ v = .string (strOf (rtx h r j))
  aft : After w wr
set_option maxRecDepth 100000 in
set_option maxHeartbeats 3200000 in
theorem rtext_any (ao : Option Addr) (ca : Nat) (l : List Hs) (h32 : All32 l) (n : Nat) (hl : l.length = n) (hn5 : n ≤ 500) (w : World) (hA : HsAt w ao l) :
    Calls Try.prog 29 #[.slice ao n ca] w fun e w' => e = .returned (.string (strOf (txt l))) ∧ After w w' := by
  cases l with
  | nil =>
    obtain rfl : n = 0 := hl.symm
    go_enter Try.func29, Try.ntmps29
    go_wp2
    go_ret
    exact ⟨rfl, After.refl w⟩
  | cons h0 r =>
    have hn0 : 0 < n := by rw [← hl]; simp
    have hn0i : ((n : Int) == 0) = false := by rw [beq_eq_false_iff_ne]; omega
    have hn1 : (0 : Int) < (n : Int) := by omega
    obtain ⟨xb, xo, hxa, hrg⟩ := hA.get h32 (by simp)
    subst hxa
    have HRG : Hid (∀ j x, (h0 :: r)[j]? = some x → w.rangeAt xb (xo + j * 32) (c8 x)) := hrg
    have HR0 : Hid (w.rangeAt xb xo (c8 h0)) := by have := hrg 0 h0 rfl; rw [Nat.zero_mul, Nat.add_zero] at this; exact this
    have HFA : Hid (All32 (h0 :: r) ∧ (h0 :: r).length = n ∧ h0.length = 32) := ⟨h32, hl, h32 h0 (by simp)⟩
    have HX0 : Hid (hexL h0 = rtx h0 r 0) := by unfold rtx Hid; simp [Lib.joinTail]
    clear hA h32 hl hrg
    go_enter Try.func29, Try.ntmps29
    go_wp2_with (first
      | (refine wpList_load_mid rfl 24 (.tmp 9) rfl xb xo rfl (c8 h0) _ HR0.out Try.underlying24 rfl (size24' HFA.out.2.2) ?_)
      | (go_at_call 46; refine Calls.mono (refHex_any h0 HFA.out.2.2 w) ?_; rintro e w1 ⟨rfl, ha1⟩; rw [HX0.out]; have HI0 := show Hid (RtI w h0 r 1 (.string (strOf (rtx h0 r 0))) w1) from ⟨⟨0, rfl, rfl⟩, ha1⟩; clear ha1))
    go_loopw [3, 4] (fun v iv wr => ∃ k : Nat, 1 ≤ k ∧ k ≤ n ∧ iv = .int .i64 (k : Int) ∧ Hid (RtI w h0 r k v wr)) (fun _ iv _ => n - (intOf iv).toNat)
    case atStart => exact ⟨1, Nat.le_refl _, by omega, rfl, HI0⟩
    case round =>
      obtain ⟨k, hk1, hkn, rfl, HI⟩ := hrel
      obtain ⟨j, hkj, rfl⟩ := HI.out.val
      have HKJ : Hid (k = j + 1) := hkj
      clear hkj
      by_cases hlt : k < n
      · have hii : (k : Int) < (n : Int) := by omega
        obtain ⟨x, hx⟩ : ∃ x, r[j]? = some x := ⟨_, List.getElem?_eq_getElem (by have := HFA.out.2.1; rw [List.length_cons] at this; have := HKJ.out; omega)⟩
        have hx1 : (h0 :: r)[k]? = some x := by rw [HKJ.out, List.getElem?_cons_succ]; exact hx
        have HR : Hid (wr.rangeAt xb (xo + k * 32) (c8 x)) := range_after (HRG.out k x hx1) HI.out.aft
        have H32 : Hid (x.length = 32) := HFA.out.1.at hx1
        have HNX : Hid ((rtx h0 r j ++ [44]) ++ hexL x = rtx h0 r (j + 1)) := rtx_succ hx
        have hpl : (rtx h0 r j).length ≤ 65000 := by have := rtx_len HFA.out.1 j; have := HKJ.out; omega
        have hxl : (hexL x).length = 64 := by rw [hexL_len, H32.out]
        generalize rtx h0 r j = p at HNX hpl
        have HPL : Hid (p.length + 1 ≤ 9223372036854775807 ∧ (p ++ [44]).length + (hexL x).length ≤ 9223372036854775807) := ⟨by omega, by rw [List.length_append, hxl]; simp only [List.length_cons, List.length_nil]; omega⟩
        clear hpl hxl
        clear hx hx1
        go_wp2_with (first
          | (refine wpList_of_run rfl (x_cat (x := .tmp 18) (y := .const (.string ⟨#[44]⟩)) (p := p) (q := [44]) rfl rfl rfl HPL.out.1) ?_)
          | (refine wpList_load_mid rfl 24 (.tmp 22) rfl xb (xo + k * 32) rfl (c8 x) _ HR.out Try.underlying24 rfl (size24' H32.out) ?_)
          | (go_at_call 46; refine Calls.mono (refHex_any x H32.out wr) ?_; rintro e w4 ⟨rfl, ha4⟩; have HA4 := show Hid (After wr w4) from ha4; clear ha4)
          | (refine wpList_of_run rfl (x_cat (x := .tmp 19) (y := .tmp 24) (p := p ++ [44]) (q := hexL x) rfl rfl rfl HPL.out.2) ?_; rw [HNX.out]))
        go_roundw
        case rel => exact ⟨k + 1, by omega, by omega, by go_num, ⟨j + 1, by rw [HKJ.out], rfl⟩, After.trans HI.out.aft HA4.out⟩
        case measure => simp [intOf]; omega
      · have hii : ¬ (k : Int) < (n : Int) := by omega
        have HE : Hid (rtx h0 r j = txt (h0 :: r)) := by
          unfold rtx txt Hid
          have h1 := HFA.out.2.1
          rw [List.length_cons] at h1
          have h2 := HKJ.out
          rw [List.take_of_length_le (by omega)]
        rw [HE.out]
        go_wp2
        go_ret
        exact ⟨rfl, HI.out.aft⟩
end Go.Proofs.Ytedghldjpkabmaa
