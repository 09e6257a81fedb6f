/-
  OPERATIONS IN MEMORY; the walks of op.Check, op.Size, op.hasText, op.numbers and the closures that it is handed.
-/
import Derived.Test.YtpplnomomcdemaaFits
import Derived.Test.YtpplnomomcdemaaTexts
import Derived.Test.YtpplnomomcdemaaDeltas
import Derived.Deep.MidRow
namespace Go.Proofs.Ytpplnomomcdemaa
open Go.RowKit Leb
/-- An operation. -/
structure Opn where
  kind : Int
  name : List UInt8
  pos : Int
  by_ : Int
  text : List UInt8
  deriving DecidableEq
structure Opn.Ok (x : Opn) : Prop where
  k0 : -9223372036854775808 ≤ x.kind
  k1 : x.kind ≤ 9223372036854775807
  p0 : -9223372036854775808 ≤ x.pos
  p1 : x.pos ≤ 9223372036854775807
  b0 : -9223372036854775808 ≤ x.by_
  b1 : x.by_ ≤ 9223372036854775807
  nl : x.name.length ≤ maxLen
  tl : x.text.length ≤ maxLen
def mayB (x : Opn) : Bool := nmB x.name && fitsB x.kind x.pos x.by_ x.text.length
abbrev oc (x : Opn) : List Value := [.int .i64 x.kind, .string (strOf x.name), .int .i64 x.pos, .int .i64 x.by_, .string (strOf x.text)]
abbrev opV (x : Opn) : Value := .agg #[.int .i64 x.kind, .string (strOf x.name), .int .i64 x.pos, .int .i64 x.by_, .string (strOf x.text)]
theorem size23 : (Try.prog.info? 23).map (·.size) = some 5 := by kernel_rfl
def OpsAt (w : World) (ao : Option Addr) (l : List Opn) : Prop := l ≠ [] → ∃ b o, ao = some ⟨b, o, none⟩ ∧ ∀ j x, l[j]? = some x → w.rangeAt b (o + j * 5) (oc x)
theorem range_after {w w' : World} {b o : Nat} {cs : List Value} (h : w.rangeAt b o cs) (ha : After w w') : w'.rangeAt b o cs := fun j v hv => (Below.cell ha (p := ⟨b, o + j, none⟩) (World.block_lt_of_cell? w _ (h j v hv))).trans (h j v hv)
theorem OpsAt.after {w w' : World} {ao : Option Addr} {l : List Opn} (h : OpsAt w ao l) (ha : After w w') : OpsAt w' ao l := fun hn => by
  obtain ⟨b, o, e, hc⟩ := h hn
  exact ⟨b, o, e, fun j x hj => range_after (hc j x hj) ha⟩
theorem data_strOf (s : List UInt8) : (strOf s).data.toList = s := by simp [strOf]

def errOf (m : Bool) : Int := if m then 0 else 40
set_option maxRecDepth 100000 in
set_option maxHeartbeats 3200000 in
theorem check_in (k p b : Int) (s t : ByteArray) (hs : s.size ≤ maxLen) (ht : t.size ≤ maxLen) (w : World) : Calls Try.prog 9 #[.agg #[.int .i64 k, .string s, .int .i64 p, .int .i64 b, .string t]] w fun e w' => e = .returned (.int .i64 (errOf (nmB s.data.toList && fitsB k p b t.size))) ∧ After w w' := by
  cases hn : nmB s.data.toList with
  | false =>
    go_enter Try.func9, Try.ntmps9
    go_wp2_with (go_at_call 20; refine Calls.mono (name_one s _ hs) ?_; rintro e w1 ⟨rfl, hw1⟩; rw [hn]; have hw2 := hw1.symm; clear hw1; subst hw2)
    go_ret
    exact ⟨rfl, after_alloc (After.refl w) _⟩
  | true =>
    cases hf : fitsB k p b t.size with
    | false =>
      go_enter Try.func9, Try.ntmps9
      go_wp2_with (first | (go_at_call 20; refine Calls.mono (name_one s _ hs) ?_; rintro e w1 ⟨rfl, hw1⟩; rw [hn]; have hw2 := hw1.symm; clear hw1; subst hw2) | (go_at_call 21; refine Calls.mono (fits_any k p b s t ht _) ?_; rintro e w3 ⟨rfl, ha3⟩; rw [hf]; have HA3 := show Hid (After w w3) from After.trans (after_alloc (After.refl w) _) ha3; clear ha3))
      go_ret
      exact ⟨rfl, HA3.out⟩
    | true =>
      go_enter Try.func9, Try.ntmps9
      go_wp2_with (first | (go_at_call 20; refine Calls.mono (name_one s _ hs) ?_; rintro e w1 ⟨rfl, hw1⟩; rw [hn]; have hw2 := hw1.symm; clear hw1; subst hw2) | (go_at_call 21; refine Calls.mono (fits_any k p b s t ht _) ?_; rintro e w3 ⟨rfl, ha3⟩; rw [hf]; have HA3 := show Hid (After w w3) from After.trans (after_alloc (After.refl w) _) ha3; clear ha3))
      go_ret
      exact ⟨rfl, HA3.out⟩
theorem check_any (x : Opn) (hx : x.Ok) (w : World) : Calls Try.prog 9 #[opV x] w fun e w' => e = .returned (.int .i64 (errOf (mayB x))) ∧ After w w' := by
  have := check_in x.kind x.pos x.by_ (strOf x.name) (strOf x.text) (by rw [strOf_size]; exact hx.nl) (by rw [strOf_size]; exact hx.tl) w
  rw [data_strOf, strOf_size] at this
  exact this

set_option maxRecDepth 100000 in
set_option maxHeartbeats 3200000 in
theorem kindOf (x : Opn) (w : World) : Calls Try.prog 42 #[opV x] w fun e w' => e = .returned (.int .i64 x.kind) ∧ After w w' := by
  obtain ⟨k, nm, p, b, tx⟩ := x
  go_enter Try.func42, Try.ntmps42
  go_wp2
  go_ret
  exact ⟨rfl, after_alloc (After.refl w) _⟩

set_option maxRecDepth 100000 in
set_option maxHeartbeats 3200000 in
theorem posOf (x : Opn) (w : World) : Calls Try.prog 45 #[opV x] w fun e w' => e = .returned (.int .i64 x.pos) ∧ After w w' := by
  obtain ⟨k, nm, p, b, tx⟩ := x
  go_enter Try.func45, Try.ntmps45
  go_wp2
  go_ret
  exact ⟨rfl, after_alloc (After.refl w) _⟩

set_option maxRecDepth 100000 in
set_option maxHeartbeats 3200000 in
theorem byOf (x : Opn) (w : World) : Calls Try.prog 46 #[opV x] w fun e w' => e = .returned (.int .i64 x.by_) ∧ After w w' := by
  obtain ⟨k, nm, p, b, tx⟩ := x
  go_enter Try.func46, Try.ntmps46
  go_wp2
  go_ret
  exact ⟨rfl, after_alloc (After.refl w) _⟩

set_option maxRecDepth 100000 in
set_option maxHeartbeats 3200000 in
theorem hasText_any (k : Int) (w : World) : Calls Try.prog 47 #[.int .i64 k] w fun e w' => e = .returned (.bool (decide (k = 1) || decide (k = 4))) ∧ w' = w := by
  by_cases h1 : k = 1
  · subst h1
    go_enter Try.func47, Try.ntmps47
    go_wp2
    go_ret
    exact ⟨rfl, rfl⟩
  · have q1 : (k == 1) = false := beq_eq_false_iff_ne.2 h1
    by_cases h4 : k = 4
    · subst h4
      go_enter Try.func47, Try.ntmps47
      go_wp2
      go_ret
      exact ⟨rfl, rfl⟩
    · have q4 : (k == 4) = false := beq_eq_false_iff_ne.2 h4
      go_enter Try.func47, Try.ntmps47
      go_wp2
      go_ret
      exact ⟨by simp [h1, h4], rfl⟩
/-- What numbers keeps: the numbers of the first ones, and noughts. -/
def filled (F : Opn → Int) (l : List Opn) (n i : Nat) : List Int := (l.take i).map F ++ List.replicate (n - i) 0
theorem filled_set {F : Opn → Int} {l : List Opn} {n i : Nat} {x : Opn} (hl : l.length = n) (hx : l[i]? = some x) : (filled F l n i).set i (F x) = filled F l n (i + 1) := by
  obtain ⟨hi, _⟩ := List.getElem?_eq_some_iff.1 hx
  have hlen : ((l.take i).map F).length = i := by rw [List.length_map, List.length_take]; omega
  unfold filled
  rw [List.set_append_right _ _ (by omega), hlen, Nat.sub_self, List.take_add_one, hx]
  have : n - i = (n - (i + 1)) + 1 := by omega
  rw [this, List.replicate_succ, List.set_cons_zero]
  simp
theorem filled_all {F : Opn → Int} {l : List Opn} {n : Nat} (hl : l.length = n) : filled F l n n = l.map F := by unfold filled; rw [← hl, List.take_length]; simp
structure NbI (w : World) (F : Opn → Int) (l : List Opn) (g n i : Nat) (wr : World) : Prop where
  own : OwnI wr w.heap.size (.slice (some ⟨g, 0, none⟩) n n) (filled F l n i)
  aft : After w wr

set_option maxRecDepth 100000 in
set_option maxHeartbeats 3200000 in
theorem numbers_any (F : Opn → Int) (K : Nat) (caps : Array Value) (heK : ∀ args w, (callFunc K args).run Try.prog w = .ok (.enter K args) w) (ao : Option Addr) (n ca : Nat) (l : List Opn) (hl : l.length = n) (hn : n ≤ 100000) (w : World) (hA : OpsAt w ao l)
    (hK : ∀ W x, After w W → x ∈ l → Calls Try.prog K (#[opV x] ++ caps) W fun e w' => e = .returned (.int .i64 (F x)) ∧ After W w') :
    Calls Try.prog 41 #[.slice ao n ca, .func (.func K) #[] caps] w fun e w' => ∃ v, e = .returned v ∧ OwnI w' w.heap.size v (l.map F) ∧ After w w' := by
  have HL : Hid (OpsAt w ao l ∧ l.length = n) := ⟨hA, hl⟩
  have HK := show Hid _ from hK
  have hmk := make_ints w n n (Nat.le_refl _) (by omega)
  have HI0 : Hid (NbI w F l w.heap.size n 0 (w.alloc (.cells (ci (List.replicate n 0)).toArray 2))) := ⟨⟨by simp [ci, filled], .inr ⟨w.heap.size, n, _, by simp [filled], Nat.le_refl _, heap_alloc_new w _, by simp [filled], by unfold maxLen; omega, by simp [ci], by simp [ci, filled]⟩⟩, after_alloc (After.refl w) _⟩
  clear hA hl hK
  go_enter Try.func41, Try.ntmps41
  go_wp2_with fail
  obtain ⟨g, hg⟩ : ∃ g, w.heap.size = g := ⟨_, rfl⟩
  have HG : Hid (w.heap.size = g) := hg
  obtain ⟨w1, hw1⟩ : ∃ w1, w.alloc (.cells (ci (List.replicate n 0)).toArray 2) = w1 := ⟨_, rfl⟩
  rw [hw1] at HI0
  rw [hw1]
  have HI1 : Hid (NbI w F l g n 0 w1) := by rw [← hg]; exact HI0.out
  rw [hg]
  clear hw1 hg HI0 hmk
  go_loopw [13] (fun vi wr => ∃ i : Nat, vi = .int .i64 (i : Int) ∧ i ≤ n ∧ Hid (NbI w F l g n i wr)) (fun vi _ => n - (intOf vi).toNat)
  case atStart => exact ⟨0, rfl, Nat.zero_le _, HI1.out⟩
  case round =>
    obtain ⟨i, rfl, hin, HI⟩ := hrel
    by_cases hlt : i < n
    · have hii : (i : Int) < (n : Int) := by omega
      obtain ⟨x, hx⟩ : ∃ x, l[i]? = some x := ⟨_, List.getElem?_eq_getElem (by rw [HL.out.2]; exact hlt)⟩
      have HX : Hid (l[i]? = some x) := hx
      obtain ⟨b, o, hao, hrg⟩ := HL.out.1 (fun e => by rw [e] at hx; simp at hx)
      subst hao
      have HR : Hid (wr.rangeAt b (o + i * 5) (oc x)) := range_after (hrg i x hx) HI.out.aft
      have HM : Hid (x ∈ l) := List.mem_of_getElem? hx
      clear hx hrg
      go_wp2_with (first
        | (refine wpList_load_mid rfl 23 (.tmp 16) rfl b (o + i * 5) rfl (oc x) _ HR.out Try.underlying23 rfl size23 ?_)
        | (go_at_fn K; refine Calls.mono (HK.out _ x (after_alloc HI.out.aft _) HM.out) ?_; rintro e w3 ⟨rfl, ha3⟩; have ho3 := (HI.out.own.keep (fun k hk => (After.trans (after_alloc (After.refl wr) _) ha3).block k (World.ownsRow.lt HI.out.own k hk).2)); have HO3 := show Hid (OwnI w3 _ _ _) from ho3; have hf3 := ho3.frozenAt i; have hc3 := ho3.cellAt i (by simp [filled]; rw [HL.out.2]; omega); rw [Nat.zero_add] at hc3; have HA3 := show Hid (After w w3) from After.trans (after_alloc HI.out.aft _) ha3; clear ha3 ho3))
      go_roundw
      case rel => exact ⟨i + 1, by go_num, by omega, by rw [← filled_set HL.out.2 HX.out]; exact (HO3.out.stored i (F x)).1, Below.setCell HA3.out (p := ⟨g, i, none⟩) (by rw [HG.out]; exact Nat.le_refl _) _⟩
      case measure => simp [intOf]; omega
    · obtain rfl : i = n := by omega
      have hii : ¬ (i : Int) < (i : Int) := by omega
      go_wp2
      go_ret
      exact ⟨_, rfl, by rw [← filled_all HL.out.2]; exact HI.out.own, HI.out.aft⟩
end Go.Proofs.Ytpplnomomcdemaa
