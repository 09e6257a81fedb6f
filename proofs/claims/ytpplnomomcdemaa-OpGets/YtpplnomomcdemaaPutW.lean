/-
  THE WALKS OF op.lay AND op.Put.
-/
import Derived.Test.YtpplnomomcdemaaLayN
namespace Go.Proofs.Ytpplnomomcdemaa
open Go.RowKit Go.Maps Leb
def hasT (x : Opn) : Bool := decide (x.kind = 1) || decide (x.kind = 4)
def textsB (l : List Opn) : List UInt8 := (l.map fun x => if hasT x = true then textB x.text else []).flatten
theorem textsB_succ {l : List Opn} {i : Nat} {x : Opn} (hx : l[i]? = some x) : textsB (l.take (i + 1)) = textsB (l.take i) ++ (if hasT x = true then textB x.text else []) := by
  unfold textsB; rw [List.take_add_one, hx]; simp
theorem textsB_len : ∀ (l : List Opn), (∀ x ∈ l, x.text.length ≤ 2000) → (textsB l).length ≤ l.length * 2010
  | [], _ => by simp [textsB]
  | x :: l, h => by
    have h1 := textB_len x.text (h x (by simp))
    have h2 := textsB_len l (fun z hz => h z (by simp [hz]))
    unfold textsB at h2 ⊢
    rw [List.map_cons, List.flatten_cons, List.length_append, List.length_cons]
    split
    · omega
    · rw [List.length_nil]; omega
def layB (l : List Opn) : List UInt8 := runsB (l.map (·.kind)) ++ layNB l ++ runsB (diffs (l.map (·.pos))) ++ runsB (l.map (·.by_)) ++ textsB l
theorem layNB_len (l : List Opn) (hn : l.length ≤ 256) (h : ∀ x ∈ l, x.name.length ≤ 2000) : (layNB l).length ≤ 40000000 := by
  have h0 := firsts_len l
  have h1 := namesB_len (firsts l) (fun y hy => by obtain ⟨x, hx, rfl⟩ := (mem_firsts _ y).1 hy; exact h x hx)
  have h2 := uintB_len10 (firsts l).length (by omega)
  have h3 := runsB_len (whichs (firsts l) l) (whichs_int _ _ (by omega)) (by rw [whichs, List.length_map]; omega)
  unfold layNB
  rw [List.length_append, List.length_append]
  omega
theorem layNames_k (ao : Option Addr) (n ca : Nat) (l : List Opn) (hl : l.length = n) (hn : n ≤ 256) (hnm : ∀ x ∈ l, x.name.length ≤ 2000) (w : World) (hA : OpsAt w ao l) :
    Calls Try.prog 43 #[.slice ao n ca] w fun e w' => ∃ (o : Option Addr) (k c : Nat), e = .returned (.slice o k c) ∧ BytesAt w' o (layNB l) ∧ (layNB l).length = k ∧ After w w' :=
  (layNames_any ao n ca l hl hn hnm w hA).mono (fun e w' ⟨v, he, ho, ha⟩ => by
    obtain ⟨o, c, hv, hat, _⟩ := Own.sl ho _ rfl
    exact ⟨o, _, c, by rw [he, hv], hat, rfl, ha⟩)
theorem text_k (s : List UInt8) (hs : s.length ≤ 2000) (w : World) : Calls Try.prog 48 #[.string (strOf s)] w fun e w' => ∃ (o : Option Addr) (k c : Nat), e = .returned (.slice o k c) ∧ BytesAt w' o (textB s) ∧ (textB s).length = k ∧ After w w' :=
  (text_any s (by omega) w).mono (fun e w' ⟨v, he, ho, ha⟩ => by
    obtain ⟨o, c, hv, hat, _⟩ := Own.sl ho _ rfl
    exact ⟨o, _, c, by rw [he, hv], hat, rfl, ha⟩)
/-- Operations that may be laid: few, and small. -/
structure Small (l : List Opn) (n : Nat) : Prop where
  len : l.length = n
  few : n ≤ 256
  ok : ∀ x ∈ l, x.Ok
  nm : ∀ x ∈ l, x.name.length ≤ 2000
  tx : ∀ x ∈ l, x.text.length ≤ 2000
structure LyI (w : World) (P : List UInt8) (l : List Opn) (i : Nat) (v : Value) (wr : World) : Prop where
  own : Own wr w.heap.size v (P ++ textsB (l.take i))
  aft : After w wr

set_option maxRecDepth 100000 in
set_option maxHeartbeats 3200000 in
theorem lay_any (ao : Option Addr) (n ca : Nat) (l : List Opn) (hl : Small l n) (w : World) (hA : OpsAt w ao l) :
    Calls Try.prog 23 #[.slice ao n ca] w fun e w' => ∃ v, e = .returned v ∧ Own w' w.heap.size v (layB l) ∧ After w w' := by
  have HL : Hid (OpsAt w ao l ∧ Small l n) := ⟨hA, hl⟩
  have hn := hl.few
  have e42 : ∀ args w, (callFunc 42 args).run Try.prog w = .ok (.enter 42 args) w := enters_of Try.func42 (by kernel_rfl) rfl
  have e45 : ∀ args w, (callFunc 45 args).run Try.prog w = .ok (.enter 45 args) w := enters_of Try.func45 (by kernel_rfl) rfl
  have e46 : ∀ args w, (callFunc 46 args).run Try.prog w = .ok (.enter 46 args) w := enters_of Try.func46 (by kernel_rfl) rfl
  obtain ⟨K, hK⟩ : ∃ K, l.map (·.kind) = K := ⟨_, rfl⟩
  obtain ⟨P, hP⟩ : ∃ P, l.map (·.pos) = P := ⟨_, rfl⟩
  obtain ⟨Y, hY⟩ : ∃ Y, l.map (·.by_) = Y := ⟨_, rfl⟩
  have HK : Hid (l.map (·.kind) = K) := hK
  have HP : Hid (l.map (·.pos) = P) := hP
  have HY : Hid (l.map (·.by_) = Y) := hY
  have HKI : Hid ((∀ z ∈ K, -9223372036854775808 ≤ z ∧ z ≤ 9223372036854775807) ∧ K.length = n ∧ (runsB K).length ≤ 30000000) := by
    have h1 : ∀ z ∈ K, -9223372036854775808 ≤ z ∧ z ≤ 9223372036854775807 := fun z hz => by rw [← hK] at hz; obtain ⟨y, hy, rfl⟩ := List.mem_map.1 hz; exact ⟨(hl.ok y hy).k0, (hl.ok y hy).k1⟩
    have h2 : K.length = n := by rw [← hK, List.length_map]; exact hl.len
    exact ⟨h1, h2, runsB_len _ h1 (by omega)⟩
  have HYI : Hid ((∀ z ∈ Y, -9223372036854775808 ≤ z ∧ z ≤ 9223372036854775807) ∧ Y.length = n ∧ (runsB Y).length ≤ 30000000) := by
    have h1 : ∀ z ∈ Y, -9223372036854775808 ≤ z ∧ z ≤ 9223372036854775807 := fun z hz => by rw [← hY] at hz; obtain ⟨y, hy, rfl⟩ := List.mem_map.1 hz; exact ⟨(hl.ok y hy).b0, (hl.ok y hy).b1⟩
    have h2 : Y.length = n := by rw [← hY, List.length_map]; exact hl.len
    exact ⟨h1, h2, runsB_len _ h1 (by omega)⟩
  have HPI : Hid (P.length = n ∧ (runsB (diffs P)).length ≤ 30000000) := by
    have h2 : P.length = n := by rw [← hP, List.length_map]; exact hl.len
    exact ⟨h2, runsB_len _ (diffs_int P) (by rw [diffs_len]; omega)⟩
  have HNL : Hid ((layNB l).length ≤ 40000000) := layNB_len l (by rw [hl.len]; exact hn) hl.nm
  have HB : Hid (layB l = runsB K ++ layNB l ++ runsB (diffs P) ++ runsB Y ++ textsB l) := by rw [← hK, ← hP, ← hY]; rfl
  clear hA hl hK hP hY
  go_enter Try.func23, Try.ntmps23
  go_wp2_with (first
    | (at_builtin; have _u := H11.out; clear _u; refine wpList_append_any rfl _ _ rfl w.heap.size v8 (runsB K ++ layNB l ++ runsB (diffs P)) rfl (HO8.out.below (After.trans H10.out.2.2 H11.out.2.2) (Nat.le_refl _)) p11 c11 (runsB Y) k11 H11.out.2.1 rfl H11.out.1 (by have h1 := HKI.out.2.2; have h2 := HNL.out; have h3 := HPI.out.2; have h4 := HYI.out.2.2; rw [List.length_append, List.length_append]; omega) (by have h1 := HA8.out.size; have h2 := H10.out.2.2.size; have h3 := H11.out.2.2.size; omega) ?_; intro v12 w12 ho hg; have HO12 := show Hid (Own w12 w.heap.size v12 (runsB K ++ layNB l ++ runsB (diffs P) ++ runsB Y)) from ho; have HA12 := show Hid (After w w12) from after_grown (After.trans HA8.out (After.trans H10.out.2.2 H11.out.2.2)) hg (Nat.le_refl _) (fun j hj => (World.ownsRow.lt HO8.out j hj).1); clear ho hg)
    | (go_at_call 40; have _u := H10.out; clear _u; refine Calls.mono (runs_k p10 c10 n Y HYI.out.1 HYI.out.2.1 (by omega) w10 H10.out.1 H10.out.2.1) ?_; rintro e w11 ⟨p11, k11, c11, rfl, hp, hk, ha⟩; have H11 := show Hid (BytesAt w11 p11 (runsB Y) ∧ (runsB Y).length = k11 ∧ After w10 w11) from ⟨hp, hk, ha⟩; clear hp hk ha)
    | (go_at_call 41; have _u := HO8.out; clear _u; refine Calls.mono (numbers_k (·.by_) Y 46 #[] e46 ao n ca l HY.out HL.out.2.len (by omega) w8 (HL.out.1.after HA8.out) (fun W y hW hy => byOf y W)) ?_; rintro e w10 ⟨p10, c10, rfl, hp, hlt, ha⟩; have H10 := show Hid (IntsAt w10 p10 Y ∧ (∀ a, p10 = some a → a.block < w10.heap.size) ∧ After w8 w10) from ⟨hp, hlt, ha⟩; clear hp hlt ha)
    | (at_builtin; have _u := H7.out; clear _u; refine wpList_append_any rfl _ _ rfl w.heap.size v4 (runsB K ++ layNB l) rfl (HO4.out.below (After.trans H6.out.2.2 H7.out.2.2) (Nat.le_refl _)) p7 c7 (runsB (diffs P)) k7 H7.out.2.1 rfl H7.out.1 (by have h1 := HKI.out.2.2; have h2 := HNL.out; have h3 := HPI.out.2; rw [List.length_append]; omega) (by have h1 := HA4.out.size; have h2 := H6.out.2.2.size; have h3 := H7.out.2.2.size; omega) ?_; intro v8 w8 ho hg; have HO8 := show Hid (Own w8 w.heap.size v8 (runsB K ++ layNB l ++ runsB (diffs P))) from ho; have HA8 := show Hid (After w w8) from after_grown (After.trans HA4.out (After.trans H6.out.2.2 H7.out.2.2)) hg (Nat.le_refl _) (fun j hj => (World.ownsRow.lt HO4.out j hj).1); clear ho hg)
    | (go_at_call 44; refine Calls.mono (deltas_k p6 c6 n P HPI.out.1 (by omega) w6 H6.out.1) ?_; rintro e w7 ⟨p7, k7, c7, rfl, hp, hk, ha⟩; have H7 := show Hid (BytesAt w7 p7 (runsB (diffs P)) ∧ (runsB (diffs P)).length = k7 ∧ After w6 w7) from ⟨hp, hk, ha⟩; clear hp hk ha)
    | (go_at_call 41; have _u := HO4.out; clear _u; refine Calls.mono (numbers_k (·.pos) P 45 #[] e45 ao n ca l HP.out HL.out.2.len (by omega) w4 (HL.out.1.after HA4.out) (fun W y hW hy => posOf y W)) ?_; rintro e w6 ⟨p6, c6, rfl, hp, hlt, ha⟩; have H6 := show Hid (IntsAt w6 p6 P ∧ (∀ a, p6 = some a → a.block < w6.heap.size) ∧ After w4 w6) from ⟨hp, hlt, ha⟩; clear hp hlt ha)
    | (at_builtin; have _u := H3.out; clear _u; refine wpList_append_any rfl _ _ rfl w.heap.size v2 (runsB K) rfl (HO2.out.below H3.out.2.2 (Nat.le_refl _)) p3 c3 (layNB l) k3 H3.out.2.1 rfl H3.out.1 (by have h1 := HKI.out.2.2; have h2 := HNL.out; omega) (by have h1 := HA2.out.size; have h2 := H3.out.2.2.size; omega) ?_; intro v4 w4 ho hg; have HO4 := show Hid (Own w4 w.heap.size v4 (runsB K ++ layNB l)) from ho; have HA4 := show Hid (After w w4) from after_grown (After.trans HA2.out H3.out.2.2) hg (Nat.le_refl _) (fun j hj => (World.ownsRow.lt HO2.out j hj).1); clear ho hg)
    | (go_at_call 43; refine Calls.mono (layNames_k ao n ca l HL.out.2.len hn HL.out.2.nm w2 (HL.out.1.after HA2.out)) ?_; rintro e w3 ⟨p3, k3, c3, rfl, hp, hk, ha⟩; have H3 := show Hid (BytesAt w3 p3 (layNB l) ∧ (layNB l).length = k3 ∧ After w2 w3) from ⟨hp, hk, ha⟩; clear hp hk ha)
    | (go_at_call 40; refine Calls.mono (runs_v p1 c1 n K HKI.out.1 HKI.out.2.1 (by omega) w1 H1.out.1 H1.out.2.1) ?_; rintro e w2 ⟨v2, rfl, ho, ha⟩; have HO2 := show Hid (Own w2 w.heap.size v2 (runsB K)) from ho.mono H1.out.2.2.size; have HA2 := show Hid (After w w2) from After.trans H1.out.2.2 ha; clear ho ha)
    | (go_at_call 41; refine Calls.mono (numbers_k (·.kind) K 42 #[] e42 ao n ca l HK.out HL.out.2.len (by omega) w HL.out.1 (fun W y hW hy => kindOf y W)) ?_; rintro e w1 ⟨p1, c1, rfl, hp, hlt, ha⟩; have H1 := show Hid (IntsAt w1 p1 K ∧ (∀ a, p1 = some a → a.block < w1.heap.size) ∧ After w w1) from ⟨hp, hlt, ha⟩; clear hp hlt ha))
  obtain ⟨Q0, hQ⟩ : ∃ Q0, runsB K ++ layNB l ++ runsB (diffs P) ++ runsB Y = Q0 := ⟨_, rfl⟩
  have HQ : Hid (layB l = Q0 ++ textsB l ∧ Q0.length ≤ 140000000) := by
    refine ⟨by rw [HB.out, hQ], ?_⟩
    rw [← hQ, List.length_append, List.length_append, List.length_append]
    have h1 := HKI.out.2.2; have h2 := HNL.out; have h3 := HPI.out.2; have h4 := HYI.out.2.2
    omega
  have HQ0 : Hid (LyI w Q0 l 0 v12 w12) := ⟨by rw [← hQ]; simpa [textsB] using HO12.out, HA12.out⟩
  clear hQ HO12 HA12 HB HK HP HY HKI HYI HPI HNL HO8 HO4 HO2 HA8 HA4 HA2 H1 H3 H6 H7 H10 H11 e42 e45 e46
  go_loopw [3, 25] (fun vv vi wr => ∃ i : Nat, vi = .int .i64 (i : Int) ∧ i ≤ n ∧ Hid (LyI w Q0 l i vv wr)) (fun _ vi _ => n - (intOf vi).toNat)
  case atStart => exact ⟨0, rfl, Nat.zero_le _, HQ0.out⟩
  case round =>
    obtain ⟨i, rfl, hin, HI⟩ := hrel
    obtain ⟨av, hav⟩ : ∃ av, av = u3 := ⟨_, rfl⟩
    rw [← hav] at HI
    rw [← hav]
    clear hav
    by_cases hlt : i < n
    · have hii : (i : Int) < (n : Int) := by omega
      obtain ⟨x, hx⟩ : ∃ x, l[i]? = some x := ⟨_, List.getElem?_eq_getElem (by rw [HL.out.2.len]; exact hlt)⟩
      have HX : Hid (l[i]? = some x) := hx
      have HXT : Hid (x.text.length ≤ 2000) := HL.out.2.tx x (List.mem_of_getElem? hx)
      obtain ⟨b, o, hao, hrg⟩ := HL.out.1 (fun e => by rw [e] at hx; simp at hx)
      subst hao
      have HR : Hid (wr.rangeAt b (o + i * 5) (oc x)) := range_after (hrg i x hx) HI.out.aft
      have HA2 := show Hid (After wr (wr.alloc (.cells #[.int .i64 x.kind, .string (strOf x.name), .int .i64 x.pos, .int .i64 x.by_, .string (strOf x.text)] 23))) from after_alloc (After.refl wr) _
      clear hx hrg
      cases ht : (decide (x.kind = 1) || decide (x.kind = 4)) with
      | false =>
        have HT : Hid (hasT x = false) := ht
        go_wp2_with (first
          | (refine wpList_load_mid rfl 23 (.tmp 27) rfl b (o + i * 5) rfl [.int .i64 x.kind, .string (strOf x.name), .int .i64 x.pos, .int .i64 x.by_, .string (strOf x.text)] _ HR.out Try.underlying23 rfl size23 ?_)
          | (go_at_call 47; refine Calls.mono (hasText_any x.kind _) ?_; rintro e wq ⟨rfl, hwq⟩; rw [ht]; have hwp := hwq.symm; clear hwq; subst hwp))
        go_roundw
        case rel => exact ⟨i + 1, by go_num, by omega, by rw [textsB_succ HX.out, HT.out]; simpa using HI.out.own.below HA2.out (Nat.le_refl _), After.trans HI.out.aft HA2.out⟩
        case measure => simp [intOf]; omega
      | true =>
        have HT : Hid (hasT x = true) := ht
        have HTL : Hid ((textsB (l.take i)).length ≤ 600000) := by
          have h1 := textsB_len (l.take i) (fun z hz => HL.out.2.tx z (List.mem_of_mem_take hz))
          rw [List.length_take] at h1
          unfold Hid; omega
        go_wp2_with (first
          | (refine wpList_load_mid rfl 23 (.tmp 27) rfl b (o + i * 5) rfl [.int .i64 x.kind, .string (strOf x.name), .int .i64 x.pos, .int .i64 x.by_, .string (strOf x.text)] _ HR.out Try.underlying23 rfl size23 ?_)
          | (go_at_call 47; refine Calls.mono (hasText_any x.kind _) ?_; rintro e wq ⟨rfl, hwq⟩; rw [ht]; have hwp := hwq.symm; clear hwq; subst hwp)
          | (go_at_call 48; refine Calls.mono (text_k x.text HXT.out _) ?_; rintro e w3 ⟨p3, k3, c3, rfl, hp, hk, ha⟩; have H3 := show Hid (BytesAt w3 p3 (textB x.text) ∧ (textB x.text).length = k3 ∧ After wr w3) from ⟨hp, hk, After.trans HA2.out ha⟩; clear hp hk ha)
          | (at_builtin; refine wpList_append_any rfl _ _ rfl w.heap.size av (Q0 ++ textsB (l.take i)) rfl (HI.out.own.below H3.out.2.2 (Nat.le_refl _)) p3 c3 (textB x.text) k3 H3.out.2.1 rfl H3.out.1 (by have h1 := HQ.out.2; have h2 := HTL.out; have h3 := textB_len x.text HXT.out; rw [List.length_append]; omega) (by have h1 := HI.out.aft.size; have h2 := H3.out.2.2.size; omega) ?_; intro v4 w4 ho hg; have HO4 := show Hid (Own w4 w.heap.size v4 (Q0 ++ textsB (l.take i) ++ textB x.text)) from ho; have HA4 := show Hid (After w w4) from after_grown (After.trans HI.out.aft H3.out.2.2) hg (Nat.le_refl _) (fun j hj => (World.ownsRow.lt HI.out.own j hj).1); clear ho hg))
        go_roundw
        case rel => exact ⟨i + 1, by go_num, by omega, by rw [textsB_succ HX.out, HT.out, if_pos rfl, ← List.append_assoc]; exact HO4.out, HA4.out⟩
        case measure => simp [intOf]; omega
    · obtain rfl : i = n := by omega
      have hii : ¬ (i : Int) < (i : Int) := by omega
      go_wp2
      go_ret
      refine ⟨_, rfl, ?_, HI.out.aft⟩
      have h1 := HI.out.own
      rw [← HL.out.2.len, List.take_length] at h1
      rw [HQ.out.1]
      exact h1

/-- What Put answers. -/
def putE (l : List Opn) : Nat := if 256 < l.length then 5 else if l.all mayB = true then 0 else 40
def putBs (l : List Opn) : List UInt8 := if putE l = 0 then layB l else []
theorem may_small {l : List Opn} {n : Nat} (hl : l.length = n) (hn : n ≤ 256) (hok : ∀ x ∈ l, x.Ok) (h : l.all mayB = true) : Small l n := by
  have hm : ∀ x ∈ l, mayB x = true := fun x hx => List.all_eq_true.1 h x hx
  refine ⟨hl, hn, hok, fun x hx => ?_, fun x hx => ?_⟩
  · have h1 := hm x hx
    unfold mayB nmB at h1
    simp only [Bool.and_eq_true, decide_eq_true_eq] at h1
    omega
  · have h1 := hm x hx
    unfold mayB fitsB at h1
    grind
structure PtI (w : World) (l : List Opn) (i : Nat) (wr : World) : Prop where
  may : (l.take i).all mayB = true
  aft : After w wr
set_option maxRecDepth 100000 in
set_option maxHeartbeats 3200000 in
theorem put_any (ao : Option Addr) (n ca : Nat) (l : List Opn) (hl : l.length = n) (hok : ∀ x ∈ l, x.Ok) (hbig : n ≤ 1152921504606846976) (w : World) (hA : OpsAt w ao l) :
    Calls Try.prog 14 #[.slice ao n ca] w fun e w' => ∃ v, e = .returned (.tuple #[v, .int .i64 (putE l : Int)]) ∧ Own w' w.heap.size v (putBs l) ∧ After w w' := by
  have HL : Hid (OpsAt w ao l ∧ l.length = n ∧ ∀ x ∈ l, x.Ok) := ⟨hA, hl, hok⟩
  by_cases hn : n ≤ 256
  · have hnz : ¬ (n : Int) > 256 := by omega
    clear hA hl hok hbig
    go_enter Try.func14, Try.ntmps14
    go_wp2_with fail
    go_loopw [12] (fun vi wr => ∃ i : Nat, vi = .int .i64 (i : Int) ∧ i ≤ n ∧ Hid (PtI w l i wr)) (fun vi _ => n - (intOf vi).toNat)
    case atStart => exact ⟨0, rfl, Nat.zero_le _, by simp, After.refl w⟩
    case round =>
      obtain ⟨i, rfl, hin, HI⟩ := hrel
      by_cases hlt : i < n
      · have hii : (i : Int) < (n : Int) := by omega
        obtain ⟨x, hx⟩ : ∃ x, l[i]? = some x := ⟨_, List.getElem?_eq_getElem (by rw [HL.out.2.1]; exact hlt)⟩
        have HX : Hid (l[i]? = some x) := hx
        have HXO : Hid x.Ok := HL.out.2.2 x (List.mem_of_getElem? hx)
        have HXM : Hid (x ∈ l) := List.mem_of_getElem? hx
        obtain ⟨b, o, hao, hrg⟩ := HL.out.1 (fun e => by rw [e] at hx; simp at hx)
        subst hao
        have HR : Hid (wr.rangeAt b (o + i * 5) (oc x)) := range_after (hrg i x hx) HI.out.aft
        have HA2 := show Hid (After wr (wr.alloc (.cells #[.int .i64 x.kind, .string (strOf x.name), .int .i64 x.pos, .int .i64 x.by_, .string (strOf x.text)] 23))) from after_alloc (After.refl wr) _
        clear hx hrg
        cases hm : mayB x with
        | true =>
          go_wp2_with (first
            | (refine wpList_load_mid rfl 23 (.tmp 14) rfl b (o + i * 5) rfl [.int .i64 x.kind, .string (strOf x.name), .int .i64 x.pos, .int .i64 x.by_, .string (strOf x.text)] _ HR.out Try.underlying23 rfl size23 ?_)
            | (go_at_call 9; refine Calls.mono (check_any x HXO.out _) ?_; rintro e w3 ⟨rfl, ha⟩; rw [hm]; simp only [errOf, if_true]; have HA3 := show Hid (After w w3) from After.trans HI.out.aft (After.trans HA2.out ha); clear ha))
          go_roundw
          case rel => exact ⟨i + 1, by go_num, by omega, by rw [List.take_add_one, HX.out]; simp [HI.out.may, hm], HA3.out⟩
          case measure => simp [intOf]; omega
        | false =>
          have HE : Hid (putE l = 40) := by
            unfold Hid putE
            rw [if_neg (by rw [HL.out.2.1]; omega), if_neg]
            intro h
            rw [List.all_eq_true.1 h x HXM.out] at hm
            cases hm
          have HPB : Hid (putBs l = []) := by unfold Hid putBs; rw [HE.out]; rfl
          go_wp2_with (first
            | (refine wpList_load_mid rfl 23 (.tmp 14) rfl b (o + i * 5) rfl [.int .i64 x.kind, .string (strOf x.name), .int .i64 x.pos, .int .i64 x.by_, .string (strOf x.text)] _ HR.out Try.underlying23 rfl size23 ?_)
            | (go_at_call 9; refine Calls.mono (check_any x HXO.out _) ?_; rintro e w3 ⟨rfl, ha⟩; rw [hm]; simp only [errOf]; have HA3 := show Hid (After w w3) from After.trans HI.out.aft (After.trans HA2.out ha); clear ha))
          go_ret2
          rw [HE.out, HPB.out]
          exact ⟨_, rfl, Own.nil _ _, HA3.out⟩
      · obtain rfl : i = n := by omega
        have hii : ¬ (i : Int) < (i : Int) := by omega
        have HMA : Hid (l.all mayB = true) := by have h1 := HI.out.may; rw [← HL.out.2.1, List.take_length] at h1; exact h1
        have HE : Hid (putE l = 0) := by unfold Hid putE; rw [if_neg (by rw [HL.out.2.1]; omega), if_pos HMA.out]
        have HPB : Hid (putBs l = layB l) := by unfold Hid putBs; rw [HE.out]; rfl
        have HSM : Hid (Small l i) := may_small HL.out.2.1 hn HL.out.2.2 HMA.out
        go_wp2_with (go_at_call 23; refine Calls.mono (lay_any ao i ca l HSM.out wr (HL.out.1.after HI.out.aft)) ?_; rintro e w3 ⟨v3, rfl, ho, ha⟩; have HO3 := show Hid (Own w3 w.heap.size v3 (layB l)) from ho.mono HI.out.aft.size; have HA3 := show Hid (After w w3) from After.trans HI.out.aft ha; clear ho ha)
        go_ret2
        rw [HE.out, HPB.out]
        exact ⟨_, rfl, HO3.out, HA3.out⟩
  · have hnz : (n : Int) > 256 := by omega
    have HE : Hid (putE l = 5) := by unfold Hid putE; rw [if_pos (by rw [hl]; omega)]
    have HPB : Hid (putBs l = []) := by unfold Hid putBs; rw [HE.out]; rfl
    clear hA hl hok hbig
    go_enter Try.func14, Try.ntmps14
    go_wp2
    go_ret2
    rw [HE.out, HPB.out]
    exact ⟨_, rfl, Own.nil _ _, After.refl w⟩
end Go.Proofs.Ytpplnomomcdemaa
