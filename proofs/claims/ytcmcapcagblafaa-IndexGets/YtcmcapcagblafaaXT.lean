/-
  The reference's laid (24) and Put (11).
-/
import Derived.Test.YtcmcapcagblafaaXD
import Derived.Test.YtcmcapcagblafaaRL
namespace Go.Proofs.Ytcmcapcagblafaa
open Go.RowKit Go.Maps Dsk Leb
attribute [local go_sem] Oper.semAt_some
theorem fl_c8 : ∀ l : List UInt8, (l.map fun b => [Value.int .u8 (b.toNat : Int)]).flatten = c8 l
  | [] => rfl
  | x :: l => by
    have h := fl_c8 l
    unfold c8 at h ⊢
    simp only [List.map_cons, List.flatten_cons, List.singleton_append]
    rw [h]
/-- An append to one's own bytes, as a run. -/
theorem OwA.run {w W : World} {v : Value} {bs news : List UInt8} {a : Option Addr} {m c : Nat} (h : OwA w bs v W) (hm : news.length = m) (h0 : 0 < m) (hs : BytesAt W a news) (hb : bs.length + m ≤ 140737488355328) :
    ∃ v' W', (Builtin.append_ #[26, 26] 26 #[v, .slice a m c]).run Try.prog W = .ok v' W' ∧ OwA w (bs ++ news) v' W' ∧ W.grownBy W' v.ownBlock := by
  obtain ⟨b, o, ha, hc⟩ := hs (by intro e; rw [e] at hm; simp at hm; omega)
  have hat : SlAt W 1 a (news.map fun b => [Value.int .u8 (b.toNat : Int)]) := ⟨fun x hx => by obtain ⟨y, _, rfl⟩ := List.mem_map.1 hx; rfl, fun _ => ⟨b, o, ha, fun j u hu => by
    rw [fl_c8] at hu
    have hj := (List.getElem?_eq_some_iff.1 hu).1
    rw [c8_len] at hj
    rw [c8_get _ j hj] at hu
    cases hu
    exact hc j hj⟩⟩
  have hown : OwnL W w.heap.size 5 1 v (bs.map fun b => [Value.int .u8 (b.toNat : Int)]) := ⟨fun x hx => by obtain ⟨y, _, rfl⟩ := List.mem_map.1 hx; rfl, by rw [fl_c8, List.length_map]; exact h.own⟩
  obtain ⟨i, hi, hz⟩ := Option.map_eq_some_iff.1 bytes5
  simp only [Prod.mk.injEq] at hz
  obtain ⟨hz1, hz2, hz3⟩ := hz
  obtain ⟨va, vc, w', r1, r2, r3, _⟩ := run_appL (t := 26) 26 5 1 1 Try.underlying26 hi hz1 hz2 hz3 rfl (by omega) hown (N := news.map fun b => [Value.int .u8 (b.toNat : Int)]) (a := a) (m := m) (c := c) (by rw [List.length_map, hm]) hat (fun x hx u hu => by obtain ⟨y, _, rfl⟩ := List.mem_map.1 hx; rw [List.mem_singleton.1 hu]; rfl) (by rw [List.length_map]; unfold maxLen; omega) (by rw [List.length_map]; omega) h.aft.size (fun e => by rw [List.map_eq_nil_iff] at e; rw [e] at hm; simp at hm; omega)
  refine ⟨_, w', r1, ⟨?_, after_grown h.aft r3 (Nat.le_refl _) (fun k hk => (own_lt h.own hk).1)⟩, r3⟩
  have h9 := r2.2
  rw [← List.map_append, fl_c8, List.length_map, List.length_map] at h9
  unfold Own
  rw [List.length_map]
  exact h9
theorem rtext_sl (s : List UInt8) (k : Nat) (hs : s.length ≤ 140737488351232) (hk : (textB s).length = k) (w : World) :
    Calls Try.prog 50 #[.string (strOf s)] w fun e w' => ∃ ao cap, e = .returned (.slice ao k cap) ∧ BytesAt w' ao (textB s) ∧ After w w' := by
  refine (rtext_any s hs w).mono ?_
  rintro e w' ⟨v, rfl, ho, hb⟩
  obtain ⟨ao, cap, rfl, h1, _⟩ := ho.sl k hk
  exact ⟨ao, cap, rfl, h1, hb⟩
theorem ruint_sl (n k : Nat) (hn : n < 18446744073709551616) (hk : (uintB n).length = k) (w : World) :
    Calls Try.prog 46 #[.int .u64 n] w fun e w' => ∃ ao cap, e = .returned (.slice ao k cap) ∧ BytesAt w' ao (uintB n) ∧ After w w' := by
  refine (ruint_any n hn w).mono ?_
  rintro e w' ⟨v, rfl, ho, hb⟩
  obtain ⟨ao, cap, rfl, h1, _⟩ := ho.sl k hk
  exact ⟨ao, cap, rfl, h1, hb⟩
theorem rput_sl {ao : Option Addr} {ca : Nat} {l : List H} (h32 : All32 l) {n k : Nat} (hl : l.length = n) (hk : (hsB l).length = k) (hbig : n * 32 + 20 ≤ 140737488355328) {w : World} (hA : SlAt w 32 ao (hsL l)) :
    Calls Try.prog 51 #[.slice ao n ca] w fun e w' => ∃ a c, e = .returned (.slice a k c) ∧ BytesAt w' a (hsB l) ∧ After w w' := by
  refine (rput_any ao ca l h32 n hl hbig w (hA.hs h32)).mono ?_
  rintro e w' ⟨v, rfl, ho, ha⟩
  rw [putB_all l hl] at ho
  obtain ⟨a, c, rfl, hb, _⟩ := ho.at
  exact ⟨a, c, by rw [hk], hb, ha⟩
theorem preR_lenT {X : List Rx} {i : Nat} (hk : MOkT X i) (h32 : ∀ r ∈ rsof X, R32 r) (hi : i ≤ 64) (hn : X.length ≤ 64) : (preR (rsof X) i).length ≤ 13000000 := by
  unfold preR
  have h1 := flat_bound (f := rcB) (k := 200000) (l := (rsof X).take i) (fun r hr => by
    obtain ⟨j, hj⟩ := List.getElem?_of_mem hr
    rw [List.getElem?_take] at hj
    split at hj
    · rename_i hji
      unfold rsof at hj
      rw [List.getElem?_map] at hj
      obtain ⟨x, hx, rfl⟩ := Option.map_eq_some_iff.1 hj
      exact rcB_len (hk.1 j x hji hx) (h32 _ (List.mem_map.2 ⟨x, List.mem_of_getElem? hx, rfl⟩))
    · cases hj)
  have h3 := uintB_len10 (rsof X).length (by rw [rsof_len]; omega)
  have h4 : ((rsof X).take i).length ≤ 64 := by rw [List.length_take]; omega
  have h5 : ((rsof X).take i).length * 200000 ≤ 64 * 200000 := Nat.mul_le_mul_right _ h4
  simp only [List.length_cons, List.length_append]
  omega
theorem size82 : (Try.prog.info? 82).map (·.size) = some 1 := by kernel_rfl
theorem one82 (a : Option Addr) (k c : Nat) : (#[Value.slice a k c] : Array Value).all (·.oneCell') = true := by
  simp; rfl
theorem x_al82 {oi : Oper} {a : Act} {w : World} (hop : oi.op = .alloc 82) : (execOp a.eval oi).run Try.prog w = .ok (.value (.pointer (some ⟨w.heap.size, 0, none⟩))) (w.alloc (.cells #[.slice none 0 0] 82)) := by
  have hz : (zeroValue 82).run Try.prog w = .ok (.agg #[.slice none 0 0]) w := by kernel_rfl
  unfold execOp
  simp only [hop]
  simp [go_sem, hz, Value.cells]
theorem x_gtrC {oi : Oper} {a : Act} {w : World} {x : Operand} {k : Nat} {b : Bool} (hop : oi.op = .binOp .gtr 3 x (.const (.int .i64 4096)) 3) (hx : a.eval x = .int .i64 (k : Int)) (hb : decide (4096 < k) = b) : (execOp a.eval oi).run Try.prog w = .ok (.value (.bool b)) w := by
  have hk : a.eval (.const (.int .i64 4096)) = .int .i64 4096 := rfl
  unfold execOp
  simp only [hop, hx, hk]
  subst hb
  by_cases h : 4096 < k
  · have : (4096 : Int) < (k : Int) := by omega
    simp [go_sem, h, this]
  · have : ¬ (4096 : Int) < (k : Int) := by omega
    simp [go_sem, h, this]
theorem x_cv59 {oi : Oper} {a : Act} {w : World} {x : Operand} {k : Nat} (hk : k < 9223372036854775808) (hop : oi.op = .convert 3 59 x) (hx : a.eval x = .int .i64 (k : Int)) : (execOp a.eval oi).run Try.prog w = .ok (.value (.int .u64 (k : Int))) w := by
  have hc : (convert 3 59 (.int .i64 (k : Int))).run Try.prog w = .ok (.int .u64 (IntKind.wrap .u64 (k : Int))) w := by kernel_rfl
  have hw : IntKind.wrap .u64 (k : Int) = (k : Int) := by simp [IntKind.wrap, IntKind.bits, IntKind.signed]; omega
  unfold execOp
  simp [hop, hx, hc, hw]
set_option maxRecDepth 100000 in
set_option maxHeartbeats 51200000 in
theorem rlaid24 {la : Option Addr} {ca n : Nat} {X : List Rx} (hl : X.length = n) (hn : n < 4611686018427387904) {w : World} (hA : RsAt w la X) : Calls Try.prog 24 #[.slice la n ca] w (PutT (rsof X) w) := by
  have HL : Hid (RsAt w la X ∧ X.length = n) := ⟨hA, hl⟩
  clear hA hl
  by_cases h64 : n ≤ 64
  · have h64' : ¬ (64 : Int) < (n : Int) := by omega
    have HP0 : Hid ([1] ++ uintB n = preR (rsof X) 0) := by unfold preR Hid; rw [rsof_len, HL.out.2]; simp
    obtain ⟨k0, hk0⟩ : ∃ k0, (uintB n).length = k0 := ⟨_, rfl⟩
    have hk10 : k0 ≤ 10 := by rw [← hk0]; exact uintB_len10 n (by omega)
    have HU : Hid (∀ W : World, Calls Try.prog 46 #[.int .u64 (n : Int)] W fun e w' => ∃ a c, e = .returned (.slice a k0 c) ∧ BytesAt w' a (uintB n) ∧ After W w') := fun W => ruint_sl n k0 (by omega) hk0 W
    have HK0 : Hid ((uintB n).length = k0) := hk0
    have hn63 : n < 9223372036854775808 := by omega
    clear hk0
    go_enter Try.func24, Try.ntmps24
    go_wp2_with (first
      | (refine wpList_of_run rfl (x_bs26 rfl) ?_
         obtain ⟨v1, hv1⟩ : ∃ v1 : Value, (.slice (some ⟨w.heap.size, 0, none⟩) 1 1 : Value) = v1 := ⟨_, rfl⟩
         obtain ⟨w1, hw1⟩ : ∃ w1, w.alloc (.cells #[.int .u8 1] 5) = w1 := ⟨_, rfl⟩
         have HO1 : Hid (OwA w [1] v1 w1) := by rw [← hv1, ← hw1]; exact owa_one w
         rw [hv1, hw1]; clear hv1 hw1)
      | (go_at_call 46; refine Calls.mono (HU.out _) ?_; rintro e w2 ⟨a2, c2, rfl, hb2, ha2⟩; have H2 : Hid (BytesAt w2 a2 (uintB n) ∧ OwA w [1] v1 w2) := ⟨hb2, HO1.out.more ha2⟩; clear hb2 ha2)
      | (at_builtin; refine wpList_append_any rfl (.tmp 13) (.tmp 17) rfl w.heap.size v1 [1] rfl H2.out.2.own a2 c2 (uintB n) k0 HK0.out rfl H2.out.1 (by have := HK0.out; simp only [List.length_cons, List.length_nil]; omega) H2.out.2.aft.size ?_
         intro v3 w3 ho3 hg3
         have H3 : Hid (OwA w (preR (rsof X) 0) v3 w3) := H2.out.2.app (by rw [← HP0.out]; exact ho3) hg3
         clear ho3 hg3))
    go_loopw [4, 5] (fun v iv wr => ∃ i : Nat, i ≤ n ∧ iv = .int .i64 (i : Int) ∧ Hid (OwA w (preR (rsof X) i) v wr ∧ MOkT X i)) (fun _ iv _ => n - (intOf iv).toNat)
    case atStart => exact ⟨0, Nat.zero_le _, rfl, H3.out, MOkT.zero X⟩
    case round =>
      obtain ⟨i, hin, rfl, HP⟩ := hrel
      obtain ⟨v, rfl⟩ : ∃ v, v = u4 := ⟨_, rfl⟩
      by_cases hlt : i < n
      · have hii : (i : Int) < (n : Int) := by omega
        have HLT : Hid (i < n) := hlt
        obtain ⟨x, hx⟩ : ∃ x, X[i]? = some x := ⟨_, List.getElem?_eq_getElem (by rw [HL.out.2]; exact hlt)⟩
        have hxb := HL.out.1.each x (List.mem_of_getElem? hx)
        obtain ⟨xb, xo, hla, hlr⟩ := HL.out.1.sl.at (rs_get hx)
        subst hla
        have HX : Hid (wr.rangeAt xb (xo + i * 3) (rxc x)) := range_after hlr HP.out.1.aft
        obtain ⟨k, hk⟩ : ∃ k, x.X.length = k := ⟨_, rfl⟩
        obtain ⟨p, hp⟩ : ∃ p, x.l.length = p := ⟨_, rfl⟩
        obtain ⟨w2, hw2⟩ : ∃ w2, (wr.alloc (.cells (rxc zrx).toArray 41)).setRow wr.heap.size (rxc x).toArray = w2 := ⟨_, rfl⟩
        have hbb := put41 hw2
        obtain ⟨gb, hgb⟩ : ∃ gb, wr.heap.size = gb := ⟨_, rfl⟩
        have HB := show Hid _ from hbb
        have HGW := show Hid _ from hw2
        rw [hgb] at HB HGW
        have HGA := show Hid (wr.heap.size = gb) from hgb
        have hb' := HB.out.2.1
        unfold rxc at hb'
        rw [hk, hp] at hb'
        have HBR : Hid (RowIs w2 gb 41 [.string (strOf x.nm), .slice x.ba k x.bc, .slice x.a p x.c]) := hb'
        have HI2 : Hid (OwA w (preR (rsof X) i) v w2) := HP.out.1.more HB.out.2.2
        have HXA : Hid (RxAt w x ∧ x.X.length = k ∧ x.l.length = p ∧ X[i]? = some x) := ⟨hxb, hk, hp, hx⟩
        have HPI : Hid ((preR (rsof X) i).length ≤ 13000000) := preR_lenT HP.out.2 HL.out.1.r32 (by omega) (by rw [HL.out.2]; exact h64)
        have hsz : (strOf x.nm).size ≤ maxLen := by rw [strOf_size]; exact hxb.nmf
        have HNM0 : Hid (∀ W : World, Calls Try.prog 48 #[.string (strOf x.nm)] W fun e w' => e = .returned (.bool (nmB x.nm)) ∧ w' = W) := fun W => by
          have h1 := refName_one (strOf x.nm) W hsz
          rw [strOf_data] at h1
          exact h1
        have HUP0 : Hid (∀ W : World, After w W → Calls Try.prog 49 #[.slice x.a p x.c] W fun e w' => e = .returned (.bool (upB x.l)) ∧ After W w') := fun W hW => rising44 (ca := x.c) hxb.l32 hp (by have := hxb.fitC; rw [hp] at this; omega) (hxb.sl.after hW)
        have HLD : Hid (Calls Try.prog 47 #[.slice x.ba k x.bc] w2 fun e w' => (LOk (bof x.X) ∧ ∃ a c Z, e = .returned (.tuple #[.agg #[.slice a k c], .int .i64 0]) ∧ OwnB w' w2.heap.size (.slice a k c) Z ∧ bof Z = bof x.X ∧ After w2 w') ∨ (¬ LOk (bof x.X) ∧ e = .returned (.tuple #[.agg #[.slice none 0 0], .int .i64 4]) ∧ After w2 w')) := rload18 (ca := x.bc) hk hxb.bnm (hxb.bs.after HI2.out.aft)
        have d1 := HBR.out.cell (j := 1) rfl
        clear hx hxb hlr hk hp hw2 hbb hgb hb' hsz
        by_cases hN : nmB x.nm = true
        · have HNM : Hid (∀ W : World, Calls Try.prog 48 #[.string (strOf x.nm)] W fun e w' => e = .returned (.bool true) ∧ w' = W) := fun W => by have := HNM0.out W; rw [hN] at this; exact this
          have HNT : Hid (nmB x.nm = true) := hN
          clear hN
          by_cases hi0 : i = 0
          · have HI0 : Hid (decide (0 < i) = false) := by rw [hi0]; exact (rfl : decide (0 < 0) = false)
            have HBO : Hid (∀ y, i ≠ 0 → X[i - 1]? = some y → bytesBefore y.nm x.nm = true) := fun y h => absurd hi0 h
            clear hi0
            by_cases hLK : LOk (bof x.X)
            · have HLK : Hid (LOk (bof x.X)) := hLK
              clear hLK
              have HLY : Hid (Calls Try.prog 47 #[.slice x.ba k x.bc] w2 fun e w' => ∃ a c, e = .returned (.tuple #[.agg #[.slice a k c], .int .i64 0]) ∧ After w2 w') := HLD.out.mono (fun e w' h => by
                rcases h with ⟨_, a, c, Z, he, _, _, h9⟩ | ⟨h1, _⟩
                · exact ⟨a, c, he, h9⟩
                · exact absurd HLK.out h1)
              go_wp2_with (first
                | (refine wpList_of_run rfl (x_ix22 (x := .tmp 25) (y := .tmp 26) (b := xb) (f := xo) (n := n) (c := ca) (i := i) rfl (by kernel_rfl) (by kernel_rfl) HLT.out) ?_)
                | (refine wpList_of_run rfl (x_ld41 (x := .tmp 27) (g := xb) (p := xo + i * 3) (y := x) rfl (by kernel_rfl) HX.out) ?_)
                | (refine wpList_of_run rfl (x_al41 rfl) ?_; rw [HGA.out])
                | (refine wpList_store_row rfl 41 (.tmp 6) (.tmp 28) rfl gb (rxc x).toArray (by kernel_rfl) (by kernel_rfl) 41 _ HB.out.1 (size41 x) rfl (by simpa using rs_one [x] (rxc x) (by simp [rsL])) ?_; rw [HGW.out])
                | (refine wpList_of_run rfl (x_al82 rfl) ?_; rw [HG3.out])
                | (go_at_call 47; refine Calls.mono HLY.out ?_; rintro e w3 ⟨a3, c3, rfl, ha3⟩
                   obtain ⟨g3, hg3⟩ : ∃ g3, w3.heap.size = g3 := ⟨_, rfl⟩
                   obtain ⟨w5, hw5⟩ : ∃ w5, (w3.alloc (.cells #[.slice none 0 0] 82)).setRow g3 #[.slice a3 k c3] = w5 := ⟨_, rfl⟩
                   have hrn : RowIs (w3.alloc (.cells #[.slice none 0 0] 82)) g3 82 [.slice none 0 0] := by rw [← hg3]; exact RowIs.new w3 82 _
                   have H5 : Hid (OwA w (preR (rsof X) i) v w5 ∧ RowIs w5 gb 41 [.string (strOf x.nm), .slice x.ba k x.bc, .slice x.a p x.c]) := by
                     have hA5 : After w2 w5 := by rw [← hw5, ← hg3]; exact ha3.trans (Below.row (after_alloc (After.refl w3) _) (Nat.le_refl _) _)
                     exact ⟨HI2.out.more hA5, HBR.out.below hA5 HBR.out.lt⟩
                   have HRN82 : Hid (RowIs (w3.alloc (.cells #[.slice none 0 0] 82)) g3 82 [.slice none 0 0]) := hrn
                   have HW5 : Hid ((w3.alloc (.cells #[.slice none 0 0] 82)).setRow g3 #[.slice a3 k c3] = w5) := hw5
                   have HG3 : Hid (w3.heap.size = g3) := hg3
                   clear ha3 hrn hw5 hg3)
                | (refine wpList_store_row rfl 82 (.tmp 7) (.tmp 33) rfl g3 #[.slice a3 k c3] rfl rfl 82 _ HRN82.out size82 rfl (one82 _ _ _) ?_; rw [HW5.out]))
              have HS9 : Hid (After w w5 ∧ RowIs w5 gb 41 [.string (strOf x.nm), .slice x.ba k x.bc, .slice x.a p x.c]) := ⟨H5.out.1.aft, H5.out.2⟩
              by_cases hF : 4096 < p
              · have HFW : Hid (decide (4096 < p) = true) := decide_eq_true hF
                have HBAD : Hid (¬ MOk (rsof X)) := fun hk => by have h9 := (hk.at' HXA.out.2.2.2).few; rw [show (rof x).2.2.length = p from HXA.out.2.2.1] at h9; have := of_decide_eq_true HFW.out; omega
                clear hF
                refine wp_region_noPanic ?_
                refine wp_region_held_drew (S := fun W => After w W ∧ RowIs W gb 41 [.string (strOf x.nm), .slice x.ba k x.bc, .slice x.a p x.c]) (by kernel_rfl) (⟨HS9.out.1.drew, HS9.out.2⟩) ?_
                intro hS0
                refine tk 0 35 (.pointer (some ⟨gb, 0, none⟩)) (fuel := 34) rfl (by kernel_rfl) (by kernel_rfl) (by kernel_rfl) (by kernel_rfl) noPanic_false (by kernel_rfl) (fun _ _ => by kernel_rfl) hS0 ?_
                refine tk 1 36 (.string (strOf x.nm)) (fuel := 33) rfl (by kernel_rfl) (by kernel_rfl) (by kernel_rfl) (by kernel_rfl) noPanic_false (by kernel_rfl) (fun W hW => x_loadT (x := .tmp 35) (t := 9) (g := gb) (j := 0) Try.underlying9 rfl (by kernel_rfl) (by kernel_rfl) (hW.2.cell (j := 0) rfl)) hS0 ?_
                refine tkCallZ 2 37 48 #[.string (strOf x.nm)] (fun v w' => v = .bool true ∧ w' = w5.drew) (fuel := 32) rfl (by kernel_rfl) (by kernel_rfl) (by kernel_rfl) (fun _ => by kernel_rfl) ((HNM.out w5.drew).mono (fun e w' ⟨he, h⟩ => ⟨_, he, rfl, h⟩)) ?_
                intro v1 w9 ⟨hv1, hw9⟩
                subst hv1
                subst hw9
                refine ⟨hS0, ?_⟩
                refine tk 3 38 (.bool false) (fuel := 31) rfl (by kernel_rfl) (by kernel_rfl) (by kernel_rfl) (by kernel_rfl) noPanic_false (by kernel_rfl) (fun _ _ => by kernel_rfl) hS0 ?_
                refine tk 4 39 (.bool false) (fuel := 30) rfl (by kernel_rfl) (by kernel_rfl) (by kernel_rfl) (by kernel_rfl) noPanic_false (by kernel_rfl) (fun _ _ => by kernel_rfl) hS0 ?_
                refine tk 5 40 (.int .i64 (i : Int)) (fuel := 29) rfl (by kernel_rfl) (by kernel_rfl) (by kernel_rfl) (by kernel_rfl) noPanic_false (by kernel_rfl) (fun _ _ => by kernel_rfl) hS0 ?_
                refine tk 6 41 (.bool false) (fuel := 28) rfl (by kernel_rfl) (by kernel_rfl) (by kernel_rfl) (by kernel_rfl) noPanic_false (by kernel_rfl) (fun W _ => (x_gtr0 (x := .tmp 40) (k := i) (by kernel_rfl) (by kernel_rfl)).trans (by rw [HI0.out])) hS0 ?_
                refine tk 7 42 (.bool false) (fuel := 27) rfl (by kernel_rfl) (by kernel_rfl) (by kernel_rfl) (by kernel_rfl) noPanic_false (by kernel_rfl) (fun _ _ => by kernel_rfl) hS0 ?_
                refine tkSkip 8 43 (fuel := 26) rfl (by kernel_rfl) (by kernel_rfl) (by kernel_rfl) (by kernel_rfl) noPanic_false (by kernel_rfl) hS0 ?_
                refine tkSkip 9 44 (fuel := 25) rfl (by kernel_rfl) (by kernel_rfl) (by kernel_rfl) (by kernel_rfl) noPanic_false (by kernel_rfl) hS0 ?_
                refine tkSkip 10 45 (fuel := 24) rfl (by kernel_rfl) (by kernel_rfl) (by kernel_rfl) (by kernel_rfl) noPanic_false (by kernel_rfl) hS0 ?_
                refine tkSkip 11 46 (fuel := 23) rfl (by kernel_rfl) (by kernel_rfl) (by kernel_rfl) (by kernel_rfl) noPanic_false (by kernel_rfl) hS0 ?_
                refine tkSkip 12 47 (fuel := 22) rfl (by kernel_rfl) (by kernel_rfl) (by kernel_rfl) (by kernel_rfl) noPanic_false (by kernel_rfl) hS0 ?_
                refine tkSkip 13 48 (fuel := 21) rfl (by kernel_rfl) (by kernel_rfl) (by kernel_rfl) (by kernel_rfl) noPanic_false (by kernel_rfl) hS0 ?_
                refine tkSkip 14 49 (fuel := 20) rfl (by kernel_rfl) (by kernel_rfl) (by kernel_rfl) (by kernel_rfl) noPanic_false (by kernel_rfl) hS0 ?_
                refine tkSkip 15 50 (fuel := 19) rfl (by kernel_rfl) (by kernel_rfl) (by kernel_rfl) (by kernel_rfl) noPanic_false (by kernel_rfl) hS0 ?_
                refine tkSkip 16 51 (fuel := 18) rfl (by kernel_rfl) (by kernel_rfl) (by kernel_rfl) (by kernel_rfl) noPanic_false (by kernel_rfl) hS0 ?_
                refine tk 17 52 (.bool false) (fuel := 17) rfl (by kernel_rfl) (by kernel_rfl) (by kernel_rfl) (by kernel_rfl) noPanic_false (by kernel_rfl) (fun _ _ => by kernel_rfl) hS0 ?_
                refine tk 18 53 (.bool false) (fuel := 16) rfl (by kernel_rfl) (by kernel_rfl) (by kernel_rfl) (by kernel_rfl) noPanic_false (by kernel_rfl) (fun _ _ => by kernel_rfl) hS0 ?_
                refine tk 19 54 (.bool false) (fuel := 15) rfl (by kernel_rfl) (by kernel_rfl) (by kernel_rfl) (by kernel_rfl) noPanic_false (by kernel_rfl) (fun _ _ => by kernel_rfl) hS0 ?_
                refine tk 20 55 (.int .i64 0) (fuel := 14) rfl (by kernel_rfl) (by kernel_rfl) (by kernel_rfl) (by kernel_rfl) noPanic_false (by kernel_rfl) (fun _ _ => by kernel_rfl) hS0 ?_
                refine tk 21 56 (.bool false) (fuel := 13) rfl (by kernel_rfl) (by kernel_rfl) (by kernel_rfl) (by kernel_rfl) noPanic_false (by kernel_rfl) (fun _ _ => by kernel_rfl) hS0 ?_
                refine tk 22 57 (.bool false) (fuel := 12) rfl (by kernel_rfl) (by kernel_rfl) (by kernel_rfl) (by kernel_rfl) noPanic_false (by kernel_rfl) (fun _ _ => by kernel_rfl) hS0 ?_
                refine tk 23 58 (.bool false) (fuel := 11) rfl (by kernel_rfl) (by kernel_rfl) (by kernel_rfl) (by kernel_rfl) noPanic_false (by kernel_rfl) (fun _ _ => by kernel_rfl) hS0 ?_
                refine tk 24 59 (.pointer (some ⟨gb, 2, none⟩)) (fuel := 10) rfl (by kernel_rfl) (by kernel_rfl) (by kernel_rfl) (by kernel_rfl) noPanic_false (by kernel_rfl) (fun _ _ => by kernel_rfl) hS0 ?_
                refine tk 25 60 (.slice x.a p x.c) (fuel := 9) rfl (by kernel_rfl) (by kernel_rfl) (by kernel_rfl) (by kernel_rfl) noPanic_false (by kernel_rfl) (fun W hW => x_loadT (x := .tmp 59) (t := 39) (g := gb) (j := 2) Try.underlying39 rfl (by kernel_rfl) (by kernel_rfl) (hW.2.cell (j := 2) rfl)) hS0 ?_
                refine tk 26 61 (.int .i64 (p : Int)) (fuel := 8) rfl (by kernel_rfl) (by kernel_rfl) (by kernel_rfl) (by kernel_rfl) noPanic_false (by kernel_rfl) (fun _ _ => by kernel_rfl) hS0 ?_
                refine tk 27 62 (.bool true) (fuel := 7) rfl (by kernel_rfl) (by kernel_rfl) (by kernel_rfl) (by kernel_rfl) noPanic_false (by kernel_rfl) (fun W _ => x_gtrC (x := .tmp 61) (k := p) (by kernel_rfl) (by kernel_rfl) HFW.out) hS0 ?_
                refine tk 28 63 (.bool true) (fuel := 6) rfl (by kernel_rfl) (by kernel_rfl) (by kernel_rfl) (by kernel_rfl) noPanic_false (by kernel_rfl) (fun _ _ => by kernel_rfl) hS0 ?_
                refine tk 29 64 (.bool true) (fuel := 5) rfl (by kernel_rfl) (by kernel_rfl) (by kernel_rfl) (by kernel_rfl) noPanic_false (by kernel_rfl) (fun _ _ => by kernel_rfl) hS0 ?_
                refine tkSkip 30 65 (fuel := 4) rfl (by kernel_rfl) (by kernel_rfl) (by kernel_rfl) (by kernel_rfl) noPanic_false (by kernel_rfl) hS0 ?_
                refine tkSkip 31 66 (fuel := 3) rfl (by kernel_rfl) (by kernel_rfl) (by kernel_rfl) (by kernel_rfl) noPanic_false (by kernel_rfl) hS0 ?_
                refine tkSkip 32 67 (fuel := 2) rfl (by kernel_rfl) (by kernel_rfl) (by kernel_rfl) (by kernel_rfl) noPanic_false (by kernel_rfl) hS0 ?_
                refine tkSkip 33 68 (fuel := 1) rfl (by kernel_rfl) (by kernel_rfl) (by kernel_rfl) (by kernel_rfl) noPanic_false (by kernel_rfl) hS0 ?_
                refine tk 34 69 (.bool true) (fuel := 0) rfl (by kernel_rfl) (by kernel_rfl) (by kernel_rfl) (by kernel_rfl) noPanic_false (by kernel_rfl) (fun _ _ => by kernel_rfl) hS0 ?_
                refine wpAnyH_done (by kernel_rfl) (NoPanic.normal ?_) _
                have HFI : Hid (After w _) := hS0.1
                clear hS0
                go_simp
                go_wp2
                refine bodyPost_ret (v := .tuple #[.slice none 0 0, .int .i64 4]) (by simp [results, Try.results24, go_sem]) rfl ⟨HFI.out, .inr ⟨by rw [putE_form HBAD.out]; decide, by rw [putE_form HBAD.out]; rfl⟩⟩
              · have HFW : Hid (decide (4096 < p) = false) := decide_eq_false hF
                clear hF
                by_cases hU : upB x.l = true
                · have HUP : Hid (∀ W : World, After w W → Calls Try.prog 49 #[.slice x.a p x.c] W fun e w' => e = .returned (.bool true) ∧ After W w') := fun W hW => by have := HUP0.out W hW; rw [hU] at this; exact this
                  have HG : Hid (nmB x.nm = true ∧ upB x.l = true ∧ LOk (bof x.X)) := ⟨HNT.out, hU, HLK.out⟩
                  clear hU
                  refine wp_region_noPanic ?_
                  refine wp_region_held_drew (S := fun W => After w W ∧ RowIs W gb 41 [.string (strOf x.nm), .slice x.ba k x.bc, .slice x.a p x.c]) (by kernel_rfl) (⟨HS9.out.1.drew, HS9.out.2⟩) ?_
                  intro hS0
                  refine tk 0 35 (.pointer (some ⟨gb, 0, none⟩)) (fuel := 34) rfl (by kernel_rfl) (by kernel_rfl) (by kernel_rfl) (by kernel_rfl) noPanic_false (by kernel_rfl) (fun _ _ => by kernel_rfl) hS0 ?_
                  refine tk 1 36 (.string (strOf x.nm)) (fuel := 33) rfl (by kernel_rfl) (by kernel_rfl) (by kernel_rfl) (by kernel_rfl) noPanic_false (by kernel_rfl) (fun W hW => x_loadT (x := .tmp 35) (t := 9) (g := gb) (j := 0) Try.underlying9 rfl (by kernel_rfl) (by kernel_rfl) (hW.2.cell (j := 0) rfl)) hS0 ?_
                  refine tkCallZ 2 37 48 #[.string (strOf x.nm)] (fun v w' => v = .bool true ∧ w' = w5.drew) (fuel := 32) rfl (by kernel_rfl) (by kernel_rfl) (by kernel_rfl) (fun _ => by kernel_rfl) ((HNM.out w5.drew).mono (fun e w' ⟨he, h⟩ => ⟨_, he, rfl, h⟩)) ?_
                  intro v1 w9 ⟨hv1, hw9⟩
                  subst hv1
                  subst hw9
                  refine ⟨hS0, ?_⟩
                  refine tk 3 38 (.bool false) (fuel := 31) rfl (by kernel_rfl) (by kernel_rfl) (by kernel_rfl) (by kernel_rfl) noPanic_false (by kernel_rfl) (fun _ _ => by kernel_rfl) hS0 ?_
                  refine tk 4 39 (.bool false) (fuel := 30) rfl (by kernel_rfl) (by kernel_rfl) (by kernel_rfl) (by kernel_rfl) noPanic_false (by kernel_rfl) (fun _ _ => by kernel_rfl) hS0 ?_
                  refine tk 5 40 (.int .i64 (i : Int)) (fuel := 29) rfl (by kernel_rfl) (by kernel_rfl) (by kernel_rfl) (by kernel_rfl) noPanic_false (by kernel_rfl) (fun _ _ => by kernel_rfl) hS0 ?_
                  refine tk 6 41 (.bool false) (fuel := 28) rfl (by kernel_rfl) (by kernel_rfl) (by kernel_rfl) (by kernel_rfl) noPanic_false (by kernel_rfl) (fun W _ => (x_gtr0 (x := .tmp 40) (k := i) (by kernel_rfl) (by kernel_rfl)).trans (by rw [HI0.out])) hS0 ?_
                  refine tk 7 42 (.bool false) (fuel := 27) rfl (by kernel_rfl) (by kernel_rfl) (by kernel_rfl) (by kernel_rfl) noPanic_false (by kernel_rfl) (fun _ _ => by kernel_rfl) hS0 ?_
                  refine tkSkip 8 43 (fuel := 26) rfl (by kernel_rfl) (by kernel_rfl) (by kernel_rfl) (by kernel_rfl) noPanic_false (by kernel_rfl) hS0 ?_
                  refine tkSkip 9 44 (fuel := 25) rfl (by kernel_rfl) (by kernel_rfl) (by kernel_rfl) (by kernel_rfl) noPanic_false (by kernel_rfl) hS0 ?_
                  refine tkSkip 10 45 (fuel := 24) rfl (by kernel_rfl) (by kernel_rfl) (by kernel_rfl) (by kernel_rfl) noPanic_false (by kernel_rfl) hS0 ?_
                  refine tkSkip 11 46 (fuel := 23) rfl (by kernel_rfl) (by kernel_rfl) (by kernel_rfl) (by kernel_rfl) noPanic_false (by kernel_rfl) hS0 ?_
                  refine tkSkip 12 47 (fuel := 22) rfl (by kernel_rfl) (by kernel_rfl) (by kernel_rfl) (by kernel_rfl) noPanic_false (by kernel_rfl) hS0 ?_
                  refine tkSkip 13 48 (fuel := 21) rfl (by kernel_rfl) (by kernel_rfl) (by kernel_rfl) (by kernel_rfl) noPanic_false (by kernel_rfl) hS0 ?_
                  refine tkSkip 14 49 (fuel := 20) rfl (by kernel_rfl) (by kernel_rfl) (by kernel_rfl) (by kernel_rfl) noPanic_false (by kernel_rfl) hS0 ?_
                  refine tkSkip 15 50 (fuel := 19) rfl (by kernel_rfl) (by kernel_rfl) (by kernel_rfl) (by kernel_rfl) noPanic_false (by kernel_rfl) hS0 ?_
                  refine tkSkip 16 51 (fuel := 18) rfl (by kernel_rfl) (by kernel_rfl) (by kernel_rfl) (by kernel_rfl) noPanic_false (by kernel_rfl) hS0 ?_
                  refine tk 17 52 (.bool false) (fuel := 17) rfl (by kernel_rfl) (by kernel_rfl) (by kernel_rfl) (by kernel_rfl) noPanic_false (by kernel_rfl) (fun _ _ => by kernel_rfl) hS0 ?_
                  refine tk 18 53 (.bool false) (fuel := 16) rfl (by kernel_rfl) (by kernel_rfl) (by kernel_rfl) (by kernel_rfl) noPanic_false (by kernel_rfl) (fun _ _ => by kernel_rfl) hS0 ?_
                  refine tk 19 54 (.bool false) (fuel := 15) rfl (by kernel_rfl) (by kernel_rfl) (by kernel_rfl) (by kernel_rfl) noPanic_false (by kernel_rfl) (fun _ _ => by kernel_rfl) hS0 ?_
                  refine tk 20 55 (.int .i64 0) (fuel := 14) rfl (by kernel_rfl) (by kernel_rfl) (by kernel_rfl) (by kernel_rfl) noPanic_false (by kernel_rfl) (fun _ _ => by kernel_rfl) hS0 ?_
                  refine tk 21 56 (.bool false) (fuel := 13) rfl (by kernel_rfl) (by kernel_rfl) (by kernel_rfl) (by kernel_rfl) noPanic_false (by kernel_rfl) (fun _ _ => by kernel_rfl) hS0 ?_
                  refine tk 22 57 (.bool false) (fuel := 12) rfl (by kernel_rfl) (by kernel_rfl) (by kernel_rfl) (by kernel_rfl) noPanic_false (by kernel_rfl) (fun _ _ => by kernel_rfl) hS0 ?_
                  refine tk 23 58 (.bool false) (fuel := 11) rfl (by kernel_rfl) (by kernel_rfl) (by kernel_rfl) (by kernel_rfl) noPanic_false (by kernel_rfl) (fun _ _ => by kernel_rfl) hS0 ?_
                  refine tk 24 59 (.pointer (some ⟨gb, 2, none⟩)) (fuel := 10) rfl (by kernel_rfl) (by kernel_rfl) (by kernel_rfl) (by kernel_rfl) noPanic_false (by kernel_rfl) (fun _ _ => by kernel_rfl) hS0 ?_
                  refine tk 25 60 (.slice x.a p x.c) (fuel := 9) rfl (by kernel_rfl) (by kernel_rfl) (by kernel_rfl) (by kernel_rfl) noPanic_false (by kernel_rfl) (fun W hW => x_loadT (x := .tmp 59) (t := 39) (g := gb) (j := 2) Try.underlying39 rfl (by kernel_rfl) (by kernel_rfl) (hW.2.cell (j := 2) rfl)) hS0 ?_
                  refine tk 26 61 (.int .i64 (p : Int)) (fuel := 8) rfl (by kernel_rfl) (by kernel_rfl) (by kernel_rfl) (by kernel_rfl) noPanic_false (by kernel_rfl) (fun _ _ => by kernel_rfl) hS0 ?_
                  refine tk 27 62 (.bool false) (fuel := 7) rfl (by kernel_rfl) (by kernel_rfl) (by kernel_rfl) (by kernel_rfl) noPanic_false (by kernel_rfl) (fun W _ => x_gtrC (x := .tmp 61) (k := p) (by kernel_rfl) (by kernel_rfl) HFW.out) hS0 ?_
                  refine tk 28 63 (.bool false) (fuel := 6) rfl (by kernel_rfl) (by kernel_rfl) (by kernel_rfl) (by kernel_rfl) noPanic_false (by kernel_rfl) (fun _ _ => by kernel_rfl) hS0 ?_
                  refine tk 29 64 (.bool false) (fuel := 5) rfl (by kernel_rfl) (by kernel_rfl) (by kernel_rfl) (by kernel_rfl) noPanic_false (by kernel_rfl) (fun _ _ => by kernel_rfl) hS0 ?_
                  refine tk 30 65 (.pointer (some ⟨gb, 2, none⟩)) (fuel := 4) rfl (by kernel_rfl) (by kernel_rfl) (by kernel_rfl) (by kernel_rfl) noPanic_false (by kernel_rfl) (fun _ _ => by kernel_rfl) hS0 ?_
                  refine tk 31 66 (.slice x.a p x.c) (fuel := 3) rfl (by kernel_rfl) (by kernel_rfl) (by kernel_rfl) (by kernel_rfl) noPanic_false (by kernel_rfl) (fun W hW => x_loadT (x := .tmp 65) (t := 39) (g := gb) (j := 2) Try.underlying39 rfl (by kernel_rfl) (by kernel_rfl) (hW.2.cell (j := 2) rfl)) hS0 ?_
                  refine tkCallZ 32 67 49 #[.slice x.a p x.c] (fun v w' => v = .bool true ∧ After w5.drew w') (fuel := 2) rfl (by kernel_rfl) (by kernel_rfl) (by kernel_rfl) (fun _ => by kernel_rfl) ((HUP.out w5.drew hS0.1).mono (fun e w' ⟨he, h⟩ => ⟨_, he, rfl, h⟩)) ?_
                  intro v2 w6 ⟨hv2, ha6⟩
                  subst hv2
                  have hS6 : After w w6 ∧ RowIs w6 gb 41 [.string (strOf x.nm), .slice x.ba k x.bc, .slice x.a p x.c] := ⟨hS0.1.trans ha6, hS0.2.below ha6 hS0.2.lt⟩
                  have hD6 : After w5 w6 := (After.drew (After.refl w5)).trans ha6
                  clear ha6
                  refine ⟨hS6, ?_⟩
                  refine tk 33 68 (.bool false) (fuel := 1) rfl (by kernel_rfl) (by kernel_rfl) (by kernel_rfl) (by kernel_rfl) noPanic_false (by kernel_rfl) (fun _ _ => by kernel_rfl) hS6 ?_
                  refine tk 34 69 (.bool false) (fuel := 0) rfl (by kernel_rfl) (by kernel_rfl) (by kernel_rfl) (by kernel_rfl) noPanic_false (by kernel_rfl) (fun _ _ => by kernel_rfl) hS6 ?_
                  refine wpAnyH_done (by kernel_rfl) (NoPanic.normal ?_) _
                  have H6 : Hid (OwA w (preR (rsof X) i) v w6 ∧ RowIs w6 gb 41 [.string (strOf x.nm), .slice x.ba k x.bc, .slice x.a p x.c]) := ⟨H5.out.1.more hD6, hS6.2⟩
                  have HRO : Hid (ROk (rof x)) := ⟨HG.out.1, by rw [show (rof x).2.2.length = p from HXA.out.2.2.1]; have := of_decide_eq_false HFW.out; omega, HG.out.2.1, HG.out.2.2⟩
                  clear hS0 hS6 hD6
                  have hk64 : k ≤ 64 := by have := HRO.out.brs.few; rw [show (rof x).2.1.length = x.X.length from bof_len _, HXA.out.2.1] at this; exact this
                  have hp4 : p ≤ 4096 := by have := HRO.out.few; rw [show (rof x).2.2.length = x.l.length from rfl, HXA.out.2.2.1] at this; exact this
                  have hk63 : k < 9223372036854775808 := by omega
                  have hnm : x.nm.length ≤ 32 := nmB_len HRO.out.nam
                  obtain ⟨s0, hs0⟩ : ∃ s0, (textB x.nm).length = s0 := ⟨_, rfl⟩
                  obtain ⟨s1, hs1⟩ : ∃ s1, (uintB k).length = s1 := ⟨_, rfl⟩
                  obtain ⟨s2, hs2⟩ : ∃ s2, (hsB x.l).length = s2 := ⟨_, rfl⟩
                  have hs0b : s0 ≤ 42 := by rw [← hs0]; exact textB_len hnm
                  have hs1b : s1 ≤ 10 := by rw [← hs1]; exact uintB_len10 k (by omega)
                  have hs2b : s2 ≤ 131082 := by rw [← hs2]; have := hsB_len HXA.out.1.l32 (by rw [HXA.out.2.2.1]; exact hp4); have h9 := HXA.out.2.2.1; omega
                  have hs1p : 0 < s1 := by rw [← hs1]; exact List.length_pos_iff.2 (uintB_ne _)
                  have hs0p : 0 < s0 := by rw [← hs0]; unfold textB; rw [List.length_append]; have := List.length_pos_iff.2 (uintB_ne x.nm.length); omega
                  have hs2p : 0 < s2 := by rw [← hs2]; unfold hsB; rw [List.length_append]; have := List.length_pos_iff.2 (uintB_ne x.l.length); omega
                  have HS : Hid ((textB x.nm).length = s0 ∧ (uintB k).length = s1 ∧ (hsB x.l).length = s2 ∧ 0 < s0 ∧ 0 < s1) := ⟨hs0, hs1, hs2, hs0p, hs1p⟩
                  have HTX : Hid (∀ W : World, Calls Try.prog 50 #[.string (strOf x.nm)] W fun e w' => ∃ a c, e = .returned (.slice a s0 c) ∧ BytesAt w' a (textB x.nm) ∧ After W w') := fun W => rtext_sl x.nm s0 (by omega) hs0 W
                  have HUK : Hid (∀ W : World, Calls Try.prog 46 #[.int .u64 (k : Int)] W fun e w' => ∃ a c, e = .returned (.slice a s1 c) ∧ BytesAt w' a (uintB k) ∧ After W w') := fun W => ruint_sl k s1 (by omega) hs1 W
                  have HBL : Hid (∀ j, (preB (bof x.X) j).length ≤ 38410) := fun j => preB_len HRO.out.brs HXA.out.1.r32.brs j
                  have HB0 : Hid (uintB k = preB (bof x.X) 0) := by unfold preB Hid; rw [bof_len, HXA.out.2.1]; simp
                  have HPX : Hid (∀ W : World, After w W → Calls Try.prog 51 #[.slice x.a p x.c] W fun e w' => ∃ a c, e = .returned (.slice a s2 c) ∧ BytesAt w' a (hsB x.l) ∧ After W w') := fun W hW => rput_sl (ca := x.c) HXA.out.1.l32 HXA.out.2.2.1 hs2 (by omega) (HXA.out.1.sl.after hW)
                  have HRN : Hid (preR (rsof X) i ++ textB x.nm ++ brsB (bof x.X) ++ hsB x.l = preR (rsof X) (i + 1)) := by
                    have h9 : preR (rsof X) i ++ (textB x.nm ++ (brsB (bof x.X) ++ hsB x.l)) = preR (rsof X) (i + 1) := preR_next (rsof_get HXA.out.2.2.2)
                    unfold Hid
                    rw [← h9]; simp only [List.append_assoc]
                  have HMN : Hid (MOkT X (i + 1)) := HP.out.2.next HXA.out.2.2.2 HRO.out HBO.out
                  clear hs0 hs1 hs2 hnm
                  go_simp
                  go_wp2
                  refine wp_region_noPanic ?_
                  refine wp_region_held_drew (S := fun W => After w W ∧ RowIs W gb 41 [.string (strOf x.nm), .slice x.ba k x.bc, .slice x.a p x.c]) (by kernel_rfl) (⟨H6.out.1.aft.drew, H6.out.2⟩) ?_
                  intro hS1
                  refine tk 0 70 (v) (fuel := 11) rfl (by kernel_rfl) (by kernel_rfl) (by kernel_rfl) (by kernel_rfl) noPanic_false (by kernel_rfl) (fun _ _ => by kernel_rfl) hS1 ?_
                  refine tk 1 71 (.pointer (some ⟨gb, 0, none⟩)) (fuel := 10) rfl (by kernel_rfl) (by kernel_rfl) (by kernel_rfl) (by kernel_rfl) noPanic_false (by kernel_rfl) (fun _ _ => by kernel_rfl) hS1 ?_
                  refine tk 2 72 (.string (strOf x.nm)) (fuel := 9) rfl (by kernel_rfl) (by kernel_rfl) (by kernel_rfl) (by kernel_rfl) noPanic_false (by kernel_rfl) (fun W hW => x_loadT (x := .tmp 71) (t := 9) (g := gb) (j := 0) Try.underlying9 rfl (by kernel_rfl) (by kernel_rfl) (hW.2.cell (j := 0) rfl)) hS1 ?_
                  refine tk 5 75 (.pointer (some ⟨gb, 1, none⟩)) (fuel := 8) rfl (by kernel_rfl) (by kernel_rfl) (by kernel_rfl) (by kernel_rfl) noPanic_false (by kernel_rfl) (fun _ _ => by kernel_rfl) hS1 ?_
                  refine tk 6 76 (.slice x.ba k x.bc) (fuel := 7) rfl (by kernel_rfl) (by kernel_rfl) (by kernel_rfl) (by kernel_rfl) noPanic_false (by kernel_rfl) (fun W hW => x_loadT (x := .tmp 75) (t := 38) (g := gb) (j := 1) Try.underlying38 rfl (by kernel_rfl) (by kernel_rfl) (hW.2.cell (j := 1) rfl)) hS1 ?_
                  refine tk 7 77 (.int .i64 (k : Int)) (fuel := 6) rfl (by kernel_rfl) (by kernel_rfl) (by kernel_rfl) (by kernel_rfl) noPanic_false (by kernel_rfl) (fun _ _ => by kernel_rfl) hS1 ?_
                  refine tk 8 78 (.int .u64 (k : Int)) (fuel := 5) rfl (by kernel_rfl) (by kernel_rfl) (by kernel_rfl) (by kernel_rfl) noPanic_false (by kernel_rfl) (fun W _ => x_cv59 (x := .tmp 77) (k := k) hk63 (by kernel_rfl) (by kernel_rfl)) hS1 ?_
                  refine tkCallZ 3 73 50 #[.string (strOf x.nm)] (fun v w' => ∃ a c, v = .slice a s0 c ∧ BytesAt w' a (textB x.nm) ∧ After w6.drew w') (fuel := 4) rfl (by kernel_rfl) (by kernel_rfl) (by kernel_rfl) (fun _ => by kernel_rfl) ((HTX.out w6.drew).mono (fun e w' ⟨a, c, he, h1, h2⟩ => ⟨_, he, a, c, rfl, h1, h2⟩)) ?_
                  intro v3 w7 ⟨a3, c3, hv3, hb3, ha3⟩
                  subst hv3
                  have o7 : OwA w (preR (rsof X) i) v w7 := (H6.out.1.more (After.drew (After.refl w6))).more ha3
                  have q7 : RowIs w7 gb 41 [.string (strOf x.nm), .slice x.ba k x.bc, .slice x.a p x.c] := (show RowIs w6.drew gb 41 _ from H6.out.2).below ha3 (show RowIs w6.drew gb 41 _ from H6.out.2).lt
                  refine ⟨⟨o7.aft, q7⟩, ?_⟩
                  obtain ⟨v8, w8, r8, o8, g8⟩ := o7.run (c := c3) HS.out.1 (by have := HS.out.2.2.2.1; omega) hb3 (by have := HPI.out; omega)
                  have q8 := q7.keep (by decide) o7.own g8
                  refine tkRunS 4 74 (v8) (w8) (fuel := 3) rfl (by kernel_rfl) (by kernel_rfl) (by kernel_rfl) (x_app (t := 26) (s := .tmp 70) (x := .tmp 73) rfl (by kernel_rfl) (by kernel_rfl) r8) (⟨o8.aft, q8⟩) ?_
                  refine tkCallZ 9 79 46 #[.int .u64 (k : Int)] (fun v w' => ∃ a c, v = .slice a s1 c ∧ BytesAt w' a (uintB k) ∧ After w8 w') (fuel := 2) rfl (by kernel_rfl) (by kernel_rfl) (by kernel_rfl) (fun _ => by kernel_rfl) ((HUK.out w8).mono (fun e w' ⟨a, c, he, h1, h2⟩ => ⟨_, he, a, c, rfl, h1, h2⟩)) ?_
                  intro v9 w9 ⟨a9, c9, hv9, hb9, ha9⟩
                  subst hv9
                  have o9 := o8.more ha9
                  have q9 := q8.below ha9 q8.lt
                  refine ⟨⟨o9.aft, q9⟩, ?_⟩
                  obtain ⟨vA, wA, rA, oA, gA⟩ := o9.run (c := c9) HS.out.2.1 (by have := HS.out.2.2.2.2; omega) hb9 (by have := HPI.out; have := HS.out.1; rw [List.length_append]; omega)
                  have qA := q9.keep (by decide) o9.own gA
                  refine tkRunS 10 80 (vA) (wA) (fuel := 1) rfl (by kernel_rfl) (by kernel_rfl) (by kernel_rfl) (x_app (t := 26) (s := .tmp 74) (x := .tmp 79) rfl (by kernel_rfl) (by kernel_rfl) rA) (⟨oA.aft, qA⟩) ?_
                  refine tk 11 4 (vA) (fuel := 0) rfl (by kernel_rfl) (by kernel_rfl) (by kernel_rfl) (by kernel_rfl) noPanic_false (by kernel_rfl) (fun _ _ => by kernel_rfl) ⟨oA.aft, qA⟩ ?_
                  refine wpAnyH_done (by kernel_rfl) (NoPanic.normal ?_) _
                  have HA : Hid (OwA w (preR (rsof X) i ++ textB x.nm ++ preB (bof x.X) 0) vA wA ∧ RowIs wA gb 41 [.string (strOf x.nm), .slice x.ba k x.bc, .slice x.a p x.c]) := ⟨by rw [← HB0.out]; exact oA, qA⟩
                  clear hS1 hb3 ha3 o7 q7 r8 o8 g8 q8 hb9 ha9 o9 q9 rA oA gA qA
                  go_simp
                  go_wp2
                  go_loopw [4, 9] (fun v' jv wj => ∃ j : Nat, j ≤ k ∧ jv = .int .i64 (j : Int) ∧ Hid (OwA w (preR (rsof X) i ++ textB x.nm ++ preB (bof x.X) j) v' wj ∧ RowIs wj gb 41 [.string (strOf x.nm), .slice x.ba k x.bc, .slice x.a p x.c])) (fun _ jv _ => k - (intOf jv).toNat)
                  case atStart => exact ⟨0, Nat.zero_le _, rfl, HA.out⟩
                  case round =>
                    obtain ⟨j, hjk, rfl, HJ⟩ := hrel
                    obtain ⟨vj, rfl⟩ : ∃ v, v = u4 := ⟨_, rfl⟩
                    have e1 := HJ.out.2.cell (j := 1) rfl
                    have e2 := HJ.out.2.cell (j := 2) rfl
                    by_cases hlt2 : j < k
                    · have hjj : (j : Int) < (k : Int) := by omega
                      have HLT2 : Hid (j < k) := hlt2
                      obtain ⟨y, hy⟩ : ∃ y, x.X[j]? = some y := ⟨_, List.getElem?_eq_getElem (by rw [HXA.out.2.1]; exact hlt2)⟩
                      have hyb := HXA.out.1.bs.each y (List.mem_of_getElem? hy)
                      have hyo := HRO.out.brs.each _ (List.mem_of_getElem? (bof_get hy))
                      obtain ⟨yb, yo, hya, hyr⟩ := HXA.out.1.bs.sl.at (bs_get hy)
                      have HYA : Hid (x.ba = some ⟨yb, yo, none⟩) := hya
                      obtain ⟨q, hq⟩ : ∃ q, y.l.length = q := ⟨_, rfl⟩
                      have HY : Hid (w.rangeAt yb (yo + j * 2) [.string (strOf y.nm), .slice y.a q y.c]) := by have := hyr; unfold brc Bx.v at this; rw [hq] at this; exact this
                      have hq16 : q ≤ 16 := by rw [← hq]; exact mayB_len hyo.2
                      have hynm : y.nm.length ≤ 32 := nmB_len hyo.1
                      obtain ⟨t0, ht0⟩ : ∃ t0, (textB y.nm).length = t0 := ⟨_, rfl⟩
                      obtain ⟨t1, ht1⟩ : ∃ t1, (hsB y.l).length = t1 := ⟨_, rfl⟩
                      have ht0b : t0 ≤ 42 := by rw [← ht0]; exact textB_len hynm
                      have ht1b : t1 ≤ 522 := by rw [← ht1]; have := hsB_len hyb.l32 (by omega); omega
                      have ht0p : 0 < t0 := by rw [← ht0]; unfold textB; rw [List.length_append]; have := List.length_pos_iff.2 (uintB_ne y.nm.length); omega
                      have ht1p : 0 < t1 := by rw [← ht1]; unfold hsB; rw [List.length_append]; have := List.length_pos_iff.2 (uintB_ne y.l.length); omega
                      have HT : Hid ((textB y.nm).length = t0 ∧ (hsB y.l).length = t1 ∧ 0 < t0 ∧ 0 < t1) := ⟨ht0, ht1, ht0p, ht1p⟩
                      have HTY : Hid (∀ W : World, Calls Try.prog 50 #[.string (strOf y.nm)] W fun e w' => ∃ a c, e = .returned (.slice a t0 c) ∧ BytesAt w' a (textB y.nm) ∧ After W w') := fun W => rtext_sl y.nm t0 (by omega) ht0 W
                      have HPY : Hid (∀ W : World, After w W → Calls Try.prog 51 #[.slice y.a q y.c] W fun e w' => ∃ a c, e = .returned (.slice a t1 c) ∧ BytesAt w' a (hsB y.l) ∧ After W w') := fun W hW => rput_sl (ca := y.c) hyb.l32 hq ht1 (by omega) (hyb.sl.after hW)
                      have HBN : Hid (preB (bof x.X) j ++ brB (y.nm, y.l) = preB (bof x.X) (j + 1)) := preB_next (bof_get hy)
                      have HBJ : Hid ((preB (bof x.X) j).length ≤ 38410) := HBL.out j
                      clear hy hyb hyr hya hq ht0 ht1 hyo
                      go_wp2
                      refine wp_region_noPanic ?_
                      refine wp_region_held_drew (S := fun W => After w W ∧ RowIs W gb 41 [.string (strOf x.nm), .slice x.ba k x.bc, .slice x.a p x.c]) (by kernel_rfl) (⟨HJ.out.1.aft.drew, HJ.out.2⟩) ?_
                      intro hS2
                      refine tk 0 88 (vj) (fuel := 17) rfl (by kernel_rfl) (by kernel_rfl) (by kernel_rfl) (by kernel_rfl) noPanic_false (by kernel_rfl) (fun _ _ => by kernel_rfl) hS2 ?_
                      refine tk 1 89 (.pointer (some ⟨gb, 1, none⟩)) (fuel := 16) rfl (by kernel_rfl) (by kernel_rfl) (by kernel_rfl) (by kernel_rfl) noPanic_false (by kernel_rfl) (fun _ _ => by kernel_rfl) hS2 ?_
                      refine tk 2 90 (.slice (some ⟨yb, yo, none⟩) k x.bc) (fuel := 15) rfl (by kernel_rfl) (by kernel_rfl) (by kernel_rfl) (by kernel_rfl) noPanic_false (by kernel_rfl) (fun W hW => x_loadT (x := .tmp 89) (t := 38) (g := gb) (j := 1) Try.underlying38 rfl (by kernel_rfl) (by kernel_rfl) (by rw [← HYA.out]; exact hW.2.cell (j := 1) rfl)) hS2 ?_
                      refine tk 3 91 (.int .i64 (j : Int)) (fuel := 14) rfl (by kernel_rfl) (by kernel_rfl) (by kernel_rfl) (by kernel_rfl) noPanic_false (by kernel_rfl) (fun _ _ => by kernel_rfl) hS2 ?_
                      refine tk 4 92 (.pointer (some ⟨yb, yo + j * 2, none⟩)) (fuel := 13) rfl (by kernel_rfl) (by kernel_rfl) (by kernel_rfl) (by kernel_rfl) noPanic_false (by kernel_rfl) (fun W _ => x_idx25 (n := k) (c := x.bc) (x := .tmp 90) (y := .tmp 91) (by kernel_rfl) (by kernel_rfl) (by kernel_rfl) HLT2.out) hS2 ?_
                      refine tk 5 93 (.pointer (some ⟨yb, yo + j * 2, none⟩)) (fuel := 12) rfl (by kernel_rfl) (by kernel_rfl) (by kernel_rfl) (by kernel_rfl) noPanic_false (by kernel_rfl) (fun _ _ => by kernel_rfl) hS2 ?_
                      refine tk 6 94 (.string (strOf y.nm)) (fuel := 11) rfl (by kernel_rfl) (by kernel_rfl) (by kernel_rfl) (by kernel_rfl) noPanic_false (by kernel_rfl) (fun W hW => x_loadT (x := .tmp 93) (t := 9) (g := yb) (j := yo + j * 2 + 0) Try.underlying9 rfl (by kernel_rfl) (by kernel_rfl) (range_after HY.out hW.1 0 _ rfl)) hS2 ?_
                      refine tk 9 97 (.pointer (some ⟨gb, 1, none⟩)) (fuel := 10) rfl (by kernel_rfl) (by kernel_rfl) (by kernel_rfl) (by kernel_rfl) noPanic_false (by kernel_rfl) (fun _ _ => by kernel_rfl) hS2 ?_
                      refine tk 10 98 (.slice (some ⟨yb, yo, none⟩) k x.bc) (fuel := 9) rfl (by kernel_rfl) (by kernel_rfl) (by kernel_rfl) (by kernel_rfl) noPanic_false (by kernel_rfl) (fun W hW => x_loadT (x := .tmp 97) (t := 38) (g := gb) (j := 1) Try.underlying38 rfl (by kernel_rfl) (by kernel_rfl) (by rw [← HYA.out]; exact hW.2.cell (j := 1) rfl)) hS2 ?_
                      refine tk 11 99 (.int .i64 (j : Int)) (fuel := 8) rfl (by kernel_rfl) (by kernel_rfl) (by kernel_rfl) (by kernel_rfl) noPanic_false (by kernel_rfl) (fun _ _ => by kernel_rfl) hS2 ?_
                      refine tk 12 100 (.pointer (some ⟨yb, yo + j * 2, none⟩)) (fuel := 7) rfl (by kernel_rfl) (by kernel_rfl) (by kernel_rfl) (by kernel_rfl) noPanic_false (by kernel_rfl) (fun W _ => x_idx25 (n := k) (c := x.bc) (x := .tmp 98) (y := .tmp 99) (by kernel_rfl) (by kernel_rfl) (by kernel_rfl) HLT2.out) hS2 ?_
                      refine tk 13 101 (.pointer (some ⟨yb, yo + j * 2 + 1, none⟩)) (fuel := 6) rfl (by kernel_rfl) (by kernel_rfl) (by kernel_rfl) (by kernel_rfl) noPanic_false (by kernel_rfl) (fun _ _ => by kernel_rfl) hS2 ?_
                      refine tk 14 102 (.slice y.a q y.c) (fuel := 5) rfl (by kernel_rfl) (by kernel_rfl) (by kernel_rfl) (by kernel_rfl) noPanic_false (by kernel_rfl) (fun W hW => x_loadT (x := .tmp 101) (t := 39) (g := yb) (j := yo + j * 2 + 1) Try.underlying39 rfl (by kernel_rfl) (by kernel_rfl) (range_after HY.out hW.1 1 _ rfl)) hS2 ?_
                      refine tkCallZ 7 95 50 #[.string (strOf y.nm)] (fun v w' => ∃ a c, v = .slice a t0 c ∧ BytesAt w' a (textB y.nm) ∧ After wr.drew w') (fuel := 4) rfl (by kernel_rfl) (by kernel_rfl) (by kernel_rfl) (fun _ => by kernel_rfl) ((HTY.out wr.drew).mono (fun e w' ⟨a, c, he, h1, h2⟩ => ⟨_, he, a, c, rfl, h1, h2⟩)) ?_
                      intro v3 w7 ⟨a3, c3, hv3, hb3, ha3⟩
                      subst hv3
                      have o7 := (HJ.out.1.more (After.drew (After.refl wr))).more ha3
                      have q7 : RowIs w7 gb 41 [.string (strOf x.nm), .slice x.ba k x.bc, .slice x.a p x.c] := (show RowIs wr.drew gb 41 _ from HJ.out.2).below ha3 (show RowIs wr.drew gb 41 _ from HJ.out.2).lt
                      refine ⟨⟨o7.aft, q7⟩, ?_⟩
                      obtain ⟨v8, w8, r8, o8, g8⟩ := o7.run (c := c3) HT.out.1 (by have := HT.out.2.2.1; omega) hb3 (by have := HT.out.1; have := HPI.out; have := HS.out.1; have := HBJ.out; rw [List.length_append, List.length_append]; omega)
                      have q8 := q7.keep (by decide) o7.own g8
                      refine tkRunS 8 96 (v8) (w8) (fuel := 3) rfl (by kernel_rfl) (by kernel_rfl) (by kernel_rfl) (x_app (t := 26) (s := .tmp 88) (x := .tmp 95) rfl (by kernel_rfl) (by kernel_rfl) r8) (⟨o8.aft, q8⟩) ?_
                      refine tkCallZ 15 103 51 #[.slice y.a q y.c] (fun v w' => ∃ a c, v = .slice a t1 c ∧ BytesAt w' a (hsB y.l) ∧ After w8 w') (fuel := 2) rfl (by kernel_rfl) (by kernel_rfl) (by kernel_rfl) (fun _ => by kernel_rfl) ((HPY.out w8 o8.aft).mono (fun e w' ⟨a, c, he, h1, h2⟩ => ⟨_, he, a, c, rfl, h1, h2⟩)) ?_
                      intro v9 w9 ⟨a9, c9, hv9, hb9, ha9⟩
                      subst hv9
                      have o9 := o8.more ha9
                      have q9 := q8.below ha9 q8.lt
                      refine ⟨⟨o9.aft, q9⟩, ?_⟩
                      obtain ⟨vA, wA, rA, oA, gA⟩ := o9.run (c := c9) HT.out.2.1 (by have := HT.out.2.2.2; omega) hb9 (by have := HT.out.1; have := HT.out.2.1; have := HPI.out; have := HS.out.1; have := HBJ.out; rw [List.length_append, List.length_append, List.length_append]; omega)
                      have qA := q9.keep (by decide) o9.own gA
                      refine tkRunS 16 104 (vA) (wA) (fuel := 1) rfl (by kernel_rfl) (by kernel_rfl) (by kernel_rfl) (x_app (t := 26) (s := .tmp 96) (x := .tmp 103) rfl (by kernel_rfl) (by kernel_rfl) rA) (⟨oA.aft, qA⟩) ?_
                      refine tk 17 4 (vA) (fuel := 0) rfl (by kernel_rfl) (by kernel_rfl) (by kernel_rfl) (by kernel_rfl) noPanic_false (by kernel_rfl) (fun _ _ => by kernel_rfl) ⟨oA.aft, qA⟩ ?_
                      refine wpAnyH_done (by kernel_rfl) (NoPanic.normal ?_) _
                      have HNJ : Hid (OwA w (preR (rsof X) i ++ textB x.nm ++ preB (bof x.X) (j + 1)) vA wA ∧ RowIs wA gb 41 [.string (strOf x.nm), .slice x.ba k x.bc, .slice x.a p x.c]) := ⟨by
                        rw [← HBN.out]
                        simpa only [brB, List.append_assoc] using oA, qA⟩
                      clear hS2 hb3 ha3 o7 q7 r8 o8 g8 q8 hb9 ha9 o9 q9 rA oA gA qA
                      go_simp
                      go_wp2
                      go_roundw
                      case rel => exact ⟨j + 1, by omega, by go_num, HNJ⟩
                      case measure => simp [intOf]; omega
                    · have hjj : ¬ (j : Int) < (k : Int) := by omega
                      have HJE : Hid (OwA w (preR (rsof X) i ++ textB x.nm ++ brsB (bof x.X)) vj wr) := by
                        rw [← preB_all (n := j) (by rw [bof_len, HXA.out.2.1]; omega)]; exact HJ.out.1
                      have HBB : Hid ((brsB (bof x.X)).length ≤ 38410) := by unfold Hid; rw [← preB_all (n := k) (by rw [bof_len, HXA.out.2.1]; omega)]; exact HBL.out k
                      go_wp2_with (first
                        | (go_at_call 51; refine Calls.mono (HPX.out _ HJE.out.aft) ?_; rintro e x5 ⟨a5, c5, rfl, hb5, ha5⟩; have J5 : Hid (BytesAt x5 a5 (hsB x.l) ∧ OwA w (preR (rsof X) i ++ textB x.nm ++ brsB (bof x.X)) vj x5) := ⟨hb5, HJE.out.more ha5⟩; clear hb5 ha5)
                        | (at_builtin; refine wpList_append_any rfl (.tmp 105) (.tmp 108) rfl w.heap.size vj (preR (rsof X) i ++ textB x.nm ++ brsB (bof x.X)) rfl J5.out.2.own a5 c5 (hsB x.l) s2 HS.out.2.2.1 rfl J5.out.1 (by have := HS.out.1; have := HS.out.2.2.1; have := HPI.out; have := HBB.out; rw [List.length_append, List.length_append]; omega) J5.out.2.aft.size ?_
                           intro v6 x6 ho6 hg6
                           have J6 : Hid (OwA w (preR (rsof X) (i + 1)) v6 x6 ∧ MOkT X (i + 1)) := ⟨by
                             rw [← HRN.out]
                             exact J5.out.2.app ho6 hg6, HMN.out⟩
                           clear ho6 hg6))
                      go_roundw
                      case rel => exact ⟨i + 1, by omega, by go_num, J6⟩
                      case measure => simp [intOf]; omega
                · have hU2 : upB x.l = false := by simpa using hU
                  have HUP : Hid (∀ W : World, After w W → Calls Try.prog 49 #[.slice x.a p x.c] W fun e w' => e = .returned (.bool false) ∧ After W w') := fun W hW => by have := HUP0.out W hW; rw [hU2] at this; exact this
                  have HBAD : Hid (¬ MOk (rsof X)) := fun hk => hU (hk.at' HXA.out.2.2.2).up
                  clear hU hU2
                  refine wp_region_noPanic ?_
                  refine wp_region_held_drew (S := fun W => After w W ∧ RowIs W gb 41 [.string (strOf x.nm), .slice x.ba k x.bc, .slice x.a p x.c]) (by kernel_rfl) (⟨HS9.out.1.drew, HS9.out.2⟩) ?_
                  intro hS0
                  refine tk 0 35 (.pointer (some ⟨gb, 0, none⟩)) (fuel := 34) rfl (by kernel_rfl) (by kernel_rfl) (by kernel_rfl) (by kernel_rfl) noPanic_false (by kernel_rfl) (fun _ _ => by kernel_rfl) hS0 ?_
                  refine tk 1 36 (.string (strOf x.nm)) (fuel := 33) rfl (by kernel_rfl) (by kernel_rfl) (by kernel_rfl) (by kernel_rfl) noPanic_false (by kernel_rfl) (fun W hW => x_loadT (x := .tmp 35) (t := 9) (g := gb) (j := 0) Try.underlying9 rfl (by kernel_rfl) (by kernel_rfl) (hW.2.cell (j := 0) rfl)) hS0 ?_
                  refine tkCallZ 2 37 48 #[.string (strOf x.nm)] (fun v w' => v = .bool true ∧ w' = w5.drew) (fuel := 32) rfl (by kernel_rfl) (by kernel_rfl) (by kernel_rfl) (fun _ => by kernel_rfl) ((HNM.out w5.drew).mono (fun e w' ⟨he, h⟩ => ⟨_, he, rfl, h⟩)) ?_
                  intro v1 w9 ⟨hv1, hw9⟩
                  subst hv1
                  subst hw9
                  refine ⟨hS0, ?_⟩
                  refine tk 3 38 (.bool false) (fuel := 31) rfl (by kernel_rfl) (by kernel_rfl) (by kernel_rfl) (by kernel_rfl) noPanic_false (by kernel_rfl) (fun _ _ => by kernel_rfl) hS0 ?_
                  refine tk 4 39 (.bool false) (fuel := 30) rfl (by kernel_rfl) (by kernel_rfl) (by kernel_rfl) (by kernel_rfl) noPanic_false (by kernel_rfl) (fun _ _ => by kernel_rfl) hS0 ?_
                  refine tk 5 40 (.int .i64 (i : Int)) (fuel := 29) rfl (by kernel_rfl) (by kernel_rfl) (by kernel_rfl) (by kernel_rfl) noPanic_false (by kernel_rfl) (fun _ _ => by kernel_rfl) hS0 ?_
                  refine tk 6 41 (.bool false) (fuel := 28) rfl (by kernel_rfl) (by kernel_rfl) (by kernel_rfl) (by kernel_rfl) noPanic_false (by kernel_rfl) (fun W _ => (x_gtr0 (x := .tmp 40) (k := i) (by kernel_rfl) (by kernel_rfl)).trans (by rw [HI0.out])) hS0 ?_
                  refine tk 7 42 (.bool false) (fuel := 27) rfl (by kernel_rfl) (by kernel_rfl) (by kernel_rfl) (by kernel_rfl) noPanic_false (by kernel_rfl) (fun _ _ => by kernel_rfl) hS0 ?_
                  refine tkSkip 8 43 (fuel := 26) rfl (by kernel_rfl) (by kernel_rfl) (by kernel_rfl) (by kernel_rfl) noPanic_false (by kernel_rfl) hS0 ?_
                  refine tkSkip 9 44 (fuel := 25) rfl (by kernel_rfl) (by kernel_rfl) (by kernel_rfl) (by kernel_rfl) noPanic_false (by kernel_rfl) hS0 ?_
                  refine tkSkip 10 45 (fuel := 24) rfl (by kernel_rfl) (by kernel_rfl) (by kernel_rfl) (by kernel_rfl) noPanic_false (by kernel_rfl) hS0 ?_
                  refine tkSkip 11 46 (fuel := 23) rfl (by kernel_rfl) (by kernel_rfl) (by kernel_rfl) (by kernel_rfl) noPanic_false (by kernel_rfl) hS0 ?_
                  refine tkSkip 12 47 (fuel := 22) rfl (by kernel_rfl) (by kernel_rfl) (by kernel_rfl) (by kernel_rfl) noPanic_false (by kernel_rfl) hS0 ?_
                  refine tkSkip 13 48 (fuel := 21) rfl (by kernel_rfl) (by kernel_rfl) (by kernel_rfl) (by kernel_rfl) noPanic_false (by kernel_rfl) hS0 ?_
                  refine tkSkip 14 49 (fuel := 20) rfl (by kernel_rfl) (by kernel_rfl) (by kernel_rfl) (by kernel_rfl) noPanic_false (by kernel_rfl) hS0 ?_
                  refine tkSkip 15 50 (fuel := 19) rfl (by kernel_rfl) (by kernel_rfl) (by kernel_rfl) (by kernel_rfl) noPanic_false (by kernel_rfl) hS0 ?_
                  refine tkSkip 16 51 (fuel := 18) rfl (by kernel_rfl) (by kernel_rfl) (by kernel_rfl) (by kernel_rfl) noPanic_false (by kernel_rfl) hS0 ?_
                  refine tk 17 52 (.bool false) (fuel := 17) rfl (by kernel_rfl) (by kernel_rfl) (by kernel_rfl) (by kernel_rfl) noPanic_false (by kernel_rfl) (fun _ _ => by kernel_rfl) hS0 ?_
                  refine tk 18 53 (.bool false) (fuel := 16) rfl (by kernel_rfl) (by kernel_rfl) (by kernel_rfl) (by kernel_rfl) noPanic_false (by kernel_rfl) (fun _ _ => by kernel_rfl) hS0 ?_
                  refine tk 19 54 (.bool false) (fuel := 15) rfl (by kernel_rfl) (by kernel_rfl) (by kernel_rfl) (by kernel_rfl) noPanic_false (by kernel_rfl) (fun _ _ => by kernel_rfl) hS0 ?_
                  refine tk 20 55 (.int .i64 0) (fuel := 14) rfl (by kernel_rfl) (by kernel_rfl) (by kernel_rfl) (by kernel_rfl) noPanic_false (by kernel_rfl) (fun _ _ => by kernel_rfl) hS0 ?_
                  refine tk 21 56 (.bool false) (fuel := 13) rfl (by kernel_rfl) (by kernel_rfl) (by kernel_rfl) (by kernel_rfl) noPanic_false (by kernel_rfl) (fun _ _ => by kernel_rfl) hS0 ?_
                  refine tk 22 57 (.bool false) (fuel := 12) rfl (by kernel_rfl) (by kernel_rfl) (by kernel_rfl) (by kernel_rfl) noPanic_false (by kernel_rfl) (fun _ _ => by kernel_rfl) hS0 ?_
                  refine tk 23 58 (.bool false) (fuel := 11) rfl (by kernel_rfl) (by kernel_rfl) (by kernel_rfl) (by kernel_rfl) noPanic_false (by kernel_rfl) (fun _ _ => by kernel_rfl) hS0 ?_
                  refine tk 24 59 (.pointer (some ⟨gb, 2, none⟩)) (fuel := 10) rfl (by kernel_rfl) (by kernel_rfl) (by kernel_rfl) (by kernel_rfl) noPanic_false (by kernel_rfl) (fun _ _ => by kernel_rfl) hS0 ?_
                  refine tk 25 60 (.slice x.a p x.c) (fuel := 9) rfl (by kernel_rfl) (by kernel_rfl) (by kernel_rfl) (by kernel_rfl) noPanic_false (by kernel_rfl) (fun W hW => x_loadT (x := .tmp 59) (t := 39) (g := gb) (j := 2) Try.underlying39 rfl (by kernel_rfl) (by kernel_rfl) (hW.2.cell (j := 2) rfl)) hS0 ?_
                  refine tk 26 61 (.int .i64 (p : Int)) (fuel := 8) rfl (by kernel_rfl) (by kernel_rfl) (by kernel_rfl) (by kernel_rfl) noPanic_false (by kernel_rfl) (fun _ _ => by kernel_rfl) hS0 ?_
                  refine tk 27 62 (.bool false) (fuel := 7) rfl (by kernel_rfl) (by kernel_rfl) (by kernel_rfl) (by kernel_rfl) noPanic_false (by kernel_rfl) (fun W _ => x_gtrC (x := .tmp 61) (k := p) (by kernel_rfl) (by kernel_rfl) HFW.out) hS0 ?_
                  refine tk 28 63 (.bool false) (fuel := 6) rfl (by kernel_rfl) (by kernel_rfl) (by kernel_rfl) (by kernel_rfl) noPanic_false (by kernel_rfl) (fun _ _ => by kernel_rfl) hS0 ?_
                  refine tk 29 64 (.bool false) (fuel := 5) rfl (by kernel_rfl) (by kernel_rfl) (by kernel_rfl) (by kernel_rfl) noPanic_false (by kernel_rfl) (fun _ _ => by kernel_rfl) hS0 ?_
                  refine tk 30 65 (.pointer (some ⟨gb, 2, none⟩)) (fuel := 4) rfl (by kernel_rfl) (by kernel_rfl) (by kernel_rfl) (by kernel_rfl) noPanic_false (by kernel_rfl) (fun _ _ => by kernel_rfl) hS0 ?_
                  refine tk 31 66 (.slice x.a p x.c) (fuel := 3) rfl (by kernel_rfl) (by kernel_rfl) (by kernel_rfl) (by kernel_rfl) noPanic_false (by kernel_rfl) (fun W hW => x_loadT (x := .tmp 65) (t := 39) (g := gb) (j := 2) Try.underlying39 rfl (by kernel_rfl) (by kernel_rfl) (hW.2.cell (j := 2) rfl)) hS0 ?_
                  refine tkCallZ 32 67 49 #[.slice x.a p x.c] (fun v w' => v = .bool false ∧ After w5.drew w') (fuel := 2) rfl (by kernel_rfl) (by kernel_rfl) (by kernel_rfl) (fun _ => by kernel_rfl) ((HUP.out w5.drew hS0.1).mono (fun e w' ⟨he, h⟩ => ⟨_, he, rfl, h⟩)) ?_
                  intro v2 w6 ⟨hv2, ha6⟩
                  subst hv2
                  have hS6 : After w w6 ∧ RowIs w6 gb 41 [.string (strOf x.nm), .slice x.ba k x.bc, .slice x.a p x.c] := ⟨hS0.1.trans ha6, hS0.2.below ha6 hS0.2.lt⟩
                  have hD6 : After w5 w6 := (After.drew (After.refl w5)).trans ha6
                  clear ha6
                  refine ⟨hS6, ?_⟩
                  refine tk 33 68 (.bool true) (fuel := 1) rfl (by kernel_rfl) (by kernel_rfl) (by kernel_rfl) (by kernel_rfl) noPanic_false (by kernel_rfl) (fun _ _ => by kernel_rfl) hS6 ?_
                  refine tk 34 69 (.bool true) (fuel := 0) rfl (by kernel_rfl) (by kernel_rfl) (by kernel_rfl) (by kernel_rfl) noPanic_false (by kernel_rfl) (fun _ _ => by kernel_rfl) hS6 ?_
                  refine wpAnyH_done (by kernel_rfl) (NoPanic.normal ?_) _
                  have HFI : Hid (After w _) := hS6.1
                  clear hS0
                  go_simp
                  go_wp2
                  refine bodyPost_ret (v := .tuple #[.slice none 0 0, .int .i64 4]) (by simp [results, Try.results24, go_sem]) rfl ⟨HFI.out, .inr ⟨by rw [putE_form HBAD.out]; decide, by rw [putE_form HBAD.out]; rfl⟩⟩
            · have HLK : Hid (¬ LOk (bof x.X)) := hLK
              clear hLK
              have HLY : Hid (Calls Try.prog 47 #[.slice x.ba k x.bc] w2 fun e w' => e = .returned (.tuple #[.agg #[.slice none 0 0], .int .i64 4]) ∧ After w2 w') := HLD.out.mono (fun e w' h => by
                rcases h with ⟨h1, _⟩ | ⟨_, he, h9⟩
                · exact absurd h1 HLK.out
                · exact ⟨he, h9⟩)
              go_wp2_with (first
                | (refine wpList_of_run rfl (x_ix22 (x := .tmp 25) (y := .tmp 26) (b := xb) (f := xo) (n := n) (c := ca) (i := i) rfl (by kernel_rfl) (by kernel_rfl) HLT.out) ?_)
                | (refine wpList_of_run rfl (x_ld41 (x := .tmp 27) (g := xb) (p := xo + i * 3) (y := x) rfl (by kernel_rfl) HX.out) ?_)
                | (refine wpList_of_run rfl (x_al41 rfl) ?_; rw [HGA.out])
                | (refine wpList_store_row rfl 41 (.tmp 6) (.tmp 28) rfl gb (rxc x).toArray (by kernel_rfl) (by kernel_rfl) 41 _ HB.out.1 (size41 x) rfl (by simpa using rs_one [x] (rxc x) (by simp [rsL])) ?_; rw [HGW.out])
                | (refine wpList_of_run rfl (x_al82 rfl) ?_; rw [HG3.out])
                | (go_at_call 47; refine Calls.mono HLY.out ?_; rintro e w3 ⟨rfl, ha3⟩
                   obtain ⟨g3, hg3⟩ : ∃ g3, w3.heap.size = g3 := ⟨_, rfl⟩
                   obtain ⟨w5, hw5⟩ : ∃ w5, (w3.alloc (.cells #[.slice none 0 0] 82)).setRow g3 #[.slice none 0 0] = w5 := ⟨_, rfl⟩
                   have hrn : RowIs (w3.alloc (.cells #[.slice none 0 0] 82)) g3 82 [.slice none 0 0] := by rw [← hg3]; exact RowIs.new w3 82 _
                   have H5 : Hid (OwA w (preR (rsof X) i) v w5 ∧ RowIs w5 gb 41 [.string (strOf x.nm), .slice x.ba k x.bc, .slice x.a p x.c]) := by
                     have hA5 : After w2 w5 := by rw [← hw5, ← hg3]; exact ha3.trans (Below.row (after_alloc (After.refl w3) _) (Nat.le_refl _) _)
                     exact ⟨HI2.out.more hA5, HBR.out.below hA5 HBR.out.lt⟩
                   have HRN82 : Hid (RowIs (w3.alloc (.cells #[.slice none 0 0] 82)) g3 82 [.slice none 0 0]) := hrn
                   have HW5 : Hid ((w3.alloc (.cells #[.slice none 0 0] 82)).setRow g3 #[.slice none 0 0] = w5) := hw5
                   have HG3 : Hid (w3.heap.size = g3) := hg3
                   clear ha3 hrn hw5 hg3)
                | (refine wpList_store_row rfl 82 (.tmp 7) (.tmp 33) rfl g3 #[.slice none 0 0] rfl rfl 82 _ HRN82.out size82 rfl (one82 _ _ _) ?_; rw [HW5.out]))
              have HS9 : Hid (After w w5 ∧ RowIs w5 gb 41 [.string (strOf x.nm), .slice x.ba k x.bc, .slice x.a p x.c]) := ⟨H5.out.1.aft, H5.out.2⟩
              have HBAD : Hid (¬ MOk (rsof X)) := fun hk => HLK.out (hk.at' HXA.out.2.2.2).brs
              refine wp_region_noPanic ?_
              refine wp_region_held_drew (S := fun W => After w W ∧ RowIs W gb 41 [.string (strOf x.nm), .slice x.ba k x.bc, .slice x.a p x.c]) (by kernel_rfl) (⟨HS9.out.1.drew, HS9.out.2⟩) ?_
              intro hS0
              refine tk 0 35 (.pointer (some ⟨gb, 0, none⟩)) (fuel := 34) rfl (by kernel_rfl) (by kernel_rfl) (by kernel_rfl) (by kernel_rfl) noPanic_false (by kernel_rfl) (fun _ _ => by kernel_rfl) hS0 ?_
              refine tk 1 36 (.string (strOf x.nm)) (fuel := 33) rfl (by kernel_rfl) (by kernel_rfl) (by kernel_rfl) (by kernel_rfl) noPanic_false (by kernel_rfl) (fun W hW => x_loadT (x := .tmp 35) (t := 9) (g := gb) (j := 0) Try.underlying9 rfl (by kernel_rfl) (by kernel_rfl) (hW.2.cell (j := 0) rfl)) hS0 ?_
              refine tkCallZ 2 37 48 #[.string (strOf x.nm)] (fun v w' => v = .bool true ∧ w' = w5.drew) (fuel := 32) rfl (by kernel_rfl) (by kernel_rfl) (by kernel_rfl) (fun _ => by kernel_rfl) ((HNM.out w5.drew).mono (fun e w' ⟨he, h⟩ => ⟨_, he, rfl, h⟩)) ?_
              intro v1 w9 ⟨hv1, hw9⟩
              subst hv1
              subst hw9
              refine ⟨hS0, ?_⟩
              refine tk 3 38 (.bool false) (fuel := 31) rfl (by kernel_rfl) (by kernel_rfl) (by kernel_rfl) (by kernel_rfl) noPanic_false (by kernel_rfl) (fun _ _ => by kernel_rfl) hS0 ?_
              refine tk 4 39 (.bool false) (fuel := 30) rfl (by kernel_rfl) (by kernel_rfl) (by kernel_rfl) (by kernel_rfl) noPanic_false (by kernel_rfl) (fun _ _ => by kernel_rfl) hS0 ?_
              refine tk 5 40 (.int .i64 (i : Int)) (fuel := 29) rfl (by kernel_rfl) (by kernel_rfl) (by kernel_rfl) (by kernel_rfl) noPanic_false (by kernel_rfl) (fun _ _ => by kernel_rfl) hS0 ?_
              refine tk 6 41 (.bool false) (fuel := 28) rfl (by kernel_rfl) (by kernel_rfl) (by kernel_rfl) (by kernel_rfl) noPanic_false (by kernel_rfl) (fun W _ => (x_gtr0 (x := .tmp 40) (k := i) (by kernel_rfl) (by kernel_rfl)).trans (by rw [HI0.out])) hS0 ?_
              refine tk 7 42 (.bool false) (fuel := 27) rfl (by kernel_rfl) (by kernel_rfl) (by kernel_rfl) (by kernel_rfl) noPanic_false (by kernel_rfl) (fun _ _ => by kernel_rfl) hS0 ?_
              refine tkSkip 8 43 (fuel := 26) rfl (by kernel_rfl) (by kernel_rfl) (by kernel_rfl) (by kernel_rfl) noPanic_false (by kernel_rfl) hS0 ?_
              refine tkSkip 9 44 (fuel := 25) rfl (by kernel_rfl) (by kernel_rfl) (by kernel_rfl) (by kernel_rfl) noPanic_false (by kernel_rfl) hS0 ?_
              refine tkSkip 10 45 (fuel := 24) rfl (by kernel_rfl) (by kernel_rfl) (by kernel_rfl) (by kernel_rfl) noPanic_false (by kernel_rfl) hS0 ?_
              refine tkSkip 11 46 (fuel := 23) rfl (by kernel_rfl) (by kernel_rfl) (by kernel_rfl) (by kernel_rfl) noPanic_false (by kernel_rfl) hS0 ?_
              refine tkSkip 12 47 (fuel := 22) rfl (by kernel_rfl) (by kernel_rfl) (by kernel_rfl) (by kernel_rfl) noPanic_false (by kernel_rfl) hS0 ?_
              refine tkSkip 13 48 (fuel := 21) rfl (by kernel_rfl) (by kernel_rfl) (by kernel_rfl) (by kernel_rfl) noPanic_false (by kernel_rfl) hS0 ?_
              refine tkSkip 14 49 (fuel := 20) rfl (by kernel_rfl) (by kernel_rfl) (by kernel_rfl) (by kernel_rfl) noPanic_false (by kernel_rfl) hS0 ?_
              refine tkSkip 15 50 (fuel := 19) rfl (by kernel_rfl) (by kernel_rfl) (by kernel_rfl) (by kernel_rfl) noPanic_false (by kernel_rfl) hS0 ?_
              refine tkSkip 16 51 (fuel := 18) rfl (by kernel_rfl) (by kernel_rfl) (by kernel_rfl) (by kernel_rfl) noPanic_false (by kernel_rfl) hS0 ?_
              refine tk 17 52 (.bool false) (fuel := 17) rfl (by kernel_rfl) (by kernel_rfl) (by kernel_rfl) (by kernel_rfl) noPanic_false (by kernel_rfl) (fun _ _ => by kernel_rfl) hS0 ?_
              refine tk 18 53 (.bool false) (fuel := 16) rfl (by kernel_rfl) (by kernel_rfl) (by kernel_rfl) (by kernel_rfl) noPanic_false (by kernel_rfl) (fun _ _ => by kernel_rfl) hS0 ?_
              refine tk 19 54 (.bool false) (fuel := 15) rfl (by kernel_rfl) (by kernel_rfl) (by kernel_rfl) (by kernel_rfl) noPanic_false (by kernel_rfl) (fun _ _ => by kernel_rfl) hS0 ?_
              refine tk 20 55 (.int .i64 4) (fuel := 14) rfl (by kernel_rfl) (by kernel_rfl) (by kernel_rfl) (by kernel_rfl) noPanic_false (by kernel_rfl) (fun _ _ => by kernel_rfl) hS0 ?_
              refine tk 21 56 (.bool true) (fuel := 13) rfl (by kernel_rfl) (by kernel_rfl) (by kernel_rfl) (by kernel_rfl) noPanic_false (by kernel_rfl) (fun _ _ => by kernel_rfl) hS0 ?_
              refine tk 22 57 (.bool true) (fuel := 12) rfl (by kernel_rfl) (by kernel_rfl) (by kernel_rfl) (by kernel_rfl) noPanic_false (by kernel_rfl) (fun _ _ => by kernel_rfl) hS0 ?_
              refine tk 23 58 (.bool true) (fuel := 11) rfl (by kernel_rfl) (by kernel_rfl) (by kernel_rfl) (by kernel_rfl) noPanic_false (by kernel_rfl) (fun _ _ => by kernel_rfl) hS0 ?_
              refine tkSkip 24 59 (fuel := 10) rfl (by kernel_rfl) (by kernel_rfl) (by kernel_rfl) (by kernel_rfl) noPanic_false (by kernel_rfl) hS0 ?_
              refine tkSkip 25 60 (fuel := 9) rfl (by kernel_rfl) (by kernel_rfl) (by kernel_rfl) (by kernel_rfl) noPanic_false (by kernel_rfl) hS0 ?_
              refine tkSkip 26 61 (fuel := 8) rfl (by kernel_rfl) (by kernel_rfl) (by kernel_rfl) (by kernel_rfl) noPanic_false (by kernel_rfl) hS0 ?_
              refine tkSkip 27 62 (fuel := 7) rfl (by kernel_rfl) (by kernel_rfl) (by kernel_rfl) (by kernel_rfl) noPanic_false (by kernel_rfl) hS0 ?_
              refine tk 28 63 (.bool true) (fuel := 6) rfl (by kernel_rfl) (by kernel_rfl) (by kernel_rfl) (by kernel_rfl) noPanic_false (by kernel_rfl) (fun _ _ => by kernel_rfl) hS0 ?_
              refine tk 29 64 (.bool true) (fuel := 5) rfl (by kernel_rfl) (by kernel_rfl) (by kernel_rfl) (by kernel_rfl) noPanic_false (by kernel_rfl) (fun _ _ => by kernel_rfl) hS0 ?_
              refine tkSkip 30 65 (fuel := 4) rfl (by kernel_rfl) (by kernel_rfl) (by kernel_rfl) (by kernel_rfl) noPanic_false (by kernel_rfl) hS0 ?_
              refine tkSkip 31 66 (fuel := 3) rfl (by kernel_rfl) (by kernel_rfl) (by kernel_rfl) (by kernel_rfl) noPanic_false (by kernel_rfl) hS0 ?_
              refine tkSkip 32 67 (fuel := 2) rfl (by kernel_rfl) (by kernel_rfl) (by kernel_rfl) (by kernel_rfl) noPanic_false (by kernel_rfl) hS0 ?_
              refine tkSkip 33 68 (fuel := 1) rfl (by kernel_rfl) (by kernel_rfl) (by kernel_rfl) (by kernel_rfl) noPanic_false (by kernel_rfl) hS0 ?_
              refine tk 34 69 (.bool true) (fuel := 0) rfl (by kernel_rfl) (by kernel_rfl) (by kernel_rfl) (by kernel_rfl) noPanic_false (by kernel_rfl) (fun _ _ => by kernel_rfl) hS0 ?_
              refine wpAnyH_done (by kernel_rfl) (NoPanic.normal ?_) _
              have HFI : Hid (After w _) := hS0.1
              clear hS0
              go_simp
              go_wp2
              refine bodyPost_ret (v := .tuple #[.slice none 0 0, .int .i64 4]) (by simp [results, Try.results24, go_sem]) rfl ⟨HFI.out, .inr ⟨by rw [putE_form HBAD.out]; decide, by rw [putE_form HBAD.out]; rfl⟩⟩
          · obtain ⟨j, hj⟩ : ∃ j, i = j + 1 := ⟨i - 1, by omega⟩
            have HI0 : Hid (decide (0 < i) = true) := decide_eq_true (by omega)
            have HJ : Hid (i = j + 1 ∧ i < 4611686018427387904 ∧ j < n) := ⟨hj, by omega, by omega⟩
            obtain ⟨y, hy⟩ : ∃ y, X[j]? = some y := ⟨_, List.getElem?_eq_getElem (by rw [HL.out.2]; omega)⟩
            obtain ⟨yb, yo, hya, hyr⟩ := HL.out.1.sl.at (rs_get hy)
            cases hya
            have HY : Hid (w.rangeAt xb (xo + j * 3) (rxc y)) := hyr
            have HYO : Hid (X[j]? = some y) := hy
            clear hj hy hyr hi0
            by_cases hge : bytesBefore y.nm x.nm = true
            · have HGE : Hid (bytesBefore y.nm x.nm = true) := hge
              have HBO : Hid (∀ z, i ≠ 0 → X[i - 1]? = some z → bytesBefore z.nm x.nm = true) := fun z _ h => by rw [HJ.out.1, Nat.add_sub_cancel, HYO.out] at h; cases h; exact HGE.out
              clear hge
              by_cases hLK : LOk (bof x.X)
              · have HLK : Hid (LOk (bof x.X)) := hLK
                clear hLK
                have HLY : Hid (Calls Try.prog 47 #[.slice x.ba k x.bc] w2 fun e w' => ∃ a c, e = .returned (.tuple #[.agg #[.slice a k c], .int .i64 0]) ∧ After w2 w') := HLD.out.mono (fun e w' h => by
                  rcases h with ⟨_, a, c, Z, he, _, _, h9⟩ | ⟨h1, _⟩
                  · exact ⟨a, c, he, h9⟩
                  · exact absurd HLK.out h1)
                go_wp2_with (first
                  | (refine wpList_of_run rfl (x_ix22 (x := .tmp 25) (y := .tmp 26) (b := xb) (f := xo) (n := n) (c := ca) (i := i) rfl (by kernel_rfl) (by kernel_rfl) HLT.out) ?_)
                  | (refine wpList_of_run rfl (x_ld41 (x := .tmp 27) (g := xb) (p := xo + i * 3) (y := x) rfl (by kernel_rfl) HX.out) ?_)
                  | (refine wpList_of_run rfl (x_al41 rfl) ?_; rw [HGA.out])
                  | (refine wpList_store_row rfl 41 (.tmp 6) (.tmp 28) rfl gb (rxc x).toArray (by kernel_rfl) (by kernel_rfl) 41 _ HB.out.1 (size41 x) rfl (by simpa using rs_one [x] (rxc x) (by simp [rsL])) ?_; rw [HGW.out])
                  | (refine wpList_of_run rfl (x_al82 rfl) ?_; rw [HG3.out])
                  | (go_at_call 47; refine Calls.mono HLY.out ?_; rintro e w3 ⟨a3, c3, rfl, ha3⟩
                     obtain ⟨g3, hg3⟩ : ∃ g3, w3.heap.size = g3 := ⟨_, rfl⟩
                     obtain ⟨w5, hw5⟩ : ∃ w5, (w3.alloc (.cells #[.slice none 0 0] 82)).setRow g3 #[.slice a3 k c3] = w5 := ⟨_, rfl⟩
                     have hrn : RowIs (w3.alloc (.cells #[.slice none 0 0] 82)) g3 82 [.slice none 0 0] := by rw [← hg3]; exact RowIs.new w3 82 _
                     have H5 : Hid (OwA w (preR (rsof X) i) v w5 ∧ RowIs w5 gb 41 [.string (strOf x.nm), .slice x.ba k x.bc, .slice x.a p x.c]) := by
                       have hA5 : After w2 w5 := by rw [← hw5, ← hg3]; exact ha3.trans (Below.row (after_alloc (After.refl w3) _) (Nat.le_refl _) _)
                       exact ⟨HI2.out.more hA5, HBR.out.below hA5 HBR.out.lt⟩
                     have HRN82 : Hid (RowIs (w3.alloc (.cells #[.slice none 0 0] 82)) g3 82 [.slice none 0 0]) := hrn
                     have HW5 : Hid ((w3.alloc (.cells #[.slice none 0 0] 82)).setRow g3 #[.slice a3 k c3] = w5) := hw5
                     have HG3 : Hid (w3.heap.size = g3) := hg3
                     clear ha3 hrn hw5 hg3)
                  | (refine wpList_store_row rfl 82 (.tmp 7) (.tmp 33) rfl g3 #[.slice a3 k c3] rfl rfl 82 _ HRN82.out size82 rfl (one82 _ _ _) ?_; rw [HW5.out]))
                have HS9 : Hid (After w w5 ∧ RowIs w5 gb 41 [.string (strOf x.nm), .slice x.ba k x.bc, .slice x.a p x.c]) := ⟨H5.out.1.aft, H5.out.2⟩
                by_cases hF : 4096 < p
                · have HFW : Hid (decide (4096 < p) = true) := decide_eq_true hF
                  have HBAD : Hid (¬ MOk (rsof X)) := fun hk => by have h9 := (hk.at' HXA.out.2.2.2).few; rw [show (rof x).2.2.length = p from HXA.out.2.2.1] at h9; have := of_decide_eq_true HFW.out; omega
                  clear hF
                  refine wp_region_noPanic ?_
                  refine wp_region_held_drew (S := fun W => After w W ∧ RowIs W gb 41 [.string (strOf x.nm), .slice x.ba k x.bc, .slice x.a p x.c]) (by kernel_rfl) (⟨HS9.out.1.drew, HS9.out.2⟩) ?_
                  intro hS0
                  refine tk 0 35 (.pointer (some ⟨gb, 0, none⟩)) (fuel := 34) rfl (by kernel_rfl) (by kernel_rfl) (by kernel_rfl) (by kernel_rfl) noPanic_false (by kernel_rfl) (fun _ _ => by kernel_rfl) hS0 ?_
                  refine tk 1 36 (.string (strOf x.nm)) (fuel := 33) rfl (by kernel_rfl) (by kernel_rfl) (by kernel_rfl) (by kernel_rfl) noPanic_false (by kernel_rfl) (fun W hW => x_loadT (x := .tmp 35) (t := 9) (g := gb) (j := 0) Try.underlying9 rfl (by kernel_rfl) (by kernel_rfl) (hW.2.cell (j := 0) rfl)) hS0 ?_
                  refine tkCallZ 2 37 48 #[.string (strOf x.nm)] (fun v w' => v = .bool true ∧ w' = w5.drew) (fuel := 32) rfl (by kernel_rfl) (by kernel_rfl) (by kernel_rfl) (fun _ => by kernel_rfl) ((HNM.out w5.drew).mono (fun e w' ⟨he, h⟩ => ⟨_, he, rfl, h⟩)) ?_
                  intro v1 w9 ⟨hv1, hw9⟩
                  subst hv1
                  subst hw9
                  refine ⟨hS0, ?_⟩
                  refine tk 3 38 (.bool false) (fuel := 31) rfl (by kernel_rfl) (by kernel_rfl) (by kernel_rfl) (by kernel_rfl) noPanic_false (by kernel_rfl) (fun _ _ => by kernel_rfl) hS0 ?_
                  refine tk 4 39 (.bool false) (fuel := 30) rfl (by kernel_rfl) (by kernel_rfl) (by kernel_rfl) (by kernel_rfl) noPanic_false (by kernel_rfl) (fun _ _ => by kernel_rfl) hS0 ?_
                  refine tk 5 40 (.int .i64 (i : Int)) (fuel := 29) rfl (by kernel_rfl) (by kernel_rfl) (by kernel_rfl) (by kernel_rfl) noPanic_false (by kernel_rfl) (fun _ _ => by kernel_rfl) hS0 ?_
                  refine tk 6 41 (.bool true) (fuel := 28) rfl (by kernel_rfl) (by kernel_rfl) (by kernel_rfl) (by kernel_rfl) noPanic_false (by kernel_rfl) (fun W _ => (x_gtr0 (x := .tmp 40) (k := i) (by kernel_rfl) (by kernel_rfl)).trans (by rw [HI0.out])) hS0 ?_
                  refine tk 7 42 (.bool true) (fuel := 27) rfl (by kernel_rfl) (by kernel_rfl) (by kernel_rfl) (by kernel_rfl) noPanic_false (by kernel_rfl) (fun _ _ => by kernel_rfl) hS0 ?_
                  refine tk 8 43 (.slice (some ⟨xb, xo, none⟩) n ca) (fuel := 26) rfl (by kernel_rfl) (by kernel_rfl) (by kernel_rfl) (by kernel_rfl) noPanic_false (by kernel_rfl) (fun _ _ => by kernel_rfl) hS0 ?_
                  refine tk 9 44 (.int .i64 (i : Int)) (fuel := 25) rfl (by kernel_rfl) (by kernel_rfl) (by kernel_rfl) (by kernel_rfl) noPanic_false (by kernel_rfl) (fun _ _ => by kernel_rfl) hS0 ?_
                  refine tk 10 45 (.int .i64 (j : Int)) (fuel := 24) rfl (by kernel_rfl) (by kernel_rfl) (by kernel_rfl) (by kernel_rfl) noPanic_false (by kernel_rfl) (fun W _ => x_sub1 (k := i) (i := j) (x := .tmp 44) (by kernel_rfl) (by kernel_rfl) HJ.out.1 HJ.out.2.1) hS0 ?_
                  refine tk 11 46 (.pointer (some ⟨xb, xo + j * 3, none⟩)) (fuel := 23) rfl (by kernel_rfl) (by kernel_rfl) (by kernel_rfl) (by kernel_rfl) noPanic_false (by kernel_rfl) (fun W _ => x_ix22 (n := n) (c := ca) (x := .tmp 43) (y := .tmp 45) (by kernel_rfl) (by kernel_rfl) (by kernel_rfl) HJ.out.2.2) hS0 ?_
                  refine tk 12 47 (.pointer (some ⟨xb, xo + j * 3, none⟩)) (fuel := 22) rfl (by kernel_rfl) (by kernel_rfl) (by kernel_rfl) (by kernel_rfl) noPanic_false (by kernel_rfl) (fun _ _ => by kernel_rfl) hS0 ?_
                  refine tk 13 48 (.string (strOf y.nm)) (fuel := 21) rfl (by kernel_rfl) (by kernel_rfl) (by kernel_rfl) (by kernel_rfl) noPanic_false (by kernel_rfl) (fun W hW => x_loadT (x := .tmp 47) (t := 9) (g := xb) (j := xo + j * 3 + 0) Try.underlying9 rfl (by kernel_rfl) (by kernel_rfl) (range_after HY.out hW.1 0 _ rfl)) hS0 ?_
                  refine tk 14 49 (.pointer (some ⟨gb, 0, none⟩)) (fuel := 20) rfl (by kernel_rfl) (by kernel_rfl) (by kernel_rfl) (by kernel_rfl) noPanic_false (by kernel_rfl) (fun _ _ => by kernel_rfl) hS0 ?_
                  refine tk 15 50 (.string (strOf x.nm)) (fuel := 19) rfl (by kernel_rfl) (by kernel_rfl) (by kernel_rfl) (by kernel_rfl) noPanic_false (by kernel_rfl) (fun W hW => x_loadT (x := .tmp 49) (t := 9) (g := gb) (j := 0) Try.underlying9 rfl (by kernel_rfl) (by kernel_rfl) (hW.2.cell (j := 0) rfl)) hS0 ?_
                  refine tk 16 51 (.bool false) (fuel := 18) rfl (by kernel_rfl) (by kernel_rfl) (by kernel_rfl) (by kernel_rfl) noPanic_false (by kernel_rfl) (fun W _ => (x_geq9 (s := y.nm) (t := x.nm) (x := .tmp 48) (y := .tmp 50) (by kernel_rfl) (by kernel_rfl) (by kernel_rfl)).trans (by rw [HGE.out]; rfl)) hS0 ?_
                  refine tk 17 52 (.bool false) (fuel := 17) rfl (by kernel_rfl) (by kernel_rfl) (by kernel_rfl) (by kernel_rfl) noPanic_false (by kernel_rfl) (fun _ _ => by kernel_rfl) hS0 ?_
                  refine tk 18 53 (.bool false) (fuel := 16) rfl (by kernel_rfl) (by kernel_rfl) (by kernel_rfl) (by kernel_rfl) noPanic_false (by kernel_rfl) (fun _ _ => by kernel_rfl) hS0 ?_
                  refine tk 19 54 (.bool false) (fuel := 15) rfl (by kernel_rfl) (by kernel_rfl) (by kernel_rfl) (by kernel_rfl) noPanic_false (by kernel_rfl) (fun _ _ => by kernel_rfl) hS0 ?_
                  refine tk 20 55 (.int .i64 0) (fuel := 14) rfl (by kernel_rfl) (by kernel_rfl) (by kernel_rfl) (by kernel_rfl) noPanic_false (by kernel_rfl) (fun _ _ => by kernel_rfl) hS0 ?_
                  refine tk 21 56 (.bool false) (fuel := 13) rfl (by kernel_rfl) (by kernel_rfl) (by kernel_rfl) (by kernel_rfl) noPanic_false (by kernel_rfl) (fun _ _ => by kernel_rfl) hS0 ?_
                  refine tk 22 57 (.bool false) (fuel := 12) rfl (by kernel_rfl) (by kernel_rfl) (by kernel_rfl) (by kernel_rfl) noPanic_false (by kernel_rfl) (fun _ _ => by kernel_rfl) hS0 ?_
                  refine tk 23 58 (.bool false) (fuel := 11) rfl (by kernel_rfl) (by kernel_rfl) (by kernel_rfl) (by kernel_rfl) noPanic_false (by kernel_rfl) (fun _ _ => by kernel_rfl) hS0 ?_
                  refine tk 24 59 (.pointer (some ⟨gb, 2, none⟩)) (fuel := 10) rfl (by kernel_rfl) (by kernel_rfl) (by kernel_rfl) (by kernel_rfl) noPanic_false (by kernel_rfl) (fun _ _ => by kernel_rfl) hS0 ?_
                  refine tk 25 60 (.slice x.a p x.c) (fuel := 9) rfl (by kernel_rfl) (by kernel_rfl) (by kernel_rfl) (by kernel_rfl) noPanic_false (by kernel_rfl) (fun W hW => x_loadT (x := .tmp 59) (t := 39) (g := gb) (j := 2) Try.underlying39 rfl (by kernel_rfl) (by kernel_rfl) (hW.2.cell (j := 2) rfl)) hS0 ?_
                  refine tk 26 61 (.int .i64 (p : Int)) (fuel := 8) rfl (by kernel_rfl) (by kernel_rfl) (by kernel_rfl) (by kernel_rfl) noPanic_false (by kernel_rfl) (fun _ _ => by kernel_rfl) hS0 ?_
                  refine tk 27 62 (.bool true) (fuel := 7) rfl (by kernel_rfl) (by kernel_rfl) (by kernel_rfl) (by kernel_rfl) noPanic_false (by kernel_rfl) (fun W _ => x_gtrC (x := .tmp 61) (k := p) (by kernel_rfl) (by kernel_rfl) HFW.out) hS0 ?_
                  refine tk 28 63 (.bool true) (fuel := 6) rfl (by kernel_rfl) (by kernel_rfl) (by kernel_rfl) (by kernel_rfl) noPanic_false (by kernel_rfl) (fun _ _ => by kernel_rfl) hS0 ?_
                  refine tk 29 64 (.bool true) (fuel := 5) rfl (by kernel_rfl) (by kernel_rfl) (by kernel_rfl) (by kernel_rfl) noPanic_false (by kernel_rfl) (fun _ _ => by kernel_rfl) hS0 ?_
                  refine tkSkip 30 65 (fuel := 4) rfl (by kernel_rfl) (by kernel_rfl) (by kernel_rfl) (by kernel_rfl) noPanic_false (by kernel_rfl) hS0 ?_
                  refine tkSkip 31 66 (fuel := 3) rfl (by kernel_rfl) (by kernel_rfl) (by kernel_rfl) (by kernel_rfl) noPanic_false (by kernel_rfl) hS0 ?_
                  refine tkSkip 32 67 (fuel := 2) rfl (by kernel_rfl) (by kernel_rfl) (by kernel_rfl) (by kernel_rfl) noPanic_false (by kernel_rfl) hS0 ?_
                  refine tkSkip 33 68 (fuel := 1) rfl (by kernel_rfl) (by kernel_rfl) (by kernel_rfl) (by kernel_rfl) noPanic_false (by kernel_rfl) hS0 ?_
                  refine tk 34 69 (.bool true) (fuel := 0) rfl (by kernel_rfl) (by kernel_rfl) (by kernel_rfl) (by kernel_rfl) noPanic_false (by kernel_rfl) (fun _ _ => by kernel_rfl) hS0 ?_
                  refine wpAnyH_done (by kernel_rfl) (NoPanic.normal ?_) _
                  have HFI : Hid (After w _) := hS0.1
                  clear hS0
                  go_simp
                  go_wp2
                  refine bodyPost_ret (v := .tuple #[.slice none 0 0, .int .i64 4]) (by simp [results, Try.results24, go_sem]) rfl ⟨HFI.out, .inr ⟨by rw [putE_form HBAD.out]; decide, by rw [putE_form HBAD.out]; rfl⟩⟩
                · have HFW : Hid (decide (4096 < p) = false) := decide_eq_false hF
                  clear hF
                  by_cases hU : upB x.l = true
                  · have HUP : Hid (∀ W : World, After w W → Calls Try.prog 49 #[.slice x.a p x.c] W fun e w' => e = .returned (.bool true) ∧ After W w') := fun W hW => by have := HUP0.out W hW; rw [hU] at this; exact this
                    have HG : Hid (nmB x.nm = true ∧ upB x.l = true ∧ LOk (bof x.X)) := ⟨HNT.out, hU, HLK.out⟩
                    clear hU
                    refine wp_region_noPanic ?_
                    refine wp_region_held_drew (S := fun W => After w W ∧ RowIs W gb 41 [.string (strOf x.nm), .slice x.ba k x.bc, .slice x.a p x.c]) (by kernel_rfl) (⟨HS9.out.1.drew, HS9.out.2⟩) ?_
                    intro hS0
                    refine tk 0 35 (.pointer (some ⟨gb, 0, none⟩)) (fuel := 34) rfl (by kernel_rfl) (by kernel_rfl) (by kernel_rfl) (by kernel_rfl) noPanic_false (by kernel_rfl) (fun _ _ => by kernel_rfl) hS0 ?_
                    refine tk 1 36 (.string (strOf x.nm)) (fuel := 33) rfl (by kernel_rfl) (by kernel_rfl) (by kernel_rfl) (by kernel_rfl) noPanic_false (by kernel_rfl) (fun W hW => x_loadT (x := .tmp 35) (t := 9) (g := gb) (j := 0) Try.underlying9 rfl (by kernel_rfl) (by kernel_rfl) (hW.2.cell (j := 0) rfl)) hS0 ?_
                    refine tkCallZ 2 37 48 #[.string (strOf x.nm)] (fun v w' => v = .bool true ∧ w' = w5.drew) (fuel := 32) rfl (by kernel_rfl) (by kernel_rfl) (by kernel_rfl) (fun _ => by kernel_rfl) ((HNM.out w5.drew).mono (fun e w' ⟨he, h⟩ => ⟨_, he, rfl, h⟩)) ?_
                    intro v1 w9 ⟨hv1, hw9⟩
                    subst hv1
                    subst hw9
                    refine ⟨hS0, ?_⟩
                    refine tk 3 38 (.bool false) (fuel := 31) rfl (by kernel_rfl) (by kernel_rfl) (by kernel_rfl) (by kernel_rfl) noPanic_false (by kernel_rfl) (fun _ _ => by kernel_rfl) hS0 ?_
                    refine tk 4 39 (.bool false) (fuel := 30) rfl (by kernel_rfl) (by kernel_rfl) (by kernel_rfl) (by kernel_rfl) noPanic_false (by kernel_rfl) (fun _ _ => by kernel_rfl) hS0 ?_
                    refine tk 5 40 (.int .i64 (i : Int)) (fuel := 29) rfl (by kernel_rfl) (by kernel_rfl) (by kernel_rfl) (by kernel_rfl) noPanic_false (by kernel_rfl) (fun _ _ => by kernel_rfl) hS0 ?_
                    refine tk 6 41 (.bool true) (fuel := 28) rfl (by kernel_rfl) (by kernel_rfl) (by kernel_rfl) (by kernel_rfl) noPanic_false (by kernel_rfl) (fun W _ => (x_gtr0 (x := .tmp 40) (k := i) (by kernel_rfl) (by kernel_rfl)).trans (by rw [HI0.out])) hS0 ?_
                    refine tk 7 42 (.bool true) (fuel := 27) rfl (by kernel_rfl) (by kernel_rfl) (by kernel_rfl) (by kernel_rfl) noPanic_false (by kernel_rfl) (fun _ _ => by kernel_rfl) hS0 ?_
                    refine tk 8 43 (.slice (some ⟨xb, xo, none⟩) n ca) (fuel := 26) rfl (by kernel_rfl) (by kernel_rfl) (by kernel_rfl) (by kernel_rfl) noPanic_false (by kernel_rfl) (fun _ _ => by kernel_rfl) hS0 ?_
                    refine tk 9 44 (.int .i64 (i : Int)) (fuel := 25) rfl (by kernel_rfl) (by kernel_rfl) (by kernel_rfl) (by kernel_rfl) noPanic_false (by kernel_rfl) (fun _ _ => by kernel_rfl) hS0 ?_
                    refine tk 10 45 (.int .i64 (j : Int)) (fuel := 24) rfl (by kernel_rfl) (by kernel_rfl) (by kernel_rfl) (by kernel_rfl) noPanic_false (by kernel_rfl) (fun W _ => x_sub1 (k := i) (i := j) (x := .tmp 44) (by kernel_rfl) (by kernel_rfl) HJ.out.1 HJ.out.2.1) hS0 ?_
                    refine tk 11 46 (.pointer (some ⟨xb, xo + j * 3, none⟩)) (fuel := 23) rfl (by kernel_rfl) (by kernel_rfl) (by kernel_rfl) (by kernel_rfl) noPanic_false (by kernel_rfl) (fun W _ => x_ix22 (n := n) (c := ca) (x := .tmp 43) (y := .tmp 45) (by kernel_rfl) (by kernel_rfl) (by kernel_rfl) HJ.out.2.2) hS0 ?_
                    refine tk 12 47 (.pointer (some ⟨xb, xo + j * 3, none⟩)) (fuel := 22) rfl (by kernel_rfl) (by kernel_rfl) (by kernel_rfl) (by kernel_rfl) noPanic_false (by kernel_rfl) (fun _ _ => by kernel_rfl) hS0 ?_
                    refine tk 13 48 (.string (strOf y.nm)) (fuel := 21) rfl (by kernel_rfl) (by kernel_rfl) (by kernel_rfl) (by kernel_rfl) noPanic_false (by kernel_rfl) (fun W hW => x_loadT (x := .tmp 47) (t := 9) (g := xb) (j := xo + j * 3 + 0) Try.underlying9 rfl (by kernel_rfl) (by kernel_rfl) (range_after HY.out hW.1 0 _ rfl)) hS0 ?_
                    refine tk 14 49 (.pointer (some ⟨gb, 0, none⟩)) (fuel := 20) rfl (by kernel_rfl) (by kernel_rfl) (by kernel_rfl) (by kernel_rfl) noPanic_false (by kernel_rfl) (fun _ _ => by kernel_rfl) hS0 ?_
                    refine tk 15 50 (.string (strOf x.nm)) (fuel := 19) rfl (by kernel_rfl) (by kernel_rfl) (by kernel_rfl) (by kernel_rfl) noPanic_false (by kernel_rfl) (fun W hW => x_loadT (x := .tmp 49) (t := 9) (g := gb) (j := 0) Try.underlying9 rfl (by kernel_rfl) (by kernel_rfl) (hW.2.cell (j := 0) rfl)) hS0 ?_
                    refine tk 16 51 (.bool false) (fuel := 18) rfl (by kernel_rfl) (by kernel_rfl) (by kernel_rfl) (by kernel_rfl) noPanic_false (by kernel_rfl) (fun W _ => (x_geq9 (s := y.nm) (t := x.nm) (x := .tmp 48) (y := .tmp 50) (by kernel_rfl) (by kernel_rfl) (by kernel_rfl)).trans (by rw [HGE.out]; rfl)) hS0 ?_
                    refine tk 17 52 (.bool false) (fuel := 17) rfl (by kernel_rfl) (by kernel_rfl) (by kernel_rfl) (by kernel_rfl) noPanic_false (by kernel_rfl) (fun _ _ => by kernel_rfl) hS0 ?_
                    refine tk 18 53 (.bool false) (fuel := 16) rfl (by kernel_rfl) (by kernel_rfl) (by kernel_rfl) (by kernel_rfl) noPanic_false (by kernel_rfl) (fun _ _ => by kernel_rfl) hS0 ?_
                    refine tk 19 54 (.bool false) (fuel := 15) rfl (by kernel_rfl) (by kernel_rfl) (by kernel_rfl) (by kernel_rfl) noPanic_false (by kernel_rfl) (fun _ _ => by kernel_rfl) hS0 ?_
                    refine tk 20 55 (.int .i64 0) (fuel := 14) rfl (by kernel_rfl) (by kernel_rfl) (by kernel_rfl) (by kernel_rfl) noPanic_false (by kernel_rfl) (fun _ _ => by kernel_rfl) hS0 ?_
                    refine tk 21 56 (.bool false) (fuel := 13) rfl (by kernel_rfl) (by kernel_rfl) (by kernel_rfl) (by kernel_rfl) noPanic_false (by kernel_rfl) (fun _ _ => by kernel_rfl) hS0 ?_
                    refine tk 22 57 (.bool false) (fuel := 12) rfl (by kernel_rfl) (by kernel_rfl) (by kernel_rfl) (by kernel_rfl) noPanic_false (by kernel_rfl) (fun _ _ => by kernel_rfl) hS0 ?_
                    refine tk 23 58 (.bool false) (fuel := 11) rfl (by kernel_rfl) (by kernel_rfl) (by kernel_rfl) (by kernel_rfl) noPanic_false (by kernel_rfl) (fun _ _ => by kernel_rfl) hS0 ?_
                    refine tk 24 59 (.pointer (some ⟨gb, 2, none⟩)) (fuel := 10) rfl (by kernel_rfl) (by kernel_rfl) (by kernel_rfl) (by kernel_rfl) noPanic_false (by kernel_rfl) (fun _ _ => by kernel_rfl) hS0 ?_
                    refine tk 25 60 (.slice x.a p x.c) (fuel := 9) rfl (by kernel_rfl) (by kernel_rfl) (by kernel_rfl) (by kernel_rfl) noPanic_false (by kernel_rfl) (fun W hW => x_loadT (x := .tmp 59) (t := 39) (g := gb) (j := 2) Try.underlying39 rfl (by kernel_rfl) (by kernel_rfl) (hW.2.cell (j := 2) rfl)) hS0 ?_
                    refine tk 26 61 (.int .i64 (p : Int)) (fuel := 8) rfl (by kernel_rfl) (by kernel_rfl) (by kernel_rfl) (by kernel_rfl) noPanic_false (by kernel_rfl) (fun _ _ => by kernel_rfl) hS0 ?_
                    refine tk 27 62 (.bool false) (fuel := 7) rfl (by kernel_rfl) (by kernel_rfl) (by kernel_rfl) (by kernel_rfl) noPanic_false (by kernel_rfl) (fun W _ => x_gtrC (x := .tmp 61) (k := p) (by kernel_rfl) (by kernel_rfl) HFW.out) hS0 ?_
                    refine tk 28 63 (.bool false) (fuel := 6) rfl (by kernel_rfl) (by kernel_rfl) (by kernel_rfl) (by kernel_rfl) noPanic_false (by kernel_rfl) (fun _ _ => by kernel_rfl) hS0 ?_
                    refine tk 29 64 (.bool false) (fuel := 5) rfl (by kernel_rfl) (by kernel_rfl) (by kernel_rfl) (by kernel_rfl) noPanic_false (by kernel_rfl) (fun _ _ => by kernel_rfl) hS0 ?_
                    refine tk 30 65 (.pointer (some ⟨gb, 2, none⟩)) (fuel := 4) rfl (by kernel_rfl) (by kernel_rfl) (by kernel_rfl) (by kernel_rfl) noPanic_false (by kernel_rfl) (fun _ _ => by kernel_rfl) hS0 ?_
                    refine tk 31 66 (.slice x.a p x.c) (fuel := 3) rfl (by kernel_rfl) (by kernel_rfl) (by kernel_rfl) (by kernel_rfl) noPanic_false (by kernel_rfl) (fun W hW => x_loadT (x := .tmp 65) (t := 39) (g := gb) (j := 2) Try.underlying39 rfl (by kernel_rfl) (by kernel_rfl) (hW.2.cell (j := 2) rfl)) hS0 ?_
                    refine tkCallZ 32 67 49 #[.slice x.a p x.c] (fun v w' => v = .bool true ∧ After w5.drew w') (fuel := 2) rfl (by kernel_rfl) (by kernel_rfl) (by kernel_rfl) (fun _ => by kernel_rfl) ((HUP.out w5.drew hS0.1).mono (fun e w' ⟨he, h⟩ => ⟨_, he, rfl, h⟩)) ?_
                    intro v2 w6 ⟨hv2, ha6⟩
                    subst hv2
                    have hS6 : After w w6 ∧ RowIs w6 gb 41 [.string (strOf x.nm), .slice x.ba k x.bc, .slice x.a p x.c] := ⟨hS0.1.trans ha6, hS0.2.below ha6 hS0.2.lt⟩
                    have hD6 : After w5 w6 := (After.drew (After.refl w5)).trans ha6
                    clear ha6
                    refine ⟨hS6, ?_⟩
                    refine tk 33 68 (.bool false) (fuel := 1) rfl (by kernel_rfl) (by kernel_rfl) (by kernel_rfl) (by kernel_rfl) noPanic_false (by kernel_rfl) (fun _ _ => by kernel_rfl) hS6 ?_
                    refine tk 34 69 (.bool false) (fuel := 0) rfl (by kernel_rfl) (by kernel_rfl) (by kernel_rfl) (by kernel_rfl) noPanic_false (by kernel_rfl) (fun _ _ => by kernel_rfl) hS6 ?_
                    refine wpAnyH_done (by kernel_rfl) (NoPanic.normal ?_) _
                    have H6 : Hid (OwA w (preR (rsof X) i) v w6 ∧ RowIs w6 gb 41 [.string (strOf x.nm), .slice x.ba k x.bc, .slice x.a p x.c]) := ⟨H5.out.1.more hD6, hS6.2⟩
                    have HRO : Hid (ROk (rof x)) := ⟨HG.out.1, by rw [show (rof x).2.2.length = p from HXA.out.2.2.1]; have := of_decide_eq_false HFW.out; omega, HG.out.2.1, HG.out.2.2⟩
                    clear hS0 hS6 hD6
                    have hk64 : k ≤ 64 := by have := HRO.out.brs.few; rw [show (rof x).2.1.length = x.X.length from bof_len _, HXA.out.2.1] at this; exact this
                    have hp4 : p ≤ 4096 := by have := HRO.out.few; rw [show (rof x).2.2.length = x.l.length from rfl, HXA.out.2.2.1] at this; exact this
                    have hk63 : k < 9223372036854775808 := by omega
                    have hnm : x.nm.length ≤ 32 := nmB_len HRO.out.nam
                    obtain ⟨s0, hs0⟩ : ∃ s0, (textB x.nm).length = s0 := ⟨_, rfl⟩
                    obtain ⟨s1, hs1⟩ : ∃ s1, (uintB k).length = s1 := ⟨_, rfl⟩
                    obtain ⟨s2, hs2⟩ : ∃ s2, (hsB x.l).length = s2 := ⟨_, rfl⟩
                    have hs0b : s0 ≤ 42 := by rw [← hs0]; exact textB_len hnm
                    have hs1b : s1 ≤ 10 := by rw [← hs1]; exact uintB_len10 k (by omega)
                    have hs2b : s2 ≤ 131082 := by rw [← hs2]; have := hsB_len HXA.out.1.l32 (by rw [HXA.out.2.2.1]; exact hp4); have h9 := HXA.out.2.2.1; omega
                    have hs1p : 0 < s1 := by rw [← hs1]; exact List.length_pos_iff.2 (uintB_ne _)
                    have hs0p : 0 < s0 := by rw [← hs0]; unfold textB; rw [List.length_append]; have := List.length_pos_iff.2 (uintB_ne x.nm.length); omega
                    have hs2p : 0 < s2 := by rw [← hs2]; unfold hsB; rw [List.length_append]; have := List.length_pos_iff.2 (uintB_ne x.l.length); omega
                    have HS : Hid ((textB x.nm).length = s0 ∧ (uintB k).length = s1 ∧ (hsB x.l).length = s2 ∧ 0 < s0 ∧ 0 < s1) := ⟨hs0, hs1, hs2, hs0p, hs1p⟩
                    have HTX : Hid (∀ W : World, Calls Try.prog 50 #[.string (strOf x.nm)] W fun e w' => ∃ a c, e = .returned (.slice a s0 c) ∧ BytesAt w' a (textB x.nm) ∧ After W w') := fun W => rtext_sl x.nm s0 (by omega) hs0 W
                    have HUK : Hid (∀ W : World, Calls Try.prog 46 #[.int .u64 (k : Int)] W fun e w' => ∃ a c, e = .returned (.slice a s1 c) ∧ BytesAt w' a (uintB k) ∧ After W w') := fun W => ruint_sl k s1 (by omega) hs1 W
                    have HBL : Hid (∀ j, (preB (bof x.X) j).length ≤ 38410) := fun j => preB_len HRO.out.brs HXA.out.1.r32.brs j
                    have HB0 : Hid (uintB k = preB (bof x.X) 0) := by unfold preB Hid; rw [bof_len, HXA.out.2.1]; simp
                    have HPX : Hid (∀ W : World, After w W → Calls Try.prog 51 #[.slice x.a p x.c] W fun e w' => ∃ a c, e = .returned (.slice a s2 c) ∧ BytesAt w' a (hsB x.l) ∧ After W w') := fun W hW => rput_sl (ca := x.c) HXA.out.1.l32 HXA.out.2.2.1 hs2 (by omega) (HXA.out.1.sl.after hW)
                    have HRN : Hid (preR (rsof X) i ++ textB x.nm ++ brsB (bof x.X) ++ hsB x.l = preR (rsof X) (i + 1)) := by
                      have h9 : preR (rsof X) i ++ (textB x.nm ++ (brsB (bof x.X) ++ hsB x.l)) = preR (rsof X) (i + 1) := preR_next (rsof_get HXA.out.2.2.2)
                      unfold Hid
                      rw [← h9]; simp only [List.append_assoc]
                    have HMN : Hid (MOkT X (i + 1)) := HP.out.2.next HXA.out.2.2.2 HRO.out HBO.out
                    clear hs0 hs1 hs2 hnm
                    go_simp
                    go_wp2
                    refine wp_region_noPanic ?_
                    refine wp_region_held_drew (S := fun W => After w W ∧ RowIs W gb 41 [.string (strOf x.nm), .slice x.ba k x.bc, .slice x.a p x.c]) (by kernel_rfl) (⟨H6.out.1.aft.drew, H6.out.2⟩) ?_
                    intro hS1
                    refine tk 0 70 (v) (fuel := 11) rfl (by kernel_rfl) (by kernel_rfl) (by kernel_rfl) (by kernel_rfl) noPanic_false (by kernel_rfl) (fun _ _ => by kernel_rfl) hS1 ?_
                    refine tk 1 71 (.pointer (some ⟨gb, 0, none⟩)) (fuel := 10) rfl (by kernel_rfl) (by kernel_rfl) (by kernel_rfl) (by kernel_rfl) noPanic_false (by kernel_rfl) (fun _ _ => by kernel_rfl) hS1 ?_
                    refine tk 2 72 (.string (strOf x.nm)) (fuel := 9) rfl (by kernel_rfl) (by kernel_rfl) (by kernel_rfl) (by kernel_rfl) noPanic_false (by kernel_rfl) (fun W hW => x_loadT (x := .tmp 71) (t := 9) (g := gb) (j := 0) Try.underlying9 rfl (by kernel_rfl) (by kernel_rfl) (hW.2.cell (j := 0) rfl)) hS1 ?_
                    refine tk 5 75 (.pointer (some ⟨gb, 1, none⟩)) (fuel := 8) rfl (by kernel_rfl) (by kernel_rfl) (by kernel_rfl) (by kernel_rfl) noPanic_false (by kernel_rfl) (fun _ _ => by kernel_rfl) hS1 ?_
                    refine tk 6 76 (.slice x.ba k x.bc) (fuel := 7) rfl (by kernel_rfl) (by kernel_rfl) (by kernel_rfl) (by kernel_rfl) noPanic_false (by kernel_rfl) (fun W hW => x_loadT (x := .tmp 75) (t := 38) (g := gb) (j := 1) Try.underlying38 rfl (by kernel_rfl) (by kernel_rfl) (hW.2.cell (j := 1) rfl)) hS1 ?_
                    refine tk 7 77 (.int .i64 (k : Int)) (fuel := 6) rfl (by kernel_rfl) (by kernel_rfl) (by kernel_rfl) (by kernel_rfl) noPanic_false (by kernel_rfl) (fun _ _ => by kernel_rfl) hS1 ?_
                    refine tk 8 78 (.int .u64 (k : Int)) (fuel := 5) rfl (by kernel_rfl) (by kernel_rfl) (by kernel_rfl) (by kernel_rfl) noPanic_false (by kernel_rfl) (fun W _ => x_cv59 (x := .tmp 77) (k := k) hk63 (by kernel_rfl) (by kernel_rfl)) hS1 ?_
                    refine tkCallZ 3 73 50 #[.string (strOf x.nm)] (fun v w' => ∃ a c, v = .slice a s0 c ∧ BytesAt w' a (textB x.nm) ∧ After w6.drew w') (fuel := 4) rfl (by kernel_rfl) (by kernel_rfl) (by kernel_rfl) (fun _ => by kernel_rfl) ((HTX.out w6.drew).mono (fun e w' ⟨a, c, he, h1, h2⟩ => ⟨_, he, a, c, rfl, h1, h2⟩)) ?_
                    intro v3 w7 ⟨a3, c3, hv3, hb3, ha3⟩
                    subst hv3
                    have o7 : OwA w (preR (rsof X) i) v w7 := (H6.out.1.more (After.drew (After.refl w6))).more ha3
                    have q7 : RowIs w7 gb 41 [.string (strOf x.nm), .slice x.ba k x.bc, .slice x.a p x.c] := (show RowIs w6.drew gb 41 _ from H6.out.2).below ha3 (show RowIs w6.drew gb 41 _ from H6.out.2).lt
                    refine ⟨⟨o7.aft, q7⟩, ?_⟩
                    obtain ⟨v8, w8, r8, o8, g8⟩ := o7.run (c := c3) HS.out.1 (by have := HS.out.2.2.2.1; omega) hb3 (by have := HPI.out; omega)
                    have q8 := q7.keep (by decide) o7.own g8
                    refine tkRunS 4 74 (v8) (w8) (fuel := 3) rfl (by kernel_rfl) (by kernel_rfl) (by kernel_rfl) (x_app (t := 26) (s := .tmp 70) (x := .tmp 73) rfl (by kernel_rfl) (by kernel_rfl) r8) (⟨o8.aft, q8⟩) ?_
                    refine tkCallZ 9 79 46 #[.int .u64 (k : Int)] (fun v w' => ∃ a c, v = .slice a s1 c ∧ BytesAt w' a (uintB k) ∧ After w8 w') (fuel := 2) rfl (by kernel_rfl) (by kernel_rfl) (by kernel_rfl) (fun _ => by kernel_rfl) ((HUK.out w8).mono (fun e w' ⟨a, c, he, h1, h2⟩ => ⟨_, he, a, c, rfl, h1, h2⟩)) ?_
                    intro v9 w9 ⟨a9, c9, hv9, hb9, ha9⟩
                    subst hv9
                    have o9 := o8.more ha9
                    have q9 := q8.below ha9 q8.lt
                    refine ⟨⟨o9.aft, q9⟩, ?_⟩
                    obtain ⟨vA, wA, rA, oA, gA⟩ := o9.run (c := c9) HS.out.2.1 (by have := HS.out.2.2.2.2; omega) hb9 (by have := HPI.out; have := HS.out.1; rw [List.length_append]; omega)
                    have qA := q9.keep (by decide) o9.own gA
                    refine tkRunS 10 80 (vA) (wA) (fuel := 1) rfl (by kernel_rfl) (by kernel_rfl) (by kernel_rfl) (x_app (t := 26) (s := .tmp 74) (x := .tmp 79) rfl (by kernel_rfl) (by kernel_rfl) rA) (⟨oA.aft, qA⟩) ?_
                    refine tk 11 4 (vA) (fuel := 0) rfl (by kernel_rfl) (by kernel_rfl) (by kernel_rfl) (by kernel_rfl) noPanic_false (by kernel_rfl) (fun _ _ => by kernel_rfl) ⟨oA.aft, qA⟩ ?_
                    refine wpAnyH_done (by kernel_rfl) (NoPanic.normal ?_) _
                    have HA : Hid (OwA w (preR (rsof X) i ++ textB x.nm ++ preB (bof x.X) 0) vA wA ∧ RowIs wA gb 41 [.string (strOf x.nm), .slice x.ba k x.bc, .slice x.a p x.c]) := ⟨by rw [← HB0.out]; exact oA, qA⟩
                    clear hS1 hb3 ha3 o7 q7 r8 o8 g8 q8 hb9 ha9 o9 q9 rA oA gA qA
                    go_simp
                    go_wp2
                    go_loopw [4, 9] (fun v' jv wj => ∃ j : Nat, j ≤ k ∧ jv = .int .i64 (j : Int) ∧ Hid (OwA w (preR (rsof X) i ++ textB x.nm ++ preB (bof x.X) j) v' wj ∧ RowIs wj gb 41 [.string (strOf x.nm), .slice x.ba k x.bc, .slice x.a p x.c])) (fun _ jv _ => k - (intOf jv).toNat)
                    case atStart => exact ⟨0, Nat.zero_le _, rfl, HA.out⟩
                    case round =>
                      obtain ⟨j, hjk, rfl, HJ⟩ := hrel
                      obtain ⟨vj, rfl⟩ : ∃ v, v = u4 := ⟨_, rfl⟩
                      have e1 := HJ.out.2.cell (j := 1) rfl
                      have e2 := HJ.out.2.cell (j := 2) rfl
                      by_cases hlt2 : j < k
                      · have hjj : (j : Int) < (k : Int) := by omega
                        have HLT2 : Hid (j < k) := hlt2
                        obtain ⟨y, hy⟩ : ∃ y, x.X[j]? = some y := ⟨_, List.getElem?_eq_getElem (by rw [HXA.out.2.1]; exact hlt2)⟩
                        have hyb := HXA.out.1.bs.each y (List.mem_of_getElem? hy)
                        have hyo := HRO.out.brs.each _ (List.mem_of_getElem? (bof_get hy))
                        obtain ⟨yb, yo, hya, hyr⟩ := HXA.out.1.bs.sl.at (bs_get hy)
                        have HYA : Hid (x.ba = some ⟨yb, yo, none⟩) := hya
                        obtain ⟨q, hq⟩ : ∃ q, y.l.length = q := ⟨_, rfl⟩
                        have HY : Hid (w.rangeAt yb (yo + j * 2) [.string (strOf y.nm), .slice y.a q y.c]) := by have := hyr; unfold brc Bx.v at this; rw [hq] at this; exact this
                        have hq16 : q ≤ 16 := by rw [← hq]; exact mayB_len hyo.2
                        have hynm : y.nm.length ≤ 32 := nmB_len hyo.1
                        obtain ⟨t0, ht0⟩ : ∃ t0, (textB y.nm).length = t0 := ⟨_, rfl⟩
                        obtain ⟨t1, ht1⟩ : ∃ t1, (hsB y.l).length = t1 := ⟨_, rfl⟩
                        have ht0b : t0 ≤ 42 := by rw [← ht0]; exact textB_len hynm
                        have ht1b : t1 ≤ 522 := by rw [← ht1]; have := hsB_len hyb.l32 (by omega); omega
                        have ht0p : 0 < t0 := by rw [← ht0]; unfold textB; rw [List.length_append]; have := List.length_pos_iff.2 (uintB_ne y.nm.length); omega
                        have ht1p : 0 < t1 := by rw [← ht1]; unfold hsB; rw [List.length_append]; have := List.length_pos_iff.2 (uintB_ne y.l.length); omega
                        have HT : Hid ((textB y.nm).length = t0 ∧ (hsB y.l).length = t1 ∧ 0 < t0 ∧ 0 < t1) := ⟨ht0, ht1, ht0p, ht1p⟩
                        have HTY : Hid (∀ W : World, Calls Try.prog 50 #[.string (strOf y.nm)] W fun e w' => ∃ a c, e = .returned (.slice a t0 c) ∧ BytesAt w' a (textB y.nm) ∧ After W w') := fun W => rtext_sl y.nm t0 (by omega) ht0 W
                        have HPY : Hid (∀ W : World, After w W → Calls Try.prog 51 #[.slice y.a q y.c] W fun e w' => ∃ a c, e = .returned (.slice a t1 c) ∧ BytesAt w' a (hsB y.l) ∧ After W w') := fun W hW => rput_sl (ca := y.c) hyb.l32 hq ht1 (by omega) (hyb.sl.after hW)
                        have HBN : Hid (preB (bof x.X) j ++ brB (y.nm, y.l) = preB (bof x.X) (j + 1)) := preB_next (bof_get hy)
                        have HBJ : Hid ((preB (bof x.X) j).length ≤ 38410) := HBL.out j
                        clear hy hyb hyr hya hq ht0 ht1 hyo
                        go_wp2
                        refine wp_region_noPanic ?_
                        refine wp_region_held_drew (S := fun W => After w W ∧ RowIs W gb 41 [.string (strOf x.nm), .slice x.ba k x.bc, .slice x.a p x.c]) (by kernel_rfl) (⟨HJ.out.1.aft.drew, HJ.out.2⟩) ?_
                        intro hS2
                        refine tk 0 88 (vj) (fuel := 17) rfl (by kernel_rfl) (by kernel_rfl) (by kernel_rfl) (by kernel_rfl) noPanic_false (by kernel_rfl) (fun _ _ => by kernel_rfl) hS2 ?_
                        refine tk 1 89 (.pointer (some ⟨gb, 1, none⟩)) (fuel := 16) rfl (by kernel_rfl) (by kernel_rfl) (by kernel_rfl) (by kernel_rfl) noPanic_false (by kernel_rfl) (fun _ _ => by kernel_rfl) hS2 ?_
                        refine tk 2 90 (.slice (some ⟨yb, yo, none⟩) k x.bc) (fuel := 15) rfl (by kernel_rfl) (by kernel_rfl) (by kernel_rfl) (by kernel_rfl) noPanic_false (by kernel_rfl) (fun W hW => x_loadT (x := .tmp 89) (t := 38) (g := gb) (j := 1) Try.underlying38 rfl (by kernel_rfl) (by kernel_rfl) (by rw [← HYA.out]; exact hW.2.cell (j := 1) rfl)) hS2 ?_
                        refine tk 3 91 (.int .i64 (j : Int)) (fuel := 14) rfl (by kernel_rfl) (by kernel_rfl) (by kernel_rfl) (by kernel_rfl) noPanic_false (by kernel_rfl) (fun _ _ => by kernel_rfl) hS2 ?_
                        refine tk 4 92 (.pointer (some ⟨yb, yo + j * 2, none⟩)) (fuel := 13) rfl (by kernel_rfl) (by kernel_rfl) (by kernel_rfl) (by kernel_rfl) noPanic_false (by kernel_rfl) (fun W _ => x_idx25 (n := k) (c := x.bc) (x := .tmp 90) (y := .tmp 91) (by kernel_rfl) (by kernel_rfl) (by kernel_rfl) HLT2.out) hS2 ?_
                        refine tk 5 93 (.pointer (some ⟨yb, yo + j * 2, none⟩)) (fuel := 12) rfl (by kernel_rfl) (by kernel_rfl) (by kernel_rfl) (by kernel_rfl) noPanic_false (by kernel_rfl) (fun _ _ => by kernel_rfl) hS2 ?_
                        refine tk 6 94 (.string (strOf y.nm)) (fuel := 11) rfl (by kernel_rfl) (by kernel_rfl) (by kernel_rfl) (by kernel_rfl) noPanic_false (by kernel_rfl) (fun W hW => x_loadT (x := .tmp 93) (t := 9) (g := yb) (j := yo + j * 2 + 0) Try.underlying9 rfl (by kernel_rfl) (by kernel_rfl) (range_after HY.out hW.1 0 _ rfl)) hS2 ?_
                        refine tk 9 97 (.pointer (some ⟨gb, 1, none⟩)) (fuel := 10) rfl (by kernel_rfl) (by kernel_rfl) (by kernel_rfl) (by kernel_rfl) noPanic_false (by kernel_rfl) (fun _ _ => by kernel_rfl) hS2 ?_
                        refine tk 10 98 (.slice (some ⟨yb, yo, none⟩) k x.bc) (fuel := 9) rfl (by kernel_rfl) (by kernel_rfl) (by kernel_rfl) (by kernel_rfl) noPanic_false (by kernel_rfl) (fun W hW => x_loadT (x := .tmp 97) (t := 38) (g := gb) (j := 1) Try.underlying38 rfl (by kernel_rfl) (by kernel_rfl) (by rw [← HYA.out]; exact hW.2.cell (j := 1) rfl)) hS2 ?_
                        refine tk 11 99 (.int .i64 (j : Int)) (fuel := 8) rfl (by kernel_rfl) (by kernel_rfl) (by kernel_rfl) (by kernel_rfl) noPanic_false (by kernel_rfl) (fun _ _ => by kernel_rfl) hS2 ?_
                        refine tk 12 100 (.pointer (some ⟨yb, yo + j * 2, none⟩)) (fuel := 7) rfl (by kernel_rfl) (by kernel_rfl) (by kernel_rfl) (by kernel_rfl) noPanic_false (by kernel_rfl) (fun W _ => x_idx25 (n := k) (c := x.bc) (x := .tmp 98) (y := .tmp 99) (by kernel_rfl) (by kernel_rfl) (by kernel_rfl) HLT2.out) hS2 ?_
                        refine tk 13 101 (.pointer (some ⟨yb, yo + j * 2 + 1, none⟩)) (fuel := 6) rfl (by kernel_rfl) (by kernel_rfl) (by kernel_rfl) (by kernel_rfl) noPanic_false (by kernel_rfl) (fun _ _ => by kernel_rfl) hS2 ?_
                        refine tk 14 102 (.slice y.a q y.c) (fuel := 5) rfl (by kernel_rfl) (by kernel_rfl) (by kernel_rfl) (by kernel_rfl) noPanic_false (by kernel_rfl) (fun W hW => x_loadT (x := .tmp 101) (t := 39) (g := yb) (j := yo + j * 2 + 1) Try.underlying39 rfl (by kernel_rfl) (by kernel_rfl) (range_after HY.out hW.1 1 _ rfl)) hS2 ?_
                        refine tkCallZ 7 95 50 #[.string (strOf y.nm)] (fun v w' => ∃ a c, v = .slice a t0 c ∧ BytesAt w' a (textB y.nm) ∧ After wr.drew w') (fuel := 4) rfl (by kernel_rfl) (by kernel_rfl) (by kernel_rfl) (fun _ => by kernel_rfl) ((HTY.out wr.drew).mono (fun e w' ⟨a, c, he, h1, h2⟩ => ⟨_, he, a, c, rfl, h1, h2⟩)) ?_
                        intro v3 w7 ⟨a3, c3, hv3, hb3, ha3⟩
                        subst hv3
                        have o7 := (HJ.out.1.more (After.drew (After.refl wr))).more ha3
                        have q7 : RowIs w7 gb 41 [.string (strOf x.nm), .slice x.ba k x.bc, .slice x.a p x.c] := (show RowIs wr.drew gb 41 _ from HJ.out.2).below ha3 (show RowIs wr.drew gb 41 _ from HJ.out.2).lt
                        refine ⟨⟨o7.aft, q7⟩, ?_⟩
                        obtain ⟨v8, w8, r8, o8, g8⟩ := o7.run (c := c3) HT.out.1 (by have := HT.out.2.2.1; omega) hb3 (by have := HT.out.1; have := HPI.out; have := HS.out.1; have := HBJ.out; rw [List.length_append, List.length_append]; omega)
                        have q8 := q7.keep (by decide) o7.own g8
                        refine tkRunS 8 96 (v8) (w8) (fuel := 3) rfl (by kernel_rfl) (by kernel_rfl) (by kernel_rfl) (x_app (t := 26) (s := .tmp 88) (x := .tmp 95) rfl (by kernel_rfl) (by kernel_rfl) r8) (⟨o8.aft, q8⟩) ?_
                        refine tkCallZ 15 103 51 #[.slice y.a q y.c] (fun v w' => ∃ a c, v = .slice a t1 c ∧ BytesAt w' a (hsB y.l) ∧ After w8 w') (fuel := 2) rfl (by kernel_rfl) (by kernel_rfl) (by kernel_rfl) (fun _ => by kernel_rfl) ((HPY.out w8 o8.aft).mono (fun e w' ⟨a, c, he, h1, h2⟩ => ⟨_, he, a, c, rfl, h1, h2⟩)) ?_
                        intro v9 w9 ⟨a9, c9, hv9, hb9, ha9⟩
                        subst hv9
                        have o9 := o8.more ha9
                        have q9 := q8.below ha9 q8.lt
                        refine ⟨⟨o9.aft, q9⟩, ?_⟩
                        obtain ⟨vA, wA, rA, oA, gA⟩ := o9.run (c := c9) HT.out.2.1 (by have := HT.out.2.2.2; omega) hb9 (by have := HT.out.1; have := HT.out.2.1; have := HPI.out; have := HS.out.1; have := HBJ.out; rw [List.length_append, List.length_append, List.length_append]; omega)
                        have qA := q9.keep (by decide) o9.own gA
                        refine tkRunS 16 104 (vA) (wA) (fuel := 1) rfl (by kernel_rfl) (by kernel_rfl) (by kernel_rfl) (x_app (t := 26) (s := .tmp 96) (x := .tmp 103) rfl (by kernel_rfl) (by kernel_rfl) rA) (⟨oA.aft, qA⟩) ?_
                        refine tk 17 4 (vA) (fuel := 0) rfl (by kernel_rfl) (by kernel_rfl) (by kernel_rfl) (by kernel_rfl) noPanic_false (by kernel_rfl) (fun _ _ => by kernel_rfl) ⟨oA.aft, qA⟩ ?_
                        refine wpAnyH_done (by kernel_rfl) (NoPanic.normal ?_) _
                        have HNJ : Hid (OwA w (preR (rsof X) i ++ textB x.nm ++ preB (bof x.X) (j + 1)) vA wA ∧ RowIs wA gb 41 [.string (strOf x.nm), .slice x.ba k x.bc, .slice x.a p x.c]) := ⟨by
                          rw [← HBN.out]
                          simpa only [brB, List.append_assoc] using oA, qA⟩
                        clear hS2 hb3 ha3 o7 q7 r8 o8 g8 q8 hb9 ha9 o9 q9 rA oA gA qA
                        go_simp
                        go_wp2
                        go_roundw
                        case rel => exact ⟨j + 1, by omega, by go_num, HNJ⟩
                        case measure => simp [intOf]; omega
                      · have hjj : ¬ (j : Int) < (k : Int) := by omega
                        have HJE : Hid (OwA w (preR (rsof X) i ++ textB x.nm ++ brsB (bof x.X)) vj wr) := by
                          rw [← preB_all (n := j) (by rw [bof_len, HXA.out.2.1]; omega)]; exact HJ.out.1
                        have HBB : Hid ((brsB (bof x.X)).length ≤ 38410) := by unfold Hid; rw [← preB_all (n := k) (by rw [bof_len, HXA.out.2.1]; omega)]; exact HBL.out k
                        go_wp2_with (first
                          | (go_at_call 51; refine Calls.mono (HPX.out _ HJE.out.aft) ?_; rintro e x5 ⟨a5, c5, rfl, hb5, ha5⟩; have J5 : Hid (BytesAt x5 a5 (hsB x.l) ∧ OwA w (preR (rsof X) i ++ textB x.nm ++ brsB (bof x.X)) vj x5) := ⟨hb5, HJE.out.more ha5⟩; clear hb5 ha5)
                          | (at_builtin; refine wpList_append_any rfl (.tmp 105) (.tmp 108) rfl w.heap.size vj (preR (rsof X) i ++ textB x.nm ++ brsB (bof x.X)) rfl J5.out.2.own a5 c5 (hsB x.l) s2 HS.out.2.2.1 rfl J5.out.1 (by have := HS.out.1; have := HS.out.2.2.1; have := HPI.out; have := HBB.out; rw [List.length_append, List.length_append]; omega) J5.out.2.aft.size ?_
                             intro v6 x6 ho6 hg6
                             have J6 : Hid (OwA w (preR (rsof X) (i + 1)) v6 x6 ∧ MOkT X (i + 1)) := ⟨by
                               rw [← HRN.out]
                               exact J5.out.2.app ho6 hg6, HMN.out⟩
                             clear ho6 hg6))
                        go_roundw
                        case rel => exact ⟨i + 1, by omega, by go_num, J6⟩
                        case measure => simp [intOf]; omega
                  · have hU2 : upB x.l = false := by simpa using hU
                    have HUP : Hid (∀ W : World, After w W → Calls Try.prog 49 #[.slice x.a p x.c] W fun e w' => e = .returned (.bool false) ∧ After W w') := fun W hW => by have := HUP0.out W hW; rw [hU2] at this; exact this
                    have HBAD : Hid (¬ MOk (rsof X)) := fun hk => hU (hk.at' HXA.out.2.2.2).up
                    clear hU hU2
                    refine wp_region_noPanic ?_
                    refine wp_region_held_drew (S := fun W => After w W ∧ RowIs W gb 41 [.string (strOf x.nm), .slice x.ba k x.bc, .slice x.a p x.c]) (by kernel_rfl) (⟨HS9.out.1.drew, HS9.out.2⟩) ?_
                    intro hS0
                    refine tk 0 35 (.pointer (some ⟨gb, 0, none⟩)) (fuel := 34) rfl (by kernel_rfl) (by kernel_rfl) (by kernel_rfl) (by kernel_rfl) noPanic_false (by kernel_rfl) (fun _ _ => by kernel_rfl) hS0 ?_
                    refine tk 1 36 (.string (strOf x.nm)) (fuel := 33) rfl (by kernel_rfl) (by kernel_rfl) (by kernel_rfl) (by kernel_rfl) noPanic_false (by kernel_rfl) (fun W hW => x_loadT (x := .tmp 35) (t := 9) (g := gb) (j := 0) Try.underlying9 rfl (by kernel_rfl) (by kernel_rfl) (hW.2.cell (j := 0) rfl)) hS0 ?_
                    refine tkCallZ 2 37 48 #[.string (strOf x.nm)] (fun v w' => v = .bool true ∧ w' = w5.drew) (fuel := 32) rfl (by kernel_rfl) (by kernel_rfl) (by kernel_rfl) (fun _ => by kernel_rfl) ((HNM.out w5.drew).mono (fun e w' ⟨he, h⟩ => ⟨_, he, rfl, h⟩)) ?_
                    intro v1 w9 ⟨hv1, hw9⟩
                    subst hv1
                    subst hw9
                    refine ⟨hS0, ?_⟩
                    refine tk 3 38 (.bool false) (fuel := 31) rfl (by kernel_rfl) (by kernel_rfl) (by kernel_rfl) (by kernel_rfl) noPanic_false (by kernel_rfl) (fun _ _ => by kernel_rfl) hS0 ?_
                    refine tk 4 39 (.bool false) (fuel := 30) rfl (by kernel_rfl) (by kernel_rfl) (by kernel_rfl) (by kernel_rfl) noPanic_false (by kernel_rfl) (fun _ _ => by kernel_rfl) hS0 ?_
                    refine tk 5 40 (.int .i64 (i : Int)) (fuel := 29) rfl (by kernel_rfl) (by kernel_rfl) (by kernel_rfl) (by kernel_rfl) noPanic_false (by kernel_rfl) (fun _ _ => by kernel_rfl) hS0 ?_
                    refine tk 6 41 (.bool true) (fuel := 28) rfl (by kernel_rfl) (by kernel_rfl) (by kernel_rfl) (by kernel_rfl) noPanic_false (by kernel_rfl) (fun W _ => (x_gtr0 (x := .tmp 40) (k := i) (by kernel_rfl) (by kernel_rfl)).trans (by rw [HI0.out])) hS0 ?_
                    refine tk 7 42 (.bool true) (fuel := 27) rfl (by kernel_rfl) (by kernel_rfl) (by kernel_rfl) (by kernel_rfl) noPanic_false (by kernel_rfl) (fun _ _ => by kernel_rfl) hS0 ?_
                    refine tk 8 43 (.slice (some ⟨xb, xo, none⟩) n ca) (fuel := 26) rfl (by kernel_rfl) (by kernel_rfl) (by kernel_rfl) (by kernel_rfl) noPanic_false (by kernel_rfl) (fun _ _ => by kernel_rfl) hS0 ?_
                    refine tk 9 44 (.int .i64 (i : Int)) (fuel := 25) rfl (by kernel_rfl) (by kernel_rfl) (by kernel_rfl) (by kernel_rfl) noPanic_false (by kernel_rfl) (fun _ _ => by kernel_rfl) hS0 ?_
                    refine tk 10 45 (.int .i64 (j : Int)) (fuel := 24) rfl (by kernel_rfl) (by kernel_rfl) (by kernel_rfl) (by kernel_rfl) noPanic_false (by kernel_rfl) (fun W _ => x_sub1 (k := i) (i := j) (x := .tmp 44) (by kernel_rfl) (by kernel_rfl) HJ.out.1 HJ.out.2.1) hS0 ?_
                    refine tk 11 46 (.pointer (some ⟨xb, xo + j * 3, none⟩)) (fuel := 23) rfl (by kernel_rfl) (by kernel_rfl) (by kernel_rfl) (by kernel_rfl) noPanic_false (by kernel_rfl) (fun W _ => x_ix22 (n := n) (c := ca) (x := .tmp 43) (y := .tmp 45) (by kernel_rfl) (by kernel_rfl) (by kernel_rfl) HJ.out.2.2) hS0 ?_
                    refine tk 12 47 (.pointer (some ⟨xb, xo + j * 3, none⟩)) (fuel := 22) rfl (by kernel_rfl) (by kernel_rfl) (by kernel_rfl) (by kernel_rfl) noPanic_false (by kernel_rfl) (fun _ _ => by kernel_rfl) hS0 ?_
                    refine tk 13 48 (.string (strOf y.nm)) (fuel := 21) rfl (by kernel_rfl) (by kernel_rfl) (by kernel_rfl) (by kernel_rfl) noPanic_false (by kernel_rfl) (fun W hW => x_loadT (x := .tmp 47) (t := 9) (g := xb) (j := xo + j * 3 + 0) Try.underlying9 rfl (by kernel_rfl) (by kernel_rfl) (range_after HY.out hW.1 0 _ rfl)) hS0 ?_
                    refine tk 14 49 (.pointer (some ⟨gb, 0, none⟩)) (fuel := 20) rfl (by kernel_rfl) (by kernel_rfl) (by kernel_rfl) (by kernel_rfl) noPanic_false (by kernel_rfl) (fun _ _ => by kernel_rfl) hS0 ?_
                    refine tk 15 50 (.string (strOf x.nm)) (fuel := 19) rfl (by kernel_rfl) (by kernel_rfl) (by kernel_rfl) (by kernel_rfl) noPanic_false (by kernel_rfl) (fun W hW => x_loadT (x := .tmp 49) (t := 9) (g := gb) (j := 0) Try.underlying9 rfl (by kernel_rfl) (by kernel_rfl) (hW.2.cell (j := 0) rfl)) hS0 ?_
                    refine tk 16 51 (.bool false) (fuel := 18) rfl (by kernel_rfl) (by kernel_rfl) (by kernel_rfl) (by kernel_rfl) noPanic_false (by kernel_rfl) (fun W _ => (x_geq9 (s := y.nm) (t := x.nm) (x := .tmp 48) (y := .tmp 50) (by kernel_rfl) (by kernel_rfl) (by kernel_rfl)).trans (by rw [HGE.out]; rfl)) hS0 ?_
                    refine tk 17 52 (.bool false) (fuel := 17) rfl (by kernel_rfl) (by kernel_rfl) (by kernel_rfl) (by kernel_rfl) noPanic_false (by kernel_rfl) (fun _ _ => by kernel_rfl) hS0 ?_
                    refine tk 18 53 (.bool false) (fuel := 16) rfl (by kernel_rfl) (by kernel_rfl) (by kernel_rfl) (by kernel_rfl) noPanic_false (by kernel_rfl) (fun _ _ => by kernel_rfl) hS0 ?_
                    refine tk 19 54 (.bool false) (fuel := 15) rfl (by kernel_rfl) (by kernel_rfl) (by kernel_rfl) (by kernel_rfl) noPanic_false (by kernel_rfl) (fun _ _ => by kernel_rfl) hS0 ?_
                    refine tk 20 55 (.int .i64 0) (fuel := 14) rfl (by kernel_rfl) (by kernel_rfl) (by kernel_rfl) (by kernel_rfl) noPanic_false (by kernel_rfl) (fun _ _ => by kernel_rfl) hS0 ?_
                    refine tk 21 56 (.bool false) (fuel := 13) rfl (by kernel_rfl) (by kernel_rfl) (by kernel_rfl) (by kernel_rfl) noPanic_false (by kernel_rfl) (fun _ _ => by kernel_rfl) hS0 ?_
                    refine tk 22 57 (.bool false) (fuel := 12) rfl (by kernel_rfl) (by kernel_rfl) (by kernel_rfl) (by kernel_rfl) noPanic_false (by kernel_rfl) (fun _ _ => by kernel_rfl) hS0 ?_
                    refine tk 23 58 (.bool false) (fuel := 11) rfl (by kernel_rfl) (by kernel_rfl) (by kernel_rfl) (by kernel_rfl) noPanic_false (by kernel_rfl) (fun _ _ => by kernel_rfl) hS0 ?_
                    refine tk 24 59 (.pointer (some ⟨gb, 2, none⟩)) (fuel := 10) rfl (by kernel_rfl) (by kernel_rfl) (by kernel_rfl) (by kernel_rfl) noPanic_false (by kernel_rfl) (fun _ _ => by kernel_rfl) hS0 ?_
                    refine tk 25 60 (.slice x.a p x.c) (fuel := 9) rfl (by kernel_rfl) (by kernel_rfl) (by kernel_rfl) (by kernel_rfl) noPanic_false (by kernel_rfl) (fun W hW => x_loadT (x := .tmp 59) (t := 39) (g := gb) (j := 2) Try.underlying39 rfl (by kernel_rfl) (by kernel_rfl) (hW.2.cell (j := 2) rfl)) hS0 ?_
                    refine tk 26 61 (.int .i64 (p : Int)) (fuel := 8) rfl (by kernel_rfl) (by kernel_rfl) (by kernel_rfl) (by kernel_rfl) noPanic_false (by kernel_rfl) (fun _ _ => by kernel_rfl) hS0 ?_
                    refine tk 27 62 (.bool false) (fuel := 7) rfl (by kernel_rfl) (by kernel_rfl) (by kernel_rfl) (by kernel_rfl) noPanic_false (by kernel_rfl) (fun W _ => x_gtrC (x := .tmp 61) (k := p) (by kernel_rfl) (by kernel_rfl) HFW.out) hS0 ?_
                    refine tk 28 63 (.bool false) (fuel := 6) rfl (by kernel_rfl) (by kernel_rfl) (by kernel_rfl) (by kernel_rfl) noPanic_false (by kernel_rfl) (fun _ _ => by kernel_rfl) hS0 ?_
                    refine tk 29 64 (.bool false) (fuel := 5) rfl (by kernel_rfl) (by kernel_rfl) (by kernel_rfl) (by kernel_rfl) noPanic_false (by kernel_rfl) (fun _ _ => by kernel_rfl) hS0 ?_
                    refine tk 30 65 (.pointer (some ⟨gb, 2, none⟩)) (fuel := 4) rfl (by kernel_rfl) (by kernel_rfl) (by kernel_rfl) (by kernel_rfl) noPanic_false (by kernel_rfl) (fun _ _ => by kernel_rfl) hS0 ?_
                    refine tk 31 66 (.slice x.a p x.c) (fuel := 3) rfl (by kernel_rfl) (by kernel_rfl) (by kernel_rfl) (by kernel_rfl) noPanic_false (by kernel_rfl) (fun W hW => x_loadT (x := .tmp 65) (t := 39) (g := gb) (j := 2) Try.underlying39 rfl (by kernel_rfl) (by kernel_rfl) (hW.2.cell (j := 2) rfl)) hS0 ?_
                    refine tkCallZ 32 67 49 #[.slice x.a p x.c] (fun v w' => v = .bool false ∧ After w5.drew w') (fuel := 2) rfl (by kernel_rfl) (by kernel_rfl) (by kernel_rfl) (fun _ => by kernel_rfl) ((HUP.out w5.drew hS0.1).mono (fun e w' ⟨he, h⟩ => ⟨_, he, rfl, h⟩)) ?_
                    intro v2 w6 ⟨hv2, ha6⟩
                    subst hv2
                    have hS6 : After w w6 ∧ RowIs w6 gb 41 [.string (strOf x.nm), .slice x.ba k x.bc, .slice x.a p x.c] := ⟨hS0.1.trans ha6, hS0.2.below ha6 hS0.2.lt⟩
                    have hD6 : After w5 w6 := (After.drew (After.refl w5)).trans ha6
                    clear ha6
                    refine ⟨hS6, ?_⟩
                    refine tk 33 68 (.bool true) (fuel := 1) rfl (by kernel_rfl) (by kernel_rfl) (by kernel_rfl) (by kernel_rfl) noPanic_false (by kernel_rfl) (fun _ _ => by kernel_rfl) hS6 ?_
                    refine tk 34 69 (.bool true) (fuel := 0) rfl (by kernel_rfl) (by kernel_rfl) (by kernel_rfl) (by kernel_rfl) noPanic_false (by kernel_rfl) (fun _ _ => by kernel_rfl) hS6 ?_
                    refine wpAnyH_done (by kernel_rfl) (NoPanic.normal ?_) _
                    have HFI : Hid (After w _) := hS6.1
                    clear hS0
                    go_simp
                    go_wp2
                    refine bodyPost_ret (v := .tuple #[.slice none 0 0, .int .i64 4]) (by simp [results, Try.results24, go_sem]) rfl ⟨HFI.out, .inr ⟨by rw [putE_form HBAD.out]; decide, by rw [putE_form HBAD.out]; rfl⟩⟩
              · have HLK : Hid (¬ LOk (bof x.X)) := hLK
                clear hLK
                have HLY : Hid (Calls Try.prog 47 #[.slice x.ba k x.bc] w2 fun e w' => e = .returned (.tuple #[.agg #[.slice none 0 0], .int .i64 4]) ∧ After w2 w') := HLD.out.mono (fun e w' h => by
                  rcases h with ⟨h1, _⟩ | ⟨_, he, h9⟩
                  · exact absurd h1 HLK.out
                  · exact ⟨he, h9⟩)
                go_wp2_with (first
                  | (refine wpList_of_run rfl (x_ix22 (x := .tmp 25) (y := .tmp 26) (b := xb) (f := xo) (n := n) (c := ca) (i := i) rfl (by kernel_rfl) (by kernel_rfl) HLT.out) ?_)
                  | (refine wpList_of_run rfl (x_ld41 (x := .tmp 27) (g := xb) (p := xo + i * 3) (y := x) rfl (by kernel_rfl) HX.out) ?_)
                  | (refine wpList_of_run rfl (x_al41 rfl) ?_; rw [HGA.out])
                  | (refine wpList_store_row rfl 41 (.tmp 6) (.tmp 28) rfl gb (rxc x).toArray (by kernel_rfl) (by kernel_rfl) 41 _ HB.out.1 (size41 x) rfl (by simpa using rs_one [x] (rxc x) (by simp [rsL])) ?_; rw [HGW.out])
                  | (refine wpList_of_run rfl (x_al82 rfl) ?_; rw [HG3.out])
                  | (go_at_call 47; refine Calls.mono HLY.out ?_; rintro e w3 ⟨rfl, ha3⟩
                     obtain ⟨g3, hg3⟩ : ∃ g3, w3.heap.size = g3 := ⟨_, rfl⟩
                     obtain ⟨w5, hw5⟩ : ∃ w5, (w3.alloc (.cells #[.slice none 0 0] 82)).setRow g3 #[.slice none 0 0] = w5 := ⟨_, rfl⟩
                     have hrn : RowIs (w3.alloc (.cells #[.slice none 0 0] 82)) g3 82 [.slice none 0 0] := by rw [← hg3]; exact RowIs.new w3 82 _
                     have H5 : Hid (OwA w (preR (rsof X) i) v w5 ∧ RowIs w5 gb 41 [.string (strOf x.nm), .slice x.ba k x.bc, .slice x.a p x.c]) := by
                       have hA5 : After w2 w5 := by rw [← hw5, ← hg3]; exact ha3.trans (Below.row (after_alloc (After.refl w3) _) (Nat.le_refl _) _)
                       exact ⟨HI2.out.more hA5, HBR.out.below hA5 HBR.out.lt⟩
                     have HRN82 : Hid (RowIs (w3.alloc (.cells #[.slice none 0 0] 82)) g3 82 [.slice none 0 0]) := hrn
                     have HW5 : Hid ((w3.alloc (.cells #[.slice none 0 0] 82)).setRow g3 #[.slice none 0 0] = w5) := hw5
                     have HG3 : Hid (w3.heap.size = g3) := hg3
                     clear ha3 hrn hw5 hg3)
                  | (refine wpList_store_row rfl 82 (.tmp 7) (.tmp 33) rfl g3 #[.slice none 0 0] rfl rfl 82 _ HRN82.out size82 rfl (one82 _ _ _) ?_; rw [HW5.out]))
                have HS9 : Hid (After w w5 ∧ RowIs w5 gb 41 [.string (strOf x.nm), .slice x.ba k x.bc, .slice x.a p x.c]) := ⟨H5.out.1.aft, H5.out.2⟩
                have HBAD : Hid (¬ MOk (rsof X)) := fun hk => HLK.out (hk.at' HXA.out.2.2.2).brs
                refine wp_region_noPanic ?_
                refine wp_region_held_drew (S := fun W => After w W ∧ RowIs W gb 41 [.string (strOf x.nm), .slice x.ba k x.bc, .slice x.a p x.c]) (by kernel_rfl) (⟨HS9.out.1.drew, HS9.out.2⟩) ?_
                intro hS0
                refine tk 0 35 (.pointer (some ⟨gb, 0, none⟩)) (fuel := 34) rfl (by kernel_rfl) (by kernel_rfl) (by kernel_rfl) (by kernel_rfl) noPanic_false (by kernel_rfl) (fun _ _ => by kernel_rfl) hS0 ?_
                refine tk 1 36 (.string (strOf x.nm)) (fuel := 33) rfl (by kernel_rfl) (by kernel_rfl) (by kernel_rfl) (by kernel_rfl) noPanic_false (by kernel_rfl) (fun W hW => x_loadT (x := .tmp 35) (t := 9) (g := gb) (j := 0) Try.underlying9 rfl (by kernel_rfl) (by kernel_rfl) (hW.2.cell (j := 0) rfl)) hS0 ?_
                refine tkCallZ 2 37 48 #[.string (strOf x.nm)] (fun v w' => v = .bool true ∧ w' = w5.drew) (fuel := 32) rfl (by kernel_rfl) (by kernel_rfl) (by kernel_rfl) (fun _ => by kernel_rfl) ((HNM.out w5.drew).mono (fun e w' ⟨he, h⟩ => ⟨_, he, rfl, h⟩)) ?_
                intro v1 w9 ⟨hv1, hw9⟩
                subst hv1
                subst hw9
                refine ⟨hS0, ?_⟩
                refine tk 3 38 (.bool false) (fuel := 31) rfl (by kernel_rfl) (by kernel_rfl) (by kernel_rfl) (by kernel_rfl) noPanic_false (by kernel_rfl) (fun _ _ => by kernel_rfl) hS0 ?_
                refine tk 4 39 (.bool false) (fuel := 30) rfl (by kernel_rfl) (by kernel_rfl) (by kernel_rfl) (by kernel_rfl) noPanic_false (by kernel_rfl) (fun _ _ => by kernel_rfl) hS0 ?_
                refine tk 5 40 (.int .i64 (i : Int)) (fuel := 29) rfl (by kernel_rfl) (by kernel_rfl) (by kernel_rfl) (by kernel_rfl) noPanic_false (by kernel_rfl) (fun _ _ => by kernel_rfl) hS0 ?_
                refine tk 6 41 (.bool true) (fuel := 28) rfl (by kernel_rfl) (by kernel_rfl) (by kernel_rfl) (by kernel_rfl) noPanic_false (by kernel_rfl) (fun W _ => (x_gtr0 (x := .tmp 40) (k := i) (by kernel_rfl) (by kernel_rfl)).trans (by rw [HI0.out])) hS0 ?_
                refine tk 7 42 (.bool true) (fuel := 27) rfl (by kernel_rfl) (by kernel_rfl) (by kernel_rfl) (by kernel_rfl) noPanic_false (by kernel_rfl) (fun _ _ => by kernel_rfl) hS0 ?_
                refine tk 8 43 (.slice (some ⟨xb, xo, none⟩) n ca) (fuel := 26) rfl (by kernel_rfl) (by kernel_rfl) (by kernel_rfl) (by kernel_rfl) noPanic_false (by kernel_rfl) (fun _ _ => by kernel_rfl) hS0 ?_
                refine tk 9 44 (.int .i64 (i : Int)) (fuel := 25) rfl (by kernel_rfl) (by kernel_rfl) (by kernel_rfl) (by kernel_rfl) noPanic_false (by kernel_rfl) (fun _ _ => by kernel_rfl) hS0 ?_
                refine tk 10 45 (.int .i64 (j : Int)) (fuel := 24) rfl (by kernel_rfl) (by kernel_rfl) (by kernel_rfl) (by kernel_rfl) noPanic_false (by kernel_rfl) (fun W _ => x_sub1 (k := i) (i := j) (x := .tmp 44) (by kernel_rfl) (by kernel_rfl) HJ.out.1 HJ.out.2.1) hS0 ?_
                refine tk 11 46 (.pointer (some ⟨xb, xo + j * 3, none⟩)) (fuel := 23) rfl (by kernel_rfl) (by kernel_rfl) (by kernel_rfl) (by kernel_rfl) noPanic_false (by kernel_rfl) (fun W _ => x_ix22 (n := n) (c := ca) (x := .tmp 43) (y := .tmp 45) (by kernel_rfl) (by kernel_rfl) (by kernel_rfl) HJ.out.2.2) hS0 ?_
                refine tk 12 47 (.pointer (some ⟨xb, xo + j * 3, none⟩)) (fuel := 22) rfl (by kernel_rfl) (by kernel_rfl) (by kernel_rfl) (by kernel_rfl) noPanic_false (by kernel_rfl) (fun _ _ => by kernel_rfl) hS0 ?_
                refine tk 13 48 (.string (strOf y.nm)) (fuel := 21) rfl (by kernel_rfl) (by kernel_rfl) (by kernel_rfl) (by kernel_rfl) noPanic_false (by kernel_rfl) (fun W hW => x_loadT (x := .tmp 47) (t := 9) (g := xb) (j := xo + j * 3 + 0) Try.underlying9 rfl (by kernel_rfl) (by kernel_rfl) (range_after HY.out hW.1 0 _ rfl)) hS0 ?_
                refine tk 14 49 (.pointer (some ⟨gb, 0, none⟩)) (fuel := 20) rfl (by kernel_rfl) (by kernel_rfl) (by kernel_rfl) (by kernel_rfl) noPanic_false (by kernel_rfl) (fun _ _ => by kernel_rfl) hS0 ?_
                refine tk 15 50 (.string (strOf x.nm)) (fuel := 19) rfl (by kernel_rfl) (by kernel_rfl) (by kernel_rfl) (by kernel_rfl) noPanic_false (by kernel_rfl) (fun W hW => x_loadT (x := .tmp 49) (t := 9) (g := gb) (j := 0) Try.underlying9 rfl (by kernel_rfl) (by kernel_rfl) (hW.2.cell (j := 0) rfl)) hS0 ?_
                refine tk 16 51 (.bool false) (fuel := 18) rfl (by kernel_rfl) (by kernel_rfl) (by kernel_rfl) (by kernel_rfl) noPanic_false (by kernel_rfl) (fun W _ => (x_geq9 (s := y.nm) (t := x.nm) (x := .tmp 48) (y := .tmp 50) (by kernel_rfl) (by kernel_rfl) (by kernel_rfl)).trans (by rw [HGE.out]; rfl)) hS0 ?_
                refine tk 17 52 (.bool false) (fuel := 17) rfl (by kernel_rfl) (by kernel_rfl) (by kernel_rfl) (by kernel_rfl) noPanic_false (by kernel_rfl) (fun _ _ => by kernel_rfl) hS0 ?_
                refine tk 18 53 (.bool false) (fuel := 16) rfl (by kernel_rfl) (by kernel_rfl) (by kernel_rfl) (by kernel_rfl) noPanic_false (by kernel_rfl) (fun _ _ => by kernel_rfl) hS0 ?_
                refine tk 19 54 (.bool false) (fuel := 15) rfl (by kernel_rfl) (by kernel_rfl) (by kernel_rfl) (by kernel_rfl) noPanic_false (by kernel_rfl) (fun _ _ => by kernel_rfl) hS0 ?_
                refine tk 20 55 (.int .i64 4) (fuel := 14) rfl (by kernel_rfl) (by kernel_rfl) (by kernel_rfl) (by kernel_rfl) noPanic_false (by kernel_rfl) (fun _ _ => by kernel_rfl) hS0 ?_
                refine tk 21 56 (.bool true) (fuel := 13) rfl (by kernel_rfl) (by kernel_rfl) (by kernel_rfl) (by kernel_rfl) noPanic_false (by kernel_rfl) (fun _ _ => by kernel_rfl) hS0 ?_
                refine tk 22 57 (.bool true) (fuel := 12) rfl (by kernel_rfl) (by kernel_rfl) (by kernel_rfl) (by kernel_rfl) noPanic_false (by kernel_rfl) (fun _ _ => by kernel_rfl) hS0 ?_
                refine tk 23 58 (.bool true) (fuel := 11) rfl (by kernel_rfl) (by kernel_rfl) (by kernel_rfl) (by kernel_rfl) noPanic_false (by kernel_rfl) (fun _ _ => by kernel_rfl) hS0 ?_
                refine tkSkip 24 59 (fuel := 10) rfl (by kernel_rfl) (by kernel_rfl) (by kernel_rfl) (by kernel_rfl) noPanic_false (by kernel_rfl) hS0 ?_
                refine tkSkip 25 60 (fuel := 9) rfl (by kernel_rfl) (by kernel_rfl) (by kernel_rfl) (by kernel_rfl) noPanic_false (by kernel_rfl) hS0 ?_
                refine tkSkip 26 61 (fuel := 8) rfl (by kernel_rfl) (by kernel_rfl) (by kernel_rfl) (by kernel_rfl) noPanic_false (by kernel_rfl) hS0 ?_
                refine tkSkip 27 62 (fuel := 7) rfl (by kernel_rfl) (by kernel_rfl) (by kernel_rfl) (by kernel_rfl) noPanic_false (by kernel_rfl) hS0 ?_
                refine tk 28 63 (.bool true) (fuel := 6) rfl (by kernel_rfl) (by kernel_rfl) (by kernel_rfl) (by kernel_rfl) noPanic_false (by kernel_rfl) (fun _ _ => by kernel_rfl) hS0 ?_
                refine tk 29 64 (.bool true) (fuel := 5) rfl (by kernel_rfl) (by kernel_rfl) (by kernel_rfl) (by kernel_rfl) noPanic_false (by kernel_rfl) (fun _ _ => by kernel_rfl) hS0 ?_
                refine tkSkip 30 65 (fuel := 4) rfl (by kernel_rfl) (by kernel_rfl) (by kernel_rfl) (by kernel_rfl) noPanic_false (by kernel_rfl) hS0 ?_
                refine tkSkip 31 66 (fuel := 3) rfl (by kernel_rfl) (by kernel_rfl) (by kernel_rfl) (by kernel_rfl) noPanic_false (by kernel_rfl) hS0 ?_
                refine tkSkip 32 67 (fuel := 2) rfl (by kernel_rfl) (by kernel_rfl) (by kernel_rfl) (by kernel_rfl) noPanic_false (by kernel_rfl) hS0 ?_
                refine tkSkip 33 68 (fuel := 1) rfl (by kernel_rfl) (by kernel_rfl) (by kernel_rfl) (by kernel_rfl) noPanic_false (by kernel_rfl) hS0 ?_
                refine tk 34 69 (.bool true) (fuel := 0) rfl (by kernel_rfl) (by kernel_rfl) (by kernel_rfl) (by kernel_rfl) noPanic_false (by kernel_rfl) (fun _ _ => by kernel_rfl) hS0 ?_
                refine wpAnyH_done (by kernel_rfl) (NoPanic.normal ?_) _
                have HFI : Hid (After w _) := hS0.1
                clear hS0
                go_simp
                go_wp2
                refine bodyPost_ret (v := .tuple #[.slice none 0 0, .int .i64 4]) (by simp [results, Try.results24, go_sem]) rfl ⟨HFI.out, .inr ⟨by rw [putE_form HBAD.out]; decide, by rw [putE_form HBAD.out]; rfl⟩⟩
            · have hge2 : bytesBefore y.nm x.nm = false := by simpa using hge
              have HGE : Hid (bytesBefore y.nm x.nm = false) := hge2
              have HBAD : Hid (¬ MOk (rsof X)) := fun hk => by
                have h9 := hk.adj' (i := i) (by have := HJ.out.1; omega) HXA.out.2.2.2 (by rw [HJ.out.1, Nat.add_sub_cancel]; exact HYO.out)
                rw [HGE.out] at h9; cases h9
              clear hge hge2
              by_cases hLK : LOk (bof x.X)
              · have HLK : Hid (LOk (bof x.X)) := hLK
                clear hLK
                have HLY : Hid (Calls Try.prog 47 #[.slice x.ba k x.bc] w2 fun e w' => ∃ a c, e = .returned (.tuple #[.agg #[.slice a k c], .int .i64 0]) ∧ After w2 w') := HLD.out.mono (fun e w' h => by
                  rcases h with ⟨_, a, c, Z, he, _, _, h9⟩ | ⟨h1, _⟩
                  · exact ⟨a, c, he, h9⟩
                  · exact absurd HLK.out h1)
                go_wp2_with (first
                  | (refine wpList_of_run rfl (x_ix22 (x := .tmp 25) (y := .tmp 26) (b := xb) (f := xo) (n := n) (c := ca) (i := i) rfl (by kernel_rfl) (by kernel_rfl) HLT.out) ?_)
                  | (refine wpList_of_run rfl (x_ld41 (x := .tmp 27) (g := xb) (p := xo + i * 3) (y := x) rfl (by kernel_rfl) HX.out) ?_)
                  | (refine wpList_of_run rfl (x_al41 rfl) ?_; rw [HGA.out])
                  | (refine wpList_store_row rfl 41 (.tmp 6) (.tmp 28) rfl gb (rxc x).toArray (by kernel_rfl) (by kernel_rfl) 41 _ HB.out.1 (size41 x) rfl (by simpa using rs_one [x] (rxc x) (by simp [rsL])) ?_; rw [HGW.out])
                  | (refine wpList_of_run rfl (x_al82 rfl) ?_; rw [HG3.out])
                  | (go_at_call 47; refine Calls.mono HLY.out ?_; rintro e w3 ⟨a3, c3, rfl, ha3⟩
                     obtain ⟨g3, hg3⟩ : ∃ g3, w3.heap.size = g3 := ⟨_, rfl⟩
                     obtain ⟨w5, hw5⟩ : ∃ w5, (w3.alloc (.cells #[.slice none 0 0] 82)).setRow g3 #[.slice a3 k c3] = w5 := ⟨_, rfl⟩
                     have hrn : RowIs (w3.alloc (.cells #[.slice none 0 0] 82)) g3 82 [.slice none 0 0] := by rw [← hg3]; exact RowIs.new w3 82 _
                     have H5 : Hid (OwA w (preR (rsof X) i) v w5 ∧ RowIs w5 gb 41 [.string (strOf x.nm), .slice x.ba k x.bc, .slice x.a p x.c]) := by
                       have hA5 : After w2 w5 := by rw [← hw5, ← hg3]; exact ha3.trans (Below.row (after_alloc (After.refl w3) _) (Nat.le_refl _) _)
                       exact ⟨HI2.out.more hA5, HBR.out.below hA5 HBR.out.lt⟩
                     have HRN82 : Hid (RowIs (w3.alloc (.cells #[.slice none 0 0] 82)) g3 82 [.slice none 0 0]) := hrn
                     have HW5 : Hid ((w3.alloc (.cells #[.slice none 0 0] 82)).setRow g3 #[.slice a3 k c3] = w5) := hw5
                     have HG3 : Hid (w3.heap.size = g3) := hg3
                     clear ha3 hrn hw5 hg3)
                  | (refine wpList_store_row rfl 82 (.tmp 7) (.tmp 33) rfl g3 #[.slice a3 k c3] rfl rfl 82 _ HRN82.out size82 rfl (one82 _ _ _) ?_; rw [HW5.out]))
                have HS9 : Hid (After w w5 ∧ RowIs w5 gb 41 [.string (strOf x.nm), .slice x.ba k x.bc, .slice x.a p x.c]) := ⟨H5.out.1.aft, H5.out.2⟩
                refine wp_region_noPanic ?_
                refine wp_region_held_drew (S := fun W => After w W ∧ RowIs W gb 41 [.string (strOf x.nm), .slice x.ba k x.bc, .slice x.a p x.c]) (by kernel_rfl) (⟨HS9.out.1.drew, HS9.out.2⟩) ?_
                intro hS0
                refine tk 0 35 (.pointer (some ⟨gb, 0, none⟩)) (fuel := 34) rfl (by kernel_rfl) (by kernel_rfl) (by kernel_rfl) (by kernel_rfl) noPanic_false (by kernel_rfl) (fun _ _ => by kernel_rfl) hS0 ?_
                refine tk 1 36 (.string (strOf x.nm)) (fuel := 33) rfl (by kernel_rfl) (by kernel_rfl) (by kernel_rfl) (by kernel_rfl) noPanic_false (by kernel_rfl) (fun W hW => x_loadT (x := .tmp 35) (t := 9) (g := gb) (j := 0) Try.underlying9 rfl (by kernel_rfl) (by kernel_rfl) (hW.2.cell (j := 0) rfl)) hS0 ?_
                refine tkCallZ 2 37 48 #[.string (strOf x.nm)] (fun v w' => v = .bool true ∧ w' = w5.drew) (fuel := 32) rfl (by kernel_rfl) (by kernel_rfl) (by kernel_rfl) (fun _ => by kernel_rfl) ((HNM.out w5.drew).mono (fun e w' ⟨he, h⟩ => ⟨_, he, rfl, h⟩)) ?_
                intro v1 w9 ⟨hv1, hw9⟩
                subst hv1
                subst hw9
                refine ⟨hS0, ?_⟩
                refine tk 3 38 (.bool false) (fuel := 31) rfl (by kernel_rfl) (by kernel_rfl) (by kernel_rfl) (by kernel_rfl) noPanic_false (by kernel_rfl) (fun _ _ => by kernel_rfl) hS0 ?_
                refine tk 4 39 (.bool false) (fuel := 30) rfl (by kernel_rfl) (by kernel_rfl) (by kernel_rfl) (by kernel_rfl) noPanic_false (by kernel_rfl) (fun _ _ => by kernel_rfl) hS0 ?_
                refine tk 5 40 (.int .i64 (i : Int)) (fuel := 29) rfl (by kernel_rfl) (by kernel_rfl) (by kernel_rfl) (by kernel_rfl) noPanic_false (by kernel_rfl) (fun _ _ => by kernel_rfl) hS0 ?_
                refine tk 6 41 (.bool true) (fuel := 28) rfl (by kernel_rfl) (by kernel_rfl) (by kernel_rfl) (by kernel_rfl) noPanic_false (by kernel_rfl) (fun W _ => (x_gtr0 (x := .tmp 40) (k := i) (by kernel_rfl) (by kernel_rfl)).trans (by rw [HI0.out])) hS0 ?_
                refine tk 7 42 (.bool true) (fuel := 27) rfl (by kernel_rfl) (by kernel_rfl) (by kernel_rfl) (by kernel_rfl) noPanic_false (by kernel_rfl) (fun _ _ => by kernel_rfl) hS0 ?_
                refine tk 8 43 (.slice (some ⟨xb, xo, none⟩) n ca) (fuel := 26) rfl (by kernel_rfl) (by kernel_rfl) (by kernel_rfl) (by kernel_rfl) noPanic_false (by kernel_rfl) (fun _ _ => by kernel_rfl) hS0 ?_
                refine tk 9 44 (.int .i64 (i : Int)) (fuel := 25) rfl (by kernel_rfl) (by kernel_rfl) (by kernel_rfl) (by kernel_rfl) noPanic_false (by kernel_rfl) (fun _ _ => by kernel_rfl) hS0 ?_
                refine tk 10 45 (.int .i64 (j : Int)) (fuel := 24) rfl (by kernel_rfl) (by kernel_rfl) (by kernel_rfl) (by kernel_rfl) noPanic_false (by kernel_rfl) (fun W _ => x_sub1 (k := i) (i := j) (x := .tmp 44) (by kernel_rfl) (by kernel_rfl) HJ.out.1 HJ.out.2.1) hS0 ?_
                refine tk 11 46 (.pointer (some ⟨xb, xo + j * 3, none⟩)) (fuel := 23) rfl (by kernel_rfl) (by kernel_rfl) (by kernel_rfl) (by kernel_rfl) noPanic_false (by kernel_rfl) (fun W _ => x_ix22 (n := n) (c := ca) (x := .tmp 43) (y := .tmp 45) (by kernel_rfl) (by kernel_rfl) (by kernel_rfl) HJ.out.2.2) hS0 ?_
                refine tk 12 47 (.pointer (some ⟨xb, xo + j * 3, none⟩)) (fuel := 22) rfl (by kernel_rfl) (by kernel_rfl) (by kernel_rfl) (by kernel_rfl) noPanic_false (by kernel_rfl) (fun _ _ => by kernel_rfl) hS0 ?_
                refine tk 13 48 (.string (strOf y.nm)) (fuel := 21) rfl (by kernel_rfl) (by kernel_rfl) (by kernel_rfl) (by kernel_rfl) noPanic_false (by kernel_rfl) (fun W hW => x_loadT (x := .tmp 47) (t := 9) (g := xb) (j := xo + j * 3 + 0) Try.underlying9 rfl (by kernel_rfl) (by kernel_rfl) (range_after HY.out hW.1 0 _ rfl)) hS0 ?_
                refine tk 14 49 (.pointer (some ⟨gb, 0, none⟩)) (fuel := 20) rfl (by kernel_rfl) (by kernel_rfl) (by kernel_rfl) (by kernel_rfl) noPanic_false (by kernel_rfl) (fun _ _ => by kernel_rfl) hS0 ?_
                refine tk 15 50 (.string (strOf x.nm)) (fuel := 19) rfl (by kernel_rfl) (by kernel_rfl) (by kernel_rfl) (by kernel_rfl) noPanic_false (by kernel_rfl) (fun W hW => x_loadT (x := .tmp 49) (t := 9) (g := gb) (j := 0) Try.underlying9 rfl (by kernel_rfl) (by kernel_rfl) (hW.2.cell (j := 0) rfl)) hS0 ?_
                refine tk 16 51 (.bool true) (fuel := 18) rfl (by kernel_rfl) (by kernel_rfl) (by kernel_rfl) (by kernel_rfl) noPanic_false (by kernel_rfl) (fun W _ => (x_geq9 (s := y.nm) (t := x.nm) (x := .tmp 48) (y := .tmp 50) (by kernel_rfl) (by kernel_rfl) (by kernel_rfl)).trans (by rw [HGE.out]; rfl)) hS0 ?_
                refine tk 17 52 (.bool true) (fuel := 17) rfl (by kernel_rfl) (by kernel_rfl) (by kernel_rfl) (by kernel_rfl) noPanic_false (by kernel_rfl) (fun _ _ => by kernel_rfl) hS0 ?_
                refine tk 18 53 (.bool true) (fuel := 16) rfl (by kernel_rfl) (by kernel_rfl) (by kernel_rfl) (by kernel_rfl) noPanic_false (by kernel_rfl) (fun _ _ => by kernel_rfl) hS0 ?_
                refine tk 19 54 (.bool true) (fuel := 15) rfl (by kernel_rfl) (by kernel_rfl) (by kernel_rfl) (by kernel_rfl) noPanic_false (by kernel_rfl) (fun _ _ => by kernel_rfl) hS0 ?_
                refine tkSkip 20 55 (fuel := 14) rfl (by kernel_rfl) (by kernel_rfl) (by kernel_rfl) (by kernel_rfl) noPanic_false (by kernel_rfl) hS0 ?_
                refine tkSkip 21 56 (fuel := 13) rfl (by kernel_rfl) (by kernel_rfl) (by kernel_rfl) (by kernel_rfl) noPanic_false (by kernel_rfl) hS0 ?_
                refine tk 22 57 (.bool true) (fuel := 12) rfl (by kernel_rfl) (by kernel_rfl) (by kernel_rfl) (by kernel_rfl) noPanic_false (by kernel_rfl) (fun _ _ => by kernel_rfl) hS0 ?_
                refine tk 23 58 (.bool true) (fuel := 11) rfl (by kernel_rfl) (by kernel_rfl) (by kernel_rfl) (by kernel_rfl) noPanic_false (by kernel_rfl) (fun _ _ => by kernel_rfl) hS0 ?_
                refine tkSkip 24 59 (fuel := 10) rfl (by kernel_rfl) (by kernel_rfl) (by kernel_rfl) (by kernel_rfl) noPanic_false (by kernel_rfl) hS0 ?_
                refine tkSkip 25 60 (fuel := 9) rfl (by kernel_rfl) (by kernel_rfl) (by kernel_rfl) (by kernel_rfl) noPanic_false (by kernel_rfl) hS0 ?_
                refine tkSkip 26 61 (fuel := 8) rfl (by kernel_rfl) (by kernel_rfl) (by kernel_rfl) (by kernel_rfl) noPanic_false (by kernel_rfl) hS0 ?_
                refine tkSkip 27 62 (fuel := 7) rfl (by kernel_rfl) (by kernel_rfl) (by kernel_rfl) (by kernel_rfl) noPanic_false (by kernel_rfl) hS0 ?_
                refine tk 28 63 (.bool true) (fuel := 6) rfl (by kernel_rfl) (by kernel_rfl) (by kernel_rfl) (by kernel_rfl) noPanic_false (by kernel_rfl) (fun _ _ => by kernel_rfl) hS0 ?_
                refine tk 29 64 (.bool true) (fuel := 5) rfl (by kernel_rfl) (by kernel_rfl) (by kernel_rfl) (by kernel_rfl) noPanic_false (by kernel_rfl) (fun _ _ => by kernel_rfl) hS0 ?_
                refine tkSkip 30 65 (fuel := 4) rfl (by kernel_rfl) (by kernel_rfl) (by kernel_rfl) (by kernel_rfl) noPanic_false (by kernel_rfl) hS0 ?_
                refine tkSkip 31 66 (fuel := 3) rfl (by kernel_rfl) (by kernel_rfl) (by kernel_rfl) (by kernel_rfl) noPanic_false (by kernel_rfl) hS0 ?_
                refine tkSkip 32 67 (fuel := 2) rfl (by kernel_rfl) (by kernel_rfl) (by kernel_rfl) (by kernel_rfl) noPanic_false (by kernel_rfl) hS0 ?_
                refine tkSkip 33 68 (fuel := 1) rfl (by kernel_rfl) (by kernel_rfl) (by kernel_rfl) (by kernel_rfl) noPanic_false (by kernel_rfl) hS0 ?_
                refine tk 34 69 (.bool true) (fuel := 0) rfl (by kernel_rfl) (by kernel_rfl) (by kernel_rfl) (by kernel_rfl) noPanic_false (by kernel_rfl) (fun _ _ => by kernel_rfl) hS0 ?_
                refine wpAnyH_done (by kernel_rfl) (NoPanic.normal ?_) _
                have HFI : Hid (After w _) := hS0.1
                clear hS0
                go_simp
                go_wp2
                refine bodyPost_ret (v := .tuple #[.slice none 0 0, .int .i64 4]) (by simp [results, Try.results24, go_sem]) rfl ⟨HFI.out, .inr ⟨by rw [putE_form HBAD.out]; decide, by rw [putE_form HBAD.out]; rfl⟩⟩
              · have HLK : Hid (¬ LOk (bof x.X)) := hLK
                clear hLK
                have HLY : Hid (Calls Try.prog 47 #[.slice x.ba k x.bc] w2 fun e w' => e = .returned (.tuple #[.agg #[.slice none 0 0], .int .i64 4]) ∧ After w2 w') := HLD.out.mono (fun e w' h => by
                  rcases h with ⟨h1, _⟩ | ⟨_, he, h9⟩
                  · exact absurd h1 HLK.out
                  · exact ⟨he, h9⟩)
                go_wp2_with (first
                  | (refine wpList_of_run rfl (x_ix22 (x := .tmp 25) (y := .tmp 26) (b := xb) (f := xo) (n := n) (c := ca) (i := i) rfl (by kernel_rfl) (by kernel_rfl) HLT.out) ?_)
                  | (refine wpList_of_run rfl (x_ld41 (x := .tmp 27) (g := xb) (p := xo + i * 3) (y := x) rfl (by kernel_rfl) HX.out) ?_)
                  | (refine wpList_of_run rfl (x_al41 rfl) ?_; rw [HGA.out])
                  | (refine wpList_store_row rfl 41 (.tmp 6) (.tmp 28) rfl gb (rxc x).toArray (by kernel_rfl) (by kernel_rfl) 41 _ HB.out.1 (size41 x) rfl (by simpa using rs_one [x] (rxc x) (by simp [rsL])) ?_; rw [HGW.out])
                  | (refine wpList_of_run rfl (x_al82 rfl) ?_; rw [HG3.out])
                  | (go_at_call 47; refine Calls.mono HLY.out ?_; rintro e w3 ⟨rfl, ha3⟩
                     obtain ⟨g3, hg3⟩ : ∃ g3, w3.heap.size = g3 := ⟨_, rfl⟩
                     obtain ⟨w5, hw5⟩ : ∃ w5, (w3.alloc (.cells #[.slice none 0 0] 82)).setRow g3 #[.slice none 0 0] = w5 := ⟨_, rfl⟩
                     have hrn : RowIs (w3.alloc (.cells #[.slice none 0 0] 82)) g3 82 [.slice none 0 0] := by rw [← hg3]; exact RowIs.new w3 82 _
                     have H5 : Hid (OwA w (preR (rsof X) i) v w5 ∧ RowIs w5 gb 41 [.string (strOf x.nm), .slice x.ba k x.bc, .slice x.a p x.c]) := by
                       have hA5 : After w2 w5 := by rw [← hw5, ← hg3]; exact ha3.trans (Below.row (after_alloc (After.refl w3) _) (Nat.le_refl _) _)
                       exact ⟨HI2.out.more hA5, HBR.out.below hA5 HBR.out.lt⟩
                     have HRN82 : Hid (RowIs (w3.alloc (.cells #[.slice none 0 0] 82)) g3 82 [.slice none 0 0]) := hrn
                     have HW5 : Hid ((w3.alloc (.cells #[.slice none 0 0] 82)).setRow g3 #[.slice none 0 0] = w5) := hw5
                     have HG3 : Hid (w3.heap.size = g3) := hg3
                     clear ha3 hrn hw5 hg3)
                  | (refine wpList_store_row rfl 82 (.tmp 7) (.tmp 33) rfl g3 #[.slice none 0 0] rfl rfl 82 _ HRN82.out size82 rfl (one82 _ _ _) ?_; rw [HW5.out]))
                have HS9 : Hid (After w w5 ∧ RowIs w5 gb 41 [.string (strOf x.nm), .slice x.ba k x.bc, .slice x.a p x.c]) := ⟨H5.out.1.aft, H5.out.2⟩
                refine wp_region_noPanic ?_
                refine wp_region_held_drew (S := fun W => After w W ∧ RowIs W gb 41 [.string (strOf x.nm), .slice x.ba k x.bc, .slice x.a p x.c]) (by kernel_rfl) (⟨HS9.out.1.drew, HS9.out.2⟩) ?_
                intro hS0
                refine tk 0 35 (.pointer (some ⟨gb, 0, none⟩)) (fuel := 34) rfl (by kernel_rfl) (by kernel_rfl) (by kernel_rfl) (by kernel_rfl) noPanic_false (by kernel_rfl) (fun _ _ => by kernel_rfl) hS0 ?_
                refine tk 1 36 (.string (strOf x.nm)) (fuel := 33) rfl (by kernel_rfl) (by kernel_rfl) (by kernel_rfl) (by kernel_rfl) noPanic_false (by kernel_rfl) (fun W hW => x_loadT (x := .tmp 35) (t := 9) (g := gb) (j := 0) Try.underlying9 rfl (by kernel_rfl) (by kernel_rfl) (hW.2.cell (j := 0) rfl)) hS0 ?_
                refine tkCallZ 2 37 48 #[.string (strOf x.nm)] (fun v w' => v = .bool true ∧ w' = w5.drew) (fuel := 32) rfl (by kernel_rfl) (by kernel_rfl) (by kernel_rfl) (fun _ => by kernel_rfl) ((HNM.out w5.drew).mono (fun e w' ⟨he, h⟩ => ⟨_, he, rfl, h⟩)) ?_
                intro v1 w9 ⟨hv1, hw9⟩
                subst hv1
                subst hw9
                refine ⟨hS0, ?_⟩
                refine tk 3 38 (.bool false) (fuel := 31) rfl (by kernel_rfl) (by kernel_rfl) (by kernel_rfl) (by kernel_rfl) noPanic_false (by kernel_rfl) (fun _ _ => by kernel_rfl) hS0 ?_
                refine tk 4 39 (.bool false) (fuel := 30) rfl (by kernel_rfl) (by kernel_rfl) (by kernel_rfl) (by kernel_rfl) noPanic_false (by kernel_rfl) (fun _ _ => by kernel_rfl) hS0 ?_
                refine tk 5 40 (.int .i64 (i : Int)) (fuel := 29) rfl (by kernel_rfl) (by kernel_rfl) (by kernel_rfl) (by kernel_rfl) noPanic_false (by kernel_rfl) (fun _ _ => by kernel_rfl) hS0 ?_
                refine tk 6 41 (.bool true) (fuel := 28) rfl (by kernel_rfl) (by kernel_rfl) (by kernel_rfl) (by kernel_rfl) noPanic_false (by kernel_rfl) (fun W _ => (x_gtr0 (x := .tmp 40) (k := i) (by kernel_rfl) (by kernel_rfl)).trans (by rw [HI0.out])) hS0 ?_
                refine tk 7 42 (.bool true) (fuel := 27) rfl (by kernel_rfl) (by kernel_rfl) (by kernel_rfl) (by kernel_rfl) noPanic_false (by kernel_rfl) (fun _ _ => by kernel_rfl) hS0 ?_
                refine tk 8 43 (.slice (some ⟨xb, xo, none⟩) n ca) (fuel := 26) rfl (by kernel_rfl) (by kernel_rfl) (by kernel_rfl) (by kernel_rfl) noPanic_false (by kernel_rfl) (fun _ _ => by kernel_rfl) hS0 ?_
                refine tk 9 44 (.int .i64 (i : Int)) (fuel := 25) rfl (by kernel_rfl) (by kernel_rfl) (by kernel_rfl) (by kernel_rfl) noPanic_false (by kernel_rfl) (fun _ _ => by kernel_rfl) hS0 ?_
                refine tk 10 45 (.int .i64 (j : Int)) (fuel := 24) rfl (by kernel_rfl) (by kernel_rfl) (by kernel_rfl) (by kernel_rfl) noPanic_false (by kernel_rfl) (fun W _ => x_sub1 (k := i) (i := j) (x := .tmp 44) (by kernel_rfl) (by kernel_rfl) HJ.out.1 HJ.out.2.1) hS0 ?_
                refine tk 11 46 (.pointer (some ⟨xb, xo + j * 3, none⟩)) (fuel := 23) rfl (by kernel_rfl) (by kernel_rfl) (by kernel_rfl) (by kernel_rfl) noPanic_false (by kernel_rfl) (fun W _ => x_ix22 (n := n) (c := ca) (x := .tmp 43) (y := .tmp 45) (by kernel_rfl) (by kernel_rfl) (by kernel_rfl) HJ.out.2.2) hS0 ?_
                refine tk 12 47 (.pointer (some ⟨xb, xo + j * 3, none⟩)) (fuel := 22) rfl (by kernel_rfl) (by kernel_rfl) (by kernel_rfl) (by kernel_rfl) noPanic_false (by kernel_rfl) (fun _ _ => by kernel_rfl) hS0 ?_
                refine tk 13 48 (.string (strOf y.nm)) (fuel := 21) rfl (by kernel_rfl) (by kernel_rfl) (by kernel_rfl) (by kernel_rfl) noPanic_false (by kernel_rfl) (fun W hW => x_loadT (x := .tmp 47) (t := 9) (g := xb) (j := xo + j * 3 + 0) Try.underlying9 rfl (by kernel_rfl) (by kernel_rfl) (range_after HY.out hW.1 0 _ rfl)) hS0 ?_
                refine tk 14 49 (.pointer (some ⟨gb, 0, none⟩)) (fuel := 20) rfl (by kernel_rfl) (by kernel_rfl) (by kernel_rfl) (by kernel_rfl) noPanic_false (by kernel_rfl) (fun _ _ => by kernel_rfl) hS0 ?_
                refine tk 15 50 (.string (strOf x.nm)) (fuel := 19) rfl (by kernel_rfl) (by kernel_rfl) (by kernel_rfl) (by kernel_rfl) noPanic_false (by kernel_rfl) (fun W hW => x_loadT (x := .tmp 49) (t := 9) (g := gb) (j := 0) Try.underlying9 rfl (by kernel_rfl) (by kernel_rfl) (hW.2.cell (j := 0) rfl)) hS0 ?_
                refine tk 16 51 (.bool true) (fuel := 18) rfl (by kernel_rfl) (by kernel_rfl) (by kernel_rfl) (by kernel_rfl) noPanic_false (by kernel_rfl) (fun W _ => (x_geq9 (s := y.nm) (t := x.nm) (x := .tmp 48) (y := .tmp 50) (by kernel_rfl) (by kernel_rfl) (by kernel_rfl)).trans (by rw [HGE.out]; rfl)) hS0 ?_
                refine tk 17 52 (.bool true) (fuel := 17) rfl (by kernel_rfl) (by kernel_rfl) (by kernel_rfl) (by kernel_rfl) noPanic_false (by kernel_rfl) (fun _ _ => by kernel_rfl) hS0 ?_
                refine tk 18 53 (.bool true) (fuel := 16) rfl (by kernel_rfl) (by kernel_rfl) (by kernel_rfl) (by kernel_rfl) noPanic_false (by kernel_rfl) (fun _ _ => by kernel_rfl) hS0 ?_
                refine tk 19 54 (.bool true) (fuel := 15) rfl (by kernel_rfl) (by kernel_rfl) (by kernel_rfl) (by kernel_rfl) noPanic_false (by kernel_rfl) (fun _ _ => by kernel_rfl) hS0 ?_
                refine tkSkip 20 55 (fuel := 14) rfl (by kernel_rfl) (by kernel_rfl) (by kernel_rfl) (by kernel_rfl) noPanic_false (by kernel_rfl) hS0 ?_
                refine tkSkip 21 56 (fuel := 13) rfl (by kernel_rfl) (by kernel_rfl) (by kernel_rfl) (by kernel_rfl) noPanic_false (by kernel_rfl) hS0 ?_
                refine tk 22 57 (.bool true) (fuel := 12) rfl (by kernel_rfl) (by kernel_rfl) (by kernel_rfl) (by kernel_rfl) noPanic_false (by kernel_rfl) (fun _ _ => by kernel_rfl) hS0 ?_
                refine tk 23 58 (.bool true) (fuel := 11) rfl (by kernel_rfl) (by kernel_rfl) (by kernel_rfl) (by kernel_rfl) noPanic_false (by kernel_rfl) (fun _ _ => by kernel_rfl) hS0 ?_
                refine tkSkip 24 59 (fuel := 10) rfl (by kernel_rfl) (by kernel_rfl) (by kernel_rfl) (by kernel_rfl) noPanic_false (by kernel_rfl) hS0 ?_
                refine tkSkip 25 60 (fuel := 9) rfl (by kernel_rfl) (by kernel_rfl) (by kernel_rfl) (by kernel_rfl) noPanic_false (by kernel_rfl) hS0 ?_
                refine tkSkip 26 61 (fuel := 8) rfl (by kernel_rfl) (by kernel_rfl) (by kernel_rfl) (by kernel_rfl) noPanic_false (by kernel_rfl) hS0 ?_
                refine tkSkip 27 62 (fuel := 7) rfl (by kernel_rfl) (by kernel_rfl) (by kernel_rfl) (by kernel_rfl) noPanic_false (by kernel_rfl) hS0 ?_
                refine tk 28 63 (.bool true) (fuel := 6) rfl (by kernel_rfl) (by kernel_rfl) (by kernel_rfl) (by kernel_rfl) noPanic_false (by kernel_rfl) (fun _ _ => by kernel_rfl) hS0 ?_
                refine tk 29 64 (.bool true) (fuel := 5) rfl (by kernel_rfl) (by kernel_rfl) (by kernel_rfl) (by kernel_rfl) noPanic_false (by kernel_rfl) (fun _ _ => by kernel_rfl) hS0 ?_
                refine tkSkip 30 65 (fuel := 4) rfl (by kernel_rfl) (by kernel_rfl) (by kernel_rfl) (by kernel_rfl) noPanic_false (by kernel_rfl) hS0 ?_
                refine tkSkip 31 66 (fuel := 3) rfl (by kernel_rfl) (by kernel_rfl) (by kernel_rfl) (by kernel_rfl) noPanic_false (by kernel_rfl) hS0 ?_
                refine tkSkip 32 67 (fuel := 2) rfl (by kernel_rfl) (by kernel_rfl) (by kernel_rfl) (by kernel_rfl) noPanic_false (by kernel_rfl) hS0 ?_
                refine tkSkip 33 68 (fuel := 1) rfl (by kernel_rfl) (by kernel_rfl) (by kernel_rfl) (by kernel_rfl) noPanic_false (by kernel_rfl) hS0 ?_
                refine tk 34 69 (.bool true) (fuel := 0) rfl (by kernel_rfl) (by kernel_rfl) (by kernel_rfl) (by kernel_rfl) noPanic_false (by kernel_rfl) (fun _ _ => by kernel_rfl) hS0 ?_
                refine wpAnyH_done (by kernel_rfl) (NoPanic.normal ?_) _
                have HFI : Hid (After w _) := hS0.1
                clear hS0
                go_simp
                go_wp2
                refine bodyPost_ret (v := .tuple #[.slice none 0 0, .int .i64 4]) (by simp [results, Try.results24, go_sem]) rfl ⟨HFI.out, .inr ⟨by rw [putE_form HBAD.out]; decide, by rw [putE_form HBAD.out]; rfl⟩⟩
        · have hN2 : nmB x.nm = false := by simpa using hN
          have HNM : Hid (∀ W : World, Calls Try.prog 48 #[.string (strOf x.nm)] W fun e w' => e = .returned (.bool false) ∧ w' = W) := fun W => by have := HNM0.out W; rw [hN2] at this; exact this
          have HBAD : Hid (¬ MOk (rsof X)) := fun hk => hN (hk.at' HXA.out.2.2.2).nam
          clear hN hN2
          by_cases hLK : LOk (bof x.X)
          · have HLK : Hid (LOk (bof x.X)) := hLK
            clear hLK
            have HLY : Hid (Calls Try.prog 47 #[.slice x.ba k x.bc] w2 fun e w' => ∃ a c, e = .returned (.tuple #[.agg #[.slice a k c], .int .i64 0]) ∧ After w2 w') := HLD.out.mono (fun e w' h => by
              rcases h with ⟨_, a, c, Z, he, _, _, h9⟩ | ⟨h1, _⟩
              · exact ⟨a, c, he, h9⟩
              · exact absurd HLK.out h1)
            go_wp2_with (first
              | (refine wpList_of_run rfl (x_ix22 (x := .tmp 25) (y := .tmp 26) (b := xb) (f := xo) (n := n) (c := ca) (i := i) rfl (by kernel_rfl) (by kernel_rfl) HLT.out) ?_)
              | (refine wpList_of_run rfl (x_ld41 (x := .tmp 27) (g := xb) (p := xo + i * 3) (y := x) rfl (by kernel_rfl) HX.out) ?_)
              | (refine wpList_of_run rfl (x_al41 rfl) ?_; rw [HGA.out])
              | (refine wpList_store_row rfl 41 (.tmp 6) (.tmp 28) rfl gb (rxc x).toArray (by kernel_rfl) (by kernel_rfl) 41 _ HB.out.1 (size41 x) rfl (by simpa using rs_one [x] (rxc x) (by simp [rsL])) ?_; rw [HGW.out])
              | (refine wpList_of_run rfl (x_al82 rfl) ?_; rw [HG3.out])
              | (go_at_call 47; refine Calls.mono HLY.out ?_; rintro e w3 ⟨a3, c3, rfl, ha3⟩
                 obtain ⟨g3, hg3⟩ : ∃ g3, w3.heap.size = g3 := ⟨_, rfl⟩
                 obtain ⟨w5, hw5⟩ : ∃ w5, (w3.alloc (.cells #[.slice none 0 0] 82)).setRow g3 #[.slice a3 k c3] = w5 := ⟨_, rfl⟩
                 have hrn : RowIs (w3.alloc (.cells #[.slice none 0 0] 82)) g3 82 [.slice none 0 0] := by rw [← hg3]; exact RowIs.new w3 82 _
                 have H5 : Hid (OwA w (preR (rsof X) i) v w5 ∧ RowIs w5 gb 41 [.string (strOf x.nm), .slice x.ba k x.bc, .slice x.a p x.c]) := by
                   have hA5 : After w2 w5 := by rw [← hw5, ← hg3]; exact ha3.trans (Below.row (after_alloc (After.refl w3) _) (Nat.le_refl _) _)
                   exact ⟨HI2.out.more hA5, HBR.out.below hA5 HBR.out.lt⟩
                 have HRN82 : Hid (RowIs (w3.alloc (.cells #[.slice none 0 0] 82)) g3 82 [.slice none 0 0]) := hrn
                 have HW5 : Hid ((w3.alloc (.cells #[.slice none 0 0] 82)).setRow g3 #[.slice a3 k c3] = w5) := hw5
                 have HG3 : Hid (w3.heap.size = g3) := hg3
                 clear ha3 hrn hw5 hg3)
              | (refine wpList_store_row rfl 82 (.tmp 7) (.tmp 33) rfl g3 #[.slice a3 k c3] rfl rfl 82 _ HRN82.out size82 rfl (one82 _ _ _) ?_; rw [HW5.out]))
            have HS9 : Hid (After w w5 ∧ RowIs w5 gb 41 [.string (strOf x.nm), .slice x.ba k x.bc, .slice x.a p x.c]) := ⟨H5.out.1.aft, H5.out.2⟩
            refine wp_region_noPanic ?_
            refine wp_region_held_drew (S := fun W => After w W ∧ RowIs W gb 41 [.string (strOf x.nm), .slice x.ba k x.bc, .slice x.a p x.c]) (by kernel_rfl) (⟨HS9.out.1.drew, HS9.out.2⟩) ?_
            intro hS0
            refine tk 0 35 (.pointer (some ⟨gb, 0, none⟩)) (fuel := 34) rfl (by kernel_rfl) (by kernel_rfl) (by kernel_rfl) (by kernel_rfl) noPanic_false (by kernel_rfl) (fun _ _ => by kernel_rfl) hS0 ?_
            refine tk 1 36 (.string (strOf x.nm)) (fuel := 33) rfl (by kernel_rfl) (by kernel_rfl) (by kernel_rfl) (by kernel_rfl) noPanic_false (by kernel_rfl) (fun W hW => x_loadT (x := .tmp 35) (t := 9) (g := gb) (j := 0) Try.underlying9 rfl (by kernel_rfl) (by kernel_rfl) (hW.2.cell (j := 0) rfl)) hS0 ?_
            refine tkCallZ 2 37 48 #[.string (strOf x.nm)] (fun v w' => v = .bool false ∧ w' = w5.drew) (fuel := 32) rfl (by kernel_rfl) (by kernel_rfl) (by kernel_rfl) (fun _ => by kernel_rfl) ((HNM.out w5.drew).mono (fun e w' ⟨he, h⟩ => ⟨_, he, rfl, h⟩)) ?_
            intro v1 w9 ⟨hv1, hw9⟩
            subst hv1
            subst hw9
            refine ⟨hS0, ?_⟩
            refine tk 3 38 (.bool true) (fuel := 31) rfl (by kernel_rfl) (by kernel_rfl) (by kernel_rfl) (by kernel_rfl) noPanic_false (by kernel_rfl) (fun _ _ => by kernel_rfl) hS0 ?_
            refine tk 4 39 (.bool true) (fuel := 30) rfl (by kernel_rfl) (by kernel_rfl) (by kernel_rfl) (by kernel_rfl) noPanic_false (by kernel_rfl) (fun _ _ => by kernel_rfl) hS0 ?_
            refine tkSkip 5 40 (fuel := 29) rfl (by kernel_rfl) (by kernel_rfl) (by kernel_rfl) (by kernel_rfl) noPanic_false (by kernel_rfl) hS0 ?_
            refine tkSkip 6 41 (fuel := 28) rfl (by kernel_rfl) (by kernel_rfl) (by kernel_rfl) (by kernel_rfl) noPanic_false (by kernel_rfl) hS0 ?_
            refine tkSkip 7 42 (fuel := 27) rfl (by kernel_rfl) (by kernel_rfl) (by kernel_rfl) (by kernel_rfl) noPanic_false (by kernel_rfl) hS0 ?_
            refine tkSkip 8 43 (fuel := 26) rfl (by kernel_rfl) (by kernel_rfl) (by kernel_rfl) (by kernel_rfl) noPanic_false (by kernel_rfl) hS0 ?_
            refine tkSkip 9 44 (fuel := 25) rfl (by kernel_rfl) (by kernel_rfl) (by kernel_rfl) (by kernel_rfl) noPanic_false (by kernel_rfl) hS0 ?_
            refine tkSkip 10 45 (fuel := 24) rfl (by kernel_rfl) (by kernel_rfl) (by kernel_rfl) (by kernel_rfl) noPanic_false (by kernel_rfl) hS0 ?_
            refine tkSkip 11 46 (fuel := 23) rfl (by kernel_rfl) (by kernel_rfl) (by kernel_rfl) (by kernel_rfl) noPanic_false (by kernel_rfl) hS0 ?_
            refine tkSkip 12 47 (fuel := 22) rfl (by kernel_rfl) (by kernel_rfl) (by kernel_rfl) (by kernel_rfl) noPanic_false (by kernel_rfl) hS0 ?_
            refine tkSkip 13 48 (fuel := 21) rfl (by kernel_rfl) (by kernel_rfl) (by kernel_rfl) (by kernel_rfl) noPanic_false (by kernel_rfl) hS0 ?_
            refine tkSkip 14 49 (fuel := 20) rfl (by kernel_rfl) (by kernel_rfl) (by kernel_rfl) (by kernel_rfl) noPanic_false (by kernel_rfl) hS0 ?_
            refine tkSkip 15 50 (fuel := 19) rfl (by kernel_rfl) (by kernel_rfl) (by kernel_rfl) (by kernel_rfl) noPanic_false (by kernel_rfl) hS0 ?_
            refine tkSkip 16 51 (fuel := 18) rfl (by kernel_rfl) (by kernel_rfl) (by kernel_rfl) (by kernel_rfl) noPanic_false (by kernel_rfl) hS0 ?_
            refine tkSkip 17 52 (fuel := 17) rfl (by kernel_rfl) (by kernel_rfl) (by kernel_rfl) (by kernel_rfl) noPanic_false (by kernel_rfl) hS0 ?_
            refine tk 18 53 (.bool true) (fuel := 16) rfl (by kernel_rfl) (by kernel_rfl) (by kernel_rfl) (by kernel_rfl) noPanic_false (by kernel_rfl) (fun _ _ => by kernel_rfl) hS0 ?_
            refine tk 19 54 (.bool true) (fuel := 15) rfl (by kernel_rfl) (by kernel_rfl) (by kernel_rfl) (by kernel_rfl) noPanic_false (by kernel_rfl) (fun _ _ => by kernel_rfl) hS0 ?_
            refine tkSkip 20 55 (fuel := 14) rfl (by kernel_rfl) (by kernel_rfl) (by kernel_rfl) (by kernel_rfl) noPanic_false (by kernel_rfl) hS0 ?_
            refine tkSkip 21 56 (fuel := 13) rfl (by kernel_rfl) (by kernel_rfl) (by kernel_rfl) (by kernel_rfl) noPanic_false (by kernel_rfl) hS0 ?_
            refine tk 22 57 (.bool true) (fuel := 12) rfl (by kernel_rfl) (by kernel_rfl) (by kernel_rfl) (by kernel_rfl) noPanic_false (by kernel_rfl) (fun _ _ => by kernel_rfl) hS0 ?_
            refine tk 23 58 (.bool true) (fuel := 11) rfl (by kernel_rfl) (by kernel_rfl) (by kernel_rfl) (by kernel_rfl) noPanic_false (by kernel_rfl) (fun _ _ => by kernel_rfl) hS0 ?_
            refine tkSkip 24 59 (fuel := 10) rfl (by kernel_rfl) (by kernel_rfl) (by kernel_rfl) (by kernel_rfl) noPanic_false (by kernel_rfl) hS0 ?_
            refine tkSkip 25 60 (fuel := 9) rfl (by kernel_rfl) (by kernel_rfl) (by kernel_rfl) (by kernel_rfl) noPanic_false (by kernel_rfl) hS0 ?_
            refine tkSkip 26 61 (fuel := 8) rfl (by kernel_rfl) (by kernel_rfl) (by kernel_rfl) (by kernel_rfl) noPanic_false (by kernel_rfl) hS0 ?_
            refine tkSkip 27 62 (fuel := 7) rfl (by kernel_rfl) (by kernel_rfl) (by kernel_rfl) (by kernel_rfl) noPanic_false (by kernel_rfl) hS0 ?_
            refine tk 28 63 (.bool true) (fuel := 6) rfl (by kernel_rfl) (by kernel_rfl) (by kernel_rfl) (by kernel_rfl) noPanic_false (by kernel_rfl) (fun _ _ => by kernel_rfl) hS0 ?_
            refine tk 29 64 (.bool true) (fuel := 5) rfl (by kernel_rfl) (by kernel_rfl) (by kernel_rfl) (by kernel_rfl) noPanic_false (by kernel_rfl) (fun _ _ => by kernel_rfl) hS0 ?_
            refine tkSkip 30 65 (fuel := 4) rfl (by kernel_rfl) (by kernel_rfl) (by kernel_rfl) (by kernel_rfl) noPanic_false (by kernel_rfl) hS0 ?_
            refine tkSkip 31 66 (fuel := 3) rfl (by kernel_rfl) (by kernel_rfl) (by kernel_rfl) (by kernel_rfl) noPanic_false (by kernel_rfl) hS0 ?_
            refine tkSkip 32 67 (fuel := 2) rfl (by kernel_rfl) (by kernel_rfl) (by kernel_rfl) (by kernel_rfl) noPanic_false (by kernel_rfl) hS0 ?_
            refine tkSkip 33 68 (fuel := 1) rfl (by kernel_rfl) (by kernel_rfl) (by kernel_rfl) (by kernel_rfl) noPanic_false (by kernel_rfl) hS0 ?_
            refine tk 34 69 (.bool true) (fuel := 0) rfl (by kernel_rfl) (by kernel_rfl) (by kernel_rfl) (by kernel_rfl) noPanic_false (by kernel_rfl) (fun _ _ => by kernel_rfl) hS0 ?_
            refine wpAnyH_done (by kernel_rfl) (NoPanic.normal ?_) _
            have HFI : Hid (After w _) := hS0.1
            clear hS0
            go_simp
            go_wp2
            refine bodyPost_ret (v := .tuple #[.slice none 0 0, .int .i64 4]) (by simp [results, Try.results24, go_sem]) rfl ⟨HFI.out, .inr ⟨by rw [putE_form HBAD.out]; decide, by rw [putE_form HBAD.out]; rfl⟩⟩
          · have HLK : Hid (¬ LOk (bof x.X)) := hLK
            clear hLK
            have HLY : Hid (Calls Try.prog 47 #[.slice x.ba k x.bc] w2 fun e w' => e = .returned (.tuple #[.agg #[.slice none 0 0], .int .i64 4]) ∧ After w2 w') := HLD.out.mono (fun e w' h => by
              rcases h with ⟨h1, _⟩ | ⟨_, he, h9⟩
              · exact absurd h1 HLK.out
              · exact ⟨he, h9⟩)
            go_wp2_with (first
              | (refine wpList_of_run rfl (x_ix22 (x := .tmp 25) (y := .tmp 26) (b := xb) (f := xo) (n := n) (c := ca) (i := i) rfl (by kernel_rfl) (by kernel_rfl) HLT.out) ?_)
              | (refine wpList_of_run rfl (x_ld41 (x := .tmp 27) (g := xb) (p := xo + i * 3) (y := x) rfl (by kernel_rfl) HX.out) ?_)
              | (refine wpList_of_run rfl (x_al41 rfl) ?_; rw [HGA.out])
              | (refine wpList_store_row rfl 41 (.tmp 6) (.tmp 28) rfl gb (rxc x).toArray (by kernel_rfl) (by kernel_rfl) 41 _ HB.out.1 (size41 x) rfl (by simpa using rs_one [x] (rxc x) (by simp [rsL])) ?_; rw [HGW.out])
              | (refine wpList_of_run rfl (x_al82 rfl) ?_; rw [HG3.out])
              | (go_at_call 47; refine Calls.mono HLY.out ?_; rintro e w3 ⟨rfl, ha3⟩
                 obtain ⟨g3, hg3⟩ : ∃ g3, w3.heap.size = g3 := ⟨_, rfl⟩
                 obtain ⟨w5, hw5⟩ : ∃ w5, (w3.alloc (.cells #[.slice none 0 0] 82)).setRow g3 #[.slice none 0 0] = w5 := ⟨_, rfl⟩
                 have hrn : RowIs (w3.alloc (.cells #[.slice none 0 0] 82)) g3 82 [.slice none 0 0] := by rw [← hg3]; exact RowIs.new w3 82 _
                 have H5 : Hid (OwA w (preR (rsof X) i) v w5 ∧ RowIs w5 gb 41 [.string (strOf x.nm), .slice x.ba k x.bc, .slice x.a p x.c]) := by
                   have hA5 : After w2 w5 := by rw [← hw5, ← hg3]; exact ha3.trans (Below.row (after_alloc (After.refl w3) _) (Nat.le_refl _) _)
                   exact ⟨HI2.out.more hA5, HBR.out.below hA5 HBR.out.lt⟩
                 have HRN82 : Hid (RowIs (w3.alloc (.cells #[.slice none 0 0] 82)) g3 82 [.slice none 0 0]) := hrn
                 have HW5 : Hid ((w3.alloc (.cells #[.slice none 0 0] 82)).setRow g3 #[.slice none 0 0] = w5) := hw5
                 have HG3 : Hid (w3.heap.size = g3) := hg3
                 clear ha3 hrn hw5 hg3)
              | (refine wpList_store_row rfl 82 (.tmp 7) (.tmp 33) rfl g3 #[.slice none 0 0] rfl rfl 82 _ HRN82.out size82 rfl (one82 _ _ _) ?_; rw [HW5.out]))
            have HS9 : Hid (After w w5 ∧ RowIs w5 gb 41 [.string (strOf x.nm), .slice x.ba k x.bc, .slice x.a p x.c]) := ⟨H5.out.1.aft, H5.out.2⟩
            refine wp_region_noPanic ?_
            refine wp_region_held_drew (S := fun W => After w W ∧ RowIs W gb 41 [.string (strOf x.nm), .slice x.ba k x.bc, .slice x.a p x.c]) (by kernel_rfl) (⟨HS9.out.1.drew, HS9.out.2⟩) ?_
            intro hS0
            refine tk 0 35 (.pointer (some ⟨gb, 0, none⟩)) (fuel := 34) rfl (by kernel_rfl) (by kernel_rfl) (by kernel_rfl) (by kernel_rfl) noPanic_false (by kernel_rfl) (fun _ _ => by kernel_rfl) hS0 ?_
            refine tk 1 36 (.string (strOf x.nm)) (fuel := 33) rfl (by kernel_rfl) (by kernel_rfl) (by kernel_rfl) (by kernel_rfl) noPanic_false (by kernel_rfl) (fun W hW => x_loadT (x := .tmp 35) (t := 9) (g := gb) (j := 0) Try.underlying9 rfl (by kernel_rfl) (by kernel_rfl) (hW.2.cell (j := 0) rfl)) hS0 ?_
            refine tkCallZ 2 37 48 #[.string (strOf x.nm)] (fun v w' => v = .bool false ∧ w' = w5.drew) (fuel := 32) rfl (by kernel_rfl) (by kernel_rfl) (by kernel_rfl) (fun _ => by kernel_rfl) ((HNM.out w5.drew).mono (fun e w' ⟨he, h⟩ => ⟨_, he, rfl, h⟩)) ?_
            intro v1 w9 ⟨hv1, hw9⟩
            subst hv1
            subst hw9
            refine ⟨hS0, ?_⟩
            refine tk 3 38 (.bool true) (fuel := 31) rfl (by kernel_rfl) (by kernel_rfl) (by kernel_rfl) (by kernel_rfl) noPanic_false (by kernel_rfl) (fun _ _ => by kernel_rfl) hS0 ?_
            refine tk 4 39 (.bool true) (fuel := 30) rfl (by kernel_rfl) (by kernel_rfl) (by kernel_rfl) (by kernel_rfl) noPanic_false (by kernel_rfl) (fun _ _ => by kernel_rfl) hS0 ?_
            refine tkSkip 5 40 (fuel := 29) rfl (by kernel_rfl) (by kernel_rfl) (by kernel_rfl) (by kernel_rfl) noPanic_false (by kernel_rfl) hS0 ?_
            refine tkSkip 6 41 (fuel := 28) rfl (by kernel_rfl) (by kernel_rfl) (by kernel_rfl) (by kernel_rfl) noPanic_false (by kernel_rfl) hS0 ?_
            refine tkSkip 7 42 (fuel := 27) rfl (by kernel_rfl) (by kernel_rfl) (by kernel_rfl) (by kernel_rfl) noPanic_false (by kernel_rfl) hS0 ?_
            refine tkSkip 8 43 (fuel := 26) rfl (by kernel_rfl) (by kernel_rfl) (by kernel_rfl) (by kernel_rfl) noPanic_false (by kernel_rfl) hS0 ?_
            refine tkSkip 9 44 (fuel := 25) rfl (by kernel_rfl) (by kernel_rfl) (by kernel_rfl) (by kernel_rfl) noPanic_false (by kernel_rfl) hS0 ?_
            refine tkSkip 10 45 (fuel := 24) rfl (by kernel_rfl) (by kernel_rfl) (by kernel_rfl) (by kernel_rfl) noPanic_false (by kernel_rfl) hS0 ?_
            refine tkSkip 11 46 (fuel := 23) rfl (by kernel_rfl) (by kernel_rfl) (by kernel_rfl) (by kernel_rfl) noPanic_false (by kernel_rfl) hS0 ?_
            refine tkSkip 12 47 (fuel := 22) rfl (by kernel_rfl) (by kernel_rfl) (by kernel_rfl) (by kernel_rfl) noPanic_false (by kernel_rfl) hS0 ?_
            refine tkSkip 13 48 (fuel := 21) rfl (by kernel_rfl) (by kernel_rfl) (by kernel_rfl) (by kernel_rfl) noPanic_false (by kernel_rfl) hS0 ?_
            refine tkSkip 14 49 (fuel := 20) rfl (by kernel_rfl) (by kernel_rfl) (by kernel_rfl) (by kernel_rfl) noPanic_false (by kernel_rfl) hS0 ?_
            refine tkSkip 15 50 (fuel := 19) rfl (by kernel_rfl) (by kernel_rfl) (by kernel_rfl) (by kernel_rfl) noPanic_false (by kernel_rfl) hS0 ?_
            refine tkSkip 16 51 (fuel := 18) rfl (by kernel_rfl) (by kernel_rfl) (by kernel_rfl) (by kernel_rfl) noPanic_false (by kernel_rfl) hS0 ?_
            refine tkSkip 17 52 (fuel := 17) rfl (by kernel_rfl) (by kernel_rfl) (by kernel_rfl) (by kernel_rfl) noPanic_false (by kernel_rfl) hS0 ?_
            refine tk 18 53 (.bool true) (fuel := 16) rfl (by kernel_rfl) (by kernel_rfl) (by kernel_rfl) (by kernel_rfl) noPanic_false (by kernel_rfl) (fun _ _ => by kernel_rfl) hS0 ?_
            refine tk 19 54 (.bool true) (fuel := 15) rfl (by kernel_rfl) (by kernel_rfl) (by kernel_rfl) (by kernel_rfl) noPanic_false (by kernel_rfl) (fun _ _ => by kernel_rfl) hS0 ?_
            refine tkSkip 20 55 (fuel := 14) rfl (by kernel_rfl) (by kernel_rfl) (by kernel_rfl) (by kernel_rfl) noPanic_false (by kernel_rfl) hS0 ?_
            refine tkSkip 21 56 (fuel := 13) rfl (by kernel_rfl) (by kernel_rfl) (by kernel_rfl) (by kernel_rfl) noPanic_false (by kernel_rfl) hS0 ?_
            refine tk 22 57 (.bool true) (fuel := 12) rfl (by kernel_rfl) (by kernel_rfl) (by kernel_rfl) (by kernel_rfl) noPanic_false (by kernel_rfl) (fun _ _ => by kernel_rfl) hS0 ?_
            refine tk 23 58 (.bool true) (fuel := 11) rfl (by kernel_rfl) (by kernel_rfl) (by kernel_rfl) (by kernel_rfl) noPanic_false (by kernel_rfl) (fun _ _ => by kernel_rfl) hS0 ?_
            refine tkSkip 24 59 (fuel := 10) rfl (by kernel_rfl) (by kernel_rfl) (by kernel_rfl) (by kernel_rfl) noPanic_false (by kernel_rfl) hS0 ?_
            refine tkSkip 25 60 (fuel := 9) rfl (by kernel_rfl) (by kernel_rfl) (by kernel_rfl) (by kernel_rfl) noPanic_false (by kernel_rfl) hS0 ?_
            refine tkSkip 26 61 (fuel := 8) rfl (by kernel_rfl) (by kernel_rfl) (by kernel_rfl) (by kernel_rfl) noPanic_false (by kernel_rfl) hS0 ?_
            refine tkSkip 27 62 (fuel := 7) rfl (by kernel_rfl) (by kernel_rfl) (by kernel_rfl) (by kernel_rfl) noPanic_false (by kernel_rfl) hS0 ?_
            refine tk 28 63 (.bool true) (fuel := 6) rfl (by kernel_rfl) (by kernel_rfl) (by kernel_rfl) (by kernel_rfl) noPanic_false (by kernel_rfl) (fun _ _ => by kernel_rfl) hS0 ?_
            refine tk 29 64 (.bool true) (fuel := 5) rfl (by kernel_rfl) (by kernel_rfl) (by kernel_rfl) (by kernel_rfl) noPanic_false (by kernel_rfl) (fun _ _ => by kernel_rfl) hS0 ?_
            refine tkSkip 30 65 (fuel := 4) rfl (by kernel_rfl) (by kernel_rfl) (by kernel_rfl) (by kernel_rfl) noPanic_false (by kernel_rfl) hS0 ?_
            refine tkSkip 31 66 (fuel := 3) rfl (by kernel_rfl) (by kernel_rfl) (by kernel_rfl) (by kernel_rfl) noPanic_false (by kernel_rfl) hS0 ?_
            refine tkSkip 32 67 (fuel := 2) rfl (by kernel_rfl) (by kernel_rfl) (by kernel_rfl) (by kernel_rfl) noPanic_false (by kernel_rfl) hS0 ?_
            refine tkSkip 33 68 (fuel := 1) rfl (by kernel_rfl) (by kernel_rfl) (by kernel_rfl) (by kernel_rfl) noPanic_false (by kernel_rfl) hS0 ?_
            refine tk 34 69 (.bool true) (fuel := 0) rfl (by kernel_rfl) (by kernel_rfl) (by kernel_rfl) (by kernel_rfl) noPanic_false (by kernel_rfl) (fun _ _ => by kernel_rfl) hS0 ?_
            refine wpAnyH_done (by kernel_rfl) (NoPanic.normal ?_) _
            have HFI : Hid (After w _) := hS0.1
            clear hS0
            go_simp
            go_wp2
            refine bodyPost_ret (v := .tuple #[.slice none 0 0, .int .i64 4]) (by simp [results, Try.results24, go_sem]) rfl ⟨HFI.out, .inr ⟨by rw [putE_form HBAD.out]; decide, by rw [putE_form HBAD.out]; rfl⟩⟩
      · have hii : ¬ (i : Int) < (n : Int) := by omega
        have hie : i = n := by omega
        subst hie
        have HM : Hid (MOk (rsof X)) := HP.out.2.whole HL.out.2 h64
        obtain ⟨k, hk⟩ : ∃ k, (ixB (rsof X)).length = k := ⟨_, rfl⟩
        have hox : OwA w (ixB (rsof X)) v wr := by have := HP.out.1; rw [preR_all (by rw [rsof_len, HL.out.2]; exact Nat.le_refl _)] at this; exact this
        obtain ⟨a, c, rfl, hb, hc, _⟩ := hox.own.at
        have HF : Hid (BytesAt wr a (ixB (rsof X)) ∧ k ≤ c ∧ After w wr ∧ (ixB (rsof X)).length = k) := ⟨hb, by rw [← hk]; exact hc, hox.aft, hk⟩
        rw [hk]
        clear hox hb hc hk
        by_cases hlong : 524288 < k
        · have hlong' : (524288 : Int) < (k : Int) := by omega
          have HE : Hid (putE (rsof X) = 5) := putE_long HM.out (by rw [HF.out.2.2.2]; exact hlong)
          go_wp2
          refine bodyPost_ret (v := .tuple #[.slice none 0 0, .int .i64 5]) (by simp [results, Try.results24, go_sem]) rfl ⟨HF.out.2.2.1, .inr ⟨by rw [HE.out]; decide, by rw [HE.out]; rfl⟩⟩
        · have hlong' : ¬ (524288 : Int) < (k : Int) := by omega
          have HE : Hid (putE (rsof X) = 0) := putE_ok HM.out (by rw [HF.out.2.2.2]; exact hlong)
          go_wp2
          refine bodyPost_ret (v := .tuple #[.slice a k c, .int .i64 0]) (by simp [results, Try.results24, go_sem]) rfl ⟨HF.out.2.2.1, .inl ⟨HE.out, _, _, _, rfl, HF.out.2.2.2, HF.out.1, HF.out.2.1⟩⟩
  · have h64' : (64 : Int) < (n : Int) := by omega
    have HBAD : Hid (¬ MOk (rsof X)) := fun h => by have := h.few; rw [rsof_len, HL.out.2] at this; exact h64 this
    clear h64
    go_enter Try.func24, Try.ntmps24
    go_wp2
    refine bodyPost_ret (v := .tuple #[.slice none 0 0, .int .i64 4]) (by simp [results, Try.results24, go_sem]) rfl ⟨After.refl w, .inr ⟨by rw [putE_form HBAD.out]; decide, by rw [putE_form HBAD.out]; rfl⟩⟩
set_option maxRecDepth 100000 in
set_option maxHeartbeats 6400000 in
theorem rput11 {la : Option Addr} {ca n : Nat} {X : List Rx} (hl : X.length = n) (hn : n < 4611686018427387904) {w : World} (hA : RsAt w la X) : Calls Try.prog 11 #[.slice la n ca] w (PutT (rsof X) w) := by
  by_cases hp : putE (rsof X) = 0
  · have HC : Hid (Calls Try.prog 24 #[.slice la n ca] w fun e w' => ∃ a c k, e = .returned (.tuple #[.slice a k c, .int .i64 0]) ∧ (ixB (rsof X)).length = k ∧ BytesAt w' a (ixB (rsof X)) ∧ k ≤ c ∧ After w w') := (rlaid24 hl hn hA).mono (fun e w' h => by
      rcases h.ans with ⟨_, a, c, k, he, h1, h2, h3⟩ | ⟨h1, _⟩
      · exact ⟨a, c, k, he, h1, h2, h3, h.aft⟩
      · exact absurd hp h1)
    have HE : Hid (putE (rsof X) = 0) := hp
    clear hA hl hp
    go_enter Try.func11, Try.ntmps11
    go_wp2_with (go_at_call 24; refine Calls.mono HC.out ?_; rintro e w1 ⟨a, c, k, rfl, h1, h2, h3, h4⟩; have H1 : Hid ((ixB (rsof X)).length = k ∧ BytesAt w1 a (ixB (rsof X)) ∧ k ≤ c ∧ After w w1) := ⟨h1, h2, h3, h4⟩; clear h1 h2 h3 h4)
    refine bodyPost_ret (v := .tuple #[.slice a k c, .int .i64 0]) (by simp [results, Try.results11, go_sem]) rfl ⟨H1.out.2.2.2, .inl ⟨HE.out, _, _, _, rfl, H1.out.1, H1.out.2.1, H1.out.2.2.1⟩⟩
  · have HC : Hid (Calls Try.prog 24 #[.slice la n ca] w fun e w' => e = .returned (.tuple #[.slice none 0 0, .int .i64 (putE (rsof X) : Int)]) ∧ After w w') := (rlaid24 hl hn hA).mono (fun e w' h => by
      rcases h.ans with ⟨h1, _⟩ | ⟨_, h2⟩
      · exact absurd h1 hp
      · exact ⟨h2, h.aft⟩)
    have HE : Hid (putE (rsof X) ≠ 0) := hp
    clear hA hl hp
    go_enter Try.func11, Try.ntmps11
    go_wp2_with (go_at_call 24; refine Calls.mono HC.out ?_; rintro e w1 ⟨rfl, h4⟩; have H1 : Hid (After w w1) := h4; clear h4)
    refine bodyPost_ret (v := .tuple #[.slice none 0 0, .int .i64 (putE (rsof X) : Int)]) (by simp [results, Try.results11, go_sem]) rfl ⟨H1.out, .inr ⟨HE.out, rfl⟩⟩
end Go.Proofs.Ytcmcapcagblafaa
