/-
  IndexBack's walk (5).
-/
import Derived.Test.YtcmcapcagblafaaXN
import Derived.Test.YtcmcapcagblafaaXM
import Derived.Test.YtcmcapcagblafaaXL
namespace Go.Proofs.Ytcmcapcagblafaa
open Go.RowKit Go.Maps Dsk Leb
attribute [local go_sem] Oper.semAt_some
theorem x_bs26z {oi : Oper} {a : Act} {w : World} (hop : oi.op = .buildSlice 26 0 #[]) : (execOp a.eval oi).run Try.prog w = .ok (.value (.slice (some ⟨w.heap.size, 0, none⟩) 0 0)) (w.alloc (.cells #[] 5)) := by
  have hb : (Instr.buildSlice 26 0 #[]).run Try.prog w = .ok (.slice (some ⟨w.heap.size, 0, none⟩) 0 0) (w.alloc (.cells #[] 5)) := by kernel_rfl
  unfold execOp
  simp [hop, hb]
theorem x_bs26o {oi : Oper} {a : Act} {w : World} (hop : oi.op = .buildSlice 26 1 #[(0, .const (.int .u8 0))]) : (execOp a.eval oi).run Try.prog w = .ok (.value (.slice (some ⟨w.heap.size, 0, none⟩) 1 1)) (w.alloc (.cells #[.int .u8 0] 5)) := by
  have hb : (Instr.buildSlice 26 1 #[(0, .int .u8 0)]).run Try.prog w = .ok (.slice (some ⟨w.heap.size, 0, none⟩) 1 1) (w.alloc (.cells #[.int .u8 0] 5)) := by kernel_rfl
  have he : a.eval (.const (.int .u8 0)) = .int .u8 0 := rfl
  unfold execOp
  simp [hop, he, hb]
theorem owa_nil (w : World) : OwA w [] (.slice (some ⟨w.heap.size, 0, none⟩) 0 0) (w.alloc (.cells #[] 5)) :=
  ⟨row_own (Nat.le_refl _) (RowIs.new w 5 []) (Nat.le_refl _) (by decide) rfl rfl, after_alloc (After.refl w) _⟩
theorem nought_at (w : World) : BytesAt (w.alloc (.cells #[.int .u8 0] 5)) (some ⟨w.heap.size, 0, none⟩) [0] := fun _ => ⟨_, _, rfl, fun j hj => by
  have hj0 : j = 0 := by simpa using hj
  subst hj0
  exact (RowIs.new w 5 [.int .u8 0]).cell (j := 0) rfl⟩
theorem ixB_pos (L : List Rc) : 0 < (ixB L).length := by unfold ixB; simp
/-- What Put and Get tell of records that may be laid. -/
theorem back_own {X : List Rx} {W : World} {a : Option Addr} (h : RsAt W a X) (hp : putE (rsof X) = 0) : gOk (ixB (rsof X)) (rsof X) := ⟨(putE_zero hp).2, rfl, (putE_zero hp).1, h.r32⟩
theorem get_yes {ao : Option Addr} {cap n : Nat} {raw : List UInt8} {L : List Rc} (hg : gOk raw L) (hn : raw.length = n) (hcap : n ≤ cap) {w : World} (hat : BytesAt w ao raw) : Calls Try.prog 14 #[.slice ao n cap] w fun e w' => ∃ a k c Y, e = .returned (.tuple #[.slice a k c, .int .i64 0]) ∧ Y.length = k ∧ k ≤ 64 ∧ OwnR w' w.heap.size (.slice a k c) Y ∧ rsof Y = L ∧ After w w' :=
  (get14 hn hcap (by have := hg.1; omega) hat).mono (fun e w' h => by
    rcases h.ans with ⟨a, c, k, Y, h1, h2, h3, h4, h5⟩ | ⟨h1, _⟩
    · exact ⟨a, k, c, Y, h2, h3, h4, h5, gOk_inj h1 hg, h.aft⟩
    · exact absurd hg (h1 L))
theorem get_no {ao : Option Addr} {cap n : Nat} {raw : List UInt8} (hg : ∀ L, ¬ gOk raw L) (hn : raw.length = n) (hcap : n ≤ cap) (hbig : n ≤ 140737488355328) {w : World} (hat : BytesAt w ao raw) : Calls Try.prog 14 #[.slice ao n cap] w fun e w' => e = .returned (.tuple #[.slice none 0 0, .int .i64 4]) ∧ After w w' :=
  (get14 hn hcap hbig hat).mono (fun e w' h => by
    rcases h.ans with ⟨a, c, k, Y, h1, _⟩ | ⟨_, h2⟩
    · exact absurd h1 (hg _)
    · exact ⟨h2, h.aft⟩)
theorem put_yes {la : Option Addr} {ca n : Nat} {X : List Rx} (hl : X.length = n) (hn : n * 72 ≤ 140737488355328) (hp : putE (rsof X) = 0) {k : Nat} (hk : (ixB (rsof X)).length = k) {w : World} (hA : RsAt w la X) : Calls Try.prog 10 #[.slice la n ca] w fun e w' => ∃ a c, e = .returned (.tuple #[.slice a k c, .int .i64 0]) ∧ BytesAt w' a (ixB (rsof X)) ∧ k ≤ c ∧ After w w' :=
  (put10 hl hn hA).mono (fun e w' h => by
    rcases h.ans with ⟨_, a, c, k', he, h1, h2, h3⟩ | ⟨h1, _⟩
    · obtain rfl : k' = k := by rw [← h1, hk]
      exact ⟨a, c, he, h2, h3, h.aft⟩
    · exact absurd hp h1)
theorem put_no {la : Option Addr} {ca n : Nat} {X : List Rx} (hl : X.length = n) (hn : n * 72 ≤ 140737488355328) (hp : putE (rsof X) ≠ 0) {w : World} (hA : RsAt w la X) : Calls Try.prog 10 #[.slice la n ca] w fun e w' => e = .returned (.tuple #[.slice none 0 0, .int .i64 (putE (rsof X) : Int)]) ∧ After w w' :=
  (put10 hl hn hA).mono (fun e w' h => by
    rcases h.ans with ⟨h1, _⟩ | ⟨_, h2⟩
    · exact absurd h1 hp
    · exact ⟨h2, h.aft⟩)
set_option maxRecDepth 100000 in
set_option maxHeartbeats 25600000 in
theorem back5 {la ra : Option Addr} {n ca m cb : Nat} {X : List Rx} {raw : List UInt8} (hl : X.length = n) (hn : n < 4611686018427387904) (hr : raw.length = m) (hm : m ≤ 140737488355328) (hcap : m ≤ cb) {w : World} (hA : RsAt w la X) (hB : BytesAt w ra raw) : Calls Try.prog 5 #[.slice la n ca, .slice ra m cb] w fun e w' => e = .returned (.bool true) ∧ After w w' := by
  have HL : Hid (RsAt w la X ∧ X.length = n ∧ n < 4611686018427387904) := ⟨hA, hl, hn⟩
  have HR : Hid (BytesAt w ra raw ∧ raw.length = m ∧ m ≤ cb ∧ m ≤ 140737488355328) := ⟨hB, hr, hcap, hm⟩
  have HF7 : Hid (∀ W, After w W → Calls Try.prog 7 #[.slice la n ca] W fun e w' => e = .returned (.bool (decide (prts X ≤ 600))) ∧ After W w') := fun W hW => few7 HL.out.2.1 HL.out.2.2 (HL.out.1.after hW)
  clear hA hB hl hr hn hm hcap
  by_cases hg : ∃ L, gOk raw L
  · obtain ⟨L, hL⟩ := hg
    have HG1 : Hid (Calls Try.prog 14 #[.slice ra m cb] w fun e w' => ∃ a k c Y, e = .returned (.tuple #[.slice a k c, .int .i64 0]) ∧ Y.length = k ∧ k ≤ 64 ∧ OwnR w' w.heap.size (.slice a k c) Y ∧ rsof Y = L ∧ After w w') := get_yes hL HR.out.2.1 HR.out.2.2.1 HR.out.1
    have HLP : Hid (gOk raw L ∧ putE L = 0) := ⟨hL, putE_ok hL.2.2.1 (by rw [← hL.2.1]; have := hL.1; omega)⟩
    clear hL
    by_cases hf : prts X ≤ 600
    · have HFEW : Hid (decide (prts X ≤ 600) = true) := decide_eq_true hf
      have hn6 : n ≤ 600 := by have := prts_len X; rw [HL.out.2.1] at this; omega
      by_cases hp : putE (rsof X) = 0
      · obtain ⟨B, hB⟩ : ∃ B, ixB (rsof X) = B := ⟨_, rfl⟩
        obtain ⟨k, hk⟩ : ∃ k, B.length = k := ⟨_, rfl⟩
        have hkp : 0 < k := by rw [← hk, ← hB]; exact ixB_pos _
        have hkz : ¬ (k : Int) = 0 := by omega
        obtain ⟨j, hj⟩ : ∃ j, k = j + 1 := ⟨k - 1, by omega⟩
        have hgk := back_own HL.out.1 hp
        rw [hB] at hgk
        have HK : Hid (B.length = k ∧ k = j + 1 ∧ k ≤ 524288) := ⟨hk, hj, by have := hgk.1; omega⟩
        have HPY : Hid (∀ W, After w W → Calls Try.prog 10 #[.slice la n ca] W fun e w' => ∃ b o c, e = .returned (.tuple #[.slice (some ⟨b, o, none⟩) k c, .int .i64 0]) ∧ BytesAt w' (some ⟨b, o, none⟩) B ∧ k ≤ c ∧ After W w') := fun W hW => (put_yes (ca := ca) (k := k) HL.out.2.1 (by omega) hp (by rw [hB]; exact hk) (HL.out.1.after hW)).mono (fun e w' ⟨a, c, he, h1, h2, h3⟩ => by
          rw [hB] at h1
          obtain ⟨b, o, rfl, _⟩ := h1 (by intro e; rw [e] at hk; simp at hk; omega)
          exact ⟨b, o, c, he, h1, h2, h3⟩)
        have HGB : Hid (∀ (W : World) (a : Option Addr) (c : Nat), BytesAt W a B → k ≤ c → Calls Try.prog 14 #[.slice a k c] W fun e w' => ∃ a k c Y, e = .returned (.tuple #[.slice a k c, .int .i64 0]) ∧ Y.length = k ∧ k ≤ 64 ∧ OwnR w' W.heap.size (.slice a k c) Y ∧ rsof Y = rsof X ∧ After W w') := fun W a c hb hc => get_yes hgk hk hc hb
        have HNO : Hid ((∀ M, ¬ gOk (B ++ [0]) M) ∧ ∀ M, ¬ gOk (B.take j) M) := ⟨fun M h => (by have := gOk_more hgk h; cases this), fun M h => by
          have h9 : gOk (B.take j ++ B.drop j) (rsof X) := by rw [List.take_append_drop]; exact hgk
          have := congrArg List.length (gOk_more h h9)
          rw [List.length_drop, hk] at this
          simp at this; omega⟩
        have HSA : Hid (∀ (W : World) (a : Option Addr) (i c : Nat) (Z : List Rx), Z.length = i → i ≤ 64 → rsof Z = rsof X → After w W → RsAt W a Z → Calls Try.prog 16 #[.slice a i c, .slice la n ca] W fun e w' => e = .returned (.bool true) ∧ After W w') := fun W a i c Z h1 h2 h3 h4 h5 => (same16 (ca := c) (cb := ca) h1 HL.out.2.1 (by omega) h5 (HL.out.1.after h4)).mono (fun e w' ⟨he, h9⟩ => ⟨by rw [he, decide_eq_true h3], h9⟩)
        have HNO3 : Hid (∀ M, ¬ gOk (B ++ [0]) M) := HNO.out.1
        clear hgk hB hk hj hp hf
        go_enter Try.func5, Try.ntmps5
        go_wp2_with (first
          | (go_at_call 14; have hT := HG1.out; clear hT; refine Calls.mono HG1.out ?_; rintro e w1 ⟨a1, k1, c1, Y, rfl, h1, h2, h3, h4, h5⟩
             have H1 : Hid (Y.length = k1 ∧ k1 ≤ 64 ∧ RsAt w1 a1 Y ∧ rsof Y = L ∧ After w w1) := ⟨h1, h2, by
               obtain ⟨a9, c9, e9, h9⟩ := h3.at
               rw [h1] at e9; injection e9 with e1 _ _; subst e1; exact h9, h4, h5⟩
             clear h1 h2 h3 h4 h5 HG1)
          | (go_at_call 10; have hT := HLP.out; clear hT; refine Calls.mono (put_yes (n := k1) (k := m) (ca := c1) H1.out.1 (by have := H1.out.2.1; omega) (by rw [H1.out.2.2.2.1]; exact HLP.out.2) (by rw [H1.out.2.2.2.1, ← HLP.out.1.2.1]; exact HR.out.2.1) H1.out.2.2.1) ?_; rintro e w2 ⟨a2, c2, rfl, hb, hc, ha⟩
             have H2 : Hid (BytesAt w2 a2 raw ∧ After w w2 ∧ BytesAt w2 ra raw) := ⟨by
               have h9 := hb
               rw [H1.out.2.2.2.1, ← HLP.out.1.2.1] at h9
               exact h9, H1.out.2.2.2.2.trans ha, HR.out.1.after (H1.out.2.2.2.2.trans ha)⟩
             have hcv1 : (convert 26 9 (.slice a2 m c2)).run Try.prog w2 = .ok (.string (strOf raw)) w2 := by have h9 := conv_at c2 H2.out.1; rw [HR.out.2.1] at h9; exact h9
             have hcv2 : (convert 26 9 (.slice ra m cb)).run Try.prog w2 = .ok (.string (strOf raw)) w2 := by have h9 := conv_at cb H2.out.2.2; rw [HR.out.2.1] at h9; exact h9
             have H3 : Hid (After w w2) := H2.out.2.1
             clear hb hc ha HLP)
          | (go_at_call 7; refine Calls.mono (HF7.out _ H3.out) ?_; rintro e w3 ⟨rfl, ha⟩; rw [HFEW.out]; have H4 : Hid (After w w3) := H3.out.trans ha; clear ha)
          | (go_at_call 10; refine Calls.mono (HPY.out _ H4.out) ?_; rintro e w4 ⟨b4, o4, c4, rfl, hb, hc, ha⟩; have H5 : Hid (BytesAt w4 (some ⟨b4, o4, none⟩) B ∧ k ≤ c4 ∧ After w w4) := ⟨hb, hc, H4.out.trans ha⟩; clear hb hc ha)
          | (go_at_call 14; have hT := HGB.out; clear hT; refine Calls.mono (HGB.out _ _ _ H5.out.1 H5.out.2.1) ?_; rintro e w5 ⟨a5, k5, c5, Z, rfl, h1, h2, h3, h4, h5⟩
             have H6 : Hid (Z.length = k5 ∧ k5 ≤ 64 ∧ RsAt w5 a5 Z ∧ rsof Z = rsof X ∧ After w w5 ∧ BytesAt w5 (some ⟨b4, o4, none⟩) B) := ⟨h1, h2, by
               obtain ⟨a9, c9, e9, h9⟩ := h3.at
               rw [h1] at e9; injection e9 with e1 _ _; subst e1; exact h9, h4, H5.out.2.2.trans h5, H5.out.1.after h5⟩
             clear h1 h2 h3 h4 h5 HGB)
          | (refine wpList_of_run rfl (x_bs26z rfl) ?_
             obtain ⟨v6, hv6⟩ : ∃ v6 : Value, (.slice (some ⟨w5.heap.size, 0, none⟩) 0 0 : Value) = v6 := ⟨_, rfl⟩
             obtain ⟨w6, hw6⟩ : ∃ w6, w5.alloc (.cells #[] 5) = w6 := ⟨_, rfl⟩
             have H7 : Hid (OwA w5 [] v6 w6) := by rw [← hv6, ← hw6]; exact owa_nil w5
             rw [hv6, hw6]; clear hv6 hw6)
          | (at_builtin; refine wpList_append_any rfl (.tmp 70) (.tmp 71) rfl w5.heap.size v6 [] rfl H7.out.own (some ⟨b4, o4, none⟩) c4 B k HK.out.1 rfl (H6.out.2.2.2.2.2.after H7.out.aft) (by have := HK.out; simp only [List.length_nil]; omega) H7.out.aft.size ?_
             intro v7 w7 ho7 hg7
             have H8 : Hid (OwA w5 B v7 w7) := H7.out.app (by rw [List.nil_append] at ho7; exact ho7) hg7
             clear ho7 hg7)
          | (refine wpList_of_run rfl (x_bs26o rfl) ?_
             obtain ⟨g8, hg8⟩ : ∃ g8, w7.heap.size = g8 := ⟨_, rfl⟩
             obtain ⟨w8, hw8⟩ : ∃ w8, w7.alloc (.cells #[.int .u8 0] 5) = w8 := ⟨_, rfl⟩
             have H9 : Hid (OwA w5 B v7 w8 ∧ BytesAt w8 (some ⟨g8, 0, none⟩) [0]) := by
               rw [← hw8, ← hg8]; exact ⟨H8.out.more (after_alloc (After.refl _) _), nought_at w7⟩
             rw [hw8, hg8]; clear hw8 hg8)
          | (at_builtin; refine wpList_append_any rfl (.tmp 72) (.tmp 73) rfl w5.heap.size v7 B rfl H9.out.1.own (some ⟨g8, 0, none⟩) 1 [0] 1 rfl rfl H9.out.2 (by have := HK.out; simp only [List.length_cons, List.length_nil]; omega) H9.out.1.aft.size ?_
             intro v9 w9 ho9 hg9
             have hx9 : OwA w5 (B ++ [0]) v9 w9 := H9.out.1.app ho9 hg9
             obtain ⟨a9, c9, rfl, hb9, hc9, _⟩ := hx9.own.at
             obtain ⟨k9, hk9⟩ : ∃ k9, (B ++ [0]).length = k9 := ⟨_, rfl⟩
             have H10 : Hid (BytesAt w9 a9 (B ++ [0]) ∧ k9 ≤ c9 ∧ (B ++ [0]).length = k9 ∧ After w w9 ∧ RsAt w9 a5 Z ∧ BytesAt w9 (some ⟨b4, o4, none⟩) B) := ⟨hb9, by rw [← hk9]; exact hc9, hk9, H6.out.2.2.2.2.1.trans hx9.aft, H6.out.2.2.1.after hx9.aft, H6.out.2.2.2.2.2.after hx9.aft⟩
             rw [hk9]
             clear ho9 hg9 hx9 hb9 hc9 hk9)
          | (go_at_call 14; have hT := HNO3.out; clear hT; refine Calls.mono (get_no HNO3.out H10.out.2.2.1 H10.out.2.1 (by have h9 := H10.out.2.2.1; have := HK.out; simp only [List.length_append, List.length_cons, List.length_nil] at h9; omega) H10.out.1) ?_; rintro e w10 ⟨rfl, ha⟩; have H11 : Hid (After w w10 ∧ RsAt w10 a5 Z ∧ BytesAt w10 (some ⟨b4, o4, none⟩) B) := ⟨H10.out.2.2.2.1.trans ha, H10.out.2.2.2.2.1.after ha, H10.out.2.2.2.2.2.after ha⟩; clear ha HNO3)
          | (refine wpList_of_run rfl (x_sub1 (k := k) (i := j) (x := .tmp 81) rfl rfl HK.out.2.1 (by have := HK.out; omega)) ?_)
          | (refine wpList_of_run rfl (x_slice (x := .tmp 79) (y := .tmp 82) (b := b4) (off := o4) (len := k) (cap := c4) (k := j) rfl rfl rfl (by have := HK.out.2.1; have := H5.out.2.1; omega)) ?_)
          | (go_at_call 14; refine Calls.mono (get_no (n := j) (cap := c4) HNO.out.2 (by rw [List.length_take, HK.out.1]; have := HK.out.2.1; omega) (by have := HK.out.2.1; have := H5.out.2.1; omega) (by have := HK.out; omega) (H11.out.2.2.take j)) ?_; rintro e w11 ⟨rfl, ha⟩; have H12 : Hid (After w w11 ∧ RsAt w11 a5 Z) := ⟨H11.out.1.trans ha, H11.out.2.1.after ha⟩; clear ha)
          | (go_at_call 16; refine Calls.mono (HSA.out _ _ _ _ _ H6.out.1 H6.out.2.1 H6.out.2.2.2.1 H12.out.1 H12.out.2) ?_; rintro e w12 ⟨rfl, ha⟩; have H13 : Hid (After w w12) := H12.out.1.trans ha; clear ha)
          | (go_at_call 8; refine Calls.mono (awake8 _) ?_; rintro e w13 ⟨rfl, ha⟩; have H14 : Hid (After w w13) := H13.out.trans ha; clear ha))
        refine bodyPost_ret (v := .bool true) (by simp [results, Try.results5, go_sem]) rfl ⟨rfl, H14.out⟩
      · have HPN : Hid (∀ W, After w W → Calls Try.prog 10 #[.slice la n ca] W fun e w' => e = .returned (.tuple #[.slice none 0 0, .int .i64 (putE (rsof X) : Int)]) ∧ After W w') := fun W hW => put_no HL.out.2.1 (by omega) hp (HL.out.1.after hW)
        have HCN : Hid (∀ W, After w W → Calls Try.prog 12 #[.slice la n ca] W fun e w' => e = .returned (.int .i64 (putE (rsof X) : Int)) ∧ After W w') := fun W hW => check12 HL.out.2.1 (by omega) (HL.out.1.after hW)
        obtain ⟨E, hE⟩ : ∃ E, putE (rsof X) = E := ⟨_, rfl⟩
        rw [hE] at HPN HCN hp
        have hEz : ¬ (E : Int) = 0 := by omega
        clear hf hE
        go_enter Try.func5, Try.ntmps5
        go_wp2_with (first
          | (go_at_call 14; have hT := HG1.out; clear hT; refine Calls.mono HG1.out ?_; rintro e w1 ⟨a1, k1, c1, Y, rfl, h1, h2, h3, h4, h5⟩
             have H1 : Hid (Y.length = k1 ∧ k1 ≤ 64 ∧ RsAt w1 a1 Y ∧ rsof Y = L ∧ After w w1) := ⟨h1, h2, by
               obtain ⟨a9, c9, e9, h9⟩ := h3.at
               rw [h1] at e9; injection e9 with e1 _ _; subst e1; exact h9, h4, h5⟩
             clear h1 h2 h3 h4 h5 HG1)
          | (go_at_call 10; have hT := HLP.out; clear hT; refine Calls.mono (put_yes (n := k1) (k := m) (ca := c1) H1.out.1 (by have := H1.out.2.1; omega) (by rw [H1.out.2.2.2.1]; exact HLP.out.2) (by rw [H1.out.2.2.2.1, ← HLP.out.1.2.1]; exact HR.out.2.1) H1.out.2.2.1) ?_; rintro e w2 ⟨a2, c2, rfl, hb, hc, ha⟩
             have H2 : Hid (BytesAt w2 a2 raw ∧ After w w2 ∧ BytesAt w2 ra raw) := ⟨by
               have h9 := hb
               rw [H1.out.2.2.2.1, ← HLP.out.1.2.1] at h9
               exact h9, H1.out.2.2.2.2.trans ha, HR.out.1.after (H1.out.2.2.2.2.trans ha)⟩
             have hcv1 : (convert 26 9 (.slice a2 m c2)).run Try.prog w2 = .ok (.string (strOf raw)) w2 := by have h9 := conv_at c2 H2.out.1; rw [HR.out.2.1] at h9; exact h9
             have hcv2 : (convert 26 9 (.slice ra m cb)).run Try.prog w2 = .ok (.string (strOf raw)) w2 := by have h9 := conv_at cb H2.out.2.2; rw [HR.out.2.1] at h9; exact h9
             have H3 : Hid (After w w2) := H2.out.2.1
             clear hb hc ha HLP)
          | (go_at_call 7; refine Calls.mono (HF7.out _ H3.out) ?_; rintro e w3 ⟨rfl, ha⟩; rw [HFEW.out]; have H4 : Hid (After w w3) := H3.out.trans ha; clear ha)
          | (go_at_call 10; refine Calls.mono (HPN.out _ H4.out) ?_; rintro e w4 ⟨rfl, ha⟩; have H5 : Hid (After w w4) := H4.out.trans ha; clear ha)
          | (go_at_call 12; refine Calls.mono (HCN.out _ H5.out) ?_; rintro e w5 ⟨rfl, ha⟩; have H6 : Hid (After w w5) := H5.out.trans ha; clear ha)
          | (go_at_call 8; refine Calls.mono (awake8 _) ?_; rintro e w6 ⟨rfl, ha⟩; have H7 : Hid (After w w6) := H6.out.trans ha; clear ha))
        refine bodyPost_ret (v := .bool true) (by simp [results, Try.results5, go_sem]) rfl ⟨rfl, H7.out⟩
    · have HFEW : Hid (decide (prts X ≤ 600) = false) := decide_eq_false hf
      clear hf
      go_enter Try.func5, Try.ntmps5
      go_wp2_with (first
        | (go_at_call 14; have hT := HG1.out; clear hT; refine Calls.mono HG1.out ?_; rintro e w1 ⟨a1, k1, c1, Y, rfl, h1, h2, h3, h4, h5⟩
           have H1 : Hid (Y.length = k1 ∧ k1 ≤ 64 ∧ RsAt w1 a1 Y ∧ rsof Y = L ∧ After w w1) := ⟨h1, h2, by
             obtain ⟨a9, c9, e9, h9⟩ := h3.at
             rw [h1] at e9; injection e9 with e1 _ _; subst e1; exact h9, h4, h5⟩
           clear h1 h2 h3 h4 h5 HG1)
        | (go_at_call 10; have hT := HLP.out; clear hT; refine Calls.mono (put_yes (n := k1) (k := m) (ca := c1) H1.out.1 (by have := H1.out.2.1; omega) (by rw [H1.out.2.2.2.1]; exact HLP.out.2) (by rw [H1.out.2.2.2.1, ← HLP.out.1.2.1]; exact HR.out.2.1) H1.out.2.2.1) ?_; rintro e w2 ⟨a2, c2, rfl, hb, hc, ha⟩
           have H2 : Hid (BytesAt w2 a2 raw ∧ After w w2 ∧ BytesAt w2 ra raw) := ⟨by
             have h9 := hb
             rw [H1.out.2.2.2.1, ← HLP.out.1.2.1] at h9
             exact h9, H1.out.2.2.2.2.trans ha, HR.out.1.after (H1.out.2.2.2.2.trans ha)⟩
           have hcv1 : (convert 26 9 (.slice a2 m c2)).run Try.prog w2 = .ok (.string (strOf raw)) w2 := by have h9 := conv_at c2 H2.out.1; rw [HR.out.2.1] at h9; exact h9
           have hcv2 : (convert 26 9 (.slice ra m cb)).run Try.prog w2 = .ok (.string (strOf raw)) w2 := by have h9 := conv_at cb H2.out.2.2; rw [HR.out.2.1] at h9; exact h9
           have H3 : Hid (After w w2) := H2.out.2.1
           clear hb hc ha HLP)
        | (go_at_call 7; refine Calls.mono (HF7.out _ H3.out) ?_; rintro e w3 ⟨rfl, ha⟩; rw [HFEW.out]; have H4 : Hid (After w w3) := H3.out.trans ha; clear ha)
        | (go_at_call 8; refine Calls.mono (awake8 _) ?_; rintro e w4 ⟨rfl, ha⟩; have H5 : Hid (After w w4) := H4.out.trans ha; clear ha))
      refine bodyPost_ret (v := .bool true) (by simp [results, Try.results5, go_sem]) rfl ⟨rfl, H5.out⟩
  · have HG1 : Hid (Calls Try.prog 14 #[.slice ra m cb] w fun e w' => e = .returned (.tuple #[.slice none 0 0, .int .i64 4]) ∧ After w w') := get_no (fun L h => hg ⟨L, h⟩) HR.out.2.1 HR.out.2.2.1 HR.out.2.2.2 HR.out.1
    clear hg
    by_cases hf : prts X ≤ 600
    · have HFEW : Hid (decide (prts X ≤ 600) = true) := decide_eq_true hf
      have hn6 : n ≤ 600 := by have := prts_len X; rw [HL.out.2.1] at this; omega
      by_cases hp : putE (rsof X) = 0
      · obtain ⟨B, hB⟩ : ∃ B, ixB (rsof X) = B := ⟨_, rfl⟩
        obtain ⟨k, hk⟩ : ∃ k, B.length = k := ⟨_, rfl⟩
        have hkp : 0 < k := by rw [← hk, ← hB]; exact ixB_pos _
        have hkz : ¬ (k : Int) = 0 := by omega
        obtain ⟨j, hj⟩ : ∃ j, k = j + 1 := ⟨k - 1, by omega⟩
        have hgk := back_own HL.out.1 hp
        rw [hB] at hgk
        have HK : Hid (B.length = k ∧ k = j + 1 ∧ k ≤ 524288) := ⟨hk, hj, by have := hgk.1; omega⟩
        have HPY : Hid (∀ W, After w W → Calls Try.prog 10 #[.slice la n ca] W fun e w' => ∃ b o c, e = .returned (.tuple #[.slice (some ⟨b, o, none⟩) k c, .int .i64 0]) ∧ BytesAt w' (some ⟨b, o, none⟩) B ∧ k ≤ c ∧ After W w') := fun W hW => (put_yes (ca := ca) (k := k) HL.out.2.1 (by omega) hp (by rw [hB]; exact hk) (HL.out.1.after hW)).mono (fun e w' ⟨a, c, he, h1, h2, h3⟩ => by
          rw [hB] at h1
          obtain ⟨b, o, rfl, _⟩ := h1 (by intro e; rw [e] at hk; simp at hk; omega)
          exact ⟨b, o, c, he, h1, h2, h3⟩)
        have HGB : Hid (∀ (W : World) (a : Option Addr) (c : Nat), BytesAt W a B → k ≤ c → Calls Try.prog 14 #[.slice a k c] W fun e w' => ∃ a k c Y, e = .returned (.tuple #[.slice a k c, .int .i64 0]) ∧ Y.length = k ∧ k ≤ 64 ∧ OwnR w' W.heap.size (.slice a k c) Y ∧ rsof Y = rsof X ∧ After W w') := fun W a c hb hc => get_yes hgk hk hc hb
        have HNO : Hid ((∀ M, ¬ gOk (B ++ [0]) M) ∧ ∀ M, ¬ gOk (B.take j) M) := ⟨fun M h => (by have := gOk_more hgk h; cases this), fun M h => by
          have h9 : gOk (B.take j ++ B.drop j) (rsof X) := by rw [List.take_append_drop]; exact hgk
          have := congrArg List.length (gOk_more h h9)
          rw [List.length_drop, hk] at this
          simp at this; omega⟩
        have HSA : Hid (∀ (W : World) (a : Option Addr) (i c : Nat) (Z : List Rx), Z.length = i → i ≤ 64 → rsof Z = rsof X → After w W → RsAt W a Z → Calls Try.prog 16 #[.slice a i c, .slice la n ca] W fun e w' => e = .returned (.bool true) ∧ After W w') := fun W a i c Z h1 h2 h3 h4 h5 => (same16 (ca := c) (cb := ca) h1 HL.out.2.1 (by omega) h5 (HL.out.1.after h4)).mono (fun e w' ⟨he, h9⟩ => ⟨by rw [he, decide_eq_true h3], h9⟩)
        have HNO3 : Hid (∀ M, ¬ gOk (B ++ [0]) M) := HNO.out.1
        clear hgk hB hk hj hp hf
        go_enter Try.func5, Try.ntmps5
        go_wp2_with (first
          | (go_at_call 14; have hT := HG1.out; clear hT; refine Calls.mono HG1.out ?_; rintro e w2 ⟨rfl, h1⟩
             have H3 : Hid (After w w2) := h1
             clear h1 HG1)
          | (go_at_call 7; refine Calls.mono (HF7.out _ H3.out) ?_; rintro e w3 ⟨rfl, ha⟩; rw [HFEW.out]; have H4 : Hid (After w w3) := H3.out.trans ha; clear ha)
          | (go_at_call 10; refine Calls.mono (HPY.out _ H4.out) ?_; rintro e w4 ⟨b4, o4, c4, rfl, hb, hc, ha⟩; have H5 : Hid (BytesAt w4 (some ⟨b4, o4, none⟩) B ∧ k ≤ c4 ∧ After w w4) := ⟨hb, hc, H4.out.trans ha⟩; clear hb hc ha)
          | (go_at_call 14; have hT := HGB.out; clear hT; refine Calls.mono (HGB.out _ _ _ H5.out.1 H5.out.2.1) ?_; rintro e w5 ⟨a5, k5, c5, Z, rfl, h1, h2, h3, h4, h5⟩
             have H6 : Hid (Z.length = k5 ∧ k5 ≤ 64 ∧ RsAt w5 a5 Z ∧ rsof Z = rsof X ∧ After w w5 ∧ BytesAt w5 (some ⟨b4, o4, none⟩) B) := ⟨h1, h2, by
               obtain ⟨a9, c9, e9, h9⟩ := h3.at
               rw [h1] at e9; injection e9 with e1 _ _; subst e1; exact h9, h4, H5.out.2.2.trans h5, H5.out.1.after h5⟩
             clear h1 h2 h3 h4 h5 HGB)
          | (refine wpList_of_run rfl (x_bs26z rfl) ?_
             obtain ⟨v6, hv6⟩ : ∃ v6 : Value, (.slice (some ⟨w5.heap.size, 0, none⟩) 0 0 : Value) = v6 := ⟨_, rfl⟩
             obtain ⟨w6, hw6⟩ : ∃ w6, w5.alloc (.cells #[] 5) = w6 := ⟨_, rfl⟩
             have H7 : Hid (OwA w5 [] v6 w6) := by rw [← hv6, ← hw6]; exact owa_nil w5
             rw [hv6, hw6]; clear hv6 hw6)
          | (at_builtin; refine wpList_append_any rfl (.tmp 70) (.tmp 71) rfl w5.heap.size v6 [] rfl H7.out.own (some ⟨b4, o4, none⟩) c4 B k HK.out.1 rfl (H6.out.2.2.2.2.2.after H7.out.aft) (by have := HK.out; simp only [List.length_nil]; omega) H7.out.aft.size ?_
             intro v7 w7 ho7 hg7
             have H8 : Hid (OwA w5 B v7 w7) := H7.out.app (by rw [List.nil_append] at ho7; exact ho7) hg7
             clear ho7 hg7)
          | (refine wpList_of_run rfl (x_bs26o rfl) ?_
             obtain ⟨g8, hg8⟩ : ∃ g8, w7.heap.size = g8 := ⟨_, rfl⟩
             obtain ⟨w8, hw8⟩ : ∃ w8, w7.alloc (.cells #[.int .u8 0] 5) = w8 := ⟨_, rfl⟩
             have H9 : Hid (OwA w5 B v7 w8 ∧ BytesAt w8 (some ⟨g8, 0, none⟩) [0]) := by
               rw [← hw8, ← hg8]; exact ⟨H8.out.more (after_alloc (After.refl _) _), nought_at w7⟩
             rw [hw8, hg8]; clear hw8 hg8)
          | (at_builtin; refine wpList_append_any rfl (.tmp 72) (.tmp 73) rfl w5.heap.size v7 B rfl H9.out.1.own (some ⟨g8, 0, none⟩) 1 [0] 1 rfl rfl H9.out.2 (by have := HK.out; simp only [List.length_cons, List.length_nil]; omega) H9.out.1.aft.size ?_
             intro v9 w9 ho9 hg9
             have hx9 : OwA w5 (B ++ [0]) v9 w9 := H9.out.1.app ho9 hg9
             obtain ⟨a9, c9, rfl, hb9, hc9, _⟩ := hx9.own.at
             obtain ⟨k9, hk9⟩ : ∃ k9, (B ++ [0]).length = k9 := ⟨_, rfl⟩
             have H10 : Hid (BytesAt w9 a9 (B ++ [0]) ∧ k9 ≤ c9 ∧ (B ++ [0]).length = k9 ∧ After w w9 ∧ RsAt w9 a5 Z ∧ BytesAt w9 (some ⟨b4, o4, none⟩) B) := ⟨hb9, by rw [← hk9]; exact hc9, hk9, H6.out.2.2.2.2.1.trans hx9.aft, H6.out.2.2.1.after hx9.aft, H6.out.2.2.2.2.2.after hx9.aft⟩
             rw [hk9]
             clear ho9 hg9 hx9 hb9 hc9 hk9)
          | (go_at_call 14; have hT := HNO3.out; clear hT; refine Calls.mono (get_no HNO3.out H10.out.2.2.1 H10.out.2.1 (by have h9 := H10.out.2.2.1; have := HK.out; simp only [List.length_append, List.length_cons, List.length_nil] at h9; omega) H10.out.1) ?_; rintro e w10 ⟨rfl, ha⟩; have H11 : Hid (After w w10 ∧ RsAt w10 a5 Z ∧ BytesAt w10 (some ⟨b4, o4, none⟩) B) := ⟨H10.out.2.2.2.1.trans ha, H10.out.2.2.2.2.1.after ha, H10.out.2.2.2.2.2.after ha⟩; clear ha HNO3)
          | (refine wpList_of_run rfl (x_sub1 (k := k) (i := j) (x := .tmp 81) rfl rfl HK.out.2.1 (by have := HK.out; omega)) ?_)
          | (refine wpList_of_run rfl (x_slice (x := .tmp 79) (y := .tmp 82) (b := b4) (off := o4) (len := k) (cap := c4) (k := j) rfl rfl rfl (by have := HK.out.2.1; have := H5.out.2.1; omega)) ?_)
          | (go_at_call 14; refine Calls.mono (get_no (n := j) (cap := c4) HNO.out.2 (by rw [List.length_take, HK.out.1]; have := HK.out.2.1; omega) (by have := HK.out.2.1; have := H5.out.2.1; omega) (by have := HK.out; omega) (H11.out.2.2.take j)) ?_; rintro e w11 ⟨rfl, ha⟩; have H12 : Hid (After w w11 ∧ RsAt w11 a5 Z) := ⟨H11.out.1.trans ha, H11.out.2.1.after ha⟩; clear ha)
          | (go_at_call 16; refine Calls.mono (HSA.out _ _ _ _ _ H6.out.1 H6.out.2.1 H6.out.2.2.2.1 H12.out.1 H12.out.2) ?_; rintro e w12 ⟨rfl, ha⟩; have H13 : Hid (After w w12) := H12.out.1.trans ha; clear ha)
          | (go_at_call 8; refine Calls.mono (awake8 _) ?_; rintro e w13 ⟨rfl, ha⟩; have H14 : Hid (After w w13) := H13.out.trans ha; clear ha))
        refine bodyPost_ret (v := .bool true) (by simp [results, Try.results5, go_sem]) rfl ⟨rfl, H14.out⟩
      · have HPN : Hid (∀ W, After w W → Calls Try.prog 10 #[.slice la n ca] W fun e w' => e = .returned (.tuple #[.slice none 0 0, .int .i64 (putE (rsof X) : Int)]) ∧ After W w') := fun W hW => put_no HL.out.2.1 (by omega) hp (HL.out.1.after hW)
        have HCN : Hid (∀ W, After w W → Calls Try.prog 12 #[.slice la n ca] W fun e w' => e = .returned (.int .i64 (putE (rsof X) : Int)) ∧ After W w') := fun W hW => check12 HL.out.2.1 (by omega) (HL.out.1.after hW)
        obtain ⟨E, hE⟩ : ∃ E, putE (rsof X) = E := ⟨_, rfl⟩
        rw [hE] at HPN HCN hp
        have hEz : ¬ (E : Int) = 0 := by omega
        clear hf hE
        go_enter Try.func5, Try.ntmps5
        go_wp2_with (first
          | (go_at_call 14; have hT := HG1.out; clear hT; refine Calls.mono HG1.out ?_; rintro e w2 ⟨rfl, h1⟩
             have H3 : Hid (After w w2) := h1
             clear h1 HG1)
          | (go_at_call 7; refine Calls.mono (HF7.out _ H3.out) ?_; rintro e w3 ⟨rfl, ha⟩; rw [HFEW.out]; have H4 : Hid (After w w3) := H3.out.trans ha; clear ha)
          | (go_at_call 10; refine Calls.mono (HPN.out _ H4.out) ?_; rintro e w4 ⟨rfl, ha⟩; have H5 : Hid (After w w4) := H4.out.trans ha; clear ha)
          | (go_at_call 12; refine Calls.mono (HCN.out _ H5.out) ?_; rintro e w5 ⟨rfl, ha⟩; have H6 : Hid (After w w5) := H5.out.trans ha; clear ha)
          | (go_at_call 8; refine Calls.mono (awake8 _) ?_; rintro e w6 ⟨rfl, ha⟩; have H7 : Hid (After w w6) := H6.out.trans ha; clear ha))
        refine bodyPost_ret (v := .bool true) (by simp [results, Try.results5, go_sem]) rfl ⟨rfl, H7.out⟩
    · have HFEW : Hid (decide (prts X ≤ 600) = false) := decide_eq_false hf
      clear hf
      go_enter Try.func5, Try.ntmps5
      go_wp2_with (first
        | (go_at_call 14; have hT := HG1.out; clear hT; refine Calls.mono HG1.out ?_; rintro e w2 ⟨rfl, h1⟩
           have H3 : Hid (After w w2) := h1
           clear h1 HG1)
        | (go_at_call 7; refine Calls.mono (HF7.out _ H3.out) ?_; rintro e w3 ⟨rfl, ha⟩; rw [HFEW.out]; have H4 : Hid (After w w3) := H3.out.trans ha; clear ha)
        | (go_at_call 8; refine Calls.mono (awake8 _) ?_; rintro e w4 ⟨rfl, ha⟩; have H5 : Hid (After w w4) := H4.out.trans ha; clear ha))
      refine bodyPost_ret (v := .bool true) (by simp [results, Try.results5, go_sem]) rfl ⟨rfl, H5.out⟩
end Go.Proofs.Ytcmcapcagblafaa
