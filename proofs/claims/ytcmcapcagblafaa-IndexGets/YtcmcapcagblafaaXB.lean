/-
  RECORDS IN MEMORY; index.recordMayBe (42).
-/
import Derived.Test.YtcmcapcagblafaaXA
namespace Go.Proofs.Ytcmcapcagblafaa
open Go.RowKit Go.Maps Dsk
attribute [local go_sem] Oper.semAt_some
/-- A record as it lies: its name, and where its branches and its changes are. -/
structure Rx where
  nm : Dsk.Nm
  ba : Option Addr
  bc : Nat
  X : List Bx
  a : Option Addr
  c : Nat
  l : List H
def rxc (x : Rx) : List Value := [.string (strOf x.nm), .slice x.ba x.X.length x.bc, .slice x.a x.l.length x.c]
def rof (x : Rx) : Rc := (x.nm, (bof x.X, x.l))
structure RxAt (W : World) (x : Rx) : Prop where
  bs : BsAt W x.ba x.X
  sl : SlAt W 32 x.a (hsL x.l)
  l32 : All32 x.l
  nmf : x.nm.length ≤ maxLen
  bnm : ∀ y ∈ x.X, y.nm.length ≤ maxLen
  fitB : x.X.length * 40 ≤ 140737488355328
  fitC : x.l.length * 32 ≤ 140737488355328
  zB : x.ba = none → x.bc = 0
  zC : x.a = none → x.c = 0
theorem RxAt.after {W W' : World} {x : Rx} (h : RxAt W x) (ha : After W W') : RxAt W' x := ⟨h.bs.after ha, h.sl.after ha, h.l32, h.nmf, h.bnm, h.fitB, h.fitC, h.zB, h.zC⟩
theorem RxAt.r32 {W : World} {x : Rx} (h : RxAt W x) : R32 (rof x) := ⟨h.l32, fun p hp => by
  obtain ⟨y, hy, rfl⟩ := List.mem_map.1 hp
  exact (h.bs.each y hy).l32⟩
def rsL (X : List Rx) : List (List Value) := X.map rxc
def rsof (X : List Rx) : List Rc := X.map rof
theorem uni_rs (X : List Rx) : Uni 3 (rsL X) := fun x hx => by
  obtain ⟨y, _, rfl⟩ := List.mem_map.1 hx; rfl
theorem rs_len (X : List Rx) : (rsL X).length = X.length := by simp [rsL]
theorem rsof_len (X : List Rx) : (rsof X).length = X.length := by simp [rsof]
theorem rs_get {X : List Rx} {i : Nat} {x : Rx} (h : X[i]? = some x) : (rsL X)[i]? = some (rxc x) := by unfold rsL; rw [List.getElem?_map, h]; rfl
theorem rsof_get {X : List Rx} {i : Nat} {x : Rx} (h : X[i]? = some x) : (rsof X)[i]? = some (rof x) := by unfold rsof; rw [List.getElem?_map, h]; rfl
theorem rs_one (X : List Rx) : ∀ x ∈ rsL X, ∀ u ∈ x, u.oneCell' = true := fun x hx u hu => by
  obtain ⟨y, _, rfl⟩ := List.mem_map.1 hx
  simp only [rxc, List.mem_cons, List.not_mem_nil, or_false] at hu
  rcases hu with rfl | rfl | rfl
  · rfl
  · rfl
  · rfl
/-- Records that lie somewhere. -/
structure RsAt (W : World) (a : Option Addr) (X : List Rx) : Prop where
  sl : SlAt W 3 a (rsL X)
  each : ∀ x ∈ X, RxAt W x
theorem RsAt.after {W W' : World} {a : Option Addr} {X : List Rx} (h : RsAt W a X) (ha : After W W') : RsAt W' a X := ⟨h.sl.after ha, fun x hx => (h.each x hx).after ha⟩
theorem RsAt.r32 {W : World} {a : Option Addr} {X : List Rx} (h : RsAt W a X) : ∀ r ∈ rsof X, R32 r := fun r hr => by
  obtain ⟨x, hx, rfl⟩ := List.mem_map.1 hr
  exact (h.each x hx).r32
/-- A truth is told. -/
def BoolT (P : Prop) (w : World) (e : Ending) (w' : World) : Prop := ∃ b : Bool, e = .returned (.bool b) ∧ (b = true ↔ P) ∧ After w w'
theorem strOf_data (l : List UInt8) : (strOf l).data.toList = l := by simp [strOf]
set_option maxRecDepth 100000 in
set_option maxHeartbeats 6400000 in
theorem rmb42 {x : Rx} {k n : Nat} (hk : x.X.length = k) (hn : x.l.length = n) {w : World} (hA : RxAt w x) : Calls Try.prog 42 #[.agg #[.string (strOf x.nm), .slice x.ba k x.bc, .slice x.a n x.c]] w (BoolT (ROk (rof x)) w) := by
  obtain ⟨g0, hg0⟩ : ∃ g0, w.heap.size = g0 := ⟨_, rfl⟩
  obtain ⟨W0, hW0⟩ : ∃ W0, w.alloc (.cells #[.string (strOf x.nm), .slice x.ba k x.bc, .slice x.a n x.c] 41) = W0 := ⟨_, rfl⟩
  have HR : Hid (RowIs W0 g0 41 [.string (strOf x.nm), .slice x.ba k x.bc, .slice x.a n x.c] ∧ After w W0) := by rw [← hW0, ← hg0]; exact ⟨RowIs.new w 41 _, after_alloc (After.refl w) _⟩
  have c0 := HR.out.1.cell (j := 0) rfl
  have c1 := HR.out.1.cell (j := 1) rfl
  have c2 := HR.out.1.cell (j := 2) rfl
  have HA : Hid (RxAt W0 x ∧ x.X.length = k ∧ x.l.length = n) := ⟨hA.after HR.out.2, hk, hn⟩
  have hsz : (strOf x.nm).size ≤ maxLen := by rw [strOf_size]; exact hA.nmf
  have HNM : Hid (Calls Try.prog 69 #[.string (strOf x.nm)] W0 fun e w' => e = .returned (.bool (nmB x.nm)) ∧ w' = W0) := by
    have h1 := name_one (strOf x.nm) W0 hsz
    rw [strOf_data] at h1
    exact h1
  have hfb := hA.fitB
  have hfc := hA.fitC
  rw [hk] at hfb
  rw [hn] at hfc
  clear hA hk hsz
  by_cases h1 : nmB x.nm = true
  · have HNM2 : Hid (Calls Try.prog 69 #[.string (strOf x.nm)] W0 fun e w' => e = .returned (.bool true) ∧ w' = W0) := by have := HNM.out; rw [h1] at this; exact this
    by_cases h2 : n ≤ 4096
    · by_cases h3 : upB x.l = true
      · have HRI : Hid (Calls Try.prog 20 #[.slice x.a n x.c] W0 fun e w' => e = .returned (.bool true) ∧ After W0 w') := by
          have := rising47 (ca := x.c) HA.out.1.l32 HA.out.2.2 (by omega) HA.out.1.sl
          rw [h3] at this; exact this
        have HF : Hid (nmB x.nm = true ∧ n ≤ 4096 ∧ upB x.l = true) := ⟨h1, h2, h3⟩
        have h2' : ¬ (4096 : Int) < (n : Int) := by omega
        clear h1 h2 h3 hn
        by_cases h4 : LOk (bof x.X)
        · have HLO : Hid (∀ w1, After W0 w1 → Calls Try.prog 70 #[.slice x.ba k x.bc] w1 fun e w' => ∃ p, e = .returned (.tuple #[p, .int .i64 0]) ∧ After w1 w') := fun w1 hw1 => (load17 (n := k) HA.out.2.1 (by omega) HA.out.1.bnm (HA.out.1.bs.after hw1)).mono (fun e w' h => by
            rcases h with ⟨_, tb, mb, F, cs, rfl, hT, _⟩ | ⟨hk4, _, _⟩
            · exact ⟨_, rfl, hT.aft⟩
            · exact absurd h4 hk4)
          have HL4 : Hid (LOk (bof x.X)) := h4
          clear h4
          go_enter Try.func42, Try.ntmps42
          go_wp2_with (first
            | (rw [hW0]; rw [hg0])
            | (go_at_call 69; refine Calls.mono HNM2.out ?_; rintro e w9 ⟨rfl, hw9⟩; rw [hw9]; clear hw9 w9)
            | (go_at_call 20; refine Calls.mono HRI.out ?_; rintro e w1 ⟨rfl, hw1⟩; have H1 : Hid (After W0 w1) := hw1; have d1 := (HR.out.1.below hw1 HR.out.1.lt).cell (j := 1) rfl; clear hw1)
            | (go_at_call 70; refine Calls.mono (HLO.out _ H1.out) ?_; rintro e w2 ⟨p4, rfl, hw2⟩; have H4 : Hid (After w1 w2) := hw2; clear hw2))
          refine bodyPost_ret (v := .bool true) (by simp [results, Try.results42, go_sem]) rfl ⟨true, rfl, ⟨fun _ => ⟨HF.out.1, by rw [show (rof x).2.2.length = n from HA.out.2.2]; exact HF.out.2.1, HF.out.2.2, HL4.out⟩, fun _ => rfl⟩, (HR.out.2.trans H1.out).trans H4.out⟩
        · have HLO : Hid (∀ w1, After W0 w1 → Calls Try.prog 70 #[.slice x.ba k x.bc] w1 fun e w' => ∃ p, e = .returned (.tuple #[p, .int .i64 4]) ∧ After w1 w') := fun w1 hw1 => (load17 (n := k) HA.out.2.1 (by omega) HA.out.1.bnm (HA.out.1.bs.after hw1)).mono (fun e w' h => by
            rcases h with ⟨hk4, _⟩ | ⟨hk4, rfl, hw2⟩
            · exact absurd hk4 h4
            · exact ⟨_, rfl, hw2⟩)
          have HL4 : Hid (¬ LOk (bof x.X)) := h4
          clear h4
          go_enter Try.func42, Try.ntmps42
          go_wp2_with (first
            | (rw [hW0]; rw [hg0])
            | (go_at_call 69; refine Calls.mono HNM2.out ?_; rintro e w9 ⟨rfl, hw9⟩; rw [hw9]; clear hw9 w9)
            | (go_at_call 20; refine Calls.mono HRI.out ?_; rintro e w1 ⟨rfl, hw1⟩; have H1 : Hid (After W0 w1) := hw1; have d1 := (HR.out.1.below hw1 HR.out.1.lt).cell (j := 1) rfl; clear hw1)
            | (go_at_call 70; refine Calls.mono (HLO.out _ H1.out) ?_; rintro e w2 ⟨p4, rfl, hw2⟩; have H4 : Hid (After w1 w2) := hw2; clear hw2))
          refine bodyPost_ret (v := .bool false) (by simp [results, Try.results42, go_sem]) rfl ⟨false, rfl, ⟨fun h => (by cases h), fun h => absurd h.brs HL4.out⟩, (HR.out.2.trans H1.out).trans H4.out⟩
      · have h3' : upB x.l = false := by simpa using h3
        have HRI : Hid (Calls Try.prog 20 #[.slice x.a n x.c] W0 fun e w' => e = .returned (.bool false) ∧ After W0 w') := by
          have := rising47 (ca := x.c) HA.out.1.l32 HA.out.2.2 (by omega) HA.out.1.sl
          rw [h3'] at this; exact this
        have HF : Hid (upB x.l = false) := h3'
        have h2' : ¬ (4096 : Int) < (n : Int) := by omega
        clear h1 h2 h3 h3' hn
        go_enter Try.func42, Try.ntmps42
        go_wp2_with (first
          | (rw [hW0]; rw [hg0])
          | (go_at_call 69; refine Calls.mono HNM2.out ?_; rintro e w9 ⟨rfl, hw9⟩; rw [hw9]; clear hw9 w9)
          | (go_at_call 20; refine Calls.mono HRI.out ?_; rintro e w1 ⟨rfl, hw1⟩; have H1 : Hid (After W0 w1) := hw1; clear hw1))
        refine bodyPost_ret (v := .bool false) (by simp [results, Try.results42, go_sem]) rfl ⟨false, rfl, ⟨fun h => (by cases h), fun h => (by have := h.up; rw [show upB (rof x).2.2 = upB x.l from rfl, HF.out] at this; cases this)⟩, HR.out.2.trans H1.out⟩
    · have h2' : (4096 : Int) < (n : Int) := by omega
      have HF : Hid (¬ n ≤ 4096) := h2
      clear h1 h2 hn
      go_enter Try.func42, Try.ntmps42
      go_wp2_with (first
        | (rw [hW0]; rw [hg0])
        | (go_at_call 69; refine Calls.mono HNM2.out ?_; rintro e w9 ⟨rfl, hw9⟩; rw [hw9]; clear hw9 w9))
      refine bodyPost_ret (v := .bool false) (by simp [results, Try.results42, go_sem]) rfl ⟨false, rfl, ⟨fun h => (by cases h), fun h => (by have := h.few; rw [show (rof x).2.2.length = n from HA.out.2.2] at this; exact absurd this HF.out)⟩, HR.out.2⟩
  · have h1' : nmB x.nm = false := by simpa using h1
    have HNM2 : Hid (Calls Try.prog 69 #[.string (strOf x.nm)] W0 fun e w' => e = .returned (.bool false) ∧ w' = W0) := by have := HNM.out; rw [h1'] at this; exact this
    have HF : Hid (nmB x.nm = false) := h1'
    clear h1 h1' hn
    go_enter Try.func42, Try.ntmps42
    go_wp2_with (first
      | (rw [hW0]; rw [hg0])
      | (go_at_call 69; refine Calls.mono HNM2.out ?_; rintro e w9 ⟨rfl, hw9⟩; rw [hw9]; clear hw9 w9))
    refine bodyPost_ret (v := .bool false) (by simp [results, Try.results42, go_sem]) rfl ⟨false, rfl, ⟨fun h => (by cases h), fun h => (by have := h.nam; rw [show nmB (rof x).1 = nmB x.nm from rfl, HF.out] at this; cases this)⟩, HR.out.2⟩
end Go.Proofs.Ytcmcapcagblafaa
