/-
  THE WALK OF stemmalaw05.DiskSafe.
-/
import Derived.Test.YtlbodickflljfaaBegins
import Derived.Deep.QuietTactic
import Derived.BigQuiet
namespace Go.Proofs.Ytlbodickflljfaa
open Go.RowKit Go.Maps Dsk
section
variable {w W : World} {L sb : Nat} {S : Dk} (h : Live w L sb S W)
include h
theorem z_remove (hst : S.steps < 4611686018427387904) : Calls Try.prog 22 #[.pointer (some ⟨sb, 0, none⟩), .string ⟨#[122, 122]⟩] W (LPost w sb (removeE S Z) (removeS S Z)) := live_remove h hst Z (by decide)
theorem z_create (hst : S.steps < 4611686018427387904) : Calls Try.prog 23 #[.pointer (some ⟨sb, 0, none⟩), .string ⟨#[122, 122]⟩] W (LPost w sb (createE S Z) (createS S Z)) := live_create h hst Z (by decide)
theorem z_sync (hst : S.steps < 4611686018427387904) : Calls Try.prog 27 #[.pointer (some ⟨sb, 0, none⟩), .string ⟨#[122, 122]⟩] W (LPost w sb (removeE S Z) (syncS S Z)) := live_sync h hst Z (by decide)
theorem z_append (hst : S.steps < 4611686018427387904) (pa : Option Addr) (pn pc : Nat) (p : List UInt8) (hp : p.length = pn) (hpa : BytesAt W pa p) (hpf : p ≠ [] → ∀ a, pa = some a → a.block < w.heap.size ∨ L ≤ a.block) :
    Calls Try.prog 24 #[.pointer (some ⟨sb, 0, none⟩), .string ⟨#[122, 122]⟩, .slice pa pn pc] W (LPost w sb (appendE S Z p) (appendS S Z p)) := live_append h hst Z (by decide) pa pn pc p hp hpa hpf
theorem z_read : Calls Try.prog 16 #[.pointer (some ⟨sb, 0, none⟩), .string ⟨#[122, 122]⟩] W (RPost W (findE S Z) (readB S Z)) := live_read h Z (by decide)
theorem z_list : Calls Try.prog 25 #[.pointer (some ⟨sb, 0, none⟩)] W fun e W' => ∃ na nc, e = .returned (.slice na S.files.length nc) ∧ After W W' :=
  (live_list h).mono (fun e W' ⟨v, h1, h2, h3⟩ => by
    obtain ⟨na, nc, e2, _, _⟩ := h2.at
    rw [List.length_map] at e2
    exact ⟨na, nc, by rw [h1, e2], h3⟩)
end
theorem at_lt {w : World} {pa : Option Addr} {p : List UInt8} (h : BytesAt w pa p) : p ≠ [] → ∀ a, pa = some a → a.block < w.heap.size := fun hne a ha => by
  obtain ⟨b, o, e1, hc⟩ := h hne
  rw [e1] at ha
  cases ha
  exact block_lt_of_cell (hc 0 (by cases p with | nil => exact absurd rfl hne | cons _ _ => simp))

set_option maxRecDepth 100000 in
set_option maxHeartbeats 6400000 in
theorem safe_a (ao : Option Addr) (c : Nat) (l : List Act5) (hn : l.length ≤ 140737488355328) (aa ba ka : Option Addr) (an ac bn bc kn kc : Nat) (a b k : List UInt8) (han : a.length = an) (hbn : b.length = bn) (hkn : k.length = kn) (hkc : kn ≤ kc) (hab : an ≤ 140737488355328) (hbb : bn ≤ 140737488355328) (w : World) (hat : ActsAt w ao l) (haa : BytesAt w aa a) (hba : BytesAt w ba b) (hka : BytesAt w ka k)
    (hyp : 64 ≤ (removeS (startS (playS (newS 1048576) l) []) Z).files.length) :
    Calls Try.prog 6 #[.slice ao l.length c, .agg #[.slice aa an ac, .slice ba bn bc], .slice ka kn kc] w fun e w' => e = .returned (.bool true) ∧ Below w.heap.size w w' := by
  have HAT : Hid (ActsAt w ao l) := hat
  have HAA : Hid (BytesAt w aa a) := haa
  have HBA : Hid (BytesAt w ba b) := hba
  have HKA : Hid (BytesAt w ka k) := hka
  have HAN : Hid (a.length = an) := han
  have HBN : Hid (b.length = bn) := hbn
  have HKN : Hid (k.length = kn) := hkn
  have C21 := show Hid (∀ W, ActsAt W ao l → _) from fun W h => played_any 1048576 ao c l hn W h
  have hmost : (playS (newS 1048576) l).most = 1048576 := by rw [playS_most]; rfl
  obtain ⟨S, hS⟩ : ∃ S, playS (newS 1048576) l = S := ⟨_, rfl⟩
  rw [hS] at C21 hmost
  obtain ⟨T1, hT1⟩ : ∃ T1, removeS (startS S []) Z = T1 := ⟨_, rfl⟩
  have UP1 : Hid (Ok S → Up T1 ∧ fhas Z T1.files = false) := fun h => by rw [← hT1]; exact up_remove (up_start h hmost [])
  have ST1 : Hid (T1.steps ≤ S.steps + 1) := by have := remove_steps (startS S []) Z; rw [hT1] at this; exact this
  have HT1 : Hid (removeS (startS S []) Z = T1) := hT1
  rw [hS, hT1] at hyp
  have _u := hkc
  have _u := hab
  have _u := hbb
  clear _u
  obtain ⟨n, hln⟩ : ∃ n, l.length = n := ⟨_, rfl⟩
  rw [hln] at C21 hn ⊢
  clear hat haa hba hka han hbn hkn hln hS hmost hT1
  have tok19 : True := trivial
  have tok24 : True := trivial
  obtain ⟨N, hN⟩ : ∃ N, T1.files.length = N := ⟨_, rfl⟩
  have hN6 : (64 : Int) ≤ (N : Int) := by omega
  have HN : Hid (T1.files.length = N) := hN
  have F2 : Hid (Ok S → createE T1 Z = 21 ∧ createS T1 Z = T1) := fun h => (up_create (UP1.out h).1 (UP1.out h).2).1 hyp
  clear hyp hN
  go_enter Try.func6, Try.ntmps6
  go_wp2_with fail
  obtain ⟨w0, hw0⟩ : ∃ w0, w.alloc (.cells #[.slice aa an ac, .slice ba bn bc] 47) = w0 := ⟨_, rfl⟩
  rw [hw0]
  have A0 : Hid (After w w0) := by rw [← hw0]; exact after_alloc (After.refl w) _
  have CC : Hid (w0.cell? ⟨w.heap.size, 0, none⟩ = some (.slice aa an ac) ∧ w0.cell? ⟨w.heap.size, 1, none⟩ = some (.slice ba bn bc)) := by
    rw [← hw0]; exact ⟨(RowIs.new w 47 [.slice aa an ac, .slice ba bn bc]).cell rfl, (RowIs.new w 47 [.slice aa an ac, .slice ba bn bc]).cell rfl⟩
  have HLT : Hid (∀ {pa : Option Addr} {p : List UInt8}, BytesAt w pa p → ∀ L : Nat, p ≠ [] → ∀ a, pa = some a → a.block < w0.heap.size ∨ L ≤ a.block) := fun hp L hne a ha => by
    have := at_lt hp hne a ha; have := A0.out.size; exact Or.inl (by omega)
  clear hw0
  go_wp2_with (first
    | (go_at_call 21; refine Calls.mono (C21.out w0 (HAT.out.after A0.out)) ?_; rintro e w1 ⟨rfl, h1, hs1⟩; have OKS : Hid (Ok S) := h1.ok; have HST : Hid (S.steps ≤ n) := hs1; have H1 := show Hid (Live _ _ _ _ _) from h1; clear h1 hs1)
    | (go_at_call 19; have _t := tok19; refine (live_start H1.out none 0 0 [] rfl (Nat.le_refl _) (fun h => absurd rfl h) (fun h => absurd rfl h)).mono ?_; rintro e w2 ⟨rfl, h2⟩; have H2 := show Hid (Live _ _ _ _ _) from h2; clear h2 tok19)
    | (go_at_call 22; refine (z_remove H2.out (show S.steps < _ by have := HST.out; omega)).mono ?_; rw [HT1.out]; rintro e w3 ⟨rfl, h3⟩; have H3 := show Hid (Live _ _ _ _ _) from h3; have cc3 := cell_after h3.aft CC.out.1; have cd3 := cell_after h3.aft CC.out.2; clear h3)
    | (go_at_call 23; refine (z_create H3.out (by have := HST.out; have := ST1.out; omega)).mono ?_; rw [(F2.out OKS.out).1, (F2.out OKS.out).2]; rintro e w4 ⟨rfl, h4⟩; have H4 := show Hid (Live _ _ _ _ _) from h4; have cc4 := cell_after h4.aft CC.out.1; have cd4 := cell_after h4.aft CC.out.2; clear h4)
    | (go_at_call 25; refine (z_list H4.out).mono ?_; rw [HN.out]; rintro e w5 ⟨na, nc, rfl, h5⟩; have H5 := show Hid (Live _ _ _ _ _) from H4.out.after h5; clear h5)
    | (go_at_call 15; refine (awake_any _).mono ?_; rintro e w15 ⟨rfl, h15⟩; have A15 : Hid (After w w15) := After.trans (After.trans A0.out H5.out.aft) h15; clear h15))
  go_ret
  exact ⟨rfl, A15.out⟩
set_option maxRecDepth 100000 in
set_option maxHeartbeats 6400000 in
theorem safe_b (ao : Option Addr) (c : Nat) (l : List Act5) (hn : l.length ≤ 140737488355328) (aa ba ka : Option Addr) (an ac bn bc kn kc : Nat) (a b k : List UInt8) (han : a.length = an) (hbn : b.length = bn) (hkn : k.length = kn) (hkc : kn ≤ kc) (hab : an ≤ 140737488355328) (hbb : bn ≤ 140737488355328) (w : World) (hat : ActsAt w ao l) (haa : BytesAt w aa a) (hba : BytesAt w ba b) (hka : BytesAt w ka k)
    (hyp : ¬ 64 ≤ (removeS (startS (playS (newS 1048576) l) []) Z).files.length ∧ 1048576 - used (createS (removeS (startS (playS (newS 1048576) l) []) Z) Z).files < an) :
    Calls Try.prog 6 #[.slice ao l.length c, .agg #[.slice aa an ac, .slice ba bn bc], .slice ka kn kc] w fun e w' => e = .returned (.bool true) ∧ Below w.heap.size w w' := by
  have HAT : Hid (ActsAt w ao l) := hat
  have HAA : Hid (BytesAt w aa a) := haa
  have HBA : Hid (BytesAt w ba b) := hba
  have HKA : Hid (BytesAt w ka k) := hka
  have HAN : Hid (a.length = an) := han
  have HBN : Hid (b.length = bn) := hbn
  have HKN : Hid (k.length = kn) := hkn
  have C21 := show Hid (∀ W, ActsAt W ao l → _) from fun W h => played_any 1048576 ao c l hn W h
  have hmost : (playS (newS 1048576) l).most = 1048576 := by rw [playS_most]; rfl
  obtain ⟨S, hS⟩ : ∃ S, playS (newS 1048576) l = S := ⟨_, rfl⟩
  rw [hS] at C21 hmost
  obtain ⟨T1, hT1⟩ : ∃ T1, removeS (startS S []) Z = T1 := ⟨_, rfl⟩
  have UP1 : Hid (Ok S → Up T1 ∧ fhas Z T1.files = false) := fun h => by rw [← hT1]; exact up_remove (up_start h hmost [])
  have ST1 : Hid (T1.steps ≤ S.steps + 1) := by have := remove_steps (startS S []) Z; rw [hT1] at this; exact this
  have HT1 : Hid (removeS (startS S []) Z = T1) := hT1
  rw [hS, hT1] at hyp
  have _u := hkc
  have _u := hab
  have _u := hbb
  clear _u
  obtain ⟨n, hln⟩ : ∃ n, l.length = n := ⟨_, rfl⟩
  rw [hln] at C21 hn ⊢
  clear hat haa hba hka han hbn hkn hln hS hmost hT1
  have tok19 : True := trivial
  have tok24 : True := trivial
  have hyp6 := hyp.1
  obtain ⟨T2, hT2⟩ : ∃ T2, createS T1 Z = T2 := ⟨_, rfl⟩
  have F2 : Hid (Ok S → createE T1 Z = 0 ∧ createS T1 Z = T2) := fun h => ⟨((up_create (UP1.out h).1 (UP1.out h).2).2 hyp6).1, hT2⟩
  have UP2 : Hid (Ok S → Up T2 ∧ fget Z T2.files = some ⟨[], 0⟩) := fun h => by rw [← hT2]; exact ((up_create (UP1.out h).1 (UP1.out h).2).2 hyp6).2
  have ST2 : Hid (T2.steps ≤ S.steps + 2) := by have := create_steps T1 Z; have h1 := ST1.out; rw [hT2] at this; exact Nat.le_trans this (by omega)
  rw [hT2] at hyp
  obtain ⟨u2, hu2⟩ : ∃ u2, used T2.files = u2 := ⟨_, rfl⟩
  rw [hu2] at hyp
  have HU2 : Hid (used T2.files = u2) := hu2
  have F3 : Hid (Ok S → appendE T2 Z a = 21 ∧ appendS T2 Z a = T2) := fun h => (up_append (UP2.out h).1 (UP2.out h).2 a).1 (by rw [HAN.out, HU2.out]; exact hyp.2)
  obtain ⟨N, hN⟩ : ∃ N, T2.files.length = N := ⟨_, rfl⟩
  have HN : Hid (T2.files.length = N) := hN
  have hb := hyp.2
  clear hyp hN hyp6 hT2 hu2
  by_cases h64 : 64 ≤ N
  · have hN6 : (64 : Int) ≤ (N : Int) := by omega
    clear hb h64
    go_enter Try.func6, Try.ntmps6
    go_wp2_with fail
    obtain ⟨w0, hw0⟩ : ∃ w0, w.alloc (.cells #[.slice aa an ac, .slice ba bn bc] 47) = w0 := ⟨_, rfl⟩
    rw [hw0]
    have A0 : Hid (After w w0) := by rw [← hw0]; exact after_alloc (After.refl w) _
    have CC : Hid (w0.cell? ⟨w.heap.size, 0, none⟩ = some (.slice aa an ac) ∧ w0.cell? ⟨w.heap.size, 1, none⟩ = some (.slice ba bn bc)) := by
      rw [← hw0]; exact ⟨(RowIs.new w 47 [.slice aa an ac, .slice ba bn bc]).cell rfl, (RowIs.new w 47 [.slice aa an ac, .slice ba bn bc]).cell rfl⟩
    have HLT : Hid (∀ {pa : Option Addr} {p : List UInt8}, BytesAt w pa p → ∀ L : Nat, p ≠ [] → ∀ a, pa = some a → a.block < w0.heap.size ∨ L ≤ a.block) := fun hp L hne a ha => by
      have := at_lt hp hne a ha; have := A0.out.size; exact Or.inl (by omega)
    clear hw0
    go_wp2_with (first
      | (go_at_call 21; refine Calls.mono (C21.out w0 (HAT.out.after A0.out)) ?_; rintro e w1 ⟨rfl, h1, hs1⟩; have OKS : Hid (Ok S) := h1.ok; have HST : Hid (S.steps ≤ n) := hs1; have H1 := show Hid (Live _ _ _ _ _) from h1; clear h1 hs1)
      | (go_at_call 19; have _t := tok19; refine (live_start H1.out none 0 0 [] rfl (Nat.le_refl _) (fun h => absurd rfl h) (fun h => absurd rfl h)).mono ?_; rintro e w2 ⟨rfl, h2⟩; have H2 := show Hid (Live _ _ _ _ _) from h2; clear h2 tok19)
      | (go_at_call 22; refine (z_remove H2.out (show S.steps < _ by have := HST.out; omega)).mono ?_; rw [HT1.out]; rintro e w3 ⟨rfl, h3⟩; have H3 := show Hid (Live _ _ _ _ _) from h3; have cc3 := cell_after h3.aft CC.out.1; have cd3 := cell_after h3.aft CC.out.2; clear h3)
      | (go_at_call 23; refine (z_create H3.out (by have := HST.out; have := ST1.out; omega)).mono ?_; rw [(F2.out OKS.out).1, (F2.out OKS.out).2]; rintro e w4 ⟨rfl, h4⟩; have H4 := show Hid (Live _ _ _ _ _) from h4; have cc4 := cell_after h4.aft CC.out.1; have cd4 := cell_after h4.aft CC.out.2; clear h4)
      | (go_at_call 24; have _t := tok24; refine (z_append H4.out (by have := HST.out; have := ST2.out; omega) aa an ac a HAN.out (HAA.out.after (After.trans A0.out H4.out.aft)) (HLT.out HAA.out _)).mono ?_; rw [(F3.out OKS.out).1, (F3.out OKS.out).2]; rintro e w5 ⟨rfl, h5⟩; have H5 := show Hid (Live _ _ _ _ _) from h5; have cc5 := cell_after h5.aft CC.out.1; have cd5 := cell_after h5.aft CC.out.2; clear h5 tok24)
      | (go_at_call 25; refine (z_list H5.out).mono ?_; rw [HN.out]; rintro e w6 ⟨na, nc, rfl, h6⟩; have H6 := show Hid (Live _ _ _ _ _) from H5.out.after h6; have cc6 := cell_after H6.out.aft CC.out.1; clear h6)
      | (go_at_call 15; refine (awake_any _).mono ?_; rintro e w15 ⟨rfl, h15⟩; have A15 : Hid (After w w15) := After.trans (After.trans A0.out H6.out.aft) h15; clear h15))
    go_ret
    exact ⟨rfl, A15.out⟩
  · have hN6 : decide ((64 : Int) ≤ (N : Int)) = false := decide_eq_false (by omega)
    have hN7 : ¬ (64 : Int) ≤ (N : Int) := by omega
    by_cases ha : 1024 < an
    · have ha6 : (1024 : Int) < (an : Int) := by omega
      clear hb h64 ha
      go_enter Try.func6, Try.ntmps6
      go_wp2_with fail
      obtain ⟨w0, hw0⟩ : ∃ w0, w.alloc (.cells #[.slice aa an ac, .slice ba bn bc] 47) = w0 := ⟨_, rfl⟩
      rw [hw0]
      have A0 : Hid (After w w0) := by rw [← hw0]; exact after_alloc (After.refl w) _
      have CC : Hid (w0.cell? ⟨w.heap.size, 0, none⟩ = some (.slice aa an ac) ∧ w0.cell? ⟨w.heap.size, 1, none⟩ = some (.slice ba bn bc)) := by
        rw [← hw0]; exact ⟨(RowIs.new w 47 [.slice aa an ac, .slice ba bn bc]).cell rfl, (RowIs.new w 47 [.slice aa an ac, .slice ba bn bc]).cell rfl⟩
      have HLT : Hid (∀ {pa : Option Addr} {p : List UInt8}, BytesAt w pa p → ∀ L : Nat, p ≠ [] → ∀ a, pa = some a → a.block < w0.heap.size ∨ L ≤ a.block) := fun hp L hne a ha => by
        have := at_lt hp hne a ha; have := A0.out.size; exact Or.inl (by omega)
      clear hw0
      go_wp2_with (first
        | (go_at_call 21; refine Calls.mono (C21.out w0 (HAT.out.after A0.out)) ?_; rintro e w1 ⟨rfl, h1, hs1⟩; have OKS : Hid (Ok S) := h1.ok; have HST : Hid (S.steps ≤ n) := hs1; have H1 := show Hid (Live _ _ _ _ _) from h1; clear h1 hs1)
        | (go_at_call 19; have _t := tok19; refine (live_start H1.out none 0 0 [] rfl (Nat.le_refl _) (fun h => absurd rfl h) (fun h => absurd rfl h)).mono ?_; rintro e w2 ⟨rfl, h2⟩; have H2 := show Hid (Live _ _ _ _ _) from h2; clear h2 tok19)
        | (go_at_call 22; refine (z_remove H2.out (show S.steps < _ by have := HST.out; omega)).mono ?_; rw [HT1.out]; rintro e w3 ⟨rfl, h3⟩; have H3 := show Hid (Live _ _ _ _ _) from h3; have cc3 := cell_after h3.aft CC.out.1; have cd3 := cell_after h3.aft CC.out.2; clear h3)
        | (go_at_call 23; refine (z_create H3.out (by have := HST.out; have := ST1.out; omega)).mono ?_; rw [(F2.out OKS.out).1, (F2.out OKS.out).2]; rintro e w4 ⟨rfl, h4⟩; have H4 := show Hid (Live _ _ _ _ _) from h4; have cc4 := cell_after h4.aft CC.out.1; have cd4 := cell_after h4.aft CC.out.2; clear h4)
        | (go_at_call 24; have _t := tok24; refine (z_append H4.out (by have := HST.out; have := ST2.out; omega) aa an ac a HAN.out (HAA.out.after (After.trans A0.out H4.out.aft)) (HLT.out HAA.out _)).mono ?_; rw [(F3.out OKS.out).1, (F3.out OKS.out).2]; rintro e w5 ⟨rfl, h5⟩; have H5 := show Hid (Live _ _ _ _ _) from h5; have cc5 := cell_after h5.aft CC.out.1; have cd5 := cell_after h5.aft CC.out.2; clear h5 tok24)
        | (go_at_call 25; refine (z_list H5.out).mono ?_; rw [HN.out]; rintro e w6 ⟨na, nc, rfl, h6⟩; have H6 := show Hid (Live _ _ _ _ _) from H5.out.after h6; have cc6 := cell_after H6.out.aft CC.out.1; clear h6)
        | (go_at_call 15; refine (awake_any _).mono ?_; rintro e w15 ⟨rfl, h15⟩; have A15 : Hid (After w w15) := After.trans (After.trans A0.out H6.out.aft) h15; clear h15))
      go_ret
      exact ⟨rfl, A15.out⟩
    · have ha6 : ¬ (1024 : Int) < (an : Int) := by omega
      have hu6 : (524288 : Int) < (u2 : Int) := by omega
      clear hb h64 ha
      go_enter Try.func6, Try.ntmps6
      go_wp2_with fail
      obtain ⟨w0, hw0⟩ : ∃ w0, w.alloc (.cells #[.slice aa an ac, .slice ba bn bc] 47) = w0 := ⟨_, rfl⟩
      rw [hw0]
      have A0 : Hid (After w w0) := by rw [← hw0]; exact after_alloc (After.refl w) _
      have CC : Hid (w0.cell? ⟨w.heap.size, 0, none⟩ = some (.slice aa an ac) ∧ w0.cell? ⟨w.heap.size, 1, none⟩ = some (.slice ba bn bc)) := by
        rw [← hw0]; exact ⟨(RowIs.new w 47 [.slice aa an ac, .slice ba bn bc]).cell rfl, (RowIs.new w 47 [.slice aa an ac, .slice ba bn bc]).cell rfl⟩
      have HLT : Hid (∀ {pa : Option Addr} {p : List UInt8}, BytesAt w pa p → ∀ L : Nat, p ≠ [] → ∀ a, pa = some a → a.block < w0.heap.size ∨ L ≤ a.block) := fun hp L hne a ha => by
        have := at_lt hp hne a ha; have := A0.out.size; exact Or.inl (by omega)
      clear hw0
      go_wp2_with (first
        | (go_at_call 21; refine Calls.mono (C21.out w0 (HAT.out.after A0.out)) ?_; rintro e w1 ⟨rfl, h1, hs1⟩; have OKS : Hid (Ok S) := h1.ok; have HST : Hid (S.steps ≤ n) := hs1; have H1 := show Hid (Live _ _ _ _ _) from h1; clear h1 hs1)
        | (go_at_call 19; have _t := tok19; refine (live_start H1.out none 0 0 [] rfl (Nat.le_refl _) (fun h => absurd rfl h) (fun h => absurd rfl h)).mono ?_; rintro e w2 ⟨rfl, h2⟩; have H2 := show Hid (Live _ _ _ _ _) from h2; clear h2 tok19)
        | (go_at_call 22; refine (z_remove H2.out (show S.steps < _ by have := HST.out; omega)).mono ?_; rw [HT1.out]; rintro e w3 ⟨rfl, h3⟩; have H3 := show Hid (Live _ _ _ _ _) from h3; have cc3 := cell_after h3.aft CC.out.1; have cd3 := cell_after h3.aft CC.out.2; clear h3)
        | (go_at_call 23; refine (z_create H3.out (by have := HST.out; have := ST1.out; omega)).mono ?_; rw [(F2.out OKS.out).1, (F2.out OKS.out).2]; rintro e w4 ⟨rfl, h4⟩; have H4 := show Hid (Live _ _ _ _ _) from h4; have cc4 := cell_after h4.aft CC.out.1; have cd4 := cell_after h4.aft CC.out.2; clear h4)
        | (go_at_call 24; have _t := tok24; refine (z_append H4.out (by have := HST.out; have := ST2.out; omega) aa an ac a HAN.out (HAA.out.after (After.trans A0.out H4.out.aft)) (HLT.out HAA.out _)).mono ?_; rw [(F3.out OKS.out).1, (F3.out OKS.out).2]; rintro e w5 ⟨rfl, h5⟩; have H5 := show Hid (Live _ _ _ _ _) from h5; have cc5 := cell_after h5.aft CC.out.1; have cd5 := cell_after h5.aft CC.out.2; clear h5 tok24)
        | (go_at_call 25; refine (z_list H5.out).mono ?_; rw [HN.out]; rintro e w6 ⟨na, nc, rfl, h6⟩; have H6 := show Hid (Live _ _ _ _ _) from H5.out.after h6; have cc6 := cell_after H6.out.aft CC.out.1; clear h6)
        | (go_at_call 26; refine (live_used H6.out).mono ?_; rw [HU2.out]; rintro e w7 ⟨rfl, h7⟩; have H7 := show Hid (Live _ _ _ _ _) from H6.out.after h7; clear h7)
        | (go_at_call 15; refine (awake_any _).mono ?_; rintro e w15 ⟨rfl, h15⟩; have A15 : Hid (After w w15) := After.trans (After.trans A0.out H7.out.aft) h15; clear h15))
      go_ret
      exact ⟨rfl, A15.out⟩
set_option maxRecDepth 100000 in
set_option maxHeartbeats 6400000 in
theorem safe_c (ao : Option Addr) (c : Nat) (l : List Act5) (hn : l.length ≤ 140737488355328) (aa ba ka : Option Addr) (an ac bn bc kn kc : Nat) (a b k : List UInt8) (han : a.length = an) (hbn : b.length = bn) (hkn : k.length = kn) (hkc : kn ≤ kc) (hab : an ≤ 140737488355328) (hbb : bn ≤ 140737488355328) (w : World) (hat : ActsAt w ao l) (haa : BytesAt w aa a) (hba : BytesAt w ba b) (hka : BytesAt w ka k)
    (hyp : ¬ 64 ≤ (removeS (startS (playS (newS 1048576) l) []) Z).files.length ∧ ¬ 1048576 - used (createS (removeS (startS (playS (newS 1048576) l) []) Z) Z).files < an ∧ 1048576 - used (syncS (appendS (createS (removeS (startS (playS (newS 1048576) l) []) Z) Z) Z a) Z).files < bn) :
    Calls Try.prog 6 #[.slice ao l.length c, .agg #[.slice aa an ac, .slice ba bn bc], .slice ka kn kc] w fun e w' => e = .returned (.bool true) ∧ Below w.heap.size w w' := by
  have HAT : Hid (ActsAt w ao l) := hat
  have HAA : Hid (BytesAt w aa a) := haa
  have HBA : Hid (BytesAt w ba b) := hba
  have HKA : Hid (BytesAt w ka k) := hka
  have HAN : Hid (a.length = an) := han
  have HBN : Hid (b.length = bn) := hbn
  have HKN : Hid (k.length = kn) := hkn
  have C21 := show Hid (∀ W, ActsAt W ao l → _) from fun W h => played_any 1048576 ao c l hn W h
  have hmost : (playS (newS 1048576) l).most = 1048576 := by rw [playS_most]; rfl
  obtain ⟨S, hS⟩ : ∃ S, playS (newS 1048576) l = S := ⟨_, rfl⟩
  rw [hS] at C21 hmost
  obtain ⟨T1, hT1⟩ : ∃ T1, removeS (startS S []) Z = T1 := ⟨_, rfl⟩
  have UP1 : Hid (Ok S → Up T1 ∧ fhas Z T1.files = false) := fun h => by rw [← hT1]; exact up_remove (up_start h hmost [])
  have ST1 : Hid (T1.steps ≤ S.steps + 1) := by have := remove_steps (startS S []) Z; rw [hT1] at this; exact this
  have HT1 : Hid (removeS (startS S []) Z = T1) := hT1
  rw [hS, hT1] at hyp
  have _u := hkc
  have _u := hab
  have _u := hbb
  clear _u
  obtain ⟨n, hln⟩ : ∃ n, l.length = n := ⟨_, rfl⟩
  rw [hln] at C21 hn ⊢
  clear hat haa hba hka han hbn hkn hln hS hmost hT1
  have tok19 : True := trivial
  have tok24 : True := trivial
  have hyp6 := hyp.1
  obtain ⟨T2, hT2⟩ : ∃ T2, createS T1 Z = T2 := ⟨_, rfl⟩
  have F2 : Hid (Ok S → createE T1 Z = 0 ∧ createS T1 Z = T2) := fun h => ⟨((up_create (UP1.out h).1 (UP1.out h).2).2 hyp6).1, hT2⟩
  have UP2 : Hid (Ok S → Up T2 ∧ fget Z T2.files = some ⟨[], 0⟩) := fun h => by rw [← hT2]; exact ((up_create (UP1.out h).1 (UP1.out h).2).2 hyp6).2
  have ST2 : Hid (T2.steps ≤ S.steps + 2) := by have := create_steps T1 Z; have h1 := ST1.out; rw [hT2] at this; exact Nat.le_trans this (by omega)
  rw [hT2] at hyp
  obtain ⟨u2, hu2⟩ : ∃ u2, used T2.files = u2 := ⟨_, rfl⟩
  rw [hu2] at hyp
  have HU2 : Hid (used T2.files = u2) := hu2
  obtain ⟨T3, hT3⟩ : ∃ T3, appendS T2 Z a = T3 := ⟨_, rfl⟩
  have hyp2 := hyp.2.1
  have F3 : Hid (Ok S → appendE T2 Z a = 0 ∧ appendS T2 Z a = T3) := fun h => ⟨((up_append (UP2.out h).1 (UP2.out h).2 a).2 (by rw [HAN.out, HU2.out]; exact hyp2)).1, hT3⟩
  have UP3 : Hid (Ok S → Up T3 ∧ fget Z T3.files = some ⟨a, 0⟩) := fun h => by rw [← hT3]; exact ((up_append (UP2.out h).1 (UP2.out h).2 a).2 (by rw [HAN.out, HU2.out]; exact hyp2)).2
  have ST3 : Hid (T3.steps ≤ S.steps + 3) := by have := append_steps T2 Z a; have h1 := ST2.out; rw [hT3] at this; exact Nat.le_trans this (by omega)
  obtain ⟨T4, hT4⟩ : ∃ T4, syncS T3 Z = T4 := ⟨_, rfl⟩
  have F4 : Hid (Ok S → removeE T3 Z = 0 ∧ syncS T3 Z = T4) := fun h => ⟨(up_sync (UP3.out h).1 (UP3.out h).2).1, hT4⟩
  have UP4 : Hid (Ok S → Up T4 ∧ fget Z T4.files = some ⟨a, a.length⟩) := fun h => by rw [← hT4]; exact (up_sync (UP3.out h).1 (UP3.out h).2).2
  have ST4 : Hid (T4.steps ≤ S.steps + 4) := by have := sync_steps T3 Z; have h1 := ST3.out; rw [hT4] at this; exact Nat.le_trans this (by omega)
  rw [hT3, hT4] at hyp
  obtain ⟨u4, hu4⟩ : ∃ u4, used T4.files = u4 := ⟨_, rfl⟩
  rw [hu4] at hyp
  have HU4 : Hid (used T4.files = u4) := hu4
  have hb := hyp.2.2
  have F5 : Hid (Ok S → appendE T4 Z b = 21 ∧ appendS T4 Z b = T4) := fun h => (up_append (UP4.out h).1 (UP4.out h).2 b).1 (by rw [HBN.out, HU4.out]; exact hb)
  clear hyp hyp6 hyp2 hT2 hT3 hT4 hu2 hu4
  by_cases ha : 1024 < bn
  · have ha6 : (1024 : Int) < (bn : Int) := by omega
    clear hb ha
    go_enter Try.func6, Try.ntmps6
    go_wp2_with fail
    obtain ⟨w0, hw0⟩ : ∃ w0, w.alloc (.cells #[.slice aa an ac, .slice ba bn bc] 47) = w0 := ⟨_, rfl⟩
    rw [hw0]
    have A0 : Hid (After w w0) := by rw [← hw0]; exact after_alloc (After.refl w) _
    have CC : Hid (w0.cell? ⟨w.heap.size, 0, none⟩ = some (.slice aa an ac) ∧ w0.cell? ⟨w.heap.size, 1, none⟩ = some (.slice ba bn bc)) := by
      rw [← hw0]; exact ⟨(RowIs.new w 47 [.slice aa an ac, .slice ba bn bc]).cell rfl, (RowIs.new w 47 [.slice aa an ac, .slice ba bn bc]).cell rfl⟩
    have HLT : Hid (∀ {pa : Option Addr} {p : List UInt8}, BytesAt w pa p → ∀ L : Nat, p ≠ [] → ∀ a, pa = some a → a.block < w0.heap.size ∨ L ≤ a.block) := fun hp L hne a ha => by
      have := at_lt hp hne a ha; have := A0.out.size; exact Or.inl (by omega)
    clear hw0
    go_wp2_with (first
      | (go_at_call 21; refine Calls.mono (C21.out w0 (HAT.out.after A0.out)) ?_; rintro e w1 ⟨rfl, h1, hs1⟩; have OKS : Hid (Ok S) := h1.ok; have HST : Hid (S.steps ≤ n) := hs1; have H1 := show Hid (Live _ _ _ _ _) from h1; clear h1 hs1)
      | (go_at_call 19; have _t := tok19; refine (live_start H1.out none 0 0 [] rfl (Nat.le_refl _) (fun h => absurd rfl h) (fun h => absurd rfl h)).mono ?_; rintro e w2 ⟨rfl, h2⟩; have H2 := show Hid (Live _ _ _ _ _) from h2; clear h2 tok19)
      | (go_at_call 22; refine (z_remove H2.out (show S.steps < _ by have := HST.out; omega)).mono ?_; rw [HT1.out]; rintro e w3 ⟨rfl, h3⟩; have H3 := show Hid (Live _ _ _ _ _) from h3; have cc3 := cell_after h3.aft CC.out.1; have cd3 := cell_after h3.aft CC.out.2; clear h3)
      | (go_at_call 23; refine (z_create H3.out (by have := HST.out; have := ST1.out; omega)).mono ?_; rw [(F2.out OKS.out).1, (F2.out OKS.out).2]; rintro e w4 ⟨rfl, h4⟩; have H4 := show Hid (Live _ _ _ _ _) from h4; have cc4 := cell_after h4.aft CC.out.1; have cd4 := cell_after h4.aft CC.out.2; clear h4)
      | (go_at_call 24; have _t := tok24; refine (z_append H4.out (by have := HST.out; have := ST2.out; omega) aa an ac a HAN.out (HAA.out.after (After.trans A0.out H4.out.aft)) (HLT.out HAA.out _)).mono ?_; rw [(F3.out OKS.out).1, (F3.out OKS.out).2]; rintro e w5 ⟨rfl, h5⟩; have H5 := show Hid (Live _ _ _ _ _) from h5; have cc5 := cell_after h5.aft CC.out.1; have cd5 := cell_after h5.aft CC.out.2; clear h5 tok24)
      | (go_at_call 27; refine (z_sync H5.out (by have := HST.out; have := ST3.out; omega)).mono ?_; rw [(F4.out OKS.out).1, (F4.out OKS.out).2]; rintro e w6 ⟨rfl, h6⟩; have H6 := show Hid (Live _ _ _ _ _) from h6; have cc6 := cell_after h6.aft CC.out.1; have cd6 := cell_after h6.aft CC.out.2; clear h6)
      | (go_at_call 24; refine (z_append H6.out (by have := HST.out; have := ST4.out; omega) ba bn bc b HBN.out (HBA.out.after (After.trans A0.out H6.out.aft)) (HLT.out HBA.out _)).mono ?_; rw [(F5.out OKS.out).1, (F5.out OKS.out).2]; rintro e w7 ⟨rfl, h7⟩; have H7 := show Hid (Live _ _ _ _ _) from h7; have cc7 := cell_after h7.aft CC.out.1; have cd7 := cell_after h7.aft CC.out.2; clear h7)
      | (go_at_call 15; refine (awake_any _).mono ?_; rintro e w15 ⟨rfl, h15⟩; have A15 : Hid (After w w15) := After.trans (After.trans A0.out H7.out.aft) h15; clear h15))
    go_ret
    exact ⟨rfl, A15.out⟩
  · have ha6 : ¬ (1024 : Int) < (bn : Int) := by omega
    have hu6 : (524288 : Int) < (u4 : Int) := by omega
    clear hb ha
    go_enter Try.func6, Try.ntmps6
    go_wp2_with fail
    obtain ⟨w0, hw0⟩ : ∃ w0, w.alloc (.cells #[.slice aa an ac, .slice ba bn bc] 47) = w0 := ⟨_, rfl⟩
    rw [hw0]
    have A0 : Hid (After w w0) := by rw [← hw0]; exact after_alloc (After.refl w) _
    have CC : Hid (w0.cell? ⟨w.heap.size, 0, none⟩ = some (.slice aa an ac) ∧ w0.cell? ⟨w.heap.size, 1, none⟩ = some (.slice ba bn bc)) := by
      rw [← hw0]; exact ⟨(RowIs.new w 47 [.slice aa an ac, .slice ba bn bc]).cell rfl, (RowIs.new w 47 [.slice aa an ac, .slice ba bn bc]).cell rfl⟩
    have HLT : Hid (∀ {pa : Option Addr} {p : List UInt8}, BytesAt w pa p → ∀ L : Nat, p ≠ [] → ∀ a, pa = some a → a.block < w0.heap.size ∨ L ≤ a.block) := fun hp L hne a ha => by
      have := at_lt hp hne a ha; have := A0.out.size; exact Or.inl (by omega)
    clear hw0
    go_wp2_with (first
      | (go_at_call 21; refine Calls.mono (C21.out w0 (HAT.out.after A0.out)) ?_; rintro e w1 ⟨rfl, h1, hs1⟩; have OKS : Hid (Ok S) := h1.ok; have HST : Hid (S.steps ≤ n) := hs1; have H1 := show Hid (Live _ _ _ _ _) from h1; clear h1 hs1)
      | (go_at_call 19; have _t := tok19; refine (live_start H1.out none 0 0 [] rfl (Nat.le_refl _) (fun h => absurd rfl h) (fun h => absurd rfl h)).mono ?_; rintro e w2 ⟨rfl, h2⟩; have H2 := show Hid (Live _ _ _ _ _) from h2; clear h2 tok19)
      | (go_at_call 22; refine (z_remove H2.out (show S.steps < _ by have := HST.out; omega)).mono ?_; rw [HT1.out]; rintro e w3 ⟨rfl, h3⟩; have H3 := show Hid (Live _ _ _ _ _) from h3; have cc3 := cell_after h3.aft CC.out.1; have cd3 := cell_after h3.aft CC.out.2; clear h3)
      | (go_at_call 23; refine (z_create H3.out (by have := HST.out; have := ST1.out; omega)).mono ?_; rw [(F2.out OKS.out).1, (F2.out OKS.out).2]; rintro e w4 ⟨rfl, h4⟩; have H4 := show Hid (Live _ _ _ _ _) from h4; have cc4 := cell_after h4.aft CC.out.1; have cd4 := cell_after h4.aft CC.out.2; clear h4)
      | (go_at_call 24; have _t := tok24; refine (z_append H4.out (by have := HST.out; have := ST2.out; omega) aa an ac a HAN.out (HAA.out.after (After.trans A0.out H4.out.aft)) (HLT.out HAA.out _)).mono ?_; rw [(F3.out OKS.out).1, (F3.out OKS.out).2]; rintro e w5 ⟨rfl, h5⟩; have H5 := show Hid (Live _ _ _ _ _) from h5; have cc5 := cell_after h5.aft CC.out.1; have cd5 := cell_after h5.aft CC.out.2; clear h5 tok24)
      | (go_at_call 27; refine (z_sync H5.out (by have := HST.out; have := ST3.out; omega)).mono ?_; rw [(F4.out OKS.out).1, (F4.out OKS.out).2]; rintro e w6 ⟨rfl, h6⟩; have H6 := show Hid (Live _ _ _ _ _) from h6; have cc6 := cell_after h6.aft CC.out.1; have cd6 := cell_after h6.aft CC.out.2; clear h6)
      | (go_at_call 24; refine (z_append H6.out (by have := HST.out; have := ST4.out; omega) ba bn bc b HBN.out (HBA.out.after (After.trans A0.out H6.out.aft)) (HLT.out HBA.out _)).mono ?_; rw [(F5.out OKS.out).1, (F5.out OKS.out).2]; rintro e w7 ⟨rfl, h7⟩; have H7 := show Hid (Live _ _ _ _ _) from h7; have cc7 := cell_after h7.aft CC.out.1; have cd7 := cell_after h7.aft CC.out.2; clear h7)
      | (go_at_call 26; refine (live_used H7.out).mono ?_; rw [HU4.out]; rintro e w8 ⟨rfl, h8⟩; have H8 := show Hid (Live _ _ _ _ _) from H7.out.after h8; clear h8)
      | (go_at_call 15; refine (awake_any _).mono ?_; rintro e w15 ⟨rfl, h15⟩; have A15 : Hid (After w w15) := After.trans (After.trans A0.out H8.out.aft) h15; clear h15))
    go_ret
    exact ⟨rfl, A15.out⟩
set_option maxRecDepth 100000 in
set_option maxHeartbeats 6400000 in
theorem safe_d (ao : Option Addr) (c : Nat) (l : List Act5) (hn : l.length ≤ 140737488355328) (aa ba ka : Option Addr) (an ac bn bc kn kc : Nat) (a b k : List UInt8) (han : a.length = an) (hbn : b.length = bn) (hkn : k.length = kn) (hkc : kn ≤ kc) (hab : an ≤ 140737488355328) (hbb : bn ≤ 140737488355328) (w : World) (hat : ActsAt w ao l) (haa : BytesAt w aa a) (hba : BytesAt w ba b) (hka : BytesAt w ka k)
    (hyp : ¬ 64 ≤ (removeS (startS (playS (newS 1048576) l) []) Z).files.length ∧ ¬ 1048576 - used (createS (removeS (startS (playS (newS 1048576) l) []) Z) Z).files < an ∧ ¬ 1048576 - used (syncS (appendS (createS (removeS (startS (playS (newS 1048576) l) []) Z) Z) Z a) Z).files < bn) :
    Calls Try.prog 6 #[.slice ao l.length c, .agg #[.slice aa an ac, .slice ba bn bc], .slice ka kn kc] w fun e w' => e = .returned (.bool true) ∧ Below w.heap.size w w' := by
  have HAT : Hid (ActsAt w ao l) := hat
  have HAA : Hid (BytesAt w aa a) := haa
  have HBA : Hid (BytesAt w ba b) := hba
  have HKA : Hid (BytesAt w ka k) := hka
  have HAN : Hid (a.length = an) := han
  have HBN : Hid (b.length = bn) := hbn
  have HKN : Hid (k.length = kn) := hkn
  have C21 := show Hid (∀ W, ActsAt W ao l → _) from fun W h => played_any 1048576 ao c l hn W h
  have hmost : (playS (newS 1048576) l).most = 1048576 := by rw [playS_most]; rfl
  obtain ⟨S, hS⟩ : ∃ S, playS (newS 1048576) l = S := ⟨_, rfl⟩
  rw [hS] at C21 hmost
  obtain ⟨T1, hT1⟩ : ∃ T1, removeS (startS S []) Z = T1 := ⟨_, rfl⟩
  have UP1 : Hid (Ok S → Up T1 ∧ fhas Z T1.files = false) := fun h => by rw [← hT1]; exact up_remove (up_start h hmost [])
  have ST1 : Hid (T1.steps ≤ S.steps + 1) := by have := remove_steps (startS S []) Z; rw [hT1] at this; exact this
  have HT1 : Hid (removeS (startS S []) Z = T1) := hT1
  rw [hS, hT1] at hyp
  have _u := hkc
  have _u := hab
  have _u := hbb
  clear _u
  obtain ⟨n, hln⟩ : ∃ n, l.length = n := ⟨_, rfl⟩
  rw [hln] at C21 hn ⊢
  clear hat haa hba hka han hbn hkn hln hS hmost hT1
  have tok19 : True := trivial
  have tok24 : True := trivial
  have hyp6 := hyp.1
  obtain ⟨T2, hT2⟩ : ∃ T2, createS T1 Z = T2 := ⟨_, rfl⟩
  have F2 : Hid (Ok S → createE T1 Z = 0 ∧ createS T1 Z = T2) := fun h => ⟨((up_create (UP1.out h).1 (UP1.out h).2).2 hyp6).1, hT2⟩
  have UP2 : Hid (Ok S → Up T2 ∧ fget Z T2.files = some ⟨[], 0⟩) := fun h => by rw [← hT2]; exact ((up_create (UP1.out h).1 (UP1.out h).2).2 hyp6).2
  have ST2 : Hid (T2.steps ≤ S.steps + 2) := by have := create_steps T1 Z; have h1 := ST1.out; rw [hT2] at this; exact Nat.le_trans this (by omega)
  rw [hT2] at hyp
  obtain ⟨u2, hu2⟩ : ∃ u2, used T2.files = u2 := ⟨_, rfl⟩
  rw [hu2] at hyp
  have HU2 : Hid (used T2.files = u2) := hu2
  obtain ⟨T3, hT3⟩ : ∃ T3, appendS T2 Z a = T3 := ⟨_, rfl⟩
  have hyp2 := hyp.2.1
  have F3 : Hid (Ok S → appendE T2 Z a = 0 ∧ appendS T2 Z a = T3) := fun h => ⟨((up_append (UP2.out h).1 (UP2.out h).2 a).2 (by rw [HAN.out, HU2.out]; exact hyp2)).1, hT3⟩
  have UP3 : Hid (Ok S → Up T3 ∧ fget Z T3.files = some ⟨a, 0⟩) := fun h => by rw [← hT3]; exact ((up_append (UP2.out h).1 (UP2.out h).2 a).2 (by rw [HAN.out, HU2.out]; exact hyp2)).2
  have ST3 : Hid (T3.steps ≤ S.steps + 3) := by have := append_steps T2 Z a; have h1 := ST2.out; rw [hT3] at this; exact Nat.le_trans this (by omega)
  obtain ⟨T4, hT4⟩ : ∃ T4, syncS T3 Z = T4 := ⟨_, rfl⟩
  have F4 : Hid (Ok S → removeE T3 Z = 0 ∧ syncS T3 Z = T4) := fun h => ⟨(up_sync (UP3.out h).1 (UP3.out h).2).1, hT4⟩
  have UP4 : Hid (Ok S → Up T4 ∧ fget Z T4.files = some ⟨a, a.length⟩) := fun h => by rw [← hT4]; exact (up_sync (UP3.out h).1 (UP3.out h).2).2
  have ST4 : Hid (T4.steps ≤ S.steps + 4) := by have := sync_steps T3 Z; have h1 := ST3.out; rw [hT4] at this; exact Nat.le_trans this (by omega)
  rw [hT3, hT4] at hyp
  obtain ⟨u4, hu4⟩ : ∃ u4, used T4.files = u4 := ⟨_, rfl⟩
  rw [hu4] at hyp
  have HU4 : Hid (used T4.files = u4) := hu4
  have hb := hyp.2.2
  obtain ⟨T5, hT5⟩ : ∃ T5, appendS T4 Z b = T5 := ⟨_, rfl⟩
  have F5 : Hid (Ok S → appendE T4 Z b = 0 ∧ appendS T4 Z b = T5) := fun h => ⟨((up_append (UP4.out h).1 (UP4.out h).2 b).2 (by rw [HBN.out, HU4.out]; exact hb)).1, hT5⟩
  have UP5 : Hid (Ok S → Up T5 ∧ fget Z T5.files = some ⟨a ++ b, a.length⟩) := fun h => by rw [← hT5]; exact ((up_append (UP4.out h).1 (UP4.out h).2 b).2 (by rw [HBN.out, HU4.out]; exact hb)).2
  obtain ⟨T6, hT6⟩ : ∃ T6, startS T5 k = T6 := ⟨_, rfl⟩
  have HT6 : Hid (startS T5 k = T6) := hT6
  obtain ⟨G, hG⟩ : ∃ G, readB T6 Z = G := ⟨_, rfl⟩
  have HG : Hid (readB T6 Z = G) := hG
  obtain ⟨gn, hgn⟩ : ∃ gn, G.length = gn := ⟨_, rfl⟩
  have HGN : Hid (G.length = gn) := hgn
  have RD : Hid (Ok S → findE T6 Z = 0 ∧ an ≤ gn ∧ gn ≤ an + bn ∧ G.take an = a ∧ ∀ j, an ≤ j → j < gn → G.getD j 0 = 0 ∨ G.getD j 0 = b.getD (j - an) 0) := fun h => by
    obtain ⟨h0, r, h1, h2, h3⟩ := up_read (UP5.out h).1 (UP5.out h).2 k
    rw [hT6] at h0 h1
    rw [hG] at h1
    have ha := HAN.out
    have hb2 := HBN.out
    have hl : gn = an + r.length := by rw [← hgn, h1, List.length_append, ha]
    refine ⟨h0, by omega, by omega, by rw [h1, ← ha]; simp, fun j hj1 hj2 => ?_⟩
    have := h3 (j - an) (by omega)
    rw [h1, List.getD_eq_getElem?_getD, List.getElem?_append_right (by omega), ha, ← List.getD_eq_getElem?_getD]
    exact this
  clear hyp hyp6 hyp2 hT2 hT3 hT4 hT5 hT6 hu2 hu4 hG hgn hb
  go_enter Try.func6, Try.ntmps6
  go_wp2_with fail
  obtain ⟨w0, hw0⟩ : ∃ w0, w.alloc (.cells #[.slice aa an ac, .slice ba bn bc] 47) = w0 := ⟨_, rfl⟩
  rw [hw0]
  have A0 : Hid (After w w0) := by rw [← hw0]; exact after_alloc (After.refl w) _
  have CC : Hid (w0.cell? ⟨w.heap.size, 0, none⟩ = some (.slice aa an ac) ∧ w0.cell? ⟨w.heap.size, 1, none⟩ = some (.slice ba bn bc)) := by
    rw [← hw0]; exact ⟨(RowIs.new w 47 [.slice aa an ac, .slice ba bn bc]).cell rfl, (RowIs.new w 47 [.slice aa an ac, .slice ba bn bc]).cell rfl⟩
  have HLT : Hid (∀ {pa : Option Addr} {p : List UInt8}, BytesAt w pa p → ∀ L : Nat, p ≠ [] → ∀ a, pa = some a → a.block < w0.heap.size ∨ L ≤ a.block) := fun hp L hne a ha => by
    have := at_lt hp hne a ha; have := A0.out.size; exact Or.inl (by omega)
  clear hw0
  go_wp2_with (first
    | (go_at_call 21; refine Calls.mono (C21.out w0 (HAT.out.after A0.out)) ?_; rintro e w1 ⟨rfl, h1, hs1⟩; have OKS : Hid (Ok S) := h1.ok; have HST : Hid (S.steps ≤ n) := hs1; have H1 := show Hid (Live _ _ _ _ _) from h1; clear h1 hs1)
    | (go_at_call 19; have _t := tok19; refine (live_start H1.out none 0 0 [] rfl (Nat.le_refl _) (fun h => absurd rfl h) (fun h => absurd rfl h)).mono ?_; rintro e w2 ⟨rfl, h2⟩; have H2 := show Hid (Live _ _ _ _ _) from h2; clear h2 tok19)
    | (go_at_call 22; refine (z_remove H2.out (show S.steps < _ by have := HST.out; omega)).mono ?_; rw [HT1.out]; rintro e w3 ⟨rfl, h3⟩; have H3 := show Hid (Live _ _ _ _ _) from h3; have cc3 := cell_after h3.aft CC.out.1; have cd3 := cell_after h3.aft CC.out.2; clear h3)
    | (go_at_call 23; refine (z_create H3.out (by have := HST.out; have := ST1.out; omega)).mono ?_; rw [(F2.out OKS.out).1, (F2.out OKS.out).2]; rintro e w4 ⟨rfl, h4⟩; have H4 := show Hid (Live _ _ _ _ _) from h4; have cc4 := cell_after h4.aft CC.out.1; have cd4 := cell_after h4.aft CC.out.2; clear h4)
    | (go_at_call 24; have _t := tok24; refine (z_append H4.out (by have := HST.out; have := ST2.out; omega) aa an ac a HAN.out (HAA.out.after (After.trans A0.out H4.out.aft)) (HLT.out HAA.out _)).mono ?_; rw [(F3.out OKS.out).1, (F3.out OKS.out).2]; rintro e w5 ⟨rfl, h5⟩; have H5 := show Hid (Live _ _ _ _ _) from h5; have cc5 := cell_after h5.aft CC.out.1; have cd5 := cell_after h5.aft CC.out.2; clear h5 tok24)
    | (go_at_call 27; refine (z_sync H5.out (by have := HST.out; have := ST3.out; omega)).mono ?_; rw [(F4.out OKS.out).1, (F4.out OKS.out).2]; rintro e w6 ⟨rfl, h6⟩; have H6 := show Hid (Live _ _ _ _ _) from h6; have cc6 := cell_after h6.aft CC.out.1; have cd6 := cell_after h6.aft CC.out.2; clear h6)
    | (go_at_call 24; refine (z_append H6.out (by have := HST.out; have := ST4.out; omega) ba bn bc b HBN.out (HBA.out.after (After.trans A0.out H6.out.aft)) (HLT.out HBA.out _)).mono ?_; rw [(F5.out OKS.out).1, (F5.out OKS.out).2]; rintro e w7 ⟨rfl, h7⟩; have H7 := show Hid (Live _ _ _ _ _) from h7; have cc7 := cell_after h7.aft CC.out.1; have cd7 := cell_after h7.aft CC.out.2; clear h7)
    | (go_at_call 19; refine (live_start H7.out ka kn kc k HKN.out hkc (HKA.out.after (After.trans A0.out H7.out.aft)) (HLT.out HKA.out _)).mono ?_; rw [HT6.out]; rintro e w8 ⟨rfl, h8⟩; have H8 := show Hid (Live _ _ _ _ _) from h8; clear h8)
    | (go_at_call 16; refine (z_read H8.out).mono ?_; rw [(RD.out OKS.out).1, HG.out]; rintro e w9 ⟨ga, gc, rfl, ho9, h9⟩; rw [HGN.out] at ho9 ⊢; obtain ⟨ga2, gc2, e2, hb9, _⟩ := ho9.at; have e3 : ga = ga2 := (by injection e2); subst e3; have HO9 := show Hid (Own w9 _ (.slice ga gn gc) G) from ho9; have HG9 : Hid (BytesAt w9 ga G) := hb9; have H9 := show Hid (Live _ _ _ _ _) from H8.out.after h9; have cc9 := cell_after H9.out.aft CC.out.1; have cd9 := cell_after H9.out.aft CC.out.2; have hgi : ¬ ((an : Int) + (bn : Int) < (gn : Int)) := (by have := (RD.out OKS.out).2.2.1; omega); have hge : an ≤ gn := (RD.out OKS.out).2.1; clear ho9 h9 hb9 e2)
    | (go_at_call 28; refine (begins_any ga aa gn gc an ac _ G a HAN.out hge (RD.out OKS.out).2.2.2.1 w9 HO9.out HG9.out (HAA.out.after (After.trans A0.out H9.out.aft))).mono ?_; rintro e w10 ⟨rfl, h10⟩; have H10 := show Hid (Live _ _ _ _ _) from H9.out.after h10; have HG10 : Hid (BytesAt w10 ga G) := HG9.out.after h10; have cc10 := cell_after H10.out.aft CC.out.1; have cd10 := cell_after H10.out.aft CC.out.2; clear h10))
  have HF : Hid (∀ j, an ≤ j → j < gn → G.getD j 0 = 0 ∨ G.getD j 0 = b.getD (j - an) 0) := (RD.out OKS.out).2.2.2.2
  have HGB : Hid (gn ≤ an + bn) := (RD.out OKS.out).2.2.1
  clear cc3 cd3 cc4 cd4 cc5 cd5 cc6 cd6 cc7 cd7 cc9 cd9 H1 H2 H3 H4 H5 H6 H7 H8 H9 HO9 HG9 hgi
  go_loopw [10] (fun i wr => ∃ j : Nat, an ≤ j ∧ j ≤ gn ∧ i = .int .i64 j ∧ Hid (After w10 wr)) (fun i _ => gn - (intOf i).toNat)
  case atStart => exact ⟨an, Nat.le_refl _, hge, rfl, After.refl _⟩
  case round =>
    obtain ⟨j, hja, hjn, rfl, HX⟩ := hrel
    have c0 := cell_after HX.out cc10
    have c1 := cell_after HX.out cd10
    by_cases hlt : j < gn
    · have hji : (j : Int) < (gn : Int) := by omega
      have hgne : G ≠ [] := fun h => by have := HGN.out; rw [h] at this; simp at this; omega
      obtain ⟨gb, go, hga, hgc⟩ := HG10.out hgne
      subst hga
      have hc := cell_after HX.out (hgc j (by rw [HGN.out]; exact hlt))
      by_cases hz : G.getD j 0 = 0
      · rw [hz] at hc
        have hc' : wr.cell? ⟨gb, go + j, none⟩ = some (.int .u8 0) := hc
        clear hc hgc hz
        go_wp2_with fail
        go_quiet (fail)
        go_wp2
        go_roundw
        case rel => exact ⟨j + 1, by omega, by omega, by go_num, below_drewN HX.out _⟩
        case measure => simp [intOf]; omega
      · obtain ⟨q, hq⟩ : ∃ q, j - an = q := ⟨_, rfl⟩
        have hqi : (j : Int) - (an : Int) = (q : Int) := by omega
        have hqb : (q : Int) < (bn : Int) := by have := HGB.out; omega
        have hbne : b ≠ [] := fun h => by have := HBN.out; rw [h] at this; simp at this; omega
        obtain ⟨bb, bo, hbe, hbc⟩ := HBA.out hbne
        have hc2 := cell_after (After.trans (After.trans A0.out H10.out.aft) HX.out) (hbc q (by rw [HBN.out]; omega))
        rw [← hq, ← (HF.out j hja hlt).resolve_left hz, hq] at hc2
        obtain ⟨x, hx⟩ : ∃ x, ((G.getD j 0).toNat : Int) = x := ⟨_, rfl⟩
        have hx0 : ¬ x = 0 := fun h => hz (by rw [h] at hx; exact UInt8.toNat_inj.1 (by simpa using hx))
        rw [hx] at hc hc2
        subst hbe
        have hc3 : wr.cell? ⟨bb, bo + (j - an), none⟩ = some (.int .u8 x) := by rw [hq]; exact hc2
        have hc4 : wr.cell? ⟨bb, bo + ((j : Int) - (an : Int)).toNat, none⟩ = some (.int .u8 x) := by rw [hqi]; exact hc2
        have hgb2 : gn ≤ 281474976710656 := by have := HGB.out; omega
        have hwr : IntKind.i64.wrap ((j : Int) - (an : Int)) = (q : Int) := by rw [hqi, IntKind.wrap_i64]; omega
        have hc5 : wr.cell? ⟨bb, bo + (IntKind.i64.wrap ((j : Int) - (an : Int))).toNat, none⟩ = some (.int .u8 x) := by rw [hwr]; exact hc2
        have hz4 : 0 ≤ IntKind.i64.wrap ((j : Int) - (an : Int)) := by rw [hwr]; omega
        have hz5 : IntKind.i64.wrap ((j : Int) - (an : Int)) < (bn : Int) := by rw [hwr]; omega
        clear hwr
        have hz1 : 0 ≤ (j : Int) - (an : Int) := by omega
        have hz2 : (j : Int) - (an : Int) < (bn : Int) := by omega
        have hz3 : (an : Int) ≤ (j : Int) := by omega
        clear hgc hbc hz hq hx hqi hqb hc2
        go_wp2_with fail
        go_quiet (fail)
        go_wp2
        go_roundw
        case rel => exact ⟨j + 1, by omega, by omega, by go_num, below_drewN HX.out _⟩
        case measure => simp [intOf]; omega
    · obtain rfl : j = gn := by omega
      have H11 := show Hid (Live _ _ _ _ _) from H10.out.after HX.out
      go_wp2_with (go_at_call 15; refine (awake_any _).mono ?_; rintro e w15 ⟨rfl, h15⟩; have A15 : Hid (After w w15) := After.trans (After.trans A0.out H11.out.aft) h15; clear h15)
      go_ret
      exact ⟨rfl, A15.out⟩
theorem safe_any (ao : Option Addr) (c : Nat) (l : List Act5) (hn : l.length ≤ 140737488355328) (aa ba ka : Option Addr) (ac bc kc : Nat) (a b k : List UInt8) (hkc : k.length ≤ kc) (hab : a.length ≤ 140737488355328) (hbb : b.length ≤ 140737488355328) (w : World) (hat : ActsAt w ao l) (haa : BytesAt w aa a) (hba : BytesAt w ba b) (hka : BytesAt w ka k) :
    Calls Try.prog 6 #[.slice ao l.length c, .agg #[.slice aa a.length ac, .slice ba b.length bc], .slice ka k.length kc] w fun e w' => e = .returned (.bool true) ∧ Below w.heap.size w w' := by
  by_cases h1 : 64 ≤ (removeS (startS (playS (newS 1048576) l) []) Z).files.length
  · exact safe_a ao c l hn aa ba ka _ ac _ bc _ kc a b k rfl rfl rfl hkc hab hbb w hat haa hba hka h1
  · by_cases h2 : 1048576 - used (createS (removeS (startS (playS (newS 1048576) l) []) Z) Z).files < a.length
    · exact safe_b ao c l hn aa ba ka _ ac _ bc _ kc a b k rfl rfl rfl hkc hab hbb w hat haa hba hka ⟨h1, h2⟩
    · by_cases h3 : 1048576 - used (syncS (appendS (createS (removeS (startS (playS (newS 1048576) l) []) Z) Z) Z a) Z).files < b.length
      · exact safe_c ao c l hn aa ba ka _ ac _ bc _ kc a b k rfl rfl rfl hkc hab hbb w hat haa hba hka ⟨h1, h2, h3⟩
      · exact safe_d ao c l hn aa ba ka _ ac _ bc _ kc a b k rfl rfl rfl hkc hab hbb w hat haa hba hka ⟨h1, h2, h3⟩
end Go.Proofs.Ytlbodickflljfaa
