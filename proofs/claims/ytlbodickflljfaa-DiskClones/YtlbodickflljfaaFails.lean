/-
  THE WALK OF stemmalaw05.DiskFails.
-/
import Derived.Test.YtlbodickflljfaaNobody
namespace Go.Proofs.Ytlbodickflljfaa
open Go.RowKit Go.Maps Dsk
def fSt (D : List UInt8) (st l : Nat) (done : Bool) : Dk := ⟨1048576, [([97], ⟨D, 0⟩)], st, false, true, l, done⟩
def gSt (D : List UInt8) (st : Nat) (done : Bool) : Dk := ⟨1048576, if done then [] else [([97], ⟨D, 0⟩)], st, true, true, 0, done⟩
def hSt (st : Nat) (done : Bool) : Dk := ⟨1048576, if done then [] else [([97], ⟨[], 0⟩)], st, false, false, 0, false⟩
theorem f_find (D : List UInt8) (st l : Nat) (done : Bool) : findE (fSt D st l done) [97] = 0 := by
  have : named [97] = true := by decide
  simp [findE, refuse, fSt, fhas, this]
theorem f_get (D : List UInt8) (st l : Nat) (done : Bool) : getF (fSt D st l done) [97] = ⟨D, 0⟩ := by simp [getF, fSt, fget]
theorem f_put (D E : List UInt8) (n m : Nat) : fput [97] ⟨E, m⟩ [(([97] : Nm), (⟨D, n⟩ : Fl))] = [([97], ⟨E, m⟩)] := by simp [fput, fdel, fins]
theorem f_del (D : List UInt8) (n : Nat) : fdel [97] [(([97] : Nm), (⟨D, n⟩ : Fl))] = [] := by simp [fdel]
theorem f_room {D p : List UInt8} {st l : Nat} {done : Bool} (h : D.length + p.length ≤ 1048576) : ¬ ((fSt D st l done).most - used (fSt D st l done).files < p.length) := by
  simp [fSt, used]; omega
theorem f_appE {D p : List UInt8} {st l : Nat} {done : Bool} (h : D.length + p.length ≤ 1048576) : appendE (fSt D st (l + 1) done) [97] p = 0 := by
  unfold appendE
  rw [f_find, if_pos rfl, if_neg (f_room h)]
  simp [stepE, now, fSt]
theorem f_appS {D p : List UInt8} {st l : Nat} {done : Bool} (h : D.length + p.length ≤ 1048576) : appendS (fSt D st (l + 1) done) [97] p = fSt (D ++ p) (st + 1) l done := by
  unfold appendS
  rw [f_find, if_pos rfl, if_neg (f_room h), f_get]
  simp [stepS, now, fSt, f_put]
theorem f_remE (D : List UInt8) (st : Nat) (done : Bool) : removeE (fSt D st 0 done) [97] = 20 := by
  unfold removeE
  rw [f_find, if_pos rfl]
  simp [stepE, now, fSt]
theorem f_remS (D : List UInt8) (st : Nat) (done : Bool) : removeS (fSt D st 0 done) [97] = gSt D st done := by
  unfold removeS
  rw [f_find, if_pos rfl]
  simp [stepS, now, fSt, gSt, f_del]
theorem g_ref (D : List UInt8) (st : Nat) (done : Bool) (ns : List Nm) (h : ns.all named = true) : refuse (gSt D st done) ns = 20 := by simp [refuse, gSt, h]
theorem g_find (D : List UInt8) (st : Nat) (done : Bool) (nm : Nm) (h : named nm = true) : findE (gSt D st done) nm = 20 := by
  unfold findE; rw [g_ref D st done [nm] (by simp [h])]; rfl
theorem n97 : named [97] = true := by decide
theorem n98 : named [98] = true := by decide
section
variable (D : List UInt8) (st : Nat) (done : Bool)
theorem g_create : createE (gSt D st done) [98] = 20 ∧ createS (gSt D st done) [98] = gSt D st done := by
  unfold createE createS; rw [g_ref D st done [[98]] (by decide)]; exact ⟨rfl, rfl⟩
theorem g_append (p : List UInt8) : appendE (gSt D st done) [97] p = 20 ∧ appendS (gSt D st done) [97] p = gSt D st done := by
  unfold appendE appendS; rw [g_find D st done _ n97]; exact ⟨rfl, rfl⟩
theorem g_sync : removeE (gSt D st done) [97] = 20 ∧ syncS (gSt D st done) [97] = gSt D st done := by
  unfold removeE syncS; rw [g_find D st done _ n97]; exact ⟨rfl, rfl⟩
theorem g_remove : removeE (gSt D st done) [97] = 20 ∧ removeS (gSt D st done) [97] = gSt D st done := by
  unfold removeE removeS; rw [g_find D st done _ n97]; exact ⟨rfl, rfl⟩
theorem g_rename : renameE (gSt D st done) [97] [98] = 20 ∧ renameS (gSt D st done) [97] [98] = gSt D st done := by
  unfold renameE renameS; rw [g_ref D st done [[97], [98]] (by decide)]; exact ⟨rfl, rfl⟩
theorem g_cut : cutE (gSt D st done) [97] 0 = 20 ∧ cutS (gSt D st done) [97] 0 = gSt D st done := by
  unfold cutE cutS; rw [g_find D st done _ n97]; exact ⟨rfl, rfl⟩
theorem g_fail : failE (gSt D st done) 1 = 20 ∧ failD (gSt D st done) 1 done = gSt D st done := ⟨rfl, rfl⟩
theorem g_read : readB (gSt D st done) [97] = [] := by
  unfold readB; rw [g_find D st done _ n97]; rfl
end
theorem surv_none : ∀ (fuel i e : Nat) (d : List UInt8), (surv fuel i e d []).1 = e
  | 0, _, _, _ => rfl
  | fuel + 1, i, e, d => by
    by_cases h : i < d.length
    · rw [surv_step fuel i e d [] h rfl rfl]; exact surv_none fuel _ _ _
    · rw [surv_end _ _ _ _ _ h]
theorem survF_none (D : List UInt8) : survF ⟨D, 0⟩ [] = ⟨[], 0⟩ := by
  unfold survF; simp only [surv_none]; simp
theorem g_start (D : List UInt8) (st : Nat) (done : Bool) : startS (gSt D st done) [] = hSt st done := by
  cases done
  · simp [startS, gSt, hSt, survAll, survF_none]
  · simp [startS, gSt, hSt, survAll]
theorem h_find (st : Nat) (done : Bool) : findE (hSt st done) [97] = if done then 22 else 0 := by
  cases done <;> simp [findE, refuse, hSt, fhas, n97]
theorem h_read (st : Nat) (done : Bool) : readB (hSt st done) [97] = [] := by
  unfold readB; rw [h_find]; cases done <;> simp [hSt, fget]
theorem h_create (st : Nat) (done : Bool) : createE (hSt st done) [98] = 0 ∧ (createS (hSt st done) [98]).down = false := by
  cases done <;> simp [createE, createS, refuse, hSt, fhas, n98, stepE, stepS, now]
section
variable {w W : World} {L sb : Nat} {D : List UInt8} {st : Nat} {done : Bool}
theorem c_create (h : Live w L sb (gSt D st done) W) (hst : st < 1000) : Calls Try.prog 23 #[.pointer (some ⟨sb, 0, none⟩), .string ⟨#[98]⟩] W fun e W' => e = .returned (.int .i64 20) ∧ Live w W'.heap.size sb (gSt D st done) W' :=
  (live_create h (show st < _ by omega) [98] (by decide)).mono (fun e W' ⟨h1, h2⟩ => ⟨by rw [h1, (g_create D st done).1]; rfl, by rw [(g_create D st done).2] at h2; exact h2⟩)
theorem c_append (h : Live w L sb (gSt D st done) W) (hst : st < 1000) (pa : Option Addr) (pn pc : Nat) (p : List UInt8) (hp : p.length = pn) (hpa : BytesAt W pa p) (hpf : p ≠ [] → ∀ a, pa = some a → a.block < w.heap.size ∨ L ≤ a.block) : Calls Try.prog 24 #[.pointer (some ⟨sb, 0, none⟩), .string ⟨#[97]⟩, .slice pa pn pc] W fun e W' => e = .returned (.int .i64 20) ∧ Live w W'.heap.size sb (gSt D st done) W' :=
  (live_append h (show st < _ by omega) [97] (by decide) pa pn pc p hp hpa hpf).mono (fun e W' ⟨h1, h2⟩ => ⟨by rw [h1, (g_append D st done p).1]; rfl, by rw [(g_append D st done p).2] at h2; exact h2⟩)
theorem c_sync (h : Live w L sb (gSt D st done) W) (hst : st < 1000) : Calls Try.prog 27 #[.pointer (some ⟨sb, 0, none⟩), .string ⟨#[97]⟩] W fun e W' => e = .returned (.int .i64 20) ∧ Live w W'.heap.size sb (gSt D st done) W' :=
  (live_sync h (show st < _ by omega) [97] (by decide)).mono (fun e W' ⟨h1, h2⟩ => ⟨by rw [h1, (g_sync D st done).1]; rfl, by rw [(g_sync D st done).2] at h2; exact h2⟩)
theorem c_remove (h : Live w L sb (gSt D st done) W) (hst : st < 1000) : Calls Try.prog 22 #[.pointer (some ⟨sb, 0, none⟩), .string ⟨#[97]⟩] W fun e W' => e = .returned (.int .i64 20) ∧ Live w W'.heap.size sb (gSt D st done) W' :=
  (live_remove h (show st < _ by omega) [97] (by decide)).mono (fun e W' ⟨h1, h2⟩ => ⟨by rw [h1, (g_remove D st done).1]; rfl, by rw [(g_remove D st done).2] at h2; exact h2⟩)
theorem c_rename (h : Live w L sb (gSt D st done) W) (hst : st < 1000) : Calls Try.prog 32 #[.pointer (some ⟨sb, 0, none⟩), .string ⟨#[97]⟩, .string ⟨#[98]⟩] W fun e W' => e = .returned (.int .i64 20) ∧ Live w W'.heap.size sb (gSt D st done) W' :=
  (live_rename h (show st < _ by omega) [97] (by decide) [98] (by decide)).mono (fun e W' ⟨h1, h2⟩ => ⟨by rw [h1, (g_rename D st done).1]; rfl, by rw [(g_rename D st done).2] at h2; exact h2⟩)
theorem c_cut (h : Live w L sb (gSt D st done) W) (hst : st < 1000) : Calls Try.prog 33 #[.pointer (some ⟨sb, 0, none⟩), .string ⟨#[97]⟩, .int .i64 0] W fun e W' => e = .returned (.int .i64 20) ∧ Live w W'.heap.size sb (gSt D st done) W' :=
  (live_cut h (show st < _ by omega) [97] (by decide) 0).mono (fun e W' ⟨h1, h2⟩ => ⟨by rw [h1, (g_cut D st done).1]; rfl, by rw [(g_cut D st done).2] at h2; exact h2⟩)
theorem c_fail (h : Live w L sb (gSt D st done) W) : Calls Try.prog 30 #[.pointer (some ⟨sb, 0, none⟩), .int .i64 1, .bool done] W fun e W' => e = .returned (.int .i64 20) ∧ Live w W'.heap.size sb (gSt D st done) W' :=
  (live_fail h 1 (by omega) done).mono (fun e W' ⟨h1, h2⟩ => ⟨by rw [h1, (g_fail D st done).1]; rfl, h2⟩)
theorem c_read (h : Live w L sb (gSt D st done) W) : Calls Try.prog 16 #[.pointer (some ⟨sb, 0, none⟩), .string ⟨#[97]⟩] W fun e W' => ∃ ao c, e = .returned (.tuple #[.slice ao 0 c, .int .i64 20]) ∧ After W W' :=
  (live_read h [97] (by decide)).mono (fun e W' ⟨ao, c, h1, _, h3⟩ => by rw [g_read, g_find D st done _ n97] at h1; exact ⟨ao, c, h1, h3⟩)
theorem c_down (h : Live w L sb (gSt D st done) W) : Calls Try.prog 29 #[.pointer (some ⟨sb, 0, none⟩)] W fun e W' => e = .returned (.bool true) ∧ W' = W := live_down h
theorem c_steps (h : Live w L sb (gSt D st done) W) : Calls Try.prog 31 #[.pointer (some ⟨sb, 0, none⟩)] W fun e W' => e = .returned (.int .i64 (st : Int)) ∧ W' = W := live_steps h
theorem c_start (h : Live w L sb (gSt D st done) W) : Calls Try.prog 19 #[.pointer (some ⟨sb, 0, none⟩), .slice none 0 0] W fun e W' => e = .returned (.tuple #[]) ∧ Live w W'.heap.size sb (hSt st done) W' :=
  (live_start h none 0 0 [] rfl (Nat.le_refl _) (fun h => absurd rfl h) (fun h => absurd rfl h)).mono (fun e W' ⟨h1, h2⟩ => ⟨h1, by rw [g_start] at h2; exact h2⟩)
theorem c_read2 (h : Live w L sb (hSt st done) W) : Calls Try.prog 16 #[.pointer (some ⟨sb, 0, none⟩), .string ⟨#[97]⟩] W fun e W' => ∃ ao c, e = .returned (.tuple #[.slice ao 0 c, .int .i64 ((if done then 22 else 0 : Nat) : Int)]) ∧ After W W' :=
  (live_read h [97] (by decide)).mono (fun e W' ⟨ao, c, h1, _, h3⟩ => by rw [h_read, h_find] at h1; exact ⟨ao, c, h1, h3⟩)
theorem c_create2 (h : Live w L sb (hSt st done) W) (hst : st < 1000) : Calls Try.prog 23 #[.pointer (some ⟨sb, 0, none⟩), .string ⟨#[98]⟩] W fun e W' => e = .returned (.int .i64 0) ∧ Live w W'.heap.size sb (createS (hSt st done) [98]) W' :=
  (live_create h (show st < _ by omega) [98] (by decide)).mono (fun e W' ⟨h1, h2⟩ => ⟨by rw [h1, (h_create st done).1]; rfl, h2⟩)
theorem c_down2 (h : Live w L sb (createS (hSt st done) [98]) W) : Calls Try.prog 29 #[.pointer (some ⟨sb, 0, none⟩)] W fun e W' => e = .returned (.bool false) ∧ W' = W :=
  (live_down h).mono (fun e W' ⟨h1, h2⟩ => ⟨by rw [h1, (h_create st done).2], h2⟩)
theorem c_remove1 (h : Live w L sb (fSt D st 0 done) W) (hst : st < 1000) : Calls Try.prog 22 #[.pointer (some ⟨sb, 0, none⟩), .string ⟨#[97]⟩] W fun e W' => e = .returned (.int .i64 20) ∧ Live w W'.heap.size sb (gSt D st done) W' :=
  (live_remove h (show st < _ by omega) [97] (by decide)).mono (fun e W' ⟨h1, h2⟩ => ⟨by rw [h1, f_remE]; rfl, by rw [f_remS] at h2; exact h2⟩)
theorem c_append1 {l : Nat} (h : Live w L sb (fSt D st (l + 1) done) W) (hst : st < 1000) (pa : Option Addr) (pn pc : Nat) (p : List UInt8) (hp : p.length = pn) (hpa : BytesAt W pa p) (hpf : p ≠ [] → ∀ a, pa = some a → a.block < w.heap.size ∨ L ≤ a.block) (hb : D.length + p.length ≤ 1048576) : Calls Try.prog 24 #[.pointer (some ⟨sb, 0, none⟩), .string ⟨#[97]⟩, .slice pa pn pc] W fun e W' => e = .returned (.int .i64 0) ∧ Live w W'.heap.size sb (fSt (D ++ p) (st + 1) l done) W' :=
  (live_append h (show st < _ by omega) [97] (by decide) pa pn pc p hp hpa hpf).mono (fun e W' ⟨h1, h2⟩ => ⟨by rw [h1, f_appE hb]; rfl, by rw [f_appS hb] at h2; exact h2⟩)
end
theorem c_new (w : World) : Calls Try.prog 11 #[.int .i64 1048576] w fun e w' => e = .returned (.pointer (some ⟨w.heap.size + 1, 0, none⟩)) ∧ Live w w'.heap.size (w.heap.size + 1) (newS 1048576) w' := live_new 1048576 w
theorem c_made {w W : World} {L sb : Nat} (h : Live w L sb (newS 1048576) W) : Calls Try.prog 23 #[.pointer (some ⟨sb, 0, none⟩), .string ⟨#[97]⟩] W fun e W' => e = .returned (.int .i64 0) ∧ Live w W'.heap.size sb (createS (newS 1048576) [97]) W' :=
  (live_create h (by decide) [97] (by decide)).mono (fun e W' ⟨h1, h2⟩ => ⟨by rw [h1]; rfl, h2⟩)
theorem c_fail1 {w W : World} {L sb : Nat} (h : Live w L sb (createS (newS 1048576) [97]) W) (n : Nat) (hn : n ≤ 255) (done : Bool) : Calls Try.prog 30 #[.pointer (some ⟨sb, 0, none⟩), .int .i64 (n : Int), .bool done] W fun e W' => e = .returned (.int .i64 0) ∧ Live w W'.heap.size sb (fSt [] 1 n done) W' :=
  (live_fail h (n : Int) (by omega) done).mono (fun e W' ⟨h1, h2⟩ => by
    have e1 : failE (createS (newS 1048576) [97]) (n : Int) = 0 := by
      unfold failE
      rw [if_neg (by decide), if_neg (by omega)]
    have e2 : failD (createS (newS 1048576) [97]) (n : Int) done = fSt [] 1 n done := by
      unfold failD
      rw [if_neg (by decide), if_neg (by omega), Int.toNat_natCast]
      rfl
    exact ⟨by rw [h1, e1]; rfl, by rw [e2] at h2; exact h2⟩)
/-- The bytes, as often as it is said. -/
def rep (p : List UInt8) : Nat → List UInt8
  | 0 => []
  | k + 1 => rep p k ++ p
theorem rep_len (p : List UInt8) : ∀ k, (rep p k).length = k * p.length
  | 0 => by simp [rep]
  | k + 1 => by rw [rep, List.length_append, rep_len p k, Nat.add_mul]; simp

set_option maxRecDepth 100000 in
set_option maxHeartbeats 3200000 in
theorem fails_short_true (n : Nat) (hn : n ≤ 255) (pa : Option Addr) (pn pc : Nat) (p : List UInt8) (hp : p.length = pn) (hp1 : pn ≤ 1024) (w : World) (hpa : BytesAt w pa p) :
    Calls Try.prog 8 #[.int .u8 (n : Int), .bool true, .slice pa pn pc] w fun e w' => e = .returned (.bool true) ∧ Below w.heap.size w w' := by
  obtain ⟨done, hdone⟩ : ∃ d, d = true := ⟨_, rfl⟩
  have hp1' : ¬ (1024 : Int) < (pn : Int) := by omega
  have HP : Hid (p.length = pn) := hp
  have HAT : Hid (BytesAt w pa p) := hpa
  clear hpa
  have HPF : Hid (p ≠ [] → ∀ (L : Nat) a, pa = some a → a.block < w.heap.size ∨ L ≤ a.block) := fun hne L a ha => by
    obtain ⟨b, o, e1, hc⟩ := HAT.out hne
    rw [e1] at ha
    cases ha
    exact Or.inl (block_lt_of_cell (hc 0 (by cases p with | nil => exact absurd rfl hne | cons _ _ => simp)))
  clear hp
  rw [← hdone]
  have HDN := show Hid (done = _) from hdone
  clear hdone
  go_enter Try.func8, Try.ntmps8
  go_wp2_with (first
    | (go_at_call 11; refine (c_new w).mono ?_; rintro e w1 ⟨rfl, h1⟩; have H1 := show Hid (Live _ _ _ _ _) from h1; clear h1)
    | (go_at_call 23; refine (c_made H1.out).mono ?_; rintro e w2 ⟨rfl, h2⟩; have H2 := show Hid (Live _ _ _ _ _) from h2; clear h2)
    | (go_at_call 30; refine (c_fail1 H2.out n hn done).mono ?_; rintro e w3 ⟨rfl, h3⟩; have H3 := show Hid (Live _ _ _ _ _) from h3; clear h3))
  go_loopw [8] (fun i wr => ∃ j : Nat, j ≤ n ∧ i = .int .i64 j ∧ Hid (Live w wr.heap.size (w.heap.size + 1) (fSt (rep p j) (1 + j) (n - j) done) wr)) (fun i _ => n - (intOf i).toNat)
  case atStart => exact ⟨0, Nat.zero_le _, rfl, H3⟩
  case round =>
    obtain ⟨j, hjn, rfl, HX⟩ := hrel
    by_cases hlt : j < n
    · have C := show Hid _ from c_append1 (l := n - (j + 1)) (by have := HX.out; rwa [show n - j = n - (j + 1) + 1 by omega] at this) (by omega) pa pn pc p HP.out (HAT.out.after HX.out.aft) (fun hne a ha => HPF.out hne _ a ha) (by rw [rep_len, HP.out]; have := Nat.mul_le_mul (show j ≤ 255 by omega) hp1; omega)
      go_wp2_with (go_at_call 24; refine Calls.mono C.out ?_; rintro e w4 ⟨rfl, h4⟩; have H4 := show Hid (Live _ _ _ _ _) from h4; clear h4)
      go_roundw
      case rel => exact ⟨j + 1, by omega, by go_num, by have := H4.out; rw [show 1 + j + 1 = 1 + (j + 1) by omega] at this; exact this⟩
      case measure => simp [intOf]; omega
    · obtain rfl : j = n := by omega
      have HX0 : Hid (Live w wr.heap.size (w.heap.size + 1) (fSt (rep p j) (1 + j) 0 done) wr) := by have := HX.out; rw [Nat.sub_self] at this; exact this
      obtain ⟨st, hst⟩ : ∃ st, 1 + j = st := ⟨_, rfl⟩
      have hst1 : (j : Int) + 1 = (st : Int) := by omega
      have hst2 : st < 1000 := by omega
      rw [hst] at HX0
      have hdone := HDN.out
      subst hdone
      have tokc : True := trivial
      have tokr : True := trivial
      have tokd : True := trivial
      have tokm : True := trivial
      clear HX H3 hst
      go_wp2_with (first
        | (go_at_call 22; have _t := tokm; refine (c_remove1 HX0.out hst2).mono ?_; rintro e w5 ⟨rfl, h5⟩; have H5 := show Hid (Live _ _ _ _ _) from h5; clear h5 tokm)
        | (go_at_call 29; have _t := tokd; refine (c_down H5.out).mono ?_; rintro e w6 ⟨rfl, h6⟩; have h6' := h6.symm; clear h6 tokd; subst h6')
        | (go_at_call 31; refine (c_steps H5.out).mono ?_; rintro e w7 ⟨rfl, h7⟩; have h7' := h7.symm; clear h7; subst h7')
        | (go_at_call 23; have _t := tokc; refine (c_create H5.out hst2).mono ?_; rintro e w8 ⟨rfl, h8⟩; have H8 := show Hid (Live _ _ _ _ _) from h8; clear h8 tokc)
        | (go_at_call 24; refine (c_append H8.out hst2 pa pn pc p HP.out (HAT.out.after H8.out.aft) (fun hne a ha => HPF.out hne _ a ha)).mono ?_; rintro e w9 ⟨rfl, h9⟩; have H9 := show Hid (Live _ _ _ _ _) from h9; clear h9)
        | (go_at_call 27; refine (c_sync H9.out hst2).mono ?_; rintro e w10 ⟨rfl, h10⟩; have H10 := show Hid (Live _ _ _ _ _) from h10; clear h10)
        | (go_at_call 32; refine (c_rename H10.out hst2).mono ?_; rintro e w11 ⟨rfl, h11⟩; have H11 := show Hid (Live _ _ _ _ _) from h11; clear h11)
        | (go_at_call 22; refine (c_remove H11.out hst2).mono ?_; rintro e w12 ⟨rfl, h12⟩; have H12 := show Hid (Live _ _ _ _ _) from h12; clear h12)
        | (go_at_call 33; refine (c_cut H12.out hst2).mono ?_; rintro e w13 ⟨rfl, h13⟩; have H13 := show Hid (Live _ _ _ _ _) from h13; clear h13)
        | (go_at_call 30; refine (c_fail H13.out).mono ?_; rintro e w14 ⟨rfl, h14⟩; have H14 := show Hid (Live _ _ _ _ _) from h14; clear h14)
        | (go_at_call 16; have _t := tokr; refine (c_read H14.out).mono ?_; rintro e w15 ⟨a15, c15, rfl, h15⟩; have H15 := show Hid (Live _ _ _ _ _) from H14.out.after h15; clear h15 tokr)
        | (go_at_call 19; refine (c_start H15.out).mono ?_; rintro e w16 ⟨rfl, h16⟩; have H16 := show Hid (Live _ _ _ _ _) from h16; clear h16)
        | (go_at_call 16; refine (c_read2 H16.out).mono ?_; rintro e w17 ⟨a17, c17, rfl, h17⟩; have H17 := show Hid (Live _ _ _ _ _) from H16.out.after h17; clear h17)
        | (go_at_call 23; refine (c_create2 H17.out hst2).mono ?_; rintro e w18 ⟨rfl, h18⟩; have H18 := show Hid (Live _ _ _ _ _) from h18; clear h18)
        | (go_at_call 29; refine (c_down2 H18.out).mono ?_; rintro e w19 ⟨rfl, h19⟩; have h19' := h19.symm; clear h19; subst h19')
        | (go_at_call 15; refine (awake_any w18).mono ?_; rintro e w20 ⟨rfl, h20⟩; have A20 : Hid (After w w20) := After.trans H18.out.aft h20; clear h20))
      go_ret
      exact ⟨rfl, A20.out⟩
set_option maxRecDepth 100000 in
set_option maxHeartbeats 3200000 in
theorem fails_short_false (n : Nat) (hn : n ≤ 255) (pa : Option Addr) (pn pc : Nat) (p : List UInt8) (hp : p.length = pn) (hp1 : pn ≤ 1024) (w : World) (hpa : BytesAt w pa p) :
    Calls Try.prog 8 #[.int .u8 (n : Int), .bool false, .slice pa pn pc] w fun e w' => e = .returned (.bool true) ∧ Below w.heap.size w w' := by
  obtain ⟨done, hdone⟩ : ∃ d, d = false := ⟨_, rfl⟩
  have hp1' : ¬ (1024 : Int) < (pn : Int) := by omega
  have HP : Hid (p.length = pn) := hp
  have HAT : Hid (BytesAt w pa p) := hpa
  clear hpa
  have HPF : Hid (p ≠ [] → ∀ (L : Nat) a, pa = some a → a.block < w.heap.size ∨ L ≤ a.block) := fun hne L a ha => by
    obtain ⟨b, o, e1, hc⟩ := HAT.out hne
    rw [e1] at ha
    cases ha
    exact Or.inl (block_lt_of_cell (hc 0 (by cases p with | nil => exact absurd rfl hne | cons _ _ => simp)))
  clear hp
  rw [← hdone]
  have HDN := show Hid (done = _) from hdone
  clear hdone
  go_enter Try.func8, Try.ntmps8
  go_wp2_with (first
    | (go_at_call 11; refine (c_new w).mono ?_; rintro e w1 ⟨rfl, h1⟩; have H1 := show Hid (Live _ _ _ _ _) from h1; clear h1)
    | (go_at_call 23; refine (c_made H1.out).mono ?_; rintro e w2 ⟨rfl, h2⟩; have H2 := show Hid (Live _ _ _ _ _) from h2; clear h2)
    | (go_at_call 30; refine (c_fail1 H2.out n hn done).mono ?_; rintro e w3 ⟨rfl, h3⟩; have H3 := show Hid (Live _ _ _ _ _) from h3; clear h3))
  go_loopw [8] (fun i wr => ∃ j : Nat, j ≤ n ∧ i = .int .i64 j ∧ Hid (Live w wr.heap.size (w.heap.size + 1) (fSt (rep p j) (1 + j) (n - j) done) wr)) (fun i _ => n - (intOf i).toNat)
  case atStart => exact ⟨0, Nat.zero_le _, rfl, H3⟩
  case round =>
    obtain ⟨j, hjn, rfl, HX⟩ := hrel
    by_cases hlt : j < n
    · have C := show Hid _ from c_append1 (l := n - (j + 1)) (by have := HX.out; rwa [show n - j = n - (j + 1) + 1 by omega] at this) (by omega) pa pn pc p HP.out (HAT.out.after HX.out.aft) (fun hne a ha => HPF.out hne _ a ha) (by rw [rep_len, HP.out]; have := Nat.mul_le_mul (show j ≤ 255 by omega) hp1; omega)
      go_wp2_with (go_at_call 24; refine Calls.mono C.out ?_; rintro e w4 ⟨rfl, h4⟩; have H4 := show Hid (Live _ _ _ _ _) from h4; clear h4)
      go_roundw
      case rel => exact ⟨j + 1, by omega, by go_num, by have := H4.out; rw [show 1 + j + 1 = 1 + (j + 1) by omega] at this; exact this⟩
      case measure => simp [intOf]; omega
    · obtain rfl : j = n := by omega
      have HX0 : Hid (Live w wr.heap.size (w.heap.size + 1) (fSt (rep p j) (1 + j) 0 done) wr) := by have := HX.out; rw [Nat.sub_self] at this; exact this
      obtain ⟨st, hst⟩ : ∃ st, 1 + j = st := ⟨_, rfl⟩
      have hst1 : (j : Int) + 1 = (st : Int) := by omega
      have hst2 : st < 1000 := by omega
      rw [hst] at HX0
      have hdone := HDN.out
      subst hdone
      have tokc : True := trivial
      have tokr : True := trivial
      have tokd : True := trivial
      have tokm : True := trivial
      clear HX H3 hst
      go_wp2_with (first
        | (go_at_call 22; have _t := tokm; refine (c_remove1 HX0.out hst2).mono ?_; rintro e w5 ⟨rfl, h5⟩; have H5 := show Hid (Live _ _ _ _ _) from h5; clear h5 tokm)
        | (go_at_call 29; have _t := tokd; refine (c_down H5.out).mono ?_; rintro e w6 ⟨rfl, h6⟩; have h6' := h6.symm; clear h6 tokd; subst h6')
        | (go_at_call 31; refine (c_steps H5.out).mono ?_; rintro e w7 ⟨rfl, h7⟩; have h7' := h7.symm; clear h7; subst h7')
        | (go_at_call 23; have _t := tokc; refine (c_create H5.out hst2).mono ?_; rintro e w8 ⟨rfl, h8⟩; have H8 := show Hid (Live _ _ _ _ _) from h8; clear h8 tokc)
        | (go_at_call 24; refine (c_append H8.out hst2 pa pn pc p HP.out (HAT.out.after H8.out.aft) (fun hne a ha => HPF.out hne _ a ha)).mono ?_; rintro e w9 ⟨rfl, h9⟩; have H9 := show Hid (Live _ _ _ _ _) from h9; clear h9)
        | (go_at_call 27; refine (c_sync H9.out hst2).mono ?_; rintro e w10 ⟨rfl, h10⟩; have H10 := show Hid (Live _ _ _ _ _) from h10; clear h10)
        | (go_at_call 32; refine (c_rename H10.out hst2).mono ?_; rintro e w11 ⟨rfl, h11⟩; have H11 := show Hid (Live _ _ _ _ _) from h11; clear h11)
        | (go_at_call 22; refine (c_remove H11.out hst2).mono ?_; rintro e w12 ⟨rfl, h12⟩; have H12 := show Hid (Live _ _ _ _ _) from h12; clear h12)
        | (go_at_call 33; refine (c_cut H12.out hst2).mono ?_; rintro e w13 ⟨rfl, h13⟩; have H13 := show Hid (Live _ _ _ _ _) from h13; clear h13)
        | (go_at_call 30; refine (c_fail H13.out).mono ?_; rintro e w14 ⟨rfl, h14⟩; have H14 := show Hid (Live _ _ _ _ _) from h14; clear h14)
        | (go_at_call 16; have _t := tokr; refine (c_read H14.out).mono ?_; rintro e w15 ⟨a15, c15, rfl, h15⟩; have H15 := show Hid (Live _ _ _ _ _) from H14.out.after h15; clear h15 tokr)
        | (go_at_call 19; refine (c_start H15.out).mono ?_; rintro e w16 ⟨rfl, h16⟩; have H16 := show Hid (Live _ _ _ _ _) from h16; clear h16)
        | (go_at_call 16; refine (c_read2 H16.out).mono ?_; rintro e w17 ⟨a17, c17, rfl, h17⟩; have H17 := show Hid (Live _ _ _ _ _) from H16.out.after h17; clear h17)
        | (go_at_call 23; refine (c_create2 H17.out hst2).mono ?_; rintro e w18 ⟨rfl, h18⟩; have H18 := show Hid (Live _ _ _ _ _) from h18; clear h18)
        | (go_at_call 29; refine (c_down2 H18.out).mono ?_; rintro e w19 ⟨rfl, h19⟩; have h19' := h19.symm; clear h19; subst h19')
        | (go_at_call 15; refine (awake_any w18).mono ?_; rintro e w20 ⟨rfl, h20⟩; have A20 : Hid (After w w20) := After.trans H18.out.aft h20; clear h20))
      go_ret
      exact ⟨rfl, A20.out⟩
set_option maxRecDepth 100000 in
set_option maxHeartbeats 3200000 in
theorem fails_long_true (n : Nat) (hn : n ≤ 255) (pa : Option Addr) (pc : Nat) (q : List UInt8) (qn : Nat) (hq : q.length = qn) (hq1 : 1024 < qn) (hpc : qn ≤ pc) (w : World) (hpa : BytesAt w pa q) :
    Calls Try.prog 8 #[.int .u8 (n : Int), .bool true, .slice pa qn pc] w fun e w' => e = .returned (.bool true) ∧ Below w.heap.size w w' := by
  obtain ⟨done, hdone⟩ : ∃ d, d = true := ⟨_, rfl⟩
  obtain ⟨b, o, rfl, _⟩ := hpa (by intro h; rw [h] at hq; simp at hq; omega)
  obtain ⟨p, hpd⟩ : ∃ p, q.take 1024 = p := ⟨_, rfl⟩
  have hp : p.length = 1024 := by rw [← hpd, List.length_take, hq]; omega
  have hpa' : BytesAt w (some ⟨b, o, none⟩) p := by rw [← hpd]; exact hpa.take 1024
  have hsl := slice_hi b o qn pc 1024 (by omega)
  obtain ⟨pa, hpaw⟩ : ∃ pa : Option Addr, pa = some ⟨b, o, none⟩ := ⟨_, rfl⟩
  obtain ⟨pn, hpn⟩ : ∃ pn, pn = 1024 := ⟨_, rfl⟩
  have hp1 : pn ≤ 1024 := by omega
  have hq1' : (1024 : Int) < (qn : Int) := by omega
  have hsl' : ∀ W : World, (Instr.sliceAt 31 (.slice pa qn pc) none (some (.int .i64 1024)) none).run Try.prog W = .ok (.slice pa pn pc) W := by
    intro W; rw [hpaw, hpn]; exact hsl W
  rw [← hpaw] at hpa' ⊢
  rw [← hpn] at hp
  have HP : Hid (p.length = pn) := hp
  have HAT : Hid (BytesAt w pa p) := hpa'
  clear hsl hpa hpd hpaw hpn
  have HPF : Hid (p ≠ [] → ∀ (L : Nat) a, pa = some a → a.block < w.heap.size ∨ L ≤ a.block) := fun hne L a ha => by
    obtain ⟨b, o, e1, hc⟩ := HAT.out hne
    rw [e1] at ha
    cases ha
    exact Or.inl (block_lt_of_cell (hc 0 (by cases p with | nil => exact absurd rfl hne | cons _ _ => simp)))
  clear hp
  rw [← hdone]
  have HDN := show Hid (done = _) from hdone
  clear hdone
  go_enter Try.func8, Try.ntmps8
  go_wp2_with (first
    | (go_at_call 11; refine (c_new w).mono ?_; rintro e w1 ⟨rfl, h1⟩; have H1 := show Hid (Live _ _ _ _ _) from h1; clear h1)
    | (go_at_call 23; refine (c_made H1.out).mono ?_; rintro e w2 ⟨rfl, h2⟩; have H2 := show Hid (Live _ _ _ _ _) from h2; clear h2)
    | (go_at_call 30; refine (c_fail1 H2.out n hn done).mono ?_; rintro e w3 ⟨rfl, h3⟩; have H3 := show Hid (Live _ _ _ _ _) from h3; clear h3))
  go_loopw [8] (fun i wr => ∃ j : Nat, j ≤ n ∧ i = .int .i64 j ∧ Hid (Live w wr.heap.size (w.heap.size + 1) (fSt (rep p j) (1 + j) (n - j) done) wr)) (fun i _ => n - (intOf i).toNat)
  case atStart => exact ⟨0, Nat.zero_le _, rfl, H3⟩
  case round =>
    obtain ⟨j, hjn, rfl, HX⟩ := hrel
    by_cases hlt : j < n
    · have C := show Hid _ from c_append1 (l := n - (j + 1)) (by have := HX.out; rwa [show n - j = n - (j + 1) + 1 by omega] at this) (by omega) pa pn pc p HP.out (HAT.out.after HX.out.aft) (fun hne a ha => HPF.out hne _ a ha) (by rw [rep_len, HP.out]; have := Nat.mul_le_mul (show j ≤ 255 by omega) hp1; omega)
      go_wp2_with (go_at_call 24; refine Calls.mono C.out ?_; rintro e w4 ⟨rfl, h4⟩; have H4 := show Hid (Live _ _ _ _ _) from h4; clear h4)
      go_roundw
      case rel => exact ⟨j + 1, by omega, by go_num, by have := H4.out; rw [show 1 + j + 1 = 1 + (j + 1) by omega] at this; exact this⟩
      case measure => simp [intOf]; omega
    · obtain rfl : j = n := by omega
      have HX0 : Hid (Live w wr.heap.size (w.heap.size + 1) (fSt (rep p j) (1 + j) 0 done) wr) := by have := HX.out; rw [Nat.sub_self] at this; exact this
      obtain ⟨st, hst⟩ : ∃ st, 1 + j = st := ⟨_, rfl⟩
      have hst1 : (j : Int) + 1 = (st : Int) := by omega
      have hst2 : st < 1000 := by omega
      rw [hst] at HX0
      have hdone := HDN.out
      subst hdone
      have tokc : True := trivial
      have tokr : True := trivial
      have tokd : True := trivial
      have tokm : True := trivial
      clear HX H3 hst
      go_wp2_with (first
        | (go_at_call 22; have _t := tokm; refine (c_remove1 HX0.out hst2).mono ?_; rintro e w5 ⟨rfl, h5⟩; have H5 := show Hid (Live _ _ _ _ _) from h5; clear h5 tokm)
        | (go_at_call 29; have _t := tokd; refine (c_down H5.out).mono ?_; rintro e w6 ⟨rfl, h6⟩; have h6' := h6.symm; clear h6 tokd; subst h6')
        | (go_at_call 31; refine (c_steps H5.out).mono ?_; rintro e w7 ⟨rfl, h7⟩; have h7' := h7.symm; clear h7; subst h7')
        | (go_at_call 23; have _t := tokc; refine (c_create H5.out hst2).mono ?_; rintro e w8 ⟨rfl, h8⟩; have H8 := show Hid (Live _ _ _ _ _) from h8; clear h8 tokc)
        | (go_at_call 24; refine (c_append H8.out hst2 pa pn pc p HP.out (HAT.out.after H8.out.aft) (fun hne a ha => HPF.out hne _ a ha)).mono ?_; rintro e w9 ⟨rfl, h9⟩; have H9 := show Hid (Live _ _ _ _ _) from h9; clear h9)
        | (go_at_call 27; refine (c_sync H9.out hst2).mono ?_; rintro e w10 ⟨rfl, h10⟩; have H10 := show Hid (Live _ _ _ _ _) from h10; clear h10)
        | (go_at_call 32; refine (c_rename H10.out hst2).mono ?_; rintro e w11 ⟨rfl, h11⟩; have H11 := show Hid (Live _ _ _ _ _) from h11; clear h11)
        | (go_at_call 22; refine (c_remove H11.out hst2).mono ?_; rintro e w12 ⟨rfl, h12⟩; have H12 := show Hid (Live _ _ _ _ _) from h12; clear h12)
        | (go_at_call 33; refine (c_cut H12.out hst2).mono ?_; rintro e w13 ⟨rfl, h13⟩; have H13 := show Hid (Live _ _ _ _ _) from h13; clear h13)
        | (go_at_call 30; refine (c_fail H13.out).mono ?_; rintro e w14 ⟨rfl, h14⟩; have H14 := show Hid (Live _ _ _ _ _) from h14; clear h14)
        | (go_at_call 16; have _t := tokr; refine (c_read H14.out).mono ?_; rintro e w15 ⟨a15, c15, rfl, h15⟩; have H15 := show Hid (Live _ _ _ _ _) from H14.out.after h15; clear h15 tokr)
        | (go_at_call 19; refine (c_start H15.out).mono ?_; rintro e w16 ⟨rfl, h16⟩; have H16 := show Hid (Live _ _ _ _ _) from h16; clear h16)
        | (go_at_call 16; refine (c_read2 H16.out).mono ?_; rintro e w17 ⟨a17, c17, rfl, h17⟩; have H17 := show Hid (Live _ _ _ _ _) from H16.out.after h17; clear h17)
        | (go_at_call 23; refine (c_create2 H17.out hst2).mono ?_; rintro e w18 ⟨rfl, h18⟩; have H18 := show Hid (Live _ _ _ _ _) from h18; clear h18)
        | (go_at_call 29; refine (c_down2 H18.out).mono ?_; rintro e w19 ⟨rfl, h19⟩; have h19' := h19.symm; clear h19; subst h19')
        | (go_at_call 15; refine (awake_any w18).mono ?_; rintro e w20 ⟨rfl, h20⟩; have A20 : Hid (After w w20) := After.trans H18.out.aft h20; clear h20))
      go_ret
      exact ⟨rfl, A20.out⟩
set_option maxRecDepth 100000 in
set_option maxHeartbeats 3200000 in
theorem fails_long_false (n : Nat) (hn : n ≤ 255) (pa : Option Addr) (pc : Nat) (q : List UInt8) (qn : Nat) (hq : q.length = qn) (hq1 : 1024 < qn) (hpc : qn ≤ pc) (w : World) (hpa : BytesAt w pa q) :
    Calls Try.prog 8 #[.int .u8 (n : Int), .bool false, .slice pa qn pc] w fun e w' => e = .returned (.bool true) ∧ Below w.heap.size w w' := by
  obtain ⟨done, hdone⟩ : ∃ d, d = false := ⟨_, rfl⟩
  obtain ⟨b, o, rfl, _⟩ := hpa (by intro h; rw [h] at hq; simp at hq; omega)
  obtain ⟨p, hpd⟩ : ∃ p, q.take 1024 = p := ⟨_, rfl⟩
  have hp : p.length = 1024 := by rw [← hpd, List.length_take, hq]; omega
  have hpa' : BytesAt w (some ⟨b, o, none⟩) p := by rw [← hpd]; exact hpa.take 1024
  have hsl := slice_hi b o qn pc 1024 (by omega)
  obtain ⟨pa, hpaw⟩ : ∃ pa : Option Addr, pa = some ⟨b, o, none⟩ := ⟨_, rfl⟩
  obtain ⟨pn, hpn⟩ : ∃ pn, pn = 1024 := ⟨_, rfl⟩
  have hp1 : pn ≤ 1024 := by omega
  have hq1' : (1024 : Int) < (qn : Int) := by omega
  have hsl' : ∀ W : World, (Instr.sliceAt 31 (.slice pa qn pc) none (some (.int .i64 1024)) none).run Try.prog W = .ok (.slice pa pn pc) W := by
    intro W; rw [hpaw, hpn]; exact hsl W
  rw [← hpaw] at hpa' ⊢
  rw [← hpn] at hp
  have HP : Hid (p.length = pn) := hp
  have HAT : Hid (BytesAt w pa p) := hpa'
  clear hsl hpa hpd hpaw hpn
  have HPF : Hid (p ≠ [] → ∀ (L : Nat) a, pa = some a → a.block < w.heap.size ∨ L ≤ a.block) := fun hne L a ha => by
    obtain ⟨b, o, e1, hc⟩ := HAT.out hne
    rw [e1] at ha
    cases ha
    exact Or.inl (block_lt_of_cell (hc 0 (by cases p with | nil => exact absurd rfl hne | cons _ _ => simp)))
  clear hp
  rw [← hdone]
  have HDN := show Hid (done = _) from hdone
  clear hdone
  go_enter Try.func8, Try.ntmps8
  go_wp2_with (first
    | (go_at_call 11; refine (c_new w).mono ?_; rintro e w1 ⟨rfl, h1⟩; have H1 := show Hid (Live _ _ _ _ _) from h1; clear h1)
    | (go_at_call 23; refine (c_made H1.out).mono ?_; rintro e w2 ⟨rfl, h2⟩; have H2 := show Hid (Live _ _ _ _ _) from h2; clear h2)
    | (go_at_call 30; refine (c_fail1 H2.out n hn done).mono ?_; rintro e w3 ⟨rfl, h3⟩; have H3 := show Hid (Live _ _ _ _ _) from h3; clear h3))
  go_loopw [8] (fun i wr => ∃ j : Nat, j ≤ n ∧ i = .int .i64 j ∧ Hid (Live w wr.heap.size (w.heap.size + 1) (fSt (rep p j) (1 + j) (n - j) done) wr)) (fun i _ => n - (intOf i).toNat)
  case atStart => exact ⟨0, Nat.zero_le _, rfl, H3⟩
  case round =>
    obtain ⟨j, hjn, rfl, HX⟩ := hrel
    by_cases hlt : j < n
    · have C := show Hid _ from c_append1 (l := n - (j + 1)) (by have := HX.out; rwa [show n - j = n - (j + 1) + 1 by omega] at this) (by omega) pa pn pc p HP.out (HAT.out.after HX.out.aft) (fun hne a ha => HPF.out hne _ a ha) (by rw [rep_len, HP.out]; have := Nat.mul_le_mul (show j ≤ 255 by omega) hp1; omega)
      go_wp2_with (go_at_call 24; refine Calls.mono C.out ?_; rintro e w4 ⟨rfl, h4⟩; have H4 := show Hid (Live _ _ _ _ _) from h4; clear h4)
      go_roundw
      case rel => exact ⟨j + 1, by omega, by go_num, by have := H4.out; rw [show 1 + j + 1 = 1 + (j + 1) by omega] at this; exact this⟩
      case measure => simp [intOf]; omega
    · obtain rfl : j = n := by omega
      have HX0 : Hid (Live w wr.heap.size (w.heap.size + 1) (fSt (rep p j) (1 + j) 0 done) wr) := by have := HX.out; rw [Nat.sub_self] at this; exact this
      obtain ⟨st, hst⟩ : ∃ st, 1 + j = st := ⟨_, rfl⟩
      have hst1 : (j : Int) + 1 = (st : Int) := by omega
      have hst2 : st < 1000 := by omega
      rw [hst] at HX0
      have hdone := HDN.out
      subst hdone
      have tokc : True := trivial
      have tokr : True := trivial
      have tokd : True := trivial
      have tokm : True := trivial
      clear HX H3 hst
      go_wp2_with (first
        | (go_at_call 22; have _t := tokm; refine (c_remove1 HX0.out hst2).mono ?_; rintro e w5 ⟨rfl, h5⟩; have H5 := show Hid (Live _ _ _ _ _) from h5; clear h5 tokm)
        | (go_at_call 29; have _t := tokd; refine (c_down H5.out).mono ?_; rintro e w6 ⟨rfl, h6⟩; have h6' := h6.symm; clear h6 tokd; subst h6')
        | (go_at_call 31; refine (c_steps H5.out).mono ?_; rintro e w7 ⟨rfl, h7⟩; have h7' := h7.symm; clear h7; subst h7')
        | (go_at_call 23; have _t := tokc; refine (c_create H5.out hst2).mono ?_; rintro e w8 ⟨rfl, h8⟩; have H8 := show Hid (Live _ _ _ _ _) from h8; clear h8 tokc)
        | (go_at_call 24; refine (c_append H8.out hst2 pa pn pc p HP.out (HAT.out.after H8.out.aft) (fun hne a ha => HPF.out hne _ a ha)).mono ?_; rintro e w9 ⟨rfl, h9⟩; have H9 := show Hid (Live _ _ _ _ _) from h9; clear h9)
        | (go_at_call 27; refine (c_sync H9.out hst2).mono ?_; rintro e w10 ⟨rfl, h10⟩; have H10 := show Hid (Live _ _ _ _ _) from h10; clear h10)
        | (go_at_call 32; refine (c_rename H10.out hst2).mono ?_; rintro e w11 ⟨rfl, h11⟩; have H11 := show Hid (Live _ _ _ _ _) from h11; clear h11)
        | (go_at_call 22; refine (c_remove H11.out hst2).mono ?_; rintro e w12 ⟨rfl, h12⟩; have H12 := show Hid (Live _ _ _ _ _) from h12; clear h12)
        | (go_at_call 33; refine (c_cut H12.out hst2).mono ?_; rintro e w13 ⟨rfl, h13⟩; have H13 := show Hid (Live _ _ _ _ _) from h13; clear h13)
        | (go_at_call 30; refine (c_fail H13.out).mono ?_; rintro e w14 ⟨rfl, h14⟩; have H14 := show Hid (Live _ _ _ _ _) from h14; clear h14)
        | (go_at_call 16; have _t := tokr; refine (c_read H14.out).mono ?_; rintro e w15 ⟨a15, c15, rfl, h15⟩; have H15 := show Hid (Live _ _ _ _ _) from H14.out.after h15; clear h15 tokr)
        | (go_at_call 19; refine (c_start H15.out).mono ?_; rintro e w16 ⟨rfl, h16⟩; have H16 := show Hid (Live _ _ _ _ _) from h16; clear h16)
        | (go_at_call 16; refine (c_read2 H16.out).mono ?_; rintro e w17 ⟨a17, c17, rfl, h17⟩; have H17 := show Hid (Live _ _ _ _ _) from H16.out.after h17; clear h17)
        | (go_at_call 23; refine (c_create2 H17.out hst2).mono ?_; rintro e w18 ⟨rfl, h18⟩; have H18 := show Hid (Live _ _ _ _ _) from h18; clear h18)
        | (go_at_call 29; refine (c_down2 H18.out).mono ?_; rintro e w19 ⟨rfl, h19⟩; have h19' := h19.symm; clear h19; subst h19')
        | (go_at_call 15; refine (awake_any w18).mono ?_; rintro e w20 ⟨rfl, h20⟩; have A20 : Hid (After w w20) := After.trans H18.out.aft h20; clear h20))
      go_ret
      exact ⟨rfl, A20.out⟩
theorem fails_any (n : Nat) (hn : n ≤ 255) (done : Bool) (pa : Option Addr) (pc : Nat) (q : List UInt8) (hpc : q.length ≤ pc) (w : World) (hpa : BytesAt w pa q) :
    Calls Try.prog 8 #[.int .u8 (n : Int), .bool done, .slice pa q.length pc] w fun e w' => e = .returned (.bool true) ∧ Below w.heap.size w w' := by
  by_cases h : 1024 < q.length
  · cases done
    · exact fails_long_false n hn pa pc q _ rfl h hpc w hpa
    · exact fails_long_true n hn pa pc q _ rfl h hpc w hpa
  · cases done
    · exact fails_short_false n hn pa _ pc q rfl (by omega) w hpa
    · exact fails_short_true n hn pa _ pc q rfl (by omega) w hpa
end Go.Proofs.Ytlbodickflljfaa
