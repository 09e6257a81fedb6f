/-
  awake (8).
-/
import Derived.Test.YtcmcapcagblafaaXK
namespace Go.Proofs.Ytcmcapcagblafaa
open Go.RowKit Go.Maps Dsk Leb
attribute [local go_sem] Oper.semAt_some
def awX : Rx := ⟨[97], none, 0, [], none, 0, []⟩
theorem awX_at (w : World) : RxAt w awX := ⟨BsAt.nil _ _, SlAt.nil _ _ _, fun x h => (by cases h), by decide, fun y h => (by cases h), by decide, by decide, fun _ => rfl, fun _ => rfl⟩
theorem aw_ok : MOk (rsof [awX]) := by
  refine ⟨by decide, fun r hr => ?_, fun i p q hp hq => ?_⟩
  · rw [show rsof [awX] = [rof awX] from rfl, List.mem_singleton] at hr
    subst hr
    exact ⟨by decide, by decide, by decide, ⟨List.Pairwise.nil, by decide, fun p h => (by cases h)⟩⟩
  · have h1 := (List.getElem?_eq_some_iff.1 hq).1
    simp [rsof] at h1
theorem aw_bytes : ixB (rsof [awX]) = [1, 1, 1, 97, 0, 0] := by
  have h0 : uintB 0 = [0] := by rw [uintB]; rfl
  have h1 : uintB 1 = [1] := by rw [uintB]; rfl
  simp [ixB, rsof, rof, rcB, brsB, hsB, textB, bof, awX, h0, h1]
theorem aw_putE : putE (rsof [awX]) = 0 := putE_ok aw_ok (by rw [aw_bytes]; decide)
theorem aw_gOk : gOk [1, 1, 1, 97, 0, 0] (rsof [awX]) := ⟨by decide, aw_bytes.symm, aw_ok, fun r hr => by
  rw [show rsof [awX] = [rof awX] from rfl, List.mem_singleton] at hr
  subst hr
  exact (awX_at default).r32⟩
set_option maxRecDepth 100000 in
set_option maxHeartbeats 12800000 in
theorem awake8 (w : World) : Calls Try.prog 8 #[] w fun e w' => e = .returned (.bool true) ∧ After w w' := by
  obtain ⟨g, hg⟩ : ∃ g, w.heap.size = g := ⟨_, rfl⟩
  obtain ⟨W0, hW0⟩ : ∃ W0, w.alloc (.cells (rxc awX).toArray 41) = W0 := ⟨_, rfl⟩
  have HA : Hid (After w W0 ∧ RsAt W0 (some ⟨g, 0, none⟩) [awX]) := by
    rw [← hW0, ← hg]
    exact ⟨after_alloc (After.refl w) _, rx_box, fun x hx => by rw [List.mem_singleton.1 hx]; exact awX_at _⟩
  have HP : Hid (Calls Try.prog 10 #[.slice (some ⟨g, 0, none⟩) 1 1] W0 fun e w' => ∃ a c, e = .returned (.tuple #[.slice a 6 c, .int .i64 0]) ∧ BytesAt w' a [1, 1, 1, 97, 0, 0] ∧ 6 ≤ c ∧ After W0 w') := (put10 (X := [awX]) (n := 1) (ca := 1) rfl (by omega) HA.out.2).mono (fun e w' h => by
    rcases h.ans with ⟨_, a, c, k, he, h1, h2, h3⟩ | ⟨h1, _⟩
    · rw [aw_bytes] at h1 h2
      have : k = 6 := by rw [← h1]; rfl
      subst this
      exact ⟨a, c, he, h2, h3, h.aft⟩
    · exact absurd aw_putE h1)
  have HG : Hid (∀ (W : World) (a : Option Addr) (c : Nat), BytesAt W a [1, 1, 1, 97, 0, 0] → 6 ≤ c → Calls Try.prog 14 #[.slice a 6 c] W fun e w' => ∃ b o c', e = .returned (.tuple #[.slice (some ⟨b, o, none⟩) 1 c', .int .i64 0]) ∧ w'.cell? ⟨b, o, none⟩ = some (.string ⟨#[97]⟩) ∧ After W w') := fun W a c hb hc => (get14 (n := 6) (cap := c) rfl hc (by omega) hb).mono (fun e w' h => by
    rcases h.ans with ⟨a2, c2, k2, X, h1, h2, h3, _, h5⟩ | ⟨h1, _⟩
    · have hX := gOk_inj h1 aw_gOk
      have hk : k2 = 1 := by rw [← h3, ← rsof_len X, hX]; rfl
      subst hk
      obtain ⟨x, rfl⟩ : ∃ x, X = [x] := by
        match X, h3 with
        | [x], _ => exact ⟨x, rfl⟩
      have hnm : x.nm = [97] := by
        have h9 : [rof x] = [rof awX] := hX
        injection h9 with h9 _
        exact congrArg Prod.fst h9
      obtain ⟨a3, c3, e3, hs⟩ := h5.at
      injection e3 with e4 _ _
      subst e4
      obtain ⟨b, o, rfl, hr⟩ := hs.sl.at (i := 0) (x := rxc x) rfl
      have hc0 := hr 0 (.string (strOf x.nm)) rfl
      rw [hnm] at hc0
      exact ⟨b, o, c2, h2, hc0, h.aft⟩
    · exact absurd aw_gOk (h1 _))
  have HAR : Hid ((rxc awX).toArray = #[.string ⟨#[97]⟩, .slice none 0 0, .slice none 0 0]) := rfl
  have HW0 : Hid (w.alloc (.cells (rxc awX).toArray 41) = W0) := hW0
  clear hW0
  go_enter Try.func8, Try.ntmps8
  go_wp2_with (first
    | (refine wpList_of_run rfl (x_bs22r (x := .tmp 6) (y := awX) rfl rfl) ?_; rw [HW0.out]; rw [hg])
    | (go_at_call 10; refine Calls.mono HP.out ?_; rintro e w1 ⟨a, c, rfl, hb, hc, ha⟩; have H1 : Hid (BytesAt w1 a [1, 1, 1, 97, 0, 0] ∧ 6 ≤ c ∧ After w w1) := ⟨hb, hc, HA.out.1.trans ha⟩; clear hb hc ha)
    | (go_at_call 14; refine Calls.mono (HG.out _ _ _ H1.out.1 H1.out.2.1) ?_; rintro e w2 ⟨b, o, c2, rfl, hcell, ha⟩; have H2 : Hid (BytesAt w2 a [1, 1, 1, 97, 0, 0] ∧ After w w2) := ⟨H1.out.1.after ha, H1.out.2.2.trans ha⟩; clear ha)
    | (refine wpList_of_run rfl (x_conv (x := .tmp 16) (s := ⟨#[1, 1, 1, 97, 0, 0]⟩) rfl rfl (conv_at (bs := [1, 1, 1, 97, 0, 0]) c H2.out.1)) ?_))
  refine bodyPost_ret (v := .bool true) (by simp [results, Try.results8, go_sem]) rfl ⟨rfl, H2.out.2⟩
end Go.Proofs.Ytcmcapcagblafaa
