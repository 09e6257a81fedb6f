/-
  THE WALK OF stemmalaw06.HashesGets.
-/
import Derived.Test.YtedghldjpkabmaaRefGet
namespace Go.Proofs.Ytedghldjpkabmaa
open Go.RowKit Go.Sort Leb
theorem ghL_32 (bs : List UInt8) (m : Int) : All32 (ghL bs m) := by
  unfold ghL
  split
  · rename_i h
    refine gL_32 ?_
    have hk := guK_le bs
    unfold ghE at h
    split at h
    · split at h
      · cases h
      · split at h
        · cases h
        · rename_i h3
          have : guV bs ≤ (bs.length - guK bs) / 32 := Nat.le_of_not_lt h3
          omega
    · rename_i h0; exact absurd h h0
  · exact All32.nil
theorem gh_lt (bs : List UInt8) (m : Int) (hb : bs.length ≤ 140737488355328) : (ghL bs m).length ≤ 140737488355328 := by
  unfold ghL
  split
  · rename_i h
    rw [gL_len]
    unfold ghE at h
    split at h
    · split at h
      · cases h
      · split at h
        · cases h
        · rename_i h3
          have : guV bs ≤ (bs.length - guK bs) / 32 := Nat.le_of_not_lt h3
          omega
    · rename_i h0; exact absurd h h0
  · simp
set_option maxRecDepth 100000 in
set_option maxHeartbeats 3200000 in
theorem gets_any (ao : Option Addr) (cap : Nat) (bs : List UInt8) (m : Int) (hcap : bs.length ≤ cap) (hbig : bs.length ≤ 140737488355328) (hm : m ≤ 9223372036854775807) (hm2 : -9223372036854775808 ≤ m) (w : World) (hat : BytesAt w ao bs) :
    Calls Try.prog 6 #[.slice ao bs.length cap, .int .i64 m] w fun e w' => e = .returned (.bool true) ∧ After w w' := by
  obtain ⟨L, hL⟩ : ∃ L, bs.length = L := ⟨_, rfl⟩
  have HAT : Hid (BytesAt w ao bs ∧ bs.length = L ∧ L ≤ cap ∧ L ≤ 140737488355328 ∧ m ≤ 9223372036854775807 ∧ -9223372036854775808 ≤ m) := ⟨hat, hL, by omega, by omega, hm, hm2⟩
  have hfr := Own.fresh w
  have HFR : Hid (Own (w.alloc (.cells #[] 5)) w.heap.size (.slice (some ⟨w.heap.size, 0, none⟩) 0 0) []) := hfr
  have HA0 : Hid (After w (w.alloc (.cells #[] 5))) := after_alloc (After.refl w) _
  have hC1 : ∀ (ai : Option Addr) (ci : Nat) (W : World), L ≤ ci → BytesAt W ai bs → Calls Try.prog 30 #[.slice ai L ci, .int .i64 m] W fun e w' => ∃ v, e = .returned (.tuple #[v, .int .i64 (ghK bs m : Int), .int .i64 (ghE bs m : Int)]) ∧ OwnH w' W.heap.size v (ghL bs m) ∧ After W w' := fun ai ci W h1 h2 => by
    have := get_any ai ci bs m (by omega) hbig hm hm2 W h2; rw [hL] at this; exact this
  have hC2 : ∀ (ai : Option Addr) (ci : Nat) (W : World), L ≤ ci → BytesAt W ai bs → Calls Try.prog 31 #[.slice ai L ci, .int .i64 m] W fun e w' => ∃ v, e = .returned (.tuple #[v, .int .i64 (ghK bs m : Int), .int .i64 (ghE bs m : Int)]) ∧ OwnH w' W.heap.size v (ghL bs m) ∧ After W w' := fun ai ci W h1 h2 => by
    have := rget_any ai ci bs m (by omega) hbig hm hm2 W h2; rw [hL] at this; exact this
  have HG : Hid (All32 (ghL bs m) ∧ (ghL bs m).length ≤ 140737488355328) := ⟨ghL_32 bs m, gh_lt bs m hbig⟩
  generalize ghK bs m = K at hC1 hC2
  generalize ghE bs m = E at hC1 hC2
  generalize ghL bs m = G at hC1 hC2 HG
  have HC1 := show Hid _ from hC1
  have HC2 := show Hid _ from hC2
  obtain ⟨n, hn⟩ : ∃ n, G.length = n := ⟨_, rfl⟩
  have HN : Hid (G.length = n) := hn
  have hnb : n ≤ 140737488355328 := by rw [← hn]; exact HG.out.2
  have hKK : ((K : Int) == (K : Int)) = true := by simp
  have hEE : ((E : Int) == (E : Int)) = true := by simp
  rw [hL]
  clear hat hL hcap hbig hm hm2 hfr hC1 hC2 hn
  go_enter Try.func6, Try.ntmps6
  go_wp2_with (first
    | (at_builtin; refine wpList_append_any rfl _ _ rfl w.heap.size (.slice (some ⟨w.heap.size, 0, none⟩) 0 0) [] rfl HFR.out ao cap bs L HAT.out.2.1 rfl (HAT.out.1.after HA0.out) (by rw [HAT.out.2.1]; have := HAT.out.2.2.2.1; simp; omega) (by simp) ?_
       intro v1 w1 ho1 hg1
       rw [List.nil_append] at ho1
       have HA1 := show Hid (After w w1) from after_grown HA0.out hg1 (Nat.le_refl _) (fun j hj => by cases hj; exact Nat.le_refl _)
       obtain ⟨ai, ci, rfl, hai, hci⟩ := Own.sl ho1 L HAT.out.2.1
       have HAI := show Hid (BytesAt w1 ai bs ∧ L ≤ ci) from ⟨hai, hci⟩
       clear ho1 hg1 hai hci)
    | (go_at_call 30; refine Calls.mono (HC1.out ai ci w1 HAI.out.2 HAI.out.1) ?_
       rintro e w2 ⟨v2, rfl, ho2, ha2⟩
       obtain ⟨ga, gc, rfl, hga, _⟩ := ho2.at
       rw [HN.out]
       have HA2 := show Hid (After w1 w2) from ha2
       have HGA := show Hid (HsAt w2 ga G) from hga
       clear ho2 ha2 hga)
    | (go_at_call 31; refine Calls.mono (HC2.out ao cap w2 HAT.out.2.2.1 (HAT.out.1.after (After.trans HA1.out HA2.out))) ?_
       rintro e w3 ⟨v3, rfl, ho3, ha3⟩
       obtain ⟨ha, hc, rfl, hha, _⟩ := ho3.at
       rw [HN.out]
       have HA3 := show Hid (After w2 w3) from ha3
       have HHA := show Hid (HsAt w3 ha G) from hha
       clear ho3 ha3 hha)
    | (go_at_call 13; refine Calls.mono (same13 ga ha gc hc G G HG.out.1 HG.out.1 n n HN.out HN.out (by omega) w3 (HGA.out.after HA3.out) HHA.out) ?_
       rw [decide_eq_true rfl]
       rintro e w4 ⟨rfl, ha4⟩
       have HA4 := show Hid (After w3 w4) from ha4
       have hcv1 : (convert 32 9 (.slice ai L ci)).run Try.prog w4 = .ok (.string (strOf bs)) w4 := by
         have := conv_at ci (((HAI.out.1.after HA2.out).after HA3.out).after ha4); rw [HAT.out.2.1] at this; exact this
       have hcv2 : (convert 32 9 (.slice ao L cap)).run Try.prog w4 = .ok (.string (strOf bs)) w4 := by
         have := conv_at cap ((((HAT.out.1.after HA1.out).after HA2.out).after HA3.out).after ha4); rw [HAT.out.2.1] at this; exact this
       clear ha4)
    | (go_at_call 11; refine Calls.mono (awake_any _) ?_; rintro e w5 ⟨rfl, ha5⟩; have HA5 := show Hid (After w4 w5) from ha5; clear ha5))
  go_ret
  exact ⟨rfl, After.trans (After.trans (After.trans (After.trans HA1.out HA2.out) HA3.out) HA4.out) HA5.out⟩
end Go.Proofs.Ytedghldjpkabmaa
