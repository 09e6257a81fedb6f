/-
  THE WALKS OF laid AND OF whole.
-/
import Derived.Test.YtjmjianilcdphaaLaid
namespace Go.Proofs.Ytjmjianilcdphaa
open Go.RowKit Leb
theorem take_snocP (ps : List (UInt8 × List UInt8)) (j : Nat) (p : UInt8 × List UInt8) (h : ps[j]? = some p) : ps.take (j + 1) = ps.take j ++ [p] := by
  rw [List.take_add_one, h]; rfl
theorem laid_le (ps : List (UInt8 × List UInt8)) (j : Nat) : (laidB (ps.take j)).length ≤ (laidB ps).length := by
  conv => rhs; rw [← List.take_append_drop j ps]
  rw [laidB_app, List.length_append]
  omega
theorem box_cell' (w : World) (v : Value) (t : TypeId) : (w.alloc (.cells #[v] t)).cell? ((⟨w.heap.size, 0, none⟩ : Addr).add 0) = some v := by rw [Addr.add_mid]; exact (RowIs.new w t [v]).cell rfl
set_option maxRecDepth 100000 in
set_option maxHeartbeats 1600000 in
theorem laid_any (ao : Option Addr) (cap : Nat) (ps : List (UInt8 × List UInt8)) (hn : ps.length ≤ 1048576) (hps : ∀ p ∈ ps, p.2.length ≤ 1048576) (hbig : (laidB ps).length ≤ 16777216) (w : World) (hat : PiecesIn w ao ps) :
    Calls Try.prog 19 #[.slice ao ps.length cap] w fun e w' => ∃ v ve, e = .returned (.tuple #[v, ve, .bool true]) ∧ Own w' w.heap.size v (laidB ps) ∧ OwnN w' w.heap.size ve (endsI ps) ∧ After w w' := by
  have HAT : Hid (PiecesIn w ao ps) := hat
  have HPS : Hid (∀ p ∈ ps, p.2.length ≤ 1048576) := hps
  have HBIG : Hid ((laidB ps).length ≤ 16777216) := hbig
  obtain ⟨n, hn'⟩ : ∃ n, ps.length = n := ⟨_, rfl⟩
  have HN : Hid (ps.length = n) := hn'
  rw [hn'] at hn ⊢
  clear hat hps hbig hn'
  go_enter Try.func19, Try.ntmps19
  go_wp2
  go_loopw [5, 6, 7] (fun v e i wr => ∃ j : Nat, j ≤ n ∧ i = .int .i64 j ∧ Hid (Own wr w.heap.size v (laidB (ps.take j))) ∧ Hid (OwnN wr w.heap.size e (endsI (ps.take j))) ∧ Hid (After w wr)) (fun _ _ i _ => n - (intOf i).toNat)
  case atStart => exact ⟨0, by omega, rfl, Own.nil _ _, OwnN.nil _ _, After.refl _⟩
  case round =>
    obtain ⟨j, hj, rfl, HO, HE, HA⟩ := hrel
    by_cases hlt : j < n
    · have hjl : j < ps.length := (by rw [HN.out]; exact hlt)
      have hne : ps ≠ [] := (by intro h; rw [h] at hjl; simp at hjl)
      obtain ⟨b, off, rfl, hc⟩ := HAT.out hne
      obtain ⟨p, hp⟩ : ∃ p, ps[j]? = some p := ⟨_, List.getElem?_eq_getElem hjl⟩
      have HTK : Hid (ps.take (j + 1) = ps.take j ++ [p]) := take_snocP ps j p hp
      have hpl := HPS.out p (List.mem_of_getElem? hp)
      have hll := Nat.le_trans (laid_le ps (j + 1)) HBIG.out
      obtain ⟨a1, c1, e1, e2, e3⟩ := hc j _ hp
      rw [HTK.out, laidB_snoc, List.length_append] at hll
      obtain ⟨k, D⟩ := p
      simp only at e1 e2 e3 hpl hll
      have HEN : Hid (endsI (ps.take (j + 1)) = endsI (ps.take j) ++ [(((laidB (ps.take j) ++ frameB (mk k) D).length : Nat) : Int)]) := (by unfold Hid; rw [HTK.out, endsI_snoc, laidB_snoc])
      have HLN : Hid (laidB (ps.take (j + 1)) = laidB (ps.take j) ++ frameB (mk k) D) := (by unfold Hid; rw [HTK.out, laidB_snoc])
      have hel : (endsI (ps.take j)).length ≤ 1048576 := (by rw [endsI_len, List.length_take]; omega)
      obtain ⟨T, hT⟩ : ∃ T, laidB (ps.take j) = T := ⟨_, rfl⟩
      obtain ⟨G, hG⟩ : ∃ T, endsI (ps.take j) = T := ⟨_, rfl⟩
      rw [hT] at HEN HLN HO hll
      rw [hG] at HEN HE hel
      have cl : ∀ {W : World} {q : Addr} {v : Value}, After w W → w.cell? q = some v → W.cell? q = some v := fun hW hq => (Below.cell hW (block_lt_of_cell hq)).trans hq
      have E1 := show Hid _ from fun W (hW : After w W) => cl hW e1
      have E2 := show Hid _ from fun W (hW : After w W) => cl hW e2
      obtain ⟨hs1, hs2⟩ := sealB_eq (mk k) D (mk_ne k) hpl
      have C9 : Hid (∀ W, After w W → Calls Try.prog 9 #[.int .u8 ((mk k).toNat : Int), .slice a1 D.length c1] W fun e w' => ∃ x, e = .returned x ∧ (∃ v, x = .tuple #[v, .int .i64 0] ∧ Own w' W.heap.size v (frameB (mk k) D)) ∧ After W w') := fun W hW => by
        refine (seal_any (mk k) a1 c1 D (by omega) W (e3.after hW)).mono ?_
        rintro e w' ⟨v, rfl, ho, hb⟩
        rw [hs1] at ho
        rw [hs2]
        exact ⟨_, rfl, ⟨v, rfl, ho⟩, hb⟩
      obtain ⟨R, hR⟩ : ∃ R, frameB (mk k) D = R := ⟨_, rfl⟩
      obtain ⟨L, hL⟩ : ∃ R, D.length = R := ⟨_, rfl⟩
      rw [hR] at HEN HLN C9 hll
      rw [hL] at E2 C9
      have HTL : Hid (T.length + R.length ≤ 16777216) := hll
      have HGL : Hid (G.length ≤ 1048576) := hel
      clear cl e1 e2 e3 hc hp hne hjl HTK hs1 hs2 hT hG hR hL hll hel hpl
      go_wp2
      refine wp_region_noPanic ?_
      refine wp_region_held_drew (S := After w) (by kernel_rfl) (After.drew HA.out) ?_
      intro hS
      refine tk 0 17 (.slice (some ⟨b, off, none⟩) n cap) (fuel := 16) rfl (by kernel_rfl) (by kernel_rfl) (by kernel_rfl) (by kernel_rfl) noPanic_false (by kernel_rfl) (fun _ _ => by kernel_rfl) hS ?_
      refine tk 1 18 (.int .i64 (j : Int)) (fuel := 15) rfl (by kernel_rfl) (by kernel_rfl) (by kernel_rfl) (by kernel_rfl) noPanic_false (by kernel_rfl) (fun _ _ => by kernel_rfl) hS ?_
      refine tk 2 19 (.pointer (some ⟨b, off + j * 2, none⟩)) (fuel := 14) rfl (by kernel_rfl) (by kernel_rfl) (by kernel_rfl) (by kernel_rfl) noPanic_false (by kernel_rfl) (fun _ _ => x_indexP (x := .tmp 17) (y := .tmp 18) (b := b) (off := off) (n := n) (c := cap) (j := j) (by kernel_rfl) (by kernel_rfl) (by kernel_rfl) hlt) hS ?_
      refine tk 3 20 (.pointer (some ⟨b, off + j * 2, none⟩)) (fuel := 13) rfl (by kernel_rfl) (by kernel_rfl) (by kernel_rfl) (by kernel_rfl) noPanic_false (by kernel_rfl) (fun _ _ => x_fieldP0 (x := .tmp 19) (g := b) (p := off + j * 2) (by kernel_rfl) (by kernel_rfl)) hS ?_
      refine tk 4 21 (.int .u8 (k.toNat : Int)) (fuel := 12) rfl (by kernel_rfl) (by kernel_rfl) (by kernel_rfl) (by kernel_rfl) noPanic_false (by kernel_rfl) (fun W hW => x_load5 (x := .tmp 20) (g := b) (p := off + j * 2) (by kernel_rfl) (by kernel_rfl) (E1.out W hW)) hS ?_
      refine tk 5 22 (.int .u8 ((mk k).toNat : Int)) (fuel := 11) rfl (by kernel_rfl) (by kernel_rfl) (by kernel_rfl) (by kernel_rfl) noPanic_false (by kernel_rfl) (fun _ _ => x_max (x := .tmp 21) (k := k) (by kernel_rfl) (by kernel_rfl)) hS ?_
      refine tk 6 23 (.slice (some ⟨b, off, none⟩) n cap) (fuel := 10) rfl (by kernel_rfl) (by kernel_rfl) (by kernel_rfl) (by kernel_rfl) noPanic_false (by kernel_rfl) (fun _ _ => by kernel_rfl) hS ?_
      refine tk 7 24 (.int .i64 (j : Int)) (fuel := 9) rfl (by kernel_rfl) (by kernel_rfl) (by kernel_rfl) (by kernel_rfl) noPanic_false (by kernel_rfl) (fun _ _ => by kernel_rfl) hS ?_
      refine tk 8 25 (.pointer (some ⟨b, off + j * 2, none⟩)) (fuel := 8) rfl (by kernel_rfl) (by kernel_rfl) (by kernel_rfl) (by kernel_rfl) noPanic_false (by kernel_rfl) (fun _ _ => x_indexP (x := .tmp 23) (y := .tmp 24) (b := b) (off := off) (n := n) (c := cap) (j := j) (by kernel_rfl) (by kernel_rfl) (by kernel_rfl) hlt) hS ?_
      refine tk 9 26 (.pointer (some ⟨b, off + j * 2 + 1, none⟩)) (fuel := 7) rfl (by kernel_rfl) (by kernel_rfl) (by kernel_rfl) (by kernel_rfl) noPanic_false (by kernel_rfl) (fun _ _ => x_fieldP1 (x := .tmp 25) (g := b) (p := off + j * 2) (by kernel_rfl) (by kernel_rfl)) hS ?_
      refine tk 10 27 (.slice a1 L c1) (fuel := 6) rfl (by kernel_rfl) (by kernel_rfl) (by kernel_rfl) (by kernel_rfl) noPanic_false (by kernel_rfl) (fun W hW => x_load22 (x := .tmp 26) (g := b) (p := off + j * 2 + 1) (by kernel_rfl) (by kernel_rfl) (E2.out W hW)) hS ?_
      refine tkCallK 11 28 9 #[.int .u8 ((mk k).toNat : Int), .slice a1 L c1] (fun x w' => ∃ v, x = .tuple #[v, .int .i64 0] ∧ Own w' wr.drew.heap.size v R) (fuel := 5) rfl (by kernel_rfl) (by kernel_rfl) (by kernel_rfl) (fun _ => by kernel_rfl) hS (C9.out wr.drew hS) ?_
      intro v2 w2 r2 s2 t2
      obtain ⟨v3, rfl, ho3⟩ := r2
      obtain ⟨a3, c3, hv3, hat3, _, _⟩ := Own.at ho3
      obtain ⟨RL, hRL⟩ : ∃ n, R.length = n := ⟨_, rfl⟩
      rw [hRL] at hv3
      subst hv3
      refine tk 12 16 (.tuple #[.slice a3 RL c3, .int .i64 0]) (fuel := 4) rfl (by kernel_rfl) (by kernel_rfl) (by kernel_rfl) (by kernel_rfl) noPanic_false (by kernel_rfl) (fun _ _ => by kernel_rfl) t2 ?_
      refine tk 13 29 (.slice a3 RL c3) (fuel := 3) rfl (by kernel_rfl) (by kernel_rfl) (by kernel_rfl) (by kernel_rfl) noPanic_false (by kernel_rfl) (fun _ _ => by kernel_rfl) t2 ?_
      refine tk 14 30 (.int .i64 0) (fuel := 2) rfl (by kernel_rfl) (by kernel_rfl) (by kernel_rfl) (by kernel_rfl) noPanic_false (by kernel_rfl) (fun _ _ => by kernel_rfl) t2 ?_
      refine tk 15 8 (.slice a3 RL c3) (fuel := 1) rfl (by kernel_rfl) (by kernel_rfl) (by kernel_rfl) (by kernel_rfl) noPanic_false (by kernel_rfl) (fun _ _ => by kernel_rfl) t2 ?_
      refine tk 16 9 (.int .i64 0) (fuel := 0) rfl (by kernel_rfl) (by kernel_rfl) (by kernel_rfl) (by kernel_rfl) noPanic_false (by kernel_rfl) (fun _ _ => by kernel_rfl) t2 ?_
      refine wpAnyH_done (by kernel_rfl) (NoPanic.normal ?_) _
      go_simp
      have HB2 : Hid (After wr w2) := After.trans (After.drew (After.refl wr)) s2
      have HA2 : Hid (After w w2) := t2
      have HT3 : Hid (BytesAt w2 a3 R) := hat3
      have HRL : Hid (R.length = RL) := hRL
      have HO2 : Hid (Own w2 w.heap.size _ T) := Own.below HO.out HB2.out (Nat.le_refl _)
      have HE2 : Hid (OwnN w2 w.heap.size _ G) := HE.out.below HB2.out
      have hbd : T.length + RL ≤ 16777216 := (by have := HTL.out; omega)
      obtain ⟨TL, hTL⟩ : ∃ n, T.length = n := ⟨_, rfl⟩
      have HTLL : Hid (T.length = TL) := hTL
      rw [hTL] at hbd
      clear hS s2 t2 ho3 hat3 hRL hTL HO HE
      go_wp2_with (first
        | (at_builtin; have _u := HE5.out; clear _u; refine wpList_append_count rfl _ _ rfl w.heap.size _ G rfl (HE5.out.below (after_alloc (After.refl w4) _)) ⟨w4.heap.size, 0, none⟩ 1 ((TL : Int) + RL) rfl (box_cell' _ _ _) (by have := HGL.out; omega) (by have := HA4.out.size; simp; omega) ?_; intro v6 w6 ho6 hg6; have HE6 : Hid (OwnN w6 w.heap.size v6 (G ++ [(TL : Int) + RL])) := ho6; have HO6 : Hid (Own w6 w.heap.size _ (T ++ R)) := World.ownsRow.kept (Own.below HO4.out (after_alloc (After.refl w4) _) (Nat.le_refl _)) hg6 (rows_apart HO4.out HE5.out (by decide)); have HA6 : Hid (After w w6) := after_grown (after_alloc HA4.out _) hg6 (Nat.le_refl _) (fun k hk => (World.ownsRow.lt HE5.out k hk).1); clear ho6 hg6)
        | (at_builtin; refine wpList_append_any rfl _ _ rfl w.heap.size _ T rfl HO2.out a3 c3 R RL HRL.out rfl HT3.out (by have := HTL.out; omega) HA2.out.size ?_; intro v4 w4 ho4 hg4; have HA4 : Hid (After w w4) := after_grown HA2.out hg4 (Nat.le_refl _) (fun k hk => (World.ownsRow.lt HO2.out k hk).1); have HE5 : Hid (OwnN w4 w.heap.size _ G) := World.ownsRow.kept HE2.out hg4 (rows_apart HE2.out HO2.out (by decide)); obtain ⟨a4, c4, hv4, hat4, _, _⟩ := Own.at ho4; rw [List.length_append, HTLL.out, HRL.out] at hv4; subst hv4; have HO4 : Hid (Own w4 w.heap.size (.slice a4 (TL + RL) c4) (T ++ R)) := ho4; clear ho4 hg4 hat4))
      go_roundw
      case rel => exact ⟨j + 1, by omega, by go_num, by unfold Hid; rw [HLN.out]; exact HO6.out, by unfold Hid; rw [HEN.out, List.length_append, HTLL.out, HRL.out]; exact HE6.out, HA6.out⟩
      case measure => simp [intOf]; omega
    · obtain rfl : j = n := by omega
      go_wp2
      go_ret3
      have h1 := HO.out
      have h2 := HE.out
      rw [List.take_of_length_le (by rw [HN.out]; omega)] at h1 h2
      exact ⟨_, _, rfl, h1, h2, HA.out⟩
end Go.Proofs.Ytjmjianilcdphaa