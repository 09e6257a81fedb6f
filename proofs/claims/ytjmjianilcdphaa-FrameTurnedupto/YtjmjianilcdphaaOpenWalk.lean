/-
  THE WALK OF frame.Open.
-/
import Derived.Test.YtjmjianilcdphaaReadOk
namespace Go.Proofs.Ytjmjianilcdphaa
open Go.RowKit Leb
/-- What Open tells, of either program. -/
def OPost (w : World) (bs : List UInt8) (x : Ending) (w' : World) : Prop :=
  ∃ v, x = .returned (.tuple #[.agg #[.int .u8 ((opKind bs).toNat : Int), v], .int .i64 (opUsed bs : Int), .int .i64 (opE bs : Int)]) ∧ Own w' w.heap.size v (opBody bs) ∧ After w w'
theorem OPost.bad {w w' : World} {bs : List UInt8} {n : Nat} (h : opE bs = n) (h0 : ¬ n = 0) (hb : After w w') : OPost w bs (.returned (.tuple #[.agg #[.int .u8 0, .slice none 0 0], .int .i64 0, .int .i64 (n : Int)])) w' := by
  subst h
  have h1 : opKind bs = 0 := by unfold opKind; rw [if_neg h0]
  have h2 : opUsed bs = 0 := by unfold opUsed; rw [if_neg h0]
  have h3 : opBody bs = [] := by unfold opBody; rw [if_neg h0]
  exact ⟨.slice none 0 0, by rw [h1, h2]; rfl, by rw [h3]; exact Own.nil _ _, hb⟩
/-- Reading gives up. -/
theorem read_bad (ao : Option Addr) (cap : Nat) (bs : List UInt8) (hcap : bs.length ≤ cap) (hbig : bs.length ≤ 140737488355328) (w : World) (hat : BytesAt w ao bs) (h : opE bs ≠ 0) : Calls Try.prog 27 #[.slice ao bs.length cap] w (RBad w (opE bs : Int)) := by
  by_cases hne : bs = []
  · have e : opE bs = 22 := by unfold opE; rw [if_pos hne]
    rw [e]
    subst hne
    exact read_none ao cap w
  · obtain ⟨b, o, rfl, hc⟩ := hat hne
    have hp : 0 < bs.length := List.length_pos_iff.2 hne
    by_cases hz : bs.getD 0 0 = 0
    · have e : opE bs = 4 := by unfold opE; rw [if_neg hne, if_pos hz]
      rw [e]
      exact read_zero b o cap bs _ rfl hp w hat hz
    · by_cases hE : guE (bs.drop 1) = 0
      · by_cases hL : 1048576 < opV bs
        · have e : opE bs = 5 := by unfold opE; rw [if_neg hne, if_neg hz, if_neg (by simpa using hE), if_pos hL]
          rw [e]
          exact read_long b o cap bs _ rfl hp hcap w hat hz hE _ rfl hL
        · by_cases hC : bs.length < opEnd bs + 4
          · have e : opE bs = 3 := by unfold opE; rw [if_neg hne, if_neg hz, if_neg (by simpa using hE), if_neg hL, if_pos hC]
            rw [e]
            exact read_cut b o cap bs _ rfl hp hcap hbig w hat hz hE _ rfl (by unfold opV at hL; omega) _ rfl (by unfold opEnd opK opV at hC; omega)
          · by_cases hS : le4 (crc (bs.take (opEnd bs))) = (bs.drop (opEnd bs)).take 4
            · exact absurd (by unfold opE; rw [if_neg hne, if_neg hz, if_neg (by simpa using hE), if_neg hL, if_neg hC, if_neg (by simpa using hS)]) h
            · have e : opE bs = 6 := by unfold opE; rw [if_neg hne, if_neg hz, if_neg (by simpa using hE), if_neg hL, if_neg hC, if_pos hS]
              rw [e]
              exact read_sum b o cap bs _ rfl hp hcap hbig w hat _ _ _ ⟨hne, rfl, hz, hE, rfl, rfl, by unfold opV at hL; omega, by unfold opEnd opK opV at hC; omega, hS⟩
      · have e : opE bs = guE (bs.drop 1) := by unfold opE; rw [if_neg hne, if_neg hz, if_pos hE]
        rw [e]
        exact read_gu b o cap bs _ rfl hp hcap w hat hz _ rfl hE
theorem after_set {w w1 : World} (h : After w w1) (p : Addr) (hp : w.heap.size ≤ p.block) (v : Value) : After w (w1.setCell p v) := Below.setCell h hp v
theorem row_two (w : World) (o : Obj) {w1 : World} (hb : After ((w.alloc o).alloc (.cells #[.int .i64 0] 23)) w1) : RowIs w1 (w.heap.size + 1) 23 [.int .i64 0] := by
  have h := RowIs.new (w.alloc o) 23 [.int .i64 0]
  have e : (w.alloc o).heap.size = w.heap.size + 1 := by simp
  rw [e] at h
  exact h.below hb (by simp)
set_option maxRecDepth 100000 in
set_option maxHeartbeats 800000 in
theorem open_bad (ao : Option Addr) (cap : Nat) (bs : List UInt8) (hcap : bs.length ≤ cap) (hbig : bs.length ≤ 140737488355328) (w : World) (hat : BytesAt w ao bs) (h : opE bs ≠ 0) : Calls Try.prog 14 #[.slice ao bs.length cap] w (OPost w bs) := by
  have hmf : ∀ (fn : Fn) (first cap : Array Value) (w : World), (Instr.makeFunc fn first cap).run Try.prog w = .ok (.func fn first cap) w := fun _ _ _ _ => rfl
  have C27 := show Hid _ from fun W hW => read_bad ao cap bs hcap hbig W (hat.after hW) h
  obtain ⟨E, hE⟩ : ∃ E, opE bs = E := ⟨_, rfl⟩
  rw [hE] at C27 h
  have HE : Hid (opE bs = E) := hE
  clear hat hE
  go_enter_defers Try.func14, Try.ntmps14
  go_wp2_with (go_at_call 27; refine (C27.out _ (after_alloc (after_alloc (After.refl w) _) _)).mono ?_; rintro e w1 ⟨rfl, hb1⟩)
  have hRf : RowIs w1 w.heap.size 33 [.int .u8 0, .slice none 0 0] := ((RowIs.new w 33 [.int .u8 0, .slice none 0 0]).alloc (.cells #[.int .i64 0] 23)).below hb1 (by simp; omega)
  have hRe : RowIs w1 (w.heap.size + 1) 23 [.int .i64 0] := row_two w _ hb1
  refine leaves_cons (f := 25) (args := #[.pointer (some ⟨w.heap.size + 1, 0, none⟩)]) (by simp) (by simp [go_sem]) ?_
  refine (catch_gv (E : Int) (w.heap.size + 1) w1 _ hRe).mono ?_
  rintro e u' w'' ⟨rfl, rfl, w2, hb2, rfl⟩
  have hR2 : RowIs (w2.setCell ⟨w.heap.size + 1, 0, none⟩ (.int .i64 (E : Int))) w.heap.size 33 [.int .u8 0, .slice none 0 0] := (hRf.below hb2 hRf.lt).other _ _ (by simp)
  have hR3 : RowIs (w2.setCell ⟨w.heap.size + 1, 0, none⟩ (.int .i64 (E : Int))) (w.heap.size + 1) 23 [.int .i64 (E : Int)] := (hRe.below hb2 hRe.lt).set 0 _
  have h0 := hR2.cell (j := 0) rfl
  have h1 := hR2.cell (j := 1) rfl
  have h2 := hR3.cell (j := 0) rfl
  have hB : After w (w2.setCell ⟨w.heap.size + 1, 0, none⟩ (.int .i64 (E : Int))) := Below.setCell (After.trans (After.trans (after_alloc (after_alloc (After.refl w) _) _) hb1) hb2) (by simp) _
  generalize w2.setCell ⟨w.heap.size + 1, 0, none⟩ (.int .i64 (E : Int)) = w3 at h0 h1 h2 hB ⊢
  have hpost := OPost.bad HE.out h hB
  simp [Leaves, settle, results, Try.results14, go_sem, h0, h1, h2]
  exact hpost
set_option maxRecDepth 100000 in
set_option maxHeartbeats 800000 in
theorem open_ok (b o cap : Nat) (bs : List UInt8) (hcap : bs.length ≤ cap) (hbig : bs.length ≤ 140737488355328) (w : World) (hat : BytesAt w (some ⟨b, o, none⟩) bs) (h : opE bs = 0) (k : UInt8) (KK V : Nat) (H : OpOk bs k KK V) : Calls Try.prog 14 #[.slice (some ⟨b, o, none⟩) bs.length cap] w (OPost w bs) := by
  have hmf : ∀ (fn : Fn) (first cap : Array Value) (w : World), (Instr.makeFunc fn first cap).run Try.prog w = .ok (.func fn first cap) w := fun _ _ _ _ => rfl
  have C27 := show Hid _ from fun W hW => read_ok b o cap bs _ rfl (List.length_pos_iff.2 H.ne) hcap hbig W (hat.after hW) k KK V H
  have HP : Hid (∀ w' v, Own w' w.heap.size v ((bs.drop (1 + KK)).take V) → After w w' → OPost w bs (.returned (.tuple #[.agg #[.int .u8 (k.toNat : Int), v], .int .i64 ((1 + KK + V + 4 : Nat) : Int), .int .i64 0])) w') := fun w' v ho hb => by
    have e1 : opKind bs = k := by unfold opKind; rw [if_pos h]; exact H.kind
    have e2 : opUsed bs = 1 + KK + V + 4 := by unfold opUsed opEnd opK opV; rw [if_pos h, H.k, H.v]
    have e3 : opBody bs = (bs.drop (1 + KK)).take V := by unfold opBody opK opV; rw [if_pos h, H.k, H.v]
    exact ⟨v, by rw [e1, e2, h]; rfl, by rw [e3]; exact ho, hb⟩
  obtain ⟨U, hU⟩ : ∃ U, 1 + KK + V + 4 = U := ⟨_, rfl⟩
  rw [hU] at C27 HP
  obtain ⟨D, hD⟩ : ∃ D, (bs.drop (1 + KK)).take V = D := ⟨_, rfl⟩
  rw [hD] at C27 HP
  clear hat hU hD H h
  go_enter_defers Try.func14, Try.ntmps14
  go_wp2_with (go_at_call 27; refine (C27.out _ (after_alloc (after_alloc (After.refl w) _) _)).mono ?_; rintro e w1 ⟨v1, rfl, ho1, hb1⟩; obtain ⟨a1, c1, hv1, _, _, _⟩ := Own.at ho1; obtain ⟨L, hL⟩ : ∃ L, D.length = L := ⟨_, rfl⟩; rw [hL] at hv1; subst hv1; have HB1 : Hid (After ((w.alloc (.cells #[.int .u8 0, .slice none 0 0] 33)).alloc (.cells #[.int .i64 0] 23)) w1) := hb1; have HO1 : Hid (Own w1 ((w.alloc (.cells #[.int .u8 0, .slice none 0 0] 33)).alloc (.cells #[.int .i64 0] 23)).heap.size (.slice a1 L c1) D) := ho1; have hRf : RowIs w1 w.heap.size 33 [.int .u8 0, .slice none 0 0] := ((RowIs.new w 33 [.int .u8 0, .slice none 0 0]).alloc (.cells #[.int .i64 0] 23)).below hb1 (by simp; omega); have hRe : RowIs w1 (w.heap.size + 1) 23 [.int .i64 0] := row_two w _ hb1; have HRf : Hid (RowIs w1 w.heap.size 33 [.int .u8 0, .slice none 0 0]) := hRf; have HRe : Hid (RowIs w1 (w.heap.size + 1) 23 [.int .i64 0]) := hRe; have q0 := hRf.cell (j := 0) rfl; have q1 := hRf.cell (j := 1) rfl; have q2 := hRe.cell (j := 0) rfl; have f0 := hRf.frozen 0; have f1 := hRf.frozen 1; have f2 := hRe.frozen 0; clear ho1 hb1 hRf hRe)
  have hbs : w.heap.size + 1 < ((w.alloc (.cells #[.int .u8 0, .slice none 0 0] 33)).alloc (.cells #[.int .i64 0] 23)).heap.size := by simp
  have r1 := ((((HRf.out.set 0 (.int .u8 (k.toNat : Int))).set 1 (.slice a1 L c1)).set 0 (.int .u8 (k.toNat : Int))).set 1 (.slice a1 L c1)).other ⟨w.heap.size + 1, 0, none⟩ (.int .i64 0) (by simp)
  have r2 := (((((HRe.out.other ⟨w.heap.size, 0, none⟩ (.int .u8 (k.toNat : Int)) (by simp)).other ⟨w.heap.size, 1, none⟩ (.slice a1 L c1) (by simp)).other ⟨w.heap.size, 0, none⟩ (.int .u8 (k.toNat : Int)) (by simp)).other ⟨w.heap.size, 1, none⟩ (.slice a1 L c1) (by simp)).set 0 (.int .i64 0))
  have o1 := ownsRow_setCell_below (ownsRow_setCell_below (ownsRow_setCell_below (ownsRow_setCell_below (ownsRow_setCell_below HO1.out (a := ⟨w.heap.size, 0, none⟩) (by show w.heap.size < _; omega) (.int .u8 (k.toNat : Int))) (a := ⟨w.heap.size, 1, none⟩) (by show w.heap.size < _; omega) (.slice a1 L c1)) (a := ⟨w.heap.size, 0, none⟩) (by show w.heap.size < _; omega) (.int .u8 (k.toNat : Int))) (a := ⟨w.heap.size, 1, none⟩) (by show w.heap.size < _; omega) (.slice a1 L c1)) (a := ⟨w.heap.size + 1, 0, none⟩) (by show w.heap.size + 1 < _; omega) (.int .i64 0)
  have b1 := after_set (after_set (after_set (after_set (after_set (After.trans (after_alloc (after_alloc (After.refl w) _) _) HB1.out) ⟨w.heap.size, 0, none⟩ (Nat.le_refl _) (.int .u8 (k.toNat : Int))) ⟨w.heap.size, 1, none⟩ (Nat.le_refl _) (.slice a1 L c1)) ⟨w.heap.size, 0, none⟩ (Nat.le_refl _) (.int .u8 (k.toNat : Int))) ⟨w.heap.size, 1, none⟩ (Nat.le_refl _) (.slice a1 L c1)) ⟨w.heap.size + 1, 0, none⟩ (Nat.le_succ _) (.int .i64 0)
  generalize ((((w1.setCell ⟨w.heap.size, 0, none⟩ (.int .u8 (k.toNat : Int))).setCell ⟨w.heap.size, 1, none⟩ (.slice a1 L c1)).setCell ⟨w.heap.size, 0, none⟩ (.int .u8 (k.toNat : Int))).setCell ⟨w.heap.size, 1, none⟩ (.slice a1 L c1)).setCell ⟨w.heap.size + 1, 0, none⟩ (.int .i64 0) = w2 at r1 r2 o1 b1 ⊢
  refine leaves_cons (f := 25) (args := #[.pointer (some ⟨w.heap.size + 1, 0, none⟩)]) (by simp) (by simp [go_sem]) ?_
  refine (catch_idle (w.heap.size + 1) w2 _ r2).mono ?_
  rintro e u' w'' ⟨rfl, rfl, rfl⟩
  have r3 := r1.other ⟨w.heap.size + 1, 0, none⟩ (.int .i64 0) (by simp)
  have r4 := r2.set 0 (.int .i64 0)
  have o2 := ownsRow_setCell_below o1 (a := ⟨w.heap.size + 1, 0, none⟩) (by show w.heap.size + 1 < _; omega) (.int .i64 0)
  have b2 := after_set b1 ⟨w.heap.size + 1, 0, none⟩ (Nat.le_succ _) (.int .i64 0)
  generalize w2.setCell ⟨w.heap.size + 1, 0, none⟩ (.int .i64 0) = w3 at r3 r4 o2 b2 ⊢
  have h0 := r3.cell (j := 0) rfl
  have h1 := r3.cell (j := 1) rfl
  have h2 := r4.cell (j := 0) rfl
  have hpost := HP.out w3 (.slice a1 L c1) (Own.mono o2 (by omega)) b2
  simp [Leaves, settle, results, Try.results14, go_sem, h0, h1, h2]
  exact hpost
theorem open_any (ao : Option Addr) (cap : Nat) (bs : List UInt8) (hcap : bs.length ≤ cap) (hbig : bs.length ≤ 140737488355328) (w : World) (hat : BytesAt w ao bs) : Calls Try.prog 14 #[.slice ao bs.length cap] w (OPost w bs) := by
  rcases opE_cases bs with ⟨h, H⟩ | h
  · obtain ⟨b, o, rfl, _⟩ := hat H.ne
    exact open_ok b o cap bs hcap hbig w hat h _ _ _ H
  · exact open_bad ao cap bs hcap hbig w hat h
end Go.Proofs.Ytjmjianilcdphaa
