/-
  THE WALK OF sha.mixed: the state behind a block.
-/
import Derived.Test.YtpnhklefoafgkaaDoorSched
import Derived.Test.YtpnhklefoafgkaaDoorPlainTwo
namespace Go.Proofs.YtpnhklefoafgkaaDoor
open Go.RowKit Sha
theorem size54 : (Tryd.prog.info? 54).map (·.size) = some 64 := by kernel_rfl
theorem size51 : (Tryd.prog.info? 51).map (·.size) = some 8 := by kernel_rfl
/-- The table of the rounds' constants lies in block 0. -/
def Tab (w : World) : Prop := 0 < w.heap.size ∧ ∀ j, j < 64 → w.cell? ⟨0, j, none⟩ = some (.int .u32 (n32 (kWords.getD j 0)))
theorem Tab.below {w w' : World} {B : Nat} (h : Tab w) (hb : Below B w w') (hB : 0 < B) : Tab w' :=
  ⟨Nat.lt_of_lt_of_le h.1 hb.size, fun j hj => by rw [hb.cell (p := ⟨0, j, none⟩) hB]; exact h.2 j hj⟩
def zero8 : List Value := c32 (List.replicate 8 0)
theorem with_world {p : World → Prop} {W : World} (F : World → Prop) (h : F W) (k : ∀ W', F W' → p W') : p W := k W h
def MixRel (s : St) (bs : List UInt8) (w : World) (g : Nat) (wr : World) : Prop :=
  Below w.heap.size w wr ∧ Tab wr ∧ RowIs wr w.heap.size 51 (c32 s.list) ∧ RowIs wr (w.heap.size + 1 + 1) 51 zero8 ∧ RowIs wr g 64 (c32 (sched bs))
theorem MixRel.drew {s : St} {bs : List UInt8} {w wr : World} {g : Nat} (h : MixRel s bs w g wr) : MixRel s bs w g wr.drew := ⟨h.1.drew, ⟨h.2.1.1, h.2.1.2⟩, h.2.2.1, h.2.2.2.1, h.2.2.2.2⟩
theorem MixRel.start (s : St) (bs : List UInt8) (w w1 : World) (ht : Tab w) (hb : Below (((w.alloc (.cells (c32 s.list).toArray 51)).alloc (.cells (c8 bs).toArray 54)).alloc (.cells zero8.toArray 51)).heap.size (((w.alloc (.cells (c32 s.list).toArray 51)).alloc (.cells (c8 bs).toArray 54)).alloc (.cells zero8.toArray 51)) w1) :
    MixRel s bs w w1.heap.size ((w1.alloc (.cells zero64.toArray 64)).setRow w1.heap.size (c32 (sched bs)).toArray) := by
  have hs : w.heap.size + 1 + 1 + 1 ≤ w1.heap.size := by have := hb.size; simpa using this
  have hpos := ht.1
  have h0 : Below w.heap.size w (((w.alloc (.cells (c32 s.list).toArray 51)).alloc (.cells (c8 bs).toArray 54)).alloc (.cells zero8.toArray 51)) :=
    (((Below.refl _ _).alloc (Nat.le_refl _) _).alloc (by simp) _).alloc (by simp; omega) _
  have h1 : Below w.heap.size w w1 := h0.trans (hb.mono (by simp; omega))
  have h2 : Below w.heap.size w ((w1.alloc (.cells zero64.toArray 64)).setRow w1.heap.size (c32 (sched bs)).toArray) := Below.row (h1.alloc (by omega) _) (by omega) _
  refine ⟨h2, ht.below h2 hpos, ?_, ?_, (RowIs.new w1 64 zero64).setRow _⟩
  · exact (((((RowIs.new w 51 _).alloc _).alloc _).below hb (by simp; omega)).alloc _).setRow_other _ (by omega)
  · refine ((RowIs.below ?_ hb (by simp)).alloc _).setRow_other _ (by omega)
    simpa using RowIs.new ((w.alloc (.cells (c32 s.list).toArray 51)).alloc (.cells (c8 bs).toArray 54)) 51 zero8
set_option maxRecDepth 100000 in
set_option maxHeartbeats 400000 in
theorem mixed_any (s : St) (bs : List UInt8) (hl : bs.length = 64) (w : World) (ht : Tab w) :
    Calls Tryd.prog 26 #[.agg (c32 s.list).toArray, .agg (c8 bs).toArray] w fun e w' => e = .returned (.agg (c32 (mix s bs).list).toArray) ∧ Below w.heap.size w w' := by
  have HT : Hid (Tab w) := ht
  clear ht
  have hsb : (c8 bs).toArray.size = 64 := by simp [c8_len, hl]
  have r54 : RowIs (((w.alloc (.cells (c32 s.list).toArray 51)).alloc (.cells (c8 bs).toArray 54)).alloc (.cells zero8.toArray 51)) (w.heap.size + 1) 54 (c8 bs) := RowIs.alloc (by simpa using RowIs.new (w.alloc (.cells (c32 s.list).toArray 51)) 54 (c8 bs)) _
  have hsz : (c32 (sched bs)).toArray.size = 64 := by simp [c32_len, sched, schedTo_len]
  go_enter Tryd.func26, Tryd.ntmps26
  go_wp2_with (first
    | (refine wpList_load_row rfl 54 _ rfl (w.heap.size + 1) rfl 54 (c8 bs).toArray (0, 0) _ r54 Tryd.underlying54 rfl (by rw [hsb]; exact size54) ?_)
    | (go_at_call 33; refine (schedule_any bs hl _).mono ?_; rintro e w1 ⟨rfl, hb1⟩)
    | (refine wpList_store_row rfl 64 _ _ rfl w1.heap.size _ rfl rfl 64 zero64.toArray (RowIs.new w1 64 zero64) (by rw [hsz]; exact size64) (by rw [hsz]; rfl) (all_oneCell_toArray (c32_one _)) ?_))
  refine with_world (p := fun W => Code.wp _ _ _ _ W) (fun W => MixRel s bs w w1.heap.size W) (MixRel.start s bs w w1 HT.out hb1) ?_
  clear hb1 r54
  generalize w1.heap.size = g
  intro W2 hR
  obtain ⟨x0, x1, x2, x3, x4, x5, x6, x7⟩ := s
  have e0 : W2.cell? ⟨w.heap.size, 0, none⟩ = some (.int .u32 (n32 x0)) := hR.2.2.1.cell rfl
  have e1 : W2.cell? ⟨w.heap.size, 1, none⟩ = some (.int .u32 (n32 x1)) := hR.2.2.1.cell rfl
  have e2 : W2.cell? ⟨w.heap.size, 2, none⟩ = some (.int .u32 (n32 x2)) := hR.2.2.1.cell rfl
  have e3 : W2.cell? ⟨w.heap.size, 3, none⟩ = some (.int .u32 (n32 x3)) := hR.2.2.1.cell rfl
  have e4 : W2.cell? ⟨w.heap.size, 4, none⟩ = some (.int .u32 (n32 x4)) := hR.2.2.1.cell rfl
  have e5 : W2.cell? ⟨w.heap.size, 5, none⟩ = some (.int .u32 (n32 x5)) := hR.2.2.1.cell rfl
  have e6 : W2.cell? ⟨w.heap.size, 6, none⟩ = some (.int .u32 (n32 x6)) := hR.2.2.1.cell rfl
  have e7 : W2.cell? ⟨w.heap.size, 7, none⟩ = some (.int .u32 (n32 x7)) := hR.2.2.1.cell rfl
  have HR : Hid (MixRel ⟨x0, x1, x2, x3, x4, x5, x6, x7⟩ bs w g W2) := hR
  clear hR
  go_region_held3 (fun w' => w'.cell? ⟨w.heap.size, 0, none⟩ = some (.int .u32 (n32 x0)) ∧ w'.cell? ⟨w.heap.size, 1, none⟩ = some (.int .u32 (n32 x1)) ∧ w'.cell? ⟨w.heap.size, 2, none⟩ = some (.int .u32 (n32 x2)) ∧ w'.cell? ⟨w.heap.size, 3, none⟩ = some (.int .u32 (n32 x3)) ∧ w'.cell? ⟨w.heap.size, 4, none⟩ = some (.int .u32 (n32 x4)) ∧ w'.cell? ⟨w.heap.size, 5, none⟩ = some (.int .u32 (n32 x5)) ∧ w'.cell? ⟨w.heap.size, 6, none⟩ = some (.int .u32 (n32 x6)) ∧ w'.cell? ⟨w.heap.size, 7, none⟩ = some (.int .u32 (n32 x7))) (go_keep) (fail)
  clear e0 e1 e2 e3 e4 e5 e6 e7
  go_wp2
  go_loopw [6, 7, 8, 9, 10, 11, 12, 13, 35] (fun y0 y1 y2 y3 y4 y5 y6 y7 i wr => ∃ (k : Nat) (z0 z1 z2 z3 z4 z5 z6 z7 : BitVec 32), k ≤ 64 ∧ i = .int .i64 k ∧ y0 = .int .u32 (n32 z0) ∧ y1 = .int .u32 (n32 z1) ∧ y2 = .int .u32 (n32 z2) ∧ y3 = .int .u32 (n32 z3) ∧ y4 = .int .u32 (n32 z4) ∧ y5 = .int .u32 (n32 z5) ∧ y6 = .int .u32 (n32 z6) ∧ y7 = .int .u32 (n32 z7) ∧ Hid (St.mk z0 z1 z2 z3 z4 z5 z6 z7 = roundsTo (sched bs) ⟨x0, x1, x2, x3, x4, x5, x6, x7⟩ k) ∧ MixRel ⟨x0, x1, x2, x3, x4, x5, x6, x7⟩ bs w g wr) (fun _ _ _ _ _ _ _ _ i _ => 64 - (intOf i).toNat)
  case atStart => exact ⟨0, x0, x1, x2, x3, x4, x5, x6, x7, by omega, rfl, rfl, rfl, rfl, rfl, rfl, rfl, rfl, rfl, rfl, HR.out.drew⟩
  case round =>
    clear HR HT
    obtain ⟨k, z0, z1, z2, z3, z4, z5, z6, z7, hk, rfl, rfl, rfl, rfl, rfl, rfl, rfl, rfl, rfl, HZ, hR⟩ := hrel
    by_cases hlt : k < 64
    · have bk : (k : Int) < 64 := by omega
      obtain ⟨kk, VK, ek⟩ : ∃ v : BitVec 32, Hid (v = kWords.getD k 0) ∧ wr.cell? ⟨0, k, none⟩ = some (.int .u32 (n32 v)) := ⟨_, rfl, hR.2.1.2 k hlt⟩
      obtain ⟨xx, VX, ex⟩ : ∃ v : BitVec 32, Hid (v = (sched bs).getD k 0) ∧ wr.cell? ⟨g, k, none⟩ = some (.int .u32 (n32 v)) := ⟨_, rfl, hR.2.2.2.2.cell (c32_get _ k (by simp [sched, schedTo_len, hlt]))⟩
      obtain ⟨T1, VT, p4⟩ : ∃ v : BitVec 32, Hid (v = t1Of ⟨z0, z1, z2, z3, z4, z5, z6, z7⟩ kk xx) ∧ IntKind.u32.wrap (n32 (z7 + S1 z4 + ch z4 z5 z6 + kk) + n32 xx) = n32 v := ⟨_, rfl, wrap_add _ _⟩
      have p1 := wrap_add z7 (S1 z4)
      have p2 := wrap_add (z7 + S1 z4) (ch z4 z5 z6)
      have p3 := wrap_add (z7 + S1 z4 + ch z4 z5 z6) kk
      obtain ⟨T2, VU, q1⟩ : ∃ v : BitVec 32, Hid (v = t2Of ⟨z0, z1, z2, z3, z4, z5, z6, z7⟩) ∧ (n32 (S0 z0) + n32 (maj z0 z1 z2)) % 4294967296 = n32 v := ⟨_, rfl, mod_add _ _⟩
      have q2 := mod_add z3 T1
      have q3 := mod_add T1 T2
      have HN : Hid (St.mk (T1 + T2) z0 z1 z2 (z3 + T1) z4 z5 z6 = roundsTo (sched bs) ⟨x0, x1, x2, x3, x4, x5, x6, x7⟩ (k + 1)) := by
        unfold Hid; rw [roundsTo, ← HZ.out, ← VK.out, ← VX.out, rnd, VT.out, VU.out]
      have HR : Hid (MixRel ⟨x0, x1, x2, x3, x4, x5, x6, x7⟩ bs w g wr) := hR
      clear hR VK VX VT VU HZ
      go_wp2
      go_region_held3 (fun w' => w'.cell? ⟨0, k, none⟩ = some (.int .u32 (n32 kk)) ∧ w'.cell? ⟨g, k, none⟩ = some (.int .u32 (n32 xx))) (go_keep) (first | (go_at_call 34; refine (hs1_any _ _).mono ?_; rintro e w' ⟨rfl, rfl⟩) | (go_at_call 35; refine (chosen_any _ _ _ _).mono ?_; rintro e w' ⟨rfl, rfl⟩))
      go_wp2_with (first | (go_at_call 36; refine (hs0_any _ _).mono ?_; rintro e w' ⟨rfl, rfl⟩) | (go_at_call 37; refine (maj_any _ _ _ _).mono ?_; rintro e w' ⟨rfl, rfl⟩))
      go_roundw
      case rel => exact ⟨k + 1, _, _, _, _, _, _, _, _, by omega, by go_num, rfl, rfl, rfl, rfl, rfl, rfl, rfl, rfl, HN, HR.out.drew⟩
      case measure => simp [intOf]; omega
    · obtain rfl : k = 64 := by omega
      obtain ⟨hb', hx1, r0, r1', hx2⟩ := hR
      have hb : Hid (Below w.heap.size w wr) := hb'
      have r1 : Hid (RowIs wr (w.heap.size + 1 + 1) 51 zero8) := r1'
      clear hb' r1' hx1 hx2
      have e0 : wr.cell? ⟨w.heap.size, 0, none⟩ = some (.int .u32 (n32 x0)) := r0.cell rfl
      have p0 := mod_add x0 z0
      have e1 : wr.cell? ⟨w.heap.size, 1, none⟩ = some (.int .u32 (n32 x1)) := r0.cell rfl
      have p1 := mod_add x1 z1
      have e2 : wr.cell? ⟨w.heap.size, 2, none⟩ = some (.int .u32 (n32 x2)) := r0.cell rfl
      have p2 := mod_add x2 z2
      have e3 : wr.cell? ⟨w.heap.size, 3, none⟩ = some (.int .u32 (n32 x3)) := r0.cell rfl
      have p3 := mod_add x3 z3
      have e4 : wr.cell? ⟨w.heap.size, 4, none⟩ = some (.int .u32 (n32 x4)) := r0.cell rfl
      have p4 := mod_add x4 z4
      have e5 : wr.cell? ⟨w.heap.size, 5, none⟩ = some (.int .u32 (n32 x5)) := r0.cell rfl
      have p5 := mod_add x5 z5
      have e6 : wr.cell? ⟨w.heap.size, 6, none⟩ = some (.int .u32 (n32 x6)) := r0.cell rfl
      have p6 := mod_add x6 z6
      have e7 : wr.cell? ⟨w.heap.size, 7, none⟩ = some (.int .u32 (n32 x7)) := r0.cell rfl
      have p7 := mod_add x7 z7
      have HM : Hid ([x0 + z0, x1 + z1, x2 + z2, x3 + z3, x4 + z4, x5 + z5, x6 + z6, x7 + z7] = (mix ⟨x0, x1, x2, x3, x4, x5, x6, x7⟩ bs).list) := by
        unfold Hid mix; rw [← HZ.out]; rfl
      clear HZ r0 hlt hk
      go_wp2_with (refine wpList_store_row rfl 51 (.tmp 4) (.tmp 107) rfl (w.heap.size + 1 + 1) (c32 [x0 + z0, x1 + z1, x2 + z2, x3 + z3, x4 + z4, x5 + z5, x6 + z6, x7 + z7]).toArray rfl rfl 51 zero8.toArray r1.out size51 rfl (all_oneCell_toArray (c32_one _)) ?_)
      refine bodyPost_ret (v := .agg (c32 [x0 + z0, x1 + z1, x2 + z2, x3 + z3, x4 + z4, x5 + z5, x6 + z6, x7 + z7]).toArray) (results_cell_row Tryd.results26 _ _ (w.heap.size + 1 + 1) 51 _ (0, 0) _ rfl (RowIs.setRow r1.out _) Tryd.underlying51 rfl size51) rfl ⟨?_, Below.row hb.out (by omega) _⟩
      rw [HM.out]
end Go.Proofs.YtpnhklefoafgkaaDoor
