/-
  THE WALK OF stemmalaw05.do: a call on both.
-/
import Derived.Test.YtlbodickflljfaaJoint
namespace Go.Proofs.Ytlbodickflljfaa
open Go.RowKit Go.Maps Dsk
def Halt (p : Prop) : Prop := p
theorem of_halt {p : Prop} (h : Halt p) : p := h
/-- A call that came in. -/
structure ActV (w : World) (a : Act5) : Prop where
  nl : a.name.length ≤ maxLen
  wl : a.now.length ≤ maxLen
  dl : a.data.length = a.pn
  pl : a.pn ≤ a.pc
  at_ : BytesAt w a.pa a.data
  nb : a.n < 9223372036854775808
  db : a.pc ≤ 140737488351232
theorem ActIs.v {W : World} {b o : Nat} {a : Act5} (h : ActIs W b o a) : ActV W a := ⟨h.nl, h.wl, h.dl, h.pl, h.at_, h.nb, h.db⟩
theorem RefAt.shape {w : World} {v : Value} {S : Dk} (h : RefAt w v S) : ∃ R : Array Value, v = .agg R ∧ R.size = 7 ∧ R.all (·.oneCell') = true := by
  obtain ⟨ao, c, ar, lf, dn, h1, _⟩ := h.ex
  exact ⟨_, h1, rfl, by kernel_rfl⟩
theorem RowIs.keep {w w' : World} {g t : Nat} {cs : List Value} (h : RowIs w g t cs) (hk : w'.heap[g]? = w.heap[g]?) : RowIs w' g t cs := by unfold RowIs; rw [hk]; exact h
/-- What the last loop of do keeps. -/
structure TlI (w0 : World) (G : Nat → Prop) (w : World) (lo hi sb : Nat) (S : Dk) (R : Array Value) (pn : Nat) (ov : Value) (bs : List UInt8) (W : World) : Prop where
  len : bs.length = pn
  own : Own W (lo + 3) ov bs
  olt : ∀ g, ov.ownBlock = some g → g < hi
  lives : Lives w0 G lo hi sb S W
  ref : RefAt W (.agg R) S
  row : RowIs W lo 27 R.toList
  zero : RowIs W (lo + 2) 27 [.int .i64 0, .slice none 0 0, .int .i64 0, .bool false, .int .i64 0, .bool false, .bool false]
  turn : Turn G w W
  typ : ∀ b, T75 w b → W.heap[b]? = w.heap[b]?
  wlo : w.heap.size ≤ lo
theorem TlI.up {w0 : World} {G : Nat → Prop} {w : World} {lo hi sb : Nat} {S : Dk} {R : Array Value} {pn g oc : Nat} {bs : List UInt8} {W : World} (h : TlI w0 G w lo hi sb S R pn (.slice (some ⟨g, 0, none⟩) pn oc) bs W) {k : Nat} (hk : k < pn) :
    ∃ y : UInt8, W.cell? ⟨g, k, none⟩ = some (.int .u8 (y.toNat : Int)) ∧ W.frozen? ⟨g, k, none⟩ = false ∧ TlI w0 G w lo hi sb S R pn (.slice (some ⟨g, 0, none⟩) pn oc) (bs.set k (y + 1)) (W.setCell ⟨g, k, none⟩ (.int .u8 ((y + 1).toNat : Int))) := by
  obtain ⟨y, h1, h2, h3, h4⟩ := Own.up h.len h.own k hk
  have hg := (World.ownsRow.lt h.own g rfl).1
  have hg2 := h.olt g rfl
  exact ⟨y, h1, h2, by rw [List.length_set]; exact h.len, h3, h.olt, h.lives.setCell _ (by simp only; omega) hg2 _, h.ref.setOwn h.own _, h.row.other _ _ (by simp only; omega), h.zero.other _ _ (by simp only; omega), h.turn.setCell (Or.inr (by have := h.wlo; simp only; omega)) _, fun b hb => by rw [heap_setCell_other _ _ _ _ (by have := hb.lt; have := h.wlo; simp only; omega)]; exact h.typ b hb, h.wlo⟩
theorem Own.addr {w : World} {base : Nat} {ao : Option Addr} {n c : Nat} {bs : List UInt8} (h : Own w base (.slice ao n c) bs) (hn : bs ≠ []) : ∃ g, ao = some ⟨g, 0, none⟩ ∧ base ≤ g ∧ g < w.heap.size := by
  obtain ⟨g, cap, e, hb, _⟩ := h.form hn
  have e1 : ao = some ⟨g, 0, none⟩ := by injection e
  subst e1
  exact ⟨g, rfl, hb, (World.ownsRow.lt h g rfl).2⟩
set_option maxRecDepth 100000 in
set_option maxHeartbeats 12800000 in
theorem do_any {w0 : World} {G : Nat → Prop} {sb : Nat} {S : Dk} {v : Value} {w : World} (h : Joint w0 G sb S v w) (hst : S.steps < 4611686018427387904) (a : Act5) (ha : ActV w0 a) :
    Calls Try.prog 13 #[.pointer (some ⟨sb, 0, none⟩), v, .agg #[.int .u8 (a.kind.toNat : Int), .string (strOf a.name), .string (strOf a.now), .slice a.pa a.pn a.pc, .int .i64 a.n, .bool a.done]] w fun e w' => ∃ v', e = .returned (.tuple #[v', .bool true]) ∧ Joint w0 (more G w w') sb (actS S a) v' w' ∧ Turn G w w' ∧ ∀ b, T75 w b → w'.heap[b]? = w.heap[b]? := by
  obtain ⟨T, hT⟩ : ∃ T, actS S a = T := ⟨_, rfl⟩
  rw [hT]
  have HT : Hid (actS S a = T) := hT
  clear hT
  obtain ⟨k, nm, nw, pa, pn, pc, da, N, dn⟩ := a
  have HAV := show Hid (ActV w0 _) from ha
  have hpn : pn ≤ 140737488351232 := Nat.le_trans ha.pl ha.db
  clear ha
  simp only
  have HRF : Hid (RefAt w v S) := h.ref
  obtain ⟨ao, c, ar, lf, dd, hv, _⟩ := h.ref.ex
  unfold rV at hv
  obtain ⟨n, hn⟩ : ∃ n, S.files.length = n := ⟨_, rfl⟩
  rw [hn] at hv
  subst hv
  have HD0 : Hid (Dat w0 G w.heap.size sb S w) := h.dat
  have HG : Hid (∀ i, G i → w0.heap.size ≤ i ∧ i < w.heap.size) := h.rng
  have HOK : Hid (Ok S) := h.ok
  clear h hn
  have hkl := k.toNat_lt
  go_enter Try.func13, Try.ntmps13
  go_wp2_with (at_builtin; apply of_halt)
  unfold Halt
  obtain ⟨w1, hw1⟩ : ∃ w1, ((w.alloc (.cells #[.int .i64 (S.most : Int), .slice ao n c, .int .i64 (S.steps : Int), .bool ar, .int .i64 (lf : Int), .bool dd, .bool S.down] 27)).alloc (.cells #[.int .u8 (k.toNat : Int), .string (strOf nm), .string (strOf nw), .slice pa pn pc, .int .i64 N, .bool dn] 33)).alloc (.cells #[.int .i64 0, .slice none 0 0, .int .i64 0, .bool false, .int .i64 0, .bool false, .bool false] 27) = w1 := ⟨_, rfl⟩
  rw [hw1]
  have HA1 : Hid (After w w1) := by rw [← hw1]; exact after_alloc (after_alloc (after_alloc (After.refl w) _) _) _
  have HR1 : Hid (RowIs w1 w.heap.size 27 [.int .i64 (S.most : Int), .slice ao n c, .int .i64 (S.steps : Int), .bool ar, .int .i64 (lf : Int), .bool dd, .bool S.down]) := by rw [← hw1]; exact ((RowIs.new w 27 _).alloc _).alloc _
  have HX1 : Hid (RowIs w1 (w.heap.size + 1) 33 [.int .u8 (k.toNat : Int), .string (strOf nm), .string (strOf nw), .slice pa pn pc, .int .i64 N, .bool dn]) := by
    rw [← hw1]; unfold Hid
    have := (RowIs.new (w.alloc (.cells #[.int .i64 (S.most : Int), .slice ao n c, .int .i64 (S.steps : Int), .bool ar, .int .i64 (lf : Int), .bool dd, .bool S.down] 27)) 33 [.int .u8 (k.toNat : Int), .string (strOf nm), .string (strOf nw), .slice pa pn pc, .int .i64 N, .bool dn]).alloc (.cells #[.int .i64 0, .slice none 0 0, .int .i64 0, .bool false, .int .i64 0, .bool false, .bool false] 27)
    simpa using this
  have HZ1 : Hid (RowIs w1 (w.heap.size + 2) 27 [.int .i64 0, .slice none 0 0, .int .i64 0, .bool false, .int .i64 0, .bool false, .bool false]) := by rw [← hw1]; exact row_last _ _ (by simp) _
  have HS1 : Hid (w1.heap.size = w.heap.size + 3) := by rw [← hw1]; simp [Hid]
  clear hw1
  have OF := Own.fresh w1
  rw [show w1.heap.size = w.heap.size + 1 + 1 + 1 from HS1.out] at OF
  refine wpList_append_any rfl _ _ rfl (w.heap.size + 1 + 1 + 1) (.slice (some ⟨w.heap.size + 1 + 1 + 1, 0, none⟩) 0 0) [] rfl OF pa pc da pn HAV.out.dl rfl (HAV.out.at_.after (After.trans HD0.out.aft (After.trans HA1.out (after_alloc (After.refl w1) _)))) (by have := HAV.out.dl; simp only at this; simp; omega) (by have := HS1.out; simp; omega) ?_
  intro v2 w2 ho2 hg2
  rw [List.nil_append] at ho2
  have HA2 : Hid (After w1 w2) := after_grown (after_alloc (After.refl w1) _) hg2 (Nat.le_refl _) (fun k hk => by have := (World.ownsRow.lt OF k hk).1; have := HS1.out; omega)
  obtain ⟨oa, oc, hv2, hat2, hc2, _⟩ := Own.at ho2
  have hdl := HAV.out.dl
  simp only at hdl
  rw [hdl] at hv2 hc2
  subst hv2
  have HT2 : Hid (BytesAt w2 oa da) := hat2
  have HO2 : Hid (Own w2 w1.heap.size (.slice oa pn oc) da) := by rw [HS1.out]; exact ho2
  have HC2 : Hid (pn ≤ oc) := hc2
  clear ho2 hg2 hat2 hc2 hdl
  have HR2 := show Hid (RowIs w2 _ _ _) from HR1.out.below HA2.out HR1.out.lt
  have HX2 := show Hid (RowIs w2 _ _ _) from HX1.out.below HA2.out HX1.out.lt
  have HZ2 := show Hid (RowIs w2 _ _ _) from HZ1.out.below HA2.out HZ1.out.lt
  have HD2 : Hid (Dat w0 G w.heap.size sb S w2) := HD0.out.after (After.trans HA1.out HA2.out)
  have HRF2 := show Hid (RefAt w2 _ S) from HRF.out.after (After.trans HA1.out HA2.out)
  have HSZ : Hid (w.heap.size + 3 ≤ w2.heap.size) := by have := HS1.out; have := HA2.out.size; unfold Hid; omega
  have HBF : Hid (da ≠ [] → ∀ a, oa = some a → w.heap.size + 3 ≤ a.block) := fun hne a ha => by
    obtain ⟨g, e, hb, _⟩ := HO2.out.addr hne
    rw [e] at ha; cases ha
    have := HS1.out; simp only; omega
  have HOL : Hid (Own w2 (w.heap.size + 3) (.slice oa pn oc) da ∧ ∀ g, (Value.slice oa pn oc).ownBlock = some g → g < w2.heap.size) := ⟨by have := HO2.out; rw [HS1.out] at this; exact this, fun g hg => (World.ownsRow.lt HO2.out g hg).2⟩
  have x0 := HX2.out.cell (j := 0) rfl
  have x1 := HX2.out.cell (j := 1) rfl
  have x2 := HX2.out.cell (j := 2) rfl
  have x4 := HX2.out.cell (j := 4) rfl
  have x5 := HX2.out.cell (j := 5) rfl
  have x3 := HX2.out.cell (j := 3) rfl
  have NEXT : Hid (∀ (w3 w4 : World) (R : Array Value), R.size = 7 → DPost w0 G w.heap.size w2 sb T w3 → After w3 w4 → RefAt w4 (.agg R) T → TlI w0 G w w.heap.size w2.heap.size sb T R pn (.slice oa pn oc) da (w4.setRow w.heap.size R)) := fun w3 w4 R hR7 hp ha4 hr4 => by
    have hz := HSZ.out
    have hrow : RowIs w4 w.heap.size 27 [.int .i64 (S.most : Int), .slice ao n c, .int .i64 (S.steps : Int), .bool ar, .int .i64 (lf : Int), .bool dd, .bool S.down] := (HR2.out.keep (hp.keep _ (Nat.le_refl _) HR2.out.lt)).below ha4 (by have := HR2.out.lt; have := hp.size; omega)
    have hzero : RowIs w4 (w.heap.size + 2) 27 [.int .i64 0, .slice none 0 0, .int .i64 0, .bool false, .int .i64 0, .bool false, .bool false] := (HZ2.out.keep (hp.keep _ (by omega) HZ2.out.lt)).below ha4 (by have := HZ2.out.lt; have := hp.size; omega)
    have hown : Own w4 (w.heap.size + 3) (.slice oa pn oc) da := HOL.out.1.same (fun g hg => by
      have h1 := HOL.out.2 g hg
      have h2 := (World.ownsRow.lt HOL.out.1 g hg).1
      rw [ha4.block g (by have := hp.size; omega), hp.keep g (by omega) h1])
    refine ⟨HAV.out.dl, hown.same (fun g hg => Go.setRow_other _ _ _ _ (by have := (World.ownsRow.lt HOL.out.1 g hg).1; omega)), HOL.out.2, (hp.lives.after ha4).setRow _ (Nat.le_refl _) (by omega) R, hr4.setRowAny hrow (by decide) R, ?_, hzero.setRow_other R (by omega), Turn.setRow (((Turn.of_after (After.trans HA1.out HA2.out)).trans hp.turn).trans (Turn.of_after ha4)) (Nat.le_refl _) R, fun b hb => by rw [Go.setRow_other _ _ _ _ (by have := hb.lt; omega), ha4.block b (by have := hb.lt; have := hp.size; omega), hp.typ b (hb.after (After.trans HA1.out HA2.out)), (After.trans HA1.out HA2.out).block b hb.lt], Nat.le_refl _⟩
    have := hrow.setRow R.toList
    simpa using this
  obtain ⟨q, hq⟩ : ∃ q, k.toNat % 9 = q := ⟨_, rfl⟩
  have hq9 : q < 9 := by omega
  have hqi : (k.toNat : Int) % 9 = (q : Int) := by omega
  have HQ : Hid (k.toNat % 9 = q) := hq
  have hqs : q = 0 ∨ q = 1 ∨ q = 2 ∨ q = 3 ∨ q = 4 ∨ q = 5 ∨ q = 6 ∨ q = 7 ∨ q = 8 := by omega
  clear hq9 hq
  rcases hqs with rfl | rfl | rfl | rfl | rfl | rfl | rfl | rfl | rfl
  · have HTQ : Hid (createS S nm = T) := by have := HT.out; unfold actS at this; simp only [HQ.out] at this; exact this
    obtain ⟨E, hE⟩ : ∃ E, createE S nm = E := ⟨_, rfl⟩
    have HE : Hid (createE S nm = E) := hE
    clear hE
    go_wp2_with (first
      | (go_at_call 23; refine (d_create HD2.out hst nm HAV.out.nl).mono ?_; rw [HE.out, HTQ.out]; rintro e w3 ⟨rfl, hp3⟩; have HR3 := show Hid (RowIs w3 _ _ _) from HR2.out.keep (hp3.keep _ (Nat.le_refl _) HR2.out.lt); have hx3 : RowIs w3 _ _ _ := HX2.out.keep (hp3.keep _ (by omega) HX2.out.lt); have y1 := hx3.cell (j := 1) rfl; have y2 := hx3.cell (j := 2) rfl; have y3 := hx3.cell (j := 3) rfl; have y4 := hx3.cell (j := 4) rfl; have y5 := hx3.cell (j := 5) rfl; have hcv := conv_at pc (HAV.out.at_.after hp3.lives.aft); have hdl := HAV.out.dl; simp only at hdl hcv; rw [hdl] at hcv; clear hdl hx3; have HP3 := show Hid (DPost _ _ _ _ _ _ _) from hp3; clear hp3)
      | (refine wpList_load_row rfl 27 (.tmp 4) rfl (w.heap.size) rfl 27 _ (0, 0) _ HR3.out Try.underlying27 rfl (by kernel_rfl) ?_)
      | (go_at_call 34; refine (createR S HOK.out hst nm HAV.out.nl w3 _ (HP3.out.ref _ _ HRF2.out)).mono ?_; unfold RPostR; rw [HE.out, HTQ.out]; rintro e w4 ⟨v4, rfl, hr4, ha4⟩; obtain ⟨R4, hv4, h47, h41⟩ := hr4.shape; subst hv4; have HRF4 := show Hid (RefAt w4 _ _) from hr4; have HA4 : Hid (After w3 w4) := ha4; have HR4 := show Hid (RowIs w4 _ _ _) from HR3.out.below ha4 HR3.out.lt; clear hr4 ha4)
      | (refine wpList_store_row rfl 27 (.tmp 4) (.tmp 37) rfl (w.heap.size) R4 rfl rfl 27 _ HR4.out (by rw [h47]; kernel_rfl) (by rw [h47]; rfl) h41 ?_))
    have HTL := show Hid _ from NEXT.out w3 w4 R4 h47 HP3.out HA4.out HRF4.out
    clear NEXT
    go_loopw [11] (fun iv wr => ∃ (j : Nat) (bs : List UInt8), j ≤ pn ∧ iv = .int .i64 (j : Int) ∧ Hid (TlI w0 G w w.heap.size w2.heap.size sb T R4 pn (.slice oa pn oc) bs wr)) (fun iv _ => pn - (intOf iv).toNat)
    case atStart => exact ⟨0, da, Nat.zero_le _, rfl, HTL.out⟩
    case round =>
      clear HTL
      obtain ⟨j, bs, hjn, rfl, HI⟩ := hrel
      by_cases hlt : j < pn
      · have hji : (j : Int) < (pn : Int) := by omega
        obtain ⟨g, hoa, hbg, _⟩ := HI.out.own.addr (by intro h; have := HI.out.len; rw [h] at this; simp at this; omega)
        subst hoa
        obtain ⟨y, hy, hf, hti⟩ := HI.out.up hlt
        have hup := byte_up y
        obtain ⟨z, hz⟩ : ∃ z, y + 1 = z := ⟨_, rfl⟩
        rw [hz] at hup hti
        have HTI := show Hid (TlI _ _ _ _ _ _ _ _ _ _ _ _) from hti
        clear hti hz
        go_wp2
        go_roundw
        case rel => exact ⟨j + 1, _, by omega, by go_num, HTI.out⟩
        case measure => simp [intOf]; omega
      · have HRW := show Hid (RowIs wr _ _ _) from HI.out.row
        have HZW := show Hid (RowIs wr _ _ _) from HI.out.zero
        have HR7 : Hid (R4.toList.toArray = R4) := by unfold Hid; simp
        unfold RowIs at HRW
        rw [HR7.out] at HRW
        go_wp2_with (first
          | (refine wpList_load_row rfl 27 (.tmp 4) rfl (w.heap.size) rfl 27 R4 (0, 0) _ HRW.out Try.underlying27 rfl (by rw [h47]; kernel_rfl) ?_)
          | (refine wpList_store_row rfl 27 (.tmp 6) (.tmp 146) rfl (w.heap.size + 2) R4 rfl rfl 27 _ HZW.out (by rw [h47]; kernel_rfl) (by rw [h47]; rfl) h41 ?_))
        have HRX := HZW.out.setRow R4.toList
        have HR8 : R4.toList.toArray = R4 := by simp
        rw [HR8] at HRX
        refine bodyPost_ret (ret27t Try.results13 _ _ (w.heap.size + 2) R4.toList rfl HRX (by simp [h47]) _ rfl) rfl ⟨_, by rw [HR8]; rfl, ?_⟩
        exact ⟨(HI.out.lives.setRow _ (by omega) (by have := HSZ.out; omega) R4).joint (by have := HSZ.out; omega) (HI.out.ref.setRowAny HZW.out (by decide) R4) HG.out (by have := HI.out.turn.size; simpa using this), HI.out.turn.setRow (by omega) R4, fun b hb => by rw [Go.setRow_other _ _ _ _ (by have := hb.lt; omega)]; exact HI.out.typ b hb⟩
  · have HTQ : Hid (appendS S nm da = T) := by have := HT.out; unfold actS at this; simp only [HQ.out] at this; exact this
    obtain ⟨E, hE⟩ : ∃ E, appendE S nm da = E := ⟨_, rfl⟩
    have HE : Hid (appendE S nm da = E) := hE
    clear hE
    go_wp2_with (first
      | (go_at_call 24; refine (d_append HD2.out hst nm HAV.out.nl oa pn oc da HAV.out.dl HT2.out (fun hne a ha => by have := HBF.out hne a ha; omega)).mono ?_; rw [HE.out, HTQ.out]; rintro e w3 ⟨rfl, hp3⟩; have HR3 := show Hid (RowIs w3 _ _ _) from HR2.out.keep (hp3.keep _ (Nat.le_refl _) HR2.out.lt); have hx3 : RowIs w3 _ _ _ := HX2.out.keep (hp3.keep _ (by omega) HX2.out.lt); have y1 := hx3.cell (j := 1) rfl; have y2 := hx3.cell (j := 2) rfl; have y3 := hx3.cell (j := 3) rfl; have y4 := hx3.cell (j := 4) rfl; have y5 := hx3.cell (j := 5) rfl; have hcv := conv_at pc (HAV.out.at_.after hp3.lives.aft); have hdl := HAV.out.dl; simp only at hdl hcv; rw [hdl] at hcv; clear hdl hx3; have HP3 := show Hid (DPost _ _ _ _ _ _ _) from hp3; clear hp3)
      | (refine wpList_load_row rfl 27 (.tmp 4) rfl (w.heap.size) rfl 27 _ (0, 0) _ HR3.out Try.underlying27 rfl (by kernel_rfl) ?_)
      | (go_at_call 35; refine (appendR S HOK.out hst nm HAV.out.nl da w3 _ (HP3.out.ref _ _ HRF2.out)).mono ?_; unfold RPostR; rw [HE.out, HTQ.out]; rintro e w4 ⟨v4, rfl, hr4, ha4⟩; obtain ⟨R4, hv4, h47, h41⟩ := hr4.shape; subst hv4; have HRF4 := show Hid (RefAt w4 _ _) from hr4; have HA4 : Hid (After w3 w4) := ha4; have HR4 := show Hid (RowIs w4 _ _ _) from HR3.out.below ha4 HR3.out.lt; clear hr4 ha4)
      | (refine wpList_store_row rfl 27 (.tmp 4) (.tmp 55) rfl (w.heap.size) R4 rfl rfl 27 _ HR4.out (by rw [h47]; kernel_rfl) (by rw [h47]; rfl) h41 ?_))
    have HTL := show Hid _ from NEXT.out w3 w4 R4 h47 HP3.out HA4.out HRF4.out
    clear NEXT
    go_loopw [11] (fun iv wr => ∃ (j : Nat) (bs : List UInt8), j ≤ pn ∧ iv = .int .i64 (j : Int) ∧ Hid (TlI w0 G w w.heap.size w2.heap.size sb T R4 pn (.slice oa pn oc) bs wr)) (fun iv _ => pn - (intOf iv).toNat)
    case atStart => exact ⟨0, da, Nat.zero_le _, rfl, HTL.out⟩
    case round =>
      clear HTL
      obtain ⟨j, bs, hjn, rfl, HI⟩ := hrel
      by_cases hlt : j < pn
      · have hji : (j : Int) < (pn : Int) := by omega
        obtain ⟨g, hoa, hbg, _⟩ := HI.out.own.addr (by intro h; have := HI.out.len; rw [h] at this; simp at this; omega)
        subst hoa
        obtain ⟨y, hy, hf, hti⟩ := HI.out.up hlt
        have hup := byte_up y
        obtain ⟨z, hz⟩ : ∃ z, y + 1 = z := ⟨_, rfl⟩
        rw [hz] at hup hti
        have HTI := show Hid (TlI _ _ _ _ _ _ _ _ _ _ _ _) from hti
        clear hti hz
        go_wp2
        go_roundw
        case rel => exact ⟨j + 1, _, by omega, by go_num, HTI.out⟩
        case measure => simp [intOf]; omega
      · have HRW := show Hid (RowIs wr _ _ _) from HI.out.row
        have HZW := show Hid (RowIs wr _ _ _) from HI.out.zero
        have HR7 : Hid (R4.toList.toArray = R4) := by unfold Hid; simp
        unfold RowIs at HRW
        rw [HR7.out] at HRW
        go_wp2_with (first
          | (refine wpList_load_row rfl 27 (.tmp 4) rfl (w.heap.size) rfl 27 R4 (0, 0) _ HRW.out Try.underlying27 rfl (by rw [h47]; kernel_rfl) ?_)
          | (refine wpList_store_row rfl 27 (.tmp 6) (.tmp 146) rfl (w.heap.size + 2) R4 rfl rfl 27 _ HZW.out (by rw [h47]; kernel_rfl) (by rw [h47]; rfl) h41 ?_))
        have HRX := HZW.out.setRow R4.toList
        have HR8 : R4.toList.toArray = R4 := by simp
        rw [HR8] at HRX
        refine bodyPost_ret (ret27t Try.results13 _ _ (w.heap.size + 2) R4.toList rfl HRX (by simp [h47]) _ rfl) rfl ⟨_, by rw [HR8]; rfl, ?_⟩
        exact ⟨(HI.out.lives.setRow _ (by omega) (by have := HSZ.out; omega) R4).joint (by have := HSZ.out; omega) (HI.out.ref.setRowAny HZW.out (by decide) R4) HG.out (by have := HI.out.turn.size; simpa using this), HI.out.turn.setRow (by omega) R4, fun b hb => by rw [Go.setRow_other _ _ _ _ (by have := hb.lt; omega)]; exact HI.out.typ b hb⟩
  · have HTQ : Hid (appendS S nm da = T) := by have := HT.out; unfold actS at this; simp only [HQ.out] at this; exact this
    obtain ⟨E, hE⟩ : ∃ E, appendE S nm da = E := ⟨_, rfl⟩
    have HE : Hid (appendE S nm da = E) := hE
    clear hE
    go_wp2_with (first
      | (go_at_call 24; refine (d_append HD2.out hst nm HAV.out.nl oa pn oc da HAV.out.dl HT2.out (fun hne a ha => by have := HBF.out hne a ha; omega)).mono ?_; rw [HE.out, HTQ.out]; rintro e w3 ⟨rfl, hp3⟩; have HR3 := show Hid (RowIs w3 _ _ _) from HR2.out.keep (hp3.keep _ (Nat.le_refl _) HR2.out.lt); have hx3 : RowIs w3 _ _ _ := HX2.out.keep (hp3.keep _ (by omega) HX2.out.lt); have y1 := hx3.cell (j := 1) rfl; have y2 := hx3.cell (j := 2) rfl; have y3 := hx3.cell (j := 3) rfl; have y4 := hx3.cell (j := 4) rfl; have y5 := hx3.cell (j := 5) rfl; have hcv := conv_at pc (HAV.out.at_.after hp3.lives.aft); have hdl := HAV.out.dl; simp only at hdl hcv; rw [hdl] at hcv; clear hdl hx3; have HP3 := show Hid (DPost _ _ _ _ _ _ _) from hp3; clear hp3)
      | (refine wpList_load_row rfl 27 (.tmp 4) rfl (w.heap.size) rfl 27 _ (0, 0) _ HR3.out Try.underlying27 rfl (by kernel_rfl) ?_)
      | (go_at_call 35; refine (appendR S HOK.out hst nm HAV.out.nl da w3 _ (HP3.out.ref _ _ HRF2.out)).mono ?_; unfold RPostR; rw [HE.out, HTQ.out]; rintro e w4 ⟨v4, rfl, hr4, ha4⟩; obtain ⟨R4, hv4, h47, h41⟩ := hr4.shape; subst hv4; have HRF4 := show Hid (RefAt w4 _ _) from hr4; have HA4 : Hid (After w3 w4) := ha4; have HR4 := show Hid (RowIs w4 _ _ _) from HR3.out.below ha4 HR3.out.lt; clear hr4 ha4)
      | (refine wpList_store_row rfl 27 (.tmp 4) (.tmp 55) rfl (w.heap.size) R4 rfl rfl 27 _ HR4.out (by rw [h47]; kernel_rfl) (by rw [h47]; rfl) h41 ?_))
    have HTL := show Hid _ from NEXT.out w3 w4 R4 h47 HP3.out HA4.out HRF4.out
    clear NEXT
    go_loopw [11] (fun iv wr => ∃ (j : Nat) (bs : List UInt8), j ≤ pn ∧ iv = .int .i64 (j : Int) ∧ Hid (TlI w0 G w w.heap.size w2.heap.size sb T R4 pn (.slice oa pn oc) bs wr)) (fun iv _ => pn - (intOf iv).toNat)
    case atStart => exact ⟨0, da, Nat.zero_le _, rfl, HTL.out⟩
    case round =>
      clear HTL
      obtain ⟨j, bs, hjn, rfl, HI⟩ := hrel
      by_cases hlt : j < pn
      · have hji : (j : Int) < (pn : Int) := by omega
        obtain ⟨g, hoa, hbg, _⟩ := HI.out.own.addr (by intro h; have := HI.out.len; rw [h] at this; simp at this; omega)
        subst hoa
        obtain ⟨y, hy, hf, hti⟩ := HI.out.up hlt
        have hup := byte_up y
        obtain ⟨z, hz⟩ : ∃ z, y + 1 = z := ⟨_, rfl⟩
        rw [hz] at hup hti
        have HTI := show Hid (TlI _ _ _ _ _ _ _ _ _ _ _ _) from hti
        clear hti hz
        go_wp2
        go_roundw
        case rel => exact ⟨j + 1, _, by omega, by go_num, HTI.out⟩
        case measure => simp [intOf]; omega
      · have HRW := show Hid (RowIs wr _ _ _) from HI.out.row
        have HZW := show Hid (RowIs wr _ _ _) from HI.out.zero
        have HR7 : Hid (R4.toList.toArray = R4) := by unfold Hid; simp
        unfold RowIs at HRW
        rw [HR7.out] at HRW
        go_wp2_with (first
          | (refine wpList_load_row rfl 27 (.tmp 4) rfl (w.heap.size) rfl 27 R4 (0, 0) _ HRW.out Try.underlying27 rfl (by rw [h47]; kernel_rfl) ?_)
          | (refine wpList_store_row rfl 27 (.tmp 6) (.tmp 146) rfl (w.heap.size + 2) R4 rfl rfl 27 _ HZW.out (by rw [h47]; kernel_rfl) (by rw [h47]; rfl) h41 ?_))
        have HRX := HZW.out.setRow R4.toList
        have HR8 : R4.toList.toArray = R4 := by simp
        rw [HR8] at HRX
        refine bodyPost_ret (ret27t Try.results13 _ _ (w.heap.size + 2) R4.toList rfl HRX (by simp [h47]) _ rfl) rfl ⟨_, by rw [HR8]; rfl, ?_⟩
        exact ⟨(HI.out.lives.setRow _ (by omega) (by have := HSZ.out; omega) R4).joint (by have := HSZ.out; omega) (HI.out.ref.setRowAny HZW.out (by decide) R4) HG.out (by have := HI.out.turn.size; simpa using this), HI.out.turn.setRow (by omega) R4, fun b hb => by rw [Go.setRow_other _ _ _ _ (by have := hb.lt; omega)]; exact HI.out.typ b hb⟩
  · have HTQ : Hid (syncS S nm = T) := by have := HT.out; unfold actS at this; simp only [HQ.out] at this; exact this
    obtain ⟨E, hE⟩ : ∃ E, removeE S nm = E := ⟨_, rfl⟩
    have HE : Hid (removeE S nm = E) := hE
    clear hE
    go_wp2_with (first
      | (go_at_call 27; refine (d_sync HD2.out hst nm HAV.out.nl).mono ?_; rw [HE.out, HTQ.out]; rintro e w3 ⟨rfl, hp3⟩; have HR3 := show Hid (RowIs w3 _ _ _) from HR2.out.keep (hp3.keep _ (Nat.le_refl _) HR2.out.lt); have hx3 : RowIs w3 _ _ _ := HX2.out.keep (hp3.keep _ (by omega) HX2.out.lt); have y1 := hx3.cell (j := 1) rfl; have y2 := hx3.cell (j := 2) rfl; have y3 := hx3.cell (j := 3) rfl; have y4 := hx3.cell (j := 4) rfl; have y5 := hx3.cell (j := 5) rfl; have hcv := conv_at pc (HAV.out.at_.after hp3.lives.aft); have hdl := HAV.out.dl; simp only at hdl hcv; rw [hdl] at hcv; clear hdl hx3; have HP3 := show Hid (DPost _ _ _ _ _ _ _) from hp3; clear hp3)
      | (refine wpList_load_row rfl 27 (.tmp 4) rfl (w.heap.size) rfl 27 _ (0, 0) _ HR3.out Try.underlying27 rfl (by kernel_rfl) ?_)
      | (go_at_call 36; refine (syncR S HOK.out hst nm HAV.out.nl w3 _ (HP3.out.ref _ _ HRF2.out)).mono ?_; unfold RPostR; rw [HE.out, HTQ.out]; rintro e w4 ⟨v4, rfl, hr4, ha4⟩; obtain ⟨R4, hv4, h47, h41⟩ := hr4.shape; subst hv4; have HRF4 := show Hid (RefAt w4 _ _) from hr4; have HA4 : Hid (After w3 w4) := ha4; have HR4 := show Hid (RowIs w4 _ _ _) from HR3.out.below ha4 HR3.out.lt; clear hr4 ha4)
      | (refine wpList_store_row rfl 27 (.tmp 4) (.tmp 68) rfl (w.heap.size) R4 rfl rfl 27 _ HR4.out (by rw [h47]; kernel_rfl) (by rw [h47]; rfl) h41 ?_))
    have HTL := show Hid _ from NEXT.out w3 w4 R4 h47 HP3.out HA4.out HRF4.out
    clear NEXT
    go_loopw [11] (fun iv wr => ∃ (j : Nat) (bs : List UInt8), j ≤ pn ∧ iv = .int .i64 (j : Int) ∧ Hid (TlI w0 G w w.heap.size w2.heap.size sb T R4 pn (.slice oa pn oc) bs wr)) (fun iv _ => pn - (intOf iv).toNat)
    case atStart => exact ⟨0, da, Nat.zero_le _, rfl, HTL.out⟩
    case round =>
      clear HTL
      obtain ⟨j, bs, hjn, rfl, HI⟩ := hrel
      by_cases hlt : j < pn
      · have hji : (j : Int) < (pn : Int) := by omega
        obtain ⟨g, hoa, hbg, _⟩ := HI.out.own.addr (by intro h; have := HI.out.len; rw [h] at this; simp at this; omega)
        subst hoa
        obtain ⟨y, hy, hf, hti⟩ := HI.out.up hlt
        have hup := byte_up y
        obtain ⟨z, hz⟩ : ∃ z, y + 1 = z := ⟨_, rfl⟩
        rw [hz] at hup hti
        have HTI := show Hid (TlI _ _ _ _ _ _ _ _ _ _ _ _) from hti
        clear hti hz
        go_wp2
        go_roundw
        case rel => exact ⟨j + 1, _, by omega, by go_num, HTI.out⟩
        case measure => simp [intOf]; omega
      · have HRW := show Hid (RowIs wr _ _ _) from HI.out.row
        have HZW := show Hid (RowIs wr _ _ _) from HI.out.zero
        have HR7 : Hid (R4.toList.toArray = R4) := by unfold Hid; simp
        unfold RowIs at HRW
        rw [HR7.out] at HRW
        go_wp2_with (first
          | (refine wpList_load_row rfl 27 (.tmp 4) rfl (w.heap.size) rfl 27 R4 (0, 0) _ HRW.out Try.underlying27 rfl (by rw [h47]; kernel_rfl) ?_)
          | (refine wpList_store_row rfl 27 (.tmp 6) (.tmp 146) rfl (w.heap.size + 2) R4 rfl rfl 27 _ HZW.out (by rw [h47]; kernel_rfl) (by rw [h47]; rfl) h41 ?_))
        have HRX := HZW.out.setRow R4.toList
        have HR8 : R4.toList.toArray = R4 := by simp
        rw [HR8] at HRX
        refine bodyPost_ret (ret27t Try.results13 _ _ (w.heap.size + 2) R4.toList rfl HRX (by simp [h47]) _ rfl) rfl ⟨_, by rw [HR8]; rfl, ?_⟩
        exact ⟨(HI.out.lives.setRow _ (by omega) (by have := HSZ.out; omega) R4).joint (by have := HSZ.out; omega) (HI.out.ref.setRowAny HZW.out (by decide) R4) HG.out (by have := HI.out.turn.size; simpa using this), HI.out.turn.setRow (by omega) R4, fun b hb => by rw [Go.setRow_other _ _ _ _ (by have := hb.lt; omega)]; exact HI.out.typ b hb⟩
  · have HTQ : Hid (renameS S nm nw = T) := by have := HT.out; unfold actS at this; simp only [HQ.out] at this; exact this
    obtain ⟨E, hE⟩ : ∃ E, renameE S nm nw = E := ⟨_, rfl⟩
    have HE : Hid (renameE S nm nw = E) := hE
    clear hE
    go_wp2_with (first
      | (go_at_call 32; refine (d_rename HD2.out hst nm HAV.out.nl nw HAV.out.wl).mono ?_; rw [HE.out, HTQ.out]; rintro e w3 ⟨rfl, hp3⟩; have HR3 := show Hid (RowIs w3 _ _ _) from HR2.out.keep (hp3.keep _ (Nat.le_refl _) HR2.out.lt); have hx3 : RowIs w3 _ _ _ := HX2.out.keep (hp3.keep _ (by omega) HX2.out.lt); have y1 := hx3.cell (j := 1) rfl; have y2 := hx3.cell (j := 2) rfl; have y3 := hx3.cell (j := 3) rfl; have y4 := hx3.cell (j := 4) rfl; have y5 := hx3.cell (j := 5) rfl; have hcv := conv_at pc (HAV.out.at_.after hp3.lives.aft); have hdl := HAV.out.dl; simp only at hdl hcv; rw [hdl] at hcv; clear hdl hx3; have HP3 := show Hid (DPost _ _ _ _ _ _ _) from hp3; clear hp3)
      | (refine wpList_load_row rfl 27 (.tmp 4) rfl (w.heap.size) rfl 27 _ (0, 0) _ HR3.out Try.underlying27 rfl (by kernel_rfl) ?_)
      | (go_at_call 37; refine (renameR S HOK.out hst nm HAV.out.nl nw HAV.out.wl w3 _ (HP3.out.ref _ _ HRF2.out)).mono ?_; unfold RPostR; rw [HE.out, HTQ.out]; rintro e w4 ⟨v4, rfl, hr4, ha4⟩; obtain ⟨R4, hv4, h47, h41⟩ := hr4.shape; subst hv4; have HRF4 := show Hid (RefAt w4 _ _) from hr4; have HA4 : Hid (After w3 w4) := ha4; have HR4 := show Hid (RowIs w4 _ _ _) from HR3.out.below ha4 HR3.out.lt; clear hr4 ha4)
      | (refine wpList_store_row rfl 27 (.tmp 4) (.tmp 85) rfl (w.heap.size) R4 rfl rfl 27 _ HR4.out (by rw [h47]; kernel_rfl) (by rw [h47]; rfl) h41 ?_))
    have HTL := show Hid _ from NEXT.out w3 w4 R4 h47 HP3.out HA4.out HRF4.out
    clear NEXT
    go_loopw [11] (fun iv wr => ∃ (j : Nat) (bs : List UInt8), j ≤ pn ∧ iv = .int .i64 (j : Int) ∧ Hid (TlI w0 G w w.heap.size w2.heap.size sb T R4 pn (.slice oa pn oc) bs wr)) (fun iv _ => pn - (intOf iv).toNat)
    case atStart => exact ⟨0, da, Nat.zero_le _, rfl, HTL.out⟩
    case round =>
      clear HTL
      obtain ⟨j, bs, hjn, rfl, HI⟩ := hrel
      by_cases hlt : j < pn
      · have hji : (j : Int) < (pn : Int) := by omega
        obtain ⟨g, hoa, hbg, _⟩ := HI.out.own.addr (by intro h; have := HI.out.len; rw [h] at this; simp at this; omega)
        subst hoa
        obtain ⟨y, hy, hf, hti⟩ := HI.out.up hlt
        have hup := byte_up y
        obtain ⟨z, hz⟩ : ∃ z, y + 1 = z := ⟨_, rfl⟩
        rw [hz] at hup hti
        have HTI := show Hid (TlI _ _ _ _ _ _ _ _ _ _ _ _) from hti
        clear hti hz
        go_wp2
        go_roundw
        case rel => exact ⟨j + 1, _, by omega, by go_num, HTI.out⟩
        case measure => simp [intOf]; omega
      · have HRW := show Hid (RowIs wr _ _ _) from HI.out.row
        have HZW := show Hid (RowIs wr _ _ _) from HI.out.zero
        have HR7 : Hid (R4.toList.toArray = R4) := by unfold Hid; simp
        unfold RowIs at HRW
        rw [HR7.out] at HRW
        go_wp2_with (first
          | (refine wpList_load_row rfl 27 (.tmp 4) rfl (w.heap.size) rfl 27 R4 (0, 0) _ HRW.out Try.underlying27 rfl (by rw [h47]; kernel_rfl) ?_)
          | (refine wpList_store_row rfl 27 (.tmp 6) (.tmp 146) rfl (w.heap.size + 2) R4 rfl rfl 27 _ HZW.out (by rw [h47]; kernel_rfl) (by rw [h47]; rfl) h41 ?_))
        have HRX := HZW.out.setRow R4.toList
        have HR8 : R4.toList.toArray = R4 := by simp
        rw [HR8] at HRX
        refine bodyPost_ret (ret27t Try.results13 _ _ (w.heap.size + 2) R4.toList rfl HRX (by simp [h47]) _ rfl) rfl ⟨_, by rw [HR8]; rfl, ?_⟩
        exact ⟨(HI.out.lives.setRow _ (by omega) (by have := HSZ.out; omega) R4).joint (by have := HSZ.out; omega) (HI.out.ref.setRowAny HZW.out (by decide) R4) HG.out (by have := HI.out.turn.size; simpa using this), HI.out.turn.setRow (by omega) R4, fun b hb => by rw [Go.setRow_other _ _ _ _ (by have := hb.lt; omega)]; exact HI.out.typ b hb⟩
  · have HTQ : Hid (removeS S nm = T) := by have := HT.out; unfold actS at this; simp only [HQ.out] at this; exact this
    obtain ⟨E, hE⟩ : ∃ E, removeE S nm = E := ⟨_, rfl⟩
    have HE : Hid (removeE S nm = E) := hE
    clear hE
    go_wp2_with (first
      | (go_at_call 22; refine (d_remove HD2.out hst nm HAV.out.nl).mono ?_; rw [HE.out, HTQ.out]; rintro e w3 ⟨rfl, hp3⟩; have HR3 := show Hid (RowIs w3 _ _ _) from HR2.out.keep (hp3.keep _ (Nat.le_refl _) HR2.out.lt); have hx3 : RowIs w3 _ _ _ := HX2.out.keep (hp3.keep _ (by omega) HX2.out.lt); have y1 := hx3.cell (j := 1) rfl; have y2 := hx3.cell (j := 2) rfl; have y3 := hx3.cell (j := 3) rfl; have y4 := hx3.cell (j := 4) rfl; have y5 := hx3.cell (j := 5) rfl; have hcv := conv_at pc (HAV.out.at_.after hp3.lives.aft); have hdl := HAV.out.dl; simp only at hdl hcv; rw [hdl] at hcv; clear hdl hx3; have HP3 := show Hid (DPost _ _ _ _ _ _ _) from hp3; clear hp3)
      | (refine wpList_load_row rfl 27 (.tmp 4) rfl (w.heap.size) rfl 27 _ (0, 0) _ HR3.out Try.underlying27 rfl (by kernel_rfl) ?_)
      | (go_at_call 38; refine (removeR S HOK.out hst nm HAV.out.nl w3 _ (HP3.out.ref _ _ HRF2.out)).mono ?_; unfold RPostR; rw [HE.out, HTQ.out]; rintro e w4 ⟨v4, rfl, hr4, ha4⟩; obtain ⟨R4, hv4, h47, h41⟩ := hr4.shape; subst hv4; have HRF4 := show Hid (RefAt w4 _ _) from hr4; have HA4 : Hid (After w3 w4) := ha4; have HR4 := show Hid (RowIs w4 _ _ _) from HR3.out.below ha4 HR3.out.lt; clear hr4 ha4)
      | (refine wpList_store_row rfl 27 (.tmp 4) (.tmp 98) rfl (w.heap.size) R4 rfl rfl 27 _ HR4.out (by rw [h47]; kernel_rfl) (by rw [h47]; rfl) h41 ?_))
    have HTL := show Hid _ from NEXT.out w3 w4 R4 h47 HP3.out HA4.out HRF4.out
    clear NEXT
    go_loopw [11] (fun iv wr => ∃ (j : Nat) (bs : List UInt8), j ≤ pn ∧ iv = .int .i64 (j : Int) ∧ Hid (TlI w0 G w w.heap.size w2.heap.size sb T R4 pn (.slice oa pn oc) bs wr)) (fun iv _ => pn - (intOf iv).toNat)
    case atStart => exact ⟨0, da, Nat.zero_le _, rfl, HTL.out⟩
    case round =>
      clear HTL
      obtain ⟨j, bs, hjn, rfl, HI⟩ := hrel
      by_cases hlt : j < pn
      · have hji : (j : Int) < (pn : Int) := by omega
        obtain ⟨g, hoa, hbg, _⟩ := HI.out.own.addr (by intro h; have := HI.out.len; rw [h] at this; simp at this; omega)
        subst hoa
        obtain ⟨y, hy, hf, hti⟩ := HI.out.up hlt
        have hup := byte_up y
        obtain ⟨z, hz⟩ : ∃ z, y + 1 = z := ⟨_, rfl⟩
        rw [hz] at hup hti
        have HTI := show Hid (TlI _ _ _ _ _ _ _ _ _ _ _ _) from hti
        clear hti hz
        go_wp2
        go_roundw
        case rel => exact ⟨j + 1, _, by omega, by go_num, HTI.out⟩
        case measure => simp [intOf]; omega
      · have HRW := show Hid (RowIs wr _ _ _) from HI.out.row
        have HZW := show Hid (RowIs wr _ _ _) from HI.out.zero
        have HR7 : Hid (R4.toList.toArray = R4) := by unfold Hid; simp
        unfold RowIs at HRW
        rw [HR7.out] at HRW
        go_wp2_with (first
          | (refine wpList_load_row rfl 27 (.tmp 4) rfl (w.heap.size) rfl 27 R4 (0, 0) _ HRW.out Try.underlying27 rfl (by rw [h47]; kernel_rfl) ?_)
          | (refine wpList_store_row rfl 27 (.tmp 6) (.tmp 146) rfl (w.heap.size + 2) R4 rfl rfl 27 _ HZW.out (by rw [h47]; kernel_rfl) (by rw [h47]; rfl) h41 ?_))
        have HRX := HZW.out.setRow R4.toList
        have HR8 : R4.toList.toArray = R4 := by simp
        rw [HR8] at HRX
        refine bodyPost_ret (ret27t Try.results13 _ _ (w.heap.size + 2) R4.toList rfl HRX (by simp [h47]) _ rfl) rfl ⟨_, by rw [HR8]; rfl, ?_⟩
        exact ⟨(HI.out.lives.setRow _ (by omega) (by have := HSZ.out; omega) R4).joint (by have := HSZ.out; omega) (HI.out.ref.setRowAny HZW.out (by decide) R4) HG.out (by have := HI.out.turn.size; simpa using this), HI.out.turn.setRow (by omega) R4, fun b hb => by rw [Go.setRow_other _ _ _ _ (by have := hb.lt; omega)]; exact HI.out.typ b hb⟩
  · have HTQ : Hid (failD S N dn = T) := by have := HT.out; unfold actS at this; simp only [HQ.out] at this; exact this
    obtain ⟨E, hE⟩ : ∃ E, failE S N = E := ⟨_, rfl⟩
    have HE : Hid (failE S N = E) := hE
    clear hE
    go_wp2_with (first
      | (go_at_call 30; refine (d_fail HD2.out N HAV.out.nb dn).mono ?_; rw [HE.out, HTQ.out]; rintro e w3 ⟨rfl, hp3⟩; have HR3 := show Hid (RowIs w3 _ _ _) from HR2.out.keep (hp3.keep _ (Nat.le_refl _) HR2.out.lt); have hx3 : RowIs w3 _ _ _ := HX2.out.keep (hp3.keep _ (by omega) HX2.out.lt); have y1 := hx3.cell (j := 1) rfl; have y2 := hx3.cell (j := 2) rfl; have y3 := hx3.cell (j := 3) rfl; have y4 := hx3.cell (j := 4) rfl; have y5 := hx3.cell (j := 5) rfl; have hcv := conv_at pc (HAV.out.at_.after hp3.lives.aft); have hdl := HAV.out.dl; simp only at hdl hcv; rw [hdl] at hcv; clear hdl hx3; have HP3 := show Hid (DPost _ _ _ _ _ _ _) from hp3; clear hp3)
      | (refine wpList_load_row rfl 27 (.tmp 4) rfl (w.heap.size) rfl 27 _ (0, 0) _ HR3.out Try.underlying27 rfl (by kernel_rfl) ?_)
      | (go_at_call 39; refine (failR S N HAV.out.nb dn w3 _ (HP3.out.ref _ _ HRF2.out)).mono ?_; unfold RPostR; rw [HE.out, HTQ.out]; rintro e w4 ⟨v4, rfl, hr4, ha4⟩; obtain ⟨R4, hv4, h47, h41⟩ := hr4.shape; subst hv4; have HRF4 := show Hid (RefAt w4 _ _) from hr4; have HA4 : Hid (After w3 w4) := ha4; have HR4 := show Hid (RowIs w4 _ _ _) from HR3.out.below ha4 HR3.out.lt; clear hr4 ha4)
      | (refine wpList_store_row rfl 27 (.tmp 4) (.tmp 115) rfl (w.heap.size) R4 rfl rfl 27 _ HR4.out (by rw [h47]; kernel_rfl) (by rw [h47]; rfl) h41 ?_))
    have HTL := show Hid _ from NEXT.out w3 w4 R4 h47 HP3.out HA4.out HRF4.out
    clear NEXT
    go_loopw [11] (fun iv wr => ∃ (j : Nat) (bs : List UInt8), j ≤ pn ∧ iv = .int .i64 (j : Int) ∧ Hid (TlI w0 G w w.heap.size w2.heap.size sb T R4 pn (.slice oa pn oc) bs wr)) (fun iv _ => pn - (intOf iv).toNat)
    case atStart => exact ⟨0, da, Nat.zero_le _, rfl, HTL.out⟩
    case round =>
      clear HTL
      obtain ⟨j, bs, hjn, rfl, HI⟩ := hrel
      by_cases hlt : j < pn
      · have hji : (j : Int) < (pn : Int) := by omega
        obtain ⟨g, hoa, hbg, _⟩ := HI.out.own.addr (by intro h; have := HI.out.len; rw [h] at this; simp at this; omega)
        subst hoa
        obtain ⟨y, hy, hf, hti⟩ := HI.out.up hlt
        have hup := byte_up y
        obtain ⟨z, hz⟩ : ∃ z, y + 1 = z := ⟨_, rfl⟩
        rw [hz] at hup hti
        have HTI := show Hid (TlI _ _ _ _ _ _ _ _ _ _ _ _) from hti
        clear hti hz
        go_wp2
        go_roundw
        case rel => exact ⟨j + 1, _, by omega, by go_num, HTI.out⟩
        case measure => simp [intOf]; omega
      · have HRW := show Hid (RowIs wr _ _ _) from HI.out.row
        have HZW := show Hid (RowIs wr _ _ _) from HI.out.zero
        have HR7 : Hid (R4.toList.toArray = R4) := by unfold Hid; simp
        unfold RowIs at HRW
        rw [HR7.out] at HRW
        go_wp2_with (first
          | (refine wpList_load_row rfl 27 (.tmp 4) rfl (w.heap.size) rfl 27 R4 (0, 0) _ HRW.out Try.underlying27 rfl (by rw [h47]; kernel_rfl) ?_)
          | (refine wpList_store_row rfl 27 (.tmp 6) (.tmp 146) rfl (w.heap.size + 2) R4 rfl rfl 27 _ HZW.out (by rw [h47]; kernel_rfl) (by rw [h47]; rfl) h41 ?_))
        have HRX := HZW.out.setRow R4.toList
        have HR8 : R4.toList.toArray = R4 := by simp
        rw [HR8] at HRX
        refine bodyPost_ret (ret27t Try.results13 _ _ (w.heap.size + 2) R4.toList rfl HRX (by simp [h47]) _ rfl) rfl ⟨_, by rw [HR8]; rfl, ?_⟩
        exact ⟨(HI.out.lives.setRow _ (by omega) (by have := HSZ.out; omega) R4).joint (by have := HSZ.out; omega) (HI.out.ref.setRowAny HZW.out (by decide) R4) HG.out (by have := HI.out.turn.size; simpa using this), HI.out.turn.setRow (by omega) R4, fun b hb => by rw [Go.setRow_other _ _ _ _ (by have := hb.lt; omega)]; exact HI.out.typ b hb⟩
  · have HTQ : Hid (startS S da = T) := by have := HT.out; unfold actS at this; simp only [HQ.out] at this; exact this
    go_wp2_with (first
      | (go_at_call 19; refine (d_start HD2.out oa pn oc da HAV.out.dl HC2.out HT2.out (fun hne a ha => Or.inr (by have := HBF.out hne a ha; omega))).mono ?_; rw [HTQ.out]; rintro e w3 ⟨rfl, hp3⟩; have HR3 := show Hid (RowIs w3 _ _ _) from HR2.out.keep (hp3.keep _ (Nat.le_refl _) HR2.out.lt); have hx3 : RowIs w3 _ _ _ := HX2.out.keep (hp3.keep _ (by omega) HX2.out.lt); have y1 := hx3.cell (j := 1) rfl; have y2 := hx3.cell (j := 2) rfl; have y3 := hx3.cell (j := 3) rfl; have y4 := hx3.cell (j := 4) rfl; have y5 := hx3.cell (j := 5) rfl; have hcv := conv_at pc (HAV.out.at_.after hp3.lives.aft); have hdl := HAV.out.dl; simp only at hdl hcv; rw [hdl] at hcv; clear hdl hx3; have HP3 := show Hid (DPost _ _ _ _ _ _ _) from hp3; clear hp3)
      | (refine wpList_load_row rfl 27 (.tmp 4) rfl (w.heap.size) rfl 27 _ (0, 0) _ HR3.out Try.underlying27 rfl (by kernel_rfl) ?_)
      | (go_at_call 20; refine (startR S HOK.out pa pn pc da HAV.out.dl HAV.out.pl (by omega) w3 _ (HP3.out.ref _ _ HRF2.out) (HAV.out.at_.after HP3.out.lives.aft)).mono ?_; rw [HTQ.out]; rintro e w4 ⟨v4, rfl, hr4, ha4⟩; obtain ⟨R4, hv4, h47, h41⟩ := hr4.shape; subst hv4; have HRF4 := show Hid (RefAt w4 _ _) from hr4; have HA4 : Hid (After w3 w4) := ha4; have HR4 := show Hid (RowIs w4 _ _ _) from HR3.out.below ha4 HR3.out.lt; clear hr4 ha4)
      | (refine wpList_store_row rfl 27 (.tmp 4) (.tmp 25) rfl (w.heap.size) R4 rfl rfl 27 _ HR4.out (by rw [h47]; kernel_rfl) (by rw [h47]; rfl) h41 ?_))
    have HTL := show Hid _ from NEXT.out w3 w4 R4 h47 HP3.out HA4.out HRF4.out
    clear NEXT
    go_loopw [11] (fun iv wr => ∃ (j : Nat) (bs : List UInt8), j ≤ pn ∧ iv = .int .i64 (j : Int) ∧ Hid (TlI w0 G w w.heap.size w2.heap.size sb T R4 pn (.slice oa pn oc) bs wr)) (fun iv _ => pn - (intOf iv).toNat)
    case atStart => exact ⟨0, da, Nat.zero_le _, rfl, HTL.out⟩
    case round =>
      clear HTL
      obtain ⟨j, bs, hjn, rfl, HI⟩ := hrel
      by_cases hlt : j < pn
      · have hji : (j : Int) < (pn : Int) := by omega
        obtain ⟨g, hoa, hbg, _⟩ := HI.out.own.addr (by intro h; have := HI.out.len; rw [h] at this; simp at this; omega)
        subst hoa
        obtain ⟨y, hy, hf, hti⟩ := HI.out.up hlt
        have hup := byte_up y
        obtain ⟨z, hz⟩ : ∃ z, y + 1 = z := ⟨_, rfl⟩
        rw [hz] at hup hti
        have HTI := show Hid (TlI _ _ _ _ _ _ _ _ _ _ _ _) from hti
        clear hti hz
        go_wp2
        go_roundw
        case rel => exact ⟨j + 1, _, by omega, by go_num, HTI.out⟩
        case measure => simp [intOf]; omega
      · have HRW := show Hid (RowIs wr _ _ _) from HI.out.row
        have HZW := show Hid (RowIs wr _ _ _) from HI.out.zero
        have HR7 : Hid (R4.toList.toArray = R4) := by unfold Hid; simp
        unfold RowIs at HRW
        rw [HR7.out] at HRW
        go_wp2_with (first
          | (refine wpList_load_row rfl 27 (.tmp 4) rfl (w.heap.size) rfl 27 R4 (0, 0) _ HRW.out Try.underlying27 rfl (by rw [h47]; kernel_rfl) ?_)
          | (refine wpList_store_row rfl 27 (.tmp 6) (.tmp 146) rfl (w.heap.size + 2) R4 rfl rfl 27 _ HZW.out (by rw [h47]; kernel_rfl) (by rw [h47]; rfl) h41 ?_))
        have HRX := HZW.out.setRow R4.toList
        have HR8 : R4.toList.toArray = R4 := by simp
        rw [HR8] at HRX
        refine bodyPost_ret (ret27t Try.results13 _ _ (w.heap.size + 2) R4.toList rfl HRX (by simp [h47]) _ rfl) rfl ⟨_, by rw [HR8]; rfl, ?_⟩
        exact ⟨(HI.out.lives.setRow _ (by omega) (by have := HSZ.out; omega) R4).joint (by have := HSZ.out; omega) (HI.out.ref.setRowAny HZW.out (by decide) R4) HG.out (by have := HI.out.turn.size; simpa using this), HI.out.turn.setRow (by omega) R4, fun b hb => by rw [Go.setRow_other _ _ _ _ (by have := hb.lt; omega)]; exact HI.out.typ b hb⟩
  · have HTQ : Hid (cutS S nm N = T) := by have := HT.out; unfold actS at this; simp only [HQ.out] at this; exact this
    obtain ⟨E, hE⟩ : ∃ E, cutE S nm N = E := ⟨_, rfl⟩
    have HE : Hid (cutE S nm N = E) := hE
    clear hE
    go_wp2_with (first
      | (go_at_call 33; refine (d_cut HD2.out hst nm HAV.out.nl N).mono ?_; rw [HE.out, HTQ.out]; rintro e w3 ⟨rfl, hp3⟩; have HR3 := show Hid (RowIs w3 _ _ _) from HR2.out.keep (hp3.keep _ (Nat.le_refl _) HR2.out.lt); have hx3 : RowIs w3 _ _ _ := HX2.out.keep (hp3.keep _ (by omega) HX2.out.lt); have y1 := hx3.cell (j := 1) rfl; have y2 := hx3.cell (j := 2) rfl; have y3 := hx3.cell (j := 3) rfl; have y4 := hx3.cell (j := 4) rfl; have y5 := hx3.cell (j := 5) rfl; have hcv := conv_at pc (HAV.out.at_.after hp3.lives.aft); have hdl := HAV.out.dl; simp only at hdl hcv; rw [hdl] at hcv; clear hdl hx3; have HP3 := show Hid (DPost _ _ _ _ _ _ _) from hp3; clear hp3)
      | (refine wpList_load_row rfl 27 (.tmp 4) rfl (w.heap.size) rfl 27 _ (0, 0) _ HR3.out Try.underlying27 rfl (by kernel_rfl) ?_)
      | (go_at_call 40; refine (cutR S HOK.out hst nm HAV.out.nl N w3 _ (HP3.out.ref _ _ HRF2.out)).mono ?_; unfold RPostR; rw [HE.out, HTQ.out]; rintro e w4 ⟨v4, rfl, hr4, ha4⟩; obtain ⟨R4, hv4, h47, h41⟩ := hr4.shape; subst hv4; have HRF4 := show Hid (RefAt w4 _ _) from hr4; have HA4 : Hid (After w3 w4) := ha4; have HR4 := show Hid (RowIs w4 _ _ _) from HR3.out.below ha4 HR3.out.lt; clear hr4 ha4)
      | (refine wpList_store_row rfl 27 (.tmp 4) (.tmp 132) rfl (w.heap.size) R4 rfl rfl 27 _ HR4.out (by rw [h47]; kernel_rfl) (by rw [h47]; rfl) h41 ?_))
    have HTL := show Hid _ from NEXT.out w3 w4 R4 h47 HP3.out HA4.out HRF4.out
    clear NEXT
    go_loopw [11] (fun iv wr => ∃ (j : Nat) (bs : List UInt8), j ≤ pn ∧ iv = .int .i64 (j : Int) ∧ Hid (TlI w0 G w w.heap.size w2.heap.size sb T R4 pn (.slice oa pn oc) bs wr)) (fun iv _ => pn - (intOf iv).toNat)
    case atStart => exact ⟨0, da, Nat.zero_le _, rfl, HTL.out⟩
    case round =>
      clear HTL
      obtain ⟨j, bs, hjn, rfl, HI⟩ := hrel
      by_cases hlt : j < pn
      · have hji : (j : Int) < (pn : Int) := by omega
        obtain ⟨g, hoa, hbg, _⟩ := HI.out.own.addr (by intro h; have := HI.out.len; rw [h] at this; simp at this; omega)
        subst hoa
        obtain ⟨y, hy, hf, hti⟩ := HI.out.up hlt
        have hup := byte_up y
        obtain ⟨z, hz⟩ : ∃ z, y + 1 = z := ⟨_, rfl⟩
        rw [hz] at hup hti
        have HTI := show Hid (TlI _ _ _ _ _ _ _ _ _ _ _ _) from hti
        clear hti hz
        go_wp2
        go_roundw
        case rel => exact ⟨j + 1, _, by omega, by go_num, HTI.out⟩
        case measure => simp [intOf]; omega
      · have HRW := show Hid (RowIs wr _ _ _) from HI.out.row
        have HZW := show Hid (RowIs wr _ _ _) from HI.out.zero
        have HR7 : Hid (R4.toList.toArray = R4) := by unfold Hid; simp
        unfold RowIs at HRW
        rw [HR7.out] at HRW
        go_wp2_with (first
          | (refine wpList_load_row rfl 27 (.tmp 4) rfl (w.heap.size) rfl 27 R4 (0, 0) _ HRW.out Try.underlying27 rfl (by rw [h47]; kernel_rfl) ?_)
          | (refine wpList_store_row rfl 27 (.tmp 6) (.tmp 146) rfl (w.heap.size + 2) R4 rfl rfl 27 _ HZW.out (by rw [h47]; kernel_rfl) (by rw [h47]; rfl) h41 ?_))
        have HRX := HZW.out.setRow R4.toList
        have HR8 : R4.toList.toArray = R4 := by simp
        rw [HR8] at HRX
        refine bodyPost_ret (ret27t Try.results13 _ _ (w.heap.size + 2) R4.toList rfl HRX (by simp [h47]) _ rfl) rfl ⟨_, by rw [HR8]; rfl, ?_⟩
        exact ⟨(HI.out.lives.setRow _ (by omega) (by have := HSZ.out; omega) R4).joint (by have := HSZ.out; omega) (HI.out.ref.setRowAny HZW.out (by decide) R4) HG.out (by have := HI.out.turn.size; simpa using this), HI.out.turn.setRow (by omega) R4, fun b hb => by rw [Go.setRow_other _ _ _ _ (by have := hb.lt; omega)]; exact HI.out.typ b hb⟩
end Go.Proofs.Ytlbodickflljfaa
