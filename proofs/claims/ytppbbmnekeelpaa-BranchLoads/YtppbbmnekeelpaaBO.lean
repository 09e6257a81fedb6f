/-
  THE LAWS' do (10): a call on both.
-/
import Derived.Test.YtppbbmnekeelpaaBN
import Derived.Test.YtppbbmnekeelpaaBA
namespace Go.Proofs.Ytppbbmnekeelpaa
open Go.RowKit Dsk
attribute [local go_sem] Oper.semAt_some
/-- What lies in rows stays. -/
structure CK (W W' : World) : Prop where
  size : W.heap.size ≤ W'.heap.size
  cells : ∀ (b : Nat) (c : Array Value) (t : TypeId) (f : Nat × Nat), W.heap[b]? = some (Obj.cells c t f) → W'.heap[b]? = some (Obj.cells c t f)
theorem CK.refl (W : World) : CK W W := ⟨Nat.le_refl _, fun _ _ _ _ h => h⟩
theorem CK.of_after {W W' : World} (h : After W W') : CK W W' := ⟨h.size, fun b c t f hb => by rw [h.block b (Array.getElem?_eq_some_iff.1 hb).1]; exact hb⟩
theorem CK.trans {a b c : World} (h : CK a b) (k : CK b c) : CK a c := ⟨Nat.le_trans h.size k.size, fun x c t f hb => k.cells x c t f (h.cells x c t f hb)⟩
theorem CK.of_map {W W' : World} {mb : Nat} (h : KeptF (fun b => b = mb) W W') {F : Nat → Prop} {tb : Nat} {cs : List Ent} (hT : TbA W F tb mb cs) : CK W W' := ⟨h.size, fun b c t f hb => by
  obtain ⟨es, cl, hm, _⟩ := hT.own
  rw [h.block b (Array.getElem?_eq_some_iff.1 hb).1 (fun e => by rw [e, hm] at hb; cases hb)]; exact hb⟩
theorem CK.row {W W' : World} (h : CK W W') {g : Nat} {t : TypeId} {cs : List Value} (hr : RowIs W g t cs) : RowIs W' g t cs := h.cells _ _ _ _ hr
theorem CK.cell {W W' : World} (h : CK W W') {p : Addr} {v : Value} (hc : W.cell? p = some v) : W'.cell? p = some v := by
  unfold World.cell? at hc ⊢
  split at hc
  · rename_i c t f hb
    rw [h.cells _ _ _ _ hb]; exact hc
  · cases hc
theorem CK.range {W W' : World} (h : CK W W') {b o : Nat} {l : List Value} (hr : W.rangeAt b o l) : W'.rangeAt b o l := fun j v hv => h.cell (hr j v hv)
theorem CK.sl {W W' : World} (h : CK W W') {k : Nat} {a : Option Addr} {L : List (List Value)} (hs : SlAt W k a L) : SlAt W' k a L := ⟨hs.1, fun hn => by obtain ⟨b, o, e, hr⟩ := hs.2 hn; exact ⟨b, o, e, h.range hr⟩⟩
theorem CK.bx {W W' : World} (h : CK W W') {x : Bx} (hx : BxAt W x) : BxAt W' x := ⟨h.sl hx.sl, hx.l32, hx.z, hx.fit⟩
theorem CK.bs {W W' : World} (h : CK W W') {a : Option Addr} {X : List Bx} (hx : BsAt W a X) : BsAt W' a X := ⟨h.sl hx.sl, fun x hm => h.bx (hx.each x hm)⟩
theorem CK.rt {W W' : World} (h : CK W W') {a : Option Addr} {n c : Nat} {X : List Bx} (hx : RT W a n c X) : RT W' a n c X := ⟨h.bs hx.at_, hx.len, hx.cap, hx.z⟩
theorem RT.kept {W W' : World} {G : Nat → Prop} {a : Option Addr} {n c : Nat} {X : List Bx} (h : RT W a n c X) (hk : KeptF G W W') (hnt : ∀ g, G g → NT g a X) : RT W' a n c X := by
  have rk : ∀ {b o : Nat} {l : List Value}, W.rangeAt b o l → ¬ G b → W'.rangeAt b o l := fun {b o l} hr hG j v hv => by
    have hc := hr j v hv
    exact Eq.trans (World.cell?_of_block (w := W) (show W'.heap[(⟨b, o + j, none⟩ : Addr).block]? = W.heap[(⟨b, o + j, none⟩ : Addr).block]? from hk.block b (World.block_lt_of_cell? W _ hc) hG)) hc
  refine ⟨⟨⟨h.at_.sl.1, fun hn => ?_⟩, fun x hx => ⟨⟨(h.at_.each x hx).sl.1, fun hn => ?_⟩, (h.at_.each x hx).l32, (h.at_.each x hx).z, (h.at_.each x hx).fit⟩⟩, h.len, h.cap, h.z⟩
  · obtain ⟨b, o, e, hr⟩ := h.at_.sl.2 hn
    exact ⟨b, o, e, rk hr (fun hG => (hnt b hG).1 _ e (fun e2 => hn (by rw [e2]; rfl)) rfl)⟩
  · obtain ⟨b, o, e, hr⟩ := (h.at_.each x hx).sl.2 hn
    exact ⟨b, o, e, rk hr (fun hG => (hnt b hG).2 x hx _ e (fun e2 => hn (by rw [e2]; rfl)) rfl)⟩
/-- A call as it lies. -/
structure Ac where
  k : UInt8
  nm : Dsk.Nm
  a : Option Addr
  c : Nat
  l : List H
def acv (x : Ac) : List Value := [.int .u8 (x.k.toNat : Int), .string (strOf x.nm), .slice x.a x.l.length x.c]
structure AcAt (W : World) (x : Ac) : Prop where
  sl : SlAt W 32 x.a (hsL x.l)
  l32 : All32 x.l
  z : x.a = none → x.c = 0
  fit : x.l.length * 32 ≤ 140737488355328
  nl : x.nm.length ≤ maxLen
theorem AcAt.ck {W W' : World} {x : Ac} (h : AcAt W x) (hk : CK W W') : AcAt W' x := ⟨hk.sl h.sl, h.l32, h.z, h.fit, h.nl⟩
def stS (S : Tb) (x : Ac) : Tb := if x.k.toNat % 4 ≤ 1 then crS S x.nm x.l else if x.k.toNat % 4 = 2 then mvS S x.nm x.l else dlS S x.nm
theorem stS_ok {S : Tb} (h : TOk S) {x : Ac} (h32 : All32 x.l) : TOk (stS S x) := by
  unfold stS
  split
  · exact h.cr _ _ h32
  · split
    · exact h.mv _ _ h32
    · exact h.dl _
theorem x_rem4 {oi : Oper} {a : Act} {w : World} {x : Operand} {k : UInt8} {r : Nat} (hr : k.toNat % 4 = r) (hop : oi.op = .binOp .rem 5 x (.const (.int .u8 4)) 5) (hx : a.eval x = .int .u8 (k.toNat : Int)) : (execOp a.eval oi).run Try.prog w = .ok (.value (.int .u8 (r : Int))) w := by
  have e : a.eval (.const (.int .u8 4)) = .int .u8 4 := rfl
  have h1 : Int.tmod (k.toNat : Int) 4 = (r : Int) := by
    rw [Int.tmod_eq_emod_of_nonneg (by omega)]; omega
  have h2 : (r : Int) < 4 := by omega
  unfold execOp
  simp only [hop, hx, e]
  simp [go_sem, h1]
/-- What do leaves. -/
def DoP (w : World) (F : Nat → Prop) (tb mb : Nat) (a : Option Addr) (X : List Bx) (S : Tb) (w' : World) (a' : Option Addr) (n' c' : Nat) : Prop := ∃ X' cs', fls cs' = S ∧ bof X' = S ∧ TbA w' (more F w w') tb mb cs' ∧ RT w' a' n' c' X' ∧ KeptF (fun b => b = mb) w w' ∧ ∀ g, g < w.heap.size → NT g a X → NT g a' X'
structure OI (w5 : World) (oa : Option Addr) (m : Nat) (wr : World) : Prop where
  kept : KeptF (fun b => ∃ ad, oa = some ad ∧ b = ad.block) w5 wr
  by_ : ∀ ad, oa = some ad → ad.off = 0 ∧ ad.spot = none ∧ BY wr ad.block (m * 32)
theorem OI.set {w5 wr : World} {hb m o : Nat} (h : OI w5 (some ⟨hb, 0, none⟩) m wr) (c : UInt8) : OI w5 (some ⟨hb, 0, none⟩) m (wr.drew.setCell ⟨hb, o, none⟩ (.int .u8 (c.toNat : Int))) := by
  have k1 : KeptF (fun b => ∃ ad, (some ⟨hb, 0, none⟩ : Option Addr) = some ad ∧ b = ad.block) w5 wr.drew := h.kept.trans (KeptF.of_after (After.drew (After.refl wr))) (fun _ _ h => h)
  refine ⟨k1.trans (KeptF.set wr.drew ⟨hb, o, none⟩ _ ⟨_, rfl, rfl⟩) (fun _ _ h => h), fun ad e => ?_⟩
  obtain ⟨h1, h2, h3⟩ := h.by_ ad e
  exact ⟨h1, h2, BY.set (W := wr.drew) h3 _ _ _⟩
theorem three27 {w W1 : World} {g0 n c : Nat} {a : Option Addr} {v0 v1 v2 : Value} (hg : w.heap.size = g0) (hW : ((w.alloc (.cells #[.slice a n c] 27)).alloc (.cells #[v0, v1, v2] 32)).alloc (.cells #[.slice none 0 0] 27) = W1) : RowIs W1 g0 27 [.slice a n c] ∧ RowIs W1 (g0 + 1) 32 [v0, v1, v2] ∧ RowIs W1 (g0 + 2) 27 [.slice none 0 0] ∧ After w W1 ∧ W1.heap.size = g0 + 3 := by
  refine ⟨?_, ?_, ?_, ?_, ?_⟩
  · rw [← hW, ← hg]; exact ((RowIs.new w 27 [.slice a n c]).alloc _).alloc _
  · rw [← hW, ← hg]; have := RowIs.new (w.alloc (.cells #[.slice a n c] 27)) 32 [v0, v1, v2]; rw [World.size_alloc] at this; exact this.alloc _
  · rw [← hW, ← hg]; have := RowIs.new ((w.alloc (.cells #[.slice a n c] 27)).alloc (.cells #[v0, v1, v2] 32)) 27 [.slice none 0 0]; rw [World.size_alloc, World.size_alloc] at this; exact this
  · rw [← hW]; exact after_alloc (after_alloc (after_alloc (After.refl w) _) _) _
  · rw [← hW, ← hg]; simp
set_option maxRecDepth 100000 in
set_option maxHeartbeats 12800000 in
theorem do10_0 {F : Nat → Prop} {tb mb n c : Nat} {cs : List Ent} {a : Option Addr} {X : List Bx} {x : Ac} {w : World} (hF : ∀ b, F b → b < w.heap.size) (hT : TbA w F tb mb cs) (hcs : TOk (fls cs)) (hR : RT w a n c X) (hb : bof X = fls cs) (hx : AcAt w x) (hr : x.k.toNat % 4 = 0) :
    Calls Try.prog 10 #[.pointer (some ⟨tb, 0, none⟩), .agg #[.slice a n c], .agg (acv x).toArray] w fun e w' => ∃ a' n' c', e = .returned (.tuple #[.agg #[.slice a' n' c'], .bool true]) ∧ DoP w F tb mb a X (stS (fls cs) x) w' a' n' c' := by
  obtain ⟨k, nm, ha, hc, l⟩ := x
  obtain ⟨m, hm⟩ : ∃ m, l.length = m := ⟨_, rfl⟩
  obtain ⟨g0, hg0⟩ : ∃ g0, w.heap.size = g0 := ⟨_, rfl⟩
  simp only at hr
  obtain ⟨W1, hW1⟩ : ∃ W1, ((w.alloc (.cells #[.slice a n c] 27)).alloc (.cells #[.int .u8 (k.toNat : Int), .string (strOf nm), .slice ha m hc] 32)).alloc (.cells #[.slice none 0 0] 27) = W1 := ⟨_, rfl⟩
  have HW := show Hid _ from three27 hg0 hW1
  obtain ⟨oa, oc, w2, r1, ho, a12, hoz⟩ := run_cpy (ca := hc) hm (by have := hx.fit; simp only [hm] at this; exact this) hx.z (hx.sl.after HW.out.2.2.2.1)
  have HE := show Hid _ from r1
  have HX : Hid (AcAt w ⟨k, nm, ha, hc, l⟩ ∧ l.length = m ∧ k.toNat % 4 = 0 ∧ m * 32 ≤ 140737488355328 ∧ nm.length ≤ maxLen) := ⟨hx, hm, hr, by have := hx.fit; simp only [hm] at this; exact this, hx.nl⟩
  have HT : Hid (TbA w F tb mb cs ∧ TOk (fls cs) ∧ RT w a n c X ∧ bof X = fls cs ∧ (∀ b, F b → b < g0)) := ⟨hT, hcs, hR, hb, fun b h => by rw [← hg0]; exact hF b h⟩
  have H2 : Hid (OwnL w2 W1.heap.size 50 32 (.slice oa m oc) (hsL l) ∧ After W1 w2 ∧ (oa = none → oc = 0) ∧ After w w2) := ⟨ho, a12, hoz, HW.out.2.2.2.1.trans a12⟩
  have HG0 : Hid (w.heap.size = g0) := hg0
  have d12 := (HW.out.2.1.alloc (.cells #[] 50)).cell (j := 2) rfl
  have d20 := (HW.out.2.1.below a12 HW.out.2.1.lt).cell (j := 0) rfl
  have d21 := (HW.out.2.1.below a12 HW.out.2.1.lt).cell (j := 1) rfl
  have hs2 : SlAt w2 32 oa (hsL l) := by obtain ⟨a', c', e, hs⟩ := ho.sl; injection e with e1 _ e3; subst e1 e3; exact hs
  have HS2 := show Hid _ from hs2
  have hm2 : m < 4611686018427387904 := by have := HX.out.2.2.2.1; omega
  clear hx hT hcs hR hb hF r1 ho a12 hoz hs2 hr
  unfold acv
  simp only [hm]
  clear hm
  go_enter Try.func10, Try.ntmps10
  go_wp2_with (first
    | (rw [hW1]; rw [hg0])
    | (refine wpList_of_run rfl (x_bs30e rfl) ?_)
    | (refine wpList_of_run rfl (x_app (t := 30) (s := .tmp 12) (x := .tmp 14) rfl (by kernel_rfl) (by kernel_rfl) HE.out) ?_)
    | (refine wpList_of_run rfl (x_rem4 (x := .tmp 17) (k := k) (r := 0) HX.out.2.2.1 rfl (by kernel_rfl)) ?_)
    | (go_at_call 20; refine Calls.mono (create20 (nm := nm) (n := m) HX.out.2.2.2.2 HT.out.2.1 HX.out.1.l32 HX.out.2.1 H2.out.2.2.1 HS2.out (HT.out.1.after H2.out.2.2.2)) ?_; rintro e w3 ⟨he, cs3, k1, k2, k3⟩; obtain ⟨E, hE⟩ : ∃ E : Nat, crE (fls cs) nm l = E := ⟨_, rfl⟩; rw [hE] at he; subst he; have H3 : Hid (fls cs3 = stS (fls cs) ⟨k, nm, ha, hc, l⟩ ∧ TbA w3 (more F w2 w3) tb mb cs3 ∧ KeptF (fun b => b = mb) w2 w3 ∧ CK w w3 ∧ CK w2 w3 ∧ crE (fls cs) nm l = E) := ⟨by rw [k1]; simp only [stS, HX.out.2.2.1]; rfl, k2, k3, (CK.of_after H2.out.2.2.2).trans (CK.of_map k3 (HT.out.1.after H2.out.2.2.2)), CK.of_map k3 (HT.out.1.after H2.out.2.2.2), hE⟩; have d30 := (H3.out.2.2.2.2.1.row (HW.out.2.1.below H2.out.2.1 HW.out.2.1.lt)).cell (j := 1) rfl; have d31 := (H3.out.2.2.2.2.1.row (HW.out.2.1.below H2.out.2.1 HW.out.2.1.lt)).cell (j := 2) rfl; clear k1 k2 k3 hE)
    | (refine wpList_load_row rfl 27 (.tmp 4) rfl g0 (by kernel_rfl) 27 #[.slice a n c] (0, 0) _ (H3.out.2.2.2.2.1.row (HW.out.1.below H2.out.2.1 HW.out.1.lt)) Try.underlying27 rfl (size27 a n c) ?_)
    | (go_at_call 25; refine Calls.mono (rcreate25 (nm := nm) (m := m) HX.out.2.2.2.2 (by rw [HT.out.2.2.2.1]; exact HT.out.2.1) HX.out.1.l32 HX.out.2.1 (H3.out.2.2.2.1.rt HT.out.2.2.1) HX.out.1.z (H3.out.2.2.2.1.sl HX.out.1.sl)) ?_; rintro e w4 ⟨a4, n4, c4, X4, he, k1, k2, k3, k4⟩; rw [HT.out.2.2.2.1, H3.out.2.2.2.2.2] at he; subst he; have H4 : Hid (RT w4 a4 n4 c4 X4 ∧ bof X4 = stS (fls cs) ⟨k, nm, ha, hc, l⟩ ∧ After w3 w4 ∧ (∀ g, g < w3.heap.size → NT g a X → NT g a4 X4)) := ⟨k1, by rw [k2, HT.out.2.2.2.1]; simp only [stS, HX.out.2.2.1]; rfl, k3, k4⟩; clear k1 k2 k3 k4)
    | (refine wpList_store_row rfl 27 (.tmp 4) (.tmp 45) rfl g0 #[.slice a4 n4 c4] (by kernel_rfl) (by kernel_rfl) 27 _ ((H3.out.2.2.2.2.1.row (HW.out.1.below H2.out.2.1 HW.out.1.lt)).below H4.out.2.2.1 (H3.out.2.2.2.2.1.row (HW.out.1.below H2.out.2.1 HW.out.1.lt)).lt) (size27 a4 n4 c4) rfl (one27 a4 n4 c4) ?_))
  have hR0 : RowIs w4 g0 27 [.slice a n c] := (H3.out.2.2.2.2.1.row (HW.out.1.below H2.out.2.1 HW.out.1.lt)).below H4.out.2.2.1 (H3.out.2.2.2.2.1.row (HW.out.1.below H2.out.2.1 HW.out.1.lt)).lt
  have hR2 : RowIs w4 (g0 + 2) 27 [.slice none 0 0] := (H3.out.2.2.2.2.1.row (HW.out.2.2.1.below H2.out.2.1 HW.out.2.2.1.lt)).below H4.out.2.2.1 (H3.out.2.2.2.2.1.row (HW.out.2.2.1.below H2.out.2.1 HW.out.2.2.1.lt)).lt
  obtain ⟨w5, hw5⟩ : ∃ w5, w4.setRow g0 #[.slice a4 n4 c4] = w5 := ⟨_, rfl⟩
  rw [hw5]
  have k45 : KeptF (fun b => b = g0) w4 w5 := by rw [← hw5]; exact ⟨rfl, rfl, rfl, by rw [size_setRow]; exact Nat.le_refl _, fun b _ hb => setRow_other _ _ _ _ hb⟩
  have hR05 : RowIs w5 g0 27 [.slice a4 n4 c4] := by rw [← hw5]; exact hR0.setRow _
  have hR25 : RowIs w5 (g0 + 2) 27 [.slice none 0 0] := k45.row hR2 (by omega)
  have hsz2 : g0 + 3 ≤ w2.heap.size := by have := H2.out.2.1.size; have := HW.out.2.2.2.2; omega
  have hsz3 : w2.heap.size ≤ w3.heap.size := H3.out.2.2.2.2.1.size
  have hsz4 : w3.heap.size ≤ w4.heap.size := H4.out.2.2.1.size
  have hob : ∀ ad, oa = some ad → g0 + 3 ≤ ad.block ∧ ad.block < w2.heap.size := fun ad e => by have := own_block H2.out.1 ad e; have := HW.out.2.2.2.2; omega
  have hO5 : OI w5 oa m w5 := ⟨KeptF.refl _ _, fun ad e => by
    have h1 := own_rw H2.out.1 ad e
    have h2 : BY w2 ad.block (l.length * 32) := by_sl (e ▸ HS2.out) h1
    rw [HX.out.2.1] at h2
    obtain ⟨bs, hbr, hbb⟩ := h2
    have h3 := H3.out.2.2.2.2.1.row hbr
    have h4 := k45.row (h3.below H4.out.2.2.1 h3.lt) (by have := hob ad e; omega)
    exact ⟨h1.1, h1.2.1, bs, h4, hbb⟩⟩
  have HO5 := show Hid _ from hO5
  have HR5 : Hid (RowIs w5 g0 27 [.slice a4 n4 c4] ∧ RowIs w5 (g0 + 2) 27 [.slice none 0 0] ∧ KeptF (fun b => b = g0) w4 w5 ∧ g0 + 3 ≤ w2.heap.size ∧ w2.heap.size ≤ w3.heap.size ∧ w3.heap.size ≤ w4.heap.size ∧ (∀ ad, oa = some ad → g0 + 3 ≤ ad.block ∧ ad.block < w2.heap.size)) := ⟨hR05, hR25, k45, hsz2, hsz3, hsz4, hob⟩
  clear hR0 hR2 hw5 k45 hR05 hR25 hsz2 hsz3 hsz4 hob hO5 d12 d20 d21 d30 d31 hW1
  go_loopw [11] (fun iv wr => ∃ i : Nat, i ≤ m ∧ iv = .int .i64 (i : Int) ∧ Hid (OI w5 oa m wr)) (fun iv _ => m - (intOf iv).toNat)
  case atStart => exact ⟨0, Nat.zero_le _, rfl, HO5⟩
  case round =>
    obtain ⟨i, him, rfl, HI⟩ := hrel
    by_cases hlt : i < m
    · have hii : (i : Int) < (m : Int) := by omega
      have HLT : Hid (i < m) := hlt
      obtain ⟨hb, rfl, hby⟩ : ∃ hb, oa = some ⟨hb, 0, none⟩ ∧ BY wr hb (m * 32) := by
        obtain ⟨b, o, e, _⟩ := HS2.out.2 (fun e => by have h1 := HX.out.2.1; simp only [hsL, List.map_eq_nil_iff] at e; rw [e] at h1; simp at h1; omega)
        obtain ⟨k1, _, k3⟩ := HI.out.by_ ⟨b, o, none⟩ e
        simp only at k1 k3
        exact ⟨b, by rw [e, k1], k3⟩
      obtain ⟨cv, hcv⟩ := by_cell (o := i * 32) hby (by omega)
      have HBY : Hid (BY wr hb (m * 32)) := hby
      have HCV : Hid (wr.cell? ⟨hb, 0 + i * 32, none⟩ = some (.int .u8 (cv.toNat : Int))) := by rw [Nat.zero_add]; exact hcv
      clear hby hcv
      go_wp2_with fail
      refine wp_region_noPanic ?_
      refine wp_region_held_drew (S := KeptF (fun b => b = hb) wr) (by kernel_rfl) (KeptF.of_after (After.drew (After.refl wr))) ?_
      intro hS0
      refine tk 0 69 (.slice (some ⟨hb, 0, none⟩) m oc) (fuel := 8) rfl (by kernel_rfl) (by kernel_rfl) (by kernel_rfl) (by kernel_rfl) noPanic_false (by kernel_rfl) (fun _ _ => by kernel_rfl) hS0 ?_
      refine tk 1 70 (.int .i64 (i : Int)) (fuel := 7) rfl (by kernel_rfl) (by kernel_rfl) (by kernel_rfl) (by kernel_rfl) noPanic_false (by kernel_rfl) (fun _ _ => by kernel_rfl) hS0 ?_
      refine tk 2 71 (.pointer (some ⟨hb, 0 + i * 32, none⟩)) (fuel := 6) rfl (by kernel_rfl) (by kernel_rfl) (by kernel_rfl) (by kernel_rfl) noPanic_false (by kernel_rfl) (fun W _ => x_idx44 (n := m) (c := oc) (x := .tmp 69) (y := .tmp 70) (by kernel_rfl) (by kernel_rfl) (by kernel_rfl) HLT.out) hS0 ?_
      refine tk 3 72 (.pointer (some ⟨hb, 0 + i * 32, none⟩)) (fuel := 5) rfl (by kernel_rfl) (by kernel_rfl) (by kernel_rfl) (by kernel_rfl) noPanic_false (by kernel_rfl) (fun _ _ => by kernel_rfl) hS0 ?_
      refine tk 6 75 (.pointer (some ⟨hb, 0 + i * 32, none⟩)) (fuel := 4) rfl (by kernel_rfl) (by kernel_rfl) (by kernel_rfl) (by kernel_rfl) noPanic_false (by kernel_rfl) (fun W _ => x_idx44 (n := m) (c := oc) (x := .tmp 69) (y := .tmp 70) (by kernel_rfl) (by kernel_rfl) (by kernel_rfl) HLT.out) hS0 ?_
      refine tkRunS 4 73 (.int .u8 (cv.toNat : Int)) (wr.drew) (fuel := 3) rfl (by kernel_rfl) (by kernel_rfl) (by kernel_rfl) (x_loadT (x := .tmp 72) (t := 5) (g := hb) (j := 0 + i * 32) Try.underlying5 rfl (by kernel_rfl) (by kernel_rfl) HCV.out) (hS0) ?_
      refine tk 5 74 (.int .u8 ((cv + 1).toNat : Int)) (fuel := 2) rfl (by kernel_rfl) (by kernel_rfl) (by kernel_rfl) (by kernel_rfl) noPanic_false (by kernel_rfl) (fun W _ => x_add5 (x := .tmp 73) (by kernel_rfl) (by kernel_rfl)) hS0 ?_
      refine tk 7 76 (.pointer (some ⟨hb, 0 + i * 32, none⟩)) (fuel := 1) rfl (by kernel_rfl) (by kernel_rfl) (by kernel_rfl) (by kernel_rfl) noPanic_false (by kernel_rfl) (fun _ _ => by kernel_rfl) hS0 ?_
      refine tkStoreS 8 (wr.drew.setCell ⟨hb, 0 + i * 32, none⟩ (.int .u8 ((cv + 1).toNat : Int))) (fuel := 0) rfl (by kernel_rfl) (by kernel_rfl) (by kernel_rfl) (x_st5 (x := .tmp 76) (y := .tmp 74) (by kernel_rfl) (by kernel_rfl) (by kernel_rfl) HCV.out (by_frozen HBY.out)) (hS0.trans (KeptF.set (F := fun b => b = hb) wr.drew ⟨hb, 0 + i * 32, none⟩ _ rfl) (fun _ _ h => h)) ?_
      refine wpAnyH_done (by kernel_rfl) (NoPanic.normal ?_) _
      have HN : Hid (OI w5 (some ⟨hb, 0, none⟩) m (wr.drew.setCell ⟨hb, 0 + i * 32, none⟩ (.int .u8 ((cv + 1).toNat : Int)))) := HI.out.set _
      clear hS0
      obtain ⟨wn, hwn⟩ : ∃ wn, wr.drew.setCell ⟨hb, 0 + i * 32, none⟩ (.int .u8 ((cv + 1).toNat : Int)) = wn := ⟨_, rfl⟩
      rw [hwn] at HN ⊢
      clear hwn
      go_simp
      go_wp2
      go_roundw
      case rel => exact ⟨i + 1, by omega, by go_num, HN⟩
      case measure => simp [intOf]; omega
    · have hii : ¬ (i : Int) < (m : Int) := by omega
      have hR6 : RowIs wr g0 27 [.slice a4 n4 c4] := HI.out.kept.row HR5.out.1 (fun ⟨ad, e, h⟩ => by have := HR5.out.2.2.2.2.2.2 ad e; omega)
      have hR7 : RowIs wr (g0 + 2) 27 [.slice none 0 0] := HI.out.kept.row HR5.out.2.1 (fun ⟨ad, e, h⟩ => by have := HR5.out.2.2.2.2.2.2 ad e; omega)
      obtain ⟨w9, hw9⟩ : ∃ w9, wr.setRow (g0 + 2) #[.slice a4 n4 c4] = w9 := ⟨_, rfl⟩
      have k9 : KeptF (fun b => b = g0 ∨ b = g0 + 2 ∨ ∃ ad, oa = some ad ∧ b = ad.block) w4 w9 := by
        have k1 : KeptF (fun b => b = g0 ∨ b = g0 + 2 ∨ ∃ ad, oa = some ad ∧ b = ad.block) w4 wr := (HR5.out.2.2.1.mono (fun _ _ h => .inl h)).trans HI.out.kept (fun _ _ h => .inr (.inr h))
        refine k1.trans (G := fun b => b = g0 + 2) ?_ (fun _ _ h => .inr (.inl h))
        rw [← hw9]; exact ⟨rfl, rfl, rfl, by rw [size_setRow]; exact Nat.le_refl _, fun b _ hb => setRow_other _ _ _ _ hb⟩
      have HF : Hid (RowIs w9 (g0 + 2) 27 [.slice a4 n4 c4] ∧ DoP w F tb mb a X (stS (fls cs) ⟨k, nm, ha, hc, l⟩) w9 a4 n4 c4) := by
        refine ⟨by rw [← hw9]; exact hR7.setRow _, X4, cs3, H3.out.1, H4.out.2.1, ?_, ?_, ?_, fun g hg hn => H4.out.2.2.2 g (by have := HR5.out.2.2.2.1; have := HR5.out.2.2.2.2.1; have := HG0.out; omega) hn⟩
        · refine ((H3.out.2.1.after H4.out.2.2.1).kept k9 (fun b hbl hm hG => ?_)).mono (fun b hm => ?_)
          · have h1 := HR5.out.2.2.2.1
            rcases hm with hm | hm
            · have h2 := HT.out.2.2.2.2 b hm
              rcases hG with e | e | ⟨ad, e, e2⟩
              · omega
              · omega
              · have := HR5.out.2.2.2.2.2.2 ad e; omega
            · rcases hG with e | e | ⟨ad, e, e2⟩
              · omega
              · omega
              · have := HR5.out.2.2.2.2.2.2 ad e; omega
          · rcases hm with hm | hm
            · exact .inl hm
            · exact .inr ⟨by have := HR5.out.2.2.2.1; have := HG0.out; omega, by have := HR5.out.2.2.2.2.2.1; have := k9.size; omega⟩
        · refine H4.out.1.kept k9 (fun g hG => ?_)
          have hgs : w.heap.size ≤ g ∧ g < w3.heap.size := by
            have h1 := HR5.out.2.2.2.1; have h2 := HR5.out.2.2.2.2.1; have h3 := HG0.out
            rcases hG with e | e | ⟨ad, e, e2⟩
            · omega
            · omega
            · have := HR5.out.2.2.2.2.2.2 ad e; omega
          exact H4.out.2.2.2 g hgs.2 (HT.out.2.2.1.nt hgs.1)
        · have k1 : KeptF (fun b => b = mb) w w4 := ((KeptF.of_after (F := fun b => b = mb) H2.out.2.2.2).trans H3.out.2.2.1 (fun _ _ h => h)).trans (KeptF.of_after (F := fun b => b = mb) H4.out.2.2.1) (fun _ _ h => h)
          refine k1.trans k9 (fun b hb hG => ?_)
          have h3 := HG0.out
          rcases hG with e | e | ⟨ad, e, e2⟩
          · omega
          · omega
          · have := HR5.out.2.2.2.2.2.2 ad e; omega
      have HR6 : Hid (RowIs wr g0 27 [.slice a4 n4 c4] ∧ RowIs wr (g0 + 2) 27 [.slice none 0 0] ∧ wr.setRow (g0 + 2) #[.slice a4 n4 c4] = w9) := ⟨hR6, hR7, hw9⟩
      clear hR6 hR7 hw9 k9
      go_wp2_with (first
        | (refine wpList_load_row rfl 27 (.tmp 4) rfl g0 (by kernel_rfl) 27 #[.slice a4 n4 c4] (0, 0) _ HR6.out.1 Try.underlying27 rfl (size27 a4 n4 c4) ?_)
        | (refine wpList_store_row rfl 27 (.tmp 6) (.tmp 77) rfl (g0 + 2) #[.slice a4 n4 c4] (by kernel_rfl) (by kernel_rfl) 27 _ HR6.out.2.1 (size27 a4 n4 c4) rfl (one27 a4 n4 c4) ?_; rw [HR6.out.2.2]))
      refine bodyPost_ret (ret27t Try.results10 _ _ (g0 + 2) (.slice a4 n4 c4) (.bool true) (by kernel_rfl) HF.out.1 (by kernel_rfl)) rfl ?_
      exact ⟨_, _, _, rfl, HF.out.2⟩
set_option maxRecDepth 100000 in
set_option maxHeartbeats 12800000 in
theorem do10_1 {F : Nat → Prop} {tb mb n c : Nat} {cs : List Ent} {a : Option Addr} {X : List Bx} {x : Ac} {w : World} (hF : ∀ b, F b → b < w.heap.size) (hT : TbA w F tb mb cs) (hcs : TOk (fls cs)) (hR : RT w a n c X) (hb : bof X = fls cs) (hx : AcAt w x) (hr : x.k.toNat % 4 = 1) :
    Calls Try.prog 10 #[.pointer (some ⟨tb, 0, none⟩), .agg #[.slice a n c], .agg (acv x).toArray] w fun e w' => ∃ a' n' c', e = .returned (.tuple #[.agg #[.slice a' n' c'], .bool true]) ∧ DoP w F tb mb a X (stS (fls cs) x) w' a' n' c' := by
  obtain ⟨k, nm, ha, hc, l⟩ := x
  obtain ⟨m, hm⟩ : ∃ m, l.length = m := ⟨_, rfl⟩
  obtain ⟨g0, hg0⟩ : ∃ g0, w.heap.size = g0 := ⟨_, rfl⟩
  simp only at hr
  obtain ⟨W1, hW1⟩ : ∃ W1, ((w.alloc (.cells #[.slice a n c] 27)).alloc (.cells #[.int .u8 (k.toNat : Int), .string (strOf nm), .slice ha m hc] 32)).alloc (.cells #[.slice none 0 0] 27) = W1 := ⟨_, rfl⟩
  have HW := show Hid _ from three27 hg0 hW1
  obtain ⟨oa, oc, w2, r1, ho, a12, hoz⟩ := run_cpy (ca := hc) hm (by have := hx.fit; simp only [hm] at this; exact this) hx.z (hx.sl.after HW.out.2.2.2.1)
  have HE := show Hid _ from r1
  have HX : Hid (AcAt w ⟨k, nm, ha, hc, l⟩ ∧ l.length = m ∧ k.toNat % 4 = 1 ∧ m * 32 ≤ 140737488355328 ∧ nm.length ≤ maxLen) := ⟨hx, hm, hr, by have := hx.fit; simp only [hm] at this; exact this, hx.nl⟩
  have HT : Hid (TbA w F tb mb cs ∧ TOk (fls cs) ∧ RT w a n c X ∧ bof X = fls cs ∧ (∀ b, F b → b < g0)) := ⟨hT, hcs, hR, hb, fun b h => by rw [← hg0]; exact hF b h⟩
  have H2 : Hid (OwnL w2 W1.heap.size 50 32 (.slice oa m oc) (hsL l) ∧ After W1 w2 ∧ (oa = none → oc = 0) ∧ After w w2) := ⟨ho, a12, hoz, HW.out.2.2.2.1.trans a12⟩
  have HG0 : Hid (w.heap.size = g0) := hg0
  have d12 := (HW.out.2.1.alloc (.cells #[] 50)).cell (j := 2) rfl
  have d20 := (HW.out.2.1.below a12 HW.out.2.1.lt).cell (j := 0) rfl
  have d21 := (HW.out.2.1.below a12 HW.out.2.1.lt).cell (j := 1) rfl
  have hs2 : SlAt w2 32 oa (hsL l) := by obtain ⟨a', c', e, hs⟩ := ho.sl; injection e with e1 _ e3; subst e1 e3; exact hs
  have HS2 := show Hid _ from hs2
  have hm2 : m < 4611686018427387904 := by have := HX.out.2.2.2.1; omega
  clear hx hT hcs hR hb hF r1 ho a12 hoz hs2 hr
  unfold acv
  simp only [hm]
  clear hm
  go_enter Try.func10, Try.ntmps10
  go_wp2_with (first
    | (rw [hW1]; rw [hg0])
    | (refine wpList_of_run rfl (x_bs30e rfl) ?_)
    | (refine wpList_of_run rfl (x_app (t := 30) (s := .tmp 12) (x := .tmp 14) rfl (by kernel_rfl) (by kernel_rfl) HE.out) ?_)
    | (refine wpList_of_run rfl (x_rem4 (x := .tmp 17) (k := k) (r := 1) HX.out.2.2.1 rfl (by kernel_rfl)) ?_)
    | (go_at_call 20; refine Calls.mono (create20 (nm := nm) (n := m) HX.out.2.2.2.2 HT.out.2.1 HX.out.1.l32 HX.out.2.1 H2.out.2.2.1 HS2.out (HT.out.1.after H2.out.2.2.2)) ?_; rintro e w3 ⟨he, cs3, k1, k2, k3⟩; obtain ⟨E, hE⟩ : ∃ E : Nat, crE (fls cs) nm l = E := ⟨_, rfl⟩; rw [hE] at he; subst he; have H3 : Hid (fls cs3 = stS (fls cs) ⟨k, nm, ha, hc, l⟩ ∧ TbA w3 (more F w2 w3) tb mb cs3 ∧ KeptF (fun b => b = mb) w2 w3 ∧ CK w w3 ∧ CK w2 w3 ∧ crE (fls cs) nm l = E) := ⟨by rw [k1]; simp only [stS, HX.out.2.2.1]; rfl, k2, k3, (CK.of_after H2.out.2.2.2).trans (CK.of_map k3 (HT.out.1.after H2.out.2.2.2)), CK.of_map k3 (HT.out.1.after H2.out.2.2.2), hE⟩; have d30 := (H3.out.2.2.2.2.1.row (HW.out.2.1.below H2.out.2.1 HW.out.2.1.lt)).cell (j := 1) rfl; have d31 := (H3.out.2.2.2.2.1.row (HW.out.2.1.below H2.out.2.1 HW.out.2.1.lt)).cell (j := 2) rfl; clear k1 k2 k3 hE)
    | (refine wpList_load_row rfl 27 (.tmp 4) rfl g0 (by kernel_rfl) 27 #[.slice a n c] (0, 0) _ (H3.out.2.2.2.2.1.row (HW.out.1.below H2.out.2.1 HW.out.1.lt)) Try.underlying27 rfl (size27 a n c) ?_)
    | (go_at_call 25; refine Calls.mono (rcreate25 (nm := nm) (m := m) HX.out.2.2.2.2 (by rw [HT.out.2.2.2.1]; exact HT.out.2.1) HX.out.1.l32 HX.out.2.1 (H3.out.2.2.2.1.rt HT.out.2.2.1) HX.out.1.z (H3.out.2.2.2.1.sl HX.out.1.sl)) ?_; rintro e w4 ⟨a4, n4, c4, X4, he, k1, k2, k3, k4⟩; rw [HT.out.2.2.2.1, H3.out.2.2.2.2.2] at he; subst he; have H4 : Hid (RT w4 a4 n4 c4 X4 ∧ bof X4 = stS (fls cs) ⟨k, nm, ha, hc, l⟩ ∧ After w3 w4 ∧ (∀ g, g < w3.heap.size → NT g a X → NT g a4 X4)) := ⟨k1, by rw [k2, HT.out.2.2.2.1]; simp only [stS, HX.out.2.2.1]; rfl, k3, k4⟩; clear k1 k2 k3 k4)
    | (refine wpList_store_row rfl 27 (.tmp 4) (.tmp 45) rfl g0 #[.slice a4 n4 c4] (by kernel_rfl) (by kernel_rfl) 27 _ ((H3.out.2.2.2.2.1.row (HW.out.1.below H2.out.2.1 HW.out.1.lt)).below H4.out.2.2.1 (H3.out.2.2.2.2.1.row (HW.out.1.below H2.out.2.1 HW.out.1.lt)).lt) (size27 a4 n4 c4) rfl (one27 a4 n4 c4) ?_))
  have hR0 : RowIs w4 g0 27 [.slice a n c] := (H3.out.2.2.2.2.1.row (HW.out.1.below H2.out.2.1 HW.out.1.lt)).below H4.out.2.2.1 (H3.out.2.2.2.2.1.row (HW.out.1.below H2.out.2.1 HW.out.1.lt)).lt
  have hR2 : RowIs w4 (g0 + 2) 27 [.slice none 0 0] := (H3.out.2.2.2.2.1.row (HW.out.2.2.1.below H2.out.2.1 HW.out.2.2.1.lt)).below H4.out.2.2.1 (H3.out.2.2.2.2.1.row (HW.out.2.2.1.below H2.out.2.1 HW.out.2.2.1.lt)).lt
  obtain ⟨w5, hw5⟩ : ∃ w5, w4.setRow g0 #[.slice a4 n4 c4] = w5 := ⟨_, rfl⟩
  rw [hw5]
  have k45 : KeptF (fun b => b = g0) w4 w5 := by rw [← hw5]; exact ⟨rfl, rfl, rfl, by rw [size_setRow]; exact Nat.le_refl _, fun b _ hb => setRow_other _ _ _ _ hb⟩
  have hR05 : RowIs w5 g0 27 [.slice a4 n4 c4] := by rw [← hw5]; exact hR0.setRow _
  have hR25 : RowIs w5 (g0 + 2) 27 [.slice none 0 0] := k45.row hR2 (by omega)
  have hsz2 : g0 + 3 ≤ w2.heap.size := by have := H2.out.2.1.size; have := HW.out.2.2.2.2; omega
  have hsz3 : w2.heap.size ≤ w3.heap.size := H3.out.2.2.2.2.1.size
  have hsz4 : w3.heap.size ≤ w4.heap.size := H4.out.2.2.1.size
  have hob : ∀ ad, oa = some ad → g0 + 3 ≤ ad.block ∧ ad.block < w2.heap.size := fun ad e => by have := own_block H2.out.1 ad e; have := HW.out.2.2.2.2; omega
  have hO5 : OI w5 oa m w5 := ⟨KeptF.refl _ _, fun ad e => by
    have h1 := own_rw H2.out.1 ad e
    have h2 : BY w2 ad.block (l.length * 32) := by_sl (e ▸ HS2.out) h1
    rw [HX.out.2.1] at h2
    obtain ⟨bs, hbr, hbb⟩ := h2
    have h3 := H3.out.2.2.2.2.1.row hbr
    have h4 := k45.row (h3.below H4.out.2.2.1 h3.lt) (by have := hob ad e; omega)
    exact ⟨h1.1, h1.2.1, bs, h4, hbb⟩⟩
  have HO5 := show Hid _ from hO5
  have HR5 : Hid (RowIs w5 g0 27 [.slice a4 n4 c4] ∧ RowIs w5 (g0 + 2) 27 [.slice none 0 0] ∧ KeptF (fun b => b = g0) w4 w5 ∧ g0 + 3 ≤ w2.heap.size ∧ w2.heap.size ≤ w3.heap.size ∧ w3.heap.size ≤ w4.heap.size ∧ (∀ ad, oa = some ad → g0 + 3 ≤ ad.block ∧ ad.block < w2.heap.size)) := ⟨hR05, hR25, k45, hsz2, hsz3, hsz4, hob⟩
  clear hR0 hR2 hw5 k45 hR05 hR25 hsz2 hsz3 hsz4 hob hO5 d12 d20 d21 d30 d31 hW1
  go_loopw [11] (fun iv wr => ∃ i : Nat, i ≤ m ∧ iv = .int .i64 (i : Int) ∧ Hid (OI w5 oa m wr)) (fun iv _ => m - (intOf iv).toNat)
  case atStart => exact ⟨0, Nat.zero_le _, rfl, HO5⟩
  case round =>
    obtain ⟨i, him, rfl, HI⟩ := hrel
    by_cases hlt : i < m
    · have hii : (i : Int) < (m : Int) := by omega
      have HLT : Hid (i < m) := hlt
      obtain ⟨hb, rfl, hby⟩ : ∃ hb, oa = some ⟨hb, 0, none⟩ ∧ BY wr hb (m * 32) := by
        obtain ⟨b, o, e, _⟩ := HS2.out.2 (fun e => by have h1 := HX.out.2.1; simp only [hsL, List.map_eq_nil_iff] at e; rw [e] at h1; simp at h1; omega)
        obtain ⟨k1, _, k3⟩ := HI.out.by_ ⟨b, o, none⟩ e
        simp only at k1 k3
        exact ⟨b, by rw [e, k1], k3⟩
      obtain ⟨cv, hcv⟩ := by_cell (o := i * 32) hby (by omega)
      have HBY : Hid (BY wr hb (m * 32)) := hby
      have HCV : Hid (wr.cell? ⟨hb, 0 + i * 32, none⟩ = some (.int .u8 (cv.toNat : Int))) := by rw [Nat.zero_add]; exact hcv
      clear hby hcv
      go_wp2_with fail
      refine wp_region_noPanic ?_
      refine wp_region_held_drew (S := KeptF (fun b => b = hb) wr) (by kernel_rfl) (KeptF.of_after (After.drew (After.refl wr))) ?_
      intro hS0
      refine tk 0 69 (.slice (some ⟨hb, 0, none⟩) m oc) (fuel := 8) rfl (by kernel_rfl) (by kernel_rfl) (by kernel_rfl) (by kernel_rfl) noPanic_false (by kernel_rfl) (fun _ _ => by kernel_rfl) hS0 ?_
      refine tk 1 70 (.int .i64 (i : Int)) (fuel := 7) rfl (by kernel_rfl) (by kernel_rfl) (by kernel_rfl) (by kernel_rfl) noPanic_false (by kernel_rfl) (fun _ _ => by kernel_rfl) hS0 ?_
      refine tk 2 71 (.pointer (some ⟨hb, 0 + i * 32, none⟩)) (fuel := 6) rfl (by kernel_rfl) (by kernel_rfl) (by kernel_rfl) (by kernel_rfl) noPanic_false (by kernel_rfl) (fun W _ => x_idx44 (n := m) (c := oc) (x := .tmp 69) (y := .tmp 70) (by kernel_rfl) (by kernel_rfl) (by kernel_rfl) HLT.out) hS0 ?_
      refine tk 3 72 (.pointer (some ⟨hb, 0 + i * 32, none⟩)) (fuel := 5) rfl (by kernel_rfl) (by kernel_rfl) (by kernel_rfl) (by kernel_rfl) noPanic_false (by kernel_rfl) (fun _ _ => by kernel_rfl) hS0 ?_
      refine tk 6 75 (.pointer (some ⟨hb, 0 + i * 32, none⟩)) (fuel := 4) rfl (by kernel_rfl) (by kernel_rfl) (by kernel_rfl) (by kernel_rfl) noPanic_false (by kernel_rfl) (fun W _ => x_idx44 (n := m) (c := oc) (x := .tmp 69) (y := .tmp 70) (by kernel_rfl) (by kernel_rfl) (by kernel_rfl) HLT.out) hS0 ?_
      refine tkRunS 4 73 (.int .u8 (cv.toNat : Int)) (wr.drew) (fuel := 3) rfl (by kernel_rfl) (by kernel_rfl) (by kernel_rfl) (x_loadT (x := .tmp 72) (t := 5) (g := hb) (j := 0 + i * 32) Try.underlying5 rfl (by kernel_rfl) (by kernel_rfl) HCV.out) (hS0) ?_
      refine tk 5 74 (.int .u8 ((cv + 1).toNat : Int)) (fuel := 2) rfl (by kernel_rfl) (by kernel_rfl) (by kernel_rfl) (by kernel_rfl) noPanic_false (by kernel_rfl) (fun W _ => x_add5 (x := .tmp 73) (by kernel_rfl) (by kernel_rfl)) hS0 ?_
      refine tk 7 76 (.pointer (some ⟨hb, 0 + i * 32, none⟩)) (fuel := 1) rfl (by kernel_rfl) (by kernel_rfl) (by kernel_rfl) (by kernel_rfl) noPanic_false (by kernel_rfl) (fun _ _ => by kernel_rfl) hS0 ?_
      refine tkStoreS 8 (wr.drew.setCell ⟨hb, 0 + i * 32, none⟩ (.int .u8 ((cv + 1).toNat : Int))) (fuel := 0) rfl (by kernel_rfl) (by kernel_rfl) (by kernel_rfl) (x_st5 (x := .tmp 76) (y := .tmp 74) (by kernel_rfl) (by kernel_rfl) (by kernel_rfl) HCV.out (by_frozen HBY.out)) (hS0.trans (KeptF.set (F := fun b => b = hb) wr.drew ⟨hb, 0 + i * 32, none⟩ _ rfl) (fun _ _ h => h)) ?_
      refine wpAnyH_done (by kernel_rfl) (NoPanic.normal ?_) _
      have HN : Hid (OI w5 (some ⟨hb, 0, none⟩) m (wr.drew.setCell ⟨hb, 0 + i * 32, none⟩ (.int .u8 ((cv + 1).toNat : Int)))) := HI.out.set _
      clear hS0
      obtain ⟨wn, hwn⟩ : ∃ wn, wr.drew.setCell ⟨hb, 0 + i * 32, none⟩ (.int .u8 ((cv + 1).toNat : Int)) = wn := ⟨_, rfl⟩
      rw [hwn] at HN ⊢
      clear hwn
      go_simp
      go_wp2
      go_roundw
      case rel => exact ⟨i + 1, by omega, by go_num, HN⟩
      case measure => simp [intOf]; omega
    · have hii : ¬ (i : Int) < (m : Int) := by omega
      have hR6 : RowIs wr g0 27 [.slice a4 n4 c4] := HI.out.kept.row HR5.out.1 (fun ⟨ad, e, h⟩ => by have := HR5.out.2.2.2.2.2.2 ad e; omega)
      have hR7 : RowIs wr (g0 + 2) 27 [.slice none 0 0] := HI.out.kept.row HR5.out.2.1 (fun ⟨ad, e, h⟩ => by have := HR5.out.2.2.2.2.2.2 ad e; omega)
      obtain ⟨w9, hw9⟩ : ∃ w9, wr.setRow (g0 + 2) #[.slice a4 n4 c4] = w9 := ⟨_, rfl⟩
      have k9 : KeptF (fun b => b = g0 ∨ b = g0 + 2 ∨ ∃ ad, oa = some ad ∧ b = ad.block) w4 w9 := by
        have k1 : KeptF (fun b => b = g0 ∨ b = g0 + 2 ∨ ∃ ad, oa = some ad ∧ b = ad.block) w4 wr := (HR5.out.2.2.1.mono (fun _ _ h => .inl h)).trans HI.out.kept (fun _ _ h => .inr (.inr h))
        refine k1.trans (G := fun b => b = g0 + 2) ?_ (fun _ _ h => .inr (.inl h))
        rw [← hw9]; exact ⟨rfl, rfl, rfl, by rw [size_setRow]; exact Nat.le_refl _, fun b _ hb => setRow_other _ _ _ _ hb⟩
      have HF : Hid (RowIs w9 (g0 + 2) 27 [.slice a4 n4 c4] ∧ DoP w F tb mb a X (stS (fls cs) ⟨k, nm, ha, hc, l⟩) w9 a4 n4 c4) := by
        refine ⟨by rw [← hw9]; exact hR7.setRow _, X4, cs3, H3.out.1, H4.out.2.1, ?_, ?_, ?_, fun g hg hn => H4.out.2.2.2 g (by have := HR5.out.2.2.2.1; have := HR5.out.2.2.2.2.1; have := HG0.out; omega) hn⟩
        · refine ((H3.out.2.1.after H4.out.2.2.1).kept k9 (fun b hbl hm hG => ?_)).mono (fun b hm => ?_)
          · have h1 := HR5.out.2.2.2.1
            rcases hm with hm | hm
            · have h2 := HT.out.2.2.2.2 b hm
              rcases hG with e | e | ⟨ad, e, e2⟩
              · omega
              · omega
              · have := HR5.out.2.2.2.2.2.2 ad e; omega
            · rcases hG with e | e | ⟨ad, e, e2⟩
              · omega
              · omega
              · have := HR5.out.2.2.2.2.2.2 ad e; omega
          · rcases hm with hm | hm
            · exact .inl hm
            · exact .inr ⟨by have := HR5.out.2.2.2.1; have := HG0.out; omega, by have := HR5.out.2.2.2.2.2.1; have := k9.size; omega⟩
        · refine H4.out.1.kept k9 (fun g hG => ?_)
          have hgs : w.heap.size ≤ g ∧ g < w3.heap.size := by
            have h1 := HR5.out.2.2.2.1; have h2 := HR5.out.2.2.2.2.1; have h3 := HG0.out
            rcases hG with e | e | ⟨ad, e, e2⟩
            · omega
            · omega
            · have := HR5.out.2.2.2.2.2.2 ad e; omega
          exact H4.out.2.2.2 g hgs.2 (HT.out.2.2.1.nt hgs.1)
        · have k1 : KeptF (fun b => b = mb) w w4 := ((KeptF.of_after (F := fun b => b = mb) H2.out.2.2.2).trans H3.out.2.2.1 (fun _ _ h => h)).trans (KeptF.of_after (F := fun b => b = mb) H4.out.2.2.1) (fun _ _ h => h)
          refine k1.trans k9 (fun b hb hG => ?_)
          have h3 := HG0.out
          rcases hG with e | e | ⟨ad, e, e2⟩
          · omega
          · omega
          · have := HR5.out.2.2.2.2.2.2 ad e; omega
      have HR6 : Hid (RowIs wr g0 27 [.slice a4 n4 c4] ∧ RowIs wr (g0 + 2) 27 [.slice none 0 0] ∧ wr.setRow (g0 + 2) #[.slice a4 n4 c4] = w9) := ⟨hR6, hR7, hw9⟩
      clear hR6 hR7 hw9 k9
      go_wp2_with (first
        | (refine wpList_load_row rfl 27 (.tmp 4) rfl g0 (by kernel_rfl) 27 #[.slice a4 n4 c4] (0, 0) _ HR6.out.1 Try.underlying27 rfl (size27 a4 n4 c4) ?_)
        | (refine wpList_store_row rfl 27 (.tmp 6) (.tmp 77) rfl (g0 + 2) #[.slice a4 n4 c4] (by kernel_rfl) (by kernel_rfl) 27 _ HR6.out.2.1 (size27 a4 n4 c4) rfl (one27 a4 n4 c4) ?_; rw [HR6.out.2.2]))
      refine bodyPost_ret (ret27t Try.results10 _ _ (g0 + 2) (.slice a4 n4 c4) (.bool true) (by kernel_rfl) HF.out.1 (by kernel_rfl)) rfl ?_
      exact ⟨_, _, _, rfl, HF.out.2⟩
set_option maxRecDepth 100000 in
set_option maxHeartbeats 12800000 in
theorem do10_2 {F : Nat → Prop} {tb mb n c : Nat} {cs : List Ent} {a : Option Addr} {X : List Bx} {x : Ac} {w : World} (hF : ∀ b, F b → b < w.heap.size) (hT : TbA w F tb mb cs) (hcs : TOk (fls cs)) (hR : RT w a n c X) (hb : bof X = fls cs) (hx : AcAt w x) (hr : x.k.toNat % 4 = 2) :
    Calls Try.prog 10 #[.pointer (some ⟨tb, 0, none⟩), .agg #[.slice a n c], .agg (acv x).toArray] w fun e w' => ∃ a' n' c', e = .returned (.tuple #[.agg #[.slice a' n' c'], .bool true]) ∧ DoP w F tb mb a X (stS (fls cs) x) w' a' n' c' := by
  obtain ⟨k, nm, ha, hc, l⟩ := x
  obtain ⟨m, hm⟩ : ∃ m, l.length = m := ⟨_, rfl⟩
  obtain ⟨g0, hg0⟩ : ∃ g0, w.heap.size = g0 := ⟨_, rfl⟩
  simp only at hr
  obtain ⟨W1, hW1⟩ : ∃ W1, ((w.alloc (.cells #[.slice a n c] 27)).alloc (.cells #[.int .u8 (k.toNat : Int), .string (strOf nm), .slice ha m hc] 32)).alloc (.cells #[.slice none 0 0] 27) = W1 := ⟨_, rfl⟩
  have HW := show Hid _ from three27 hg0 hW1
  obtain ⟨oa, oc, w2, r1, ho, a12, hoz⟩ := run_cpy (ca := hc) hm (by have := hx.fit; simp only [hm] at this; exact this) hx.z (hx.sl.after HW.out.2.2.2.1)
  have HE := show Hid _ from r1
  have HX : Hid (AcAt w ⟨k, nm, ha, hc, l⟩ ∧ l.length = m ∧ k.toNat % 4 = 2 ∧ m * 32 ≤ 140737488355328 ∧ nm.length ≤ maxLen) := ⟨hx, hm, hr, by have := hx.fit; simp only [hm] at this; exact this, hx.nl⟩
  have HT : Hid (TbA w F tb mb cs ∧ TOk (fls cs) ∧ RT w a n c X ∧ bof X = fls cs ∧ (∀ b, F b → b < g0)) := ⟨hT, hcs, hR, hb, fun b h => by rw [← hg0]; exact hF b h⟩
  have H2 : Hid (OwnL w2 W1.heap.size 50 32 (.slice oa m oc) (hsL l) ∧ After W1 w2 ∧ (oa = none → oc = 0) ∧ After w w2) := ⟨ho, a12, hoz, HW.out.2.2.2.1.trans a12⟩
  have HG0 : Hid (w.heap.size = g0) := hg0
  have d12 := (HW.out.2.1.alloc (.cells #[] 50)).cell (j := 2) rfl
  have d20 := (HW.out.2.1.below a12 HW.out.2.1.lt).cell (j := 0) rfl
  have d21 := (HW.out.2.1.below a12 HW.out.2.1.lt).cell (j := 1) rfl
  have hs2 : SlAt w2 32 oa (hsL l) := by obtain ⟨a', c', e, hs⟩ := ho.sl; injection e with e1 _ e3; subst e1 e3; exact hs
  have HS2 := show Hid _ from hs2
  have hm2 : m < 4611686018427387904 := by have := HX.out.2.2.2.1; omega
  clear hx hT hcs hR hb hF r1 ho a12 hoz hs2 hr
  unfold acv
  simp only [hm]
  clear hm
  go_enter Try.func10, Try.ntmps10
  go_wp2_with (first
    | (rw [hW1]; rw [hg0])
    | (refine wpList_of_run rfl (x_bs30e rfl) ?_)
    | (refine wpList_of_run rfl (x_app (t := 30) (s := .tmp 12) (x := .tmp 14) rfl (by kernel_rfl) (by kernel_rfl) HE.out) ?_)
    | (refine wpList_of_run rfl (x_rem4 (x := .tmp 17) (k := k) (r := 2) HX.out.2.2.1 rfl (by kernel_rfl)) ?_)
    | (go_at_call 21; refine Calls.mono (move21 (nm := nm) (n := m) HX.out.2.2.2.2 HT.out.2.1 HX.out.1.l32 HX.out.2.1 H2.out.2.2.1 HS2.out (HT.out.1.after H2.out.2.2.2)) ?_; rintro e w3 ⟨he, cs3, k1, k2, k3⟩; obtain ⟨E, hE⟩ : ∃ E : Nat, mvE (fls cs) nm l = E := ⟨_, rfl⟩; rw [hE] at he; subst he; have H3 : Hid (fls cs3 = stS (fls cs) ⟨k, nm, ha, hc, l⟩ ∧ TbA w3 (more F w2 w3) tb mb cs3 ∧ KeptF (fun b => b = mb) w2 w3 ∧ CK w w3 ∧ CK w2 w3 ∧ mvE (fls cs) nm l = E) := ⟨by rw [k1]; simp only [stS, HX.out.2.2.1]; rfl, k2, k3, (CK.of_after H2.out.2.2.2).trans (CK.of_map k3 (HT.out.1.after H2.out.2.2.2)), CK.of_map k3 (HT.out.1.after H2.out.2.2.2), hE⟩; have d30 := (H3.out.2.2.2.2.1.row (HW.out.2.1.below H2.out.2.1 HW.out.2.1.lt)).cell (j := 1) rfl; have d31 := (H3.out.2.2.2.2.1.row (HW.out.2.1.below H2.out.2.1 HW.out.2.1.lt)).cell (j := 2) rfl; clear k1 k2 k3 hE)
    | (refine wpList_load_row rfl 27 (.tmp 4) rfl g0 (by kernel_rfl) 27 #[.slice a n c] (0, 0) _ (H3.out.2.2.2.2.1.row (HW.out.1.below H2.out.2.1 HW.out.1.lt)) Try.underlying27 rfl (size27 a n c) ?_)
    | (go_at_call 26; refine Calls.mono (rmove26 (nm := nm) (m := m) HX.out.2.2.2.2 (by rw [HT.out.2.2.2.1]; exact HT.out.2.1) HX.out.1.l32 HX.out.2.1 (H3.out.2.2.2.1.rt HT.out.2.2.1) HX.out.1.z (H3.out.2.2.2.1.sl HX.out.1.sl)) ?_; rintro e w4 ⟨a4, n4, c4, X4, he, k1, k2, k3, k4⟩; rw [HT.out.2.2.2.1, H3.out.2.2.2.2.2] at he; subst he; have H4 : Hid (RT w4 a4 n4 c4 X4 ∧ bof X4 = stS (fls cs) ⟨k, nm, ha, hc, l⟩ ∧ After w3 w4 ∧ (∀ g, g < w3.heap.size → NT g a X → NT g a4 X4)) := ⟨k1, by rw [k2, HT.out.2.2.2.1]; simp only [stS, HX.out.2.2.1]; rfl, k3, k4⟩; clear k1 k2 k3 k4)
    | (refine wpList_store_row rfl 27 (.tmp 4) (.tmp 61) rfl g0 #[.slice a4 n4 c4] (by kernel_rfl) (by kernel_rfl) 27 _ ((H3.out.2.2.2.2.1.row (HW.out.1.below H2.out.2.1 HW.out.1.lt)).below H4.out.2.2.1 (H3.out.2.2.2.2.1.row (HW.out.1.below H2.out.2.1 HW.out.1.lt)).lt) (size27 a4 n4 c4) rfl (one27 a4 n4 c4) ?_))
  have hR0 : RowIs w4 g0 27 [.slice a n c] := (H3.out.2.2.2.2.1.row (HW.out.1.below H2.out.2.1 HW.out.1.lt)).below H4.out.2.2.1 (H3.out.2.2.2.2.1.row (HW.out.1.below H2.out.2.1 HW.out.1.lt)).lt
  have hR2 : RowIs w4 (g0 + 2) 27 [.slice none 0 0] := (H3.out.2.2.2.2.1.row (HW.out.2.2.1.below H2.out.2.1 HW.out.2.2.1.lt)).below H4.out.2.2.1 (H3.out.2.2.2.2.1.row (HW.out.2.2.1.below H2.out.2.1 HW.out.2.2.1.lt)).lt
  obtain ⟨w5, hw5⟩ : ∃ w5, w4.setRow g0 #[.slice a4 n4 c4] = w5 := ⟨_, rfl⟩
  rw [hw5]
  have k45 : KeptF (fun b => b = g0) w4 w5 := by rw [← hw5]; exact ⟨rfl, rfl, rfl, by rw [size_setRow]; exact Nat.le_refl _, fun b _ hb => setRow_other _ _ _ _ hb⟩
  have hR05 : RowIs w5 g0 27 [.slice a4 n4 c4] := by rw [← hw5]; exact hR0.setRow _
  have hR25 : RowIs w5 (g0 + 2) 27 [.slice none 0 0] := k45.row hR2 (by omega)
  have hsz2 : g0 + 3 ≤ w2.heap.size := by have := H2.out.2.1.size; have := HW.out.2.2.2.2; omega
  have hsz3 : w2.heap.size ≤ w3.heap.size := H3.out.2.2.2.2.1.size
  have hsz4 : w3.heap.size ≤ w4.heap.size := H4.out.2.2.1.size
  have hob : ∀ ad, oa = some ad → g0 + 3 ≤ ad.block ∧ ad.block < w2.heap.size := fun ad e => by have := own_block H2.out.1 ad e; have := HW.out.2.2.2.2; omega
  have hO5 : OI w5 oa m w5 := ⟨KeptF.refl _ _, fun ad e => by
    have h1 := own_rw H2.out.1 ad e
    have h2 : BY w2 ad.block (l.length * 32) := by_sl (e ▸ HS2.out) h1
    rw [HX.out.2.1] at h2
    obtain ⟨bs, hbr, hbb⟩ := h2
    have h3 := H3.out.2.2.2.2.1.row hbr
    have h4 := k45.row (h3.below H4.out.2.2.1 h3.lt) (by have := hob ad e; omega)
    exact ⟨h1.1, h1.2.1, bs, h4, hbb⟩⟩
  have HO5 := show Hid _ from hO5
  have HR5 : Hid (RowIs w5 g0 27 [.slice a4 n4 c4] ∧ RowIs w5 (g0 + 2) 27 [.slice none 0 0] ∧ KeptF (fun b => b = g0) w4 w5 ∧ g0 + 3 ≤ w2.heap.size ∧ w2.heap.size ≤ w3.heap.size ∧ w3.heap.size ≤ w4.heap.size ∧ (∀ ad, oa = some ad → g0 + 3 ≤ ad.block ∧ ad.block < w2.heap.size)) := ⟨hR05, hR25, k45, hsz2, hsz3, hsz4, hob⟩
  clear hR0 hR2 hw5 k45 hR05 hR25 hsz2 hsz3 hsz4 hob hO5 d12 d20 d21 d30 d31 hW1
  go_loopw [11] (fun iv wr => ∃ i : Nat, i ≤ m ∧ iv = .int .i64 (i : Int) ∧ Hid (OI w5 oa m wr)) (fun iv _ => m - (intOf iv).toNat)
  case atStart => exact ⟨0, Nat.zero_le _, rfl, HO5⟩
  case round =>
    obtain ⟨i, him, rfl, HI⟩ := hrel
    by_cases hlt : i < m
    · have hii : (i : Int) < (m : Int) := by omega
      have HLT : Hid (i < m) := hlt
      obtain ⟨hb, rfl, hby⟩ : ∃ hb, oa = some ⟨hb, 0, none⟩ ∧ BY wr hb (m * 32) := by
        obtain ⟨b, o, e, _⟩ := HS2.out.2 (fun e => by have h1 := HX.out.2.1; simp only [hsL, List.map_eq_nil_iff] at e; rw [e] at h1; simp at h1; omega)
        obtain ⟨k1, _, k3⟩ := HI.out.by_ ⟨b, o, none⟩ e
        simp only at k1 k3
        exact ⟨b, by rw [e, k1], k3⟩
      obtain ⟨cv, hcv⟩ := by_cell (o := i * 32) hby (by omega)
      have HBY : Hid (BY wr hb (m * 32)) := hby
      have HCV : Hid (wr.cell? ⟨hb, 0 + i * 32, none⟩ = some (.int .u8 (cv.toNat : Int))) := by rw [Nat.zero_add]; exact hcv
      clear hby hcv
      go_wp2_with fail
      refine wp_region_noPanic ?_
      refine wp_region_held_drew (S := KeptF (fun b => b = hb) wr) (by kernel_rfl) (KeptF.of_after (After.drew (After.refl wr))) ?_
      intro hS0
      refine tk 0 69 (.slice (some ⟨hb, 0, none⟩) m oc) (fuel := 8) rfl (by kernel_rfl) (by kernel_rfl) (by kernel_rfl) (by kernel_rfl) noPanic_false (by kernel_rfl) (fun _ _ => by kernel_rfl) hS0 ?_
      refine tk 1 70 (.int .i64 (i : Int)) (fuel := 7) rfl (by kernel_rfl) (by kernel_rfl) (by kernel_rfl) (by kernel_rfl) noPanic_false (by kernel_rfl) (fun _ _ => by kernel_rfl) hS0 ?_
      refine tk 2 71 (.pointer (some ⟨hb, 0 + i * 32, none⟩)) (fuel := 6) rfl (by kernel_rfl) (by kernel_rfl) (by kernel_rfl) (by kernel_rfl) noPanic_false (by kernel_rfl) (fun W _ => x_idx44 (n := m) (c := oc) (x := .tmp 69) (y := .tmp 70) (by kernel_rfl) (by kernel_rfl) (by kernel_rfl) HLT.out) hS0 ?_
      refine tk 3 72 (.pointer (some ⟨hb, 0 + i * 32, none⟩)) (fuel := 5) rfl (by kernel_rfl) (by kernel_rfl) (by kernel_rfl) (by kernel_rfl) noPanic_false (by kernel_rfl) (fun _ _ => by kernel_rfl) hS0 ?_
      refine tk 6 75 (.pointer (some ⟨hb, 0 + i * 32, none⟩)) (fuel := 4) rfl (by kernel_rfl) (by kernel_rfl) (by kernel_rfl) (by kernel_rfl) noPanic_false (by kernel_rfl) (fun W _ => x_idx44 (n := m) (c := oc) (x := .tmp 69) (y := .tmp 70) (by kernel_rfl) (by kernel_rfl) (by kernel_rfl) HLT.out) hS0 ?_
      refine tkRunS 4 73 (.int .u8 (cv.toNat : Int)) (wr.drew) (fuel := 3) rfl (by kernel_rfl) (by kernel_rfl) (by kernel_rfl) (x_loadT (x := .tmp 72) (t := 5) (g := hb) (j := 0 + i * 32) Try.underlying5 rfl (by kernel_rfl) (by kernel_rfl) HCV.out) (hS0) ?_
      refine tk 5 74 (.int .u8 ((cv + 1).toNat : Int)) (fuel := 2) rfl (by kernel_rfl) (by kernel_rfl) (by kernel_rfl) (by kernel_rfl) noPanic_false (by kernel_rfl) (fun W _ => x_add5 (x := .tmp 73) (by kernel_rfl) (by kernel_rfl)) hS0 ?_
      refine tk 7 76 (.pointer (some ⟨hb, 0 + i * 32, none⟩)) (fuel := 1) rfl (by kernel_rfl) (by kernel_rfl) (by kernel_rfl) (by kernel_rfl) noPanic_false (by kernel_rfl) (fun _ _ => by kernel_rfl) hS0 ?_
      refine tkStoreS 8 (wr.drew.setCell ⟨hb, 0 + i * 32, none⟩ (.int .u8 ((cv + 1).toNat : Int))) (fuel := 0) rfl (by kernel_rfl) (by kernel_rfl) (by kernel_rfl) (x_st5 (x := .tmp 76) (y := .tmp 74) (by kernel_rfl) (by kernel_rfl) (by kernel_rfl) HCV.out (by_frozen HBY.out)) (hS0.trans (KeptF.set (F := fun b => b = hb) wr.drew ⟨hb, 0 + i * 32, none⟩ _ rfl) (fun _ _ h => h)) ?_
      refine wpAnyH_done (by kernel_rfl) (NoPanic.normal ?_) _
      have HN : Hid (OI w5 (some ⟨hb, 0, none⟩) m (wr.drew.setCell ⟨hb, 0 + i * 32, none⟩ (.int .u8 ((cv + 1).toNat : Int)))) := HI.out.set _
      clear hS0
      obtain ⟨wn, hwn⟩ : ∃ wn, wr.drew.setCell ⟨hb, 0 + i * 32, none⟩ (.int .u8 ((cv + 1).toNat : Int)) = wn := ⟨_, rfl⟩
      rw [hwn] at HN ⊢
      clear hwn
      go_simp
      go_wp2
      go_roundw
      case rel => exact ⟨i + 1, by omega, by go_num, HN⟩
      case measure => simp [intOf]; omega
    · have hii : ¬ (i : Int) < (m : Int) := by omega
      have hR6 : RowIs wr g0 27 [.slice a4 n4 c4] := HI.out.kept.row HR5.out.1 (fun ⟨ad, e, h⟩ => by have := HR5.out.2.2.2.2.2.2 ad e; omega)
      have hR7 : RowIs wr (g0 + 2) 27 [.slice none 0 0] := HI.out.kept.row HR5.out.2.1 (fun ⟨ad, e, h⟩ => by have := HR5.out.2.2.2.2.2.2 ad e; omega)
      obtain ⟨w9, hw9⟩ : ∃ w9, wr.setRow (g0 + 2) #[.slice a4 n4 c4] = w9 := ⟨_, rfl⟩
      have k9 : KeptF (fun b => b = g0 ∨ b = g0 + 2 ∨ ∃ ad, oa = some ad ∧ b = ad.block) w4 w9 := by
        have k1 : KeptF (fun b => b = g0 ∨ b = g0 + 2 ∨ ∃ ad, oa = some ad ∧ b = ad.block) w4 wr := (HR5.out.2.2.1.mono (fun _ _ h => .inl h)).trans HI.out.kept (fun _ _ h => .inr (.inr h))
        refine k1.trans (G := fun b => b = g0 + 2) ?_ (fun _ _ h => .inr (.inl h))
        rw [← hw9]; exact ⟨rfl, rfl, rfl, by rw [size_setRow]; exact Nat.le_refl _, fun b _ hb => setRow_other _ _ _ _ hb⟩
      have HF : Hid (RowIs w9 (g0 + 2) 27 [.slice a4 n4 c4] ∧ DoP w F tb mb a X (stS (fls cs) ⟨k, nm, ha, hc, l⟩) w9 a4 n4 c4) := by
        refine ⟨by rw [← hw9]; exact hR7.setRow _, X4, cs3, H3.out.1, H4.out.2.1, ?_, ?_, ?_, fun g hg hn => H4.out.2.2.2 g (by have := HR5.out.2.2.2.1; have := HR5.out.2.2.2.2.1; have := HG0.out; omega) hn⟩
        · refine ((H3.out.2.1.after H4.out.2.2.1).kept k9 (fun b hbl hm hG => ?_)).mono (fun b hm => ?_)
          · have h1 := HR5.out.2.2.2.1
            rcases hm with hm | hm
            · have h2 := HT.out.2.2.2.2 b hm
              rcases hG with e | e | ⟨ad, e, e2⟩
              · omega
              · omega
              · have := HR5.out.2.2.2.2.2.2 ad e; omega
            · rcases hG with e | e | ⟨ad, e, e2⟩
              · omega
              · omega
              · have := HR5.out.2.2.2.2.2.2 ad e; omega
          · rcases hm with hm | hm
            · exact .inl hm
            · exact .inr ⟨by have := HR5.out.2.2.2.1; have := HG0.out; omega, by have := HR5.out.2.2.2.2.2.1; have := k9.size; omega⟩
        · refine H4.out.1.kept k9 (fun g hG => ?_)
          have hgs : w.heap.size ≤ g ∧ g < w3.heap.size := by
            have h1 := HR5.out.2.2.2.1; have h2 := HR5.out.2.2.2.2.1; have h3 := HG0.out
            rcases hG with e | e | ⟨ad, e, e2⟩
            · omega
            · omega
            · have := HR5.out.2.2.2.2.2.2 ad e; omega
          exact H4.out.2.2.2 g hgs.2 (HT.out.2.2.1.nt hgs.1)
        · have k1 : KeptF (fun b => b = mb) w w4 := ((KeptF.of_after (F := fun b => b = mb) H2.out.2.2.2).trans H3.out.2.2.1 (fun _ _ h => h)).trans (KeptF.of_after (F := fun b => b = mb) H4.out.2.2.1) (fun _ _ h => h)
          refine k1.trans k9 (fun b hb hG => ?_)
          have h3 := HG0.out
          rcases hG with e | e | ⟨ad, e, e2⟩
          · omega
          · omega
          · have := HR5.out.2.2.2.2.2.2 ad e; omega
      have HR6 : Hid (RowIs wr g0 27 [.slice a4 n4 c4] ∧ RowIs wr (g0 + 2) 27 [.slice none 0 0] ∧ wr.setRow (g0 + 2) #[.slice a4 n4 c4] = w9) := ⟨hR6, hR7, hw9⟩
      clear hR6 hR7 hw9 k9
      go_wp2_with (first
        | (refine wpList_load_row rfl 27 (.tmp 4) rfl g0 (by kernel_rfl) 27 #[.slice a4 n4 c4] (0, 0) _ HR6.out.1 Try.underlying27 rfl (size27 a4 n4 c4) ?_)
        | (refine wpList_store_row rfl 27 (.tmp 6) (.tmp 77) rfl (g0 + 2) #[.slice a4 n4 c4] (by kernel_rfl) (by kernel_rfl) 27 _ HR6.out.2.1 (size27 a4 n4 c4) rfl (one27 a4 n4 c4) ?_; rw [HR6.out.2.2]))
      refine bodyPost_ret (ret27t Try.results10 _ _ (g0 + 2) (.slice a4 n4 c4) (.bool true) (by kernel_rfl) HF.out.1 (by kernel_rfl)) rfl ?_
      exact ⟨_, _, _, rfl, HF.out.2⟩
set_option maxRecDepth 100000 in
set_option maxHeartbeats 12800000 in
theorem do10_3 {F : Nat → Prop} {tb mb n c : Nat} {cs : List Ent} {a : Option Addr} {X : List Bx} {x : Ac} {w : World} (hF : ∀ b, F b → b < w.heap.size) (hT : TbA w F tb mb cs) (hcs : TOk (fls cs)) (hR : RT w a n c X) (hb : bof X = fls cs) (hx : AcAt w x) (hr : x.k.toNat % 4 = 3) :
    Calls Try.prog 10 #[.pointer (some ⟨tb, 0, none⟩), .agg #[.slice a n c], .agg (acv x).toArray] w fun e w' => ∃ a' n' c', e = .returned (.tuple #[.agg #[.slice a' n' c'], .bool true]) ∧ DoP w F tb mb a X (stS (fls cs) x) w' a' n' c' := by
  obtain ⟨k, nm, ha, hc, l⟩ := x
  obtain ⟨m, hm⟩ : ∃ m, l.length = m := ⟨_, rfl⟩
  obtain ⟨g0, hg0⟩ : ∃ g0, w.heap.size = g0 := ⟨_, rfl⟩
  simp only at hr
  obtain ⟨W1, hW1⟩ : ∃ W1, ((w.alloc (.cells #[.slice a n c] 27)).alloc (.cells #[.int .u8 (k.toNat : Int), .string (strOf nm), .slice ha m hc] 32)).alloc (.cells #[.slice none 0 0] 27) = W1 := ⟨_, rfl⟩
  have HW := show Hid _ from three27 hg0 hW1
  obtain ⟨oa, oc, w2, r1, ho, a12, hoz⟩ := run_cpy (ca := hc) hm (by have := hx.fit; simp only [hm] at this; exact this) hx.z (hx.sl.after HW.out.2.2.2.1)
  have HE := show Hid _ from r1
  have HX : Hid (AcAt w ⟨k, nm, ha, hc, l⟩ ∧ l.length = m ∧ k.toNat % 4 = 3 ∧ m * 32 ≤ 140737488355328 ∧ nm.length ≤ maxLen) := ⟨hx, hm, hr, by have := hx.fit; simp only [hm] at this; exact this, hx.nl⟩
  have HT : Hid (TbA w F tb mb cs ∧ TOk (fls cs) ∧ RT w a n c X ∧ bof X = fls cs ∧ (∀ b, F b → b < g0)) := ⟨hT, hcs, hR, hb, fun b h => by rw [← hg0]; exact hF b h⟩
  have H2 : Hid (OwnL w2 W1.heap.size 50 32 (.slice oa m oc) (hsL l) ∧ After W1 w2 ∧ (oa = none → oc = 0) ∧ After w w2) := ⟨ho, a12, hoz, HW.out.2.2.2.1.trans a12⟩
  have HG0 : Hid (w.heap.size = g0) := hg0
  have d12 := (HW.out.2.1.alloc (.cells #[] 50)).cell (j := 2) rfl
  have d20 := (HW.out.2.1.below a12 HW.out.2.1.lt).cell (j := 0) rfl
  have d21 := (HW.out.2.1.below a12 HW.out.2.1.lt).cell (j := 1) rfl
  have hs2 : SlAt w2 32 oa (hsL l) := by obtain ⟨a', c', e, hs⟩ := ho.sl; injection e with e1 _ e3; subst e1 e3; exact hs
  have HS2 := show Hid _ from hs2
  have hm2 : m < 4611686018427387904 := by have := HX.out.2.2.2.1; omega
  clear hx hT hcs hR hb hF r1 ho a12 hoz hs2 hr
  unfold acv
  simp only [hm]
  clear hm
  go_enter Try.func10, Try.ntmps10
  go_wp2_with (first
    | (rw [hW1]; rw [hg0])
    | (refine wpList_of_run rfl (x_bs30e rfl) ?_)
    | (refine wpList_of_run rfl (x_app (t := 30) (s := .tmp 12) (x := .tmp 14) rfl (by kernel_rfl) (by kernel_rfl) HE.out) ?_)
    | (refine wpList_of_run rfl (x_rem4 (x := .tmp 17) (k := k) (r := 3) HX.out.2.2.1 rfl (by kernel_rfl)) ?_)
    | (go_at_call 22; refine Calls.mono (delete22 (nm := nm) HX.out.2.2.2.2 (HT.out.1.after H2.out.2.2.2)) ?_; rintro e w3 ⟨he, cs3, k1, k2, k3⟩; obtain ⟨E, hE⟩ : ∃ E : Nat, dlE (fls cs) nm = E := ⟨_, rfl⟩; rw [hE] at he; subst he; have H3 : Hid (fls cs3 = stS (fls cs) ⟨k, nm, ha, hc, l⟩ ∧ TbA w3 (more F w2 w3) tb mb cs3 ∧ KeptF (fun b => b = mb) w2 w3 ∧ CK w w3 ∧ CK w2 w3 ∧ dlE (fls cs) nm = E) := ⟨by rw [k1]; simp only [stS, HX.out.2.2.1]; rfl, k2, k3, (CK.of_after H2.out.2.2.2).trans (CK.of_map k3 (HT.out.1.after H2.out.2.2.2)), CK.of_map k3 (HT.out.1.after H2.out.2.2.2), hE⟩; have d30 := (H3.out.2.2.2.2.1.row (HW.out.2.1.below H2.out.2.1 HW.out.2.1.lt)).cell (j := 1) rfl; have d31 := (H3.out.2.2.2.2.1.row (HW.out.2.1.below H2.out.2.1 HW.out.2.1.lt)).cell (j := 2) rfl; clear k1 k2 k3 hE)
    | (refine wpList_load_row rfl 27 (.tmp 4) rfl g0 (by kernel_rfl) 27 #[.slice a n c] (0, 0) _ (H3.out.2.2.2.2.1.row (HW.out.1.below H2.out.2.1 HW.out.1.lt)) Try.underlying27 rfl (size27 a n c) ?_)
    | (go_at_call 27; refine Calls.mono (rdelete27 (nm := nm) HX.out.2.2.2.2 (by rw [HT.out.2.2.2.1]; exact HT.out.2.1) (H3.out.2.2.2.1.rt HT.out.2.2.1)) ?_; rintro e w4 ⟨a4, n4, c4, X4, he, k1, k2, k3, k4⟩; rw [HT.out.2.2.2.1, H3.out.2.2.2.2.2] at he; subst he; have H4 : Hid (RT w4 a4 n4 c4 X4 ∧ bof X4 = stS (fls cs) ⟨k, nm, ha, hc, l⟩ ∧ After w3 w4 ∧ (∀ g, g < w3.heap.size → NT g a X → NT g a4 X4)) := ⟨k1, by rw [k2, HT.out.2.2.2.1]; simp only [stS, HX.out.2.2.1]; rfl, k3, k4⟩; clear k1 k2 k3 k4)
    | (refine wpList_store_row rfl 27 (.tmp 4) (.tmp 28) rfl g0 #[.slice a4 n4 c4] (by kernel_rfl) (by kernel_rfl) 27 _ ((H3.out.2.2.2.2.1.row (HW.out.1.below H2.out.2.1 HW.out.1.lt)).below H4.out.2.2.1 (H3.out.2.2.2.2.1.row (HW.out.1.below H2.out.2.1 HW.out.1.lt)).lt) (size27 a4 n4 c4) rfl (one27 a4 n4 c4) ?_))
  have hR0 : RowIs w4 g0 27 [.slice a n c] := (H3.out.2.2.2.2.1.row (HW.out.1.below H2.out.2.1 HW.out.1.lt)).below H4.out.2.2.1 (H3.out.2.2.2.2.1.row (HW.out.1.below H2.out.2.1 HW.out.1.lt)).lt
  have hR2 : RowIs w4 (g0 + 2) 27 [.slice none 0 0] := (H3.out.2.2.2.2.1.row (HW.out.2.2.1.below H2.out.2.1 HW.out.2.2.1.lt)).below H4.out.2.2.1 (H3.out.2.2.2.2.1.row (HW.out.2.2.1.below H2.out.2.1 HW.out.2.2.1.lt)).lt
  obtain ⟨w5, hw5⟩ : ∃ w5, w4.setRow g0 #[.slice a4 n4 c4] = w5 := ⟨_, rfl⟩
  rw [hw5]
  have k45 : KeptF (fun b => b = g0) w4 w5 := by rw [← hw5]; exact ⟨rfl, rfl, rfl, by rw [size_setRow]; exact Nat.le_refl _, fun b _ hb => setRow_other _ _ _ _ hb⟩
  have hR05 : RowIs w5 g0 27 [.slice a4 n4 c4] := by rw [← hw5]; exact hR0.setRow _
  have hR25 : RowIs w5 (g0 + 2) 27 [.slice none 0 0] := k45.row hR2 (by omega)
  have hsz2 : g0 + 3 ≤ w2.heap.size := by have := H2.out.2.1.size; have := HW.out.2.2.2.2; omega
  have hsz3 : w2.heap.size ≤ w3.heap.size := H3.out.2.2.2.2.1.size
  have hsz4 : w3.heap.size ≤ w4.heap.size := H4.out.2.2.1.size
  have hob : ∀ ad, oa = some ad → g0 + 3 ≤ ad.block ∧ ad.block < w2.heap.size := fun ad e => by have := own_block H2.out.1 ad e; have := HW.out.2.2.2.2; omega
  have hO5 : OI w5 oa m w5 := ⟨KeptF.refl _ _, fun ad e => by
    have h1 := own_rw H2.out.1 ad e
    have h2 : BY w2 ad.block (l.length * 32) := by_sl (e ▸ HS2.out) h1
    rw [HX.out.2.1] at h2
    obtain ⟨bs, hbr, hbb⟩ := h2
    have h3 := H3.out.2.2.2.2.1.row hbr
    have h4 := k45.row (h3.below H4.out.2.2.1 h3.lt) (by have := hob ad e; omega)
    exact ⟨h1.1, h1.2.1, bs, h4, hbb⟩⟩
  have HO5 := show Hid _ from hO5
  have HR5 : Hid (RowIs w5 g0 27 [.slice a4 n4 c4] ∧ RowIs w5 (g0 + 2) 27 [.slice none 0 0] ∧ KeptF (fun b => b = g0) w4 w5 ∧ g0 + 3 ≤ w2.heap.size ∧ w2.heap.size ≤ w3.heap.size ∧ w3.heap.size ≤ w4.heap.size ∧ (∀ ad, oa = some ad → g0 + 3 ≤ ad.block ∧ ad.block < w2.heap.size)) := ⟨hR05, hR25, k45, hsz2, hsz3, hsz4, hob⟩
  clear hR0 hR2 hw5 k45 hR05 hR25 hsz2 hsz3 hsz4 hob hO5 d12 d20 d21 d30 d31 hW1
  go_loopw [11] (fun iv wr => ∃ i : Nat, i ≤ m ∧ iv = .int .i64 (i : Int) ∧ Hid (OI w5 oa m wr)) (fun iv _ => m - (intOf iv).toNat)
  case atStart => exact ⟨0, Nat.zero_le _, rfl, HO5⟩
  case round =>
    obtain ⟨i, him, rfl, HI⟩ := hrel
    by_cases hlt : i < m
    · have hii : (i : Int) < (m : Int) := by omega
      have HLT : Hid (i < m) := hlt
      obtain ⟨hb, rfl, hby⟩ : ∃ hb, oa = some ⟨hb, 0, none⟩ ∧ BY wr hb (m * 32) := by
        obtain ⟨b, o, e, _⟩ := HS2.out.2 (fun e => by have h1 := HX.out.2.1; simp only [hsL, List.map_eq_nil_iff] at e; rw [e] at h1; simp at h1; omega)
        obtain ⟨k1, _, k3⟩ := HI.out.by_ ⟨b, o, none⟩ e
        simp only at k1 k3
        exact ⟨b, by rw [e, k1], k3⟩
      obtain ⟨cv, hcv⟩ := by_cell (o := i * 32) hby (by omega)
      have HBY : Hid (BY wr hb (m * 32)) := hby
      have HCV : Hid (wr.cell? ⟨hb, 0 + i * 32, none⟩ = some (.int .u8 (cv.toNat : Int))) := by rw [Nat.zero_add]; exact hcv
      clear hby hcv
      go_wp2_with fail
      refine wp_region_noPanic ?_
      refine wp_region_held_drew (S := KeptF (fun b => b = hb) wr) (by kernel_rfl) (KeptF.of_after (After.drew (After.refl wr))) ?_
      intro hS0
      refine tk 0 69 (.slice (some ⟨hb, 0, none⟩) m oc) (fuel := 8) rfl (by kernel_rfl) (by kernel_rfl) (by kernel_rfl) (by kernel_rfl) noPanic_false (by kernel_rfl) (fun _ _ => by kernel_rfl) hS0 ?_
      refine tk 1 70 (.int .i64 (i : Int)) (fuel := 7) rfl (by kernel_rfl) (by kernel_rfl) (by kernel_rfl) (by kernel_rfl) noPanic_false (by kernel_rfl) (fun _ _ => by kernel_rfl) hS0 ?_
      refine tk 2 71 (.pointer (some ⟨hb, 0 + i * 32, none⟩)) (fuel := 6) rfl (by kernel_rfl) (by kernel_rfl) (by kernel_rfl) (by kernel_rfl) noPanic_false (by kernel_rfl) (fun W _ => x_idx44 (n := m) (c := oc) (x := .tmp 69) (y := .tmp 70) (by kernel_rfl) (by kernel_rfl) (by kernel_rfl) HLT.out) hS0 ?_
      refine tk 3 72 (.pointer (some ⟨hb, 0 + i * 32, none⟩)) (fuel := 5) rfl (by kernel_rfl) (by kernel_rfl) (by kernel_rfl) (by kernel_rfl) noPanic_false (by kernel_rfl) (fun _ _ => by kernel_rfl) hS0 ?_
      refine tk 6 75 (.pointer (some ⟨hb, 0 + i * 32, none⟩)) (fuel := 4) rfl (by kernel_rfl) (by kernel_rfl) (by kernel_rfl) (by kernel_rfl) noPanic_false (by kernel_rfl) (fun W _ => x_idx44 (n := m) (c := oc) (x := .tmp 69) (y := .tmp 70) (by kernel_rfl) (by kernel_rfl) (by kernel_rfl) HLT.out) hS0 ?_
      refine tkRunS 4 73 (.int .u8 (cv.toNat : Int)) (wr.drew) (fuel := 3) rfl (by kernel_rfl) (by kernel_rfl) (by kernel_rfl) (x_loadT (x := .tmp 72) (t := 5) (g := hb) (j := 0 + i * 32) Try.underlying5 rfl (by kernel_rfl) (by kernel_rfl) HCV.out) (hS0) ?_
      refine tk 5 74 (.int .u8 ((cv + 1).toNat : Int)) (fuel := 2) rfl (by kernel_rfl) (by kernel_rfl) (by kernel_rfl) (by kernel_rfl) noPanic_false (by kernel_rfl) (fun W _ => x_add5 (x := .tmp 73) (by kernel_rfl) (by kernel_rfl)) hS0 ?_
      refine tk 7 76 (.pointer (some ⟨hb, 0 + i * 32, none⟩)) (fuel := 1) rfl (by kernel_rfl) (by kernel_rfl) (by kernel_rfl) (by kernel_rfl) noPanic_false (by kernel_rfl) (fun _ _ => by kernel_rfl) hS0 ?_
      refine tkStoreS 8 (wr.drew.setCell ⟨hb, 0 + i * 32, none⟩ (.int .u8 ((cv + 1).toNat : Int))) (fuel := 0) rfl (by kernel_rfl) (by kernel_rfl) (by kernel_rfl) (x_st5 (x := .tmp 76) (y := .tmp 74) (by kernel_rfl) (by kernel_rfl) (by kernel_rfl) HCV.out (by_frozen HBY.out)) (hS0.trans (KeptF.set (F := fun b => b = hb) wr.drew ⟨hb, 0 + i * 32, none⟩ _ rfl) (fun _ _ h => h)) ?_
      refine wpAnyH_done (by kernel_rfl) (NoPanic.normal ?_) _
      have HN : Hid (OI w5 (some ⟨hb, 0, none⟩) m (wr.drew.setCell ⟨hb, 0 + i * 32, none⟩ (.int .u8 ((cv + 1).toNat : Int)))) := HI.out.set _
      clear hS0
      obtain ⟨wn, hwn⟩ : ∃ wn, wr.drew.setCell ⟨hb, 0 + i * 32, none⟩ (.int .u8 ((cv + 1).toNat : Int)) = wn := ⟨_, rfl⟩
      rw [hwn] at HN ⊢
      clear hwn
      go_simp
      go_wp2
      go_roundw
      case rel => exact ⟨i + 1, by omega, by go_num, HN⟩
      case measure => simp [intOf]; omega
    · have hii : ¬ (i : Int) < (m : Int) := by omega
      have hR6 : RowIs wr g0 27 [.slice a4 n4 c4] := HI.out.kept.row HR5.out.1 (fun ⟨ad, e, h⟩ => by have := HR5.out.2.2.2.2.2.2 ad e; omega)
      have hR7 : RowIs wr (g0 + 2) 27 [.slice none 0 0] := HI.out.kept.row HR5.out.2.1 (fun ⟨ad, e, h⟩ => by have := HR5.out.2.2.2.2.2.2 ad e; omega)
      obtain ⟨w9, hw9⟩ : ∃ w9, wr.setRow (g0 + 2) #[.slice a4 n4 c4] = w9 := ⟨_, rfl⟩
      have k9 : KeptF (fun b => b = g0 ∨ b = g0 + 2 ∨ ∃ ad, oa = some ad ∧ b = ad.block) w4 w9 := by
        have k1 : KeptF (fun b => b = g0 ∨ b = g0 + 2 ∨ ∃ ad, oa = some ad ∧ b = ad.block) w4 wr := (HR5.out.2.2.1.mono (fun _ _ h => .inl h)).trans HI.out.kept (fun _ _ h => .inr (.inr h))
        refine k1.trans (G := fun b => b = g0 + 2) ?_ (fun _ _ h => .inr (.inl h))
        rw [← hw9]; exact ⟨rfl, rfl, rfl, by rw [size_setRow]; exact Nat.le_refl _, fun b _ hb => setRow_other _ _ _ _ hb⟩
      have HF : Hid (RowIs w9 (g0 + 2) 27 [.slice a4 n4 c4] ∧ DoP w F tb mb a X (stS (fls cs) ⟨k, nm, ha, hc, l⟩) w9 a4 n4 c4) := by
        refine ⟨by rw [← hw9]; exact hR7.setRow _, X4, cs3, H3.out.1, H4.out.2.1, ?_, ?_, ?_, fun g hg hn => H4.out.2.2.2 g (by have := HR5.out.2.2.2.1; have := HR5.out.2.2.2.2.1; have := HG0.out; omega) hn⟩
        · refine ((H3.out.2.1.after H4.out.2.2.1).kept k9 (fun b hbl hm hG => ?_)).mono (fun b hm => ?_)
          · have h1 := HR5.out.2.2.2.1
            rcases hm with hm | hm
            · have h2 := HT.out.2.2.2.2 b hm
              rcases hG with e | e | ⟨ad, e, e2⟩
              · omega
              · omega
              · have := HR5.out.2.2.2.2.2.2 ad e; omega
            · rcases hG with e | e | ⟨ad, e, e2⟩
              · omega
              · omega
              · have := HR5.out.2.2.2.2.2.2 ad e; omega
          · rcases hm with hm | hm
            · exact .inl hm
            · exact .inr ⟨by have := HR5.out.2.2.2.1; have := HG0.out; omega, by have := HR5.out.2.2.2.2.2.1; have := k9.size; omega⟩
        · refine H4.out.1.kept k9 (fun g hG => ?_)
          have hgs : w.heap.size ≤ g ∧ g < w3.heap.size := by
            have h1 := HR5.out.2.2.2.1; have h2 := HR5.out.2.2.2.2.1; have h3 := HG0.out
            rcases hG with e | e | ⟨ad, e, e2⟩
            · omega
            · omega
            · have := HR5.out.2.2.2.2.2.2 ad e; omega
          exact H4.out.2.2.2 g hgs.2 (HT.out.2.2.1.nt hgs.1)
        · have k1 : KeptF (fun b => b = mb) w w4 := ((KeptF.of_after (F := fun b => b = mb) H2.out.2.2.2).trans H3.out.2.2.1 (fun _ _ h => h)).trans (KeptF.of_after (F := fun b => b = mb) H4.out.2.2.1) (fun _ _ h => h)
          refine k1.trans k9 (fun b hb hG => ?_)
          have h3 := HG0.out
          rcases hG with e | e | ⟨ad, e, e2⟩
          · omega
          · omega
          · have := HR5.out.2.2.2.2.2.2 ad e; omega
      have HR6 : Hid (RowIs wr g0 27 [.slice a4 n4 c4] ∧ RowIs wr (g0 + 2) 27 [.slice none 0 0] ∧ wr.setRow (g0 + 2) #[.slice a4 n4 c4] = w9) := ⟨hR6, hR7, hw9⟩
      clear hR6 hR7 hw9 k9
      go_wp2_with (first
        | (refine wpList_load_row rfl 27 (.tmp 4) rfl g0 (by kernel_rfl) 27 #[.slice a4 n4 c4] (0, 0) _ HR6.out.1 Try.underlying27 rfl (size27 a4 n4 c4) ?_)
        | (refine wpList_store_row rfl 27 (.tmp 6) (.tmp 77) rfl (g0 + 2) #[.slice a4 n4 c4] (by kernel_rfl) (by kernel_rfl) 27 _ HR6.out.2.1 (size27 a4 n4 c4) rfl (one27 a4 n4 c4) ?_; rw [HR6.out.2.2]))
      refine bodyPost_ret (ret27t Try.results10 _ _ (g0 + 2) (.slice a4 n4 c4) (.bool true) (by kernel_rfl) HF.out.1 (by kernel_rfl)) rfl ?_
      exact ⟨_, _, _, rfl, HF.out.2⟩
theorem do10 {F : Nat → Prop} {tb mb n c : Nat} {cs : List Ent} {a : Option Addr} {X : List Bx} {x : Ac} {w : World} (hF : ∀ b, F b → b < w.heap.size) (hT : TbA w F tb mb cs) (hcs : TOk (fls cs)) (hR : RT w a n c X) (hb : bof X = fls cs) (hx : AcAt w x) :
    Calls Try.prog 10 #[.pointer (some ⟨tb, 0, none⟩), .agg #[.slice a n c], .agg (acv x).toArray] w fun e w' => ∃ a' n' c', e = .returned (.tuple #[.agg #[.slice a' n' c'], .bool true]) ∧ DoP w F tb mb a X (stS (fls cs) x) w' a' n' c' := by
  have h4 : x.k.toNat % 4 = 0 ∨ x.k.toNat % 4 = 1 ∨ x.k.toNat % 4 = 2 ∨ x.k.toNat % 4 = 3 := by omega
  rcases h4 with h | h | h | h
  · exact do10_0 hF hT hcs hR hb hx h
  · exact do10_1 hF hT hcs hR hb hx h
  · exact do10_2 hF hT hcs hR hb hx h
  · exact do10_3 hF hT hcs hR hb hx h
end Go.Proofs.Ytppbbmnekeelpaa
