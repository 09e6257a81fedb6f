/-
  THE LAWS' do (10): a call on both.
-/
import Derived.Test.YtcmcapcagblafaaBN
import Derived.Test.YtcmcapcagblafaaBK
namespace Go.Proofs.Ytcmcapcagblafaa
open Go.RowKit Dsk
attribute [local go_sem] Oper.semAt_some
/-- What lies in rows stays. -/
structure CK (W W' : World) : Prop where
  size : W.heap.size ≤ W'.heap.size
  cells : ∀ (b : Nat) (c : Array Value) (t : TypeId) (f : Nat × Nat), W.heap[b]? = some (Obj.cells c t f) → W'.heap[b]? = some (Obj.cells c t f)
theorem CK.refl (W : World) : CK W W := ⟨Nat.le_refl _, fun _ _ _ _ h => h⟩
theorem CK.of_after {W W' : World} (h : After W W') : CK W W' := ⟨h.size, fun b c t f hb => by rw [h.block b (Array.getElem?_eq_some_iff.1 hb).1]; exact hb⟩
theorem CK.trans {a b c : World} (h : CK a b) (k : CK b c) : CK a c := ⟨Nat.le_trans h.size k.size, fun x c t f hb => k.cells x c t f (h.cells x c t f hb)⟩
theorem CK.of_map {W W' : World} {mb : Nat} (h : KeptF (fun b => b = mb) W W') {F : Nat → Prop} {tb : Nat} {cs : List Ent} (hT : TbA W F tb mb cs) : CK W W' := ⟨h.size, fun b c t f hb => by
  obtain ⟨es, cl, hm, _⟩ := hT.own
  rw [h.block b (Array.getElem?_eq_some_iff.1 hb).1 (fun e => by rw [e, hm] at hb; cases hb)]; exact hb⟩
theorem CK.row {W W' : World} (h : CK W W') {g : Nat} {t : TypeId} {cs : List Value} (hr : RowIs W g t cs) : RowIs W' g t cs := h.cells _ _ _ _ hr
theorem CK.cell {W W' : World} (h : CK W W') {p : Addr} {v : Value} (hc : W.cell? p = some v) : W'.cell? p = some v := by
  unfold World.cell? at hc ⊢
  split at hc
  · rename_i c t f hb
    rw [h.cells _ _ _ _ hb]; exact hc
  · cases hc
theorem CK.range {W W' : World} (h : CK W W') {b o : Nat} {l : List Value} (hr : W.rangeAt b o l) : W'.rangeAt b o l := fun j v hv => h.cell (hr j v hv)
theorem CK.sl {W W' : World} (h : CK W W') {k : Nat} {a : Option Addr} {L : List (List Value)} (hs : SlAt W k a L) : SlAt W' k a L := ⟨hs.1, fun hn => by obtain ⟨b, o, e, hr⟩ := hs.2 hn; exact ⟨b, o, e, h.range hr⟩⟩
theorem CK.bx {W W' : World} (h : CK W W') {x : Bx} (hx : BxAt W x) : BxAt W' x := ⟨h.sl hx.sl, hx.l32, hx.z, hx.fit⟩
theorem CK.bs {W W' : World} (h : CK W W') {a : Option Addr} {X : List Bx} (hx : BsAt W a X) : BsAt W' a X := ⟨h.sl hx.sl, fun x hm => h.bx (hx.each x hm)⟩
theorem CK.rt {W W' : World} (h : CK W W') {a : Option Addr} {n c : Nat} {X : List Bx} (hx : RT W a n c X) : RT W' a n c X := ⟨h.bs hx.at_, hx.len, hx.cap, hx.z⟩
theorem RT.kept {W W' : World} {G : Nat → Prop} {a : Option Addr} {n c : Nat} {X : List Bx} (h : RT W a n c X) (hk : KeptF G W W') (hnt : ∀ g, G g → NT g a X) : RT W' a n c X := by
  have rk : ∀ {b o : Nat} {l : List Value}, W.rangeAt b o l → ¬ G b → W'.rangeAt b o l := fun {b o l} hr hG j v hv => by
    have hc := hr j v hv
    exact Eq.trans (World.cell?_of_block (w := W) (show W'.heap[(⟨b, o + j, none⟩ : Addr).block]? = W.heap[(⟨b, o + j, none⟩ : Addr).block]? from hk.block b (World.block_lt_of_cell? W _ hc) hG)) hc
  refine ⟨⟨⟨h.at_.sl.1, fun hn => ?_⟩, fun x hx => ⟨⟨(h.at_.each x hx).sl.1, fun hn => ?_⟩, (h.at_.each x hx).l32, (h.at_.each x hx).z, (h.at_.each x hx).fit⟩⟩, h.len, h.cap, h.z⟩
  · obtain ⟨b, o, e, hr⟩ := h.at_.sl.2 hn
    exact ⟨b, o, e, rk hr (fun hG => (hnt b hG).1 _ e (fun e2 => hn (by rw [e2]; rfl)) rfl)⟩
  · obtain ⟨b, o, e, hr⟩ := (h.at_.each x hx).sl.2 hn
    exact ⟨b, o, e, rk hr (fun hG => (hnt b hG).2 x hx _ e (fun e2 => hn (by rw [e2]; rfl)) rfl)⟩
/-- A call as it lies. -/
structure Ac where
  k : UInt8
  nm : Dsk.Nm
  a : Option Addr
  c : Nat
  l : List H
def acv (x : Ac) : List Value := [.int .u8 (x.k.toNat : Int), .string (strOf x.nm), .slice x.a x.l.length x.c]
structure AcAt (W : World) (x : Ac) : Prop where
  sl : SlAt W 32 x.a (hsL x.l)
  l32 : All32 x.l
  z : x.a = none → x.c = 0
  fit : x.l.length * 32 ≤ 140737488355328
  nl : x.nm.length ≤ maxLen
theorem AcAt.ck {W W' : World} {x : Ac} (h : AcAt W x) (hk : CK W W') : AcAt W' x := ⟨hk.sl h.sl, h.l32, h.z, h.fit, h.nl⟩
def stS (S : Tb) (x : Ac) : Tb := if x.k.toNat % 4 ≤ 1 then crS S x.nm x.l else if x.k.toNat % 4 = 2 then mvS S x.nm x.l else dlS S x.nm
theorem stS_ok {S : Tb} (h : TOk S) {x : Ac} (h32 : All32 x.l) : TOk (stS S x) := by
  unfold stS
  split
  · exact h.cr _ _ h32
  · split
    · exact h.mv _ _ h32
    · exact h.dl _
theorem x_rem4 {oi : Oper} {a : Act} {w : World} {x : Operand} {k : UInt8} {r : Nat} (hr : k.toNat % 4 = r) (hop : oi.op = .binOp .rem 5 x (.const (.int .u8 4)) 5) (hx : a.eval x = .int .u8 (k.toNat : Int)) : (execOp a.eval oi).run Try.prog w = .ok (.value (.int .u8 (r : Int))) w := by
  have e : a.eval (.const (.int .u8 4)) = .int .u8 4 := rfl
  have h1 : Int.tmod (k.toNat : Int) 4 = (r : Int) := by
    rw [Int.tmod_eq_emod_of_nonneg (by omega)]; omega
  have h2 : (r : Int) < 4 := by omega
  unfold execOp
  simp only [hop, hx, e]
  simp [go_sem, h1]
/-- What do leaves. -/
def DoP (w : World) (F : Nat → Prop) (tb mb : Nat) (a : Option Addr) (X : List Bx) (S : Tb) (w' : World) (a' : Option Addr) (n' c' : Nat) : Prop := ∃ X' cs', fls cs' = S ∧ bof X' = S ∧ TbA w' (more F w w') tb mb cs' ∧ RT w' a' n' c' X' ∧ KeptF (fun b => b = mb) w w' ∧ ∀ g, g < w.heap.size → NT g a X → NT g a' X'
structure OI (w5 : World) (oa : Option Addr) (m : Nat) (wr : World) : Prop where
  kept : KeptF (fun b => ∃ ad, oa = some ad ∧ b = ad.block) w5 wr
  by_ : ∀ ad, oa = some ad → ad.off = 0 ∧ ad.spot = none ∧ BY wr ad.block (m * 32)
theorem OI.set {w5 wr : World} {hb m o : Nat} (h : OI w5 (some ⟨hb, 0, none⟩) m wr) (c : UInt8) : OI w5 (some ⟨hb, 0, none⟩) m (wr.drew.setCell ⟨hb, o, none⟩ (.int .u8 (c.toNat : Int))) := by
  have k1 : KeptF (fun b => ∃ ad, (some ⟨hb, 0, none⟩ : Option Addr) = some ad ∧ b = ad.block) w5 wr.drew := h.kept.trans (KeptF.of_after (After.drew (After.refl wr))) (fun _ _ h => h)
  refine ⟨k1.trans (KeptF.set wr.drew ⟨hb, o, none⟩ _ ⟨_, rfl, rfl⟩) (fun _ _ h => h), fun ad e => ?_⟩
  obtain ⟨h1, h2, h3⟩ := h.by_ ad e
  exact ⟨h1, h2, BY.set (W := wr.drew) h3 _ _ _⟩
end Go.Proofs.Ytcmcapcagblafaa
