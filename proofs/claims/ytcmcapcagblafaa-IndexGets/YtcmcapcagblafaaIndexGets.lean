/-
  PROVED: for every slice of bytes that a call of stemmalaw17.IndexGets is handed, the call returns true and the slice reads afterwards as it read before: any bytes are the records that the document says, or none; what is told is the own of the one who asks. CONDITIONS: none; no input is left out.
-/
import Derived.Test.YtcmcapcagblafaaXV
import Derived.Test.YtcmcapcagblafaaXJ
import Derived.Test.YtcmcapcagblafaaXC
import Derived.Test.YtcmcapcagblafaaBN
import Derived.Test.YtcmcapcagblafaaPO
namespace Go.Proofs.Ytcmcapcagblafaa
open Go.RowKit Go.Maps Dsk Leb
attribute [local go_sem] Oper.semAt_some
theorem Stp.back {α : Type} {p : List UInt8 → Option (α × List UInt8)} {bs bs' t0 : List UInt8} {e e' : Nat} {x x0 : α} (h : Stp p bs e x bs' e') (he : e = 0) (hp : p bs = some (x0, t0)) : e' = 0 ∧ x = x0 ∧ bs' = t0 := by
  rcases h with ⟨_, h2, h3⟩ | ⟨_, h2⟩
  · rw [hp] at h2; cases h2; exact ⟨h3, rfl, rfl⟩
  · rw [h2 he] at hp; cases hp
def restR (L : List Rc) (i : Nat) : List UInt8 := ((L.drop i).map rcB).flatten
def restB (S : Tb) (j : Nat) : List UInt8 := ((S.drop j).map brB).flatten
theorem restR_cons {L : List Rc} {i : Nat} {r : Rc} (h : L[i]? = some r) : restR L i = rcB r ++ restR L (i + 1) := by
  obtain ⟨hi, e⟩ := List.getElem?_eq_some_iff.1 h
  unfold restR
  rw [List.drop_eq_getElem_cons hi, e]; rfl
theorem restB_cons {S : Tb} {j : Nat} {p : Dsk.Nm × List H} (h : S[j]? = some p) : restB S j = brB p ++ restB S (j + 1) := by
  obtain ⟨hi, e⟩ := List.getElem?_eq_some_iff.1 h
  unfold restB
  rw [List.drop_eq_getElem_cons hi, e]; rfl
theorem mayB_up {h : List H} (hm : mayB h = true) : upB h = true := by
  unfold mayB at hm; simp at hm; exact hm.2
def KO (raw : List UInt8) (n i e : Nat) (bs : List UInt8) (X : List Rx) : Prop := ∀ L, gOk raw L → e = 0 ∧ n = L.length ∧ rsof X = L.take i ∧ bs = restR L i
def KN (raw : List UInt8) (n i : Nat) (X : List Rx) (s : Dsk.Nm) (e : Nat) (bs : List UInt8) : Prop := ∀ L, gOk raw L → e = 0 ∧ n = L.length ∧ rsof X = L.take i ∧ ∃ r, L[i]? = some r ∧ s = r.1 ∧ bs = brsB r.2.1 ++ (hsB r.2.2 ++ restR L (i + 1))
def KI (raw : List UInt8) (n i : Nat) (X : List Rx) (s : Dsk.Nm) (m j e : Nat) (bs : List UInt8) (Y : List Bx) : Prop := ∀ L, gOk raw L → e = 0 ∧ n = L.length ∧ rsof X = L.take i ∧ ∃ r, L[i]? = some r ∧ s = r.1 ∧ m = r.2.1.length ∧ bof Y = r.2.1.take j ∧ bs = restB r.2.1 j ++ (hsB r.2.2 ++ restR L (i + 1))
def KB (raw : List UInt8) (n i : Nat) (X : List Rx) (s : Dsk.Nm) (m j : Nat) (z : Dsk.Nm) (e : Nat) (bs : List UInt8) (Y : List Bx) : Prop := ∀ L, gOk raw L → e = 0 ∧ n = L.length ∧ rsof X = L.take i ∧ ∃ r p, L[i]? = some r ∧ s = r.1 ∧ m = r.2.1.length ∧ bof Y = r.2.1.take j ∧ r.2.1[j]? = some p ∧ z = p.1 ∧ bs = hsB p.2 ++ (restB r.2.1 (j + 1) ++ (hsB r.2.2 ++ restR L (i + 1)))
theorem KO.start {t t1 : List UInt8} {n e1 : Nat} (hs : Stp (pN 64) t 0 n t1 e1) : KO (1 :: t) n 0 e1 t1 [] := fun L h => by
  obtain ⟨_, e, hm, h32⟩ := h
  unfold ixB at e
  injection e with _ e
  have hp := pN_back (most := 64) (n := L.length) hm.few (by have := hm.few; omega) ((L.map rcB).flatten)
  rw [← e] at hp
  obtain ⟨h1, h2, h3⟩ := hs.back rfl hp
  exact ⟨h1, h2, rfl, by unfold restR; rw [h3]; simp⟩
theorem KO.name {raw bs b1 : List UInt8} {n i e e1 : Nat} {X : List Rx} {s : Dsk.Nm} (h : KO raw n i e bs X) (hi : i < n) (hs : Stp (pT 32) bs e s b1 e1) : KN raw n i X s e1 b1 := fun L g => by
  obtain ⟨h1, h2, h3, h4⟩ := h L g
  obtain ⟨r, hr⟩ : ∃ r, L[i]? = some r := ⟨_, List.getElem?_eq_getElem (by omega)⟩
  have hok := g.2.2.1.each r (List.mem_of_getElem? hr)
  rw [restR_cons hr] at h4
  unfold rcB at h4
  rw [List.append_assoc] at h4
  have hp := waysT.back (x := r.1) ((brsB r.2.1 ++ hsB r.2.2) ++ restR L (i + 1)) (by have := nmB_len hok.nam; omega)
  rw [← h4] at hp
  obtain ⟨k1, k2, k3⟩ := hs.back h1 hp
  exact ⟨k1, h2, h3, r, hr, k2, by rw [k3, List.append_assoc]⟩
theorem KN.many {raw bs b1 : List UInt8} {n i e e1 m : Nat} {X : List Rx} {s : Dsk.Nm} (h : KN raw n i X s e bs) (hs : Stp (pN 64) bs e m b1 e1) : KI raw n i X s m 0 e1 b1 [] := fun L g => by
  obtain ⟨h1, h2, h3, r, hr, h4, h5⟩ := h L g
  have hok := g.2.2.1.each r (List.mem_of_getElem? hr)
  have hf := hok.brs.few
  have hp := pN_back (most := 64) (n := r.2.1.length) hf (by omega) ((r.2.1.map brB).flatten ++ (hsB r.2.2 ++ restR L (i + 1)))
  unfold brsB at h5
  rw [List.append_assoc] at h5
  rw [← h5] at hp
  obtain ⟨k1, k2, k3⟩ := hs.back h1 hp
  exact ⟨k1, h2, h3, r, hr, h4, k2, rfl, by rw [k3]; unfold restB; simp⟩
theorem KI.name {raw bs b1 : List UInt8} {n i e e1 m j : Nat} {X : List Rx} {s z : Dsk.Nm} {Y : List Bx} (h : KI raw n i X s m j e bs Y) (hj : j < m) (hs : Stp (pT 32) bs e z b1 e1) : KB raw n i X s m j z e1 b1 Y := fun L g => by
  obtain ⟨h1, h2, h3, r, hr, h4, h5, h6, h7⟩ := h L g
  obtain ⟨p, hp⟩ : ∃ p, r.2.1[j]? = some p := ⟨_, List.getElem?_eq_getElem (by omega)⟩
  have hok := (g.2.2.1.each r (List.mem_of_getElem? hr)).brs.each p (List.mem_of_getElem? hp)
  rw [restB_cons hp] at h7
  unfold brB at h7
  rw [List.append_assoc, List.append_assoc] at h7
  have hq := waysT.back (x := p.1) (hsB p.2 ++ (restB r.2.1 (j + 1) ++ (hsB r.2.2 ++ restR L (i + 1)))) (by have := nmB_len hok.1; omega)
  rw [← h7] at hq
  obtain ⟨k1, k2, k3⟩ := hs.back h1 hq
  exact ⟨k1, h2, h3, r, p, hr, h4, h5, h6, hp, k2, k3⟩
/-- What is known of hashes that were asked for. -/
def HgT (bs : List UInt8) (m : Nat) (l : List H) (u e : Nat) : Prop := ∀ (s : List H) (t : List UInt8), bs = hsB s ++ t → All32 s → s.length ≤ m → upB s = true → e = 0 ∧ l = s ∧ u = (hsB s).length
theorem KB.heads {raw bs : List UInt8} {n i e m j u e' : Nat} {X : List Rx} {s z : Dsk.Nm} {Y : List Bx} {l : List H} (h : KB raw n i X s m j z e bs Y) (hg : HgT bs 16 l u e') : (∀ L, gOk raw L → e = 0 ∧ e' = 0) ∧ ∀ y : Bx, y.nm = z → y.l = l → KI raw n i X s m (j + 1) e (bs.drop u) (Y ++ [y]) := by
  have key : ∀ L, gOk raw L → e' = 0 ∧ e = 0 ∧ n = L.length ∧ rsof X = L.take i ∧ ∃ r p, L[i]? = some r ∧ s = r.1 ∧ m = r.2.1.length ∧ bof Y = r.2.1.take j ∧ r.2.1[j]? = some p ∧ z = p.1 ∧ l = p.2 ∧ bs.drop u = restB r.2.1 (j + 1) ++ (hsB r.2.2 ++ restR L (i + 1)) := fun L g => by
    obtain ⟨h1, h2, h3, r, p, hr, h4, h5, h6, hp, h7, h8⟩ := h L g
    have hm := g.2.2.1.each r (List.mem_of_getElem? hr)
    have hok := hm.brs.each p (List.mem_of_getElem? hp)
    have h32 := (g.2.2.2 r (List.mem_of_getElem? hr)).brs p (List.mem_of_getElem? hp)
    obtain ⟨k1, k2, k3⟩ := hg p.2 _ h8 h32 (mayB_len hok.2) (mayB_up hok.2)
    exact ⟨k1, h1, h2, h3, r, p, hr, h4, h5, h6, hp, h7, k2, by rw [h8, k3, List.drop_left]⟩
  refine ⟨fun L g => ⟨(key L g).2.1, (key L g).1⟩, fun y hy hl L g => ?_⟩
  obtain ⟨_, h1, h2, h3, r, p, hr, h4, h5, h6, hp, h7, h8, h9⟩ := key L g
  refine ⟨h1, h2, h3, r, hr, h4, h5, ?_, h9⟩
  rw [bof_snoc, h6, List.take_add_one, hp]
  show _ ++ [(y.nm, y.l)] = _ ++ [p]
  rw [hy, hl, h7, h8]
theorem KI.changes {raw bs : List UInt8} {n i e m j u e' : Nat} {X : List Rx} {s : Dsk.Nm} {Y : List Bx} {l : List H} (h : KI raw n i X s m j e bs Y) (hj : j = m ∨ e ≠ 0) (hg : HgT bs 4096 l u e') : (∀ L, gOk raw L → e = 0 ∧ e' = 0) ∧ ∀ x : Rx, x.nm = s → x.X = Y → x.l = l → KO raw n (i + 1) e (bs.drop u) (X ++ [x]) := by
  have key : ∀ L, gOk raw L → e' = 0 ∧ e = 0 ∧ n = L.length ∧ rsof X = L.take i ∧ ∃ r, L[i]? = some r ∧ s = r.1 ∧ bof Y = r.2.1 ∧ l = r.2.2 ∧ bs.drop u = restR L (i + 1) := fun L g => by
    obtain ⟨h1, h2, h3, r, hr, h4, h5, h6, h8⟩ := h L g
    have hm := g.2.2.1.each r (List.mem_of_getElem? hr)
    have h32 := g.2.2.2 r (List.mem_of_getElem? hr)
    have hjm : j = m := by rcases hj with hj | hj; exact hj; exact absurd h1 hj
    have hr0 : restB r.2.1 j = [] := by unfold restB; rw [hjm, h5, List.drop_length]; rfl
    rw [hr0, List.nil_append] at h8
    obtain ⟨k1, k2, k3⟩ := hg r.2.2 _ h8 h32.chs hm.few hm.up
    exact ⟨k1, h1, h2, h3, r, hr, h4, by rw [h6, hjm, h5, List.take_length], k2, by rw [h8, k3, List.drop_left]⟩
  refine ⟨fun L g => ⟨(key L g).2.1, (key L g).1⟩, fun x hx hX hl L g => ?_⟩
  obtain ⟨_, h1, h2, h3, r, hr, h4, h6, h8, h9⟩ := key L g
  refine ⟨h1, h2, ?_, h9⟩
  rw [rsof_snoc, h3, List.take_add_one, hr]
  show _ ++ [rof x] = _ ++ [r]
  unfold rof
  rw [hx, hX, hl, h4, h6, h8]
theorem KO.done {raw bs : List UInt8} {n i e : Nat} {X : List Rx} (h : KO raw n i e bs X) (hi : i = n ∨ e ≠ 0) : ∀ L, gOk raw L → e = 0 ∧ rsof X = L := fun L g => by
  obtain ⟨h1, h2, h3, h4⟩ := h L g
  have hin : i = n := by rcases hi with hj | hj; exact hj; exact absurd h1 hj
  exact ⟨h1, by rw [h3, hin, h2, List.take_length]⟩
/-! Worlds. -/
theorem but_after {w W W' : World} {g : Nat} (h : After w W) (hb : But g W W') (hg : w.heap.size ≤ g) : After w W' :=
  ⟨hb.os.trans h.os, hb.tape.trans h.tape, hb.output.trans h.output, Nat.le_trans h.size hb.size, fun k hk => by rw [hb.block k (Nat.lt_of_lt_of_le hk h.size) (by omega), h.block k hk]⟩
theorem But.rowG {g : Nat} {a b : World} (h : But g a b) (ds : Array Value) : But g a (b.setRow g ds) :=
  ⟨h.os, h.tape, h.output, by have := h.size; simpa using this, fun k hk hne => by rw [setRow_other b g k ds hne]; exact h.block k hk hne⟩
theorem But.cellG {g j : Nat} {a b : World} (h : But g a b) (v : Value) : But g a (b.setCell ⟨g, j, none⟩ v) :=
  ⟨h.os, h.tape, h.output, by have := h.size; simpa using this, fun k hk hne => by rw [heap_setCell_other b _ k v (by simp only; omega)]; exact h.block k hk hne⟩
theorem RowIs.but {w w' : World} {g k : Nat} {t : TypeId} {cs : List Value} (h : RowIs w k t cs) (hb : But g w w') (hne : k ≠ g) : RowIs w' k t cs := by
  have h1 := hb.block k h.lt hne
  unfold RowIs at h ⊢
  rw [h1]; exact h
theorem bx_of {w' : World} {base : Nat} {y : Bx} (ho : OwnL w' base 43 32 y.v (hsL y.l)) (h32 : All32 y.l) (few : y.l.length ≤ 16) : BxAt w' y ∧ ∀ ad, y.a = some ad → base ≤ ad.block ∧ ad.block < w'.heap.size ∧ RwAt w' ad := by
  obtain ⟨a0, c0, e0, hs⟩ := ho.sl
  rw [hs_len] at e0
  unfold Bx.v at e0
  injection e0 with e1 _ e3
  have hz : y.a = none → y.c = 0 := fun e => by
    rcases own_row ho.2 with ⟨h1, _⟩ | ⟨g1, cap, cs, h1, _⟩
    · unfold Bx.v at h1; injection h1
    · unfold Bx.v at h1; rw [e] at h1; injection h1 with h2; cases h2
  refine ⟨⟨by rw [e1]; exact hs, h32, hz, by omega⟩, fun ad ha => ?_⟩
  rcases own_row ho.2 with ⟨h1, _⟩ | ⟨g1, cap, cs, h1, h2, h3, _⟩
  · unfold Bx.v at h1; rw [ha] at h1; injection h1 with h2; cases h2
  · unfold Bx.v at h1; rw [ha] at h1; injection h1 with h4
    cases h4
    exact ⟨h2, h3.lt, rfl, rfl, cs, h3⟩
/-- The reader's row. -/
structure RG (w W : World) (g : Nat) (bs : List UInt8) (k e : Nat) (ao : Option Addr) (cap : Nat) : Prop where
  len : bs.length = k
  row : RowIs W g 58 [.slice ao k cap, .int .i64 (e : Int)]
  ro : RO w bs ao cap
  hg : w.heap.size ≤ g
theorem RG.after {w W W' : World} {g : Nat} {bs : List UInt8} {k e : Nat} {ao : Option Addr} {cap : Nat} (h : RG w W g bs k e ao cap) (ha : After W W') : RG w W' g bs k e ao cap := ⟨h.len, h.row.below ha h.row.lt, h.ro, h.hg⟩
theorem RG.set {w W : World} {g : Nat} {bs bs' : List UInt8} {k e k' e' : Nat} {ao ao' : Option Addr} {cap cap' : Nat} (h : RG w W g bs k e ao cap) (hl : bs'.length = k') (hr : RO w bs' ao' cap') {W' : World} (hw : W.setRow g #[.slice ao' k' cap', .int .i64 (e' : Int)] = W') : RG w W' g bs' k' e' ao' cap' := by
  subst hw
  exact ⟨hl, h.row.setRow [.slice ao' k' cap', .int .i64 (e' : Int)], hr, h.hg⟩
/-- The rest behind what was used. -/
theorem RO.cut {w : World} {bs : List UInt8} {ao : Option Addr} {cap : Nat} (h : RO w bs ao cap) (u : Nat) : RO w (bs.drop u) (cutAt ao u cap) (cap - u) :=
  ⟨h.rs.cut u, fun a ha => by obtain ⟨b, hb, e⟩ := cutAt_block ha; rw [← e]; exact h.old b hb, by have := h.len; simp; omega⟩
theorem RG.cut {w W : World} {g : Nat} {bs : List UInt8} {k e u : Nat} {ao : Option Addr} {cap : Nat} (h : RG w W g bs k e ao cap) {W' : World} {ao' : Option Addr} {k' cap' : Nat} (h1 : cutAt ao u cap = ao') (h2 : k - u = k') (h3 : cap - u = cap') (hw : W.setCell ⟨g, 0, none⟩ (.slice ao' k' cap') = W') : RG w W' g (bs.drop u) k' e ao' cap' := by
  subst hw h1 h3
  exact ⟨by rw [List.length_drop, h.len, h2], RowIs.set h.row 0 _, h.ro.cut u, h.hg⟩
end Go.Proofs.Ytcmcapcagblafaa

namespace Go.Proofs.Ytcmcapcagblafaa
open Go.RowKit Go.Maps Dsk Leb
attribute [local go_sem] Oper.semAt_some
set_option maxHeartbeats 400000 in
/-- leb.Read, as a state. -/
theorem read27 (ao : Option Addr) (cap : Nat) (bs : List UInt8) {n : Nat} (hn : bs.length = n) (hbig : n ≤ 524288) (w : World) (hat : BytesAt w ao bs) :
    Calls Try.prog 27 #[.slice ao n cap] w fun e w' => ∃ g, e = .returned (.pointer (some ⟨g, 0, none⟩)) ∧ RdS w' g w'.heap.size bs 0 ∧ w.heap.size ≤ g ∧ After w w' := by
  subst hn
  have HAT : Hid (BytesAt w ao bs ∧ bs.length ≤ 524288) := ⟨hat, hbig⟩
  clear hat
  go_enter Try.func27, Try.ntmps27
  go_wp2_with (go_at_call 52; refine (clone_any ao cap bs (by omega) _ HAT.out.1).mono ?_; rintro e w1 ⟨v1, rfl, ho1, hb1⟩; obtain ⟨a1, c1, rfl, hat1, hc1, hl1⟩ := ho1.at)
  go_ret
  refine ⟨w1.heap.size, rfl, ⟨⟨a1, c1, ⟨RowIs.new w1 88 [.slice a1 bs.length c1, .int .i64 0], hat1.after (after_alloc (After.refl w1) _), hc1, fun h => ?_, fun a ha => ?_⟩, fun a ha => ?_⟩, HAT.out.2, by simp, Nat.le_refl _⟩, hb1.size, after_alloc hb1 _⟩
  · subst h; exact bytesAt_none hat1
  · have := (hl1 a ha).2; omega
  · have := (hl1 a ha).2; simp; omega
/-- What Get tells. -/
structure GetT (raw : List UInt8) (w : World) (e : Ending) (w' : World) : Prop where
  aft : After w w'
  ans : (∃ a c k X, gOk raw (rsof X) ∧ e = .returned (.tuple #[.slice a k c, .int .i64 0]) ∧ X.length = k ∧ k ≤ 64 ∧ OwnR w' w.heap.size (.slice a k c) X) ∨ ((∀ L, ¬ gOk raw L) ∧ e = .returned (.tuple #[.slice none 0 0, .int .i64 4]))
theorem sdE_zero {bs : List UInt8} {e : Nat} (h : sdE bs e = 0) : e = 0 ∧ bs = [] := by
  unfold sdE at h
  split at h
  · rename_i h0
    split at h
    · rename_i h1; exact ⟨h0, List.eq_nil_of_length_eq_zero h1⟩
    · cases h
  · rename_i h0; exact absurd h h0
theorem sdE_ne {t bs : List UInt8} {L : List Rc} {e : Nat} (h : sdE bs e ≠ 0) (hs : Stp pIx t 0 L bs e) : ∀ M, pIx t ≠ some (M, []) := fun M hM => by
  by_cases h0 : e = 0
  · subst h0
    have h1 := hs.ok.2
    rw [hM] at h1
    cases h1
    exact h rfl
  · rw [hs.bad h0 rfl] at hM; cases hM
theorem no_gOk_nil : ∀ L, ¬ gOk [] L := fun L h => by have := h.2.1; unfold ixB at this; cases this
theorem no_gOk_long {raw : List UInt8} (h : 524288 < raw.length) : ∀ L, ¬ gOk raw L := fun L k => by have := k.1; omega
theorem no_gOk_head {x : UInt8} {t : List UInt8} (h : x ≠ 1) : ∀ L, ¬ gOk (x :: t) L := fun L k => by have := k.2.1; unfold ixB at this; injection this with h1 _; exact h h1
theorem no_gOk_rest {t : List UInt8} (h : ∀ M, pIx t ≠ some (M, [])) : ∀ L, ¬ gOk (1 :: t) L := fun L k => by
  obtain ⟨_, ⟨t', e, h2⟩, _⟩ := gOk_iff.1 k
  cases e
  exact h L h2
theorem no_gOk_may {t : List UInt8} {L : List Rc} (h : pIx t = some (L, [])) (hm : ¬ MOk L) : ∀ M, ¬ gOk (1 :: t) M := fun M k => by
  obtain ⟨_, ⟨t', e, h2⟩, h3⟩ := gOk_iff.1 k
  cases e
  rw [h] at h2; cases h2
  exact hm h3
set_option maxRecDepth 100000 in
set_option maxHeartbeats 12800000 in
theorem get14 {ao : Option Addr} {cap n : Nat} {raw : List UInt8} (hn : raw.length = n) (hcap : n ≤ cap) (hbig : n ≤ 140737488355328) {w : World} (hat : BytesAt w ao raw) : Calls Try.prog 14 #[.slice ao n cap] w (GetT raw w) := by
  cases raw with
  | nil =>
    obtain rfl : n = 0 := by rw [← hn]; rfl
    go_enter Try.func14, Try.ntmps14
    go_wp2
    refine bodyPost_ret (v := .tuple #[.slice none 0 0, .int .i64 4]) (by simp [results, Try.results14, go_sem]) rfl ⟨After.refl w, .inr ⟨no_gOk_nil, rfl⟩⟩
  | cons x t =>
    have hn0 : n ≠ 0 := by rw [← hn]; simp
    have hnz : ¬ (n : Int) = 0 := by omega
    have hpos : (0 : Int) < (n : Int) := by omega
    by_cases hl : 524288 < n
    · have hl' : (524288 : Int) < (n : Int) := by omega
      have HF : Hid (∀ L, ¬ gOk (x :: t) L) := no_gOk_long (by rw [hn]; exact hl)
      clear hat hn hl
      go_enter Try.func14, Try.ntmps14
      go_wp2
      refine bodyPost_ret (v := .tuple #[.slice none 0 0, .int .i64 4]) (by simp [results, Try.results14, go_sem]) rfl ⟨After.refl w, .inr ⟨HF.out, rfl⟩⟩
    · have hl' : ¬ (524288 : Int) < (n : Int) := by omega
      obtain ⟨b, o, hao, hce⟩ := hat (by simp)
      subst hao
      have c0 : w.cell? ⟨b, o, none⟩ = some (.int .u8 (x.toNat : Int)) := hce 0 (by simp)
      by_cases hx : x = 1
      · subst hx
        have c0' : w.cell? ⟨b, o, none⟩ = some (.int .u8 1) := c0
        obtain ⟨k, hk⟩ : ∃ k, n = k + 1 := ⟨n - 1, by omega⟩
        have htl : t.length = k := by have := hn; simp at this; omega
        obtain ⟨a1, ha1⟩ : ∃ a1, cutAt (some ⟨b, o, none⟩) 1 cap = a1 := ⟨_, rfl⟩
        obtain ⟨c1, hc1⟩ : ∃ c1, cap - 1 = c1 := ⟨_, rfl⟩
        have hsl : ∀ W, (Instr.sliceAt 26 (.slice (some ⟨b, o, none⟩) n cap) (some (.int .i64 1)) none none).run Try.prog W = .ok (.slice a1 k c1) W := fun W => by
          have := slice_from (some ⟨b, o, none⟩) n cap 1 (fun h => by cases h) hcap (by omega) W
          rw [ha1, hc1, show n - 1 = k by omega] at this
          exact this
        have HT : Hid (BytesAt w a1 t ∧ t.length = k ∧ k ≤ 524288) := ⟨by
          have := hat.cut 1 cap (by rw [hn]; exact hcap)
          rw [ha1] at this
          exact this, htl, by omega⟩
        have HRD : Hid (∀ W, After w W → Calls Try.prog 27 #[.slice a1 k c1] W fun e w' => ∃ g, e = .returned (.pointer (some ⟨g, 0, none⟩)) ∧ RdS w' g w'.heap.size t 0 ∧ W.heap.size ≤ g ∧ After W w') := fun W hW => read27 a1 c1 t HT.out.2.1 HT.out.2.2 W (HT.out.1.after hW)
        have HX : Hid (Calls Try.prog 27 #[.slice a1 k c1] w fun e w' => ∃ g, e = .returned (.pointer (some ⟨g, 0, none⟩)) ∧ RdS w' g w'.heap.size t 0 ∧ w.heap.size ≤ g ∧ After w w') := HRD.out w (After.refl w)
        have HL : Hid (¬ 524288 < n ∧ (1 :: t).length = n) := ⟨hl, hn⟩
        clear hat hce c0 hn hl hk htl ha1 hc1
        go_enter Try.func14, Try.ntmps14
        go_wp2_with (first
          | (go_at_call 27; refine Calls.mono HX.out ?_; rintro e w1 ⟨g, rfl, hr, hg, ha⟩; have H1 : Hid (RdS w1 g w1.heap.size t 0 ∧ w.heap.size ≤ g ∧ After w w1) := ⟨hr, hg, ha⟩; clear hr hg ha)
          | (go_at_call 28; refine (records28 H1.out.1).mono ?_; rintro e w2 ⟨a2, c2, k2, X, bs', e', rfl, h1, h2, h3, h4, h5, h6⟩
             have H2 : Hid (X.length = k2 ∧ k2 ≤ 64 ∧ OwnR w2 w1.heap.size (.slice a2 k2 c2) X ∧ Stp pIx t 0 (rsof X) bs' e' ∧ RdS w2 g w1.heap.size bs' e' ∧ After w w2) := ⟨h1, h2, h3, h4, h5, by
               have hb := (But.of_below (g := g) H1.out.2.2).trans h6
               exact ⟨hb.os, hb.tape, hb.output, hb.size, fun j hj => hb.block j hj (by have := H1.out.2.1; omega)⟩⟩
             have HD : Hid (Calls Try.prog 29 #[.pointer (some ⟨g, 0, none⟩)] w2 fun x w' => x = .returned (.int .i64 (sdE bs' e' : Int)) ∧ w' = w2) := done29 h5
             clear h1 h2 h3 h4 h5 h6
             obtain ⟨d, hd⟩ : ∃ d, sdE bs' e' = d := ⟨_, rfl⟩
             rw [hd] at HD
             have HS : Hid (sdE bs' e' = d) := hd
             clear hd))
        by_cases hd0 : d = 0
        · subst hd0
          have hz := sdE_zero HS.out
          have HP : Hid (pIx t = some (rsof X, [])) := by
            have h9 := H2.out.2.2.2.1
            rw [hz.1, hz.2] at h9
            exact h9.ok.2
          clear hz
          by_cases hm : MOk (rsof X)
          · have HM : Hid (Calls Try.prog 22 #[.slice a2 k2 c2] w2 fun e w' => e = .returned (.bool true) ∧ After w2 w') := by
              obtain ⟨a9, c9, e9, h9⟩ := H2.out.2.2.1.at
              rw [H2.out.1] at e9
              injection e9 with e1 _ e3
              subst e1 e3
              exact maybe_yes H2.out.1 (by have := H2.out.2.1; omega) hm h9
            have HG : Hid (gOk (1 :: t) (rsof X)) := gOk_iff.2 ⟨by have := HL.out; omega, ⟨t, rfl, HP.out⟩, hm⟩
            clear hm
            go_wp2_with (first
              | (go_at_call 29; refine Calls.mono HD.out ?_; rintro e w9 ⟨rfl, hw9⟩; rw [hw9]; clear hw9 w9)
              | (go_at_call 22; refine Calls.mono HM.out ?_; rintro e w3 ⟨rfl, h3⟩; have H3 : Hid (After w2 w3) := h3; clear h3))
            refine bodyPost_ret (v := .tuple #[.slice a2 k2 c2, .int .i64 0]) (by simp [results, Try.results14, go_sem]) rfl ⟨H2.out.2.2.2.2.2.trans H3.out, .inl ⟨_, _, _, X, HG.out, rfl, H2.out.1, H2.out.2.1, (H2.out.2.2.1.after H3.out).lower H1.out.2.2.size⟩⟩
          · have HM : Hid (Calls Try.prog 22 #[.slice a2 k2 c2] w2 fun e w' => e = .returned (.bool false) ∧ After w2 w') := by
              obtain ⟨a9, c9, e9, h9⟩ := H2.out.2.2.1.at
              rw [H2.out.1] at e9
              injection e9 with e1 _ e3
              subst e1 e3
              exact maybe_no H2.out.1 (by have := H2.out.2.1; omega) hm h9
            have HG : Hid (∀ L, ¬ gOk (1 :: t) L) := no_gOk_may HP.out hm
            clear hm
            go_wp2_with (first
              | (go_at_call 29; refine Calls.mono HD.out ?_; rintro e w9 ⟨rfl, hw9⟩; rw [hw9]; clear hw9 w9)
              | (go_at_call 22; refine Calls.mono HM.out ?_; rintro e w3 ⟨rfl, h3⟩; have H3 : Hid (After w2 w3) := h3; clear h3))
            refine bodyPost_ret (v := .tuple #[.slice none 0 0, .int .i64 4]) (by simp [results, Try.results14, go_sem]) rfl ⟨H2.out.2.2.2.2.2.trans H3.out, .inr ⟨HG.out, rfl⟩⟩
        · have hdz : ¬ (d : Int) = 0 := by omega
          have HG : Hid (∀ L, ¬ gOk (1 :: t) L) := no_gOk_rest (sdE_ne (by rw [HS.out]; exact hd0) H2.out.2.2.2.1)
          go_wp2_with (first
            | (go_at_call 29; refine Calls.mono HD.out ?_; rintro e w9 ⟨rfl, hw9⟩; rw [hw9]; clear hw9 w9))
          refine bodyPost_ret (v := .tuple #[.slice none 0 0, .int .i64 4]) (by simp [results, Try.results14, go_sem]) rfl ⟨H2.out.2.2.2.2.2, .inr ⟨HG.out, rfl⟩⟩
      · have hx1 : ¬ (x.toNat : Int) = 1 := fun h => hx (UInt8.toNat_inj.1 (by have : x.toNat = 1 := by omega
                                                                               rw [this]; rfl))
        have HF : Hid (∀ L, ¬ gOk (x :: t) L) := no_gOk_head hx
        have hx2 : ((x.toNat : Int) != 1) = true := bne_iff_ne.2 hx1
        clear hat hce hn hx
        go_enter Try.func14, Try.ntmps14
        go_wp2
        refine bodyPost_ret (v := .tuple #[.slice none 0 0, .int .i64 4]) (by simp [results, Try.results14, go_sem]) rfl ⟨After.refl w, .inr ⟨HF.out, rfl⟩⟩
end Go.Proofs.Ytcmcapcagblafaa

namespace Go.Proofs.Ytcmcapcagblafaa
open Go.RowKit Go.Maps Dsk Leb
attribute [local go_sem] Oper.semAt_some
structure OQ (w : World) (g4 : Nat) (raw : List UInt8) (n i : Nat) (v : Value) (wr : World) (bs : List UInt8) (k e : Nat) (ao : Option Addr) (cap : Nat) (X : List Rx) : Prop where
  rg : RG w wr g4 bs k e ao cap
  ko : KO raw n i e bs X
  own : OwnR wr (g4 + 1) v X
  len : X.length = i
  aft : After w wr
structure IQ (w wr : World) (g4 g8 : Nat) (raw : List UInt8) (n i : Nat) (X : List Rx) (s : Dsk.Nm) (m j : Nat) (a : Option Addr) (c : Nat) (wj : World) (bs : List UInt8) (k e : Nat) (ao : Option Addr) (cap : Nat) (Y : List Bx) : Prop where
  rg : RG w wj g4 bs k e ao cap
  row : RowIs wj g8 41 [.string (strOf s), .slice a j c, .slice none 0 0]
  own : OwnB wj (g8 + 1) (.slice a j c) Y
  len : Y.length = j
  nmf : ∀ y ∈ Y, y.nm.length ≤ 32
  but : But g4 wr wj
  ki : KI raw n i X s m j e bs Y
theorem one58 (a : Option Addr) (k c e : Nat) : (#[Value.slice a k c, .int .i64 (e : Int)] : Array Value).all (·.oneCell') = true := by
  simp; exact ⟨rfl, rfl⟩
theorem RowIs.eqAt {w w' : World} {k : Nat} {t : TypeId} {cs : List Value} (h : RowIs w k t cs) (hb : w'.heap[k]? = w.heap[k]?) : RowIs w' k t cs := by
  unfold RowIs at h ⊢
  rw [hb]; exact h
theorem RG.eqAt {w W W' : World} {g : Nat} {bs : List UInt8} {k e : Nat} {ao : Option Addr} {cap : Nat} (h : RG w W g bs k e ao cap) (hb : W'.heap[g]? = W.heap[g]?) : RG w W' g bs k e ao cap := ⟨h.len, h.row.eqAt hb, h.ro, h.hg⟩
theorem But.grownFrom {g : Nat} {a b c : World} {row : Option Nat} (h : But g a b) (hg : b.grownBy c row) (hr : ∀ k, row = some k → a.heap.size ≤ k) : But g a c :=
  ⟨hg.os.trans h.os, hg.tape.trans h.tape, hg.output.trans h.output, Nat.le_trans h.size hg.size, fun k hk hne => by
    rw [hg.block k (Nat.lt_of_lt_of_le hk h.size) (fun e => by have := hr k e.symm; omega)]
    exact h.block k hk hne⟩
set_option maxHeartbeats 1600000 in
theorem inner_end {w wr wj V5 : World} {raw : List UInt8} {n i u B5 g4 g8 g11 j m k3 k6 cap3 cap6 n5 c5 c : Nat} {a a5 ao3 ao6 : Option Addr} {bs3 : List UInt8} {X : List Rx} {Y : List Bx} {s z : Dsk.Nm} {l : List H}
    (hrg : RG w V5 g4 bs3 k3 0 ao3 cap3) (hr8 : RowIs V5 g8 41 [.string (strOf s), .slice a j c, .slice none 0 0]) (hr11 : RowIs V5 g11 65 [.string (strOf z), .slice none 0 0])
    (hown : OwnB wj (g8 + 1) (.slice a j c) Y) (hbj : But g4 wj V5) (hg11 : wj.heap.size ≤ g11) (hlen : Y.length = j) (hnm : ∀ y ∈ Y, y.nm.length ≤ 32) (hbut : But g4 wr V5) (hz : z.length ≤ 32) (hsz : wr.heap.size ≤ g8) (h48 : g4 < g8) (h811 : g8 < g11)
    (hol : OwnL V5 B5 43 32 (.slice a5 n5 c5) (hsL l)) (hB5 : g11 < B5) (hln : l.length = n5) (hn16 : n5 ≤ 16) (h32 : All32 l) (hj : j < 64)
    (ki : KI raw n i X s m (j + 1) 0 (bs3.drop u) (Y ++ [⟨z, a5, c5, l⟩])) {V6 V7 : World} (h6 : V5.setCell ⟨g11, 1, none⟩ (.slice a5 n5 c5) = V6) (h7 : V6.setCell ⟨g4, 0, none⟩ (.slice ao6 k6 cap6) = V7)
    (e1 : cutAt ao3 u cap3 = ao6) (e2 : k3 - u = k6) (e3 : cap3 - u = cap6) :
    (RowIs V6 g4 58 [.slice ao3 k3 cap3, .int .i64 0] ∧ RowIs V7 g11 65 [.string (strOf z), .slice a5 n5 c5] ∧ RowIs V7 g8 41 [.string (strOf s), .slice a j c, .slice none 0 0]) ∧
    ∃ va vc V9, (Builtin.append_ #[38, 38] 38 #[.slice a j c, .slice (some ⟨V7.heap.size, 0, none⟩) 1 1]).run Try.prog (V7.alloc (.cells #[.string (strOf z), .slice a5 n5 c5] 65)) = .ok (.slice va (j + 1) vc) V9 ∧ RowIs V9 g8 41 [.string (strOf s), .slice a j c, .slice none 0 0] ∧
      IQ w wr g4 g8 raw n i X s m (j + 1) va vc (V9.setCell ⟨g8, 1, none⟩ (.slice va (j + 1) vc)) (bs3.drop u) k6 0 ao6 cap6 (Y ++ [⟨z, a5, c5, l⟩]) := by
  obtain ⟨y, hy⟩ : ∃ y : Bx, (⟨z, a5, c5, l⟩ : Bx) = y := ⟨_, rfl⟩
  have hyv : y.v = .slice a5 n5 c5 := by rw [← hy]; unfold Bx.v; rw [hln]
  have hyn : y.nm = z := by rw [← hy]
  have hyl : y.l = l := by rw [← hy]
  have hl5 : OwnL V5 B5 43 32 y.v (hsL y.l) := by rw [hyv, hyl]; exact hol
  rw [hy] at ki ⊢
  have b56 : But g11 V5 V6 := by rw [← h6]; exact (But.refl g11 V5).setCell 1 _
  have b67 : But g4 V6 V7 := by rw [← h7]; exact (But.refl g4 V6).setCell 0 _
  have rg6 : RG w V6 g4 bs3 k3 0 ao3 cap3 := hrg.eqAt (b56.block g4 hrg.row.lt (by omega))
  have r86 := b56.row hr8 (by omega)
  have r116 : RowIs V6 g11 65 [.string (strOf z), .slice a5 n5 c5] := by rw [← h6]; exact RowIs.set hr11 1 _
  have rg7 : RG w V7 g4 (bs3.drop u) k6 0 ao6 cap6 := rg6.cut e1 e2 e3 h7
  have r87 := b67.row r86 (by omega)
  have r117 := b67.row r116 (by omega)
  have bj7 : But g4 wj V7 := (by rw [← h6]; exact hbj.setNew hg11 _ : But g4 wj V6).trans b67
  have br7 : But g4 wr V7 := (by rw [← h6]; exact hbut.setNew (by simp only; omega) _ : But g4 wr V6).trans b67
  have ol7 : OwnL V7 B5 43 32 y.v (hsL y.l) := hl5.same (fun b e => by
    obtain ⟨q1, q2, _⟩ := own_lt hl5.2 e
    rw [b67.block b (Nat.lt_of_lt_of_le q2 b56.size) (by omega), b56.block b q2 (by omega)])
  obtain ⟨hy1, hy2⟩ := bx_of ol7 (by rw [hyl]; exact h32) (by rw [hyl, hln]; exact hn16)
  have hal : After V7 (V7.alloc (.cells #[.string (strOf z), .slice a5 n5 c5] 65)) := after_alloc (After.refl V7) _
  have own8 := hown.but (bj7.trans (But.of_below hal)) (by omega)
  have hbx := hy1.box
  rw [hyn, hyv] at hbx
  have hs8 := hal.size
  have hs7 := b67.size
  have hs6 := b56.size
  have hg8 := r87.lt
  obtain ⟨va, vc, V9, r1, r2, r3, r4⟩ := run_appB 38 own8 (Y := [y]) (m := 1) (c := 1) rfl hbx (by omega) (by omega) (fun e => by cases e)
  rw [hlen] at r1 r2 r4
  have hown9 : OwnB V9 (g8 + 1) (.slice va (j + 1) vc) (Y ++ [y]) := own8.grow (fun q hq => by
    rw [List.mem_singleton.1 hq]
    refine ⟨hy1.after hal, fun ad e => ?_⟩
    obtain ⟨q1, q2, q3⟩ := hy2 ad e
    refine ⟨by omega, by omega, fun e' => ?_, q3.same (Below.heap_alloc V7 _ _ q2)⟩
    have := (own_lt hown.row.2 e').2.1
    omega) r2 r3 r4
  have hrow : ∀ k, (Value.slice a j c).ownBlock = some k → g8 + 1 ≤ k := fun k e => (own_lt own8.row.2 e).1
  have keep9 : ∀ k, k ≤ g8 → V9.heap[k]? = V7.heap[k]? := fun k hk => by
    rw [r3.block k (by omega) (fun e => by have := hrow k e.symm; omega), hal.block k (by omega)]
  have r89 := r87.eqAt (keep9 g8 (Nat.le_refl _))
  have rg9 := rg7.eqAt (keep9 g4 (by omega))
  refine ⟨⟨rg6.row, r117, r87⟩, va, vc, V9, r1, r89, rg9.eqAt (heap_setCell_other V9 _ g4 _ (by simp only; omega)), RowIs.set r89 1 _, hown9.cellR r89, by rw [List.length_append, hlen]; rfl, fun q hq => ?_, ?_, ki⟩
  · rcases List.mem_append.1 hq with hq | hq
    · exact hnm q hq
    · rw [List.mem_singleton.1 hq, hyn]; exact hz
  · exact ((br7.trans (But.of_below hal)).grownFrom r3 (fun k e => by have := hrow k e; omega)).setNew hsz _
set_option maxHeartbeats 1600000 in
theorem outer_end {w wr Z1 : World} {raw : List UInt8} {n i u B7 g4 g8 j k1 k6 cap1 cap6 n7 c7 c : Nat} {v : Value} {a a7 ao1 ao6 : Option Addr} {bs : List UInt8} {X : List Rx} {Y : List Bx} {s : Dsk.Nm} {l : List H}
    (hrg : RG w Z1 g4 bs k1 0 ao1 cap1) (hr8 : RowIs Z1 g8 41 [.string (strOf s), .slice a j c, .slice none 0 0])
    (hown : OwnB Z1 (g8 + 1) (.slice a j c) Y) (hlen : Y.length = j) (hj : j ≤ 64) (hnm : ∀ y ∈ Y, y.nm.length ≤ 32) (hbut : But g4 wr Z1) (hs : s.length ≤ 32) (hsz : wr.heap.size ≤ g8) (h48 : g4 < g8)
    (hol : OwnL Z1 B7 43 32 (.slice a7 n7 c7) (hsL l)) (hB7 : g8 < B7) (hln : l.length = n7) (hn7 : n7 ≤ 4096) (h32 : All32 l)
    (own : OwnR wr (g4 + 1) v X) (hX : X.length = i) (hi : i < 64) (aft : After w wr) (hg : w.heap.size ≤ g4) (hg4 : g4 < wr.heap.size)
    (ko : KO raw n (i + 1) 0 (bs.drop u) (X ++ [⟨s, a, c, Y, a7, c7, l⟩])) {Z2 Z3 : World} (h6 : Z1.setCell ⟨g8, 2, none⟩ (.slice a7 n7 c7) = Z2) (h7 : Z2.setCell ⟨g4, 0, none⟩ (.slice ao6 k6 cap6) = Z3)
    (e1 : cutAt ao1 u cap1 = ao6) (e2 : k1 - u = k6) (e3 : cap1 - u = cap6) :
    (RowIs Z2 g4 58 [.slice ao1 k1 cap1, .int .i64 0] ∧ RowIs Z3 g8 41 (rxc ⟨s, a, c, Y, a7, c7, l⟩)) ∧
    ∃ a0 c0 va vc Z5, v = .slice a0 i c0 ∧ (Builtin.append_ #[22, 22] 22 #[.slice a0 i c0, .slice (some ⟨Z3.heap.size, 0, none⟩) 1 1]).run Try.prog (Z3.alloc (.cells (rxc ⟨s, a, c, Y, a7, c7, l⟩).toArray 41)) = .ok (.slice va (i + 1) vc) Z5 ∧
      OQ w g4 raw n (i + 1) (.slice va (i + 1) vc) Z5 (bs.drop u) k6 0 ao6 cap6 (X ++ [⟨s, a, c, Y, a7, c7, l⟩]) := by
  have hrx : rxc ⟨s, a, c, Y, a7, c7, l⟩ = [.string (strOf s), .slice a j c, .slice a7 n7 c7] := by unfold rxc; rw [hlen, hln]
  obtain ⟨a0, c0, rfl, _⟩ := own.val hX
  have b56 : But g8 Z1 Z2 := by rw [← h6]; exact (But.refl g8 Z1).setCell 2 _
  have b67 : But g4 Z2 Z3 := by rw [← h7]; exact (But.refl g4 Z2).setCell 0 _
  have rg6 : RG w Z2 g4 bs k1 0 ao1 cap1 := hrg.eqAt (b56.block g4 hrg.row.lt (by omega))
  have r86 : RowIs Z2 g8 41 [.string (strOf s), .slice a j c, .slice a7 n7 c7] := by rw [← h6]; exact RowIs.set hr8 2 _
  have rg7 : RG w Z3 g4 (bs.drop u) k6 0 ao6 cap6 := rg6.cut e1 e2 e3 h7
  have r87 := b67.row r86 (by omega)
  have br7 : But g4 wr Z3 := (by rw [← h6]; exact hbut.setNew hsz _ : But g4 wr Z2).trans b67
  have ol6 : OwnL Z2 B7 43 32 (.slice a7 n7 c7) (hsL l) := by rw [← h6]; exact hol.cell43 hr8
  have ol7 : OwnL Z3 B7 43 32 (.slice a7 n7 c7) (hsL l) := ol6.same (fun b e => by
    obtain ⟨q1, q2, _⟩ := own_lt ol6.2 e
    rw [b67.block b q2 (by omega)])
  have ob6 : OwnB Z2 (g8 + 1) (.slice a j c) Y := by rw [← h6]; exact hown.cellR hr8
  have ob7 : OwnB Z3 (g8 + 1) (.slice a j c) Y := ob6.but b67 (by omega)
  obtain ⟨x, hx⟩ : ∃ x : Rx, (⟨s, a, c, Y, a7, c7, l⟩ : Rx) = x := ⟨_, rfl⟩
  have hxo : RxO Z3 (g4 + 1) x := by
    rw [← hx]
    refine ⟨⟨by show s.length ≤ maxLen; unfold maxLen; omega, by show l.length * 32 ≤ _; omega, h32, by show Y.length * 40 ≤ _; omega, fun y hy => by have := hnm y hy; unfold maxLen; omega⟩, ?_, ?_⟩
    · show OwnL _ _ _ _ (.slice a7 l.length c7) _
      rw [hln]; exact ol7.lower (by omega)
    · show OwnB _ _ (.slice a Y.length c) _
      rw [hlen]; exact ob7.lower (by omega)
  rw [hx] at hrx ko ⊢
  have hal : After Z3 (Z3.alloc (.cells (rxc x).toArray 41)) := after_alloc (After.refl Z3) _
  have own4 := own.but (br7.trans (But.of_below hal)) (by omega)
  have hs4 := hal.size
  have hs3 := br7.size
  obtain ⟨va, vc, Z5, r1, r2, r3⟩ := run_appR 22 own4 (Y := [x]) (m := 1) (c := 1) rfl rx_box (by omega) (by omega) (fun e => by cases e) (fun q hq => by rw [List.mem_singleton.1 hq]; exact hxo.keep hal.size (fun b t cs _ h2 _ => hal.block b h2.lt))
  rw [hX] at r1 r2
  have hrow : ∀ k, (Value.slice a0 i c0).ownBlock = some k → g4 + 1 ≤ k := fun k e => (own_lt own4.row.2 e).1
  refine ⟨⟨rg6.row, by rw [hrx]; exact r87⟩, a0, c0, va, vc, Z5, rfl, r1, rg7.eqAt ?_, ko, r2, by rw [List.length_append, hX]; rfl, ?_⟩
  · rw [r3.block g4 (by omega) (fun e => by have := hrow g4 e.symm; omega), hal.block g4 (by omega)]
  · exact after_grown ((but_after aft br7 hg).trans hal) r3 (Nat.le_refl _) (fun k hk => by have := hrow k hk; omega)
end Go.Proofs.Ytcmcapcagblafaa

namespace Go.Proofs.Ytcmcapcagblafaa
open Go.RowKit Go.Maps Dsk Leb
attribute [local go_sem] Oper.semAt_some
theorem size65 : (Try.prog.info? 65).map (·.size) = some 2 := by kernel_rfl
set_option maxRecDepth 100000 in
set_option maxHeartbeats 25600000 in
theorem rget15 {ao : Option Addr} {cap n : Nat} {raw : List UInt8} (hn : raw.length = n) (hcap : n ≤ cap) (hbig : n ≤ 140737488355328) {w : World} (hat : BytesAt w ao raw) : Calls Try.prog 15 #[.slice ao n cap] w (GetT raw w) := by
  cases raw with
  | nil =>
    obtain rfl : n = 0 := by rw [← hn]; rfl
    go_enter Try.func15, Try.ntmps15
    go_wp2
    refine bodyPost_ret (v := .tuple #[.slice none 0 0, .int .i64 4]) (by simp [results, Try.results15, go_sem]) rfl ⟨After.refl w, .inr ⟨no_gOk_nil, rfl⟩⟩
  | cons x t =>
    have hn0 : n ≠ 0 := by rw [← hn]; simp
    have hnz : ¬ (n : Int) = 0 := by omega
    have hpos : (0 : Int) < (n : Int) := by omega
    obtain ⟨b, o, hao, hce⟩ := hat (by simp)
    subst hao
    have c0 : w.cell? ⟨b, o, none⟩ = some (.int .u8 (x.toNat : Int)) := hce 0 (by simp)
    by_cases hx : x = 1
    · subst hx
      have c0' : w.cell? ⟨b, o, none⟩ = some (.int .u8 1) := c0
      obtain ⟨k, hk⟩ : ∃ k, n = k + 1 := ⟨n - 1, by omega⟩
      have htl : t.length = k := by have := hn; simp at this; omega
      obtain ⟨a1, ha1⟩ : ∃ a1, cutAt (some ⟨b, o, none⟩) 1 cap = a1 := ⟨_, rfl⟩
      obtain ⟨c1, hc1⟩ : ∃ c1, cap - 1 = c1 := ⟨_, rfl⟩
      have hsl : ∀ W, (Instr.sliceAt 26 (.slice (some ⟨b, o, none⟩) n cap) (some (.int .i64 1)) none none).run Try.prog W = .ok (.slice a1 k c1) W := fun W => by
        have := slice_from (some ⟨b, o, none⟩) n cap 1 (fun h => by cases h) hcap (by omega) W
        rw [ha1, hc1, show n - 1 = k by omega] at this
        exact this
      have HRO : Hid (RO w t a1 c1 ∧ t.length = k) := ⟨⟨by
        have h9 := (Rs.mk hat (by rw [hn]; exact hcap) (fun h => by cases h)).cut 1
        rw [ha1, hc1] at h9; exact h9, fun a ha => by
          obtain ⟨b', hb', e⟩ := cutAt_block (ha1.trans ha)
          rw [← e]; cases hb'; exact World.block_lt_of_cell? w _ c0, by omega⟩, htl⟩
      have HRAW : Hid (BytesAt w (some ⟨b, o, none⟩) (1 :: t) ∧ (1 :: t).length = n) := ⟨hat, hn⟩
      clear hat hce c0 hn hk htl ha1 hc1
      obtain ⟨g4, hg4⟩ : ∃ g, w.heap.size = g := ⟨_, rfl⟩
      obtain ⟨W0, hW0⟩ : ∃ W, w.alloc (.cells #[.slice a1 k c1, .int .i64 0] 58) = W := ⟨_, rfl⟩
      have HA0 : Hid (After w W0 ∧ RowIs W0 g4 58 [.slice a1 k c1, .int .i64 0]) := by rw [← hW0, ← hg4]; exact ⟨after_alloc (After.refl w) _, RowIs.new w 58 _⟩
      have HW0 : Hid (w.alloc (.cells #[.slice a1 k c1, .int .i64 0] 58) = W0) := hW0
      clear hW0
      have HG4 : Hid (w.heap.size = g4 ∧ w.heap.size ≤ g4) := ⟨hg4, by omega⟩
      go_enter Try.func15, Try.ntmps15
      go_wp2_with (first
        | (go_at_call 30; rw [HW0.out]; refine Calls.mono (runt30 64 HRO.out.2 HRO.out.1 HA0.out.1 (e := 0)) ?_; rintro x w1 ⟨ao', k', cap', e', m, bs', rfl, h1, h2, h3, h4, h5⟩
           obtain ⟨w2, hw2⟩ : ∃ W, w1.setRow g4 #[.slice ao' k' cap', .int .i64 (e' : Int)] = W := ⟨_, rfl⟩
           have hr1 : RowIs w1 g4 58 [.slice a1 k c1, .int .i64 0] := HA0.out.2.below h5 HA0.out.2.lt
           have H1R : Hid (RowIs w1 g4 58 [.slice a1 k c1, .int .i64 0]) := hr1
           have HW2 : Hid (w1.setRow g4 #[.slice ao' k' cap', .int .i64 (e' : Int)] = w2) := hw2
           have H2 : Hid (RG w w2 g4 bs' k' e' ao' cap' ∧ KO (1 :: t) m 0 e' bs' [] ∧ After w w2 ∧ m ≤ 64) := ⟨RG.set (bs := t) (e := 0) ⟨HRO.out.2, hr1, HRO.out.1, HG4.out.2⟩ h1 h2 hw2, KO.start h4, but_after (HA0.out.1.trans h5) (by rw [← hw2]; exact (But.refl g4 w1).setRow _) HG4.out.2, h3⟩
           have hm64 : m ≤ 64 := h3
           clear h1 h2 h3 h4 h5 hw2 hr1)
        | (refine wpList_store_row rfl 58 (.tmp 4) (.tmp 35) rfl g4 #[.slice ao' k' cap', .int .i64 (e' : Int)] rfl rfl 58 _ H1R.out lsize48 rfl (one58 _ _ _ _) ?_; rw [HW2.out]))
      have hm63 : m < 9223372036854775808 := by omega
      clear hsl
      go_loopw [6, 7] (fun v iv wr => ∃ (i : Nat) (bs : List UInt8) (k e : Nat) (ao : Option Addr) (cap : Nat) (X : List Rx), i ≤ m ∧ iv = .int .u64 (i : Int) ∧ Hid (OQ w g4 (1 :: t) m i v wr bs k e ao cap X)) (fun _ iv _ => m - (intOf iv).toNat)
      case atStart => exact ⟨0, _, _, _, _, _, [], Nat.zero_le _, rfl, H2.out.1, H2.out.2.1, OwnR.nil _ _, rfl, H2.out.2.2.1⟩
      case round =>
        obtain ⟨i, bs, k2, e2, ao2, cap2, X, him, rfl, HO⟩ := hrel
        obtain ⟨v, rfl⟩ : ∃ v, v = u6 := ⟨_, rfl⟩
        have d1 := HO.out.rg.row.cell (j := 1) rfl
        by_cases he2 : e2 = 0
        · subst he2
          by_cases hlt : i < m
          · have hii : (i : Int) < (m : Int) := by omega
            have HLT : Hid (i < m) := hlt
            obtain ⟨wo, rfl⟩ : ∃ W, W = wr := ⟨_, rfl⟩
            obtain ⟨g8, hg8⟩ : ∃ g, wo.heap.size = g := ⟨_, rfl⟩
            obtain ⟨U1, hU1⟩ : ∃ W, wo.alloc (.cells (rxc zrx).toArray 41) = W := ⟨_, rfl⟩
            have hal1 : After wo U1 := by rw [← hU1]; exact after_alloc (After.refl wo) _
            have hr81 : RowIs U1 g8 41 [.string (strOf []), .slice none 0 0, .slice none 0 0] := by rw [← hU1, ← hg8]; exact RowIs.new wo 41 _
            have hgl : g4 < wo.heap.size := HO.out.rg.row.lt
            have hrg1 := HO.out.rg.after hal1
            have HU1 : Hid (wo.alloc (.cells (rxc zrx).toArray 41) = U1 ∧ wo.heap.size = g8) := ⟨hU1, hg8⟩
            have HG8 : Hid (wo.heap.size ≤ g8 ∧ g4 < g8 ∧ w.heap.size ≤ g4 ∧ g4 < wo.heap.size) := ⟨by omega, by omega, HO.out.rg.hg, hgl⟩
            have HP1 : Hid (RG w U1 g4 bs k2 0 ao2 cap2 ∧ RowIs U1 g8 41 [.string (strOf []), .slice none 0 0, .slice none 0 0] ∧ After wo U1 ∧ After w U1) := ⟨hrg1, hr81, hal1, HO.out.aft.trans hal1⟩
            have HROW1 : Hid (RowIs U1 g4 58 [.slice ao2 k2 cap2, .int .i64 0]) := hrg1.row
            clear hU1 hal1 hr81 hgl hrg1 hg8
            go_wp2_with (first
              | (refine wpList_of_run rfl (x_al41 rfl) ?_; rw [HU1.out.1]; rw [HU1.out.2])
              | (refine wpList_load_row rfl 58 (.tmp 4) rfl g4 rfl 58 #[.slice ao2 k2 cap2, .int .i64 0] (0, 0) _ HROW1.out Try.underlying58 rfl lsize48 ?_)
              | (go_at_call 31; have hT := HP1.out; clear hT; refine Calls.mono (rtxt31 (e := 0) HP1.out.1.len HP1.out.1.ro HP1.out.2.2.2) ?_; rintro x U2 ⟨ao3, k3, cap3, e3, s, bs3, rfl, h1, h2, h3, h4, h5⟩
                 obtain ⟨U3, hU3⟩ : ∃ W, U2.setRow g4 #[.slice ao3 k3 cap3, .int .i64 (e3 : Int)] = W := ⟨_, rfl⟩
                 obtain ⟨U4, hU4⟩ : ∃ W, U3.setCell ⟨g8, 0, none⟩ (.string (strOf s)) = W := ⟨_, rfl⟩
                 have r2 := HP1.out.1.after h5
                 have q2 := HP1.out.2.1.below h5 HP1.out.2.1.lt
                 have r3 := r2.set h1 h2 hU3
                 have q3 : RowIs U3 g8 41 [.string (strOf []), .slice none 0 0, .slice none 0 0] := by rw [← hU3]; exact ((But.refl g4 U2).setRow _).row q2 (by have := HG8.out; omega)
                 have b3 : But g4 wo U3 := by rw [← hU3]; exact ((But.of_below HP1.out.2.2.1).trans (But.of_below h5)).setRow _
                 have f3 := q3.frozen 0
                 have c3 := q3.cell (j := 0) rfl
                 have r4 : RG w U4 g4 bs3 k3 e3 ao3 cap3 := r3.eqAt (by rw [← hU4]; exact heap_setCell_other U3 _ g4 _ (by have := HG8.out; simp only; omega))
                 have q4 : RowIs U4 g8 41 [.string (strOf s), .slice none 0 0, .slice none 0 0] := by rw [← hU4]; exact RowIs.set q3 0 _
                 have b4 : But g4 wo U4 := by rw [← hU4]; exact b3.setNew HG8.out.1 _
                 have HR2 : Hid (RowIs U2 g4 58 [.slice ao2 k2 cap2, .int .i64 0]) := r2.row
                 have HU3 : Hid (U2.setRow g4 #[.slice ao3 k3 cap3, .int .i64 (e3 : Int)] = U3) := hU3
                 have HU4 : Hid (U3.setCell ⟨g8, 0, none⟩ (.string (strOf s)) = U4) := hU4
                 have HP4 : Hid (RG w U4 g4 bs3 k3 e3 ao3 cap3 ∧ RowIs U4 g8 41 [.string (strOf s), .slice none 0 0, .slice none 0 0] ∧ But g4 wo U4 ∧ KN (1 :: t) m i X s e3 bs3 ∧ s.length ≤ 32 ∧ After w U4) := ⟨r4, q4, b4, HO.out.ko.name HLT.out h4, h3, but_after HO.out.aft b4 HG8.out.2.2.1⟩
                 clear h1 h2 h3 h4 h5 hU3 hU4 r2 q2 r3 q3 b3 r4 q4 b4)
              | (refine wpList_store_row rfl 58 (.tmp 4) (.tmp 50) rfl g4 #[.slice ao3 k3 cap3, .int .i64 (e3 : Int)] rfl rfl 58 _ HR2.out lsize48 rfl (one58 _ _ _ _) ?_; rw [HU3.out])
              | (rw [HU4.out])
              | (refine wpList_load_row rfl 58 (.tmp 4) rfl g4 rfl 58 #[.slice ao3 k3 cap3, .int .i64 (e3 : Int)] (0, 0) _ HP4.out.1.row Try.underlying58 rfl lsize48 ?_)
              | (go_at_call 30; have hT := HP4.out; clear hT; refine Calls.mono (runt30 (e := e3) 64 HP4.out.1.len HP4.out.1.ro HP4.out.2.2.2.2.2) ?_; rintro x U5 ⟨ao6, k6, cap6, e6, m2, bs6, rfl, h1, h2, h3, h4, h5⟩
                 obtain ⟨U6, hU6⟩ : ∃ W, U5.setRow g4 #[.slice ao6 k6 cap6, .int .i64 (e6 : Int)] = W := ⟨_, rfl⟩
                 have r5 := HP4.out.1.after h5
                 have q5 := HP4.out.2.1.below h5 HP4.out.2.1.lt
                 have r6 := r5.set h1 h2 hU6
                 have q6 : RowIs U6 g8 41 [.string (strOf s), .slice none 0 0, .slice none 0 0] := by rw [← hU6]; exact ((But.refl g4 U5).setRow _).row q5 (by have := HG8.out; omega)
                 have b6 : But g4 wo U6 := by rw [← hU6]; exact (HP4.out.2.2.1.trans (But.of_below h5)).setRow _
                 have HR5 : Hid (RowIs U5 g4 58 [.slice ao3 k3 cap3, .int .i64 (e3 : Int)]) := r5.row
                 have HU6 : Hid (U5.setRow g4 #[.slice ao6 k6 cap6, .int .i64 (e6 : Int)] = U6) := hU6
                 have HP6 : Hid (RG w U6 g4 bs6 k6 e6 ao6 cap6 ∧ RowIs U6 g8 41 [.string (strOf s), .slice none 0 0, .slice none 0 0] ∧ But g4 wo U6 ∧ KI (1 :: t) m i X s m2 0 e6 bs6 []) := ⟨r6, q6, b6, HP4.out.2.2.2.1.many h4⟩
                 have hm2 : m2 ≤ 64 := h3
                 clear h1 h2 h3 h4 h5 hU6 r5 q5 r6 q6 b6)
              | (refine wpList_store_row rfl 58 (.tmp 4) (.tmp 56) rfl g4 #[.slice ao6 k6 cap6, .int .i64 (e6 : Int)] rfl rfl 58 _ HR5.out lsize48 rfl (one58 _ _ _ _) ?_; rw [HU6.out]))
            have hm263 : m2 < 9223372036854775808 := by omega
            go_loopw [10] (fun kv wj => ∃ (j : Nat) (a : Option Addr) (c : Nat) (bs : List UInt8) (k e : Nat) (ao : Option Addr) (cap : Nat) (Y : List Bx), j ≤ m2 ∧ kv = .int .u64 (j : Int) ∧ Hid (IQ w wo g4 g8 (1 :: t) m i X s m2 j a c wj bs k e ao cap Y)) (fun kv _ => m2 - (intOf kv).toNat)
            case atStart => exact ⟨0, none, 0, _, _, _, _, _, [], Nat.zero_le _, rfl, HP6.out.1, HP6.out.2.1, OwnB.nil _ _, rfl, fun y hy => (by cases hy), HP6.out.2.2.1, HP6.out.2.2.2⟩
            case round =>
              obtain ⟨j, a, c, bsj, kj, ej, aoj, capj, Y, hjm, rfl, HI⟩ := hrel
              obtain ⟨wj, rfl⟩ : ∃ W, W = wr := ⟨_, rfl⟩
              have dj := HI.out.rg.row.cell (j := 1) rfl
              have HWJ : Hid (After w wj) := but_after HO.out.aft HI.out.but HG8.out.2.2.1
              by_cases hej : ej = 0
              · subst hej
                by_cases hltj : j < m2
                · have hjj : (j : Int) < (m2 : Int) := by omega
                  have HLTJ : Hid (j < m2 ∧ j < 64) := ⟨hltj, by omega⟩
                  obtain ⟨g11, hg11⟩ : ∃ g, wj.heap.size = g := ⟨_, rfl⟩
                  obtain ⟨V1, hV1⟩ : ∃ W, wj.alloc (.cells (brc zbx).toArray 65) = W := ⟨_, rfl⟩
                  have hal1 : After wj V1 := by rw [← hV1]; exact after_alloc (After.refl wj) _
                  have hr11 : RowIs V1 g11 65 [.string (strOf []), .slice none 0 0] := by rw [← hV1, ← hg11]; exact RowIs.new wj 65 _
                  have hgl := HI.out.row.lt
                  have hrg1 := HI.out.rg.after hal1
                  have HV1 : Hid (wj.alloc (.cells (brc zbx).toArray 65) = V1 ∧ wj.heap.size = g11) := ⟨hV1, hg11⟩
                  have HG11 : Hid (wj.heap.size ≤ g11 ∧ g8 < g11 ∧ g4 < g11) := ⟨by omega, by omega, by have := HG8.out; omega⟩
                  have HQ1 : Hid (RG w V1 g4 bsj kj 0 aoj capj ∧ RowIs V1 g11 65 [.string (strOf []), .slice none 0 0] ∧ After wj V1 ∧ After w V1 ∧ RowIs V1 g8 41 [.string (strOf s), .slice a j c, .slice none 0 0]) := ⟨hrg1, hr11, hal1, HWJ.out.trans hal1, HI.out.row.below hal1 hgl⟩
                  have HQR : Hid (RowIs V1 g4 58 [.slice aoj kj capj, .int .i64 0]) := hrg1.row
                  clear hV1 hal1 hr11 hgl hrg1 hg11
                  go_wp2_with (first
                    | (refine wpList_of_run rfl (x_al48 rfl) ?_; rw [HV1.out.1]; rw [HV1.out.2])
                    | (refine wpList_load_row rfl 58 (.tmp 4) rfl g4 rfl 58 #[.slice aoj kj capj, .int .i64 0] (0, 0) _ HQR.out Try.underlying58 rfl lsize48 ?_)
                    | (go_at_call 31; have hT := HQ1.out; clear hT; refine Calls.mono (rtxt31 (e := 0) HQ1.out.1.len HQ1.out.1.ro HQ1.out.2.2.2.1) ?_; rintro x V2 ⟨ao8, k8, cap8, e8, z, bs8, rfl, h1, h2, h3, h4, h5⟩
                       obtain ⟨V3, hV3⟩ : ∃ W, V2.setRow g4 #[.slice ao8 k8 cap8, .int .i64 (e8 : Int)] = W := ⟨_, rfl⟩
                       obtain ⟨V4, hV4⟩ : ∃ W, V3.setCell ⟨g11, 0, none⟩ (.string (strOf z)) = W := ⟨_, rfl⟩
                       have r2 := HQ1.out.1.after h5
                       have p2 := HQ1.out.2.2.2.2.below h5 HQ1.out.2.2.2.2.lt
                       have q2 := HQ1.out.2.1.below h5 HQ1.out.2.1.lt
                       have r3 := r2.set h1 h2 hV3
                       have bb3 : But g4 V2 V3 := by rw [← hV3]; exact (But.refl g4 V2).setRow _
                       have bb4 : But g11 V3 V4 := by rw [← hV4]; exact (But.refl g11 V3).setCell 0 _
                       have q3 := bb3.row q2 (by have := HG11.out; omega)
                       have p3 := bb3.row p2 (by have := HG8.out; omega)
                       have b3 : But g4 wj V3 := ((But.of_below HQ1.out.2.2.1).trans (But.of_below h5)).trans bb3
                       have f3 := q3.frozen 0
                       have c3 := q3.cell (j := 0) rfl
                       have r4 : RG w V4 g4 bs8 k8 e8 ao8 cap8 := r3.eqAt (bb4.block g4 r3.row.lt (by have := HG11.out; omega))
                       have q4 : RowIs V4 g11 65 [.string (strOf z), .slice none 0 0] := by rw [← hV4]; exact RowIs.set q3 0 _
                       have p4 := bb4.row p3 (by have := HG11.out; omega)
                       have b4 : But g4 wj V4 := by rw [← hV4]; exact b3.setNew HG11.out.1 _
                       have d4 := r4.row.cell (j := 0) rfl
                       have HR2 : Hid (RowIs V2 g4 58 [.slice aoj kj capj, .int .i64 0]) := r2.row
                       have HV3 : Hid (V2.setRow g4 #[.slice ao8 k8 cap8, .int .i64 (e8 : Int)] = V3) := hV3
                       have HV4 : Hid (V3.setCell ⟨g11, 0, none⟩ (.string (strOf z)) = V4) := hV4
                       have HQ4 : Hid (RG w V4 g4 bs8 k8 e8 ao8 cap8 ∧ RowIs V4 g8 41 [.string (strOf s), .slice a j c, .slice none 0 0] ∧ RowIs V4 g11 65 [.string (strOf z), .slice none 0 0] ∧ But g4 wj V4 ∧ KB (1 :: t) m i X s m2 j z e8 bs8 Y ∧ z.length ≤ 32 ∧ After w V4) := ⟨r4, p4, q4, b4, HI.out.ki.name HLTJ.out.1 h4, h3, but_after HWJ.out b4 HG8.out.2.2.1⟩
                       clear h1 h2 h3 h4 h5 hV3 hV4 r2 p2 q2 r3 bb3 bb4 q3 p3 b3 r4 q4 p4 b4)
                    | (refine wpList_store_row rfl 58 (.tmp 4) (.tmp 71) rfl g4 #[.slice ao8 k8 cap8, .int .i64 (e8 : Int)] rfl rfl 58 _ HR2.out lsize48 rfl (one58 _ _ _ _) ?_; rw [HV3.out])
                    | (rw [HV4.out]))
                  go_at_call 32
                  refine Calls.mono (rgts32 (m := 16) HQ4.out.1.len (by omega) HQ4.out.1.ro HQ4.out.2.2.2.2.2.2) ?_
                  rintro x V5 ⟨a5, c5, n5, u, e5, l, rfl, h1, h2, h3, h4, h5, h6, h7⟩
                  have HQ5 : Hid (RG w V5 g4 bs8 k8 e8 ao8 cap8 ∧ RowIs V5 g8 41 [.string (strOf s), .slice a j c, .slice none 0 0] ∧ RowIs V5 g11 65 [.string (strOf z), .slice none 0 0] ∧ But g4 wj V5 ∧ But g4 wo V5 ∧ After w V5) := ⟨HQ4.out.1.after h7, HQ4.out.2.1.below h7 HQ4.out.2.1.lt, HQ4.out.2.2.1.below h7 HQ4.out.2.2.1.lt, HQ4.out.2.2.2.1.trans (But.of_below h7), (HI.out.but.trans HQ4.out.2.2.2.1).trans (But.of_below h7), HQ4.out.2.2.2.2.2.2.trans h7⟩
                  have HL5 : Hid (l.length = n5 ∧ n5 ≤ 16 ∧ u ≤ k8 ∧ All32 l ∧ OwnL V5 V4.heap.size 43 32 (.slice a5 n5 c5) (hsL l) ∧ g11 < V4.heap.size) := ⟨h1, h2, h3, h4, h5, HQ4.out.2.2.1.lt⟩
                  have HKH : Hid ((∀ L, gOk (1 :: t) L → e8 = 0 ∧ e5 = 0) ∧ ∀ y : Bx, y.nm = z → y.l = l → KI (1 :: t) m i X s m2 (j + 1) e8 (bs8.drop u) (Y ++ [y])) := HQ4.out.2.2.2.2.1.heads h6
                  have d5 := HQ5.out.1.row.cell (j := 1) rfl
                  clear h1 h2 h3 h4 h5 h6 h7
                  by_cases hz : e8 = 0 ∧ e5 = 0
                  · obtain ⟨rfl, rfl⟩ := hz
                    obtain ⟨ao7, e1⟩ : ∃ x, cutAt ao8 u cap8 = x := ⟨_, rfl⟩
                    obtain ⟨k7, e2⟩ : ∃ x, k8 - u = x := ⟨_, rfl⟩
                    obtain ⟨cap7, e3'⟩ : ∃ x, cap8 - u = x := ⟨_, rfl⟩
                    have hsl7 : ∀ W, (Instr.sliceAt 26 (.slice ao8 k8 cap8) (some (.int .i64 (u : Int))) none none).run Try.prog W = .ok (.slice ao7 k7 cap7) W := fun W => by
                      have h9 := slice_from ao8 k8 cap8 u (fun h => by rw [← HQ5.out.1.len, HQ5.out.1.ro.rs.nil h]; rfl) (by rw [← HQ5.out.1.len]; exact HQ5.out.1.ro.rs.cap) HL5.out.2.2.1 W
                      rw [e1, e2, e3'] at h9
                      exact h9
                    obtain ⟨V6, hV6⟩ : ∃ W, V5.setCell ⟨g11, 1, none⟩ (.slice a5 n5 c5) = W := ⟨_, rfl⟩
                    obtain ⟨V7, hV7⟩ : ∃ W, V6.setCell ⟨g4, 0, none⟩ (.slice ao7 k7 cap7) = W := ⟨_, rfl⟩
                    obtain ⟨⟨p1, p2, p3⟩, va, vc, V9, r1, p9, hIQ⟩ := inner_end (wr := wo) (wj := wj) HQ5.out.1 HQ5.out.2.1 HQ5.out.2.2.1 HI.out.own HQ5.out.2.2.2.1 HG11.out.1 HI.out.len HI.out.nmf HQ5.out.2.2.2.2.1 HQ4.out.2.2.2.2.2.1 HG8.out.1 HG8.out.2.1 HG11.out.2.1 HL5.out.2.2.2.2.1 HL5.out.2.2.2.2.2 HL5.out.1 HL5.out.2.1 HL5.out.2.2.2.1 HLTJ.out.2 (HKH.out.2 ⟨z, a5, c5, l⟩ rfl rfl) hV6 hV7 e1 e2 e3'
                    have f5 := HQ5.out.2.2.1.frozen 1
                    have c5' := HQ5.out.2.2.1.cell (j := 1) rfl
                    have f6 := p1.frozen 0
                    have c6 := p1.cell (j := 0) rfl
                    have c7 := p3.cell (j := 1) rfl
                    have f9 := p9.frozen 1
                    have c9 := p9.cell (j := 1) rfl
                    have HV6 : Hid (V5.setCell ⟨g11, 1, none⟩ (.slice a5 n5 c5) = V6) := hV6
                    have HV7 : Hid (V6.setCell ⟨g4, 0, none⟩ (.slice ao7 k7 cap7) = V7) := hV7
                    have HAP : Hid ((Builtin.append_ #[38, 38] 38 #[.slice a j c, .slice (some ⟨V7.heap.size, 0, none⟩) 1 1]).run Try.prog (V7.alloc (.cells #[.string (strOf z), .slice a5 n5 c5] 65)) = .ok (.slice va (j + 1) vc) V9) := r1
                    have HIQ : Hid (IQ w wo g4 g8 (1 :: t) m i X s m2 (j + 1) va vc (V9.setCell ⟨g8, 1, none⟩ (.slice va (j + 1) vc)) (bs8.drop u) k7 0 ao7 cap7 (Y ++ [⟨z, a5, c5, l⟩])) := hIQ
                    have HP2 : Hid (RowIs V7 g11 65 [.string (strOf z), .slice a5 n5 c5]) := p2
                    have hj63 : j + 1 < 9223372036854775808 := by omega
                    clear e1 e2 e3' hV6 hV7 p1 p2 p3 r1 p9 hIQ
                    go_wp2_with (first
                      | (rw [HV6.out])
                      | (rw [HV7.out])
                      | (refine wpList_load_row rfl 65 (.tmp 11) rfl g11 rfl 65 #[.string (strOf z), .slice a5 n5 c5] (0, 0) _ HP2.out Try.underlying65 rfl size65 ?_)
                      | (refine wpList_of_run rfl (x_bs25 (x := .tmp 97) (u := .string (strOf z)) (v := .slice a5 n5 c5) rfl rfl) ?_)
                      | (refine wpList_of_run rfl (x_app (t := 38) (s := .tmp 96) (x := .tmp 98) rfl rfl rfl HAP.out) ?_))
                    go_roundw
                    case rel => exact ⟨j + 1, va, vc, _, _, _, _, _, _, by omega, by go_num, HIQ⟩
                    case measure => simp [intOf]; omega
                  · have HF : Hid (∀ L, ¬ gOk (1 :: t) L) := fun L g => hz (HKH.out.1 L g)
                    by_cases h8 : e8 = 0
                    · have h5z : ¬ (e5 : Int) = 0 := fun h => hz ⟨h8, by omega⟩
                      have h8z : (e8 : Int) = 0 := by omega
                      clear hz h8
                      go_wp2
                      refine bodyPost_ret (v := .tuple #[.slice none 0 0, .int .i64 4]) (by simp [results, Try.results15, go_sem]) rfl ⟨HQ5.out.2.2.2.2.2, .inr ⟨HF.out, rfl⟩⟩
                    · have h8z : ¬ (e8 : Int) = 0 := by omega
                      clear hz h8
                      go_wp2
                      refine bodyPost_ret (v := .tuple #[.slice none 0 0, .int .i64 4]) (by simp [results, Try.results15, go_sem]) rfl ⟨HQ5.out.2.2.2.2.2, .inr ⟨HF.out, rfl⟩⟩
                · have hjj : ¬ (j : Int) < (m2 : Int) := by omega
                  have hjm2 : j = m2 := by omega
                  have dj0 := HI.out.rg.row.cell (j := 0) rfl
                  go_wp2_with (first | fail)
                  go_at_call 32
                  refine Calls.mono (rgts32 (m := 4096) HI.out.rg.len (by omega) HI.out.rg.ro HWJ.out) ?_
                  rintro x Z1 ⟨a7, c7, n7, u, e7, l, rfl, h1, h2, h3, h4, h5, h6, h7⟩
                  have HZ1 : Hid (RG w Z1 g4 bsj kj 0 aoj capj ∧ RowIs Z1 g8 41 [.string (strOf s), .slice a j c, .slice none 0 0] ∧ OwnB Z1 (g8 + 1) (.slice a j c) Y ∧ But g4 wo Z1 ∧ After w Z1) := ⟨HI.out.rg.after h7, HI.out.row.below h7 HI.out.row.lt, HI.out.own.after h7, HI.out.but.trans (But.of_below h7), HWJ.out.trans h7⟩
                  have HL7 : Hid (l.length = n7 ∧ n7 ≤ 4096 ∧ u ≤ kj ∧ All32 l ∧ OwnL Z1 wj.heap.size 43 32 (.slice a7 n7 c7) (hsL l) ∧ g8 < wj.heap.size) := ⟨h1, h2, h3, h4, h5, HI.out.row.lt⟩
                  have HKH : Hid ((∀ L, gOk (1 :: t) L → 0 = 0 ∧ e7 = 0) ∧ ∀ x : Rx, x.nm = s → x.X = Y → x.l = l → KO (1 :: t) m (i + 1) 0 (bsj.drop u) (X ++ [x])) := HI.out.ki.changes (.inl hjm2) h6
                  have d5 := HZ1.out.1.row.cell (j := 1) rfl
                  have HJ64 : Hid (j ≤ 64 ∧ i < 64) := ⟨by omega, by omega⟩
                  clear h1 h2 h3 h4 h5 h6 h7
                  by_cases hz : e7 = 0
                  · subst hz
                    obtain ⟨ao7, e1⟩ : ∃ x, cutAt aoj u capj = x := ⟨_, rfl⟩
                    obtain ⟨k7, e2⟩ : ∃ x, kj - u = x := ⟨_, rfl⟩
                    obtain ⟨cap7, e3'⟩ : ∃ x, capj - u = x := ⟨_, rfl⟩
                    have hsl7 : ∀ W, (Instr.sliceAt 26 (.slice aoj kj capj) (some (.int .i64 (u : Int))) none none).run Try.prog W = .ok (.slice ao7 k7 cap7) W := fun W => by
                      have h9 := slice_from aoj kj capj u (fun h => by rw [← HZ1.out.1.len, HZ1.out.1.ro.rs.nil h]; rfl) (by rw [← HZ1.out.1.len]; exact HZ1.out.1.ro.rs.cap) HL7.out.2.2.1 W
                      rw [e1, e2, e3'] at h9
                      exact h9
                    obtain ⟨Z2, hZ2⟩ : ∃ W, Z1.setCell ⟨g8, 2, none⟩ (.slice a7 n7 c7) = W := ⟨_, rfl⟩
                    obtain ⟨Z3, hZ3⟩ : ∃ W, Z2.setCell ⟨g4, 0, none⟩ (.slice ao7 k7 cap7) = W := ⟨_, rfl⟩
                    obtain ⟨⟨p1, p3⟩, a0, c0, va, vc, Z5, hv, r1, hOQ⟩ := outer_end (wr := wo) HZ1.out.1 HZ1.out.2.1 HZ1.out.2.2.1 HI.out.len HJ64.out.1 HI.out.nmf HZ1.out.2.2.2.1 HP4.out.2.2.2.2.1 HG8.out.1 HG8.out.2.1 HL7.out.2.2.2.2.1 HL7.out.2.2.2.2.2 HL7.out.1 HL7.out.2.1 HL7.out.2.2.2.1 HO.out.own HO.out.len HJ64.out.2 HO.out.aft HG8.out.2.2.1 HG8.out.2.2.2 (HKH.out.2 ⟨s, a, c, Y, a7, c7, l⟩ rfl rfl rfl) hZ2 hZ3 e1 e2 e3'
                    subst hv
                    have f5 := HZ1.out.2.1.frozen 2
                    have c5' := HZ1.out.2.1.cell (j := 2) rfl
                    have f6 := p1.frozen 0
                    have c6 := p1.cell (j := 0) rfl
                    have HZ2 : Hid (Z1.setCell ⟨g8, 2, none⟩ (.slice a7 n7 c7) = Z2) := hZ2
                    have HZ3 : Hid (Z2.setCell ⟨g4, 0, none⟩ (.slice ao7 k7 cap7) = Z3) := hZ3
                    have HAP : Hid ((Builtin.append_ #[22, 22] 22 #[.slice a0 i c0, .slice (some ⟨Z3.heap.size, 0, none⟩) 1 1]).run Try.prog (Z3.alloc (.cells (rxc ⟨s, a, c, Y, a7, c7, l⟩).toArray 41)) = .ok (.slice va (i + 1) vc) Z5) := r1
                    have HOQ : Hid (OQ w g4 (1 :: t) m (i + 1) (.slice va (i + 1) vc) Z5 (bsj.drop u) k7 0 ao7 cap7 (X ++ [⟨s, a, c, Y, a7, c7, l⟩])) := hOQ
                    have HP3 : Hid (RowIs Z3 g8 41 (rxc ⟨s, a, c, Y, a7, c7, l⟩)) := p3
                    have hi63 : i + 1 < 9223372036854775808 := by have := HJ64.out.2; omega
                    clear e1 e2 e3' hZ2 hZ3 p1 p3 r1 hOQ
                    go_wp2_with (first
                      | (rw [HZ2.out])
                      | (rw [HZ3.out])
                      | (refine wpList_load_row rfl 41 (.tmp 8) rfl g8 rfl 41 (rxc ⟨s, a, c, Y, a7, c7, l⟩).toArray (0, 0) _ HP3.out Try.underlying41 rfl (size41 _) ?_)
                      | (refine wpList_of_run rfl (x_bs22r (x := .tmp 123) (y := ⟨s, a, c, Y, a7, c7, l⟩) rfl rfl) ?_)
                      | (refine wpList_of_run rfl (x_app (t := 22) (s := .tmp 122) (x := .tmp 124) rfl rfl rfl HAP.out) ?_))
                    go_roundw
                    case rel => exact ⟨i + 1, _, _, _, _, _, _, by omega, by go_num, HOQ⟩
                    case measure => simp [intOf]; omega
                  · have HF : Hid (∀ L, ¬ gOk (1 :: t) L) := fun L g => hz (HKH.out.1 L g).2
                    have hzz : ¬ (e7 : Int) = 0 := by omega
                    clear hz
                    go_wp2
                    refine bodyPost_ret (v := .tuple #[.slice none 0 0, .int .i64 4]) (by simp [results, Try.results15, go_sem]) rfl ⟨HZ1.out.2.2.2.2, .inr ⟨HF.out, rfl⟩⟩
              · have hejz : ¬ (ej : Int) = 0 := by omega
                have HF : Hid (∀ L, ¬ gOk (1 :: t) L) := fun L g => hej (HI.out.ki L g).1
                have HC : Hid (Calls Try.prog 32 #[.slice aoj kj capj, .int .i64 4096] wj fun e w' => ∃ (a7 : Option Addr) (c7 n7 u e7 : Nat), e = .returned (.tuple #[.slice a7 n7 c7, .int .i64 (u : Int), .int .i64 (e7 : Int)]) ∧ After wj w') := (rgts32 (m := 4096) HI.out.rg.len (by omega) HI.out.rg.ro HWJ.out).mono (fun e w' ⟨a7, c7, n7, u, e7, l, he, _, _, _, _, _, _, h7⟩ => ⟨a7, c7, n7, u, e7, he, h7⟩)
                clear hej
                have dj0 := HI.out.rg.row.cell (j := 0) rfl
                go_wp2_with (first
                  | (go_at_call 32; refine Calls.mono HC.out ?_; rintro e Z1 ⟨a7, c7, n7, u, e7, rfl, h7⟩
                     have d5 := (HI.out.rg.after h7).row.cell (j := 1) rfl
                     have HZ1 : Hid (After w Z1) := HWJ.out.trans h7
                     clear h7))
                all_goals refine bodyPost_ret (v := .tuple #[.slice none 0 0, .int .i64 4]) (by simp [results, Try.results15, go_sem]) rfl ⟨HZ1.out, .inr ⟨HF.out, rfl⟩⟩
          · have hii : ¬ (i : Int) < (m : Int) := by omega
            have HD : Hid (∀ L, gOk (1 :: t) L → 0 = 0 ∧ rsof X = L) := HO.out.ko.done (.inl (by omega))
            obtain ⟨va, vc, hv, hrs⟩ := HO.out.own.at
            obtain ⟨kx, hkx⟩ : ∃ kx, X.length = kx := ⟨_, rfl⟩
            rw [hkx] at hv
            subst hv
            have hk64 : kx ≤ 64 := by rw [← hkx, HO.out.len]; omega
            have HRS : Hid (X.length = kx ∧ RsAt wr va X) := ⟨hkx, hrs⟩
            have HLD : Hid (Calls Try.prog 24 #[.slice va kx vc] wr (PutT (rsof X) wr)) := rlaid24 hkx (by omega) hrs
            clear hkx hrs
            by_cases hp : putE (rsof X) = 0
            · have HLY : Hid (Calls Try.prog 24 #[.slice va kx vc] wr fun e w' => ∃ a c k, e = .returned (.tuple #[.slice a k c, .int .i64 0]) ∧ (ixB (rsof X)).length = k ∧ BytesAt w' a (ixB (rsof X)) ∧ After wr w') := HLD.out.mono (fun e w' h => by
                rcases h.ans with ⟨_, a, c, k', he, h1, h2, _⟩ | ⟨h1, _⟩
                · exact ⟨a, c, k', he, h1, h2, h.aft⟩
                · exact absurd hp h1)
              have HP : Hid (putE (rsof X) = 0) := hp
              clear hp
              by_cases hb : ixB (rsof X) = 1 :: t
              · have HB : Hid (ixB (rsof X) = 1 :: t) := hb
                clear hb
                go_wp2_with (first
                  | (go_at_call 24; refine Calls.mono HLY.out ?_; rintro e wA ⟨a3, c3, k3, rfl, h1, h2, h3⟩
                     have dA := (HO.out.rg.row.below h3 HO.out.rg.row.lt).cell (j := 1) rfl
                     have hcv1 : (convert 26 9 (.slice a3 k3 c3)).run Try.prog wA = .ok (.string (strOf (1 :: t))) wA := by have h9 := conv_at c3 h2; rw [h1, HB.out] at h9; exact h9
                     have hcv2 : (convert 26 9 (.slice (some ⟨b, o, none⟩) n cap)).run Try.prog wA = .ok (.string (strOf (1 :: t))) wA := by have h9 := conv_at cap (HRAW.out.1.after (HO.out.aft.trans h3)); rw [HRAW.out.2] at h9; exact h9
                     have HA : Hid (After wr wA) := h3
                     clear h1 h2 h3))
                refine bodyPost_ret (v := .tuple #[.slice va kx vc, .int .i64 0]) (by simp [results, Try.results15, go_sem]) rfl ⟨HO.out.aft.trans HA.out, .inl ⟨va, vc, kx, X, ⟨by rw [← HB.out]; exact (putE_zero HP.out).2, HB.out.symm, (putE_zero HP.out).1, HRS.out.2.r32⟩, rfl, HRS.out.1, hk64, (HO.out.own.after HA.out).lower (by have := HG4.out.2; omega)⟩⟩
              · have HF : Hid (∀ L, ¬ gOk (1 :: t) L) := fun L g => hb (by rw [(HD.out L g).2]; exact g.2.1.symm)
                have hne : ((strOf (ixB (rsof X))).toList == (strOf (1 :: t)).toList) = false := beq_eq_false_iff_ne.2 (fun h => hb (by rw [strOf_toList, strOf_toList] at h; exact h))
                clear hb
                go_wp2_with (first
                  | (go_at_call 24; refine Calls.mono HLY.out ?_; rintro e wA ⟨a3, c3, k3, rfl, h1, h2, h3⟩
                     have dA := (HO.out.rg.row.below h3 HO.out.rg.row.lt).cell (j := 1) rfl
                     have hcv1 : (convert 26 9 (.slice a3 k3 c3)).run Try.prog wA = .ok (.string (strOf (ixB (rsof X)))) wA := by have h9 := conv_at c3 h2; rw [h1] at h9; exact h9
                     have hcv2 : (convert 26 9 (.slice (some ⟨b, o, none⟩) n cap)).run Try.prog wA = .ok (.string (strOf (1 :: t))) wA := by have h9 := conv_at cap (HRAW.out.1.after (HO.out.aft.trans h3)); rw [HRAW.out.2] at h9; exact h9
                     have HA : Hid (After wr wA) := h3
                     clear h1 h2 h3))
                refine bodyPost_ret (v := .tuple #[.slice none 0 0, .int .i64 4]) (by simp [results, Try.results15, go_sem]) rfl ⟨HO.out.aft.trans HA.out, .inr ⟨HF.out, rfl⟩⟩
            · have HF : Hid (∀ L, ¬ gOk (1 :: t) L) := fun L g => hp (by rw [(HD.out L g).2]; exact putE_ok g.2.2.1 (by rw [← g.2.1]; have := g.1; omega))
              obtain ⟨E, hE⟩ : ∃ E, putE (rsof X) = E := ⟨_, rfl⟩
              have hE0 : ¬ (E : Int) = 0 := by omega
              have HLY : Hid (Calls Try.prog 24 #[.slice va kx vc] wr fun e w' => ∃ a k c, e = .returned (.tuple #[.slice a k c, .int .i64 (E : Int)]) ∧ After wr w') := HLD.out.mono (fun e w' h => by have h9 := h.two; rw [hE] at h9; exact h9)
              clear hp hE
              go_wp2_with (first
                | (go_at_call 24; refine Calls.mono HLY.out ?_; rintro e wA ⟨a3, k3, c3, rfl, h3⟩
                   have dA := (HO.out.rg.row.below h3 HO.out.rg.row.lt).cell (j := 1) rfl
                   have HA : Hid (After wr wA) := h3
                   clear h3))
              refine bodyPost_ret (v := .tuple #[.slice none 0 0, .int .i64 4]) (by simp [results, Try.results15, go_sem]) rfl ⟨HO.out.aft.trans HA.out, .inr ⟨HF.out, rfl⟩⟩
        · have hez : ¬ (e2 : Int) = 0 := by omega
          have HD : Hid (∀ L, ¬ gOk (1 :: t) L) := fun L g => he2 ((HO.out.ko.done (.inr he2)) L g).1
          obtain ⟨va, vc, hv, hrs⟩ := HO.out.own.at
          obtain ⟨kx, hkx⟩ : ∃ kx, X.length = kx := ⟨_, rfl⟩
          rw [hkx] at hv
          subst hv
          have hk64 : kx ≤ 64 := by rw [← hkx, HO.out.len]; exact Nat.le_trans him hm64
          have HLD : Hid (Calls Try.prog 24 #[.slice va kx vc] wr fun e w' => ∃ a k c, e = .returned (.tuple #[.slice a k c, .int .i64 (putE (rsof X) : Int)]) ∧ After wr w') := (rlaid24 hkx (by omega) hrs).mono (fun e w' h => h.two)
          clear hkx hrs
          go_wp2_with (first
            | (go_at_call 24; refine Calls.mono HLD.out ?_; rintro e wA ⟨a3, k3, c3, rfl, h3⟩
               have dA := (HO.out.rg.row.below h3 HO.out.rg.row.lt).cell (j := 1) rfl
               have HA : Hid (After wr wA) := h3
               clear h3))
          all_goals refine bodyPost_ret (v := .tuple #[.slice none 0 0, .int .i64 4]) (by simp [results, Try.results15, go_sem]) rfl ⟨HO.out.aft.trans HA.out, .inr ⟨HD.out, rfl⟩⟩
    · have hx1 : ¬ (x.toNat : Int) = 1 := fun h => hx (UInt8.toNat_inj.1 (by have : x.toNat = 1 := by omega
                                                                             rw [this]; rfl))
      have HF : Hid (∀ L, ¬ gOk (x :: t) L) := no_gOk_head hx
      have hx2 : ((x.toNat : Int) != 1) = true := bne_iff_ne.2 hx1
      clear hat hce hn hx
      go_enter Try.func15, Try.ntmps15
      go_wp2
      refine bodyPost_ret (v := .tuple #[.slice none 0 0, .int .i64 4]) (by simp [results, Try.results15, go_sem]) rfl ⟨After.refl w, .inr ⟨HF.out, rfl⟩⟩
end Go.Proofs.Ytcmcapcagblafaa

namespace Go.Proofs.Ytcmcapcagblafaa
open Go.RowKit Go.Maps Dsk
attribute [local go_sem] Oper.semAt_some
instance decRc : DecidableEq Rc := inferInstanceAs (DecidableEq (List UInt8 × (List (List UInt8 × List (List UInt8)) × List (List UInt8))))
set_option maxRecDepth 100000 in
set_option maxHeartbeats 3200000 in
theorem same34 {x y : Rx} {w : World} (hx : RxAt w x) (hy : RxAt w y) : Calls Try.prog 34 #[.agg (rxc x).toArray, .agg (rxc y).toArray] w fun e w' => e = .returned (.bool (decide (rof x = rof y))) ∧ After w w' := by
  obtain ⟨s, ba, bc, X, a, c, l⟩ := x
  obtain ⟨t, da, dc, Y, b, d, m⟩ := y
  obtain ⟨n, hn⟩ : ∃ n, l.length = n := ⟨_, rfl⟩
  obtain ⟨k, hk⟩ : ∃ k, m.length = k := ⟨_, rfl⟩
  obtain ⟨p, hp⟩ : ∃ p, X.length = p := ⟨_, rfl⟩
  obtain ⟨q, hq⟩ : ∃ q, Y.length = q := ⟨_, rfl⟩
  obtain ⟨W0, hW0⟩ : ∃ W0, (w.alloc (.cells #[.string (strOf s), .slice ba p bc, .slice a n c] 41)).alloc (.cells #[.string (strOf t), .slice da q dc, .slice b k d] 41) = W0 := ⟨_, rfl⟩
  have HR : RowIs W0 w.heap.size 41 [.string (strOf s), .slice ba p bc, .slice a n c] ∧ RowIs W0 (w.heap.size + 1) 41 [.string (strOf t), .slice da q dc, .slice b k d] ∧ After w W0 := by
    refine ⟨?_, ?_, ?_⟩
    · rw [← hW0]; exact (RowIs.new w 41 [.string (strOf s), .slice ba p bc, .slice a n c]).alloc _
    · rw [← hW0]; have := RowIs.new (w.alloc (.cells #[.string (strOf s), .slice ba p bc, .slice a n c] 41)) 41 [.string (strOf t), .slice da q dc, .slice b k d]; rwa [World.size_alloc] at this
    · rw [← hW0]; exact after_alloc (after_alloc (After.refl w) _) _
  have HQ : Hid (RowIs W0 w.heap.size 41 [.string (strOf s), .slice ba p bc, .slice a n c] ∧ RowIs W0 (w.heap.size + 1) 41 [.string (strOf t), .slice da q dc, .slice b k d]) := ⟨HR.1, HR.2.1⟩
  have c0 := HR.1.cell (j := 0) rfl
  have c1 := HR.1.cell (j := 1) rfl
  have d0 := HR.2.1.cell (j := 0) rfl
  have d1 := HR.2.1.cell (j := 1) rfl
  have HA : Hid (After w W0) := HR.2.2
  have hfx := hx.fitC
  have hfX := hx.fitB
  simp only at hfx hfX
  have HB : Hid (Calls Try.prog 35 #[.slice ba p bc, .slice da q dc] W0 fun e w' => e = .returned (.bool (decide (bof X = bof Y))) ∧ After W0 w') := same24 (ca := bc) (cb := dc) hp hq (by omega) (hx.bs.after HR.2.2) (hy.bs.after HR.2.2)
  have HC : Hid (∀ W, After W0 W → Calls Try.prog 18 #[.slice a n c, .slice b k d] W fun e w' => e = .returned (.bool (decide (l = m))) ∧ After W w') := fun W hW => same53 (ca := c) (cb := d) hx.l32 hy.l32 hn hk (by omega) (hx.sl.after (HR.2.2.trans hW)) (hy.sl.after (HR.2.2.trans hW))
  simp only [rxc]
  rw [hn, hk, hp, hq]
  clear hx hy HR hfx hfX
  by_cases hst : s = t
  · subst hst
    by_cases hXY : bof X = bof Y
    · have HD : Hid (decide (rof ⟨s, ba, bc, X, a, c, l⟩ = rof ⟨s, da, dc, Y, b, d, m⟩) = decide (l = m)) := by simp [Hid, rof, hXY]
      have HBT : Hid (Calls Try.prog 35 #[.slice ba p bc, .slice da q dc] W0 fun e w' => e = .returned (.bool true) ∧ After W0 w') := by have := HB.out; rw [decide_eq_true hXY] at this; exact this
      obtain ⟨z, hz⟩ : ∃ z, decide (l = m) = z := ⟨_, rfl⟩
      rw [hz] at HC HD
      clear hXY
      go_enter Try.func34, Try.ntmps34
      go_wp2_with (first
        | (rw [hW0])
        | (go_at_call 35; refine Calls.mono HBT.out ?_; rintro e w2 ⟨rfl, ha2⟩; have H2 : Hid (After W0 w2) := ha2
           have e0 := (HQ.out.1.below ha2 HQ.out.1.lt).cell (j := 2) rfl
           have e1 := (HQ.out.2.below ha2 HQ.out.2.lt).cell (j := 2) rfl
           clear ha2)
        | (go_at_call 18; refine Calls.mono (HC.out _ H2.out) ?_; rintro e w3 ⟨rfl, ha3⟩; have HA3 := show Hid (After w w3) from (HA.out.trans H2.out).trans ha3; clear ha3))
      go_ret
      exact ⟨by rw [HD.out]; rfl, HA3.out⟩
    · have HD : Hid (decide (rof ⟨s, ba, bc, X, a, c, l⟩ = rof ⟨s, da, dc, Y, b, d, m⟩) = false) := by simp [Hid, rof, hXY]
      have HBT : Hid (Calls Try.prog 35 #[.slice ba p bc, .slice da q dc] W0 fun e w' => e = .returned (.bool false) ∧ After W0 w') := by have := HB.out; rw [decide_eq_false hXY] at this; exact this
      clear hXY
      go_enter Try.func34, Try.ntmps34
      go_wp2_with (first
        | (rw [hW0])
        | (go_at_call 35; refine Calls.mono HBT.out ?_; rintro e w2 ⟨rfl, ha2⟩; have H2 : Hid (After W0 w2) := ha2; clear ha2))
      go_ret
      exact ⟨by rw [HD.out]; rfl, HA.out.trans H2.out⟩
  · have hne : strOf s ≠ strOf t := strOf_ne hst
    have HD : Hid (decide (rof ⟨s, ba, bc, X, a, c, l⟩ = rof ⟨t, da, dc, Y, b, d, m⟩) = false) := decide_eq_false (fun e => hst (Prod.mk.inj e).1)
    go_enter Try.func34, Try.ntmps34
    go_wp2_with (first
      | (rw [hW0])
      | (refine wpList_of_run rfl (x_eq9 (x := .tmp 6) (y := .tmp 8) (s := s) (t := t) rfl rfl rfl) ?_; rw [decide_eq_false hst]))
    go_ret
    exact ⟨by rw [HD.out]; rfl, HA.out⟩
set_option maxRecDepth 100000 in
set_option maxHeartbeats 6400000 in
theorem equalF33 {ao bo : Option Addr} {ca cb : Nat} {la lb : List Rx} {n m : Nat} (hla : la.length = n) (hlb : lb.length = m) (hbig : n ≤ 9223372036854775807) {w : World} (hA : RsAt w ao la) (hB : RsAt w bo lb) :
    Calls Try.prog 33 #[.slice ao n ca, .slice bo m cb, .func (.func 34) #[] #[]] w fun e w' => e = .returned (.bool (decide (rsof la = rsof lb))) ∧ After w w' := by
  have hpa : (rsof la).length = n := by rw [rsof_len, hla]
  have hpb : (rsof lb).length = m := by rw [rsof_len, hlb]
  by_cases hnm : n = m
  · subst hnm
    have HFA : Hid (RsAt w ao la ∧ la.length = n ∧ (rsof la).length = n) := ⟨hA, hla, hpa⟩
    have HFB : Hid (RsAt w bo lb ∧ lb.length = n ∧ (rsof lb).length = n) := ⟨hB, hlb, hpb⟩
    clear hA hB hla hlb hpa hpb
    go_enter Try.func33, Try.ntmps33
    go_wp2_with fail
    go_loopw [17] (fun iv wr => ∃ i : Nat, i ≤ n ∧ iv = .int .i64 (i : Int) ∧ Hid (SmI w (rsof la) (rsof lb) i wr)) (fun iv _ => n - (intOf iv).toNat)
    case atStart => exact ⟨0, Nat.zero_le _, rfl, After.refl w, fun j hj => by omega⟩
    case round =>
      obtain ⟨i, hin, rfl, HI⟩ := hrel
      by_cases hlt : i < n
      · have hii : (i : Int) < (n : Int) := by omega
        have HLT : Hid (i < n) := hlt
        obtain ⟨x, hx⟩ : ∃ x, la[i]? = some x := ⟨_, List.getElem?_eq_getElem (by rw [HFA.out.2.1]; exact hlt)⟩
        obtain ⟨y, hy⟩ : ∃ y, lb[i]? = some y := ⟨_, List.getElem?_eq_getElem (by rw [HFB.out.2.1]; exact hlt)⟩
        obtain ⟨xb, xo, hxa, hxr⟩ := HFA.out.1.sl.at (rs_get hx)
        obtain ⟨yb, yo, hya, hyr⟩ := HFB.out.1.sl.at (rs_get hy)
        subst hxa hya
        obtain ⟨W1, hW1⟩ : ∃ W1, (wr.alloc (.cells (rxc zrx).toArray 41)).setRow wr.heap.size (rxc x).toArray = W1 := ⟨_, rfl⟩
        obtain ⟨W2, hW2⟩ : ∃ W2, (W1.alloc (.cells (rxc zrx).toArray 41)).setRow W1.heap.size (rxc y).toArray = W2 := ⟨_, rfl⟩
        have HP1 := show Hid _ from put41 hW1
        have HP2 := show Hid _ from put41 hW2
        have HG1 := show Hid _ from hW1
        have HG2 := show Hid _ from hW2
        have HAA : Hid (After w W2 ∧ RowIs W2 wr.heap.size 41 (rxc x) ∧ RowIs W2 W1.heap.size 41 (rxc y)) := ⟨(HI.out.aft.trans HP1.out.2.2).trans HP2.out.2.2, HP1.out.2.1.below HP2.out.2.2 HP1.out.2.1.lt, HP2.out.2.1⟩
        have HX : Hid (wr.rangeAt xb (xo + i * 3) (rxc x)) := range_after hxr HI.out.aft
        have HY : Hid (W1.rangeAt yb (yo + i * 3) (rxc y)) := range_after hyr (HI.out.aft.trans HP1.out.2.2)
        have HC : Hid (Calls Try.prog 34 #[.agg (rxc x).toArray, .agg (rxc y).toArray] W2 fun e w' => e = .returned (.bool (decide (rof x = rof y))) ∧ After W2 w') := same34 ((HFA.out.1.each x (List.mem_of_getElem? hx)).after HAA.out.1) ((HFB.out.1.each y (List.mem_of_getElem? hy)).after HAA.out.1)
        have HXY : Hid ((rsof la)[i]? = some (rof x) ∧ (rsof lb)[i]? = some (rof y)) := ⟨rsof_get hx, rsof_get hy⟩
        clear hx hy hxr hyr hW1 hW2
        by_cases hxy : rof x = rof y
        · have HD : Hid (decide (rof x = rof y) = true) := decide_eq_true hxy
          go_wp2_with (first
            | (refine wpList_of_run rfl (x_ix22 (x := .tmp 15) (y := .tmp 17) (b := xb) (f := xo) (n := n) (c := ca) (i := i) rfl (by kernel_rfl) (by kernel_rfl) HLT.out) ?_)
            | (refine wpList_of_run rfl (x_ld41 (x := .tmp 20) (g := xb) (p := xo + i * 3) (y := x) rfl (by kernel_rfl) HX.out) ?_)
            | (refine wpList_of_run rfl (x_al41 rfl) ?_)
            | (refine wpList_store_row rfl 41 (.tmp 8) (.tmp 21) rfl wr.heap.size (rxc x).toArray rfl rfl 41 _ HP1.out.1 (size41 x) rfl (by simpa using rs_one [x] (rxc x) (by simp [rsL])) ?_; rw [HG1.out])
            | (refine wpList_of_run rfl (x_ix22 (x := .tmp 22) (y := .tmp 23) (b := yb) (f := yo) (n := n) (c := cb) (i := i) rfl (by kernel_rfl) (by kernel_rfl) HLT.out) ?_)
            | (refine wpList_of_run rfl (x_ld41 (x := .tmp 24) (g := yb) (p := yo + i * 3) (y := y) rfl (by kernel_rfl) HY.out) ?_)
            | (refine wpList_store_row rfl 41 (.tmp 9) (.tmp 25) rfl W1.heap.size (rxc y).toArray rfl rfl 41 _ HP2.out.1 (size41 y) rfl (by simpa using rs_one [y] (rxc y) (by simp [rsL])) ?_; rw [HG2.out])
            | (refine wpList_load_row rfl 41 (.tmp 8) rfl wr.heap.size rfl 41 (rxc x).toArray (0, 0) _ HAA.out.2.1 Try.underlying41 rfl (size41 x) ?_)
            | (refine wpList_load_row rfl 41 (.tmp 9) rfl W1.heap.size rfl 41 (rxc y).toArray (0, 0) _ HAA.out.2.2 Try.underlying41 rfl (size41 y) ?_)
            | (go_at_call 34; refine Calls.mono HC.out ?_; rintro e w3 ⟨rfl, ha3⟩; rw [HD.out]; have H3 := show Hid (After W2 w3) from ha3; clear ha3))
          go_roundw
          case rel => exact ⟨i + 1, by omega, by go_num, HAA.out.1.trans H3.out, fun j hj => by
            by_cases e : j = i
            · subst e; rw [HXY.out.1, HXY.out.2, hxy]
            · exact HI.out.pre j (by omega)⟩
          case measure => simp [intOf]; omega
        · have HD : Hid (decide (rof x = rof y) = false) := decide_eq_false hxy
          go_wp2_with (first
            | (refine wpList_of_run rfl (x_ix22 (x := .tmp 15) (y := .tmp 17) (b := xb) (f := xo) (n := n) (c := ca) (i := i) rfl (by kernel_rfl) (by kernel_rfl) HLT.out) ?_)
            | (refine wpList_of_run rfl (x_ld41 (x := .tmp 20) (g := xb) (p := xo + i * 3) (y := x) rfl (by kernel_rfl) HX.out) ?_)
            | (refine wpList_of_run rfl (x_al41 rfl) ?_)
            | (refine wpList_store_row rfl 41 (.tmp 8) (.tmp 21) rfl wr.heap.size (rxc x).toArray rfl rfl 41 _ HP1.out.1 (size41 x) rfl (by simpa using rs_one [x] (rxc x) (by simp [rsL])) ?_; rw [HG1.out])
            | (refine wpList_of_run rfl (x_ix22 (x := .tmp 22) (y := .tmp 23) (b := yb) (f := yo) (n := n) (c := cb) (i := i) rfl (by kernel_rfl) (by kernel_rfl) HLT.out) ?_)
            | (refine wpList_of_run rfl (x_ld41 (x := .tmp 24) (g := yb) (p := yo + i * 3) (y := y) rfl (by kernel_rfl) HY.out) ?_)
            | (refine wpList_store_row rfl 41 (.tmp 9) (.tmp 25) rfl W1.heap.size (rxc y).toArray rfl rfl 41 _ HP2.out.1 (size41 y) rfl (by simpa using rs_one [y] (rxc y) (by simp [rsL])) ?_; rw [HG2.out])
            | (refine wpList_load_row rfl 41 (.tmp 8) rfl wr.heap.size rfl 41 (rxc x).toArray (0, 0) _ HAA.out.2.1 Try.underlying41 rfl (size41 x) ?_)
            | (refine wpList_load_row rfl 41 (.tmp 9) rfl W1.heap.size rfl 41 (rxc y).toArray (0, 0) _ HAA.out.2.2 Try.underlying41 rfl (size41 y) ?_)
            | (go_at_call 34; refine Calls.mono HC.out ?_; rintro e w3 ⟨rfl, ha3⟩; rw [HD.out]; have H3 := show Hid (After W2 w3) from ha3; clear ha3))
          go_ret
          refine ⟨?_, HAA.out.1.trans H3.out⟩
          have : ¬ rsof la = rsof lb := fun e => by have h1 := HXY.out; rw [e] at h1; exact hxy (Option.some.inj (h1.1.symm.trans h1.2))
          simp [this]
      · have hii : ¬ (i : Int) < (n : Int) := by omega
        go_wp2
        go_ret
        refine ⟨?_, HI.out.aft⟩
        have : rsof la = rsof lb := eq_of_pre HFA.out.2.2 HFB.out.2.2 (fun j hj => HI.out.pre j (by omega))
        simp [this]
  · have hnmi : ¬ (n : Int) = (m : Int) := by omega
    have : ¬ rsof la = rsof lb := fun e => hnm (by rw [← hpa, ← hpb, e])
    go_enter Try.func33, Try.ntmps33
    go_wp2
    go_ret
    exact ⟨by simp [this], After.refl w⟩
set_option maxRecDepth 100000 in
set_option maxHeartbeats 6400000 in
theorem same16 {ao bo : Option Addr} {ca cb : Nat} {la lb : List Rx} {n m : Nat} (hla : la.length = n) (hlb : lb.length = m) (hbig : n ≤ 9223372036854775807) {w : World} (hA : RsAt w ao la) (hB : RsAt w bo lb) :
    Calls Try.prog 16 #[.slice ao n ca, .slice bo m cb] w fun e w' => e = .returned (.bool (decide (rsof la = rsof lb))) ∧ After w w' := by
  have HC := show Hid _ from equalF33 (ca := ca) (cb := cb) hla hlb hbig hA hB
  clear hA hB hla hlb
  go_enter Try.func16, Try.ntmps16
  go_wp2_with (go_at_call 33; refine Calls.mono HC.out ?_; rintro e w2 ⟨rfl, ha2⟩; have HA2 := show Hid (After w w2) from ha2; clear ha2)
  go_ret
  exact ⟨rfl, HA2.out⟩
end Go.Proofs.Ytcmcapcagblafaa

namespace Go.Proofs.Ytcmcapcagblafaa
open Go.RowKit Go.Maps Dsk
attribute [local go_sem] Oper.semAt_some
set_option maxRecDepth 100000 in
set_option maxHeartbeats 25600000 in
theorem rsame13 {ao bo : Option Addr} {ca cb : Nat} {la lb : List Rx} {n m : Nat} (hla : la.length = n) (hlb : lb.length = m) (hbig : n < 4611686018427387904) {w : World} (hA : RsAt w ao la) (hB : RsAt w bo lb) :
    Calls Try.prog 13 #[.slice ao n ca, .slice bo m cb] w fun e w' => e = .returned (.bool (decide (rsof la = rsof lb))) ∧ After w w' := by
  have hpa : (rsof la).length = n := by rw [rsof_len, hla]
  have hpb : (rsof lb).length = m := by rw [rsof_len, hlb]
  by_cases hnm : n = m
  · subst hnm
    have HFA : Hid (RsAt w ao la ∧ la.length = n ∧ (rsof la).length = n) := ⟨hA, hla, hpa⟩
    have HFB : Hid (RsAt w bo lb ∧ lb.length = n ∧ (rsof lb).length = n) := ⟨hB, hlb, hpb⟩
    clear hA hB hla hlb hpa hpb
    go_enter Try.func13, Try.ntmps13
    go_wp2
    go_loopw [5] (fun iv wr => ∃ i : Nat, i ≤ n ∧ iv = .int .i64 (i : Int) ∧ Hid (SmI w (rsof la) (rsof lb) i wr)) (fun iv _ => n - (intOf iv).toNat)
    case atStart => exact ⟨0, Nat.zero_le _, rfl, After.refl w, fun j hj => by omega⟩
    case round =>
      obtain ⟨i, hin, rfl, HI⟩ := hrel
      by_cases hlt : i < n
      · have hii : (i : Int) < (n : Int) := by omega
        have HLT : Hid (i < n) := hlt
        obtain ⟨x, hx⟩ : ∃ x, la[i]? = some x := ⟨_, List.getElem?_eq_getElem (by rw [HFA.out.2.1]; exact hlt)⟩
        obtain ⟨y, hy⟩ : ∃ y, lb[i]? = some y := ⟨_, List.getElem?_eq_getElem (by rw [HFB.out.2.1]; exact hlt)⟩
        have hxb := HFA.out.1.each x (List.mem_of_getElem? hx)
        have hyb := HFB.out.1.each y (List.mem_of_getElem? hy)
        obtain ⟨xb, xo, hxa, hxr⟩ := HFA.out.1.sl.at (rs_get hx)
        obtain ⟨yb, yo, hya, hyr⟩ := HFB.out.1.sl.at (rs_get hy)
        subst hxa hya
        obtain ⟨k, hk⟩ : ∃ k, x.X.length = k := ⟨_, rfl⟩
        obtain ⟨p, hp⟩ : ∃ p, x.l.length = p := ⟨_, rfl⟩
        obtain ⟨q, hq⟩ : ∃ q, y.X.length = q := ⟨_, rfl⟩
        obtain ⟨r, hr⟩ : ∃ r, y.l.length = r := ⟨_, rfl⟩
        have HX : Hid (wr.rangeAt xb (xo + i * 3) [.string (strOf x.nm), .slice x.ba k x.bc, .slice x.a p x.c]) := by have := range_after hxr HI.out.aft; unfold rxc at this; rw [hk, hp] at this; exact this
        have HY : Hid (wr.rangeAt yb (yo + i * 3) [.string (strOf y.nm), .slice y.ba q y.bc, .slice y.a r y.c]) := by have := range_after hyr HI.out.aft; unfold rxc at this; rw [hq, hr] at this; exact this
        have HC1 : Hid (∀ W, After wr W → Calls Try.prog 25 #[.slice x.ba k x.bc, .slice y.ba q y.bc] W fun e w' => e = .returned (.bool (decide (bof x.X = bof y.X))) ∧ After W w') := fun W hW => rsame28 (ca := x.bc) (cb := y.bc) hk hq (by have := hxb.fitB; omega) (hxb.bs.after (HI.out.aft.trans hW)) (hyb.bs.after (HI.out.aft.trans hW))
        have HC2 : Hid (∀ W, After wr W → Calls Try.prog 26 #[.slice x.a p x.c, .slice y.a r y.c] W fun e w' => e = .returned (.bool (decide (x.l = y.l))) ∧ After W w') := fun W hW => rsame31 (ca := x.c) (cb := y.c) hxb.l32 hyb.l32 hp hr (by have := hxb.fitC; omega) (hxb.sl.after (HI.out.aft.trans hW)) (hyb.sl.after (HI.out.aft.trans hW))
        have HXY : Hid ((rsof la)[i]? = some (rof x) ∧ (rsof lb)[i]? = some (rof y)) := ⟨rsof_get hx, rsof_get hy⟩
        clear hx hy hxb hyb hxr hyr hk hp hq hr
        by_cases h1 : x.nm = y.nm
        · have HD1 : Hid (decide (x.nm = y.nm) = true) := decide_eq_true h1
          by_cases h2 : bof x.X = bof y.X
          · have HD2 : Hid (decide (bof x.X = bof y.X) = true) := decide_eq_true h2
            by_cases h3 : x.l = y.l
            · have HD3 : Hid (decide (x.l = y.l) = true) := decide_eq_true h3
              have HEQ : Hid (rof x = rof y) := by unfold Hid rof; rw [h1, h2, h3]
              clear h1 h2 h3
              go_wp2
              refine wp_region_noPanic ?_
              refine wp_region_held_drew (S := After wr) (by kernel_rfl) (After.drew (After.refl wr)) ?_
              intro hS0
              refine tk 0 17 (.slice (some ⟨xb, xo, none⟩) n ca) (fuel := 38) rfl (by kernel_rfl) (by kernel_rfl) (by kernel_rfl) (by kernel_rfl) noPanic_false (by kernel_rfl) (fun _ _ => by kernel_rfl) hS0 ?_
              refine tk 1 18 (.int .i64 (i : Int)) (fuel := 37) rfl (by kernel_rfl) (by kernel_rfl) (by kernel_rfl) (by kernel_rfl) noPanic_false (by kernel_rfl) (fun _ _ => by kernel_rfl) hS0 ?_
              refine tk 2 19 (.pointer (some ⟨xb, xo + i * 3, none⟩)) (fuel := 36) rfl (by kernel_rfl) (by kernel_rfl) (by kernel_rfl) (by kernel_rfl) noPanic_false (by kernel_rfl) (fun W _ => x_ix22 (n := n) (c := ca) (x := .tmp 17) (y := .tmp 18) (by kernel_rfl) (by kernel_rfl) (by kernel_rfl) HLT.out) hS0 ?_
              refine tk 3 20 (.pointer (some ⟨xb, xo + i * 3, none⟩)) (fuel := 35) rfl (by kernel_rfl) (by kernel_rfl) (by kernel_rfl) (by kernel_rfl) noPanic_false (by kernel_rfl) (fun _ _ => by kernel_rfl) hS0 ?_
              refine tk 4 21 (.string (strOf x.nm)) (fuel := 34) rfl (by kernel_rfl) (by kernel_rfl) (by kernel_rfl) (by kernel_rfl) noPanic_false (by kernel_rfl) (fun W hW => x_loadT (x := .tmp 20) (t := 9) (g := xb) (j := xo + i * 3 + 0) Try.underlying9 rfl (by kernel_rfl) (by kernel_rfl) (range_after HX.out hW 0 _ rfl)) hS0 ?_
              refine tk 5 22 (.slice (some ⟨yb, yo, none⟩) n cb) (fuel := 33) rfl (by kernel_rfl) (by kernel_rfl) (by kernel_rfl) (by kernel_rfl) noPanic_false (by kernel_rfl) (fun _ _ => by kernel_rfl) hS0 ?_
              refine tk 6 23 (.int .i64 (i : Int)) (fuel := 32) rfl (by kernel_rfl) (by kernel_rfl) (by kernel_rfl) (by kernel_rfl) noPanic_false (by kernel_rfl) (fun _ _ => by kernel_rfl) hS0 ?_
              refine tk 7 24 (.pointer (some ⟨yb, yo + i * 3, none⟩)) (fuel := 31) rfl (by kernel_rfl) (by kernel_rfl) (by kernel_rfl) (by kernel_rfl) noPanic_false (by kernel_rfl) (fun W _ => x_ix22 (n := n) (c := cb) (x := .tmp 22) (y := .tmp 23) (by kernel_rfl) (by kernel_rfl) (by kernel_rfl) HLT.out) hS0 ?_
              refine tk 8 25 (.pointer (some ⟨yb, yo + i * 3, none⟩)) (fuel := 30) rfl (by kernel_rfl) (by kernel_rfl) (by kernel_rfl) (by kernel_rfl) noPanic_false (by kernel_rfl) (fun _ _ => by kernel_rfl) hS0 ?_
              refine tk 9 26 (.string (strOf y.nm)) (fuel := 29) rfl (by kernel_rfl) (by kernel_rfl) (by kernel_rfl) (by kernel_rfl) noPanic_false (by kernel_rfl) (fun W hW => x_loadT (x := .tmp 25) (t := 9) (g := yb) (j := yo + i * 3 + 0) Try.underlying9 rfl (by kernel_rfl) (by kernel_rfl) (range_after HY.out hW 0 _ rfl)) hS0 ?_
              refine tk 10 27 (.bool false) (fuel := 28) rfl (by kernel_rfl) (by kernel_rfl) (by kernel_rfl) (by kernel_rfl) noPanic_false (by kernel_rfl) (fun W _ => (x_ne9 (s := x.nm) (t := y.nm) (x := .tmp 21) (y := .tmp 26) (by kernel_rfl) (by kernel_rfl) (by kernel_rfl)).trans (by rw [HD1.out]; rfl)) hS0 ?_
              refine tk 11 28 (.bool false) (fuel := 27) rfl (by kernel_rfl) (by kernel_rfl) (by kernel_rfl) (by kernel_rfl) noPanic_false (by kernel_rfl) (fun _ _ => by kernel_rfl) hS0 ?_
              refine tk 12 29 (.slice (some ⟨xb, xo, none⟩) n ca) (fuel := 26) rfl (by kernel_rfl) (by kernel_rfl) (by kernel_rfl) (by kernel_rfl) noPanic_false (by kernel_rfl) (fun _ _ => by kernel_rfl) hS0 ?_
              refine tk 13 30 (.int .i64 (i : Int)) (fuel := 25) rfl (by kernel_rfl) (by kernel_rfl) (by kernel_rfl) (by kernel_rfl) noPanic_false (by kernel_rfl) (fun _ _ => by kernel_rfl) hS0 ?_
              refine tk 14 31 (.pointer (some ⟨xb, xo + i * 3, none⟩)) (fuel := 24) rfl (by kernel_rfl) (by kernel_rfl) (by kernel_rfl) (by kernel_rfl) noPanic_false (by kernel_rfl) (fun W _ => x_ix22 (n := n) (c := ca) (x := .tmp 29) (y := .tmp 30) (by kernel_rfl) (by kernel_rfl) (by kernel_rfl) HLT.out) hS0 ?_
              refine tk 15 32 (.pointer (some ⟨xb, xo + i * 3 + 1, none⟩)) (fuel := 23) rfl (by kernel_rfl) (by kernel_rfl) (by kernel_rfl) (by kernel_rfl) noPanic_false (by kernel_rfl) (fun _ _ => by kernel_rfl) hS0 ?_
              refine tk 16 33 (.slice x.ba k x.bc) (fuel := 22) rfl (by kernel_rfl) (by kernel_rfl) (by kernel_rfl) (by kernel_rfl) noPanic_false (by kernel_rfl) (fun W hW => x_loadT (x := .tmp 32) (t := 38) (g := xb) (j := xo + i * 3 + 1) Try.underlying38 rfl (by kernel_rfl) (by kernel_rfl) (range_after HX.out hW 1 _ rfl)) hS0 ?_
              refine tk 17 34 (.slice (some ⟨yb, yo, none⟩) n cb) (fuel := 21) rfl (by kernel_rfl) (by kernel_rfl) (by kernel_rfl) (by kernel_rfl) noPanic_false (by kernel_rfl) (fun _ _ => by kernel_rfl) hS0 ?_
              refine tk 18 35 (.int .i64 (i : Int)) (fuel := 20) rfl (by kernel_rfl) (by kernel_rfl) (by kernel_rfl) (by kernel_rfl) noPanic_false (by kernel_rfl) (fun _ _ => by kernel_rfl) hS0 ?_
              refine tk 19 36 (.pointer (some ⟨yb, yo + i * 3, none⟩)) (fuel := 19) rfl (by kernel_rfl) (by kernel_rfl) (by kernel_rfl) (by kernel_rfl) noPanic_false (by kernel_rfl) (fun W _ => x_ix22 (n := n) (c := cb) (x := .tmp 34) (y := .tmp 35) (by kernel_rfl) (by kernel_rfl) (by kernel_rfl) HLT.out) hS0 ?_
              refine tk 20 37 (.pointer (some ⟨yb, yo + i * 3 + 1, none⟩)) (fuel := 18) rfl (by kernel_rfl) (by kernel_rfl) (by kernel_rfl) (by kernel_rfl) noPanic_false (by kernel_rfl) (fun _ _ => by kernel_rfl) hS0 ?_
              refine tk 21 38 (.slice y.ba q y.bc) (fuel := 17) rfl (by kernel_rfl) (by kernel_rfl) (by kernel_rfl) (by kernel_rfl) noPanic_false (by kernel_rfl) (fun W hW => x_loadT (x := .tmp 37) (t := 38) (g := yb) (j := yo + i * 3 + 1) Try.underlying38 rfl (by kernel_rfl) (by kernel_rfl) (range_after HY.out hW 1 _ rfl)) hS0 ?_
              refine tkCallZ 22 39 25 #[.slice x.ba k x.bc, .slice y.ba q y.bc] (fun v w' => v = .bool true ∧ After wr.drew w') (fuel := 16) rfl (by kernel_rfl) (by kernel_rfl) (by kernel_rfl) (fun _ => by kernel_rfl) ((HC1.out _ (After.drew (After.refl wr))).mono (fun e w' ⟨he, h⟩ => ⟨_, he, by rw [HD2.out], h⟩)) ?_
              intro v1 w1 ⟨hv1, k1⟩
              subst hv1
              have hS1 : After wr w1 := (After.drew (After.refl wr)).trans k1
              clear k1
              refine ⟨hS1, ?_⟩
              refine tk 23 40 (.bool false) (fuel := 15) rfl (by kernel_rfl) (by kernel_rfl) (by kernel_rfl) (by kernel_rfl) noPanic_false (by kernel_rfl) (fun _ _ => by kernel_rfl) hS1 ?_
              refine tk 24 41 (.bool false) (fuel := 14) rfl (by kernel_rfl) (by kernel_rfl) (by kernel_rfl) (by kernel_rfl) noPanic_false (by kernel_rfl) (fun _ _ => by kernel_rfl) hS1 ?_
              refine tk 25 42 (.bool false) (fuel := 13) rfl (by kernel_rfl) (by kernel_rfl) (by kernel_rfl) (by kernel_rfl) noPanic_false (by kernel_rfl) (fun _ _ => by kernel_rfl) hS1 ?_
              refine tk 26 43 (.slice (some ⟨xb, xo, none⟩) n ca) (fuel := 12) rfl (by kernel_rfl) (by kernel_rfl) (by kernel_rfl) (by kernel_rfl) noPanic_false (by kernel_rfl) (fun _ _ => by kernel_rfl) hS1 ?_
              refine tk 27 44 (.int .i64 (i : Int)) (fuel := 11) rfl (by kernel_rfl) (by kernel_rfl) (by kernel_rfl) (by kernel_rfl) noPanic_false (by kernel_rfl) (fun _ _ => by kernel_rfl) hS1 ?_
              refine tk 28 45 (.pointer (some ⟨xb, xo + i * 3, none⟩)) (fuel := 10) rfl (by kernel_rfl) (by kernel_rfl) (by kernel_rfl) (by kernel_rfl) noPanic_false (by kernel_rfl) (fun W _ => x_ix22 (n := n) (c := ca) (x := .tmp 43) (y := .tmp 44) (by kernel_rfl) (by kernel_rfl) (by kernel_rfl) HLT.out) hS1 ?_
              refine tk 29 46 (.pointer (some ⟨xb, xo + i * 3 + 2, none⟩)) (fuel := 9) rfl (by kernel_rfl) (by kernel_rfl) (by kernel_rfl) (by kernel_rfl) noPanic_false (by kernel_rfl) (fun _ _ => by kernel_rfl) hS1 ?_
              refine tk 30 47 (.slice x.a p x.c) (fuel := 8) rfl (by kernel_rfl) (by kernel_rfl) (by kernel_rfl) (by kernel_rfl) noPanic_false (by kernel_rfl) (fun W hW => x_loadT (x := .tmp 46) (t := 39) (g := xb) (j := xo + i * 3 + 2) Try.underlying39 rfl (by kernel_rfl) (by kernel_rfl) (range_after HX.out hW 2 _ rfl)) hS1 ?_
              refine tk 31 48 (.slice (some ⟨yb, yo, none⟩) n cb) (fuel := 7) rfl (by kernel_rfl) (by kernel_rfl) (by kernel_rfl) (by kernel_rfl) noPanic_false (by kernel_rfl) (fun _ _ => by kernel_rfl) hS1 ?_
              refine tk 32 49 (.int .i64 (i : Int)) (fuel := 6) rfl (by kernel_rfl) (by kernel_rfl) (by kernel_rfl) (by kernel_rfl) noPanic_false (by kernel_rfl) (fun _ _ => by kernel_rfl) hS1 ?_
              refine tk 33 50 (.pointer (some ⟨yb, yo + i * 3, none⟩)) (fuel := 5) rfl (by kernel_rfl) (by kernel_rfl) (by kernel_rfl) (by kernel_rfl) noPanic_false (by kernel_rfl) (fun W _ => x_ix22 (n := n) (c := cb) (x := .tmp 48) (y := .tmp 49) (by kernel_rfl) (by kernel_rfl) (by kernel_rfl) HLT.out) hS1 ?_
              refine tk 34 51 (.pointer (some ⟨yb, yo + i * 3 + 2, none⟩)) (fuel := 4) rfl (by kernel_rfl) (by kernel_rfl) (by kernel_rfl) (by kernel_rfl) noPanic_false (by kernel_rfl) (fun _ _ => by kernel_rfl) hS1 ?_
              refine tk 35 52 (.slice y.a r y.c) (fuel := 3) rfl (by kernel_rfl) (by kernel_rfl) (by kernel_rfl) (by kernel_rfl) noPanic_false (by kernel_rfl) (fun W hW => x_loadT (x := .tmp 51) (t := 39) (g := yb) (j := yo + i * 3 + 2) Try.underlying39 rfl (by kernel_rfl) (by kernel_rfl) (range_after HY.out hW 2 _ rfl)) hS1 ?_
              refine tkCallZ 36 53 26 #[.slice x.a p x.c, .slice y.a r y.c] (fun v w' => v = .bool true ∧ After w1 w') (fuel := 2) rfl (by kernel_rfl) (by kernel_rfl) (by kernel_rfl) (fun _ => by kernel_rfl) ((HC2.out _ hS1).mono (fun e w' ⟨he, h⟩ => ⟨_, he, by rw [HD3.out], h⟩)) ?_
              intro v2 w2 ⟨hv2, k2⟩
              subst hv2
              have hS2 : After wr w2 := hS1.trans k2
              clear k2
              refine ⟨hS2, ?_⟩
              refine tk 37 54 (.bool false) (fuel := 1) rfl (by kernel_rfl) (by kernel_rfl) (by kernel_rfl) (by kernel_rfl) noPanic_false (by kernel_rfl) (fun _ _ => by kernel_rfl) hS2 ?_
              refine tk 38 55 (.bool false) (fuel := 0) rfl (by kernel_rfl) (by kernel_rfl) (by kernel_rfl) (by kernel_rfl) noPanic_false (by kernel_rfl) (fun _ _ => by kernel_rfl) hS2 ?_
              refine wpAnyH_done (by kernel_rfl) (NoPanic.normal ?_) _
              have HN : Hid (SmI w (rsof la) (rsof lb) (i + 1) w2) := ⟨HI.out.aft.trans hS2, fun j hj => by
                by_cases e : j = i
                · subst e; rw [HXY.out.1, HXY.out.2, HEQ.out]
                · exact HI.out.pre j (by omega)⟩
              clear hS0 hS1 hS2
              go_simp
              go_wp2
              go_roundw
              case rel => exact ⟨i + 1, by omega, by go_num, HN⟩
              case measure => simp [intOf]; omega
            · have HD3 : Hid (decide (x.l = y.l) = false) := decide_eq_false h3
              have HNE : Hid (¬ rof x = rof y) := fun e => h3 (Prod.mk.inj (Prod.mk.inj e).2).2
              clear h1 h2 h3
              go_wp2
              refine wp_region_noPanic ?_
              refine wp_region_held_drew (S := After wr) (by kernel_rfl) (After.drew (After.refl wr)) ?_
              intro hS0
              refine tk 0 17 (.slice (some ⟨xb, xo, none⟩) n ca) (fuel := 38) rfl (by kernel_rfl) (by kernel_rfl) (by kernel_rfl) (by kernel_rfl) noPanic_false (by kernel_rfl) (fun _ _ => by kernel_rfl) hS0 ?_
              refine tk 1 18 (.int .i64 (i : Int)) (fuel := 37) rfl (by kernel_rfl) (by kernel_rfl) (by kernel_rfl) (by kernel_rfl) noPanic_false (by kernel_rfl) (fun _ _ => by kernel_rfl) hS0 ?_
              refine tk 2 19 (.pointer (some ⟨xb, xo + i * 3, none⟩)) (fuel := 36) rfl (by kernel_rfl) (by kernel_rfl) (by kernel_rfl) (by kernel_rfl) noPanic_false (by kernel_rfl) (fun W _ => x_ix22 (n := n) (c := ca) (x := .tmp 17) (y := .tmp 18) (by kernel_rfl) (by kernel_rfl) (by kernel_rfl) HLT.out) hS0 ?_
              refine tk 3 20 (.pointer (some ⟨xb, xo + i * 3, none⟩)) (fuel := 35) rfl (by kernel_rfl) (by kernel_rfl) (by kernel_rfl) (by kernel_rfl) noPanic_false (by kernel_rfl) (fun _ _ => by kernel_rfl) hS0 ?_
              refine tk 4 21 (.string (strOf x.nm)) (fuel := 34) rfl (by kernel_rfl) (by kernel_rfl) (by kernel_rfl) (by kernel_rfl) noPanic_false (by kernel_rfl) (fun W hW => x_loadT (x := .tmp 20) (t := 9) (g := xb) (j := xo + i * 3 + 0) Try.underlying9 rfl (by kernel_rfl) (by kernel_rfl) (range_after HX.out hW 0 _ rfl)) hS0 ?_
              refine tk 5 22 (.slice (some ⟨yb, yo, none⟩) n cb) (fuel := 33) rfl (by kernel_rfl) (by kernel_rfl) (by kernel_rfl) (by kernel_rfl) noPanic_false (by kernel_rfl) (fun _ _ => by kernel_rfl) hS0 ?_
              refine tk 6 23 (.int .i64 (i : Int)) (fuel := 32) rfl (by kernel_rfl) (by kernel_rfl) (by kernel_rfl) (by kernel_rfl) noPanic_false (by kernel_rfl) (fun _ _ => by kernel_rfl) hS0 ?_
              refine tk 7 24 (.pointer (some ⟨yb, yo + i * 3, none⟩)) (fuel := 31) rfl (by kernel_rfl) (by kernel_rfl) (by kernel_rfl) (by kernel_rfl) noPanic_false (by kernel_rfl) (fun W _ => x_ix22 (n := n) (c := cb) (x := .tmp 22) (y := .tmp 23) (by kernel_rfl) (by kernel_rfl) (by kernel_rfl) HLT.out) hS0 ?_
              refine tk 8 25 (.pointer (some ⟨yb, yo + i * 3, none⟩)) (fuel := 30) rfl (by kernel_rfl) (by kernel_rfl) (by kernel_rfl) (by kernel_rfl) noPanic_false (by kernel_rfl) (fun _ _ => by kernel_rfl) hS0 ?_
              refine tk 9 26 (.string (strOf y.nm)) (fuel := 29) rfl (by kernel_rfl) (by kernel_rfl) (by kernel_rfl) (by kernel_rfl) noPanic_false (by kernel_rfl) (fun W hW => x_loadT (x := .tmp 25) (t := 9) (g := yb) (j := yo + i * 3 + 0) Try.underlying9 rfl (by kernel_rfl) (by kernel_rfl) (range_after HY.out hW 0 _ rfl)) hS0 ?_
              refine tk 10 27 (.bool false) (fuel := 28) rfl (by kernel_rfl) (by kernel_rfl) (by kernel_rfl) (by kernel_rfl) noPanic_false (by kernel_rfl) (fun W _ => (x_ne9 (s := x.nm) (t := y.nm) (x := .tmp 21) (y := .tmp 26) (by kernel_rfl) (by kernel_rfl) (by kernel_rfl)).trans (by rw [HD1.out]; rfl)) hS0 ?_
              refine tk 11 28 (.bool false) (fuel := 27) rfl (by kernel_rfl) (by kernel_rfl) (by kernel_rfl) (by kernel_rfl) noPanic_false (by kernel_rfl) (fun _ _ => by kernel_rfl) hS0 ?_
              refine tk 12 29 (.slice (some ⟨xb, xo, none⟩) n ca) (fuel := 26) rfl (by kernel_rfl) (by kernel_rfl) (by kernel_rfl) (by kernel_rfl) noPanic_false (by kernel_rfl) (fun _ _ => by kernel_rfl) hS0 ?_
              refine tk 13 30 (.int .i64 (i : Int)) (fuel := 25) rfl (by kernel_rfl) (by kernel_rfl) (by kernel_rfl) (by kernel_rfl) noPanic_false (by kernel_rfl) (fun _ _ => by kernel_rfl) hS0 ?_
              refine tk 14 31 (.pointer (some ⟨xb, xo + i * 3, none⟩)) (fuel := 24) rfl (by kernel_rfl) (by kernel_rfl) (by kernel_rfl) (by kernel_rfl) noPanic_false (by kernel_rfl) (fun W _ => x_ix22 (n := n) (c := ca) (x := .tmp 29) (y := .tmp 30) (by kernel_rfl) (by kernel_rfl) (by kernel_rfl) HLT.out) hS0 ?_
              refine tk 15 32 (.pointer (some ⟨xb, xo + i * 3 + 1, none⟩)) (fuel := 23) rfl (by kernel_rfl) (by kernel_rfl) (by kernel_rfl) (by kernel_rfl) noPanic_false (by kernel_rfl) (fun _ _ => by kernel_rfl) hS0 ?_
              refine tk 16 33 (.slice x.ba k x.bc) (fuel := 22) rfl (by kernel_rfl) (by kernel_rfl) (by kernel_rfl) (by kernel_rfl) noPanic_false (by kernel_rfl) (fun W hW => x_loadT (x := .tmp 32) (t := 38) (g := xb) (j := xo + i * 3 + 1) Try.underlying38 rfl (by kernel_rfl) (by kernel_rfl) (range_after HX.out hW 1 _ rfl)) hS0 ?_
              refine tk 17 34 (.slice (some ⟨yb, yo, none⟩) n cb) (fuel := 21) rfl (by kernel_rfl) (by kernel_rfl) (by kernel_rfl) (by kernel_rfl) noPanic_false (by kernel_rfl) (fun _ _ => by kernel_rfl) hS0 ?_
              refine tk 18 35 (.int .i64 (i : Int)) (fuel := 20) rfl (by kernel_rfl) (by kernel_rfl) (by kernel_rfl) (by kernel_rfl) noPanic_false (by kernel_rfl) (fun _ _ => by kernel_rfl) hS0 ?_
              refine tk 19 36 (.pointer (some ⟨yb, yo + i * 3, none⟩)) (fuel := 19) rfl (by kernel_rfl) (by kernel_rfl) (by kernel_rfl) (by kernel_rfl) noPanic_false (by kernel_rfl) (fun W _ => x_ix22 (n := n) (c := cb) (x := .tmp 34) (y := .tmp 35) (by kernel_rfl) (by kernel_rfl) (by kernel_rfl) HLT.out) hS0 ?_
              refine tk 20 37 (.pointer (some ⟨yb, yo + i * 3 + 1, none⟩)) (fuel := 18) rfl (by kernel_rfl) (by kernel_rfl) (by kernel_rfl) (by kernel_rfl) noPanic_false (by kernel_rfl) (fun _ _ => by kernel_rfl) hS0 ?_
              refine tk 21 38 (.slice y.ba q y.bc) (fuel := 17) rfl (by kernel_rfl) (by kernel_rfl) (by kernel_rfl) (by kernel_rfl) noPanic_false (by kernel_rfl) (fun W hW => x_loadT (x := .tmp 37) (t := 38) (g := yb) (j := yo + i * 3 + 1) Try.underlying38 rfl (by kernel_rfl) (by kernel_rfl) (range_after HY.out hW 1 _ rfl)) hS0 ?_
              refine tkCallZ 22 39 25 #[.slice x.ba k x.bc, .slice y.ba q y.bc] (fun v w' => v = .bool true ∧ After wr.drew w') (fuel := 16) rfl (by kernel_rfl) (by kernel_rfl) (by kernel_rfl) (fun _ => by kernel_rfl) ((HC1.out _ (After.drew (After.refl wr))).mono (fun e w' ⟨he, h⟩ => ⟨_, he, by rw [HD2.out], h⟩)) ?_
              intro v1 w1 ⟨hv1, k1⟩
              subst hv1
              have hS1 : After wr w1 := (After.drew (After.refl wr)).trans k1
              clear k1
              refine ⟨hS1, ?_⟩
              refine tk 23 40 (.bool false) (fuel := 15) rfl (by kernel_rfl) (by kernel_rfl) (by kernel_rfl) (by kernel_rfl) noPanic_false (by kernel_rfl) (fun _ _ => by kernel_rfl) hS1 ?_
              refine tk 24 41 (.bool false) (fuel := 14) rfl (by kernel_rfl) (by kernel_rfl) (by kernel_rfl) (by kernel_rfl) noPanic_false (by kernel_rfl) (fun _ _ => by kernel_rfl) hS1 ?_
              refine tk 25 42 (.bool false) (fuel := 13) rfl (by kernel_rfl) (by kernel_rfl) (by kernel_rfl) (by kernel_rfl) noPanic_false (by kernel_rfl) (fun _ _ => by kernel_rfl) hS1 ?_
              refine tk 26 43 (.slice (some ⟨xb, xo, none⟩) n ca) (fuel := 12) rfl (by kernel_rfl) (by kernel_rfl) (by kernel_rfl) (by kernel_rfl) noPanic_false (by kernel_rfl) (fun _ _ => by kernel_rfl) hS1 ?_
              refine tk 27 44 (.int .i64 (i : Int)) (fuel := 11) rfl (by kernel_rfl) (by kernel_rfl) (by kernel_rfl) (by kernel_rfl) noPanic_false (by kernel_rfl) (fun _ _ => by kernel_rfl) hS1 ?_
              refine tk 28 45 (.pointer (some ⟨xb, xo + i * 3, none⟩)) (fuel := 10) rfl (by kernel_rfl) (by kernel_rfl) (by kernel_rfl) (by kernel_rfl) noPanic_false (by kernel_rfl) (fun W _ => x_ix22 (n := n) (c := ca) (x := .tmp 43) (y := .tmp 44) (by kernel_rfl) (by kernel_rfl) (by kernel_rfl) HLT.out) hS1 ?_
              refine tk 29 46 (.pointer (some ⟨xb, xo + i * 3 + 2, none⟩)) (fuel := 9) rfl (by kernel_rfl) (by kernel_rfl) (by kernel_rfl) (by kernel_rfl) noPanic_false (by kernel_rfl) (fun _ _ => by kernel_rfl) hS1 ?_
              refine tk 30 47 (.slice x.a p x.c) (fuel := 8) rfl (by kernel_rfl) (by kernel_rfl) (by kernel_rfl) (by kernel_rfl) noPanic_false (by kernel_rfl) (fun W hW => x_loadT (x := .tmp 46) (t := 39) (g := xb) (j := xo + i * 3 + 2) Try.underlying39 rfl (by kernel_rfl) (by kernel_rfl) (range_after HX.out hW 2 _ rfl)) hS1 ?_
              refine tk 31 48 (.slice (some ⟨yb, yo, none⟩) n cb) (fuel := 7) rfl (by kernel_rfl) (by kernel_rfl) (by kernel_rfl) (by kernel_rfl) noPanic_false (by kernel_rfl) (fun _ _ => by kernel_rfl) hS1 ?_
              refine tk 32 49 (.int .i64 (i : Int)) (fuel := 6) rfl (by kernel_rfl) (by kernel_rfl) (by kernel_rfl) (by kernel_rfl) noPanic_false (by kernel_rfl) (fun _ _ => by kernel_rfl) hS1 ?_
              refine tk 33 50 (.pointer (some ⟨yb, yo + i * 3, none⟩)) (fuel := 5) rfl (by kernel_rfl) (by kernel_rfl) (by kernel_rfl) (by kernel_rfl) noPanic_false (by kernel_rfl) (fun W _ => x_ix22 (n := n) (c := cb) (x := .tmp 48) (y := .tmp 49) (by kernel_rfl) (by kernel_rfl) (by kernel_rfl) HLT.out) hS1 ?_
              refine tk 34 51 (.pointer (some ⟨yb, yo + i * 3 + 2, none⟩)) (fuel := 4) rfl (by kernel_rfl) (by kernel_rfl) (by kernel_rfl) (by kernel_rfl) noPanic_false (by kernel_rfl) (fun _ _ => by kernel_rfl) hS1 ?_
              refine tk 35 52 (.slice y.a r y.c) (fuel := 3) rfl (by kernel_rfl) (by kernel_rfl) (by kernel_rfl) (by kernel_rfl) noPanic_false (by kernel_rfl) (fun W hW => x_loadT (x := .tmp 51) (t := 39) (g := yb) (j := yo + i * 3 + 2) Try.underlying39 rfl (by kernel_rfl) (by kernel_rfl) (range_after HY.out hW 2 _ rfl)) hS1 ?_
              refine tkCallZ 36 53 26 #[.slice x.a p x.c, .slice y.a r y.c] (fun v w' => v = .bool false ∧ After w1 w') (fuel := 2) rfl (by kernel_rfl) (by kernel_rfl) (by kernel_rfl) (fun _ => by kernel_rfl) ((HC2.out _ hS1).mono (fun e w' ⟨he, h⟩ => ⟨_, he, by rw [HD3.out], h⟩)) ?_
              intro v2 w2 ⟨hv2, k2⟩
              subst hv2
              have hS2 : After wr w2 := hS1.trans k2
              clear k2
              refine ⟨hS2, ?_⟩
              refine tk 37 54 (.bool true) (fuel := 1) rfl (by kernel_rfl) (by kernel_rfl) (by kernel_rfl) (by kernel_rfl) noPanic_false (by kernel_rfl) (fun _ _ => by kernel_rfl) hS2 ?_
              refine tk 38 55 (.bool true) (fuel := 0) rfl (by kernel_rfl) (by kernel_rfl) (by kernel_rfl) (by kernel_rfl) noPanic_false (by kernel_rfl) (fun _ _ => by kernel_rfl) hS2 ?_
              refine wpAnyH_done (by kernel_rfl) (NoPanic.normal ?_) _
              have HN : Hid (After w _) := HI.out.aft.trans (hS2)
              have HNL : Hid (¬ rsof la = rsof lb) := fun e => by have h1 := HXY.out; rw [e] at h1; exact HNE.out (Option.some.inj (h1.1.symm.trans h1.2))
              clear hS0
              go_simp
              go_wp2
              refine bodyPost_ret (v := .bool false) (by simp [results, Try.results13, go_sem]) rfl ⟨by rw [decide_eq_false HNL.out], HN.out⟩
          · have HD2 : Hid (decide (bof x.X = bof y.X) = false) := decide_eq_false h2
            have HNE : Hid (¬ rof x = rof y) := fun e => h2 (Prod.mk.inj (Prod.mk.inj e).2).1
            clear h1 h2
            go_wp2
            refine wp_region_noPanic ?_
            refine wp_region_held_drew (S := After wr) (by kernel_rfl) (After.drew (After.refl wr)) ?_
            intro hS0
            refine tk 0 17 (.slice (some ⟨xb, xo, none⟩) n ca) (fuel := 38) rfl (by kernel_rfl) (by kernel_rfl) (by kernel_rfl) (by kernel_rfl) noPanic_false (by kernel_rfl) (fun _ _ => by kernel_rfl) hS0 ?_
            refine tk 1 18 (.int .i64 (i : Int)) (fuel := 37) rfl (by kernel_rfl) (by kernel_rfl) (by kernel_rfl) (by kernel_rfl) noPanic_false (by kernel_rfl) (fun _ _ => by kernel_rfl) hS0 ?_
            refine tk 2 19 (.pointer (some ⟨xb, xo + i * 3, none⟩)) (fuel := 36) rfl (by kernel_rfl) (by kernel_rfl) (by kernel_rfl) (by kernel_rfl) noPanic_false (by kernel_rfl) (fun W _ => x_ix22 (n := n) (c := ca) (x := .tmp 17) (y := .tmp 18) (by kernel_rfl) (by kernel_rfl) (by kernel_rfl) HLT.out) hS0 ?_
            refine tk 3 20 (.pointer (some ⟨xb, xo + i * 3, none⟩)) (fuel := 35) rfl (by kernel_rfl) (by kernel_rfl) (by kernel_rfl) (by kernel_rfl) noPanic_false (by kernel_rfl) (fun _ _ => by kernel_rfl) hS0 ?_
            refine tk 4 21 (.string (strOf x.nm)) (fuel := 34) rfl (by kernel_rfl) (by kernel_rfl) (by kernel_rfl) (by kernel_rfl) noPanic_false (by kernel_rfl) (fun W hW => x_loadT (x := .tmp 20) (t := 9) (g := xb) (j := xo + i * 3 + 0) Try.underlying9 rfl (by kernel_rfl) (by kernel_rfl) (range_after HX.out hW 0 _ rfl)) hS0 ?_
            refine tk 5 22 (.slice (some ⟨yb, yo, none⟩) n cb) (fuel := 33) rfl (by kernel_rfl) (by kernel_rfl) (by kernel_rfl) (by kernel_rfl) noPanic_false (by kernel_rfl) (fun _ _ => by kernel_rfl) hS0 ?_
            refine tk 6 23 (.int .i64 (i : Int)) (fuel := 32) rfl (by kernel_rfl) (by kernel_rfl) (by kernel_rfl) (by kernel_rfl) noPanic_false (by kernel_rfl) (fun _ _ => by kernel_rfl) hS0 ?_
            refine tk 7 24 (.pointer (some ⟨yb, yo + i * 3, none⟩)) (fuel := 31) rfl (by kernel_rfl) (by kernel_rfl) (by kernel_rfl) (by kernel_rfl) noPanic_false (by kernel_rfl) (fun W _ => x_ix22 (n := n) (c := cb) (x := .tmp 22) (y := .tmp 23) (by kernel_rfl) (by kernel_rfl) (by kernel_rfl) HLT.out) hS0 ?_
            refine tk 8 25 (.pointer (some ⟨yb, yo + i * 3, none⟩)) (fuel := 30) rfl (by kernel_rfl) (by kernel_rfl) (by kernel_rfl) (by kernel_rfl) noPanic_false (by kernel_rfl) (fun _ _ => by kernel_rfl) hS0 ?_
            refine tk 9 26 (.string (strOf y.nm)) (fuel := 29) rfl (by kernel_rfl) (by kernel_rfl) (by kernel_rfl) (by kernel_rfl) noPanic_false (by kernel_rfl) (fun W hW => x_loadT (x := .tmp 25) (t := 9) (g := yb) (j := yo + i * 3 + 0) Try.underlying9 rfl (by kernel_rfl) (by kernel_rfl) (range_after HY.out hW 0 _ rfl)) hS0 ?_
            refine tk 10 27 (.bool false) (fuel := 28) rfl (by kernel_rfl) (by kernel_rfl) (by kernel_rfl) (by kernel_rfl) noPanic_false (by kernel_rfl) (fun W _ => (x_ne9 (s := x.nm) (t := y.nm) (x := .tmp 21) (y := .tmp 26) (by kernel_rfl) (by kernel_rfl) (by kernel_rfl)).trans (by rw [HD1.out]; rfl)) hS0 ?_
            refine tk 11 28 (.bool false) (fuel := 27) rfl (by kernel_rfl) (by kernel_rfl) (by kernel_rfl) (by kernel_rfl) noPanic_false (by kernel_rfl) (fun _ _ => by kernel_rfl) hS0 ?_
            refine tk 12 29 (.slice (some ⟨xb, xo, none⟩) n ca) (fuel := 26) rfl (by kernel_rfl) (by kernel_rfl) (by kernel_rfl) (by kernel_rfl) noPanic_false (by kernel_rfl) (fun _ _ => by kernel_rfl) hS0 ?_
            refine tk 13 30 (.int .i64 (i : Int)) (fuel := 25) rfl (by kernel_rfl) (by kernel_rfl) (by kernel_rfl) (by kernel_rfl) noPanic_false (by kernel_rfl) (fun _ _ => by kernel_rfl) hS0 ?_
            refine tk 14 31 (.pointer (some ⟨xb, xo + i * 3, none⟩)) (fuel := 24) rfl (by kernel_rfl) (by kernel_rfl) (by kernel_rfl) (by kernel_rfl) noPanic_false (by kernel_rfl) (fun W _ => x_ix22 (n := n) (c := ca) (x := .tmp 29) (y := .tmp 30) (by kernel_rfl) (by kernel_rfl) (by kernel_rfl) HLT.out) hS0 ?_
            refine tk 15 32 (.pointer (some ⟨xb, xo + i * 3 + 1, none⟩)) (fuel := 23) rfl (by kernel_rfl) (by kernel_rfl) (by kernel_rfl) (by kernel_rfl) noPanic_false (by kernel_rfl) (fun _ _ => by kernel_rfl) hS0 ?_
            refine tk 16 33 (.slice x.ba k x.bc) (fuel := 22) rfl (by kernel_rfl) (by kernel_rfl) (by kernel_rfl) (by kernel_rfl) noPanic_false (by kernel_rfl) (fun W hW => x_loadT (x := .tmp 32) (t := 38) (g := xb) (j := xo + i * 3 + 1) Try.underlying38 rfl (by kernel_rfl) (by kernel_rfl) (range_after HX.out hW 1 _ rfl)) hS0 ?_
            refine tk 17 34 (.slice (some ⟨yb, yo, none⟩) n cb) (fuel := 21) rfl (by kernel_rfl) (by kernel_rfl) (by kernel_rfl) (by kernel_rfl) noPanic_false (by kernel_rfl) (fun _ _ => by kernel_rfl) hS0 ?_
            refine tk 18 35 (.int .i64 (i : Int)) (fuel := 20) rfl (by kernel_rfl) (by kernel_rfl) (by kernel_rfl) (by kernel_rfl) noPanic_false (by kernel_rfl) (fun _ _ => by kernel_rfl) hS0 ?_
            refine tk 19 36 (.pointer (some ⟨yb, yo + i * 3, none⟩)) (fuel := 19) rfl (by kernel_rfl) (by kernel_rfl) (by kernel_rfl) (by kernel_rfl) noPanic_false (by kernel_rfl) (fun W _ => x_ix22 (n := n) (c := cb) (x := .tmp 34) (y := .tmp 35) (by kernel_rfl) (by kernel_rfl) (by kernel_rfl) HLT.out) hS0 ?_
            refine tk 20 37 (.pointer (some ⟨yb, yo + i * 3 + 1, none⟩)) (fuel := 18) rfl (by kernel_rfl) (by kernel_rfl) (by kernel_rfl) (by kernel_rfl) noPanic_false (by kernel_rfl) (fun _ _ => by kernel_rfl) hS0 ?_
            refine tk 21 38 (.slice y.ba q y.bc) (fuel := 17) rfl (by kernel_rfl) (by kernel_rfl) (by kernel_rfl) (by kernel_rfl) noPanic_false (by kernel_rfl) (fun W hW => x_loadT (x := .tmp 37) (t := 38) (g := yb) (j := yo + i * 3 + 1) Try.underlying38 rfl (by kernel_rfl) (by kernel_rfl) (range_after HY.out hW 1 _ rfl)) hS0 ?_
            refine tkCallZ 22 39 25 #[.slice x.ba k x.bc, .slice y.ba q y.bc] (fun v w' => v = .bool false ∧ After wr.drew w') (fuel := 16) rfl (by kernel_rfl) (by kernel_rfl) (by kernel_rfl) (fun _ => by kernel_rfl) ((HC1.out _ (After.drew (After.refl wr))).mono (fun e w' ⟨he, h⟩ => ⟨_, he, by rw [HD2.out], h⟩)) ?_
            intro v1 w1 ⟨hv1, k1⟩
            subst hv1
            have hS1 : After wr w1 := (After.drew (After.refl wr)).trans k1
            clear k1
            refine ⟨hS1, ?_⟩
            refine tk 23 40 (.bool true) (fuel := 15) rfl (by kernel_rfl) (by kernel_rfl) (by kernel_rfl) (by kernel_rfl) noPanic_false (by kernel_rfl) (fun _ _ => by kernel_rfl) hS1 ?_
            refine tk 24 41 (.bool true) (fuel := 14) rfl (by kernel_rfl) (by kernel_rfl) (by kernel_rfl) (by kernel_rfl) noPanic_false (by kernel_rfl) (fun _ _ => by kernel_rfl) hS1 ?_
            refine tk 25 42 (.bool true) (fuel := 13) rfl (by kernel_rfl) (by kernel_rfl) (by kernel_rfl) (by kernel_rfl) noPanic_false (by kernel_rfl) (fun _ _ => by kernel_rfl) hS1 ?_
            refine tkSkip 26 43 (fuel := 12) rfl (by kernel_rfl) (by kernel_rfl) (by kernel_rfl) (by kernel_rfl) noPanic_false (by kernel_rfl) hS1 ?_
            refine tkSkip 27 44 (fuel := 11) rfl (by kernel_rfl) (by kernel_rfl) (by kernel_rfl) (by kernel_rfl) noPanic_false (by kernel_rfl) hS1 ?_
            refine tkSkip 28 45 (fuel := 10) rfl (by kernel_rfl) (by kernel_rfl) (by kernel_rfl) (by kernel_rfl) noPanic_false (by kernel_rfl) hS1 ?_
            refine tkSkip 29 46 (fuel := 9) rfl (by kernel_rfl) (by kernel_rfl) (by kernel_rfl) (by kernel_rfl) noPanic_false (by kernel_rfl) hS1 ?_
            refine tkSkip 30 47 (fuel := 8) rfl (by kernel_rfl) (by kernel_rfl) (by kernel_rfl) (by kernel_rfl) noPanic_false (by kernel_rfl) hS1 ?_
            refine tkSkip 31 48 (fuel := 7) rfl (by kernel_rfl) (by kernel_rfl) (by kernel_rfl) (by kernel_rfl) noPanic_false (by kernel_rfl) hS1 ?_
            refine tkSkip 32 49 (fuel := 6) rfl (by kernel_rfl) (by kernel_rfl) (by kernel_rfl) (by kernel_rfl) noPanic_false (by kernel_rfl) hS1 ?_
            refine tkSkip 33 50 (fuel := 5) rfl (by kernel_rfl) (by kernel_rfl) (by kernel_rfl) (by kernel_rfl) noPanic_false (by kernel_rfl) hS1 ?_
            refine tkSkip 34 51 (fuel := 4) rfl (by kernel_rfl) (by kernel_rfl) (by kernel_rfl) (by kernel_rfl) noPanic_false (by kernel_rfl) hS1 ?_
            refine tkSkip 35 52 (fuel := 3) rfl (by kernel_rfl) (by kernel_rfl) (by kernel_rfl) (by kernel_rfl) noPanic_false (by kernel_rfl) hS1 ?_
            refine tkSkip 36 53 (fuel := 2) rfl (by kernel_rfl) (by kernel_rfl) (by kernel_rfl) (by kernel_rfl) noPanic_false (by kernel_rfl) hS1 ?_
            refine tkSkip 37 54 (fuel := 1) rfl (by kernel_rfl) (by kernel_rfl) (by kernel_rfl) (by kernel_rfl) noPanic_false (by kernel_rfl) hS1 ?_
            refine tk 38 55 (.bool true) (fuel := 0) rfl (by kernel_rfl) (by kernel_rfl) (by kernel_rfl) (by kernel_rfl) noPanic_false (by kernel_rfl) (fun _ _ => by kernel_rfl) hS1 ?_
            refine wpAnyH_done (by kernel_rfl) (NoPanic.normal ?_) _
            have HN : Hid (After w _) := HI.out.aft.trans (hS1)
            have HNL : Hid (¬ rsof la = rsof lb) := fun e => by have h1 := HXY.out; rw [e] at h1; exact HNE.out (Option.some.inj (h1.1.symm.trans h1.2))
            clear hS0
            go_simp
            go_wp2
            refine bodyPost_ret (v := .bool false) (by simp [results, Try.results13, go_sem]) rfl ⟨by rw [decide_eq_false HNL.out], HN.out⟩
        · have HD1 : Hid (decide (x.nm = y.nm) = false) := decide_eq_false h1
          have HNE : Hid (¬ rof x = rof y) := fun e => h1 (Prod.mk.inj e).1
          clear h1
          go_wp2
          refine wp_region_noPanic ?_
          refine wp_region_held_drew (S := After wr) (by kernel_rfl) (After.drew (After.refl wr)) ?_
          intro hS0
          refine tk 0 17 (.slice (some ⟨xb, xo, none⟩) n ca) (fuel := 38) rfl (by kernel_rfl) (by kernel_rfl) (by kernel_rfl) (by kernel_rfl) noPanic_false (by kernel_rfl) (fun _ _ => by kernel_rfl) hS0 ?_
          refine tk 1 18 (.int .i64 (i : Int)) (fuel := 37) rfl (by kernel_rfl) (by kernel_rfl) (by kernel_rfl) (by kernel_rfl) noPanic_false (by kernel_rfl) (fun _ _ => by kernel_rfl) hS0 ?_
          refine tk 2 19 (.pointer (some ⟨xb, xo + i * 3, none⟩)) (fuel := 36) rfl (by kernel_rfl) (by kernel_rfl) (by kernel_rfl) (by kernel_rfl) noPanic_false (by kernel_rfl) (fun W _ => x_ix22 (n := n) (c := ca) (x := .tmp 17) (y := .tmp 18) (by kernel_rfl) (by kernel_rfl) (by kernel_rfl) HLT.out) hS0 ?_
          refine tk 3 20 (.pointer (some ⟨xb, xo + i * 3, none⟩)) (fuel := 35) rfl (by kernel_rfl) (by kernel_rfl) (by kernel_rfl) (by kernel_rfl) noPanic_false (by kernel_rfl) (fun _ _ => by kernel_rfl) hS0 ?_
          refine tk 4 21 (.string (strOf x.nm)) (fuel := 34) rfl (by kernel_rfl) (by kernel_rfl) (by kernel_rfl) (by kernel_rfl) noPanic_false (by kernel_rfl) (fun W hW => x_loadT (x := .tmp 20) (t := 9) (g := xb) (j := xo + i * 3 + 0) Try.underlying9 rfl (by kernel_rfl) (by kernel_rfl) (range_after HX.out hW 0 _ rfl)) hS0 ?_
          refine tk 5 22 (.slice (some ⟨yb, yo, none⟩) n cb) (fuel := 33) rfl (by kernel_rfl) (by kernel_rfl) (by kernel_rfl) (by kernel_rfl) noPanic_false (by kernel_rfl) (fun _ _ => by kernel_rfl) hS0 ?_
          refine tk 6 23 (.int .i64 (i : Int)) (fuel := 32) rfl (by kernel_rfl) (by kernel_rfl) (by kernel_rfl) (by kernel_rfl) noPanic_false (by kernel_rfl) (fun _ _ => by kernel_rfl) hS0 ?_
          refine tk 7 24 (.pointer (some ⟨yb, yo + i * 3, none⟩)) (fuel := 31) rfl (by kernel_rfl) (by kernel_rfl) (by kernel_rfl) (by kernel_rfl) noPanic_false (by kernel_rfl) (fun W _ => x_ix22 (n := n) (c := cb) (x := .tmp 22) (y := .tmp 23) (by kernel_rfl) (by kernel_rfl) (by kernel_rfl) HLT.out) hS0 ?_
          refine tk 8 25 (.pointer (some ⟨yb, yo + i * 3, none⟩)) (fuel := 30) rfl (by kernel_rfl) (by kernel_rfl) (by kernel_rfl) (by kernel_rfl) noPanic_false (by kernel_rfl) (fun _ _ => by kernel_rfl) hS0 ?_
          refine tk 9 26 (.string (strOf y.nm)) (fuel := 29) rfl (by kernel_rfl) (by kernel_rfl) (by kernel_rfl) (by kernel_rfl) noPanic_false (by kernel_rfl) (fun W hW => x_loadT (x := .tmp 25) (t := 9) (g := yb) (j := yo + i * 3 + 0) Try.underlying9 rfl (by kernel_rfl) (by kernel_rfl) (range_after HY.out hW 0 _ rfl)) hS0 ?_
          refine tk 10 27 (.bool true) (fuel := 28) rfl (by kernel_rfl) (by kernel_rfl) (by kernel_rfl) (by kernel_rfl) noPanic_false (by kernel_rfl) (fun W _ => (x_ne9 (s := x.nm) (t := y.nm) (x := .tmp 21) (y := .tmp 26) (by kernel_rfl) (by kernel_rfl) (by kernel_rfl)).trans (by rw [HD1.out]; rfl)) hS0 ?_
          refine tk 11 28 (.bool true) (fuel := 27) rfl (by kernel_rfl) (by kernel_rfl) (by kernel_rfl) (by kernel_rfl) noPanic_false (by kernel_rfl) (fun _ _ => by kernel_rfl) hS0 ?_
          refine tkSkip 12 29 (fuel := 26) rfl (by kernel_rfl) (by kernel_rfl) (by kernel_rfl) (by kernel_rfl) noPanic_false (by kernel_rfl) hS0 ?_
          refine tkSkip 13 30 (fuel := 25) rfl (by kernel_rfl) (by kernel_rfl) (by kernel_rfl) (by kernel_rfl) noPanic_false (by kernel_rfl) hS0 ?_
          refine tkSkip 14 31 (fuel := 24) rfl (by kernel_rfl) (by kernel_rfl) (by kernel_rfl) (by kernel_rfl) noPanic_false (by kernel_rfl) hS0 ?_
          refine tkSkip 15 32 (fuel := 23) rfl (by kernel_rfl) (by kernel_rfl) (by kernel_rfl) (by kernel_rfl) noPanic_false (by kernel_rfl) hS0 ?_
          refine tkSkip 16 33 (fuel := 22) rfl (by kernel_rfl) (by kernel_rfl) (by kernel_rfl) (by kernel_rfl) noPanic_false (by kernel_rfl) hS0 ?_
          refine tkSkip 17 34 (fuel := 21) rfl (by kernel_rfl) (by kernel_rfl) (by kernel_rfl) (by kernel_rfl) noPanic_false (by kernel_rfl) hS0 ?_
          refine tkSkip 18 35 (fuel := 20) rfl (by kernel_rfl) (by kernel_rfl) (by kernel_rfl) (by kernel_rfl) noPanic_false (by kernel_rfl) hS0 ?_
          refine tkSkip 19 36 (fuel := 19) rfl (by kernel_rfl) (by kernel_rfl) (by kernel_rfl) (by kernel_rfl) noPanic_false (by kernel_rfl) hS0 ?_
          refine tkSkip 20 37 (fuel := 18) rfl (by kernel_rfl) (by kernel_rfl) (by kernel_rfl) (by kernel_rfl) noPanic_false (by kernel_rfl) hS0 ?_
          refine tkSkip 21 38 (fuel := 17) rfl (by kernel_rfl) (by kernel_rfl) (by kernel_rfl) (by kernel_rfl) noPanic_false (by kernel_rfl) hS0 ?_
          refine tkSkip 22 39 (fuel := 16) rfl (by kernel_rfl) (by kernel_rfl) (by kernel_rfl) (by kernel_rfl) noPanic_false (by kernel_rfl) hS0 ?_
          refine tkSkip 23 40 (fuel := 15) rfl (by kernel_rfl) (by kernel_rfl) (by kernel_rfl) (by kernel_rfl) noPanic_false (by kernel_rfl) hS0 ?_
          refine tk 24 41 (.bool true) (fuel := 14) rfl (by kernel_rfl) (by kernel_rfl) (by kernel_rfl) (by kernel_rfl) noPanic_false (by kernel_rfl) (fun _ _ => by kernel_rfl) hS0 ?_
          refine tk 25 42 (.bool true) (fuel := 13) rfl (by kernel_rfl) (by kernel_rfl) (by kernel_rfl) (by kernel_rfl) noPanic_false (by kernel_rfl) (fun _ _ => by kernel_rfl) hS0 ?_
          refine tkSkip 26 43 (fuel := 12) rfl (by kernel_rfl) (by kernel_rfl) (by kernel_rfl) (by kernel_rfl) noPanic_false (by kernel_rfl) hS0 ?_
          refine tkSkip 27 44 (fuel := 11) rfl (by kernel_rfl) (by kernel_rfl) (by kernel_rfl) (by kernel_rfl) noPanic_false (by kernel_rfl) hS0 ?_
          refine tkSkip 28 45 (fuel := 10) rfl (by kernel_rfl) (by kernel_rfl) (by kernel_rfl) (by kernel_rfl) noPanic_false (by kernel_rfl) hS0 ?_
          refine tkSkip 29 46 (fuel := 9) rfl (by kernel_rfl) (by kernel_rfl) (by kernel_rfl) (by kernel_rfl) noPanic_false (by kernel_rfl) hS0 ?_
          refine tkSkip 30 47 (fuel := 8) rfl (by kernel_rfl) (by kernel_rfl) (by kernel_rfl) (by kernel_rfl) noPanic_false (by kernel_rfl) hS0 ?_
          refine tkSkip 31 48 (fuel := 7) rfl (by kernel_rfl) (by kernel_rfl) (by kernel_rfl) (by kernel_rfl) noPanic_false (by kernel_rfl) hS0 ?_
          refine tkSkip 32 49 (fuel := 6) rfl (by kernel_rfl) (by kernel_rfl) (by kernel_rfl) (by kernel_rfl) noPanic_false (by kernel_rfl) hS0 ?_
          refine tkSkip 33 50 (fuel := 5) rfl (by kernel_rfl) (by kernel_rfl) (by kernel_rfl) (by kernel_rfl) noPanic_false (by kernel_rfl) hS0 ?_
          refine tkSkip 34 51 (fuel := 4) rfl (by kernel_rfl) (by kernel_rfl) (by kernel_rfl) (by kernel_rfl) noPanic_false (by kernel_rfl) hS0 ?_
          refine tkSkip 35 52 (fuel := 3) rfl (by kernel_rfl) (by kernel_rfl) (by kernel_rfl) (by kernel_rfl) noPanic_false (by kernel_rfl) hS0 ?_
          refine tkSkip 36 53 (fuel := 2) rfl (by kernel_rfl) (by kernel_rfl) (by kernel_rfl) (by kernel_rfl) noPanic_false (by kernel_rfl) hS0 ?_
          refine tkSkip 37 54 (fuel := 1) rfl (by kernel_rfl) (by kernel_rfl) (by kernel_rfl) (by kernel_rfl) noPanic_false (by kernel_rfl) hS0 ?_
          refine tk 38 55 (.bool true) (fuel := 0) rfl (by kernel_rfl) (by kernel_rfl) (by kernel_rfl) (by kernel_rfl) noPanic_false (by kernel_rfl) (fun _ _ => by kernel_rfl) hS0 ?_
          refine wpAnyH_done (by kernel_rfl) (NoPanic.normal ?_) _
          have HN : Hid (After w _) := HI.out.aft.trans (After.drew (After.refl wr))
          have HNL : Hid (¬ rsof la = rsof lb) := fun e => by have h1 := HXY.out; rw [e] at h1; exact HNE.out (Option.some.inj (h1.1.symm.trans h1.2))
          clear hS0
          go_simp
          go_wp2
          refine bodyPost_ret (v := .bool false) (by simp [results, Try.results13, go_sem]) rfl ⟨by rw [decide_eq_false HNL.out], HN.out⟩
      · have hii : ¬ (i : Int) < (n : Int) := by omega
        have HF : Hid (After w wr ∧ rsof la = rsof lb) := ⟨HI.out.aft, eq_of_pre HFA.out.2.2 HFB.out.2.2 (fun j hj => HI.out.pre j (by omega))⟩
        go_wp2
        refine bodyPost_ret (v := .bool true) (by simp [results, Try.results13, go_sem]) rfl ⟨by rw [decide_eq_true HF.out.2], HF.out.1⟩
  · have hnmi : ¬ (n : Int) = (m : Int) := by omega
    have HNE : Hid (¬ rsof la = rsof lb) := fun e => hnm (by rw [← hpa, ← hpb, e])
    go_enter Try.func13, Try.ntmps13
    go_wp2
    refine bodyPost_ret (v := .bool false) (by simp [results, Try.results13, go_sem]) rfl ⟨by rw [decide_eq_false HNE.out], After.refl w⟩
end Go.Proofs.Ytcmcapcagblafaa

namespace Go.Proofs.Ytcmcapcagblafaa
open Go.RowKit Go.Maps Dsk Leb
attribute [local go_sem] Oper.semAt_some
def awX : Rx := ⟨[97], none, 0, [], none, 0, []⟩
theorem awX_at (w : World) : RxAt w awX := ⟨BsAt.nil _ _, SlAt.nil _ _ _, fun x h => (by cases h), by decide, fun y h => (by cases h), by decide, by decide, fun _ => rfl, fun _ => rfl⟩
theorem aw_ok : MOk (rsof [awX]) := by
  refine ⟨by decide, fun r hr => ?_, fun i p q hp hq => ?_⟩
  · rw [show rsof [awX] = [rof awX] from rfl, List.mem_singleton] at hr
    subst hr
    exact ⟨by decide, by decide, by decide, ⟨List.Pairwise.nil, by decide, fun p h => (by cases h)⟩⟩
  · have h1 := (List.getElem?_eq_some_iff.1 hq).1
    simp [rsof] at h1
theorem aw_bytes : ixB (rsof [awX]) = [1, 1, 1, 97, 0, 0] := by
  have h0 : uintB 0 = [0] := by rw [uintB]; rfl
  have h1 : uintB 1 = [1] := by rw [uintB]; rfl
  simp [ixB, rsof, rof, rcB, brsB, hsB, textB, bof, awX, h0, h1]
theorem aw_putE : putE (rsof [awX]) = 0 := putE_ok aw_ok (by rw [aw_bytes]; decide)
theorem aw_gOk : gOk [1, 1, 1, 97, 0, 0] (rsof [awX]) := ⟨by decide, aw_bytes.symm, aw_ok, fun r hr => by
  rw [show rsof [awX] = [rof awX] from rfl, List.mem_singleton] at hr
  subst hr
  exact (awX_at default).r32⟩
set_option maxRecDepth 100000 in
set_option maxHeartbeats 12800000 in
theorem awake8 (w : World) : Calls Try.prog 8 #[] w fun e w' => e = .returned (.bool true) ∧ After w w' := by
  obtain ⟨g, hg⟩ : ∃ g, w.heap.size = g := ⟨_, rfl⟩
  obtain ⟨W0, hW0⟩ : ∃ W0, w.alloc (.cells (rxc awX).toArray 41) = W0 := ⟨_, rfl⟩
  have HA : Hid (After w W0 ∧ RsAt W0 (some ⟨g, 0, none⟩) [awX]) := by
    rw [← hW0, ← hg]
    exact ⟨after_alloc (After.refl w) _, rx_box, fun x hx => by rw [List.mem_singleton.1 hx]; exact awX_at _⟩
  have HP : Hid (Calls Try.prog 10 #[.slice (some ⟨g, 0, none⟩) 1 1] W0 fun e w' => ∃ a c, e = .returned (.tuple #[.slice a 6 c, .int .i64 0]) ∧ BytesAt w' a [1, 1, 1, 97, 0, 0] ∧ 6 ≤ c ∧ After W0 w') := (put10 (X := [awX]) (n := 1) (ca := 1) rfl (by omega) HA.out.2).mono (fun e w' h => by
    rcases h.ans with ⟨_, a, c, k, he, h1, h2, h3⟩ | ⟨h1, _⟩
    · rw [aw_bytes] at h1 h2
      have : k = 6 := by rw [← h1]; rfl
      subst this
      exact ⟨a, c, he, h2, h3, h.aft⟩
    · exact absurd aw_putE h1)
  have HG : Hid (∀ (W : World) (a : Option Addr) (c : Nat), BytesAt W a [1, 1, 1, 97, 0, 0] → 6 ≤ c → Calls Try.prog 14 #[.slice a 6 c] W fun e w' => ∃ b o c', e = .returned (.tuple #[.slice (some ⟨b, o, none⟩) 1 c', .int .i64 0]) ∧ w'.cell? ⟨b, o, none⟩ = some (.string ⟨#[97]⟩) ∧ After W w') := fun W a c hb hc => (get14 (n := 6) (cap := c) rfl hc (by omega) hb).mono (fun e w' h => by
    rcases h.ans with ⟨a2, c2, k2, X, h1, h2, h3, _, h5⟩ | ⟨h1, _⟩
    · have hX := gOk_inj h1 aw_gOk
      have hk : k2 = 1 := by rw [← h3, ← rsof_len X, hX]; rfl
      subst hk
      obtain ⟨x, rfl⟩ : ∃ x, X = [x] := by
        match X, h3 with
        | [x], _ => exact ⟨x, rfl⟩
      have hnm : x.nm = [97] := by
        have h9 : [rof x] = [rof awX] := hX
        injection h9 with h9 _
        exact congrArg Prod.fst h9
      obtain ⟨a3, c3, e3, hs⟩ := h5.at
      injection e3 with e4 _ _
      subst e4
      obtain ⟨b, o, rfl, hr⟩ := hs.sl.at (i := 0) (x := rxc x) rfl
      have hc0 := hr 0 (.string (strOf x.nm)) rfl
      rw [hnm] at hc0
      exact ⟨b, o, c2, h2, hc0, h.aft⟩
    · exact absurd aw_gOk (h1 _))
  have HAR : Hid ((rxc awX).toArray = #[.string ⟨#[97]⟩, .slice none 0 0, .slice none 0 0]) := rfl
  have HW0 : Hid (w.alloc (.cells (rxc awX).toArray 41) = W0) := hW0
  clear hW0
  go_enter Try.func8, Try.ntmps8
  go_wp2_with (first
    | (refine wpList_of_run rfl (x_bs22r (x := .tmp 6) (y := awX) rfl rfl) ?_; rw [HW0.out]; rw [hg])
    | (go_at_call 10; refine Calls.mono HP.out ?_; rintro e w1 ⟨a, c, rfl, hb, hc, ha⟩; have H1 : Hid (BytesAt w1 a [1, 1, 1, 97, 0, 0] ∧ 6 ≤ c ∧ After w w1) := ⟨hb, hc, HA.out.1.trans ha⟩; clear hb hc ha)
    | (go_at_call 14; refine Calls.mono (HG.out _ _ _ H1.out.1 H1.out.2.1) ?_; rintro e w2 ⟨b, o, c2, rfl, hcell, ha⟩; have H2 : Hid (BytesAt w2 a [1, 1, 1, 97, 0, 0] ∧ After w w2) := ⟨H1.out.1.after ha, H1.out.2.2.trans ha⟩; clear ha)
    | (refine wpList_of_run rfl (x_conv (x := .tmp 16) (s := ⟨#[1, 1, 1, 97, 0, 0]⟩) rfl rfl (conv_at (bs := [1, 1, 1, 97, 0, 0]) c H2.out.1)) ?_))
  refine bodyPost_ret (v := .bool true) (by simp [results, Try.results8, go_sem]) rfl ⟨rfl, H2.out.2⟩
end Go.Proofs.Ytcmcapcagblafaa

namespace Go.Proofs.Ytcmcapcagblafaa
open Go.RowKit Go.Maps Dsk Leb
attribute [local go_sem] Oper.semAt_some
theorem x_bs26y {oi : Oper} {a : Act} {w : World} (hop : oi.op = .buildSlice 26 0 #[]) : (execOp a.eval oi).run Try.prog w = .ok (.value (.slice (some ⟨w.heap.size, 0, none⟩) 0 0)) (w.alloc (.cells #[] 5)) := by
  have hb : (Instr.buildSlice 26 0 #[]).run Try.prog w = .ok (.slice (some ⟨w.heap.size, 0, none⟩) 0 0) (w.alloc (.cells #[] 5)) := by kernel_rfl
  unfold execOp
  simp [hop, hb]
theorem owa_nil' (w : World) : OwA w [] (.slice (some ⟨w.heap.size, 0, none⟩) 0 0) (w.alloc (.cells #[] 5)) :=
  ⟨row_own (Nat.le_refl _) (RowIs.new w 5 []) (Nat.le_refl _) (by decide) rfl rfl, after_alloc (After.refl w) _⟩
theorem gy {raw : List UInt8} {w w' : World} {e : Ending} {L : List Rc} (h : GetT raw w e w') (hg : gOk raw L) : ∃ a k c Y, e = .returned (.tuple #[.slice a k c, .int .i64 0]) ∧ Y.length = k ∧ k ≤ 64 ∧ OwnR w' w.heap.size (.slice a k c) Y ∧ rsof Y = L ∧ After w w' := by
  rcases h.ans with ⟨a, c, k, Y, h1, h2, h3, h4, h5⟩ | ⟨h1, _⟩
  · exact ⟨a, k, c, Y, h2, h3, h4, h5, gOk_inj h1 hg, h.aft⟩
  · exact absurd hg (h1 L)
theorem gn {raw : List UInt8} {w w' : World} {e : Ending} (h : GetT raw w e w') (hg : ∀ L, ¬ gOk raw L) : e = .returned (.tuple #[.slice none 0 0, .int .i64 4]) ∧ After w w' := by
  rcases h.ans with ⟨a, c, k, Y, h1, _⟩ | ⟨_, h2⟩
  · exact absurd h1 (hg _)
  · exact ⟨h2, h.aft⟩
/-- Bytes in a row stay where nothing else is written. -/
theorem bytes_kept {F : Nat → Prop} {w w' : World} {a : Option Addr} {bs : List UInt8} (hb : BytesAt w a bs) (hk : KeptF F w w') (hF : ∀ ad, a = some ad → ¬ F ad.block) : BytesAt w' a bs := fun hn => by
  obtain ⟨b, o, e, hc⟩ := hb hn
  refine ⟨b, o, e, fun j hj => ?_⟩
  have h1 := hc j hj
  rw [World.cell?_of_block (w := w) (show w'.heap[(⟨b, o + j, none⟩ : Addr).block]? = w.heap[(⟨b, o + j, none⟩ : Addr).block]? from hk.block b (World.block_lt_of_cell? w _ h1) (hF _ e))]
  exact h1
theorem rx_by {W : World} {B : Nat} {x : Rx} (h : RxO W B x) {ad : Addr} (e : x.a = some ad) : ad.off = 0 ∧ ad.spot = none ∧ B ≤ ad.block ∧ ad.block < W.heap.size ∧ BY W ad.block (x.l.length * 32) := by
  have hsl := h.at'.sl
  rcases own_row h.own.2 with ⟨h1, _⟩ | ⟨g1, cap, cs, h1, h2, h3, _⟩
  · rw [e] at h1; injection h1 with h2; cases h2
  · rw [e] at h1; injection h1 with h4
    cases h4
    rw [e] at hsl
    exact ⟨rfl, rfl, h2, h3.lt, by_sl hsl ⟨rfl, rfl, cs, h3⟩⟩
theorem rs_cell {X : List Rx} {i : Nat} {x : Rx} {cl : List Value} {m : Nat} (ht : cl.take m = (rsL X).flatten) (hx : X[i]? = some x) : cl[i * 3 + 2]? = some (.slice x.a x.l.length x.c) := by
  have h1 := fl_get (uni_rs X) (rs_get hx) (j := 2) (v := .slice x.a x.l.length x.c) rfl
  rw [← ht, List.getElem?_take] at h1
  split at h1
  · exact h1
  · cases h1
/-- Records that were told, whose changes' bytes may have been turned. -/
structure MR (w3 : World) (C B gl : Nat) (cl : List Value) (X : List Rx) (wr : World) : Prop where
  kept : KeptF (fun b => C ≤ b ∧ b < B) w3 wr
  row : RowIs wr gl 41 cl
  each : ∀ x ∈ X, ∀ ad, x.a = some ad → ad.off = 0 ∧ ad.spot = none ∧ C ≤ ad.block ∧ ad.block < B ∧ BY wr ad.block (x.l.length * 32)
theorem MR.drew {w3 wr : World} {C B gl : Nat} {cl : List Value} {X : List Rx} (h : MR w3 C B gl cl X wr) : MR w3 C B gl cl X wr.drew := ⟨h.kept.trans (KeptF.of_after (After.drew (After.refl wr))) (fun _ _ k => k), h.row, h.each⟩
theorem MR.set {w3 wr : World} {C B gl : Nat} {cl : List Value} {X : List Rx} (h : MR w3 C B gl cl X wr) {x : Rx} (hx : x ∈ X) {ad : Addr} (e : x.a = some ad) (o : Nat) (c : UInt8) : MR w3 C B gl cl X (wr.setCell ⟨ad.block, o, none⟩ (.int .u8 (c.toNat : Int))) := by
  obtain ⟨_, _, hge, hlt, hby⟩ := h.each x hx ad e
  have hne : ad.block ≠ gl := fun e => by
    obtain ⟨cs, hr, _⟩ := hby
    rw [e] at hr
    exact absurd (hr.ty h.row).1 (by decide)
  refine ⟨?_, h.row.setOther hne _, fun y hy ad' e' => ?_⟩
  · exact h.kept.trans (KeptF.set (F := fun b => C ≤ b ∧ b < B) wr ⟨ad.block, o, none⟩ (.int .u8 (c.toNat : Int)) ⟨hge, hlt⟩) (fun _ _ k => k)
  · obtain ⟨k1, k2, k3, k4, k5⟩ := h.each y hy ad' e'
    exact ⟨k1, k2, k3, k4, k5.set _ _ _⟩
theorem nil_rs (w : World) : RsAt w none [] := ⟨⟨fun x h => by simp [rsL] at h, fun h => absurd rfl h⟩, fun x h => by simp at h⟩
set_option maxRecDepth 100000 in
set_option maxHeartbeats 25600000 in
theorem gets4 {ra : Option Addr} {n ca : Nat} {raw : List UInt8} (hr : raw.length = n) (hm : n ≤ 140737488355328) (hcap : n ≤ ca) {w : World} (hB : BytesAt w ra raw) : Calls Try.prog 4 #[.slice ra n ca] w fun e w' => e = .returned (.bool true) ∧ After w w' := by
  have HR : Hid (BytesAt w ra raw ∧ raw.length = n ∧ n ≤ ca ∧ n ≤ 140737488355328) := ⟨hB, hr, hcap, hm⟩
  clear hB hr hcap hm
  by_cases hg : ∃ L, gOk raw L
  · obtain ⟨L, hL⟩ := hg
    have HG : Hid (gOk raw L) := hL
    clear hL
    go_enter Try.func4, Try.ntmps4
    go_wp2_with (first
      | (refine wpList_of_run rfl (x_bs26y rfl) ?_
         obtain ⟨v0, hv0⟩ : ∃ v0 : Value, (.slice (some ⟨w.heap.size, 0, none⟩) 0 0 : Value) = v0 := ⟨_, rfl⟩
         obtain ⟨w0, hw0⟩ : ∃ w0, w.alloc (.cells #[] 5) = w0 := ⟨_, rfl⟩
         have H0 : Hid (OwA w [] v0 w0) := by rw [← hv0, ← hw0]; exact owa_nil' w
         rw [hv0, hw0]; clear hv0 hw0)
      | (at_builtin; refine wpList_append_any rfl (.tmp 12) (.tmp 13) rfl w.heap.size v0 [] rfl H0.out.own ra ca raw n HR.out.2.1 rfl (HR.out.1.after H0.out.aft) (by have := HR.out.2.2.2; have := HR.out.2.1; simp only [List.length_nil]; omega) H0.out.aft.size ?_
         intro v1 w1 ho1 hg1
         have hx1 : OwA w raw v1 w1 := H0.out.app (by rw [List.nil_append] at ho1; exact ho1) hg1
         obtain ⟨ia, ic, rfl, hb1, hc1, hl1⟩ := hx1.own.at
         have HIN : Hid (BytesAt w1 ia raw ∧ n ≤ ic ∧ After w w1 ∧ (∀ ad, ia = some ad → ad.block < w1.heap.size)) := ⟨hb1, by have := HR.out.2.1; omega, hx1.aft, fun ad e => (hl1 ad e).2⟩
         rw [HR.out.2.1]
         clear ho1 hg1 hx1 hb1 hc1 hl1)
      | (go_at_call 14; have hT := HIN.out; clear hT; refine Calls.mono (get14 (cap := ic) HR.out.2.1 HIN.out.2.1 HR.out.2.2.2 HIN.out.1) ?_; intro e w2 he
         obtain ⟨xa, k, xc, X, rfl, h1, h2, h3, h4, h5⟩ := gy he HG.out
         have H2 : Hid (X.length = k ∧ k ≤ 64 ∧ OwnR w2 w1.heap.size (.slice xa k xc) X ∧ rsof X = L ∧ After w1 w2) := ⟨h1, h2, h3, h4, h5⟩
         clear he h1 h2 h3 h4 h5)
      | (go_at_call 15; have hT := H2.out; clear hT; refine Calls.mono (rget15 (cap := ca) HR.out.2.1 HR.out.2.2.1 HR.out.2.2.2 (HR.out.1.after (HIN.out.2.2.1.trans H2.out.2.2.2.2))) ?_; intro e w3 he
         obtain ⟨ya, ky, yc, Y, rfl, h1, h2, h3, h4, h5⟩ := gy he HG.out
         have H3 : Hid (Y.length = ky ∧ ky ≤ 64 ∧ OwnR w3 w2.heap.size (.slice ya ky yc) Y ∧ rsof Y = L ∧ After w2 w3 ∧ RsAt w3 ya Y ∧ RsAt w3 xa X) := ⟨h1, h2, h3, h4, h5, by
           obtain ⟨a9, c9, e9, hq⟩ := h3.at
           injection e9 with e1 _ _
           subst e1; exact hq, by
           obtain ⟨a9, c9, e9, hq⟩ := (H2.out.2.2.1.after h5).at
           injection e9 with e1 _ _
           subst e1; exact hq⟩
         clear he h1 h2 h3 h4 h5)
      | (go_at_call 13; have hT := H3.out; clear hT; refine Calls.mono (rsame13 (ca := xc) (cb := yc) H2.out.1 H3.out.1 (by have := H2.out.2.1; omega) H3.out.2.2.2.2.2.2 H3.out.2.2.2.2.2.1) ?_; rintro e w4 ⟨rfl, h1⟩
         rw [decide_eq_true (show rsof X = rsof Y by rw [H2.out.2.2.2.1, H3.out.2.2.2.1])]
         have H4 : Hid (After w3 w4) := h1
         clear h1))
    have HSZ : Hid (w1.heap.size ≤ w2.heap.size ∧ w2.heap.size ≤ w3.heap.size ∧ w.heap.size ≤ w1.heap.size) := ⟨H2.out.2.2.2.2.size, H3.out.2.2.2.2.1.size, HIN.out.2.2.1.size⟩
    have HAZ : Hid (After w w4) := ((HIN.out.2.2.1.trans H2.out.2.2.2.2).trans H3.out.2.2.2.2.1).trans H4.out
    have HO : Hid (OwnR w4 w1.heap.size (.slice xa k xc) X) := (H2.out.2.2.1.after H3.out.2.2.2.2.1).after H4.out
    have HOB : Hid (∀ x ∈ X, ∀ ad, x.a = some ad → ad.block < w2.heap.size) := fun x hx ad e => (rx_by (H2.out.2.2.1.each x hx) e).2.2.2.1
    have HXK : Hid (X.length = k ∧ k ≤ 64) := ⟨H2.out.1, H2.out.2.1⟩
    have HIN4 : Hid (BytesAt w4 ia raw ∧ (∀ ad, ia = some ad → ad.block < w1.heap.size)) := ⟨((HIN.out.1.after H2.out.2.2.2.2).after H3.out.2.2.2.2.1).after H4.out, HIN.out.2.2.2⟩
    have HY4 : Hid (OwnR w4 w2.heap.size (.slice ya ky yc) Y) := H3.out.2.2.1.after H4.out
    have HFIN : Hid (∀ W, KeptF (fun b => w1.heap.size ≤ b ∧ b < w2.heap.size) w4 W → After w W ∧ BytesAt W ia raw ∧ RsAt W ya Y) := fun W hW => by
      refine ⟨Below.trans HAZ.out (hW.below HAZ.out.size (fun x hx => Nat.le_trans HSZ.out.2.2 hx.1)), bytes_kept HIN4.out.1 hW (fun ad e hF => by have := HIN4.out.2 ad e; omega), ?_⟩
      have h9 := HY4.out.keep hW.size (fun b hb hlt => hW.block b hlt (fun hF => by omega))
      obtain ⟨a9, c9, e9, hq⟩ := h9.at
      injection e9 with e1 _ _
      subst e1
      exact hq
    rcases own_row HO.out.row.2 with ⟨ev, hn0, _⟩ | ⟨gl, cap, cl, ev, hb1, hrw, hnc, hcm, hcl, ht⟩
    · simp only [Value.slice.injEq] at ev
      obtain ⟨rfl, rfl, rfl⟩ := ev
      have HF0 : Hid (After w w4 ∧ BytesAt w4 ia raw ∧ RsAt w4 ya Y) := HFIN.out w4 (KeptF.refl _ _)
      go_loopw [8] (fun iv wr => iv = .int .i64 0 ∧ wr = w4) (fun _ _ => 0)
      case atStart => exact ⟨rfl, rfl⟩
      case round =>
        obtain ⟨rfl, rfl⟩ := hrel
        go_wp2_with (first
          | (go_at_call 14; have hT := HF0.out; clear hT; refine Calls.mono (get14 (cap := ic) HR.out.2.1 HIN.out.2.1 HR.out.2.2.2 HF0.out.2.1) ?_; intro e w5 he
             obtain ⟨za, kz, zc, Z, rfl, h1, h2, h3, h4, h5⟩ := gy he HG.out
             have H5 : Hid (Z.length = kz ∧ kz ≤ 64 ∧ rsof Z = L ∧ After w w5 ∧ BytesAt w5 ia raw ∧ RsAt w5 ya Y ∧ RsAt w5 za Z) := ⟨h1, h2, h4, HF0.out.1.trans h5, HF0.out.2.1.after h5, HF0.out.2.2.after h5, by
               obtain ⟨a9, c9, e9, hq⟩ := h3.at
               rw [h1] at e9
               injection e9 with e1 _ _
               subst e1; exact hq⟩
             clear he h1 h2 h3 h4 h5)
          | (go_at_call 13; have hT := H5.out; clear hT; refine Calls.mono (rsame13 (ca := zc) (cb := yc) H5.out.1 H3.out.1 (by have := H5.out.2.1; omega) H5.out.2.2.2.2.2.2 H5.out.2.2.2.2.2.1) ?_; rintro e w6 ⟨rfl, h1⟩
             rw [decide_eq_true (show rsof Z = rsof Y by rw [H5.out.2.2.1, H3.out.2.2.2.1])]
             have H6 : Hid (After w w6) := H5.out.2.2.2.1.trans h1
             have hcv1 : (convert 26 9 (.slice ia n ic)).run Try.prog w6 = .ok (.string (strOf raw)) w6 := by have h9 := conv_at ic (H5.out.2.2.2.2.1.after h1); rw [HR.out.2.1] at h9; exact h9
             have hcv2 : (convert 26 9 (.slice ra n ca)).run Try.prog w6 = .ok (.string (strOf raw)) w6 := by have h9 := conv_at ca (HR.out.1.after H6.out); rw [HR.out.2.1] at h9; exact h9
             clear h1)
          | (go_at_call 8; refine Calls.mono (awake8 _) ?_; rintro e w7 ⟨rfl, h1⟩; have H7 : Hid (After w w7) := H6.out.trans h1; clear h1))
        refine bodyPost_ret (v := .bool true) (by simp [results, Try.results4, go_sem]) rfl ⟨rfl, H7.out⟩
    · simp only [Value.slice.injEq] at ev
      obtain ⟨rfl, hnX, rfl⟩ := ev
      clear hnX
      have HT : Hid (cl.take ((rsL X).length * 3) = (rsL X).flatten) := ht
      have HM0 : Hid (MR w4 w1.heap.size w2.heap.size gl cl X w4) := ⟨KeptF.refl _ _, hrw, fun x hx ad e => by
        obtain ⟨k1, k2, k3, k4, k5⟩ := rx_by (HO.out.each x hx) e
        exact ⟨k1, k2, k3, HOB.out x hx ad e, k5⟩⟩
      clear hb1 hrw hnc hcm hcl ht
      go_loopw [8] (fun iv wr => ∃ i : Nat, i ≤ k ∧ iv = .int .i64 (i : Int) ∧ Hid (MR w4 w1.heap.size w2.heap.size gl cl X wr)) (fun iv _ => k - (intOf iv).toNat)
      case atStart => exact ⟨0, Nat.zero_le _, rfl, HM0⟩
      case round =>
        obtain ⟨i, hin, rfl, HI⟩ := hrel
        have hk64 : k ≤ 64 := HXK.out.2
        by_cases hlt : i < k
        · have hii : (i : Int) < (k : Int) := by omega
          have HLT : Hid (i < k) := hlt
          obtain ⟨x, hx⟩ : ∃ x, X[i]? = some x := ⟨_, List.getElem?_eq_getElem (by rw [HXK.out.1]; exact hlt)⟩
          have hcell := rs_cell HT.out hx
          have hbx := (HO.out.each x (List.mem_of_getElem? hx)).at'
          obtain ⟨nm, ba, bc, XB, ca', cc, l⟩ := x
          obtain ⟨p, hp⟩ : ∃ p, l.length = p := ⟨_, rfl⟩
          simp only at hcell
          rw [hp] at hcell
          have hp2 : p < 4611686018427387904 := by have := hbx.fitC; simp only at this; omega
          have HX : Hid (⟨nm, ba, bc, XB, ca', cc, l⟩ ∈ X ∧ cl[i * 3 + 2]? = some (.slice ca' p cc) ∧ RxAt w4 ⟨nm, ba, bc, XB, ca', cc, l⟩ ∧ l.length = p) := ⟨List.mem_of_getElem? hx, hcell, hbx, hp⟩
          clear hx hcell hbx hp
          go_wp2
          go_loopw [9] (fun kv wr => ∃ q : Nat, q ≤ p ∧ kv = .int .i64 (q : Int) ∧ Hid (MR w4 w1.heap.size w2.heap.size gl cl X wr)) (fun kv _ => p - (intOf kv).toNat)
          case atStart => exact ⟨0, Nat.zero_le _, rfl, HI⟩
          case round =>
            obtain ⟨q, hqp, rfl, HI2⟩ := hrel
            by_cases hqt : q < p
            · have hqq : (q : Int) < (p : Int) := by omega
              have HKT : Hid (q < p) := hqt
              obtain ⟨hb, rfl, hby⟩ : ∃ hb, ca' = some ⟨hb, 0, none⟩ ∧ BY wr hb (p * 32) := by
                obtain ⟨b, o, e, _⟩ := HX.out.2.2.1.sl.2 (fun e => by have h1 := HX.out.2.2.2; simp only [hsL, List.map_eq_nil_iff] at e; rw [e] at h1; simp at h1; omega)
                simp only at e
                obtain ⟨k1, _, _, _, k4⟩ := HI2.out.each _ HX.out.1 ⟨b, o, none⟩ e
                simp only at k1 k4
                rw [HX.out.2.2.2] at k4
                exact ⟨b, by rw [e, k1], k4⟩
              have HNE : Hid (¬ gl = hb) := fun e => by
                obtain ⟨cs, hr, _⟩ := hby
                rw [← e] at hr
                exact absurd (hr.ty HI2.out.row).1 (by decide)
              obtain ⟨cv, hcv⟩ := by_cell (o := q * 32) hby (by omega)
              have HBY : Hid (BY wr hb (p * 32)) := hby
              have HCV : Hid (wr.cell? ⟨hb, 0 + q * 32, none⟩ = some (.int .u8 (cv.toNat : Int))) := by rw [Nat.zero_add]; exact hcv
              clear hby hcv
              go_wp2_with (first
                | (refine wpList_of_run rfl (x_ix22 (x := .tmp 41) (y := .tmp 42) (b := gl) (f := 0) (n := k) (c := xc) (i := i) rfl (by kernel_rfl) (by kernel_rfl) HLT.out) ?_)
                | (refine wpList_of_run rfl (x_loadT (x := .tmp 44) (t := 39) (g := gl) (j := i * 3 + 2) Try.underlying39 rfl rfl (by kernel_rfl) (by rw [row_cell HI2.out.row]; exact HX.out.2.1)) ?_))
              refine wp_region_noPanic ?_
              refine wp_region_held_drew (S := KeptF (fun b => b = hb) wr) (by kernel_rfl) (KeptF.of_after (After.drew (After.refl wr))) ?_
              intro hS0
              refine tk 0 50 (.slice (some ⟨gl, 0, none⟩) k xc) (fuel := 12) rfl (by kernel_rfl) (by kernel_rfl) (by kernel_rfl) (by kernel_rfl) noPanic_false (by kernel_rfl) (fun _ _ => by kernel_rfl) hS0 ?_
              refine tk 1 51 (.int .i64 (i : Int)) (fuel := 11) rfl (by kernel_rfl) (by kernel_rfl) (by kernel_rfl) (by kernel_rfl) noPanic_false (by kernel_rfl) (fun _ _ => by kernel_rfl) hS0 ?_
              refine tk 2 52 (.pointer (some ⟨gl, 0 + i * 3, none⟩)) (fuel := 10) rfl (by kernel_rfl) (by kernel_rfl) (by kernel_rfl) (by kernel_rfl) noPanic_false (by kernel_rfl) (fun W _ => x_ix22 (n := k) (c := xc) (x := .tmp 50) (y := .tmp 51) (by kernel_rfl) (by kernel_rfl) (by kernel_rfl) HLT.out) hS0 ?_
              refine tk 3 53 (.pointer (some ⟨gl, 0 + i * 3 + 2, none⟩)) (fuel := 9) rfl (by kernel_rfl) (by kernel_rfl) (by kernel_rfl) (by kernel_rfl) noPanic_false (by kernel_rfl) (fun _ _ => by kernel_rfl) hS0 ?_
              refine tk 4 54 (.slice (some ⟨hb, 0, none⟩) p cc) (fuel := 8) rfl (by kernel_rfl) (by kernel_rfl) (by kernel_rfl) (by kernel_rfl) noPanic_false (by kernel_rfl) (fun W hW => x_loadT (x := .tmp 53) (t := 39) (g := gl) (j := 0 + i * 3 + 2) Try.underlying39 rfl (by kernel_rfl) (by kernel_rfl) (by rw [row_cell (hW.row HI2.out.row HNE.out), show 0 + i * 3 + 2 = i * 3 + 2 by omega]; exact HX.out.2.1)) hS0 ?_
              refine tk 5 55 (.int .i64 (q : Int)) (fuel := 7) rfl (by kernel_rfl) (by kernel_rfl) (by kernel_rfl) (by kernel_rfl) noPanic_false (by kernel_rfl) (fun _ _ => by kernel_rfl) hS0 ?_
              refine tk 6 56 (.pointer (some ⟨hb, 0 + q * 32, none⟩)) (fuel := 6) rfl (by kernel_rfl) (by kernel_rfl) (by kernel_rfl) (by kernel_rfl) noPanic_false (by kernel_rfl) (fun W _ => x_idx44 (n := p) (c := cc) (x := .tmp 54) (y := .tmp 55) (by kernel_rfl) (by kernel_rfl) (by kernel_rfl) HKT.out) hS0 ?_
              refine tk 7 57 (.pointer (some ⟨hb, 0 + q * 32, none⟩)) (fuel := 5) rfl (by kernel_rfl) (by kernel_rfl) (by kernel_rfl) (by kernel_rfl) noPanic_false (by kernel_rfl) (fun _ _ => by kernel_rfl) hS0 ?_
              refine tk 10 60 (.pointer (some ⟨hb, 0 + q * 32, none⟩)) (fuel := 4) rfl (by kernel_rfl) (by kernel_rfl) (by kernel_rfl) (by kernel_rfl) noPanic_false (by kernel_rfl) (fun W _ => x_idx44 (n := p) (c := cc) (x := .tmp 54) (y := .tmp 55) (by kernel_rfl) (by kernel_rfl) (by kernel_rfl) HKT.out) hS0 ?_
              refine tkRunS 8 58 (.int .u8 (cv.toNat : Int)) (wr.drew) (fuel := 3) rfl (by kernel_rfl) (by kernel_rfl) (by kernel_rfl) (x_loadT (x := .tmp 57) (t := 5) (g := hb) (j := 0 + q * 32) Try.underlying5 rfl (by kernel_rfl) (by kernel_rfl) HCV.out) (hS0) ?_
              refine tk 9 59 (.int .u8 ((cv + 1).toNat : Int)) (fuel := 2) rfl (by kernel_rfl) (by kernel_rfl) (by kernel_rfl) (by kernel_rfl) noPanic_false (by kernel_rfl) (fun W _ => x_add5 (x := .tmp 58) (by kernel_rfl) (by kernel_rfl)) hS0 ?_
              refine tk 11 61 (.pointer (some ⟨hb, 0 + q * 32, none⟩)) (fuel := 1) rfl (by kernel_rfl) (by kernel_rfl) (by kernel_rfl) (by kernel_rfl) noPanic_false (by kernel_rfl) (fun _ _ => by kernel_rfl) hS0 ?_
              refine tkStoreS 12 (wr.drew.setCell ⟨hb, 0 + q * 32, none⟩ (.int .u8 ((cv + 1).toNat : Int))) (fuel := 0) rfl (by kernel_rfl) (by kernel_rfl) (by kernel_rfl) (x_st5 (x := .tmp 61) (y := .tmp 59) (by kernel_rfl) (by kernel_rfl) (by kernel_rfl) HCV.out (by_frozen HBY.out)) (hS0.trans (KeptF.set (F := fun b => b = hb) wr.drew ⟨hb, 0 + q * 32, none⟩ _ rfl) (fun _ _ h => h)) ?_
              refine wpAnyH_done (by kernel_rfl) (NoPanic.normal ?_) _
              have HN : Hid (MR w4 w1.heap.size w2.heap.size gl cl X (wr.drew.setCell ⟨hb, 0 + q * 32, none⟩ (.int .u8 ((cv + 1).toNat : Int)))) := HI2.out.drew.set HX.out.1 (ad := ⟨hb, 0, none⟩) rfl _ _
              clear hS0
              obtain ⟨wn, hwn⟩ : ∃ wn, wr.drew.setCell ⟨hb, 0 + q * 32, none⟩ (.int .u8 ((cv + 1).toNat : Int)) = wn := ⟨_, rfl⟩
              rw [hwn] at HN ⊢
              clear hwn
              go_simp
              go_wp2
              go_roundw
              case rel => exact ⟨q + 1, by omega, by go_num, HN⟩
              case measure => simp [intOf]; omega
            · have hqq : ¬ (q : Int) < (p : Int) := by omega
              go_wp2_with (first
                | (refine wpList_of_run rfl (x_ix22 (x := .tmp 41) (y := .tmp 42) (b := gl) (f := 0) (n := k) (c := xc) (i := i) rfl (by kernel_rfl) (by kernel_rfl) HLT.out) ?_)
                | (refine wpList_of_run rfl (x_loadT (x := .tmp 44) (t := 39) (g := gl) (j := i * 3 + 2) Try.underlying39 rfl rfl (by kernel_rfl) (by rw [row_cell HI2.out.row]; exact HX.out.2.1)) ?_))
              go_roundw
              case rel => exact ⟨i + 1, by omega, by go_num, HI2⟩
              case measure => simp [intOf]; omega
        · have hii : ¬ (i : Int) < (k : Int) := by omega
          obtain ⟨w4', rfl⟩ : ∃ W, W = wr := ⟨_, rfl⟩
          have HF0 : Hid (After w w4' ∧ BytesAt w4' ia raw ∧ RsAt w4' ya Y) := HFIN.out w4' HI.out.kept
          go_wp2_with (first
            | (go_at_call 14; have hT := HF0.out; clear hT; refine Calls.mono (get14 (cap := ic) HR.out.2.1 HIN.out.2.1 HR.out.2.2.2 HF0.out.2.1) ?_; intro e w5 he
               obtain ⟨za, kz, zc, Z, rfl, h1, h2, h3, h4, h5⟩ := gy he HG.out
               have H5 : Hid (Z.length = kz ∧ kz ≤ 64 ∧ rsof Z = L ∧ After w w5 ∧ BytesAt w5 ia raw ∧ RsAt w5 ya Y ∧ RsAt w5 za Z) := ⟨h1, h2, h4, HF0.out.1.trans h5, HF0.out.2.1.after h5, HF0.out.2.2.after h5, by
                 obtain ⟨a9, c9, e9, hq⟩ := h3.at
                 rw [h1] at e9
                 injection e9 with e1 _ _
                 subst e1; exact hq⟩
               clear he h1 h2 h3 h4 h5)
            | (go_at_call 13; have hT := H5.out; clear hT; refine Calls.mono (rsame13 (ca := zc) (cb := yc) H5.out.1 H3.out.1 (by have := H5.out.2.1; omega) H5.out.2.2.2.2.2.2 H5.out.2.2.2.2.2.1) ?_; rintro e w6 ⟨rfl, h1⟩
               rw [decide_eq_true (show rsof Z = rsof Y by rw [H5.out.2.2.1, H3.out.2.2.2.1])]
               have H6 : Hid (After w w6) := H5.out.2.2.2.1.trans h1
               have hcv1 : (convert 26 9 (.slice ia n ic)).run Try.prog w6 = .ok (.string (strOf raw)) w6 := by have h9 := conv_at ic (H5.out.2.2.2.2.1.after h1); rw [HR.out.2.1] at h9; exact h9
               have hcv2 : (convert 26 9 (.slice ra n ca)).run Try.prog w6 = .ok (.string (strOf raw)) w6 := by have h9 := conv_at ca (HR.out.1.after H6.out); rw [HR.out.2.1] at h9; exact h9
               clear h1)
            | (go_at_call 8; refine Calls.mono (awake8 _) ?_; rintro e w7 ⟨rfl, h1⟩; have H7 : Hid (After w w7) := H6.out.trans h1; clear h1))
          refine bodyPost_ret (v := .bool true) (by simp [results, Try.results4, go_sem]) rfl ⟨rfl, H7.out⟩
  · have HG : Hid (∀ L, ¬ gOk raw L) := fun L h => hg ⟨L, h⟩
    clear hg
    go_enter Try.func4, Try.ntmps4
    go_wp2_with (first
      | (refine wpList_of_run rfl (x_bs26y rfl) ?_
         obtain ⟨v0, hv0⟩ : ∃ v0 : Value, (.slice (some ⟨w.heap.size, 0, none⟩) 0 0 : Value) = v0 := ⟨_, rfl⟩
         obtain ⟨w0, hw0⟩ : ∃ w0, w.alloc (.cells #[] 5) = w0 := ⟨_, rfl⟩
         have H0 : Hid (OwA w [] v0 w0) := by rw [← hv0, ← hw0]; exact owa_nil' w
         rw [hv0, hw0]; clear hv0 hw0)
      | (at_builtin; refine wpList_append_any rfl (.tmp 12) (.tmp 13) rfl w.heap.size v0 [] rfl H0.out.own ra ca raw n HR.out.2.1 rfl (HR.out.1.after H0.out.aft) (by have := HR.out.2.2.2; have := HR.out.2.1; simp only [List.length_nil]; omega) H0.out.aft.size ?_
         intro v1 w1 ho1 hg1
         have hx1 : OwA w raw v1 w1 := H0.out.app (by rw [List.nil_append] at ho1; exact ho1) hg1
         obtain ⟨ia, ic, rfl, hb1, hc1, hl1⟩ := hx1.own.at
         have HIN : Hid (BytesAt w1 ia raw ∧ n ≤ ic ∧ After w w1 ∧ (∀ ad, ia = some ad → ad.block < w1.heap.size)) := ⟨hb1, by have := HR.out.2.1; omega, hx1.aft, fun ad e => (hl1 ad e).2⟩
         rw [HR.out.2.1]
         clear ho1 hg1 hx1 hb1 hc1 hl1)
      | (go_at_call 14; have hT := HIN.out; clear hT; refine Calls.mono (get14 (cap := ic) HR.out.2.1 HIN.out.2.1 HR.out.2.2.2 HIN.out.1) ?_; intro e w2 he
         obtain ⟨rfl, h5⟩ := gn he HG.out
         have H2 : Hid (After w w2 ∧ BytesAt w2 ia raw) := ⟨HIN.out.2.2.1.trans h5, HIN.out.1.after h5⟩
         clear he h5)
      | (go_at_call 15; have hT := H2.out; clear hT; refine Calls.mono (rget15 (cap := ca) HR.out.2.1 HR.out.2.2.1 HR.out.2.2.2 (HR.out.1.after H2.out.1)) ?_; intro e w3 he
         obtain ⟨rfl, h5⟩ := gn he HG.out
         have H3 : Hid (After w w3 ∧ BytesAt w3 ia raw) := ⟨H2.out.1.trans h5, H2.out.2.after h5⟩
         clear he h5)
      | (go_at_call 13; have hT := H3.out; clear hT; refine Calls.mono (rsame13 (ca := 0) (cb := 0) (la := []) (lb := []) (n := 0) (m := 0) rfl rfl (by omega) (nil_rs _) (nil_rs _)) ?_; rintro e w4 ⟨rfl, h1⟩
         rw [decide_eq_true (show rsof [] = rsof [] from rfl)]
         have H4 : Hid (After w w4 ∧ BytesAt w4 ia raw) := ⟨H3.out.1.trans h1, H3.out.2.after h1⟩
         clear h1))
    go_loopw [8] (fun iv wr => iv = .int .i64 0 ∧ wr = w4) (fun _ _ => 0)
    case atStart => exact ⟨rfl, rfl⟩
    case round =>
      obtain ⟨rfl, rfl⟩ := hrel
      go_wp2_with (first
        | (go_at_call 14; have hT := H4.out; clear hT; refine Calls.mono (get14 (cap := ic) HR.out.2.1 HIN.out.2.1 HR.out.2.2.2 H4.out.2) ?_; intro e w5 he
           obtain ⟨rfl, h5⟩ := gn he HG.out
           have H5 : Hid (After w w5 ∧ BytesAt w5 ia raw) := ⟨H4.out.1.trans h5, H4.out.2.after h5⟩
           clear he h5)
        | (go_at_call 13; have hT := H5.out; clear hT; refine Calls.mono (rsame13 (ca := 0) (cb := 0) (la := []) (lb := []) (n := 0) (m := 0) rfl rfl (by omega) (nil_rs _) (nil_rs _)) ?_; rintro e w6 ⟨rfl, h1⟩
           rw [decide_eq_true (show rsof [] = rsof [] from rfl)]
           have H6 : Hid (After w w6) := H5.out.1.trans h1
           have hcv1 : (convert 26 9 (.slice ia n ic)).run Try.prog w6 = .ok (.string (strOf raw)) w6 := by have h9 := conv_at ic (H5.out.2.after h1); rw [HR.out.2.1] at h9; exact h9
           have hcv2 : (convert 26 9 (.slice ra n ca)).run Try.prog w6 = .ok (.string (strOf raw)) w6 := by have h9 := conv_at ca (HR.out.1.after H6.out); rw [HR.out.2.1] at h9; exact h9
           clear h1)
        | (go_at_call 8; refine Calls.mono (awake8 _) ?_; rintro e w7 ⟨rfl, h1⟩; have H7 : Hid (After w w7) := H6.out.trans h1; clear h1))
      refine bodyPost_ret (v := .bool true) (by simp [results, Try.results4, go_sem]) rfl ⟨rfl, H7.out⟩
end Go.Proofs.Ytcmcapcagblafaa

namespace Go.Proofs.Ytcmcapcagblafaa
open Go.ChangeShapes Go.WideShapes Go.ChangeAt Go.RowKit
instance : Inhabited Rx := ⟨⟨[], none, 0, [], none, 0, []⟩⟩
theorem cells41 : Try.prog.cellsOf 41 = 3 := by kernel_rfl
set_option maxRecDepth 100000 in
theorem open_brs {H' : Type} {enc : TypeId × Value → H'} {W : World} {n : Nat} {v : Value} {d : DataW H'} {p : List MemPlace}
    (hf : DataW.trod enc Try.prog W 0 (fun _ => true) true n 38 [v] = some (d, p)) (hw : ∀ m ∈ d.weights Try.prog 38, m ≤ reachBytes) :
    ∃ (a : Option Addr) (c : Nat) (X : List Bx), v = .slice a X.length c ∧ BsAt W a X ∧ (∀ x ∈ X, x.nm.length ≤ maxLen) ∧ X.length * 40 ≤ 140737488355328 ∧ (a = none → c = 0) := by
  rcases Deep.open_slice Try.underlying38 hf with ⟨hcs, _⟩ | ⟨x, l, c, m, n', D, Pl, hcs, _, hl, hm, hmm, hx, hall⟩
  · simp only [List.cons.injEq, and_true] at hcs
    exact ⟨none, 0, [], hcs, BsAt.nil _ _, fun _ h => by simp at h, by simp, fun _ => rfl⟩
  · simp only [List.cons.injEq, and_true] at hcs
    simp only [if_true] at hmm
    subst hmm
    simp only [Prod.mk.injEq] at hx
    have hd := hx.1
    have hlen : l * 40 ≤ 140737488355328 := by
      have := hw ((l + (m - l)) * Try.prog.bytesOf 65) (by rw [hd]; simp [DataW.weights, Try.underlying38])
      rw [show Try.prog.bytesOf 65 = 40 by kernel_rfl] at this
      simp only [reachBytes] at this
      omega
    have each : ∀ i, i < l → ∃ q : Bx, (∀ j, j < 2 → W.cell? ((x.add (i * 2)).add j) = (brc q)[j]?) ∧ BxAt W q ∧ q.nm.length ≤ maxLen := fun i hi => by
      obtain ⟨cs', h1, h2⟩ := hall i (by omega)
      rw [cells48] at h1
      obtain ⟨_, hcl, hce⟩ := World.cells?_some h1
      obtain ⟨v0, v1, rfl⟩ := two_of h1
      obtain ⟨q, e, hq⟩ := open_branch h2 (fun m' hm' => hw m' (by
        rw [hd]
        simp only [DataW.weights, Try.underlying38]
        exact List.mem_cons_of_mem _ (List.mem_append_left _ (mem_all hm' (List.mem_map.2 ⟨i, List.mem_range.2 hi, rfl⟩)))))
      exact ⟨q, fun j hj => by rw [← e]; exact hce j hj, hq⟩
    obtain ⟨q, hq⟩ := Deep.choose_lt each
    refine ⟨some x, m, (List.range l).map q, by rw [hcs]; simp, ⟨⟨uni_bs _, fun hne => ?_⟩, fun y hy => ?_⟩, fun y hy => ?_, by simpa using hlen, fun h => by cases h⟩
    · have hl0 : 0 < l := by
        rcases Nat.eq_zero_or_pos l with h | h
        · subst h; exact absurd rfl hne
        · exact h
      obtain ⟨b, off, spot⟩ := x
      have hs : spot = none := by
        have h0 := (hq 0 hl0).1 0 (by omega)
        have := World.cell?_spot (h0.trans (show (brc (q 0))[0]? = some (.string (strOf (q 0).nm)) from rfl))
        simpa [Addr.add] using this
      subst hs
      refine ⟨b, off, rfl, fun j v hv => ?_⟩
      obtain ⟨i, y, k, hy1, hy2, hy3⟩ := fl_of (uni_bs _) hv
      have hil : i < l := by have := (List.getElem?_eq_some_iff.1 hy1).1; simpa [bsL] using this
      have hye : y = brc (q i) := by
        unfold bsL at hy1
        rw [List.map_map, List.getElem?_map, List.getElem?_range hil] at hy1
        exact (Option.some.inj hy1).symm
      subst hye
      have hk : k < 2 := by have := (List.getElem?_eq_some_iff.1 hy2).1; simpa [brc] using this
      have := (hq i hil).1 k hk
      rw [Addr.add_mid, Addr.add_mid, hy2] at this
      rw [hy3, ← Nat.add_assoc]
      exact this
    · obtain ⟨i, hi, rfl⟩ := List.mem_map.1 hy; exact (hq i (by simpa using hi)).2.1
    · obtain ⟨i, hi, rfl⟩ := List.mem_map.1 hy; exact (hq i (by simpa using hi)).2.2
set_option maxRecDepth 100000 in
theorem open_record {H' : Type} {enc : TypeId × Value → H'} {W : World} {n : Nat} {v0 v1 v2 : Value} {d : DataW H'} {p : List MemPlace}
    (h : DataW.trod enc Try.prog W 0 (fun _ => true) true n 41 [v0, v1, v2] = some (d, p)) (hw : ∀ m ∈ d.weights Try.prog 41, m ≤ reachBytes) : ∃ x : Rx, [v0, v1, v2] = rxc x ∧ RxAt W x := by
  obtain ⟨xs, m, _, hx', _, hlen, hf⟩ := DataW.trod_struct Try.underlying41 h
  match xs, hlen with
  | [y0, y1, y2], _ =>
  have hx : d = .agg ([y0, y1, y2].map (·.1)) := congrArg Prod.fst hx'
  have g0 : DataW.trod enc Try.prog W 0 (fun _ => true) true m 9 (([v0, v1, v2].drop 0).take (Try.prog.cellsOf 9)) = some y0 := hf 0 _ rfl
  rw [one_cell (t := 9) (by kernel_rfl) [v0, v1, v2] 0 v0 rfl] at g0
  have g1 : DataW.trod enc Try.prog W 0 (fun _ => true) true m 38 (([v0, v1, v2].drop 1).take (Try.prog.cellsOf 38)) = some y1 := hf 1 _ rfl
  rw [one_cell (t := 38) (by kernel_rfl) [v0, v1, v2] 1 v1 rfl] at g1
  have g2 : DataW.trod enc Try.prog W 0 (fun _ => true) true m 39 (([v0, v1, v2].drop 2).take (Try.prog.cellsOf 39)) = some y2 := hf 2 _ rfl
  rw [one_cell (t := 39) (by kernel_rfl) [v0, v1, v2] 2 v2 rfl] at g2
  obtain ⟨s1, e1, _, w1⟩ := DataW.trod_string Try.underlying9 g0
  simp only [List.cons.injEq, and_true] at e1
  obtain ⟨ba, bc, X, e2, hbs, hbn, hbb, hbz⟩ := open_brs (d := y1.1) (p := y1.2) g1 (fun m' hm' => by
    refine hw _ ?_
    rw [hx]
    simp only [List.map_cons, List.map_nil, DataW.weights, Try.underlying41, DataW.weightsEach, List.mem_append]
    right; left; exact hm')
  obtain ⟨fa, fc, fl, e3, hfs, h32, hfb, hfz⟩ := open_hs (d := y2.1) (p := y2.2) g2 (fun m' hm' => by
    refine hw _ ?_
    rw [hx]
    simp only [List.map_cons, List.map_nil, DataW.weights, Try.underlying41, DataW.weightsEach, List.mem_append]
    right; right; left; exact hm')
  have hs1 : s1 = strOf s1.data.toList := by simp [strOf]
  refine ⟨⟨s1.data.toList, ba, bc, X, fa, fc, fl⟩, ?_, ⟨hbs, hfs, h32, by simpa using w1, hbn, hbb, hfb, hbz, hfz⟩⟩
  rw [e1, e2, e3]
  simp only [rxc]
  rw [← hs1]
set_option maxRecDepth 100000 in
theorem open_records {H' : Type} {enc : TypeId × Value → H'} {W : World} {base : Nat} {a : Option Addr} {len cap : Nat} {d : DataW H'} {p : List MemPlace}
    (hv : Value.okWide Try.prog W .any base 22 (.slice a len cap))
    (h : DataW.Trod enc Try.prog W 0 (fun _ => true) true 22 (.slice a len cap) d p) (hw : ∀ m ∈ d.weights Try.prog 22, m ≤ reachBytes) :
    ∃ l : List Rx, l.length = len ∧ len * 64 ≤ 140737488355328 ∧ RsAt W a l ∧ (a = none → cap = 0) := by
  obtain ⟨fuel, hf⟩ := h
  rcases Deep.open_slice Try.underlying22 hf with ⟨hcs, _⟩ | ⟨x, l, c, m, n, D, Pl, hcs, _, hl, hm, hmm, hx, hall⟩
  · simp [Value.cells] at hcs
    obtain ⟨rfl, rfl, rfl⟩ := hcs
    exact ⟨[], rfl, by omega, ⟨SlAt.nil _ _ _, fun _ h => by simp at h⟩, fun _ => rfl⟩
  · simp [Value.cells] at hcs
    obtain ⟨rfl, rfl, rfl⟩ := hcs
    simp only [if_true] at hmm
    subst hmm
    have hs : x.spot = none := by
      simp only [Value.okWide, Try.underlying22, Cell.okWide, Cell.ok] at hv
      obtain ⟨_, _, _, hs, _⟩ := hv
      exact hs
    simp only [Prod.mk.injEq] at hx
    have hd := hx.1
    have hlen : len * 64 ≤ 140737488355328 := by
      have := hw ((len + (m - len)) * Try.prog.bytesOf 41) (by rw [hd]; simp [DataW.weights, Try.underlying22])
      rw [show Try.prog.bytesOf 41 = 64 by kernel_rfl] at this
      simp only [reachBytes] at this
      omega
    obtain ⟨b, off, spot⟩ := x
    simp only at hs
    subst hs
    have each : ∀ i, i < len → ∃ q : Rx, W.rangeAt b (off + i * 3) (rxc q) ∧ RxAt W q := fun i hi => by
      obtain ⟨cs', h1, h2⟩ := hall i (by omega)
      rw [cells41] at h1
      obtain ⟨_, hcl, hce⟩ := World.cells?_some h1
      obtain ⟨v0, v1, v2, rfl⟩ := three_of h1
      obtain ⟨q, e, hq⟩ := open_record h2 (fun m' hm' => hw m' (by
        rw [hd]
        simp only [DataW.weights, Try.underlying22]
        exact List.mem_cons_of_mem _ (List.mem_append_left _ (mem_all hm' (List.mem_map.2 ⟨i, List.mem_range.2 hi, rfl⟩)))))
      refine ⟨q, fun j v hj => ?_, hq⟩
      rw [← e] at hj
      have hj9 : j < 3 := by have := (List.getElem?_eq_some_iff.1 hj).1; simpa using this
      have := hce j hj9
      rw [Addr.add_mid, Addr.add_mid, hj] at this
      exact this
    obtain ⟨q, hq⟩ := Deep.choose_lt each
    have hU : Uni 3 ((List.range len).map fun i => rxc (q i)) := fun y hy => by obtain ⟨z, _, rfl⟩ := List.mem_map.1 hy; rfl
    have hS : SlAt W 3 (some ⟨b, off, none⟩) ((List.range len).map fun i => rxc (q i)) := ⟨hU, fun _ => ⟨b, off, rfl, fun j v hv => by
      obtain ⟨i, y, k, hy1, hy2, hy3⟩ := fl_of hU hv
      have hil : i < len := by have := (List.getElem?_eq_some_iff.1 hy1).1; simpa using this
      have hye : y = rxc (q i) := by
        rw [List.getElem?_map, List.getElem?_range hil] at hy1
        exact (Option.some.inj hy1).symm
      subst hye
      rw [hy3, ← Nat.add_assoc]
      exact (hq i hil).1 k v hy2⟩⟩
    refine ⟨(List.range len).map q, by simp, hlen, ⟨by unfold rsL; rw [List.map_map]; exact hS, fun y hy => by obtain ⟨i, hi, rfl⟩ := List.mem_map.1 hy; exact (hq i (by simpa using hi)).2⟩, fun e => by cases e⟩
end Go.Proofs.Ytcmcapcagblafaa

namespace Go.Proofs.Ytcmcapcagblafaa.IndexGets
open Go.ChangeShapes Go.WideShapes Go.ChangeAt Go.RowKit Dsk
open Go.ChangeMaps (open_string)

set_option maxRecDepth 100000 in
/-- What the walk gives, for every argument and every world. -/
theorem contract (H : Type) (enc : TypeId × Value → H) (W : World) (base : Nat) (args : Array Value) (ds gs : List (DataW H)) (before : List MemPlace)
    (hval : ∀ (j : Nat) t v, Try.f4.params[j]? = some t → args[j]? = some v → Value.okWide Try.prog W .any base t v)
    (hW : DataW.Whole enc Try.prog Try.f4.params.toList Rows.indexGetsSpec.vars false W args.toList ds gs before)
    (hsz : (DataW.weightsEach Try.prog (Try.f4.params.toList ++ (OpenSpec.ofChange Rows.indexGetsSpec).bare.plain.varTypes Try.prog) (ds ++ gs)).all (· ≤ reachBytes) = true) :
    Calls Try.prog 4 args W fun e W' => ∃ v, e = .returned v ∧ Rows.indexGetsSpec.post enc Try.prog Try.f4 false true false false W args v W' := by
  have hW' := hW
  obtain ⟨p, q, hA0, hV, rfl, hfz, hnd⟩ := hW
  have hA : DataW.TrodAll enc Try.prog W 0 (fun _ => true) true Try.f4.params.toList args.toList ds p := hA0
  rw [Try.params4] at hA hval hsz
  obtain ⟨v0, vs0, d0, ds0, p0, q0, hargs, rfl, rfl, h0, r0⟩ := trodAll_cons hA
  obtain ⟨rfl, rfl, rfl⟩ := trodAll_nil r0
  obtain rfl : args = #[v0] := by cases args; simp_all
  obtain ⟨rfl, rfl⟩ := trodVars_none hV
  have k0 := h0
  have lt0 : ∀ x ∈ p0, x.block < W.heap.size := by obtain ⟨m, hm⟩ := k0; exact DataW.trod_lt m _ _ _ hm
  obtain ⟨a0, len0, cap0, rfl⟩ := okWide_slice Try.underlying26 (hval 0 26 v0 rfl rfl)
  obtain ⟨l0, hl0, hc0, hm0, hb0⟩ := open_bytes h0 (fun elems spare he => sized_slice hsz (j := 0) (t := 26) (e := 5) rfl (by rw [he]; rfl) Try.underlying26)
  clear hA0 hA
  refine (gets4 (ca := cap0) hl0 (by omega) hc0 hb0).mono fun e W' ⟨he, bel⟩ => ?_
  subst he
  exact ⟨_, rfl, _, _, _, [], _, [], hW', trodAll_mk1 (shut_bool Try.underlying4 _), (trodAll_cons_mk (Below.trod laidOut (by kernel_rfl) (of_decide_eq_true (by kernel_rfl)) k0 bel lt0) (trodAll_mk0)), rfl, bel.frame _, fun h => by cases h⟩

set_option maxRecDepth 100000 in
/-- A world for the witness: the settled one. -/
theorem witness (os : Os) {H : Type} (enc : TypeId × Value → H) : ∃ (w : World) (tape : Tape) (i : Input), w.os = os ∧ (w.forCall tape i).Shaped Try.checked.prog ∧ i.vars = [] ∧ Input.okWide Try.checked.prog (w.forCall tape i) .any w.heap.size 4 i ∧
      (OpenSpec.ofChange Rows.indexGetsSpec).preRow enc Try.checked.prog Try.f4 Rows.indexGetsRow.domain false Rows.indexGetsRow.laid (w.forCall tape i).memory i.args ∧ ({} : Assume).holds Try.checked.prog (lone (Frame.enter Try.checked.prog 4 i.args .normal) [] (w.forCall tape i)) :=
  witness_row_at (enc := enc) (C := Try.checked) false (World.holding Try.prog os ⟨#[], #[], []⟩) #[.slice none 0 0] rfl (by kernel_rfl) (by kernel_rfl) (by kernel_rfl)
    (OpenSpec.preRow_of_cond 8 (x := ([.nil], [], [])) (by kernel_rfl) (by kernel_rfl) (fun k hk => by cases hk) (by kernel_rfl) (laidMet_nil _ _))

set_option maxRecDepth 100000 in
theorem lifted (os : Os) (started : os.Started) (H : Type) (enc : TypeId × Value → H) (F : Stop.Interp) :
    ReturnsInHanded {} Try.checked os 4 .any ((OpenSpec.ofChange Rows.indexGetsSpec).preRow enc Try.prog Try.f4 Rows.indexGetsRow.domain false Rows.indexGetsRow.laid) (((OpenSpec.ofChange Rows.indexGetsSpec).at F).post enc Try.prog Try.f4 false true false false) := by
  refine returnsInHanded_of_row (C := Try.checked) (s := OpenSpec.ofChange Rows.indexGetsSpec) own started (by kernel_rfl) Try.func4 (witness os enc) ?_
  intro W base args ds gs before hval hW _ _ hsz _ _ _
  exact contract H enc W base args ds gs before hval hW hsz

set_option maxRecDepth 100000 in
theorem said : Rows.IndexGetsSaid :=
  OpenClaim.holds_of_cond 4 Try.f4 rfl rfl rfl rfl rfl rfl rfl ⟨rfl, rfl, rfl, rfl, rfl⟩ rfl rfl rfl rfl rfl (by kernel_rfl) Try.func4 (by kernel_rfl)
    (of_decide_eq_true (by kernel_rfl)) (by unfold Func.isWrapper; first | (rw [if_pos (by decide +kernel)]; kernel_rfl) | (rw [if_neg (by decide +kernel)]; exact ⟨rfl, rfl⟩))
    (fun os started H enc _ F => by rw [OpenClaim.pre_eq_preRow]; exact lifted os started H enc F)
end Go.Proofs.Ytcmcapcagblafaa.IndexGets
namespace Go.Proofs.Ytcmcapcagblafaa
theorem indexGets_holds : Rows.IndexGetsSaid := IndexGets.said
end Go.Proofs.Ytcmcapcagblafaa
