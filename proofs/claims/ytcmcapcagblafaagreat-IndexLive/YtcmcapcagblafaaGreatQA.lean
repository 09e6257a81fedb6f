/-
  hashes: Keys Sets (of its own seat, carried over).
-/
import Derived.Test.YtcmcapcagblafaaGreatHA
import Derived.Test.YtcmcapcagblafaaGreatOP
import Derived.DeepKeys5
import Derived.Maps.RangeWalk
import Derived.Maps.OwnSet
import Derived.Deep.Slices
namespace Go.Proofs.YtcmcapcagblafaaGreat
section
open Go.RowKit Go.Maps Go.WideMaps Go.WideAt
theorem keyed24 : Keyed Tryz.prog 40 := Keyed.of_law (deep_law_gate laidOut (by rw [show Tryz.prog.types.size = 162 by kernel_rfl]; omega) (show (40 : Nat) < _ by rw [show Tryz.prog.types.size = 162 by kernel_rfl]; omega) (by kernel_rfl) (by rw [Tryz.underlying40]))
theorem mapM_all {α β : Type} {g : α → Option β} : ∀ {l : List α} {ls : List β}, l.mapM g = some ls → ∀ x ∈ l, ∃ y, g x = some y
  | [], _, _, x, hx => by simp at hx
  | a :: l, ls, h, x, hx => by
    simp only [List.mapM_cons, Option.bind_eq_bind, Option.bind_eq_some_iff] at h
    obtain ⟨y, hy, ys, hys, _⟩ := h
    rcases List.mem_cons.1 hx with rfl | hx
    · exact ⟨y, hy⟩
    · exact mapM_all hys x hx
theorem mapM_of {α β : Type} {g : α → Option β} {f : α → β} : ∀ {l : List α}, (∀ x ∈ l, g x = some (f x)) → l.mapM g = some (l.map f)
  | [], _ => rfl
  | a :: l, h => by
    rw [List.mapM_cons, h a (by simp), mapM_of (fun x hx => h x (by simp [hx]))]; rfl
theorem lit5 {d : Nat} (b : UInt8) : Tryz.prog.keyLits (d + 1) 5 [.int .u8 (b.toNat : Int)] = some [.int .u8 (b.toNat : Int)] := by
  have hb := b.toNat_lt
  have hw : (Lit.int .u8 (b.toNat : Int)).wf = true := by simp [Lit.wf, IntKind.min, IntKind.max, IntKind.bits, IntKind.signed]; omega
  unfold Program.keyLits
  simp [Tryz.underlying5, hw]
theorem lit5_inv {d : Nat} {c : Value} {l : List Lit} (h : Tryz.prog.keyLits (d + 1) 5 [c] = some l) : ∃ b : UInt8, c = .int .u8 (b.toNat : Int) := by
  cases c with
  | int q n =>
    unfold Program.keyLits at h
    simp only [Tryz.underlying5] at h
    split at h
    · rename_i hc
      obtain ⟨b, hb⟩ := byte_of hc.2
      exact ⟨b, by rw [hc.1, hb]⟩
    · cases h
  | _ => exact absurd h (by unfold Program.keyLits; simp [Tryz.underlying5])
theorem cells24 : Tryz.prog.cellsOf 40 = 32 := by kernel_rfl
theorem one_at (l : List Value) (i : Nat) {c : Value} (h : l[i]? = some c) : (l.drop (i * 1)).take 1 = [c] := by
  obtain ⟨hl, e⟩ := List.getElem?_eq_some_iff.1 h
  rw [Nat.mul_one, List.drop_eq_getElem_cons hl, e]; rfl
theorem range_flat : ∀ (h : Hs), ((List.range h.length).map fun i => [Lit.int .u8 ((h.getD i 0).toNat : Int)]).flatten = h.map fun b => Lit.int .u8 (b.toNat : Int) := fun h => by
  have e : ((List.range h.length).map fun i => [Lit.int .u8 ((h.getD i 0).toNat : Int)]) = h.map fun b => [Lit.int .u8 (b.toNat : Int)] := by
    apply List.ext_getElem
    · simp
    · intro i h1 h2
      have hi : i < h.length := by simpa using h1
      simp [List.getD, hi]
  rw [e]
  induction h with
  | nil => rfl
  | cons b h ih =>
    simp only [List.map_cons, List.flatten_cons, List.singleton_append]
    congr 1
    refine ih ?_
    apply List.ext_getElem
    · simp
    · intro i h1 h2
      have hi : i < h.length := by simpa using h1
      simp [List.getD, hi]
theorem keyBytes8 : ∀ h : Hs, keyBytes (h.map fun b => Lit.int .u8 (b.toNat : Int)) = h
  | [] => rfl
  | b :: h => by
    have hb := b.toNat_lt
    unfold keyBytes
    rw [List.map_cons, List.flatMap_cons]
    have ih := keyBytes8 h
    unfold keyBytes at ih
    rw [ih]
    have : Lit.keyBytes (Lit.int .u8 (b.toNat : Int)) = [b] := by
      simp only [Lit.keyBytes, IntKind.bits]
      have e : (((b.toNat : Int) % 2 ^ 8).toNat) = b.toNat := by omega
      rw [e]
      simp [bytesBE, bytesLE]
    rw [this]; rfl
set_option maxRecDepth 100000 in
/-- A hash reads as its bytes. -/
theorem keyOf24 {h : Hs} (hh : h.length = 32) : keyOf Tryz.prog 40 (hv h) = some (.string h) := by
  have hk : Tryz.prog.keyType 40 = true := by kernel_rfl
  have hf : (hv h).formed Tryz.prog 40 = true := by
    unfold hv Value.formed; simp [Tryz.underlying40, cells24, c8_len, hh]
  have hl : Tryz.prog.keyLits (Tryz.prog.types.size + 1) 40 (c8 h) = some (h.map fun b => Lit.int .u8 (b.toNat : Int)) := by
    rw [show Tryz.prog.types.size = 161 + 1 by kernel_rfl]
    unfold Program.keyLits
    simp only [Tryz.underlying40, cells24, c8_len, hh, if_true, cells5]
    rw [mapM_of (f := fun i => [Lit.int .u8 ((h.getD i 0).toNat : Int)])]
    · rw [← hh, Option.map_some, range_flat]
    · intro i hi
      rw [one_at (c8 h) i (c8_get h i (by rw [hh]; simpa using hi))]
      exact lit5 _
  unfold keyOf
  simp only [Tryz.underlying40, hk, hf, Bool.and_self, if_true]
  unfold hv
  simp only [Value.cells]
  rw [hl, Option.map_some, keyBytes8]
set_option maxRecDepth 100000 in
/-- What is a key is a hash. -/
theorem keyOf24_inv {key : Value} {kl : Lit} (hk : keyOf Tryz.prog 40 key = some kl) : ∃ h : Hs, h.length = 32 ∧ key = hv h ∧ kl = .string h := by
  obtain ⟨xs, L, rfl, hL, hkl⟩ := keyOf_top (by rw [Tryz.underlying40]) hk
  rw [show Tryz.prog.types.size = 161 + 1 by kernel_rfl] at hL
  unfold Program.keyLits at hL
  simp only [Tryz.underlying40, cells24, cells5] at hL
  split at hL
  · rename_i hlen
    obtain ⟨ls, hls, _⟩ := Option.map_eq_some_iff.1 hL
    have each : ∀ i, i < 32 → ∃ b : UInt8, xs.toList[i]? = some (.int .u8 (b.toNat : Int)) := fun i hi => by
      obtain ⟨y, hy⟩ := mapM_all hls i (by simpa using hi)
      obtain ⟨c, hc⟩ : ∃ c, xs.toList[i]? = some c := ⟨_, List.getElem?_eq_getElem (by rw [hlen]; exact hi)⟩
      rw [one_at xs.toList i hc] at hy
      obtain ⟨b, hb⟩ := lit5_inv hy
      exact ⟨b, by rw [hc, hb]⟩
    obtain ⟨q, hq⟩ := Deep.choose_lt each
    have hxs : xs.toList = c8 ((List.range 32).map q) := by
      apply List.ext_getElem?
      intro i
      by_cases hi : i < 32
      · rw [hq i hi, c8_get _ i (by simpa using hi)]; simp [List.getD, hi]
      · rw [List.getElem?_eq_none (by omega), List.getElem?_eq_none (by simp [c8_len]; omega)]
    have hx2 : xs = (c8 ((List.range 32).map q)).toArray := by rw [← hxs]
    refine ⟨(List.range 32).map q, by simp, by rw [hx2]; rfl, ?_⟩
    have := keyOf24 (h := (List.range 32).map q) (by simp)
    unfold hv at this
    rw [← hx2, hk] at this
    exact Option.some.inj this
  · cases hL
end
section
open Go.RowKit Go.Maps
abbrev RU : Value → Option (DataW Unit × List MemPlace) := unitElem
/-- What a map's reading has. -/
def SetD (D : DataW Unit) (l : List Hs) : Prop := ∀ h : Hs, Maps.has D (.string h) = true ↔ h ∈ l
/-- Block b is a set of at most n hashes: those of l. -/
structure SetAt (w : World) (b n : Nat) (l : List Hs) : Prop where
  ex : ∃ D, w.ownsMap Tryz.prog 40 RU b n D ∧ SetD D l
theorem ownsMap_sameU {w w' : World} {b n : Nat} {D : DataW Unit} (h : w.ownsMap Tryz.prog 40 RU b n D) (hs : w'.heap[b]? = w.heap[b]?) : w'.ownsMap Tryz.prog 40 RU b n D := by
  obtain ⟨es, clock, hb, r⟩ := h
  exact ⟨es, clock, by rw [hs]; exact hb, r⟩
theorem SetAt.lt {w : World} {b n : Nat} {l : List Hs} (h : SetAt w b n l) : b < w.heap.size := by obtain ⟨D, h, _⟩ := h.ex; exact h.lt
theorem SetAt.same {w w' : World} {b n : Nat} {l : List Hs} (h : SetAt w b n l) (hs : w'.heap[b]? = w.heap[b]?) : SetAt w' b n l := by
  obtain ⟨D, h1, h2⟩ := h.ex
  exact ⟨D, ownsMap_sameU h1 hs, h2⟩
theorem SetAt.after {w w' : World} {b n : Nat} {l : List Hs} (h : SetAt w b n l) (ha : After w w') : SetAt w' b n l := h.same (ha.block b h.lt)
theorem SetAt.mono {w : World} {b n m : Nat} {l : List Hs} (h : SetAt w b n l) (hm : n ≤ m) : SetAt w b m l := by
  obtain ⟨D, h1, h2⟩ := h.ex
  exact ⟨D, h1.mono hm, h2⟩
theorem SetAt.made (w : World) : SetAt (w.alloc (.map #[] 0)) w.heap.size 0 [] :=
  ⟨.map [], World.ownsMap_made w Tryz.prog 40 RU, fun h => by simp [Maps.has]⟩
theorem isKey_string (h : Hs) : WideAt.IsKeyLit (.string h) := trivial
theorem SetD.put {D : DataW Unit} {l : List Hs} (hD : Maps.IsMap D) (h : SetD D l) (x : Hs) (d : DataW Unit) : SetD (D.put (.string x) d) (l ++ [x]) := fun y => by
  by_cases e : y = x
  · subst e
    rw [has_put_same hD (isKey_string y)]; simp
  · rw [has_put_other (fun e2 => e (by injection e2))]
    rw [h y]; simp [e]
/-- Where the entries of a slice of lists lie. -/
structure LsIs where
  ao : Option Addr
  n : Nat
  c : Nat
  l : List Hs
def ListsAt (w : World) (la : Option Addr) (ls : List LsIs) : Prop := ls ≠ [] → ∃ b o, la = some ⟨b, o, none⟩ ∧ ∀ (j : Nat) (x : LsIs), ls[j]? = some x → w.cell? ⟨b, o + j, none⟩ = some (.slice x.ao x.n x.c) ∧ HsAt w x.ao x.l ∧ x.l.length = x.n ∧ All32 x.l
def catL (ls : List LsIs) : List Hs := (ls.map (·.l)).flatten
theorem catL_snoc {ls : List LsIs} {j : Nat} {x : LsIs} (h : ls[j]? = some x) : catL (ls.take (j + 1)) = catL (ls.take j) ++ x.l := by
  unfold catL; rw [List.take_add_one, h]; simp
theorem catL_le (ls : List LsIs) (j : Nat) : (catL (ls.take j)).length ≤ (catL ls).length := by
  have e : catL ls = catL (ls.take j) ++ catL (ls.drop j) := by
    unfold catL
    rw [← List.flatten_append, ← List.map_append, List.take_append_drop]
  rw [e, List.length_append]; omega
structure SoI (w0 : World) (B : Nat) (l : List Hs) (wr : World) : Prop where
  set : SetAt wr B l.length l
  aft : After w0 wr
/-- s[h] = struct{}{}. -/
theorem wpList_putH {w : World} {ops : Array Oper} {rest : List Oper} {o : Oper} {a : Act} {Q : Exit → Act → World → Prop} (hgd : o.guard = none) (m x v : Operand) (ho : o.op = .mapUpdate 52 m x v)
    {b n : Nat} {l : List Hs} (hm : a.eval m = .map (some b)) (hs : SetAt w b n l) (hn : n < maxLen) {h : Hs} (h32 : h.length = 32) (hx : a.eval x = hv h) (hv' : a.eval v = .agg #[])
    (K : ∀ w', SetAt w' b (n + 1) (l ++ [h]) → w.grownBy w' (some b) → wpList Tryz.prog ops Q rest (a.put o.dst undef) w') : wpList Tryz.prog ops Q (o :: rest) a w := by
  obtain ⟨D, hD, hl⟩ := hs.ex
  refine wpList_mapUpdate_own w hgd m x v 52 ho 40 78 keyed24 Tryz.underlying52 RU b n D hm hD hn (hv h) (.agg #[]) (.string h) hx hv' (keyOf24 h32) (.agg []) [] unitElem_mk ?_
  intro w' h1 h2
  exact K w' ⟨_, h1, hl.put hD.isMap h _⟩ h2
/-- A hash in a new variable. -/
theorem fresh_hash {w0 w : World} {b n : Nat} {l : List Hs} {h : Hs} (h32 : h.length = 32) (hs : SetAt w b n l) (ha : After w0 w) (cs : Array Value) :
    ((w.alloc (.cells cs 40)).setRow w.heap.size (c8 h).toArray).heap[w.heap.size]? = some (.cells (c8 h).toArray 40 (0, 0)) ∧ SetAt ((w.alloc (.cells cs 40)).setRow w.heap.size (c8 h).toArray) b n l ∧ After w0 ((w.alloc (.cells cs 40)).setRow w.heap.size (c8 h).toArray) := by
  have _u := h32
  clear _u
  refine ⟨setRow_heap _ _ _ _ 40 _ (heap_alloc_new w _), hs.same ?_, Below.row (after_alloc ha _) ha.size _⟩
  rw [Go.setRow_other _ _ _ _ (by have := hs.lt; omega)]
  exact Below.heap_alloc w _ b hs.lt
set_option maxRecDepth 100000 in
set_option maxHeartbeats 3200000 in
theorem setOf_any (la : Option Addr) (lc : Nat) (ls : List LsIs) (hls : ls.length ≤ 1000) (hbig : (catL ls).length ≤ 4398046511104) (w : World) (hat : ListsAt w la ls) :
    Calls Tryz.prog 27 #[.slice la ls.length lc] w fun e w' => e = .returned (.map (some w.heap.size)) ∧ SetAt w' w.heap.size (catL ls).length (catL ls) ∧ After w w' := by
  have HAT : Hid (ListsAt w la ls) := hat
  have HBG : Hid ((catL ls).length ≤ 4398046511104) := hbig
  obtain ⟨n, hn⟩ : ∃ n, ls.length = n := ⟨_, rfl⟩
  have HN : Hid (ls.length = n) := hn
  rw [hn] at hls ⊢
  clear hat hn hbig
  have hmk := run_makeMap (P := Tryz.prog) 52 w
  go_enter Tryz.func27, Tryz.ntmps27
  go_wp2_with fail
  obtain ⟨w0, hw0⟩ : ∃ w0, w.alloc (.map #[] 0) = w0 := ⟨_, rfl⟩
  rw [hw0]
  have HS0 : Hid (SetAt w0 w.heap.size 0 []) := by rw [← hw0]; exact SetAt.made w
  have HA0 : Hid (After w w0) := by rw [← hw0]; exact after_alloc (After.refl w) _
  clear hw0
  go_loopw [11] (fun iv wr => ∃ j : Nat, j ≤ n ∧ iv = .int .i64 (j : Int) ∧ Hid (SoI w w.heap.size (catL (ls.take j)) wr)) (fun iv _ => n - (intOf iv).toNat)
  case atStart => exact ⟨0, Nat.zero_le _, rfl, HS0.out, HA0.out⟩
  case round =>
    obtain ⟨j, hjn, rfl, HI⟩ := hrel
    obtain ⟨wo, rfl⟩ : ∃ wo, wo = wr := ⟨_, rfl⟩
    by_cases hlt : j < n
    · have hji : (j : Int) < (n : Int) := by omega
      obtain ⟨x, hx⟩ : ∃ x, ls[j]? = some x := ⟨_, List.getElem?_eq_getElem (by rw [HN.out]; exact hlt)⟩
      obtain ⟨b, o, hla, hac⟩ := HAT.out (by intro h; rw [h] at hx; simp at hx)
      obtain ⟨e0, e1, e2, e3⟩ := hac j x hx
      have d0 := cell_at (HI.out.aft) e0
      have HX : Hid (ls[j]? = some x) := hx
      obtain ⟨xa, xn, xc, xl⟩ := x
      simp only at d0 e1 e2 e3
      have HXA : Hid (HsAt w xa xl ∧ xl.length = xn ∧ All32 xl) := ⟨e1, e2, e3⟩
      have hxn : (catL (ls.take j)).length + xn ≤ 4398046511104 := by
        have h1 := HBG.out; have h2 := catL_le ls (j + 1); rw [catL_snoc HX.out, List.length_append] at h2
        simp only [e2] at h2; omega
      subst hla
      clear hac e0 e1 e2 e3 hx
      go_wp2_with fail
      go_loopw [17] (fun iv wr => ∃ k : Nat, k ≤ xn ∧ iv = .int .i64 (k : Int) ∧ Hid (SoI w w.heap.size (catL (ls.take j) ++ xl.take k) wr)) (fun iv _ => xn - (intOf iv).toNat)
      case atStart => exact ⟨0, Nat.zero_le _, rfl, by rw [List.take_zero, List.append_nil]; exact HI.out⟩
      case round =>
        obtain ⟨k, hkn, rfl, HK⟩ := hrel
        by_cases hk : k < xn
        · have hki : (k : Int) < (xn : Int) := by omega
          obtain ⟨h, hh⟩ : ∃ h, xl[k]? = some h := ⟨_, List.getElem?_eq_getElem (by rw [HXA.out.2.1]; exact hk)⟩
          have h32 := HXA.out.2.2.at hh
          obtain ⟨xb, xo, hxa, hrg⟩ := HXA.out.1.get HXA.out.2.2 (by intro e; rw [e] at hh; simp at hh)
          subst hxa
          have HR : Hid (wr.rangeAt xb (xo + k * 32) (c8 h)) := range_after (hrg k h hh) HK.out.aft
          have HNX : Hid ((catL (ls.take j) ++ xl.take k) ++ [h] = catL (ls.take j) ++ xl.take (k + 1)) := by unfold Hid; rw [List.take_add_one, hh]; simp
          have FS := fresh_hash (w := wr) h32 HK.out.set HK.out.aft
          have HFS := show Hid _ from FS
          have hlen : (catL (ls.take j) ++ xl.take k).length < 4398046511104 := by rw [List.length_append, List.length_take]; omega
          have HLN : Hid ((catL (ls.take j) ++ xl.take k).length < maxLen) := by unfold maxLen Hid; omega
          have H32 : Hid (h.length = 32) := h32
          clear hrg hh h32 FS hlen
          go_wp2_with (first
            | (refine wpList_load_mid rfl 40 (.tmp 19) rfl xb (xo + k * 32) rfl (c8 h) _ HR.out Tryz.underlying40 rfl (size24' H32.out) ?_)
            | (refine wpList_store_row rfl 40 (.tmp 7) (.tmp 20) rfl wr.heap.size (c8 h).toArray rfl rfl 40 _ (heap_alloc_new wr _) (size24a H32.out) (by simp [c8_len, H32.out]) (hs_oneH h) ?_)
            | (refine wpList_load_row rfl 40 (.tmp 7) rfl wr.heap.size rfl 40 (c8 h).toArray (0, 0) _ (HFS.out _).1 Tryz.underlying40 rfl (size24a H32.out) ?_)
            | (at_mapUpdate; refine wpList_putH rfl _ _ _ rfl rfl (HFS.out _).2.1 HLN.out H32.out rfl rfl ?_; intro w2 hs2 hg2; rw [HNX.out] at hs2; have HS2 := show Hid (SetAt _ _ _ _) from hs2; have HG2 := show Hid (World.grownBy _ _ _) from hg2; clear hs2 hg2))
          go_roundw
          case rel => exact ⟨k + 1, by omega, by go_num, by rw [show (catL (ls.take j) ++ xl.take (k + 1)).length = (catL (ls.take j) ++ xl.take k).length + 1 by rw [← HNX.out, List.length_append]; rfl]; exact HS2.out, after_grown (HFS.out _).2.2 HG2.out (Nat.le_refl _) (fun i hi => by cases hi; exact Nat.le_refl _)⟩
          case measure => simp [intOf]; omega
        · have HE : Hid (SoI w w.heap.size (catL (ls.take (j + 1))) wr) := by
            have := HK.out
            rw [List.take_of_length_le (show xl.length ≤ k by rw [HXA.out.2.1]; omega)] at this
            unfold Hid; rw [catL_snoc HX.out]; exact this
          go_wp2
          go_roundw
          case rel => exact ⟨j + 1, by omega, by go_num, HE.out⟩
          case measure => simp [intOf]; omega
    · have HE : Hid (SoI w w.heap.size (catL ls) wo) := by
        have := HI.out
        rw [List.take_of_length_le (by rw [HN.out]; omega)] at this
        exact this
      go_wp2
      go_ret
      exact ⟨rfl, HE.out.set, HE.out.aft⟩
end
end Go.Proofs.YtcmcapcagblafaaGreat
