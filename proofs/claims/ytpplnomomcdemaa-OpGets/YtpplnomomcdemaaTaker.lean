/-
  THE TAKER: the walks of (*taker).passed, column, count, text, texts.
-/
import Derived.Test.YtpplnomomcdemaaPutW
import Derived.Test.YtpplnomomcdemaaSlices
import Derived.Test.YtpplnomomcdemaaTaken
import Derived.Test.YtpplnomomcdemaaGetDeltas
namespace Go.Proofs.Ytpplnomomcdemaa
open Go.RowKit Leb
/-- A taker in block tb: the bytes that are left, and whether something failed. -/
structure Tk (w0 : World) (tb : Nat) (bs : List UInt8) (fl : Bool) (W : World) : Prop where
  ex : ∃ ao ca, RowIs W tb 72 [.slice ao bs.length ca, .bool fl] ∧ BytesAt w0 ao bs ∧ bs.length ≤ ca ∧ (ao = none → bs.length = 0)
  aft : After w0 W
  new : w0.heap.size ≤ tb
  big : bs.length ≤ 140737488355328
theorem Tk.lt {w0 : World} {tb : Nat} {bs : List UInt8} {fl : Bool} {W : World} (h : Tk w0 tb bs fl W) : tb < W.heap.size := by obtain ⟨_, _, h1, _⟩ := h.ex; exact h1.lt
theorem Tk.after {w0 : World} {tb : Nat} {bs : List UInt8} {fl : Bool} {W W' : World} (h : Tk w0 tb bs fl W) (ha : After W W') : Tk w0 tb bs fl W' := by
  obtain ⟨ao, ca, h1, h2⟩ := h.ex
  exact ⟨⟨ao, ca, h1.below ha h1.lt, h2⟩, After.trans h.aft ha, h.new, h.big⟩
theorem cutAt_none {ao : Option Addr} {k c : Nat} (h : cutAt ao k c = none) : ao = none := by
  unfold cutAt at h
  split at h
  · exact h
  · cases ao with
    | none => rfl
    | some a => simp at h

set_option maxRecDepth 100000 in
set_option maxHeartbeats 3200000 in
theorem passed_any {w0 W : World} {tb : Nat} {bs : List UInt8} (h : Tk w0 tb bs false W) (k q : Nat) (hk : k ≤ bs.length) :
    Calls Try.prog 65 #[.pointer (some ⟨tb, 0, none⟩), .int .i64 (k : Int), .int .i64 (q : Int)] W fun e w' => e = .returned (.tuple #[]) ∧ Tk w0 tb (bs.drop k) (decide (q ≠ 0)) w' ∧ But tb W w' := by
  obtain ⟨ao, ca, hr, hat, hc, hz⟩ := h.ex
  obtain ⟨n, hn⟩ : ∃ n, bs.length = n := ⟨_, rfl⟩
  have HT : Hid (Tk w0 tb bs false W ∧ bs.length = n ∧ BytesAt w0 ao bs) := ⟨h, hn, hat⟩
  rw [hn] at hr hc hz hk
  have HR : Hid (RowIs W tb 72 [.slice ao n ca, .bool false]) := hr
  have HCZ : Hid (n ≤ ca ∧ (ao = none → n = 0)) := ⟨hc, hz⟩
  have SF := fun W => slice_from ao n ca k hz hc hk W
  have c0 := hr.cell (j := 0) rfl
  have c1 := hr.cell (j := 1) rfl
  have f0 := hr.frozen 0
  have f1 := hr.frozen 1
  have HK : Hid (k ≤ n) := hk
  have END : Hid (∀ fl : Bool, Tk w0 tb (bs.drop k) fl ((W.setCell ⟨tb, 0, none⟩ (.slice (cutAt ao k ca) (n - k) (ca - k))).setCell ⟨tb, 1, none⟩ (.bool fl)) ∧ But tb W ((W.setCell ⟨tb, 0, none⟩ (.slice (cutAt ao k ca) (n - k) (ca - k))).setCell ⟨tb, 1, none⟩ (.bool fl))) := fun fl => by
    have hb : But tb W ((W.setCell ⟨tb, 0, none⟩ (.slice (cutAt ao k ca) (n - k) (ca - k))).setCell ⟨tb, 1, none⟩ (.bool fl)) := ((But.refl tb W).setCell 0 _).setCell 1 _
    have hl : (bs.drop k).length = n - k := by rw [List.length_drop, hn]
    refine ⟨⟨⟨cutAt ao k ca, ca - k, ?_, hat.cut k ca (by rw [hn]; exact hc), by rw [hl]; omega, fun e => by rw [hl]; have := hz (cutAt_none e); omega⟩, Below.setCell (Below.setCell h.aft (p := ⟨tb, 0, none⟩) h.new _) (p := ⟨tb, 1, none⟩) h.new _, h.new, by rw [hl]; have := h.big; omega⟩, hb⟩
    rw [hl]
    exact (hr.set 0 _).set 1 _
  clear h hr hat hc hz hn
  by_cases hq : q = 0
  · subst hq
    go_enter Try.func65, Try.ntmps65
    go_wp2
    go_end0
    exact ⟨rfl, END.out false⟩
  · have hqb : ((q : Int) == 0) = false := beq_eq_false_iff_ne.2 (by omega)
    have hqz : ¬ (q : Int) = 0 := by omega
    have hqn : ((q : Int) != 0) = true := by simp [bne, hqb]
    go_enter Try.func65, Try.ntmps65
    go_wp2
    go_end0
    rw [decide_eq_true hq]
    exact ⟨rfl, END.out true⟩

def colM (G : List UInt8 → List Int × Nat × Nat) (bs : List UInt8) (fl : Bool) : List Int × List UInt8 × Bool := if fl then ([], bs, true) else ((G bs).1, bs.drop (G bs).2.1, decide ((G bs).2.2 ≠ 0))
set_option maxRecDepth 100000 in
set_option maxHeartbeats 3200000 in
theorem column_any (G : List UInt8 → List Int × Nat × Nat) (K : Nat) (heK : ∀ args w, (callFunc K args).run Try.prog w = .ok (.enter K args) w) (hGk : ∀ bs, (G bs).2.1 ≤ bs.length)
    (hK : ∀ (W : World) (ao : Option Addr) (cap : Nat) (bs : List UInt8), bs.length ≤ 140737488355328 → BytesAt W ao bs → Calls Try.prog K #[.slice ao bs.length cap, .int .i64 256] W (GPost W (G bs)))
    {w0 W : World} {tb : Nat} {bs : List UInt8} {fl : Bool} (h : Tk w0 tb bs fl W) :
    Calls Try.prog 52 #[.pointer (some ⟨tb, 0, none⟩), .func (.func K) #[] #[]] W fun e w' => ∃ v, e = .returned v ∧ OwnI w' W.heap.size v (colM G bs fl).1 ∧ Tk w0 tb (colM G bs fl).2.1 (colM G bs fl).2.2 w' ∧ But tb W w' := by
  obtain ⟨ao, ca, hr, hat, hc, hz⟩ := h.ex
  have c0 := hr.cell (j := 0) rfl
  have c1 := hr.cell (j := 1) rfl
  have HT : Hid (Tk w0 tb bs fl W) := h
  cases fl with
  | true =>
    clear h hr hat hc hz hK hGk
    go_enter Try.func52, Try.ntmps52
    go_wp2
    go_ret
    exact ⟨_, rfl, OwnI.nil _ _, HT.out, But.refl _ _⟩
  | false =>
    have HC := show Hid _ from hK W ao ca bs h.big (hat.after h.aft)
    have HGK := show Hid _ from hGk bs
    obtain ⟨n, hn⟩ : ∃ n, bs.length = n := ⟨_, rfl⟩
    rw [hn] at c0 HC
    obtain ⟨u, hu⟩ : ∃ u, (G bs).2.1 = u := ⟨_, rfl⟩
    obtain ⟨q, hq⟩ : ∃ q, (G bs).2.2 = q := ⟨_, rfl⟩
    have HUQ : Hid (colM G bs false = ((G bs).1, bs.drop u, decide (q ≠ 0))) := by unfold colM; rw [hu, hq]; rfl
    have HUL : Hid (u ≤ bs.length) := by rw [← hu]; exact hGk bs
    have HGP : Hid (Calls Try.prog K #[.slice ao n ca, .int .i64 256] W fun x w' => ∃ v, x = .returned (.tuple #[v, .int .i64 (u : Int), .int .i64 (q : Int)]) ∧ OwnI w' W.heap.size v (G bs).1 ∧ After W w') := by rw [← hu, ← hq]; exact HC.out
    clear h hr hat hc hz hK hGk HC HGK hn hu hq
    go_enter Try.func52, Try.ntmps52
    go_wp2_with (first
      | (go_at_fn K; refine Calls.mono HGP.out ?_; rintro e w1 ⟨v1, rfl, ho, ha⟩; have H1 := show Hid (OwnI w1 W.heap.size v1 (G bs).1 ∧ After W w1) from ⟨ho, ha⟩; clear ho ha)
      | (go_at_call 65; refine Calls.mono (passed_any (HT.out.after H1.out.2) u q HUL.out) ?_; rintro e w2 ⟨rfl, ht, hb⟩; have H2 := show Hid (Tk w0 tb (bs.drop u) (decide (q ≠ 0)) w2 ∧ But tb w1 w2) from ⟨ht, hb⟩; clear ht hb))
    go_ret
    rw [HUQ.out]
    exact ⟨_, rfl, H1.out.1.but H2.out.2 HT.out.lt, H2.out.1, But.trans (But.of_below H1.out.2) H2.out.2⟩

def countM (bs : List UInt8) (fl : Bool) : Nat × List UInt8 × Bool := if fl then (0, bs, true) else if 256 < guV bs then (0, bs.drop (guK bs), true) else (guV bs, bs.drop (guK bs), decide (guE bs ≠ 0))
theorem Tk.flag {w0 W : World} {tb : Nat} {bs : List UInt8} {fl : Bool} (h : Tk w0 tb bs fl W) : Tk w0 tb bs true (W.setCell ⟨tb, 1, none⟩ (.bool true)) ∧ But tb W (W.setCell ⟨tb, 1, none⟩ (.bool true)) := by
  obtain ⟨ao, ca, hr, h2⟩ := h.ex
  have hb : But tb W (W.setCell ⟨tb, 1, none⟩ (.bool true)) := (But.refl tb W).setCell 1 _
  exact ⟨⟨⟨ao, ca, hr.set 1 _, h2⟩, Below.setCell h.aft (p := ⟨tb, 1, none⟩) h.new _, h.new, h.big⟩, hb⟩
set_option maxRecDepth 100000 in
set_option maxHeartbeats 3200000 in
theorem count_any {w0 W : World} {tb : Nat} {bs : List UInt8} {fl : Bool} (h : Tk w0 tb bs fl W) :
    Calls Try.prog 55 #[.pointer (some ⟨tb, 0, none⟩)] W fun e w' => e = .returned (.int .i64 ((countM bs fl).1 : Int)) ∧ Tk w0 tb (countM bs fl).2.1 (countM bs fl).2.2 w' ∧ But tb W w' := by
  obtain ⟨ao, ca, hr, hat, hc, hz⟩ := h.ex
  have c0 := hr.cell (j := 0) rfl
  have c1 := hr.cell (j := 1) rfl
  have HT : Hid (Tk w0 tb bs fl W) := h
  cases fl with
  | true =>
    clear h hr hat hc hz
    go_enter Try.func55, Try.ntmps55
    go_wp2
    go_ret
    exact ⟨rfl, HT.out, But.refl _ _⟩
  | false =>
    obtain ⟨m, hm⟩ : ∃ m, guV bs = m := ⟨_, rfl⟩
    obtain ⟨u, hu⟩ : ∃ u, guK bs = u := ⟨_, rfl⟩
    obtain ⟨q, hq⟩ : ∃ q, guE bs = q := ⟨_, rfl⟩
    have HC := show Hid _ from gu_0 ao ca hc W (hat.after h.aft) hm hu hq
    obtain ⟨n, hn⟩ : ∃ n, bs.length = n := ⟨_, rfl⟩
    rw [hn] at c0 HC
    have hml : m < 18446744073709551616 := by rw [← hm]; exact guV_lt bs
    have HUL : Hid (u ≤ bs.length) := by rw [← hu]; exact guK_le bs
    have HM : Hid (countM bs false = if 256 < m then (0, bs.drop u, true) else (m, bs.drop u, decide (q ≠ 0))) := by unfold countM; rw [hm, hu, hq]; rfl
    clear h hr hat hc hz hn hm hu hq
    by_cases h256 : 256 < m
    · have hmz : (m : Int) > 256 := by omega
      go_enter Try.func55, Try.ntmps55
      go_wp2_with (first
        | (go_at_call 68; refine Calls.mono HC.out ?_; rintro e w1 ⟨rfl, ha⟩; have H1 := show Hid (After W w1) from ha; clear ha)
        | (go_at_call 65; refine Calls.mono (passed_any (HT.out.after H1.out) u q HUL.out) ?_; rintro e w2 ⟨rfl, ht, hb⟩; have H2 := show Hid (Tk w0 tb (bs.drop u) (decide (q ≠ 0)) w2 ∧ But tb w1 w2) from ⟨ht, hb⟩; obtain ⟨ao2, ca2, hr2, _⟩ := ht.ex; have d1 := hr2.cell (j := 1) rfl; have g1 := hr2.frozen 1; clear ht hb hr2))
      go_ret
      rw [HM.out, if_pos h256]
      exact ⟨rfl, H2.out.1.flag.1, But.trans (But.trans (But.of_below H1.out) H2.out.2) H2.out.1.flag.2⟩
    · have hmz : ¬ (m : Int) > 256 := by omega
      go_enter Try.func55, Try.ntmps55
      go_wp2_with (first
        | (go_at_call 68; refine Calls.mono HC.out ?_; rintro e w1 ⟨rfl, ha⟩; have H1 := show Hid (After W w1) from ha; clear ha)
        | (go_at_call 65; refine Calls.mono (passed_any (HT.out.after H1.out) u q HUL.out) ?_; rintro e w2 ⟨rfl, ht, hb⟩; have H2 := show Hid (Tk w0 tb (bs.drop u) (decide (q ≠ 0)) w2 ∧ But tb w1 w2) from ⟨ht, hb⟩; clear ht hb))
      go_ret
      rw [HM.out, if_neg h256]
      exact ⟨rfl, H2.out.1, But.trans (But.of_below H1.out) H2.out.2⟩
def textM (most : Int) (bs : List UInt8) (fl : Bool) : List UInt8 × List UInt8 × Bool := if fl then ([], bs, true) else (gtS bs most, bs.drop (gtK bs most), decide (gtE bs most ≠ 0))
set_option maxRecDepth 100000 in
set_option maxHeartbeats 3200000 in
theorem ttext_any (most : Int) (hm0 : -9223372036854775808 ≤ most) (hm1 : most ≤ 9223372036854775807) {w0 W : World} {tb : Nat} {bs : List UInt8} {fl : Bool} (h : Tk w0 tb bs fl W) :
    Calls Try.prog 57 #[.pointer (some ⟨tb, 0, none⟩), .int .i64 most] W fun e w' => e = .returned (.string (strOf (textM most bs fl).1)) ∧ Tk w0 tb (textM most bs fl).2.1 (textM most bs fl).2.2 w' ∧ But tb W w' := by
  obtain ⟨ao, ca, hr, hat, hc, hz⟩ := h.ex
  have c0 := hr.cell (j := 0) rfl
  have c1 := hr.cell (j := 1) rfl
  have HT : Hid (Tk w0 tb bs fl W) := h
  cases fl with
  | true =>
    clear h hr hat hc hz
    go_enter Try.func57, Try.ntmps57
    go_wp2
    go_ret
    exact ⟨rfl, HT.out, But.refl _ _⟩
  | false =>
    have hC := getText_any ao ca bs most hc (by have := h.big; omega) hm0 hm1 W (hat.after h.aft)
    obtain ⟨s, hs⟩ : ∃ s, gtS bs most = s := ⟨_, rfl⟩
    obtain ⟨u, hu⟩ : ∃ u, gtK bs most = u := ⟨_, rfl⟩
    obtain ⟨q, hq⟩ : ∃ q, gtE bs most = q := ⟨_, rfl⟩
    obtain ⟨n, hn⟩ : ∃ n, bs.length = n := ⟨_, rfl⟩
    rw [hs, hu, hq, hn] at hC
    have HC := show Hid _ from hC
    rw [hn] at c0
    have HUL : Hid (u ≤ bs.length) := by rw [← hu]; exact gtK_le bs most
    have HM : Hid (textM most bs false = (s, bs.drop u, decide (q ≠ 0))) := by unfold textM; rw [hs, hu, hq]; rfl
    clear h hr hat hc hz hn hs hu hq hC
    go_enter Try.func57, Try.ntmps57
    go_wp2_with (first
      | (go_at_call 69; refine Calls.mono HC.out ?_; rintro e w1 ⟨rfl, ha⟩; have H1 := show Hid (After W w1) from ha; clear ha)
      | (go_at_call 65; refine Calls.mono (passed_any (HT.out.after H1.out) u q HUL.out) ?_; rintro e w2 ⟨rfl, ht, hb⟩; have H2 := show Hid (Tk w0 tb (bs.drop u) (decide (q ≠ 0)) w2 ∧ But tb w1 w2) from ⟨ht, hb⟩; clear ht hb))
    go_ret
    rw [HM.out]
    exact ⟨rfl, H2.out.1, But.trans (But.of_below H1.out) H2.out.2⟩
/-- n texts. -/
def textsM (most : Int) : Nat → List UInt8 → Bool → List (List UInt8) × List UInt8 × Bool
  | 0, bs, fl => ([], bs, fl)
  | n + 1, bs, fl =>
    let t := textM most bs fl
    let r := textsM most n t.2.1 t.2.2
    (t.1 :: r.1, r.2)
theorem textsM_snoc (most : Int) : ∀ (n : Nat) (bs : List UInt8) (fl : Bool), textsM most (n + 1) bs fl = ((textsM most n bs fl).1 ++ [(textM most (textsM most n bs fl).2.1 (textsM most n bs fl).2.2).1], (textM most (textsM most n bs fl).2.1 (textsM most n bs fl).2.2).2)
  | 0, bs, fl => rfl
  | n + 1, bs, fl => by
    have ih := textsM_snoc most n (textM most bs fl).2.1 (textM most bs fl).2.2
    show ((textM most bs fl).1 :: (textsM most (n + 1) (textM most bs fl).2.1 (textM most bs fl).2.2).1, (textsM most (n + 1) (textM most bs fl).2.1 (textM most bs fl).2.2).2) = _
    rw [ih]
    rfl
theorem textsM_len (most : Int) : ∀ (n : Nat) (bs : List UInt8) (fl : Bool), (textsM most n bs fl).1.length = n
  | 0, _, _ => rfl
  | n + 1, bs, fl => by
    show ((textM most bs fl).1 :: (textsM most n (textM most bs fl).2.1 (textM most bs fl).2.2).1).length = n + 1
    rw [List.length_cons, textsM_len most n]
def strVs (l : List (List UInt8)) (n : Nat) : List Value := l.map (fun s => .string (strOf s)) ++ List.replicate (n - l.length) (.string ⟨#[]⟩)
theorem strVs_set {l : List (List UInt8)} {n : Nat} (h : l.length < n) (s : List UInt8) : (strVs l n).set l.length (.string (strOf s)) = strVs (l ++ [s]) n := by
  unfold strVs
  rw [List.set_append_right _ _ (by simp), List.length_map, Nat.sub_self]
  have : n - l.length = (n - (l ++ [s]).length) + 1 := by simp; omega
  rw [this, List.replicate_succ, List.set_cons_zero]
  simp
theorem info9 : (Try.prog.info? 9).map (fun i => (i.zero, i.size, i.bytes)) = some (some (.string ⟨#[]⟩), 1, 16) := by kernel_rfl
theorem made_str (c : Nat) : madeCells (Value.cells (.string ⟨#[]⟩)) c = (List.replicate c (Value.string ⟨#[]⟩)).toArray := by
  apply Array.ext_getElem?
  intro i
  simp only [madeCells]
  by_cases h : i < c
  · simp [h, Value.cells, Nat.mod_one]
  · simp [h]
theorem make_strs (W : World) (n : Nat) (hn : n ≤ 1048576) :
    (Instr.makeSlice 45 (.int .i64 (n : Int)) (.int .i64 (n : Int))).run Try.prog W = .ok (.slice (some ⟨W.heap.size, 0, none⟩) n n) (W.alloc (.cells (strVs [] n).toArray 9)) := by
  obtain ⟨i, hi, hz⟩ := Option.map_eq_some_iff.1 info9
  simp only [Prod.mk.injEq] at hz
  obtain ⟨hz, hsz, hby⟩ := hz
  have := run_make (P := Try.prog) W 45 9 i (.string ⟨#[]⟩) Try.underlying45 hi hz .i64 .i64 n n (by omega) (by omega) (by rw [hby]; omega) (by omega)
  rw [this, hsz, Nat.mul_one, Int.toNat_natCast, made_str]
  simp [strVs]
structure TsI (w0 W : World) (tb g n : Nat) (most : Int) (bs : List UInt8) (fl : Bool) (i : Nat) (wr : World) : Prop where
  row : RowIs wr g 9 (strVs (textsM most i bs fl).1 n)
  tk : Tk w0 tb (textsM most i bs fl).2.1 (textsM most i bs fl).2.2 wr
  but : But tb W wr
  new : W.heap.size ≤ g
set_option maxRecDepth 100000 in
set_option maxHeartbeats 3200000 in
theorem texts_any (most : Int) (hm0 : -9223372036854775808 ≤ most) (hm1 : most ≤ 9223372036854775807) {w0 W : World} {tb : Nat} {bs : List UInt8} {fl : Bool} (h : Tk w0 tb bs fl W) (n : Nat) (hn : n ≤ 1000) :
    Calls Try.prog 54 #[.pointer (some ⟨tb, 0, none⟩), .int .i64 (n : Int), .int .i64 most] W fun e w' => ∃ g, e = .returned (.slice (some ⟨g, 0, none⟩) n n) ∧ TsI w0 W tb g n most bs fl n w' := by
  have hmk := make_strs W n (by omega)
  have htb := h.lt
  have hw0 := h.aft.size
  have HI0 : Hid (TsI w0 W tb W.heap.size n most bs fl 0 (W.alloc (.cells (strVs [] n).toArray 9))) := ⟨RowIs.new W 9 (strVs [] n), h.after (after_alloc (After.refl W) _), But.of_below (after_alloc (After.refl W) _), Nat.le_refl _⟩
  clear h
  go_enter Try.func54, Try.ntmps54
  go_wp2_with fail
  obtain ⟨g, hg⟩ : ∃ g, W.heap.size = g := ⟨_, rfl⟩
  obtain ⟨w1, hw1⟩ : ∃ w1, W.alloc (.cells (strVs [] n).toArray 9) = w1 := ⟨_, rfl⟩
  have HG : Hid (W.heap.size = g) := hg
  rw [hw1] at HI0
  rw [hw1]
  have HI1 : Hid (TsI w0 W tb g n most bs fl 0 w1) := by rw [← hg]; exact HI0.out
  have hgt : g ≠ tb := by omega
  rw [hg]
  clear hw1 hg HI0 hmk
  go_loopw [13] (fun vi wr => ∃ i : Nat, vi = .int .i64 (i : Int) ∧ i ≤ n ∧ Hid (TsI w0 W tb g n most bs fl i wr)) (fun vi _ => n - (intOf vi).toNat)
  case atStart => exact ⟨0, rfl, Nat.zero_le _, HI1.out⟩
  case round =>
    obtain ⟨i, rfl, hin, HI⟩ := hrel
    by_cases hlt : i < n
    · have hii : (i : Int) < (n : Int) := by omega
      have HLI : Hid ((textsM most i bs fl).1.length = i) := textsM_len most i bs fl
      obtain ⟨T, hT⟩ : ∃ T, textsM most i bs fl = T := ⟨_, rfl⟩
      obtain ⟨U, hU⟩ : ∃ U, textM most T.2.1 T.2.2 = U := ⟨_, rfl⟩
      have HTU : Hid (textsM most (i + 1) bs fl = (T.1 ++ [U.1], U.2)) := by unfold Hid; rw [textsM_snoc, hT, hU]
      have HROW : Hid (RowIs wr g 9 (strVs T.1 n) ∧ T.1.length = i) := by rw [← hT]; exact ⟨HI.out.row, HLI.out⟩
      have HTK : Hid (Tk w0 tb T.2.1 T.2.2 wr) := by rw [← hT]; exact HI.out.tk
      have HC := show Hid _ from ttext_any most hm0 hm1 HTK.out
      rw [hU] at HC
      clear hT hU HLI
      go_wp2_with (go_at_call 57; refine Calls.mono HC.out ?_; rintro e w3 ⟨rfl, ht, hb⟩; have H3 := show Hid (Tk w0 tb U.2.1 U.2.2 w3 ∧ But tb wr w3) from ⟨ht, hb⟩; have hr3 := hb.row HROW.out.1 hgt; have HR3 := show Hid (RowIs _ _ _ _) from hr3; have d0 := hr3.cell (j := i) (v := (strVs T.1 n)[i]?.getD undef) (by rw [List.getElem?_eq_getElem (by simp [strVs]; have := HROW.out.2; omega)]; rfl); have g0 := hr3.frozen i; clear ht hb hr3)
      go_roundw
      case rel =>
        have hr := HR3.out.set i (.string (strOf U.1))
        have hs := strVs_set (l := T.1) (n := n) (by rw [HROW.out.2]; exact hlt) U.1
        rw [HROW.out.2] at hs
        rw [hs] at hr
        have hb4 : But g w3 (w3.setCell ⟨g, i, none⟩ (.string (strOf U.1))) := (But.refl g w3).setCell i _
        obtain ⟨ao3, ca3, hx1, hx2⟩ := H3.out.1.ex
        refine ⟨i + 1, by go_num, by omega, by rw [HTU.out]; exact hr, ?_, ?_, HI.out.new⟩
        · rw [HTU.out]
          exact ⟨⟨ao3, ca3, hb4.row hx1 (Ne.symm hgt), hx2⟩, Below.setCell H3.out.1.aft (p := ⟨g, i, none⟩) (by have h1 := HI.out.new; have h2 := HI.out.tk.new; have h3 := H3.out.1.aft.size; have h4 := HTK.out.aft.size; have h5 := HI1.out.tk.new; have h6 := htb; show w0.heap.size ≤ g; omega) _, H3.out.1.new, H3.out.1.big⟩
        · exact ⟨hb4.os.trans ((But.trans HI.out.but H3.out.2).os), hb4.tape.trans ((But.trans HI.out.but H3.out.2).tape), hb4.output.trans ((But.trans HI.out.but H3.out.2).output), Nat.le_trans (But.trans HI.out.but H3.out.2).size hb4.size, fun k hk hne => (hb4.block k (Nat.lt_of_lt_of_le hk (But.trans HI.out.but H3.out.2).size) (by have := HG.out; omega)).trans ((But.trans HI.out.but H3.out.2).block k hk hne)⟩
      case measure => simp [intOf]; omega
    · obtain rfl : i = n := by omega
      have hii : ¬ (i : Int) < (i : Int) := by omega
      go_wp2
      go_ret
      exact ⟨g, rfl, HI.out⟩
end Go.Proofs.Ytpplnomomcdemaa
