/-
  leb: LMethods LHashFn (of leb's own seat, carried over).
-/
import Derived.Test.YtcmcapcagblafaaLD
namespace Go.Proofs.Ytcmcapcagblafaa
section
open Go.RowKit Leb
/-- What a reader's calls leave and tell. -/
def suV (bs : List UInt8) (e most : Nat) : Nat := if e = 0 then ruV bs most else 0
def suB (bs : List UInt8) (e most : Nat) : List UInt8 := if e = 0 then bs.drop (ruK bs most) else bs
def suE (bs : List UInt8) (e most : Nat) : Nat := if e = 0 then ruE bs most else e
def ltS (bs : List UInt8) (e : Nat) (most : Int) : List UInt8 := if e = 0 then gtS bs most else []
def stB (bs : List UInt8) (e : Nat) (most : Int) : List UInt8 := if e = 0 then bs.drop (gtK bs most) else bs
def stE (bs : List UInt8) (e : Nat) (most : Int) : Nat := if e = 0 then gtE bs most else e
def sdE (bs : List UInt8) (e : Nat) : Nat := if e = 0 then (if bs.length = 0 then 0 else 7) else e
/-- Behind a call: the reader as it is then; all else as it was. -/
def Nx (g : Nat) (w : World) (ao : Option Addr) (bs : List UInt8) (e : Nat) (w' : World) : Prop :=
  ∃ ao' cap', Rd w' g bs e ao' cap' ∧ But g w w' ∧ ∀ a, ao' = some a → ∃ b, ao = some b ∧ b.block = a.block
theorem But.pre {g : Nat} {w w1 w2 : World} (h : After w w1) (k : But g w1 w2) : But g w w2 := (But.of_below h).trans k
theorem Nx.same {g : Nat} {w w1 : World} {ao : Option Addr} {cap : Nat} {bs : List UInt8} {e : Nat} (h : Rd w1 g bs e ao cap) (hA : After w w1) : Nx g w ao bs e w1 :=
  ⟨ao, cap, h, But.of_below hA, fun a ha => ⟨a, ha, rfl⟩⟩
theorem box_cell (w : World) (v : Value) (t : TypeId) : (w.alloc (.cells #[v] t)).cell? ⟨w.heap.size, 0, none⟩ = some v := (RowIs.new w t [v]).cell rfl
set_option maxRecDepth 100000 in
set_option maxHeartbeats 400000 in
theorem rUint_any (g : Nat) (bs : List UInt8) (e : Nat) (ao : Option Addr) (cap most : Nat) (w : World) (hR : Rd w g bs e ao cap) :
    Calls Try.prog 73 #[.pointer (some ⟨g, 0, none⟩), .int .u64 (most : Int)] w fun x w' => x = .returned (.int .u64 (suV bs e most : Int)) ∧ Nx g w ao (suB bs e most) (suE bs e most) w' := by
  have hA : After w (w.alloc (.cells #[.int .u64 (most : Int)] 59)) := after_alloc (After.refl w) _
  have HR : Hid (Rd (w.alloc (.cells #[.int .u64 (most : Int)] 59)) g bs e ao cap) := hR.after hA
  clear hR
  by_cases he : e = 0
  · subst he
    have e1 : suV bs 0 most = ruV bs most := rfl
    have e2 : suB bs 0 most = bs.drop (ruK bs most) := rfl
    have e3 : suE bs 0 most = ruE bs most := rfl
    rw [e1, e2, e3]
    clear e1 e2 e3
    go_enter Try.func73, Try.ntmps73
    go_wp2_with (go_at_call 88; refine (takenU_ok g bs ao cap most w.heap.size _ HR.out (box_cell w _ _)).mono ?_; rintro x w1 ⟨rfl, hr1, hb1⟩)
    go_ret
    exact ⟨rfl, _, _, hr1, But.pre hA hb1, fun a ha => cutAt_block ha⟩
  · have e1 : suV bs e most = 0 := if_neg he
    have e2 : suB bs e most = bs := if_neg he
    have e3 : suE bs e most = e := if_neg he
    rw [e1, e2, e3]
    clear e1 e2 e3
    go_enter Try.func73, Try.ntmps73
    go_wp2_with (go_at_call 88; refine (takenU_err g bs e he ao cap _ _ HR.out).mono ?_; rintro x w1 ⟨rfl, rfl⟩)
    go_ret
    exact ⟨rfl, Nx.same HR.out hA⟩
set_option maxRecDepth 100000 in
set_option maxHeartbeats 400000 in
theorem rText_any (g : Nat) (bs : List UInt8) (e : Nat) (ao : Option Addr) (cap : Nat) (most : Int) (hm0 : -9223372036854775808 ≤ most) (hm1 : most ≤ 9223372036854775807) (hbig : bs.length ≤ 281474976710656) (w : World) (hR : Rd w g bs e ao cap) :
    Calls Try.prog 55 #[.pointer (some ⟨g, 0, none⟩), .int .i64 most] w fun x w' => x = .returned (.string (strOf (ltS bs e most))) ∧ Nx g w ao (stB bs e most) (stE bs e most) w' := by
  have hA : After w (w.alloc (.cells #[.int .i64 most] 3)) := after_alloc (After.refl w) _
  have HR : Hid (Rd (w.alloc (.cells #[.int .i64 most] 3)) g bs e ao cap) := hR.after hA
  clear hR
  by_cases he : e = 0
  · subst he
    have e1 : ltS bs 0 most = gtS bs most := rfl
    have e2 : stB bs 0 most = bs.drop (gtK bs most) := rfl
    have e3 : stE bs 0 most = gtE bs most := rfl
    rw [e1, e2, e3]
    clear e1 e2 e3
    go_enter Try.func55, Try.ntmps55
    go_wp2_with (go_at_call 74; refine (takenS_ok g bs ao cap most hm0 hm1 hbig w.heap.size _ HR.out (box_cell w _ _)).mono ?_; rintro x w1 ⟨rfl, hr1, hb1⟩)
    go_ret
    exact ⟨rfl, _, _, hr1, But.pre hA hb1, fun a ha => cutAt_block ha⟩
  · have e1 : ltS bs e most = [] := if_neg he
    have e2 : stB bs e most = bs := if_neg he
    have e3 : stE bs e most = e := if_neg he
    rw [e1, e2, e3]
    clear e1 e2 e3
    go_enter Try.func55, Try.ntmps55
    go_wp2_with (go_at_call 74; refine (takenS_err g bs e he ao cap _ _ HR.out).mono ?_; rintro x w1 ⟨rfl, rfl⟩)
    go_ret
    exact ⟨rfl, Nx.same HR.out hA⟩
set_option maxHeartbeats 400000 in
theorem rLeft_any (g : Nat) (bs : List UInt8) (e : Nat) (ao : Option Addr) (cap : Nat) (w : World) (hR : Rd w g bs e ao cap) :
    Calls Try.prog 61 #[.pointer (some ⟨g, 0, none⟩)] w fun x w' => x = .returned (.int .i64 (bs.length : Int)) ∧ w' = w := by
  have c0 : w.cell? ⟨g, 0, none⟩ = some (.slice ao bs.length cap) := hR.row.cell rfl
  clear hR
  go_enter Try.func61, Try.ntmps61
  go_wp2
  go_ret
  exact ⟨rfl, rfl⟩
set_option maxHeartbeats 400000 in
theorem rErr_any (g : Nat) (bs : List UInt8) (e : Nat) (ao : Option Addr) (cap : Nat) (w : World) (hR : Rd w g bs e ao cap) :
    Calls Try.prog 60 #[.pointer (some ⟨g, 0, none⟩)] w fun x w' => x = .returned (.int .i64 (e : Int)) ∧ w' = w := by
  have c1 : w.cell? ⟨g, 1, none⟩ = some (.int .i64 (e : Int)) := hR.row.cell rfl
  clear hR
  go_enter Try.func60, Try.ntmps60
  go_wp2
  go_ret
  exact ⟨rfl, rfl⟩
set_option maxHeartbeats 400000 in
theorem rDone_any (g : Nat) (bs : List UInt8) (e : Nat) (ao : Option Addr) (cap : Nat) (w : World) (hR : Rd w g bs e ao cap) :
    Calls Try.prog 29 #[.pointer (some ⟨g, 0, none⟩)] w fun x w' => x = .returned (.int .i64 (sdE bs e : Int)) ∧ w' = w := by
  have HR : Hid (Rd w g bs e ao cap) := hR
  clear hR
  by_cases he : e = 0
  · subst he
    by_cases hl : bs.length = 0
    · have e1 : sdE bs 0 = 0 := by simp [sdE, hl]
      rw [e1]
      clear e1
      go_enter Try.func29, Try.ntmps29
      go_wp2_with (first
        | (go_at_call 60; refine (rErr_any g bs 0 ao cap _ HR.out).mono ?_; rintro x w1 ⟨rfl, rfl⟩)
        | (go_at_call 61; refine (rLeft_any g bs 0 ao cap _ HR.out).mono ?_; rintro x w1 ⟨rfl, rfl⟩))
      go_ret
      exact ⟨rfl, rfl⟩
    · have e1 : sdE bs 0 = 7 := by simp only [sdE, if_pos, if_neg hl]
      rw [e1]
      clear e1
      go_enter Try.func29, Try.ntmps29
      go_wp2_with (first
        | (go_at_call 60; refine (rErr_any g bs 0 ao cap _ HR.out).mono ?_; rintro x w1 ⟨rfl, rfl⟩)
        | (go_at_call 61; refine (rLeft_any g bs 0 ao cap _ HR.out).mono ?_; rintro x w1 ⟨rfl, rfl⟩))
      go_ret
      exact ⟨rfl, rfl⟩
  · have e1 : sdE bs e = e := by simp only [sdE, if_neg he]
    rw [e1]
    clear e1
    go_enter Try.func29, Try.ntmps29
    go_wp2_with (first
      | (go_at_call 60; refine (rErr_any g bs e ao cap _ HR.out).mono ?_; rintro x w1 ⟨rfl, rfl⟩)
      | (go_at_call 61; refine (rLeft_any g bs e ao cap _ HR.out).mono ?_; rintro x w1 ⟨rfl, rfl⟩))
    go_ret
    exact ⟨rfl, rfl⟩
end
section
open Go.RowKit Leb
def ghH (bs : List UInt8) : List UInt8 := if bs.length < 32 then zeroHash else bs.take 32
def ghK (bs : List UInt8) : Nat := if bs.length < 32 then 0 else 32
def ghE (bs : List UInt8) : Nat := if bs.length < 32 then 3 else 0
theorem ghH_len (bs : List UInt8) : (ghH bs).length = 32 := by unfold ghH; split; rfl; simp; omega
theorem ghK_le (bs : List UInt8) : ghK bs ≤ bs.length := by unfold ghK; split <;> omega
theorem results_cell_two {fn : Func} {p q r : Tmp} {ty : TypeId} (h : fn.results = #[.cell p ty, .tmp q, .tmp r]) (tmps : Array Value) (w : World) (g : Nat) (t : TypeId) (cs : Array Value) (fr : Nat × Nat) (n : Nat) (e : TypeId)
    (hp : tmps.getD p undef = .pointer (some ⟨g, 0, none⟩)) (hg : w.heap[g]? = some (.cells cs t fr))
    (hu : Try.prog.underlying ty = some (.array n e)) (hi : (Try.prog.info? ty).map (·.size) = some cs.size) (v u : Value) (hv : tmps.getD q undef = v) (hu' : tmps.getD r undef = u) :
    (results fn tmps).run Try.prog w = .ok (.tuple #[.agg cs, v, u]) w := by
  have hp' : tmps[p]?.getD undef = .pointer (some ⟨g, 0, none⟩) := by simpa using hp
  have hv' : tmps[q]?.getD undef = v := by simpa using hv
  have hu2 : tmps[r]?.getD undef = u := by simpa using hu'
  simp [results, h, hp', hv', hu2, asAddr, run_loadVar_row w g t ty cs fr _ hg hu rfl hi]
theorem array_at (b o cap : Nat) (W : World) : (Instr.arrayAt 43 (.slice (some ⟨b, o, none⟩) 32 cap)).run Try.prog W = .ok (.pointer (some ⟨b, o, none⟩)) W := by
  simp [Instr.arrayAt, run_underlying Try.underlying43]
theorem BytesAt.range {w : World} {b o : Nat} {bs : List UInt8} (h : BytesAt w (some ⟨b, o, none⟩) bs) : w.rangeAt b o (c8 bs) := fun j v hv => by
  have hj := (List.getElem?_eq_some_iff.1 hv).1
  rw [c8_len] at hj
  obtain ⟨b', o', he, hc⟩ := h (by intro h; simp [h] at hj)
  cases he
  rw [c8_get bs j hj] at hv
  rw [hc j hj, hv]
set_option maxRecDepth 100000 in
set_option maxHeartbeats 400000 in
theorem hashFn_any (ao : Option Addr) (cap : Nat) (bs : List UInt8) (hcap : bs.length ≤ cap) (w : World) (hat : BytesAt w ao bs) :
    Calls Try.prog 78 #[.slice ao bs.length cap] w fun e w' => e = .returned (.tuple #[.agg (c8 (ghH bs)).toArray, .int .i64 (ghK bs : Int), .int .i64 (ghE bs : Int)]) ∧ Below w.heap.size w w' := by
  have hA : After w (w.alloc Z61) := after_alloc (After.refl w) _
  have R0 : Hid (RowIs (w.alloc Z61) w.heap.size 43 (c8 zeroHash)) := RowIs.new w 43 (c8 zeroHash)
  by_cases h32 : bs.length < 32
  · have e1 : ghH bs = zeroHash := if_pos h32
    have e2 : ghK bs = 0 := if_pos h32
    have e3 : ghE bs = 3 := if_pos h32
    rw [e1, e2, e3]
    clear e1 e2 e3
    go_enter Try.func78, Try.ntmps78
    go_wp2_with (first
      | (refine wpList_load_row rfl 43 (.tmp 2) rfl w.heap.size rfl 43 (c8 zeroHash).toArray (0, 0) _ R0.out Try.underlying43 rfl zsize ?_)
      | (refine wpList_store_row rfl 43 (.tmp 2) (.tmp 8) rfl w.heap.size (c8 zeroHash).toArray rfl rfl 43 (c8 zeroHash).toArray R0.out zsize rfl (all_oneCell_toArray (c8_one _)) ?_))
    exact bodyPost_ret (results_cell_two Try.results78 _ _ w.heap.size 43 _ (0, 0) _ _ rfl (RowIs.setRow R0.out _) Try.underlying43 zsize _ _ rfl rfl) rfl ⟨rfl, Below.row hA (Nat.le_refl _) _⟩
  · have e1 : ghH bs = bs.take 32 := if_neg h32
    have e2 : ghK bs = 32 := if_neg h32
    have e3 : ghE bs = 0 := if_neg h32
    rw [e1, e2, e3]
    clear e1 e2 e3
    obtain ⟨b, o, rfl, _⟩ := hat (by intro h; simp [h] at h32)
    have hl : (bs.take 32).length = 32 := by simp; omega
    have RG : Hid ((w.alloc Z61).rangeAt b o (c8 (bs.take 32))) := ((hat.after hA).take 32).range
    have hsl := fun W => slice_hi b o bs.length cap 32 (by omega) W
    have hs1 : ∀ W : World, (Instr.sliceAt 26 (.slice (some ⟨b, o, none⟩) bs.length cap) none (some (.int .i64 32)) none).run Try.prog W = .ok (.slice (some ⟨b, o, none⟩) 32 cap) W := hsl
    have har := fun W => array_at b o cap W
    have hz : (Try.prog.info? 43).map (·.size) = some (c8 (bs.take 32)).length := by rw [c8_len, hl]; exact size61
    have HZ1 := show Hid _ from hz
    have HZ2 : Hid ((c8 (bs.take 32)).toArray.size = 32) := by unfold Hid; simp only [List.size_toArray, c8_len, hl]
    clear hsl hat hz hl
    go_enter Try.func78, Try.ntmps78
    go_wp2_with (first
      | (refine wpList_load_mid rfl 43 (.tmp 11) rfl b o rfl (c8 (bs.take 32)) _ RG.out Try.underlying43 rfl HZ1.out ?_)
      | (refine wpList_store_row rfl 43 (.tmp 2) (.tmp 12) rfl w.heap.size (c8 (bs.take 32)).toArray rfl rfl 43 (c8 zeroHash).toArray R0.out (by rw [HZ2.out]; exact size61) (by rw [HZ2.out]; rfl) (all_oneCell_toArray (c8_one _)) ?_))
    exact bodyPost_ret (results_cell_two Try.results78 _ _ w.heap.size 43 _ (0, 0) _ _ rfl (RowIs.setRow R0.out _) Try.underlying43 (by rw [HZ2.out]; exact size61) _ _ rfl rfl) rfl ⟨rfl, Below.row hA (Nat.le_refl _) _⟩
theorem with_world {p : World → Prop} {W : World} (F : World → Prop) (h : F W) (k : ∀ W', F W' → p W') : p W := k W h
theorem after_row {w w1 : World} (hb : Below w.heap.size w w1) (H : List UInt8) : After w ((w1.alloc (.cells (c8 zeroHash).toArray 43)).setRow w1.heap.size (c8 H).toArray) ∧ RowIs ((w1.alloc (.cells (c8 zeroHash).toArray 43)).setRow w1.heap.size (c8 H).toArray) w1.heap.size 43 (c8 H) :=
  ⟨Below.row (Below.alloc hb hb.size _) hb.size _, RowIs.setRow (RowIs.new w1 43 (c8 zeroHash)) _⟩
theorem But.setRowNew {g g' : Nat} {a b : World} (h : But g a b) (hg : a.heap.size ≤ g') (cs : Array Value) : But g a (b.setRow g' cs) :=
  ⟨h.os, h.tape, h.output, by have := h.size; simpa using this, fun k hk hne => by rw [Go.setRow_other b g' k cs (by omega)]; exact h.block k hk hne⟩
set_option maxRecDepth 100000 in
set_option maxHeartbeats 400000 in
theorem takenH_err (g : Nat) (bs : List UInt8) (e : Nat) (he : ¬ e = 0) (ao : Option Addr) (cap : Nat) (f : Value) (w : World) (hR : Rd w g bs e ao cap) :
    Calls Try.prog 77 #[.pointer (some ⟨g, 0, none⟩), f] w fun x w' => x = .returned (.agg (c8 zeroHash).toArray) ∧ After w w' := by
  have c1 : w.cell? ⟨g, 1, none⟩ = some (.int .i64 (e : Int)) := hR.row.cell rfl
  have R0 : Hid (RowIs ((w.alloc Z61).alloc Z61) w.heap.size 43 (c8 zeroHash)) := (RowIs.new w 43 (c8 zeroHash)).alloc Z61
  have R1 : Hid (RowIs ((w.alloc Z61).alloc Z61) (w.heap.size + 1) 43 (c8 zeroHash)) := by
    have := RowIs.new (w.alloc Z61) 43 (c8 zeroHash)
    rw [show (w.alloc Z61).heap.size = w.heap.size + 1 by simp] at this
    exact this
  have c2 : ∀ o : Obj, (w.alloc o).cell? ⟨g, 1, none⟩ = some (.int .i64 (e : Int)) := fun o => (hR.row.alloc o).cell rfl
  clear hR c1
  go_enter Try.func77, Try.ntmps77
  go_wp2_with (first
    | (refine wpList_load_row rfl 43 (.tmp 5) rfl (w.heap.size + 1) rfl 43 (c8 zeroHash).toArray (0, 0) _ R1.out Try.underlying43 rfl zsize ?_)
    | (refine wpList_store_row rfl 43 (.tmp 4) (.tmp 19) rfl w.heap.size (c8 zeroHash).toArray rfl rfl 43 (c8 zeroHash).toArray R0.out zsize rfl (all_oneCell_toArray (c8_one _)) ?_))
  exact bodyPost_ret (v := .agg (c8 zeroHash).toArray) (results_cell_row Try.results77 _ _ w.heap.size 43 _ (0, 0) _ rfl (RowIs.setRow R0.out _) Try.underlying43 rfl zsize) rfl ⟨rfl, Below.row (((Below.refl _ _).alloc (Nat.le_refl _) _).alloc (by simp) _) (Nat.le_refl _) _⟩
set_option maxRecDepth 100000 in
set_option maxHeartbeats 400000 in
theorem takenH_ok (g : Nat) (bs : List UInt8) (ao : Option Addr) (cap : Nat) (w : World) (hR : Rd w g bs 0 ao cap) :
    Calls Try.prog 77 #[.pointer (some ⟨g, 0, none⟩), .func (.func 78) #[] #[]] w fun x w' => x = .returned (.agg (c8 (ghH bs)).toArray) ∧ Rd w' g (bs.drop (ghK bs)) (ghE bs) (cutAt ao (ghK bs) bs.length) (bs.length - ghK bs) ∧ But g w w' := by
  have HR0 : Hid (Rd w g bs 0 ao cap) := hR
  have hglt := hR.row.lt
  have HG : w.heap.size ≠ g := by omega
  have hR1 : Rd (w.alloc Z61) g bs 0 ao cap := hR.after (after_alloc (After.refl w) Z61)
  have HR : Hid (Rd (w.alloc Z61) g bs 0 ao cap) := hR1
  have c0 : ∀ o : Obj, (w.alloc o).cell? ⟨g, 0, none⟩ = some (.slice ao bs.length cap) := fun o => (hR.row.alloc o).cell rfl
  have c1 : ∀ o : Obj, (w.alloc o).cell? ⟨g, 1, none⟩ = some (.int .i64 0) := fun o => (hR.row.alloc o).cell rfl
  have hkl := ghK_le bs
  have hhl := ghH_len bs
  obtain ⟨k, hk⟩ : ∃ k, ghK bs = k := ⟨_, rfl⟩
  obtain ⟨q, hq⟩ : ∃ k, ghE bs = k := ⟨_, rfl⟩
  obtain ⟨H, hn⟩ : ∃ k, ghH bs = k := ⟨_, rfl⟩
  have HC : Hid (∀ W, BytesAt W ao bs → Calls Try.prog 78 #[.slice ao bs.length cap] W fun e w' => e = .returned (.tuple #[.agg (c8 H).toArray, .int .i64 (k : Int), .int .i64 (q : Int)]) ∧ Below W.heap.size W w') := fun W h1 => by
    have := hashFn_any ao cap bs hR.cap W h1
    rw [hk, hq, hn] at this
    exact this
  rw [hk] at hkl
  rw [hn] at hhl
  rw [hk, hq, hn]
  have HZ : Hid ((c8 H).toArray.size = 32) := by unfold Hid; simp only [List.size_toArray, c8_len, hhl]
  have HZS : Hid ((c8 zeroHash).toArray.size = (c8 H).toArray.size) := HZ.out.symm
  have hsl := fun W => slice_three ao bs.length cap k (fun h => by rw [hR.nil h]; rfl) hR.cap hkl W
  clear hk hq hn hR hR1 hhl
  by_cases h0 : q = 0
  · subst h0
    go_enter Try.func77, Try.ntmps77
    go_wp2_with (first
      | (go_at_call 78; refine (HC.out _ HR.out.at').mono ?_; rintro e w1 ⟨rfl, hb1⟩)
      | (refine wpList_store_row rfl 43 (.tmp 6) (.tmp 27) rfl w1.heap.size (c8 H).toArray rfl rfl 43 (c8 zeroHash).toArray (RowIs.new w1 43 (c8 zeroHash)) (by rw [HZ.out]; exact size61) HZS.out (all_oneCell_toArray (c8_one _)) ?_; refine with_world (p := fun W => wpList _ _ _ _ _ W) (fun W => After (w.alloc Z61) W ∧ RowIs W w1.heap.size 43 (c8 H)) (after_row hb1 H) ?_; intro W2 hW2; have HAW : Hid (After (w.alloc Z61) W2) := hW2.1; have HR6 : Hid (RowIs W2 w1.heap.size 43 (c8 H)) := hW2.2; have hg6 : w.heap.size < w1.heap.size := Nat.lt_of_lt_of_le (show w.heap.size < (w.alloc Z61).heap.size by simp) hb1.size; clear hW2 hb1; have HRW : Hid (RowIs W2 g 88 [.slice ao bs.length cap, .int .i64 0]) := (HR.out.after HAW.out).row; have d0 : W2.cell? ⟨g, 0, none⟩ = some (.slice ao bs.length cap) := RowIs.cell (cs := [.slice ao bs.length cap, .int .i64 0]) HRW.out rfl; have d1 := RowIs.frozen (cs := [.slice ao bs.length cap, .int .i64 0]) HRW.out 0; have d2 := RowIs.frozen (cs := [.slice ao bs.length cap, .int .i64 0]) HRW.out 1; have d3 : W2.cell? ⟨g, 1, none⟩ = some (.int .i64 0) := RowIs.cell (cs := [.slice ao bs.length cap, .int .i64 0]) HRW.out rfl; have HN : w1.heap.size ≠ g := (by omega); generalize w1.heap.size = g6 at *; have L6 : Hid (RowIs (W2.setCell ⟨g, 0, none⟩ (.slice (cutAt ao k bs.length) (bs.length - k) (bs.length - k))) g6 43 (c8 H)) := (RowIs.other HR6.out _ _ HN); have L4 : Hid (RowIs (W2.setCell ⟨g, 0, none⟩ (.slice (cutAt ao k bs.length) (bs.length - k) (bs.length - k))) w.heap.size 43 (c8 zeroHash)) := (RowIs.other (RowIs.below (RowIs.new w 43 (c8 zeroHash)) HAW.out (by simp)) _ _ HG))
      | (refine wpList_load_row rfl 43 (.tmp 6) rfl g6 rfl 43 (c8 H).toArray (0, 0) _ L6.out Try.underlying43 rfl (by rw [HZ.out]; exact size61) ?_)
      | (refine wpList_store_row rfl 43 (.tmp 4) (.tmp 53) rfl w.heap.size (c8 H).toArray rfl rfl 43 (c8 zeroHash).toArray L4.out (by rw [HZ.out]; exact size61) HZS.out (all_oneCell_toArray (c8_one _)) ?_))
    have hR4 : RowIs (W2.setCell ⟨g, 0, none⟩ (.slice (cutAt ao k bs.length) (bs.length - k) (bs.length - k))) w.heap.size 43 (c8 zeroHash) := L4.out
    have hB0 : But g (w.alloc Z61) (W2.setCell ⟨g, 0, none⟩ (.slice (cutAt ao k bs.length) (bs.length - k) (bs.length - k))) := ((But.of_below HAW.out).setCell 0 (.slice (cutAt ao k bs.length) (bs.length - k) (bs.length - k)))
    have hB : But g w ((W2.setCell ⟨g, 0, none⟩ (.slice (cutAt ao k bs.length) (bs.length - k) (bs.length - k))).setRow w.heap.size (c8 H).toArray) := ((But.of_below (after_alloc (After.refl w) Z61)).trans hB0).setRowNew (Nat.le_refl _) _
    exact bodyPost_ret (v := .agg (c8 H).toArray) (results_cell_row Try.results77 _ _ w.heap.size 43 _ (0, 0) _ rfl (RowIs.setRow hR4 _) Try.underlying43 rfl (by rw [HZ.out]; exact size61)) rfl ⟨rfl, HR0.out.next k 0 _ hB (RowIs.setRow_other (RowIs.set (cs := [.slice ao bs.length cap, .int .i64 0]) HRW.out 0 (.slice (cutAt ao k bs.length) (bs.length - k) (bs.length - k))) _ (fun h => HG h.symm)), hB⟩

  · go_enter Try.func77, Try.ntmps77
    go_wp2_with (first
      | (go_at_call 78; refine (HC.out _ HR.out.at').mono ?_; rintro e w1 ⟨rfl, hb1⟩)
      | (refine wpList_store_row rfl 43 (.tmp 6) (.tmp 27) rfl w1.heap.size (c8 H).toArray rfl rfl 43 (c8 zeroHash).toArray (RowIs.new w1 43 (c8 zeroHash)) (by rw [HZ.out]; exact size61) HZS.out (all_oneCell_toArray (c8_one _)) ?_; refine with_world (p := fun W => wpList _ _ _ _ _ W) (fun W => After (w.alloc Z61) W ∧ RowIs W w1.heap.size 43 (c8 H)) (after_row hb1 H) ?_; intro W2 hW2; have HAW : Hid (After (w.alloc Z61) W2) := hW2.1; have HR6 : Hid (RowIs W2 w1.heap.size 43 (c8 H)) := hW2.2; have hg6 : w.heap.size < w1.heap.size := Nat.lt_of_lt_of_le (show w.heap.size < (w.alloc Z61).heap.size by simp) hb1.size; clear hW2 hb1; have HRW : Hid (RowIs W2 g 88 [.slice ao bs.length cap, .int .i64 0]) := (HR.out.after HAW.out).row; have d0 : W2.cell? ⟨g, 0, none⟩ = some (.slice ao bs.length cap) := RowIs.cell (cs := [.slice ao bs.length cap, .int .i64 0]) HRW.out rfl; have d1 := RowIs.frozen (cs := [.slice ao bs.length cap, .int .i64 0]) HRW.out 0; have d2 := RowIs.frozen (cs := [.slice ao bs.length cap, .int .i64 0]) HRW.out 1; have d3 : W2.cell? ⟨g, 1, none⟩ = some (.int .i64 0) := RowIs.cell (cs := [.slice ao bs.length cap, .int .i64 0]) HRW.out rfl; have HN : w1.heap.size ≠ g := (by omega); generalize w1.heap.size = g6 at *; have L6 : Hid (RowIs ((W2.setCell ⟨g, 1, none⟩ (.int .i64 (q : Int))).setCell ⟨g, 0, none⟩ (.slice (cutAt ao k bs.length) (bs.length - k) (bs.length - k))) g6 43 (c8 H)) := (RowIs.other (RowIs.other HR6.out _ _ HN) _ _ HN); have L4 : Hid (RowIs ((W2.setCell ⟨g, 1, none⟩ (.int .i64 (q : Int))).setCell ⟨g, 0, none⟩ (.slice (cutAt ao k bs.length) (bs.length - k) (bs.length - k))) w.heap.size 43 (c8 zeroHash)) := (RowIs.other (RowIs.other (RowIs.below (RowIs.new w 43 (c8 zeroHash)) HAW.out (by simp)) _ _ HG) _ _ HG))
      | (refine wpList_load_row rfl 43 (.tmp 6) rfl g6 rfl 43 (c8 H).toArray (0, 0) _ L6.out Try.underlying43 rfl (by rw [HZ.out]; exact size61) ?_)
      | (refine wpList_store_row rfl 43 (.tmp 4) (.tmp 53) rfl w.heap.size (c8 H).toArray rfl rfl 43 (c8 zeroHash).toArray L4.out (by rw [HZ.out]; exact size61) HZS.out (all_oneCell_toArray (c8_one _)) ?_))
    have hR4 : RowIs ((W2.setCell ⟨g, 1, none⟩ (.int .i64 (q : Int))).setCell ⟨g, 0, none⟩ (.slice (cutAt ao k bs.length) (bs.length - k) (bs.length - k))) w.heap.size 43 (c8 zeroHash) := L4.out
    have hB0 : But g (w.alloc Z61) ((W2.setCell ⟨g, 1, none⟩ (.int .i64 (q : Int))).setCell ⟨g, 0, none⟩ (.slice (cutAt ao k bs.length) (bs.length - k) (bs.length - k))) := (((But.of_below HAW.out).setCell 1 (.int .i64 (q : Int))).setCell 0 (.slice (cutAt ao k bs.length) (bs.length - k) (bs.length - k)))
    have hB : But g w (((W2.setCell ⟨g, 1, none⟩ (.int .i64 (q : Int))).setCell ⟨g, 0, none⟩ (.slice (cutAt ao k bs.length) (bs.length - k) (bs.length - k))).setRow w.heap.size (c8 H).toArray) := ((But.of_below (after_alloc (After.refl w) Z61)).trans hB0).setRowNew (Nat.le_refl _) _
    exact bodyPost_ret (v := .agg (c8 H).toArray) (results_cell_row Try.results77 _ _ w.heap.size 43 _ (0, 0) _ rfl (RowIs.setRow hR4 _) Try.underlying43 rfl (by rw [HZ.out]; exact size61)) rfl ⟨rfl, HR0.out.next k q _ hB (RowIs.setRow_other (RowIs.set (cs := [.slice ao bs.length cap, .int .i64 (q : Int)]) (RowIs.set (cs := [.slice ao bs.length cap, .int .i64 0]) HRW.out 1 _) 0 (.slice (cutAt ao k bs.length) (bs.length - k) (bs.length - k))) _ (fun h => HG h.symm)), hB⟩

def shH (bs : List UInt8) (e : Nat) : List UInt8 := if e = 0 then ghH bs else zeroHash
def shB (bs : List UInt8) (e : Nat) : List UInt8 := if e = 0 then bs.drop (ghK bs) else bs
def shE (bs : List UInt8) (e : Nat) : Nat := if e = 0 then ghE bs else e
set_option maxRecDepth 100000 in
set_option maxHeartbeats 400000 in
theorem rHash_any (g : Nat) (bs : List UInt8) (e : Nat) (ao : Option Addr) (cap : Nat) (w : World) (hR : Rd w g bs e ao cap) :
    Calls Try.prog 59 #[.pointer (some ⟨g, 0, none⟩)] w fun x w' => x = .returned (.agg (c8 (shH bs e)).toArray) ∧ Nx g w ao (shB bs e) (shE bs e) w' := by
  have HR0 : Hid (Rd w g bs e ao cap) := hR
  have hA : After w (w.alloc Z61) := after_alloc (After.refl w) _
  have HR : Hid (Rd (w.alloc Z61) g bs e ao cap) := hR.after hA
  have hglt := hR.row.lt
  have HG : w.heap.size ≠ g := by omega
  have R0 : Hid (RowIs (w.alloc Z61) w.heap.size 43 (c8 zeroHash)) := RowIs.new w 43 (c8 zeroHash)
  clear hR
  by_cases he : e = 0
  · subst he
    have e1 : shH bs 0 = ghH bs := rfl
    have e2 : shB bs 0 = bs.drop (ghK bs) := rfl
    have e3 : shE bs 0 = ghE bs := rfl
    rw [e1, e2, e3]
    clear e1 e2 e3
    have hhl := ghH_len bs
    have HZ : Hid ((c8 (ghH bs)).toArray.size = 32) := by unfold Hid; simp only [List.size_toArray, c8_len, hhl]
    have HZS : Hid ((c8 zeroHash).toArray.size = (c8 (ghH bs)).toArray.size) := HZ.out.symm
    clear hhl
    go_enter Try.func59, Try.ntmps59
    go_wp2_with (first
      | (go_at_call 77; refine (takenH_ok g bs ao cap _ HR.out).mono ?_; rintro x w1 ⟨rfl, hr1, hb1⟩; have R1 : Hid (RowIs w1 w.heap.size 43 (c8 zeroHash)) := hb1.row R0.out HG)
      | (refine wpList_store_row rfl 43 (.tmp 2) (.tmp 4) rfl w.heap.size (c8 (ghH bs)).toArray rfl rfl 43 (c8 zeroHash).toArray R1.out (by rw [HZ.out]; exact size61) HZS.out (all_oneCell_toArray (c8_one _)) ?_))
    have hB : But g w (w1.setRow w.heap.size (c8 (ghH bs)).toArray) := (But.pre hA hb1).setRowNew (Nat.le_refl _) _
    have hrow := hr1.row
    rw [List.length_drop] at hrow
    exact bodyPost_ret (v := .agg (c8 (ghH bs)).toArray) (results_cell_row Try.results59 _ _ w.heap.size 43 _ (0, 0) _ rfl (RowIs.setRow R1.out _) Try.underlying43 rfl (by rw [HZ.out]; exact size61)) rfl ⟨rfl, _, _, HR0.out.next (ghK bs) (ghE bs) _ hB (RowIs.setRow_other hrow _ (fun h => HG h.symm)), hB, fun a ha => cutAt_block ha⟩
  · have e1 : shH bs e = zeroHash := if_neg he
    have e2 : shB bs e = bs := if_neg he
    have e3 : shE bs e = e := if_neg he
    rw [e1, e2, e3]
    clear e1 e2 e3
    go_enter Try.func59, Try.ntmps59
    go_wp2_with (first
      | (go_at_call 77; refine (takenH_err g bs e he ao cap _ _ HR.out).mono ?_; rintro x w1 ⟨rfl, hb1⟩; have R1 : Hid (RowIs w1 w.heap.size 43 (c8 zeroHash)) := RowIs.below R0.out hb1 (by simp))
      | (refine wpList_store_row rfl 43 (.tmp 2) (.tmp 4) rfl w.heap.size (c8 zeroHash).toArray rfl rfl 43 (c8 zeroHash).toArray R1.out zsize rfl (all_oneCell_toArray (c8_one _)) ?_))
    have hAA : After w (w1.setRow w.heap.size (c8 zeroHash).toArray) := Below.row (After.trans hA hb1) (Nat.le_refl _) _
    exact bodyPost_ret (v := .agg (c8 zeroHash).toArray) (results_cell_row Try.results59 _ _ w.heap.size 43 _ (0, 0) _ rfl (RowIs.setRow R1.out _) Try.underlying43 rfl zsize) rfl ⟨rfl, Nx.same (HR0.out.after hAA) hAA⟩
end
end Go.Proofs.Ytcmcapcagblafaa
