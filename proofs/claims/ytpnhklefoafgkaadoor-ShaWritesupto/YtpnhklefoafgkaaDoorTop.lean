/-
  THE WALKS OF sha.Sum, AND OF THE METHODS OF A HASHER THAT IS NOT THERE.
-/
import Derived.Test.YtpnhklefoafgkaaDoorSums
namespace Go.Proofs.YtpnhklefoafgkaaDoor
open Go.RowKit Sha
set_option maxHeartbeats 400000 in
theorem write_nil (ao : Option Addr) (len cap : Nat) (w : World) : Calls Tryd.prog 14 #[.pointer none, .slice ao len cap] w fun e w' => e = .returned (.tuple #[]) ∧ w' = w := by
  go_enter Tryd.func14, Tryd.ntmps14
  go_wp2
  exact bodyPost_ret (v := .tuple #[]) (by simp [results, Tryd.results14, go_sem]) rfl ⟨rfl, rfl⟩
theorem built_zero : Tryd.prog.built 24 [] = some (c8 (List.replicate 32 0)).toArray := by kernel_rfl
set_option maxRecDepth 100000 in
set_option maxHeartbeats 400000 in
theorem hsum_nil (w : World) : Calls Tryd.prog 15 #[.pointer none] w fun e w' => e = .returned (.agg (c8 (List.replicate 32 0)).toArray) ∧ Below w.heap.size w w' := by
  go_enter Tryd.func15, Tryd.ntmps15
  go_wp2_with (first
    | (refine wpList_built rfl 24 #[] rfl (c8 (List.replicate 32 0)).toArray (by kernel_rfl) ?_)
    | (refine wpList_store_row rfl 24 (.tmp 2) (.tmp 6) rfl w.heap.size (c8 (List.replicate 32 0)).toArray rfl rfl 24 (c8 (List.replicate 32 0)).toArray (RowIs.new w 24 (c8 (List.replicate 32 0))) size24 rfl (all_oneCell_toArray (c8_one _)) ?_))
  exact bodyPost_ret (v := .agg (c8 (List.replicate 32 0)).toArray) (results_cell_row Tryd.results15 _ _ w.heap.size 24 _ (0, 0) _ rfl (RowIs.setRow (RowIs.new w 24 (c8 (List.replicate 32 0))) _) Tryd.underlying24 rfl size24) rfl ⟨rfl, Below.row ((Below.refl _ _).alloc (Nat.le_refl _) _) (Nat.le_refl _) _⟩
def TopRel (w w1 : World) (g : Nat) (h : Hs) : Prop :=
  w.heap.size < g ∧ Below w.heap.size w w1 ∧ RowIs w1 w.heap.size 24 (c8 (List.replicate 32 0)) ∧ RowIs w1 g 56 (hcs h)
theorem TopRel.start {w w1 : World} {g : Nat} {h : Hs} (hg : (w.alloc (.cells (c8 (List.replicate 32 0)).toArray 24)).heap.size ≤ g) (hb : Below (w.alloc (.cells (c8 (List.replicate 32 0)).toArray 24)).heap.size (w.alloc (.cells (c8 (List.replicate 32 0)).toArray 24)) w1) (hr : RowIs w1 g 56 (hcs h)) : TopRel w w1 g h :=
  ⟨by simp at hg; omega, ((Below.refl _ _).alloc (Nat.le_refl _) _).trans (hb.mono (by simp)), (RowIs.new w 24 _).below hb (by simp), hr⟩
theorem TopRel.tab {w w1 : World} {g : Nat} {h : Hs} (t : TopRel w w1 g h) (ht : Tab w) : Tab w1 := ht.below t.2.1 ht.1
theorem TopRel.ne0 {w w1 : World} {g : Nat} {h : Hs} (t : TopRel w w1 g h) (ht : Tab w) : 0 ≠ g := by have := t.1; have := ht.1; omega
theorem TopRel.bytes {w w1 : World} {g : Nat} {h : Hs} {ao : Option Addr} {bs : List UInt8} (t : TopRel w w1 g h) (hb : BytesAt w ao bs) (ha : bs ≠ [] → ∀ b o, ao = some ⟨b, o, none⟩ → b < w.heap.size) : BytesAt w1 ao bs := fun hne => by
  obtain ⟨b, o, he, hc⟩ := hb hne
  exact ⟨b, o, he, fun j hj => by rw [t.2.1.cell (p := ⟨b, o + j, none⟩) (ha hne b o he)]; exact hc j hj⟩
theorem TopRel.but {w w1 w2 : World} {g : Nat} {h h' : Hs} (t : TopRel w w1 g h) (hb : But g w1 w2) (hr : RowIs w2 g 56 (hcs h')) : TopRel w w2 g h' :=
  ⟨t.1, t.2.1.trans (hb.below (Nat.le_of_lt t.1) t.2.1.size), hb.row t.2.2.1 (by have := t.1; omega), hr⟩
/-- The sum of bytes, by the program's own steps. -/
def sumP (bs : List UInt8) : List UInt8 := sumOf (feed newHs bs)
theorem sumP_len (bs : List UInt8) : (sumP bs).length = 32 := sumOf_len _
set_option maxRecDepth 100000 in
set_option maxHeartbeats 400000 in
theorem sum_any (ao : Option Addr) (bs : List UInt8) (len cap : Nat) (hlen : len = bs.length) (hcap : len ≤ cap) (w : World) (ht : Tab w) (hb : BytesAt w ao bs) (hap : bs ≠ [] → ∀ b o, ao = some ⟨b, o, none⟩ → b < w.heap.size) (hbd : bs.length < 1152921504606846000) :
    Calls Tryd.prog 10 #[.slice ao len cap] w fun e w' => e = .returned (.agg (c8 (sumP bs)).toArray) ∧ Below w.heap.size w w' := by
  subst hlen
  have HT : Hid (Tab w) := ht
  have HB : Hid (BytesAt w ao bs) := hb
  have HA : Hid (bs ≠ [] → ∀ b o, ao = some ⟨b, o, none⟩ → b < w.heap.size) := hap
  have hs32 : Hid ((Tryd.prog.info? 24).map (·.size) = some (c8 (sumP bs)).toArray.size) := by unfold Hid; simp only [List.size_toArray, c8_len, sumP_len]; exact size24
  have hs33 : Hid ((c8 (List.replicate 32 0)).toArray.size = (c8 (sumP bs)).toArray.size) := by unfold Hid; simp only [List.size_toArray, c8_len, sumP_len, List.length_replicate]
  clear ht hb hap
  go_enter Tryd.func10, Tryd.ntmps10
  go_wp2_with (first
    | (go_at_call 13; refine (new_any _).mono ?_; rintro e w1 ⟨g, rfl, hg, hb1, hr1⟩; have H1 : Hid (TopRel w w1 g newHs) := TopRel.start hg hb1 hr1; clear hb1 hr1 hg)
    | (go_at_call 14; refine (write_any g newHs newHs_part ao bs bs.length cap rfl hcap _ (H1.out.tab HT.out) (H1.out.ne0 HT.out) H1.out.2.2.2 (H1.out.bytes HB.out HA.out) (fun hne b o he => by have := HA.out hne b o he; have := H1.out.1; omega) (by show 0 + _ < _; omega)).mono ?_; rintro e w2 ⟨rfl, hb2, hr2⟩; have H2 : Hid (TopRel w w2 g (feed newHs bs)) := TopRel.but H1.out hb2 hr2; clear hb2 hr2)
    | (go_at_call 15; refine (hsum_any g (feed newHs bs) (by rw [feed_part]; rfl) _ (H2.out.tab HT.out) H2.out.2.2.2 (by rw [feed_n]; show 0 + _ < _; omega)).mono ?_; rintro e w3 ⟨rfl, hb3⟩)
    | (refine wpList_store_row rfl 24 (.tmp 2) (.tmp 9) rfl w.heap.size (c8 (sumP bs)).toArray rfl rfl 24 (c8 (List.replicate 32 0)).toArray (H2.out.2.2.1.below hb3 H2.out.2.2.1.lt) hs32.out hs33.out (all_oneCell_toArray (c8_one _)) ?_))
  exact bodyPost_ret (v := .agg (c8 (sumP bs)).toArray) (results_cell_row Tryd.results10 _ _ w.heap.size 24 _ (0, 0) _ rfl (RowIs.setRow (H2.out.2.2.1.below hb3 H2.out.2.2.1.lt) _) Tryd.underlying24 rfl hs32.out) rfl ⟨rfl, Below.row (H2.out.2.1.trans (hb3.mono H2.out.2.1.size)) (Nat.le_refl _) _⟩
end Go.Proofs.YtpnhklefoafgkaaDoor
