/-
  The reference's At (16), by what its Cells (34) tells.
-/
import Derived.Test.YtiglenomigipmaaSG
namespace Go.Proofs.Ytiglenomigipmaa
open Go.RowKit Go.Shelf
attribute [local go_sem] Oper.semAt_some
/-- The search of At, as it goes. -/
def srS : List RC → Int → Option RC
  | [], _ => none
  | c :: L, p => if c.gone then srS L p else if p = 0 then some c else srS L (max (wrap64 (p - 1)) (-1))
def srId : Option RC → Idn
  | some c => c.id
  | none => zId
theorem ret404 {fn : Func} {p q : Tmp} (h : fn.results = #[.cell p 40, .tmp q]) (tmps : Array Value) (w : World) (g : Nat) (z : Idn) (u : Value) (hz : z.Ok) (hp : tmps.getD p undef = .pointer (some ⟨g, 0, none⟩)) (hg : RowIs w g 40 (idc z)) (hq : tmps.getD q undef = u) : (results fn tmps).run Try.prog w = .ok (.tuple #[idv z, u]) w := by
  have hp' : tmps[p]?.getD undef = .pointer (some ⟨g, 0, none⟩) := by simpa using hp
  have hq' : tmps[q]?.getD undef = u := by simpa using hq
  simp [results, h, hp', hq', asAddr, run_loadVar_row w g 40 40 (idc z).toArray (0, 0) _ hg Try.underlying40 rfl (size40 hz), idv]
set_option maxRecDepth 100000 in
set_option maxHeartbeats 1600000 in
theorem rAt_any {w : World} {v : Value} {L : List RC} (pos : Int)
    (hC : ∀ w1, After w w1 → Calls Try.prog 34 #[.agg #[v]] w1 fun e w' => ∃ v', e = .returned v' ∧ RowR w' w1.heap.size v' L ∧ After w1 w') (hl : L.length ≤ 100000) :
    Calls Try.prog 16 #[.agg #[v], .int .i64 pos] w fun e w' => e = .returned (.tuple #[idv (srId (srS L pos)), .bool (srS L pos).isSome]) ∧ After w w' := by
  obtain ⟨W0, hW0⟩ : ∃ W0, (w.alloc (.cells #[v] 29)).alloc (.cells (idc zId).toArray 40) = W0 := ⟨_, rfl⟩
  have HA : Hid (After w W0 ∧ RowIs W0 w.heap.size 29 [v] ∧ RowIs W0 (w.heap.size + 1) 40 (idc zId)) := by
    rw [← hW0]
    refine ⟨after_alloc (after_alloc (After.refl w) _) _, (RowIs.new w 29 [v]).alloc _, ?_⟩
    have := RowIs.new (w.alloc (.cells #[v] 29)) 40 (idc zId)
    rwa [World.size_alloc] at this
  have HC : Hid (Calls Try.prog 34 #[.agg #[v]] W0 fun e w' => ∃ v', e = .returned v' ∧ RowR w' W0.heap.size v' L ∧ After W0 w') := hC W0 HA.out.1
  have HL : Hid (L.length ≤ 100000) := hl
  clear hC hl
  go_enter Try.func16, Try.ntmps16
  go_wp2_with (first
    | (rw [hW0])
    | (refine wpList_of_run rfl ((x_al40 rfl).trans (by rw [hW0])) ?_)
    | (refine wpList_load_row rfl 29 (.tmp 2) rfl w.heap.size rfl 29 #[v] (0, 0) _ HA.out.2.1 Try.underlying29 rfl (size29 _) ?_)
    | (go_at_call 34; refine Calls.mono HC.out ?_; clear HC; rintro e w1 ⟨v1, rfl, hr1, hw1⟩; obtain ⟨va, cap, hv1⟩ := hr1.sl; obtain ⟨n, hn⟩ : ∃ n, L.length = n := ⟨_, rfl⟩; rw [hn] at hv1; subst hv1; have H1 := show Hid (RowR w1 W0.heap.size (.slice va n cap) L ∧ After w w1 ∧ RowIs w1 (w.heap.size + 1) 40 (idc zId) ∧ L.length = n) from ⟨hr1, HA.out.1.trans hw1, HA.out.2.2.below hw1 HA.out.2.2.lt, hn⟩; clear hr1 hw1 hn))
  clear hW0
  go_loopw [1, 7] (fun vp vi wr => ∃ (p : Int) (i : Nat), vp = .int .i64 p ∧ vi = .int .i64 (i : Int) ∧ i ≤ n ∧ wr = w1 ∧ Hid (srS (L.drop i) p = srS L pos)) (fun _ vi _ => n - (intOf vi).toNat)
  case atStart => exact ⟨pos, 0, rfl, rfl, Nat.zero_le _, rfl, by unfold Hid; rw [List.drop_zero]⟩
  case round =>
    obtain ⟨p, i, rfl, rfl, hin, rfl, HJ⟩ := hrel
    have hb6 : n ≤ 1000000 := by have := HL.out; have := H1.out.2.2.2; omega
    by_cases hlt : i < n
    · have hii : (i : Int) < (n : Int) := by omega
      obtain ⟨c, hc⟩ : ∃ c, L[i]? = some c := ⟨_, List.getElem?_eq_getElem (by have := H1.out.2.2.2; omega)⟩
      obtain ⟨gs, hva, -, hr⟩ := H1.out.1.at hc
      subst hva
      have cg := (H1.out.1.gcell hc).1
      have HI : Hid (i < n ∧ c.id.Ok ∧ wr.rangeAt gs (i * 68) (idc c.id)) := ⟨hlt, (H1.out.1.1 c (List.mem_of_getElem? hc)).id, by have := range_rid hr; rwa [Nat.zero_add] at this⟩
      have HD : Hid (L.drop i = c :: L.drop (i + 1)) := List.drop_eq_getElem?_toList_append.trans (by rw [hc]; rfl)
      clear hc hr
      cases hgn : c.gone with
      | true =>
        rw [hgn] at cg
        have HN : Hid (srS (L.drop (i + 1)) p = srS L pos) := by rw [← HJ.out, HD.out]; unfold Hid; simp [srS, hgn]
        clear hgn
        go_wp2_with fail
        go_roundw
        case rel => exact ⟨p, i + 1, rfl, by go_num, by omega, trivial, HN.out⟩
        case measure => simp [intOf]; omega
      | false =>
        rw [hgn] at cg
        by_cases hp : p = 0
        · have HN : Hid (srS L pos = some c) := by rw [← HJ.out, HD.out]; unfold Hid; simp [srS, hgn, hp]
          clear hgn
          subst hp
          go_wp2_with (first
            | (refine wpList_of_run rfl (x_ld40m (x := .tmp 26) (g := gs) (p := i * 68) (y := c.id) HI.out.2.1 rfl (by kernel_rfl) HI.out.2.2) ?_)
            | (refine wpList_store_row rfl 40 (.tmp 4) (.tmp 27) rfl (w.heap.size + 1) (idc c.id).toArray rfl rfl 40 _ H1.out.2.2.1 (size40 HI.out.2.1) (by simp [idc_len HI.out.2.1, idc_len zId_ok]) (by simpa using idc_one c.id) ?_))
          have hg : RowIs (wr.setRow (w.heap.size + 1) (idc c.id).toArray) (w.heap.size + 1) 40 (idc c.id) := H1.out.2.2.1.setRow _
          refine ⟨rfl, _, ret404 Try.results16 _ _ (w.heap.size + 1) c.id (.bool true) HI.out.2.1 rfl hg rfl, by rw [HN.out]; rfl, Below.row H1.out.2.1 (by omega) _⟩
        · have HN : Hid (srS (L.drop (i + 1)) (max (wrap64 (p - 1)) (-1)) = srS L pos) := by rw [← HJ.out, HD.out]; unfold Hid; simp [srS, hgn, hp]
          clear hgn
          go_wp2_with fail
          go_roundw
          case rel => exact ⟨_, i + 1, rfl, by go_num, by omega, trivial, HN.out⟩
          case measure => simp [intOf]; omega
    · obtain rfl : i = n := by omega
      have hii : ¬ (i : Int) < (i : Int) := by omega
      have HN : Hid (srS L pos = none) := by rw [← HJ.out, List.drop_eq_nil_of_le (by have := H1.out.2.2.2; omega)]; rfl
      go_wp2_with (first
        | (refine wpList_of_run rfl (x_zb40 rfl) ?_)
        | (refine wpList_store_row rfl 40 (.tmp 4) (.tmp 31) rfl (w.heap.size + 1) (idc zId).toArray rfl rfl 40 _ H1.out.2.2.1 (size40 zId_ok) rfl (by simpa using idc_one zId) ?_))
      have hg : RowIs (wr.setRow (w.heap.size + 1) (idc zId).toArray) (w.heap.size + 1) 40 (idc zId) := H1.out.2.2.1.setRow _
      refine ⟨rfl, _, ret404 Try.results16 _ _ (w.heap.size + 1) zId (.bool false) zId_ok rfl hg rfl, by rw [HN.out]; rfl, Below.row H1.out.2.1 (by omega) _⟩
end Go.Proofs.Ytiglenomigipmaa
