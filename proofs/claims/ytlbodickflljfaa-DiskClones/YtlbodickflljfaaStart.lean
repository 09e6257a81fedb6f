/-
  THE WALK OF (*Disk).Start.
-/
import Derived.Test.YtlbodickflljfaaSurv
namespace Go.Proofs.Ytlbodickflljfaa
open Go.RowKit Go.Maps Dsk
theorem surv_nil : ∀ (fuel i e : Nat) (d : List UInt8), (surv fuel i e d []).2.2 = []
  | 0, _, _, _ => rfl
  | fuel + 1, i, e, d => by
    by_cases h : i < d.length
    · rw [surv_step fuel i e d [] h rfl rfl]; exact surv_nil fuel _ _ _
    · rw [surv_end _ _ _ _ _ h]
theorem fput_mid {α : Type} {P rest : List (Nm × α)} {nm : Nm} {f x : α} (h : rising (P ++ (nm, f) :: rest)) : fput nm x (P ++ (nm, f) :: rest) = P ++ (nm, x) :: rest := by
  have hr2 : rising (P ++ (nm, x) :: rest) := rising_names (m := P ++ (nm, f) :: rest) (by simp) h
  have ha := rising_apart h
  refine eq_of_mem (fput_rising nm x h) hr2 (fun y => ?_)
  rw [fput_mem]
  rw [List.pairwise_append] at ha
  obtain ⟨_, h2, h3⟩ := ha
  have h4 := (List.pairwise_cons.1 h2).1
  simp only [List.mem_append, List.mem_cons]
  constructor
  · rintro (rfl | ⟨h5 | rfl | h5, h6⟩)
    · exact Or.inr (Or.inl rfl)
    · exact Or.inl h5
    · exact absurd rfl h6
    · exact Or.inr (Or.inr h5)
  · rintro (h5 | rfl | h5)
    · exact Or.inr ⟨Or.inl h5, h3 y h5 (nm, f) (by simp)⟩
    · exact Or.inl rfl
    · exact Or.inr ⟨Or.inr (Or.inr h5), fun e => h4 y h5 e.symm⟩
/-- The power again: nothing of the files yet. -/
def upS (S : Dk) : Dk := { S with down := false, said := false, left := 0, done := false }
theorem OwnS.same {w w' : World} {base : Nat} {v : Value} {ns : List Nm} (h : OwnS w base v ns) (hs : ∀ (g : Nat) (cur : Array Value), w.heap[g]? = some (Obj.cells cur 9 (0, 0)) → w'.heap[g]? = w.heap[g]?) : OwnS w' base v ns := by
  refine ⟨h.1, ?_⟩
  rcases h.2 with hn | ⟨g, cap, cur, e, h1, h2, rest⟩
  · exact .inl hn
  · exact .inr ⟨g, cap, cur, e, h1, by rw [hs g cur h2]; exact h2, rest⟩
theorem OwnS.mono {w : World} {base base' : Nat} {v : Value} {ns : List Nm} (h : OwnS w base v ns) (hb : base' ≤ base) : OwnS w base' v ns := by
  refine ⟨h.1, ?_⟩
  rcases h.2 with hn | ⟨g, cap, cur, e, h1, rest⟩
  · exact .inl hn
  · exact .inr ⟨g, cap, cur, e, by omega, rest⟩
/-- The slice, and its cells. -/
theorem OwnS.at {w : World} {base : Nat} {v : Value} {ns : List Nm} (h : OwnS w base v ns) : ∃ ao c, v = .slice ao ns.length c ∧ StrsAt w ao ns ∧ ns.length ≤ c := by
  have hc := fun g hg => World.ownsRow.cells (g := g) h hg
  rcases h.2 with ⟨rfl, h0⟩ | ⟨g, cap, cur, rfl, hb, hg, hnc, _⟩
  · obtain rfl : ns = [] := List.eq_nil_of_length_eq_zero h0
    exact ⟨none, 0, rfl, fun h => absurd rfl h, Nat.le_refl _⟩
  · refine ⟨some ⟨g, 0, none⟩, cap, rfl, fun _ => ⟨g, 0, rfl, fun j hj => ?_⟩, hnc⟩
    have := hc g rfl j (.string (strOf (ns.getD j []))) (by simp [List.getD_eq_getElem?_getD, hj])
    rwa [Addr.add_mid] at this
/-- What the loop of Start keeps. -/
structure StR (F : Nat → Prop) (w : World) (sb : Nat) (S : Dk) (keep : List UInt8) (v : Value) (j : Nat) (P : List (Nm × Fl)) (K : List UInt8) (ka' : Option Addr) (kc' : Nat) (wr : World) : Prop where
  jle : j ≤ S.files.length
  disk : DiskAt wr (more F w wr) sb { upS S with files := P ++ S.files.drop j }
  fs : FsOk S.most (P ++ S.files.drop j)
  res : survAll S.files keep = P ++ survAll (S.files.drop j) K
  keep : BytesAt wr ka' K
  kc : K.length ≤ kc'
  kf : ∀ a, ka' = some a → K ≠ [] → ¬ F a.block ∧ a.block < w.heap.size
  turn : Turn F w wr
  nam : OwnS wr w.heap.size v (S.files.map (·.1))
theorem x_look0 {oi : Oper} {a : Act} {w : World} {m x : Operand} {mb : Nat} {nm : Nm} {r : Value} (hop : oi.op = .lookup 64 m x false) (hm : a.eval m = .map (some mb)) (hx : a.eval x = .string (strOf nm)) (h : (Instr.lookup 64 (.map (some mb)) (.string (strOf nm)) false).run Try.prog w = .ok r w) : (execOp a.eval oi).run Try.prog w = .ok (.value r) w := by
  unfold execOp
  simp only [hop, hm, hx, Sem.run_bind, h, Result.andThen_ok]
  rfl
/-- Number i, which alone may come up, yields v. -/
theorem tkVal {ops : Array Oper} {Q : Exit → Act → World → Prop} {T : World → Prop} {fuel : Nat} {listed : Array Bool} {a : Act} {w : World} {oi : Oper} (i d : Nat) (v : Value) (hi : ops[i]? = some oi) (hd : oi.dst = some d) (hr : Region.ready .any ops listed = [i])
    (hw : Region.wanted oi (yielded ops a.tmps) = true) (hrun : (execOp a.eval oi).run Try.prog w = .ok (.value v) w) (hT : T w)
    (h : wpAnyH Try.prog .any ops Q T fuel (listed.setIfInBounds i true) (a.put (some d) v) w) : wpAnyH Try.prog .any ops Q T (fuel + 1) listed a w :=
  wpAnyH_all hr (by simp) (fun j hj => by
    obtain rfl : j = i := by simpa using hj
    refine wpOp_step hi (fun K' hK => ?_)
    rw [if_pos hw]
    unfold Oper.wp
    rw [hrun]
    show K' (a.put oi.dst v) w
    rw [hd]
    exact hK _ _ ⟨hT, h⟩)
set_option maxHeartbeats 400000 in
theorem start_nil (v : Value) (w : World) : Calls Try.prog 19 #[.pointer none, v] w fun e w' => e = .returned (.tuple #[]) ∧ w' = w := by
  go_enter Try.func19, Try.ntmps19
  go_wp2
  exact bodyPost_ret (v := .tuple #[]) (results_none (by kernel_rfl) _ _ _) rfl ⟨rfl, rfl⟩

set_option maxRecDepth 100000 in
set_option maxHeartbeats 1600000 in
theorem start_any (F : Nat → Prop) (sb : Nat) (S : Dk) (hS : Ok S) (ka : Option Addr) (kn kc : Nat) (keep : List UInt8) (hk : keep.length = kn) (hkc : kn ≤ kc) (w : World) (hd : DiskAt w F sb S) (hF : ∀ i, F i → i < w.heap.size) (hka : BytesAt w ka keep) (hkf : keep ≠ [] → ∀ a, ka = some a → ¬ F a.block) :
    Calls Try.prog 19 #[.pointer (some ⟨sb, 0, none⟩), .slice ka kn kc] w fun e w' => e = .returned (.tuple #[]) ∧ Turn F w w' ∧ DiskAt w' (more F w w') sb (startS S keep) := by
  obtain ⟨mb, cs, hdr⟩ := hd.dr
  have HF : Hid (∀ i, F i → i < w.heap.size) := hF
  have hc := hdr.row.cells68
  have h3 := hc.c3
  have h4 := hc.c4
  have h5 := hc.c5
  have h6 := hc.c6
  have hfz := hc.fz
  have HR : Hid (Dr w F sb mb S cs) := hdr
  obtain ⟨w0, hw0⟩ : ∃ w0, (((w.setCell ⟨sb, 3, none⟩ (.bool false)).setCell ⟨sb, 4, none⟩ (.bool false)).setCell ⟨sb, 5, none⟩ (.int .i64 0)).setCell ⟨sb, 6, none⟩ (.bool false) = w0 := ⟨_, rfl⟩
  have D0 : Dr w0 F sb mb (upS S) cs := by
    rw [← hw0]
    exact hdr.setCells (S' := upS S) ((((hdr.row.set 3 (.bool false)).set 4 (.bool false)).set 5 (.int .i64 0)).set 6 (.bool false)) rfl (fun i _ hne => by rw [heap_setCell_other _ _ i _ hne, heap_setCell_other _ _ i _ hne, heap_setCell_other _ _ i _ hne, heap_setCell_other _ _ i _ hne])
  have T0 : Turn F w w0 := by
    rw [← hw0]
    exact ((((Turn.refl F w).setCell (p := ⟨sb, 3, none⟩) (Or.inl hdr.fsb) _).setCell (p := ⟨sb, 4, none⟩) (Or.inl hdr.fsb) _).setCell (p := ⟨sb, 5, none⟩) (Or.inl hdr.fsb) _).setCell (p := ⟨sb, 6, none⟩) (Or.inl hdr.fsb) _
  have hOk : Ok (upS S) := ⟨hS.most, hS.used, hS.count, hS.ris, hS.named, hS.safe, by simp [upS]⟩
  have C := show Hid _ from list_any F sb (upS S) hOk w0 D0.disk
  have HK0 : Hid (keep.length = kn) := hk
  have hcount := hS.count
  have hmost := hS.most
  obtain ⟨N, hN⟩ : ∃ N, S.files.length = N := ⟨_, rfl⟩
  have HN : Hid (S.files.length = N) := hN
  have hNl : (S.files.map (·.1)).length = N := by simp [hN]
  have HNL : Hid ((S.files.map (·.1)).length = N) := hNl
  have HS : Hid (Ok S) := hS
  have START : Hid (∀ v w1, OwnS w1 w0.heap.size v (S.files.map (·.1)) → After w0 w1 → StR F w sb S keep v 0 [] keep ka kc w1) := fun v w1 hv ha => by
    have T1 : Turn F w w1 := T0.trans (Turn.of_after ha)
    have hkf2 : ∀ a, ka = some a → keep ≠ [] → ¬ F a.block ∧ a.block < w.heap.size := fun a e1 hne => by
      refine ⟨hkf hne a e1, ?_⟩
      obtain ⟨b, o, e2, hcc⟩ := hka hne
      rw [e2] at e1
      cases e1
      exact block_lt_of_cell (hcc 0 (by cases keep with | nil => exact absurd rfl hne | cons _ _ => simp))
    exact ⟨Nat.zero_le _, (D0.after ha).disk.mono (fun i hi => Or.inl hi), hS.fs, rfl, fun hne => by
      obtain ⟨b, o, e1, hcc⟩ := hka hne
      exact ⟨b, o, e1, fun j hj => T1.cell (p := ⟨b, o + j, none⟩) (hkf2 _ e1 hne).1 (hcc j hj)⟩, by rw [hk]; exact hkc, hkf2, T1, hv.mono T0.size⟩
  rw [← hN] at hNl
  clear hd hF hka hkf hk hdr hc T0 D0 hOk hS hNl
  go_enter Try.func19, Try.ntmps19
  go_wp2_with (go_at_call 25; refine Calls.mono C.out ?_; rintro e w1 ⟨v, rfl, hv, ha⟩; have HST := show Hid (StR _ _ _ _ _ _ _ _ _ _ _ _) from START.out v w1 hv ha; obtain ⟨na, nc, hv2, _, _⟩ := hv.at; have hv3 : v = .slice na N nc := hv2.trans (by rw [show (List.map (fun x => x.fst) (upS S).files).length = N from HNL.out]); subst hv3; clear hv ha hv2)
  go_loopw [1, 18] (fun kv iv wr => ∃ (j : Nat) (P : List (Nm × Fl)) (K : List UInt8) (ka' : Option Addr) (kc' kl : Nat), Hid (K.length = kl) ∧ kv = .slice ka' kl kc' ∧ iv = .int .i64 (j : Int) ∧ j ≤ N ∧ Hid (StR F w sb S keep (.slice na N nc) j P K ka' kc' wr)) (fun _ iv _ => N - (intOf iv).toNat)
  case atStart => exact ⟨0, [], keep, ka, kc, kn, HK0, rfl, rfl, Nat.zero_le _, HST⟩
  case round =>
    obtain ⟨j, P, K, ka', kc', kl, HKL, rfl, rfl, hjN, HX⟩ := hrel
    by_cases hlt : j < N
    · obtain ⟨nm, f, rest, hdrop⟩ : ∃ nm f rest, S.files.drop j = (nm, f) :: rest := by
        cases hdr : S.files.drop j with
        | nil => rw [List.drop_eq_nil_iff, HN.out] at hdr; omega
        | cons y r => exact ⟨y.1, y.2, r, rfl⟩
      have hdrop1 : S.files.drop (j + 1) = rest := by
        have := congrArg List.tail hdrop
        rwa [List.tail_drop] at this
      obtain ⟨nb, no, hna, hnc⟩ : ∃ b o, na = some ⟨b, o, none⟩ ∧ wr.cell? ⟨b, o + j, none⟩ = some (.string (strOf nm)) := by
        obtain ⟨ao, c, e1, hat, _⟩ := HX.out.nam.at
        simp only [Value.slice.injEq] at e1
        obtain ⟨rfl, _, rfl⟩ := e1
        obtain ⟨b, o, e2, hcc⟩ := hat (by intro h; have := HNL.out; rw [h] at this; simp at this; omega)
        refine ⟨b, o, e2, ?_⟩
        have := hcc j (by rw [HNL.out]; exact hlt)
        rw [this]
        have e3 : (S.files.map (·.1)).getD j [] = nm := by
          have h1 : S.files[j]? = some (nm, f) := by
            have := congrArg (fun l : List (Nm × Fl) => l[0]?) hdrop
            simpa using this
          simp [List.getD_eq_getElem?_getD, h1]
        rw [e3]
      subst hna
      have hmem : (nm, f) ∈ P ++ S.files.drop j := by rw [hdrop]; simp
      have hfg := rising_get HX.out.fs.ris hmem
      obtain ⟨mb1, cs1, hd1⟩ := HX.out.disk.dr
      obtain ⟨ao, c, f1, hgc, hgf, hown, hat, hle⟩ := hd1.get (fhas_get hfg)
      obtain rfl : f1 = f := by have := hgf.symm.trans hfg; simpa using this
      have hnm32 := (named_len (HX.out.fs.named _ hmem)).2
      have hml : nm.length ≤ maxLen := by unfold maxLen; simp only at hnm32; omega
      have hfn : f1.data.length ≤ 16777216 := by have h1 := used_mem hmem; have h2 := HX.out.fs.used; simp only at h1; omega
      have hsafe := HX.out.fs.safe _ hmem
      simp only at hsafe
      obtain ⟨n, hn⟩ : ∃ n, f1.data.length = n := ⟨_, rfl⟩
      have HNf : Hid (f1.data.length = n) := hn
      rw [hn] at hgc hown hle hfn hsafe
      have HGC := show Hid (fget _ _ = _) from hgc
      have HM : Hid ((nm, (Value.agg #[.slice ao n c, .int .i64 (f1.safe : Int)], f1)) ∈ cs1) := fget_mem hgc
      have HO : Hid (Own wr 0 (.slice ao n c) f1.data) := hown
      have HD1 := show Hid (Dr _ _ _ _ _ _) from hd1
      have hc1 := hd1.row.cells68.c1
      have hsbwr := hd1.row.lt
      have CS := show Hid _ from survivor_any ao n c f1.safe f1.data hn hsafe hfn ka' kl kc' K HKL.out (by have := HX.out.kc; rw [HKL.out] at this; exact this) wr.drew hown HX.out.keep (fun hne a ha e => by
        obtain ⟨k1, k2⟩ := HX.out.kf a ha hne
        rcases (row_of hd1 (fget_mem hgc) e).1 with e2 | e2
        · exact k1 e2
        · omega)
      have ngf : ∀ g, (Value.slice ao n c).ownBlock = some g → more F w wr g ∧ g ≠ sb := fun g hg => by
        obtain ⟨r1, _, _, r4, _⟩ := row_of hd1 (fget_mem hgc) hg
        exact ⟨r1, r4⟩
      have ns1 : sb ≠ mb1 := fun e => hd1.mb_ne e.symm
      have nsG : ¬ (sb = mb1 ∨ (Value.slice ao n c).ownBlock = some sb) := fun e => e.elim ns1 (fun e => (ngf _ e).2 rfl)
      have hlk : (Instr.lookup 64 (.map (some mb1)) (.string (strOf nm)) false).run Try.prog wr = .ok (.agg #[.slice ao n c, .int .i64 (f1.safe : Int)]) wr := look_plain hd1.own hml (vals_get hgc)
      have HLK := show Hid (∀ W : World, W.heap[mb1]? = wr.heap[mb1]? → (Instr.lookup 64 (.map (some mb1)) (.string (strOf nm)) false).run Try.prog W = .ok (.agg #[.slice ao n c, .int .i64 (f1.safe : Int)]) W) from fun W hW => look_plain (ownsMap_same hd1.own hW) hml (vals_get hgc)
      have hcl1 : cs1.length < maxLen := by
        have h1 := HX.out.fs.count
        have h2 : (P ++ S.files.drop j).length = cs1.length := by
          have := hd1.files
          have h3 : (fls cs1).length = cs1.length := by simp [fls]
          rw [← h3, this]
        unfold maxLen; omega
      have HML : Hid (nm.length ≤ maxLen) := hml
      clear hgc hgf hown hat hle hd1 hmem hfg hlk hn hnm32
      go_wp2

      refine wp_region_noPanic ?_
      refine wp_region_held_drew (S := (Turn (fun i => i = mb1 ∨ (Value.slice ao n c).ownBlock = some i) wr)) (by kernel_rfl) (Turn.drew (Turn.refl _ wr)) ?_
      intro hS0
      refine tk 0 23 (.pointer (some ⟨sb, 0, none⟩)) (fuel := 17) rfl (by kernel_rfl) (by kernel_rfl) (by kernel_rfl) (by kernel_rfl) noPanic_false (by kernel_rfl) (fun _ _ => by kernel_rfl) hS0 ?_
      refine tk 1 24 (.pointer (some ⟨sb, 0, none⟩)) (fuel := 16) rfl (by kernel_rfl) (by kernel_rfl) (by kernel_rfl) (by kernel_rfl) noPanic_false (by kernel_rfl) (fun _ _ => by kernel_rfl) hS0 ?_
      refine tk 2 25 (.pointer (some ⟨sb, 1, none⟩)) (fuel := 15) rfl (by kernel_rfl) (by kernel_rfl) (by kernel_rfl) (by kernel_rfl) noPanic_false (by kernel_rfl) (fun _ _ => by kernel_rfl) hS0 ?_
      refine tk 3 26 (.map (some mb1)) (fuel := 14) rfl (by kernel_rfl) (by kernel_rfl) (by kernel_rfl) (by kernel_rfl) noPanic_false (by kernel_rfl) (fun W hW => x_ld64 (x := .tmp 25) (g := sb) (p := 1) (by kernel_rfl) (by kernel_rfl) (hW.cell (p := ⟨sb, 1, none⟩) nsG hc1)) hS0 ?_
      refine tk 4 27 (.string (strOf nm)) (fuel := 13) rfl (by kernel_rfl) (by kernel_rfl) (by kernel_rfl) (by kernel_rfl) noPanic_false (by kernel_rfl) (fun _ _ => by kernel_rfl) hS0 ?_
      refine tk 5 28 (.pointer (some ⟨sb, 0, none⟩)) (fuel := 12) rfl (by kernel_rfl) (by kernel_rfl) (by kernel_rfl) (by kernel_rfl) noPanic_false (by kernel_rfl) (fun _ _ => by kernel_rfl) hS0 ?_
      refine tk 6 29 (.pointer (some ⟨sb, 0, none⟩)) (fuel := 11) rfl (by kernel_rfl) (by kernel_rfl) (by kernel_rfl) (by kernel_rfl) noPanic_false (by kernel_rfl) (fun _ _ => by kernel_rfl) hS0 ?_
      refine tk 7 30 (.pointer (some ⟨sb, 1, none⟩)) (fuel := 10) rfl (by kernel_rfl) (by kernel_rfl) (by kernel_rfl) (by kernel_rfl) noPanic_false (by kernel_rfl) (fun _ _ => by kernel_rfl) hS0 ?_
      refine tk 8 31 (.map (some mb1)) (fuel := 9) rfl (by kernel_rfl) (by kernel_rfl) (by kernel_rfl) (by kernel_rfl) noPanic_false (by kernel_rfl) (fun W hW => x_ld64 (x := .tmp 30) (g := sb) (p := 1) (by kernel_rfl) (by kernel_rfl) (hW.cell (p := ⟨sb, 1, none⟩) nsG hc1)) hS0 ?_
      refine tk 9 32 (.string (strOf nm)) (fuel := 8) rfl (by kernel_rfl) (by kernel_rfl) (by kernel_rfl) (by kernel_rfl) noPanic_false (by kernel_rfl) (fun _ _ => by kernel_rfl) hS0 ?_
      refine tk 11 34 (.slice ka' kl kc') (fuel := 7) rfl (by kernel_rfl) (by kernel_rfl) (by kernel_rfl) (by kernel_rfl) noPanic_false (by kernel_rfl) (fun _ _ => by kernel_rfl) hS0 ?_
      refine tkVal 10 33 (.agg #[.slice ao n c, .int .i64 (f1.safe : Int)]) (fuel := 6) rfl (by kernel_rfl) (by kernel_rfl) (by kernel_rfl) (x_look0 (m := .tmp 31) (x := .tmp 32) (mb := mb1) (nm := nm) (by kernel_rfl) (by kernel_rfl) (by kernel_rfl) (HLK.out wr.drew rfl)) hS0 ?_
      refine tkCallS 12 35 46 #[.agg #[.slice ao n c, .int .i64 (f1.safe : Int)], .slice ka' kl kc'] (fun x w' => ∃ v ka2 kc2 kn2, x = .tuple #[.agg #[v, .int .i64 ((survF f1 K).safe : Int)], .slice ka2 kn2 kc2] ∧ Own w' wr.heap.size v (survF f1 K).data ∧ (survK f1 K).length = kn2 ∧ BytesAt w' ka2 (survK f1 K) ∧ kn2 ≤ kc2 ∧ (∀ a, ka2 = some a → ∃ b, ka' = some b ∧ b.block = a.block) ∧ Turn (fun i => (Value.slice ao n c).ownBlock = some i) wr.drew w') (fuel := 5) rfl (by kernel_rfl) (by kernel_rfl) (by kernel_rfl) (fun _ => by kernel_rfl) (Calls.mono CS.out (fun e w' ⟨v, a2, c2, k2, he, h1, h2, h3, h4, h5, h6⟩ => ⟨_, he, v, a2, c2, k2, rfl, h1, h2, h3, h4, h5, h6⟩)) ?_
      intro x2 w2 ⟨v2, ka2, kc2, kn2, hx2, o2, l2, b2, c2, s2, t2⟩
      have hT1 : Turn (fun i => i = mb1 ∨ (Value.slice ao n c).ownBlock = some i) wr w2 := hS0.trans (t2.mono (fun _ _ h => Or.inr h))
      refine ⟨hT1, ?_⟩
      obtain ⟨k2, hk2⟩ : ∃ k, (survF f1 K).data.length = k := ⟨_, rfl⟩
      obtain ⟨a2, d2, hv2, _, _⟩ := Own.sl o2 k2 hk2
      subst hv2
      subst hx2
      have hmb2 : w2.heap[mb1]? = wr.heap[mb1]? := t2.block mb1 HD1.out.own.lt (fun e => (row_of HD1.out HM.out e).2.2.1 rfl)
      refine tk 13 22 (.tuple #[.agg #[.slice a2 k2 d2, .int .i64 ((survF f1 K).safe : Int)], .slice ka2 kn2 kc2]) (fuel := 4) rfl (by kernel_rfl) (by kernel_rfl) (by kernel_rfl) (by kernel_rfl) noPanic_false (by kernel_rfl) (fun _ _ => by kernel_rfl) hT1 ?_
      refine tk 14 36 (.agg #[.slice a2 k2 d2, .int .i64 ((survF f1 K).safe : Int)]) (fuel := 3) rfl (by kernel_rfl) (by kernel_rfl) (by kernel_rfl) (by kernel_rfl) noPanic_false (by kernel_rfl) (fun _ _ => by kernel_rfl) hT1 ?_
      refine tk 15 37 (.slice ka2 kn2 kc2) (fuel := 2) rfl (by kernel_rfl) (by kernel_rfl) (by kernel_rfl) (by kernel_rfl) noPanic_false (by kernel_rfl) (fun _ _ => by kernel_rfl) hT1 ?_
      refine tkPut 16 (.tmp 26) (.tmp 27) (.tmp 36) mb1 (cs1.length) (vals cs1) (nm) (.agg #[.slice a2 k2 d2, .int .i64 ((survF f1 K).safe : Int)]) (fuel := 1) rfl (by kernel_rfl) (by kernel_rfl) (by kernel_rfl) (by kernel_rfl) (by kernel_rfl) (by kernel_rfl) (by kernel_rfl) (ownsMap_same HD1.out.own hmb2) (hcl1) (HML.out) ?_
      intro w3 h1 h2
      have hT2 : Turn (fun i => i = mb1 ∨ (Value.slice ao n c).ownBlock = some i) wr w3 := hT1.grow h2 (fun g e => Or.inl (Or.inl (by cases e; rfl)))
      refine ⟨hT2, ?_⟩
      refine tk 17 1 (.slice ka2 kn2 kc2) (fuel := 0) rfl (by kernel_rfl) (by kernel_rfl) (by kernel_rfl) (by kernel_rfl) noPanic_false (by kernel_rfl) (fun _ _ => by kernel_rfl) hT2 ?_
      refine wpAnyH_done (by kernel_rfl) (NoPanic.normal ?_) _
      have NEXT : Hid (StR F w sb S keep (.slice (some ⟨nb, no, none⟩) N nc) (j + 1) (P ++ [(nm, survF f1 K)]) (survK f1 K) ka2 kc2 w3) := by
        have hmlt := HD1.out.own.lt
        have hs2 := h2.size
        have hs0 := HX.out.turn.size
        have hnew : ∀ g, (Value.slice a2 k2 d2).ownBlock = some g → wr.heap.size ≤ g ∧ g < w2.heap.size := fun g hg => World.ownsRow.lt o2 g hg
        have hmemP : (nm, f1) ∈ P ++ S.files.drop j := by rw [hdrop]; simp
        have hD := HD1.out.put (F' := more F w w3) (f := survF f1 K) (fun i hi => by
            rcases hi with hi | ⟨e1, e2⟩
            · exact Or.inl hi
            · exact Or.inr ⟨e1, by have := hT2.size; omega⟩) (hT2.same hsbwr nsG) h1 (fun c hc hne g hg => hT2.same (HD1.out.row_ne hc hg).2.2 (fun e => e.elim (HD1.out.row_ne hc hg).1 (fun e => (row_of HD1.out HM.out e).2.1 c hc hne hg)))
          ⟨.slice a2 k2 d2, rfl, (o2.mono (Nat.zero_le _)).same (fun g hg => h2.block g (hnew g hg).2 (fun e => by
            cases e
            have := (hnew _ hg).1
            omega))⟩ (fun g hg => by
            rw [rowB_file] at hg
            have := hnew g hg
            exact ⟨Or.inr ⟨by omega, by omega⟩, fun c hc _ hcg => by have := (HD1.out.row_ne hc hcg).2.2; omega⟩)
        have emid : fput nm (survF f1 K) (P ++ S.files.drop j) = (P ++ [(nm, survF f1 K)]) ++ S.files.drop (j + 1) := by
          rw [hdrop1, hdrop, fput_mid (by rw [← hdrop]; exact HX.out.fs.ris)]; simp
        have hle := survF_len f1 K (HX.out.fs.safe _ hmemP)
        have hfs := HX.out.fs.put (rising_get HX.out.fs.ris hmemP) (f := survF f1 K) (by have := HX.out.fs.used; omega) (Nat.le_of_eq hle.1.symm)
        simp only at hD
        rw [emid] at hD hfs
        have hT3 : Turn F w w3 := HX.out.turn.more (hT2.mono (fun i hi e => e.elim (fun e => by cases e; exact HD1.out.fmb) (fun e => (ngf i e).1)))
        have hkf3 : ∀ a, ka2 = some a → survK f1 K ≠ [] → ¬ F a.block ∧ a.block < w.heap.size := fun a ha hne => by
          obtain ⟨b, hb, e1⟩ := s2 a ha
          rw [← e1]
          exact HX.out.kf b hb (fun e => hne (by unfold survK; rw [e]; exact surv_nil _ _ _ _))
        refine ⟨by rw [HN.out]; omega, hD.disk, hfs, ?_, fun hne => ?_, by rw [l2]; exact c2, hkf3, hT3, HX.out.nam.same (fun g cur hg => hT2.same (Array.getElem?_eq_some_iff.1 hg).1 (fun e => ?_))⟩
        · rw [HX.out.res, hdrop, hdrop1]; simp [survAll]
        · obtain ⟨b, o, e1, hcc⟩ := b2 hne
          refine ⟨b, o, e1, fun q hq => h2.cell (hcc q hq) (fun e => ?_)⟩
          obtain ⟨k3, k4⟩ := hkf3 _ e1 hne
          simp only [Option.some.injEq] at e
          rcases HD1.out.fmb with e2 | ⟨e2, _⟩
          · exact k3 (e ▸ e2)
          · have k5 : b < w.heap.size := k4
            omega
        · rcases e with e | e
          · obtain ⟨es, cl, hb, _⟩ := HD1.out.own
            rw [← e, hg] at hb; cases hb
          · obtain ⟨cur2, hc2⟩ := own_block HO.out e
            rw [hg] at hc2; simp at hc2
      have HL2 : Hid ((survK f1 K).length = kn2) := l2
      clear hT1 hT2 h1 h2 o2 b2 c2 s2 t2 l2 hk2 hmb2 hS0 ngf nsG
      go_simp
      go_wp2
      go_roundw
      case rel => exact ⟨j + 1, P ++ [(nm, survF f1 K)], survK f1 K, ka2, kc2, kn2, HL2, rfl, by go_num, by omega, NEXT⟩
      case measure => simp [intOf]; omega
    · have hj : j = N := by omega
      have hend : S.files.drop j = [] := by rw [List.drop_eq_nil_iff, HN.out]; omega
      have hres := HX.out.res
      have hdk := HX.out.disk
      rw [hend] at hres hdk
      simp only [survAll, List.append_nil] at hres hdk
      have HFIN : Hid (DiskAt wr (more F w wr) sb (startS S keep)) := by
        unfold Hid startS
        rw [hres]; exact hdk
      have HTN := show Hid (Turn F w wr) from HX.out.turn
      clear hdk hres hend
      go_wp2
      exact bodyPost_end (v := .tuple #[]) (results_none (by kernel_rfl) _ _ _) rfl ⟨rfl, HTN.out, HFIN.out⟩
end Go.Proofs.Ytlbodickflljfaa
