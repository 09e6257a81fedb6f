/-
  slices.Grow and slices.Concat at []byte.
-/
import Derived.Test.YtgmdolpjkaajfaaGreatDoorOI
import Derived.Test.YtgmdolpjkaajfaaGreatDoorHB
namespace Go.Proofs.YtgmdolpjkaajfaaGreatDoor
open Go.RowKit Leb
def zs (n : Nat) : List UInt8 := List.replicate n 0
theorem zs_len (n : Nat) : (zs n).length = n := by simp [zs]
theorem zs_data (n : Nat) : (strOf (zs n)).data.toList = zs n := by simp [strOf]
theorem zeroCells_zs (n : Nat) : Builtin.zeroCells (Value.int .u8 0).cells n = (strOf (zs n)).data.map fun b => Value.int .u8 (b.toNat : Int) := by
  apply Array.ext'
  simp only [Builtin.zeroCells, Value.cells, Array.toList_map, zs_data, Array.toList_range]
  apply List.ext_getElem (by simp [zs])
  intro i h1 h2
  simp [zs, Nat.mod_one]
theorem grow_small (need c : Nat) (h : c < need) (hn : need ≤ 2000000000) : Builtin.nextslicecap need c ≤ 10000000000 := by
  unfold Builtin.nextslicecap
  split
  · omega
  · split
    · omega
    · simp only [Builtin.growBy]
      repeat' split
      all_goals omega
theorem append_zs (w : World) (ty : TypeId) (base : Option Addr) (l c n : Nat) (hn : n ≤ 1000000000) (hl : l ≤ 1000000000) :
    (Builtin.append_ #[32, 3] ty #[.slice base l c, .int .i64 (n : Int)]).run Tryz.prog w = (Builtin.append_ #[32, 9] ty #[.slice base l c, .string (strOf (zs n))]).run Tryz.prog w := by
  obtain ⟨i, hi, hz⟩ := Option.map_eq_some_iff.1 bytes5
  simp only [Prod.mk.injEq] at hz
  obtain ⟨hz, hsz, hby⟩ := hz
  have hw : IntKind.i64.wrap (n : Int) = n := by simp [IntKind.wrap, IntKind.bits, IntKind.signed]; split <;> omega
  have hs : (strOf (zs n)).size = n := by simp [strOf, zs, ByteArray.size]
  have h1 : ¬ (n : Int) < 0 := by omega
  have h2 : ¬ (281474976710656 : Int) < (n : Int) := by omega
  have h5 : ¬ (9223372036854775807 : Int) < (l : Int) + (n : Int) := by omega
  have hzc := zeroCells_zs n
  have hA : ((strOf (zs n)).data.map fun b => Value.int .u8 (b.toNat : Int)).extract 0 n = (strOf (zs n)).data.map fun b => Value.int .u8 (b.toNat : Int) := by
    rw [Array.extract_eq_self_of_le]
    have := hs
    unfold ByteArray.size at this
    simp [this]
  have hT : ((strOf (zs n)).data.toList.map fun b => Value.int .u8 (b.toNat : Int)).take n = (strOf (zs n)).data.toList.map fun b => Value.int .u8 (b.toNat : Int) := by
    apply List.take_of_length_le
    rw [List.length_map, zs_data, zs_len]
    omega
  have hdata : n = 0 → (strOf (zs n)).data = #[] := fun h => by subst h; rfl
  by_cases hfit : l + n ≤ c
  · by_cases h0 : n = 0
    · have hd0 := hdata h0
      have hs0 : (strOf (zs n)).size = 0 := by rw [hs, h0]
      have hw0 : IntKind.i64.wrap (n : Int) = 0 := by rw [hw, h0]; rfl
      have hlc : l ≤ c := by omega
      simp [Builtin.append_, run_underlying Tryz.underlying32, run_underlying Tryz.underlying3, run_underlying Tryz.underlying9, sizeOf, typeInfo, hi, hsz, hby, Builtin.lenOf, hw0, hs0, asInt, asIntOf, hlc, Builtin.firstCells, hd0]
    · have h3 : ¬ (n : Int) ≤ 0 := by omega
      simp [Builtin.append_, run_underlying Tryz.underlying32, run_underlying Tryz.underlying3, run_underlying Tryz.underlying9, sizeOf, typeInfo, hi, hsz, hby, Builtin.lenOf, hw, hs, asInt, asIntOf, h1, h2, h0, Builtin.firstCells, hzc, hfit, hT]
  · have hcap : ¬ 281474976710656 < Builtin.nextslicecap (l + n) c := by have := grow_small (l + n) c (by omega) (by omega); omega
    by_cases h0 : n = 0
    · have hd0 := hdata h0
      have hs0 : (strOf (zs n)).size = 0 := by rw [hs, h0]
      have hw0 : IntKind.i64.wrap (n : Int) = 0 := by rw [hw, h0]; rfl
      have hlc : ¬ l ≤ c := by omega
      rw [h0, Nat.add_zero] at hcap
      have h6 : ¬ (9223372036854775807 : Int) < (l : Int) := by omega
      simp [Builtin.append_, run_underlying Tryz.underlying32, run_underlying Tryz.underlying3, run_underlying Tryz.underlying9, sizeOf, typeInfo, hi, hsz, hby, Builtin.lenOf, hw0, hs0, asInt, asIntOf, hlc, Builtin.firstCells, hd0, hcap, h6]
    · have h3 : ¬ (n : Int) ≤ 0 := by omega
      simp [Builtin.append_, run_underlying Tryz.underlying32, run_underlying Tryz.underlying3, run_underlying Tryz.underlying9, sizeOf, typeInfo, hi, hsz, hby, Builtin.lenOf, hw, hs, asInt, asIntOf, h1, h2, h5, h0, Builtin.firstCells, hzc, hfit, hcap, hA]
theorem wpList_append_noughts {w : World} {ops : Array Oper} {rest : List Oper} {o : Oper} {a : Act} {Q : Exit → Act → World → Prop} (hgd : o.guard = none) (sl x : Operand)
    (ho : o.op = .call { callee := .builtin .append, args := #[sl, x], argTypes := #[32, 3] })
    (n : Nat) (hs : a.eval sl = .slice none 0 0) (hx : a.eval x = .int .i64 (n : Int)) (hn : n ≤ 1000000000)
    (h : ∀ v' w', Own w' w.heap.size v' (zs n) → After w w' → wpList Tryz.prog ops Q rest (a.put o.dst v') w') : wpList Tryz.prog ops Q (o :: rest) a w := by
  obtain ⟨i, hi, hz⟩ := Option.map_eq_some_iff.1 bytes5
  simp only [Prod.mk.injEq] at hz
  obtain ⟨hz, hsz, hby⟩ := hz
  obtain ⟨v', w', hr, h1, h2, _⟩ := Lib.run_append_own_string (P := Tryz.prog) w w.heap.size 32 9 o.type 5 i Tryz.underlying32 Tryz.underlying9 hi hz hsz hby (.slice none 0 0) 0 [] (World.ownsRow_nil w w.heap.size 5 1) (strOf (zs n)) (by rw [strOf_size, zs_len]; unfold maxLen; omega) (by rw [strOf_size, zs_len]; omega) (Nat.le_refl _)
  have e : Lib.strCells (strOf (zs n)) = c8 (zs n) := by simp [Lib.strCells, strOf, c8]
  rw [strOf_size, zs_len, e, List.nil_append, Nat.zero_add] at h1
  have hk := h v' w' (by unfold Own; rw [zs_len]; exact h1) (after_grown (After.refl w) h2 (Nat.le_refl _) (fun k hk => by cases hk))
  refine wpList_plain hgd fun K hK => ?_
  unfold Oper.wp execOp
  simp only [ho, resolve, invoke, builtin, Sem.run_bind, Sem.run_pure, Result.andThen_ok, List.map_toArray, List.map_cons, List.map_nil, hs, hx, append_zs w o.type none 0 0 n hn (by omega), hr]
  exact hK _ _ hk
theorem Own.cut0 {w : World} {base g n c : Nat} {bs : List UInt8} (h : Own w base (.slice (some ⟨g, 0, none⟩) n c) bs) : Own w base (.slice (some ⟨g, 0, none⟩) 0 c) [] := by
  rcases h.2 with ⟨e, _⟩ | ⟨g', cap, cur, e, h1, h2, _, h4, h5, _⟩
  · cases e
  · cases e
    exact ⟨rfl, .inr ⟨g, c, cur, rfl, h1, h2, Nat.zero_le _, h4, h5, by simp [c8]⟩⟩
set_option maxRecDepth 100000 in
set_option maxHeartbeats 1600000 in
theorem grow_any (n : Nat) (hn : n ≤ 1000000000) (w : World) :
    Calls Tryz.prog 106 #[.slice none 0 0, .int .i64 (n : Int)] w fun e w' => ∃ v, e = .returned v ∧ Own w' w.heap.size v [] ∧ After w w' := by
  by_cases h0 : n = 0
  · subst h0
    go_enter Tryz.func106, Tryz.ntmps106
    go_wp2
    go_ret
    exact ⟨_, rfl, Own.nil _ _, After.refl _⟩
  · have hp : (0 : Int) < (n : Int) := by omega
    have hp2 : ¬ (n : Int) < 0 := by omega
    have hs0 : ∀ W : World, (Instr.sliceAt 32 (.slice none 0 0) none (some (.int .i64 0)) none).run Tryz.prog W = .ok (.slice none 0 0) W := fun W => by kernel_rfl
    go_enter Tryz.func106, Tryz.ntmps106
    go_wp2_with (at_builtin; (refine wpList_append_noughts rfl _ _ rfl n rfl rfl hn ?_; intro v1 w1 ho ha; obtain ⟨a1, c1, he, hat, _, _⟩ := own_sl ho (zs_len n); subst he; obtain ⟨g1, o1, hg1, _⟩ := hat (fun e => by have := congrArg List.length e; rw [zs_len] at this; simp at this; omega); subst hg1; have ho1 : o1 = 0 := (by rcases ho.2 with ⟨e, _⟩ | ⟨_, _, _, e, _⟩; (simp at e); (simp only [Value.slice.injEq, Option.some.injEq, Addr.mk.injEq] at e; exact e.1.2.1)); subst ho1; have hs1 : (Instr.sliceAt 32 (.slice (some ⟨g1, 0, none⟩) n c1) none (some (.int .i64 0)) none).run Tryz.prog w1 = .ok (.slice (some ⟨g1, 0, none⟩) 0 c1) w1 := (by have h := slice_hi g1 0 n c1 0 (Nat.zero_le _) w1; simpa using h); have H1 := show Hid (Own w1 w.heap.size (.slice (some ⟨g1, 0, none⟩) 0 c1) [] ∧ After w w1) from ⟨ho.cut0, ha⟩; clear ho ha hat))
    go_ret
    exact ⟨_, rfl, H1.out.1, H1.out.2⟩
/-- Slices of bytes in memory. -/
def LsAt (w : World) (b o : Nat) (LS : List (List UInt8)) : Prop := ∀ i L, LS[i]? = some L → ∃ a k c, w.cell? ⟨b, o + i, none⟩ = some (.slice a k c) ∧ BytesAt w a L ∧ L.length = k
theorem flat_le : ∀ (LS : List (List UInt8)) (i : Nat), (LS.take i).flatten.length ≤ LS.flatten.length
  | [], i => by simp
  | L :: LS, 0 => by simp
  | L :: LS, i + 1 => by
    have := flat_le LS i
    simp only [List.take_succ_cons, List.flatten_cons, List.length_append]
    omega
theorem flat_succ {LS : List (List UInt8)} {i : Nat} {L : List UInt8} (h : LS[i]? = some L) : (LS.take (i + 1)).flatten = (LS.take i).flatten ++ L := by
  rw [List.take_add_one, h]
  simp
set_option maxRecDepth 100000 in
set_option maxHeartbeats 2400000 in
theorem concat_any (b o : Nat) (LS : List (List UInt8)) (n c : Nat) (hn : LS.length = n) (hn2 : n ≤ 1000) (hs : LS.flatten.length ≤ 1000000000) (w : World) (h : LsAt w b o LS) :
    Calls Tryz.prog 67 #[.slice (some ⟨b, o, none⟩) n c] w fun e w' => ∃ v, e = .returned v ∧ Own w' w.heap.size v LS.flatten ∧ After w w' := by
  have HL : Hid (LsAt w b o LS ∧ LS.length = n ∧ LS.flatten.length ≤ 1000000000) := ⟨h, hn, hs⟩
  clear h hn hs
  go_enter Tryz.func67, Tryz.ntmps67
  go_wp2
  go_loop [3, 11] (fun vs vi => ∃ i S : Nat, vi = .int .i64 (i : Int) ∧ vs = .int .i64 (S : Int) ∧ i ≤ n ∧ Hid ((LS.take i).flatten.length = S)) (fun _ vi => n - (intOf vi).toNat)
  case atStart => exact ⟨0, 0, rfl, rfl, Nat.zero_le _, rfl⟩
  case round =>
    obtain ⟨i, S, rfl, rfl, hi, HS⟩ := hrel
    by_cases hlt : i < n
    · have hii : (i : Int) < (n : Int) := by omega
      obtain ⟨L, hL⟩ : ∃ L, LS[i]? = some L := ⟨_, List.getElem?_eq_getElem (by rw [HL.out.2.1]; exact hlt)⟩
      obtain ⟨a, k, cc, hc, _, hk⟩ := HL.out.1 i L hL
      have HK : Hid ((LS.take (i + 1)).flatten.length = S + k) := by unfold Hid; rw [flat_succ hL, List.length_append, HS.out, hk]
      have hSk : S + k ≤ 1000000000 := by have h1 := flat_le LS (i + 1); have h2 := HK.out; have h3 := HL.out.2.2; omega
      have hng : ¬ ((S : Int) + (k : Int)) < 0 := by omega
      clear hL hk
      go_wp2
      go_round
      case rel => exact ⟨i + 1, S + k, by go_num, by go_num, by omega, HK.out⟩
      case measure => simp [intOf]; omega
    · obtain rfl : i = n := by omega
      have hii : ¬ (i : Int) < (i : Int) := by omega
      have hS : S ≤ 1000000000 := by have h1 := flat_le LS i; have h2 := HS.out; have h3 := HL.out.2.2; omega
      go_wp2_with (go_at_call 106; refine Calls.mono (grow_any S hS w) ?_; rintro e w1 ⟨v1, rfl, ho, ha⟩; have H1 := show Hid (Own w1 w.heap.size v1 [] ∧ After w w1) from ⟨ho, ha⟩; clear ho ha)
      go_loopw [6, 27] (fun vo vj wr => ∃ j : Nat, vj = .int .i64 (j : Int) ∧ j ≤ i ∧ Hid (Own wr w.heap.size vo (LS.take j).flatten ∧ After w wr)) (fun _ vj _ => i - (intOf vj).toNat)
      case atStart => exact ⟨0, rfl, Nat.zero_le _, H1.out.1, H1.out.2⟩
      case round =>
        obtain ⟨j, hvj, hj, HO⟩ := hrel
        obtain ⟨vo, hvo⟩ : ∃ v, v = u6 := ⟨_, rfl⟩
        subst hvj hvo
        by_cases hlt : j < i
        · have hjj : (j : Int) < (i : Int) := by omega
          obtain ⟨L, hL⟩ : ∃ L, LS[j]? = some L := ⟨_, List.getElem?_eq_getElem (by rw [HL.out.2.1]; exact hlt)⟩
          obtain ⟨a, k, cc, hc, hat, hk⟩ := HL.out.1 j L hL
          have hc' : wr.cell? ⟨b, o + j, none⟩ = some (.slice a k cc) := (Below.cell HO.out.2 (p := ⟨b, o + j, none⟩) (World.block_lt_of_cell? w _ hc)).trans hc
          have HK : Hid ((LS.take (j + 1)).flatten = (LS.take j).flatten ++ L ∧ L.length = k ∧ BytesAt wr a L ∧ (LS.take j).flatten.length + L.length ≤ 1000000000) := ⟨flat_succ hL, hk, hat.after HO.out.2, by have h1 := flat_le LS (j + 1); have h3 := HL.out.2.2; rw [flat_succ hL, List.length_append] at h1; omega⟩
          clear hL hk hat hc
          go_wp2_with (at_builtin; refine wpList_append_any rfl _ _ rfl w.heap.size vo (LS.take j).flatten rfl HO.out.1 a cc L k HK.out.2.1 rfl HK.out.2.2.1 (by have := HK.out.2.2.2; omega) HO.out.2.size ?_; intro v4 w4 ho hg; have H4 := show Hid (Own w4 w.heap.size v4 (LS.take (j + 1)).flatten ∧ After w w4) from ⟨by rw [HK.out.1]; exact ho, after_grown HO.out.2 hg (Nat.le_refl _) (fun q hq => (World.ownsRow.lt HO.out.1 q hq).1)⟩; clear ho hg)
          go_roundw
          case rel => exact ⟨j + 1, by go_num, by omega, H4.out.1, H4.out.2⟩
          case measure => simp [intOf]; omega
        · obtain rfl : j = i := by omega
          have hjj : ¬ (j : Int) < (j : Int) := by omega
          go_wp2
          go_ret
          exact ⟨_, rfl, by have h := HO.out.1; rw [← HL.out.2.1, List.take_length] at h; exact h, HO.out.2⟩

end Go.Proofs.YtgmdolpjkaajfaaGreatDoor
