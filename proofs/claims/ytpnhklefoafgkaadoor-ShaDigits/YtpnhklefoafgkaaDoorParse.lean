/-
  THE WALKS OF sha.digitOf AND sha.Parse.
-/
import Derived.Test.YtpnhklefoafgkaaDoorHand
namespace Go.Proofs.YtpnhklefoafgkaaDoor
open Go.RowKit Sha
/-- Is it a digit that Hex writes? -/
def isDig (c : UInt8) : Bool := decide (48 ≤ c.toNat ∧ c.toNat ≤ 57) || decide (97 ≤ c.toNat ∧ c.toNat ≤ 102)
/-- Its number (0, if it is none). -/
def digN (c : UInt8) : UInt8 := if 48 ≤ c.toNat ∧ c.toNat ≤ 57 then UInt8.ofNat (c.toNat - 48) else if 97 ≤ c.toNat ∧ c.toNat ≤ 102 then UInt8.ofNat (c.toNat - 87) else 0
set_option maxHeartbeats 400000 in
theorem digitOf_any (c : UInt8) (w : World) : Calls Tryd.prog 29 #[.int .u8 (c.toNat : Int)] w fun e w' => e = .returned (.tuple #[.int .u8 ((digN c).toNat : Int), .bool (isDig c)]) ∧ w' = w := by
  have hc := c.toNat_lt
  by_cases h1 : 48 ≤ c.toNat ∧ c.toNat ≤ 57
  · have e : (digN c).toNat = c.toNat - 48 := by unfold digN; rw [if_pos h1]; simp [UInt8.toNat_ofNat']; omega
    have e2 : isDig c = true := by unfold isDig; simp [h1]
    obtain ⟨h1, h2⟩ := h1
    rw [e, e2, show ((c.toNat - 48 : Nat) : Int) = (c.toNat : Int) - 48 by omega]
    go_enter Tryd.func29, Tryd.ntmps29
    go_wp2
    go_ret2
    exact ⟨rfl, rfl⟩
  · by_cases h2 : 97 ≤ c.toNat ∧ c.toNat ≤ 102
    · have e : (digN c).toNat = c.toNat - 87 := by unfold digN; rw [if_neg h1, if_pos h2]; simp [UInt8.toNat_ofNat']; omega
      have e2 : isDig c = true := by unfold isDig; simp [h2]
      obtain ⟨h2, h3⟩ := h2
      rw [e, e2, show ((c.toNat - 87 : Nat) : Int) = (c.toNat : Int) - 97 + 10 by omega]
      clear e e2
      go_enter Tryd.func29, Tryd.ntmps29
      go_wp2
      go_ret2
      exact ⟨rfl, rfl⟩
    · have e : (digN c).toNat = 0 := by unfold digN; rw [if_neg h1, if_neg h2]; rfl
      have e2 : isDig c = false := by unfold isDig; simp [h1, h2]
      rw [e, e2]
      clear e e2
      go_enter Tryd.func29, Tryd.ntmps29
      go_wp2
      all_goals go_ret2
      all_goals exact ⟨rfl, rfl⟩
theorem digN_lt (c : UInt8) : (digN c).toNat < 16 := by
  unfold digN
  split
  · simp [UInt8.toNat_ofNat']; omega
  · split
    · simp [UInt8.toNat_ofNat']; omega
    · decide
theorem results_cell_tmp {fn : Func} {p q : Tmp} {ty : TypeId} (h : fn.results = #[.cell p ty, .tmp q]) (tmps : Array Value) (w : World) (g : Nat) (t : TypeId) (cs : Array Value) (fr : Nat × Nat) (n : Nat) (e : TypeId)
    (hp : tmps.getD p undef = .pointer (some ⟨g, 0, none⟩)) (hg : w.heap[g]? = some (.cells cs t fr))
    (hu : Tryd.prog.underlying ty = some (.array n e)) (hi : (Tryd.prog.info? ty).map (·.size) = some cs.size) (v : Value) (hv : tmps.getD q undef = v) :
    (results fn tmps).run Tryd.prog w = .ok (.tuple #[.agg cs, v]) w := by
  have hp' : tmps[p]?.getD undef = .pointer (some ⟨g, 0, none⟩) := by simpa using hp
  have hv' : tmps[q]?.getD undef = v := by simpa using hv
  simp [results, h, hp', hv', asAddr, run_loadVar_row w g t ty cs fr _ hg hu rfl hi]
theorem strOf_size (l : List UInt8) : (strOf l).size = l.length := by simp [strOf, ByteArray.size]
theorem idxStr (l : List UInt8) (m : Nat) (hm : m < l.length) (w : World) : (Instr.index 9 (.string (strOf l)) (.int .i64 (m : Int))).run Tryd.prog w = .ok (.int .u8 ((l.getD m 0).toNat : Int)) w := by
  have h : (strOf l)[m]? = some (l.getD m 0) := by
    rw [show (strOf l)[m]? = l.toArray[m]? from rfl]
    simp [hm]
  simp [Instr.index, asIntOf, run_underlying Tryd.underlying9, h]
def zeroHash : List UInt8 := List.replicate 32 0
def hexByte (a b : UInt8) : UInt8 := UInt8.ofNat ((digN a).toNat * 16 + (digN b).toNat)
theorem hexByte_bits (a b : UInt8) : bits .or .u8 ((digN a).toNat * 16 : Int) ((digN b).toNat : Int) = ((hexByte a b).toNat : Int) := by
  have all : ∀ x y : Fin 16, bits .or .u8 ((x.val : Int) * 16) (y.val : Int) = ((UInt8.ofNat (x.val * 16 + y.val)).toNat : Int) := by decide +kernel
  exact all ⟨_, digN_lt a⟩ ⟨_, digN_lt b⟩
def parseTo (l : List UInt8) : Nat → List UInt8
  | 0 => zeroHash
  | k + 1 => (parseTo l k).set k (hexByte (l.getD (2 * k) 0) (l.getD (2 * k + 1) 0))
theorem parseTo_len (l : List UInt8) : ∀ k, (parseTo l k).length = 32
  | 0 => by simp [parseTo, zeroHash]
  | k + 1 => by simp [parseTo, parseTo_len l k]
def allDig (l : List UInt8) : Bool := l.all isDig
/-- What Parse answers: the hash, and the error's number. -/
def parseH (l : List UInt8) : List UInt8 := if l.length = 64 ∧ allDig l = true then parseTo l 32 else zeroHash
def parseE (l : List UInt8) : Int := if l.length < 64 then 3 else if 64 < l.length then 7 else if allDig l = true then 0 else 4
theorem parseH_len (l : List UInt8) : (parseH l).length = 32 := by unfold parseH; split; exact parseTo_len _ _; rfl
theorem allDig_of (l : List UInt8) (h : l.length = 64) (hall : ∀ j, j < 32 → isDig (l.getD (2 * j) 0) = true ∧ isDig (l.getD (2 * j + 1) 0) = true) : allDig l = true := by
  unfold allDig
  rw [List.all_eq_true]
  intro c hc
  obtain ⟨i, hi, rfl⟩ := List.getElem_of_mem hc
  have := hall (i / 2) (by omega)
  rcases Nat.mod_two_eq_zero_or_one i with h0 | h0
  · have e : 2 * (i / 2) = i := by omega
    rw [e] at this
    simpa [hi] using this.1
  · have e : 2 * (i / 2) + 1 = i := by omega
    rw [e] at this
    simpa [hi] using this.2
theorem not_allDig (l : List UInt8) (j : Nat) (hj : j < l.length) (h : isDig (l.getD j 0) = false) : allDig l = false := by
  unfold allDig
  rw [List.all_eq_false]
  refine ⟨l[j], List.getElem_mem hj, ?_⟩
  simp [hj] at h
  simp [h]
def ParRel (l : List UInt8) (w : World) (k : Nat) (wr : World) : Prop := Below w.heap.size w wr ∧ RowIs wr w.heap.size 24 (c8 zeroHash) ∧ RowIs wr (w.heap.size + 1) 24 (c8 (parseTo l k))
theorem ParRel.start (l : List UInt8) (w : World) : ParRel l w 0 ((w.alloc (.cells (c8 zeroHash).toArray 24)).alloc (.cells (c8 zeroHash).toArray 24)) := by
  refine ⟨((Below.refl _ _).alloc (Nat.le_refl _) _).alloc (by simp) _, (RowIs.new w 24 _).alloc _, ?_⟩
  have := RowIs.new (w.alloc (.cells (c8 zeroHash).toArray 24)) 24 (c8 zeroHash)
  rw [show (w.alloc (.cells (c8 zeroHash).toArray 24)).heap.size = w.heap.size + 1 by simp] at this
  exact this
theorem ParRel.next {l : List UInt8} {w wr : World} {k : Nat} (h : ParRel l w k wr) : ParRel l w (k + 1) (wr.setCell ⟨w.heap.size + 1, k, none⟩ (.int .u8 ((hexByte (l.getD (2 * k) 0) (l.getD (2 * k + 1) 0)).toNat : Int))) := by
  obtain ⟨hb, r1, r2⟩ := h
  refine ⟨hb.setCell (by show w.heap.size ≤ w.heap.size + 1; omega) _, r1.other _ _ (by show w.heap.size ≠ w.heap.size + 1; omega), ?_⟩
  have := r2.set k (.int .u8 ((hexByte (l.getD (2 * k) 0) (l.getD (2 * k + 1) 0)).toNat : Int))
  rw [c8_set] at this
  exact this
theorem zsize : (Tryd.prog.info? 24).map (·.size) = some (c8 zeroHash).toArray.size := size24
set_option maxRecDepth 100000 in
set_option maxHeartbeats 800000 in
theorem parse_short (l : List UInt8) (hl : ¬ l.length = 64) (w : World) :
    Calls Tryd.prog 17 #[.string (strOf l)] w fun e w' => e = .returned (.tuple #[.agg (c8 (parseH l)).toArray, .int .i64 (parseE l)]) ∧ Below w.heap.size w w' := by
  have hs := strOf_size l
  have e1 : parseH l = zeroHash := by unfold parseH; rw [if_neg (fun h => hl h.1)]
  rw [e1]
  clear e1
  rcases Nat.lt_or_ge l.length 64 with h | h
  · have e2 : parseE l = 3 := by unfold parseE; rw [if_pos h]
    rw [e2]
    clear e2 hl
    go_enter Tryd.func17, Tryd.ntmps17
    go_wp2_with (first
      | (refine wpList_built rfl 24 #[] rfl (c8 zeroHash).toArray (by kernel_rfl) ?_)
      | (refine wpList_store_row rfl 24 (.tmp 2) (.tmp 13) rfl w.heap.size (c8 zeroHash).toArray rfl rfl 24 (c8 zeroHash).toArray (RowIs.new w 24 (c8 zeroHash)) zsize rfl (all_oneCell_toArray (c8_one _)) ?_))
    exact bodyPost_ret (results_cell_tmp Tryd.results17 _ _ w.heap.size 24 _ (0, 0) _ _ rfl (RowIs.setRow (RowIs.new w 24 (c8 zeroHash)) _) Tryd.underlying24 zsize _ rfl) rfl ⟨rfl, Below.row ((Below.refl _ _).alloc (Nat.le_refl _) _) (Nat.le_refl _) _⟩
  · have h64 : 64 < l.length := by omega
    have e2 : parseE l = 7 := by unfold parseE; rw [if_neg (by omega), if_pos h64]
    rw [e2]
    clear e2 hl
    go_enter Tryd.func17, Tryd.ntmps17
    go_wp2_with (first
      | (refine wpList_built rfl 24 #[] rfl (c8 zeroHash).toArray (by kernel_rfl) ?_)
      | (refine wpList_store_row rfl 24 (.tmp 2) (.tmp 17) rfl w.heap.size (c8 zeroHash).toArray rfl rfl 24 (c8 zeroHash).toArray (RowIs.new w 24 (c8 zeroHash)) zsize rfl (all_oneCell_toArray (c8_one _)) ?_))
    exact bodyPost_ret (results_cell_tmp Tryd.results17 _ _ w.heap.size 24 _ (0, 0) _ _ rfl (RowIs.setRow (RowIs.new w 24 (c8 zeroHash)) _) Tryd.underlying24 zsize _ rfl) rfl ⟨rfl, Below.row ((Below.refl _ _).alloc (Nat.le_refl _) _) (Nat.le_refl _) _⟩
end Go.Proofs.YtpnhklefoafgkaaDoor
