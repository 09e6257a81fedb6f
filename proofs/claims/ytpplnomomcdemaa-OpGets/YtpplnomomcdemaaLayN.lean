/-
  THE NAMES, NUMBERED BY A MAP: the walk of op.layNames.
-/
import Derived.Test.YtpplnomomcdemaaData
import Derived.Test.YtpplnomomcdemaaRunsPut
import Derived.Maps.OwnSet
import Derived.Maps.Views
namespace Go.Proofs.Ytpplnomomcdemaa
open Go.RowKit Go.Maps Leb
abbrev Nm := List UInt8
theorem law9 : Keyed Try.prog 9 := string_keyed Try.underlying9
theorem zero3 (w : World) : (zeroValue 3).run Try.prog w = .ok (.int .i64 0) w := by kernel_rfl
def Rv (v : Value) : Option (DataW Value × List MemPlace) := some (.held v, [])
theorem Rv_inv {v : Value} {d : DataW Value} {ps : List MemPlace} (h : Rv v = some (d, ps)) : d = .held v := by simp [Rv] at h; exact h.1.symm
theorem key9 (nm : Nm) (h : nm.length ≤ maxLen) : keyOf Try.prog 9 (.string (strOf nm)) = some (.string nm) := by
  have := WideMaps.keyOf_string_mk Try.underlying9 (s := strOf nm) (by rw [strOf_size]; exact h)
  simpa [strOf] using this
theorem isKey_string (h : Nm) : WideAt.IsKeyLit (.string h) := trivial
/-- A map that numbers these names, from 0 on. -/
structure NumAt (w : World) (mb : Nat) (N : List Nm) : Prop where
  ex : ∃ D, w.ownsMap Try.prog 9 Rv mb N.length D ∧ Tidy D ∧ Maps.size D = N.length ∧ (∀ nm, Maps.has D (.string nm) = decide (nm ∈ N)) ∧ ∀ nm, nm ∈ N → ∀ z, D.atKey (.string nm) z = .held (.int .i64 (N.idxOf nm : Int))
theorem NumAt.lt {w : World} {mb : Nat} {N : List Nm} (h : NumAt w mb N) : mb < w.heap.size := by obtain ⟨D, h, _⟩ := h.ex; exact h.lt
theorem NumAt.same {w w' : World} {mb : Nat} {N : List Nm} (h : NumAt w mb N) (hs : w'.heap[mb]? = w.heap[mb]?) : NumAt w' mb N := by
  obtain ⟨D, ⟨es, clock, hb, r⟩, h2⟩ := h.ex
  exact ⟨D, ⟨es, clock, by rw [hs]; exact hb, r⟩, h2⟩
theorem NumAt.after {w w' : World} {mb : Nat} {N : List Nm} (h : NumAt w mb N) (ha : After w w') : NumAt w' mb N := h.same (ha.block mb h.lt)
theorem NumAt.made (w : World) : NumAt (w.alloc (.map #[] 0)) w.heap.size [] :=
  ⟨.map [], World.ownsMap_made w Try.prog 9 Rv, tidy_empty, rfl, fun nm => by simp [Maps.has], fun nm h => by simp at h⟩
theorem NumAt.look {w : World} {mb : Nat} {N : List Nm} (h : NumAt w mb N) {nm : Nm} (hl : nm.length ≤ maxLen) (hm : nm ∈ N) :
    (Instr.lookup 87 (.map (some mb)) (.string (strOf nm)) false).run Try.prog w = .ok (.int .i64 (N.idxOf nm : Int)) w := by
  obtain ⟨D, h1, _, _, _, h5⟩ := h.ex
  obtain ⟨v', ps, hrun, hv⟩ := h1.lookup law9 Try.underlying87 (zero3 w) (zd := .held (.int .i64 0)) (zp := []) rfl (key9 nm hl)
  have := Rv_inv hv
  rw [h5 nm hm] at this
  simp at this
  rw [← this] at hrun
  exact hrun
theorem NumAt.looks {w : World} {mb : Nat} {N : List Nm} (h : NumAt w mb N) {nm : Nm} (hl : nm.length ≤ maxLen) {t : Bool} (ht : decide (nm ∈ N) = t) :
    ∃ v, (Instr.lookup 87 (.map (some mb)) (.string (strOf nm)) true).run Try.prog w = .ok (.tuple #[v, .bool t]) w := by
  obtain ⟨D, h1, _, _, h4, _⟩ := h.ex
  obtain ⟨v', ps, hrun, _⟩ := h1.look_ok law9 Try.underlying87 (zero3 w) (zd := .held (.int .i64 0)) (zp := []) rfl (key9 nm hl)
  rw [h4 nm, ht] at hrun
  exact ⟨v', hrun⟩
theorem NumAt.len {w : World} {mb : Nat} {N : List Nm} (h : NumAt w mb N) (ty : TypeId) : (Builtin.len_ #[87] ty #[.map (some mb)]).run Try.prog w = .ok (.int .i64 (N.length : Int)) w := by
  obtain ⟨D, h1, _, h3, _⟩ := h.ex
  rw [← h3]; exact h1.len Try.underlying87 ty
theorem NumAt.put {w : World} {mb : Nat} {N : List Nm} (h : NumAt w mb N) {nm : Nm} (hl : nm.length ≤ maxLen) (hm : ¬ nm ∈ N) (hn : N.length < maxLen) :
    ∃ w', (Instr.mapUpdate 87 (.map (some mb)) (.string (strOf nm)) (.int .i64 (N.length : Int))).run Try.prog w = .ok () w' ∧ NumAt w' mb (N ++ [nm]) ∧ w.grownBy w' (some mb) := by
  obtain ⟨D, h1, h2, h3, h4, h5⟩ := h.ex
  obtain ⟨w', hrun, r1, r2⟩ := h1.update law9 Try.underlying87 hn (key9 nm hl) (val := .int .i64 (N.length : Int)) (d := .held (.int .i64 (N.length : Int))) (ps := []) rfl
  have hh : Maps.has D (.string nm) = false := by rw [h4]; exact decide_eq_false hm
  have hD := h2.isMap
  refine ⟨w', hrun, ⟨_, by rw [List.length_append]; exact r1, h2.put (isKey_string nm) _, ?_, fun x => ?_, fun x hx z => ?_⟩, r2⟩
  · rw [size_put h2, hh, h3, List.length_append]; rfl
  · by_cases e : x = nm
    · subst e; rw [has_put_same hD (isKey_string x)]; simp
    · rw [has_put_other (by intro e2; injection e2 with e2; exact e e2), h4]; simp [e]
  · by_cases e : x = nm
    · subst e
      rw [atKey_put_same hD (isKey_string x), List.idxOf_append, if_neg hm]
      simp
    · have hxN : x ∈ N := by rcases List.mem_append.1 hx with h | h; exact h; simp at h; exact absurd h e
      rw [atKey_put_other (by intro e2; injection e2 with e2; exact e e2), h5 x hxN, List.idxOf_append, if_pos hxN]
section
variable {ops : Array Oper} {rest : List Oper} {o : Oper} {a : Act} {Q : Exit → Act → World → Prop} {w : World}
theorem wpList_of_run {w' : World} {v : Value} (hg : o.guard = none) (hr : (execOp a.eval o).run Try.prog w = .ok (.value v) w') (h : wpList Try.prog ops Q rest (a.put o.dst v) w') : wpList Try.prog ops Q (o :: rest) a w :=
  wpList_plain hg fun K hK => by unfold Oper.wp; rw [hr]; exact hK _ _ h
theorem x_look {m x : Operand} {mb : Nat} {nm : Nm} {ok : Bool} {v : Value} (hop : o.op = .lookup 87 m x ok) (hm : a.eval m = .map (some mb)) (hx : a.eval x = .string (strOf nm)) (hr : (Instr.lookup 87 (.map (some mb)) (.string (strOf nm)) ok).run Try.prog w = .ok v w) : (execOp a.eval o).run Try.prog w = .ok (.value v) w := by
  unfold execOp; simp only [hop, hm, hx, Sem.run_bind, hr, Result.andThen_ok]; rfl
theorem wpList_num (hg : o.guard = none) (m x v : Operand) (ho : o.op = .mapUpdate 87 m x v) {mb : Nat} {N : List Nm} {nm : Nm} (hm : a.eval m = .map (some mb)) (hx : a.eval x = .string (strOf nm)) (hv : a.eval v = .int .i64 (N.length : Int))
    (h : NumAt w mb N) (hl : nm.length ≤ maxLen) (hn : ¬ nm ∈ N) (hb : N.length < maxLen) (K : ∀ w', NumAt w' mb (N ++ [nm]) → w.grownBy w' (some mb) → wpList Try.prog ops Q rest (a.put o.dst undef) w') : wpList Try.prog ops Q (o :: rest) a w :=
  wpList_plain hg fun K' hK => by
    obtain ⟨w', hrun, h1, h2⟩ := h.put hl hn hb
    unfold Oper.wp
    simp [execOp, ho, hm, hx, hv, hrun, Result.andThen]
    exact hK _ _ (K w' h1 h2)
theorem wpList_numLen (hg : o.guard = none) (m : Operand) (ho : o.op = .call { callee := .builtin .len, args := #[m], argTypes := #[87] }) {mb : Nat} {N : List Nm} (hm : a.eval m = .map (some mb)) (h : NumAt w mb N)
    (K : wpList Try.prog ops Q rest (a.put o.dst (.int .i64 (N.length : Int))) w) : wpList Try.prog ops Q (o :: rest) a w :=
  wpList_plain hg fun K' hK => by
    unfold Oper.wp
    simp [execOp, ho, resolve, invoke, builtin, hm, h.len o.type, Result.andThen]
    exact hK _ _ K
end
/-- The names, each once, in the order in which they come first. -/
def more (N : List Nm) (x : Opn) : List Nm := if x.name ∈ N then N else N ++ [x.name]
def firsts (l : List Opn) : List Nm := l.foldl more []
theorem firsts_succ {l : List Opn} {i : Nat} {x : Opn} (hx : l[i]? = some x) : firsts (l.take (i + 1)) = more (firsts (l.take i)) x := by
  unfold firsts; rw [List.take_add_one, hx]; simp
theorem foldl_mem (l : List Opn) : ∀ (N : List Nm) (y : Nm), y ∈ l.foldl more N ↔ y ∈ N ∨ ∃ x ∈ l, x.name = y := by
  induction l with
  | nil => intro N y; simp
  | cons x l ih =>
    intro N y
    rw [List.foldl_cons, ih]
    unfold more
    by_cases h : x.name ∈ N
    · rw [if_pos h]
      constructor
      · rintro (h1 | ⟨z, hz, e⟩)
        · exact Or.inl h1
        · exact Or.inr ⟨z, by simp [hz], e⟩
      · rintro (h1 | ⟨z, hz, e⟩)
        · exact Or.inl h1
        · rcases List.mem_cons.1 hz with rfl | hz
          · exact Or.inl (e ▸ h)
          · exact Or.inr ⟨z, hz, e⟩
    · rw [if_neg h]
      constructor
      · rintro (h1 | ⟨z, hz, e⟩)
        · rcases List.mem_append.1 h1 with h1 | h1
          · exact Or.inl h1
          · simp at h1; exact Or.inr ⟨x, by simp, h1.symm⟩
        · exact Or.inr ⟨z, by simp [hz], e⟩
      · rintro (h1 | ⟨z, hz, e⟩)
        · exact Or.inl (by simp [h1])
        · rcases List.mem_cons.1 hz with rfl | hz
          · exact Or.inl (by simp [e])
          · exact Or.inr ⟨z, hz, e⟩
theorem mem_firsts (l : List Opn) (y : Nm) : y ∈ firsts l ↔ ∃ x ∈ l, x.name = y := by unfold firsts; rw [foldl_mem]; simp
theorem foldl_len (l : List Opn) : ∀ N : List Nm, (l.foldl more N).length ≤ N.length + l.length := by
  induction l with
  | nil => intro N; simp
  | cons x l ih =>
    intro N
    rw [List.foldl_cons]
    have := ih (more N x)
    have h2 : (more N x).length ≤ N.length + 1 := by unfold more; split <;> simp
    simp only [List.length_cons]
    omega
theorem firsts_len (l : List Opn) : (firsts l).length ≤ l.length := by have := foldl_len l []; simpa [firsts] using this
def namesB (N : List Nm) : List UInt8 := (N.map textB).flatten
theorem namesB_snoc (N : List Nm) (y : Nm) : namesB (N ++ [y]) = namesB N ++ textB y := by simp [namesB]
theorem textB_len (y : Nm) (h : y.length ≤ 2000) : (textB y).length ≤ 2010 := by
  have := uintB_len10 y.length (by omega)
  unfold textB; rw [List.length_append]; omega
theorem namesB_len : ∀ (N : List Nm), (∀ y ∈ N, y.length ≤ 2000) → (namesB N).length ≤ N.length * 2010
  | [], _ => by simp [namesB]
  | y :: N, h => by
    have h1 := textB_len y (h y (by simp))
    have h2 := namesB_len N (fun z hz => h z (by simp [hz]))
    unfold namesB at h2 ⊢
    rw [List.map_cons, List.flatten_cons, List.length_append, List.length_cons]
    omega
def whichs (N : List Nm) (l : List Opn) : List Int := l.map fun x => (N.idxOf x.name : Int)
def layNB (l : List Opn) : List UInt8 := uintB (firsts l).length ++ namesB (firsts l) ++ runsB (whichs (firsts l) l)
/-- What the loop of layNames keeps. -/
structure LnI (w : World) (mb bx : Nat) (l : List Opn) (i : Nat) (v : Value) (wr : World) : Prop where
  num : NumAt wr mb (firsts (l.take i))
  own : Own wr w.heap.size v (namesB (firsts (l.take i)))
  box : RowIs wr bx 87 [.map (some mb)]
  aft : After w wr
theorem num_apart {w : World} {mb : Nat} {N : List Nm} (h : NumAt w mb N) {base : Nat} {v : Value} {bs : List UInt8} (ho : Own w base v bs) : v.ownBlock ≠ some mb := fun e => by
  obtain ⟨D, ⟨es, clock, hb, _⟩, _⟩ := h.ex
  rcases ho.2 with ⟨hv, _⟩ | ⟨g, cap, cur, hv, _, hg, _⟩
  · rw [hv] at e; simp [Value.ownBlock] at e
  · rw [hv] at e; simp [Value.ownBlock] at e; subst e; rw [hb] at hg; cases hg
theorem row_apart {w : World} {bx : Nat} {t : TypeId} {cs : List Value} (h : RowIs w bx t cs) (ht : t ≠ 5) {base : Nat} {v : Value} {bs : List UInt8} (ho : Own w base v bs) : v.ownBlock ≠ some bx := fun e => by
  rcases ho.2 with ⟨hv, _⟩ | ⟨g, cap, cur, hv, _, hg, _⟩
  · rw [hv] at e; simp [Value.ownBlock] at e
  · rw [hv] at e; simp [Value.ownBlock] at e; subst e; unfold RowIs at h; rw [h] at hg; injection hg with hg; injection hg with _ h2; exact ht h2
theorem num_row {w : World} {mb bx : Nat} {N : List Nm} (h : NumAt w mb N) {t : TypeId} {cs : List Value} (hr : RowIs w bx t cs) : bx ≠ mb := fun e => by
  obtain ⟨D, ⟨es, clock, hb, _⟩, _⟩ := h.ex
  subst e; unfold RowIs at hr; rw [hr] at hb; cases hb

/-- numbers, told as a slice. -/
theorem numbers_k (F : Opn → Int) (G : List Int) (K : Nat) (caps : Array Value) (heK : ∀ args w, (callFunc K args).run Try.prog w = .ok (.enter K args) w) (ao : Option Addr) (n ca : Nat) (l : List Opn) (hG : l.map F = G) (hl : l.length = n) (hn : n ≤ 100000) (w : World) (hA : OpsAt w ao l)
    (hK : ∀ W x, After w W → x ∈ l → Calls Try.prog K (#[opV x] ++ caps) W fun e w' => e = .returned (.int .i64 (F x)) ∧ After W w') :
    Calls Try.prog 41 #[.slice ao n ca, .func (.func K) #[] caps] w fun e w' => ∃ (o : Option Addr) (c : Nat), e = .returned (.slice o n c) ∧ IntsAt w' o G ∧ (∀ a, o = some a → a.block < w'.heap.size) ∧ After w w' :=
  (numbers_any F K caps heK ao n ca l hl hn w hA hK).mono (fun e w' ⟨v, he, ho, ha⟩ => by
    obtain ⟨o, c, hv, hi, _, hlt⟩ := ho.at
    subst hG
    exact ⟨o, c, by rw [he, hv, List.length_map, hl], hi, fun a h => (hlt a h).2, ha⟩)
theorem runs_k (ao : Option Addr) (cap n : Nat) (G : List Int) (hl : ∀ x ∈ G, -9223372036854775808 ≤ x ∧ x ≤ 9223372036854775807) (hn : G.length = n) (hb : n ≤ 100000) (w : World) (hI : IntsAt w ao G) (hlt : ∀ a, ao = some a → a.block < w.heap.size) :
    Calls Try.prog 40 #[.slice ao n cap] w fun e w' => ∃ (o : Option Addr) (k c : Nat), e = .returned (.slice o k c) ∧ BytesAt w' o (runsB G) ∧ (runsB G).length = k ∧ After w w' := by
  subst hn
  refine (runs_any ao cap G hl (by omega) w hI (fun a h _ => hlt a h)).mono (fun e w' ⟨v, he, ho, ha⟩ => ?_)
  obtain ⟨o, c, hv, hat, _⟩ := Own.sl ho _ rfl
  exact ⟨o, _, c, by rw [he, hv], hat, rfl, ha⟩
theorem runs_v (ao : Option Addr) (cap n : Nat) (G : List Int) (hl : ∀ x ∈ G, -9223372036854775808 ≤ x ∧ x ≤ 9223372036854775807) (hn : G.length = n) (hb : n ≤ 100000) (w : World) (hI : IntsAt w ao G) (hlt : ∀ a, ao = some a → a.block < w.heap.size) :
    Calls Try.prog 40 #[.slice ao n cap] w fun e w' => ∃ v, e = .returned v ∧ Own w' w.heap.size v (runsB G) ∧ After w w' := by
  subst hn
  exact runs_any ao cap G hl (by omega) w hI (fun a h _ => hlt a h)
theorem deltas_k (ao : Option Addr) (cap n : Nat) (G : List Int) (hn : G.length = n) (hb : n ≤ 100000) (w : World) (hI : IntsAt w ao G) :
    Calls Try.prog 44 #[.slice ao n cap] w fun e w' => ∃ (o : Option Addr) (k c : Nat), e = .returned (.slice o k c) ∧ BytesAt w' o (runsB (diffs G)) ∧ (runsB (diffs G)).length = k ∧ After w w' := by
  subst hn
  refine (deltas_any ao cap G (by omega) w hI).mono (fun e w' ⟨v, he, ho, ha⟩ => ?_)
  obtain ⟨o, c, hv, hat, _⟩ := Own.sl ho _ rfl
  exact ⟨o, _, c, by rw [he, hv], hat, rfl, ha⟩
theorem whichs_int (N : List Nm) (l : List Opn) (h : N.length ≤ 100000) : ∀ z ∈ whichs N l, -9223372036854775808 ≤ z ∧ z ≤ 9223372036854775807 := fun z hz => by
  obtain ⟨y, hy, rfl⟩ := List.mem_map.1 hz
  have h1 : N.idxOf y.name ≤ N.length := List.idxOf_le_length
  constructor <;> omega

set_option maxRecDepth 100000 in
set_option maxHeartbeats 3200000 in
theorem nameOf (x : Opn) (hx : x.name.length ≤ maxLen) (bx mb : Nat) (N : List Nm) (hm : x.name ∈ N) (w : World) (hb : RowIs w bx 87 [.map (some mb)]) (hN : NumAt w mb N) :
    Calls Try.prog 64 #[opV x, .pointer (some ⟨bx, 0, none⟩)] w fun e w' => e = .returned (.int .i64 (N.idxOf x.name : Int)) ∧ After w w' := by
  have c0 := (hb.alloc (.cells #[.int .i64 x.kind, .string (strOf x.name), .int .i64 x.pos, .int .i64 x.by_, .string (strOf x.text)] 23)).cell (j := 0) rfl
  have HLK := show Hid _ from (hN.after (after_alloc (After.refl w) (.cells #[.int .i64 x.kind, .string (strOf x.name), .int .i64 x.pos, .int .i64 x.by_, .string (strOf x.text)] 23))).look hx hm
  clear hb hN
  go_enter Try.func64, Try.ntmps64
  go_wp2_with (at_lookup; refine wpList_of_run rfl (x_look (mb := mb) (nm := x.name) rfl rfl rfl HLK.out) ?_)
  go_ret
  exact ⟨rfl, after_alloc (After.refl w) _⟩

set_option maxRecDepth 100000 in
set_option maxHeartbeats 3200000 in
theorem layNames_any (ao : Option Addr) (n ca : Nat) (l : List Opn) (hl : l.length = n) (hn : n ≤ 256) (hnm : ∀ x ∈ l, x.name.length ≤ 2000) (w : World) (hA : OpsAt w ao l) :
    Calls Try.prog 43 #[.slice ao n ca] w fun e w' => ∃ v, e = .returned v ∧ Own w' w.heap.size v (layNB l) ∧ After w w' := by
  have HL : Hid (OpsAt w ao l ∧ l.length = n ∧ ∀ x ∈ l, x.name.length ≤ 2000) := ⟨hA, hl, hnm⟩
  clear hA hl hnm
  have hmm : (Instr.makeMap 87 none).run Try.prog w = .ok (.map (some w.heap.size)) (w.alloc (.map #[] 0)) := by kernel_rfl
  have HN1 : Hid (LnI w w.heap.size (w.heap.size + 1) l 0 (.slice none 0 0) ((w.alloc (.map #[] 0)).alloc (.cells #[.map (some w.heap.size)] 87))) := by
    refine ⟨(NumAt.made w).after (after_alloc (After.refl _) _), Own.nil _ _, ?_, after_alloc (after_alloc (After.refl w) _) _⟩
    have := RowIs.new (w.alloc (.map #[] 0)) 87 [.map (some w.heap.size)]
    simpa using this
  go_enter Try.func43, Try.ntmps43
  go_wp2_with fail
  obtain ⟨mb, hmb⟩ : ∃ mb, w.heap.size = mb := ⟨_, rfl⟩
  have HMB : Hid (w.heap.size = mb) := hmb
  obtain ⟨w1, hw1⟩ : ∃ w1, (w.alloc (.map #[] 0)).alloc (.cells #[.map (some w.heap.size)] 87) = w1 := ⟨_, rfl⟩
  rw [hw1] at HN1
  rw [hw1]
  rw [hmb] at HN1
  rw [hmb]
  clear hw1 hmb hmm
  go_loopw [4, 13] (fun vv vi wr => ∃ i : Nat, vi = .int .i64 (i : Int) ∧ i ≤ n ∧ Hid (LnI w mb (mb + 1) l i vv wr)) (fun _ vi _ => n - (intOf vi).toNat)
  case atStart => exact ⟨0, rfl, Nat.zero_le _, HN1.out⟩
  case round =>
    obtain ⟨i, rfl, hin, HI⟩ := hrel
    obtain ⟨av, hav⟩ : ∃ av, av = u4 := ⟨_, rfl⟩
    rw [← hav] at HI
    rw [← hav]
    clear hav
    obtain ⟨N, hN⟩ : ∃ N, firsts (l.take i) = N := ⟨_, rfl⟩
    have HN : Hid (firsts (l.take i) = N) := hN
    have HIN : Hid (NumAt wr mb N ∧ Own wr w.heap.size av (namesB N) ∧ RowIs wr (mb + 1) 87 [.map (some mb)] ∧ After w wr) := by rw [← hN]; exact ⟨HI.out.num, HI.out.own, HI.out.box, HI.out.aft⟩
    have HNL : Hid (N.length ≤ n ∧ ∀ y ∈ N, y.length ≤ 2000) := by
      rw [← hN]
      refine ⟨by have h1 := firsts_len (l.take i); rw [List.length_take] at h1; omega, fun y hy => ?_⟩
      obtain ⟨x, hx, rfl⟩ := (mem_firsts _ y).1 hy
      exact HL.out.2.2 x (List.mem_of_mem_take hx)
    have hNl : N.length ≤ 256 := by have := HNL.out.1; omega
    clear hN HI
    by_cases hlt : i < n
    · have hii : (i : Int) < (n : Int) := by omega
      obtain ⟨x, hx⟩ : ∃ x, l[i]? = some x := ⟨_, List.getElem?_eq_getElem (by rw [HL.out.2.1]; exact hlt)⟩
      have HX : Hid (l[i]? = some x) := hx
      have HXN : Hid (x.name.length ≤ 2000) := HL.out.2.2 x (List.mem_of_getElem? hx)
      have HXM : Hid (x.name.length ≤ maxLen) := by have := HXN.out; unfold Hid maxLen; omega
      obtain ⟨b, o, hao, hrg⟩ := HL.out.1 (fun e => by rw [e] at hx; simp at hx)
      subst hao
      have HR : Hid (wr.rangeAt b (o + i * 5) (oc x)) := range_after (hrg i x hx) HIN.out.2.2.2
      clear hx hrg
      have hA2 := after_alloc (After.refl wr) (.cells #[.int .i64 x.kind, .string (strOf x.name), .int .i64 x.pos, .int .i64 x.by_, .string (strOf x.text)] 23)
      have HA2 := show Hid (After wr _) from hA2
      have c0 := (HIN.out.2.2.1.below hA2 HIN.out.2.2.1.lt).cell (j := 0) rfl
      by_cases hm : x.name ∈ N
      · obtain ⟨lv, hlv⟩ := (HIN.out.1.after hA2).looks HXM.out (decide_eq_true hm)
        have HLV := show Hid _ from hlv
        clear hlv hA2
        go_wp2_with (first
          | (refine wpList_load_mid rfl 23 (.tmp 15) rfl b (o + i * 5) rfl [.int .i64 x.kind, .string (strOf x.name), .int .i64 x.pos, .int .i64 x.by_, .string (strOf x.text)] _ HR.out Try.underlying23 rfl size23 ?_)
          | (at_lookup; refine wpList_of_run rfl (x_look (mb := mb) (nm := x.name) rfl rfl rfl HLV.out) ?_))
        go_roundw
        case rel =>
          refine ⟨i + 1, by go_num, by omega, ?_⟩
          have e : firsts (l.take (i + 1)) = N := by rw [firsts_succ HX.out, HN.out]; unfold more; rw [if_pos hm]
          refine ⟨by rw [e]; exact HIN.out.1.after HA2.out, by rw [e]; exact HIN.out.2.1.below HA2.out (Nat.le_refl _), HIN.out.2.2.1.below HA2.out HIN.out.2.2.1.lt, After.trans HIN.out.2.2.2 HA2.out⟩
        case measure => simp [intOf]; omega
      · obtain ⟨lv, hlv⟩ := (HIN.out.1.after hA2).looks HXM.out (decide_eq_false hm)
        have HLV := show Hid _ from hlv
        have HM : Hid (¬ x.name ∈ N) := hm
        have HN2 := show Hid (NumAt _ mb N) from HIN.out.1.after hA2
        have HB2 := show Hid (RowIs _ (mb + 1) 87 [.map (some mb)]) from HIN.out.2.2.1.below hA2 HIN.out.2.2.1.lt
        have HO2 := show Hid (Own _ w.heap.size av (namesB N)) from HIN.out.2.1.below hA2 (Nat.le_refl _)
        have HX2 := show Hid (RowIs _ wr.heap.size 23 (oc x)) from RowIs.new wr 23 (oc x)
        have HXA := show Hid (After w _) from After.trans HIN.out.2.2.2 hA2
        clear hlv hm hA2
        go_wp2_with (first
          | (refine wpList_load_mid rfl 23 (.tmp 15) rfl b (o + i * 5) rfl [.int .i64 x.kind, .string (strOf x.name), .int .i64 x.pos, .int .i64 x.by_, .string (strOf x.text)] _ HR.out Try.underlying23 rfl size23 ?_)
          | (at_lookup; refine wpList_of_run rfl (x_look (mb := mb) (nm := x.name) rfl rfl rfl HLV.out) ?_)
          | (at_len; refine wpList_numLen rfl (.tmp 29) rfl (mb := mb) (N := N) rfl HN2.out ?_)
          | (at_mapUpdate; refine wpList_num rfl (.tmp 26) (.tmp 28) (.tmp 30) rfl (mb := mb) (N := N) (nm := x.name) rfl rfl rfl HN2.out HXM.out HM.out (by unfold maxLen; omega) ?_; intro w3 hn3 hg3; have HN3 := show Hid (NumAt w3 mb (N ++ [x.name])) from hn3; have hk3 : ∀ k, k < _ → k ≠ mb → w3.heap[k]? = _ := fun k hk hne => hg3.block k hk (by simpa using hne); have HO3 := show Hid (Own w3 w.heap.size av (namesB N)) from Own.keep' HO2.out (fun k hk => hk3 k (World.ownsRow.lt HO2.out k hk).2 (fun e => num_apart HN2.out HO2.out (by rw [hk, e]))); have hb3 : RowIs w3 (mb + 1) 87 [.map (some mb)] := (by unfold RowIs; rw [hk3 (mb + 1) HB2.out.lt (by omega)]; exact HB2.out); have HB3 := show Hid (RowIs _ _ _ _) from hb3; have hx3 : RowIs w3 wr.heap.size 23 (oc x) := (by unfold RowIs; rw [hk3 wr.heap.size HX2.out.lt (num_row HN2.out HX2.out)]; exact HX2.out); have HX3 := show Hid (RowIs _ _ _ _) from hx3; have d0 := hb3.cell (j := 0) rfl; have d1 := hx3.cell (j := 1) rfl; have HA3 := show Hid (After w w3) from after_grown HXA.out hg3 (Nat.le_refl _) (fun k hk => by injection hk with hk; rw [← hk, HMB.out]; exact Nat.le_refl _); clear hn3 hg3 hk3 hb3 hx3)
          | (go_at_call 48; refine Calls.mono (text_any x.name (by have := HXN.out; omega) w3) ?_; rintro e w4 ⟨v4, rfl, ho4, ha4⟩; obtain ⟨p4, c4, rfl, hp4, _⟩ := Own.sl ho4 _ rfl; have H4 := show Hid (After w3 w4 ∧ BytesAt w4 p4 (textB x.name)) from ⟨ha4, hp4⟩; clear ho4 ha4 hp4)
          | (at_builtin; refine wpList_append_any rfl _ _ rfl w.heap.size av (namesB N) rfl (HO3.out.below H4.out.1 (Nat.le_refl _)) p4 c4 (textB x.name) _ rfl rfl H4.out.2 (by have h1 := namesB_len N HNL.out.2; have h2 := textB_len x.name HXN.out; omega) (by have h1 := HA3.out.size; have h2 := H4.out.1.size; omega) ?_; intro v5 w5 ho5 hg5; have HO5 := show Hid (Own w5 w.heap.size v5 (namesB N ++ textB x.name)) from ho5; have hk5 : ∀ k, k < w3.heap.size → av.ownBlock ≠ some k → w5.heap[k]? = w3.heap[k]? := fun k hk hne => (hg5.block k (Nat.lt_of_lt_of_le hk H4.out.1.size) (fun e => hne e.symm)).trans (H4.out.1.block k hk); have HN5 := show Hid (NumAt w5 mb (N ++ [x.name])) from HN3.out.same (hk5 mb HN3.out.lt (num_apart HN3.out HO3.out)); have HB5 := show Hid (RowIs w5 (mb + 1) 87 [.map (some mb)]) from (show w5.heap[mb + 1]? = _ from (hk5 (mb + 1) HB3.out.lt (row_apart HB3.out (by decide) HO3.out)).trans HB3.out); have HA5 := show Hid (After w w5) from after_grown (After.trans HA3.out H4.out.1) hg5 (Nat.le_refl _) (fun k hk => (World.ownsRow.lt HO3.out k hk).1); clear ho5 hg5 hk5))
        go_roundw
        case rel =>
          refine ⟨i + 1, by go_num, by omega, ?_⟩
          have e : firsts (l.take (i + 1)) = N ++ [x.name] := by rw [firsts_succ HX.out, HN.out]; unfold more; rw [if_neg HM.out]
          refine ⟨by rw [e]; exact HN5.out, by rw [e, namesB_snoc]; exact HO5.out, HB5.out, HA5.out⟩
        case measure => simp [intOf]; omega
    · obtain rfl : i = n := by omega
      have hii : ¬ (i : Int) < (i : Int) := by omega
      have HNA : Hid (firsts l = N) := by have h1 := HN.out; rw [← HL.out.2.1, List.take_length] at h1; exact h1
      have c0 := HIN.out.2.2.1.cell (j := 0) rfl
      have e64 : ∀ args w, (callFunc 64 args).run Try.prog w = .ok (.enter 64 args) w := enters_of Try.func64 (by kernel_rfl) rfl
      have HB := show Hid (RowIs _ _ _ _) from HIN.out.2.2.1
      obtain ⟨pn, cn, hvn, hpn, _⟩ := Own.sl HIN.out.2.1 _ rfl
      obtain ⟨ln, hln⟩ : ∃ ln, (namesB N).length = ln := ⟨_, rfl⟩
      rw [hln] at hvn
      have HPN : Hid (BytesAt wr pn (namesB N) ∧ (namesB N).length = ln) := ⟨hpn, hln⟩
      have hlnb : ln ≤ 600000 := by have h1 := namesB_len N HNL.out.2; omega
      obtain ⟨G, hG⟩ : ∃ G, whichs N l = G := ⟨_, rfl⟩
      have HG : Hid (whichs N l = G) := hG
      have HGI : Hid ((∀ z ∈ G, -9223372036854775808 ≤ z ∧ z ≤ 9223372036854775807) ∧ G.length = i ∧ (runsB G).length ≤ 30000000) := by
        rw [← hG]
        have h1 := whichs_int N l (by omega)
        have h2 : (whichs N l).length = i := by rw [whichs, List.length_map]; exact HL.out.2.1
        exact ⟨h1, h2, runsB_len _ h1 (by omega)⟩
      clear hpn hln hG
      have HIX : Hid (NumAt wr mb N ∧ RowIs wr (mb + 1) 87 [.map (some mb)] ∧ After w wr) := ⟨HIN.out.1, HIN.out.2.2.1, HIN.out.2.2.2⟩
      clear HIN
      subst hvn
      go_wp2_with (first
        | (at_builtin; have _u := H6.out; clear _u; refine wpList_append_any rfl _ _ rfl w.heap.size v4 (uintB N.length ++ namesB N) rfl (HO4.out.below (After.trans H5.out.2.2 H6.out.2.2) (Nat.le_refl _)) p6 c6 (runsB G) k6 H6.out.2.1 rfl H6.out.1 (by have h2 := uintB_len10 N.length (by omega); have h3 := HGI.out.2.2; have h4 := HPN.out.2; rw [List.length_append]; omega) (by have h1 := HA4.out.size; have h2 := H5.out.2.2.size; have h3 := H6.out.2.2.size; omega) ?_; intro v7 w7 ho7 hg7; have HO7 := show Hid (Own w7 w.heap.size v7 (uintB N.length ++ namesB N ++ runsB G)) from ho7; have HA7 := show Hid (After w w7) from after_grown (After.trans HA4.out (After.trans H5.out.2.2 H6.out.2.2)) hg7 (Nat.le_refl _) (fun k hk => (World.ownsRow.lt HO4.out k hk).1); clear ho7 hg7)
        | (go_at_call 40; refine Calls.mono (runs_k p5 c5 _ G HGI.out.1 HGI.out.2.1 (by omega) w5 H5.out.1 H5.out.2.1) ?_; rintro e w6 ⟨p6, k6, c6, rfl, hp6, hk6, ha6⟩; have H6 := show Hid (BytesAt w6 p6 (runsB G) ∧ (runsB G).length = k6 ∧ After w5 w6) from ⟨hp6, hk6, ha6⟩; clear hp6 hk6 ha6)
        | (go_at_call 41; refine Calls.mono (numbers_k (fun x => (N.idxOf x.name : Int)) G 64 #[.pointer (some ⟨mb + 1, 0, none⟩)] e64 ao _ ca l HG.out HL.out.2.1 (by omega) w4 (HL.out.1.after HA4.out) (fun W y hW hy => nameOf y (by have := HL.out.2.2 y hy; unfold maxLen; omega) (mb + 1) mb N (by rw [← HNA.out]; exact (mem_firsts l _).2 ⟨y, hy, rfl⟩) W ((HB4.out.below hW HB4.out.lt)) (HN4.out.after hW))) ?_; rintro e w5 ⟨p5, c5, rfl, hp5, hlt5, ha5⟩; have H5 := show Hid (IntsAt w5 p5 G ∧ (∀ a, p5 = some a → a.block < w5.heap.size) ∧ After w4 w5) from ⟨hp5, hlt5, ha5⟩; clear hp5 hlt5 ha5)
        | (at_builtin; refine wpList_append_any rfl _ _ rfl w.heap.size v3 (uintB N.length) rfl HO3.out pn cn (namesB N) ln HPN.out.2 rfl (HPN.out.1.after HA03.out) (by have h2 := uintB_len10 N.length (by omega); rw [HPN.out.2]; omega) HA3.out.size ?_; intro v4 w4 ho4 hg4; have HO4 := show Hid (Own w4 w.heap.size v4 (uintB N.length ++ namesB N)) from ho4; have HN4 := show Hid (NumAt w4 mb N) from HN3.out.same (hg4.block mb HN3.out.lt (fun e => num_apart HN3.out HO3.out e.symm)); have hb4 : RowIs w4 (mb + 1) 87 [.map (some mb)] := (hg4.block (mb + 1) HB3.out.lt (fun e => row_apart HB3.out (by decide) HO3.out e.symm)).trans HB3.out; have HB4 := show Hid (RowIs _ _ _ _) from hb4; have HA4 := show Hid (After w w4) from after_grown HA3.out hg4 (Nat.le_refl _) (fun k hk => (World.ownsRow.lt HO3.out k hk).1); clear ho4 hg4 hb4)
        | (at_len; refine wpList_numLen rfl (.tmp 37) rfl (mb := mb) (N := N) rfl HIX.out.1 ?_)
        | (go_at_call 62; refine Calls.mono (uint_any N.length (by omega) wr) ?_; rintro e w3 ⟨v3, rfl, ho3, ha3⟩; have HO3 := show Hid (Own w3 w.heap.size v3 (uintB N.length)) from ho3.mono HIX.out.2.2.size; have HN3 := show Hid (NumAt w3 mb N) from HIX.out.1.after ha3; have HB3 := show Hid (RowIs w3 (mb + 1) 87 [.map (some mb)]) from HIX.out.2.1.below ha3 HIX.out.2.1.lt; have HA3 := show Hid (After w w3) from After.trans HIX.out.2.2 ha3; have HA03 := show Hid (After wr w3) from ha3; clear ho3 ha3))
      go_ret
      exact ⟨_, rfl, by unfold layNB; rw [HNA.out, HG.out]; exact HO7.out, HA7.out⟩
end Go.Proofs.Ytpplnomomcdemaa
