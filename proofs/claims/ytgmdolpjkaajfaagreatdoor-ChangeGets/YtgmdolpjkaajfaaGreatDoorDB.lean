/-
  THE WALK OF stemmaref08.Get.
-/
import Derived.Test.YtgmdolpjkaajfaaGreatDoorDA
import Derived.Test.YtgmdolpjkaajfaaGreatDoorCS
import Derived.Test.YtgmdolpjkaajfaaGreatDoorOK
import Derived.Test.YtgmdolpjkaajfaaGreatDoorHB
import Derived.Test.YtgmdolpjkaajfaaGreatDoorCY
namespace Go.Proofs.YtgmdolpjkaajfaaGreatDoor
open Go.RowKit Leb
def f0 (bs : List UInt8) : List UInt8 := bs.drop 1
def f1 (bs : List UInt8) : List UInt8 := (f0 bs).drop (gtK (f0 bs) (32 : Nat))
def f2 (bs : List UInt8) : List UInt8 := (f1 bs).drop (guK (f1 bs))
def f3 (bs : List UInt8) : List UInt8 := (f2 bs).drop (guK (f2 bs))
def f4 (bs : List UInt8) : List UInt8 := (f3 bs).drop (HS.ghK (f3 bs) 16)
def f5 (bs : List UInt8) : List UInt8 := (f4 bs).drop (gtK (f4 bs) (1024 : Nat))
/-- The head of what is read is well. -/
def okH (bs : List UInt8) : Prop := gtE (f0 bs) (32 : Nat) = 0 ∧ guE (f1 bs) = 0 ∧ guV (f1 bs) ≤ MN ∧ guE (f2 bs) = 0 ∧ guV (f2 bs) ≤ MN
theorem okH_of {bs : List UInt8} {a0 a1 a2 a3 : Option Addr} {n0 c0 n1 c1 n2 c2 n3 c3 e1 e2 e3 v2 v3 : Nat} {s1 b1 b2 b3 : List UInt8} (h1 : Rdt (f0 bs) a0 n0 c0 0 32 a1 n1 c1 e1 s1 b1) (h2 : Rdr b1 a1 n1 c1 e1 MN a2 n2 c2 e2 v2 b2) (h3 : Rdr b2 a2 n2 c2 e2 MN a3 n3 c3 e3 v3 b3) :
    (e3 = 0 ↔ okH bs) ∧ (e3 = 0 → s1 = gtS (f0 bs) (32 : Nat) ∧ v2 = guV (f1 bs) ∧ v3 = guV (f2 bs) ∧ b3 = f3 bs) := by
  have key : e3 = 0 → okH bs ∧ s1 = gtS (f0 bs) (32 : Nat) ∧ v2 = guV (f1 bs) ∧ v3 = guV (f2 bs) ∧ b3 = f3 bs := fun h => by
    obtain ⟨q1, q2, q3⟩ := h3.iff.1 h
    obtain ⟨p1, p2, p3⟩ := h2.iff.1 q1
    obtain ⟨_, r2⟩ := h1.iff.1 p1
    obtain ⟨rs, rb⟩ := h1.val p1
    obtain ⟨sv, sb⟩ := h2.val q1
    obtain ⟨tv, tb⟩ := h3.val h
    have e1' : b1 = f1 bs := rb
    subst e1'
    have e2' : b2 = f2 bs := sb
    subst e2'
    exact ⟨⟨r2, p2, p3, q2, q3⟩, rs, sv, tv, tb⟩
  refine ⟨⟨fun h => (key h).1, fun ⟨r2, p2, p3, q2, q3⟩ => ?_⟩, fun h => (key h).2⟩
  have k1 := h1.iff.2 ⟨rfl, r2⟩
  have e1' : b1 = f1 bs := (h1.val k1).2
  subst e1'
  have k2 := h2.iff.2 ⟨k1, p2, p3⟩
  have e2' : b2 = f2 bs := (h2.val k2).2
  subst e2'
  exact h3.iff.2 ⟨k2, q2, q3⟩
theorem x_slv {o : Oper} {a : Act} {x y : Operand} {w : World} {ao a' : Option Addr} {n cap k j c : Nat} (hop : o.op = .slice 32 x (some y) none none) (hx : a.eval x = .slice ao n cap) (hy : a.eval y = .int .i64 (k : Int)) (hz : ao = none → n = 0) (hc : n ≤ cap) (hk : k ≤ n) (ha : cutAt ao k cap = a') (hj : n - k = j) (hcc : cap - k = c) : (execOp a.eval o).run Tryz.prog w = .ok (.value (.slice a' j c)) w := by
  subst ha
  exact x_slc hop hx hy hz hc hk hj hcc
theorem cut_none {a : Option Addr} {n k c : Nat} (hz : a = none → n = 0) (h : cutAt a k c = none) : n = 0 := hz (by
  unfold cutAt at h
  split at h
  · exact h
  · cases a with
    | none => rfl
    | some b => cases h)
/-- Bytes that a reader holds, out of what came in. -/
structure Rst (a : Option Addr) (bs : List UInt8) (a' : Option Addr) (n' c' : Nat) (bs' : List UInt8) : Prop where
  at_ : ∀ W, BytesAt W a bs → BytesAt W a' bs'
  len : bs'.length = n'
  cap : n' ≤ c'
  nil : a' = none → n' = 0
  big : n' ≤ 140737488355328
theorem Rst.rdr {a : Option Addr} {bs : List UInt8} {a1 : Option Addr} {n1 c1 e1 m : Nat} {b1 : List UInt8} {a2 : Option Addr} {n2 c2 e2 v2 : Nat} {b2 : List UInt8} (h : Rst a bs a1 n1 c1 b1) (r : Rdr b1 a1 n1 c1 e1 m a2 n2 c2 e2 v2 b2) : Rst a bs a2 n2 c2 b2 := ⟨fun W hW => r.at_ W (h.at_ W hW), r.len, r.cap, r.nil, Nat.le_trans r.low h.big⟩
theorem Rst.rdt {a : Option Addr} {bs : List UInt8} {a1 : Option Addr} {n1 c1 e1 m : Nat} {b1 : List UInt8} {a2 : Option Addr} {n2 c2 e2 : Nat} {s2 b2 : List UInt8} (h : Rst a bs a1 n1 c1 b1) (r : Rdt b1 a1 n1 c1 e1 m a2 n2 c2 e2 s2 b2) : Rst a bs a2 n2 c2 b2 := ⟨fun W hW => r.at_ W (h.at_ W hW), r.len, r.cap, r.nil, Nat.le_trans r.low h.big⟩
theorem Rst.cut {a : Option Addr} {bs : List UInt8} {a1 : Option Addr} {n1 c1 : Nat} {b1 : List UInt8} (h : Rst a bs a1 n1 c1 b1) {k j cc : Nat} {a' : Option Addr} (hk : k ≤ n1) (ha : cutAt a1 k c1 = a') (hj : n1 - k = j) (hcc : c1 - k = cc) : Rst a bs a' j cc (b1.drop k) := by
  have := h.cap
  subst ha
  exact ⟨fun W hW => (h.at_ W hW).cut k c1 (by rw [h.len]; exact h.cap), by rw [List.length_drop, h.len]; exact hj, by omega, fun en => by have := cut_none h.nil en; omega, by have := h.big; omega⟩
theorem gh_ok {bs : List UInt8} (h : HS.ghE bs 16 = 0) : HS.ghK bs 16 ≤ bs.length ∧ HS.All32 (HS.ghL bs 16) ∧ (HS.ghL bs 16).length ≤ 16 := by
  have h' := h
  unfold HS.ghE at h'
  split at h'
  · rename_i h0
    split at h'
    · omega
    · rename_i h1
      split at h'
      · omega
      · rename_i h2
        have hk := guK_le bs
        have e1 : HS.ghK bs 16 = guK bs + guV bs * 32 := by unfold HS.ghK; rw [if_pos h]
        have e2 : HS.ghL bs 16 = HS.gL bs (guK bs) (guV bs) := by unfold HS.ghL; rw [if_pos h]
        have hle : guK bs + guV bs * 32 ≤ bs.length := by omega
        rw [e1, e2]
        exact ⟨hle, HS.gL_32 hle, by rw [HS.gL_len]; omega⟩
  · rename_i h0; exact absurd h' h0
theorem gtS_le (bs : List UInt8) (m : Int) : (gtS bs m).length ≤ bs.length := by
  unfold gtS
  split
  · rw [List.length_take, List.length_drop]; omega
  · simp
theorem rget50_k (a : Option Addr) (n c : Nat) (bs : List UInt8) (hl : bs.length = n) (hc : n ≤ c) (hbig : n ≤ 140737488355328) (w : World) (hat : BytesAt w a bs) {k q m : Nat} (hk : HS.ghK bs 16 = k) (hq : HS.ghE bs 16 = q) (hm : (HS.ghL bs 16).length = m) :
    Calls Tryz.prog 50 #[.slice a n c, .int .i64 16] w fun e w' => ∃ a' c', e = .returned (.tuple #[.slice a' m c', .int .i64 (k : Int), .int .i64 (q : Int)]) ∧ HS.HsAt w' a' (HS.ghL bs 16) ∧ (∀ x, a' = some x → w.heap.size ≤ x.block) ∧ After w w' := by
  subst hl hk hq hm
  refine Calls.mono (HS.rget_any a c bs 16 hc hbig (by omega) (by omega) w hat) ?_
  rintro e w' ⟨v, rfl, ho, ha⟩
  obtain ⟨a', c', hv, hh, _, hb, _⟩ := ho.at
  subst hv
  exact ⟨a', c', rfl, hh, fun x hx => (hb x hx).1, ha⟩
theorem x_c693 {o : Oper} {a : Act} {x : Operand} {v : Nat} {w : World} (hv : v ≤ 1099511627776) (hop : o.op = .convert 69 3 x) (hx : a.eval x = .int .u64 (v : Int)) : (execOp a.eval o).run Tryz.prog w = .ok (.value (.int .i64 (v : Int))) w := by
  have hw : IntKind.i64.wrap (v : Int) = (v : Int) := by simp [IntKind.wrap, IntKind.bits, IntKind.signed]; omega
  unfold execOp
  simp only [hop, hx]
  simp [go_sem, hw]
  try omega

set_option maxRecDepth 100000 in
set_option maxHeartbeats 4000000 in
theorem rg_0 (a : Option Addr) (n c : Nat) (bs : List UInt8) (hn : bs.length = n) (hca : n ≤ c) (hz : a = none → n = 0) (hbig : n ≤ 140737488355328) (w : World) (hat : BytesAt w a bs) (h0 : n = 0) :
    Calls Tryz.prog 22 #[.slice a n c] w fun e w' => e = .returned (.tuple #[.agg zc.toArray, .int .i64 4]) ∧ After w w' := by
  have HB : Hid (BytesAt w a bs ∧ bs.length = n ∧ n ≤ c ∧ (a = none → n = 0) ∧ n ≤ 140737488355328) := ⟨hat, hn, hca, hz, hbig⟩
  obtain ⟨w0, hw0⟩ : ∃ w0, (w.alloc (.cells #[.string ⟨#[]⟩, .int .i64 0, .int .i64 0, .slice none 0 0, .string ⟨#[]⟩, .slice none 0 0] 25)).alloc (.cells #[.string ⟨#[]⟩, .int .i64 0, .int .i64 0, .slice none 0 0, .string ⟨#[]⟩, .slice none 0 0] 25) = w0 := ⟨_, rfl⟩
  have H0 : Hid (After w w0 ∧ RowIs w0 w.heap.size 25 zc ∧ RowIs w0 (w.heap.size + 1) 25 zc ∧ True) := by
    refine ⟨by rw [← hw0]; exact after_alloc (after_alloc (After.refl w) _) _, by rw [← hw0]; exact (RowIs.new w 25 zc).alloc _, ?_, trivial⟩
    have h := RowIs.new (w.alloc (.cells #[.string ⟨#[]⟩, .int .i64 0, .int .i64 0, .slice none 0 0, .string ⟨#[]⟩, .slice none 0 0] 25)) 25 zc
    rw [← hw0]
    simpa using h
  have z2 : ((n : Int) == 0) = true := by simp [h0]
  clear hn hca hz hbig hat
  go_enter Tryz.func22, Tryz.ntmps22
  go_wp2_with (first
    | (refine wpListG_of_run rfl (x_row25 (x := .tmp 4) (g := w.heap.size + 1) (cs := zc) rfl rfl H0.out.2.2.1 rfl) ?_)
    | (refine wpList_store_row rfl 25 (.tmp 2) (.tmp 25) rfl w.heap.size zc.toArray rfl rfl 25 _ H0.out.2.1 (by kernel_rfl) rfl (by kernel_rfl) ?_))
  refine bodyPost_ret (ret25t Tryz.results22 _ _ w.heap.size zc rfl (row_same H0.out.2.1) rfl _ rfl) rfl ?_
  exact ⟨rfl, Below.row H0.out.1 (Nat.le_refl _) _⟩

set_option maxRecDepth 100000 in
set_option maxHeartbeats 4000000 in
theorem rg_1 (a : Option Addr) (n c : Nat) (bs : List UInt8) (hn : bs.length = n) (hca : n ≤ c) (hz : a = none → n = 0) (hbig : n ≤ 140737488355328) (w : World) (hat : BytesAt w a bs) (hp : 1 ≤ n) (hb1 : ¬ bs.getD 0 0 = 1) :
    Calls Tryz.prog 22 #[.slice a n c] w fun e w' => e = .returned (.tuple #[.agg zc.toArray, .int .i64 4]) ∧ After w w' := by
  have HB : Hid (BytesAt w a bs ∧ bs.length = n ∧ n ≤ c ∧ (a = none → n = 0) ∧ n ≤ 140737488355328) := ⟨hat, hn, hca, hz, hbig⟩
  obtain ⟨w0, hw0⟩ : ∃ w0, (w.alloc (.cells #[.string ⟨#[]⟩, .int .i64 0, .int .i64 0, .slice none 0 0, .string ⟨#[]⟩, .slice none 0 0] 25)).alloc (.cells #[.string ⟨#[]⟩, .int .i64 0, .int .i64 0, .slice none 0 0, .string ⟨#[]⟩, .slice none 0 0] 25) = w0 := ⟨_, rfl⟩
  have H0 : Hid (After w w0 ∧ RowIs w0 w.heap.size 25 zc ∧ RowIs w0 (w.heap.size + 1) 25 zc ∧ True) := by
    refine ⟨by rw [← hw0]; exact after_alloc (after_alloc (After.refl w) _) _, by rw [← hw0]; exact (RowIs.new w 25 zc).alloc _, ?_, trivial⟩
    have h := RowIs.new (w.alloc (.cells #[.string ⟨#[]⟩, .int .i64 0, .int .i64 0, .slice none 0 0, .string ⟨#[]⟩, .slice none 0 0] 25)) 25 zc
    rw [← hw0]
    simpa using h
  have z1 : ¬ (n : Int) = 0 := by omega
  have z2 : ((n : Int) == 0) = false := beq_eq_false_iff_ne.2 z1
  have z3 : (0 : Int) < (n : Int) := by omega
  obtain ⟨gb, go, hab, hcl⟩ := hat (by intro h; rw [h] at hn; simp at hn; omega)
  have hc0 := hcl 0 (by omega)
  have k0 : w0.cell? ⟨gb, go, none⟩ = some (.int .u8 ((bs.getD 0 0).toNat : Int)) := by
    rw [Nat.add_zero] at hc0
    exact (Below.cell H0.out.1 (p := ⟨gb, go, none⟩) (World.block_lt_of_cell? w _ hc0)).trans hc0
  subst hab
  clear hcl hc0
  have y1 : ¬ ((bs.getD 0 0).toNat : Int) = 1 := fun h => hb1 (UInt8.toNat_inj.1 (show (bs.getD 0 0).toNat = 1 by omega))
  have y2 : (((bs.getD 0 0).toNat : Int) == 1) = false := beq_eq_false_iff_ne.2 y1
  have y3 : (((bs.getD 0 0).toNat : Int) != 1) = true := by rw [bne, y2]; rfl
  obtain ⟨y, hy⟩ : ∃ y, ((bs.getD 0 0).toNat : Int) = y := ⟨_, rfl⟩
  rw [hy] at k0 y1 y2 y3
  clear hy hb1
  clear hn hca hz hbig hat
  go_enter Tryz.func22, Tryz.ntmps22
  go_wp2_with (first
    | (refine wpListG_of_run rfl (x_row25 (x := .tmp 4) (g := w.heap.size + 1) (cs := zc) rfl rfl H0.out.2.2.1 rfl) ?_)
    | (refine wpList_store_row rfl 25 (.tmp 2) (.tmp 25) rfl w.heap.size zc.toArray rfl rfl 25 _ H0.out.2.1 (by kernel_rfl) rfl (by kernel_rfl) ?_))
  refine bodyPost_ret (ret25t Tryz.results22 _ _ w.heap.size zc rfl (row_same H0.out.2.1) rfl _ rfl) rfl ?_
  exact ⟨rfl, Below.row H0.out.1 (Nat.le_refl _) _⟩

set_option maxRecDepth 100000 in
set_option maxHeartbeats 4000000 in
theorem rg_2 (a : Option Addr) (n c : Nat) (bs : List UInt8) (hn : bs.length = n) (hca : n ≤ c) (hz : a = none → n = 0) (hbig : n ≤ 140737488355328) (w : World) (hat : BytesAt w a bs) (hp : 1 ≤ n) (hb1 : bs.getD 0 0 = 1) (ho : ¬ okH bs) :
    Calls Tryz.prog 22 #[.slice a n c] w fun e w' => e = .returned (.tuple #[.agg zc.toArray, .int .i64 4]) ∧ After w w' := by
  have HB : Hid (BytesAt w a bs ∧ bs.length = n ∧ n ≤ c ∧ (a = none → n = 0) ∧ n ≤ 140737488355328) := ⟨hat, hn, hca, hz, hbig⟩
  obtain ⟨w0, hw0⟩ : ∃ w0, (w.alloc (.cells #[.string ⟨#[]⟩, .int .i64 0, .int .i64 0, .slice none 0 0, .string ⟨#[]⟩, .slice none 0 0] 25)).alloc (.cells #[.string ⟨#[]⟩, .int .i64 0, .int .i64 0, .slice none 0 0, .string ⟨#[]⟩, .slice none 0 0] 25) = w0 := ⟨_, rfl⟩
  have H0 : Hid (After w w0 ∧ RowIs w0 w.heap.size 25 zc ∧ RowIs w0 (w.heap.size + 1) 25 zc ∧ True) := by
    refine ⟨by rw [← hw0]; exact after_alloc (after_alloc (After.refl w) _) _, by rw [← hw0]; exact (RowIs.new w 25 zc).alloc _, ?_, trivial⟩
    have h := RowIs.new (w.alloc (.cells #[.string ⟨#[]⟩, .int .i64 0, .int .i64 0, .slice none 0 0, .string ⟨#[]⟩, .slice none 0 0] 25)) 25 zc
    rw [← hw0]
    simpa using h
  have z1 : ¬ (n : Int) = 0 := by omega
  have z2 : ((n : Int) == 0) = false := beq_eq_false_iff_ne.2 z1
  have z3 : (0 : Int) < (n : Int) := by omega
  obtain ⟨gb, go, hab, hcl⟩ := hat (by intro h; rw [h] at hn; simp at hn; omega)
  have hc0 := hcl 0 (by omega)
  have k0 : w0.cell? ⟨gb, go, none⟩ = some (.int .u8 ((bs.getD 0 0).toNat : Int)) := by
    rw [Nat.add_zero] at hc0
    exact (Below.cell H0.out.1 (p := ⟨gb, go, none⟩) (World.block_lt_of_cell? w _ hc0)).trans hc0
  subst hab
  clear hcl hc0
  rw [hb1] at k0
  obtain ⟨a0, hA0⟩ : ∃ x, cutAt (some ⟨gb, go, none⟩) 1 c = x := ⟨_, rfl⟩
  obtain ⟨n0, hN0⟩ : ∃ x, n - 1 = x := ⟨_, rfl⟩
  obtain ⟨c0, hC0⟩ : ∃ x, c - 1 = x := ⟨_, rfl⟩
  have HP : Hid (1 ≤ n) := hp
  have HS0 : Hid (Rst (some ⟨gb, go, none⟩) bs a0 n0 c0 (f0 bs)) := Rst.cut ⟨fun _ h => h, hn, hca, hz, hbig⟩ hp hA0 hN0 hC0
  have HO : Hid (¬ okH bs) := ho
  clear ho hb1
  clear hn hca hz hbig hat
  go_enter Tryz.func22, Tryz.ntmps22
  go_wp2_with (first
    | (refine wpListG_of_run rfl (x_row25 (x := .tmp 4) (g := w.heap.size + 1) (cs := zc) rfl rfl H7.out.2.2.1 rfl) ?_)
    | (refine wpList_store_row rfl 25 (.tmp 2) (.tmp 47) rfl w.heap.size zc.toArray rfl rfl 25 _ H7.out.2.1 (by kernel_rfl) rfl (by kernel_rfl) ?_)
    | (refine wpList_store_row rfl 66 (.tmp 5) (.tmp 42) rfl g5 (rc a3 n3 c3 e3).toArray rfl rfl 66 _ H6.out.2.2.2 (size66 _ _ _ _) rfl (all66 _ _ _ _) ?_; have H7 := show Hid (After w (w6.setRow g5 (rc a3 n3 c3 e3).toArray) ∧ RowIs (w6.setRow g5 (rc a3 n3 c3 e3).toArray) w.heap.size 25 zc ∧ RowIs (w6.setRow g5 (rc a3 n3 c3 e3).toArray) (w.heap.size + 1) 25 zc ∧ RowIs (w6.setRow g5 (rc a3 n3 c3 e3).toArray) g5 66 (rc a3 n3 c3 e3)) from ⟨Below.row H6.out.1 HG5.out.1 _, H6.out.2.1.setRow_other _ (by have := HG5.out.2; omega), H6.out.2.2.1.setRow_other _ (by have := HG5.out.2; omega), H6.out.2.2.2.setRow _⟩; revert H7; generalize w6.setRow g5 (rc a3 n3 c3 e3).toArray = w7; intro H7; have cE : w7.cell? ⟨g5, 1, none⟩ = some (.int .i64 (e3 : Int)) := H7.out.2.2.2.cell (j := 1) rfl)
    | (go_at_call 49; have _u := H5.out; clear _u; refine Calls.mono (rUintR_any a2 n2 c2 e2 MN b2 HS2.out.len HS2.out.cap HS2.out.nil w5 (HS2.out.at_ _ (HB.out.1.after H5.out.1))) ?_; rintro e w6 ⟨a3, n3, c3, e3, v3, b3, rfl, hr, ha⟩; obtain ⟨hif, hvl⟩ := okH_of HR1.out HR2.out hr; have HS3 := show Hid (Rst (some ⟨gb, go, none⟩) bs a3 n3 c3 b3) from HS2.out.rdr hr; have H6 := show Hid (After w w6 ∧ RowIs w6 w.heap.size 25 zc ∧ RowIs w6 (w.heap.size + 1) 25 zc ∧ RowIs w6 g5 66 (rc a2 n2 c2 e2)) from ⟨After.trans H5.out.1 ha, H5.out.2.1.below ha H5.out.2.1.lt, H5.out.2.2.1.below ha H5.out.2.2.1.lt, H5.out.2.2.2.below ha H5.out.2.2.2.lt⟩; have he3 : ¬ e3 = 0 := (fun h => HO.out (hif.1 h)); have fi3 : ¬ (e3 : Int) = 0 := (by omega); have fb3 : ((e3 : Int) == 0) = false := beq_eq_false_iff_ne.2 fi3; have fn3 : ((e3 : Int) != 0) = true := (by simp [bne, fb3]); clear hif hvl; clear ha hr)
    | (have _u := H5.out; clear _u; refine wpListG_of_run rfl (x_ld66 (x := .tmp 5) (g := g5) (a := a2) (n := n2) (c := c2) (e := e2) rfl rfl H5.out.2.2.2) ?_)
    | (refine wpList_store_row rfl 66 (.tmp 5) (.tmp 37) rfl g5 (rc a2 n2 c2 e2).toArray rfl rfl 66 _ H4.out.2.2.2 (size66 _ _ _ _) rfl (all66 _ _ _ _) ?_; have H5 := show Hid (After w (w4.setRow g5 (rc a2 n2 c2 e2).toArray) ∧ RowIs (w4.setRow g5 (rc a2 n2 c2 e2).toArray) w.heap.size 25 zc ∧ RowIs (w4.setRow g5 (rc a2 n2 c2 e2).toArray) (w.heap.size + 1) 25 zc ∧ RowIs (w4.setRow g5 (rc a2 n2 c2 e2).toArray) g5 66 (rc a2 n2 c2 e2)) from ⟨Below.row H4.out.1 HG5.out.1 _, H4.out.2.1.setRow_other _ (by have := HG5.out.2; omega), H4.out.2.2.1.setRow_other _ (by have := HG5.out.2; omega), H4.out.2.2.2.setRow _⟩; revert H5; generalize w4.setRow g5 (rc a2 n2 c2 e2).toArray = w5; intro H5)
    | (go_at_call 49; have _u := H3.out; clear _u; refine Calls.mono (rUintR_any a1 n1 c1 e1 MN b1 HS1.out.len HS1.out.cap HS1.out.nil w3 (HS1.out.at_ _ (HB.out.1.after H3.out.1))) ?_; rintro e w4 ⟨a2, n2, c2, e2, v2, b2, rfl, hr, ha⟩; have HR2 := show Hid (Rdr b1 a1 n1 c1 e1 MN a2 n2 c2 e2 v2 b2) from hr; have HS2 := show Hid (Rst (some ⟨gb, go, none⟩) bs a2 n2 c2 b2) from HS1.out.rdr hr; have H4 := show Hid (After w w4 ∧ RowIs w4 w.heap.size 25 zc ∧ RowIs w4 (w.heap.size + 1) 25 zc ∧ RowIs w4 g5 66 (rc a1 n1 c1 e1)) from ⟨After.trans H3.out.1 ha, H3.out.2.1.below ha H3.out.2.1.lt, H3.out.2.2.1.below ha H3.out.2.2.1.lt, H3.out.2.2.2.below ha H3.out.2.2.2.lt⟩; clear ha hr)
    | (have _u := H3.out; clear _u; refine wpListG_of_run rfl (x_ld66 (x := .tmp 5) (g := g5) (a := a1) (n := n1) (c := c1) (e := e1) rfl rfl H3.out.2.2.2) ?_)
    | (refine wpList_store_row rfl 66 (.tmp 5) (.tmp 32) rfl g5 (rc a1 n1 c1 e1).toArray rfl rfl 66 _ H2.out.2.2.2 (size66 _ _ _ _) rfl (all66 _ _ _ _) ?_; have H3 := show Hid (After w (w2.setRow g5 (rc a1 n1 c1 e1).toArray) ∧ RowIs (w2.setRow g5 (rc a1 n1 c1 e1).toArray) w.heap.size 25 zc ∧ RowIs (w2.setRow g5 (rc a1 n1 c1 e1).toArray) (w.heap.size + 1) 25 zc ∧ RowIs (w2.setRow g5 (rc a1 n1 c1 e1).toArray) g5 66 (rc a1 n1 c1 e1)) from ⟨Below.row H2.out.1 HG5.out.1 _, H2.out.2.1.setRow_other _ (by have := HG5.out.2; omega), H2.out.2.2.1.setRow_other _ (by have := HG5.out.2; omega), H2.out.2.2.2.setRow _⟩; revert H3; generalize w2.setRow g5 (rc a1 n1 c1 e1).toArray = w3; intro H3)
    | (go_at_call 48; refine Calls.mono (rTextR_any a0 n0 c0 0 32 (f0 bs) HS0.out.len HS0.out.cap HS0.out.nil HS0.out.big (by omega) w1 (HS0.out.at_ _ (HB.out.1.after H1.out.1))) ?_; rintro e w2 ⟨a1, n1, c1, e1, s1, b1, rfl, hr, ha⟩; have HR1 := show Hid (Rdt (f0 bs) a0 n0 c0 0 32 a1 n1 c1 e1 s1 b1) from hr; have HS1 := show Hid (Rst (some ⟨gb, go, none⟩) bs a1 n1 c1 b1) from HS0.out.rdt hr; have H2 := show Hid (After w w2 ∧ RowIs w2 w.heap.size 25 zc ∧ RowIs w2 (w.heap.size + 1) 25 zc ∧ RowIs w2 g5 66 (rc a0 n0 c0 0)) from ⟨After.trans H1.out.1 ha, H1.out.2.1.below ha H1.out.2.1.lt, H1.out.2.2.1.below ha H1.out.2.2.1.lt, H1.out.2.2.2.below ha H1.out.2.2.2.lt⟩; clear ha hr)
    | (refine wpListG_of_run rfl (x_ld66 (x := .tmp 5) (g := g5) (a := a0) (n := n0) (c := c0) (e := 0) rfl rfl H1.out.2.2.2) ?_)
    | (refine wpList_store_row rfl 66 (.tmp 5) (.tmp 28) rfl w0.heap.size (rc a0 n0 c0 0).toArray rfl rfl 66 _ (RowIs.new w0 66 [.slice none 0 0, .int .i64 0]) (size66 _ _ _ _) rfl (all66 _ _ _ _) ?_; have H1 := show Hid (After w ((w0.alloc (.cells #[.slice none 0 0, .int .i64 0] 66)).setRow w0.heap.size (rc a0 n0 c0 0).toArray) ∧ RowIs ((w0.alloc (.cells #[.slice none 0 0, .int .i64 0] 66)).setRow w0.heap.size (rc a0 n0 c0 0).toArray) w.heap.size 25 zc ∧ RowIs ((w0.alloc (.cells #[.slice none 0 0, .int .i64 0] 66)).setRow w0.heap.size (rc a0 n0 c0 0).toArray) (w.heap.size + 1) 25 zc ∧ RowIs ((w0.alloc (.cells #[.slice none 0 0, .int .i64 0] 66)).setRow w0.heap.size (rc a0 n0 c0 0).toArray) w0.heap.size 66 (rc a0 n0 c0 0)) from ⟨Below.row (after_alloc H0.out.1 _) H0.out.1.size _, (H0.out.2.1.alloc _).setRow_other _ (Nat.ne_of_lt H0.out.2.1.lt), (H0.out.2.2.1.alloc _).setRow_other _ (Nat.ne_of_lt H0.out.2.2.1.lt), RowIs.setRow (RowIs.new w0 66 [.slice none 0 0, .int .i64 0]) _⟩; obtain ⟨g5, hg5⟩ : ∃ g, w0.heap.size = g := ⟨_, rfl⟩; have HG5 := show Hid (w.heap.size ≤ g5 ∧ w.heap.size + 1 < g5) from ⟨by rw [← hg5]; exact H0.out.1.size, by rw [← hg5]; exact H0.out.2.2.1.lt⟩; revert H1; generalize (w0.alloc (.cells #[.slice none 0 0, .int .i64 0] 66)).setRow w0.heap.size (rc a0 n0 c0 0).toArray = w1; rw [hg5]; intro H1; clear hg5)
    | (refine wpListG_of_run rfl (x_slv (x := .tmp 26) (y := .const (.int .i64 1)) (ao := some ⟨gb, go, none⟩) (a' := a0) (n := n) (cap := c) (k := 1) (j := n0) (c := c0) rfl rfl rfl HB.out.2.2.2.1 HB.out.2.2.1 HP.out hA0 hN0 hC0) ?_))
  refine bodyPost_ret (ret25t Tryz.results22 _ _ w.heap.size zc rfl (row_same H7.out.2.1) rfl _ rfl) rfl ?_
  exact ⟨rfl, Below.row H7.out.1 (Nat.le_refl _) _⟩

set_option maxRecDepth 100000 in
set_option maxHeartbeats 4000000 in
theorem rg_3 (a : Option Addr) (n c : Nat) (bs : List UInt8) (hn : bs.length = n) (hca : n ≤ c) (hz : a = none → n = 0) (hbig : n ≤ 140737488355328) (w : World) (hat : BytesAt w a bs) (hp : 1 ≤ n) (hb1 : bs.getD 0 0 = 1) (ho : okH bs) (hg : ¬ HS.ghE (f3 bs) 16 = 0) :
    Calls Tryz.prog 22 #[.slice a n c] w fun e w' => e = .returned (.tuple #[.agg zc.toArray, .int .i64 4]) ∧ After w w' := by
  have HB : Hid (BytesAt w a bs ∧ bs.length = n ∧ n ≤ c ∧ (a = none → n = 0) ∧ n ≤ 140737488355328) := ⟨hat, hn, hca, hz, hbig⟩
  obtain ⟨w0, hw0⟩ : ∃ w0, (w.alloc (.cells #[.string ⟨#[]⟩, .int .i64 0, .int .i64 0, .slice none 0 0, .string ⟨#[]⟩, .slice none 0 0] 25)).alloc (.cells #[.string ⟨#[]⟩, .int .i64 0, .int .i64 0, .slice none 0 0, .string ⟨#[]⟩, .slice none 0 0] 25) = w0 := ⟨_, rfl⟩
  have H0 : Hid (After w w0 ∧ RowIs w0 w.heap.size 25 zc ∧ RowIs w0 (w.heap.size + 1) 25 zc ∧ True) := by
    refine ⟨by rw [← hw0]; exact after_alloc (after_alloc (After.refl w) _) _, by rw [← hw0]; exact (RowIs.new w 25 zc).alloc _, ?_, trivial⟩
    have h := RowIs.new (w.alloc (.cells #[.string ⟨#[]⟩, .int .i64 0, .int .i64 0, .slice none 0 0, .string ⟨#[]⟩, .slice none 0 0] 25)) 25 zc
    rw [← hw0]
    simpa using h
  have z1 : ¬ (n : Int) = 0 := by omega
  have z2 : ((n : Int) == 0) = false := beq_eq_false_iff_ne.2 z1
  have z3 : (0 : Int) < (n : Int) := by omega
  obtain ⟨gb, go, hab, hcl⟩ := hat (by intro h; rw [h] at hn; simp at hn; omega)
  have hc0 := hcl 0 (by omega)
  have k0 : w0.cell? ⟨gb, go, none⟩ = some (.int .u8 ((bs.getD 0 0).toNat : Int)) := by
    rw [Nat.add_zero] at hc0
    exact (Below.cell H0.out.1 (p := ⟨gb, go, none⟩) (World.block_lt_of_cell? w _ hc0)).trans hc0
  subst hab
  clear hcl hc0
  rw [hb1] at k0
  obtain ⟨a0, hA0⟩ : ∃ x, cutAt (some ⟨gb, go, none⟩) 1 c = x := ⟨_, rfl⟩
  obtain ⟨n0, hN0⟩ : ∃ x, n - 1 = x := ⟨_, rfl⟩
  obtain ⟨c0, hC0⟩ : ∃ x, c - 1 = x := ⟨_, rfl⟩
  have HP : Hid (1 ≤ n) := hp
  have HS0 : Hid (Rst (some ⟨gb, go, none⟩) bs a0 n0 c0 (f0 bs)) := Rst.cut ⟨fun _ h => h, hn, hca, hz, hbig⟩ hp hA0 hN0 hC0
  have HO : Hid (okH bs) := ho
  obtain ⟨k4, hk4⟩ : ∃ x, HS.ghK (f3 bs) 16 = x := ⟨_, rfl⟩
  obtain ⟨q4, hq4⟩ : ∃ x, HS.ghE (f3 bs) 16 = x := ⟨_, rfl⟩
  obtain ⟨m4, hm4⟩ : ∃ x, (HS.ghL (f3 bs) 16).length = x := ⟨_, rfl⟩
  have HK4 : Hid (HS.ghK (f3 bs) 16 = k4 ∧ HS.ghE (f3 bs) 16 = q4 ∧ (HS.ghL (f3 bs) 16).length = m4) := ⟨hk4, hq4, hm4⟩
  have HQ4 : Hid (¬ q4 = 0) := by unfold Hid; rw [← hq4]; exact hg
  clear ho hb1 hk4 hq4 hm4 hg
  clear hn hca hz hbig hat
  go_enter Tryz.func22, Tryz.ntmps22
  go_wp2_with (first
    | (refine wpListG_of_run rfl (x_row25 (x := .tmp 4) (g := w.heap.size + 1) (cs := zc) rfl rfl H8.out.2.2.1 rfl) ?_)
    | (refine wpList_store_row rfl 25 (.tmp 2) (.tmp 57) rfl w.heap.size zc.toArray rfl rfl 25 _ H8.out.2.1 (by kernel_rfl) rfl (by kernel_rfl) ?_)
    | (go_at_call 50; refine Calls.mono (rget50_k a3 n3 c3 (f3 bs) HS3.out.len HS3.out.cap HS3.out.big w7 (HS3.out.at_ _ (HB.out.1.after H7.out.1)) HK4.out.1 HK4.out.2.1 HK4.out.2.2) ?_; rintro e w8 ⟨ad, cd, he, hhs, hbk, ha⟩; subst he; have H8 := show Hid (After w w8 ∧ RowIs w8 w.heap.size 25 zc ∧ RowIs w8 (w.heap.size + 1) 25 zc ∧ RowIs w8 g5 66 (rc a3 n3 c3 0)) from ⟨After.trans H7.out.1 ha, H7.out.2.1.below ha H7.out.2.1.lt, H7.out.2.2.1.below ha H7.out.2.2.1.lt, H7.out.2.2.2.below ha H7.out.2.2.2.lt⟩; have HD := show Hid (HS.HsAt w8 ad (HS.ghL (f3 bs) 16) ∧ ∀ x, ad = some x → x.block ≠ g5) from ⟨hhs, fun x hx => (by have := hbk x hx; have := H7.out.2.2.2.lt; omega)⟩; have fi4 : ¬ (q4 : Int) = 0 := (by have := HQ4.out; omega); have fb4 : ((q4 : Int) == 0) = false := beq_eq_false_iff_ne.2 fi4; have fn4 : ((q4 : Int) != 0) = true := (by simp [bne, fb4]); clear ha hhs hbk)
    | (refine wpList_store_row rfl 66 (.tmp 5) (.tmp 42) rfl g5 (rc a3 n3 c3 0).toArray rfl rfl 66 _ H6.out.2.2.2 (size66 _ _ _ _) rfl (all66 _ _ _ _) ?_; have H7 := show Hid (After w (w6.setRow g5 (rc a3 n3 c3 0).toArray) ∧ RowIs (w6.setRow g5 (rc a3 n3 c3 0).toArray) w.heap.size 25 zc ∧ RowIs (w6.setRow g5 (rc a3 n3 c3 0).toArray) (w.heap.size + 1) 25 zc ∧ RowIs (w6.setRow g5 (rc a3 n3 c3 0).toArray) g5 66 (rc a3 n3 c3 0)) from ⟨Below.row H6.out.1 HG5.out.1 _, H6.out.2.1.setRow_other _ (by have := HG5.out.2; omega), H6.out.2.2.1.setRow_other _ (by have := HG5.out.2; omega), H6.out.2.2.2.setRow _⟩; revert H7; generalize w6.setRow g5 (rc a3 n3 c3 0).toArray = w7; intro H7; have cE : w7.cell? ⟨g5, 1, none⟩ = some (.int .i64 0) := H7.out.2.2.2.cell (j := 1) rfl; have cS : w7.cell? ⟨g5, 0, none⟩ = some (.slice a3 n3 c3) := H7.out.2.2.2.cell (j := 0) rfl)
    | (go_at_call 49; have _u := H5.out; clear _u; refine Calls.mono (rUintR_any a2 n2 c2 e2 MN b2 HS2.out.len HS2.out.cap HS2.out.nil w5 (HS2.out.at_ _ (HB.out.1.after H5.out.1))) ?_; rintro e w6 ⟨a3, n3, c3, e3, v3, b3, rfl, hr, ha⟩; obtain ⟨hif, hvl⟩ := okH_of HR1.out HR2.out hr; have HS3 := show Hid (Rst (some ⟨gb, go, none⟩) bs a3 n3 c3 b3) from HS2.out.rdr hr; have H6 := show Hid (After w w6 ∧ RowIs w6 w.heap.size 25 zc ∧ RowIs w6 (w.heap.size + 1) 25 zc ∧ RowIs w6 g5 66 (rc a2 n2 c2 e2)) from ⟨After.trans H5.out.1 ha, H5.out.2.1.below ha H5.out.2.1.lt, H5.out.2.2.1.below ha H5.out.2.2.1.lt, H5.out.2.2.2.below ha H5.out.2.2.2.lt⟩; obtain ⟨q1, q2, q3, q4⟩ := hvl (hif.2 HO.out); have he3 := hif.2 HO.out; subst he3; subst q4; have HV := show Hid (s1 = gtS (f0 bs) (32 : Nat) ∧ v2 = guV (f1 bs) ∧ v3 = guV (f2 bs)) from ⟨q1, q2, q3⟩; clear hif hvl q1 q2 q3; clear ha hr)
    | (have _u := H5.out; clear _u; refine wpListG_of_run rfl (x_ld66 (x := .tmp 5) (g := g5) (a := a2) (n := n2) (c := c2) (e := e2) rfl rfl H5.out.2.2.2) ?_)
    | (refine wpList_store_row rfl 66 (.tmp 5) (.tmp 37) rfl g5 (rc a2 n2 c2 e2).toArray rfl rfl 66 _ H4.out.2.2.2 (size66 _ _ _ _) rfl (all66 _ _ _ _) ?_; have H5 := show Hid (After w (w4.setRow g5 (rc a2 n2 c2 e2).toArray) ∧ RowIs (w4.setRow g5 (rc a2 n2 c2 e2).toArray) w.heap.size 25 zc ∧ RowIs (w4.setRow g5 (rc a2 n2 c2 e2).toArray) (w.heap.size + 1) 25 zc ∧ RowIs (w4.setRow g5 (rc a2 n2 c2 e2).toArray) g5 66 (rc a2 n2 c2 e2)) from ⟨Below.row H4.out.1 HG5.out.1 _, H4.out.2.1.setRow_other _ (by have := HG5.out.2; omega), H4.out.2.2.1.setRow_other _ (by have := HG5.out.2; omega), H4.out.2.2.2.setRow _⟩; revert H5; generalize w4.setRow g5 (rc a2 n2 c2 e2).toArray = w5; intro H5)
    | (go_at_call 49; have _u := H3.out; clear _u; refine Calls.mono (rUintR_any a1 n1 c1 e1 MN b1 HS1.out.len HS1.out.cap HS1.out.nil w3 (HS1.out.at_ _ (HB.out.1.after H3.out.1))) ?_; rintro e w4 ⟨a2, n2, c2, e2, v2, b2, rfl, hr, ha⟩; have HR2 := show Hid (Rdr b1 a1 n1 c1 e1 MN a2 n2 c2 e2 v2 b2) from hr; have HS2 := show Hid (Rst (some ⟨gb, go, none⟩) bs a2 n2 c2 b2) from HS1.out.rdr hr; have H4 := show Hid (After w w4 ∧ RowIs w4 w.heap.size 25 zc ∧ RowIs w4 (w.heap.size + 1) 25 zc ∧ RowIs w4 g5 66 (rc a1 n1 c1 e1)) from ⟨After.trans H3.out.1 ha, H3.out.2.1.below ha H3.out.2.1.lt, H3.out.2.2.1.below ha H3.out.2.2.1.lt, H3.out.2.2.2.below ha H3.out.2.2.2.lt⟩; clear ha hr)
    | (have _u := H3.out; clear _u; refine wpListG_of_run rfl (x_ld66 (x := .tmp 5) (g := g5) (a := a1) (n := n1) (c := c1) (e := e1) rfl rfl H3.out.2.2.2) ?_)
    | (refine wpList_store_row rfl 66 (.tmp 5) (.tmp 32) rfl g5 (rc a1 n1 c1 e1).toArray rfl rfl 66 _ H2.out.2.2.2 (size66 _ _ _ _) rfl (all66 _ _ _ _) ?_; have H3 := show Hid (After w (w2.setRow g5 (rc a1 n1 c1 e1).toArray) ∧ RowIs (w2.setRow g5 (rc a1 n1 c1 e1).toArray) w.heap.size 25 zc ∧ RowIs (w2.setRow g5 (rc a1 n1 c1 e1).toArray) (w.heap.size + 1) 25 zc ∧ RowIs (w2.setRow g5 (rc a1 n1 c1 e1).toArray) g5 66 (rc a1 n1 c1 e1)) from ⟨Below.row H2.out.1 HG5.out.1 _, H2.out.2.1.setRow_other _ (by have := HG5.out.2; omega), H2.out.2.2.1.setRow_other _ (by have := HG5.out.2; omega), H2.out.2.2.2.setRow _⟩; revert H3; generalize w2.setRow g5 (rc a1 n1 c1 e1).toArray = w3; intro H3)
    | (go_at_call 48; refine Calls.mono (rTextR_any a0 n0 c0 0 32 (f0 bs) HS0.out.len HS0.out.cap HS0.out.nil HS0.out.big (by omega) w1 (HS0.out.at_ _ (HB.out.1.after H1.out.1))) ?_; rintro e w2 ⟨a1, n1, c1, e1, s1, b1, rfl, hr, ha⟩; have HR1 := show Hid (Rdt (f0 bs) a0 n0 c0 0 32 a1 n1 c1 e1 s1 b1) from hr; have HS1 := show Hid (Rst (some ⟨gb, go, none⟩) bs a1 n1 c1 b1) from HS0.out.rdt hr; have H2 := show Hid (After w w2 ∧ RowIs w2 w.heap.size 25 zc ∧ RowIs w2 (w.heap.size + 1) 25 zc ∧ RowIs w2 g5 66 (rc a0 n0 c0 0)) from ⟨After.trans H1.out.1 ha, H1.out.2.1.below ha H1.out.2.1.lt, H1.out.2.2.1.below ha H1.out.2.2.1.lt, H1.out.2.2.2.below ha H1.out.2.2.2.lt⟩; clear ha hr)
    | (refine wpListG_of_run rfl (x_ld66 (x := .tmp 5) (g := g5) (a := a0) (n := n0) (c := c0) (e := 0) rfl rfl H1.out.2.2.2) ?_)
    | (refine wpList_store_row rfl 66 (.tmp 5) (.tmp 28) rfl w0.heap.size (rc a0 n0 c0 0).toArray rfl rfl 66 _ (RowIs.new w0 66 [.slice none 0 0, .int .i64 0]) (size66 _ _ _ _) rfl (all66 _ _ _ _) ?_; have H1 := show Hid (After w ((w0.alloc (.cells #[.slice none 0 0, .int .i64 0] 66)).setRow w0.heap.size (rc a0 n0 c0 0).toArray) ∧ RowIs ((w0.alloc (.cells #[.slice none 0 0, .int .i64 0] 66)).setRow w0.heap.size (rc a0 n0 c0 0).toArray) w.heap.size 25 zc ∧ RowIs ((w0.alloc (.cells #[.slice none 0 0, .int .i64 0] 66)).setRow w0.heap.size (rc a0 n0 c0 0).toArray) (w.heap.size + 1) 25 zc ∧ RowIs ((w0.alloc (.cells #[.slice none 0 0, .int .i64 0] 66)).setRow w0.heap.size (rc a0 n0 c0 0).toArray) w0.heap.size 66 (rc a0 n0 c0 0)) from ⟨Below.row (after_alloc H0.out.1 _) H0.out.1.size _, (H0.out.2.1.alloc _).setRow_other _ (Nat.ne_of_lt H0.out.2.1.lt), (H0.out.2.2.1.alloc _).setRow_other _ (Nat.ne_of_lt H0.out.2.2.1.lt), RowIs.setRow (RowIs.new w0 66 [.slice none 0 0, .int .i64 0]) _⟩; obtain ⟨g5, hg5⟩ : ∃ g, w0.heap.size = g := ⟨_, rfl⟩; have HG5 := show Hid (w.heap.size ≤ g5 ∧ w.heap.size + 1 < g5) from ⟨by rw [← hg5]; exact H0.out.1.size, by rw [← hg5]; exact H0.out.2.2.1.lt⟩; revert H1; generalize (w0.alloc (.cells #[.slice none 0 0, .int .i64 0] 66)).setRow w0.heap.size (rc a0 n0 c0 0).toArray = w1; rw [hg5]; intro H1; clear hg5)
    | (refine wpListG_of_run rfl (x_slv (x := .tmp 26) (y := .const (.int .i64 1)) (ao := some ⟨gb, go, none⟩) (a' := a0) (n := n) (cap := c) (k := 1) (j := n0) (c := c0) rfl rfl rfl HB.out.2.2.2.1 HB.out.2.2.1 HP.out hA0 hN0 hC0) ?_))
  refine bodyPost_ret (ret25t Tryz.results22 _ _ w.heap.size zc rfl (row_same H8.out.2.1) rfl _ rfl) rfl ?_
  exact ⟨rfl, Below.row H8.out.1 (Nat.le_refl _) _⟩

set_option maxRecDepth 100000 in
set_option maxHeartbeats 4000000 in
theorem rg_4 (a : Option Addr) (n c : Nat) (bs : List UInt8) (hn : bs.length = n) (hca : n ≤ c) (hz : a = none → n = 0) (hbig : n ≤ 140737488355328) (w : World) (hat : BytesAt w a bs) (hp : 1 ≤ n) (hb1 : bs.getD 0 0 = 1) (ho : okH bs) (hg : HS.ghE (f3 bs) 16 = 0) (h6 : ¬ gtE (f4 bs) (1024 : Nat) = 0) :
    Calls Tryz.prog 22 #[.slice a n c] w fun e w' => e = .returned (.tuple #[.agg zc.toArray, .int .i64 4]) ∧ After w w' := by
  have HB : Hid (BytesAt w a bs ∧ bs.length = n ∧ n ≤ c ∧ (a = none → n = 0) ∧ n ≤ 140737488355328) := ⟨hat, hn, hca, hz, hbig⟩
  obtain ⟨w0, hw0⟩ : ∃ w0, (w.alloc (.cells #[.string ⟨#[]⟩, .int .i64 0, .int .i64 0, .slice none 0 0, .string ⟨#[]⟩, .slice none 0 0] 25)).alloc (.cells #[.string ⟨#[]⟩, .int .i64 0, .int .i64 0, .slice none 0 0, .string ⟨#[]⟩, .slice none 0 0] 25) = w0 := ⟨_, rfl⟩
  have H0 : Hid (After w w0 ∧ RowIs w0 w.heap.size 25 zc ∧ RowIs w0 (w.heap.size + 1) 25 zc ∧ True) := by
    refine ⟨by rw [← hw0]; exact after_alloc (after_alloc (After.refl w) _) _, by rw [← hw0]; exact (RowIs.new w 25 zc).alloc _, ?_, trivial⟩
    have h := RowIs.new (w.alloc (.cells #[.string ⟨#[]⟩, .int .i64 0, .int .i64 0, .slice none 0 0, .string ⟨#[]⟩, .slice none 0 0] 25)) 25 zc
    rw [← hw0]
    simpa using h
  have z1 : ¬ (n : Int) = 0 := by omega
  have z2 : ((n : Int) == 0) = false := beq_eq_false_iff_ne.2 z1
  have z3 : (0 : Int) < (n : Int) := by omega
  obtain ⟨gb, go, hab, hcl⟩ := hat (by intro h; rw [h] at hn; simp at hn; omega)
  have hc0 := hcl 0 (by omega)
  have k0 : w0.cell? ⟨gb, go, none⟩ = some (.int .u8 ((bs.getD 0 0).toNat : Int)) := by
    rw [Nat.add_zero] at hc0
    exact (Below.cell H0.out.1 (p := ⟨gb, go, none⟩) (World.block_lt_of_cell? w _ hc0)).trans hc0
  subst hab
  clear hcl hc0
  rw [hb1] at k0
  obtain ⟨a0, hA0⟩ : ∃ x, cutAt (some ⟨gb, go, none⟩) 1 c = x := ⟨_, rfl⟩
  obtain ⟨n0, hN0⟩ : ∃ x, n - 1 = x := ⟨_, rfl⟩
  obtain ⟨c0, hC0⟩ : ∃ x, c - 1 = x := ⟨_, rfl⟩
  have HP : Hid (1 ≤ n) := hp
  have HS0 : Hid (Rst (some ⟨gb, go, none⟩) bs a0 n0 c0 (f0 bs)) := Rst.cut ⟨fun _ h => h, hn, hca, hz, hbig⟩ hp hA0 hN0 hC0
  have HO : Hid (okH bs) := ho
  obtain ⟨k4, hk4⟩ : ∃ x, HS.ghK (f3 bs) 16 = x := ⟨_, rfl⟩
  obtain ⟨q4, hq4⟩ : ∃ x, HS.ghE (f3 bs) 16 = x := ⟨_, rfl⟩
  obtain ⟨m4, hm4⟩ : ∃ x, (HS.ghL (f3 bs) 16).length = x := ⟨_, rfl⟩
  have HK4 : Hid (HS.ghK (f3 bs) 16 = k4 ∧ HS.ghE (f3 bs) 16 = q4 ∧ (HS.ghL (f3 bs) 16).length = m4) := ⟨hk4, hq4, hm4⟩
  have HQ4 : Hid (HS.ghE (f3 bs) 16 = 0) := hg
  have hq40 : q4 = 0 := by rw [← hq4]; exact hg
  subst hq40
  have HO6 : Hid (¬ gtE (f4 bs) (1024 : Nat) = 0) := h6
  clear ho hb1 hk4 hq4 hm4 hg h6
  clear hn hca hz hbig hat
  go_enter Tryz.func22, Tryz.ntmps22
  go_wp2_with (first
    | (refine wpListG_of_run rfl (x_row25 (x := .tmp 4) (g := w.heap.size + 1) (cs := zc) rfl rfl H11.out.2.2.1 rfl) ?_)
    | (refine wpList_store_row rfl 25 (.tmp 2) (.tmp 71) rfl w.heap.size zc.toArray rfl rfl 25 _ H11.out.2.1 (by kernel_rfl) rfl (by kernel_rfl) ?_)
    | (refine wpList_store_row rfl 66 (.tmp 5) (.tmp 66) rfl g5 (rc a6 n6 c6 e6).toArray rfl rfl 66 _ H10.out.2.2.2 (size66 _ _ _ _) rfl (all66 _ _ _ _) ?_; have H11 := show Hid (After w (w10.setRow g5 (rc a6 n6 c6 e6).toArray) ∧ RowIs (w10.setRow g5 (rc a6 n6 c6 e6).toArray) w.heap.size 25 zc ∧ RowIs (w10.setRow g5 (rc a6 n6 c6 e6).toArray) (w.heap.size + 1) 25 zc ∧ RowIs (w10.setRow g5 (rc a6 n6 c6 e6).toArray) g5 66 (rc a6 n6 c6 e6)) from ⟨Below.row H10.out.1 HG5.out.1 _, H10.out.2.1.setRow_other _ (by have := HG5.out.2; omega), H10.out.2.2.1.setRow_other _ (by have := HG5.out.2; omega), H10.out.2.2.2.setRow _⟩; revert H11; generalize w10.setRow g5 (rc a6 n6 c6 e6).toArray = w11; intro H11; have cE6 : w11.cell? ⟨g5, 1, none⟩ = some (.int .i64 (e6 : Int)) := H11.out.2.2.2.cell (j := 1) rfl)
    | (go_at_call 48; have _u := H9.out; clear _u; refine Calls.mono (rTextR_any a5 n5 c5 0 1024 (f4 bs) HS5.out.len HS5.out.cap HS5.out.nil HS5.out.big (by omega) w9 (HS5.out.at_ _ (HB.out.1.after H9.out.1))) ?_; rintro e w10 ⟨a6, n6, c6, e6, s6, b6, rfl, hr, ha⟩; have HS6 := show Hid (Rst (some ⟨gb, go, none⟩) bs a6 n6 c6 b6) from HS5.out.rdt hr; have H10 := show Hid (After w w10 ∧ RowIs w10 w.heap.size 25 zc ∧ RowIs w10 (w.heap.size + 1) 25 zc ∧ RowIs w10 g5 66 (rc a5 n5 c5 0)) from ⟨After.trans H9.out.1 ha, H9.out.2.1.below ha H9.out.2.1.lt, H9.out.2.2.1.below ha H9.out.2.2.1.lt, H9.out.2.2.2.below ha H9.out.2.2.2.lt⟩; have HB10 := show Hid (But g5 w8 w10) from HB9.out.trans (But.of_below ha); have he6 : ¬ e6 = 0 := (fun h => HO6.out (hr.iff.1 h).2); have fi6 : ¬ (e6 : Int) = 0 := (by omega); have fb6 : ((e6 : Int) == 0) = false := beq_eq_false_iff_ne.2 fi6; have fn6 : ((e6 : Int) != 0) = true := (by simp [bne, fb6]); clear ha hr)
    | (have _u := H9.out; clear _u; refine wpListG_of_run rfl (x_ld66 (x := .tmp 5) (g := g5) (a := a5) (n := n5) (c := c5) (e := 0) rfl rfl H9.out.2.2.2) ?_)
    | (have _u := H9.out; clear _u; refine wpListG_of_run rfl (x_slv (x := .tmp 59) (y := .tmp 60) (ao := a3) (a' := a5) (n := n3) (cap := c3) (k := k4) (j := n5) (c := c5) rfl rfl rfl HS3.out.nil HS3.out.cap HA5.out.1 HA5.out.2.1 HA5.out.2.2.1 HA5.out.2.2.2) ?_)
    | (go_at_call 50; refine Calls.mono (rget50_k a3 n3 c3 (f3 bs) HS3.out.len HS3.out.cap HS3.out.big w7 (HS3.out.at_ _ (HB.out.1.after H7.out.1)) HK4.out.1 HK4.out.2.1 HK4.out.2.2) ?_; rintro e w8 ⟨ad, cd, he, hhs, hbk, ha⟩; subst he; have H8 := show Hid (After w w8 ∧ RowIs w8 w.heap.size 25 zc ∧ RowIs w8 (w.heap.size + 1) 25 zc ∧ RowIs w8 g5 66 (rc a3 n3 c3 0)) from ⟨After.trans H7.out.1 ha, H7.out.2.1.below ha H7.out.2.1.lt, H7.out.2.2.1.below ha H7.out.2.2.1.lt, H7.out.2.2.2.below ha H7.out.2.2.2.lt⟩; have HD := show Hid (HS.HsAt w8 ad (HS.ghL (f3 bs) 16) ∧ ∀ x, ad = some x → x.block ≠ g5) from ⟨hhs, fun x hx => (by have := hbk x hx; have := H7.out.2.2.2.lt; omega)⟩; have cS8 : w8.cell? ⟨g5, 0, none⟩ = some (.slice a3 n3 c3) := H8.out.2.2.2.cell (j := 0) rfl; have fz8 := H8.out.2.2.2.frozen 0; have hk4 : k4 ≤ n3 := (by rw [← HK4.out.1, ← HS3.out.len]; exact (gh_ok HQ4.out).1); obtain ⟨a5, hA5⟩ : ∃ x, cutAt a3 k4 c3 = x := ⟨_, rfl⟩; obtain ⟨n5, hN5⟩ : ∃ x, n3 - k4 = x := ⟨_, rfl⟩; obtain ⟨c5, hC5⟩ : ∃ x, c3 - k4 = x := ⟨_, rfl⟩; have HS5 := show Hid (Rst (some ⟨gb, go, none⟩) bs a5 n5 c5 (f4 bs)) from (by have h := HS3.out.cut hk4 hA5 hN5 hC5; rw [← HK4.out.1] at h; exact h); have HA5 := show Hid (k4 ≤ n3 ∧ cutAt a3 k4 c3 = a5 ∧ n3 - k4 = n5 ∧ c3 - k4 = c5) from ⟨hk4, hA5, hN5, hC5⟩; clear hk4 hA5 hN5 hC5; obtain ⟨w9, hw9⟩ : ∃ w9, w8.setCell ⟨g5, 0, none⟩ (.slice a5 n5 c5) = w9 := ⟨_, rfl⟩; have H9 := show Hid (After w w9 ∧ RowIs w9 w.heap.size 25 zc ∧ RowIs w9 (w.heap.size + 1) 25 zc ∧ RowIs w9 g5 66 (rc a5 n5 c5 0)) from ⟨by rw [← hw9]; exact Below.setCell H8.out.1 (p := ⟨g5, 0, none⟩) HG5.out.1 _, by rw [← hw9]; exact H8.out.2.1.other _ _ (by have := HG5.out.2; show w.heap.size ≠ g5; omega), by rw [← hw9]; exact H8.out.2.2.1.other _ _ (by have := HG5.out.2; show w.heap.size + 1 ≠ g5; omega), by rw [← hw9]; exact H8.out.2.2.2.set 0 _⟩; have HB9 := show Hid (But g5 w8 w9) from (by rw [← hw9]; exact (But.refl g5 w8).setCell 0 _); clear ha hhs hbk)
    | (refine wpList_store_row rfl 66 (.tmp 5) (.tmp 42) rfl g5 (rc a3 n3 c3 0).toArray rfl rfl 66 _ H6.out.2.2.2 (size66 _ _ _ _) rfl (all66 _ _ _ _) ?_; have H7 := show Hid (After w (w6.setRow g5 (rc a3 n3 c3 0).toArray) ∧ RowIs (w6.setRow g5 (rc a3 n3 c3 0).toArray) w.heap.size 25 zc ∧ RowIs (w6.setRow g5 (rc a3 n3 c3 0).toArray) (w.heap.size + 1) 25 zc ∧ RowIs (w6.setRow g5 (rc a3 n3 c3 0).toArray) g5 66 (rc a3 n3 c3 0)) from ⟨Below.row H6.out.1 HG5.out.1 _, H6.out.2.1.setRow_other _ (by have := HG5.out.2; omega), H6.out.2.2.1.setRow_other _ (by have := HG5.out.2; omega), H6.out.2.2.2.setRow _⟩; revert H7; generalize w6.setRow g5 (rc a3 n3 c3 0).toArray = w7; intro H7; have cE : w7.cell? ⟨g5, 1, none⟩ = some (.int .i64 0) := H7.out.2.2.2.cell (j := 1) rfl; have cS : w7.cell? ⟨g5, 0, none⟩ = some (.slice a3 n3 c3) := H7.out.2.2.2.cell (j := 0) rfl)
    | (go_at_call 49; have _u := H5.out; clear _u; refine Calls.mono (rUintR_any a2 n2 c2 e2 MN b2 HS2.out.len HS2.out.cap HS2.out.nil w5 (HS2.out.at_ _ (HB.out.1.after H5.out.1))) ?_; rintro e w6 ⟨a3, n3, c3, e3, v3, b3, rfl, hr, ha⟩; obtain ⟨hif, hvl⟩ := okH_of HR1.out HR2.out hr; have HS3 := show Hid (Rst (some ⟨gb, go, none⟩) bs a3 n3 c3 b3) from HS2.out.rdr hr; have H6 := show Hid (After w w6 ∧ RowIs w6 w.heap.size 25 zc ∧ RowIs w6 (w.heap.size + 1) 25 zc ∧ RowIs w6 g5 66 (rc a2 n2 c2 e2)) from ⟨After.trans H5.out.1 ha, H5.out.2.1.below ha H5.out.2.1.lt, H5.out.2.2.1.below ha H5.out.2.2.1.lt, H5.out.2.2.2.below ha H5.out.2.2.2.lt⟩; obtain ⟨q1, q2, q3, q4⟩ := hvl (hif.2 HO.out); have he3 := hif.2 HO.out; subst he3; subst q4; have HV := show Hid (s1 = gtS (f0 bs) (32 : Nat) ∧ v2 = guV (f1 bs) ∧ v3 = guV (f2 bs)) from ⟨q1, q2, q3⟩; clear hif hvl q1 q2 q3; clear ha hr)
    | (have _u := H5.out; clear _u; refine wpListG_of_run rfl (x_ld66 (x := .tmp 5) (g := g5) (a := a2) (n := n2) (c := c2) (e := e2) rfl rfl H5.out.2.2.2) ?_)
    | (refine wpList_store_row rfl 66 (.tmp 5) (.tmp 37) rfl g5 (rc a2 n2 c2 e2).toArray rfl rfl 66 _ H4.out.2.2.2 (size66 _ _ _ _) rfl (all66 _ _ _ _) ?_; have H5 := show Hid (After w (w4.setRow g5 (rc a2 n2 c2 e2).toArray) ∧ RowIs (w4.setRow g5 (rc a2 n2 c2 e2).toArray) w.heap.size 25 zc ∧ RowIs (w4.setRow g5 (rc a2 n2 c2 e2).toArray) (w.heap.size + 1) 25 zc ∧ RowIs (w4.setRow g5 (rc a2 n2 c2 e2).toArray) g5 66 (rc a2 n2 c2 e2)) from ⟨Below.row H4.out.1 HG5.out.1 _, H4.out.2.1.setRow_other _ (by have := HG5.out.2; omega), H4.out.2.2.1.setRow_other _ (by have := HG5.out.2; omega), H4.out.2.2.2.setRow _⟩; revert H5; generalize w4.setRow g5 (rc a2 n2 c2 e2).toArray = w5; intro H5)
    | (go_at_call 49; have _u := H3.out; clear _u; refine Calls.mono (rUintR_any a1 n1 c1 e1 MN b1 HS1.out.len HS1.out.cap HS1.out.nil w3 (HS1.out.at_ _ (HB.out.1.after H3.out.1))) ?_; rintro e w4 ⟨a2, n2, c2, e2, v2, b2, rfl, hr, ha⟩; have HR2 := show Hid (Rdr b1 a1 n1 c1 e1 MN a2 n2 c2 e2 v2 b2) from hr; have HS2 := show Hid (Rst (some ⟨gb, go, none⟩) bs a2 n2 c2 b2) from HS1.out.rdr hr; have H4 := show Hid (After w w4 ∧ RowIs w4 w.heap.size 25 zc ∧ RowIs w4 (w.heap.size + 1) 25 zc ∧ RowIs w4 g5 66 (rc a1 n1 c1 e1)) from ⟨After.trans H3.out.1 ha, H3.out.2.1.below ha H3.out.2.1.lt, H3.out.2.2.1.below ha H3.out.2.2.1.lt, H3.out.2.2.2.below ha H3.out.2.2.2.lt⟩; clear ha hr)
    | (have _u := H3.out; clear _u; refine wpListG_of_run rfl (x_ld66 (x := .tmp 5) (g := g5) (a := a1) (n := n1) (c := c1) (e := e1) rfl rfl H3.out.2.2.2) ?_)
    | (refine wpList_store_row rfl 66 (.tmp 5) (.tmp 32) rfl g5 (rc a1 n1 c1 e1).toArray rfl rfl 66 _ H2.out.2.2.2 (size66 _ _ _ _) rfl (all66 _ _ _ _) ?_; have H3 := show Hid (After w (w2.setRow g5 (rc a1 n1 c1 e1).toArray) ∧ RowIs (w2.setRow g5 (rc a1 n1 c1 e1).toArray) w.heap.size 25 zc ∧ RowIs (w2.setRow g5 (rc a1 n1 c1 e1).toArray) (w.heap.size + 1) 25 zc ∧ RowIs (w2.setRow g5 (rc a1 n1 c1 e1).toArray) g5 66 (rc a1 n1 c1 e1)) from ⟨Below.row H2.out.1 HG5.out.1 _, H2.out.2.1.setRow_other _ (by have := HG5.out.2; omega), H2.out.2.2.1.setRow_other _ (by have := HG5.out.2; omega), H2.out.2.2.2.setRow _⟩; revert H3; generalize w2.setRow g5 (rc a1 n1 c1 e1).toArray = w3; intro H3)
    | (go_at_call 48; refine Calls.mono (rTextR_any a0 n0 c0 0 32 (f0 bs) HS0.out.len HS0.out.cap HS0.out.nil HS0.out.big (by omega) w1 (HS0.out.at_ _ (HB.out.1.after H1.out.1))) ?_; rintro e w2 ⟨a1, n1, c1, e1, s1, b1, rfl, hr, ha⟩; have HR1 := show Hid (Rdt (f0 bs) a0 n0 c0 0 32 a1 n1 c1 e1 s1 b1) from hr; have HS1 := show Hid (Rst (some ⟨gb, go, none⟩) bs a1 n1 c1 b1) from HS0.out.rdt hr; have H2 := show Hid (After w w2 ∧ RowIs w2 w.heap.size 25 zc ∧ RowIs w2 (w.heap.size + 1) 25 zc ∧ RowIs w2 g5 66 (rc a0 n0 c0 0)) from ⟨After.trans H1.out.1 ha, H1.out.2.1.below ha H1.out.2.1.lt, H1.out.2.2.1.below ha H1.out.2.2.1.lt, H1.out.2.2.2.below ha H1.out.2.2.2.lt⟩; clear ha hr)
    | (refine wpListG_of_run rfl (x_ld66 (x := .tmp 5) (g := g5) (a := a0) (n := n0) (c := c0) (e := 0) rfl rfl H1.out.2.2.2) ?_)
    | (refine wpList_store_row rfl 66 (.tmp 5) (.tmp 28) rfl w0.heap.size (rc a0 n0 c0 0).toArray rfl rfl 66 _ (RowIs.new w0 66 [.slice none 0 0, .int .i64 0]) (size66 _ _ _ _) rfl (all66 _ _ _ _) ?_; have H1 := show Hid (After w ((w0.alloc (.cells #[.slice none 0 0, .int .i64 0] 66)).setRow w0.heap.size (rc a0 n0 c0 0).toArray) ∧ RowIs ((w0.alloc (.cells #[.slice none 0 0, .int .i64 0] 66)).setRow w0.heap.size (rc a0 n0 c0 0).toArray) w.heap.size 25 zc ∧ RowIs ((w0.alloc (.cells #[.slice none 0 0, .int .i64 0] 66)).setRow w0.heap.size (rc a0 n0 c0 0).toArray) (w.heap.size + 1) 25 zc ∧ RowIs ((w0.alloc (.cells #[.slice none 0 0, .int .i64 0] 66)).setRow w0.heap.size (rc a0 n0 c0 0).toArray) w0.heap.size 66 (rc a0 n0 c0 0)) from ⟨Below.row (after_alloc H0.out.1 _) H0.out.1.size _, (H0.out.2.1.alloc _).setRow_other _ (Nat.ne_of_lt H0.out.2.1.lt), (H0.out.2.2.1.alloc _).setRow_other _ (Nat.ne_of_lt H0.out.2.2.1.lt), RowIs.setRow (RowIs.new w0 66 [.slice none 0 0, .int .i64 0]) _⟩; obtain ⟨g5, hg5⟩ : ∃ g, w0.heap.size = g := ⟨_, rfl⟩; have HG5 := show Hid (w.heap.size ≤ g5 ∧ w.heap.size + 1 < g5) from ⟨by rw [← hg5]; exact H0.out.1.size, by rw [← hg5]; exact H0.out.2.2.1.lt⟩; revert H1; generalize (w0.alloc (.cells #[.slice none 0 0, .int .i64 0] 66)).setRow w0.heap.size (rc a0 n0 c0 0).toArray = w1; rw [hg5]; intro H1; clear hg5)
    | (refine wpListG_of_run rfl (x_slv (x := .tmp 26) (y := .const (.int .i64 1)) (ao := some ⟨gb, go, none⟩) (a' := a0) (n := n) (cap := c) (k := 1) (j := n0) (c := c0) rfl rfl rfl HB.out.2.2.2.1 HB.out.2.2.1 HP.out hA0 hN0 hC0) ?_))
  refine bodyPost_ret (ret25t Tryz.results22 _ _ w.heap.size zc rfl (row_same H11.out.2.1) rfl _ rfl) rfl ?_
  exact ⟨rfl, Below.row H11.out.1 (Nat.le_refl _) _⟩

set_option maxRecDepth 100000 in
set_option maxHeartbeats 4000000 in
theorem rg_5 (a : Option Addr) (n c : Nat) (bs : List UInt8) (hn : bs.length = n) (hca : n ≤ c) (hz : a = none → n = 0) (hbig : n ≤ 140737488355328) (w : World) (hat : BytesAt w a bs) (hp : 1 ≤ n) (hb1 : bs.getD 0 0 = 1) (ho : okH bs) (hg : HS.ghE (f3 bs) 16 = 0) (h6 : gtE (f4 bs) (1024 : Nat) = 0) (hM : getM (f5 bs) = none) :
    Calls Tryz.prog 22 #[.slice a n c] w fun e w' => e = .returned (.tuple #[.agg zc.toArray, .int .i64 4]) ∧ After w w' := by
  have HB : Hid (BytesAt w a bs ∧ bs.length = n ∧ n ≤ c ∧ (a = none → n = 0) ∧ n ≤ 140737488355328) := ⟨hat, hn, hca, hz, hbig⟩
  obtain ⟨w0, hw0⟩ : ∃ w0, (w.alloc (.cells #[.string ⟨#[]⟩, .int .i64 0, .int .i64 0, .slice none 0 0, .string ⟨#[]⟩, .slice none 0 0] 25)).alloc (.cells #[.string ⟨#[]⟩, .int .i64 0, .int .i64 0, .slice none 0 0, .string ⟨#[]⟩, .slice none 0 0] 25) = w0 := ⟨_, rfl⟩
  have H0 : Hid (After w w0 ∧ RowIs w0 w.heap.size 25 zc ∧ RowIs w0 (w.heap.size + 1) 25 zc ∧ True) := by
    refine ⟨by rw [← hw0]; exact after_alloc (after_alloc (After.refl w) _) _, by rw [← hw0]; exact (RowIs.new w 25 zc).alloc _, ?_, trivial⟩
    have h := RowIs.new (w.alloc (.cells #[.string ⟨#[]⟩, .int .i64 0, .int .i64 0, .slice none 0 0, .string ⟨#[]⟩, .slice none 0 0] 25)) 25 zc
    rw [← hw0]
    simpa using h
  have z1 : ¬ (n : Int) = 0 := by omega
  have z2 : ((n : Int) == 0) = false := beq_eq_false_iff_ne.2 z1
  have z3 : (0 : Int) < (n : Int) := by omega
  obtain ⟨gb, go, hab, hcl⟩ := hat (by intro h; rw [h] at hn; simp at hn; omega)
  have hc0 := hcl 0 (by omega)
  have k0 : w0.cell? ⟨gb, go, none⟩ = some (.int .u8 ((bs.getD 0 0).toNat : Int)) := by
    rw [Nat.add_zero] at hc0
    exact (Below.cell H0.out.1 (p := ⟨gb, go, none⟩) (World.block_lt_of_cell? w _ hc0)).trans hc0
  subst hab
  clear hcl hc0
  rw [hb1] at k0
  obtain ⟨a0, hA0⟩ : ∃ x, cutAt (some ⟨gb, go, none⟩) 1 c = x := ⟨_, rfl⟩
  obtain ⟨n0, hN0⟩ : ∃ x, n - 1 = x := ⟨_, rfl⟩
  obtain ⟨c0, hC0⟩ : ∃ x, c - 1 = x := ⟨_, rfl⟩
  have HP : Hid (1 ≤ n) := hp
  have HS0 : Hid (Rst (some ⟨gb, go, none⟩) bs a0 n0 c0 (f0 bs)) := Rst.cut ⟨fun _ h => h, hn, hca, hz, hbig⟩ hp hA0 hN0 hC0
  have HO : Hid (okH bs) := ho
  obtain ⟨k4, hk4⟩ : ∃ x, HS.ghK (f3 bs) 16 = x := ⟨_, rfl⟩
  obtain ⟨q4, hq4⟩ : ∃ x, HS.ghE (f3 bs) 16 = x := ⟨_, rfl⟩
  obtain ⟨m4, hm4⟩ : ∃ x, (HS.ghL (f3 bs) 16).length = x := ⟨_, rfl⟩
  have HK4 : Hid (HS.ghK (f3 bs) 16 = k4 ∧ HS.ghE (f3 bs) 16 = q4 ∧ (HS.ghL (f3 bs) 16).length = m4) := ⟨hk4, hq4, hm4⟩
  have HQ4 : Hid (HS.ghE (f3 bs) 16 = 0) := hg
  have hq40 : q4 = 0 := by rw [← hq4]; exact hg
  subst hq40
  have HO6 : Hid (gtE (f4 bs) (1024 : Nat) = 0) := h6
  have HM : Hid (getM (f5 bs) = none) := hM
  clear ho hb1 hk4 hq4 hm4 hg h6
  clear hM
  clear hn hca hz hbig hat
  go_enter Tryz.func22, Tryz.ntmps22
  go_wp2_with (first
    | (refine wpListG_of_run rfl (x_row25 (x := .tmp 4) (g := w.heap.size + 1) (cs := zc) rfl rfl H12.out.2.2.1 rfl) ?_)
    | (refine wpList_store_row rfl 25 (.tmp 2) (.tmp 80) rfl w.heap.size zc.toArray rfl rfl 25 _ H12.out.2.1 (by kernel_rfl) rfl (by kernel_rfl) ?_)
    | (go_at_call 51; refine Calls.mono (rget_none (w := w11) (a := a6) (n := n6) (c := c6) (bs := b6) (HIN.out w11 H11.out.1) (by rw [HV6.out.2]; exact HM.out)) ?_; rintro e w12 ⟨rfl, ha⟩; have H12 := show Hid (After w w12 ∧ RowIs w12 w.heap.size 25 zc ∧ RowIs w12 (w.heap.size + 1) 25 zc ∧ RowIs w12 g5 66 (rc a6 n6 c6 e6)) from ⟨After.trans H11.out.1 ha, H11.out.2.1.below ha H11.out.2.1.lt, H11.out.2.2.1.below ha H11.out.2.2.1.lt, H11.out.2.2.2.below ha H11.out.2.2.2.lt⟩; clear ha)
    | (refine wpList_store_row rfl 66 (.tmp 5) (.tmp 66) rfl g5 (rc a6 n6 c6 e6).toArray rfl rfl 66 _ H10.out.2.2.2 (size66 _ _ _ _) rfl (all66 _ _ _ _) ?_; have H11 := show Hid (After w (w10.setRow g5 (rc a6 n6 c6 e6).toArray) ∧ RowIs (w10.setRow g5 (rc a6 n6 c6 e6).toArray) w.heap.size 25 zc ∧ RowIs (w10.setRow g5 (rc a6 n6 c6 e6).toArray) (w.heap.size + 1) 25 zc ∧ RowIs (w10.setRow g5 (rc a6 n6 c6 e6).toArray) g5 66 (rc a6 n6 c6 e6)) from ⟨Below.row H10.out.1 HG5.out.1 _, H10.out.2.1.setRow_other _ (by have := HG5.out.2; omega), H10.out.2.2.1.setRow_other _ (by have := HG5.out.2; omega), H10.out.2.2.2.setRow _⟩; revert H11; generalize w10.setRow g5 (rc a6 n6 c6 e6).toArray = w11; intro H11; have cE6 : w11.cell? ⟨g5, 1, none⟩ = some (.int .i64 (e6 : Int)) := H11.out.2.2.2.cell (j := 1) rfl; have cS6 : w11.cell? ⟨g5, 0, none⟩ = some (.slice a6 n6 c6) := H11.out.2.2.2.cell (j := 0) rfl)
    | (go_at_call 48; have _u := H9.out; clear _u; refine Calls.mono (rTextR_any a5 n5 c5 0 1024 (f4 bs) HS5.out.len HS5.out.cap HS5.out.nil HS5.out.big (by omega) w9 (HS5.out.at_ _ (HB.out.1.after H9.out.1))) ?_; rintro e w10 ⟨a6, n6, c6, e6, s6, b6, rfl, hr, ha⟩; have HS6 := show Hid (Rst (some ⟨gb, go, none⟩) bs a6 n6 c6 b6) from HS5.out.rdt hr; have H10 := show Hid (After w w10 ∧ RowIs w10 w.heap.size 25 zc ∧ RowIs w10 (w.heap.size + 1) 25 zc ∧ RowIs w10 g5 66 (rc a5 n5 c5 0)) from ⟨After.trans H9.out.1 ha, H9.out.2.1.below ha H9.out.2.1.lt, H9.out.2.2.1.below ha H9.out.2.2.1.lt, H9.out.2.2.2.below ha H9.out.2.2.2.lt⟩; have HB10 := show Hid (But g5 w8 w10) from HB9.out.trans (But.of_below ha); have he6 : e6 = 0 := hr.iff.2 ⟨rfl, HO6.out⟩; have HV6 := show Hid (s6 = gtS (f4 bs) (1024 : Nat) ∧ b6 = f5 bs) from hr.val he6; have fz6 : ((e6 : Int) == 0) = true := (by simp [he6]); have fn6 : ((e6 : Int) != 0) = false := (by simp [he6]); have HIN := show Hid (∀ W, After w W → InB W a6 n6 c6 b6) from (fun W hW => ⟨HS6.out.at_ _ (HB.out.1.after hW), HS6.out.len, HS6.out.cap, HS6.out.nil, HS6.out.big⟩); clear HS6 he6; clear ha hr)
    | (have _u := H9.out; clear _u; refine wpListG_of_run rfl (x_ld66 (x := .tmp 5) (g := g5) (a := a5) (n := n5) (c := c5) (e := 0) rfl rfl H9.out.2.2.2) ?_)
    | (have _u := H9.out; clear _u; refine wpListG_of_run rfl (x_slv (x := .tmp 59) (y := .tmp 60) (ao := a3) (a' := a5) (n := n3) (cap := c3) (k := k4) (j := n5) (c := c5) rfl rfl rfl HS3.out.nil HS3.out.cap HA5.out.1 HA5.out.2.1 HA5.out.2.2.1 HA5.out.2.2.2) ?_)
    | (go_at_call 50; refine Calls.mono (rget50_k a3 n3 c3 (f3 bs) HS3.out.len HS3.out.cap HS3.out.big w7 (HS3.out.at_ _ (HB.out.1.after H7.out.1)) HK4.out.1 HK4.out.2.1 HK4.out.2.2) ?_; rintro e w8 ⟨ad, cd, he, hhs, hbk, ha⟩; subst he; have H8 := show Hid (After w w8 ∧ RowIs w8 w.heap.size 25 zc ∧ RowIs w8 (w.heap.size + 1) 25 zc ∧ RowIs w8 g5 66 (rc a3 n3 c3 0)) from ⟨After.trans H7.out.1 ha, H7.out.2.1.below ha H7.out.2.1.lt, H7.out.2.2.1.below ha H7.out.2.2.1.lt, H7.out.2.2.2.below ha H7.out.2.2.2.lt⟩; have HD := show Hid (HS.HsAt w8 ad (HS.ghL (f3 bs) 16) ∧ ∀ x, ad = some x → x.block ≠ g5) from ⟨hhs, fun x hx => (by have := hbk x hx; have := H7.out.2.2.2.lt; omega)⟩; have cS8 : w8.cell? ⟨g5, 0, none⟩ = some (.slice a3 n3 c3) := H8.out.2.2.2.cell (j := 0) rfl; have fz8 := H8.out.2.2.2.frozen 0; have hk4 : k4 ≤ n3 := (by rw [← HK4.out.1, ← HS3.out.len]; exact (gh_ok HQ4.out).1); obtain ⟨a5, hA5⟩ : ∃ x, cutAt a3 k4 c3 = x := ⟨_, rfl⟩; obtain ⟨n5, hN5⟩ : ∃ x, n3 - k4 = x := ⟨_, rfl⟩; obtain ⟨c5, hC5⟩ : ∃ x, c3 - k4 = x := ⟨_, rfl⟩; have HS5 := show Hid (Rst (some ⟨gb, go, none⟩) bs a5 n5 c5 (f4 bs)) from (by have h := HS3.out.cut hk4 hA5 hN5 hC5; rw [← HK4.out.1] at h; exact h); have HA5 := show Hid (k4 ≤ n3 ∧ cutAt a3 k4 c3 = a5 ∧ n3 - k4 = n5 ∧ c3 - k4 = c5) from ⟨hk4, hA5, hN5, hC5⟩; clear hk4 hA5 hN5 hC5; obtain ⟨w9, hw9⟩ : ∃ w9, w8.setCell ⟨g5, 0, none⟩ (.slice a5 n5 c5) = w9 := ⟨_, rfl⟩; have H9 := show Hid (After w w9 ∧ RowIs w9 w.heap.size 25 zc ∧ RowIs w9 (w.heap.size + 1) 25 zc ∧ RowIs w9 g5 66 (rc a5 n5 c5 0)) from ⟨by rw [← hw9]; exact Below.setCell H8.out.1 (p := ⟨g5, 0, none⟩) HG5.out.1 _, by rw [← hw9]; exact H8.out.2.1.other _ _ (by have := HG5.out.2; show w.heap.size ≠ g5; omega), by rw [← hw9]; exact H8.out.2.2.1.other _ _ (by have := HG5.out.2; show w.heap.size + 1 ≠ g5; omega), by rw [← hw9]; exact H8.out.2.2.2.set 0 _⟩; have HB9 := show Hid (But g5 w8 w9) from (by rw [← hw9]; exact (But.refl g5 w8).setCell 0 _); clear ha hhs hbk)
    | (refine wpList_store_row rfl 66 (.tmp 5) (.tmp 42) rfl g5 (rc a3 n3 c3 0).toArray rfl rfl 66 _ H6.out.2.2.2 (size66 _ _ _ _) rfl (all66 _ _ _ _) ?_; have H7 := show Hid (After w (w6.setRow g5 (rc a3 n3 c3 0).toArray) ∧ RowIs (w6.setRow g5 (rc a3 n3 c3 0).toArray) w.heap.size 25 zc ∧ RowIs (w6.setRow g5 (rc a3 n3 c3 0).toArray) (w.heap.size + 1) 25 zc ∧ RowIs (w6.setRow g5 (rc a3 n3 c3 0).toArray) g5 66 (rc a3 n3 c3 0)) from ⟨Below.row H6.out.1 HG5.out.1 _, H6.out.2.1.setRow_other _ (by have := HG5.out.2; omega), H6.out.2.2.1.setRow_other _ (by have := HG5.out.2; omega), H6.out.2.2.2.setRow _⟩; revert H7; generalize w6.setRow g5 (rc a3 n3 c3 0).toArray = w7; intro H7; have cE : w7.cell? ⟨g5, 1, none⟩ = some (.int .i64 0) := H7.out.2.2.2.cell (j := 1) rfl; have cS : w7.cell? ⟨g5, 0, none⟩ = some (.slice a3 n3 c3) := H7.out.2.2.2.cell (j := 0) rfl)
    | (go_at_call 49; have _u := H5.out; clear _u; refine Calls.mono (rUintR_any a2 n2 c2 e2 MN b2 HS2.out.len HS2.out.cap HS2.out.nil w5 (HS2.out.at_ _ (HB.out.1.after H5.out.1))) ?_; rintro e w6 ⟨a3, n3, c3, e3, v3, b3, rfl, hr, ha⟩; obtain ⟨hif, hvl⟩ := okH_of HR1.out HR2.out hr; have HS3 := show Hid (Rst (some ⟨gb, go, none⟩) bs a3 n3 c3 b3) from HS2.out.rdr hr; have H6 := show Hid (After w w6 ∧ RowIs w6 w.heap.size 25 zc ∧ RowIs w6 (w.heap.size + 1) 25 zc ∧ RowIs w6 g5 66 (rc a2 n2 c2 e2)) from ⟨After.trans H5.out.1 ha, H5.out.2.1.below ha H5.out.2.1.lt, H5.out.2.2.1.below ha H5.out.2.2.1.lt, H5.out.2.2.2.below ha H5.out.2.2.2.lt⟩; obtain ⟨q1, q2, q3, q4⟩ := hvl (hif.2 HO.out); have he3 := hif.2 HO.out; subst he3; subst q4; have HV := show Hid (s1 = gtS (f0 bs) (32 : Nat) ∧ v2 = guV (f1 bs) ∧ v3 = guV (f2 bs)) from ⟨q1, q2, q3⟩; clear hif hvl q1 q2 q3; clear ha hr)
    | (have _u := H5.out; clear _u; refine wpListG_of_run rfl (x_ld66 (x := .tmp 5) (g := g5) (a := a2) (n := n2) (c := c2) (e := e2) rfl rfl H5.out.2.2.2) ?_)
    | (refine wpList_store_row rfl 66 (.tmp 5) (.tmp 37) rfl g5 (rc a2 n2 c2 e2).toArray rfl rfl 66 _ H4.out.2.2.2 (size66 _ _ _ _) rfl (all66 _ _ _ _) ?_; have H5 := show Hid (After w (w4.setRow g5 (rc a2 n2 c2 e2).toArray) ∧ RowIs (w4.setRow g5 (rc a2 n2 c2 e2).toArray) w.heap.size 25 zc ∧ RowIs (w4.setRow g5 (rc a2 n2 c2 e2).toArray) (w.heap.size + 1) 25 zc ∧ RowIs (w4.setRow g5 (rc a2 n2 c2 e2).toArray) g5 66 (rc a2 n2 c2 e2)) from ⟨Below.row H4.out.1 HG5.out.1 _, H4.out.2.1.setRow_other _ (by have := HG5.out.2; omega), H4.out.2.2.1.setRow_other _ (by have := HG5.out.2; omega), H4.out.2.2.2.setRow _⟩; revert H5; generalize w4.setRow g5 (rc a2 n2 c2 e2).toArray = w5; intro H5)
    | (go_at_call 49; have _u := H3.out; clear _u; refine Calls.mono (rUintR_any a1 n1 c1 e1 MN b1 HS1.out.len HS1.out.cap HS1.out.nil w3 (HS1.out.at_ _ (HB.out.1.after H3.out.1))) ?_; rintro e w4 ⟨a2, n2, c2, e2, v2, b2, rfl, hr, ha⟩; have HR2 := show Hid (Rdr b1 a1 n1 c1 e1 MN a2 n2 c2 e2 v2 b2) from hr; have HS2 := show Hid (Rst (some ⟨gb, go, none⟩) bs a2 n2 c2 b2) from HS1.out.rdr hr; have H4 := show Hid (After w w4 ∧ RowIs w4 w.heap.size 25 zc ∧ RowIs w4 (w.heap.size + 1) 25 zc ∧ RowIs w4 g5 66 (rc a1 n1 c1 e1)) from ⟨After.trans H3.out.1 ha, H3.out.2.1.below ha H3.out.2.1.lt, H3.out.2.2.1.below ha H3.out.2.2.1.lt, H3.out.2.2.2.below ha H3.out.2.2.2.lt⟩; clear ha hr)
    | (have _u := H3.out; clear _u; refine wpListG_of_run rfl (x_ld66 (x := .tmp 5) (g := g5) (a := a1) (n := n1) (c := c1) (e := e1) rfl rfl H3.out.2.2.2) ?_)
    | (refine wpList_store_row rfl 66 (.tmp 5) (.tmp 32) rfl g5 (rc a1 n1 c1 e1).toArray rfl rfl 66 _ H2.out.2.2.2 (size66 _ _ _ _) rfl (all66 _ _ _ _) ?_; have H3 := show Hid (After w (w2.setRow g5 (rc a1 n1 c1 e1).toArray) ∧ RowIs (w2.setRow g5 (rc a1 n1 c1 e1).toArray) w.heap.size 25 zc ∧ RowIs (w2.setRow g5 (rc a1 n1 c1 e1).toArray) (w.heap.size + 1) 25 zc ∧ RowIs (w2.setRow g5 (rc a1 n1 c1 e1).toArray) g5 66 (rc a1 n1 c1 e1)) from ⟨Below.row H2.out.1 HG5.out.1 _, H2.out.2.1.setRow_other _ (by have := HG5.out.2; omega), H2.out.2.2.1.setRow_other _ (by have := HG5.out.2; omega), H2.out.2.2.2.setRow _⟩; revert H3; generalize w2.setRow g5 (rc a1 n1 c1 e1).toArray = w3; intro H3)
    | (go_at_call 48; refine Calls.mono (rTextR_any a0 n0 c0 0 32 (f0 bs) HS0.out.len HS0.out.cap HS0.out.nil HS0.out.big (by omega) w1 (HS0.out.at_ _ (HB.out.1.after H1.out.1))) ?_; rintro e w2 ⟨a1, n1, c1, e1, s1, b1, rfl, hr, ha⟩; have HR1 := show Hid (Rdt (f0 bs) a0 n0 c0 0 32 a1 n1 c1 e1 s1 b1) from hr; have HS1 := show Hid (Rst (some ⟨gb, go, none⟩) bs a1 n1 c1 b1) from HS0.out.rdt hr; have H2 := show Hid (After w w2 ∧ RowIs w2 w.heap.size 25 zc ∧ RowIs w2 (w.heap.size + 1) 25 zc ∧ RowIs w2 g5 66 (rc a0 n0 c0 0)) from ⟨After.trans H1.out.1 ha, H1.out.2.1.below ha H1.out.2.1.lt, H1.out.2.2.1.below ha H1.out.2.2.1.lt, H1.out.2.2.2.below ha H1.out.2.2.2.lt⟩; clear ha hr)
    | (refine wpListG_of_run rfl (x_ld66 (x := .tmp 5) (g := g5) (a := a0) (n := n0) (c := c0) (e := 0) rfl rfl H1.out.2.2.2) ?_)
    | (refine wpList_store_row rfl 66 (.tmp 5) (.tmp 28) rfl w0.heap.size (rc a0 n0 c0 0).toArray rfl rfl 66 _ (RowIs.new w0 66 [.slice none 0 0, .int .i64 0]) (size66 _ _ _ _) rfl (all66 _ _ _ _) ?_; have H1 := show Hid (After w ((w0.alloc (.cells #[.slice none 0 0, .int .i64 0] 66)).setRow w0.heap.size (rc a0 n0 c0 0).toArray) ∧ RowIs ((w0.alloc (.cells #[.slice none 0 0, .int .i64 0] 66)).setRow w0.heap.size (rc a0 n0 c0 0).toArray) w.heap.size 25 zc ∧ RowIs ((w0.alloc (.cells #[.slice none 0 0, .int .i64 0] 66)).setRow w0.heap.size (rc a0 n0 c0 0).toArray) (w.heap.size + 1) 25 zc ∧ RowIs ((w0.alloc (.cells #[.slice none 0 0, .int .i64 0] 66)).setRow w0.heap.size (rc a0 n0 c0 0).toArray) w0.heap.size 66 (rc a0 n0 c0 0)) from ⟨Below.row (after_alloc H0.out.1 _) H0.out.1.size _, (H0.out.2.1.alloc _).setRow_other _ (Nat.ne_of_lt H0.out.2.1.lt), (H0.out.2.2.1.alloc _).setRow_other _ (Nat.ne_of_lt H0.out.2.2.1.lt), RowIs.setRow (RowIs.new w0 66 [.slice none 0 0, .int .i64 0]) _⟩; obtain ⟨g5, hg5⟩ : ∃ g, w0.heap.size = g := ⟨_, rfl⟩; have HG5 := show Hid (w.heap.size ≤ g5 ∧ w.heap.size + 1 < g5) from ⟨by rw [← hg5]; exact H0.out.1.size, by rw [← hg5]; exact H0.out.2.2.1.lt⟩; revert H1; generalize (w0.alloc (.cells #[.slice none 0 0, .int .i64 0] 66)).setRow w0.heap.size (rc a0 n0 c0 0).toArray = w1; rw [hg5]; intro H1; clear hg5)
    | (refine wpListG_of_run rfl (x_slv (x := .tmp 26) (y := .const (.int .i64 1)) (ao := some ⟨gb, go, none⟩) (a' := a0) (n := n) (cap := c) (k := 1) (j := n0) (c := c0) rfl rfl rfl HB.out.2.2.2.1 HB.out.2.2.1 HP.out hA0 hN0 hC0) ?_))
  refine bodyPost_ret (ret25t Tryz.results22 _ _ w.heap.size zc rfl (row_same H12.out.2.1) rfl _ rfl) rfl ?_
  exact ⟨rfl, Below.row H12.out.1 (Nat.le_refl _) _⟩

end Go.Proofs.YtgmdolpjkaajfaaGreatDoor
