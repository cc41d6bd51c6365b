/-
  Parts of this proof, one behind the other: Sha6, Cha1, Cha2, Cha3, Cha4, Cha5, Cha6.
-/
import Derived.Test.YtgeackoaghkgmaaBun15
import Derived.Test.YtgeackoaghkgmaaBun5
import Derived.Test.YtgeackoaghkgmaaBun14
import Derived.Lib.AppendStr
import Derived.Test.YtgeackoaghkgmaaBun8
import Derived.Test.YtgeackoaghkgmaaBun4

/-
  The contracts of package digest's padding and told.
-/
namespace Go.Proofs.Ytgeackoaghkgmaa
open Go.RowKit
set_option linter.unusedVariables false
set_option maxRecDepth 100000

/-- So many bytes 0. -/
def zeros8 (m : Nat) : List UInt8 := List.replicate m 0
theorem zeros8_len (m : Nat) : (zeros8 m).length = m := by simp [zeros8]
theorem owns_below {w w' : World} {base n size : Nat} {e : TypeId} {v : Value} {xs : List Value} (h : w.ownsRow base e size v n xs) (hb : Below w.heap.size w w') : w'.ownsRow base e size v n xs := by
  obtain ⟨h1, h2⟩ := h
  refine ⟨h1, ?_⟩
  rcases h2 with h2 | ⟨g, cap, cur, hv, hg, hh, r⟩
  · exact Or.inl h2
  · exact Or.inr ⟨g, cap, cur, hv, hg, by rw [hb.block g (Array.getElem?_eq_some_iff.1 hh).1]; exact hh, r⟩
theorem owns_block {w : World} {base n size : Nat} {e : TypeId} {v : Value} {xs : List Value} (h : w.ownsRow base e size v n xs) : ∀ k, v.ownBlock = some k → base ≤ k := by
  intro k hk
  rcases h.2 with ⟨rfl, _⟩ | ⟨g, cap, cur, rfl, hg, _⟩
  · cases hk
  · simp only [Value.ownBlock, Option.some.injEq] at hk; omega
/-- 'make([]byte, n, m)'. -/
theorem wpList_make8 {w : World} {ops : Array Oper} {rest : List Oper} {o : Oper} {a : Act} {Q : Exit → Act → World → Prop} (hg : o.guard = none) (l c : Operand) (ho : o.op = .makeSlice 27 l c)
    (L C : Int) (n m : Nat) (hl : a.eval l = .int .i64 L) (hc : a.eval c = .int .i64 C) (hL : L = (n : Int)) (hC : C = (m : Int)) (hnm : n ≤ m) (hm : m ≤ 140737488355328) (N : Nat) (hN : w.heap.size = N)
    (h : wpList Try.prog ops Q rest (a.put o.dst (.slice (some ⟨N, 0, none⟩) n m)) (w.alloc (.cells (cells8 (zeros8 m)).toArray 5))) : wpList Try.prog ops Q (o :: rest) a w := by
  subst hL hC hN
  obtain ⟨i0, hi, hz0, hz1, hz2⟩ := info_parts info8
  have hr := run_make (P := Try.prog) w 27 5 i0 (.int .u8 0) Try.underlying27 hi hz0 .i64 .i64 (n : Int) (m : Int) (by omega) (by omega) (by rw [hz2]; omega) (by omega)
  rw [hz1, Nat.mul_one, Int.toNat_natCast, Int.toNat_natCast] at hr
  have e : madeCells (Value.int .u8 0).cells m = (cells8 (zeros8 m)).toArray := by
    apply Array.toList_inj.1
    exact made8 m
  rw [e] at hr
  refine wpList_value hg (w' := w.alloc (.cells (cells8 (zeros8 m)).toArray 5)) ?_ h
  unfold execOp
  simp only [ho, hl, hc, Sem.run_bind, hr]
  rfl
/-- A row that is known whole, and lies from 'base' on, is owned. -/
theorem RowIs.owns {w : World} {g base n cap : Nat} {t : TypeId} {l : List Value} (h : RowIs w g t l) (hb : base ≤ g) (hc : l.length = cap) (hn : n ≤ cap) (hm : cap ≤ maxLen) : w.ownsRow base t 1 (.slice (some ⟨g, 0, none⟩) n cap) n (l.take n) := by
  refine ⟨by simp; omega, Or.inr ⟨g, cap, l.toArray, rfl, hb, h, hn, hm, by simpa using hc, by simp⟩⟩
theorem strCells_str (l : List UInt8) : Lib.strCells (str l) = cells8 l := by
  unfold Lib.strCells str cells8
  rfl

theorem padZ_lt (n : Nat) : padZ n < 64 := by unfold padZ; omega
theorem padZ_int (n : Nat) : (64 - ((n : Int) + 9) % 64) % 64 = (padZ n : Int) := by unfold padZ; omega

/-- The bytes of the first k words. -/
def toldTo (l : List Int) (k : Nat) : List UInt8 := ((l.take k).map fun v => putBig v 4).flatten
theorem toldTo_succ (l : List Int) (k : Nat) (h : k < l.length) : toldTo l (k + 1) = toldTo l k ++ putBig (l.getD k 0) 4 := by
  unfold toldTo
  rw [List.take_succ_eq_append_getElem h, List.getD_eq_getElem?_getD, List.getElem?_eq_getElem h, List.map_append, List.flatten_append]
  simp
theorem toldTo_len (l : List Int) (k : Nat) (h : k ≤ l.length) : (toldTo l k).length = 4 * k := by
  induction k with
  | zero => rfl
  | succ k ih => rw [toldTo_succ l k (by omega), List.length_append, ih (by omega), putBig4_len]; omega

end Go.Proofs.Ytgeackoaghkgmaa

/-
  The contracts of package stream's Quarter and areFit, and of the reference's Quarter.
-/
namespace Go.Proofs.Ytgeackoaghkgmaa
open Go.RowKit
set_option linter.unusedVariables false
set_option maxRecDepth 100000

/-- Four results. -/
theorem results_tmp4 {fn : Func} {t u v x : Tmp} (h : fn.results = #[.tmp t, .tmp u, .tmp v, .tmp x]) (tmps : Array Value) (P : Program) (w : World) :
    (results fn tmps).run P w = .ok (.tuple #[tmps.getD t undef, tmps.getD u undef, tmps.getD v undef, tmps.getD x undef]) w := by
  simp [results, h]

theorem stream_quarter (a b c d : Int) (w : World) (ha : W32 a) (hb : W32 b) (hc : W32 c) (hd : W32 d) :
    Calls Try.prog 64 #[.int .u32 a, .int .u32 b, .int .u32 c, .int .u32 d] w fun e w' => e = .returned (.tuple #[.int .u32 (qA a b c d), .int .u32 (qB a b c d), .int .u32 (qC a b c d), .int .u32 (qD a b c d)]) ∧ w = w' := by
  have hL : Hid (∀ (x n : Int) (w : World), W32 x → Calls Try.prog 76 #[.int .u32 x, .int .i64 n] w fun e w' => e = .returned (.int .u32 (rotl x n)) ∧ w = w') := fun x n w h => octet_left x n w h.1 h.2
  have h1 : W32 (xorI d ((a + b) % 4294967296)) := xorI_w hd (addI_w a b)
  have e1 := bxor_eq hd (show W32 ((a + b) % 4294967296) from addI_w a b)
  have D1 : Hid (rotl (xorI d ((a + b) % 4294967296)) 16 = qD1 a b d) := rfl
  have hD1 : W32 (qD1 a b d) := qD1_w hd
  have hC1 : W32 ((c + qD1 a b d) % 4294967296) := qC1_w a b c d
  have h2 : W32 (xorI b ((c + qD1 a b d) % 4294967296)) := xorI_w hb hC1
  have e2 := bxor_eq hb hC1
  have B1 : Hid (rotl (xorI b ((c + qD1 a b d) % 4294967296)) 12 = qB1 a b c d) := rfl
  have hB1 : W32 (qB1 a b c d) := qB1_w hb
  have hA2 : W32 (((a + b) % 4294967296 + qB1 a b c d) % 4294967296) := qA_w a b c d
  have h3 : W32 (xorI (qD1 a b d) (((a + b) % 4294967296 + qB1 a b c d) % 4294967296)) := xorI_w hD1 hA2
  have e3 := bxor_eq hD1 hA2
  have D2 : Hid (rotl (xorI (qD1 a b d) (((a + b) % 4294967296 + qB1 a b c d) % 4294967296)) 8 = qD a b c d) := rfl
  have hD2 : W32 (qD a b c d) := qD_w hd
  have hC2 : W32 (((c + qD1 a b d) % 4294967296 + qD a b c d) % 4294967296) := qC_w a b c d
  have h4 : W32 (xorI (qB1 a b c d) (((c + qD1 a b d) % 4294967296 + qD a b c d) % 4294967296)) := xorI_w hB1 hC2
  have e4 := bxor_eq hB1 hC2
  have B2 : Hid (rotl (xorI (qB1 a b c d) (((c + qD1 a b d) % 4294967296 + qD a b c d) % 4294967296)) 7 = qB a b c d) := rfl
  have hfin : Hid (((a + b) % 4294967296 + qB1 a b c d) % 4294967296 = qA a b c d ∧ ((c + qD1 a b d) % 4294967296 + qD a b c d) % 4294967296 = qC a b c d) := ⟨rfl, rfl⟩
  generalize qD1 a b d = d1 at *
  generalize qB1 a b c d = b1 at *
  generalize qD a b c d = d2 at *
  generalize qB a b c d = b2 at *
  go_enter Try.func64, Try.ntmps64
  go_wp2_with fail
  refine (hL.out _ _ _ h1).mono ?_
  rintro e w' ⟨rfl, rfl⟩
  rw [D1.out]
  clear D1 h1 e1
  generalize (a + b) % 4294967296 = a1 at *
  go_wp2_with fail
  refine (hL.out _ _ _ h2).mono ?_
  rintro e w' ⟨rfl, rfl⟩
  rw [B1.out]
  clear B1 h2 e2
  generalize (c + d1) % 4294967296 = c1 at *
  go_wp2_with fail
  refine (hL.out _ _ _ h3).mono ?_
  rintro e w' ⟨rfl, rfl⟩
  rw [D2.out]
  clear D2 h3 e3
  generalize (a1 + b1) % 4294967296 = a2 at *
  go_wp2_with fail
  refine (hL.out _ _ _ h4).mono ?_
  rintro e w' ⟨rfl, rfl⟩
  rw [B2.out]
  clear B2 h4 e4
  generalize (c1 + d2) % 4294967296 = c2 at *
  go_wp2
  refine bodyPost_ret (results_tmp4 rfl _ _ _) rfl ?_
  refine ⟨?_, rfl⟩
  rw [← hfin.out.1, ← hfin.out.2]
  rfl

theorem ref_quarter (a b c d : Int) (w : World) (ha : W32 a) (hb : W32 b) (hc : W32 c) (hd : W32 d) :
    Calls Try.prog 40 #[.int .u32 a, .int .u32 b, .int .u32 c, .int .u32 d] w fun e w' => e = .returned (.tuple #[.int .u32 (qA a b c d), .int .u32 (qB a b c d), .int .u32 (qC a b c d), .int .u32 (qD a b c d)]) ∧ w = w' := by
  have hL : Hid (∀ (x n : Int) (w : World), W32 x → Calls Try.prog 58 #[.int .u32 x, .int .i64 n] w fun e w' => e = .returned (.int .u32 (rotl x n)) ∧ w = w') := fun x n w h => ref_left x n w h.1 h.2
  have h1 : W32 (xorI d ((a + b) % 4294967296)) := xorI_w hd (addI_w a b)
  have e1 := bxor_eq hd (show W32 ((a + b) % 4294967296) from addI_w a b)
  have D1 : Hid (rotl (xorI d ((a + b) % 4294967296)) 16 = qD1 a b d) := rfl
  have hD1 : W32 (qD1 a b d) := qD1_w hd
  have hC1 : W32 ((c + qD1 a b d) % 4294967296) := qC1_w a b c d
  have h2 : W32 (xorI b ((c + qD1 a b d) % 4294967296)) := xorI_w hb hC1
  have e2 := bxor_eq hb hC1
  have B1 : Hid (rotl (xorI b ((c + qD1 a b d) % 4294967296)) 12 = qB1 a b c d) := rfl
  have hB1 : W32 (qB1 a b c d) := qB1_w hb
  have hA2 : W32 (((a + b) % 4294967296 + qB1 a b c d) % 4294967296) := qA_w a b c d
  have h3 : W32 (xorI (qD1 a b d) (((a + b) % 4294967296 + qB1 a b c d) % 4294967296)) := xorI_w hD1 hA2
  have e3 := bxor_eq hD1 hA2
  have D2 : Hid (rotl (xorI (qD1 a b d) (((a + b) % 4294967296 + qB1 a b c d) % 4294967296)) 8 = qD a b c d) := rfl
  have hD2 : W32 (qD a b c d) := qD_w hd
  have hC2 : W32 (((c + qD1 a b d) % 4294967296 + qD a b c d) % 4294967296) := qC_w a b c d
  have h4 : W32 (xorI (qB1 a b c d) (((c + qD1 a b d) % 4294967296 + qD a b c d) % 4294967296)) := xorI_w hB1 hC2
  have e4 := bxor_eq hB1 hC2
  have B2 : Hid (rotl (xorI (qB1 a b c d) (((c + qD1 a b d) % 4294967296 + qD a b c d) % 4294967296)) 7 = qB a b c d) := rfl
  have hfin : Hid (((a + b) % 4294967296 + qB1 a b c d) % 4294967296 = qA a b c d ∧ ((c + qD1 a b d) % 4294967296 + qD a b c d) % 4294967296 = qC a b c d) := ⟨rfl, rfl⟩
  generalize qD1 a b d = d1 at *
  generalize qB1 a b c d = b1 at *
  generalize qD a b c d = d2 at *
  generalize qB a b c d = b2 at *
  go_enter Try.func40, Try.ntmps40
  go_wp2_with fail
  refine (hL.out _ _ _ h1).mono ?_
  rintro e w' ⟨rfl, rfl⟩
  rw [D1.out]
  clear D1 h1 e1
  generalize (a + b) % 4294967296 = a1 at *
  go_wp2_with fail
  refine (hL.out _ _ _ h2).mono ?_
  rintro e w' ⟨rfl, rfl⟩
  rw [B1.out]
  clear B1 h2 e2
  generalize (c + d1) % 4294967296 = c1 at *
  go_wp2_with fail
  refine (hL.out _ _ _ h3).mono ?_
  rintro e w' ⟨rfl, rfl⟩
  rw [D2.out]
  clear D2 h3 e3
  generalize (a1 + b1) % 4294967296 = a2 at *
  go_wp2_with fail
  refine (hL.out _ _ _ h4).mono ?_
  rintro e w' ⟨rfl, rfl⟩
  rw [B2.out]
  clear B2 h4 e4
  generalize (c1 + d2) % 4294967296 = c2 at *
  go_wp2
  refine bodyPost_ret (results_tmp4 rfl _ _ _) rfl ?_
  refine ⟨?_, rfl⟩
  rw [← hfin.out.1, ← hfin.out.2]
  rfl

theorem stream_areFit (k n : ByteArray) (w : World) :
    Calls Try.prog 25 #[.string k, .string n] w fun e w' => e = .returned (.bool (decide (k.size = 32 ∧ n.size = 12))) ∧ w = w' := by
  by_cases h : k.size = 32 <;> by_cases h' : n.size = 12
  all_goals
    go_enter Try.func25, Try.ntmps25
    go_wp2
    go_ret
    exact ⟨by simp [h, h']; try omega, rfl⟩

end Go.Proofs.Ytgeackoaghkgmaa

/-
  The contract of package stream's doubleRound.
-/
namespace Go.Proofs.Ytgeackoaghkgmaa
open Go.RowKit
set_option linter.unusedVariables false
set_option maxRecDepth 100000
set_option linter.unusedSimpArgs false

theorem RowIs.has {w : World} {g : Nat} {t : TypeId} {l : List Value} (h : RowIs w g t l) {j : Nat} (hj : j < l.length) : ∃ v, w.cell? ⟨g, j, none⟩ = some v := ⟨_, h.cellAt (List.getElem?_eq_getElem hj)⟩
theorem row_set4 {w : World} {g : Nat} {t : TypeId} {s : List Int} (h : RowIs w g t (cells32 s)) (i j k m : Nat) (a b c d : Int) :
    RowIs ((((w.setCell ⟨g, i, none⟩ (.int .u32 a)).setCell ⟨g, j, none⟩ (.int .u32 b)).setCell ⟨g, k, none⟩ (.int .u32 c)).setCell ⟨g, m, none⟩ (.int .u32 d)) g t (cells32 ((((s.set i a).set j b).set k c).set m d)) := by
  have := (((h.set i (.int .u32 a)).set j (.int .u32 b)).set k (.int .u32 c)).set m (.int .u32 d)
  simpa [cells32, List.map_set] using this

/-- The operations of 's[i], s[j], s[k], s[m] = Quarter(s[i], s[j], s[k], s[m])', the slots from B on. -/
def qList (B i j k m : Nat) : List (Option Tmp × Op) :=
  [(some (B + 3), .move (.tmp 0)), (some (B + 4), .move (.tmp 0)), (some (B + 5), .move (.tmp 0)), (some (B + 6), .move (.tmp 0)),
   (some (B + 7), .move (.tmp 0)), (some (B + 8), .nilCheck (.tmp (B + 7))), (some (B + 9), .indexAddr 71 (.tmp (B + 8)) (.const (.int .i64 (i : Int)))), (some (B + 10), .load 30 (.tmp (B + 9))),
   (some (B + 11), .move (.tmp 0)), (some (B + 12), .nilCheck (.tmp (B + 11))), (some (B + 13), .indexAddr 71 (.tmp (B + 12)) (.const (.int .i64 (j : Int)))), (some (B + 14), .load 30 (.tmp (B + 13))),
   (some (B + 15), .move (.tmp 0)), (some (B + 16), .nilCheck (.tmp (B + 15))), (some (B + 17), .indexAddr 71 (.tmp (B + 16)) (.const (.int .i64 (k : Int)))), (some (B + 18), .load 30 (.tmp (B + 17))),
   (some (B + 19), .move (.tmp 0)), (some (B + 20), .nilCheck (.tmp (B + 19))), (some (B + 21), .indexAddr 71 (.tmp (B + 20)) (.const (.int .i64 (m : Int)))), (some (B + 22), .load 30 (.tmp (B + 21))),
   (some (B + 23), .call { callee := .value (.func 64), args := #[.tmp (B + 10), .tmp (B + 14), .tmp (B + 18), .tmp (B + 22)], argTypes := #[30, 30, 30, 30] }),
   (some (B + 2), .move (.tmp (B + 23))), (some (B + 24), .extract (.tmp (B + 2)) 0), (some (B + 25), .extract (.tmp (B + 2)) 1), (some (B + 26), .extract (.tmp (B + 2)) 2), (some (B + 27), .extract (.tmp (B + 2)) 3),
   (some (B + 28), .nilCheck (.tmp (B + 3))), (some (B + 29), .indexAddr 71 (.tmp (B + 28)) (.const (.int .i64 (i : Int)))), (none, .store 30 (.tmp (B + 29)) (.tmp (B + 24))),
   (some (B + 30), .nilCheck (.tmp (B + 4))), (some (B + 31), .indexAddr 71 (.tmp (B + 30)) (.const (.int .i64 (j : Int)))), (none, .store 30 (.tmp (B + 31)) (.tmp (B + 25))),
   (some (B + 32), .nilCheck (.tmp (B + 5))), (some (B + 33), .indexAddr 71 (.tmp (B + 32)) (.const (.int .i64 (k : Int)))), (none, .store 30 (.tmp (B + 33)) (.tmp (B + 26))),
   (some (B + 34), .nilCheck (.tmp (B + 6))), (some (B + 35), .indexAddr 71 (.tmp (B + 34)) (.const (.int .i64 (m : Int)))), (none, .store 30 (.tmp (B + 35)) (.tmp (B + 27)))]
def qA0 : List Nat := [0, 1, 2, 3, 4, 5, 6, 8, 9, 10, 12, 13, 14, 16, 17, 18, 26, 29, 32, 35]
def qL0 : Array Bool := Array.replicate 38 false
def qL1 : Array Bool := listAll qA0 qL0
def qL2 : Array Bool := listAll [7, 11, 15, 19] qL1
def qL3 : Array Bool := qL2.setIfInBounds 20 true
def qL4 : Array Bool := listAll [21, 22, 23, 24, 25, 27] qL3
def qL5 : Array Bool := qL4.setIfInBounds 28 true
def qL6 : Array Bool := listAll [30] qL5
def qL7 : Array Bool := qL6.setIfInBounds 31 true
def qL8 : Array Bool := listAll [33] qL7
def qL9 : Array Bool := qL8.setIfInBounds 34 true
def qLa : Array Bool := listAll [36] qL9
def qLb : Array Bool := qLa.setIfInBounds 37 true
def plainAt (ops : Array Oper) (i : Nat) : Bool := (ops[i]?).any fun o => o.guard.isNone
theorem plainAt_spec {ops : Array Oper} {i : Nat} {o : Oper} (h : plainAt ops i = true) (ho : ops[i]? = some o) : o.guard = none := by
  simpa [plainAt, ho] using h
/-- What the kernel is asked of such a region: whoever may come up, and who waits for whom. -/
def qOk (ops : Array Oper) : Bool :=
  ops.size == 38 && Region.noSelect ops && planOk .any ops qA0 qL0 && planOk .any ops [7, 11, 15, 19] qL1 && ([7, 11, 15, 19].all fun i => awaits .any ops 20 i) && Region.ready .any ops qL2 == [20] && plainAt ops 20 &&
  planOk .any ops [21, 22, 23, 24, 25, 27] qL3 && Region.ready .any ops qL4 == [28] && plainAt ops 28 && planOk .any ops [30] qL5 && Region.ready .any ops qL6 == [31] && plainAt ops 31 && planOk .any ops [33] qL7 && Region.ready .any ops qL8 == [34] && plainAt ops 34 &&
  planOk .any ops [36] qL9 && Region.ready .any ops qLa == [37] && plainAt ops 37 && Region.ready .any ops qLb == []

theorem arr16 : Try.prog.underlying 71 = some (.array 16 30) := Try.underlying71

set_option maxRecDepth 100000 in
set_option maxHeartbeats 2000000 in
theorem quarter_region {ops : Array Oper} {id : Nat} {Q : Exit → Act → World → Prop} (B i j k m : Nat) (hi : i < 16) (hj : j < 16) (hk : k < 16) (hm : m < 16) (hops : kinds ops = qList B i j k m) (hok : qOk ops = true)
    (hQ : ∀ c a d v w, Q (.panic c) (a.put d v) w → Q (.panic c) a w) (g : Nat) (s : List Int) (w : World) (a : Act) (hl : s.length = 16) (hw : allW s) (hr : RowIs w g 71 (cells32 s))
    (hB : ∀ n, n < 36 → B + n < a.tmps.size) (h0 : a.eval (.tmp 0) = .pointer (some ⟨g, 0, none⟩))
    (K : ∀ b w', b.tmps.size = a.tmps.size → b.eval (.tmp 0) = .pointer (some ⟨g, 0, none⟩) → b.defers = a.defers → RowIs w' g 71 (cells32 (qAt s i j k m)) → Upon g w w' → Q .normal b w') :
    (Code.region id ops true).wp Try.prog Q a w := by
  simp only [qOk, Bool.and_eq_true, beq_iff_eq] at hok
  obtain ⟨⟨⟨⟨⟨⟨⟨⟨⟨⟨⟨⟨⟨⟨⟨⟨⟨⟨⟨o1, o2⟩, o3⟩, o4⟩, o5⟩, o6⟩, o7⟩, o8⟩, o9⟩, oa⟩, ob⟩, oc'⟩, od⟩, oe⟩, of⟩, og⟩, oh⟩, oi⟩, oj⟩, ok⟩ := hok
  have hlen : (cells32 s).length = 16 := by rw [cells32_len, hl]
  have hr0 := hr.drew
  have ci := hr0.cellAt (cells32_at s i (by omega))
  have cj := hr0.cellAt (cells32_at s j (by omega))
  have ck := hr0.cellAt (cells32_at s k (by omega))
  have cm := hr0.cellAt (cells32_at s m (by omega))
  have wi := getD_w' hw i
  have wj := getD_w' hw j
  have wk := getD_w' hw k
  have wm := getD_w' hw m
  have hu := hr0
  have K' : ∀ b w', b.tmps.size = a.tmps.size → b.eval (.tmp 0) = .pointer (some ⟨g, 0, none⟩) → b.defers = a.defers → RowIs w' g 71 (cells32 ((((s.set i (qA (s.getD i 0) (s.getD j 0) (s.getD k 0) (s.getD m 0))).set j (qB (s.getD i 0) (s.getD j 0) (s.getD k 0) (s.getD m 0))).set k (qC (s.getD i 0) (s.getD j 0) (s.getD k 0) (s.getD m 0))).set m (qD (s.getD i 0) (s.getD j 0) (s.getD k 0) (s.getD m 0)))) → Upon g w w' → Q .normal b w' := K
  clear K
  generalize s.getD i 0 = xi at *
  generalize s.getD j 0 = xj at *
  generalize s.getD k 0 = xk at *
  generalize s.getD m 0 = xm at *
  have u0 : Upon g w w.drew := (Upon.refl g w).drew
  generalize hw0 : w.drew = w0 at *
  have hq := stream_quarter xi xj xk xm w0 wi wj wk wm
  generalize qA xi xj xk xm = ya at *
  generalize qB xi xj xk xm = yb at *
  generalize qC xi xj xk xm = yc at *
  generalize qD xi xj xk xm = yd at *
  have HC : Hid (∀ w : World, (callFunc 64 #[.int .u32 xi, .int .u32 xj, .int .u32 xk, .int .u32 xm]).run Try.prog w = .ok (.enter 64 #[.int .u32 xi, .int .u32 xj, .int .u32 xk, .int .u32 xm]) w) := fun w => by simp [go_sem]
  have hB0 := hB
  obtain ⟨p, hp⟩ : ∃ p : Value, p = .pointer (some ⟨g, 0, none⟩) := ⟨_, rfl⟩
  have idx : ∀ (a : Act) (o : Oper) (x : Operand) (n : Nat), n < 16 → o.op = .indexAddr 71 x (.const (.int .i64 (n : Int))) → a.eval x = p → ∀ w, (execOp a.eval o).run Try.prog w = .ok (.value (.pointer (some ⟨g, n, none⟩))) w := by
    intro a o x n hn ho hx w
    have := run_index' ho (hx.trans hp) rfl hn arr16 cells30 w
    rwa [Nat.zero_add] at this
  have nil : ∀ (a : Act) (o : Oper) (x : Operand), o.op = .nilCheck x → a.eval x = p → ∀ w, (execOp a.eval o).run Try.prog w = .ok (.value p) w := by
    intro a o x ho hx w
    rw [hp]
    exact run_nil' ho (hx.trans hp) w
  have h0' : a.eval (.tmp 0) = p := h0.trans hp.symm
  have hA : ∃ b, Chain Try.prog ops (fun _ => True) [(0, p), (1, p), (2, p), (3, p), (4, p), (5, p), (6, .pointer (some ⟨g, i, none⟩)), (8, p), (9, p), (10, .pointer (some ⟨g, j, none⟩)), (12, p), (13, p), (14, .pointer (some ⟨g, k, none⟩)), (16, p), (17, p), (18, .pointer (some ⟨g, m, none⟩)), (26, p), (29, p), (32, p), (35, p)] a b ∧ b.tmps.size = a.tmps.size ∧ b.defers = a.defers ∧ b.eval (.tmp 0) = p ∧ b.eval (.tmp (B + 9)) = .pointer (some ⟨g, i, none⟩) ∧ b.eval (.tmp (B + 13)) = .pointer (some ⟨g, j, none⟩) ∧ b.eval (.tmp (B + 17)) = .pointer (some ⟨g, k, none⟩) ∧ b.eval (.tmp (B + 21)) = .pointer (some ⟨g, m, none⟩) ∧ b.eval (.tmp (B + 28)) = p ∧ b.eval (.tmp (B + 30)) = p ∧ b.eval (.tmp (B + 32)) = p ∧ b.eval (.tmp (B + 34)) = p := by
    refine Chain.exCons hops rfl (fun o ho w _ => run_move' ho h0' w) ?_
    refine Chain.exCons hops rfl (fun o ho w _ => run_move' ho (by simp [eval_put, size_put, hB, h0']) w) ?_
    refine Chain.exCons hops rfl (fun o ho w _ => run_move' ho (by simp [eval_put, size_put, hB, h0']) w) ?_
    refine Chain.exCons hops rfl (fun o ho w _ => run_move' ho (by simp [eval_put, size_put, hB, h0']) w) ?_
    refine Chain.exCons hops rfl (fun o ho w _ => run_move' ho (by simp [eval_put, size_put, hB, h0']) w) ?_
    refine Chain.exCons hops rfl (fun o ho w _ => nil _ o _ ho (by simp [eval_put, size_put, hB, h0']) w) ?_
    refine Chain.exCons hops rfl (fun o ho w _ => idx _ o _ i hi ho (by simp [eval_put, size_put, hB, h0']) w) ?_
    refine Chain.exCons hops rfl (fun o ho w _ => run_move' ho (by simp [eval_put, size_put, hB, h0']) w) ?_
    refine Chain.exCons hops rfl (fun o ho w _ => nil _ o _ ho (by simp [eval_put, size_put, hB, h0']) w) ?_
    refine Chain.exCons hops rfl (fun o ho w _ => idx _ o _ j hj ho (by simp [eval_put, size_put, hB, h0']) w) ?_
    refine Chain.exCons hops rfl (fun o ho w _ => run_move' ho (by simp [eval_put, size_put, hB, h0']) w) ?_
    refine Chain.exCons hops rfl (fun o ho w _ => nil _ o _ ho (by simp [eval_put, size_put, hB, h0']) w) ?_
    refine Chain.exCons hops rfl (fun o ho w _ => idx _ o _ k hk ho (by simp [eval_put, size_put, hB, h0']) w) ?_
    refine Chain.exCons hops rfl (fun o ho w _ => run_move' ho (by simp [eval_put, size_put, hB, h0']) w) ?_
    refine Chain.exCons hops rfl (fun o ho w _ => nil _ o _ ho (by simp [eval_put, size_put, hB, h0']) w) ?_
    refine Chain.exCons hops rfl (fun o ho w _ => idx _ o _ m hm ho (by simp [eval_put, size_put, hB, h0']) w) ?_
    refine Chain.exCons hops rfl (fun o ho w _ => nil _ o _ ho (by simp [eval_put, size_put, hB, h0']) w) ?_
    refine Chain.exCons hops rfl (fun o ho w _ => nil _ o _ ho (by simp [eval_put, size_put, hB, h0']) w) ?_
    refine Chain.exCons hops rfl (fun o ho w _ => nil _ o _ ho (by simp [eval_put, size_put, hB, h0']) w) ?_
    refine Chain.exCons hops rfl (fun o ho w _ => nil _ o _ ho (by simp [eval_put, size_put, hB, h0']) w) ?_
    refine Chain.exNil ⟨?_, ?_, ?_, ?_, ?_, ?_, ?_, ?_, ?_, ?_, ?_⟩
    all_goals simp [eval_put, size_put, defers_put, hB, h0']
  obtain ⟨b, hA, s1, d1, e0, ei, ej, ek, em, f1, f2, f3, f4⟩ := hA
  have hB1 : ∀ n, n < 36 → B + n < b.tmps.size := by rw [s1]; exact hB
  have hT : w0.cell? ⟨g, i, none⟩ = some (.int .u32 xi) ∧ w0.cell? ⟨g, j, none⟩ = some (.int .u32 xj) ∧ w0.cell? ⟨g, k, none⟩ = some (.int .u32 xk) ∧ w0.cell? ⟨g, m, none⟩ = some (.int .u32 xm) := ⟨ci, cj, ck, cm⟩
  refine wp_region_T (n := 38) (fun _ => True) (fun w => w.cell? ⟨g, i, none⟩ = some (.int .u32 xi) ∧ w.cell? ⟨g, j, none⟩ = some (.int .u32 xj) ∧ w.cell? ⟨g, k, none⟩ = some (.int .u32 xk) ∧ w.cell? ⟨g, m, none⟩ = some (.int .u32 xm)) 20 (by kernel_rfl) o1 ?_
  rw [hw0]
  refine wpAnyT_takesS (T := fun w => w.cell? ⟨g, i, none⟩ = some (.int .u32 xi) ∧ w.cell? ⟨g, j, none⟩ = some (.int .u32 xj) ∧ w.cell? ⟨g, k, none⟩ = some (.int .u32 xk) ∧ w.cell? ⟨g, m, none⟩ = some (.int .u32 xm)) o2 hQ _ 18 _ a b _ o3 rfl hA True.intro hT ?_
  have hL : ∃ b', Chain Try.prog ops (fun w => True ∧ (w.cell? ⟨g, i, none⟩ = some (.int .u32 xi) ∧ w.cell? ⟨g, j, none⟩ = some (.int .u32 xj) ∧ w.cell? ⟨g, k, none⟩ = some (.int .u32 xk) ∧ w.cell? ⟨g, m, none⟩ = some (.int .u32 xm))) [(7, .int .u32 xi), (11, .int .u32 xj), (15, .int .u32 xk), (19, .int .u32 xm)] b b' ∧ b'.tmps.size = a.tmps.size ∧ b'.defers = a.defers ∧ b'.eval (.tmp 0) = p ∧ b'.eval (.tmp (B + 10)) = .int .u32 xi ∧ b'.eval (.tmp (B + 14)) = .int .u32 xj ∧ b'.eval (.tmp (B + 18)) = .int .u32 xk ∧ b'.eval (.tmp (B + 22)) = .int .u32 xm ∧ b'.eval (.tmp (B + 28)) = p ∧ b'.eval (.tmp (B + 30)) = p ∧ b'.eval (.tmp (B + 32)) = p ∧ b'.eval (.tmp (B + 34)) = p := by
    refine Chain.exCons hops rfl (fun o ho w hw => run_load' ho (by simp [eval_put, size_put, hB1, ei, ej, ek, em]) Try.underlying30 w hw.2.1) ?_
    refine Chain.exCons hops rfl (fun o ho w hw => run_load' ho (by simp [eval_put, size_put, hB1, ei, ej, ek, em]) Try.underlying30 w hw.2.2.1) ?_
    refine Chain.exCons hops rfl (fun o ho w hw => run_load' ho (by simp [eval_put, size_put, hB1, ei, ej, ek, em]) Try.underlying30 w hw.2.2.2.1) ?_
    refine Chain.exCons hops rfl (fun o ho w hw => run_load' ho (by simp [eval_put, size_put, hB1, ei, ej, ek, em]) Try.underlying30 w hw.2.2.2.2) ?_
    refine Chain.exNil ⟨?_, ?_, ?_, ?_, ?_, ?_, ?_, ?_, ?_, ?_, ?_⟩
    all_goals simp [eval_put, size_put, defers_put, hB0, s1, d1, e0, f1, f2, f3, f4]
  clear ei ej ek em e0 f1 f2 f3 f4 hB1 hA
  obtain ⟨c, hL, s2, d2, e0, ei, ej, ek, em, f1, f2, f3, f4⟩ := hL
  clear s1 d1
  refine wpAnyT_takesT (T := fun w => w.cell? ⟨g, i, none⟩ = some (.int .u32 xi) ∧ w.cell? ⟨g, j, none⟩ = some (.int .u32 xj) ∧ w.cell? ⟨g, k, none⟩ = some (.int .u32 xk) ∧ w.cell? ⟨g, m, none⟩ = some (.int .u32 xm)) o2 hQ _ 14 _ b c _ o4 o5 hL True.intro hT ?_
  obtain ⟨oc, hoc, hd, hx⟩ := kinds_at hops (i := 20) rfl
  refine wpAnyT_call o6 hoc (plainAt_spec o7 hoc) ?_
  refine wp_call' hx (vs := #[.int .u32 xi, .int .u32 xj, .int .u32 xk, .int .u32 xm]) (by simp [ei, ej, ek, em]) (HC.out w0) (hq.mono (fun e w'' h => ⟨h.1, h.2.symm⟩)) ⟨True.intro, ?_⟩
  rw [hd]
  have hB2 : ∀ n, n < 36 → B + n < (c.put (some (B + 23)) (.tuple #[.int .u32 ya, .int .u32 yb, .int .u32 yc, .int .u32 yd])).tmps.size := by rw [size_put, s2]; exact hB
  have s3 : (c.put (some (B + 23)) (.tuple #[.int .u32 ya, .int .u32 yb, .int .u32 yc, .int .u32 yd])).tmps.size = a.tmps.size := by rw [size_put, s2]
  have d3 : (c.put (some (B + 23)) (.tuple #[.int .u32 ya, .int .u32 yb, .int .u32 yc, .int .u32 yd])).defers = a.defers := by rw [defers_put, d2]
  have t3 : (c.put (some (B + 23)) (.tuple #[.int .u32 ya, .int .u32 yb, .int .u32 yc, .int .u32 yd])).eval (.tmp (B + 23)) = (.tuple #[.int .u32 ya, .int .u32 yb, .int .u32 yc, .int .u32 yd]) := by simp [eval_put, s2, hB]
  have z0 : (c.put (some (B + 23)) (.tuple #[.int .u32 ya, .int .u32 yb, .int .u32 yc, .int .u32 yd])).eval (.tmp 0) = p := by simp [eval_put, e0, f1, f2, f3, f4]
  have z1 : (c.put (some (B + 23)) (.tuple #[.int .u32 ya, .int .u32 yb, .int .u32 yc, .int .u32 yd])).eval (.tmp (B + 28)) = p := by simp [eval_put, e0, f1, f2, f3, f4]
  have z2 : (c.put (some (B + 23)) (.tuple #[.int .u32 ya, .int .u32 yb, .int .u32 yc, .int .u32 yd])).eval (.tmp (B + 30)) = p := by simp [eval_put, e0, f1, f2, f3, f4]
  have z3 : (c.put (some (B + 23)) (.tuple #[.int .u32 ya, .int .u32 yb, .int .u32 yc, .int .u32 yd])).eval (.tmp (B + 32)) = p := by simp [eval_put, e0, f1, f2, f3, f4]
  have z4 : (c.put (some (B + 23)) (.tuple #[.int .u32 ya, .int .u32 yb, .int .u32 yc, .int .u32 yd])).eval (.tmp (B + 34)) = p := by simp [eval_put, e0, f1, f2, f3, f4]
  clear hB s2 d2 e0 ei ej ek em f1 f2 f3 f4 hx hd hL h0 h0'
  generalize c.put (some (B + 23)) (.tuple #[.int .u32 ya, .int .u32 yb, .int .u32 yc, .int .u32 yd]) = d at *
  have hE : ∃ b', Chain Try.prog ops (fun _ => True) [(21, .tuple #[.int .u32 ya, .int .u32 yb, .int .u32 yc, .int .u32 yd]), (22, .int .u32 ya), (23, .int .u32 yb), (24, .int .u32 yc), (25, .int .u32 yd), (27, .pointer (some ⟨g, i, none⟩))] d b' ∧ b'.tmps.size = a.tmps.size ∧ b'.defers = a.defers ∧ b'.eval (.tmp 0) = p ∧ b'.eval (.tmp (B + 29)) = .pointer (some ⟨g, i, none⟩) ∧ b'.eval (.tmp (B + 24)) = .int .u32 ya ∧ b'.eval (.tmp (B + 25)) = .int .u32 yb ∧ b'.eval (.tmp (B + 26)) = .int .u32 yc ∧ b'.eval (.tmp (B + 27)) = .int .u32 yd ∧ b'.eval (.tmp (B + 30)) = p ∧ b'.eval (.tmp (B + 32)) = p ∧ b'.eval (.tmp (B + 34)) = p := by
    refine Chain.exCons hops rfl (fun o ho w _ => run_move' ho t3 w) ?_
    refine Chain.exCons hops rfl (fun o ho w _ => run_extract' ho (vs := #[.int .u32 ya, .int .u32 yb, .int .u32 yc, .int .u32 yd]) (by simp [eval_put, size_put, hB2, t3, z1]) rfl w) ?_
    refine Chain.exCons hops rfl (fun o ho w _ => run_extract' ho (vs := #[.int .u32 ya, .int .u32 yb, .int .u32 yc, .int .u32 yd]) (by simp [eval_put, size_put, hB2, t3, z1]) rfl w) ?_
    refine Chain.exCons hops rfl (fun o ho w _ => run_extract' ho (vs := #[.int .u32 ya, .int .u32 yb, .int .u32 yc, .int .u32 yd]) (by simp [eval_put, size_put, hB2, t3, z1]) rfl w) ?_
    refine Chain.exCons hops rfl (fun o ho w _ => run_extract' ho (vs := #[.int .u32 ya, .int .u32 yb, .int .u32 yc, .int .u32 yd]) (by simp [eval_put, size_put, hB2, t3, z1]) rfl w) ?_
    refine Chain.exCons hops rfl (fun o ho w _ => idx _ o _ i hi ho (by simp [eval_put, size_put, hB2, t3, z1]) w) ?_
    refine Chain.exNil ⟨?_, ?_, ?_, ?_, ?_, ?_, ?_, ?_, ?_, ?_, ?_⟩
    all_goals simp [eval_put, size_put, defers_put, hB0, s3, d3, z0, z2, z3, z4]
  obtain ⟨e1, hE, s4, d4, z0', g0, ga, gb, gc, gd, z2', z3', z4'⟩ := hE
  refine wpAnyH_takes o2 hQ _ 7 _ d e1 _ o8 hE True.intro ?_
  clear hE hB2 s3 d3 t3 z0 z1 z2 z3 z4
  have hB3 : ∀ n, n < 36 → B + n < e1.tmps.size := by rw [s4]; exact hB0
  obtain ⟨v1, c1⟩ := hr0.has (j := i) (by omega)
  obtain ⟨q1, hq1, hd1, hx1⟩ := kinds_at hops (i := 28) rfl
  refine wpAnyH_step o9 hq1 (plainAt_spec oa hq1) (wp_store' hx1 hd1 g0 ga cells30 c1 (hr0.frozen _) ⟨True.intro, ?_⟩)
  have r1 := hr0.set i (.int .u32 ya)
  refine wpAnyH_takes o2 hQ [(30, .pointer (some ⟨g, j, none⟩))] 5 _ e1 _ _ ob (.cons hops rfl (fun o ho w _ => idx _ o _ j hj ho z2' w) .nil) True.intro ?_
  obtain ⟨v2, c2⟩ := r1.has (j := j) (by rw [List.length_set]; omega)
  obtain ⟨q2, hq2, hd2, hx2⟩ := kinds_at hops (i := 31) rfl
  refine wpAnyH_step oc' hq2 (plainAt_spec od hq2) (wp_store' (k := .u32) (n := yb) (p := ⟨g, j, none⟩) hx2 hd2 (by simp [eval_put, hB3]) (by simp [eval_put, gb]) cells30 c2 (r1.frozen _) ⟨True.intro, ?_⟩)
  have r2 := r1.set j (.int .u32 yb)
  refine wpAnyH_takes o2 hQ [(33, .pointer (some ⟨g, k, none⟩))] 3 _ _ _ _ oe (.cons hops rfl (fun o ho w _ => idx _ o _ k hk ho (by simp [eval_put, z3']) w) .nil) True.intro ?_
  obtain ⟨v3, c3⟩ := r2.has (j := k) (by rw [List.length_set, List.length_set]; omega)
  obtain ⟨q3, hq3, hd3, hx3⟩ := kinds_at hops (i := 34) rfl
  refine wpAnyH_step of hq3 (plainAt_spec og hq3) (wp_store' (k := .u32) (n := yc) (p := ⟨g, k, none⟩) hx3 hd3 (by simp [eval_put, size_put, hB3]) (by simp [eval_put, gc]) cells30 c3 (r2.frozen _) ⟨True.intro, ?_⟩)
  have r3 := r2.set k (.int .u32 yc)
  refine wpAnyH_takes o2 hQ [(36, .pointer (some ⟨g, m, none⟩))] 1 _ _ _ _ oh (.cons hops rfl (fun o ho w _ => idx _ o _ m hm ho (by simp [eval_put, z4']) w) .nil) True.intro ?_
  obtain ⟨v4, c4⟩ := r3.has (j := m) (by rw [List.length_set, List.length_set, List.length_set]; omega)
  obtain ⟨q4, hq4, hd4, hx4⟩ := kinds_at hops (i := 37) rfl
  refine wpAnyH_step oi hq4 (plainAt_spec oj hq4) (wp_store' (k := .u32) (n := yd) (p := ⟨g, m, none⟩) hx4 hd4 (by simp [eval_put, size_put, hB3]) (by simp [eval_put, gd]) cells30 c4 (r3.frozen _) ⟨True.intro, ?_⟩)
  refine ⟨ok, K' _ _ (by simp [size_put, s4]) (by simp [eval_put, z0', hp]) (by simp [defers_put, d4]) (row_set4 hr0 i j k m ya yb yc yd) ((((u0.setCell i _).setCell j _).setCell k _).setCell m _)⟩
end Go.Proofs.Ytgeackoaghkgmaa

/-
  The contract of package stream's doubleRound: its eight regions in a row.
-/
namespace Go.Proofs.Ytgeackoaghkgmaa
open Go.RowKit
set_option linter.unusedVariables false
set_option maxRecDepth 100000

set_option maxRecDepth 100000 in
set_option maxHeartbeats 2000000 in
theorem stream_doubleRound (g : Nat) (s : List Int) (w : World) (hl : s.length = 16) (hw : allW s) (hr : RowIs w g 71 (cells32 s)) :
    Calls Try.prog 48 #[.pointer (some ⟨g, 0, none⟩)] w fun e w' => e = .returned (.tuple #[]) ∧ RowIs w' g 71 (cells32 (dblTo s 8)) ∧ Upon g w w' := by
  go_enter Try.func48, Try.ntmps48
  have u0 : Upon g w w := Upon.refl g w
  have r0 : RowIs w g 71 (cells32 (dblTo s 0)) := hr
  refine wp_seq (quarter_region 0 0 4 8 12 (by decide) (by decide) (by decide) (by decide) (by kernel_rfl) (by kernel_rfl) (fun _ _ d _ _ h => by cases d <;> exact h) g (dblTo s 0) _ _ (by rw [dblTo_len, hl]) (dblTo_w hw 0) r0 (fun n hn => by show 0 + n < 274; omega) rfl ?_)
  intro b1 w1 z1 e1 d1 r1 u1
  replace z1 : b1.tmps.size = 274 := z1
  replace d1 : b1.defers = [] := d1
  replace r1 : RowIs w1 g 71 (cells32 (dblTo s 1)) := r1
  replace u1 := u0.trans u1
  show Code.wp _ _ _ b1 w1
  refine wp_seq (quarter_region 34 1 5 9 13 (by decide) (by decide) (by decide) (by decide) (by kernel_rfl) (by kernel_rfl) (fun _ _ d _ _ h => by cases d <;> exact h) g (dblTo s 1) _ _ (by rw [dblTo_len, hl]) (dblTo_w hw 1) r1 (fun n hn => by rw [z1]; omega) e1 ?_)
  intro b2 w2 z2 e2 d2 r2 u2
  replace z2 : b2.tmps.size = 274 := z2.trans z1
  replace d2 : b2.defers = [] := d2.trans d1
  replace r2 : RowIs w2 g 71 (cells32 (dblTo s 2)) := r2
  replace u2 := u1.trans u2
  clear z1 e1 d1 r1 u1
  show Code.wp _ _ _ b2 w2
  refine wp_seq (quarter_region 68 2 6 10 14 (by decide) (by decide) (by decide) (by decide) (by kernel_rfl) (by kernel_rfl) (fun _ _ d _ _ h => by cases d <;> exact h) g (dblTo s 2) _ _ (by rw [dblTo_len, hl]) (dblTo_w hw 2) r2 (fun n hn => by rw [z2]; omega) e2 ?_)
  intro b3 w3 z3 e3 d3 r3 u3
  replace z3 : b3.tmps.size = 274 := z3.trans z2
  replace d3 : b3.defers = [] := d3.trans d2
  replace r3 : RowIs w3 g 71 (cells32 (dblTo s 3)) := r3
  replace u3 := u2.trans u3
  clear z2 e2 d2 r2 u2
  show Code.wp _ _ _ b3 w3
  refine wp_seq (quarter_region 102 3 7 11 15 (by decide) (by decide) (by decide) (by decide) (by kernel_rfl) (by kernel_rfl) (fun _ _ d _ _ h => by cases d <;> exact h) g (dblTo s 3) _ _ (by rw [dblTo_len, hl]) (dblTo_w hw 3) r3 (fun n hn => by rw [z3]; omega) e3 ?_)
  intro b4 w4 z4 e4 d4 r4 u4
  replace z4 : b4.tmps.size = 274 := z4.trans z3
  replace d4 : b4.defers = [] := d4.trans d3
  replace r4 : RowIs w4 g 71 (cells32 (dblTo s 4)) := r4
  replace u4 := u3.trans u4
  clear z3 e3 d3 r3 u3
  show Code.wp _ _ _ b4 w4
  refine wp_seq (quarter_region 136 0 5 10 15 (by decide) (by decide) (by decide) (by decide) (by kernel_rfl) (by kernel_rfl) (fun _ _ d _ _ h => by cases d <;> exact h) g (dblTo s 4) _ _ (by rw [dblTo_len, hl]) (dblTo_w hw 4) r4 (fun n hn => by rw [z4]; omega) e4 ?_)
  intro b5 w5 z5 e5 d5 r5 u5
  replace z5 : b5.tmps.size = 274 := z5.trans z4
  replace d5 : b5.defers = [] := d5.trans d4
  replace r5 : RowIs w5 g 71 (cells32 (dblTo s 5)) := r5
  replace u5 := u4.trans u5
  clear z4 e4 d4 r4 u4
  show Code.wp _ _ _ b5 w5
  refine wp_seq (quarter_region 170 1 6 11 12 (by decide) (by decide) (by decide) (by decide) (by kernel_rfl) (by kernel_rfl) (fun _ _ d _ _ h => by cases d <;> exact h) g (dblTo s 5) _ _ (by rw [dblTo_len, hl]) (dblTo_w hw 5) r5 (fun n hn => by rw [z5]; omega) e5 ?_)
  intro b6 w6 z6 e6 d6 r6 u6
  replace z6 : b6.tmps.size = 274 := z6.trans z5
  replace d6 : b6.defers = [] := d6.trans d5
  replace r6 : RowIs w6 g 71 (cells32 (dblTo s 6)) := r6
  replace u6 := u5.trans u6
  clear z5 e5 d5 r5 u5
  show Code.wp _ _ _ b6 w6
  refine wp_seq (quarter_region 204 2 7 8 13 (by decide) (by decide) (by decide) (by decide) (by kernel_rfl) (by kernel_rfl) (fun _ _ d _ _ h => by cases d <;> exact h) g (dblTo s 6) _ _ (by rw [dblTo_len, hl]) (dblTo_w hw 6) r6 (fun n hn => by rw [z6]; omega) e6 ?_)
  intro b7 w7 z7 e7 d7 r7 u7
  replace z7 : b7.tmps.size = 274 := z7.trans z6
  replace d7 : b7.defers = [] := d7.trans d6
  replace r7 : RowIs w7 g 71 (cells32 (dblTo s 7)) := r7
  replace u7 := u6.trans u7
  clear z6 e6 d6 r6 u6
  show Code.wp _ _ _ b7 w7
  refine quarter_region 238 3 4 9 14 (by decide) (by decide) (by decide) (by decide) (by kernel_rfl) (by kernel_rfl) (fun _ _ d _ _ h => by cases d <;> exact h) g (dblTo s 7) _ _ (by rw [dblTo_len, hl]) (dblTo_w hw 7) r7 (fun n hn => by rw [z7]; omega) e7 ?_
  intro b8 w8 z8 e8 d8 r8 u8
  replace z8 : b8.tmps.size = 274 := z8.trans z7
  replace d8 : b8.defers = [] := d8.trans d7
  replace r8 : RowIs w8 g 71 (cells32 (dblTo s 8)) := r8
  replace u8 := u7.trans u8
  clear z7 e7 d7 r7 u7
  exact bodyPost_end (results_none rfl _ _ _) d8 ⟨rfl, r8, u8⟩

end Go.Proofs.Ytgeackoaghkgmaa

/-
  The contracts of package stream's putWords and firstState.
-/
namespace Go.Proofs.Ytgeackoaghkgmaa
open Go.RowKit
set_option linter.unusedVariables false
set_option maxRecDepth 100000

/-- Words laid into a list from place o on. -/
def fillTo (l : List Int) (o : Nat) (b : ByteArray) (k : Nat) : List Int := l.take o ++ wordsTo b k ++ l.drop (o + k)
theorem fillTo_len (l : List Int) (o : Nat) (b : ByteArray) (k : Nat) (h : o + k ≤ l.length) : (fillTo l o b k).length = l.length := by
  simp [fillTo, wordsTo_len]; omega
theorem fillTo_succ (l : List Int) (o : Nat) (b : ByteArray) (k : Nat) (h : o + k < l.length) : (fillTo l o b k).set (o + k) (wordAt b k) = fillTo l o b (k + 1) := by
  unfold fillTo
  rw [wordsTo_succ, List.set_append_right _ _ (by simp [wordsTo_len]; omega), List.drop_eq_getElem_cons h]
  have e : o + k - (l.take o ++ wordsTo b k).length = 0 := by simp [wordsTo_len]; omega
  rw [e]
  simp [Nat.add_assoc]
theorem cells32_set (l : List Int) (j : Nat) (v : Int) : (cells32 l).set j (.int .u32 v) = cells32 (l.set j v) := by simp [cells32, List.map_set]

theorem slice_word (b : ByteArray) (k : Nat) (h : 4 * k + 4 ≤ b.size) (x y : Int) (hx : x = 4 * (k : Int)) (hy : y = 4 * (k : Int) + 4) (w : World) :
    (Instr.slice 9 (.string b) (some (.int .i64 x)) (some (.int .i64 y)) none).run Try.prog w = .ok (.string (b.extract (4 * k) (4 * k + 4))) w := by
  subst hx hy
  rw [run_slice_string (P := Try.prog) w 9 b .i64 .i64 _ _ Try.underlying9 (by omega) (by omega) (by omega)]
  rw [show (4 * (k : Int)).toNat = 4 * k from by omega, show (4 * (k : Int) + 4).toNat = 4 * k + 4 from by omega]

set_option maxHeartbeats 1000000 in
theorem stream_putWords (g o n cap : Nat) (l : List Int) (b : ByteArray) (w : World) (hl : l.length = 16) (hon : o + n ≤ 16) (hb : b.size = 4 * n) (hr : RowIs w g 71 (cells32 l)) :
    Calls Try.prog 63 #[.slice (some ⟨g, o, none⟩) n cap, .string b] w fun e w' => e = .returned (.tuple #[]) ∧ RowIs w' g 71 (cells32 (fillTo l o b n)) ∧ Upon g w w' := by
  have r0 : RowIs w g 71 (cells32 (fillTo l o b 0)) := by
    have : fillTo l o b 0 = l := by simp [fillTo, wordsTo]
    rw [this]; exact hr
  have HL : Hid (∀ (s : ByteArray) (w : World), s.size ≤ maxLen → Calls Try.prog 67 #[.string s] w fun e w' => e = .returned (.int .u64 (littleS s)) ∧ w = w') := octet_little
  go_enter Try.func63, Try.ntmps63
  go_wp2
  go_loopw [7] (fun i wr => ∃ k : Nat, k ≤ n ∧ i = .int .i64 k ∧ RowIs wr g 71 (cells32 (fillTo l o b k)) ∧ Upon g w wr) (fun i _ => n - (intOf i).toNat)
  case atStart => exact ⟨0, Nat.zero_le _, rfl, r0, Upon.refl g w⟩
  case round =>
    clear r0 hr
    obtain ⟨k, hk, rfl, hrow, hup⟩ := hrel
    by_cases hlt : k < n
    · obtain ⟨v, hc⟩ := hrow.has (j := o + k) (by rw [cells32_len, fillTo_len l o b k (by omega)]; omega)
      have hfz := hrow.frozen (o + k)
      have hsl := slice_word b k (by omega) (4 * (k : Int)) (4 * ((k : Int) + 1)) rfl (by omega)
      have hsz : (b.extract (4 * k) (4 * k + 4)).size ≤ maxLen := by unfold maxLen; simp; omega
      have HS : Hid (RowIs (wr.setCell ⟨g, o + k, none⟩ (.int .u32 (littleS (b.extract (4 * k) (4 * k + 4)) % 4294967296))) g 71 (cells32 (fillTo l o b (k + 1)))) := by
        have := hrow.set (o + k) (.int .u32 (wordAt b k))
        rw [cells32_set, fillTo_succ l o b k (by omega)] at this
        exact this
      have hbd := littleS_bd (b.extract (4 * k) (4 * k + 4))
      have hb0 := hbd.1
      have hb1 := hbd.2
      clear hbd
      generalize b.extract (4 * k) (4 * k + 4) = t at *
      have ht := HL.out t wr hsz
      generalize littleS t = v0 at *
      go_wp2_with (go_at_call 67; refine ht.mono ?_; rintro e w' ⟨rfl, rfl⟩)
      go_roundw
      case rel => exact ⟨k + 1, by omega, by go_num, HS.out, hup.setCell _ _⟩
      case measure => simp [intOf]; omega
    · have hkn : k = n := by omega
      subst hkn
      go_wp2
      go_end0
      exact ⟨rfl, hrow, hup⟩

end Go.Proofs.Ytgeackoaghkgmaa

/-
  The contract of package stream's firstState.
-/
namespace Go.Proofs.Ytgeackoaghkgmaa
open Go.RowKit
set_option linter.unusedVariables false
set_option maxRecDepth 100000

def z16 : List Int := List.replicate 16 0
theorem z16_len : z16.length = 16 := rfl
theorem size16 : (Try.prog.info? 71).map (·.size) = some 16 := by kernel_rfl
theorem zero16 : (Try.prog.info? 71).map (·.zero) = some (some (.agg (cells32 z16).toArray)) := by kernel_rfl
theorem run_alloc16 (w : World) : (Instr.alloc 71 true (.tuple #[])).run Try.prog w = .ok (.pointer (some ⟨w.heap.size, 0, none⟩)) (w.alloc (.cells (cells32 z16).toArray 71)) := by
  obtain ⟨i, hi, hz⟩ := zero_parts zero16
  exact run_alloc_zero _ i _ hi hz w
theorem len16 : Try.prog.arrayLen 71 = 16 := by kernel_rfl
theorem elem16 : Try.prog.elem 71 = 30 := by kernel_rfl
theorem slice16_lh (w : World) (b : Nat) (l h : Int) (h0 : 0 ≤ l) (h1 : l ≤ h) (h2 : h ≤ 16) (h3 : l < 16) :
    (Instr.sliceAt 71 (.pointer (some ⟨b, 0, none⟩)) (some (.int .i64 l)) (some (.int .i64 h)) none).run Try.prog w = .ok (.slice (some ⟨b, l.toNat, none⟩) (h - l).toNat (16 - l.toNat)) w := by
  rw [run_sliceAt_array_lh w 71 ⟨b, 0, none⟩ (by rw [len16, elem16]; exact Try.underlying71) .i64 .i64 l h h0 h1 (by rw [len16]; omega), elem16, run_sizeOf cells30, len16]
  simp only [Result.andThen_ok, slicedAt]
  rw [if_neg (by omega), Addr.add_mid, Nat.mul_one, Nat.zero_add, show h.toNat - l.toNat = (h - l).toNat from by omega]
theorem slice16_l (w : World) (b : Nat) (l : Int) (h0 : 0 ≤ l) (h3 : l < 16) :
    (Instr.sliceAt 71 (.pointer (some ⟨b, 0, none⟩)) (some (.int .i64 l)) none none).run Try.prog w = .ok (.slice (some ⟨b, l.toNat, none⟩) (16 - l.toNat) (16 - l.toNat)) w := by
  rw [run_sliceAt_array_l w 71 ⟨b, 0, none⟩ (by rw [len16, elem16]; exact Try.underlying71) .i64 l h0 (by rw [len16]; omega), elem16, run_sizeOf cells30, len16]
  simp only [Result.andThen_ok, slicedAt]
  rw [if_neg (by omega), Addr.add_mid, Nat.mul_one, Nat.zero_add]

/-- The four fixed words, the rest zero. -/
def fixed16 : List Int := fixed4 ++ List.replicate 12 0
theorem fixed16_len : fixed16.length = 16 := rfl
theorem first_of (key : ByteArray) (c : Int) (nonce : ByteArray) : fillTo (fillTo (fixed16.set 12 c) 4 key 8) 13 nonce 3 = firstL key c nonce := by
  rw [firstL]
  have e1 : fillTo (fixed16.set 12 c) 4 key 8 = (fixed4 ++ wordsTo key 8) ++ [c, 0, 0, 0] := rfl
  have hl : (fixed4 ++ wordsTo key 8).length = 12 := by simp [wordsTo_len, fixed4]
  generalize fixed4 ++ wordsTo key 8 = m at *
  have e2 : fillTo (m ++ [c, 0, 0, 0]) 13 nonce 3 = (m ++ [c]) ++ wordsTo nonce 3 := by
    unfold fillTo
    rw [List.take_append, List.drop_append, hl, List.take_of_length_le (by omega), List.drop_of_length_le (by omega)]
    simp
  rw [e1, e2]

set_option maxRecDepth 100000 in
set_option maxHeartbeats 1000000 in
theorem stream_firstState (key : ByteArray) (c : Int) (nonce : ByteArray) (w : World) (hk : key.size = 32) (hn : nonce.size = 12) (hc : W32 c) :
    Calls Try.prog 47 #[.string key, .int .u32 c, .string nonce] w fun e w' => e = .returned (.agg (cells32 (firstL key c nonce)).toArray) ∧ Below w.heap.size w w' := by
  have hf1 : fixed16.length = 16 := rfl
  have hone := all_oneCell_toArray (cells32_one fixed16)
  have hr2 : RowIs ((w.alloc (.cells (cells32 z16).toArray 71)).alloc (.cells (cells32 z16).toArray 71)) (w.heap.size + 1) 71 (cells32 z16) := by
    have := RowIs.new (w.alloc (.cells (cells32 z16).toArray 71)) 71 (cells32 z16)
    simpa using this
  have hr1 : RowIs ((w.alloc (.cells (cells32 z16).toArray 71)).alloc (.cells (cells32 z16).toArray 71)) w.heap.size 71 (cells32 z16) := (RowIs.new w _ (cells32 z16)).alloc _
  have hb2 : Below w.heap.size w ((w.alloc (.cells (cells32 z16).toArray 71)).alloc (.cells (cells32 z16).toArray 71)) := ((Below.refl _ _).alloc (Nat.le_refl _) _).alloc (by simp) _
  have hp1 : ∀ w' g l, l.length = 16 → RowIs w' g 71 (cells32 l) → Calls Try.prog 63 #[.slice (some ⟨g, 4, none⟩) 8 12, .string key] w' fun e w'' => e = .returned (.tuple #[]) ∧ RowIs w'' g 71 (cells32 (fillTo l 4 key 8)) ∧ Upon g w' w'' := fun w' g l hl hr => stream_putWords g 4 8 12 l key w' hl (by decide) (by omega) hr
  have hp2 : ∀ w' g l, l.length = 16 → RowIs w' g 71 (cells32 l) → Calls Try.prog 63 #[.slice (some ⟨g, 13, none⟩) 3 3, .string nonce] w' fun e w'' => e = .returned (.tuple #[]) ∧ RowIs w'' g 71 (cells32 (fillTo l 13 nonce 3)) ∧ Upon g w' w'' := fun w' g l hl hr => stream_putWords g 13 3 3 l nonce w' hl (by decide) (by omega) hr
  have HP1 : Hid _ := hp1
  have HP2 : Hid _ := hp2
  clear hp1 hp2
  have hs1 : ∀ w' : World, (Instr.sliceAt 71 (.pointer (some ⟨w.heap.size + 1, 0, none⟩)) (some (.int .i64 4)) (some (.int .i64 12)) none).run Try.prog w' = .ok (.slice (some ⟨w.heap.size + 1, 4, none⟩) 8 12) w' := fun w' => slice16_lh w' _ 4 12 (by decide) (by decide) (by decide) (by decide)
  have hs2 : ∀ w' : World, (Instr.sliceAt 71 (.pointer (some ⟨w.heap.size + 1, 0, none⟩)) (some (.int .i64 13)) none none).run Try.prog w' = .ok (.slice (some ⟨w.heap.size + 1, 13, none⟩) 3 3) w' := fun w' => slice16_l w' _ 13 (by decide) (by decide)
  go_enter Try.func47, Try.ntmps47
  go_wp2_with (first | (refine wpList_allocN rfl rfl run_alloc16 w.heap.size rfl ?_) | (refine wpList_allocN rfl rfl run_alloc16 (w.heap.size + 1) (by simp) ?_) | (refine wpList_build rfl 71 _ rfl (cells32 fixed16).toArray (by kernel_rfl) ?_) | (refine wpList_store_mid rfl 71 _ _ rfl (w.heap.size + 1) 0 (cells32 fixed16).toArray rfl rfl (hr2.there (by decide)) size16 hone ?_; generalize hw3 : World.setCells _ _ _ _ = w3; have q1 : RowIs w3 (w.heap.size + 1) 71 (cells32 fixed16) := hw3 ▸ hr2.sets (cells32 fixed16) 0 (by decide); have q2 : RowIs w3 w.heap.size 71 (cells32 z16) := (hw3 ▸ (Upon.refl (w.heap.size + 1) _).setCells 0 (cells32 fixed16) : Upon (w.heap.size + 1) _ w3).row hr1 (by simp); have q3 : Below w.heap.size w w3 := hw3 ▸ bel_setCells hb2 (by simp) 0 (cells32 fixed16); clear hw3 hr2 hr1 hb2; have c12 : w3.cell? ⟨w.heap.size + 1, 12, none⟩ = some (.int .u32 0) := q1.cellAt rfl; have z12 := q1.frozen 12))
  have q4 : RowIs (w3.setCell ⟨w.heap.size + 1, 12, none⟩ (.int .u32 c)) (w.heap.size + 1) 71 (cells32 (fixed16.set 12 c)) := by
    have := q1.set 12 (.int .u32 c)
    rwa [cells32_set] at this
  have q5 : RowIs (w3.setCell ⟨w.heap.size + 1, 12, none⟩ (.int .u32 c)) w.heap.size 71 (cells32 z16) := q2.setOther (by simp) _
  have q6 : Below w.heap.size w (w3.setCell ⟨w.heap.size + 1, 12, none⟩ (.int .u32 c)) := q3.setCell (by simp) _
  clear q1 q2 q3 c12 z12
  generalize w3.setCell ⟨w.heap.size + 1, 12, none⟩ (.int .u32 c) = w4 at *
  refine (HP1.out _ _ _ rfl q4).mono ?_
  rintro e w5 ⟨rfl, r1, u1⟩
  have q7 : RowIs w5 w.heap.size 71 (cells32 z16) := u1.row q5 (by simp)
  have q8 : Below w.heap.size w w5 := q6.trans (u1.below (by simp) q6.size)
  clear q4 q5 q6 u1
  go_wp2_with fail
  refine (HP2.out _ _ _ (fillTo_len _ _ _ _ (Nat.le_of_ble_eq_true rfl)) r1).mono ?_
  rintro e w6 ⟨rfl, r2, u2⟩
  rw [first_of] at r2
  have q9 : RowIs w6 w.heap.size 71 (cells32 z16) := u2.row q7 (by simp)
  have qa : Below w.heap.size w w6 := q8.trans (u2.below (by simp) q8.size)
  clear q7 q8 u2 r1
  have hlen : (cells32 (firstL key c nonce)).length = 16 := by rw [cells32_len, firstL_len]
  have hone2 := all_oneCell_toArray (cells32_one (firstL key c nonce))
  have HCS : Hid (∃ cs, cs = cells32 (firstL key c nonce)) := ⟨_, rfl⟩
  obtain ⟨cs, hcs⟩ := HCS.out
  rw [← hcs] at r2 hlen hone2
  have HE : Hid (cs = cells32 (firstL key c nonce)) := hcs
  clear hcs HCS
  go_wp2_with (first | (refine wpList_load_mid rfl 71 _ rfl (w.heap.size + 1) 0 rfl cs _ (r2.range (by rw [List.drop_zero, List.take_length])) Try.underlying71 rfl (by rw [size16, hlen]) ?_) | (refine wpList_store_mid rfl 71 _ _ rfl w.heap.size 0 cs.toArray rfl rfl (q9.there (by simp [hlen, cells32_len, z16_len])) (by rw [size16]; simp [hlen]) hone2 ?_))
  refine bodyPost_ret (v := .agg cs.toArray) (results_row rfl _ _ w.heap.size cs _ (by simp [Act.put]) ?_ Try.underlying71 rfl (by rw [size16, hlen])) rfl ⟨by rw [HE.out], bel_setCells qa (by omega) _ _⟩
  exact World.rangeAt_setCells_same _ _ _ _ (q9.there (by simp [hlen, cells32_len, z16_len]))

end Go.Proofs.Ytgeackoaghkgmaa

/-
  The contract of package stream's Block.
-/
namespace Go.Proofs.Ytgeackoaghkgmaa
open Go.RowKit
set_option linter.unusedVariables false
set_option maxRecDepth 100000

theorem RowIs.setAll {w : World} {g : Nat} {t : TypeId} {l vs : List Value} (h : RowIs w g t l) (hv : vs.length = l.length) : RowIs (w.setCells g 0 vs) g t vs := by
  have := h.sets vs 0 (by omega)
  have e : putAt l 0 vs = vs := by unfold putAt; rw [List.take_zero, List.nil_append, Nat.zero_add, List.drop_of_length_le (by omega), List.append_nil]
  rwa [e] at this
theorem fixedRow_len (l : List Int) (h : l.length = 16) : (cells32 l).length = 16 := by rw [cells32_len, h]
theorem z16_row : (cells32 z16).length = 16 := by rw [cells32_len, z16_len]

theorem ret_sb1 {a b : ByteArray} {c : Bool} (h : a = b) : Ending.returned (.tuple #[.string a, .bool c]) = .returned (.tuple #[.string b, .bool c]) := by rw [h]

set_option maxRecDepth 100000 in
set_option maxHeartbeats 2000000 in
theorem stream_block_yes (key : ByteArray) (c : Int) (nonce : ByteArray) (w : World) (hk : key.size = 32) (hn : nonce.size = 12) (hc : W32 c) :
    Calls Try.prog 29 #[.string key, .int .u32 c, .string nonce] w fun e w' => e = .returned (.tuple #[.string (blockS key c nonce), .bool true]) ∧ Below w.heap.size w w' := by
  have hfit : decide (key.size = 32 ∧ nonce.size = 12) = true := by simp [hk, hn]
  have hA := stream_areFit key nonce w
  rw [hfit] at hA
  have hF := stream_firstState key c nonce w hk hn hc
  obtain ⟨i0, hi, hz0, hz1, hz2⟩ := info_parts info8
  have HBK : Hid (blockS key c nonce = str (tellTo (dbls (firstL key c nonce) 10) (firstL key c nonce) 16)) := rfl
  have hfl := firstL_len key c nonce
  have hfw := firstL_w key c nonce hc
  obtain ⟨f, hf⟩ : ∃ f, f = firstL key c nonce := ⟨_, rfl⟩
  rw [← hf] at hF HBK hfl hfw
  clear hf
  have HD : Hid (∀ (g : Nat) (s : List Int) (w : World), s.length = 16 → allW s → RowIs w g 71 (cells32 s) → Calls Try.prog 48 #[.pointer (some ⟨g, 0, none⟩)] w fun e w' => e = .returned (.tuple #[]) ∧ RowIs w' g 71 (cells32 (dblTo s 8)) ∧ Upon g w w') := stream_doubleRound
  have hone := all_oneCell_toArray (cells32_one f)
  have hcl := fixedRow_len f hfl
  go_enter Try.func29, Try.ntmps29
  go_wp2_with (first | (go_at_call 25; refine hA.mono ?_; rintro e w' ⟨rfl, rfl⟩))
  refine hF.mono ?_
  rintro e w1 ⟨rfl, b1⟩
  have HCS : Hid (∃ cs, cells32 f = cs) := ⟨_, rfl⟩
  obtain ⟨cs, hcs⟩ := HCS.out
  rw [hcs] at hone hcl ⊢
  have HE : Hid (cells32 f = cs) := hcs
  clear hcs HCS
  go_wp2_with (first
    | (refine wpList_allocN rfl rfl run_alloc16 w1.heap.size rfl ?_; have p1 := RowIs.new w1 71 (cells32 z16); have p2 : Below w.heap.size w (w1.alloc (.cells (cells32 z16).toArray 71)) := b1.alloc b1.size _; generalize w1.alloc (.cells (cells32 z16).toArray 71) = wa at *)
    | (refine wpList_store_mid rfl 71 _ _ rfl w1.heap.size 0 cs.toArray rfl rfl (p1.there (by rw [z16_row]; simp [hcl])) (by rw [size16]; simp [hcl]) hone ?_; generalize hx : World.setCells _ _ _ _ = wb; have p4 : RowIs wb w1.heap.size 71 cs := hx ▸ p1.setAll (by rw [hcl, z16_row]); have p5 : Below w.heap.size w wb := hx ▸ bel_setCells p2 b1.size 0 cs; clear hx p1 p2)
    | (refine wpList_load_mid rfl 71 _ rfl w1.heap.size 0 rfl cs _ (p4.range (by rw [List.drop_zero, List.take_length])) Try.underlying71 rfl (by rw [size16, hcl]) ?_)
    | (refine wpList_allocN rfl rfl run_alloc16 wb.heap.size rfl ?_; have p6 := RowIs.new wb 71 (cells32 z16); have p7 : RowIs (wb.alloc (.cells (cells32 z16).toArray 71)) w1.heap.size 71 cs := p4.alloc _; have p8 : Below w.heap.size w (wb.alloc (.cells (cells32 z16).toArray 71)) := p5.alloc p5.size _; have p9 := p4.lt; have pa := p5.size; clear p4 p5; generalize wb.alloc (.cells (cells32 z16).toArray 71) = wc at *)
    | (refine wpList_store_mid rfl 71 _ _ rfl wb.heap.size 0 cs.toArray rfl rfl (p6.there (by rw [z16_row]; simp [hcl])) (by rw [size16]; simp [hcl]) hone ?_; generalize hx : World.setCells _ _ _ _ = wd; have pb : RowIs wd wb.heap.size 71 cs := hx ▸ p6.setAll (by rw [hcl, z16_row]); have pc : RowIs wd w1.heap.size 71 cs := (hx ▸ (Upon.refl wb.heap.size _).setCells 0 cs : Upon wb.heap.size _ wd).row p7 (by omega); have pd : Below w.heap.size w wd := hx ▸ bel_setCells p8 pa 0 cs; clear hx p6 p7 p8))
  rw [← HE.out] at pb pc
  go_loopw [22] (fun i wr => ∃ k : Nat, k ≤ 10 ∧ i = .int .i64 k ∧ RowIs wr w1.heap.size 71 (cells32 f) ∧ RowIs wr wb.heap.size 71 (cells32 (dbls f k)) ∧ Below w.heap.size w wr) (fun i _ => 10 - (intOf i).toNat)
  case atStart => exact ⟨0, by omega, rfl, pc, pb, pd⟩
  case round =>
    clear pc pb pd
    obtain ⟨k, hk10, rfl, ra, rb, rd⟩ := hrel
    by_cases hlt : k < 10
    · have hd := HD.out wb.heap.size (dbls f k) wr (by rw [dbls_len, hfl]) (dbls_w hfw k) rb
      go_wp2_with (first | (go_at_call 48; refine hd.mono ?_; rintro e w' ⟨rfl, rc, ru⟩))
      go_roundw
      case rel => exact ⟨k + 1, by omega, by go_num, ru.row ra (by omega), rc, rd.trans (ru.below pa rd.size)⟩
      case measure => simp [intOf]; omega
    · have hk10' : k = 10 := by omega
      subst hk10'
      obtain ⟨w4, hw4⟩ : ∃ w4, w4 = wr := ⟨_, rfl⟩
      subst hw4
      have hdl : (dbls f 10).length = 16 := by rw [dbls_len, hfl]
      have hdc := fixedRow_len (dbls f 10) hdl
      have hdw := dbls_w hfw 10
      have HT : ∀ k, Hid (tellTo (dbls f 10) f (k + 1) = tellTo (dbls f 10) f k ++ putLittle (((dbls f 10).getD k 0 + f.getD k 0) % 4294967296) 4) := fun k => tellTo_succ _ _ k
      have HT0 : Hid (tellTo (dbls f 10) f 0 = []) := rfl
      have HIX : Hid (∀ j : Nat, j < 16 → ∀ w : World, (Instr.index 71 (.agg (cells32 (dbls f 10)).toArray) (.int .i64 (j : Int))).run Try.prog w = .ok (.int .u32 ((dbls f 10).getD j 0)) w) := by
        intro j hj w
        exact run_index_arr _ _ j _ w rfl hj (by rw [List.getElem?_toArray]; exact cells32_at _ j (by omega)) Try.underlying71 Try.underlying30 cells30
      have ra1 : RowIs (w4.alloc (.cells (cells8 (zeros8 64)).toArray 5)) wb.heap.size 71 (cells32 (dbls f 10)) := rb.alloc _
      have hown0 : (w4.alloc (.cells (cells8 (zeros8 64)).toArray 5)).ownsRow w4.heap.size 5 1 (.slice (some ⟨w4.heap.size, 0, none⟩) 0 64) (4 * 0) (cells8 (tellTo (dbls f 10) f 0)) := (RowIs.new w4 5 (cells8 (zeros8 64))).owns (Nat.le_refl _) (by rw [cells8_len]; rfl) (by omega) (by unfold maxLen; omega)
      have hb0 : Below w4.heap.size w4 (w4.alloc (.cells (cells8 (zeros8 64)).toArray 5)) := (Below.refl w4.heap.size w4).alloc (Nat.le_refl _) _
      have hML := ra.lt
      have HRA : Hid (RowIs w4 w1.heap.size 71 (cells32 f)) := ra
      have HRD : Hid (Below w.heap.size w w4) := rd
      clear ra rb rd HD hk10
      generalize dbls f 10 = d at *
      go_wp2_with (first | (at_make; refine wpList_make8 rfl _ _ rfl _ _ 0 64 rfl rfl rfl rfl (by omega) (by omega) w4.heap.size rfl ?_) | (refine wpList_load_mid rfl 71 _ rfl wb.heap.size 0 rfl (cells32 d) _ (ra1.range (by rw [List.drop_zero, List.take_length])) Try.underlying71 rfl (by rw [size16, hdc]) ?_))
      clear ra1
      generalize w4.alloc (.cells (cells8 (zeros8 64)).toArray 5) = wm at *
      go_loopw [10, 28] (fun v i wr => ∃ k : Nat, k ≤ 16 ∧ i = .int .i64 k ∧ wr.ownsRow w4.heap.size 5 1 v (4 * k) (cells8 (tellTo d f k)) ∧ Below w4.heap.size w4 wr) (fun _ i _ => 16 - (intOf i).toNat)
      case atStart => exact ⟨0, by omega, rfl, hown0, hb0⟩
      case round =>
        have hws : w4.heap.size ≤ w4.heap.size := Nat.le_refl _
        clear hown0 hb0
        obtain ⟨k, hk, rfl, hown, hbel⟩ := hrel
        by_cases hlt : k < 16
        · have hix := HIX.out k hlt
          have hcell : wr.cell? ⟨w1.heap.size, k, none⟩ = some (.int .u32 (f.getD k 0)) := (HRA.out.below hbel hML).cellAt (cells32_at f k (by omega))
          have hwd := getD_w' hdw k
          have hwf := getD_w' hfw k
          have hwd0 := hwd.1
          have hwd1 := hwd.2
          have hwf0 := hwf.1
          have hwf1 := hwf.2
          have HTk := HT k
          clear hwd hwf
          generalize d.getD k 0 = x at *
          generalize f.getD k 0 = y at *
          have hsz : ∀ v, (putLittleS v 4).size = 4 := fun v => by unfold putLittleS; rw [str_size, putLittle4_len]
          go_wp2_with (first | (go_at_call 49; refine (octet_putLittle _ _ _ (by omega) (by omega)).mono ?_; rintro e w2 ⟨rfl, hb2⟩) | (at_builtin; refine Lib.wpList_append_own_string (P := Try.prog) _ rfl _ _ 27 9 rfl w4.heap.size 5 i0 Try.underlying27 Try.underlying9 hi hz0 hz1 hz2 _ (4 * k) (cells8 (tellTo d f k)) rfl (owns_below hown hb2) (putLittleS ((x + y) % 4294967296) 4) rfl (by rw [hsz]; unfold maxLen; omega) (by rw [hsz]; omega) (Nat.le_trans (Nat.le_trans hws hbel.size) hb2.size) ?_; intro v' w3 hown3 hgrow3 hiff))
          have hbel3 : Below w4.heap.size w4 w3 := (hbel.trans (hb2.mono (Nat.le_trans hws hbel.size))).grown hgrow3 (Nat.le_trans (Nat.le_trans hws hbel.size) hb2.size) (owns_block hown)
          rw [hsz, show putLittleS ((x + y) % 4294967296) 4 = str (putLittle ((x + y) % 4294967296) 4) from rfl, strCells_str, ← cells8_append] at hown3
          go_roundw
          case rel => exact ⟨k + 1, by omega, by go_num, by rw [HTk.out]; exact hown3, hbel3⟩
          case measure => simp [intOf]; omega
        · have hk8 : k = 16 := by omega
          rw [hk8] at hown
          have hconv := own_string_any hown
          clear hown
          go_wp2
          go_ret2
          exact ⟨ret_sb1 HBK.out.symm, HRD.out.trans (hbel.mono HRD.out.size)⟩

theorem stream_block_no (key : ByteArray) (c : Int) (nonce : ByteArray) (w : World) (h : ¬ (key.size = 32 ∧ nonce.size = 12)) :
    Calls Try.prog 29 #[.string key, .int .u32 c, .string nonce] w fun e w' => e = .returned (.tuple #[.string ⟨#[]⟩, .bool false]) ∧ w = w' := by
  have hA := stream_areFit key nonce w
  rw [decide_eq_false h] at hA
  clear h
  go_enter Try.func29, Try.ntmps29
  go_wp2_with (first | (go_at_call 25; refine hA.mono ?_; rintro e w' ⟨rfl, rfl⟩))
  go_ret2
  exact ⟨rfl, rfl⟩

end Go.Proofs.Ytgeackoaghkgmaa
