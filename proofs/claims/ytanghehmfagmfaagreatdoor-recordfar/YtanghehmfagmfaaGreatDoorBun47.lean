/-
  Parts of this proof, one behind the other: RcK1, RcK2, RcK3, RcK5.
-/
import Derived.Test.YtanghehmfagmfaaGreatDoorBun39
import Derived.Test.YtanghehmfagmfaaGreatDoorBun45
import Derived.Test.YtanghehmfagmfaaGreatDoorBun15
import Derived.Test.YtanghehmfagmfaaGreatDoorBun11
import Derived.Deep.RegionHeld3
import Derived.RegionTactic
import Derived.Test.YtanghehmfagmfaaGreatDoorBun22
import Derived.Test.YtanghehmfagmfaaGreatDoorBun46
import Derived.Test.YtanghehmfagmfaaGreatDoorBun38
import Derived.Test.YtanghehmfagmfaaGreatDoorBun26
import Derived.Deep.RegionWith

/-
  Package record: whether keys are made; the key of an epoch, derived when it is first asked for.
-/
namespace Go.Proofs.YtanghehmfagmfaaGreatDoor
open Go.RowKit
set_option linter.unusedVariables false
set_option maxRecDepth 100000
set_option linter.unusedSimpArgs false

theorem key_some13 {key : ByteArray} (h : key.size = 32) : key.toList.isEmpty = false := by
  rw [ByteArray.toList_eq]
  cases hk : key.data.toList with
  | nil =>
    have : key.data.toList.length = 32 := by simpa using h
    rw [hk] at this
    cases this
  | cons x r => rfl
theorem rec_made (w : World) (p : Nat) (t : TypeId) (l : List Value) (key : ByteArray) (hr : RowIs w p t l) (hk : KeySeg key l) (h32 : key.size = 32) :
    Calls Tryz.prog 31 #[.pointer (some ⟨p, 0, none⟩)] w fun e w' => e = .returned (.bool true) ∧ w = w' := by
  have hc := hr.cellAt hk.first
  have he := key_some13 h32
  clear hr hk
  go_enter Tryz.func31, Tryz.ntmps31
  go_wp2
  go_ret
  exact ⟨rfl, rfl⟩

theorem rec_of1 (bk be bp p e : Nat) (key s : ByteArray) (t t1 t2 t3 : TypeId) (l : List Value) (w : World) (rk : RowIs w bk t1 [.pointer (some ⟨p, 0, none⟩)]) (re : RowIs w be t2 [.int .i64 (e : Int)]) (rp : RowIs w bp t3 [.pointer (some ⟨p, 1 + e * 4, none⟩)])
    (hr : RowIs w p t l) (h0 : l[0]? = some (.string key)) (h3 : l[1 + e * 4 + 3]? = some (.string s)) (hk : p ≠ bk) (he : p ≠ be) (hp : p ≠ bp) (h50 : e < 50) (h32 : key.size = 32) :
    Calls Tryz.prog 93 #[.pointer (some ⟨bk, 0, none⟩), .pointer (some ⟨be, 0, none⟩), .pointer (some ⟨bp, 0, none⟩)] w fun e' w' => e' = .returned (.tuple #[]) ∧
      ∃ w1, Below w.heap.size w w1 ∧ w' = w1.setCell ⟨p, 1 + e * 4 + 3, none⟩ (.string (turnR key e)) := by
  have PA : Hid _ := fun w1 => ratK_at key e w1 (by omega) (by omega)
  have ho : 0 ≠ 1 + e * 4 + 3 := by omega
  generalize turnR key e = K at *
  have HD : Hid (∀ w1, Below w.heap.size w w1 → (w1.cell? ⟨bk, 0, none⟩ = some (.pointer (some ⟨p, 0, none⟩)) ∧ w1.cell? ⟨be, 0, none⟩ = some (.int .i64 (e : Int)) ∧ w1.cell? ⟨bp, 0, none⟩ = some (.pointer (some ⟨p, 1 + e * 4, none⟩)) ∧ w1.cell? ⟨p, 0, none⟩ = some (.string key)) ∧
      ((w1.setCell ⟨p, 1 + e * 4 + 3, none⟩ (.string K)).cell? ⟨bk, 0, none⟩ = some (.pointer (some ⟨p, 0, none⟩)) ∧ (w1.setCell ⟨p, 1 + e * 4 + 3, none⟩ (.string K)).cell? ⟨be, 0, none⟩ = some (.int .i64 (e : Int)) ∧ (w1.setCell ⟨p, 1 + e * 4 + 3, none⟩ (.string K)).cell? ⟨bp, 0, none⟩ = some (.pointer (some ⟨p, 1 + e * 4, none⟩)) ∧ (w1.setCell ⟨p, 1 + e * 4 + 3, none⟩ (.string K)).cell? ⟨p, 0, none⟩ = some (.string key)) ∧
      w1.cell? ⟨p, 1 + e * 4 + 3, none⟩ = some (.string s) ∧ w1.frozen? ⟨p, 1 + e * 4 + 3, none⟩ = false) := fun w1 b => by
    have q0 := hr.below b hr.lt
    have q1 := rk.below b rk.lt
    have q2 := re.below b re.lt
    have q3 := rp.below b rp.lt
    refine ⟨⟨q1.cellAt rfl, q2.cellAt rfl, q3.cellAt rfl, q0.cellAt h0⟩, ⟨(q1.setOther (a := ⟨p, 1 + e * 4 + 3, none⟩) (Ne.symm hk) _).cellAt rfl, (q2.setOther (a := ⟨p, 1 + e * 4 + 3, none⟩) (Ne.symm he) _).cellAt rfl, (q3.setOther (a := ⟨p, 1 + e * 4 + 3, none⟩) (Ne.symm hp) _).cellAt rfl, (q0.set (1 + e * 4 + 3) (.string K)).cellAt ?_⟩, q0.cellAt h3, q0.frozen _⟩
    rw [List.getElem?_set_ne (by omega)]
    exact h0
  have b0 : Below w.heap.size w w.drew := (Below.refl _ _).drew
  obtain ⟨⟨c1, c2, c3, c4⟩, -, c5, c6⟩ := HD.out _ b0
  clear rk re rp hr h0 h3 hk he hp
  generalize 1 + e * 4 = O at *
  go_enter Tryz.func93, Tryz.ntmps93
  go_wp2_with fail
  go_region_held3 (fun w' => w'.cell? ⟨bk, 0, none⟩ = some (.pointer (some ⟨p, 0, none⟩)) ∧ w'.cell? ⟨be, 0, none⟩ = some (.int .i64 (e : Int)) ∧ w'.cell? ⟨bp, 0, none⟩ = some (.pointer (some ⟨p, O, none⟩)) ∧ w'.cell? ⟨p, 0, none⟩ = some (.string key)) (first | exact ⟨f1, f2, f3, f4⟩ | exact ⟨d1, d2, d3, d4⟩ | exact ⟨c1, c2, c3, c4⟩) (first | (go_at_call 94; with_reducible refine (PA.out _).mono ?_; rintro e' w1 ⟨rfl, b1⟩; replace b1 := bel12 b0 b1; (obtain ⟨⟨d1, d2, d3, d4⟩, ⟨f1, f2, f3, f4⟩, d5, d6⟩ := HD.out _ b1)))
  all_goals
    go_wp2
    go_end0
    exact ⟨rfl, _, b1, rfl⟩

end Go.Proofs.YtanghehmfagmfaaGreatDoor

/-
  Package record: the key of a record's epoch.
-/
namespace Go.Proofs.YtanghehmfagmfaaGreatDoor
open Go.RowKit
set_option linter.unusedVariables false
set_option maxRecDepth 100000
set_option linter.unusedSimpArgs false

theorem callFunc_of1 (a b c : Value) (w : World) : (callFunc 93 (#[] ++ #[a, b, c])).run Tryz.prog w = .ok (.enter 93 #[a, b, c]) w := by
  simp [go_sem]
set_option maxHeartbeats 1000000 in
theorem rec_of (w : World) (p : Nat) (t : TypeId) (l : List Value) (key : ByteArray) (n : Nat) (hr : RowIs w p t l) (hk : KeySeg key l) (h32 : key.size = 32) (hn : n < 400) :
    Calls Tryz.prog 36 #[.pointer (some ⟨p, 0, none⟩), .int .i64 (n : Int)] w fun e w' => e = .returned (.string (turnR key (n / 8))) ∧ (∃ l', RowIs w' p t l' ∧ KeySeg key l' ∧ RowOut 1 201 l l') ∧ Touch (fun k => k = p) w w' := by
  have he : n / 8 < 50 := by omega
  have PE : Hid _ := fun w1 => ratK_epoch (n : Int) w1 (by omega) (by omega)
  rw [epochR_yes (by omega), show ((n : Int) / 8) = ((n / 8 : Nat) : Int) by omega] at PE
  generalize n / 8 = E at *
  obtain ⟨KE, hKE⟩ : ∃ KE, turnR key E = KE := ⟨_, rfl⟩
  rw [hKE]
  have HKE : Hid (turnR key E = KE) := hKE
  clear hKE
  have hpl := hr.lt
  have r1 := RowIs.new w 124 [.pointer (some ⟨p, 0, none⟩)]
  have q1 := hr.alloc (.cells #[.pointer (some ⟨p, 0, none⟩)] 124)
  have b1 : Below w.heap.size w (w.alloc (.cells #[.pointer (some ⟨p, 0, none⟩)] 124)) := (Below.refl _ _).alloc (Nat.le_refl _) _
  have i0 : (0 : Int) ≤ (E : Int) := by omega
  have i1 : (E : Int) < 50 := by omega
  go_enter Tryz.func36, Tryz.ntmps36
  go_wp2_with fail
  generalize hbk : w.heap.size = bk at *
  rw [show (#[Value.pointer (some ⟨p, 0, none⟩)] : Array Value) = [Value.pointer (some ⟨p, 0, none⟩)].toArray from rfl] at *
  generalize w.alloc (.cells [Value.pointer (some ⟨p, 0, none⟩)].toArray 124) = w1 at *
  with_reducible refine (PE.out _).mono ?_
  rintro e w2 ⟨rfl, b2⟩
  have hz1 := r1.lt
  have b12 : Below bk w w2 := b1.trans (b2.mono (by omega))
  have r2 := (r1.below b2 r1.lt).alloc (.cells #[.int .i64 (E : Int)] 3)
  have q2 := (q1.below b2 q1.lt).alloc (.cells #[.int .i64 (E : Int)] 3)
  have s2 := RowIs.new w2 3 [.int .i64 (E : Int)]
  have hz2 : bk < w2.heap.size := (r1.below b2 r1.lt).lt
  have b13 : Below bk w (w2.alloc (.cells #[.int .i64 (E : Int)] 3)) := b12.alloc (by omega) _
  clear r1 q1 b1 b2 hr PE b12
  go_wp2_with fail
  rw [show (#[Value.int .i64 (E : Int)] : Array Value) = [Value.int .i64 (E : Int)].toArray from rfl] at *
  have hz3 : (w2.alloc (.cells [Value.int .i64 (E : Int)].toArray 3)).heap.size = w2.heap.size + 1 := by simp
  generalize hbe : w2.heap.size = be at *
  generalize w2.alloc (.cells [Value.int .i64 (E : Int)].toArray 3) = w3 at *
  have c1 := r2.cellAt (j := 0) rfl
  have c2 := s2.cellAt (j := 0) rfl
  have c3 := (r2.alloc (.cells #[.pointer none] 128)).cellAt (j := 0) rfl
  have c4 := (s2.alloc (.cells #[.pointer none] 128)).cellAt (j := 0) rfl
  go_region
  have r3 := (r2.alloc (.cells #[.pointer (some ⟨p, 1 + E * 4, none⟩)] 128)).drew
  have q3 := (q2.alloc (.cells #[.pointer (some ⟨p, 1 + E * 4, none⟩)] 128)).drew
  have s3 := (s2.alloc (.cells #[.pointer (some ⟨p, 1 + E * 4, none⟩)] 128)).drew
  have p3 := (RowIs.new w3 128 [.pointer (some ⟨p, 1 + E * 4, none⟩)]).drew
  have b3 : Below bk w (w3.alloc (.cells #[.pointer (some ⟨p, 1 + E * 4, none⟩)] 128)).drew := (b13.alloc (by omega) _).drew
  rw [show (#[Value.pointer (some ⟨p, 1 + E * 4, none⟩)] : Array Value) = [Value.pointer (some ⟨p, 1 + E * 4, none⟩)].toArray from rfl] at *
  rw [hz3] at p3
  have hz4 : (w3.alloc (.cells [Value.pointer (some ⟨p, 1 + E * 4, none⟩)].toArray 128)).drew.heap.size = be + 2 := by simp [hz3]
  clear r2 q2 s2 b13 c1 c2 c3 c4 hz3
  generalize (w3.alloc (.cells [Value.pointer (some ⟨p, 1 + E * 4, none⟩)].toArray 128)).drew = w4 at *
  have c3 := p3.cellAt (j := 0) rfl
  have T4 : Touch (fun k => k = p) w w4 := ⟨b3.os, b3.tape, b3.output, b3.size, fun k hk _ => b3.block k (by omega)⟩
  go_wp2_with fail
  have hpk : p ≠ bk := by omega
  have hpe : p ≠ be := by omega
  have hpp : p ≠ be + 1 := by omega
  rcases hk.each E he with ⟨k0, k1, s0, k3⟩ | ⟨k0, k3⟩
  · have hlen := hk.lt E he
    have q5 := q3.set (1 + E * 4 + 1) (.int .i32 1)
    have r5 : RowIs (w4.setCell ⟨p, 1 + E * 4 + 1, none⟩ (.int .i32 1)) bk 124 _ := r3.setOther (a := ⟨p, 1 + E * 4 + 1, none⟩) (Ne.symm hpk) _
    have s5 : RowIs (w4.setCell ⟨p, 1 + E * 4 + 1, none⟩ (.int .i32 1)) be 3 _ := s3.setOther (a := ⟨p, 1 + E * 4 + 1, none⟩) (Ne.symm hpe) _
    have p5 : RowIs (w4.setCell ⟨p, 1 + E * 4 + 1, none⟩ (.int .i32 1)) (be + 1) 128 _ := p3.setOther (a := ⟨p, 1 + E * 4 + 1, none⟩) (Ne.symm hpp) _
    have T5 := T4.set (p := ⟨p, 1 + E * 4 + 1, none⟩) (Or.inl rfl) (.int .i32 1)
    have PO := rec_of1 bk be (be + 1) p E key s0 t _ _ _ _ _ r5 s5 p5 q5 (by rw [List.getElem?_set_ne (by omega)]; exact hk.first) (by rw [List.getElem?_set_ne (by omega)]; exact k3) hpk hpe hpp he h32
    have HQ : Hid (RowOut 1 201 l _) := KeySeg.madeOut l key E he
    have HM : Hid _ := hk.made E he
    rw [HKE.out] at PO HQ HM
    refine (once_first p (1 + E * 4) 93 #[] #[.pointer (some ⟨bk, 0, none⟩), .pointer (some ⟨be, 0, none⟩), .pointer (some ⟨be + 1, 0, none⟩)] #[.pointer (some ⟨bk, 0, none⟩), .pointer (some ⟨be, 0, none⟩), .pointer (some ⟨be + 1, 0, none⟩)]
      (fun w' => RowIs w' p t ((l.set (1 + E * 4 + 1) (.int .i32 1)).set (1 + E * 4 + 3) (.string KE)) ∧ RowIs w' (be + 1) 128 [.pointer (some ⟨p, 1 + E * 4, none⟩)] ∧ Touch (fun k => k = p) w w') w4 (fun w' => callFunc_of1 _ _ _ w') (q3.cellAt k0) (q3.cellAt k1) (q3.frozen _) (q3.frozen _) ?_).mono ?_
    · refine PO.mono ?_
      rintro e w' ⟨rfl, w6, b6, rfl⟩
      have q6 := (q5.below b6 q5.lt).set (1 + E * 4 + 3) (.string KE)
      have p6 : RowIs (w6.setCell ⟨p, 1 + E * 4 + 3, none⟩ (.string KE)) (be + 1) 128 _ := (p5.below b6 p5.lt).setOther (a := ⟨p, 1 + E * 4 + 3, none⟩) (Ne.symm hpp) _
      refine ⟨rfl, q6.cellAt ?_, q6.cellAt ?_, q6.frozen _, q6.frozen _, q6, p6, (T5.trans (Touch.of_below b6)).set (p := ⟨p, 1 + E * 4 + 3, none⟩) (Or.inl rfl) _⟩
      · rw [List.getElem?_set_ne (by omega), List.getElem?_set_ne (by omega)]; exact k0
      · rw [List.getElem?_set_ne (by omega), List.getElem?_set_self (by omega)]
    · rintro e w' ⟨rfl, w6, ⟨q6, p6, T6⟩, rfl⟩
      have q7 := (q6.drew.set (1 + E * 4) (.int .u32 1)).set (1 + E * 4 + 1) (.int .i32 0)
      have p7 : RowIs ((w6.drew.setCell ⟨p, 1 + E * 4, none⟩ (.int .u32 1)).setCell ⟨p, 1 + E * 4 + 1, none⟩ (.int .i32 0)) (be + 1) 128 _ := (p6.drew.setOther (a := ⟨p, 1 + E * 4, none⟩) (Ne.symm hpp) _).setOther (a := ⟨p, 1 + E * 4 + 1, none⟩) (Ne.symm hpp) _
      have T7 := (T6.drew.set (p := ⟨p, 1 + E * 4, none⟩) (Or.inl rfl) (.int .u32 1)).set (p := ⟨p, 1 + E * 4 + 1, none⟩) (Or.inl rfl) (.int .i32 0)
      have c5 := p7.cellAt (j := 0) rfl
      have hkey : ((((l.set (1 + E * 4 + 1) (.int .i32 1)).set (1 + E * 4 + 3) (.string KE)).set (1 + E * 4) (.int .u32 1)).set (1 + E * 4 + 1) (.int .i32 0))[1 + E * 4 + 3]? = some (.string KE) := by
        rw [List.getElem?_set_ne (by omega), List.getElem?_set_ne (by omega), List.getElem?_set_self (by simp; omega)]
      have c6 := q7.cellAt hkey
      clear q6 p6 T6 T5 q5 r5 s5 p5 q3 r3 s3 p3 T4 b3 c3 PO hkey p7
      generalize (w6.drew.setCell ⟨p, 1 + E * 4, none⟩ (.int .u32 1)).setCell ⟨p, 1 + E * 4 + 1, none⟩ (.int .i32 0) = w7 at *
      generalize (((l.set (1 + E * 4 + 1) (Value.int .i32 1)).set (1 + E * 4 + 3) (.string KE)).set (1 + E * 4) (.int .u32 1)).set (1 + E * 4 + 1) (.int .i32 0) = L7 at *
      go_wp2
      go_ret
      exact ⟨rfl, ⟨L7, q7, HM.out, HQ.out⟩, T7⟩
  · refine (once_done ⟨p, 1 + E * 4, none⟩ 1 (by decide) _ w4 (q3.cellAt k0)).mono ?_
    rintro e w' ⟨rfl, rfl⟩
    have c4 := q3.cellAt k3
    have HK : Hid _ := hk
    clear k0 k3 hk
    rw [HKE.out] at c4
    go_wp2
    go_ret
    exact ⟨rfl, ⟨l, q3, HK.out, RowOut.refl _ _ _⟩, T4⟩

end Go.Proofs.YtanghehmfagmfaaGreatDoor

/-
  Package record: new ones, and an Out's number.
-/
namespace Go.Proofs.YtanghehmfagmfaaGreatDoor
open Go.RowKit
set_option linter.unusedVariables false
set_option maxRecDepth 100000
set_option linter.unusedSimpArgs false

/-- The keys of a new direction. -/
def keyCells (key : ByteArray) : List Value := .string key :: (List.replicate 50 [.int .u32 0, .int .i32 0, .int .u32 0, .string ⟨#[]⟩]).flatten
def outCells (key : ByteArray) : List Value := keyCells key ++ [.int .i64 0]
def inCells (key : ByteArray) : List Value := keyCells key ++ (winRow 0 (List.replicate 64 false) ++ List.replicate 64 (.string ⟨#[]⟩))
theorem flat_at {B : List Value} (hB : B.length = 4) : ∀ (n e k : Nat), e < n → k < 4 → (List.replicate n B).flatten[e * 4 + k]? = B[k]?
  | 0, e, k, h, _ => absurd h (by omega)
  | n + 1, e, k, h, hk => by
    rw [List.replicate_succ, List.flatten_cons]
    cases e with
    | zero => rw [List.getElem?_append_left (by omega), Nat.zero_mul, Nat.zero_add]
    | succ e =>
      rw [List.getElem?_append_right (by omega), show (e + 1) * 4 + k - B.length = e * 4 + k by omega]
      exact flat_at hB n e k (by omega) hk
theorem keyCells_len (key : ByteArray) : (keyCells key).length = 201 := rfl
theorem keyCells_is (key : ByteArray) (r : List Value) : KeySeg key (keyCells key ++ r) := by
  have h : ∀ e k, e < 50 → k < 4 → (keyCells key ++ r)[1 + e * 4 + k]? = ([.int .u32 0, .int .i32 0, .int .u32 0, .string ⟨#[]⟩] : List Value)[k]? := fun e k he hk => by
    rw [List.getElem?_append_left (by rw [keyCells_len]; omega)]
    unfold keyCells
    rw [show 1 + e * 4 + k = (e * 4 + k) + 1 by omega, List.getElem?_cons_succ]
    exact flat_at rfl 50 e k he hk
  refine ⟨rfl, fun e he => Or.inl ⟨?_, h e 1 he (by omega), ⟨#[]⟩, h e 3 he (by omega)⟩⟩
  have := h e 0 he (by omega)
  rwa [Nat.add_zero] at this
theorem inCells_is (key : ByteArray) : InCells (InS.zero key) (inCells key) := by
  have hw : ∀ i, (inCells key)[201 + i]? = (winRow 0 (List.replicate 64 false) ++ List.replicate 64 (Value.string ⟨#[]⟩))[i]? := fun i => by
    unfold inCells
    rw [List.getElem?_append_right (by rw [keyCells_len]; omega), keyCells_len, Nat.add_sub_cancel_left]
  have hwl : (winRow 0 (List.replicate 64 false)).length = 65 := rfl
  refine ⟨keyCells_is key _, ⟨List.replicate 64 false, places_zero, ⟨hw 0, fun j hj => ?_⟩⟩, ⟨fun j hj => ⟨⟨#[]⟩, ?_⟩, fun q hq => by cases hq⟩⟩
  · rw [show 201 + 1 + j = 201 + (1 + j) by omega, hw, List.getElem?_append_left (by omega)]
    exact winRow_at 0 _ j (by simp; exact hj)
  · rw [show 266 + j = 201 + (65 + j) by omega, hw, List.getElem?_append_right (by omega), hwl, Nat.add_sub_cancel_left, List.getElem?_replicate, if_pos hj]

set_option maxHeartbeats 1000000 in
theorem rec_newOut (w : World) (key : ByteArray) (h32 : key.size = 32) :
    Calls Tryz.prog 15 #[.string key] w fun e w' => ∃ p, e = .returned (.pointer (some ⟨p, 0, none⟩)) ∧ RowIs w' p 91 (outCells key) ∧ w.heap.size ≤ p ∧ Below w.heap.size w w' := by
  have PC : Hid _ := fun w1 => strings_cloneR key w1 (by omega)
  go_enter Tryz.func15, Tryz.ntmps15
  go_wp2_with fail
  with_reducible refine (PC.out _).mono ?_
  rintro e w1 ⟨rfl, b1⟩
  go_wp2_with (first | (refine wpList_build rfl 86 _ rfl (keyCells key).toArray (by kernel_rfl) ?_) | (refine wpList_build rfl 91 _ rfl (outCells key).toArray (by kernel_rfl) ?_) | (refine wpList_boxN (z := (outCells key).toArray) rfl rfl rfl w1.heap.size rfl ?_))
  go_ret
  exact ⟨w1.heap.size, rfl, RowIs.new w1 _ _, b1.size, b1.alloc b1.size _⟩
set_option maxHeartbeats 1000000 in
theorem rec_newIn (w : World) (key : ByteArray) (h32 : key.size = 32) :
    Calls Tryz.prog 16 #[.string key] w fun e w' => ∃ p, e = .returned (.pointer (some ⟨p, 0, none⟩)) ∧ RowIs w' p 97 (inCells key) ∧ w.heap.size ≤ p ∧ Below w.heap.size w w' := by
  have PC : Hid _ := fun w1 => strings_cloneR key w1 (by omega)
  go_enter Tryz.func16, Tryz.ntmps16
  go_wp2_with fail
  with_reducible refine (PC.out _).mono ?_
  rintro e w1 ⟨rfl, b1⟩
  go_wp2_with (first | (refine wpList_build rfl 86 _ rfl (keyCells key).toArray (by kernel_rfl) ?_) | (refine wpList_build rfl 97 _ rfl (inCells key).toArray (by kernel_rfl) ?_) | (refine wpList_boxN (z := (inCells key).toArray) rfl rfl rfl w1.heap.size rfl ?_))
  go_ret
  exact ⟨w1.heap.size, rfl, RowIs.new w1 _ _, b1.size, b1.alloc b1.size _⟩
theorem rec_newOutNo (w : World) (key : ByteArray) (h : key.size ≤ 1000000) (hk : key.size ≠ 32) : Calls Tryz.prog 15 #[.string key] w fun e w' => e = .returned (.pointer none) ∧ Below w.heap.size w w' := by
  have d : ((key.size : Int) == 32) = false := beq_eq_false_iff_ne.2 (by omega)
  go_enter Tryz.func15, Tryz.ntmps15
  go_wp2
  go_ret
  exact ⟨rfl, Below.refl _ _⟩

theorem rec_claim (w : World) (p : Nat) (t : TypeId) (l : List Value) (n : Nat) (hr : RowIs w p t l) (hc : l[201]? = some (.int .i64 (n : Int))) (hn : n ≤ 1000000) :
    Calls Tryz.prog 33 #[.pointer (some ⟨p, 0, none⟩)] w fun e w' => e = .returned (.tuple #[.int .i64 (n : Int), .bool (decide (n < 400))]) ∧ w' = w.setCell ⟨p, 201, none⟩ (.int .i64 ((n + 1 : Nat) : Int)) := by
  have PA := i64_addR ⟨p, 201, none⟩ (n : Int) 1 w (hr.cellAt hc) (hr.frozen 201) (by omega) (by omega)
  have hd : decide ((n : Int) < 400) = decide (n < 400) := decide_eq_decide.2 (by omega)
  have h0 : (n : Int) ≤ 1000000 := by omega
  have h1 : (0 : Int) ≤ n := by omega
  clear hr hc hn
  rw [show ((n + 1 : Nat) : Int) = (n : Int) + 1 by omega, ← hd]
  clear hd
  go_enter Tryz.func33, Tryz.ntmps33
  go_wp2_with fail
  with_reducible refine PA.mono ?_
  rintro e w' ⟨rfl, rfl⟩
  go_wp2
  go_ret2
  exact ⟨rfl, rfl⟩
theorem rec_outNext (w : World) (p : Nat) (t : TypeId) (l : List Value) (n : Nat) (hr : RowIs w p t l) (hc : l[201]? = some (.int .i64 (n : Int))) (hn : n ≤ 2000000) :
    Calls Tryz.prog 19 #[.pointer (some ⟨p, 0, none⟩)] w fun e w' => e = .returned (.int .i64 (min (n : Int) 400)) ∧ w = w' := by
  have PL := i64_loadR ⟨p, 201, none⟩ n w (hr.cellAt hc)
  have h0 : (n : Int) ≤ 2000000 := by omega
  have h1 : (0 : Int) ≤ n := by omega
  clear hr hc hn
  go_enter Tryz.func19, Tryz.ntmps19
  go_wp2_with fail
  with_reducible refine PL.mono ?_
  rintro e w' ⟨rfl, rfl⟩
  go_wp2
  go_ret
  exact ⟨rfl, rfl⟩
theorem rec_outNextNil (w : World) : Calls Tryz.prog 19 #[.pointer none] w fun e w' => e = .returned (.int .i64 0) ∧ Below w.heap.size w w' := by
  go_enter Tryz.func19, Tryz.ntmps19
  go_wp2
  go_ret
  exact ⟨rfl, Below.refl _ _⟩
theorem rec_inNextNil (w : World) : Calls Tryz.prog 24 #[.pointer none] w fun e w' => e = .returned (.int .i64 0) ∧ Below w.heap.size w w' := by
  go_enter Tryz.func24, Tryz.ntmps24
  go_wp2
  go_ret
  exact ⟨rfl, Below.refl _ _⟩
theorem rec_waitsNil (w : World) : Calls Tryz.prog 25 #[.pointer none] w fun e w' => e = .returned (.int .i64 0) ∧ Below w.heap.size w w' := by
  go_enter Tryz.func25, Tryz.ntmps25
  go_wp2
  go_ret
  exact ⟨rfl, Below.refl _ _⟩
theorem rec_sealNil (w : World) (t : ByteArray) : Calls Tryz.prog 17 #[.pointer none, .string t] w fun e w' => ∃ s, e = .returned (.tuple #[.string s, .int .i64 7]) ∧ Below w.heap.size w w' := by
  go_enter Tryz.func17, Tryz.ntmps17
  go_wp2
  go_ret2
  exact ⟨_, rfl, Below.refl _ _⟩
theorem rec_openNil (w : World) (t : ByteArray) : Calls Tryz.prog 20 #[.pointer none, .string t] w fun e w' => ∃ v, e = .returned (.tuple #[v, .int .i64 7]) ∧ Below w.heap.size w w' := by
  go_enter Tryz.func20, Tryz.ntmps20
  go_wp2
  go_ret2
  exact ⟨_, rfl, Below.refl _ _⟩

end Go.Proofs.YtanghehmfagmfaaGreatDoor

/-
  Package record: what is taken, and all that can be told in order then.
-/
namespace Go.Proofs.YtanghehmfagmfaaGreatDoor
open Go.RowKit
set_option linter.unusedVariables false
set_option maxRecDepth 100000
set_option linter.unusedSimpArgs false

theorem rec_place (x : Nat) (w : World) (hx : x ≤ 2000000) : Calls Tryz.prog 112 #[.int .i64 (x : Int)] w fun e w' => e = .returned (.int .i64 ((x % 64 : Nat) : Int)) ∧ w' = w := by
  have e := tmod_place x
  generalize x % 64 = K at *
  go_enter Tryz.func112, Tryz.ntmps112
  go_wp2
  go_ret
  exact ⟨rfl, rfl⟩
theorem own_moreK {w : World} {base : Nat} {v' : Value} {l : List ByteArray} {x : ByteArray} (h : w.ownsRow base 9 1 v' (l.length + 1) (cellsT l ++ [.string x])) : OwnT w base v' (l ++ [x]) := by
  unfold OwnT
  rw [List.length_append, cellsT_append]
  exact h
theorem row_touch13 {S : Nat → Prop} {w w' : World} {g : Nat} {t : TypeId} {l : List Value} (h : RowIs w g t l) (ht : Touch S w w') (hn : ¬ S g) : RowIs w' g t l := by
  show w'.heap[g]? = _
  rw [ht.block g h.lt hn]
  exact h
/-- The texts that were told up to m. -/
def texts13 (T : Nat → ByteArray) (n m : Nat) : List ByteArray := (List.range (m - n)).map fun j => T (n + j)
theorem texts13_none (T : Nat → ByteArray) (n : Nat) : texts13 T n n = [] := by unfold texts13; rw [Nat.sub_self]; rfl
theorem texts13_more (T : Nat → ByteArray) (n m : Nat) (h : n ≤ m) : texts13 T n (m + 1) = texts13 T n m ++ [T m] := by
  unfold texts13
  rw [show m + 1 - n = (m - n) + 1 by omega, List.range_succ, List.map_append, List.map_singleton, show n + (m - n) = m by omega]
theorem texts13_len (T : Nat → ByteArray) (n m : Nat) : (texts13 T n m).length = m - n := by unfold texts13; rw [List.length_map, List.length_range]
theorem WaitSeg.less {W W' : Wait} {n : Nat} {l : List Value} (h : WaitSeg W n l) (hs : ∀ q ∈ W', q ∈ W) : WaitSeg W' n l := ⟨h.some_, fun q hq hn => h.at_ q (hs q hq) hn⟩

set_option maxHeartbeats 2000000 in
theorem rec_take (w : World) (p : Nat) (s : InS) (b : ByteArray) (l : List Value) (hs : s.Ok) (hr : RowIs w p 97 l) (hl : InCells s l) (ho : oldR s b = false) :
    Calls Tryz.prog 47 #[.pointer (some ⟨p, 0, none⟩), .int .i64 (seqN b : Int), .string (textR s.key b)] w fun e w' => ∃ v, e = .returned v ∧ OwnT w' w.heap.size v (moreR s b).1 ∧ (∃ l', RowIs w' p 97 l' ∧ InCells ⟨s.key, (moreR s b).2.1, (moreR s b).2.2⟩ l') ∧ Touch (fun k => k = p) w w' := by
  obtain ⟨h1, h2, h3⟩ := old_no ho
  obtain ⟨e1, e2, e3, e4, e5, e6⟩ := take_first hs ho
  have HP : Hid _ := fun B => take_places hs ho (B := B)
  obtain ⟨hk, ⟨B, hB, hw⟩, hwt⟩ := hl
  have hn := hs.next
  have hrng : ∀ q ∈ s.W, s.next ≤ q.1 ∧ q.1 < s.next + 64 ∧ q.1 ≠ seqN b := fun q hq => by
    have := hs.range q hq
    have := h3 q hq
    omega
  have hrng2 : ∀ q ∈ s.W ++ [(seqN b, textR s.key b)], q.1 < s.next + 64 := fun q hq => by
    rcases List.mem_append.1 hq with hq | hq
    · exact (hrng q hq).2.1
    · simp at hq; subst hq; exact h2
  have hT : ∀ z ∈ numsW s.W, z < (s.next : Int) + 64 := fun z hz => by
    obtain ⟨q, hq, rfl⟩ := numsW_mem hz
    have := (hrng q hq).2.1
    omega
  have hx : ((seqN b : Nat) : Int) ∉ numsW s.W := fun hm => by
    obtain ⟨q, hq, e⟩ := mem_numsW.1 hm
    exact h3 q hq e
  have PN := win_nextO w p 201 s.next B _ l hr hw
  have PT := win_takeO w p 201 s.next (numsW s.W) B (seqN b) _ l hr hw hB (by omega) hT h1 h2 hx
  have HWT : Hid _ := hwt
  have HK : Hid _ := hk
  have hput : ∀ l', WaitSeg s.W s.next l' → WaitSeg (s.W ++ [(seqN b, textR s.key b)]) s.next (l'.set (266 + seqN b % 64) (.string (textR s.key b))) := fun l' h => h.put _ _ ⟨h1, h2⟩ hrng
  have HPUT : Hid _ := hput
  have PP : Hid _ := fun w1 => rec_place (seqN b) w1 (by omega)
  have PQ : Hid (∀ m, m ≤ s.next + 64 → ∀ w1, Calls Tryz.prog 112 #[.int .i64 (m : Int)] w1 fun e w' => e = .returned (.int .i64 ((m % 64 : Nat) : Int)) ∧ w' = w1) := fun m hm w1 => rec_place m w1 (by omega)
  have HTELL : Hid (∀ l' m v, s.next ≤ m → WaitSeg (s.W ++ [(seqN b, textR s.key b)]) m l' → WaitSeg (s.W ++ [(seqN b, textR s.key b)]) (m + 1) (l'.set (266 + m % 64) (.string v))) := fun l' m v hm h => h.tell hrng2 hm v
  rw [e1] at PT HP
  have HE6 : Hid _ := e6
  have HE5 : Hid _ := e5
  have HE4 : Hid ((moreR s b).1 = texts13 (tOf (s.W ++ [(seqN b, textR s.key b)])) s.next (moreR s b).2.1) := e4
  rw [HE4.out]
  clear hk hw hB hwt hput hrng hrng2 hT hx e6 e5 e4 e1 h1 h2 h3 ho hs HE4
  generalize (moreR s b).2.1 = M at *
  generalize (moreR s b).2.2 = W2 at *
  generalize tOf (s.W ++ [(seqN b, textR s.key b)]) = T at *
  generalize s.W ++ [(seqN b, textR s.key b)] = W1 at *
  generalize textR s.key b = t at *
  generalize hxK : seqN b = x at *
  have hlt : x % 64 < 64 := Nat.mod_lt _ (by decide)
  generalize x % 64 = K at *
  have k0 : (0 : Int) ≤ (K : Int) := by omega
  have k1 : (K : Int) < (64 : Int) := by omega
  generalize s.next = n at *
  obtain ⟨i0, hi0, hz0, hz1, hz2⟩ := info_parts infoT
  have hpl := hr.lt
  go_enter Tryz.func47, Tryz.ntmps47
  go_wp2_with fail
  with_reducible refine PN.mono ?_
  rintro e w' ⟨rfl, rfl⟩
  clear PN
  go_wp2_with fail
  with_reducible refine PT.mono ?_
  rintro e w1 ⟨rfl, ⟨B', l1, hB1, r1, s1, o1⟩, T1⟩
  clear PT hr
  have k1' : KeySeg s.key l1 := HK.out.keep (fun i hi => o1.out i (by omega))
  have wt1 : WaitSeg s.W n l1 := HWT.out.keep (fun i hi => o1.out i (by omega))
  obtain ⟨u, hu⟩ := wt1.some_ K hlt
  have cu := r1.cellAt hu
  have zu := r1.frozen (266 + K)
  have r2 : Hid (RowIs (w1.setCell ⟨p, 266 + K, none⟩ (.string t)) p 97 (l1.set (266 + K) (.string t))) := r1.set (266 + K) (.string t)
  have T2 : Hid (Touch (fun k => k = p) w (w1.setCell ⟨p, 266 + K, none⟩ (.string t))) := T1.set (p := ⟨p, 266 + K, none⟩) (Or.inl rfl) (.string t)
  have wt2 : Hid (WaitSeg W1 n (l1.set (266 + K) (.string t))) := HPUT.out _ wt1
  have k2 : Hid (KeySeg s.key (l1.set (266 + K) (.string t))) := k1'.keep (fun i hi => List.getElem?_set_ne (by omega))
  have s2 : Hid (WinSeg 201 M B' (l1.set (266 + K) (.string t))) := s1.keep (fun i h1 h2 => List.getElem?_set_ne (by omega))
  clear r1 T1 wt1 k1' s1 o1 HWT HK HPUT hu
  have HB1 : Hid _ := hB1
  clear hB1
  go_wp2_with fail
  go_region_with (first | (go_at_call 112; with_reducible refine (PP.out _).mono ?_; rintro e w' ⟨rfl, rfl⟩))
  have ri := Touch.size T2.out
  go_wp2_with fail
  go_loopw [8, 9] (fun v i wr => ∃ m : Nat, i = .int .i64 (m : Int) ∧ n ≤ m ∧ m ≤ M ∧ OwnT wr w.heap.size v (texts13 T n m) ∧ (∃ l', RowIs wr p 97 l' ∧ KeySeg s.key l' ∧ WinSeg 201 M B' l' ∧ WaitSeg W1 m l') ∧ Touch (fun k => k = p) w wr) (fun _ i _ => M - (intOf i).toNat)
  case atStart => exact ⟨n, rfl, Nat.le_refl _, e2, by rw [texts13_none]; exact ⟨rfl, Or.inl ⟨rfl, rfl⟩⟩, ⟨_, by first | exact r2.out | exact r2.out.drew, k2.out, s2.out, wt2.out⟩, by first | exact T2.out | exact T2.out.drew⟩
  case round =>
    clear r2 T2 wt2 k2 s2 cu zu PP ri
    obtain ⟨m, rfl, h1, h2, hown, ⟨l', hrow, hk, hsg, hwt⟩, ht⟩ := hrel
    have PN := win_nextO wr p 201 M B' _ l' hrow hsg
    have htz := ht.size
    by_cases hlt2 : m < M
    · have d1 : decide ((m : Int) < (M : Int)) = true := decide_eq_true (by omega)
      have c1 : wr.cell? ⟨p, 266 + m % 64, none⟩ = some (.string (T m)) := hrow.cellAt (hwt.at_ _ (HE6.out m h1 hlt2) (Nat.le_refl _))
      have PM : Hid _ := PQ.out m (by omega)
      have HTL : Hid _ := HTELL.out l' m ⟨#[]⟩ h1 hwt
      have hlt3 : m % 64 < 64 := Nat.mod_lt _ (by decide)
      have HM : Hid _ := texts13_more T n m h1
      have hlen := texts13_len T n m
      have hN : (texts13 T n m).length ≤ 64 := by omega
      clear hlen hwt
      generalize m % 64 = J at *
      generalize T m = TM at *
      generalize texts13 T n m = L at *
      have j0 : (0 : Int) ≤ (J : Int) := by omega
      have j1 : (J : Int) < (64 : Int) := by omega
      obtain ⟨ao, cap, rfl⟩ := hown.shape
      have hownd : OwnT wr.drew w.heap.size (.slice ao L.length cap) L := hown.below ((Below.refl _ _).drew)
      have HNP : Hid (∀ k, (Value.slice ao L.length cap).ownBlock = some k → k ≠ p) := fun k hk e => by
        have := (World.ownsRow.lt hown k hk).1
        omega
      have c1d : wr.drew.cell? ⟨p, 266 + J, none⟩ = some (.string TM) := by rw [World.cell?_drew]; exact c1
      have c2 : ∀ ob, (wr.drew.alloc ob).cell? ⟨p, 266 + J, none⟩ = some (.string TM) := fun ob => cell_alloc9 c1d ob
      have HROW : Hid (RowIs wr p 97 l') := hrow
      have HK2 : Hid (KeySeg s.key l') := hk
      have HS2 : Hid (WinSeg 201 M B' l') := hsg
      have HT : Hid (Touch (fun k => k = p) w wr) := ht
      clear hrow hk hsg ht
      go_wp2_with fail
      with_reducible refine PN.mono ?_
      rintro e w' ⟨rfl, rfl⟩
      clear PN
      go_wp2_with fail
      go_region_held3 (fun w' => w'.cell? ⟨p, 266 + J, none⟩ = some (.string TM)) (first | exact c3 | exact c2 _ | exact c1d | exact c1) (first | (go_at_call 112; with_reducible refine (PM.out _).mono ?_; rintro e w' ⟨rfl, rfl⟩) | (refine step_append_two _ rfl (.tmp 35) (.tmp 43) 31 rfl w.heap.size 9 i0 (.string ⟨#[]⟩) 1 16 Tryz.underlying31 hi0 hz0 hz1 hz2 rfl (by decide) (.slice ao L.length cap) L.length (cellsT L) rfl (World.ownsRow.alloc hownd _) ⟨wr.drew.heap.size, 0, none⟩ 1 1 [.string TM] rfl rfl (cell_one_new wr.drew (.string TM) 9) (by intro u hu; simp at hu; rw [hu]; rfl) (by unfold maxLen; omega) (by omega) (by simp; omega) ?_; intro v' w3 ho3 hg3 hat3; have c3 := (row_touch13 (HROW.out.drew.alloc (.cells #[.string TM] 9)) (touch_grown hg3) (fun e => HNP.out p e rfl)).cellAt (j := 266 + J) (v := .string TM) (by rw [← HROW.out.cell]; exact c1)))
      all_goals
        have hrow3 : RowIs w3 p 97 l' := row_touch13 (HROW.out.drew.alloc (.cells #[.string TM] 9)) (touch_grown hg3) (fun e => HNP.out p e rfl)
        have T3 : Touch (fun k => k = p) w w3 := (HT.out.drew.alloc _).grown hg3 (fun k hk => Or.inr (World.ownsRow.lt hown k hk).1)
        have HO3 : Hid (OwnT (w3.setCell ⟨p, 266 + J, none⟩ (.string ⟨#[]⟩)) w.heap.size v' (L ++ [TM])) := own_touch (own_moreK ho3) ((Touch.refl (fun k => k = p) w3).set (p := ⟨p, 266 + J, none⟩) (Or.inl rfl) (.string ⟨#[]⟩)) (fun k hk hS => by
          have h3 := (World.ownsRow.lt ho3 k hk).1
          have h4 : k = p := hS
          omega)
        have HR3 : Hid (RowIs (w3.setCell ⟨p, 266 + J, none⟩ (.string ⟨#[]⟩)) p 97 (l'.set (266 + J) (.string ⟨#[]⟩))) := hrow3.set (266 + J) (.string ⟨#[]⟩)
        have HT3 : Hid (Touch (fun k => k = p) w (w3.setCell ⟨p, 266 + J, none⟩ (.string ⟨#[]⟩))) := T3.set (p := ⟨p, 266 + J, none⟩) (Or.inl rfl) (.string ⟨#[]⟩)
        have f3 := hrow3.frozen (266 + J)
        obtain ⟨ao', cap', hv'⟩ := (own_moreK ho3).shape
        rw [List.length_append, List.length_singleton] at hv'
        subst hv'
        clear ho3 hg3 hat3 hrow3 T3 hown hownd c1 c2 c1d
        go_wp2_with fail
        go_region_with (first | (go_at_call 112; with_reducible refine (PM.out _).mono ?_; rintro e w' ⟨rfl, rfl⟩))
        go_wp2
        go_roundw
        case rel => exact ⟨m + 1, by go_num, by omega, by omega, by rw [HM.out]; first | exact HO3.out | exact OwnT.below HO3.out ((Below.refl _ _).drew), ⟨_, by first | exact HR3.out | exact HR3.out.drew, HK2.out.keep (fun i hi => List.getElem?_set_ne (by omega)), HS2.out.keep (fun i h1 h2 => List.getElem?_set_ne (by omega)), HTL.out⟩, by first | exact HT3.out | exact HT3.out.drew⟩
        case measure => simp [intOf]; omega
    · obtain rfl : m = M := by omega
      have d1 : decide ((m : Int) < (m : Int)) = false := by simp
      have HF : Hid (InCells ⟨s.key, m, W2⟩ l') := ⟨hk, ⟨B', HP.out _ HB1.out, hsg⟩, hwt.less (fun q hq => ((HE5.out q).1 hq).1)⟩
      go_wp2_with fail
      with_reducible refine PN.mono ?_
      rintro e w' ⟨rfl, rfl⟩
      go_wp2
      go_ret
      exact ⟨_, rfl, hown, ⟨l', hrow, HF.out⟩, ht⟩

end Go.Proofs.YtanghehmfagmfaaGreatDoor
