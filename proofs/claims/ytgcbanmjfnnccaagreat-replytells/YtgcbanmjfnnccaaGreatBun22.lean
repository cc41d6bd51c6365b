/-
  Parts of this proof, one behind the other: Rep1, Rep2, RfC4.
-/
import Derived.Test.YtgcbanmjfnnccaaGreatBun17
import Derived.Test.YtgcbanmjfnnccaaGreatBun18
import Derived.Test.YtgcbanmjfnnccaaGreatBun5
import Derived.Test.YtgcbanmjfnnccaaGreatBun7
import Derived.Deep.RegionHeld3

/-
  Package command's isReply and PutReply.
-/
namespace Go.Proofs.YtgcbanmjfnnccaaGreat
open Go.RowKit
set_option linter.unusedVariables false
set_option maxRecDepth 100000
set_option linter.unusedSimpArgs false

def keysOf (n : Nat) (L : Nat → List UInt8) : List ByteArray := (List.range n).map fun i => str (L i)
theorem keysOf_len (n : Nat) (L : Nat → List UInt8) : (keysOf n L).length = n := by simp [keysOf]
theorem keysOf_at (n : Nat) (L : Nat → List UInt8) (i : Nat) (h : i < n) : (keysOf n L).getD i ⟨#[]⟩ = str (L i) := by simp [keysOf, h]
theorem keysOf_mem (n : Nat) (L : Nat → List UInt8) (k : ByteArray) (h : k ∈ keysOf n L) : ∃ i, i < n ∧ k = str (L i) := by
  obtain ⟨i, hi, rfl⟩ := List.mem_map.1 h
  exact ⟨i, by simpa using hi, rfl⟩
theorem keysOf_take (n : Nat) (L : Nat → List UInt8) (i : Nat) (h : i < n) : (keysOf n L).take (i + 1) = (keysOf n L).take i ++ [str (L i)] := by
  rw [List.take_add_one, List.getElem?_eq_getElem (by rw [keysOf_len]; exact h)]
  simp [keysOf]
/-- Of the first k keys none is too long. -/
def shortTo (L : Nat → List UInt8) (k : Nat) : Prop := ∀ i, i < k → (L i).length ≤ 60
theorem rep_ok_iff (e : Int) (s : ByteArray) (nu ve : Int) (n : Nat) (L : Nat → List UInt8) :
    (⟨e, s, nu, ve, keysOf n L⟩ : Rep).Ok ↔ ((0 ≤ e ∧ e ≤ 15) ∧ s.size ≤ 500 ∧ n ≤ 40) ∧ shortTo L n ∧ NumsOk nu ve := by
  constructor
  · rintro ⟨⟨h1, h2, h3, h4, h5⟩, h6⟩
    simp only [keysOf_len] at h5
    refine ⟨⟨h1, h4, h5⟩, fun i hi => ?_, h2, h3⟩
    have := h6 (str (L i)) (List.mem_map.2 ⟨i, by simpa using hi, rfl⟩)
    rwa [str_size] at this
  · rintro ⟨⟨h1, h4, h5⟩, h6, h2, h3⟩
    refine ⟨⟨h1, h2, h3, h4, by simpa [keysOf_len] using h5⟩, fun k hk => ?_⟩
    obtain ⟨i, hi, rfl⟩ := keysOf_mem n L k hk
    rw [str_size]
    exact h6 i hi

set_option maxHeartbeats 1000000 in
theorem command_isReply (e : Int) (s : ByteArray) (nu ve : Int) (oa : Option Addr) (n cap : Nat) (L : Nat → List UInt8) (w : World) (hs : s.size ≤ maxLen) (hn : n ≤ maxLen) (hL : ∀ i, i < n → (L i).length ≤ maxLen) (hk : StrsAt w oa n L) :
    Calls Tryz.prog 19 #[.agg #[.int .i64 e, .string s, .int .i64 nu, .int .i64 ve, .slice oa n cap]] w fun r w' => r = .returned (.bool (Rep.ok ⟨e, s, nu, ve, keysOf n L⟩)) ∧ Below w.heap.size w w' := by
  have hbel : ∀ o, Below w.heap.size w (w.alloc o) := fun o => (Below.refl _ _).alloc (Nat.le_refl _) _
  have hif := rep_ok_iff e s nu ve n L
  unfold maxLen at hs hn hL
  by_cases h0 : (0 ≤ e ∧ e ≤ 15) ∧ s.size ≤ 500 ∧ n ≤ 40
  · have q1 : decide (e < 0) = false := decide_eq_false (by omega)
    have q2 : decide (15 < e) = false := decide_eq_false (by omega)
    have q3 : decide (500 < (s.size : Int)) = false := decide_eq_false (by omega)
    have q4 : decide (40 < (n : Int)) = false := decide_eq_false (by omega)
    have hn40 : n ≤ 40 := h0.2.2
    have PN0 := fun w => command_areNumbers nu ve w
    obtain ⟨X, hX⟩ : ∃ X, decide (NumsOk nu ve) = X := ⟨_, rfl⟩
    have HX : Hid (X = true ↔ NumsOk nu ve) := by rw [← hX]; exact decide_eq_true_iff
    rw [hX] at PN0
    have PN : Hid _ := PN0
    clear PN0 hX
    have hrow : RowIs (w.alloc (.cells #[.int .i64 e, .string s, .int .i64 nu, .int .i64 ve, .slice oa n cap] 25)) w.heap.size 25 [.int .i64 e, .string s, .int .i64 nu, .int .i64 ve, .slice oa n cap] := RowIs.new w _ _
    have HI : Hid (Rep.Ok ⟨e, s, nu, ve, keysOf n L⟩ ↔ shortTo L n ∧ NumsOk nu ve) := by rw [hif]; exact ⟨fun h => h.2, fun h => ⟨h0, h⟩⟩
    have HK : Hid (∀ o, StrsAt (w.alloc o) oa n L) := fun o => hk.later (hbel o)
    clear hif hk h0 hs
    go_enter Tryz.func19, Tryz.ntmps19
    go_wp2_with fail
    have HK0 : Hid (StrsAt (w.alloc (.cells #[.int .i64 e, .string s, .int .i64 nu, .int .i64 ve, .slice oa n cap] 25)) oa n L) := HK.out _
    generalize hw : w.alloc (.cells #[.int .i64 e, .string s, .int .i64 nu, .int .i64 ve, .slice oa n cap] 25) = w1 at *
    have hb1 : Below w.heap.size w w1 := hw ▸ hbel _
    have c2 : w1.cell? ⟨w.heap.size, 2, none⟩ = some (.int .i64 nu) := hrow.cellAt rfl
    have c3 : w1.cell? ⟨w.heap.size, 3, none⟩ = some (.int .i64 ve) := hrow.cellAt rfl
    have HK1 : Hid (StrsAt w1 oa n L) := HK0
    clear hw hbel HK HK0 hrow
    go_loopw [28] (fun i wr => ∃ k : Nat, k ≤ n ∧ i = .int .i64 k ∧ wr = w1 ∧ shortTo L k) (fun i _ => n - (intOf i).toNat)
    case atStart => exact ⟨0, by omega, rfl, rfl, fun i hi => absurd hi (by omega)⟩
    case round =>
      obtain ⟨k, hk, rfl, rfl, hsh⟩ := hrel
      by_cases hlt : k < n
      · obtain ⟨bb, oo, rfl, hc⟩ := HK1.out k hlt
        have dlt : decide ((k : Int) < (n : Int)) = true := by simp; omega
        have d0 : (0 : Int) ≤ (k : Int) := by omega
        have d1 : (k : Int) < (n : Int) := by omega
        have hz : (str (L k)).size = (L k).length := str_size _
        by_cases hl : 60 < (L k).length
        · have hno : Rep.ok ⟨e, s, nu, ve, keysOf n L⟩ = false := decide_eq_false (by rw [HI.out]; exact fun h => absurd (h.1 k hlt) (by omega))
          have HN : Hid (false = Rep.ok ⟨e, s, nu, ve, keysOf n L⟩) := hno.symm
          have d2 : decide (60 < ((str (L k)).size : Int)) = true := decide_eq_true (by omega)
          have d3 : 60 < (str (L k)).size := by omega
          clear hno hz HI
          generalize str (L k) = K at *
          go_wp2
          go_ret
          exact ⟨ret_bool HN.out, hb1⟩
        · have d2 : decide (60 < ((str (L k)).size : Int)) = false := decide_eq_false (by omega)
          have d3 : ¬ 60 < (str (L k)).size := by omega
          have hsh' : Hid (shortTo L (k + 1)) := fun i hi => by
            by_cases h : i = k
            · subst h; omega
            · exact hsh i (by omega)
          clear hz hsh
          generalize str (L k) = K at *
          go_wp2
          go_roundw
          case rel => exact ⟨k + 1, by omega, by go_num, trivial, hsh'.out⟩
          case measure => simp [intOf]; omega
      · obtain rfl : k = n := by omega
        have dlt : decide ((k : Int) < (k : Int)) = false := by simp
        have HN : Hid (X = Rep.ok ⟨e, s, nu, ve, keysOf k L⟩) := by
          unfold Rep.ok
          show X = _
          rw [Bool.eq_iff_iff, HX.out, decide_eq_true_iff, HI.out]
          exact ⟨fun h => ⟨hsh, h⟩, fun h => h.2⟩
        clear HI hsh HX
        go_wp2_with fail
        with_reducible refine (PN.out _).mono ?_
        rintro r w2 ⟨rfl, rfl⟩
        go_wp2
        go_ret
        exact ⟨ret_bool HN.out, hb1⟩
  · have hno : Rep.ok ⟨e, s, nu, ve, keysOf n L⟩ = false := decide_eq_false (by rw [hif]; exact fun h => h0 h.1)
    rw [hno]
    have hcase : decide (e < 0) = true ∨ decide (e < 0) = false ∧ decide (15 < e) = true ∨ (decide (e < 0) = false ∧ decide (15 < e) = false) ∧ decide (500 < (s.size : Int)) = true ∨ (decide (e < 0) = false ∧ decide (15 < e) = false) ∧ decide (500 < (s.size : Int)) = false ∧ decide (40 < (n : Int)) = true := by
      by_cases h1 : e < 0
      · exact Or.inl (decide_eq_true h1)
      · by_cases h2 : 15 < e
        · exact Or.inr (Or.inl ⟨decide_eq_false h1, decide_eq_true h2⟩)
        · by_cases h3 : 500 < s.size
          · exact Or.inr (Or.inr (Or.inl ⟨⟨decide_eq_false h1, decide_eq_false h2⟩, decide_eq_true (by omega)⟩))
          · exact Or.inr (Or.inr (Or.inr ⟨⟨decide_eq_false h1, decide_eq_false h2⟩, decide_eq_false (by omega), decide_eq_true (by omega)⟩))
    clear hif hk h0 hno hL
    go_enter Tryz.func19, Tryz.ntmps19
    rcases hcase with c1 | ⟨c1, c2⟩ | ⟨⟨c1, c2⟩, c3⟩ | ⟨⟨c1, c2⟩, c3, c4⟩
    all_goals
      go_wp2
      go_ret
      exact ⟨rfl, hbel _⟩

end Go.Proofs.YtgcbanmjfnnccaaGreat

/-
  Package command's PutReply.
-/
namespace Go.Proofs.YtgcbanmjfnnccaaGreat
open Go.RowKit
set_option linter.unusedVariables false
set_option maxRecDepth 100000
set_option linter.unusedSimpArgs false

theorem strCells_is (s : ByteArray) : Lib.strCells s = cells8 s.data.toList := by
  simp [Lib.strCells, cells8, cell8]
theorem cells8_plus (a b : List UInt8) : cells8 (a ++ b) = cells8 a ++ cells8 b := by simp [cells8]
theorem bld_kept {T e : TypeId} {B b : Nat} {p : Value} {bs : List Value} {w w' : World} (h : Lib.BuilderAt T e B b p bs w) (hb : Below w.heap.size w w') : Lib.BuilderAt T e B b p bs w' := by
  obtain ⟨h1, v, h2, h3, h4⟩ := h
  exact ⟨h1, v, by rw [hb.block b (Array.getElem?_eq_some_iff.1 h2).1]; exact h2, own_touch h3 (Touch.of_below (S := fun _ => False) hb) (fun _ _ x => x), h4⟩
abbrev BldAt (w : World) (B : Nat) (p : Value) (l : List UInt8) : Prop := Lib.BuilderAt 57 5 B B p (cells8 l) w
theorem bld_new (w : World) : BldAt (w.alloc (.cells #[.pointer none, .slice none 0 0] 57)) w.heap.size (.pointer none) [] :=
  ⟨Nat.le_refl _, .slice none 0 0, RowIs.new w _ [.pointer none, .slice none 0 0], World.ownsRow_nil _ _ _ _, by simp [Value.ownBlock]⟩
theorem bld_write (B : Nat) (p : Value) (l : List UInt8) (s : ByteArray) (w : World) (hp : p = .pointer none ∨ p = .pointer (some ⟨B, 0, none⟩)) (h : BldAt w B p l) (hl : l.length + s.size ≤ 1000000) (hB : B ≤ w.heap.size) :
    Calls Tryz.prog 20 #[.pointer (some ⟨B, 0, none⟩), .string s] w fun e w' => (∃ v, e = .returned v) ∧ BldAt w' B (.pointer (some ⟨B, 0, none⟩)) (l ++ s.data.toList) ∧ Below B w w' := by
  have hi : Lib.IsBuilder 57 5 B B (cells8 l) w := by
    rcases hp with rfl | rfl
    · exact Or.inl h
    · exact Or.inr h
  refine (Tryz.Builder_WriteString B B _ s w hi (by rw [cells8_len]; omega) hB).mono ?_
  rintro e w' ⟨rfl, d, b⟩
  rw [strCells_is, ← cells8_plus] at d
  exact ⟨⟨_, rfl⟩, d, b⟩
theorem byteCells_is (l : List UInt8) : Lib.byteCells l = cells8 l := rfl
theorem bld_string (B : Nat) (l : List UInt8) (w : World) (h : BldAt w B (.pointer (some ⟨B, 0, none⟩)) l) (hB : B ≤ w.heap.size) :
    Calls Tryz.prog 24 #[.pointer (some ⟨B, 0, none⟩)] w fun e w' => e = .returned (.string (str l)) ∧ Below B w w' :=
  Tryz.Builder_String_any B B l w (Or.inr h) hB

theorem keysL_take (n : Nat) (L : Nat → List UInt8) (k : Nat) (h : k < n) : keysL ((keysOf n L).take (k + 1)) = keysL ((keysOf n L).take k) ++ (textS (str (L k)) 1).data.toList := by
  rw [keysOf_take n L k h, keysL_append]
  congr 1
  unfold textS putBigS
  rw [putBig1]
  simp [keysL, str]
theorem keysN_take (n : Nat) (L : Nat → List UInt8) (k : Nat) (h : shortTo L n) (hn : n ≤ 40) (hk : k ≤ n) : (keysL ((keysOf n L).take k)).length ≤ 2440 := by
  rw [keysL_len]
  have := keysN_le 60 ((keysOf n L).take k) (fun x hx => by
    obtain ⟨i, hi, rfl⟩ := keysOf_mem n L x (List.mem_of_mem_take hx)
    rw [str_size]; exact h i hi)
  rw [List.length_take, keysOf_len] at this
  omega

set_option maxHeartbeats 2000000 in
theorem command_putReply (e : Int) (s : ByteArray) (nu ve : Int) (oa : Option Addr) (n cap : Nat) (L : Nat → List UInt8) (w : World) (hs : s.size ≤ maxLen) (hn : n ≤ maxLen) (hL : ∀ i, i < n → (L i).length ≤ maxLen) (hk : StrsAt w oa n L) :
    Calls Tryz.prog 6 #[.agg #[.int .i64 e, .string s, .int .i64 nu, .int .i64 ve, .slice oa n cap]] w fun r w' => r = .returned (.tuple #[.string (Rep.put ⟨e, s, nu, ve, keysOf n L⟩), .bool (Rep.ok ⟨e, s, nu, ve, keysOf n L⟩)]) ∧ Below w.heap.size w w' := by
  have hbel : ∀ o, Below w.heap.size w (w.alloc o) := fun o => (Below.refl _ _).alloc (Nat.le_refl _) _
  have hrow : RowIs (w.alloc (.cells #[.int .i64 e, .string s, .int .i64 nu, .int .i64 ve, .slice oa n cap] 25)) w.heap.size 25 [.int .i64 e, .string s, .int .i64 nu, .int .i64 ve, .slice oa n cap] := RowIs.new w _ _
  have PI := fun w hk => command_isReply e s nu ve oa n cap L w hs hn hL hk
  have HK : Hid (StrsAt (w.alloc (.cells #[.int .i64 e, .string s, .int .i64 nu, .int .i64 ve, .slice oa n cap] 25)) oa n L) := hk.later (hbel _)
  have HKW : Hid (∀ w', Below w.heap.size w w' → StrsAt w' oa n L) := fun w' hb => hk.later hb
  clear hk
  by_cases ho : Rep.Ok ⟨e, s, nu, ve, keysOf n L⟩
  · have hok : Rep.ok ⟨e, s, nu, ve, keysOf n L⟩ = true := decide_eq_true ho
    have HP : Hid (str (Rep.head ⟨e, s, nu, ve, keysOf n L⟩ ++ keysL ((keysOf n L).take n)) = Rep.put ⟨e, s, nu, ve, keysOf n L⟩) := by
      rw [Rep.put_yes ho]
      unfold Rep.bytes
      rw [List.take_of_length_le (by rw [keysOf_len]; exact Nat.le_refl _)]
      rfl
    have hhl := Rep.head_len ⟨e, s, nu, ve, keysOf n L⟩
    have HD : Hid ((((([] ++ (putBigS e 1).data.toList) ++ (numsS nu ve).data.toList) ++ (textS s 2).data.toList) ++ (putBigS (n : Int) 1).data.toList) = Rep.head ⟨e, s, nu, ve, keysOf n L⟩) := by
      show _ = _
      unfold Rep.head textS numsS putBigS
      simp only [keysOf_len, putBig1]
      simp [str]
    obtain ⟨⟨⟨e1, e2⟩, s5, n40⟩, hsh, hnu, hve⟩ := (rep_ok_iff e s nu ve n L).1 ho
    rw [hok] at PI ⊢
    generalize Rep.head ⟨e, s, nu, ve, keysOf n L⟩ = HEAD at *
    generalize Rep.put ⟨e, s, nu, ve, keysOf n L⟩ = PUT at *
    simp only at hhl
    have PIH : Hid _ := PI
    have P1 : Hid _ := fun w => octet_putBig e 1 w (by omega) (by omega)
    have P2 : Hid _ := fun w => command_putNumbers nu ve w ⟨hnu, hve⟩
    have P3 : Hid _ := fun w => command_putText s 2 w (by omega) (Or.inr rfl)
    have P4 : Hid _ := fun w => octet_putBig (n : Int) 1 w (by omega) (by omega)
    have PK : Hid (∀ k w, k < n → Calls Tryz.prog 23 #[.string (str (L k)), .int .i64 1] w fun e w' => e = .returned (.string (textS (str (L k)) 1)) ∧ Below w.heap.size w w') := fun k w h => command_putText (str (L k)) 1 w (by have := hsh k h; rw [str_size]; omega) (Or.inl rfl)
    have u1 : IntKind.u64.wrap e = e := by rw [IntKind.wrap_u64]; omega
    have u2 : IntKind.u64.wrap (n : Int) = (n : Int) := by rw [IntKind.wrap_u64]; omega
    have z1 := putBigS1_size e
    have z2 := numsS_size nu ve
    have z3 := textS2_size s
    have z4 := putBigS1_size (n : Int)
    have HSH : Hid _ := hsh
    have HT : Hid (∀ k, k < n → (textS (str (L k)) 1).size ≤ 61) := fun k h => by rw [textS1_size, str_size]; have := hsh k h; omega
    generalize putBigS e 1 = A1 at *
    generalize numsS nu ve = A2 at *
    generalize textS s 2 = A3 at *
    generalize putBigS (n : Int) 1 = A4 at *
    clear PI hok hs hn hL ho e1 e2 hsh hnu hve
    go_enter Tryz.func6, Tryz.ntmps6
    go_wp2_with fail
    with_reducible refine (PIH.out _ HK.out).mono ?_
    rintro r w1 ⟨rfl, b1⟩
    have rr := hrow.below b1 hrow.lt
    replace b1 := bel_new b1
    have d := bld_new w1
    have hlt := rr.lt
    have c0 : w1.cell? ⟨w.heap.size, 0, none⟩ = some (.int .i64 e) := rr.cellAt rfl
    have hsz : w1.heap.size ≤ (w1.alloc (.cells #[.pointer none, .slice none 0 0] 57)).heap.size := by simp
    replace b1 : Below w.heap.size w (w1.alloc (.cells #[.pointer none, .slice none 0 0] 57)) := b1.alloc b1.size _
    replace rr := rr.alloc (.cells #[.pointer none, .slice none 0 0] 57)
    clear hrow
    go_wp2_with fail
    clear c0
    generalize w1.alloc (.cells #[.pointer none, .slice none 0 0] 57) = w2 at *
    generalize w1.heap.size = N at *
    with_reducible refine (P1.out _).mono ?_
    rintro r w3 ⟨rfl, b2⟩
    replace d := bld_kept d b2
    replace rr := rr.below b2 rr.lt
    replace b1 := bel_chain8 b1 b2
    replace hsz := Nat.le_trans hsz b2.size
    clear b2
    go_wp2_with fail
    refine (bld_write N _ _ A1 w3 (Or.inl rfl) d (by simp only [List.length_append, List.length_nil, Array.length_toList, ByteArray.size_data]; omega) hsz).mono ?_
    rintro r w4 ⟨⟨v, rfl⟩, d', b2⟩
    replace rr := rr.below b2 hlt
    replace b1 := b1.trans (b2.mono (Nat.le_of_lt hlt))
    replace hsz := Nat.le_trans hsz b2.size
    clear b2 d
    have d := d'
    clear d'
    have c2 : w4.cell? ⟨w.heap.size, 2, none⟩ = some (.int .i64 nu) := rr.cellAt rfl
    have c3 : w4.cell? ⟨w.heap.size, 3, none⟩ = some (.int .i64 ve) := rr.cellAt rfl
    go_wp2_with fail
    clear c2 c3
    with_reducible refine (P2.out _).mono ?_
    rintro r w5 ⟨rfl, b2⟩
    replace d := bld_kept d b2
    replace rr := rr.below b2 rr.lt
    replace b1 := bel_chain8 b1 b2
    replace hsz := Nat.le_trans hsz b2.size
    clear b2
    go_wp2_with fail
    refine (bld_write N _ _ A2 w5 (Or.inr rfl) d (by simp only [List.length_append, List.length_nil, Array.length_toList, ByteArray.size_data]; omega) hsz).mono ?_
    rintro r w6 ⟨⟨v, rfl⟩, d', b2⟩
    replace rr := rr.below b2 hlt
    replace b1 := b1.trans (b2.mono (Nat.le_of_lt hlt))
    replace hsz := Nat.le_trans hsz b2.size
    clear b2 d
    have d := d'
    clear d'
    have c1 : w6.cell? ⟨w.heap.size, 1, none⟩ = some (.string s) := rr.cellAt rfl
    go_wp2_with fail
    clear c1
    with_reducible refine (P3.out _).mono ?_
    rintro r w7 ⟨rfl, b2⟩
    replace d := bld_kept d b2
    replace rr := rr.below b2 rr.lt
    replace b1 := bel_chain8 b1 b2
    replace hsz := Nat.le_trans hsz b2.size
    clear b2
    go_wp2_with fail
    refine (bld_write N _ _ A3 w7 (Or.inr rfl) d (by simp only [List.length_append, List.length_nil, Array.length_toList, ByteArray.size_data]; omega) hsz).mono ?_
    rintro r w8 ⟨⟨v, rfl⟩, d', b2⟩
    replace rr := rr.below b2 hlt
    replace b1 := b1.trans (b2.mono (Nat.le_of_lt hlt))
    replace hsz := Nat.le_trans hsz b2.size
    clear b2 d
    have d := d'
    clear d'
    have c4 : w8.cell? ⟨w.heap.size, 4, none⟩ = some (.slice oa n cap) := rr.cellAt rfl
    go_wp2_with fail
    clear c4
    with_reducible refine (P4.out _).mono ?_
    rintro r w9 ⟨rfl, b2⟩
    replace d := bld_kept d b2
    replace rr := rr.below b2 rr.lt
    replace b1 := bel_chain8 b1 b2
    replace hsz := Nat.le_trans hsz b2.size
    clear b2
    go_wp2_with fail
    refine (bld_write N _ _ A4 w9 (Or.inr rfl) d (by simp only [List.length_append, List.length_nil, Array.length_toList, ByteArray.size_data]; omega) hsz).mono ?_
    rintro r w10 ⟨⟨v, rfl⟩, d', b2⟩
    replace rr := rr.below b2 hlt
    replace b1 := b1.trans (b2.mono (Nat.le_of_lt hlt))
    replace hsz := Nat.le_trans hsz b2.size
    clear b2 d
    have d := d'
    clear d'
    have c4 : w10.cell? ⟨w.heap.size, 4, none⟩ = some (.slice oa n cap) := rr.cellAt rfl
    rw [HD.out] at d
    go_wp2_with fail
    clear rr c4
    go_loopw [34] (fun i wr => ∃ k : Nat, k ≤ n ∧ i = .int .i64 k ∧ BldAt wr N (.pointer (some ⟨N, 0, none⟩)) (HEAD ++ keysL ((keysOf n L).take k)) ∧ Below w.heap.size w wr ∧ N ≤ wr.heap.size) (fun i _ => n - (intOf i).toNat)
    case atStart => exact ⟨0, Nat.zero_le _, rfl, by rw [List.take_zero]; simpa [keysL] using d, b1, hsz⟩
    case round =>
      clear d b1 hsz
      obtain ⟨k, hk, rfl, d, b1, hsz⟩ := hrel
      have hkn := keysN_take n L k HSH.out n40 hk
      by_cases hlt2 : k < n
      · obtain ⟨bb, oo, rfl, hc⟩ := HKW.out _ b1 k hlt2
        have dlt : decide ((k : Int) < (n : Int)) = true := by simp; omega
        have d0 : (0 : Int) ≤ (k : Int) := by omega
        have d1 : (k : Int) < (n : Int) := by omega
        have HQ : Hid _ := keysL_take n L k hlt2
        have hq := HT.out k hlt2
        have PQ : Hid _ := fun w => PK.out k w hlt2
        clear PK HT
        generalize str (L k) = K at *
        generalize textS K 1 = TT at *
        generalize keysL ((keysOf n L).take k) = KL at *
        go_wp2_with fail
        with_reducible refine (PQ.out _).mono ?_
        rintro r v1 ⟨rfl, b2⟩
        replace d := bld_kept d b2
        replace b1 := bel_chain8 b1 b2
        replace hsz := Nat.le_trans hsz b2.size
        clear b2 hc
        go_wp2_with fail
        refine (bld_write N _ _ TT v1 (Or.inr rfl) d (by simp only [List.length_append]; omega) hsz).mono ?_
        rintro r v2 ⟨⟨v, rfl⟩, d', b2⟩
        replace b1 := b1.trans (b2.mono (Nat.le_of_lt hlt))
        replace hsz := Nat.le_trans hsz b2.size
        go_wp2_with fail
        go_roundw
        case rel => exact ⟨k + 1, by omega, by go_num, by rw [HQ.out, ← List.append_assoc]; exact d', b1, hsz⟩
        case measure => simp [intOf]; omega
      · obtain rfl : k = n := by omega
        have dlt : decide ((k : Int) < (k : Int)) = false := by simp
        go_wp2_with fail
        refine (bld_string N _ _ d hsz).mono ?_
        rintro r v1 ⟨rfl, b2⟩
        go_wp2
        go_ret2
        exact ⟨ret_sb10 HP.out rfl, b1.trans (b2.mono (Nat.le_of_lt hlt))⟩
  · have hok : Rep.ok ⟨e, s, nu, ve, keysOf n L⟩ = false := decide_eq_false ho
    rw [hok, Rep.put_no ho]
    rw [hok] at PI
    clear ho hok hs hn hL HKW hrow
    go_enter Tryz.func6, Tryz.ntmps6
    go_wp2_with fail
    with_reducible refine (PI _ HK.out).mono ?_
    rintro r w1 ⟨rfl, b1⟩
    go_wp2
    go_ret2
    exact ⟨rfl, bel_new b1⟩

end Go.Proofs.YtgcbanmjfnnccaaGreat

/-
  The contract of the reference's PutReply.
-/
namespace Go.Proofs.YtgcbanmjfnnccaaGreat
open Go.RowKit
set_option linter.unusedVariables false
set_option maxRecDepth 100000
set_option linter.unusedSimpArgs false

theorem ref_number10 (v : Int) (w : World) : Calls Tryz.prog 25 #[.int .i64 v] w fun e w' => e = .returned (.bool (decide (-1000000000000 ≤ v ∧ v ≤ 1000000000000))) ∧ w = w' := by
  obtain ⟨x1, y1⟩ : ∃ x, decide (-1000000000000 ≤ v) = x := ⟨_, rfl⟩
  obtain ⟨x2, y2⟩ : ∃ x, decide (v ≤ 1000000000000) = x := ⟨_, rfl⟩
  have e : decide (-1000000000000 ≤ v ∧ v ≤ 1000000000000) = (x1 && x2) := by
    subst y1 y2
    simp
  rw [e]
  clear e
  go_enter Tryz.func25, Tryz.ntmps25
  cases x1 <;> (try cases x2) <;>
  · go_wp2
    go_ret
    exact ⟨rfl, rfl⟩

def opConvR (x : Operand) : Op := Op.convert 55 9 x
theorem opConvR_is (x : Operand) : Op.convert 55 9 x = opConvR x := rfl
theorem opConvR_back (x : Operand) : opConvR x = Op.convert 55 9 x := rfl
theorem conv_oneN (c : UInt8) (W : World) : (convert 55 9 (.slice (some ⟨W.heap.size, 0, none⟩) 1 1)).run Tryz.prog (W.alloc (.cells #[.int .u8 (c.toNat : Int)] 5)) = .ok (.string (str [c])) (W.alloc (.cells #[.int .u8 (c.toNat : Int)] 5)) :=
  conv_one (RowIs.new W 5 [.int .u8 (c.toNat : Int)])
theorem conv_oneD (c : UInt8) (W : World) : (convert 55 9 (.slice (some ⟨W.heap.size, 0, none⟩) 1 1)).run Tryz.prog (W.alloc (.cells #[.int .u8 (c.toNat : Int)] 5)).drew = .ok (.string (str [c])) (W.alloc (.cells #[.int .u8 (c.toNat : Int)] 5)).drew :=
  have h := RowIs.new W 5 [.int .u8 (c.toNat : Int)]
  conv_one (h.below ((Below.refl _ _).drew) h.lt)

set_option maxHeartbeats 4000000 in
theorem ref_putReply (e : Int) (s : ByteArray) (nu ve : Int) (oa : Option Addr) (n cap : Nat) (L : Nat → List UInt8) (w : World) (hn : n ≤ maxLen) (hL : ∀ i, i < n → (L i).length ≤ maxLen) (hk : StrsAt w oa n L) :
    Calls Tryz.prog 7 #[.agg #[.int .i64 e, .string s, .int .i64 nu, .int .i64 ve, .slice oa n cap]] w fun r w' => r = .returned (.tuple #[.string (Rep.put ⟨e, s, nu, ve, keysOf n L⟩), .bool (Rep.ok ⟨e, s, nu, ve, keysOf n L⟩)]) ∧ Below w.heap.size w w' := by
  have hbel : Below w.heap.size w (w.alloc (.cells #[.int .i64 e, .string s, .int .i64 nu, .int .i64 ve, .slice oa n cap] 25)) := (Below.refl _ _).alloc (Nat.le_refl _) _
  have hrow : RowIs (w.alloc (.cells #[.int .i64 e, .string s, .int .i64 nu, .int .i64 ve, .slice oa n cap] 25)) w.heap.size 25 [.int .i64 e, .string s, .int .i64 nu, .int .i64 ve, .slice oa n cap] := RowIs.new w _ _
  have HKW : Hid (∀ w', Below w.heap.size w w' → StrsAt w' oa n L) := fun w' hb => hk.later hb
  have PN0 := fun w => ref_number10 nu w
  have hif := rep_ok_iff e s nu ve n L
  obtain ⟨x1, y1⟩ : ∃ x, decide (e < 0) = x := ⟨_, rfl⟩
  obtain ⟨x2, y2⟩ : ∃ x, decide (15 < e) = x := ⟨_, rfl⟩
  obtain ⟨x3, y3⟩ : ∃ x, decide (-1000000000000 ≤ nu ∧ nu ≤ 1000000000000) = x := ⟨_, rfl⟩
  obtain ⟨x4, y4⟩ : ∃ x, decide (ve < 0) = x := ⟨_, rfl⟩
  obtain ⟨x5, y5⟩ : ∃ x, decide (1000000000000 < ve) = x := ⟨_, rfl⟩
  obtain ⟨x6, y6⟩ : ∃ x, decide (500 < (s.size : Int)) = x := ⟨_, rfl⟩
  obtain ⟨x7, y7⟩ : ∃ x, decide (40 < (n : Int)) = x := ⟨_, rfl⟩
  rw [y3] at PN0
  have PN : Hid _ := PN0
  have hno : (x1 = true ∨ x2 = true ∨ x3 = false ∨ x4 = true ∨ x5 = true ∨ x6 = true ∨ x7 = true) → Rep.ok ⟨e, s, nu, ve, keysOf n L⟩ = false ∧ Rep.put ⟨e, s, nu, ve, keysOf n L⟩ = ⟨#[]⟩ := fun h => by
    have hn : ¬ Rep.Ok ⟨e, s, nu, ve, keysOf n L⟩ := by
      rw [hif]
      rintro ⟨⟨⟨a1, a2⟩, a3, a4⟩, _, a5, a6, a7⟩
      rcases h with h | h | h | h | h | h | h
      · rw [← y1] at h; have := of_decide_eq_true h; omega
      · rw [← y2] at h; have := of_decide_eq_true h; omega
      · rw [← y3] at h; exact (of_decide_eq_false h) a5
      · rw [← y4] at h; have := of_decide_eq_true h; omega
      · rw [← y5] at h; have := of_decide_eq_true h; omega
      · rw [← y6] at h; have := of_decide_eq_true h; omega
      · rw [← y7] at h; have := of_decide_eq_true h; omega
    exact ⟨decide_eq_false hn, Rep.put_no hn⟩
  have HNO : Hid _ := hno
  have HIF : Hid _ := hif
  have HY3 : Hid _ := y3
  clear PN0 hno hif y3 hk
  go_enter Tryz.func7, Tryz.ntmps7
  cases x1
  case true =>
    obtain ⟨g1, g2⟩ := HNO.out (by simp)
    rw [g1, g2]
    go_wp2_with (first | (go_at_call 25; with_reducible refine (PN.out _).mono ?_; rintro r w' ⟨rfl, rfl⟩))
    go_ret2
    exact ⟨rfl, hbel⟩
  cases x2
  case true =>
    obtain ⟨g1, g2⟩ := HNO.out (by simp)
    rw [g1, g2]
    go_wp2_with (first | (go_at_call 25; with_reducible refine (PN.out _).mono ?_; rintro r w' ⟨rfl, rfl⟩))
    go_ret2
    exact ⟨rfl, hbel⟩
  cases x3
  case false =>
    obtain ⟨g1, g2⟩ := HNO.out (by simp)
    rw [g1, g2]
    go_wp2_with (first | (go_at_call 25; with_reducible refine (PN.out _).mono ?_; rintro r w' ⟨rfl, rfl⟩))
    go_ret2
    exact ⟨rfl, hbel⟩
  cases x4
  case true =>
    obtain ⟨g1, g2⟩ := HNO.out (by simp)
    rw [g1, g2]
    go_wp2_with (first | (go_at_call 25; with_reducible refine (PN.out _).mono ?_; rintro r w' ⟨rfl, rfl⟩))
    go_ret2
    exact ⟨rfl, hbel⟩
  cases x5
  case true =>
    obtain ⟨g1, g2⟩ := HNO.out (by simp)
    rw [g1, g2]
    go_wp2_with (first | (go_at_call 25; with_reducible refine (PN.out _).mono ?_; rintro r w' ⟨rfl, rfl⟩))
    go_ret2
    exact ⟨rfl, hbel⟩
  cases x6
  case true =>
    obtain ⟨g1, g2⟩ := HNO.out (by simp)
    rw [g1, g2]
    go_wp2_with (first | (go_at_call 25; with_reducible refine (PN.out _).mono ?_; rintro r w' ⟨rfl, rfl⟩))
    go_ret2
    exact ⟨rfl, hbel⟩
  cases x7
  case true =>
    obtain ⟨g1, g2⟩ := HNO.out (by simp)
    rw [g1, g2]
    go_wp2_with (first | (go_at_call 25; with_reducible refine (PN.out _).mono ?_; rintro r w' ⟨rfl, rfl⟩))
    go_ret2
    exact ⟨rfl, hbel⟩
  have e1 : 0 ≤ e := by have := of_decide_eq_false y1; omega
  have e2 : e ≤ 15 := by have := of_decide_eq_false y2; omega
  have e3 := of_decide_eq_true HY3.out
  have e4 : 0 ≤ ve := by have := of_decide_eq_false y4; omega
  have e5 : ve ≤ 1000000000000 := by have := of_decide_eq_false y5; omega
  have e6 : s.size ≤ 500 := by have := of_decide_eq_false y6; omega
  have e7 : n ≤ 40 := by have := of_decide_eq_false y7; omega
  have HOK : Hid (shortTo L n → Rep.ok ⟨e, s, nu, ve, keysOf n L⟩ = true ∧ Rep.put ⟨e, s, nu, ve, keysOf n L⟩ = str (Rep.head ⟨e, s, nu, ve, keysOf n L⟩ ++ keysL ((keysOf n L).take n))) := fun h => by
    have ho : Rep.Ok ⟨e, s, nu, ve, keysOf n L⟩ := HIF.out.2 ⟨⟨⟨e1, e2⟩, e6, e7⟩, h, e3, e4, e5⟩
    refine ⟨decide_eq_true ho, ?_⟩
    rw [Rep.put_yes ho, List.take_of_length_le (by rw [keysOf_len]; exact Nat.le_refl _)]
    rfl
  have HBAD : Hid (¬ shortTo L n → Rep.ok ⟨e, s, nu, ve, keysOf n L⟩ = false ∧ Rep.put ⟨e, s, nu, ve, keysOf n L⟩ = ⟨#[]⟩) := fun h => by
    have hn : ¬ Rep.Ok ⟨e, s, nu, ve, keysOf n L⟩ := fun ho => h (HIF.out.1 ho).2.1
    exact ⟨decide_eq_false hn, Rep.put_no hn⟩
  have HD : Hid (str [byteOf e 0] ++ putBigS (nu + 1000000000000) 8 ++ putBigS ve 8 ++ putBigS (s.size : Int) 2 ++ s ++ str [byteOf (n : Int) 0] = str (Rep.head ⟨e, s, nu, ve, keysOf n L⟩ ++ keysL ((keysOf n L).take 0))) := by
    show _ = _
    unfold Rep.head putBigS
    simp only [keysOf_len, List.take_zero, keysL]
    apply ByteArray.ext
    simp [str]
  have hhl : (Rep.head ⟨e, s, nu, ve, keysOf n L⟩).length = 20 + s.size := Rep.head_len _
  have P2 : Hid _ := fun w => ref_putBig (nu + 1000000000000) 8 w (by omega) (by omega)
  have P3 : Hid _ := fun w => ref_putBig ve 8 w (by omega) (by omega)
  have P4 : Hid _ := fun w => ref_putBig (s.size : Int) 2 w (by omega) (by omega)
  have z1 := putBigS8_size (nu + 1000000000000)
  have z2 := putBigS8_size ve
  have z3 := putBigS2_size (s.size : Int)
  have HU : Hid (IntKind.i64.wrap (nu + 1000000000000) = nu + 1000000000000 ∧ IntKind.u64.wrap (nu + 1000000000000) = nu + 1000000000000 ∧ IntKind.u64.wrap ve = ve ∧ IntKind.u64.wrap (s.size : Int) = (s.size : Int)) := ⟨by rw [IntKind.wrap_i64]; omega, by rw [IntKind.wrap_u64]; omega, by rw [IntKind.wrap_u64]; omega, by rw [IntKind.wrap_u64]; omega⟩
  generalize putBigS (nu + 1000000000000) 8 = H2 at *
  generalize putBigS ve 8 = H3 at *
  generalize putBigS (s.size : Int) 2 = H4 at *
  generalize Rep.head ⟨e, s, nu, ve, keysOf n L⟩ = HEAD at *
  generalize Rep.put ⟨e, s, nu, ve, keysOf n L⟩ = PUT at *
  generalize Rep.ok ⟨e, s, nu, ve, keysOf n L⟩ = OK at *
  clear HNO HIF HY3 e1 e2 e3 e4 e5
  go_wp2_with (first | (go_at_call 25; with_reducible refine (PN.out _).mono ?_; rintro r w' ⟨rfl, rfl⟩))
  clear y1 y2 y4 y5 y6 y7
  generalize w.alloc (.cells #[.int .i64 e, .string s, .int .i64 nu, .int .i64 ve, .slice oa n cap] 25) = w1 at *
  refine rfputr_region w.heap.size e nu ve _ s H2 H3 H4 oa n cap HU.out.1 HU.out.2.1 HU.out.2.2.1 HU.out.2.2.2 e6 (by omega) (by omega) (by omega) P2.out P3.out P4.out (by kernel_rfl) (by kernel_rfl) (by kernel_rfl) rfl rfl hrow ?_
  intro v42 v43 v44 v45 v46 v47 v48 v49 v50 v51 v52 v53 v54 v55 v56 v57 v58 v59 v60 v61 v62 v63 v64 v65 v66 v67 v68 v69 v70 v71 v72 v73 w5 b5
  have r5 := hrow.below b5 hrow.lt
  have B5 := hbel.trans (b5.mono hbel.size)
  clear hrow hbel b5 P2 P3 P4 HU PN z1 z2 z3
  rw [HD.out]
  simp only [Act.put, List.setIfInBounds_toArray, List.set]
  rename_i K hK
  refine hK _ _ ?_
  go_wp2_with fail
  go_loopw [5, 4] (fun i t wr => ∃ k : Nat, k ≤ n ∧ i = .int .i64 k ∧ t = .string (str (HEAD ++ keysL ((keysOf n L).take k))) ∧ shortTo L k ∧ RowIs wr w.heap.size 25 [.int .i64 e, .string s, .int .i64 nu, .int .i64 ve, .slice oa n cap] ∧ Below w.heap.size w wr) (fun i _ _ => n - (intOf i).toNat)
  case atStart => exact ⟨0, Nat.zero_le _, rfl, rfl, fun i hi => absurd hi (by omega), r5, B5⟩
  case round =>
    clear r5 B5
    obtain ⟨k, hk, rfl, rfl, hsh, r1, b1⟩ := hrel
    have q4 : wr.cell? ⟨w.heap.size, 4, none⟩ = some (.slice oa n cap) := r1.cellAt rfl
    by_cases hlt : k < n
    · obtain ⟨bb, oo, rfl, hc⟩ := HKW.out _ b1 k hlt
      have dlt : decide ((k : Int) < (n : Int)) = true := by simp; omega
      have d0 : (0 : Int) ≤ (k : Int) := by omega
      have d1 : (k : Int) < (n : Int) := by omega
      by_cases hl : 60 < (L k).length
      · have d2 : decide (60 < ((str (L k)).size : Int)) = true := decide_eq_true (by rw [str_size]; omega)
        have d3 : 60 < (str (L k)).size := by rw [str_size]; omega
        have HG : Hid _ := HBAD.out (fun h => absurd (h k hlt) (by omega))
        clear HOK HBAD hsh
        generalize str (L k) = K at *
        go_wp2
        go_ret2
        exact ⟨ret_sb10 HG.out.2.symm HG.out.1.symm, b1⟩
      · have d2 : decide (60 < ((str (L k)).size : Int)) = false := decide_eq_false (by rw [str_size]; omega)
        have d3 : ¬ 60 < (str (L k)).size := by rw [str_size]; omega
        have hsh' : Hid (shortTo L (k + 1)) := fun i hi => by
          by_cases h : i = k
          · subst h; omega
          · exact hsh i (by omega)
        have hkl : (keysL ((keysOf n L).take k)).length ≤ 2440 := by
          rw [keysL_len]
          have h6 := keysN_le 60 ((keysOf n L).take k) (fun x hx => by
            obtain ⟨i, hi, he⟩ := List.mem_take_iff_getElem.1 hx
            have hx2 : x = str (L i) := by rw [← he]; simp [keysOf]
            rw [hx2, str_size]; exact hsh i (by omega))
          rw [List.length_take, keysOf_len] at h6
          omega
        have HQ : Hid (str (HEAD ++ keysL ((keysOf n L).take k)) ++ str [byteOf ((str (L k)).size : Int) 0] ++ str (L k) = str (HEAD ++ keysL ((keysOf n L).take (k + 1)))) := by
          show _ = _
          rw [keysOf_take n L k hlt, keysL_append, str_plus, str_plus]
          congr 1
          simp [keysL, str]
        have hsA : (str (HEAD ++ keysL ((keysOf n L).take k))).size ≤ 3000 := by rw [str_size, List.length_append]; omega
        have hsB : (str [byteOf ((str (L k)).size : Int) 0]).size = 1 := by rw [str_size]; rfl
        have hu8 := u8_byte ((str (L k)).size : Int)
        have hcv := conv_oneN (byteOf ((str (L k)).size : Int) 0)
        have hcd := conv_oneD (byteOf ((str (L k)).size : Int) 0)
        clear hsh HOK HBAD hl
        generalize str (HEAD ++ keysL ((keysOf n L).take k)) = A at *
        generalize str [byteOf ((str (L k)).size : Int) 0] = B at *
        generalize byteOf ((str (L k)).size : Int) 0 = BY at *
        generalize str (L k) = KEY at *
        have n1 : ¬ (9223372036854775807 < A.size + B.size) := by omega
        have hs1 : (A ++ B).size = A.size + B.size := ByteArray.size_append
        obtain ⟨A1, g1⟩ : ∃ X, A ++ B = X := ⟨_, rfl⟩
        rw [g1] at hs1 HQ
        have n2 : ¬ (9223372036854775807 < A1.size + KEY.size) := by omega
        obtain ⟨X2, g2⟩ : ∃ X, A1 ++ KEY = X := ⟨_, rfl⟩
        have HX2 : Hid (X2 = str (HEAD ++ keysL ((keysOf n L).take (k + 1)))) := g2.symm.trans HQ.out
        clear hs1 hsA hsB HQ
        have b : Below wr.heap.size wr wr.drew := (Below.refl _ _).drew
        go_wp2_with fail
        simp only [opConvR_is]
        have hop := opConvR_back
        go_region_held3 (fun w' => w'.cell? ⟨w.heap.size, 4, none⟩ = some (.slice (some ⟨bb, oo, none⟩) n cap) ∧ w'.cell? ⟨bb, oo + k, none⟩ = some (.string KEY)) (first | exact ⟨cell_belowB b q4, cell_belowB b hc⟩ | exact ⟨cell_alloc9 (cell_belowB b q4) _, cell_alloc9 (cell_belowB b hc) _⟩) (fail)
        have bA : Below w.heap.size wr (wr.alloc (.cells #[.int .u8 (BY.toNat : Int)] 5)).drew := ((Below.refl _ _).alloc b1.size _).drew
        have bB : Below wr.heap.size wr (wr.alloc (.cells #[.int .u8 (BY.toNat : Int)] 5)).drew := ((Below.refl _ _).alloc (Nat.le_refl _) _).drew
        clear b hcv hcd
        go_wp2
        go_roundw
        · exact ⟨k + 1, hlt, by simp, congrArg _ HX2.out, hsh'.out, r1.below bB r1.lt, b1.trans bA⟩
        · simp only [intOf]; omega
    · obtain rfl : k = n := by omega
      have dlt : decide ((k : Int) < (k : Int)) = false := by simp
      have HG : Hid _ := HOK.out hsh
      clear HOK HBAD hsh
      go_wp2
      go_ret2
      exact ⟨ret_sb10 HG.out.2.symm HG.out.1.symm, b1⟩

end Go.Proofs.YtgcbanmjfnnccaaGreat
