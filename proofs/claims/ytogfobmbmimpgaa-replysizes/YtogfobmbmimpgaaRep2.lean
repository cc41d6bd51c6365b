/-
  Package command's PutReply.
-/
import Derived.Test.YtogfobmbmimpgaaRep1
namespace Go.Proofs.Ytogfobmbmimpgaa
open Go.RowKit
set_option linter.unusedVariables false
set_option maxRecDepth 100000
set_option linter.unusedSimpArgs false

theorem strCells_is (s : ByteArray) : Lib.strCells s = cells8 s.data.toList := by
  simp [Lib.strCells, cells8, cell8]
theorem cells8_plus (a b : List UInt8) : cells8 (a ++ b) = cells8 a ++ cells8 b := by simp [cells8]
theorem bld_kept {T e : TypeId} {B b : Nat} {p : Value} {bs : List Value} {w w' : World} (h : Lib.BuilderAt T e B b p bs w) (hb : Below w.heap.size w w') : Lib.BuilderAt T e B b p bs w' := by
  obtain ⟨h1, v, h2, h3, h4⟩ := h
  exact ⟨h1, v, by rw [hb.block b (Array.getElem?_eq_some_iff.1 h2).1]; exact h2, own_touch h3 (Touch.of_below (S := fun _ => False) hb) (fun _ _ x => x), h4⟩
abbrev BldAt (w : World) (B : Nat) (p : Value) (l : List UInt8) : Prop := Lib.BuilderAt 71 5 B B p (cells8 l) w
theorem bld_new (w : World) : BldAt (w.alloc (.cells #[.pointer none, .slice none 0 0] 71)) w.heap.size (.pointer none) [] :=
  ⟨Nat.le_refl _, .slice none 0 0, RowIs.new w _ [.pointer none, .slice none 0 0], World.ownsRow_nil _ _ _ _, by simp [Value.ownBlock]⟩
theorem bld_write (B : Nat) (p : Value) (l : List UInt8) (s : ByteArray) (w : World) (hp : p = .pointer none ∨ p = .pointer (some ⟨B, 0, none⟩)) (h : BldAt w B p l) (hl : l.length + s.size ≤ 1000000) (hB : B ≤ w.heap.size) :
    Calls Try.prog 36 #[.pointer (some ⟨B, 0, none⟩), .string s] w fun e w' => (∃ v, e = .returned v) ∧ BldAt w' B (.pointer (some ⟨B, 0, none⟩)) (l ++ s.data.toList) ∧ Below B w w' := by
  have hi : Lib.IsBuilder 71 5 B B (cells8 l) w := by
    rcases hp with rfl | rfl
    · exact Or.inl h
    · exact Or.inr h
  refine (Try.Builder_WriteString B B _ s w hi (by rw [cells8_len]; omega) hB).mono ?_
  rintro e w' ⟨rfl, d, b⟩
  rw [strCells_is, ← cells8_plus] at d
  exact ⟨⟨_, rfl⟩, d, b⟩
theorem byteCells_is (l : List UInt8) : Lib.byteCells l = cells8 l := rfl
theorem bld_string (B : Nat) (l : List UInt8) (w : World) (h : BldAt w B (.pointer (some ⟨B, 0, none⟩)) l) (hB : B ≤ w.heap.size) :
    Calls Try.prog 37 #[.pointer (some ⟨B, 0, none⟩)] w fun e w' => e = .returned (.string (str l)) ∧ Below B w w' :=
  Try.Builder_String_any B B l w (Or.inr h) hB

theorem keysL_take (n : Nat) (L : Nat → List UInt8) (k : Nat) (h : k < n) : keysL ((keysOf n L).take (k + 1)) = keysL ((keysOf n L).take k) ++ (textS (str (L k)) 1).data.toList := by
  rw [keysOf_take n L k h, keysL_append]
  congr 1
  unfold textS putBigS
  rw [putBig1]
  simp [keysL, str]
theorem keysN_take (n : Nat) (L : Nat → List UInt8) (k : Nat) (h : shortTo L n) (hn : n ≤ 40) (hk : k ≤ n) : (keysL ((keysOf n L).take k)).length ≤ 2440 := by
  rw [keysL_len]
  have := keysN_le 60 ((keysOf n L).take k) (fun x hx => by
    obtain ⟨i, hi, rfl⟩ := keysOf_mem n L x (List.mem_of_mem_take hx)
    rw [str_size]; exact h i hi)
  rw [List.length_take, keysOf_len] at this
  omega

set_option maxHeartbeats 2000000 in
theorem command_putReply (e : Int) (s : ByteArray) (nu ve : Int) (oa : Option Addr) (n cap : Nat) (L : Nat → List UInt8) (w : World) (hs : s.size ≤ maxLen) (hn : n ≤ maxLen) (hL : ∀ i, i < n → (L i).length ≤ maxLen) (hk : StrsAt w oa n L) :
    Calls Try.prog 20 #[.agg #[.int .i64 e, .string s, .int .i64 nu, .int .i64 ve, .slice oa n cap]] w fun r w' => r = .returned (.tuple #[.string (Rep.put ⟨e, s, nu, ve, keysOf n L⟩), .bool (Rep.ok ⟨e, s, nu, ve, keysOf n L⟩)]) ∧ Below w.heap.size w w' := by
  have hbel : ∀ o, Below w.heap.size w (w.alloc o) := fun o => (Below.refl _ _).alloc (Nat.le_refl _) _
  have hrow : RowIs (w.alloc (.cells #[.int .i64 e, .string s, .int .i64 nu, .int .i64 ve, .slice oa n cap] 40)) w.heap.size 40 [.int .i64 e, .string s, .int .i64 nu, .int .i64 ve, .slice oa n cap] := RowIs.new w _ _
  have PI := fun w hk => command_isReply e s nu ve oa n cap L w hs hn hL hk
  have HK : Hid (StrsAt (w.alloc (.cells #[.int .i64 e, .string s, .int .i64 nu, .int .i64 ve, .slice oa n cap] 40)) oa n L) := hk.later (hbel _)
  have HKW : Hid (∀ w', Below w.heap.size w w' → StrsAt w' oa n L) := fun w' hb => hk.later hb
  clear hk
  by_cases ho : Rep.Ok ⟨e, s, nu, ve, keysOf n L⟩
  · have hok : Rep.ok ⟨e, s, nu, ve, keysOf n L⟩ = true := decide_eq_true ho
    have HP : Hid (str (Rep.head ⟨e, s, nu, ve, keysOf n L⟩ ++ keysL ((keysOf n L).take n)) = Rep.put ⟨e, s, nu, ve, keysOf n L⟩) := by
      rw [Rep.put_yes ho]
      unfold Rep.bytes
      rw [List.take_of_length_le (by rw [keysOf_len]; exact Nat.le_refl _)]
      rfl
    have hhl := Rep.head_len ⟨e, s, nu, ve, keysOf n L⟩
    have HD : Hid ((((([] ++ (putBigS e 1).data.toList) ++ (numsS nu ve).data.toList) ++ (textS s 2).data.toList) ++ (putBigS (n : Int) 1).data.toList) = Rep.head ⟨e, s, nu, ve, keysOf n L⟩) := by
      show _ = _
      unfold Rep.head textS numsS putBigS
      simp only [keysOf_len, putBig1]
      simp [str]
    obtain ⟨⟨⟨e1, e2⟩, s5, n40⟩, hsh, hnu, hve⟩ := (rep_ok_iff e s nu ve n L).1 ho
    rw [hok] at PI ⊢
    generalize Rep.head ⟨e, s, nu, ve, keysOf n L⟩ = HEAD at *
    generalize Rep.put ⟨e, s, nu, ve, keysOf n L⟩ = PUT at *
    simp only at hhl
    have PIH : Hid _ := PI
    have P1 : Hid _ := fun w => octet_putBig e 1 w (by omega) (by omega)
    have P2 : Hid _ := fun w => command_putNumbers nu ve w ⟨hnu, hve⟩
    have P3 : Hid _ := fun w => command_putText s 2 w (by omega) (Or.inr rfl)
    have P4 : Hid _ := fun w => octet_putBig (n : Int) 1 w (by omega) (by omega)
    have PK : Hid (∀ k w, k < n → Calls Try.prog 23 #[.string (str (L k)), .int .i64 1] w fun e w' => e = .returned (.string (textS (str (L k)) 1)) ∧ Below w.heap.size w w') := fun k w h => command_putText (str (L k)) 1 w (by have := hsh k h; rw [str_size]; omega) (Or.inl rfl)
    have u1 : IntKind.u64.wrap e = e := by rw [IntKind.wrap_u64]; omega
    have u2 : IntKind.u64.wrap (n : Int) = (n : Int) := by rw [IntKind.wrap_u64]; omega
    have z1 := putBigS1_size e
    have z2 := numsS_size nu ve
    have z3 := textS2_size s
    have z4 := putBigS1_size (n : Int)
    have HSH : Hid _ := hsh
    have HT : Hid (∀ k, k < n → (textS (str (L k)) 1).size ≤ 61) := fun k h => by rw [textS1_size, str_size]; have := hsh k h; omega
    generalize putBigS e 1 = A1 at *
    generalize numsS nu ve = A2 at *
    generalize textS s 2 = A3 at *
    generalize putBigS (n : Int) 1 = A4 at *
    clear PI hok hs hn hL ho e1 e2 hsh hnu hve
    go_enter Try.func20, Try.ntmps20
    go_wp2_with fail
    with_reducible refine (PIH.out _ HK.out).mono ?_
    rintro r w1 ⟨rfl, b1⟩
    have rr := hrow.below b1 hrow.lt
    replace b1 := bel_new b1
    have d := bld_new w1
    have hlt := rr.lt
    have c0 : w1.cell? ⟨w.heap.size, 0, none⟩ = some (.int .i64 e) := rr.cellAt rfl
    have hsz : w1.heap.size ≤ (w1.alloc (.cells #[.pointer none, .slice none 0 0] 71)).heap.size := by simp
    replace b1 : Below w.heap.size w (w1.alloc (.cells #[.pointer none, .slice none 0 0] 71)) := b1.alloc b1.size _
    replace rr := rr.alloc (.cells #[.pointer none, .slice none 0 0] 71)
    clear hrow
    go_wp2_with fail
    clear c0
    generalize w1.alloc (.cells #[.pointer none, .slice none 0 0] 71) = w2 at *
    generalize w1.heap.size = N at *
    with_reducible refine (P1.out _).mono ?_
    rintro r w3 ⟨rfl, b2⟩
    replace d := bld_kept d b2
    replace rr := rr.below b2 rr.lt
    replace b1 := bel_chain8 b1 b2
    replace hsz := Nat.le_trans hsz b2.size
    clear b2
    go_wp2_with fail
    refine (bld_write N _ _ A1 w3 (Or.inl rfl) d (by simp only [List.length_append, List.length_nil, Array.length_toList, ByteArray.size_data]; omega) hsz).mono ?_
    rintro r w4 ⟨⟨v, rfl⟩, d', b2⟩
    replace rr := rr.below b2 hlt
    replace b1 := b1.trans (b2.mono (Nat.le_of_lt hlt))
    replace hsz := Nat.le_trans hsz b2.size
    clear b2 d
    have d := d'
    clear d'
    have c2 : w4.cell? ⟨w.heap.size, 2, none⟩ = some (.int .i64 nu) := rr.cellAt rfl
    have c3 : w4.cell? ⟨w.heap.size, 3, none⟩ = some (.int .i64 ve) := rr.cellAt rfl
    go_wp2_with fail
    clear c2 c3
    with_reducible refine (P2.out _).mono ?_
    rintro r w5 ⟨rfl, b2⟩
    replace d := bld_kept d b2
    replace rr := rr.below b2 rr.lt
    replace b1 := bel_chain8 b1 b2
    replace hsz := Nat.le_trans hsz b2.size
    clear b2
    go_wp2_with fail
    refine (bld_write N _ _ A2 w5 (Or.inr rfl) d (by simp only [List.length_append, List.length_nil, Array.length_toList, ByteArray.size_data]; omega) hsz).mono ?_
    rintro r w6 ⟨⟨v, rfl⟩, d', b2⟩
    replace rr := rr.below b2 hlt
    replace b1 := b1.trans (b2.mono (Nat.le_of_lt hlt))
    replace hsz := Nat.le_trans hsz b2.size
    clear b2 d
    have d := d'
    clear d'
    have c1 : w6.cell? ⟨w.heap.size, 1, none⟩ = some (.string s) := rr.cellAt rfl
    go_wp2_with fail
    clear c1
    with_reducible refine (P3.out _).mono ?_
    rintro r w7 ⟨rfl, b2⟩
    replace d := bld_kept d b2
    replace rr := rr.below b2 rr.lt
    replace b1 := bel_chain8 b1 b2
    replace hsz := Nat.le_trans hsz b2.size
    clear b2
    go_wp2_with fail
    refine (bld_write N _ _ A3 w7 (Or.inr rfl) d (by simp only [List.length_append, List.length_nil, Array.length_toList, ByteArray.size_data]; omega) hsz).mono ?_
    rintro r w8 ⟨⟨v, rfl⟩, d', b2⟩
    replace rr := rr.below b2 hlt
    replace b1 := b1.trans (b2.mono (Nat.le_of_lt hlt))
    replace hsz := Nat.le_trans hsz b2.size
    clear b2 d
    have d := d'
    clear d'
    have c4 : w8.cell? ⟨w.heap.size, 4, none⟩ = some (.slice oa n cap) := rr.cellAt rfl
    go_wp2_with fail
    clear c4
    with_reducible refine (P4.out _).mono ?_
    rintro r w9 ⟨rfl, b2⟩
    replace d := bld_kept d b2
    replace rr := rr.below b2 rr.lt
    replace b1 := bel_chain8 b1 b2
    replace hsz := Nat.le_trans hsz b2.size
    clear b2
    go_wp2_with fail
    refine (bld_write N _ _ A4 w9 (Or.inr rfl) d (by simp only [List.length_append, List.length_nil, Array.length_toList, ByteArray.size_data]; omega) hsz).mono ?_
    rintro r w10 ⟨⟨v, rfl⟩, d', b2⟩
    replace rr := rr.below b2 hlt
    replace b1 := b1.trans (b2.mono (Nat.le_of_lt hlt))
    replace hsz := Nat.le_trans hsz b2.size
    clear b2 d
    have d := d'
    clear d'
    have c4 : w10.cell? ⟨w.heap.size, 4, none⟩ = some (.slice oa n cap) := rr.cellAt rfl
    rw [HD.out] at d
    go_wp2_with fail
    clear rr c4
    go_loopw [34] (fun i wr => ∃ k : Nat, k ≤ n ∧ i = .int .i64 k ∧ BldAt wr N (.pointer (some ⟨N, 0, none⟩)) (HEAD ++ keysL ((keysOf n L).take k)) ∧ Below w.heap.size w wr ∧ N ≤ wr.heap.size) (fun i _ => n - (intOf i).toNat)
    case atStart => exact ⟨0, Nat.zero_le _, rfl, by rw [List.take_zero]; simpa [keysL] using d, b1, hsz⟩
    case round =>
      clear d b1 hsz
      obtain ⟨k, hk, rfl, d, b1, hsz⟩ := hrel
      have hkn := keysN_take n L k HSH.out n40 hk
      by_cases hlt2 : k < n
      · obtain ⟨bb, oo, rfl, hc⟩ := HKW.out _ b1 k hlt2
        have dlt : decide ((k : Int) < (n : Int)) = true := by simp; omega
        have d0 : (0 : Int) ≤ (k : Int) := by omega
        have d1 : (k : Int) < (n : Int) := by omega
        have HQ : Hid _ := keysL_take n L k hlt2
        have hq := HT.out k hlt2
        have PQ : Hid _ := fun w => PK.out k w hlt2
        clear PK HT
        generalize str (L k) = K at *
        generalize textS K 1 = TT at *
        generalize keysL ((keysOf n L).take k) = KL at *
        go_wp2_with fail
        with_reducible refine (PQ.out _).mono ?_
        rintro r v1 ⟨rfl, b2⟩
        replace d := bld_kept d b2
        replace b1 := bel_chain8 b1 b2
        replace hsz := Nat.le_trans hsz b2.size
        clear b2 hc
        go_wp2_with fail
        refine (bld_write N _ _ TT v1 (Or.inr rfl) d (by simp only [List.length_append]; omega) hsz).mono ?_
        rintro r v2 ⟨⟨v, rfl⟩, d', b2⟩
        replace b1 := b1.trans (b2.mono (Nat.le_of_lt hlt))
        replace hsz := Nat.le_trans hsz b2.size
        go_wp2_with fail
        go_roundw
        case rel => exact ⟨k + 1, by omega, by go_num, by rw [HQ.out, ← List.append_assoc]; exact d', b1, hsz⟩
        case measure => simp [intOf]; omega
      · obtain rfl : k = n := by omega
        have dlt : decide ((k : Int) < (k : Int)) = false := by simp
        go_wp2_with fail
        refine (bld_string N _ _ d hsz).mono ?_
        rintro r v1 ⟨rfl, b2⟩
        go_wp2
        go_ret2
        exact ⟨ret_sb10 HP.out rfl, b1.trans (b2.mono (Nat.le_of_lt hlt))⟩
  · have hok : Rep.ok ⟨e, s, nu, ve, keysOf n L⟩ = false := decide_eq_false ho
    rw [hok, Rep.put_no ho]
    rw [hok] at PI
    clear ho hok hs hn hL HKW hrow
    go_enter Try.func20, Try.ntmps20
    go_wp2_with fail
    with_reducible refine (PI _ HK.out).mono ?_
    rintro r w1 ⟨rfl, b1⟩
    go_wp2
    go_ret2
    exact ⟨rfl, bel_new b1⟩

end Go.Proofs.Ytogfobmbmimpgaa
