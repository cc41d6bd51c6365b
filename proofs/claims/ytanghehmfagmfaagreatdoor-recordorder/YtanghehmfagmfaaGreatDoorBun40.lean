/-
  Parts of this proof, one behind the other: Rec6, Rec9, Rec7, Rec8.
-/
import Derived.Test.YtanghehmfagmfaaGreatDoorBun39
import Derived.Test.YtanghehmfagmfaaGreatDoorBun33
import Derived.Test.YtanghehmfagmfaaGreatDoorBun27
import Derived.Test.YtanghehmfagmfaaGreatDoorBun4
import Derived.Deep.RegionHeld3
import Derived.Test.YtanghehmfagmfaaGreatDoorBun5

/-
  Laws of chapter 13 over what package record tells: RecordHeads, RecordShapes.
-/
namespace Go.Proofs.YtanghehmfagmfaaGreatDoor
open Go.RowKit
set_option linter.unusedVariables false
set_option maxRecDepth 100000
set_option linter.unusedSimpArgs false

theorem bel13s {w w1 w2 : World} (h1 : Below w.heap.size w w1) (h2 : Below w1.heap.size w1 w2) : Below w.heap.size w w2 := h1.trans (h2.mono h1.size)
set_option maxRecDepth 100000 in
set_option maxHeartbeats 4000000 in
theorem recordHeads_of (K : RecordKeeps) (a : ByteArray) (b : ByteArray) (n : Int) (w : World) (ha : a.size ≤ 9223372036854775807) (hb : b.size ≤ 9223372036854775807) (hn : -9223372036854775808 ≤ n ∧ n ≤ 9223372036854775807) :
    Calls Tryz.prog 9 #[.string a, .string b, .int .i64 n] w fun e w' => e = .returned (.bool true) ∧ Below w.heap.size w w' := by
  have PA : Hid _ := alive13_of K
  by_cases c0 : 100 < (b.size : Int)
  · have d0 : decide (100 < (b.size : Int)) = true := decide_eq_true c0
    go_enter Tryz.func9, Tryz.ntmps9
    go_wp2_with fail
    with_reducible refine (PA.out _).mono ?_
    rintro e w1 ⟨rfl, b⟩
    go_wp2
    go_ret
    exact ⟨rfl, b⟩
  have d0 : decide (100 < (b.size : Int)) = false := decide_eq_false c0
  by_cases c1 : n < 1
  · have d1 : decide (n < 1) = true := decide_eq_true c1
    go_enter Tryz.func9, Tryz.ntmps9
    go_wp2_with fail
    with_reducible refine (PA.out _).mono ?_
    rintro e w1 ⟨rfl, b⟩
    go_wp2
    go_ret
    exact ⟨rfl, b⟩
  have d1 : decide (n < 1) = false := decide_eq_false c1
  by_cases c2 : 40 < n
  · have d2 : decide (40 < n) = true := decide_eq_true c2
    go_enter Tryz.func9, Tryz.ntmps9
    go_wp2_with fail
    with_reducible refine (PA.out _).mono ?_
    rintro e w1 ⟨rfl, b⟩
    go_wp2
    go_ret
    exact ⟨rfl, b⟩
  have d2 : decide (40 < n) = false := decide_eq_false c2
  obtain ⟨N, rfl⟩ : ∃ N : Nat, n = (N : Int) := ⟨n.toNat, by omega⟩
  have F1 : Hid _ := fun w => law5_fill32 a w ha
  have hk : (fillS a 32).size = 32 := fillS_size _ _
  generalize fillS a 32 = KK at *
  have P1 : Hid _ := fun w1 l (h : Here w l w1) => Here.newOut K h KK hk
  have hb2 : b.size ≤ 2046 := by omega
  have P2 : Hid _ := fun w1 p k (h : Here w [OutTh K p KK k] w1) (hk : k < 400) => h.sealT 0 b rfl hb2 hk
  go_enter Tryz.func9, Tryz.ntmps9
  go_wp2_with fail
  with_reducible refine (PA.out _).mono ?_
  rintro e w1 ⟨rfl, b1⟩
  clear PA
  go_wp2_with fail
  with_reducible refine (F1.out _).mono ?_
  rintro e w' ⟨rfl, rfl⟩
  go_wp2_with fail
  with_reducible refine (P1.out _ _ (Here.start' b1)).mono ?_
  rintro e w2 ⟨p, rfl, h2⟩
  clear P1 F1 b1
  have H2 : Hid _ := h2
  clear h2
  go_wp2_with fail
  go_loopw [8] (fun i wr => ∃ k : Nat, k ≤ N ∧ i = .int .i64 k ∧ Here w [OutTh K p KK k] wr) (fun i _ => N - (intOf i).toNat)
  case atStart => exact ⟨0, Nat.zero_le _, rfl, H2.out⟩
  case round =>
    clear H2
    obtain ⟨k, hkn, rfl, hh⟩ := hrel
    by_cases hlt : k < N
    · have dlt : decide ((k : Int) < (N : Int)) = true := decide_eq_true (by omega)
      have PS := P2.out _ _ _ hh (by omega)
      have hz := recS_le KK k b hb2
      have he := recS_head KK k b
      have PB : Hid _ := fun w => ref_putBig (k : Int) 8 w (by omega) (by omega)
      have dw : IntKind.u64.wrap (k : Int) = (k : Int) := by rw [IntKind.wrap_u64]; omega
      have e1 : (((recS KK k b).extract 0 8).toList == (putBigS (k : Int) 8).toList) = true := by rw [he]; exact str_beq_self _
      generalize recS KK k b = R at *
      have dz : decide ((R.size : Int) < 24) = false := decide_eq_false (by omega)
      have S1 := slice_head13 R
      have hle8 : (8 : Int) ≤ (R.size : Int) := by omega
      have hle9 : 8 ≤ R.size := by omega
      clear he hh
      generalize putBigS (k : Int) 8 = H8 at *
      go_wp2_with fail
      with_reducible refine PS.mono ?_
      rintro e w3 ⟨rfl, h3⟩
      replace h3 : Here w [OutTh K p KK (k + 1)] w3 := h3
      clear PS
      go_wp2_with fail
      replace h3 := h3.drew
      go_region_held3 (fun w' => True) (exact True.intro) (first | (go_at_call 28; with_reducible refine (PB.out _).mono ?_; rintro e w4 ⟨rfl, b4⟩; replace h3 := h3.below b4; clear b4))
      all_goals
        go_wp2
        go_roundw
        case rel => exact ⟨k + 1, by omega, by go_num, h3⟩
        case measure => simp [intOf]; omega
    · obtain rfl : k = N := by omega
      have dlt : decide ((k : Int) < (k : Int)) = false := by simp
      go_wp2
      go_ret
      exact ⟨rfl, hh.bel⟩

set_option maxRecDepth 100000 in
set_option maxHeartbeats 4000000 in
theorem recordShapes_of (K : RecordKeeps) (key : ByteArray) (other : ByteArray) (a : ByteArray) (b : ByteArray) (w : World) (hkey : key.size ≤ 9223372036854775807) (hother : other.size ≤ 9223372036854775807) (ha : a.size ≤ 9223372036854775807) (hb : b.size ≤ 9223372036854775807) :
    Calls Tryz.prog 6 #[.string key, .string other, .string a, .string b] w fun e w' => e = .returned (.bool true) ∧ Below w.heap.size w w' := by
  have PA : Hid _ := alive13_of K
  by_cases c0 : 2046 < (a.size : Int)
  · have d0 : decide (2046 < (a.size : Int)) = true := decide_eq_true c0
    go_enter Tryz.func6, Tryz.ntmps6
    go_wp2_with fail
    with_reducible refine (PA.out _).mono ?_
    rintro e w1 ⟨rfl, b⟩
    go_wp2
    go_ret
    exact ⟨rfl, b⟩
  have d0 : decide (2046 < (a.size : Int)) = false := decide_eq_false c0
  by_cases c1 : 2046 < (b.size : Int)
  · have d1 : decide (2046 < (b.size : Int)) = true := decide_eq_true c1
    go_enter Tryz.func6, Tryz.ntmps6
    go_wp2_with fail
    with_reducible refine (PA.out _).mono ?_
    rintro e w1 ⟨rfl, b⟩
    go_wp2
    go_ret
    exact ⟨rfl, b⟩
  have d1 : decide (2046 < (b.size : Int)) = false := decide_eq_false c1
  have F1 : Hid _ := fun w => law5_fill32 key w hkey
  have F2 : Hid _ := fun w => law5_fill32 other w hother
  have hk1 : (fillS key 32).size = 32 := fillS_size _ _
  have hk2 : (fillS other 32).size = 32 := fillS_size _ _
  generalize fillS key 32 = K1 at *
  generalize fillS other 32 = K2 at *
  have ha2 : a.size ≤ 2046 := by omega
  have hb2 : b.size ≤ 2046 := by omega
  have P1 : Hid _ := fun w1 l (h : Here w l w1) => Here.newOut K h K1 hk1
  have P2 : Hid _ := fun w1 l (h : Here w l w1) => Here.newOut K h K2 hk2
  have P3 : Hid _ := fun w1 p q (h : Here w [OutTh K q K2 0, OutTh K p K1 0] w1) => h.sealT 1 a rfl ha2 (by decide)
  have P4 : Hid _ := fun w1 p q (h : Here w [OutTh K q K2 0, OutTh K p K1 1] w1) => h.sealT 0 b rfl hb2 (by decide)
  have P5 : Hid _ := fun w => ref_size (a.size : Int) w (by omega) (by omega)
  have P6 : Hid _ := fun w => ref_size (b.size : Int) w (by omega) (by omega)
  have z1 := recS_size K1 0 a ha2
  have z2 := recS_size K2 0 b hb2
  have y1 := sizeN_bd (a.size : Int) (by omega) (by omega)
  have y2 := sizeN_bd (b.size : Int) (by omega) (by omega)
  generalize recS K1 0 a = R1 at *
  generalize recS K2 0 b = R2 at *
  generalize sizeN (a.size : Int) = X1 at *
  generalize sizeN (b.size : Int) = X2 at *
  have v1 : IntKind.i64.wrap (X1 + 24) = X1 + 24 := by rw [IntKind.wrap_i64]; omega
  have v2 : IntKind.i64.wrap (X2 + 24) = X2 + 24 := by rw [IntKind.wrap_i64]; omega
  have u1 : (R1.size : Int) = X1 + 24 := by omega
  have u2 : (R2.size : Int) = X2 + 24 := by omega
  go_enter Tryz.func6, Tryz.ntmps6
  go_wp2_with fail
  with_reducible refine (PA.out _).mono ?_
  rintro e w1 ⟨rfl, b1⟩
  clear PA
  go_wp2_with fail
  with_reducible refine (F1.out _).mono ?_
  rintro e w' ⟨rfl, rfl⟩
  go_wp2_with fail
  with_reducible refine (P1.out _ _ (Here.start' b1)).mono ?_
  rintro e w2 ⟨p, rfl, h2⟩
  clear P1 F1 b1
  go_wp2_with fail
  with_reducible refine (F2.out _).mono ?_
  rintro e w' ⟨rfl, rfl⟩
  go_wp2_with fail
  with_reducible refine (P2.out _ _ h2).mono ?_
  rintro e w3 ⟨q, rfl, h3⟩
  clear P2 F2 h2
  go_wp2_with fail
  with_reducible refine (P3.out _ _ _ h3).mono ?_
  rintro e w4 ⟨rfl, h4⟩
  replace h4 : Here w [OutTh K q K2 0, OutTh K p K1 1] w4 := h4
  clear P3 h3
  go_wp2_with fail
  with_reducible refine (P4.out _ _ _ h4).mono ?_
  rintro e w5 ⟨rfl, h5⟩
  have HB : Hid _ := h5.bel
  clear P4 h4 h5
  go_wp2_with fail
  with_reducible refine (P5.out _).mono ?_
  rintro e w6 ⟨rfl, b6⟩
  have HB2 : Hid _ := bel13s HB.out b6
  clear b6 HB
  go_wp2_with fail
  with_reducible refine (P6.out _).mono ?_
  rintro e w7 ⟨rfl, b7⟩
  have HB3 : Hid _ := bel13s HB2.out b7
  clear b7 HB2
  have hbb : ((X1 + 24 == X2 + 24) == (X1 == X2)) = true := by
    by_cases h : X1 = X2
    · subst h; simp
    · have h2 : ¬ X1 + 24 = X2 + 24 := by omega
      rw [beq_eq_false_iff_ne.2 h, beq_eq_false_iff_ne.2 h2]; rfl
  have HBB : Hid _ := hbb
  clear hbb
  go_wp2
  go_ret
  exact ⟨congrArg (fun x => Ending.returned (.bool x)) HBB.out, HB3.out⟩

end Go.Proofs.YtanghehmfagmfaaGreatDoor

/-
  Laws of chapter 13 over what package record tells: RecordRefuses.
-/
namespace Go.Proofs.YtanghehmfagmfaaGreatDoor
open Go.RowKit
set_option linter.unusedVariables false
set_option maxRecDepth 100000
set_option linter.unusedSimpArgs false

theorem place13 (a : Int) (n : Nat) (hn : 0 < n) : (-(n : Int) < a.tmod n ∧ a.tmod n < n) ∧ ∃ J : Nat, J < n ∧ (a.tmod n + n).tmod n = (J : Int) := by
  have hp : (0 : Int) < (n : Int) := by omega
  have h1 := Int.tmod_lt_of_pos a hp
  have h2 : -(n : Int) < a.tmod n := Int.lt_tmod_of_pos a hp
  refine ⟨⟨h2, h1⟩, ((a.tmod n + n).tmod n).toNat, ?_, ?_⟩
  · have h3 := Int.tmod_lt_of_pos (a.tmod n + n) hp
    omega
  · have h4 : 0 ≤ (a.tmod n + n).tmod n := Int.tmod_nonneg _ (by omega)
    omega
/-- Turned behind its head, a record has the number that it had. -/
theorem seqN_set (l : List UInt8) (j : Nat) (x : UInt8) (h : 8 ≤ j) : seqN (str (l.set j x)) = seqN (str l) := by
  unfold seqN
  congr 2
  apply ByteArray.ext
  apply Array.toList_inj.1
  rw [ByteArray.data_extract, ByteArray.data_extract, Array.toList_extract, Array.toList_extract]
  show (l.set j x).extract 0 8 = l.extract 0 8
  rw [List.extract_eq_take_drop, List.extract_eq_take_drop]
  simp only [List.drop_zero]
  rw [List.take_set_of_le (by omega)]
/-- A number that begins with 255 is too great. -/
theorem seqN_far (r : ByteArray) (h : 8 ≤ r.size) : 400 ≤ seqN (⟨#[255]⟩ ++ r.extract 1 r.size) := by
  have h1 := seqN_is (⟨#[255]⟩ ++ r.extract 1 r.size)
  have hb : bigS ((⟨#[255]⟩ ++ r.extract 1 r.size : ByteArray).extract 0 8) = numOf ((⟨#[255]⟩ ++ r.extract 1 r.size : ByteArray).extract 0 8).data.toList := by
    have z255 : (⟨#[255]⟩ : ByteArray).size = 1 := rfl
    have z : ((⟨#[255]⟩ ++ r.extract 1 r.size : ByteArray).extract 0 8).size = 8 := by
      rw [ByteArray.size_extract, ByteArray.size_append, ByteArray.size_extract, z255]
      omega
    unfold bigS
    rw [z, Nat.sub_self, List.drop_zero]
  have e : ((⟨#[255]⟩ ++ r.extract 1 r.size : ByteArray).extract 0 8).data.toList = 255 :: ((r.data.toList.drop 1).take 7) := by
    rw [ByteArray.data_extract, Array.toList_extract, ByteArray.data_append, Array.toList_append, ByteArray.data_extract, Array.toList_extract, List.extract_eq_take_drop, List.extract_eq_take_drop]
    have hl : r.data.toList.length = r.size := by simp
    have e1 : (r.data.toList.drop 1).take (r.size - 1) = r.data.toList.drop 1 := List.take_of_length_le (by rw [List.length_drop, hl]; exact Nat.le_refl _)
    rw [e1]
    generalize r.data.toList.drop 1 = T
    show List.take 8 (255 :: T) = 255 :: List.take 7 T
    rw [List.take_succ_cons]
  have hl : ((r.data.toList.drop 1).take 7).length = 7 := by
    have : r.data.toList.length = r.size := by simp
    rw [List.length_take, List.length_drop]
    omega
  have h0 := (numOf_bd ((r.data.toList.drop 1).take 7)).1
  rw [hb, e, numOf_cons, hl] at h1
  have h2 : ((255 : UInt8).toNat : Int) * 256 ^ 7 = 18374686479671623680 := by decide
  omega
def BytesTh (g : Nat) (l : List UInt8) : Thing where
  At w bl := BytesZ w g l ∧ ∀ k, bl k ↔ k = g
  lt h k hk := by have := (h.2 k).1 hk; subst this; exact h.1.lt
  keep h ht hn := by
    obtain ⟨⟨rest, hr⟩, hb⟩ := h
    have hl := (Array.getElem?_eq_some_iff.1 hr).1
    exact ⟨⟨rest, by rw [ht.block _ hl (hn _ ((hb _).2 rfl))]; exact hr⟩, hb⟩
theorem Here.bytes {w0 w : World} {l : List Thing} {g : Nat} {bs : List UInt8} (h : Here w0 l w) (i : Nat) (hi : l[i]? = some (BytesTh g bs)) : BytesZ w g bs := by
  obtain ⟨bl, hP, _, _⟩ := h.focus i hi
  exact hP.1
theorem Here.setByte {w0 w : World} {l : List Thing} {g : Nat} {bs : List UInt8} (h : Here w0 l w) (i : Nat) (hi : l[i]? = some (BytesTh g bs)) (j : Nat) (hj : j < bs.length) (b : UInt8) : Here w0 (l.set i (BytesTh g (bs.set j b))) (w.setCell ⟨g, j, none⟩ (.int .u8 (b.toNat : Int))) := by
  obtain ⟨bl, ⟨hz, hb⟩, _, hstep⟩ := h.focus i hi
  exact hstep _ _ ⟨bl, ⟨hz.set j hj b, hb⟩, fun k hk => Or.inl hk, (Touch.refl bl w).set (p := ⟨g, j, none⟩) (Or.inl ((hb g).2 rfl)) _⟩
theorem Here.newBytes {w0 w : World} {l : List Thing} (h : Here w0 l w) (s : ByteArray) : Here w0 (BytesTh w.heap.size s.data.toList :: l) (Lib.bytesWorld w 5 s) :=
  h.new (bn := fun k => k = w.heap.size) ⟨bytes_new w s, fun k => Iff.rfl⟩ (fun k hk => by omega) (bytes_below w s)
theorem str_set_le (l : List UInt8) (j : Nat) (x : UInt8) : (str (l.set j x)).size = l.length := by rw [str_size, List.length_set]
theorem u8_xor13 (x m : UInt8) : bits BinOp.xor IntKind.u8 (x.toNat : Int) (m.toNat : Int) = ((x.toNat ^^^ m.toNat : Nat) : Int) := mask_bits7 x m
theorem unE_is {k b : ByteArray} (hf : formR b = true) (h : unE k b ≠ 0) : openR k b = false := by
  cases ho : openR k b with
  | false => rfl
  | true => exact absurd (by unfold unE; rw [hf, ho, if_pos rfl, if_pos rfl]) h

set_option maxRecDepth 100000 in
set_option maxHeartbeats 4000000 in
theorem recordRefuses_of (K : RecordKeeps) (key : ByteArray) (b : ByteArray) (at_ : Int) (by_ : Int) (w : World) (hkey : key.size ≤ 9223372036854775807) (hb : b.size ≤ 9223372036854775807) (hat_ : -9223372036854775808 ≤ at_ ∧ at_ ≤ 9223372036854775807) (hby_ : 0 ≤ by_ ∧ by_ ≤ 255) :
    Calls Tryz.prog 11 #[.string key, .string b, .int .i64 at_, .int .u8 by_] w fun e w' => e = .returned (.bool true) ∧ Below w.heap.size w w' := by
  have PA : Hid _ := alive13_of K
  by_cases c0 : 200 < (b.size : Int)
  · have d0 : decide (200 < (b.size : Int)) = true := decide_eq_true c0
    go_enter Tryz.func11, Tryz.ntmps11
    go_wp2_with fail
    with_reducible refine (PA.out _).mono ?_
    rintro e w1 ⟨rfl, b⟩
    go_wp2
    go_ret
    exact ⟨rfl, b⟩
  have d0 : decide (200 < (b.size : Int)) = false := decide_eq_false c0
  obtain ⟨y, rfl⟩ : ∃ y : UInt8, by_ = (y.toNat : Int) := ⟨UInt8.ofNat by_.toNat, by rw [UInt8.toNat_ofNat']; omega⟩
  by_cases cy : (y.toNat : Int) = 0
  · have dy : (((y.toNat : Nat) : Int) == 0) = true := by simp; omega
    go_enter Tryz.func11, Tryz.ntmps11
    go_wp2_with fail
    with_reducible refine (PA.out _).mono ?_
    rintro e w1 ⟨rfl, b⟩
    go_wp2
    go_ret
    exact ⟨rfl, b⟩
  have dy : (((y.toNat : Nat) : Int) == 0) = false := beq_eq_false_iff_ne.2 cy
  have F1 : Hid _ := fun w => law5_fill32 key w hkey
  have hk : (fillS key 32).size = 32 := fillS_size _ _
  generalize fillS key 32 = KK at *
  have hb2 : b.size ≤ 2046 := by omega
  have hz := recS_le KK 0 b hb2
  have hsq := seqN_rec KK 0 b (by omega)
  obtain ⟨o1, o2, o3⟩ := step_at KK b 0 (by omega) hb2
  obtain ⟨l, hl⟩ : ∃ l : List UInt8, recS KK 0 b = str l := ⟨_, (str_back _).symm⟩
  have hsl := str_size l
  rw [hl] at hz hsq o1 o2 o3
  obtain ⟨n, hn⟩ : ∃ n, l.length = n := ⟨_, rfl⟩
  have hsn : (str l).size = n := by rw [hsl, hn]
  rw [hsn] at hz
  clear hsl
  have hn1 : 56 ≤ n := hz.1
  have hn2 : n ≤ 2072 := hz.2
  obtain ⟨M, hM⟩ : ∃ M : Nat, M = n - 8 := ⟨_, rfl⟩
  obtain ⟨⟨t1, t2⟩, J, hJ, hJe⟩ := place13 at_ M (by omega)
  have v1 : IntKind.i64.wrap ((n : Int) - 8) = (M : Int) := by rw [IntKind.wrap_i64]; omega
  have v2 : IntKind.i64.wrap (at_.tmod M + (n : Int)) = at_.tmod M + (n : Int) := by rw [IntKind.wrap_i64]; omega
  have v3 : IntKind.i64.wrap (at_.tmod M + (n : Int) - 8) = at_.tmod M + (M : Int) := by rw [IntKind.wrap_i64]; omega
  have v4 : IntKind.i64.wrap (8 + (J : Int)) = ((8 + J : Nat) : Int) := by rw [IntKind.wrap_i64]; omega
  have v5 : ¬ ((M : Int) = 0) := by omega
  obtain ⟨j, hj⟩ : ∃ j, 8 + J = j := ⟨_, rfl⟩
  have hj8 : 8 ≤ j := by omega
  have hjn : j < n := by omega
  have hjl : j < l.length := by omega
  rw [hj] at v4
  have v6 : (0 : Int) ≤ (j : Int) := by omega
  have v7 : (j : Int) < (n : Int) := by omega
  obtain ⟨x, hx⟩ : ∃ x, l[j] = x := ⟨_, rfl⟩
  have hxor := u8_xor13 x y
  have hMs : seqN (str (l.set j (x ^^^ y))) = 0 := by rw [seqN_set l j _ hj8]; exact hsq
  have hMz : (str (l.set j (x ^^^ y))).size = n := by rw [str_set_le, hn]
  have hMf : formR (str (l.set j (x ^^^ y))) = true := decide_eq_true ⟨by omega, by omega⟩
  have PU : Hid _ := fun w1 => ref_unrecord KK (str (l.set j (x ^^^ y))) w1 hk (by omega)
  have P1 : Hid _ := fun w1 l (h : Here w l w1) => Here.newOut K h KK hk
  have P2 : Hid _ := fun w1 l (h : Here w l w1) => Here.newIn K h KK hk
  have P3 : Hid _ := fun w1 p q s (h : Here w [InTh K q s, OutTh K p KK 0] w1) => h.sealT 1 b rfl hb2 (by omega)
  rw [hl] at P3
  have PO : Hid _ := fun w1 g q m l' (b' : ByteArray) (hb' : b'.size ≤ 1000000) (h : Here w (BytesTh g m :: InTh K q ⟨KK, 0, []⟩ :: l') w1) => h.open_ 1 b' rfl hb'
  have hfew : errR ⟨KK, 0, []⟩ ((str l).extract 0 23) = 2 := few_no _ _ (by simp; omega)
  have hfar : errR ⟨KK, 0, []⟩ (⟨#[255]⟩ ++ (str l).extract 1 n) = 2 := num_no _ _ (by
    have := seqN_far (str l) (by omega)
    rwa [hsn] at this)
  have zfew : ((str l).extract 0 23).size ≤ 1000000 := by simp; omega
  have z255 : (⟨#[255]⟩ : ByteArray).size = 1 := rfl
  have zx : ((str l).extract 1 n).size ≤ n := by simp; omega
  have zfar : (⟨#[255]⟩ ++ (str l).extract 1 n : ByteArray).size ≤ 1000000 := by rw [ByteArray.size_append]; omega
  obtain ⟨n3, n4⟩ := step_no (s := ⟨KK, 0, []⟩) (b := (str l).extract 0 23) (by omega)
  obtain ⟨n5, n6⟩ := step_no (s := ⟨KK, 0, []⟩) (b := ⟨#[255]⟩ ++ (str l).extract 1 n) (by omega)
  have PF : Hid _ := fun w1 g q m l' (h : Here w (BytesTh g m :: InTh K q ⟨KK, 0, []⟩ :: l') w1) => PO.out w1 g q m l' ((str l).extract 0 23) zfew h
  have PG : Hid _ := fun w1 g q m l' (h : Here w (BytesTh g m :: InTh K q ⟨KK, 0, []⟩ :: l') w1) => PO.out w1 g q m l' (⟨#[255]⟩ ++ (str l).extract 1 n) zfar h
  have PL : Hid _ := fun w1 g q m l' (h : Here w (BytesTh g m :: InTh K q ⟨KK, 0, []⟩ :: l') w1) => PO.out w1 g q m l' (str l) (by omega) h
  have PM : Hid _ := fun w1 g q m l' (h : Here w (BytesTh g m :: InTh K q ⟨KK, 0, []⟩ :: l') w1) => PO.out w1 g q m l' (str (l.set j (x ^^^ y))) (by omega) h
  rw [hfew, n3, n4] at PF
  rw [hfar, n5, n6] at PG
  rw [o1, o2, o3] at PL
  have HM : Hid (errR ⟨KK, 0, []⟩ (str (l.set j (x ^^^ y))) ≠ 0 → errR ⟨KK, 0, []⟩ (str (l.set j (x ^^^ y))) = 3) := fun h => by
    have ho : oldR ⟨KK, 0, []⟩ (str (l.set j (x ^^^ y))) = false := old_is (by show 0 ≤ _; omega) (by show seqN (str (l.set j (x ^^^ y))) < 0 + 64; omega) (fun p hp => by cases hp)
    cases hq : openR KK (str (l.set j (x ^^^ y))) with
    | false => exact err_seal hMf ho hq
    | true => exact absurd (err_ok hMf ho hq) h
  have HU : Hid (unE KK (str (l.set j (x ^^^ y))) ≠ 0 → errR ⟨KK, 0, []⟩ (str (l.set j (x ^^^ y))) = 3) := fun h => by
    have ho : oldR ⟨KK, 0, []⟩ (str (l.set j (x ^^^ y))) = false := old_is (by show 0 ≤ _; omega) (by show seqN (str (l.set j (x ^^^ y))) < 0 + 64; omega) (fun p hp => by cases hp)
    exact err_seal hMf ho (unE_is hMf h)
  have hlt32 : decide ((n : Int) < 32) = false := decide_eq_false (by omega)
  have hl23 : (23 : Int) ≤ (n : Int) := by omega
  have hl1 : (1 : Int) ≤ (n : Int) := by omega
  have hcat : ¬ (9223372036854775807 < (⟨#[255]⟩ : ByteArray).size + ((str l).extract 1 n).size) := by
    omega
  have eb := str_beq_self b
  clear hl hz hsq o1 o2 o3 PO z255 zx hfew hfar n3 n4 n5 n6 zfew zfar hMs hMz hMf HM t1 t2 hM
  go_enter Tryz.func11, Tryz.ntmps11
  go_wp2_with fail
  with_reducible refine (PA.out _).mono ?_
  rintro e w1 ⟨rfl, b1⟩
  clear PA
  go_wp2_with fail
  with_reducible refine (F1.out _).mono ?_
  rintro e w' ⟨rfl, rfl⟩
  go_wp2_with fail
  with_reducible refine (P1.out _ _ (Here.start' b1)).mono ?_
  rintro e w2 ⟨p, rfl, h2⟩
  clear P1 F1 b1
  go_wp2_with fail
  with_reducible refine (P2.out _ _ h2).mono ?_
  rintro e w3 ⟨q, rfl, h3⟩
  replace h3 : Here w [InTh K q ⟨KK, 0, []⟩, OutTh K p KK 0] w3 := h3
  clear P2 h2
  go_wp2_with fail
  with_reducible refine (P3.out _ _ _ _ h3).mono ?_
  rintro e w4 ⟨rfl, h4⟩
  replace h4 : Here w [InTh K q ⟨KK, 0, []⟩, OutTh K p KK 1] w4 := h4
  clear P3 h3
  have hcv := bytes_conv w4 (str l)
  have h5 := h4.newBytes (str l)
  have hcap := grownCap_ge w4 (str l).size 0 5
  rw [show (str l).data.toList = l from by simp [str]] at h5
  rw [hsn] at hcv hcap
  generalize grownCap w4 n 0 5 = cap at *
  generalize Lib.bytesWorld w4 5 (str l) = w5 at *
  generalize w4.heap.size = g at *
  have hz5 := h5.bytes 0 rfl
  have hc := hz5.cell j hjl
  have hf := hz5.frozen j hjl
  rw [hx] at hc
  have h6 := h5.setByte 0 rfl j hjl (x ^^^ y)
  replace h6 : Here w [BytesTh g (l.set j (x ^^^ y)), InTh K q ⟨KK, 0, []⟩, OutTh K p KK 1] _ := h6
  rw [UInt8.toNat_xor] at h6
  have STR : Hid (∀ w1 l', Here w (BytesTh g (l.set j (x ^^^ y)) :: l') w1 → (convert 51 9 (.slice (some ⟨g, 0, none⟩) n cap)).run Tryz.prog w1 = .ok (.string (str (l.set j (x ^^^ y)))) w1) := fun w1 l' h => by
    have := (h.bytes 0 rfl).string n cap (by rw [List.length_set]; omega)
    rwa [List.take_of_length_le (by rw [List.length_set]; omega)] at this
  have hs6 := STR.out _ _ h6
  clear h4 h5 hz5
  generalize hMM : str (l.set j (x ^^^ y)) = MM at *
  generalize hLL : l.set j (x ^^^ y) = LL at *
  have H6 : Hid _ := h6
  clear h6 hLL hMM
  go_wp2_with fail
  clear hcv hc hf
  generalize w5.setCell ⟨g, j, none⟩ (.int .u8 ((x.toNat ^^^ y.toNat : Nat) : Int)) = w6 at *
  with_reducible refine (PU.out _).mono ?_
  rintro e w7 ⟨rfl, b7⟩
  have h7 := H6.out.below b7
  have hs7 := STR.out _ _ h7
  clear H6 hs6 b7
  by_cases hE : unE KK MM = 0
  · rw [hE]
    have HB : Hid _ := h7.bel
    clear h7
    go_wp2
    go_ret
    exact ⟨rfl, HB.out⟩
  · have dE : (((unE KK MM : Nat) : Int) == 0) = false := beq_eq_false_iff_ne.2 (by omega)
    have hE3 := HU.out hE
    obtain ⟨m1, m2⟩ := step_no (s := ⟨KK, 0, []⟩) (b := MM) (by omega)
    have P8 := PM.out _ _ _ _ _ h7
    rw [hE3, m1, m2] at P8
    clear hE3 m1 m2 hE PM HU PU h7
    generalize unE KK MM = EE at *
    go_wp2_with fail
    with_reducible refine P8.mono ?_
    rintro e w8 ⟨a8, c8, rfl, h8⟩
    replace h8 : Here w [BytesTh g LL, InTh K q ⟨KK, 0, []⟩, OutTh K p KK 1] w8 := Here.tail h8
    clear P8 hs7
    go_wp2_with fail
    with_reducible refine (PF.out _ _ _ _ _ h8).mono ?_
    rintro e w9 ⟨a9, c9, rfl, h9⟩
    replace h9 : Here w [BytesTh g LL, InTh K q ⟨KK, 0, []⟩, OutTh K p KK 1] w9 := Here.tail h9
    clear h8
    go_wp2_with fail
    with_reducible refine (PG.out _ _ _ _ _ h9).mono ?_
    rintro e w10 ⟨a10, c10, rfl, h10⟩
    replace h10 : Here w [BytesTh g LL, InTh K q ⟨KK, 0, []⟩, OutTh K p KK 1] w10 := Here.tail h10
    clear h9
    go_wp2_with fail
    with_reducible refine (PL.out _ _ _ _ _ h10).mono ?_
    rintro e w11 ⟨a11, c11, rfl, h11⟩
    clear h10
    have hown := h11.texts 0 rfl
    have HB : Hid _ := h11.bel
    obtain ⟨gg, cap2, e7, _, _⟩ := hown.form (by simp)
    injection e7 with x1 x2 x3
    subst x1 x3
    have c0 := hown.cell rfl 0 (by simp)
    clear h11 hown x2
    go_wp2
    go_ret
    exact ⟨rfl, HB.out⟩

end Go.Proofs.YtanghehmfagmfaaGreatDoor

/-
  Laws of chapter 13 over what package record tells: RecordEnds, RecordEpochs.
-/
namespace Go.Proofs.YtanghehmfagmfaaGreatDoor
open Go.RowKit
set_option linter.unusedVariables false
set_option maxRecDepth 100000
set_option linter.unusedSimpArgs false

set_option maxRecDepth 100000 in
set_option maxHeartbeats 4000000 in
theorem recordEpochs_of (K : RecordKeeps) (key : ByteArray) (b : ByteArray) (n : Int) (w : World) (hkey : key.size ≤ 9223372036854775807) (hb : b.size ≤ 9223372036854775807) (hn : -9223372036854775808 ≤ n ∧ n ≤ 9223372036854775807) :
    Calls Tryz.prog 7 #[.string key, .string b, .int .i64 n] w fun e w' => e = .returned (.bool true) ∧ Below w.heap.size w w' := by
  have PA : Hid _ := alive13_of K
  by_cases c0 : 30 < (b.size : Int)
  · have d0 : decide (30 < (b.size : Int)) = true := decide_eq_true c0
    go_enter Tryz.func7, Tryz.ntmps7
    go_wp2_with fail
    with_reducible refine (PA.out _).mono ?_
    rintro e w1 ⟨rfl, b⟩
    go_wp2
    go_ret
    exact ⟨rfl, b⟩
  have d0 : decide (30 < (b.size : Int)) = false := decide_eq_false c0
  by_cases c1 : n < 0
  · have d1 : decide (n < 0) = true := decide_eq_true c1
    go_enter Tryz.func7, Tryz.ntmps7
    go_wp2_with fail
    with_reducible refine (PA.out _).mono ?_
    rintro e w1 ⟨rfl, b⟩
    go_wp2
    go_ret
    exact ⟨rfl, b⟩
  have d1 : decide (n < 0) = false := decide_eq_false c1
  by_cases c2 : 60 < n
  · have d2 : decide (60 < n) = true := decide_eq_true c2
    go_enter Tryz.func7, Tryz.ntmps7
    go_wp2_with fail
    with_reducible refine (PA.out _).mono ?_
    rintro e w1 ⟨rfl, b⟩
    go_wp2
    go_ret
    exact ⟨rfl, b⟩
  have d2 : decide (60 < n) = false := decide_eq_false c2
  obtain ⟨N, rfl⟩ : ∃ N : Nat, n = (N : Int) := ⟨n.toNat, by omega⟩
  have F1 : Hid _ := fun w => law5_fill32 key w hkey
  have hk : (fillS key 32).size = 32 := fillS_size _ _
  generalize fillS key 32 = KK at *
  have hb2 : b.size ≤ 2046 := by omega
  have P1 : Hid _ := fun w1 l (h : Here w l w1) => Here.newOut K h KK hk
  have P2 : Hid _ := fun w1 l (h : Here w l w1) => Here.newIn K h KK hk
  have P3 : Hid _ := fun w1 p q k s (h : Here w [InTh K q s, OutTh K p KK k] w1) (hk : k < 400) => h.sealT 1 b rfl hb2 hk
  have e1 := str_beq_self b
  go_enter Tryz.func7, Tryz.ntmps7
  go_wp2_with fail
  with_reducible refine (PA.out _).mono ?_
  rintro e w1 ⟨rfl, b1⟩
  clear PA
  go_wp2_with fail
  with_reducible refine (F1.out _).mono ?_
  rintro e w' ⟨rfl, rfl⟩
  go_wp2_with fail
  with_reducible refine (P1.out _ _ (Here.start' b1)).mono ?_
  rintro e w2 ⟨p, rfl, h2⟩
  clear P1 F1 b1
  go_wp2_with fail
  with_reducible refine (P2.out _ _ h2).mono ?_
  rintro e w3 ⟨q, rfl, h3⟩
  clear P2 h2
  have H3 : Hid (Here w [InTh K q ⟨KK, 0, []⟩, OutTh K p KK 0] w3) := h3
  clear h3
  go_wp2_with fail
  go_loopw [9] (fun i wr => ∃ k : Nat, k ≤ N ∧ i = .int .i64 k ∧ Here w [InTh K q ⟨KK, k, []⟩, OutTh K p KK k] wr) (fun i _ => N - (intOf i).toNat)
  case atStart => exact ⟨0, Nat.zero_le _, rfl, H3.out⟩
  case round =>
    clear H3
    obtain ⟨k, hkn, rfl, hh⟩ := hrel
    by_cases hlt : k < N
    · have dlt : decide ((k : Int) < (N : Int)) = true := decide_eq_true (by omega)
      have PS := P3.out _ _ _ _ _ hh (by omega)
      obtain ⟨q1, q2, q3⟩ := step_at KK b k (by omega) hb2
      have hz := recS_le KK k b hb2
      have PO : Hid _ := fun w1 (h : Here w [InTh K q ⟨KK, k, []⟩, OutTh K p KK (k + 1)] w1) => h.open_ 0 (recS KK k b) rfl (by omega)
      rw [q1, q2, q3] at PO
      generalize recS KK k b = R at *
      clear hh q1 q2 q3 hz
      go_wp2_with fail
      with_reducible refine PS.mono ?_
      rintro e w4 ⟨rfl, h4⟩
      replace h4 : Here w [InTh K q ⟨KK, k, []⟩, OutTh K p KK (k + 1)] w4 := h4
      clear PS
      go_wp2_with fail
      with_reducible refine (PO.out _ h4).mono ?_
      rintro e w5 ⟨a5, c5, rfl, h5⟩
      replace h5 : Here w [TextsTh w.heap.size (.slice a5 1 c5) [b], InTh K q ⟨KK, k + 1, []⟩, OutTh K p KK (k + 1)] w5 := h5
      clear h4 PO
      have hown := h5.texts 0 rfl
      obtain ⟨g, cap, e7, _, _⟩ := hown.form (by simp)
      injection e7 with x1 x2 x3
      subst x1 x3
      have c0 := hown.cell rfl 0 (by simp)
      have PX := h5.inNext 1 rfl
      have PW : Hid _ := fun m => (h5.drewN m).tail.inWaits 0 rfl
      clear h5 hown x2
      go_wp2_with fail
      with_reducible refine PX.mono ?_
      rintro e w6 ⟨rfl, m, rfl⟩
      go_wp2_with fail
      with_reducible refine (PW.out m).mono ?_
      rintro e w7 ⟨rfl, h7⟩
      clear PW PX c0
      go_wp2
      go_roundw
      case rel => exact ⟨k + 1, by omega, by go_num, h7⟩
      case measure => simp [intOf]; omega
    · obtain rfl : k = N := by omega
      have dlt : decide ((k : Int) < (k : Int)) = false := by simp
      go_wp2
      go_ret
      exact ⟨rfl, hh.bel⟩

set_option maxRecDepth 100000 in
set_option maxHeartbeats 4000000 in
theorem recordEnds_of (K : RecordKeeps) (key : ByteArray) (b : ByteArray) (n : Int) (w : World) (hkey : key.size ≤ 9223372036854775807) (hb : b.size ≤ 9223372036854775807) (hn : -9223372036854775808 ≤ n ∧ n ≤ 9223372036854775807) :
    Calls Tryz.prog 4 #[.string key, .string b, .int .i64 n] w fun e w' => e = .returned (.bool true) ∧ Below w.heap.size w w' := by
  have PA : Hid _ := alive13_of K
  by_cases c0 : 100 < (b.size : Int)
  · have d0 : decide (100 < (b.size : Int)) = true := decide_eq_true c0
    go_enter Tryz.func4, Tryz.ntmps4
    go_wp2_with fail
    with_reducible refine (PA.out _).mono ?_
    rintro e w1 ⟨rfl, b⟩
    go_wp2
    go_ret
    exact ⟨rfl, b⟩
  have d0 : decide (100 < (b.size : Int)) = false := decide_eq_false c0
  by_cases c1 : n < 0
  · have d1 : decide (n < 0) = true := decide_eq_true c1
    go_enter Tryz.func4, Tryz.ntmps4
    go_wp2_with fail
    with_reducible refine (PA.out _).mono ?_
    rintro e w1 ⟨rfl, b⟩
    go_wp2
    go_ret
    exact ⟨rfl, b⟩
  have d1 : decide (n < 0) = false := decide_eq_false c1
  by_cases c2 : 420 < n
  · have d2 : decide (420 < n) = true := decide_eq_true c2
    go_enter Tryz.func4, Tryz.ntmps4
    go_wp2_with fail
    with_reducible refine (PA.out _).mono ?_
    rintro e w1 ⟨rfl, b⟩
    go_wp2
    go_ret
    exact ⟨rfl, b⟩
  have d2 : decide (420 < n) = false := decide_eq_false c2
  obtain ⟨N, rfl⟩ : ∃ N : Nat, n = (N : Int) := ⟨n.toNat, by omega⟩
  have F1 : Hid _ := fun w => law5_fill32 key w hkey
  have hk : (fillS key 32).size = 32 := fillS_size _ _
  have F2 : Hid (∀ w, Calls Tryz.prog 14 #[.string ⟨#[]⟩, .int .i64 2047] w fun e w' => e = .returned (.string (fillS ⟨#[]⟩ 2047)) ∧ w = w') := fun w => law5_fill ⟨#[]⟩ 2047 w (by decide) (by decide)
  have hl : (fillS ⟨#[]⟩ 2047).size = 2047 := fillS_size _ _
  generalize fillS ⟨#[]⟩ 2047 = LL at *
  generalize fillS key 32 = KK at *
  have hb2 : b.size ≤ 2046 := by omega
  have P1 : Hid _ := fun w1 l (h : Here w l w1) => Here.newOut K h KK hk
  have P2 : Hid _ := fun w1 p k (h : Here w [OutTh K p KK k] w1) => h.sealLarge 0 LL rfl (by omega) (by omega)
  have P3 : Hid _ := fun w1 p k (h : Here w [OutTh K p KK k] w1) (hk : k < 400) => h.sealT 0 b rfl hb2 hk
  have P4 : Hid _ := fun w1 p (k : Nat) (h : Here w [OutTh K p KK k] w1) (h1 : 400 ≤ k) (h2 : k ≤ 1000000) => h.sealEnd 0 b rfl hb2 h1 h2
  have P5 : Hid _ := fun w1 p k (h : Here w [OutTh K p KK k] w1) (hk : k ≤ 400) => h.outNext 0 rfl hk
  have P6 : Hid _ := fun w1 p k (h : Here w [OutTh K p KK k] w1) (hk : 400 ≤ k) => h.outNextEnd 0 rfl hk
  clear hl
  go_enter Tryz.func4, Tryz.ntmps4
  go_wp2_with fail
  with_reducible refine (PA.out _).mono ?_
  rintro e w1 ⟨rfl, b1⟩
  clear PA
  go_wp2_with fail
  with_reducible refine (F1.out _).mono ?_
  rintro e w' ⟨rfl, rfl⟩
  go_wp2_with fail
  with_reducible refine (P1.out _ _ (Here.start' b1)).mono ?_
  rintro e w2 ⟨p, rfl, h2⟩
  clear P1 F1 b1
  go_wp2_with fail
  with_reducible refine (F2.out _).mono ?_
  rintro e w' ⟨rfl, rfl⟩
  have H2 : Hid _ := h2
  clear h2 F2
  go_wp2_with fail
  go_loopw [9] (fun i wr => ∃ k : Nat, k ≤ N ∧ i = .int .i64 k ∧ Here w [OutTh K p KK k] wr) (fun i _ => N - (intOf i).toNat)
  case atStart => exact ⟨0, Nat.zero_le _, rfl, H2.out⟩
  case round =>
    clear H2
    obtain ⟨k, hkn, rfl, hh⟩ := hrel
    by_cases hlt : k < N
    · have dlt : decide ((k : Int) < (N : Int)) = true := decide_eq_true (by omega)
      have e50 : Int.tmod (k : Int) 50 = ((k % 50 : Nat) : Int) := by rw [Int.tmod_eq_emod_of_nonneg (by omega)]; omega
      by_cases hk4 : k < 400
      · have d4 : decide ((k : Int) < 400) = true := decide_eq_true (by omega)
        have hk5 : (k : Int) + 1 ≤ 400 := by omega
        by_cases h7 : k % 50 = 7
        · rw [h7] at e50
          clear h7
          go_wp2_with fail
          with_reducible refine (P2.out _ _ _ hh).mono ?_
          rintro e w3 ⟨s3, rfl, h3⟩
          replace hh : Here w [OutTh K p KK k] w3 := h3
          clear h3
          go_wp2_with fail
          with_reducible refine (P3.out _ _ _ hh hk4).mono ?_
          rintro e w4 ⟨rfl, h4⟩
          replace h4 : Here w [OutTh K p KK (k + 1)] w4 := h4
          have PX := P5.out _ _ _ h4 (by omega)
          clear hh
          go_wp2_with fail
          with_reducible refine PX.mono ?_
          rintro e w5 ⟨rfl, m, rfl⟩
          replace h4 := h4.drewN m
          clear PX
          go_wp2
          go_roundw
          case rel => exact ⟨k + 1, by omega, by go_num, h4⟩
          case measure => simp [intOf]; omega
        · have d7 : (((k % 50 : Nat) : Int) == 7) = false := beq_eq_false_iff_ne.2 (by omega)
          generalize k % 50 = r at *
          go_wp2_with fail
          with_reducible refine (P3.out _ _ _ hh hk4).mono ?_
          rintro e w4 ⟨rfl, h4⟩
          replace h4 : Here w [OutTh K p KK (k + 1)] w4 := h4
          have PX := P5.out _ _ _ h4 (by omega)
          clear hh
          go_wp2_with fail
          with_reducible refine PX.mono ?_
          rintro e w5 ⟨rfl, m, rfl⟩
          replace h4 := h4.drewN m
          clear PX
          go_wp2
          go_roundw
          case rel => exact ⟨k + 1, by omega, by go_num, h4⟩
          case measure => simp [intOf]; omega
      · have d4 : decide ((k : Int) < 400) = false := decide_eq_false (by omega)
        have hk5 : 400 ≤ (k : Int) + 1 := by omega
        by_cases h7 : k % 50 = 7
        · rw [h7] at e50
          clear h7
          go_wp2_with fail
          with_reducible refine (P2.out _ _ _ hh).mono ?_
          rintro e w3 ⟨s3, rfl, h3⟩
          replace hh : Here w [OutTh K p KK k] w3 := h3
          clear h3
          go_wp2_with fail
          with_reducible refine (P4.out _ _ _ hh (by omega) (by omega)).mono ?_
          rintro e w4 ⟨s4, rfl, h4⟩
          replace h4 : Here w [OutTh K p KK (k + 1)] w4 := h4
          have PX := P6.out _ _ _ h4 (by omega)
          clear hh
          go_wp2_with fail
          with_reducible refine PX.mono ?_
          rintro e w5 ⟨rfl, m, rfl⟩
          replace h4 := h4.drewN m
          clear PX
          go_wp2
          go_roundw
          case rel => exact ⟨k + 1, by omega, by go_num, h4⟩
          case measure => simp [intOf]; omega
        · have d7 : (((k % 50 : Nat) : Int) == 7) = false := beq_eq_false_iff_ne.2 (by omega)
          generalize k % 50 = r at *
          go_wp2_with fail
          with_reducible refine (P4.out _ _ _ hh (by omega) (by omega)).mono ?_
          rintro e w4 ⟨s4, rfl, h4⟩
          replace h4 : Here w [OutTh K p KK (k + 1)] w4 := h4
          have PX := P6.out _ _ _ h4 (by omega)
          clear hh
          go_wp2_with fail
          with_reducible refine PX.mono ?_
          rintro e w5 ⟨rfl, m, rfl⟩
          replace h4 := h4.drewN m
          clear PX
          go_wp2
          go_roundw
          case rel => exact ⟨k + 1, by omega, by go_num, h4⟩
          case measure => simp [intOf]; omega
    · obtain rfl : k = N := by omega
      have dlt : decide ((k : Int) < (k : Int)) = false := by simp
      go_wp2
      go_ret
      exact ⟨rfl, hh.bel⟩

end Go.Proofs.YtanghehmfagmfaaGreatDoor

/-
  Laws of chapter 13 over what package record tells: RecordFar.
-/
namespace Go.Proofs.YtanghehmfagmfaaGreatDoor
open Go.RowKit
set_option linter.unusedVariables false
set_option maxRecDepth 100000
set_option linter.unusedSimpArgs false

/-- The records of one text, up to n. -/
def recsX (k x : ByteArray) (n : Nat) : List ByteArray := (List.range n).map fun j => recS k j x
theorem recsX_len (k x : ByteArray) (n : Nat) : (recsX k x n).length = n := by simp [recsX]
theorem recsX_at (k x : ByteArray) (n j : Nat) (h : j < n) : (recsX k x n).getD j ⟨#[]⟩ = recS k j x := by
  unfold recsX
  rw [List.getD_eq_getElem?_getD, List.getElem?_map, List.getElem?_range h]
  rfl
theorem recsX_more (k x : ByteArray) (n : Nat) : recsX k x n ++ [recS k n x] = recsX k x (n + 1) := by
  unfold recsX
  rw [List.range_succ, List.map_append]
  rfl
theorem own_more13 {w : World} {base : Nat} {v : Value} {L : List ByteArray} {x : ByteArray} {n : Nat} (hn : n = L.length) (h : w.ownsRow base 9 1 v (n + 1) (cellsT L ++ [.string x])) : OwnT w base v (L ++ [x]) := by
  unfold OwnT
  subst hn
  rw [List.length_append]
  have e : cellsT (L ++ [x]) = cellsT L ++ [.string x] := by simp [cellsT]
  rw [e]
  exact h
theorem own_row13 {w : World} {base : Nat} {v : Value} {L : List ByteArray} {n : Nat} (hn : n = L.length) (h : OwnT w base v L) : w.ownsRow base 9 1 v n (cellsT L) := by subst hn; exact h

set_option maxRecDepth 100000 in
set_option maxHeartbeats 4000000 in
theorem recordFar_of (K : RecordKeeps) (key : ByteArray) (n : Int) (w : World) (hkey : key.size ≤ 9223372036854775807) (hn : -9223372036854775808 ≤ n ∧ n ≤ 9223372036854775807) :
    Calls Tryz.prog 8 #[.string key, .int .i64 n] w fun e w' => e = .returned (.bool true) ∧ Below w.heap.size w w' := by
  have PA : Hid _ := alive13_of K
  by_cases c0 : n < 64
  · have d0 : decide (n < 64) = true := decide_eq_true c0
    go_enter Tryz.func8, Tryz.ntmps8
    go_wp2_with fail
    with_reducible refine (PA.out _).mono ?_
    rintro e w1 ⟨rfl, b⟩
    go_wp2
    go_ret
    exact ⟨rfl, b⟩
  have d0 : decide (n < 64) = false := decide_eq_false c0
  by_cases c1 : 90 < n
  · have d1 : decide (90 < n) = true := decide_eq_true c1
    go_enter Tryz.func8, Tryz.ntmps8
    go_wp2_with fail
    with_reducible refine (PA.out _).mono ?_
    rintro e w1 ⟨rfl, b⟩
    go_wp2
    go_ret
    exact ⟨rfl, b⟩
  have d1 : decide (90 < n) = false := decide_eq_false c1
  obtain ⟨N, rfl⟩ : ∃ N : Nat, n = (N : Int) := ⟨n.toNat, by omega⟩
  obtain ⟨i0, hi0, hz0, hz1, hz2⟩ := info_parts infoT
  have F1 : Hid _ := fun w => law5_fill32 key w hkey
  have hk : (fillS key 32).size = 32 := fillS_size _ _
  generalize fillS key 32 = KK at *
  have P1 : Hid _ := fun w1 l (h : Here w l w1) => Here.newOut K h KK hk
  have P2 : Hid _ := fun w1 l (h : Here w l w1) => Here.newIn K h KK hk
  have P3 : Hid _ := fun w1 p k q s v L (h : Here w [TextsTh w.heap.size v L, InTh K q s, OutTh K p KK k] w1) (hk : k < 400) => h.sealT 2 ⟨#[120]⟩ rfl (by decide) hk
  have PO : Hid _ := fun w1 p k q s v L j (h : Here w [TextsTh w.heap.size v L, InTh K q s, OutTh K p KK k] w1) => h.open_ 1 (recS KK j ⟨#[120]⟩) rfl (by have := recS_le KK j ⟨#[120]⟩ (by decide); omega)
  go_enter Tryz.func8, Tryz.ntmps8
  go_wp2_with fail
  with_reducible refine (PA.out _).mono ?_
  rintro e w1 ⟨rfl, b1⟩
  clear PA
  go_wp2_with fail
  with_reducible refine (F1.out _).mono ?_
  rintro e w' ⟨rfl, rfl⟩
  go_wp2_with fail
  with_reducible refine (P1.out _ _ (Here.start' b1)).mono ?_
  rintro e w2 ⟨p, rfl, h2⟩
  clear P1 F1 b1
  go_wp2_with fail
  with_reducible refine (P2.out _ _ h2).mono ?_
  rintro e w3 ⟨q, rfl, h3⟩
  clear P2 h2
  have H3 : Hid (Here w [TextsTh w.heap.size (.slice none 0 0) [], InTh K q ⟨KK, 0, []⟩, OutTh K p KK 0] w3) := h3.newTexts w.heap.size
  clear h3
  go_wp2_with fail
  go_loopw [7, 8] (fun v i wr => ∃ (k : Nat) (a : Option Addr) (c : Nat), k ≤ N + 1 ∧ v = .slice a k c ∧ i = .int .i64 k ∧ Here w [TextsTh w.heap.size (.slice a k c) (recsX KK ⟨#[120]⟩ k), InTh K q ⟨KK, 0, []⟩, OutTh K p KK k] wr) (fun _ i _ => N + 1 - (intOf i).toNat)
  case atStart => exact ⟨0, none, 0, Nat.zero_le _, rfl, rfl, H3.out⟩
  case round =>
    clear H3
    obtain ⟨k, a, c, hkn, rfl, rfl, hh⟩ := hrel
    by_cases hlt : k ≤ N
    · have dlt : decide ((k : Int) ≤ (N : Int)) = true := decide_eq_true (by omega)
      have PS := P3.out _ _ _ _ _ _ _ hh (by omega)
      have HM : Hid _ := recsX_more KK ⟨#[120]⟩ k
      have HL : Hid _ := (recsX_len KK ⟨#[120]⟩ k).symm
      generalize recS KK k ⟨#[120]⟩ = R at *
      generalize recsX KK ⟨#[120]⟩ k = L0 at *
      clear hh
      go_wp2_with fail
      with_reducible refine PS.mono ?_
      rintro e w4 ⟨rfl, h4⟩
      replace h4 : Here w [TextsTh w.heap.size (.slice a k c) L0, InTh K q ⟨KK, 0, []⟩, OutTh K p KK (k + 1)] w4 := h4
      clear PS
      have hown := own_row13 HL.out ((h4.alloc (.cells #[.string R] 9)).texts 0 rfl)
      have hsz := h4.sz
      have H4 : Hid _ := h4.alloc (.cells #[.string R] 9)
      clear h4
      go_wp2_with (first | (at_builtin; refine wpList_append_two _ rfl (.tmp 53) (.tmp 55) 31 rfl w.heap.size 9 i0 (.string ⟨#[]⟩) 1 16 Tryz.underlying31 hi0 hz0 hz1 hz2 rfl (by decide) (.slice a k c) k (cellsT L0) rfl hown ⟨w4.heap.size, 0, none⟩ 1 1 [.string R] rfl rfl (cell_one_new w4 (.string R) 9) (by intro u hu; simp at hu; rw [hu]; rfl) (by unfold maxLen; omega) (by omega) (by simp; omega) ?_))
      intro v' w5 ho5 hg5 hat5
      have hown5 := own_more13 HL.out ho5
      rw [HM.out] at hown5
      obtain ⟨a', c', rfl⟩ : ∃ a' c', v' = .slice a' (k + 1) c' := by
        have := hown5.shape
        rw [recsX_len] at this
        exact this
      have h5 := H4.out.grow 0 rfl hown5 hg5 (by rw [show (w4.alloc (.cells #[.string R] 9)).heap.size = w4.heap.size + 1 by simp]; exact hat5)
      replace h5 : Here w [TextsTh w.heap.size (.slice a' (k + 1) c') (recsX KK ⟨#[120]⟩ (k + 1)), InTh K q ⟨KK, 0, []⟩, OutTh K p KK (k + 1)] w5 := h5
      clear hown ho5 hg5 hat5 hown5 H4
      go_wp2
      go_roundw
      case rel => exact ⟨k + 1, a', c', by omega, rfl, by go_num, h5⟩
      case measure => simp [intOf]; omega
    · obtain rfl : k = N + 1 := by omega
      have dlt : decide (((N + 1 : Nat) : Int) ≤ (N : Int)) = false := decide_eq_false (by omega)
      have hNN : N < N + 1 := by omega
      have hlen := recsX_len KK ⟨#[120]⟩ (N + 1)
      have HAT : Hid _ := fun j (hj : j < N + 1) => recsX_at KK ⟨#[120]⟩ (N + 1) j hj
      generalize recsX KK ⟨#[120]⟩ (N + 1) = LL at *
      obtain ⟨g, cap, e7, _, _⟩ := (hh.texts 0 rfl).form (by omega)
      injection e7 with x1 x2 x3
      subst x1 x3
      have CC : Hid (∀ (w1 : World) (s : InS) (j : Nat), Here w [TextsTh w.heap.size (.slice (some ⟨g, 0, none⟩) (N + 1) c) LL, InTh K q s, OutTh K p KK (N + 1)] w1 → j < N + 1 → w1.cell? ⟨g, j, none⟩ = some (.string (recS KK j ⟨#[120]⟩))) := fun w1 s j h hj => by
        have := (h.texts 0 rfl).cell hlen.symm j (by omega)
        rw [HAT.out j hj] at this
        exact this
      have c0 := CC.out _ _ N hh hNN
      obtain ⟨f1, f2, f3⟩ := far_no KK ⟨#[120]⟩ N (by omega) (by omega) (by decide)
      have PF := PO.out _ _ _ _ _ _ _ N hh
      rw [show (⟨KK, 0, []⟩ : InS) = InS.zero KK from rfl, f1, f2, f3] at PF
      clear f1 f2 f3 hh P3 HAT x2
      generalize hRN : recS KK N ⟨#[120]⟩ = RN at *
      have i0' : (0 : Int) ≤ (N : Int) := by omega
      have i1' : (N : Int) < ((N + 1 : Nat) : Int) := by omega
      go_wp2_with fail
      with_reducible refine PF.mono ?_
      rintro e w6 ⟨a6, c6, rfl, h6⟩
      clear PF c0
      have H6 : Hid (Here w [TextsTh w.heap.size (.slice (some ⟨g, 0, none⟩) (N + 1) c) LL, InTh K q ⟨KK, 0, []⟩, OutTh K p KK (N + 1)] w6) := h6.tail
      clear h6
      go_wp2_with fail
      go_loopw [13] (fun i wr => ∃ k : Nat, k ≤ N - 63 ∧ i = .int .i64 k ∧ Here w [TextsTh w.heap.size (.slice (some ⟨g, 0, none⟩) (N + 1) c) LL, InTh K q ⟨KK, k, []⟩, OutTh K p KK (N + 1)] wr) (fun i _ => N - (intOf i).toNat)
      case atStart => exact ⟨0, Nat.zero_le _, rfl, H6.out⟩
      case round =>
        clear H6
        obtain ⟨k, hk2, rfl, hh⟩ := hrel
        have w64 : IntKind.i64.wrap ((N : Int) - 64) = (N : Int) - 64 := by rw [IntKind.wrap_i64]; omega
        by_cases hlt2 : k < N - 63
        · have dl : decide ((k : Int) ≤ (N : Int) - 64) = true := decide_eq_true (by omega)
          have c1 := CC.out _ _ k hh (by omega)
          obtain ⟨q1, q2, q3⟩ := step_at KK ⟨#[120]⟩ k (by omega) (by decide)
          have PX := PO.out _ _ _ _ _ _ _ k hh
          rw [q1, q2, q3] at PX
          clear q1 q2 q3 hh CC hRN
          generalize recS KK k ⟨#[120]⟩ = RK at *
          have j0 : (0 : Int) ≤ (k : Int) := by omega
          have j1 : (k : Int) < ((N + 1 : Nat) : Int) := by omega
          go_wp2_with fail
          with_reducible refine PX.mono ?_
          rintro e w7 ⟨a7, c7, rfl, h7⟩
          have H7 : Hid (Here w [TextsTh w.heap.size (.slice (some ⟨g, 0, none⟩) (N + 1) c) LL, InTh K q ⟨KK, k + 1, []⟩, OutTh K p KK (N + 1)] w7) := h7.tail
          clear h7 PX c1
          go_wp2
          go_roundw
          case rel => exact ⟨k + 1, by omega, by go_num, H7.out⟩
          case measure => simp [intOf]; omega
        · obtain rfl : k = N - 63 := by omega
          have dl : decide (((N - 63 : Nat) : Int) ≤ (N : Int) - 64) = false := decide_eq_false (by omega)
          have c1 := CC.out _ _ N hh (by omega)
          rw [hRN] at c1
          obtain ⟨q1, q2, q3, q4⟩ := step_ahead KK ⟨#[120]⟩ (N - 63) N (by omega) (by omega) (by omega) (by decide)
          have PX := PO.out _ _ _ _ _ _ _ N hh
          rw [q1, q2] at PX
          rw [hRN] at PX q3 q4
          clear q1 q2 hh CC hRN PO
          generalize stepR ⟨KK, N - 63, []⟩ RN = S9 at *
          go_wp2_with fail
          with_reducible refine PX.mono ?_
          rintro e w7 ⟨a7, c7, rfl, h7⟩
          replace h7 : Here w [TextsTh w.heap.size (.slice a7 0 c7) [], TextsTh w.heap.size (.slice (some ⟨g, 0, none⟩) (N + 1) c) LL, InTh K q S9, OutTh K p KK (N + 1)] w7 := h7
          have PW := h7.inWaits 2 rfl
          rw [q4] at PW
          clear h7 PX c1
          go_wp2_with fail
          with_reducible refine PW.mono ?_
          rintro e w8 ⟨rfl, h8⟩
          replace h8 : Here w [TextsTh w.heap.size (.slice a7 0 c7) [], TextsTh w.heap.size (.slice (some ⟨g, 0, none⟩) (N + 1) c) LL, InTh K q S9, OutTh K p KK (N + 1)] w8 := h8
          have PN := h8.inNext 2 rfl
          rw [q3] at PN
          have HB : Hid _ := h8.bel
          have w63 : IntKind.i64.wrap ((N : Int) - 63) = ((N - 63 : Nat) : Int) := by rw [IntKind.wrap_i64]; omega
          clear h8 PW
          generalize N - 63 = M at *
          go_wp2_with fail
          with_reducible refine PN.mono ?_
          rintro e w9 ⟨rfl, m, rfl⟩
          go_wp2
          go_ret
          exact ⟨rfl, HB.out.trans ((bel_drewN13 _ m).mono HB.out.size)⟩

end Go.Proofs.YtanghehmfagmfaaGreatDoor
