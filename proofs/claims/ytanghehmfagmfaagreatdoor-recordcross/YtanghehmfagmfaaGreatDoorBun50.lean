/-
  Parts of this proof, one behind the other: PadU, PadK.
-/
import Derived.Test.YtanghehmfagmfaaGreatDoorBun4
import Derived.Lib.TrimByte
import Derived.Test.YtanghehmfagmfaaGreatDoorBun48
import Derived.Test.YtanghehmfagmfaaGreatDoorBun6
import Derived.RegionTactic

/-
  Plain mathematics for pad.Unpad: what the checks of its code come to.
-/
namespace Go.Proofs.YtanghehmfagmfaaGreatDoor
open Go.RowKit
set_option linter.unusedVariables false
set_option maxRecDepth 100000
set_option linter.unusedSimpArgs false

theorem sizeN_four (n : Int) (h0 : 0 ≤ n) (h1 : n ≤ 2046) : sizeN n = 32 ∨ sizeN n = 128 ∨ sizeN n = 512 ∨ sizeN n = 2048 := by
  unfold sizeN
  rw [if_neg (by omega)]
  split
  · simp
  · split
    · simp
    · split
      · simp
      · simp
theorem unpadS_no (b : ByteArray) (h : unpadOk b = false) : unpadS b = ⟨#[]⟩ := by
  unfold unpadS
  rw [h]
  rfl
theorem body_size (b : ByteArray) (n : Nat) (h : n + 2 ≤ b.size) : (b.extract 2 (2 + n)).size = n := by
  rw [ByteArray.size_extract]
  omega
/-- What a padding must have. -/
theorem unpad_has (b : ByteArray) (h : unpadOk b = true) : headN b ≤ 2046 ∧ (b.size : Int) = sizeN (headN b : Int) := by
  obtain ⟨h2, hh, ho, hp⟩ := of_decide_eq_true h
  have hs := body_size b (headN b) hh
  have h1 : (b.extract 2 (2 + headN b)).size ≤ 2046 := of_decide_eq_true ho
  have e := padS_size _ h1
  rw [hp, hs] at e
  rw [hs] at h1
  have := sizeN_bd (headN b : Int) (by omega) (by omega)
  exact ⟨h1, by omega⟩
theorem unpad_no_len (b : ByteArray) (h : ¬ (headN b ≤ 2046 ∧ (b.size : Int) = sizeN (headN b : Int))) : unpadOk b = false ∧ unpadS b = ⟨#[]⟩ := by
  have : unpadOk b = false := by
    cases e : unpadOk b with
    | false => rfl
    | true => exact absurd (unpad_has b e) h
  exact ⟨this, unpadS_no b this⟩
theorem contains_sizes (x : Int) : sizesL.contains x = decide (x = 32 ∨ x = 128 ∨ x = 512 ∨ x = 2048) := by
  rw [Bool.eq_iff_iff]
  simp [sizesL]
theorem unpad_no_size (b : ByteArray) (h : sizesL.contains (b.size : Int) = false) : unpadOk b = false ∧ unpadS b = ⟨#[]⟩ := by
  rw [contains_sizes] at h
  have h' := of_decide_eq_false h
  refine unpad_no_len b fun hb => ?_
  have := sizeN_four (headN b : Int) (by omega) (by omega)
  omega
theorem put_head (b : ByteArray) (h : 2 ≤ b.size) : putBig (headN b : Int) 2 = b.data.toList.take 2 := by
  have hl : b.data.toList.length = b.size := by simp
  match hb : b.data.toList with
  | [] => rw [hb] at hl; simp at hl; omega
  | [x] => rw [hb] at hl; simp at hl; omega
  | x :: y :: r =>
    have hx := x.toNat_lt
    have hy := y.toNat_lt
    rw [head_list b x y r hb, putBig2]
    have h1 := byteOf_val ((x.toNat * 256 + y.toNat : Nat) : Int) 1
    have h0 := byteOf_val ((x.toNat * 256 + y.toNat : Nat) : Int) 0
    simp at h1 h0
    have e1 : byteOf ((x.toNat * 256 + y.toNat : Nat) : Int) 1 = x := UInt8.toNat_inj.1 (by simp; omega)
    have e0 : byteOf ((x.toNat * 256 + y.toNat : Nat) : Int) 0 = y := UInt8.toNat_inj.1 (by simp; omega)
    rw [e1, e0]
    rfl
theorem unpad_parts (b : ByteArray) (h1 : headN b ≤ 2046) (hs : (b.size : Int) = sizeN (headN b : Int)) :
    unpadOk b = decide (b.data.toList.drop (2 + headN b) = List.replicate (b.size - 2 - headN b) 0) := by
  have hbd := sizeN_bd (headN b : Int) (by omega) (by omega)
  have hz := body_size b (headN b) (by omega)
  have hl : b.data.toList.length = b.size := by simp
  have ht : (b.extract 2 (2 + headN b)).data.toList = (b.data.toList.drop 2).take (headN b) := by
    rw [ByteArray.data_extract, Array.toList_extract]
    simp [List.extract]
  have htl : ((b.data.toList.drop 2).take (headN b)).length = headN b := by simp; omega
  have hb : b.data.toList = b.data.toList.take 2 ++ (b.data.toList.drop 2).take (headN b) ++ b.data.toList.drop (2 + headN b) := by
    rw [List.append_assoc, ← List.drop_drop, List.take_append_drop, List.take_append_drop]
  have hok := padS_yes (b.extract 2 (2 + headN b)) (by omega)
  have hp : pad8L (b.extract 2 (2 + headN b)).data.toList = b.data.toList.take 2 ++ (b.data.toList.drop 2).take (headN b) ++ List.replicate (b.size - 2 - headN b) 0 := by
    unfold pad8L
    have hr : (sizeN (headN b : Int)).toNat - 2 - headN b = b.size - 2 - headN b := by omega
    rw [ht, htl, put_head b (by omega), hr]
  unfold unpadOk
  rw [Bool.eq_iff_iff, decide_eq_true_eq, decide_eq_true_eq]
  constructor
  · rintro ⟨_, _, _, h⟩
    rw [hok.2] at h
    have h' : pad8L (b.extract 2 (2 + headN b)).data.toList = b.data.toList := by
      have := congrArg (fun x : ByteArray => x.data.toList) h
      exact this
    rw [hp] at h'
    have h3 : b.data.toList.take 2 ++ (b.data.toList.drop 2).take (headN b) ++ List.replicate (b.size - 2 - headN b) 0 = b.data.toList.take 2 ++ (b.data.toList.drop 2).take (headN b) ++ b.data.toList.drop (2 + headN b) := h'.trans hb
    exact (List.append_cancel_left h3).symm
  · intro h
    refine ⟨by omega, by omega, hok.1, ?_⟩
    rw [hok.2, hp, ← h, ← hb]
    exact str_back b
theorem drop_nil (l : List UInt8) : l.dropWhile (· == 0) = [] ↔ ∀ x ∈ l, x = 0 := by
  induction l with
  | nil => simp
  | cons a r ih =>
    by_cases h : a = 0
    · simp [List.dropWhile, h, ih]
    · have hb : (a == 0) = false := by simpa using h
      simp [List.dropWhile, hb, h]
theorem trim_zeros (l : List UInt8) : Lib.trimB l 0 = [] ↔ l = List.replicate l.length 0 := by
  constructor
  · intro h
    have h2 : Lib.trimRightB l 0 = [] := by
      cases e : Lib.trimRightB l 0 with
      | nil => rfl
      | cons x r =>
        exfalso
        rw [Lib.trimB, e, Lib.trimLeftB, drop_nil] at h
        have hx : ∀ y ∈ x :: r, y = 0 := h
        rw [Lib.trimRightB] at e
        have e' : l.reverse.dropWhile (· == 0) = (x :: r).reverse := by rw [← e, List.reverse_reverse]
        cases e3 : (x :: r).reverse with
        | nil => simp at e3
        | cons z q =>
          rw [e3] at e'
          have hz : z = 0 := hx z (by rw [← List.mem_reverse, e3]; simp)
          have := List.head_dropWhile_not (p := (· == (0 : UInt8))) (l := l.reverse) (by rw [e']; simp)
          simp [e', hz] at this
    rw [Lib.trimRightB, List.reverse_eq_nil_iff, drop_nil] at h2
    exact List.eq_replicate_of_mem fun y hy => h2 y (by simpa using hy)
  · intro h
    rw [h, Lib.trimB, Lib.trimRightB]
    simp [Lib.trimLeftB]
/-- All that the code asks of bytes whose length fits. -/
theorem unpad_by_trim (b : ByteArray) (h1 : headN b ≤ 2046) (hs : (b.size : Int) = sizeN (headN b : Int)) :
    unpadOk b = decide (Lib.trimB (b.extract (2 + headN b) b.size).data.toList 0 = []) := by
  have hbd := sizeN_bd (headN b : Int) (by omega) (by omega)
  have hl : b.data.toList.length = b.size := by simp
  rw [unpad_parts b h1 hs, Bool.eq_iff_iff, decide_eq_true_eq, decide_eq_true_eq, Lib.extract_from]
  show _ ↔ Lib.trimB (b.data.toList.drop (2 + headN b)) 0 = []
  rw [trim_zeros]
  have : (b.data.toList.drop (2 + headN b)).length = b.size - 2 - headN b := by rw [List.length_drop, hl]; omega
  rw [this]

end Go.Proofs.YtanghehmfagmfaaGreatDoor

/-
  The contracts of package pad.
-/
namespace Go.Proofs.YtanghehmfagmfaaGreatDoor
open Go.RowKit
set_option linter.unusedVariables false
set_option maxRecDepth 100000
set_option linter.unusedSimpArgs false

theorem repeat_zero8 (c : Nat) : (⟨(Lib.repeatL (⟨#[0]⟩ : ByteArray).data.toList c).toArray⟩ : ByteArray) = str (List.replicate c 0) := by
  have := Lib.repeatL_replicate 0 1 c
  rw [Nat.mul_one] at this
  exact congrArg str this
theorem str_app9 (a b : List UInt8) : str a ++ str b = str (a ++ b) := by simp [str, ByteArray.ext_iff]
theorem ret_sbK {a b : ByteArray} {c d : Bool} (h : a = b) (h' : c = d) : Ending.returned (.tuple #[.string a, .bool c]) = .returned (.tuple #[.string b, .bool d]) := by rw [h, h']
theorem sz_new (w : World) : RowIs (w.alloc (.cells #[.int .u32 0, .int .i32 0, .int .u32 0, .slice none 0 0] 142)) w.heap.size 142 szNew := RowIs.new w _ szNew
theorem sz_below (w : World) : Below w.heap.size w (w.alloc (.cells #[.int .u32 0, .int .i32 0, .int .u32 0, .slice none 0 0] 142)) := (Below.refl _ _).alloc (Nat.le_refl _) _

theorem padK_size (n : Int) (w : World) (h0 : -9223372036854775808 ≤ n) (h1 : n ≤ 9223372036854775807) : Calls Tryz.prog 84 #[.int .i64 n] w fun e w' => e = .returned (.tuple #[.int .i64 (sizeN n), .bool (sizeOk n)]) ∧ Below w.heap.size w w' := by
  have r1 := sz_new w
  have b2 := sz_below w
  go_enter Tryz.func84, Tryz.ntmps84
  go_wp2_with fail
  generalize w.alloc (.cells #[.int .u32 0, .int .i32 0, .int .u32 0, .slice none 0 0] 142) = w2 at *
  have hl := (sizes_list_first w.heap.size w.heap.size w2 (Nat.le_refl _) r1).mono (R' := fun e w' => (∃ h, Sz w' w.heap.size h ∧ e = .returned (.slice (some ⟨h, 0, none⟩) 4 4)) ∧ Below w.heap.size w2 w') (fun e w' hh => by
    obtain ⟨⟨h, hs, _, he⟩, b⟩ := hh
    exact ⟨⟨h, hs, he⟩, b⟩)
  refine (sizes_least w.heap.size w.heap.size n w2 h0 h1 hl).mono ?_
  rintro e w' ⟨rfl, b⟩
  clear hl
  go_wp2
  go_ret2
  exact ⟨rfl, b2.trans b⟩

set_option maxHeartbeats 1000000 in
theorem padK_pad (b : ByteArray) (w : World) (hb : b.size ≤ 1000000) : Calls Tryz.prog 32 #[.string b] w fun e w' => e = .returned (.tuple #[.string (padS b), .bool (padOk b)]) ∧ Below w.heap.size w w' := by
  have P1 : Hid _ := fun w => padK_size (b.size : Int) w (by omega) (by omega)
  by_cases h : b.size ≤ 2046
  · rw [show sizeOk (b.size : Int) = true from decide_eq_true (by omega)] at P1
    have hbd := sizeN_bd (b.size : Int) (by omega) (by omega)
    obtain ⟨c, hc⟩ : ∃ c : Nat, sizeN (b.size : Int) - 2 - (b.size : Int) = (c : Int) := Int.eq_ofNat_of_zero_le (by omega)
    have p2 := fun w => Tryz.strings_Repeat ⟨#[0]⟩ c w (by omega) (by rw [show (⟨#[0]⟩ : ByteArray).size = 1 from rfl]; omega)
    rw [repeat_zero8] at p2
    have P2 : Hid _ := p2
    have P3 : Hid _ := fun w => octet_putBig (b.size : Int) 2 w (by omega) (by omega)
    have HS : Hid (putBigS (b.size : Int) 2 ++ b ++ str (List.replicate c 0) = padS b ∧ padOk b = true) := by
      have e := padS_yes b h
      refine ⟨?_, e.1⟩
      rw [e.2, pad8L, putBigS]
      have hl : b.data.toList.length = b.size := by simp
      rw [hl, show (sizeN (b.size : Int)).toNat - 2 - b.size = c from by omega, ← str_app9, ← str_app9, str_back]
    have z1 : (putBigS (b.size : Int) 2).size = 2 := by rw [putBigS, str_size, putBig2_len]
    have z2 : (str (List.replicate c 0)).size = c := by rw [str_size, List.length_replicate]
    have z3 : (putBigS (b.size : Int) 2 ++ b).size = b.size + 2 := by rw [ByteArray.size_append, z1]; omega
    clear p2
    generalize sizeN (b.size : Int) = S at *
    generalize putBigS (b.size : Int) 2 = H at *
    generalize str (List.replicate c 0) = Z at *
    have w1 : wrap64 (S - 2) = S - 2 := IntWalk.wrap64_in _ ⟨by omega, by omega⟩
    have w2 : wrap64 (S - 2 - (b.size : Int)) = (c : Int) := by rw [IntWalk.wrap64_in _ ⟨by omega, by omega⟩, hc]
    go_enter Tryz.func32, Tryz.ntmps32
    go_wp2_with fail
    with_reducible refine (P1.out _).mono ?_
    rintro e w1 ⟨rfl, b1⟩
    go_wp2_with fail
    with_reducible refine (P2.out _).mono ?_
    rintro e w' ⟨rfl, b'⟩
    replace b1 := bel_chain82 b1 b'
    clear b'
    go_wp2_with fail
    with_reducible refine (P3.out _).mono ?_
    rintro e w' ⟨rfl, b'⟩
    replace b1 := bel_chain82 b1 b'
    clear b'
    go_wp2
    go_ret2
    exact ⟨ret_sbK HS.out.1 HS.out.2.symm, b1⟩
  · rw [show sizeOk (b.size : Int) = false from decide_eq_false (by omega)] at P1
    rw [(padS_no b h).1, (padS_no b h).2]
    generalize sizeN (b.size : Int) = S at *
    go_enter Tryz.func32, Tryz.ntmps32
    go_wp2_with fail
    with_reducible refine (P1.out _).mono ?_
    rintro e w1 ⟨rfl, b1⟩
    go_wp2
    go_ret2
    exact ⟨rfl, b1⟩

theorem strings_clone (s : ByteArray) (w : World) (hs : s.size ≤ 1000000) : Calls Tryz.prog 30 #[.string s] w fun e w' => e = .returned (.string s) ∧ Below w.heap.size w w' := by
  go_enter Tryz.func30, Tryz.ntmps30
  go_wp2_with fail
  refine (Tryz.stringslite_Clone s _ (by omega)).mono ?_
  rintro e w' ⟨rfl, b⟩
  go_wp2
  go_ret
  exact ⟨rfl, b⟩

theorem conv_head (b : ByteArray) (h2 : 2 ≤ b.size) (w : World) : Calls Tryz.prog 43 #[.string (b.extract 0 2)] w fun e w' => e = .returned (.int .u64 (headN b : Int)) ∧ w = w' := by
  rw [headN_is]
  exact octet_big (b.extract 0 2) w (by rw [ByteArray.size_extract]; unfold maxLen; omega)

theorem slice_mid8 (b : ByteArray) (n : Nat) (w : World) (h : 2 + n ≤ b.size) :
    (Instr.slice 9 (.string b) (some (.int .i64 2)) (some (.int .i64 (2 + (n : Int)))) none).run Tryz.prog w = .ok (.string (b.extract 2 (2 + n))) w := by
  have h := run_slice_string (P := Tryz.prog) w 9 b .i64 .i64 2 (2 + (n : Int)) Tryz.underlying9 (by omega) (by omega) (by omega)
  rw [h]
  congr 2
theorem slice_end8 (b : ByteArray) (n : Nat) (w : World) (h : 2 + n ≤ b.size) :
    (Instr.slice 9 (.string b) (some (.int .i64 (2 + (n : Int)))) none none).run Tryz.prog w = .ok (.string (b.extract (2 + n) b.size)) w := by
  rw [run_slice_string_l (P := Tryz.prog) w 9 b Tryz.underlying9 .i64 (2 + (n : Int)) (by omega) (by omega)]
  congr 2

set_option maxHeartbeats 1000000 in
theorem padK_unpad (b : ByteArray) (w : World) (hb : b.size ≤ 1000000) : Calls Tryz.prog 46 #[.string b] w fun e w' => e = .returned (.tuple #[.string (unpadS b), .bool (unpadOk b)]) ∧ Below w.heap.size w w' := by
  have r1 := sz_new w
  have b2 := sz_below w
  have PC : Hid (∀ (h : Nat) (w : World), RowIs w h 3 (cellsI sizesL) → Calls Tryz.prog 107 #[.slice (some ⟨h, 0, none⟩) 4 4, .int .i64 (b.size : Int)] w fun e w' => e = .returned (.bool (sizesL.contains (b.size : Int))) ∧ w' = w) := fun h w hr =>
    Tryz.slices_Contains_int h 0 4 4 sizesL (b.size : Int) w (by decide) (by decide) (fun j hj => by rw [Nat.zero_add]; exact hr.cellAt (cellsI_at sizesL j hj))
  cases hm : sizesL.contains (b.size : Int) with
  | false =>
    obtain ⟨e1, e2⟩ := unpad_no_size b hm
    rw [e1, e2]
    rw [hm] at PC
    go_enter Tryz.func46, Tryz.ntmps46
    go_wp2_with fail
    generalize w.alloc (.cells #[.int .u32 0, .int .i32 0, .int .u32 0, .slice none 0 0] 142) = w2 at *
    refine (sizes_list_first w.heap.size w.heap.size w2 (Nat.le_refl _) r1).mono ?_
    rintro e w3 ⟨⟨h, hs, hb, rfl⟩, b3⟩
    go_wp2_with fail
    with_reducible refine (PC.out h _ hs.row).mono ?_
    rintro e w' ⟨rfl, rfl⟩
    go_wp2
    go_ret2
    exact ⟨rfl, b2.trans b3⟩
  | true =>
    rw [contains_sizes] at hm
    have hm' := of_decide_eq_true hm
    have h2 : 2 ≤ b.size := by omega
    have hN := headN_lt b h2
    have PB : Hid _ := conv_head b h2
    rw [contains_sizes, hm] at PC
    clear hm
    by_cases hq : headN b ≤ 2046 ∧ (b.size : Int) = sizeN (headN b : Int)
    · obtain ⟨q1, q2⟩ := hq
      have hbd := sizeN_bd (headN b : Int) (by omega) (by omega)
      have ut := unpad_by_trim b q1 q2
      have PL : Hid (∀ (g h base : Nat) (w : World), base ≤ w.heap.size → Sz w g h → Calls Tryz.prog 109 #[.pointer (some ⟨g, 0, none⟩), .int .i64 (headN b : Int)] w fun e w' => e = .returned (.tuple #[.int .i64 (b.size : Int), .bool true]) ∧ Below base w w') := fun g h base w hb hs => by
        have := sizes_least g base (headN b : Int) w (by omega) (by omega) (sizes_list_again g h base w hb hs)
        rwa [← q2, show sizeOk (headN b : Int) = true from decide_eq_true (by omega)] at this
      have PT : Hid _ := fun w => Tryz.strings_Trim_one (b.extract (2 + headN b) b.size) 0 (by decide) w (by rw [ByteArray.size_extract]; omega)
      have PK : Hid _ := fun w => strings_clone (b.extract 2 (2 + headN b)) w (by rw [ByteArray.size_extract]; omega)
      have HU : Hid (unpadS b = if unpadOk b then b.extract 2 (2 + headN b) else ⟨#[]⟩) := rfl
      have HV : Hid (unpadOk b = decide ((⟨(Lib.trimB (b.extract (2 + headN b) b.size).data.toList 0).toArray⟩ : ByteArray) = ⟨#[]⟩)) := by
        show unpadOk b = _
        rw [ut, Bool.eq_iff_iff, decide_eq_true_eq, decide_eq_true_eq]
        constructor
        · intro h; rw [h]
        · intro h
          have := congrArg (fun x : ByteArray => x.data.toList) h
          simpa using this
      have hsz : (2 : Int) + (headN b : Int) ≤ (b.size : Int) := by omega
      generalize (⟨(Lib.trimB (b.extract (2 + headN b) b.size).data.toList 0).toArray⟩ : ByteArray) = T at *
      clear ut q2 hbd
      generalize headN b = N at *
      have S1 : ∀ w : World, (Instr.slice 9 (.string b) (some (.int .i64 2)) (some (.int .i64 (2 + (N : Int)))) none).run Tryz.prog w = .ok (.string (b.extract 2 (2 + N))) w := fun w => slice_mid8 b N w (by omega)
      have S2 : ∀ w : World, (Instr.slice 9 (.string b) (some (.int .i64 (2 + (N : Int)))) none none).run Tryz.prog w = .ok (.string (b.extract (2 + N) b.size)) w := fun w => slice_end8 b N w (by omega)
      have hw' : IntKind.i64.wrap (2 + (N : Int)) = 2 + (N : Int) := IntWalk.i64_in _ ⟨by omega, by omega⟩
      have hw : wrap64 (2 + (N : Int)) = 2 + (N : Int) := IntWalk.wrap64_in _ ⟨by omega, by omega⟩
      by_cases ht : T = ⟨#[]⟩
      case' pos =>
        subst ht
        have e1 : unpadOk b = true := HV.out
        have HR : Hid (b.extract 2 (2 + N) = unpadS b ∧ true = unpadOk b) := ⟨by rw [HU.out, e1]; rfl, e1.symm⟩
        clear HU HV e1
      case' neg =>
        have e1 : unpadOk b = false := HV.out.trans (decide_eq_false ht)
        have HR : Hid ((⟨#[]⟩ : ByteArray) = unpadS b ∧ false = unpadOk b) := ⟨by rw [HU.out, e1]; rfl, e1.symm⟩
        have ht2 := str_full T ht
        clear HU HV e1 ht
      case pos =>
        go_enter Tryz.func46, Tryz.ntmps46
        go_wp2_with fail
        generalize w.alloc (.cells #[.int .u32 0, .int .i32 0, .int .u32 0, .slice none 0 0] 142) = w2 at *
        refine (sizes_list_first w.heap.size w.heap.size w2 (Nat.le_refl _) r1).mono ?_
        rintro e w3 ⟨⟨h, hs, hb, rfl⟩, b3⟩
        have hle : w.heap.size ≤ w3.heap.size := Nat.le_trans b2.size b3.size
        go_wp2_with fail
        with_reducible refine (PC.out h _ hs.row).mono ?_
        rintro e w' ⟨rfl, rfl⟩
        go_wp2_with fail
        with_reducible refine (PB.out _).mono ?_
        rintro e w' ⟨rfl, rfl⟩
        go_wp2_with fail
        with_reducible refine (PL.out _ h w.heap.size _ hle hs).mono ?_
        rintro e w4 ⟨rfl, b4⟩
        go_wp2_with fail
        go_region
        go_wp2_with fail
        with_reducible refine (PT.out _).mono ?_
        rintro e w5 ⟨rfl, hw5⟩
        rcases hw5 with rfl | rfl
        all_goals
          go_wp2_with fail
          with_reducible refine (PK.out _).mono ?_
          rintro e w6 ⟨rfl, b6⟩
          go_wp2
          go_ret2
          first | exact ⟨ret_sbK HR.out.1 HR.out.2, (((b2.trans b3).trans b4).drew).trans (b6.mono (Nat.le_trans hle b4.size))⟩ | exact ⟨ret_sbK HR.out.1 HR.out.2, (((b2.trans b3).trans b4).drew.drew).trans (b6.mono (Nat.le_trans hle b4.size))⟩
      case neg =>
        go_enter Tryz.func46, Tryz.ntmps46
        go_wp2_with fail
        generalize w.alloc (.cells #[.int .u32 0, .int .i32 0, .int .u32 0, .slice none 0 0] 142) = w2 at *
        refine (sizes_list_first w.heap.size w.heap.size w2 (Nat.le_refl _) r1).mono ?_
        rintro e w3 ⟨⟨h, hs, hb, rfl⟩, b3⟩
        have hle : w.heap.size ≤ w3.heap.size := Nat.le_trans b2.size b3.size
        go_wp2_with fail
        with_reducible refine (PC.out h _ hs.row).mono ?_
        rintro e w' ⟨rfl, rfl⟩
        go_wp2_with fail
        with_reducible refine (PB.out _).mono ?_
        rintro e w' ⟨rfl, rfl⟩
        go_wp2_with fail
        with_reducible refine (PL.out _ h w.heap.size _ hle hs).mono ?_
        rintro e w4 ⟨rfl, b4⟩
        go_wp2_with fail
        go_region
        go_wp2_with fail
        with_reducible refine (PT.out _).mono ?_
        rintro e w5 ⟨rfl, hw5⟩
        rcases hw5 with rfl | rfl
        all_goals
          go_wp2
          go_ret2
          first | exact ⟨ret_sbK HR.out.1 HR.out.2, ((b2.trans b3).trans b4).drew⟩ | exact ⟨ret_sbK HR.out.1 HR.out.2, ((b2.trans b3).trans b4).drew.drew⟩
    · obtain ⟨e1, e2⟩ := unpad_no_len b hq
      rw [e1, e2]
      have PL : Hid (∀ (g h base : Nat) (w : World), base ≤ w.heap.size → Sz w g h → Calls Tryz.prog 109 #[.pointer (some ⟨g, 0, none⟩), .int .i64 (headN b : Int)] w fun e w' => e = .returned (.tuple #[.int .i64 (sizeN (headN b : Int)), .bool (sizeOk (headN b : Int))]) ∧ Below base w w') := fun g h base w hb hs =>
        sizes_least g base (headN b : Int) w (by omega) (by omega) (sizes_list_again g h base w hb hs)
      have HQ : Hid (sizeOk (headN b : Int) = false ∨ sizeOk (headN b : Int) = true ∧ (sizeN (headN b : Int) == (b.size : Int)) = false) := by
        show _ ∨ _
        by_cases h : headN b ≤ 2046
        · right
          refine ⟨decide_eq_true (by omega), ?_⟩
          rw [beq_eq_false_iff_ne]
          exact fun e => hq ⟨h, e.symm⟩
        · exact Or.inl (decide_eq_false (by omega))
      clear hq
      generalize sizeOk (headN b : Int) = O at *
      generalize sizeN (headN b : Int) = S at *
      generalize headN b = N at *
      go_enter Tryz.func46, Tryz.ntmps46
      go_wp2_with fail
      generalize w.alloc (.cells #[.int .u32 0, .int .i32 0, .int .u32 0, .slice none 0 0] 142) = w2 at *
      refine (sizes_list_first w.heap.size w.heap.size w2 (Nat.le_refl _) r1).mono ?_
      rintro e w3 ⟨⟨h, hs, hb, rfl⟩, b3⟩
      have hle : w.heap.size ≤ w3.heap.size := Nat.le_trans b2.size b3.size
      go_wp2_with fail
      with_reducible refine (PC.out h _ hs.row).mono ?_
      rintro e w' ⟨rfl, rfl⟩
      go_wp2_with fail
      with_reducible refine (PB.out _).mono ?_
      rintro e w' ⟨rfl, rfl⟩
      go_wp2_with fail
      with_reducible refine (PL.out _ h w.heap.size _ hle hs).mono ?_
      rintro e w4 ⟨rfl, b4⟩
      rcases HQ.out with rfl | ⟨rfl, hne⟩
      all_goals
        go_wp2
        go_ret2
        exact ⟨rfl, (b2.trans b3).trans b4⟩

end Go.Proofs.YtanghehmfagmfaaGreatDoor
