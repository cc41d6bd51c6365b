/-
  Laws of chapter 8 over contracts of package pad: PadZeros.
-/
import Derived.Test.YtcgodbdakbekjaaDoorPad5
import Derived.Deep.RegionHeld3
namespace Go.Proofs.YtcgodbdakbekjaaDoor
open Go.RowKit
set_option linter.unusedVariables false
set_option maxRecDepth 100000
set_option linter.unusedSimpArgs false

/-- The conversion of bytes to a text under another name: a region's walk leaves it where it stands. -/
def opCv8 (x : Operand) : Op := Op.convert 27 9 x
theorem opCv8_is (x : Operand) : Op.convert 27 9 x = opCv8 x := rfl
theorem opCv8_back (x : Operand) : opCv8 x = Op.convert 27 9 x := rfl
def head8 (n : Nat) : ByteArray := str [byteOf (n : Int) 1, byteOf (n : Int) 0]
theorem head8_conv (W : World) (n : Nat) (hn : n ≤ 2046) : (convert 27 9 (.slice (some ⟨W.heap.size, 0, none⟩) 2 2)).run Tryd.prog (W.alloc (.cells #[.int .u8 ((n : Int) / 256), .int .u8 ((n : Int) % 256)] 5)).drew = .ok (.string (head8 n)) (W.alloc (.cells #[.int .u8 ((n : Int) / 256), .int .u8 ((n : Int) % 256)] 5)).drew := by
  have h1 := byteOf_val (n : Int) 1
  have h0 := byteOf_val (n : Int) 0
  have e1 : ((byteOf (n : Int) 1).toNat : Int) = (n : Int) / 256 := by rw [h1]; simp; omega
  have e0 : ((byteOf (n : Int) 0).toNat : Int) = (n : Int) % 256 := by rw [h0]; simp
  have hrow : RowIs (W.alloc (.cells #[.int .u8 ((n : Int) / 256), .int .u8 ((n : Int) % 256)] 5)) W.heap.size 5 (cells8 [byteOf (n : Int) 1, byteOf (n : Int) 0]) := by
    have := RowIs.new W 5 (cells8 [byteOf (n : Int) 1, byteOf (n : Int) 0])
    rwa [show (cells8 [byteOf (n : Int) 1, byteOf (n : Int) 0]).toArray = #[.int .u8 ((n : Int) / 256), .int .u8 ((n : Int) % 256)] from by simp only [cells8, List.map_cons, List.map_nil, cell8, e1, e0]] at this
  exact run_convert_bytes_back (P := Tryd.prog) _ 27 9 5 ⟨W.heap.size, 0, none⟩ 2 [byteOf (n : Int) 1, byteOf (n : Int) 0] Tryd.underlying27 Tryd.underlying5 Tryd.underlying9 (by
    intro j hj
    rw [show (⟨W.heap.size, 0, none⟩ : Addr).add j = ⟨W.heap.size, j, none⟩ from by simp [Addr.add]; exact fun h => h.symm]
    exact hrow.drew.cellAt (cells8_at _ j hj))
theorem mid_str8 (b : ByteArray) (n : Nat) (hn : n + 2 ≤ b.size) (w : World) :
    (Instr.slice 9 (.string b) (some (.int .i64 2)) (some (.int .i64 (2 + (n : Int)))) none).run Tryd.prog w = .ok (.string (b.extract 2 (2 + n))) w := by
  have h := run_slice_string (P := Tryd.prog) w 9 b .i64 .i64 2 (2 + (n : Int)) Tryd.underlying9 (by omega) (by omega) (by omega)
  rw [h]
  congr 2
theorem pad_parts (a0 : ByteArray) (h : a0.size ≤ 2046) : (padS a0).extract 0 2 = head8 a0.size ∧ (padS a0).extract 2 (2 + a0.size) = a0 ∧ ∀ i, 2 + a0.size ≤ i → ∀ hi : i < (padS a0).size, (padS a0)[i] = 0 := by
  have hl : a0.data.toList.length = a0.size := by simp
  have e3 := padS_yes a0 h
  have hpl : (padS a0).data.toList = byteOf (a0.size : Int) 1 :: byteOf (a0.size : Int) 0 :: (a0.data.toList ++ List.replicate ((sizeN (a0.size : Int)).toNat - 2 - a0.size) 0) := by
    rw [e3.2]
    show pad8L a0.data.toList = _
    unfold pad8L
    rw [putBig2, hl]
    simp
  refine ⟨?_, ?_, ?_⟩
  · apply ByteArray.ext
    apply Array.toList_inj.1
    rw [ByteArray.data_extract, Array.toList_extract, hpl]
    simp [List.extract, head8, str]
  · have := body_pad a0.data.toList (by omega)
    rw [hl, str_back, ← e3.2] at this
    exact this
  · intro i hi hlt
    have e1 : (padS a0)[i] = (padS a0).data.toList[i]'(by simpa using hlt) := by simp [ByteArray.getElem_eq_getElem_data]
    rw [e1]
    have e2 : (padS a0).data.toList[i]? = some 0 := by
      rw [hpl, show i = (i - 2 - a0.size) + a0.size + 1 + 1 from by omega, List.getElem?_cons_succ, List.getElem?_cons_succ, List.getElem?_append_right (by omega)]
      rw [List.getElem?_replicate, if_pos]
      have hz := padS_size a0 h
      omega
    have e4 := List.getElem?_eq_getElem (l := (padS a0).data.toList) (i := i) (by simpa using hlt)
    rw [e4] at e2
    exact Option.some.inj e2

set_option maxRecDepth 100000 in
set_option maxHeartbeats 1000000 in
theorem padZeros_of (K : PadKeeps) (a0 : ByteArray) (w : World) (h0 : a0.size ≤ 2046) :
    Calls Tryd.prog 6 #[.string a0] w fun e w' => e = .returned (.bool true) ∧ Below w.heap.size w w' := by
  have PA : Hid _ := alive8_of K
  have d1 : decide (2046 < (a0.size : Int)) = false := by simp; omega
  have p1 := fun w => K.pad a0 w (by omega)
  rw [(padS_yes a0 h0).1] at p1
  have P1 : Hid _ := p1
  clear p1
  have hs := padS_size a0 h0
  have hb := sizeN_bd (a0.size : Int) (by omega) (by omega)
  have hZ2 : a0.size + 2 ≤ (padS a0).size ∧ (padS a0).size ≤ 2048 := by omega
  clear hs hb
  go_enter Tryd.func6, Tryd.ntmps6
  go_wp2_with fail
  with_reducible refine (PA.out _).mono ?_
  rintro e w1 ⟨rfl, b⟩
  go_wp2_with fail
  with_reducible refine (P1.out _).mono ?_
  rintro e w2 ⟨rfl, b'⟩
  replace b := bel_chain82 b b'
  clear b'
  obtain ⟨q1, q2, q3⟩ := pad_parts a0 h0
  have Q3 : Hid _ := q3
  clear q3
  generalize padS a0 = P at *
  go_wp2_with fail
  have g1 : IntKind.i64.wrap ((a0.size : Int) + 2) = (a0.size : Int) + 2 := IntWalk.i64_in _ ⟨by omega, by omega⟩
  have g2 : decide ((P.size : Int) < (a0.size : Int) + 2) = false := by simp; omega
  have gA : IntKind.u8.wrap ((a0.size : Int) / 256) = (a0.size : Int) / 256 := by rw [show IntKind.u8.wrap ((a0.size : Int) / 256) = ((a0.size : Int) / 256) % 256 from by simp [IntKind.wrap, IntKind.bits, IntKind.signed]]; omega
  have gB : IntKind.u8.wrap (a0.size : Int) = (a0.size : Int) % 256 := by simp [IntKind.wrap, IntKind.bits, IntKind.signed]
  have g5 : IntKind.i64.wrap (2 + (a0.size : Int)) = 2 + (a0.size : Int) := IntWalk.i64_in _ ⟨by omega, by omega⟩
  have hcv := head8_conv w2 a0.size (by omega)
  have hmid := mid_str8 P a0.size (by omega)
  rw [q2] at hmid
  have s1 := str_beq_self (head8 a0.size)
  have s2 := str_beq_self a0
  generalize head8 a0.size = HD at *
  simp only [opCv8_is]
  have hop := opCv8_back
  have hbw : ∀ ob, Below w.heap.size w (w2.alloc ob).drew := fun ob => (b.alloc b.size ob).drew
  replace b := b.drew
  have g3 : (2 : Int) ≤ (P.size : Int) := by omega
  have g4 : (2 : Int) + (a0.size : Int) ≤ (P.size : Int) := by omega
  go_region_held3 (fun w' => True) (exact True.intro) (fail)
  all_goals
    clear hcv hop hmid s1 s2 q1 q2 g1 g2 g3 gA gB g5 b
    go_wp2_with fail
    go_loopw [5] (fun i wr => ∃ k : Nat, 2 + a0.size ≤ k ∧ k ≤ P.size ∧ i = .int .i64 k ∧ Below w.heap.size w wr) (fun i _ => P.size - (intOf i).toNat)
    case atStart => exact ⟨2 + a0.size, Nat.le_refl _, by omega, by simp, hbw _⟩
    case round =>
      clear hbw
      obtain ⟨k, hk1, hk2, rfl, hb⟩ := hrel
      by_cases hlt : k < P.size
      · have hx := Q3.out k hk1 hlt
        have d2 : decide ((k : Int) < (P.size : Int)) = true := by simp; omega
        have d3 : (k : Int) < (P.size : Int) := by omega
        go_wp2
        go_roundw
        case rel => exact ⟨k + 1, by omega, by omega, by go_num, hb⟩
        case measure => simp [intOf]; omega
      · have d2 : decide ((k : Int) < (P.size : Int)) = false := by simp; omega
        go_wp2
        go_ret
        exact ⟨rfl, hb⟩

end Go.Proofs.YtcgodbdakbekjaaDoor
