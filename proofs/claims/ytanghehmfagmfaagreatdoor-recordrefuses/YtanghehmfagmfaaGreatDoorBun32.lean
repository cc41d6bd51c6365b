/-
  Parts of this proof, one behind the other: Box3, Box4.
-/
import Derived.Test.YtanghehmfagmfaaGreatDoorBun28
import Derived.Test.YtanghehmfagmfaaGreatDoorBun4
import Derived.Test.YtanghehmfagmfaaGreatDoorBun10
import Derived.Test.YtanghehmfagmfaaGreatDoorBun11
import Derived.Test.YtanghehmfagmfaaGreatDoorBun31
import Derived.Test.YtanghehmfagmfaaGreatDoorBun30
import Derived.Deep.RegionHeld3

/-
  The contracts of the reference's fine, filled, Box and Unbox.
-/
namespace Go.Proofs.YtanghehmfagmfaaGreatDoor
open Go.RowKit
set_option linter.unusedVariables false
set_option maxRecDepth 100000
set_option linter.unusedSimpArgs false

theorem ref_fine (k n : ByteArray) (w : World) :
    Calls Tryz.prog 96 #[.string k, .string n] w fun e w' => e = .returned (.bool (decide (k.size = 32 ∧ n.size = 12))) ∧ w = w' := by
  by_cases h : k.size = 32 <;> by_cases h' : n.size = 12
  all_goals
    go_enter Tryz.func96, Tryz.ntmps96
    go_wp2
    go_ret
    exact ⟨by simp [h, h']; try omega, rfl⟩

def fullS (b : ByteArray) : ByteArray := str (fullL b.data.toList)
theorem fullS_size (b : ByteArray) : (fullS b).size = b.size + fillZ b.size := by rw [fullS, str_size, fullL_len]; simp
theorem fullS_is (b : ByteArray) : b ++ str (List.replicate (fillZ b.size) 0) = fullS b := by
  unfold fullS fullL
  rw [show b ++ str (List.replicate (fillZ b.size) 0) = str b.data.toList ++ str (List.replicate (fillZ b.size) 0) from by rw [str_back], str_app]
  simp

theorem ref_filled (b : ByteArray) (w : World) (hb : b.size ≤ 140737488355328) :
    Calls Tryz.prog 100 #[.string b] w fun e w' => e = .returned (.string (fullS b)) ∧ Below w.heap.size w w' := by
  have hz := fillZ_lt b.size
  have HZ : Hid _ := fun w => ref_zeros (fillZ b.size) w (by omega)
  have hs : (str (List.replicate (fillZ b.size) 0)).size = fillZ b.size := by rw [str_size, List.length_replicate]
  have HF : Hid _ := fullS_is b
  have ht : (16 - (b.size : Int) % 16) % 16 = (fillZ b.size : Int) := by
    unfold fillZ
    omega
  have ht2 : -((b.size : Int) % 16) % 16 = (fillZ b.size : Int) := by
    unfold fillZ
    omega
  generalize str (List.replicate (fillZ b.size) 0) = Z at *
  generalize fillZ b.size = z at *
  have hln : ¬ (9223372036854775807 < b.size + Z.size) := by omega
  go_enter Tryz.func100, Tryz.ntmps100
  go_wp2_with fail
  with_reducible refine (HZ.out _).mono ?_
  rintro e w1 ⟨rfl, b1⟩
  go_wp2
  go_ret
  exact ⟨ret_str HF.out, b1⟩

end Go.Proofs.YtanghehmfagmfaaGreatDoor

/-
  The contracts of the reference's Box and Unbox.
-/
namespace Go.Proofs.YtanghehmfagmfaaGreatDoor
open Go.RowKit
set_option linter.unusedVariables false
set_option maxRecDepth 100000
set_option linter.unusedSimpArgs false

theorem bel_chain7 {w w1 w2 : World} (h1 : Below w.heap.size w w1) (h2 : Below w1.heap.size w1 w2) : Below w.heap.size w w2 := h1.trans (h2.mono h1.size)
theorem ret_sb7 {a b : ByteArray} {c : Bool} (h : a = b) : Ending.returned (.tuple #[.string a, .bool c]) = .returned (.tuple #[.string b, .bool c]) := by rw [h]
theorem mask_bits7 (x m : UInt8) : bits BinOp.xor IntKind.u8 (x.toNat : Int) (m.toNat : Int) = ((x.toNat ^^^ m.toNat : Nat) : Int) := u8_xor_nat _ _ x.toNat_lt m.toNat_lt
theorem boxL_is (more c : ByteArray) : fullS more ++ fullS c ++ putLittleS (more.size : Int) 8 ++ putLittleS (c.size : Int) 8 = str (boxL more.data.toList c.data.toList) := by
  unfold fullS putLittleS boxL
  rw [str_app, str_app, str_app]
  simp

set_option maxRecDepth 100000 in
set_option maxHeartbeats 1000000 in
theorem ref_box_yes (key nonce plain more : ByteArray) (w : World) (hk : key.size = 32) (hn : nonce.size = 12) (hc : plain.size ≤ 1000000) (hm : more.size ≤ 1000000) :
    Calls Tryz.prog 39 #[.string key, .string nonce, .string plain, .string more] w fun e w' => e = .returned (.tuple #[.string (sealS key nonce plain more), .bool true]) ∧ Below w.heap.size w w' := by
  have hfit : decide (key.size = 32 ∧ nonce.size = 12) = true := by simp [hk, hn]
  have hA := fun w => ref_fine key nonce w
  rw [hfit] at hA
  have PA : Hid _ := hA
  clear hA hfit
  have hz := hideS_size key 1 nonce plain
  have PS : Hid _ := fun w => ref_stream key 1 nonce plain w hk hn (by unfold W32; omega) hc
  have PB : Hid _ := fun w => ref_block key 0 nonce w hk hn (by unfold W32; omega)
  have hbz := blockS_size key 0 nonce
  have HS : Hid (hideS key 1 nonce plain ++ tagS ((blockS key 0 nonce).extract 0 32) (fullS more ++ fullS (hideS key 1 nonce plain) ++ putLittleS (more.size : Int) 8 ++ putLittleS ((hideS key 1 nonce plain).size : Int) 8) = sealS key nonce plain more) := by
    show _ = _
    rw [boxL_is]; rfl
  generalize hideS key 1 nonce plain = H at *
  generalize blockS key 0 nonce = B at *
  have P1 : Hid _ := fun w => ref_filled more w (by omega)
  have P2 : Hid _ := fun w => ref_filled H w (by omega)
  have P3 : Hid _ := fun w => ref_putLittle_yes (more.size : Int) 8 w (by omega) (by omega) (by decide) (by decide)
  have P4 : Hid _ := fun w => ref_putLittle_yes (H.size : Int) 8 w (by omega) (by omega) (by decide) (by decide)
  have q1 := fullS_size more
  have q2 := fullS_size H
  have q3 : (putLittleS (more.size : Int) 8).size = 8 := by rw [putLittleS, str_size, putLittle8_len]
  have q4 : (putLittleS (H.size : Int) 8).size = 8 := by rw [putLittleS, str_size, putLittle8_len]
  have f1 := fillZ_lt more.size
  have f2 := fillZ_lt H.size
  have u1 : IntKind.u64.wrap (more.size : Int) = more.size := by rw [IntKind.wrap_u64]; omega
  have u2 : IntKind.u64.wrap (H.size : Int) = H.size := by rw [IntKind.wrap_u64]; omega
  rw [show ((8 : Nat) : Int) = 8 from rfl] at P3 P4
  generalize fullS more = M at *
  generalize fullS H = C at *
  generalize putLittleS (more.size : Int) 8 = L1 at *
  generalize putLittleS (H.size : Int) 8 = L2 at *
  have z1 : (M ++ C).size = M.size + C.size := ByteArray.size_append
  have z2 : (M ++ C ++ L1).size = M.size + C.size + L1.size := by rw [ByteArray.size_append, z1]
  have z3 : (M ++ C ++ L1 ++ L2).size = M.size + C.size + L1.size + L2.size := by rw [ByteArray.size_append, z2]
  have n1 : ¬ (9223372036854775807 < M.size + C.size) := by omega
  obtain ⟨A1, h1⟩ : ∃ A, M ++ C = A := ⟨_, rfl⟩
  rw [h1] at z1 z2 z3 HS
  have n2 : ¬ (9223372036854775807 < A1.size + L1.size) := by omega
  obtain ⟨A2, h2⟩ : ∃ A, A1 ++ L1 = A := ⟨_, rfl⟩
  rw [h2] at z2 z3 HS
  have n3 : ¬ (9223372036854775807 < A2.size + L2.size) := by omega
  obtain ⟨A3, h3⟩ : ∃ A, A2 ++ L2 = A := ⟨_, rfl⟩
  rw [h3] at z3 HS
  have hB : (32 : Int) ≤ (B.size : Int) := by omega
  have hB32 : (B.extract 0 32).size = 32 := by simp [hbz]
  have P5 : Hid _ := fun w => ref_tag (B.extract 0 32) A3 w hB32 (by omega)
  have tz := tagS_size (B.extract 0 32) A3
  generalize tagS (B.extract 0 32) A3 = T at *
  have n4 : ¬ (9223372036854775807 < H.size + T.size) := by omega
  clear hk hn hc hm q1 q2 q3 q4 f1 f2 z1 z2 z3 tz hB32 hz
  go_enter Tryz.func39, Tryz.ntmps39
  go_wp2_with fail
  with_reducible refine (PA.out _).mono ?_
  rintro e w' ⟨rfl, rfl⟩
  go_wp2_with fail
  with_reducible refine (PS.out _).mono ?_
  rintro e w1 ⟨rfl, b⟩
  go_wp2_with fail
  replace b := b.drew
  go_region_held3 (fun w' => True) (exact True.intro) (first | (go_at_call 99; (with_reducible refine (PB.out _).mono ?_); rintro e w5 ⟨rfl, b5⟩; replace b := bel_chain7 b b5; clear b5) | (go_at_call 100; (first | with_reducible refine (P1.out _).mono ?_ | with_reducible refine (P2.out _).mono ?_); rintro e w5 ⟨rfl, b5⟩; replace b := bel_chain7 b b5; clear b5) | (go_at_call 101; (first | with_reducible refine (P3.out _).mono ?_ | with_reducible refine (P4.out _).mono ?_); rintro e w5 ⟨rfl, b5⟩; replace b := bel_chain7 b b5; clear b5) | (go_at_call 98; (with_reducible refine (P5.out _).mono ?_); rintro e w5 ⟨rfl, b5⟩; replace b := bel_chain7 b b5; clear b5))
  all_goals
    go_wp2
    go_ret2
    exact ⟨ret_sb7 HS.out, b⟩
set_option maxHeartbeats 400000 in
theorem ref_unbox_yes (key nonce b more : ByteArray) (w : World) (hk : key.size = 32) (hn : nonce.size = 12) (hb : b.size ≤ 1000000) (hm : more.size ≤ 1000000) :
    Calls Tryz.prog 81 #[.string key, .string nonce, .string b, .string more] w fun e w' => e = .returned (.tuple #[.string (openS key nonce b more), .bool (openOk key nonce b more)]) ∧ Below w.heap.size w w' := by
  have hfit : decide (key.size = 32 ∧ nonce.size = 12) = true := by simp [hk, hn]
  have hA := fun w => ref_fine key nonce w
  rw [hfit] at hA
  have PA : Hid _ := hA
  clear hA hfit
  by_cases h16 : b.size < 16
  · have ok : openOk key nonce b more = false := by unfold openOk; rw [decide_eq_false (by omega)]; rfl
    have os : openS key nonce b more = ⟨#[]⟩ := by unfold openS; rw [ok]; rfl
    rw [ok, os]
    have hlt : (b.size : Int) < 16 := by omega
    clear hk hn hm ok os
    go_enter Tryz.func81, Tryz.ntmps81
    go_wp2_with fail
    with_reducible refine (PA.out _).mono ?_
    rintro e w' ⟨rfl, rfl⟩
    go_wp2
    go_ret2
    exact ⟨rfl, Below.refl _ _⟩
  · have hlt : ¬ (b.size : Int) < 16 := by omega
    have hag := seal_again key nonce b more (by omega)
    have hx : (b.extract 0 (b.size - 16)).size = b.size - 16 := by simp
    have PS : Hid _ := fun w => ref_stream key 1 nonce (b.extract 0 (b.size - 16)) w hk hn (by unfold W32; omega) (by omega)
    have hz := hideS_size key 1 nonce (b.extract 0 (b.size - 16))
    have PB : Hid _ := fun w => ref_box_yes key nonce (hideS key 1 nonce (b.extract 0 (b.size - 16))) more w hk hn (by omega) hm
    by_cases ht : boxTag key nonce more (b.extract 0 (b.size - 16)) = b.extract (b.size - 16) b.size
    · have ok : openOk key nonce b more = true := by unfold openOk; rw [decide_eq_true ht, decide_eq_true (by omega)]; rfl
      have os : openS key nonce b more = hideS key 1 nonce (b.extract 0 (b.size - 16)) := by unfold openS; rw [ok, if_pos rfl]
      rw [ok, os]
      rw [hag.2 ht] at PB
      have e1 := str_beq_self b
      clear ht ok os hk hn hm hag hz
      generalize hideS key 1 nonce (b.extract 0 (b.size - 16)) = H at *
      go_enter Tryz.func81, Tryz.ntmps81
      go_wp2_with fail
      with_reducible refine (PA.out _).mono ?_
      rintro e w' ⟨rfl, rfl⟩
      go_wp2_with fail
      with_reducible refine (PS.out _).mono ?_
      rintro e w1 ⟨rfl, b1⟩
      go_wp2_with fail
      with_reducible refine (PB.out _).mono ?_
      rintro e w2 ⟨rfl, b2⟩
      go_wp2
      go_ret2
      exact ⟨rfl, bel_chain7 b1 b2⟩
    · have ok : openOk key nonce b more = false := by unfold openOk; rw [decide_eq_false ht, Bool.and_false]
      have os : openS key nonce b more = ⟨#[]⟩ := by unfold openS; rw [ok]; rfl
      rw [ok, os]
      have hne : sealS key nonce (hideS key 1 nonce (b.extract 0 (b.size - 16))) more ≠ b := fun e => ht (hag.1 e)
      have e1 : ((sealS key nonce (hideS key 1 nonce (b.extract 0 (b.size - 16))) more).toList == b.toList) = false := by rw [str_beq]; exact decide_eq_false hne
      clear ht ok os hk hn hm hag hz hne
      generalize sealS key nonce (hideS key 1 nonce (b.extract 0 (b.size - 16))) more = S at *
      generalize hideS key 1 nonce (b.extract 0 (b.size - 16)) = H at *
      go_enter Tryz.func81, Tryz.ntmps81
      go_wp2_with fail
      with_reducible refine (PA.out _).mono ?_
      rintro e w' ⟨rfl, rfl⟩
      go_wp2_with fail
      with_reducible refine (PS.out _).mono ?_
      rintro e w1 ⟨rfl, b1⟩
      go_wp2_with fail
      with_reducible refine (PB.out _).mono ?_
      rintro e w2 ⟨rfl, b2⟩
      go_wp2
      go_ret2
      exact ⟨rfl, bel_chain7 b1 b2⟩
end Go.Proofs.YtanghehmfagmfaaGreatDoor
