/-
  The contract of the reference's Get.
-/
import Derived.Test.YtogfobmbmimpgaaRfC1
import Derived.Test.YtogfobmbmimpgaaCom9
import Derived.Test.YtogfobmbmimpgaaOct5
import Derived.Deep.RegionHeld3
namespace Go.Proofs.Ytogfobmbmimpgaa
open Go.RowKit
set_option linter.unusedVariables false
set_option maxRecDepth 100000
set_option linter.unusedSimpArgs false

theorem extract_list10 (b : ByteArray) (i j : Nat) : (b.extract i j).data.toList = (b.data.toList.drop i).take (j - i) := by
  rw [ByteArray.data_extract, Array.toList_extract]
theorem extract_str (b : ByteArray) (i j : Nat) : b.extract i j = str ((b.data.toList.drop i).take (j - i)) := by rw [← extract_list10, str_back]
theorem extract_end (b : ByteArray) (i : Nat) : b.extract i b.size = str (b.data.toList.drop i) := by
  rw [extract_str, List.take_of_length_le (by simp)]
theorem bigS_ext (b : ByteArray) (i : Nat) (h : i + 8 ≤ b.size) : bigS (b.extract i (i + 8)) = numOf ((b.data.toList.drop i).take 8) := by
  rw [bigS_small _ (by rw [ByteArray.size_extract]; omega), extract_list10, show i + 8 - i = 8 by omega]
theorem cmdAt_ext (b : ByteArray) : cmdAt b.data.toList = ⟨((b.data.toList.getD 0 0).toNat : Int), b.extract 18 (18 + (b.data.toList.getD 17 0).toNat), b.extract (18 + (b.data.toList.getD 17 0).toNat) b.size, numOf ((b.data.toList.drop 1).take 8) - 1000000000000, numOf ((b.data.toList.drop 9).take 8)⟩ := by
  unfold cmdAt
  simp only
  rw [extract_end, extract_str, show 18 + (b.data.toList.getD 17 0).toNat - 18 = (b.data.toList.getD 17 0).toNat by omega]
theorem slice_mid10 (b : ByteArray) (i j : Nat) (w : World) (h : i ≤ j) (h2 : j ≤ b.size) : (Instr.slice 9 (.string b) (some (.int .i64 (i : Int))) (some (.int .i64 (j : Int))) none).run Try.prog w = .ok (.string (b.extract i j)) w := by
  have h0 : (0 : Int) ≤ (i : Int) := by omega
  have h1 : (i : Int) ≤ (j : Int) := by omega
  have h3 : (j : Int) ≤ (b.size : Int) := by omega
  simp [go_sem, Try.underlying9, h0, h1, h3, h, h2]
theorem slice_end10 (b : ByteArray) (i : Nat) (w : World) (h : i ≤ b.size) : (Instr.slice 9 (.string b) (some (.int .i64 (i : Int))) none none).run Try.prog w = .ok (.string (b.extract i b.size)) w := by
  have h0 : (0 : Int) ≤ (i : Int) := by omega
  have h1 : (i : Int) ≤ (b.size : Int) := by omega
  simp [go_sem, Try.underlying9, h0, h1, h]

set_option maxHeartbeats 1000000 in
theorem ref_get (b : ByteArray) (w : World) (hb : b.size ≤ 1000000) : Calls Try.prog 13 #[.string b] w fun e w' => e = .returned (.tuple #[(getC b).v, .bool (getOk b)]) ∧ Below w.heap.size w w' := by
  have hbl : Below w.heap.size w (w.alloc (.cells #[.int .i64 0, .string ⟨#[]⟩, .string ⟨#[]⟩, .int .i64 0, .int .i64 0] 23)) := (Below.refl _ _).alloc (Nat.le_refl _) _
  have R0 : CmdIs (w.alloc (.cells #[.int .i64 0, .string ⟨#[]⟩, .string ⟨#[]⟩, .int .i64 0, .int .i64 0] 23)) w.heap.size Cmd.zero := CmdIs.new w Cmd.zero
  have hz : (w.alloc (.cells #[.int .i64 0, .string ⟨#[]⟩, .string ⟨#[]⟩, .int .i64 0, .int .i64 0] 23)).heap.size = w.heap.size + 1 := by simp
  by_cases hc : isCmd b ∨ ¬ isCmd b ∧ 18 + (b.data.toList.getD 17 0).toNat ≤ b.size ∧ numOf ((b.data.toList.drop 1).take 8) ≤ 2000000000000 ∧ numOf ((b.data.toList.drop 9).take 8) ≤ 1000000000000
  · have hA : 18 + (b.data.toList.getD 17 0).toNat ≤ b.size ∧ numOf ((b.data.toList.drop 1).take 8) ≤ 2000000000000 ∧ numOf ((b.data.toList.drop 9).take 8) ≤ 1000000000000 := by
      rcases hc with h | h
      · obtain ⟨h18, hr⟩ := h
        obtain ⟨_, _, _, _, ⟨_, hn⟩, hv0, hv⟩ := hr
        have hn' : numOf ((b.data.toList.drop 1).take 8) - 1000000000000 ≤ 1000000000000 := hn
        exact ⟨h18, by omega, hv⟩
      · exact h.2
    obtain ⟨h18, hn, hv⟩ := hA
    have e1 := bigS_ext b 1 (by omega)
    have e9 := bigS_ext b 9 (by omega)
    have Q1 := fun w => ref_big (b.extract 1 9) w (by rw [ByteArray.size_extract]; unfold maxLen; omega)
    have Q2 := fun w => ref_big (b.extract 9 17) w (by rw [ByteArray.size_extract]; unfold maxLen; omega)
    rw [show (9 : Nat) = 1 + 8 from rfl, e1] at Q1
    rw [show (17 : Nat) = 9 + 8 from rfl, e9] at Q2
    have hk := (b.data.toList.getD 17 0).toNat_lt
    have d00 : 0 < b.size := by omega
    have d01 : 17 < b.size := by omega
    have i0 := str_at10 b 0 d00
    have i17 := str_at10 b 17 d01
    have hn0 := (numOf_bd8 ((b.data.toList.drop 1).take 8) (by rw [List.length_take]; omega)).1
    have hv0 := (numOf_bd8 ((b.data.toList.drop 9).take 8) (by rw [List.length_take]; omega)).1
    have HE0 : Hid _ := cmdAt_ext b
    have hr0 : (cmdAt b.data.toList).right = true ∧ getC b = cmdAt b.data.toList ∧ getOk b = true ∨ (cmdAt b.data.toList).right = false ∧ getC b = Cmd.zero ∧ getOk b = false := by
      rcases hc with h | h
      · obtain ⟨g1, g2⟩ := get_yes h
        exact Or.inl ⟨decide_eq_true h.2, g1, g2⟩
      · obtain ⟨g1, g2⟩ := get_no h.1
        exact Or.inr ⟨decide_eq_false (fun hr => h.1 ⟨h18, hr⟩), g1, g2⟩
    rw [cmdAt_ext b] at hr0
    clear hc
    have PR0 := fun w => ref_command ⟨((b.data.toList.getD 0 0).toNat : Int), b.extract 18 (18 + (b.data.toList.getD 17 0).toNat), b.extract (18 + (b.data.toList.getD 17 0).toNat) b.size, numOf ((b.data.toList.drop 1).take 8) - 1000000000000, numOf ((b.data.toList.drop 9).take 8)⟩ w (by show (b.extract 18 (18 + (b.data.toList.getD 17 0).toNat)).size ≤ maxLen; rw [ByteArray.size_extract]; unfold maxLen; omega)
    have S3 : ∀ w : World, (Instr.slice 9 (.string b) (some (.int .i64 18)) (some (.int .i64 (18 + ((b.data.toList.getD 17 0).toNat : Int)))) none).run Try.prog w = .ok (.string (b.extract 18 (18 + (b.data.toList.getD 17 0).toNat))) w := fun w => by
      have := slice_mid10 b 18 (18 + (b.data.toList.getD 17 0).toNat) w (by omega) (by omega)
      simpa using this
    have S4 : ∀ w : World, (Instr.slice 9 (.string b) (some (.int .i64 (18 + ((b.data.toList.getD 17 0).toNat : Int)))) none none).run Try.prog w = .ok (.string (b.extract (18 + (b.data.toList.getD 17 0).toNat) b.size)) w := fun w => by
      have := slice_end10 b (18 + (b.data.toList.getD 17 0).toNat) w (by omega)
      simpa using this
    clear HE0 e1 e9
    have d02 : (0 : Int) < (b.size : Int) := by omega
    have d03 : (17 : Int) < (b.size : Int) := by omega
    have d1 : decide ((b.size : Int) < 18) = false := decide_eq_false (by omega)
    generalize b.extract 18 (18 + (b.data.toList.getD 17 0).toNat) = KEY at *
    generalize b.extract (18 + (b.data.toList.getD 17 0).toNat) b.size = VAL at *
    have S1 : ∀ w : World, (Instr.slice 9 (.string b) (some (.int .i64 1)) (some (.int .i64 9)) none).run Try.prog w = .ok (.string (b.extract 1 9)) w := fun w => slice_mid10 b 1 9 w (by omega) (by omega)
    have S2 : ∀ w : World, (Instr.slice 9 (.string b) (some (.int .i64 9)) (some (.int .i64 17)) none).run Try.prog w = .ok (.string (b.extract 9 17)) w := fun w => slice_mid10 b 9 17 w (by omega) (by omega)
    generalize numOf ((b.data.toList.drop 1).take 8) = N at *
    generalize numOf ((b.data.toList.drop 9).take 8) = V at *
    generalize b.extract 1 9 = E1 at *
    generalize b.extract 9 17 = E2 at *
    generalize b.data.toList.getD 17 0 = X at *
    generalize b.data.toList.getD 0 0 = X0 at *
    have d2 : decide ((b.size : Int) < 18 + (X.toNat : Int)) = false := decide_eq_false (by omega)
    have d3 : ¬ (b.size < 18 + X.toNat) := by omega
    have d6 : IntKind.i64.wrap (18 + (X.toNat : Int)) = 18 + (X.toNat : Int) := by rw [IntKind.wrap_i64]; omega
    have d7 : IntKind.i64.wrap N = N := by rw [IntKind.wrap_i64]; omega
    have d8 : IntKind.i64.wrap V = V := by rw [IntKind.wrap_i64]; omega
    have d9 : IntKind.i64.wrap (N - 1000000000000) = N - 1000000000000 := by rw [IntKind.wrap_i64]; omega
    have d12 : IntKind.i64.wrap (X0.toNat : Int) = (X0.toNat : Int) := by have := X0.toNat_lt; rw [IntKind.wrap_i64]; omega
    have d10 : decide (2000000000000 < N) = false := decide_eq_false (by omega)
    have d11 : decide (1000000000000 < V) = false := decide_eq_false (by omega)
    have P1 : Hid _ := Q1
    have P2 : Hid _ := Q2
    clear Q1 Q2
    have HR : Hid _ := hr0
    have PR1 : Hid (∀ w, Calls Try.prog 15 #[.agg #[.int .i64 (X0.toNat : Int), .string KEY, .string VAL, .int .i64 (N - 1000000000000), .int .i64 V]] w fun e w' => e = .returned (.bool (Cmd.right ⟨(X0.toNat : Int), KEY, VAL, N - 1000000000000, V⟩)) ∧ Below w.heap.size w w') := PR0
    have HY : Hid (∀ x, Ending.returned (.tuple #[.agg #[.int .i64 (X0.toNat : Int), .string KEY, .string VAL, .int .i64 (N - 1000000000000), .int .i64 V], .bool x]) = Ending.returned (.tuple #[Cmd.v ⟨(X0.toNat : Int), KEY, VAL, N - 1000000000000, V⟩, .bool x])) := fun _ => rfl
    clear hr0 PR0
    generalize (⟨(X0.toNat : Int), KEY, VAL, N - 1000000000000, V⟩ : Cmd) = CC at *
    generalize CC.right = x at *
    go_enter Try.func13, Try.ntmps13
    go_wp2_with fail
    generalize w.alloc (.cells #[.int .i64 0, .string ⟨#[]⟩, .string ⟨#[]⟩, .int .i64 0, .int .i64 0] 23) = w0 at *
    have R0H := hide R0
    clear R0
    go_region_held3 (fun w' => True) (exact True.intro) (first | (go_at_call 29; (first | with_reducible refine (P1.out _).mono ?_ | with_reducible refine (P2.out _).mono ?_); rintro e w' ⟨rfl, rfl⟩))
    all_goals
      go_wp2_with fail
      go_region_held3 (fun w' => True) (exact True.intro) (fail)
      all_goals
        go_wp2_with fail
        with_reducible refine (PR1.out _).mono ?_
        rintro e w6 ⟨rfl, b6⟩
        have RC0 : RowIs ((w0.alloc (.cells #[.int .i64 (X0.toNat : Int), .string KEY, .string VAL, .int .i64 (N - 1000000000000), .int .i64 V] 23)).drew.drew) w0.heap.size 23 [.int .i64 (X0.toNat : Int), .string KEY, .string VAL, .int .i64 (N - 1000000000000), .int .i64 V] := RowIs.new w0 _ _
        have R00 : RowIs ((w0.alloc (.cells #[.int .i64 (X0.toNat : Int), .string KEY, .string VAL, .int .i64 (N - 1000000000000), .int .i64 V] 23)).drew.drew) w.heap.size 23 [.int .i64 0, .string ⟨#[]⟩, .string ⟨#[]⟩, .int .i64 0, .int .i64 0] := RowIs.alloc R0H.out _
        have B0 : Below w.heap.size w ((w0.alloc (.cells #[.int .i64 (X0.toNat : Int), .string KEY, .string VAL, .int .i64 (N - 1000000000000), .int .i64 V] 23)).drew.drew) := ((hbl.alloc (by omega) _).drew).drew
        have RC := RC0.below b6 (RowIs.lt RC0)
        have R0 := R00.below b6 (RowIs.lt R00)
        have B := bel_chain8 B0 b6
        rw [hz] at RC
        clear RC0 R00 B0 b6
        have k0 : w6.cell? ⟨w.heap.size + 1, 0, none⟩ = some (.int .i64 (X0.toNat : Int)) := RC.cellAt rfl
        have k1 : w6.cell? ⟨w.heap.size + 1, 1, none⟩ = some (.string KEY) := RC.cellAt rfl
        have k2 : w6.cell? ⟨w.heap.size + 1, 2, none⟩ = some (.string VAL) := RC.cellAt rfl
        have k3 : w6.cell? ⟨w.heap.size + 1, 3, none⟩ = some (.int .i64 (N - 1000000000000)) := RC.cellAt rfl
        have k4 : w6.cell? ⟨w.heap.size + 1, 4, none⟩ = some (.int .i64 V) := RC.cellAt rfl
        have r0 : w6.cell? ⟨w.heap.size, 0, none⟩ = some (.int .i64 0) := R0.cellAt rfl
        have r1 : w6.cell? ⟨w.heap.size, 1, none⟩ = some (.string ⟨#[]⟩) := R0.cellAt rfl
        have r2 : w6.cell? ⟨w.heap.size, 2, none⟩ = some (.string ⟨#[]⟩) := R0.cellAt rfl
        have r3 : w6.cell? ⟨w.heap.size, 3, none⟩ = some (.int .i64 0) := R0.cellAt rfl
        have r4 : w6.cell? ⟨w.heap.size, 4, none⟩ = some (.int .i64 0) := R0.cellAt rfl
        have t0 : w6.frozen? ⟨w.heap.size, 0, none⟩ = false := R0.frozen 0
        have t1 : w6.frozen? ⟨w.heap.size, 1, none⟩ = false := R0.frozen 1
        have t2 : w6.frozen? ⟨w.heap.size, 2, none⟩ = false := R0.frozen 2
        have t3 : w6.frozen? ⟨w.heap.size, 3, none⟩ = false := R0.frozen 3
        have t4 : w6.frozen? ⟨w.heap.size, 4, none⟩ = false := R0.frozen 4
        have R0H2 := hide R0
        clear R0 RC
        rcases HR.out with ⟨rfl, g1, g2⟩ | ⟨rfl, g1, g2⟩
        · have HE : Hid (Ending.returned (.tuple #[.agg #[.int .i64 (X0.toNat : Int), .string KEY, .string VAL, .int .i64 (N - 1000000000000), .int .i64 V], .bool true]) = Ending.returned (.tuple #[(getC b).v, .bool (getOk b)])) := by
            rw [g1, g2]; exact HY.out true
          clear HR HY g1 g2
          go_wp2
          have RF : RowIs ((((((w6).setCell ⟨w.heap.size, 0, none⟩ (.int .i64 (X0.toNat : Int))).setCell ⟨w.heap.size, 1, none⟩ (.string KEY)).setCell ⟨w.heap.size, 2, none⟩ (.string VAL)).setCell ⟨w.heap.size, 3, none⟩ (.int .i64 (N - 1000000000000))).setCell ⟨w.heap.size, 4, none⟩ (.int .i64 V)) w.heap.size 23 [.int .i64 (X0.toNat : Int), .string KEY, .string VAL, .int .i64 (N - 1000000000000), .int .i64 V] := ((((RowIs.set R0H2.out 0 _).set 1 _).set 2 _).set 3 _).set 4 _
          exact bodyPost_ret (v := .tuple #[.agg ([.int .i64 (X0.toNat : Int), .string KEY, .string VAL, .int .i64 (N - 1000000000000), .int .i64 V] : List Value).toArray, .bool true]) (results_row_tmp10 rfl _ _ w.heap.size [.int .i64 (X0.toNat : Int), .string KEY, .string VAL, .int .i64 (N - 1000000000000), .int .i64 V] _ (by simp) (.bool true) (by simp) (RF.range (by simp)) Try.underlying23 rfl (by kernel_rfl)) rfl ⟨HE.out, (((((B).setCell (Nat.le_refl _) _).setCell (Nat.le_refl _) _).setCell (Nat.le_refl _) _).setCell (Nat.le_refl _) _).setCell (Nat.le_refl _) _⟩
        · have HE : Hid (Ending.returned (.tuple #[.agg #[.int .i64 0, .string ⟨#[]⟩, .string ⟨#[]⟩, .int .i64 0, .int .i64 0], .bool false]) = Ending.returned (.tuple #[(getC b).v, .bool (getOk b)])) := by
            rw [g1, g2]; rfl
          clear HR HY g1 g2
          go_wp2
          have RF : RowIs ((((((w6).setCell ⟨w.heap.size, 0, none⟩ (.int .i64 0)).setCell ⟨w.heap.size, 1, none⟩ (.string ⟨#[]⟩)).setCell ⟨w.heap.size, 2, none⟩ (.string ⟨#[]⟩)).setCell ⟨w.heap.size, 3, none⟩ (.int .i64 0)).setCell ⟨w.heap.size, 4, none⟩ (.int .i64 0)) w.heap.size 23 [.int .i64 0, .string ⟨#[]⟩, .string ⟨#[]⟩, .int .i64 0, .int .i64 0] := ((((RowIs.set R0H2.out 0 _).set 1 _).set 2 _).set 3 _).set 4 _
          exact bodyPost_ret (v := .tuple #[.agg ([.int .i64 0, .string ⟨#[]⟩, .string ⟨#[]⟩, .int .i64 0, .int .i64 0] : List Value).toArray, .bool false]) (results_row_tmp10 rfl _ _ w.heap.size [.int .i64 0, .string ⟨#[]⟩, .string ⟨#[]⟩, .int .i64 0, .int .i64 0] _ (by simp) (.bool false) (by simp) (RF.range (by simp)) Try.underlying23 rfl (by kernel_rfl)) rfl ⟨HE.out, (((((B).setCell (Nat.le_refl _) _).setCell (Nat.le_refl _) _).setCell (Nat.le_refl _) _).setCell (Nat.le_refl _) _).setCell (Nat.le_refl _) _⟩
  · have HE : Hid (Ending.returned (.tuple #[.agg #[.int .i64 0, .string ⟨#[]⟩, .string ⟨#[]⟩, .int .i64 0, .int .i64 0], .bool false]) = Ending.returned (.tuple #[(getC b).v, .bool (getOk b)])) := by
      obtain ⟨g1, g2⟩ := get_no (fun h => hc (Or.inl h))
      rw [g1, g2]; rfl
    have hnc : ¬ isCmd b := fun h => hc (Or.inl h)
    by_cases h18 : b.size < 18
    · have d1 : decide ((b.size : Int) < 18) = true := decide_eq_true (by omega)
      clear hc hnc
      go_enter Try.func13, Try.ntmps13
      go_wp2
      exact bodyPost_ret (v := .tuple #[.agg ([.int .i64 0, .string ⟨#[]⟩, .string ⟨#[]⟩, .int .i64 0, .int .i64 0] : List Value).toArray, .bool false]) (results_row_tmp10 rfl _ _ w.heap.size [.int .i64 0, .string ⟨#[]⟩, .string ⟨#[]⟩, .int .i64 0, .int .i64 0] _ (by simp) (.bool false) (by simp) (RowIs.range R0 rfl) Try.underlying23 rfl (by kernel_rfl)) rfl ⟨HE.out, hbl⟩
    have d1 : decide ((b.size : Int) < 18) = false := decide_eq_false (by omega)
    have i17 := str_at10 b 17 (by omega)
    have hk := (b.data.toList.getD 17 0).toNat_lt
    have d0 : (17 : Int) < (b.size : Int) := by omega
    have d00 : 17 < b.size := by omega
    by_cases hK : b.size < 18 + (b.data.toList.getD 17 0).toNat
    · clear hc hnc
      generalize b.data.toList.getD 17 0 = X at *
      have d2 : decide ((b.size : Int) < 18 + (X.toNat : Int)) = true := decide_eq_true (by omega)
      have d3 : b.size < 18 + X.toNat := by omega
      go_enter Try.func13, Try.ntmps13
      go_wp2
      exact bodyPost_ret (v := .tuple #[.agg ([.int .i64 0, .string ⟨#[]⟩, .string ⟨#[]⟩, .int .i64 0, .int .i64 0] : List Value).toArray, .bool false]) (results_row_tmp10 rfl _ _ w.heap.size [.int .i64 0, .string ⟨#[]⟩, .string ⟨#[]⟩, .int .i64 0, .int .i64 0] _ (by simp) (.bool false) (by simp) (RowIs.range R0 rfl) Try.underlying23 rfl (by kernel_rfl)) rfl ⟨HE.out, hbl⟩
    have e1 := bigS_ext b 1 (by omega)
    have e9 := bigS_ext b 9 (by omega)
    have Q1 := fun w => ref_big (b.extract 1 9) w (by rw [ByteArray.size_extract]; unfold maxLen; omega)
    have Q2 := fun w => ref_big (b.extract 9 17) w (by rw [ByteArray.size_extract]; unfold maxLen; omega)
    rw [show (9 : Nat) = 1 + 8 from rfl, e1] at Q1
    rw [show (17 : Nat) = 9 + 8 from rfl, e9] at Q2
    have hbig : ¬ (numOf ((b.data.toList.drop 1).take 8) ≤ 2000000000000 ∧ numOf ((b.data.toList.drop 9).take 8) ≤ 1000000000000) := fun h => hc (Or.inr ⟨hnc, by omega, h⟩)
    clear hc hnc e1 e9
    generalize b.data.toList.getD 17 0 = X at *
    have d2 : decide ((b.size : Int) < 18 + (X.toNat : Int)) = false := decide_eq_false (by omega)
    have d3 : ¬ (b.size < 18 + X.toNat) := by omega
    have d4 : (9 : Int) ≤ (b.size : Int) := by omega
    have d5 : (17 : Int) ≤ (b.size : Int) := by omega
    have S1 : ∀ w : World, (Instr.slice 9 (.string b) (some (.int .i64 1)) (some (.int .i64 9)) none).run Try.prog w = .ok (.string (b.extract 1 9)) w := fun w => slice_mid10 b 1 9 w (by omega) (by omega)
    have S2 : ∀ w : World, (Instr.slice 9 (.string b) (some (.int .i64 9)) (some (.int .i64 17)) none).run Try.prog w = .ok (.string (b.extract 9 17)) w := fun w => slice_mid10 b 9 17 w (by omega) (by omega)
    generalize numOf ((b.data.toList.drop 1).take 8) = N at *
    generalize numOf ((b.data.toList.drop 9).take 8) = V at *
    generalize b.extract 1 9 = E1 at *
    generalize b.extract 9 17 = E2 at *
    have P1 : Hid _ := Q1
    have P2 : Hid _ := Q2
    clear Q1 Q2
    have hcase : decide (2000000000000 < N) = true ∨ decide (2000000000000 < N) = false ∧ decide (1000000000000 < V) = true := by
      by_cases h : 2000000000000 < N
      · exact Or.inl (decide_eq_true h)
      · exact Or.inr ⟨decide_eq_false h, decide_eq_true (by omega)⟩
    clear hbig
    go_enter Try.func13, Try.ntmps13
    go_wp2_with fail
    generalize w.alloc (.cells #[.int .i64 0, .string ⟨#[]⟩, .string ⟨#[]⟩, .int .i64 0, .int .i64 0] 23) = w0 at *
    have r0 : w0.cell? ⟨w.heap.size, 0, none⟩ = some (.int .i64 0) := R0.cellAt rfl
    have r1 : w0.cell? ⟨w.heap.size, 1, none⟩ = some (.string ⟨#[]⟩) := R0.cellAt rfl
    have r2 : w0.cell? ⟨w.heap.size, 2, none⟩ = some (.string ⟨#[]⟩) := R0.cellAt rfl
    have r3 : w0.cell? ⟨w.heap.size, 3, none⟩ = some (.int .i64 0) := R0.cellAt rfl
    have r4 : w0.cell? ⟨w.heap.size, 4, none⟩ = some (.int .i64 0) := R0.cellAt rfl
    have t0 : w0.frozen? ⟨w.heap.size, 0, none⟩ = false := R0.frozen 0
    have t1 : w0.frozen? ⟨w.heap.size, 1, none⟩ = false := R0.frozen 1
    have t2 : w0.frozen? ⟨w.heap.size, 2, none⟩ = false := R0.frozen 2
    have t3 : w0.frozen? ⟨w.heap.size, 3, none⟩ = false := R0.frozen 3
    have t4 : w0.frozen? ⟨w.heap.size, 4, none⟩ = false := R0.frozen 4
    have R0H := hide R0
    clear R0
    go_region_held3 (fun w' => True) (exact True.intro) (first | (go_at_call 29; (first | with_reducible refine (P1.out _).mono ?_ | with_reducible refine (P2.out _).mono ?_); rintro e w' ⟨rfl, rfl⟩))
    all_goals
      rcases hcase with hcase | ⟨hcase, hcase2⟩
      · go_wp2
        have RF : RowIs ((((((w0).setCell ⟨w.heap.size, 0, none⟩ (.int .i64 0)).setCell ⟨w.heap.size, 1, none⟩ (.string ⟨#[]⟩)).setCell ⟨w.heap.size, 2, none⟩ (.string ⟨#[]⟩)).setCell ⟨w.heap.size, 3, none⟩ (.int .i64 0)).setCell ⟨w.heap.size, 4, none⟩ (.int .i64 0)) w.heap.size 23 [.int .i64 0, .string ⟨#[]⟩, .string ⟨#[]⟩, .int .i64 0, .int .i64 0] := ((((RowIs.set R0H.out 0 _).set 1 _).set 2 _).set 3 _).set 4 _
        exact bodyPost_ret (v := .tuple #[.agg ([.int .i64 0, .string ⟨#[]⟩, .string ⟨#[]⟩, .int .i64 0, .int .i64 0] : List Value).toArray, .bool false]) (results_row_tmp10 rfl _ _ w.heap.size [.int .i64 0, .string ⟨#[]⟩, .string ⟨#[]⟩, .int .i64 0, .int .i64 0] _ (by simp) (.bool false) (by simp) (RF.drew.range (by simp)) Try.underlying23 rfl (by kernel_rfl)) rfl ⟨HE.out, Below.drew ((((((hbl).setCell (Nat.le_refl _) _).setCell (Nat.le_refl _) _).setCell (Nat.le_refl _) _).setCell (Nat.le_refl _) _).setCell (Nat.le_refl _) _)⟩
      · go_wp2
        have RF : RowIs ((((((w0).setCell ⟨w.heap.size, 0, none⟩ (.int .i64 0)).setCell ⟨w.heap.size, 1, none⟩ (.string ⟨#[]⟩)).setCell ⟨w.heap.size, 2, none⟩ (.string ⟨#[]⟩)).setCell ⟨w.heap.size, 3, none⟩ (.int .i64 0)).setCell ⟨w.heap.size, 4, none⟩ (.int .i64 0)) w.heap.size 23 [.int .i64 0, .string ⟨#[]⟩, .string ⟨#[]⟩, .int .i64 0, .int .i64 0] := ((((RowIs.set R0H.out 0 _).set 1 _).set 2 _).set 3 _).set 4 _
        exact bodyPost_ret (v := .tuple #[.agg ([.int .i64 0, .string ⟨#[]⟩, .string ⟨#[]⟩, .int .i64 0, .int .i64 0] : List Value).toArray, .bool false]) (results_row_tmp10 rfl _ _ w.heap.size [.int .i64 0, .string ⟨#[]⟩, .string ⟨#[]⟩, .int .i64 0, .int .i64 0] _ (by simp) (.bool false) (by simp) (RF.drew.range (by simp)) Try.underlying23 rfl (by kernel_rfl)) rfl ⟨HE.out, Below.drew ((((((hbl).setCell (Nat.le_refl _) _).setCell (Nat.le_refl _) _).setCell (Nat.le_refl _) _).setCell (Nat.le_refl _) _).setCell (Nat.le_refl _) _)⟩

end Go.Proofs.Ytogfobmbmimpgaa
