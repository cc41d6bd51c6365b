/-
  Parts of this proof, one behind the other: RfC6.
-/
import Derived.Test.YtgcbanmjfnnccaaGreatBun26
import Derived.Test.YtgcbanmjfnnccaaGreatBun25
import Derived.Test.YtgcbanmjfnnccaaGreatBun22
import Derived.Deep.RegionHeld3

/-
  The contract of the reference's GetReply.
-/
namespace Go.Proofs.YtgcbanmjfnnccaaGreat
open Go.RowKit
set_option linter.unusedVariables false
set_option maxRecDepth 100000
set_option linter.unusedSimpArgs false

set_option maxHeartbeats 1000000 in
theorem ref_getReply (b : ByteArray) (w : World) (hb : b.size ≤ 1000000) : Calls Tryz.prog 9 #[.string b] w fun e w' => (∃ kv, OwnT w' w.heap.size kv (getR b).keys ∧ e = .returned (.tuple #[(getR b).v kv, .bool (getROk b)])) ∧ Below w.heap.size w w' := by
  by_cases hc : 20 + sizeAt b.data.toList ≤ b.size ∧ numOf ((b.data.toList.drop 1).take 8) ≤ 2000000000000 ∧ numOf ((b.data.toList.drop 9).take 8) ≤ 1000000000000
  case neg => exact ref_getReply_away b w hb (refR_away (fun h => hc ⟨h.1, h.2.1, h.2.2.1⟩)) hc
  obtain ⟨hs, hN, hV⟩ := hc
  obtain ⟨i0, hi0, hz0, hz1, hz2⟩ := info_parts infoT
  have hbl : Below w.heap.size w (w.alloc (.cells #[.int .i64 0, .string ⟨#[]⟩, .int .i64 0, .int .i64 0, .slice none 0 0] 25)) := (Below.refl _ _).alloc (Nat.le_refl _) _
  have R0 := RowIs.new w 25 [.int .i64 0, .string ⟨#[]⟩, .int .i64 0, .int .i64 0, .slice none 0 0]
  have hz : (w.alloc (.cells #[.int .i64 0, .string ⟨#[]⟩, .int .i64 0, .int .i64 0, .slice none 0 0] 25)).heap.size = w.heap.size + 1 := by simp
  have HAW : Hid (¬ fitK b (20 + sizeAt b.data.toList) (countAt b.data.toList) → getR b = Rep.zero ∧ getROk b = false) := fun h => refR_away (fun h' => h h'.2.2.2)
  have HTL : Hid _ := refR_tells b
  have HRF : Hid (refR b = ⟨(byteN b 0 : Int), b.extract 19 (19 + sizeAt b.data.toList), numOf ((b.data.toList.drop 1).take 8) - 1000000000000, numOf ((b.data.toList.drop 9).take 8), keysK b (20 + sizeAt b.data.toList) (countAt b.data.toList)⟩) := rfl
  have d1 : decide ((b.size : Int) < 20) = false := decide_eq_false (by omega)
  have e1 := bigS_ext b 1 (by omega)
  have e9 := bigS_ext b 9 (by omega)
  have e17 := bigS_ext2 b (by omega)
  have hs2 := (sizeAt_bd b.data.toList).2
  have hn0 := (numOf_bd8 ((b.data.toList.drop 1).take 8) (by rw [List.length_take]; omega)).1
  have hv0 := (numOf_bd8 ((b.data.toList.drop 9).take 8) (by rw [List.length_take]; omega)).1
  have Q1 := fun w => ref_big (b.extract 1 9) w (by rw [ByteArray.size_extract]; unfold maxLen; omega)
  have Q2 := fun w => ref_big (b.extract 9 17) w (by rw [ByteArray.size_extract]; unfold maxLen; omega)
  have Q3 := fun w => ref_big (b.extract 17 19) w (by rw [ByteArray.size_extract]; unfold maxLen; omega)
  rw [show (9 : Nat) = 1 + 8 from rfl, e1] at Q1
  rw [show (17 : Nat) = 9 + 8 from rfl, e9] at Q2
  rw [e17] at Q3
  clear e1 e9 e17
  have d4 : (9 : Int) ≤ (b.size : Int) := by omega
  have d5 : (17 : Int) ≤ (b.size : Int) := by omega
  have d5' : (19 : Int) ≤ (b.size : Int) := by omega
  have S1 : ∀ w : World, (Instr.slice 9 (.string b) (some (.int .i64 1)) (some (.int .i64 9)) none).run Tryz.prog w = .ok (.string (b.extract 1 9)) w := fun w => slice_mid10 b 1 9 w (by omega) (by omega)
  have S2 : ∀ w : World, (Instr.slice 9 (.string b) (some (.int .i64 9)) (some (.int .i64 17)) none).run Tryz.prog w = .ok (.string (b.extract 9 17)) w := fun w => slice_mid10 b 9 17 w (by omega) (by omega)
  have S3 : ∀ w : World, (Instr.slice 9 (.string b) (some (.int .i64 17)) (some (.int .i64 19)) none).run Tryz.prog w = .ok (.string (b.extract 17 19)) w := fun w => slice_mid10 b 17 19 w (by omega) (by omega)
  have S4 : ∀ w : World, (Instr.slice 9 (.string b) (some (.int .i64 19)) (some (.int .i64 (19 + (sizeAt b.data.toList : Int)))) none).run Tryz.prog w = .ok (.string (b.extract 19 (19 + sizeAt b.data.toList))) w := fun w => by
    have := slice_mid10 b 19 (19 + sizeAt b.data.toList) w (by omega) (by omega)
    simpa using this
  have d00 : 0 < b.size := by omega
  have d02 : (0 : Int) < (b.size : Int) := by omega
  have i0 := str_at10 b 0 d00
  have hcn : (b.data.toList.getD (19 + sizeAt b.data.toList) 0).toNat = countAt b.data.toList := rfl
  have hx0 : (b.data.toList.getD 0 0).toNat = byteN b 0 := rfl
  have hx1 : byteN b 0 < 256 := (b.data.toList.getD 0 0).toNat_lt
  have hn9 : countAt b.data.toList < 256 := (b.data.toList.getD (19 + sizeAt b.data.toList) 0).toNat_lt
  have hvs : (b.extract 19 (19 + sizeAt b.data.toList)).size ≤ b.size := by rw [ByteArray.size_extract]; omega
  generalize hA : numOf ((b.data.toList.drop 1).take 8) = N at *
  generalize hB : numOf ((b.data.toList.drop 9).take 8) = V at *
  clear hA hB
  generalize countAt b.data.toList = CN at *
  generalize sizeAt b.data.toList = SZ at *
  generalize b.extract 19 (19 + SZ) = VAL at *
  generalize b.extract 1 9 = E1 at *
  generalize b.extract 9 17 = E2 at *
  generalize b.extract 17 19 = E3 at *
  have P1 : Hid _ := Q1
  have P2 : Hid _ := Q2
  have P3 : Hid _ := Q3
  clear Q1 Q2 Q3
  have d6 : IntKind.i64.wrap (SZ : Int) = (SZ : Int) := by rw [IntKind.wrap_i64]; omega
  have d7 : IntKind.i64.wrap (20 + (SZ : Int)) = 20 + (SZ : Int) := by rw [IntKind.wrap_i64]; omega
  have d8 : IntKind.i64.wrap (19 + (SZ : Int)) = 19 + (SZ : Int) := by rw [IntKind.wrap_i64]; omega
  have d9 : IntKind.i64.wrap N = N := by rw [IntKind.wrap_i64]; omega
  have d10 : IntKind.i64.wrap V = V := by rw [IntKind.wrap_i64]; omega
  have d11 : IntKind.i64.wrap (N - 1000000000000) = N - 1000000000000 := by rw [IntKind.wrap_i64]; omega
  have g1 : decide (2000000000000 < N) = false := decide_eq_false (by omega)
  have g2 : decide (1000000000000 < V) = false := decide_eq_false (by omega)
  have g3 : decide ((b.size : Int) < 20 + (SZ : Int)) = false := decide_eq_false (by omega)
  have g4 : ¬ (b.size < 20 + SZ) := by omega
  have iN0 : 19 + SZ < b.size := by omega
  have iN1 : 19 + (SZ : Int) < (b.size : Int) := by omega
  have iN := str_at10 b (19 + SZ) iN0
  have d12 : IntKind.i64.wrap (((b.data.toList.getD 0 0).toNat : Nat) : Int) = (((b.data.toList.getD 0 0).toNat : Nat) : Int) := by rw [hx0, IntKind.wrap_i64]; omega
  have d13 : IntKind.i64.wrap (((b.data.toList.getD (19 + SZ) 0).toNat : Nat) : Int) = (((b.data.toList.getD (19 + SZ) 0).toNat : Nat) : Int) := by rw [hcn, IntKind.wrap_i64]; omega
  rw [← hx0] at HRF
  clear hx0 hx1
  generalize b.data.toList.getD 0 0 = X0 at *
  generalize b.data.toList.getD (19 + SZ) 0 = XN at *
  go_enter Tryz.func9, Tryz.ntmps9
  go_wp2_with fail
  generalize w.alloc (.cells #[.int .i64 0, .string ⟨#[]⟩, .int .i64 0, .int .i64 0, .slice none 0 0] 25) = w0 at *
  have R0H := hide R0
  clear R0
  go_region_held3 (fun w' => True) (exact True.intro) (first | (go_at_call 31; (first | with_reducible refine (P1.out _).mono ?_ | with_reducible refine (P2.out _).mono ?_); rintro e w' ⟨rfl, rfl⟩))
  all_goals
    go_wp2_with fail
    with_reducible refine (P3.out _).mono ?_
    rintro e w' ⟨rfl, rfl⟩
    go_wp2_with fail
    go_region_held3 (fun w' => True) (exact True.intro) (fail)
    all_goals
      go_wp2_with fail
      have RC0 : RowIs ((w0.alloc (.cells #[.int .i64 (X0.toNat : Int), .string VAL, .int .i64 (N - 1000000000000), .int .i64 V, .slice none 0 0] 25)).drew.drew) w0.heap.size 25 [.int .i64 (X0.toNat : Int), .string VAL, .int .i64 (N - 1000000000000), .int .i64 V, .slice none 0 0] := RowIs.new w0 _ _
      have R00 : RowIs ((w0.alloc (.cells #[.int .i64 (X0.toNat : Int), .string VAL, .int .i64 (N - 1000000000000), .int .i64 V, .slice none 0 0] 25)).drew.drew) w.heap.size 25 [.int .i64 0, .string ⟨#[]⟩, .int .i64 0, .int .i64 0, .slice none 0 0] := RowIs.alloc R0H.out _
      have B0 : Below w.heap.size w ((w0.alloc (.cells #[.int .i64 (X0.toNat : Int), .string VAL, .int .i64 (N - 1000000000000), .int .i64 V, .slice none 0 0] 25)).drew.drew) := ((hbl.alloc (by omega) _).drew).drew
      have z0 : ((w0.alloc (.cells #[.int .i64 (X0.toNat : Int), .string VAL, .int .i64 (N - 1000000000000), .int .i64 V, .slice none 0 0] 25)).drew.drew).heap.size = w.heap.size + 2 := by simp [hz]
      rw [hz] at RC0
      generalize ((w0.alloc (.cells #[.int .i64 (X0.toNat : Int), .string VAL, .int .i64 (N - 1000000000000), .int .i64 V, .slice none 0 0] 25)).drew.drew) = w7 at *
      clear R0H hbl P1 P2 P3 S1 S2 S3 S4
      go_loopw [9, 8] (fun i t wr => ∃ (k : Nat) (kv : Value), k ≤ CN ∧ i = .int .i64 k ∧ t = .int .i64 (posK b (20 + SZ) k) ∧ fitK b (20 + SZ) k ∧ OwnT wr (w.heap.size + 2) kv (keysK b (20 + SZ) k) ∧ RowIs wr (w.heap.size + 1) 25 [.int .i64 (X0.toNat : Int), .string VAL, .int .i64 (N - 1000000000000), .int .i64 V, kv] ∧ RowIs wr w.heap.size 25 [.int .i64 0, .string ⟨#[]⟩, .int .i64 0, .int .i64 0, .slice none 0 0] ∧ Below w.heap.size w wr ∧ w.heap.size + 2 ≤ wr.heap.size) (fun i _ _ => CN - (intOf i).toNat)
      case atStart => exact ⟨0, .slice none 0 0, Nat.zero_le _, rfl, by show Value.int .i64 (20 + (SZ : Int)) = .int .i64 ((20 + SZ : Nat) : Int); rw [show ((20 + SZ : Nat) : Int) = 20 + (SZ : Int) by omega], fun j hj => absurd hj (by omega), World.ownsRow_nil _ _ _ _, RC0, R00, B0, by omega⟩
      case round =>
        clear RC0 R00 B0 z0
        obtain ⟨k, kv, hk, rfl, rfl, hft, ho, rc, r0, bb, hsz⟩ := hrel
        by_cases hlt : k < CN
        · have dlt : decide ((k : Int) < (XN.toNat : Int)) = true := by simp; omega
          have hpp := fitK_pos b (20 + SZ) k (by omega) hft
          by_cases hfit : posK b (20 + SZ) k < b.size ∧ posK b (20 + SZ) k + 1 + byteN b (posK b (20 + SZ) k) ≤ b.size
          · have hQ1 : Hid (posK b (20 + SZ) (k + 1) = posK b (20 + SZ) k + 1 + byteN b (posK b (20 + SZ) k)) := rfl
            have hK1 : Hid (keysK b (20 + SZ) (k + 1) = keysK b (20 + SZ) k ++ [keyK b (posK b (20 + SZ) k)]) := rfl
            have hft' : Hid (fitK b (20 + SZ) (k + 1)) := fun j hj => by
              by_cases h : j = k
              · subst h; exact hfit
              · exact hft j (by omega)
            have hlk := keysK_len b (20 + SZ) k
            have hKE : Hid (keyK b (posK b (20 + SZ) k) = b.extract (posK b (20 + SZ) k + 1) (posK b (20 + SZ) k + 1 + byteN b (posK b (20 + SZ) k))) := rfl
            obtain ⟨hf1, hf2⟩ := hfit
            generalize keysK b (20 + SZ) k = KS at *
            generalize posK b (20 + SZ) k = P at *
            generalize keyK b P = KEY at *
            have iP := str_at10 b P hf1
            have hbn : byteN b P = (b.data.toList.getD P 0).toNat := rfl
            rw [hbn] at hf2 hQ1 hKE
            have S5 : ∀ w : World, (Instr.slice 9 (.string b) (some (.int .i64 ((P : Int) + 1))) (some (.int .i64 ((P : Int) + 1 + ((b.data.toList.getD P 0).toNat : Int)))) none).run Tryz.prog w = .ok (.string KEY) w := fun w => by
              have := slice_mid10 b (P + 1) (P + 1 + (b.data.toList.getD P 0).toNat) w (by omega) hf2
              rw [hKE.out]
              simpa using this
            have hy := (b.data.toList.getD P 0).toNat_lt
            clear hKE hbn hft
            obtain ⟨ao, co, rfl⟩ : ∃ a c, kv = Value.slice a k c := by
              have := ho.shape
              rw [hlk] at this
              exact this
            have HR14 : Hid (∀ (v95 : Value) (w5 : World), OwnT w5 (w.heap.size + 2) v95 (KS ++ [KEY]) → RowIs w5 (w.heap.size + 1) 25 [.int .i64 (X0.toNat : Int), .string VAL, .int .i64 (N - 1000000000000), .int .i64 V, v95] → Touch (fun n => n = w.heap.size + 1 ∨ w.heap.size + 2 ≤ n) wr w5 → Below w.heap.size w w5 ∧ RowIs w5 w.heap.size 25 [.int .i64 0, .string ⟨#[]⟩, .int .i64 0, .int .i64 0, .slice none 0 0] ∧ w.heap.size + 2 ≤ w5.heap.size) := by
              intro v95 w5 h1 h2 h3
              refine ⟨bb.trans (h3.below (fun n hn => by rcases hn with h | h <;> omega) bb.size), ?_, Nat.le_trans hsz h3.size⟩
              show w5.heap[w.heap.size]? = _
              rw [h3.block _ (RowIs.lt r0) (by rintro (h | h) <;> omega)]
              exact r0
            have hH := hide ho
            have hRC := hide rc
            have hb' := hide hb
            have hft2 := hide hft'
            clear r0 bb
            have hS5 : Hid _ := S5
            have f0 : (P : Int) < (b.size : Int) := by omega
            have f0' : (0 : Int) ≤ (P : Int) := by omega
            have f1 : decide ((b.size : Int) ≤ (P : Int)) = false := decide_eq_false (by omega)
            have f1' : ¬ (b.size ≤ P) := by omega
            generalize hYg : b.data.toList.getD P 0 = Y at *
            have hYk : Hid ((b.data.toList.getD P 0).toNat = Y.toNat) := by show _ = _; rw [hYg]
            clear hYg S5
            have f2 : IntKind.i64.wrap ((P : Int) + 1) = (P : Int) + 1 := by rw [IntKind.wrap_i64]; omega
            have f3 : IntKind.i64.wrap (Y.toNat : Int) = (Y.toNat : Int) := by rw [IntKind.wrap_i64]; omega
            have f4 : IntKind.i64.wrap ((P : Int) + 1 + (Y.toNat : Int)) = (P : Int) + 1 + (Y.toNat : Int) := by rw [IntKind.wrap_i64]; omega
            have f5 : decide ((b.size : Int) < (P : Int) + 1 + (Y.toNat : Int)) = false := decide_eq_false (by omega)
            have f6 : ¬ (b.size < P + 1 + Y.toNat) := by omega
            clear ho rc
            go_wp2_with fail
            refine rf14_region (w.heap.size + 1) (w.heap.size + 2) b KEY P Y.toNat _ _ _ _ ao k co KS hf1 hYk.out hy hb'.out hS5.out (by omega) hsz hlk (by omega) (by kernel_rfl) (by kernel_rfl) (by kernel_rfl) rfl rfl rfl rfl hRC.out hH.out ?_
            intro v81 v82 v83 v84 v85 v86 v87 v88 v89 v90 v91 v92 v93 v94 v95 v96 w5 ow rw5 tw
            obtain ⟨b5, z5, s5⟩ := HR14.out v95 w5 ow rw5 tw
            have hOW := hide ow
            have hRW := hide rw5
            have hB5 := hide b5
            have hZ5 := hide z5
            clear HR14 tw hRC hH ow rw5 b5 z5
            simp only [Act.put, List.setIfInBounds_toArray, List.set]
            rename_i KK hKK
            refine hKK _ _ ?_
            go_wp2
            go_roundw
            · exact ⟨k + 1, v95, hlt, by simp, by rw [hQ1.out]; simp, hft2.out.out, by rw [hK1.out]; exact hOW.out, hRW.out, hZ5.out, hB5.out, s5⟩
            · simp only [intOf]; omega
          · have HG : Hid _ := HAW.out (fun h => hfit (h k hlt))
            have HE : Hid ((getR b).keys = [] ∧ ∀ kv, (getR b).v kv = .agg #[.int .i64 0, .string ⟨#[]⟩, .int .i64 0, .int .i64 0, kv]) := by rw [HG.out.1]; exact ⟨rfl, fun _ => rfl⟩
            have HE2 : Hid (getROk b = false) := HG.out.2
            have R0Z := r0
            clear r0
            have r0 : wr.cell? ⟨w.heap.size, 0, none⟩ = some (.int .i64 0) := RowIs.cellAt R0Z rfl
            have r1 : wr.cell? ⟨w.heap.size, 1, none⟩ = some (.string ⟨#[]⟩) := RowIs.cellAt R0Z rfl
            have r2 : wr.cell? ⟨w.heap.size, 2, none⟩ = some (.int .i64 0) := RowIs.cellAt R0Z rfl
            have r3 : wr.cell? ⟨w.heap.size, 3, none⟩ = some (.int .i64 0) := RowIs.cellAt R0Z rfl
            have r4 : wr.cell? ⟨w.heap.size, 4, none⟩ = some (.slice none 0 0) := RowIs.cellAt R0Z rfl
            have t0 : wr.frozen? ⟨w.heap.size, 0, none⟩ = false := RowIs.frozen R0Z 0
            have t1 : wr.frozen? ⟨w.heap.size, 1, none⟩ = false := RowIs.frozen R0Z 1
            have t2 : wr.frozen? ⟨w.heap.size, 2, none⟩ = false := RowIs.frozen R0Z 2
            have t3 : wr.frozen? ⟨w.heap.size, 3, none⟩ = false := RowIs.frozen R0Z 3
            have t4 : wr.frozen? ⟨w.heap.size, 4, none⟩ = false := RowIs.frozen R0Z 4
            have R0H := hide R0Z
            have BH := hide bb
            clear HAW HTL HRF HG hft ho rc R0Z bb
            generalize posK b (20 + SZ) k = P at *
            have f2 : IntKind.i64.wrap ((P : Int) + 1) = (P : Int) + 1 := by rw [IntKind.wrap_i64]; omega
            by_cases hf1 : P < b.size
            · have hf2 : ¬ (P + 1 + byteN b P ≤ b.size) := fun h => hfit ⟨hf1, h⟩
              clear hfit
              have iP := str_at10 b P hf1
              have hbn : byteN b P = (b.data.toList.getD P 0).toNat := rfl
              rw [hbn] at hf2
              have hy := (b.data.toList.getD P 0).toNat_lt
              clear hbn
              generalize b.data.toList.getD P 0 = Y at *
              have f0 : (P : Int) < (b.size : Int) := by omega
              have f0' : (0 : Int) ≤ (P : Int) := by omega
              have f1 : decide ((b.size : Int) ≤ (P : Int)) = false := decide_eq_false (by omega)
              have f1' : ¬ (b.size ≤ P) := by omega
              have f3 : IntKind.i64.wrap (Y.toNat : Int) = (Y.toNat : Int) := by rw [IntKind.wrap_i64]; omega
              have f4 : IntKind.i64.wrap ((P : Int) + 1 + (Y.toNat : Int)) = (P : Int) + 1 + (Y.toNat : Int) := by rw [IntKind.wrap_i64]; omega
              have f5 : decide ((b.size : Int) < (P : Int) + 1 + (Y.toNat : Int)) = true := decide_eq_true (by omega)
              have f6 : b.size < P + 1 + Y.toNat := by omega
              go_wp2
              have RF : RowIs ((((((wr).setCell ⟨w.heap.size, 0, none⟩ (.int .i64 0)).setCell ⟨w.heap.size, 1, none⟩ (.string ⟨#[]⟩)).setCell ⟨w.heap.size, 2, none⟩ (.int .i64 0)).setCell ⟨w.heap.size, 3, none⟩ (.int .i64 0)).setCell ⟨w.heap.size, 4, none⟩ (.slice none 0 0)) w.heap.size 25 [.int .i64 0, .string ⟨#[]⟩, .int .i64 0, .int .i64 0, .slice none 0 0] := ((((RowIs.set R0H.out 0 _).set 1 _).set 2 _).set 3 _).set 4 _
              refine bodyPost_ret (v := .tuple #[.agg ([.int .i64 0, .string ⟨#[]⟩, .int .i64 0, .int .i64 0, .slice none 0 0] : List Value).toArray, .bool false]) (results_row_tmp10 rfl _ _ w.heap.size [.int .i64 0, .string ⟨#[]⟩, .int .i64 0, .int .i64 0, .slice none 0 0] _ (by simp) (.bool false) (by simp) (RF.range (by simp)) Tryz.underlying25 rfl (by kernel_rfl)) rfl ?_
              exact ⟨⟨.slice none 0 0, by rw [HE.out.1]; exact World.ownsRow_nil _ _ _ _, by rw [HE.out.2, HE2.out]⟩, (Below.setCell (Below.setCell (Below.setCell (Below.setCell (Below.setCell BH.out (Nat.le_refl _) _) (Nat.le_refl _) _) (Nat.le_refl _) _) (Nat.le_refl _) _) (Nat.le_refl _) _)⟩
            · have f1 : decide ((b.size : Int) ≤ (P : Int)) = true := decide_eq_true (by omega)
              have f1' : b.size ≤ P := by omega
              clear hfit
              go_wp2
              have RF : RowIs ((((((wr).setCell ⟨w.heap.size, 0, none⟩ (.int .i64 0)).setCell ⟨w.heap.size, 1, none⟩ (.string ⟨#[]⟩)).setCell ⟨w.heap.size, 2, none⟩ (.int .i64 0)).setCell ⟨w.heap.size, 3, none⟩ (.int .i64 0)).setCell ⟨w.heap.size, 4, none⟩ (.slice none 0 0)) w.heap.size 25 [.int .i64 0, .string ⟨#[]⟩, .int .i64 0, .int .i64 0, .slice none 0 0] := ((((RowIs.set R0H.out 0 _).set 1 _).set 2 _).set 3 _).set 4 _
              refine bodyPost_ret (v := .tuple #[.agg ([.int .i64 0, .string ⟨#[]⟩, .int .i64 0, .int .i64 0, .slice none 0 0] : List Value).toArray, .bool false]) (results_row_tmp10 rfl _ _ w.heap.size [.int .i64 0, .string ⟨#[]⟩, .int .i64 0, .int .i64 0, .slice none 0 0] _ (by simp) (.bool false) (by simp) (RF.range (by simp)) Tryz.underlying25 rfl (by kernel_rfl)) rfl ?_
              exact ⟨⟨.slice none 0 0, by rw [HE.out.1]; exact World.ownsRow_nil _ _ _ _, by rw [HE.out.2, HE2.out]⟩, (Below.setCell (Below.setCell (Below.setCell (Below.setCell (Below.setCell BH.out (Nat.le_refl _) _) (Nat.le_refl _) _) (Nat.le_refl _) _) (Nat.le_refl _) _) (Nat.le_refl _) _)⟩
        · obtain rfl : k = CN := by omega
          have dlt : decide ((k : Int) < (XN.toNat : Int)) = false := by simp; omega
          have hKS := keysK_sizes b (20 + SZ) k
          have hkl := keysK_len b (20 + SZ) k
          clear HAW hft
          generalize keysK b (20 + SZ) k = K at *
          obtain ⟨ao, co, rfl⟩ := ho.shape
          have PI0 := fun w2 hk => ref_putReply (X0.toNat : Int) VAL (N - 1000000000000) V ao K.length co (fun i => (K.getD i ⟨#[]⟩).data.toList) w2 (by unfold maxLen; omega) (fun i hi => by
            have : K.getD i ⟨#[]⟩ ∈ K := by rw [List.getD_eq_getElem?_getD, List.getElem?_eq_getElem hi]; exact List.getElem_mem _
            have := hKS _ this
            have e9 : ∀ s : ByteArray, s.data.toList.length = s.size := fun s => by simp
            show ((K.getD i ⟨#[]⟩).data.toList).length ≤ maxLen
            rw [e9]
            unfold maxLen
            omega) hk
          rw [keysOf_list, ← HRF.out] at PI0
          have PI : Hid _ := PI0
          have HS : Hid (StrsAt wr ao K.length (fun i => (K.getD i ⟨#[]⟩).data.toList)) := strs_of_own ho
          have k0 : wr.cell? ⟨w.heap.size + 1, 0, none⟩ = some (.int .i64 (X0.toNat : Int)) := RowIs.cellAt rc rfl
          have k1 : wr.cell? ⟨w.heap.size + 1, 1, none⟩ = some (.string VAL) := RowIs.cellAt rc rfl
          have k2 : wr.cell? ⟨w.heap.size + 1, 2, none⟩ = some (.int .i64 (N - 1000000000000)) := RowIs.cellAt rc rfl
          have k3 : wr.cell? ⟨w.heap.size + 1, 3, none⟩ = some (.int .i64 V) := RowIs.cellAt rc rfl
          have k4 : wr.cell? ⟨w.heap.size + 1, 4, none⟩ = some (.slice ao K.length co) := RowIs.cellAt rc rfl
          have RCH := hide rc
          have R0H := hide r0
          have BH := hide bb
          have OH := hide ho
          clear rc r0 bb ho PI0 hKS hkl
          go_wp2_with fail
          with_reducible refine (PI.out _ HS.out).mono ?_
          rintro e w8 ⟨rfl, b8⟩
          have RC9 := RowIs.below RCH.out b8 (RowIs.lt RCH.out)
          have R09 := RowIs.below R0H.out b8 (RowIs.lt R0H.out)
          have B9 := bel_chain8 BH.out b8
          have O9 := OwnT.below OH.out b8
          clear b8 k0 k1 k2 k3 k4 HS PI
          have k0 : w8.cell? ⟨w.heap.size + 1, 0, none⟩ = some (.int .i64 (X0.toNat : Int)) := RowIs.cellAt RC9 rfl
          have k1 : w8.cell? ⟨w.heap.size + 1, 1, none⟩ = some (.string VAL) := RowIs.cellAt RC9 rfl
          have k2 : w8.cell? ⟨w.heap.size + 1, 2, none⟩ = some (.int .i64 (N - 1000000000000)) := RowIs.cellAt RC9 rfl
          have k3 : w8.cell? ⟨w.heap.size + 1, 3, none⟩ = some (.int .i64 V) := RowIs.cellAt RC9 rfl
          have k4 : w8.cell? ⟨w.heap.size + 1, 4, none⟩ = some (.slice ao K.length co) := RowIs.cellAt RC9 rfl
          have r0 : w8.cell? ⟨w.heap.size, 0, none⟩ = some (.int .i64 0) := RowIs.cellAt R09 rfl
          have r1 : w8.cell? ⟨w.heap.size, 1, none⟩ = some (.string ⟨#[]⟩) := RowIs.cellAt R09 rfl
          have r2 : w8.cell? ⟨w.heap.size, 2, none⟩ = some (.int .i64 0) := RowIs.cellAt R09 rfl
          have r3 : w8.cell? ⟨w.heap.size, 3, none⟩ = some (.int .i64 0) := RowIs.cellAt R09 rfl
          have r4 : w8.cell? ⟨w.heap.size, 4, none⟩ = some (.slice none 0 0) := RowIs.cellAt R09 rfl
          have t0 : w8.frozen? ⟨w.heap.size, 0, none⟩ = false := RowIs.frozen R09 0
          have t1 : w8.frozen? ⟨w.heap.size, 1, none⟩ = false := RowIs.frozen R09 1
          have t2 : w8.frozen? ⟨w.heap.size, 2, none⟩ = false := RowIs.frozen R09 2
          have t3 : w8.frozen? ⟨w.heap.size, 3, none⟩ = false := RowIs.frozen R09 3
          have t4 : w8.frozen? ⟨w.heap.size, 4, none⟩ = false := RowIs.frozen R09 4
          have R0Y := hide R09
          have OHY := hide O9
          have BY := hide B9
          clear RC9 R09 B9 O9 RCH R0H BH OH
          rcases HTL.out with ⟨g1, g2, g3, g4⟩ | ⟨g1, g2, g3⟩
          · rw [g1, g2]
            have HE : Hid ((getR b).keys = K ∧ ∀ kv, (getR b).v kv = .agg #[.int .i64 (X0.toNat : Int), .string VAL, .int .i64 (N - 1000000000000), .int .i64 V, kv]) := by rw [g3, HRF.out]; exact ⟨rfl, fun _ => rfl⟩
            have HE2 : Hid (getROk b = true) := g4
            have e6 := str_beq_self b
            clear g1 g2 g3 g4 HTL HRF
            go_wp2
            have RF : RowIs ((((((w8).setCell ⟨w.heap.size, 0, none⟩ (.int .i64 (X0.toNat : Int))).setCell ⟨w.heap.size, 1, none⟩ (.string VAL)).setCell ⟨w.heap.size, 2, none⟩ (.int .i64 (N - 1000000000000))).setCell ⟨w.heap.size, 3, none⟩ (.int .i64 V)).setCell ⟨w.heap.size, 4, none⟩ (.slice ao K.length co)) w.heap.size 25 [.int .i64 (X0.toNat : Int), .string VAL, .int .i64 (N - 1000000000000), .int .i64 V, .slice ao K.length co] := ((((RowIs.set R0Y.out 0 _).set 1 _).set 2 _).set 3 _).set 4 _
            refine bodyPost_ret (v := .tuple #[.agg ([.int .i64 (X0.toNat : Int), .string VAL, .int .i64 (N - 1000000000000), .int .i64 V, .slice ao K.length co] : List Value).toArray, .bool true]) (results_row_tmp10 rfl _ _ w.heap.size [.int .i64 (X0.toNat : Int), .string VAL, .int .i64 (N - 1000000000000), .int .i64 V, .slice ao K.length co] _ (by simp) (.bool true) (by simp) (RF.range (by simp)) Tryz.underlying25 rfl (by kernel_rfl)) rfl ?_
            exact ⟨⟨.slice ao K.length co, by rw [HE.out.1]; exact OwnT.base (own_other10 (own_other10 (own_other10 (own_other10 (own_other10 OHY.out (a := ⟨w.heap.size, 0, none⟩) (show w.heap.size < w.heap.size + 2 by omega) _) (a := ⟨w.heap.size, 1, none⟩) (show w.heap.size < w.heap.size + 2 by omega) _) (a := ⟨w.heap.size, 2, none⟩) (show w.heap.size < w.heap.size + 2 by omega) _) (a := ⟨w.heap.size, 3, none⟩) (show w.heap.size < w.heap.size + 2 by omega) _) (a := ⟨w.heap.size, 4, none⟩) (show w.heap.size < w.heap.size + 2 by omega) _) (by omega), by rw [HE.out.2, HE2.out]⟩, (Below.setCell (Below.setCell (Below.setCell (Below.setCell (Below.setCell BY.out (Nat.le_refl _) _) (Nat.le_refl _) _) (Nat.le_refl _) _) (Nat.le_refl _) _) (Nat.le_refl _) _)⟩
          · have HE : Hid ((getR b).keys = [] ∧ ∀ kv, (getR b).v kv = .agg #[.int .i64 0, .string ⟨#[]⟩, .int .i64 0, .int .i64 0, kv]) := by rw [g2]; exact ⟨rfl, fun _ => rfl⟩
            have HE2 : Hid (getROk b = false) := g3
            have hcase : (refR b).ok = false ∨ ((refR b).ok = true ∧ (refR b).put ≠ b) := by
              cases h : (refR b).ok with
              | false => exact Or.inl rfl
              | true => exact Or.inr ⟨rfl, fun h2 => g1 ⟨h, h2⟩⟩
            clear g1 g2 g3 HTL HRF
            generalize (refR b).put = PUT at *
            generalize (refR b).ok = OK at *
            rcases hcase with rfl | ⟨rfl, hne⟩
            · go_wp2
              have RF : RowIs ((((((w8).setCell ⟨w.heap.size, 0, none⟩ (.int .i64 0)).setCell ⟨w.heap.size, 1, none⟩ (.string ⟨#[]⟩)).setCell ⟨w.heap.size, 2, none⟩ (.int .i64 0)).setCell ⟨w.heap.size, 3, none⟩ (.int .i64 0)).setCell ⟨w.heap.size, 4, none⟩ (.slice none 0 0)) w.heap.size 25 [.int .i64 0, .string ⟨#[]⟩, .int .i64 0, .int .i64 0, .slice none 0 0] := ((((RowIs.set R0Y.out 0 _).set 1 _).set 2 _).set 3 _).set 4 _
              refine bodyPost_ret (v := .tuple #[.agg ([.int .i64 0, .string ⟨#[]⟩, .int .i64 0, .int .i64 0, .slice none 0 0] : List Value).toArray, .bool false]) (results_row_tmp10 rfl _ _ w.heap.size [.int .i64 0, .string ⟨#[]⟩, .int .i64 0, .int .i64 0, .slice none 0 0] _ (by simp) (.bool false) (by simp) (RF.range (by simp)) Tryz.underlying25 rfl (by kernel_rfl)) rfl ?_
              exact ⟨⟨.slice none 0 0, by rw [HE.out.1]; exact World.ownsRow_nil _ _ _ _, by rw [HE.out.2, HE2.out]⟩, (Below.setCell (Below.setCell (Below.setCell (Below.setCell (Below.setCell BY.out (Nat.le_refl _) _) (Nat.le_refl _) _) (Nat.le_refl _) _) (Nat.le_refl _) _) (Nat.le_refl _) _)⟩
            · have e1 : (PUT.toList == b.toList) = false := by rw [str_beq]; exact decide_eq_false hne
              have e2 : ¬ PUT.toList = b.toList := fun e => by rw [e] at e1; simp at e1
              have e3 : decide (PUT = b) = false := decide_eq_false hne
              clear hne
              go_wp2
              have RF : RowIs ((((((w8).setCell ⟨w.heap.size, 0, none⟩ (.int .i64 0)).setCell ⟨w.heap.size, 1, none⟩ (.string ⟨#[]⟩)).setCell ⟨w.heap.size, 2, none⟩ (.int .i64 0)).setCell ⟨w.heap.size, 3, none⟩ (.int .i64 0)).setCell ⟨w.heap.size, 4, none⟩ (.slice none 0 0)) w.heap.size 25 [.int .i64 0, .string ⟨#[]⟩, .int .i64 0, .int .i64 0, .slice none 0 0] := ((((RowIs.set R0Y.out 0 _).set 1 _).set 2 _).set 3 _).set 4 _
              refine bodyPost_ret (v := .tuple #[.agg ([.int .i64 0, .string ⟨#[]⟩, .int .i64 0, .int .i64 0, .slice none 0 0] : List Value).toArray, .bool false]) (results_row_tmp10 rfl _ _ w.heap.size [.int .i64 0, .string ⟨#[]⟩, .int .i64 0, .int .i64 0, .slice none 0 0] _ (by simp) (.bool false) (by simp) (RF.range (by simp)) Tryz.underlying25 rfl (by kernel_rfl)) rfl ?_
              exact ⟨⟨.slice none 0 0, by rw [HE.out.1]; exact World.ownsRow_nil _ _ _ _, by rw [HE.out.2, HE2.out]⟩, (Below.setCell (Below.setCell (Below.setCell (Below.setCell (Below.setCell BY.out (Nat.le_refl _) _) (Nat.le_refl _) _) (Nat.le_refl _) _) (Nat.le_refl _) _) (Nat.le_refl _) _)⟩
        
end Go.Proofs.YtgcbanmjfnnccaaGreat
