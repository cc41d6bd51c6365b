/-
  Parts of this proof, one behind the other: RefQ.
-/
import Derived.Test.YtanghehmfagmfaaGreatDoorBun28
import Derived.Deep.CutRange

/-
  The contract of the reference's Tag.
-/
namespace Go.Proofs.YtanghehmfagmfaaGreatDoor
open Go.RowKit
set_option linter.unusedVariables false
set_option maxRecDepth 100000
set_option linter.unusedSimpArgs false

set_option maxRecDepth 100000 in
set_option maxHeartbeats 4000000 in
theorem ref_tag (key b : ByteArray) (w : World) (hk : key.size = 32) (hb : b.size ≤ 4611686018427387000) :
    Calls Tryz.prog 98 #[.string key, .string b] w fun e w' => e = .returned (.string (tagS key b)) ∧ Below w.heap.size w w' := by
  obtain ⟨i0, hi, hz0, hz1, hz2⟩ := info_parts infoI
  obtain ⟨i8, hi8, hy0, hy1, hy2⟩ := info_parts info8
  have hcl := ref_clamp key w hk
  have hcs := clampS_size key
  have HRV : Hid (leV (clampS key).data.toList = leV (clampL key.data.toList)) := by
    show _ = _
    rw [clampS, str_list6]
  have hrl := intsOf_len (clampS key)
  generalize clampS key = ck at *
  rw [hcs] at hrl
  have HRW : Hid (valD (intsOf ck) = leV (clampL key.data.toList)) := HRV.out
  clear HRV
  have HTG : Hid (tagS key b = put16S (accTo (leV (clampL key.data.toList)) b.data.toList ((b.size + 15) / 16) + leV (key.data.toList.drop 16))) := by
    show _ = _
    unfold tagS tagV
    simp
  go_enter Tryz.func98, Tryz.ntmps98
  go_wp2_with fail
  refine hcl.mono ?_
  rintro e w1 ⟨rfl, b1⟩
  go_wp2_with fail
  refine (ref_carry [] none 0 0 0 w1 rfl (Or.inl rfl) (Or.inr rfl) (fun j hj => by omega) (fun j => ⟨by simp, by simp⟩) (by omega) 0 (by decide) (by decide)).mono ?_
  rintro e w2 ⟨⟨d, v2, hall, hvd, hd18, hdl, hown, rfl⟩, b2⟩
  have hdl18 : d.length = 18 := by simp at hdl; omega
  obtain ⟨g, cap, rfl, hg1, hg2⟩ := hown.form (by omega)
  have hbel : Below w.heap.size w w2 := b1.trans (b2.mono b1.size)
  replace hown := OwnI.base hown b1.size
  rw [hdl18] at hown ⊢
  clear b1 b2 hg1 hg2 hdl hd18 hcl
  go_wp2_with fail
  go_loopw [6, 7] (fun v i wr => ∃ (k g cap : Nat) (d : List Int), i = .int .i64 (16 * (k : Int)) ∧ 16 * k < b.size + 16 ∧ v = .slice (some ⟨g, 0, none⟩) 18 cap ∧ d.length = 18 ∧ allD d ∧ valD d < 1361129467683753853853498429727072845824 ∧ valD d % p130 = accTo (leV (clampL key.data.toList)) b.data.toList k ∧ OwnI wr w.heap.size (.slice (some ⟨g, 0, none⟩) 18 cap) d ∧ Below w.heap.size w wr) (fun _ i _ => b.size + 16 - (intOf i).toNat)
  case atStart => exact ⟨0, g, cap, d, rfl, by omega, rfl, hdl18, hall, by rw [hvd]; decide, by rw [hvd]; rfl, hown, hbel⟩
  case round =>
    clear hown hbel hall hvd hdl18
    obtain ⟨k, g, cap, d, rfl, hk1, rfl, hdl, hall, hv130, hvr, hown, hbel⟩ := hrel
    by_cases hlt : 16 * k < b.size
    · have hlt' : 16 * (k : Int) < (b.size : Int) := by omega
      obtain ⟨ps, hps⟩ : ∃ ps : ByteArray, ps = b.extract (16 * k) (min (16 * k + 16) b.size) ++ ⟨#[1]⟩ := ⟨_, rfl⟩
      have hex : (b.extract (16 * k) (min (16 * k + 16) b.size)).size = min (16 * k + 16) b.size - 16 * k := by simp
      have hpl : ps.data.toList = ((b.data.toList.drop (16 * k)).take 16) ++ [1] := by
        rw [hps, one_snoc, ByteArray.data_extract, Array.toList_extract, List.extract_eq_take_drop]
        congr 1
        have e : b.data.toList.length = b.size := by simp
        by_cases h : 16 * k + 16 ≤ b.size
        · rw [Nat.min_eq_left h]; congr 1; omega
        · rw [Nat.min_eq_right (by omega), List.take_of_length_le (by rw [List.length_drop]; omega), List.take_of_length_le (by rw [List.length_drop]; omega)]
      have ht : (16 * (k : Int)).toNat = 16 * k := by omega
      have ht2 : (16 * (k : Int) + 16).toNat = 16 * k + 16 := by omega
      have hpz : ps.size ≤ 17 := by
        have e : ps.size = ps.data.toList.length := by simp
        rw [e, hpl]
        simp
        omega
      go_upto_region 7 with fail
      go_cut [8] from 21 to 90 (fun s8 wx => s8 = .string ps ∧ wx = wr)
      case first =>
        by_cases hmn : b.size < 16 * k + 16
        · rw [Nat.min_eq_right (by omega)] at hps hex
          have hmn' : (b.size : Int) < 16 * (k : Int) + 16 := by omega
          have hsl : ∀ w : World, (Instr.slice 9 (.string b) (some (.int .i64 (16 * (k : Int)))) (some (.int .i64 (b.size : Int))) none).run Tryz.prog w = .ok (.string (b.extract (16 * k) b.size)) w := fun w => by
            rw [run_slice_string (P := Tryz.prog) w 9 b .i64 .i64 _ _ Tryz.underlying9 (by omega) (by omega) (by omega), ht, Int.toNat_natCast]
          have hln : ¬ (9223372036854775807 < (b.extract (16 * k) b.size).size + 1) := by omega
          generalize b.extract (16 * k) b.size = ex at *
          have hps2 : ex ++ ⟨#[1]⟩ = ps := hps.symm
          clear hps hpl
          go_wp2
          go_meet
          exact ⟨rfl, rfl⟩
        · rw [Nat.min_eq_left (by omega)] at hps hex
          have hmn' : ¬ ((b.size : Int) < 16 * (k : Int) + 16) := by omega
          have hsl : ∀ w : World, (Instr.slice 9 (.string b) (some (.int .i64 (16 * (k : Int)))) (some (.int .i64 (16 * (k : Int) + 16))) none).run Tryz.prog w = .ok (.string (b.extract (16 * k) (16 * k + 16))) w := fun w => by
            rw [run_slice_string (P := Tryz.prog) w 9 b .i64 .i64 _ _ Tryz.underlying9 (by omega) (by omega) (by omega), ht, ht2]
          have hln : ¬ (9223372036854775807 < (b.extract (16 * k) (16 * k + 16)).size + 1) := by omega
          generalize b.extract (16 * k) (16 * k + 16) = ex at *
          have hps2 : ex ++ ⟨#[1]⟩ = ps := hps.symm
          clear hps hpl
          go_wp2
          go_meet
          exact ⟨rfl, rfl⟩
      case rest =>
        obtain ⟨rfl, rfl⟩ := hcut
        have hpl2 : valD (intsOf ps) = leV (((b.data.toList.drop (16 * k)).take 16) ++ [1]) := by rw [intsOf_val, hpl]
        have hpi := intsOf_len ps
        clear hps hpl hex ht2
        go_wp2_with fail
        go_loopw [9] (fun i wr => ∃ (q : Nat) (l : List Int), q ≤ ps.size ∧ i = .int .i64 (q : Int) ∧ l.length = 18 ∧ (∀ j, 0 ≤ l.getD j 0 ∧ l.getD j 0 < 256 * ((q : Int) + 1)) ∧ valD l = valD d + valD ((intsOf ps).take q) ∧ OwnI wr w.heap.size (.slice (some ⟨g, 0, none⟩) 18 cap) l ∧ Below w.heap.size w wr) (fun i _ => ps.size - (intOf i).toNat)
        case atStart => exact ⟨0, d, Nat.zero_le _, rfl, hdl, fun j => by have := allD_getD hall j; omega, by simp [valD], hown, hbel⟩
        case round =>
          clear hown hbel
          obtain ⟨q, l, hq, rfl, hl, hlb, hlv, hown, hbel⟩ := hrel
          by_cases hql : q < ps.size
          · have hc := hown.cell hl.symm q (by omega)
            have hz := hown.frozen hl.symm q
            have hlq := hlb q
            have hpb := intsOf_bd ps q
            have hpa := intsOf_at ps q hql
            have HN : Hid (OwnI (wr.setCell ⟨g, q, none⟩ (.int .i64 (l.getD q 0 + (intsOf ps).getD q 0))) w.heap.size (.slice (some ⟨g, 0, none⟩) 18 cap) (l.set q (l.getD q 0 + (intsOf ps).getD q 0))) := hown.store hl.symm q _
            have HV : Hid (valD (l.set q (l.getD q 0 + (intsOf ps).getD q 0)) = valD d + valD ((intsOf ps).take (q + 1))) := take_next l (intsOf ps) q (by omega) (by omega) _ hlv
            have HB : Hid (∀ j, 0 ≤ (l.set q (l.getD q 0 + (intsOf ps).getD q 0)).getD j 0 ∧ (l.set q (l.getD q 0 + (intsOf ps).getD q 0)).getD j 0 < 256 * (((q + 1 : Nat) : Int) + 1)) := fun j => getD_set l q j _ _ (by omega) (fun i => ⟨(hlb i).1, by have := (hlb i).2; omega⟩) (by omega)
            have HL : Hid ((l.set q (l.getD q 0 + (intsOf ps).getD q 0)).length = 18) := by show _ = _; rw [List.length_set, hl]
            have HG : Hid (w.heap.size ≤ g) := by
              obtain ⟨_, _, hf, hle, _⟩ := hown.form (by omega)
              simp only [Value.slice.injEq, Option.some.injEq, Addr.mk.injEq, and_true] at hf
              show _ ≤ _
              omega
            have y0 := hlq.1
            have y1 : l.getD q 0 < 1099511627776 := by omega
            have hq18 : (q : Int) < 18 := by omega
            rw [hpa] at HN HV HB HL hpb
            have p1 := hpb.2
            clear hpb hlq hlb hlv hown hpa
            generalize l.set q (l.getD q 0 + (ps[q].toNat : Int)) = l' at *
            generalize l.getD q 0 = Y at *
            go_wp2
            go_region
            go_wp2
            go_roundw
            case rel => exact ⟨q + 1, l', by omega, by go_num, HL.out, HB.out, HV.out, HN.out, (hbel.setCell (by show w.heap.size ≤ g; exact HG.out) _).drew⟩
            case measure => simp [intOf]; omega
          · obtain rfl : q = ps.size := by omega
            rw [List.take_of_length_le (by omega)] at hlv
            have hrc := ints_clamp ck hcs
            have hone := leV_one ((b.data.toList.drop (16 * k)).take 16) (by simp; omega)
            have hd0 := (valD_bd hall).1
            have hp0 := (leV_bd (((b.data.toList.drop (16 * k)).take 16) ++ [1])).1
            have hVr := fold_room (valD l) (valD (intsOf ck)) (by omega) (by omega) hrc.1 hrc.2
            have HAC : Hid (∀ V', V' = valD l * valD (intsOf ck) → V' % p130 = accTo (leV (clampL key.data.toList)) b.data.toList (k + 1)) := fun V' hV' => acc_digits _ V' (valD d) _ k hvr (by rw [hV', hlv, hpl2, HRW.out])
            have hlb2 : ∀ j, 0 ≤ l.getD j 0 ∧ l.getD j 0 < 8192 := fun j => ⟨(hlb j).1, by have := (hlb j).2; omega⟩
            have hcl : ∀ j, j < 18 → wr.cell? ⟨g, j, none⟩ = some (.int .i64 (l.getD j 0)) := fun j hj => hown.cell hl.symm j (by omega)
            have hgw : g < wr.heap.size := by
              obtain ⟨_, _, hf, _, hlt⟩ := hown.form (by omega)
              simp only [Value.slice.injEq, Option.some.injEq, Addr.mk.injEq, and_true] at hf
              omega
            have HSZ : Hid (w.heap.size ≤ wr.heap.size) := hbel.size
            have hdq : decide ((ps.size : Int) < (ps.size : Int)) = false := by simp
            clear hown hlb hlv hpl2 hpi hone hp0 hrc hall hdl hv130 hvr hd0 hpz
            go_wp2_with (first | (at_make; refine wpList_make_full _ rfl _ _ 30 rfl wr.heap.size 3 i0 (.int .i64 0) 1 Tryz.underlying30 hi hz0 hz1 .i64 .i64 34 34 34 rfl rfl rfl rfl (by rw [hz2]; omega) (by unfold maxLen; omega) (Nat.le_refl _) ?_))
            intro w3 hown3 hgrow3
            rw [madeI] at hown3
            have b3 : Below wr.heap.size wr w3 := (Below.refl _ wr).grown hgrow3 (Nat.le_refl _) (by intro k hk; cases hk)
            have hcl3 : ∀ j, j < 18 → w3.cell? ⟨g, j, none⟩ = some (.int .i64 (l.getD j 0)) := fun j hj => (b3.cell (p := ⟨g, j, none⟩) hgw).trans (hcl j hj)
            have hbel3 : Below w.heap.size w w3 := hbel.trans (b3.mono hbel.size)
            have hown3' : OwnI w3 wr.heap.size (.slice (some ⟨wr.heap.size, 0, none⟩) 34 34) (List.replicate 34 0) := hown3
            clear hgrow3 b3 hcl hbel hown3
            generalize hB : wr.heap.size = B at *
            clear hB
            have hgB : g ≠ B := by omega
            go_wp2_with fail
            go_loopw [11] (fun iv wr => ∃ (i : Nat) (P : List Int), i ≤ 18 ∧ iv = .int .i64 (i : Int) ∧ P.length = 34 ∧ (∀ j, 0 ≤ P.getD j 0 ∧ P.getD j 0 < (16 * (i : Int)) * 2097152 + 1) ∧ valD P = mulD l (intsOf ck) i 0 ∧ OwnI wr B (.slice (some ⟨B, 0, none⟩) 34 34) P ∧ (∀ j, j < 18 → wr.cell? ⟨g, j, none⟩ = some (.int .i64 (l.getD j 0))) ∧ Below w.heap.size w wr) (fun i _ => 18 - (intOf i).toNat)
            case atStart => exact ⟨0, List.replicate 34 0, Nat.zero_le _, rfl, rfl, fun j => by rw [zerosI_at]; omega, by rw [mulD_zero, valD_zeros], hown3', hcl3, hbel3⟩
            case round =>
              clear hown3' hcl3 hbel3
              obtain ⟨i, P, hi18, rfl, hPl, hPb, hPv, hown, hcl, hbel⟩ := hrel
              by_cases hil : i < 18
              · have hd18 : decide ((i : Int) < 18) = true := by simp; omega
                go_wp2_with fail
                clear hd18
                go_loopw [12] (fun jv wr => ∃ (j : Nat) (P : List Int), j ≤ 16 ∧ jv = .int .i64 (j : Int) ∧ P.length = 34 ∧ (∀ q, 0 ≤ P.getD q 0 ∧ P.getD q 0 < (16 * (i : Int) + j) * 2097152 + 1) ∧ valD P = mulD l (intsOf ck) i j ∧ OwnI wr B (.slice (some ⟨B, 0, none⟩) 34 34) P ∧ (∀ j, j < 18 → wr.cell? ⟨g, j, none⟩ = some (.int .i64 (l.getD j 0))) ∧ Below w.heap.size w wr) (fun j _ => 16 - (intOf j).toNat)
                case atStart => exact ⟨0, P, Nat.zero_le _, rfl, hPl, fun q => by have := hPb q; omega, hPv, hown, hcl, hbel⟩
                case round =>
                  clear hPl hPb hPv hown hcl hbel
                  obtain ⟨j, P, hj16, rfl, hPl, hPb, hPv, hown, hcl, hbel⟩ := hrel
                  by_cases hjl : j < 16
                  · have hc := hown.cell hPl.symm (i + j) (by omega)
                    have hz := hown.frozen hPl.symm (i + j)
                    have hPq := hPb (i + j)
                    have hca := hcl i hil
                    have hrb := intsOf_bd ck j
                    have hra := intsOf_at ck j (by omega)
                    have hpr := prodI_bd _ _ (hlb2 i) hrb
                    have HN : Hid (OwnI (wr.setCell ⟨B, i + j, none⟩ (.int .i64 (P.getD (i + j) 0 + l.getD i 0 * (intsOf ck).getD j 0))) B (.slice (some ⟨B, 0, none⟩) 34 34) (P.set (i + j) (P.getD (i + j) 0 + l.getD i 0 * (intsOf ck).getD j 0))) := hown.store hPl.symm (i + j) _
                    have HV : Hid (valD (P.set (i + j) (P.getD (i + j) 0 + l.getD i 0 * (intsOf ck).getD j 0)) = mulD l (intsOf ck) i (j + 1)) := by show _ = _; rw [valD_add P (i + j) _ (by omega), hPv, mulD_step l (intsOf ck) i j (by omega)]
                    have HB : Hid (∀ q, 0 ≤ (P.set (i + j) (P.getD (i + j) 0 + l.getD i 0 * (intsOf ck).getD j 0)).getD q 0 ∧ (P.set (i + j) (P.getD (i + j) 0 + l.getD i 0 * (intsOf ck).getD j 0)).getD q 0 < (16 * (i : Int) + ((j + 1 : Nat) : Int)) * 2097152 + 1) := fun q => getD_set P (i + j) q _ _ (by omega) (fun i' => ⟨(hPb i').1, by have := (hPb i').2; omega⟩) (by omega)
                    have HL : Hid ((P.set (i + j) (P.getD (i + j) 0 + l.getD i 0 * (intsOf ck).getD j 0)).length = 34) := by show _ = _; rw [List.length_set, hPl]
                    have HC : Hid (∀ q, q < 18 → (wr.setCell ⟨B, i + j, none⟩ (.int .i64 (P.getD (i + j) 0 + l.getD i 0 * (intsOf ck).getD j 0))).cell? ⟨g, q, none⟩ = some (.int .i64 (l.getD q 0))) := fun q hq => (World.cell?_setCell_other _ _ _ _ (fun e => by injection e with e1; omega)).trans (hcl q hq)
                    have x0 := (hlb2 i).1
                    have x1 := (hlb2 i).2
                    have y0 := hPq.1
                    have y1 : P.getD (i + j) 0 < 1099511627776 := by omega
                    have p0 := hpr.1
                    have p1 := hpr.2
                    rw [hra] at HN HV HB HL HC p0 p1 hrb
                    have r1 := hrb.2
                    have ht3 : ((i : Int) + (j : Int)).toNat = i + j := by omega
                    have ht4 : (i : Int) + (j : Int) < 34 := by omega
                    have ht5 : 0 ≤ (i : Int) + (j : Int) := by omega
                    have hjck : j < ck.size := by omega
                    clear hrb hpr hPq hPb hPv hown hcl hra
                    generalize P.set (i + j) (P.getD (i + j) 0 + l.getD i 0 * (ck[j].toNat : Int)) = P' at *
                    generalize P.getD (i + j) 0 = Y at *
                    generalize l.getD i 0 = X at *
                    go_wp2_with fail
                    go_region
                    go_wp2
                    go_roundw
                    case rel => exact ⟨j + 1, P', by omega, by go_num, HL.out, HB.out, HV.out, HN.out, HC.out, (hbel.setCell (by show w.heap.size ≤ B; exact HSZ.out) _).drew⟩
                    case measure => simp [intOf]; omega
                  · obtain rfl : j = 16 := by omega
                    have HV : Hid (valD P = mulD l (intsOf ck) (i + 1) 0) := by show _ = _; rw [hPv]; exact mulD_next l (intsOf ck) i 16 hrl (by omega)
                    have HB : Hid (∀ q, 0 ≤ P.getD q 0 ∧ P.getD q 0 < (16 * ((i + 1 : Nat) : Int)) * 2097152 + 1) := fun q => by have := hPb q; omega
                    clear hPb hPv
                    go_wp2
                    go_roundw
                    case rel => exact ⟨i + 1, P, by omega, by go_num, hPl, HB.out, HV.out, hown, hcl, hbel⟩
                    case measure => simp [intOf]; omega
              · obtain rfl : i = 18 := by omega
                rw [mulD_end l (intsOf ck) 18 hl] at hPv
                have hcP : ∀ j, j < 34 → wr.cell? ⟨B, j, none⟩ = some (.int .i64 (P.getD j 0)) := fun j hj => hown.cell hPl.symm j (by omega)
                have hPb2 : ∀ j, 0 ≤ P.getD j 0 ∧ P.getD j 0 < 1099511627776 := fun j => ⟨(hPb j).1, by have := (hPb j).2; omega⟩
                have hBw : B < wr.heap.size := by
                  obtain ⟨_, _, hf, _, hlt⟩ := hown.form (by omega)
                  simp only [Value.slice.injEq, Option.some.injEq, Addr.mk.injEq, and_true] at hf
                  omega
                have hdi : decide (((18 : Nat) : Int) < 18) = false := by decide
                go_wp2_with fail
                refine (ref_fold (valD l * valD (intsOf ck)) P B 34 34 wr hPl hBw hcP hPb2 (by decide) (by decide) hPv hVr.1 hVr.2).mono ?_
                rintro e w5 ⟨⟨d5, g5, cap5, hd5, hall5, hv5, hr5, hown5, rfl⟩, b5⟩
                have HAC2 : Hid (valD d5 % p130 = accTo (leV (clampL key.data.toList)) b.data.toList (k + 1)) := by rw [hr5]; exact HAC.out _ rfl
                go_wp2
                go_roundw
                case rel => exact ⟨k + 1, g5, cap5, d5, by go_num, by omega, rfl, hd5, hall5, hv5, HAC2.out, OwnI.base hown5 hbel.size, hbel.trans (b5.mono hbel.size)⟩
                case measure => simp [intOf]; omega
    · have hlt' : ¬ (16 * (k : Int) < (b.size : Int)) := by omega
      have hdk : decide (16 * (k : Int) < (b.size : Int)) = false := decide_eq_false hlt'
      have hkk : k = (b.size + 15) / 16 := by omega
      rw [← hkk] at HTG
      have hd0 := (valD_bd hall).1
      have hnews : ∀ j u, (cellsI d)[j]? = some u → wr.cell? ((⟨g, 0, none⟩ : Addr).add j) = some u := World.ownsRow.cells hown rfl
      have hgw : g < wr.heap.size ∧ w.heap.size ≤ g := by
        obtain ⟨_, _, hf, hle, hlt⟩ := hown.form (by omega)
        simp only [Value.slice.injEq, Option.some.injEq, Addr.mk.injEq, and_true] at hf
        omega
      have hcd : ∀ j, j < 18 → wr.cell? ⟨g, j, none⟩ = some (.int .i64 (d.getD j 0)) := fun j hj => hown.cell hdl.symm j (by omega)
      have hnil : wr.ownsRow wr.heap.size 3 1 (.slice none 0 0) 0 [] := World.ownsRow_nil wr _ _ _
      have hcdl : (cellsI d).length = 18 := by rw [cellsI_len, hdl]
      go_wp2_with (first | (at_builtin; refine wpList_append_lies _ rfl (.const (.slice none 0 0)) (.tmp 91) 30 rfl wr.heap.size 3 i0 (.int .i64 0) 1 8 Tryz.underlying30 hi hz0 hz1 hz2 rfl (by decide) (.slice none 0 0) 0 [] rfl hnil ⟨g, 0, none⟩ 18 cap (cellsI d) rfl (by rw [hcdl]) hnews (cellsI_one _) (by decide) (by unfold maxLen; omega) (by omega) (Nat.le_refl _) _ rfl ?_))
      intro g2 cap2 w2 hown2 hgrow2 hat hlt2
      have hg2 : g2 = wr.heap.size := by
        rcases hat with h | h
        · cases h
        · exact h
      have hownm : OwnI w2 wr.heap.size (.slice (some ⟨g2, 0, none⟩) 18 cap2) d := by
        unfold OwnI
        rw [hdl]
        exact hown2
      have b2 : Below wr.heap.size wr w2 := (Below.refl _ wr).grown hgrow2 (Nat.le_refl _) (by intro k hk; cases hk)
      have hownd : OwnI w2 w.heap.size (.slice (some ⟨g, 0, none⟩) 18 cap) d := OwnI.below hown b2
      have hbel2 : Below w.heap.size w w2 := hbel.trans (b2.mono hbel.size)
      have c0 := hownm.cell hdl.symm 0 (by omega)
      have z0 := hownm.frozen hdl.symm 0
      have hm0 := hownm.store hdl.symm 0 (d.getD 0 0 + 5)
      have hx0 := allD_getD hall 0
      have hxb : ∀ j, 0 ≤ (d.set 0 (d.getD 0 0 + 5)).getD j 0 ∧ (d.set 0 (d.getD 0 0 + 5)).getD j 0 < 1099511627776 := fun j => getD_set d 0 j _ _ (by decide) (fun i => by have := allD_getD hall i; omega) (by omega)
      have hxv : valD (d.set 0 (d.getD 0 0 + 5)) = valD d + 5 := by rw [valD_add d 0 5 (by omega)]; simp
      have hxl : (d.set 0 (d.getD 0 0 + 5)).length = 18 := by rw [List.length_set, hdl]
      have hbel3 : Below w.heap.size w (w2.setCell ⟨g2, 0, none⟩ (.int .i64 (d.getD 0 0 + 5))) := hbel2.setCell (by show w.heap.size ≤ g2; omega) _
      have hgg : g ≠ g2 := by omega
      have hd3 : ∀ j, j < 18 → (w2.setCell ⟨g2, 0, none⟩ (.int .i64 (d.getD 0 0 + 5))).cell? ⟨g, j, none⟩ = some (.int .i64 (d.getD j 0)) := fun j hj => (World.cell?_setCell_other _ _ _ _ (fun e => by injection e with e1; omega)).trans (hownd.cell hdl.symm j (by omega))
      have hownd3 : OwnI (w2.setCell ⟨g2, 0, none⟩ (.int .i64 (d.getD 0 0 + 5))) w.heap.size (.slice (some ⟨g, 0, none⟩) 18 cap) d := hownd.other hgg _
      have hg2s : g2 < (w2.setCell ⟨g2, 0, none⟩ (.int .i64 (d.getD 0 0 + 5))).heap.size := by simpa [World.setCell] using hlt2
      have xx0 := hx0.1
      have xx1 := hx0.2
      generalize d.set 0 (d.getD 0 0 + 5) = x5 at *
      generalize hw3 : w2.setCell ⟨g2, 0, none⟩ (.int .i64 (d.getD 0 0 + 5)) = w3 at *
      have HW3 : Hid (w2.setCell ⟨g2, 0, none⟩ (.int .i64 (d.getD 0 0 + 5)) = w3) := hw3
      clear hw3
      have hc5 : ∀ j, j < 18 → w3.cell? ⟨g2, j, none⟩ = some (.int .i64 (x5.getD j 0)) := fun j hj => hm0.cell hxl.symm j (by omega)
      clear hg2 hkk hnews hnil hcdl hcd hown2 hgrow2 hat hlt2 hownm b2 hownd hbel2 hx0 hd3 hbel hown hm0
      generalize d.getD 0 0 = D0 at *
      go_wp2_with fail
      rw [HW3.out]
      refine (ref_carry x5 (some ⟨g2, 0, none⟩) g2 18 cap2 w3 hxl (Or.inr rfl) (Or.inl hg2s) hc5 hxb (by decide) 18 (by rw [hxv, show (256 : Int) ^ 18 = 22300745198530623141535718272648361505980416 from by decide]; omega) (by decide)).mono ?_
      rintro e w4 ⟨⟨m, v4, hallm, hvm, hm18, hml, hown4, rfl⟩, b4⟩
      have hml18 : m.length = 18 := by simp at hml; omega
      obtain ⟨g4, cap4, rfl, hg4, hg4'⟩ := hown4.form (by omega)
      rw [hml18] at hown4 ⊢
      have hbel4 : Below w.heap.size w w4 := hbel3.trans (b4.mono hbel3.size)
      have hownd4 : OwnI w4 w.heap.size (.slice (some ⟨g, 0, none⟩) 18 cap) d := OwnI.below hownd3 b4
      replace hown4 := OwnI.base hown4 hbel3.size
      have m16 := hown4.cell hml18.symm 16 (by omega)
      have m17 := hown4.cell hml18.symm 17 (by omega)
      have hreach := reach130 m hml18 hallm
      rw [hvm, hxv] at hreach
      have hvm5 : valD m = valD d + 5 := by rw [hvm, hxv]
      clear hc5 hxb hxv hxl hbel3 hownd3 hg2s hvm b4 hml hm18 hg4 hg4'
      generalize m.getD 16 0 = M6 at *
      generalize m.getD 17 0 = M7 at *
      go_upto_region 24 with fail
      go_cut [115] from 101 to 116 (fun s wx => s = .bool (decide (1361129467683753853853498429727072845824 ≤ valD d + 5)) ∧ wx = w4)
      case first =>
        by_cases h4 : 4 ≤ M6
        · go_wp2
          go_meet
          exact ⟨by rw [decide_eq_true (hreach.1 (Or.inl h4))], rfl⟩
        · by_cases h7 : 0 < M7
          · go_wp2
            go_meet
            exact ⟨by rw [decide_eq_true (hreach.1 (Or.inr h7))], rfl⟩
          · go_wp2
            go_meet
            exact ⟨by rw [decide_eq_false (fun h => by have := hreach.2 h; omega)], rfl⟩
      case rest =>
        obtain ⟨rfl, rfl⟩ := hcut
        clear hreach m16 m17
        go_upto_if 115 with fail
        go_cut [6] from 101 to 116 (fun s wx => ∃ (g6 cap6 : Nat) (u : List Int), s = .slice (some ⟨g6, 0, none⟩) 18 cap6 ∧ u.length = 18 ∧ allD u ∧ ((valD u = valD d ∧ valD d + 5 < 1361129467683753853853498429727072845824) ∨ (valD u = valD d + 5 ∧ 1361129467683753853853498429727072845824 ≤ valD d + 5)) ∧ OwnI wc w.heap.size (.slice (some ⟨g6, 0, none⟩) 18 cap6) u ∧ wx = wc)
        case first =>
          by_cases hr : 1361129467683753853853498429727072845824 ≤ valD d + 5
          · rw [decide_eq_true hr]
            go_wp2
            go_meet
            exact ⟨g4, cap4, m, rfl, hml18, hallm, Or.inr ⟨hvm5, hr⟩, hown4, rfl⟩
          · rw [decide_eq_false hr]
            go_wp2
            go_meet
            exact ⟨g, cap, d, rfl, hdl, hall, Or.inl ⟨rfl, by omega⟩, hownd4, rfl⟩
        case rest =>
          obtain ⟨g6, cap6, u, rfl, hul, hallu, hur, hownu, rfl⟩ := hcut
          obtain ⟨hk1', hk2', hk3', hk4'⟩ := keyHalf key hk
          have HLT : Hid (put16S (valD u + leV (key.data.toList.drop 16)) = tagS key b) := by
            show _ = _
            rw [HTG.out]
            exact last_tag (valD d) (valD u) _ _ hd0 hv130 hvr hur
          have hur2 : valD u < 2722258935367507707706996859454145691648 ∧ 0 ≤ valD u := by
            rcases hur with h | h <;> omega
          have hgu : w.heap.size ≤ g6 := by
            obtain ⟨_, _, hf, hle, _⟩ := hownu.form (by omega)
            simp only [Value.slice.injEq, Option.some.injEq, Addr.mk.injEq, and_true] at hf
            omega
          clear hownd4 hown4 hvm5 hallm hml18 hur hvr hv130 hall hdl HTG
          generalize hkh : (intsOf key).drop 16 = kp at *
          have HKP : Hid ((intsOf key).drop 16 = kp) := hkh
          clear hkh
          rw [hk1'] at hk3' hk4'
          go_wp2_with fail
          go_loopw [14] (fun iv wr => ∃ (q : Nat) (l : List Int), q ≤ 16 ∧ iv = .int .i64 (q : Int) ∧ l.length = 18 ∧ (∀ j, 0 ≤ l.getD j 0 ∧ l.getD j 0 < 256 * ((q : Int) + 1)) ∧ valD l = valD u + valD (kp.take q) ∧ OwnI wr w.heap.size (.slice (some ⟨g6, 0, none⟩) 18 cap6) l ∧ Below w.heap.size w wr) (fun i _ => 16 - (intOf i).toNat)
          case atStart => exact ⟨0, u, Nat.zero_le _, rfl, hul, fun j => by have := allD_getD hallu j; omega, by simp [valD], hownu, hbel4⟩
          case round =>
            clear hownu hbel4
            obtain ⟨q, l, hq, rfl, hl, hlb, hlv, hown, hbel⟩ := hrel
            by_cases hql : q < 16
            · have hc := hown.cell hl.symm q (by omega)
              have hz := hown.frozen hl.symm q
              have hlq := hlb q
              have hka := keyHalf_at key hk q hql
              rw [HKP.out] at hka
              have hkb : (key[16 + q].toNat : Int) < 256 := by have := key[16 + q].toNat_lt; omega
              have HN : Hid (OwnI (wr.setCell ⟨g6, q, none⟩ (.int .i64 (l.getD q 0 + kp.getD q 0))) w.heap.size (.slice (some ⟨g6, 0, none⟩) 18 cap6) (l.set q (l.getD q 0 + kp.getD q 0))) := hown.store hl.symm q _
              have HV : Hid (valD (l.set q (l.getD q 0 + kp.getD q 0)) = valD u + valD (kp.take (q + 1))) := take_next l kp q (by omega) (by omega) _ hlv
              have HB : Hid (∀ j, 0 ≤ (l.set q (l.getD q 0 + kp.getD q 0)).getD j 0 ∧ (l.set q (l.getD q 0 + kp.getD q 0)).getD j 0 < 256 * (((q + 1 : Nat) : Int) + 1)) := fun j => getD_set l q j _ _ (by omega) (fun i => ⟨(hlb i).1, by have := (hlb i).2; omega⟩) (by rw [hka]; omega)
              have HL : Hid ((l.set q (l.getD q 0 + kp.getD q 0)).length = 18) := by show _ = _; rw [List.length_set, hl]
              have y0 := hlq.1
              have y1 : l.getD q 0 < 1099511627776 := by omega
              have hq16 : (q : Int) < 16 := by omega
              have hq18 : (q : Int) < 18 := by omega
              have ht6 : (16 + (q : Int)).toNat = 16 + q := by omega
              have ht7 : 16 + (q : Int) < 32 := by omega
              have ht8 : 0 ≤ 16 + (q : Int) := by omega
              have hqk : 16 + q < key.size := by omega
              rw [hka] at HN HV HB HL
              clear hlq hlb hlv hown hka
              generalize l.set q (l.getD q 0 + (key[16 + q].toNat : Int)) = l' at *
              generalize l.getD q 0 = Y at *
              go_wp2_with fail
              go_region
              go_wp2
              go_roundw
              case rel => exact ⟨q + 1, l', by omega, by go_num, HL.out, HB.out, HV.out, HN.out, (hbel.setCell (by show w.heap.size ≤ g6; exact hgu) _).drew⟩
              case measure => simp [intOf]; omega
            · obtain rfl : q = 16 := by omega
              rw [List.take_of_length_le (by omega), hk1'] at hlv
              have hcl : ∀ j, j < 18 → wr.cell? ⟨g6, j, none⟩ = some (.int .i64 (l.getD j 0)) := fun j hj => hown.cell hl.symm j (by omega)
              have hlb2 : ∀ j, 0 ≤ l.getD j 0 ∧ l.getD j 0 < 1099511627776 := fun j => ⟨(hlb j).1, by have := (hlb j).2; omega⟩
              have hgw6 : g6 < wr.heap.size := by
                obtain ⟨_, _, hf, _, hlt⟩ := hown.form (by omega)
                simp only [Value.slice.injEq, Option.some.injEq, Addr.mk.injEq, and_true] at hf
                omega
              have hd16 : decide (((16 : Nat) : Int) < 16) = false := by decide
              go_wp2_with fail
              refine (ref_carry l (some ⟨g6, 0, none⟩) g6 18 cap6 wr hl (Or.inr rfl) (Or.inl hgw6) hcl hlb2 (by decide) 18 (by rw [hlv, show (256 : Int) ^ 18 = 22300745198530623141535718272648361505980416 from by decide]; omega) (by decide)).mono ?_
              rintro e w7 ⟨⟨d7, v7, hall7, hv7, hd18, hdl7, hown7, rfl⟩, b7⟩
              have hl7 : d7.length = 18 := by simp at hdl7; omega
              obtain ⟨g7, cap7, rfl, hg7, hg7'⟩ := hown7.form (by omega)
              rw [hl7] at hown7 ⊢
              have hbel7 : Below w.heap.size w w7 := hbel.trans (b7.mono hbel.size)
              have hc7 : ∀ j, j < 18 → w7.cell? ⟨g7, j, none⟩ = some (.int .i64 (d7.getD j 0)) := fun j hj => hown7.cell hl7.symm j (by omega)
              have HV7 : Hid (put16S (valD d7) = tagS key b) := by
                show _ = _
                rw [hv7, hlv]
                exact HLT.out
              have HS7 : Hid (w.heap.size ≤ w7.heap.size) := hbel7.size
              clear hcl hlb2 hlb hlv hv7 hdl7 hd18 hown hbel b7 hown7 hd16 HLT hg7
              go_wp2_with (first | (at_make; refine wpList_make_full _ rfl _ _ 51 rfl w7.heap.size 5 i8 (.int .u8 0) 1 Tryz.underlying51 hi8 hy0 hy1 .i64 .i64 16 16 16 rfl rfl rfl rfl (by rw [hy2]; omega) (by unfold maxLen; omega) (Nat.le_refl _) ?_))
              intro w8 hown8 hgrow8
              rw [made8] at hown8
              have b8 : Below w7.heap.size w7 w8 := (Below.refl _ w7).grown hgrow8 (Nat.le_refl _) (by intro k hk; cases hk)
              have hc8 : ∀ j, j < 18 → w8.cell? ⟨g7, j, none⟩ = some (.int .i64 (d7.getD j 0)) := fun j hj => (b8.cell (p := ⟨g7, j, none⟩) hg7').trans (hc7 j hj)
              have hbel8 : Below w.heap.size w w8 := hbel7.trans (b8.mono hbel7.size)
              clear hgrow8 b8 hc7 hbel7
              generalize hB : w7.heap.size = B at *
              clear hB
              have hgB7 : g7 ≠ B := by omega
              go_wp2_with fail
              go_loopw [16] (fun iv wr => ∃ (q : Nat) (o : List UInt8), q ≤ 16 ∧ iv = .int .i64 (q : Int) ∧ o.length = 16 ∧ (∀ j, j < q → o[j]? = some (byteOf (valD d7) j)) ∧ wr.ownsRow B 5 1 (.slice (some ⟨B, 0, none⟩) 16 16) 16 (cells8 o) ∧ (∀ j, j < 18 → wr.cell? ⟨g7, j, none⟩ = some (.int .i64 (d7.getD j 0))) ∧ Below w.heap.size w wr) (fun i _ => 16 - (intOf i).toNat)
              case atStart => exact ⟨0, List.replicate 16 0, Nat.zero_le _, rfl, by simp, by intro j hj; omega, hown8, hc8, hbel8⟩
              case round =>
                clear hown8 hc8 hbel8
                obtain ⟨q, o, hq, rfl, hol, hob, hown, hc7, hbel⟩ := hrel
                by_cases hql : q < 16
                · have hcell := hown.cellAt q (by omega)
                  have hfz := hown.frozenAt q
                  rw [cells8_at o q (by omega)] at hcell
                  have hca := hc7 q (by omega)
                  have hby := digit_byte d7 hall7 q (by omega)
                  have hdb := allD_getD hall7 q
                  have x0 := hdb.1
                  have x1 := hdb.2
                  have hq16 : (q : Int) < 16 := by omega
                  have hq18 : (q : Int) < 18 := by omega
                  have hs := own_store hown (Below.refl B wr) (Nat.le_refl _) q (byteOf (valD d7) q)
                  have HS : Hid ((wr.setCell ⟨B, q, none⟩ (.int .u8 ((byteOf (valD d7) q).toNat : Int))).ownsRow B 5 1 (.slice (some ⟨B, 0, none⟩) 16 16) 16 (cells8 (o.set q (byteOf (valD d7) q)))) := hs.1
                  have HC : Hid (∀ j, j < 18 → (wr.setCell ⟨B, q, none⟩ (.int .u8 ((byteOf (valD d7) q).toNat : Int))).cell? ⟨g7, j, none⟩ = some (.int .i64 (d7.getD j 0))) := fun j hj => (World.cell?_setCell_other _ _ _ _ (fun e => by injection e with e1; omega)).trans (hc7 j hj)
                  have HO : Hid (∀ j, j < q + 1 → (o.set q (byteOf (valD d7) q))[j]? = some (byteOf (valD d7) j)) := set_fore hol hob hql
                  rw [hby] at HS HC
                  clear hs hdb hc7 hown hby hob
                  generalize d7.getD q 0 = X at *
                  go_wp2
                  go_roundw
                  case rel => exact ⟨q + 1, o.set q (byteOf (valD d7) q), by omega, by go_num, by rw [List.length_set, hol], HO.out, HS.out, HC.out, hbel.setCell (by show w.heap.size ≤ B; exact HS7.out) _⟩
                  case measure => simp [intOf]; omega
                · obtain rfl : q = 16 := by omega
                  have hconv := own_string hown
                  have HF : Hid (tagS key b = str o) := by
                    show _ = _
                    rw [← HV7.out]
                    unfold put16S put16
                    rw [list_eq_map hol hob]
                  go_wp2
                  go_ret
                  exact ⟨ret_str HF.out.symm, hbel⟩

end Go.Proofs.YtanghehmfagmfaaGreatDoor
