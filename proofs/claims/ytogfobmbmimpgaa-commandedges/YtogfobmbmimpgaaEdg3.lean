/-
  CommandEdges, the operation is 13.
-/
import Derived.Test.YtogfobmbmimpgaaEdg1
namespace Go.Proofs.Ytogfobmbmimpgaa
open Go.RowKit
set_option linter.unusedVariables false
set_option maxRecDepth 100000
set_option linter.unusedSimpArgs false

set_option maxHeartbeats 8000000 in
theorem edges_stats (a0 : Int) (w : World) (hc : 1 + (a0.tmod 13 + 13).tmod 13 = 13) : Calls Try.prog 7 #[.int .i64 a0] w fun e w' => e = .returned (.bool true) ∧ Below w.heap.size w w' := by
  obtain ⟨r, hr⟩ : ∃ r, a0.tmod 13 = r := ⟨_, rfl⟩
  have hr1 : -13 < r := by rw [← hr]; exact Int.lt_tmod_of_pos a0 (by decide)
  have hr2 : r < 13 := by rw [← hr]; exact Int.tmod_lt_of_pos a0 (by decide)
  obtain ⟨q, hq⟩ : ∃ q, (r + 13).tmod 13 = q := ⟨_, rfl⟩
  have hq1 : 0 ≤ q := by rw [← hq]; exact Int.tmod_nonneg 13 (by omega)
  have hq2 : q < 13 := by rw [← hq]; exact Int.tmod_lt_of_pos _ (by decide)
  have hM60 : ∀ w, (Instr.makeSlice 35 (.int .i64 60) (.int .i64 60)).run Try.prog w = .ok (.slice (some ⟨w.heap.size, 0, none⟩) 60 60) (w.alloc (zeroRow 60)) := make8 60 (by decide)
  rw [hr, hq] at hc
  obtain rfl : q = 12 := by omega
  go_enter Try.func7, Try.ntmps7
  go_wp2_with fail
  have hop : IsOp 13 := by decide
  clear hr hr1 hr2 hq hq1 hq2 hc
  with_reducible refine (alive10 _).mono ?_
  rintro e w1 ⟨rfl, b1⟩
  have hkey : keyOk 13 (⟨#[]⟩ : ByteArray).size ∧ (⟨#[]⟩ : ByteArray).size ≤ 60 := by decide
  obtain ⟨iC, hiC, hzC, hsC, _⟩ := info_parts infoC
  have Pa : Hid (∀ w, Calls Try.prog 14 #[.agg #[.int .i64 13, .string ⟨#[]⟩, .string ⟨#[]⟩, .int .i64 1000000000000, .int .i64 0]] w fun e w5 => e = .returned (.bool true) ∧ Below w.heap.size w w5) := fun w => by
    have h := command_right ⟨13, ⟨#[]⟩, ⟨#[]⟩, 1000000000000, 0⟩ w (by show (⟨#[]⟩ : ByteArray).size ≤ maxLen; decide)
    rw [right_yes hop hkey (by decide) (by decide)] at h
    exact h
  have Pb : Hid (∀ w, Calls Try.prog 14 #[.agg #[.int .i64 13, .string ⟨#[]⟩, .string ⟨#[]⟩, .int .i64 1000000000001, .int .i64 0]] w fun e w5 => e = .returned (.bool false) ∧ Below w.heap.size w w5) := fun w => by
    have h := command_right ⟨13, ⟨#[]⟩, ⟨#[]⟩, 1000000000001, 0⟩ w (by show (⟨#[]⟩ : ByteArray).size ≤ maxLen; decide)
    rw [right_num (by decide)] at h
    exact h
  have Pd : Hid (∀ w, Calls Try.prog 14 #[.agg #[.int .i64 13, .string ⟨#[]⟩, .string ⟨#[]⟩, .int .i64 0, .int .i64 1000000000000]] w fun e w5 => e = .returned (.bool true) ∧ Below w.heap.size w w5) := fun w => by
    have h := command_right ⟨13, ⟨#[]⟩, ⟨#[]⟩, 0, 1000000000000⟩ w (by show (⟨#[]⟩ : ByteArray).size ≤ maxLen; decide)
    rw [right_yes hop hkey (by decide) (by decide)] at h
    exact h
  have Pe : Hid (∀ w, Calls Try.prog 14 #[.agg #[.int .i64 13, .string ⟨#[]⟩, .string ⟨#[]⟩, .int .i64 0, .int .i64 (-1)]] w fun e w5 => e = .returned (.bool false) ∧ Below w.heap.size w w5) := fun w => by
    have h := command_right ⟨13, ⟨#[]⟩, ⟨#[]⟩, 0, (-1)⟩ w (by show (⟨#[]⟩ : ByteArray).size ≤ maxLen; decide)
    rw [right_num (by decide)] at h
    exact h
  have Pf : Hid (∀ w, Calls Try.prog 14 #[.agg #[.int .i64 13, .string ⟨#[]⟩, .string (zeros 500), .int .i64 0, .int .i64 0]] w fun e w5 => e = .returned (.bool true) ∧ Below w.heap.size w w5) := fun w => by
    have h := command_right ⟨13, ⟨#[]⟩, (zeros 500), 0, 0⟩ w (by show (⟨#[]⟩ : ByteArray).size ≤ maxLen; decide)
    rw [right_yes hop hkey (by rw [zeros_size]; decide) (by decide)] at h
    exact h
  have Pg : Hid (∀ w, Calls Try.prog 14 #[.agg #[.int .i64 13, .string ⟨#[]⟩, .string (zeros 501), .int .i64 0, .int .i64 0]] w fun e w5 => e = .returned (.bool false) ∧ Below w.heap.size w w5) := fun w => by
    have h := command_right ⟨13, ⟨#[]⟩, (zeros 501), 0, 0⟩ w (by show (⟨#[]⟩ : ByteArray).size ≤ maxLen; decide)
    rw [right_val (by rw [zeros_size]; decide)] at h
    exact h
  have Px : Hid (∀ w, Calls Try.prog 14 #[.agg #[.int .i64 13, .string ⟨#[107]⟩, .string ⟨#[]⟩, .int .i64 0, .int .i64 0]] w fun e w5 => e = .returned (.bool false) ∧ Below w.heap.size w w5) := fun w => by
    have h := command_right ⟨13, ⟨#[107]⟩, ⟨#[]⟩, 0, 0⟩ w (by show (⟨#[107]⟩ : ByteArray).size ≤ maxLen; decide)
    rw [right_key (by decide)] at h
    exact h
  have hcv : (convert 35 9 (.slice (some ⟨w1.heap.size + 1, 0, none⟩) 60 60)).run Try.prog ((w1.alloc (.cells #[.int .i64 13, .string ⟨#[]⟩, .string ⟨#[]⟩, .int .i64 0, .int .i64 0] 23)).alloc (zeroRow 60)) = .ok (.string (zeros 60)) ((w1.alloc (.cells #[.int .i64 13, .string ⟨#[]⟩, .string ⟨#[]⟩, .int .i64 0, .int .i64 0] 23)).alloc (zeroRow 60)) := conv8 60 _ _ (by decide) (by have h := heap_alloc_new (w1.alloc (.cells #[.int .i64 13, .string ⟨#[]⟩, .string ⟨#[]⟩, .int .i64 0, .int .i64 0] 23)) (zeroRow 60); simpa using h)
  have rc : RowIs ((w1.alloc (.cells #[.int .i64 13, .string ⟨#[]⟩, .string ⟨#[]⟩, .int .i64 0, .int .i64 0] 23)).alloc (zeroRow 60)) w1.heap.size 23 [.int .i64 13, .string ⟨#[]⟩, .string ⟨#[]⟩, .int .i64 0, .int .i64 0] := (RowIs.new w1 23 [.int .i64 13, .string ⟨#[]⟩, .string ⟨#[]⟩, .int .i64 0, .int .i64 0]).alloc _
  have B : Below w.heap.size w ((w1.alloc (.cells #[.int .i64 13, .string ⟨#[]⟩, .string ⟨#[]⟩, .int .i64 0, .int .i64 0] 23)).alloc (zeroRow 60)) := (b1.alloc b1.size _).alloc (by have := b1.size; simp; omega) _
  have hwz := b1.size
  go_wp2_with fail
  clear hcv hM60
  generalize (w1.alloc (.cells #[.int .i64 13, .string ⟨#[]⟩, .string ⟨#[]⟩, .int .i64 0, .int .i64 0] 23)).alloc (zeroRow 60) = w2 at *
  refine six_put (m := 101) (zs := [.int .i64 0, .string ⟨#[]⟩, .string ⟨#[]⟩, .int .i64 0, .int .i64 0]) (by kernel_rfl) (by kernel_rfl) (by kernel_rfl) (by kernel_rfl) rfl (by decide) rfl rc Try.underlying23 rfl hiC hzC rfl hsC rfl (cRow_one _ _ _ _ _) ?_
  intro w3 G b3 hG hap
  have hcl := rc.lt
  replace rc := rc.below b3 hcl
  replace B := bel_chain8 B b3
  obtain ⟨ha, ra⟩ := hG 0 (by decide)
  obtain ⟨hb, rb⟩ := hG 1 (by decide)
  obtain ⟨hd, rd⟩ := hG 2 (by decide)
  obtain ⟨he, re⟩ := hG 3 (by decide)
  obtain ⟨hf, rf⟩ := hG 4 (by decide)
  obtain ⟨hg, rg⟩ := hG 5 (by decide)
  have qab := hap 0 1 (by decide) (by decide) (by decide)
  have qad := hap 0 2 (by decide) (by decide) (by decide)
  have qae := hap 0 3 (by decide) (by decide) (by decide)
  have qaf := hap 0 4 (by decide) (by decide) (by decide)
  have qag := hap 0 5 (by decide) (by decide) (by decide)
  have qbd := hap 1 2 (by decide) (by decide) (by decide)
  have qbe := hap 1 3 (by decide) (by decide) (by decide)
  have qbf := hap 1 4 (by decide) (by decide) (by decide)
  have qbg := hap 1 5 (by decide) (by decide) (by decide)
  have qde := hap 2 3 (by decide) (by decide) (by decide)
  have qdf := hap 2 4 (by decide) (by decide) (by decide)
  have qdg := hap 2 5 (by decide) (by decide) (by decide)
  have qef := hap 3 4 (by decide) (by decide) (by decide)
  have qeg := hap 3 5 (by decide) (by decide) (by decide)
  have qfg := hap 4 5 (by decide) (by decide) (by decide)
  clear hG hap hiC hzC hsC b3
  simp only [sixPut]
  generalize G 0 = ga at *
  generalize G 1 = gb at *
  generalize G 2 = gd at *
  generalize G 3 = ge at *
  generalize G 4 = gf at *
  generalize G 5 = gg at *
  simp only [Act.put, List.setIfInBounds_toArray, List.set]
  rename_i K1 hK1
  refine hK1 _ _ ?_
  have ca : w3.cell? ⟨ga, 3, none⟩ = some (.int .i64 0) := ra.cellAt rfl
  have cb : w3.cell? ⟨gb, 3, none⟩ = some (.int .i64 0) := rb.cellAt rfl
  have cd : w3.cell? ⟨gd, 4, none⟩ = some (.int .i64 0) := rd.cellAt rfl
  have ce : w3.cell? ⟨ge, 4, none⟩ = some (.int .i64 0) := re.cellAt rfl
  have fa : w3.frozen? ⟨ga, 3, none⟩ = false := ra.frozen 3
  have fb : w3.frozen? ⟨gb, 3, none⟩ = false := rb.frozen 3
  have fd : w3.frozen? ⟨gd, 4, none⟩ = false := rd.frozen 4
  have fe : w3.frozen? ⟨ge, 4, none⟩ = false := re.frozen 4
  have pba : ¬ gb = ga := fun h => qab h.symm
  have pda : ¬ gd = ga := fun h => qad h.symm
  have pea : ¬ ge = ga := fun h => qae h.symm
  have pdb : ¬ gd = gb := fun h => qbd h.symm
  have peb : ¬ ge = gb := fun h => qbe h.symm
  have ped : ¬ ge = gd := fun h => qde h.symm
  go_wp2_with fail
  clear ca cb cd ce fa fb fd fe
  have Ra : RowIs (((((w3).setCell ⟨ga, 3, none⟩ (.int .i64 1000000000000)).setCell ⟨gb, 3, none⟩ (.int .i64 1000000000001)).setCell ⟨gd, 4, none⟩ (.int .i64 1000000000000)).setCell ⟨ge, 4, none⟩ (.int .i64 (-1))) ga 23 [.int .i64 13, .string ⟨#[]⟩, .string ⟨#[]⟩, .int .i64 1000000000000, .int .i64 0] := (RowIs.setOther (a := ⟨ge, 4, none⟩) (RowIs.setOther (a := ⟨gd, 4, none⟩) (RowIs.setOther (a := ⟨gb, 3, none⟩) (RowIs.set ra 3 (.int .i64 1000000000000)) (show ga ≠ gb from qab) (.int .i64 1000000000001)) (show ga ≠ gd from qad) (.int .i64 1000000000000)) (show ga ≠ ge from qae) (.int .i64 (-1)))
  have Rb : RowIs (((((w3).setCell ⟨ga, 3, none⟩ (.int .i64 1000000000000)).setCell ⟨gb, 3, none⟩ (.int .i64 1000000000001)).setCell ⟨gd, 4, none⟩ (.int .i64 1000000000000)).setCell ⟨ge, 4, none⟩ (.int .i64 (-1))) gb 23 [.int .i64 13, .string ⟨#[]⟩, .string ⟨#[]⟩, .int .i64 1000000000001, .int .i64 0] := (RowIs.setOther (a := ⟨ge, 4, none⟩) (RowIs.setOther (a := ⟨gd, 4, none⟩) (RowIs.set (RowIs.setOther (a := ⟨ga, 3, none⟩) rb (show gb ≠ ga from (fun h => qab h.symm)) (.int .i64 1000000000000)) 3 (.int .i64 1000000000001)) (show gb ≠ gd from qbd) (.int .i64 1000000000000)) (show gb ≠ ge from qbe) (.int .i64 (-1)))
  have Rd : RowIs (((((w3).setCell ⟨ga, 3, none⟩ (.int .i64 1000000000000)).setCell ⟨gb, 3, none⟩ (.int .i64 1000000000001)).setCell ⟨gd, 4, none⟩ (.int .i64 1000000000000)).setCell ⟨ge, 4, none⟩ (.int .i64 (-1))) gd 23 [.int .i64 13, .string ⟨#[]⟩, .string ⟨#[]⟩, .int .i64 0, .int .i64 1000000000000] := (RowIs.setOther (a := ⟨ge, 4, none⟩) (RowIs.set (RowIs.setOther (a := ⟨gb, 3, none⟩) (RowIs.setOther (a := ⟨ga, 3, none⟩) rd (show gd ≠ ga from (fun h => qad h.symm)) (.int .i64 1000000000000)) (show gd ≠ gb from (fun h => qbd h.symm)) (.int .i64 1000000000001)) 4 (.int .i64 1000000000000)) (show gd ≠ ge from qde) (.int .i64 (-1)))
  have Re : RowIs (((((w3).setCell ⟨ga, 3, none⟩ (.int .i64 1000000000000)).setCell ⟨gb, 3, none⟩ (.int .i64 1000000000001)).setCell ⟨gd, 4, none⟩ (.int .i64 1000000000000)).setCell ⟨ge, 4, none⟩ (.int .i64 (-1))) ge 23 [.int .i64 13, .string ⟨#[]⟩, .string ⟨#[]⟩, .int .i64 0, .int .i64 (-1)] := (RowIs.set (RowIs.setOther (a := ⟨gd, 4, none⟩) (RowIs.setOther (a := ⟨gb, 3, none⟩) (RowIs.setOther (a := ⟨ga, 3, none⟩) re (show ge ≠ ga from (fun h => qae h.symm)) (.int .i64 1000000000000)) (show ge ≠ gb from (fun h => qbe h.symm)) (.int .i64 1000000000001)) (show ge ≠ gd from (fun h => qde h.symm)) (.int .i64 1000000000000)) 4 (.int .i64 (-1)))
  have Rf : RowIs (((((w3).setCell ⟨ga, 3, none⟩ (.int .i64 1000000000000)).setCell ⟨gb, 3, none⟩ (.int .i64 1000000000001)).setCell ⟨gd, 4, none⟩ (.int .i64 1000000000000)).setCell ⟨ge, 4, none⟩ (.int .i64 (-1))) gf 23 [.int .i64 13, .string ⟨#[]⟩, .string ⟨#[]⟩, .int .i64 0, .int .i64 0] := (RowIs.setOther (a := ⟨ge, 4, none⟩) (RowIs.setOther (a := ⟨gd, 4, none⟩) (RowIs.setOther (a := ⟨gb, 3, none⟩) (RowIs.setOther (a := ⟨ga, 3, none⟩) rf (show gf ≠ ga from (fun h => qaf h.symm)) (.int .i64 1000000000000)) (show gf ≠ gb from (fun h => qbf h.symm)) (.int .i64 1000000000001)) (show gf ≠ gd from (fun h => qdf h.symm)) (.int .i64 1000000000000)) (show gf ≠ ge from (fun h => qef h.symm)) (.int .i64 (-1)))
  have Rg : RowIs (((((w3).setCell ⟨ga, 3, none⟩ (.int .i64 1000000000000)).setCell ⟨gb, 3, none⟩ (.int .i64 1000000000001)).setCell ⟨gd, 4, none⟩ (.int .i64 1000000000000)).setCell ⟨ge, 4, none⟩ (.int .i64 (-1))) gg 23 [.int .i64 13, .string ⟨#[]⟩, .string ⟨#[]⟩, .int .i64 0, .int .i64 0] := (RowIs.setOther (a := ⟨ge, 4, none⟩) (RowIs.setOther (a := ⟨gd, 4, none⟩) (RowIs.setOther (a := ⟨gb, 3, none⟩) (RowIs.setOther (a := ⟨ga, 3, none⟩) rg (show gg ≠ ga from (fun h => qag h.symm)) (.int .i64 1000000000000)) (show gg ≠ gb from (fun h => qbg h.symm)) (.int .i64 1000000000001)) (show gg ≠ gd from (fun h => qdg h.symm)) (.int .i64 1000000000000)) (show gg ≠ ge from (fun h => qeg h.symm)) (.int .i64 (-1)))
  have Rc : RowIs (((((w3).setCell ⟨ga, 3, none⟩ (.int .i64 1000000000000)).setCell ⟨gb, 3, none⟩ (.int .i64 1000000000001)).setCell ⟨gd, 4, none⟩ (.int .i64 1000000000000)).setCell ⟨ge, 4, none⟩ (.int .i64 (-1))) w1.heap.size 23 [.int .i64 13, .string ⟨#[]⟩, .string ⟨#[]⟩, .int .i64 0, .int .i64 0] := (RowIs.setOther (a := ⟨ge, 4, none⟩) (RowIs.setOther (a := ⟨gd, 4, none⟩) (RowIs.setOther (a := ⟨gb, 3, none⟩) (RowIs.setOther (a := ⟨ga, 3, none⟩) rc (show w1.heap.size ≠ ga by omega) (.int .i64 1000000000000)) (show w1.heap.size ≠ gb by omega) (.int .i64 1000000000001)) (show w1.heap.size ≠ gd by omega) (.int .i64 1000000000000)) (show w1.heap.size ≠ ge by omega) (.int .i64 (-1)))
  have B4 : Below w.heap.size w (((((w3).setCell ⟨ga, 3, none⟩ (.int .i64 1000000000000)).setCell ⟨gb, 3, none⟩ (.int .i64 1000000000001)).setCell ⟨gd, 4, none⟩ (.int .i64 1000000000000)).setCell ⟨ge, 4, none⟩ (.int .i64 (-1))) := (Below.setCell (Below.setCell (Below.setCell (Below.setCell B (show w.heap.size ≤ ga by omega) (.int .i64 1000000000000)) (show w.heap.size ≤ gb by omega) (.int .i64 1000000000001)) (show w.heap.size ≤ gd by omega) (.int .i64 1000000000000)) (show w.heap.size ≤ ge by omega) (.int .i64 (-1)))
  have hz4 : (((((w3).setCell ⟨ga, 3, none⟩ (.int .i64 1000000000000)).setCell ⟨gb, 3, none⟩ (.int .i64 1000000000001)).setCell ⟨gd, 4, none⟩ (.int .i64 1000000000000)).setCell ⟨ge, 4, none⟩ (.int .i64 (-1))).heap.size = w3.heap.size := by simp [World.setCell]
  have hB3 := B.size
  clear ra rb rd re rf rg rc B
  generalize ((((w3).setCell ⟨ga, 3, none⟩ (.int .i64 1000000000000)).setCell ⟨gb, 3, none⟩ (.int .i64 1000000000001)).setCell ⟨gd, 4, none⟩ (.int .i64 1000000000000)).setCell ⟨ge, 4, none⟩ (.int .i64 (-1)) = w4 at *
  refine two_region (m := 101) (op := 13) (k := ⟨#[]⟩) (by kernel_rfl) (by kernel_rfl) (by kernel_rfl) rfl (by decide) rfl rfl qfg Rf Rg ?_
  intro w5 v1 v2 t5 rf rg
  have ra := row_touch Ra t5 (fun h => h.elim qaf qag)
  have rb := row_touch Rb t5 (fun h => h.elim qbf qbg)
  have rd := row_touch Rd t5 (fun h => h.elim qdf qdg)
  have re := row_touch Re t5 (fun h => h.elim qef qeg)
  have rc := row_touch Rc t5 (fun h => h.elim (by omega) (by omega))
  have B := B4.trans (t5.below (B := w.heap.size) (fun j h => h.elim (by omega) (by omega)) (by omega))
  clear Ra Rb Rd Re Rf Rg Rc B4 t5
  simp only [Act.put, List.setIfInBounds_toArray, List.set]
  rename_i K2 hK2
  refine hK2 _ _ ?_
  have k0 : w5.cell? ⟨ga, 0, none⟩ = some (.int .i64 13) := ra.cellAt rfl
  have k1 : w5.cell? ⟨ga, 1, none⟩ = some (.string ⟨#[]⟩) := ra.cellAt rfl
  have k2 : w5.cell? ⟨ga, 2, none⟩ = some (.string ⟨#[]⟩) := ra.cellAt rfl
  have k3 : w5.cell? ⟨ga, 3, none⟩ = some (.int .i64 1000000000000) := ra.cellAt rfl
  have k4 : w5.cell? ⟨ga, 4, none⟩ = some (.int .i64 0) := ra.cellAt rfl
  go_wp2_with fail
  with_reducible refine (Pa.out _).mono ?_
  rintro e w6 ⟨rfl, bb⟩
  replace rb := rb.below bb rb.lt
  replace rd := rd.below bb rd.lt
  replace re := re.below bb re.lt
  replace rf := rf.below bb rf.lt
  replace rg := rg.below bb rg.lt
  replace rc := rc.below bb rc.lt
  replace B := bel_chain8 B bb
  clear bb k0 k1 k2 k3 k4 ra
  have k0 : w6.cell? ⟨gb, 0, none⟩ = some (.int .i64 13) := rb.cellAt rfl
  have k1 : w6.cell? ⟨gb, 1, none⟩ = some (.string ⟨#[]⟩) := rb.cellAt rfl
  have k2 : w6.cell? ⟨gb, 2, none⟩ = some (.string ⟨#[]⟩) := rb.cellAt rfl
  have k3 : w6.cell? ⟨gb, 3, none⟩ = some (.int .i64 1000000000001) := rb.cellAt rfl
  have k4 : w6.cell? ⟨gb, 4, none⟩ = some (.int .i64 0) := rb.cellAt rfl
  go_wp2_with fail
  with_reducible refine (Pb.out _).mono ?_
  rintro e w7 ⟨rfl, bb⟩
  replace rd := rd.below bb rd.lt
  replace re := re.below bb re.lt
  replace rf := rf.below bb rf.lt
  replace rg := rg.below bb rg.lt
  replace rc := rc.below bb rc.lt
  replace B := bel_chain8 B bb
  clear bb k0 k1 k2 k3 k4 rb
  have k0 : w7.cell? ⟨gd, 0, none⟩ = some (.int .i64 13) := rd.cellAt rfl
  have k1 : w7.cell? ⟨gd, 1, none⟩ = some (.string ⟨#[]⟩) := rd.cellAt rfl
  have k2 : w7.cell? ⟨gd, 2, none⟩ = some (.string ⟨#[]⟩) := rd.cellAt rfl
  have k3 : w7.cell? ⟨gd, 3, none⟩ = some (.int .i64 0) := rd.cellAt rfl
  have k4 : w7.cell? ⟨gd, 4, none⟩ = some (.int .i64 1000000000000) := rd.cellAt rfl
  go_wp2_with fail
  with_reducible refine (Pd.out _).mono ?_
  rintro e w8 ⟨rfl, bb⟩
  replace re := re.below bb re.lt
  replace rf := rf.below bb rf.lt
  replace rg := rg.below bb rg.lt
  replace rc := rc.below bb rc.lt
  replace B := bel_chain8 B bb
  clear bb k0 k1 k2 k3 k4 rd
  have k0 : w8.cell? ⟨ge, 0, none⟩ = some (.int .i64 13) := re.cellAt rfl
  have k1 : w8.cell? ⟨ge, 1, none⟩ = some (.string ⟨#[]⟩) := re.cellAt rfl
  have k2 : w8.cell? ⟨ge, 2, none⟩ = some (.string ⟨#[]⟩) := re.cellAt rfl
  have k3 : w8.cell? ⟨ge, 3, none⟩ = some (.int .i64 0) := re.cellAt rfl
  have k4 : w8.cell? ⟨ge, 4, none⟩ = some (.int .i64 (-1)) := re.cellAt rfl
  go_wp2_with fail
  with_reducible refine (Pe.out _).mono ?_
  rintro e w9 ⟨rfl, bb⟩
  replace rf := rf.below bb rf.lt
  replace rg := rg.below bb rg.lt
  replace rc := rc.below bb rc.lt
  replace B := bel_chain8 B bb
  clear bb k0 k1 k2 k3 k4 re
  have k0 : w9.cell? ⟨gf, 0, none⟩ = some (.int .i64 13) := rf.cellAt rfl
  have k1 : w9.cell? ⟨gf, 1, none⟩ = some (.string ⟨#[]⟩) := rf.cellAt rfl
  have k2 : w9.cell? ⟨gf, 2, none⟩ = some (.string (zeros 500)) := rf.cellAt rfl
  have k3 : w9.cell? ⟨gf, 3, none⟩ = some (.int .i64 0) := rf.cellAt rfl
  have k4 : w9.cell? ⟨gf, 4, none⟩ = some (.int .i64 0) := rf.cellAt rfl
  go_wp2_with fail
  with_reducible refine (Pf.out _).mono ?_
  rintro e w10 ⟨rfl, bb⟩
  replace rg := rg.below bb rg.lt
  replace rc := rc.below bb rc.lt
  replace B := bel_chain8 B bb
  clear bb k0 k1 k2 k3 k4 rf
  have k0 : w10.cell? ⟨gg, 0, none⟩ = some (.int .i64 13) := rg.cellAt rfl
  have k1 : w10.cell? ⟨gg, 1, none⟩ = some (.string ⟨#[]⟩) := rg.cellAt rfl
  have k2 : w10.cell? ⟨gg, 2, none⟩ = some (.string (zeros 501)) := rg.cellAt rfl
  have k3 : w10.cell? ⟨gg, 3, none⟩ = some (.int .i64 0) := rg.cellAt rfl
  have k4 : w10.cell? ⟨gg, 4, none⟩ = some (.int .i64 0) := rg.cellAt rfl
  go_wp2_with fail
  with_reducible refine (Pg.out _).mono ?_
  rintro e w11 ⟨rfl, bb⟩
  replace rc := rc.below bb rc.lt
  replace B := bel_chain8 B bb
  clear bb k0 k1 k2 k3 k4 rg
  have k0 : w11.cell? ⟨w1.heap.size, 0, none⟩ = some (.int .i64 13) := rc.cellAt rfl
  have k1 : w11.cell? ⟨w1.heap.size, 1, none⟩ = some (.string ⟨#[]⟩) := rc.cellAt rfl
  have k2 : w11.cell? ⟨w1.heap.size, 2, none⟩ = some (.string ⟨#[]⟩) := rc.cellAt rfl
  have k3 : w11.cell? ⟨w1.heap.size, 3, none⟩ = some (.int .i64 0) := rc.cellAt rfl
  have k4 : w11.cell? ⟨w1.heap.size, 4, none⟩ = some (.int .i64 0) := rc.cellAt rfl
  have f1 : w11.frozen? ⟨w1.heap.size, 1, none⟩ = false := rc.frozen 1
  have e4 := str_beq_self ⟨#[]⟩
  have e5 := empty_list
  go_wp2_with fail
  with_reducible refine (Px.out _).mono ?_
  rintro e w20 ⟨rfl, bb⟩
  replace B := bel_chain8 (Below.setCell B (show w.heap.size ≤ w1.heap.size by omega) (.string ⟨#[107]⟩)) bb
  go_wp2
  go_ret
  exact ⟨rfl, B⟩

end Go.Proofs.Ytogfobmbmimpgaa
