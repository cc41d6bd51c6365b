/-
  The contract of package digest's compressed.
-/
import Derived.Test.YtlhlpcfjoccgcaaSha3
import Derived.Deep.RegionHeld3
import Derived.RegionTactic
namespace Go.Proofs.Ytlhlpcfjoccgcaa
open Go.RowKit
set_option linter.unusedVariables false
set_option maxRecDepth 100000

theorem len40 : Try.prog.arrayLen 88 = 8 := by kernel_rfl
theorem elem40 : Try.prog.elem 88 = 70 := by kernel_rfl

theorem mix_at (p o : List Int) (j : Nat) (hp : p.length = o.length) (hj : j < o.length) : (p.take j ++ o.drop j).getD j 0 = o.getD j 0 := by
  rw [List.getD_eq_getElem?_getD, List.getD_eq_getElem?_getD, List.getElem?_append_right (by simp; omega)]
  simp only [List.length_take, List.getElem?_drop]
  rw [show min j p.length = j from by omega]
  simp
theorem mix_set (p o : List Int) (j : Nat) (v : Int) (hp : p.length = o.length) (hj : j < o.length) (hv : p.getD j 0 = v) : (p.take j ++ o.drop j).set j v = p.take (j + 1) ++ o.drop (j + 1) := by
  have hpv : p[j]'(by omega) = v := by rw [← hv, List.getD_eq_getElem?_getD, List.getElem?_eq_getElem (by omega)]; rfl
  rw [List.set_append_right _ _ (by simp; omega), List.take_succ_eq_append_getElem (by omega), List.drop_eq_getElem_cons hj, hpv]
  simp only [List.length_take, List.append_assoc]
  rw [show j - min j p.length = 0 from by omega]
  rfl
theorem mix_len (p o : List Int) (j : Nat) (hp : p.length = o.length) (hj : j ≤ o.length) : (p.take j ++ o.drop j).length = o.length := by simp; omega
theorem run_index_arr {P : Program} {t e : TypeId} {n : Nat} {k : IntKind} (cs : Array Value) (i : Int) (j : Nat) (v : Value) (w : World) (hi : i = j) (hj : j < n) (hv : cs[j]? = some v) (ht : P.underlying t = some (.array n e)) (hu : P.underlying e = some (.int k)) (hs : (P.info? e).map (·.size) = some 1) :
    (Instr.index t (.agg cs) (.int .i64 i)).run P w = .ok v w := by
  subst hi
  have hagg : (isAgg e).run P w = .ok false w := by
    unfold isAgg
    rw [Sem.run_bind, run_underlying hu w]
    rfl
  have h0 : (0 : Int) ≤ (j : Int) ∧ (j : Int) < (n : Int) := by omega
  simp only [Instr.index, asIntOf, Sem.run_bind, Sem.run_pure, Result.andThen_ok, run_underlying ht w]
  rw [if_pos h0]
  simp only [Sem.run_bind, run_sizeOf hs, Result.andThen_ok, part, hagg, Int.toNat_natCast, Nat.mul_one, hv]
  rfl
theorem at8 (a b c d e f g hh : Int) (j : Nat) (hj : j < 8) (w : World) : (Instr.index 88 (.agg #[.int .u32 a, .int .u32 b, .int .u32 c, .int .u32 d, .int .u32 e, .int .u32 f, .int .u32 g, .int .u32 hh]) (.int .i64 (j : Int))).run Try.prog w = .ok (.int .u32 (([a, b, c, d, e, f, g, hh] : List Int).getD j 0)) w := by
  refine run_index_arr _ _ j _ w rfl hj ?_ Try.underlying88 Try.underlying70 cells30
  have := cells32_at [a, b, c, d, e, f, g, hh] j (by simpa using hj)
  simpa [cells32] using this

set_option maxRecDepth 100000 in
set_option maxHeartbeats 1000000 in
theorem dig_compressed (s : S8) (hs : s.ok) (bk ok bw ow : Nat) (ks ws : List Int) (w : World) (lk : ks.length = 64) (lw : ws.length = 64)
    (hk : w.rangeAt bk ok (cells32 ks)) (hw : w.rangeAt bw ow (cells32 ws)) (bk1 : bk < w.heap.size) (bw1 : bw < w.heap.size) :
    Calls Try.prog 71 #[.agg #[.int .u32 s.a, .int .u32 s.b, .int .u32 s.c, .int .u32 s.d, .int .u32 s.e, .int .u32 s.f, .int .u32 s.g, .int .u32 s.h], .pointer (some ⟨bk, ok, none⟩), .pointer (some ⟨bw, ow, none⟩)] w fun e w' => e = .returned (.agg (cells32 (s.plus (rnds ks ws 64 s)).list).toArray) ∧ Below w.heap.size w w' := by
  obtain ⟨xa, xb, xc, xd, xe, xf, xg, xh⟩ := s
  go_enter Try.func71, Try.ntmps71
  go_wp2_with (first | (refine wpList_allocN rfl rfl run_alloc8 (w.heap.size + 1) (by simp) ?_))
  have hr1 : RowIs ((w.alloc (.cells #[.int .u32 xa, .int .u32 xb, .int .u32 xc, .int .u32 xd, .int .u32 xe, .int .u32 xf, .int .u32 xg, .int .u32 xh] 88)).alloc (.cells (cells32 z8).toArray 88)) w.heap.size 88 (cells32 [xa, xb, xc, xd, xe, xf, xg, xh]) := (RowIs.new w _ (cells32 [xa, xb, xc, xd, xe, xf, xg, xh])).alloc _
  have hr2 : RowIs ((w.alloc (.cells #[.int .u32 xa, .int .u32 xb, .int .u32 xc, .int .u32 xd, .int .u32 xe, .int .u32 xf, .int .u32 xg, .int .u32 xh] 88)).alloc (.cells (cells32 z8).toArray 88)) (w.heap.size + 1) 88 (cells32 z8) := by
    have := RowIs.new (w.alloc (.cells #[.int .u32 xa, .int .u32 xb, .int .u32 xc, .int .u32 xd, .int .u32 xe, .int .u32 xf, .int .u32 xg, .int .u32 xh] 88)) 88 (cells32 z8)
    simpa using this
  have hb2 : Below w.heap.size w ((w.alloc (.cells #[.int .u32 xa, .int .u32 xb, .int .u32 xc, .int .u32 xd, .int .u32 xe, .int .u32 xf, .int .u32 xg, .int .u32 xh] 88)).alloc (.cells (cells32 z8).toArray 88)) := ((Below.refl _ _).alloc (Nat.le_refl _) _).alloc (by simp) _
  generalize (w.alloc (.cells #[.int .u32 xa, .int .u32 xb, .int .u32 xc, .int .u32 xd, .int .u32 xe, .int .u32 xf, .int .u32 xg, .int .u32 xh] 88)).alloc (.cells (cells32 z8).toArray 88) = w2 at *
  have c0 : w2.cell? ⟨w.heap.size, 0, none⟩ = some (.int .u32 xa) := hr1.cellAt rfl
  have c1 : w2.cell? ⟨w.heap.size, 1, none⟩ = some (.int .u32 xb) := hr1.cellAt rfl
  have c2 : w2.cell? ⟨w.heap.size, 2, none⟩ = some (.int .u32 xc) := hr1.cellAt rfl
  have c3 : w2.cell? ⟨w.heap.size, 3, none⟩ = some (.int .u32 xd) := hr1.cellAt rfl
  have c4 : w2.cell? ⟨w.heap.size, 4, none⟩ = some (.int .u32 xe) := hr1.cellAt rfl
  have c5 : w2.cell? ⟨w.heap.size, 5, none⟩ = some (.int .u32 xf) := hr1.cellAt rfl
  have c6 : w2.cell? ⟨w.heap.size, 6, none⟩ = some (.int .u32 xg) := hr1.cellAt rfl
  have c7 : w2.cell? ⟨w.heap.size, 7, none⟩ = some (.int .u32 xh) := hr1.cellAt rfl
  go_region_held3 (fun w' => w'.cell? ⟨w.heap.size, 0, none⟩ = some (.int .u32 xa) ∧ w'.cell? ⟨w.heap.size, 1, none⟩ = some (.int .u32 xb) ∧ w'.cell? ⟨w.heap.size, 2, none⟩ = some (.int .u32 xc) ∧ w'.cell? ⟨w.heap.size, 3, none⟩ = some (.int .u32 xd) ∧ w'.cell? ⟨w.heap.size, 4, none⟩ = some (.int .u32 xe) ∧ w'.cell? ⟨w.heap.size, 5, none⟩ = some (.int .u32 xf) ∧ w'.cell? ⟨w.heap.size, 6, none⟩ = some (.int .u32 xg) ∧ w'.cell? ⟨w.heap.size, 7, none⟩ = some (.int .u32 xh)) (go_keep) (fail)
  go_wp2
  clear c0 c1 c2 c3 c4 c5 c6 c7
  go_loopw [7, 8, 9, 10, 11, 12, 13, 14, 36] (fun va vb vc vd ve vf vg vh i wr => ∃ (t : Nat) (a b c d e f g hh : Int), t ≤ 64 ∧ i = .int .i64 t ∧ va = .int .u32 a ∧ vb = .int .u32 b ∧ vc = .int .u32 c ∧ vd = .int .u32 d ∧ ve = .int .u32 e ∧ vf = .int .u32 f ∧ vg = .int .u32 g ∧ vh = .int .u32 hh ∧ Hid (rnds ks ws t ⟨xa, xb, xc, xd, xe, xf, xg, xh⟩ = ⟨a, b, c, d, e, f, g, hh⟩) ∧ RowIs wr w.heap.size 88 (cells32 [xa, xb, xc, xd, xe, xf, xg, xh]) ∧ RowIs wr (w.heap.size + 1) 88 (cells32 z8) ∧ Below w.heap.size w wr) (fun _ _ _ _ _ _ _ _ i _ => 64 - (intOf i).toNat)
  case atStart => exact ⟨0, _, _, _, _, _, _, _, _, by omega, rfl, rfl, rfl, rfl, rfl, rfl, rfl, rfl, rfl, rfl, hr1.drew, hr2.drew, hb2.drew⟩
  case round =>
    clear hr1 hr2 hb2
    obtain ⟨t, a, b, c, d, e, f, g, hh, ht, rfl, rfl, rfl, rfl, rfl, rfl, rfl, rfl, rfl, HR, hr1, hr2, hbel⟩ := hrel
    by_cases hlt : t < 64
    · have hok : (⟨a, b, c, d, e, f, g, hh⟩ : S8).ok := by rw [← HR.out]; exact rnds_ok _ _ _ hs
      obtain ⟨wa, wb, wc, wd, we, wf, wg, wh⟩ := hok
      simp only at wa wb wc wd we wf wg wh
      have hck : wr.cell? ⟨bk, ok + t, none⟩ = some (.int .u32 (ks.getD t 0)) := range_below hk hbel bk1 t _ (cells32_at ks t (by omega))
      have hcw : wr.cell? ⟨bw, ow + t, none⟩ = some (.int .u32 (ws.getD t 0)) := range_below hw hbel bw1 t _ (cells32_at ws t (by omega))
      have e1 := band_eq we wf
      have e2 : bits BinOp.xor IntKind.u32 IntKind.u32.max e = 4294967295 - e := bnot_eq we
      have e3 := band_eq (not_w we) wg
      have e4 : bits BinOp.xor IntKind.u32 (andI e f) (andI (4294967295 - e) g) = chI e f g := bxor_eq (andI_w we) (andI_w (not_w we))
      have e5 := band_eq wa wb
      have e6 := band_eq wa wc
      have e7 := band_eq wb wc
      have e8 := bxor_eq (andI_w (b := b) wa) (andI_w (b := c) wa)
      have e9 : bits BinOp.xor IntKind.u32 (xorI (andI a b) (andI a c)) (andI b c) = majI a b c := bxor_eq (xorI_w (andI_w wa) (andI_w wa)) (andI_w wb)
      have t0 : (0 : Int) ≤ (t : Int) := by omega
      have t64 : (t : Int) < 64 := by omega
      have HS : Hid (rnds ks ws (t + 1) ⟨xa, xb, xc, xd, xe, xf, xg, xh⟩ = rnd (ks.getD t 0) (ws.getD t 0) ⟨a, b, c, d, e, f, g, hh⟩) := by
        show rnd _ _ _ = _; rw [HR.out]
      generalize ks.getD t 0 = kt at *
      generalize ws.getD t 0 = wt at *
      go_wp2_with fail
      go_region_held3 (fun w' => w'.cell? ⟨bk, ok + t, none⟩ = some (.int .u32 kt) ∧ w'.cell? ⟨bw, ow + t, none⟩ = some (.int .u32 wt)) (go_keep) (first | (go_at_call 80; refine (dig_bigSigma1 _ _ we).mono ?_; rintro e w' ⟨rfl, rfl⟩))
      go_wp2_with (first | (go_at_call 81; refine (dig_bigSigma0 _ _ wa).mono ?_; rintro e w' ⟨rfl, rfl⟩))
      go_roundw
      case rel =>
        refine ⟨t + 1, _, _, _, _, _, _, _, _, by omega, by go_num, rfl, rfl, rfl, rfl, rfl, rfl, rfl, rfl, ?_, hr1.drew, hr2.drew, hbel.drew⟩
        rw [Hid, HS.out]
        rfl
      case measure => simp [intOf]; omega
    · have ht64 : t = 64 := by omega
      have HF : Hid (rnds ks ws 64 ⟨xa, xb, xc, xd, xe, xf, xg, xh⟩ = ⟨a, b, c, d, e, f, g, hh⟩) := by rw [← ht64]; exact HR
      clear HR ht64 ht
      obtain ⟨pl, hpl⟩ : ∃ pl : List Int, pl = (S8.plus ⟨xa, xb, xc, xd, xe, xf, xg, xh⟩ ⟨a, b, c, d, e, f, g, hh⟩).list := ⟨_, rfl⟩
      have HPL : Hid (pl = (S8.plus ⟨xa, xb, xc, xd, xe, xf, xg, xh⟩ ⟨a, b, c, d, e, f, g, hh⟩).list) := hpl
      have hpn : pl.length = 8 := by rw [hpl]; rfl
      have HP : ∀ j, j < 8 → Hid (pl.getD j 0 = (([xa, xb, xc, xd, xe, xf, xg, xh] : List Int).getD j 0 + ([a, b, c, d, e, f, g, hh] : List Int).getD j 0) % 4294967296) := by
        intro j hj
        subst hpl
        match j, hj with
        | 0, _ => rfl
        | 1, _ => rfl
        | 2, _ => rfl
        | 3, _ => rfl
        | 4, _ => rfl
        | 5, _ => rfl
        | 6, _ => rfl
        | 7, _ => rfl
      have hA := at8 a b c d e f g hh
      have hr1' : RowIs wr w.heap.size 88 (cells32 (pl.take 0 ++ ([xa, xb, xc, xd, xe, xf, xg, xh] : List Int).drop 0)) := hr1
      clear hpl hr1
      obtain ⟨ol, hol⟩ : ∃ ol : List Int, ol = [xa, xb, xc, xd, xe, xf, xg, xh] := ⟨_, rfl⟩
      obtain ⟨nl, hnl⟩ : ∃ nl : List Int, nl = [a, b, c, d, e, f, g, hh] := ⟨_, rfl⟩
      have hon : ol.length = 8 := by rw [hol]; rfl
      rw [← hol] at HP hr1'
      rw [← hnl] at HP hA
      clear hol hnl
      have HA : Hid (∀ j : Nat, j < 8 → ∀ w : World, (Instr.index 88 (.agg #[.int .u32 a, .int .u32 b, .int .u32 c, .int .u32 d, .int .u32 e, .int .u32 f, .int .u32 g, .int .u32 hh]) (.int .i64 (j : Int))).run Try.prog w = .ok (.int .u32 (nl.getD j 0)) w) := hA
      have HPH : Hid (∀ j, j < 8 → Hid (pl.getD j 0 = (ol.getD j 0 + nl.getD j 0) % 4294967296)) := HP
      clear hA HP
      go_wp2
      go_loopw [100] (fun i wr => ∃ j : Nat, j ≤ 8 ∧ i = .int .i64 j ∧ RowIs wr w.heap.size 88 (cells32 (pl.take j ++ ol.drop j)) ∧ RowIs wr (w.heap.size + 1) 88 (cells32 z8) ∧ Below w.heap.size w wr) (fun i _ => 8 - (intOf i).toNat)
      case atStart => exact ⟨0, by omega, rfl, hr1', hr2, hbel⟩
      case round =>
        clear hr1' hr2 hbel
        obtain ⟨j, hj, rfl, hr1, hr2, hbel⟩ := hrel
        by_cases hj8 : j < 8
        · have hix := HA.out j hj8
          have hc := hr1.cellAt (cells32_at _ j (by rw [mix_len pl ol j (by omega) (by omega)]; omega))
          rw [mix_at pl ol j (by omega) (by omega)] at hc
          have hfz := hr1.frozen j
          have HV : Hid (RowIs (wr.setCell ⟨w.heap.size, j, none⟩ (.int .u32 ((ol.getD j 0 + nl.getD j 0) % 4294967296))) w.heap.size 88 (cells32 (pl.take (j + 1) ++ ol.drop (j + 1)))) := by
            have := hr1.set j (.int .u32 ((ol.getD j 0 + nl.getD j 0) % 4294967296))
            rw [show (cells32 (pl.take j ++ ol.drop j)).set j (.int .u32 ((ol.getD j 0 + nl.getD j 0) % 4294967296)) = cells32 (pl.take (j + 1) ++ ol.drop (j + 1)) from by
              simp only [cells32, ← List.map_set]
              rw [mix_set pl ol j _ (by omega) (by omega) (HPH.out j hj8).out]] at this
            exact this
          have j0 : (0 : Int) ≤ (j : Int) := by omega
          have j8 : (j : Int) < 8 := by omega
          generalize ol.getD j 0 = oj at *
          generalize nl.getD j 0 = nj at *
          go_wp2
          go_roundw
          case rel => exact ⟨j + 1, by omega, by go_num, HV.out, hr2.setOther (by simp) _, hbel.setCell (by simp) _⟩
          case measure => simp [intOf]; omega
        · have hfull : cells32 (pl.take j ++ ol.drop j) = cells32 pl := by
            rw [List.take_of_length_le (by omega), List.drop_of_length_le (by omega), List.append_nil]
          rw [hfull] at hr1
          have hlen : (cells32 pl).length = 8 := by rw [cells32_len, hpn]
          have hone := all_oneCell_toArray (cells32_one pl)
          clear hfull
          have HCS : Hid (cells32 pl = cells32 (S8.plus ⟨xa, xb, xc, xd, xe, xf, xg, xh⟩ (rnds ks ws 64 ⟨xa, xb, xc, xd, xe, xf, xg, xh⟩)).list) := by rw [HF.out, ← HPL.out]; rfl
          generalize cells32 pl = cs at *
          go_wp2_with (first | (refine wpList_load_mid rfl 88 _ rfl w.heap.size 0 rfl cs _ (hr1.range (by rw [List.drop_zero, List.take_length])) Try.underlying88 rfl (by rw [size8, hlen]) ?_) | (refine wpList_store_mid rfl 88 _ _ rfl (w.heap.size + 1) 0 cs.toArray rfl rfl (hr2.there (by simp [hlen, cells32_len, z8_len])) (by rw [size8]; simp [hlen]) hone ?_))
          refine bodyPost_ret (v := .agg cs.toArray) (results_row rfl _ _ (w.heap.size + 1) cs _ (by simp [Act.put]) ?_ Try.underlying88 rfl (by rw [size8, hlen])) rfl ⟨by rw [HCS.out], bel_setCells hbel (by omega) _ _⟩
          exact World.rangeAt_setCells_same _ _ _ _ (hr2.there (by simp [hlen, cells32_len, z8_len]))

end Go.Proofs.Ytlhlpcfjoccgcaa
